/-
  Letters are put, tossed, got and told.
  Conditions: those that each lemma names.
-/
import Derived.Test.YtcbaaeihppchiaaPD
namespace Go.Proofs.Ytcbaaeihppchiaa.PE
set_option maxRecDepth 100000
open Go Go.RowKit Go.Lib Go.Proofs.Ytcbaaeihppchiaa Go.Proofs.Ytcbaaeihppchiaa.Facts Go.Proofs.Ytcbaaeihppchiaa.Ints Go.Proofs.Ytcbaaeihppchiaa.PA Go.Proofs.Ytcbaaeihppchiaa.PB Go.Proofs.Ytcbaaeihppchiaa.Chars Go.Proofs.Ytcbaaeihppchiaa.PD Go.Proofs.Ytcbaaeihppchiaa.Bytes


/-- What comes of putting. -/
def putP (l : List Ml) (m : Ml) : List Ml × Int × Int :=
  if okMs l = false then ([], 0, 1) else if numM m = false then ([], 0, 1) else if Chars.text m.text.data.toList = false then ([], 0, 2) else ((if mlfree l = -1 then [] else l.set (mlfree l).toNat { m with used := true }), (if mlfree l = -1 then 0 else mlfree l), (if mlfree l = -1 then 8 else 0))
def Ans3 (r : List Ml × Int × Int) (w : World) (e : Ending) (w' : World) : Prop := ∃ v', e = .returned (.tuple #[v', .int .i64 r.2.1, .int .i64 r.2.2]) ∧ Mls w' v' r.1 ∧ Grew w w'
def Ans2 (r : List Ml × Int) (w : World) (e : Ending) (w' : World) : Prop := ∃ v', e = .returned (.tuple #[v', .int .i64 r.2]) ∧ Mls w' v' r.1 ∧ Grew w w'
def TupM (ki er : Int) (R : List Ml) (v : Value) (w : World) : Prop := ∃ v', v = .tuple #[v', .int .i64 ki, .int .i64 er] ∧ Mls w v' R
def PtrM (l : List Ml) (v : Value) (w : World) : Prop := ∃ r, v = .pointer (some ⟨r, 0, none⟩) ∧ RowM w r l
theorem frz {W : World} {B t k : Nat} {xs : Array Value} (h : W.heap[B]? = some (.cells xs t (0, 0))) : W.frozen? ⟨B, k, none⟩ = false := by
  unfold World.frozen?
  simp [h]
theorem numM_used (m : Ml) (b : Bool) : numM { m with used := b } = numM m := rfl
set_option maxHeartbeats 2000000 in
theorem put_any (v : Value) (l : List Ml) (m : Ml) (w : World) (h : Mls w v l) (hz : SzM l) (hl : l.length * 48 ≤ 140737488355328) (hs : m.text.size ≤ 9223372036854775807) :
    Calls Try.prog 7 #[v, mlv m] w (Ans3 (putP l m) w) := by
  have HR := Lib.hid (fun W (hg : Grew w W) => mails_any v l W (h.grew hg) hz)
  have HNM := Lib.hid (fun W => numM_any m W)
  have HT := Lib.hid (fun W => Chars.text_any m.text hs W)
  have HROW := Lib.hid (fun W (hg : Grew w W) => ml_row W v l (h.grew hg) hl)
  have HADD := Lib.hid (fun W r (hr : RowM W r l) => ml_add W r l { m with used := true } hr hl)
  unfold putP
  generalize (if mlfree l = -1 then ([] : List Ml) else l.set (mlfree l).toNat { m with used := true }) = R at *
  generalize (if mlfree l = -1 then (0 : Int) else mlfree l) = ki at *
  generalize (if mlfree l = -1 then (8 : Int) else 0) = er at *
  generalize okMs l = p at *
  generalize numM m = q at *
  generalize Chars.text m.text.data.toList = t at *
  obtain ⟨u0, lab, frm, to, s⟩ := m
  unfold mlv at *
  simp only at HADD HNM HT ⊢
  have G0 : Hid (Grew w (w.alloc (.cells #[.bool u0, .int .i64 lab, .int .i64 frm, .int .i64 to, .string s] 23))) := Lib.hid (by unfold Grew; go_grown)
  have B0 := Lib.hid (blk_new w (.cells #[.bool u0, .int .i64 lab, .int .i64 frm, .int .i64 to, .string s] 23))
  obtain ⟨A, cp, rfl, _⟩ := h.slice
  clear h hz hl hs
  cases p with
  | false =>
    simp only [if_true]
    go_enter Try.func7, Try.ntmps7
    go_wp2_with fail
    refine (HR.out _ G0.out).mono ?_
    rintro e w1 ⟨rfl, hg⟩
    have G1 := Lib.hid (G0.out.trans hg)
    clear hg
    go_wp2
    go_returns
    exact ⟨_, rfl, rw_none _, G1.out⟩
  | true =>
    simp only [Bool.true_eq_false, if_false]
    cases q with
    | false =>
      simp only [if_true]
      go_enter Try.func7, Try.ntmps7
      go_wp2_with fail
      refine (HR.out _ G0.out).mono ?_
      rintro e w1 ⟨rfl, hg⟩
      have G1 := Lib.hid (G0.out.trans hg)
      have B1 := Lib.hid (keepB B0.out hg)
      clear hg
      obtain ⟨c0, c1, c2, c3, c4⟩ := five_c B1.out
      go_wp2_with fail
      refine (HNM.out _).mono ?_
      rintro e w2 ⟨rfl, hg⟩
      have G2 := Lib.hid (G1.out.trans hg)
      clear hg c0 c1 c2 c3 c4
      go_wp2
      go_returns
      exact ⟨_, rfl, rw_none _, G2.out⟩
    | true =>
      simp only [Bool.true_eq_false, if_false]
      cases t with
      | false =>
        simp only [if_true]
        go_enter Try.func7, Try.ntmps7
        go_wp2_with fail
        refine (HR.out _ G0.out).mono ?_
        rintro e w1 ⟨rfl, hg⟩
        have G1 := Lib.hid (G0.out.trans hg)
        have B1 := Lib.hid (keepB B0.out hg)
        clear hg
        obtain ⟨c0, c1, c2, c3, c4⟩ := five_c B1.out
        go_wp2_with fail
        refine (HNM.out _).mono ?_
        rintro e w2 ⟨rfl, hg⟩
        have G2 := Lib.hid (G1.out.trans hg)
        have B2 := Lib.hid (keepB B1.out hg)
        clear hg c0 c1 c2 c3 c4
        obtain ⟨c0, c1, c2, c3, c4⟩ := five_c B2.out
        go_wp2_with fail
        refine (HT.out _).mono ?_
        rintro e w3 ⟨rfl, hw⟩
        subst hw
        clear c0 c1 c2 c3 c4
        go_wp2
        go_returns
        exact ⟨_, rfl, rw_none _, G2.out⟩
      | true =>
        simp only [Bool.true_eq_false, if_false]
        go_enter Try.func7, Try.ntmps7
        go_wp2_with fail
        refine (HR.out _ G0.out).mono ?_
        rintro e w1 ⟨rfl, hg⟩
        have G1 := Lib.hid (G0.out.trans hg)
        have B1 := Lib.hid (keepB B0.out hg)
        clear hg
        obtain ⟨c0, c1, c2, c3, c4⟩ := five_c B1.out
        go_wp2_with fail
        refine (HNM.out _).mono ?_
        rintro e w2 ⟨rfl, hg⟩
        have G2 := Lib.hid (G1.out.trans hg)
        have B2 := Lib.hid (keepB B1.out hg)
        clear hg c0 c1 c2 c3 c4
        obtain ⟨c0, c1, c2, c3, c4⟩ := five_c B2.out
        go_wp2_with fail
        refine (HT.out _).mono ?_
        rintro e w3 ⟨rfl, hw⟩
        subst hw
        have f0 := frz (k := 0) B2.out
        have G4 : Hid (Grew w (w3.setCell ⟨w.heap.size, 0, none⟩ (.bool true))) := Lib.hid (Below.setCell G2.out (Nat.le_refl _) _)
        have E0 : Hid ((w3.setCell ⟨w.heap.size, 0, none⟩ (.bool true)).cell? ⟨w.heap.size, 0, none⟩ = some (.bool true)) := Lib.hid (World.cell?_setCell_same _ _ _ c0)
        have E1 : Hid ((w3.setCell ⟨w.heap.size, 0, none⟩ (.bool true)).cell? ⟨w.heap.size, 1, none⟩ = some (.int .i64 lab)) := Lib.hid (by rw [World.cell?_setCell_other]; exact c1; simp)
        have E2 : Hid ((w3.setCell ⟨w.heap.size, 0, none⟩ (.bool true)).cell? ⟨w.heap.size, 2, none⟩ = some (.int .i64 frm)) := Lib.hid (by rw [World.cell?_setCell_other]; exact c2; simp)
        have E3 : Hid ((w3.setCell ⟨w.heap.size, 0, none⟩ (.bool true)).cell? ⟨w.heap.size, 3, none⟩ = some (.int .i64 to)) := Lib.hid (by rw [World.cell?_setCell_other]; exact c3; simp)
        have E4 : Hid ((w3.setCell ⟨w.heap.size, 0, none⟩ (.bool true)).cell? ⟨w.heap.size, 4, none⟩ = some (.string s)) := Lib.hid (by rw [World.cell?_setCell_other]; exact c4; simp)
        go_wp2
        clear c0 c1 c2 c3 c4 f0
        refine Facts.wp_region_text (by kernel_rfl) (by kernel_rfl) ?_
        apply Facts.Lex.exact [] _ (by kernel_rfl)
        · intro u W hC hK
          clear hK
          unfold Facts.one
          go_simp
          first | exact ⟨Grew.refl _, rfl⟩ | rfl
        simp only [Act.put, List.setIfInBounds_toArray, List.set_cons_zero, List.set_cons_succ, Nat.zero_add, Nat.reduceAdd]
        refine Facts.Lex.know [] (PtrM l) (by kernel_rfl) (fun _ _ _ ⟨r, e, h⟩ hg => ⟨r, e, h.grew hg⟩) ?_ ?_
        · intro u W hC hK
          have HC9 := Lib.hid (HROW.out W (G4.out.trans hC))
          clear hK
          unfold Facts.one
          go_simp
          refine HC9.out.mono ?_
          rintro e w' ⟨r, rfl, hr, hg⟩
          exact ⟨_, rfl, hg, ⟨r, rfl, hr⟩⟩
        simp only [Act.put, List.setIfInBounds_toArray, List.set_cons_zero, List.set_cons_succ, Nat.zero_add, Nat.reduceAdd]
        apply Facts.Lex.exact [] (.agg #[.bool true, .int .i64 lab, .int .i64 frm, .int .i64 to, .string s]) (by kernel_rfl)
        · intro u W hC hK
          clear hK
          have j0 := cellG hC E0.out
          have j1 := cellG hC E1.out
          have j2 := cellG hC E2.out
          have j3 := cellG hC E3.out
          have j4 := cellG hC E4.out
          unfold Facts.one
          go_simp
          first | exact ⟨Grew.refl _, rfl⟩ | rfl
        simp only [Act.put, List.setIfInBounds_toArray, List.set_cons_zero, List.set_cons_succ, Nat.zero_add, Nat.reduceAdd]
        refine Facts.Lex.know [1] (TupM ki er R) (by kernel_rfl) (fun _ _ _ ⟨r, e, h⟩ hg => ⟨r, e, h.grew hg⟩) ?_ ?_
        · intro u W hC hK
          obtain ⟨r, hr, hrow⟩ : PtrM l (u 1) W := hK.1
          have HC9 := Lib.hid (HADD.out W r hrow)
          clear hK hrow
          unfold Facts.one
          go_simp
          try simp only [hr]
          refine HC9.out.mono ?_
          rintro e w' ⟨v', rfl, hi, hg⟩
          exact ⟨_, rfl, hg, ⟨v', rfl, hi⟩⟩
        simp only [Act.put, List.setIfInBounds_toArray, List.set_cons_zero, List.set_cons_succ, Nat.zero_add, Nat.reduceAdd]
        refine Facts.Lex.know [3] (fun v w => Mls w v R) (by kernel_rfl) (fun _ _ _ h hg => h.grew hg) ?_ ?_
        · intro u W hC hK
          obtain ⟨v', hv', hi⟩ : TupM ki er R (u 3) W := hK.1
          have HI := Lib.hid hi
          clear hK hi
          unfold Facts.one
          simp only [hv']
          go_simp
          exact ⟨Grew.refl _, HI.out⟩
        simp only [Act.put, List.setIfInBounds_toArray, List.set_cons_zero, List.set_cons_succ, Nat.zero_add, Nat.reduceAdd]
        apply Facts.Lex.exact [3] (.int .i64 ki) (by kernel_rfl)
        · intro u W hC hK
          obtain ⟨v', hv', hi⟩ : TupM ki er R (u 3) W := hK.1
          have HI := Lib.hid hi
          clear hK hi
          unfold Facts.one
          simp only [hv']
          go_simp
          first | exact ⟨Grew.refl _, rfl⟩ | rfl
        simp only [Act.put, List.setIfInBounds_toArray, List.set_cons_zero, List.set_cons_succ, Nat.zero_add, Nat.reduceAdd]
        apply Facts.Lex.exact [3] (.int .i64 er) (by kernel_rfl)
        · intro u W hC hK
          obtain ⟨v', hv', hi⟩ : TupM ki er R (u 3) W := hK.1
          have HI := Lib.hid hi
          clear hK hi
          unfold Facts.one
          simp only [hv']
          go_simp
          first | exact ⟨Grew.refl _, rfl⟩ | rfl
        simp only [Act.put, List.setIfInBounds_toArray, List.set_cons_zero, List.set_cons_succ, Nat.zero_add, Nat.reduceAdd]
        refine Facts.Lex.know [4] (fun v w => Mls w v R) (by kernel_rfl) (fun _ _ _ h hg => h.grew hg) ?_ ?_
        · intro u W hC hK
          have HY : Hid (Mls W (u 4) R) := Lib.hid hK.1
          clear hK
          unfold Facts.one
          go_simp
          exact ⟨Grew.refl _, HY.out⟩
        simp only [Act.put, List.setIfInBounds_toArray, List.set_cons_zero, List.set_cons_succ, Nat.zero_add, Nat.reduceAdd]
        apply Facts.Lex.exact [] _ (by kernel_rfl)
        · intro u W hC hK
          clear hK
          unfold Facts.one
          go_simp
          first | exact ⟨Grew.refl _, rfl⟩ | rfl
        simp only [Act.put, List.setIfInBounds_toArray, List.set_cons_zero, List.set_cons_succ, Nat.zero_add, Nat.reduceAdd]
        apply Facts.Lex.exact [] _ (by kernel_rfl)
        · intro u W hC hK
          clear hK
          unfold Facts.one
          go_simp
          first | exact ⟨Grew.refl _, rfl⟩ | rfl
        simp only [Act.put, List.setIfInBounds_toArray, List.set_cons_zero, List.set_cons_succ, Nat.zero_add, Nat.reduceAdd]
        refine Facts.Lex.done fun u W2 hC hL => ?_
        have HY : Hid (Mls W2 (u 7) R) := Lib.hid (hL _ (List.mem_cons_self ..))
        have G5 := Lib.hid (G4.out.trans hC)
        clear hC hL
        generalize u 7 = v7 at *
        go_wp2
        go_returns
        exact ⟨_, rfl, HY.out, G5.out⟩

/-- What comes of tossing. -/
def tossP (l : List Ml) (i n : Int) : List Ml × Int :=
  if okMs l = false then ([], 1) else if hasG zml (fun x : Ml => x.used && decide (x.to = n)) l i = false then ([], 3) else (l.set i.toNat zml, 0)
theorem toss_any (v : Value) (l : List Ml) (i n : Int) (w : World) (h : Mls w v l) (hz : SzM l) (hl : l.length * 48 ≤ 140737488355328) :
    Calls Try.prog 9 #[v, .int .i64 i, .int .i64 n] w (Ans2 (tossP l i n) w) := by
  have HR := Lib.hid (mails_any v l w h hz)
  have HROWT := Lib.hid (fun W (hg : Grew w W) => mlt_row W v n l (h.grew hg) hl)
  have HHAS := Lib.hid (fun W b C (hr : RowMt W b C n l) => mlt_has W b C n l i hr)
  have HROW := Lib.hid (fun W (hg : Grew w W) => ml_row W v l (h.grew hg) hl)
  have HPUT := Lib.hid (fun W b k (hr : RowM W b l) hk => ml_put W b l k zml hr hk hl)
  unfold mlv zml at HPUT
  simp only at HPUT
  unfold tossP
  have HK : Hid (hasG zml (fun x : Ml => x.used && decide (x.to = n)) l i = true → ∃ k : Nat, i = k ∧ k < l.length) := Lib.hid fun h => by
    unfold hasG at h
    simp only [Bool.and_eq_true, decide_eq_true_iff] at h
    exact ⟨i.toNat, by omega, by omega⟩
  generalize okMs l = p at *
  generalize hasG zml (fun x : Ml => x.used && decide (x.to = n)) l i = q at *
  obtain ⟨A, cp, rfl, _⟩ := h.slice
  clear h hz hl
  cases p with
  | false =>
    simp only [if_true]
    go_enter Try.func9, Try.ntmps9
    go_wp2_with fail
    refine HR.out.mono ?_
    rintro e w1 ⟨rfl, hg⟩
    have G1 := Lib.hid hg
    clear hg
    go_wp2
    go_returns
    exact ⟨_, rfl, rw_none _, G1.out⟩
  | true =>
    simp only [Bool.true_eq_false, if_false]
    cases q with
    | false =>
      simp only [if_true]
      go_enter Try.func9, Try.ntmps9
      go_wp2_with fail
      refine HR.out.mono ?_
      rintro e w1 ⟨rfl, hg⟩
      have G1 := Lib.hid hg
      clear hg
      go_wp2_with fail
      refine (HROWT.out _ G1.out).mono ?_
      rintro e w2 ⟨b, C, rfl, hr, hg⟩
      have G2 := Lib.hid (G1.out.trans hg)
      have HH := Lib.hid (HHAS.out _ _ _ hr)
      clear hr hg
      go_wp2_with fail
      refine HH.out.mono ?_
      rintro e w3 ⟨rfl, hg⟩
      have G3 := Lib.hid (G2.out.trans hg)
      clear hg
      go_wp2
      go_returns
      exact ⟨_, rfl, rw_none _, G3.out⟩
    | true =>
      simp only [Bool.true_eq_false, if_false]
      obtain ⟨k, rfl, hk⟩ := HK.out rfl
      rw [Int.toNat_natCast]
      have HKL := Lib.hid hk
      clear hk HK
      generalize hR : l.set k zml = R at *
      have HPK := Lib.hid (fun W b (hr : RowM W b l) => HPUT.out W b k hr HKL.out)
      have hRR : l.set k ⟨false, 0, 0, 0, ⟨#[]⟩⟩ = R := hR
      rw [hRR] at HPK
      clear hR hRR HPUT
      go_enter Try.func9, Try.ntmps9
      go_wp2_with fail
      refine HR.out.mono ?_
      rintro e w1 ⟨rfl, hg⟩
      have G1 := Lib.hid hg
      clear hg
      go_wp2_with fail
      refine (HROWT.out _ G1.out).mono ?_
      rintro e w2 ⟨b, C, rfl, hr, hg⟩
      have G2 := Lib.hid (G1.out.trans hg)
      have HH := Lib.hid (HHAS.out _ _ _ hr)
      clear hr hg
      go_wp2_with fail
      refine HH.out.mono ?_
      rintro e w3 ⟨rfl, hg⟩
      have G3 := Lib.hid (G2.out.trans hg)
      clear hg
      go_wp2_with fail
      refine (HROW.out _ G3.out).mono ?_
      rintro e w4 ⟨b2, rfl, hr, hg⟩
      have G4 := Lib.hid (G3.out.trans hg)
      have HP := Lib.hid (HPK.out _ _ hr)
      clear hr hg
      go_wp2_with fail
      refine HP.out.mono ?_
      rintro e w5 ⟨v', rfl, hi, hg⟩
      have G5 := Lib.hid (G4.out.trans hg)
      have HI := Lib.hid hi
      obtain ⟨A2, c2, rfl, _⟩ := hi.slice
      clear hi hg
      go_wp2
      go_returns
      exact ⟨_, rfl, HI.out, G5.out⟩
/-- What Get answers. -/
def getP (l : List Ml) (i n : Int) : Ml × Int := if hasG zml (fun x : Ml => x.used && decide (x.to = n)) l i = false then (zml, 3) else (em l i.toNat, 0)
theorem get_any (v : Value) (l : List Ml) (i n : Int) (w : World) (h : Mls w v l) (hl : l.length * 48 ≤ 140737488355328) :
    Calls Try.prog 11 #[v, .int .i64 i, .int .i64 n] w fun e w' => e = .returned (.tuple #[mlv (getP l i n).1, .int .i64 (getP l i n).2]) ∧ Grew w w' := by
  have HL := Lib.hid h
  have HROWT := Lib.hid (fun W (hg : Grew w W) => mlt_row W v n l (h.grew hg) hl)
  have HHAS := Lib.hid (fun W b C (hr : RowMt W b C n l) => mlt_has W b C n l i hr)
  unfold getP
  have HK : Hid (hasG zml (fun x : Ml => x.used && decide (x.to = n)) l i = true → ∃ k : Nat, i = k ∧ k < l.length) := Lib.hid fun h => by
    unfold hasG at h
    simp only [Bool.and_eq_true, decide_eq_true_iff] at h
    exact ⟨i.toNat, by omega, by omega⟩
  generalize hasG zml (fun x : Ml => x.used && decide (x.to = n)) l i = q at *
  obtain ⟨A, cp, rfl, _⟩ := h.slice
  have g0 : Grew w (w.alloc (.cells #[.bool false, .int .i64 0, .int .i64 0, .int .i64 0, .string ⟨#[]⟩] 23)) := by unfold Grew; go_grown
  have G0 := Lib.hid g0
  have B0 := Lib.hid (blk_new w (.cells #[.bool false, .int .i64 0, .int .i64 0, .int .i64 0, .string ⟨#[]⟩] 23))
  clear h hl g0
  cases q with
  | false =>
    simp only [if_true]
    unfold mlv zml
    simp only
    go_enter Try.func11, Try.ntmps11
    go_wp2_with fail
    refine (HROWT.out _ G0.out).mono ?_
    rintro e w2 ⟨b, C, rfl, hr, hg⟩
    have G2 := Lib.hid (G0.out.trans hg)
    have B2 := Lib.hid (keepB B0.out hg)
    have HH := Lib.hid (HHAS.out _ _ _ hr)
    clear hr hg
    go_wp2_with fail
    refine HH.out.mono ?_
    rintro e w3 ⟨rfl, hg⟩
    have G3 := Lib.hid (G2.out.trans hg)
    have B3 := Lib.hid (keepB B2.out hg)
    clear hg
    obtain ⟨c0, c1, c2, c3, c4⟩ := five_c B3.out
    have f0 := frz (k := 0) B3.out
    have f1 := frz (k := 1) B3.out
    have f2 := frz (k := 2) B3.out
    have f3 := frz (k := 3) B3.out
    have f4 := frz (k := 4) B3.out
    have e0 : ∀ x0, ((w3.setCell ⟨w.heap.size, 0, none⟩ x0)).cell? ⟨w.heap.size, 0, none⟩ = some x0 := fun x0 => World.cell?_setCell_same _ _ _ c0
    have e1 : ∀ x0 x1, (((w3.setCell ⟨w.heap.size, 0, none⟩ x0).setCell ⟨w.heap.size, 1, none⟩ x1)).cell? ⟨w.heap.size, 1, none⟩ = some x1 := fun x0 x1 => World.cell?_setCell_same _ _ _ (by rw [World.cell?_setCell_other]; exact c1; all_goals simp)
    have e2 : ∀ x0 x1 x2, ((((w3.setCell ⟨w.heap.size, 0, none⟩ x0).setCell ⟨w.heap.size, 1, none⟩ x1).setCell ⟨w.heap.size, 2, none⟩ x2)).cell? ⟨w.heap.size, 2, none⟩ = some x2 := fun x0 x1 x2 => World.cell?_setCell_same _ _ _ (by rw [World.cell?_setCell_other, World.cell?_setCell_other]; exact c2; all_goals simp)
    have e3 : ∀ x0 x1 x2 x3, (((((w3.setCell ⟨w.heap.size, 0, none⟩ x0).setCell ⟨w.heap.size, 1, none⟩ x1).setCell ⟨w.heap.size, 2, none⟩ x2).setCell ⟨w.heap.size, 3, none⟩ x3)).cell? ⟨w.heap.size, 3, none⟩ = some x3 := fun x0 x1 x2 x3 => World.cell?_setCell_same _ _ _ (by rw [World.cell?_setCell_other, World.cell?_setCell_other, World.cell?_setCell_other]; exact c3; all_goals simp)
    have e4 : ∀ x0 x1 x2 x3 x4, ((((((w3.setCell ⟨w.heap.size, 0, none⟩ x0).setCell ⟨w.heap.size, 1, none⟩ x1).setCell ⟨w.heap.size, 2, none⟩ x2).setCell ⟨w.heap.size, 3, none⟩ x3).setCell ⟨w.heap.size, 4, none⟩ x4)).cell? ⟨w.heap.size, 4, none⟩ = some x4 := fun x0 x1 x2 x3 x4 => World.cell?_setCell_same _ _ _ (by rw [World.cell?_setCell_other, World.cell?_setCell_other, World.cell?_setCell_other, World.cell?_setCell_other]; exact c4; all_goals simp)
    go_wp2
    refine bodyPost_ret (by simp [results, Try.results11, go_sem, e0, e1, e2, e3, e4]; try rfl) rfl ?_
    exact ⟨by first | rfl | (simp; done), (Below.setCell (Below.setCell (Below.setCell (Below.setCell (Below.setCell G3.out (Nat.le_refl _) _) (Nat.le_refl _) _) (Nat.le_refl _) _) (Nat.le_refl _) _) (Nat.le_refl _) _)⟩
  | true =>
    simp only [Bool.true_eq_false, if_false]
    obtain ⟨k, rfl, hk⟩ := HK.out rfl
    rw [Int.toNat_natCast]
    have hkl : (k : Int) < (l.length : Int) := by omega
    have hk0 : ¬ (k : Int) < 0 := by omega
    have HX := Lib.hid (em_get hk)
    clear hk HK
    generalize em l k = x at *
    obtain ⟨u, lab, frm, to, s⟩ := x
    unfold mlv
    simp only
    go_enter Try.func11, Try.ntmps11
    go_wp2_with fail
    refine (HROWT.out _ G0.out).mono ?_
    rintro e w2 ⟨b, C, rfl, hr, hg⟩
    have G2 := Lib.hid (G0.out.trans hg)
    have B2 := Lib.hid (keepB B0.out hg)
    have HH := Lib.hid (HHAS.out _ _ _ hr)
    clear hr hg
    go_wp2_with fail
    refine HH.out.mono ?_
    rintro e w3 ⟨rfl, hg⟩
    have G3 := Lib.hid (G2.out.trans hg)
    have B3 := Lib.hid (keepB B2.out hg)
    clear hg
    obtain ⟨c0, c1, c2, c3, c4⟩ := five_c B3.out
    have f0 := frz (k := 0) B3.out
    have f1 := frz (k := 1) B3.out
    have f2 := frz (k := 2) B3.out
    have f3 := frz (k := 3) B3.out
    have f4 := frz (k := 4) B3.out
    have e0 : ∀ x0, ((w3.setCell ⟨w.heap.size, 0, none⟩ x0)).cell? ⟨w.heap.size, 0, none⟩ = some x0 := fun x0 => World.cell?_setCell_same _ _ _ c0
    have e1 : ∀ x0 x1, (((w3.setCell ⟨w.heap.size, 0, none⟩ x0).setCell ⟨w.heap.size, 1, none⟩ x1)).cell? ⟨w.heap.size, 1, none⟩ = some x1 := fun x0 x1 => World.cell?_setCell_same _ _ _ (by rw [World.cell?_setCell_other]; exact c1; all_goals simp)
    have e2 : ∀ x0 x1 x2, ((((w3.setCell ⟨w.heap.size, 0, none⟩ x0).setCell ⟨w.heap.size, 1, none⟩ x1).setCell ⟨w.heap.size, 2, none⟩ x2)).cell? ⟨w.heap.size, 2, none⟩ = some x2 := fun x0 x1 x2 => World.cell?_setCell_same _ _ _ (by rw [World.cell?_setCell_other, World.cell?_setCell_other]; exact c2; all_goals simp)
    have e3 : ∀ x0 x1 x2 x3, (((((w3.setCell ⟨w.heap.size, 0, none⟩ x0).setCell ⟨w.heap.size, 1, none⟩ x1).setCell ⟨w.heap.size, 2, none⟩ x2).setCell ⟨w.heap.size, 3, none⟩ x3)).cell? ⟨w.heap.size, 3, none⟩ = some x3 := fun x0 x1 x2 x3 => World.cell?_setCell_same _ _ _ (by rw [World.cell?_setCell_other, World.cell?_setCell_other, World.cell?_setCell_other]; exact c3; all_goals simp)
    have e4 : ∀ x0 x1 x2 x3 x4, ((((((w3.setCell ⟨w.heap.size, 0, none⟩ x0).setCell ⟨w.heap.size, 1, none⟩ x1).setCell ⟨w.heap.size, 2, none⟩ x2).setCell ⟨w.heap.size, 3, none⟩ x3).setCell ⟨w.heap.size, 4, none⟩ x4)).cell? ⟨w.heap.size, 4, none⟩ = some x4 := fun x0 x1 x2 x3 x4 => World.cell?_setCell_same _ _ _ (by rw [World.cell?_setCell_other, World.cell?_setCell_other, World.cell?_setCell_other, World.cell?_setCell_other]; exact c4; all_goals simp)
    obtain ⟨ad, c9, e, _, d0, d1, d2, d3, d4⟩ := Mls_at (HL.out.grew G3.out) HX.out
    injection e with e5 _ e6
    subst e5 e6
    go_wp2
    refine bodyPost_ret (by simp [results, Try.results11, go_sem, e0, e1, e2, e3, e4]; try rfl) rfl ?_
    exact ⟨by first | rfl | (simp; done), (Below.setCell (Below.setCell (Below.setCell (Below.setCell (Below.setCell G3.out (Nat.le_refl _) _) (Nat.le_refl _) _) (Nat.le_refl _) _) (Nat.le_refl _) _) (Nat.le_refl _) _)⟩
/-- The slots of the letters to somebody. -/
def ofP (l : List Ml) (n : Int) : List Int := uptoG zml (fun x : Ml => x.used && decide (x.to = n)) l l.length
theorem of_any (v : Value) (l : List Ml) (n : Int) (w : World) (h : Mls w v l) (hl : l.length * 48 ≤ 140737488355328) :
    Calls Try.prog 12 #[v, .int .i64 n] w fun e w' => ∃ v', e = .returned v' ∧ Is w' v' (ofP l n) ∧ Grew w w' := by
  have HROWT := Lib.hid (mlt_row w v n l h hl)
  have HSL := Lib.hid (fun W b C (hr : RowMt W b C n l) => mlt_slots W b C n l hr hl)
  unfold ofP
  generalize uptoG zml (fun x : Ml => x.used && decide (x.to = n)) l l.length = S at *
  obtain ⟨A, cp, rfl, _⟩ := h.slice
  clear h hl
  go_enter Try.func12, Try.ntmps12
  go_wp2_with fail
  refine HROWT.out.mono ?_
  rintro e w2 ⟨b, C, rfl, hr, hg⟩
  have G2 := Lib.hid hg
  have HH := Lib.hid (HSL.out _ _ _ hr)
  clear hr hg
  go_wp2_with fail
  refine HH.out.mono ?_
  rintro e w3 ⟨v', rfl, hown, hg⟩
  have G3 := Lib.hid (G2.out.trans hg)
  have HI := Lib.hid (Is.of_own hown rfl)
  obtain ⟨A2, c2, rfl, _⟩ := Is.slice (Is.of_own hown rfl)
  clear hown hg
  go_wp2
  go_returns
  exact ⟨_, rfl, HI.out, G3.out⟩
end Go.Proofs.Ytcbaaeihppchiaa.PE
