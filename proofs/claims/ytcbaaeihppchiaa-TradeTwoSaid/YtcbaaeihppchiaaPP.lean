/-
  Trades are opened, shut, got and told.
  Conditions: those that each lemma names.
-/
import Derived.Test.YtcbaaeihppchiaaPN
namespace Go.Proofs.Ytcbaaeihppchiaa.PP
set_option maxRecDepth 100000
open Go Go.RowKit Go.Lib Go.Proofs.Ytcbaaeihppchiaa Go.Proofs.Ytcbaaeihppchiaa.Facts Go.Proofs.Ytcbaaeihppchiaa.Ints Go.Proofs.Ytcbaaeihppchiaa.PA Go.Proofs.Ytcbaaeihppchiaa.PB Go.Proofs.Ytcbaaeihppchiaa.PC Go.Proofs.Ytcbaaeihppchiaa.PM Go.Proofs.Ytcbaaeihppchiaa.PN Go.Proofs.Ytcbaaeihppchiaa.Bytes


/-- What comes of opening. -/
def openP (l : List Tr) (t : Tr) : List Tr × Int × Int :=
  if okTs l = false then ([], 0, 1) else if okT { t with used := true } = false then ([], 0, 1) else ((if trfree l = -1 then [] else l.set (trfree l).toNat { t with used := true }), (if trfree l = -1 then 0 else trfree l), (if trfree l = -1 then 8 else 0))
def Ans3 (r : List Tr × Int × Int) (w : World) (e : Ending) (w' : World) : Prop := ∃ v', e = .returned (.tuple #[v', .int .i64 r.2.1, .int .i64 r.2.2]) ∧ Trs w' v' r.1 ∧ Grew w w'
def Ans2 (r : List Tr × Int) (w : World) (e : Ending) (w' : World) : Prop := ∃ v', e = .returned (.tuple #[v', .int .i64 r.2]) ∧ Trs w' v' r.1 ∧ Grew w w'
def TupT (ki er : Int) (R : List Tr) (v : Value) (w : World) : Prop := ∃ v', v = .tuple #[v', .int .i64 ki, .int .i64 er] ∧ Trs w v' R
def PtrT (l : List Tr) (v : Value) (w : World) : Prop := ∃ r, v = .pointer (some ⟨r, 0, none⟩) ∧ RowR w r l
theorem frz {W : World} {B t k : Nat} {xs : Array Value} (h : W.heap[B]? = some (.cells xs t (0, 0))) : W.frozen? ⟨B, k, none⟩ = false := by
  unfold World.frozen?
  simp [h]
set_option maxHeartbeats 2000000 in
theorem open_any (v : Value) (l : List Tr) (t : Tr) (w : World) (h : Trs w v l) (hl : l.length * 72 ≤ 140737488355328) :
    Calls Try.prog 14 #[v, trv t] w (Ans3 (openP l t) w) := by
  have HL := Lib.hid h
  have HROW := Lib.hid (fun W (hg : Grew w W) => tr_row W v l (h.grew hg) hl)
  have HADD := Lib.hid (fun W r (hr : RowR W r l) => tr_add W r l { t with used := true } hr hl)
  have HRT := Lib.hid (fun W => rt_any { t with used := true } W)
  unfold openP
  generalize (if trfree l = -1 then ([] : List Tr) else l.set (trfree l).toNat { t with used := true }) = R at *
  generalize (if trfree l = -1 then (0 : Int) else trfree l) = ki at *
  generalize (if trfree l = -1 then (8 : Int) else 0) = er at *
  generalize okT { t with used := true } = q at *
  obtain ⟨u0, a, b, gc, ga, gi, wc, wa, wi⟩ := t
  unfold trv at *
  simp only at HADD HRT ⊢
  have gA : Grew w (w.alloc (.cells #[.bool true, .int .i64 a, .int .i64 b, .int .i64 gc, .int .u64 ga, .int .i64 gi, .int .i64 wc, .int .u64 wa, .int .i64 wi] 42)) := by unfold Grew; go_grown
  have G0 := Lib.hid gA
  have BA := Lib.hid (blk_new w (.cells #[.bool true, .int .i64 a, .int .i64 b, .int .i64 gc, .int .u64 ga, .int .i64 gi, .int .i64 wc, .int .u64 wa, .int .i64 wi] 42))
  have HI0 : Hid (Trs (w.alloc (.cells #[.bool true, .int .i64 a, .int .i64 b, .int .i64 gc, .int .u64 ga, .int .i64 gi, .int .i64 wc, .int .u64 wa, .int .i64 wi] 42)) v l) := Lib.hid (h.grew gA)
  have HM := Lib.hid (trades_any v l _ HI0.out)
  generalize okTs l = p at *
  obtain ⟨A, cp, rfl, _⟩ := h.slice
  clear h hl gA
  cases p with
  | false =>
    simp only [if_true]
    go_enter Try.func14, Try.ntmps14
    go_wp2_with fail
    refine HM.out.mono ?_
    rintro e w1 ⟨rfl, hg⟩
    have G1 := Lib.hid (G0.out.trans hg)
    clear hg
    go_wp2
    go_returns
    exact ⟨_, rfl, rw_none _, G1.out⟩
  | true =>
    simp only [Bool.true_eq_false, if_false]
    cases q with
    | false =>
      simp only [if_true]
      go_enter Try.func14, Try.ntmps14
      go_wp2_with fail
      refine HM.out.mono ?_
      rintro e w1 ⟨rfl, hg⟩
      have G1 := Lib.hid (G0.out.trans hg)
      have A1 := Lib.hid (keepB BA.out hg)
      clear hg
      obtain ⟨c0, c1, c2, c3, c4, c5, c6, c7, c8⟩ := nine_c A1.out
      go_wp2_with fail
      refine (HRT.out _).mono ?_
      rintro e w2 ⟨rfl, hg⟩
      have G2 := Lib.hid (G1.out.trans hg)
      clear hg c0 c1 c2 c3 c4 c5 c6 c7 c8
      go_wp2
      go_returns
      exact ⟨_, rfl, rw_none _, G2.out⟩
    | true =>
      simp only [Bool.true_eq_false, if_false]
      go_enter Try.func14, Try.ntmps14
      go_wp2_with fail
      refine HM.out.mono ?_
      rintro e w1 ⟨rfl, hg⟩
      have G1 := Lib.hid (G0.out.trans hg)
      have A1 := Lib.hid (keepB BA.out hg)
      clear hg
      obtain ⟨c0, c1, c2, c3, c4, c5, c6, c7, c8⟩ := nine_c A1.out
      go_wp2_with fail
      refine (HRT.out _).mono ?_
      rintro e w2 ⟨rfl, hg⟩
      have G4 := Lib.hid (G1.out.trans hg)
      have A2 := Lib.hid (keepB A1.out hg)
      obtain ⟨e0, e1, e2, e3, e4, e5, e6, e7, e8⟩ := nine_c A2.out
      have E0 := Lib.hid e0
      have E1 := Lib.hid e1
      have E2 := Lib.hid e2
      have E3 := Lib.hid e3
      have E4 := Lib.hid e4
      have E5 := Lib.hid e5
      have E6 := Lib.hid e6
      have E7 := Lib.hid e7
      have E8 := Lib.hid e8
      clear hg e0 e1 e2 e3 e4 e5 e6 e7 e8 c0 c1 c2 c3 c4 c5 c6 c7 c8
      go_wp2
      refine Facts.wp_region_text (by kernel_rfl) (by kernel_rfl) ?_
      apply Facts.Lex.exact [] _ (by kernel_rfl)
      · intro u W hC hK
        clear hK
        unfold Facts.one
        go_simp
        first | exact ⟨Grew.refl _, rfl⟩ | rfl
      simp only [Act.put, List.setIfInBounds_toArray, List.set_cons_zero, List.set_cons_succ, Nat.zero_add, Nat.reduceAdd]
      refine Facts.Lex.know [] (PtrT l) (by kernel_rfl) (fun _ _ _ ⟨r, e, h⟩ hg => ⟨r, e, h.grew hg⟩) ?_ ?_
      · intro u W hC hK
        have HC9 := Lib.hid (HROW.out W (G4.out.trans hC))
        clear hK
        unfold Facts.one
        go_simp
        refine HC9.out.mono ?_
        rintro e w' ⟨r, rfl, hr, hg⟩
        exact ⟨_, rfl, hg, ⟨r, rfl, hr⟩⟩
      simp only [Act.put, List.setIfInBounds_toArray, List.set_cons_zero, List.set_cons_succ, Nat.zero_add, Nat.reduceAdd]
      apply Facts.Lex.exact [] (.agg #[.bool true, .int .i64 a, .int .i64 b, .int .i64 gc, .int .u64 ga, .int .i64 gi, .int .i64 wc, .int .u64 wa, .int .i64 wi]) (by kernel_rfl)
      · intro u W hC hK
        clear hK
        have j0 := cellG hC E0.out
        have j1 := cellG hC E1.out
        have j2 := cellG hC E2.out
        have j3 := cellG hC E3.out
        have j4 := cellG hC E4.out
        have j5 := cellG hC E5.out
        have j6 := cellG hC E6.out
        have j7 := cellG hC E7.out
        have j8 := cellG hC E8.out
        unfold Facts.one
        go_simp
        first | exact ⟨Grew.refl _, rfl⟩ | rfl
      simp only [Act.put, List.setIfInBounds_toArray, List.set_cons_zero, List.set_cons_succ, Nat.zero_add, Nat.reduceAdd]
      refine Facts.Lex.know [1] (TupT ki er R) (by kernel_rfl) (fun _ _ _ ⟨r, e, h⟩ hg => ⟨r, e, h.grew hg⟩) ?_ ?_
      · intro u W hC hK
        obtain ⟨r, hr, hrow⟩ : PtrT l (u 1) W := hK.1
        have HC9 := Lib.hid (HADD.out W r hrow)
        clear hK hrow
        unfold Facts.one
        go_simp
        try simp only [hr]
        refine HC9.out.mono ?_
        rintro e w' ⟨v', rfl, hi, hg⟩
        exact ⟨_, rfl, hg, ⟨v', rfl, hi⟩⟩
      simp only [Act.put, List.setIfInBounds_toArray, List.set_cons_zero, List.set_cons_succ, Nat.zero_add, Nat.reduceAdd]
      refine Facts.Lex.know [3] (fun v w => Trs w v R) (by kernel_rfl) (fun _ _ _ h hg => h.grew hg) ?_ ?_
      · intro u W hC hK
        obtain ⟨v', hv', hi⟩ : TupT ki er R (u 3) W := hK.1
        have HI := Lib.hid hi
        clear hK hi
        unfold Facts.one
        simp only [hv']
        go_simp
        exact ⟨Grew.refl _, HI.out⟩
      simp only [Act.put, List.setIfInBounds_toArray, List.set_cons_zero, List.set_cons_succ, Nat.zero_add, Nat.reduceAdd]
      apply Facts.Lex.exact [3] (.int .i64 ki) (by kernel_rfl)
      · intro u W hC hK
        obtain ⟨v', hv', hi⟩ : TupT ki er R (u 3) W := hK.1
        have HI := Lib.hid hi
        clear hK hi
        unfold Facts.one
        simp only [hv']
        go_simp
        first | exact ⟨Grew.refl _, rfl⟩ | rfl
      simp only [Act.put, List.setIfInBounds_toArray, List.set_cons_zero, List.set_cons_succ, Nat.zero_add, Nat.reduceAdd]
      apply Facts.Lex.exact [3] (.int .i64 er) (by kernel_rfl)
      · intro u W hC hK
        obtain ⟨v', hv', hi⟩ : TupT ki er R (u 3) W := hK.1
        have HI := Lib.hid hi
        clear hK hi
        unfold Facts.one
        simp only [hv']
        go_simp
        first | exact ⟨Grew.refl _, rfl⟩ | rfl
      simp only [Act.put, List.setIfInBounds_toArray, List.set_cons_zero, List.set_cons_succ, Nat.zero_add, Nat.reduceAdd]
      refine Facts.Lex.know [4] (fun v w => Trs w v R) (by kernel_rfl) (fun _ _ _ h hg => h.grew hg) ?_ ?_
      · intro u W hC hK
        have HY : Hid (Trs W (u 4) R) := Lib.hid hK.1
        clear hK
        unfold Facts.one
        go_simp
        exact ⟨Grew.refl _, HY.out⟩
      simp only [Act.put, List.setIfInBounds_toArray, List.set_cons_zero, List.set_cons_succ, Nat.zero_add, Nat.reduceAdd]
      apply Facts.Lex.exact [] _ (by kernel_rfl)
      · intro u W hC hK
        clear hK
        unfold Facts.one
        go_simp
        first | exact ⟨Grew.refl _, rfl⟩ | rfl
      simp only [Act.put, List.setIfInBounds_toArray, List.set_cons_zero, List.set_cons_succ, Nat.zero_add, Nat.reduceAdd]
      apply Facts.Lex.exact [] _ (by kernel_rfl)
      · intro u W hC hK
        clear hK
        unfold Facts.one
        go_simp
        first | exact ⟨Grew.refl _, rfl⟩ | rfl
      simp only [Act.put, List.setIfInBounds_toArray, List.set_cons_zero, List.set_cons_succ, Nat.zero_add, Nat.reduceAdd]
      refine Facts.Lex.done fun u W2 hC hL => ?_
      have HY : Hid (Trs W2 (u 7) R) := Lib.hid (hL _ (List.mem_cons_self ..))
      have G5 := Lib.hid (G4.out.trans hC)
      clear hC hL
      generalize u 7 = v7 at *
      go_wp2
      go_returns
      exact ⟨_, rfl, HY.out, G5.out⟩
/-- What comes of shutting. -/
def shutP (l : List Tr) (i n : Int) : List Tr × Int :=
  if okTs l = false then ([], 1) else if hasG ztr (fun x : Tr => x.used && (decide (x.a = n) || decide (x.b = n))) l i = false then ([], 3) else (l.set i.toNat ztr, 0)
theorem shut_any (v : Value) (l : List Tr) (i n : Int) (w : World) (h : Trs w v l) (hl : l.length * 72 ≤ 140737488355328) :
    Calls Try.prog 16 #[v, .int .i64 i, .int .i64 n] w (Ans2 (shutP l i n) w) := by
  have HR := Lib.hid (trades_any v l w h)
  have HROWT := Lib.hid (fun W (hg : Grew w W) => trw_row W v n l (h.grew hg) hl)
  have HHAS := Lib.hid (fun W b C (hr : RowRw W b C n l) => trw_has W b C n l i hr)
  have HROW := Lib.hid (fun W (hg : Grew w W) => tr_row W v l (h.grew hg) hl)
  have HPUT := Lib.hid (fun W b k (hr : RowR W b l) hk => tr_put W b l k ztr hr hk hl)
  unfold trv ztr at HPUT
  simp only at HPUT
  unfold shutP
  have HK : Hid (hasG ztr (fun x : Tr => x.used && (decide (x.a = n) || decide (x.b = n))) l i = true → ∃ k : Nat, i = k ∧ k < l.length) := Lib.hid fun h => by
    unfold hasG at h
    simp only [Bool.and_eq_true, decide_eq_true_iff] at h
    exact ⟨i.toNat, by omega, by omega⟩
  generalize okTs l = p at *
  generalize hasG ztr (fun x : Tr => x.used && (decide (x.a = n) || decide (x.b = n))) l i = q at *
  obtain ⟨A, cp, rfl, _⟩ := h.slice
  clear h hl
  cases p with
  | false =>
    simp only [if_true]
    go_enter Try.func16, Try.ntmps16
    go_wp2_with fail
    refine HR.out.mono ?_
    rintro e w1 ⟨rfl, hg⟩
    have G1 := Lib.hid hg
    clear hg
    go_wp2
    go_returns
    exact ⟨_, rfl, rw_none _, G1.out⟩
  | true =>
    simp only [Bool.true_eq_false, if_false]
    cases q with
    | false =>
      simp only [if_true]
      go_enter Try.func16, Try.ntmps16
      go_wp2_with fail
      refine HR.out.mono ?_
      rintro e w1 ⟨rfl, hg⟩
      have G1 := Lib.hid hg
      clear hg
      go_wp2_with fail
      refine (HROWT.out _ G1.out).mono ?_
      rintro e w2 ⟨b, C, rfl, hr, hg⟩
      have G2 := Lib.hid (G1.out.trans hg)
      have HH := Lib.hid (HHAS.out _ _ _ hr)
      clear hr hg
      go_wp2_with fail
      refine HH.out.mono ?_
      rintro e w3 ⟨rfl, hg⟩
      have G3 := Lib.hid (G2.out.trans hg)
      clear hg
      go_wp2
      go_returns
      exact ⟨_, rfl, rw_none _, G3.out⟩
    | true =>
      simp only [Bool.true_eq_false, if_false]
      obtain ⟨k, rfl, hk⟩ := HK.out rfl
      rw [Int.toNat_natCast]
      have HKL := Lib.hid hk
      clear hk HK
      generalize hR : l.set k ztr = R at *
      have HPK := Lib.hid (fun W b (hr : RowR W b l) => HPUT.out W b k hr HKL.out)
      have hRR : l.set k ⟨false, 0, 0, 0, 0, 0, 0, 0, 0⟩ = R := hR
      rw [hRR] at HPK
      clear hR hRR HPUT
      go_enter Try.func16, Try.ntmps16
      go_wp2_with fail
      refine HR.out.mono ?_
      rintro e w1 ⟨rfl, hg⟩
      have G1 := Lib.hid hg
      clear hg
      go_wp2_with fail
      refine (HROWT.out _ G1.out).mono ?_
      rintro e w2 ⟨b, C, rfl, hr, hg⟩
      have G2 := Lib.hid (G1.out.trans hg)
      have HH := Lib.hid (HHAS.out _ _ _ hr)
      clear hr hg
      go_wp2_with fail
      refine HH.out.mono ?_
      rintro e w3 ⟨rfl, hg⟩
      have G3 := Lib.hid (G2.out.trans hg)
      clear hg
      go_wp2_with fail
      refine (HROW.out _ G3.out).mono ?_
      rintro e w4 ⟨b2, rfl, hr, hg⟩
      have G4 := Lib.hid (G3.out.trans hg)
      have HP := Lib.hid (HPK.out _ _ hr)
      clear hr hg
      go_wp2_with fail
      refine HP.out.mono ?_
      rintro e w5 ⟨v', rfl, hi, hg⟩
      have G5 := Lib.hid (G4.out.trans hg)
      have HI := Lib.hid hi
      obtain ⟨A2, c2, rfl, _⟩ := hi.slice
      clear hi hg
      go_wp2
      go_returns
      exact ⟨_, rfl, HI.out, G5.out⟩
/-- What Get answers. -/
def getP (l : List Tr) (i n : Int) : Tr × Int := if hasG ztr (fun x : Tr => x.used && (decide (x.a = n) || decide (x.b = n))) l i = false then (ztr, 3) else (et l i.toNat, 0)
theorem get_any (v : Value) (l : List Tr) (i n : Int) (w : World) (h : Trs w v l) (hl : l.length * 72 ≤ 140737488355328) :
    Calls Try.prog 19 #[v, .int .i64 i, .int .i64 n] w fun e w' => e = .returned (.tuple #[trv (getP l i n).1, .int .i64 (getP l i n).2]) ∧ Grew w w' := by
  have HL := Lib.hid h
  have HROWT := Lib.hid (fun W (hg : Grew w W) => trw_row W v n l (h.grew hg) hl)
  have HHAS := Lib.hid (fun W b C (hr : RowRw W b C n l) => trw_has W b C n l i hr)
  unfold getP
  have HK : Hid (hasG ztr (fun x : Tr => x.used && (decide (x.a = n) || decide (x.b = n))) l i = true → ∃ k : Nat, i = k ∧ k < l.length) := Lib.hid fun h => by
    unfold hasG at h
    simp only [Bool.and_eq_true, decide_eq_true_iff] at h
    exact ⟨i.toNat, by omega, by omega⟩
  generalize hasG ztr (fun x : Tr => x.used && (decide (x.a = n) || decide (x.b = n))) l i = q at *
  obtain ⟨A, cp, rfl, _⟩ := h.slice
  have g0 : Grew w (w.alloc (.cells #[.bool false, .int .i64 0, .int .i64 0, .int .i64 0, .int .u64 0, .int .i64 0, .int .i64 0, .int .u64 0, .int .i64 0] 42)) := by unfold Grew; go_grown
  have G0 := Lib.hid g0
  have B0 := Lib.hid (blk_new w (.cells #[.bool false, .int .i64 0, .int .i64 0, .int .i64 0, .int .u64 0, .int .i64 0, .int .i64 0, .int .u64 0, .int .i64 0] 42))
  clear h hl g0
  cases q with
  | false =>
    simp only [if_true]
    unfold trv ztr
    simp only
    go_enter Try.func19, Try.ntmps19
    go_wp2_with fail
    refine (HROWT.out _ G0.out).mono ?_
    rintro e w2 ⟨b, C, rfl, hr, hg⟩
    have G2 := Lib.hid (G0.out.trans hg)
    have B2 := Lib.hid (keepB B0.out hg)
    have HH := Lib.hid (HHAS.out _ _ _ hr)
    clear hr hg
    go_wp2_with fail
    refine HH.out.mono ?_
    rintro e w3 ⟨rfl, hg⟩
    have G3 := Lib.hid (G2.out.trans hg)
    have B3 := Lib.hid (keepB B2.out hg)
    clear hg
    obtain ⟨c0, c1, c2, c3, c4, c5, c6, c7, c8⟩ := nine_c B3.out
    have f0 := frz (k := 0) B3.out
    have f1 := frz (k := 1) B3.out
    have f2 := frz (k := 2) B3.out
    have f3 := frz (k := 3) B3.out
    have f4 := frz (k := 4) B3.out
    have f5 := frz (k := 5) B3.out
    have f6 := frz (k := 6) B3.out
    have f7 := frz (k := 7) B3.out
    have f8 := frz (k := 8) B3.out
    have e0 : ∀ x0, ((w3.setCell ⟨w.heap.size, 0, none⟩ x0)).cell? ⟨w.heap.size, 0, none⟩ = some x0 := fun x0 => World.cell?_setCell_same _ _ _ c0
    have e1 : ∀ x0 x1, (((w3.setCell ⟨w.heap.size, 0, none⟩ x0).setCell ⟨w.heap.size, 1, none⟩ x1)).cell? ⟨w.heap.size, 1, none⟩ = some x1 := fun x0 x1 => World.cell?_setCell_same _ _ _ (by rw [World.cell?_setCell_other]; exact c1; all_goals simp)
    have e2 : ∀ x0 x1 x2, ((((w3.setCell ⟨w.heap.size, 0, none⟩ x0).setCell ⟨w.heap.size, 1, none⟩ x1).setCell ⟨w.heap.size, 2, none⟩ x2)).cell? ⟨w.heap.size, 2, none⟩ = some x2 := fun x0 x1 x2 => World.cell?_setCell_same _ _ _ (by rw [World.cell?_setCell_other, World.cell?_setCell_other]; exact c2; all_goals simp)
    have e3 : ∀ x0 x1 x2 x3, (((((w3.setCell ⟨w.heap.size, 0, none⟩ x0).setCell ⟨w.heap.size, 1, none⟩ x1).setCell ⟨w.heap.size, 2, none⟩ x2).setCell ⟨w.heap.size, 3, none⟩ x3)).cell? ⟨w.heap.size, 3, none⟩ = some x3 := fun x0 x1 x2 x3 => World.cell?_setCell_same _ _ _ (by rw [World.cell?_setCell_other, World.cell?_setCell_other, World.cell?_setCell_other]; exact c3; all_goals simp)
    have e4 : ∀ x0 x1 x2 x3 x4, ((((((w3.setCell ⟨w.heap.size, 0, none⟩ x0).setCell ⟨w.heap.size, 1, none⟩ x1).setCell ⟨w.heap.size, 2, none⟩ x2).setCell ⟨w.heap.size, 3, none⟩ x3).setCell ⟨w.heap.size, 4, none⟩ x4)).cell? ⟨w.heap.size, 4, none⟩ = some x4 := fun x0 x1 x2 x3 x4 => World.cell?_setCell_same _ _ _ (by rw [World.cell?_setCell_other, World.cell?_setCell_other, World.cell?_setCell_other, World.cell?_setCell_other]; exact c4; all_goals simp)
    have e5 : ∀ x0 x1 x2 x3 x4 x5, (((((((w3.setCell ⟨w.heap.size, 0, none⟩ x0).setCell ⟨w.heap.size, 1, none⟩ x1).setCell ⟨w.heap.size, 2, none⟩ x2).setCell ⟨w.heap.size, 3, none⟩ x3).setCell ⟨w.heap.size, 4, none⟩ x4).setCell ⟨w.heap.size, 5, none⟩ x5)).cell? ⟨w.heap.size, 5, none⟩ = some x5 := fun x0 x1 x2 x3 x4 x5 => World.cell?_setCell_same _ _ _ (by rw [World.cell?_setCell_other, World.cell?_setCell_other, World.cell?_setCell_other, World.cell?_setCell_other, World.cell?_setCell_other]; exact c5; all_goals simp)
    have e6 : ∀ x0 x1 x2 x3 x4 x5 x6, ((((((((w3.setCell ⟨w.heap.size, 0, none⟩ x0).setCell ⟨w.heap.size, 1, none⟩ x1).setCell ⟨w.heap.size, 2, none⟩ x2).setCell ⟨w.heap.size, 3, none⟩ x3).setCell ⟨w.heap.size, 4, none⟩ x4).setCell ⟨w.heap.size, 5, none⟩ x5).setCell ⟨w.heap.size, 6, none⟩ x6)).cell? ⟨w.heap.size, 6, none⟩ = some x6 := fun x0 x1 x2 x3 x4 x5 x6 => World.cell?_setCell_same _ _ _ (by rw [World.cell?_setCell_other, World.cell?_setCell_other, World.cell?_setCell_other, World.cell?_setCell_other, World.cell?_setCell_other, World.cell?_setCell_other]; exact c6; all_goals simp)
    have e7 : ∀ x0 x1 x2 x3 x4 x5 x6 x7, (((((((((w3.setCell ⟨w.heap.size, 0, none⟩ x0).setCell ⟨w.heap.size, 1, none⟩ x1).setCell ⟨w.heap.size, 2, none⟩ x2).setCell ⟨w.heap.size, 3, none⟩ x3).setCell ⟨w.heap.size, 4, none⟩ x4).setCell ⟨w.heap.size, 5, none⟩ x5).setCell ⟨w.heap.size, 6, none⟩ x6).setCell ⟨w.heap.size, 7, none⟩ x7)).cell? ⟨w.heap.size, 7, none⟩ = some x7 := fun x0 x1 x2 x3 x4 x5 x6 x7 => World.cell?_setCell_same _ _ _ (by rw [World.cell?_setCell_other, World.cell?_setCell_other, World.cell?_setCell_other, World.cell?_setCell_other, World.cell?_setCell_other, World.cell?_setCell_other, World.cell?_setCell_other]; exact c7; all_goals simp)
    have e8 : ∀ x0 x1 x2 x3 x4 x5 x6 x7 x8, ((((((((((w3.setCell ⟨w.heap.size, 0, none⟩ x0).setCell ⟨w.heap.size, 1, none⟩ x1).setCell ⟨w.heap.size, 2, none⟩ x2).setCell ⟨w.heap.size, 3, none⟩ x3).setCell ⟨w.heap.size, 4, none⟩ x4).setCell ⟨w.heap.size, 5, none⟩ x5).setCell ⟨w.heap.size, 6, none⟩ x6).setCell ⟨w.heap.size, 7, none⟩ x7).setCell ⟨w.heap.size, 8, none⟩ x8)).cell? ⟨w.heap.size, 8, none⟩ = some x8 := fun x0 x1 x2 x3 x4 x5 x6 x7 x8 => World.cell?_setCell_same _ _ _ (by rw [World.cell?_setCell_other, World.cell?_setCell_other, World.cell?_setCell_other, World.cell?_setCell_other, World.cell?_setCell_other, World.cell?_setCell_other, World.cell?_setCell_other, World.cell?_setCell_other]; exact c8; all_goals simp)
    go_wp2
    refine bodyPost_ret (by simp [results, Try.results19, go_sem, e0, e1, e2, e3, e4, e5, e6, e7, e8]; try rfl) rfl ?_
    exact ⟨by first | rfl | (simp; done), (Below.setCell (Below.setCell (Below.setCell (Below.setCell (Below.setCell (Below.setCell (Below.setCell (Below.setCell (Below.setCell G3.out (Nat.le_refl _) _) (Nat.le_refl _) _) (Nat.le_refl _) _) (Nat.le_refl _) _) (Nat.le_refl _) _) (Nat.le_refl _) _) (Nat.le_refl _) _) (Nat.le_refl _) _) (Nat.le_refl _) _)⟩
  | true =>
    simp only [Bool.true_eq_false, if_false]
    obtain ⟨k, rfl, hk⟩ := HK.out rfl
    rw [Int.toNat_natCast]
    have hkl : (k : Int) < (l.length : Int) := by omega
    have hk0 : ¬ (k : Int) < 0 := by omega
    have HX := Lib.hid (et_get hk)
    clear hk HK
    generalize et l k = x at *
    obtain ⟨u, a, b, gc, ga, gi, wc, wa, wi⟩ := x
    unfold trv
    simp only
    go_enter Try.func19, Try.ntmps19
    go_wp2_with fail
    refine (HROWT.out _ G0.out).mono ?_
    rintro e w2 ⟨b, C, rfl, hr, hg⟩
    have G2 := Lib.hid (G0.out.trans hg)
    have B2 := Lib.hid (keepB B0.out hg)
    have HH := Lib.hid (HHAS.out _ _ _ hr)
    clear hr hg
    go_wp2_with fail
    refine HH.out.mono ?_
    rintro e w3 ⟨rfl, hg⟩
    have G3 := Lib.hid (G2.out.trans hg)
    have B3 := Lib.hid (keepB B2.out hg)
    clear hg
    obtain ⟨c0, c1, c2, c3, c4, c5, c6, c7, c8⟩ := nine_c B3.out
    have f0 := frz (k := 0) B3.out
    have f1 := frz (k := 1) B3.out
    have f2 := frz (k := 2) B3.out
    have f3 := frz (k := 3) B3.out
    have f4 := frz (k := 4) B3.out
    have f5 := frz (k := 5) B3.out
    have f6 := frz (k := 6) B3.out
    have f7 := frz (k := 7) B3.out
    have f8 := frz (k := 8) B3.out
    have e0 : ∀ x0, ((w3.setCell ⟨w.heap.size, 0, none⟩ x0)).cell? ⟨w.heap.size, 0, none⟩ = some x0 := fun x0 => World.cell?_setCell_same _ _ _ c0
    have e1 : ∀ x0 x1, (((w3.setCell ⟨w.heap.size, 0, none⟩ x0).setCell ⟨w.heap.size, 1, none⟩ x1)).cell? ⟨w.heap.size, 1, none⟩ = some x1 := fun x0 x1 => World.cell?_setCell_same _ _ _ (by rw [World.cell?_setCell_other]; exact c1; all_goals simp)
    have e2 : ∀ x0 x1 x2, ((((w3.setCell ⟨w.heap.size, 0, none⟩ x0).setCell ⟨w.heap.size, 1, none⟩ x1).setCell ⟨w.heap.size, 2, none⟩ x2)).cell? ⟨w.heap.size, 2, none⟩ = some x2 := fun x0 x1 x2 => World.cell?_setCell_same _ _ _ (by rw [World.cell?_setCell_other, World.cell?_setCell_other]; exact c2; all_goals simp)
    have e3 : ∀ x0 x1 x2 x3, (((((w3.setCell ⟨w.heap.size, 0, none⟩ x0).setCell ⟨w.heap.size, 1, none⟩ x1).setCell ⟨w.heap.size, 2, none⟩ x2).setCell ⟨w.heap.size, 3, none⟩ x3)).cell? ⟨w.heap.size, 3, none⟩ = some x3 := fun x0 x1 x2 x3 => World.cell?_setCell_same _ _ _ (by rw [World.cell?_setCell_other, World.cell?_setCell_other, World.cell?_setCell_other]; exact c3; all_goals simp)
    have e4 : ∀ x0 x1 x2 x3 x4, ((((((w3.setCell ⟨w.heap.size, 0, none⟩ x0).setCell ⟨w.heap.size, 1, none⟩ x1).setCell ⟨w.heap.size, 2, none⟩ x2).setCell ⟨w.heap.size, 3, none⟩ x3).setCell ⟨w.heap.size, 4, none⟩ x4)).cell? ⟨w.heap.size, 4, none⟩ = some x4 := fun x0 x1 x2 x3 x4 => World.cell?_setCell_same _ _ _ (by rw [World.cell?_setCell_other, World.cell?_setCell_other, World.cell?_setCell_other, World.cell?_setCell_other]; exact c4; all_goals simp)
    have e5 : ∀ x0 x1 x2 x3 x4 x5, (((((((w3.setCell ⟨w.heap.size, 0, none⟩ x0).setCell ⟨w.heap.size, 1, none⟩ x1).setCell ⟨w.heap.size, 2, none⟩ x2).setCell ⟨w.heap.size, 3, none⟩ x3).setCell ⟨w.heap.size, 4, none⟩ x4).setCell ⟨w.heap.size, 5, none⟩ x5)).cell? ⟨w.heap.size, 5, none⟩ = some x5 := fun x0 x1 x2 x3 x4 x5 => World.cell?_setCell_same _ _ _ (by rw [World.cell?_setCell_other, World.cell?_setCell_other, World.cell?_setCell_other, World.cell?_setCell_other, World.cell?_setCell_other]; exact c5; all_goals simp)
    have e6 : ∀ x0 x1 x2 x3 x4 x5 x6, ((((((((w3.setCell ⟨w.heap.size, 0, none⟩ x0).setCell ⟨w.heap.size, 1, none⟩ x1).setCell ⟨w.heap.size, 2, none⟩ x2).setCell ⟨w.heap.size, 3, none⟩ x3).setCell ⟨w.heap.size, 4, none⟩ x4).setCell ⟨w.heap.size, 5, none⟩ x5).setCell ⟨w.heap.size, 6, none⟩ x6)).cell? ⟨w.heap.size, 6, none⟩ = some x6 := fun x0 x1 x2 x3 x4 x5 x6 => World.cell?_setCell_same _ _ _ (by rw [World.cell?_setCell_other, World.cell?_setCell_other, World.cell?_setCell_other, World.cell?_setCell_other, World.cell?_setCell_other, World.cell?_setCell_other]; exact c6; all_goals simp)
    have e7 : ∀ x0 x1 x2 x3 x4 x5 x6 x7, (((((((((w3.setCell ⟨w.heap.size, 0, none⟩ x0).setCell ⟨w.heap.size, 1, none⟩ x1).setCell ⟨w.heap.size, 2, none⟩ x2).setCell ⟨w.heap.size, 3, none⟩ x3).setCell ⟨w.heap.size, 4, none⟩ x4).setCell ⟨w.heap.size, 5, none⟩ x5).setCell ⟨w.heap.size, 6, none⟩ x6).setCell ⟨w.heap.size, 7, none⟩ x7)).cell? ⟨w.heap.size, 7, none⟩ = some x7 := fun x0 x1 x2 x3 x4 x5 x6 x7 => World.cell?_setCell_same _ _ _ (by rw [World.cell?_setCell_other, World.cell?_setCell_other, World.cell?_setCell_other, World.cell?_setCell_other, World.cell?_setCell_other, World.cell?_setCell_other, World.cell?_setCell_other]; exact c7; all_goals simp)
    have e8 : ∀ x0 x1 x2 x3 x4 x5 x6 x7 x8, ((((((((((w3.setCell ⟨w.heap.size, 0, none⟩ x0).setCell ⟨w.heap.size, 1, none⟩ x1).setCell ⟨w.heap.size, 2, none⟩ x2).setCell ⟨w.heap.size, 3, none⟩ x3).setCell ⟨w.heap.size, 4, none⟩ x4).setCell ⟨w.heap.size, 5, none⟩ x5).setCell ⟨w.heap.size, 6, none⟩ x6).setCell ⟨w.heap.size, 7, none⟩ x7).setCell ⟨w.heap.size, 8, none⟩ x8)).cell? ⟨w.heap.size, 8, none⟩ = some x8 := fun x0 x1 x2 x3 x4 x5 x6 x7 x8 => World.cell?_setCell_same _ _ _ (by rw [World.cell?_setCell_other, World.cell?_setCell_other, World.cell?_setCell_other, World.cell?_setCell_other, World.cell?_setCell_other, World.cell?_setCell_other, World.cell?_setCell_other, World.cell?_setCell_other]; exact c8; all_goals simp)
    obtain ⟨ad, c9, e, _, d0, d1, d2, d3, d4, d5, d6, d7, d8⟩ := Trs_at (HL.out.grew G3.out) HX.out
    injection e with e5 _ e6
    subst e5 e6
    go_wp2
    refine bodyPost_ret (by simp [results, Try.results19, go_sem, e0, e1, e2, e3, e4, e5, e6, e7, e8]; try rfl) rfl ?_
    exact ⟨by first | rfl | (simp; done), (Below.setCell (Below.setCell (Below.setCell (Below.setCell (Below.setCell (Below.setCell (Below.setCell (Below.setCell (Below.setCell G3.out (Nat.le_refl _) _) (Nat.le_refl _) _) (Nat.le_refl _) _) (Nat.le_refl _) _) (Nat.le_refl _) _) (Nat.le_refl _) _) (Nat.le_refl _) _) (Nat.le_refl _) _) (Nat.le_refl _) _)⟩
/-- The slots of the trades of somebody. -/
def ofP (l : List Tr) (n : Int) : List Int := uptoG ztr (fun x : Tr => x.used && (decide (x.a = n) || decide (x.b = n))) l l.length
theorem of_any (v : Value) (l : List Tr) (n : Int) (w : World) (h : Trs w v l) (hl : l.length * 72 ≤ 140737488355328) :
    Calls Try.prog 18 #[v, .int .i64 n] w fun e w' => ∃ v', e = .returned v' ∧ Is w' v' (ofP l n) ∧ Grew w w' := by
  have HROWT := Lib.hid (trw_row w v n l h hl)
  have HSL := Lib.hid (fun W b C (hr : RowRw W b C n l) => trw_slots W b C n l hr hl)
  unfold ofP
  generalize uptoG ztr (fun x : Tr => x.used && (decide (x.a = n) || decide (x.b = n))) l l.length = S at *
  obtain ⟨A, cp, rfl, _⟩ := h.slice
  clear h hl
  go_enter Try.func18, Try.ntmps18
  go_wp2_with fail
  refine HROWT.out.mono ?_
  rintro e w2 ⟨b, C, rfl, hr, hg⟩
  have G2 := Lib.hid hg
  have HH := Lib.hid (HSL.out _ _ _ hr)
  clear hr hg
  go_wp2_with fail
  refine HH.out.mono ?_
  rintro e w3 ⟨v', rfl, hown, hg⟩
  have G3 := Lib.hid (G2.out.trans hg)
  have HI := Lib.hid (Is.of_own hown rfl)
  obtain ⟨A2, c2, rfl, _⟩ := Is.slice (Is.of_own hown rfl)
  clear hown hg
  go_wp2
  go_returns
  exact ⟨_, rfl, HI.out, G3.out⟩
end Go.Proofs.Ytcbaaeihppchiaa.PP
