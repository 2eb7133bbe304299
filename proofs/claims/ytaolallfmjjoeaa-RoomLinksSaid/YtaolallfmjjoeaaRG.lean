/-
  An exit is made.
  Conditions: those that each lemma names.
-/
import Derived.Test.YtaolallfmjjoeaaRF
namespace Go.Proofs.Ytaolallfmjjoeaa.RG
set_option maxRecDepth 100000
open Go Go.RowKit Go.Lib Go.Proofs.Ytaolallfmjjoeaa Go.Proofs.Ytaolallfmjjoeaa.Facts Go.Proofs.Ytaolallfmjjoeaa.Ints Go.Proofs.Ytaolallfmjjoeaa.TI Go.Proofs.Ytaolallfmjjoeaa.TP Go.Proofs.Ytaolallfmjjoeaa.TB Go.Proofs.Ytaolallfmjjoeaa.TC Go.Proofs.Ytaolallfmjjoeaa.TD Go.Proofs.Ytaolallfmjjoeaa.TE Go.Proofs.Ytaolallfmjjoeaa.TF Go.Proofs.Ytaolallfmjjoeaa.TH Go.Proofs.Ytaolallfmjjoeaa.RA Go.Proofs.Ytaolallfmjjoeaa.RB Go.Proofs.Ytaolallfmjjoeaa.RC Go.Proofs.Ytaolallfmjjoeaa.RD Go.Proofs.Ytaolallfmjjoeaa.RE Go.Proofs.Ytaolallfmjjoeaa.RF Go.Proofs.Ytaolallfmjjoeaa.Bytes


/-- What comes of making it. -/
def linkP (l : List Ex) (x : Ex) : List Ex × Int × Int :=
  if exq [] l = false then ([], 0, 1) else if okE x = false then ([], 0, 1) else if slE l x.fl x.fs x.dir = -1 then ((if exfree l = -1 then [] else l.set (exfree l).toNat x), (if exfree l = -1 then 0 else exfree l), (if exfree l = -1 then 8 else 0)) else ([], 0, 4)
def AnsE (r : List Ex × Int × Int) (w : World) (e : Ending) (w' : World) : Prop := ∃ v', e = .returned (.tuple #[v', .int .i64 r.2.1, .int .i64 r.2.2]) ∧ Exs w' v' r.1 ∧ Grew w w'
def TupE (ki er : Int) (R : List Ex) (v : Value) (w : World) : Prop := ∃ v', v = .tuple #[v', .int .i64 ki, .int .i64 er] ∧ Exs w v' R
def PtrE (l : List Ex) (v : Value) (w : World) : Prop := ∃ r, v = .pointer (some ⟨r, 0, none⟩) ∧ RowE w r l
set_option maxHeartbeats 2000000 in
theorem link_any (v : Value) (l : List Ex) (a b c d n : Int) (w : World) (h : Exs w v l) (hl : l.length * 48 ≤ 140737488355328) :
    Calls Try.prog 15 #[v, .agg #[.int .i64 a, .int .i64 b], .agg #[.int .i64 c, .int .i64 d], .int .i64 n] w (AnsE (linkP l ⟨true, a, b, c, d, n⟩) w) := by
  have HS := Lib.hid (fun W (hg : Grew w W) => slot_any v l a b n W (h.grew hg))
  have HE := Lib.hid (fun W (hg : Grew w W) => exits_any v l W (h.grew hg) (by omega))
  have HRE := Lib.hid (fun W => re_any ⟨true, a, b, c, d, n⟩ W)
  have hv : exv ⟨true, a, b, c, d, n⟩ = .agg #[.bool true, .int .i64 a, .int .i64 b, .int .i64 c, .int .i64 d, .int .i64 n] := rfl
  rw [hv] at HRE
  have HROW := Lib.hid (fun W (hg : Grew w W) => ex_row W v l (h.grew hg) hl)
  have HADD := Lib.hid (fun W r (hr : RowE W r l) => ex_add W r l ⟨true, a, b, c, d, n⟩ hr hl)
  rw [hv] at HADD
  have g1 : Grew w (((w.alloc (.cells #[.int .i64 a, .int .i64 b] 33)).alloc (.cells #[.int .i64 c, .int .i64 d] 33)).alloc (.cells #[.bool true, .int .i64 a, .int .i64 b, .int .i64 c, .int .i64 d, .int .i64 n] 41)) := by unfold Grew; go_grown
  have G1 := Lib.hid g1
  have BF := Lib.hid (keepB (heap_alloc_new w (.cells #[.int .i64 a, .int .i64 b] 33)) (show Grew _ (((w.alloc (.cells #[.int .i64 a, .int .i64 b] 33)).alloc (.cells #[.int .i64 c, .int .i64 d] 33)).alloc (.cells #[.bool true, .int .i64 a, .int .i64 b, .int .i64 c, .int .i64 d, .int .i64 n] 41)) by unfold Grew; go_grown))
  have BX := Lib.hid (heap_alloc2_new (w.alloc (.cells #[.int .i64 a, .int .i64 b] 33)) (.cells #[.int .i64 c, .int .i64 d] 33) (.cells #[.bool true, .int .i64 a, .int .i64 b, .int .i64 c, .int .i64 d, .int .i64 n] 41))
  have hsz : (w.alloc (.cells #[.int .i64 a, .int .i64 b] 33)).heap.size + 1 = w.heap.size + 2 := by simp
  rw [hsz] at BX
  unfold linkP
  simp only
  generalize (if exfree l = -1 then ([] : List Ex) else l.set (exfree l).toNat ⟨true, a, b, c, d, n⟩) = R at *
  generalize (if exfree l = -1 then (0 : Int) else exfree l) = ki at *
  generalize (if exfree l = -1 then (8 : Int) else 0) = er at *
  generalize exq [] l = p at *
  generalize okE ⟨true, a, b, c, d, n⟩ = q at *
  have hc := slE_cases l a b n
  have es : slE l a b n = fidx l (fun x => lead x a b n) := rfl
  rw [es] at hc ⊢
  generalize fidx l (fun x => lead x a b n) = s at *
  have HC := Lib.hid hc
  obtain ⟨A, cp, rfl, _⟩ := h.slice
  clear h g1 hv hl hsz es hc
  cases p with
  | false =>
    simp only [if_true]
    go_enter Try.func15, Try.ntmps15
    go_wp2_with fail
    refine (HE.out _ G1.out).mono ?_
    rintro e w1 ⟨rfl, hg⟩
    have G2 := Lib.hid (G1.out.trans hg)
    clear hg
    go_wp2
    go_returns
    exact ⟨_, rfl, rw_none _, G2.out⟩
  | true =>
    simp only [Bool.true_eq_false, if_false]
    cases q with
    | false =>
      simp only [if_true]
      go_enter Try.func15, Try.ntmps15
      go_wp2_with fail
      refine (HE.out _ G1.out).mono ?_
      rintro e w1 ⟨rfl, hg⟩
      have G2 := Lib.hid (G1.out.trans hg)
      have BX2 := Lib.hid (keepB BX.out hg)
      clear hg
      obtain ⟨c0, c1, c2, c3, c4, c5⟩ := it_cells BX2.out
      go_wp2_with fail
      refine (HRE.out _).mono ?_
      rintro e w3 ⟨rfl, hg⟩
      have G3 := Lib.hid (G2.out.trans hg)
      clear hg c0 c1 c2 c3 c4 c5
      go_wp2
      go_returns
      exact ⟨_, rfl, rw_none _, G3.out⟩
    | true =>
      simp only [Bool.true_eq_false, if_false]
      by_cases hs : s = -1
      · subst hs
        simp only [if_true]
        go_enter Try.func15, Try.ntmps15
        go_wp2_with fail
        refine (HE.out _ G1.out).mono ?_
        rintro e w1 ⟨rfl, hg⟩
        have G2 := Lib.hid (G1.out.trans hg)
        have BX2 := Lib.hid (keepB BX.out hg)
        have BF2 := Lib.hid (keepB BF.out hg)
        clear hg
        obtain ⟨c0, c1, c2, c3, c4, c5⟩ := it_cells BX2.out
        go_wp2_with fail
        refine (HRE.out _).mono ?_
        rintro e w3 ⟨rfl, hg⟩
        have G3 := Lib.hid (G2.out.trans hg)
        have BX3 := Lib.hid (keepB BX2.out hg)
        have BF3 := Lib.hid (keepB BF2.out hg)
        clear hg c0 c1 c2 c3 c4 c5
        obtain ⟨c0, c1⟩ := two_c BF3.out
        go_wp2_with fail
        refine (HS.out _ G3.out).mono ?_
        rintro e w4 ⟨rfl, hg⟩
        have G4 := Lib.hid (G3.out.trans hg)
        have BX4 := Lib.hid (keepB BX3.out hg)
        clear hg c0 c1
        go_wp2
        refine Facts.wp_region_text (by kernel_rfl) (by kernel_rfl) ?_
        apply Facts.Lex.exact [] _ (by kernel_rfl)
        · intro u W hC hK
          clear hK
          unfold Facts.one
          go_simp
          first | exact ⟨Grew.refl _, rfl⟩ | rfl
        simp only [Act.put, List.setIfInBounds_toArray, List.set_cons_zero, List.set_cons_succ, Nat.zero_add, Nat.reduceAdd]
        refine Facts.Lex.know [] (PtrE l) (by kernel_rfl) (fun _ _ _ ⟨r, e, h⟩ hg => ⟨r, e, h.grew hg⟩) ?_ ?_
        · intro u W hC hK
          have HC9 := Lib.hid (HROW.out W (G4.out.trans hC))
          clear hK
          unfold Facts.one
          go_simp
          refine HC9.out.mono ?_
          rintro e w' ⟨r, rfl, hr, hg⟩
          exact ⟨_, rfl, hg, ⟨r, rfl, hr⟩⟩
        simp only [Act.put, List.setIfInBounds_toArray, List.set_cons_zero, List.set_cons_succ, Nat.zero_add, Nat.reduceAdd]
        apply Facts.Lex.exact [] (.agg #[.bool true, .int .i64 a, .int .i64 b, .int .i64 c, .int .i64 d, .int .i64 n]) (by kernel_rfl)
        · intro u W hC hK
          clear hK
          obtain ⟨c0, c1, c2, c3, c4, c5⟩ := it_cells (keepB BX4.out hC)
          unfold Facts.one
          go_simp
          first | exact ⟨Grew.refl _, rfl⟩ | rfl
        simp only [Act.put, List.setIfInBounds_toArray, List.set_cons_zero, List.set_cons_succ, Nat.zero_add, Nat.reduceAdd]
        refine Facts.Lex.know [1] (TupE ki er R) (by kernel_rfl) (fun _ _ _ ⟨r, e, h⟩ hg => ⟨r, e, h.grew hg⟩) ?_ ?_
        · intro u W hC hK
          obtain ⟨r, hr, hrow⟩ : PtrE l (u 1) W := hK.1
          have HC9 := Lib.hid (HADD.out W r hrow)
          clear hK hrow
          unfold Facts.one
          go_simp
          try simp only [hr]
          refine HC9.out.mono ?_
          rintro e w' ⟨v', rfl, hi, hg⟩
          exact ⟨_, rfl, hg, ⟨v', rfl, hi⟩⟩
        simp only [Act.put, List.setIfInBounds_toArray, List.set_cons_zero, List.set_cons_succ, Nat.zero_add, Nat.reduceAdd]
        refine Facts.Lex.know [3] (fun v w => Exs w v R) (by kernel_rfl) (fun _ _ _ h hg => h.grew hg) ?_ ?_
        · intro u W hC hK
          obtain ⟨v', hv', hi⟩ : TupE ki er R (u 3) W := hK.1
          have HI := Lib.hid hi
          clear hK hi
          unfold Facts.one
          simp only [hv']
          go_simp
          exact ⟨Grew.refl _, HI.out⟩
        simp only [Act.put, List.setIfInBounds_toArray, List.set_cons_zero, List.set_cons_succ, Nat.zero_add, Nat.reduceAdd]
        apply Facts.Lex.exact [3] (.int .i64 ki) (by kernel_rfl)
        · intro u W hC hK
          obtain ⟨v', hv', hi⟩ : TupE ki er R (u 3) W := hK.1
          have HI := Lib.hid hi
          clear hK hi
          unfold Facts.one
          simp only [hv']
          go_simp
          first | exact ⟨Grew.refl _, rfl⟩ | rfl
        simp only [Act.put, List.setIfInBounds_toArray, List.set_cons_zero, List.set_cons_succ, Nat.zero_add, Nat.reduceAdd]
        apply Facts.Lex.exact [3] (.int .i64 er) (by kernel_rfl)
        · intro u W hC hK
          obtain ⟨v', hv', hi⟩ : TupE ki er R (u 3) W := hK.1
          have HI := Lib.hid hi
          clear hK hi
          unfold Facts.one
          simp only [hv']
          go_simp
          first | exact ⟨Grew.refl _, rfl⟩ | rfl
        simp only [Act.put, List.setIfInBounds_toArray, List.set_cons_zero, List.set_cons_succ, Nat.zero_add, Nat.reduceAdd]
        refine Facts.Lex.know [4] (fun v w => Exs w v R) (by kernel_rfl) (fun _ _ _ h hg => h.grew hg) ?_ ?_
        · intro u W hC hK
          have HY : Hid (Exs W (u 4) R) := Lib.hid hK.1
          clear hK
          unfold Facts.one
          go_simp
          exact ⟨Grew.refl _, HY.out⟩
        simp only [Act.put, List.setIfInBounds_toArray, List.set_cons_zero, List.set_cons_succ, Nat.zero_add, Nat.reduceAdd]
        apply Facts.Lex.exact [] _ (by kernel_rfl)
        · intro u W hC hK
          clear hK
          unfold Facts.one
          go_simp
          first | exact ⟨Grew.refl _, rfl⟩ | rfl
        simp only [Act.put, List.setIfInBounds_toArray, List.set_cons_zero, List.set_cons_succ, Nat.zero_add, Nat.reduceAdd]
        apply Facts.Lex.exact [] _ (by kernel_rfl)
        · intro u W hC hK
          clear hK
          unfold Facts.one
          go_simp
          first | exact ⟨Grew.refl _, rfl⟩ | rfl
        simp only [Act.put, List.setIfInBounds_toArray, List.set_cons_zero, List.set_cons_succ, Nat.zero_add, Nat.reduceAdd]
        refine Facts.Lex.done fun u W2 hC hL => ?_
        have HY : Hid (Exs W2 (u 7) R) := Lib.hid (hL _ (List.mem_cons_self ..))
        have G5 := Lib.hid (G4.out.trans hC)
        clear hC hL
        generalize u 7 = v7 at *
        go_wp2
        go_returns
        exact ⟨_, rfl, HY.out, G5.out⟩
      · rw [if_neg hs]
        have hs0 : 0 ≤ s := by
          rcases HC.out with h | ⟨k, h, _⟩
          · exact absurd h hs
          · omega
        clear hs
        go_enter Try.func15, Try.ntmps15
        go_wp2_with fail
        refine (HE.out _ G1.out).mono ?_
        rintro e w1 ⟨rfl, hg⟩
        have G2 := Lib.hid (G1.out.trans hg)
        have BX2 := Lib.hid (keepB BX.out hg)
        have BF2 := Lib.hid (keepB BF.out hg)
        clear hg
        obtain ⟨c0, c1, c2, c3, c4, c5⟩ := it_cells BX2.out
        go_wp2_with fail
        refine (HRE.out _).mono ?_
        rintro e w3 ⟨rfl, hg⟩
        have G3 := Lib.hid (G2.out.trans hg)
        have BX3 := Lib.hid (keepB BX2.out hg)
        have BF3 := Lib.hid (keepB BF2.out hg)
        clear hg c0 c1 c2 c3 c4 c5
        obtain ⟨c0, c1⟩ := two_c BF3.out
        go_wp2_with fail
        refine (HS.out _ G3.out).mono ?_
        rintro e w4 ⟨rfl, hg⟩
        have G4 := Lib.hid (G3.out.trans hg)
        have BX4 := Lib.hid (keepB BX3.out hg)
        clear hg c0 c1
        go_wp2
        go_returns
        exact ⟨_, rfl, rw_none _, G4.out⟩
end Go.Proofs.Ytaolallfmjjoeaa.RG
