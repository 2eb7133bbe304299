/-
  Of rows of things: those that are there are those with a name, what is put at a slot is there, and all others are as they were: QuotaNames answers true.
  Conditions: a row's size.
-/
import Derived.Test.YtojoefdahkgojabThings2
namespace Go.Proofs.Ytojoefdahkgojab.NamesLaw
open Go Go.RowKit Go.Lib Go.Proofs.Ytojoefdahkgojab Go.Proofs.Ytojoefdahkgojab.Facts Go.Proofs.Ytojoefdahkgojab.Bytes Go.Proofs.Ytojoefdahkgojab.Ints Go.Proofs.Ytojoefdahkgojab.Things Go.Proofs.Ytojoefdahkgojab.Things2 Go.Proofs.Ytojoefdahkgojab.Alive
open _root_.Go.Proofs.Ytojoefdahkgojab.Slot (two_cells blk_new blk_keep)

theorem nm_same (T : List (ByteArray × Int)) (k : Nat) (s : ByteArray) (n : Int) (hk : k < T.length) : nm (T.set k (s, n)) k = s ∧ nn (T.set k (s, n)) k = n := by
  unfold nm nn
  simp [hk]
theorem nm_other (T : List (ByteArray × Int)) (k j : Nat) (s : ByteArray) (n : Int) (h : j ≠ k) : nm (T.set k (s, n)) j = nm T j ∧ nn (T.set k (s, n)) j = nn T j := by
  unfold nm nn
  rw [List.getElem?_set_ne (fun e => h e.symm)]
  exact ⟨rfl, rfl⟩

set_option maxRecDepth 100000 in
set_option maxHeartbeats 2000000 in
theorem law_out (w : World) (v : Value) (T : List (ByteArray × Int)) (i : Int) (s : ByteArray) (n : Int) (h : Ts w v T) (hl : T.length * 24 ≤ 140737488351232) (hi : ¬ (0 ≤ i ∧ i < T.length)) :
    Calls Try.prog 5 #[v, .int .i64 i, .agg #[.string s, .int .i64 n]] w fun e w' => e = .returned (.bool true) ∧ Grew w w' := by
  have ga : Grew w (w.alloc (.cells #[.string s, .int .i64 n] 43)) := by unfold Grew; go_grown
  have HOF := Lib.hid (of_any _ v T (h.grew ga) (by omega))
  have HPO : Hid (∀ W b, Row2 W b T → Calls Try.prog 21 #[.pointer (some ⟨b, 0, none⟩), .int .i64 i, .agg #[.string s, .int .i64 n]] W fun e w' => e = .returned (.tuple #[.slice none 0 0, .int .i64 1]) ∧ Grew W w') := Lib.hid fun W b hr => put_out W b T i s n hr hi
  have HHO : Hid (∀ W b, Row2 W b T → Calls Try.prog 22 #[.pointer (some ⟨b, 0, none⟩), .int .i64 i] W fun e w' => e = .returned (.bool false) ∧ Grew W w') := Lib.hid fun W b hr => has_out W b T i hr hi
  have HBX : Hid ((w.alloc (.cells #[.string s, .int .i64 n] 43)).heap[w.heap.size]? = some (.cells #[.string s, .int .i64 n] 43 (0, 0))) := Lib.hid (blk_new w _)
  have HGA := Lib.hid ga
  obtain ⟨A, c, rfl, hlc, hcm, _⟩ := h
  unfold maxLen at hcm
  clear ga
  by_cases h0 : i < 0
  · clear hi
    go_enter Try.func5, Try.ntmps5
    go_wp2_with fail
    refine (HOF.out).mono ?_
    rintro e w1 ⟨b, rfl, hr, hg⟩
    have HR := Lib.hid hr
    have G1 := Lib.hid (HGA.out.trans hg)
    obtain ⟨x0, x1⟩ := two_cells (blk_keep HBX.out hg)
    clear hr hg
    go_wp2_with fail
    refine (HPO.out _ _ HR.out).mono ?_
    rintro e w2 ⟨rfl, hg⟩
    have G2 := Lib.hid (G1.out.trans hg)
    have K2 := Lib.hid hg
    clear hg x0 x1
    go_wp2_with fail
    refine (alive_any _).mono ?_
    rintro e w3 ⟨rfl, hg⟩
    have G3 := Lib.hid (G2.out.trans hg)
    have K3 := Lib.hid (K2.out.trans hg)
    clear hg
    go_wp2_with fail
    refine (HHO.out _ _ (HR.out.grew K3.out)).mono ?_
    rintro e w4 ⟨rfl, hg⟩
    have G4 := Lib.hid (G3.out.trans hg)
    clear hg
    go_wp2
    go_returns
    exact ⟨rfl, G4.out⟩
  · have h1 : (T.length : Int) ≤ i := by omega
    have h0' : decide (i < 0) = false := decide_eq_false h0
    clear hi
    go_enter Try.func5, Try.ntmps5
    go_wp2_with fail
    refine (HOF.out).mono ?_
    rintro e w1 ⟨b, rfl, hr, hg⟩
    have HR := Lib.hid hr
    have G1 := Lib.hid (HGA.out.trans hg)
    obtain ⟨x0, x1⟩ := two_cells (blk_keep HBX.out hg)
    clear hr hg
    go_wp2_with fail
    refine (HPO.out _ _ HR.out).mono ?_
    rintro e w2 ⟨rfl, hg⟩
    have G2 := Lib.hid (G1.out.trans hg)
    have K2 := Lib.hid hg
    clear hg x0 x1
    go_wp2_with fail
    refine (alive_any _).mono ?_
    rintro e w3 ⟨rfl, hg⟩
    have G3 := Lib.hid (G2.out.trans hg)
    have K3 := Lib.hid (K2.out.trans hg)
    clear hg
    go_wp2_with fail
    refine (HHO.out _ _ (HR.out.grew K3.out)).mono ?_
    rintro e w4 ⟨rfl, hg⟩
    have G4 := Lib.hid (G3.out.trans hg)
    clear hg
    go_wp2
    go_returns
    exact ⟨rfl, G4.out⟩

set_option maxRecDepth 100000 in
set_option maxHeartbeats 8000000 in
theorem law_in (w : World) (v : Value) (T : List (ByteArray × Int)) (k : Nat) (s : ByteArray) (n : Int) (h : Ts w v T) (hl : T.length * 24 ≤ 140737488351232) (hk : k < T.length) :
    Calls Try.prog 5 #[v, .int .i64 k, .agg #[.string s, .int .i64 n]] w fun e w' => e = .returned (.bool true) ∧ Grew w w' := by
  have ga : Grew w (w.alloc (.cells #[.string s, .int .i64 n] 43)) := by unfold Grew; go_grown
  have HTS := Lib.hid h
  have HOF := Lib.hid (of_any _ v T (h.grew ga) (by omega))
  have HPI : Hid (∀ W b, Row2 W b T → Calls Try.prog 21 #[.pointer (some ⟨b, 0, none⟩), .int .i64 k, .agg #[.string s, .int .i64 n]] W (Own2 W (T.set k (s, n)) fun v' => .tuple #[v', .int .i64 0])) := Lib.hid fun W b hr => put_in W b T k s n hr hk hl
  have HOF2 : Hid (∀ W v', Ts W v' (T.set k (s, n)) → Calls Try.prog 19 #[v', .func (.func 20) #[] #[]] W fun e w' => ∃ b, e = .returned (.pointer (some ⟨b, 0, none⟩)) ∧ Row2 w' b (T.set k (s, n)) ∧ Grew W w') := Lib.hid fun W v' hv => of_any W v' _ hv (by rw [List.length_set]; omega)
  have HH2 : Hid (∀ W b, Row2 W b (T.set k (s, n)) → Calls Try.prog 22 #[.pointer (some ⟨b, 0, none⟩), .int .i64 k] W fun e w' => e = .returned (.bool (named s)) ∧ Grew W w') := Lib.hid fun W b hr => by
    have := has_in W b _ k hr (by rw [List.length_set]; exact hk)
    rwa [(nm_same T k s n hk).1] at this
  have HCN : Hid (∀ W b, Row2 W b T → Calls Try.prog 23 #[.pointer (some ⟨b, 0, none⟩)] W fun e w' => e = .returned (.int .i64 ((upto T T.length).length : Int)) ∧ Grew W w') := Lib.hid fun W b hr => count_any W b T hr hl
  have HBX : Hid ((w.alloc (.cells #[.string s, .int .i64 n] 43)).heap[w.heap.size]? = some (.cells #[.string s, .int .i64 n] 43 (0, 0))) := Lib.hid (blk_new w _)
  have HGA := Lib.hid ga
  obtain ⟨A, c, rfl, hlc, hcm, _⟩ := h
  unfold maxLen at hcm
  clear ga
  have hk0 : ¬ ((k : Int) < 0) := by omega
  have hk1 : ¬ ((T.length : Int) ≤ k) := by omega
  have hd0 : decide ((k : Int) < 0) = false := decide_eq_false hk0
  have hd1 : decide (T.length ≤ k) = false := decide_eq_false (by omega)
  have hnm : (!named s == !s.toList.isEmpty) = false := by
    unfold named
    cases s.toList.isEmpty <;> rfl
  go_enter Try.func5, Try.ntmps5
  go_wp2_with fail
  refine HOF.out.mono ?_
  rintro e w1 ⟨b, rfl, hr, hg⟩
  have HR := Lib.hid hr
  have G1 := Lib.hid (HGA.out.trans hg)
  obtain ⟨x0, x1⟩ := two_cells (blk_keep HBX.out hg)
  have B1 := Lib.hid (blk_keep HBX.out hg)
  clear hr hg
  go_wp2_with fail
  refine (HPI.out _ _ HR.out).mono ?_
  rintro e w2 ⟨v', rfl, hown, hg⟩
  have I4 := Lib.hid (Ts.of_own hown rfl)
  have K2 := Lib.hid hg
  have G2 := Lib.hid (G1.out.trans hg)
  obtain ⟨a0, a1⟩ := two_cells (blk_keep B1.out hg)
  obtain ⟨ad2, c2, hv', _, n0, n1⟩ := I4.out.cell (k := k) (by rw [List.length_set]; exact hk)
  rw [(nm_same T k s n hk).1] at n0
  rw [(nm_same T k s n hk).2] at n1
  rw [List.length_set] at hv'
  subst hv'
  clear hown hg x0 x1
  go_wp2
  refine Facts.wp_region_text (by kernel_rfl) (by kernel_rfl) ?_
  repeat
    apply Facts.Lex.exact [] _ (by kernel_rfl)
    · intro u W hC _
      have j0 := cellG hC a0
      have j1 := cellG hC a1
      have j2 := cellG hC n0
      have j3 := cellG hC n1
      unfold Facts.one
      go_simp
      first | exact ⟨Grew.refl _, rfl⟩ | rfl
    simp only [Act.put, List.setIfInBounds_toArray, List.set_cons_zero, List.set_cons_succ, Nat.zero_add, Nat.reduceAdd]
  refine Facts.Lex.know [] (fun x W => ∃ b2, x = .pointer (some ⟨b2, 0, none⟩) ∧ Row2 W b2 (T.set k (s, n))) (by kernel_rfl) (fun _ _ _ h hg => by obtain ⟨b2, e, hr⟩ := h; exact ⟨b2, e, hr.grew hg⟩) ?_ ?_
  · intro u W hC _
    unfold Facts.one
    go_simp
    refine (HOF2.out W _ (I4.out.grew hC)).mono ?_
    rintro e w' ⟨b2, rfl, hr, hg⟩
    exact ⟨_, rfl, hg, b2, rfl, hr⟩
  simp only [Act.put, List.setIfInBounds_toArray, List.set_cons_zero, List.set_cons_succ, Nat.zero_add, Nat.reduceAdd]
  repeat
    apply Facts.Lex.exact [] _ (by kernel_rfl)
    · intro u W hC _
      unfold Facts.one
      go_simp
      first | exact ⟨Grew.refl _, rfl⟩ | rfl
    simp only [Act.put, List.setIfInBounds_toArray, List.set_cons_zero, List.set_cons_succ, Nat.zero_add, Nat.reduceAdd]
  apply Facts.Lex.exact [19] (.bool (named s)) (by kernel_rfl)
  · intro u W hC hK
    obtain ⟨b2, hu, hr⟩ : ∃ b2, u 19 = .pointer (some ⟨b2, 0, none⟩) ∧ Row2 W b2 (T.set k (s, n)) := hK.1
    have HU := hu
    unfold Facts.one
    go_simp
    refine (HH2.out W b2 hr).mono ?_
    rintro e w' ⟨rfl, hg⟩
    exact ⟨_, rfl, hg, rfl⟩
  simp only [Act.put, List.setIfInBounds_toArray, List.set_cons_zero, List.set_cons_succ, Nat.zero_add, Nat.reduceAdd]
  repeat
    apply Facts.Lex.exact [] _ (by kernel_rfl)
    · intro u W hC _
      have j0 := cellG hC a0
      have j1 := cellG hC a1
      have j2 := cellG hC n0
      have j3 := cellG hC n1
      unfold Facts.one
      go_simp
      first | exact ⟨Grew.refl _, rfl⟩ | rfl
    simp only [Act.put, List.setIfInBounds_toArray, List.set_cons_zero, List.set_cons_succ, Nat.zero_add, Nat.reduceAdd]
  refine Facts.Lex.done fun u W3 hC hL => ?_
  have G3 := Lib.hid (G2.out.trans hC)
  have K3 := Lib.hid (K2.out.trans hC)
  have I5 := Lib.hid (I4.out.grew hC)
  clear hC hL a0 a1 n0 n1
  go_wp2
  go_loopg [10, 11] T.length (fun g s10 s11 wx => ∃ j : Nat, j + g = T.length ∧ s11 = .int .i64 j ∧ s10 = .int .i64 ((upto T j).length : Int) ∧ Hid (Grew W3 wx))
  case atStart => exact ⟨0, by omega, rfl, rfl, Lib.hid (Grew.refl _)⟩
  case round =>
    obtain ⟨j, hjg, rfl, rfl, HG⟩ := hrel
    have HGJ : Hid (Grew w1 wr) := Lib.hid (K3.out.trans HG.out)
    cases gk with
    | zero =>
      have hjz : ¬ ((j : Int) < (T.length : Int)) := by omega
      have HJ : Hid (j = T.length) := Lib.hid (by omega)
      have HCQ : Hid (∀ W b, Row2 W b T → Calls Try.prog 23 #[.pointer (some ⟨b, 0, none⟩)] W fun e w' => e = .returned (.int .i64 ((upto T j).length : Int)) ∧ Grew W w') := by
        have := HCN.out
        rw [← HJ.out] at this
        exact Lib.hid this
      go_wp2_with fail
      refine (alive_any _).mono ?_
      rintro e w4 ⟨rfl, hg⟩
      have G4 := Lib.hid (HG.out.trans hg)
      have K4 := Lib.hid (HGJ.out.trans hg)
      clear hg
      go_wp2_with fail
      refine (HCQ.out _ _ (HR.out.grew K4.out)).mono ?_
      rintro e w5 ⟨rfl, hg⟩
      have G5 := Lib.hid (G4.out.trans hg)
      clear hg
      go_wp2
      go_returns
      exact ⟨rfl, G3.out.trans G5.out⟩
    | succ g =>
      have hjz : (j : Int) < (T.length : Int) := by omega
      have hjl : j < T.length := by omega
      obtain ⟨ad, cx, hv, _, l0, l1⟩ := (HTS.out.grew (G3.out.trans HG.out)).cell (k := j) hjl
      injection hv with e1 e2 e3
      subst e1 e3
      clear e2
      have HHJ : Hid (∀ W, Row2 W b T → Calls Try.prog 22 #[.pointer (some ⟨b, 0, none⟩), .int .i64 j] W fun e w' => e = .returned (.bool (named (nm T j))) ∧ Grew W w') := Lib.hid fun W hr => has_in W b T j hr hjl
      have HY := Lib.hid (upto_yes T j)
      have HN := Lib.hid (upto_no T j)
      have hul := upto_len T j
      obtain ⟨ad3, c3, hv3, _, m0, m1⟩ := (I5.out.grew HG.out).cell (k := j) (by rw [List.length_set]; exact hjl)
      have hv4 := hv3
      injection hv4 with e1 e2 e3
      injection e1 with e1
      subst e1 e3
      clear e2 hv3
      have HNO := Lib.hid (nm_other T k j s n)
      by_cases hjk : j = k
      · subst hjk
        clear m0 m1
        generalize nm T j = sj at *
        generalize nn T j = nj at *
        cases hn : named sj with
        | true =>
          have hname : sj.toList.isEmpty = false := by simpa [named] using hn
          have HE := Lib.hid (HY.out hn)
          rw [hn] at HHJ
          clear hn
          go_wp2
          refine Facts.wp_region_text (by kernel_rfl) (by kernel_rfl) ?_
          repeat
            apply Facts.Lex.exact [] _ (by kernel_rfl)
            · intro u W hC _
              unfold Facts.one
              go_simp
              first | exact ⟨Grew.refl _, rfl⟩ | rfl
            simp only [Act.put, List.setIfInBounds_toArray, List.set_cons_zero, List.set_cons_succ, Nat.zero_add, Nat.reduceAdd]
          apply Facts.Lex.exact [] (.bool true) (by kernel_rfl)
          · intro u W hC _
            unfold Facts.one
            go_simp
            refine (HHJ.out W (HR.out.grew (HGJ.out.trans hC))).mono ?_
            rintro e w' ⟨rfl, hg⟩
            exact ⟨_, rfl, hg, rfl⟩
          simp only [Act.put, List.setIfInBounds_toArray, List.set_cons_zero, List.set_cons_succ, Nat.zero_add, Nat.reduceAdd]
          repeat
            apply Facts.Lex.exact [] _ (by kernel_rfl)
            · intro u W hC _
              have j0 := cellG hC l0
              have j1 := cellG hC l1
              unfold Facts.one
              go_simp
              first | exact ⟨Grew.refl _, rfl⟩ | rfl
            simp only [Act.put, List.setIfInBounds_toArray, List.set_cons_zero, List.set_cons_succ, Nat.zero_add, Nat.reduceAdd]
          refine Facts.Lex.done fun u W4 hC hL => ?_
          have HG2 := Lib.hid (HG.out.trans hC)
          clear hC hL l0 l1
          go_wp2
          go_roundg g
          case measure => omega
          case rel =>
            refine ⟨j + 1, by omega, by first | rfl | simp, ?_, HG2⟩
            rw [HE.out]
            simp
        | false =>
          have hname : sj.toList.isEmpty = true := by simpa [named] using hn
          have HE := Lib.hid (HN.out hn)
          rw [hn] at HHJ
          clear hn
          go_wp2
          refine Facts.wp_region_text (by kernel_rfl) (by kernel_rfl) ?_
          repeat
            apply Facts.Lex.exact [] _ (by kernel_rfl)
            · intro u W hC _
              unfold Facts.one
              go_simp
              first | exact ⟨Grew.refl _, rfl⟩ | rfl
            simp only [Act.put, List.setIfInBounds_toArray, List.set_cons_zero, List.set_cons_succ, Nat.zero_add, Nat.reduceAdd]
          apply Facts.Lex.exact [] (.bool false) (by kernel_rfl)
          · intro u W hC _
            unfold Facts.one
            go_simp
            refine (HHJ.out W (HR.out.grew (HGJ.out.trans hC))).mono ?_
            rintro e w' ⟨rfl, hg⟩
            exact ⟨_, rfl, hg, rfl⟩
          simp only [Act.put, List.setIfInBounds_toArray, List.set_cons_zero, List.set_cons_succ, Nat.zero_add, Nat.reduceAdd]
          repeat
            apply Facts.Lex.exact [] _ (by kernel_rfl)
            · intro u W hC _
              have j0 := cellG hC l0
              have j1 := cellG hC l1
              unfold Facts.one
              go_simp
              first | exact ⟨Grew.refl _, rfl⟩ | rfl
            simp only [Act.put, List.setIfInBounds_toArray, List.set_cons_zero, List.set_cons_succ, Nat.zero_add, Nat.reduceAdd]
          refine Facts.Lex.done fun u W4 hC hL => ?_
          have HG2 := Lib.hid (HG.out.trans hC)
          clear hC hL l0 l1
          go_wp2
          go_roundg g
          case measure => omega
          case rel =>
            refine ⟨j + 1, by omega, by first | rfl | simp, ?_, HG2⟩
            rw [HE.out]
      · rw [(HNO.out hjk).1] at m0
        rw [(HNO.out hjk).2] at m1
        have hjk1 : ((j : Int) != (k : Int)) = true := by simp; omega
        generalize nm T j = sj at *
        generalize nn T j = nj at *
        cases hn : named sj with
        | true =>
          have hname : sj.toList.isEmpty = false := by simpa [named] using hn
          have HE := Lib.hid (HY.out hn)
          rw [hn] at HHJ
          clear hn
          go_wp2
          refine Facts.wp_region_text (by kernel_rfl) (by kernel_rfl) ?_
          repeat
            apply Facts.Lex.exact [] _ (by kernel_rfl)
            · intro u W hC _
              unfold Facts.one
              go_simp
              first | exact ⟨Grew.refl _, rfl⟩ | rfl
            simp only [Act.put, List.setIfInBounds_toArray, List.set_cons_zero, List.set_cons_succ, Nat.zero_add, Nat.reduceAdd]
          apply Facts.Lex.exact [] (.bool true) (by kernel_rfl)
          · intro u W hC _
            unfold Facts.one
            go_simp
            refine (HHJ.out W (HR.out.grew (HGJ.out.trans hC))).mono ?_
            rintro e w' ⟨rfl, hg⟩
            exact ⟨_, rfl, hg, rfl⟩
          simp only [Act.put, List.setIfInBounds_toArray, List.set_cons_zero, List.set_cons_succ, Nat.zero_add, Nat.reduceAdd]
          repeat
            apply Facts.Lex.exact [] _ (by kernel_rfl)
            · intro u W hC _
              have j0 := cellG hC l0
              have j1 := cellG hC l1
              have j2 := cellG hC m0
              have j3 := cellG hC m1
              unfold Facts.one
              go_simp
              first | exact ⟨Grew.refl _, rfl⟩ | rfl
            simp only [Act.put, List.setIfInBounds_toArray, List.set_cons_zero, List.set_cons_succ, Nat.zero_add, Nat.reduceAdd]
          refine Facts.Lex.done fun u W4 hC hL => ?_
          have HG2 := Lib.hid (HG.out.trans hC)
          clear hC hL l0 l1
          go_wp2
          go_roundg g
          case measure => omega
          case rel =>
            refine ⟨j + 1, by omega, by first | rfl | simp, ?_, HG2⟩
            rw [HE.out]
            simp
        | false =>
          have hname : sj.toList.isEmpty = true := by simpa [named] using hn
          have HE := Lib.hid (HN.out hn)
          rw [hn] at HHJ
          clear hn
          go_wp2
          refine Facts.wp_region_text (by kernel_rfl) (by kernel_rfl) ?_
          repeat
            apply Facts.Lex.exact [] _ (by kernel_rfl)
            · intro u W hC _
              unfold Facts.one
              go_simp
              first | exact ⟨Grew.refl _, rfl⟩ | rfl
            simp only [Act.put, List.setIfInBounds_toArray, List.set_cons_zero, List.set_cons_succ, Nat.zero_add, Nat.reduceAdd]
          apply Facts.Lex.exact [] (.bool false) (by kernel_rfl)
          · intro u W hC _
            unfold Facts.one
            go_simp
            refine (HHJ.out W (HR.out.grew (HGJ.out.trans hC))).mono ?_
            rintro e w' ⟨rfl, hg⟩
            exact ⟨_, rfl, hg, rfl⟩
          simp only [Act.put, List.setIfInBounds_toArray, List.set_cons_zero, List.set_cons_succ, Nat.zero_add, Nat.reduceAdd]
          repeat
            apply Facts.Lex.exact [] _ (by kernel_rfl)
            · intro u W hC _
              have j0 := cellG hC l0
              have j1 := cellG hC l1
              have j2 := cellG hC m0
              have j3 := cellG hC m1
              unfold Facts.one
              go_simp
              first | exact ⟨Grew.refl _, rfl⟩ | rfl
            simp only [Act.put, List.setIfInBounds_toArray, List.set_cons_zero, List.set_cons_succ, Nat.zero_add, Nat.reduceAdd]
          refine Facts.Lex.done fun u W4 hC hL => ?_
          have HG2 := Lib.hid (HG.out.trans hC)
          clear hC hL l0 l1
          go_wp2
          go_roundg g
          case measure => omega
          case rel =>
            refine ⟨j + 1, by omega, by first | rfl | simp, ?_, HG2⟩
            rw [HE.out]

theorem law_any (w : World) (v : Value) (T : List (ByteArray × Int)) (i : Int) (s : ByteArray) (n : Int) (h : Ts w v T) (hl : T.length * 24 ≤ 140737488351232) :
    Calls Try.prog 5 #[v, .int .i64 i, .agg #[.string s, .int .i64 n]] w fun e w' => e = .returned (.bool true) ∧ Grew w w' := by
  by_cases hi : 0 ≤ i ∧ i < T.length
  · obtain ⟨k, rfl⟩ := Int.eq_ofNat_of_zero_le hi.1
    exact law_in w v T k s n h hl (by omega)
  · exact law_out w v T i s n h hl hi
end Go.Proofs.Ytojoefdahkgojab.NamesLaw
