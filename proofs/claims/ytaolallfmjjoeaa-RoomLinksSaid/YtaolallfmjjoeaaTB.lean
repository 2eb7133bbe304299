/-
  Who may hold an item, and which items may be: what the program's small functions answer.
  Conditions: a name's size.
-/
import Derived.Test.YtaolallfmjjoeaaTP
import Derived.WalkMore
import Derived.Lib.SlicesS
namespace Go.Proofs.Ytaolallfmjjoeaa.TB
set_option maxRecDepth 100000
open Go Go.RowKit Go.Lib Go.Proofs.Ytaolallfmjjoeaa Go.Proofs.Ytaolallfmjjoeaa.Facts Go.Proofs.Ytaolallfmjjoeaa.Ints Go.Proofs.Ytaolallfmjjoeaa.TI Go.Proofs.Ytaolallfmjjoeaa.TP

/-- A holder's four cells. -/
theorem ho_cells {W : World} {B t : Nat} {a b c d : Value} (h : W.heap[B]? = some (.cells #[a, b, c, d] t (0, 0))) :
    W.cell? ⟨B, 0, none⟩ = some a ∧ W.cell? ⟨B, 1, none⟩ = some b ∧ W.cell? ⟨B, 2, none⟩ = some c ∧ W.cell? ⟨B, 3, none⟩ = some d := by
  refine ⟨?_, ?_, ?_, ?_⟩
  all_goals rw [cell_of_row _ _ _ _ _ _ h]; rfl
/-- An item's six cells. -/
theorem it_cells {W : World} {B t : Nat} {a b c d x y : Value} (h : W.heap[B]? = some (.cells #[a, b, c, d, x, y] t (0, 0))) :
    W.cell? ⟨B, 0, none⟩ = some a ∧ W.cell? ⟨B, 1, none⟩ = some b ∧ W.cell? ⟨B, 2, none⟩ = some c ∧ W.cell? ⟨B, 3, none⟩ = some d ∧ W.cell? ⟨B, 4, none⟩ = some x ∧ W.cell? ⟨B, 5, none⟩ = some y := by
  refine ⟨?_, ?_, ?_, ?_, ?_, ?_⟩
  all_goals rw [cell_of_row _ _ _ _ _ _ h]; rfl

theorem num_cases (n : Int) : (0 ≤ n ∧ n ≤ 127 ∧ num n = true) ∨ (¬ 0 ≤ n ∧ num n = false) ∨ (0 ≤ n ∧ ¬ n ≤ 127 ∧ num n = false) := by
  unfold num
  by_cases h : 0 ≤ n
  · by_cases h2 : n ≤ 127
    · exact .inl ⟨h, h2, by simp [h, h2]⟩
    · exact .inr (.inr ⟨h, h2, by simp [h2]⟩)
  · exact .inr (.inl ⟨h, by simp [h]⟩)
theorem num_any (n : Int) (w : World) : Calls Try.prog 111 #[.int .i64 n] w fun e w' => e = .returned (.bool (num n)) ∧ Grew w w' := by
  rcases num_cases n with ⟨h, h2, e⟩ | ⟨h, e⟩ | ⟨h, h2, e⟩
  all_goals
    rw [e]
    clear e
    go_enter Try.func111, Try.ntmps111
    go_wp2
    go_returns
    exact ⟨rfl, Grew.refl _⟩
theorem hand_any (n : Int) (w : World) : Calls Try.prog 56 #[.int .i64 n] w fun e w' => e = .returned (hv (hand n)) ∧ Grew w w' := by
  unfold hv hand
  go_enter Try.func56, Try.ntmps56
  go_wp2
  go_returns
  exact ⟨rfl, by unfold Grew; go_grown⟩
theorem deal_any (n : Int) (w : World) : Calls Try.prog 71 #[.int .i64 n] w fun e w' => e = .returned (hv (deal n)) ∧ Grew w w' := by
  unfold hv deal
  go_enter Try.func71, Try.ntmps71
  go_wp2
  go_returns
  exact ⟨rfl, by unfold Grew; go_grown⟩
theorem floor_any (a b : Int) (w : World) : Calls Try.prog 70 #[.agg #[.int .i64 a, .int .i64 b]] w fun e w' => e = .returned (hv (floor a b)) ∧ Grew w w' := by
  unfold hv floor
  go_enter Try.func70, Try.ntmps70
  go_wp2
  go_returns
  exact ⟨rfl, by unfold Grew; go_grown⟩
theorem hol_any (x : It) (w : World) : Calls Try.prog 99 #[iv6 x] w fun e w' => e = .returned (hv (hol x)) ∧ Grew w w' := by
  unfold hv hol iv6
  obtain ⟨u, s, k, n, a, b⟩ := x
  go_enter Try.func99, Try.ntmps99
  go_wp2
  go_returns
  exact ⟨rfl, by unfold Grew; go_grown⟩
theorem item_any (h : Ho) (s : ByteArray) (w : World) : Calls Try.prog 59 #[hv h, .string s] w fun e w' => e = .returned (iv6 ⟨true, s, h.kind, h.who, h.lab, h.slot⟩) ∧ Grew w w' := by
  unfold hv iv6
  obtain ⟨k, n, a, b⟩ := h
  go_enter Try.func59, Try.ntmps59
  go_wp2
  go_returns
  exact ⟨rfl, by unfold Grew; go_grown⟩

theorem eqI (x y : It) (W : World) : (binOp .eql 67 (iv6 x) (iv6 y)).run Try.prog W = .ok (.bool (decide (x = y))) W := by
  have h : decide (x = y) = (decide (x.used = y.used) && (decide (x.name = y.name) && (decide (x.kind = y.kind) && (decide (x.who = y.who) && (decide (x.lab = y.lab) && decide (x.slot = y.slot)))))) := by
    cases x
    cases y
    rw [Bool.eq_iff_iff]
    simp [It.mk.injEq]
  rw [h]
  clear h
  unfold iv6
  obtain ⟨u, s, k, n, a, b⟩ := x
  obtain ⟨u2, s2, k2, n2, a2, b2⟩ := y
  have hs : s.toList = s2.toList ↔ s = s2 := by simpa using Lib.bytes_beq_iff s s2
  go_simp
  by_cases h0 : u = u2 <;> by_cases h9 : s = s2 <;> by_cases h1 : k = k2 <;> by_cases h2 : n = n2 <;> by_cases h3 : a = a2 <;> by_cases h4 : b = b2 <;> simp [h0, h1, h2, h3, h4, h9]
theorem eqH (x y : Ho) (W : World) : (binOp .eql 89 (hv x) (hv y)).run Try.prog W = .ok (.bool (decide (x = y))) W := by
  have h : decide (x = y) = (decide (x.kind = y.kind) && (decide (x.who = y.who) && (decide (x.lab = y.lab) && decide (x.slot = y.slot)))) := by
    cases x
    cases y
    rw [Bool.eq_iff_iff]
    simp
  rw [h]
  clear h
  unfold hv
  obtain ⟨k, n, a, b⟩ := x
  obtain ⟨k2, n2, a2, b2⟩ := y
  go_simp
  by_cases h1 : k = k2 <;> by_cases h2 : n = n2 <;> by_cases h3 : a = a2 <;> by_cases h4 : b = b2 <;> simp [h1, h2, h3, h4]
theorem okH_is (k n a b : Int) : okH ⟨k, n, a, b⟩ = (num n && num a && num b && (decide (k = 1 ∧ a = 0 ∧ b = 0) || decide (k = 2 ∧ n = 0) || decide (k = 3 ∧ a = 0 ∧ b = 0))) := by
  unfold okH hand floor deal
  congr 1
  congr 1
  · congr 1
    · rw [decide_eq_decide]; simp
    · rw [decide_eq_decide]; simp
  · rw [decide_eq_decide]; simp

set_option maxHeartbeats 1000000 in
theorem okH_any (h : Ho) (w : World) : Calls Try.prog 94 #[hv h] w fun e w' => e = .returned (.bool (okH h)) ∧ Grew w w' := by
  obtain ⟨k, n, a, b⟩ := h
  rw [okH_is]
  unfold hv
  have G0 : Hid (Grew w (w.alloc (.cells #[.int .i64 k, .int .i64 n, .int .i64 a, .int .i64 b] 89))) := Lib.hid (by unfold Grew; go_grown)
  have A0 : Hid ((w.alloc (.cells #[.int .i64 k, .int .i64 n, .int .i64 a, .int .i64 b] 89)).heap[w.heap.size]? = some (.cells #[.int .i64 k, .int .i64 n, .int .i64 a, .int .i64 b] 89 (0, 0))) := Lib.hid (heap_alloc_new w _)
  have HN := Lib.hid (fun W => num_any n W)
  have HA := Lib.hid (fun W => num_any a W)
  have HB := Lib.hid (fun W => num_any b W)
  have HH := Lib.hid (fun W => hand_any n W)
  have HF := Lib.hid (fun W => floor_any a b W)
  have HD := Lib.hid (fun W => deal_any n W)
  generalize num n = p at *
  generalize num a = q at *
  generalize num b = r at *
  cases p with
  | false =>
    go_enter Try.func94, Try.ntmps94
    go_wp2_with fail
    refine (HN.out _).mono ?_
    rintro e w1 ⟨rfl, hg1⟩
    have G1 := Lib.hid (G0.out.trans hg1)
    have A1 := Lib.hid (keepB A0.out hg1)
    clear hg1
    obtain ⟨c0, c1, c2, c3⟩ := ho_cells A1.out
    clear c0 c1 c2 c3
    go_wp2
    go_returns
    exact ⟨by simp, G1.out⟩
  | true =>
  cases q with
  | false =>
    go_enter Try.func94, Try.ntmps94
    go_wp2_with fail
    refine (HN.out _).mono ?_
    rintro e w1 ⟨rfl, hg1⟩
    have G1 := Lib.hid (G0.out.trans hg1)
    have A1 := Lib.hid (keepB A0.out hg1)
    clear hg1
    obtain ⟨c0, c1, c2, c3⟩ := ho_cells A1.out
    go_wp2_with fail
    refine (HA.out _).mono ?_
    rintro e w2 ⟨rfl, hg2⟩
    have G2 := Lib.hid (G1.out.trans hg2)
    have A2 := Lib.hid (keepB A1.out hg2)
    clear hg2
    obtain ⟨c0, c1, c2, c3⟩ := ho_cells A2.out
    clear c0 c1 c2 c3
    go_wp2
    go_returns
    exact ⟨by simp, G2.out⟩
  | true =>
  cases r with
  | false =>
    go_enter Try.func94, Try.ntmps94
    go_wp2_with fail
    refine (HN.out _).mono ?_
    rintro e w1 ⟨rfl, hg1⟩
    have G1 := Lib.hid (G0.out.trans hg1)
    have A1 := Lib.hid (keepB A0.out hg1)
    clear hg1
    obtain ⟨c0, c1, c2, c3⟩ := ho_cells A1.out
    go_wp2_with fail
    refine (HA.out _).mono ?_
    rintro e w2 ⟨rfl, hg2⟩
    have G2 := Lib.hid (G1.out.trans hg2)
    have A2 := Lib.hid (keepB A1.out hg2)
    clear hg2
    obtain ⟨c0, c1, c2, c3⟩ := ho_cells A2.out
    go_wp2_with fail
    refine (HB.out _).mono ?_
    rintro e w3 ⟨rfl, hg3⟩
    have G3 := Lib.hid (G2.out.trans hg3)
    have A3 := Lib.hid (keepB A2.out hg3)
    clear hg3
    obtain ⟨c0, c1, c2, c3⟩ := ho_cells A3.out
    clear c0 c1 c2 c3
    go_wp2
    go_returns
    exact ⟨by simp, G3.out⟩
  | true =>
    unfold hv hand at HH
    unfold hv floor at HF
    unfold hv deal at HD
    by_cases h1 : k = 1 ∧ a = 0 ∧ b = 0
    · obtain ⟨rfl, rfl, rfl⟩ := h1
      go_enter Try.func94, Try.ntmps94
      go_wp2_with fail
      refine (HN.out _).mono ?_
      rintro e w1 ⟨rfl, hg1⟩
      have G1 := Lib.hid (G0.out.trans hg1)
      have A1 := Lib.hid (keepB A0.out hg1)
      clear hg1
      obtain ⟨c0, c1, c2, c3⟩ := ho_cells A1.out
      go_wp2_with fail
      refine (HA.out _).mono ?_
      rintro e w2 ⟨rfl, hg2⟩
      have G2 := Lib.hid (G1.out.trans hg2)
      have A2 := Lib.hid (keepB A1.out hg2)
      clear hg2
      obtain ⟨c0, c1, c2, c3⟩ := ho_cells A2.out
      go_wp2_with fail
      refine (HB.out _).mono ?_
      rintro e w3 ⟨rfl, hg3⟩
      have G3 := Lib.hid (G2.out.trans hg3)
      have A3 := Lib.hid (keepB A2.out hg3)
      clear hg3
      obtain ⟨c0, c1, c2, c3⟩ := ho_cells A3.out
      go_wp2
      refine Facts.wp_region_text (by kernel_rfl) (by kernel_rfl) ?_
      iterate 3
        apply Facts.Lex.exact [] _ (by kernel_rfl)
        · intro u W hC _
          have j0 := cellB hC c0
          have j1 := cellB hC c1
          have j2 := cellB hC c2
          have j3 := cellB hC c3
          unfold Facts.one
          go_simp
          first | exact ⟨Grew.refl _, rfl⟩ | rfl
        simp only [Act.put, List.setIfInBounds_toArray, List.set_cons_zero, List.set_cons_succ, Nat.zero_add, Nat.reduceAdd]
      apply Facts.Lex.exact [] _ (by kernel_rfl)
      · intro u W hC _
        have j0 := cellB hC c0
        have j1 := cellB hC c1
        have j2 := cellB hC c2
        have j3 := cellB hC c3
        unfold Facts.one
        go_simp
        exact ((HH.out W).mono fun e w' ⟨he, hg⟩ => ⟨_, he, hg, rfl⟩)
      simp only [Act.put, List.setIfInBounds_toArray, List.set_cons_zero, List.set_cons_succ, Nat.reduceAdd]
      iterate 16
        apply Facts.Lex.exact [] _ (by kernel_rfl)
        · intro u W hC _
          have j0 := cellB hC c0
          have j1 := cellB hC c1
          have j2 := cellB hC c2
          have j3 := cellB hC c3
          unfold Facts.one
          go_simp
          first | exact ⟨Grew.refl _, rfl⟩ | rfl
        simp only [Act.put, List.setIfInBounds_toArray, List.set_cons_zero, List.set_cons_succ, Nat.reduceAdd]
      refine Facts.Lex.done fun u W2 hC hL => ?_
      have G5 := Lib.hid (G3.out.trans hC)
      clear hC hL c0 c1 c2 c3
      go_wp2
      go_returns
      exact ⟨by simp, G5.out⟩
    have HP1 := Lib.hid h1
    by_cases h2 : k = 2 ∧ n = 0
    · obtain ⟨rfl, rfl⟩ := h2
      clear h1
      go_enter Try.func94, Try.ntmps94
      go_wp2_with fail
      refine (HN.out _).mono ?_
      rintro e w1 ⟨rfl, hg1⟩
      have G1 := Lib.hid (G0.out.trans hg1)
      have A1 := Lib.hid (keepB A0.out hg1)
      clear hg1
      obtain ⟨c0, c1, c2, c3⟩ := ho_cells A1.out
      go_wp2_with fail
      refine (HA.out _).mono ?_
      rintro e w2 ⟨rfl, hg2⟩
      have G2 := Lib.hid (G1.out.trans hg2)
      have A2 := Lib.hid (keepB A1.out hg2)
      clear hg2
      obtain ⟨c0, c1, c2, c3⟩ := ho_cells A2.out
      go_wp2_with fail
      refine (HB.out _).mono ?_
      rintro e w3 ⟨rfl, hg3⟩
      have G3 := Lib.hid (G2.out.trans hg3)
      have A3 := Lib.hid (keepB A2.out hg3)
      clear hg3
      obtain ⟨c0, c1, c2, c3⟩ := ho_cells A3.out
      go_wp2
      refine Facts.wp_region_text (by kernel_rfl) (by kernel_rfl) ?_
      iterate 3
        apply Facts.Lex.exact [] _ (by kernel_rfl)
        · intro u W hC _
          have j0 := cellB hC c0
          have j1 := cellB hC c1
          have j2 := cellB hC c2
          have j3 := cellB hC c3
          unfold Facts.one
          go_simp
          first | exact ⟨Grew.refl _, rfl⟩ | rfl
        simp only [Act.put, List.setIfInBounds_toArray, List.set_cons_zero, List.set_cons_succ, Nat.zero_add, Nat.reduceAdd]
      apply Facts.Lex.exact [] _ (by kernel_rfl)
      · intro u W hC _
        have j0 := cellB hC c0
        have j1 := cellB hC c1
        have j2 := cellB hC c2
        have j3 := cellB hC c3
        unfold Facts.one
        go_simp
        exact ((HH.out W).mono fun e w' ⟨he, hg⟩ => ⟨_, he, hg, rfl⟩)
      simp only [Act.put, List.setIfInBounds_toArray, List.set_cons_zero, List.set_cons_succ, Nat.reduceAdd]
      apply Facts.Lex.exact [] (.bool false) (by kernel_rfl)
      · intro u W hC _
        unfold Facts.one
        go_simp
        repeat' split
        all_goals first | exact ⟨Grew.refl _, rfl⟩ | (exfalso; have := (HP1).out; omega)
      simp only [Act.put, List.setIfInBounds_toArray, List.set_cons_zero, List.set_cons_succ, Nat.reduceAdd]
      iterate 4
        apply Facts.Lex.exact [] _ (by kernel_rfl)
        · intro u W hC _
          have j0 := cellB hC c0
          have j1 := cellB hC c1
          have j2 := cellB hC c2
          have j3 := cellB hC c3
          unfold Facts.one
          go_simp
          first | exact ⟨Grew.refl _, rfl⟩ | rfl
        simp only [Act.put, List.setIfInBounds_toArray, List.set_cons_zero, List.set_cons_succ, Nat.reduceAdd]
      apply Facts.Lex.exact [] _ (by kernel_rfl)
      · intro u W hC _
        have j0 := cellB hC c0
        have j1 := cellB hC c1
        have j2 := cellB hC c2
        have j3 := cellB hC c3
        unfold Facts.one
        go_simp
        exact ((HF.out W).mono fun e w' ⟨he, hg⟩ => ⟨_, he, hg, rfl⟩)
      simp only [Act.put, List.setIfInBounds_toArray, List.set_cons_zero, List.set_cons_succ, Nat.reduceAdd]
      iterate 10
        apply Facts.Lex.exact [] _ (by kernel_rfl)
        · intro u W hC _
          have j0 := cellB hC c0
          have j1 := cellB hC c1
          have j2 := cellB hC c2
          have j3 := cellB hC c3
          unfold Facts.one
          go_simp
          first | exact ⟨Grew.refl _, rfl⟩ | rfl
        simp only [Act.put, List.setIfInBounds_toArray, List.set_cons_zero, List.set_cons_succ, Nat.reduceAdd]
      refine Facts.Lex.done fun u W2 hC hL => ?_
      have G5 := Lib.hid (G3.out.trans hC)
      clear hC hL c0 c1 c2 c3
      go_wp2
      go_returns
      exact ⟨by simp, G5.out⟩
    have HP2 := Lib.hid h2
    by_cases h3 : k = 3 ∧ a = 0 ∧ b = 0
    · obtain ⟨rfl, rfl, rfl⟩ := h3
      clear h1 h2
      go_enter Try.func94, Try.ntmps94
      go_wp2_with fail
      refine (HN.out _).mono ?_
      rintro e w1 ⟨rfl, hg1⟩
      have G1 := Lib.hid (G0.out.trans hg1)
      have A1 := Lib.hid (keepB A0.out hg1)
      clear hg1
      obtain ⟨c0, c1, c2, c3⟩ := ho_cells A1.out
      go_wp2_with fail
      refine (HA.out _).mono ?_
      rintro e w2 ⟨rfl, hg2⟩
      have G2 := Lib.hid (G1.out.trans hg2)
      have A2 := Lib.hid (keepB A1.out hg2)
      clear hg2
      obtain ⟨c0, c1, c2, c3⟩ := ho_cells A2.out
      go_wp2_with fail
      refine (HB.out _).mono ?_
      rintro e w3 ⟨rfl, hg3⟩
      have G3 := Lib.hid (G2.out.trans hg3)
      have A3 := Lib.hid (keepB A2.out hg3)
      clear hg3
      obtain ⟨c0, c1, c2, c3⟩ := ho_cells A3.out
      go_wp2
      refine Facts.wp_region_text (by kernel_rfl) (by kernel_rfl) ?_
      iterate 3
        apply Facts.Lex.exact [] _ (by kernel_rfl)
        · intro u W hC _
          have j0 := cellB hC c0
          have j1 := cellB hC c1
          have j2 := cellB hC c2
          have j3 := cellB hC c3
          unfold Facts.one
          go_simp
          first | exact ⟨Grew.refl _, rfl⟩ | rfl
        simp only [Act.put, List.setIfInBounds_toArray, List.set_cons_zero, List.set_cons_succ, Nat.zero_add, Nat.reduceAdd]
      apply Facts.Lex.exact [] _ (by kernel_rfl)
      · intro u W hC _
        have j0 := cellB hC c0
        have j1 := cellB hC c1
        have j2 := cellB hC c2
        have j3 := cellB hC c3
        unfold Facts.one
        go_simp
        exact ((HH.out W).mono fun e w' ⟨he, hg⟩ => ⟨_, he, hg, rfl⟩)
      simp only [Act.put, List.setIfInBounds_toArray, List.set_cons_zero, List.set_cons_succ, Nat.reduceAdd]
      apply Facts.Lex.exact [] (.bool false) (by kernel_rfl)
      · intro u W hC _
        unfold Facts.one
        go_simp
        repeat' split
        all_goals first | exact ⟨Grew.refl _, rfl⟩ | (exfalso; have := (HP1).out; omega)
      simp only [Act.put, List.setIfInBounds_toArray, List.set_cons_zero, List.set_cons_succ, Nat.reduceAdd]
      iterate 4
        apply Facts.Lex.exact [] _ (by kernel_rfl)
        · intro u W hC _
          have j0 := cellB hC c0
          have j1 := cellB hC c1
          have j2 := cellB hC c2
          have j3 := cellB hC c3
          unfold Facts.one
          go_simp
          first | exact ⟨Grew.refl _, rfl⟩ | rfl
        simp only [Act.put, List.setIfInBounds_toArray, List.set_cons_zero, List.set_cons_succ, Nat.reduceAdd]
      apply Facts.Lex.exact [] _ (by kernel_rfl)
      · intro u W hC _
        have j0 := cellB hC c0
        have j1 := cellB hC c1
        have j2 := cellB hC c2
        have j3 := cellB hC c3
        unfold Facts.one
        go_simp
        exact ((HF.out W).mono fun e w' ⟨he, hg⟩ => ⟨_, he, hg, rfl⟩)
      simp only [Act.put, List.setIfInBounds_toArray, List.set_cons_zero, List.set_cons_succ, Nat.reduceAdd]
      apply Facts.Lex.exact [] (.bool false) (by kernel_rfl)
      · intro u W hC _
        unfold Facts.one
        go_simp
        repeat' split
        all_goals first | exact ⟨Grew.refl _, rfl⟩ | (exfalso; have := (HP2).out; omega)
      simp only [Act.put, List.setIfInBounds_toArray, List.set_cons_zero, List.set_cons_succ, Nat.reduceAdd]
      iterate 5
        apply Facts.Lex.exact [] _ (by kernel_rfl)
        · intro u W hC _
          have j0 := cellB hC c0
          have j1 := cellB hC c1
          have j2 := cellB hC c2
          have j3 := cellB hC c3
          unfold Facts.one
          go_simp
          first | exact ⟨Grew.refl _, rfl⟩ | rfl
        simp only [Act.put, List.setIfInBounds_toArray, List.set_cons_zero, List.set_cons_succ, Nat.reduceAdd]
      apply Facts.Lex.exact [] _ (by kernel_rfl)
      · intro u W hC _
        have j0 := cellB hC c0
        have j1 := cellB hC c1
        have j2 := cellB hC c2
        have j3 := cellB hC c3
        unfold Facts.one
        go_simp
        exact ((HD.out W).mono fun e w' ⟨he, hg⟩ => ⟨_, he, hg, rfl⟩)
      simp only [Act.put, List.setIfInBounds_toArray, List.set_cons_zero, List.set_cons_succ, Nat.reduceAdd]
      iterate 3
        apply Facts.Lex.exact [] _ (by kernel_rfl)
        · intro u W hC _
          have j0 := cellB hC c0
          have j1 := cellB hC c1
          have j2 := cellB hC c2
          have j3 := cellB hC c3
          unfold Facts.one
          go_simp
          first | exact ⟨Grew.refl _, rfl⟩ | rfl
        simp only [Act.put, List.setIfInBounds_toArray, List.set_cons_zero, List.set_cons_succ, Nat.reduceAdd]
      refine Facts.Lex.done fun u W2 hC hL => ?_
      have G5 := Lib.hid (G3.out.trans hC)
      clear hC hL c0 c1 c2 c3
      go_wp2
      go_returns
      exact ⟨by simp, G5.out⟩
    have HP3 := Lib.hid h3
    rw [decide_eq_false h1, decide_eq_false h2, decide_eq_false h3]
    clear h1 h2 h3
    go_enter Try.func94, Try.ntmps94
    go_wp2_with fail
    refine (HN.out _).mono ?_
    rintro e w1 ⟨rfl, hg1⟩
    have G1 := Lib.hid (G0.out.trans hg1)
    have A1 := Lib.hid (keepB A0.out hg1)
    clear hg1
    obtain ⟨c0, c1, c2, c3⟩ := ho_cells A1.out
    go_wp2_with fail
    refine (HA.out _).mono ?_
    rintro e w2 ⟨rfl, hg2⟩
    have G2 := Lib.hid (G1.out.trans hg2)
    have A2 := Lib.hid (keepB A1.out hg2)
    clear hg2
    obtain ⟨c0, c1, c2, c3⟩ := ho_cells A2.out
    go_wp2_with fail
    refine (HB.out _).mono ?_
    rintro e w3 ⟨rfl, hg3⟩
    have G3 := Lib.hid (G2.out.trans hg3)
    have A3 := Lib.hid (keepB A2.out hg3)
    clear hg3
    obtain ⟨c0, c1, c2, c3⟩ := ho_cells A3.out
    go_wp2
    refine Facts.wp_region_text (by kernel_rfl) (by kernel_rfl) ?_
    iterate 3
      apply Facts.Lex.exact [] _ (by kernel_rfl)
      · intro u W hC _
        have j0 := cellB hC c0
        have j1 := cellB hC c1
        have j2 := cellB hC c2
        have j3 := cellB hC c3
        unfold Facts.one
        go_simp
        first | exact ⟨Grew.refl _, rfl⟩ | rfl
      simp only [Act.put, List.setIfInBounds_toArray, List.set_cons_zero, List.set_cons_succ, Nat.zero_add, Nat.reduceAdd]
    apply Facts.Lex.exact [] _ (by kernel_rfl)
    · intro u W hC _
      have j0 := cellB hC c0
      have j1 := cellB hC c1
      have j2 := cellB hC c2
      have j3 := cellB hC c3
      unfold Facts.one
      go_simp
      exact ((HH.out W).mono fun e w' ⟨he, hg⟩ => ⟨_, he, hg, rfl⟩)
    simp only [Act.put, List.setIfInBounds_toArray, List.set_cons_zero, List.set_cons_succ, Nat.reduceAdd]
    apply Facts.Lex.exact [] (.bool false) (by kernel_rfl)
    · intro u W hC _
      unfold Facts.one
      go_simp
      repeat' split
      all_goals first | exact ⟨Grew.refl _, rfl⟩ | (exfalso; have := (HP1).out; omega)
    simp only [Act.put, List.setIfInBounds_toArray, List.set_cons_zero, List.set_cons_succ, Nat.reduceAdd]
    iterate 4
      apply Facts.Lex.exact [] _ (by kernel_rfl)
      · intro u W hC _
        have j0 := cellB hC c0
        have j1 := cellB hC c1
        have j2 := cellB hC c2
        have j3 := cellB hC c3
        unfold Facts.one
        go_simp
        first | exact ⟨Grew.refl _, rfl⟩ | rfl
      simp only [Act.put, List.setIfInBounds_toArray, List.set_cons_zero, List.set_cons_succ, Nat.reduceAdd]
    apply Facts.Lex.exact [] _ (by kernel_rfl)
    · intro u W hC _
      have j0 := cellB hC c0
      have j1 := cellB hC c1
      have j2 := cellB hC c2
      have j3 := cellB hC c3
      unfold Facts.one
      go_simp
      exact ((HF.out W).mono fun e w' ⟨he, hg⟩ => ⟨_, he, hg, rfl⟩)
    simp only [Act.put, List.setIfInBounds_toArray, List.set_cons_zero, List.set_cons_succ, Nat.reduceAdd]
    apply Facts.Lex.exact [] (.bool false) (by kernel_rfl)
    · intro u W hC _
      unfold Facts.one
      go_simp
      repeat' split
      all_goals first | exact ⟨Grew.refl _, rfl⟩ | (exfalso; have := (HP2).out; omega)
    simp only [Act.put, List.setIfInBounds_toArray, List.set_cons_zero, List.set_cons_succ, Nat.reduceAdd]
    iterate 5
      apply Facts.Lex.exact [] _ (by kernel_rfl)
      · intro u W hC _
        have j0 := cellB hC c0
        have j1 := cellB hC c1
        have j2 := cellB hC c2
        have j3 := cellB hC c3
        unfold Facts.one
        go_simp
        first | exact ⟨Grew.refl _, rfl⟩ | rfl
      simp only [Act.put, List.setIfInBounds_toArray, List.set_cons_zero, List.set_cons_succ, Nat.reduceAdd]
    apply Facts.Lex.exact [] _ (by kernel_rfl)
    · intro u W hC _
      have j0 := cellB hC c0
      have j1 := cellB hC c1
      have j2 := cellB hC c2
      have j3 := cellB hC c3
      unfold Facts.one
      go_simp
      exact ((HD.out W).mono fun e w' ⟨he, hg⟩ => ⟨_, he, hg, rfl⟩)
    simp only [Act.put, List.setIfInBounds_toArray, List.set_cons_zero, List.set_cons_succ, Nat.reduceAdd]
    apply Facts.Lex.exact [] (.bool false) (by kernel_rfl)
    · intro u W hC _
      unfold Facts.one
      go_simp
      repeat' split
      all_goals first | exact ⟨Grew.refl _, rfl⟩ | (exfalso; have := (HP3).out; omega)
    simp only [Act.put, List.setIfInBounds_toArray, List.set_cons_zero, List.set_cons_succ, Nat.reduceAdd]
    iterate 2
      apply Facts.Lex.exact [] _ (by kernel_rfl)
      · intro u W hC _
        have j0 := cellB hC c0
        have j1 := cellB hC c1
        have j2 := cellB hC c2
        have j3 := cellB hC c3
        unfold Facts.one
        go_simp
        first | exact ⟨Grew.refl _, rfl⟩ | rfl
      simp only [Act.put, List.setIfInBounds_toArray, List.set_cons_zero, List.set_cons_succ, Nat.reduceAdd]
    refine Facts.Lex.done fun u W2 hC hL => ?_
    have G5 := Lib.hid (G3.out.trans hC)
    clear hC hL c0 c1 c2 c3
    go_wp2
    go_returns
    exact ⟨by simp, G5.out⟩

end Go.Proofs.Ytaolallfmjjoeaa.TB
