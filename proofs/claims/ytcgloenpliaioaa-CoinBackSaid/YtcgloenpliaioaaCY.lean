/-
  CoinBack, walked, where the sum is an amount.
  Conditions: those that each lemma names.
-/
import Derived.Test.YtcgloenpliaioaaCX
namespace Go.Proofs.Ytcgloenpliaioaa.CY
set_option maxRecDepth 100000
open Go Go.RowKit Go.Proofs.Ytcgloenpliaioaa Go.Proofs.Ytcgloenpliaioaa.Facts Go.Proofs.Ytcgloenpliaioaa.Bytes Go.Proofs.Ytcgloenpliaioaa.CA Go.Proofs.Ytcgloenpliaioaa.CB Go.Proofs.Ytcgloenpliaioaa.CS Go.Proofs.Ytcgloenpliaioaa.CT Go.Proofs.Ytcgloenpliaioaa.CU Go.Proofs.Ytcgloenpliaioaa.CW Go.Proofs.Ytcgloenpliaioaa.CX
set_option maxHeartbeats 4000000 in
theorem back_ok0 (p0 p1 p2 p3 n : Nat) (h0 : p0 < 18446744073709551616) (h1 : p1 < 18446744073709551616) (h2 : p2 < 18446744073709551616) (h3 : p3 < 18446744073709551616) (hn : n < 18446744073709551616) (hs : p0 + n ≤ top) (w : World) :
    Calls Try.prog 5 #[pv p0 p1 p2 p3, .int .i64 0, .int .u64 (n : Int)] w fun e w' => e = .returned (.bool true) ∧ Grew w w' := by
  obtain ⟨s, hse⟩ : ∃ s, p0 + n = s := ⟨_, rfl⟩
  have HX : Hid (∀ w, Calls Try.prog 16 #[.agg #[.int .u64 (p0 : Int), .int .u64 (p1 : Int), .int .u64 (p2 : Int), .int .u64 (p3 : Int)], .int .i64 0, .int .u64 (n : Int)] w fun e w' => e = .returned (.tuple #[.agg #[.int .u64 (s : Int), .int .u64 (p1 : Int), .int .u64 (p2 : Int), .int .u64 (p3 : Int)], .int .i64 0]) ∧ Grew w w') := Lib.hid (fun w => give_of p0 p1 p2 p3 0 n s p1 p2 p3 0 (fun w => (changep_0 p0 p1 p2 p3 n h0 h1 h2 h3 hn w).mono fun e w' hh => ⟨by rw [hh.1]; unfold chg; rw [show at4 p0 p1 p2 p3 0 = p0 from rfl, plus_yes p0 n hs, if_pos rfl, ← hse]; rfl, hh.2⟩) w)
  have hsl : s < 18446744073709551616 := by unfold top at hs; omega
  have HY : Hid (∀ w, Calls Try.prog 18 #[.agg #[.int .u64 (s : Int), .int .u64 (p1 : Int), .int .u64 (p2 : Int), .int .u64 (p3 : Int)], .int .i64 0, .int .u64 (n : Int)] w fun e w' => e = .returned (.tuple #[.agg #[.int .u64 (p0 : Int), .int .u64 (p1 : Int), .int .u64 (p2 : Int), .int .u64 (p3 : Int)], .int .i64 0]) ∧ Grew w w') := Lib.hid (fun w => take_of s p1 p2 p3 0 n p0 p1 p2 p3 0 (fun w => (changem_0 s p1 p2 p3 n hsl h1 h2 h3 hn w).mono fun e w' hh => ⟨by rw [hh.1]; unfold chg; rw [show at4 s p1 p2 p3 0 = s from rfl, ← hse, minus_yes p0 n, if_pos rfl]; rfl, hh.2⟩) w)
  have e1 : decide (n ≤ s) = true := decide_eq_true (by omega)
  have e2 : decide (p0 ≤ s) = true := decide_eq_true (by omega)
  have e3 : decide ((s : Int) ≤ 4611686018427387904) = true := decide_eq_true (by unfold top at hs; omega)
  have e1' : decide ((n : Int) ≤ (s : Int)) = true := decide_eq_true (by omega)
  have e2' : decide ((p0 : Int) ≤ (s : Int)) = true := decide_eq_true (by omega)
  have HE1 := Lib.hid e1
  have HE2 := Lib.hid e2
  have HE3 := Lib.hid e3
  have HE1' := Lib.hid e1'
  have HE2' := Lib.hid e2'
  clear h0 h1 h2 h3 hn hs hse hsl e1 e2 e3 e1' e2'
  unfold pv
  go_enter Try.func5, Try.ntmps5
  go_upto_region 1 with fail
  have HP := Lib.hid (PI.new w p0 p1 p2 p3)
  have HG0 := Lib.hid (grew_new w (.cells #[.int .u64 (p0 : Int), .int .u64 (p1 : Int), .int .u64 (p2 : Int), .int .u64 (p3 : Int)] 31))
  obtain ⟨c0, c1, c2, c3⟩ := HP.out.cells
  generalize w.alloc (.cells #[.int .u64 (p0 : Int), .int .u64 (p1 : Int), .int .u64 (p2 : Int), .int .u64 (p3 : Int)] 31) = W0 at *
  generalize w.heap.size = B0 at *
  go_wp2_with fail
  refine (HX.out _).mono ?_
  rintro e w1 ⟨rfl, hg⟩
  have HGa := Lib.hid hg
  clear hg
  go_upto_region 2 with fail
  have HQ1 := Lib.hid (PI.new w1 s p1 p2 p3)
  have HGb := Lib.hid (HGa.out.trans (grew_new w1 (.cells #[.int .u64 (s : Int), .int .u64 (p1 : Int), .int .u64 (p2 : Int), .int .u64 (p3 : Int)] 31)))
  have HP1 := Lib.hid (HP.out.grew HGb.out)
  have HG1 := Lib.hid (HG0.out.trans HGb.out)
  clear c0 c1 c2 c3 HP
  generalize w1.alloc (.cells #[.int .u64 (s : Int), .int .u64 (p1 : Int), .int .u64 (p2 : Int), .int .u64 (p3 : Int)] 31) = W1 at *
  generalize w1.heap.size = B1 at *
  clear HGa HGb
  obtain ⟨c0, c1, c2, c3⟩ := HQ1.out.cells
  go_upto_region 4 with fail
  go_wp2_with fail
  refine (HY.out _).mono ?_
  rintro e w2 ⟨rfl, hg⟩
  have HGa := Lib.hid hg
  clear hg
  go_upto_region 5 with fail
  have HR2 := Lib.hid (PI.new w2 (p0 : Int) (p1 : Int) (p2 : Int) (p3 : Int))
  have HGb := Lib.hid (HGa.out.trans (grew_new w2 (.cells #[.int .u64 (p0 : Int), .int .u64 (p1 : Int), .int .u64 (p2 : Int), .int .u64 (p3 : Int)] 31)))
  have HP2 := Lib.hid (HP1.out.grew HGb.out)
  have HQ2 := Lib.hid (HQ1.out.grew HGb.out)
  have HG2 := Lib.hid (HG1.out.trans HGb.out)
  clear c0 c1 c2 c3 HP1 HQ1 HG1
  generalize w2.alloc (.cells #[.int .u64 (p0 : Int), .int .u64 (p1 : Int), .int .u64 (p2 : Int), .int .u64 (p3 : Int)] 31) = W2 at *
  generalize w2.heap.size = B2 at *
  clear HGa HGb
  go_wp2
  go_loopg [11] 4 (fun q s11 wx => ∃ i : Nat, i + q = 4 ∧ s11 = .int .i64 (i : Int) ∧ Hid (Grew W2 wx))
  case atStart => exact ⟨0, rfl, rfl, Lib.hid (Grew.refl _)⟩
  case round =>
    obtain ⟨i, hiq, rfl, HGX⟩ := hrel
    cases gk with
    | zero =>
      have hi4 : ¬ (i : Int) < 4 := by omega
      clear hiq
      go_wp2
      refine Facts.wp_region_text (by kernel_rfl) (by kernel_rfl) ?_
      apply Facts.Lex.exact [] (.bool true) (by kernel_rfl)
      · intro u W hC _
        unfold Facts.one
        go_simp
        refine (alive_any W).mono ?_
        rintro e w' ⟨rfl, hg⟩
        exact ⟨_, rfl, hg, rfl⟩
      simp only [Act.put, List.setIfInBounds_toArray, List.set_cons_zero, List.set_cons_succ, Nat.zero_add]
      apply Facts.Lex.exact [] _ (by kernel_rfl)
      · intro u W hC _
        unfold Facts.one
        go_simp
        all_goals (first | exact ⟨Grew.refl _, rfl⟩ | rfl)
      simp only [Act.put, List.setIfInBounds_toArray, List.set_cons_zero, List.set_cons_succ, Nat.reduceAdd]
      apply Facts.Lex.exact [] _ (by kernel_rfl)
      · intro u W hC _
        unfold Facts.one
        go_simp
        all_goals (first | exact ⟨Grew.refl _, rfl⟩ | rfl)
      simp only [Act.put, List.setIfInBounds_toArray, List.set_cons_zero, List.set_cons_succ, Nat.reduceAdd]
      apply Facts.Lex.exact [] _ (by kernel_rfl)
      · intro u W hC _
        unfold Facts.one
        go_simp
        all_goals (first | exact ⟨Grew.refl _, rfl⟩ | rfl)
      simp only [Act.put, List.setIfInBounds_toArray, List.set_cons_zero, List.set_cons_succ, Nat.reduceAdd]
      apply Facts.Lex.exact [] _ (by kernel_rfl)
      · intro u W hC _
        unfold Facts.one
        go_simp
        all_goals (first | exact ⟨Grew.refl _, rfl⟩ | rfl)
      simp only [Act.put, List.setIfInBounds_toArray, List.set_cons_zero, List.set_cons_succ, Nat.reduceAdd]
      apply Facts.Lex.exact [] _ (by kernel_rfl)
      · intro u W hC _
        unfold Facts.one
        go_simp
        all_goals (first | exact ⟨Grew.refl _, rfl⟩ | rfl)
      simp only [Act.put, List.setIfInBounds_toArray, List.set_cons_zero, List.set_cons_succ, Nat.reduceAdd]
      apply Facts.Lex.exact [] _ (by kernel_rfl)
      · intro u W hC _
        obtain ⟨a0, a1, a2, a3⟩ := (HR2.out.grew (HGX.out.trans hC)).cells
        unfold Facts.one
        go_simp
        all_goals (first | exact ⟨Grew.refl _, rfl⟩ | rfl)
      simp only [Act.put, List.setIfInBounds_toArray, List.set_cons_zero, List.set_cons_succ, Nat.reduceAdd]
      apply Facts.Lex.exact [] _ (by kernel_rfl)
      · intro u W hC _
        obtain ⟨a0, a1, a2, a3⟩ := (HP2.out.grew (HGX.out.trans hC)).cells
        unfold Facts.one
        go_simp
        all_goals (first | exact ⟨Grew.refl _, rfl⟩ | rfl)
      simp only [Act.put, List.setIfInBounds_toArray, List.set_cons_zero, List.set_cons_succ, Nat.reduceAdd]
      apply Facts.Lex.exact [] _ (by kernel_rfl)
      · intro u W hC _
        have kq := eq4 p0 p1 p2 p3
        unfold Facts.one
        go_simp
        all_goals (first | exact ⟨Grew.refl _, rfl⟩ | rfl)
      simp only [Act.put, List.setIfInBounds_toArray, List.set_cons_zero, List.set_cons_succ, Nat.reduceAdd]
      apply Facts.Lex.exact [] _ (by kernel_rfl)
      · intro u W hC _
        unfold Facts.one
        go_simp
        all_goals (first | exact ⟨Grew.refl _, rfl⟩ | rfl)
      simp only [Act.put, List.setIfInBounds_toArray, List.set_cons_zero, List.set_cons_succ, Nat.reduceAdd]
      apply Facts.Lex.exact [] _ (by kernel_rfl)
      · intro u W hC _
        unfold Facts.one
        go_simp
        all_goals (first | exact ⟨Grew.refl _, rfl⟩ | rfl)
      simp only [Act.put, List.setIfInBounds_toArray, List.set_cons_zero, List.set_cons_succ, Nat.reduceAdd]
      apply Facts.Lex.exact [] _ (by kernel_rfl)
      · intro u W hC _
        unfold Facts.one
        go_simp
        all_goals (first | exact ⟨Grew.refl _, rfl⟩ | rfl)
      simp only [Act.put, List.setIfInBounds_toArray, List.set_cons_zero, List.set_cons_succ, Nat.reduceAdd]
      apply Facts.Lex.exact [] _ (by kernel_rfl)
      · intro u W hC _
        obtain ⟨a0, a1, a2, a3⟩ := (HQ2.out.grew (HGX.out.trans hC)).cells
        unfold Facts.one
        go_simp
        all_goals (first | exact ⟨Grew.refl _, rfl⟩ | rfl)
      simp only [Act.put, List.setIfInBounds_toArray, List.set_cons_zero, List.set_cons_succ, Nat.reduceAdd]
      apply Facts.Lex.exact [] _ (by kernel_rfl)
      · intro u W hC _
        obtain ⟨a0, a1, a2, a3⟩ := (HQ2.out.grew (HGX.out.trans hC)).cells
        unfold Facts.one
        go_simp
        all_goals (first | exact ⟨Grew.refl _, rfl⟩ | rfl)
      simp only [Act.put, List.setIfInBounds_toArray, List.set_cons_zero, List.set_cons_succ, Nat.reduceAdd]
      apply Facts.Lex.exact [] _ (by kernel_rfl)
      · intro u W hC _
        unfold Facts.one
        go_simp
        all_goals (first | exact ⟨Grew.refl _, rfl⟩ | rfl)
      simp only [Act.put, List.setIfInBounds_toArray, List.set_cons_zero, List.set_cons_succ, Nat.reduceAdd]
      apply Facts.Lex.exact [] _ (by kernel_rfl)
      · intro u W hC _
        have k1 := HE1.out
        have k2 := HE1'.out
        unfold Facts.one
        go_simp
        all_goals (first | exact ⟨Grew.refl _, rfl⟩ | rfl)
      simp only [Act.put, List.setIfInBounds_toArray, List.set_cons_zero, List.set_cons_succ, Nat.reduceAdd]
      apply Facts.Lex.exact [] _ (by kernel_rfl)
      · intro u W hC _
        unfold Facts.one
        go_simp
        all_goals (first | exact ⟨Grew.refl _, rfl⟩ | rfl)
      simp only [Act.put, List.setIfInBounds_toArray, List.set_cons_zero, List.set_cons_succ, Nat.reduceAdd]
      apply Facts.Lex.exact [] _ (by kernel_rfl)
      · intro u W hC _
        unfold Facts.one
        go_simp
        all_goals (first | exact ⟨Grew.refl _, rfl⟩ | rfl)
      simp only [Act.put, List.setIfInBounds_toArray, List.set_cons_zero, List.set_cons_succ, Nat.reduceAdd]
      apply Facts.Lex.exact [] _ (by kernel_rfl)
      · intro u W hC _
        unfold Facts.one
        go_simp
        all_goals (first | exact ⟨Grew.refl _, rfl⟩ | rfl)
      simp only [Act.put, List.setIfInBounds_toArray, List.set_cons_zero, List.set_cons_succ, Nat.reduceAdd]
      apply Facts.Lex.exact [] _ (by kernel_rfl)
      · intro u W hC _
        obtain ⟨a0, a1, a2, a3⟩ := (HQ2.out.grew (HGX.out.trans hC)).cells
        unfold Facts.one
        go_simp
        all_goals (first | exact ⟨Grew.refl _, rfl⟩ | rfl)
      simp only [Act.put, List.setIfInBounds_toArray, List.set_cons_zero, List.set_cons_succ, Nat.reduceAdd]
      apply Facts.Lex.exact [] _ (by kernel_rfl)
      · intro u W hC _
        obtain ⟨a0, a1, a2, a3⟩ := (HQ2.out.grew (HGX.out.trans hC)).cells
        unfold Facts.one
        go_simp
        all_goals (first | exact ⟨Grew.refl _, rfl⟩ | rfl)
      simp only [Act.put, List.setIfInBounds_toArray, List.set_cons_zero, List.set_cons_succ, Nat.reduceAdd]
      apply Facts.Lex.exact [] _ (by kernel_rfl)
      · intro u W hC _
        unfold Facts.one
        go_simp
        all_goals (first | exact ⟨Grew.refl _, rfl⟩ | rfl)
      simp only [Act.put, List.setIfInBounds_toArray, List.set_cons_zero, List.set_cons_succ, Nat.reduceAdd]
      apply Facts.Lex.exact [] _ (by kernel_rfl)
      · intro u W hC _
        obtain ⟨a0, a1, a2, a3⟩ := (HP2.out.grew (HGX.out.trans hC)).cells
        unfold Facts.one
        go_simp
        all_goals (first | exact ⟨Grew.refl _, rfl⟩ | rfl)
      simp only [Act.put, List.setIfInBounds_toArray, List.set_cons_zero, List.set_cons_succ, Nat.reduceAdd]
      apply Facts.Lex.exact [] _ (by kernel_rfl)
      · intro u W hC _
        obtain ⟨a0, a1, a2, a3⟩ := (HP2.out.grew (HGX.out.trans hC)).cells
        unfold Facts.one
        go_simp
        all_goals (first | exact ⟨Grew.refl _, rfl⟩ | rfl)
      simp only [Act.put, List.setIfInBounds_toArray, List.set_cons_zero, List.set_cons_succ, Nat.reduceAdd]
      apply Facts.Lex.exact [] _ (by kernel_rfl)
      · intro u W hC _
        have k1 := HE2.out
        have k2 := HE2'.out
        unfold Facts.one
        go_simp
        all_goals (first | exact ⟨Grew.refl _, rfl⟩ | rfl)
      simp only [Act.put, List.setIfInBounds_toArray, List.set_cons_zero, List.set_cons_succ, Nat.reduceAdd]
      apply Facts.Lex.exact [] _ (by kernel_rfl)
      · intro u W hC _
        unfold Facts.one
        go_simp
        all_goals (first | exact ⟨Grew.refl _, rfl⟩ | rfl)
      simp only [Act.put, List.setIfInBounds_toArray, List.set_cons_zero, List.set_cons_succ, Nat.reduceAdd]
      apply Facts.Lex.exact [] _ (by kernel_rfl)
      · intro u W hC _
        unfold Facts.one
        go_simp
        all_goals (first | exact ⟨Grew.refl _, rfl⟩ | rfl)
      simp only [Act.put, List.setIfInBounds_toArray, List.set_cons_zero, List.set_cons_succ, Nat.reduceAdd]
      apply Facts.Lex.exact [] _ (by kernel_rfl)
      · intro u W hC _
        unfold Facts.one
        go_simp
        all_goals (first | exact ⟨Grew.refl _, rfl⟩ | rfl)
      simp only [Act.put, List.setIfInBounds_toArray, List.set_cons_zero, List.set_cons_succ, Nat.reduceAdd]
      apply Facts.Lex.exact [] _ (by kernel_rfl)
      · intro u W hC _
        obtain ⟨a0, a1, a2, a3⟩ := (HQ2.out.grew (HGX.out.trans hC)).cells
        unfold Facts.one
        go_simp
        all_goals (first | exact ⟨Grew.refl _, rfl⟩ | rfl)
      simp only [Act.put, List.setIfInBounds_toArray, List.set_cons_zero, List.set_cons_succ, Nat.reduceAdd]
      apply Facts.Lex.exact [] _ (by kernel_rfl)
      · intro u W hC _
        obtain ⟨a0, a1, a2, a3⟩ := (HQ2.out.grew (HGX.out.trans hC)).cells
        unfold Facts.one
        go_simp
        all_goals (first | exact ⟨Grew.refl _, rfl⟩ | rfl)
      simp only [Act.put, List.setIfInBounds_toArray, List.set_cons_zero, List.set_cons_succ, Nat.reduceAdd]
      apply Facts.Lex.exact [] _ (by kernel_rfl)
      · intro u W hC _
        have k1 := HE3.out
        unfold Facts.one
        go_simp
        all_goals (first | exact ⟨Grew.refl _, rfl⟩ | rfl)
      simp only [Act.put, List.setIfInBounds_toArray, List.set_cons_zero, List.set_cons_succ, Nat.reduceAdd]
      apply Facts.Lex.exact [] _ (by kernel_rfl)
      · intro u W hC _
        unfold Facts.one
        go_simp
        all_goals (first | exact ⟨Grew.refl _, rfl⟩ | rfl)
      simp only [Act.put, List.setIfInBounds_toArray, List.set_cons_zero, List.set_cons_succ, Nat.reduceAdd]
      apply Facts.Lex.exact [] _ (by kernel_rfl)
      · intro u W hC _
        unfold Facts.one
        go_simp
        all_goals (first | exact ⟨Grew.refl _, rfl⟩ | rfl)
      simp only [Act.put, List.setIfInBounds_toArray, List.set_cons_zero, List.set_cons_succ, Nat.reduceAdd]
      refine Facts.Lex.done fun u W hC _ => ?_
      have HGE := Lib.hid (HG2.out.trans (HGX.out.trans hC))
      go_wp2
      go_ret
      exact ⟨rfl, HGE.out⟩
    | succ q =>
      have hi3 : i < 4 := by omega
      obtain rfl | rfl | rfl | rfl : i = 0 ∨ i = 1 ∨ i = 2 ∨ i = 3 := by omega
      · go_wp2
        refine Facts.wp_region_text (by kernel_rfl) (by kernel_rfl) ?_
        apply Facts.Lex.exact [] _ (by kernel_rfl)
        · intro u W hC _
          unfold Facts.one
          go_simp
          all_goals (first | exact ⟨Grew.refl _, rfl⟩ | rfl)
        simp only [Act.put, List.setIfInBounds_toArray, List.set_cons_zero, List.set_cons_succ, Nat.zero_add]
        apply Facts.Lex.exact [] _ (by kernel_rfl)
        · intro u W hC _
          unfold Facts.one
          go_simp
          all_goals (first | exact ⟨Grew.refl _, rfl⟩ | rfl)
        simp only [Act.put, List.setIfInBounds_toArray, List.set_cons_zero, List.set_cons_succ, Nat.reduceAdd]
        apply Facts.Lex.exact [] _ (by kernel_rfl)
        · intro u W hC _
          unfold Facts.one
          go_simp
          all_goals (first | exact ⟨Grew.refl _, rfl⟩ | rfl)
        simp only [Act.put, List.setIfInBounds_toArray, List.set_cons_zero, List.set_cons_succ, Nat.reduceAdd]
        apply Facts.Lex.exact [] _ (by kernel_rfl)
        · intro u W hC _
          unfold Facts.one
          go_simp
          all_goals (first | exact ⟨Grew.refl _, rfl⟩ | rfl)
        simp only [Act.put, List.setIfInBounds_toArray, List.set_cons_zero, List.set_cons_succ, Nat.reduceAdd]
        apply Facts.Lex.exact [] _ (by kernel_rfl)
        · intro u W hC _
          unfold Facts.one
          go_simp
          all_goals (first | exact ⟨Grew.refl _, rfl⟩ | rfl)
        simp only [Act.put, List.setIfInBounds_toArray, List.set_cons_zero, List.set_cons_succ, Nat.reduceAdd]
        apply Facts.Lex.exact [] _ (by kernel_rfl)
        · intro u W hC _
          obtain ⟨a0, a1, a2, a3⟩ := (HQ2.out.grew (HGX.out.trans hC)).cells
          unfold Facts.one
          go_simp
          all_goals (first | exact ⟨Grew.refl _, rfl⟩ | rfl)
        simp only [Act.put, List.setIfInBounds_toArray, List.set_cons_zero, List.set_cons_succ, Nat.reduceAdd]
        apply Facts.Lex.exact [] _ (by kernel_rfl)
        · intro u W hC _
          obtain ⟨a0, a1, a2, a3⟩ := (HQ2.out.grew (HGX.out.trans hC)).cells
          unfold Facts.one
          go_simp
          all_goals (first | exact ⟨Grew.refl _, rfl⟩ | rfl)
        simp only [Act.put, List.setIfInBounds_toArray, List.set_cons_zero, List.set_cons_succ, Nat.reduceAdd]
        apply Facts.Lex.exact [] _ (by kernel_rfl)
        · intro u W hC _
          unfold Facts.one
          go_simp
          all_goals (first | exact ⟨Grew.refl _, rfl⟩ | rfl)
        simp only [Act.put, List.setIfInBounds_toArray, List.set_cons_zero, List.set_cons_succ, Nat.reduceAdd]
        apply Facts.Lex.exact [] _ (by kernel_rfl)
        · intro u W hC _
          obtain ⟨a0, a1, a2, a3⟩ := (HP2.out.grew (HGX.out.trans hC)).cells
          unfold Facts.one
          go_simp
          all_goals (first | exact ⟨Grew.refl _, rfl⟩ | rfl)
        simp only [Act.put, List.setIfInBounds_toArray, List.set_cons_zero, List.set_cons_succ, Nat.reduceAdd]
        apply Facts.Lex.exact [] _ (by kernel_rfl)
        · intro u W hC _
          obtain ⟨a0, a1, a2, a3⟩ := (HP2.out.grew (HGX.out.trans hC)).cells
          unfold Facts.one
          go_simp
          all_goals (first | exact ⟨Grew.refl _, rfl⟩ | rfl)
        simp only [Act.put, List.setIfInBounds_toArray, List.set_cons_zero, List.set_cons_succ, Nat.reduceAdd]
        apply Facts.Lex.exact [] _ (by kernel_rfl)
        · intro u W hC _
          unfold Facts.one
          go_simp
          all_goals (first | exact ⟨Grew.refl _, rfl⟩ | rfl)
        simp only [Act.put, List.setIfInBounds_toArray, List.set_cons_zero, List.set_cons_succ, Nat.reduceAdd]
        apply Facts.Lex.exact [] _ (by kernel_rfl)
        · intro u W hC _
          unfold Facts.one
          go_simp
          all_goals (first | exact ⟨Grew.refl _, rfl⟩ | rfl)
        simp only [Act.put, List.setIfInBounds_toArray, List.set_cons_zero, List.set_cons_succ, Nat.reduceAdd]
        refine Facts.Lex.done fun u W hC _ => ?_
        have HGE := Lib.hid (HGX.out.trans hC)
        go_wp2
        go_roundg q
        case measure => omega
        case rel => exact ⟨0 + 1, by omega, by first | rfl | simp, HGE⟩
      · go_wp2
        refine Facts.wp_region_text (by kernel_rfl) (by kernel_rfl) ?_
        apply Facts.Lex.exact [] _ (by kernel_rfl)
        · intro u W hC _
          unfold Facts.one
          go_simp
          all_goals (first | exact ⟨Grew.refl _, rfl⟩ | rfl)
        simp only [Act.put, List.setIfInBounds_toArray, List.set_cons_zero, List.set_cons_succ, Nat.zero_add]
        apply Facts.Lex.exact [] _ (by kernel_rfl)
        · intro u W hC _
          unfold Facts.one
          go_simp
          all_goals (first | exact ⟨Grew.refl _, rfl⟩ | rfl)
        simp only [Act.put, List.setIfInBounds_toArray, List.set_cons_zero, List.set_cons_succ, Nat.reduceAdd]
        apply Facts.Lex.exact [] _ (by kernel_rfl)
        · intro u W hC _
          unfold Facts.one
          go_simp
          all_goals (first | exact ⟨Grew.refl _, rfl⟩ | rfl)
        simp only [Act.put, List.setIfInBounds_toArray, List.set_cons_zero, List.set_cons_succ, Nat.reduceAdd]
        apply Facts.Lex.exact [] _ (by kernel_rfl)
        · intro u W hC _
          unfold Facts.one
          go_simp
          all_goals (first | exact ⟨Grew.refl _, rfl⟩ | rfl)
        simp only [Act.put, List.setIfInBounds_toArray, List.set_cons_zero, List.set_cons_succ, Nat.reduceAdd]
        apply Facts.Lex.exact [] _ (by kernel_rfl)
        · intro u W hC _
          unfold Facts.one
          go_simp
          all_goals (first | exact ⟨Grew.refl _, rfl⟩ | rfl)
        simp only [Act.put, List.setIfInBounds_toArray, List.set_cons_zero, List.set_cons_succ, Nat.reduceAdd]
        apply Facts.Lex.exact [] _ (by kernel_rfl)
        · intro u W hC _
          obtain ⟨a0, a1, a2, a3⟩ := (HQ2.out.grew (HGX.out.trans hC)).cells
          unfold Facts.one
          go_simp
          all_goals (first | exact ⟨Grew.refl _, rfl⟩ | rfl)
        simp only [Act.put, List.setIfInBounds_toArray, List.set_cons_zero, List.set_cons_succ, Nat.reduceAdd]
        apply Facts.Lex.exact [] _ (by kernel_rfl)
        · intro u W hC _
          obtain ⟨a0, a1, a2, a3⟩ := (HQ2.out.grew (HGX.out.trans hC)).cells
          unfold Facts.one
          go_simp
          all_goals (first | exact ⟨Grew.refl _, rfl⟩ | rfl)
        simp only [Act.put, List.setIfInBounds_toArray, List.set_cons_zero, List.set_cons_succ, Nat.reduceAdd]
        apply Facts.Lex.exact [] _ (by kernel_rfl)
        · intro u W hC _
          unfold Facts.one
          go_simp
          all_goals (first | exact ⟨Grew.refl _, rfl⟩ | rfl)
        simp only [Act.put, List.setIfInBounds_toArray, List.set_cons_zero, List.set_cons_succ, Nat.reduceAdd]
        apply Facts.Lex.exact [] _ (by kernel_rfl)
        · intro u W hC _
          obtain ⟨a0, a1, a2, a3⟩ := (HP2.out.grew (HGX.out.trans hC)).cells
          unfold Facts.one
          go_simp
          all_goals (first | exact ⟨Grew.refl _, rfl⟩ | rfl)
        simp only [Act.put, List.setIfInBounds_toArray, List.set_cons_zero, List.set_cons_succ, Nat.reduceAdd]
        apply Facts.Lex.exact [] _ (by kernel_rfl)
        · intro u W hC _
          obtain ⟨a0, a1, a2, a3⟩ := (HP2.out.grew (HGX.out.trans hC)).cells
          unfold Facts.one
          go_simp
          all_goals (first | exact ⟨Grew.refl _, rfl⟩ | rfl)
        simp only [Act.put, List.setIfInBounds_toArray, List.set_cons_zero, List.set_cons_succ, Nat.reduceAdd]
        apply Facts.Lex.exact [] _ (by kernel_rfl)
        · intro u W hC _
          unfold Facts.one
          go_simp
          all_goals (first | exact ⟨Grew.refl _, rfl⟩ | rfl)
        simp only [Act.put, List.setIfInBounds_toArray, List.set_cons_zero, List.set_cons_succ, Nat.reduceAdd]
        apply Facts.Lex.exact [] _ (by kernel_rfl)
        · intro u W hC _
          unfold Facts.one
          go_simp
          all_goals (first | exact ⟨Grew.refl _, rfl⟩ | rfl)
        simp only [Act.put, List.setIfInBounds_toArray, List.set_cons_zero, List.set_cons_succ, Nat.reduceAdd]
        refine Facts.Lex.done fun u W hC _ => ?_
        have HGE := Lib.hid (HGX.out.trans hC)
        go_wp2
        go_roundg q
        case measure => omega
        case rel => exact ⟨1 + 1, by omega, by first | rfl | simp, HGE⟩
      · go_wp2
        refine Facts.wp_region_text (by kernel_rfl) (by kernel_rfl) ?_
        apply Facts.Lex.exact [] _ (by kernel_rfl)
        · intro u W hC _
          unfold Facts.one
          go_simp
          all_goals (first | exact ⟨Grew.refl _, rfl⟩ | rfl)
        simp only [Act.put, List.setIfInBounds_toArray, List.set_cons_zero, List.set_cons_succ, Nat.zero_add]
        apply Facts.Lex.exact [] _ (by kernel_rfl)
        · intro u W hC _
          unfold Facts.one
          go_simp
          all_goals (first | exact ⟨Grew.refl _, rfl⟩ | rfl)
        simp only [Act.put, List.setIfInBounds_toArray, List.set_cons_zero, List.set_cons_succ, Nat.reduceAdd]
        apply Facts.Lex.exact [] _ (by kernel_rfl)
        · intro u W hC _
          unfold Facts.one
          go_simp
          all_goals (first | exact ⟨Grew.refl _, rfl⟩ | rfl)
        simp only [Act.put, List.setIfInBounds_toArray, List.set_cons_zero, List.set_cons_succ, Nat.reduceAdd]
        apply Facts.Lex.exact [] _ (by kernel_rfl)
        · intro u W hC _
          unfold Facts.one
          go_simp
          all_goals (first | exact ⟨Grew.refl _, rfl⟩ | rfl)
        simp only [Act.put, List.setIfInBounds_toArray, List.set_cons_zero, List.set_cons_succ, Nat.reduceAdd]
        apply Facts.Lex.exact [] _ (by kernel_rfl)
        · intro u W hC _
          unfold Facts.one
          go_simp
          all_goals (first | exact ⟨Grew.refl _, rfl⟩ | rfl)
        simp only [Act.put, List.setIfInBounds_toArray, List.set_cons_zero, List.set_cons_succ, Nat.reduceAdd]
        apply Facts.Lex.exact [] _ (by kernel_rfl)
        · intro u W hC _
          obtain ⟨a0, a1, a2, a3⟩ := (HQ2.out.grew (HGX.out.trans hC)).cells
          unfold Facts.one
          go_simp
          all_goals (first | exact ⟨Grew.refl _, rfl⟩ | rfl)
        simp only [Act.put, List.setIfInBounds_toArray, List.set_cons_zero, List.set_cons_succ, Nat.reduceAdd]
        apply Facts.Lex.exact [] _ (by kernel_rfl)
        · intro u W hC _
          obtain ⟨a0, a1, a2, a3⟩ := (HQ2.out.grew (HGX.out.trans hC)).cells
          unfold Facts.one
          go_simp
          all_goals (first | exact ⟨Grew.refl _, rfl⟩ | rfl)
        simp only [Act.put, List.setIfInBounds_toArray, List.set_cons_zero, List.set_cons_succ, Nat.reduceAdd]
        apply Facts.Lex.exact [] _ (by kernel_rfl)
        · intro u W hC _
          unfold Facts.one
          go_simp
          all_goals (first | exact ⟨Grew.refl _, rfl⟩ | rfl)
        simp only [Act.put, List.setIfInBounds_toArray, List.set_cons_zero, List.set_cons_succ, Nat.reduceAdd]
        apply Facts.Lex.exact [] _ (by kernel_rfl)
        · intro u W hC _
          obtain ⟨a0, a1, a2, a3⟩ := (HP2.out.grew (HGX.out.trans hC)).cells
          unfold Facts.one
          go_simp
          all_goals (first | exact ⟨Grew.refl _, rfl⟩ | rfl)
        simp only [Act.put, List.setIfInBounds_toArray, List.set_cons_zero, List.set_cons_succ, Nat.reduceAdd]
        apply Facts.Lex.exact [] _ (by kernel_rfl)
        · intro u W hC _
          obtain ⟨a0, a1, a2, a3⟩ := (HP2.out.grew (HGX.out.trans hC)).cells
          unfold Facts.one
          go_simp
          all_goals (first | exact ⟨Grew.refl _, rfl⟩ | rfl)
        simp only [Act.put, List.setIfInBounds_toArray, List.set_cons_zero, List.set_cons_succ, Nat.reduceAdd]
        apply Facts.Lex.exact [] _ (by kernel_rfl)
        · intro u W hC _
          unfold Facts.one
          go_simp
          all_goals (first | exact ⟨Grew.refl _, rfl⟩ | rfl)
        simp only [Act.put, List.setIfInBounds_toArray, List.set_cons_zero, List.set_cons_succ, Nat.reduceAdd]
        apply Facts.Lex.exact [] _ (by kernel_rfl)
        · intro u W hC _
          unfold Facts.one
          go_simp
          all_goals (first | exact ⟨Grew.refl _, rfl⟩ | rfl)
        simp only [Act.put, List.setIfInBounds_toArray, List.set_cons_zero, List.set_cons_succ, Nat.reduceAdd]
        refine Facts.Lex.done fun u W hC _ => ?_
        have HGE := Lib.hid (HGX.out.trans hC)
        go_wp2
        go_roundg q
        case measure => omega
        case rel => exact ⟨2 + 1, by omega, by first | rfl | simp, HGE⟩
      · go_wp2
        refine Facts.wp_region_text (by kernel_rfl) (by kernel_rfl) ?_
        apply Facts.Lex.exact [] _ (by kernel_rfl)
        · intro u W hC _
          unfold Facts.one
          go_simp
          all_goals (first | exact ⟨Grew.refl _, rfl⟩ | rfl)
        simp only [Act.put, List.setIfInBounds_toArray, List.set_cons_zero, List.set_cons_succ, Nat.zero_add]
        apply Facts.Lex.exact [] _ (by kernel_rfl)
        · intro u W hC _
          unfold Facts.one
          go_simp
          all_goals (first | exact ⟨Grew.refl _, rfl⟩ | rfl)
        simp only [Act.put, List.setIfInBounds_toArray, List.set_cons_zero, List.set_cons_succ, Nat.reduceAdd]
        apply Facts.Lex.exact [] _ (by kernel_rfl)
        · intro u W hC _
          unfold Facts.one
          go_simp
          all_goals (first | exact ⟨Grew.refl _, rfl⟩ | rfl)
        simp only [Act.put, List.setIfInBounds_toArray, List.set_cons_zero, List.set_cons_succ, Nat.reduceAdd]
        apply Facts.Lex.exact [] _ (by kernel_rfl)
        · intro u W hC _
          unfold Facts.one
          go_simp
          all_goals (first | exact ⟨Grew.refl _, rfl⟩ | rfl)
        simp only [Act.put, List.setIfInBounds_toArray, List.set_cons_zero, List.set_cons_succ, Nat.reduceAdd]
        apply Facts.Lex.exact [] _ (by kernel_rfl)
        · intro u W hC _
          unfold Facts.one
          go_simp
          all_goals (first | exact ⟨Grew.refl _, rfl⟩ | rfl)
        simp only [Act.put, List.setIfInBounds_toArray, List.set_cons_zero, List.set_cons_succ, Nat.reduceAdd]
        apply Facts.Lex.exact [] _ (by kernel_rfl)
        · intro u W hC _
          obtain ⟨a0, a1, a2, a3⟩ := (HQ2.out.grew (HGX.out.trans hC)).cells
          unfold Facts.one
          go_simp
          all_goals (first | exact ⟨Grew.refl _, rfl⟩ | rfl)
        simp only [Act.put, List.setIfInBounds_toArray, List.set_cons_zero, List.set_cons_succ, Nat.reduceAdd]
        apply Facts.Lex.exact [] _ (by kernel_rfl)
        · intro u W hC _
          obtain ⟨a0, a1, a2, a3⟩ := (HQ2.out.grew (HGX.out.trans hC)).cells
          unfold Facts.one
          go_simp
          all_goals (first | exact ⟨Grew.refl _, rfl⟩ | rfl)
        simp only [Act.put, List.setIfInBounds_toArray, List.set_cons_zero, List.set_cons_succ, Nat.reduceAdd]
        apply Facts.Lex.exact [] _ (by kernel_rfl)
        · intro u W hC _
          unfold Facts.one
          go_simp
          all_goals (first | exact ⟨Grew.refl _, rfl⟩ | rfl)
        simp only [Act.put, List.setIfInBounds_toArray, List.set_cons_zero, List.set_cons_succ, Nat.reduceAdd]
        apply Facts.Lex.exact [] _ (by kernel_rfl)
        · intro u W hC _
          obtain ⟨a0, a1, a2, a3⟩ := (HP2.out.grew (HGX.out.trans hC)).cells
          unfold Facts.one
          go_simp
          all_goals (first | exact ⟨Grew.refl _, rfl⟩ | rfl)
        simp only [Act.put, List.setIfInBounds_toArray, List.set_cons_zero, List.set_cons_succ, Nat.reduceAdd]
        apply Facts.Lex.exact [] _ (by kernel_rfl)
        · intro u W hC _
          obtain ⟨a0, a1, a2, a3⟩ := (HP2.out.grew (HGX.out.trans hC)).cells
          unfold Facts.one
          go_simp
          all_goals (first | exact ⟨Grew.refl _, rfl⟩ | rfl)
        simp only [Act.put, List.setIfInBounds_toArray, List.set_cons_zero, List.set_cons_succ, Nat.reduceAdd]
        apply Facts.Lex.exact [] _ (by kernel_rfl)
        · intro u W hC _
          unfold Facts.one
          go_simp
          all_goals (first | exact ⟨Grew.refl _, rfl⟩ | rfl)
        simp only [Act.put, List.setIfInBounds_toArray, List.set_cons_zero, List.set_cons_succ, Nat.reduceAdd]
        apply Facts.Lex.exact [] _ (by kernel_rfl)
        · intro u W hC _
          unfold Facts.one
          go_simp
          all_goals (first | exact ⟨Grew.refl _, rfl⟩ | rfl)
        simp only [Act.put, List.setIfInBounds_toArray, List.set_cons_zero, List.set_cons_succ, Nat.reduceAdd]
        refine Facts.Lex.done fun u W hC _ => ?_
        have HGE := Lib.hid (HGX.out.trans hC)
        go_wp2
        go_roundg q
        case measure => omega
        case rel => exact ⟨3 + 1, by omega, by first | rfl | simp, HGE⟩
set_option maxHeartbeats 4000000 in
theorem back_ok1 (p0 p1 p2 p3 n : Nat) (h0 : p0 < 18446744073709551616) (h1 : p1 < 18446744073709551616) (h2 : p2 < 18446744073709551616) (h3 : p3 < 18446744073709551616) (hn : n < 18446744073709551616) (hs : p1 + n ≤ top) (w : World) :
    Calls Try.prog 5 #[pv p0 p1 p2 p3, .int .i64 1, .int .u64 (n : Int)] w fun e w' => e = .returned (.bool true) ∧ Grew w w' := by
  obtain ⟨s, hse⟩ : ∃ s, p1 + n = s := ⟨_, rfl⟩
  have HX : Hid (∀ w, Calls Try.prog 16 #[.agg #[.int .u64 (p0 : Int), .int .u64 (p1 : Int), .int .u64 (p2 : Int), .int .u64 (p3 : Int)], .int .i64 1, .int .u64 (n : Int)] w fun e w' => e = .returned (.tuple #[.agg #[.int .u64 (p0 : Int), .int .u64 (s : Int), .int .u64 (p2 : Int), .int .u64 (p3 : Int)], .int .i64 0]) ∧ Grew w w') := Lib.hid (fun w => give_of p0 p1 p2 p3 1 n p0 s p2 p3 0 (fun w => (changep_1 p0 p1 p2 p3 n h0 h1 h2 h3 hn w).mono fun e w' hh => ⟨by rw [hh.1]; unfold chg; rw [show at4 p0 p1 p2 p3 1 = p1 from rfl, plus_yes p1 n hs, if_pos rfl, ← hse]; rfl, hh.2⟩) w)
  have hsl : s < 18446744073709551616 := by unfold top at hs; omega
  have HY : Hid (∀ w, Calls Try.prog 18 #[.agg #[.int .u64 (p0 : Int), .int .u64 (s : Int), .int .u64 (p2 : Int), .int .u64 (p3 : Int)], .int .i64 1, .int .u64 (n : Int)] w fun e w' => e = .returned (.tuple #[.agg #[.int .u64 (p0 : Int), .int .u64 (p1 : Int), .int .u64 (p2 : Int), .int .u64 (p3 : Int)], .int .i64 0]) ∧ Grew w w') := Lib.hid (fun w => take_of p0 s p2 p3 1 n p0 p1 p2 p3 0 (fun w => (changem_1 p0 s p2 p3 n h0 hsl h2 h3 hn w).mono fun e w' hh => ⟨by rw [hh.1]; unfold chg; rw [show at4 p0 s p2 p3 1 = s from rfl, ← hse, minus_yes p1 n, if_pos rfl]; rfl, hh.2⟩) w)
  have e1 : decide (n ≤ s) = true := decide_eq_true (by omega)
  have e2 : decide (p1 ≤ s) = true := decide_eq_true (by omega)
  have e3 : decide ((s : Int) ≤ 4611686018427387904) = true := decide_eq_true (by unfold top at hs; omega)
  have e1' : decide ((n : Int) ≤ (s : Int)) = true := decide_eq_true (by omega)
  have e2' : decide ((p1 : Int) ≤ (s : Int)) = true := decide_eq_true (by omega)
  have HE1 := Lib.hid e1
  have HE2 := Lib.hid e2
  have HE3 := Lib.hid e3
  have HE1' := Lib.hid e1'
  have HE2' := Lib.hid e2'
  clear h0 h1 h2 h3 hn hs hse hsl e1 e2 e3 e1' e2'
  unfold pv
  go_enter Try.func5, Try.ntmps5
  go_upto_region 1 with fail
  have HP := Lib.hid (PI.new w p0 p1 p2 p3)
  have HG0 := Lib.hid (grew_new w (.cells #[.int .u64 (p0 : Int), .int .u64 (p1 : Int), .int .u64 (p2 : Int), .int .u64 (p3 : Int)] 31))
  obtain ⟨c0, c1, c2, c3⟩ := HP.out.cells
  generalize w.alloc (.cells #[.int .u64 (p0 : Int), .int .u64 (p1 : Int), .int .u64 (p2 : Int), .int .u64 (p3 : Int)] 31) = W0 at *
  generalize w.heap.size = B0 at *
  go_wp2_with fail
  refine (HX.out _).mono ?_
  rintro e w1 ⟨rfl, hg⟩
  have HGa := Lib.hid hg
  clear hg
  go_upto_region 2 with fail
  have HQ1 := Lib.hid (PI.new w1 p0 s p2 p3)
  have HGb := Lib.hid (HGa.out.trans (grew_new w1 (.cells #[.int .u64 (p0 : Int), .int .u64 (s : Int), .int .u64 (p2 : Int), .int .u64 (p3 : Int)] 31)))
  have HP1 := Lib.hid (HP.out.grew HGb.out)
  have HG1 := Lib.hid (HG0.out.trans HGb.out)
  clear c0 c1 c2 c3 HP
  generalize w1.alloc (.cells #[.int .u64 (p0 : Int), .int .u64 (s : Int), .int .u64 (p2 : Int), .int .u64 (p3 : Int)] 31) = W1 at *
  generalize w1.heap.size = B1 at *
  clear HGa HGb
  obtain ⟨c0, c1, c2, c3⟩ := HQ1.out.cells
  go_upto_region 4 with fail
  go_wp2_with fail
  refine (HY.out _).mono ?_
  rintro e w2 ⟨rfl, hg⟩
  have HGa := Lib.hid hg
  clear hg
  go_upto_region 5 with fail
  have HR2 := Lib.hid (PI.new w2 (p0 : Int) (p1 : Int) (p2 : Int) (p3 : Int))
  have HGb := Lib.hid (HGa.out.trans (grew_new w2 (.cells #[.int .u64 (p0 : Int), .int .u64 (p1 : Int), .int .u64 (p2 : Int), .int .u64 (p3 : Int)] 31)))
  have HP2 := Lib.hid (HP1.out.grew HGb.out)
  have HQ2 := Lib.hid (HQ1.out.grew HGb.out)
  have HG2 := Lib.hid (HG1.out.trans HGb.out)
  clear c0 c1 c2 c3 HP1 HQ1 HG1
  generalize w2.alloc (.cells #[.int .u64 (p0 : Int), .int .u64 (p1 : Int), .int .u64 (p2 : Int), .int .u64 (p3 : Int)] 31) = W2 at *
  generalize w2.heap.size = B2 at *
  clear HGa HGb
  go_wp2
  go_loopg [11] 4 (fun q s11 wx => ∃ i : Nat, i + q = 4 ∧ s11 = .int .i64 (i : Int) ∧ Hid (Grew W2 wx))
  case atStart => exact ⟨0, rfl, rfl, Lib.hid (Grew.refl _)⟩
  case round =>
    obtain ⟨i, hiq, rfl, HGX⟩ := hrel
    cases gk with
    | zero =>
      have hi4 : ¬ (i : Int) < 4 := by omega
      clear hiq
      go_wp2
      refine Facts.wp_region_text (by kernel_rfl) (by kernel_rfl) ?_
      apply Facts.Lex.exact [] (.bool true) (by kernel_rfl)
      · intro u W hC _
        unfold Facts.one
        go_simp
        refine (alive_any W).mono ?_
        rintro e w' ⟨rfl, hg⟩
        exact ⟨_, rfl, hg, rfl⟩
      simp only [Act.put, List.setIfInBounds_toArray, List.set_cons_zero, List.set_cons_succ, Nat.zero_add]
      apply Facts.Lex.exact [] _ (by kernel_rfl)
      · intro u W hC _
        unfold Facts.one
        go_simp
        all_goals (first | exact ⟨Grew.refl _, rfl⟩ | rfl)
      simp only [Act.put, List.setIfInBounds_toArray, List.set_cons_zero, List.set_cons_succ, Nat.reduceAdd]
      apply Facts.Lex.exact [] _ (by kernel_rfl)
      · intro u W hC _
        unfold Facts.one
        go_simp
        all_goals (first | exact ⟨Grew.refl _, rfl⟩ | rfl)
      simp only [Act.put, List.setIfInBounds_toArray, List.set_cons_zero, List.set_cons_succ, Nat.reduceAdd]
      apply Facts.Lex.exact [] _ (by kernel_rfl)
      · intro u W hC _
        unfold Facts.one
        go_simp
        all_goals (first | exact ⟨Grew.refl _, rfl⟩ | rfl)
      simp only [Act.put, List.setIfInBounds_toArray, List.set_cons_zero, List.set_cons_succ, Nat.reduceAdd]
      apply Facts.Lex.exact [] _ (by kernel_rfl)
      · intro u W hC _
        unfold Facts.one
        go_simp
        all_goals (first | exact ⟨Grew.refl _, rfl⟩ | rfl)
      simp only [Act.put, List.setIfInBounds_toArray, List.set_cons_zero, List.set_cons_succ, Nat.reduceAdd]
      apply Facts.Lex.exact [] _ (by kernel_rfl)
      · intro u W hC _
        unfold Facts.one
        go_simp
        all_goals (first | exact ⟨Grew.refl _, rfl⟩ | rfl)
      simp only [Act.put, List.setIfInBounds_toArray, List.set_cons_zero, List.set_cons_succ, Nat.reduceAdd]
      apply Facts.Lex.exact [] _ (by kernel_rfl)
      · intro u W hC _
        obtain ⟨a0, a1, a2, a3⟩ := (HR2.out.grew (HGX.out.trans hC)).cells
        unfold Facts.one
        go_simp
        all_goals (first | exact ⟨Grew.refl _, rfl⟩ | rfl)
      simp only [Act.put, List.setIfInBounds_toArray, List.set_cons_zero, List.set_cons_succ, Nat.reduceAdd]
      apply Facts.Lex.exact [] _ (by kernel_rfl)
      · intro u W hC _
        obtain ⟨a0, a1, a2, a3⟩ := (HP2.out.grew (HGX.out.trans hC)).cells
        unfold Facts.one
        go_simp
        all_goals (first | exact ⟨Grew.refl _, rfl⟩ | rfl)
      simp only [Act.put, List.setIfInBounds_toArray, List.set_cons_zero, List.set_cons_succ, Nat.reduceAdd]
      apply Facts.Lex.exact [] _ (by kernel_rfl)
      · intro u W hC _
        have kq := eq4 p0 p1 p2 p3
        unfold Facts.one
        go_simp
        all_goals (first | exact ⟨Grew.refl _, rfl⟩ | rfl)
      simp only [Act.put, List.setIfInBounds_toArray, List.set_cons_zero, List.set_cons_succ, Nat.reduceAdd]
      apply Facts.Lex.exact [] _ (by kernel_rfl)
      · intro u W hC _
        unfold Facts.one
        go_simp
        all_goals (first | exact ⟨Grew.refl _, rfl⟩ | rfl)
      simp only [Act.put, List.setIfInBounds_toArray, List.set_cons_zero, List.set_cons_succ, Nat.reduceAdd]
      apply Facts.Lex.exact [] _ (by kernel_rfl)
      · intro u W hC _
        unfold Facts.one
        go_simp
        all_goals (first | exact ⟨Grew.refl _, rfl⟩ | rfl)
      simp only [Act.put, List.setIfInBounds_toArray, List.set_cons_zero, List.set_cons_succ, Nat.reduceAdd]
      apply Facts.Lex.exact [] _ (by kernel_rfl)
      · intro u W hC _
        unfold Facts.one
        go_simp
        all_goals (first | exact ⟨Grew.refl _, rfl⟩ | rfl)
      simp only [Act.put, List.setIfInBounds_toArray, List.set_cons_zero, List.set_cons_succ, Nat.reduceAdd]
      apply Facts.Lex.exact [] _ (by kernel_rfl)
      · intro u W hC _
        obtain ⟨a0, a1, a2, a3⟩ := (HQ2.out.grew (HGX.out.trans hC)).cells
        unfold Facts.one
        go_simp
        all_goals (first | exact ⟨Grew.refl _, rfl⟩ | rfl)
      simp only [Act.put, List.setIfInBounds_toArray, List.set_cons_zero, List.set_cons_succ, Nat.reduceAdd]
      apply Facts.Lex.exact [] _ (by kernel_rfl)
      · intro u W hC _
        obtain ⟨a0, a1, a2, a3⟩ := (HQ2.out.grew (HGX.out.trans hC)).cells
        unfold Facts.one
        go_simp
        all_goals (first | exact ⟨Grew.refl _, rfl⟩ | rfl)
      simp only [Act.put, List.setIfInBounds_toArray, List.set_cons_zero, List.set_cons_succ, Nat.reduceAdd]
      apply Facts.Lex.exact [] _ (by kernel_rfl)
      · intro u W hC _
        unfold Facts.one
        go_simp
        all_goals (first | exact ⟨Grew.refl _, rfl⟩ | rfl)
      simp only [Act.put, List.setIfInBounds_toArray, List.set_cons_zero, List.set_cons_succ, Nat.reduceAdd]
      apply Facts.Lex.exact [] _ (by kernel_rfl)
      · intro u W hC _
        have k1 := HE1.out
        have k2 := HE1'.out
        unfold Facts.one
        go_simp
        all_goals (first | exact ⟨Grew.refl _, rfl⟩ | rfl)
      simp only [Act.put, List.setIfInBounds_toArray, List.set_cons_zero, List.set_cons_succ, Nat.reduceAdd]
      apply Facts.Lex.exact [] _ (by kernel_rfl)
      · intro u W hC _
        unfold Facts.one
        go_simp
        all_goals (first | exact ⟨Grew.refl _, rfl⟩ | rfl)
      simp only [Act.put, List.setIfInBounds_toArray, List.set_cons_zero, List.set_cons_succ, Nat.reduceAdd]
      apply Facts.Lex.exact [] _ (by kernel_rfl)
      · intro u W hC _
        unfold Facts.one
        go_simp
        all_goals (first | exact ⟨Grew.refl _, rfl⟩ | rfl)
      simp only [Act.put, List.setIfInBounds_toArray, List.set_cons_zero, List.set_cons_succ, Nat.reduceAdd]
      apply Facts.Lex.exact [] _ (by kernel_rfl)
      · intro u W hC _
        unfold Facts.one
        go_simp
        all_goals (first | exact ⟨Grew.refl _, rfl⟩ | rfl)
      simp only [Act.put, List.setIfInBounds_toArray, List.set_cons_zero, List.set_cons_succ, Nat.reduceAdd]
      apply Facts.Lex.exact [] _ (by kernel_rfl)
      · intro u W hC _
        obtain ⟨a0, a1, a2, a3⟩ := (HQ2.out.grew (HGX.out.trans hC)).cells
        unfold Facts.one
        go_simp
        all_goals (first | exact ⟨Grew.refl _, rfl⟩ | rfl)
      simp only [Act.put, List.setIfInBounds_toArray, List.set_cons_zero, List.set_cons_succ, Nat.reduceAdd]
      apply Facts.Lex.exact [] _ (by kernel_rfl)
      · intro u W hC _
        obtain ⟨a0, a1, a2, a3⟩ := (HQ2.out.grew (HGX.out.trans hC)).cells
        unfold Facts.one
        go_simp
        all_goals (first | exact ⟨Grew.refl _, rfl⟩ | rfl)
      simp only [Act.put, List.setIfInBounds_toArray, List.set_cons_zero, List.set_cons_succ, Nat.reduceAdd]
      apply Facts.Lex.exact [] _ (by kernel_rfl)
      · intro u W hC _
        unfold Facts.one
        go_simp
        all_goals (first | exact ⟨Grew.refl _, rfl⟩ | rfl)
      simp only [Act.put, List.setIfInBounds_toArray, List.set_cons_zero, List.set_cons_succ, Nat.reduceAdd]
      apply Facts.Lex.exact [] _ (by kernel_rfl)
      · intro u W hC _
        obtain ⟨a0, a1, a2, a3⟩ := (HP2.out.grew (HGX.out.trans hC)).cells
        unfold Facts.one
        go_simp
        all_goals (first | exact ⟨Grew.refl _, rfl⟩ | rfl)
      simp only [Act.put, List.setIfInBounds_toArray, List.set_cons_zero, List.set_cons_succ, Nat.reduceAdd]
      apply Facts.Lex.exact [] _ (by kernel_rfl)
      · intro u W hC _
        obtain ⟨a0, a1, a2, a3⟩ := (HP2.out.grew (HGX.out.trans hC)).cells
        unfold Facts.one
        go_simp
        all_goals (first | exact ⟨Grew.refl _, rfl⟩ | rfl)
      simp only [Act.put, List.setIfInBounds_toArray, List.set_cons_zero, List.set_cons_succ, Nat.reduceAdd]
      apply Facts.Lex.exact [] _ (by kernel_rfl)
      · intro u W hC _
        have k1 := HE2.out
        have k2 := HE2'.out
        unfold Facts.one
        go_simp
        all_goals (first | exact ⟨Grew.refl _, rfl⟩ | rfl)
      simp only [Act.put, List.setIfInBounds_toArray, List.set_cons_zero, List.set_cons_succ, Nat.reduceAdd]
      apply Facts.Lex.exact [] _ (by kernel_rfl)
      · intro u W hC _
        unfold Facts.one
        go_simp
        all_goals (first | exact ⟨Grew.refl _, rfl⟩ | rfl)
      simp only [Act.put, List.setIfInBounds_toArray, List.set_cons_zero, List.set_cons_succ, Nat.reduceAdd]
      apply Facts.Lex.exact [] _ (by kernel_rfl)
      · intro u W hC _
        unfold Facts.one
        go_simp
        all_goals (first | exact ⟨Grew.refl _, rfl⟩ | rfl)
      simp only [Act.put, List.setIfInBounds_toArray, List.set_cons_zero, List.set_cons_succ, Nat.reduceAdd]
      apply Facts.Lex.exact [] _ (by kernel_rfl)
      · intro u W hC _
        unfold Facts.one
        go_simp
        all_goals (first | exact ⟨Grew.refl _, rfl⟩ | rfl)
      simp only [Act.put, List.setIfInBounds_toArray, List.set_cons_zero, List.set_cons_succ, Nat.reduceAdd]
      apply Facts.Lex.exact [] _ (by kernel_rfl)
      · intro u W hC _
        obtain ⟨a0, a1, a2, a3⟩ := (HQ2.out.grew (HGX.out.trans hC)).cells
        unfold Facts.one
        go_simp
        all_goals (first | exact ⟨Grew.refl _, rfl⟩ | rfl)
      simp only [Act.put, List.setIfInBounds_toArray, List.set_cons_zero, List.set_cons_succ, Nat.reduceAdd]
      apply Facts.Lex.exact [] _ (by kernel_rfl)
      · intro u W hC _
        obtain ⟨a0, a1, a2, a3⟩ := (HQ2.out.grew (HGX.out.trans hC)).cells
        unfold Facts.one
        go_simp
        all_goals (first | exact ⟨Grew.refl _, rfl⟩ | rfl)
      simp only [Act.put, List.setIfInBounds_toArray, List.set_cons_zero, List.set_cons_succ, Nat.reduceAdd]
      apply Facts.Lex.exact [] _ (by kernel_rfl)
      · intro u W hC _
        have k1 := HE3.out
        unfold Facts.one
        go_simp
        all_goals (first | exact ⟨Grew.refl _, rfl⟩ | rfl)
      simp only [Act.put, List.setIfInBounds_toArray, List.set_cons_zero, List.set_cons_succ, Nat.reduceAdd]
      apply Facts.Lex.exact [] _ (by kernel_rfl)
      · intro u W hC _
        unfold Facts.one
        go_simp
        all_goals (first | exact ⟨Grew.refl _, rfl⟩ | rfl)
      simp only [Act.put, List.setIfInBounds_toArray, List.set_cons_zero, List.set_cons_succ, Nat.reduceAdd]
      apply Facts.Lex.exact [] _ (by kernel_rfl)
      · intro u W hC _
        unfold Facts.one
        go_simp
        all_goals (first | exact ⟨Grew.refl _, rfl⟩ | rfl)
      simp only [Act.put, List.setIfInBounds_toArray, List.set_cons_zero, List.set_cons_succ, Nat.reduceAdd]
      refine Facts.Lex.done fun u W hC _ => ?_
      have HGE := Lib.hid (HG2.out.trans (HGX.out.trans hC))
      go_wp2
      go_ret
      exact ⟨rfl, HGE.out⟩
    | succ q =>
      have hi3 : i < 4 := by omega
      obtain rfl | rfl | rfl | rfl : i = 0 ∨ i = 1 ∨ i = 2 ∨ i = 3 := by omega
      · go_wp2
        refine Facts.wp_region_text (by kernel_rfl) (by kernel_rfl) ?_
        apply Facts.Lex.exact [] _ (by kernel_rfl)
        · intro u W hC _
          unfold Facts.one
          go_simp
          all_goals (first | exact ⟨Grew.refl _, rfl⟩ | rfl)
        simp only [Act.put, List.setIfInBounds_toArray, List.set_cons_zero, List.set_cons_succ, Nat.zero_add]
        apply Facts.Lex.exact [] _ (by kernel_rfl)
        · intro u W hC _
          unfold Facts.one
          go_simp
          all_goals (first | exact ⟨Grew.refl _, rfl⟩ | rfl)
        simp only [Act.put, List.setIfInBounds_toArray, List.set_cons_zero, List.set_cons_succ, Nat.reduceAdd]
        apply Facts.Lex.exact [] _ (by kernel_rfl)
        · intro u W hC _
          unfold Facts.one
          go_simp
          all_goals (first | exact ⟨Grew.refl _, rfl⟩ | rfl)
        simp only [Act.put, List.setIfInBounds_toArray, List.set_cons_zero, List.set_cons_succ, Nat.reduceAdd]
        apply Facts.Lex.exact [] _ (by kernel_rfl)
        · intro u W hC _
          unfold Facts.one
          go_simp
          all_goals (first | exact ⟨Grew.refl _, rfl⟩ | rfl)
        simp only [Act.put, List.setIfInBounds_toArray, List.set_cons_zero, List.set_cons_succ, Nat.reduceAdd]
        apply Facts.Lex.exact [] _ (by kernel_rfl)
        · intro u W hC _
          unfold Facts.one
          go_simp
          all_goals (first | exact ⟨Grew.refl _, rfl⟩ | rfl)
        simp only [Act.put, List.setIfInBounds_toArray, List.set_cons_zero, List.set_cons_succ, Nat.reduceAdd]
        apply Facts.Lex.exact [] _ (by kernel_rfl)
        · intro u W hC _
          obtain ⟨a0, a1, a2, a3⟩ := (HQ2.out.grew (HGX.out.trans hC)).cells
          unfold Facts.one
          go_simp
          all_goals (first | exact ⟨Grew.refl _, rfl⟩ | rfl)
        simp only [Act.put, List.setIfInBounds_toArray, List.set_cons_zero, List.set_cons_succ, Nat.reduceAdd]
        apply Facts.Lex.exact [] _ (by kernel_rfl)
        · intro u W hC _
          obtain ⟨a0, a1, a2, a3⟩ := (HQ2.out.grew (HGX.out.trans hC)).cells
          unfold Facts.one
          go_simp
          all_goals (first | exact ⟨Grew.refl _, rfl⟩ | rfl)
        simp only [Act.put, List.setIfInBounds_toArray, List.set_cons_zero, List.set_cons_succ, Nat.reduceAdd]
        apply Facts.Lex.exact [] _ (by kernel_rfl)
        · intro u W hC _
          unfold Facts.one
          go_simp
          all_goals (first | exact ⟨Grew.refl _, rfl⟩ | rfl)
        simp only [Act.put, List.setIfInBounds_toArray, List.set_cons_zero, List.set_cons_succ, Nat.reduceAdd]
        apply Facts.Lex.exact [] _ (by kernel_rfl)
        · intro u W hC _
          obtain ⟨a0, a1, a2, a3⟩ := (HP2.out.grew (HGX.out.trans hC)).cells
          unfold Facts.one
          go_simp
          all_goals (first | exact ⟨Grew.refl _, rfl⟩ | rfl)
        simp only [Act.put, List.setIfInBounds_toArray, List.set_cons_zero, List.set_cons_succ, Nat.reduceAdd]
        apply Facts.Lex.exact [] _ (by kernel_rfl)
        · intro u W hC _
          obtain ⟨a0, a1, a2, a3⟩ := (HP2.out.grew (HGX.out.trans hC)).cells
          unfold Facts.one
          go_simp
          all_goals (first | exact ⟨Grew.refl _, rfl⟩ | rfl)
        simp only [Act.put, List.setIfInBounds_toArray, List.set_cons_zero, List.set_cons_succ, Nat.reduceAdd]
        apply Facts.Lex.exact [] _ (by kernel_rfl)
        · intro u W hC _
          unfold Facts.one
          go_simp
          all_goals (first | exact ⟨Grew.refl _, rfl⟩ | rfl)
        simp only [Act.put, List.setIfInBounds_toArray, List.set_cons_zero, List.set_cons_succ, Nat.reduceAdd]
        apply Facts.Lex.exact [] _ (by kernel_rfl)
        · intro u W hC _
          unfold Facts.one
          go_simp
          all_goals (first | exact ⟨Grew.refl _, rfl⟩ | rfl)
        simp only [Act.put, List.setIfInBounds_toArray, List.set_cons_zero, List.set_cons_succ, Nat.reduceAdd]
        refine Facts.Lex.done fun u W hC _ => ?_
        have HGE := Lib.hid (HGX.out.trans hC)
        go_wp2
        go_roundg q
        case measure => omega
        case rel => exact ⟨0 + 1, by omega, by first | rfl | simp, HGE⟩
      · go_wp2
        refine Facts.wp_region_text (by kernel_rfl) (by kernel_rfl) ?_
        apply Facts.Lex.exact [] _ (by kernel_rfl)
        · intro u W hC _
          unfold Facts.one
          go_simp
          all_goals (first | exact ⟨Grew.refl _, rfl⟩ | rfl)
        simp only [Act.put, List.setIfInBounds_toArray, List.set_cons_zero, List.set_cons_succ, Nat.zero_add]
        apply Facts.Lex.exact [] _ (by kernel_rfl)
        · intro u W hC _
          unfold Facts.one
          go_simp
          all_goals (first | exact ⟨Grew.refl _, rfl⟩ | rfl)
        simp only [Act.put, List.setIfInBounds_toArray, List.set_cons_zero, List.set_cons_succ, Nat.reduceAdd]
        apply Facts.Lex.exact [] _ (by kernel_rfl)
        · intro u W hC _
          unfold Facts.one
          go_simp
          all_goals (first | exact ⟨Grew.refl _, rfl⟩ | rfl)
        simp only [Act.put, List.setIfInBounds_toArray, List.set_cons_zero, List.set_cons_succ, Nat.reduceAdd]
        apply Facts.Lex.exact [] _ (by kernel_rfl)
        · intro u W hC _
          unfold Facts.one
          go_simp
          all_goals (first | exact ⟨Grew.refl _, rfl⟩ | rfl)
        simp only [Act.put, List.setIfInBounds_toArray, List.set_cons_zero, List.set_cons_succ, Nat.reduceAdd]
        apply Facts.Lex.exact [] _ (by kernel_rfl)
        · intro u W hC _
          unfold Facts.one
          go_simp
          all_goals (first | exact ⟨Grew.refl _, rfl⟩ | rfl)
        simp only [Act.put, List.setIfInBounds_toArray, List.set_cons_zero, List.set_cons_succ, Nat.reduceAdd]
        apply Facts.Lex.exact [] _ (by kernel_rfl)
        · intro u W hC _
          obtain ⟨a0, a1, a2, a3⟩ := (HQ2.out.grew (HGX.out.trans hC)).cells
          unfold Facts.one
          go_simp
          all_goals (first | exact ⟨Grew.refl _, rfl⟩ | rfl)
        simp only [Act.put, List.setIfInBounds_toArray, List.set_cons_zero, List.set_cons_succ, Nat.reduceAdd]
        apply Facts.Lex.exact [] _ (by kernel_rfl)
        · intro u W hC _
          obtain ⟨a0, a1, a2, a3⟩ := (HQ2.out.grew (HGX.out.trans hC)).cells
          unfold Facts.one
          go_simp
          all_goals (first | exact ⟨Grew.refl _, rfl⟩ | rfl)
        simp only [Act.put, List.setIfInBounds_toArray, List.set_cons_zero, List.set_cons_succ, Nat.reduceAdd]
        apply Facts.Lex.exact [] _ (by kernel_rfl)
        · intro u W hC _
          unfold Facts.one
          go_simp
          all_goals (first | exact ⟨Grew.refl _, rfl⟩ | rfl)
        simp only [Act.put, List.setIfInBounds_toArray, List.set_cons_zero, List.set_cons_succ, Nat.reduceAdd]
        apply Facts.Lex.exact [] _ (by kernel_rfl)
        · intro u W hC _
          obtain ⟨a0, a1, a2, a3⟩ := (HP2.out.grew (HGX.out.trans hC)).cells
          unfold Facts.one
          go_simp
          all_goals (first | exact ⟨Grew.refl _, rfl⟩ | rfl)
        simp only [Act.put, List.setIfInBounds_toArray, List.set_cons_zero, List.set_cons_succ, Nat.reduceAdd]
        apply Facts.Lex.exact [] _ (by kernel_rfl)
        · intro u W hC _
          obtain ⟨a0, a1, a2, a3⟩ := (HP2.out.grew (HGX.out.trans hC)).cells
          unfold Facts.one
          go_simp
          all_goals (first | exact ⟨Grew.refl _, rfl⟩ | rfl)
        simp only [Act.put, List.setIfInBounds_toArray, List.set_cons_zero, List.set_cons_succ, Nat.reduceAdd]
        apply Facts.Lex.exact [] _ (by kernel_rfl)
        · intro u W hC _
          unfold Facts.one
          go_simp
          all_goals (first | exact ⟨Grew.refl _, rfl⟩ | rfl)
        simp only [Act.put, List.setIfInBounds_toArray, List.set_cons_zero, List.set_cons_succ, Nat.reduceAdd]
        apply Facts.Lex.exact [] _ (by kernel_rfl)
        · intro u W hC _
          unfold Facts.one
          go_simp
          all_goals (first | exact ⟨Grew.refl _, rfl⟩ | rfl)
        simp only [Act.put, List.setIfInBounds_toArray, List.set_cons_zero, List.set_cons_succ, Nat.reduceAdd]
        refine Facts.Lex.done fun u W hC _ => ?_
        have HGE := Lib.hid (HGX.out.trans hC)
        go_wp2
        go_roundg q
        case measure => omega
        case rel => exact ⟨1 + 1, by omega, by first | rfl | simp, HGE⟩
      · go_wp2
        refine Facts.wp_region_text (by kernel_rfl) (by kernel_rfl) ?_
        apply Facts.Lex.exact [] _ (by kernel_rfl)
        · intro u W hC _
          unfold Facts.one
          go_simp
          all_goals (first | exact ⟨Grew.refl _, rfl⟩ | rfl)
        simp only [Act.put, List.setIfInBounds_toArray, List.set_cons_zero, List.set_cons_succ, Nat.zero_add]
        apply Facts.Lex.exact [] _ (by kernel_rfl)
        · intro u W hC _
          unfold Facts.one
          go_simp
          all_goals (first | exact ⟨Grew.refl _, rfl⟩ | rfl)
        simp only [Act.put, List.setIfInBounds_toArray, List.set_cons_zero, List.set_cons_succ, Nat.reduceAdd]
        apply Facts.Lex.exact [] _ (by kernel_rfl)
        · intro u W hC _
          unfold Facts.one
          go_simp
          all_goals (first | exact ⟨Grew.refl _, rfl⟩ | rfl)
        simp only [Act.put, List.setIfInBounds_toArray, List.set_cons_zero, List.set_cons_succ, Nat.reduceAdd]
        apply Facts.Lex.exact [] _ (by kernel_rfl)
        · intro u W hC _
          unfold Facts.one
          go_simp
          all_goals (first | exact ⟨Grew.refl _, rfl⟩ | rfl)
        simp only [Act.put, List.setIfInBounds_toArray, List.set_cons_zero, List.set_cons_succ, Nat.reduceAdd]
        apply Facts.Lex.exact [] _ (by kernel_rfl)
        · intro u W hC _
          unfold Facts.one
          go_simp
          all_goals (first | exact ⟨Grew.refl _, rfl⟩ | rfl)
        simp only [Act.put, List.setIfInBounds_toArray, List.set_cons_zero, List.set_cons_succ, Nat.reduceAdd]
        apply Facts.Lex.exact [] _ (by kernel_rfl)
        · intro u W hC _
          obtain ⟨a0, a1, a2, a3⟩ := (HQ2.out.grew (HGX.out.trans hC)).cells
          unfold Facts.one
          go_simp
          all_goals (first | exact ⟨Grew.refl _, rfl⟩ | rfl)
        simp only [Act.put, List.setIfInBounds_toArray, List.set_cons_zero, List.set_cons_succ, Nat.reduceAdd]
        apply Facts.Lex.exact [] _ (by kernel_rfl)
        · intro u W hC _
          obtain ⟨a0, a1, a2, a3⟩ := (HQ2.out.grew (HGX.out.trans hC)).cells
          unfold Facts.one
          go_simp
          all_goals (first | exact ⟨Grew.refl _, rfl⟩ | rfl)
        simp only [Act.put, List.setIfInBounds_toArray, List.set_cons_zero, List.set_cons_succ, Nat.reduceAdd]
        apply Facts.Lex.exact [] _ (by kernel_rfl)
        · intro u W hC _
          unfold Facts.one
          go_simp
          all_goals (first | exact ⟨Grew.refl _, rfl⟩ | rfl)
        simp only [Act.put, List.setIfInBounds_toArray, List.set_cons_zero, List.set_cons_succ, Nat.reduceAdd]
        apply Facts.Lex.exact [] _ (by kernel_rfl)
        · intro u W hC _
          obtain ⟨a0, a1, a2, a3⟩ := (HP2.out.grew (HGX.out.trans hC)).cells
          unfold Facts.one
          go_simp
          all_goals (first | exact ⟨Grew.refl _, rfl⟩ | rfl)
        simp only [Act.put, List.setIfInBounds_toArray, List.set_cons_zero, List.set_cons_succ, Nat.reduceAdd]
        apply Facts.Lex.exact [] _ (by kernel_rfl)
        · intro u W hC _
          obtain ⟨a0, a1, a2, a3⟩ := (HP2.out.grew (HGX.out.trans hC)).cells
          unfold Facts.one
          go_simp
          all_goals (first | exact ⟨Grew.refl _, rfl⟩ | rfl)
        simp only [Act.put, List.setIfInBounds_toArray, List.set_cons_zero, List.set_cons_succ, Nat.reduceAdd]
        apply Facts.Lex.exact [] _ (by kernel_rfl)
        · intro u W hC _
          unfold Facts.one
          go_simp
          all_goals (first | exact ⟨Grew.refl _, rfl⟩ | rfl)
        simp only [Act.put, List.setIfInBounds_toArray, List.set_cons_zero, List.set_cons_succ, Nat.reduceAdd]
        apply Facts.Lex.exact [] _ (by kernel_rfl)
        · intro u W hC _
          unfold Facts.one
          go_simp
          all_goals (first | exact ⟨Grew.refl _, rfl⟩ | rfl)
        simp only [Act.put, List.setIfInBounds_toArray, List.set_cons_zero, List.set_cons_succ, Nat.reduceAdd]
        refine Facts.Lex.done fun u W hC _ => ?_
        have HGE := Lib.hid (HGX.out.trans hC)
        go_wp2
        go_roundg q
        case measure => omega
        case rel => exact ⟨2 + 1, by omega, by first | rfl | simp, HGE⟩
      · go_wp2
        refine Facts.wp_region_text (by kernel_rfl) (by kernel_rfl) ?_
        apply Facts.Lex.exact [] _ (by kernel_rfl)
        · intro u W hC _
          unfold Facts.one
          go_simp
          all_goals (first | exact ⟨Grew.refl _, rfl⟩ | rfl)
        simp only [Act.put, List.setIfInBounds_toArray, List.set_cons_zero, List.set_cons_succ, Nat.zero_add]
        apply Facts.Lex.exact [] _ (by kernel_rfl)
        · intro u W hC _
          unfold Facts.one
          go_simp
          all_goals (first | exact ⟨Grew.refl _, rfl⟩ | rfl)
        simp only [Act.put, List.setIfInBounds_toArray, List.set_cons_zero, List.set_cons_succ, Nat.reduceAdd]
        apply Facts.Lex.exact [] _ (by kernel_rfl)
        · intro u W hC _
          unfold Facts.one
          go_simp
          all_goals (first | exact ⟨Grew.refl _, rfl⟩ | rfl)
        simp only [Act.put, List.setIfInBounds_toArray, List.set_cons_zero, List.set_cons_succ, Nat.reduceAdd]
        apply Facts.Lex.exact [] _ (by kernel_rfl)
        · intro u W hC _
          unfold Facts.one
          go_simp
          all_goals (first | exact ⟨Grew.refl _, rfl⟩ | rfl)
        simp only [Act.put, List.setIfInBounds_toArray, List.set_cons_zero, List.set_cons_succ, Nat.reduceAdd]
        apply Facts.Lex.exact [] _ (by kernel_rfl)
        · intro u W hC _
          unfold Facts.one
          go_simp
          all_goals (first | exact ⟨Grew.refl _, rfl⟩ | rfl)
        simp only [Act.put, List.setIfInBounds_toArray, List.set_cons_zero, List.set_cons_succ, Nat.reduceAdd]
        apply Facts.Lex.exact [] _ (by kernel_rfl)
        · intro u W hC _
          obtain ⟨a0, a1, a2, a3⟩ := (HQ2.out.grew (HGX.out.trans hC)).cells
          unfold Facts.one
          go_simp
          all_goals (first | exact ⟨Grew.refl _, rfl⟩ | rfl)
        simp only [Act.put, List.setIfInBounds_toArray, List.set_cons_zero, List.set_cons_succ, Nat.reduceAdd]
        apply Facts.Lex.exact [] _ (by kernel_rfl)
        · intro u W hC _
          obtain ⟨a0, a1, a2, a3⟩ := (HQ2.out.grew (HGX.out.trans hC)).cells
          unfold Facts.one
          go_simp
          all_goals (first | exact ⟨Grew.refl _, rfl⟩ | rfl)
        simp only [Act.put, List.setIfInBounds_toArray, List.set_cons_zero, List.set_cons_succ, Nat.reduceAdd]
        apply Facts.Lex.exact [] _ (by kernel_rfl)
        · intro u W hC _
          unfold Facts.one
          go_simp
          all_goals (first | exact ⟨Grew.refl _, rfl⟩ | rfl)
        simp only [Act.put, List.setIfInBounds_toArray, List.set_cons_zero, List.set_cons_succ, Nat.reduceAdd]
        apply Facts.Lex.exact [] _ (by kernel_rfl)
        · intro u W hC _
          obtain ⟨a0, a1, a2, a3⟩ := (HP2.out.grew (HGX.out.trans hC)).cells
          unfold Facts.one
          go_simp
          all_goals (first | exact ⟨Grew.refl _, rfl⟩ | rfl)
        simp only [Act.put, List.setIfInBounds_toArray, List.set_cons_zero, List.set_cons_succ, Nat.reduceAdd]
        apply Facts.Lex.exact [] _ (by kernel_rfl)
        · intro u W hC _
          obtain ⟨a0, a1, a2, a3⟩ := (HP2.out.grew (HGX.out.trans hC)).cells
          unfold Facts.one
          go_simp
          all_goals (first | exact ⟨Grew.refl _, rfl⟩ | rfl)
        simp only [Act.put, List.setIfInBounds_toArray, List.set_cons_zero, List.set_cons_succ, Nat.reduceAdd]
        apply Facts.Lex.exact [] _ (by kernel_rfl)
        · intro u W hC _
          unfold Facts.one
          go_simp
          all_goals (first | exact ⟨Grew.refl _, rfl⟩ | rfl)
        simp only [Act.put, List.setIfInBounds_toArray, List.set_cons_zero, List.set_cons_succ, Nat.reduceAdd]
        apply Facts.Lex.exact [] _ (by kernel_rfl)
        · intro u W hC _
          unfold Facts.one
          go_simp
          all_goals (first | exact ⟨Grew.refl _, rfl⟩ | rfl)
        simp only [Act.put, List.setIfInBounds_toArray, List.set_cons_zero, List.set_cons_succ, Nat.reduceAdd]
        refine Facts.Lex.done fun u W hC _ => ?_
        have HGE := Lib.hid (HGX.out.trans hC)
        go_wp2
        go_roundg q
        case measure => omega
        case rel => exact ⟨3 + 1, by omega, by first | rfl | simp, HGE⟩
set_option maxHeartbeats 4000000 in
theorem back_ok2 (p0 p1 p2 p3 n : Nat) (h0 : p0 < 18446744073709551616) (h1 : p1 < 18446744073709551616) (h2 : p2 < 18446744073709551616) (h3 : p3 < 18446744073709551616) (hn : n < 18446744073709551616) (hs : p2 + n ≤ top) (w : World) :
    Calls Try.prog 5 #[pv p0 p1 p2 p3, .int .i64 2, .int .u64 (n : Int)] w fun e w' => e = .returned (.bool true) ∧ Grew w w' := by
  obtain ⟨s, hse⟩ : ∃ s, p2 + n = s := ⟨_, rfl⟩
  have HX : Hid (∀ w, Calls Try.prog 16 #[.agg #[.int .u64 (p0 : Int), .int .u64 (p1 : Int), .int .u64 (p2 : Int), .int .u64 (p3 : Int)], .int .i64 2, .int .u64 (n : Int)] w fun e w' => e = .returned (.tuple #[.agg #[.int .u64 (p0 : Int), .int .u64 (p1 : Int), .int .u64 (s : Int), .int .u64 (p3 : Int)], .int .i64 0]) ∧ Grew w w') := Lib.hid (fun w => give_of p0 p1 p2 p3 2 n p0 p1 s p3 0 (fun w => (changep_2 p0 p1 p2 p3 n h0 h1 h2 h3 hn w).mono fun e w' hh => ⟨by rw [hh.1]; unfold chg; rw [show at4 p0 p1 p2 p3 2 = p2 from rfl, plus_yes p2 n hs, if_pos rfl, ← hse]; rfl, hh.2⟩) w)
  have hsl : s < 18446744073709551616 := by unfold top at hs; omega
  have HY : Hid (∀ w, Calls Try.prog 18 #[.agg #[.int .u64 (p0 : Int), .int .u64 (p1 : Int), .int .u64 (s : Int), .int .u64 (p3 : Int)], .int .i64 2, .int .u64 (n : Int)] w fun e w' => e = .returned (.tuple #[.agg #[.int .u64 (p0 : Int), .int .u64 (p1 : Int), .int .u64 (p2 : Int), .int .u64 (p3 : Int)], .int .i64 0]) ∧ Grew w w') := Lib.hid (fun w => take_of p0 p1 s p3 2 n p0 p1 p2 p3 0 (fun w => (changem_2 p0 p1 s p3 n h0 h1 hsl h3 hn w).mono fun e w' hh => ⟨by rw [hh.1]; unfold chg; rw [show at4 p0 p1 s p3 2 = s from rfl, ← hse, minus_yes p2 n, if_pos rfl]; rfl, hh.2⟩) w)
  have e1 : decide (n ≤ s) = true := decide_eq_true (by omega)
  have e2 : decide (p2 ≤ s) = true := decide_eq_true (by omega)
  have e3 : decide ((s : Int) ≤ 4611686018427387904) = true := decide_eq_true (by unfold top at hs; omega)
  have e1' : decide ((n : Int) ≤ (s : Int)) = true := decide_eq_true (by omega)
  have e2' : decide ((p2 : Int) ≤ (s : Int)) = true := decide_eq_true (by omega)
  have HE1 := Lib.hid e1
  have HE2 := Lib.hid e2
  have HE3 := Lib.hid e3
  have HE1' := Lib.hid e1'
  have HE2' := Lib.hid e2'
  clear h0 h1 h2 h3 hn hs hse hsl e1 e2 e3 e1' e2'
  unfold pv
  go_enter Try.func5, Try.ntmps5
  go_upto_region 1 with fail
  have HP := Lib.hid (PI.new w p0 p1 p2 p3)
  have HG0 := Lib.hid (grew_new w (.cells #[.int .u64 (p0 : Int), .int .u64 (p1 : Int), .int .u64 (p2 : Int), .int .u64 (p3 : Int)] 31))
  obtain ⟨c0, c1, c2, c3⟩ := HP.out.cells
  generalize w.alloc (.cells #[.int .u64 (p0 : Int), .int .u64 (p1 : Int), .int .u64 (p2 : Int), .int .u64 (p3 : Int)] 31) = W0 at *
  generalize w.heap.size = B0 at *
  go_wp2_with fail
  refine (HX.out _).mono ?_
  rintro e w1 ⟨rfl, hg⟩
  have HGa := Lib.hid hg
  clear hg
  go_upto_region 2 with fail
  have HQ1 := Lib.hid (PI.new w1 p0 p1 s p3)
  have HGb := Lib.hid (HGa.out.trans (grew_new w1 (.cells #[.int .u64 (p0 : Int), .int .u64 (p1 : Int), .int .u64 (s : Int), .int .u64 (p3 : Int)] 31)))
  have HP1 := Lib.hid (HP.out.grew HGb.out)
  have HG1 := Lib.hid (HG0.out.trans HGb.out)
  clear c0 c1 c2 c3 HP
  generalize w1.alloc (.cells #[.int .u64 (p0 : Int), .int .u64 (p1 : Int), .int .u64 (s : Int), .int .u64 (p3 : Int)] 31) = W1 at *
  generalize w1.heap.size = B1 at *
  clear HGa HGb
  obtain ⟨c0, c1, c2, c3⟩ := HQ1.out.cells
  go_upto_region 4 with fail
  go_wp2_with fail
  refine (HY.out _).mono ?_
  rintro e w2 ⟨rfl, hg⟩
  have HGa := Lib.hid hg
  clear hg
  go_upto_region 5 with fail
  have HR2 := Lib.hid (PI.new w2 (p0 : Int) (p1 : Int) (p2 : Int) (p3 : Int))
  have HGb := Lib.hid (HGa.out.trans (grew_new w2 (.cells #[.int .u64 (p0 : Int), .int .u64 (p1 : Int), .int .u64 (p2 : Int), .int .u64 (p3 : Int)] 31)))
  have HP2 := Lib.hid (HP1.out.grew HGb.out)
  have HQ2 := Lib.hid (HQ1.out.grew HGb.out)
  have HG2 := Lib.hid (HG1.out.trans HGb.out)
  clear c0 c1 c2 c3 HP1 HQ1 HG1
  generalize w2.alloc (.cells #[.int .u64 (p0 : Int), .int .u64 (p1 : Int), .int .u64 (p2 : Int), .int .u64 (p3 : Int)] 31) = W2 at *
  generalize w2.heap.size = B2 at *
  clear HGa HGb
  go_wp2
  go_loopg [11] 4 (fun q s11 wx => ∃ i : Nat, i + q = 4 ∧ s11 = .int .i64 (i : Int) ∧ Hid (Grew W2 wx))
  case atStart => exact ⟨0, rfl, rfl, Lib.hid (Grew.refl _)⟩
  case round =>
    obtain ⟨i, hiq, rfl, HGX⟩ := hrel
    cases gk with
    | zero =>
      have hi4 : ¬ (i : Int) < 4 := by omega
      clear hiq
      go_wp2
      refine Facts.wp_region_text (by kernel_rfl) (by kernel_rfl) ?_
      apply Facts.Lex.exact [] (.bool true) (by kernel_rfl)
      · intro u W hC _
        unfold Facts.one
        go_simp
        refine (alive_any W).mono ?_
        rintro e w' ⟨rfl, hg⟩
        exact ⟨_, rfl, hg, rfl⟩
      simp only [Act.put, List.setIfInBounds_toArray, List.set_cons_zero, List.set_cons_succ, Nat.zero_add]
      apply Facts.Lex.exact [] _ (by kernel_rfl)
      · intro u W hC _
        unfold Facts.one
        go_simp
        all_goals (first | exact ⟨Grew.refl _, rfl⟩ | rfl)
      simp only [Act.put, List.setIfInBounds_toArray, List.set_cons_zero, List.set_cons_succ, Nat.reduceAdd]
      apply Facts.Lex.exact [] _ (by kernel_rfl)
      · intro u W hC _
        unfold Facts.one
        go_simp
        all_goals (first | exact ⟨Grew.refl _, rfl⟩ | rfl)
      simp only [Act.put, List.setIfInBounds_toArray, List.set_cons_zero, List.set_cons_succ, Nat.reduceAdd]
      apply Facts.Lex.exact [] _ (by kernel_rfl)
      · intro u W hC _
        unfold Facts.one
        go_simp
        all_goals (first | exact ⟨Grew.refl _, rfl⟩ | rfl)
      simp only [Act.put, List.setIfInBounds_toArray, List.set_cons_zero, List.set_cons_succ, Nat.reduceAdd]
      apply Facts.Lex.exact [] _ (by kernel_rfl)
      · intro u W hC _
        unfold Facts.one
        go_simp
        all_goals (first | exact ⟨Grew.refl _, rfl⟩ | rfl)
      simp only [Act.put, List.setIfInBounds_toArray, List.set_cons_zero, List.set_cons_succ, Nat.reduceAdd]
      apply Facts.Lex.exact [] _ (by kernel_rfl)
      · intro u W hC _
        unfold Facts.one
        go_simp
        all_goals (first | exact ⟨Grew.refl _, rfl⟩ | rfl)
      simp only [Act.put, List.setIfInBounds_toArray, List.set_cons_zero, List.set_cons_succ, Nat.reduceAdd]
      apply Facts.Lex.exact [] _ (by kernel_rfl)
      · intro u W hC _
        obtain ⟨a0, a1, a2, a3⟩ := (HR2.out.grew (HGX.out.trans hC)).cells
        unfold Facts.one
        go_simp
        all_goals (first | exact ⟨Grew.refl _, rfl⟩ | rfl)
      simp only [Act.put, List.setIfInBounds_toArray, List.set_cons_zero, List.set_cons_succ, Nat.reduceAdd]
      apply Facts.Lex.exact [] _ (by kernel_rfl)
      · intro u W hC _
        obtain ⟨a0, a1, a2, a3⟩ := (HP2.out.grew (HGX.out.trans hC)).cells
        unfold Facts.one
        go_simp
        all_goals (first | exact ⟨Grew.refl _, rfl⟩ | rfl)
      simp only [Act.put, List.setIfInBounds_toArray, List.set_cons_zero, List.set_cons_succ, Nat.reduceAdd]
      apply Facts.Lex.exact [] _ (by kernel_rfl)
      · intro u W hC _
        have kq := eq4 p0 p1 p2 p3
        unfold Facts.one
        go_simp
        all_goals (first | exact ⟨Grew.refl _, rfl⟩ | rfl)
      simp only [Act.put, List.setIfInBounds_toArray, List.set_cons_zero, List.set_cons_succ, Nat.reduceAdd]
      apply Facts.Lex.exact [] _ (by kernel_rfl)
      · intro u W hC _
        unfold Facts.one
        go_simp
        all_goals (first | exact ⟨Grew.refl _, rfl⟩ | rfl)
      simp only [Act.put, List.setIfInBounds_toArray, List.set_cons_zero, List.set_cons_succ, Nat.reduceAdd]
      apply Facts.Lex.exact [] _ (by kernel_rfl)
      · intro u W hC _
        unfold Facts.one
        go_simp
        all_goals (first | exact ⟨Grew.refl _, rfl⟩ | rfl)
      simp only [Act.put, List.setIfInBounds_toArray, List.set_cons_zero, List.set_cons_succ, Nat.reduceAdd]
      apply Facts.Lex.exact [] _ (by kernel_rfl)
      · intro u W hC _
        unfold Facts.one
        go_simp
        all_goals (first | exact ⟨Grew.refl _, rfl⟩ | rfl)
      simp only [Act.put, List.setIfInBounds_toArray, List.set_cons_zero, List.set_cons_succ, Nat.reduceAdd]
      apply Facts.Lex.exact [] _ (by kernel_rfl)
      · intro u W hC _
        obtain ⟨a0, a1, a2, a3⟩ := (HQ2.out.grew (HGX.out.trans hC)).cells
        unfold Facts.one
        go_simp
        all_goals (first | exact ⟨Grew.refl _, rfl⟩ | rfl)
      simp only [Act.put, List.setIfInBounds_toArray, List.set_cons_zero, List.set_cons_succ, Nat.reduceAdd]
      apply Facts.Lex.exact [] _ (by kernel_rfl)
      · intro u W hC _
        obtain ⟨a0, a1, a2, a3⟩ := (HQ2.out.grew (HGX.out.trans hC)).cells
        unfold Facts.one
        go_simp
        all_goals (first | exact ⟨Grew.refl _, rfl⟩ | rfl)
      simp only [Act.put, List.setIfInBounds_toArray, List.set_cons_zero, List.set_cons_succ, Nat.reduceAdd]
      apply Facts.Lex.exact [] _ (by kernel_rfl)
      · intro u W hC _
        unfold Facts.one
        go_simp
        all_goals (first | exact ⟨Grew.refl _, rfl⟩ | rfl)
      simp only [Act.put, List.setIfInBounds_toArray, List.set_cons_zero, List.set_cons_succ, Nat.reduceAdd]
      apply Facts.Lex.exact [] _ (by kernel_rfl)
      · intro u W hC _
        have k1 := HE1.out
        have k2 := HE1'.out
        unfold Facts.one
        go_simp
        all_goals (first | exact ⟨Grew.refl _, rfl⟩ | rfl)
      simp only [Act.put, List.setIfInBounds_toArray, List.set_cons_zero, List.set_cons_succ, Nat.reduceAdd]
      apply Facts.Lex.exact [] _ (by kernel_rfl)
      · intro u W hC _
        unfold Facts.one
        go_simp
        all_goals (first | exact ⟨Grew.refl _, rfl⟩ | rfl)
      simp only [Act.put, List.setIfInBounds_toArray, List.set_cons_zero, List.set_cons_succ, Nat.reduceAdd]
      apply Facts.Lex.exact [] _ (by kernel_rfl)
      · intro u W hC _
        unfold Facts.one
        go_simp
        all_goals (first | exact ⟨Grew.refl _, rfl⟩ | rfl)
      simp only [Act.put, List.setIfInBounds_toArray, List.set_cons_zero, List.set_cons_succ, Nat.reduceAdd]
      apply Facts.Lex.exact [] _ (by kernel_rfl)
      · intro u W hC _
        unfold Facts.one
        go_simp
        all_goals (first | exact ⟨Grew.refl _, rfl⟩ | rfl)
      simp only [Act.put, List.setIfInBounds_toArray, List.set_cons_zero, List.set_cons_succ, Nat.reduceAdd]
      apply Facts.Lex.exact [] _ (by kernel_rfl)
      · intro u W hC _
        obtain ⟨a0, a1, a2, a3⟩ := (HQ2.out.grew (HGX.out.trans hC)).cells
        unfold Facts.one
        go_simp
        all_goals (first | exact ⟨Grew.refl _, rfl⟩ | rfl)
      simp only [Act.put, List.setIfInBounds_toArray, List.set_cons_zero, List.set_cons_succ, Nat.reduceAdd]
      apply Facts.Lex.exact [] _ (by kernel_rfl)
      · intro u W hC _
        obtain ⟨a0, a1, a2, a3⟩ := (HQ2.out.grew (HGX.out.trans hC)).cells
        unfold Facts.one
        go_simp
        all_goals (first | exact ⟨Grew.refl _, rfl⟩ | rfl)
      simp only [Act.put, List.setIfInBounds_toArray, List.set_cons_zero, List.set_cons_succ, Nat.reduceAdd]
      apply Facts.Lex.exact [] _ (by kernel_rfl)
      · intro u W hC _
        unfold Facts.one
        go_simp
        all_goals (first | exact ⟨Grew.refl _, rfl⟩ | rfl)
      simp only [Act.put, List.setIfInBounds_toArray, List.set_cons_zero, List.set_cons_succ, Nat.reduceAdd]
      apply Facts.Lex.exact [] _ (by kernel_rfl)
      · intro u W hC _
        obtain ⟨a0, a1, a2, a3⟩ := (HP2.out.grew (HGX.out.trans hC)).cells
        unfold Facts.one
        go_simp
        all_goals (first | exact ⟨Grew.refl _, rfl⟩ | rfl)
      simp only [Act.put, List.setIfInBounds_toArray, List.set_cons_zero, List.set_cons_succ, Nat.reduceAdd]
      apply Facts.Lex.exact [] _ (by kernel_rfl)
      · intro u W hC _
        obtain ⟨a0, a1, a2, a3⟩ := (HP2.out.grew (HGX.out.trans hC)).cells
        unfold Facts.one
        go_simp
        all_goals (first | exact ⟨Grew.refl _, rfl⟩ | rfl)
      simp only [Act.put, List.setIfInBounds_toArray, List.set_cons_zero, List.set_cons_succ, Nat.reduceAdd]
      apply Facts.Lex.exact [] _ (by kernel_rfl)
      · intro u W hC _
        have k1 := HE2.out
        have k2 := HE2'.out
        unfold Facts.one
        go_simp
        all_goals (first | exact ⟨Grew.refl _, rfl⟩ | rfl)
      simp only [Act.put, List.setIfInBounds_toArray, List.set_cons_zero, List.set_cons_succ, Nat.reduceAdd]
      apply Facts.Lex.exact [] _ (by kernel_rfl)
      · intro u W hC _
        unfold Facts.one
        go_simp
        all_goals (first | exact ⟨Grew.refl _, rfl⟩ | rfl)
      simp only [Act.put, List.setIfInBounds_toArray, List.set_cons_zero, List.set_cons_succ, Nat.reduceAdd]
      apply Facts.Lex.exact [] _ (by kernel_rfl)
      · intro u W hC _
        unfold Facts.one
        go_simp
        all_goals (first | exact ⟨Grew.refl _, rfl⟩ | rfl)
      simp only [Act.put, List.setIfInBounds_toArray, List.set_cons_zero, List.set_cons_succ, Nat.reduceAdd]
      apply Facts.Lex.exact [] _ (by kernel_rfl)
      · intro u W hC _
        unfold Facts.one
        go_simp
        all_goals (first | exact ⟨Grew.refl _, rfl⟩ | rfl)
      simp only [Act.put, List.setIfInBounds_toArray, List.set_cons_zero, List.set_cons_succ, Nat.reduceAdd]
      apply Facts.Lex.exact [] _ (by kernel_rfl)
      · intro u W hC _
        obtain ⟨a0, a1, a2, a3⟩ := (HQ2.out.grew (HGX.out.trans hC)).cells
        unfold Facts.one
        go_simp
        all_goals (first | exact ⟨Grew.refl _, rfl⟩ | rfl)
      simp only [Act.put, List.setIfInBounds_toArray, List.set_cons_zero, List.set_cons_succ, Nat.reduceAdd]
      apply Facts.Lex.exact [] _ (by kernel_rfl)
      · intro u W hC _
        obtain ⟨a0, a1, a2, a3⟩ := (HQ2.out.grew (HGX.out.trans hC)).cells
        unfold Facts.one
        go_simp
        all_goals (first | exact ⟨Grew.refl _, rfl⟩ | rfl)
      simp only [Act.put, List.setIfInBounds_toArray, List.set_cons_zero, List.set_cons_succ, Nat.reduceAdd]
      apply Facts.Lex.exact [] _ (by kernel_rfl)
      · intro u W hC _
        have k1 := HE3.out
        unfold Facts.one
        go_simp
        all_goals (first | exact ⟨Grew.refl _, rfl⟩ | rfl)
      simp only [Act.put, List.setIfInBounds_toArray, List.set_cons_zero, List.set_cons_succ, Nat.reduceAdd]
      apply Facts.Lex.exact [] _ (by kernel_rfl)
      · intro u W hC _
        unfold Facts.one
        go_simp
        all_goals (first | exact ⟨Grew.refl _, rfl⟩ | rfl)
      simp only [Act.put, List.setIfInBounds_toArray, List.set_cons_zero, List.set_cons_succ, Nat.reduceAdd]
      apply Facts.Lex.exact [] _ (by kernel_rfl)
      · intro u W hC _
        unfold Facts.one
        go_simp
        all_goals (first | exact ⟨Grew.refl _, rfl⟩ | rfl)
      simp only [Act.put, List.setIfInBounds_toArray, List.set_cons_zero, List.set_cons_succ, Nat.reduceAdd]
      refine Facts.Lex.done fun u W hC _ => ?_
      have HGE := Lib.hid (HG2.out.trans (HGX.out.trans hC))
      go_wp2
      go_ret
      exact ⟨rfl, HGE.out⟩
    | succ q =>
      have hi3 : i < 4 := by omega
      obtain rfl | rfl | rfl | rfl : i = 0 ∨ i = 1 ∨ i = 2 ∨ i = 3 := by omega
      · go_wp2
        refine Facts.wp_region_text (by kernel_rfl) (by kernel_rfl) ?_
        apply Facts.Lex.exact [] _ (by kernel_rfl)
        · intro u W hC _
          unfold Facts.one
          go_simp
          all_goals (first | exact ⟨Grew.refl _, rfl⟩ | rfl)
        simp only [Act.put, List.setIfInBounds_toArray, List.set_cons_zero, List.set_cons_succ, Nat.zero_add]
        apply Facts.Lex.exact [] _ (by kernel_rfl)
        · intro u W hC _
          unfold Facts.one
          go_simp
          all_goals (first | exact ⟨Grew.refl _, rfl⟩ | rfl)
        simp only [Act.put, List.setIfInBounds_toArray, List.set_cons_zero, List.set_cons_succ, Nat.reduceAdd]
        apply Facts.Lex.exact [] _ (by kernel_rfl)
        · intro u W hC _
          unfold Facts.one
          go_simp
          all_goals (first | exact ⟨Grew.refl _, rfl⟩ | rfl)
        simp only [Act.put, List.setIfInBounds_toArray, List.set_cons_zero, List.set_cons_succ, Nat.reduceAdd]
        apply Facts.Lex.exact [] _ (by kernel_rfl)
        · intro u W hC _
          unfold Facts.one
          go_simp
          all_goals (first | exact ⟨Grew.refl _, rfl⟩ | rfl)
        simp only [Act.put, List.setIfInBounds_toArray, List.set_cons_zero, List.set_cons_succ, Nat.reduceAdd]
        apply Facts.Lex.exact [] _ (by kernel_rfl)
        · intro u W hC _
          unfold Facts.one
          go_simp
          all_goals (first | exact ⟨Grew.refl _, rfl⟩ | rfl)
        simp only [Act.put, List.setIfInBounds_toArray, List.set_cons_zero, List.set_cons_succ, Nat.reduceAdd]
        apply Facts.Lex.exact [] _ (by kernel_rfl)
        · intro u W hC _
          obtain ⟨a0, a1, a2, a3⟩ := (HQ2.out.grew (HGX.out.trans hC)).cells
          unfold Facts.one
          go_simp
          all_goals (first | exact ⟨Grew.refl _, rfl⟩ | rfl)
        simp only [Act.put, List.setIfInBounds_toArray, List.set_cons_zero, List.set_cons_succ, Nat.reduceAdd]
        apply Facts.Lex.exact [] _ (by kernel_rfl)
        · intro u W hC _
          obtain ⟨a0, a1, a2, a3⟩ := (HQ2.out.grew (HGX.out.trans hC)).cells
          unfold Facts.one
          go_simp
          all_goals (first | exact ⟨Grew.refl _, rfl⟩ | rfl)
        simp only [Act.put, List.setIfInBounds_toArray, List.set_cons_zero, List.set_cons_succ, Nat.reduceAdd]
        apply Facts.Lex.exact [] _ (by kernel_rfl)
        · intro u W hC _
          unfold Facts.one
          go_simp
          all_goals (first | exact ⟨Grew.refl _, rfl⟩ | rfl)
        simp only [Act.put, List.setIfInBounds_toArray, List.set_cons_zero, List.set_cons_succ, Nat.reduceAdd]
        apply Facts.Lex.exact [] _ (by kernel_rfl)
        · intro u W hC _
          obtain ⟨a0, a1, a2, a3⟩ := (HP2.out.grew (HGX.out.trans hC)).cells
          unfold Facts.one
          go_simp
          all_goals (first | exact ⟨Grew.refl _, rfl⟩ | rfl)
        simp only [Act.put, List.setIfInBounds_toArray, List.set_cons_zero, List.set_cons_succ, Nat.reduceAdd]
        apply Facts.Lex.exact [] _ (by kernel_rfl)
        · intro u W hC _
          obtain ⟨a0, a1, a2, a3⟩ := (HP2.out.grew (HGX.out.trans hC)).cells
          unfold Facts.one
          go_simp
          all_goals (first | exact ⟨Grew.refl _, rfl⟩ | rfl)
        simp only [Act.put, List.setIfInBounds_toArray, List.set_cons_zero, List.set_cons_succ, Nat.reduceAdd]
        apply Facts.Lex.exact [] _ (by kernel_rfl)
        · intro u W hC _
          unfold Facts.one
          go_simp
          all_goals (first | exact ⟨Grew.refl _, rfl⟩ | rfl)
        simp only [Act.put, List.setIfInBounds_toArray, List.set_cons_zero, List.set_cons_succ, Nat.reduceAdd]
        apply Facts.Lex.exact [] _ (by kernel_rfl)
        · intro u W hC _
          unfold Facts.one
          go_simp
          all_goals (first | exact ⟨Grew.refl _, rfl⟩ | rfl)
        simp only [Act.put, List.setIfInBounds_toArray, List.set_cons_zero, List.set_cons_succ, Nat.reduceAdd]
        refine Facts.Lex.done fun u W hC _ => ?_
        have HGE := Lib.hid (HGX.out.trans hC)
        go_wp2
        go_roundg q
        case measure => omega
        case rel => exact ⟨0 + 1, by omega, by first | rfl | simp, HGE⟩
      · go_wp2
        refine Facts.wp_region_text (by kernel_rfl) (by kernel_rfl) ?_
        apply Facts.Lex.exact [] _ (by kernel_rfl)
        · intro u W hC _
          unfold Facts.one
          go_simp
          all_goals (first | exact ⟨Grew.refl _, rfl⟩ | rfl)
        simp only [Act.put, List.setIfInBounds_toArray, List.set_cons_zero, List.set_cons_succ, Nat.zero_add]
        apply Facts.Lex.exact [] _ (by kernel_rfl)
        · intro u W hC _
          unfold Facts.one
          go_simp
          all_goals (first | exact ⟨Grew.refl _, rfl⟩ | rfl)
        simp only [Act.put, List.setIfInBounds_toArray, List.set_cons_zero, List.set_cons_succ, Nat.reduceAdd]
        apply Facts.Lex.exact [] _ (by kernel_rfl)
        · intro u W hC _
          unfold Facts.one
          go_simp
          all_goals (first | exact ⟨Grew.refl _, rfl⟩ | rfl)
        simp only [Act.put, List.setIfInBounds_toArray, List.set_cons_zero, List.set_cons_succ, Nat.reduceAdd]
        apply Facts.Lex.exact [] _ (by kernel_rfl)
        · intro u W hC _
          unfold Facts.one
          go_simp
          all_goals (first | exact ⟨Grew.refl _, rfl⟩ | rfl)
        simp only [Act.put, List.setIfInBounds_toArray, List.set_cons_zero, List.set_cons_succ, Nat.reduceAdd]
        apply Facts.Lex.exact [] _ (by kernel_rfl)
        · intro u W hC _
          unfold Facts.one
          go_simp
          all_goals (first | exact ⟨Grew.refl _, rfl⟩ | rfl)
        simp only [Act.put, List.setIfInBounds_toArray, List.set_cons_zero, List.set_cons_succ, Nat.reduceAdd]
        apply Facts.Lex.exact [] _ (by kernel_rfl)
        · intro u W hC _
          obtain ⟨a0, a1, a2, a3⟩ := (HQ2.out.grew (HGX.out.trans hC)).cells
          unfold Facts.one
          go_simp
          all_goals (first | exact ⟨Grew.refl _, rfl⟩ | rfl)
        simp only [Act.put, List.setIfInBounds_toArray, List.set_cons_zero, List.set_cons_succ, Nat.reduceAdd]
        apply Facts.Lex.exact [] _ (by kernel_rfl)
        · intro u W hC _
          obtain ⟨a0, a1, a2, a3⟩ := (HQ2.out.grew (HGX.out.trans hC)).cells
          unfold Facts.one
          go_simp
          all_goals (first | exact ⟨Grew.refl _, rfl⟩ | rfl)
        simp only [Act.put, List.setIfInBounds_toArray, List.set_cons_zero, List.set_cons_succ, Nat.reduceAdd]
        apply Facts.Lex.exact [] _ (by kernel_rfl)
        · intro u W hC _
          unfold Facts.one
          go_simp
          all_goals (first | exact ⟨Grew.refl _, rfl⟩ | rfl)
        simp only [Act.put, List.setIfInBounds_toArray, List.set_cons_zero, List.set_cons_succ, Nat.reduceAdd]
        apply Facts.Lex.exact [] _ (by kernel_rfl)
        · intro u W hC _
          obtain ⟨a0, a1, a2, a3⟩ := (HP2.out.grew (HGX.out.trans hC)).cells
          unfold Facts.one
          go_simp
          all_goals (first | exact ⟨Grew.refl _, rfl⟩ | rfl)
        simp only [Act.put, List.setIfInBounds_toArray, List.set_cons_zero, List.set_cons_succ, Nat.reduceAdd]
        apply Facts.Lex.exact [] _ (by kernel_rfl)
        · intro u W hC _
          obtain ⟨a0, a1, a2, a3⟩ := (HP2.out.grew (HGX.out.trans hC)).cells
          unfold Facts.one
          go_simp
          all_goals (first | exact ⟨Grew.refl _, rfl⟩ | rfl)
        simp only [Act.put, List.setIfInBounds_toArray, List.set_cons_zero, List.set_cons_succ, Nat.reduceAdd]
        apply Facts.Lex.exact [] _ (by kernel_rfl)
        · intro u W hC _
          unfold Facts.one
          go_simp
          all_goals (first | exact ⟨Grew.refl _, rfl⟩ | rfl)
        simp only [Act.put, List.setIfInBounds_toArray, List.set_cons_zero, List.set_cons_succ, Nat.reduceAdd]
        apply Facts.Lex.exact [] _ (by kernel_rfl)
        · intro u W hC _
          unfold Facts.one
          go_simp
          all_goals (first | exact ⟨Grew.refl _, rfl⟩ | rfl)
        simp only [Act.put, List.setIfInBounds_toArray, List.set_cons_zero, List.set_cons_succ, Nat.reduceAdd]
        refine Facts.Lex.done fun u W hC _ => ?_
        have HGE := Lib.hid (HGX.out.trans hC)
        go_wp2
        go_roundg q
        case measure => omega
        case rel => exact ⟨1 + 1, by omega, by first | rfl | simp, HGE⟩
      · go_wp2
        refine Facts.wp_region_text (by kernel_rfl) (by kernel_rfl) ?_
        apply Facts.Lex.exact [] _ (by kernel_rfl)
        · intro u W hC _
          unfold Facts.one
          go_simp
          all_goals (first | exact ⟨Grew.refl _, rfl⟩ | rfl)
        simp only [Act.put, List.setIfInBounds_toArray, List.set_cons_zero, List.set_cons_succ, Nat.zero_add]
        apply Facts.Lex.exact [] _ (by kernel_rfl)
        · intro u W hC _
          unfold Facts.one
          go_simp
          all_goals (first | exact ⟨Grew.refl _, rfl⟩ | rfl)
        simp only [Act.put, List.setIfInBounds_toArray, List.set_cons_zero, List.set_cons_succ, Nat.reduceAdd]
        apply Facts.Lex.exact [] _ (by kernel_rfl)
        · intro u W hC _
          unfold Facts.one
          go_simp
          all_goals (first | exact ⟨Grew.refl _, rfl⟩ | rfl)
        simp only [Act.put, List.setIfInBounds_toArray, List.set_cons_zero, List.set_cons_succ, Nat.reduceAdd]
        apply Facts.Lex.exact [] _ (by kernel_rfl)
        · intro u W hC _
          unfold Facts.one
          go_simp
          all_goals (first | exact ⟨Grew.refl _, rfl⟩ | rfl)
        simp only [Act.put, List.setIfInBounds_toArray, List.set_cons_zero, List.set_cons_succ, Nat.reduceAdd]
        apply Facts.Lex.exact [] _ (by kernel_rfl)
        · intro u W hC _
          unfold Facts.one
          go_simp
          all_goals (first | exact ⟨Grew.refl _, rfl⟩ | rfl)
        simp only [Act.put, List.setIfInBounds_toArray, List.set_cons_zero, List.set_cons_succ, Nat.reduceAdd]
        apply Facts.Lex.exact [] _ (by kernel_rfl)
        · intro u W hC _
          obtain ⟨a0, a1, a2, a3⟩ := (HQ2.out.grew (HGX.out.trans hC)).cells
          unfold Facts.one
          go_simp
          all_goals (first | exact ⟨Grew.refl _, rfl⟩ | rfl)
        simp only [Act.put, List.setIfInBounds_toArray, List.set_cons_zero, List.set_cons_succ, Nat.reduceAdd]
        apply Facts.Lex.exact [] _ (by kernel_rfl)
        · intro u W hC _
          obtain ⟨a0, a1, a2, a3⟩ := (HQ2.out.grew (HGX.out.trans hC)).cells
          unfold Facts.one
          go_simp
          all_goals (first | exact ⟨Grew.refl _, rfl⟩ | rfl)
        simp only [Act.put, List.setIfInBounds_toArray, List.set_cons_zero, List.set_cons_succ, Nat.reduceAdd]
        apply Facts.Lex.exact [] _ (by kernel_rfl)
        · intro u W hC _
          unfold Facts.one
          go_simp
          all_goals (first | exact ⟨Grew.refl _, rfl⟩ | rfl)
        simp only [Act.put, List.setIfInBounds_toArray, List.set_cons_zero, List.set_cons_succ, Nat.reduceAdd]
        apply Facts.Lex.exact [] _ (by kernel_rfl)
        · intro u W hC _
          obtain ⟨a0, a1, a2, a3⟩ := (HP2.out.grew (HGX.out.trans hC)).cells
          unfold Facts.one
          go_simp
          all_goals (first | exact ⟨Grew.refl _, rfl⟩ | rfl)
        simp only [Act.put, List.setIfInBounds_toArray, List.set_cons_zero, List.set_cons_succ, Nat.reduceAdd]
        apply Facts.Lex.exact [] _ (by kernel_rfl)
        · intro u W hC _
          obtain ⟨a0, a1, a2, a3⟩ := (HP2.out.grew (HGX.out.trans hC)).cells
          unfold Facts.one
          go_simp
          all_goals (first | exact ⟨Grew.refl _, rfl⟩ | rfl)
        simp only [Act.put, List.setIfInBounds_toArray, List.set_cons_zero, List.set_cons_succ, Nat.reduceAdd]
        apply Facts.Lex.exact [] _ (by kernel_rfl)
        · intro u W hC _
          unfold Facts.one
          go_simp
          all_goals (first | exact ⟨Grew.refl _, rfl⟩ | rfl)
        simp only [Act.put, List.setIfInBounds_toArray, List.set_cons_zero, List.set_cons_succ, Nat.reduceAdd]
        apply Facts.Lex.exact [] _ (by kernel_rfl)
        · intro u W hC _
          unfold Facts.one
          go_simp
          all_goals (first | exact ⟨Grew.refl _, rfl⟩ | rfl)
        simp only [Act.put, List.setIfInBounds_toArray, List.set_cons_zero, List.set_cons_succ, Nat.reduceAdd]
        refine Facts.Lex.done fun u W hC _ => ?_
        have HGE := Lib.hid (HGX.out.trans hC)
        go_wp2
        go_roundg q
        case measure => omega
        case rel => exact ⟨2 + 1, by omega, by first | rfl | simp, HGE⟩
      · go_wp2
        refine Facts.wp_region_text (by kernel_rfl) (by kernel_rfl) ?_
        apply Facts.Lex.exact [] _ (by kernel_rfl)
        · intro u W hC _
          unfold Facts.one
          go_simp
          all_goals (first | exact ⟨Grew.refl _, rfl⟩ | rfl)
        simp only [Act.put, List.setIfInBounds_toArray, List.set_cons_zero, List.set_cons_succ, Nat.zero_add]
        apply Facts.Lex.exact [] _ (by kernel_rfl)
        · intro u W hC _
          unfold Facts.one
          go_simp
          all_goals (first | exact ⟨Grew.refl _, rfl⟩ | rfl)
        simp only [Act.put, List.setIfInBounds_toArray, List.set_cons_zero, List.set_cons_succ, Nat.reduceAdd]
        apply Facts.Lex.exact [] _ (by kernel_rfl)
        · intro u W hC _
          unfold Facts.one
          go_simp
          all_goals (first | exact ⟨Grew.refl _, rfl⟩ | rfl)
        simp only [Act.put, List.setIfInBounds_toArray, List.set_cons_zero, List.set_cons_succ, Nat.reduceAdd]
        apply Facts.Lex.exact [] _ (by kernel_rfl)
        · intro u W hC _
          unfold Facts.one
          go_simp
          all_goals (first | exact ⟨Grew.refl _, rfl⟩ | rfl)
        simp only [Act.put, List.setIfInBounds_toArray, List.set_cons_zero, List.set_cons_succ, Nat.reduceAdd]
        apply Facts.Lex.exact [] _ (by kernel_rfl)
        · intro u W hC _
          unfold Facts.one
          go_simp
          all_goals (first | exact ⟨Grew.refl _, rfl⟩ | rfl)
        simp only [Act.put, List.setIfInBounds_toArray, List.set_cons_zero, List.set_cons_succ, Nat.reduceAdd]
        apply Facts.Lex.exact [] _ (by kernel_rfl)
        · intro u W hC _
          obtain ⟨a0, a1, a2, a3⟩ := (HQ2.out.grew (HGX.out.trans hC)).cells
          unfold Facts.one
          go_simp
          all_goals (first | exact ⟨Grew.refl _, rfl⟩ | rfl)
        simp only [Act.put, List.setIfInBounds_toArray, List.set_cons_zero, List.set_cons_succ, Nat.reduceAdd]
        apply Facts.Lex.exact [] _ (by kernel_rfl)
        · intro u W hC _
          obtain ⟨a0, a1, a2, a3⟩ := (HQ2.out.grew (HGX.out.trans hC)).cells
          unfold Facts.one
          go_simp
          all_goals (first | exact ⟨Grew.refl _, rfl⟩ | rfl)
        simp only [Act.put, List.setIfInBounds_toArray, List.set_cons_zero, List.set_cons_succ, Nat.reduceAdd]
        apply Facts.Lex.exact [] _ (by kernel_rfl)
        · intro u W hC _
          unfold Facts.one
          go_simp
          all_goals (first | exact ⟨Grew.refl _, rfl⟩ | rfl)
        simp only [Act.put, List.setIfInBounds_toArray, List.set_cons_zero, List.set_cons_succ, Nat.reduceAdd]
        apply Facts.Lex.exact [] _ (by kernel_rfl)
        · intro u W hC _
          obtain ⟨a0, a1, a2, a3⟩ := (HP2.out.grew (HGX.out.trans hC)).cells
          unfold Facts.one
          go_simp
          all_goals (first | exact ⟨Grew.refl _, rfl⟩ | rfl)
        simp only [Act.put, List.setIfInBounds_toArray, List.set_cons_zero, List.set_cons_succ, Nat.reduceAdd]
        apply Facts.Lex.exact [] _ (by kernel_rfl)
        · intro u W hC _
          obtain ⟨a0, a1, a2, a3⟩ := (HP2.out.grew (HGX.out.trans hC)).cells
          unfold Facts.one
          go_simp
          all_goals (first | exact ⟨Grew.refl _, rfl⟩ | rfl)
        simp only [Act.put, List.setIfInBounds_toArray, List.set_cons_zero, List.set_cons_succ, Nat.reduceAdd]
        apply Facts.Lex.exact [] _ (by kernel_rfl)
        · intro u W hC _
          unfold Facts.one
          go_simp
          all_goals (first | exact ⟨Grew.refl _, rfl⟩ | rfl)
        simp only [Act.put, List.setIfInBounds_toArray, List.set_cons_zero, List.set_cons_succ, Nat.reduceAdd]
        apply Facts.Lex.exact [] _ (by kernel_rfl)
        · intro u W hC _
          unfold Facts.one
          go_simp
          all_goals (first | exact ⟨Grew.refl _, rfl⟩ | rfl)
        simp only [Act.put, List.setIfInBounds_toArray, List.set_cons_zero, List.set_cons_succ, Nat.reduceAdd]
        refine Facts.Lex.done fun u W hC _ => ?_
        have HGE := Lib.hid (HGX.out.trans hC)
        go_wp2
        go_roundg q
        case measure => omega
        case rel => exact ⟨3 + 1, by omega, by first | rfl | simp, HGE⟩
set_option maxHeartbeats 4000000 in
theorem back_ok3 (p0 p1 p2 p3 n : Nat) (h0 : p0 < 18446744073709551616) (h1 : p1 < 18446744073709551616) (h2 : p2 < 18446744073709551616) (h3 : p3 < 18446744073709551616) (hn : n < 18446744073709551616) (hs : p3 + n ≤ top) (w : World) :
    Calls Try.prog 5 #[pv p0 p1 p2 p3, .int .i64 3, .int .u64 (n : Int)] w fun e w' => e = .returned (.bool true) ∧ Grew w w' := by
  obtain ⟨s, hse⟩ : ∃ s, p3 + n = s := ⟨_, rfl⟩
  have HX : Hid (∀ w, Calls Try.prog 16 #[.agg #[.int .u64 (p0 : Int), .int .u64 (p1 : Int), .int .u64 (p2 : Int), .int .u64 (p3 : Int)], .int .i64 3, .int .u64 (n : Int)] w fun e w' => e = .returned (.tuple #[.agg #[.int .u64 (p0 : Int), .int .u64 (p1 : Int), .int .u64 (p2 : Int), .int .u64 (s : Int)], .int .i64 0]) ∧ Grew w w') := Lib.hid (fun w => give_of p0 p1 p2 p3 3 n p0 p1 p2 s 0 (fun w => (changep_3 p0 p1 p2 p3 n h0 h1 h2 h3 hn w).mono fun e w' hh => ⟨by rw [hh.1]; unfold chg; rw [show at4 p0 p1 p2 p3 3 = p3 from rfl, plus_yes p3 n hs, if_pos rfl, ← hse]; rfl, hh.2⟩) w)
  have hsl : s < 18446744073709551616 := by unfold top at hs; omega
  have HY : Hid (∀ w, Calls Try.prog 18 #[.agg #[.int .u64 (p0 : Int), .int .u64 (p1 : Int), .int .u64 (p2 : Int), .int .u64 (s : Int)], .int .i64 3, .int .u64 (n : Int)] w fun e w' => e = .returned (.tuple #[.agg #[.int .u64 (p0 : Int), .int .u64 (p1 : Int), .int .u64 (p2 : Int), .int .u64 (p3 : Int)], .int .i64 0]) ∧ Grew w w') := Lib.hid (fun w => take_of p0 p1 p2 s 3 n p0 p1 p2 p3 0 (fun w => (changem_3 p0 p1 p2 s n h0 h1 h2 hsl hn w).mono fun e w' hh => ⟨by rw [hh.1]; unfold chg; rw [show at4 p0 p1 p2 s 3 = s from rfl, ← hse, minus_yes p3 n, if_pos rfl]; rfl, hh.2⟩) w)
  have e1 : decide (n ≤ s) = true := decide_eq_true (by omega)
  have e2 : decide (p3 ≤ s) = true := decide_eq_true (by omega)
  have e3 : decide ((s : Int) ≤ 4611686018427387904) = true := decide_eq_true (by unfold top at hs; omega)
  have e1' : decide ((n : Int) ≤ (s : Int)) = true := decide_eq_true (by omega)
  have e2' : decide ((p3 : Int) ≤ (s : Int)) = true := decide_eq_true (by omega)
  have HE1 := Lib.hid e1
  have HE2 := Lib.hid e2
  have HE3 := Lib.hid e3
  have HE1' := Lib.hid e1'
  have HE2' := Lib.hid e2'
  clear h0 h1 h2 h3 hn hs hse hsl e1 e2 e3 e1' e2'
  unfold pv
  go_enter Try.func5, Try.ntmps5
  go_upto_region 1 with fail
  have HP := Lib.hid (PI.new w p0 p1 p2 p3)
  have HG0 := Lib.hid (grew_new w (.cells #[.int .u64 (p0 : Int), .int .u64 (p1 : Int), .int .u64 (p2 : Int), .int .u64 (p3 : Int)] 31))
  obtain ⟨c0, c1, c2, c3⟩ := HP.out.cells
  generalize w.alloc (.cells #[.int .u64 (p0 : Int), .int .u64 (p1 : Int), .int .u64 (p2 : Int), .int .u64 (p3 : Int)] 31) = W0 at *
  generalize w.heap.size = B0 at *
  go_wp2_with fail
  refine (HX.out _).mono ?_
  rintro e w1 ⟨rfl, hg⟩
  have HGa := Lib.hid hg
  clear hg
  go_upto_region 2 with fail
  have HQ1 := Lib.hid (PI.new w1 p0 p1 p2 s)
  have HGb := Lib.hid (HGa.out.trans (grew_new w1 (.cells #[.int .u64 (p0 : Int), .int .u64 (p1 : Int), .int .u64 (p2 : Int), .int .u64 (s : Int)] 31)))
  have HP1 := Lib.hid (HP.out.grew HGb.out)
  have HG1 := Lib.hid (HG0.out.trans HGb.out)
  clear c0 c1 c2 c3 HP
  generalize w1.alloc (.cells #[.int .u64 (p0 : Int), .int .u64 (p1 : Int), .int .u64 (p2 : Int), .int .u64 (s : Int)] 31) = W1 at *
  generalize w1.heap.size = B1 at *
  clear HGa HGb
  obtain ⟨c0, c1, c2, c3⟩ := HQ1.out.cells
  go_upto_region 4 with fail
  go_wp2_with fail
  refine (HY.out _).mono ?_
  rintro e w2 ⟨rfl, hg⟩
  have HGa := Lib.hid hg
  clear hg
  go_upto_region 5 with fail
  have HR2 := Lib.hid (PI.new w2 (p0 : Int) (p1 : Int) (p2 : Int) (p3 : Int))
  have HGb := Lib.hid (HGa.out.trans (grew_new w2 (.cells #[.int .u64 (p0 : Int), .int .u64 (p1 : Int), .int .u64 (p2 : Int), .int .u64 (p3 : Int)] 31)))
  have HP2 := Lib.hid (HP1.out.grew HGb.out)
  have HQ2 := Lib.hid (HQ1.out.grew HGb.out)
  have HG2 := Lib.hid (HG1.out.trans HGb.out)
  clear c0 c1 c2 c3 HP1 HQ1 HG1
  generalize w2.alloc (.cells #[.int .u64 (p0 : Int), .int .u64 (p1 : Int), .int .u64 (p2 : Int), .int .u64 (p3 : Int)] 31) = W2 at *
  generalize w2.heap.size = B2 at *
  clear HGa HGb
  go_wp2
  go_loopg [11] 4 (fun q s11 wx => ∃ i : Nat, i + q = 4 ∧ s11 = .int .i64 (i : Int) ∧ Hid (Grew W2 wx))
  case atStart => exact ⟨0, rfl, rfl, Lib.hid (Grew.refl _)⟩
  case round =>
    obtain ⟨i, hiq, rfl, HGX⟩ := hrel
    cases gk with
    | zero =>
      have hi4 : ¬ (i : Int) < 4 := by omega
      clear hiq
      go_wp2
      refine Facts.wp_region_text (by kernel_rfl) (by kernel_rfl) ?_
      apply Facts.Lex.exact [] (.bool true) (by kernel_rfl)
      · intro u W hC _
        unfold Facts.one
        go_simp
        refine (alive_any W).mono ?_
        rintro e w' ⟨rfl, hg⟩
        exact ⟨_, rfl, hg, rfl⟩
      simp only [Act.put, List.setIfInBounds_toArray, List.set_cons_zero, List.set_cons_succ, Nat.zero_add]
      apply Facts.Lex.exact [] _ (by kernel_rfl)
      · intro u W hC _
        unfold Facts.one
        go_simp
        all_goals (first | exact ⟨Grew.refl _, rfl⟩ | rfl)
      simp only [Act.put, List.setIfInBounds_toArray, List.set_cons_zero, List.set_cons_succ, Nat.reduceAdd]
      apply Facts.Lex.exact [] _ (by kernel_rfl)
      · intro u W hC _
        unfold Facts.one
        go_simp
        all_goals (first | exact ⟨Grew.refl _, rfl⟩ | rfl)
      simp only [Act.put, List.setIfInBounds_toArray, List.set_cons_zero, List.set_cons_succ, Nat.reduceAdd]
      apply Facts.Lex.exact [] _ (by kernel_rfl)
      · intro u W hC _
        unfold Facts.one
        go_simp
        all_goals (first | exact ⟨Grew.refl _, rfl⟩ | rfl)
      simp only [Act.put, List.setIfInBounds_toArray, List.set_cons_zero, List.set_cons_succ, Nat.reduceAdd]
      apply Facts.Lex.exact [] _ (by kernel_rfl)
      · intro u W hC _
        unfold Facts.one
        go_simp
        all_goals (first | exact ⟨Grew.refl _, rfl⟩ | rfl)
      simp only [Act.put, List.setIfInBounds_toArray, List.set_cons_zero, List.set_cons_succ, Nat.reduceAdd]
      apply Facts.Lex.exact [] _ (by kernel_rfl)
      · intro u W hC _
        unfold Facts.one
        go_simp
        all_goals (first | exact ⟨Grew.refl _, rfl⟩ | rfl)
      simp only [Act.put, List.setIfInBounds_toArray, List.set_cons_zero, List.set_cons_succ, Nat.reduceAdd]
      apply Facts.Lex.exact [] _ (by kernel_rfl)
      · intro u W hC _
        obtain ⟨a0, a1, a2, a3⟩ := (HR2.out.grew (HGX.out.trans hC)).cells
        unfold Facts.one
        go_simp
        all_goals (first | exact ⟨Grew.refl _, rfl⟩ | rfl)
      simp only [Act.put, List.setIfInBounds_toArray, List.set_cons_zero, List.set_cons_succ, Nat.reduceAdd]
      apply Facts.Lex.exact [] _ (by kernel_rfl)
      · intro u W hC _
        obtain ⟨a0, a1, a2, a3⟩ := (HP2.out.grew (HGX.out.trans hC)).cells
        unfold Facts.one
        go_simp
        all_goals (first | exact ⟨Grew.refl _, rfl⟩ | rfl)
      simp only [Act.put, List.setIfInBounds_toArray, List.set_cons_zero, List.set_cons_succ, Nat.reduceAdd]
      apply Facts.Lex.exact [] _ (by kernel_rfl)
      · intro u W hC _
        have kq := eq4 p0 p1 p2 p3
        unfold Facts.one
        go_simp
        all_goals (first | exact ⟨Grew.refl _, rfl⟩ | rfl)
      simp only [Act.put, List.setIfInBounds_toArray, List.set_cons_zero, List.set_cons_succ, Nat.reduceAdd]
      apply Facts.Lex.exact [] _ (by kernel_rfl)
      · intro u W hC _
        unfold Facts.one
        go_simp
        all_goals (first | exact ⟨Grew.refl _, rfl⟩ | rfl)
      simp only [Act.put, List.setIfInBounds_toArray, List.set_cons_zero, List.set_cons_succ, Nat.reduceAdd]
      apply Facts.Lex.exact [] _ (by kernel_rfl)
      · intro u W hC _
        unfold Facts.one
        go_simp
        all_goals (first | exact ⟨Grew.refl _, rfl⟩ | rfl)
      simp only [Act.put, List.setIfInBounds_toArray, List.set_cons_zero, List.set_cons_succ, Nat.reduceAdd]
      apply Facts.Lex.exact [] _ (by kernel_rfl)
      · intro u W hC _
        unfold Facts.one
        go_simp
        all_goals (first | exact ⟨Grew.refl _, rfl⟩ | rfl)
      simp only [Act.put, List.setIfInBounds_toArray, List.set_cons_zero, List.set_cons_succ, Nat.reduceAdd]
      apply Facts.Lex.exact [] _ (by kernel_rfl)
      · intro u W hC _
        obtain ⟨a0, a1, a2, a3⟩ := (HQ2.out.grew (HGX.out.trans hC)).cells
        unfold Facts.one
        go_simp
        all_goals (first | exact ⟨Grew.refl _, rfl⟩ | rfl)
      simp only [Act.put, List.setIfInBounds_toArray, List.set_cons_zero, List.set_cons_succ, Nat.reduceAdd]
      apply Facts.Lex.exact [] _ (by kernel_rfl)
      · intro u W hC _
        obtain ⟨a0, a1, a2, a3⟩ := (HQ2.out.grew (HGX.out.trans hC)).cells
        unfold Facts.one
        go_simp
        all_goals (first | exact ⟨Grew.refl _, rfl⟩ | rfl)
      simp only [Act.put, List.setIfInBounds_toArray, List.set_cons_zero, List.set_cons_succ, Nat.reduceAdd]
      apply Facts.Lex.exact [] _ (by kernel_rfl)
      · intro u W hC _
        unfold Facts.one
        go_simp
        all_goals (first | exact ⟨Grew.refl _, rfl⟩ | rfl)
      simp only [Act.put, List.setIfInBounds_toArray, List.set_cons_zero, List.set_cons_succ, Nat.reduceAdd]
      apply Facts.Lex.exact [] _ (by kernel_rfl)
      · intro u W hC _
        have k1 := HE1.out
        have k2 := HE1'.out
        unfold Facts.one
        go_simp
        all_goals (first | exact ⟨Grew.refl _, rfl⟩ | rfl)
      simp only [Act.put, List.setIfInBounds_toArray, List.set_cons_zero, List.set_cons_succ, Nat.reduceAdd]
      apply Facts.Lex.exact [] _ (by kernel_rfl)
      · intro u W hC _
        unfold Facts.one
        go_simp
        all_goals (first | exact ⟨Grew.refl _, rfl⟩ | rfl)
      simp only [Act.put, List.setIfInBounds_toArray, List.set_cons_zero, List.set_cons_succ, Nat.reduceAdd]
      apply Facts.Lex.exact [] _ (by kernel_rfl)
      · intro u W hC _
        unfold Facts.one
        go_simp
        all_goals (first | exact ⟨Grew.refl _, rfl⟩ | rfl)
      simp only [Act.put, List.setIfInBounds_toArray, List.set_cons_zero, List.set_cons_succ, Nat.reduceAdd]
      apply Facts.Lex.exact [] _ (by kernel_rfl)
      · intro u W hC _
        unfold Facts.one
        go_simp
        all_goals (first | exact ⟨Grew.refl _, rfl⟩ | rfl)
      simp only [Act.put, List.setIfInBounds_toArray, List.set_cons_zero, List.set_cons_succ, Nat.reduceAdd]
      apply Facts.Lex.exact [] _ (by kernel_rfl)
      · intro u W hC _
        obtain ⟨a0, a1, a2, a3⟩ := (HQ2.out.grew (HGX.out.trans hC)).cells
        unfold Facts.one
        go_simp
        all_goals (first | exact ⟨Grew.refl _, rfl⟩ | rfl)
      simp only [Act.put, List.setIfInBounds_toArray, List.set_cons_zero, List.set_cons_succ, Nat.reduceAdd]
      apply Facts.Lex.exact [] _ (by kernel_rfl)
      · intro u W hC _
        obtain ⟨a0, a1, a2, a3⟩ := (HQ2.out.grew (HGX.out.trans hC)).cells
        unfold Facts.one
        go_simp
        all_goals (first | exact ⟨Grew.refl _, rfl⟩ | rfl)
      simp only [Act.put, List.setIfInBounds_toArray, List.set_cons_zero, List.set_cons_succ, Nat.reduceAdd]
      apply Facts.Lex.exact [] _ (by kernel_rfl)
      · intro u W hC _
        unfold Facts.one
        go_simp
        all_goals (first | exact ⟨Grew.refl _, rfl⟩ | rfl)
      simp only [Act.put, List.setIfInBounds_toArray, List.set_cons_zero, List.set_cons_succ, Nat.reduceAdd]
      apply Facts.Lex.exact [] _ (by kernel_rfl)
      · intro u W hC _
        obtain ⟨a0, a1, a2, a3⟩ := (HP2.out.grew (HGX.out.trans hC)).cells
        unfold Facts.one
        go_simp
        all_goals (first | exact ⟨Grew.refl _, rfl⟩ | rfl)
      simp only [Act.put, List.setIfInBounds_toArray, List.set_cons_zero, List.set_cons_succ, Nat.reduceAdd]
      apply Facts.Lex.exact [] _ (by kernel_rfl)
      · intro u W hC _
        obtain ⟨a0, a1, a2, a3⟩ := (HP2.out.grew (HGX.out.trans hC)).cells
        unfold Facts.one
        go_simp
        all_goals (first | exact ⟨Grew.refl _, rfl⟩ | rfl)
      simp only [Act.put, List.setIfInBounds_toArray, List.set_cons_zero, List.set_cons_succ, Nat.reduceAdd]
      apply Facts.Lex.exact [] _ (by kernel_rfl)
      · intro u W hC _
        have k1 := HE2.out
        have k2 := HE2'.out
        unfold Facts.one
        go_simp
        all_goals (first | exact ⟨Grew.refl _, rfl⟩ | rfl)
      simp only [Act.put, List.setIfInBounds_toArray, List.set_cons_zero, List.set_cons_succ, Nat.reduceAdd]
      apply Facts.Lex.exact [] _ (by kernel_rfl)
      · intro u W hC _
        unfold Facts.one
        go_simp
        all_goals (first | exact ⟨Grew.refl _, rfl⟩ | rfl)
      simp only [Act.put, List.setIfInBounds_toArray, List.set_cons_zero, List.set_cons_succ, Nat.reduceAdd]
      apply Facts.Lex.exact [] _ (by kernel_rfl)
      · intro u W hC _
        unfold Facts.one
        go_simp
        all_goals (first | exact ⟨Grew.refl _, rfl⟩ | rfl)
      simp only [Act.put, List.setIfInBounds_toArray, List.set_cons_zero, List.set_cons_succ, Nat.reduceAdd]
      apply Facts.Lex.exact [] _ (by kernel_rfl)
      · intro u W hC _
        unfold Facts.one
        go_simp
        all_goals (first | exact ⟨Grew.refl _, rfl⟩ | rfl)
      simp only [Act.put, List.setIfInBounds_toArray, List.set_cons_zero, List.set_cons_succ, Nat.reduceAdd]
      apply Facts.Lex.exact [] _ (by kernel_rfl)
      · intro u W hC _
        obtain ⟨a0, a1, a2, a3⟩ := (HQ2.out.grew (HGX.out.trans hC)).cells
        unfold Facts.one
        go_simp
        all_goals (first | exact ⟨Grew.refl _, rfl⟩ | rfl)
      simp only [Act.put, List.setIfInBounds_toArray, List.set_cons_zero, List.set_cons_succ, Nat.reduceAdd]
      apply Facts.Lex.exact [] _ (by kernel_rfl)
      · intro u W hC _
        obtain ⟨a0, a1, a2, a3⟩ := (HQ2.out.grew (HGX.out.trans hC)).cells
        unfold Facts.one
        go_simp
        all_goals (first | exact ⟨Grew.refl _, rfl⟩ | rfl)
      simp only [Act.put, List.setIfInBounds_toArray, List.set_cons_zero, List.set_cons_succ, Nat.reduceAdd]
      apply Facts.Lex.exact [] _ (by kernel_rfl)
      · intro u W hC _
        have k1 := HE3.out
        unfold Facts.one
        go_simp
        all_goals (first | exact ⟨Grew.refl _, rfl⟩ | rfl)
      simp only [Act.put, List.setIfInBounds_toArray, List.set_cons_zero, List.set_cons_succ, Nat.reduceAdd]
      apply Facts.Lex.exact [] _ (by kernel_rfl)
      · intro u W hC _
        unfold Facts.one
        go_simp
        all_goals (first | exact ⟨Grew.refl _, rfl⟩ | rfl)
      simp only [Act.put, List.setIfInBounds_toArray, List.set_cons_zero, List.set_cons_succ, Nat.reduceAdd]
      apply Facts.Lex.exact [] _ (by kernel_rfl)
      · intro u W hC _
        unfold Facts.one
        go_simp
        all_goals (first | exact ⟨Grew.refl _, rfl⟩ | rfl)
      simp only [Act.put, List.setIfInBounds_toArray, List.set_cons_zero, List.set_cons_succ, Nat.reduceAdd]
      refine Facts.Lex.done fun u W hC _ => ?_
      have HGE := Lib.hid (HG2.out.trans (HGX.out.trans hC))
      go_wp2
      go_ret
      exact ⟨rfl, HGE.out⟩
    | succ q =>
      have hi3 : i < 4 := by omega
      obtain rfl | rfl | rfl | rfl : i = 0 ∨ i = 1 ∨ i = 2 ∨ i = 3 := by omega
      · go_wp2
        refine Facts.wp_region_text (by kernel_rfl) (by kernel_rfl) ?_
        apply Facts.Lex.exact [] _ (by kernel_rfl)
        · intro u W hC _
          unfold Facts.one
          go_simp
          all_goals (first | exact ⟨Grew.refl _, rfl⟩ | rfl)
        simp only [Act.put, List.setIfInBounds_toArray, List.set_cons_zero, List.set_cons_succ, Nat.zero_add]
        apply Facts.Lex.exact [] _ (by kernel_rfl)
        · intro u W hC _
          unfold Facts.one
          go_simp
          all_goals (first | exact ⟨Grew.refl _, rfl⟩ | rfl)
        simp only [Act.put, List.setIfInBounds_toArray, List.set_cons_zero, List.set_cons_succ, Nat.reduceAdd]
        apply Facts.Lex.exact [] _ (by kernel_rfl)
        · intro u W hC _
          unfold Facts.one
          go_simp
          all_goals (first | exact ⟨Grew.refl _, rfl⟩ | rfl)
        simp only [Act.put, List.setIfInBounds_toArray, List.set_cons_zero, List.set_cons_succ, Nat.reduceAdd]
        apply Facts.Lex.exact [] _ (by kernel_rfl)
        · intro u W hC _
          unfold Facts.one
          go_simp
          all_goals (first | exact ⟨Grew.refl _, rfl⟩ | rfl)
        simp only [Act.put, List.setIfInBounds_toArray, List.set_cons_zero, List.set_cons_succ, Nat.reduceAdd]
        apply Facts.Lex.exact [] _ (by kernel_rfl)
        · intro u W hC _
          unfold Facts.one
          go_simp
          all_goals (first | exact ⟨Grew.refl _, rfl⟩ | rfl)
        simp only [Act.put, List.setIfInBounds_toArray, List.set_cons_zero, List.set_cons_succ, Nat.reduceAdd]
        apply Facts.Lex.exact [] _ (by kernel_rfl)
        · intro u W hC _
          obtain ⟨a0, a1, a2, a3⟩ := (HQ2.out.grew (HGX.out.trans hC)).cells
          unfold Facts.one
          go_simp
          all_goals (first | exact ⟨Grew.refl _, rfl⟩ | rfl)
        simp only [Act.put, List.setIfInBounds_toArray, List.set_cons_zero, List.set_cons_succ, Nat.reduceAdd]
        apply Facts.Lex.exact [] _ (by kernel_rfl)
        · intro u W hC _
          obtain ⟨a0, a1, a2, a3⟩ := (HQ2.out.grew (HGX.out.trans hC)).cells
          unfold Facts.one
          go_simp
          all_goals (first | exact ⟨Grew.refl _, rfl⟩ | rfl)
        simp only [Act.put, List.setIfInBounds_toArray, List.set_cons_zero, List.set_cons_succ, Nat.reduceAdd]
        apply Facts.Lex.exact [] _ (by kernel_rfl)
        · intro u W hC _
          unfold Facts.one
          go_simp
          all_goals (first | exact ⟨Grew.refl _, rfl⟩ | rfl)
        simp only [Act.put, List.setIfInBounds_toArray, List.set_cons_zero, List.set_cons_succ, Nat.reduceAdd]
        apply Facts.Lex.exact [] _ (by kernel_rfl)
        · intro u W hC _
          obtain ⟨a0, a1, a2, a3⟩ := (HP2.out.grew (HGX.out.trans hC)).cells
          unfold Facts.one
          go_simp
          all_goals (first | exact ⟨Grew.refl _, rfl⟩ | rfl)
        simp only [Act.put, List.setIfInBounds_toArray, List.set_cons_zero, List.set_cons_succ, Nat.reduceAdd]
        apply Facts.Lex.exact [] _ (by kernel_rfl)
        · intro u W hC _
          obtain ⟨a0, a1, a2, a3⟩ := (HP2.out.grew (HGX.out.trans hC)).cells
          unfold Facts.one
          go_simp
          all_goals (first | exact ⟨Grew.refl _, rfl⟩ | rfl)
        simp only [Act.put, List.setIfInBounds_toArray, List.set_cons_zero, List.set_cons_succ, Nat.reduceAdd]
        apply Facts.Lex.exact [] _ (by kernel_rfl)
        · intro u W hC _
          unfold Facts.one
          go_simp
          all_goals (first | exact ⟨Grew.refl _, rfl⟩ | rfl)
        simp only [Act.put, List.setIfInBounds_toArray, List.set_cons_zero, List.set_cons_succ, Nat.reduceAdd]
        apply Facts.Lex.exact [] _ (by kernel_rfl)
        · intro u W hC _
          unfold Facts.one
          go_simp
          all_goals (first | exact ⟨Grew.refl _, rfl⟩ | rfl)
        simp only [Act.put, List.setIfInBounds_toArray, List.set_cons_zero, List.set_cons_succ, Nat.reduceAdd]
        refine Facts.Lex.done fun u W hC _ => ?_
        have HGE := Lib.hid (HGX.out.trans hC)
        go_wp2
        go_roundg q
        case measure => omega
        case rel => exact ⟨0 + 1, by omega, by first | rfl | simp, HGE⟩
      · go_wp2
        refine Facts.wp_region_text (by kernel_rfl) (by kernel_rfl) ?_
        apply Facts.Lex.exact [] _ (by kernel_rfl)
        · intro u W hC _
          unfold Facts.one
          go_simp
          all_goals (first | exact ⟨Grew.refl _, rfl⟩ | rfl)
        simp only [Act.put, List.setIfInBounds_toArray, List.set_cons_zero, List.set_cons_succ, Nat.zero_add]
        apply Facts.Lex.exact [] _ (by kernel_rfl)
        · intro u W hC _
          unfold Facts.one
          go_simp
          all_goals (first | exact ⟨Grew.refl _, rfl⟩ | rfl)
        simp only [Act.put, List.setIfInBounds_toArray, List.set_cons_zero, List.set_cons_succ, Nat.reduceAdd]
        apply Facts.Lex.exact [] _ (by kernel_rfl)
        · intro u W hC _
          unfold Facts.one
          go_simp
          all_goals (first | exact ⟨Grew.refl _, rfl⟩ | rfl)
        simp only [Act.put, List.setIfInBounds_toArray, List.set_cons_zero, List.set_cons_succ, Nat.reduceAdd]
        apply Facts.Lex.exact [] _ (by kernel_rfl)
        · intro u W hC _
          unfold Facts.one
          go_simp
          all_goals (first | exact ⟨Grew.refl _, rfl⟩ | rfl)
        simp only [Act.put, List.setIfInBounds_toArray, List.set_cons_zero, List.set_cons_succ, Nat.reduceAdd]
        apply Facts.Lex.exact [] _ (by kernel_rfl)
        · intro u W hC _
          unfold Facts.one
          go_simp
          all_goals (first | exact ⟨Grew.refl _, rfl⟩ | rfl)
        simp only [Act.put, List.setIfInBounds_toArray, List.set_cons_zero, List.set_cons_succ, Nat.reduceAdd]
        apply Facts.Lex.exact [] _ (by kernel_rfl)
        · intro u W hC _
          obtain ⟨a0, a1, a2, a3⟩ := (HQ2.out.grew (HGX.out.trans hC)).cells
          unfold Facts.one
          go_simp
          all_goals (first | exact ⟨Grew.refl _, rfl⟩ | rfl)
        simp only [Act.put, List.setIfInBounds_toArray, List.set_cons_zero, List.set_cons_succ, Nat.reduceAdd]
        apply Facts.Lex.exact [] _ (by kernel_rfl)
        · intro u W hC _
          obtain ⟨a0, a1, a2, a3⟩ := (HQ2.out.grew (HGX.out.trans hC)).cells
          unfold Facts.one
          go_simp
          all_goals (first | exact ⟨Grew.refl _, rfl⟩ | rfl)
        simp only [Act.put, List.setIfInBounds_toArray, List.set_cons_zero, List.set_cons_succ, Nat.reduceAdd]
        apply Facts.Lex.exact [] _ (by kernel_rfl)
        · intro u W hC _
          unfold Facts.one
          go_simp
          all_goals (first | exact ⟨Grew.refl _, rfl⟩ | rfl)
        simp only [Act.put, List.setIfInBounds_toArray, List.set_cons_zero, List.set_cons_succ, Nat.reduceAdd]
        apply Facts.Lex.exact [] _ (by kernel_rfl)
        · intro u W hC _
          obtain ⟨a0, a1, a2, a3⟩ := (HP2.out.grew (HGX.out.trans hC)).cells
          unfold Facts.one
          go_simp
          all_goals (first | exact ⟨Grew.refl _, rfl⟩ | rfl)
        simp only [Act.put, List.setIfInBounds_toArray, List.set_cons_zero, List.set_cons_succ, Nat.reduceAdd]
        apply Facts.Lex.exact [] _ (by kernel_rfl)
        · intro u W hC _
          obtain ⟨a0, a1, a2, a3⟩ := (HP2.out.grew (HGX.out.trans hC)).cells
          unfold Facts.one
          go_simp
          all_goals (first | exact ⟨Grew.refl _, rfl⟩ | rfl)
        simp only [Act.put, List.setIfInBounds_toArray, List.set_cons_zero, List.set_cons_succ, Nat.reduceAdd]
        apply Facts.Lex.exact [] _ (by kernel_rfl)
        · intro u W hC _
          unfold Facts.one
          go_simp
          all_goals (first | exact ⟨Grew.refl _, rfl⟩ | rfl)
        simp only [Act.put, List.setIfInBounds_toArray, List.set_cons_zero, List.set_cons_succ, Nat.reduceAdd]
        apply Facts.Lex.exact [] _ (by kernel_rfl)
        · intro u W hC _
          unfold Facts.one
          go_simp
          all_goals (first | exact ⟨Grew.refl _, rfl⟩ | rfl)
        simp only [Act.put, List.setIfInBounds_toArray, List.set_cons_zero, List.set_cons_succ, Nat.reduceAdd]
        refine Facts.Lex.done fun u W hC _ => ?_
        have HGE := Lib.hid (HGX.out.trans hC)
        go_wp2
        go_roundg q
        case measure => omega
        case rel => exact ⟨1 + 1, by omega, by first | rfl | simp, HGE⟩
      · go_wp2
        refine Facts.wp_region_text (by kernel_rfl) (by kernel_rfl) ?_
        apply Facts.Lex.exact [] _ (by kernel_rfl)
        · intro u W hC _
          unfold Facts.one
          go_simp
          all_goals (first | exact ⟨Grew.refl _, rfl⟩ | rfl)
        simp only [Act.put, List.setIfInBounds_toArray, List.set_cons_zero, List.set_cons_succ, Nat.zero_add]
        apply Facts.Lex.exact [] _ (by kernel_rfl)
        · intro u W hC _
          unfold Facts.one
          go_simp
          all_goals (first | exact ⟨Grew.refl _, rfl⟩ | rfl)
        simp only [Act.put, List.setIfInBounds_toArray, List.set_cons_zero, List.set_cons_succ, Nat.reduceAdd]
        apply Facts.Lex.exact [] _ (by kernel_rfl)
        · intro u W hC _
          unfold Facts.one
          go_simp
          all_goals (first | exact ⟨Grew.refl _, rfl⟩ | rfl)
        simp only [Act.put, List.setIfInBounds_toArray, List.set_cons_zero, List.set_cons_succ, Nat.reduceAdd]
        apply Facts.Lex.exact [] _ (by kernel_rfl)
        · intro u W hC _
          unfold Facts.one
          go_simp
          all_goals (first | exact ⟨Grew.refl _, rfl⟩ | rfl)
        simp only [Act.put, List.setIfInBounds_toArray, List.set_cons_zero, List.set_cons_succ, Nat.reduceAdd]
        apply Facts.Lex.exact [] _ (by kernel_rfl)
        · intro u W hC _
          unfold Facts.one
          go_simp
          all_goals (first | exact ⟨Grew.refl _, rfl⟩ | rfl)
        simp only [Act.put, List.setIfInBounds_toArray, List.set_cons_zero, List.set_cons_succ, Nat.reduceAdd]
        apply Facts.Lex.exact [] _ (by kernel_rfl)
        · intro u W hC _
          obtain ⟨a0, a1, a2, a3⟩ := (HQ2.out.grew (HGX.out.trans hC)).cells
          unfold Facts.one
          go_simp
          all_goals (first | exact ⟨Grew.refl _, rfl⟩ | rfl)
        simp only [Act.put, List.setIfInBounds_toArray, List.set_cons_zero, List.set_cons_succ, Nat.reduceAdd]
        apply Facts.Lex.exact [] _ (by kernel_rfl)
        · intro u W hC _
          obtain ⟨a0, a1, a2, a3⟩ := (HQ2.out.grew (HGX.out.trans hC)).cells
          unfold Facts.one
          go_simp
          all_goals (first | exact ⟨Grew.refl _, rfl⟩ | rfl)
        simp only [Act.put, List.setIfInBounds_toArray, List.set_cons_zero, List.set_cons_succ, Nat.reduceAdd]
        apply Facts.Lex.exact [] _ (by kernel_rfl)
        · intro u W hC _
          unfold Facts.one
          go_simp
          all_goals (first | exact ⟨Grew.refl _, rfl⟩ | rfl)
        simp only [Act.put, List.setIfInBounds_toArray, List.set_cons_zero, List.set_cons_succ, Nat.reduceAdd]
        apply Facts.Lex.exact [] _ (by kernel_rfl)
        · intro u W hC _
          obtain ⟨a0, a1, a2, a3⟩ := (HP2.out.grew (HGX.out.trans hC)).cells
          unfold Facts.one
          go_simp
          all_goals (first | exact ⟨Grew.refl _, rfl⟩ | rfl)
        simp only [Act.put, List.setIfInBounds_toArray, List.set_cons_zero, List.set_cons_succ, Nat.reduceAdd]
        apply Facts.Lex.exact [] _ (by kernel_rfl)
        · intro u W hC _
          obtain ⟨a0, a1, a2, a3⟩ := (HP2.out.grew (HGX.out.trans hC)).cells
          unfold Facts.one
          go_simp
          all_goals (first | exact ⟨Grew.refl _, rfl⟩ | rfl)
        simp only [Act.put, List.setIfInBounds_toArray, List.set_cons_zero, List.set_cons_succ, Nat.reduceAdd]
        apply Facts.Lex.exact [] _ (by kernel_rfl)
        · intro u W hC _
          unfold Facts.one
          go_simp
          all_goals (first | exact ⟨Grew.refl _, rfl⟩ | rfl)
        simp only [Act.put, List.setIfInBounds_toArray, List.set_cons_zero, List.set_cons_succ, Nat.reduceAdd]
        apply Facts.Lex.exact [] _ (by kernel_rfl)
        · intro u W hC _
          unfold Facts.one
          go_simp
          all_goals (first | exact ⟨Grew.refl _, rfl⟩ | rfl)
        simp only [Act.put, List.setIfInBounds_toArray, List.set_cons_zero, List.set_cons_succ, Nat.reduceAdd]
        refine Facts.Lex.done fun u W hC _ => ?_
        have HGE := Lib.hid (HGX.out.trans hC)
        go_wp2
        go_roundg q
        case measure => omega
        case rel => exact ⟨2 + 1, by omega, by first | rfl | simp, HGE⟩
      · go_wp2
        refine Facts.wp_region_text (by kernel_rfl) (by kernel_rfl) ?_
        apply Facts.Lex.exact [] _ (by kernel_rfl)
        · intro u W hC _
          unfold Facts.one
          go_simp
          all_goals (first | exact ⟨Grew.refl _, rfl⟩ | rfl)
        simp only [Act.put, List.setIfInBounds_toArray, List.set_cons_zero, List.set_cons_succ, Nat.zero_add]
        apply Facts.Lex.exact [] _ (by kernel_rfl)
        · intro u W hC _
          unfold Facts.one
          go_simp
          all_goals (first | exact ⟨Grew.refl _, rfl⟩ | rfl)
        simp only [Act.put, List.setIfInBounds_toArray, List.set_cons_zero, List.set_cons_succ, Nat.reduceAdd]
        apply Facts.Lex.exact [] _ (by kernel_rfl)
        · intro u W hC _
          unfold Facts.one
          go_simp
          all_goals (first | exact ⟨Grew.refl _, rfl⟩ | rfl)
        simp only [Act.put, List.setIfInBounds_toArray, List.set_cons_zero, List.set_cons_succ, Nat.reduceAdd]
        apply Facts.Lex.exact [] _ (by kernel_rfl)
        · intro u W hC _
          unfold Facts.one
          go_simp
          all_goals (first | exact ⟨Grew.refl _, rfl⟩ | rfl)
        simp only [Act.put, List.setIfInBounds_toArray, List.set_cons_zero, List.set_cons_succ, Nat.reduceAdd]
        apply Facts.Lex.exact [] _ (by kernel_rfl)
        · intro u W hC _
          unfold Facts.one
          go_simp
          all_goals (first | exact ⟨Grew.refl _, rfl⟩ | rfl)
        simp only [Act.put, List.setIfInBounds_toArray, List.set_cons_zero, List.set_cons_succ, Nat.reduceAdd]
        apply Facts.Lex.exact [] _ (by kernel_rfl)
        · intro u W hC _
          obtain ⟨a0, a1, a2, a3⟩ := (HQ2.out.grew (HGX.out.trans hC)).cells
          unfold Facts.one
          go_simp
          all_goals (first | exact ⟨Grew.refl _, rfl⟩ | rfl)
        simp only [Act.put, List.setIfInBounds_toArray, List.set_cons_zero, List.set_cons_succ, Nat.reduceAdd]
        apply Facts.Lex.exact [] _ (by kernel_rfl)
        · intro u W hC _
          obtain ⟨a0, a1, a2, a3⟩ := (HQ2.out.grew (HGX.out.trans hC)).cells
          unfold Facts.one
          go_simp
          all_goals (first | exact ⟨Grew.refl _, rfl⟩ | rfl)
        simp only [Act.put, List.setIfInBounds_toArray, List.set_cons_zero, List.set_cons_succ, Nat.reduceAdd]
        apply Facts.Lex.exact [] _ (by kernel_rfl)
        · intro u W hC _
          unfold Facts.one
          go_simp
          all_goals (first | exact ⟨Grew.refl _, rfl⟩ | rfl)
        simp only [Act.put, List.setIfInBounds_toArray, List.set_cons_zero, List.set_cons_succ, Nat.reduceAdd]
        apply Facts.Lex.exact [] _ (by kernel_rfl)
        · intro u W hC _
          obtain ⟨a0, a1, a2, a3⟩ := (HP2.out.grew (HGX.out.trans hC)).cells
          unfold Facts.one
          go_simp
          all_goals (first | exact ⟨Grew.refl _, rfl⟩ | rfl)
        simp only [Act.put, List.setIfInBounds_toArray, List.set_cons_zero, List.set_cons_succ, Nat.reduceAdd]
        apply Facts.Lex.exact [] _ (by kernel_rfl)
        · intro u W hC _
          obtain ⟨a0, a1, a2, a3⟩ := (HP2.out.grew (HGX.out.trans hC)).cells
          unfold Facts.one
          go_simp
          all_goals (first | exact ⟨Grew.refl _, rfl⟩ | rfl)
        simp only [Act.put, List.setIfInBounds_toArray, List.set_cons_zero, List.set_cons_succ, Nat.reduceAdd]
        apply Facts.Lex.exact [] _ (by kernel_rfl)
        · intro u W hC _
          unfold Facts.one
          go_simp
          all_goals (first | exact ⟨Grew.refl _, rfl⟩ | rfl)
        simp only [Act.put, List.setIfInBounds_toArray, List.set_cons_zero, List.set_cons_succ, Nat.reduceAdd]
        apply Facts.Lex.exact [] _ (by kernel_rfl)
        · intro u W hC _
          unfold Facts.one
          go_simp
          all_goals (first | exact ⟨Grew.refl _, rfl⟩ | rfl)
        simp only [Act.put, List.setIfInBounds_toArray, List.set_cons_zero, List.set_cons_succ, Nat.reduceAdd]
        refine Facts.Lex.done fun u W hC _ => ?_
        have HGE := Lib.hid (HGX.out.trans hC)
        go_wp2
        go_roundg q
        case measure => omega
        case rel => exact ⟨3 + 1, by omega, by first | rfl | simp, HGE⟩
theorem back_any (p0 p1 p2 p3 n : Nat) (k : Int) (h0 : p0 < 18446744073709551616) (h1 : p1 < 18446744073709551616) (h2 : p2 < 18446744073709551616) (h3 : p3 < 18446744073709551616) (hn : n < 18446744073709551616) (w : World) :
    Calls Try.prog 5 #[pv p0 p1 p2 p3, .int .i64 k, .int .u64 (n : Int)] w fun e w' => e = .returned (.bool true) ∧ Grew w w' := by
  by_cases hl : k < 0
  · exact back_low p0 p1 p2 p3 n k hl w
  · by_cases hg : 4 ≤ k
    · exact back_high p0 p1 p2 p3 n k hg w
    · obtain rfl | rfl | rfl | rfl : k = 0 ∨ k = 1 ∨ k = 2 ∨ k = 3 := by omega
      · by_cases hs : p0 + n ≤ top
        · exact back_ok0 p0 p1 p2 p3 n h0 h1 h2 h3 hn hs w
        · by_cases ht : p0 ≤ top
          · exact back_less0 p0 p1 p2 p3 n h0 h1 h2 h3 hn hs ht w
          · exact back_over0 p0 p1 p2 p3 n h0 h1 h2 h3 hn hs ht w
      · by_cases hs : p1 + n ≤ top
        · exact back_ok1 p0 p1 p2 p3 n h0 h1 h2 h3 hn hs w
        · by_cases ht : p1 ≤ top
          · exact back_less1 p0 p1 p2 p3 n h0 h1 h2 h3 hn hs ht w
          · exact back_over1 p0 p1 p2 p3 n h0 h1 h2 h3 hn hs ht w
      · by_cases hs : p2 + n ≤ top
        · exact back_ok2 p0 p1 p2 p3 n h0 h1 h2 h3 hn hs w
        · by_cases ht : p2 ≤ top
          · exact back_less2 p0 p1 p2 p3 n h0 h1 h2 h3 hn hs ht w
          · exact back_over2 p0 p1 p2 p3 n h0 h1 h2 h3 hn hs ht w
      · by_cases hs : p3 + n ≤ top
        · exact back_ok3 p0 p1 p2 p3 n h0 h1 h2 h3 hn hs w
        · by_cases ht : p3 ≤ top
          · exact back_less3 p0 p1 p2 p3 n h0 h1 h2 h3 hn hs ht w
          · exact back_over3 p0 p1 p2 p3 n h0 h1 h2 h3 hn hs ht w
end Go.Proofs.Ytcgloenpliaioaa.CY
