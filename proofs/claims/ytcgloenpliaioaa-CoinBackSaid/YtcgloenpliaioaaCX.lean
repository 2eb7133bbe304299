/-
  CoinBack, walked.
  Conditions: those that each lemma names.
-/
import Derived.Test.YtcgloenpliaioaaCW
import Derived.Deep.QuietTactic
import Derived.Deep.LoopGhost
namespace Go.Proofs.Ytcgloenpliaioaa.CX
set_option maxRecDepth 100000
open Go Go.RowKit Go.Proofs.Ytcgloenpliaioaa Go.Proofs.Ytcgloenpliaioaa.Facts Go.Proofs.Ytcgloenpliaioaa.Bytes Go.Proofs.Ytcgloenpliaioaa.CA Go.Proofs.Ytcgloenpliaioaa.CB Go.Proofs.Ytcgloenpliaioaa.CS Go.Proofs.Ytcgloenpliaioaa.CT Go.Proofs.Ytcgloenpliaioaa.CU Go.Proofs.Ytcgloenpliaioaa.CW
def PI (w : World) (b : Nat) (a0 a1 a2 a3 : Int) : Prop := w.heap[b]? = some (.cells #[.int .u64 a0, .int .u64 a1, .int .u64 a2, .int .u64 a3] 31)
theorem PI.grew {w w' : World} {b : Nat} {a0 a1 a2 a3 : Int} (h : PI w b a0 a1 a2 a3) (hg : Grew w w') : PI w' b a0 a1 a2 a3 := (hg.block b (Array.getElem?_eq_some_iff.1 h).1).trans h
theorem PI.cells {w : World} {b : Nat} {a0 a1 a2 a3 : Int} (h : PI w b a0 a1 a2 a3) : w.cell? ⟨b, 0, none⟩ = some (.int .u64 a0) ∧ w.cell? ⟨b, 1, none⟩ = some (.int .u64 a1) ∧ w.cell? ⟨b, 2, none⟩ = some (.int .u64 a2) ∧ w.cell? ⟨b, 3, none⟩ = some (.int .u64 a3) := by
  refine ⟨?_, ?_, ?_, ?_⟩ <;> (unfold World.cell?; simp only [show w.heap[b]? = _ from h]; rfl)
theorem PI.new (w : World) (a0 a1 a2 a3 : Int) : PI (w.alloc (.cells #[.int .u64 a0, .int .u64 a1, .int .u64 a2, .int .u64 a3] 31)) w.heap.size a0 a1 a2 a3 := heap_alloc_new w _
set_option maxHeartbeats 2000000 in
theorem back_low (p0 p1 p2 p3 n : Nat) (k : Int) (hk : k < 0) (w : World) :
    Calls Try.prog 5 #[pv p0 p1 p2 p3, .int .i64 k, .int .u64 (n : Int)] w fun e w' => e = .returned (.bool true) ∧ Grew w w' := by
  have HX : Hid (∀ w, Calls Try.prog 16 #[.agg #[.int .u64 (p0 : Int), .int .u64 (p1 : Int), .int .u64 (p2 : Int), .int .u64 (p3 : Int)], .int .i64 k, .int .u64 (n : Int)] w fun e w' => e = .returned (.tuple #[.agg #[.int .u64 0, .int .u64 0, .int .u64 0, .int .u64 0], .int .i64 1]) ∧ Grew w w') := Lib.hid (fun w => (give_both_no p0 p1 p2 p3 n k (.inl hk) w).1)
  have d0 : decide (k < 0) = true := decide_eq_true hk
  clear hk
  unfold pv
  go_enter Try.func5, Try.ntmps5
  go_upto_region 1 with fail
  have HP := Lib.hid (PI.new w p0 p1 p2 p3)
  have HG0 := Lib.hid (grew_new w (.cells #[.int .u64 (p0 : Int), .int .u64 (p1 : Int), .int .u64 (p2 : Int), .int .u64 (p3 : Int)] 31))
  obtain ⟨c0, c1, c2, c3⟩ := HP.out.cells
  generalize w.alloc (.cells #[.int .u64 (p0 : Int), .int .u64 (p1 : Int), .int .u64 (p2 : Int), .int .u64 (p3 : Int)] 31) = W0 at *
  generalize w.heap.size = B0 at *
  go_wp2_with fail
  refine (HX.out _).mono ?_
  rintro e w1 ⟨rfl, hg⟩
  have HGa := Lib.hid hg
  clear hg
  go_upto_region 2 with fail
  have HQ1 := Lib.hid (PI.new w1 0 0 0 0)
  have HGb := Lib.hid (HGa.out.trans (grew_new w1 (.cells #[.int .u64 0, .int .u64 0, .int .u64 0, .int .u64 0] 31)))
  have HP1 := Lib.hid (HP.out.grew HGb.out)
  have HG1 := Lib.hid (HG0.out.trans HGb.out)
  clear c0 c1 c2 c3 HP
  generalize w1.alloc (.cells #[.int .u64 0, .int .u64 0, .int .u64 0, .int .u64 0] 31) = W1 at *
  generalize w1.heap.size = B1 at *
  clear HGa HGb
  have hg2 : Grew W1 W1 := Grew.refl _
  clear hg2
  obtain ⟨a0, a1, a2, a3⟩ := HQ1.out.cells
  obtain ⟨b0, b1, b2, b3⟩ := HP1.out.cells
  go_wp2_with fail
  refine (alive_any _).mono ?_
  rintro e w2 ⟨rfl, hg⟩
  clear a0 a1 a2 a3 b0 b1 b2 b3
  obtain ⟨a0, a1, a2, a3⟩ := (HQ1.out.grew hg).cells
  obtain ⟨b0, b1, b2, b3⟩ := (HP1.out.grew hg).cells
  have HG2 := Lib.hid (HG1.out.trans hg)
  clear hg HQ1 HP1 HG1
  have kz := eq4 0 0 0 0
  go_wp2
  go_ret
  exact ⟨rfl, HG2.out⟩
set_option maxHeartbeats 2000000 in
theorem back_high (p0 p1 p2 p3 n : Nat) (k : Int) (hk : 4 ≤ k) (w : World) :
    Calls Try.prog 5 #[pv p0 p1 p2 p3, .int .i64 k, .int .u64 (n : Int)] w fun e w' => e = .returned (.bool true) ∧ Grew w w' := by
  have HX : Hid (∀ w, Calls Try.prog 16 #[.agg #[.int .u64 (p0 : Int), .int .u64 (p1 : Int), .int .u64 (p2 : Int), .int .u64 (p3 : Int)], .int .i64 k, .int .u64 (n : Int)] w fun e w' => e = .returned (.tuple #[.agg #[.int .u64 0, .int .u64 0, .int .u64 0, .int .u64 0], .int .i64 1]) ∧ Grew w w') := Lib.hid (fun w => (give_both_no p0 p1 p2 p3 n k (.inr hk) w).1)
  have d0 : decide (k < 0) = false := decide_eq_false (by omega)
  have d1 : decide ((3 : Int) < k) = true := decide_eq_true (by omega)
  clear hk
  unfold pv
  go_enter Try.func5, Try.ntmps5
  go_upto_region 1 with fail
  have HP := Lib.hid (PI.new w p0 p1 p2 p3)
  have HG0 := Lib.hid (grew_new w (.cells #[.int .u64 (p0 : Int), .int .u64 (p1 : Int), .int .u64 (p2 : Int), .int .u64 (p3 : Int)] 31))
  obtain ⟨c0, c1, c2, c3⟩ := HP.out.cells
  generalize w.alloc (.cells #[.int .u64 (p0 : Int), .int .u64 (p1 : Int), .int .u64 (p2 : Int), .int .u64 (p3 : Int)] 31) = W0 at *
  generalize w.heap.size = B0 at *
  go_wp2_with fail
  refine (HX.out _).mono ?_
  rintro e w1 ⟨rfl, hg⟩
  have HGa := Lib.hid hg
  clear hg
  go_upto_region 2 with fail
  have HQ1 := Lib.hid (PI.new w1 0 0 0 0)
  have HGb := Lib.hid (HGa.out.trans (grew_new w1 (.cells #[.int .u64 0, .int .u64 0, .int .u64 0, .int .u64 0] 31)))
  have HP1 := Lib.hid (HP.out.grew HGb.out)
  have HG1 := Lib.hid (HG0.out.trans HGb.out)
  clear c0 c1 c2 c3 HP
  generalize w1.alloc (.cells #[.int .u64 0, .int .u64 0, .int .u64 0, .int .u64 0] 31) = W1 at *
  generalize w1.heap.size = B1 at *
  clear HGa HGb
  have hg2 : Grew W1 W1 := Grew.refl _
  clear hg2
  obtain ⟨a0, a1, a2, a3⟩ := HQ1.out.cells
  obtain ⟨b0, b1, b2, b3⟩ := HP1.out.cells
  go_wp2_with fail
  refine (alive_any _).mono ?_
  rintro e w2 ⟨rfl, hg⟩
  clear a0 a1 a2 a3 b0 b1 b2 b3
  obtain ⟨a0, a1, a2, a3⟩ := (HQ1.out.grew hg).cells
  obtain ⟨b0, b1, b2, b3⟩ := (HP1.out.grew hg).cells
  have HG2 := Lib.hid (HG1.out.trans hg)
  clear hg HQ1 HP1 HG1
  have kz := eq4 0 0 0 0
  go_wp2
  go_ret
  exact ⟨rfl, HG2.out⟩
theorem plus_no (a n : Nat) (h : ¬ a + n ≤ top) : plusN a n = (0, 7) := if_neg fun hh => h hh.2
theorem plus_yes (a n : Nat) (h : a + n ≤ top) : plusN a n = (a + n, 0) := if_pos ⟨by omega, h⟩
theorem minus_yes (a n : Nat) : minusN (a + n) n = (a, 0) := by
  unfold minusN
  rw [if_pos (by omega)]
  congr 1
  omega
set_option maxHeartbeats 2000000 in
theorem back_over0 (p0 p1 p2 p3 n : Nat) (h0 : p0 < 18446744073709551616) (h1 : p1 < 18446744073709551616) (h2 : p2 < 18446744073709551616) (h3 : p3 < 18446744073709551616) (hn : n < 18446744073709551616) (hs : ¬ p0 + n ≤ top) (ht : ¬ p0 ≤ top) (w : World) :
    Calls Try.prog 5 #[pv p0 p1 p2 p3, .int .i64 0, .int .u64 (n : Int)] w fun e w' => e = .returned (.bool true) ∧ Grew w w' := by
  have HX : Hid (∀ w, Calls Try.prog 16 #[.agg #[.int .u64 (p0 : Int), .int .u64 (p1 : Int), .int .u64 (p2 : Int), .int .u64 (p3 : Int)], .int .i64 0, .int .u64 (n : Int)] w fun e w' => e = .returned (.tuple #[.agg #[.int .u64 0, .int .u64 0, .int .u64 0, .int .u64 0], .int .i64 7]) ∧ Grew w w') := Lib.hid (fun w => give_of p0 p1 p2 p3 0 n 0 0 0 0 7 (fun w => (changep_0 p0 p1 p2 p3 n h0 h1 h2 h3 hn w).mono fun e w' hh => ⟨by rw [hh.1]; unfold chg; rw [show at4 p0 p1 p2 p3 0 = p0 from rfl, plus_no p0 n hs, if_neg (by decide)], hh.2⟩) w)
  have d1 : decide ((4611686018427387904 : Int) < (p0 : Int)) = true := decide_eq_true (by unfold top at ht; omega)
  clear h0 h1 h2 h3 hn hs ht
  unfold pv
  go_enter Try.func5, Try.ntmps5
  go_upto_region 1 with fail
  have HP := Lib.hid (PI.new w p0 p1 p2 p3)
  have HG0 := Lib.hid (grew_new w (.cells #[.int .u64 (p0 : Int), .int .u64 (p1 : Int), .int .u64 (p2 : Int), .int .u64 (p3 : Int)] 31))
  obtain ⟨c0, c1, c2, c3⟩ := HP.out.cells
  generalize w.alloc (.cells #[.int .u64 (p0 : Int), .int .u64 (p1 : Int), .int .u64 (p2 : Int), .int .u64 (p3 : Int)] 31) = W0 at *
  generalize w.heap.size = B0 at *
  go_wp2_with fail
  refine (HX.out _).mono ?_
  rintro e w1 ⟨rfl, hg⟩
  have HGa := Lib.hid hg
  clear hg
  go_upto_region 2 with fail
  have HQ1 := Lib.hid (PI.new w1 0 0 0 0)
  have HGb := Lib.hid (HGa.out.trans (grew_new w1 (.cells #[.int .u64 0, .int .u64 0, .int .u64 0, .int .u64 0] 31)))
  have HP1 := Lib.hid (HP.out.grew HGb.out)
  have HG1 := Lib.hid (HG0.out.trans HGb.out)
  clear c0 c1 c2 c3 HP
  generalize w1.alloc (.cells #[.int .u64 0, .int .u64 0, .int .u64 0, .int .u64 0] 31) = W1 at *
  generalize w1.heap.size = B1 at *
  clear HGa HGb
  have hg2 : Grew W1 W1 := Grew.refl _
  clear hg2
  obtain ⟨a0, a1, a2, a3⟩ := HQ1.out.cells
  obtain ⟨b0, b1, b2, b3⟩ := HP1.out.cells
  go_wp2_with fail
  refine (alive_any _).mono ?_
  rintro e w2 ⟨rfl, hg⟩
  clear a0 a1 a2 a3 b0 b1 b2 b3
  obtain ⟨a0, a1, a2, a3⟩ := (HQ1.out.grew hg).cells
  obtain ⟨b0, b1, b2, b3⟩ := (HP1.out.grew hg).cells
  have HG2 := Lib.hid (HG1.out.trans hg)
  clear hg HQ1 HP1 HG1
  have kz := eq4 0 0 0 0
  go_wp2
  go_ret
  exact ⟨rfl, HG2.out⟩
set_option maxHeartbeats 2000000 in
theorem back_less0 (p0 p1 p2 p3 n : Nat) (h0 : p0 < 18446744073709551616) (h1 : p1 < 18446744073709551616) (h2 : p2 < 18446744073709551616) (h3 : p3 < 18446744073709551616) (hn : n < 18446744073709551616) (hs : ¬ p0 + n ≤ top) (ht : p0 ≤ top) (w : World) :
    Calls Try.prog 5 #[pv p0 p1 p2 p3, .int .i64 0, .int .u64 (n : Int)] w fun e w' => e = .returned (.bool true) ∧ Grew w w' := by
  have HX : Hid (∀ w, Calls Try.prog 16 #[.agg #[.int .u64 (p0 : Int), .int .u64 (p1 : Int), .int .u64 (p2 : Int), .int .u64 (p3 : Int)], .int .i64 0, .int .u64 (n : Int)] w fun e w' => e = .returned (.tuple #[.agg #[.int .u64 0, .int .u64 0, .int .u64 0, .int .u64 0], .int .i64 7]) ∧ Grew w w') := Lib.hid (fun w => give_of p0 p1 p2 p3 0 n 0 0 0 0 7 (fun w => (changep_0 p0 p1 p2 p3 n h0 h1 h2 h3 hn w).mono fun e w' hh => ⟨by rw [hh.1]; unfold chg; rw [show at4 p0 p1 p2 p3 0 = p0 from rfl, plus_no p0 n hs, if_neg (by decide)], hh.2⟩) w)
  have d1 : decide ((4611686018427387904 : Int) < (p0 : Int)) = false := decide_eq_false (by unfold top at ht; omega)
  have hw : IntKind.u64.wrap ((4611686018427387904 : Int) - (p0 : Int)) = 4611686018427387904 - (p0 : Int) := IntWalk.u64_in _ (by unfold top at ht; omega)
  have d2 : decide ((4611686018427387904 : Int) - (p0 : Int) < (n : Int)) = true := decide_eq_true (by unfold top at ht hs; omega)
  clear h0 h1 h2 h3 hn hs ht
  unfold pv
  go_enter Try.func5, Try.ntmps5
  go_upto_region 1 with fail
  have HP := Lib.hid (PI.new w p0 p1 p2 p3)
  have HG0 := Lib.hid (grew_new w (.cells #[.int .u64 (p0 : Int), .int .u64 (p1 : Int), .int .u64 (p2 : Int), .int .u64 (p3 : Int)] 31))
  obtain ⟨c0, c1, c2, c3⟩ := HP.out.cells
  generalize w.alloc (.cells #[.int .u64 (p0 : Int), .int .u64 (p1 : Int), .int .u64 (p2 : Int), .int .u64 (p3 : Int)] 31) = W0 at *
  generalize w.heap.size = B0 at *
  go_wp2_with fail
  refine (HX.out _).mono ?_
  rintro e w1 ⟨rfl, hg⟩
  have HGa := Lib.hid hg
  clear hg
  go_upto_region 2 with fail
  have HQ1 := Lib.hid (PI.new w1 0 0 0 0)
  have HGb := Lib.hid (HGa.out.trans (grew_new w1 (.cells #[.int .u64 0, .int .u64 0, .int .u64 0, .int .u64 0] 31)))
  have HP1 := Lib.hid (HP.out.grew HGb.out)
  have HG1 := Lib.hid (HG0.out.trans HGb.out)
  clear c0 c1 c2 c3 HP
  generalize w1.alloc (.cells #[.int .u64 0, .int .u64 0, .int .u64 0, .int .u64 0] 31) = W1 at *
  generalize w1.heap.size = B1 at *
  clear HGa HGb
  have hg2 : Grew W1 W1 := Grew.refl _
  clear hg2
  obtain ⟨a0, a1, a2, a3⟩ := HQ1.out.cells
  obtain ⟨b0, b1, b2, b3⟩ := HP1.out.cells
  go_wp2_with fail
  refine (alive_any _).mono ?_
  rintro e w2 ⟨rfl, hg⟩
  clear a0 a1 a2 a3 b0 b1 b2 b3
  obtain ⟨a0, a1, a2, a3⟩ := (HQ1.out.grew hg).cells
  obtain ⟨b0, b1, b2, b3⟩ := (HP1.out.grew hg).cells
  have HG2 := Lib.hid (HG1.out.trans hg)
  clear hg HQ1 HP1 HG1
  have kz := eq4 0 0 0 0
  go_wp2
  go_ret
  exact ⟨rfl, HG2.out⟩
set_option maxHeartbeats 2000000 in
theorem back_over1 (p0 p1 p2 p3 n : Nat) (h0 : p0 < 18446744073709551616) (h1 : p1 < 18446744073709551616) (h2 : p2 < 18446744073709551616) (h3 : p3 < 18446744073709551616) (hn : n < 18446744073709551616) (hs : ¬ p1 + n ≤ top) (ht : ¬ p1 ≤ top) (w : World) :
    Calls Try.prog 5 #[pv p0 p1 p2 p3, .int .i64 1, .int .u64 (n : Int)] w fun e w' => e = .returned (.bool true) ∧ Grew w w' := by
  have HX : Hid (∀ w, Calls Try.prog 16 #[.agg #[.int .u64 (p0 : Int), .int .u64 (p1 : Int), .int .u64 (p2 : Int), .int .u64 (p3 : Int)], .int .i64 1, .int .u64 (n : Int)] w fun e w' => e = .returned (.tuple #[.agg #[.int .u64 0, .int .u64 0, .int .u64 0, .int .u64 0], .int .i64 7]) ∧ Grew w w') := Lib.hid (fun w => give_of p0 p1 p2 p3 1 n 0 0 0 0 7 (fun w => (changep_1 p0 p1 p2 p3 n h0 h1 h2 h3 hn w).mono fun e w' hh => ⟨by rw [hh.1]; unfold chg; rw [show at4 p0 p1 p2 p3 1 = p1 from rfl, plus_no p1 n hs, if_neg (by decide)], hh.2⟩) w)
  have d1 : decide ((4611686018427387904 : Int) < (p1 : Int)) = true := decide_eq_true (by unfold top at ht; omega)
  clear h0 h1 h2 h3 hn hs ht
  unfold pv
  go_enter Try.func5, Try.ntmps5
  go_upto_region 1 with fail
  have HP := Lib.hid (PI.new w p0 p1 p2 p3)
  have HG0 := Lib.hid (grew_new w (.cells #[.int .u64 (p0 : Int), .int .u64 (p1 : Int), .int .u64 (p2 : Int), .int .u64 (p3 : Int)] 31))
  obtain ⟨c0, c1, c2, c3⟩ := HP.out.cells
  generalize w.alloc (.cells #[.int .u64 (p0 : Int), .int .u64 (p1 : Int), .int .u64 (p2 : Int), .int .u64 (p3 : Int)] 31) = W0 at *
  generalize w.heap.size = B0 at *
  go_wp2_with fail
  refine (HX.out _).mono ?_
  rintro e w1 ⟨rfl, hg⟩
  have HGa := Lib.hid hg
  clear hg
  go_upto_region 2 with fail
  have HQ1 := Lib.hid (PI.new w1 0 0 0 0)
  have HGb := Lib.hid (HGa.out.trans (grew_new w1 (.cells #[.int .u64 0, .int .u64 0, .int .u64 0, .int .u64 0] 31)))
  have HP1 := Lib.hid (HP.out.grew HGb.out)
  have HG1 := Lib.hid (HG0.out.trans HGb.out)
  clear c0 c1 c2 c3 HP
  generalize w1.alloc (.cells #[.int .u64 0, .int .u64 0, .int .u64 0, .int .u64 0] 31) = W1 at *
  generalize w1.heap.size = B1 at *
  clear HGa HGb
  have hg2 : Grew W1 W1 := Grew.refl _
  clear hg2
  obtain ⟨a0, a1, a2, a3⟩ := HQ1.out.cells
  obtain ⟨b0, b1, b2, b3⟩ := HP1.out.cells
  go_wp2_with fail
  refine (alive_any _).mono ?_
  rintro e w2 ⟨rfl, hg⟩
  clear a0 a1 a2 a3 b0 b1 b2 b3
  obtain ⟨a0, a1, a2, a3⟩ := (HQ1.out.grew hg).cells
  obtain ⟨b0, b1, b2, b3⟩ := (HP1.out.grew hg).cells
  have HG2 := Lib.hid (HG1.out.trans hg)
  clear hg HQ1 HP1 HG1
  have kz := eq4 0 0 0 0
  go_wp2
  go_ret
  exact ⟨rfl, HG2.out⟩
set_option maxHeartbeats 2000000 in
theorem back_less1 (p0 p1 p2 p3 n : Nat) (h0 : p0 < 18446744073709551616) (h1 : p1 < 18446744073709551616) (h2 : p2 < 18446744073709551616) (h3 : p3 < 18446744073709551616) (hn : n < 18446744073709551616) (hs : ¬ p1 + n ≤ top) (ht : p1 ≤ top) (w : World) :
    Calls Try.prog 5 #[pv p0 p1 p2 p3, .int .i64 1, .int .u64 (n : Int)] w fun e w' => e = .returned (.bool true) ∧ Grew w w' := by
  have HX : Hid (∀ w, Calls Try.prog 16 #[.agg #[.int .u64 (p0 : Int), .int .u64 (p1 : Int), .int .u64 (p2 : Int), .int .u64 (p3 : Int)], .int .i64 1, .int .u64 (n : Int)] w fun e w' => e = .returned (.tuple #[.agg #[.int .u64 0, .int .u64 0, .int .u64 0, .int .u64 0], .int .i64 7]) ∧ Grew w w') := Lib.hid (fun w => give_of p0 p1 p2 p3 1 n 0 0 0 0 7 (fun w => (changep_1 p0 p1 p2 p3 n h0 h1 h2 h3 hn w).mono fun e w' hh => ⟨by rw [hh.1]; unfold chg; rw [show at4 p0 p1 p2 p3 1 = p1 from rfl, plus_no p1 n hs, if_neg (by decide)], hh.2⟩) w)
  have d1 : decide ((4611686018427387904 : Int) < (p1 : Int)) = false := decide_eq_false (by unfold top at ht; omega)
  have hw : IntKind.u64.wrap ((4611686018427387904 : Int) - (p1 : Int)) = 4611686018427387904 - (p1 : Int) := IntWalk.u64_in _ (by unfold top at ht; omega)
  have d2 : decide ((4611686018427387904 : Int) - (p1 : Int) < (n : Int)) = true := decide_eq_true (by unfold top at ht hs; omega)
  clear h0 h1 h2 h3 hn hs ht
  unfold pv
  go_enter Try.func5, Try.ntmps5
  go_upto_region 1 with fail
  have HP := Lib.hid (PI.new w p0 p1 p2 p3)
  have HG0 := Lib.hid (grew_new w (.cells #[.int .u64 (p0 : Int), .int .u64 (p1 : Int), .int .u64 (p2 : Int), .int .u64 (p3 : Int)] 31))
  obtain ⟨c0, c1, c2, c3⟩ := HP.out.cells
  generalize w.alloc (.cells #[.int .u64 (p0 : Int), .int .u64 (p1 : Int), .int .u64 (p2 : Int), .int .u64 (p3 : Int)] 31) = W0 at *
  generalize w.heap.size = B0 at *
  go_wp2_with fail
  refine (HX.out _).mono ?_
  rintro e w1 ⟨rfl, hg⟩
  have HGa := Lib.hid hg
  clear hg
  go_upto_region 2 with fail
  have HQ1 := Lib.hid (PI.new w1 0 0 0 0)
  have HGb := Lib.hid (HGa.out.trans (grew_new w1 (.cells #[.int .u64 0, .int .u64 0, .int .u64 0, .int .u64 0] 31)))
  have HP1 := Lib.hid (HP.out.grew HGb.out)
  have HG1 := Lib.hid (HG0.out.trans HGb.out)
  clear c0 c1 c2 c3 HP
  generalize w1.alloc (.cells #[.int .u64 0, .int .u64 0, .int .u64 0, .int .u64 0] 31) = W1 at *
  generalize w1.heap.size = B1 at *
  clear HGa HGb
  have hg2 : Grew W1 W1 := Grew.refl _
  clear hg2
  obtain ⟨a0, a1, a2, a3⟩ := HQ1.out.cells
  obtain ⟨b0, b1, b2, b3⟩ := HP1.out.cells
  go_wp2_with fail
  refine (alive_any _).mono ?_
  rintro e w2 ⟨rfl, hg⟩
  clear a0 a1 a2 a3 b0 b1 b2 b3
  obtain ⟨a0, a1, a2, a3⟩ := (HQ1.out.grew hg).cells
  obtain ⟨b0, b1, b2, b3⟩ := (HP1.out.grew hg).cells
  have HG2 := Lib.hid (HG1.out.trans hg)
  clear hg HQ1 HP1 HG1
  have kz := eq4 0 0 0 0
  go_wp2
  go_ret
  exact ⟨rfl, HG2.out⟩
set_option maxHeartbeats 2000000 in
theorem back_over2 (p0 p1 p2 p3 n : Nat) (h0 : p0 < 18446744073709551616) (h1 : p1 < 18446744073709551616) (h2 : p2 < 18446744073709551616) (h3 : p3 < 18446744073709551616) (hn : n < 18446744073709551616) (hs : ¬ p2 + n ≤ top) (ht : ¬ p2 ≤ top) (w : World) :
    Calls Try.prog 5 #[pv p0 p1 p2 p3, .int .i64 2, .int .u64 (n : Int)] w fun e w' => e = .returned (.bool true) ∧ Grew w w' := by
  have HX : Hid (∀ w, Calls Try.prog 16 #[.agg #[.int .u64 (p0 : Int), .int .u64 (p1 : Int), .int .u64 (p2 : Int), .int .u64 (p3 : Int)], .int .i64 2, .int .u64 (n : Int)] w fun e w' => e = .returned (.tuple #[.agg #[.int .u64 0, .int .u64 0, .int .u64 0, .int .u64 0], .int .i64 7]) ∧ Grew w w') := Lib.hid (fun w => give_of p0 p1 p2 p3 2 n 0 0 0 0 7 (fun w => (changep_2 p0 p1 p2 p3 n h0 h1 h2 h3 hn w).mono fun e w' hh => ⟨by rw [hh.1]; unfold chg; rw [show at4 p0 p1 p2 p3 2 = p2 from rfl, plus_no p2 n hs, if_neg (by decide)], hh.2⟩) w)
  have d1 : decide ((4611686018427387904 : Int) < (p2 : Int)) = true := decide_eq_true (by unfold top at ht; omega)
  clear h0 h1 h2 h3 hn hs ht
  unfold pv
  go_enter Try.func5, Try.ntmps5
  go_upto_region 1 with fail
  have HP := Lib.hid (PI.new w p0 p1 p2 p3)
  have HG0 := Lib.hid (grew_new w (.cells #[.int .u64 (p0 : Int), .int .u64 (p1 : Int), .int .u64 (p2 : Int), .int .u64 (p3 : Int)] 31))
  obtain ⟨c0, c1, c2, c3⟩ := HP.out.cells
  generalize w.alloc (.cells #[.int .u64 (p0 : Int), .int .u64 (p1 : Int), .int .u64 (p2 : Int), .int .u64 (p3 : Int)] 31) = W0 at *
  generalize w.heap.size = B0 at *
  go_wp2_with fail
  refine (HX.out _).mono ?_
  rintro e w1 ⟨rfl, hg⟩
  have HGa := Lib.hid hg
  clear hg
  go_upto_region 2 with fail
  have HQ1 := Lib.hid (PI.new w1 0 0 0 0)
  have HGb := Lib.hid (HGa.out.trans (grew_new w1 (.cells #[.int .u64 0, .int .u64 0, .int .u64 0, .int .u64 0] 31)))
  have HP1 := Lib.hid (HP.out.grew HGb.out)
  have HG1 := Lib.hid (HG0.out.trans HGb.out)
  clear c0 c1 c2 c3 HP
  generalize w1.alloc (.cells #[.int .u64 0, .int .u64 0, .int .u64 0, .int .u64 0] 31) = W1 at *
  generalize w1.heap.size = B1 at *
  clear HGa HGb
  have hg2 : Grew W1 W1 := Grew.refl _
  clear hg2
  obtain ⟨a0, a1, a2, a3⟩ := HQ1.out.cells
  obtain ⟨b0, b1, b2, b3⟩ := HP1.out.cells
  go_wp2_with fail
  refine (alive_any _).mono ?_
  rintro e w2 ⟨rfl, hg⟩
  clear a0 a1 a2 a3 b0 b1 b2 b3
  obtain ⟨a0, a1, a2, a3⟩ := (HQ1.out.grew hg).cells
  obtain ⟨b0, b1, b2, b3⟩ := (HP1.out.grew hg).cells
  have HG2 := Lib.hid (HG1.out.trans hg)
  clear hg HQ1 HP1 HG1
  have kz := eq4 0 0 0 0
  go_wp2
  go_ret
  exact ⟨rfl, HG2.out⟩
set_option maxHeartbeats 2000000 in
theorem back_less2 (p0 p1 p2 p3 n : Nat) (h0 : p0 < 18446744073709551616) (h1 : p1 < 18446744073709551616) (h2 : p2 < 18446744073709551616) (h3 : p3 < 18446744073709551616) (hn : n < 18446744073709551616) (hs : ¬ p2 + n ≤ top) (ht : p2 ≤ top) (w : World) :
    Calls Try.prog 5 #[pv p0 p1 p2 p3, .int .i64 2, .int .u64 (n : Int)] w fun e w' => e = .returned (.bool true) ∧ Grew w w' := by
  have HX : Hid (∀ w, Calls Try.prog 16 #[.agg #[.int .u64 (p0 : Int), .int .u64 (p1 : Int), .int .u64 (p2 : Int), .int .u64 (p3 : Int)], .int .i64 2, .int .u64 (n : Int)] w fun e w' => e = .returned (.tuple #[.agg #[.int .u64 0, .int .u64 0, .int .u64 0, .int .u64 0], .int .i64 7]) ∧ Grew w w') := Lib.hid (fun w => give_of p0 p1 p2 p3 2 n 0 0 0 0 7 (fun w => (changep_2 p0 p1 p2 p3 n h0 h1 h2 h3 hn w).mono fun e w' hh => ⟨by rw [hh.1]; unfold chg; rw [show at4 p0 p1 p2 p3 2 = p2 from rfl, plus_no p2 n hs, if_neg (by decide)], hh.2⟩) w)
  have d1 : decide ((4611686018427387904 : Int) < (p2 : Int)) = false := decide_eq_false (by unfold top at ht; omega)
  have hw : IntKind.u64.wrap ((4611686018427387904 : Int) - (p2 : Int)) = 4611686018427387904 - (p2 : Int) := IntWalk.u64_in _ (by unfold top at ht; omega)
  have d2 : decide ((4611686018427387904 : Int) - (p2 : Int) < (n : Int)) = true := decide_eq_true (by unfold top at ht hs; omega)
  clear h0 h1 h2 h3 hn hs ht
  unfold pv
  go_enter Try.func5, Try.ntmps5
  go_upto_region 1 with fail
  have HP := Lib.hid (PI.new w p0 p1 p2 p3)
  have HG0 := Lib.hid (grew_new w (.cells #[.int .u64 (p0 : Int), .int .u64 (p1 : Int), .int .u64 (p2 : Int), .int .u64 (p3 : Int)] 31))
  obtain ⟨c0, c1, c2, c3⟩ := HP.out.cells
  generalize w.alloc (.cells #[.int .u64 (p0 : Int), .int .u64 (p1 : Int), .int .u64 (p2 : Int), .int .u64 (p3 : Int)] 31) = W0 at *
  generalize w.heap.size = B0 at *
  go_wp2_with fail
  refine (HX.out _).mono ?_
  rintro e w1 ⟨rfl, hg⟩
  have HGa := Lib.hid hg
  clear hg
  go_upto_region 2 with fail
  have HQ1 := Lib.hid (PI.new w1 0 0 0 0)
  have HGb := Lib.hid (HGa.out.trans (grew_new w1 (.cells #[.int .u64 0, .int .u64 0, .int .u64 0, .int .u64 0] 31)))
  have HP1 := Lib.hid (HP.out.grew HGb.out)
  have HG1 := Lib.hid (HG0.out.trans HGb.out)
  clear c0 c1 c2 c3 HP
  generalize w1.alloc (.cells #[.int .u64 0, .int .u64 0, .int .u64 0, .int .u64 0] 31) = W1 at *
  generalize w1.heap.size = B1 at *
  clear HGa HGb
  have hg2 : Grew W1 W1 := Grew.refl _
  clear hg2
  obtain ⟨a0, a1, a2, a3⟩ := HQ1.out.cells
  obtain ⟨b0, b1, b2, b3⟩ := HP1.out.cells
  go_wp2_with fail
  refine (alive_any _).mono ?_
  rintro e w2 ⟨rfl, hg⟩
  clear a0 a1 a2 a3 b0 b1 b2 b3
  obtain ⟨a0, a1, a2, a3⟩ := (HQ1.out.grew hg).cells
  obtain ⟨b0, b1, b2, b3⟩ := (HP1.out.grew hg).cells
  have HG2 := Lib.hid (HG1.out.trans hg)
  clear hg HQ1 HP1 HG1
  have kz := eq4 0 0 0 0
  go_wp2
  go_ret
  exact ⟨rfl, HG2.out⟩
set_option maxHeartbeats 2000000 in
theorem back_over3 (p0 p1 p2 p3 n : Nat) (h0 : p0 < 18446744073709551616) (h1 : p1 < 18446744073709551616) (h2 : p2 < 18446744073709551616) (h3 : p3 < 18446744073709551616) (hn : n < 18446744073709551616) (hs : ¬ p3 + n ≤ top) (ht : ¬ p3 ≤ top) (w : World) :
    Calls Try.prog 5 #[pv p0 p1 p2 p3, .int .i64 3, .int .u64 (n : Int)] w fun e w' => e = .returned (.bool true) ∧ Grew w w' := by
  have HX : Hid (∀ w, Calls Try.prog 16 #[.agg #[.int .u64 (p0 : Int), .int .u64 (p1 : Int), .int .u64 (p2 : Int), .int .u64 (p3 : Int)], .int .i64 3, .int .u64 (n : Int)] w fun e w' => e = .returned (.tuple #[.agg #[.int .u64 0, .int .u64 0, .int .u64 0, .int .u64 0], .int .i64 7]) ∧ Grew w w') := Lib.hid (fun w => give_of p0 p1 p2 p3 3 n 0 0 0 0 7 (fun w => (changep_3 p0 p1 p2 p3 n h0 h1 h2 h3 hn w).mono fun e w' hh => ⟨by rw [hh.1]; unfold chg; rw [show at4 p0 p1 p2 p3 3 = p3 from rfl, plus_no p3 n hs, if_neg (by decide)], hh.2⟩) w)
  have d1 : decide ((4611686018427387904 : Int) < (p3 : Int)) = true := decide_eq_true (by unfold top at ht; omega)
  clear h0 h1 h2 h3 hn hs ht
  unfold pv
  go_enter Try.func5, Try.ntmps5
  go_upto_region 1 with fail
  have HP := Lib.hid (PI.new w p0 p1 p2 p3)
  have HG0 := Lib.hid (grew_new w (.cells #[.int .u64 (p0 : Int), .int .u64 (p1 : Int), .int .u64 (p2 : Int), .int .u64 (p3 : Int)] 31))
  obtain ⟨c0, c1, c2, c3⟩ := HP.out.cells
  generalize w.alloc (.cells #[.int .u64 (p0 : Int), .int .u64 (p1 : Int), .int .u64 (p2 : Int), .int .u64 (p3 : Int)] 31) = W0 at *
  generalize w.heap.size = B0 at *
  go_wp2_with fail
  refine (HX.out _).mono ?_
  rintro e w1 ⟨rfl, hg⟩
  have HGa := Lib.hid hg
  clear hg
  go_upto_region 2 with fail
  have HQ1 := Lib.hid (PI.new w1 0 0 0 0)
  have HGb := Lib.hid (HGa.out.trans (grew_new w1 (.cells #[.int .u64 0, .int .u64 0, .int .u64 0, .int .u64 0] 31)))
  have HP1 := Lib.hid (HP.out.grew HGb.out)
  have HG1 := Lib.hid (HG0.out.trans HGb.out)
  clear c0 c1 c2 c3 HP
  generalize w1.alloc (.cells #[.int .u64 0, .int .u64 0, .int .u64 0, .int .u64 0] 31) = W1 at *
  generalize w1.heap.size = B1 at *
  clear HGa HGb
  have hg2 : Grew W1 W1 := Grew.refl _
  clear hg2
  obtain ⟨a0, a1, a2, a3⟩ := HQ1.out.cells
  obtain ⟨b0, b1, b2, b3⟩ := HP1.out.cells
  go_wp2_with fail
  refine (alive_any _).mono ?_
  rintro e w2 ⟨rfl, hg⟩
  clear a0 a1 a2 a3 b0 b1 b2 b3
  obtain ⟨a0, a1, a2, a3⟩ := (HQ1.out.grew hg).cells
  obtain ⟨b0, b1, b2, b3⟩ := (HP1.out.grew hg).cells
  have HG2 := Lib.hid (HG1.out.trans hg)
  clear hg HQ1 HP1 HG1
  have kz := eq4 0 0 0 0
  go_wp2
  go_ret
  exact ⟨rfl, HG2.out⟩
set_option maxHeartbeats 2000000 in
theorem back_less3 (p0 p1 p2 p3 n : Nat) (h0 : p0 < 18446744073709551616) (h1 : p1 < 18446744073709551616) (h2 : p2 < 18446744073709551616) (h3 : p3 < 18446744073709551616) (hn : n < 18446744073709551616) (hs : ¬ p3 + n ≤ top) (ht : p3 ≤ top) (w : World) :
    Calls Try.prog 5 #[pv p0 p1 p2 p3, .int .i64 3, .int .u64 (n : Int)] w fun e w' => e = .returned (.bool true) ∧ Grew w w' := by
  have HX : Hid (∀ w, Calls Try.prog 16 #[.agg #[.int .u64 (p0 : Int), .int .u64 (p1 : Int), .int .u64 (p2 : Int), .int .u64 (p3 : Int)], .int .i64 3, .int .u64 (n : Int)] w fun e w' => e = .returned (.tuple #[.agg #[.int .u64 0, .int .u64 0, .int .u64 0, .int .u64 0], .int .i64 7]) ∧ Grew w w') := Lib.hid (fun w => give_of p0 p1 p2 p3 3 n 0 0 0 0 7 (fun w => (changep_3 p0 p1 p2 p3 n h0 h1 h2 h3 hn w).mono fun e w' hh => ⟨by rw [hh.1]; unfold chg; rw [show at4 p0 p1 p2 p3 3 = p3 from rfl, plus_no p3 n hs, if_neg (by decide)], hh.2⟩) w)
  have d1 : decide ((4611686018427387904 : Int) < (p3 : Int)) = false := decide_eq_false (by unfold top at ht; omega)
  have hw : IntKind.u64.wrap ((4611686018427387904 : Int) - (p3 : Int)) = 4611686018427387904 - (p3 : Int) := IntWalk.u64_in _ (by unfold top at ht; omega)
  have d2 : decide ((4611686018427387904 : Int) - (p3 : Int) < (n : Int)) = true := decide_eq_true (by unfold top at ht hs; omega)
  clear h0 h1 h2 h3 hn hs ht
  unfold pv
  go_enter Try.func5, Try.ntmps5
  go_upto_region 1 with fail
  have HP := Lib.hid (PI.new w p0 p1 p2 p3)
  have HG0 := Lib.hid (grew_new w (.cells #[.int .u64 (p0 : Int), .int .u64 (p1 : Int), .int .u64 (p2 : Int), .int .u64 (p3 : Int)] 31))
  obtain ⟨c0, c1, c2, c3⟩ := HP.out.cells
  generalize w.alloc (.cells #[.int .u64 (p0 : Int), .int .u64 (p1 : Int), .int .u64 (p2 : Int), .int .u64 (p3 : Int)] 31) = W0 at *
  generalize w.heap.size = B0 at *
  go_wp2_with fail
  refine (HX.out _).mono ?_
  rintro e w1 ⟨rfl, hg⟩
  have HGa := Lib.hid hg
  clear hg
  go_upto_region 2 with fail
  have HQ1 := Lib.hid (PI.new w1 0 0 0 0)
  have HGb := Lib.hid (HGa.out.trans (grew_new w1 (.cells #[.int .u64 0, .int .u64 0, .int .u64 0, .int .u64 0] 31)))
  have HP1 := Lib.hid (HP.out.grew HGb.out)
  have HG1 := Lib.hid (HG0.out.trans HGb.out)
  clear c0 c1 c2 c3 HP
  generalize w1.alloc (.cells #[.int .u64 0, .int .u64 0, .int .u64 0, .int .u64 0] 31) = W1 at *
  generalize w1.heap.size = B1 at *
  clear HGa HGb
  have hg2 : Grew W1 W1 := Grew.refl _
  clear hg2
  obtain ⟨a0, a1, a2, a3⟩ := HQ1.out.cells
  obtain ⟨b0, b1, b2, b3⟩ := HP1.out.cells
  go_wp2_with fail
  refine (alive_any _).mono ?_
  rintro e w2 ⟨rfl, hg⟩
  clear a0 a1 a2 a3 b0 b1 b2 b3
  obtain ⟨a0, a1, a2, a3⟩ := (HQ1.out.grew hg).cells
  obtain ⟨b0, b1, b2, b3⟩ := (HP1.out.grew hg).cells
  have HG2 := Lib.hid (HG1.out.trans hg)
  clear hg HQ1 HP1 HG1
  have kz := eq4 0 0 0 0
  go_wp2
  go_ret
  exact ⟨rfl, HG2.out⟩
end Go.Proofs.Ytcgloenpliaioaa.CX
