/-
  Fixed calls of the coins; CoinTells and CoinPurses, walked.
  Conditions: those that each lemma names.
-/
import Derived.Test.YtcgloenpliaioaaCT
import Derived.Deep.MidRow
namespace Go.Proofs.Ytcgloenpliaioaa.CU
set_option maxRecDepth 100000
open Go Go.RowKit Go.Proofs.Ytcgloenpliaioaa Go.Proofs.Ytcgloenpliaioaa.Facts Go.Proofs.Ytcgloenpliaioaa.Bytes Go.Proofs.Ytcgloenpliaioaa.CA Go.Proofs.Ytcgloenpliaioaa.CB Go.Proofs.Ytcgloenpliaioaa.CS Go.Proofs.Ytcgloenpliaioaa.CT

theorem size22 (u : World) : (sizeOf 22).run Try.prog u = .ok 1 u := by kernel_rfl
theorem part4 (a b c d : Int) (u : World) (i : Nat) (hi : i < 4) : (part 22 #[.int .u64 a, .int .u64 b, .int .u64 c, .int .u64 d] (i * 1)).run Try.prog u = .ok (.int .u64 ((([a, b, c, d] : List Int)[i]?).getD 0)) u := by
  obtain rfl | rfl | rfl | rfl : i = 0 ∨ i = 1 ∨ i = 2 ∨ i = 3 := by omega
  all_goals simp [part, isAgg, run_underlying Try.underlying22]
/-- A purse is the same as itself. -/
theorem eq4 (a b c d : Int) (u : World) : (binOp .eql 31 (.agg #[.int .u64 a, .int .u64 b, .int .u64 c, .int .u64 d]) (.agg #[.int .u64 a, .int .u64 b, .int .u64 c, .int .u64 d])).run Try.prog u = .ok (.bool true) u := by
  rw [run_eql_struct, show (10000 : Nat) = 9998 + 2 from rfl, Op.equalIn]
  simp only [Sem.run_bind, run_underlying Try.underlying31, Result.andThen_ok, size22, Std.Legacy.Range.forIn_eq_forIn_range', Std.Legacy.Range.size, Nat.sub_zero, Nat.add_sub_cancel, Nat.div_one]
  have hl : ∀ i ∈ List.range' 0 4 1, i < 4 := fun i hi => by simpa using (List.mem_range'_1.1 hi).2
  generalize List.range' 0 4 1 = l at hl ⊢
  induction l with
  | nil => simp
  | cons i l ih =>
    have hi : i < 4 := hl i (by simp)
    have px := part4 a b c d u i hi
    have pe : (Op.equalIn (9998 + 1) 22 (.int .u64 ((([a, b, c, d] : List Int)[i]?).getD 0)) (.int .u64 ((([a, b, c, d] : List Int)[i]?).getD 0))).run Try.prog u = .ok true u := by
      rw [run_equalIn_int u 9998 22 .u64 .u64 _ _ Try.underlying22]
      simp
    simp only [List.forIn_cons, Sem.run_bind, px, pe, Result.andThen_ok]
    simp only [Bool.not_true, Bool.false_eq_true, if_false, Sem.run_pure, Result.andThen_ok]
    exact ih fun j hj => hl j (by simp [hj])
theorem t1 (w : World) : Calls Try.prog 10 #[.int .u64 2147483648, .int .u64 2147483648] w fun e w' => e = .returned (.tuple #[.int .u64 4611686018427387904, .int .i64 0]) ∧ w = w' := times_any 2147483648 2147483648 (by omega) (by omega) w
theorem t2 (w : World) : Calls Try.prog 10 #[.int .u64 2147483648, .int .u64 2147483649] w fun e w' => e = .returned (.tuple #[.int .u64 0, .int .i64 7]) ∧ w = w' := times_any 2147483648 2147483649 (by omega) (by omega) w
theorem t3 (w : World) : Calls Try.prog 6 #[.int .u64 4611686018427387904, .int .u64 1] w fun e w' => e = .returned (.tuple #[.int .u64 0, .int .i64 7]) ∧ w = w' := plus_any 4611686018427387904 1 (by omega) (by omega) w
theorem t4 (w : World) : Calls Try.prog 8 #[.int .u64 1, .int .u64 2] w fun e w' => e = .returned (.tuple #[.int .u64 0, .int .i64 6]) ∧ w = w' := minus_any 1 2 (by omega) (by omega) w
theorem t5 (w : World) : Calls Try.prog 16 #[.agg #[.int .u64 1, .int .u64 2, .int .u64 0, .int .u64 0], .int .i64 1, .int .u64 5] w fun e w' => e = .returned (.tuple #[.agg #[.int .u64 1, .int .u64 7, .int .u64 0, .int .u64 0], .int .i64 0]) ∧ Grew w w' :=
  give_of 1 2 0 0 1 5 1 7 0 0 0 (fun w => changep_1 1 2 0 0 5 (by omega) (by omega) (by omega) (by omega) (by omega) w) w
theorem t6 (w : World) : Calls Try.prog 18 #[.agg #[.int .u64 1, .int .u64 7, .int .u64 0, .int .u64 0], .int .i64 2, .int .u64 1] w fun e w' => e = .returned (.tuple #[.agg #[.int .u64 0, .int .u64 0, .int .u64 0, .int .u64 0], .int .i64 6]) ∧ Grew w w' :=
  take_of 1 7 0 0 2 1 0 0 0 0 6 (fun w => changem_2 1 7 0 0 1 (by omega) (by omega) (by omega) (by omega) (by omega) w) w
theorem t7 (w : World) : Calls Try.prog 12 #[.slice (some ⟨w.heap.size, 0, none⟩) 3 3] (w.alloc (.cells #[.int .u64 1, .int .u64 2, .int .u64 3] 22)) fun e w' => e = .returned (.tuple #[.int .u64 6, .int .i64 0]) ∧ (w.alloc (.cells #[.int .u64 1, .int .u64 2, .int .u64 3] 22)) = w' := by
  refine sum_any (some ⟨w.heap.size, 0, none⟩) 3 [1, 2, 3] _ ⟨by decide, by decide, fun j x hx => ⟨_, rfl, Nat.le_refl _, ?_⟩⟩
  have h : (w.alloc (.cells #[.int .u64 1, .int .u64 2, .int .u64 3] 22)).heap[w.heap.size]? = _ := heap_alloc_new w _
  match j, hx with
  | 0, hx => cases hx; rw [Addr.add_mid]; unfold World.cell?; simp only [h]; rfl
  | 1, hx => cases hx; rw [Addr.add_mid]; unfold World.cell?; simp only [h]; rfl
  | 2, hx => cases hx; rw [Addr.add_mid]; unfold World.cell?; simp only [h]; rfl
set_option maxHeartbeats 400000 in
theorem alive_any (w : World) : Calls Try.prog 14 #[] w fun e w' => e = .returned (.bool true) ∧ Grew w w' := by
  go_enter Try.func14, Try.ntmps14
  go_wp2_with fail
  refine (t1 _).mono ?_
  rintro e w' ⟨rfl, rfl⟩
  go_wp2_with fail
  refine (t2 _).mono ?_
  rintro e w' ⟨rfl, rfl⟩
  go_wp2_with fail
  refine (t3 _).mono ?_
  rintro e w' ⟨rfl, rfl⟩
  go_wp2_with fail
  refine (t4 _).mono ?_
  rintro e w' ⟨rfl, rfl⟩
  go_wp2_with fail
  refine (t5 _).mono ?_
  rintro e w1 ⟨rfl, hg1⟩
  have HG1 := Lib.hid hg1
  have hz1 : w.heap.size ≤ w1.heap.size := hg1.size
  clear hg1
  go_upto_region 6 with fail
  go_wp2_with fail
  refine (t6 _).mono ?_
  rintro e w2 ⟨rfl, hg2⟩
  have hg3 : Grew w2 (w2.alloc (.cells #[.int .u64 0, .int .u64 0, .int .u64 0, .int .u64 0] 31)) := (Below.refl _ w2).alloc (Nat.le_refl _) _
  obtain ⟨c0, c1, c2, c3⟩ := new4 w1 (.int .u64 1) (.int .u64 7) (.int .u64 0) (.int .u64 0) 31
  have d0 := cellG (hg2.trans hg3) c0
  have d1 := cellG (hg2.trans hg3) c1
  have d2 := cellG (hg2.trans hg3) c2
  have d3 := cellG (hg2.trans hg3) c3
  have HG3 := Lib.hid (HG1.out.trans (((show Grew w1 (w1.alloc (.cells #[.int .u64 1, .int .u64 7, .int .u64 0, .int .u64 0] 31)) from (Below.refl _ w1).alloc (Nat.le_refl _) _).trans hg2).trans hg3))
  clear c0 c1 c2 c3 hg3 hg2 hz1 HG1
  go_upto_region 7 with fail
  generalize w2.alloc (.cells #[.int .u64 0, .int .u64 0, .int .u64 0, .int .u64 0] 31) = W3 at *
  generalize w1.heap.size = BP at *
  have hg4 : Grew W3 (W3.alloc (.cells #[.int .u64 1, .int .u64 2, .int .u64 3] 22)) := (Below.refl _ W3).alloc (Nat.le_refl _) _
  have e0 := cellG hg4 d0
  have e1 := cellG hg4 d1
  have e2 := cellG hg4 d2
  have e3 := cellG hg4 d3
  have HG4 := Lib.hid (HG3.out.trans hg4)
  clear d0 d1 d2 d3 hg4 HG3
  go_wp2_with fail
  refine (t7 _).mono ?_
  rintro e w' ⟨rfl, rfl⟩
  have kq := eq4 1 7 0 0
  generalize W3.alloc (.cells #[.int .u64 1, .int .u64 2, .int .u64 3] 22) = W4 at *
  go_wp2_with fail
  refine (right_yes 3 (by omega) _).mono ?_
  rintro e w' ⟨rfl, rfl⟩
  go_wp2_with fail
  refine (right_no 4 (by omega) _).mono ?_
  rintro e w' ⟨rfl, rfl⟩
  go_wp2
  go_ret
  exact ⟨rfl, HG4.out⟩
end Go.Proofs.Ytcgloenpliaioaa.CU
