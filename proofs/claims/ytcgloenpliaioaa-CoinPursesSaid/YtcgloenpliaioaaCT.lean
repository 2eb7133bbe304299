/-
  Fixed calls; CoinTells: any numbers, any row of them.
  Conditions: those that each lemma names.
-/
import Derived.Test.YtcgloenpliaioaaCB
import Derived.Test.YtcgloenpliaioaaCS
import Derived.Deep.DeepCutAuto
import Derived.Deep.CutBlock
namespace Go.Proofs.Ytcgloenpliaioaa.CT
set_option maxRecDepth 100000
open Go Go.RowKit Go.Proofs.Ytcgloenpliaioaa Go.Proofs.Ytcgloenpliaioaa.Facts Go.Proofs.Ytcgloenpliaioaa.Bytes Go.Proofs.Ytcgloenpliaioaa.CA Go.Proofs.Ytcgloenpliaioaa.CB Go.Proofs.Ytcgloenpliaioaa.CS

/-- A purse's answer, of the program and of the document. -/
def Both (f g : Nat) (a b c d : Nat) (k : Int) (n : Nat) (x0 x1 x2 x3 : Nat) (q : Int) : Prop :=
  ∀ w, Calls Try.prog f #[pv a b c d, .int .i64 k, .int .u64 (n : Int)] w (fun e w' => e = .returned (.tuple #[pv x0 x1 x2 x3, .int .i64 q]) ∧ Grew w w') ∧ Calls Try.prog g #[pv a b c d, .int .i64 k, .int .u64 (n : Int)] w (fun e w' => e = .returned (.tuple #[pv x0 x1 x2 x3, .int .i64 q]) ∧ Grew w w')
theorem cellG {w w' : World} {a : Addr} {v : Value} (hg : Grew w w') (h : w.cell? a = some v) : w'.cell? a = some v := (hg.cell (World.block_lt_of_cell? _ _ h)).trans h
theorem new4 (w : World) (a b c d : Value) (t : TypeId) : (w.alloc (.cells #[a, b, c, d] t)).cell? ⟨w.heap.size, 0, none⟩ = some a ∧ (w.alloc (.cells #[a, b, c, d] t)).cell? ⟨w.heap.size, 1, none⟩ = some b ∧ (w.alloc (.cells #[a, b, c, d] t)).cell? ⟨w.heap.size, 2, none⟩ = some c ∧ (w.alloc (.cells #[a, b, c, d] t)).cell? ⟨w.heap.size, 3, none⟩ = some d := by
  have h : (w.alloc (.cells #[a, b, c, d] t)).heap[w.heap.size]? = _ := heap_alloc_new w _
  refine ⟨?_, ?_, ?_, ?_⟩ <;> (unfold World.cell?; simp only [h]; rfl)
theorem bcell {W w1 : World} (hb : Grew W w1) : (∀ b o, b < W.heap.size → w1.cell? ⟨b, o, none⟩ = W.cell? ⟨b, o, none⟩) ∧ (∀ b o, b < W.heap.size → w1.frozen? ⟨b, o, none⟩ = W.frozen? ⟨b, o, none⟩) :=
  ⟨fun b o h => Below.cell hb (p := ⟨b, o, none⟩) h, fun b o h => Below.frozen hb (p := ⟨b, o, none⟩) h⟩
theorem give_of (a b c d : Nat) (k : Int) (n : Nat) (x0 x1 x2 x3 : Nat) (q : Int) (h : ∀ w, Calls Try.prog 21 #[pv a b c d, .int .i64 k, .int .u64 (n : Int), .func (.func 6) #[] #[]] w fun e w' => e = .returned (.tuple #[pv x0 x1 x2 x3, .int .i64 q]) ∧ Grew w w') (w : World) :
    Calls Try.prog 16 #[pv a b c d, .int .i64 k, .int .u64 (n : Int)] w fun e w' => e = .returned (.tuple #[pv x0 x1 x2 x3, .int .i64 q]) ∧ Grew w w' := by
  have HC := Lib.hid h
  clear h
  unfold pv at HC ⊢
  go_enter Try.func16, Try.ntmps16
  go_upto_region 1 with fail
  have hg0 : Grew w ((w.alloc (.cells #[.int .u64 (a : Int), .int .u64 (b : Int), .int .u64 (c : Int), .int .u64 (d : Int)] 31)).alloc (.cells #[.int .u64 0, .int .u64 0, .int .u64 0, .int .u64 0] 31)) := ((Below.refl _ w).alloc (Nat.le_refl _) _).alloc (by simp) _
  have HG0 := Lib.hid hg0
  clear hg0
  go_wp2_with fail
  refine (HC.out _).mono ?_
  rintro e w1 ⟨rfl, hg⟩
  obtain ⟨hc, hf⟩ := bcell hg
  have hz : w.heap.size + 1 < w1.heap.size := by have := hg.size; simp at this; omega
  have HG1 := Lib.hid (HG0.out.trans hg)
  clear hg
  go_wp2
  exact bodyPost_ret (v := .tuple #[.agg #[.int .u64 (x0 : Int), .int .u64 (x1 : Int), .int .u64 (x2 : Int), .int .u64 (x3 : Int)], .int .i64 q]) (by simp [results, Try.results16, go_sem, hc, hz]) rfl ⟨rfl, ((((HG1.out.setCell (by simp) _).setCell (by simp) _).setCell (by simp) _).setCell (by simp) _)⟩
theorem take_of (a b c d : Nat) (k : Int) (n : Nat) (x0 x1 x2 x3 : Nat) (q : Int) (h : ∀ w, Calls Try.prog 21 #[pv a b c d, .int .i64 k, .int .u64 (n : Int), .func (.func 8) #[] #[]] w fun e w' => e = .returned (.tuple #[pv x0 x1 x2 x3, .int .i64 q]) ∧ Grew w w') (w : World) :
    Calls Try.prog 18 #[pv a b c d, .int .i64 k, .int .u64 (n : Int)] w fun e w' => e = .returned (.tuple #[pv x0 x1 x2 x3, .int .i64 q]) ∧ Grew w w' := by
  have HC := Lib.hid h
  clear h
  unfold pv at HC ⊢
  go_enter Try.func18, Try.ntmps18
  go_upto_region 1 with fail
  have hg0 : Grew w ((w.alloc (.cells #[.int .u64 (a : Int), .int .u64 (b : Int), .int .u64 (c : Int), .int .u64 (d : Int)] 31)).alloc (.cells #[.int .u64 0, .int .u64 0, .int .u64 0, .int .u64 0] 31)) := ((Below.refl _ w).alloc (Nat.le_refl _) _).alloc (by simp) _
  have HG0 := Lib.hid hg0
  clear hg0
  go_wp2_with fail
  refine (HC.out _).mono ?_
  rintro e w1 ⟨rfl, hg⟩
  obtain ⟨hc, hf⟩ := bcell hg
  have hz : w.heap.size + 1 < w1.heap.size := by have := hg.size; simp at this; omega
  have HG1 := Lib.hid (HG0.out.trans hg)
  clear hg
  go_wp2
  exact bodyPost_ret (v := .tuple #[.agg #[.int .u64 (x0 : Int), .int .u64 (x1 : Int), .int .u64 (x2 : Int), .int .u64 (x3 : Int)], .int .i64 q]) (by simp [results, Try.results18, go_sem, hc, hz]) rfl ⟨rfl, ((((HG1.out.setCell (by simp) _).setCell (by simp) _).setCell (by simp) _).setCell (by simp) _)⟩
theorem chg_form (op : Nat → Nat → Nat × Int) (a b c d k n : Nat) : ∃ x0 x1 x2 x3 q, chg op a b c d k n = .tuple #[pv x0 x1 x2 x3, .int .i64 q] := by
  unfold chg
  split
  · unfold put
    split
    · exact ⟨_, _, _, _, _, rfl⟩
    · split
      · exact ⟨_, _, _, _, _, rfl⟩
      · split
        · exact ⟨_, _, _, _, _, rfl⟩
        · exact ⟨_, _, _, _, _, rfl⟩
  · exact ⟨_, _, _, _, _, rfl⟩
theorem give_both (a b c d n : Nat) (ha : a < 18446744073709551616) (hb : b < 18446744073709551616) (hc : c < 18446744073709551616) (hd : d < 18446744073709551616) (hn : n < 18446744073709551616) (k : Nat) (hk : k < 4) :
    ∃ x0 x1 x2 x3 q, chg plusN a b c d k n = .tuple #[pv x0 x1 x2 x3, .int .i64 q] ∧ ∀ w, Calls Try.prog 16 #[pv a b c d, .int .i64 (k : Int), .int .u64 (n : Int)] w (fun e w' => e = .returned (.tuple #[pv x0 x1 x2 x3, .int .i64 q]) ∧ Grew w w') ∧ Calls Try.prog 17 #[pv a b c d, .int .i64 (k : Int), .int .u64 (n : Int)] w (fun e w' => e = .returned (.tuple #[pv x0 x1 x2 x3, .int .i64 q]) ∧ Grew w w') := by
  obtain ⟨x0, x1, x2, x3, q, hx⟩ := chg_form plusN a b c d k n
  refine ⟨x0, x1, x2, x3, q, hx, fun w => ?_⟩
  match k, hk, hx with
  | 0, _, hx => exact ⟨give_of a b c d 0 n x0 x1 x2 x3 q (fun w => by rw [← hx]; exact changep_0 a b c d n ha hb hc hd hn w) w, by rw [← hx]; exact rgive_0 a b c d n ha hb hc hd hn w⟩
  | 1, _, hx => exact ⟨give_of a b c d 1 n x0 x1 x2 x3 q (fun w => by rw [← hx]; exact changep_1 a b c d n ha hb hc hd hn w) w, by rw [← hx]; exact rgive_1 a b c d n ha hb hc hd hn w⟩
  | 2, _, hx => exact ⟨give_of a b c d 2 n x0 x1 x2 x3 q (fun w => by rw [← hx]; exact changep_2 a b c d n ha hb hc hd hn w) w, by rw [← hx]; exact rgive_2 a b c d n ha hb hc hd hn w⟩
  | 3, _, hx => exact ⟨give_of a b c d 3 n x0 x1 x2 x3 q (fun w => by rw [← hx]; exact changep_3 a b c d n ha hb hc hd hn w) w, by rw [← hx]; exact rgive_3 a b c d n ha hb hc hd hn w⟩
theorem give_both_no (a b c d n : Nat) (k : Int) (hk : k < 0 ∨ 4 ≤ k) (w : World) : Calls Try.prog 16 #[pv a b c d, .int .i64 k, .int .u64 (n : Int)] w (fun e w' => e = .returned (.tuple #[pv 0 0 0 0, .int .i64 1]) ∧ Grew w w') ∧ Calls Try.prog 17 #[pv a b c d, .int .i64 k, .int .u64 (n : Int)] w (fun e w' => e = .returned (.tuple #[pv 0 0 0 0, .int .i64 1]) ∧ Grew w w') :=
  ⟨give_of a b c d k n 0 0 0 0 1 (fun w => changep_no a b c d k hk n w) w, rgive_no a b c d k hk n w⟩
/-- Whatever the coin. -/
theorem give_both_any (a b c d n : Nat) (ha : a < 18446744073709551616) (hb : b < 18446744073709551616) (hc : c < 18446744073709551616) (hd : d < 18446744073709551616) (hn : n < 18446744073709551616) (k : Int) :
    ∃ x0 x1 x2 x3 q, ∀ w, Calls Try.prog 16 #[pv a b c d, .int .i64 k, .int .u64 (n : Int)] w (fun e w' => e = .returned (.tuple #[pv x0 x1 x2 x3, .int .i64 q]) ∧ Grew w w') ∧ Calls Try.prog 17 #[pv a b c d, .int .i64 k, .int .u64 (n : Int)] w (fun e w' => e = .returned (.tuple #[pv x0 x1 x2 x3, .int .i64 q]) ∧ Grew w w') := by
  by_cases hk : 0 ≤ k ∧ k < 4
  · obtain ⟨m, rfl⟩ := Int.eq_ofNat_of_zero_le hk.1
    obtain ⟨x0, x1, x2, x3, q, _, h⟩ := give_both a b c d n ha hb hc hd hn m (by omega)
    exact ⟨x0, x1, x2, x3, q, h⟩
  · exact ⟨0, 0, 0, 0, 1, fun w => give_both_no a b c d n k (by omega) w⟩
theorem take_both (a b c d n : Nat) (ha : a < 18446744073709551616) (hb : b < 18446744073709551616) (hc : c < 18446744073709551616) (hd : d < 18446744073709551616) (hn : n < 18446744073709551616) (k : Nat) (hk : k < 4) :
    ∃ x0 x1 x2 x3 q, chg minusN a b c d k n = .tuple #[pv x0 x1 x2 x3, .int .i64 q] ∧ ∀ w, Calls Try.prog 18 #[pv a b c d, .int .i64 (k : Int), .int .u64 (n : Int)] w (fun e w' => e = .returned (.tuple #[pv x0 x1 x2 x3, .int .i64 q]) ∧ Grew w w') ∧ Calls Try.prog 19 #[pv a b c d, .int .i64 (k : Int), .int .u64 (n : Int)] w (fun e w' => e = .returned (.tuple #[pv x0 x1 x2 x3, .int .i64 q]) ∧ Grew w w') := by
  obtain ⟨x0, x1, x2, x3, q, hx⟩ := chg_form minusN a b c d k n
  refine ⟨x0, x1, x2, x3, q, hx, fun w => ?_⟩
  match k, hk, hx with
  | 0, _, hx => exact ⟨take_of a b c d 0 n x0 x1 x2 x3 q (fun w => by rw [← hx]; exact changem_0 a b c d n ha hb hc hd hn w) w, by rw [← hx]; exact rtake_0 a b c d n ha hb hc hd hn w⟩
  | 1, _, hx => exact ⟨take_of a b c d 1 n x0 x1 x2 x3 q (fun w => by rw [← hx]; exact changem_1 a b c d n ha hb hc hd hn w) w, by rw [← hx]; exact rtake_1 a b c d n ha hb hc hd hn w⟩
  | 2, _, hx => exact ⟨take_of a b c d 2 n x0 x1 x2 x3 q (fun w => by rw [← hx]; exact changem_2 a b c d n ha hb hc hd hn w) w, by rw [← hx]; exact rtake_2 a b c d n ha hb hc hd hn w⟩
  | 3, _, hx => exact ⟨take_of a b c d 3 n x0 x1 x2 x3 q (fun w => by rw [← hx]; exact changem_3 a b c d n ha hb hc hd hn w) w, by rw [← hx]; exact rtake_3 a b c d n ha hb hc hd hn w⟩
theorem take_both_no (a b c d n : Nat) (k : Int) (hk : k < 0 ∨ 4 ≤ k) (w : World) : Calls Try.prog 18 #[pv a b c d, .int .i64 k, .int .u64 (n : Int)] w (fun e w' => e = .returned (.tuple #[pv 0 0 0 0, .int .i64 1]) ∧ Grew w w') ∧ Calls Try.prog 19 #[pv a b c d, .int .i64 k, .int .u64 (n : Int)] w (fun e w' => e = .returned (.tuple #[pv 0 0 0 0, .int .i64 1]) ∧ Grew w w') :=
  ⟨take_of a b c d k n 0 0 0 0 1 (fun w => changem_no a b c d k hk n w) w, rtake_no a b c d k hk n w⟩
/-- Whatever the coin. -/
theorem take_both_any (a b c d n : Nat) (ha : a < 18446744073709551616) (hb : b < 18446744073709551616) (hc : c < 18446744073709551616) (hd : d < 18446744073709551616) (hn : n < 18446744073709551616) (k : Int) :
    ∃ x0 x1 x2 x3 q, ∀ w, Calls Try.prog 18 #[pv a b c d, .int .i64 k, .int .u64 (n : Int)] w (fun e w' => e = .returned (.tuple #[pv x0 x1 x2 x3, .int .i64 q]) ∧ Grew w w') ∧ Calls Try.prog 19 #[pv a b c d, .int .i64 k, .int .u64 (n : Int)] w (fun e w' => e = .returned (.tuple #[pv x0 x1 x2 x3, .int .i64 q]) ∧ Grew w w') := by
  by_cases hk : 0 ≤ k ∧ k < 4
  · obtain ⟨m, rfl⟩ := Int.eq_ofNat_of_zero_le hk.1
    obtain ⟨x0, x1, x2, x3, q, _, h⟩ := take_both a b c d n ha hb hc hd hn m (by omega)
    exact ⟨x0, x1, x2, x3, q, h⟩
  · exact ⟨0, 0, 0, 0, 1, fun w => take_both_no a b c d n k (by omega) w⟩
end Go.Proofs.Ytcgloenpliaioaa.CT
