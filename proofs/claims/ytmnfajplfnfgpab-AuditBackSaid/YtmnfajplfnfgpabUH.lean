/-
  The fields of an entry: places and functions.
  Conditions: those that each lemma names.
-/
import Derived.Test.YtmnfajplfnfgpabUF
namespace Go.Proofs.Ytmnfajplfnfgpab.UH
set_option maxRecDepth 100000
open Go Go.RowKit Go.Lib Go.Proofs.Ytmnfajplfnfgpab Go.Proofs.Ytmnfajplfnfgpab.Facts Go.Proofs.Ytmnfajplfnfgpab.Ints Go.Proofs.Ytmnfajplfnfgpab.PA Go.Proofs.Ytmnfajplfnfgpab.UA Go.Proofs.Ytmnfajplfnfgpab.UM Go.Proofs.Ytmnfajplfnfgpab.UB Go.Proofs.Ytmnfajplfnfgpab.UC Go.Proofs.Ytmnfajplfnfgpab.UD Go.Proofs.Ytmnfajplfnfgpab.UF Go.Proofs.Ytmnfajplfnfgpab.Bytes

theorem at0 (B : Nat) (w : World) : Calls Try.prog 37 #[.pointer (some ⟨B, 0, none⟩)] w fun e w' => e = .returned (.pointer (some ⟨B, 0, none⟩)) ∧ w = w' := by
  go_enter Try.func37, Try.ntmps37
  go_wp2
  go_returns
  exact ⟨rfl, rfl⟩
theorem at1 (B : Nat) (w : World) : Calls Try.prog 39 #[.pointer (some ⟨B, 0, none⟩)] w fun e w' => e = .returned (.pointer (some ⟨B, 1, none⟩)) ∧ w = w' := by
  go_enter Try.func39, Try.ntmps39
  go_wp2
  go_returns
  exact ⟨rfl, rfl⟩
theorem at2 (B : Nat) (w : World) : Calls Try.prog 40 #[.pointer (some ⟨B, 0, none⟩)] w fun e w' => e = .returned (.pointer (some ⟨B, 2, none⟩)) ∧ w = w' := by
  go_enter Try.func40, Try.ntmps40
  go_wp2
  go_returns
  exact ⟨rfl, rfl⟩
theorem at3 (B : Nat) (w : World) : Calls Try.prog 41 #[.pointer (some ⟨B, 0, none⟩)] w fun e w' => e = .returned (.pointer (some ⟨B, 3, none⟩)) ∧ w = w' := by
  go_enter Try.func41, Try.ntmps41
  go_wp2
  go_returns
  exact ⟨rfl, rfl⟩
theorem at4 (B : Nat) (w : World) : Calls Try.prog 42 #[.pointer (some ⟨B, 0, none⟩)] w fun e w' => e = .returned (.pointer (some ⟨B, 4, none⟩)) ∧ w = w' := by
  go_enter Try.func42, Try.ntmps42
  go_wp2
  go_returns
  exact ⟨rfl, rfl⟩
theorem at5 (B : Nat) (w : World) : Calls Try.prog 43 #[.pointer (some ⟨B, 0, none⟩)] w fun e w' => e = .returned (.pointer (some ⟨B, 5, none⟩)) ∧ w = w' := by
  go_enter Try.func43, Try.ntmps43
  go_wp2
  go_returns
  exact ⟨rfl, rfl⟩
theorem at6 (B : Nat) (w : World) : Calls Try.prog 44 #[.pointer (some ⟨B, 0, none⟩)] w fun e w' => e = .returned (.pointer (some ⟨B, 6, none⟩)) ∧ w = w' := by
  go_enter Try.func44, Try.ntmps44
  go_wp2
  go_returns
  exact ⟨rfl, rfl⟩
theorem at7 (B : Nat) (w : World) : Calls Try.prog 45 #[.pointer (some ⟨B, 0, none⟩)] w fun e w' => e = .returned (.pointer (some ⟨B, 7, none⟩)) ∧ w = w' := by
  go_enter Try.func45, Try.ntmps45
  go_wp2
  go_returns
  exact ⟨rfl, rfl⟩
theorem at8 (B : Nat) (w : World) : Calls Try.prog 46 #[.pointer (some ⟨B, 0, none⟩)] w fun e w' => e = .returned (.pointer (some ⟨B, 8, none⟩)) ∧ w = w' := by
  go_enter Try.func46, Try.ntmps46
  go_wp2
  go_returns
  exact ⟨rfl, rfl⟩
theorem at9 (B : Nat) (w : World) : Calls Try.prog 47 #[.pointer (some ⟨B, 0, none⟩)] w fun e w' => e = .returned (.pointer (some ⟨B, 9, none⟩)) ∧ w = w' := by
  go_enter Try.func47, Try.ntmps47
  go_wp2
  go_returns
  exact ⟨rfl, rfl⟩

/-- A field's functions over the blocks of its size (a) and of its place (b). -/
def FV (p r a b : Nat) : Value := .agg #[.func (.func p) #[] #[.pointer (some ⟨b, 0, none⟩), .pointer (some ⟨a, 0, none⟩)], .func (.func r) #[] #[.pointer (some ⟨a, 0, none⟩), .pointer (some ⟨b, 0, none⟩)]]
theorem run_store_fn (w : World) (a : Addr) (m : Mode) (f : Fn) (x y : Array Value) : Sem.run Try.prog (Go.store a (.func f x y) m) w = Go.stored Try.prog w a (.func f x y) m := Go.run_store Try.prog w a _ m rfl
theorem frz {W : World} {B t k : Nat} {xs : Array Value} (h : W.heap[B]? = some (.cells xs t (0, 0))) : W.frozen? ⟨B, k, none⟩ = false := by
  unfold World.frozen?
  simp [h]
set_option maxHeartbeats 1000000 in
theorem sized64 (n : Int) (F : Nat) (w : World) : Calls Try.prog 36 #[.int .i64 n, .func (.func F) #[] #[]] w fun e w' => ∃ a b, e = .returned (FV 53 55 a b) ∧ w'.heap[a]? = some (.cells #[.int .i64 n] 3 (0, 0)) ∧ w'.heap[b]? = some (.cells #[.func (.func F) #[] #[]] 67 (0, 0)) ∧ Grew w w' := by
  have A0 := blk_new w (.cells #[.int .i64 n] 3)
  have B0 := blk_new (w.alloc (.cells #[.int .i64 n] 3)) (.cells #[.func (.func F) #[] #[]] 67)
  rw [show (w.alloc (.cells #[.int .i64 n] 3)).heap.size = w.heap.size + 1 by simp] at B0
  have hG : ∀ o, Grew w (((w.alloc (.cells #[.int .i64 n] 3)).alloc (.cells #[.func (.func F) #[] #[]] 67)).alloc o) := fun o => by unfold Grew; go_grown
  have hA : ∀ o, (((w.alloc (.cells #[.int .i64 n] 3)).alloc (.cells #[.func (.func F) #[] #[]] 67)).alloc o).heap[w.heap.size]? = some (.cells #[.int .i64 n] 3 (0, 0)) := fun o => keepB A0 (by unfold Grew; go_grown)
  have hB : ∀ o, (((w.alloc (.cells #[.int .i64 n] 3)).alloc (.cells #[.func (.func F) #[] #[]] 67)).alloc o).heap[w.heap.size + 1]? = some (.cells #[.func (.func F) #[] #[]] 67 (0, 0)) := fun o => keepB B0 (by unfold Grew; go_grown)
  have HG := Lib.hid hG
  have HA := Lib.hid hA
  have HB := Lib.hid hB
  have hst := fun W a m f x y => run_store_fn W a m f x y
  clear A0 B0 hG hA hB
  go_enter Try.func36, Try.ntmps36
  go_wp2
  refine bodyPost_ret (by simp [results, Try.results36, go_sem]; try rfl) rfl ?_
  exact ⟨_, _, rfl, HA.out _, HB.out _, HG.out _⟩
set_option maxHeartbeats 1000000 in
theorem sizedI (n : Int) (F : Nat) (w : World) : Calls Try.prog 38 #[.int .i64 n, .func (.func F) #[] #[]] w fun e w' => ∃ a b, e = .returned (FV 57 58 a b) ∧ w'.heap[a]? = some (.cells #[.int .i64 n] 3 (0, 0)) ∧ w'.heap[b]? = some (.cells #[.func (.func F) #[] #[]] 70 (0, 0)) ∧ Grew w w' := by
  have A0 := blk_new w (.cells #[.int .i64 n] 3)
  have B0 := blk_new (w.alloc (.cells #[.int .i64 n] 3)) (.cells #[.func (.func F) #[] #[]] 70)
  rw [show (w.alloc (.cells #[.int .i64 n] 3)).heap.size = w.heap.size + 1 by simp] at B0
  have hG : ∀ o, Grew w (((w.alloc (.cells #[.int .i64 n] 3)).alloc (.cells #[.func (.func F) #[] #[]] 70)).alloc o) := fun o => by unfold Grew; go_grown
  have hA : ∀ o, (((w.alloc (.cells #[.int .i64 n] 3)).alloc (.cells #[.func (.func F) #[] #[]] 70)).alloc o).heap[w.heap.size]? = some (.cells #[.int .i64 n] 3 (0, 0)) := fun o => keepB A0 (by unfold Grew; go_grown)
  have hB : ∀ o, (((w.alloc (.cells #[.int .i64 n] 3)).alloc (.cells #[.func (.func F) #[] #[]] 70)).alloc o).heap[w.heap.size + 1]? = some (.cells #[.func (.func F) #[] #[]] 70 (0, 0)) := fun o => keepB B0 (by unfold Grew; go_grown)
  have HG := Lib.hid hG
  have HA := Lib.hid hA
  have HB := Lib.hid hB
  have hst := fun W a m f x y => run_store_fn W a m f x y
  clear A0 B0 hG hA hB
  go_enter Try.func38, Try.ntmps38
  go_wp2
  refine bodyPost_ret (by simp [results, Try.results38, go_sem]; try rfl) rfl ?_
  exact ⟨_, _, rfl, HA.out _, HB.out _, HG.out _⟩
end Go.Proofs.Ytmnfajplfnfgpab.UH
