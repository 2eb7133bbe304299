/-
  A label in its box.
  Conditions: none beyond those that each lemma names.
-/
import Derived.Test.YtmegdgeiikhflaaGreatPlain
import Derived.WalkMore
import Derived.BigFrame
namespace Go.Proofs.YtmegdgeiikhflaaGreat.LBox
set_option maxRecDepth 100000
set_option maxRecDepth 100000
open Go Go.RowKit Go.Proofs.YtmegdgeiikhflaaGreat Go.Proofs.YtmegdgeiikhflaaGreat.Facts Go.Proofs.YtmegdgeiikhflaaGreat.Plain Go.Proofs.YtmegdgeiikhflaaGreat.Bytes

/-- A label's two cells, as they are read and stored to. -/
theorem lab_cells {W : World} {B : Nat} {x y : Value} (h : W.heap[B]? = some (.cells #[x, y] 31 (0, 0))) :
    W.cell? ⟨B, 0, none⟩ = some x ∧ W.cell? ⟨B, 1, none⟩ = some y ∧ W.frozen? ⟨B, 0, none⟩ = false ∧ W.frozen? ⟨B, 1, none⟩ = false := by
  refine ⟨?_, ?_, frozen_of_row _ _ _ _ _ h, frozen_of_row _ _ _ _ _ h⟩
  · rw [cell_of_row _ _ _ _ _ _ h]; rfl
  · rw [cell_of_row _ _ _ _ _ _ h]; rfl
theorem lab_store {W : World} {B : Nat} {x y : Value} (h : W.heap[B]? = some (.cells #[x, y] 31 (0, 0))) :
    (∀ v0, (W.setCell ⟨B, 0, none⟩ v0).cell? ⟨B, 0, none⟩ = some v0) ∧ (∀ v0 v1, ((W.setCell ⟨B, 0, none⟩ v0).setCell ⟨B, 1, none⟩ v1).cell? ⟨B, 1, none⟩ = some v1) ∧
      ∀ v0 v1, Below B W ((W.setCell ⟨B, 0, none⟩ v0).setCell ⟨B, 1, none⟩ v1) := by
  have R0 : ∀ v0 : Value, (W.setCell ⟨B, 0, none⟩ v0).heap[B]? = some (.cells #[v0, y] 31 (0, 0)) := fun v0 => by
    rw [heap_setCell_same _ _ _ _ _ _ h]
    rfl
  have R1 : ∀ v0 v1 : Value, ((W.setCell ⟨B, 0, none⟩ v0).setCell ⟨B, 1, none⟩ v1).heap[B]? = some (.cells #[v0, v1] 31 (0, 0)) := fun v0 v1 => by
    rw [heap_setCell_same _ _ _ _ _ _ (R0 v0)]
    rfl
  refine ⟨fun v0 => ?_, fun v0 v1 => ?_, fun v0 v1 => ?_⟩
  · rw [cell_of_row _ _ _ _ _ _ (R0 v0)]; rfl
  · rw [cell_of_row _ _ _ _ _ _ (R1 v0 v1)]; rfl
  · exact ((Below.refl _ W).setCell (p := ⟨B, 0, none⟩) (Nat.le_refl _) _).setCell (p := ⟨B, 1, none⟩) (Nat.le_refl _) _

/-- A label as it lies. -/
def lc (v : Int) (c : BitVec 64) : Obj := .cells #[.int .i64 v, .int .u64 (c.toNat : Int)] 31 (0, 0)
theorem keepB {w w' : World} {B : Nat} {o : Obj} (h : w.heap[B]? = some o) (hg : Grew w w') : w'.heap[B]? = some o := (hg.block _ (Array.getElem?_eq_some_iff.1 h).1).trans h
theorem cellB {w w' : World} {a : Addr} {v : Value} (hg : Grew w w') (h : w.cell? a = some v) : w'.cell? a = some v :=
  (hg.cell (World.block_lt_of_cell? _ _ h)).trans h

end Go.Proofs.YtmegdgeiikhflaaGreat.LBox
