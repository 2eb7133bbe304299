/-
  A world in which the listed variables lie as the program's text lays them.
  Conditions: none.
-/
import Derived.Test.YtlcbhiokpjnoeaaDoorRows
import Derived.Deep.DeepHandedRow
import Derived.Deep.DeepWitnessRowRef
import Derived.Lib.LaidIn
import Derived.ProofKit
namespace Go.Proofs.YtlcbhiokpjnoeaaDoor.Laid
open Go Go.ChangeShapes Go.WideShapes Go.ChangeAt Go.RowKit Go.Proofs.YtlcbhiokpjnoeaaDoor

/-- The cells of a table. -/
def cellsOf : DataW Unit → Array Value
  | .agg parts => (parts.flatMap fun d => match d with
    | .lit (.int k z) => [Value.int k z]
    | .agg q => q.map fun x => match x with | .lit (.int k z) => Value.int k z | _ => undef
    | _ => []).toArray
  | _ => #[]
/-- A world for the witness. -/
noncomputable def laidWorld (os : Os) : World :=
  let w0 := World.holding Tryd.prog os ⟨#[], #[], []⟩
  let put (h : Array Obj) (g : Nat) (cs : Array Value) : Array Obj := h.modify g fun
    | .cells _ t frozen => .cells cs t frozen
    | o => o
  let h0 := put w0.heap 0 (cellsOf Rows.laid_unicode_utf8_first)
  let h1 := put h0 1 (cellsOf Rows.laid_unicode_utf8_acceptRanges)
  { w0 with heap := h1 }
theorem laid_met (os : Os) (args : Array Value) : laidMet Tryd.prog Rows.nameCleanRow.laid ((laidWorld os).forCall (fun _ _ => 0) ⟨#[], args, []⟩).memory :=
  (LaidIn.of_run [0, 1] 8 (by kernel_rfl) (by kernel_rfl) (by kernel_rfl) (by kernel_rfl)).met
end Go.Proofs.YtlcbhiokpjnoeaaDoor.Laid
