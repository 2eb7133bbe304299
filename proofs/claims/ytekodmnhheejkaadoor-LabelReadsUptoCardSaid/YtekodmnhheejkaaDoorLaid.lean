/-
  What the listed variables give: the table's cells, and that both errors stand where they are read; and a world in which they lie so.
  Conditions: none beyond those that each lemma names.
-/
import Derived.Test.YtekodmnhheejkaaDoorRows
import Derived.Test.YtekodmnhheejkaaDoorEach
import Derived.Deep.DeepHandedRow
import Derived.Deep.DeepWitnessRowRef
import Derived.Lib.LaidIn
import Derived.Stop.LaidErr
import Derived.Lib.LaidTab
import Derived.ProofKit
namespace Go.Proofs.YtekodmnhheejkaaDoor.Laid
open Go Go.ChangeShapes Go.WideShapes Go.ChangeAt Go.RowKit Go.Shelf Go.Proofs.YtekodmnhheejkaaDoor Go.Proofs.YtekodmnhheejkaaDoor.Each

theorem star : "*" ++ "errors.errorString" = "*errors.errorString" := by decide
theorem row99 (u : TypeId) (h : Tryd.prog.typeName? 3 u = some "*errors.errorString") : u = 99 :=
  typeName_ptr_named (nm := "errors.errorString") (by rw [star]; kernel_rfl) (by kernel_rfl) (by decide) u (by rw [star]; exact h)

theorem env_of {W : World} (h : laidMetH Tryd.prog Rows.labelOrderRow.laid W) : Env W := by
  have hL : laidMet Tryd.prog Rows.labelOrderRow.laid W := h
  have t64 : Lib.TabIs Tryd.prog W "math/bits.deBruijn64tab" .u8 (Lib.deBruijn64tab.map Int.ofNat) :=
    Lib.tabIs_of_head (g := 0) (t := 67) (e := 5) (n := 64) (by kernel_rfl) (by kernel_rfl) Tryd.underlying67 Tryd.underlying5 (by kernel_rfl) (by kernel_rfl) hL.tail
  obtain ⟨a3, t3, hv3, _, _, _⟩ := laid_sentinel (g := 3) hL.tail.tail.tail (by kernel_rfl) (by kernel_rfl) Tryd.underlying64 row99 Tryd.underlying99 Tryd.underlying101 rfl rfl Tryd.underlying9 (by kernel_rfl) (by kernel_rfl)
  obtain ⟨a2, t2, hv2, _, _, _⟩ := laid_sentinel (g := 2) hL.tail.tail.tail.tail (by kernel_rfl) (by kernel_rfl) Tryd.underlying64 row99 Tryd.underlying99 Tryd.underlying101 rfl rfl Tryd.underlying9 (by kernel_rfl) (by kernel_rfl)
  have c2 : W.cell? ⟨2, 0, none⟩ = some (.iface 99 (.pointer (some a2))) := by simpa using World.var?_cell (g := 2) (by kernel_rfl) hv2 0
  have c3 : W.cell? ⟨3, 0, none⟩ = some (.iface 99 (.pointer (some a3))) := by simpa using World.var?_cell (g := 3) (by kernel_rfl) hv3 0
  refine ⟨fun j hj => ?_, ⟨_, _, c2⟩, ⟨_, _, c3⟩⟩
  have := t64.cell (g := 0) (by kernel_rfl) j (by simpa using hj)
  rw [this]
  simp [List.getD_eq_getElem?_getD, hj]

/-- The cells of a table. -/
def cellsOf : DataW Unit → Array Value
  | .agg parts => (parts.map fun d => match d with | .lit (.int k z) => Value.int k z | _ => undef).toArray
  | _ => #[]
/-- A world for the witness. -/
noncomputable def laidWorld (os : Os) : World :=
  let N := (World.settled Tryd.prog os).heap.size
  let w0 := World.holding Tryd.prog os ⟨#[
    .cells #[.string ⟨#[118, 97, 108, 117, 101, 32, 111, 117, 116, 32, 111, 102, 32, 114, 97, 110, 103, 101]⟩] 101,
    .cells #[.string ⟨#[105, 110, 118, 97, 108, 105, 100, 32, 115, 121, 110, 116, 97, 120]⟩] 101], #[], []⟩
  let put (h : Array Obj) (g : Nat) (cs : Array Value) : Array Obj := h.modify g fun
    | .cells _ t frozen => .cells cs t frozen
    | o => o
  let h0 := put w0.heap 3 #[.iface 99 (.pointer (some ⟨N, 0, none⟩))]
  let h1 := put h0 2 #[.iface 99 (.pointer (some ⟨N + 1, 0, none⟩))]
  let h2 := put h1 0 (cellsOf Rows.laid_math_bits_deBruijn64tab)
  let h3 := put h2 4 (cellsOf Rows.laid_internal_strconv_uint64pow10)
  let h4 := put h3 5 (cellsOf Rows.laid_math_bits_deBruijn32tab)
  { w0 with heap := h4 }

noncomputable abbrev N0 : Nat := (World.settled Tryd.prog default).heap.size
theorem laid_met (os : Os) (args : Array Value) : laidMet Tryd.prog Rows.labelOrderRow.laid ((laidWorld os).forCall (fun _ _ => 0) ⟨#[], args, []⟩).memory :=
  (LaidIn.of_run [0, 2, 3, 4, 5, N0, N0 + 1] 8 (by kernel_rfl) (by kernel_rfl) (by kernel_rfl) (by kernel_rfl)).met
theorem vars_ok (os : Os) (args : Array Value) : ((laidWorld os).forCall (fun _ _ => 0) ⟨#[], args, []⟩).variablesRefB Tryd.prog = true := by kernel_rfl
end Go.Proofs.YtekodmnhheejkaaDoor.Laid
