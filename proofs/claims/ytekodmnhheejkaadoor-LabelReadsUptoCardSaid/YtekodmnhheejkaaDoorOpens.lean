/-
  A label that came in, as it stands.
  Conditions: none beyond those that the lemma names.
-/
import Derived.Test.YtekodmnhheejkaaDoorProg
import Derived.Lib.SmallJoins
import Derived.OpenShut
namespace Go.Proofs.YtekodmnhheejkaaDoor.Opens
open Go Go.ChangeShapes Go.WideShapes Go.ChangeAt Go.RowKit Go.Deep Go.Joins Go.Lib Go.Proofs.YtekodmnhheejkaaDoor

theorem cells24 : Tryd.prog.cellsOf 24 = 2 := by kernel_rfl
theorem struct24 : ∃ f0 f1, Tryd.prog.underlying 24 = some (.struct #[f0, f1]) ∧ oneCellFields Tryd.prog #[f0, f1] = true ∧ f0.type = 3 ∧ f1.type = 22 :=
  ⟨_, _, Tryd.underlying24, by kernel_rfl, rfl, rfl⟩
theorem open_label {H : Type} {enc : TypeId × Value → H} {w : World} {base : Nat} {spare : Nat → Bool} {held : Bool} {r : Reach} {b0 : Nat} {v : Value} {d : DataW H} {p : List MemPlace}
    (hv : Value.okWide Tryd.prog w r b0 24 v) (h : DataW.Trod enc Tryd.prog w base spare held 24 v d p) :
    ∃ (x : Int) (c : BitVec 64), v = .agg #[.int .i64 x, .int .u64 (c.toNat : Int)] ∧ -9223372036854775808 ≤ x ∧ x ≤ 9223372036854775807 := by
  obtain ⟨f0, f1, hs, hone, t0, t1⟩ := struct24
  obtain ⟨v0, v1, y0, y1, n, rfl, _, _, g0, g1⟩ := open_agg2 hs hone cells24 hv h
  rw [t0] at g0
  rw [t1] at g1
  obtain ⟨x, e0, _, w0⟩ := DataW.trod_int Tryd.underlying3 g0
  obtain ⟨y, e1, _, w1⟩ := DataW.trod_int Tryd.underlying22 g1
  cases e0
  cases e1
  have hx : -9223372036854775808 ≤ x ∧ x ≤ 9223372036854775807 := by simpa [Lit.wf, IntKind.min, IntKind.max, IntKind.signed, IntKind.bits] using w0
  have hy : 0 ≤ y ∧ y ≤ 18446744073709551615 := by simpa [Lit.wf, IntKind.min, IntKind.max, IntKind.signed, IntKind.bits] using w1
  have e : (((BitVec.ofNat 64 y.toNat).toNat : Nat) : Int) = y := by
    rw [BitVec.toNat_ofNat]
    omega
  exact ⟨x, BitVec.ofNat 64 y.toNat, by rw [e], hx⟩
end Go.Proofs.YtekodmnhheejkaaDoor.Opens
