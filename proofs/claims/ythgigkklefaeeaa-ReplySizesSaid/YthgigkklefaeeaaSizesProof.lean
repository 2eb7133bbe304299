/-
  For anything that a line may be told, or may not: ReplySizes answers true, and the argument reads afterwards as it read before.
  Conditions: none beyond the row's own (the form's reach: each argument takes at most 2 to the 47 less 4096 bytes).
-/
import Derived.Test.YthgigkklefaeeaaRows
import Derived.Test.YthgigkklefaeeaaLaw
import Derived.Test.YthgigkklefaeeaaRM
import Derived.Test.YthgigkklefaeeaaRO
namespace Go.Proofs.Ythgigkklefaeeaa.SizesProof
open Go Go.ChangeShapes Go.WideShapes Go.ChangeAt Go.RowKit Go.Proofs.Ythgigkklefaeeaa Go.Proofs.Ythgigkklefaeeaa.Facts Go.Proofs.Ythgigkklefaeeaa.Bytes Go.Proofs.Ythgigkklefaeeaa.Law

theorem own : ownKnob Try.prog.godebug = none := by kernel_rfl
theorem laidOut : laidOutB Try.prog = true := by kernel_rfl
set_option maxRecDepth 100000 in
theorem lifted (os : Os) (started : os.Started) (H : Type) (enc : TypeId × Value → H) :
    ReturnsInHanded {} Try.checked os 5 .any (Rows.replySizesSpec.pre6 enc Try.prog Try.f5 Rows.replySizesRow.domain false) (Rows.replySizesSpec.post enc Try.prog Try.f5 false true false false) := by
  refine returnsInHanded_of_change_sized (C := Try.checked) own started (by kernel_rfl) Try.func5
    (ChangeSpec.witness6 (enc := enc) (C := Try.checked) false ⟨#[], #[.agg #[.int .i64 0, .int .i64 0, .int .i64 0, .slice none 0 0]], []⟩ 8 (by kernel_rfl) (by kernel_rfl) (by kernel_rfl) (by kernel_rfl)) ?_
  intro W base args ds gs before hval0 hW _ hsz _
  have hval : ∀ (j : Nat) t v, Try.f5.params[j]? = some t → args[j]? = some v → Value.okWide Try.prog W .any base t v := hval0
  have hW' := hW
  obtain ⟨p, q, hA0, hV, rfl, hfz, hnd⟩ := hW
  have hA : DataW.TrodAll enc Try.prog W 0 (fun _ => true) true Try.f5.params.toList args.toList ds p := hA0
  rw [Try.params5] at hA hval
  obtain ⟨v0, d0, rfl, rfl, h0⟩ := trodAll_one hA
  obtain ⟨rfl, rfl⟩ := trodVars_none hV
  obtain ⟨x, A, c, rfl, hr⟩ := RO.open_out (hval 0 25 v0 rfl rfl) h0
  have hlaw := RM.sizes_any _ x A c W hr
  refine hlaw.mono fun e W' ⟨he, hg⟩ => ?_
  subst he
  exact ⟨_, rfl, law_post laidOut (by kernel_rfl) Try.underlying4 rfl (by kernel_rfl) hW' rfl hg⟩

theorem proved : Rows.ReplySizesSaid :=
  OpenClaim.holds_of_wide 5 Try.f5 rfl rfl rfl rfl rfl rfl rfl ⟨rfl, rfl, rfl, rfl, rfl⟩ rfl rfl rfl rfl rfl (by kernel_rfl) Try.func5 (by kernel_rfl)
    (of_decide_eq_true (by kernel_rfl)) (by unfold Func.isWrapper; first | (rw [if_pos (by decide +kernel)]; kernel_rfl) | (rw [if_neg (by decide +kernel)]; exact ⟨rfl, rfl⟩))
    (fun os started H enc _ => lifted os started H enc)
end Go.Proofs.Ythgigkklefaeeaa.SizesProof

namespace Go.Proofs.Ythgigkklefaeeaa
theorem replySizes_holds : Rows.ReplySizesSaid := SizesProof.proved
#print axioms replySizes_holds
end Go.Proofs.Ythgigkklefaeeaa
