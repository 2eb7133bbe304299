/-
  For any states and any record: VaultSteps answers true, and each argument reads afterwards as it read before.
  Conditions: none beyond the row's own (the form's reach: each argument takes at most 2 to the 47 less 4096 bytes).
-/
import Derived.Test.YtbnicphegbdfnaaRows
import Derived.Test.YtbnicphegbdfnaaLaw
import Derived.Test.YtbnicphegbdfnaaVH
namespace Go.Proofs.Ytbnicphegbdfnaa.VStepsProof
open Go Go.ChangeShapes Go.WideShapes Go.ChangeAt Go.RowKit Go.Proofs.Ytbnicphegbdfnaa Go.Proofs.Ytbnicphegbdfnaa.Facts Go.Proofs.Ytbnicphegbdfnaa.Bytes Go.Proofs.Ytbnicphegbdfnaa.Law

theorem own : ownKnob Try.prog.godebug = none := by kernel_rfl
theorem laidOut : laidOutB Try.prog = true := by kernel_rfl
theorem cells5 : Try.prog.cellsOf 5 = 1 := by kernel_rfl
theorem many {H : Type} {enc : TypeId × Value → H} {P : Program} {w : World} {base : Nat} {spare : Nat → Bool} {held : Bool} {t0 t1 t2 : TypeId} {args : Array Value} {ds : List (DataW H)} {ps : List MemPlace} (h : DataW.TrodAll enc P w base spare held [t0, t1, t2] args.toList ds ps) :
    ∃ v0 v1 v2 d0 d1 d2 p0 p1 p2, args = #[v0, v1, v2] ∧ ds = [d0, d1, d2] ∧ DataW.Trod enc P w base spare held t0 v0 d0 p0 ∧ DataW.Trod enc P w base spare held t1 v1 d1 p1 ∧ DataW.Trod enc P w base spare held t2 v2 d2 p2 := by
  obtain ⟨v0, a1, d0, e1, p0, q1, ha, rfl, rfl, h0, h⟩ := trodAll_cons h
  obtain ⟨v1, a2, d1, e2, p1, q2, rfl, rfl, rfl, h1, h⟩ := trodAll_cons h
  obtain ⟨v2, a3, d2, e3, p2, q3, rfl, rfl, rfl, h2, h⟩ := trodAll_cons h
  cases a3 with
  | cons _ _ => cases e3 <;> simp [DataW.TrodAll] at h
  | nil =>
    cases e3 with
    | cons _ _ => simp [DataW.TrodAll] at h
    | nil => exact ⟨v0, v1, v2, d0, d1, d2, p0, p1, p2, Array.ext' (by simpa using ha), rfl, h0, h1, h2⟩

set_option maxRecDepth 100000 in
theorem lifted (os : Os) (started : os.Started) (H : Type) (enc : TypeId × Value → H) :
    ReturnsInHanded {} Try.checked os 11 .any (Rows.vaultStepsSpec.pre6 enc Try.prog Try.f11 Rows.vaultStepsRow.domain false) (Rows.vaultStepsSpec.post enc Try.prog Try.f11 false true false false) := by
  refine returnsInHanded_of_change_sized (C := Try.checked) own started (by kernel_rfl) Try.func11
    (ChangeSpec.witness6 (enc := enc) (C := Try.checked) false ⟨#[], #[.slice none 0 0, .slice none 0 0, .slice none 0 0], []⟩ 8 (by kernel_rfl) (by kernel_rfl) (by kernel_rfl) (by kernel_rfl)) ?_
  intro W base args ds gs before hval0 hW _ hsz _
  have hval : ∀ (j : Nat) t v, Try.f11.params[j]? = some t → args[j]? = some v → Value.okWide Try.prog W .any base t v := hval0
  have hW' := hW
  obtain ⟨p, q, hA0, hV, rfl, hfz, hnd⟩ := hW
  have hA : DataW.TrodAll enc Try.prog W 0 (fun _ => true) true Try.f11.params.toList args.toList ds p := hA0
  rw [Try.params11] at hA hval
  obtain ⟨v0, v1, v2, d0, d1, d2, p0, p1, p2, rfl, rfl, h0, h1, h2⟩ := many hA
  obtain ⟨rfl, rfl⟩ := trodVars_none hV
  obtain ⟨l0, hr0, _⟩ := open_bytes Try.underlying23 Try.underlying5 cells5 (hval 0 23 v0 rfl rfl) h0
  replace hr0 := hr0.lt.mono fun b hb => hb.2
  obtain ⟨l1, hr1, _⟩ := open_bytes Try.underlying23 Try.underlying5 cells5 (hval 1 23 v1 rfl rfl) h1
  replace hr1 := hr1.lt.mono fun b hb => hb.2
  obtain ⟨l2, hr2, _⟩ := open_bytes Try.underlying23 Try.underlying5 cells5 (hval 2 23 v2 rfl rfl) h2
  replace hr2 := hr2.lt.mono fun b hb => hb.2
  obtain ⟨A0, c0, rfl, _⟩ := id hr0
  obtain ⟨A1, c1, rfl, _⟩ := id hr1
  obtain ⟨A2, c2, rfl, _⟩ := id hr2
  have hlaw := VH.steps_any W A0 A1 A2 c0 c1 c2 l0 l1 l2 hr0 hr1 hr2
  refine hlaw.mono fun e W' ⟨he, hg⟩ => ?_
  subst he
  exact ⟨_, rfl, law_post laidOut (by kernel_rfl) Try.underlying4 rfl (by kernel_rfl) hW' rfl hg⟩

theorem proved : Rows.VaultStepsSaid :=
  OpenClaim.holds_of_wide 11 Try.f11 rfl rfl rfl rfl rfl rfl rfl ⟨rfl, rfl, rfl, rfl, rfl⟩ rfl rfl rfl rfl rfl (by kernel_rfl) Try.func11 (by kernel_rfl)
    (of_decide_eq_true (by kernel_rfl)) (by unfold Func.isWrapper; first | (rw [if_pos (by decide +kernel)]; kernel_rfl) | (rw [if_neg (by decide +kernel)]; exact ⟨rfl, rfl⟩))
    (fun os started H enc _ => lifted os started H enc)
end Go.Proofs.Ytbnicphegbdfnaa.VStepsProof

namespace Go.Proofs.Ytbnicphegbdfnaa
theorem vaultSteps_holds : Rows.VaultStepsSaid := VStepsProof.proved
#print axioms vaultSteps_holds
end Go.Proofs.Ytbnicphegbdfnaa
