/-
  For any realm, any cut and any bytes: RealmBack answers true, and each argument reads afterwards as it read before.
  Conditions: none beyond the row's own (the form's reach: each argument takes at most 2 to the 47 less 4096 bytes).
-/
import Derived.Test.YtmegdgeiikhflaaGreatRows
import Derived.Test.YtmegdgeiikhflaaGreatLaw
import Derived.Test.YtmegdgeiikhflaaGreatHO
import Derived.Test.YtmegdgeiikhflaaGreatEH
namespace Go.Proofs.YtmegdgeiikhflaaGreat.BackProof
open Go Go.ChangeShapes Go.WideShapes Go.ChangeAt Go.RowKit Go.Proofs.YtmegdgeiikhflaaGreat Go.Proofs.YtmegdgeiikhflaaGreat.Facts Go.Proofs.YtmegdgeiikhflaaGreat.Bytes Go.Proofs.YtmegdgeiikhflaaGreat.Law

theorem own : ownKnob Tryz.prog.godebug = none := by kernel_rfl
theorem laidOut : laidOutB Tryz.prog = true := by kernel_rfl
theorem cells5 : Tryz.prog.cellsOf 5 = 1 := by kernel_rfl
theorem many {H : Type} {enc : TypeId × Value → H} {P : Program} {w : World} {base : Nat} {spare : Nat → Bool} {held : Bool} {t0 t1 t2 : TypeId} {args : Array Value} {ds : List (DataW H)} {ps : List MemPlace} (h : DataW.TrodAll enc P w base spare held [t0, t1, t2] args.toList ds ps) :
    ∃ v0 v1 v2 d0 d1 d2 p0 p1 p2, args = #[v0, v1, v2] ∧ ds = [d0, d1, d2] ∧ DataW.Trod enc P w base spare held t0 v0 d0 p0 ∧ DataW.Trod enc P w base spare held t1 v1 d1 p1 ∧ DataW.Trod enc P w base spare held t2 v2 d2 p2 := by
  obtain ⟨v0, a1, d0, e1, p0, q1, ha, rfl, rfl, h0, h⟩ := trodAll_cons h
  obtain ⟨v1, a2, d1, e2, p1, q2, rfl, rfl, rfl, h1, h⟩ := trodAll_cons h
  obtain ⟨v2, a3, d2, e3, p2, q3, rfl, rfl, rfl, h2, h⟩ := trodAll_cons h
  cases a3 with
  | cons _ _ => cases e3 <;> simp [DataW.TrodAll] at h
  | nil =>
    cases e3 with
    | cons _ _ => simp [DataW.TrodAll] at h
    | nil => exact ⟨v0, v1, v2, d0, d1, d2, p0, p1, p2, Array.ext' (by simpa using ha), rfl, h0, h1, h2⟩

set_option maxRecDepth 100000 in
theorem lifted (os : Os) (started : os.Started) (H : Type) (enc : TypeId × Value → H) :
    ReturnsInHanded {} Tryz.checked os 5 .any (Rows.realmBackSpec.pre6 enc Tryz.prog Tryz.f5 Rows.realmBackRow.domain false) (Rows.realmBackSpec.post enc Tryz.prog Tryz.f5 false true false false) := by
  refine returnsInHanded_of_change_sized (C := Tryz.checked) own started (by kernel_rfl) Tryz.func5
    (ChangeSpec.witness6 (enc := enc) (C := Tryz.checked) false ⟨#[], #[.agg #[.slice none 0 0, .slice none 0 0, .slice none 0 0, .slice none 0 0, .slice none 0 0, .int .i64 0, .int .i64 0, .int .i64 0, .int .i64 0], .int .i64 0, .slice none 0 0], []⟩ 8 (by kernel_rfl) (by kernel_rfl) (by kernel_rfl) (by kernel_rfl)) ?_
  intro W base args ds gs before hval0 hW _ hsz _
  have hval : ∀ (j : Nat) t v, Tryz.f5.params[j]? = some t → args[j]? = some v → Value.okWide Tryz.prog W .any base t v := hval0
  have hW' := hW
  obtain ⟨p, q, hA0, hV, rfl, hfz, hnd⟩ := hW
  have hA : DataW.TrodAll enc Tryz.prog W 0 (fun _ => true) true Tryz.f5.params.toList args.toList ds p := hA0
  rw [Tryz.params5] at hA hval
  obtain ⟨v0, v1, v2, d0, d1, d2, p0, p1, p2, rfl, rfl, h0, h1, h2⟩ := many hA
  obtain ⟨rfl, rfl⟩ := trodVars_none hV
  obtain ⟨R0, hR0, hs0⟩ := HO.open_realm (hval 0 28 v0 rfl rfl) h0
  obtain ⟨n1, rfl, rfl, rfl, wn1⟩ := open_int Tryz.underlying3 (hval 1 3 v1 rfl rfl) h1
  have hn1 : -9223372036854775808 ≤ n1 ∧ n1 ≤ 9223372036854775807 := by simpa [Lit.wf, IntKind.min, IntKind.max, IntKind.signed, IntKind.bits] using wn1
  obtain ⟨l2, hr2, _⟩ := open_bytes Tryz.underlying41 Tryz.underlying5 cells5 (hval 2 41 v2 rfl rfl) h2
  replace hr2 := hr2.lt.mono fun b hb => hb.2
  have hn2 := EH.bytes_sized (j := 2) hsz (by first | rfl | kernel_rfl) rfl h2 hr2
  have hlaw := EH.back v0 R0 n1 v2 l2 W hR0 hs0 (hr2.mono fun _ _ => trivial) hn2
  refine hlaw.mono fun e W' ⟨he, hg⟩ => ?_
  subst he
  exact ⟨_, rfl, law_post laidOut (by kernel_rfl) Tryz.underlying4 rfl (by kernel_rfl) hW' rfl hg⟩

theorem proved : Rows.RealmBackSaid :=
  OpenClaim.holds_of_wide 5 Tryz.f5 rfl rfl rfl rfl rfl rfl rfl ⟨rfl, rfl, rfl, rfl, rfl⟩ rfl rfl rfl rfl rfl (by kernel_rfl) Tryz.func5 (by kernel_rfl)
    (of_decide_eq_true (by kernel_rfl)) (by unfold Func.isWrapper; first | (rw [if_pos (by decide +kernel)]; kernel_rfl) | (rw [if_neg (by decide +kernel)]; exact ⟨rfl, rfl⟩))
    (fun os started H enc _ => lifted os started H enc)
end Go.Proofs.YtmegdgeiikhflaaGreat.BackProof

namespace Go.Proofs.YtmegdgeiikhflaaGreat
theorem realmBack_holds : Rows.RealmBackSaid := BackProof.proved
#print axioms realmBack_holds
end Go.Proofs.YtmegdgeiikhflaaGreat
