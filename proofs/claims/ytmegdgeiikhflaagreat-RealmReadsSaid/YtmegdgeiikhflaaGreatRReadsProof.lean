/-
  For any realm and any bytes: RealmReads answers true, and each argument reads afterwards as it read before.
  Conditions: none beyond the row's own (the form's reach: each argument takes at most 2 to the 47 less 4096 bytes).
-/
import Derived.Test.YtmegdgeiikhflaaGreatRows
import Derived.Test.YtmegdgeiikhflaaGreatLaw
import Derived.Test.YtmegdgeiikhflaaGreatHO
import Derived.Test.YtmegdgeiikhflaaGreatQE
namespace Go.Proofs.YtmegdgeiikhflaaGreat.RReadsProof
open Go Go.ChangeShapes Go.WideShapes Go.ChangeAt Go.RowKit Go.Proofs.YtmegdgeiikhflaaGreat Go.Proofs.YtmegdgeiikhflaaGreat.Facts Go.Proofs.YtmegdgeiikhflaaGreat.Bytes Go.Proofs.YtmegdgeiikhflaaGreat.Law

theorem own : ownKnob Tryz.prog.godebug = none := by kernel_rfl
theorem laidOut : laidOutB Tryz.prog = true := by kernel_rfl
theorem cells5 : Tryz.prog.cellsOf 5 = 1 := by kernel_rfl
set_option maxRecDepth 100000 in
theorem lifted (os : Os) (started : os.Started) (H : Type) (enc : TypeId × Value → H) :
    ReturnsInHanded {} Tryz.checked os 4 .any (Rows.realmReadsSpec.pre6 enc Tryz.prog Tryz.f4 Rows.realmReadsRow.domain false) (Rows.realmReadsSpec.post enc Tryz.prog Tryz.f4 false true false false) := by
  refine returnsInHanded_of_change_sized (C := Tryz.checked) own started (by kernel_rfl) Tryz.func4
    (ChangeSpec.witness6 (enc := enc) (C := Tryz.checked) false ⟨#[], #[.agg #[.slice none 0 0, .slice none 0 0, .slice none 0 0, .slice none 0 0, .slice none 0 0, .int .i64 0, .int .i64 0, .int .i64 0, .int .i64 0], .slice none 0 0], []⟩ 8 (by kernel_rfl) (by kernel_rfl) (by kernel_rfl) (by kernel_rfl)) ?_
  intro W base args ds gs before hval0 hW _ hsz _
  have hval : ∀ (j : Nat) t v, Tryz.f4.params[j]? = some t → args[j]? = some v → Value.okWide Tryz.prog W .any base t v := hval0
  have hW' := hW
  obtain ⟨p, q, hA0, hV, rfl, hfz, hnd⟩ := hW
  have hA : DataW.TrodAll enc Tryz.prog W 0 (fun _ => true) true Tryz.f4.params.toList args.toList ds p := hA0
  rw [Tryz.params4] at hA hval
  obtain ⟨v0, v1, d0, d1, p0, p1, rfl, rfl, rfl, h0, h1⟩ := trodAll_two hA
  obtain ⟨rfl, rfl⟩ := trodVars_none hV
  obtain ⟨R0, hR0, hs0⟩ := HO.open_realm (hval 0 28 v0 rfl rfl) h0
  obtain ⟨l1, hr1, _⟩ := open_bytes Tryz.underlying41 Tryz.underlying5 cells5 (hval 1 41 v1 rfl rfl) h1
  replace hr1 := hr1.lt.mono fun b hb => hb.2
  have hn1 := QE.bytes_sized (j := 1) hsz (by first | rfl | kernel_rfl) rfl h1 hr1
  have hlaw := QE.reads v0 R0 v1 l1 W hR0 hs0 (hr1.mono fun _ _ => trivial) hn1
  refine hlaw.mono fun e W' ⟨he, hg⟩ => ?_
  subst he
  exact ⟨_, rfl, law_post laidOut (by kernel_rfl) Tryz.underlying4 rfl (by kernel_rfl) hW' rfl hg⟩

theorem proved : Rows.RealmReadsSaid :=
  OpenClaim.holds_of_wide 4 Tryz.f4 rfl rfl rfl rfl rfl rfl rfl ⟨rfl, rfl, rfl, rfl, rfl⟩ rfl rfl rfl rfl rfl (by kernel_rfl) Tryz.func4 (by kernel_rfl)
    (of_decide_eq_true (by kernel_rfl)) (by unfold Func.isWrapper; first | (rw [if_pos (by decide +kernel)]; kernel_rfl) | (rw [if_neg (by decide +kernel)]; exact ⟨rfl, rfl⟩))
    (fun os started H enc _ => lifted os started H enc)
end Go.Proofs.YtmegdgeiikhflaaGreat.RReadsProof

namespace Go.Proofs.YtmegdgeiikhflaaGreat
theorem realmReads_holds : Rows.RealmReadsSaid := RReadsProof.proved
#print axioms realmReads_holds
end Go.Proofs.YtmegdgeiikhflaaGreat
