/-
  For any list of orders, any slot, label, owner, coin, quantity and price: BookTells answers true, and each argument reads afterwards as it read before.
  Conditions: none beyond the row's own (the form's reach: each argument takes at most 2 to the 47 less 4096 bytes).
-/
import Derived.Test.YtmnfajplfnfgpaaRows
import Derived.Test.YtmnfajplfnfgpaaLaw
import Derived.Test.YtmnfajplfnfgpaaOW
import Derived.Test.YtmnfajplfnfgpaaOTL
namespace Go.Proofs.Ytmnfajplfnfgpaa.TellsProof
open Go Go.ChangeShapes Go.WideShapes Go.ChangeAt Go.RowKit Go.Proofs.Ytmnfajplfnfgpaa Go.Proofs.Ytmnfajplfnfgpaa.Facts Go.Proofs.Ytmnfajplfnfgpaa.Bytes Go.Proofs.Ytmnfajplfnfgpaa.Law

theorem own : ownKnob Try.prog.godebug = none := by kernel_rfl
theorem laidOut : laidOutB Try.prog = true := by kernel_rfl
theorem cells5 : Try.prog.cellsOf 5 = 1 := by kernel_rfl
theorem many {H : Type} {enc : TypeId × Value → H} {P : Program} {w : World} {base : Nat} {spare : Nat → Bool} {held : Bool} {t0 t1 t2 t3 t4 t5 t6 : TypeId} {args : Array Value} {ds : List (DataW H)} {ps : List MemPlace} (h : DataW.TrodAll enc P w base spare held [t0, t1, t2, t3, t4, t5, t6] args.toList ds ps) :
    ∃ v0 v1 v2 v3 v4 v5 v6 d0 d1 d2 d3 d4 d5 d6 p0 p1 p2 p3 p4 p5 p6, args = #[v0, v1, v2, v3, v4, v5, v6] ∧ ds = [d0, d1, d2, d3, d4, d5, d6] ∧ DataW.Trod enc P w base spare held t0 v0 d0 p0 ∧ DataW.Trod enc P w base spare held t1 v1 d1 p1 ∧ DataW.Trod enc P w base spare held t2 v2 d2 p2 ∧ DataW.Trod enc P w base spare held t3 v3 d3 p3 ∧ DataW.Trod enc P w base spare held t4 v4 d4 p4 ∧ DataW.Trod enc P w base spare held t5 v5 d5 p5 ∧ DataW.Trod enc P w base spare held t6 v6 d6 p6 := by
  obtain ⟨v0, a1, d0, e1, p0, q1, ha, rfl, rfl, h0, h⟩ := trodAll_cons h
  obtain ⟨v1, a2, d1, e2, p1, q2, rfl, rfl, rfl, h1, h⟩ := trodAll_cons h
  obtain ⟨v2, a3, d2, e3, p2, q3, rfl, rfl, rfl, h2, h⟩ := trodAll_cons h
  obtain ⟨v3, a4, d3, e4, p3, q4, rfl, rfl, rfl, h3, h⟩ := trodAll_cons h
  obtain ⟨v4, a5, d4, e5, p4, q5, rfl, rfl, rfl, h4, h⟩ := trodAll_cons h
  obtain ⟨v5, a6, d5, e6, p5, q6, rfl, rfl, rfl, h5, h⟩ := trodAll_cons h
  obtain ⟨v6, a7, d6, e7, p6, q7, rfl, rfl, rfl, h6, h⟩ := trodAll_cons h
  cases a7 with
  | cons _ _ => cases e7 <;> simp [DataW.TrodAll] at h
  | nil =>
    cases e7 with
    | cons _ _ => simp [DataW.TrodAll] at h
    | nil => exact ⟨v0, v1, v2, v3, v4, v5, v6, d0, d1, d2, d3, d4, d5, d6, p0, p1, p2, p3, p4, p5, p6, Array.ext' (by simpa using ha), rfl, h0, h1, h2, h3, h4, h5, h6⟩

set_option maxRecDepth 100000 in
theorem lifted (os : Os) (started : os.Started) (H : Type) (enc : TypeId × Value → H) :
    ReturnsInHanded {} Try.checked os 3 .any (Rows.bookTellsSpec.pre6 enc Try.prog Try.f3 Rows.bookTellsRow.domain false) (Rows.bookTellsSpec.post enc Try.prog Try.f3 false true false false) := by
  refine returnsInHanded_of_change_sized (C := Try.checked) own started (by kernel_rfl) Try.func3
    (ChangeSpec.witness6 (enc := enc) (C := Try.checked) false ⟨#[], #[.slice none 0 0, .int .i64 0, .int .i64 0, .int .i64 0, .int .i64 0, .int .u64 0, .int .u64 0], []⟩ 8 (by kernel_rfl) (by kernel_rfl) (by kernel_rfl) (by kernel_rfl)) ?_
  intro W base args ds gs before hval0 hW _ hsz _
  have hval : ∀ (j : Nat) t v, Try.f3.params[j]? = some t → args[j]? = some v → Value.okWide Try.prog W .any base t v := hval0
  have hW' := hW
  obtain ⟨p, q, hA0, hV, rfl, hfz, hnd⟩ := hW
  have hA : DataW.TrodAll enc Try.prog W 0 (fun _ => true) true Try.f3.params.toList args.toList ds p := hA0
  rw [Try.params3] at hA hval
  obtain ⟨v0, v1, v2, v3, v4, v5, v6, d0, d1, d2, d3, d4, d5, d6, p0, p1, p2, p3, p4, p5, p6, rfl, rfl, h0, h1, h2, h3, h4, h5, h6⟩ := many hA
  obtain ⟨rfl, rfl⟩ := trodVars_none hV
  obtain ⟨L0, hL0, hz0⟩ := OW.open_orders' (hval 0 22 v0 rfl rfl) h0
  obtain ⟨n1, rfl, rfl, rfl, wn1⟩ := open_int Try.underlying3 (hval 1 3 v1 rfl rfl) h1
  have hn1 : -9223372036854775808 ≤ n1 ∧ n1 ≤ 9223372036854775807 := by simpa [Lit.wf, IntKind.min, IntKind.max, IntKind.signed, IntKind.bits] using wn1
  obtain ⟨n2, rfl, rfl, rfl, wn2⟩ := open_int Try.underlying3 (hval 2 3 v2 rfl rfl) h2
  have hn2 : -9223372036854775808 ≤ n2 ∧ n2 ≤ 9223372036854775807 := by simpa [Lit.wf, IntKind.min, IntKind.max, IntKind.signed, IntKind.bits] using wn2
  obtain ⟨n3, rfl, rfl, rfl, wn3⟩ := open_int Try.underlying3 (hval 3 3 v3 rfl rfl) h3
  have hn3 : -9223372036854775808 ≤ n3 ∧ n3 ≤ 9223372036854775807 := by simpa [Lit.wf, IntKind.min, IntKind.max, IntKind.signed, IntKind.bits] using wn3
  obtain ⟨n4, rfl, rfl, rfl, wn4⟩ := open_int Try.underlying3 (hval 4 3 v4 rfl rfl) h4
  have hn4 : -9223372036854775808 ≤ n4 ∧ n4 ≤ 9223372036854775807 := by simpa [Lit.wf, IntKind.min, IntKind.max, IntKind.signed, IntKind.bits] using wn4
  obtain ⟨n5, rfl, rfl, rfl, wn5⟩ := open_int Try.underlying23 (hval 5 23 v5 rfl rfl) h5
  have hn5 : 0 ≤ n5 ∧ n5 ≤ 18446744073709551615 := by simpa [Lit.wf, IntKind.min, IntKind.max, IntKind.signed, IntKind.bits] using wn5
  obtain ⟨k5, rfl⟩ := Int.eq_ofNat_of_zero_le hn5.1
  obtain ⟨n6, rfl, rfl, rfl, wn6⟩ := open_int Try.underlying23 (hval 6 23 v6 rfl rfl) h6
  have hn6 : 0 ≤ n6 ∧ n6 ≤ 18446744073709551615 := by simpa [Lit.wf, IntKind.min, IntKind.max, IntKind.signed, IntKind.bits] using wn6
  obtain ⟨k6, rfl⟩ := Int.eq_ofNat_of_zero_le hn6.1
  have hlaw := OTL.law v0 L0 n1 n2 n3 n4 k5 k6 W hL0 hz0 (by omega) (by omega)
  refine hlaw.mono fun e W' ⟨he, hg⟩ => ?_
  subst he
  exact ⟨_, rfl, law_post laidOut (by kernel_rfl) Try.underlying4 rfl (by kernel_rfl) hW' rfl hg⟩

theorem proved : Rows.BookTellsSaid :=
  OpenClaim.holds_of_wide 3 Try.f3 rfl rfl rfl rfl rfl rfl rfl ⟨rfl, rfl, rfl, rfl, rfl⟩ rfl rfl rfl rfl rfl (by kernel_rfl) Try.func3 (by kernel_rfl)
    (of_decide_eq_true (by kernel_rfl)) (by unfold Func.isWrapper; first | (rw [if_pos (by decide +kernel)]; kernel_rfl) | (rw [if_neg (by decide +kernel)]; exact ⟨rfl, rfl⟩))
    (fun os started H enc _ => lifted os started H enc)
end Go.Proofs.Ytmnfajplfnfgpaa.TellsProof

namespace Go.Proofs.Ytmnfajplfnfgpaa
theorem bookTells_holds : Rows.BookTellsSaid := TellsProof.proved
#print axioms bookTells_holds
end Go.Proofs.Ytmnfajplfnfgpaa
