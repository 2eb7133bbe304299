/-
  For any that a line may be told, or may not, and any bytes, of bulk at most 1048576: ReplyBack answers true, and each argument reads afterwards as it read before.
  Conditions: what it reads is of bulk at most 1048576 (the row's own).
-/
import Derived.Test.YthgigkklefaeeaaRows
import Derived.Test.YthgigkklefaeeaaLaw
import Derived.Test.YthgigkklefaeeaaRQ
import Derived.Test.YthgigkklefaeeaaRO
import Derived.JoinedCond
namespace Go.Proofs.Ythgigkklefaeeaa.BackProof
open Go Go.ChangeShapes Go.WideShapes Go.ChangeAt Go.RowKit Go.Proofs.Ythgigkklefaeeaa Go.Proofs.Ythgigkklefaeeaa.Facts Go.Proofs.Ythgigkklefaeeaa.Bytes Go.Proofs.Ythgigkklefaeeaa.Law

theorem own : ownKnob Try.prog.godebug = none := by kernel_rfl
theorem laidOut : laidOutB Try.prog = true := by kernel_rfl
theorem contract (H : Type) (enc : TypeId × Value → H) (W : World) (base : Nat) (args : Array Value) (ds gs : List (DataW H)) (before : List MemPlace)
    (hval : ∀ (j : Nat) t v, Try.f4.params[j]? = some t → args[j]? = some v → Value.okWide Try.prog W .any base t v)
    (hW : DataW.Whole enc Try.prog Try.f4.params.toList Rows.replyBackSpec.vars false W args.toList ds gs before) (hb : Rows.uptoSmall H (ds ++ gs) = true) :
    Calls Try.prog 4 args W fun e W' => ∃ v, e = .returned v ∧ Rows.replyBackSpec.post enc Try.prog Try.f4 false true false false W args v W' := by
  have hW' := hW
  obtain ⟨p, q, hA0, hV, rfl, hfz, hnd⟩ := hW
  have hA : DataW.TrodAll enc Try.prog W 0 (fun _ => true) true Try.f4.params.toList args.toList ds p := hA0
  rw [Try.params4] at hA hval
  obtain ⟨v0, v1, d0, d1, p0, p1, rfl, rfl, rfl, h0, h1⟩ := trodAll_two hA
  obtain ⟨rfl, rfl⟩ := trodVars_none hV
  obtain ⟨L, hRw, hL⟩ := RO.open_outs (hval 0 31 v0 rfl rfl) h0
  have hord := RO.ord_rw hRw hL
  obtain ⟨A, c, rfl, _⟩ := id hord
  obtain ⟨m, hs, hm⟩ := open_bytes Try.underlying23 Try.underlying5 RO.cells5 (hval 1 23 v1 rfl rfl) h1
  have hbulk : Rows.uptoBulk d0 + (Rows.uptoBulk d1 + 0) ≤ 1048576 := by simpa [Rows.uptoSmall, Rows.uptoBulkAll] using hb
  have hm0 : m.length ≤ Rows.uptoBulk d1 := by
    rcases hm with ⟨_, rfl⟩ | ⟨elems, spare, rfl, hel⟩
    · simp
    · rw [← hel]; exact RO.bulk_slice _ _
  have hlaw := RQ.back_any W A c (L.map (·.1)) v1 m _ hord hs (by omega)
  refine hlaw.mono fun e W' ⟨he, hg⟩ => ?_
  subst he
  exact ⟨_, rfl, law_post laidOut (by kernel_rfl) Try.underlying4 rfl (by kernel_rfl) hW' rfl hg⟩

set_option maxRecDepth 100000 in
theorem lifted (os : Os) (started : os.Started) (H : Type) (enc : TypeId × Value → H) (F : Stop.Interp) :
    ReturnsInHanded {} Try.checked os 4 .any ((Rows.OpenSpec.upto Rows.replyBackSpec).pre6 enc Try.prog Try.f4 Rows.replyBackUptoRow.domain false) (((Rows.OpenSpec.upto Rows.replyBackSpec).at F).post enc Try.prog Try.f4 false true false false) := by
  refine returnsInHanded_of_cond (C := Try.checked) (s := Rows.OpenSpec.upto Rows.replyBackSpec) (k := Rows.uptoSmall) rfl own started (by kernel_rfl) Try.func4
    (OpenSpec.witness (enc := enc) (C := Try.checked) (s := Rows.OpenSpec.upto Rows.replyBackSpec) (k := Rows.uptoSmall) rfl false ⟨#[], #[.slice none 0 0, .slice none 0 0], []⟩ 8 (by kernel_rfl) (by kernel_rfl) (by kernel_rfl)
      (x := ([.nil, .nil], [], [])) (by kernel_rfl) rfl (by kernel_rfl)) ?_
  intro W base args ds gs before hval hW _ hk _
  exact contract H enc W base args ds gs before hval hW hk

theorem proved : Rows.ReplyBackUptoSaid :=
  OpenClaim.holds_of_cond 4 Try.f4 rfl rfl rfl rfl rfl rfl rfl ⟨rfl, rfl, rfl, rfl, rfl⟩ rfl rfl rfl rfl rfl (by kernel_rfl) Try.func4 (by kernel_rfl)
    (of_decide_eq_true (by kernel_rfl)) (by unfold Func.isWrapper; first | (rw [if_pos (by decide +kernel)]; kernel_rfl) | (rw [if_neg (by decide +kernel)]; exact ⟨rfl, rfl⟩))
    (fun os started H enc _ F => lifted os started H enc F)
end Go.Proofs.Ythgigkklefaeeaa.BackProof

namespace Go.Proofs.Ythgigkklefaeeaa
theorem replyBackUpto_holds : Rows.ReplyBackUptoSaid := BackProof.proved
#print axioms replyBackUpto_holds
end Go.Proofs.Ythgigkklefaeeaa
