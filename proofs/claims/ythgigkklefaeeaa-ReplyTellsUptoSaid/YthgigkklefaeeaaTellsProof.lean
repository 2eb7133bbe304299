/-
  For anything that a line may be told, any bytes and any numbers, of bulk at most 1048576: ReplyTells answers true, and each argument reads afterwards as it read before.
  Conditions: what it reads is of bulk at most 1048576 (the row's own).
-/
import Derived.Test.YthgigkklefaeeaaRows
import Derived.Test.YthgigkklefaeeaaLaw
import Derived.Test.YthgigkklefaeeaaRX
import Derived.Test.YthgigkklefaeeaaRO
import Derived.JoinedCond
namespace Go.Proofs.Ythgigkklefaeeaa.TellsProof
open Go Go.ChangeShapes Go.WideShapes Go.ChangeAt Go.RowKit Go.Proofs.Ythgigkklefaeeaa Go.Proofs.Ythgigkklefaeeaa.Facts Go.Proofs.Ythgigkklefaeeaa.Bytes Go.Proofs.Ythgigkklefaeeaa.Law

theorem own : ownKnob Try.prog.godebug = none := by kernel_rfl
theorem laidOut : laidOutB Try.prog = true := by kernel_rfl
theorem contract (H : Type) (enc : TypeId × Value → H) (W : World) (base : Nat) (args : Array Value) (ds gs : List (DataW H)) (before : List MemPlace)
    (hval : ∀ (j : Nat) t v, Try.f3.params[j]? = some t → args[j]? = some v → Value.okWide Try.prog W .any base t v)
    (hW : DataW.Whole enc Try.prog Try.f3.params.toList Rows.replyTellsSpec.vars false W args.toList ds gs before) (hb : Rows.uptoSmall H (ds ++ gs) = true) :
    Calls Try.prog 3 args W fun e W' => ∃ v, e = .returned v ∧ Rows.replyTellsSpec.post enc Try.prog Try.f3 false true false false W args v W' := by
  have hW' := hW
  obtain ⟨p, q, hA0, hV, rfl, hfz, hnd⟩ := hW
  have hA : DataW.TrodAll enc Try.prog W 0 (fun _ => true) true Try.f3.params.toList args.toList ds p := hA0
  rw [Try.params3] at hA hval
  obtain ⟨v0, vs0, d0, ds0, p0, q0, hargs, rfl, rfl, h0, r0⟩ := trodAll_cons hA
  obtain ⟨v1, vs1, d1, ds1, p1, q1, rfl, rfl, rfl, h1, r1⟩ := trodAll_cons r0
  obtain ⟨v2, vs2, d2, ds2, p2, q2, rfl, rfl, rfl, h2, r2⟩ := trodAll_cons r1
  obtain ⟨v3, vs3, d3, ds3, p3, q3, rfl, rfl, rfl, h3, r3⟩ := trodAll_cons r2
  obtain ⟨v4, vs4, d4, ds4, p4, q4, rfl, rfl, rfl, h4, r4⟩ := trodAll_cons r3
  obtain ⟨v5, vs5, d5, ds5, p5, q5, rfl, rfl, rfl, h5, r5⟩ := trodAll_cons r4
  obtain ⟨rfl, rfl, rfl⟩ := trodAll_nil r5
  have hargs2 : args = #[v0, v1, v2, v3, v4, v5] := Array.ext' (by simpa using hargs)
  subst hargs2
  obtain ⟨rfl, rfl⟩ := trodVars_none hV
  obtain ⟨x, A, c, rfl, hr0⟩ := RO.open_out (hval 0 25 v0 rfl rfl) h0
  obtain ⟨b, hs1, hm1⟩ := open_bytes Try.underlying23 Try.underlying5 RO.cells5 (hval 1 23 v1 rfl rfl) h1
  obtain ⟨cc, hs2, hm2⟩ := open_bytes Try.underlying23 Try.underlying5 RO.cells5 (hval 2 23 v2 rfl rfl) h2
  obtain ⟨l, hl⟩ := RO.open_ints' (hval 3 26 v3 rfl rfl) h3
  obtain ⟨refs, hrf⟩ := RO.open_refs (hval 4 27 v4 rfl rfl) h4
  obtain ⟨ns, hn, hns⟩ := RO.open_us (hval 5 28 v5 rfl rfl) h5
  have hbulk : Rows.uptoBulk d0 + (Rows.uptoBulk d1 + (Rows.uptoBulk d2 + (Rows.uptoBulk d3 + (Rows.uptoBulk d4 + (Rows.uptoBulk d5 + 0))))) ≤ 1048576 := by simpa [Rows.uptoSmall, Rows.uptoBulkAll] using hb
  have l1 : b.length ≤ Rows.uptoBulk d1 := by
    obtain ⟨_, _, rfl, _⟩ := id hs1
    exact RO.slice_bulk Try.underlying23 h1
  have l2 : cc.length ≤ Rows.uptoBulk d2 := by
    obtain ⟨_, _, rfl, _⟩ := id hs2
    exact RO.slice_bulk Try.underlying23 h2
  have l3 : l.length ≤ Rows.uptoBulk d3 := by
    obtain ⟨_, _, rfl, _⟩ := id hl
    exact RO.slice_bulk Try.underlying26 h3
  have l4 : refs.length ≤ Rows.uptoBulk d4 := by
    obtain ⟨_, _, rfl, _⟩ := id hrf
    exact RO.slice_bulk Try.underlying27 h4
  have l5 : ns.length ≤ Rows.uptoBulk d5 := by
    obtain ⟨_, _, rfl, _⟩ := id hn
    exact RO.slice_bulk Try.underlying28 h5
  have hlaw := RX.tells_any W x A c v1 v2 v3 v4 v5 b cc l refs ns _ _ _ hr0 hs1 hs2 hl hrf hn hns (by omega) (by omega) (by omega) (by omega) (by omega)
  refine hlaw.mono fun e W' ⟨he, hg⟩ => ?_
  subst he
  exact ⟨_, rfl, law_post laidOut (by kernel_rfl) Try.underlying4 rfl (by kernel_rfl) hW' rfl hg⟩

set_option maxRecDepth 100000 in
theorem lifted (os : Os) (started : os.Started) (H : Type) (enc : TypeId × Value → H) (F : Stop.Interp) :
    ReturnsInHanded {} Try.checked os 3 .any ((Rows.OpenSpec.upto Rows.replyTellsSpec).pre6 enc Try.prog Try.f3 Rows.replyTellsUptoRow.domain false) (((Rows.OpenSpec.upto Rows.replyTellsSpec).at F).post enc Try.prog Try.f3 false true false false) := by
  refine returnsInHanded_of_cond (C := Try.checked) (s := Rows.OpenSpec.upto Rows.replyTellsSpec) (k := Rows.uptoSmall) rfl own started (by kernel_rfl) Try.func3
    (OpenSpec.witness (enc := enc) (C := Try.checked) (s := Rows.OpenSpec.upto Rows.replyTellsSpec) (k := Rows.uptoSmall) rfl false ⟨#[], #[.agg #[.int .i64 0, .int .i64 0, .int .i64 0, .slice none 0 0], .slice none 0 0, .slice none 0 0, .slice none 0 0, .slice none 0 0, .slice none 0 0], []⟩ 8 (by kernel_rfl) (by kernel_rfl) (by kernel_rfl)
      (x := ([.agg [.lit (.int .i64 0), .lit (.int .i64 0), .lit (.int .i64 0), .nil], .nil, .nil, .nil, .nil, .nil], [], [])) (by kernel_rfl) rfl (by kernel_rfl)) ?_
  intro W base args ds gs before hval hW _ hk _
  exact contract H enc W base args ds gs before hval hW hk

theorem proved : Rows.ReplyTellsUptoSaid :=
  OpenClaim.holds_of_cond 3 Try.f3 rfl rfl rfl rfl rfl rfl rfl ⟨rfl, rfl, rfl, rfl, rfl⟩ rfl rfl rfl rfl rfl (by kernel_rfl) Try.func3 (by kernel_rfl)
    (of_decide_eq_true (by kernel_rfl)) (by unfold Func.isWrapper; first | (rw [if_pos (by decide +kernel)]; kernel_rfl) | (rw [if_neg (by decide +kernel)]; exact ⟨rfl, rfl⟩))
    (fun os started H enc _ F => lifted os started H enc F)
end Go.Proofs.Ythgigkklefaeeaa.TellsProof

namespace Go.Proofs.Ythgigkklefaeeaa
theorem replyTellsUpto_holds : Rows.ReplyTellsUptoSaid := TellsProof.proved
#print axioms replyTellsUpto_holds
end Go.Proofs.Ythgigkklefaeeaa
