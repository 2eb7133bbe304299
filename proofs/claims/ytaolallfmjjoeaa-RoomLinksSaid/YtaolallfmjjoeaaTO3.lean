/-
  A text and a place that came in, as they are read.
  Conditions: those that each lemma names.
-/
import Derived.Test.YtaolallfmjjoeaaTO
namespace Go.Proofs.Ytaolallfmjjoeaa.TO3
set_option maxRecDepth 100000
open Go.ChangeShapes Go.WideShapes Go.ChangeAt Go.Deep Go.Joins
open Go Go.RowKit Go.Lib Go.Proofs.Ytaolallfmjjoeaa Go.Proofs.Ytaolallfmjjoeaa.Facts Go.Proofs.Ytaolallfmjjoeaa.Ints Go.Proofs.Ytaolallfmjjoeaa.TI Go.Proofs.Ytaolallfmjjoeaa.TP Go.Proofs.Ytaolallfmjjoeaa.TC Go.Proofs.Ytaolallfmjjoeaa.Law Go.Proofs.Ytaolallfmjjoeaa.TO

section
variable {H : Type} {enc : TypeId × Value → H} {w : World} {r : Reach} {b0 : Nat} {v : Value} {d : DataW H} {p : List MemPlace}
theorem open_text' (hv : Value.okWide Try.prog w r b0 9 v) (h : DataW.Trod enc Try.prog w 0 (fun _ => true) true 9 v d p) : ∃ s : ByteArray, v = .string s ∧ s.size ≤ 9223372036854775807 := by
  obtain ⟨s, rfl⟩ := okWide_string Try.underlying9 hv
  obtain ⟨fuel, hf⟩ := h
  obtain ⟨s2, e, hs⟩ := el_text (c := .string s) (show TR enc w fuel 9 [.string s] _ from hf)
  cases e
  exact ⟨s, rfl, hs⟩
theorem open_ref' (hv : Value.okWide Try.prog w r b0 33 v) (h : DataW.Trod enc Try.prog w 0 (fun _ => true) true 33 v d p) : ∃ a b : Int, v = .agg #[.int .i64 a, .int .i64 b] := by
  obtain ⟨cs, rfl, hsz⟩ := okWide_struct Try.underlying33 hv
  obtain ⟨fuel, hf⟩ := h
  obtain ⟨hl, _⟩ := fieldsG Try.underlying33 (show TR enc w fuel 33 _ _ from hf)
  obtain ⟨cs⟩ := cs
  simp only [Value.cells] at hl
  obtain ⟨c0, c1, rfl⟩ := list2 (hl.trans c33)
  obtain ⟨a, b, rfl, rfl⟩ := el_ref (a := c0) (b := c1) (show TR enc w fuel 33 [c0, c1] _ from hf)
  exact ⟨a, b, rfl⟩
end
end Go.Proofs.Ytaolallfmjjoeaa.TO3
