/-
  Rows of deeds that came in, as they are read.
  Conditions: those that each lemma names.
-/
import Derived.Test.YtaolallfmjjoeaaTO
import Derived.Test.YtaolallfmjjoeaaTQ
namespace Go.Proofs.Ytaolallfmjjoeaa.TO2
set_option maxRecDepth 100000
open Go.ChangeShapes Go.WideShapes Go.ChangeAt Go.Deep Go.Joins
open Go Go.RowKit Go.Lib Go.Proofs.Ytaolallfmjjoeaa Go.Proofs.Ytaolallfmjjoeaa.Facts Go.Proofs.Ytaolallfmjjoeaa.Ints Go.Proofs.Ytaolallfmjjoeaa.TI Go.Proofs.Ytaolallfmjjoeaa.TP Go.Proofs.Ytaolallfmjjoeaa.TC Go.Proofs.Ytaolallfmjjoeaa.Law Go.Proofs.Ytaolallfmjjoeaa.TO Go.Proofs.Ytaolallfmjjoeaa.TQ

section
variable {H : Type} {enc : TypeId × Value → H} {w : World} {r : Reach} {b0 : Nat} {v : Value} {d : DataW H} {p : List MemPlace}
theorem list7 {l : List Value} (h : l.length = 7) : ∃ a b c d e f g, l = [a, b, c, d, e, f, g] := by
  match l, h with | [a, b, c, d, e, f, g], _ => exact ⟨a, b, c, d, e, f, g, rfl⟩
theorem open_deeds {fuel : Nat} {y : DataW H × List MemPlace} (h : TR enc w fuel 61 [v] y) : ∃ l, Ds w v l ∧ ∀ x ∈ l, x.name.size ≤ 9223372036854775807 := by
  haveI : Inhabited De := ⟨⟨0, 0, 0, 0, 0, 0, ⟨#[]⟩⟩⟩
  exact open_row (α := De) (f := dcs) (n := 7) (e := 64) (P := fun x => x.name.size ≤ 9223372036854775807) (fun _ => rfl) Try.underlying61 (by kernel_rfl) (fun n' cs' y h => by
    obtain ⟨hl, hg⟩ := fieldsG Try.underlying64 h
    obtain ⟨a, b, c, d, e, f, g, rfl⟩ := list7 (hl.trans (by kernel_rfl))
    obtain ⟨_, _, g0⟩ := hg 0 (by decide)
    obtain ⟨_, _, g1⟩ := hg 1 (by decide)
    obtain ⟨_, _, g2⟩ := hg 2 (by decide)
    obtain ⟨_, _, g3⟩ := hg 3 (by decide)
    obtain ⟨_, _, g4⟩ := hg 4 (by decide)
    obtain ⟨_, _, g5⟩ := hg 5 (by decide)
    obtain ⟨z0, rfl, _⟩ := el_int (c := a) g0
    obtain ⟨z1, rfl, _⟩ := el_int (c := b) g1
    obtain ⟨z2, rfl, _⟩ := el_int (c := c) g2
    obtain ⟨z3, rfl, _⟩ := el_int (c := d) g3
    obtain ⟨z4, z5, rfl, rfl⟩ := el_ref (a := e) (b := f) g4
    obtain ⟨z6, rfl, s6⟩ := el_text (c := g) g5
    exact ⟨⟨z0, z1, z2, z3, z4, z5, z6⟩, rfl, s6⟩) h
theorem open_deeds' (hv : Value.okWide Try.prog w r b0 61 v) (h : DataW.Trod enc Try.prog w 0 (fun _ => true) true 61 v d p) : ∃ l, Ds w v l ∧ ∀ x ∈ l, x.name.size ≤ 9223372036854775807 := by
  obtain ⟨A, n, c, rfl⟩ := okWide_slice Try.underlying61 hv
  obtain ⟨fuel, hf⟩ := h
  exact open_deeds hf
end
end Go.Proofs.Ytaolallfmjjoeaa.TO2
