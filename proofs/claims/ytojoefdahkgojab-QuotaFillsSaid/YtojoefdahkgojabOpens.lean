/-
  A slice of numbers that came in, as it is read.
  Conditions: none.
-/
import Derived.Test.YtojoefdahkgojabInts
import Derived.Test.YtojoefdahkgojabLaw
namespace Go.Proofs.Ytojoefdahkgojab.Opens
open Go Go.ChangeShapes Go.WideShapes Go.ChangeAt Go.RowKit Go.Proofs.Ytojoefdahkgojab Go.Proofs.Ytojoefdahkgojab.Facts Go.Proofs.Ytojoefdahkgojab.Ints

theorem cells3 : Try.prog.cellsOf 3 = 1 := by kernel_rfl
theorem bytes3 : Try.prog.bytesOf 3 = 8 := by kernel_rfl

theorem open_is {H : Type} {enc : TypeId × Value → H} {w : World} {base : Nat} {v : Value} {d : DataW H} {ps : List MemPlace} {r : Reach} {b0 : Nat}
    (hval : Value.okWide Try.prog w r b0 22 v) (h : DataW.Trod enc Try.prog w base (fun _ => true) true 22 v d ps) :
    ∃ (l : List Int), Is w v l ∧ (d = .nil ∧ l = [] ∨ ∃ elems spare, d = .slice elems spare ∧ elems.length = l.length) := by
  obtain ⟨fuel, hf⟩ := h
  obtain ⟨A0, n0, c0, rfl⟩ := okWide_slice Try.underlying22 hval
  rcases open_ints Try.underlying22 Try.underlying3 cells3 hf with ⟨hcs, hx⟩ | ⟨a, len, cap, zs, hcs, hb, hlc, hm, hz, hx, hcell, hwf⟩
  · simp [Value.cells] at hcs
    obtain ⟨rfl, rfl, rfl⟩ := hcs
    cases hx
    exact ⟨[], ⟨none, 0, rfl, Nat.le_refl _, Nat.zero_le _, fun _ => rfl, fun ad ha => by cases ha⟩, .inl ⟨rfl, rfl⟩⟩
  · simp [Value.cells] at hcs
    obtain ⟨rfl, rfl, rfl⟩ := hcs
    simp only [if_true] at hz
    cases hx
    have hlen : (zs.take n0).length = n0 := by rw [List.length_take, hz]; omega
    refine ⟨zs.take n0, ⟨_, c0, by rw [hlen], by rw [hlen]; exact hlc, hm, (fun h => by cases h), fun ad ha j u hu => ?_⟩, .inr ⟨_, _, rfl, ?_⟩⟩
    · cases ha
      have hj : j < n0 := by
        have := (List.getElem?_eq_some_iff.1 hu).1
        rw [iv_length, hlen] at this
        exact this
      rw [iv_get _ _ (by rw [hlen]; exact hj)] at hu
      rw [hcell j (by omega), ← hu]
      simp [List.getD, hj]
    · rw [hlen]
      simp [lits, hz]
      omega
end Go.Proofs.Ytojoefdahkgojab.Opens
