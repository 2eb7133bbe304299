/-
  Rows of bytes that came in, as they are read.
  Conditions: none beyond those that each lemma names.
-/
import Derived.Test.YtbdlpmaigbbpaaaFB3
import Derived.Test.YtbdlpmaigbbpaaaLaw
import Derived.Deep.Slices
import Derived.Deep.Fields
import Derived.Lib.SmallJoins
import Derived.OpenShut
namespace Go.Proofs.Ytbdlpmaigbbpaaa.FO
set_option maxRecDepth 100000
set_option maxRecDepth 100000
open Go Go.ChangeShapes Go.WideShapes Go.ChangeAt Go.RowKit Go.Deep Go.Joins Go.Lib Go.Proofs.Ytbdlpmaigbbpaaa Go.Proofs.Ytbdlpmaigbbpaaa.Facts Go.Proofs.Ytbdlpmaigbbpaaa.Bytes
theorem cells22 : Try.prog.cellsOf 22 = 1 := by kernel_rfl
theorem cells5 : Try.prog.cellsOf 5 = 1 := by kernel_rfl
section
variable {H : Type} {enc : TypeId × Value → H} {w : World} {r : Reach} {b0 : Nat} {v : Value} {d : DataW H} {p : List MemPlace}

theorem open_cell {n' : Nat} {c2 : Value} {y2 : DataW H × List MemPlace} (g2 : DataW.trod enc Try.prog w 0 (fun _ => true) true n' 22 [c2] = some y2) : ∃ l, Rd (fun b => b < w.heap.size) w c2 l := by
  rcases open_ints Try.underlying22 Try.underlying5 cells5 g2 with ⟨hcs, hx⟩ | ⟨a, len, cap, zs, hcs, hb, hlc, hm, hz, hx, hcell, hwf⟩
  · simp at hcs
    subst hcs
    exact ⟨[], Rd.nil _ _⟩
  · simp at hcs
    subst hcs
    simp only [if_true] at hz
    have hbv : bv ((zs.take len).map fun z => UInt8.ofNat z.toNat) = (zs.take len).map (Value.int .u8) := by
      simp only [bv, List.map_map]
      refine List.map_congr_left fun z hzm => ?_
      have hw := hwf z (List.mem_of_mem_take hzm)
      have hw2 : 0 ≤ z ∧ z ≤ 255 := by simpa [Lit.wf, IntKind.min, IntKind.max, IntKind.signed, IntKind.bits] using hw
      simp only [Function.comp_apply, UInt8.toNat_ofNat']
      congr 1
      omega
    have hlen : ((zs.take len).map fun z => UInt8.ofNat z.toNat).length = len := by rw [List.length_map, List.length_take, hz]; omega
    have hrd : Rd (fun _ => True) w (.slice (some a) len cap) ((zs.take len).map fun z => UInt8.ofNat z.toNat) := by
      refine ⟨_, cap, by rw [hlen], by rw [hlen]; exact hlc, hm, (fun h => by cases h), fun ad ha => ⟨fun _ => trivial, fun j u hu => ?_⟩⟩
      cases ha
      rw [hbv] at hu
      have hj : j < len := by
        have := (List.getElem?_eq_some_iff.1 hu).1
        simp at this
        omega
      rw [hcell j (by omega), ← hu]
      simp [List.getD, hj, show j < zs.length by omega]
    exact ⟨_, hrd.lt.mono fun b hb => hb.2⟩

theorem open_rows (hval : Value.okWide Try.prog w r b0 28 v) (h : DataW.Trod enc Try.prog w 0 (fun _ => true) true 28 v d p) :
    ∃ A c L, v = .slice A (List.length L) c ∧ FB2.LB w A c L := by
  obtain ⟨fuel, hf⟩ := h
  obtain ⟨A0, n0, k0, rfl⟩ := okWide_slice Try.underlying28 hval
  rcases Go.Deep.open_slice Try.underlying28 hf with ⟨hcs, hx⟩ | ⟨a, len, cap, m, n, D, Pl, hcs, _, hlc, hm, hmm, hx, hi⟩
  · simp [Value.cells] at hcs
    obtain ⟨rfl, rfl, rfl⟩ := hcs
    exact ⟨none, 0, [], rfl, Nat.le_refl _, Nat.zero_le _, fun _ => rfl, fun ad ha => by cases ha⟩
  · simp [Value.cells] at hcs
    obtain ⟨rfl, rfl, rfl⟩ := hcs
    simp only [if_true] at hmm
    have each : ∀ i, i < n0 → ∃ q : List UInt8, ∃ vB, w.cell? (a.add i) = some vB ∧ Rd (fun b => b < w.heap.size) w vB q := fun i hin => by
      obtain ⟨cs', hc, ht'⟩ := hi i (by omega)
      rw [cells22] at hc
      obtain ⟨_, hcl, hat⟩ := World.cells?_some hc
      match cs', hcl, hat, ht' with
      | [c0], _, hat, ht' =>
        have a0 := hat 0 (by omega)
        obtain ⟨l, hl⟩ := open_cell ht'
        rw [Go.Deep.add_add, Nat.mul_one, Nat.add_zero] at a0
        exact ⟨l, c0, a0, hl⟩
    obtain ⟨f, hfx⟩ := choose_lt each
    have hlen : ((List.range n0).map f).length = n0 := by simp
    refine ⟨some a, k0, (List.range n0).map f, by rw [hlen], by rw [hlen]; exact hlc, by unfold maxLen at hm; omega, (fun h => by cases h), fun ad ha i x hx' => ?_⟩
    cases ha
    have hil : i < n0 := by
      have := (List.getElem?_eq_some_iff.1 hx').1
      rwa [hlen] at this
    simp [hil] at hx'
    subst hx'
    exact hfx i hil
end
end Go.Proofs.Ytbdlpmaigbbpaaa.FO
