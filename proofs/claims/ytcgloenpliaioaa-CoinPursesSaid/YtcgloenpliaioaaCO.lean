/-
  A purse, and a row of numbers, that came in, as they are read.
  Conditions: none.
-/
import Derived.Test.YtcgloenpliaioaaCS
import Derived.Test.YtcgloenpliaioaaCB
import Derived.Laws.IdiomArrays
namespace Go.Proofs.Ytcgloenpliaioaa.CO
set_option maxRecDepth 100000
open Go Go.ChangeShapes Go.WideShapes Go.ChangeAt Go.RowKit Go.Proofs.Ytcgloenpliaioaa Go.Proofs.Ytcgloenpliaioaa.Facts Go.Proofs.Ytcgloenpliaioaa.CS Go.Proofs.Ytcgloenpliaioaa.CB

theorem cells22 : Try.prog.cellsOf 22 = 1 := by kernel_rfl
theorem cells31 : Try.prog.cellsOf 31 = 4 := by kernel_rfl
theorem list4 {α : Type} (l : List α) (h : (⟨l⟩ : Array α).size = 4) : ∃ a b c d, l = [a, b, c, d] := by
  match l, h with
  | [a, b, c, d], _ => exact ⟨a, b, c, d, rfl⟩
theorem nat_of {z : Int} (h : (Lit.int .u64 z).wf = true) : ∃ n : Nat, z = (n : Int) ∧ n < 18446744073709551616 := by
  have hn : 0 ≤ z ∧ z ≤ 18446744073709551615 := by simpa [Lit.wf, IntKind.min, IntKind.max, IntKind.signed, IntKind.bits] using h
  obtain ⟨n, rfl⟩ := Int.eq_ofNat_of_zero_le hn.1
  exact ⟨n, rfl, by omega⟩
theorem open_purse {H : Type} {enc : TypeId × Value → H} {w : World} {base : Nat} {v : Value} {d : DataW H} {ps : List MemPlace} {r : Reach} {b0 : Nat}
    (hval : Value.okWide Try.prog w r b0 31 v) (h : DataW.Trod enc Try.prog w base (fun _ => true) true 31 v d ps) :
    ∃ p0 p1 p2 p3 : Nat, v = pv p0 p1 p2 p3 ∧ p0 < 18446744073709551616 ∧ p1 < 18446744073709551616 ∧ p2 < 18446744073709551616 ∧ p3 < 18446744073709551616 := by
  obtain ⟨cs, rfl, hsz, _⟩ : ∃ cs, v = .agg cs ∧ cs.size = Try.prog.cellsOf 31 ∧ Row.okWide Try.prog w r b0 31 cs := by
    simpa [Value.okWide, Try.underlying31] using hval
  rw [cells31] at hsz
  obtain ⟨l⟩ := cs
  obtain ⟨c0, c1, c2, c3, rfl⟩ := list4 l hsz
  obtain ⟨fuel, hf⟩ := h
  obtain ⟨y0, y1, y2, y3, m, hx, hy0, hy1, hy2, hy3⟩ := trod_array4 Try.underlying31 cells22 hf
  obtain ⟨x0, e0, rfl, w0⟩ := DataW.trod_int Try.underlying22 hy0
  obtain ⟨x1, e1, rfl, w1⟩ := DataW.trod_int Try.underlying22 hy1
  obtain ⟨x2, e2, rfl, w2⟩ := DataW.trod_int Try.underlying22 hy2
  obtain ⟨x3, e3, rfl, w3⟩ := DataW.trod_int Try.underlying22 hy3
  simp at e0 e1 e2 e3
  subst e0 e1 e2 e3
  obtain ⟨n0, rfl, k0⟩ := nat_of w0
  obtain ⟨n1, rfl, k1⟩ := nat_of w1
  obtain ⟨n2, rfl, k2⟩ := nat_of w2
  obtain ⟨n3, rfl, k3⟩ := nat_of w3
  exact ⟨n0, n1, n2, n3, rfl, k0, k1, k2, k3⟩
theorem open_us {H : Type} {enc : TypeId × Value → H} {w : World} {base : Nat} {v : Value} {d : DataW H} {ps : List MemPlace} {r : Reach} {b0 : Nat}
    (hval : Value.okWide Try.prog w r b0 23 v) (h : DataW.Trod enc Try.prog w base (fun _ => true) true 23 v d ps) :
    ∃ A c l, v = .slice A (List.length l) c ∧ Us w A c l := by
  obtain ⟨fuel, hf⟩ := h
  obtain ⟨A0, n0, c0, rfl⟩ := okWide_slice Try.underlying23 hval
  rcases open_ints Try.underlying23 Try.underlying22 cells22 hf with ⟨hcs, hx⟩ | ⟨a, len, cap, zs, hcs, hb, hlc, hm, hz, hx, hcell, hwf⟩
  · simp [Value.cells] at hcs
    obtain ⟨rfl, rfl, rfl⟩ := hcs
    exact ⟨none, 0, [], rfl, Nat.zero_le _, (fun x hx => by cases hx), fun j x hx => by cases hx⟩
  · simp [Value.cells] at hcs
    obtain ⟨rfl, rfl, rfl⟩ := hcs
    simp only [if_true] at hz
    have hlen : ((zs.take n0).map Int.toNat).length = n0 := by rw [List.length_map, List.length_take, hz]; omega
    have hk : ∀ z ∈ zs, ((z.toNat : Nat) : Int) = z ∧ z.toNat < 18446744073709551616 := fun z hzm => by
      obtain ⟨n, rfl, h1⟩ := nat_of (hwf z hzm)
      exact ⟨rfl, h1⟩
    refine ⟨some a, c0, (zs.take n0).map Int.toNat, by rw [hlen], ?_, fun x hx => ?_, fun j x hx => ?_⟩
    · rw [hlen]
      unfold maxLen at hm
      omega
    · obtain ⟨z, hzm, rfl⟩ := List.mem_map.1 hx
      exact (hk z (List.mem_of_mem_take hzm)).2
    · have hj : j < n0 := by
        have := (List.getElem?_eq_some_iff.1 hx).1
        rwa [hlen] at this
      refine ⟨a, rfl, by rw [hlen]; exact hlc, ?_⟩
      have hjz : j < zs.length := by omega
      have hx2 : x = (zs[j]).toNat := by
        simp [hj, hjz] at hx
        exact hx.symm
      rw [hcell j (by omega), hx2, (hk _ (List.getElem_mem hjz)).1]
      simp [List.getD, hjz]
end Go.Proofs.Ytcgloenpliaioaa.CO
