/-
  Cuts of bytes read as cuts of what they read.
  Conditions: none beyond those that each lemma names.
-/
import Derived.Test.YtoeemilmjaihcaaBytes
namespace Go.Proofs.Ytoeemilmjaihcaa.Cuts
open Go Go.RowKit Go.Proofs.Ytoeemilmjaihcaa.Facts Go.Proofs.Ytoeemilmjaihcaa.Bytes
theorem cut_first {S : Nat → Prop} {w : World} {A : Option Addr} {c m : Nat} {l : List UInt8} (h : Rd S w (.slice A l.length c) l) (hm : m ≤ l.length) : Rd S w (.slice A m c) (l.take m) := by
  obtain ⟨A', c', e, h1, h2, h3, h4⟩ := h
  injection e with e1 _ e3
  subst e1 e3
  refine ⟨A, c, by rw [List.length_take, Nat.min_eq_left hm], by rw [List.length_take]; omega, h2, h3, fun ad hA => ⟨fun hl => (h4 ad hA).1 (fun e => hl (by rw [e, List.take_nil])), fun j u hu => (h4 ad hA).2 j u ?_⟩⟩
  have hb : bv (l.take m) = (bv l).take m := by simp [bv, List.map_take]
  rw [hb, List.getElem?_take] at hu
  split at hu
  · exact hu
  · cases hu

theorem cut_rd {S : Nat → Prop} {w : World} {A : Option Addr} {c n : Nat} {l : List UInt8} (h : Rd S w (.slice A l.length c) l) (hn : n ≤ l.length) :
    Rd S w (.slice A n n) (l.take n) ∧ Rd S w (.slice (if c = n then A else A.map (·.add n)) (l.length - n) (c - n)) (l.drop n) := by
  obtain ⟨A', c', e, h1, h2, h3, h4⟩ := h
  injection e with e1 _ e3
  subst e1 e3
  constructor
  · refine ⟨A, n, by rw [List.length_take, Nat.min_eq_left hn], by rw [List.length_take]; omega, by omega, fun hA => by have := h3 hA; omega, fun ad hA => ⟨fun hl => (h4 ad hA).1 (fun e => hl (by rw [e, List.take_nil])), fun j u hu => (h4 ad hA).2 j u ?_⟩⟩
    have hb : bv (l.take n) = (bv l).take n := by simp [bv, List.map_take]
    rw [hb, List.getElem?_take] at hu
    split at hu
    · exact hu
    · cases hu
  · refine ⟨_, c - n, by rw [List.length_drop], by rw [List.length_drop]; omega, by omega, fun hA => ?_, fun ad hA => ?_⟩
    · split at hA
      · omega
      · cases hAA : A with
        | none => have := h3 hAA; omega
        | some x => rw [hAA] at hA; cases hA
    · split at hA
      · rename_i hc
        have hl : l.drop n = [] := List.drop_of_length_le (by omega)
        rw [hl]
        exact ⟨fun h => absurd rfl h, fun j u hu => by simp [bv] at hu⟩
      · cases hAA : A with
        | none => rw [hAA] at hA; cases hA
        | some x =>
          rw [hAA] at hA
          simp only [Option.map_some, Option.some.injEq] at hA
          subst hA
          refine ⟨fun hl => by rw [block_add']; exact (h4 x hAA).1 (fun e => hl (by rw [e]; simp)), fun j u hu => ?_⟩
          rw [add_add']
          refine (h4 x hAA).2 _ u ?_
          have hb : bv (l.drop n) = (bv l).drop n := by simp [bv, List.map_drop]
          rw [hb, List.getElem?_drop] at hu
          exact hu

end Go.Proofs.Ytoeemilmjaihcaa.Cuts
