/-
  The list sorted and compacted is as long as the list just where no two of it are the same.
  Conditions: none.
-/
import Derived.Lib.SlicesCompact
import Derived.Lib.RowBridge
namespace Go.Proofs.YtmegdgeiikhflaaGreat.ListsPure
set_option maxRecDepth 100000
set_option maxRecDepth 100000
open Go Go.Lib

theorem upTo_len {α : Type} [Inhabited α] [DecidableEq α] (d : Array α) : ∀ m, (compactUpTo d m).length ≤ m ∧ ((compactUpTo d m).length = m ↔ ∀ j, j < m → keeps d j = true)
  | 0 => by simp [compactUpTo]
  | m + 1 => by
    obtain ⟨h1, h2⟩ := upTo_len d m
    rw [compactUpTo_succ, List.length_append]
    cases hk : keeps d m with
    | true =>
      simp only [if_true, List.length_singleton]
      refine ⟨by omega, ?_⟩
      rw [show ((compactUpTo d m).length + 1 = m + 1 ↔ (compactUpTo d m).length = m) from by omega, h2]
      constructor
      · intro h j hj
        by_cases hjm : j = m
        · subst hjm; exact hk
        · exact h j (by omega)
      · intro h j hj
        exact h j (by omega)
    | false =>
      simp only [Bool.false_eq_true, if_false, List.length_nil, Nat.add_zero]
      refine ⟨by omega, ?_⟩
      constructor
      · intro h; omega
      · intro h
        have := h m (by omega)
        rw [hk] at this
        cases this

theorem sorted_pw (ks : List (List UInt8)) : (ks.mergeSort fun x y => decide (x ≤ y)).Pairwise (fun x y => x ≤ y) := by
  have := List.pairwise_mergeSort (le := fun (x y : List UInt8) => decide (x ≤ y)) (fun a b c h1 h2 => by
    simp only [decide_eq_true_iff] at *
    exact List.le_trans h1 h2) (fun a b => by
    simp only [Bool.or_eq_true, decide_eq_true_iff]
    exact List.le_total a b) ks
  exact this.imp fun h => by simpa using h
theorem nodup_sorted (l : List (List UInt8)) (h : l.Pairwise (fun x y => x ≤ y)) : (∀ j, 0 < j → (hj : j < l.length) → l[j] ≠ l[j - 1]) ↔ l.Nodup := by
  constructor
  · intro hadj
    rw [List.nodup_iff_pairwise_ne, List.pairwise_iff_getElem]
    intro i j hi hj hij e
    have h1 := List.pairwise_iff_getElem.1 h
    have hne := hadj (i + 1) (by omega) (by omega)
    apply hne
    show l[i + 1] = l[i]
    have a : l[i] ≤ l[i + 1] := h1 i (i + 1) hi (by omega) (by omega)
    have b : l[i + 1] ≤ l[j] := by
      by_cases hj1 : i + 1 = j
      · subst hj1; exact List.le_refl _
      · exact h1 (i + 1) j (by omega) hj (by omega)
    rw [← e] at b
    exact List.le_antisymm b a
  · intro hn j hj0 hj e
    rw [List.nodup_iff_pairwise_ne, List.pairwise_iff_getElem] at hn
    exact hn (j - 1) j (by omega) hj (by omega) e.symm
theorem apart_iff (ks : List (List UInt8)) : (compact (ks.mergeSort fun x y => decide (x ≤ y))).length = ks.length ↔ ks.Nodup := by
  have hl : (ks.mergeSort fun x y => decide (x ≤ y)).length = ks.length := List.length_mergeSort ks
  have hp : (ks.mergeSort fun x y => decide (x ≤ y)).Perm ks := List.mergeSort_perm ks _
  rw [← hp.nodup_iff, ← nodup_sorted _ (sorted_pw ks)]
  generalize ks.mergeSort (fun x y => decide (x ≤ y)) = s at *
  rw [← hl]
  unfold compact
  rw [(upTo_len s.toArray s.length).2]
  constructor
  · intro h j hj0 hj
    have := h j hj
    unfold keeps at this
    rw [decide_eq_true_iff] at this
    rcases this with h0 | h0
    · omega
    · intro e
      apply absurd h0
      simp [hj, show j - 1 < s.length by omega, e]
  · intro h j hj
    unfold keeps
    by_cases hj0 : j = 0
    · simp [hj0]
    · have := h j (by omega) hj
      simp [hj, show j - 1 < s.length by omega, hj0, this]
end Go.Proofs.YtmegdgeiikhflaaGreat.ListsPure
