/-
  What is left of writes that a crash cut short.
  Conditions: none beyond those that each lemma names.
-/
import Derived.Test.YtbnicphegbdfnaaDOpens
namespace Go.Proofs.Ytbnicphegbdfnaa.DKeepsP
set_option maxRecDepth 100000
set_option maxRecDepth 100000
open Go Go.RowKit Go.Proofs.Ytbnicphegbdfnaa Go.Proofs.Ytbnicphegbdfnaa.Facts Go.Proofs.Ytbnicphegbdfnaa.Bytes Go.Proofs.Ytbnicphegbdfnaa.DKeep Go.Proofs.Ytbnicphegbdfnaa.DSmall Go.Proofs.Ytbnicphegbdfnaa.DTurn Go.Proofs.Ytbnicphegbdfnaa.DArm Go.Proofs.Ytbnicphegbdfnaa.DRead Go.Proofs.Ytbnicphegbdfnaa.DNew Go.Proofs.Ytbnicphegbdfnaa.DBuild Go.Proofs.Ytbnicphegbdfnaa.DWrite Go.Proofs.Ytbnicphegbdfnaa.DOver Go.Proofs.Ytbnicphegbdfnaa.DSettle Go.Proofs.Ytbnicphegbdfnaa.DFlush Go.Proofs.Ytbnicphegbdfnaa.DAlive Go.Proofs.Ytbnicphegbdfnaa.DOpens

def ours (a : Nat) (l : List (Nat × Sec)) : List (Nat × Sec) := l.filter fun p => p.1 == a
theorem ours_snoc (a : Nat) (l : List (Nat × Sec)) (p : Nat × Sec) : ours a (l ++ [p]) = ours a l ++ (if p.1 = a then [p] else []) := by
  unfold ours
  rw [List.filter_append]
  by_cases h : p.1 = a <;> simp [h]
theorem ours_take (a : Nat) (l : List (Nat × Sec)) (i : Nat) (p : Nat × Sec) (hp : l[i]? = some p) : ours a (l.take (i + 1)) = ours a (l.take i) ++ (if p.1 = a then [p] else []) := by
  rw [List.take_add_one, hp, Option.toList_some, ours_snoc]
theorem settled_at (ks : Nat → Nat) (safe : List Sec) (l : List (Nat × Sec)) (a : Nat) (s : Sec) (ha : safe[a]? = some s) (hk : ∀ i, ks i ≤ 16) : ∀ i, i ≤ l.length →
    (ours a (l.take i) = [] → (settled ks safe l i)[a]? = some s) ∧ (∀ b, ours a (l.take i) = [(a, b)] → ∃ k, k ≤ 16 ∧ (settled ks safe l i)[a]? = some (cutw s b k))
  | 0, _ => ⟨fun _ => ha, fun b h => by simp [ours] at h⟩
  | i + 1, hi => by
    obtain ⟨p, hp⟩ : ∃ p, l[i]? = some p := ⟨_, List.getElem?_eq_getElem hi⟩
    obtain ⟨h1, h2⟩ := settled_at ks safe l a s ha hk i (by omega)
    rw [settled_succ ks safe l i p hp, ours_take a l i p hp]
    have hal : a < (settled ks safe l i).length := by
      rw [settled_length]
      exact (List.getElem?_eq_some_iff.1 ha).1
    by_cases e : p.1 = a
    · rw [if_pos e, e]
      refine ⟨fun h => by simp at h, fun b h => ?_⟩
      have h0 : ours a (l.take i) = [] := by
        cases hh : ours a (l.take i) with
        | nil => rfl
        | cons x t => rw [hh] at h; simp at h
      rw [h0] at h
      simp at h
      subst h
      refine ⟨ks i, hk i, ?_⟩
      rw [List.getElem?_set_self hal, h1 h0]
      rfl
    · rw [if_neg e, List.append_nil, List.getElem?_set_ne e]
      exact ⟨h1, h2⟩
theorem relast_at (safe last : List Sec) (l : List (Nat × Sec)) (a : Nat) (s : Sec) (ha : safe[a]? = some s) (hl : last.length = safe.length) : ∀ i, i ≤ l.length →
    (relast safe last l i)[a]? = if ours a (l.take i) = [] then last[a]? else some s
  | 0, _ => by simp [ours]; rfl
  | i + 1, hi => by
    obtain ⟨p, hp⟩ : ∃ p, l[i]? = some p := ⟨_, List.getElem?_eq_getElem hi⟩
    have h1 := relast_at safe last l a s ha hl i (by omega)
    rw [relast_succ safe last l i p hp, ours_take a l i p hp]
    have hal : a < (relast safe last l i).length := by
      rw [relast_length, hl]
      exact (List.getElem?_eq_some_iff.1 ha).1
    by_cases e : p.1 = a
    · rw [if_pos e, e, List.getElem?_set_self hal, if_neg (by simp), ha]
      rfl
    · rw [if_neg e, List.append_nil, List.getElem?_set_ne e]
      exact h1

section
variable {a : Nat} {c : UInt8} {i : Nat} {d : Pd} {many : Nat} {last : Sec}
end
end Go.Proofs.Ytbnicphegbdfnaa.DKeepsP
