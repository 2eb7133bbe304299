/-
  The document's way of cleaning comes to the same as the program's.
  Conditions: none.
-/
import Derived.Test.YtlcbhiokpjnoeaaDoorPure
namespace Go.Proofs.YtlcbhiokpjnoeaaDoor.Pure2
open Go Go.Lib Go.Proofs.YtlcbhiokpjnoeaaDoor.Chars Go.Proofs.YtlcbhiokpjnoeaaDoor.Pure

/-- How the document's own answer takes a byte. -/
def rstep (t : List UInt8) (b : UInt8) : List UInt8 := if plain b && (t != [] || b != 32) then t ++ [b] else t
theorem rstep_on (t l : List UInt8) (h : t ≠ []) : l.foldl rstep t = t ++ l.filter plain := by
  induction l generalizing t with
  | nil => simp
  | cons b l ih =>
    rw [List.foldl_cons, List.filter_cons]
    have ht : (t != []) = true := by simpa using h
    cases hp : plain b with
    | true =>
      have e : rstep t b = t ++ [b] := by simp [rstep, hp, ht]
      rw [e, ih (t ++ [b]) (by simp)]
      simp
    | false =>
      have e : rstep t b = t := by simp [rstep, hp]
      rw [e, ih t h]
      simp
theorem rstep_all (l : List UInt8) : l.foldl rstep [] = trimLeftB (l.filter plain) 32 := by
  induction l with
  | nil => rfl
  | cons b l ih =>
    rw [List.foldl_cons, List.filter_cons]
    cases hp : plain b with
    | false =>
      have e : rstep [] b = [] := by simp [rstep, hp]
      rw [e, ih]
      rfl
    | true =>
      by_cases hb : b = 32
      · subst hb
        have e : rstep [] 32 = [] := by simp [rstep]
        rw [e, ih]
        simp [trimLeftB]
      · have e : rstep [] b = [b] := by simp [rstep, hp, hb]
        rw [e, rstep_on [b] l (by simp)]
        simp [trimLeftB, hb]
theorem right_blanks (l : List UInt8) (m : Nat) : trimRightB (l ++ List.replicate m 32) 32 = trimRightB l 32 := by
  unfold trimRightB
  rw [List.reverse_append, List.reverse_replicate]
  congr 1
  induction m with
  | zero => rfl
  | succ m ih =>
    rw [List.replicate_succ, List.cons_append, List.dropWhile_cons]
    simp
theorem right_split (l : List UInt8) : ∃ m, l = trimRightB l 32 ++ List.replicate m 32 := by
  unfold trimRightB
  refine ⟨(l.reverse.takeWhile (· == 32)).length, ?_⟩
  have h1 : l.reverse.takeWhile (· == 32) = List.replicate (l.reverse.takeWhile (· == 32)).length 32 := by
    rw [List.eq_replicate_iff]
    refine ⟨rfl, fun b hb => ?_⟩
    have : ∀ (q : List UInt8), b ∈ q.takeWhile (· == 32) → b = 32 := fun q => by
      induction q with
      | nil => simp
      | cons a q ih =>
        rw [List.takeWhile_cons]
        by_cases ha : a = 32
        · simp only [ha, beq_self_eq_true, if_true, List.mem_cons]
          rintro (h | h)
          · exact h
          · exact ih h
        · simp [ha]
    exact this _ hb
  have h2 := List.takeWhile_append_dropWhile (p := (· == (32 : UInt8))) (l := l.reverse)
  have h3 := congrArg List.reverse h2
  rw [List.reverse_append, List.reverse_reverse] at h3
  conv => lhs; rw [← h3]
  congr 1
  rw [h1, List.reverse_replicate, List.length_replicate]
theorem left_append (l m : List UInt8) (h : l.getLast? ≠ some 32) (hl : l ≠ []) : trimLeftB (l ++ m) 32 = trimLeftB l 32 ++ m := by
  unfold trimLeftB
  induction l with
  | nil => exact absurd rfl hl
  | cons a l ih =>
    rw [List.cons_append, List.dropWhile_cons, List.dropWhile_cons]
    by_cases ha : a = 32
    · subst ha
      simp only [beq_self_eq_true, if_true]
      by_cases hl2 : l = []
      · subst hl2
        simp at h
      · refine ih ?_ hl2
        rw [List.getLast?_cons] at h
        intro e
        apply h
        rw [e]
        rfl
    · simp [ha]
theorem left_replicate (m : Nat) : trimLeftB (List.replicate m 32) 32 = [] := by
  unfold trimLeftB
  induction m with
  | zero => rfl
  | succ m ih => rw [List.replicate_succ, List.dropWhile_cons]; simp
/-- Both ways come to the same. -/
theorem rclean_eq (l : List UInt8) : trimRightB ((trimLeftB (l.filter plain) 32).take 40) 32 = clean l := by
  unfold clean trimB
  generalize l.filter plain = f
  obtain ⟨m, hm⟩ := right_split f
  have hlast := right_last f
  generalize trimRightB f 32 = r at *
  subst hm
  by_cases hr : r = []
  · subst hr
    rw [List.nil_append, left_replicate]
    rfl
  · rw [left_append _ _ hlast hr, List.take_append, List.take_replicate, right_blanks]
/-- A blank at the end less. -/
theorem right_step (l : List UInt8) (h : l.getLast? = some 32) : trimRightB l 32 = trimRightB l.dropLast 32 := by
  obtain ⟨t, ht⟩ := List.getLast?_eq_some_iff.1 h
  subst ht
  have := right_blanks t 1
  rw [List.dropLast_concat]
  exact this
end Go.Proofs.YtlcbhiokpjnoeaaDoor.Pure2
