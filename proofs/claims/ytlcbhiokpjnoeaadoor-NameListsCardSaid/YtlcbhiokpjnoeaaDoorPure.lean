/-
  What is clean: a text, or empty; a text is its own clean one; cleaning again changes nothing; a name is a text.
  Conditions: none.
-/
import Derived.Test.YtlcbhiokpjnoeaaDoorChars
import Derived.Lib.TrimByte
namespace Go.Proofs.YtlcbhiokpjnoeaaDoor.Pure
open Go Go.Lib Go.Proofs.YtlcbhiokpjnoeaaDoor.Chars

/-- What the program's Clean answers. -/
def clean (l : List UInt8) : List UInt8 := trimRightB ((trimB (l.filter plain) 32).take 40) 32

theorem text_iff (l : List UInt8) : text l = true ↔ 1 ≤ l.length ∧ l.length ≤ 40 ∧ l.head? ≠ some 32 ∧ l.getLast? ≠ some 32 ∧ ∀ x ∈ l, plain x = true := by
  unfold text
  cases l with
  | nil => simp
  | cons a t =>
    simp only [Bool.and_eq_true, decide_eq_true_iff, List.all_eq_true, bne_iff_ne, ne_eq, List.head?_cons, Option.some.injEq]
    have e : (a :: t).getLast? = some ((a :: t).getD ((a :: t).length - 1) 0) := by
      rw [List.getLast?_eq_getElem?, List.getD_eq_getElem?_getD, List.getElem?_eq_getElem (by simp)]
      rfl
    rw [e]
    simp only [Option.some.injEq, List.getD_cons_zero]
    constructor
    · rintro ⟨⟨⟨⟨h1, h2⟩, h3⟩, h4⟩, h5⟩
      exact ⟨h1, h2, h3, h4, h5⟩
    · rintro ⟨h1, h2, h3, h4, h5⟩
      exact ⟨⟨⟨⟨h1, h2⟩, h3⟩, h4⟩, h5⟩

theorem left_head (l : List UInt8) : (trimLeftB l 32).head? ≠ some 32 := by
  unfold trimLeftB
  induction l with
  | nil => simp
  | cons a t ih =>
    rw [List.dropWhile_cons]
    by_cases h : a = 32
    · simp [h]
      exact ih
    · simp [h]
theorem left_id (l : List UInt8) (h : l.head? ≠ some 32) : trimLeftB l 32 = l := by
  unfold trimLeftB
  cases l with
  | nil => rfl
  | cons a t =>
    simp at h
    simp [h]
theorem right_last (l : List UInt8) : (trimRightB l 32).getLast? ≠ some 32 := by
  unfold trimRightB
  rw [List.getLast?_reverse]
  exact left_head l.reverse
theorem right_id (l : List UInt8) (h : l.getLast? ≠ some 32) : trimRightB l 32 = l := by
  unfold trimRightB
  have := left_id l.reverse (by rw [List.head?_reverse]; exact h)
  unfold trimLeftB at this
  rw [this, List.reverse_reverse]
theorem left_sub (l : List UInt8) : (trimLeftB l 32).Sublist l := List.dropWhile_sublist _
theorem right_pre (l : List UInt8) : trimRightB l 32 <+: l := by
  unfold trimRightB
  have h : (l.reverse.dropWhile (· == 32)) <:+ l.reverse := List.dropWhile_suffix _
  have := List.reverse_prefix.2 h
  rwa [List.reverse_reverse] at this
theorem head_pre {l m : List UInt8} (h : l <+: m) (hl : l ≠ []) : l.head? = m.head? := by
  obtain ⟨t, rfl⟩ := h
  cases l with
  | nil => exact absurd rfl hl
  | cons a l => rfl

theorem clean_sub (l : List UInt8) : (clean l).Sublist (l.filter plain) := by
  unfold clean trimB
  exact (right_pre _).sublist.trans ((List.take_sublist _ _).trans ((left_sub _).trans (right_pre _).sublist))
theorem clean_len (l : List UInt8) : (clean l).length ≤ l.length := Nat.le_trans (clean_sub l).length_le (List.length_filter_le _ _)
theorem clean_text (l : List UInt8) (h : clean l ≠ []) : text (clean l) = true := by
  rw [text_iff]
  refine ⟨?_, ?_, ?_, right_last _, fun x hx => ?_⟩
  · cases hc : clean l with
    | nil => exact absurd hc h
    | cons a t => simp
  · have h1 := (right_pre ((trimB (l.filter plain) 32).take 40)).length_le
    have h2 : ((trimB (l.filter plain) 32).take 40).length ≤ 40 := by rw [List.length_take]; omega
    unfold clean
    omega
  · have hp : clean l <+: trimB (l.filter plain) 32 := (right_pre _).trans (List.take_prefix _ _)
    rw [head_pre hp h]
    exact left_head _
  · have := (clean_sub l).subset hx
    exact (List.mem_filter.1 this).2
theorem clean_id (l : List UInt8) (h : text l = true) : clean l = l := by
  rw [text_iff] at h
  obtain ⟨h1, h2, h3, h4, h5⟩ := h
  unfold clean trimB
  rw [List.filter_eq_self.2 h5, right_id l h4, left_id l h3, List.take_of_length_le h2, right_id l h4]
theorem clean_nil : clean [] = [] := by decide
theorem clean_clean (l : List UInt8) : clean (clean l) = clean l := by
  by_cases h : clean l = []
  · rw [h, clean_nil]
  · exact clean_id _ (clean_text l h)
theorem word_plain (b : UInt8) (h : word b = true) : plain b = true ∧ b ≠ 32 := by
  unfold word letter digit at h
  unfold plain
  simp only [Bool.or_eq_true, Bool.and_eq_true, decide_eq_true_iff] at *
  refine ⟨by omega, fun e => ?_⟩
  subst e
  have : (32 : UInt8).toNat = 32 := rfl
  omega
theorem right_text (l : List UInt8) (h : right l = true) : text l = true := by
  unfold right at h
  simp only [Bool.and_eq_true, decide_eq_true_iff, List.all_eq_true] at h
  obtain ⟨⟨⟨h1, h2⟩, h3⟩, h4⟩ := h
  rw [text_iff]
  refine ⟨h1, by omega, fun e => ?_, fun e => ?_, fun x hx => (word_plain x (h4 x hx)).1⟩
  · exact (word_plain 32 (h4 32 (List.mem_of_mem_head? e))).2 rfl
  · exact (word_plain 32 (h4 32 (List.mem_of_mem_getLast? e))).2 rfl
end Go.Proofs.YtlcbhiokpjnoeaaDoor.Pure
