/-
  Pure facts on trades: who has which, and how many there are.
  Conditions: those that each lemma names.
-/
import Derived.Test.YtcbaaeihppchiaaPR
namespace Go.Proofs.Ytcbaaeihppchiaa.PS
set_option maxRecDepth 100000
open Go Go.RowKit Go.Lib Go.Proofs.Ytcbaaeihppchiaa Go.Proofs.Ytcbaaeihppchiaa.Facts Go.Proofs.Ytcbaaeihppchiaa.Ints Go.Proofs.Ytcbaaeihppchiaa.PA Go.Proofs.Ytcbaaeihppchiaa.PB Go.Proofs.Ytcbaaeihppchiaa.PC Go.Proofs.Ytcbaaeihppchiaa.PG Go.Proofs.Ytcbaaeihppchiaa.PM Go.Proofs.Ytcbaaeihppchiaa.PN Go.Proofs.Ytcbaaeihppchiaa.PP Go.Proofs.Ytcbaaeihppchiaa.PQ Go.Proofs.Ytcbaaeihppchiaa.PR Go.Proofs.Ytcbaaeihppchiaa.Bytes


theorem okTs_at {l : List Tr} (h : okTs l = true) {x : Tr} (hx : x ∈ l) : okT x = true := List.all_eq_true.1 h x hx
theorem okT_who {x : Tr} (h : okT x = true) (hu : x.used = true) : 0 ≤ x.a ∧ x.a < 128 ∧ 0 ≤ x.b ∧ x.b < 128 ∧ x.a ≠ x.b := by
  unfold okT num at h
  rw [if_pos hu] at h
  simp only [Bool.and_eq_true, decide_eq_true_iff, Bool.not_eq_true', decide_eq_false_iff_not] at h
  obtain ⟨⟨⟨⟨⟨h1, h2⟩, h3⟩, _⟩, _⟩, _⟩ := h
  exact ⟨h1.1, by omega, h2.1, by omega, h3⟩
def inA (n : Nat) (x : Tr) : Bool := x.used && (decide (0 ≤ x.a) && decide (x.a < (n : Int)))
def inB (n : Nat) (x : Tr) : Bool := x.used && (decide (0 ≤ x.b) && decide (x.b < (n : Int)))
def cW (l : List Tr) (n : Nat) : Int := (l.countP (inA n) : Nat) + (l.countP (inB n) : Nat)
theorem cW_zero (l : List Tr) : cW l 0 = 0 := by
  unfold cW
  rw [List.countP_eq_zero.2, List.countP_eq_zero.2]
  · rfl
  · intro x _
    simp only [inB, Bool.and_eq_true, decide_eq_true_iff]
    omega
  · intro x _
    simp only [inA, Bool.and_eq_true, decide_eq_true_iff]
    omega
theorem cW_le (l : List Tr) (n : Nat) : 0 ≤ cW l n ∧ cW l n ≤ 2 * l.length := by
  have h1 := List.countP_le_length (p := inA n) (l := l)
  have h2 := List.countP_le_length (p := inB n) (l := l)
  unfold cW
  omega
theorem ofP_len (l : List Tr) (n : Int) : (ofP l n).length = l.countP (fun x : Tr => x.used && (decide (x.a = n) || decide (x.b = n))) := by
  unfold ofP
  rw [uptoG_count _ _ _ _ (Nat.le_refl _), List.take_length]
theorem one_step (x : Tr) (n : Nat) (h : x.used = true → x.a ≠ x.b) :
    ((if inA n x = true then 1 else 0 : Nat) + (if inB n x = true then 1 else 0 : Nat)) + (if (x.used && (decide (x.a = (n : Int)) || decide (x.b = (n : Int)))) = true then 1 else 0 : Nat) = (if inA (n + 1) x = true then 1 else 0 : Nat) + (if inB (n + 1) x = true then 1 else 0 : Nat) := by
  unfold inA inB
  cases hu : x.used with
  | false => simp
  | true =>
    have hab := h hu
    simp only [Bool.true_and, Bool.and_eq_true, Bool.or_eq_true, decide_eq_true_iff]
    by_cases h1 : x.a = n
    · by_cases h2 : x.b = n
      · omega
      · rw [if_neg (show ¬ (0 ≤ x.a ∧ x.a < n) by omega), if_pos (Or.inl h1), if_pos (show 0 ≤ x.a ∧ x.a < ((n + 1 : Nat) : Int) by omega)]
        by_cases h3 : 0 ≤ x.b ∧ x.b < n
        · rw [if_pos h3, if_pos (by omega)]
        · rw [if_neg h3, if_neg (by omega)]
    · by_cases h2 : x.b = n
      · rw [if_neg (show ¬ (0 ≤ x.b ∧ x.b < n) by omega), if_pos (Or.inr h2), if_pos (show 0 ≤ x.b ∧ x.b < ((n + 1 : Nat) : Int) by omega)]
        by_cases h3 : 0 ≤ x.a ∧ x.a < n
        · rw [if_pos h3, if_pos (by omega)]
        · rw [if_neg h3, if_neg (by omega)]
      · rw [if_neg (show ¬ (x.a = n ∨ x.b = n) by omega)]
        have e1 : (0 ≤ x.a ∧ x.a < (n : Int)) ↔ (0 ≤ x.a ∧ x.a < ((n + 1 : Nat) : Int)) := by omega
        have e2 : (0 ≤ x.b ∧ x.b < (n : Int)) ↔ (0 ≤ x.b ∧ x.b < ((n + 1 : Nat) : Int)) := by omega
        simp only [e1, e2, Nat.add_zero]
theorem cW_step {l : List Tr} (h : okTs l = true) (n : Nat) : cW l n + ((ofP l n).length : Int) = cW l (n + 1) := by
  rw [ofP_len]
  unfold cW
  have hh : ∀ x ∈ l, x.used = true → x.a ≠ x.b := fun x hx hu => (okT_who (okTs_at h hx) hu).2.2.2.2
  clear h
  induction l with
  | nil => rfl
  | cons x r ih =>
    have ih := ih fun y hy => hh y (List.mem_cons_of_mem _ hy)
    have h1 := one_step x n (hh x List.mem_cons_self)
    simp only [List.countP_cons]
    omega
theorem cW_all {l : List Tr} (h : okTs l = true) : cW l 128 = 2 * (l.countP fun x => x.used : Nat) := by
  unfold cW
  have e1 : l.countP (inA 128) = l.countP fun x => x.used := List.countP_congr fun x hx => by
    constructor
    · intro h2
      simp only [inA, Bool.and_eq_true] at h2
      exact h2.1
    · intro hu
      have := okT_who (okTs_at h hx) hu
      simp only [inA, Bool.and_eq_true, decide_eq_true_iff]
      exact ⟨hu, by omega, by omega⟩
  have e2 : l.countP (inB 128) = l.countP fun x => x.used := List.countP_congr fun x hx => by
    constructor
    · intro h2
      simp only [inB, Bool.and_eq_true] at h2
      exact h2.1
    · intro hu
      have := okT_who (okTs_at h hx) hu
      simp only [inB, Bool.and_eq_true, decide_eq_true_iff]
      exact ⟨hu, by omega, by omega⟩
  rw [e1, e2]
  omega
theorem has_yes {l : List Tr} {j : Nat} {n : Int} (hj : j < l.length) (hu : (et l j).used = true) (hw : (et l j).a = n ∨ (et l j).b = n) : hasG ztr (fun x : Tr => x.used && (decide (x.a = n) || decide (x.b = n))) l j = true := by
  rw [hasG_in _ _ _ _ hj, show l[j]?.getD ztr = et l j from rfl, hu]
  simpa using hw
theorem getP_yes {l : List Tr} {j : Nat} {n : Int} (hj : j < l.length) (hu : (et l j).used = true) (hw : (et l j).a = n ∨ (et l j).b = n) : getP l j n = (et l j, 0) := by
  unfold getP
  rw [has_yes hj hu hw]
  simp
theorem shutP_yes {l : List Tr} {j : Nat} {n : Int} (h : okTs l = true) (hj : j < l.length) (hu : (et l j).used = true) (hw : (et l j).a = n ∨ (et l j).b = n) : shutP l j n = (l.set j ztr, 0) := by
  unfold shutP
  rw [has_yes hj hu hw, if_neg (by rw [h]; decide)]
  simp
theorem of_at (l : List Tr) (n : Int) (i : Nat) (hi : i < (ofP l n).length) : ∃ j : Nat, (ofP l n)[i] = j ∧ j < l.length ∧ (et l j).used = true ∧ ((et l j).a = n ∨ (et l j).b = n) := by
  obtain ⟨j, h1, h2, h3⟩ := uptoG_at _ _ _ _ _ hi
  rw [show l[j]?.getD ztr = et l j from rfl] at h3
  simp only [Bool.and_eq_true, Bool.or_eq_true, decide_eq_true_iff] at h3
  exact ⟨j, h1, h2, h3.1, h3.2⟩
def up2 (l : List Tr) (k : Nat) : Int := 2 * ((l.drop k).countP fun x => x.used : Nat)
theorem up2_zero (l : List Tr) : up2 l 0 = 2 * (l.countP fun x => x.used : Nat) := by unfold up2; rw [List.drop_zero]
theorem up2_all (l : List Tr) : up2 l l.length = 0 := by unfold up2; rw [List.drop_length]; rfl
theorem up2_step (l : List Tr) (k : Nat) (hk : k < l.length) : up2 l k = up2 l (k + 1) + if (et l k).used = true then 2 else 0 := by
  unfold up2
  have e : et l k = l[k] := by unfold et; rw [List.getElem?_eq_getElem hk]; rfl
  rw [List.drop_eq_getElem_cons hk, List.countP_cons, e]
  split
  all_goals simp
  all_goals omega
theorem up2_le (l : List Tr) (k : Nat) : 0 ≤ up2 l k ∧ up2 l k ≤ 2 * l.length := by
  have := List.countP_le_length (p := fun x : Tr => x.used) (l := l.drop k)
  rw [List.length_drop] at this
  unfold up2
  omega
theorem et_set (l : List Tr) (k : Nat) (x : Tr) (j : Nat) (hk : k < l.length) : et (l.set k x) j = if j = k then x else et l j := by
  unfold et
  by_cases h : j = k
  · subst h
    rw [if_pos rfl, List.getElem?_set_self hk]
    rfl
  · rw [if_neg h, List.getElem?_set_ne (fun e => h e.symm)]
theorem w120 {a b : Int} (h : 0 ≤ a ∧ a ≤ 120) (h2 : 0 ≤ b ∧ b ≤ 60) : wrap64 (a + b) = a + b := by unfold wrap64; omega
theorem d120 {a : Int} (h : 0 ≤ a ∧ a ≤ 120) : wrap64 (a - 2) = a - 2 := by unfold wrap64; omega
end Go.Proofs.Ytcbaaeihppchiaa.PS
