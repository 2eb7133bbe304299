/-
  Pure facts on letters: who has which, and how many there are.
  Conditions: those that each lemma names.
-/
import Derived.Test.YtcbaaeihppchiaaPF
namespace Go.Proofs.Ytcbaaeihppchiaa.PG
set_option maxRecDepth 100000
open Go Go.RowKit Go.Lib Go.Proofs.Ytcbaaeihppchiaa Go.Proofs.Ytcbaaeihppchiaa.Facts Go.Proofs.Ytcbaaeihppchiaa.Ints Go.Proofs.Ytcbaaeihppchiaa.PA Go.Proofs.Ytcbaaeihppchiaa.PB Go.Proofs.Ytcbaaeihppchiaa.Chars Go.Proofs.Ytcbaaeihppchiaa.PD Go.Proofs.Ytcbaaeihppchiaa.PE Go.Proofs.Ytcbaaeihppchiaa.PF Go.Proofs.Ytcbaaeihppchiaa.Bytes


theorem uptoG_count {α : Type} (z : α) (p : α → Bool) (l : List α) : ∀ k, k ≤ l.length → (uptoG z p l k).length = (l.take k).countP p
  | 0, _ => by simp [uptoG]
  | k + 1, h => by
    have ih := uptoG_count z p l k (by omega)
    have hx : l[k]? = some l[k] := List.getElem?_eq_getElem (by omega)
    rw [List.take_add_one, hx, List.countP_append, ← ih]
    cases hp : p l[k] with
    | true =>
      rw [uptoG_yes z p l k (by rw [hx]; exact hp)]
      simp [hp]
    | false =>
      rw [uptoG_no z p l k (by rw [hx]; exact hp)]
      simp [hp]
theorem uptoG_at {α : Type} (z : α) (p : α → Bool) (l : List α) (k i : Nat) (hi : i < (uptoG z p l k).length) : ∃ j : Nat, (uptoG z p l k)[i] = j ∧ j < k ∧ p (l[j]?.getD z) = true := by
  have hm := List.getElem_mem hi
  unfold uptoG at hm
  obtain ⟨j, hj, he⟩ := List.mem_map.1 hm
  rw [List.mem_filter, List.mem_range] at hj
  exact ⟨j, he.symm, hj.1, hj.2⟩
theorem uptoG_rise {α : Type} (z : α) (p : α → Bool) (l : List α) (k : Nat) : (uptoG z p l k).Pairwise (· < ·) := by
  unfold uptoG
  rw [List.pairwise_map]
  exact (List.pairwise_lt_range.filter _).imp fun h => by
    show (Int.ofNat _ : Int) < Int.ofNat _
    exact Int.ofNat_lt.2 h
theorem rise_at {a : List Int} (h : a.Pairwise (· < ·)) (i : Nat) (hi : i + 1 < a.length) : a[i] < a[i + 1] := (List.pairwise_iff_getElem.1 h) i (i + 1) (by omega) hi (by omega)

def cU (l : List Ml) (n : Nat) : Int := (l.countP fun x => x.used && (decide (0 ≤ x.to) && decide (x.to < (n : Int))) : Nat)
theorem cU_zero (l : List Ml) : cU l 0 = 0 := by
  unfold cU
  rw [List.countP_eq_zero.2]
  · rfl
  · intro x _
    simp only [Bool.and_eq_true, decide_eq_true_iff]
    omega
theorem cU_le (l : List Ml) (n : Nat) : 0 ≤ cU l n ∧ cU l n ≤ l.length := by
  have := List.countP_le_length (p := fun x : Ml => x.used && (decide (0 ≤ x.to) && decide (x.to < (n : Int)))) (l := l)
  unfold cU
  omega
theorem ofP_len (l : List Ml) (n : Int) : (ofP l n).length = l.countP fun x => x.used && decide (x.to = n) := by
  unfold ofP
  rw [uptoG_count _ _ _ _ (Nat.le_refl _), List.take_length]
theorem cU_step (l : List Ml) (n : Nat) : cU l n + ((ofP l n).length : Int) = cU l (n + 1) := by
  rw [ofP_len]
  unfold cU
  induction l with
  | nil => rfl
  | cons x r ih =>
    simp only [List.countP_cons]
    cases hu : x.used with
    | false => simpa using ih
    | true =>
      simp only [Bool.true_and]
      by_cases h1 : x.to = n
      · have e1 : (decide (0 ≤ x.to) && decide (x.to < (n : Int))) = false := by simp; omega
        have e2 : (decide (0 ≤ x.to) && decide (x.to < ((n + 1 : Nat) : Int))) = true := by simp; omega
        rw [e1, e2, decide_eq_true h1]
        simp only [Bool.false_eq_true, if_false, if_true]
        omega
      · rw [decide_eq_false h1]
        by_cases h2 : 0 ≤ x.to ∧ x.to < n
        · have e1 : (decide (0 ≤ x.to) && decide (x.to < (n : Int))) = true := by simp; omega
          have e2 : (decide (0 ≤ x.to) && decide (x.to < ((n + 1 : Nat) : Int))) = true := by simp; omega
          rw [e1, e2]
          simp only [Bool.false_eq_true, if_false, if_true]
          omega
        · have e1 : (decide (0 ≤ x.to) && decide (x.to < (n : Int))) = false := by
            rw [Bool.and_eq_false_iff, decide_eq_false_iff_not, decide_eq_false_iff_not]; omega
          have e2 : (decide (0 ≤ x.to) && decide (x.to < ((n + 1 : Nat) : Int))) = false := by
            rw [Bool.and_eq_false_iff, decide_eq_false_iff_not, decide_eq_false_iff_not]; omega
          rw [e1, e2]
          simp only [Bool.false_eq_true, if_false]
          omega
theorem okM_to {x : Ml} (h : okM x = true) (hu : x.used = true) : 0 ≤ x.to ∧ x.to < 128 := by
  unfold okM numM num at h
  rw [if_pos hu] at h
  simp only [Bool.and_eq_true, decide_eq_true_iff] at h
  omega
theorem cU_all {l : List Ml} (h : okMs l = true) : cU l 128 = (l.countP fun x => x.used : Nat) := by
  unfold cU
  congr 1
  apply List.countP_congr
  intro x hx
  have ho := List.all_eq_true.1 h x hx
  constructor
  · intro h2
    simp only [Bool.and_eq_true] at h2
    exact h2.1
  · intro hu
    have := okM_to ho hu
    simp only [Bool.and_eq_true, decide_eq_true_iff]
    exact ⟨hu, this.1, by omega⟩
theorem getP_yes {l : List Ml} {j : Nat} {n : Int} (hj : j < l.length) (hu : (em l j).used = true) (ht : (em l j).to = n) : getP l j n = (em l j, 0) := by
  unfold getP
  rw [hasG_in _ _ _ _ hj, show l[j]?.getD zml = em l j from rfl, hu, ht]
  simp
theorem getP_no {l : List Ml} {j : Nat} {n : Int} (hj : j < l.length) (ht : (em l j).to ≠ n) : getP l j n = (zml, 3) := by
  unfold getP
  rw [hasG_in _ _ _ _ hj, show l[j]?.getD zml = em l j from rfl, decide_eq_false ht]
  simp
theorem of_at (l : List Ml) (n : Int) (i : Nat) (hi : i < (ofP l n).length) : ∃ j : Nat, (ofP l n)[i] = j ∧ j < l.length ∧ (em l j).used = true ∧ (em l j).to = n := by
  obtain ⟨j, h1, h2, h3⟩ := uptoG_at _ _ _ _ _ hi
  rw [show l[j]?.getD zml = em l j from rfl] at h3
  simp only [Bool.and_eq_true, decide_eq_true_iff] at h3
  exact ⟨j, h1, h2, h3.1, h3.2⟩
theorem of_rise (l : List Ml) (n : Int) : (ofP l n).Pairwise (· < ·) := uptoG_rise _ _ _ _
def up1 (l : List Ml) (k : Nat) : Int := ((l.drop k).countP fun x => x.used : Nat)
theorem up1_zero (l : List Ml) : up1 l 0 = (l.countP fun x => x.used : Nat) := by unfold up1; rw [List.drop_zero]
theorem up1_all (l : List Ml) : up1 l l.length = 0 := by unfold up1; rw [List.drop_length]; rfl
theorem up1_step (l : List Ml) (k : Nat) (hk : k < l.length) : up1 l k = up1 l (k + 1) + if (em l k).used = true then 1 else 0 := by
  unfold up1
  have e : em l k = l[k] := by unfold em; rw [List.getElem?_eq_getElem hk]; rfl
  rw [List.drop_eq_getElem_cons hk, List.countP_cons, e]
  split
  all_goals simp
theorem up1_le (l : List Ml) (k : Nat) : 0 ≤ up1 l k ∧ up1 l k ≤ l.length := by
  have := List.countP_le_length (p := fun x : Ml => x.used) (l := l.drop k)
  rw [List.length_drop] at this
  unfold up1
  omega
end Go.Proofs.Ytcbaaeihppchiaa.PG
