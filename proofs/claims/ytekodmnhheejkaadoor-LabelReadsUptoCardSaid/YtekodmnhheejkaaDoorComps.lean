/-
  The compartments of a set as a rising list; the lowest one, and what is left without it.
  Conditions: none.
-/
import Derived.Lib.TrailingZeros
namespace Go.Proofs.YtekodmnhheejkaaDoor.Comps
open Go

/-- The compartments, rising. -/
def comps (c : BitVec 64) : List (Fin 64) := (List.finRange 64).filter fun i => c.getLsbD i

theorem comps_zero : comps 0#64 = [] := by simp [comps]

theorem filter_step {l1 l2 : List (Fin 64)} {k : Fin 64} {p q : Fin 64 → Bool} (h1 : ∀ i ∈ l1, p i = false) (hk : p k = true) (q1 : ∀ i ∈ l1, q i = false) (qk : q k = false) (h2 : ∀ i ∈ l2, q i = p i) :
    (l1 ++ k :: l2).filter p = k :: (l1 ++ k :: l2).filter q := by
  have e1 : l1.filter p = [] := List.filter_eq_nil_iff.2 fun i hi => by simp [h1 i hi]
  have e2 : l1.filter q = [] := List.filter_eq_nil_iff.2 fun i hi => by simp [q1 i hi]
  have e3 : l2.filter q = l2.filter p := List.filter_congr h2
  rw [List.filter_append, List.filter_append, e1, e2, List.filter_cons, List.filter_cons, if_pos hk, if_neg (by simp [qk]), e3]
  rfl

theorem finRange_split (k : Fin 64) : ∃ l1 l2, List.finRange 64 = l1 ++ k :: l2 ∧ (∀ i ∈ l1, i.1 < k.1) ∧ ∀ i ∈ l2, k.1 < i.1 := by
  refine ⟨(List.finRange 64).take k.1, (List.finRange 64).drop (k.1 + 1), ?_, ?_, ?_⟩
  · have hl : k.1 < (List.finRange 64).length := by simp
    conv => lhs; rw [← List.take_append_drop k.1 (List.finRange 64)]
    rw [List.drop_eq_getElem_cons hl]
    simp
  · intro i hi
    obtain ⟨j, hj, rfl⟩ := List.getElem_of_mem hi
    simp at hj ⊢
    omega
  · intro i hi
    obtain ⟨j, hj, rfl⟩ := List.getElem_of_mem hi
    simp
    omega

theorem low_bits (k m i : Nat) : (2 ^ k * (2 * m + 1)).testBit i = (decide (i = k) || (decide (k < i) && m.testBit (i - k - 1))) := by
  rw [Nat.testBit_two_pow_mul]
  rcases Nat.lt_trichotomy i k with h | h | h
  · simp [Nat.not_le.2 h, Nat.ne_of_lt h, Nat.not_lt.2 (Nat.le_of_lt h)]
  · subst h
    simp
  · obtain ⟨j, rfl⟩ : ∃ j, i = k + 1 + j := ⟨i - k - 1, by omega⟩
    have e1 : k + 1 + j - k = j + 1 := by omega
    rw [e1, Nat.add_sub_cancel]
    simp [Nat.testBit_succ, Nat.add_comm 1, show k ≤ k + 1 + j by omega, show k < k + 1 + j by omega, show ¬ (k + 1 + j = k) by omega]
    congr 1
    omega

theorem pred_bits (k m i : Nat) : (2 ^ k * (2 * m + 1) - 1).testBit i = (decide (i < k) || (decide (k < i) && m.testBit (i - k - 1))) := by
  have e : 2 ^ k * (2 * m + 1) - 1 = 2 ^ k * (2 * m) + (2 ^ k - 1) := by
    have := Nat.two_pow_pos k
    rw [Nat.mul_add, Nat.mul_one]
    omega
  rw [e, Nat.testBit_two_pow_mul_add _ (by have := Nat.two_pow_pos k; omega)]
  rcases Nat.lt_trichotomy i k with h | h | h
  · simp [h, Nat.testBit_two_pow_sub_one]
  · subst h
    simp
  · obtain ⟨j, rfl⟩ : ∃ j, i = k + 1 + j := ⟨i - k - 1, by omega⟩
    have e1 : k + 1 + j - k = j + 1 := by omega
    rw [e1, Nat.add_sub_cancel]
    simp [Nat.testBit_succ, show ¬ (k + 1 + j < k) by omega, show k < k + 1 + j by omega]

/-- Without the lowest one. -/
def less (c : BitVec 64) : BitVec 64 := c &&& (c - 1#64)

theorem less_nat (c : BitVec 64) (h : c ≠ 0#64) : (less c).toNat = c.toNat &&& (c.toNat - 1) := by
  have h0 : c.toNat ≠ 0 := fun e => h (BitVec.eq_of_toNat_eq (by simpa using e))
  have := c.isLt
  unfold less
  rw [BitVec.toNat_and, BitVec.toNat_sub]
  congr 1
  simp
  omega

theorem comps_step (c : BitVec 64) (h : c ≠ 0#64) : ∃ hk : Lib.ctz 64 c.toNat < 64, comps c = ⟨Lib.ctz 64 c.toNat, hk⟩ :: comps (less c) := by
  have h0 : c.toNat ≠ 0 := fun e => h (BitVec.eq_of_toNat_eq (by simpa using e))
  have hc := c.isLt
  obtain ⟨m, hm, hlt⟩ := Lib.ctzFrom_spec 64 c.toNat (by omega) hc
  have hz : Lib.ctz 64 c.toNat = Lib.ctzFrom 64 c.toNat := by unfold Lib.ctz; rw [if_neg h0]
  refine ⟨by rw [hz]; exact hlt, ?_⟩
  generalize hk : Lib.ctz 64 c.toNat = k at *
  rw [← hz] at hm hlt
  obtain ⟨l1, l2, hl, a1, a2⟩ := finRange_split ⟨k, hlt⟩
  have pb : ∀ i : Nat, c.getLsbD i = (decide (i = k) || (decide (k < i) && m.testBit (i - k - 1))) := fun i => by
    show c.toNat.testBit i = _
    rw [hm, low_bits]
  have qb : ∀ i : Nat, (less c).getLsbD i = (decide (k < i) && m.testBit (i - k - 1)) := fun i => by
    show (less c).toNat.testBit i = _
    rw [less_nat c h, hm, Nat.testBit_and, low_bits, pred_bits]
    rcases Nat.lt_trichotomy i k with h | h | h
    · simp [Nat.ne_of_lt h, Nat.not_lt.2 (Nat.le_of_lt h)]
    · simp [h]
    · simp only [h, Nat.ne_of_gt h, decide_true, decide_false, Bool.true_and, Bool.false_or]
      cases m.testBit (i - k - 1) <;> simp
  unfold comps
  rw [hl]
  refine filter_step (fun i hi => ?_) ?_ (fun i hi => ?_) ?_ (fun i hi => ?_)
  · have := a1 i hi
    rw [pb]
    simp [Nat.ne_of_lt this, Nat.not_lt.2 (Nat.le_of_lt this)]
  · rw [pb]; simp
  · have := a1 i hi
    rw [qb]
    simp [Nat.not_lt.2 (Nat.le_of_lt this)]
  · rw [qb]; simp
  · have := a2 i hi
    rw [pb, qb]
    simp [this, Nat.ne_of_gt this]
end Go.Proofs.YtekodmnhheejkaaDoor.Comps
