/-
  The bytes of a label's set and the set of its bytes: there and back.
  Conditions: none.
-/
import Derived.Test.YtekodmnhheejkaaDoorForm
namespace Go.Proofs.YtekodmnhheejkaaDoor.BackPure
open Go.Proofs.YtekodmnhheejkaaDoor.Form

theorem step_bit (c : BitVec 64) (b : UInt8) (i : Nat) (hi : i < 64) : (Form.step c b).getLsbD i = if i < 8 then b.toNat.testBit i else c.getLsbD (i - 8) := by
  unfold Form.step
  rw [BitVec.getLsbD_or, BitVec.getLsbD_shiftLeft, BitVec.getLsbD_ofNat]
  by_cases h : i < 8
  · simp [h, hi]
  · have hb : b.toNat.testBit i = false := Nat.testBit_lt_two_pow (Nat.lt_of_lt_of_le b.toNat_lt (Nat.pow_le_pow_right (by omega) (by omega : 8 ≤ i)))
    simp [h, hi, hb]
/-- The bits of bytes, the first one uppermost. -/
def bitAt (t : List UInt8) (i : Nat) : Bool := (t.reverse.getD (i / 8) 0).toNat.testBit (i % 8)
theorem bitAt_snoc (t : List UInt8) (b : UInt8) (i : Nat) : bitAt (t ++ [b]) i = if i < 8 then b.toNat.testBit i else bitAt t (i - 8) := by
  unfold bitAt
  rw [List.reverse_append, List.reverse_singleton, List.singleton_append]
  by_cases h : i < 8
  · rw [if_pos h, Nat.div_eq_of_lt h, Nat.mod_eq_of_lt h]
    rfl
  · rw [if_neg h, show i / 8 = (i - 8) / 8 + 1 by omega, show i % 8 = (i - 8) % 8 by omega]
    rfl
theorem val_bit_rev (r : List UInt8) : ∀ i, i < 64 → (val r.reverse).getLsbD i = bitAt r.reverse i := by
  induction r with
  | nil => intro i _; simp [val, bitAt]
  | cons b r ih =>
    intro i hi
    rw [List.reverse_cons]
    have e : val (r.reverse ++ [b]) = Form.step (val r.reverse) b := by simp [val]
    rw [e, step_bit _ _ _ hi, bitAt_snoc]
    split
    · rfl
    · exact ih _ (by omega)
theorem val_bit (t : List UInt8) (i : Nat) (hi : i < 64) : (val t).getLsbD i = bitAt t i := by
  have := val_bit_rev t.reverse i hi
  rwa [List.reverse_reverse] at this
theorem byteAt_bit (n i j : Nat) (hj : j < 8) : (byteAt n i).toNat.testBit j = n.testBit (8 * i + j) := by
  unfold byteAt
  rw [UInt8.toNat_ofNat', show (2 ^ 8 : Nat) = 2 ^ 8 from rfl, Nat.testBit_mod_two_pow, Nat.testBit_div_two_pow]
  simp [hj, Nat.add_comm]
theorem be_bit (n i : Nat) (hi : i < 64) : bitAt (be 8 n) i = n.testBit i := by
  unfold bitAt be
  rw [← List.map_reverse, List.getD_eq_getElem?_getD, List.getElem?_map, List.getElem?_reverse (by simp; omega), List.length_range, List.getElem?_range (by omega)]
  simp only [Option.map_some, Option.getD_some]
  rw [byteAt_bit _ _ _ (Nat.mod_lt _ (by omega))]
  congr 1
  omega
/-- The number of the bytes of a number is that number. -/
theorem val_be (c : BitVec 64) : val (be 8 c.toNat) = c := by
  apply BitVec.eq_of_getLsbD_eq
  intro i hi
  rw [val_bit _ _ hi, be_bit _ _ hi]
  rfl
theorem bitAt_ext {t s : List UInt8} (hl : t.length = s.length) (h : ∀ i, i < 8 * t.length → bitAt t i = bitAt s i) : t = s := by
  have hr : t.reverse = s.reverse := by
    apply List.ext_getElem (by simp [hl])
    intro k h1 h2
    apply UInt8.toNat_inj.1
    apply Nat.eq_of_testBit_eq
    intro j
    by_cases hj : j < 8
    · have := h (8 * k + j) (by simp at h1; omega)
      unfold bitAt at this
      rw [show (8 * k + j) / 8 = k by omega, show (8 * k + j) % 8 = j by omega, List.getD_eq_getElem?_getD, List.getD_eq_getElem?_getD, List.getElem?_eq_getElem h1, List.getElem?_eq_getElem h2] at this
      exact this
    · rw [Nat.testBit_lt_two_pow (Nat.lt_of_lt_of_le (UInt8.toNat_lt _) (Nat.pow_le_pow_right (by omega) (by omega : 8 ≤ j))), Nat.testBit_lt_two_pow (Nat.lt_of_lt_of_le (UInt8.toNat_lt _) (Nat.pow_le_pow_right (by omega) (by omega : 8 ≤ j)))]
  simpa using congrArg List.reverse hr
/-- The bytes of the number of eight bytes are these. -/
theorem be_val (t : List UInt8) (h : t.length = 8) : be 8 (val t).toNat = t := by
  apply bitAt_ext (by simp [be, h])
  intro i hi
  have hi' : i < 64 := by simp [be] at hi; omega
  rw [be_bit _ _ hi', ← val_bit _ _ hi']
  rfl
end Go.Proofs.YtekodmnhheejkaaDoor.BackPure
