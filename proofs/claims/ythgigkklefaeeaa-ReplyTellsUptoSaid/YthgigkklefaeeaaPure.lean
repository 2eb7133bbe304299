/-
  Bits of a check sum: a step of the register is linear and loses nothing, so whatever is turned within 32 bits side by side is noticed.
  Conditions: none beyond those that each lemma names.
-/
namespace Go.Proofs.Ythgigkklefaeeaa.SumPure
set_option maxRecDepth 100000
set_option maxRecDepth 100000
set_option maxRecDepth 100000

/-- What a step turns. -/
def poly : BitVec 32 := 0x82F63B78#32
/-- A step of the register. -/
def st (r : BitVec 32) : BitVec 32 := (r >>> 1) ^^^ (if r.getLsbD 0 then poly else 0#32)
/-- Steps. -/
def sts : Nat → BitVec 32 → BitVec 32
  | 0, r => r
  | n + 1, r => st (sts n r)
/-- A bit as a register. -/
def bit (b : Bool) : BitVec 32 := if b then 1#32 else 0#32
/-- A register behind bits. -/
def run (f : Nat → Bool) : Nat → BitVec 32 → BitVec 32
  | 0, r => r
  | n + 1, r => st (run f n r ^^^ bit (f n))
/-- Bits as a register. -/
def word (f : Nat → Bool) : Nat → BitVec 32
  | 0 => 0#32
  | n + 1 => word f n ^^^ (bit (f n) <<< n)

theorem st_xor (a b : BitVec 32) : st (a ^^^ b) = st a ^^^ st b := by
  unfold st
  rw [BitVec.ushiftRight_xor_distrib, BitVec.getLsbD_xor]
  cases a.getLsbD 0 <;> cases b.getLsbD 0 <;> simp
  · rw [BitVec.xor_assoc]
  · rw [BitVec.xor_assoc, BitVec.xor_assoc, BitVec.xor_comm (b >>> 1)]
  · rw [BitVec.xor_assoc, ← BitVec.xor_assoc poly, BitVec.xor_comm poly, BitVec.xor_assoc (b >>> 1)]
    simp
theorem st_zero : st 0#32 = 0#32 := by decide
theorem st_eq_zero {a : BitVec 32} (h : st a = 0#32) : a = 0#32 := by
  have hb : ∀ i, i < 32 → (st a).getLsbD i = false := by intro i _; rw [h]; simp
  unfold st at hb
  have h31 := hb 31 (by decide)
  have h0 : a.getLsbD 0 = false := by
    cases h0 : a.getLsbD 0 with
    | false => rfl
    | true =>
      rw [h0] at h31
      simp [poly] at h31
  apply BitVec.eq_of_getLsbD_eq
  intro i hi
  rcases Nat.eq_zero_or_pos i with rfl | hp
  · rw [h0]; simp
  · have := hb (i - 1) (by omega)
    rw [h0] at this
    simp at this
    rw [show 1 + (i - 1) = i by omega] at this
    simp [this]
theorem sts_xor (n : Nat) (a b : BitVec 32) : sts n (a ^^^ b) = sts n a ^^^ sts n b := by
  induction n with
  | zero => rfl
  | succ n ih => simp only [sts, ih, st_xor]
theorem sts_zero (n : Nat) : sts n 0#32 = 0#32 := by
  induction n with
  | zero => rfl
  | succ n ih => simp only [sts, ih, st_zero]
theorem sts_eq_zero (n : Nat) {a : BitVec 32} (h : sts n a = 0#32) : a = 0#32 := by
  induction n with
  | zero => exact h
  | succ n ih => exact ih (st_eq_zero h)
theorem sts_succ (n : Nat) (a : BitVec 32) : sts (n + 1) a = sts n (st a) := by
  induction n generalizing a with
  | zero => rfl
  | succ n ih => rw [sts, ih, ← sts]
theorem sts_add (n m : Nat) (a : BitVec 32) : sts (n + m) a = sts n (sts m a) := by
  induction n with
  | zero => rw [Nat.zero_add]; rfl
  | succ n ih => rw [Nat.succ_add_eq_add_succ, Nat.add_succ, sts, ih, ← sts]
theorem sts_bit : ∀ k : Fin 32, sts k.val (1#32 <<< k.val) = 1#32 := by decide +kernel
theorem sts_bit' {k : Nat} (hk : k < 32) (b : Bool) : sts k (bit b <<< k) = bit b := by
  cases b
  · simp [bit, sts_zero]
  · exact sts_bit ⟨k, hk⟩

/-- Up to 32 bits at once. -/
theorem run_word (f : Nat → Bool) (r : BitVec 32) : ∀ k, k ≤ 32 → run f k r = sts k (r ^^^ word f k)
  | 0, _ => by simp [run, sts, word]
  | k + 1, hk => by
    rw [run, run_word f r k (by omega), sts, word, ← BitVec.xor_assoc, sts_xor k (r ^^^ word f k), sts_bit' (by omega)]
theorem word_bit (f : Nat → Bool) (i : Nat) (hi : i < 32) : ∀ k, k ≤ 32 → (word f k).getLsbD i = (decide (i < k) && f i)
  | 0, _ => by simp [word]
  | k + 1, hk => by
    rw [word, BitVec.getLsbD_xor, word_bit f i hi k (by omega), BitVec.getLsbD_shiftLeft]
    by_cases h : i < k
    · simp [h, hi, show i < k + 1 by omega]
    · by_cases h2 : i = k
      · subst h2
        cases f i <;> simp [bit, hi]
      · have : i - k ≠ 0 := by omega
        cases f k <;> simp [bit, h, hi, show ¬ i < k + 1 by omega, this]
theorem run_xor (f g : Nat → Bool) (r s : BitVec 32) : ∀ n, run f n r ^^^ run g n s = run (fun p => f p ^^ g p) n (r ^^^ s)
  | 0 => rfl
  | n + 1 => by
    have e : bit (f n ^^ g n) = bit (f n) ^^^ bit (g n) := by cases f n <;> cases g n <;> rfl
    simp only [run, ← run_xor f g r s n, st_xor, e]
    ac_rfl
theorem run_add (f : Nat → Bool) (a : Nat) (r : BitVec 32) : ∀ n, run f (a + n) r = run (fun p => f (a + p)) n (run f a r)
  | 0 => rfl
  | n + 1 => by rw [← Nat.add_assoc, run, run, run_add f a r n]
theorem run_quiet (f : Nat → Bool) (r : BitVec 32) : ∀ n, (∀ p, p < n → f p = false) → run f n r = sts n r
  | 0, _ => rfl
  | n + 1, h => by
    rw [run, run_quiet f r n (fun p hp => h p (by omega)), h n (by omega), sts]
    simp [bit]
theorem run_congr (f g : Nat → Bool) (r : BitVec 32) : ∀ n, (∀ p, p < n → f p = g p) → run f n r = run g n r
  | 0, _ => rfl
  | n + 1, h => by rw [run, run, run_congr f g r n (fun p hp => h p (by omega)), h n (by omega)]

/-- A burst is noticed. -/
theorem burst (h : Nat → Bool) (N a : Nat) (hin : ∀ p, h p = true → a ≤ p ∧ p < a + 32) (hN : ∀ p, h p = true → p < N) (hz : run h N 0#32 = 0#32) : ∀ p, h p = false := by
  have far : run h (max N (a + 32)) 0#32 = 0#32 := by
    obtain ⟨m, hm⟩ : ∃ m, max N (a + 32) = N + m := ⟨max N (a + 32) - N, by omega⟩
    rw [hm, run_add, hz, run_quiet, sts_zero]
    intro p _
    cases hp : h (N + p) with
    | false => rfl
    | true => exact absurd (hN _ hp) (by omega)
  have near : run h (a + 32) 0#32 = 0#32 := by
    obtain ⟨m, hm⟩ : ∃ m, max N (a + 32) = (a + 32) + m := ⟨max N (a + 32) - (a + 32), by omega⟩
    rw [hm, run_add, run_quiet] at far
    · exact sts_eq_zero m far
    · intro p _
      cases hp : h (a + 32 + p) with
      | false => rfl
      | true => exact absurd (hin _ hp).2 (by omega)
  have first : run h a 0#32 = 0#32 := by
    rw [run_quiet, sts_zero]
    intro p hp
    cases hq : h p with
    | false => rfl
    | true => exact absurd (hin _ hq).1 (by omega)
  rw [run_add, first, run_word _ _ 32 (by omega)] at near
  have hw := sts_eq_zero 32 near
  rw [BitVec.zero_xor] at hw
  intro p
  cases hp : h p with
  | false => rfl
  | true =>
    have := hin p hp
    have hb := word_bit (fun p => h (a + p)) (p - a) (by omega) 32 (by omega)
    rw [hw] at hb
    simp [show p - a < 32 by omega, show a + (p - a) = p by omega, hp] at hb

/-- Where the lowest bits are nought, steps only go down. -/
theorem sts_down (n : Nat) (r : BitVec 32) (h : ∀ i, i < n → r.getLsbD i = false) : sts n r = r >>> n := by
  induction n with
  | zero => simp [sts]
  | succ n ih =>
    rw [sts, ih (fun i hi => h i (by omega)), st]
    have h0 : (r >>> n).getLsbD 0 = false := by
      rw [BitVec.getLsbD_ushiftRight]
      exact h n (by omega)
    rw [h0]
    simp [BitVec.shiftRight_add]

/-- The bits of bytes. -/
def bitsOf (l : List UInt8) (p : Nat) : Bool := (l.getD (p / 8) 0).toNat.testBit (p % 8)
/-- A register behind a byte. -/
def eat (r : BitVec 32) (x : UInt8) : BitVec 32 := sts 8 (r ^^^ BitVec.ofNat 32 x.toNat)
/-- A register behind bytes. -/
def over (r : BitVec 32) (l : List UInt8) : BitVec 32 := l.foldl eat r

theorem over_append (r : BitVec 32) (l m : List UInt8) : over r (l ++ m) = over (over r l) m := List.foldl_append
theorem word_byte (x : UInt8) : word (fun p => x.toNat.testBit (p % 8)) 8 = BitVec.ofNat 32 x.toNat := by
  apply BitVec.eq_of_getLsbD_eq
  intro i hi
  rw [word_bit _ _ hi 8 (by omega), BitVec.getLsbD_ofNat]
  by_cases h : i < 8
  · simp [h, hi, Nat.mod_eq_of_lt h]
  · have hx := x.toNat_lt
    have : x.toNat.testBit i = false := Nat.testBit_lt_two_pow (Nat.lt_of_lt_of_le hx (Nat.pow_le_pow_right (by omega) (by omega : 8 ≤ i)))
    simp [h, this]
theorem over_run (l : List UInt8) (r : BitVec 32) : over r l = run (bitsOf l) (8 * l.length) r := by
  induction l generalizing r with
  | nil => rfl
  | cons x l ih =>
    rw [show 8 * (x :: l).length = 8 + 8 * l.length by simp; omega, run_add, run_word _ _ 8 (by omega)]
    have e : word (bitsOf (x :: l)) 8 = BitVec.ofNat 32 x.toNat := by
      rw [← word_byte x]
      apply BitVec.eq_of_getLsbD_eq
      intro i hi
      rw [word_bit _ _ hi 8 (by omega), word_bit _ _ hi 8 (by omega)]
      by_cases h : i < 8
      · simp [bitsOf, h, Nat.div_eq_of_lt h]
      · simp [h]
    rw [e]
    show over (eat r x) l = _
    rw [ih]
    refine run_congr _ _ _ _ fun p _ => ?_
    simp [bitsOf, show (8 + p) / 8 = p / 8 + 1 by omega, Nat.add_mod_left]
theorem bits_eq {l m : List UInt8} (hlen : l.length = m.length) (h : ∀ p, bitsOf l p = bitsOf m p) : l = m := by
  apply List.ext_getElem hlen
  intro i h1 h2
  apply UInt8.toNat_inj.1
  apply Nat.eq_of_testBit_eq
  intro j
  by_cases hj : j < 8
  · have := h (8 * i + j)
    simpa [bitsOf, show (8 * i + j) / 8 = i by omega, show (8 * i + j) % 8 = j by omega, List.getD_eq_getElem?_getD, h1, h2] using this
  · have hx := l[i].toNat_lt
    have hy := m[i].toNat_lt
    rw [Nat.testBit_lt_two_pow (Nat.lt_of_lt_of_le hx (Nat.pow_le_pow_right (by omega) (by omega : 8 ≤ j))), Nat.testBit_lt_two_pow (Nat.lt_of_lt_of_le hy (Nat.pow_le_pow_right (by omega) (by omega : 8 ≤ j)))]

/-- The sum. -/
def sumOf (l : List UInt8) : BitVec 32 := ~~~ over (~~~ 0#32) l
def sumOn (was : BitVec 32) (l : List UInt8) : BitVec 32 := ~~~ over (~~~ was) l
theorem goes_on (l m : List UInt8) : sumOn (sumOf l) m = sumOf (l ++ m) := by
  rw [sumOn, sumOf, sumOf, over_append, BitVec.not_not]

/-- Whatever is turned within 32 bits side by side, the sum is another one. -/
theorem sum_burst (l m : List UInt8) (a : Nat) (hlen : l.length = m.length) (hin : ∀ p, bitsOf l p ≠ bitsOf m p → a ≤ p ∧ p < a + 32) : (sumOf l = sumOf m) ↔ l = m := by
  refine ⟨fun h => ?_, fun h => by rw [h]⟩
  have h1 : over (~~~ 0#32) l = over (~~~ 0#32) m := by
    have := congrArg (fun x => ~~~ x) h
    simpa [sumOf] using this
  rw [over_run, over_run, ← hlen] at h1
  have h2 := run_xor (bitsOf l) (bitsOf m) (~~~ 0#32) (~~~ 0#32) (8 * l.length)
  rw [h1, BitVec.xor_self, BitVec.xor_self] at h2
  have h3 := burst _ (8 * l.length) a (fun p hp => hin p (by intro e; rw [e] at hp; simp at hp)) (fun p hp => ?_) h2.symm
  · refine bits_eq hlen fun p => ?_
    have := h3 p
    revert this
    cases bitsOf l p <;> cases bitsOf m p <;> simp
  · refine Nat.lt_of_not_le fun hle => ?_
    have e1 : bitsOf l p = false := by simp [bitsOf, List.getD_eq_getElem?_getD, List.getElem?_eq_none (show l.length ≤ p / 8 by omega)]
    have e2 : bitsOf m p = false := by simp [bitsOf, List.getD_eq_getElem?_getD, List.getElem?_eq_none (show m.length ≤ p / 8 by omega)]
    rw [e1, e2] at hp
    simp at hp

/-- Of bytes of one length the sums of two, of both taken together, and of as many bytes 0, taken together, are 0. -/
theorem sum_even (l m b z : List UInt8) (h1 : l.length = m.length) (h2 : b.length = l.length) (h3 : z.length = l.length) (hb : ∀ p, bitsOf b p = (bitsOf l p ^^ bitsOf m p)) (hz : ∀ p, bitsOf z p = false) :
    sumOf l ^^^ sumOf m ^^^ sumOf b ^^^ sumOf z = 0#32 := by
  have e : ∀ x y : BitVec 32, ~~~ x ^^^ ~~~ y = x ^^^ y := by
    intro x y
    apply BitVec.eq_of_getLsbD_eq
    intro i hi
    simp [hi]
  rw [BitVec.xor_assoc]
  simp only [sumOf, e]
  rw [over_run, over_run, over_run, over_run, ← h1, h2, h3, run_xor, run_xor]
  rw [run_congr (fun p => bitsOf l p ^^ bitsOf m p) (fun p => bitsOf b p ^^ bitsOf z p) _ _ (fun p _ => by rw [hb, hz]; simp)]
  simp
end Go.Proofs.Ythgigkklefaeeaa.SumPure
