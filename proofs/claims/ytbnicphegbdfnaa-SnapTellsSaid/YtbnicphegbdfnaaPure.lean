/-
  Bits of a check sum: a step of the register is linear and loses nothing, so whatever is turned within 32 bits side by side is noticed.
  Conditions: none beyond those that each lemma names.
-/
import Derived.Test.YtbnicphegbdfnaaProg
import Derived.Test.YtbnicphegbdfnaaBytes
import Derived.IntWalk
import Derived.Lib.SliceRun
import Derived.Lib.Walk
import Derived.LaidEqlPtr
namespace Go.Proofs.Ytbnicphegbdfnaa.SumPure
set_option maxRecDepth 100000
set_option maxRecDepth 100000
set_option maxRecDepth 100000

/-- What a step turns. -/
def poly : BitVec 32 := 0x82F63B78#32
/-- A step of the register. -/
def st (r : BitVec 32) : BitVec 32 := (r >>> 1) ^^^ (if r.getLsbD 0 then poly else 0#32)
/-- Steps. -/
def sts : Nat → BitVec 32 → BitVec 32
  | 0, r => r
  | n + 1, r => st (sts n r)
/-- A bit as a register. -/
def bit (b : Bool) : BitVec 32 := if b then 1#32 else 0#32
/-- A register behind bits. -/
def run (f : Nat → Bool) : Nat → BitVec 32 → BitVec 32
  | 0, r => r
  | n + 1, r => st (run f n r ^^^ bit (f n))
/-- Bits as a register. -/
def word (f : Nat → Bool) : Nat → BitVec 32
  | 0 => 0#32
  | n + 1 => word f n ^^^ (bit (f n) <<< n)

theorem st_xor (a b : BitVec 32) : st (a ^^^ b) = st a ^^^ st b := by
  unfold st
  rw [BitVec.ushiftRight_xor_distrib, BitVec.getLsbD_xor]
  cases a.getLsbD 0 <;> cases b.getLsbD 0 <;> simp
  · rw [BitVec.xor_assoc]
  · rw [BitVec.xor_assoc, BitVec.xor_assoc, BitVec.xor_comm (b >>> 1)]
  · rw [BitVec.xor_assoc, ← BitVec.xor_assoc poly, BitVec.xor_comm poly, BitVec.xor_assoc (b >>> 1)]
    simp
theorem st_zero : st 0#32 = 0#32 := by decide
theorem st_eq_zero {a : BitVec 32} (h : st a = 0#32) : a = 0#32 := by
  have hb : ∀ i, i < 32 → (st a).getLsbD i = false := by intro i _; rw [h]; simp
  unfold st at hb
  have h31 := hb 31 (by decide)
  have h0 : a.getLsbD 0 = false := by
    cases h0 : a.getLsbD 0 with
    | false => rfl
    | true =>
      rw [h0] at h31
      simp [poly] at h31
  apply BitVec.eq_of_getLsbD_eq
  intro i hi
  rcases Nat.eq_zero_or_pos i with rfl | hp
  · rw [h0]; simp
  · have := hb (i - 1) (by omega)
    rw [h0] at this
    simp at this
    rw [show 1 + (i - 1) = i by omega] at this
    simp [this]
theorem sts_xor (n : Nat) (a b : BitVec 32) : sts n (a ^^^ b) = sts n a ^^^ sts n b := by
  induction n with
  | zero => rfl
  | succ n ih => simp only [sts, ih, st_xor]
theorem sts_zero (n : Nat) : sts n 0#32 = 0#32 := by
  induction n with
  | zero => rfl
  | succ n ih => simp only [sts, ih, st_zero]
theorem sts_eq_zero (n : Nat) {a : BitVec 32} (h : sts n a = 0#32) : a = 0#32 := by
  induction n with
  | zero => exact h
  | succ n ih => exact ih (st_eq_zero h)
theorem sts_succ (n : Nat) (a : BitVec 32) : sts (n + 1) a = sts n (st a) := by
  induction n generalizing a with
  | zero => rfl
  | succ n ih => rw [sts, ih, ← sts]
theorem sts_add (n m : Nat) (a : BitVec 32) : sts (n + m) a = sts n (sts m a) := by
  induction n with
  | zero => rw [Nat.zero_add]; rfl
  | succ n ih => rw [Nat.succ_add_eq_add_succ, Nat.add_succ, sts, ih, ← sts]
theorem sts_bit : ∀ k : Fin 32, sts k.val (1#32 <<< k.val) = 1#32 := by decide +kernel
theorem sts_bit' {k : Nat} (hk : k < 32) (b : Bool) : sts k (bit b <<< k) = bit b := by
  cases b
  · simp [bit, sts_zero]
  · exact sts_bit ⟨k, hk⟩

/-- Up to 32 bits at once. -/
theorem run_word (f : Nat → Bool) (r : BitVec 32) : ∀ k, k ≤ 32 → run f k r = sts k (r ^^^ word f k)
  | 0, _ => by simp [run, sts, word]
  | k + 1, hk => by
    rw [run, run_word f r k (by omega), sts, word, ← BitVec.xor_assoc, sts_xor k (r ^^^ word f k), sts_bit' (by omega)]
theorem word_bit (f : Nat → Bool) (i : Nat) (hi : i < 32) : ∀ k, k ≤ 32 → (word f k).getLsbD i = (decide (i < k) && f i)
  | 0, _ => by simp [word]
  | k + 1, hk => by
    rw [word, BitVec.getLsbD_xor, word_bit f i hi k (by omega), BitVec.getLsbD_shiftLeft]
    by_cases h : i < k
    · simp [h, hi, show i < k + 1 by omega]
    · by_cases h2 : i = k
      · subst h2
        cases f i <;> simp [bit, hi]
      · have : i - k ≠ 0 := by omega
        cases f k <;> simp [bit, h, hi, show ¬ i < k + 1 by omega, this]
theorem run_xor (f g : Nat → Bool) (r s : BitVec 32) : ∀ n, run f n r ^^^ run g n s = run (fun p => f p ^^ g p) n (r ^^^ s)
  | 0 => rfl
  | n + 1 => by
    have e : bit (f n ^^ g n) = bit (f n) ^^^ bit (g n) := by cases f n <;> cases g n <;> rfl
    simp only [run, ← run_xor f g r s n, st_xor, e]
    ac_rfl
theorem run_add (f : Nat → Bool) (a : Nat) (r : BitVec 32) : ∀ n, run f (a + n) r = run (fun p => f (a + p)) n (run f a r)
  | 0 => rfl
  | n + 1 => by rw [← Nat.add_assoc, run, run, run_add f a r n]
theorem run_quiet (f : Nat → Bool) (r : BitVec 32) : ∀ n, (∀ p, p < n → f p = false) → run f n r = sts n r
  | 0, _ => rfl
  | n + 1, h => by
    rw [run, run_quiet f r n (fun p hp => h p (by omega)), h n (by omega), sts]
    simp [bit]
theorem run_congr (f g : Nat → Bool) (r : BitVec 32) : ∀ n, (∀ p, p < n → f p = g p) → run f n r = run g n r
  | 0, _ => rfl
  | n + 1, h => by rw [run, run, run_congr f g r n (fun p hp => h p (by omega)), h n (by omega)]

/-- A burst is noticed. -/
theorem burst (h : Nat → Bool) (N a : Nat) (hin : ∀ p, h p = true → a ≤ p ∧ p < a + 32) (hN : ∀ p, h p = true → p < N) (hz : run h N 0#32 = 0#32) : ∀ p, h p = false := by
  have far : run h (max N (a + 32)) 0#32 = 0#32 := by
    obtain ⟨m, hm⟩ : ∃ m, max N (a + 32) = N + m := ⟨max N (a + 32) - N, by omega⟩
    rw [hm, run_add, hz, run_quiet, sts_zero]
    intro p _
    cases hp : h (N + p) with
    | false => rfl
    | true => exact absurd (hN _ hp) (by omega)
  have near : run h (a + 32) 0#32 = 0#32 := by
    obtain ⟨m, hm⟩ : ∃ m, max N (a + 32) = (a + 32) + m := ⟨max N (a + 32) - (a + 32), by omega⟩
    rw [hm, run_add, run_quiet] at far
    · exact sts_eq_zero m far
    · intro p _
      cases hp : h (a + 32 + p) with
      | false => rfl
      | true => exact absurd (hin _ hp).2 (by omega)
  have first : run h a 0#32 = 0#32 := by
    rw [run_quiet, sts_zero]
    intro p hp
    cases hq : h p with
    | false => rfl
    | true => exact absurd (hin _ hq).1 (by omega)
  rw [run_add, first, run_word _ _ 32 (by omega)] at near
  have hw := sts_eq_zero 32 near
  rw [BitVec.zero_xor] at hw
  intro p
  cases hp : h p with
  | false => rfl
  | true =>
    have := hin p hp
    have hb := word_bit (fun p => h (a + p)) (p - a) (by omega) 32 (by omega)
    rw [hw] at hb
    simp [show p - a < 32 by omega, show a + (p - a) = p by omega, hp] at hb

/-- Where the lowest bits are nought, steps only go down. -/
theorem sts_down (n : Nat) (r : BitVec 32) (h : ∀ i, i < n → r.getLsbD i = false) : sts n r = r >>> n := by
  induction n with
  | zero => simp [sts]
  | succ n ih =>
    rw [sts, ih (fun i hi => h i (by omega)), st]
    have h0 : (r >>> n).getLsbD 0 = false := by
      rw [BitVec.getLsbD_ushiftRight]
      exact h n (by omega)
    rw [h0]
    simp [BitVec.shiftRight_add]

/-- The bits of bytes. -/
def bitsOf (l : List UInt8) (p : Nat) : Bool := (l.getD (p / 8) 0).toNat.testBit (p % 8)
/-- A register behind a byte. -/
def eat (r : BitVec 32) (x : UInt8) : BitVec 32 := sts 8 (r ^^^ BitVec.ofNat 32 x.toNat)
/-- A register behind bytes. -/
def over (r : BitVec 32) (l : List UInt8) : BitVec 32 := l.foldl eat r

theorem over_append (r : BitVec 32) (l m : List UInt8) : over r (l ++ m) = over (over r l) m := List.foldl_append
theorem word_byte (x : UInt8) : word (fun p => x.toNat.testBit (p % 8)) 8 = BitVec.ofNat 32 x.toNat := by
  apply BitVec.eq_of_getLsbD_eq
  intro i hi
  rw [word_bit _ _ hi 8 (by omega), BitVec.getLsbD_ofNat]
  by_cases h : i < 8
  · simp [h, hi, Nat.mod_eq_of_lt h]
  · have hx := x.toNat_lt
    have : x.toNat.testBit i = false := Nat.testBit_lt_two_pow (Nat.lt_of_lt_of_le hx (Nat.pow_le_pow_right (by omega) (by omega : 8 ≤ i)))
    simp [h, this]
theorem over_run (l : List UInt8) (r : BitVec 32) : over r l = run (bitsOf l) (8 * l.length) r := by
  induction l generalizing r with
  | nil => rfl
  | cons x l ih =>
    rw [show 8 * (x :: l).length = 8 + 8 * l.length by simp; omega, run_add, run_word _ _ 8 (by omega)]
    have e : word (bitsOf (x :: l)) 8 = BitVec.ofNat 32 x.toNat := by
      rw [← word_byte x]
      apply BitVec.eq_of_getLsbD_eq
      intro i hi
      rw [word_bit _ _ hi 8 (by omega), word_bit _ _ hi 8 (by omega)]
      by_cases h : i < 8
      · simp [bitsOf, h, Nat.div_eq_of_lt h]
      · simp [h]
    rw [e]
    show over (eat r x) l = _
    rw [ih]
    refine run_congr _ _ _ _ fun p _ => ?_
    simp [bitsOf, show (8 + p) / 8 = p / 8 + 1 by omega, Nat.add_mod_left]
theorem bits_eq {l m : List UInt8} (hlen : l.length = m.length) (h : ∀ p, bitsOf l p = bitsOf m p) : l = m := by
  apply List.ext_getElem hlen
  intro i h1 h2
  apply UInt8.toNat_inj.1
  apply Nat.eq_of_testBit_eq
  intro j
  by_cases hj : j < 8
  · have := h (8 * i + j)
    simpa [bitsOf, show (8 * i + j) / 8 = i by omega, show (8 * i + j) % 8 = j by omega, List.getD_eq_getElem?_getD, h1, h2] using this
  · have hx := l[i].toNat_lt
    have hy := m[i].toNat_lt
    rw [Nat.testBit_lt_two_pow (Nat.lt_of_lt_of_le hx (Nat.pow_le_pow_right (by omega) (by omega : 8 ≤ j))), Nat.testBit_lt_two_pow (Nat.lt_of_lt_of_le hy (Nat.pow_le_pow_right (by omega) (by omega : 8 ≤ j)))]

/-- The sum. -/
def sumOf (l : List UInt8) : BitVec 32 := ~~~ over (~~~ 0#32) l
def sumOn (was : BitVec 32) (l : List UInt8) : BitVec 32 := ~~~ over (~~~ was) l
theorem goes_on (l m : List UInt8) : sumOn (sumOf l) m = sumOf (l ++ m) := by
  rw [sumOn, sumOf, sumOf, over_append, BitVec.not_not]

/-- Whatever is turned within 32 bits side by side, the sum is another one. -/
theorem sum_burst (l m : List UInt8) (a : Nat) (hlen : l.length = m.length) (hin : ∀ p, bitsOf l p ≠ bitsOf m p → a ≤ p ∧ p < a + 32) : (sumOf l = sumOf m) ↔ l = m := by
  refine ⟨fun h => ?_, fun h => by rw [h]⟩
  have h1 : over (~~~ 0#32) l = over (~~~ 0#32) m := by
    have := congrArg (fun x => ~~~ x) h
    simpa [sumOf] using this
  rw [over_run, over_run, ← hlen] at h1
  have h2 := run_xor (bitsOf l) (bitsOf m) (~~~ 0#32) (~~~ 0#32) (8 * l.length)
  rw [h1, BitVec.xor_self, BitVec.xor_self] at h2
  have h3 := burst _ (8 * l.length) a (fun p hp => hin p (by intro e; rw [e] at hp; simp at hp)) (fun p hp => ?_) h2.symm
  · refine bits_eq hlen fun p => ?_
    have := h3 p
    revert this
    cases bitsOf l p <;> cases bitsOf m p <;> simp
  · refine Nat.lt_of_not_le fun hle => ?_
    have e1 : bitsOf l p = false := by simp [bitsOf, List.getD_eq_getElem?_getD, List.getElem?_eq_none (show l.length ≤ p / 8 by omega)]
    have e2 : bitsOf m p = false := by simp [bitsOf, List.getD_eq_getElem?_getD, List.getElem?_eq_none (show m.length ≤ p / 8 by omega)]
    rw [e1, e2] at hp
    simp at hp

/-- Of bytes of one length the sums of two, of both taken together, and of as many bytes 0, taken together, are 0. -/
theorem sum_even (l m b z : List UInt8) (h1 : l.length = m.length) (h2 : b.length = l.length) (h3 : z.length = l.length) (hb : ∀ p, bitsOf b p = (bitsOf l p ^^ bitsOf m p)) (hz : ∀ p, bitsOf z p = false) :
    sumOf l ^^^ sumOf m ^^^ sumOf b ^^^ sumOf z = 0#32 := by
  have e : ∀ x y : BitVec 32, ~~~ x ^^^ ~~~ y = x ^^^ y := by
    intro x y
    apply BitVec.eq_of_getLsbD_eq
    intro i hi
    simp [hi]
  rw [BitVec.xor_assoc]
  simp only [sumOf, e]
  rw [over_run, over_run, over_run, over_run, ← h1, h2, h3, run_xor, run_xor]
  rw [run_congr (fun p => bitsOf l p ^^ bitsOf m p) (fun p => bitsOf b p ^^ bitsOf z p) _ _ (fun p _ => by rw [hb, hz]; simp)]
  simp
end Go.Proofs.Ytbnicphegbdfnaa.SumPure
namespace Go.Proofs.Ytbnicphegbdfnaa.Puts
set_option maxRecDepth 100000
set_option maxRecDepth 100000
set_option maxRecDepth 100000
set_option maxRecDepth 100000
open Go Go.RowKit Go.Proofs.Ytbnicphegbdfnaa Go.Proofs.Ytbnicphegbdfnaa.Facts Go.Proofs.Ytbnicphegbdfnaa.Bytes

theorem ret_int {k : IntKind} {a b : Int} (h : a = b) : Ending.returned (.int k a) = .returned (.int k b) := by rw [h]

/-- The size that counts. -/
def width (n : Int) : Nat := (max 1 (min n 8)).toNat
theorem width_pos (n : Int) : 1 ≤ width n ∧ width n ≤ 8 := by unfold width; omega

theorem width_any (n : Int) (w : World) : Calls Try.prog 103 #[.int .i64 n] w fun e w' => e = .returned (.int .i64 (width n : Int)) ∧ w = w' := by
  go_enter Try.func103, Try.ntmps103
  go_wp2
  all_goals
    go_ret
    exact ⟨ret_int (by unfold width; omega), rfl⟩

theorem width_at (n : Int) (K : Nat) (h : Hid (width n = K)) (w : World) : Calls Try.prog 103 #[.int .i64 n] w fun e w' => e = .returned (.int .i64 (K : Int)) ∧ w = w' := by
  have := h.out
  subst this
  exact width_any n w

theorem size_any (n : Int) (w : World) : Calls Try.prog 121 #[.int .i64 n] w fun e w' => e = .returned (.int .i64 (width n : Int)) ∧ w = w' := by
  go_enter Try.func121, Try.ntmps121
  go_wp2
  all_goals
    go_ret
    exact ⟨ret_int (by unfold width; omega), rfl⟩

theorem info5 : (Try.prog.info? 5).map (fun i => (i.zero, i.size, i.bytes)) = some (some (.int .u8 0), 1, 1) := by kernel_rfl

theorem eqlNil (w : World) (a : Option Addr) (n c n' c' : Nat) : (binOp .eql 23 (.slice a n c) (.slice none n' c')).run Try.prog w = .ok (.bool a.isNone) w :=
  Lib.run_eql_slice_nil w _ _ a n c n' c' Try.underlying23

theorem cells_alloc {w : World} {a : Addr} {l : List Value} (h : ∀ j u, l[j]? = some u → w.cell? (a.add j) = some u) (o : Obj) : ∀ j u, l[j]? = some u → (w.alloc o).cell? (a.add j) = some u :=
  fun j u hu => Lib.cell?_alloc_some _ (h j u hu)

/-- bytes.Clone. -/
theorem clone_any (S : Nat → Prop) (v : Value) (l : List UInt8) (w : World) (h : Rd S w v l) (hl : l.length ≤ 140737488355328) :
    Calls Try.prog 106 #[v] w fun e w' => ∃ v', e = .returned v' ∧ Rd (fun b => w.heap.size ≤ b) w' v' l ∧ Grew w w' := by
  obtain ⟨A, c, rfl, h1, h2, h3, h4⟩ := h
  have q22 := eqlNil
  cases A with
  | none =>
    have hc := h3 rfl
    have : l = [] := List.eq_nil_of_length_eq_zero (by omega)
    subst this
    subst hc
    go_enter Try.func106, Try.ntmps106
    go_wp2
    go_ret
    exact ⟨_, rfl, Rd.nil _ _, Grew.refl _⟩
  | some a =>
    obtain ⟨i0, hi, hz0, hz1, hz2⟩ := info_parts info5
    have H := Lib.hid (cells_alloc (h4 a rfl).2 (.cells #[] 5))
    clear h4 h3
    go_enter Try.func106, Try.ntmps106
    go_wp2_with (at_builtin; refine wpList_append_own _ rfl _ _ 23 rfl w.heap.size 5 i0 (.int .u8 0) 1 1 Try.underlying23 hi hz0 hz1 hz2 rfl (by decide) _ _ _ rfl (World.ownsRow_made w #[] 0 (Nat.le_refl _) (Nat.zero_le _) rfl) a l.length c (bv l) rfl ?qc1 ?qc2 ?qc3 ?qc4 ?qc5 ?qc6 ?_)
    case qc1 => simp [bv_length]
    case qc2 => exact H.out
    case qc3 => exact bv_one l
    case qc4 => unfold maxLen; omega
    case qc5 => omega
    case qc6 => simp
    intro v' w1 hown hgrow _
    go_wp2
    go_ret
    refine ⟨v', rfl, ?_, ?_⟩
    · exact (Rd.of_own (by simpa using hown) (by simp)).mono fun b hb => hb.1
    · exact ((Below.refl _ w).alloc (Nat.le_refl _) _).grown hgrow (by simp) (by intro k hk; simp [Value.ownBlock] at hk; omega)

/-- One byte of a number. -/
def byteAt (n i : Nat) : UInt8 := UInt8.ofNat (n / 2 ^ (8 * i))
theorem byteAt_toNat (n i : Nat) : ((byteAt n i).toNat : Int) = (n : Int) / 2 ^ (8 * i) % 256 := by
  simp [byteAt]

theorem rdy_alloc {w : World} {base : Nat} {e : TypeId} {v : Value} {l : List Value} (h : Rdy w base e v l) (o : Obj) : Rdy (w.alloc o) base e v l := by
  rcases h with h | ⟨A, h1, h2, h3⟩
  · exact .inl (h.alloc o)
  · exact .inr ⟨A, h1, h2, fun b hb => cells_alloc (h3 b hb) o⟩
/-- A number in k bytes, the greatest ahead. -/
def be (k n : Nat) : List UInt8 := (List.range k).map fun j => byteAt n (k - 1 - j)
theorem be_length (k n : Nat) : (be k n).length = k := by simp [be]
theorem be_take (k n r : Nat) (h : r < k) : (be k n).take (r + 1) = (be k n).take r ++ [byteAt n (k - 1 - r)] := by
  rw [List.take_succ_eq_append_getElem (by simpa [be_length] using h)]
  simp [be]

theorem num_any (S : Nat → Prop) (v : Value) (l : List UInt8) (n : Nat) (size : Int) (w : World) (h : Rd S w v l) (hl : l.length + 8 ≤ 140737488355328) :
    Calls Try.prog 54 #[v, .int .u64 n, .int .i64 size] w fun e w' => ∃ v', e = .returned v' ∧ w'.ownsRow w.heap.size 5 1 v' (l.length + width size) (bv (l ++ be (width size) n)) ∧ Grew w w' := by
  have hw := width_pos size
  generalize hK : width size = K at *
  have HK := Lib.hid hK
  clear hK
  obtain ⟨A, c, rfl, h1, h2, h3, h4⟩ := id h
  go_enter Try.func54, Try.ntmps54
  go_wp2_with (go_at_call 103; refine (width_at _ _ HK _).mono ?_; rintro e w' ⟨rfl, rfl⟩)
  have hR : Rdy w w.heap.size 5 (.slice A l.length l.length) (bv l) := h.rdy w w.heap.size 5
  have HR := Lib.hid hR
  clear hR h4 h3 h
  obtain ⟨i0, hi, hz0, hz1, hz2⟩ := info_parts info5
  go_loopw [7, 8] (fun out i wr => ∃ r q : Nat, r + q = K ∧ i = .int .i64 ((q : Int) - 1) ∧ Rdy wr w.heap.size 5 out (bv (l ++ (be K n).take r)) ∧ (0 < r → wr.ownsRow w.heap.size 5 1 out (bv (l ++ (be K n).take r)).length (bv (l ++ (be K n).take r))) ∧ Below w.heap.size w wr) (fun _ i _ => (intOf i + 1).toNat)
  case atStart => exact ⟨0, K, by omega, rfl, by simpa using HR.out, fun h => absurd h (Nat.lt_irrefl 0), Below.refl _ _⟩
  case round =>
    obtain ⟨r, q, hrq, rfl, hrdy, hown0, hb⟩ := hrel
    have hlen : (bv (l ++ (be K n).take r)).length ≤ l.length + r := by
      rw [bv_length, List.length_append, List.length_take, be_length]; omega
    cases q with
    | zero =>
      have hrK : r = K := by omega
      have HK := Lib.hid hrK
      have hown := hown0 (by omega)
      clear hrK hrq hrdy hown0
      go_wp2
      go_ret
      have hrK := HK.out
      subst hrK
      rw [List.take_of_length_le (by rw [be_length]; exact Nat.le_refl _)] at hown
      exact ⟨_, rfl, by simpa [bv_length, be_length] using hown, hb⟩
    | succ q =>
      have e : (((q + 1 : Nat) : Int) - 1) = (q : Int) := by omega
      rw [e]
      clear e
      have hq : q ≤ 7 := by omega
      have hr7 : r ≤ 7 := by omega
      clear hown0
      have hbt := be_take K n r (by omega)
      rw [show K - 1 - r = q from by omega] at hbt
      have HB := Lib.hid hbt
      have HQ := Lib.hid hrq
      clear hbt hrq
      have hsz := hb.size
      go_wp2_with (at_builtin; refine wpList_append_rdy _ rfl (.tmp 22) (.tmp 28) 23 rfl w.heap.size 5 i0 _ 1 Try.underlying23 hi hz0 hz1 hz2 rfl u7 (bv (l ++ (be K n).take r)) rfl (rdy_alloc hrdy _) ⟨wr.heap.size, 0, none⟩ 1 1 [.int .u8 ((n : Int) / 2 ^ (8 * q) % 256)] rfl rfl (by simp) (cell_one_new _ _ _) ?c2 ?c3 ?c4 ?c5 ?_)
      case c2 => simp [Value.oneCell']
      case c3 => simp only [maxLen, List.length_singleton]; omega
      case c4 => simp only [List.length_singleton]; omega
      case c5 => simp; omega
      intro v' w1 hown hbel
      have hb1 := (hb.alloc hb.size (.cells #[.int .u8 ((n : Int) / 2 ^ (8 * q) % 256)] 5)).trans hbel
      have hown1 : w1.ownsRow w.heap.size 5 1 v' (bv (l ++ (be K n).take (r + 1))).length (bv (l ++ (be K n).take (r + 1))) := by
        rw [HB.out, ← List.append_assoc, bv_append]
        have : bv [byteAt n q] = [.int .u8 ((n : Int) / 2 ^ (8 * q) % 256)] := by simp [bv, byteAt_toNat]
        rw [this, List.length_append, List.length_singleton]
        exact hown
      clear hown hbel hrdy
      go_wp2
      go_roundw
      case rel => exact ⟨r + 1, q, by have := HQ.out; omega, by go_num, .inl hown1, fun _ => hown1, hb1⟩
      case measure => simp [intOf]

theorem ofNat_small (m : Nat) (h : m ≤ 255) : ((UInt8.ofNat m).toNat : Int) = (m : Int) := by
  simp only [UInt8.toNat_ofNat']; omega

end Go.Proofs.Ytbnicphegbdfnaa.Puts
namespace Go.Proofs.Ytbnicphegbdfnaa.Refs
set_option maxRecDepth 100000
set_option maxRecDepth 100000
set_option maxRecDepth 100000
set_option maxRecDepth 100000
open Go Go.RowKit Go.Proofs.Ytbnicphegbdfnaa Go.Proofs.Ytbnicphegbdfnaa.Facts Go.Proofs.Ytbnicphegbdfnaa.Bytes Go.Proofs.Ytbnicphegbdfnaa.Puts

theorem size_at (n : Int) (K : Nat) (h : Hid (width n = K)) (w : World) : Calls Try.prog 121 #[.int .i64 n] w fun e w' => e = .returned (.int .i64 (K : Int)) ∧ w = w' := by
  have := h.out
  subst this
  exact size_any n w

/-- The bytes that stand behind while the last ones are laid. -/
def part (K n q : Nat) : List UInt8 := List.replicate q 0 ++ (be K n).drop q
theorem part_length (K n q : Nat) (h : q ≤ K) : (part K n q).length = K := by simp [part, be_length]; omega
theorem part_full (K n : Nat) : part K n 0 = be K n := by simp [part]
theorem part_start (K n : Nat) : part K n K = List.replicate K 0 := by
  unfold part
  rw [List.drop_of_length_le (by rw [be_length]; exact Nat.le_refl _), List.append_nil]
theorem part_set (K n q : Nat) (h : q < K) : (part K n (q + 1)).set q (byteAt n (K - 1 - q)) = part K n q := by
  unfold part
  have hd : (be K n).drop q = byteAt n (K - 1 - q) :: (be K n).drop (q + 1) := by
    rw [List.drop_eq_getElem_cons (by rw [be_length]; exact h)]
    simp [be]
  rw [hd, List.replicate_succ', List.append_assoc, List.set_append_right _ _ (by simp)]
  simp

theorem bv_set (l : List UInt8) (i : Nat) (b : UInt8) : (bv l).set i (.int .u8 (b.toNat : Int)) = bv (l.set i b) := by simp [bv, List.map_set]

theorem size5 : (Try.prog.info? 5).map (·.size) = some 1 := by kernel_rfl
theorem made_cells (n : Nat) : madeCells #[.int .u8 0] n = (bv (List.replicate n 0)).toArray := by
  apply Array.ext'
  rw [toList_madeCells_one]
  simp [bv]
theorem splice_start (l : List UInt8) (K n : Nat) : splice (bv (List.replicate (l.length + K) 0)) 0 (bv l) = bv (l ++ part K n K) := by
  rw [part_start, bv_append]
  simp [splice, bv]

theorem u64_small (m : Nat) (h : m < 18446744073709551616) : IntKind.u64.wrap (m : Int) = (m : Int) := by
  exact IntWalk.u64_in _ (by omega)

theorem num_any (S : Nat → Prop) (v : Value) (l : List UInt8) (n : Nat) (size : Int) (w : World) (h : Rd S w v l) (hl : l.length + 8 ≤ 140737488355328) (hn : n < 18446744073709551616) :
    Calls Try.prog 112 #[v, .int .u64 n, .int .i64 size] w fun e w' => ∃ v', e = .returned v' ∧ w'.ownsRow w.heap.size 5 1 v' (l.length + width size) (bv (l ++ be (width size) n)) ∧ Grew w w' := by
  have hw := width_pos size
  generalize hK : width size = K at *
  have HK := Lib.hid hK
  clear hK
  obtain ⟨A, c, rfl, h1, h2, h3, h4⟩ := id h
  clear h
  unfold maxLen at h2
  obtain ⟨i0, hi, hz0, hz1, hz2⟩ := info_parts info5
  have hmk : ∀ u : World, (Instr.makeSlice 23 (.int .i64 ((l.length : Int) + K)) (.int .i64 ((l.length : Int) + K))).run Try.prog u =
      .ok (.slice (some ⟨u.heap.size, 0, none⟩) (l.length + K) (l.length + K)) (u.alloc (.cells (madeCells #[.int .u8 0] (l.length + K)) 5)) := fun u => by
    have h := run_make (P := Try.prog) u 23 5 i0 (.int .u8 0) Try.underlying23 hi hz0 .i64 .i64 ((l.length : Int) + K) ((l.length : Int) + K) (by omega) (Int.le_refl _) (by rw [hz2]; omega) (by omega)
    have e : ((l.length : Int) + K).toNat = l.length + K := by omega
    rw [e] at h
    simpa [hz1, Value.cells] using h
  have H4 := Lib.hid h4
  have Hn := Lib.hid hn
  clear h4 hn
  go_enter Try.func112, Try.ntmps112
  go_wp2_with (first
    | (go_at_call 121; refine (size_at _ _ HK _).mono ?_; rintro e w' ⟨rfl, rfl⟩)
    | (with_reducible refine wpList_copy_splice rfl (.tmp 17) (.tmp 18) 23 23 rfl 5 Try.underlying23 size5 (some ⟨w.heap.size, 0, none⟩) A (l.length + K) (l.length + K) l.length c rfl rfl w.heap.size 0 (bv (List.replicate (l.length + K) 0)) 5 ?c0 (bv l) ?c1 ?c2 ?c3 (bv_one l) w.heap.size w ?c4 (Nat.le_refl _) ?_))
  case c0 => rw [heap_alloc_new, ← made_cells]
  case c1 => rw [bv_length]; exact (Nat.min_eq_left (by omega)).symm
  case c2 =>
    intro hp
    rw [bv_length] at hp
    cases A with
    | none => have := h3 rfl; omega
    | some ad => exact ⟨ad, rfl, cells_alloc (H4.out ad rfl).2 _⟩
  case c3 => simp [bv_length]
  case c4 => exact (Below.refl _ w).alloc (Nat.le_refl _) _
  intro w1 hw1 hb1
  rw [splice_start l K n] at hw1
  go_wp2
  go_loopw [1, 9] (fun nn i wr => ∃ q r : Nat, r + q = K ∧ i = .int .i64 ((l.length : Int) + q - 1) ∧ nn = .int .u64 ((n / 2 ^ (8 * r) : Nat) : Int) ∧
      Hid (wr.heap[w.heap.size]? = some (.cells (bv (l ++ part K n q)).toArray 5 (0, 0))) ∧ Below w.heap.size w wr) (fun _ i _ => (intOf i + 1 - l.length).toNat)
  case atStart => exact ⟨K, 0, by omega, rfl, by simp, hw1, hb1⟩
  case round =>
    obtain ⟨q, r, hrq, rfl, rfl, hblk, hb⟩ := hrel
    generalize hN : n / 2 ^ (8 * r) = N
    have HN := Lib.hid hN
    have HQ := Lib.hid hrq
    clear hN
    cases q with
    | zero =>
      clear hrq
      go_wp2
      go_ret
      refine ⟨_, rfl, ?_, hb⟩
      have hg := hblk.out
      rw [part_full] at hg
      refine ⟨by simp [bv_length, be_length], .inr ⟨w.heap.size, l.length + K, _, rfl, Nat.le_refl _, hg, Nat.le_refl _, by unfold maxLen; omega, by simp [bv_length, be_length], ?_⟩⟩
      exact List.take_of_length_le (by simp [bv_length, be_length])
    | succ q =>
      have e : (l.length : Int) + ((q + 1 : Nat) : Int) - 1 = (l.length : Int) + q := by omega
      rw [e]
      clear e
      have hq : q < K := by omega
      clear hrq
      have hpl := part_length K n (q + 1) (by omega)
      have hcell : wr.cell? ⟨w.heap.size, l.length + q, none⟩ = some (.int .u8 (((l ++ part K n (q + 1))[l.length + q]?.getD 0).toNat : Int)) := by
        rw [cell_of_row _ _ _ _ _ _ hblk.out, List.getElem?_toArray]
        exact bv_get _ _ (by rw [List.length_append, hpl]; omega)
      have hfro : wr.frozen? ⟨w.heap.size, l.length + q, none⟩ = false := frozen_of_row _ _ _ _ _ hblk.out
      clear hpl
      go_wp2
      go_roundw
      case rel =>
        have hN := HN.out
        have hQ := HQ.out
        have hn := Hn.out
        have hNn : N ≤ n := by rw [← hN]; exact Nat.div_le_self _ _
        have hw64 : IntKind.u64.wrap ((N : Int) / 256) = ((N / 256 : Nat) : Int) := by
          rw [show (N : Int) / 256 = ((N / 256 : Nat) : Int) from by simp]
          exact u64_small (N / 256) (by omega)
        have hr : N / 256 = n / 2 ^ (8 * (r + 1)) := by
          rw [← hN, Nat.div_div_eq_div_mul]
          congr 1
          rw [show 8 * (r + 1) = 8 * r + 8 from by omega, Nat.pow_add]
        have hbyte : ((N : Int) % 256) = ((byteAt n r).toNat : Int) := by
          rw [byteAt_toNat, ← hN]
          simp
        refine ⟨q, r + 1, by omega, rfl, by rw [hw64, hr], ?_, hb.setCell (p := ⟨w.heap.size, l.length + q, none⟩) (Nat.le_refl _) _⟩
        show _ = _
        rw [heap_setCell_same _ _ _ _ _ _ hblk.out, hbyte, List.setIfInBounds_toArray, bv_set, List.set_append_right _ _ (by omega), show l.length + q - l.length = q from by omega]
        rw [show r = K - 1 - q from by omega, part_set _ _ _ hq]
      case measure => simp [intOf]; omega

theorem width_one : width 1 = 1 := by decide
theorem be_one (n : Nat) : be 1 n = [UInt8.ofNat n] := by simp [be, byteAt]
theorem size_toList (s : ByteArray) : s.data.toList.length = s.size := by rw [Array.length_toList]; rfl

theorem num_one (S : Nat → Prop) (v : Value) (l : List UInt8) (n : Nat) (w : World) (h : Hid (Rd S w v l)) (hl : l.length + 8 ≤ 140737488355328) (hn : n < 256) :
    Calls Try.prog 112 #[v, .int .u64 n, .int .i64 1] w fun e w' => ∃ v', e = .returned v' ∧ w'.ownsRow w.heap.size 5 1 v' (l.length + 1) (bv (l ++ [UInt8.ofNat n])) ∧ Grew w w' := by
  have := num_any S v l n 1 w h.out hl (by omega)
  rwa [width_one, be_one] at this

end Go.Proofs.Ytbnicphegbdfnaa.Refs
namespace Go.Proofs.Ytbnicphegbdfnaa.Scan
set_option maxRecDepth 100000
set_option maxRecDepth 100000
set_option maxRecDepth 100000
set_option maxRecDepth 100000
open Go Go.RowKit Go.Proofs.Ytbnicphegbdfnaa Go.Proofs.Ytbnicphegbdfnaa.Facts Go.Proofs.Ytbnicphegbdfnaa.Bytes Go.Proofs.Ytbnicphegbdfnaa.Puts

structure Sc where
  l : List UInt8
  e : Int

namespace Sc
def left (s : Sc) : Nat := if s.e = 0 then s.l.length else 0
def rule (s : Sc) (ok : Bool) (e : Int) : Sc := if ok = false ∧ s.e = 0 then ⟨s.l, e⟩ else s
def take (s : Sc) (n : Nat) : List UInt8 × Sc := if s.e = 0 then (if n ≤ s.l.length then (s.l.take n, ⟨s.l.drop n, 0⟩) else ([], ⟨s.l, 12⟩)) else ([], s)
def val (l : List UInt8) : Nat := l.foldl (fun n x => n * 256 + x.toNat) 0
def num (s : Sc) (K : Nat) : Nat × Sc := (val (s.take K).1, (s.take K).2)
def text (s : Sc) (most : Int) : List UInt8 × Sc := ((s.num 1).2.rule (decide (((s.num 1).1 : Int) ≤ most)) 2).take (s.num 1).1
def fin (s : Sc) : Int := if 0 < s.left then 13 else s.e
end Sc

/-- Block g is a scan that From made, at s; it and its bytes lie from lo to hi. -/
def WS (w : World) (lo hi g : Nat) (s : Sc) : Prop :=
  lo ≤ g ∧ g < hi ∧ hi ≤ w.heap.size ∧ ∃ v, w.heap[g]? = some (.cells #[v, .int .i64 s.e, .bool true] 167 (0, 0)) ∧ Rd (fun b => lo ≤ b ∧ b < hi ∧ b ≠ g) w v s.l

/-- No scan, or one that From did not make. -/
def Dead (w : World) (lo hi : Nat) (p : Value) : Prop := p = .pointer none ∨ ∃ g v x, p = .pointer (some ⟨g, 0, none⟩) ∧ lo ≤ g ∧ g < hi ∧ hi ≤ w.heap.size ∧ w.heap[g]? = some (.cells #[v, x, .bool false] 167 (0, 0))

def SC (w : World) (lo hi : Nat) (p : Value) (s : Sc) : Prop := (∃ g, p = .pointer (some ⟨g, 0, none⟩) ∧ WS w lo hi g s) ∨ (Dead w lo hi p ∧ s = ⟨[], 11⟩)

def blk : Value → Option Nat
  | .pointer (some a) => some a.block
  | _ => none

/-- Of what was there the scan's own block alone may have turned. -/
def Chg (p : Value) (w w' : World) : Prop := w.grownBy w' (blk p)
theorem Chg.refl (p : Value) (w : World) : Chg p w w := ⟨rfl, rfl, rfl, Nat.le_refl _, fun _ _ _ => rfl⟩
theorem Chg.trans {p : Value} {a b c : World} (h : Chg p a b) (k : Chg p b c) : Chg p a c := World.grownBy.trans h k
theorem Chg.of_grew {p : Value} {a b : World} (h : Grew a b) : Chg p a b := ⟨h.os, h.tape, h.output, h.size, fun k hk _ => h.block k hk⟩
theorem Chg.set (g i : Nat) (u : Value) (w : World) : Chg (.pointer (some ⟨g, 0, none⟩)) w (w.setCell ⟨g, i, none⟩ u) :=
  ⟨rfl, rfl, rfl, by simp [World.setCell], fun k _ hne => heap_setCell_other w ⟨g, i, none⟩ k u (fun e => hne (by simp [blk, e]))⟩

theorem WS.keep {w w' : World} {lo hi g : Nat} {s : Sc} (h : WS w lo hi g s) (hs : w.heap.size ≤ w'.heap.size) (hk : ∀ b, lo ≤ b → b < hi → w'.heap[b]? = w.heap[b]?) : WS w' lo hi g s := by
  obtain ⟨h1, h2, h3, v, hg, hr⟩ := h
  exact ⟨h1, h2, Nat.le_trans h3 hs, v, (hk g h1 h2).trans hg, hr.keep fun b _ hb => hk b hb.1 hb.2.1⟩
theorem SC.keep {w w' : World} {lo hi : Nat} {p : Value} {s : Sc} (h : SC w lo hi p s) (hs : w.heap.size ≤ w'.heap.size) (hk : ∀ b, lo ≤ b → b < hi → w'.heap[b]? = w.heap[b]?) : SC w' lo hi p s := by
  rcases h with ⟨g, rfl, h⟩ | ⟨rfl | ⟨g, v, x, rfl, h1, h2, h3, hg⟩, rfl⟩
  · exact .inl ⟨g, rfl, h.keep hs hk⟩
  · exact .inr ⟨.inl rfl, rfl⟩
  · exact .inr ⟨.inr ⟨g, v, x, rfl, h1, h2, Nat.le_trans h3 hs, (hk g h1 h2).trans hg⟩, rfl⟩
theorem SC.size {w : World} {lo hi g : Nat} {s : Sc} (h : SC w lo hi (.pointer (some ⟨g, 0, none⟩)) s) : lo ≤ g ∧ g < hi ∧ hi ≤ w.heap.size := by
  rcases h with ⟨g', e, h⟩ | ⟨e | ⟨g', v, x, e, h1, h2, h3, hg⟩, rfl⟩
  · cases e; exact ⟨h.1, h.2.1, h.2.2.1⟩
  · cases e
  · cases e; exact ⟨h1, h2, h3⟩
theorem SC.grew {w w' : World} {lo hi : Nat} {p : Value} {s : Sc} (h : SC w lo hi p s) (hg : Grew w w') : SC w' lo hi p s := by
  rcases h with ⟨g, rfl, h⟩ | ⟨rfl | ⟨g, v, x, rfl, h1, h2, h3, hgg⟩, rfl⟩
  · exact .inl ⟨g, rfl, h.keep hg.size fun b _ hb => hg.block b (Nat.lt_of_lt_of_le hb h.2.2.1)⟩
  · exact .inr ⟨.inl rfl, rfl⟩
  · exact .inr ⟨.inr ⟨g, v, x, rfl, h1, h2, Nat.le_trans h3 hg.size, (hg.block g (Nat.lt_of_lt_of_le h2 h3)).trans hgg⟩, rfl⟩
theorem SC.made {w : World} {lo hi : Nat} {p : Value} {s : Sc} (h : SC w lo hi p s) (he : s.e = 0) : ∃ g, p = .pointer (some ⟨g, 0, none⟩) ∧ WS w lo hi g s := by
  rcases h with h | ⟨_, rfl⟩
  · exact h
  · simp at he

theorem fault_any (w : World) (lo hi : Nat) (p : Value) (s : Sc) (h : SC w lo hi p s) : Calls Try.prog 97 #[p] w fun e w' => e = .returned (.int .i64 s.e) ∧ w = w' := by
  rcases h with ⟨g, rfl, _, _, _, v, hg, _⟩ | ⟨rfl | ⟨g, v, x, rfl, _, _, _, hg⟩, rfl⟩
  · have c1 := cell_of_row _ _ 1 _ _ _ hg
    have c2 := cell_of_row _ _ 2 _ _ _ hg
    go_enter Try.func97, Try.ntmps97
    go_wp2
    go_ret
    exact ⟨rfl, rfl⟩
  · go_enter Try.func97, Try.ntmps97
    go_wp2
    go_ret
    exact ⟨rfl, rfl⟩
  · have c2 := cell_of_row _ _ 2 _ _ _ hg
    go_enter Try.func97, Try.ntmps97
    go_wp2
    go_ret
    exact ⟨rfl, rfl⟩

theorem fault_eq (w : World) (lo hi : Nat) (p : Value) (s : Sc) (x : Int) (h : Hid (SC w lo hi p s)) (hx : Hid (s.e = x)) : Calls Try.prog 97 #[p] w fun e w' => e = .returned (.int .i64 x) ∧ w = w' := by
  have := fault_any w lo hi p s h.out
  rwa [hx.out] at this

theorem left_any (w : World) (lo hi : Nat) (p : Value) (s : Sc) (h : SC w lo hi p s) : Calls Try.prog 99 #[p] w fun e w' => e = .returned (.int .i64 (s.left : Int)) ∧ w = w' := by
  have H := Lib.hid h
  by_cases he : s.e = 0
  · obtain ⟨g, rfl, _, _, _, v, hg, A, c, rfl, _⟩ := h.made he
    have c0 := cell_of_row _ _ 0 _ _ _ hg
    have HE := Lib.hid he
    clear h hg he
    go_enter Try.func99, Try.ntmps99
    go_wp2_with (go_at_call 97; refine (fault_eq _ lo hi _ s 0 H HE).mono ?_; rintro e w' ⟨rfl, rfl⟩)
    go_ret
    exact ⟨ret_int (by simp [Sc.left, HE.out]), rfl⟩
  · have hb : (s.e == 0) = false := by simpa using he
    have hb' : (s.e != 0) = true := by simpa using he
    have HE := Lib.hid he
    clear h he
    go_enter Try.func99, Try.ntmps99
    go_wp2_with (go_at_call 97; refine (fault_any _ lo hi _ s H.out).mono ?_; rintro e w' ⟨rfl, rfl⟩)
    go_ret
    exact ⟨ret_int (by simp [Sc.left, HE.out]), rfl⟩

theorem left_eq (w : World) (lo hi : Nat) (p : Value) (s : Sc) (x : Nat) (h : Hid (SC w lo hi p s)) (hx : Hid (s.left = x)) : Calls Try.prog 99 #[p] w fun e w' => e = .returned (.int .i64 (x : Int)) ∧ w = w' := by
  have := left_any w lo hi p s h.out
  rwa [hx.out] at this

theorem rule_any (w : World) (lo hi : Nat) (p : Value) (s : Sc) (ok : Bool) (x : Int) (h : SC w lo hi p s) : Calls Try.prog 107 #[p, .bool ok, .int .i64 x] w fun e w' => e = .returned (.tuple #[]) ∧ SC w' lo hi p (s.rule ok x) ∧ Chg p w w' := by
  have H := Lib.hid h
  cases ok with
  | true =>
    have HR : Hid (s.rule true x = s) := by show _ = _; simp [Sc.rule]
    clear h
    go_enter Try.func107, Try.ntmps107
    go_wp2_with (go_at_call 97; refine (fault_any _ lo hi _ s H.out).mono ?_; rintro e w' ⟨rfl, rfl⟩)
    go_end0
    exact ⟨rfl, by rw [HR.out]; exact H.out, Chg.refl _ _⟩
  | false =>
    by_cases he : s.e = 0
    · have HR : Hid (s.rule false x = ⟨s.l, x⟩) := by show _ = _; simp [Sc.rule, he]
      obtain ⟨g, rfl, q1, q2, q3, v, hg, hr⟩ := h.made he
      have c1 := cell_of_row _ _ 1 _ _ _ hg
      have f1 := frozen_of_row w g 1 _ _ hg
      have HG := Lib.hid hg
      have HRd := Lib.hid hr
      have HE := Lib.hid he
      clear h he hg hr
      go_enter Try.func107, Try.ntmps107
      go_wp2_with (go_at_call 97; refine (fault_eq _ lo hi _ s 0 H HE).mono ?_; rintro e w' ⟨rfl, rfl⟩)
      go_end0
      refine ⟨rfl, ?_, Chg.set _ _ _ _⟩
      rw [HR.out]
      refine .inl ⟨g, rfl, q1, q2, by simpa [World.setCell] using q3, v, ?_, HRd.out.keep fun b _ hb => heap_setCell_other w ⟨g, 1, none⟩ b _ hb.2.2⟩
      rw [heap_setCell_same _ _ _ _ _ _ HG.out]
      rfl
    · have HR : Hid (s.rule false x = s) := by show _ = _; simp [Sc.rule, he]
      have hb : (s.e == 0) = false := by simpa using he
      clear h he
      go_enter Try.func107, Try.ntmps107
      go_wp2_with (go_at_call 97; refine (fault_any _ lo hi _ s H.out).mono ?_; rintro e w' ⟨rfl, rfl⟩)
      go_end0
      exact ⟨rfl, by rw [HR.out]; exact H.out, Chg.refl _ _⟩
end Go.Proofs.Ytbnicphegbdfnaa.Scan
namespace Go.Proofs.Ytbnicphegbdfnaa.Take
set_option maxRecDepth 100000
set_option maxRecDepth 100000
set_option maxRecDepth 100000
set_option maxRecDepth 100000
open Go Go.RowKit Go.Proofs.Ytbnicphegbdfnaa Go.Proofs.Ytbnicphegbdfnaa.Facts Go.Proofs.Ytbnicphegbdfnaa.Bytes Go.Proofs.Ytbnicphegbdfnaa.Puts Go.Proofs.Ytbnicphegbdfnaa.Scan

def Bl (lo hi : Nat) (p : Value) : Nat → Prop := fun b => lo ≤ b ∧ b < hi ∧ some b ≠ blk p

theorem rule_eq (w : World) (lo hi : Nat) (p : Value) (s s' : Sc) (ok : Bool) (x : Int) (h : Hid (SC w lo hi p s)) (hs : Hid (s.rule ok x = s')) : Calls Try.prog 107 #[p, .bool ok, .int .i64 x] w fun e w' => e = .returned (.tuple #[]) ∧ SC w' lo hi p s' ∧ Chg p w w' := by
  have := rule_any w lo hi p s ok x h.out
  rwa [hs.out] at this

/-- The cut behind the first n. -/
theorem cut_rd {S : Nat → Prop} {w : World} {A : Option Addr} {c n : Nat} {l : List UInt8} (h : Rd S w (.slice A l.length c) l) (hn : n ≤ l.length) :
    Rd S w (.slice A n n) (l.take n) ∧ Rd S w (.slice (if c = n then A else A.map (·.add n)) (l.length - n) (c - n)) (l.drop n) := by
  obtain ⟨A', c', e, h1, h2, h3, h4⟩ := h
  injection e with e1 _ e3
  subst e1 e3
  constructor
  · refine ⟨A, n, by rw [List.length_take, Nat.min_eq_left hn], by rw [List.length_take]; omega, by omega, fun hA => by have := h3 hA; omega, fun ad hA => ⟨fun hl => (h4 ad hA).1 (fun e => hl (by rw [e, List.take_nil])), fun j u hu => (h4 ad hA).2 j u ?_⟩⟩
    have hb : bv (l.take n) = (bv l).take n := by simp [bv, List.map_take]
    rw [hb, List.getElem?_take] at hu
    split at hu
    · exact hu
    · cases hu
  · refine ⟨_, c - n, by rw [List.length_drop], by rw [List.length_drop]; omega, by omega, fun hA => ?_, fun ad hA => ?_⟩
    · split at hA
      · omega
      · cases hAA : A with
        | none => have := h3 hAA; omega
        | some x => rw [hAA] at hA; cases hA
    · split at hA
      · rename_i hc
        have hl : l.drop n = [] := List.drop_of_length_le (by omega)
        rw [hl]
        exact ⟨fun h => absurd rfl h, fun j u hu => by simp [bv] at hu⟩
      · cases hAA : A with
        | none => rw [hAA] at hA; cases hA
        | some x =>
          rw [hAA] at hA
          simp only [Option.map_some, Option.some.injEq] at hA
          subst hA
          refine ⟨fun hl => by rw [block_add']; exact (h4 x hAA).1 (fun e => hl (by rw [e]; simp)), fun j u hu => ?_⟩
          rw [add_add']
          refine (h4 x hAA).2 _ u ?_
          have hb : bv (l.drop n) = (bv l).drop n := by simp [bv, List.map_drop]
          rw [hb, List.getElem?_drop] at hu
          exact hu

theorem taken {w1 : World} {lo hi g n c : Nat} {s : Sc} {A : Option Addr} {v' : Value} (hl : n ≤ s.l.length) (q1 : lo ≤ g) (q2 : g < hi) (q3 : hi ≤ w1.heap.size)
    (hg : w1.heap[g]? = some (.cells #[.slice A s.l.length c, .int .i64 s.e, .bool true] 167 (0, 0))) (hr : Rd (fun b => lo ≤ b ∧ b < hi ∧ b ≠ g) w1 (.slice A s.l.length c) s.l) (he : s.e = 0)
    (hv : v' = .slice (if c = n then A else A.map (·.add n)) (s.l.length - n) (c - n)) :
    Rd (Bl lo hi (.pointer (some ⟨g, 0, none⟩))) (w1.setCell ⟨g, 0, none⟩ v') (.slice A n n) (s.take n).1 ∧ SC (w1.setCell ⟨g, 0, none⟩ v') lo hi (.pointer (some ⟨g, 0, none⟩)) (s.take n).2 := by
  have hT : s.take n = (s.l.take n, ⟨s.l.drop n, 0⟩) := by simp [Sc.take, he, hl]
  subst hv
  rw [hT]
  obtain ⟨k1, k2⟩ := cut_rd hr hl
  have keep : ∀ b, b ≠ g → ∀ u, (w1.setCell ⟨g, 0, none⟩ u).heap[b]? = w1.heap[b]? := fun b hb u => heap_setCell_other w1 ⟨g, 0, none⟩ b u hb
  constructor
  · exact (k1.keep fun b _ hb => keep b hb.2.2 _).mono fun b hb => ⟨hb.1, hb.2.1, fun e => hb.2.2 (by simpa [blk] using e)⟩
  · refine .inl ⟨g, rfl, q1, q2, by simpa [World.setCell] using q3, _, ?_, k2.keep fun b _ hb => keep b hb.2.2 _⟩
    rw [heap_setCell_same _ _ _ _ _ _ hg, he]
    rfl

theorem take_any (w : World) (lo hi : Nat) (p : Value) (s : Sc) (n : Nat) (h : SC w lo hi p s) (hn : n ≤ 9223372036854775807) :
    Calls Try.prog 118 #[p, .int .i64 n] w fun e w' => ∃ v, e = .returned v ∧ Rd (Bl lo hi p) w' v (s.take n).1 ∧ SC w' lo hi p (s.take n).2 ∧ Chg p w w' := by
  have H := Lib.hid h
  by_cases he : s.e = 0
  · by_cases hl : n ≤ s.l.length
    · have hL : Hid (s.left = s.l.length) := by show _ = _; simp [Sc.left, he]
      have hR : Hid (s.rule true 12 = s) := by show _ = _; simp [Sc.rule]
      have HE := Lib.hid he
      have hd : decide ((n : Int) ≤ (s.l.length : Int)) = true := by simp [hl]
      clear h he
      go_enter Try.func118, Try.ntmps118
      go_wp2_with (go_at_call 99; refine (left_eq _ lo hi _ s _ H hL).mono ?_; rintro e w' ⟨rfl, rfl⟩)
      go_wp2_with (go_at_call 107; refine (rule_eq _ lo hi _ s s _ _ H hR).mono ?_; rintro e w1 ⟨rfl, hs1, hc1⟩)
      obtain ⟨g, rfl, q1, q2, q3, v, hg, hr⟩ := hs1.made HE.out
      have H1 := Lib.hid hs1
      obtain ⟨A, c, rfl, r1, r2, r3, r4⟩ := id hr
      have c0 := cell_of_row _ _ 0 _ _ _ hg
      have f0 := frozen_of_row w1 g 0 _ _ hg
      have HG := Lib.hid hg
      have HRd := Lib.hid hr
      have HC := Lib.hid hc1
      unfold maxLen at r2
      clear hs1 hg hr hc1 r4 r3
      go_wp2_with (go_at_call 97; refine (fault_eq _ lo hi _ s 0 H1 HE).mono ?_; rintro e w' ⟨rfl, rfl⟩)
      · go_ret
        have hc : c = n := by assumption
        exact ⟨_, rfl, (taken hl q1 q2 q3 HG.out HRd.out HE.out (by simp [hc])).1, (taken hl q1 q2 q3 HG.out HRd.out HE.out (by simp [hc])).2, HC.out.trans (Chg.set _ _ _ _)⟩
      · go_ret
        have hc : ¬ c = n := by assumption
        exact ⟨_, rfl, (taken hl q1 q2 q3 HG.out HRd.out HE.out (by simp [hc])).1, (taken hl q1 q2 q3 HG.out HRd.out HE.out (by simp [hc])).2, HC.out.trans (Chg.set _ _ _ _)⟩
    · have hL : Hid (s.left = s.l.length) := by show _ = _; simp [Sc.left, he]
      have hT : Hid (s.take n = ([], ⟨s.l, 12⟩)) := by show _ = _; simp [Sc.take, he, hl]
      have hR : Hid (s.rule false 12 = ⟨s.l, 12⟩) := by show _ = _; simp [Sc.rule, he]
      have hd : decide ((n : Int) ≤ (s.l.length : Int)) = false := by simp; omega
      clear h he
      go_enter Try.func118, Try.ntmps118
      go_wp2_with (go_at_call 99; refine (left_eq _ lo hi _ s _ H hL).mono ?_; rintro e w' ⟨rfl, rfl⟩)
      go_wp2_with (go_at_call 107; refine (rule_eq _ lo hi _ s ⟨s.l, 12⟩ _ _ H hR).mono ?_; rintro e w1 ⟨rfl, hs1, hc1⟩)
      have H1 := Lib.hid hs1
      have HC := Lib.hid hc1
      clear hs1 hc1
      go_wp2_with (go_at_call 97; refine (fault_eq _ lo hi _ ⟨s.l, 12⟩ 12 H1 rfl).mono ?_; rintro e w' ⟨rfl, rfl⟩)
      go_ret
      rw [hT.out]
      exact ⟨_, rfl, Rd.nil _ _, H1.out, HC.out⟩
  · have hT : Hid (s.take n = ([], s)) := by show _ = _; simp [Sc.take, he]
    have hR : ∀ ok, Hid (s.rule ok 12 = s) := fun ok => by show _ = _; simp [Sc.rule, he]
    have hb : (s.e == 0) = false := by simpa using he
    have hb' : (s.e != 0) = true := by simpa using he
    have HR := Lib.hid hR
    clear h he hR
    go_enter Try.func118, Try.ntmps118
    go_wp2_with (go_at_call 99; refine (left_any _ lo hi _ s H.out).mono ?_; rintro e w' ⟨rfl, rfl⟩)
    go_wp2_with (go_at_call 107; refine (rule_eq _ lo hi _ s s _ _ H (HR.out _)).mono ?_; rintro e w1 ⟨rfl, hs1, hc1⟩)
    have H1 := Lib.hid hs1
    have HC := Lib.hid hc1
    clear hs1 hc1
    go_wp2_with (go_at_call 97; refine (fault_any _ lo hi _ s H1.out).mono ?_; rintro e w' ⟨rfl, rfl⟩)
    go_ret
    rw [hT.out]
    exact ⟨_, rfl, Rd.nil _ _, H1.out, HC.out⟩
end Go.Proofs.Ytbnicphegbdfnaa.Take
namespace Go.Proofs.Ytbnicphegbdfnaa.Nums
set_option maxRecDepth 100000
set_option maxRecDepth 100000
set_option maxRecDepth 100000
set_option maxRecDepth 100000
open Go Go.RowKit Go.Proofs.Ytbnicphegbdfnaa Go.Proofs.Ytbnicphegbdfnaa.Facts Go.Proofs.Ytbnicphegbdfnaa.Bytes Go.Proofs.Ytbnicphegbdfnaa.Puts Go.Proofs.Ytbnicphegbdfnaa.Scan Go.Proofs.Ytbnicphegbdfnaa.Take

theorem val_snoc (l : List UInt8) (b : UInt8) : Sc.val (l ++ [b]) = Sc.val l * 256 + b.toNat := by simp [Sc.val]
theorem take_snoc (l : List UInt8) (k : Nat) (h : k < l.length) : l.take (k + 1) = l.take k ++ [l[k]?.getD 0] := by
  rw [List.take_succ_eq_append_getElem h]
  simp [h]
theorem val_lt (l : List UInt8) : ∀ k, Sc.val (l.take k) < 256 ^ k
  | 0 => by simp [Sc.val]
  | k + 1 => by
    by_cases h : k < l.length
    · rw [take_snoc l k h, val_snoc, Nat.pow_succ]
      have := val_lt l k
      have := (l[k]?.getD 0).toNat_lt
      omega
    · rw [List.take_of_length_le (by omega), ← List.take_of_length_le (i := k) (l := l) (by omega), Nat.pow_succ]
      have := val_lt l k
      omega
theorem val_small (l : List UInt8) (k : Nat) (h : k ≤ 7) : Sc.val (l.take k) < 72057594037927936 := by
  have := val_lt l k
  have h2 : 256 ^ k ≤ 256 ^ 7 := Nat.pow_le_pow_right (by omega) h
  omega
theorem take_len (s : Sc) (n : Nat) : (s.take n).1.length ≤ n := by
  unfold Sc.take
  split
  · split
    · simp; omega
    · simp
  · simp

theorem or_byte (N b : Nat) (hN : N < 72057594037927936) (hb : b < 256) : bits BinOp.or IntKind.u64 ((N : Int) * 256) (IntKind.u64.wrap (b : Int)) = ((N * 256 + b : Nat) : Int) := by
  rw [IntWalk.u64_in _ (by omega)]
  have h := u64_or_nat (N * 256) b (by omega) (by omega)
  rw [Int.natCast_mul] at h
  rw [show ((N : Int) * 256) = (N : Int) * ((256 : Nat) : Int) from rfl, h]
  congr 1
  have e := Nat.shiftLeft_add_eq_or_of_lt (show b < 2 ^ 8 by omega) N
  rw [Nat.shiftLeft_eq] at e
  exact e.symm

theorem take_eq (w : World) (lo hi : Nat) (p : Value) (s : Sc) (n : Nat) (t : List UInt8) (s1 : Sc) (h : Hid (SC w lo hi p s)) (hn : n ≤ 9223372036854775807) (ht : Hid (s.take n = (t, s1))) :
    Calls Try.prog 118 #[p, .int .i64 n] w fun e w' => ∃ v, e = .returned v ∧ Rd (Bl lo hi p) w' v t ∧ SC w' lo hi p s1 ∧ Chg p w w' := by
  have := take_any w lo hi p s n h.out hn
  rwa [ht.out] at this

theorem num_any (w : World) (lo hi : Nat) (p : Value) (s : Sc) (size : Int) (h : SC w lo hi p s) :
    Calls Try.prog 96 #[p, .int .i64 size] w fun e w' => e = .returned (.int .u64 ((s.num (width size)).1 : Int)) ∧ SC w' lo hi p (s.num (width size)).2 ∧ Chg p w w' := by
  have hw := width_pos size
  generalize hK : width size = K at *
  have HK := Lib.hid hK
  have H := Lib.hid h
  have hlen := take_len s K
  obtain ⟨⟨t, s1⟩, ht⟩ : ∃ q, s.take K = q := ⟨_, rfl⟩
  rw [ht] at hlen
  have HT := Lib.hid ht
  clear hK h ht
  dsimp only at hlen
  go_enter Try.func96, Try.ntmps96
  go_wp2_with (go_at_call 103; refine (width_at _ _ HK _).mono ?_; rintro e w' ⟨rfl, rfl⟩)
  go_wp2_with fail
  refine (take_eq _ lo hi _ s K t s1 H (by omega) HT).mono ?_
  rintro e w1 ⟨v, rfl, hr, hs1, hc1⟩
  obtain ⟨A, c, rfl, r1, r2, r3, r4⟩ := id hr
  have HS := Lib.hid hs1
  have HC := Lib.hid hc1
  have HR := Lib.hid hr
  unfold maxLen at r2
  clear r4 r3 hs1 hc1 hr
  go_wp2
  go_loop [5, 13] (fun n i => ∃ k : Nat, k ≤ t.length ∧ i = .int .i64 k ∧ n = .int .u64 (Sc.val (t.take k) : Int)) (fun _ i => t.length - (intOf i).toNat)
  case atStart => exact ⟨0, Nat.zero_le _, rfl, by simp [Sc.val]⟩
  case round =>
    obtain ⟨k, hk, rfl, rfl⟩ := hrel
    by_cases hlt : k < t.length
    · obtain ⟨ad, c', e, hcc, hcell⟩ := HR.out.cell hlt
      injection e with e1 _ e3
      subst e1 e3
      have hN := val_small t k (by omega)
      generalize hNN : Sc.val (t.take k) = N at *
      have HN := Lib.hid hNN
      generalize hb : (t[k]?.getD 0).toNat = b at *
      have HB := Lib.hid hb
      clear hNN hb
      go_wp2
      go_round
      case rel =>
        refine ⟨k + 1, hlt, by go_num, ?_⟩
        rw [take_snoc t k hlt, val_snoc, HN.out, HB.out]
        have hb256 : b < 256 := by rw [← HB.out]; exact UInt8.toNat_lt _
        rw [or_byte N b hN hb256]
      case measure => simp [intOf]; omega
    · have hkt : k = t.length := by omega
      have HKT := Lib.hid hkt
      clear hkt
      go_wp2
      go_ret
      have e : s.num K = (Sc.val t, s1) := by simp [Sc.num, HT.out]
      rw [e, HKT.out, List.take_length]
      exact ⟨rfl, HS.out, HC.out⟩

theorem num_eq (w : World) (lo hi : Nat) (p : Value) (s : Sc) (size : Int) (n : Nat) (s1 : Sc) (h : Hid (SC w lo hi p s)) (hs : Hid (s.num (width size) = (n, s1))) :
    Calls Try.prog 96 #[p, .int .i64 size] w fun e w' => e = .returned (.int .u64 (n : Int)) ∧ SC w' lo hi p s1 ∧ Chg p w w' := by
  have := num_any w lo hi p s size h.out
  rwa [hs.out] at this

theorem conv22 {S : Nat → Prop} {w : World} {v : Value} {l : List UInt8} (h : Rd S w v l) : (convert 23 9 v).run Try.prog w = .ok (.string ⟨l.toArray⟩) w :=
  run_toString w Try.underlying23 Try.underlying5 Try.underlying9 h

end Go.Proofs.Ytbnicphegbdfnaa.Nums
