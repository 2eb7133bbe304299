/-
  A sealed sector of which some bits were turned within 32 side by side.
  Conditions: those that each lemma names.
-/
import Derived.Test.YtiajjkjdmcoodabSAlive
import Derived.Laws.OwnMore
namespace Go.Proofs.Ytiajjkjdmcoodab.SBits
set_option maxRecDepth 100000
open Go Go.RowKit Go.Proofs.Ytiajjkjdmcoodab Go.Proofs.Ytiajjkjdmcoodab.Facts Go.Proofs.Ytiajjkjdmcoodab.Bytes Go.Proofs.Ytiajjkjdmcoodab.Refs Go.Proofs.Ytiajjkjdmcoodab.SumPure Go.Proofs.Ytiajjkjdmcoodab.Sum Go.Proofs.Ytiajjkjdmcoodab.SPure

theorem bits8 (x y : UInt8) : bits .xor .u8 (x.toNat : Int) (y.toNat : Int) = ((x ^^^ y).toNat : Int) := by
  have hx := x.toNat_lt
  have hy := y.toNat_lt
  show IntKind.u8.wrap (((BitVec.ofInt 8 (x.toNat : Int) ^^^ BitVec.ofInt 8 (y.toNat : Int)).toNat : Nat) : Int) = _
  rw [BitVec.ofInt_natCast, BitVec.ofInt_natCast, BitVec.toNat_xor, BitVec.toNat_ofNat, BitVec.toNat_ofNat, UInt8.toNat_xor, Nat.mod_eq_of_lt hx, Nat.mod_eq_of_lt hy]
  have : x.toNat ^^^ y.toNat < 2 ^ 8 := Nat.xor_lt_two_pow hx hy
  rw [IntKind.wrap_u8]
  omega
/-- A bit turned. -/
def turnAt (m : List UInt8) (q : Nat) : List UInt8 := m.set (q / 8) ((m[q / 8]?.getD 0) ^^^ UInt8.ofNat (2 ^ (q % 8)))
theorem turnAt_length (m : List UInt8) (q : Nat) : (turnAt m q).length = m.length := by simp [turnAt]
theorem pow8 (j : Nat) (hj : j < 8) : (UInt8.ofNat (2 ^ j)).toNat = 2 ^ j := by
  have : (2 : Nat) ^ j < 2 ^ 8 := Nat.pow_lt_pow_right (by omega) hj
  rw [UInt8.toNat_ofNat']
  exact Nat.mod_eq_of_lt this
theorem turnAt_bits (m : List UInt8) (q p : Nat) (hq : q / 8 < m.length) : bitsOf (turnAt m q) p = (bitsOf m p ^^ decide (q = p)) := by
  unfold bitsOf turnAt
  simp only [List.getD_eq_getElem?_getD]
  by_cases h : q / 8 = p / 8
  · rw [← h, List.getElem?_set_self (by simpa using hq)]
    simp only [Option.getD_some]
    rw [UInt8.toNat_xor, Nat.testBit_xor, pow8 _ (Nat.mod_lt _ (by omega)), Nat.testBit_two_pow]
    congr 1
    rw [decide_eq_decide]
    omega
  · rw [List.getElem?_set_ne h]
    have : ¬ q = p := fun e => h (by rw [e])
    simp [this]

/-- Is the bit left as it is? -/
def stays (N : Nat) (a : Int) (t : BitVec 32) (k : Nat) : Bool := decide (a < 0) || decide (a > 8 * (N : Int) - 1 - k) || !(t.getLsbD k)
/-- The bytes behind k bits. -/
def turns (l : List UInt8) (a : Int) (t : BitVec 32) : Nat → List UInt8
  | 0 => l
  | k + 1 => if stays l.length a t k then turns l a t k else turnAt (turns l a t k) (a.toNat + k)
theorem turns_length (l : List UInt8) (a : Int) (t : BitVec 32) (k : Nat) : (turns l a t k).length = l.length := by
  induction k with
  | zero => rfl
  | succ k ih =>
    rw [turns]
    split
    · exact ih
    · rw [turnAt_length, ih]
theorem turns_bits (l : List UInt8) (a : Int) (t : BitVec 32) (p : Nat) : ∀ k, bitsOf (turns l a t k) p ≠ bitsOf l p → a.toNat ≤ p ∧ p < a.toNat + k
  | 0 => fun h => absurd rfl h
  | k + 1 => fun h => by
    rw [turns] at h
    split at h
    · have := turns_bits l a t p k h
      omega
    · rename_i hs
      have hs' : a.toNat + k < 8 * l.length := by
        unfold stays at hs
        simp at hs
        omega
      rw [turnAt_bits _ _ _ (by rw [turns_length]; omega)] at h
      by_cases hp : a.toNat + k = p
      · omega
      · rw [decide_eq_false hp, Bool.xor_false] at h
        have := turns_bits l a t p k h
        omega

theorem shl8 (j : Nat) (hj : j < 8) : IntKind.u8.wrap ((2 : Int) ^ j) = ((UInt8.ofNat (2 ^ j)).toNat : Int) := by
  rw [pow8 j hj, IntKind.wrap_u8]
  have : (2 : Nat) ^ j < 2 ^ 8 := Nat.pow_lt_pow_right (by omega) hj
  have e : ((2 : Int) ^ j) = (((2 : Nat) ^ j : Nat) : Int) := by simp
  rw [e]
  generalize (2 : Nat) ^ j = z at *
  omega
theorem bit_at (t : BitVec 32) (k : Nat) : (bits .and .u32 ((t.toNat : Int) / 2 ^ k) 1 == 0) = !(t.getLsbD k) := by
  rw [down]
  have h1 : bits .and .u32 ((t >>> k).toNat : Int) 1 = (((t >>> k) &&& 1#32).toNat : Int) := bits_and _ 1#32
  rw [h1]
  have e : ((t >>> k) &&& 1#32).toNat = (t.getLsbD k).toNat := by
    rw [BitVec.toNat_and]
    show (t >>> k).toNat &&& 1 = _
    rw [Nat.and_one_is_mod, BitVec.toNat_ushiftRight, Nat.shiftRight_eq_div_pow]
    unfold BitVec.getLsbD
    rw [Nat.testBit_eq_decide_div_mod_eq]
    have := Nat.mod_lt (t.toNat / 2 ^ k) (show 0 < 2 by omega)
    by_cases h : t.toNat / 2 ^ k % 2 = 1
    · simp [h]
    · simp [show t.toNat / 2 ^ k % 2 = 0 by omega]
  rw [e]
  cases t.getLsbD k <;> rfl

theorem own_set {W : World} {base g cap n j : Nat} {cur : Array Value} {m : List UInt8} (x : UInt8) (hb : base ≤ g) (hg : W.heap[g]? = some (.cells cur 5 (0, 0))) (hnc : n ≤ cap) (hcm : cap ≤ maxLen) (hsz : cur.size = cap * 1) (ht : cur.toList.take (n * 1) = bv m) (hm : m.length = n) (hj : j < n) :
    (W.setCell ⟨g, j, none⟩ (.int .u8 (x.toNat : Int))).ownsRow base 5 1 (.slice (some ⟨g, 0, none⟩) n cap) n (bv (m.set j x)) := by
  refine ⟨by rw [bv_length, List.length_set]; omega, .inr ⟨g, cap, cur.setIfInBounds j (.int .u8 (x.toNat : Int)), rfl, hb, heap_setCell_same _ _ _ _ _ _ hg, hnc, hcm, by simpa using hsz, ?_⟩⟩
  rw [Array.toList_setIfInBounds, List.take_set, ht, bv_set]


theorem turns_neg (l : List UInt8) (a : Int) (t : BitVec 32) (k : Nat) (h : a < 0) : turns l a t (k + 1) = turns l a t k := by
  rw [turns, if_pos (by unfold stays; rw [decide_eq_true h]; rfl)]
theorem turns_far (l : List UInt8) (a : Int) (t : BitVec 32) (k : Nat) (h : a > 8 * (l.length : Int) - 1 - k) : turns l a t (k + 1) = turns l a t k := by
  rw [turns, if_pos (by unfold stays; rw [decide_eq_true h, Bool.or_true]; rfl)]
theorem turns_off (l : List UInt8) (a : Int) (t : BitVec 32) (k : Nat) (h : t.getLsbD k = false) : turns l a t (k + 1) = turns l a t k := by
  rw [turns, if_pos (by unfold stays; rw [h]; simp)]
theorem turns_on (l : List UInt8) (b : Nat) (t : BitVec 32) (k : Nat) (h2 : ¬ ((b : Int) > 8 * (l.length : Int) - 1 - k)) (h3 : t.getLsbD k = true) : turns l (b : Int) t (k + 1) = turnAt (turns l (b : Int) t k) (b + k) := by
  have h1 : ¬ ((b : Int) < 0) := by omega
  rw [turns, if_neg (by unfold stays; rw [decide_eq_false h1, decide_eq_false h2, h3]; simp)]
  rfl
theorem bits_drop (l : List UInt8) (n p : Nat) : bitsOf (l.drop n) p = bitsOf l (8 * n + p) := by
  unfold bitsOf
  simp only [List.getD_eq_getElem?_getD, List.getElem?_drop]
  rw [show (8 * n + p) / 8 = n + p / 8 by omega, show (8 * n + p) % 8 = p % 8 by omega]
theorem bits_take (l : List UInt8) (n p : Nat) : bitsOf (l.take n) p = (decide (p < 8 * n) && bitsOf l p) := by
  unfold bitsOf
  simp only [List.getD_eq_getElem?_getD, List.getElem?_take]
  by_cases h : p < 8 * n
  · rw [if_pos (by omega), decide_eq_true h, Bool.true_and]
  · rw [if_neg (by omega), decide_eq_false h]
    simp
theorem back_pure (s : Nat) (load : List UInt8) (a : Int) (t : BitVec 32) (h : load.length ≤ 108) (hs : may s = true) (hr : a ≤ 896 ∨ 928 ≤ a) :
    ((opened (turns (sealed s load) a t 32)).2.2 = 0) ↔ turns (sealed s load) a t 32 = sealed s load := by
  have hl := turns_length (sealed s load) a t 32
  have hb := sealed_length s load h
  have hin : ∀ p, bitsOf (turns (sealed s load) a t 32) p ≠ bitsOf (sealed s load) p → a.toNat ≤ p ∧ p < a.toNat + 32 := fun p hp => turns_bits _ a t p 32 hp
  rcases hr with hr | hr
  · refine turned_ahead s load _ a.toNat h hs (by omega) ?_ hin
    apply bits_eq (by simp; omega)
    intro p
    rw [bits_drop, bits_drop]
    refine Decidable.byContradiction fun hne => ?_
    have := hin _ hne
    omega
  · refine turned_behind s load _ h hs (by omega) ?_
    apply bits_eq (by simp; omega)
    intro p
    rw [bits_take, bits_take]
    by_cases hp : p < 8 * 116
    · congr 1
      refine Decidable.byContradiction fun hne => ?_
      have := hin _ hne
      omega
    · rw [decide_eq_false hp, Bool.false_and, Bool.false_and]
end Go.Proofs.Ytiajjkjdmcoodab.SBits
