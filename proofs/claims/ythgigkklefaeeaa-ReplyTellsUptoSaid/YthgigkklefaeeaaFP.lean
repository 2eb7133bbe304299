/-
  Frames, purely: what wraps, what is taken, and all that bytes are.
  Conditions: none beyond those that each lemma names.
-/
import Derived.Test.YthgigkklefaeeaaNums
import Derived.Test.YthgigkklefaeeaaSum
namespace Go.Proofs.Ythgigkklefaeeaa.FP
set_option maxRecDepth 100000
set_option maxRecDepth 100000
open Go Go.Proofs.Ythgigkklefaeeaa Go.Proofs.Ythgigkklefaeeaa.Bytes Go.Proofs.Ythgigkklefaeeaa.Puts Go.Proofs.Ythgigkklefaeeaa.Scan Go.Proofs.Ythgigkklefaeeaa.Take Go.Proofs.Ythgigkklefaeeaa.Nums Go.Proofs.Ythgigkklefaeeaa.SumPure Go.Proofs.Ythgigkklefaeeaa.Sum

/-- How many bytes there may be. -/
def lim (most : Int) : Nat := (max 0 (min most 255)).toNat
theorem lim_le (most : Int) : lim most ≤ 255 := by unfold lim; omega
/-- The short sum. -/
def sh (l : List UInt8) : Nat := (short (sumOf l)).toNat
theorem short_pos (x : BitVec 32) : 0 ≤ short x ∧ short x < 65536 := by
  unfold short
  show 0 ≤ IntKind.u16.wrap _ ∧ IntKind.u16.wrap _ < 65536
  rw [IntKind.wrap_u16]
  omega
theorem sh_eq (l : List UInt8) : short (sumOf l) = (sh l : Int) := by
  have := short_pos (sumOf l)
  unfold sh
  omega
theorem sh_lt (l : List UInt8) : sh l < 65536 := by
  have := short_pos (sumOf l)
  unfold sh
  omega
/-- The bytes behind how many they are. -/
def hd (b : List UInt8) : List UInt8 := UInt8.ofNat b.length :: b
theorem hd_length (b : List UInt8) : (hd b).length = b.length + 1 := rfl
theorem hd_tx (b : List UInt8) (h : b.length ≤ 255) : tx b = hd b := by
  unfold tx hd
  rw [Nat.min_eq_left h, List.take_of_length_le h]
/-- A frame. -/
def fr (b : List UInt8) : List UInt8 := hd b ++ be 2 (sh (hd b))
theorem fr_length (b : List UInt8) : (fr b).length = b.length + 3 := by simp [fr, hd, be_length]
def wrapP (b : List UInt8) (most : Int) : List UInt8 × Int := if lim most < b.length then ([], 13) else (fr b, 0)
/-- How many the first byte tells. -/
def fst (l : List UInt8) : Nat := (l[0]?.getD 0).toNat
theorem fst_lt (l : List UInt8) : fst l < 256 := (l[0]?.getD 0).toNat_lt
def takeP (l : List UInt8) (most : Int) : List UInt8 × Nat × Int :=
  if l.length = 0 then ([], 0, 12) else if lim most < fst l then ([], 1, 13) else if l.length < fst l + 3 then ([], 0, 12)
  else if sh (l.take (fst l + 1)) = Sc.val ((l.drop (fst l + 1)).take 2) then ((l.drop 1).take (fst l), fst l + 3, 0) else ([], fst l + 3, 14)
/-- All frames, from here on, behind those that were taken. -/
def goP (most : Int) : Nat → List (List UInt8) → List UInt8 → List (List UInt8) × Int
  | 0, acc, _ => (acc, 0)
  | k + 1, acc, l => if l.length = 0 then (acc, 0) else if (takeP l most).2.2 = 0 then goP most k (acc ++ [(takeP l most).1]) (l.drop (takeP l most).2.1) else ([], (takeP l most).2.2)
def allP (l : List UInt8) (most : Int) : List (List UInt8) × Int := goP most l.length [] l

theorem byteAt_lt (n i : Nat) : (byteAt n i).toNat = n / 2 ^ (8 * i) % 256 := by simp [byteAt]
theorem be_two (n : Nat) : be 2 n = [byteAt n 1, byteAt n 0] := by simp [be, List.range_succ]
theorem val_two (a b : UInt8) : Sc.val [a, b] = a.toNat * 256 + b.toNat := by simp [Sc.val]
theorem val_be (n : Nat) (h : n < 65536) : Sc.val (be 2 n) = n := by
  rw [be_two, val_two, byteAt_lt, byteAt_lt]
  simp only [Nat.mul_one, Nat.mul_zero, Nat.pow_zero, Nat.div_one]
  omega
theorem be_val (x : List UInt8) (h : x.length = 2) : be 2 (Sc.val x) = x := by
  match x, h with
  | [a, b], _ =>
    rw [be_two, val_two]
    have ha := a.toNat_lt
    have hb := b.toNat_lt
    congr 1
    · apply UInt8.toNat_inj.1
      rw [byteAt_lt]
      simp only [Nat.mul_one]
      omega
    · congr 1
      apply UInt8.toNat_inj.1
      rw [byteAt_lt]
      simp only [Nat.mul_zero, Nat.pow_zero, Nat.div_one]
      omega
/-- The sum is the one just where the whole frame is. -/
theorem frame_iff (l : List UInt8) (h : fst l + 3 ≤ l.length) : fr ((l.drop 1).take (fst l)) = l.take (fst l + 3) ↔ sh (l.take (fst l + 1)) = Sc.val ((l.drop (fst l + 1)).take 2) := by
  have hf := fst_lt l
  have hlen : ((l.drop 1).take (fst l)).length = fst l := by rw [List.length_take, List.length_drop]; omega
  have hh : hd ((l.drop 1).take (fst l)) = l.take (fst l + 1) := by
    unfold hd
    rw [hlen]
    cases l with
    | nil => simp at h
    | cons a l =>
      have : UInt8.ofNat (fst (a :: l)) = a := by
        unfold fst
        simp
      rw [this]
      simp
  unfold fr
  rw [hh]
  have e : l.take (fst l + 3) = l.take (fst l + 1) ++ (l.drop (fst l + 1)).take 2 := by
    rw [show fst l + 3 = (fst l + 1) + 2 from rfl, List.take_add]
  rw [e]
  have hl2 : ((l.drop (fst l + 1)).take 2).length = 2 := by rw [List.length_take, List.length_drop]; omega
  generalize (l.drop (fst l + 1)).take 2 = x at *
  have hn := sh_lt (l.take (fst l + 1))
  generalize sh (l.take (fst l + 1)) = n at *
  rw [List.append_cancel_left_eq]
  constructor
  · intro e
    rw [← e, val_be n hn]
  · intro e
    rw [e, be_val x hl2]
end Go.Proofs.Ythgigkklefaeeaa.FP
