/-
  Sums, differences and products of amounts, by the program and by the document; the coins.
  Conditions: each number fits 64 bits.
-/
import Derived.Test.YtmnfajplfnfgpaaLaw
import Derived.Test.YtmnfajplfnfgpaaProg
import Derived.WalkKit
import Derived.WalkMore
import Derived.Lib.Hide
import Derived.IntWalk
import Derived.Handy
import Derived.Deep.LoopGhost
import Derived.BigQuiet
import Derived.Shelf.Bits.Mul64
namespace Go.Proofs.Ytmnfajplfnfgpaa.UM
set_option maxRecDepth 100000
open Go Go.RowKit Go.Proofs.Ytmnfajplfnfgpaa Go.Proofs.Ytmnfajplfnfgpaa.Facts Go.Proofs.Ytmnfajplfnfgpaa.Bytes

def top : Nat := 4611686018427387904
def plusN (a b : Nat) : Nat × Int := if a ≤ top ∧ a + b ≤ top then (a + b, 0) else (0, 7)
def minusN (a b : Nat) : Nat × Int := if b ≤ a then (a - b, 0) else (0, 6)
def timesN (a b : Nat) : Nat × Int := if a * b ≤ top then (a * b, 0) else (0, 7)
def two (x : Nat × Int) : Value := .tuple #[.int .u64 (x.1 : Int), .int .i64 x.2]
theorem plus_any (a b : Nat) (ha : a < 18446744073709551616) (hb : b < 18446744073709551616) (w : World) :
    Calls Try.prog 58 #[.int .u64 (a : Int), .int .u64 (b : Int)] w fun e w' => e = .returned (two (plusN a b)) ∧ w = w' := by
  by_cases h1 : a ≤ top
  · have d1 : decide ((4611686018427387904 : Int) < (a : Int)) = false := decide_eq_false (by unfold top at h1; omega)
    have hw : IntKind.u64.wrap ((4611686018427387904 : Int) - (a : Int)) = 4611686018427387904 - (a : Int) := IntWalk.u64_in _ (by unfold top at h1; omega)
    by_cases h2 : a + b ≤ top
    · have d2 : decide ((4611686018427387904 : Int) - (a : Int) < (b : Int)) = false := decide_eq_false (by unfold top at h1 h2; omega)
      have hs : IntKind.u64.wrap ((a : Int) + (b : Int)) = ((a + b : Nat) : Int) := by rw [IntWalk.u64_in _ (by unfold top at h2; omega)]; omega
      have he : plusN a b = (a + b, 0) := if_pos ⟨h1, h2⟩
      rw [he]
      clear h1 h2 ha hb he
      unfold two
      go_enter Try.func58, Try.ntmps58
      go_wp2
      go_ret2
      exact ⟨rfl, rfl⟩
    · have d2 : decide ((4611686018427387904 : Int) - (a : Int) < (b : Int)) = true := decide_eq_true (by unfold top at h1 h2; omega)
      have he : plusN a b = (0, 7) := if_neg fun h => h2 h.2
      rw [he]
      clear h1 h2 ha hb he
      unfold two
      go_enter Try.func58, Try.ntmps58
      go_wp2
      go_ret2
      exact ⟨rfl, rfl⟩
  · have d1 : decide ((4611686018427387904 : Int) < (a : Int)) = true := decide_eq_true (by unfold top at h1; omega)
    have he : plusN a b = (0, 7) := if_neg fun h => h1 h.1
    rw [he]
    clear h1 ha hb he
    unfold two
    go_enter Try.func58, Try.ntmps58
    go_wp2
    go_ret2
    exact ⟨rfl, rfl⟩
theorem rplus_any (a b : Nat) (ha : a < 18446744073709551616) (hb : b < 18446744073709551616) (w : World) :
    Calls Try.prog 37 #[.int .u64 (a : Int), .int .u64 (b : Int)] w fun e w' => e = .returned (two (plusN a b)) ∧ w = w' := by
  by_cases h1 : a ≤ top
  · have d1 : decide ((4611686018427387904 : Int) < (a : Int)) = false := decide_eq_false (by unfold top at h1; omega)
    have hw : IntKind.u64.wrap ((4611686018427387904 : Int) - (a : Int)) = 4611686018427387904 - (a : Int) := IntWalk.u64_in _ (by unfold top at h1; omega)
    by_cases h2 : a + b ≤ top
    · have d2 : decide ((4611686018427387904 : Int) - (a : Int) < (b : Int)) = false := decide_eq_false (by unfold top at h1 h2; omega)
      have hs : IntKind.u64.wrap ((a : Int) + (b : Int)) = ((a + b : Nat) : Int) := by rw [IntWalk.u64_in _ (by unfold top at h2; omega)]; omega
      have he : plusN a b = (a + b, 0) := if_pos ⟨h1, h2⟩
      rw [he]
      clear h1 h2 ha hb he
      unfold two
      go_enter Try.func37, Try.ntmps37
      go_wp2
      go_ret2
      exact ⟨rfl, rfl⟩
    · have d2 : decide ((4611686018427387904 : Int) - (a : Int) < (b : Int)) = true := decide_eq_true (by unfold top at h1 h2; omega)
      have he : plusN a b = (0, 7) := if_neg fun h => h2 h.2
      rw [he]
      clear h1 h2 ha hb he
      unfold two
      go_enter Try.func37, Try.ntmps37
      go_wp2
      go_ret2
      exact ⟨rfl, rfl⟩
  · have d1 : decide ((4611686018427387904 : Int) < (a : Int)) = true := decide_eq_true (by unfold top at h1; omega)
    have he : plusN a b = (0, 7) := if_neg fun h => h1 h.1
    rw [he]
    clear h1 ha hb he
    unfold two
    go_enter Try.func37, Try.ntmps37
    go_wp2
    go_ret2
    exact ⟨rfl, rfl⟩
def ren264 : Go.Shelf.Ren := ⟨fun | 264 => 57 | n => n, fun | 53 => 23 | 46 => 84 | n => n, fun | n => n⟩
theorem lays264 : Go.Proofs.Lays.n264 Try.prog ren264 := {
  mixed := by kernel_rfl
  f264 := Try.func57.trans (congrArg some (by kernel_rfl))
  t46 := Try.underlying84
  a46 := Try.isAgg84
  z46 := Try.sizeOf84
  v46 := Try.zeroValue84
  t53 := Try.underlying23
  a53 := Try.isAgg23
  z53 := Try.sizeOf23
  v53 := Try.zeroValue23 }
theorem mul_any (x y : Nat) (hx : x < 18446744073709551616) (hy : y < 18446744073709551616) (w : World) :
    Calls Try.prog 57 #[.int .u64 (x : Int), .int .u64 (y : Int)] w fun e w' => e = .returned (.tuple #[.int .u64 ((x * y / 18446744073709551616 : Nat) : Int), .int .u64 ((x * y % 18446744073709551616 : Nat) : Int)]) ∧ w' = w := Any.bits_Mul64 lays264 x y hx hy w
theorem times_any (a b : Nat) (ha : a < 18446744073709551616) (hb : b < 18446744073709551616) (w : World) :
    Calls Try.prog 32 #[.int .u64 (a : Int), .int .u64 (b : Int)] w fun e w' => e = .returned (two (timesN a b)) ∧ w = w' := by
  have HM := Lib.hid (mul_any a b ha hb w)
  clear ha hb
  obtain ⟨hi, hhi⟩ : ∃ hi, a * b / 18446744073709551616 = hi := ⟨_, rfl⟩
  obtain ⟨lo, hlo⟩ : ∃ lo, a * b % 18446744073709551616 = lo := ⟨_, rfl⟩
  rw [hhi, hlo] at HM
  by_cases h1 : a * b ≤ top
  · have he : timesN a b = (a * b, 0) := if_pos h1
    have h0 : hi = 0 := by unfold top at h1; omega
    have hl : a * b = lo := by unfold top at h1; omega
    have d1 : decide ((4611686018427387904 : Int) < (lo : Int)) = false := decide_eq_false (by unfold top at h1; omega)
    rw [he, hl]
    subst h0
    clear hhi hlo h1 he hl
    unfold two
    go_enter Try.func32, Try.ntmps32
    go_wp2_with fail
    refine HM.out.mono ?_
    rintro e w' ⟨rfl, rfl⟩
    go_wp2
    go_ret2
    exact ⟨rfl, rfl⟩
  · have he : timesN a b = (0, 7) := if_neg h1
    rw [he]
    by_cases h0 : hi = 0
    · have d1 : decide ((4611686018427387904 : Int) < (lo : Int)) = true := decide_eq_true (by unfold top at h1; omega)
      subst h0
      clear hhi hlo h1 he
      unfold two
      go_enter Try.func32, Try.ntmps32
      go_wp2_with fail
      refine HM.out.mono ?_
      rintro e w' ⟨rfl, rfl⟩
      go_wp2
      go_ret2
      exact ⟨rfl, rfl⟩
    · have d0 : ((hi : Int) == 0) = false := by simp; exact h0
      have d2 : ((hi : Int) != 0) = true := by simp; exact h0
      have d3 : ¬ (hi : Int) = 0 := by omega
      clear hhi hlo h1 he h0
      unfold two
      go_enter Try.func32, Try.ntmps32
      go_wp2_with fail
      refine HM.out.mono ?_
      rintro e w' ⟨rfl, rfl⟩
      go_wp2
      go_ret2
      exact ⟨rfl, rfl⟩
theorem le_div (a b : Nat) (ha : 0 < a) : a * b ≤ top ↔ b ≤ top / a := by
  rw [Nat.le_div_iff_mul_le ha, Nat.mul_comm]
theorem rtimes_any (a b : Nat) (ha : a < 18446744073709551616) (_hb : b < 18446744073709551616) (w : World) :
    Calls Try.prog 33 #[.int .u64 (a : Int), .int .u64 (b : Int)] w fun e w' => e = .returned (two (timesN a b)) ∧ w = w' := by
  by_cases h0 : a = 0
  · subst h0
    have he : timesN 0 b = (0, 0) := by unfold timesN; rw [if_pos (by rw [Nat.zero_mul]; exact Nat.zero_le _), Nat.zero_mul]
    have hs : IntKind.u64.wrap (((0 : Nat) : Int) * (b : Int)) = 0 := by rw [Int.natCast_zero, Int.zero_mul]; rfl
    have hs2 : IntKind.u64.wrap ((0 : Int) * (b : Int)) = 0 := by rw [Int.zero_mul]; rfl
    rw [he]
    clear ha _hb he
    unfold two
    go_enter Try.func33, Try.ntmps33
    go_wp2
    go_ret2
    exact ⟨rfl, rfl⟩
  · have hd := le_div a b (by omega)
    have hq : (4611686018427387904 : Int).tdiv (a : Int) = ((top / a : Nat) : Int) := by
      unfold top
      rw [Int.tdiv_eq_ediv_of_nonneg (by omega)]
      rfl
    have hq2 : (4611686018427387904 : Int) / (a : Int) = ((top / a : Nat) : Int) := by unfold top; rfl
    have hle : top / a ≤ top := Nat.div_le_self _ _
    have hqw : IntKind.u64.wrap ((top / a : Nat) : Int) = ((top / a : Nat) : Int) := IntWalk.u64_in _ (by generalize top / a = q at *; unfold top at hle; omega)
    generalize top / a = q at *
    have d0 : ((a : Int) == 0) = false := by simp; exact h0
    have d2 : ((a : Int) != 0) = true := by simp; exact h0
    have d3 : ¬ (a : Int) = 0 := by omega
    by_cases h1 : a * b ≤ top
    · have he : timesN a b = (a * b, 0) := if_pos h1
      have d1 : decide ((q : Int) < (b : Int)) = false := decide_eq_false (by have := hd.1 h1; omega)
      have d1' : decide (q < b) = false := decide_eq_false (by have := hd.1 h1; omega)
      have hs : IntKind.u64.wrap ((a : Int) * (b : Int)) = ((a * b : Nat) : Int) := by rw [← Int.natCast_mul, IntWalk.u64_in _ (by unfold top at h1; omega)]
      rw [he]
      clear ha _hb he h1 hd hle h0
      unfold two
      go_enter Try.func33, Try.ntmps33
      go_wp2
      go_ret2
      exact ⟨rfl, rfl⟩
    · have he : timesN a b = (0, 7) := if_neg h1
      have d1 : decide ((q : Int) < (b : Int)) = true := decide_eq_true (by have := fun h => h1 (hd.2 h); omega)
      have d1' : decide (q < b) = true := decide_eq_true (by have := fun h => h1 (hd.2 h); omega)
      rw [he]
      clear ha _hb he h1 hd hle h0
      unfold two
      go_enter Try.func33, Try.ntmps33
      go_wp2
      go_ret2
      exact ⟨rfl, rfl⟩
def coinB (c : Int) : Bool := decide (0 ≤ c ∧ c < 4)
theorem right_yes (c : Int) (h : 0 ≤ c ∧ c < 4) (w : World) : Calls Try.prog 34 #[.int .i64 c] w fun e w' => e = .returned (.bool true) ∧ w = w' := by
  have d1 : decide (0 ≤ c) = true := decide_eq_true h.1
  have d2 : decide (c < 4) = true := decide_eq_true h.2
  clear h
  go_enter Try.func34, Try.ntmps34
  go_wp2
  go_ret
  exact ⟨rfl, rfl⟩
theorem right_no (c : Int) (h : c < 0 ∨ 4 ≤ c) (w : World) : Calls Try.prog 34 #[.int .i64 c] w fun e w' => e = .returned (.bool false) ∧ w = w' := by
  by_cases h1 : c < 0
  · have d1 : decide (0 ≤ c) = false := decide_eq_false (by omega)
    clear h h1
    go_enter Try.func34, Try.ntmps34
    go_wp2
    go_ret
    exact ⟨rfl, rfl⟩
  · have d1 : decide (0 ≤ c) = true := decide_eq_true (by omega)
    have d2 : decide (c < 4) = false := decide_eq_false (by omega)
    clear h h1
    go_enter Try.func34, Try.ntmps34
    go_wp2
    go_ret
    exact ⟨rfl, rfl⟩
end Go.Proofs.Ytmnfajplfnfgpaa.UM
