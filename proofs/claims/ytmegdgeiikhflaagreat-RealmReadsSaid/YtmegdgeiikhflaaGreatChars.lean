/-
  Which bytes may be, and which texts: what the program's own functions on names and texts answer.
  Conditions: none beyond those that each lemma names.
-/
import Derived.Test.YtmegdgeiikhflaaGreatFacts
import Derived.Test.YtmegdgeiikhflaaGreatProg
import Derived.WalkKit
import Derived.Handy
import Derived.Lib.Hide
import Derived.Deep.LoopGhost
namespace Go.Proofs.YtmegdgeiikhflaaGreat.Chars
set_option maxRecDepth 100000
set_option maxRecDepth 100000
open Go Go.RowKit Go.Proofs.YtmegdgeiikhflaaGreat Go.Proofs.YtmegdgeiikhflaaGreat.Facts

def letter (b : UInt8) : Bool := decide (97 ≤ b.toNat) && decide (b.toNat ≤ 122)
def digit (b : UInt8) : Bool := decide (48 ≤ b.toNat) && decide (b.toNat ≤ 57)
def plain (b : UInt8) : Bool := decide (32 ≤ b.toNat) && decide (b.toNat ≤ 126)
def word (b : UInt8) : Bool := letter b || digit b

/-- A test of a byte. -/
def Tests (f : FuncId) (P : UInt8 → Bool) : Prop := ∀ (b : UInt8) (w : World), Calls Tryz.prog f #[.int .u8 (b.toNat : Int)] w fun e w' => e = .returned (.bool (P b)) ∧ w' = w

theorem letter_any : Tests 172 letter := fun b w => by
  unfold letter
  go_enter Tryz.func172, Tryz.ntmps172
  go_wp2
  all_goals rename_i h
  all_goals go_returns
  all_goals refine ⟨?_, rfl⟩
  · rw [decide_eq_true (show 97 ≤ b.toNat by omega), Bool.true_and]
    exact congrArg (fun x => Ending.returned (Value.bool x)) (by rw [decide_eq_decide]; omega)
  · rw [decide_eq_false (show ¬ 97 ≤ b.toNat by omega), Bool.false_and]
    rfl
theorem digit_any : Tests 175 digit := fun b w => by
  unfold digit
  go_enter Tryz.func175, Tryz.ntmps175
  go_wp2
  all_goals rename_i h
  all_goals go_returns
  all_goals refine ⟨?_, rfl⟩
  · rw [decide_eq_true (show 48 ≤ b.toNat by omega), Bool.true_and]
    exact congrArg (fun x => Ending.returned (Value.bool x)) (by rw [decide_eq_decide]; omega)
  · rw [decide_eq_false (show ¬ 48 ≤ b.toNat by omega), Bool.false_and]
    rfl
theorem word_any : Tests 174 word := fun b w => by
  unfold word
  go_enter Tryz.func174, Tryz.ntmps174
  go_wp2_with fail
  refine (letter_any b w).mono ?_
  rintro e w1 ⟨rfl, hw⟩
  subst hw
  cases hl : letter b with
  | true =>
    go_wp2
    go_returns
    refine ⟨?_, rfl⟩
    rw [hl]
    rfl
  | false =>
    go_wp2_with fail
    refine (digit_any b _).mono ?_
    rintro e w2 ⟨rfl, hw⟩
    subst hw
    go_wp2
    go_returns
    refine ⟨?_, rfl⟩
    rw [hl]
    rfl

theorem sized_any (s : ByteArray) (n : Int) (w : World) : Calls Tryz.prog 171 #[.string s, .int .i64 n] w fun e w' => e = .returned (.bool (decide (1 ≤ s.size) && decide ((s.size : Int) ≤ n))) ∧ w' = w := by
  by_cases h : 1 ≤ s.size
  · rw [decide_eq_true h, Bool.true_and]
    go_enter Tryz.func171, Tryz.ntmps171
    go_wp2
    go_returns
    exact ⟨rfl, rfl⟩
  · rw [decide_eq_false h, Bool.false_and]
    have h0 : ¬ (1 : Int) ≤ (s.size : Int) := by omega
    go_enter Tryz.func171, Tryz.ntmps171
    go_wp2
    go_returns
    exact ⟨rfl, rfl⟩

/-- The place of the first byte that may not be. -/
def other (P : UInt8 → Bool) (l : List UInt8) : Nat := l.findIdx (fun b => !P b)
theorem other_le (P : UInt8 → Bool) (l : List UInt8) : other P l ≤ l.length := List.findIdx_le_length
theorem other_all (P : UInt8 → Bool) (l : List UInt8) (h : ∀ j (hj : j < l.length), P l[j] = true) : other P l = l.length := by
  unfold other
  rw [List.findIdx_eq_length]
  intro x hx
  obtain ⟨j, hj, rfl⟩ := List.getElem_of_mem hx
  simp [h j hj]
theorem other_at (P : UInt8 → Bool) (l : List UInt8) (k : Nat) (hk : k < l.length) (h : ∀ j (hj : j < k), P (l[j]'(by omega)) = true) (h1 : P l[k] = false) : other P l = k := by
  unfold other
  rw [List.findIdx_eq hk]
  refine ⟨by simp [h1], fun j hj => by simp [h j hj]⟩
theorem size_len (s : ByteArray) : s.data.toList.length = s.size := by rw [Array.length_toList]; rfl
theorem byte_at (s : ByteArray) (k : Nat) (hk : k < s.size) : s[k] = s.data.toList[k]'(by rw [size_len]; exact hk) := by
  rw [Array.getElem_toList]
  rfl

set_option maxRecDepth 100000 in
theorem otherWord_any (s : ByteArray) (hs : s.size ≤ 9223372036854775807) (w : World) :
    Calls Tryz.prog 181 #[.string s, .func (.func 174) #[] #[]] w fun e w' => e = .returned (.int .i64 (other word s.data.toList : Int)) ∧ w' = w := by
  have hsl := size_len s
  go_enter Tryz.func181, Tryz.ntmps181
  go_wp2
  go_loopg [8] s.size (fun g s8 wx => ∃ k : Nat, k + g = s.size ∧ s8 = .int .i64 k ∧ Hid (∀ j (hj : j < k) (hk : j < s.data.toList.length), word (s.data.toList[j]) = true) ∧ wx = w)
  case atStart => exact ⟨0, by omega, rfl, Lib.hid (fun j hj => absurd hj (by omega)), rfl⟩
  case round =>
    obtain ⟨k, hkg, rfl, HI, rfl⟩ := hrel
    cases gk with
    | zero =>
      have hkz : ¬ ((k : Int) < (s.size : Int)) := by omega
      go_wp2
      go_returns
      refine ⟨?_, rfl⟩
      rw [other_all _ _ fun j hj => HI.out j (by omega) hj, hsl]
      rfl
    | succ g =>
      have hkz : (k : Int) < (s.size : Int) := by omega
      have hb := byte_at s k (by omega)
      generalize hB : s[k]'(by omega) = b at *
      have HB := Lib.hid hb
      clear hb
      cases hp : word b with
      | true =>
        go_wp2_with fail
        refine (word_any b _).mono ?_
        rintro e w1 ⟨rfl, hw⟩
        subst hw
        rw [hp]
        go_wp2
        go_roundg g
        case measure => omega
        case rel =>
          refine ⟨k + 1, by omega, by first | rfl | simp, Lib.hid fun j hj hk => ?_, rfl⟩
          by_cases hjk : j = k
          · subst hjk
            rw [← HB.out]
            exact hp
          · exact HI.out j (by omega) hk
      | false =>
        go_wp2_with fail
        refine (word_any b _).mono ?_
        rintro e w1 ⟨rfl, hw⟩
        subst hw
        rw [hp]
        go_wp2
        go_returns
        refine ⟨?_, rfl⟩
        rw [other_at _ _ k (by omega) (fun j hj => HI.out j hj (by omega)) (by rw [← HB.out]; exact hp)]
        rfl

theorem onlyWord_any (s : ByteArray) (hs : s.size ≤ 9223372036854775807) (w : World) :
    Calls Tryz.prog 173 #[.string s, .func (.func 174) #[] #[]] w fun e w' => e = .returned (.bool (decide (other word s.data.toList = s.size))) ∧ w' = w := by
  go_enter Tryz.func173, Tryz.ntmps173
  go_wp2_with fail
  refine (otherWord_any s hs w).mono ?_
  rintro e w1 ⟨rfl, hw⟩
  subst hw
  go_wp2
  go_returns
  refine ⟨?_, rfl⟩
  refine congrArg (fun x => Ending.returned (Value.bool x)) ?_
  rw [Bool.eq_iff_iff]
  simp
  try omega

/-- A name? -/
def right (l : List UInt8) : Bool := decide (1 ≤ l.length) && decide (l.length ≤ 12) && letter (l.getD 0 0) && l.all word
/-- A text? -/
def text (l : List UInt8) : Bool := decide (1 ≤ l.length) && decide (l.length ≤ 40) && (l.getD 0 0 != 32) && (l.getD (l.length - 1) 0 != 32) && l.all plain
theorem other_eq (P : UInt8 → Bool) (l : List UInt8) : decide (other P l = l.length) = l.all P := by
  rw [Bool.eq_iff_iff, decide_eq_true_iff, List.all_eq_true]
  unfold other
  rw [List.findIdx_eq_length]
  simp
end Go.Proofs.YtmegdgeiikhflaaGreat.Chars
