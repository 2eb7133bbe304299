/-
  Which bytes may be, and which texts: what the program's own functions on names and texts answer.
  Conditions: none beyond those that each lemma names.
-/
import Derived.Test.YtcbaaeihppchiaaFacts
import Derived.Test.YtcbaaeihppchiaaProg
import Derived.WalkKit
import Derived.Handy
import Derived.Lib.Hide
import Derived.Deep.LoopGhost
namespace Go.Proofs.Ytcbaaeihppchiaa.Chars
set_option maxRecDepth 100000
open Go Go.RowKit Go.Proofs.Ytcbaaeihppchiaa Go.Proofs.Ytcbaaeihppchiaa.Facts

def plain (b : UInt8) : Bool := decide (32 ≤ b.toNat) && decide (b.toNat ≤ 126)
/-- A test of a byte. -/
def Tests (f : FuncId) (P : UInt8 → Bool) : Prop := ∀ (b : UInt8) (w : World), Calls Try.prog f #[.int .u8 (b.toNat : Int)] w fun e w' => e = .returned (.bool (P b)) ∧ w' = w

theorem plain_any : Tests 46 plain := fun b w => by
  unfold plain
  go_enter Try.func46, Try.ntmps46
  go_wp2
  all_goals rename_i h
  all_goals go_returns
  all_goals refine ⟨?_, rfl⟩
  · rw [decide_eq_true (show 32 ≤ b.toNat by omega), Bool.true_and]
    exact congrArg (fun x => Ending.returned (Value.bool x)) (by rw [decide_eq_decide]; omega)
  · rw [decide_eq_false (show ¬ 32 ≤ b.toNat by omega), Bool.false_and]
    rfl
theorem sized_any (s : ByteArray) (n : Int) (w : World) : Calls Try.prog 44 #[.string s, .int .i64 n] w fun e w' => e = .returned (.bool (decide (1 ≤ s.size) && decide ((s.size : Int) ≤ n))) ∧ w' = w := by
  by_cases h : 1 ≤ s.size
  · rw [decide_eq_true h, Bool.true_and]
    go_enter Try.func44, Try.ntmps44
    go_wp2
    go_returns
    exact ⟨rfl, rfl⟩
  · rw [decide_eq_false h, Bool.false_and]
    have h0 : ¬ (1 : Int) ≤ (s.size : Int) := by omega
    go_enter Try.func44, Try.ntmps44
    go_wp2
    go_returns
    exact ⟨rfl, rfl⟩

/-- The place of the first byte that may not be. -/
def other (P : UInt8 → Bool) (l : List UInt8) : Nat := l.findIdx (fun b => !P b)
theorem other_le (P : UInt8 → Bool) (l : List UInt8) : other P l ≤ l.length := List.findIdx_le_length
theorem other_all (P : UInt8 → Bool) (l : List UInt8) (h : ∀ j (hj : j < l.length), P l[j] = true) : other P l = l.length := by
  unfold other
  rw [List.findIdx_eq_length]
  intro x hx
  obtain ⟨j, hj, rfl⟩ := List.getElem_of_mem hx
  simp [h j hj]
theorem other_at (P : UInt8 → Bool) (l : List UInt8) (k : Nat) (hk : k < l.length) (h : ∀ j (hj : j < k), P (l[j]'(by omega)) = true) (h1 : P l[k] = false) : other P l = k := by
  unfold other
  rw [List.findIdx_eq hk]
  refine ⟨by simp [h1], fun j hj => by simp [h j hj]⟩
theorem size_len (s : ByteArray) : s.data.toList.length = s.size := by rw [Array.length_toList]; rfl
theorem byte_at (s : ByteArray) (k : Nat) (hk : k < s.size) : s[k] = s.data.toList[k]'(by rw [size_len]; exact hk) := by
  rw [Array.getElem_toList]
  rfl

set_option maxRecDepth 100000 in
theorem otherPlain_any (s : ByteArray) (hs : s.size ≤ 9223372036854775807) (w : World) :
    Calls Try.prog 64 #[.string s, .func (.func 46) #[] #[]] w fun e w' => e = .returned (.int .i64 (other plain s.data.toList : Int)) ∧ w' = w := by
  have hsl := size_len s
  go_enter Try.func64, Try.ntmps64
  go_wp2
  go_loopg [8] s.size (fun g s8 wx => ∃ k : Nat, k + g = s.size ∧ s8 = .int .i64 k ∧ Hid (∀ j (hj : j < k) (hk : j < s.data.toList.length), plain (s.data.toList[j]) = true) ∧ wx = w)
  case atStart => exact ⟨0, by omega, rfl, Lib.hid (fun j hj => absurd hj (by omega)), rfl⟩
  case round =>
    obtain ⟨k, hkg, rfl, HI, rfl⟩ := hrel
    cases gk with
    | zero =>
      have hkz : ¬ ((k : Int) < (s.size : Int)) := by omega
      go_wp2
      go_returns
      refine ⟨?_, rfl⟩
      rw [other_all _ _ fun j hj => HI.out j (by omega) hj, hsl]
      rfl
    | succ g =>
      have hkz : (k : Int) < (s.size : Int) := by omega
      have hb := byte_at s k (by omega)
      generalize hB : s[k]'(by omega) = b at *
      have HB := Lib.hid hb
      clear hb
      cases hp : plain b with
      | true =>
        go_wp2_with fail
        refine (plain_any b _).mono ?_
        rintro e w1 ⟨rfl, hw⟩
        subst hw
        rw [hp]
        go_wp2
        go_roundg g
        case measure => omega
        case rel =>
          refine ⟨k + 1, by omega, by first | rfl | simp, Lib.hid fun j hj hk => ?_, rfl⟩
          by_cases hjk : j = k
          · subst hjk
            rw [← HB.out]
            exact hp
          · exact HI.out j (by omega) hk
      | false =>
        go_wp2_with fail
        refine (plain_any b _).mono ?_
        rintro e w1 ⟨rfl, hw⟩
        subst hw
        rw [hp]
        go_wp2
        go_returns
        refine ⟨?_, rfl⟩
        rw [other_at _ _ k (by omega) (fun j hj => HI.out j hj (by omega)) (by rw [← HB.out]; exact hp)]
        rfl

theorem onlyPlain_any (s : ByteArray) (hs : s.size ≤ 9223372036854775807) (w : World) :
    Calls Try.prog 45 #[.string s, .func (.func 46) #[] #[]] w fun e w' => e = .returned (.bool (decide (other plain s.data.toList = s.size))) ∧ w' = w := by
  go_enter Try.func45, Try.ntmps45
  go_wp2_with fail
  refine (otherPlain_any s hs w).mono ?_
  rintro e w1 ⟨rfl, hw⟩
  subst hw
  go_wp2
  go_returns
  refine ⟨?_, rfl⟩
  refine congrArg (fun x => Ending.returned (Value.bool x)) ?_
  rw [Bool.eq_iff_iff]
  simp
  try omega

/-- A text? -/
def text (l : List UInt8) : Bool := decide (1 ≤ l.length) && decide (l.length ≤ 40) && (l.getD 0 0 != 32) && (l.getD (l.length - 1) 0 != 32) && l.all plain
theorem other_eq (P : UInt8 → Bool) (l : List UInt8) : decide (other P l = l.length) = l.all P := by
  rw [Bool.eq_iff_iff, decide_eq_true_iff, List.all_eq_true]
  unfold other
  rw [List.findIdx_eq_length]
  simp
theorem at_getD (s : ByteArray) (k : Nat) (h : k < s.size) : s[k] = s.data.toList.getD k 0 := by
  rw [byte_at s k h, List.getD_eq_getElem?_getD, List.getElem?_eq_getElem (by rw [size_len]; exact h)]
  rfl
theorem size_ok (s : ByteArray) (n : Nat) (h1 : 1 ≤ s.size ∧ s.size ≤ n) : (decide (1 ≤ s.size) && decide ((s.size : Int) ≤ (n : Int))) = true := by simp; omega
theorem size_no (s : ByteArray) (n : Nat) (h1 : ¬ (1 ≤ s.size ∧ s.size ≤ n)) : (decide (1 ≤ s.size) && decide ((s.size : Int) ≤ (n : Int))) = false := by
  rw [Bool.and_eq_false_iff, decide_eq_false_iff_not, decide_eq_false_iff_not]; omega

theorem ne32 (x : UInt8) : ((x.toNat : Int) != 32) = (x != 32) := by
  have e : ((x.toNat : Int) == 32) = (x == 32) := by
    rw [Bool.eq_iff_iff, beq_iff_eq, beq_iff_eq, ← UInt8.toNat_inj]
    show _ ↔ x.toNat = 32
    omega
  unfold bne
  rw [e]

set_option maxRecDepth 100000 in
theorem text_any (s : ByteArray) (hs : s.size ≤ 9223372036854775807) (w : World) : Calls Try.prog 21 #[.string s] w fun e w' => e = .returned (.bool (text s.data.toList)) ∧ w' = w := by
  have hsl := size_len s
  have hr : text s.data.toList = (decide (1 ≤ s.size) && decide ((s.size : Int) ≤ ((40 : Nat) : Int)) && (s.data.toList.getD 0 0 != 32) && (s.data.toList.getD (s.size - 1) 0 != 32) && decide (other plain s.data.toList = s.size)) := by
    rw [← hsl, other_eq, text]
    congr 4
    rw [decide_eq_decide]
    omega
  have HON := Lib.hid (onlyPlain_any s hs)
  have hsz := sized_any s 40 w
  by_cases h1 : 1 ≤ s.size ∧ s.size ≤ 40
  · rw [size_ok s 40 h1, Bool.true_and] at hr
    have e1 := size_ok s 40 h1
    rw [show (((40 : Nat) : Int)) = 40 from rfl] at e1
    rw [e1] at hsz
    clear e1
    have HSZ := Lib.hid hsz
    clear hsz
    have hpos : 0 < s.size := by omega
    have hlast : s.size - 1 < s.size := by omega
    have hf := at_getD s 0 hpos
    have hg := at_getD s (s.size - 1) hlast
    rw [← hf, ← hg] at hr
    clear hf hg hsl h1
    rw [hr]
    clear hr
    have ecast : ((s.size : Int) - 1) = ((s.size - 1 : Nat) : Int) := by omega
    obtain ⟨b, hB⟩ : ∃ b, b = s[0]'hpos := ⟨_, rfl⟩
    obtain ⟨d, hD⟩ : ∃ d, d = s[s.size - 1]'hlast := ⟨_, rfl⟩
    rw [← hB, ← hD]
    have n1 := ne32 b
    have n2 := ne32 d
    rw [hB] at n1
    rw [hD] at n2
    cases hl : (b != 32) with
    | false =>
      rw [← hB, hl, hB] at n1
      rw [Bool.false_and, Bool.false_and]
      go_enter Try.func21, Try.ntmps21
      go_wp2_with fail
      refine HSZ.out.mono ?_
      rintro e w1 ⟨rfl, hw⟩
      subst hw
      go_wp2
      go_returns
      exact ⟨rfl, rfl⟩
    | true =>
      rw [← hB, hl, hB] at n1
      rw [Bool.true_and]
      cases hm : (d != 32) with
      | false =>
        rw [← hD, hm, hD] at n2
        rw [Bool.false_and]
        go_enter Try.func21, Try.ntmps21
        go_wp2_with fail
        refine HSZ.out.mono ?_
        rintro e w1 ⟨rfl, hw⟩
        subst hw
        go_wp2
        go_returns
        exact ⟨rfl, rfl⟩
      | true =>
        rw [← hD, hm, hD] at n2
        rw [Bool.true_and]
        go_enter Try.func21, Try.ntmps21
        go_wp2_with fail
        refine HSZ.out.mono ?_
        rintro e w1 ⟨rfl, hw⟩
        subst hw
        go_wp2_with fail
        refine (HON.out _).mono ?_
        rintro e w3 ⟨rfl, hw⟩
        subst hw
        go_wp2
        go_returns
        exact ⟨rfl, rfl⟩
  · rw [size_no s 40 h1, Bool.false_and, Bool.false_and, Bool.false_and] at hr
    have e1 := size_no s 40 h1
    rw [show (((40 : Nat) : Int)) = 40 from rfl] at e1
    rw [e1] at hsz
    clear e1
    have HSZ := Lib.hid hsz
    clear hsz
    rw [hr]
    clear hr hsl
    go_enter Try.func21, Try.ntmps21
    go_wp2_with fail
    refine HSZ.out.mono ?_
    rintro e w1 ⟨rfl, hw⟩
    subst hw
    go_wp2
    go_returns
    exact ⟨rfl, rfl⟩
end Go.Proofs.Ytcbaaeihppchiaa.Chars
