/-
  Which texts are names and which are texts: the program's answer.
  Conditions: none beyond a text's own size.
-/
import Derived.Test.YtlcbhiokpjnoeaaDoorChars
namespace Go.Proofs.YtlcbhiokpjnoeaaDoor.Texts
open Go Go.RowKit Go.Proofs.YtlcbhiokpjnoeaaDoor Go.Proofs.YtlcbhiokpjnoeaaDoor.Facts Go.Proofs.YtlcbhiokpjnoeaaDoor.Chars

theorem at_getD (s : ByteArray) (k : Nat) (h : k < s.size) : s[k] = s.data.toList.getD k 0 := by
  rw [byte_at s k h, List.getD_eq_getElem?_getD, List.getElem?_eq_getElem (by rw [size_len]; exact h)]
  rfl
theorem size_ok (s : ByteArray) (n : Nat) (h1 : 1 ≤ s.size ∧ s.size ≤ n) : (decide (1 ≤ s.size) && decide ((s.size : Int) ≤ (n : Int))) = true := by simp; omega
theorem size_no (s : ByteArray) (n : Nat) (h1 : ¬ (1 ≤ s.size ∧ s.size ≤ n)) : (decide (1 ≤ s.size) && decide ((s.size : Int) ≤ (n : Int))) = false := by
  rw [Bool.and_eq_false_iff, decide_eq_false_iff_not, decide_eq_false_iff_not]; omega

set_option maxRecDepth 100000 in
theorem right_any (s : ByteArray) (hs : s.size ≤ 9223372036854775807) (w : World) : Calls Tryd.prog 7 #[.string s] w fun e w' => e = .returned (.bool (right s.data.toList)) ∧ w' = w := by
  have hsl := size_len s
  have hr : right s.data.toList = (decide (1 ≤ s.size) && decide ((s.size : Int) ≤ ((12 : Nat) : Int)) && letter (s.data.toList.getD 0 0) && decide (other word s.data.toList = s.size)) := by
    rw [← hsl, other_eq, right]
    congr 3
    rw [decide_eq_decide]
    omega
  have HON := Lib.hid (onlyWord_any s hs)
  have hsz := sized_any s 12 w
  by_cases h1 : 1 ≤ s.size ∧ s.size ≤ 12
  · rw [size_ok s 12 h1, Bool.true_and] at hr
    have e1 := size_ok s 12 h1
    rw [show (((12 : Nat) : Int)) = 12 from rfl] at e1
    rw [e1] at hsz
    clear e1
    have HSZ := Lib.hid hsz
    clear hsz
    have hpos : 0 < s.size := by omega
    have hf := at_getD s 0 hpos
    rw [← hf] at hr
    clear hf hsl h1
    rw [hr]
    clear hr
    generalize hB : s[0]'hpos = b at *
    cases hl : letter b with
    | false =>
      rw [Bool.false_and]
      go_enter Tryd.func7, Tryd.ntmps7
      go_wp2_with fail
      refine HSZ.out.mono ?_
      rintro e w1 ⟨rfl, hw⟩
      subst hw
      go_wp2_with fail
      refine (letter_any b _).mono ?_
      rintro e w2 ⟨rfl, hw⟩
      subst hw
      rw [hl]
      go_wp2
      go_returns
      exact ⟨rfl, rfl⟩
    | true =>
      rw [Bool.true_and]
      go_enter Tryd.func7, Tryd.ntmps7
      go_wp2_with fail
      refine HSZ.out.mono ?_
      rintro e w1 ⟨rfl, hw⟩
      subst hw
      go_wp2_with fail
      refine (letter_any b _).mono ?_
      rintro e w2 ⟨rfl, hw⟩
      subst hw
      rw [hl]
      go_wp2_with fail
      refine (HON.out _).mono ?_
      rintro e w3 ⟨rfl, hw⟩
      subst hw
      go_wp2
      go_returns
      exact ⟨rfl, rfl⟩
  · rw [size_no s 12 h1, Bool.false_and, Bool.false_and] at hr
    have e1 := size_no s 12 h1
    rw [show (((12 : Nat) : Int)) = 12 from rfl] at e1
    rw [e1] at hsz
    clear e1
    have HSZ := Lib.hid hsz
    clear hsz
    rw [hr]
    clear hr hsl
    go_enter Tryd.func7, Tryd.ntmps7
    go_wp2_with fail
    refine HSZ.out.mono ?_
    rintro e w1 ⟨rfl, hw⟩
    subst hw
    go_wp2
    go_returns
    exact ⟨rfl, rfl⟩

theorem ne32 (x : UInt8) : ((x.toNat : Int) != 32) = (x != 32) := by
  have e : ((x.toNat : Int) == 32) = (x == 32) := by
    rw [Bool.eq_iff_iff, beq_iff_eq, beq_iff_eq, ← UInt8.toNat_inj]
    show _ ↔ x.toNat = 32
    omega
  unfold bne
  rw [e]

set_option maxRecDepth 100000 in
theorem text_any (s : ByteArray) (hs : s.size ≤ 9223372036854775807) (w : World) : Calls Tryd.prog 9 #[.string s] w fun e w' => e = .returned (.bool (text s.data.toList)) ∧ w' = w := by
  have hsl := size_len s
  have hr : text s.data.toList = (decide (1 ≤ s.size) && decide ((s.size : Int) ≤ ((40 : Nat) : Int)) && (s.data.toList.getD 0 0 != 32) && (s.data.toList.getD (s.size - 1) 0 != 32) && decide (other plain s.data.toList = s.size)) := by
    rw [← hsl, other_eq, text]
    congr 4
    rw [decide_eq_decide]
    omega
  have HON := Lib.hid (onlyPlain_any s hs)
  have hsz := sized_any s 40 w
  by_cases h1 : 1 ≤ s.size ∧ s.size ≤ 40
  · rw [size_ok s 40 h1, Bool.true_and] at hr
    have e1 := size_ok s 40 h1
    rw [show (((40 : Nat) : Int)) = 40 from rfl] at e1
    rw [e1] at hsz
    clear e1
    have HSZ := Lib.hid hsz
    clear hsz
    have hpos : 0 < s.size := by omega
    have hlast : s.size - 1 < s.size := by omega
    have hf := at_getD s 0 hpos
    have hg := at_getD s (s.size - 1) hlast
    rw [← hf, ← hg] at hr
    clear hf hg hsl h1
    rw [hr]
    clear hr
    have ecast : ((s.size : Int) - 1) = ((s.size - 1 : Nat) : Int) := by omega
    obtain ⟨b, hB⟩ : ∃ b, b = s[0]'hpos := ⟨_, rfl⟩
    obtain ⟨d, hD⟩ : ∃ d, d = s[s.size - 1]'hlast := ⟨_, rfl⟩
    rw [← hB, ← hD]
    have n1 := ne32 b
    have n2 := ne32 d
    rw [hB] at n1
    rw [hD] at n2
    cases hl : (b != 32) with
    | false =>
      rw [← hB, hl, hB] at n1
      rw [Bool.false_and, Bool.false_and]
      go_enter Tryd.func9, Tryd.ntmps9
      go_wp2_with fail
      refine HSZ.out.mono ?_
      rintro e w1 ⟨rfl, hw⟩
      subst hw
      go_wp2
      go_returns
      exact ⟨rfl, rfl⟩
    | true =>
      rw [← hB, hl, hB] at n1
      rw [Bool.true_and]
      cases hm : (d != 32) with
      | false =>
        rw [← hD, hm, hD] at n2
        rw [Bool.false_and]
        go_enter Tryd.func9, Tryd.ntmps9
        go_wp2_with fail
        refine HSZ.out.mono ?_
        rintro e w1 ⟨rfl, hw⟩
        subst hw
        go_wp2
        go_returns
        exact ⟨rfl, rfl⟩
      | true =>
        rw [← hD, hm, hD] at n2
        rw [Bool.true_and]
        go_enter Tryd.func9, Tryd.ntmps9
        go_wp2_with fail
        refine HSZ.out.mono ?_
        rintro e w1 ⟨rfl, hw⟩
        subst hw
        go_wp2_with fail
        refine (HON.out _).mono ?_
        rintro e w3 ⟨rfl, hw⟩
        subst hw
        go_wp2
        go_returns
        exact ⟨rfl, rfl⟩
  · rw [size_no s 40 h1, Bool.false_and, Bool.false_and, Bool.false_and] at hr
    have e1 := size_no s 40 h1
    rw [show (((40 : Nat) : Int)) = 40 from rfl] at e1
    rw [e1] at hsz
    clear e1
    have HSZ := Lib.hid hsz
    clear hsz
    rw [hr]
    clear hr hsl
    go_enter Tryd.func9, Tryd.ntmps9
    go_wp2_with fail
    refine HSZ.out.mono ?_
    rintro e w1 ⟨rfl, hw⟩
    subst hw
    go_wp2
    go_returns
    exact ⟨rfl, rfl⟩
end Go.Proofs.YtlcbhiokpjnoeaaDoor.Texts
