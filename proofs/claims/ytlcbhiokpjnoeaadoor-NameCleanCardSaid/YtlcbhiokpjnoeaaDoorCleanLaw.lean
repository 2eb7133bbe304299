/-
  For any text: a name is a text; what is clean is a text, or empty; a text is its own clean one; cleaning again changes nothing: NameClean answers true.
  Conditions: a text's size.
-/
import Derived.Test.YtlcbhiokpjnoeaaDoorAlive
namespace Go.Proofs.YtlcbhiokpjnoeaaDoor.CleanLaw
open Go Go.RowKit Go.Proofs.YtlcbhiokpjnoeaaDoor Go.Proofs.YtlcbhiokpjnoeaaDoor.Facts Go.Proofs.YtlcbhiokpjnoeaaDoor.Chars Go.Proofs.YtlcbhiokpjnoeaaDoor.Texts Go.Proofs.YtlcbhiokpjnoeaaDoor.Pure Go.Proofs.YtlcbhiokpjnoeaaDoor.Calls_ Go.Proofs.YtlcbhiokpjnoeaaDoor.Alive

theorem str_ne {s : ByteArray} (h : s ≠ ⟨#[]⟩) : ¬ s.toList = [] := by
  rw [ByteArray.toList_eq]
  intro e
  apply h
  cases s
  simp at e
  rw [e]
theorem arr_of (s : ByteArray) : (⟨s.data.toList.toArray⟩ : ByteArray) = s := by
  cases s
  simp

set_option maxRecDepth 100000 in
set_option maxHeartbeats 2000000 in
theorem law_any (s : ByteArray) (hs : s.size ≤ 140737488355328) (w : World) : Calls Tryd.prog 5 #[.string s] w fun e w' => e = .returned (.bool true) ∧ Grew w w' := by
  have hs63 : s.size ≤ 9223372036854775807 := by omega
  obtain ⟨cs, hcs⟩ : ∃ cs : ByteArray, cs = ⟨(clean s.data.toList).toArray⟩ := ⟨_, rfl⟩
  have hct : cs.data.toList = clean s.data.toList := by rw [hcs]
  have hlen : cs.size ≤ s.size := by rw [← size_len, ← size_len, hct]; exact clean_len _
  have HC := Lib.hid (show ∀ W, Calls Tryd.prog 11 #[.string s] W fun e w' => e = .returned (.string cs) ∧ Grew W w' from fun W => by have := clean_any s hs W; rw [← hcs] at this; exact this)
  have HCC := Lib.hid (show ∀ W, Calls Tryd.prog 11 #[.string cs] W fun e w' => e = .returned (.string cs) ∧ Grew W w' from fun W => by have := clean_any cs (by omega) W; rw [hct, clean_clean, ← hcs] at this; exact this)
  have HTC := Lib.hid (show cs ≠ ⟨#[]⟩ → ∀ W, Calls Tryd.prog 9 #[.string cs] W fun e w' => e = .returned (.bool true) ∧ w' = W from fun hne W => by
    have := text_any cs (by omega) W
    rw [hct, clean_text _ (fun e => hne (by rw [hcs, e]))] at this
    exact this)
  cases ht : text s.data.toList with
  | true =>
    have e : cs = s := by rw [hcs, clean_id _ ht, arr_of]
    subst e
    have HT := Lib.hid (show ∀ W, Calls Tryd.prog 9 #[.string cs] W fun e w' => e = .returned (.bool true) ∧ w' = W from fun W => by have := text_any cs hs63 W; rw [ht] at this; exact this)
    cases hr : right cs.data.toList with
    | true =>
      have HR := Lib.hid (show ∀ W, Calls Tryd.prog 7 #[.string cs] W fun e w' => e = .returned (.bool true) ∧ w' = W from fun W => by have := right_any cs hs63 W; rw [hr] at this; exact this)
      clear hcs hct ht hr
      go_enter Tryd.func5, Tryd.ntmps5
      go_wp2_with fail
      refine (HC.out _).mono ?_
      rintro e w1 ⟨rfl, h1⟩
      have HG := Lib.hid h1
      clear h1
      go_wp2_with fail
      refine (HR.out _).mono ?_
      rintro e w2 ⟨rfl, hw⟩
      subst hw

      go_wp2_with fail
      refine (HT.out _).mono ?_
      rintro e w3 ⟨rfl, hw⟩
      subst hw

      go_wp2_with fail
      refine (HT.out _).mono ?_
      rintro e w4 ⟨rfl, hw⟩
      subst hw

      by_cases he : cs = ⟨#[]⟩
      · subst he
        go_wp2_with fail
        refine (alive_any _).mono ?_
        rintro e w8 ⟨rfl, h8⟩
        replace HG := Lib.hid (HG.out.trans h8)
        clear h8
        go_wp2_with fail
        refine (HCC.out _).mono ?_
        rintro e w9 ⟨rfl, h9⟩
        replace HG := Lib.hid (HG.out.trans h9)
        clear h9
        go_wp2
        go_returns
        exact ⟨rfl, HG.out⟩
      · have hne := str_ne he
        go_wp2_with fail
        refine (HTC.out he _).mono ?_
        rintro e w7 ⟨rfl, hw⟩
        subst hw
        go_wp2_with fail
        refine (alive_any _).mono ?_
        rintro e w8 ⟨rfl, h8⟩
        replace HG := Lib.hid (HG.out.trans h8)
        clear h8
        go_wp2_with fail
        refine (HCC.out _).mono ?_
        rintro e w9 ⟨rfl, h9⟩
        replace HG := Lib.hid (HG.out.trans h9)
        clear h9
        go_wp2
        go_returns
        exact ⟨rfl, HG.out⟩
    | false =>
      have HR := Lib.hid (show ∀ W, Calls Tryd.prog 7 #[.string cs] W fun e w' => e = .returned (.bool false) ∧ w' = W from fun W => by have := right_any cs hs63 W; rw [hr] at this; exact this)
      clear hcs hct ht hr
      go_enter Tryd.func5, Tryd.ntmps5
      go_wp2_with fail
      refine (HC.out _).mono ?_
      rintro e w1 ⟨rfl, h1⟩
      have HG := Lib.hid h1
      clear h1
      go_wp2_with fail
      refine (HR.out _).mono ?_
      rintro e w2 ⟨rfl, hw⟩
      subst hw

      go_wp2_with fail
      refine (HT.out _).mono ?_
      rintro e w4 ⟨rfl, hw⟩
      subst hw

      by_cases he : cs = ⟨#[]⟩
      · subst he
        go_wp2_with fail
        refine (alive_any _).mono ?_
        rintro e w8 ⟨rfl, h8⟩
        replace HG := Lib.hid (HG.out.trans h8)
        clear h8
        go_wp2_with fail
        refine (HCC.out _).mono ?_
        rintro e w9 ⟨rfl, h9⟩
        replace HG := Lib.hid (HG.out.trans h9)
        clear h9
        go_wp2
        go_returns
        exact ⟨rfl, HG.out⟩
      · have hne := str_ne he
        go_wp2_with fail
        refine (HTC.out he _).mono ?_
        rintro e w7 ⟨rfl, hw⟩
        subst hw
        go_wp2_with fail
        refine (alive_any _).mono ?_
        rintro e w8 ⟨rfl, h8⟩
        replace HG := Lib.hid (HG.out.trans h8)
        clear h8
        go_wp2_with fail
        refine (HCC.out _).mono ?_
        rintro e w9 ⟨rfl, h9⟩
        replace HG := Lib.hid (HG.out.trans h9)
        clear h9
        go_wp2
        go_returns
        exact ⟨rfl, HG.out⟩
  | false =>
    have hr : right s.data.toList = false := by
      cases hr : right s.data.toList with
      | false => rfl
      | true => rw [right_text _ hr] at ht; cases ht
    have HT := Lib.hid (show ∀ W, Calls Tryd.prog 9 #[.string s] W fun e w' => e = .returned (.bool false) ∧ w' = W from fun W => by have := text_any s hs63 W; rw [ht] at this; exact this)
    have HR := Lib.hid (show ∀ W, Calls Tryd.prog 7 #[.string s] W fun e w' => e = .returned (.bool false) ∧ w' = W from fun W => by have := right_any s hs63 W; rw [hr] at this; exact this)
    clear hcs hct ht hr
    have hsz : (cs.size : Int) ≤ (s.size : Int) := by omega
    go_enter Tryd.func5, Tryd.ntmps5
    go_wp2_with fail
    refine (HC.out _).mono ?_
    rintro e w1 ⟨rfl, h1⟩
    have HG := Lib.hid h1
    clear h1
    go_wp2_with fail
    refine (HR.out _).mono ?_
    rintro e w2 ⟨rfl, hw⟩
    subst hw

    go_wp2_with fail
    refine (HT.out _).mono ?_
    rintro e w4 ⟨rfl, hw⟩
    subst hw

    by_cases he : cs = ⟨#[]⟩
    · subst he
      go_wp2_with fail
      refine (alive_any _).mono ?_
      rintro e w8 ⟨rfl, h8⟩
      replace HG := Lib.hid (HG.out.trans h8)
      clear h8
      go_wp2_with fail
      refine (HCC.out _).mono ?_
      rintro e w9 ⟨rfl, h9⟩
      replace HG := Lib.hid (HG.out.trans h9)
      clear h9
      go_wp2
      go_returns
      exact ⟨rfl, HG.out⟩
    · have hne := str_ne he
      go_wp2_with fail
      refine (HTC.out he _).mono ?_
      rintro e w7 ⟨rfl, hw⟩
      subst hw
      go_wp2_with fail
      refine (alive_any _).mono ?_
      rintro e w8 ⟨rfl, h8⟩
      replace HG := Lib.hid (HG.out.trans h8)
      clear h8
      go_wp2_with fail
      refine (HCC.out _).mono ?_
      rintro e w9 ⟨rfl, h9⟩
      replace HG := Lib.hid (HG.out.trans h9)
      clear h9
      go_wp2
      go_returns
      exact ⟨rfl, HG.out⟩
end Go.Proofs.YtlcbhiokpjnoeaaDoor.CleanLaw
