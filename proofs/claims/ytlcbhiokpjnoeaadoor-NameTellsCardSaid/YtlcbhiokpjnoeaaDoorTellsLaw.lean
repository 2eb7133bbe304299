/-
  For any text: which are names, which are texts, and what is clean, is told as the document tells it: NameTells answers true.
  Conditions: a text's size.
-/
import Derived.Test.YtlcbhiokpjnoeaaDoorAlive
import Derived.Test.YtlcbhiokpjnoeaaDoorRefs
import Derived.Test.YtlcbhiokpjnoeaaDoorRclean
namespace Go.Proofs.YtlcbhiokpjnoeaaDoor.TellsLaw
open Go Go.RowKit Go.Proofs.YtlcbhiokpjnoeaaDoor Go.Proofs.YtlcbhiokpjnoeaaDoor.Facts Go.Proofs.YtlcbhiokpjnoeaaDoor.Chars Go.Proofs.YtlcbhiokpjnoeaaDoor.Texts Go.Proofs.YtlcbhiokpjnoeaaDoor.Pure Go.Proofs.YtlcbhiokpjnoeaaDoor.Calls_ Go.Proofs.YtlcbhiokpjnoeaaDoor.Alive Go.Proofs.YtlcbhiokpjnoeaaDoor.Refs Go.Proofs.YtlcbhiokpjnoeaaDoor.Rclean

set_option maxRecDepth 100000 in
set_option maxHeartbeats 2000000 in
theorem law_any (s : ByteArray) (hs : s.size ≤ 140737488355328) (w : World) : Calls Tryd.prog 3 #[.string s] w fun e w' => e = .returned (.bool true) ∧ Grew w w' := by
  have hs63 : s.size ≤ 9223372036854775807 := by omega
  by_cases hbig : (1000 : Int) < (s.size : Int)
  · go_enter Tryd.func3, Tryd.ntmps3
    go_wp2_with fail
    refine (alive_any _).mono ?_
    rintro e w1 ⟨rfl, h1⟩
    go_wp2
    go_returns
    exact ⟨rfl, h1⟩
  · have HR := Lib.hid (right_any s hs63)
    have HRR := Lib.hid (rright_any s hs63)
    have HT := Lib.hid (text_any s hs63)
    have HRT := Lib.hid (rtext_any s hs63)
    have HC := Lib.hid (clean_any s hs)
    have HRC := Lib.hid (rclean_any s hs)
    generalize right s.data.toList = r at *
    generalize text s.data.toList = t at *
    generalize (⟨(clean s.data.toList).toArray⟩ : ByteArray) = c at *
    go_enter Tryd.func3, Tryd.ntmps3
    go_wp2_with fail
    refine (alive_any _).mono ?_
    rintro e w1 ⟨rfl, h1⟩
    have HG := Lib.hid h1
    clear h1
    go_wp2_with fail
    refine (HR.out _).mono ?_
    rintro e w2 ⟨rfl, hw⟩
    subst hw
    go_wp2_with fail
    refine (HRR.out _).mono ?_
    rintro e w2 ⟨rfl, hw⟩
    subst hw
    go_wp2_with fail
    refine (HT.out _).mono ?_
    rintro e w2 ⟨rfl, hw⟩
    subst hw
    go_wp2_with fail
    refine (HRT.out _).mono ?_
    rintro e w2 ⟨rfl, hw⟩
    subst hw
    go_wp2_with fail
    refine (HC.out _).mono ?_
    rintro e w3 ⟨rfl, h3⟩
    replace HG := Lib.hid (HG.out.trans h3)
    clear h3
    go_wp2_with fail
    refine (HRC.out _).mono ?_
    rintro e w2 ⟨rfl, hw⟩
    subst hw
    go_wp2
    go_returns
    exact ⟨rfl, HG.out⟩
end Go.Proofs.YtlcbhiokpjnoeaaDoor.TellsLaw
