/-
  What an order holds of a coin.
  Conditions: those that each lemma names.
-/
import Derived.Test.YtmnfajplfnfgpaaOZA
import Derived.Lib.Hide
namespace Go.Proofs.Ytmnfajplfnfgpaa.OZB
set_option maxRecDepth 100000
open Go Go.RowKit Go.Lib Go.Proofs.Ytmnfajplfnfgpaa Go.Proofs.Ytmnfajplfnfgpaa.Facts Go.Proofs.Ytmnfajplfnfgpaa.Ints Go.Proofs.Ytmnfajplfnfgpaa.PA Go.Proofs.Ytmnfajplfnfgpaa.UM Go.Proofs.Ytmnfajplfnfgpaa.UB Go.Proofs.Ytmnfajplfnfgpaa.OA Go.Proofs.Ytmnfajplfnfgpaa.BP Go.Proofs.Ytmnfajplfnfgpaa.BQ Go.Proofs.Ytmnfajplfnfgpaa.OE Go.Proofs.Ytmnfajplfnfgpaa.OY Go.Proofs.Ytmnfajplfnfgpaa.OZA Go.Proofs.Ytmnfajplfnfgpaa.Bytes


theorem holds_any (x : Or) (c : Int) (w : World) (hu : x.used = true) : Calls Try.prog 26 #[orv x, .int .i64 c] w fun e w' => e = .returned (.int .u64 (givR x c : Int)) ∧ Grew w w' := by
  obtain ⟨us, lb, wh, sd, bs, qt, pr, lf, rs, sq⟩ := x
  simp only at hu
  subst hu
  unfold orv givR givC
  simp only
  by_cases h1 : sd = 2
  · subst h1
    by_cases h2 : bs = c
    · subst h2
      go_enter Try.func26, Try.ntmps26
      go_wp2
      go_returns
      exact ⟨by simp, by unfold Grew; go_grown⟩
    · have f2 : (bs == c) = false := by simp [h2]
      have h3 : (if (2 : Int) = 2 then bs else qt) ≠ c := by simpa using h2
      rw [if_neg h3]
      clear h3
      go_enter Try.func26, Try.ntmps26
      go_wp2
      go_returns
      exact ⟨rfl, by unfold Grew; go_grown⟩
  · have f1 : (sd == 2) = false := by simp [h1]
    have f3 : (sd != 2) = true := by simp [h1]
    by_cases h2 : qt = c
    · subst h2
      rw [if_neg h1, if_pos rfl]
      go_enter Try.func26, Try.ntmps26
      go_wp2
      go_returns
      exact ⟨rfl, by unfold Grew; go_grown⟩
    · have f2 : (qt == c) = false := by simp [h2]
      rw [if_neg h1, if_neg h2]
      go_enter Try.func26, Try.ntmps26
      go_wp2
      go_returns
      exact ⟨rfl, by unfold Grew; go_grown⟩
end Go.Proofs.Ytmnfajplfnfgpaa.OZB
