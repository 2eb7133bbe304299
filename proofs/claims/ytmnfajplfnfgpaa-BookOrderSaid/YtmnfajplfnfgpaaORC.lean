/-
  What is left of an order, by the document's reference.
  Conditions: those that each lemma names.
-/
import Derived.Test.YtmnfajplfnfgpaaOG
import Derived.Lib.Hide
namespace Go.Proofs.Ytmnfajplfnfgpaa.ORC
set_option maxRecDepth 100000
open Go Go.RowKit Go.Lib Go.Proofs.Ytmnfajplfnfgpaa Go.Proofs.Ytmnfajplfnfgpaa.Facts Go.Proofs.Ytmnfajplfnfgpaa.Ints Go.Proofs.Ytmnfajplfnfgpaa.PA Go.Proofs.Ytmnfajplfnfgpaa.UM Go.Proofs.Ytmnfajplfnfgpaa.UB Go.Proofs.Ytmnfajplfnfgpaa.OA Go.Proofs.Ytmnfajplfnfgpaa.BP Go.Proofs.Ytmnfajplfnfgpaa.OD Go.Proofs.Ytmnfajplfnfgpaa.OE Go.Proofs.Ytmnfajplfnfgpaa.OF Go.Proofs.Ytmnfajplfnfgpaa.OG Go.Proofs.Ytmnfajplfnfgpaa.Bytes


/-- What is left of an order of which so much is gone, by the document. -/
def rless (x : Or) (n : Nat) : Or := if x.left = n then zor else { x with left := x.left - n, res := (needP x.side (x.left - n) x.price).1 }
set_option maxHeartbeats 4000000 in
theorem rless_any (x : Or) (n : Nat) (w : World) (hx : SzO x) (hn : n ≤ x.left) : Calls Try.prog 50 #[orv x, .int .u64 (n : Int)] w fun e w' => e = .returned (orv (rless x n)) ∧ Grew w w' := by
  have HN := Lib.hid (fun W => rneed_any x.side (x.left - n) x.price (by have := hx.2.1; omega) hx.1 W)
  have hw := wsub x.left n hn hx.2.1
  unfold rless
  by_cases h : x.left = n
  · rw [if_pos h]
    subst h
    obtain ⟨us, lb, wh, sd, bs, qt, pr, lf, rs, sq⟩ := x
    unfold orv zor
    simp only
    clear HN hw hx hn
    go_enter Try.func50, Try.ntmps50
    go_wp2
    go_returns
    exact ⟨rfl, by unfold Grew; go_grown⟩
  · rw [if_neg h]
    obtain ⟨us, lb, wh, sd, bs, qt, pr, lf, rs, sq⟩ := x
    unfold orv two at *
    simp only at HN hw h ⊢
    have f1 : ((lf : Int) == (n : Int)) = false := by simp; omega
    obtain ⟨m, hm⟩ : ∃ m, lf - n = m := ⟨_, rfl⟩
    rw [hm] at HN hw ⊢
    generalize needP sd m pr = nd at *
    obtain ⟨r, e⟩ := nd
    clear hx hn hm h
    go_enter Try.func50, Try.ntmps50
    go_wp2_with fail
    refine (HN.out _).mono ?_
    rintro e' w' ⟨rfl, rfl⟩
    go_wp2
    go_returns
    exact ⟨rfl, by unfold Grew; go_grown⟩
end Go.Proofs.Ytmnfajplfnfgpaa.ORC
