/-
  The first slot that is free, by the document's reference.
  Conditions: those that each lemma names.
-/
import Derived.Test.YtmnfajplfnfgpaaOD
import Derived.Lib.Hide
import Derived.Deep.LoopGhost
namespace Go.Proofs.Ytmnfajplfnfgpaa.ORB
set_option maxRecDepth 100000
open Go Go.RowKit Go.Lib Go.Proofs.Ytmnfajplfnfgpaa Go.Proofs.Ytmnfajplfnfgpaa.Facts Go.Proofs.Ytmnfajplfnfgpaa.Ints Go.Proofs.Ytmnfajplfnfgpaa.PA Go.Proofs.Ytmnfajplfnfgpaa.UM Go.Proofs.Ytmnfajplfnfgpaa.UB Go.Proofs.Ytmnfajplfnfgpaa.OA Go.Proofs.Ytmnfajplfnfgpaa.BP Go.Proofs.Ytmnfajplfnfgpaa.OD Go.Proofs.Ytmnfajplfnfgpaa.Bytes


theorem eo_of {l : List Or} {j : Nat} {y : Or} (h : l[j]? = some y) : y = eo l j := by unfold eo; rw [h]; rfl
set_option maxHeartbeats 4000000 in
theorem rfree_any (v : Value) (l : List Or) (w : World) (h : Ors w v l) (hl : l.length ≤ 1000) :
    Calls Try.prog 48 #[v] w fun e w' => e = .returned (.int .i64 (ordfree l)) ∧ Grew w w' := by
  have HR := Lib.hid h
  have HLN := Lib.hid hl
  obtain ⟨A, ca, rfl, _⟩ := h.slice
  clear h hl
  go_enter Try.func48, Try.ntmps48
  go_wp2
  go_loopg [3] l.length (fun g s3 wx => ∃ k : Nat, k + g = l.length ∧ s3 = .int .i64 k ∧ Hid (∀ j, j < k → (eo l j).used = true) ∧ Hid (Grew w wx))
  case atStart => exact ⟨0, by omega, rfl, Lib.hid (fun j hj => absurd hj (by omega)), Lib.hid (Grew.refl _)⟩
  case round =>
    obtain ⟨k, hkg, rfl, HI, HG⟩ := hrel
    cases gk with
    | zero =>
      have hkz : ¬ ((k : Int) < (l.length : Int)) := by omega
      have HE : Hid (ordfree l = -1) := Lib.hid (fidx_miss fun j y hj => by
        have := HI.out j (by have := (List.getElem?_eq_some_iff.1 hj).1; omega)
        rw [eo_of hj, this]; rfl)
      go_wp2
      go_returns
      refine ⟨?_, HG.out⟩
      rw [HE.out]
      rfl
    | succ g =>
      have hkz : (k : Int) < (l.length : Int) := by omega
      have hkl : k < l.length := by omega
      have HW1 := Lib.hid (PA.wr1b hkl (by have := HLN.out; omega))
      have HH : Hid ((eo l k).used = false → ordfree l = k) := Lib.hid fun hu => fidx_hit (eo_get hkl) (by rw [hu]; rfl) fun j y hj hy => by
        rw [eo_of hy, HI.out j hj]; rfl
      obtain ⟨ad, c9, e, _, d0, _⟩ := Ors_at (HR.out.grew HG.out) (eo_get hkl)
      injection e with e1 e2 e3
      subst e1 e3
      clear e2 hkl
      cases hu : (eo l k).used with
      | false =>
        rw [hu] at d0
        have HE := Lib.hid (HH.out hu)
        clear HH hu
        go_wp2
        go_returns
        refine ⟨?_, HG.out⟩
        rw [HE.out]
        rfl
      | true =>
        rw [hu] at d0
        have HI2 : Hid (∀ j, j < k + 1 → (eo l j).used = true) := Lib.hid fun j hj => by
          rcases Nat.lt_or_ge j k with h | h
          · exact HI.out j h
          · rw [show j = k by omega]; exact hu
        clear HH hu
        go_wp2
        go_roundg g
        case measure => omega
        case rel => exact ⟨k + 1, by omega, by first | rfl | (simp; done) | rw [HW1.out], HI2, HG⟩
end Go.Proofs.Ytmnfajplfnfgpaa.ORB
