/-
  What all orders hold of a coin, by the document's reference.
  Conditions: those that each lemma names.
-/
import Derived.Test.YtmnfajplfnfgpaaOZB
import Derived.Lib.Hide
import Derived.Deep.LoopGhost
namespace Go.Proofs.Ytmnfajplfnfgpaa.OU
set_option maxRecDepth 100000
open Go Go.RowKit Go.Lib Go.Proofs.Ytmnfajplfnfgpaa Go.Proofs.Ytmnfajplfnfgpaa.Facts Go.Proofs.Ytmnfajplfnfgpaa.Ints Go.Proofs.Ytmnfajplfnfgpaa.PA Go.Proofs.Ytmnfajplfnfgpaa.UM Go.Proofs.Ytmnfajplfnfgpaa.UB Go.Proofs.Ytmnfajplfnfgpaa.OA Go.Proofs.Ytmnfajplfnfgpaa.BP Go.Proofs.Ytmnfajplfnfgpaa.OD Go.Proofs.Ytmnfajplfnfgpaa.OE Go.Proofs.Ytmnfajplfnfgpaa.OY Go.Proofs.Ytmnfajplfnfgpaa.OZA Go.Proofs.Ytmnfajplfnfgpaa.OZB Go.Proofs.Ytmnfajplfnfgpaa.Bytes


theorem holds_all (x : Or) (c : Int) (w : World) : Calls Try.prog 26 #[orv x, .int .i64 c] w fun e w' => e = .returned (.int .u64 (con c x : Int)) ∧ Grew w w' := by
  cases hu : x.used with
  | true =>
    have h := holds_any x c w hu
    rw [show givR x c = con c x by unfold con givR; rw [hu]; simp] at h
    exact h
  | false =>
    have e : con c x = 0 := by unfold con; rw [hu]; rfl
    rw [e]
    obtain ⟨us, lb, wh, sd, bs, qt, pr, lf, rs, sq⟩ := x
    simp only at hu
    subst hu
    unfold orv
    simp only
    clear e
    go_enter Try.func26, Try.ntmps26
    go_wp2
    go_returns
    exact ⟨rfl, by unfold Grew; go_grown⟩
theorem held_sum (l : List Or) (c : Int) : heldP l c = if coinB c = false then (0, 1) else sumN (l.map (con c)) 0 := by
  rw [held_is, sumN_is _ _ (Nat.zero_le _), Nat.zero_add, ← held_con]
theorem con_lt {x : Or} (h : WfO x) (c : Int) : con c x < 18446744073709551616 := by
  unfold con
  have := h.1.2.2
  split <;> omega
set_option maxHeartbeats 4000000 in
theorem rheld_any (v : Value) (l : List Or) (c : Int) (w : World) (h : Ors w v l) (hl : l.length ≤ 1000) (hs : ∀ x ∈ l, WfO x) :
    Calls Try.prog 14 #[v, .int .i64 c] w fun e w' => e = .returned (two (heldP l c)) ∧ Grew w w' := by
  rw [held_sum]
  have HR := Lib.hid h
  have HSS := Lib.hid hs
  have HLN := Lib.hid hl
  obtain ⟨A, ca, rfl, _⟩ := h.slice
  clear h hs hl
  by_cases hc : coinB c = false
  · rw [if_pos hc]
    unfold two
    by_cases h0 : c < 0
    · clear hc HSS
      go_enter Try.func14, Try.ntmps14
      go_wp2
      go_returns
      exact ⟨rfl, by unfold Grew; go_grown⟩
    · have h3 : 3 < c := by
        unfold coinB at hc
        simp only [decide_eq_false_iff_not] at hc
        omega
      clear hc HSS
      go_enter Try.func14, Try.ntmps14
      go_wp2
      go_returns
      exact ⟨rfl, by unfold Grew; go_grown⟩
  · rw [if_neg hc]
    have hc1 : ¬ c < 0 ∧ ¬ 3 < c := by
      unfold coinB at hc
      simp only [decide_eq_false_iff_not] at hc
      omega
    obtain ⟨h0, h3⟩ := hc1
    clear hc
    have HS0 : Hid (sumN ((l.map (con c)).drop 0) 0 = sumN (l.map (con c)) 0) := Lib.hid (by rw [List.drop_zero])
    have HT0 : Hid (0 ≤ top) := Lib.hid (Nat.zero_le _)
    have HEND : Hid (∀ s, sumN ((l.map (con c)).drop l.length) s = (s, 0)) := Lib.hid fun s => by
      rw [List.drop_of_length_le (by rw [List.length_map]; exact Nat.le_refl _)]
      rfl
    obtain ⟨R, hR⟩ : ∃ R, sumN (l.map (con c)) 0 = R := ⟨_, rfl⟩
    rw [hR] at HS0 ⊢
    clear hR
    go_enter Try.func14, Try.ntmps14
    go_wp2
    go_loopg [6, 7] l.length (fun g s6 s7 wx => ∃ k s : Nat, k + g = l.length ∧ s6 = .int .u64 (s : Int) ∧ s7 = .int .i64 k ∧ Hid (sumN ((l.map (con c)).drop k) s = R) ∧ Hid (s ≤ top) ∧ Hid (Grew w wx))
    case atStart => exact ⟨0, 0, by omega, rfl, rfl, HS0, HT0, Lib.hid (Grew.refl _)⟩
    case round =>
      obtain ⟨k, s, hkg, rfl, rfl, HS, HT, HG⟩ := hrel
      cases gk with
      | zero =>
        have hkz : ¬ ((k : Int) < (l.length : Int)) := by omega
        have HE : Hid (R = (s, 0)) := Lib.hid (by rw [← HS.out, show k = l.length by omega]; exact HEND.out s)
        go_wp2
        go_returns
        refine ⟨?_, HG.out⟩
        rw [HE.out]
        rfl
      | succ g =>
        have hkz : (k : Int) < (l.length : Int) := by omega
        have hkl : k < l.length := by omega
        have HW1 := Lib.hid (PA.wr1b hkl (by have := HLN.out; omega))
        have HN := Lib.hid (sum_at (l.map (con c)) k s (con c (eo l k)) (by rw [List.getElem?_map, eo_get hkl]; rfl))
        have hcl := con_lt (HSS.out _ (List.mem_of_getElem? (eo_get hkl))) c
        have hst := HT.out
        have HP := Lib.hid (rplus_any s (con c (eo l k)) (by unfold top at hst; omega) hcl)
        have HPL := Lib.hid (plus_le s (con c (eo l k)))
        have HH := Lib.hid (fun W => holds_all (eo l k) c W)
        obtain ⟨ad, c9, e, _, d0, d1, d2, d3, d4, d5, d6, d7, d8, d9⟩ := Ors_at (HR.out.grew HG.out) (eo_get hkl)
        injection e with e1 e2 e3
        subst e1 e3
        clear e2 hcl hst
        generalize con c (eo l k) = x at *
        generalize eo l k = o at *
        obtain ⟨us, lb, wh, sd, bs, qt, pr, lf, rs, sq⟩ := o
        unfold orv at HH
        simp only at HH d0 d1 d2 d3 d4 d5 d6 d7 d8 d9
        rcases hp : plusN s x with ⟨t, q⟩
        rw [hp] at HP HN HPL
        clear hp
        unfold two at HP
        by_cases hq : q = 0
        · subst hq
          have HS2 : Hid (sumN ((l.map (con c)).drop (k + 1)) t = R) := Lib.hid (by have := HN.out; rw [if_pos rfl, HS.out] at this; exact this.symm)
          have HT2 : Hid (t ≤ top) := Lib.hid (HPL.out rfl)
          clear HN HPL HS HT
          go_wp2_with fail
          refine (HH.out _).mono ?_
          rintro e w1 ⟨rfl, hg⟩
          have G1 := Lib.hid (HG.out.trans hg)
          clear hg d0 d1 d2 d3 d4 d5 d6 d7 d8 d9
          go_wp2_with fail
          refine (HP.out _).mono ?_
          rintro e w' ⟨rfl, rfl⟩
          go_wp2
          go_roundg g
          case measure => omega
          case rel => exact ⟨k + 1, t, by omega, rfl, by first | rfl | (simp; done) | rw [HW1.out], HS2, HT2, G1⟩
        · have HE : Hid (R = (0, q)) := Lib.hid (by rw [← HS.out, HN.out]; exact if_neg hq)
          have hq1 : (q != 0) = true := by simp [hq]
          clear HN HPL HS HT hq
          go_wp2_with fail
          refine (HH.out _).mono ?_
          rintro e w1 ⟨rfl, hg⟩
          have G1 := Lib.hid (HG.out.trans hg)
          clear hg d0 d1 d2 d3 d4 d5 d6 d7 d8 d9
          go_wp2_with fail
          refine (HP.out _).mono ?_
          rintro e w' ⟨rfl, rfl⟩
          go_wp2
          go_returns
          refine ⟨?_, G1.out⟩
          rw [HE.out]
          rfl
end Go.Proofs.Ytmnfajplfnfgpaa.OU
