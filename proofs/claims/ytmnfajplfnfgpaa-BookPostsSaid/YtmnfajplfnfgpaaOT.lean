/-
  The document's lists of slots; is there an order of a number; equal lists of numbers.
  Conditions: those that each lemma names.
-/
import Derived.Test.YtmnfajplfnfgpaaOD
import Derived.Test.YtmnfajplfnfgpaaOP
import Derived.Lib.Hide
import Derived.Deep.LoopGhost
namespace Go.Proofs.Ytmnfajplfnfgpaa.OT
set_option maxRecDepth 100000
open Go Go.RowKit Go.Lib Go.Proofs.Ytmnfajplfnfgpaa Go.Proofs.Ytmnfajplfnfgpaa.Facts Go.Proofs.Ytmnfajplfnfgpaa.Ints Go.Proofs.Ytmnfajplfnfgpaa.PA Go.Proofs.Ytmnfajplfnfgpaa.UM Go.Proofs.Ytmnfajplfnfgpaa.UB Go.Proofs.Ytmnfajplfnfgpaa.OA Go.Proofs.Ytmnfajplfnfgpaa.BP Go.Proofs.Ytmnfajplfnfgpaa.OD Go.Proofs.Ytmnfajplfnfgpaa.Bytes

set_option maxHeartbeats 2000000 in
theorem ints_any (w : World) (v v2 : Value) (l m : List Int) (h : Is w v l) (h2 : Is w v2 m) :
    Calls Try.prog 18 #[v, v2] w fun e w' => e = .returned (.bool (decide (l = m))) ∧ Grew w w' := by
  have HL := Lib.hid h
  have HM := Lib.hid h2
  obtain ⟨A, c, rfl, a1, a2, a3, a4⟩ := h
  obtain ⟨B, d, rfl, b1, b2, b3, b4⟩ := h2
  clear a4 b4 a3 b3
  unfold maxLen at a2 b2
  by_cases hlen : l.length = m.length
  · rw [← hlen]
    have HLEN := Lib.hid hlen
    have HEQ : Hid ((∀ j, j < l.length → l[j]?.getD 0 = m[j]?.getD 0) → l = m) := Lib.hid fun hh => by
      apply List.ext_getElem hlen
      intro j h1 h2
      have := hh j h1
      simpa [h1, h2] using this
    have HNE : Hid (∀ j, j < l.length → l[j]?.getD 0 ≠ m[j]?.getD 0 → decide (l = m) = false) := Lib.hid fun j hj hne => by
      rw [decide_eq_false_iff_not]
      intro e
      exact hne (by rw [e])
    clear hlen b1
    go_enter Try.func18, Try.ntmps18
    go_wp2
    go_loopg [5] l.length (fun g s5 wx => ∃ k : Nat, k + g = l.length ∧ s5 = .int .i64 k ∧ Hid (∀ j, j < k → l[j]?.getD 0 = m[j]?.getD 0) ∧ Grew w wx)
    case atStart => exact ⟨0, by omega, rfl, Lib.hid (fun j hj => absurd hj (by omega)), Grew.refl _⟩
    case round =>
      obtain ⟨k, hkg, rfl, HI, hbx⟩ := hrel
      cases gk with
      | zero =>
        have hkz : ¬ ((k : Int) < (l.length : Int)) := by omega
        have hres : decide (l = m) = true := by rw [decide_eq_true_iff]; exact HEQ.out fun j hj => HI.out j (by omega)
        have HRES := Lib.hid hres
        clear hres
        go_wp2
        go_returns
        refine ⟨?_, hbx⟩
        rw [HRES.out]
        rfl
      | succ g =>
        have hkz : (k : Int) < (l.length : Int) := by omega
        obtain ⟨ad, c', e, hcc, hcell⟩ := (HL.out.grew hbx).cell (k := k) (by omega)
        obtain ⟨ad2, c2', e2, hcc2, hcell2⟩ := (HM.out.grew hbx).cell (k := k) (by have := HLEN.out; omega)
        injection e with e1 _ e3
        subst e1 e3
        injection e2 with e1 _ e3
        subst e1 e3
        have HN : Hid (l[k]?.getD 0 = m[k]?.getD 0 → ∀ j, j < k + 1 → l[j]?.getD 0 = m[j]?.getD 0) := Lib.hid fun h j hj => by
          by_cases hjk : j = k
          · subst hjk; exact h
          · exact HI.out j (by omega)
        have HF := Lib.hid (HNE.out k (by omega))
        generalize l[k]?.getD 0 = x at hcell HN HF
        generalize m[k]?.getD 0 = y at hcell2 HN HF
        by_cases hxy : x = y
        · have HT := Lib.hid (HN.out hxy)
          subst hxy
          go_wp2
          refine Facts.wp_region_text (by kernel_rfl) (by kernel_rfl) ?_
          repeat
            apply Facts.Lex.exact [] _ (by kernel_rfl)
            · intro u W hC _
              have j0 := cellG hC hcell
              have j1 := cellG hC hcell2
              unfold Facts.one
              go_simp
              first | exact ⟨Grew.refl _, rfl⟩ | rfl
            simp only [Act.put, List.setIfInBounds_toArray, List.set_cons_zero, List.set_cons_succ, Nat.zero_add, Nat.reduceAdd]
          refine Facts.Lex.done fun u W2 hC hL => ?_
          have G2 := Lib.hid (hbx.trans hC)
          clear hC hL hcell hcell2 hbx
          go_wp2
          go_roundg g
          case measure => omega
          case rel => exact ⟨k + 1, by omega, by first | rfl | simp, HT, G2.out⟩
        · have HRES := Lib.hid (HF.out hxy)
          have hxy' : ¬ (x == y) = true := by simpa using hxy
          go_wp2
          refine Facts.wp_region_text (by kernel_rfl) (by kernel_rfl) ?_
          repeat
            apply Facts.Lex.exact [] _ (by kernel_rfl)
            · intro u W hC _
              have j0 := cellG hC hcell
              have j1 := cellG hC hcell2
              unfold Facts.one
              go_simp
              first | exact ⟨Grew.refl _, rfl⟩ | rfl
            simp only [Act.put, List.setIfInBounds_toArray, List.set_cons_zero, List.set_cons_succ, Nat.zero_add, Nat.reduceAdd]
          refine Facts.Lex.done fun u W2 hC hL => ?_
          have G2 := Lib.hid (hbx.trans hC)
          clear hC hL hcell hcell2 hbx
          go_wp2
          go_returns
          refine ⟨?_, G2.out⟩
          rw [HRES.out]
          rfl
  · have hlen' : ¬ (l.length : Int) = (m.length : Int) := by omega
    have hres : decide (l = m) = false := by rw [decide_eq_false_iff_not]; intro e; exact hlen (by rw [e])
    rw [hres]
    go_enter Try.func18, Try.ntmps18
    go_wp2
    go_returns
    exact ⟨rfl, Grew.refl _⟩
set_option maxHeartbeats 4000000 in
/-- The document's Slots. -/
theorem rslots_any (v : Value) (T : List Or) (w : World) (h : Ors w v T) (hl : T.length ≤ 1000) :
    Calls Try.prog 20 #[v] w fun e w' => ∃ v', e = .returned v' ∧ w'.ownsRow w.heap.size 3 1 v' (usl T).length (iv (usl T)) ∧ Grew w w' := by
  have HR := Lib.hid h
  obtain ⟨A, c, rfl, hlc, hcm, _⟩ := h
  have HL := Lib.hid hl
  clear hl hcm hlc
  unfold usl
  go_enter Try.func20, Try.ntmps20
  go_wp2
  go_loopg [3, 4] T.length (fun g s3 s4 wx => ∃ (k : Nat) (v3 : Value), k + g = T.length ∧ v3 = s3 ∧ s4 = .int .i64 k ∧ Hid (wx.ownsRow w.heap.size 3 1 s3 (uptoG zor (fun x : Or => x.used) T k).length (iv (uptoG zor (fun x : Or => x.used) T k))) ∧ Hid (Grew w wx))
  case atStart => exact ⟨0, _, by omega, rfl, rfl, Lib.hid (own_nil _ _), Lib.hid (Grew.refl _)⟩
  case round =>
    obtain ⟨k, v3, hkg, rfl, rfl, HI, HG⟩ := hrel
    cases gk with
    | zero =>
      have hkz : ¬ ((k : Int) < (T.length : Int)) := by omega
      have HE := HI
      rw [show k = T.length by omega] at HE
      go_wp2
      go_returns
      exact ⟨_, rfl, HE.out, HG.out⟩
    | succ g =>
      have hkz : (k : Int) < (T.length : Int) := by omega
      have hkl : k < T.length := by omega
      have HY := Lib.hid (uptoG_yes zor (fun x : Or => x.used) T k)
      have HN := Lib.hid (uptoG_no zor (fun x : Or => x.used) T k)
      rw [show T[k]?.getD zor = eo T k from rfl] at HY HN
      have hul := uptoG_len zor (fun x : Or => x.used) T k
      have HW1 := Lib.hid (PA.wr1b hkl (by have := HL.out; omega))
      have HSZ : Hid (((uptoG zor (fun x : Or => x.used) T k).length + 1) * 8 ≤ 140737488355328) := Lib.hid (by have := HL.out; omega)
      obtain ⟨ad, c9, e, _, d0, _⟩ := Ors_at (HR.out.grew HG.out) (eo_get hkl)
      injection e with e1 e2 e3
      subst e1 e3
      clear e2 hul hkl
      obtain ⟨t, ht⟩ : ∃ t, (eo T k).used = t := ⟨_, rfl⟩
      rw [ht] at d0
      have HT := Lib.hid ht
      clear ht
      cases t with
      | true =>
        have HE := Lib.hid (HY.out HT.out)
        obtain ⟨v', w3, hr, hown, hb⟩ := app_one wr w.heap.size v3 (uptoG zor (fun x : Or => x.used) T k) (k : Int) HI.out HSZ.out HG.out.size
        have HAPP := Lib.hid hr
        have HO := Lib.hid hown
        have HG3 : Hid (Grew w w3) := Lib.hid ((show Below w.heap.size w wr from HG.out).trans hb)
        clear hr hown hb
        go_wp2_with (at_builtin; refine wpList_app_want (.tmp 16) (.tmp 18) 36 (by rfl) (by rfl) _ _ rfl rfl v' w3 (by exact HAPP.out) ?_)
        go_roundg g
        case measure => omega
        case rel =>
          refine ⟨k + 1, _, by omega, rfl, by first | rfl | (simp; done) | rw [HW1.out], ?_, HG3⟩
          rw [HE.out]
          exact HO
      | false =>
        have HE := Lib.hid (HN.out HT.out)
        go_wp2
        go_roundg g
        case measure => omega
        case rel =>
          refine ⟨k + 1, _, by omega, rfl, by first | rfl | (simp; done) | rw [HW1.out], ?_, HG⟩
          rw [HE.out]
          exact HI
theorem any_take (p : Or → Bool) (l : List Or) (k : Nat) (hk : k < l.length) : (l.take (k + 1)).any p = ((l.take k).any p || p (eo l k)) := by
  rw [List.take_add_one, eo_get hk, List.any_append]
  simp
set_option maxHeartbeats 4000000 in
/-- Is there an order of a number among the first ones? -/
theorem has_any (v : Value) (T : List Or) (m : Nat) (s : Int) (w : World) (h : Ors w v T) (hl : T.length ≤ 1000) (hm : m ≤ T.length) :
    Calls Try.prog 42 #[v, .int .i64 m, .int .i64 s] w fun e w' => e = .returned (.bool ((T.take m).any fun x => x.used && decide (x.seq = s))) ∧ Grew w w' := by
  have HR := Lib.hid h
  obtain ⟨A, c, rfl, _⟩ := h
  have HL := Lib.hid hl
  have HM := Lib.hid hm
  clear hl hm
  go_enter Try.func42, Try.ntmps42
  go_wp2
  go_loopg [7] m (fun g s7 wx => ∃ k : Nat, k + g = m ∧ s7 = .int .i64 k ∧ Hid ((T.take k).any (fun x => x.used && decide (x.seq = s)) = false) ∧ Hid (Grew w wx))
  case atStart => exact ⟨0, by omega, rfl, Lib.hid rfl, Lib.hid (Grew.refl _)⟩
  case round =>
    obtain ⟨k, hkg, rfl, HI, HG⟩ := hrel
    cases gk with
    | zero =>
      have hkz : ¬ ((k : Int) < (m : Int)) := by omega
      have HE := HI
      rw [show k = m by omega] at HE
      go_wp2
      go_returns
      refine ⟨?_, HG.out⟩
      rw [HE.out]
      rfl
    | succ g =>
      have hkz : (k : Int) < (m : Int) := by omega
      have hkl : k < T.length := by have := HM.out; omega
      have hkl2 : (k : Int) < (T.length : Int) := by omega
      have HW1 := Lib.hid (PA.wr1b hkl (by have := HL.out; omega))
      have HA := Lib.hid (any_take (fun x => x.used && decide (x.seq = s)) T k hkl)
      have HMO : Hid ((T.take (k + 1)).any (fun x => x.used && decide (x.seq = s)) = true → (T.take m).any (fun x => x.used && decide (x.seq = s)) = true) := Lib.hid fun hh => by
        obtain ⟨x, hx, hp⟩ := List.any_eq_true.1 hh
        exact List.any_eq_true.2 ⟨x, (List.take_sublist_take_left (by omega)).subset hx, hp⟩
      obtain ⟨ad, c9, e, _, d0, _, _, _, _, _, _, _, _, d9⟩ := Ors_at (HR.out.grew HG.out) (eo_get hkl)
      injection e with e1 e2 e3
      subst e1 e3
      clear e2 hkl
      generalize eo T k = x at *
      obtain ⟨us, lb, wh, sd, bs, qt, pr, lf, rs, sq⟩ := x
      simp only at d0 d9 HA
      cases us with
      | false =>
        have HF := Lib.hid (show (T.take (k + 1)).any (fun x => x.used && decide (x.seq = s)) = false by rw [HA.out, HI.out]; rfl)
        go_wp2
        go_roundg g
        case measure => omega
        case rel => exact ⟨k + 1, by omega, by first | rfl | (simp; done) | rw [HW1.out], HF, HG⟩
      | true =>
        by_cases hq : sq = s
        · have HF := Lib.hid (HMO.out (by rw [HA.out, HI.out]; simp [hq]))
          have f1 : (sq == s) = true := by simp [hq]
          clear hq
          go_wp2
          go_returns
          refine ⟨?_, HG.out⟩
          rw [HF.out]
          rfl
        · have HF := Lib.hid (show (T.take (k + 1)).any (fun x => x.used && decide (x.seq = s)) = false by rw [HA.out, HI.out]; simp [hq])
          have f1 : (sq == s) = false := by simp [hq]
          clear hq
          go_wp2
          go_roundg g
          case measure => omega
          case rel => exact ⟨k + 1, by omega, by first | rfl | (simp; done) | rw [HW1.out], HF, HG⟩
end Go.Proofs.Ytmnfajplfnfgpaa.OT
