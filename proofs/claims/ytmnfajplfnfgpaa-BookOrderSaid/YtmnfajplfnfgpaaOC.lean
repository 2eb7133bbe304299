/-
  Whether an order stands in a list; the lists of which each order may be.
  Conditions: those that each lemma names.
-/
import Derived.Test.YtmnfajplfnfgpaaOB
import Derived.Lib.Hide
namespace Go.Proofs.Ytmnfajplfnfgpaa.OC
set_option maxRecDepth 100000
open Go Go.RowKit Go.Lib Go.Proofs.Ytmnfajplfnfgpaa Go.Proofs.Ytmnfajplfnfgpaa.Facts Go.Proofs.Ytmnfajplfnfgpaa.Ints Go.Proofs.Ytmnfajplfnfgpaa.PA Go.Proofs.Ytmnfajplfnfgpaa.UM Go.Proofs.Ytmnfajplfnfgpaa.UB Go.Proofs.Ytmnfajplfnfgpaa.OA Go.Proofs.Ytmnfajplfnfgpaa.BP Go.Proofs.Ytmnfajplfnfgpaa.OB Go.Proofs.Ytmnfajplfnfgpaa.Bytes


theorem ten_c {W : World} {B : Nat} {t : TypeId} {a0 a1 a2 a3 a4 a5 a6 a7 a8 a9 : Value} (h : W.heap[B]? = some (.cells #[a0, a1, a2, a3, a4, a5, a6, a7, a8, a9] t (0, 0))) :
    W.cell? ⟨B, 0, none⟩ = some a0 ∧ W.cell? ⟨B, 1, none⟩ = some a1 ∧ W.cell? ⟨B, 2, none⟩ = some a2 ∧ W.cell? ⟨B, 3, none⟩ = some a3 ∧ W.cell? ⟨B, 4, none⟩ = some a4 ∧ W.cell? ⟨B, 5, none⟩ = some a5 ∧ W.cell? ⟨B, 6, none⟩ = some a6 ∧ W.cell? ⟨B, 7, none⟩ = some a7 ∧ W.cell? ⟨B, 8, none⟩ = some a8 ∧ W.cell? ⟨B, 9, none⟩ = some a9 := by
  refine ⟨?_, ?_, ?_, ?_, ?_, ?_, ?_, ?_, ?_, ?_⟩
  all_goals rw [cell_of_row _ _ _ _ _ _ h]; rfl
set_option maxHeartbeats 2000000 in
theorem ro_any (x : Or) (hx : SzO x) (w : World) : Calls Try.prog 40 #[orv x] w fun e w' => e = .returned (.bool (okO x)) ∧ Grew w w' := by
  cases hu : x.used with
  | false =>
    by_cases hz : x = zor
    · subst hz
      unfold orv zor
      go_enter Try.func40, Try.ntmps40
      go_wp2
      go_returns
      exact ⟨rfl, by unfold Grew; go_grown⟩
    · have e : okO x = false := by unfold okO; rw [hu]; simp [hz]
      rw [e]
      obtain ⟨us, lb, wh, sd, bs, qt, pr, lf, rs, sq⟩ := x
      simp only at hu
      subst hu
      have HZ : Hid (¬ (lb = 0 ∧ wh = 0 ∧ sd = 0 ∧ bs = 0 ∧ qt = 0 ∧ pr = 0 ∧ lf = 0 ∧ rs = 0 ∧ sq = 0)) := Lib.hid (by
        rintro ⟨rfl, rfl, rfl, rfl, rfl, rfl, rfl, rfl, rfl⟩
        exact hz rfl)
      clear hz e hx
      unfold orv
      simp only
      go_enter Try.func40, Try.ntmps40
      go_wp2
      all_goals go_returns
      all_goals refine ⟨?_, by unfold Grew; go_grown⟩
      all_goals first | rfl | (exfalso; have := HZ.out; omega)
  | true =>
    have e : okO x = mayO x := by unfold okO; rw [hu]; rfl
    rw [e]
    have HM := Lib.hid (may_any x hx)
    generalize mayO x = q at *
    clear e hx
    obtain ⟨us, lb, wh, sd, bs, qt, pr, lf, rs, sq⟩ := x
    simp only at hu
    subst hu
    have G0 : Hid (Grew w (w.alloc (.cells #[.bool true, .int .i64 lb, .int .i64 wh, .int .i64 sd, .int .i64 bs, .int .i64 qt, .int .u64 (pr : Int), .int .u64 (lf : Int), .int .u64 (rs : Int), .int .i64 sq] 26))) := Lib.hid (by unfold Grew; go_grown)
    unfold orv at *
    simp only at HM
    go_enter Try.func40, Try.ntmps40
    go_wp2_with fail
    refine (HM.out _).mono ?_
    rintro e w1 ⟨rfl, hg⟩
    have G1 := Lib.hid (G0.out.trans hg)
    clear hg
    go_wp2
    go_returns
    exact ⟨rfl, G1.out⟩
theorem notO_any (x : Or) (hx : SzO x) (w : World) : Calls Try.prog 39 #[orv x] w fun e w' => e = .returned (.bool (!okO x)) ∧ Grew w w' := by
  have HO := Lib.hid (fun W => ro_any x hx W)
  generalize okO x = p at *
  clear hx
  obtain ⟨us, lb, wh, sd, bs, qt, pr, lf, rs, sq⟩ := x
  unfold orv at *
  simp only at HO
  have G0 : Hid (Grew w (w.alloc (.cells #[.bool us, .int .i64 lb, .int .i64 wh, .int .i64 sd, .int .i64 bs, .int .i64 qt, .int .u64 (pr : Int), .int .u64 (lf : Int), .int .u64 (rs : Int), .int .i64 sq] 26))) := Lib.hid (by unfold Grew; go_grown)
  go_enter Try.func39, Try.ntmps39
  go_wp2_with fail
  refine (HO.out _).mono ?_
  rintro e w1 ⟨rfl, hg⟩
  have G1 := Lib.hid (G0.out.trans hg)
  clear hg
  go_wp2
  go_returns
  exact ⟨by simp, G1.out⟩
/-- Post's closure: is there an order of this Seq? -/
theorem taken_any (x : Or) (s : Int) (B : Nat) (o : Or) (w : World) (hB : w.heap[B]? = some (.cells (ocs o).toArray 26 (0, 0))) (hs : o.seq = s) : Calls Try.prog 44 #[orv x, .pointer (some ⟨B, 0, none⟩)] w fun e w' => e = .returned (.bool (x.used && decide (x.seq = s))) ∧ Grew w w' := by
  subst hs
  obtain ⟨b0, b1, b2, b3, b4, b5, b6, b7, b8, b9⟩ := ten_c hB
  have hlt : B < w.heap.size := (Array.getElem?_eq_some_iff.1 hB).1
  have hne : ¬ B = w.heap.size := by omega
  clear hB b0 b1 b2 b3 b4 b5 b6 b7 b8
  obtain ⟨us, lb, wh, sd, bs, qt, pr, lf, rs, sq⟩ := x
  unfold orv
  simp only
  have G0 : Hid (Grew w (w.alloc (.cells #[.bool us, .int .i64 lb, .int .i64 wh, .int .i64 sd, .int .i64 bs, .int .i64 qt, .int .u64 (pr : Int), .int .u64 (lf : Int), .int .u64 (rs : Int), .int .i64 sq] 26))) := Lib.hid (by unfold Grew; go_grown)
  generalize o.seq = s at *
  have b9' := cellB G0.out b9
  by_cases h : sq = s
  · rw [decide_eq_true h]
    have h1 : (sq == s) = true := by simp [h]
    clear h
    cases us
    all_goals
      go_enter Try.func44, Try.ntmps44
      go_wp2
      go_returns
      exact ⟨by simp, G0.out⟩
  · rw [decide_eq_false h]
    have h1 : (sq == s) = false := by simp [h]
    clear h
    cases us
    all_goals
      go_enter Try.func44, Try.ntmps44
      go_wp2
      go_returns
      exact ⟨by simp, G0.out⟩
theorem idxO (v : Value) (l : List Or) (p : Or → Bool) (w : World) (h : Ors w v l)
    (hp : ∀ x, x ∈ l → ∀ W, Grew w W → Calls Try.prog 39 #[orv x] W fun e w' => e = .returned (.bool (p x)) ∧ Grew W w') :
    Calls Try.prog 59 #[v, .func (.func 39) #[] #[]] w fun e w' => e = .returned (.int .i64 (fidx l p)) ∧ Grew w w' := by
  have HL := Lib.hid h
  have HP := Lib.hid hp
  obtain ⟨A, cp, rfl, hc1, hc2⟩ := h.slice
  have HC2 := Lib.hid hc2
  clear h hp hc2
  have HH := Lib.hid (fun k x => @fidx_hit Or l p k x)
  have HM := Lib.hid (@fidx_miss Or l p)
  generalize fidx l p = res at *
  go_enter Try.func59, Try.ntmps59
  go_wp2
  go_loopg [8] l.length (fun g s8 wx => ∃ k : Nat, k + g = l.length ∧ s8 = .int .i64 k ∧ Hid (∀ j y, j < k → l[j]? = some y → p y = false) ∧ Hid (Grew w wx))
  case atStart => exact ⟨0, by omega, rfl, Lib.hid (fun j y h => absurd h (by omega)), Lib.hid (Grew.refl _)⟩
  case round =>
    obtain ⟨k, hkg, rfl, HJ, HG⟩ := hrel
    cases gk with
    | zero =>
      have hkz : ¬ ((k : Int) < (l.length : Int)) := by omega
      have HR : Hid (res = -1) := Lib.hid (HM.out fun j y hy => HJ.out j y (by have := (List.getElem?_eq_some_iff.1 hy).1; omega) hy)
      go_wp2
      go_returns
      refine ⟨?_, HG.out⟩
      rw [HR.out]
      try rfl
    | succ g =>
      have hkz : (k : Int) < (l.length : Int) := by omega
      have hkl : k < l.length := by omega
      have hx : l[k]? = some l[k] := List.getElem?_eq_getElem hkl
      obtain ⟨ad, cc, e, hc, c0, c1, c2, c3, c4, c5, c6, c7, c8, c9⟩ := Ors_at (HL.out.grew HG.out) hx
      injection e with e1 _ e3
      subst e1 e3
      have HX := Lib.hid hx
      have HF := Lib.hid (HP.out l[k] (List.getElem_mem hkl))
      have hkw : wrap64 ((k : Int) + 1) = (k : Int) + 1 := by
        have hc2 := HC2.out
        unfold maxLen at hc2
        unfold wrap64
        omega
      generalize l[k] = x at c0 c1 c2 c3 c4 c5 c6 c7 c8 c9 HX HF
      clear hx hkl
      cases hpx : p x with
      | true =>
        rw [hpx] at HF
        have HR : Hid (res = k) := Lib.hid (HH.out _ _ HX.out hpx HJ.out)
        clear HX hpx
        go_wp2_with fail
        refine (HF.out _ HG.out).mono ?_
        rintro e w2 ⟨rfl, hg⟩
        have G2 := Lib.hid (HG.out.trans hg)
        clear hg c0 c1 c2 c3 c4 c5 c6 c7 c8 c9
        go_wp2
        go_returns
        refine ⟨?_, G2.out⟩
        rw [HR.out]
        try rfl
      | false =>
        have HN : Hid (∀ j y, j < k + 1 → l[j]? = some y → p y = false) := Lib.hid fun j y hj hy => by
          by_cases hjk : j = k
          · subst hjk
            rw [HX.out] at hy
            cases hy
            exact hpx
          · exact HJ.out j y (by omega) hy
        rw [hpx] at HF
        clear HX hpx
        go_wp2_with fail
        refine (HF.out _ HG.out).mono ?_
        rintro e w2 ⟨rfl, hg⟩
        have G2 := Lib.hid (HG.out.trans hg)
        clear hg c0 c1 c2 c3 c4 c5 c6 c7 c8 c9
        go_wp2
        go_roundg g
        case measure => omega
        case rel => exact ⟨k + 1, by omega, by first | rfl | simp [hkw] | simp, HN, G2⟩

theorem contO (v : Value) (l : List Or) (p : Or → Bool) (w : World) (h : Ors w v l)
    (hp : ∀ x, x ∈ l → ∀ W, Grew w W → Calls Try.prog 39 #[orv x] W fun e w' => e = .returned (.bool (p x)) ∧ Grew W w') :
    Calls Try.prog 38 #[v, .func (.func 39) #[] #[]] w fun e w' => e = .returned (.bool (l.any p)) ∧ Grew w w' := by
  have HI := Lib.hid (idxO v l p w h hp)
  rw [← fidx_neg]
  generalize fidx l p = res at *
  obtain ⟨A, cp, rfl, _⟩ := h.slice
  clear h hp
  by_cases hr : 0 ≤ res
  all_goals
    go_enter Try.func38, Try.ntmps38
    go_wp2_with fail
    refine HI.out.mono ?_
    rintro e w2 ⟨rfl, hg⟩
    have G2 := Lib.hid hg
    clear hg
    go_wp2
    go_returns
    exact ⟨by simp [hr], G2.out⟩

theorem idxOT (v : Value) (l : List Or) (p : Or → Bool) (B : Nat) (w : World) (h : Ors w v l)
    (hp : ∀ x, x ∈ l → ∀ W, Grew w W → Calls Try.prog 44 #[orv x, .pointer (some ⟨B, 0, none⟩)] W fun e w' => e = .returned (.bool (p x)) ∧ Grew W w') :
    Calls Try.prog 59 #[v, .func (.func 44) #[] #[.pointer (some ⟨B, 0, none⟩)]] w fun e w' => e = .returned (.int .i64 (fidx l p)) ∧ Grew w w' := by
  have HL := Lib.hid h
  have HP := Lib.hid hp
  obtain ⟨A, cp, rfl, hc1, hc2⟩ := h.slice
  have HC2 := Lib.hid hc2
  clear h hp hc2
  have HH := Lib.hid (fun k x => @fidx_hit Or l p k x)
  have HM := Lib.hid (@fidx_miss Or l p)
  generalize fidx l p = res at *
  go_enter Try.func59, Try.ntmps59
  go_wp2
  go_loopg [8] l.length (fun g s8 wx => ∃ k : Nat, k + g = l.length ∧ s8 = .int .i64 k ∧ Hid (∀ j y, j < k → l[j]? = some y → p y = false) ∧ Hid (Grew w wx))
  case atStart => exact ⟨0, by omega, rfl, Lib.hid (fun j y h => absurd h (by omega)), Lib.hid (Grew.refl _)⟩
  case round =>
    obtain ⟨k, hkg, rfl, HJ, HG⟩ := hrel
    cases gk with
    | zero =>
      have hkz : ¬ ((k : Int) < (l.length : Int)) := by omega
      have HR : Hid (res = -1) := Lib.hid (HM.out fun j y hy => HJ.out j y (by have := (List.getElem?_eq_some_iff.1 hy).1; omega) hy)
      go_wp2
      go_returns
      refine ⟨?_, HG.out⟩
      rw [HR.out]
      try rfl
    | succ g =>
      have hkz : (k : Int) < (l.length : Int) := by omega
      have hkl : k < l.length := by omega
      have hx : l[k]? = some l[k] := List.getElem?_eq_getElem hkl
      obtain ⟨ad, cc, e, hc, c0, c1, c2, c3, c4, c5, c6, c7, c8, c9⟩ := Ors_at (HL.out.grew HG.out) hx
      injection e with e1 _ e3
      subst e1 e3
      have HX := Lib.hid hx
      have HF := Lib.hid (HP.out l[k] (List.getElem_mem hkl))
      have hkw : wrap64 ((k : Int) + 1) = (k : Int) + 1 := by
        have hc2 := HC2.out
        unfold maxLen at hc2
        unfold wrap64
        omega
      generalize l[k] = x at c0 c1 c2 c3 c4 c5 c6 c7 c8 c9 HX HF
      clear hx hkl
      cases hpx : p x with
      | true =>
        rw [hpx] at HF
        have HR : Hid (res = k) := Lib.hid (HH.out _ _ HX.out hpx HJ.out)
        clear HX hpx
        go_wp2_with fail
        refine (HF.out _ HG.out).mono ?_
        rintro e w2 ⟨rfl, hg⟩
        have G2 := Lib.hid (HG.out.trans hg)
        clear hg c0 c1 c2 c3 c4 c5 c6 c7 c8 c9
        go_wp2
        go_returns
        refine ⟨?_, G2.out⟩
        rw [HR.out]
        try rfl
      | false =>
        have HN : Hid (∀ j y, j < k + 1 → l[j]? = some y → p y = false) := Lib.hid fun j y hj hy => by
          by_cases hjk : j = k
          · subst hjk
            rw [HX.out] at hy
            cases hy
            exact hpx
          · exact HJ.out j y (by omega) hy
        rw [hpx] at HF
        clear HX hpx
        go_wp2_with fail
        refine (HF.out _ HG.out).mono ?_
        rintro e w2 ⟨rfl, hg⟩
        have G2 := Lib.hid (HG.out.trans hg)
        clear hg c0 c1 c2 c3 c4 c5 c6 c7 c8 c9
        go_wp2
        go_roundg g
        case measure => omega
        case rel => exact ⟨k + 1, by omega, by first | rfl | simp [hkw] | simp, HN, G2⟩

theorem contOT (v : Value) (l : List Or) (p : Or → Bool) (B : Nat) (w : World) (h : Ors w v l)
    (hp : ∀ x, x ∈ l → ∀ W, Grew w W → Calls Try.prog 44 #[orv x, .pointer (some ⟨B, 0, none⟩)] W fun e w' => e = .returned (.bool (p x)) ∧ Grew W w') :
    Calls Try.prog 38 #[v, .func (.func 44) #[] #[.pointer (some ⟨B, 0, none⟩)]] w fun e w' => e = .returned (.bool (l.any p)) ∧ Grew w w' := by
  have HI := Lib.hid (idxOT v l p B w h hp)
  rw [← fidx_neg]
  generalize fidx l p = res at *
  obtain ⟨A, cp, rfl, _⟩ := h.slice
  clear h hp
  by_cases hr : 0 ≤ res
  all_goals
    go_enter Try.func38, Try.ntmps38
    go_wp2_with fail
    refine HI.out.mono ?_
    rintro e w2 ⟨rfl, hg⟩
    have G2 := Lib.hid hg
    clear hg
    go_wp2
    go_returns
    exact ⟨by simp [hr], G2.out⟩

end Go.Proofs.Ytmnfajplfnfgpaa.OC
