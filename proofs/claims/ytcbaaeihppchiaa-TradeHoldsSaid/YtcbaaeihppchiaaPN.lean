/-
  Which trades may be.
  Conditions: those that each lemma names.
-/
import Derived.Test.YtcbaaeihppchiaaPM
namespace Go.Proofs.Ytcbaaeihppchiaa.PN
set_option maxRecDepth 100000
open Go Go.RowKit Go.Lib Go.Proofs.Ytcbaaeihppchiaa Go.Proofs.Ytcbaaeihppchiaa.Facts Go.Proofs.Ytcbaaeihppchiaa.Ints Go.Proofs.Ytcbaaeihppchiaa.PA Go.Proofs.Ytcbaaeihppchiaa.PB Go.Proofs.Ytcbaaeihppchiaa.PC Go.Proofs.Ytcbaaeihppchiaa.PM Go.Proofs.Ytcbaaeihppchiaa.Bytes


set_option maxHeartbeats 2000000 in
theorem rt_any (x : Tr) (w : World) : Calls Try.prog 35 #[trv x] w fun e w' => e = .returned (.bool (okT x)) ∧ Grew w w' := by
  cases hu : x.used with
  | false =>
    by_cases hz : x = ztr
    · subst hz
      unfold trv ztr
      go_enter Try.func35, Try.ntmps35
      go_wp2
      go_returns
      exact ⟨rfl, by unfold Grew; go_grown⟩
    · have e : okT x = false := by unfold okT; rw [hu]; simp [hz]
      rw [e]
      obtain ⟨u, a, b, gc, ga, gi, wc, wa, wi⟩ := x
      simp only at hu
      subst hu
      have HZ : Hid (¬ (a = 0 ∧ b = 0 ∧ gc = 0 ∧ ga = 0 ∧ gi = 0 ∧ wc = 0 ∧ wa = 0 ∧ wi = 0)) := Lib.hid (by
        rintro ⟨rfl, rfl, rfl, rfl, rfl, rfl, rfl, rfl⟩
        exact hz rfl)
      clear hz e
      unfold trv
      simp only
      go_enter Try.func35, Try.ntmps35
      go_wp2
      all_goals go_returns
      all_goals refine ⟨?_, by unfold Grew; go_grown⟩
      all_goals first | rfl | (exfalso; have := HZ.out; omega)
  | true =>
    have e : okT x = (num x.a && num x.b && !decide (x.a = x.b) && mayP x.gc x.ga x.gi && mayP x.wc x.wa x.wi && !(bareP x.ga x.gi && bareP x.wa x.wi)) := by unfold okT; rw [hu]; rfl
    rw [e]
    clear e
    obtain ⟨u, a, b, gc, ga, gi, wc, wa, wi⟩ := x
    simp only at hu
    subst hu
    have H1 := Lib.hid (fun W => num_any a W)
    have H2 := Lib.hid (fun W => num_any b W)
    have H3 := Lib.hid (fun W => may_any gc ga gi W)
    have H4 := Lib.hid (fun W => may_any wc wa wi W)
    have H5 := Lib.hid (fun W => bare_any gc ga gi W)
    have H6 := Lib.hid (fun W => bare_any wc wa wi W)
    have G0 : Hid (Grew w (w.alloc (.cells #[.bool true, .int .i64 a, .int .i64 b, .int .i64 gc, .int .u64 ga, .int .i64 gi, .int .i64 wc, .int .u64 wa, .int .i64 wi] 42))) := Lib.hid (by unfold Grew; go_grown)
    have A0 := Lib.hid (blk_new w (.cells #[.bool true, .int .i64 a, .int .i64 b, .int .i64 gc, .int .u64 ga, .int .i64 gi, .int .i64 wc, .int .u64 wa, .int .i64 wi] 42))
    unfold trv
    simp only
    generalize num a = p1 at *
    generalize num b = p2 at *
    generalize mayP gc ga gi = p3 at *
    generalize mayP wc wa wi = p4 at *
    generalize bareP ga gi = p5 at *
    generalize bareP wa wi = p6 at *
    cases p1 with
    | false =>
      go_enter Try.func35, Try.ntmps35
      go_wp2_with fail
      refine (H1.out _).mono ?_
      rintro e w1 ⟨rfl, hg⟩
      have G1 := Lib.hid (G0.out.trans hg)
      have A1 := Lib.hid (keepB A0.out hg)
      clear hg
      obtain ⟨c0, c1, c2, c3, c4, c5, c6, c7, c8⟩ := nine_c A1.out
      go_wp2
      go_returns
      exact ⟨by simp, G1.out⟩
    | true =>
      cases p2 with
      | false =>
        go_enter Try.func35, Try.ntmps35
        go_wp2_with fail
        refine (H1.out _).mono ?_
        rintro e w1 ⟨rfl, hg⟩
        have G1 := Lib.hid (G0.out.trans hg)
        have A1 := Lib.hid (keepB A0.out hg)
        clear hg
        obtain ⟨c0, c1, c2, c3, c4, c5, c6, c7, c8⟩ := nine_c A1.out
        go_wp2_with fail
        refine (H2.out _).mono ?_
        rintro e w2 ⟨rfl, hg⟩
        have G2 := Lib.hid (G1.out.trans hg)
        have A2 := Lib.hid (keepB A1.out hg)
        clear hg c0 c1 c2 c3 c4 c5 c6 c7 c8
        obtain ⟨c0, c1, c2, c3, c4, c5, c6, c7, c8⟩ := nine_c A2.out
        go_wp2
        go_returns
        exact ⟨by simp, G2.out⟩
      | true =>
        by_cases hab : a = b
        · subst hab
          simp only [decide_true, Bool.not_true, Bool.and_false, Bool.false_and]
          go_enter Try.func35, Try.ntmps35
          go_wp2_with fail
          refine (H1.out _).mono ?_
          rintro e w1 ⟨rfl, hg⟩
          have G1 := Lib.hid (G0.out.trans hg)
          have A1 := Lib.hid (keepB A0.out hg)
          clear hg
          obtain ⟨c0, c1, c2, c3, c4, c5, c6, c7, c8⟩ := nine_c A1.out
          go_wp2_with fail
          refine (H2.out _).mono ?_
          rintro e w2 ⟨rfl, hg⟩
          have G2 := Lib.hid (G1.out.trans hg)
          have A2 := Lib.hid (keepB A1.out hg)
          clear hg c0 c1 c2 c3 c4 c5 c6 c7 c8
          obtain ⟨c0, c1, c2, c3, c4, c5, c6, c7, c8⟩ := nine_c A2.out
          go_wp2
          go_returns
          exact ⟨by first | rfl | (simp; done), G2.out⟩
        · have hab1 : (a != b) = true := by simp [hab]
          have hab2 : ¬ a = b := hab
          rw [decide_eq_false hab]
          clear hab
          cases p3 with
          | false =>
            go_enter Try.func35, Try.ntmps35
            go_wp2_with fail
            refine (H1.out _).mono ?_
            rintro e w1 ⟨rfl, hg⟩
            have G1 := Lib.hid (G0.out.trans hg)
            have A1 := Lib.hid (keepB A0.out hg)
            clear hg
            obtain ⟨c0, c1, c2, c3, c4, c5, c6, c7, c8⟩ := nine_c A1.out
            go_wp2_with fail
            refine (H2.out _).mono ?_
            rintro e w2 ⟨rfl, hg⟩
            have G2 := Lib.hid (G1.out.trans hg)
            have A2 := Lib.hid (keepB A1.out hg)
            clear hg c0 c1 c2 c3 c4 c5 c6 c7 c8
            obtain ⟨c0, c1, c2, c3, c4, c5, c6, c7, c8⟩ := nine_c A2.out
            go_wp2_with fail
            refine (H3.out _).mono ?_
            rintro e w3 ⟨rfl, hg⟩
            have G3 := Lib.hid (G2.out.trans hg)
            have A3 := Lib.hid (keepB A2.out hg)
            clear hg c0 c1 c2 c3 c4 c5 c6 c7 c8
            obtain ⟨c0, c1, c2, c3, c4, c5, c6, c7, c8⟩ := nine_c A3.out
            go_wp2
            go_returns
            exact ⟨by simp, G3.out⟩
          | true =>
            cases p4 with
            | false =>
              go_enter Try.func35, Try.ntmps35
              go_wp2_with fail
              refine (H1.out _).mono ?_
              rintro e w1 ⟨rfl, hg⟩
              have G1 := Lib.hid (G0.out.trans hg)
              have A1 := Lib.hid (keepB A0.out hg)
              clear hg
              obtain ⟨c0, c1, c2, c3, c4, c5, c6, c7, c8⟩ := nine_c A1.out
              go_wp2_with fail
              refine (H2.out _).mono ?_
              rintro e w2 ⟨rfl, hg⟩
              have G2 := Lib.hid (G1.out.trans hg)
              have A2 := Lib.hid (keepB A1.out hg)
              clear hg c0 c1 c2 c3 c4 c5 c6 c7 c8
              obtain ⟨c0, c1, c2, c3, c4, c5, c6, c7, c8⟩ := nine_c A2.out
              go_wp2_with fail
              refine (H3.out _).mono ?_
              rintro e w3 ⟨rfl, hg⟩
              have G3 := Lib.hid (G2.out.trans hg)
              have A3 := Lib.hid (keepB A2.out hg)
              clear hg c0 c1 c2 c3 c4 c5 c6 c7 c8
              obtain ⟨c0, c1, c2, c3, c4, c5, c6, c7, c8⟩ := nine_c A3.out
              go_wp2_with fail
              refine (H4.out _).mono ?_
              rintro e w4 ⟨rfl, hg⟩
              have G4 := Lib.hid (G3.out.trans hg)
              have A4 := Lib.hid (keepB A3.out hg)
              clear hg c0 c1 c2 c3 c4 c5 c6 c7 c8
              obtain ⟨c0, c1, c2, c3, c4, c5, c6, c7, c8⟩ := nine_c A4.out
              go_wp2
              go_returns
              exact ⟨by simp, G4.out⟩
            | true =>
              cases p5 with
              | false =>
                go_enter Try.func35, Try.ntmps35
                go_wp2_with fail
                refine (H1.out _).mono ?_
                rintro e w1 ⟨rfl, hg⟩
                have G1 := Lib.hid (G0.out.trans hg)
                have A1 := Lib.hid (keepB A0.out hg)
                clear hg
                obtain ⟨c0, c1, c2, c3, c4, c5, c6, c7, c8⟩ := nine_c A1.out
                go_wp2_with fail
                refine (H2.out _).mono ?_
                rintro e w2 ⟨rfl, hg⟩
                have G2 := Lib.hid (G1.out.trans hg)
                have A2 := Lib.hid (keepB A1.out hg)
                clear hg c0 c1 c2 c3 c4 c5 c6 c7 c8
                obtain ⟨c0, c1, c2, c3, c4, c5, c6, c7, c8⟩ := nine_c A2.out
                go_wp2_with fail
                refine (H3.out _).mono ?_
                rintro e w3 ⟨rfl, hg⟩
                have G3 := Lib.hid (G2.out.trans hg)
                have A3 := Lib.hid (keepB A2.out hg)
                clear hg c0 c1 c2 c3 c4 c5 c6 c7 c8
                obtain ⟨c0, c1, c2, c3, c4, c5, c6, c7, c8⟩ := nine_c A3.out
                go_wp2_with fail
                refine (H4.out _).mono ?_
                rintro e w4 ⟨rfl, hg⟩
                have G4 := Lib.hid (G3.out.trans hg)
                have A4 := Lib.hid (keepB A3.out hg)
                clear hg c0 c1 c2 c3 c4 c5 c6 c7 c8
                obtain ⟨c0, c1, c2, c3, c4, c5, c6, c7, c8⟩ := nine_c A4.out
                go_wp2_with fail
                refine (H5.out _).mono ?_
                rintro e w5 ⟨rfl, hg⟩
                have G5 := Lib.hid (G4.out.trans hg)
                have A5 := Lib.hid (keepB A4.out hg)
                clear hg c0 c1 c2 c3 c4 c5 c6 c7 c8
                obtain ⟨c0, c1, c2, c3, c4, c5, c6, c7, c8⟩ := nine_c A5.out
                go_wp2
                go_returns
                exact ⟨by simp, G5.out⟩
              | true =>
                cases p6 with
                | false =>
                  go_enter Try.func35, Try.ntmps35
                  go_wp2_with fail
                  refine (H1.out _).mono ?_
                  rintro e w1 ⟨rfl, hg⟩
                  have G1 := Lib.hid (G0.out.trans hg)
                  have A1 := Lib.hid (keepB A0.out hg)
                  clear hg
                  obtain ⟨c0, c1, c2, c3, c4, c5, c6, c7, c8⟩ := nine_c A1.out
                  go_wp2_with fail
                  refine (H2.out _).mono ?_
                  rintro e w2 ⟨rfl, hg⟩
                  have G2 := Lib.hid (G1.out.trans hg)
                  have A2 := Lib.hid (keepB A1.out hg)
                  clear hg c0 c1 c2 c3 c4 c5 c6 c7 c8
                  obtain ⟨c0, c1, c2, c3, c4, c5, c6, c7, c8⟩ := nine_c A2.out
                  go_wp2_with fail
                  refine (H3.out _).mono ?_
                  rintro e w3 ⟨rfl, hg⟩
                  have G3 := Lib.hid (G2.out.trans hg)
                  have A3 := Lib.hid (keepB A2.out hg)
                  clear hg c0 c1 c2 c3 c4 c5 c6 c7 c8
                  obtain ⟨c0, c1, c2, c3, c4, c5, c6, c7, c8⟩ := nine_c A3.out
                  go_wp2_with fail
                  refine (H4.out _).mono ?_
                  rintro e w4 ⟨rfl, hg⟩
                  have G4 := Lib.hid (G3.out.trans hg)
                  have A4 := Lib.hid (keepB A3.out hg)
                  clear hg c0 c1 c2 c3 c4 c5 c6 c7 c8
                  obtain ⟨c0, c1, c2, c3, c4, c5, c6, c7, c8⟩ := nine_c A4.out
                  go_wp2_with fail
                  refine (H5.out _).mono ?_
                  rintro e w5 ⟨rfl, hg⟩
                  have G5 := Lib.hid (G4.out.trans hg)
                  have A5 := Lib.hid (keepB A4.out hg)
                  clear hg c0 c1 c2 c3 c4 c5 c6 c7 c8
                  obtain ⟨c0, c1, c2, c3, c4, c5, c6, c7, c8⟩ := nine_c A5.out
                  go_wp2_with fail
                  refine (H6.out _).mono ?_
                  rintro e w6 ⟨rfl, hg⟩
                  have G6 := Lib.hid (G5.out.trans hg)
                  have A6 := Lib.hid (keepB A5.out hg)
                  clear hg c0 c1 c2 c3 c4 c5 c6 c7 c8
                  obtain ⟨c0, c1, c2, c3, c4, c5, c6, c7, c8⟩ := nine_c A6.out
                  go_wp2
                  go_returns
                  exact ⟨by simp, G6.out⟩
                | true =>
                  go_enter Try.func35, Try.ntmps35
                  go_wp2_with fail
                  refine (H1.out _).mono ?_
                  rintro e w1 ⟨rfl, hg⟩
                  have G1 := Lib.hid (G0.out.trans hg)
                  have A1 := Lib.hid (keepB A0.out hg)
                  clear hg
                  obtain ⟨c0, c1, c2, c3, c4, c5, c6, c7, c8⟩ := nine_c A1.out
                  go_wp2_with fail
                  refine (H2.out _).mono ?_
                  rintro e w2 ⟨rfl, hg⟩
                  have G2 := Lib.hid (G1.out.trans hg)
                  have A2 := Lib.hid (keepB A1.out hg)
                  clear hg c0 c1 c2 c3 c4 c5 c6 c7 c8
                  obtain ⟨c0, c1, c2, c3, c4, c5, c6, c7, c8⟩ := nine_c A2.out
                  go_wp2_with fail
                  refine (H3.out _).mono ?_
                  rintro e w3 ⟨rfl, hg⟩
                  have G3 := Lib.hid (G2.out.trans hg)
                  have A3 := Lib.hid (keepB A2.out hg)
                  clear hg c0 c1 c2 c3 c4 c5 c6 c7 c8
                  obtain ⟨c0, c1, c2, c3, c4, c5, c6, c7, c8⟩ := nine_c A3.out
                  go_wp2_with fail
                  refine (H4.out _).mono ?_
                  rintro e w4 ⟨rfl, hg⟩
                  have G4 := Lib.hid (G3.out.trans hg)
                  have A4 := Lib.hid (keepB A3.out hg)
                  clear hg c0 c1 c2 c3 c4 c5 c6 c7 c8
                  obtain ⟨c0, c1, c2, c3, c4, c5, c6, c7, c8⟩ := nine_c A4.out
                  go_wp2_with fail
                  refine (H5.out _).mono ?_
                  rintro e w5 ⟨rfl, hg⟩
                  have G5 := Lib.hid (G4.out.trans hg)
                  have A5 := Lib.hid (keepB A4.out hg)
                  clear hg c0 c1 c2 c3 c4 c5 c6 c7 c8
                  obtain ⟨c0, c1, c2, c3, c4, c5, c6, c7, c8⟩ := nine_c A5.out
                  go_wp2_with fail
                  refine (H6.out _).mono ?_
                  rintro e w6 ⟨rfl, hg⟩
                  have G6 := Lib.hid (G5.out.trans hg)
                  have A6 := Lib.hid (keepB A5.out hg)
                  clear hg c0 c1 c2 c3 c4 c5 c6 c7 c8
                  obtain ⟨c0, c1, c2, c3, c4, c5, c6, c7, c8⟩ := nine_c A6.out
                  go_wp2
                  go_returns
                  exact ⟨by simp, G6.out⟩

theorem notT_any (x : Tr) (w : World) : Calls Try.prog 42 #[trv x] w fun e w' => e = .returned (.bool (!okT x)) ∧ Grew w w' := by
  have HO := Lib.hid (fun W => rt_any x W)
  generalize okT x = p at *
  unfold trv at *
  obtain ⟨u, a, b, gc, ga, gi, wc, wa, wi⟩ := x
  simp only at HO
  have G0 : Hid (Grew w (w.alloc (.cells #[.bool u, .int .i64 a, .int .i64 b, .int .i64 gc, .int .u64 ga, .int .i64 gi, .int .i64 wc, .int .u64 wa, .int .i64 wi] 42))) := Lib.hid (by unfold Grew; go_grown)
  go_enter Try.func42, Try.ntmps42
  go_wp2_with fail
  refine (HO.out _).mono ?_
  rintro e w1 ⟨rfl, hg⟩
  have G1 := Lib.hid (G0.out.trans hg)
  clear hg
  go_wp2
  go_returns
  exact ⟨by simp, G1.out⟩

theorem idxT (v : Value) (l : List Tr) (p : Tr → Bool) (w : World) (h : Trs w v l)
    (hp : ∀ x, x ∈ l → ∀ W, Grew w W → Calls Try.prog 42 #[trv x] W fun e w' => e = .returned (.bool (p x)) ∧ Grew W w') :
    Calls Try.prog 63 #[v, .func (.func 42) #[] #[]] w fun e w' => e = .returned (.int .i64 (fidx l p)) ∧ Grew w w' := by
  have HL := Lib.hid h
  have HP := Lib.hid hp
  obtain ⟨A, cp, rfl, hc1, hc2⟩ := h.slice
  have HC2 := Lib.hid hc2
  clear h hp hc2
  have HH := Lib.hid (fun k x => @fidx_hit Tr l p k x)
  have HM := Lib.hid (@fidx_miss Tr l p)
  generalize fidx l p = res at *
  go_enter Try.func63, Try.ntmps63
  go_wp2
  go_loopg [8] l.length (fun g s8 wx => ∃ k : Nat, k + g = l.length ∧ s8 = .int .i64 k ∧ Hid (∀ j y, j < k → l[j]? = some y → p y = false) ∧ Hid (Grew w wx))
  case atStart => exact ⟨0, by omega, rfl, Lib.hid (fun j y h => absurd h (by omega)), Lib.hid (Grew.refl _)⟩
  case round =>
    obtain ⟨k, hkg, rfl, HJ, HG⟩ := hrel
    cases gk with
    | zero =>
      have hkz : ¬ ((k : Int) < (l.length : Int)) := by omega
      have HR : Hid (res = -1) := Lib.hid (HM.out fun j y hy => HJ.out j y (by have := (List.getElem?_eq_some_iff.1 hy).1; omega) hy)
      go_wp2
      go_returns
      refine ⟨?_, HG.out⟩
      rw [HR.out]
      try rfl
    | succ g =>
      have hkz : (k : Int) < (l.length : Int) := by omega
      have hkl : k < l.length := by omega
      have hx : l[k]? = some l[k] := List.getElem?_eq_getElem hkl
      obtain ⟨ad, c9, e, hc, c0, c1, c2, c3, c4, c5, c6, c7, c8⟩ := Trs_at (HL.out.grew HG.out) hx
      injection e with e1 _ e3
      subst e1 e3
      have HX := Lib.hid hx
      have HF := Lib.hid (HP.out l[k] (List.getElem_mem hkl))
      have hkw : wrap64 ((k : Int) + 1) = (k : Int) + 1 := by
        have hc2 := HC2.out
        unfold maxLen at hc2
        unfold wrap64
        omega
      generalize l[k] = x at c0 c1 c2 c3 c4 c5 c6 c7 c8 HX HF
      clear hx hkl
      cases hpx : p x with
      | true =>
        rw [hpx] at HF
        have HR : Hid (res = k) := Lib.hid (HH.out _ _ HX.out hpx HJ.out)
        clear HX hpx
        go_wp2_with fail
        refine (HF.out _ HG.out).mono ?_
        rintro e w2 ⟨rfl, hg⟩
        have G2 := Lib.hid (HG.out.trans hg)
        clear hg c0 c1 c2 c3 c4 c5 c6 c7 c8
        go_wp2
        go_returns
        refine ⟨?_, G2.out⟩
        rw [HR.out]
        try rfl
      | false =>
        have HN : Hid (∀ j y, j < k + 1 → l[j]? = some y → p y = false) := Lib.hid fun j y hj hy => by
          by_cases hjk : j = k
          · subst hjk
            rw [HX.out] at hy
            cases hy
            exact hpx
          · exact HJ.out j y (by omega) hy
        rw [hpx] at HF
        clear HX hpx
        go_wp2_with fail
        refine (HF.out _ HG.out).mono ?_
        rintro e w2 ⟨rfl, hg⟩
        have G2 := Lib.hid (HG.out.trans hg)
        clear hg c0 c1 c2 c3 c4 c5 c6 c7 c8
        go_wp2
        go_roundg g
        case measure => omega
        case rel => exact ⟨k + 1, by omega, by first | rfl | simp [hkw] | simp, HN, G2⟩

theorem contT (v : Value) (l : List Tr) (p : Tr → Bool) (w : World) (h : Trs w v l)
    (hp : ∀ x, x ∈ l → ∀ W, Grew w W → Calls Try.prog 42 #[trv x] W fun e w' => e = .returned (.bool (p x)) ∧ Grew W w') :
    Calls Try.prog 41 #[v, .func (.func 42) #[] #[]] w fun e w' => e = .returned (.bool (l.any p)) ∧ Grew w w' := by
  have HI := Lib.hid (idxT v l p w h hp)
  rw [← fidx_neg]
  generalize fidx l p = res at *
  obtain ⟨A, cp, rfl, _⟩ := h.slice
  clear h hp
  by_cases hr : 0 ≤ res
  all_goals
    go_enter Try.func41, Try.ntmps41
    go_wp2_with fail
    refine HI.out.mono ?_
    rintro e w2 ⟨rfl, hg⟩
    have G2 := Lib.hid hg
    clear hg
    go_wp2
    go_returns
    exact ⟨by simp [hr], G2.out⟩

def okTs (l : List Tr) : Bool := l.all okT
theorem trades_any (v : Value) (l : List Tr) (w : World) (h : Trs w v l) : Calls Try.prog 17 #[v] w fun e w' => e = .returned (.bool (okTs l)) ∧ Grew w w' := by
  have HC := Lib.hid (contT v l (fun x => !okT x) w h fun x _ W _ => notT_any x W)
  have e : okTs l = !(l.any fun x => !okT x) := (any_not l okT).symm
  rw [e]
  clear e
  generalize (l.any fun x => !okT x) = p at *
  obtain ⟨A, cp, rfl, _⟩ := h.slice
  clear h
  go_enter Try.func17, Try.ntmps17
  go_wp2_with fail
  refine HC.out.mono ?_
  rintro e w1 ⟨rfl, hg⟩
  have G1 := Lib.hid hg
  clear hg
  go_wp2
  go_returns
  exact ⟨by simp, G1.out⟩
end Go.Proofs.Ytcbaaeihppchiaa.PN
