/-
  Which orders may be, by program and document.
  Conditions: those that each lemma names.
-/
import Derived.Test.YtmnfajplfnfgpaaBP
import Derived.Lib.Hide
namespace Go.Proofs.Ytmnfajplfnfgpaa.OB
set_option maxRecDepth 100000
open Go Go.RowKit Go.Lib Go.Proofs.Ytmnfajplfnfgpaa Go.Proofs.Ytmnfajplfnfgpaa.Facts Go.Proofs.Ytmnfajplfnfgpaa.Ints Go.Proofs.Ytmnfajplfnfgpaa.PA Go.Proofs.Ytmnfajplfnfgpaa.UM Go.Proofs.Ytmnfajplfnfgpaa.UB Go.Proofs.Ytmnfajplfnfgpaa.OA Go.Proofs.Ytmnfajplfnfgpaa.BP Go.Proofs.Ytmnfajplfnfgpaa.Bytes

set_option maxHeartbeats 4000000 in
theorem may_any (x : Or) (hx : SzO x) (w : World) : Calls Try.prog 23 #[orv x] w fun e w' => e = .returned (.bool (mayO x)) ∧ Grew w w' := by
  obtain ⟨us, lb, wh, sd, bs, qt, pr, lf, rs, sq⟩ := x
  obtain ⟨hx1, hx2, _⟩ := hx
  unfold orv mayO
  simp only at hx1 hx2 ⊢
  have H1 := Lib.hid (num_any lb)
  have H2 := Lib.hid (num_any wh)
  have HN := Lib.hid (need_any sd lf pr hx2 hx1)
  have C1 := Lib.hid (coin_any bs)
  have C2 := Lib.hid (coin_any qt)
  have G0 : Hid (Grew w (w.alloc (.cells #[.bool us, .int .i64 lb, .int .i64 wh, .int .i64 sd, .int .i64 bs, .int .i64 qt, .int .u64 (pr : Int), .int .u64 (lf : Int), .int .u64 (rs : Int), .int .i64 sq] 26))) := Lib.hid (by unfold Grew; go_grown)
  clear hx1 hx2
  generalize num lb = b1 at *
  generalize num wh = b2 at *
  rcases hnp : needP sd lf pr with ⟨m, q⟩
  rw [hnp] at HN
  clear hnp
  unfold two at HN
  simp only at HN ⊢
  by_cases hq : q = 0
  · rw [decide_eq_true hq]
    subst hq
    by_cases hr : rs = m
    · rw [decide_eq_true hr]
      subst hr
      have hr1 : ((rs : Int) != (rs : Int)) = false := by simp
      have hr2 : ((rs : Int) == (rs : Int)) = true := by simp
      generalize coinB bs = b3 at *
      generalize coinB qt = b4 at *
      by_cases hb : bs = qt
      · have hb1 : (bs != qt) = false := by simp [hb]
        subst hb
        go_enter Try.func23, Try.ntmps23
        go_wp2_with fail
        refine (HN.out _).mono ?_
        rintro e w' ⟨rfl, rfl⟩
        go_wp2_with fail
        refine (H1.out _).mono ?_
        rintro e w' ⟨rfl, rfl⟩
        cases b1
        · go_wp2
          go_returns
          exact ⟨by simp, G0.out⟩
        go_wp2_with fail
        refine (H2.out _).mono ?_
        rintro e w' ⟨rfl, rfl⟩
        cases b2
        · go_wp2
          go_returns
          exact ⟨by simp, G0.out⟩
        go_wp2_with fail
        refine (C1.out _).mono ?_
        rintro e w' ⟨rfl, rfl⟩
        cases b3
        · go_wp2
          go_returns
          exact ⟨by simp, G0.out⟩
        go_wp2_with fail
        refine (C2.out _).mono ?_
        rintro e w' ⟨rfl, rfl⟩
        cases b4
        · go_wp2
          go_returns
          exact ⟨by simp, G0.out⟩
        go_wp2
        go_returns
        exact ⟨by simp, G0.out⟩
      · have hb1 : (bs != qt) = true := by simp [hb]
        rw [decide_eq_false hb]
        clear hb
        go_enter Try.func23, Try.ntmps23
        go_wp2_with fail
        refine (HN.out _).mono ?_
        rintro e w' ⟨rfl, rfl⟩
        go_wp2_with fail
        refine (H1.out _).mono ?_
        rintro e w' ⟨rfl, rfl⟩
        cases b1
        · go_wp2
          go_returns
          exact ⟨by simp, G0.out⟩
        go_wp2_with fail
        refine (H2.out _).mono ?_
        rintro e w' ⟨rfl, rfl⟩
        cases b2
        · go_wp2
          go_returns
          exact ⟨by simp, G0.out⟩
        go_wp2_with fail
        refine (C1.out _).mono ?_
        rintro e w' ⟨rfl, rfl⟩
        cases b3
        · go_wp2
          go_returns
          exact ⟨by simp, G0.out⟩
        go_wp2_with fail
        refine (C2.out _).mono ?_
        rintro e w' ⟨rfl, rfl⟩
        cases b4
        · go_wp2
          go_returns
          exact ⟨by simp, G0.out⟩
        go_wp2
        go_returns
        exact ⟨by simp, G0.out⟩

    · rw [decide_eq_false hr]
      have hr1 : ((rs : Int) != (m : Int)) = true := by simp; omega
      have hr2 : ((rs : Int) == (m : Int)) = false := by simp; omega
      have hr3 : (rs == m) = false := by simp; omega
      have hr4 : (rs != m) = true := by simp; omega
      clear hr
      go_enter Try.func23, Try.ntmps23
      go_wp2_with fail
      refine (HN.out _).mono ?_
      rintro e w' ⟨rfl, rfl⟩
      go_wp2
      go_returns
      exact ⟨by simp, G0.out⟩

  · rw [decide_eq_false hq]
    have hq1 : (q == 0) = false := by simp; exact hq
    have hq2 : (q != 0) = true := by simp; exact hq
    clear hq
    go_enter Try.func23, Try.ntmps23
    go_wp2_with fail
    refine (HN.out _).mono ?_
    rintro e w' ⟨rfl, rfl⟩
    go_wp2
    go_returns
    exact ⟨by simp, G0.out⟩


set_option maxHeartbeats 4000000 in
theorem rmay_any (x : Or) (hx : SzO x) (w : World) : Calls Try.prog 24 #[orv x] w fun e w' => e = .returned (.bool (mayO x)) ∧ Grew w w' := by
  obtain ⟨us, lb, wh, sd, bs, qt, pr, lf, rs, sq⟩ := x
  obtain ⟨hx1, hx2, _⟩ := hx
  unfold orv mayO
  simp only at hx1 hx2 ⊢
  have H1 := Lib.hid (rnum_any lb)
  have H2 := Lib.hid (rnum_any wh)
  have HN := Lib.hid (rneed_any sd lf pr hx2 hx1)
  have C1 := Lib.hid (coin_any bs)
  have C2 := Lib.hid (coin_any qt)
  have G0 : Hid (Grew w (w.alloc (.cells #[.bool us, .int .i64 lb, .int .i64 wh, .int .i64 sd, .int .i64 bs, .int .i64 qt, .int .u64 (pr : Int), .int .u64 (lf : Int), .int .u64 (rs : Int), .int .i64 sq] 26))) := Lib.hid (by unfold Grew; go_grown)
  clear hx1 hx2
  generalize num lb = b1 at *
  generalize num wh = b2 at *
  rcases hnp : needP sd lf pr with ⟨m, q⟩
  rw [hnp] at HN
  clear hnp
  unfold two at HN
  simp only at HN ⊢
  by_cases hq : q = 0
  · rw [decide_eq_true hq]
    subst hq
    by_cases hr : rs = m
    · rw [decide_eq_true hr]
      subst hr
      have hr1 : ((rs : Int) != (rs : Int)) = false := by simp
      have hr2 : ((rs : Int) == (rs : Int)) = true := by simp
      clear C1 C2
      by_cases h10 : 0 ≤ bs
      · have h101 : decide (0 ≤ bs) = true := decide_eq_true h10
        by_cases h10b : bs < 4
        · have h102 : decide (bs < 4) = true := decide_eq_true h10b
          have h103 : coinB bs = true := decide_eq_true ⟨h10, h10b⟩
          rw [h103]
          clear h103
          by_cases h11 : 0 ≤ qt
          · have h111 : decide (0 ≤ qt) = true := decide_eq_true h11
            by_cases h11b : qt < 4
            · have h112 : decide (qt < 4) = true := decide_eq_true h11b
              have h113 : coinB qt = true := decide_eq_true ⟨h11, h11b⟩
              rw [h113]
              clear h113
              by_cases h8 : bs = qt
              · subst h8
                rw [decide_eq_true rfl]
                go_enter Try.func24, Try.ntmps24
                go_wp2_with fail
                refine (HN.out _).mono ?_
                rintro e w' ⟨rfl, rfl⟩
                go_wp2
                go_returns
                exact ⟨by simp, G0.out⟩

              · rw [decide_eq_false h8]
                have h81 : (bs == qt) = false := by simp; exact h8
                have h82 : (bs != qt) = true := by simp; exact h8
                clear h8
                go_enter Try.func24, Try.ntmps24
                go_wp2_with fail
                refine (HN.out _).mono ?_
                rintro e w' ⟨rfl, rfl⟩
                go_wp2_with fail
                refine (H1.out _).mono ?_
                rintro e w' ⟨rfl, rfl⟩
                cases b1
                · go_wp2
                  go_returns
                  exact ⟨by simp, G0.out⟩
                go_wp2_with fail
                refine (H2.out _).mono ?_
                rintro e w' ⟨rfl, rfl⟩
                cases b2
                · go_wp2
                  go_returns
                  exact ⟨by simp, G0.out⟩
                go_wp2
                go_returns
                exact ⟨by simp, G0.out⟩


            · have h112 : decide (qt < 4) = false := decide_eq_false h11b
              have h113 : coinB qt = false := decide_eq_false fun hh => h11b hh.2
              rw [h113]
              clear h113
              go_enter Try.func24, Try.ntmps24
              go_wp2_with fail
              refine (HN.out _).mono ?_
              rintro e w' ⟨rfl, rfl⟩
              go_wp2
              go_returns
              exact ⟨by simp, G0.out⟩

          · have h111 : decide (0 ≤ qt) = false := decide_eq_false h11
            have h113 : coinB qt = false := decide_eq_false fun hh => h11 hh.1
            rw [h113]
            clear h113
            go_enter Try.func24, Try.ntmps24
            go_wp2_with fail
            refine (HN.out _).mono ?_
            rintro e w' ⟨rfl, rfl⟩
            go_wp2
            go_returns
            exact ⟨by simp, G0.out⟩


        · have h102 : decide (bs < 4) = false := decide_eq_false h10b
          have h103 : coinB bs = false := decide_eq_false fun hh => h10b hh.2
          rw [h103]
          clear h103
          go_enter Try.func24, Try.ntmps24
          go_wp2_with fail
          refine (HN.out _).mono ?_
          rintro e w' ⟨rfl, rfl⟩
          go_wp2
          go_returns
          exact ⟨by simp, G0.out⟩

      · have h101 : decide (0 ≤ bs) = false := decide_eq_false h10
        have h103 : coinB bs = false := decide_eq_false fun hh => h10 hh.1
        rw [h103]
        clear h103
        go_enter Try.func24, Try.ntmps24
        go_wp2_with fail
        refine (HN.out _).mono ?_
        rintro e w' ⟨rfl, rfl⟩
        go_wp2
        go_returns
        exact ⟨by simp, G0.out⟩


    · rw [decide_eq_false hr]
      have hr1 : ((rs : Int) != (m : Int)) = true := by simp; omega
      have hr2 : ((rs : Int) == (m : Int)) = false := by simp; omega
      have hr3 : (rs == m) = false := by simp; omega
      have hr4 : (rs != m) = true := by simp; omega
      clear hr
      clear C1 C2 H1 H2
      go_enter Try.func24, Try.ntmps24
      go_wp2_with fail
      refine (HN.out _).mono ?_
      rintro e w' ⟨rfl, rfl⟩
      go_wp2
      all_goals go_returns
      all_goals exact ⟨by simp, G0.out⟩

  · rw [decide_eq_false hq]
    have hq1 : (q == 0) = false := by simp; exact hq
    have hq2 : (q != 0) = true := by simp; exact hq
    clear hq
    clear C1 C2 H1 H2
    go_enter Try.func24, Try.ntmps24
    go_wp2_with fail
    refine (HN.out _).mono ?_
    rintro e w' ⟨rfl, rfl⟩
    go_wp2
    all_goals go_returns
    all_goals exact ⟨by simp, G0.out⟩


end Go.Proofs.Ytmnfajplfnfgpaa.OB
