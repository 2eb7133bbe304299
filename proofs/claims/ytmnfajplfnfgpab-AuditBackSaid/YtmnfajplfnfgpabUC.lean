/-
  Which entries may be, and which stand behind others.
  Conditions: those that each lemma names.
-/
import Derived.Test.YtmnfajplfnfgpabUA
import Derived.Test.YtmnfajplfnfgpabUB
import Derived.Lib.Hide
namespace Go.Proofs.Ytmnfajplfnfgpab.UC
set_option maxRecDepth 100000
open Go Go.RowKit Go.Lib Go.Proofs.Ytmnfajplfnfgpab Go.Proofs.Ytmnfajplfnfgpab.Facts Go.Proofs.Ytmnfajplfnfgpab.Ints Go.Proofs.Ytmnfajplfnfgpab.PA Go.Proofs.Ytmnfajplfnfgpab.UA Go.Proofs.Ytmnfajplfnfgpab.UM Go.Proofs.Ytmnfajplfnfgpab.UB Go.Proofs.Ytmnfajplfnfgpab.Bytes


def restE (sd bs qt : Int) (qn pr : Nat) (st : Int) : Bool := if sd = 3 then num st && (decide (bs = 0) && (decide (qt = 0) && (decide (qn = 0) && decide (pr = 0)))) else decide ((needP sd qn pr).2 = 0) && (coinB bs && (coinB qt && (!decide (bs = qt) && decide (st = 0))))
/-- May the entry be? -/
def okE (x : En) : Bool := decide (x.round ≤ top) && (num x.line && (num x.label && (num x.who && restE x.side x.base x.quote x.qty x.price x.slot)))
def SzE (x : En) : Prop := x.round < 18446744073709551616 ∧ x.qty < 18446744073709551616 ∧ x.price < 18446744073709551616
set_option maxHeartbeats 4000000 in
theorem may_any (x : En) (hx : SzE x) (w : World) : Calls Try.prog 9 #[env x] w fun e w' => e = .returned (.bool (okE x)) ∧ Grew w w' := by
  obtain ⟨r, ln, lb, wh, sd, bs, qt, qn, pr, st⟩ := x
  obtain ⟨_, hx1, hx2⟩ := hx
  unfold env okE
  simp only at hx1 hx2 ⊢
  have H1 := Lib.hid (num_any ln)
  have H2 := Lib.hid (num_any lb)
  have H3 := Lib.hid (num_any wh)
  have H4 := Lib.hid (num_any st)
  have HN := Lib.hid (need_any sd qn pr hx1 hx2)
  have C1 := Lib.hid (coin_any bs)
  have C2 := Lib.hid (coin_any qt)
  have G0 : Hid (Grew w (w.alloc (.cells #[.int .u64 (r : Int), .int .i64 ln, .int .i64 lb, .int .i64 wh, .int .i64 sd, .int .i64 bs, .int .i64 qt, .int .u64 (qn : Int), .int .u64 (pr : Int), .int .i64 st] 25))) := Lib.hid (by unfold Grew; go_grown)
  clear hx1 hx2
  by_cases hr : r ≤ top
  · have d1 : decide ((4611686018427387904 : Int) < (r : Int)) = false := decide_eq_false (by unfold top at hr; omega)
    rw [decide_eq_true hr]
    clear hr
    generalize num ln = b1 at *
    generalize num lb = b2 at *
    generalize num wh = b3 at *
    cases b1 with
    | false =>
      go_enter Try.func9, Try.ntmps9
      go_wp2_with fail
      refine (H1.out _).mono ?_
      rintro e w' ⟨rfl, rfl⟩
      go_wp2
      go_returns
      exact ⟨by simp, G0.out⟩

    | true =>
      cases b2 with
      | false =>
        go_enter Try.func9, Try.ntmps9
        go_wp2_with fail
        refine (H1.out _).mono ?_
        rintro e w' ⟨rfl, rfl⟩
        go_wp2_with fail
        refine (H2.out _).mono ?_
        rintro e w' ⟨rfl, rfl⟩
        go_wp2
        go_returns
        exact ⟨by simp, G0.out⟩

      | true =>
        cases b3 with
        | false =>
          go_enter Try.func9, Try.ntmps9
          go_wp2_with fail
          refine (H1.out _).mono ?_
          rintro e w' ⟨rfl, rfl⟩
          go_wp2_with fail
          refine (H2.out _).mono ?_
          rintro e w' ⟨rfl, rfl⟩
          go_wp2_with fail
          refine (H3.out _).mono ?_
          rintro e w' ⟨rfl, rfl⟩
          go_wp2
          go_returns
          exact ⟨by simp, G0.out⟩

        | true =>
          unfold restE
          by_cases hs : sd = 3
          · subst hs
            rw [if_pos rfl]
            generalize num st = b4 at *
            clear HN C1 C2
            cases b4 with
            | false =>
              go_enter Try.func9, Try.ntmps9
              go_wp2_with fail
              refine (H1.out _).mono ?_
              rintro e w' ⟨rfl, rfl⟩
              go_wp2_with fail
              refine (H2.out _).mono ?_
              rintro e w' ⟨rfl, rfl⟩
              go_wp2_with fail
              refine (H3.out _).mono ?_
              rintro e w' ⟨rfl, rfl⟩
              go_wp2_with fail
              refine (H4.out _).mono ?_
              rintro e w' ⟨rfl, rfl⟩
              go_wp2
              go_returns
              exact ⟨by simp, G0.out⟩

            | true =>
              by_cases h5 : bs = 0
              · rw [decide_eq_true h5]
                subst h5
                by_cases h6 : qt = 0
                · rw [decide_eq_true h6]
                  subst h6
                  by_cases h7 : qn = 0
                  · rw [decide_eq_true h7]
                    subst h7
                    by_cases h8 : pr = 0
                    · rw [decide_eq_true h8]
                      subst h8
                      go_enter Try.func9, Try.ntmps9
                      go_wp2_with fail
                      refine (H1.out _).mono ?_
                      rintro e w' ⟨rfl, rfl⟩
                      go_wp2_with fail
                      refine (H2.out _).mono ?_
                      rintro e w' ⟨rfl, rfl⟩
                      go_wp2_with fail
                      refine (H3.out _).mono ?_
                      rintro e w' ⟨rfl, rfl⟩
                      go_wp2_with fail
                      refine (H4.out _).mono ?_
                      rintro e w' ⟨rfl, rfl⟩
                      go_wp2
                      go_returns
                      exact ⟨by simp, G0.out⟩

                    · rw [decide_eq_false h8]
                      have h81 : ((pr : Int) == 0) = false := by simp; exact h8
                      have h82 : (pr == 0) = false := by simp; exact h8
                      clear h8
                      go_enter Try.func9, Try.ntmps9
                      go_wp2_with fail
                      refine (H1.out _).mono ?_
                      rintro e w' ⟨rfl, rfl⟩
                      go_wp2_with fail
                      refine (H2.out _).mono ?_
                      rintro e w' ⟨rfl, rfl⟩
                      go_wp2_with fail
                      refine (H3.out _).mono ?_
                      rintro e w' ⟨rfl, rfl⟩
                      go_wp2_with fail
                      refine (H4.out _).mono ?_
                      rintro e w' ⟨rfl, rfl⟩
                      go_wp2
                      go_returns
                      exact ⟨by simp, G0.out⟩


                  · rw [decide_eq_false h7]
                    have h71 : ((qn : Int) == 0) = false := by simp; exact h7
                    have h72 : (qn == 0) = false := by simp; exact h7
                    clear h7
                    go_enter Try.func9, Try.ntmps9
                    go_wp2_with fail
                    refine (H1.out _).mono ?_
                    rintro e w' ⟨rfl, rfl⟩
                    go_wp2_with fail
                    refine (H2.out _).mono ?_
                    rintro e w' ⟨rfl, rfl⟩
                    go_wp2_with fail
                    refine (H3.out _).mono ?_
                    rintro e w' ⟨rfl, rfl⟩
                    go_wp2_with fail
                    refine (H4.out _).mono ?_
                    rintro e w' ⟨rfl, rfl⟩
                    go_wp2
                    go_returns
                    exact ⟨by simp, G0.out⟩


                · rw [decide_eq_false h6]
                  have h61 : ((qt : Int) == 0) = false := by simp; exact h6
                  clear h6
                  go_enter Try.func9, Try.ntmps9
                  go_wp2_with fail
                  refine (H1.out _).mono ?_
                  rintro e w' ⟨rfl, rfl⟩
                  go_wp2_with fail
                  refine (H2.out _).mono ?_
                  rintro e w' ⟨rfl, rfl⟩
                  go_wp2_with fail
                  refine (H3.out _).mono ?_
                  rintro e w' ⟨rfl, rfl⟩
                  go_wp2_with fail
                  refine (H4.out _).mono ?_
                  rintro e w' ⟨rfl, rfl⟩
                  go_wp2
                  go_returns
                  exact ⟨by simp, G0.out⟩


              · rw [decide_eq_false h5]
                have h51 : ((bs : Int) == 0) = false := by simp; exact h5
                clear h5
                go_enter Try.func9, Try.ntmps9
                go_wp2_with fail
                refine (H1.out _).mono ?_
                rintro e w' ⟨rfl, rfl⟩
                go_wp2_with fail
                refine (H2.out _).mono ?_
                rintro e w' ⟨rfl, rfl⟩
                go_wp2_with fail
                refine (H3.out _).mono ?_
                rintro e w' ⟨rfl, rfl⟩
                go_wp2_with fail
                refine (H4.out _).mono ?_
                rintro e w' ⟨rfl, rfl⟩
                go_wp2
                go_returns
                exact ⟨by simp, G0.out⟩



          · clear H4
            rw [if_neg hs]
            have hs1 : (sd == 3) = false := by simp; exact hs
            clear hs
            rcases hnp : needP sd qn pr with ⟨m, q⟩
            rw [hnp] at HN
            clear hnp
            unfold two at HN
            simp only at HN ⊢
            by_cases hq : q = 0
            · rw [decide_eq_true hq]
              subst hq
              generalize coinB bs = k1 at *
              generalize coinB qt = k2 at *
              cases k1 with
              | false =>
                go_enter Try.func9, Try.ntmps9
                go_wp2_with fail
                refine (H1.out _).mono ?_
                rintro e w' ⟨rfl, rfl⟩
                go_wp2_with fail
                refine (H2.out _).mono ?_
                rintro e w' ⟨rfl, rfl⟩
                go_wp2_with fail
                refine (H3.out _).mono ?_
                rintro e w' ⟨rfl, rfl⟩
                go_wp2_with fail
                refine (HN.out _).mono ?_
                rintro e w' ⟨rfl, rfl⟩
                go_wp2_with fail
                refine (C1.out _).mono ?_
                rintro e w' ⟨rfl, rfl⟩
                go_wp2
                go_returns
                exact ⟨by simp, G0.out⟩

              | true =>
                cases k2 with
                | false =>
                  go_enter Try.func9, Try.ntmps9
                  go_wp2_with fail
                  refine (H1.out _).mono ?_
                  rintro e w' ⟨rfl, rfl⟩
                  go_wp2_with fail
                  refine (H2.out _).mono ?_
                  rintro e w' ⟨rfl, rfl⟩
                  go_wp2_with fail
                  refine (H3.out _).mono ?_
                  rintro e w' ⟨rfl, rfl⟩
                  go_wp2_with fail
                  refine (HN.out _).mono ?_
                  rintro e w' ⟨rfl, rfl⟩
                  go_wp2_with fail
                  refine (C1.out _).mono ?_
                  rintro e w' ⟨rfl, rfl⟩
                  go_wp2_with fail
                  refine (C2.out _).mono ?_
                  rintro e w' ⟨rfl, rfl⟩
                  go_wp2
                  go_returns
                  exact ⟨by simp, G0.out⟩

                | true =>
                  by_cases h8 : bs = qt
                  · subst h8
                    rw [decide_eq_true rfl]
                    go_enter Try.func9, Try.ntmps9
                    go_wp2_with fail
                    refine (H1.out _).mono ?_
                    rintro e w' ⟨rfl, rfl⟩
                    go_wp2_with fail
                    refine (H2.out _).mono ?_
                    rintro e w' ⟨rfl, rfl⟩
                    go_wp2_with fail
                    refine (H3.out _).mono ?_
                    rintro e w' ⟨rfl, rfl⟩
                    go_wp2_with fail
                    refine (HN.out _).mono ?_
                    rintro e w' ⟨rfl, rfl⟩
                    go_wp2_with fail
                    refine (C1.out _).mono ?_
                    rintro e w' ⟨rfl, rfl⟩
                    go_wp2_with fail
                    refine (C2.out _).mono ?_
                    rintro e w' ⟨rfl, rfl⟩
                    go_wp2
                    go_returns
                    exact ⟨by simp, G0.out⟩

                  · rw [decide_eq_false h8]
                    have h81 : (bs == qt) = false := by simp; exact h8
                    have h82 : (bs != qt) = true := by simp; exact h8
                    clear h8
                    by_cases h9 : st = 0
                    · rw [decide_eq_true h9]
                      subst h9
                      go_enter Try.func9, Try.ntmps9
                      go_wp2_with fail
                      refine (H1.out _).mono ?_
                      rintro e w' ⟨rfl, rfl⟩
                      go_wp2_with fail
                      refine (H2.out _).mono ?_
                      rintro e w' ⟨rfl, rfl⟩
                      go_wp2_with fail
                      refine (H3.out _).mono ?_
                      rintro e w' ⟨rfl, rfl⟩
                      go_wp2_with fail
                      refine (HN.out _).mono ?_
                      rintro e w' ⟨rfl, rfl⟩
                      go_wp2_with fail
                      refine (C1.out _).mono ?_
                      rintro e w' ⟨rfl, rfl⟩
                      go_wp2_with fail
                      refine (C2.out _).mono ?_
                      rintro e w' ⟨rfl, rfl⟩
                      go_wp2
                      go_returns
                      exact ⟨by simp, G0.out⟩

                    · rw [decide_eq_false h9]
                      have h91 : (st == 0) = false := by simp; exact h9
                      clear h9
                      go_enter Try.func9, Try.ntmps9
                      go_wp2_with fail
                      refine (H1.out _).mono ?_
                      rintro e w' ⟨rfl, rfl⟩
                      go_wp2_with fail
                      refine (H2.out _).mono ?_
                      rintro e w' ⟨rfl, rfl⟩
                      go_wp2_with fail
                      refine (H3.out _).mono ?_
                      rintro e w' ⟨rfl, rfl⟩
                      go_wp2_with fail
                      refine (HN.out _).mono ?_
                      rintro e w' ⟨rfl, rfl⟩
                      go_wp2_with fail
                      refine (C1.out _).mono ?_
                      rintro e w' ⟨rfl, rfl⟩
                      go_wp2_with fail
                      refine (C2.out _).mono ?_
                      rintro e w' ⟨rfl, rfl⟩
                      go_wp2
                      go_returns
                      exact ⟨by simp, G0.out⟩





            · rw [decide_eq_false hq]
              have hq1 : (q == 0) = false := by simp; exact hq
              clear hq
              go_enter Try.func9, Try.ntmps9
              go_wp2_with fail
              refine (H1.out _).mono ?_
              rintro e w' ⟨rfl, rfl⟩
              go_wp2_with fail
              refine (H2.out _).mono ?_
              rintro e w' ⟨rfl, rfl⟩
              go_wp2_with fail
              refine (H3.out _).mono ?_
              rintro e w' ⟨rfl, rfl⟩
              go_wp2_with fail
              refine (HN.out _).mono ?_
              rintro e w' ⟨rfl, rfl⟩
              go_wp2
              go_returns
              exact ⟨by simp, G0.out⟩






  · have d1 : decide ((4611686018427387904 : Int) < (r : Int)) = true := decide_eq_true (by unfold top at hr; omega)
    rw [decide_eq_false hr]
    clear hr
    go_enter Try.func9, Try.ntmps9
    go_wp2
    go_returns
    exact ⟨by simp, G0.out⟩

set_option maxHeartbeats 4000000 in
theorem rmay_any (x : En) (hx : SzE x) (w : World) : Calls Try.prog 10 #[env x] w fun e w' => e = .returned (.bool (okE x)) ∧ Grew w w' := by
  obtain ⟨r, ln, lb, wh, sd, bs, qt, qn, pr, st⟩ := x
  obtain ⟨_, hx1, hx2⟩ := hx
  unfold env okE
  simp only at hx1 hx2 ⊢
  have H1 := Lib.hid (rnum_any ln)
  have H2 := Lib.hid (rnum_any lb)
  have H3 := Lib.hid (rnum_any wh)
  have H4 := Lib.hid (rnum_any st)
  have HN := Lib.hid (rneed_any sd qn pr hx1 hx2)
  have C1 := Lib.hid (coin_any bs)
  have C2 := Lib.hid (coin_any qt)
  have G0 : Hid (Grew w (w.alloc (.cells #[.int .u64 (r : Int), .int .i64 ln, .int .i64 lb, .int .i64 wh, .int .i64 sd, .int .i64 bs, .int .i64 qt, .int .u64 (qn : Int), .int .u64 (pr : Int), .int .i64 st] 25))) := Lib.hid (by unfold Grew; go_grown)
  clear hx1 hx2
  by_cases hr : r ≤ top
  · have d1 : decide ((4611686018427387904 : Int) < (r : Int)) = false := decide_eq_false (by unfold top at hr; omega)
    rw [decide_eq_true hr]
    clear hr
    generalize num ln = b1 at *
    generalize num lb = b2 at *
    generalize num wh = b3 at *
    cases b1 with
    | false =>
      go_enter Try.func10, Try.ntmps10
      go_wp2_with fail
      refine (H1.out _).mono ?_
      rintro e w' ⟨rfl, rfl⟩
      go_wp2
      go_returns
      exact ⟨by simp, G0.out⟩

    | true =>
      cases b2 with
      | false =>
        go_enter Try.func10, Try.ntmps10
        go_wp2_with fail
        refine (H1.out _).mono ?_
        rintro e w' ⟨rfl, rfl⟩
        go_wp2_with fail
        refine (H2.out _).mono ?_
        rintro e w' ⟨rfl, rfl⟩
        go_wp2
        go_returns
        exact ⟨by simp, G0.out⟩

      | true =>
        cases b3 with
        | false =>
          go_enter Try.func10, Try.ntmps10
          go_wp2_with fail
          refine (H1.out _).mono ?_
          rintro e w' ⟨rfl, rfl⟩
          go_wp2_with fail
          refine (H2.out _).mono ?_
          rintro e w' ⟨rfl, rfl⟩
          go_wp2_with fail
          refine (H3.out _).mono ?_
          rintro e w' ⟨rfl, rfl⟩
          go_wp2
          go_returns
          exact ⟨by simp, G0.out⟩

        | true =>
          unfold restE
          by_cases hs : sd = 3
          · subst hs
            rw [if_pos rfl]
            generalize num st = b4 at *
            clear HN C1 C2
            cases b4 with
            | false =>
              go_enter Try.func10, Try.ntmps10
              go_wp2_with fail
              refine (H1.out _).mono ?_
              rintro e w' ⟨rfl, rfl⟩
              go_wp2_with fail
              refine (H2.out _).mono ?_
              rintro e w' ⟨rfl, rfl⟩
              go_wp2_with fail
              refine (H3.out _).mono ?_
              rintro e w' ⟨rfl, rfl⟩
              go_wp2_with fail
              refine (H4.out _).mono ?_
              rintro e w' ⟨rfl, rfl⟩
              go_wp2
              go_returns
              exact ⟨by simp, G0.out⟩

            | true =>
              by_cases h5 : bs = 0
              · rw [decide_eq_true h5]
                subst h5
                by_cases h6 : qt = 0
                · rw [decide_eq_true h6]
                  subst h6
                  by_cases h7 : qn = 0
                  · rw [decide_eq_true h7]
                    subst h7
                    by_cases h8 : pr = 0
                    · rw [decide_eq_true h8]
                      subst h8
                      go_enter Try.func10, Try.ntmps10
                      go_wp2_with fail
                      refine (H1.out _).mono ?_
                      rintro e w' ⟨rfl, rfl⟩
                      go_wp2_with fail
                      refine (H2.out _).mono ?_
                      rintro e w' ⟨rfl, rfl⟩
                      go_wp2_with fail
                      refine (H3.out _).mono ?_
                      rintro e w' ⟨rfl, rfl⟩
                      go_wp2_with fail
                      refine (H4.out _).mono ?_
                      rintro e w' ⟨rfl, rfl⟩
                      go_wp2
                      go_returns
                      exact ⟨by simp, G0.out⟩

                    · rw [decide_eq_false h8]
                      have h81 : ((pr : Int) == 0) = false := by simp; exact h8
                      have h82 : (pr == 0) = false := by simp; exact h8
                      clear h8
                      go_enter Try.func10, Try.ntmps10
                      go_wp2_with fail
                      refine (H1.out _).mono ?_
                      rintro e w' ⟨rfl, rfl⟩
                      go_wp2_with fail
                      refine (H2.out _).mono ?_
                      rintro e w' ⟨rfl, rfl⟩
                      go_wp2_with fail
                      refine (H3.out _).mono ?_
                      rintro e w' ⟨rfl, rfl⟩
                      go_wp2_with fail
                      refine (H4.out _).mono ?_
                      rintro e w' ⟨rfl, rfl⟩
                      go_wp2
                      go_returns
                      exact ⟨by simp, G0.out⟩


                  · rw [decide_eq_false h7]
                    have h71 : ((qn : Int) == 0) = false := by simp; exact h7
                    have h72 : (qn == 0) = false := by simp; exact h7
                    clear h7
                    go_enter Try.func10, Try.ntmps10
                    go_wp2_with fail
                    refine (H1.out _).mono ?_
                    rintro e w' ⟨rfl, rfl⟩
                    go_wp2_with fail
                    refine (H2.out _).mono ?_
                    rintro e w' ⟨rfl, rfl⟩
                    go_wp2_with fail
                    refine (H3.out _).mono ?_
                    rintro e w' ⟨rfl, rfl⟩
                    go_wp2_with fail
                    refine (H4.out _).mono ?_
                    rintro e w' ⟨rfl, rfl⟩
                    go_wp2
                    go_returns
                    exact ⟨by simp, G0.out⟩


                · rw [decide_eq_false h6]
                  have h61 : ((qt : Int) == 0) = false := by simp; exact h6
                  clear h6
                  go_enter Try.func10, Try.ntmps10
                  go_wp2_with fail
                  refine (H1.out _).mono ?_
                  rintro e w' ⟨rfl, rfl⟩
                  go_wp2_with fail
                  refine (H2.out _).mono ?_
                  rintro e w' ⟨rfl, rfl⟩
                  go_wp2_with fail
                  refine (H3.out _).mono ?_
                  rintro e w' ⟨rfl, rfl⟩
                  go_wp2_with fail
                  refine (H4.out _).mono ?_
                  rintro e w' ⟨rfl, rfl⟩
                  go_wp2
                  go_returns
                  exact ⟨by simp, G0.out⟩


              · rw [decide_eq_false h5]
                have h51 : ((bs : Int) == 0) = false := by simp; exact h5
                clear h5
                go_enter Try.func10, Try.ntmps10
                go_wp2_with fail
                refine (H1.out _).mono ?_
                rintro e w' ⟨rfl, rfl⟩
                go_wp2_with fail
                refine (H2.out _).mono ?_
                rintro e w' ⟨rfl, rfl⟩
                go_wp2_with fail
                refine (H3.out _).mono ?_
                rintro e w' ⟨rfl, rfl⟩
                go_wp2_with fail
                refine (H4.out _).mono ?_
                rintro e w' ⟨rfl, rfl⟩
                go_wp2
                go_returns
                exact ⟨by simp, G0.out⟩



          · clear H4
            rw [if_neg hs]
            have hs1 : (sd == 3) = false := by simp; exact hs
            clear hs
            rcases hnp : needP sd qn pr with ⟨m, q⟩
            rw [hnp] at HN
            clear hnp
            unfold two at HN
            simp only at HN ⊢
            by_cases hq : q = 0
            · rw [decide_eq_true hq]
              subst hq
              by_cases h9 : st = 0
              · rw [decide_eq_true h9]
                subst h9
                by_cases h10 : 0 ≤ bs
                · have h101 : decide (0 ≤ bs) = true := decide_eq_true h10
                  by_cases h10b : bs < 4
                  · have h102 : decide (bs < 4) = true := decide_eq_true h10b
                    have h103 : coinB bs = true := decide_eq_true ⟨h10, h10b⟩
                    rw [h103]
                    clear h103
                    by_cases h11 : 0 ≤ qt
                    · have h111 : decide (0 ≤ qt) = true := decide_eq_true h11
                      by_cases h11b : qt < 4
                      · have h112 : decide (qt < 4) = true := decide_eq_true h11b
                        have h113 : coinB qt = true := decide_eq_true ⟨h11, h11b⟩
                        rw [h113]
                        clear h113
                        by_cases h8 : bs = qt
                        · subst h8
                          rw [decide_eq_true rfl]
                          go_enter Try.func10, Try.ntmps10
                          go_wp2_with fail
                          refine (H1.out _).mono ?_
                          rintro e w' ⟨rfl, rfl⟩
                          go_wp2_with fail
                          refine (H2.out _).mono ?_
                          rintro e w' ⟨rfl, rfl⟩
                          go_wp2_with fail
                          refine (H3.out _).mono ?_
                          rintro e w' ⟨rfl, rfl⟩
                          go_wp2_with fail
                          refine (HN.out _).mono ?_
                          rintro e w' ⟨rfl, rfl⟩
                          go_wp2
                          go_returns
                          exact ⟨by simp, G0.out⟩

                        · rw [decide_eq_false h8]
                          have h81 : (bs == qt) = false := by simp; exact h8
                          have h82 : (bs != qt) = true := by simp; exact h8
                          clear h8
                          go_enter Try.func10, Try.ntmps10
                          go_wp2_with fail
                          refine (H1.out _).mono ?_
                          rintro e w' ⟨rfl, rfl⟩
                          go_wp2_with fail
                          refine (H2.out _).mono ?_
                          rintro e w' ⟨rfl, rfl⟩
                          go_wp2_with fail
                          refine (H3.out _).mono ?_
                          rintro e w' ⟨rfl, rfl⟩
                          go_wp2_with fail
                          refine (HN.out _).mono ?_
                          rintro e w' ⟨rfl, rfl⟩
                          go_wp2
                          go_returns
                          exact ⟨by simp, G0.out⟩


                      · have h112 : decide (qt < 4) = false := decide_eq_false h11b
                        have h113 : coinB qt = false := decide_eq_false fun hh => h11b hh.2
                        rw [h113]
                        clear h113
                        go_enter Try.func10, Try.ntmps10
                        go_wp2_with fail
                        refine (H1.out _).mono ?_
                        rintro e w' ⟨rfl, rfl⟩
                        go_wp2_with fail
                        refine (H2.out _).mono ?_
                        rintro e w' ⟨rfl, rfl⟩
                        go_wp2_with fail
                        refine (H3.out _).mono ?_
                        rintro e w' ⟨rfl, rfl⟩
                        go_wp2_with fail
                        refine (HN.out _).mono ?_
                        rintro e w' ⟨rfl, rfl⟩
                        go_wp2
                        go_returns
                        exact ⟨by simp, G0.out⟩

                    · have h111 : decide (0 ≤ qt) = false := decide_eq_false h11
                      have h113 : coinB qt = false := decide_eq_false fun hh => h11 hh.1
                      rw [h113]
                      clear h113
                      go_enter Try.func10, Try.ntmps10
                      go_wp2_with fail
                      refine (H1.out _).mono ?_
                      rintro e w' ⟨rfl, rfl⟩
                      go_wp2_with fail
                      refine (H2.out _).mono ?_
                      rintro e w' ⟨rfl, rfl⟩
                      go_wp2_with fail
                      refine (H3.out _).mono ?_
                      rintro e w' ⟨rfl, rfl⟩
                      go_wp2_with fail
                      refine (HN.out _).mono ?_
                      rintro e w' ⟨rfl, rfl⟩
                      go_wp2
                      go_returns
                      exact ⟨by simp, G0.out⟩


                  · have h102 : decide (bs < 4) = false := decide_eq_false h10b
                    have h103 : coinB bs = false := decide_eq_false fun hh => h10b hh.2
                    rw [h103]
                    clear h103
                    go_enter Try.func10, Try.ntmps10
                    go_wp2_with fail
                    refine (H1.out _).mono ?_
                    rintro e w' ⟨rfl, rfl⟩
                    go_wp2_with fail
                    refine (H2.out _).mono ?_
                    rintro e w' ⟨rfl, rfl⟩
                    go_wp2_with fail
                    refine (H3.out _).mono ?_
                    rintro e w' ⟨rfl, rfl⟩
                    go_wp2_with fail
                    refine (HN.out _).mono ?_
                    rintro e w' ⟨rfl, rfl⟩
                    go_wp2
                    go_returns
                    exact ⟨by simp, G0.out⟩

                · have h101 : decide (0 ≤ bs) = false := decide_eq_false h10
                  have h103 : coinB bs = false := decide_eq_false fun hh => h10 hh.1
                  rw [h103]
                  clear h103
                  go_enter Try.func10, Try.ntmps10
                  go_wp2_with fail
                  refine (H1.out _).mono ?_
                  rintro e w' ⟨rfl, rfl⟩
                  go_wp2_with fail
                  refine (H2.out _).mono ?_
                  rintro e w' ⟨rfl, rfl⟩
                  go_wp2_with fail
                  refine (H3.out _).mono ?_
                  rintro e w' ⟨rfl, rfl⟩
                  go_wp2_with fail
                  refine (HN.out _).mono ?_
                  rintro e w' ⟨rfl, rfl⟩
                  go_wp2
                  go_returns
                  exact ⟨by simp, G0.out⟩


              · rw [decide_eq_false h9]
                have h91 : (st == 0) = false := by simp; exact h9
                clear h9
                go_enter Try.func10, Try.ntmps10
                go_wp2_with fail
                refine (H1.out _).mono ?_
                rintro e w' ⟨rfl, rfl⟩
                go_wp2_with fail
                refine (H2.out _).mono ?_
                rintro e w' ⟨rfl, rfl⟩
                go_wp2_with fail
                refine (H3.out _).mono ?_
                rintro e w' ⟨rfl, rfl⟩
                go_wp2_with fail
                refine (HN.out _).mono ?_
                rintro e w' ⟨rfl, rfl⟩
                go_wp2
                go_returns
                exact ⟨by simp, G0.out⟩


            · rw [decide_eq_false hq]
              have hq1 : (q == 0) = false := by simp; exact hq
              clear hq
              go_enter Try.func10, Try.ntmps10
              go_wp2_with fail
              refine (H1.out _).mono ?_
              rintro e w' ⟨rfl, rfl⟩
              go_wp2_with fail
              refine (H2.out _).mono ?_
              rintro e w' ⟨rfl, rfl⟩
              go_wp2_with fail
              refine (H3.out _).mono ?_
              rintro e w' ⟨rfl, rfl⟩
              go_wp2_with fail
              refine (HN.out _).mono ?_
              rintro e w' ⟨rfl, rfl⟩
              go_wp2
              go_returns
              exact ⟨by simp, G0.out⟩






  · have d1 : decide ((4611686018427387904 : Int) < (r : Int)) = true := decide_eq_true (by unfold top at hr; omega)
    rw [decide_eq_false hr]
    clear hr
    go_enter Try.func10, Try.ntmps10
    go_wp2
    go_returns
    exact ⟨by simp, G0.out⟩

/-- Does y stand behind x? -/
def behE (x y : En) : Bool := decide (x.round < y.round) || (decide (x.round = y.round) && decide (x.line < y.line))
set_option maxHeartbeats 2000000 in
theorem behind_any (x y : En) (w : World) : Calls Try.prog 25 #[env x, env y] w fun e w' => e = .returned (.bool (behE x y)) ∧ Grew w w' := by
  obtain ⟨r, ln, lb, wh, sd, bs, qt, qn, pr, st⟩ := x
  obtain ⟨r', ln', lb', wh', sd', bs', qt', qn', pr', st'⟩ := y
  unfold env behE
  simp only
  have G0 : Hid (Grew w ((w.alloc (.cells #[.int .u64 (r : Int), .int .i64 ln, .int .i64 lb, .int .i64 wh, .int .i64 sd, .int .i64 bs, .int .i64 qt, .int .u64 (qn : Int), .int .u64 (pr : Int), .int .i64 st] 25)).alloc (.cells #[.int .u64 (r' : Int), .int .i64 ln', .int .i64 lb', .int .i64 wh', .int .i64 sd', .int .i64 bs', .int .i64 qt', .int .u64 (qn' : Int), .int .u64 (pr' : Int), .int .i64 st'] 25))) := Lib.hid (by unfold Grew; go_grown)
  by_cases h1 : r < r'
  · rw [decide_eq_true h1]
    have d1 : decide ((r : Int) < (r' : Int)) = true := decide_eq_true (by omega)
    have d3 : decide (r < r') = true := decide_eq_true h1
    go_enter Try.func25, Try.ntmps25
    go_wp2
    go_returns
    exact ⟨by simp, G0.out⟩

  · rw [decide_eq_false h1]
    have d1 : decide ((r : Int) < (r' : Int)) = false := decide_eq_false (by omega)
    have d3 : decide (r < r') = false := decide_eq_false h1
    by_cases h2 : r = r'
    · subst h2
      clear h1
      by_cases h3 : ln < ln'
      · rw [decide_eq_true h3]
        have d2 : decide (ln < ln') = true := decide_eq_true h3
        clear h3
        go_enter Try.func25, Try.ntmps25
        go_wp2
        go_returns
        exact ⟨by simp, G0.out⟩

      · rw [decide_eq_false h3]
        have d2 : decide (ln < ln') = false := decide_eq_false h3
        clear h3
        go_enter Try.func25, Try.ntmps25
        go_wp2
        go_returns
        exact ⟨by simp, G0.out⟩

    · have e1 : ((r' : Int) == (r : Int)) = false := by simp; omega
      have e2 : (r' == r) = false := by simp; omega
      rw [decide_eq_false h2]
      clear h2
      go_enter Try.func25, Try.ntmps25
      go_wp2
      go_returns
      exact ⟨by simp, G0.out⟩

set_option maxHeartbeats 2000000 in
theorem rbehind_any (x y : En) (w : World) : Calls Try.prog 19 #[env y, env x] w fun e w' => e = .returned (.bool (behE x y)) ∧ Grew w w' := by
  obtain ⟨r, ln, lb, wh, sd, bs, qt, qn, pr, st⟩ := x
  obtain ⟨r', ln', lb', wh', sd', bs', qt', qn', pr', st'⟩ := y
  unfold env behE
  simp only
  have G0 : Hid (Grew w ((w.alloc (.cells #[.int .u64 (r' : Int), .int .i64 ln', .int .i64 lb', .int .i64 wh', .int .i64 sd', .int .i64 bs', .int .i64 qt', .int .u64 (qn' : Int), .int .u64 (pr' : Int), .int .i64 st'] 25)).alloc (.cells #[.int .u64 (r : Int), .int .i64 ln, .int .i64 lb, .int .i64 wh, .int .i64 sd, .int .i64 bs, .int .i64 qt, .int .u64 (qn : Int), .int .u64 (pr : Int), .int .i64 st] 25))) := Lib.hid (by unfold Grew; go_grown)
  by_cases h1 : r < r'
  · rw [decide_eq_true h1]
    have d1 : decide ((r : Int) < (r' : Int)) = true := decide_eq_true (by omega)
    have d3 : decide (r < r') = true := decide_eq_true h1
    go_enter Try.func19, Try.ntmps19
    go_wp2
    go_returns
    exact ⟨by simp, G0.out⟩

  · rw [decide_eq_false h1]
    have d1 : decide ((r : Int) < (r' : Int)) = false := decide_eq_false (by omega)
    have d3 : decide (r < r') = false := decide_eq_false h1
    by_cases h2 : r = r'
    · subst h2
      clear h1
      by_cases h3 : ln < ln'
      · rw [decide_eq_true h3]
        have d2 : decide (ln < ln') = true := decide_eq_true h3
        clear h3
        go_enter Try.func19, Try.ntmps19
        go_wp2
        go_returns
        exact ⟨by simp, G0.out⟩

      · rw [decide_eq_false h3]
        have d2 : decide (ln < ln') = false := decide_eq_false h3
        clear h3
        go_enter Try.func19, Try.ntmps19
        go_wp2
        go_returns
        exact ⟨by simp, G0.out⟩

    · have e1 : ((r' : Int) == (r : Int)) = false := by simp; omega
      have e2 : (r' == r) = false := by simp; omega
      rw [decide_eq_false h2]
      clear h2
      go_enter Try.func19, Try.ntmps19
      go_wp2
      go_returns
      exact ⟨by simp, G0.out⟩

end Go.Proofs.Ytmnfajplfnfgpab.UC
