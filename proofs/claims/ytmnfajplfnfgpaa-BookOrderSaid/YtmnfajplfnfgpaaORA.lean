/-
  Does an order meet one, and is it the better one, by the document's reference.
  Conditions: those that each lemma names.
-/
import Derived.Test.YtmnfajplfnfgpaaOD
import Derived.Lib.Hide
namespace Go.Proofs.Ytmnfajplfnfgpaa.ORA
set_option maxRecDepth 100000
open Go Go.RowKit Go.Lib Go.Proofs.Ytmnfajplfnfgpaa Go.Proofs.Ytmnfajplfnfgpaa.Facts Go.Proofs.Ytmnfajplfnfgpaa.Ints Go.Proofs.Ytmnfajplfnfgpaa.PA Go.Proofs.Ytmnfajplfnfgpaa.UM Go.Proofs.Ytmnfajplfnfgpaa.UB Go.Proofs.Ytmnfajplfnfgpaa.OA Go.Proofs.Ytmnfajplfnfgpaa.BP Go.Proofs.Ytmnfajplfnfgpaa.OD Go.Proofs.Ytmnfajplfnfgpaa.Bytes


/-- Does an order meet one of the list, by the document? -/
def rmeets (o x : Or) : Bool := x.used && decide (x.base = o.base) && decide (x.quote = o.quote) && ((decide (o.side = 1) && decide (x.side = 2) && decide (x.price ≤ o.price)) || (decide (o.side = 2) && decide (x.side = 1) && decide (o.price ≤ x.price)))
theorem rmeets_is {o x : Or} (ho : o.side = 1 ∨ o.side = 2) (hx : x.side = 1 ∨ x.side = 2) : rmeets o x = (x.used && meetsP o x) := by
  unfold rmeets meetsP
  rw [show decide (x.base = o.base) = decide (o.base = x.base) from decide_eq_decide.2 eq_comm, show decide (x.quote = o.quote) = decide (o.quote = x.quote) from decide_eq_decide.2 eq_comm]
  generalize decide (o.base = x.base) = p1
  generalize decide (o.quote = x.quote) = p2
  generalize x.used = p3
  rcases ho with e | e <;> rcases hx with e2 | e2 <;> simp only [e, e2] <;> cases p1 <;> cases p2 <;> cases p3 <;> simp
theorem better_any (o x y : Or) (w : World) : Calls Try.prog 62 #[orv o, orv x, orv y] w fun e w' => e = .returned (.bool (betB o x y)) ∧ Grew w w' := by
  have HZ : Hid (betB o x y = if x.price = y.price then decide (x.seq < y.seq) else (decide (x.price < y.price) == decide (o.side = 1))) := Lib.hid rfl
  generalize betB o x y = b at *
  obtain ⟨us, lb, wh, sd, bs, qt, pr, lf, rs, sq⟩ := o
  obtain ⟨us2, lb2, wh2, sd2, bs2, qt2, pr2, lf2, rs2, sq2⟩ := x
  obtain ⟨us3, lb3, wh3, sd3, bs3, qt3, pr3, lf3, rs3, sq3⟩ := y
  unfold orv
  simp only at HZ ⊢
  by_cases hp : pr2 = pr3
  · subst hp
    have HB : Hid (b = decide (sq2 < sq3)) := Lib.hid (by rw [HZ.out, if_pos rfl])
    go_enter Try.func62, Try.ntmps62
    go_wp2
    go_returns
    refine ⟨?_, by unfold Grew; go_grown⟩
    rw [HB.out]
    first | rfl | simp
  · have HB : Hid (b = (decide (pr2 < pr3) == decide (sd = 1))) := Lib.hid (by rw [HZ.out, if_neg hp])
    have f1 : ((pr2 : Int) == (pr3 : Int)) = false := by simp; omega
    clear hp
    go_enter Try.func62, Try.ntmps62
    go_wp2
    go_returns
    refine ⟨?_, by unfold Grew; go_grown⟩
    rw [HB.out]
    first | rfl | simp
set_option maxHeartbeats 4000000 in
theorem rmeets_any (o x : Or) (w : World) : Calls Try.prog 28 #[orv o, orv x] w fun e w' => e = .returned (.bool (rmeets o x)) ∧ Grew w w' := by
  have HZ : Hid (rmeets o x = (x.used && decide (x.base = o.base) && decide (x.quote = o.quote) && ((decide (o.side = 1) && decide (x.side = 2) && decide (x.price ≤ o.price)) || (decide (o.side = 2) && decide (x.side = 1) && decide (o.price ≤ x.price))))) := Lib.hid rfl
  generalize rmeets o x = b at *
  obtain ⟨us, lb, wh, sd, bs, qt, pr, lf, rs, sq⟩ := o
  obtain ⟨us2, lb2, wh2, sd2, bs2, qt2, pr2, lf2, rs2, sq2⟩ := x
  unfold orv
  simp only at HZ ⊢
  cases us2 with
  | false =>
    go_enter Try.func28, Try.ntmps28
    go_wp2
    go_returns
    exact ⟨by rw [HZ.out]; rfl, by unfold Grew; go_grown⟩
  | true =>
    by_cases hb : bs2 = bs
    · subst hb
      by_cases hq : qt2 = qt
      · subst hq
        have HB : Hid (b = ((decide (sd = 1) && decide (sd2 = 2) && decide (pr2 ≤ pr)) || (decide (sd = 2) && decide (sd2 = 1) && decide (pr ≤ pr2)))) := Lib.hid (by rw [HZ.out]; simp)
        clear HZ
        by_cases s1 : sd = 1
        · subst s1
          by_cases s2 : sd2 = 2
          · subst s2
            go_enter Try.func28, Try.ntmps28
            go_wp2
            all_goals go_returns
            all_goals exact ⟨by rw [HB.out]; first | (simp [*]; done) | (simp [*]; omega), by unfold Grew; go_grown⟩
          · have f2 : (sd2 == 2) = false := by simp [s2]
            go_enter Try.func28, Try.ntmps28
            go_wp2
            go_returns
            exact ⟨by rw [HB.out]; simp [s2], by unfold Grew; go_grown⟩
        · have f1 : (sd == 1) = false := by simp [s1]
          by_cases s3 : sd = 2
          · subst s3
            by_cases s4 : sd2 = 1
            · subst s4
              go_enter Try.func28, Try.ntmps28
              go_wp2
              all_goals go_returns
              all_goals exact ⟨by rw [HB.out]; first | (simp [*]; done) | (simp [*]; omega), by unfold Grew; go_grown⟩
            · have f4 : (sd2 == 1) = false := by simp [s4]
              go_enter Try.func28, Try.ntmps28
              go_wp2
              go_returns
              exact ⟨by rw [HB.out]; simp [s4], by unfold Grew; go_grown⟩
          · have f3 : (sd == 2) = false := by simp [s3]
            go_enter Try.func28, Try.ntmps28
            go_wp2
            go_returns
            exact ⟨by rw [HB.out]; simp [s1, s3], by unfold Grew; go_grown⟩
      · have f1 : (qt2 != qt) = true := by simp [hq]
        go_enter Try.func28, Try.ntmps28
        go_wp2
        go_returns
        exact ⟨by rw [HZ.out]; simp [hq], by unfold Grew; go_grown⟩
    · have f1 : (bs2 != bs) = true := by simp [hb]
      go_enter Try.func28, Try.ntmps28
      go_wp2
      go_returns
      exact ⟨by rw [HZ.out]; simp [hb], by unfold Grew; go_grown⟩
end Go.Proofs.Ytmnfajplfnfgpaa.ORA
