/-
  An order is pulled, by the document's reference.
  Conditions: those that each lemma names.
-/
import Derived.Test.YtmnfajplfnfgpaaOM
import Derived.Test.YtmnfajplfnfgpaaOS
import Derived.Test.YtmnfajplfnfgpaaMarks
import Derived.Lib.Hide
import Derived.Deep.AppendLies
namespace Go.Proofs.Ytmnfajplfnfgpaa.OPR
set_option maxRecDepth 100000
open Go Go.RowKit Go.Lib Go.Proofs.Ytmnfajplfnfgpaa Go.Proofs.Ytmnfajplfnfgpaa.Facts Go.Proofs.Ytmnfajplfnfgpaa.Ints Go.Proofs.Ytmnfajplfnfgpaa.PA Go.Proofs.Ytmnfajplfnfgpaa.UM Go.Proofs.Ytmnfajplfnfgpaa.UB Go.Proofs.Ytmnfajplfnfgpaa.OA Go.Proofs.Ytmnfajplfnfgpaa.OP Go.Proofs.Ytmnfajplfnfgpaa.BP Go.Proofs.Ytmnfajplfnfgpaa.OB Go.Proofs.Ytmnfajplfnfgpaa.OC Go.Proofs.Ytmnfajplfnfgpaa.OD Go.Proofs.Ytmnfajplfnfgpaa.OE Go.Proofs.Ytmnfajplfnfgpaa.OF Go.Proofs.Ytmnfajplfnfgpaa.OG Go.Proofs.Ytmnfajplfnfgpaa.OM Go.Proofs.Ytmnfajplfnfgpaa.OS Go.Proofs.Ytmnfajplfnfgpaa.Bytes


def AnsQ (r : List Or × Or × Int) (w : World) (e : Ending) (w' : World) : Prop := ∃ v', e = .returned (.tuple #[v', orv r.2.1, .int .i64 r.2.2]) ∧ Ors w' v' r.1 ∧ Grew w w'
set_option maxHeartbeats 8000000 in
theorem rpull_any (v : Value) (l : List Or) (i lab who : Int) (w : World) (h : Ors w v l) (hl : l.length ≤ 1000) (hs : ∀ x ∈ l, WfO x) :
    Calls Try.prog 10 #[v, .int .i64 i, .int .i64 lab, .int .i64 who] w (AnsQ (pullP l i lab who) w) := by
  have g0 : Grew w (w.alloc (.cells #[.bool false, .int .i64 0, .int .i64 0, .int .i64 0, .int .i64 0, .int .i64 0, .int .u64 0, .int .u64 0, .int .u64 0, .int .i64 0] 26)) := by unfold Grew; go_grown
  have HG0 := Lib.hid g0
  have HB0 : Hid (Bx (w.alloc (.cells #[.bool false, .int .i64 0, .int .i64 0, .int .i64 0, .int .i64 0, .int .i64 0, .int .u64 0, .int .u64 0, .int .u64 0, .int .i64 0] 26)) w.heap.size zor) := Lib.hid (blk_new w _)
  have HR := Lib.hid (rright_any v l _ (h.grew g0) hl hs)
  have HL := Lib.hid h
  have HLN := Lib.hid hl
  obtain ⟨A, c, rfl, _⟩ := h.slice
  clear h hs g0 hl
  unfold pullP AnsQ
  generalize rightO l = p at *
  cases p with
  | false =>
    simp only [if_true]
    go_enter Try.func10, Try.ntmps10
    go_wp2_with fail
    refine HR.out.mono ?_
    rintro e w1 ⟨rfl, hg⟩
    obtain ⟨W5, hst, hb, hgr⟩ := (HB0.out.grew hg).store zor
    have HST := Lib.hid hst
    have HG5 : Hid (Grew w W5) := Lib.hid (below_at (HG0.out.trans hg) hgr (Nat.le_refl _) (HG0.out.trans hg).size)
    have hbc := hb.cells
    obtain ⟨e0, e1, e2, e3, e4, e5, e6, e7, e8, e9⟩ := hbc
    unfold orv zor at HST
    clear hst hb hgr
    go_wp2_with (refine wpList_store (by rfl) 26 (.tmp 9) (.tmp 15) (by with_reducible rfl) _ _ (by rfl) (by rfl) _ HST.out ?_)
    refine bodyPost_ret (by simp [results, Try.results10, go_sem, e0, e1, e2, e3, e4, e5, e6, e7, e8, e9]; try rfl) rfl ?_
    exact ⟨_, by first | rfl | (simp [orv, zor]; done), rw_none _, HG5.out⟩
  | true =>
    simp only [Bool.true_eq_false, if_false]
    by_cases h0 : i < 0
    · have hq : hasG zor (fun x : Or => x.used) l i = false := by unfold hasG; simp; omega
      rw [if_pos hq]
      clear hq
      go_enter Try.func10, Try.ntmps10
      go_wp2_with fail
      refine HR.out.mono ?_
      rintro e w1 ⟨rfl, hg⟩
      obtain ⟨W5, hst, hb, hgr⟩ := (HB0.out.grew hg).store zor
      have HST := Lib.hid hst
      have HG5 : Hid (Grew w W5) := Lib.hid (below_at (HG0.out.trans hg) hgr (Nat.le_refl _) (HG0.out.trans hg).size)
      have hbc := hb.cells
      obtain ⟨e0, e1, e2, e3, e4, e5, e6, e7, e8, e9⟩ := hbc
      unfold orv zor at HST
      clear hst hb hgr
      go_wp2_with (refine wpList_store (by rfl) 26 (.tmp 9) (.tmp 32) (by with_reducible rfl) _ _ (by rfl) (by rfl) _ HST.out ?_)
      refine bodyPost_ret (by simp [results, Try.results10, go_sem, e0, e1, e2, e3, e4, e5, e6, e7, e8, e9]; try rfl) rfl ?_
      exact ⟨_, by first | rfl | (simp [orv, zor]; done), rw_none _, HG5.out⟩
    · by_cases h1 : i < (l.length : Int)
      · obtain ⟨k, rfl⟩ := Int.eq_ofNat_of_zero_le (show 0 ≤ i by omega)
        have hk : k < l.length := by omega
        have HX := Lib.hid (eo_get hk)
        have hq : hasG zor (fun x : Or => x.used) l k = (eo l k).used := hasG_in _ _ _ k hk
        rw [hq, Int.toNat_natCast]
        have HKL := Lib.hid hk
        clear hq hk
        obtain ⟨R, hR⟩ : ∃ R, l.set k zor = R := ⟨_, rfl⟩
        have HRR := Lib.hid hR
        rw [hR]
        clear hR
        generalize eo l k = x at *
        obtain ⟨us, lb, wh, sd, bs, qt, pr, lf, rs, sq⟩ := x
        simp only
        cases us with
        | false =>
          simp only [if_true]
          go_enter Try.func10, Try.ntmps10
          go_wp2_with fail
          refine HR.out.mono ?_
          rintro e w1 ⟨rfl, hg⟩
          obtain ⟨ad, c9, e, _, d0, d1, d2, d3, d4, d5, d6, d7, d8, d9⟩ := Ors_at (HL.out.grew (HG0.out.trans hg)) HX.out
          injection e with e1 e2 e3
          subst e1 e3
          clear e2
          simp only at d0 d1 d2 d3 d4 d5 d6 d7 d8 d9
          obtain ⟨W5, hst, hb, hgr⟩ := (HB0.out.grew hg).store zor
          have HST := Lib.hid hst
          have HG5 : Hid (Grew w W5) := Lib.hid (below_at (HG0.out.trans hg) hgr (Nat.le_refl _) (HG0.out.trans hg).size)
          have hbc := hb.cells
          obtain ⟨e0, e1, e2, e3, e4, e5, e6, e7, e8, e9⟩ := hbc
          unfold orv zor at HST
          clear hst hb hgr
          go_wp2_with (refine wpList_store (by rfl) 26 (.tmp 9) (.tmp 32) (by with_reducible rfl) _ _ (by rfl) (by rfl) _ HST.out ?_)
          refine bodyPost_ret (by simp [results, Try.results10, go_sem, e0, e1, e2, e3, e4, e5, e6, e7, e8, e9]; try rfl) rfl ?_
          exact ⟨_, by first | rfl | (simp [orv, zor]; done), rw_none _, HG5.out⟩
        | true =>
          simp only [Bool.true_eq_false, if_false]
          by_cases h2 : lb = lab
          · by_cases h3 : wh = who
            · rw [if_pos ⟨h2, h3⟩]
              have f1 : (lb != lab) = false := by simp [h2]
              have f2 : (wh != who) = false := by simp [h3]
              clear h2 h3
              unfold orv
              simp only
              go_enter Try.func10, Try.ntmps10
              go_wp2_with fail
              refine HR.out.mono ?_
              rintro e w1 ⟨rfl, hg⟩
              obtain ⟨ad, c9, e, _, d0, d1, d2, d3, d4, d5, d6, d7, d8, d9⟩ := Ors_at (HL.out.grew (HG0.out.trans hg)) HX.out
              injection e with e1 e2 e3
              subst e1 e3
              clear e2
              simp only at d0 d1 d2 d3 d4 d5 d6 d7 d8 d9
              have hcell : ∀ j u, (l.flatMap ocs)[j]? = some u → w1.cell? (ad.add j) = some u := by
                obtain ⟨A', c', e, _, _, _, h4⟩ := HL.out.grew (HG0.out.trans hg)
                injection e with e1 _ _
                exact h4 ad e1.symm
              obtain ⟨vw, w3, hr3, ho3, hb3⟩ := ord_app w1 w1.heap.size (.slice none 0 0) [] l ad c (World.ownsRow_nil _ _ 26 10) hcell (by have := HLN.out; simp only [List.length_nil]; omega) (Nat.le_refl _)
              rw [List.nil_append] at ho3
              obtain ⟨gb, cb, rfl, hgb, hgl⟩ := World.ownsRow.form ho3 (by have := HKL.out; omega)
              obtain ⟨w4, hr4, ho4, hb4⟩ := own_store ho3 rfl HKL.out zor
              have HAPP := Lib.hid hr3
              have HST := Lib.hid hr4
              unfold orv zor at HST
              have hsz1 : w.heap.size < w1.heap.size := by
                have h := hg.size
                rw [World.size_alloc] at h
                omega
              have HSZ := Lib.hid hsz1
              have G4 : Hid (Grew (w.alloc (.cells #[.bool false, .int .i64 0, .int .i64 0, .int .i64 0, .int .i64 0, .int .i64 0, .int .u64 0, .int .u64 0, .int .u64 0, .int .i64 0] 26)) w4) := Lib.hid (below_at (show Below (w.alloc (.cells #[.bool false, .int .i64 0, .int .i64 0, .int .i64 0, .int .i64 0, .int .i64 0, .int .u64 0, .int .u64 0, .int .u64 0, .int .i64 0] 26)).heap.size (w.alloc (.cells #[.bool false, .int .i64 0, .int .i64 0, .int .i64 0, .int .i64 0, .int .i64 0, .int .u64 0, .int .u64 0, .int .u64 0, .int .i64 0] 26)) w3 from hg.trans hb3) hb4 (by rw [World.size_alloc]; omega) (by rw [World.size_alloc]; have := hb3.size; omega))
              have HV : Hid (OwnO w4 w1.heap.size (.slice (some ⟨gb, 0, none⟩) l.length cb) R) := Lib.hid (by rw [← HRR.out]; exact ho4)
              have hkm : (k : Int) < (l.length : Int) := h1
              clear hg hr3 ho3 hb3 hr4 ho4 hb4 hcell hsz1
              go_wp2_with first | (refine wpList_store (by rfl) 26 (.tmp 56) (.tmp 55) (by with_reducible rfl) _ _ (by rfl) (by rfl) _ HST.out ?_) | (at_builtin; refine wpList_app_want (.tmp 50) (.tmp 51) 22 (by rfl) (by rfl) _ _ rfl rfl _ w3 (by exact HAPP.out) ?_)
              clear d0 d1 d2 d3 d4 d5 d6 d7 d8 d9
              obtain ⟨ad', c9', e, _, d0, d1, d2, d3, d4, d5, d6, d7, d8, d9⟩ := Ors_at (HL.out.grew (HG0.out.trans G4.out)) HX.out
              injection e with e1 e2 e3
              cases e1
              clear e2 e3
              simp only at d0 d1 d2 d3 d4 d5 d6 d7 d8 d9
              obtain ⟨PS, hPS⟩ : ∃ PS : World → Prop, PS = fun W' => Bx W' w.heap.size ⟨true, lb, wh, sd, bs, qt, pr, lf, rs, sq⟩ ∧ ∃ Wg, Grew w4 Wg ∧ Wg.grownBy W' (some w.heap.size) := ⟨_, rfl⟩
              have HPS := Lib.hid hPS
              clear hPS
              go_wp2
              refine Marks.wp_region_text (JM w4 [4] 6 PS) (fun _ _ => True) (by kernel_rfl) (by kernel_rfl) (JM.start _ _ _ _) ?_
              apply Marks.Lex.exact [] _ (by kernel_rfl)
              · intro m u W' hm hcl hJ _
                unfold Marks.one
                go_simp
                exact ⟨trivial, hJ.idle 0 (by decide) _, rfl⟩
              simp only [Act.put, List.setIfInBounds_toArray, List.set_cons_zero, List.set_cons_succ, Nat.zero_add]
              apply Marks.Lex.exact [] _ (by kernel_rfl)
              · intro m u W' hm hcl hJ _
                unfold Marks.one
                go_simp
                exact ⟨trivial, hJ.idle 1 (by decide) _, rfl⟩
              simp only [Act.put, List.setIfInBounds_toArray, List.set_cons_zero, List.set_cons_succ, Nat.reduceAdd]
              apply Marks.Lex.exact [] _ (by kernel_rfl)
              · intro m u W' hm hcl hJ _
                unfold Marks.one
                go_simp
                exact ⟨trivial, hJ.idle 2 (by decide) _, rfl⟩
              simp only [Act.put, List.setIfInBounds_toArray, List.set_cons_zero, List.set_cons_succ, Nat.reduceAdd]
              apply Marks.Lex.exact [] _ (by kernel_rfl)
              · intro m u W' hm hcl hJ _
                unfold Marks.one
                go_simp
                exact ⟨trivial, hJ.idle 3 (by decide) _, rfl⟩
              simp only [Act.put, List.setIfInBounds_toArray, List.set_cons_zero, List.set_cons_succ, Nat.reduceAdd]
              apply Marks.Lex.exact [] _ (by kernel_rfl)
              · intro m u W' hm hcl hJ _
                obtain ⟨hC, _⟩ := hJ.get 4 (by decide) hm
                have jd0 := cellB hC d0
                have jd1 := cellB hC d1
                have jd2 := cellB hC d2
                have jd3 := cellB hC d3
                have jd4 := cellB hC d4
                have jd5 := cellB hC d5
                have jd6 := cellB hC d6
                have jd7 := cellB hC d7
                have jd8 := cellB hC d8
                have jd9 := cellB hC d9
                unfold Marks.one
                go_simp
                exact ⟨trivial, hJ.idle 4 (by decide) _, rfl⟩
              simp only [Act.put, List.setIfInBounds_toArray, List.set_cons_zero, List.set_cons_succ, Nat.reduceAdd]
              apply Marks.Lex.exact [] _ (by kernel_rfl)
              · intro m u W' hm hcl hJ _
                unfold Marks.one
                go_simp
                exact ⟨trivial, hJ.idle 5 (by decide) _, rfl⟩
              simp only [Act.put, List.setIfInBounds_toArray, List.set_cons_zero, List.set_cons_succ, Nat.reduceAdd]
              apply Marks.Lex.exact [] undef (by kernel_rfl)
              · intro m u W' hm hcl hJ _
                have hC := hJ.a hm
                obtain ⟨W1, hst1, hb1, hgr1⟩ := ((HB0.out.grew G4.out).grew hC).store ⟨true, lb, wh, sd, bs, qt, pr, lf, rs, sq⟩
                unfold orv at hst1
                exact one_store rfl 26 (.tmp 9) (.tmp 61) rfl _ _ rfl rfl W1 hst1 ⟨trivial, hJ.last _ (by decide) (fun j hj => hcl j (by revert j; decide)) (by rw [HPS.out]; exact ⟨hb1, W', hC, hgr1⟩), rfl⟩
              simp only [Act.put, Nat.reduceAdd]
              apply Marks.Lex.exact [] _ (by kernel_rfl)
              · intro m u W' hm hcl hJ _
                unfold Marks.one
                go_simp
                exact ⟨trivial, hJ.idle 7 (by decide) _, rfl⟩
              simp only [Act.put, List.setIfInBounds_toArray, List.set_cons_zero, List.set_cons_succ, Nat.reduceAdd]
              refine Marks.Lex.done fun m u W1 hm hJ _ => ?_
              have hps := (hJ.b (hm 6 (by decide))).2
              rw [HPS.out] at hps
              obtain ⟨hb1, Wg, hgg, hgr1⟩ := hps
              obtain ⟨e0, e1, e2, e3, e4, e5, e6, e7, e8, e9⟩ := hb1.cells
              have HGW : Hid (Grew w4 Wg) := Lib.hid hgg
              have HGR := Lib.hid hgr1
              clear hJ hm d0 d1 d2 d3 d4 d5 d6 d7 d8 d9 hb1 hgg hgr1
              go_wp2
              refine bodyPost_ret (by simp [results, Try.results10, go_sem, e0, e1, e2, e3, e4, e5, e6, e7, e8, e9]; try rfl) rfl ?_
              have h9 := HG0.out.trans (G4.out.trans HGW.out)
              refine ⟨_, by first | rfl | (simp; done), ?_, below_at h9 HGR.out (Nat.le_refl _) h9.size⟩
              exact ors_kept HV.out HGW.out HGR.out HSZ.out
            · rw [if_neg (fun hh => h3 hh.2)]
              have f1 : (lb != lab) = false := by simp [h2]
              have f2 : (wh != who) = true := by simp [h3]
              clear h2 h3
              go_enter Try.func10, Try.ntmps10
              go_wp2_with fail
              refine HR.out.mono ?_
              rintro e w1 ⟨rfl, hg⟩
              obtain ⟨ad, c9, e, _, d0, d1, d2, d3, d4, d5, d6, d7, d8, d9⟩ := Ors_at (HL.out.grew (HG0.out.trans hg)) HX.out
              injection e with e1 e2 e3
              subst e1 e3
              clear e2
              simp only at d0 d1 d2 d3 d4 d5 d6 d7 d8 d9
              obtain ⟨W5, hst, hb, hgr⟩ := (HB0.out.grew hg).store zor
              have HST := Lib.hid hst
              have HG5 : Hid (Grew w W5) := Lib.hid (below_at (HG0.out.trans hg) hgr (Nat.le_refl _) (HG0.out.trans hg).size)
              have hbc := hb.cells
              obtain ⟨e0, e1, e2, e3, e4, e5, e6, e7, e8, e9⟩ := hbc
              unfold orv zor at HST
              clear hst hb hgr
              go_wp2_with (refine wpList_store (by rfl) 26 (.tmp 9) (.tmp 49) (by with_reducible rfl) _ _ (by rfl) (by rfl) _ HST.out ?_)
              refine bodyPost_ret (by simp [results, Try.results10, go_sem, e0, e1, e2, e3, e4, e5, e6, e7, e8, e9]; try rfl) rfl ?_
              exact ⟨_, by first | rfl | (simp [orv, zor]; done), rw_none _, HG5.out⟩
          · rw [if_neg (fun hh => h2 hh.1)]
            have f1 : (lb != lab) = true := by simp [h2]
            clear h2
            go_enter Try.func10, Try.ntmps10
            go_wp2_with fail
            refine HR.out.mono ?_
            rintro e w1 ⟨rfl, hg⟩
            obtain ⟨ad, c9, e, _, d0, d1, d2, d3, d4, d5, d6, d7, d8, d9⟩ := Ors_at (HL.out.grew (HG0.out.trans hg)) HX.out
            injection e with e1 e2 e3
            subst e1 e3
            clear e2
            simp only at d0 d1 d2 d3 d4 d5 d6 d7 d8 d9
            obtain ⟨W5, hst, hb, hgr⟩ := (HB0.out.grew hg).store zor
            have HST := Lib.hid hst
            have HG5 : Hid (Grew w W5) := Lib.hid (below_at (HG0.out.trans hg) hgr (Nat.le_refl _) (HG0.out.trans hg).size)
            have hbc := hb.cells
            obtain ⟨e0, e1, e2, e3, e4, e5, e6, e7, e8, e9⟩ := hbc
            unfold orv zor at HST
            clear hst hb hgr
            go_wp2_with (refine wpList_store (by rfl) 26 (.tmp 9) (.tmp 49) (by with_reducible rfl) _ _ (by rfl) (by rfl) _ HST.out ?_)
            refine bodyPost_ret (by simp [results, Try.results10, go_sem, e0, e1, e2, e3, e4, e5, e6, e7, e8, e9]; try rfl) rfl ?_
            exact ⟨_, by first | rfl | (simp [orv, zor]; done), rw_none _, HG5.out⟩
      · have hq : hasG zor (fun x : Or => x.used) l i = false := by unfold hasG; simp; omega
        rw [if_pos hq]
        clear hq
        go_enter Try.func10, Try.ntmps10
        go_wp2_with fail
        refine HR.out.mono ?_
        rintro e w1 ⟨rfl, hg⟩
        obtain ⟨W5, hst, hb, hgr⟩ := (HB0.out.grew hg).store zor
        have HST := Lib.hid hst
        have HG5 : Hid (Grew w W5) := Lib.hid (below_at (HG0.out.trans hg) hgr (Nat.le_refl _) (HG0.out.trans hg).size)
        have hbc := hb.cells
        obtain ⟨e0, e1, e2, e3, e4, e5, e6, e7, e8, e9⟩ := hbc
        unfold orv zor at HST
        clear hst hb hgr
        go_wp2_with (refine wpList_store (by rfl) 26 (.tmp 9) (.tmp 32) (by with_reducible rfl) _ _ (by rfl) (by rfl) _ HST.out ?_)
        refine bodyPost_ret (by simp [results, Try.results10, go_sem, e0, e1, e2, e3, e4, e5, e6, e7, e8, e9]; try rfl) rfl ?_
        exact ⟨_, by first | rfl | (simp [orv, zor]; done), rw_none _, HG5.out⟩
end Go.Proofs.Ytmnfajplfnfgpaa.OPR
