/-
  An order is pulled.
  Conditions: those that each lemma names.
-/
import Derived.Test.YtmnfajplfnfgpaaOG
import Derived.Test.YtmnfajplfnfgpaaOP
import Derived.Test.YtmnfajplfnfgpaaMarks
import Derived.Lib.Hide
namespace Go.Proofs.Ytmnfajplfnfgpaa.OM
set_option maxRecDepth 100000
open Go Go.RowKit Go.Lib Go.Proofs.Ytmnfajplfnfgpaa Go.Proofs.Ytmnfajplfnfgpaa.Facts Go.Proofs.Ytmnfajplfnfgpaa.Ints Go.Proofs.Ytmnfajplfnfgpaa.PA Go.Proofs.Ytmnfajplfnfgpaa.UM Go.Proofs.Ytmnfajplfnfgpaa.UB Go.Proofs.Ytmnfajplfnfgpaa.OA Go.Proofs.Ytmnfajplfnfgpaa.OP Go.Proofs.Ytmnfajplfnfgpaa.BP Go.Proofs.Ytmnfajplfnfgpaa.OB Go.Proofs.Ytmnfajplfnfgpaa.OC Go.Proofs.Ytmnfajplfnfgpaa.OD Go.Proofs.Ytmnfajplfnfgpaa.OE Go.Proofs.Ytmnfajplfnfgpaa.OF Go.Proofs.Ytmnfajplfnfgpaa.OG Go.Proofs.Ytmnfajplfnfgpaa.Bytes


/-- What Pull answers. -/
def pullP (l : List Or) (i lab who : Int) : List Or × Or × Int :=
  if rightO l = false then ([], zor, 1) else if hasG zor (fun x : Or => x.used) l i = false then ([], zor, 3) else if (eo l i.toNat).label = lab ∧ (eo l i.toNat).who = who then (l.set i.toNat zor, eo l i.toNat, 0) else ([], zor, 5)
def AnsP (r : List Or × Or × Int) (w : World) (e : Ending) (w' : World) : Prop := ∃ v', e = .returned (.tuple #[v', orv r.2.1, .int .i64 r.2.2]) ∧ (∃ base, w.heap.size ≤ base ∧ OwnO w' base v' r.1) ∧ Grew w w'
set_option maxHeartbeats 4000000 in
theorem pull_any (v : Value) (l : List Or) (i lab who : Int) (w : World) (h : Ors w v l) (hl : l.length ≤ 1000) (hs : ∀ x ∈ l, WfO x) :
    Calls Try.prog 9 #[v, .int .i64 i, .int .i64 lab, .int .i64 who] w (AnsP (pullP l i lab who) w) := by
  have g0 : Grew w (w.alloc (.cells #[.bool false, .int .i64 0, .int .i64 0, .int .i64 0, .int .i64 0, .int .i64 0, .int .u64 0, .int .u64 0, .int .u64 0, .int .i64 0] 26)) := by unfold Grew; go_grown
  have HG0 := Lib.hid g0
  have HB0 : Hid (Bx (w.alloc (.cells #[.bool false, .int .i64 0, .int .i64 0, .int .i64 0, .int .i64 0, .int .i64 0, .int .u64 0, .int .u64 0, .int .u64 0, .int .i64 0] 26)) w.heap.size zor) := Lib.hid (blk_new w _)
  have HR := Lib.hid (right_any v l _ (h.grew g0) hl hs)
  have HROW := Lib.hid (fun W (hg : Grew w W) => ord_row W v l (h.grew hg) (by omega))
  have HHAS := Lib.hid (fun W b (hr : RowO W b l) => ord_has W b l i hr)
  have HL := Lib.hid h
  have HPUT := Lib.hid (fun W b k (hr : RowO W b l) (hk : k < l.length) => ord_putB W b l k zor hr hk (by omega))
  have HK : Hid (hasG zor (fun x : Or => x.used) l i = true → ∃ k : Nat, i = k ∧ k < l.length) := Lib.hid fun h => by
    unfold hasG at h
    simp only [Bool.and_eq_true, decide_eq_true_iff] at h
    exact ⟨i.toNat, by omega, by omega⟩
  obtain ⟨A, c, rfl, _⟩ := h.slice
  clear h hs g0
  unfold pullP AnsP
  generalize rightO l = p at *
  generalize hasG zor (fun x : Or => x.used) l i = q at *
  cases p with
  | false =>
    simp only [if_true]
    clear HROW HHAS HPUT HK
    go_enter Try.func9, Try.ntmps9
    go_wp2_with fail
    refine HR.out.mono ?_
    rintro e w1 ⟨rfl, hg⟩
    obtain ⟨W5, hst, hb, hgr⟩ := (HB0.out.grew hg).store zor
    have HST := Lib.hid hst
    have HG5 : Hid (Grew w W5) := Lib.hid (below_at (HG0.out.trans hg) hgr (Nat.le_refl _) (HG0.out.trans hg).size)
    have hbc := hb.cells
    obtain ⟨e0, e1, e2, e3, e4, e5, e6, e7, e8, e9⟩ := hbc
    unfold orv zor at HST
    clear hst hb hgr
    go_wp2_with (refine wpList_store (by rfl) 26 (.tmp 9) (.tmp 16) (by with_reducible rfl) _ _ (by rfl) (by rfl) _ HST.out ?_)
    refine bodyPost_ret (by simp [results, Try.results9, go_sem, e0, e1, e2, e3, e4, e5, e6, e7, e8, e9]; try rfl) rfl ?_
    exact ⟨_, by first | rfl | (simp [orv, zor]; done), ⟨w.heap.size, Nat.le_refl _, World.ownsRow_nil _ _ 26 10⟩, HG5.out⟩

  | true =>
    simp only [Bool.true_eq_false, if_false]
    cases q with
    | false =>
      simp only [if_true]
      clear HPUT HK
      go_enter Try.func9, Try.ntmps9
      go_wp2_with fail
      refine HR.out.mono ?_
      rintro e w1 ⟨rfl, hg⟩
      have G1 := Lib.hid hg
      clear hg
      go_wp2_with fail
      refine (HROW.out _ (HG0.out.trans G1.out)).mono ?_
      rintro e w2 ⟨b, rfl, hr, hg⟩
      have G2 := Lib.hid (G1.out.trans hg)
      have HH := Lib.hid (HHAS.out _ _ hr)
      clear hr hg
      go_wp2_with fail
      refine HH.out.mono ?_
      rintro e w3 ⟨rfl, hg⟩
      have G3 := Lib.hid (G2.out.trans hg)
      clear hg
      obtain ⟨W5, hst, hb, hgr⟩ := (HB0.out.grew G3.out).store zor
      have HST := Lib.hid hst
      have HG5 : Hid (Grew w W5) := Lib.hid (below_at (HG0.out.trans G3.out) hgr (Nat.le_refl _) (HG0.out.trans G3.out).size)
      have hbc := hb.cells
      obtain ⟨e0, e1, e2, e3, e4, e5, e6, e7, e8, e9⟩ := hbc
      unfold orv zor at HST
      clear hst hb hgr
      go_wp2_with (refine wpList_store (by rfl) 26 (.tmp 9) (.tmp 22) (by with_reducible rfl) _ _ (by rfl) (by rfl) _ HST.out ?_)
      refine bodyPost_ret (by simp [results, Try.results9, go_sem, e0, e1, e2, e3, e4, e5, e6, e7, e8, e9]; try rfl) rfl ?_
      exact ⟨_, by first | rfl | (simp [orv, zor]; done), ⟨w.heap.size, Nat.le_refl _, World.ownsRow_nil _ _ 26 10⟩, HG5.out⟩

    | true =>
      simp only [Bool.true_eq_false, if_false]
      obtain ⟨k, rfl, hk⟩ := HK.out rfl
      rw [Int.toNat_natCast]
      have hkl : (k : Int) < (l.length : Int) := by omega
      have hk0 : ¬ (k : Int) < 0 := by omega
      have HX := Lib.hid (eo_get hk)
      have HKL := Lib.hid hk
      clear hk HK
      obtain ⟨R, hR⟩ : ∃ R, l.set k zor = R := ⟨_, rfl⟩
      have HRR := Lib.hid hR
      rw [hR]
      clear hR
      generalize eo l k = x at *
      obtain ⟨us, lb, wh, sd, bs, qt, pr, lf, rs, sq⟩ := x
      simp only
      by_cases h1 : lb = lab
      · by_cases h2 : wh = who
        · rw [if_pos ⟨h1, h2⟩]
          have f1 : (lb != lab) = false := by simp [h1]
          have f2 : (wh != who) = false := by simp [h2]
          clear h1 h2
          unfold orv
          simp only
          go_enter Try.func9, Try.ntmps9
          go_wp2_with fail
          refine HR.out.mono ?_
          rintro e w1 ⟨rfl, hg⟩
          have G1 := Lib.hid hg
          clear hg
          go_wp2_with fail
          refine (HROW.out _ (HG0.out.trans G1.out)).mono ?_
          rintro e w2 ⟨b, rfl, hr, hg⟩
          have G2 := Lib.hid (G1.out.trans hg)
          have HH := Lib.hid (HHAS.out _ _ hr)
          clear hr hg
          go_wp2_with fail
          refine HH.out.mono ?_
          rintro e w3 ⟨rfl, hg⟩
          have G3 := Lib.hid (G2.out.trans hg)
          clear hg

          obtain ⟨ad, c9, e, _, d0, d1, d2, d3, d4, d5, d6, d7, d8, d9⟩ := Ors_at (HL.out.grew (HG0.out.trans G3.out)) HX.out
          injection e with e1 e2 e3
          subst e1 e3
          clear e2
          simp only at d0 d1 d2 d3 d4 d5 d6 d7 d8 d9
          go_wp2_with fail
          refine (HROW.out _ (HG0.out.trans G3.out)).mono ?_
          rintro e w4 ⟨b2, rfl, hr, hg⟩
          have G4 := Lib.hid (G3.out.trans hg)
          have HP := Lib.hid (HPUT.out _ _ k hr HKL.out)
          unfold orv zor at HP
          clear hr hg d0 d1 d2 d3 d4 d5 d6 d7 d8 d9
          go_wp2_with fail
          refine HP.out.mono ?_
          rintro e w5 ⟨v', rfl, ⟨bs0, hbs, hown⟩, hg⟩
          have hors := Ors.of_own hown
          have G5 := Lib.hid (G4.out.trans hg)
          have HV : Hid (OwnO w5 bs0 v' R) := Lib.hid (by rw [← HRR.out]; exact hown)
          have hsz0 : w.heap.size < bs0 := by
            have h := G4.out.size
            rw [World.size_alloc] at h
            omega
          have HSZ := Lib.hid hsz0
          clear hsz0 hbs
          obtain ⟨A5, c5, rfl, _⟩ := hors.slice
          have hln : (List.set l k ⟨false, 0, 0, 0, 0, 0, 0, 0, 0, 0⟩).length = R.length := by rw [← HRR.out]; rfl
          clear hors hown hg
          obtain ⟨ad', c9', e, _, d0, d1, d2, d3, d4, d5, d6, d7, d8, d9⟩ := Ors_at (HL.out.grew (HG0.out.trans G5.out)) HX.out
          injection e with e1 e2 e3
          cases e1
          clear e2 e3
          simp only at d0 d1 d2 d3 d4 d5 d6 d7 d8 d9
          obtain ⟨PS, hPS⟩ : ∃ PS : World → Prop, PS = fun W' => Bx W' w.heap.size ⟨us, lb, wh, sd, bs, qt, pr, lf, rs, sq⟩ ∧ ∃ Wg, Grew w5 Wg ∧ Wg.grownBy W' (some w.heap.size) := ⟨_, rfl⟩
          have HPS := Lib.hid hPS
          clear hPS
          go_wp2
          refine Marks.wp_region_text (JM w5 [4] 7 PS) (fun _ _ => True) (by kernel_rfl) (by kernel_rfl) (JM.start _ _ _ _) ?_
          apply Marks.Lex.exact [] _ (by kernel_rfl)
          · intro m u W' hm hcl hJ _
            unfold Marks.one
            go_simp
            exact ⟨trivial, hJ.idle 0 (by decide) _, rfl⟩
          simp only [Act.put, List.setIfInBounds_toArray, List.set_cons_zero, List.set_cons_succ, Nat.zero_add]
          apply Marks.Lex.exact [] _ (by kernel_rfl)
          · intro m u W' hm hcl hJ _
            unfold Marks.one
            go_simp
            exact ⟨trivial, hJ.idle 1 (by decide) _, rfl⟩
          simp only [Act.put, List.setIfInBounds_toArray, List.set_cons_zero, List.set_cons_succ, Nat.reduceAdd]
          apply Marks.Lex.exact [] _ (by kernel_rfl)
          · intro m u W' hm hcl hJ _
            unfold Marks.one
            go_simp
            exact ⟨trivial, hJ.idle 2 (by decide) _, rfl⟩
          simp only [Act.put, List.setIfInBounds_toArray, List.set_cons_zero, List.set_cons_succ, Nat.reduceAdd]
          apply Marks.Lex.exact [] _ (by kernel_rfl)
          · intro m u W' hm hcl hJ _
            unfold Marks.one
            go_simp
            exact ⟨trivial, hJ.idle 3 (by decide) _, rfl⟩
          simp only [Act.put, List.setIfInBounds_toArray, List.set_cons_zero, List.set_cons_succ, Nat.reduceAdd]
          apply Marks.Lex.exact [] _ (by kernel_rfl)
          · intro m u W' hm hcl hJ _
            obtain ⟨hC, _⟩ := hJ.get 4 (by decide) hm
            have jd0 := cellB hC d0
            have jd1 := cellB hC d1
            have jd2 := cellB hC d2
            have jd3 := cellB hC d3
            have jd4 := cellB hC d4
            have jd5 := cellB hC d5
            have jd6 := cellB hC d6
            have jd7 := cellB hC d7
            have jd8 := cellB hC d8
            have jd9 := cellB hC d9
            unfold Marks.one
            go_simp
            exact ⟨trivial, hJ.idle 4 (by decide) _, rfl⟩
          simp only [Act.put, List.setIfInBounds_toArray, List.set_cons_zero, List.set_cons_succ, Nat.reduceAdd]
          apply Marks.Lex.exact [] _ (by kernel_rfl)
          · intro m u W' hm hcl hJ _
            unfold Marks.one
            go_simp
            exact ⟨trivial, hJ.idle 5 (by decide) _, rfl⟩
          simp only [Act.put, List.setIfInBounds_toArray, List.set_cons_zero, List.set_cons_succ, Nat.reduceAdd]
          apply Marks.Lex.exact [] _ (by kernel_rfl)
          · intro m u W' hm hcl hJ _
            unfold Marks.one
            go_simp
            exact ⟨trivial, hJ.idle 6 (by decide) _, rfl⟩
          simp only [Act.put, List.setIfInBounds_toArray, List.set_cons_zero, List.set_cons_succ, Nat.reduceAdd]
          apply Marks.Lex.exact [] undef (by kernel_rfl)
          · intro m u W' hm hcl hJ _
            have hC := hJ.a hm
            obtain ⟨W1, hst1, hb1, hgr1⟩ := ((HB0.out.grew G5.out).grew hC).store ⟨us, lb, wh, sd, bs, qt, pr, lf, rs, sq⟩
            unfold orv at hst1
            exact one_store rfl 26 (.tmp 9) (.tmp 52) rfl _ _ rfl rfl W1 hst1 ⟨trivial, hJ.last _ (by decide) (fun j hj => hcl j (by revert j; decide)) (by rw [HPS.out]; exact ⟨hb1, W', hC, hgr1⟩), rfl⟩
          simp only [Act.put, Nat.reduceAdd]
          apply Marks.Lex.exact [] _ (by kernel_rfl)
          · intro m u W' hm hcl hJ _
            unfold Marks.one
            go_simp
            exact ⟨trivial, hJ.idle 8 (by decide) _, rfl⟩
          simp only [Act.put, List.setIfInBounds_toArray, List.set_cons_zero, List.set_cons_succ, Nat.reduceAdd]

          refine Marks.Lex.done fun m u W1 hm hJ _ => ?_
          have hps := (hJ.b (hm 7 (by decide))).2
          rw [HPS.out] at hps
          obtain ⟨hb1, Wg, hgg, hgr1⟩ := hps
          obtain ⟨e0, e1, e2, e3, e4, e5, e6, e7, e8, e9⟩ := hb1.cells
          have HB1 := Lib.hid hb1
          have HGW : Hid (Grew w5 Wg) := Lib.hid hgg
          have HGR := Lib.hid hgr1
          clear hJ hm d0 d1 d2 d3 d4 d5 d6 d7 d8 d9 hb1 hgg hgr1
          go_wp2
          refine bodyPost_ret (by simp [results, Try.results9, go_sem, e0, e1, e2, e3, e4, e5, e6, e7, e8, e9]; try rfl) rfl ?_
          have h9 := HG0.out.trans (G5.out.trans HGW.out)
          refine ⟨_, by first | rfl | (simp; done), ?_, below_at h9 HGR.out (Nat.le_refl _) h9.size⟩
          have hk := own_kept (own_grew HV.out HGW.out) HGR.out HSZ.out
          rw [List.length_set] at hln hk
          rw [hln] at hk
          exact ⟨bs0, Nat.le_of_lt HSZ.out, hk⟩
        · rw [if_neg (fun hh => h2 hh.2)]
          have f1 : (lb != lab) = false := by simp [h1]
          have f2 : (wh != who) = true := by simp [h2]
          clear h1 h2
          go_enter Try.func9, Try.ntmps9
          go_wp2_with fail
          refine HR.out.mono ?_
          rintro e w1 ⟨rfl, hg⟩
          have G1 := Lib.hid hg
          clear hg
          go_wp2_with fail
          refine (HROW.out _ (HG0.out.trans G1.out)).mono ?_
          rintro e w2 ⟨b, rfl, hr, hg⟩
          have G2 := Lib.hid (G1.out.trans hg)
          have HH := Lib.hid (HHAS.out _ _ hr)
          clear hr hg
          go_wp2_with fail
          refine HH.out.mono ?_
          rintro e w3 ⟨rfl, hg⟩
          have G3 := Lib.hid (G2.out.trans hg)
          clear hg

          obtain ⟨ad, c9, e, _, d0, d1, d2, d3, d4, d5, d6, d7, d8, d9⟩ := Ors_at (HL.out.grew (HG0.out.trans G3.out)) HX.out
          injection e with e1 e2 e3
          subst e1 e3
          clear e2
          simp only at d0 d1 d2 d3 d4 d5 d6 d7 d8 d9
          obtain ⟨W5, hst, hb, hgr⟩ := (HB0.out.grew G3.out).store zor
          have HST := Lib.hid hst
          have HG5 : Hid (Grew w W5) := Lib.hid (below_at (HG0.out.trans G3.out) hgr (Nat.le_refl _) (HG0.out.trans G3.out).size)
          have hbc := hb.cells
          obtain ⟨e0, e1, e2, e3, e4, e5, e6, e7, e8, e9⟩ := hbc
          unfold orv zor at HST
          clear hst hb hgr
          go_wp2_with (refine wpList_store (by rfl) 26 (.tmp 9) (.tmp 39) (by with_reducible rfl) _ _ (by rfl) (by rfl) _ HST.out ?_)
          refine bodyPost_ret (by simp [results, Try.results9, go_sem, e0, e1, e2, e3, e4, e5, e6, e7, e8, e9]; try rfl) rfl ?_
          exact ⟨_, by first | rfl | (simp [orv, zor]; done), ⟨w.heap.size, Nat.le_refl _, World.ownsRow_nil _ _ 26 10⟩, HG5.out⟩

      · rw [if_neg (fun hh => h1 hh.1)]
        have f1 : (lb != lab) = true := by simp [h1]
        clear h1
        go_enter Try.func9, Try.ntmps9
        go_wp2_with fail
        refine HR.out.mono ?_
        rintro e w1 ⟨rfl, hg⟩
        have G1 := Lib.hid hg
        clear hg
        go_wp2_with fail
        refine (HROW.out _ (HG0.out.trans G1.out)).mono ?_
        rintro e w2 ⟨b, rfl, hr, hg⟩
        have G2 := Lib.hid (G1.out.trans hg)
        have HH := Lib.hid (HHAS.out _ _ hr)
        clear hr hg
        go_wp2_with fail
        refine HH.out.mono ?_
        rintro e w3 ⟨rfl, hg⟩
        have G3 := Lib.hid (G2.out.trans hg)
        clear hg

        obtain ⟨ad, c9, e, _, d0, d1, d2, d3, d4, d5, d6, d7, d8, d9⟩ := Ors_at (HL.out.grew (HG0.out.trans G3.out)) HX.out
        injection e with e1 e2 e3
        subst e1 e3
        clear e2
        simp only at d0 d1 d2 d3 d4 d5 d6 d7 d8 d9
        obtain ⟨W5, hst, hb, hgr⟩ := (HB0.out.grew G3.out).store zor
        have HST := Lib.hid hst
        have HG5 : Hid (Grew w W5) := Lib.hid (below_at (HG0.out.trans G3.out) hgr (Nat.le_refl _) (HG0.out.trans G3.out).size)
        have hbc := hb.cells
        obtain ⟨e0, e1, e2, e3, e4, e5, e6, e7, e8, e9⟩ := hbc
        unfold orv zor at HST
        clear hst hb hgr
        go_wp2_with (refine wpList_store (by rfl) 26 (.tmp 9) (.tmp 39) (by with_reducible rfl) _ _ (by rfl) (by rfl) _ HST.out ?_)
        refine bodyPost_ret (by simp [results, Try.results9, go_sem, e0, e1, e2, e3, e4, e5, e6, e7, e8, e9]; try rfl) rfl ?_
        exact ⟨_, by first | rfl | (simp [orv, zor]; done), ⟨w.heap.size, Nat.le_refl _, World.ownsRow_nil _ _ 26 10⟩, HG5.out⟩

end Go.Proofs.Ytmnfajplfnfgpaa.OM
