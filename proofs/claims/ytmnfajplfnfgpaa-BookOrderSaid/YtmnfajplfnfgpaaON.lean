/-
  An order is posted.
  Conditions: those that each lemma names.
-/
import Derived.Test.YtmnfajplfnfgpaaOL
import Derived.Test.YtmnfajplfnfgpaaBQ
import Derived.Test.YtmnfajplfnfgpaaMarks
import Derived.Lib.Hide
namespace Go.Proofs.Ytmnfajplfnfgpaa.ON
set_option maxRecDepth 100000
open Go Go.RowKit Go.Lib Go.Proofs.Ytmnfajplfnfgpaa Go.Proofs.Ytmnfajplfnfgpaa.Facts Go.Proofs.Ytmnfajplfnfgpaa.Ints Go.Proofs.Ytmnfajplfnfgpaa.PA Go.Proofs.Ytmnfajplfnfgpaa.UM Go.Proofs.Ytmnfajplfnfgpaa.UB Go.Proofs.Ytmnfajplfnfgpaa.OA Go.Proofs.Ytmnfajplfnfgpaa.BP Go.Proofs.Ytmnfajplfnfgpaa.BQ Go.Proofs.Ytmnfajplfnfgpaa.OB Go.Proofs.Ytmnfajplfnfgpaa.OC Go.Proofs.Ytmnfajplfnfgpaa.OD Go.Proofs.Ytmnfajplfnfgpaa.OE Go.Proofs.Ytmnfajplfnfgpaa.OF Go.Proofs.Ytmnfajplfnfgpaa.OG Go.Proofs.Ytmnfajplfnfgpaa.OK Go.Proofs.Ytmnfajplfnfgpaa.OL Go.Proofs.Ytmnfajplfnfgpaa.Bytes


def PtrO (l : List Or) (v : Value) (w : World) : Prop := ∃ r, v = .pointer (some ⟨r, 0, none⟩) ∧ RowO w r l
def TupO (ki : Int) (R : List Or) (v : Value) (w : World) : Prop := ∃ v', v = .tuple #[v', .int .i64 ki, .int .i64 0] ∧ Ors w v' R
/-- What Post answers, and that the slots that it goes through are those that are met, the best one first. -/
def AnsPo (l : List Or) (o : Or) (w : World) (e : Ending) (w' : World) : Prop :=
  ∃ S v1 v2, ((postP l o S).err = 0 → Srt l o S) ∧ (Srt l o S ∨ ∀ S', postP l o S' = postP l o S) ∧ e = .returned (.tuple #[v1, v2, .int .i64 (postP l o S).at_, .int .u64 ((postP l o S).sur : Int), .int .i64 (postP l o S).err]) ∧ Ors w' v1 (postP l o S).now ∧ Fis w' v2 (postP l o S).fills ∧ Grew w w'
theorem post_arg (l : List Or) (o : Or) (S : List Nat) (h : ¬ (rightO l = true ∧ mayO o = true ∧ takenB l o = false)) : postP l o S = ⟨[], [], 0, 0, 1⟩ := if_neg h
theorem post_full (l : List Or) (o : Or) (S : List Nat) (h : rightO l = true ∧ mayO o = true ∧ takenB l o = false) (hf : ordfree l = -1) : postP l o S = ⟨[], [], 0, 0, 8⟩ := by unfold postP; rw [if_pos h, if_pos hf]
theorem post_ok (l : List Or) (o : Or) (S : List Nat) (h : rightO l = true ∧ mayO o = true ∧ takenB l o = false) (hf : ordfree l ≠ -1) : postP l o S = restP (fillP l S l o []) := by unfold postP; rw [if_pos h, if_neg hf]
theorem AnsPo.err {l : List Or} {o : Or} {w w' : World} (er : Int) (he : er ≠ 0) (hp : ∀ S, postP l o S = ⟨[], [], 0, 0, er⟩) (hg : Grew w w') : AnsPo l o w (.returned (.tuple #[.slice none 0 0, .slice none 0 0, .int .i64 0, .int .u64 0, .int .i64 er])) w' := by
  refine ⟨[], .slice none 0 0, .slice none 0 0, fun h => ?_, .inr fun S => (hp S).trans (hp []).symm, ?_, ?_, ?_, hg⟩
  · rw [hp] at h; exact absurd h he
  · rw [hp]; rfl
  · rw [hp]; exact rw_none _
  · rw [hp]; exact rw_none _
theorem AnsPo.mk' {l : List Or} {o : Or} {w w' : World} {S : List Nat} (hS : Srt l o S) {P : Po} (hP : postP l o S = P) {v1 v2 : Value} (h1 : Ors w' v1 P.now) (h2 : Fis w' v2 P.fills) (hg : Grew w w') : AnsPo l o w (.returned (.tuple #[v1, v2, .int .i64 P.at_, .int .u64 (P.sur : Int), .int .i64 P.err])) w' := by
  refine ⟨S, v1, v2, fun _ => hS, .inl hS, ?_, ?_, ?_, hg⟩
  · rw [hP]
  · rw [hP]; exact h1
  · rw [hP]; exact h2
theorem set_len_le (l : List Or) (S : List Nat) (o : Or) (fs : List Fi) (h : l.length ≤ 1000) : (fillP l S l o fs).1.length ≤ 1000 := by rw [fill_len]; exact h
set_option maxHeartbeats 8000000 in
theorem post_any (v : Value) (l : List Or) (o : Or) (w : World) (h : Ors w v l) (hl : l.length ≤ 1000) (hs : ∀ x ∈ l, WfO x) (ho : WfO o) :
    Calls Try.prog 21 #[v, orv o] w (AnsPo l o w) := by
  have g0 : Grew w (w.alloc (.cells (ocs o).toArray 26)) := by unfold Grew; go_grown
  have G0 := Lib.hid g0
  have B0 := Lib.hid (blk_new w (.cells (ocs o).toArray 26))
  have HL := Lib.hid h
  have HCT := Lib.hid (contOT v l (fun x => x.used && decide (x.seq = o.seq)) w.heap.size _ (h.grew g0) fun x _ W hg => taken_any x o.seq w.heap.size o W (keepB (blk_new w _) hg) rfl)
  have HRT := Lib.hid (fun W (hg : Grew w W) => right_any v l W (h.grew hg) hl hs)
  have HMY := Lib.hid (fun W => may_any o ho.1 W)
  have HROW := Lib.hid (fun W (hg : Grew w W) => ord_row W v l (h.grew hg) (by omega))
  have HFST := Lib.hid (fun W b (hr : RowO W b l) => ord_first W b l hr (by omega))
  have HE1 := Lib.hid (post_arg l o)
  have HE8 := Lib.hid (post_full l o)
  have HOK := Lib.hid (post_ok l o)
  have HMF := Lib.hid ((may_iff o).1)
  have HFILL : Hid (rightO l = true → mayO o = true → ∀ W, Grew w W → Calls Try.prog 46 #[v, orv o] W fun e w' => ∃ S v1 v2, Srt l o S ∧ e = .returned (.tuple #[v1, v2, orv (fillP l S l o []).2.2]) ∧ Ors w' v1 (fillP l S l o []).1 ∧ Fis w' v2 (fillP l S l o []).2.1 ∧ Grew W w') := Lib.hid fun hr hm W hg => fill_any l o v W (h.grew hg) hl hr ((may_iff o).1 hm) hs ho.1
  have e9 : takenB l o = l.any fun x => x.used && decide (x.seq = o.seq) := rfl
  rw [← e9] at HCT
  clear e9
  have HLL := Lib.hid hl
  have HO := Lib.hid ho
  have HRI : Hid (rightO l = true → ∀ S, Srt l o S → ∀ i ∈ S, MayF (eo l i) ∧ meetsP o (eo l i) = true) := Lib.hid fun hr S hS => BQ.Srt.all hS hr
  have hc1 := ord_freec l
  obtain ⟨A, c, rfl, _⟩ := h.slice
  clear h hs g0 ho hl
  generalize takenB l o = tk at *
  generalize hrr : rightO l = ri at *
  generalize hmm : mayO o = my at *
  have HRR := Lib.hid hrr
  have HMM := Lib.hid hmm
  clear hrr hmm
  obtain ⟨us, lb, wh, sd, bs, qt, pr, lf, rs, sq⟩ := o
  unfold orv ocs at *
  simp only at B0 G0 HMY HFILL ⊢
  cases ri with
  | false =>
    have HX := Lib.hid (fun S => HE1.out S (by simp))
    clear HE1 HE8 HOK hc1
    go_enter Try.func21, Try.ntmps21
    go_wp2_with fail
    refine HCT.out.mono ?_
    rintro e w1 ⟨rfl, hg⟩
    have G1 := Lib.hid (G0.out.trans hg)
    have B1 := Lib.hid (keepB B0.out hg)
    clear hg
    go_wp2_with fail
    refine (HRT.out _ G1.out).mono ?_
    rintro e w2 ⟨rfl, hg⟩
    have G2 := Lib.hid (G1.out.trans hg)
    have B2 := Lib.hid (keepB B1.out hg)
    clear hg
    obtain ⟨c0, c1, c2, c3, c4, c5, c6, c7, c8, c9⟩ := ten_c B2.out
    go_wp2
    go_returns
    exact AnsPo.err 1 (by decide) HX.out G2.out

  | true =>
    cases my with
    | false =>
      have HX := Lib.hid (fun S => HE1.out S (by simp))
      clear HE1 HE8 HOK hc1
      go_enter Try.func21, Try.ntmps21
      go_wp2_with fail
      refine HCT.out.mono ?_
      rintro e w1 ⟨rfl, hg⟩
      have G1 := Lib.hid (G0.out.trans hg)
      have B1 := Lib.hid (keepB B0.out hg)
      clear hg
      go_wp2_with fail
      refine (HRT.out _ G1.out).mono ?_
      rintro e w2 ⟨rfl, hg⟩
      have G2 := Lib.hid (G1.out.trans hg)
      have B2 := Lib.hid (keepB B1.out hg)
      clear hg
      obtain ⟨c0, c1, c2, c3, c4, c5, c6, c7, c8, c9⟩ := ten_c B2.out
      go_wp2_with fail
      refine (HMY.out _).mono ?_
      rintro e w3 ⟨rfl, hg⟩
      have G3 := Lib.hid (G2.out.trans hg)
      have B3 := Lib.hid (keepB B2.out hg)
      clear hg c0 c1 c2 c3 c4 c5 c6 c7 c8 c9
      go_wp2
      go_returns
      exact AnsPo.err 1 (by decide) HX.out G3.out

    | true =>
      cases tk with
      | true =>
        have HX := Lib.hid (fun S => HE1.out S (by simp))
        clear HE1 HE8 HOK hc1
        go_enter Try.func21, Try.ntmps21
        go_wp2_with fail
        refine HCT.out.mono ?_
        rintro e w1 ⟨rfl, hg⟩
        have G1 := Lib.hid (G0.out.trans hg)
        have B1 := Lib.hid (keepB B0.out hg)
        clear hg
        go_wp2_with fail
        refine (HRT.out _ G1.out).mono ?_
        rintro e w2 ⟨rfl, hg⟩
        have G2 := Lib.hid (G1.out.trans hg)
        have B2 := Lib.hid (keepB B1.out hg)
        clear hg
        obtain ⟨c0, c1, c2, c3, c4, c5, c6, c7, c8, c9⟩ := ten_c B2.out
        go_wp2_with fail
        refine (HMY.out _).mono ?_
        rintro e w3 ⟨rfl, hg⟩
        have G3 := Lib.hid (G2.out.trans hg)
        have B3 := Lib.hid (keepB B2.out hg)
        clear hg c0 c1 c2 c3 c4 c5 c6 c7 c8 c9
        go_wp2
        go_returns
        exact AnsPo.err 1 (by decide) HX.out G3.out

      | false =>
        rcases hc1 with hc | ⟨k, hc, hk⟩
        · have HX := Lib.hid (fun S => HE8.out S (by simp) hc)
          rw [hc, fv_no] at HFST
          clear HE1 HE8 HOK hc
          go_enter Try.func21, Try.ntmps21
          go_wp2_with fail
          refine HCT.out.mono ?_
          rintro e w1 ⟨rfl, hg⟩
          have G1 := Lib.hid (G0.out.trans hg)
          have B1 := Lib.hid (keepB B0.out hg)
          clear hg
          go_wp2_with fail
          refine (HRT.out _ G1.out).mono ?_
          rintro e w2 ⟨rfl, hg⟩
          have G2 := Lib.hid (G1.out.trans hg)
          have B2 := Lib.hid (keepB B1.out hg)
          clear hg
          obtain ⟨c0, c1, c2, c3, c4, c5, c6, c7, c8, c9⟩ := ten_c B2.out
          go_wp2_with fail
          refine (HMY.out _).mono ?_
          rintro e w3 ⟨rfl, hg⟩
          have G3 := Lib.hid (G2.out.trans hg)
          have B3 := Lib.hid (keepB B2.out hg)
          clear hg c0 c1 c2 c3 c4 c5 c6 c7 c8 c9
          go_wp2_with fail
          refine (HROW.out _ G3.out).mono ?_
          rintro e w4 ⟨b, rfl, hr, hg⟩
          have G4 := Lib.hid (G3.out.trans hg)
          have B4 := Lib.hid (keepB B3.out hg)
          have HF1 := Lib.hid (HFST.out _ _ hr)
          clear hr hg
          go_wp2_with fail
          refine HF1.out.mono ?_
          rintro e w5 ⟨rfl, hg⟩
          have G5 := Lib.hid (G4.out.trans hg)
          have B5 := Lib.hid (keepB B4.out hg)
          clear hg
          go_wp2
          go_returns
          exact AnsPo.err 8 (by decide) HX.out G5.out

        · have hcn : ordfree l ≠ -1 := by omega
          have HX := Lib.hid (fun S => HOK.out S (by simp) hcn)
          have HCN := Lib.hid hcn
          rw [hc, fv_at] at HFST
          have HFL := Lib.hid (HFILL.out rfl rfl)
          have HRJ := Lib.hid (HRI.out rfl)
          have HFO := Lib.hid (FO.of_may (HMF.out rfl))
          clear HE1 HE8 HOK hc hcn HFILL HRI HMF
          go_enter Try.func21, Try.ntmps21
          go_wp2_with fail
          refine HCT.out.mono ?_
          rintro e w1 ⟨rfl, hg⟩
          have G1 := Lib.hid (G0.out.trans hg)
          have B1 := Lib.hid (keepB B0.out hg)
          clear hg
          go_wp2_with fail
          refine (HRT.out _ G1.out).mono ?_
          rintro e w2 ⟨rfl, hg⟩
          have G2 := Lib.hid (G1.out.trans hg)
          have B2 := Lib.hid (keepB B1.out hg)
          clear hg
          obtain ⟨c0, c1, c2, c3, c4, c5, c6, c7, c8, c9⟩ := ten_c B2.out
          go_wp2_with fail
          refine (HMY.out _).mono ?_
          rintro e w3 ⟨rfl, hg⟩
          have G3 := Lib.hid (G2.out.trans hg)
          have B3 := Lib.hid (keepB B2.out hg)
          clear hg c0 c1 c2 c3 c4 c5 c6 c7 c8 c9
          go_wp2_with fail
          refine (HROW.out _ G3.out).mono ?_
          rintro e w4 ⟨b, rfl, hr, hg⟩
          have G4 := Lib.hid (G3.out.trans hg)
          have B4 := Lib.hid (keepB B3.out hg)
          have HF1 := Lib.hid (HFST.out _ _ hr)
          clear hr hg
          go_wp2_with fail
          refine HF1.out.mono ?_
          rintro e w5 ⟨rfl, hg⟩
          have G5 := Lib.hid (G4.out.trans hg)
          have B5 := Lib.hid (keepB B4.out hg)
          clear hg
          obtain ⟨c0, c1, c2, c3, c4, c5, c6, c7, c8, c9⟩ := ten_c B5.out
          go_wp2_with fail
          refine (HFL.out _ G5.out).mono ?_
          rintro e w6 ⟨S, v1, v2, hS, rfl, hO, hF, hg⟩
          have HX2 := Lib.hid (HX.out S)
          have hro := fill_ord l S l ⟨us, lb, wh, sd, bs, qt, pr, lf, rs, sq⟩ [] (HRJ.out S hS) HFO.out
          have hfr := fill_free hS HCN.out []
          have hln := set_len_le l S ⟨us, lb, wh, sd, bs, qt, pr, lf, rs, sq⟩ [] HLL.out
          rcases hfp : fillP l S l ⟨us, lb, wh, sd, bs, qt, pr, lf, rs, sq⟩ [] with ⟨now, fs, r⟩
          rw [hfp] at HX2 hO hF hro hfr hln
          simp only
          simp only at hO hF hro hfr hln
          obtain ⟨hfo, hsm⟩ := hro
          have HSR := Lib.hid hS
          have G6 := Lib.hid (G5.out.trans hg)
          have HNO := Lib.hid hO
          have HFS := Lib.hid hF
          have HFR := Lib.hid hfr
          have HLN := Lib.hid hln
          obtain ⟨A1, k1, rfl, _⟩ := hO.slice
          obtain ⟨A2, k2, rfl, _⟩ := hF.slice
          clear hfp hS hO hF hg hfr hln c0 c1 c2 c3 c4 c5 c6 c7 c8 c9
          have hlb : r.left < 18446744073709551616 := by have := hfo.le; unfold top at this; omega
          have hrb : r.res < 18446744073709551616 := by have := hfo.rl; unfold top at this; omega
          have hpb : r.price < 18446744073709551616 := by rw [hsm.price]; exact HO.out.1.1
          have HND := Lib.hid (need_any r.side r.left r.price hlb hpb)
          have HFN := Lib.hid (BQ.FO.need hfo)
          have HSM := Lib.hid hsm
          unfold restP at HX2
          simp only at HX2
          by_cases h0 : r.left = 0
          · rw [if_pos h0] at HX2
            clear HND HFN
            obtain ⟨us', lb', wh', sd', bs', qt', pr', lf', rs', sq'⟩ := r
            simp only at h0 HX2
            subst h0
            have gx : Grew w6 (w6.alloc (.cells #[.bool us', .int .i64 lb', .int .i64 wh', .int .i64 sd', .int .i64 bs', .int .i64 qt', .int .u64 (pr' : Int), .int .u64 0, .int .u64 (rs' : Int), .int .i64 sq'] 26)) := by unfold Grew; go_grown
            have GX := Lib.hid (G6.out.trans gx)
            have e8 := (ten_c (blk_new w6 (.cells #[.bool us', .int .i64 lb', .int .i64 wh', .int .i64 sd', .int .i64 bs', .int .i64 qt', .int .u64 (pr' : Int), .int .u64 0, .int .u64 (rs' : Int), .int .i64 sq'] 26))).2.2.2.2.2.2.2.2.1
            have HN2 := Lib.hid (HNO.out.grew gx)
            have HF2 := Lib.hid (Rw.grew HFS.out gx)
            clear gx
            go_wp2
            refine Facts.wp_region_text (by kernel_rfl) (by kernel_rfl) ?_
            apply Facts.Lex.exact [] _ (by kernel_rfl)
            · intro u W hC hK
              clear hK
              unfold Facts.one
              go_simp
              first | exact ⟨Grew.refl _, rfl⟩ | rfl
            simp only [Act.put, List.setIfInBounds_toArray, List.set_cons_zero, List.set_cons_succ, Nat.zero_add]
            apply Facts.Lex.exact [] _ (by kernel_rfl)
            · intro u W hC hK
              clear hK
              unfold Facts.one
              go_simp
              first | exact ⟨Grew.refl _, rfl⟩ | rfl
            simp only [Act.put, List.setIfInBounds_toArray, List.set_cons_zero, List.set_cons_succ, Nat.reduceAdd]
            apply Facts.Lex.exact [] _ (by kernel_rfl)
            · intro u W hC hK
              clear hK
              unfold Facts.one
              go_simp
              first | exact ⟨Grew.refl _, rfl⟩ | rfl
            simp only [Act.put, List.setIfInBounds_toArray, List.set_cons_zero, List.set_cons_succ, Nat.reduceAdd]
            apply Facts.Lex.exact [] _ (by kernel_rfl)
            · intro u W hC hK
              clear hK
              have je8 := cellG hC e8
              unfold Facts.one
              go_simp
              first | exact ⟨Grew.refl _, rfl⟩ | rfl
            simp only [Act.put, List.setIfInBounds_toArray, List.set_cons_zero, List.set_cons_succ, Nat.reduceAdd]
            apply Facts.Lex.exact [] _ (by kernel_rfl)
            · intro u W hC hK
              clear hK
              unfold Facts.one
              go_simp
              first | exact ⟨Grew.refl _, rfl⟩ | rfl
            simp only [Act.put, List.setIfInBounds_toArray, List.set_cons_zero, List.set_cons_succ, Nat.reduceAdd]
            apply Facts.Lex.exact [] _ (by kernel_rfl)
            · intro u W hC hK
              clear hK
              unfold Facts.one
              go_simp
              first | exact ⟨Grew.refl _, rfl⟩ | rfl
            simp only [Act.put, List.setIfInBounds_toArray, List.set_cons_zero, List.set_cons_succ, Nat.reduceAdd]
            apply Facts.Lex.exact [] _ (by kernel_rfl)
            · intro u W hC hK
              clear hK
              unfold Facts.one
              go_simp
              first | exact ⟨Grew.refl _, rfl⟩ | rfl
            simp only [Act.put, List.setIfInBounds_toArray, List.set_cons_zero, List.set_cons_succ, Nat.reduceAdd]
            apply Facts.Lex.exact [] _ (by kernel_rfl)
            · intro u W hC hK
              clear hK
              unfold Facts.one
              go_simp
              first | exact ⟨Grew.refl _, rfl⟩ | rfl
            simp only [Act.put, List.setIfInBounds_toArray, List.set_cons_zero, List.set_cons_succ, Nat.reduceAdd]
            apply Facts.Lex.exact [] _ (by kernel_rfl)
            · intro u W hC hK
              clear hK
              unfold Facts.one
              go_simp
              first | exact ⟨Grew.refl _, rfl⟩ | rfl
            simp only [Act.put, List.setIfInBounds_toArray, List.set_cons_zero, List.set_cons_succ, Nat.reduceAdd]

            refine Facts.Lex.done fun u W2 hC hL => ?_
            have GZ := Lib.hid (GX.out.trans hC)
            have HN3 := Lib.hid (HN2.out.grew hC)
            have HF3 := Lib.hid (Rw.grew HF2.out hC)
            clear hC hL e8
            go_wp2
            go_returns
            exact AnsPo.mk' HSR.out HX2.out HN3.out HF3.out GZ.out
          · rw [if_neg h0] at HX2
            obtain ⟨hn0, hnle, hxx⟩ := HFN.out h0
            clear hxx
            generalize hnd : needP r.side r.left r.price = nd at *
            obtain ⟨m, er⟩ := nd
            simp only at hn0 hnle
            subst hn0
            unfold two at HND
            simp only at HND HX2
            have hws := wsub r.res m hnle hrb
            obtain ⟨R, hR⟩ : ∃ R, now.set (ordfree now).toNat { r with used := true, res := m } = R := ⟨_, rfl⟩
            rw [hR] at HX2
            have HADD : Hid (∀ W b, RowO W b now → Calls Try.prog 47 #[.pointer (some ⟨b, 0, none⟩), orv { r with used := true, res := m }] W fun e w' => ∃ v', e = .returned (.tuple #[v', .int .i64 (ordfree now), .int .i64 0]) ∧ Ors w' v' R ∧ Grew W w') := Lib.hid fun W b hr => by
              have h1 := ord_add W b now { r with used := true, res := m } hr (by have := HLN.out; omega)
              rw [if_neg HFR.out, if_neg HFR.out, if_neg HFR.out, hR] at h1
              exact h1
            have hl0 : ((r.left : Nat) : Int) ≠ 0 := by omega
            have hl1 : (((r.left : Nat) : Int) == 0) = false := by simp; exact h0
            generalize ordfree now = ki at *
            clear hnd hR hnle h0 hlb hrb hpb hfo hsm HFN HSM
            obtain ⟨us', lb', wh', sd', bs', qt', pr', lf', rs', sq'⟩ := r
            unfold orv at HADD
            simp only at HND HADD HX2 hws hl0 hl1
            have gx : Grew w6 (w6.alloc (.cells #[.bool true, .int .i64 lb', .int .i64 wh', .int .i64 sd', .int .i64 bs', .int .i64 qt', .int .u64 (pr' : Int), .int .u64 (lf' : Int), .int .u64 (m : Int), .int .i64 sq'] 26)) := by unfold Grew; go_grown
            have GX := Lib.hid (G6.out.trans gx)
            obtain ⟨e0, e1, e2, e3, e4, e5, e6, e7, e8, e9⟩ := ten_c (blk_new w6 (.cells #[.bool true, .int .i64 lb', .int .i64 wh', .int .i64 sd', .int .i64 bs', .int .i64 qt', .int .u64 (pr' : Int), .int .u64 (lf' : Int), .int .u64 (m : Int), .int .i64 sq'] 26))
            have HN2 := Lib.hid (HNO.out.grew gx)
            have HFS := Lib.hid (Rw.grew HFS.out gx)
            have HRN := Lib.hid (fun W (hg : Grew (w6.alloc (.cells #[.bool true, .int .i64 lb', .int .i64 wh', .int .i64 sd', .int .i64 bs', .int .i64 qt', .int .u64 (pr' : Int), .int .u64 (lf' : Int), .int .u64 (m : Int), .int .i64 sq'] 26)) W) => ord_row W _ now (HN2.out.grew hg) (by have := HLN.out; omega))
            have b6 := blk_new w6 (.cells #[.bool us', .int .i64 lb', .int .i64 wh', .int .i64 sd', .int .i64 bs', .int .i64 qt', .int .u64 (pr' : Int), .int .u64 (lf' : Int), .int .u64 (rs' : Int), .int .i64 sq'] 26)
            have f0 := frz (k := 0) b6
            have f8 := frz (k := 8) b6
            clear gx b6
            go_wp2_with fail
            refine (HND.out _).mono ?_
            rintro e w' ⟨rfl, rfl⟩
            go_wp2
            refine Facts.wp_region_text (by kernel_rfl) (by kernel_rfl) ?_
            apply Facts.Lex.exact [] _ (by kernel_rfl)
            · intro u W hC hK
              clear hK
              unfold Facts.one
              go_simp
              first | exact ⟨Grew.refl _, rfl⟩ | rfl
            simp only [Act.put, List.setIfInBounds_toArray, List.set_cons_zero, List.set_cons_succ, Nat.zero_add]
            refine Facts.Lex.know [] (PtrO now) (by kernel_rfl) (fun _ _ _ ⟨r, e, h⟩ hg => ⟨r, e, h.grew hg⟩) ?_ ?_
            · intro u W hC hK
              have HC9 := Lib.hid (HRN.out W hC)
              clear hK
              unfold Facts.one
              go_simp
              refine HC9.out.mono ?_
              rintro e w' ⟨r, rfl, hr, hg⟩
              exact ⟨_, rfl, hg, ⟨r, rfl, hr⟩⟩
            simp only [Act.put, List.setIfInBounds_toArray, List.set_cons_zero, List.set_cons_succ, Nat.reduceAdd]
            apply Facts.Lex.exact [] (.agg #[.bool true, .int .i64 lb', .int .i64 wh', .int .i64 sd', .int .i64 bs', .int .i64 qt', .int .u64 (pr' : Int), .int .u64 (lf' : Int), .int .u64 (m : Int), .int .i64 sq']) (by kernel_rfl)
            · intro u W hC hK
              clear hK
              have je0 := cellG hC e0
              have je1 := cellG hC e1
              have je2 := cellG hC e2
              have je3 := cellG hC e3
              have je4 := cellG hC e4
              have je5 := cellG hC e5
              have je6 := cellG hC e6
              have je7 := cellG hC e7
              have je8 := cellG hC e8
              have je9 := cellG hC e9
              unfold Facts.one
              go_simp
              first | exact ⟨Grew.refl _, rfl⟩ | rfl
            simp only [Act.put, List.setIfInBounds_toArray, List.set_cons_zero, List.set_cons_succ, Nat.reduceAdd]
            refine Facts.Lex.know [1] (TupO ki R) (by kernel_rfl) (fun _ _ _ ⟨r, e, h⟩ hg => ⟨r, e, h.grew hg⟩) ?_ ?_
            · intro u W hC hK
              obtain ⟨r, hr, hrow⟩ : PtrO now (u 1) W := hK.1
              have HC9 := Lib.hid (HADD.out W r hrow)
              clear hK hrow
              unfold Facts.one
              go_simp
              try simp only [hr]
              refine HC9.out.mono ?_
              rintro e w' ⟨v', rfl, hi, hg⟩
              exact ⟨_, rfl, hg, ⟨v', rfl, hi⟩⟩
            simp only [Act.put, List.setIfInBounds_toArray, List.set_cons_zero, List.set_cons_succ, Nat.reduceAdd]
            refine Facts.Lex.know [3] (TupO ki R) (by kernel_rfl) (fun _ _ _ ⟨r, e, h⟩ hg => ⟨r, e, h.grew hg⟩) ?_ ?_
            · intro u W hC hK
              have HY : Hid (TupO ki R (u 3) W) := Lib.hid hK.1
              clear hK
              unfold Facts.one
              go_simp
              exact ⟨Grew.refl _, HY.out⟩
            simp only [Act.put, List.setIfInBounds_toArray, List.set_cons_zero, List.set_cons_succ, Nat.reduceAdd]
            refine Facts.Lex.know [4] (fun v w => Ors w v R) (by kernel_rfl) (fun _ _ _ h hg => h.grew hg) ?_ ?_
            · intro u W hC hK
              obtain ⟨v', hv', hi⟩ : TupO ki R (u 4) W := hK.1
              have HI := Lib.hid hi
              clear hK hi
              unfold Facts.one
              simp only [hv']
              go_simp
              exact ⟨Grew.refl _, HI.out⟩
            simp only [Act.put, List.setIfInBounds_toArray, List.set_cons_zero, List.set_cons_succ, Nat.reduceAdd]
            apply Facts.Lex.exact [4] (.int .i64 ki) (by kernel_rfl)
            · intro u W hC hK
              obtain ⟨v', hv', hi⟩ : TupO ki R (u 4) W := hK.1
              have HI := Lib.hid hi
              clear hK hi
              unfold Facts.one
              simp only [hv']
              go_simp
              first | exact ⟨Grew.refl _, rfl⟩ | rfl
            simp only [Act.put, List.setIfInBounds_toArray, List.set_cons_zero, List.set_cons_succ, Nat.reduceAdd]
            apply Facts.Lex.exact [4] (.int .i64 0) (by kernel_rfl)
            · intro u W hC hK
              obtain ⟨v', hv', hi⟩ : TupO ki R (u 4) W := hK.1
              have HI := Lib.hid hi
              clear hK hi
              unfold Facts.one
              simp only [hv']
              go_simp
              first | exact ⟨Grew.refl _, rfl⟩ | rfl
            simp only [Act.put, List.setIfInBounds_toArray, List.set_cons_zero, List.set_cons_succ, Nat.reduceAdd]
            refine Facts.Lex.know [5] (fun v w => Ors w v R) (by kernel_rfl) (fun _ _ _ h hg => h.grew hg) ?_ ?_
            · intro u W hC hK
              have HY : Hid (Ors W (u 5) R) := Lib.hid hK.1
              clear hK
              unfold Facts.one
              go_simp
              exact ⟨Grew.refl _, HY.out⟩
            simp only [Act.put, List.setIfInBounds_toArray, List.set_cons_zero, List.set_cons_succ, Nat.reduceAdd]
            apply Facts.Lex.exact [] _ (by kernel_rfl)
            · intro u W hC hK
              clear hK
              unfold Facts.one
              go_simp
              first | exact ⟨Grew.refl _, rfl⟩ | rfl
            simp only [Act.put, List.setIfInBounds_toArray, List.set_cons_zero, List.set_cons_succ, Nat.reduceAdd]
            apply Facts.Lex.exact [] _ (by kernel_rfl)
            · intro u W hC hK
              clear hK
              unfold Facts.one
              go_simp
              first | exact ⟨Grew.refl _, rfl⟩ | rfl
            simp only [Act.put, List.setIfInBounds_toArray, List.set_cons_zero, List.set_cons_succ, Nat.reduceAdd]
            refine Facts.Lex.done fun u W2 hC hL => ?_
            have HY : Hid (Ors W2 (u 8) R) := Lib.hid (hL _ (List.mem_cons_self ..))
            have GZ := Lib.hid (GX.out.trans hC)
            have HFZ := Lib.hid (Rw.grew HFS.out hC)
            clear hC hL
            generalize u 8 = v8 at *

            clear e0 e1 e2 e3 e4 e5 e6 e7 e8 e9
            go_wp2
            go_returns
            exact AnsPo.mk' HSR.out HX2.out HY.out HFZ.out GZ.out

end Go.Proofs.Ytmnfajplfnfgpaa.ON
