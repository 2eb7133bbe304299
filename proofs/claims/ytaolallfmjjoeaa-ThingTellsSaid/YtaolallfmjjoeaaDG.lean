/-
  ThingTells: all that is done with an item is told.
  Conditions: those that each lemma names.
-/
import Derived.Test.YtaolallfmjjoeaaDF
import Derived.Test.YtaolallfmjjoeaaTM
import Derived.Deep.DeepCutAuto
namespace Go.Proofs.Ytaolallfmjjoeaa.DG
set_option maxRecDepth 100000
open Go Go.RowKit Go.Lib Go.Proofs.Ytaolallfmjjoeaa Go.Proofs.Ytaolallfmjjoeaa.Facts Go.Proofs.Ytaolallfmjjoeaa.Ints Go.Proofs.Ytaolallfmjjoeaa.TI Go.Proofs.Ytaolallfmjjoeaa.TP Go.Proofs.Ytaolallfmjjoeaa.TB Go.Proofs.Ytaolallfmjjoeaa.TC Go.Proofs.Ytaolallfmjjoeaa.TD Go.Proofs.Ytaolallfmjjoeaa.TE Go.Proofs.Ytaolallfmjjoeaa.TF Go.Proofs.Ytaolallfmjjoeaa.TG Go.Proofs.Ytaolallfmjjoeaa.TH Go.Proofs.Ytaolallfmjjoeaa.TJ Go.Proofs.Ytaolallfmjjoeaa.TK Go.Proofs.Ytaolallfmjjoeaa.TL Go.Proofs.Ytaolallfmjjoeaa.TM Go.Proofs.Ytaolallfmjjoeaa.DA Go.Proofs.Ytaolallfmjjoeaa.DB Go.Proofs.Ytaolallfmjjoeaa.DC Go.Proofs.Ytaolallfmjjoeaa.DD Go.Proofs.Ytaolallfmjjoeaa.DE Go.Proofs.Ytaolallfmjjoeaa.DF Go.Proofs.Ytaolallfmjjoeaa.Bytes


theorem app_nil (W : World) : (Builtin.append_ #[46, 46] 46 #[.slice none 0 0, .slice none 0 0]).run Try.prog W = .ok (.slice none 0 0) W := by
  simp [Builtin.append_, go_sem, run_underlying Try.underlying46]
theorem app_was (W : World) (v : Value) (l : List It) (h : Its W v l) (hl : l.length ≤ 1000) : ∃ v' w', (Builtin.append_ #[46, 46] 46 #[.slice none 0 0, v]).run Try.prog W = .ok v' w' ∧ Its w' v' l ∧ Grew W w' := by
  obtain ⟨A, c, rfl, h1, h2, h3, h4⟩ := h
  cases A with
  | none =>
    have h0 := h3 rfl
    have hn : l = [] := List.eq_nil_of_length_eq_zero (by omega)
    subst hn
    subst h0
    exact ⟨_, _, app_nil W, rw_none _, Grew.refl _⟩
  | some ad =>
    obtain ⟨v', w', hr, h5, h6⟩ := app_row W W.heap.size _ [] l ad c (World.ownsRow_nil _ _ 67 6) (h4 ad rfl) (by simp; omega) (Nat.le_refl _)
    rw [List.nil_append] at h5
    exact ⟨v', w', hr, Its.of_own h5, h6⟩
theorem ans_slice3 {r : List It × Int × Int} {w w' : World} {e : Ending} (h : Ans3 r w e w') : ∃ A c, e = .returned (.tuple #[.slice A r.1.length c, .int .i64 r.2.1, .int .i64 r.2.2]) ∧ Its w' (.slice A r.1.length c) r.1 ∧ Grew w w' := by
  obtain ⟨v', e1, hi, hg⟩ := h
  obtain ⟨A, c, e2, _⟩ := hi.slice
  subst e2
  exact ⟨A, c, e1, hi, hg⟩
theorem same_refl (v v2 : Value) (l : List It) (w : World) (h : Its w v l) (h2 : Its w v2 l) : Calls Try.prog 21 #[v, v2] w fun e w' => e = .returned (.bool true) ∧ Grew w w' := by
  have := same_any v v2 l l w h h2
  rw [decide_eq_true rfl] at this
  exact this
theorem ints_refl (v v2 : Value) (l : List Int) (w : World) (h : Is w v l) (h2 : Is w v2 l) : Calls Try.prog 35 #[v, v2] w fun e w' => e = .returned (.bool true) ∧ Grew w w' := by
  have := ints_any w v v2 l l h h2
  rw [decide_eq_true rfl] at this
  exact this

set_option maxHeartbeats 8000000 in
theorem law (v : Value) (l : List It) (s : ByteArray) (i n m a b : Int) (w : World) (hl : Its w v l) (hz : Sz l) (hs : s.size ≤ 9223372036854775807) : Calls Try.prog 5 #[v, .string s, .int .i64 i, .int .i64 n, .int .i64 m, .agg #[.int .i64 a, .int .i64 b]] w fun e w' => e = .returned (.bool true) ∧ Grew w w' := by
  have HAL := Lib.hid alive_any
  have g0 : Grew w (w.alloc (.cells #[.int .i64 a, .int .i64 b] 33)) := by unfold Grew; go_grown
  have B0 : Hid ((w.alloc (.cells #[.int .i64 a, .int .i64 b] 33)).heap[w.heap.size]? = some (.cells #[.int .i64 a, .int .i64 b] 33 (0, 0))) := Lib.hid (heap_alloc_new w _)
  by_cases h2 : 200 < l.length
  · have h2' : (200 : Int) < (l.length : Int) := by omega
    obtain ⟨A, c, rfl, _⟩ := hl.slice
    have G0 := Lib.hid g0
    clear hl hz hs h2 g0 B0
    go_enter Try.func5, Try.ntmps5
    go_wp2_with fail
    refine (HAL.out _).mono ?_
    rintro e w2 ⟨rfl, hg⟩
    have G1 := Lib.hid (G0.out.trans hg)
    clear hg
    go_wp2
    go_returns
    exact ⟨rfl, G1.out⟩
  · have h2' : ¬ (200 : Int) < (l.length : Int) := by omega
    have hn : l.length ≤ 1000 := by omega
    obtain ⟨v', w2, hr, hi, hg⟩ := app_was _ v l (hl.grew g0) hn
    have HMK := Lib.hid (fun W (hg : Grew w W) => make_any v l s n W (hl.grew hg) hz hn hs)
    have HMK2 := Lib.hid (fun W (hg : Grew w W) => rmake_any v l s n W (hl.grew hg) hz hn hs)
    have HRI := Lib.hid (fun W (hg : Grew w W) => right_any v l W (hl.grew hg) hz)
    have HRI2 := Lib.hid (fun W (hg : Grew w W) => rright_any v l W (hl.grew hg) hz hn)
    have HSC := Lib.hid (fun W (hg : Grew w W) => scrap_any v l i n W (hl.grew hg) hz hn)
    have HSC2 := Lib.hid (fun W (hg : Grew w W) => rscrap_any v l i n W (hl.grew hg) hz hn)
    have HDR := Lib.hid (fun W (hg : Grew w W) => drop_any v l i n a b W (hl.grew hg) hz hn)
    have HDR2 := Lib.hid (fun W (hg : Grew w W) => rdrop_any v l i n a b W (hl.grew hg) hz hn)
    have HTK := Lib.hid (fun W (hg : Grew w W) => take_any v l i n a b W (hl.grew hg) hz hn)
    have HTK2 := Lib.hid (fun W (hg : Grew w W) => rtake_any v l i n a b W (hl.grew hg) hz hn)
    have HPA := Lib.hid (fun W (hg : Grew w W) => pass_any v l i n m W (hl.grew hg) hz hn)
    have HPA2 := Lib.hid (fun W (hg : Grew w W) => rpass_any v l i n m W (hl.grew hg) hz hn)
    have HHO := Lib.hid (fun W (hg : Grew w W) => hold_any v l i n m W (hl.grew hg) hz hn)
    have HHO2 := Lib.hid (fun W (hg : Grew w W) => rhold_any v l i n m W (hl.grew hg) hz hn)
    have HFR := Lib.hid (fun W (hg : Grew w W) => free_any v l m n W (hl.grew hg) hz hn)
    have HFR2 := Lib.hid (fun W (hg : Grew w W) => rfree_any v l m n W (hl.grew hg) hz hn)
    have HHE := Lib.hid (fun W (hg : Grew w W) => held_any l n v W (hl.grew hg) hn)
    have HHE2 := Lib.hid (fun W (hg : Grew w W) => rheld_any v l n W (hl.grew hg) hn)
    have HLY := Lib.hid (fun W (hg : Grew w W) => lying_any l a b v W (hl.grew hg) hn)
    have HLY2 := Lib.hid (fun W (hg : Grew w W) => rlying_any v l a b W (hl.grew hg) hn)
    have HSAME := Lib.hid (fun W v1 v2 R (h1 : Its W v1 R) (h2 : Its W v2 R) => same_refl v1 v2 R W h1 h2)
    have HINT := Lib.hid (fun W v1 v2 R (h1 : Is W v1 R) (h2 : Is W v2 R) => ints_refl v1 v2 R W h1 h2)
    have HX := Lib.hid hl
    generalize makeP l s n = r1 at *
    generalize scrapP l i n = r2 at *
    generalize moveP l i (hand n) (floor a b) = r3 at *
    generalize moveP l i (floor a b) (hand n) = r4 at *
    generalize moveP l i (hand n) (hand m) = r5 at *
    generalize moveP l i (hand n) (deal m) = r6 at *
    generalize freeP l m n = r7 at *
    generalize okL l = p at *
    generalize slotsOf l (hand n) = s1 at *
    generalize slotsOf l (floor a b) = s2 at *
    obtain ⟨R1, k1, x1⟩ := r1
    obtain ⟨R2, x2⟩ := r2
    obtain ⟨R3, x3⟩ := r3
    obtain ⟨R4, x4⟩ := r4
    obtain ⟨R5, x5⟩ := r5
    obtain ⟨R6, x6⟩ := r6
    obtain ⟨R7, x7⟩ := r7
    have HAPP := Lib.hid hr
    have HWAS := Lib.hid hi
    have G2 := Lib.hid (g0.trans hg)
    have B2 := Lib.hid (keepB B0.out hg)
    obtain ⟨A, c, rfl, _⟩ := hl.slice
    obtain ⟨Aw, cw, rfl, _⟩ := hi.slice
    clear hl hz hs hn h2 g0 hr hi hg B0
    go_enter Try.func5, Try.ntmps5
    go_upto_region 5 with (at_builtin; refine wpList_app_want (.tmp 24) (.tmp 25) 46 (by rfl) (by rfl) _ _ rfl rfl (.slice Aw l.length cw) w2 (by exact HAPP.out) ?_)
    clear HAPP
    go_wp2_with fail
    refine (HMK.out _ G2.out).mono ?_
    rintro e w3 ha
    obtain ⟨A3, c3, rfl, hi, hg⟩ := ans_slice3 ha
    have HA1 := Lib.hid hi
    have G3 := Lib.hid (G2.out.trans hg)
    have B3 := Lib.hid (keepB B2.out hg)
    replace HWAS := Lib.hid (HWAS.out.grew hg)
    clear ha hi hg
    go_wp2_with fail
    refine (HMK2.out _ G3.out).mono ?_
    rintro e w4 ha
    obtain ⟨A4, c4, rfl, hi, hg⟩ := ans_slice3 ha
    have HB1 := Lib.hid hi
    have G4 := Lib.hid (G3.out.trans hg)
    have B4 := Lib.hid (keepB B3.out hg)
    replace HA1 := Lib.hid (HA1.out.grew hg)
    replace HWAS := Lib.hid (HWAS.out.grew hg)
    clear ha hi hg
    go_wp2_with fail
    refine (HSAME.out _ _ _ _ HA1.out HB1.out).mono ?_
    rintro e w5 ⟨rfl, hg⟩
    have G5 := Lib.hid (G4.out.trans hg)
    have B5 := Lib.hid (keepB B4.out hg)
    replace HWAS := Lib.hid (HWAS.out.grew hg)
    clear hg HA1 HB1 HMK HMK2
    go_wp2_with fail
    refine (HRI.out _ G5.out).mono ?_
    rintro e w6 ⟨rfl, hg⟩
    have G6 := Lib.hid (G5.out.trans hg)
    have B6 := Lib.hid (keepB B5.out hg)
    replace HWAS := Lib.hid (HWAS.out.grew hg)
    clear hg
    go_wp2_with fail
    refine (HRI2.out _ G6.out).mono ?_
    rintro e w7 ⟨rfl, hg⟩
    have G7 := Lib.hid (G6.out.trans hg)
    have B7 := Lib.hid (keepB B6.out hg)
    replace HWAS := Lib.hid (HWAS.out.grew hg)
    clear hg HRI HRI2
    go_wp2_with fail
    refine (HSC.out _ G7.out).mono ?_
    rintro e w8 ha
    obtain ⟨A8, c8, rfl, hi, hg⟩ := ans_slice ha
    have HA1 := Lib.hid hi
    have G8 := Lib.hid (G7.out.trans hg)
    have B8 := Lib.hid (keepB B7.out hg)
    replace HWAS := Lib.hid (HWAS.out.grew hg)
    clear ha hi hg
    go_wp2_with fail
    refine (HSC2.out _ G8.out).mono ?_
    rintro e w9 ha
    obtain ⟨A9, c9, rfl, hi, hg⟩ := ans_slice ha
    have HB1 := Lib.hid hi
    have G9 := Lib.hid (G8.out.trans hg)
    have B9 := Lib.hid (keepB B8.out hg)
    replace HA1 := Lib.hid (HA1.out.grew hg)
    replace HWAS := Lib.hid (HWAS.out.grew hg)
    clear ha hi hg
    go_wp2_with fail
    refine (HSAME.out _ _ _ _ HA1.out HB1.out).mono ?_
    rintro e w10 ⟨rfl, hg⟩
    have G10 := Lib.hid (G9.out.trans hg)
    have B10 := Lib.hid (keepB B9.out hg)
    replace HWAS := Lib.hid (HWAS.out.grew hg)
    clear hg HA1 HB1 HSC HSC2
    obtain ⟨b0, b1⟩ := ref2 B10.out
    go_wp2_with fail
    refine (HDR.out _ G10.out).mono ?_
    rintro e w11 ha
    obtain ⟨A11, c11, rfl, hi, hg⟩ := ans_slice ha
    have HA1 := Lib.hid hi
    have G11 := Lib.hid (G10.out.trans hg)
    have B11 := Lib.hid (keepB B10.out hg)
    clear b0 b1
    replace HWAS := Lib.hid (HWAS.out.grew hg)
    clear ha hi hg
    obtain ⟨b0, b1⟩ := ref2 B11.out
    go_wp2_with fail
    refine (HDR2.out _ G11.out).mono ?_
    rintro e w12 ha
    obtain ⟨A12, c12, rfl, hi, hg⟩ := ans_slice ha
    have HB1 := Lib.hid hi
    have G12 := Lib.hid (G11.out.trans hg)
    have B12 := Lib.hid (keepB B11.out hg)
    clear b0 b1
    replace HA1 := Lib.hid (HA1.out.grew hg)
    replace HWAS := Lib.hid (HWAS.out.grew hg)
    clear ha hi hg
    go_wp2_with fail
    refine (HSAME.out _ _ _ _ HA1.out HB1.out).mono ?_
    rintro e w13 ⟨rfl, hg⟩
    have G13 := Lib.hid (G12.out.trans hg)
    have B13 := Lib.hid (keepB B12.out hg)
    replace HWAS := Lib.hid (HWAS.out.grew hg)
    clear hg HA1 HB1 HDR HDR2
    obtain ⟨b0, b1⟩ := ref2 B13.out
    go_wp2_with fail
    refine (HTK.out _ G13.out).mono ?_
    rintro e w14 ha
    obtain ⟨A14, c14, rfl, hi, hg⟩ := ans_slice ha
    have HA1 := Lib.hid hi
    have G14 := Lib.hid (G13.out.trans hg)
    have B14 := Lib.hid (keepB B13.out hg)
    clear b0 b1
    replace HWAS := Lib.hid (HWAS.out.grew hg)
    clear ha hi hg
    obtain ⟨b0, b1⟩ := ref2 B14.out
    go_wp2_with fail
    refine (HTK2.out _ G14.out).mono ?_
    rintro e w15 ha
    obtain ⟨A15, c15, rfl, hi, hg⟩ := ans_slice ha
    have HB1 := Lib.hid hi
    have G15 := Lib.hid (G14.out.trans hg)
    have B15 := Lib.hid (keepB B14.out hg)
    clear b0 b1
    replace HA1 := Lib.hid (HA1.out.grew hg)
    replace HWAS := Lib.hid (HWAS.out.grew hg)
    clear ha hi hg
    go_wp2_with fail
    refine (HSAME.out _ _ _ _ HA1.out HB1.out).mono ?_
    rintro e w16 ⟨rfl, hg⟩
    have G16 := Lib.hid (G15.out.trans hg)
    have B16 := Lib.hid (keepB B15.out hg)
    replace HWAS := Lib.hid (HWAS.out.grew hg)
    clear hg HA1 HB1 HTK HTK2
    go_wp2_with fail
    refine (HPA.out _ G16.out).mono ?_
    rintro e w17 ha
    obtain ⟨A17, c17, rfl, hi, hg⟩ := ans_slice ha
    have HA1 := Lib.hid hi
    have G17 := Lib.hid (G16.out.trans hg)
    have B17 := Lib.hid (keepB B16.out hg)
    replace HWAS := Lib.hid (HWAS.out.grew hg)
    clear ha hi hg
    go_wp2_with fail
    refine (HPA2.out _ G17.out).mono ?_
    rintro e w18 ha
    obtain ⟨A18, c18, rfl, hi, hg⟩ := ans_slice ha
    have HB1 := Lib.hid hi
    have G18 := Lib.hid (G17.out.trans hg)
    have B18 := Lib.hid (keepB B17.out hg)
    replace HA1 := Lib.hid (HA1.out.grew hg)
    replace HWAS := Lib.hid (HWAS.out.grew hg)
    clear ha hi hg
    go_wp2_with fail
    refine (HSAME.out _ _ _ _ HA1.out HB1.out).mono ?_
    rintro e w19 ⟨rfl, hg⟩
    have G19 := Lib.hid (G18.out.trans hg)
    have B19 := Lib.hid (keepB B18.out hg)
    replace HWAS := Lib.hid (HWAS.out.grew hg)
    clear hg HA1 HB1 HPA HPA2
    go_wp2_with fail
    refine (HHO.out _ G19.out).mono ?_
    rintro e w20 ha
    obtain ⟨A20, c20, rfl, hi, hg⟩ := ans_slice ha
    have HA1 := Lib.hid hi
    have G20 := Lib.hid (G19.out.trans hg)
    have B20 := Lib.hid (keepB B19.out hg)
    replace HWAS := Lib.hid (HWAS.out.grew hg)
    clear ha hi hg
    go_wp2_with fail
    refine (HHO2.out _ G20.out).mono ?_
    rintro e w21 ha
    obtain ⟨A21, c21, rfl, hi, hg⟩ := ans_slice ha
    have HB1 := Lib.hid hi
    have G21 := Lib.hid (G20.out.trans hg)
    have B21 := Lib.hid (keepB B20.out hg)
    replace HA1 := Lib.hid (HA1.out.grew hg)
    replace HWAS := Lib.hid (HWAS.out.grew hg)
    clear ha hi hg
    go_wp2_with fail
    refine (HSAME.out _ _ _ _ HA1.out HB1.out).mono ?_
    rintro e w22 ⟨rfl, hg⟩
    have G22 := Lib.hid (G21.out.trans hg)
    have B22 := Lib.hid (keepB B21.out hg)
    replace HWAS := Lib.hid (HWAS.out.grew hg)
    clear hg HA1 HB1 HHO HHO2
    go_wp2_with fail
    refine (HFR.out _ G22.out).mono ?_
    rintro e w23 ha
    obtain ⟨A23, c23, rfl, hi, hg⟩ := ans_slice ha
    have HA1 := Lib.hid hi
    have G23 := Lib.hid (G22.out.trans hg)
    have B23 := Lib.hid (keepB B22.out hg)
    replace HWAS := Lib.hid (HWAS.out.grew hg)
    clear ha hi hg
    go_wp2_with fail
    refine (HFR2.out _ G23.out).mono ?_
    rintro e w24 ha
    obtain ⟨A24, c24, rfl, hi, hg⟩ := ans_slice ha
    have HB1 := Lib.hid hi
    have G24 := Lib.hid (G23.out.trans hg)
    have B24 := Lib.hid (keepB B23.out hg)
    replace HA1 := Lib.hid (HA1.out.grew hg)
    replace HWAS := Lib.hid (HWAS.out.grew hg)
    clear ha hi hg
    obtain ⟨b0, b1⟩ := ref2 B24.out
    go_wp2
    refine Facts.wp_region_text (by kernel_rfl) (by kernel_rfl) ?_
    apply Facts.Lex.exact [] _ (by kernel_rfl)
    · intro u W hC _
      unfold Facts.one
      go_simp
      exact ((HAL.out W).mono fun e w' ⟨he, hg⟩ => ⟨_, he, hg, rfl⟩)
    simp only [Act.put, List.setIfInBounds_toArray, List.set_cons_zero, List.set_cons_succ, Nat.zero_add]
    iterate 3
      apply Facts.Lex.exact [] _ (by kernel_rfl)
      · intro u W hC _
        unfold Facts.one
        go_simp
        first | exact ⟨Grew.refl _, rfl⟩ | rfl
      simp only [Act.put, List.setIfInBounds_toArray, List.set_cons_zero, List.set_cons_succ, Nat.reduceAdd]
    apply Facts.Lex.exact [] _ (by kernel_rfl)
    · intro u W hC _
      unfold Facts.one
      go_simp
      exact ((HSAME.out W _ _ _ (HA1.out.grew hC) (HB1.out.grew hC)).mono fun e w' ⟨he, hg⟩ => ⟨_, he, hg, rfl⟩)
    simp only [Act.put, List.setIfInBounds_toArray, List.set_cons_zero, List.set_cons_succ, Nat.reduceAdd]
    iterate 9
      apply Facts.Lex.exact [] _ (by kernel_rfl)
      · intro u W hC _
        unfold Facts.one
        go_simp
        first | exact ⟨Grew.refl _, rfl⟩ | rfl
      simp only [Act.put, List.setIfInBounds_toArray, List.set_cons_zero, List.set_cons_succ, Nat.reduceAdd]
    refine Facts.Lex.know [] (fun v w => Is w v s1) (by kernel_rfl) (fun _ _ _ h hg => h.grew hg) ?_ ?_
    · intro u W hC hK
      have HC9 := Lib.hid (HHE.out W (G24.out.trans hC))
      clear hK
      unfold Facts.one
      go_simp
      refine HC9.out.mono ?_
      rintro e w' ⟨V, rfl, hi, hg⟩
      exact ⟨_, rfl, hg, hi.is⟩
    simp only [Act.put, List.setIfInBounds_toArray, List.set_cons_zero, List.set_cons_succ, Nat.reduceAdd]
    iterate 2
      apply Facts.Lex.exact [] _ (by kernel_rfl)
      · intro u W hC _
        unfold Facts.one
        go_simp
        first | exact ⟨Grew.refl _, rfl⟩ | rfl
      simp only [Act.put, List.setIfInBounds_toArray, List.set_cons_zero, List.set_cons_succ, Nat.reduceAdd]
    refine Facts.Lex.know [] (fun v w => Is w v s1) (by kernel_rfl) (fun _ _ _ h hg => h.grew hg) ?_ ?_
    · intro u W hC hK
      have HC9 := Lib.hid (HHE2.out W (G24.out.trans hC))
      clear hK
      unfold Facts.one
      go_simp
      refine HC9.out.mono ?_
      rintro e w' ⟨V, rfl, hi, hg⟩
      exact ⟨_, rfl, hg, hi⟩
    simp only [Act.put, List.setIfInBounds_toArray, List.set_cons_zero, List.set_cons_succ, Nat.reduceAdd]
    apply Facts.Lex.exact [14, 17] _ (by kernel_rfl)
    · intro u W hC hK
      have H2 : Is W (u 17) s1 := hK.1
      have H1 : Is W (u 14) s1 := hK.2.1
      have HC9 := Lib.hid (HINT.out W _ _ _ H1 H2)
      clear hK H1 H2
      unfold Facts.one
      go_simp
      exact (HC9.out.mono fun e w' ⟨he, hg⟩ => ⟨_, he, hg, rfl⟩)
    simp only [Act.put, List.setIfInBounds_toArray, List.set_cons_zero, List.set_cons_succ, Nat.reduceAdd]
    iterate 3
      apply Facts.Lex.exact [] _ (by kernel_rfl)
      · intro u W hC _
        unfold Facts.one
        go_simp
        first | exact ⟨Grew.refl _, rfl⟩ | rfl
      simp only [Act.put, List.setIfInBounds_toArray, List.set_cons_zero, List.set_cons_succ, Nat.reduceAdd]
    apply Facts.Lex.exact [] _ (by kernel_rfl)
    · intro u W hC _
      have j0 := cellB hC b0
      have j1 := cellB hC b1
      unfold Facts.one
      go_simp
      first | exact ⟨Grew.refl _, rfl⟩ | rfl
    simp only [Act.put, List.setIfInBounds_toArray, List.set_cons_zero, List.set_cons_succ, Nat.reduceAdd]
    refine Facts.Lex.know [] (fun v w => Is w v s2) (by kernel_rfl) (fun _ _ _ h hg => h.grew hg) ?_ ?_
    · intro u W hC hK
      have HC9 := Lib.hid (HLY.out W (G24.out.trans hC))
      clear hK
      unfold Facts.one
      go_simp
      refine HC9.out.mono ?_
      rintro e w' ⟨V, rfl, hi, hg⟩
      exact ⟨_, rfl, hg, hi.is⟩
    simp only [Act.put, List.setIfInBounds_toArray, List.set_cons_zero, List.set_cons_succ, Nat.reduceAdd]
    apply Facts.Lex.exact [] _ (by kernel_rfl)
    · intro u W hC _
      unfold Facts.one
      go_simp
      first | exact ⟨Grew.refl _, rfl⟩ | rfl
    simp only [Act.put, List.setIfInBounds_toArray, List.set_cons_zero, List.set_cons_succ, Nat.reduceAdd]
    apply Facts.Lex.exact [] _ (by kernel_rfl)
    · intro u W hC _
      have j0 := cellB hC b0
      have j1 := cellB hC b1
      unfold Facts.one
      go_simp
      first | exact ⟨Grew.refl _, rfl⟩ | rfl
    simp only [Act.put, List.setIfInBounds_toArray, List.set_cons_zero, List.set_cons_succ, Nat.reduceAdd]
    refine Facts.Lex.know [] (fun v w => Is w v s2) (by kernel_rfl) (fun _ _ _ h hg => h.grew hg) ?_ ?_
    · intro u W hC hK
      have HC9 := Lib.hid (HLY2.out W (G24.out.trans hC))
      clear hK
      unfold Facts.one
      go_simp
      refine HC9.out.mono ?_
      rintro e w' ⟨V, rfl, hi, hg⟩
      exact ⟨_, rfl, hg, hi⟩
    simp only [Act.put, List.setIfInBounds_toArray, List.set_cons_zero, List.set_cons_succ, Nat.reduceAdd]
    apply Facts.Lex.exact [23, 26] _ (by kernel_rfl)
    · intro u W hC hK
      have H2 : Is W (u 26) s2 := hK.1
      have H1 : Is W (u 23) s2 := hK.2.1
      have HC9 := Lib.hid (HINT.out W _ _ _ H1 H2)
      clear hK H1 H2
      unfold Facts.one
      go_simp
      exact (HC9.out.mono fun e w' ⟨he, hg⟩ => ⟨_, he, hg, rfl⟩)
    simp only [Act.put, List.setIfInBounds_toArray, List.set_cons_zero, List.set_cons_succ, Nat.reduceAdd]
    iterate 4
      apply Facts.Lex.exact [] _ (by kernel_rfl)
      · intro u W hC _
        unfold Facts.one
        go_simp
        first | exact ⟨Grew.refl _, rfl⟩ | rfl
      simp only [Act.put, List.setIfInBounds_toArray, List.set_cons_zero, List.set_cons_succ, Nat.reduceAdd]
    apply Facts.Lex.exact [] _ (by kernel_rfl)
    · intro u W hC _
      unfold Facts.one
      go_simp
      exact ((HSAME.out W _ _ _ (HX.out.grew (G24.out.trans hC)) (HWAS.out.grew hC)).mono fun e w' ⟨he, hg⟩ => ⟨_, he, hg, rfl⟩)
    simp only [Act.put, List.setIfInBounds_toArray, List.set_cons_zero, List.set_cons_succ, Nat.reduceAdd]
    iterate 2
      apply Facts.Lex.exact [] _ (by kernel_rfl)
      · intro u W hC _
        unfold Facts.one
        go_simp
        first | exact ⟨Grew.refl _, rfl⟩ | rfl
      simp only [Act.put, List.setIfInBounds_toArray, List.set_cons_zero, List.set_cons_succ, Nat.reduceAdd]
    refine Facts.Lex.done fun u W2 hC hL => ?_
    have GZ := Lib.hid (G24.out.trans hC)
    clear hC hL b0 b1
    go_wp2
    go_returns
    exact ⟨rfl, GZ.out⟩
end Go.Proofs.Ytaolallfmjjoeaa.DG
