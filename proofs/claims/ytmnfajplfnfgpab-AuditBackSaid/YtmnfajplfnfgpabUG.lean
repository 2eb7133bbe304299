/-
  Add, by the document.
  Conditions: those that each lemma names.
-/
import Derived.Test.YtmnfajplfnfgpabUF
namespace Go.Proofs.Ytmnfajplfnfgpab.UG
set_option maxRecDepth 100000
open Go Go.RowKit Go.Lib Go.Proofs.Ytmnfajplfnfgpab Go.Proofs.Ytmnfajplfnfgpab.Facts Go.Proofs.Ytmnfajplfnfgpab.Ints Go.Proofs.Ytmnfajplfnfgpab.PA Go.Proofs.Ytmnfajplfnfgpab.UA Go.Proofs.Ytmnfajplfnfgpab.UM Go.Proofs.Ytmnfajplfnfgpab.UB Go.Proofs.Ytmnfajplfnfgpab.UC Go.Proofs.Ytmnfajplfnfgpab.UD Go.Proofs.Ytmnfajplfnfgpab.UE Go.Proofs.Ytmnfajplfnfgpab.UF Go.Proofs.Ytmnfajplfnfgpab.Bytes


theorem ee_snoc_lt (l : List En) (x : En) {k : Nat} (h : k < l.length) : ee (l ++ [x]) k = ee l k := by
  unfold ee
  rw [List.getElem?_append_left h]
theorem ee_snoc_at (l : List En) (x : En) : ee (l ++ [x]) l.length = x := by
  unfold ee
  rw [List.getElem?_append_right (Nat.le_refl _)]
  simp
theorem step_snoc (l : List En) (x : En) {k : Nat} (h : k < l.length) : stepB (l ++ [x]) k = stepB l k := by
  unfold stepB
  rw [ee_snoc_lt l x h, ee_snoc_lt l x (k := k - 1) (by omega)]
theorem right_snoc (l : List En) (x : En) : rightL (l ++ [x]) = (rightL l && (okE x && (decide (l.length = 0) || behE (ee l (l.length - 1)) x))) := by
  unfold rightL
  rw [List.length_append, List.length_singleton, List.range_succ, List.all_append]
  congr 1
  · rw [Bool.eq_iff_iff, List.all_eq_true, List.all_eq_true]
    refine forall_congr' fun k => forall_congr' fun hk => ?_
    rw [step_snoc l x (List.mem_range.1 hk)]
  · rw [List.all_cons, List.all_nil, Bool.and_true]
    unfold stepB
    rw [ee_snoc_at]
    by_cases h : l.length = 0
    · simp [h]
    · rw [ee_snoc_lt l x (k := l.length - 1) (by omega)]
set_option maxHeartbeats 8000000 in
theorem radd_any (v : Value) (l : List En) (most : Int) (x : En) (w : World) (h : Ens w v l) (hz : SzL l) (hx : SzE x) (hl : (l.length + 1) * 80 ≤ 140737488355328) :
    Calls Try.prog 7 #[v, .int .i64 most, env x] w (AnsE (addP l most x) w) := by
  have HL := Lib.hid h
  have HLL := Lib.hid hl
  have HRT := Lib.hid (fun W (hg : Grew w W) => rright_any v l W (h.grew hg) hz (by omega))
  have HMY := Lib.hid (rmay_any x hx)
  have HBA := Lib.hid (fun m => rbehind_any (ee l m) x)
  have hlm : l.length ≤ 4611686018427387904 := by omega
  have hadd : addP l most x = if (rightL l && (okE x && (decide (l.length = 0) || behE (ee l (l.length - 1)) x))) = false then ([], 1) else if most ≤ (l.length : Int) then ([], 8) else (l ++ [x], 0) := by unfold addP; rw [right_snoc]
  rw [hadd]
  clear hadd
  obtain ⟨A, c, rfl, _⟩ := h.slice
  obtain ⟨r, ln, lb, wh, sd, bs, qt, qn, pr, st⟩ := x
  unfold env at *
  simp only at HMY HBA ⊢
  have BX := Lib.hid (blk_new w (.cells #[.int .u64 (r : Int), .int .i64 ln, .int .i64 lb, .int .i64 wh, .int .i64 sd, .int .i64 bs, .int .i64 qt, .int .u64 (qn : Int), .int .u64 (pr : Int), .int .i64 st] 25))
  have GA : Hid (Grew w (w.alloc (.cells #[.int .u64 (r : Int), .int .i64 ln, .int .i64 lb, .int .i64 wh, .int .i64 sd, .int .i64 bs, .int .i64 qt, .int .u64 (qn : Int), .int .u64 (pr : Int), .int .i64 st] 25))) := Lib.hid (by unfold Grew; go_grown)
  clear h hz hx hl
  cases hr : rightL l with
  | false =>
    rw [hr] at HRT
    rw [if_pos (by simp)]
    clear hr hlm HBA
    go_enter Try.func7, Try.ntmps7
    go_wp2
    refine Facts.wp_region_text (by kernel_rfl) (by kernel_rfl) ?_
    apply Facts.Lex.exact [] _ (by kernel_rfl)
    · intro u W hC _
      have hb := ten_c (blk_keep BX.out hC)
      obtain ⟨b0, b1, b2, b3, b4, b5, b6, b7, b8, b9⟩ := hb
      unfold Facts.one
      go_simp
      first | exact ⟨Grew.refl _, rfl⟩ | rfl
    simp only [Act.put, List.setIfInBounds_toArray, List.set_cons_zero, List.set_cons_succ, Nat.zero_add]
    apply Facts.Lex.exact [] _ (by kernel_rfl)
    · intro u W hC _
      unfold Facts.one
      go_simp
      exact ((HRT.out W (GA.out.trans hC)).mono fun e w' ⟨he, hg⟩ => ⟨_, he, hg, rfl⟩)
    simp only [Act.put, List.setIfInBounds_toArray, List.set_cons_zero, List.set_cons_succ, Nat.reduceAdd]
    repeat
      apply Facts.Lex.exact [] _ (by kernel_rfl)
      · intro u W hC _
        have hb := ten_c (blk_keep BX.out hC)
        obtain ⟨b0, b1, b2, b3, b4, b5, b6, b7, b8, b9⟩ := hb
        unfold Facts.one
        go_simp
        first | exact ⟨Grew.refl _, rfl⟩ | rfl
      simp only [Act.put, List.setIfInBounds_toArray, List.set_cons_zero, List.set_cons_succ, Nat.reduceAdd]

    refine Facts.Lex.done fun u W2 hC hL => ?_
    have G2 := Lib.hid (GA.out.trans hC)
    have HL2 := Lib.hid (HL.out.grew G2.out)
    have BX2 := Lib.hid (blk_keep BX.out hC)
    clear hC hL
    go_wp2
    go_returns
    exact ⟨_, rfl, rw_none _, G2.out⟩

  | true =>
    rw [hr] at HRT
    rw [Bool.true_and]
    clear hr
    cases ho : okE ⟨r, ln, lb, wh, sd, bs, qt, qn, pr, st⟩ with
    | false =>
      rw [ho] at HMY
      rw [if_pos (by simp)]
      clear ho hlm HBA
      go_enter Try.func7, Try.ntmps7
      go_wp2
      refine Facts.wp_region_text (by kernel_rfl) (by kernel_rfl) ?_
      apply Facts.Lex.exact [] _ (by kernel_rfl)
      · intro u W hC _
        have hb := ten_c (blk_keep BX.out hC)
        obtain ⟨b0, b1, b2, b3, b4, b5, b6, b7, b8, b9⟩ := hb
        unfold Facts.one
        go_simp
        first | exact ⟨Grew.refl _, rfl⟩ | rfl
      simp only [Act.put, List.setIfInBounds_toArray, List.set_cons_zero, List.set_cons_succ, Nat.zero_add]
      apply Facts.Lex.exact [] _ (by kernel_rfl)
      · intro u W hC _
        unfold Facts.one
        go_simp
        exact ((HRT.out W (GA.out.trans hC)).mono fun e w' ⟨he, hg⟩ => ⟨_, he, hg, rfl⟩)
      simp only [Act.put, List.setIfInBounds_toArray, List.set_cons_zero, List.set_cons_succ, Nat.reduceAdd]
      iterate 3
        apply Facts.Lex.exact [] _ (by kernel_rfl)
        · intro u W hC _
          have hb := ten_c (blk_keep BX.out hC)
          obtain ⟨b0, b1, b2, b3, b4, b5, b6, b7, b8, b9⟩ := hb
          unfold Facts.one
          go_simp
          first | exact ⟨Grew.refl _, rfl⟩ | rfl
        simp only [Act.put, List.setIfInBounds_toArray, List.set_cons_zero, List.set_cons_succ, Nat.reduceAdd]
      apply Facts.Lex.exact [] _ (by kernel_rfl)
      · intro u W hC _
        unfold Facts.one
        go_simp
        exact ((HMY.out W).mono fun e w' ⟨he, hg⟩ => ⟨_, he, hg, rfl⟩)
      simp only [Act.put, List.setIfInBounds_toArray, List.set_cons_zero, List.set_cons_succ, Nat.reduceAdd]
      repeat
        apply Facts.Lex.exact [] _ (by kernel_rfl)
        · intro u W hC _
          have hb := ten_c (blk_keep BX.out hC)
          obtain ⟨b0, b1, b2, b3, b4, b5, b6, b7, b8, b9⟩ := hb
          unfold Facts.one
          go_simp
          first | exact ⟨Grew.refl _, rfl⟩ | rfl
        simp only [Act.put, List.setIfInBounds_toArray, List.set_cons_zero, List.set_cons_succ, Nat.reduceAdd]

      refine Facts.Lex.done fun u W2 hC hL => ?_
      have G2 := Lib.hid (GA.out.trans hC)
      have HL2 := Lib.hid (HL.out.grew G2.out)
      have BX2 := Lib.hid (blk_keep BX.out hC)
      clear hC hL
      go_wp2
      go_returns
      exact ⟨_, rfl, rw_none _, G2.out⟩

    | true =>
      rw [ho] at HMY
      rw [Bool.true_and]
      clear ho
      by_cases h0 : l.length = 0
      · rw [decide_eq_true h0, Bool.true_or, if_neg (by decide)]
        have hgt : decide ((0 : Int) < (l.length : Int)) = false := decide_eq_false (by omega)
        have hgt2 : decide (0 < l.length) = false := decide_eq_false (by omega)
        clear HBA h0 hlm
        by_cases hm : most ≤ (l.length : Int)
        · rw [if_pos hm]
          go_enter Try.func7, Try.ntmps7
          go_wp2
          refine Facts.wp_region_text (by kernel_rfl) (by kernel_rfl) ?_
          apply Facts.Lex.exact [] _ (by kernel_rfl)
          · intro u W hC _
            have hb := ten_c (blk_keep BX.out hC)
            obtain ⟨b0, b1, b2, b3, b4, b5, b6, b7, b8, b9⟩ := hb
            unfold Facts.one
            go_simp
            first | exact ⟨Grew.refl _, rfl⟩ | rfl
          simp only [Act.put, List.setIfInBounds_toArray, List.set_cons_zero, List.set_cons_succ, Nat.zero_add]
          apply Facts.Lex.exact [] _ (by kernel_rfl)
          · intro u W hC _
            unfold Facts.one
            go_simp
            exact ((HRT.out W (GA.out.trans hC)).mono fun e w' ⟨he, hg⟩ => ⟨_, he, hg, rfl⟩)
          simp only [Act.put, List.setIfInBounds_toArray, List.set_cons_zero, List.set_cons_succ, Nat.reduceAdd]
          iterate 3
            apply Facts.Lex.exact [] _ (by kernel_rfl)
            · intro u W hC _
              have hb := ten_c (blk_keep BX.out hC)
              obtain ⟨b0, b1, b2, b3, b4, b5, b6, b7, b8, b9⟩ := hb
              unfold Facts.one
              go_simp
              first | exact ⟨Grew.refl _, rfl⟩ | rfl
            simp only [Act.put, List.setIfInBounds_toArray, List.set_cons_zero, List.set_cons_succ, Nat.reduceAdd]
          apply Facts.Lex.exact [] _ (by kernel_rfl)
          · intro u W hC _
            unfold Facts.one
            go_simp
            exact ((HMY.out W).mono fun e w' ⟨he, hg⟩ => ⟨_, he, hg, rfl⟩)
          simp only [Act.put, List.setIfInBounds_toArray, List.set_cons_zero, List.set_cons_succ, Nat.reduceAdd]
          repeat
            apply Facts.Lex.exact [] _ (by kernel_rfl)
            · intro u W hC _
              have hb := ten_c (blk_keep BX.out hC)
              obtain ⟨b0, b1, b2, b3, b4, b5, b6, b7, b8, b9⟩ := hb
              unfold Facts.one
              go_simp
              first | exact ⟨Grew.refl _, rfl⟩ | rfl
            simp only [Act.put, List.setIfInBounds_toArray, List.set_cons_zero, List.set_cons_succ, Nat.reduceAdd]

          refine Facts.Lex.done fun u W2 hC hL => ?_
          have G2 := Lib.hid (GA.out.trans hC)
          have HL2 := Lib.hid (HL.out.grew G2.out)
          have BX2 := Lib.hid (blk_keep BX.out hC)
          clear hC hL

          go_wp2
          go_returns
          exact ⟨_, rfl, rw_none _, G2.out⟩
        · have hm' : decide (most ≤ (l.length : Int)) = false := decide_eq_false hm
          rw [if_neg hm]
          clear hm
          go_enter Try.func7, Try.ntmps7
          go_wp2
          refine Facts.wp_region_text (by kernel_rfl) (by kernel_rfl) ?_
          apply Facts.Lex.exact [] _ (by kernel_rfl)
          · intro u W hC _
            have hb := ten_c (blk_keep BX.out hC)
            obtain ⟨b0, b1, b2, b3, b4, b5, b6, b7, b8, b9⟩ := hb
            unfold Facts.one
            go_simp
            first | exact ⟨Grew.refl _, rfl⟩ | rfl
          simp only [Act.put, List.setIfInBounds_toArray, List.set_cons_zero, List.set_cons_succ, Nat.zero_add]
          apply Facts.Lex.exact [] _ (by kernel_rfl)
          · intro u W hC _
            unfold Facts.one
            go_simp
            exact ((HRT.out W (GA.out.trans hC)).mono fun e w' ⟨he, hg⟩ => ⟨_, he, hg, rfl⟩)
          simp only [Act.put, List.setIfInBounds_toArray, List.set_cons_zero, List.set_cons_succ, Nat.reduceAdd]
          iterate 3
            apply Facts.Lex.exact [] _ (by kernel_rfl)
            · intro u W hC _
              have hb := ten_c (blk_keep BX.out hC)
              obtain ⟨b0, b1, b2, b3, b4, b5, b6, b7, b8, b9⟩ := hb
              unfold Facts.one
              go_simp
              first | exact ⟨Grew.refl _, rfl⟩ | rfl
            simp only [Act.put, List.setIfInBounds_toArray, List.set_cons_zero, List.set_cons_succ, Nat.reduceAdd]
          apply Facts.Lex.exact [] _ (by kernel_rfl)
          · intro u W hC _
            unfold Facts.one
            go_simp
            exact ((HMY.out W).mono fun e w' ⟨he, hg⟩ => ⟨_, he, hg, rfl⟩)
          simp only [Act.put, List.setIfInBounds_toArray, List.set_cons_zero, List.set_cons_succ, Nat.reduceAdd]
          repeat
            apply Facts.Lex.exact [] _ (by kernel_rfl)
            · intro u W hC _
              have hb := ten_c (blk_keep BX.out hC)
              obtain ⟨b0, b1, b2, b3, b4, b5, b6, b7, b8, b9⟩ := hb
              unfold Facts.one
              go_simp
              first | exact ⟨Grew.refl _, rfl⟩ | rfl
            simp only [Act.put, List.setIfInBounds_toArray, List.set_cons_zero, List.set_cons_succ, Nat.reduceAdd]

          refine Facts.Lex.done fun u W2 hC hL => ?_
          have G2 := Lib.hid (GA.out.trans hC)
          have HL2 := Lib.hid (HL.out.grew G2.out)
          have BX2 := Lib.hid (blk_keep BX.out hC)
          clear hC hL

          obtain ⟨v1, w1, hr1, hown1, hbl1⟩ := en_appv W2 W2.heap.size (.slice none 0 0) (.slice A l.length c) [] l (own_nilE _ _) HL2.out (by have := HLL.out; simp; omega) (Nat.le_refl _)
          rw [List.nil_append] at hown1
          have HA1 := Lib.hid hr1
          have HO1 := Lib.hid hown1
          have HB1 : Hid (Grew W2 w1) := Lib.hid hbl1
          have BX3 := Lib.hid (blk_keep BX2.out HB1.out)
          obtain ⟨b0, b1, b2, b3, b4, b5, b6, b7, b8, b9⟩ := ten_c BX3.out
          clear hr1 hown1 hbl1
          have ga : Below W2.heap.size w1 (w1.alloc (.cells #[.int .u64 (r : Int), .int .i64 ln, .int .i64 lb, .int .i64 wh, .int .i64 sd, .int .i64 bs, .int .i64 qt, .int .u64 (qn : Int), .int .u64 (pr : Int), .int .i64 st] 25)) := (Below.refl _ _).alloc HB1.out.size _
          obtain ⟨v2, w2, hr2, hown2, hbl2⟩ := en_appv (w1.alloc (.cells #[.int .u64 (r : Int), .int .i64 ln, .int .i64 lb, .int .i64 wh, .int .i64 sd, .int .i64 bs, .int .i64 qt, .int .u64 (qn : Int), .int .u64 (pr : Int), .int .i64 st] 25)) W2.heap.size v1 (.slice (some ⟨w1.heap.size, 0, none⟩) 1 1) l [⟨r, ln, lb, wh, sd, bs, qt, qn, pr, st⟩] (HO1.out.alloc _) (ens_one _ ⟨r, ln, lb, wh, sd, bs, qt, qn, pr, st⟩ w1.heap.size (blk_new w1 _)) HLL.out (by have := HB1.out.size; simp; omega)
          have HA2 := Lib.hid hr2
          have HI2 := Lib.hid (Ens.of_own hown2)
          have GF : Hid (Grew w w2) := Lib.hid (G2.out.trans ((show Below W2.heap.size W2 w1 from HB1.out).trans (ga.trans hbl2)))
          clear hr2 hown2 hbl2 ga
          go_wp2_with (at_builtin; first | refine wpList_app_want (.tmp 37) (.tmp 38) 22 (by rfl) (by rfl) _ _ rfl rfl v1 w1 (by exact HA1.out) ?_ | refine wpList_app_want (.tmp 40) (.tmp 42) 22 (by rfl) (by rfl) _ _ rfl rfl v2 w2 (by exact HA2.out) ?_)
          go_returns
          exact ⟨_, rfl, HI2.out, GF.out⟩

      · rw [decide_eq_false h0, Bool.false_or]
        obtain ⟨m, hkm⟩ : ∃ m, l.length = m + 1 := ⟨l.length - 1, by omega⟩
        have hml : m < l.length := by omega
        rw [show l.length - 1 = m by omega]
        have HBH := Lib.hid (HBA.out m)
        have hs1 : wrap64 ((l.length : Int) - 1) = (m : Int) := by unfold wrap64; omega
        have hs2 : IntKind.i64.wrap ((l.length : Int) - 1) = (m : Int) := by rw [IntKind.wrap_i64]; omega
        have hgt : decide ((0 : Int) < (l.length : Int)) = true := decide_eq_true (by omega)
        have hgt2 : decide (0 < l.length) = true := decide_eq_true (by omega)
        have hm0 : (m : Int) < (l.length : Int) := by omega
        obtain ⟨ad2, c8, e8, _, p0, p1, p2, p3, p4, p5, p6, p7, p8, p9⟩ := Ens_at HL.out (ee_get hml)
        injection e8 with e1 e2 e3
        subst e1 e3
        clear e2 hml HBA h0 hlm hkm
        generalize ee l m = y at *
        obtain ⟨r', ln', lb', wh', sd', bs', qt', qn', pr', st'⟩ := y
        simp only at HBH p0 p1 p2 p3 p4 p5 p6 p7 p8 p9
        generalize behE _ _ = bb at *
        cases bb with
        | false =>
          rw [if_pos rfl]
          go_enter Try.func7, Try.ntmps7
          go_wp2
          refine Facts.wp_region_text (by kernel_rfl) (by kernel_rfl) ?_
          apply Facts.Lex.exact [] _ (by kernel_rfl)
          · intro u W hC _
            have hb := ten_c (blk_keep BX.out hC)
            obtain ⟨b0, b1, b2, b3, b4, b5, b6, b7, b8, b9⟩ := hb
            unfold Facts.one
            go_simp
            first | exact ⟨Grew.refl _, rfl⟩ | rfl
          simp only [Act.put, List.setIfInBounds_toArray, List.set_cons_zero, List.set_cons_succ, Nat.zero_add]
          apply Facts.Lex.exact [] _ (by kernel_rfl)
          · intro u W hC _
            unfold Facts.one
            go_simp
            exact ((HRT.out W (GA.out.trans hC)).mono fun e w' ⟨he, hg⟩ => ⟨_, he, hg, rfl⟩)
          simp only [Act.put, List.setIfInBounds_toArray, List.set_cons_zero, List.set_cons_succ, Nat.reduceAdd]
          iterate 3
            apply Facts.Lex.exact [] _ (by kernel_rfl)
            · intro u W hC _
              have hb := ten_c (blk_keep BX.out hC)
              obtain ⟨b0, b1, b2, b3, b4, b5, b6, b7, b8, b9⟩ := hb
              unfold Facts.one
              go_simp
              first | exact ⟨Grew.refl _, rfl⟩ | rfl
            simp only [Act.put, List.setIfInBounds_toArray, List.set_cons_zero, List.set_cons_succ, Nat.reduceAdd]
          apply Facts.Lex.exact [] _ (by kernel_rfl)
          · intro u W hC _
            unfold Facts.one
            go_simp
            exact ((HMY.out W).mono fun e w' ⟨he, hg⟩ => ⟨_, he, hg, rfl⟩)
          simp only [Act.put, List.setIfInBounds_toArray, List.set_cons_zero, List.set_cons_succ, Nat.reduceAdd]
          repeat
            apply Facts.Lex.exact [] _ (by kernel_rfl)
            · intro u W hC _
              have hb := ten_c (blk_keep BX.out hC)
              obtain ⟨b0, b1, b2, b3, b4, b5, b6, b7, b8, b9⟩ := hb
              have q0 := cellG (GA.out.trans hC) p0
              have q1 := cellG (GA.out.trans hC) p1
              have q2 := cellG (GA.out.trans hC) p2
              have q3 := cellG (GA.out.trans hC) p3
              have q4 := cellG (GA.out.trans hC) p4
              have q5 := cellG (GA.out.trans hC) p5
              have q6 := cellG (GA.out.trans hC) p6
              have q7 := cellG (GA.out.trans hC) p7
              have q8 := cellG (GA.out.trans hC) p8
              have q9 := cellG (GA.out.trans hC) p9
              unfold Facts.one
              go_simp
              first | exact ⟨Grew.refl _, rfl⟩ | rfl
            simp only [Act.put, List.setIfInBounds_toArray, List.set_cons_zero, List.set_cons_succ, Nat.reduceAdd]

          apply Facts.Lex.exact [] _ (by kernel_rfl)
          · intro u W hC _
            unfold Facts.one
            go_simp
            exact ((HBH.out W).mono fun e w' ⟨he, hg⟩ => ⟨_, he, hg, rfl⟩)
          simp only [Act.put, List.setIfInBounds_toArray, List.set_cons_zero, List.set_cons_succ, Nat.reduceAdd]
          repeat
            apply Facts.Lex.exact [] _ (by kernel_rfl)
            · intro u W hC _
              have hb := ten_c (blk_keep BX.out hC)
              obtain ⟨b0, b1, b2, b3, b4, b5, b6, b7, b8, b9⟩ := hb
              unfold Facts.one
              go_simp
              first | exact ⟨Grew.refl _, rfl⟩ | rfl
            simp only [Act.put, List.setIfInBounds_toArray, List.set_cons_zero, List.set_cons_succ, Nat.reduceAdd]

          refine Facts.Lex.done fun u W2 hC hL => ?_
          have G2 := Lib.hid (GA.out.trans hC)
          have HL2 := Lib.hid (HL.out.grew G2.out)
          have BX2 := Lib.hid (blk_keep BX.out hC)
          clear hC hL
          go_wp2
          go_returns
          exact ⟨_, rfl, rw_none _, G2.out⟩

        | true =>
          rw [if_neg (by decide)]
          by_cases hm : most ≤ (l.length : Int)
          · rw [if_pos hm]
            go_enter Try.func7, Try.ntmps7
            go_wp2
            refine Facts.wp_region_text (by kernel_rfl) (by kernel_rfl) ?_
            apply Facts.Lex.exact [] _ (by kernel_rfl)
            · intro u W hC _
              have hb := ten_c (blk_keep BX.out hC)
              obtain ⟨b0, b1, b2, b3, b4, b5, b6, b7, b8, b9⟩ := hb
              unfold Facts.one
              go_simp
              first | exact ⟨Grew.refl _, rfl⟩ | rfl
            simp only [Act.put, List.setIfInBounds_toArray, List.set_cons_zero, List.set_cons_succ, Nat.zero_add]
            apply Facts.Lex.exact [] _ (by kernel_rfl)
            · intro u W hC _
              unfold Facts.one
              go_simp
              exact ((HRT.out W (GA.out.trans hC)).mono fun e w' ⟨he, hg⟩ => ⟨_, he, hg, rfl⟩)
            simp only [Act.put, List.setIfInBounds_toArray, List.set_cons_zero, List.set_cons_succ, Nat.reduceAdd]
            iterate 3
              apply Facts.Lex.exact [] _ (by kernel_rfl)
              · intro u W hC _
                have hb := ten_c (blk_keep BX.out hC)
                obtain ⟨b0, b1, b2, b3, b4, b5, b6, b7, b8, b9⟩ := hb
                unfold Facts.one
                go_simp
                first | exact ⟨Grew.refl _, rfl⟩ | rfl
              simp only [Act.put, List.setIfInBounds_toArray, List.set_cons_zero, List.set_cons_succ, Nat.reduceAdd]
            apply Facts.Lex.exact [] _ (by kernel_rfl)
            · intro u W hC _
              unfold Facts.one
              go_simp
              exact ((HMY.out W).mono fun e w' ⟨he, hg⟩ => ⟨_, he, hg, rfl⟩)
            simp only [Act.put, List.setIfInBounds_toArray, List.set_cons_zero, List.set_cons_succ, Nat.reduceAdd]
            repeat
              apply Facts.Lex.exact [] _ (by kernel_rfl)
              · intro u W hC _
                have hb := ten_c (blk_keep BX.out hC)
                obtain ⟨b0, b1, b2, b3, b4, b5, b6, b7, b8, b9⟩ := hb
                have q0 := cellG (GA.out.trans hC) p0
                have q1 := cellG (GA.out.trans hC) p1
                have q2 := cellG (GA.out.trans hC) p2
                have q3 := cellG (GA.out.trans hC) p3
                have q4 := cellG (GA.out.trans hC) p4
                have q5 := cellG (GA.out.trans hC) p5
                have q6 := cellG (GA.out.trans hC) p6
                have q7 := cellG (GA.out.trans hC) p7
                have q8 := cellG (GA.out.trans hC) p8
                have q9 := cellG (GA.out.trans hC) p9
                unfold Facts.one
                go_simp
                first | exact ⟨Grew.refl _, rfl⟩ | rfl
              simp only [Act.put, List.setIfInBounds_toArray, List.set_cons_zero, List.set_cons_succ, Nat.reduceAdd]

            apply Facts.Lex.exact [] _ (by kernel_rfl)
            · intro u W hC _
              unfold Facts.one
              go_simp
              exact ((HBH.out W).mono fun e w' ⟨he, hg⟩ => ⟨_, he, hg, rfl⟩)
            simp only [Act.put, List.setIfInBounds_toArray, List.set_cons_zero, List.set_cons_succ, Nat.reduceAdd]
            repeat
              apply Facts.Lex.exact [] _ (by kernel_rfl)
              · intro u W hC _
                have hb := ten_c (blk_keep BX.out hC)
                obtain ⟨b0, b1, b2, b3, b4, b5, b6, b7, b8, b9⟩ := hb
                unfold Facts.one
                go_simp
                first | exact ⟨Grew.refl _, rfl⟩ | rfl
              simp only [Act.put, List.setIfInBounds_toArray, List.set_cons_zero, List.set_cons_succ, Nat.reduceAdd]

            refine Facts.Lex.done fun u W2 hC hL => ?_
            have G2 := Lib.hid (GA.out.trans hC)
            have HL2 := Lib.hid (HL.out.grew G2.out)
            have BX2 := Lib.hid (blk_keep BX.out hC)
            clear hC hL

            go_wp2
            go_returns
            exact ⟨_, rfl, rw_none _, G2.out⟩
          · have hm' : decide (most ≤ (l.length : Int)) = false := decide_eq_false hm
            rw [if_neg hm]
            clear hm
            go_enter Try.func7, Try.ntmps7
            go_wp2
            refine Facts.wp_region_text (by kernel_rfl) (by kernel_rfl) ?_
            apply Facts.Lex.exact [] _ (by kernel_rfl)
            · intro u W hC _
              have hb := ten_c (blk_keep BX.out hC)
              obtain ⟨b0, b1, b2, b3, b4, b5, b6, b7, b8, b9⟩ := hb
              unfold Facts.one
              go_simp
              first | exact ⟨Grew.refl _, rfl⟩ | rfl
            simp only [Act.put, List.setIfInBounds_toArray, List.set_cons_zero, List.set_cons_succ, Nat.zero_add]
            apply Facts.Lex.exact [] _ (by kernel_rfl)
            · intro u W hC _
              unfold Facts.one
              go_simp
              exact ((HRT.out W (GA.out.trans hC)).mono fun e w' ⟨he, hg⟩ => ⟨_, he, hg, rfl⟩)
            simp only [Act.put, List.setIfInBounds_toArray, List.set_cons_zero, List.set_cons_succ, Nat.reduceAdd]
            iterate 3
              apply Facts.Lex.exact [] _ (by kernel_rfl)
              · intro u W hC _
                have hb := ten_c (blk_keep BX.out hC)
                obtain ⟨b0, b1, b2, b3, b4, b5, b6, b7, b8, b9⟩ := hb
                unfold Facts.one
                go_simp
                first | exact ⟨Grew.refl _, rfl⟩ | rfl
              simp only [Act.put, List.setIfInBounds_toArray, List.set_cons_zero, List.set_cons_succ, Nat.reduceAdd]
            apply Facts.Lex.exact [] _ (by kernel_rfl)
            · intro u W hC _
              unfold Facts.one
              go_simp
              exact ((HMY.out W).mono fun e w' ⟨he, hg⟩ => ⟨_, he, hg, rfl⟩)
            simp only [Act.put, List.setIfInBounds_toArray, List.set_cons_zero, List.set_cons_succ, Nat.reduceAdd]
            repeat
              apply Facts.Lex.exact [] _ (by kernel_rfl)
              · intro u W hC _
                have hb := ten_c (blk_keep BX.out hC)
                obtain ⟨b0, b1, b2, b3, b4, b5, b6, b7, b8, b9⟩ := hb
                have q0 := cellG (GA.out.trans hC) p0
                have q1 := cellG (GA.out.trans hC) p1
                have q2 := cellG (GA.out.trans hC) p2
                have q3 := cellG (GA.out.trans hC) p3
                have q4 := cellG (GA.out.trans hC) p4
                have q5 := cellG (GA.out.trans hC) p5
                have q6 := cellG (GA.out.trans hC) p6
                have q7 := cellG (GA.out.trans hC) p7
                have q8 := cellG (GA.out.trans hC) p8
                have q9 := cellG (GA.out.trans hC) p9
                unfold Facts.one
                go_simp
                first | exact ⟨Grew.refl _, rfl⟩ | rfl
              simp only [Act.put, List.setIfInBounds_toArray, List.set_cons_zero, List.set_cons_succ, Nat.reduceAdd]

            apply Facts.Lex.exact [] _ (by kernel_rfl)
            · intro u W hC _
              unfold Facts.one
              go_simp
              exact ((HBH.out W).mono fun e w' ⟨he, hg⟩ => ⟨_, he, hg, rfl⟩)
            simp only [Act.put, List.setIfInBounds_toArray, List.set_cons_zero, List.set_cons_succ, Nat.reduceAdd]
            repeat
              apply Facts.Lex.exact [] _ (by kernel_rfl)
              · intro u W hC _
                have hb := ten_c (blk_keep BX.out hC)
                obtain ⟨b0, b1, b2, b3, b4, b5, b6, b7, b8, b9⟩ := hb
                unfold Facts.one
                go_simp
                first | exact ⟨Grew.refl _, rfl⟩ | rfl
              simp only [Act.put, List.setIfInBounds_toArray, List.set_cons_zero, List.set_cons_succ, Nat.reduceAdd]

            refine Facts.Lex.done fun u W2 hC hL => ?_
            have G2 := Lib.hid (GA.out.trans hC)
            have HL2 := Lib.hid (HL.out.grew G2.out)
            have BX2 := Lib.hid (blk_keep BX.out hC)
            clear hC hL

            obtain ⟨v1, w1, hr1, hown1, hbl1⟩ := en_appv W2 W2.heap.size (.slice none 0 0) (.slice (some ad2) l.length c) [] l (own_nilE _ _) HL2.out (by have := HLL.out; simp; omega) (Nat.le_refl _)
            rw [List.nil_append] at hown1
            have HA1 := Lib.hid hr1
            have HO1 := Lib.hid hown1
            have HB1 : Hid (Grew W2 w1) := Lib.hid hbl1
            have BX3 := Lib.hid (blk_keep BX2.out HB1.out)
            obtain ⟨b0, b1, b2, b3, b4, b5, b6, b7, b8, b9⟩ := ten_c BX3.out
            clear hr1 hown1 hbl1
            have ga : Below W2.heap.size w1 (w1.alloc (.cells #[.int .u64 (r : Int), .int .i64 ln, .int .i64 lb, .int .i64 wh, .int .i64 sd, .int .i64 bs, .int .i64 qt, .int .u64 (qn : Int), .int .u64 (pr : Int), .int .i64 st] 25)) := (Below.refl _ _).alloc HB1.out.size _
            obtain ⟨v2, w2, hr2, hown2, hbl2⟩ := en_appv (w1.alloc (.cells #[.int .u64 (r : Int), .int .i64 ln, .int .i64 lb, .int .i64 wh, .int .i64 sd, .int .i64 bs, .int .i64 qt, .int .u64 (qn : Int), .int .u64 (pr : Int), .int .i64 st] 25)) W2.heap.size v1 (.slice (some ⟨w1.heap.size, 0, none⟩) 1 1) l [⟨r, ln, lb, wh, sd, bs, qt, qn, pr, st⟩] (HO1.out.alloc _) (ens_one _ ⟨r, ln, lb, wh, sd, bs, qt, qn, pr, st⟩ w1.heap.size (blk_new w1 _)) HLL.out (by have := HB1.out.size; simp; omega)
            have HA2 := Lib.hid hr2
            have HI2 := Lib.hid (Ens.of_own hown2)
            have GF : Hid (Grew w w2) := Lib.hid (G2.out.trans ((show Below W2.heap.size W2 w1 from HB1.out).trans (ga.trans hbl2)))
            clear hr2 hown2 hbl2 ga
            go_wp2_with (at_builtin; first | refine wpList_app_want (.tmp 37) (.tmp 38) 22 (by rfl) (by rfl) _ _ rfl rfl v1 w1 (by exact HA1.out) ?_ | refine wpList_app_want (.tmp 40) (.tmp 42) 22 (by rfl) (by rfl) _ _ rfl rfl v2 w2 (by exact HA2.out) ?_)
            go_returns
            exact ⟨_, rfl, HI2.out, GF.out⟩

end Go.Proofs.Ytmnfajplfnfgpab.UG
