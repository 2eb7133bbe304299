/-
  AuditTells and AuditReads.
  Conditions: those that each lemma names.
-/
import Derived.Test.YtmnfajplfnfgpabUQ
namespace Go.Proofs.Ytmnfajplfnfgpab.UR
set_option maxRecDepth 100000
open Go Go.RowKit Go.Lib Go.Proofs.Ytmnfajplfnfgpab Go.Proofs.Ytmnfajplfnfgpab.Facts Go.Proofs.Ytmnfajplfnfgpab.Ints Go.Proofs.Ytmnfajplfnfgpab.PA Go.Proofs.Ytmnfajplfnfgpab.UA Go.Proofs.Ytmnfajplfnfgpab.UM Go.Proofs.Ytmnfajplfnfgpab.UB Go.Proofs.Ytmnfajplfnfgpab.UC Go.Proofs.Ytmnfajplfnfgpab.UD Go.Proofs.Ytmnfajplfnfgpab.UE Go.Proofs.Ytmnfajplfnfgpab.UF Go.Proofs.Ytmnfajplfnfgpab.UG Go.Proofs.Ytmnfajplfnfgpab.UH Go.Proofs.Ytmnfajplfnfgpab.UI Go.Proofs.Ytmnfajplfnfgpab.UK Go.Proofs.Ytmnfajplfnfgpab.UL Go.Proofs.Ytmnfajplfnfgpab.UO Go.Proofs.Ytmnfajplfnfgpab.UP Go.Proofs.Ytmnfajplfnfgpab.UQ Go.Proofs.Ytmnfajplfnfgpab.Bytes Go.Proofs.Ytmnfajplfnfgpab.Puts


theorem add_len (l : List En) (most : Int) (x : En) : (addP l most x).1.length ≤ l.length + 1 := by
  unfold addP
  split
  · simp
  · split <;> simp
set_option maxHeartbeats 8000000 in
theorem tells (v : Value) (l : List En) (most : Int) (x : En) (w : World) (h : Ens w v l) (hz : SzL l) (hx : SzE x) (hl : (l.length + 1) * 80 ≤ 140737488355328) :
    Calls Try.prog 3 #[v, .int .i64 most, env x] w fun e w' => e = .returned (.bool true) ∧ Grew w w' := by
  have HL := Lib.hid h
  have HAL := Lib.hid alive_any
  have HA1 := Lib.hid (fun W (hg : Grew w W) => add_any v l most x W (h.grew hg) hz hx hl)
  have HA2 := Lib.hid (fun W (hg : Grew w W) => radd_any v l most x W (h.grew hg) hz hx hl)
  have HM1 := Lib.hid (may_any x hx)
  have HM2 := Lib.hid (rmay_any x hx)
  have HR1 := Lib.hid (fun W (hg : Grew w W) => right_any v l W (h.grew hg) hz (by omega))
  have HR2 := Lib.hid (fun W (hg : Grew w W) => rright_any v l W (h.grew hg) hz (by omega))
  have HLL2 : Hid (l.length * 80 ≤ 140737488355328) := Lib.hid (by omega)
  have HRL : Hid ((addP l most x).1.length * 80 ≤ 140737488355328) := Lib.hid (by have := add_len l most x; omega)
  obtain ⟨b1, hb1⟩ : ∃ b, okE x = b := ⟨_, rfl⟩
  obtain ⟨b2, hb2⟩ : ∃ b, rightL l = b := ⟨_, rfl⟩
  rw [hb1] at HM1 HM2
  rw [hb2] at HR1 HR2
  obtain ⟨⟨R, er⟩, hP⟩ : ∃ P, addP l most x = P := ⟨_, rfl⟩
  rw [hP] at HA1 HA2 HRL
  simp only at HRL
  obtain ⟨A, c, rfl, _⟩ := h.slice
  obtain ⟨r, ln, lb, wh, sd, bs, qt, qn, pr, st⟩ := x
  unfold env at *
  simp only at HA1 HA2 HM1 HM2 ⊢
  have BX0 := blk_new w (.cells #[.int .u64 (r : Int), .int .i64 ln, .int .i64 lb, .int .i64 wh, .int .i64 sd, .int .i64 bs, .int .i64 qt, .int .u64 (qn : Int), .int .u64 (pr : Int), .int .i64 st] 25)
  have GA : Grew w (w.alloc (.cells #[.int .u64 (r : Int), .int .i64 ln, .int .i64 lb, .int .i64 wh, .int .i64 sd, .int .i64 bs, .int .i64 qt, .int .u64 (qn : Int), .int .u64 (pr : Int), .int .i64 st] 25)) := by unfold Grew; go_grown
  obtain ⟨vw, w1, hr1, ho1, hbl1⟩ := en_appv (w.alloc (.cells #[.int .u64 (r : Int), .int .i64 ln, .int .i64 lb, .int .i64 wh, .int .i64 sd, .int .i64 bs, .int .i64 qt, .int .u64 (qn : Int), .int .u64 (pr : Int), .int .i64 st] 25)) (w.alloc (.cells #[.int .u64 (r : Int), .int .i64 ln, .int .i64 lb, .int .i64 wh, .int .i64 sd, .int .i64 bs, .int .i64 qt, .int .u64 (qn : Int), .int .u64 (pr : Int), .int .i64 st] 25)).heap.size (.slice none 0 0) (.slice A l.length c) [] l (own_nilE _ _) (h.grew GA) (by simp; omega) (Nat.le_refl _)
  rw [List.nil_append] at ho1
  have HAPP := Lib.hid hr1
  have IW1 := Lib.hid (Ens.of_own ho1)
  have G1 := Lib.hid (GA.trans (show Grew _ w1 from hbl1))
  have BX1 := Lib.hid (keepB BX0 (show Grew _ w1 from hbl1))
  obtain ⟨Aw, cw, rfl, _⟩ := IW1.out.slice
  obtain ⟨x0, x1, x2, x3, x4, x5, x6, x7, x8, x9⟩ := ten_c BX1.out
  clear h hz hx hl hb1 hb2 hP BX0 GA hr1 ho1 hbl1
  go_enter Try.func3, Try.ntmps3
  go_wp2_with (at_builtin; refine wpList_app_want (.tmp 12) (.tmp 13) 22 (by rfl) (by rfl) _ _ rfl rfl _ w1 (by exact HAPP.out) ?_)
  refine (HA1.out _ G1.out).mono ?_
  rintro e w3 ⟨v3, rfl, hi, hg⟩
  have G3 := Lib.hid (G1.out.trans hg)
  have BX3 := Lib.hid (keepB BX1.out hg)
  have I3 := Lib.hid hi
  have IW3 := Lib.hid (IW1.out.grew hg)
  simp only at I3
  obtain ⟨A3, c3, rfl, _⟩ := I3.out.slice
  clear hi hg x0 x1 x2 x3 x4 x5 x6 x7 x8 x9 HAPP
  obtain ⟨x0, x1, x2, x3, x4, x5, x6, x7, x8, x9⟩ := ten_c BX3.out
  go_wp2_with fail
  refine (HA2.out _ G3.out).mono ?_
  rintro e w4 ⟨v4, rfl, hi, hg⟩
  have G4 := Lib.hid (G3.out.trans hg)
  have BX := Lib.hid (keepB BX3.out hg)
  have I4 := Lib.hid hi
  have IW := Lib.hid (IW3.out.grew hg)
  replace I3 := Lib.hid (I3.out.grew hg)
  simp only at I4
  obtain ⟨A4, c4, rfl, _⟩ := I4.out.slice
  clear hi hg x0 x1 x2 x3 x4 x5 x6 x7 x8 x9
  go_wp2
  refine Facts.wp_region_text (by kernel_rfl) (by kernel_rfl) ?_
  apply Facts.Lex.exact [] (.bool true) (by kernel_rfl)
  · intro u W hC _
    unfold Facts.one
    go_simp
    exact ((HAL.out W).mono fun e w' ⟨he, hg⟩ => ⟨_, he, hg, rfl⟩)
  simp only [Act.put, List.setIfInBounds_toArray, List.set_cons_zero, List.set_cons_succ, Nat.zero_add]
  apply Facts.Lex.exact [] (.bool true) (by kernel_rfl)
  · intro u W hC _
    unfold Facts.one
    go_simp
    first | exact ⟨Grew.refl _, rfl⟩ | rfl
  simp only [Act.put, List.setIfInBounds_toArray, List.set_cons_zero, List.set_cons_succ, Nat.reduceAdd]
  apply Facts.Lex.exact [] _ (by kernel_rfl)
  · intro u W hC _
    obtain ⟨b0, b1, b2, b3, b4, b5, b6, b7, b8, b9⟩ := ten_c (blk_keep BX.out hC)
    unfold Facts.one
    go_simp
    first | exact ⟨Grew.refl _, rfl⟩ | rfl
  simp only [Act.put, List.setIfInBounds_toArray, List.set_cons_zero, List.set_cons_succ, Nat.reduceAdd]
  apply Facts.Lex.exact [] _ (by kernel_rfl)
  · intro u W hC _
    unfold Facts.one
    go_simp
    exact ((HM1.out W).mono fun e w' ⟨he, hg⟩ => ⟨_, he, hg, rfl⟩)
  simp only [Act.put, List.setIfInBounds_toArray, List.set_cons_zero, List.set_cons_succ, Nat.reduceAdd]
  apply Facts.Lex.exact [] _ (by kernel_rfl)
  · intro u W hC _
    obtain ⟨b0, b1, b2, b3, b4, b5, b6, b7, b8, b9⟩ := ten_c (blk_keep BX.out hC)
    unfold Facts.one
    go_simp
    first | exact ⟨Grew.refl _, rfl⟩ | rfl
  simp only [Act.put, List.setIfInBounds_toArray, List.set_cons_zero, List.set_cons_succ, Nat.reduceAdd]
  apply Facts.Lex.exact [] _ (by kernel_rfl)
  · intro u W hC _
    unfold Facts.one
    go_simp
    exact ((HM2.out W).mono fun e w' ⟨he, hg⟩ => ⟨_, he, hg, rfl⟩)
  simp only [Act.put, List.setIfInBounds_toArray, List.set_cons_zero, List.set_cons_succ, Nat.reduceAdd]
  apply Facts.Lex.exact [] (.bool true) (by kernel_rfl)
  · intro u W hC _
    unfold Facts.one
    go_simp
    first | exact ⟨Grew.refl _, rfl⟩ | rfl
  simp only [Act.put, List.setIfInBounds_toArray, List.set_cons_zero, List.set_cons_succ, Nat.reduceAdd]
  iterate 2
    apply Facts.Lex.exact [] (.bool true) (by kernel_rfl)
    · intro u W hC _
      unfold Facts.one
      go_simp
      first | exact ⟨Grew.refl _, rfl⟩ | rfl
    simp only [Act.put, List.setIfInBounds_toArray, List.set_cons_zero, List.set_cons_succ, Nat.reduceAdd]
  apply Facts.Lex.exact [] _ (by kernel_rfl)
  · intro u W hC _
    unfold Facts.one
    go_simp
    first | exact ⟨Grew.refl _, rfl⟩ | rfl
  simp only [Act.put, List.setIfInBounds_toArray, List.set_cons_zero, List.set_cons_succ, Nat.reduceAdd]
  apply Facts.Lex.exact [] _ (by kernel_rfl)
  · intro u W hC _
    unfold Facts.one
    go_simp
    exact ((HR1.out W (G4.out.trans hC)).mono fun e w' ⟨he, hg⟩ => ⟨_, he, hg, rfl⟩)
  simp only [Act.put, List.setIfInBounds_toArray, List.set_cons_zero, List.set_cons_succ, Nat.reduceAdd]
  apply Facts.Lex.exact [] _ (by kernel_rfl)
  · intro u W hC _
    unfold Facts.one
    go_simp
    first | exact ⟨Grew.refl _, rfl⟩ | rfl
  simp only [Act.put, List.setIfInBounds_toArray, List.set_cons_zero, List.set_cons_succ, Nat.reduceAdd]
  apply Facts.Lex.exact [] _ (by kernel_rfl)
  · intro u W hC _
    unfold Facts.one
    go_simp
    exact ((HR2.out W (G4.out.trans hC)).mono fun e w' ⟨he, hg⟩ => ⟨_, he, hg, rfl⟩)
  simp only [Act.put, List.setIfInBounds_toArray, List.set_cons_zero, List.set_cons_succ, Nat.reduceAdd]
  iterate 3
    apply Facts.Lex.exact [] (.bool true) (by kernel_rfl)
    · intro u W hC _
      unfold Facts.one
      go_simp
      first | exact ⟨Grew.refl _, rfl⟩ | rfl
    simp only [Act.put, List.setIfInBounds_toArray, List.set_cons_zero, List.set_cons_succ, Nat.reduceAdd]
  iterate 2
    apply Facts.Lex.exact [] _ (by kernel_rfl)
    · intro u W hC _
      unfold Facts.one
      go_simp
      first | exact ⟨Grew.refl _, rfl⟩ | rfl
    simp only [Act.put, List.setIfInBounds_toArray, List.set_cons_zero, List.set_cons_succ, Nat.reduceAdd]
  apply Facts.Lex.exact [] (.bool true) (by kernel_rfl)
  · intro u W hC _
    unfold Facts.one
    go_simp
    exact ((same_any _ _ R W (I3.out.grew hC) (I4.out.grew hC) HRL.out).mono fun e w' ⟨he, hg⟩ => ⟨_, he, hg, rfl⟩)
  simp only [Act.put, List.setIfInBounds_toArray, List.set_cons_zero, List.set_cons_succ, Nat.reduceAdd]
  iterate 2
    apply Facts.Lex.exact [] (.bool true) (by kernel_rfl)
    · intro u W hC _
      unfold Facts.one
      go_simp
      first | exact ⟨Grew.refl _, rfl⟩ | rfl
    simp only [Act.put, List.setIfInBounds_toArray, List.set_cons_zero, List.set_cons_succ, Nat.reduceAdd]
  iterate 2
    apply Facts.Lex.exact [] _ (by kernel_rfl)
    · intro u W hC _
      unfold Facts.one
      go_simp
      first | exact ⟨Grew.refl _, rfl⟩ | rfl
    simp only [Act.put, List.setIfInBounds_toArray, List.set_cons_zero, List.set_cons_succ, Nat.reduceAdd]
  iterate 3
    apply Facts.Lex.exact [] (.bool true) (by kernel_rfl)
    · intro u W hC _
      unfold Facts.one
      go_simp
      first | exact ⟨Grew.refl _, rfl⟩ | rfl
    simp only [Act.put, List.setIfInBounds_toArray, List.set_cons_zero, List.set_cons_succ, Nat.reduceAdd]
  iterate 2
    apply Facts.Lex.exact [] _ (by kernel_rfl)
    · intro u W hC _
      unfold Facts.one
      go_simp
      first | exact ⟨Grew.refl _, rfl⟩ | rfl
    simp only [Act.put, List.setIfInBounds_toArray, List.set_cons_zero, List.set_cons_succ, Nat.reduceAdd]
  apply Facts.Lex.exact [] (.bool true) (by kernel_rfl)
  · intro u W hC _
    unfold Facts.one
    go_simp
    exact ((same_any _ _ l W (HL.out.grew (G4.out.trans hC)) (IW.out.grew hC) HLL2.out).mono fun e w' ⟨he, hg⟩ => ⟨_, he, hg, rfl⟩)
  simp only [Act.put, List.setIfInBounds_toArray, List.set_cons_zero, List.set_cons_succ, Nat.reduceAdd]
  iterate 2
    apply Facts.Lex.exact [] (.bool true) (by kernel_rfl)
    · intro u W hC _
      unfold Facts.one
      go_simp
      first | exact ⟨Grew.refl _, rfl⟩ | rfl
    simp only [Act.put, List.setIfInBounds_toArray, List.set_cons_zero, List.set_cons_succ, Nat.reduceAdd]

  refine Facts.Lex.done fun u W2 hC hL => ?_
  have G2 := Lib.hid (G4.out.trans hC)
  clear hC hL
  go_wp2
  go_returns
  exact ⟨rfl, G2.out⟩

theorem conv_s {S : Nat → Prop} {w : World} {v : Value} {l : List UInt8} (h : Rd S w v l) : (convert 34 9 v).run Try.prog w = .ok (.string ⟨l.toArray⟩) w :=
  run_toString w Try.underlying34 Try.underlying5 Try.underlying9 h
set_option maxHeartbeats 8000000 in
theorem reads (v : Value) (b : List UInt8) (x : En) (w : World) (h : Rd Al w v b) (hl : b.length ≤ 140737488355328) (hx : SzE x) :
    Calls Try.prog 4 #[env x, v] w fun e w' => e = .returned (.bool true) ∧ Grew w w' := by
  have HAL := Lib.hid alive_any
  have HD1 := Lib.hid (fun W (hg : Grew w W) => read_any v b W (h.grew hg) hl)
  have HD2 := Lib.hid (fun W (hg : Grew w W) => rread_any v b W (h.grew hg))
  have HB1 := Lib.hid (bytes_any x hx)
  have HB2 := Lib.hid (rbytes_any x hx)
  obtain ⟨A, c, rfl, _⟩ := id h
  generalize bytesP x = BL at *
  obtain ⟨r, ln, lb, wh, sd, bs, qt, qn, pr, st⟩ := x
  obtain ⟨⟨Y, er⟩, hP⟩ : ∃ P, readP b = P := ⟨_, rfl⟩
  rw [hP] at HD1 HD2
  unfold AnsR at HD1 HD2
  have HEQ := Lib.hid (eqE Y)
  obtain ⟨r', ln', lb', wh', sd', bs', qt', qn', pr', st'⟩ := Y
  unfold env at *
  simp only at HB1 HB2 HD1 HD2 HEQ ⊢
  have BX0 := Lib.hid (blk_new w (.cells #[.int .u64 (r : Int), .int .i64 ln, .int .i64 lb, .int .i64 wh, .int .i64 sd, .int .i64 bs, .int .i64 qt, .int .u64 (qn : Int), .int .u64 (pr : Int), .int .i64 st] 25))
  have GA := Lib.hid (show Grew w (w.alloc (.cells #[.int .u64 (r : Int), .int .i64 ln, .int .i64 lb, .int .i64 wh, .int .i64 sd, .int .i64 bs, .int .i64 qt, .int .u64 (qn : Int), .int .u64 (pr : Int), .int .i64 st] 25)) by unfold Grew; go_grown)
  clear h hl hx hP
  go_enter Try.func4, Try.ntmps4
  go_wp2_with fail
  refine (HD1.out _ GA.out).mono ?_
  rintro e w1 ⟨rfl, hg⟩
  have GZ : Grew w1 (w1.alloc (.cells #[.int .u64 (r' : Int), .int .i64 ln', .int .i64 lb', .int .i64 wh', .int .i64 sd', .int .i64 bs', .int .i64 qt', .int .u64 (qn' : Int), .int .u64 (pr' : Int), .int .i64 st'] 25)) := by unfold Grew; go_grown
  have G1 := Lib.hid (GA.out.trans (hg.trans GZ))
  have BX1 := Lib.hid (keepB BX0.out (hg.trans GZ))
  have BZ := Lib.hid (blk_new w1 (.cells #[.int .u64 (r' : Int), .int .i64 ln', .int .i64 lb', .int .i64 wh', .int .i64 sd', .int .i64 bs', .int .i64 qt', .int .u64 (qn' : Int), .int .u64 (pr' : Int), .int .i64 st'] 25))
  clear hg GZ
  go_wp2_with fail
  refine (HD2.out _ G1.out).mono ?_
  rintro e w2 ⟨rfl, hg⟩
  have GZ : Grew w2 (w2.alloc (.cells #[.int .u64 (r' : Int), .int .i64 ln', .int .i64 lb', .int .i64 wh', .int .i64 sd', .int .i64 bs', .int .i64 qt', .int .u64 (qn' : Int), .int .u64 (pr' : Int), .int .i64 st'] 25)) := by unfold Grew; go_grown
  have G2 := Lib.hid (G1.out.trans (hg.trans GZ))
  have BX := Lib.hid (keepB BX1.out (hg.trans GZ))
  have BZ1 := Lib.hid (keepB BZ.out (hg.trans GZ))
  have BZ2 := Lib.hid (blk_new w2 (.cells #[.int .u64 (r' : Int), .int .i64 ln', .int .i64 lb', .int .i64 wh', .int .i64 sd', .int .i64 bs', .int .i64 qt', .int .u64 (qn' : Int), .int .u64 (pr' : Int), .int .i64 st'] 25))
  clear hg GZ
  go_wp2
  refine Facts.wp_region_text (by kernel_rfl) (by kernel_rfl) ?_
  apply Facts.Lex.exact [] (.bool true) (by kernel_rfl)
  · intro u W hC _
    unfold Facts.one
    go_simp
    exact ((HAL.out W).mono fun e w' ⟨he, hg⟩ => ⟨_, he, hg, rfl⟩)
  simp only [Act.put, List.setIfInBounds_toArray, List.set_cons_zero, List.set_cons_succ, Nat.zero_add]
  apply Facts.Lex.exact [] (.bool true) (by kernel_rfl)
  · intro u W hC _
    unfold Facts.one
    go_simp
    first | exact ⟨Grew.refl _, rfl⟩ | rfl
  simp only [Act.put, List.setIfInBounds_toArray, List.set_cons_zero, List.set_cons_succ, Nat.reduceAdd]
  apply Facts.Lex.exact [] _ (by kernel_rfl)
  · intro u W hC _
    obtain ⟨b0, b1, b2, b3, b4, b5, b6, b7, b8, b9⟩ := ten_c (blk_keep BX.out hC)
    unfold Facts.one
    go_simp
    first | exact ⟨Grew.refl _, rfl⟩ | rfl
  simp only [Act.put, List.setIfInBounds_toArray, List.set_cons_zero, List.set_cons_succ, Nat.reduceAdd]
  refine Facts.Lex.know [] (fun v w => Rd Al w v BL) (by kernel_rfl) (fun _ _ _ h hg => h.grew hg) ?_ ?_
  · intro u W hC hK
    clear hK
    have hN := HB1.out W
    unfold Facts.one
    go_simp
    refine hN.mono ?_
    rintro e w' ⟨v', rfl, hr, hg⟩
    exact ⟨_, rfl, hg, hr.rd⟩
  simp only [Act.put, List.setIfInBounds_toArray, List.set_cons_zero, List.set_cons_succ, Nat.reduceAdd]
  apply Facts.Lex.exact [3] (.string ⟨BL.toArray⟩) (by kernel_rfl)
  · intro u W hC hK
    have hcv := conv_s (show Rd Al W (u 3) BL from hK.1)
    clear hK
    unfold Facts.one
    go_simp
    first | exact ⟨Grew.refl _, rfl⟩ | rfl
  simp only [Act.put, List.setIfInBounds_toArray, List.set_cons_zero, List.set_cons_succ, Nat.reduceAdd]
  apply Facts.Lex.exact [] _ (by kernel_rfl)
  · intro u W hC _
    obtain ⟨b0, b1, b2, b3, b4, b5, b6, b7, b8, b9⟩ := ten_c (blk_keep BX.out hC)
    unfold Facts.one
    go_simp
    first | exact ⟨Grew.refl _, rfl⟩ | rfl
  simp only [Act.put, List.setIfInBounds_toArray, List.set_cons_zero, List.set_cons_succ, Nat.reduceAdd]
  refine Facts.Lex.know [] (fun v w => Rd Al w v BL) (by kernel_rfl) (fun _ _ _ h hg => h.grew hg) ?_ ?_
  · intro u W hC hK
    clear hK
    have hN := HB2.out W
    unfold Facts.one
    go_simp
    refine hN.mono ?_
    rintro e w' ⟨v', rfl, hr, hg⟩
    exact ⟨_, rfl, hg, hr⟩
  simp only [Act.put, List.setIfInBounds_toArray, List.set_cons_zero, List.set_cons_succ, Nat.reduceAdd]
  apply Facts.Lex.exact [6] (.string ⟨BL.toArray⟩) (by kernel_rfl)
  · intro u W hC hK
    have hcv := conv_s (show Rd Al W (u 6) BL from hK.1)
    clear hK
    unfold Facts.one
    go_simp
    first | exact ⟨Grew.refl _, rfl⟩ | rfl
  simp only [Act.put, List.setIfInBounds_toArray, List.set_cons_zero, List.set_cons_succ, Nat.reduceAdd]
  iterate 3
    apply Facts.Lex.exact [] (.bool true) (by kernel_rfl)
    · intro u W hC _
      unfold Facts.one
      go_simp
      first | exact ⟨Grew.refl _, rfl⟩ | rfl
    simp only [Act.put, List.setIfInBounds_toArray, List.set_cons_zero, List.set_cons_succ, Nat.reduceAdd]
  apply Facts.Lex.exact [] _ (by kernel_rfl)
  · intro u W hC _
    obtain ⟨b0, b1, b2, b3, b4, b5, b6, b7, b8, b9⟩ := ten_c (blk_keep BZ1.out hC)
    unfold Facts.one
    go_simp
    first | exact ⟨Grew.refl _, rfl⟩ | rfl
  simp only [Act.put, List.setIfInBounds_toArray, List.set_cons_zero, List.set_cons_succ, Nat.reduceAdd]
  apply Facts.Lex.exact [] _ (by kernel_rfl)
  · intro u W hC _
    obtain ⟨b0, b1, b2, b3, b4, b5, b6, b7, b8, b9⟩ := ten_c (blk_keep BZ2.out hC)
    unfold Facts.one
    go_simp
    first | exact ⟨Grew.refl _, rfl⟩ | rfl
  simp only [Act.put, List.setIfInBounds_toArray, List.set_cons_zero, List.set_cons_succ, Nat.reduceAdd]
  apply Facts.Lex.exact [] (.bool true) (by kernel_rfl)
  · intro u W hC _
    have heq := HEQ.out W
    unfold Facts.one
    go_simp
    first | exact ⟨Grew.refl _, rfl⟩ | rfl
  simp only [Act.put, List.setIfInBounds_toArray, List.set_cons_zero, List.set_cons_succ, Nat.reduceAdd]
  iterate 2
    apply Facts.Lex.exact [] (.bool true) (by kernel_rfl)
    · intro u W hC _
      unfold Facts.one
      go_simp
      first | exact ⟨Grew.refl _, rfl⟩ | rfl
    simp only [Act.put, List.setIfInBounds_toArray, List.set_cons_zero, List.set_cons_succ, Nat.reduceAdd]
  iterate 2
    apply Facts.Lex.exact [] _ (by kernel_rfl)
    · intro u W hC _
      unfold Facts.one
      go_simp
      first | exact ⟨Grew.refl _, rfl⟩ | rfl
    simp only [Act.put, List.setIfInBounds_toArray, List.set_cons_zero, List.set_cons_succ, Nat.reduceAdd]
  iterate 3
    apply Facts.Lex.exact [] (.bool true) (by kernel_rfl)
    · intro u W hC _
      unfold Facts.one
      go_simp
      first | exact ⟨Grew.refl _, rfl⟩ | rfl
    simp only [Act.put, List.setIfInBounds_toArray, List.set_cons_zero, List.set_cons_succ, Nat.reduceAdd]

  refine Facts.Lex.done fun u W2 hC hL => ?_
  have G3 := Lib.hid (G2.out.trans hC)
  clear hC hL
  go_wp2
  go_returns
  exact ⟨rfl, G3.out⟩
end Go.Proofs.Ytmnfajplfnfgpab.UR
