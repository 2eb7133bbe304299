/-
  AuditBack.
  Conditions: those that each lemma names.
-/
import Derived.Test.YtmnfajplfnfgpabUR
import Derived.Test.YtmnfajplfnfgpabUS
namespace Go.Proofs.Ytmnfajplfnfgpab.UT
set_option maxRecDepth 100000
open Go Go.RowKit Go.Lib Go.Proofs.Ytmnfajplfnfgpab Go.Proofs.Ytmnfajplfnfgpab.Facts Go.Proofs.Ytmnfajplfnfgpab.Ints Go.Proofs.Ytmnfajplfnfgpab.PA Go.Proofs.Ytmnfajplfnfgpab.UA Go.Proofs.Ytmnfajplfnfgpab.UM Go.Proofs.Ytmnfajplfnfgpab.UB Go.Proofs.Ytmnfajplfnfgpab.UC Go.Proofs.Ytmnfajplfnfgpab.UD Go.Proofs.Ytmnfajplfnfgpab.UE Go.Proofs.Ytmnfajplfnfgpab.UF Go.Proofs.Ytmnfajplfnfgpab.UG Go.Proofs.Ytmnfajplfnfgpab.UH Go.Proofs.Ytmnfajplfnfgpab.UI Go.Proofs.Ytmnfajplfnfgpab.UK Go.Proofs.Ytmnfajplfnfgpab.UL Go.Proofs.Ytmnfajplfnfgpab.UO Go.Proofs.Ytmnfajplfnfgpab.UP Go.Proofs.Ytmnfajplfnfgpab.UQ Go.Proofs.Ytmnfajplfnfgpab.UR Go.Proofs.Ytmnfajplfnfgpab.US Go.Proofs.Ytmnfajplfnfgpab.Bytes Go.Proofs.Ytmnfajplfnfgpab.Puts


/-- What the law's log is at any time. -/
structure LG (G : List En) (n : Nat) : Prop where
  right : rightL G = true
  size : SzL G
  len : G.length ≤ n
theorem LG.nil : LG [] 0 := ⟨rfl, (fun y hy => by cases hy), Nat.le_refl _⟩
theorem LG.keep {G : List En} {n : Nat} (h : LG G n) : LG G (n + 1) := ⟨h.right, h.size, Nat.le_succ_of_le h.len⟩
theorem add_ok {G : List En} {most : Int} {x : En} {R : List En} (h : addP G most x = (R, 0)) : R = G ++ [x] ∧ rightL R = true ∧ (G.length : Int) < most := by
  unfold addP at h
  split at h
  · injection h with _ h2; cases h2
  · rename_i h1
    split at h
    · injection h with _ h2; cases h2
    · rename_i h2
      injection h with h3 _
      subst h3
      exact ⟨rfl, by simpa using h1, by omega⟩
theorem LG.snoc {G : List En} {n : Nat} {x : En} (h : LG G n) (hx : SzE x) (hr : rightL (G ++ [x]) = true) : LG (G ++ [x]) (n + 1) :=
  ⟨hr, (fun y hy => by
    rcases List.mem_append.1 hy with h2 | h2
    · exact h.size y h2
    · rw [List.mem_singleton.1 h2]; exact hx), by rw [List.length_append, List.length_singleton]; exact Nat.succ_le_succ h.len⟩
theorem w60 {j : Nat} (h : j ≤ 60) : wrap64 ((j : Int) + 1) = ((j + 1 : Nat) : Int) := by unfold wrap64; omega
theorem most_ok {n : Nat} {m : Int} (h : (n : Int) < m) : decide (m < ((n + 1 : Nat) : Int)) = false := decide_eq_false (by omega)
theorem lt_cast (n : Nat) : (n : Int) < ((n + 1 : Nat) : Int) := by omega
theorem most_ok2 {n : Nat} {m : Int} (h : (n : Int) < m) : decide (m < (n : Int) + 1) = false := decide_eq_false (by omega)
theorem lt_cast2 (n : Nat) : (n : Int) < (n : Int) + 1 := by omega
theorem w60b {j : Nat} (h : j ≤ 60) : IntKind.i64.wrap ((j : Int) + 1) = (j : Int) + 1 := by rw [IntKind.wrap_i64]; omega
theorem ee_lt_snoc (G : List En) (x : En) {k : Nat} (h : k < G.length) : (G ++ [x])[k]? = some (ee G k) := by
  rw [List.getElem?_append_left h]
  exact ee_get h
theorem ee_at_snoc (G : List En) (x : En) : (G ++ [x])[G.length]? = some x := by
  rw [List.getElem?_append_right (Nat.le_refl _)]
  simp
set_option maxHeartbeats 16000000 in
theorem back (v : Value) (l : List En) (most : Int) (vb : Value) (b : List UInt8) (w : World) (h : Ens w v l) (hz : SzL l) (hl : (l.length + 1) * 80 ≤ 140737488355328) (hb : Rd Al w vb b) (hbl : b.length ≤ 140737488355328) :
    Calls Try.prog 5 #[v, .int .i64 most, vb] w fun e w' => e = .returned (.bool true) ∧ Grew w w' := by
  have HL := Lib.hid h
  have HZ := Lib.hid hz
  have HBB := Lib.hid hb
  have HRDB := Lib.hid (fun W (hg : Grew w W) => read_any vb b W (hb.grew hg) hbl)
  have HAL := Lib.hid alive_any
  obtain ⟨A, c, rfl, _⟩ := h.slice
  obtain ⟨AB, cB, rfl, _⟩ := id hb
  have HLM := Lib.hid (show l.length ≤ 4611686018427387904 by omega)
  obtain ⟨M, hM⟩ : ∃ M, min l.length 60 = M := ⟨_, rfl⟩
  have HM1 : Hid (M ≤ l.length) := Lib.hid (by omega)
  have HM2 : Hid (M ≤ 60) := Lib.hid (by omega)
  have HM3 : Hid (M = l.length ∨ M = 60) := Lib.hid (by omega)
  have EN := Lib.hid (rw_none w)
  clear h hz hl hb hbl hM
  go_enter Try.func5, Try.ntmps5
  go_wp2
  go_loopg [7, 8] M (fun g s7 s8 wx => ∃ (i : Nat) (v7 : Value) (G : List En), i + g = M ∧ s8 = .int .i64 i ∧ v7 = s7 ∧ Hid (LG G i) ∧ Hid (Ens wx v7 G) ∧ Hid (Grew w wx))
  case atStart => exact ⟨0, _, [], by omega, rfl, rfl, Lib.hid LG.nil, EN, Lib.hid (Grew.refl _)⟩
  case round =>
    obtain ⟨i, v7, G, hig, rfl, rfl, HLG, HI, HG⟩ := hrel
    clear EN
    obtain ⟨AG, cG, rfl, _⟩ := HI.out.slice
    cases gk with
    | zero =>
      have HGL := Lib.hid (show G.length ≤ 60 by have := HLG.out.len; have := HM2.out; omega)
      obtain ⟨wr0, hwr0⟩ : ∃ x, x = wr := ⟨_, rfl⟩
      by_cases hil : i < l.length
      · have hil1 : (i : Int) < (l.length : Int) := by omega
        have hi60 : ¬ ((i : Int) < 60) := by have := HM3.out; omega
        subst hwr0
        clear hig hil
        go_wp2
        go_loopg [12] G.length (fun g2 s12 wx => ∃ k : Nat, k + g2 = G.length ∧ s12 = .int .i64 k ∧ Hid (Grew wr0 wx))
        case atStart => exact ⟨0, by omega, rfl, Lib.hid (Grew.refl _)⟩
        case round =>
          obtain ⟨k, hkg, rfl, HGk⟩ := hrel
          have HI3 := Lib.hid (HI.out.grew HGk.out)
          have G3 := Lib.hid (HG.out.trans HGk.out)
          cases gk with
          | succ g2 =>
            have hkl : k < G.length := by omega
            have hkz : (k : Int) < (G.length : Int) := by omega
            have HKM : Hid (k + 1 + g2 = G.length) := Lib.hid (by omega)
            have HKW := Lib.hid (w60 (show k ≤ 60 by have := HGL.out; omega))
            have HSX := Lib.hid (HLG.out.size.at hkl)
            have HBY := Lib.hid (bytes_any (ee G k) HSX.out)
            have HRX := Lib.hid (fun W v (hr : Rd Al W v (bytesP (ee G k))) => read_any v (bytesP (ee G k)) W hr (by unfold bytesP; split <;> simp [encE, fl, be_length]))
            have hre := read_enc (right_ok HLG.out.right hkl) HSX.out
            rw [hre] at HRX
            unfold AnsR at HRX
            have HXS := Lib.hid (ee_get hkl)
            have HNK := Lib.hid (neE (ee G k))
            obtain ⟨ad, c8, e8, _, d0, d1, d2, d3, d4, d5, d6, d7, d8, d9⟩ := Ens_at HI3.out (ee_get hkl)
            injection e8 with e1 e2 e3
            subst e1 e3
            clear e2 hre hkg HSX
            generalize bytesP (ee G k) = BL at *
            generalize ee G k = X at *
            obtain ⟨r, ln, lb, wh, sd, bs, qt, qn, pr, st⟩ := X
            unfold env at HBY HRX HNK
            simp only at HBY HRX HNK HXS d0 d1 d2 d3 d4 d5 d6 d7 d8 d9
            go_wp2_with fail
            refine (HBY.out _).mono ?_
            rintro e w3 ⟨v3, rfl, ho, hg⟩
            have G4 := Lib.hid (HGk.out.trans hg)
            have OB := Lib.hid ho.rd
            obtain ⟨A3, c3, rfl, _⟩ := id OB.out
            clear ho hg d0 d1 d2 d3 d4 d5 d6 d7 d8 d9
            go_wp2_with fail
            refine (HRX.out _ _ OB.out).mono ?_
            rintro e w4 ⟨rfl, hg⟩
            have GN : Grew w4 (w4.alloc (.cells #[.int .u64 (r : Int), .int .i64 ln, .int .i64 lb, .int .i64 wh, .int .i64 sd, .int .i64 bs, .int .i64 qt, .int .u64 (qn : Int), .int .u64 (pr : Int), .int .i64 st] 25)) := by unfold Grew; go_grown
            have G5 := Lib.hid (G4.out.trans (hg.trans GN))
            have BZ := Lib.hid (blk_new w4 (.cells #[.int .u64 (r : Int), .int .i64 ln, .int .i64 lb, .int .i64 wh, .int .i64 sd, .int .i64 bs, .int .i64 qt, .int .u64 (qn : Int), .int .u64 (pr : Int), .int .i64 st] 25))
            obtain ⟨ad2, c8, e8, _, d0, d1, d2, d3, d4, d5, d6, d7, d8, d9⟩ := Ens_at (HI.out.grew G5.out) HXS.out
            injection e8 with e1 e2 e3
            injection e1 with e1
            subst e1
            clear e2 e3 hg GN OB HBY HRX
            simp only at d0 d1 d2 d3 d4 d5 d6 d7 d8 d9
            go_wp2
            refine Facts.wp_region_text (by kernel_rfl) (by kernel_rfl) ?_
            repeat
              apply Facts.Lex.exact [] _ (by kernel_rfl)
              · intro u W hC _
                obtain ⟨b0, b1, b2, b3, b4, b5, b6, b7, b8, b9⟩ := ten_c (blk_keep BZ.out hC)
                have j0 := cellG hC d0
                have j1 := cellG hC d1
                have j2 := cellG hC d2
                have j3 := cellG hC d3
                have j4 := cellG hC d4
                have j5 := cellG hC d5
                have j6 := cellG hC d6
                have j7 := cellG hC d7
                have j8 := cellG hC d8
                have j9 := cellG hC d9
                have hne := HNK.out W
                unfold Facts.one
                go_simp
                first | exact ⟨Grew.refl _, rfl⟩ | rfl
              simp only [Act.put, List.setIfInBounds_toArray, List.set_cons_zero, List.set_cons_succ, Nat.zero_add, Nat.reduceAdd]

            refine Facts.Lex.done fun u W2 hC hL => ?_

            have G6 := Lib.hid (G5.out.trans hC)
            clear hC hL d0 d1 d2 d3 d4 d5 d6 d7 d8 d9
            go_wp2
            go_roundg g2
            case measure => omega
            case rel => exact ⟨k + 1, HKM.out, by first | (simp; done) | rw [HKW.out], G6⟩
          | zero =>
            have hkz : ¬ ((k : Int) < (G.length : Int)) := by omega
            have HRT := Lib.hid (fun W (hg : Ens W (.slice AG G.length cG) G) => right_any _ G W hg HLG.out.size (by have := HGL.out; omega))
            have hrg := HLG.out.right
            rw [hrg] at HRT
            obtain ⟨⟨Y, er⟩, hP⟩ : ∃ P, readP b = P := ⟨_, rfl⟩
            have HP := Lib.hid hP
            have HSZ : Hid (er = 0 → SzE Y) := Lib.hid (fun h0 => by
              have h1 := hP
              rw [h0] at h1
              unfold readP at h1
              split at h1
              · split at h1
                · have e : decE b = Y := congrArg Prod.fst h1
                  rw [← e]
                  exact sz_dec b
                · injection h1 with _ h2; cases h2
              · rename_i hf
                injection h1 with _ h2
                exact absurd h2 hf)
            rw [hP] at HRDB
            unfold AnsR at HRDB
            clear hP hkg hrg
            by_cases her : er = 0
            · subst her
              obtain ⟨hok, hby⟩ := enc_read HP.out
              have HMY := Lib.hid (may_any Y (HSZ.out rfl))
              have HBY := Lib.hid (bytes_any Y (HSZ.out rfl))
              rw [hok] at HMY
              rw [hby] at HBY
              clear hok hby HSZ HP
              obtain ⟨r', ln', lb', wh', sd', bs', qt', qn', pr', st'⟩ := Y
              unfold env at HMY HBY HRDB
              simp only at HMY HBY HRDB
              go_wp2_with fail
              refine (HRDB.out _ G3.out).mono ?_
              rintro e w3 ⟨rfl, hg⟩
              have GN : Grew w3 (w3.alloc (.cells #[.int .u64 (r' : Int), .int .i64 ln', .int .i64 lb', .int .i64 wh', .int .i64 sd', .int .i64 bs', .int .i64 qt', .int .u64 (qn' : Int), .int .u64 (pr' : Int), .int .i64 st'] 25)) := by unfold Grew; go_grown
              have G4 := Lib.hid (G3.out.trans (hg.trans GN))
              have HI4 := Lib.hid (HI3.out.grew (hg.trans GN))
              have HB4 := Lib.hid (HBB.out.grew G4.out)
              have BZ := Lib.hid (blk_new w3 (.cells #[.int .u64 (r' : Int), .int .i64 ln', .int .i64 lb', .int .i64 wh', .int .i64 sd', .int .i64 bs', .int .i64 qt', .int .u64 (qn' : Int), .int .u64 (pr' : Int), .int .i64 st'] 25))
              clear hg GN HRDB
              go_wp2
              refine Facts.wp_region_text (by kernel_rfl) (by kernel_rfl) ?_
              apply Facts.Lex.exact [] (.bool true) (by kernel_rfl)
              · intro u W hC _
                unfold Facts.one
                go_simp
                exact ((HAL.out W).mono fun e w' ⟨he, hg⟩ => ⟨_, he, hg, rfl⟩)
              simp only [Act.put, List.setIfInBounds_toArray, List.set_cons_zero, List.set_cons_succ, Nat.zero_add]
              iterate 2
                apply Facts.Lex.exact [] _ (by kernel_rfl)
                · intro u W hC _
                  unfold Facts.one
                  go_simp
                  first | exact ⟨Grew.refl _, rfl⟩ | rfl
                simp only [Act.put, List.setIfInBounds_toArray, List.set_cons_zero, List.set_cons_succ, Nat.reduceAdd]
              apply Facts.Lex.exact [] (.bool true) (by kernel_rfl)
              · intro u W hC _
                unfold Facts.one
                go_simp
                exact ((HRT.out W (HI4.out.grew hC)).mono fun e w' ⟨he, hg⟩ => ⟨_, he, hg, rfl⟩)
              simp only [Act.put, List.setIfInBounds_toArray, List.set_cons_zero, List.set_cons_succ, Nat.reduceAdd]
              iterate 4
                apply Facts.Lex.exact [] _ (by kernel_rfl)
                · intro u W hC _
                  unfold Facts.one
                  go_simp
                  first | exact ⟨Grew.refl _, rfl⟩ | rfl
                simp only [Act.put, List.setIfInBounds_toArray, List.set_cons_zero, List.set_cons_succ, Nat.reduceAdd]
              apply Facts.Lex.exact [] _ (by kernel_rfl)
              · intro u W hC _
                unfold Facts.one
                go_simp
                first | exact ⟨Grew.refl _, rfl⟩ | rfl
              simp only [Act.put, List.setIfInBounds_toArray, List.set_cons_zero, List.set_cons_succ, Nat.reduceAdd]
              apply Facts.Lex.exact [] _ (by kernel_rfl)
              · intro u W hC _
                obtain ⟨b0, b1, b2, b3, b4, b5, b6, b7, b8, b9⟩ := ten_c (blk_keep BZ.out hC)
                unfold Facts.one
                go_simp
                first | exact ⟨Grew.refl _, rfl⟩ | rfl
              simp only [Act.put, List.setIfInBounds_toArray, List.set_cons_zero, List.set_cons_succ, Nat.reduceAdd]
              apply Facts.Lex.exact [] (.bool true) (by kernel_rfl)
              · intro u W hC _
                unfold Facts.one
                go_simp
                exact ((HMY.out W).mono fun e w' ⟨he, hg⟩ => ⟨_, he, hg, rfl⟩)
              simp only [Act.put, List.setIfInBounds_toArray, List.set_cons_zero, List.set_cons_succ, Nat.reduceAdd]
              apply Facts.Lex.exact [] _ (by kernel_rfl)
              · intro u W hC _
                unfold Facts.one
                go_simp
                first | exact ⟨Grew.refl _, rfl⟩ | rfl
              simp only [Act.put, List.setIfInBounds_toArray, List.set_cons_zero, List.set_cons_succ, Nat.reduceAdd]
              apply Facts.Lex.exact [] _ (by kernel_rfl)
              · intro u W hC _
                obtain ⟨b0, b1, b2, b3, b4, b5, b6, b7, b8, b9⟩ := ten_c (blk_keep BZ.out hC)
                unfold Facts.one
                go_simp
                first | exact ⟨Grew.refl _, rfl⟩ | rfl
              simp only [Act.put, List.setIfInBounds_toArray, List.set_cons_zero, List.set_cons_succ, Nat.reduceAdd]
              refine Facts.Lex.know [] (fun v w => Rd Al w v b) (by kernel_rfl) (fun _ _ _ h hg => h.grew hg) ?_ ?_
              · intro u W hC hK
                clear hK
                have hN := HBY.out W
                unfold Facts.one
                go_simp
                refine hN.mono ?_
                rintro e w' ⟨v', rfl, hr, hg⟩
                exact ⟨_, rfl, hg, hr.rd⟩
              simp only [Act.put, List.setIfInBounds_toArray, List.set_cons_zero, List.set_cons_succ, Nat.reduceAdd]
              apply Facts.Lex.exact [13] (.string ⟨b.toArray⟩) (by kernel_rfl)
              · intro u W hC hK
                have hcv := conv_s (show Rd Al W (u 13) b from hK.1)
                clear hK
                unfold Facts.one
                go_simp
                first | exact ⟨Grew.refl _, rfl⟩ | rfl
              simp only [Act.put, List.setIfInBounds_toArray, List.set_cons_zero, List.set_cons_succ, Nat.reduceAdd]
              apply Facts.Lex.exact [] _ (by kernel_rfl)
              · intro u W hC _
                unfold Facts.one
                go_simp
                first | exact ⟨Grew.refl _, rfl⟩ | rfl
              simp only [Act.put, List.setIfInBounds_toArray, List.set_cons_zero, List.set_cons_succ, Nat.reduceAdd]
              apply Facts.Lex.exact [] (.string ⟨b.toArray⟩) (by kernel_rfl)
              · intro u W hC hK
                have hcv := conv_s (HB4.out.grew hC)
                clear hK
                unfold Facts.one
                go_simp
                first | exact ⟨Grew.refl _, rfl⟩ | rfl
              simp only [Act.put, List.setIfInBounds_toArray, List.set_cons_zero, List.set_cons_succ, Nat.reduceAdd]
              iterate 5
                apply Facts.Lex.exact [] _ (by kernel_rfl)
                · intro u W hC _
                  unfold Facts.one
                  go_simp
                  first | exact ⟨Grew.refl _, rfl⟩ | rfl
                simp only [Act.put, List.setIfInBounds_toArray, List.set_cons_zero, List.set_cons_succ, Nat.reduceAdd]
              refine Facts.Lex.done fun u W2 hC hL => ?_

              have G5 := Lib.hid (G4.out.trans hC)
              clear hC hL
              go_wp2
              go_returns
              exact ⟨rfl, G5.out⟩
            · have her1 : (er == 0) = false := by simp; exact her
              have her2 : (er != 0) = true := by simp; exact her
              clear her HSZ HP
              obtain ⟨r', ln', lb', wh', sd', bs', qt', qn', pr', st'⟩ := Y
              unfold env at HRDB
              simp only at HRDB
              go_wp2_with fail
              refine (HRDB.out _ G3.out).mono ?_
              rintro e w3 ⟨rfl, hg⟩
              have GN : Grew w3 (w3.alloc (.cells #[.int .u64 (r' : Int), .int .i64 ln', .int .i64 lb', .int .i64 wh', .int .i64 sd', .int .i64 bs', .int .i64 qt', .int .u64 (qn' : Int), .int .u64 (pr' : Int), .int .i64 st'] 25)) := by unfold Grew; go_grown
              have G4 := Lib.hid (G3.out.trans (hg.trans GN))
              have HI4 := Lib.hid (HI3.out.grew (hg.trans GN))
              clear hg GN HRDB
              go_wp2
              refine Facts.wp_region_text (by kernel_rfl) (by kernel_rfl) ?_
              apply Facts.Lex.exact [] (.bool true) (by kernel_rfl)
              · intro u W hC _
                unfold Facts.one
                go_simp
                exact ((HAL.out W).mono fun e w' ⟨he, hg⟩ => ⟨_, he, hg, rfl⟩)
              simp only [Act.put, List.setIfInBounds_toArray, List.set_cons_zero, List.set_cons_succ, Nat.zero_add]
              iterate 2
                apply Facts.Lex.exact [] _ (by kernel_rfl)
                · intro u W hC _
                  unfold Facts.one
                  go_simp
                  first | exact ⟨Grew.refl _, rfl⟩ | rfl
                simp only [Act.put, List.setIfInBounds_toArray, List.set_cons_zero, List.set_cons_succ, Nat.reduceAdd]
              apply Facts.Lex.exact [] (.bool true) (by kernel_rfl)
              · intro u W hC _
                unfold Facts.one
                go_simp
                exact ((HRT.out W (HI4.out.grew hC)).mono fun e w' ⟨he, hg⟩ => ⟨_, he, hg, rfl⟩)
              simp only [Act.put, List.setIfInBounds_toArray, List.set_cons_zero, List.set_cons_succ, Nat.reduceAdd]
              iterate 4
                apply Facts.Lex.exact [] _ (by kernel_rfl)
                · intro u W hC _
                  unfold Facts.one
                  go_simp
                  first | exact ⟨Grew.refl _, rfl⟩ | rfl
                simp only [Act.put, List.setIfInBounds_toArray, List.set_cons_zero, List.set_cons_succ, Nat.reduceAdd]
              apply Facts.Lex.exact [] _ (by kernel_rfl)
              · intro u W hC _
                unfold Facts.one
                go_simp
                first | exact ⟨Grew.refl _, rfl⟩ | rfl
              simp only [Act.put, List.setIfInBounds_toArray, List.set_cons_zero, List.set_cons_succ, Nat.reduceAdd]
              repeat
                apply Facts.Lex.exact [] _ (by kernel_rfl)
                · intro u W hC _
                  unfold Facts.one
                  go_simp
                  first | exact ⟨Grew.refl _, rfl⟩ | rfl
                simp only [Act.put, List.setIfInBounds_toArray, List.set_cons_zero, List.set_cons_succ, Nat.reduceAdd]

              refine Facts.Lex.done fun u W2 hC hL => ?_

              have G5 := Lib.hid (G4.out.trans hC)
              clear hC hL
              go_wp2
              go_returns
              exact ⟨rfl, G5.out⟩

      · have hil1 : ¬ ((i : Int) < (l.length : Int)) := by omega
        subst hwr0
        clear hig hil
        go_wp2
        go_loopg [12] G.length (fun g2 s12 wx => ∃ k : Nat, k + g2 = G.length ∧ s12 = .int .i64 k ∧ Hid (Grew wr0 wx))
        case atStart => exact ⟨0, by omega, rfl, Lib.hid (Grew.refl _)⟩
        case round =>
          obtain ⟨k, hkg, rfl, HGk⟩ := hrel
          have HI3 := Lib.hid (HI.out.grew HGk.out)
          have G3 := Lib.hid (HG.out.trans HGk.out)
          cases gk with
          | succ g2 =>
            have hkl : k < G.length := by omega
            have hkz : (k : Int) < (G.length : Int) := by omega
            have HKM : Hid (k + 1 + g2 = G.length) := Lib.hid (by omega)
            have HKW := Lib.hid (w60 (show k ≤ 60 by have := HGL.out; omega))
            have HSX := Lib.hid (HLG.out.size.at hkl)
            have HBY := Lib.hid (bytes_any (ee G k) HSX.out)
            have HRX := Lib.hid (fun W v (hr : Rd Al W v (bytesP (ee G k))) => read_any v (bytesP (ee G k)) W hr (by unfold bytesP; split <;> simp [encE, fl, be_length]))
            have hre := read_enc (right_ok HLG.out.right hkl) HSX.out
            rw [hre] at HRX
            unfold AnsR at HRX
            have HXS := Lib.hid (ee_get hkl)
            have HNK := Lib.hid (neE (ee G k))
            obtain ⟨ad, c8, e8, _, d0, d1, d2, d3, d4, d5, d6, d7, d8, d9⟩ := Ens_at HI3.out (ee_get hkl)
            injection e8 with e1 e2 e3
            subst e1 e3
            clear e2 hre hkg HSX
            generalize bytesP (ee G k) = BL at *
            generalize ee G k = X at *
            obtain ⟨r, ln, lb, wh, sd, bs, qt, qn, pr, st⟩ := X
            unfold env at HBY HRX HNK
            simp only at HBY HRX HNK HXS d0 d1 d2 d3 d4 d5 d6 d7 d8 d9
            go_wp2_with fail
            refine (HBY.out _).mono ?_
            rintro e w3 ⟨v3, rfl, ho, hg⟩
            have G4 := Lib.hid (HGk.out.trans hg)
            have OB := Lib.hid ho.rd
            obtain ⟨A3, c3, rfl, _⟩ := id OB.out
            clear ho hg d0 d1 d2 d3 d4 d5 d6 d7 d8 d9
            go_wp2_with fail
            refine (HRX.out _ _ OB.out).mono ?_
            rintro e w4 ⟨rfl, hg⟩
            have GN : Grew w4 (w4.alloc (.cells #[.int .u64 (r : Int), .int .i64 ln, .int .i64 lb, .int .i64 wh, .int .i64 sd, .int .i64 bs, .int .i64 qt, .int .u64 (qn : Int), .int .u64 (pr : Int), .int .i64 st] 25)) := by unfold Grew; go_grown
            have G5 := Lib.hid (G4.out.trans (hg.trans GN))
            have BZ := Lib.hid (blk_new w4 (.cells #[.int .u64 (r : Int), .int .i64 ln, .int .i64 lb, .int .i64 wh, .int .i64 sd, .int .i64 bs, .int .i64 qt, .int .u64 (qn : Int), .int .u64 (pr : Int), .int .i64 st] 25))
            obtain ⟨ad2, c8, e8, _, d0, d1, d2, d3, d4, d5, d6, d7, d8, d9⟩ := Ens_at (HI.out.grew G5.out) HXS.out
            injection e8 with e1 e2 e3
            injection e1 with e1
            subst e1
            clear e2 e3 hg GN OB HBY HRX
            simp only at d0 d1 d2 d3 d4 d5 d6 d7 d8 d9
            go_wp2
            refine Facts.wp_region_text (by kernel_rfl) (by kernel_rfl) ?_
            repeat
              apply Facts.Lex.exact [] _ (by kernel_rfl)
              · intro u W hC _
                obtain ⟨b0, b1, b2, b3, b4, b5, b6, b7, b8, b9⟩ := ten_c (blk_keep BZ.out hC)
                have j0 := cellG hC d0
                have j1 := cellG hC d1
                have j2 := cellG hC d2
                have j3 := cellG hC d3
                have j4 := cellG hC d4
                have j5 := cellG hC d5
                have j6 := cellG hC d6
                have j7 := cellG hC d7
                have j8 := cellG hC d8
                have j9 := cellG hC d9
                have hne := HNK.out W
                unfold Facts.one
                go_simp
                first | exact ⟨Grew.refl _, rfl⟩ | rfl
              simp only [Act.put, List.setIfInBounds_toArray, List.set_cons_zero, List.set_cons_succ, Nat.zero_add, Nat.reduceAdd]

            refine Facts.Lex.done fun u W2 hC hL => ?_

            have G6 := Lib.hid (G5.out.trans hC)
            clear hC hL d0 d1 d2 d3 d4 d5 d6 d7 d8 d9
            go_wp2
            go_roundg g2
            case measure => omega
            case rel => exact ⟨k + 1, HKM.out, by first | (simp; done) | rw [HKW.out], G6⟩
          | zero =>
            have hkz : ¬ ((k : Int) < (G.length : Int)) := by omega
            have HRT := Lib.hid (fun W (hg : Ens W (.slice AG G.length cG) G) => right_any _ G W hg HLG.out.size (by have := HGL.out; omega))
            have hrg := HLG.out.right
            rw [hrg] at HRT
            obtain ⟨⟨Y, er⟩, hP⟩ : ∃ P, readP b = P := ⟨_, rfl⟩
            have HP := Lib.hid hP
            have HSZ : Hid (er = 0 → SzE Y) := Lib.hid (fun h0 => by
              have h1 := hP
              rw [h0] at h1
              unfold readP at h1
              split at h1
              · split at h1
                · have e : decE b = Y := congrArg Prod.fst h1
                  rw [← e]
                  exact sz_dec b
                · injection h1 with _ h2; cases h2
              · rename_i hf
                injection h1 with _ h2
                exact absurd h2 hf)
            rw [hP] at HRDB
            unfold AnsR at HRDB
            clear hP hkg hrg
            by_cases her : er = 0
            · subst her
              obtain ⟨hok, hby⟩ := enc_read HP.out
              have HMY := Lib.hid (may_any Y (HSZ.out rfl))
              have HBY := Lib.hid (bytes_any Y (HSZ.out rfl))
              rw [hok] at HMY
              rw [hby] at HBY
              clear hok hby HSZ HP
              obtain ⟨r', ln', lb', wh', sd', bs', qt', qn', pr', st'⟩ := Y
              unfold env at HMY HBY HRDB
              simp only at HMY HBY HRDB
              go_wp2_with fail
              refine (HRDB.out _ G3.out).mono ?_
              rintro e w3 ⟨rfl, hg⟩
              have GN : Grew w3 (w3.alloc (.cells #[.int .u64 (r' : Int), .int .i64 ln', .int .i64 lb', .int .i64 wh', .int .i64 sd', .int .i64 bs', .int .i64 qt', .int .u64 (qn' : Int), .int .u64 (pr' : Int), .int .i64 st'] 25)) := by unfold Grew; go_grown
              have G4 := Lib.hid (G3.out.trans (hg.trans GN))
              have HI4 := Lib.hid (HI3.out.grew (hg.trans GN))
              have HB4 := Lib.hid (HBB.out.grew G4.out)
              have BZ := Lib.hid (blk_new w3 (.cells #[.int .u64 (r' : Int), .int .i64 ln', .int .i64 lb', .int .i64 wh', .int .i64 sd', .int .i64 bs', .int .i64 qt', .int .u64 (qn' : Int), .int .u64 (pr' : Int), .int .i64 st'] 25))
              clear hg GN HRDB
              go_wp2
              refine Facts.wp_region_text (by kernel_rfl) (by kernel_rfl) ?_
              apply Facts.Lex.exact [] (.bool true) (by kernel_rfl)
              · intro u W hC _
                unfold Facts.one
                go_simp
                exact ((HAL.out W).mono fun e w' ⟨he, hg⟩ => ⟨_, he, hg, rfl⟩)
              simp only [Act.put, List.setIfInBounds_toArray, List.set_cons_zero, List.set_cons_succ, Nat.zero_add]
              iterate 2
                apply Facts.Lex.exact [] _ (by kernel_rfl)
                · intro u W hC _
                  unfold Facts.one
                  go_simp
                  first | exact ⟨Grew.refl _, rfl⟩ | rfl
                simp only [Act.put, List.setIfInBounds_toArray, List.set_cons_zero, List.set_cons_succ, Nat.reduceAdd]
              apply Facts.Lex.exact [] (.bool true) (by kernel_rfl)
              · intro u W hC _
                unfold Facts.one
                go_simp
                exact ((HRT.out W (HI4.out.grew hC)).mono fun e w' ⟨he, hg⟩ => ⟨_, he, hg, rfl⟩)
              simp only [Act.put, List.setIfInBounds_toArray, List.set_cons_zero, List.set_cons_succ, Nat.reduceAdd]
              iterate 4
                apply Facts.Lex.exact [] _ (by kernel_rfl)
                · intro u W hC _
                  unfold Facts.one
                  go_simp
                  first | exact ⟨Grew.refl _, rfl⟩ | rfl
                simp only [Act.put, List.setIfInBounds_toArray, List.set_cons_zero, List.set_cons_succ, Nat.reduceAdd]
              apply Facts.Lex.exact [] _ (by kernel_rfl)
              · intro u W hC _
                unfold Facts.one
                go_simp
                first | exact ⟨Grew.refl _, rfl⟩ | rfl
              simp only [Act.put, List.setIfInBounds_toArray, List.set_cons_zero, List.set_cons_succ, Nat.reduceAdd]
              apply Facts.Lex.exact [] _ (by kernel_rfl)
              · intro u W hC _
                obtain ⟨b0, b1, b2, b3, b4, b5, b6, b7, b8, b9⟩ := ten_c (blk_keep BZ.out hC)
                unfold Facts.one
                go_simp
                first | exact ⟨Grew.refl _, rfl⟩ | rfl
              simp only [Act.put, List.setIfInBounds_toArray, List.set_cons_zero, List.set_cons_succ, Nat.reduceAdd]
              apply Facts.Lex.exact [] (.bool true) (by kernel_rfl)
              · intro u W hC _
                unfold Facts.one
                go_simp
                exact ((HMY.out W).mono fun e w' ⟨he, hg⟩ => ⟨_, he, hg, rfl⟩)
              simp only [Act.put, List.setIfInBounds_toArray, List.set_cons_zero, List.set_cons_succ, Nat.reduceAdd]
              apply Facts.Lex.exact [] _ (by kernel_rfl)
              · intro u W hC _
                unfold Facts.one
                go_simp
                first | exact ⟨Grew.refl _, rfl⟩ | rfl
              simp only [Act.put, List.setIfInBounds_toArray, List.set_cons_zero, List.set_cons_succ, Nat.reduceAdd]
              apply Facts.Lex.exact [] _ (by kernel_rfl)
              · intro u W hC _
                obtain ⟨b0, b1, b2, b3, b4, b5, b6, b7, b8, b9⟩ := ten_c (blk_keep BZ.out hC)
                unfold Facts.one
                go_simp
                first | exact ⟨Grew.refl _, rfl⟩ | rfl
              simp only [Act.put, List.setIfInBounds_toArray, List.set_cons_zero, List.set_cons_succ, Nat.reduceAdd]
              refine Facts.Lex.know [] (fun v w => Rd Al w v b) (by kernel_rfl) (fun _ _ _ h hg => h.grew hg) ?_ ?_
              · intro u W hC hK
                clear hK
                have hN := HBY.out W
                unfold Facts.one
                go_simp
                refine hN.mono ?_
                rintro e w' ⟨v', rfl, hr, hg⟩
                exact ⟨_, rfl, hg, hr.rd⟩
              simp only [Act.put, List.setIfInBounds_toArray, List.set_cons_zero, List.set_cons_succ, Nat.reduceAdd]
              apply Facts.Lex.exact [13] (.string ⟨b.toArray⟩) (by kernel_rfl)
              · intro u W hC hK
                have hcv := conv_s (show Rd Al W (u 13) b from hK.1)
                clear hK
                unfold Facts.one
                go_simp
                first | exact ⟨Grew.refl _, rfl⟩ | rfl
              simp only [Act.put, List.setIfInBounds_toArray, List.set_cons_zero, List.set_cons_succ, Nat.reduceAdd]
              apply Facts.Lex.exact [] _ (by kernel_rfl)
              · intro u W hC _
                unfold Facts.one
                go_simp
                first | exact ⟨Grew.refl _, rfl⟩ | rfl
              simp only [Act.put, List.setIfInBounds_toArray, List.set_cons_zero, List.set_cons_succ, Nat.reduceAdd]
              apply Facts.Lex.exact [] (.string ⟨b.toArray⟩) (by kernel_rfl)
              · intro u W hC hK
                have hcv := conv_s (HB4.out.grew hC)
                clear hK
                unfold Facts.one
                go_simp
                first | exact ⟨Grew.refl _, rfl⟩ | rfl
              simp only [Act.put, List.setIfInBounds_toArray, List.set_cons_zero, List.set_cons_succ, Nat.reduceAdd]
              iterate 5
                apply Facts.Lex.exact [] _ (by kernel_rfl)
                · intro u W hC _
                  unfold Facts.one
                  go_simp
                  first | exact ⟨Grew.refl _, rfl⟩ | rfl
                simp only [Act.put, List.setIfInBounds_toArray, List.set_cons_zero, List.set_cons_succ, Nat.reduceAdd]
              refine Facts.Lex.done fun u W2 hC hL => ?_

              have G5 := Lib.hid (G4.out.trans hC)
              clear hC hL
              go_wp2
              go_returns
              exact ⟨rfl, G5.out⟩
            · have her1 : (er == 0) = false := by simp; exact her
              have her2 : (er != 0) = true := by simp; exact her
              clear her HSZ HP
              obtain ⟨r', ln', lb', wh', sd', bs', qt', qn', pr', st'⟩ := Y
              unfold env at HRDB
              simp only at HRDB
              go_wp2_with fail
              refine (HRDB.out _ G3.out).mono ?_
              rintro e w3 ⟨rfl, hg⟩
              have GN : Grew w3 (w3.alloc (.cells #[.int .u64 (r' : Int), .int .i64 ln', .int .i64 lb', .int .i64 wh', .int .i64 sd', .int .i64 bs', .int .i64 qt', .int .u64 (qn' : Int), .int .u64 (pr' : Int), .int .i64 st'] 25)) := by unfold Grew; go_grown
              have G4 := Lib.hid (G3.out.trans (hg.trans GN))
              have HI4 := Lib.hid (HI3.out.grew (hg.trans GN))
              clear hg GN HRDB
              go_wp2
              refine Facts.wp_region_text (by kernel_rfl) (by kernel_rfl) ?_
              apply Facts.Lex.exact [] (.bool true) (by kernel_rfl)
              · intro u W hC _
                unfold Facts.one
                go_simp
                exact ((HAL.out W).mono fun e w' ⟨he, hg⟩ => ⟨_, he, hg, rfl⟩)
              simp only [Act.put, List.setIfInBounds_toArray, List.set_cons_zero, List.set_cons_succ, Nat.zero_add]
              iterate 2
                apply Facts.Lex.exact [] _ (by kernel_rfl)
                · intro u W hC _
                  unfold Facts.one
                  go_simp
                  first | exact ⟨Grew.refl _, rfl⟩ | rfl
                simp only [Act.put, List.setIfInBounds_toArray, List.set_cons_zero, List.set_cons_succ, Nat.reduceAdd]
              apply Facts.Lex.exact [] (.bool true) (by kernel_rfl)
              · intro u W hC _
                unfold Facts.one
                go_simp
                exact ((HRT.out W (HI4.out.grew hC)).mono fun e w' ⟨he, hg⟩ => ⟨_, he, hg, rfl⟩)
              simp only [Act.put, List.setIfInBounds_toArray, List.set_cons_zero, List.set_cons_succ, Nat.reduceAdd]
              iterate 4
                apply Facts.Lex.exact [] _ (by kernel_rfl)
                · intro u W hC _
                  unfold Facts.one
                  go_simp
                  first | exact ⟨Grew.refl _, rfl⟩ | rfl
                simp only [Act.put, List.setIfInBounds_toArray, List.set_cons_zero, List.set_cons_succ, Nat.reduceAdd]
              apply Facts.Lex.exact [] _ (by kernel_rfl)
              · intro u W hC _
                unfold Facts.one
                go_simp
                first | exact ⟨Grew.refl _, rfl⟩ | rfl
              simp only [Act.put, List.setIfInBounds_toArray, List.set_cons_zero, List.set_cons_succ, Nat.reduceAdd]
              repeat
                apply Facts.Lex.exact [] _ (by kernel_rfl)
                · intro u W hC _
                  unfold Facts.one
                  go_simp
                  first | exact ⟨Grew.refl _, rfl⟩ | rfl
                simp only [Act.put, List.setIfInBounds_toArray, List.set_cons_zero, List.set_cons_succ, Nat.reduceAdd]

              refine Facts.Lex.done fun u W2 hC hL => ?_

              have G5 := Lib.hid (G4.out.trans hC)
              clear hC hL
              go_wp2
              go_returns
              exact ⟨rfl, G5.out⟩

    | succ g =>
      have hiM : i < M := by omega
      have HIM : Hid (i + 1 + g = M) := Lib.hid (by omega)
      have hil : (i : Int) < (l.length : Int) := by have := HM1.out; omega
      have hi60 : (i : Int) < 60 := by have := HM2.out; omega
      have HI60 : Hid (i < 60) := Lib.hid (by omega)
      have hix : i < l.length := by omega
      have HW := Lib.hid (w60 (show i ≤ 60 by omega))
      have hx := ee_get hix
      have HXS := Lib.hid (HZ.out.at hix)
      have HADD := Lib.hid (fun W (hg : Ens W (.slice AG G.length cG) G) => add_any _ G most (ee l i) W hg HLG.out.size HXS.out (by have := HLG.out.len; omega))
      obtain ⟨ad, c8, e8, _, d0, d1, d2, d3, d4, d5, d6, d7, d8, d9⟩ := Ens_at (HL.out.grew HG.out) hx
      injection e8 with e1 e2 e3
      subst e1 e3
      clear e2 hix hiM
      have HX := Lib.hid hx
      clear hx
      have HGL := Lib.hid (show G.length ≤ 60 by have := HLG.out.len; omega)
      obtain ⟨X, hX⟩ : ∃ X, ee l i = X := ⟨_, rfl⟩
      rw [hX] at HADD HX HXS d0 d1 d2 d3 d4 d5 d6 d7 d8 d9
      clear hX
      obtain ⟨⟨R, er⟩, hP⟩ : ∃ P, addP G most X = P := ⟨_, rfl⟩
      have HP := Lib.hid hP
      rw [hP] at HADD
      clear hP hig
      have HNE := Lib.hid (neE X)
      have HXX : Hid (X = X) := Lib.hid rfl
      obtain ⟨r, ln, lb, wh, sd, bs, qt, qn, pr, st⟩ := X
      unfold env at HADD HNE
      simp only at HADD HNE d0 d1 d2 d3 d4 d5 d6 d7 d8 d9
      go_wp2_with fail
      refine (HADD.out _ HI.out).mono ?_
      rintro e w2 ⟨v9, rfl, hi, hg⟩
      have HI9 := Lib.hid hi
      simp only at HI9
      have G2 := Lib.hid (HG.out.trans hg)
      have HI2 := Lib.hid (HI.out.grew hg)
      clear hg hi HADD
      simp only
      by_cases her : er = 0
      · subst her
        obtain ⟨hR, hRR, hlt⟩ := add_ok HP.out
        have HRR := Lib.hid hRR
        subst hR
        have HEQL : Hid ((G ++ [⟨r, ln, lb, wh, sd, bs, qt, qn, pr, st⟩] : List En).length = G.length + 1) := Lib.hid (by simp)
        have HATL := Lib.hid (ee_at_snoc G ⟨r, ln, lb, wh, sd, bs, qt, qn, pr, st⟩)
        have HLTS := Lib.hid (fun k (hk : k < G.length) => ee_lt_snoc G ⟨r, ln, lb, wh, sd, bs, qt, qn, pr, st⟩ hk)
        have HSN := Lib.hid (HLG.out.snoc HXS.out HRR.out)
        clear hRR HRR
        generalize (G ++ [⟨r, ln, lb, wh, sd, bs, qt, qn, pr, st⟩] : List En) = R at *
        obtain ⟨A9, c9, rfl, _⟩ := HI9.out.slice
        have hRL := HEQL.out
        rw [hRL]
        clear hRL
        have hw1 : wrap64 ((G.length : Int) + 1) = ((G.length + 1 : Nat) : Int) := w60 HGL.out
        have hm1 : decide (most < ((G.length + 1 : Nat) : Int)) = false := most_ok hlt
        have hgl : (G.length : Int) < ((G.length + 1 : Nat) : Int) := lt_cast _
        have hw2 : IntKind.i64.wrap ((G.length : Int) + 1) = (G.length : Int) + 1 := w60b HGL.out
        have hm2 : decide (most < (G.length : Int) + 1) = false := most_ok2 hlt
        have hgl2 : (G.length : Int) < (G.length : Int) + 1 := lt_cast2 _
        clear d0 d1 d2 d3 d4 d5 d6 d7 d8 d9 hlt
        obtain ⟨ad3, c3, e8, _, p0, p1, p2, p3, p4, p5, p6, p7, p8, p9⟩ := Ens_at HI9.out HATL.out
        injection e8 with e1 e2 e3
        subst e1 e3
        clear e2
        obtain ⟨ad2, c8, e8, _, d0, d1, d2, d3, d4, d5, d6, d7, d8, d9⟩ := Ens_at (HL.out.grew G2.out) HX.out
        injection e8 with e1 e2 e3
        injection e1 with e1
        subst e1
        clear e2 e3
        simp only at p0 p1 p2 p3 p4 p5 p6 p7 p8 p9 d0 d1 d2 d3 d4 d5 d6 d7 d8 d9
        go_wp2
        refine Facts.wp_region_text (by kernel_rfl) (by kernel_rfl) ?_
        repeat
          apply Facts.Lex.exact [] _ (by kernel_rfl)
          · intro u W hC _
            have j0 := cellG hC d0
            have j1 := cellG hC d1
            have j2 := cellG hC d2
            have j3 := cellG hC d3
            have j4 := cellG hC d4
            have j5 := cellG hC d5
            have j6 := cellG hC d6
            have j7 := cellG hC d7
            have j8 := cellG hC d8
            have j9 := cellG hC d9
            have k0 := cellG hC p0
            have k1 := cellG hC p1
            have k2 := cellG hC p2
            have k3 := cellG hC p3
            have k4 := cellG hC p4
            have k5 := cellG hC p5
            have k6 := cellG hC p6
            have k7 := cellG hC p7
            have k8 := cellG hC p8
            have k9 := cellG hC p9
            have hne := HNE.out W
            unfold Facts.one
            go_simp
            first | exact ⟨Grew.refl _, rfl⟩ | rfl
          simp only [Act.put, List.setIfInBounds_toArray, List.set_cons_zero, List.set_cons_succ, Nat.zero_add, Nat.reduceAdd]

        refine Facts.Lex.done fun u W2 hC hL => ?_

        have G3 := Lib.hid (G2.out.trans hC)
        have HI3 := Lib.hid (HI2.out.grew hC)
        have HI93 := Lib.hid (HI9.out.grew hC)
        clear hC hL p0 p1 p2 p3 p4 p5 p6 p7 p8 p9 d0 d1 d2 d3 d4 d5 d6 d7 d8 d9 hw1 hm1 hgl hw2 hm2 hgl2
        go_wp2
        go_loopg [11] G.length (fun g2 s11 wx => ∃ k : Nat, k + g2 = G.length ∧ s11 = .int .i64 k ∧ Hid (Grew W2 wx))
        case atStart => exact ⟨0, by omega, rfl, Lib.hid (Grew.refl _)⟩
        case round =>
          obtain ⟨k, hkg, rfl, HGk⟩ := hrel
          cases gk with
          | zero =>
            have hkz : ¬ ((k : Int) < (G.length : Int)) := by omega
            have HI5 : Hid (Ens wr (.slice (some ad3) (G.length + 1) c9) R) := Lib.hid (by
              have := HI93.out.grew HGk.out
              rw [← HEQL.out]
              exact this)
            have G5 := Lib.hid (G3.out.trans HGk.out)
            clear hkg
            go_wp2
            go_roundg g
            case measure => omega
            case rel => exact ⟨i + 1, _, R, HIM.out, by first | (simp; done) | rw [HW.out], rfl, HSN, HI5, G5⟩
          | succ g2 =>
            have hkl : k < G.length := by omega
            have hkz : (k : Int) < (G.length : Int) := by omega
            have hkz2 : (k : Int) < ((G.length + 1 : Nat) : Int) := by omega
            have hkz3 : (k : Int) < (G.length : Int) + 1 := by omega
            have HKM : Hid (k + 1 + g2 = G.length) := Lib.hid (by omega)
            have HKW := Lib.hid (w60 (show k ≤ 60 by have := HGL.out; omega))
            obtain ⟨ad4, c4, e8, _, p0, p1, p2, p3, p4, p5, p6, p7, p8, p9⟩ := Ens_at (HI93.out.grew HGk.out) (HLTS.out k hkl)
            injection e8 with e1 e2 e3
            injection e1 with e1
            subst e1
            clear e2 e3
            obtain ⟨ad5, c5, e8, _, d0, d1, d2, d3, d4, d5, d6, d7, d8, d9⟩ := Ens_at (HI3.out.grew HGk.out) (ee_get hkl)
            injection e8 with e1 e2 e3
            subst e1 e3
            clear e2 hkl hkg
            have HNK := Lib.hid (neE (ee G k))
            unfold env at HNK
            generalize ee G k = y at *
            obtain ⟨r', ln', lb', wh', sd', bs', qt', qn', pr', st'⟩ := y
            simp only at HNK p0 p1 p2 p3 p4 p5 p6 p7 p8 p9 d0 d1 d2 d3 d4 d5 d6 d7 d8 d9
            go_wp2
            refine Facts.wp_region_text (by kernel_rfl) (by kernel_rfl) ?_
            repeat
              apply Facts.Lex.exact [] _ (by kernel_rfl)
              · intro u W hC _
                have j0 := cellG hC d0
                have j1 := cellG hC d1
                have j2 := cellG hC d2
                have j3 := cellG hC d3
                have j4 := cellG hC d4
                have j5 := cellG hC d5
                have j6 := cellG hC d6
                have j7 := cellG hC d7
                have j8 := cellG hC d8
                have j9 := cellG hC d9
                have k0 := cellG hC p0
                have k1 := cellG hC p1
                have k2 := cellG hC p2
                have k3 := cellG hC p3
                have k4 := cellG hC p4
                have k5 := cellG hC p5
                have k6 := cellG hC p6
                have k7 := cellG hC p7
                have k8 := cellG hC p8
                have k9 := cellG hC p9
                have hne := HNK.out W
                unfold Facts.one
                go_simp
                first | exact ⟨Grew.refl _, rfl⟩ | rfl
              simp only [Act.put, List.setIfInBounds_toArray, List.set_cons_zero, List.set_cons_succ, Nat.zero_add, Nat.reduceAdd]

            refine Facts.Lex.done fun u W2 hC hL => ?_

            have GK2 := Lib.hid (HGk.out.trans hC)
            clear hC hL p0 p1 p2 p3 p4 p5 p6 p7 p8 p9 d0 d1 d2 d3 d4 d5 d6 d7 d8 d9 hkz2 hkz3
            go_wp2
            go_roundg g2
            case measure => omega
            case rel => exact ⟨k + 1, HKM.out, by first | (simp; done) | rw [HKW.out], GK2⟩
      · have her1 : (er == 0) = false := by simp; exact her
        have her2 : (er != 0) = true := by simp; exact her
        obtain ⟨A9, c9, rfl, _⟩ := HI9.out.slice
        have HKP := Lib.hid HLG.out.keep
        clear her d0 d1 d2 d3 d4 d5 d6 d7 d8 d9
        go_wp2
        go_roundg g
        case measure => omega
        case rel => exact ⟨i + 1, _, G, HIM.out, by first | (simp; done) | rw [HW.out], rfl, HKP, HI2, G2⟩
end Go.Proofs.Ytmnfajplfnfgpab.UT
