/-
  ThingStays: any deeds, one behind the other.
  Conditions: those that each lemma names.
-/
import Derived.Test.YtaolallfmjjoeaaTS
import Derived.Test.YtaolallfmjjoeaaTN
import Derived.Deep.DeepCutAuto
import Derived.Deep.CutBlock
namespace Go.Proofs.Ytaolallfmjjoeaa.TU
set_option maxRecDepth 100000
open Go Go.RowKit Go.Lib Go.Proofs.Ytaolallfmjjoeaa Go.Proofs.Ytaolallfmjjoeaa.Facts Go.Proofs.Ytaolallfmjjoeaa.Ints Go.Proofs.Ytaolallfmjjoeaa.TI Go.Proofs.Ytaolallfmjjoeaa.TP Go.Proofs.Ytaolallfmjjoeaa.TB Go.Proofs.Ytaolallfmjjoeaa.TC Go.Proofs.Ytaolallfmjjoeaa.TD Go.Proofs.Ytaolallfmjjoeaa.TE Go.Proofs.Ytaolallfmjjoeaa.TF Go.Proofs.Ytaolallfmjjoeaa.TG Go.Proofs.Ytaolallfmjjoeaa.TH Go.Proofs.Ytaolallfmjjoeaa.TJ Go.Proofs.Ytaolallfmjjoeaa.TK Go.Proofs.Ytaolallfmjjoeaa.TL Go.Proofs.Ytaolallfmjjoeaa.TM Go.Proofs.Ytaolallfmjjoeaa.TN Go.Proofs.Ytaolallfmjjoeaa.TQ Go.Proofs.Ytaolallfmjjoeaa.TS Go.Proofs.Ytaolallfmjjoeaa.Bytes


theorem up1' {z : Int} (h : 0 ≤ z ∧ z ≤ 12) : wrap64 (z + 1) = z + 1 := by unfold wrap64; omega
theorem dn1 {z : Int} (h : 0 ≤ z ∧ z ≤ 12) : wrap64 (z - 1) = z - 1 := by unfold wrap64; omega
theorem add2 {y z : Int} (h : 0 ≤ z ∧ z ≤ 12) (h2 : 0 ≤ y ∧ y ≤ 12) : wrap64 (y + z) = y + z := by unfold wrap64; omega
theorem cU_le (l : List It) (h : l.length ≤ 12) : 0 ≤ cU l ∧ cU l ≤ 12 := by
  have := sum_bound l.length (fun j => b01 (el l j).used) (fun j => b01_le _)
  unfold cU
  omega

set_option maxHeartbeats 8000000 in
theorem law (k0 : Nat) (h255 : k0 ≤ 255) (v2 : Value) (D : List De) (w : World) (hD : Ds w v2 D) (hzD : ∀ x ∈ D, x.name.size ≤ 9223372036854775807) : Calls Try.prog 6 #[.int .u8 (k0 : Int), v2] w fun e w' => e = .returned (.bool true) ∧ Grew w w' := by
  have HA := Lib.hid alive_any
  have HD := Lib.hid hD
  have HZD := Lib.hid hzD
  obtain ⟨AD, cD, rfl, hcD, hcM⟩ := hD.slice
  have HCM : Hid (D.length ≤ maxLen) := Lib.hid (Nat.le_trans hcD hcM)
  obtain ⟨m, hm⟩ : ∃ m, m = k0 % 13 := ⟨_, rfl⟩
  have hm12 : m ≤ 12 := by omega
  have hrem : Int.tmod (k0 : Int) 13 = (m : Int) := by rw [hm]; rfl
  have hwc : wrap64 (k0 : Int) = (k0 : Int) := by unfold wrap64; omega
  have hmk := mk_items m (by omega)
  have HM12 := Lib.hid hm12
  have ga : Grew w (w.alloc (.cells ((List.replicate m zit).flatMap ics).toArray 67)) := by unfold Grew; go_grown
  have hi0 := its_made w (List.replicate m zit) (by rw [List.length_replicate]; omega)
  rw [List.length_replicate] at hi0
  have HI0 : Hid (Its (w.alloc (.cells ((List.replicate m zit).flatMap ics).toArray 67)) (.slice (some ⟨w.heap.size, 0, none⟩) m m) (List.replicate m zit)) := Lib.hid hi0
  have HG0 := Lib.hid ga
  clear ga hi0 hD hzD hm hm12 hcD hcM
  go_enter Try.func6, Try.ntmps6
  go_upto_block 0 with fail
  clear hrem hwc hmk
  generalize w.alloc (.cells ((List.replicate m zit).flatMap ics).toArray 67) = wm at HI0 HG0
  go_cut [5, 6, 7] (fun s5 s6 s7 wx => ∃ (now : List It) (A : Option Addr) (c : Nat) (z : Int), s5 = .slice A m c ∧ s6 = .int .i64 z ∧ Hid (Its wx (.slice A m c) now) ∧ Hid (okL now = true ∧ Sz now ∧ now.length = m ∧ z = cU now) ∧ Hid (Grew w wx))
  case first =>
    go_wp2_with fail
    go_loopg [5, 6, 7] D.length (fun g s5 s6 s7 wx => ∃ (i : Nat) (now : List It) (A : Option Addr) (c : Nat) (z : Int), s5 = .slice A m c ∧ s6 = .int .i64 z ∧ s7 = .int .i64 i ∧ D.length - i ≤ g ∧ Hid (Its wx (.slice A m c) now) ∧ Hid (okL now = true ∧ Sz now ∧ now.length = m ∧ z = cU now) ∧ Hid (Grew w wx))
    case atStart => exact ⟨0, List.replicate m zit, some ⟨w.heap.size, 0, none⟩, m, 0, rfl, rfl, rfl, by omega, HI0, Lib.hid ⟨ok_zero m, sz_zero m, by simp, (cU_zero m).symm⟩, HG0⟩
    case round =>
      clear HI0 HG0
      obtain ⟨i, now, A, c, z, rfl, rfl, rfl, hgg, HI, HP, HG⟩ := hrel
      by_cases hgo : i < D.length ∧ i < 60
      · obtain ⟨hiD, hi60⟩ := hgo
        have hiz : (i : Int) < (D.length : Int) := by omega
        have hi6 : (i : Int) < 60 := by omega
        have HGG : Hid (D.length - (i + 1) < gk) := Lib.hid (by omega)
        have hwi : wrap64 ((i : Int) + 1) = ((i + 1 : Nat) : Int) := wr1 hi60 (by decide)
        have HWI := Lib.hid hwi
        have hx : D[i]? = some D[i] := List.getElem?_eq_getElem hiD
        have HX := Lib.hid (fun W (hg : Grew w W) => Ds_at (HD.out.grew hg) hx)
        obtain ⟨adD, cD', eD, _, d0, d1, d2, d3, d4, d5, d6⟩ := HX.out _ HG.out
        injection eD with eD1 _ eD3
        subst eD1 eD3
        have HDO := Lib.hid (do_any (.slice A m c) now D[i] wr HI.out HP.out.2.1 (by have := HP.out.2.2.1; have := HM12.out; omega) (HZD.out _ (List.getElem_mem hiD)))
        have HGD := Lib.hid (do_good HP.out.2.1 D[i] (HZD.out _ (List.getElem_mem hiD)))
        have HZB : Hid (0 ≤ z ∧ z ≤ 12) := Lib.hid (by rw [HP.out.2.2.2]; exact cU_le now (by rw [HP.out.2.2.1]; exact HM12.out))
        have HKD := Lib.hid (fun W (hg : Grew w W) => show W.cell? (adD.add (i * 7)) = some (.int .i64 D[i].kind) by
          obtain ⟨ad, c, e, _, h0, _⟩ := HX.out W hg
          injection e with e1 _ _
          injection e1 with e1
          subst e1
          exact h0)
        unfold dv at HDO
        generalize hr : doP now D[i] = r at *
        generalize D[i] = x at *
        clear hx hr hwi HX hgg hiD hi60
        obtain ⟨R, er⟩ := r
        go_wp2_with fail
        refine HDO.out.mono ?_
        rintro e w1 ha
        obtain ⟨A1, c1, rfl, hi, hg⟩ := ans_slice ha
        have HG1 := Lib.hid (HG.out.trans hg)
        have HI1 := Lib.hid (HI.out.grew hg)
        have HR1 := Lib.hid hi
        clear ha hi hg d0 d1 d2 d3 d4 d5 d6 HDO HI HG
        rcases HGD.out with ⟨h1, h2⟩ | ⟨h1, hgood⟩
        · replace h1 : er ≠ 0 := h1
          replace h2 : R = [] := h2
          subst h2
          have hne : (er == 0) = false := by simpa using h1
          have h0l : (([] : List It).length : Int) = 0 := rfl
          clear HGD HR1
          go_wp2
          go_roundg (D.length - (i + 1))
          case measure => exact HGG.out
          case rel => exact ⟨i + 1, now, A, c, z, rfl, rfl, by first | (simp; done) | rw [HWI.out], Nat.le_refl _, HI1, HP, HG1⟩
        · replace h1 : er = 0 := h1
          replace hgood : GoodD now R (adds x.kind) (decide (1 < x.kind)) := hgood
          subst h1
          have HGO := Lib.hid hgood
          have hRl : R.length = m := hgood.len.trans HP.out.2.2.1
          have HR2 : Hid (Its w1 (.slice A1 m c1) R) := Lib.hid (by rw [← hRl]; exact HR1.out)
          simp only [hRl]
          have HRI := Lib.hid (fun W (hg : Grew w1 W) => right_any _ R W (HR2.out.grew hg) HGO.out.sz)
          have HUN := Lib.hid (fun W (hg : Grew w1 W) => used_n _ R W (HR2.out.grew hg) (by rw [HGO.out.len, HP.out.2.2.1]; have := HM12.out; omega))
          rw [HGO.out.ok] at HRI
          have HRL := Lib.hid hRl
          clear hgood HGD hRl HR1
          have HADD : Hid (z + (if x.kind = 0 then 1 else 0) + (if x.kind = 1 then -1 else 0) = cU R) := Lib.hid (by
            rw [HGO.out.cnt, ← HP.out.2.2.2]
            unfold adds
            by_cases h0 : x.kind = 0
            · rw [if_pos h0, if_pos h0, if_neg (by omega)]; omega
            · rw [if_neg h0, if_neg h0]; omega)
          have hz1 := up1' HZB.out
          have HZ2 : Hid (x.kind = 1 → wrap64 (z + (if x.kind = 0 then 1 else 0) - 1) = z + (if x.kind = 0 then 1 else 0) - 1) := Lib.hid fun h => by
            rw [if_neg (by omega), Int.add_zero]
            exact dn1 HZB.out
          have HNM := Lib.hid HGO.out.names
          have HSM : Hid (1 < x.kind → ∀ j, (el now j).used = (el R j).used) := Lib.hid fun h => HGO.out.same (decide_eq_true h)
          have HZR : Hid (okL R = true ∧ Sz R ∧ R.length = m) := Lib.hid ⟨HGO.out.ok, HGO.out.sz, HRL.out⟩
          have HNL : Hid (now.length = m) := Lib.hid HP.out.2.2.1
          clear HGO HP HRL
          have g0 := HKD.out _ HG1.out
          generalize x.kind = kd at *
          go_upto_if 48 with fail
          go_cut [6] (fun s6 wx => s6 = .int .i64 (z + if kd = 0 then 1 else 0) ∧ wx = w1)
          case first =>
            by_cases hk0 : kd = 0
            · subst hk0
              go_wp2_with fail
              go_meet
              case rel => exact ⟨by simp, rfl⟩
            · go_wp2_with fail
              go_meet
              case rel => exact ⟨by simp [hk0], rfl⟩
          case rest =>
            obtain ⟨rfl, hw⟩ := hcut
            subst hw
            clear hz1
            generalize (z + if kd = 0 then 1 else 0) = z1 at *
            go_upto_if 56 with fail
            go_cut [6] (fun s6 wx => s6 = .int .i64 (cU R) ∧ wx = wc)
            case first =>
              by_cases hk1 : kd = 1
              · subst hk1
                have hz2 := HZ2.out rfl
                have hcu : cU R = z1 - 1 := by have := HADD.out; rw [if_pos rfl] at this; omega
                have HCU := Lib.hid hcu
                clear hcu
                go_wp2_with fail
                go_meet
                case rel => exact ⟨by rw [HCU.out]; try rw [hz2], rfl⟩
              · have hcu : cU R = z1 := by have := HADD.out; rw [if_neg hk1] at this; omega
                have HCU := Lib.hid hcu
                clear hcu
                go_wp2_with fail
                go_meet
                case rel => exact ⟨by rw [HCU.out], rfl⟩
            case rest =>
              obtain ⟨rfl, hw⟩ := hcut
              subst hw
              clear HZ2 HADD
              generalize hcR : cU R = cr at *
              have HCR := Lib.hid hcR
              clear hcR g0
              go_wp2_with fail
              refine (HRI.out _ (Grew.refl _)).mono ?_
              rintro e w2 ⟨rfl, hg⟩
              have HGa := Lib.hid hg
              clear hg
              go_wp2_with fail
              refine (HUN.out _ HGa.out).mono ?_
              rintro e w3 ⟨rfl, hg⟩
              have HGb := Lib.hid (HGa.out.trans hg)
              clear hg HRI HUN
              go_wp2
              go_loopg [10] m (fun g2 s10 wx => ∃ k : Nat, s10 = .int .i64 k ∧ k + g2 = m ∧ Hid (Grew wc wx))
              case atStart => exact ⟨0, rfl, by omega, HGb⟩
              case round =>
                obtain ⟨k, rfl, hkg, HGk⟩ := hrel
                cases gk with
                | zero =>
                  have hkz : ¬ ((k : Int) < (m : Int)) := by omega
                  have HIN : Hid (Its wr (.slice A1 m c1) R) := Lib.hid (HR2.out.grew HGk.out)
                  have HGn := Lib.hid (HG1.out.trans HGk.out)
                  clear hkg
                  go_wp2
                  go_roundg (D.length - (i + 1))
                  case measure => exact HGG.out
                  case rel => exact ⟨i + 1, R, A1, c1, cr, rfl, rfl, by first | (simp; done) | rw [HWI.out], Nat.le_refl _, HIN, Lib.hid ⟨HZR.out.1, HZR.out.2.1, HZR.out.2.2, HCR.out.symm⟩, HGn⟩
                | succ g2 =>
                  have hkl : k < m := by omega
                  have hkz : (k : Int) < (m : Int) := by omega
                  have hx1 : now[k]? = some (el now k) := by unfold el; rw [List.getElem?_eq_getElem (by rw [HNL.out]; exact hkl)]; rfl
                  have hx2 : R[k]? = some (el R k) := by unfold el; rw [List.getElem?_eq_getElem (by rw [HZR.out.2.2]; exact hkl)]; rfl
                  obtain ⟨ad1, c3, e3, _, n0, n1, _⟩ := Its_at (show Its wr (.slice A m c) now from HI1.out.grew HGk.out) hx1
                  injection e3 with e4 e4' e5
                  subst e4 e5
                  clear e4'
                  obtain ⟨ad2, c4, e6, _, x0, x1, _⟩ := Its_at (show Its wr (.slice A1 m c1) R from HR2.out.grew HGk.out) hx2
                  injection e6 with e7 e7' e8
                  subst e7 e8
                  clear e7'
                  have g1 := HKD.out _ (HG1.out.trans HGk.out)
                  have hwk : wrap64 ((k : Int) + 1) = ((k + 1 : Nat) : Int) := wr1 hkl (Nat.le_trans HM12.out (by decide))
                  have HWK := Lib.hid hwk
                  have HMK : Hid (k + 1 + g2 = m) := Lib.hid (by omega)
                  have HN1 := Lib.hid (HNM.out k)
                  have HS1 := Lib.hid (fun h => HSM.out h k)
                  clear hx1 hx2 hwk hkg hkl
                  generalize (el now k).used = u1 at *
                  generalize (el now k).name = s1 at *
                  generalize (el R k).used = u2 at *
                  generalize (el R k).name = s2 at *
                  by_cases hk : 1 < kd
                  · have hu := HS1.out hk
                    subst hu
                    cases u1 with
                    | false =>
                      clear HN1
                      go_wp2
                      refine Facts.wp_region_text (by kernel_rfl) (by kernel_rfl) ?_
                      repeat
                        apply Facts.Lex.exact [] _ (by kernel_rfl)
                        · intro u W hC _
                          have j0 := cellB hC n0
                          have j1 := cellB hC n1
                          have j2 := cellB hC x0
                          have j3 := cellB hC x1
                          have j4 := cellB hC g1
                          unfold Facts.one
                          go_simp
                          first | exact ⟨Grew.refl _, rfl⟩ | rfl
                        simp only [Act.put, List.setIfInBounds_toArray, List.set_cons_zero, List.set_cons_succ, Nat.zero_add, Nat.reduceAdd]
                      refine Facts.Lex.done fun u W2 hC hL => ?_
                      have HG5 := Lib.hid (HGk.out.trans hC)
                      clear hC hL n0 n1 x0 x1 g1
                      go_wp2
                      go_roundg g2
                      case measure => omega
                      case rel => exact ⟨k + 1, by first | (simp; done) | rw [HWK.out], HMK.out, HG5⟩

                    | true =>
                      have hs := HN1.out rfl rfl
                      subst hs
                      clear HN1
                      go_wp2
                      refine Facts.wp_region_text (by kernel_rfl) (by kernel_rfl) ?_
                      repeat
                        apply Facts.Lex.exact [] _ (by kernel_rfl)
                        · intro u W hC _
                          have j0 := cellB hC n0
                          have j1 := cellB hC n1
                          have j2 := cellB hC x0
                          have j3 := cellB hC x1
                          have j4 := cellB hC g1
                          unfold Facts.one
                          go_simp
                          first | exact ⟨Grew.refl _, rfl⟩ | rfl
                        simp only [Act.put, List.setIfInBounds_toArray, List.set_cons_zero, List.set_cons_succ, Nat.zero_add, Nat.reduceAdd]
                      refine Facts.Lex.done fun u W2 hC hL => ?_
                      have HG5 := Lib.hid (HGk.out.trans hC)
                      clear hC hL n0 n1 x0 x1 g1
                      go_wp2
                      go_roundg g2
                      case measure => omega
                      case rel => exact ⟨k + 1, by first | (simp; done) | rw [HWK.out], HMK.out, HG5⟩

                  · have hkf : decide (1 < kd) = false := decide_eq_false hk
                    clear hk
                    cases u1 with
                    | false =>
                      clear HN1
                      go_wp2
                      refine Facts.wp_region_text (by kernel_rfl) (by kernel_rfl) ?_
                      repeat
                        apply Facts.Lex.exact [] _ (by kernel_rfl)
                        · intro u W hC _
                          have j0 := cellB hC n0
                          have j1 := cellB hC n1
                          have j2 := cellB hC x0
                          have j3 := cellB hC x1
                          have j4 := cellB hC g1
                          unfold Facts.one
                          go_simp
                          first | exact ⟨Grew.refl _, rfl⟩ | rfl
                        simp only [Act.put, List.setIfInBounds_toArray, List.set_cons_zero, List.set_cons_succ, Nat.zero_add, Nat.reduceAdd]
                      refine Facts.Lex.done fun u W2 hC hL => ?_
                      have HG5 := Lib.hid (HGk.out.trans hC)
                      clear hC hL n0 n1 x0 x1 g1
                      go_wp2
                      go_roundg g2
                      case measure => omega
                      case rel => exact ⟨k + 1, by first | (simp; done) | rw [HWK.out], HMK.out, HG5⟩

                    | true =>
                      cases u2 with
                      | false =>
                        clear HN1
                        go_wp2
                        refine Facts.wp_region_text (by kernel_rfl) (by kernel_rfl) ?_
                        repeat
                          apply Facts.Lex.exact [] _ (by kernel_rfl)
                          · intro u W hC _
                            have j0 := cellB hC n0
                            have j1 := cellB hC n1
                            have j2 := cellB hC x0
                            have j3 := cellB hC x1
                            have j4 := cellB hC g1
                            unfold Facts.one
                            go_simp
                            first | exact ⟨Grew.refl _, rfl⟩ | rfl
                          simp only [Act.put, List.setIfInBounds_toArray, List.set_cons_zero, List.set_cons_succ, Nat.zero_add, Nat.reduceAdd]
                        refine Facts.Lex.done fun u W2 hC hL => ?_
                        have HG5 := Lib.hid (HGk.out.trans hC)
                        clear hC hL n0 n1 x0 x1 g1
                        go_wp2
                        go_roundg g2
                        case measure => omega
                        case rel => exact ⟨k + 1, by first | (simp; done) | rw [HWK.out], HMK.out, HG5⟩

                      | true =>
                        have hs := HN1.out rfl rfl
                        subst hs
                        clear HN1
                        go_wp2
                        refine Facts.wp_region_text (by kernel_rfl) (by kernel_rfl) ?_
                        repeat
                          apply Facts.Lex.exact [] _ (by kernel_rfl)
                          · intro u W hC _
                            have j0 := cellB hC n0
                            have j1 := cellB hC n1
                            have j2 := cellB hC x0
                            have j3 := cellB hC x1
                            have j4 := cellB hC g1
                            unfold Facts.one
                            go_simp
                            first | exact ⟨Grew.refl _, rfl⟩ | rfl
                          simp only [Act.put, List.setIfInBounds_toArray, List.set_cons_zero, List.set_cons_succ, Nat.zero_add, Nat.reduceAdd]
                        refine Facts.Lex.done fun u W2 hC hL => ?_
                        have HG5 := Lib.hid (HGk.out.trans hC)
                        clear hC hL n0 n1 x0 x1 g1
                        go_wp2
                        go_roundg g2
                        case measure => omega
                        case rel => exact ⟨k + 1, by first | (simp; done) | rw [HWK.out], HMK.out, HG5⟩

      · by_cases hiD : i < D.length
        · have hiz : (i : Int) < (D.length : Int) := by omega
          have hi6 : ¬ (i : Int) < 60 := by omega
          clear hgo hiD hgg
          go_wp2_with fail
          go_meet
          case rel => exact ⟨now, A, c, z, rfl, rfl, HI, HP, HG⟩
        · have hiz : ¬ (i : Int) < (D.length : Int) := by omega
          clear hgo hiD hgg
          go_wp2_with fail
          go_meet
          case rel => exact ⟨now, A, c, z, rfl, rfl, HI, HP, HG⟩
  case rest =>
    obtain ⟨now, A, c, z, rfl, rfl, HI, HP, HG⟩ := hcut
    have HHE := Lib.hid (fun (who : Nat) W (hg : Grew wc W) => held_any now who _ W (HI.out.grew hg) (by rw [HP.out.2.2.1]; have := HM12.out; omega))
    clear HZD HD HCM HI0 HG0
    go_wp2
    go_loopg [11, 12] 128 (fun g s11 s12 wx => ∃ (who : Nat) (y : Int), s11 = .int .i64 y ∧ s12 = .int .i64 who ∧ who + g = 128 ∧ Hid (y = sumN m (f1 now who)) ∧ Hid (Grew wc wx))
    case atStart => exact ⟨0, 0, rfl, rfl, rfl, Lib.hid (by have := held_zero HP.out.1; rw [HP.out.2.2.1] at this; exact this.symm), Lib.hid (Grew.refl _)⟩
    case round =>
      obtain ⟨who, y, rfl, rfl, hwg, HY, HGk⟩ := hrel
      cases gk with
      | succ g =>
        have hwz : (who : Int) < 128 := by omega
        have HC := Lib.hid (HHE.out who wr HGk.out)
        have hst := held_step HP.out.1 who
        have hln : ((slotsOf now (hand who)).length : Int) ≤ 12 := by
          have h1 := Nat.le_trans (List.length_filter_le (isH now (hand who)) (upto now now.length)) (upto_len now _)
          have h2 := HP.out.2.2.1
          have h3 := HM12.out
          unfold slotsOf
          omega
        rw [HP.out.2.2.1] at hst
        have hyb := sum_bound m (f1 now who) (fun j => f1_le now who j)
        rw [← HY.out] at hst hyb
        generalize slotsOf now (hand who) = a at *
        have hyw : wrap64 (y + (a.length : Int)) = y + (a.length : Int) := add2 ⟨by omega, hln⟩ ⟨hyb.1, by have := HM12.out; omega⟩
        have hww : wrap64 ((who : Int) + 1) = ((who + 1 : Nat) : Int) := wr1 (n := 128) (by omega) (by decide)
        have HWW := Lib.hid hww
        have HYW := Lib.hid hyw
        have HST : Hid (y + (a.length : Int) = sumN m (f1 now (who + 1))) := Lib.hid hst
        have HM : Hid (who + 1 + g = 128) := Lib.hid (by omega)
        clear hst hln hyb hyw hww hwg
        go_wp2_with fail
        refine HC.out.mono ?_
        rintro e w2 ⟨V, rfl, hi, hg⟩
        obtain ⟨A2, c2, rfl, _⟩ := Is.slice hi.is
        have HG2 := Lib.hid (HGk.out.trans hg)
        clear hi hg HC
        have hyw := HYW.out
        go_wp2
        go_roundg g
        case measure => omega
        case rel => exact ⟨who + 1, y + (a.length : Int), by first | (simp; done) | rw [HYW.out], by first | (simp; done) | rw [HWW.out], HM.out, HST, HG2⟩
      | zero =>
        have hwz : ¬ ((who : Int) < 128) := by omega
        have HY2 : Hid (y = sumN m (f1 now 128)) := Lib.hid (by rw [HY.out, show who = 128 by omega])
        clear HY hwg HHE
        go_wp2
        clear hwz
        go_loopg [13, 14] m (fun g s13 s14 wx => ∃ (k : Nat) (x : Int), s13 = .int .i64 x ∧ s14 = .int .i64 k ∧ k + g = m ∧ Hid (x = sumN k (out1 now)) ∧ Hid (Grew wc wx))
        case atStart => exact ⟨0, 0, rfl, rfl, by omega, Lib.hid rfl, HGk⟩
        case round =>
          clear HGk
          obtain ⟨k, x, rfl, rfl, hkg, HX, HGk⟩ := hrel
          cases gk with
          | zero =>
            have hkz : ¬ ((k : Int) < (m : Int)) := by omega
            have hall := all_told HP.out.1
            rw [HP.out.2.2.1, ← HY2.out, ← HP.out.2.2.2] at hall
            have hxe : x = sumN m (out1 now) := by rw [HX.out, show k = m by omega]
            rw [← hxe] at hall
            have hxb := sum_bound m (out1 now) (fun j => by unfold out1; split <;> omega)
            have hyb := sum_bound m (f1 now 128) (fun j => f1_le now 128 j)
            rw [← hxe] at hxb
            rw [← HY2.out] at hyb
            have hw : wrap64 (y + x) = y + x := add2 ⟨hxb.1, by have := HM12.out; omega⟩ ⟨hyb.1, by have := HM12.out; omega⟩
            have heq : ((y + x) == z) = true := by rw [beq_iff_eq]; exact hall
            have HALL := Lib.hid hall
            clear hxe hxb hyb hkg hall
            go_wp2_with fail
            refine (HA.out _).mono ?_
            rintro e w2 ⟨rfl, hg⟩
            have G2 := Lib.hid ((HG.out.trans HGk.out).trans hg)
            clear hg
            go_wp2
            go_returns
            exact ⟨by simp [HALL.out], G2.out⟩
          | succ g =>
            have hkl : k < m := by omega
            have hkz : (k : Int) < (m : Int) := by omega
            have hx : now[k]? = some (el now k) := by unfold el; rw [List.getElem?_eq_getElem (by rw [HP.out.2.2.1]; exact hkl)]; rfl
            obtain ⟨ad, c2, e, _, d0, _, d2, _⟩ := Its_at (show Its wr (.slice A m c) now from HI.out.grew HGk.out) hx
            injection e with e1 e2 e3
            subst e1 e3
            clear e2
            have hwk : wrap64 ((k : Int) + 1) = ((k + 1 : Nat) : Int) := wr1 hkl (Nat.le_trans HM12.out (by decide))
            have HWK := Lib.hid hwk
            have hb := sum_bound k (out1 now) (fun j => by unfold out1; split <;> omega)
            rw [← HX.out] at hb
            have hwx : wrap64 (x + 1) = x + 1 := up1' ⟨hb.1, by have := HM12.out; omega⟩
            have HWX := Lib.hid hwx
            have HM : Hid (k + 1 + g = m) := Lib.hid (by omega)
            have HS := Lib.hid (sum_succ k (out1 now))
            have ho : out1 now k = if (el now k).used = true ∧ ¬ (el now k).kind = 1 then 1 else 0 := rfl
            rw [ho] at HS
            clear hwk hb ho hx hkg hkl
            generalize (el now k).used = us at *
            generalize (el now k).kind = kd at *
            cases us with
            | false =>
              rw [if_neg (by simp)] at HS
              have HX2 : Hid (x = sumN (k + 1) (out1 now)) := Lib.hid (by rw [HS.out, ← HX.out]; omega)
              go_wp2
              go_roundg g
              case measure => omega
              case rel => exact ⟨k + 1, x, rfl, by first | (simp; done) | rw [HWK.out], HM.out, HX2, HGk⟩
            | true =>
              by_cases h1 : kd = 1
              · subst h1
                rw [if_neg (by simp)] at HS
                have HX2 : Hid (x = sumN (k + 1) (out1 now)) := Lib.hid (by rw [HS.out, ← HX.out]; omega)
                go_wp2
                go_roundg g
                case measure => omega
                case rel => exact ⟨k + 1, x, rfl, by first | (simp; done) | rw [HWK.out], HM.out, HX2, HGk⟩
              · rw [if_pos ⟨rfl, h1⟩] at HS
                have HX2 : Hid (x + 1 = sumN (k + 1) (out1 now)) := Lib.hid (by rw [HS.out, ← HX.out])
                go_wp2
                go_roundg g
                case measure => omega
                case rel => exact ⟨k + 1, x + 1, by first | (simp; done) | rw [HWX.out], by first | (simp; done) | rw [HWK.out], HM.out, HX2, HGk⟩
end Go.Proofs.Ytaolallfmjjoeaa.TU
