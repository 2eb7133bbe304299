/-
  AreaWhole: any turns.
  Conditions: none beyond what is read of the argument.
-/
import Derived.Test.YtbnicphegbdfnaaDS
import Derived.Test.YtbnicphegbdfnaaAOpens
namespace Go.Proofs.Ytbnicphegbdfnaa.AI2
set_option maxRecDepth 100000
open Go Go.RowKit Go.Proofs.Ytbnicphegbdfnaa Go.Proofs.Ytbnicphegbdfnaa.Facts Go.Proofs.Ytbnicphegbdfnaa.Bytes Go.Proofs.Ytbnicphegbdfnaa.DKeep Go.Proofs.Ytbnicphegbdfnaa.DSmall Go.Proofs.Ytbnicphegbdfnaa.DNew Go.Proofs.Ytbnicphegbdfnaa.Puts Go.Proofs.Ytbnicphegbdfnaa.SPure Go.Proofs.Ytbnicphegbdfnaa.JA Go.Proofs.Ytbnicphegbdfnaa.JD Go.Proofs.Ytbnicphegbdfnaa.JH Go.Proofs.Ytbnicphegbdfnaa.JQ Go.Proofs.Ytbnicphegbdfnaa.AP Go.Proofs.Ytbnicphegbdfnaa.AQ Go.Proofs.Ytbnicphegbdfnaa.AA Go.Proofs.Ytbnicphegbdfnaa.AW Go.Proofs.Ytbnicphegbdfnaa.AV Go.Proofs.Ytbnicphegbdfnaa.AC Go.Proofs.Ytbnicphegbdfnaa.DS Go.Proofs.Ytbnicphegbdfnaa.AU Go.Proofs.Ytbnicphegbdfnaa.AOpens
/-- The newest number, and what is read, wrapped. -/
structure AN (L : List Sec) (n : Nat) : Prop where
  is : anw L 0 3 = n
structure AR (L : List Sec) (s : Nat) (o : List UInt8) (q : Int) : Prop where
  is : ard L 0 3 = (s, o, q)
theorem room_three : JA.room 3 = 320 := by kernel_rfl
set_option maxHeartbeats 8000000 in
theorem law_any (w : World) (A : Option Addr) (cap : Nat) (L : List Tu) (hL : TU w A cap L) :
    Calls Try.prog 4 #[.slice A L.length cap] w fun e w' => e = .returned (.bool true) ∧ Grew w w' := by
  have HL := Lib.hid hL
  have hcap := hL.2.1
  have hlc := hL.1
  clear hL
  go_enter Try.func4, Try.ntmps4
  go_wp2_with fail
  refine (ds_new w 3 3 rfl (by omega) (by omega)).mono ?_
  rintro e w1 ⟨g, rfl, hd⟩
  have HD : Hid (DS w g (calm (DNew.blank 3)) [] w1) := Lib.hid hd
  have HNB : Hid (AN (DNew.blank 3) 0) := Lib.hid ⟨by kernel_rfl⟩
  clear hd
  go_wp2
  go_loopg [5, 6, 7, 8, 9, 10, 11, 12, 13, 14, 15, 16] 30 (fun q s5 s6 s7 s8 s9 s10 s11 s12 s13 s14 s15 s16 wx => ∃ (i : Nat) (S : List Sec) (n : Nat), i + q = 30 ∧ s5 = .int .i64 (i : Int) ∧ n ≤ i ∧ Hid (DS w g (calm S) [] wx) ∧ Hid (Ev S) ∧ Hid (S.length = 3) ∧ Hid (AN S n))
  case atStart => exact ⟨0, DNew.blank 3, 0, rfl, rfl, Nat.le_refl _, HD, Lib.hid (Ev.blank 3), Lib.hid (DNew.blank_length 3), HNB⟩
  case round =>
    obtain ⟨i, S, n, hiq, rfl, hni, HDX, HEV, HLS, HNN⟩ := hrel
    clear HD HNB
    by_cases hin : i < L.length
    · have hin' : (i : Int) < (L.length : Int) := by omega
      cases gk with
      | zero =>
        have h5 : ¬ ((i : Int) < 30) := by omega
        clear hin
        go_wp2_with fail
        refine (AH.alive_any _).mono ?_
        rintro e w2 ⟨rfl, hg⟩
        have HG2 := Lib.hid (HDX.out.gr.trans hg)
        clear hg
        go_wp2
        go_ret
        exact ⟨rfl, HG2.out⟩

      | succ q =>
        have h5 : (i : Int) < 30 := by omega
        obtain ⟨x, hx⟩ : ∃ x, L[i]? = some x := ⟨_, List.getElem?_eq_getElem hin⟩
        cases A with
        | none => have := HL.out.2.2.1 rfl; omega
        | some ad =>
          obtain ⟨vB, vK, hk0, hk1, hk2, hrb, hrk⟩ := HL.out.2.2.2 ad rfl i x hx
          obtain ⟨AB, cB, rfl, _⟩ := id hrb
          obtain ⟨AK, cK, rfl, _⟩ := id hrk
          have HC0 := Lib.hid hk0
          have HC1 := Lib.hid hk1
          obtain ⟨FL, hFL⟩ : ∃ FL, x.fl = FL := ⟨_, rfl⟩
          rw [hFL] at hk2
          have HC2 := Lib.hid hk2
          have HRB := Lib.hid hrb
          have HRK := Lib.hid hrk
          have hc0 : wr.cell? (ad.add (i * 3)) = some (.slice AB x.b.length cB) := DWrite.cellB HDX.out.gr hk0
          have hwi : IntKind.i64.wrap ((i : Int) + 1) = (i : Int) + 1 := IntWalk.i64_in _ (by omega)
          have HRM := Lib.hid (fun w => JA.room_any 3 w)
          rw [room_three] at HRM
          clear hk0 hk1 hk2 hrb hrk hx hin hFL
          by_cases hxl : 320 < x.b.length
          · have hxl' : (320 : Int) < (x.b.length : Int) := by omega
            clear hxl
            go_wp2_with fail
            refine (HRM.out _).mono ?_
            rintro e w' ⟨rfl, rfl⟩
            go_wp2
            go_roundg q
            case measure => omega
            case rel => exact ⟨i + 1, S, n, by omega, by first | rfl | simp, by omega, HDX, HEV, HLS, HNN⟩
          · have hxl' : ¬ (320 : Int) < (x.b.length : Int) := by omega
            have HXL : Hid (x.b.length ≤ 320) := Lib.hid (by omega)
            have HMAY : Hid (may (n + 1) = true) := Lib.hid ((may_iff _).2 (by omega))
            clear hxl
            go_wp2_with fail
            refine (HRM.out _).mono ?_
            rintro e w' ⟨rfl, rfl⟩
            rcases ard_err S 0 3 with hq0 | hq0
            · obtain ⟨s0, o, hrd⟩ : ∃ s0 o, ard S 0 3 = (s0, o, 0) := ⟨_, _, Prod.ext rfl (Prod.ext rfl hq0)⟩
              have HRD : Hid (AR _ _ _ _) := Lib.hid ⟨hrd⟩
              clear hrd hq0 HRM
              go_wp2_with fail
              refine (ds_anewest w wr g (calm S) _ HDX.out 0 3 0 3 rfl rfl n (calm_refus S 0 3 (by omega) (by rw [HLS.out]; omega)) (ev_at HEV.out 0 3 (by rw [HLS.out]; omega)) HNN.out.is).mono ?_
              rintro e w3 ⟨rfl, hd⟩
              have HD3 := Lib.hid hd
              clear hd HDX hc0
              go_wp2_with fail
              refine (ds_aread w w3 g (calm S) _ HD3.out 0 3 0 3 rfl rfl s0 o 0 (calm_refus S 0 3 (by omega) (by rw [HLS.out]; omega)) HRD.out.is).mono ?_
              rintro e w4 ⟨vo, rfl, hd⟩
              obtain ⟨AO, cO, rfl, _⟩ := id (hd.rd (List.mem_cons_self ..))
              have HD4 := Lib.hid hd
              clear hd HD3
              have hwn : IntKind.u64.wrap ((n : Int) + 1) = ((n + 1 : Nat) : Int) := by rw [IntWalk.u64_in _ (by omega)]; simp
              go_wp2_with fail
              refine (ds_awrite w w4 g (calm S) _ HD4.out 0 3 (n + 1) 0 3 _ rfl rfl rfl _ (.slice AB x.b.length cB) x.b _ 0 (HRB.out.grew HD4.out.gr) (calm_refus S 0 3 (by omega) (by rw [HLS.out]; omega)) HMAY.out (by have := HXL.out; omega) (Nat.zero_le _) (gw_wrote 0 (n + 1) 3 x.b S (by rw [HLS.out]; omega))).mono ?_
              rintro e w5 ⟨rfl, hd⟩
              have HD5 := Lib.hid hd
              clear hd HD4
              have hc1 : w5.cell? ⟨(ad.add (i * 3)).block, (ad.add (i * 3)).off + 1, none⟩ = some (.slice AK x.keep.length cK) := DWrite.cellB HD5.out.gr HC1.out
              have hc2 : w5.cell? ⟨(ad.add (i * 3)).block, (ad.add (i * 3)).off + 2, none⟩ = some (.bool FL) := DWrite.cellB HD5.out.gr HC2.out
              cases FL with
              | true =>
                obtain ⟨hf1, hst, hnn, hrd⟩ := sure S n x.b HEV.out HLS.out HMAY.out HXL.out
                have HF1 := Lib.hid hf1
                have HEV2 := Lib.hid hst.ev
                have HLS2 := Lib.hid hst.len
                have HNN2 : Hid (AN _ _) := Lib.hid ⟨hnn⟩
                have HRD2 : Hid (AR _ _ _ _) := Lib.hid ⟨hrd⟩
                clear hf1 hst hnn hrd hc1
                go_wp2_with fail
                refine (ds_flush w w5 g _ _ HD5.out _ 0 (by rw [wrote_waits]; omega) HF1.out).mono ?_
                rintro e w5b ⟨rfl, hd⟩
                have HD5b := Lib.hid hd
                clear hd HD5 HF1 hc2
                generalize (wrote 0 (n + 1) 3 x.b S).last = S2 at *
                have hc1 : w5b.cell? ⟨(ad.add (i * 3)).block, (ad.add (i * 3)).off + 1, none⟩ = some (.slice AK x.keep.length cK) := DWrite.cellB HD5b.out.gr HC1.out
                have hc2 : w5b.cell? ⟨(ad.add (i * 3)).block, (ad.add (i * 3)).off + 2, none⟩ = some (.bool true) := DWrite.cellB HD5b.out.gr HC2.out
                go_wp2_with fail
                refine (ds_crash w w5b g (calm S2) _ HD5b.out _ (.slice AK x.keep.length cK) x.keep (calm S2) (Nat.zero_le _) HRK.out (fun b hb => hb) (crashed_none S2 _ _ _)).mono ?_
                rintro e w6 ⟨rfl, hd⟩
                have HD6 := Lib.hid hd
                clear hd HD5b hc1 hc2
                go_wp2_with fail
                refine (ds_aread w w6 g (calm S2) _ HD6.out 0 3 0 3 rfl rfl (n + 1) x.b 0 (calm_refus S2 0 3 (by omega) (by rw [HLS2.out]; omega)) HRD2.out.is).mono ?_
                rintro e w7 ⟨vc, rfl, hd⟩
                obtain ⟨A7, c7, rfl, _⟩ := id (hd.rd (List.mem_cons_self ..))
                have HD7 := Lib.hid hd
                clear hd HD6
                go_wp2_with fail
                refine (ds_anewest w w7 g (calm S2) _ HD7.out 0 3 0 3 rfl rfl (n + 1) (calm_refus S2 0 3 (by omega) (by rw [HLS2.out]; omega)) (ev_at HEV2.out 0 3 (by rw [HLS2.out]; omega)) HNN2.out.is).mono ?_
                rintro e w8 ⟨rfl, hd⟩
                have HD8 := Lib.hid hd
                clear hd HD7
                have hc0 : w8.cell? (ad.add (i * 3)) = some (.slice AB x.b.length cB) := DWrite.cellB HD8.out.gr HC0.out
                have hc2 : w8.cell? ⟨(ad.add (i * 3)).block, (ad.add (i * 3)).off + 2, none⟩ = some (.bool true) := DWrite.cellB HD8.out.gr HC2.out
                have ka := Nums.conv22 (HD8.out.rd (v := .slice A7 x.b.length c7) (l := x.b) (by simp))
                have kb := Nums.conv22 (HRB.out.grew HD8.out.gr)
                have kc : (x.b == x.b) = true := by simp
                have kd : (((n + 1 : Nat) : Int) != (n : Int)) = true := by simp; omega
                have ke : (((n + 1 : Nat) : Int) != ((n + 1 : Nat) : Int)) = false := by simp
                have kf : ¬ (((n + 1 : Nat) : Int) = (n : Int)) := by omega
                have kg : (n : Int) < ((n + 1 : Nat) : Int) := by omega
                go_wp2
                go_roundg q
                case measure => omega
                case rel => exact ⟨i + 1, S2, n + 1, by omega, by first | rfl | simp, by omega, Lib.hid (HD8.out.sub (by simp)), HEV2, HLS2, HNN2⟩
              | false =>
                obtain ⟨S2, hcr, hst⟩ := lost S n x.b HEV.out HLS.out HNN.out.is HMAY.out HXL.out x.keep
                have HCR := Lib.hid hcr
                have HEV2 := Lib.hid hst.ev
                have HLS2 := Lib.hid hst.len
                have hwt : (wrote 0 (n + 1) 3 x.b S).waits.length ≤ 1073741824 := by rw [wrote_waits]; omega
                have HWT := Lib.hid hwt
                rcases hst.is with heq | ⟨hnn, hrd | hrd⟩
                · have HNN2 : Hid (AN S2 n) := Lib.hid (by rw [heq]; exact HNN.out)
                  have HRD2 : Hid (AR S2 s0 o 0) := Lib.hid (by rw [heq]; exact HRD.out)
                  clear hcr hst hwt heq
                  go_wp2_with fail
                  refine (ds_crash w w5 g _ _ HD5.out _ (.slice AK x.keep.length cK) x.keep (calm S2) HWT.out HRK.out (fun b hb => hb) HCR.out).mono ?_
                  rintro e w6 ⟨rfl, hd⟩
                  have HD6 := Lib.hid hd
                  clear hd HD5 hc1
                  go_wp2_with fail
                  refine (ds_aread w w6 g (calm S2) _ HD6.out 0 3 0 3 rfl rfl s0 o 0 (calm_refus S2 0 3 (by omega) (by rw [HLS2.out]; omega)) HRD2.out.is).mono ?_
                  rintro e w7 ⟨vc, rfl, hd⟩
                  obtain ⟨A7, c7, rfl, _⟩ := id (hd.rd (List.mem_cons_self ..))
                  have HD7 := Lib.hid hd
                  clear hd HD6 hc2
                  go_wp2_with fail
                  refine (ds_anewest w w7 g (calm S2) _ HD7.out 0 3 0 3 rfl rfl n (calm_refus S2 0 3 (by omega) (by rw [HLS2.out]; omega)) (ev_at HEV2.out 0 3 (by rw [HLS2.out]; omega)) HNN2.out.is).mono ?_
                  rintro e w8 ⟨rfl, hd⟩
                  have HD8 := Lib.hid hd
                  clear hd HD7
                  have hc0 : w8.cell? (ad.add (i * 3)) = some (.slice AB x.b.length cB) := DWrite.cellB HD8.out.gr HC0.out
                  have hc2 : w8.cell? ⟨(ad.add (i * 3)).block, (ad.add (i * 3)).off + 2, none⟩ = some (.bool false) := DWrite.cellB HD8.out.gr HC2.out
                  have ka := Nums.conv22 (HD8.out.rd (v := .slice A7 o.length c7) (l := o) (by simp))
                  have kb := Nums.conv22 (HD8.out.rd (v := .slice AO o.length cO) (l := o) (by simp))
                  have kc : (o == o) = true := by simp
                  have kd : ((n : Int) != (n : Int)) = false := by simp
                  have ke : ((s0 : Int) != (s0 : Int)) = false := by simp
                  go_wp2
                  go_roundg q
                  case measure => omega
                  case rel => exact ⟨i + 1, S2, n, by omega, by first | rfl | simp, by omega, Lib.hid (HD8.out.sub (by simp)), HEV2, HLS2, HNN2⟩
                · have HNN2 : Hid (AN _ _) := Lib.hid ⟨hnn⟩
                  have HRD2 : Hid (AR _ _ _ _) := Lib.hid ⟨hrd⟩
                  clear hcr hst hwt hnn hrd
                  go_wp2_with fail
                  refine (ds_crash w w5 g _ _ HD5.out _ (.slice AK x.keep.length cK) x.keep (calm S2) HWT.out HRK.out (fun b hb => hb) HCR.out).mono ?_
                  rintro e w6 ⟨rfl, hd⟩
                  have HD6 := Lib.hid hd
                  clear hd HD5 hc1
                  go_wp2_with fail
                  refine (ds_aread w w6 g (calm S2) _ HD6.out 0 3 0 3 rfl rfl 0 [] 2 (calm_refus S2 0 3 (by omega) (by rw [HLS2.out]; omega)) HRD2.out.is).mono ?_
                  rintro e w7 ⟨vc, rfl, hd⟩
                  obtain ⟨A7, c7, rfl, _⟩ := id (hd.rd (List.mem_cons_self ..))
                  have HD7 := Lib.hid hd
                  clear hd HD6 hc2
                  go_wp2_with fail
                  refine (ds_anewest w w7 g (calm S2) _ HD7.out 0 3 0 3 rfl rfl (n + 1) (calm_refus S2 0 3 (by omega) (by rw [HLS2.out]; omega)) (ev_at HEV2.out 0 3 (by rw [HLS2.out]; omega)) HNN2.out.is).mono ?_
                  rintro e w8 ⟨rfl, hd⟩
                  have HD8 := Lib.hid hd
                  clear hd HD7
                  have hc0 : w8.cell? (ad.add (i * 3)) = some (.slice AB x.b.length cB) := DWrite.cellB HD8.out.gr HC0.out
                  have hc2 : w8.cell? ⟨(ad.add (i * 3)).block, (ad.add (i * 3)).off + 2, none⟩ = some (.bool false) := DWrite.cellB HD8.out.gr HC2.out
                  have kd : (((n + 1 : Nat) : Int) != (n : Int)) = true := by simp; omega
                  have ke : (((n + 1 : Nat) : Int) != ((n + 1 : Nat) : Int)) = false := by simp
                  have kf : ¬ (((n + 1 : Nat) : Int) = (n : Int)) := by omega
                  have kg : (n : Int) < ((n + 1 : Nat) : Int) := by omega
                  go_wp2
                  go_roundg q
                  case measure => omega
                  case rel => exact ⟨i + 1, S2, n + 1, by omega, by first | rfl | simp, by omega, Lib.hid (HD8.out.sub (by simp)), HEV2, HLS2, HNN2⟩
                · have HNN2 : Hid (AN _ _) := Lib.hid ⟨hnn⟩
                  have HRD2 : Hid (AR _ _ _ _) := Lib.hid ⟨hrd⟩
                  clear hcr hst hwt hnn hrd
                  go_wp2_with fail
                  refine (ds_crash w w5 g _ _ HD5.out _ (.slice AK x.keep.length cK) x.keep (calm S2) HWT.out HRK.out (fun b hb => hb) HCR.out).mono ?_
                  rintro e w6 ⟨rfl, hd⟩
                  have HD6 := Lib.hid hd
                  clear hd HD5 hc1
                  go_wp2_with fail
                  refine (ds_aread w w6 g (calm S2) _ HD6.out 0 3 0 3 rfl rfl (n + 1) x.b 0 (calm_refus S2 0 3 (by omega) (by rw [HLS2.out]; omega)) HRD2.out.is).mono ?_
                  rintro e w7 ⟨vc, rfl, hd⟩
                  obtain ⟨A7, c7, rfl, _⟩ := id (hd.rd (List.mem_cons_self ..))
                  have HD7 := Lib.hid hd
                  clear hd HD6 hc2
                  go_wp2_with fail
                  refine (ds_anewest w w7 g (calm S2) _ HD7.out 0 3 0 3 rfl rfl (n + 1) (calm_refus S2 0 3 (by omega) (by rw [HLS2.out]; omega)) (ev_at HEV2.out 0 3 (by rw [HLS2.out]; omega)) HNN2.out.is).mono ?_
                  rintro e w8 ⟨rfl, hd⟩
                  have HD8 := Lib.hid hd
                  clear hd HD7
                  have hc0 : w8.cell? (ad.add (i * 3)) = some (.slice AB x.b.length cB) := DWrite.cellB HD8.out.gr HC0.out
                  have hc2 : w8.cell? ⟨(ad.add (i * 3)).block, (ad.add (i * 3)).off + 2, none⟩ = some (.bool false) := DWrite.cellB HD8.out.gr HC2.out
                  have ka := Nums.conv22 (HD8.out.rd (v := .slice A7 x.b.length c7) (l := x.b) (by simp))
                  have kb := Nums.conv22 (HRB.out.grew HD8.out.gr)
                  have kc : (x.b == x.b) = true := by simp
                  have kd : (((n + 1 : Nat) : Int) != (n : Int)) = true := by simp; omega
                  have ke : (((n + 1 : Nat) : Int) != ((n + 1 : Nat) : Int)) = false := by simp
                  have kf : ¬ (((n + 1 : Nat) : Int) = (n : Int)) := by omega
                  have kg : (n : Int) < ((n + 1 : Nat) : Int) := by omega
                  go_wp2
                  go_roundg q
                  case measure => omega
                  case rel => exact ⟨i + 1, S2, n + 1, by omega, by first | rfl | simp, by omega, Lib.hid (HD8.out.sub (by simp)), HEV2, HLS2, HNN2⟩

            · obtain ⟨s0, hs0⟩ : ∃ s0 : Nat, s0 = 0 := ⟨_, rfl⟩
              obtain ⟨o, ho⟩ : ∃ o : List UInt8, o = [] := ⟨_, rfl⟩
              have hrd : ard S 0 3 = (s0, o, 2) := by rw [hs0, ho]; exact hq0
              have HRD : Hid (AR _ _ _ _) := Lib.hid ⟨hrd⟩
              clear hrd hq0 HRM hs0 ho
              go_wp2_with fail
              refine (ds_anewest w wr g (calm S) _ HDX.out 0 3 0 3 rfl rfl n (calm_refus S 0 3 (by omega) (by rw [HLS.out]; omega)) (ev_at HEV.out 0 3 (by rw [HLS.out]; omega)) HNN.out.is).mono ?_
              rintro e w3 ⟨rfl, hd⟩
              have HD3 := Lib.hid hd
              clear hd HDX hc0
              go_wp2_with fail
              refine (ds_aread w w3 g (calm S) _ HD3.out 0 3 0 3 rfl rfl s0 o 2 (calm_refus S 0 3 (by omega) (by rw [HLS.out]; omega)) HRD.out.is).mono ?_
              rintro e w4 ⟨vo, rfl, hd⟩
              obtain ⟨AO, cO, rfl, _⟩ := id (hd.rd (List.mem_cons_self ..))
              have HD4 := Lib.hid hd
              clear hd HD3
              have hwn : IntKind.u64.wrap ((n : Int) + 1) = ((n + 1 : Nat) : Int) := by rw [IntWalk.u64_in _ (by omega)]; simp
              go_wp2_with fail
              refine (ds_awrite w w4 g (calm S) _ HD4.out 0 3 (n + 1) 0 3 _ rfl rfl rfl _ (.slice AB x.b.length cB) x.b _ 0 (HRB.out.grew HD4.out.gr) (calm_refus S 0 3 (by omega) (by rw [HLS.out]; omega)) HMAY.out (by have := HXL.out; omega) (Nat.zero_le _) (gw_wrote 0 (n + 1) 3 x.b S (by rw [HLS.out]; omega))).mono ?_
              rintro e w5 ⟨rfl, hd⟩
              have HD5 := Lib.hid hd
              clear hd HD4
              have hc1 : w5.cell? ⟨(ad.add (i * 3)).block, (ad.add (i * 3)).off + 1, none⟩ = some (.slice AK x.keep.length cK) := DWrite.cellB HD5.out.gr HC1.out
              have hc2 : w5.cell? ⟨(ad.add (i * 3)).block, (ad.add (i * 3)).off + 2, none⟩ = some (.bool FL) := DWrite.cellB HD5.out.gr HC2.out
              cases FL with
              | true =>
                obtain ⟨hf1, hst, hnn, hrd⟩ := sure S n x.b HEV.out HLS.out HMAY.out HXL.out
                have HF1 := Lib.hid hf1
                have HEV2 := Lib.hid hst.ev
                have HLS2 := Lib.hid hst.len
                have HNN2 : Hid (AN _ _) := Lib.hid ⟨hnn⟩
                have HRD2 : Hid (AR _ _ _ _) := Lib.hid ⟨hrd⟩
                clear hf1 hst hnn hrd hc1
                go_wp2_with fail
                refine (ds_flush w w5 g _ _ HD5.out _ 0 (by rw [wrote_waits]; omega) HF1.out).mono ?_
                rintro e w5b ⟨rfl, hd⟩
                have HD5b := Lib.hid hd
                clear hd HD5 HF1 hc2
                generalize (wrote 0 (n + 1) 3 x.b S).last = S2 at *
                have hc1 : w5b.cell? ⟨(ad.add (i * 3)).block, (ad.add (i * 3)).off + 1, none⟩ = some (.slice AK x.keep.length cK) := DWrite.cellB HD5b.out.gr HC1.out
                have hc2 : w5b.cell? ⟨(ad.add (i * 3)).block, (ad.add (i * 3)).off + 2, none⟩ = some (.bool true) := DWrite.cellB HD5b.out.gr HC2.out
                go_wp2_with fail
                refine (ds_crash w w5b g (calm S2) _ HD5b.out _ (.slice AK x.keep.length cK) x.keep (calm S2) (Nat.zero_le _) HRK.out (fun b hb => hb) (crashed_none S2 _ _ _)).mono ?_
                rintro e w6 ⟨rfl, hd⟩
                have HD6 := Lib.hid hd
                clear hd HD5b hc1 hc2
                go_wp2_with fail
                refine (ds_aread w w6 g (calm S2) _ HD6.out 0 3 0 3 rfl rfl (n + 1) x.b 0 (calm_refus S2 0 3 (by omega) (by rw [HLS2.out]; omega)) HRD2.out.is).mono ?_
                rintro e w7 ⟨vc, rfl, hd⟩
                obtain ⟨A7, c7, rfl, _⟩ := id (hd.rd (List.mem_cons_self ..))
                have HD7 := Lib.hid hd
                clear hd HD6
                go_wp2_with fail
                refine (ds_anewest w w7 g (calm S2) _ HD7.out 0 3 0 3 rfl rfl (n + 1) (calm_refus S2 0 3 (by omega) (by rw [HLS2.out]; omega)) (ev_at HEV2.out 0 3 (by rw [HLS2.out]; omega)) HNN2.out.is).mono ?_
                rintro e w8 ⟨rfl, hd⟩
                have HD8 := Lib.hid hd
                clear hd HD7
                have hc0 : w8.cell? (ad.add (i * 3)) = some (.slice AB x.b.length cB) := DWrite.cellB HD8.out.gr HC0.out
                have hc2 : w8.cell? ⟨(ad.add (i * 3)).block, (ad.add (i * 3)).off + 2, none⟩ = some (.bool true) := DWrite.cellB HD8.out.gr HC2.out
                have ka := Nums.conv22 (HD8.out.rd (v := .slice A7 x.b.length c7) (l := x.b) (by simp))
                have kb := Nums.conv22 (HRB.out.grew HD8.out.gr)
                have kc : (x.b == x.b) = true := by simp
                have kd : (((n + 1 : Nat) : Int) != (n : Int)) = true := by simp; omega
                have ke : (((n + 1 : Nat) : Int) != ((n + 1 : Nat) : Int)) = false := by simp
                have kf : ¬ (((n + 1 : Nat) : Int) = (n : Int)) := by omega
                have kg : (n : Int) < ((n + 1 : Nat) : Int) := by omega
                go_wp2
                go_roundg q
                case measure => omega
                case rel => exact ⟨i + 1, S2, n + 1, by omega, by first | rfl | simp, by omega, Lib.hid (HD8.out.sub (by simp)), HEV2, HLS2, HNN2⟩
              | false =>
                obtain ⟨S2, hcr, hst⟩ := lost S n x.b HEV.out HLS.out HNN.out.is HMAY.out HXL.out x.keep
                have HCR := Lib.hid hcr
                have HEV2 := Lib.hid hst.ev
                have HLS2 := Lib.hid hst.len
                have hwt : (wrote 0 (n + 1) 3 x.b S).waits.length ≤ 1073741824 := by rw [wrote_waits]; omega
                have HWT := Lib.hid hwt
                rcases hst.is with heq | ⟨hnn, hrd | hrd⟩
                · have HNN2 : Hid (AN S2 n) := Lib.hid (by rw [heq]; exact HNN.out)
                  have HRD2 : Hid (AR S2 s0 o 2) := Lib.hid (by rw [heq]; exact HRD.out)
                  clear hcr hst hwt heq
                  go_wp2_with fail
                  refine (ds_crash w w5 g _ _ HD5.out _ (.slice AK x.keep.length cK) x.keep (calm S2) HWT.out HRK.out (fun b hb => hb) HCR.out).mono ?_
                  rintro e w6 ⟨rfl, hd⟩
                  have HD6 := Lib.hid hd
                  clear hd HD5 hc1
                  go_wp2_with fail
                  refine (ds_aread w w6 g (calm S2) _ HD6.out 0 3 0 3 rfl rfl s0 o 2 (calm_refus S2 0 3 (by omega) (by rw [HLS2.out]; omega)) HRD2.out.is).mono ?_
                  rintro e w7 ⟨vc, rfl, hd⟩
                  obtain ⟨A7, c7, rfl, _⟩ := id (hd.rd (List.mem_cons_self ..))
                  have HD7 := Lib.hid hd
                  clear hd HD6 hc2
                  go_wp2_with fail
                  refine (ds_anewest w w7 g (calm S2) _ HD7.out 0 3 0 3 rfl rfl n (calm_refus S2 0 3 (by omega) (by rw [HLS2.out]; omega)) (ev_at HEV2.out 0 3 (by rw [HLS2.out]; omega)) HNN2.out.is).mono ?_
                  rintro e w8 ⟨rfl, hd⟩
                  have HD8 := Lib.hid hd
                  clear hd HD7
                  have hc0 : w8.cell? (ad.add (i * 3)) = some (.slice AB x.b.length cB) := DWrite.cellB HD8.out.gr HC0.out
                  have hc2 : w8.cell? ⟨(ad.add (i * 3)).block, (ad.add (i * 3)).off + 2, none⟩ = some (.bool false) := DWrite.cellB HD8.out.gr HC2.out
                  have ka := Nums.conv22 (HD8.out.rd (v := .slice A7 o.length c7) (l := o) (by simp))
                  have kb := Nums.conv22 (HD8.out.rd (v := .slice AO o.length cO) (l := o) (by simp))
                  have kc : (o == o) = true := by simp
                  have kd : ((n : Int) != (n : Int)) = false := by simp
                  have ke : ((s0 : Int) != (s0 : Int)) = false := by simp
                  go_wp2
                  go_roundg q
                  case measure => omega
                  case rel => exact ⟨i + 1, S2, n, by omega, by first | rfl | simp, by omega, Lib.hid (HD8.out.sub (by simp)), HEV2, HLS2, HNN2⟩
                · have HNN2 : Hid (AN _ _) := Lib.hid ⟨hnn⟩
                  have HRD2 : Hid (AR _ _ _ _) := Lib.hid ⟨hrd⟩
                  clear hcr hst hwt hnn hrd
                  go_wp2_with fail
                  refine (ds_crash w w5 g _ _ HD5.out _ (.slice AK x.keep.length cK) x.keep (calm S2) HWT.out HRK.out (fun b hb => hb) HCR.out).mono ?_
                  rintro e w6 ⟨rfl, hd⟩
                  have HD6 := Lib.hid hd
                  clear hd HD5 hc1
                  go_wp2_with fail
                  refine (ds_aread w w6 g (calm S2) _ HD6.out 0 3 0 3 rfl rfl 0 [] 2 (calm_refus S2 0 3 (by omega) (by rw [HLS2.out]; omega)) HRD2.out.is).mono ?_
                  rintro e w7 ⟨vc, rfl, hd⟩
                  obtain ⟨A7, c7, rfl, _⟩ := id (hd.rd (List.mem_cons_self ..))
                  have HD7 := Lib.hid hd
                  clear hd HD6 hc2
                  go_wp2_with fail
                  refine (ds_anewest w w7 g (calm S2) _ HD7.out 0 3 0 3 rfl rfl (n + 1) (calm_refus S2 0 3 (by omega) (by rw [HLS2.out]; omega)) (ev_at HEV2.out 0 3 (by rw [HLS2.out]; omega)) HNN2.out.is).mono ?_
                  rintro e w8 ⟨rfl, hd⟩
                  have HD8 := Lib.hid hd
                  clear hd HD7
                  have hc0 : w8.cell? (ad.add (i * 3)) = some (.slice AB x.b.length cB) := DWrite.cellB HD8.out.gr HC0.out
                  have hc2 : w8.cell? ⟨(ad.add (i * 3)).block, (ad.add (i * 3)).off + 2, none⟩ = some (.bool false) := DWrite.cellB HD8.out.gr HC2.out
                  have kd : (((n + 1 : Nat) : Int) != (n : Int)) = true := by simp; omega
                  have ke : (((n + 1 : Nat) : Int) != ((n + 1 : Nat) : Int)) = false := by simp
                  have kf : ¬ (((n + 1 : Nat) : Int) = (n : Int)) := by omega
                  have kg : (n : Int) < ((n + 1 : Nat) : Int) := by omega
                  go_wp2
                  go_roundg q
                  case measure => omega
                  case rel => exact ⟨i + 1, S2, n + 1, by omega, by first | rfl | simp, by omega, Lib.hid (HD8.out.sub (by simp)), HEV2, HLS2, HNN2⟩
                · have HNN2 : Hid (AN _ _) := Lib.hid ⟨hnn⟩
                  have HRD2 : Hid (AR _ _ _ _) := Lib.hid ⟨hrd⟩
                  clear hcr hst hwt hnn hrd
                  go_wp2_with fail
                  refine (ds_crash w w5 g _ _ HD5.out _ (.slice AK x.keep.length cK) x.keep (calm S2) HWT.out HRK.out (fun b hb => hb) HCR.out).mono ?_
                  rintro e w6 ⟨rfl, hd⟩
                  have HD6 := Lib.hid hd
                  clear hd HD5 hc1
                  go_wp2_with fail
                  refine (ds_aread w w6 g (calm S2) _ HD6.out 0 3 0 3 rfl rfl (n + 1) x.b 0 (calm_refus S2 0 3 (by omega) (by rw [HLS2.out]; omega)) HRD2.out.is).mono ?_
                  rintro e w7 ⟨vc, rfl, hd⟩
                  obtain ⟨A7, c7, rfl, _⟩ := id (hd.rd (List.mem_cons_self ..))
                  have HD7 := Lib.hid hd
                  clear hd HD6 hc2
                  go_wp2_with fail
                  refine (ds_anewest w w7 g (calm S2) _ HD7.out 0 3 0 3 rfl rfl (n + 1) (calm_refus S2 0 3 (by omega) (by rw [HLS2.out]; omega)) (ev_at HEV2.out 0 3 (by rw [HLS2.out]; omega)) HNN2.out.is).mono ?_
                  rintro e w8 ⟨rfl, hd⟩
                  have HD8 := Lib.hid hd
                  clear hd HD7
                  have hc0 : w8.cell? (ad.add (i * 3)) = some (.slice AB x.b.length cB) := DWrite.cellB HD8.out.gr HC0.out
                  have hc2 : w8.cell? ⟨(ad.add (i * 3)).block, (ad.add (i * 3)).off + 2, none⟩ = some (.bool false) := DWrite.cellB HD8.out.gr HC2.out
                  have ka := Nums.conv22 (HD8.out.rd (v := .slice A7 x.b.length c7) (l := x.b) (by simp))
                  have kb := Nums.conv22 (HRB.out.grew HD8.out.gr)
                  have kc : (x.b == x.b) = true := by simp
                  have kd : (((n + 1 : Nat) : Int) != (n : Int)) = true := by simp; omega
                  have ke : (((n + 1 : Nat) : Int) != ((n + 1 : Nat) : Int)) = false := by simp
                  have kf : ¬ (((n + 1 : Nat) : Int) = (n : Int)) := by omega
                  have kg : (n : Int) < ((n + 1 : Nat) : Int) := by omega
                  go_wp2
                  go_roundg q
                  case measure => omega
                  case rel => exact ⟨i + 1, S2, n + 1, by omega, by first | rfl | simp, by omega, Lib.hid (HD8.out.sub (by simp)), HEV2, HLS2, HNN2⟩

    · have hin' : ¬ ((i : Int) < (L.length : Int)) := by omega
      clear hin
      go_wp2_with fail
      refine (AH.alive_any _).mono ?_
      rintro e w2 ⟨rfl, hg⟩
      have HG2 := Lib.hid (HDX.out.gr.trans hg)
      clear hg
      go_wp2
      go_ret
      exact ⟨rfl, HG2.out⟩
end Go.Proofs.Ytbnicphegbdfnaa.AI2
