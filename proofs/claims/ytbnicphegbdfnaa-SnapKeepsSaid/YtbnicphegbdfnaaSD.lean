/-
  SnapKeeps: any bytes, any turns.
  Conditions: none beyond what is read of the arguments.
-/
import Derived.Test.YtbnicphegbdfnaaSC
import Derived.Test.YtbnicphegbdfnaaAOpens
namespace Go.Proofs.Ytbnicphegbdfnaa.SD
set_option maxRecDepth 100000
open Go Go.RowKit Go.Proofs.Ytbnicphegbdfnaa Go.Proofs.Ytbnicphegbdfnaa.Facts Go.Proofs.Ytbnicphegbdfnaa.Bytes Go.Proofs.Ytbnicphegbdfnaa.DKeep Go.Proofs.Ytbnicphegbdfnaa.DSmall Go.Proofs.Ytbnicphegbdfnaa.Puts Go.Proofs.Ytbnicphegbdfnaa.SPure Go.Proofs.Ytbnicphegbdfnaa.JA Go.Proofs.Ytbnicphegbdfnaa.JD Go.Proofs.Ytbnicphegbdfnaa.JH Go.Proofs.Ytbnicphegbdfnaa.JQ Go.Proofs.Ytbnicphegbdfnaa.AP Go.Proofs.Ytbnicphegbdfnaa.AQ Go.Proofs.Ytbnicphegbdfnaa.AA Go.Proofs.Ytbnicphegbdfnaa.AW Go.Proofs.Ytbnicphegbdfnaa.AV Go.Proofs.Ytbnicphegbdfnaa.AC Go.Proofs.Ytbnicphegbdfnaa.DS Go.Proofs.Ytbnicphegbdfnaa.AU Go.Proofs.Ytbnicphegbdfnaa.SP Go.Proofs.Ytbnicphegbdfnaa.SN Go.Proofs.Ytbnicphegbdfnaa.SB Go.Proofs.Ytbnicphegbdfnaa.AOpens Go.Proofs.Ytbnicphegbdfnaa.SC

/-- The newest number, wrapped. -/
structure Nwst (L : List Sec) (f m n : Nat) : Prop where
  is : anw L f m = n
theorem keeps_long (w : World) (A : Option Addr) (cA : Nat) (a : List UInt8) (R : Option Addr) (cap : Nat) (L : List Sn) (hL : SN w R cap L) (hra : Rd (fun b => b < w.heap.size) w (.slice A a.length cA) a) (h : 300 < a.length) :
    Calls Try.prog 8 #[.slice A a.length cA, .slice R L.length cap] w fun e w' => e = .returned (.bool true) ∧ Grew w w' := by
  have h' : (300 : Int) < (a.length : Int) := by omega
  clear h
  go_enter Try.func8, Try.ntmps8
  go_wp2_with fail
  refine (ds_new w 6 6 rfl (by omega) (by omega)).mono ?_
  rintro e w1 ⟨g, rfl, hd⟩
  have HD : Hid (DS w g (calm (DNew.blank 6)) [] w1) := Lib.hid hd
  clear hd
  go_wp2_with fail
  refine (SB.alive_any _).mono ?_
  rintro e w2 ⟨rfl, hg⟩
  have HG2 := Lib.hid (HD.out.gr.trans hg)
  clear hg HD
  go_wp2
  go_ret
  exact ⟨rfl, HG2.out⟩

set_option maxHeartbeats 8000000 in
theorem keeps_main (w : World) (A : Option Addr) (cA : Nat) (a : List UInt8) (R : Option Addr) (cap : Nat) (L : List Sn) (hL : SN w R cap L) (hra : Rd (fun b => b < w.heap.size) w (.slice A a.length cA) a) (hla : a.length ≤ 300) :
    Calls Try.prog 8 #[.slice A a.length cA, .slice R L.length cap] w fun e w' => e = .returned (.bool true) ∧ Grew w w' := by
  have ha' : ¬ (300 : Int) < (a.length : Int) := by omega
  have HLA := Lib.hid hla
  have HRA := Lib.hid hra
  have HL := Lib.hid hL
  have hcap := hL.2.1
  have hlc := hL.1
  have HK := Lib.hid (begin6 a hla).2
  clear hla hra hL
  go_enter Try.func8, Try.ntmps8
  go_wp2_with fail
  refine (ds_new w 6 6 rfl (by omega) (by omega)).mono ?_
  rintro e w1 ⟨g, rfl, hd⟩
  have HD : Hid (DS w g (calm (DNew.blank 6)) [] w1) := Lib.hid hd
  clear hd
  go_wp2_with fail
  refine (ds_begin (HD.out.arg HRA.out) 0 3 0 3 rfl rfl (six_refus _ (-1) (DNew.blank_length 6)) (.slice A a.length cA) a (List.mem_cons_self ..) (by have := HLA.out; omega) (Nat.zero_le _) (fun _ _ => by rw [fsix]; exact ⟨six_arefus _ (-1) (DNew.blank_length 6), Nat.zero_le _⟩) (calm (LB6 a)) 0 (begin6 a HLA.out).1).mono ?_
  rintro e w2 ⟨rfl, hd⟩
  have HD2 := Lib.hid hd
  clear hd HD
  have HL6 := Lib.hid (lb6_length a)
  generalize LB6 a = S0 at *
  go_wp2
  go_loopg [7, 8, 9, 10, 11, 12, 13] 20 (fun q s7 s8 s9 s10 s11 s12 s13 wx => ∃ (i : Nat) (S : List Sec) (n c s : Nat) (nw : List UInt8) (AN : Option Addr) (cN : Nat), i + q = 20 ∧ s8 = .int .i64 (i : Int) ∧ s7 = .slice AN nw.length cN ∧ n ≤ i + 1 ∧ Hid (SK S 0 3 n c s nw) ∧ Hid (S.length = 6) ∧ Hid (DS w g (calm S) [(.slice AN nw.length cN, nw)] wx))
  case atStart => exact ⟨0, S0, 1, 0, 1, a, A, cA, rfl, rfl, rfl, Nat.le_refl _, HK, HL6, HD2⟩
  case round =>
    obtain ⟨i, S, n0, c, s, nw, AN, cN, hiq, rfl, rfl, hni, HSK0, HLS, HDX⟩ := hrel
    clear HD2 HK HL6
    by_cases hin : i < L.length
    · have hin' : (i : Int) < (L.length : Int) := by omega
      cases gk with
      | zero =>
        have h5 : ¬ ((i : Int) < 20) := by omega
        clear hin
        go_wp2_with fail
        refine (SB.alive_any _).mono ?_
        rintro e w2 ⟨rfl, hg⟩
        have HG2 := Lib.hid (HDX.out.gr.trans hg)
        clear hg
        go_wp2
        go_ret
        exact ⟨rfl, HG2.out⟩

      | succ q =>
        have h5 : (i : Int) < 20 := by omega
        obtain ⟨x, hx⟩ : ∃ x, L[i]? = some x := ⟨_, List.getElem?_eq_getElem hin⟩
        cases R with
        | none => have := HL.out.2.2.1 rfl; omega
        | some ad =>
          obtain ⟨vB, vK, hk0, hk1, hk2, hrb, hf1, hf2, hrk⟩ := HL.out.2.2.2 ad rfl i x hx
          obtain ⟨AB, cB, rfl, _⟩ := id hrb
          obtain ⟨AK, cK, rfl, _⟩ := id hrk
          have HC0 := Lib.hid hk0
          have HC1 := Lib.hid hk1
          have HC2 := Lib.hid hk2
          have HRB := Lib.hid hrb
          have HRK := Lib.hid hrk
          have HF2 := Lib.hid hf2
          have hwi : IntKind.i64.wrap ((i : Int) + 1) = (i : Int) + 1 := IntWalk.i64_in _ (by omega)
          clear hk0 hk1 hk2 hrb hrk hx hin hf1 hf2
          have hc0 : wr.cell? (ad.add (i * 3)) = some (.slice AB x.b.length cB) := DWrite.cellB HDX.out.gr HC0.out
          by_cases hxl : 300 < x.b.length
          · have hxl' : (300 : Int) < (x.b.length : Int) := by omega
            clear hxl
            go_wp2
            go_roundg q
            case measure => omega
            case rel => exact ⟨i + 1, S, n0, c, s, nw, AN, cN, by omega, by first | rfl | simp, rfl, by omega, HSK0, HLS, HDX⟩
          · have hxl' : ¬ (300 : Int) < (x.b.length : Int) := by omega
            have HXL : Hid (x.b.length ≤ 300) := Lib.hid (by omega)
            obtain ⟨n, hn⟩ : ∃ n, anw S 0 (2 * 3) = n := ⟨_, rfl⟩
            have hnn : n ≤ n0 := by rw [← hn]; exact HSK0.out.newest_le
            have hsk := HSK0.out.newest
            rw [hn] at hsk
            have HSK := Lib.hid hsk
            have HNN : Hid (Nwst S 0 (2 * 3) n) := Lib.hid ⟨hn⟩
            have HMAY : Hid (may (n + 1) = true) := Lib.hid ((may_iff _).2 (by omega))
            obtain ⟨fu, hfu⟩ : ∃ fu, max x.fu (-1) = fu := ⟨_, rfl⟩
            have HFU := Lib.hid hfu
            have hnx := next_any S 0 3 n c s nw x.b fu hsk HMAY.out (by omega) (by omega) (by omega)
            have HNX := Lib.hid hnx
            clear hxl hn hsk hfu hnx HSK0
            have hc1 : wr.cell? ⟨(ad.add (i * 3)).block, (ad.add (i * 3)).off + 1, none⟩ = some (.int .i64 x.fu) := DWrite.cellB HDX.out.gr HC1.out
            go_wp2_with fail
            refine (ds_fuse w wr g _ _ HDX.out x.fu (calmF S fu) HF2.out (fused_calm _ _ _ HFU.out)).mono ?_
            rintro e w3 ⟨rfl, hd⟩
            have HD3 := Lib.hid hd
            clear hd HDX hc0 hc1
            have hc0 : w3.cell? (ad.add (i * 3)) = some (.slice AB x.b.length cB) := DWrite.cellB HD3.out.gr HC0.out
            rcases HNX.out with ⟨_, S2, hq, hsk2, _, hls2⟩ | ⟨_, _, d', hq, hoff, hwt, _, _, hkp⟩
            · have HQ := Lib.hid hq
              have HSK2 := Lib.hid hsk2
              have HLS2 : Hid (S2.length = 6) := Lib.hid (hls2.trans HLS.out)
              clear hq hsk2 hls2 HNX
              go_wp2_with fail
              refine (ds_next (HD3.out.arg HRB.out) 0 3 n c s 0 3 rfl rfl nw HSK.out HNN.out.is (by rw [HLS.out]; omega) HMAY.out (.slice AB x.b.length cB) x.b (List.mem_cons_self ..) (by have := HXL.out; omega) _ 0 HQ.out).mono ?_
              rintro e w4 ⟨rfl, hd⟩
              have HD4 := Lib.hid hd
              clear hd HD3 hc0
              have hc2 : w4.cell? ⟨(ad.add (i * 3)).block, (ad.add (i * 3)).off + 2, none⟩ = some (.slice AK x.keep.length cK) := DWrite.cellB HD4.out.gr HC2.out
              go_wp2_with fail
              refine (ds_crash w w4 g _ _ HD4.out _ (.slice AK x.keep.length cK) x.keep (calm S2) (Nat.zero_le _) HRK.out (fun b hb => hb) (crash_calm _ _ _)).mono ?_
              rintro e w6 ⟨rfl, hd⟩
              have HD6 := Lib.hid hd
              clear hd HD4
              go_wp2_with fail
              refine (ds_last_some HD6.out 0 3 0 3 rfl rfl (six_refus _ (-1) HLS2.out) (1 - c) (n + 1) x.b HSK2.out.pick).mono ?_
              rintro e w7 ⟨v7, rfl, hd⟩
              obtain ⟨A7, c7, rfl, _⟩ := id (hd.rd (List.mem_cons_self ..))
              have HD7 := Lib.hid hd
              have HR7 : Hid (Rd (fun _ => True) w7 (.slice A7 x.b.length c7) x.b) := Lib.hid (hd.rd (List.mem_cons_self ..))
              have HC9 : Hid (w7.cell? (ad.add (i * 3)) = some (.slice AB x.b.length cB)) := Lib.hid (DWrite.cellB hd.gr HC0.out)
              have HRB9 := Lib.hid (HRB.out.grew hd.gr)
              have HRN9 : Hid (Rd (fun _ => True) w7 (.slice AN nw.length cN) nw) := Lib.hid (hd.rd (by simp))
              clear hd HD6 hc2
              go_wp2
              refine Facts.wp_region_text (by kernel_rfl) (by kernel_rfl) ?_
              apply Facts.Lex.exact [] _ (by kernel_rfl)
              · intro u W hC _
                unfold Facts.one
                go_simp
                all_goals (first | exact ⟨Grew.refl _, rfl⟩ | rfl | (intro hh; exact (by cases hh)) | (intro hh; simp [undef] at hh))
              simp only [Act.put, List.setIfInBounds_toArray, List.set_cons_zero, List.set_cons_succ, Nat.zero_add]
              apply Facts.Lex.exact [] _ (by kernel_rfl)
              · intro u W hC _
                unfold Facts.one
                go_simp
                all_goals (first | exact ⟨Grew.refl _, rfl⟩ | rfl | (intro hh; exact (by cases hh)) | (intro hh; simp [undef] at hh))
              simp only [Act.put, List.setIfInBounds_toArray, List.set_cons_zero, List.set_cons_succ, Nat.reduceAdd]
              apply Facts.Lex.exact [] _ (by kernel_rfl)
              · intro u W hC _
                unfold Facts.one
                go_simp
                all_goals (first | exact ⟨Grew.refl _, rfl⟩ | rfl | (intro hh; exact (by cases hh)) | (intro hh; simp [undef] at hh))
              simp only [Act.put, List.setIfInBounds_toArray, List.set_cons_zero, List.set_cons_succ, Nat.reduceAdd]
              apply Facts.Lex.exact [] _ (by kernel_rfl)
              · intro u W hC _
                unfold Facts.one
                go_simp
                all_goals (first | exact ⟨Grew.refl _, rfl⟩ | rfl | (intro hh; exact (by cases hh)) | (intro hh; simp [undef] at hh))
              simp only [Act.put, List.setIfInBounds_toArray, List.set_cons_zero, List.set_cons_succ, Nat.reduceAdd]
              apply Facts.Lex.exact [] _ (by kernel_rfl)
              · intro u W hC _
                have d1 := Nums.conv22 (HR7.out.grew hC)
                unfold Facts.one
                go_simp
                all_goals (first | exact ⟨Grew.refl _, rfl⟩ | rfl | (intro hh; exact (by cases hh)) | (intro hh; simp [undef] at hh))
              simp only [Act.put, List.setIfInBounds_toArray, List.set_cons_zero, List.set_cons_succ, Nat.reduceAdd]
              apply Facts.Lex.exact [] _ (by kernel_rfl)
              · intro u W hC _
                unfold Facts.one
                go_simp
                all_goals (first | exact ⟨Grew.refl _, rfl⟩ | rfl | (intro hh; exact (by cases hh)) | (intro hh; simp [undef] at hh))
              simp only [Act.put, List.setIfInBounds_toArray, List.set_cons_zero, List.set_cons_succ, Nat.reduceAdd]
              apply Facts.Lex.exact [] _ (by kernel_rfl)
              · intro u W hC _
                unfold Facts.one
                go_simp
                all_goals (first | exact ⟨Grew.refl _, rfl⟩ | rfl | (intro hh; exact (by cases hh)) | (intro hh; simp [undef] at hh))
              simp only [Act.put, List.setIfInBounds_toArray, List.set_cons_zero, List.set_cons_succ, Nat.reduceAdd]
              apply Facts.Lex.exact [] _ (by kernel_rfl)
              · intro u W hC _
                unfold Facts.one
                go_simp
                all_goals (first | exact ⟨Grew.refl _, rfl⟩ | rfl | (intro hh; exact (by cases hh)) | (intro hh; simp [undef] at hh))
              simp only [Act.put, List.setIfInBounds_toArray, List.set_cons_zero, List.set_cons_succ, Nat.reduceAdd]
              apply Facts.Lex.exact [] _ (by kernel_rfl)
              · intro u W hC _
                unfold Facts.one
                go_simp
                all_goals (first | exact ⟨Grew.refl _, rfl⟩ | rfl | (intro hh; exact (by cases hh)) | (intro hh; simp [undef] at hh))
              simp only [Act.put, List.setIfInBounds_toArray, List.set_cons_zero, List.set_cons_succ, Nat.reduceAdd]
              apply Facts.Lex.exact [] _ (by kernel_rfl)
              · intro u W hC _
                have d1 : W.cell? (ad.add (i * 3)) = some (.slice AB x.b.length cB) := DWrite.cellB hC HC9.out
                unfold Facts.one
                go_simp
                all_goals (first | exact ⟨Grew.refl _, rfl⟩ | rfl | (intro hh; exact (by cases hh)) | (intro hh; simp [undef] at hh))
              simp only [Act.put, List.setIfInBounds_toArray, List.set_cons_zero, List.set_cons_succ, Nat.reduceAdd]
              apply Facts.Lex.exact [] _ (by kernel_rfl)
              · intro u W hC _
                have d1 := Nums.conv22 (HRB9.out.grew hC)
                unfold Facts.one
                go_simp
                all_goals (first | exact ⟨Grew.refl _, rfl⟩ | rfl | (intro hh; exact (by cases hh)) | (intro hh; simp [undef] at hh))
              simp only [Act.put, List.setIfInBounds_toArray, List.set_cons_zero, List.set_cons_succ, Nat.reduceAdd]
              apply Facts.Lex.exact [] (.bool false) (by kernel_rfl)
              · intro u W hC _
                have d1 : (x.b == x.b) = true := by simp
                unfold Facts.one
                go_simp
                all_goals (first | exact ⟨Grew.refl _, rfl⟩ | rfl | (intro hh; exact (by cases hh)) | (intro hh; simp [undef] at hh))
              simp only [Act.put, List.setIfInBounds_toArray, List.set_cons_zero, List.set_cons_succ, Nat.reduceAdd]
              apply Facts.Lex.exact [] _ (by kernel_rfl)
              · intro u W hC _
                unfold Facts.one
                go_simp
                all_goals (first | exact ⟨Grew.refl _, rfl⟩ | rfl | (intro hh; exact (by cases hh)) | (intro hh; simp [undef] at hh))
              simp only [Act.put, List.setIfInBounds_toArray, List.set_cons_zero, List.set_cons_succ, Nat.reduceAdd]
              apply Facts.Lex.exact [] undef (by kernel_rfl)
              · intro u W hC _
                unfold Facts.one
                go_simp
                all_goals (first | exact ⟨Grew.refl _, rfl⟩ | rfl | (intro hh; exact (by cases hh)) | (intro hh; simp [undef] at hh))
              simp only [Act.put, List.setIfInBounds_toArray, List.set_cons_zero, List.set_cons_succ, Nat.reduceAdd]
              apply Facts.Lex.exact [] undef (by kernel_rfl)
              · intro u W hC _
                unfold Facts.one
                go_simp
                all_goals (first | exact ⟨Grew.refl _, rfl⟩ | rfl | (intro hh; exact (by cases hh)) | (intro hh; simp [undef] at hh))
              simp only [Act.put, List.setIfInBounds_toArray, List.set_cons_zero, List.set_cons_succ, Nat.reduceAdd]
              apply Facts.Lex.exact [] undef (by kernel_rfl)
              · intro u W hC _
                unfold Facts.one
                go_simp
                all_goals (first | exact ⟨Grew.refl _, rfl⟩ | rfl | (intro hh; exact (by cases hh)) | (intro hh; simp [undef] at hh))
              simp only [Act.put, List.setIfInBounds_toArray, List.set_cons_zero, List.set_cons_succ, Nat.reduceAdd]
              apply Facts.Lex.exact [] undef (by kernel_rfl)
              · intro u W hC _
                unfold Facts.one
                go_simp
                all_goals (first | exact ⟨Grew.refl _, rfl⟩ | rfl | (intro hh; exact (by cases hh)) | (intro hh; simp [undef] at hh))
              simp only [Act.put, List.setIfInBounds_toArray, List.set_cons_zero, List.set_cons_succ, Nat.reduceAdd]
              apply Facts.Lex.exact [] undef (by kernel_rfl)
              · intro u W hC _
                unfold Facts.one
                go_simp
                all_goals (first | exact ⟨Grew.refl _, rfl⟩ | rfl | (intro hh; exact (by cases hh)) | (intro hh; simp [undef] at hh))
              simp only [Act.put, List.setIfInBounds_toArray, List.set_cons_zero, List.set_cons_succ, Nat.reduceAdd]
              apply Facts.Lex.exact [] undef (by kernel_rfl)
              · intro u W hC _
                unfold Facts.one
                go_simp
                all_goals (first | exact ⟨Grew.refl _, rfl⟩ | rfl | (intro hh; exact (by cases hh)) | (intro hh; simp [undef] at hh))
              simp only [Act.put, List.setIfInBounds_toArray, List.set_cons_zero, List.set_cons_succ, Nat.reduceAdd]
              apply Facts.Lex.exact [] undef (by kernel_rfl)
              · intro u W hC _
                unfold Facts.one
                go_simp
                all_goals (first | exact ⟨Grew.refl _, rfl⟩ | rfl | (intro hh; exact (by cases hh)) | (intro hh; simp [undef] at hh))
              simp only [Act.put, List.setIfInBounds_toArray, List.set_cons_zero, List.set_cons_succ, Nat.reduceAdd]
              apply Facts.Lex.exact [] undef (by kernel_rfl)
              · intro u W hC _
                unfold Facts.one
                go_simp
                all_goals (first | exact ⟨Grew.refl _, rfl⟩ | rfl | (intro hh; exact (by cases hh)) | (intro hh; simp [undef] at hh))
              simp only [Act.put, List.setIfInBounds_toArray, List.set_cons_zero, List.set_cons_succ, Nat.reduceAdd]
              apply Facts.Lex.exact [] undef (by kernel_rfl)
              · intro u W hC _
                unfold Facts.one
                go_simp
                all_goals (first | exact ⟨Grew.refl _, rfl⟩ | rfl | (intro hh; exact (by cases hh)) | (intro hh; simp [undef] at hh))
              simp only [Act.put, List.setIfInBounds_toArray, List.set_cons_zero, List.set_cons_succ, Nat.reduceAdd]
              apply Facts.Lex.exact [] _ (by kernel_rfl)
              · intro u W hC _
                unfold Facts.one
                go_simp
                all_goals (first | exact ⟨Grew.refl _, rfl⟩ | rfl | (intro hh; exact (by cases hh)) | (intro hh; simp [undef] at hh))
              simp only [Act.put, List.setIfInBounds_toArray, List.set_cons_zero, List.set_cons_succ, Nat.reduceAdd]
              apply Facts.Lex.exact [] _ (by kernel_rfl)
              · intro u W hC _
                unfold Facts.one
                go_simp
                all_goals (first | exact ⟨Grew.refl _, rfl⟩ | rfl | (intro hh; exact (by cases hh)) | (intro hh; simp [undef] at hh))
              simp only [Act.put, List.setIfInBounds_toArray, List.set_cons_zero, List.set_cons_succ, Nat.reduceAdd]
              refine Facts.Lex.done fun u W hC _ => ?_
              have HDE := Lib.hid ((HD7.out.grew hC).sub (V' := [(.slice A7 x.b.length c7, x.b)]) (by simp))
              clear hC
              go_wp2
              go_roundg q
              case measure => omega
              case rel => exact ⟨i + 1, S2, n + 1, (1 - c), (n + 1), x.b, A7, c7, by omega, by first | rfl | simp, rfl, by omega, HSK2, HLS2, HDE⟩

            · obtain ⟨S2, hcr, hsk2, _, hls2⟩ := hkp x.keep
              have HQ := Lib.hid hq
              have HCR := Lib.hid hcr
              have HWT := Lib.hid hwt
              have HLS2 : Hid (S2.length = 6) := Lib.hid (hls2.trans HLS.out)
              clear hq hcr hls2 HNX hoff hwt hkp
              go_wp2_with fail
              refine (ds_next (HD3.out.arg HRB.out) 0 3 n c s 0 3 rfl rfl nw HSK.out HNN.out.is (by rw [HLS.out]; omega) HMAY.out (.slice AB x.b.length cB) x.b (List.mem_cons_self ..) (by have := HXL.out; omega) d' 15 HQ.out).mono ?_
              rintro e w4 ⟨rfl, hd⟩
              have HD4 := Lib.hid hd
              clear hd HD3 hc0
              have hc2 : w4.cell? ⟨(ad.add (i * 3)).block, (ad.add (i * 3)).off + 2, none⟩ = some (.slice AK x.keep.length cK) := DWrite.cellB HD4.out.gr HC2.out
              go_wp2_with fail
              refine (ds_crash w w4 g _ _ HD4.out _ (.slice AK x.keep.length cK) x.keep (calm S2) (by have := HWT.out; omega) HRK.out (fun b hb => hb) HCR.out).mono ?_
              rintro e w6 ⟨rfl, hd⟩
              have HD6 := Lib.hid hd
              clear hd HD4
              rcases hsk2 with hsk2 | hsk2
              · have HSK2 := Lib.hid hsk2
                clear hsk2
                go_wp2_with fail
                refine (ds_last_some HD6.out 0 3 0 3 rfl rfl (six_refus _ (-1) HLS2.out) c s nw HSK2.out.pick).mono ?_
                rintro e w7 ⟨v7, rfl, hd⟩
                obtain ⟨A7, c7, rfl, _⟩ := id (hd.rd (List.mem_cons_self ..))
                have HD7 := Lib.hid hd
                have HR7 : Hid (Rd (fun _ => True) w7 (.slice A7 nw.length c7) nw) := Lib.hid (hd.rd (List.mem_cons_self ..))
                have HC9 : Hid (w7.cell? (ad.add (i * 3)) = some (.slice AB x.b.length cB)) := Lib.hid (DWrite.cellB hd.gr HC0.out)
                have HRB9 := Lib.hid (HRB.out.grew hd.gr)
                have HRN9 : Hid (Rd (fun _ => True) w7 (.slice AN nw.length cN) nw) := Lib.hid (hd.rd (by simp))
                clear hd HD6 hc2
                cases hcmp : (nw == x.b) with
                | true =>
                  have hxb : nw = x.b := by simpa using hcmp
                  rw [hxb] at HR7 HD7 HSK2 ⊢
                  clear hcmp hxb
                  go_wp2
                  refine Facts.wp_region_text (by kernel_rfl) (by kernel_rfl) ?_
                  apply Facts.Lex.exact [] _ (by kernel_rfl)
                  · intro u W hC _
                    unfold Facts.one
                    go_simp
                    all_goals (first | exact ⟨Grew.refl _, rfl⟩ | rfl | (intro hh; exact (by cases hh)) | (intro hh; simp [undef] at hh))
                  simp only [Act.put, List.setIfInBounds_toArray, List.set_cons_zero, List.set_cons_succ, Nat.zero_add]
                  apply Facts.Lex.exact [] _ (by kernel_rfl)
                  · intro u W hC _
                    unfold Facts.one
                    go_simp
                    all_goals (first | exact ⟨Grew.refl _, rfl⟩ | rfl | (intro hh; exact (by cases hh)) | (intro hh; simp [undef] at hh))
                  simp only [Act.put, List.setIfInBounds_toArray, List.set_cons_zero, List.set_cons_succ, Nat.reduceAdd]
                  apply Facts.Lex.exact [] _ (by kernel_rfl)
                  · intro u W hC _
                    unfold Facts.one
                    go_simp
                    all_goals (first | exact ⟨Grew.refl _, rfl⟩ | rfl | (intro hh; exact (by cases hh)) | (intro hh; simp [undef] at hh))
                  simp only [Act.put, List.setIfInBounds_toArray, List.set_cons_zero, List.set_cons_succ, Nat.reduceAdd]
                  apply Facts.Lex.exact [] _ (by kernel_rfl)
                  · intro u W hC _
                    unfold Facts.one
                    go_simp
                    all_goals (first | exact ⟨Grew.refl _, rfl⟩ | rfl | (intro hh; exact (by cases hh)) | (intro hh; simp [undef] at hh))
                  simp only [Act.put, List.setIfInBounds_toArray, List.set_cons_zero, List.set_cons_succ, Nat.reduceAdd]
                  apply Facts.Lex.exact [] _ (by kernel_rfl)
                  · intro u W hC _
                    have d1 := Nums.conv22 (HR7.out.grew hC)
                    unfold Facts.one
                    go_simp
                    all_goals (first | exact ⟨Grew.refl _, rfl⟩ | rfl | (intro hh; exact (by cases hh)) | (intro hh; simp [undef] at hh))
                  simp only [Act.put, List.setIfInBounds_toArray, List.set_cons_zero, List.set_cons_succ, Nat.reduceAdd]
                  apply Facts.Lex.exact [] _ (by kernel_rfl)
                  · intro u W hC _
                    unfold Facts.one
                    go_simp
                    all_goals (first | exact ⟨Grew.refl _, rfl⟩ | rfl | (intro hh; exact (by cases hh)) | (intro hh; simp [undef] at hh))
                  simp only [Act.put, List.setIfInBounds_toArray, List.set_cons_zero, List.set_cons_succ, Nat.reduceAdd]
                  apply Facts.Lex.exact [] _ (by kernel_rfl)
                  · intro u W hC _
                    unfold Facts.one
                    go_simp
                    all_goals (first | exact ⟨Grew.refl _, rfl⟩ | rfl | (intro hh; exact (by cases hh)) | (intro hh; simp [undef] at hh))
                  simp only [Act.put, List.setIfInBounds_toArray, List.set_cons_zero, List.set_cons_succ, Nat.reduceAdd]
                  apply Facts.Lex.exact [] _ (by kernel_rfl)
                  · intro u W hC _
                    unfold Facts.one
                    go_simp
                    all_goals (first | exact ⟨Grew.refl _, rfl⟩ | rfl | (intro hh; exact (by cases hh)) | (intro hh; simp [undef] at hh))
                  simp only [Act.put, List.setIfInBounds_toArray, List.set_cons_zero, List.set_cons_succ, Nat.reduceAdd]
                  apply Facts.Lex.exact [] _ (by kernel_rfl)
                  · intro u W hC _
                    unfold Facts.one
                    go_simp
                    all_goals (first | exact ⟨Grew.refl _, rfl⟩ | rfl | (intro hh; exact (by cases hh)) | (intro hh; simp [undef] at hh))
                  simp only [Act.put, List.setIfInBounds_toArray, List.set_cons_zero, List.set_cons_succ, Nat.reduceAdd]
                  apply Facts.Lex.exact [] _ (by kernel_rfl)
                  · intro u W hC _
                    have d1 : W.cell? (ad.add (i * 3)) = some (.slice AB x.b.length cB) := DWrite.cellB hC HC9.out
                    unfold Facts.one
                    go_simp
                    all_goals (first | exact ⟨Grew.refl _, rfl⟩ | rfl | (intro hh; exact (by cases hh)) | (intro hh; simp [undef] at hh))
                  simp only [Act.put, List.setIfInBounds_toArray, List.set_cons_zero, List.set_cons_succ, Nat.reduceAdd]
                  apply Facts.Lex.exact [] _ (by kernel_rfl)
                  · intro u W hC _
                    have d1 := Nums.conv22 (HRB9.out.grew hC)
                    unfold Facts.one
                    go_simp
                    all_goals (first | exact ⟨Grew.refl _, rfl⟩ | rfl | (intro hh; exact (by cases hh)) | (intro hh; simp [undef] at hh))
                  simp only [Act.put, List.setIfInBounds_toArray, List.set_cons_zero, List.set_cons_succ, Nat.reduceAdd]
                  apply Facts.Lex.exact [] (.bool false) (by kernel_rfl)
                  · intro u W hC _
                    have d1 : (x.b == x.b) = true := by simp
                    unfold Facts.one
                    go_simp
                    all_goals (first | exact ⟨Grew.refl _, rfl⟩ | rfl | (intro hh; exact (by cases hh)) | (intro hh; simp [undef] at hh))
                  simp only [Act.put, List.setIfInBounds_toArray, List.set_cons_zero, List.set_cons_succ, Nat.reduceAdd]
                  apply Facts.Lex.exact [] _ (by kernel_rfl)
                  · intro u W hC _
                    unfold Facts.one
                    go_simp
                    all_goals (first | exact ⟨Grew.refl _, rfl⟩ | rfl | (intro hh; exact (by cases hh)) | (intro hh; simp [undef] at hh))
                  simp only [Act.put, List.setIfInBounds_toArray, List.set_cons_zero, List.set_cons_succ, Nat.reduceAdd]
                  apply Facts.Lex.exact [] undef (by kernel_rfl)
                  · intro u W hC _
                    unfold Facts.one
                    go_simp
                    all_goals (first | exact ⟨Grew.refl _, rfl⟩ | rfl | (intro hh; exact (by cases hh)) | (intro hh; simp [undef] at hh))
                  simp only [Act.put, List.setIfInBounds_toArray, List.set_cons_zero, List.set_cons_succ, Nat.reduceAdd]
                  apply Facts.Lex.exact [] undef (by kernel_rfl)
                  · intro u W hC _
                    unfold Facts.one
                    go_simp
                    all_goals (first | exact ⟨Grew.refl _, rfl⟩ | rfl | (intro hh; exact (by cases hh)) | (intro hh; simp [undef] at hh))
                  simp only [Act.put, List.setIfInBounds_toArray, List.set_cons_zero, List.set_cons_succ, Nat.reduceAdd]
                  apply Facts.Lex.exact [] undef (by kernel_rfl)
                  · intro u W hC _
                    unfold Facts.one
                    go_simp
                    all_goals (first | exact ⟨Grew.refl _, rfl⟩ | rfl | (intro hh; exact (by cases hh)) | (intro hh; simp [undef] at hh))
                  simp only [Act.put, List.setIfInBounds_toArray, List.set_cons_zero, List.set_cons_succ, Nat.reduceAdd]
                  apply Facts.Lex.exact [] undef (by kernel_rfl)
                  · intro u W hC _
                    unfold Facts.one
                    go_simp
                    all_goals (first | exact ⟨Grew.refl _, rfl⟩ | rfl | (intro hh; exact (by cases hh)) | (intro hh; simp [undef] at hh))
                  simp only [Act.put, List.setIfInBounds_toArray, List.set_cons_zero, List.set_cons_succ, Nat.reduceAdd]
                  apply Facts.Lex.exact [] undef (by kernel_rfl)
                  · intro u W hC _
                    unfold Facts.one
                    go_simp
                    all_goals (first | exact ⟨Grew.refl _, rfl⟩ | rfl | (intro hh; exact (by cases hh)) | (intro hh; simp [undef] at hh))
                  simp only [Act.put, List.setIfInBounds_toArray, List.set_cons_zero, List.set_cons_succ, Nat.reduceAdd]
                  apply Facts.Lex.exact [] undef (by kernel_rfl)
                  · intro u W hC _
                    unfold Facts.one
                    go_simp
                    all_goals (first | exact ⟨Grew.refl _, rfl⟩ | rfl | (intro hh; exact (by cases hh)) | (intro hh; simp [undef] at hh))
                  simp only [Act.put, List.setIfInBounds_toArray, List.set_cons_zero, List.set_cons_succ, Nat.reduceAdd]
                  apply Facts.Lex.exact [] undef (by kernel_rfl)
                  · intro u W hC _
                    unfold Facts.one
                    go_simp
                    all_goals (first | exact ⟨Grew.refl _, rfl⟩ | rfl | (intro hh; exact (by cases hh)) | (intro hh; simp [undef] at hh))
                  simp only [Act.put, List.setIfInBounds_toArray, List.set_cons_zero, List.set_cons_succ, Nat.reduceAdd]
                  apply Facts.Lex.exact [] undef (by kernel_rfl)
                  · intro u W hC _
                    unfold Facts.one
                    go_simp
                    all_goals (first | exact ⟨Grew.refl _, rfl⟩ | rfl | (intro hh; exact (by cases hh)) | (intro hh; simp [undef] at hh))
                  simp only [Act.put, List.setIfInBounds_toArray, List.set_cons_zero, List.set_cons_succ, Nat.reduceAdd]
                  apply Facts.Lex.exact [] undef (by kernel_rfl)
                  · intro u W hC _
                    unfold Facts.one
                    go_simp
                    all_goals (first | exact ⟨Grew.refl _, rfl⟩ | rfl | (intro hh; exact (by cases hh)) | (intro hh; simp [undef] at hh))
                  simp only [Act.put, List.setIfInBounds_toArray, List.set_cons_zero, List.set_cons_succ, Nat.reduceAdd]
                  apply Facts.Lex.exact [] _ (by kernel_rfl)
                  · intro u W hC _
                    unfold Facts.one
                    go_simp
                    all_goals (first | exact ⟨Grew.refl _, rfl⟩ | rfl | (intro hh; exact (by cases hh)) | (intro hh; simp [undef] at hh))
                  simp only [Act.put, List.setIfInBounds_toArray, List.set_cons_zero, List.set_cons_succ, Nat.reduceAdd]
                  apply Facts.Lex.exact [] _ (by kernel_rfl)
                  · intro u W hC _
                    unfold Facts.one
                    go_simp
                    all_goals (first | exact ⟨Grew.refl _, rfl⟩ | rfl | (intro hh; exact (by cases hh)) | (intro hh; simp [undef] at hh))
                  simp only [Act.put, List.setIfInBounds_toArray, List.set_cons_zero, List.set_cons_succ, Nat.reduceAdd]
                  refine Facts.Lex.done fun u W hC _ => ?_
                  have HDE := Lib.hid ((HD7.out.grew hC).sub (V' := [(.slice A7 x.b.length c7, x.b)]) (by simp))
                  clear hC
                  go_wp2
                  go_roundg q
                  case measure => omega
                  case rel => exact ⟨i + 1, S2, n + 1, c, s, x.b, A7, c7, by omega, by first | rfl | simp, rfl, by omega, HSK2, HLS2, HDE⟩
                | false =>
                  have HNE := Lib.hid hcmp
                  clear hcmp
                  go_wp2
                  refine Facts.wp_region_text (by kernel_rfl) (by kernel_rfl) ?_
                  apply Facts.Lex.exact [] _ (by kernel_rfl)
                  · intro u W hC _
                    unfold Facts.one
                    go_simp
                    all_goals (first | exact ⟨Grew.refl _, rfl⟩ | rfl | (intro hh; exact (by cases hh)) | (intro hh; simp [undef] at hh))
                  simp only [Act.put, List.setIfInBounds_toArray, List.set_cons_zero, List.set_cons_succ, Nat.zero_add]
                  apply Facts.Lex.exact [] _ (by kernel_rfl)
                  · intro u W hC _
                    unfold Facts.one
                    go_simp
                    all_goals (first | exact ⟨Grew.refl _, rfl⟩ | rfl | (intro hh; exact (by cases hh)) | (intro hh; simp [undef] at hh))
                  simp only [Act.put, List.setIfInBounds_toArray, List.set_cons_zero, List.set_cons_succ, Nat.reduceAdd]
                  apply Facts.Lex.exact [] _ (by kernel_rfl)
                  · intro u W hC _
                    unfold Facts.one
                    go_simp
                    all_goals (first | exact ⟨Grew.refl _, rfl⟩ | rfl | (intro hh; exact (by cases hh)) | (intro hh; simp [undef] at hh))
                  simp only [Act.put, List.setIfInBounds_toArray, List.set_cons_zero, List.set_cons_succ, Nat.reduceAdd]
                  apply Facts.Lex.exact [] _ (by kernel_rfl)
                  · intro u W hC _
                    unfold Facts.one
                    go_simp
                    all_goals (first | exact ⟨Grew.refl _, rfl⟩ | rfl | (intro hh; exact (by cases hh)) | (intro hh; simp [undef] at hh))
                  simp only [Act.put, List.setIfInBounds_toArray, List.set_cons_zero, List.set_cons_succ, Nat.reduceAdd]
                  apply Facts.Lex.exact [] _ (by kernel_rfl)
                  · intro u W hC _
                    have d1 := Nums.conv22 (HR7.out.grew hC)
                    unfold Facts.one
                    go_simp
                    all_goals (first | exact ⟨Grew.refl _, rfl⟩ | rfl | (intro hh; exact (by cases hh)) | (intro hh; simp [undef] at hh))
                  simp only [Act.put, List.setIfInBounds_toArray, List.set_cons_zero, List.set_cons_succ, Nat.reduceAdd]
                  apply Facts.Lex.exact [] _ (by kernel_rfl)
                  · intro u W hC _
                    unfold Facts.one
                    go_simp
                    all_goals (first | exact ⟨Grew.refl _, rfl⟩ | rfl | (intro hh; exact (by cases hh)) | (intro hh; simp [undef] at hh))
                  simp only [Act.put, List.setIfInBounds_toArray, List.set_cons_zero, List.set_cons_succ, Nat.reduceAdd]
                  apply Facts.Lex.exact [] _ (by kernel_rfl)
                  · intro u W hC _
                    unfold Facts.one
                    go_simp
                    all_goals (first | exact ⟨Grew.refl _, rfl⟩ | rfl | (intro hh; exact (by cases hh)) | (intro hh; simp [undef] at hh))
                  simp only [Act.put, List.setIfInBounds_toArray, List.set_cons_zero, List.set_cons_succ, Nat.reduceAdd]
                  apply Facts.Lex.exact [] _ (by kernel_rfl)
                  · intro u W hC _
                    unfold Facts.one
                    go_simp
                    all_goals (first | exact ⟨Grew.refl _, rfl⟩ | rfl | (intro hh; exact (by cases hh)) | (intro hh; simp [undef] at hh))
                  simp only [Act.put, List.setIfInBounds_toArray, List.set_cons_zero, List.set_cons_succ, Nat.reduceAdd]
                  apply Facts.Lex.exact [] _ (by kernel_rfl)
                  · intro u W hC _
                    unfold Facts.one
                    go_simp
                    all_goals (first | exact ⟨Grew.refl _, rfl⟩ | rfl | (intro hh; exact (by cases hh)) | (intro hh; simp [undef] at hh))
                  simp only [Act.put, List.setIfInBounds_toArray, List.set_cons_zero, List.set_cons_succ, Nat.reduceAdd]
                  apply Facts.Lex.exact [] _ (by kernel_rfl)
                  · intro u W hC _
                    have d1 : W.cell? (ad.add (i * 3)) = some (.slice AB x.b.length cB) := DWrite.cellB hC HC9.out
                    unfold Facts.one
                    go_simp
                    all_goals (first | exact ⟨Grew.refl _, rfl⟩ | rfl | (intro hh; exact (by cases hh)) | (intro hh; simp [undef] at hh))
                  simp only [Act.put, List.setIfInBounds_toArray, List.set_cons_zero, List.set_cons_succ, Nat.reduceAdd]
                  apply Facts.Lex.exact [] _ (by kernel_rfl)
                  · intro u W hC _
                    have d1 := Nums.conv22 (HRB9.out.grew hC)
                    unfold Facts.one
                    go_simp
                    all_goals (first | exact ⟨Grew.refl _, rfl⟩ | rfl | (intro hh; exact (by cases hh)) | (intro hh; simp [undef] at hh))
                  simp only [Act.put, List.setIfInBounds_toArray, List.set_cons_zero, List.set_cons_succ, Nat.reduceAdd]
                  apply Facts.Lex.exact [] (.bool true) (by kernel_rfl)
                  · intro u W hC _
                    have d1 : (nw == x.b) = false := HNE.out
                    unfold Facts.one
                    go_simp
                    all_goals (first | exact ⟨Grew.refl _, rfl⟩ | rfl | (intro hh; exact (by cases hh)) | (intro hh; simp [undef] at hh))
                  simp only [Act.put, List.setIfInBounds_toArray, List.set_cons_zero, List.set_cons_succ, Nat.reduceAdd]
                  apply Facts.Lex.exact [] _ (by kernel_rfl)
                  · intro u W hC _
                    unfold Facts.one
                    go_simp
                    all_goals (first | exact ⟨Grew.refl _, rfl⟩ | rfl | (intro hh; exact (by cases hh)) | (intro hh; simp [undef] at hh))
                  simp only [Act.put, List.setIfInBounds_toArray, List.set_cons_zero, List.set_cons_succ, Nat.reduceAdd]
                  apply Facts.Lex.exact [] _ (by kernel_rfl)
                  · intro u W hC _
                    unfold Facts.one
                    go_simp
                    all_goals (first | exact ⟨Grew.refl _, rfl⟩ | rfl | (intro hh; exact (by cases hh)) | (intro hh; simp [undef] at hh))
                  simp only [Act.put, List.setIfInBounds_toArray, List.set_cons_zero, List.set_cons_succ, Nat.reduceAdd]
                  apply Facts.Lex.exact [] _ (by kernel_rfl)
                  · intro u W hC _
                    unfold Facts.one
                    go_simp
                    all_goals (first | exact ⟨Grew.refl _, rfl⟩ | rfl | (intro hh; exact (by cases hh)) | (intro hh; simp [undef] at hh))
                  simp only [Act.put, List.setIfInBounds_toArray, List.set_cons_zero, List.set_cons_succ, Nat.reduceAdd]
                  apply Facts.Lex.exact [] _ (by kernel_rfl)
                  · intro u W hC _
                    unfold Facts.one
                    go_simp
                    all_goals (first | exact ⟨Grew.refl _, rfl⟩ | rfl | (intro hh; exact (by cases hh)) | (intro hh; simp [undef] at hh))
                  simp only [Act.put, List.setIfInBounds_toArray, List.set_cons_zero, List.set_cons_succ, Nat.reduceAdd]
                  apply Facts.Lex.exact [] _ (by kernel_rfl)
                  · intro u W hC _
                    unfold Facts.one
                    go_simp
                    all_goals (first | exact ⟨Grew.refl _, rfl⟩ | rfl | (intro hh; exact (by cases hh)) | (intro hh; simp [undef] at hh))
                  simp only [Act.put, List.setIfInBounds_toArray, List.set_cons_zero, List.set_cons_succ, Nat.reduceAdd]
                  apply Facts.Lex.exact [] _ (by kernel_rfl)
                  · intro u W hC _
                    have d1 := Nums.conv22 (HR7.out.grew hC)
                    unfold Facts.one
                    go_simp
                    all_goals (first | exact ⟨Grew.refl _, rfl⟩ | rfl | (intro hh; exact (by cases hh)) | (intro hh; simp [undef] at hh))
                  simp only [Act.put, List.setIfInBounds_toArray, List.set_cons_zero, List.set_cons_succ, Nat.reduceAdd]
                  apply Facts.Lex.exact [] _ (by kernel_rfl)
                  · intro u W hC _
                    unfold Facts.one
                    go_simp
                    all_goals (first | exact ⟨Grew.refl _, rfl⟩ | rfl | (intro hh; exact (by cases hh)) | (intro hh; simp [undef] at hh))
                  simp only [Act.put, List.setIfInBounds_toArray, List.set_cons_zero, List.set_cons_succ, Nat.reduceAdd]
                  apply Facts.Lex.exact [] _ (by kernel_rfl)
                  · intro u W hC _
                    have d1 := Nums.conv22 (HRN9.out.grew hC)
                    unfold Facts.one
                    go_simp
                    all_goals (first | exact ⟨Grew.refl _, rfl⟩ | rfl | (intro hh; exact (by cases hh)) | (intro hh; simp [undef] at hh))
                  simp only [Act.put, List.setIfInBounds_toArray, List.set_cons_zero, List.set_cons_succ, Nat.reduceAdd]
                  apply Facts.Lex.exact [] _ (by kernel_rfl)
                  · intro u W hC _
                    have d1 : (nw == nw) = true := by simp
                    unfold Facts.one
                    go_simp
                    all_goals (first | exact ⟨Grew.refl _, rfl⟩ | rfl | (intro hh; exact (by cases hh)) | (intro hh; simp [undef] at hh))
                  simp only [Act.put, List.setIfInBounds_toArray, List.set_cons_zero, List.set_cons_succ, Nat.reduceAdd]
                  apply Facts.Lex.exact [] _ (by kernel_rfl)
                  · intro u W hC _
                    unfold Facts.one
                    go_simp
                    all_goals (first | exact ⟨Grew.refl _, rfl⟩ | rfl | (intro hh; exact (by cases hh)) | (intro hh; simp [undef] at hh))
                  simp only [Act.put, List.setIfInBounds_toArray, List.set_cons_zero, List.set_cons_succ, Nat.reduceAdd]
                  apply Facts.Lex.exact [] _ (by kernel_rfl)
                  · intro u W hC _
                    unfold Facts.one
                    go_simp
                    all_goals (first | exact ⟨Grew.refl _, rfl⟩ | rfl | (intro hh; exact (by cases hh)) | (intro hh; simp [undef] at hh))
                  simp only [Act.put, List.setIfInBounds_toArray, List.set_cons_zero, List.set_cons_succ, Nat.reduceAdd]
                  apply Facts.Lex.exact [] _ (by kernel_rfl)
                  · intro u W hC _
                    unfold Facts.one
                    go_simp
                    all_goals (first | exact ⟨Grew.refl _, rfl⟩ | rfl | (intro hh; exact (by cases hh)) | (intro hh; simp [undef] at hh))
                  simp only [Act.put, List.setIfInBounds_toArray, List.set_cons_zero, List.set_cons_succ, Nat.reduceAdd]
                  refine Facts.Lex.done fun u W hC _ => ?_
                  have HDE := Lib.hid ((HD7.out.grew hC).sub (V' := [(.slice A7 nw.length c7, nw)]) (by simp))
                  clear hC
                  go_wp2
                  go_roundg q
                  case measure => omega
                  case rel => exact ⟨i + 1, S2, n + 1, c, s, nw, A7, c7, by omega, by first | rfl | simp, rfl, by omega, HSK2, HLS2, HDE⟩

              · have HSK2 := Lib.hid hsk2
                clear hsk2
                go_wp2_with fail
                refine (ds_last_some HD6.out 0 3 0 3 rfl rfl (six_refus _ (-1) HLS2.out) (1 - c) (n + 1) x.b HSK2.out.pick).mono ?_
                rintro e w7 ⟨v7, rfl, hd⟩
                obtain ⟨A7, c7, rfl, _⟩ := id (hd.rd (List.mem_cons_self ..))
                have HD7 := Lib.hid hd
                have HR7 : Hid (Rd (fun _ => True) w7 (.slice A7 x.b.length c7) x.b) := Lib.hid (hd.rd (List.mem_cons_self ..))
                have HC9 : Hid (w7.cell? (ad.add (i * 3)) = some (.slice AB x.b.length cB)) := Lib.hid (DWrite.cellB hd.gr HC0.out)
                have HRB9 := Lib.hid (HRB.out.grew hd.gr)
                have HRN9 : Hid (Rd (fun _ => True) w7 (.slice AN nw.length cN) nw) := Lib.hid (hd.rd (by simp))
                clear hd HD6 hc2
                go_wp2
                refine Facts.wp_region_text (by kernel_rfl) (by kernel_rfl) ?_
                apply Facts.Lex.exact [] _ (by kernel_rfl)
                · intro u W hC _
                  unfold Facts.one
                  go_simp
                  all_goals (first | exact ⟨Grew.refl _, rfl⟩ | rfl | (intro hh; exact (by cases hh)) | (intro hh; simp [undef] at hh))
                simp only [Act.put, List.setIfInBounds_toArray, List.set_cons_zero, List.set_cons_succ, Nat.zero_add]
                apply Facts.Lex.exact [] _ (by kernel_rfl)
                · intro u W hC _
                  unfold Facts.one
                  go_simp
                  all_goals (first | exact ⟨Grew.refl _, rfl⟩ | rfl | (intro hh; exact (by cases hh)) | (intro hh; simp [undef] at hh))
                simp only [Act.put, List.setIfInBounds_toArray, List.set_cons_zero, List.set_cons_succ, Nat.reduceAdd]
                apply Facts.Lex.exact [] _ (by kernel_rfl)
                · intro u W hC _
                  unfold Facts.one
                  go_simp
                  all_goals (first | exact ⟨Grew.refl _, rfl⟩ | rfl | (intro hh; exact (by cases hh)) | (intro hh; simp [undef] at hh))
                simp only [Act.put, List.setIfInBounds_toArray, List.set_cons_zero, List.set_cons_succ, Nat.reduceAdd]
                apply Facts.Lex.exact [] _ (by kernel_rfl)
                · intro u W hC _
                  unfold Facts.one
                  go_simp
                  all_goals (first | exact ⟨Grew.refl _, rfl⟩ | rfl | (intro hh; exact (by cases hh)) | (intro hh; simp [undef] at hh))
                simp only [Act.put, List.setIfInBounds_toArray, List.set_cons_zero, List.set_cons_succ, Nat.reduceAdd]
                apply Facts.Lex.exact [] _ (by kernel_rfl)
                · intro u W hC _
                  have d1 := Nums.conv22 (HR7.out.grew hC)
                  unfold Facts.one
                  go_simp
                  all_goals (first | exact ⟨Grew.refl _, rfl⟩ | rfl | (intro hh; exact (by cases hh)) | (intro hh; simp [undef] at hh))
                simp only [Act.put, List.setIfInBounds_toArray, List.set_cons_zero, List.set_cons_succ, Nat.reduceAdd]
                apply Facts.Lex.exact [] _ (by kernel_rfl)
                · intro u W hC _
                  unfold Facts.one
                  go_simp
                  all_goals (first | exact ⟨Grew.refl _, rfl⟩ | rfl | (intro hh; exact (by cases hh)) | (intro hh; simp [undef] at hh))
                simp only [Act.put, List.setIfInBounds_toArray, List.set_cons_zero, List.set_cons_succ, Nat.reduceAdd]
                apply Facts.Lex.exact [] _ (by kernel_rfl)
                · intro u W hC _
                  unfold Facts.one
                  go_simp
                  all_goals (first | exact ⟨Grew.refl _, rfl⟩ | rfl | (intro hh; exact (by cases hh)) | (intro hh; simp [undef] at hh))
                simp only [Act.put, List.setIfInBounds_toArray, List.set_cons_zero, List.set_cons_succ, Nat.reduceAdd]
                apply Facts.Lex.exact [] _ (by kernel_rfl)
                · intro u W hC _
                  unfold Facts.one
                  go_simp
                  all_goals (first | exact ⟨Grew.refl _, rfl⟩ | rfl | (intro hh; exact (by cases hh)) | (intro hh; simp [undef] at hh))
                simp only [Act.put, List.setIfInBounds_toArray, List.set_cons_zero, List.set_cons_succ, Nat.reduceAdd]
                apply Facts.Lex.exact [] _ (by kernel_rfl)
                · intro u W hC _
                  unfold Facts.one
                  go_simp
                  all_goals (first | exact ⟨Grew.refl _, rfl⟩ | rfl | (intro hh; exact (by cases hh)) | (intro hh; simp [undef] at hh))
                simp only [Act.put, List.setIfInBounds_toArray, List.set_cons_zero, List.set_cons_succ, Nat.reduceAdd]
                apply Facts.Lex.exact [] _ (by kernel_rfl)
                · intro u W hC _
                  have d1 : W.cell? (ad.add (i * 3)) = some (.slice AB x.b.length cB) := DWrite.cellB hC HC9.out
                  unfold Facts.one
                  go_simp
                  all_goals (first | exact ⟨Grew.refl _, rfl⟩ | rfl | (intro hh; exact (by cases hh)) | (intro hh; simp [undef] at hh))
                simp only [Act.put, List.setIfInBounds_toArray, List.set_cons_zero, List.set_cons_succ, Nat.reduceAdd]
                apply Facts.Lex.exact [] _ (by kernel_rfl)
                · intro u W hC _
                  have d1 := Nums.conv22 (HRB9.out.grew hC)
                  unfold Facts.one
                  go_simp
                  all_goals (first | exact ⟨Grew.refl _, rfl⟩ | rfl | (intro hh; exact (by cases hh)) | (intro hh; simp [undef] at hh))
                simp only [Act.put, List.setIfInBounds_toArray, List.set_cons_zero, List.set_cons_succ, Nat.reduceAdd]
                apply Facts.Lex.exact [] (.bool false) (by kernel_rfl)
                · intro u W hC _
                  have d1 : (x.b == x.b) = true := by simp
                  unfold Facts.one
                  go_simp
                  all_goals (first | exact ⟨Grew.refl _, rfl⟩ | rfl | (intro hh; exact (by cases hh)) | (intro hh; simp [undef] at hh))
                simp only [Act.put, List.setIfInBounds_toArray, List.set_cons_zero, List.set_cons_succ, Nat.reduceAdd]
                apply Facts.Lex.exact [] _ (by kernel_rfl)
                · intro u W hC _
                  unfold Facts.one
                  go_simp
                  all_goals (first | exact ⟨Grew.refl _, rfl⟩ | rfl | (intro hh; exact (by cases hh)) | (intro hh; simp [undef] at hh))
                simp only [Act.put, List.setIfInBounds_toArray, List.set_cons_zero, List.set_cons_succ, Nat.reduceAdd]
                apply Facts.Lex.exact [] undef (by kernel_rfl)
                · intro u W hC _
                  unfold Facts.one
                  go_simp
                  all_goals (first | exact ⟨Grew.refl _, rfl⟩ | rfl | (intro hh; exact (by cases hh)) | (intro hh; simp [undef] at hh))
                simp only [Act.put, List.setIfInBounds_toArray, List.set_cons_zero, List.set_cons_succ, Nat.reduceAdd]
                apply Facts.Lex.exact [] undef (by kernel_rfl)
                · intro u W hC _
                  unfold Facts.one
                  go_simp
                  all_goals (first | exact ⟨Grew.refl _, rfl⟩ | rfl | (intro hh; exact (by cases hh)) | (intro hh; simp [undef] at hh))
                simp only [Act.put, List.setIfInBounds_toArray, List.set_cons_zero, List.set_cons_succ, Nat.reduceAdd]
                apply Facts.Lex.exact [] undef (by kernel_rfl)
                · intro u W hC _
                  unfold Facts.one
                  go_simp
                  all_goals (first | exact ⟨Grew.refl _, rfl⟩ | rfl | (intro hh; exact (by cases hh)) | (intro hh; simp [undef] at hh))
                simp only [Act.put, List.setIfInBounds_toArray, List.set_cons_zero, List.set_cons_succ, Nat.reduceAdd]
                apply Facts.Lex.exact [] undef (by kernel_rfl)
                · intro u W hC _
                  unfold Facts.one
                  go_simp
                  all_goals (first | exact ⟨Grew.refl _, rfl⟩ | rfl | (intro hh; exact (by cases hh)) | (intro hh; simp [undef] at hh))
                simp only [Act.put, List.setIfInBounds_toArray, List.set_cons_zero, List.set_cons_succ, Nat.reduceAdd]
                apply Facts.Lex.exact [] undef (by kernel_rfl)
                · intro u W hC _
                  unfold Facts.one
                  go_simp
                  all_goals (first | exact ⟨Grew.refl _, rfl⟩ | rfl | (intro hh; exact (by cases hh)) | (intro hh; simp [undef] at hh))
                simp only [Act.put, List.setIfInBounds_toArray, List.set_cons_zero, List.set_cons_succ, Nat.reduceAdd]
                apply Facts.Lex.exact [] undef (by kernel_rfl)
                · intro u W hC _
                  unfold Facts.one
                  go_simp
                  all_goals (first | exact ⟨Grew.refl _, rfl⟩ | rfl | (intro hh; exact (by cases hh)) | (intro hh; simp [undef] at hh))
                simp only [Act.put, List.setIfInBounds_toArray, List.set_cons_zero, List.set_cons_succ, Nat.reduceAdd]
                apply Facts.Lex.exact [] undef (by kernel_rfl)
                · intro u W hC _
                  unfold Facts.one
                  go_simp
                  all_goals (first | exact ⟨Grew.refl _, rfl⟩ | rfl | (intro hh; exact (by cases hh)) | (intro hh; simp [undef] at hh))
                simp only [Act.put, List.setIfInBounds_toArray, List.set_cons_zero, List.set_cons_succ, Nat.reduceAdd]
                apply Facts.Lex.exact [] undef (by kernel_rfl)
                · intro u W hC _
                  unfold Facts.one
                  go_simp
                  all_goals (first | exact ⟨Grew.refl _, rfl⟩ | rfl | (intro hh; exact (by cases hh)) | (intro hh; simp [undef] at hh))
                simp only [Act.put, List.setIfInBounds_toArray, List.set_cons_zero, List.set_cons_succ, Nat.reduceAdd]
                apply Facts.Lex.exact [] undef (by kernel_rfl)
                · intro u W hC _
                  unfold Facts.one
                  go_simp
                  all_goals (first | exact ⟨Grew.refl _, rfl⟩ | rfl | (intro hh; exact (by cases hh)) | (intro hh; simp [undef] at hh))
                simp only [Act.put, List.setIfInBounds_toArray, List.set_cons_zero, List.set_cons_succ, Nat.reduceAdd]
                apply Facts.Lex.exact [] _ (by kernel_rfl)
                · intro u W hC _
                  unfold Facts.one
                  go_simp
                  all_goals (first | exact ⟨Grew.refl _, rfl⟩ | rfl | (intro hh; exact (by cases hh)) | (intro hh; simp [undef] at hh))
                simp only [Act.put, List.setIfInBounds_toArray, List.set_cons_zero, List.set_cons_succ, Nat.reduceAdd]
                apply Facts.Lex.exact [] _ (by kernel_rfl)
                · intro u W hC _
                  unfold Facts.one
                  go_simp
                  all_goals (first | exact ⟨Grew.refl _, rfl⟩ | rfl | (intro hh; exact (by cases hh)) | (intro hh; simp [undef] at hh))
                simp only [Act.put, List.setIfInBounds_toArray, List.set_cons_zero, List.set_cons_succ, Nat.reduceAdd]
                refine Facts.Lex.done fun u W hC _ => ?_
                have HDE := Lib.hid ((HD7.out.grew hC).sub (V' := [(.slice A7 x.b.length c7, x.b)]) (by simp))
                clear hC
                go_wp2
                go_roundg q
                case measure => omega
                case rel => exact ⟨i + 1, S2, n + 1, (1 - c), (n + 1), x.b, A7, c7, by omega, by first | rfl | simp, rfl, by omega, HSK2, HLS2, HDE⟩

    · have hin' : ¬ ((i : Int) < (L.length : Int)) := by omega
      clear hin
      go_wp2_with fail
      refine (SB.alive_any _).mono ?_
      rintro e w2 ⟨rfl, hg⟩
      have HG2 := Lib.hid (HDX.out.gr.trans hg)
      clear hg
      go_wp2
      go_ret
      exact ⟨rfl, HG2.out⟩

theorem keeps_any (w : World) (A : Option Addr) (cA : Nat) (a : List UInt8) (R : Option Addr) (cap : Nat) (L : List Sn) (hL : SN w R cap L) (hra : Rd (fun b => b < w.heap.size) w (.slice A a.length cA) a) :
    Calls Try.prog 8 #[.slice A a.length cA, .slice R L.length cap] w fun e w' => e = .returned (.bool true) ∧ Grew w w' := by
  by_cases h : 300 < a.length
  · exact keeps_long w A cA a R cap L hL hra h
  · exact keeps_main w A cA a R cap L hL hra (by omega)
end Go.Proofs.Ytbnicphegbdfnaa.SD
