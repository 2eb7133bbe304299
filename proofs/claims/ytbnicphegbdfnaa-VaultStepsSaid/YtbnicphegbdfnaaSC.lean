/-
  SnapSteps and SnapKeeps: any bytes, any fuse, any turns.
  Conditions: none beyond what is read of the arguments.
-/
import Derived.Test.YtbnicphegbdfnaaSN
import Derived.Test.YtbnicphegbdfnaaAOpens
namespace Go.Proofs.Ytbnicphegbdfnaa.SC
set_option maxRecDepth 100000
open Go Go.RowKit Go.Proofs.Ytbnicphegbdfnaa Go.Proofs.Ytbnicphegbdfnaa.Facts Go.Proofs.Ytbnicphegbdfnaa.Bytes Go.Proofs.Ytbnicphegbdfnaa.DKeep Go.Proofs.Ytbnicphegbdfnaa.DSmall Go.Proofs.Ytbnicphegbdfnaa.Puts Go.Proofs.Ytbnicphegbdfnaa.SPure Go.Proofs.Ytbnicphegbdfnaa.JA Go.Proofs.Ytbnicphegbdfnaa.JD Go.Proofs.Ytbnicphegbdfnaa.JH Go.Proofs.Ytbnicphegbdfnaa.JQ Go.Proofs.Ytbnicphegbdfnaa.AP Go.Proofs.Ytbnicphegbdfnaa.AQ Go.Proofs.Ytbnicphegbdfnaa.AA Go.Proofs.Ytbnicphegbdfnaa.AW Go.Proofs.Ytbnicphegbdfnaa.AV Go.Proofs.Ytbnicphegbdfnaa.AC Go.Proofs.Ytbnicphegbdfnaa.DS Go.Proofs.Ytbnicphegbdfnaa.AU Go.Proofs.Ytbnicphegbdfnaa.SP Go.Proofs.Ytbnicphegbdfnaa.SN Go.Proofs.Ytbnicphegbdfnaa.SB Go.Proofs.Ytbnicphegbdfnaa.AOpens

/-- The newest number, wrapped. -/
structure Nwst (L : List Sec) (f m n : Nat) : Prop where
  is : anw L f m = n
/-- What stands on six sectors behind a first snapshot. -/
def LB6 (b : List UInt8) : List Sec := sets (DNew.blank 6) (ws 0 (fun _ => 1) 3 0 (recB b))
theorem zsix : zw (0 + 3) 3 (calm (DNew.blank 6)) = ((zw (0 + 3) 3 (calm (DNew.blank 6))).1, 0) := by kernel_rfl
theorem fsix : DFlush.flushed (zw (0 + 3) 3 (calm (DNew.blank 6))).1 = (calm (DNew.blank 6), 0) := by kernel_rfl
theorem asix : ard (DNew.blank 6) (0 + 3) 3 = (0, [], 2) := by kernel_rfl
theorem begin6 (b : List UInt8) (hb : b.length ≤ 300) : beginP (calm (DNew.blank 6)) 0 3 b = (calm (LB6 b), 0) ∧ SK (LB6 b) 0 3 1 0 1 b :=
  begin_blank 6 0 3 b (by omega) (by omega) zsix fsix asix (by omega) (by omega)
theorem lb6_length (b : List UInt8) : (LB6 b).length = 6 := by unfold LB6; rw [sets_length, DNew.blank_length]
theorem six_refus (L : List Sec) (fu : Int) (h : L.length = 6) : srefus (calmF L fu) ((0 : Nat) : Int) ((3 : Nat) : Int) = 0 := by
  unfold srefus calmF
  simp only [h]
  rfl
theorem six_arefus (L : List Sec) (fu : Int) (h : L.length = 6) : arefus (calmF L fu) ((0 : Nat) : Int) ((3 : Nat) : Int) = 0 := by
  unfold arefus calmF
  simp only [h]
  rfl
theorem fused_calm (L : List Sec) (n : Int) (fu : Int) (h : max n (-1) = fu) : DTurn.fused (calm L) n = calmF L fu := by
  unfold DTurn.fused
  rw [h]
  rfl
theorem crash_calm (L : List Sec) (fu : Int) (keep : List UInt8) : DFlush.crashed (calmF L fu) keep = calm L := crashed_none L _ _ keep
theorem steps_longA (w : World) (A B : Option Addr) (cA cB : Nat) (a b : List UInt8) (fuse : Nat) (h : 300 < a.length) :
    Calls Try.prog 9 #[.slice A a.length cA, .slice B b.length cB, .int .u8 (fuse : Int)] w fun e w' => e = .returned (.bool true) ∧ Grew w w' := by
  have h' : (300 : Int) < (a.length : Int) := by omega
  clear h
  go_enter Try.func9, Try.ntmps9
  go_wp2_with fail
  refine (ds_new w 6 6 rfl (by omega) (by omega)).mono ?_
  rintro e w1 ⟨g, rfl, hd⟩
  have HD : Hid (DS w g (calm (DNew.blank 6)) [] w1) := Lib.hid hd
  clear hd
  go_wp2_with fail
  refine (SB.alive_any _).mono ?_
  rintro e w2 ⟨rfl, hg⟩
  have HG2 := Lib.hid (HD.out.gr.trans hg)
  clear hg HD
  go_wp2
  go_ret
  exact ⟨rfl, HG2.out⟩
theorem steps_longB (w : World) (A B : Option Addr) (cA cB : Nat) (a b : List UInt8) (fuse : Nat) (h0 : a.length ≤ 300) (h : 300 < b.length) :
    Calls Try.prog 9 #[.slice A a.length cA, .slice B b.length cB, .int .u8 (fuse : Int)] w fun e w' => e = .returned (.bool true) ∧ Grew w w' := by
  have h' : (300 : Int) < (b.length : Int) := by omega
  have h0' : ¬ (300 : Int) < (a.length : Int) := by omega
  clear h h0
  go_enter Try.func9, Try.ntmps9
  go_wp2_with fail
  refine (ds_new w 6 6 rfl (by omega) (by omega)).mono ?_
  rintro e w1 ⟨g, rfl, hd⟩
  have HD : Hid (DS w g (calm (DNew.blank 6)) [] w1) := Lib.hid hd
  clear hd
  go_wp2_with fail
  refine (SB.alive_any _).mono ?_
  rintro e w2 ⟨rfl, hg⟩
  have HG2 := Lib.hid (HD.out.gr.trans hg)
  clear hg HD
  go_wp2
  go_ret
  exact ⟨rfl, HG2.out⟩
set_option maxHeartbeats 4000000 in
theorem steps_ok (w : World) (A B : Option Addr) (cA cB : Nat) (a b : List UInt8) (fuse : Nat) (h4 : 4 ≤ fuse) (hf : fuse ≤ 255) (hla : a.length ≤ 300) (hlb : b.length ≤ 300) (hra : Rd (fun b => b < w.heap.size) w (.slice A a.length cA) a) (hrb : Rd (fun b => b < w.heap.size) w (.slice B b.length cB) b) :
    Calls Try.prog 9 #[.slice A a.length cA, .slice B b.length cB, .int .u8 (fuse : Int)] w fun e w' => e = .returned (.bool true) ∧ Grew w w' := by
  have ha' : ¬ (300 : Int) < (a.length : Int) := by omega
  have hb' : ¬ (300 : Int) < (b.length : Int) := by omega
  have HLA := Lib.hid hla
  have HLB := Lib.hid hlb
  have HRA := Lib.hid hra
  have HRB := Lib.hid hrb
  have hwf : IntKind.i64.wrap (fuse : Int) = (fuse : Int) := IntWalk.i64_in _ (by omega)
  have hk := (begin6 a hla).2
  have hn1 : anw (LB6 a) 0 (2 * 3) = 1 := by
    have h1 := hk.newest.stamp_le
    have h2 := hk.newest_le
    omega
  obtain ⟨n1, hnn1⟩ : ∃ n1 : Nat, n1 = 1 := ⟨_, rfl⟩
  have hk1 : SK (LB6 a) 0 3 n1 0 1 a := by rw [hnn1]; exact hk
  have HK := Lib.hid hk1
  have HN1 : Hid (Nwst (LB6 a) 0 (2 * 3) n1) := Lib.hid ⟨by rw [hnn1]; exact hn1⟩
  have HMY : Hid (may (n1 + 1) = true) := Lib.hid (by rw [hnn1]; decide)
  have HFU : Hid ((fuse : Int) ≤ 9223372036854775807) := Lib.hid (by omega)
  have HMX : Hid (max (fuse : Int) (-1) = (fuse : Int)) := Lib.hid (by omega)
  have hnx := next_any (LB6 a) 0 3 n1 0 1 a b (fuse : Int) hk1 HMY.out (by omega) (by omega) (by omega)
  have hnx2 : ∃ L', nextP (LB6 a) 0 3 0 n1 b (fuse : Int) = (calmF L' ((fuse : Int) - 4), 0) ∧ SK L' 0 3 2 1 2 b ∧ L'.length = 6 := by
    rcases hnx with ⟨_, L', h1, h2, _, h3⟩ | ⟨_, h, _⟩
    · have e : (if (fuse : Int) = -1 then (-1 : Int) else (fuse : Int) - ((3 : Nat) : Int) - 1) = (fuse : Int) - 4 := by
        rw [if_neg (show ¬ (fuse : Int) = -1 by omega)]
        omega
      rw [e] at h1
      exact ⟨L', h1, (by have h2' := h2; rw [hnn1] at h2'; exact h2'), by rw [h3, lb6_length]⟩
    · omega
  obtain ⟨L', hx1, hx2, hx3⟩ := hnx2
  have HX1 := Lib.hid hx1
  have HX2 := Lib.hid hx2
  have HX3 := Lib.hid hx3
  have k1 : (4 : Int) ≤ (fuse : Int) := by omega
  have k2 : decide ((4 : Int) ≤ (fuse : Int)) = true := decide_eq_true k1
  have k3 : decide ((fuse : Int) < 4) = false := decide_eq_false (by omega)
  have k4 : ¬ (fuse : Int) < 4 := by omega
  clear hnx hx1 hx2 hx3 hk hk1 hn1 hnn1 h4 hf hla hlb hra hrb
  go_enter Try.func9, Try.ntmps9
  go_wp2_with fail
  refine (ds_new w 6 6 rfl (by omega) (by omega)).mono ?_
  rintro e w1 ⟨g, rfl, hd⟩
  have HD : Hid (DS w g (calm (DNew.blank 6)) [] w1) := Lib.hid hd
  clear hd
  go_wp2_with fail
  refine (ds_begin ((HD.out.arg HRB.out).arg HRA.out) 0 3 0 3 rfl rfl (six_refus _ (-1) (DNew.blank_length 6)) (.slice A a.length cA) a (List.mem_cons_self ..) (by have := HLA.out; omega) (Nat.zero_le _) (fun _ _ => by rw [fsix]; exact ⟨six_arefus _ (-1) (DNew.blank_length 6), Nat.zero_le _⟩) (calm (LB6 a)) 0 (begin6 a HLA.out).1).mono ?_
  rintro e w2 ⟨rfl, hd⟩
  have HD2 := Lib.hid hd
  clear hd HD
  have HL6 := Lib.hid (lb6_length a)
  generalize LB6 a = S0 at *
  go_wp2_with fail
  refine (ds_fuse w w2 g _ _ HD2.out (fuse : Int) (calmF S0 (fuse : Int)) HFU.out (fused_calm _ _ _ HMX.out)).mono ?_
  rintro e w3 ⟨rfl, hd⟩
  have HD3 := Lib.hid hd
  clear hd HD2 hwf
  go_wp2_with fail
  refine (ds_next HD3.out 0 3 n1 0 1 0 3 rfl rfl a HK.out HN1.out.is (by rw [HL6.out]; omega) HMY.out (.slice B b.length cB) b (by simp) (by have := HLB.out; omega) (calmF L' ((fuse : Int) - 4)) 0 HX1.out).mono ?_
  rintro e w4 ⟨rfl, hd⟩
  have HD4 := Lib.hid hd
  clear hd HD3
  go_wp2_with fail
  refine (ds_off w w4 g _ _ HD4.out false rfl).mono ?_
  rintro e w' ⟨rfl, rfl⟩
  go_wp2_with fail
  refine (ds_crash w w4 g _ _ HD4.out (fun _ => False) (.slice none 0 0) [] (calm L') (Nat.zero_le _) (Rd.nil _ _) (fun b hb => hb.elim) (crash_calm _ _ _)).mono ?_
  rintro e w5 ⟨rfl, hd⟩
  have HD5 := Lib.hid hd
  clear hd HD4
  go_wp2_with fail
  refine (ds_last_some HD5.out 0 3 0 3 rfl rfl (six_refus _ (-1) HX3.out) 1 2 b HX2.out.pick).mono ?_
  rintro e w6 ⟨v6, rfl, hd⟩
  obtain ⟨A6, c6, rfl, _⟩ := id (hd.rd (List.mem_cons_self ..))
  have HD6 := Lib.hid hd
  clear hd HD5
  go_wp2_with fail
  refine (SB.alive_any _).mono ?_
  rintro e w7 ⟨rfl, hg⟩
  have HD7 := Lib.hid (HD6.out.grew hg)
  clear hg HD6
  have ka := Nums.conv22 (HD7.out.rd (v := .slice A6 b.length c6) (l := b) (by simp))
  have kb := Nums.conv22 (HD7.out.rd (v := .slice B b.length cB) (l := b) (by simp))
  have kc : (b == b) = true := by simp
  go_wp2
  go_ret
  exact ⟨rfl, HD7.out.gr⟩
set_option maxHeartbeats 4000000 in
theorem steps_no (w : World) (A B : Option Addr) (cA cB : Nat) (a b : List UInt8) (fuse : Nat) (h4 : fuse < 4) (hf : fuse ≤ 255) (hla : a.length ≤ 300) (hlb : b.length ≤ 300) (hra : Rd (fun b => b < w.heap.size) w (.slice A a.length cA) a) (hrb : Rd (fun b => b < w.heap.size) w (.slice B b.length cB) b) :
    Calls Try.prog 9 #[.slice A a.length cA, .slice B b.length cB, .int .u8 (fuse : Int)] w fun e w' => e = .returned (.bool true) ∧ Grew w w' := by
  have ha' : ¬ (300 : Int) < (a.length : Int) := by omega
  have hb' : ¬ (300 : Int) < (b.length : Int) := by omega
  have HLA := Lib.hid hla
  have HLB := Lib.hid hlb
  have HRA := Lib.hid hra
  have HRB := Lib.hid hrb
  have hwf : IntKind.i64.wrap (fuse : Int) = (fuse : Int) := IntWalk.i64_in _ (by omega)
  have hk := (begin6 a hla).2
  have hn1 : anw (LB6 a) 0 (2 * 3) = 1 := by
    have h1 := hk.newest.stamp_le
    have h2 := hk.newest_le
    omega
  obtain ⟨n1, hnn1⟩ : ∃ n1 : Nat, n1 = 1 := ⟨_, rfl⟩
  have hk1 : SK (LB6 a) 0 3 n1 0 1 a := by rw [hnn1]; exact hk
  have HK := Lib.hid hk1
  have HN1 : Hid (Nwst (LB6 a) 0 (2 * 3) n1) := Lib.hid ⟨by rw [hnn1]; exact hn1⟩
  have HMY : Hid (may (n1 + 1) = true) := Lib.hid (by rw [hnn1]; decide)
  have HFU : Hid ((fuse : Int) ≤ 9223372036854775807) := Lib.hid (by omega)
  have HMX : Hid (max (fuse : Int) (-1) = (fuse : Int)) := Lib.hid (by omega)
  have hnx := next_any (LB6 a) 0 3 n1 0 1 a b (fuse : Int) hk1 HMY.out (by omega) (by omega) (by omega)
  have hnx2 : ∃ d', nextP (LB6 a) 0 3 0 n1 b (fuse : Int) = (d', 15) ∧ d'.off = true ∧ d'.waits.length ≤ 3 ∧ DFlush.crashed d' [] = calm (LB6 a) := by
    rcases hnx with ⟨h, _⟩ | ⟨_, _, d', h1, h2, h3, _, h4, _⟩
    · omega
    · exact ⟨d', h1, h2, h3, h4⟩
  obtain ⟨d', hx1, hx2, hx3, hx4⟩ := hnx2
  have HX1 := Lib.hid hx1
  have HX2 := Lib.hid hx2
  have HX3 := Lib.hid hx3
  have HX4 := Lib.hid hx4
  have k1 : ¬ (4 : Int) ≤ (fuse : Int) := by omega
  have k2 : decide ((4 : Int) ≤ (fuse : Int)) = false := decide_eq_false k1
  have k4 : (fuse : Int) < 4 := by omega
  have k3 : decide ((fuse : Int) < 4) = true := decide_eq_true k4
  clear hnx hx1 hx2 hx3 hx4 hk hk1 hn1 hnn1 h4 hf hla hlb hra hrb
  go_enter Try.func9, Try.ntmps9
  go_wp2_with fail
  refine (ds_new w 6 6 rfl (by omega) (by omega)).mono ?_
  rintro e w1 ⟨g, rfl, hd⟩
  have HD : Hid (DS w g (calm (DNew.blank 6)) [] w1) := Lib.hid hd
  clear hd
  go_wp2_with fail
  refine (ds_begin ((HD.out.arg HRB.out).arg HRA.out) 0 3 0 3 rfl rfl (six_refus _ (-1) (DNew.blank_length 6)) (.slice A a.length cA) a (List.mem_cons_self ..) (by have := HLA.out; omega) (Nat.zero_le _) (fun _ _ => by rw [fsix]; exact ⟨six_arefus _ (-1) (DNew.blank_length 6), Nat.zero_le _⟩) (calm (LB6 a)) 0 (begin6 a HLA.out).1).mono ?_
  rintro e w2 ⟨rfl, hd⟩
  have HD2 := Lib.hid hd
  clear hd HD
  have HL6 := Lib.hid (lb6_length a)
  generalize LB6 a = S0 at *
  go_wp2_with fail
  refine (ds_fuse w w2 g _ _ HD2.out (fuse : Int) (calmF S0 (fuse : Int)) HFU.out (fused_calm _ _ _ HMX.out)).mono ?_
  rintro e w3 ⟨rfl, hd⟩
  have HD3 := Lib.hid hd
  clear hd HD2 hwf
  go_wp2_with fail
  refine (ds_next HD3.out 0 3 n1 0 1 0 3 rfl rfl a HK.out HN1.out.is (by rw [HL6.out]; omega) HMY.out (.slice B b.length cB) b (by simp) (by have := HLB.out; omega) d' 15 HX1.out).mono ?_
  rintro e w4 ⟨rfl, hd⟩
  have HD4 := Lib.hid hd
  clear hd HD3
  go_wp2_with fail
  refine (ds_off w w4 g _ _ HD4.out true HX2.out).mono ?_
  rintro e w' ⟨rfl, rfl⟩
  go_wp2_with fail
  refine (ds_crash w w4 g _ _ HD4.out (fun _ => False) (.slice none 0 0) [] (calm S0) (by have := HX3.out; omega) (Rd.nil _ _) (fun b hb => hb.elim) HX4.out).mono ?_
  rintro e w5 ⟨rfl, hd⟩
  have HD5 := Lib.hid hd
  clear hd HD4
  go_wp2_with fail
  refine (ds_last_some HD5.out 0 3 0 3 rfl rfl (six_refus _ (-1) HL6.out) 0 1 a HK.out.pick).mono ?_
  rintro e w6 ⟨v6, rfl, hd⟩
  obtain ⟨A6, c6, rfl, _⟩ := id (hd.rd (List.mem_cons_self ..))
  have HD6 := Lib.hid hd
  clear hd HD5
  go_wp2_with fail
  refine (SB.alive_any _).mono ?_
  rintro e w7 ⟨rfl, hg⟩
  have HD7 := Lib.hid (HD6.out.grew hg)
  clear hg HD6
  have ka := Nums.conv22 (HD7.out.rd (v := .slice A6 a.length c6) (l := a) (by simp))
  have kb := Nums.conv22 (HD7.out.rd (v := .slice A a.length cA) (l := a) (by simp))
  have kc : (a == a) = true := by simp
  go_wp2
  go_ret
  exact ⟨rfl, HD7.out.gr⟩
theorem steps_any (w : World) (A B : Option Addr) (cA cB : Nat) (a b : List UInt8) (fuse : Nat) (hf : fuse ≤ 255) (hra : Rd (fun b => b < w.heap.size) w (.slice A a.length cA) a) (hrb : Rd (fun b => b < w.heap.size) w (.slice B b.length cB) b) :
    Calls Try.prog 9 #[.slice A a.length cA, .slice B b.length cB, .int .u8 (fuse : Int)] w fun e w' => e = .returned (.bool true) ∧ Grew w w' := by
  by_cases h1 : 300 < a.length
  · exact steps_longA w A B cA cB a b fuse h1
  · by_cases h2 : 300 < b.length
    · exact steps_longB w A B cA cB a b fuse (by omega) h2
    · by_cases h4 : 4 ≤ fuse
      · exact steps_ok w A B cA cB a b fuse h4 hf (by omega) (by omega) hra hrb
      · exact steps_no w A B cA cB a b fuse (by omega) hf (by omega) (by omega) hra hrb
end Go.Proofs.Ytbnicphegbdfnaa.SC
