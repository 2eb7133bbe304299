/-
  VaultSteps: any states, any record.
  Conditions: none beyond what is read of the arguments.
-/
import Derived.Test.YtbnicphegbdfnaaVE
namespace Go.Proofs.Ytbnicphegbdfnaa.VH
set_option maxRecDepth 100000
open Go Go.RowKit Go.Proofs.Ytbnicphegbdfnaa Go.Proofs.Ytbnicphegbdfnaa.Facts Go.Proofs.Ytbnicphegbdfnaa.Bytes Go.Proofs.Ytbnicphegbdfnaa.DKeep Go.Proofs.Ytbnicphegbdfnaa.DSmall Go.Proofs.Ytbnicphegbdfnaa.Puts Go.Proofs.Ytbnicphegbdfnaa.Scan Go.Proofs.Ytbnicphegbdfnaa.SPure Go.Proofs.Ytbnicphegbdfnaa.JA Go.Proofs.Ytbnicphegbdfnaa.JB Go.Proofs.Ytbnicphegbdfnaa.JD Go.Proofs.Ytbnicphegbdfnaa.JE Go.Proofs.Ytbnicphegbdfnaa.JF Go.Proofs.Ytbnicphegbdfnaa.JH Go.Proofs.Ytbnicphegbdfnaa.JQ Go.Proofs.Ytbnicphegbdfnaa.AP Go.Proofs.Ytbnicphegbdfnaa.AQ Go.Proofs.Ytbnicphegbdfnaa.AA Go.Proofs.Ytbnicphegbdfnaa.AW Go.Proofs.Ytbnicphegbdfnaa.AV Go.Proofs.Ytbnicphegbdfnaa.AC Go.Proofs.Ytbnicphegbdfnaa.DS Go.Proofs.Ytbnicphegbdfnaa.AU Go.Proofs.Ytbnicphegbdfnaa.SP Go.Proofs.Ytbnicphegbdfnaa.SN Go.Proofs.Ytbnicphegbdfnaa.SB Go.Proofs.Ytbnicphegbdfnaa.SC Go.Proofs.Ytbnicphegbdfnaa.VA Go.Proofs.Ytbnicphegbdfnaa.VB Go.Proofs.Ytbnicphegbdfnaa.VC Go.Proofs.Ytbnicphegbdfnaa.VD Go.Proofs.Ytbnicphegbdfnaa.VE Go.Proofs.Ytbnicphegbdfnaa.VF Go.Proofs.Ytbnicphegbdfnaa.VG
/-- What a first record of a journal leaves. -/
theorem japp_go (first places e base : Nat) (L : List Sec) (b : List UInt8) (f : Int) (hev : Ev L) (hfit : first + e ≤ L.length) (he : 1 ≤ e) (hp : 0 < places) (hb : b.length + 4 ≤ 108 * e) (hf : -1 ≤ f) :
    ((f = -1 ∨ (e : Int) + 1 ≤ f) ∧ ∃ L', japp ⟨first, places, e, 0, base⟩ (calmF L f) b = (⟨first, places, e, 1, base⟩, calmF L' (if f = -1 then -1 else f - (e : Int) - 1), 0)) ∨
    (0 ≤ f ∧ f < (e : Int) + 1 ∧ ∃ d', japp ⟨first, places, e, 0, base⟩ (calmF L f) b = (⟨first, places, e, 0, base⟩, d', 15) ∧ d'.off = true) := by
  have hw := ws_wq L first (fun i => base + i) e (recB b) hev hfit
  unfold japp
  simp only
  rw [if_neg (by omega), if_neg (by omega), Nat.zero_mul, jw_gw]
  unfold calmF
  rcases gw_any first (fun i => base + i) L e 0 (recB b) L [] f hf (by omega) with ⟨h1, h2⟩ | ⟨h1, h2, k, h3, h4⟩
  · simp only [h2]
    rw [if_pos trivial, List.nil_append]
    by_cases h0 : f = (e : Int)
    · right
      have e0 : (if f = -1 then (-1 : Int) else f - (e : Int)) = 0 := by rw [if_neg (by omega)]; omega
      rw [e0, flushed_dead]
      exact ⟨by omega, by omega, _, rfl, rfl⟩
    · left
      rw [flushed_sets L _ hw _ (by split <;> omega)]
      refine ⟨by omega, sets L (ws first (fun i => base + i) e 0 (recB b)), ?_⟩
      rw [if_pos rfl]
      unfold calmF
      congr 3
      by_cases h5 : f = -1
      · simp [h5]
      · simp only [if_neg h5]
        rw [if_neg (by omega)]
  · right
    simp only [h4]
    rw [if_neg (show ¬ (15 : Int) = 0 by decide), List.nil_append]
    exact ⟨h1, by omega, _, rfl, rfl⟩
def P2 : Pl := ⟨2, 3, 2⟩
theorem pk2 : POK P2 6 := ⟨by decide, by decide, by decide, by decide, by decide, rfl⟩
def d0 : Pd := DNew.fresh 10
def dj : Pd := (zw 4 6 d0).1
theorem Zj : zw (2 * P2.a) 6 d0 = (dj, 0) := by kernel_rfl
theorem z1 : zw (0 + 2) 2 dj = ((zw (0 + 2) 2 dj).1, 0) := by kernel_rfl
theorem f1 : DFlush.flushed (zw (0 + 2) 2 dj).1 = (calm (DNew.blank 10), 0) := by kernel_rfl
theorem a1 : ard (DNew.blank 10) (0 + 2) 2 = (0, [], 2) := by kernel_rfl
theorem SR : srefus dj ((0 : Nat) : Int) (P2.a : Int) = 0 := by kernel_rfl
theorem AR1 : arefus (calm (DNew.blank 10)) ((0 : Nat) : Int) (P2.a : Int) = 0 := by kernel_rfl
def LO (o : List UInt8) : List Sec := sets (DNew.blank 10) (ws 0 (fun _ => 1) 2 0 (recB (keptB 1 o)))
theorem lo_length (o : List UInt8) : (LO o).length = 10 := by unfold LO; rw [sets_length, DNew.blank_length]
theorem BO (o : List UInt8) (ho : o.length ≤ 200) : beginP dj 0 P2.a (keptB 1 o) = (calm (LO o), 0) ∧ SK (LO o) 0 P2.a 1 0 1 (keptB 1 o) :=
  begin_from dj 10 0 2 (keptB 1 o) (by omega) (by omega) z1 f1 a1 (by rw [keptB_length]; omega) (by rw [keptB_length]; omega)
/-- A journal may be. -/
theorem jref (L : List Sec) (f : Int) (hl : L.length = 10) : jrefus (calmF L f) ((2 * P2.a : Nat) : Int) (P2.p : Int) (P2.e : Int) 7 = 0 := by
  unfold jrefus calmF P2
  simp only [hl]
  rfl
theorem jk7 (m : Nat) (h : m ≤ 3) : JK ⟨4, 3, 2, m, 7⟩ := ⟨by show 1 ≤ 3; omega, by show 3 ≤ 16; omega, by show 1 ≤ 2; omega, by show 2 ≤ 16384; omega, by show 4 ≤ 16384; omega, h, by show 7 + 3 * 2 ≤ 4611686018427387904; omega⟩
theorem steps_long0 (w : World) (A B C : Option Addr) (cA cB cC : Nat) (st re o : List UInt8) (h : 200 < st.length) :
    Calls Try.prog 11 #[.slice A st.length cA, .slice B re.length cB, .slice C o.length cC] w fun e w' => e = .returned (.bool true) ∧ Grew w w' := by
  have h' : (200 : Int) < (st.length : Int) := by omega
  clear h
  go_enter Try.func11, Try.ntmps11
  go_upto_region 2 with fail
  have hbp : BX (w.alloc (Obj.cells #[.int .i64 2, .int .i64 3, .int .i64 2] 90)) w.heap.size P2 := heap_alloc_new w _
  have hgw : Grew w (w.alloc (Obj.cells #[.int .i64 2, .int .i64 3, .int .i64 2] 90)) := (Below.refl _ w).alloc (Nat.le_refl _) _
  have HP0 := Lib.hid hbp.cells.1
  have HP1 := Lib.hid hbp.cells.2.1
  have HP2 := Lib.hid hbp.cells.2.2
  have HGW := Lib.hid hgw
  clear hbp hgw
  generalize w.alloc (Obj.cells #[.int .i64 2, .int .i64 3, .int .i64 2] 90) = W0 at *
  obtain ⟨BP, hBP⟩ : ∃ BP, w.heap.size = BP := ⟨_, rfl⟩
  rw [hBP] at HP0 HP1 HP2 ⊢
  clear hBP
  go_wp2_with fail
  refine (VG.alive_any _).mono ?_
  rintro e w2 ⟨rfl, hg⟩
  have HG2 := Lib.hid (HGW.out.trans hg)
  clear hg
  go_wp2
  go_ret
  exact ⟨rfl, HG2.out⟩
theorem steps_long1 (w : World) (A B C : Option Addr) (cA cB cC : Nat) (st re o : List UInt8) (h0 : st.length ≤ 200) (h : 200 < re.length) :
    Calls Try.prog 11 #[.slice A st.length cA, .slice B re.length cB, .slice C o.length cC] w fun e w' => e = .returned (.bool true) ∧ Grew w w' := by
  have h' : (200 : Int) < (re.length : Int) := by omega
  clear h
  have g0 : ¬ (200 : Int) < (st.length : Int) := by omega
  clear h0
  go_enter Try.func11, Try.ntmps11
  go_upto_region 2 with fail
  have hbp : BX (w.alloc (Obj.cells #[.int .i64 2, .int .i64 3, .int .i64 2] 90)) w.heap.size P2 := heap_alloc_new w _
  have hgw : Grew w (w.alloc (Obj.cells #[.int .i64 2, .int .i64 3, .int .i64 2] 90)) := (Below.refl _ w).alloc (Nat.le_refl _) _
  have HP0 := Lib.hid hbp.cells.1
  have HP1 := Lib.hid hbp.cells.2.1
  have HP2 := Lib.hid hbp.cells.2.2
  have HGW := Lib.hid hgw
  clear hbp hgw
  generalize w.alloc (Obj.cells #[.int .i64 2, .int .i64 3, .int .i64 2] 90) = W0 at *
  obtain ⟨BP, hBP⟩ : ∃ BP, w.heap.size = BP := ⟨_, rfl⟩
  rw [hBP] at HP0 HP1 HP2 ⊢
  clear hBP
  go_wp2_with fail
  refine (VG.alive_any _).mono ?_
  rintro e w2 ⟨rfl, hg⟩
  have HG2 := Lib.hid (HGW.out.trans hg)
  clear hg
  go_wp2
  go_ret
  exact ⟨rfl, HG2.out⟩
theorem steps_long2 (w : World) (A B C : Option Addr) (cA cB cC : Nat) (st re o : List UInt8) (h0 : st.length ≤ 200) (h1 : re.length ≤ 200) (h : 200 < o.length) :
    Calls Try.prog 11 #[.slice A st.length cA, .slice B re.length cB, .slice C o.length cC] w fun e w' => e = .returned (.bool true) ∧ Grew w w' := by
  have h' : (200 : Int) < (o.length : Int) := by omega
  clear h
  have g0 : ¬ (200 : Int) < (st.length : Int) := by omega
  clear h0
  have g1 : ¬ (200 : Int) < (re.length : Int) := by omega
  clear h1
  go_enter Try.func11, Try.ntmps11
  go_upto_region 2 with fail
  have hbp : BX (w.alloc (Obj.cells #[.int .i64 2, .int .i64 3, .int .i64 2] 90)) w.heap.size P2 := heap_alloc_new w _
  have hgw : Grew w (w.alloc (Obj.cells #[.int .i64 2, .int .i64 3, .int .i64 2] 90)) := (Below.refl _ w).alloc (Nat.le_refl _) _
  have HP0 := Lib.hid hbp.cells.1
  have HP1 := Lib.hid hbp.cells.2.1
  have HP2 := Lib.hid hbp.cells.2.2
  have HGW := Lib.hid hgw
  clear hbp hgw
  generalize w.alloc (Obj.cells #[.int .i64 2, .int .i64 3, .int .i64 2] 90) = W0 at *
  obtain ⟨BP, hBP⟩ : ∃ BP, w.heap.size = BP := ⟨_, rfl⟩
  rw [hBP] at HP0 HP1 HP2 ⊢
  clear hBP
  go_wp2_with fail
  refine (VG.alive_any _).mono ?_
  rintro e w2 ⟨rfl, hg⟩
  have HG2 := Lib.hid (HGW.out.trans hg)
  clear hg
  go_wp2
  go_ret
  exact ⟨rfl, HG2.out⟩
theorem nobl2 (x y : Value) (a b : List UInt8) (c : Nat) : ¬ BL [(x, Cont.bytes a), (y, Cont.bytes b)] c := fun h => by
  obtain ⟨v, o, hm⟩ := h
  simp at hm
set_option maxHeartbeats 8000000 in
theorem steps_main (w : World) (A B C : Option Addr) (cA cB cC : Nat) (st re o : List UInt8) (hls : st.length ≤ 200) (hlr : re.length ≤ 200) (hlo : o.length ≤ 200) (hrs : Rd (fun b => b < w.heap.size) w (.slice A st.length cA) st) (hrr : Rd (fun b => b < w.heap.size) w (.slice B re.length cB) re) (hro : Rd (fun b => b < w.heap.size) w (.slice C o.length cC) o) :
    Calls Try.prog 11 #[.slice A st.length cA, .slice B re.length cB, .slice C o.length cC] w fun e w' => e = .returned (.bool true) ∧ Grew w w' := by
  have g0 : ¬ (200 : Int) < (st.length : Int) := by omega
  have g1 : ¬ (200 : Int) < (re.length : Int) := by omega
  have g2 : ¬ (200 : Int) < (o.length : Int) := by omega
  have HLST := Lib.hid hls
  have HLR := Lib.hid hlr
  have HLO := Lib.hid hlo
  have HRS := Lib.hid hrs
  have HRR := Lib.hid hrr
  have HRO := Lib.hid hro
  clear hls hlr hlo hrs hrr hro
  go_enter Try.func11, Try.ntmps11
  go_upto_region 2 with fail
  have hbp : BX (w.alloc (Obj.cells #[.int .i64 2, .int .i64 3, .int .i64 2] 90)) w.heap.size P2 := heap_alloc_new w _
  have hgw : Grew w (w.alloc (Obj.cells #[.int .i64 2, .int .i64 3, .int .i64 2] 90)) := (Below.refl _ w).alloc (Nat.le_refl _) _
  have HP0 := Lib.hid hbp.cells.1
  have HP1 := Lib.hid hbp.cells.2.1
  have HP2 := Lib.hid hbp.cells.2.2
  have HGW := Lib.hid hgw
  clear hbp hgw
  generalize w.alloc (Obj.cells #[.int .i64 2, .int .i64 3, .int .i64 2] 90) = W0 at *
  obtain ⟨BP, hBP⟩ : ∃ BP, w.heap.size = BP := ⟨_, rfl⟩
  rw [hBP] at HP0 HP1 HP2 ⊢
  clear hBP
  go_wp2
  go_loopg [8, 9, 10, 11, 12, 13, 14, 15, 16] 7 (fun q s8 s9 s10 s11 s12 s13 s14 s15 s16 wx => ∃ (n : Nat), n + q = 7 ∧ s8 = .int .i64 (n : Int) ∧ Hid (Grew W0 wx))
  case atStart => exact ⟨0, rfl, rfl, Lib.hid (Grew.refl _)⟩
  case round =>
    obtain ⟨n, hnq, rfl, HGX⟩ := hrel
    cases gk with
    | zero =>
      have h7 : ¬ (n : Int) < 7 := by omega
      go_wp2_with fail
      refine (VG.alive_any _).mono ?_
      rintro e w2 ⟨rfl, hg⟩
      have HG2 := Lib.hid (HGW.out.trans (HGX.out.trans hg))
      clear hg
      go_wp2
      go_ret
      exact ⟨rfl, HG2.out⟩
    | succ q =>
      have h7 : (n : Int) < 7 := by omega
      have hwi : IntKind.i64.wrap ((n : Int) + 1) = (n : Int) + 1 := IntWalk.i64_in _ (by omega)
      have hga : Grew w wr := HGW.out.trans HGX.out
      have HRS2 := Lib.hid ((HRS.out.grew hga).mono (fun b hb => Nat.lt_of_lt_of_le hb hga.size))
      have HRR2 := Lib.hid ((HRR.out.grew hga).mono (fun b hb => Nat.lt_of_lt_of_le hb hga.size))
      have HRO2 := Lib.hid ((HRO.out.grew hga).mono (fun b hb => Nat.lt_of_lt_of_le hb hga.size))
      clear hga
      go_wp2_with fail
      refine (ds_new wr 10 10 rfl (by omega) (by omega)).mono ?_
      rintro e w1 ⟨g, rfl, hd⟩
      have HD : Hid (DS wr g d0 [] w1) := Lib.hid hd
      have HG1 := Lib.hid (HGX.out.trans hd.gr)
      clear hd
      have c0 : w1.cell? ⟨BP, 0, none⟩ = some (.int .i64 2) := DWrite.cellB HG1.out HP0.out
      have c1 : w1.cell? ⟨BP, 1, none⟩ = some (.int .i64 3) := DWrite.cellB HG1.out HP1.out
      have c2 : w1.cell? ⟨BP, 2, none⟩ = some (.int .i64 2) := DWrite.cellB HG1.out HP2.out
      go_wp2_with fail
      refine (ds_format (HD.out.arg HRO2.out) P2 6 pk2 (by decide) rfl (by decide) (.slice C o.length cC) o (List.mem_cons_self ..) (by have := HLO.out; show o.length + 12 ≤ 108 * 2; omega) Zj SR (fun _ _ => by show arefus (DFlush.flushed (zw (0 + 2) 2 dj).1).1 _ _ = 0 ∧ (DFlush.flushed (zw (0 + 2) 2 dj).1).1.waits.length ≤ 100000; rw [f1]; exact ⟨AR1, Nat.zero_le _⟩) (calm (LO o)) 0 (BO o HLO.out).1).mono ?_
      rintro e w2 ⟨rfl, hd⟩
      have HD2 := Lib.hid hd
      have HG2 := Lib.hid (HGX.out.trans hd.gr)
      clear hd HD HG1 c0 c1 c2
      obtain ⟨n1, hnn1⟩ : ∃ n1 : Nat, n1 = 1 := ⟨_, rfl⟩
      have hk0 := (BO o HLO.out).2
      have hk1 : SK (LO o) 0 P2.a n1 0 1 (keptB 1 o) := by rw [hnn1]; exact hk0
      have hn1 : anw (LO o) 0 (2 * P2.a) = n1 := by
        have h1 := hk0.newest.stamp_le
        have h2 := hk0.newest_le
        omega
      have HSK := Lib.hid hk1
      have HNN : Hid (SC.Nwst (LO o) 0 (2 * P2.a) n1) := Lib.hid ⟨hn1⟩
      have HMAY : Hid (may (n1 + 1) = true) := Lib.hid (by rw [hnn1]; decide)
      have HLS := Lib.hid (lo_length o)
      obtain ⟨recs, hrecs⟩ : ∃ recs, jscan (LO o) (2 * P2.a) 1 P2.e P2.p 0 [] = recs := ⟨_, rfl⟩
      clear hk0 hk1 hn1 hnn1
      generalize LO o = S at *
      have c0 : w2.cell? ⟨BP, 0, none⟩ = some (.int .i64 2) := DWrite.cellB HG2.out HP0.out
      have c1 : w2.cell? ⟨BP, 1, none⟩ = some (.int .i64 3) := DWrite.cellB HG2.out HP1.out
      have c2 : w2.cell? ⟨BP, 2, none⟩ = some (.int .i64 2) := DWrite.cellB HG2.out HP2.out
      go_wp2_with fail
      refine (ds_open HD2.out P2 6 pk2 (by rw [HLS.out]; decide) n1 0 1 1 o HSK.out (by have := HLO.out; omega) (by decide) (by decide) recs hrecs).mono ?_
      rintro e w3 ⟨gv, vst, vr, bb, rfl, hd, hbs, _, _⟩
      obtain ⟨A4, c4, rfl, _⟩ := id (hd.rd (v := vst) (l := o) (by simp))
      obtain ⟨ws4, ho4, _⟩ := id hbs
      obtain ⟨A5, c5, rfl⟩ := own_sl ho4
      have hd3 := ((hd.arg HRR2.out).arg HRS2.out).sub (V' := [(.nilFunc, Cont.blk gv (VO none g P2 1 false)), (.slice A st.length cA, Cont.bytes st), (.slice B re.length cB, Cont.bytes re)]) (by
        intro p hp
        simp only [List.mem_cons, List.not_mem_nil, or_false] at hp ⊢
        rcases hp with hp | hp | hp
        · exact .inr (.inr (.inl hp))
        · exact .inl hp
        · exact .inr (.inl hp))
      have HD3 := Lib.hid hd3
      clear hd hd3 hbs ho4 HD2 HG2 c0 c1 c2 hrecs
      go_wp2_with fail
      refine (ds_fuse wr w3 g _ _ HD3.out (n : Int) (calmF S (n : Int)) (by omega) (fused_calm _ _ _ (by omega))).mono ?_
      rintro e w4 ⟨rfl, hd⟩
      have HDF := Lib.hid hd
      have HGL : Hid (gv < w4.heap.size) := Lib.hid (Array.getElem?_eq_some_iff.1 (hd.at_ (x := .nilFunc) (b := gv) (List.mem_cons_self ..))).1
      have HNB : Hid (¬ BL [(.slice A st.length cA, Cont.bytes st), (.slice B re.length cB, Cont.bytes re)] gv) := Lib.hid (nobl2 _ _ _ _ _)
      have nobl : ∀ (l : List (Value × Cont)) (k : Nat), l = [(.slice A st.length cA, Cont.bytes st), (.slice B re.length cB, Cont.bytes re)] → ¬ BL l k := fun l k e => by rw [e]; exact nobl2 _ _ _ _ _
      have NOBL := Lib.hid nobl
      clear hd HD3 nobl
      have hnx := next_any S 0 2 n1 0 1 (keptB 1 o) (keptB 7 st) (n : Int) HSK.out HMAY.out (by rw [keptB_length]; have := HLST.out; omega) (by rw [keptB_length]; have := HLST.out; omega) (by omega)
      by_cases hcase : n < 3
      · rcases hnx with ⟨h, _⟩ | ⟨_, _, d', hq, hoff, _, _, _, _⟩
        · omega
        have HQ := Lib.hid hq
        have HOFF := Lib.hid hoff
        clear hq hoff
        have k3 : decide ((3 : Int) ≤ (n : Int)) = false := decide_eq_false (by omega)
        have k6 : decide ((6 : Int) ≤ (n : Int)) = false := decide_eq_false (by omega)
        have kl : decide ((n : Int) < 6) = true := decide_eq_true (by omega)
        have p3 : ¬ (3 : Int) ≤ (n : Int) := by omega
        have p6 : ¬ (6 : Int) ≤ (n : Int) := by omega
        have pl : (n : Int) < 6 := by omega
        clear hcase
        go_wp2_with fail
        refine (ds_checkpoint none P2 6 pk2 1 HDF.out HNB.out n1 0 1 (keptB 1 o) HSK.out HNN.out.is (by rw [HLS.out]; omega) HMAY.out (.slice A st.length cA) st (by simp) (by have := HLST.out; show st.length + 12 ≤ 108 * 2; omega) d' 15 (by decide) (by decide) HQ.out (fun h => absurd h (by decide))).mono ?_
        rintro e w6 ⟨rfl, ⟨_, hd⟩ | ⟨h0, _⟩⟩
        rotate_left
        · exact absurd h0 (by decide)
        have HD6 := Lib.hid hd
        clear hd HDF
        go_wp2_with fail
        refine (ds_commit_no HD6.out _).mono ?_
        rintro e w' ⟨rfl, rfl⟩
        go_wp2_with fail
        refine (ds_off wr w6 g _ _ HD6.out true HOFF.out).mono ?_
        rintro e w' ⟨rfl, rfl⟩
        have HGE := Lib.hid (HGX.out.trans HD6.out.gr)
        go_wp2
        go_roundg q
        case measure => omega
        case rel => exact ⟨n + 1, by omega, by first | rfl | simp, HGE⟩
      · by_cases hcase2 : n < 6
        · rcases hnx with ⟨_, L', hq, hsk', _, hlen⟩ | ⟨_, h, _⟩
          rotate_left
          · omega
          have HLL : Hid (L'.length = 10) := Lib.hid (hlen.trans HLS.out)
          have hev' := hsk'.ev
          have hja := japp_go 4 3 2 7 L' re (if (n : Int) = -1 then -1 else (n : Int) - ((2 : Nat) : Int) - 1) hev' (by have := HLL.out; omega) (by omega) (by omega) (by have := HLR.out; omega) (by split <;> omega)
          rcases hja with ⟨h, _⟩ | ⟨_, _, d2, hja, hoff⟩
          · exfalso; split at h <;> omega
          have HJA := Lib.hid hja
          have HOFF := Lib.hid hoff
          have HQ := Lib.hid hq
          clear hq hsk' hlen hev' hja hoff
          have k3 : decide ((3 : Int) ≤ (n : Int)) = true := decide_eq_true (by omega)
          have k6 : decide ((6 : Int) ≤ (n : Int)) = false := decide_eq_false (by omega)
          have kl : decide ((n : Int) < 6) = true := decide_eq_true (by omega)
          have p3 : (3 : Int) ≤ (n : Int) := by omega
          have p6 : ¬ (6 : Int) ≤ (n : Int) := by omega
          have pl : (n : Int) < 6 := by omega
          clear hcase hcase2
          go_wp2_with fail
          refine (ds_checkpoint none P2 6 pk2 1 HDF.out HNB.out n1 0 1 (keptB 1 o) HSK.out HNN.out.is (by rw [HLS.out]; omega) HMAY.out (.slice A st.length cA) st (by simp) (by have := HLST.out; show st.length + 12 ≤ 108 * 2; omega) _ 0 (by decide) (by decide) HQ.out (fun _ => jref L' _ HLL.out)).mono ?_
          rintro e w6 ⟨rfl, ⟨h0, _⟩ | ⟨_, gj, hd, hgj⟩⟩
          · exact absurd rfl h0
          have hd6 : DS wr g _ ((.nilFunc, Cont.blk gv (VO (some gj) g P2 7 false)) :: (.nilFunc, Cont.blk gj (JO g ⟨4, 3, 2, 0, 7⟩)) :: [(.slice A st.length cA, Cont.bytes st), (.slice B re.length cB, Cont.bytes re)]) w6 := hd
          have HD6 := Lib.hid hd6
          have HNE : Hid (gv ≠ gj) := Lib.hid (fun e => by have := HGL.out; omega)
          clear hd hd6 hgj HDF
          go_wp2_with fail
          refine (ds_commit HD6.out (NOBL.out _ gj rfl) (NOBL.out _ gv rfl) HNE.out (jk7 0 (by omega)) (by decide) (Nat.zero_le _) (.slice B re.length cB) re (HD6.out.rd (by simp)) HJA.out).mono ?_
          rintro e w7 ⟨rfl, hd⟩
          rw [if_pos rfl] at hd
          have HD7 := Lib.hid hd
          clear hd HD6
          go_wp2_with fail
          refine (ds_off wr w7 g _ _ HD7.out true HOFF.out).mono ?_
          rintro e w' ⟨rfl, rfl⟩
          have HGE := Lib.hid (HGX.out.trans HD7.out.gr)
          go_wp2
          go_roundg q
          case measure => omega
          case rel => exact ⟨n + 1, by omega, by first | rfl | simp, HGE⟩
        · rcases hnx with ⟨_, L', hq, hsk', _, hlen⟩ | ⟨_, h, _⟩
          rotate_left
          · omega
          have HLL : Hid (L'.length = 10) := Lib.hid (hlen.trans HLS.out)
          have hev' := hsk'.ev
          have hja := japp_go 4 3 2 7 L' re (if (n : Int) = -1 then -1 else (n : Int) - ((2 : Nat) : Int) - 1) hev' (by have := HLL.out; omega) (by omega) (by omega) (by have := HLR.out; omega) (by split <;> omega)
          rcases hja with ⟨_, L2, hja⟩ | ⟨_, h, _⟩
          rotate_left
          · exfalso; split at h <;> omega
          have HJA := Lib.hid hja
          have HQ := Lib.hid hq
          clear hq hsk' hlen hev' hja
          have k3 : decide ((3 : Int) ≤ (n : Int)) = true := decide_eq_true (by omega)
          have k6 : decide ((6 : Int) ≤ (n : Int)) = true := decide_eq_true (by omega)
          have kl : decide ((n : Int) < 6) = false := decide_eq_false (by omega)
          have p3 : (3 : Int) ≤ (n : Int) := by omega
          have p6 : (6 : Int) ≤ (n : Int) := by omega
          have pl : ¬ (n : Int) < 6 := by omega
          clear hcase hcase2
          go_wp2_with fail
          refine (ds_checkpoint none P2 6 pk2 1 HDF.out HNB.out n1 0 1 (keptB 1 o) HSK.out HNN.out.is (by rw [HLS.out]; omega) HMAY.out (.slice A st.length cA) st (by simp) (by have := HLST.out; show st.length + 12 ≤ 108 * 2; omega) _ 0 (by decide) (by decide) HQ.out (fun _ => jref L' _ HLL.out)).mono ?_
          rintro e w6 ⟨rfl, ⟨h0, _⟩ | ⟨_, gj, hd, hgj⟩⟩
          · exact absurd rfl h0
          have hd6 : DS wr g _ ((.nilFunc, Cont.blk gv (VO (some gj) g P2 7 false)) :: (.nilFunc, Cont.blk gj (JO g ⟨4, 3, 2, 0, 7⟩)) :: [(.slice A st.length cA, Cont.bytes st), (.slice B re.length cB, Cont.bytes re)]) w6 := hd
          have HD6 := Lib.hid hd6
          have HNE : Hid (gv ≠ gj) := Lib.hid (fun e => by have := HGL.out; omega)
          clear hd hd6 hgj HDF
          go_wp2_with fail
          refine (ds_commit HD6.out (NOBL.out _ gj rfl) (NOBL.out _ gv rfl) HNE.out (jk7 0 (by omega)) (by decide) (Nat.zero_le _) (.slice B re.length cB) re (HD6.out.rd (by simp)) HJA.out).mono ?_
          rintro e w7 ⟨rfl, hd⟩
          rw [if_neg (by decide)] at hd
          have HD7 := Lib.hid hd
          clear hd HD6
          go_wp2_with fail
          refine (ds_off wr w7 g _ _ HD7.out false rfl).mono ?_
          rintro e w' ⟨rfl, rfl⟩
          have HGE := Lib.hid (HGX.out.trans HD7.out.gr)
          go_wp2
          go_roundg q
          case measure => omega
          case rel => exact ⟨n + 1, by omega, by first | rfl | simp, HGE⟩
theorem steps_any (w : World) (A B C : Option Addr) (cA cB cC : Nat) (st re o : List UInt8) (hrs : Rd (fun b => b < w.heap.size) w (.slice A st.length cA) st) (hrr : Rd (fun b => b < w.heap.size) w (.slice B re.length cB) re) (hro : Rd (fun b => b < w.heap.size) w (.slice C o.length cC) o) :
    Calls Try.prog 11 #[.slice A st.length cA, .slice B re.length cB, .slice C o.length cC] w fun e w' => e = .returned (.bool true) ∧ Grew w w' := by
  by_cases h1 : 200 < st.length
  · exact steps_long0 w A B C cA cB cC st re o h1
  · by_cases h2 : 200 < re.length
    · exact steps_long1 w A B C cA cB cC st re o (by omega) h2
    · by_cases h3 : 200 < o.length
      · exact steps_long2 w A B C cA cB cC st re o (by omega) (by omega) h3
      · exact steps_main w A B C cA cB cC st re o (by omega) (by omega) (by omega) hrs hrr hro
end Go.Proofs.Ytbnicphegbdfnaa.VH
