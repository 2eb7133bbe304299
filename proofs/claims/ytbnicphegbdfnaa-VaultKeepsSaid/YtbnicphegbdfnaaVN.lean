/-
  VaultKeeps, its main case: any first state of at most 200 bytes, any lives.
  Conditions: none beyond what is read of the arguments.
-/
import Derived.Test.YtbnicphegbdfnaaVL
import Derived.Deep.DeepCutAuto
import Derived.Deep.CutBlock
namespace Go.Proofs.Ytbnicphegbdfnaa.VN
set_option maxRecDepth 100000
open Go Go.RowKit Go.Proofs.Ytbnicphegbdfnaa Go.Proofs.Ytbnicphegbdfnaa.Facts Go.Proofs.Ytbnicphegbdfnaa.Bytes Go.Proofs.Ytbnicphegbdfnaa.DKeep Go.Proofs.Ytbnicphegbdfnaa.DSmall Go.Proofs.Ytbnicphegbdfnaa.Puts Go.Proofs.Ytbnicphegbdfnaa.Scan Go.Proofs.Ytbnicphegbdfnaa.SPure Go.Proofs.Ytbnicphegbdfnaa.JA Go.Proofs.Ytbnicphegbdfnaa.JB Go.Proofs.Ytbnicphegbdfnaa.JD Go.Proofs.Ytbnicphegbdfnaa.JE Go.Proofs.Ytbnicphegbdfnaa.JF Go.Proofs.Ytbnicphegbdfnaa.JH Go.Proofs.Ytbnicphegbdfnaa.JQ Go.Proofs.Ytbnicphegbdfnaa.AP Go.Proofs.Ytbnicphegbdfnaa.AQ Go.Proofs.Ytbnicphegbdfnaa.AA Go.Proofs.Ytbnicphegbdfnaa.AW Go.Proofs.Ytbnicphegbdfnaa.AV Go.Proofs.Ytbnicphegbdfnaa.AC Go.Proofs.Ytbnicphegbdfnaa.DS Go.Proofs.Ytbnicphegbdfnaa.AU Go.Proofs.Ytbnicphegbdfnaa.SP Go.Proofs.Ytbnicphegbdfnaa.SN Go.Proofs.Ytbnicphegbdfnaa.SB Go.Proofs.Ytbnicphegbdfnaa.SC Go.Proofs.Ytbnicphegbdfnaa.VA Go.Proofs.Ytbnicphegbdfnaa.VB Go.Proofs.Ytbnicphegbdfnaa.VC Go.Proofs.Ytbnicphegbdfnaa.VD Go.Proofs.Ytbnicphegbdfnaa.VE Go.Proofs.Ytbnicphegbdfnaa.VF Go.Proofs.Ytbnicphegbdfnaa.VG Go.Proofs.Ytbnicphegbdfnaa.VH Go.Proofs.Ytbnicphegbdfnaa.VI Go.Proofs.Ytbnicphegbdfnaa.VJ Go.Proofs.Ytbnicphegbdfnaa.VK Go.Proofs.Ytbnicphegbdfnaa.JX Go.Proofs.Ytbnicphegbdfnaa.VM Go.Proofs.Ytbnicphegbdfnaa.VO
theorem jo0 (o : List UInt8) (ho : o.length ≤ 200) : VI.JO 4 3 1 (LO o) [] := by
  refine VI.JO.of ⟨(BO o ho).2.ev, by rw [lo_length]; decide, Nat.zero_le _, Nat.le_refl _, by decide, (fun p b h => by cases h), (fun p b h => by cases h), (fun p b h => by cases h), fun a _ ha => ?_⟩
  have h1 : (LO o)[4 + a]? = (DNew.blank 10)[4 + a]? := sets_off _ 0 (fun _ => 1) 2 (recB (keptB 1 o)) (4 + a) (by omega)
  rw [h1]
  have := blank_ne 10 (4 + a)
  omega
theorem lv0 (o : List UInt8) (ho : o.length ≤ 200) : LV (LO o) 1 1 o [] := ⟨⟨0, 1, (BO o ho).2⟩, jo0 o ho, lo_length o, Nat.le_refl _⟩
theorem jref6 (L : List Sec) (f : Int) (hl : L.length = 10) (b : Nat) (h1 : 1 ≤ b) (h2 : b ≤ 1000) : jrefus (calmF L f) ((2 * P2.a : Nat) : Int) (P2.p : Int) (P2.e : Int) b = 0 := by
  unfold jrefus calmF P2
  simp only [hl]
  rw [if_neg (by omega), if_neg (by omega), if_neg (by omega), if_neg (by decide)]
/-- What stands between two lives. -/
structure KEEP (W0 : World) (g i : Nat) (L0 : List Sec) (n base : Nat) (nw : List UInt8) (recs : List (List UInt8)) (v9 : Value) (wx : World) : Prop where
  dr : DR W0 g (calm L0) [(v9, recs)] [] wx
  lv : LV L0 n base nw recs
  hn : n ≤ 1 + i
  hb : base ≤ 1 + 6 * i
  hw : nw.length ≤ 200
/-- What stands while records are committed. -/
def INN (W0 : World) (g gv gj : Nat) (n base : Nat) (nw : List UInt8) (f : Int) (recs : List (List UInt8)) (v9 : Value) (ot : List UInt8) (more : List (List UInt8)) (v16 : Value) (wx : World) : Prop :=
  (f = 0 ∧ ∃ L f', DR W0 g (calmF L f') [(v9, recs)] [(.nilFunc, Cont.blk gv (VO (some gj) g P2 base false)), (.nilFunc, Cont.blk gj (VC.JO g ⟨4, 3, 2, recs.length, base⟩))] wx ∧ RV L n base nw recs ∧ -1 ≤ f') ∨
  (f = 15 ∧ ot.length ≤ 200 ∧ recs.length ≤ 3 ∧ ∃ d, DR W0 g d [(v9, recs), (v16, more)] [] wx ∧ GN d n base nw recs ot more)
/-- What stands when a life ends. -/
def OUTV (W0 : World) (g : Nat) (n B : Nat) (nw : List UInt8) (f : Int) (recs : List (List UInt8)) (v9 : Value) (ot : List UInt8) (more : List (List UInt8)) (v16 : Value) (wx : World) : Prop :=
  (f = 0 ∧ ∃ L f' base, DR W0 g (calmF L f') [(v9, recs)] [] wx ∧ RV L n base nw recs ∧ base ≤ B) ∨
  (f = 15 ∧ ot.length ≤ 200 ∧ recs.length ≤ 3 ∧ ∃ d, DR W0 g d [(v9, recs), (v16, more)] [] wx ∧ GN d n B nw recs ot more)
theorem rr_slice {w : World} {v : Value} {l : List (List UInt8)} (h : JS.RR w v l) : ∃ A c, v = .slice A l.length c := by
  obtain ⟨A, c, e, _⟩ := h
  exact ⟨A, c, e⟩
theorem run_bs0 (u : World) : (Instr.buildSlice 57 0 #[]).run Try.prog u = .ok (.slice (some ⟨u.heap.size, 0, none⟩) 0 0) (u.alloc (.cells #[] 23)) := by kernel_rfl
theorem run_bs1 (A : Option Addr) (n c : Nat) (u : World) : (Instr.buildSlice 57 1 #[(0, .slice A n c)]).run Try.prog u = .ok (.slice (some ⟨u.heap.size, 0, none⟩) 1 1) (u.alloc (.cells #[.slice A n c] 23)) := by kernel_rfl
/-- A row's rows and one row more, in a new row. -/
theorem both_run (n0 : Nat) (y : World) (v9 : Value) (recs : List (List UInt8)) (A6 : Option Addr) (c6 : Nat) (x : List UInt8) (hs : SL n0 n0 y v9 recs) (hn0 : n0 ≤ y.heap.size) (hr : Rd (fun b => b < n0) y (.slice A6 x.length c6) x) (hl : recs.length ≤ 1000) :
    ∃ A c W1 A2 c2 W2, (Builtin.append_ #[57, 57] 57 #[.slice (some ⟨y.heap.size, 0, none⟩) 0 0, v9]).run Try.prog (y.alloc (.cells #[] 23)) = .ok (.slice A recs.length c) W1 ∧
      (Builtin.append_ #[57, 57] 57 #[.slice A recs.length c, .slice (some ⟨W1.heap.size, 0, none⟩) 1 1]).run Try.prog (W1.alloc (.cells #[.slice A6 x.length c6] 23)) = .ok (.slice A2 (recs ++ [x]).length c2) W2 ∧
      SL n0 y.heap.size W2 (.slice A2 (recs ++ [x]).length c2) (recs ++ [x]) ∧ Grew y W2 := by
  have hg0 : Grew y (y.alloc (.cells #[] 23)) := (Below.refl _ y).alloc (Nat.le_refl _) _
  obtain ⟨A, c, W1, h1, h2, h3, _⟩ := sl_app_all n0 (y.alloc (.cells #[] 23)) n0 y.heap.size _ v9 recs (sl_lit n0 y) hn0 (hs.grew hg0) hg0.size (by omega)
  have hg1 : Below y.heap.size y W1 := Below.trans hg0 (below_of_grown _ h3 hg0.size fun k hk => ((sl_lit n0 y).own k hk).1)
  have hr1 : Rd (fun b => b < n0) W1 (.slice A6 x.length c6) x := hr.grew hg1
  obtain ⟨A2, c2, W2, k1, k2, k3, _⟩ := sl_run n0 W1 y.heap.size (.slice A recs.length c) (.slice A6 x.length c6) recs x h2 hn0 hr1 hg1.size (by omega)
  have hg2 : Below y.heap.size W1 (W1.alloc (.cells #[.slice A6 x.length c6] 23)) := ((Below.refl _ W1).alloc (Nat.le_refl _) _).mono hg1.size
  have hsz : y.heap.size ≤ (W1.alloc (.cells #[.slice A6 x.length c6] 23)).heap.size := Nat.le_trans hg1.size hg2.size
  have hg3 : Below y.heap.size (W1.alloc (.cells #[.slice A6 x.length c6] 23)) W2 := below_of_grown _ k3 hsz fun k hk => (h2.own k hk).1
  exact ⟨A, c, W1, A2, c2, W2, h1, k1, k2, (hg1.trans hg2).trans hg3⟩
set_option maxHeartbeats 16000000 in
theorem keeps_main (w : World) (A B : Option Addr) (cA cB : Nat) (st : List UInt8) (L : List Li) (h : st.length ≤ 200) (hr : Rd (fun b => b < w.heap.size) w (.slice A st.length cA) st) (hL : LI w B cB L) :
    Calls Try.prog 10 #[.slice A st.length cA, .slice B L.length cB] w fun e w' => e = .returned (.bool true) ∧ Grew w w' := by
  have h' : ¬ (200 : Int) < (st.length : Int) := by omega
  have HST := Lib.hid h
  have HRS := Lib.hid hr
  have HL := Lib.hid hL
  have hcap := hL.2.1
  have hlc := hL.1
  clear h hr hL
  go_enter Try.func10, Try.ntmps10
  go_upto_region 2 with fail
  have hbp : BX (w.alloc (Obj.cells #[.int .i64 2, .int .i64 3, .int .i64 2] 90)) w.heap.size P2 := heap_alloc_new w _
  have hgw : Grew w (w.alloc (Obj.cells #[.int .i64 2, .int .i64 3, .int .i64 2] 90)) := (Below.refl _ w).alloc (Nat.le_refl _) _
  have HP0 := Lib.hid hbp.cells.1
  have HP1 := Lib.hid hbp.cells.2.1
  have HP2 := Lib.hid hbp.cells.2.2
  have HGW := Lib.hid hgw
  clear hbp hgw
  generalize w.alloc (Obj.cells #[.int .i64 2, .int .i64 3, .int .i64 2] 90) = W0 at *
  obtain ⟨BP, hBP⟩ : ∃ BP, w.heap.size = BP := ⟨_, rfl⟩
  have HLT : Hid (BP ≤ W0.heap.size) := Lib.hid (by have := HGW.out.size; omega)
  have HRS2 : Hid (Rd (fun b => b < W0.heap.size) W0 (.slice A st.length cA) st) := Lib.hid ((HRS.out.grew HGW.out).mono (fun b hb => Nat.lt_of_lt_of_le hb HGW.out.size))
  rw [hBP] at HP0 HP1 HP2 ⊢
  clear hBP
  go_wp2_with fail
  refine (ds_new W0 10 10 rfl (by omega) (by omega)).mono ?_
  rintro e w1 ⟨g, rfl, hd⟩
  have HD : Hid (DS W0 g VH.d0 [] w1) := Lib.hid hd
  have HG1 := Lib.hid hd.gr
  clear hd
  have c0 : w1.cell? ⟨BP, 0, none⟩ = some (.int .i64 2) := DWrite.cellB HG1.out HP0.out
  have c1 : w1.cell? ⟨BP, 1, none⟩ = some (.int .i64 3) := DWrite.cellB HG1.out HP1.out
  have c2 : w1.cell? ⟨BP, 2, none⟩ = some (.int .i64 2) := DWrite.cellB HG1.out HP2.out
  go_wp2_with fail
  refine (ds_format (HD.out.arg HRS2.out) P2 6 pk2 (by decide) rfl (by decide) (.slice A st.length cA) st (List.mem_cons_self ..) (by have := HST.out; show st.length + 12 ≤ 108 * 2; omega) VH.Zj VH.SR (fun _ _ => by show arefus (DFlush.flushed (zw (0 + 2) 2 VH.dj).1).1 _ _ = 0 ∧ (DFlush.flushed (zw (0 + 2) 2 VH.dj).1).1.waits.length ≤ 100000; rw [VH.f1]; exact ⟨VH.AR1, Nat.zero_le _⟩) (calm (LO st)) 0 (BO st HST.out).1).mono ?_
  rintro e w2 ⟨rfl, hd⟩
  have d1 := Nums.conv22 (hd.rd (v := .slice A st.length cA) (l := st) (by simp))
  have HDR : Hid (DR W0 g (calm (LO st)) [(.slice none 0 0, [])] [] w2) := Lib.hid (DR.start (hd.sub (by intro p hp; cases hp))).nil
  have HKP : Hid (KEEP W0 g 0 (LO st) 1 1 st [] (.slice none 0 0) w2) := Lib.hid ⟨HDR.out, lv0 st HST.out, Nat.le_refl _, Nat.le_refl _, HST.out⟩
  clear hd HD HG1 c0 c1 c2 HDR
  generalize LO st = S0 at *
  go_wp2
  clear d1
  go_loopg [8, 9, 10, 11, 12, 13, 14, 15, 16, 17, 18, 19, 20, 21] 12 (fun q s8 s9 s10 s11 s12 s13 s14 s15 s16 s17 s18 s19 s20 s21 wx => ∃ (i : Nat) (L0 : List Sec) (n base : Nat) (nw : List UInt8) (recs : List (List UInt8)) (A9 : Option Addr) (n9 c9 : Nat), i + q = 12 ∧ s8 = .string ⟨nw.toArray⟩ ∧ s9 = .slice A9 n9 c9 ∧ s10 = .int .i64 (i : Int) ∧ Hid (KEEP W0 g i L0 n base nw recs (.slice A9 n9 c9) wx))
  case atStart => exact ⟨0, S0, 1, 1, st, [], none, 0, 0, rfl, rfl, rfl, rfl, HKP⟩
  case round =>
    obtain ⟨i, L0, n, base, nw, recs, A9, n9, c9, hiq, rfl, rfl, rfl, HK⟩ := hrel
    clear HKP
    by_cases hin : i < L.length
    · have hin' : (i : Int) < (L.length : Int) := by omega
      cases gk with
      | zero =>
        have h5 : ¬ ((i : Int) < 12) := by omega
        clear hin
        go_wp2_with fail
        refine (VG.alive_any _).mono ?_
        rintro e w3 ⟨rfl, hg⟩
        have HG3 := Lib.hid (HGW.out.trans (HK.out.dr.gr.trans hg))
        clear hg
        go_wp2
        go_ret
        exact ⟨rfl, HG3.out⟩
      | succ q =>
        have h5 : (i : Int) < 12 := by omega
        obtain ⟨x, hx⟩ : ∃ x, L[i]? = some x := ⟨_, List.getElem?_eq_getElem hin⟩
        cases B with
        | none => have := HL.out.2.2.1 rfl; omega
        | some ad =>
          obtain ⟨v0, AR, cR, v3, hk0, hk1, hk2, hk3, hrs, hlb, hf1, hf2, hrk⟩ := HL.out.2.2.2 ad rfl i x hx
          obtain ⟨AS, cS, rfl, _⟩ := id hrs
          obtain ⟨AK, cK, rfl, _⟩ := id hrk
          have HC0 := Lib.hid (DWrite.cellB HGW.out hk0)
          have HC1 := Lib.hid (DWrite.cellB HGW.out hk1)
          have HC2 := Lib.hid (DWrite.cellB HGW.out hk2)
          have HC3 := Lib.hid (DWrite.cellB HGW.out hk3)
          have HRX := Lib.hid ((hrs.grew HGW.out).mono (fun b hb => Nat.lt_of_lt_of_le hb HGW.out.size))
          have HRK := Lib.hid ((hrk.grew HGW.out).mono (fun b hb => Nat.lt_of_lt_of_le hb HGW.out.size))
          have HLB := Lib.hid hlb
          have HF := Lib.hid (And.intro hf1 hf2)
          have hwi : IntKind.i64.wrap ((i : Int) + 1) = (i : Int) + 1 := IntWalk.i64_in _ (by omega)
          clear hk0 hk1 hk2 hk3 hrs hlb hf1 hf2 hrk hx hin
          have HI : Hid (i < 12) := Lib.hid (by omega)
          have c0 : wr.cell? ⟨BP, 0, none⟩ = some (.int .i64 2) := DWrite.cellB HK.out.dr.gr HP0.out
          have c1 : wr.cell? ⟨BP, 1, none⟩ = some (.int .i64 3) := DWrite.cellB HK.out.dr.gr HP1.out
          have c2 : wr.cell? ⟨BP, 2, none⟩ = some (.int .i64 2) := DWrite.cellB HK.out.dr.gr HP2.out
          go_wp2_with fail
          refine (dr_kept HK.out.dr n base nw recs HK.out.lv HK.out.hw (by have := HK.out.hb; have := HI.out; omega)).mono ?_
          rintro e w3 ⟨gv, vr, rfl, hd, hrr⟩
          obtain ⟨A13, c13, rfl⟩ := rr_slice hrr
          have HD3 := Lib.hid hd
          have HFW : Hid (recs.length ≤ 3) := Lib.hid HK.out.lv.jo.few
          have HRR := Lib.hid hrr
          have HSM := Lib.hid (JS.same_any w3 (.slice A13 recs.length c13) (.slice A9 n9 c9) recs recs hrr (hd.row (p := (.slice A9 n9 c9, recs)) (by simp)).rr (by have := HFW.out; omega) (by have := HFW.out; omega))
          have hde : decide (recs = recs) = true := decide_eq_true rfl
          rw [hde] at HSM
          clear hd hrr hde c0 c1 c2
          go_wp2_with fail
          refine HSM.out.mono ?_
          rintro e w4 ⟨rfl, hg⟩
          have HD4 := Lib.hid (HD3.out.grew hg)
          have HRR4 : Hid (JS.RR w4 (.slice A13 recs.length c13) recs) := Lib.hid (by
            obtain ⟨A5', c5', e5, h5⟩ := HRR.out
            refine ⟨A5', c5', e5, fun i x hx => ?_⟩
            obtain ⟨ad, A2, c2, h1, h2, h3⟩ := h5 i x hx
            exact ⟨ad, A2, c2, h1, DWrite.cellB hg h2, (h3.grew hg).mono fun b hb => Nat.lt_of_lt_of_le hb hg.size⟩)
          clear hg HD3 HSM HRR
          have k0 : w4.cell? (ad.add (i * 4)) = some (.slice AS x.state.length cS) := DWrite.cellB HD4.out.gr HC0.out
          by_cases hxl : 200 < x.state.length
          · as_aux_lemma =>
              have hxl' : (200 : Int) < (x.state.length : Int) := by omega
              clear hxl
              go_wp2_with fail
              refine (VG.alive_any _).mono ?_
              rintro e w5 ⟨rfl, hg⟩
              have HD5 := Lib.hid (HD4.out.grew hg)
              have HSM := Lib.hid (JS.same_any w5 (.slice A13 recs.length c13) (.slice A9 n9 c9) recs recs (by
                obtain ⟨A5', c5', e5, h5⟩ := HRR4.out
                refine ⟨A5', c5', e5, fun i x hx => ?_⟩
                obtain ⟨ad, A2, c2, h1, h2, h3⟩ := h5 i x hx
                exact ⟨ad, A2, c2, h1, DWrite.cellB hg h2, (h3.grew hg).mono fun b hb => Nat.lt_of_lt_of_le hb hg.size⟩) (HD5.out.row (p := (.slice A9 n9 c9, recs)) (by simp)).rr (by have := HFW.out; omega) (by have := HFW.out; omega))
              have hde : decide (recs = recs) = true := decide_eq_true rfl
              rw [hde] at HSM
              clear hg hde k0
              go_wp2_with fail
              refine HSM.out.mono ?_
              rintro e w6 ⟨rfl, hg⟩
              have HG6 := Lib.hid (HGW.out.trans (HD5.out.gr.trans hg))
              clear hg
              go_wp2
              go_ret
              exact ⟨rfl, HG6.out⟩
          · have hxl' : ¬ (200 : Int) < (x.state.length : Int) := by omega
            have HXL : Hid (x.state.length ≤ 200) := Lib.hid (by omega)
            clear hxl HRR4
            have k2 : w4.cell? ⟨(ad.add (i * 4)).block, (ad.add (i * 4)).off + 2, none⟩ = some (.int .i64 x.fuse) := DWrite.cellB HD4.out.gr HC2.out
            go_wp2_with fail
            refine (dr_fuse HD4.out x.fuse (calmF L0 (max x.fuse (-1))) HF.out.2 (fused_calm _ _ _ rfl)).mono ?_
            rintro e w5 ⟨rfl, hd⟩
            obtain ⟨fu, hfu⟩ : ∃ fu, max x.fuse (-1) = fu := ⟨_, rfl⟩
            have HFU : Hid (-1 ≤ fu) := Lib.hid (by rw [← hfu]; omega)
            rw [hfu] at hd
            have HD5 := Lib.hid (hd.arg HRX.out)
            clear hd HD4 k0 k2 hfu
            have k0 : w5.cell? (ad.add (i * 4)) = some (.slice AS x.state.length cS) := DWrite.cellB HD5.out.gr HC0.out
            obtain ⟨m, c, s, hsk, hnw, hmn, hck⟩ := VJ.check HK.out.lv (by have := HK.out.hb; have := HI.out; omega) (by have := HK.out.hn; have := HI.out; omega) x.state HXL.out fu HFU.out
            have HSK := Lib.hid hsk
            have HNW : Hid (SC.Nwst L0 0 (2 * P2.a) m) := Lib.hid ⟨hnw⟩
            have HMN := Lib.hid hmn
            have HMAY : Hid (may (m + 1) = true) := Lib.hid ((may_iff _).2 (by have := HK.out.hn; have := HI.out; omega))
            have HNBL : Hid (¬ BL [(.slice AS x.state.length cS, Cont.bytes x.state)] gv) := Lib.hid (fun hbl => by
              obtain ⟨vx, ox, hm⟩ := hbl
              simp at hm)
            have HDU := Lib.hid (HD5.out.drop (U' := [(.nilFunc, Cont.blk gv (VO none g P2 base false)), (.slice AS x.state.length cS, Cont.bytes x.state)]) (by
              intro p hp
              simp only [List.mem_cons, List.not_mem_nil, or_false] at hp ⊢
              exact hp.symm))
            clear hsk hnw hmn HD5
            rcases hck with ⟨L1, f1, hnx, hf1, hrv⟩ | ⟨d1, hnx, hgn⟩
            · have HNX := Lib.hid hnx
              have HRV := Lib.hid hrv
              have HF1 := Lib.hid hf1
              clear hnx hf1 hrv
              go_wp2_with fail
              refine (dr_checkpoint none base HDU.out HNBL.out m c s (keptB base nw) HSK.out HNW.out.is HK.out.lv.len HMAY.out (.slice AS x.state.length cS) x.state (List.mem_cons_self ..) HXL.out (calmF L1 f1) 0 HK.out.lv.low (by have := HK.out.hb; have := HI.out; omega) HNX.out (fun _ => jref6 L1 f1 HRV.out.len (base + 6) (by omega) (by have := HK.out.hb; have := HI.out; omega))).mono ?_
              rintro e w6 ⟨rfl, ⟨h0, _⟩ | ⟨_, gj, hd, hne, hnj⟩⟩
              · exact absurd rfl h0
              have d2 := Nums.conv22 (w := w6) (v := .slice AS x.state.length cS) (l := x.state) (HRX.out.grew hd.gr)
              have HG6 := Lib.hid hd.gr
              have HNE := Lib.hid hne
              have HINN : Hid (INN W0 g gv gj (n + 1) (base + 6) x.state 0 [] (.slice none 0 0) x.state [] (.slice none 0 0) w6) := Lib.hid (.inl ⟨rfl, L1, f1, ((hd.drop (U' := [(.nilFunc, Cont.blk gv (VO (some gj) g P2 (base + 6) false)), (.nilFunc, Cont.blk gj (VC.JO g ⟨4, 3, 2, 0, base + 6⟩))]) (by intro p hp; simp only [List.mem_cons, List.not_mem_nil, or_false] at hp ⊢; rcases hp with hp | hp; exact .inl hp; exact .inr (.inl hp))).rows (R' := []) (by intro p hp; cases hp)).nil, HRV.out, HF1.out⟩)
              clear hd hne hnj HDU k0 HRV HSK HNW HMN HMAY HNBL HNX
              have k0 : w6.cell? (ad.add (i * 4)) = some (.slice AS x.state.length cS) := DWrite.cellB HG6.out HC0.out
              go_upto_block 2 with fail
              clear d2 k0
              go_cut [9, 15, 16, 17] (fun s9 s15 s16 s17 wx => ∃ (f : Int) (recs' : List (List UInt8)) (ot : List UInt8) (more : List (List UInt8)) (A9' : Option Addr) (n9' c9' : Nat) (A16 : Option Addr) (n16 c16 : Nat), s9 = .slice A9' n9' c9' ∧ s15 = .string ⟨ot.toArray⟩ ∧ s16 = .slice A16 n16 c16 ∧ s17 = .int .i64 f ∧ Hid (OUTV W0 g (n + 1) (base + 6) x.state f recs' (.slice A9' n9' c9') ot more (.slice A16 n16 c16) wx))
              case first =>
                go_wp2_with fail
                go_loopg [9, 15, 16, 17, 18, 19, 20, 21] 6 (fun q s9 s15 s16 s17 s18 s19 s20 s21 wx => ∃ (k : Nat) (f : Int) (recs' : List (List UInt8)) (ot : List UInt8) (more : List (List UInt8)) (A9' : Option Addr) (n9' c9' : Nat) (A16 : Option Addr) (n16 c16 : Nat), k + q = 6 ∧ s9 = .slice A9' n9' c9' ∧ s15 = .string ⟨ot.toArray⟩ ∧ s16 = .slice A16 n16 c16 ∧ s17 = .int .i64 f ∧ s18 = .int .i64 (k : Int) ∧ Hid (INN W0 g gv gj (n + 1) (base + 6) x.state f recs' (.slice A9' n9' c9') ot more (.slice A16 n16 c16) wx))
                case atStart => exact ⟨0, 0, [], x.state, [], none, 0, 0, none, 0, 0, rfl, rfl, rfl, rfl, rfl, rfl, HINN⟩
                case round =>
                  obtain ⟨k, f, recs', ot, more, A9', n9', c9', A16, n16, c16, hkq, rfl, rfl, rfl, rfl, rfl, HIN2⟩ := hrel
                  clear HINN
                  rcases HIN2.out with ⟨rfl, L2, f2, hd, hrv, hf2⟩ | ⟨rfl, hol, hrl, d2, hd, hgn⟩
                  · as_aux_lemma =>
                      have HDI := Lib.hid hd
                      have HRV := Lib.hid hrv
                      have HF2 := Lib.hid hf2
                      clear hd hrv hf2
                      have k1 : wr.cell? ⟨(ad.add (i * 4)).block, (ad.add (i * 4)).off + 1, none⟩ = some (.slice AR x.recs.length cR) := DWrite.cellB HDI.out.gr HC1.out
                      by_cases hkn : k < x.recs.length
                      · have hkn' : (k : Int) < (x.recs.length : Int) := by omega
                        by_cases hk5 : k < 5
                        · have hk5' : (k : Int) < 5 := by omega
                          clear hkn hk5
                          cases AR with
                          | none => have := HLB.out.2.2.1 rfl; have := HLB.out.1; omega
                          | some ar =>
                            obtain ⟨y, hy⟩ : ∃ y, x.recs[k]? = some y := ⟨_, List.getElem?_eq_getElem (by omega)⟩
                            obtain ⟨vB, hb0, hrb⟩ := HLB.out.2.2.2 ar rfl k y hy
                            obtain ⟨A6, c6, rfl, _⟩ := id hrb
                            have HCB := Lib.hid (DWrite.cellB HGW.out hb0)
                            have HRB := Lib.hid ((hrb.grew HGW.out).mono (fun b hb => Nat.lt_of_lt_of_le hb HGW.out.size))
                            have kb : wr.cell? (ar.add k) = some (.slice A6 y.length c6) := DWrite.cellB HDI.out.gr HCB.out
                            have hwk : IntKind.i64.wrap ((k : Int) + 1) = (k : Int) + 1 := IntWalk.i64_in _ (by omega)
                            clear hb0 hrb hy
                            cases gk with
                            | zero => omega
                            | succ q =>
                              by_cases hyl : 200 < y.length
                              · as_aux_lemma =>
                                  have hyl' : (200 : Int) < (y.length : Int) := by omega
                                  clear hyl
                                  go_wp2
                                  go_roundg q
                                  case measure => omega
                                  case rel => exact ⟨k + 1, 0, recs', ot, more, A9', n9', c9', A16, n16, c16, by omega, rfl, rfl, rfl, rfl, by first | rfl | simp, HIN2⟩
                              · have hyl' : ¬ (200 : Int) < (y.length : Int) := by omega
                                have HYL : Hid (y.length ≤ 212) := Lib.hid (by omega)
                                have HFR : Hid (recs'.length ≤ 3) := Lib.hid HRV.out.jg.few
                                have HNB0 : Hid (∀ b, ¬ BL ([] : List (Value × Cont)) b) := Lib.hid (fun b hb => by obtain ⟨vx, ox, hm⟩ := hb; cases hm)
                                have HJK : Hid (JK ⟨4, 3, 2, recs'.length, base + 6⟩) := Lib.hid ⟨by show 1 ≤ 3; omega, by show 3 ≤ 16; omega, by show 1 ≤ 2; omega, by show 2 ≤ 16384; omega, by show 4 ≤ 16384; omega, HRV.out.jg.few, by have := HK.out.hb; have := HI.out; show base + 6 + 3 * 2 ≤ 4611686018427387904; omega⟩
                                have HRB2 : Hid (Rd (fun _ => True) wr (.slice A6 y.length c6) y) := Lib.hid ((HRB.out.grew HDI.out.gr).mono fun _ _ => trivial)
                                clear hyl HIN2
                                by_cases hful : recs'.length = 3
                                · as_aux_lemma =>
                                    have HJA : Hid (japp ⟨4, 3, 2, recs'.length, base + 6⟩ (calmF L2 f2) y = (⟨4, 3, 2, recs'.length, base + 6⟩, calmF L2 f2, 8)) := Lib.hid (by rw [hful]; exact VI.japp_full _ y HYL.out)
                                    clear hful
                                    go_wp2_with fail
                                    refine (dr_commit HDI.out (HNB0.out _) (HNB0.out _) HNE.out HJK.out (by show 1 ≤ base + 6; omega) (Nat.zero_le _) (.slice A6 y.length c6) y HRB2.out HJA.out).mono ?_
                                    rintro e w5 ⟨rfl, ⟨h0, _⟩ | ⟨_, hd⟩⟩
                                    · exact absurd h0 (by decide)
                                    have HIN3 : Hid (INN W0 g gv gj (n + 1) (base + 6) x.state 0 recs' (.slice A9' n9' c9') ot more (.slice A16 n16 c16) w5) := Lib.hid (.inl ⟨rfl, L2, f2, hd, HRV.out, HF2.out⟩)
                                    clear hd kb k1
                                    go_wp2
                                    go_roundg q
                                    case measure => omega
                                    case rel => exact ⟨k + 1, 0, recs', ot, more, A9', n9', c9', A16, n16, c16, by omega, rfl, rfl, rfl, rfl, by first | rfl | simp, HIN3⟩
                                · rcases VJ.record HRV.out y HYL.out (by have := HFR.out; omega) f2 HF2.out with ⟨L3, f3, hja, hf3, hrv3⟩ | ⟨d3, hja, hgn3⟩
                                  · as_aux_lemma =>
                                      have HJA := Lib.hid hja
                                      have HRV3 := Lib.hid hrv3
                                      have HF3 := Lib.hid hf3
                                      clear hja hrv3 hf3 hful
                                      go_wp2_with fail
                                      refine (dr_commit HDI.out (HNB0.out _) (HNB0.out _) HNE.out HJK.out (by show 1 ≤ base + 6; omega) (Nat.zero_le _) (.slice A6 y.length c6) y HRB2.out HJA.out).mono ?_
                                      rintro e w5 ⟨rfl, ⟨h0, _⟩ | ⟨_, hd⟩⟩
                                      · exact absurd h0 (by decide)
                                      have HD5 := Lib.hid hd
                                      have hg5 := hd.gr
                                      obtain ⟨A7, c7, W1, A8, c8, W2, r1, r2, hs2, hg2⟩ := both_run W0.heap.size w5 (.slice A9' n9' c9') recs' A6 c6 y (hd.row (p := (.slice A9' n9' c9', recs')) (by simp)) hg5.size (HRB.out.grew hg5) (by have := HFR.out; omega)
                                      have HR1 := Lib.hid r1
                                      have HR2 := Lib.hid r2
                                      have HIN3 : Hid (INN W0 g gv gj (n + 1) (base + 6) x.state 0 (recs' ++ [y]) (.slice A8 (recs' ++ [y]).length c8) x.state (recs' ++ [y]) (.slice A8 (recs' ++ [y]).length c8) W2) := Lib.hid (.inl ⟨rfl, L3, f3, (hd.add hg2 hs2).rows (by intro p hp; simp only [List.mem_singleton] at hp; rw [hp]; exact List.mem_cons_self ..), HRV3.out, HF3.out⟩)
                                      clear hd hg5 hs2 hg2 r1 r2 kb k1 HD5 HRV3 HF3
                                      obtain ⟨n8, hn8⟩ : ∃ n8, (recs' ++ [y]).length = n8 := ⟨_, rfl⟩
                                      rw [hn8] at HR2 HIN3
                                      clear hn8
                                      go_wp2_with (first | (at_builtin; refine SSeal.wpList_app' (by rfl) (.tmp 169) (.tmp 170) 57 57 (by with_reducible rfl) _ _ (by rfl) (by rfl) _ W1 (by exact HR1.out) ?_) | (at_builtin; refine SSeal.wpList_app' (by rfl) (.tmp 171) (.tmp 173) 57 57 (by with_reducible rfl) _ _ (by rfl) (by rfl) _ W2 (by exact HR2.out) ?_))
                                      go_roundg q
                                      case measure => omega
                                      case rel => exact ⟨k + 1, 0, recs' ++ [y], x.state, recs' ++ [y], A8, n8, c8, A8, n8, c8, by omega, rfl, rfl, rfl, rfl, by first | rfl | simp, HIN3⟩
                                  · as_aux_lemma =>
                                      have HJA := Lib.hid hja
                                      have HGN3 := Lib.hid hgn3
                                      clear hja hgn3 hful
                                      go_wp2_with fail
                                      refine (dr_commit HDI.out (HNB0.out _) (HNB0.out _) HNE.out HJK.out (by show 1 ≤ base + 6; omega) (Nat.zero_le _) (.slice A6 y.length c6) y HRB2.out HJA.out).mono ?_
                                      rintro e w5 ⟨rfl, ⟨_, hd⟩ | ⟨h0, _⟩⟩
                                      rotate_left
                                      · exact absurd rfl h0
                                      have HD5 := Lib.hid hd
                                      have hg5 := hd.gr
                                      obtain ⟨A7, c7, W1, A8, c8, W2, r1, r2, hs2, hg2⟩ := both_run W0.heap.size w5 (.slice A9' n9' c9') recs' A6 c6 y (hd.row (p := (.slice A9' n9' c9', recs')) (by simp)) hg5.size (HRB.out.grew hg5) (by have := HFR.out; omega)
                                      have HR1 := Lib.hid r1
                                      have HR2 := Lib.hid r2
                                      have HIN3 : Hid (INN W0 g gv gj (n + 1) (base + 6) x.state 15 recs' (.slice A9' n9' c9') x.state (recs' ++ [y]) (.slice A8 (recs' ++ [y]).length c8) W2) := Lib.hid (.inr ⟨rfl, HXL.out, HFR.out, d3, ((hd.add hg2 hs2).drop (by intro p hp; cases hp)).rows (by intro p hp; simp only [List.mem_cons, List.not_mem_nil, or_false] at hp ⊢; exact hp.symm), HGN3.out⟩)
                                      clear hd hg5 hs2 hg2 r1 r2 kb k1 HD5 HGN3
                                      obtain ⟨n8, hn8⟩ : ∃ n8, (recs' ++ [y]).length = n8 := ⟨_, rfl⟩
                                      rw [hn8] at HR2 HIN3
                                      clear hn8
                                      go_wp2_with (first | (at_builtin; refine SSeal.wpList_app' (by rfl) (.tmp 169) (.tmp 170) 57 57 (by with_reducible rfl) _ _ (by rfl) (by rfl) _ W1 (by exact HR1.out) ?_) | (at_builtin; refine SSeal.wpList_app' (by rfl) (.tmp 171) (.tmp 173) 57 57 (by with_reducible rfl) _ _ (by rfl) (by rfl) _ W2 (by exact HR2.out) ?_))
                                      go_roundg q
                                      case measure => omega
                                      case rel => exact ⟨k + 1, 15, recs', x.state, recs' ++ [y], A9', n9', c9', A8, n8, c8, by omega, rfl, rfl, rfl, rfl, by first | rfl | simp, HIN3⟩
                        · have hk5' : ¬ (k : Int) < 5 := by omega
                          clear hkn hk5
                          have HOUT : Hid (OUTV W0 g (n + 1) (base + 6) x.state 0 recs' (.slice A9' n9' c9') ot more (.slice A16 n16 c16) wr) := Lib.hid (.inl ⟨rfl, L2, f2, base + 6, HDI.out.drop (by intro p hp; cases hp), HRV.out, Nat.le_refl _⟩)
                          clear HDI HRV HF2 HIN2
                          go_wp2_with fail
                          go_meet
                          case rel => exact ⟨0, recs', ot, more, A9', n9', c9', A16, n16, c16, rfl, rfl, rfl, rfl, HOUT⟩
                      · have hkn' : ¬ (k : Int) < (x.recs.length : Int) := by omega
                        clear hkn
                        have HOUT : Hid (OUTV W0 g (n + 1) (base + 6) x.state 0 recs' (.slice A9' n9' c9') ot more (.slice A16 n16 c16) wr) := Lib.hid (.inl ⟨rfl, L2, f2, base + 6, HDI.out.drop (by intro p hp; cases hp), HRV.out, Nat.le_refl _⟩)
                        clear HDI HRV HF2 HIN2
                        go_wp2_with fail
                        go_meet
                        case rel => exact ⟨0, recs', ot, more, A9', n9', c9', A16, n16, c16, rfl, rfl, rfl, rfl, HOUT⟩
                  · as_aux_lemma =>
                      have HDI := Lib.hid hd
                      have HGN := Lib.hid hgn
                      have HOL := Lib.hid hol
                      have HFR := Lib.hid hrl
                      clear hd hgn hol hrl
                      have k1 : wr.cell? ⟨(ad.add (i * 4)).block, (ad.add (i * 4)).off + 1, none⟩ = some (.slice AR x.recs.length cR) := DWrite.cellB HDI.out.gr HC1.out
                      by_cases hkn : k < x.recs.length
                      · have hkn' : (k : Int) < (x.recs.length : Int) := by omega
                        by_cases hk5 : k < 5
                        · have hk5' : (k : Int) < 5 := by omega
                          clear hkn hk5
                          have HOUT : Hid (OUTV W0 g (n + 1) (base + 6) x.state 15 recs' (.slice A9' n9' c9') ot more (.slice A16 n16 c16) wr) := Lib.hid (.inr ⟨rfl, HOL.out, HFR.out, d2, HDI.out, HGN.out⟩)
                          clear HDI HGN HIN2
                          go_wp2_with fail
                          go_meet
                          case rel => exact ⟨15, recs', ot, more, A9', n9', c9', A16, n16, c16, rfl, rfl, rfl, rfl, HOUT⟩
                        · have hk5' : ¬ (k : Int) < 5 := by omega
                          clear hkn hk5
                          have HOUT : Hid (OUTV W0 g (n + 1) (base + 6) x.state 15 recs' (.slice A9' n9' c9') ot more (.slice A16 n16 c16) wr) := Lib.hid (.inr ⟨rfl, HOL.out, HFR.out, d2, HDI.out, HGN.out⟩)
                          clear HDI HGN HIN2
                          go_wp2_with fail
                          go_meet
                          case rel => exact ⟨15, recs', ot, more, A9', n9', c9', A16, n16, c16, rfl, rfl, rfl, rfl, HOUT⟩
                      · have hkn' : ¬ (k : Int) < (x.recs.length : Int) := by omega
                        clear hkn
                        have HOUT : Hid (OUTV W0 g (n + 1) (base + 6) x.state 15 recs' (.slice A9' n9' c9') ot more (.slice A16 n16 c16) wr) := Lib.hid (.inr ⟨rfl, HOL.out, HFR.out, d2, HDI.out, HGN.out⟩)
                        clear HDI HGN HIN2
                        go_wp2_with fail
                        go_meet
                        case rel => exact ⟨15, recs', ot, more, A9', n9', c9', A16, n16, c16, rfl, rfl, rfl, rfl, HOUT⟩
              case rest =>
                obtain ⟨f, recs', ot, more, A9', n9', c9', A16, n16, c16, rfl, rfl, rfl, rfl, HOUT⟩ := hcut
                clear HINN
                rcases HOUT.out with ⟨rfl, L2, f2, b2, hd, hrv, hb2⟩ | ⟨rfl, hol, hrl, d2, hd, hgn⟩
                · as_aux_lemma =>
                    have HDO := Lib.hid hd
                    have HRV := Lib.hid hrv
                    have HB2 := Lib.hid hb2
                    clear HOUT hd hrv hb2
                    have k3 : wc.cell? ⟨(ad.add (i * 4)).block, (ad.add (i * 4)).off + 3, none⟩ = some (.slice AK x.keep.length cK) := DWrite.cellB HDO.out.gr HC3.out
                    go_wp2_with fail
                    refine (dr_crash HDO.out _ (.slice AK x.keep.length cK) x.keep (calm L2) (Nat.zero_le _) HRK.out (fun b hb => hb) (HRV.out.calm f2 x.keep).1).mono ?_
                    rintro e w7 ⟨rfl, hd⟩
                    have HD7 := Lib.hid hd
                    clear hd k3 HDO
                    have c0 : w7.cell? ⟨BP, 0, none⟩ = some (.int .i64 2) := DWrite.cellB HD7.out.gr HP0.out
                    have c1 : w7.cell? ⟨BP, 1, none⟩ = some (.int .i64 3) := DWrite.cellB HD7.out.gr HP1.out
                    have c2 : w7.cell? ⟨BP, 2, none⟩ = some (.int .i64 2) := DWrite.cellB HD7.out.gr HP2.out
                    have HLR : Hid (recs'.length ≤ 3) := Lib.hid HRV.out.jg.few
                    go_wp2_with fail
                    refine (dr_kept HD7.out (n + 1) b2 x.state recs' HRV.out.lv HXL.out (by have := HK.out.hb; have := HI.out; have := HB2.out; omega)).mono ?_
                    rintro e w8 ⟨gv2, vr2, rfl, hd, hrr⟩
                    obtain ⟨A13b, c13b, rfl⟩ := rr_slice hrr
                    have HD8 := Lib.hid (hd.drop (U' := []) (by intro p hp; cases hp))
                    have HRR := Lib.hid hrr
                    clear hd hrr c0 c1 c2 HD7
                    have HDE : Hid (decide (recs' = recs') = true) := Lib.hid (decide_eq_true rfl)
                    have HSM := Lib.hid (JS.same_any w8 (.slice A13b recs'.length c13b) (.slice A9' n9' c9') recs' recs' HRR.out (HD8.out.row (p := (.slice A9' n9' c9', recs')) (by simp)).rr (by have := HLR.out; omega) (by have := HLR.out; omega))
                    have hde : decide (recs' = recs') = true := HDE.out
                    rw [hde] at HSM
                    clear hde
                    go_wp2_with fail
                    refine HSM.out.mono ?_
                    rintro e w9 ⟨rfl, hg⟩
                    have HD9 := Lib.hid (HD8.out.grew hg)
                    clear hg HSM HRR HD8
                    have HKN : Hid (KEEP W0 g (i + 1) L2 (n + 1) b2 x.state recs' (.slice A9' n9' c9') w9) := Lib.hid ⟨HD9.out.rows (by intro p hp; simp at hp ⊢; first | exact hp | (subst hp; simp)), HRV.out.lv, by have := HK.out.hn; omega, by have := HK.out.hb; have := HB2.out; omega, HXL.out⟩
                    go_wp2
                    go_roundg q
                    case measure => omega
                    case rel => exact ⟨i + 1, L2, (n + 1), b2, x.state, recs', A9', n9', c9', by omega, rfl, rfl, by first | rfl | simp, HKN⟩
                · as_aux_lemma =>
                    have HDO := Lib.hid hd
                    have HGN := Lib.hid hgn
                    have HOL := Lib.hid hol
                    have HFR := Lib.hid hrl
                    clear HOUT hd hgn hol hrl
                    obtain ⟨L2, b2, hb2, hcr, hlv⟩ := HGN.out.2 x.keep
                    have HB2 := Lib.hid hb2
                    have HCR := Lib.hid hcr
                    clear hb2 hcr
                    rcases hlv with hlv | hlv
                    · as_aux_lemma =>
                        have HLV := Lib.hid hlv
                        have HLR : Hid (recs'.length ≤ 3) := Lib.hid hlv.jo.few
                        clear hlv
                        have k3 : wc.cell? ⟨(ad.add (i * 4)).block, (ad.add (i * 4)).off + 3, none⟩ = some (.slice AK x.keep.length cK) := DWrite.cellB HDO.out.gr HC3.out
                        go_wp2_with fail
                        refine (dr_crash HDO.out _ (.slice AK x.keep.length cK) x.keep (calm L2) (by have := HGN.out.1; omega) HRK.out (fun b hb => hb) HCR.out).mono ?_
                        rintro e w7 ⟨rfl, hd⟩
                        have HD7 := Lib.hid hd
                        clear hd k3 HDO
                        have c0 : w7.cell? ⟨BP, 0, none⟩ = some (.int .i64 2) := DWrite.cellB HD7.out.gr HP0.out
                        have c1 : w7.cell? ⟨BP, 1, none⟩ = some (.int .i64 3) := DWrite.cellB HD7.out.gr HP1.out
                        have c2 : w7.cell? ⟨BP, 2, none⟩ = some (.int .i64 2) := DWrite.cellB HD7.out.gr HP2.out
                        go_wp2_with fail
                        refine (dr_kept HD7.out (n + 1) b2 x.state recs' HLV.out HXL.out (by have := HK.out.hb; have := HI.out; have := HB2.out; omega)).mono ?_
                        rintro e w8 ⟨gv2, vr2, rfl, hd, hrr⟩
                        obtain ⟨A13b, c13b, rfl⟩ := rr_slice hrr
                        have HD8 := Lib.hid (hd.drop (U' := []) (by intro p hp; cases hp))
                        have HRR := Lib.hid hrr
                        clear hd hrr c0 c1 c2 HD7
                        have HDE : Hid (decide (recs' = recs') = true) := Lib.hid (decide_eq_true rfl)
                        have HSM := Lib.hid (JS.same_any w8 (.slice A13b recs'.length c13b) (.slice A9' n9' c9') recs' recs' HRR.out (HD8.out.row (p := (.slice A9' n9' c9', recs')) (by simp)).rr (by have := HLR.out; omega) (by have := HLR.out; omega))
                        have hde : decide (recs' = recs') = true := HDE.out
                        rw [hde] at HSM
                        clear hde
                        go_wp2_with fail
                        refine HSM.out.mono ?_
                        rintro e w9 ⟨rfl, hg⟩
                        have HD9 := Lib.hid (HD8.out.grew hg)
                        clear hg HSM HRR HD8
                        have HKN : Hid (KEEP W0 g (i + 1) L2 (n + 1) b2 x.state recs' (.slice A9' n9' c9') w9) := Lib.hid ⟨HD9.out.rows (by intro p hp; simp at hp ⊢; first | exact hp | (subst hp; simp)), HLV.out, by have := HK.out.hn; omega, by have := HK.out.hb; have := HB2.out; omega, HXL.out⟩
                        go_wp2
                        go_roundg q
                        case measure => omega
                        case rel => exact ⟨i + 1, L2, (n + 1), b2, x.state, recs', A9', n9', c9', by omega, rfl, rfl, by first | rfl | simp, HKN⟩
                    · by_cases hst : ot = x.state
                      · by_cases hmr : more = recs'
                        · as_aux_lemma =>
                            have HLV : Hid (LV L2 (n + 1) b2 x.state recs') := Lib.hid (by rw [← hst, ← hmr]; exact hlv)
                            have HLR : Hid (recs'.length ≤ 3) := Lib.hid HLV.out.jo.few
                            clear hlv hst hmr
                            have k3 : wc.cell? ⟨(ad.add (i * 4)).block, (ad.add (i * 4)).off + 3, none⟩ = some (.slice AK x.keep.length cK) := DWrite.cellB HDO.out.gr HC3.out
                            go_wp2_with fail
                            refine (dr_crash HDO.out _ (.slice AK x.keep.length cK) x.keep (calm L2) (by have := HGN.out.1; omega) HRK.out (fun b hb => hb) HCR.out).mono ?_
                            rintro e w7 ⟨rfl, hd⟩
                            have HD7 := Lib.hid hd
                            clear hd k3 HDO
                            have c0 : w7.cell? ⟨BP, 0, none⟩ = some (.int .i64 2) := DWrite.cellB HD7.out.gr HP0.out
                            have c1 : w7.cell? ⟨BP, 1, none⟩ = some (.int .i64 3) := DWrite.cellB HD7.out.gr HP1.out
                            have c2 : w7.cell? ⟨BP, 2, none⟩ = some (.int .i64 2) := DWrite.cellB HD7.out.gr HP2.out
                            go_wp2_with fail
                            refine (dr_kept HD7.out (n + 1) b2 x.state recs' HLV.out HXL.out (by have := HK.out.hb; have := HI.out; have := HB2.out; omega)).mono ?_
                            rintro e w8 ⟨gv2, vr2, rfl, hd, hrr⟩
                            obtain ⟨A13b, c13b, rfl⟩ := rr_slice hrr
                            have HD8 := Lib.hid (hd.drop (U' := []) (by intro p hp; cases hp))
                            have HRR := Lib.hid hrr
                            clear hd hrr c0 c1 c2 HD7
                            have HDE : Hid (decide (recs' = recs') = true) := Lib.hid (decide_eq_true rfl)
                            have HSM := Lib.hid (JS.same_any w8 (.slice A13b recs'.length c13b) (.slice A9' n9' c9') recs' recs' HRR.out (HD8.out.row (p := (.slice A9' n9' c9', recs')) (by simp)).rr (by have := HLR.out; omega) (by have := HLR.out; omega))
                            have hde : decide (recs' = recs') = true := HDE.out
                            rw [hde] at HSM
                            clear hde
                            go_wp2_with fail
                            refine HSM.out.mono ?_
                            rintro e w9 ⟨rfl, hg⟩
                            have HD9 := Lib.hid (HD8.out.grew hg)
                            clear hg HSM HRR HD8
                            have HKN : Hid (KEEP W0 g (i + 1) L2 (n + 1) b2 x.state recs' (.slice A9' n9' c9') w9) := Lib.hid ⟨HD9.out.rows (by intro p hp; simp at hp ⊢; first | exact hp | (subst hp; simp)), HLV.out, by have := HK.out.hn; omega, by have := HK.out.hb; have := HB2.out; omega, HXL.out⟩
                            go_wp2
                            go_roundg q
                            case measure => omega
                            case rel => exact ⟨i + 1, L2, (n + 1), b2, x.state, recs', A9', n9', c9', by omega, rfl, rfl, by first | rfl | simp, HKN⟩
                        · as_aux_lemma =>
                            have HLV := Lib.hid hlv
                            have HEQ := Lib.hid hst
                            have HNE := Lib.hid hmr
                            have HLM : Hid (more.length ≤ 3) := Lib.hid hlv.jo.few
                            clear hlv hst hmr
                            have k3 : wc.cell? ⟨(ad.add (i * 4)).block, (ad.add (i * 4)).off + 3, none⟩ = some (.slice AK x.keep.length cK) := DWrite.cellB HDO.out.gr HC3.out
                            go_wp2_with fail
                            refine (dr_crash HDO.out _ (.slice AK x.keep.length cK) x.keep (calm L2) (by have := HGN.out.1; omega) HRK.out (fun b hb => hb) HCR.out).mono ?_
                            rintro e w7 ⟨rfl, hd⟩
                            have HD7 := Lib.hid hd
                            clear hd k3 HDO
                            have c0 : w7.cell? ⟨BP, 0, none⟩ = some (.int .i64 2) := DWrite.cellB HD7.out.gr HP0.out
                            have c1 : w7.cell? ⟨BP, 1, none⟩ = some (.int .i64 3) := DWrite.cellB HD7.out.gr HP1.out
                            have c2 : w7.cell? ⟨BP, 2, none⟩ = some (.int .i64 2) := DWrite.cellB HD7.out.gr HP2.out
                            go_wp2_with fail
                            refine (dr_kept HD7.out (n + 1) b2 ot more HLV.out HOL.out (by have := HK.out.hb; have := HI.out; have := HB2.out; omega)).mono ?_
                            rintro e w8 ⟨gv2, vr2, rfl, hd, hrr⟩
                            obtain ⟨A13b, c13b, rfl⟩ := rr_slice hrr
                            have HD8 := Lib.hid (hd.drop (U' := []) (by intro p hp; cases hp))
                            have HRR := Lib.hid hrr
                            clear hd hrr c0 c1 c2 HD7
                            have q1 : (ot == x.state) = true := by have := HEQ.out; simpa using this
                            have q2 : (ot == ot) = true := by simp
                            have HDE : Hid (decide (more = recs') = false) := Lib.hid (decide_eq_false HNE.out)
                            have HSM := Lib.hid (JS.same_any w8 (.slice A13b more.length c13b) (.slice A9' n9' c9') more recs' HRR.out (HD8.out.row (p := (.slice A9' n9' c9', recs')) (by simp)).rr (by have := HLM.out; omega) (by have := HFR.out; omega))
                            have hde : decide (more = recs') = false := HDE.out
                            rw [hde] at HSM
                            clear hde HDE
                            go_wp2_with fail
                            refine HSM.out.mono ?_
                            rintro e w8b ⟨rfl, hg⟩
                            have HD8b := Lib.hid (HD8.out.grew hg)
                            have HRRb : Hid (JS.RR w8b (.slice A13b more.length c13b) more) := Lib.hid (by
                              obtain ⟨A5', c5', e5, h5⟩ := HRR.out
                              refine ⟨A5', c5', e5, fun i x hx => ?_⟩
                              obtain ⟨ad, A2, c2, h1, h2, h3⟩ := h5 i x hx
                              exact ⟨ad, A2, c2, h1, DWrite.cellB hg h2, (h3.grew hg).mono fun b hb => Nat.lt_of_lt_of_le hb hg.size⟩)
                            clear hg HSM HRR HD8
                            have HDE : Hid (decide (more = more) = true) := Lib.hid (decide_eq_true rfl)
                            have HSM := Lib.hid (JS.same_any w8b (.slice A13b more.length c13b) (.slice A16 n16 c16) more more HRRb.out (HD8b.out.row (p := (.slice A16 n16 c16, more)) (by simp)).rr (by have := HLM.out; omega) (by have := HLM.out; omega))
                            have hde : decide (more = more) = true := HDE.out
                            rw [hde] at HSM
                            clear hde
                            go_wp2_with fail
                            refine HSM.out.mono ?_
                            rintro e w9 ⟨rfl, hg⟩
                            have HD9 := Lib.hid (HD8b.out.grew hg)
                            clear hg HSM HRRb HD8b q1 q2
                            have HKN : Hid (KEEP W0 g (i + 1) L2 (n + 1) b2 ot more (.slice A16 n16 c16) w9) := Lib.hid ⟨HD9.out.rows (by intro p hp; simp at hp ⊢; first | exact hp | (subst hp; simp)), HLV.out, by have := HK.out.hn; omega, by have := HK.out.hb; have := HB2.out; omega, HOL.out⟩
                            go_wp2
                            go_roundg q
                            case measure => omega
                            case rel => exact ⟨i + 1, L2, (n + 1), b2, ot, more, A16, n16, c16, by omega, rfl, rfl, by first | rfl | simp, HKN⟩
                      · as_aux_lemma =>
                          have HLV := Lib.hid hlv
                          have HNE := Lib.hid hst
                          have HLM : Hid (more.length ≤ 3) := Lib.hid hlv.jo.few
                          clear hlv hst
                          have k3 : wc.cell? ⟨(ad.add (i * 4)).block, (ad.add (i * 4)).off + 3, none⟩ = some (.slice AK x.keep.length cK) := DWrite.cellB HDO.out.gr HC3.out
                          go_wp2_with fail
                          refine (dr_crash HDO.out _ (.slice AK x.keep.length cK) x.keep (calm L2) (by have := HGN.out.1; omega) HRK.out (fun b hb => hb) HCR.out).mono ?_
                          rintro e w7 ⟨rfl, hd⟩
                          have HD7 := Lib.hid hd
                          clear hd k3 HDO
                          have c0 : w7.cell? ⟨BP, 0, none⟩ = some (.int .i64 2) := DWrite.cellB HD7.out.gr HP0.out
                          have c1 : w7.cell? ⟨BP, 1, none⟩ = some (.int .i64 3) := DWrite.cellB HD7.out.gr HP1.out
                          have c2 : w7.cell? ⟨BP, 2, none⟩ = some (.int .i64 2) := DWrite.cellB HD7.out.gr HP2.out
                          go_wp2_with fail
                          refine (dr_kept HD7.out (n + 1) b2 ot more HLV.out HOL.out (by have := HK.out.hb; have := HI.out; have := HB2.out; omega)).mono ?_
                          rintro e w8 ⟨gv2, vr2, rfl, hd, hrr⟩
                          obtain ⟨A13b, c13b, rfl⟩ := rr_slice hrr
                          have HD8 := Lib.hid (hd.drop (U' := []) (by intro p hp; cases hp))
                          have HRR := Lib.hid hrr
                          clear hd hrr c0 c1 c2 HD7
                          have q1 : (ot == x.state) = false := by have := HNE.out; simpa using this
                          have q2 : (ot == ot) = true := by simp
                          have HDE : Hid (decide (more = more) = true) := Lib.hid (decide_eq_true rfl)
                          have HSM := Lib.hid (JS.same_any w8 (.slice A13b more.length c13b) (.slice A16 n16 c16) more more HRR.out (HD8.out.row (p := (.slice A16 n16 c16, more)) (by simp)).rr (by have := HLM.out; omega) (by have := HLM.out; omega))
                          have hde : decide (more = more) = true := HDE.out
                          rw [hde] at HSM
                          clear hde
                          go_wp2_with fail
                          refine HSM.out.mono ?_
                          rintro e w9 ⟨rfl, hg⟩
                          have HD9 := Lib.hid (HD8.out.grew hg)
                          clear hg HSM HRR HD8 q1 q2
                          have HKN : Hid (KEEP W0 g (i + 1) L2 (n + 1) b2 ot more (.slice A16 n16 c16) w9) := Lib.hid ⟨HD9.out.rows (by intro p hp; simp at hp ⊢; first | exact hp | (subst hp; simp)), HLV.out, by have := HK.out.hn; omega, by have := HK.out.hb; have := HB2.out; omega, HOL.out⟩
                          go_wp2
                          go_roundg q
                          case measure => omega
                          case rel => exact ⟨i + 1, L2, (n + 1), b2, ot, more, A16, n16, c16, by omega, rfl, rfl, by first | rfl | simp, HKN⟩
            · have HNX := Lib.hid hnx
              have HGN := Lib.hid hgn
              clear hnx hgn
              go_wp2_with fail
              refine (dr_checkpoint none base HDU.out HNBL.out m c s (keptB base nw) HSK.out HNW.out.is HK.out.lv.len HMAY.out (.slice AS x.state.length cS) x.state (List.mem_cons_self ..) HXL.out d1 15 HK.out.lv.low (by have := HK.out.hb; have := HI.out; omega) HNX.out (fun h => absurd h (by decide))).mono ?_
              rintro e w6 ⟨rfl, ⟨_, hd⟩ | ⟨h0, _⟩⟩
              rotate_left
              · exact absurd h0 (by decide)
              have HINN : Hid (INN W0 g gv 0 (n + 1) (base + 6) nw 15 recs (.slice A9 n9 c9) x.state [] (.slice none 0 0) w6) := Lib.hid (.inr ⟨rfl, HXL.out, HFW.out, d1, (hd.drop (by intro p hp; cases hp)).nil.rows (by intro p hp; simp at hp ⊢; rcases hp with hp | hp; exact .inr hp; exact .inl hp), HGN.out⟩)
              have d2 := Nums.conv22 (w := w6) (v := .slice AS x.state.length cS) (l := x.state) (HRX.out.grew hd.gr)
              have HG6 := Lib.hid hd.gr
              clear hd HGN HDU k0 HSK HNW HMN HMAY HNBL HNX
              have k0 : w6.cell? (ad.add (i * 4)) = some (.slice AS x.state.length cS) := DWrite.cellB HG6.out HC0.out
              go_upto_block 2 with fail
              clear d2 k0
              go_cut [9, 15, 16, 17] (fun s9 s15 s16 s17 wx => s9 = .slice A9 n9 c9 ∧ s15 = .string ⟨x.state.toArray⟩ ∧ s16 = .slice none 0 0 ∧ s17 = .int .i64 15 ∧ Hid (OUTV W0 g (n + 1) (base + 6) nw 15 recs (.slice A9 n9 c9) x.state [] (.slice none 0 0) wx))
              case first =>
                go_wp2_with fail
                go_loopg [9, 15, 16, 17, 18, 19, 20, 21] 6 (fun q s9 s15 s16 s17 s18 s19 s20 s21 wx => s9 = .slice A9 n9 c9 ∧ s15 = .string ⟨x.state.toArray⟩ ∧ s16 = .slice none 0 0 ∧ s17 = .int .i64 15 ∧ s18 = .int .i64 0 ∧ Hid (INN W0 g gv 0 (n + 1) (base + 6) nw 15 recs (.slice A9 n9 c9) x.state [] (.slice none 0 0) wx))
                case atStart => exact ⟨rfl, rfl, rfl, rfl, rfl, HINN⟩
                case round =>
                  obtain ⟨rfl, rfl, rfl, rfl, rfl, HIN2⟩ := hrel
                  clear HINN
                  rcases HIN2.out with ⟨h15, _⟩ | ⟨_, hol, hrl, d2, hd, hgn⟩
                  · exact absurd h15 (by decide)
                  have HDI := Lib.hid hd
                  have HGN := Lib.hid hgn
                  have HOL := Lib.hid hol
                  have HFR := Lib.hid hrl
                  clear hd hgn hol hrl
                  have k1 : wr.cell? ⟨(ad.add (i * 4)).block, (ad.add (i * 4)).off + 1, none⟩ = some (.slice AR x.recs.length cR) := DWrite.cellB HDI.out.gr HC1.out
                  have HOUT : Hid (OUTV W0 g (n + 1) (base + 6) nw 15 recs (.slice A9 n9 c9) x.state [] (.slice none 0 0) wr) := Lib.hid (.inr ⟨rfl, HOL.out, HFR.out, d2, HDI.out, HGN.out⟩)
                  clear HDI HGN HIN2
                  by_cases hkn : 0 < x.recs.length
                  · have hkn' : (0 : Int) < (x.recs.length : Int) := by omega
                    clear hkn
                    go_wp2_with fail
                    go_meet
                    case rel => exact ⟨rfl, rfl, rfl, rfl, HOUT⟩
                  · have hkn' : ¬ (0 : Int) < (x.recs.length : Int) := by omega
                    clear hkn
                    go_wp2_with fail
                    go_meet
                    case rel => exact ⟨rfl, rfl, rfl, rfl, HOUT⟩
              case rest =>
                obtain ⟨rfl, rfl, rfl, rfl, HOUT⟩ := hcut
                clear HINN
                rcases HOUT.out with ⟨h15, _⟩ | ⟨_, hol, hrl, d2, hd, hgn⟩
                · exact absurd h15 (by decide)
                have HDO := Lib.hid hd
                have HGN := Lib.hid hgn
                have HOL := Lib.hid hol
                have HFR := Lib.hid hrl
                clear HOUT hd hgn hol hrl
                obtain ⟨L2, b2, hb2, hcr, hlv⟩ := HGN.out.2 x.keep
                have HB2 := Lib.hid hb2
                have HCR := Lib.hid hcr
                clear hb2 hcr
                rcases hlv with hlv | hlv
                · as_aux_lemma =>
                    have HLV := Lib.hid hlv
                    have HLR : Hid (recs.length ≤ 3) := Lib.hid hlv.jo.few
                    clear hlv
                    have k3 : wc.cell? ⟨(ad.add (i * 4)).block, (ad.add (i * 4)).off + 3, none⟩ = some (.slice AK x.keep.length cK) := DWrite.cellB HDO.out.gr HC3.out
                    go_wp2_with fail
                    refine (dr_crash HDO.out _ (.slice AK x.keep.length cK) x.keep (calm L2) (by have := HGN.out.1; omega) HRK.out (fun b hb => hb) HCR.out).mono ?_
                    rintro e w7 ⟨rfl, hd⟩
                    have HD7 := Lib.hid hd
                    clear hd k3 HDO
                    have c0 : w7.cell? ⟨BP, 0, none⟩ = some (.int .i64 2) := DWrite.cellB HD7.out.gr HP0.out
                    have c1 : w7.cell? ⟨BP, 1, none⟩ = some (.int .i64 3) := DWrite.cellB HD7.out.gr HP1.out
                    have c2 : w7.cell? ⟨BP, 2, none⟩ = some (.int .i64 2) := DWrite.cellB HD7.out.gr HP2.out
                    go_wp2_with fail
                    refine (dr_kept HD7.out (n + 1) b2 nw recs HLV.out HK.out.hw (by have := HK.out.hb; have := HI.out; have := HB2.out; omega)).mono ?_
                    rintro e w8 ⟨gv2, vr2, rfl, hd, hrr⟩
                    obtain ⟨A13b, c13b, rfl⟩ := rr_slice hrr
                    have HD8 := Lib.hid (hd.drop (U' := []) (by intro p hp; cases hp))
                    have HRR := Lib.hid hrr
                    clear hd hrr c0 c1 c2 HD7
                    have HDE : Hid (decide (recs = recs) = true) := Lib.hid (decide_eq_true rfl)
                    have HSM := Lib.hid (JS.same_any w8 (.slice A13b recs.length c13b) (.slice A9 n9 c9) recs recs HRR.out (HD8.out.row (p := (.slice A9 n9 c9, recs)) (by simp)).rr (by have := HLR.out; omega) (by have := HLR.out; omega))
                    have hde : decide (recs = recs) = true := HDE.out
                    rw [hde] at HSM
                    clear hde
                    go_wp2_with fail
                    refine HSM.out.mono ?_
                    rintro e w9 ⟨rfl, hg⟩
                    have HD9 := Lib.hid (HD8.out.grew hg)
                    clear hg HSM HRR HD8
                    have HKN : Hid (KEEP W0 g (i + 1) L2 (n + 1) b2 nw recs (.slice A9 n9 c9) w9) := Lib.hid ⟨HD9.out.rows (by intro p hp; simp at hp ⊢; first | exact hp | (subst hp; simp)), HLV.out, by have := HK.out.hn; omega, by have := HK.out.hb; have := HB2.out; omega, HK.out.hw⟩
                    go_wp2
                    go_roundg q
                    case measure => omega
                    case rel => exact ⟨i + 1, L2, (n + 1), b2, nw, recs, A9, n9, c9, by omega, rfl, rfl, by first | rfl | simp, HKN⟩
                · by_cases hst : x.state = nw
                  · by_cases hmr : ([] : List (List UInt8)) = recs
                    · as_aux_lemma =>
                        have HLV : Hid (LV L2 (n + 1) b2 nw recs) := Lib.hid (by rw [← hst, ← hmr]; exact hlv)
                        have HLR : Hid (recs.length ≤ 3) := Lib.hid HLV.out.jo.few
                        clear hlv hst hmr
                        have k3 : wc.cell? ⟨(ad.add (i * 4)).block, (ad.add (i * 4)).off + 3, none⟩ = some (.slice AK x.keep.length cK) := DWrite.cellB HDO.out.gr HC3.out
                        go_wp2_with fail
                        refine (dr_crash HDO.out _ (.slice AK x.keep.length cK) x.keep (calm L2) (by have := HGN.out.1; omega) HRK.out (fun b hb => hb) HCR.out).mono ?_
                        rintro e w7 ⟨rfl, hd⟩
                        have HD7 := Lib.hid hd
                        clear hd k3 HDO
                        have c0 : w7.cell? ⟨BP, 0, none⟩ = some (.int .i64 2) := DWrite.cellB HD7.out.gr HP0.out
                        have c1 : w7.cell? ⟨BP, 1, none⟩ = some (.int .i64 3) := DWrite.cellB HD7.out.gr HP1.out
                        have c2 : w7.cell? ⟨BP, 2, none⟩ = some (.int .i64 2) := DWrite.cellB HD7.out.gr HP2.out
                        go_wp2_with fail
                        refine (dr_kept HD7.out (n + 1) b2 nw recs HLV.out HK.out.hw (by have := HK.out.hb; have := HI.out; have := HB2.out; omega)).mono ?_
                        rintro e w8 ⟨gv2, vr2, rfl, hd, hrr⟩
                        obtain ⟨A13b, c13b, rfl⟩ := rr_slice hrr
                        have HD8 := Lib.hid (hd.drop (U' := []) (by intro p hp; cases hp))
                        have HRR := Lib.hid hrr
                        clear hd hrr c0 c1 c2 HD7
                        have HDE : Hid (decide (recs = recs) = true) := Lib.hid (decide_eq_true rfl)
                        have HSM := Lib.hid (JS.same_any w8 (.slice A13b recs.length c13b) (.slice A9 n9 c9) recs recs HRR.out (HD8.out.row (p := (.slice A9 n9 c9, recs)) (by simp)).rr (by have := HLR.out; omega) (by have := HLR.out; omega))
                        have hde : decide (recs = recs) = true := HDE.out
                        rw [hde] at HSM
                        clear hde
                        go_wp2_with fail
                        refine HSM.out.mono ?_
                        rintro e w9 ⟨rfl, hg⟩
                        have HD9 := Lib.hid (HD8.out.grew hg)
                        clear hg HSM HRR HD8
                        have HKN : Hid (KEEP W0 g (i + 1) L2 (n + 1) b2 nw recs (.slice A9 n9 c9) w9) := Lib.hid ⟨HD9.out.rows (by intro p hp; simp at hp ⊢; first | exact hp | (subst hp; simp)), HLV.out, by have := HK.out.hn; omega, by have := HK.out.hb; have := HB2.out; omega, HK.out.hw⟩
                        go_wp2
                        go_roundg q
                        case measure => omega
                        case rel => exact ⟨i + 1, L2, (n + 1), b2, nw, recs, A9, n9, c9, by omega, rfl, rfl, by first | rfl | simp, HKN⟩
                    · as_aux_lemma =>
                        have HLV := Lib.hid hlv
                        have HEQ := Lib.hid hst
                        have HNE := Lib.hid hmr
                        have HLM : Hid (([] : List (List UInt8)).length ≤ 3) := Lib.hid hlv.jo.few
                        clear hlv hst hmr
                        have k3 : wc.cell? ⟨(ad.add (i * 4)).block, (ad.add (i * 4)).off + 3, none⟩ = some (.slice AK x.keep.length cK) := DWrite.cellB HDO.out.gr HC3.out
                        go_wp2_with fail
                        refine (dr_crash HDO.out _ (.slice AK x.keep.length cK) x.keep (calm L2) (by have := HGN.out.1; omega) HRK.out (fun b hb => hb) HCR.out).mono ?_
                        rintro e w7 ⟨rfl, hd⟩
                        have HD7 := Lib.hid hd
                        clear hd k3 HDO
                        have c0 : w7.cell? ⟨BP, 0, none⟩ = some (.int .i64 2) := DWrite.cellB HD7.out.gr HP0.out
                        have c1 : w7.cell? ⟨BP, 1, none⟩ = some (.int .i64 3) := DWrite.cellB HD7.out.gr HP1.out
                        have c2 : w7.cell? ⟨BP, 2, none⟩ = some (.int .i64 2) := DWrite.cellB HD7.out.gr HP2.out
                        go_wp2_with fail
                        refine (dr_kept HD7.out (n + 1) b2 x.state ([] : List (List UInt8)) HLV.out HXL.out (by have := HK.out.hb; have := HI.out; have := HB2.out; omega)).mono ?_
                        rintro e w8 ⟨gv2, vr2, rfl, hd, hrr⟩
                        obtain ⟨A13b, c13b, rfl⟩ := rr_slice hrr
                        have HD8 := Lib.hid (hd.drop (U' := []) (by intro p hp; cases hp))
                        have HRR := Lib.hid hrr
                        clear hd hrr c0 c1 c2 HD7
                        have q1 : (x.state == nw) = true := by have := HEQ.out; simpa using this
                        have q2 : (x.state == x.state) = true := by simp
                        have HDE : Hid (decide (([] : List (List UInt8)) = recs) = false) := Lib.hid (decide_eq_false HNE.out)
                        have HSM := Lib.hid (JS.same_any w8 (.slice A13b ([] : List (List UInt8)).length c13b) (.slice A9 n9 c9) ([] : List (List UInt8)) recs HRR.out (HD8.out.row (p := (.slice A9 n9 c9, recs)) (by simp)).rr (by have := HLM.out; omega) (by have := HFR.out; omega))
                        have hde : decide (([] : List (List UInt8)) = recs) = false := HDE.out
                        rw [hde] at HSM
                        clear hde HDE
                        go_wp2_with fail
                        refine HSM.out.mono ?_
                        rintro e w8b ⟨rfl, hg⟩
                        have HD8b := Lib.hid (HD8.out.grew hg)
                        have HRRb : Hid (JS.RR w8b (.slice A13b ([] : List (List UInt8)).length c13b) ([] : List (List UInt8))) := Lib.hid (by
                          obtain ⟨A5', c5', e5, h5⟩ := HRR.out
                          refine ⟨A5', c5', e5, fun i x hx => ?_⟩
                          obtain ⟨ad, A2, c2, h1, h2, h3⟩ := h5 i x hx
                          exact ⟨ad, A2, c2, h1, DWrite.cellB hg h2, (h3.grew hg).mono fun b hb => Nat.lt_of_lt_of_le hb hg.size⟩)
                        clear hg HSM HRR HD8
                        have HDE : Hid (decide (([] : List (List UInt8)) = ([] : List (List UInt8))) = true) := Lib.hid (decide_eq_true rfl)
                        have HSM := Lib.hid (JS.same_any w8b (.slice A13b ([] : List (List UInt8)).length c13b) (.slice none 0 0) ([] : List (List UInt8)) ([] : List (List UInt8)) HRRb.out (HD8b.out.row (p := (.slice none 0 0, ([] : List (List UInt8)))) (by simp)).rr (by have := HLM.out; omega) (by have := HLM.out; omega))
                        have hde : decide (([] : List (List UInt8)) = ([] : List (List UInt8))) = true := HDE.out
                        rw [hde] at HSM
                        clear hde
                        go_wp2_with fail
                        refine HSM.out.mono ?_
                        rintro e w9 ⟨rfl, hg⟩
                        have HD9 := Lib.hid (HD8b.out.grew hg)
                        clear hg HSM HRRb HD8b q1 q2
                        have HKN : Hid (KEEP W0 g (i + 1) L2 (n + 1) b2 x.state ([] : List (List UInt8)) (.slice none 0 0) w9) := Lib.hid ⟨HD9.out.rows (by intro p hp; simp at hp ⊢; first | exact hp | (subst hp; simp)), HLV.out, by have := HK.out.hn; omega, by have := HK.out.hb; have := HB2.out; omega, HXL.out⟩
                        go_wp2
                        go_roundg q
                        case measure => omega
                        case rel => exact ⟨i + 1, L2, (n + 1), b2, x.state, ([] : List (List UInt8)), none, 0, 0, by omega, rfl, rfl, by first | rfl | simp, HKN⟩
                  · as_aux_lemma =>
                      have HLV := Lib.hid hlv
                      have HNE := Lib.hid hst
                      have HLM : Hid (([] : List (List UInt8)).length ≤ 3) := Lib.hid hlv.jo.few
                      clear hlv hst
                      have k3 : wc.cell? ⟨(ad.add (i * 4)).block, (ad.add (i * 4)).off + 3, none⟩ = some (.slice AK x.keep.length cK) := DWrite.cellB HDO.out.gr HC3.out
                      go_wp2_with fail
                      refine (dr_crash HDO.out _ (.slice AK x.keep.length cK) x.keep (calm L2) (by have := HGN.out.1; omega) HRK.out (fun b hb => hb) HCR.out).mono ?_
                      rintro e w7 ⟨rfl, hd⟩
                      have HD7 := Lib.hid hd
                      clear hd k3 HDO
                      have c0 : w7.cell? ⟨BP, 0, none⟩ = some (.int .i64 2) := DWrite.cellB HD7.out.gr HP0.out
                      have c1 : w7.cell? ⟨BP, 1, none⟩ = some (.int .i64 3) := DWrite.cellB HD7.out.gr HP1.out
                      have c2 : w7.cell? ⟨BP, 2, none⟩ = some (.int .i64 2) := DWrite.cellB HD7.out.gr HP2.out
                      go_wp2_with fail
                      refine (dr_kept HD7.out (n + 1) b2 x.state ([] : List (List UInt8)) HLV.out HXL.out (by have := HK.out.hb; have := HI.out; have := HB2.out; omega)).mono ?_
                      rintro e w8 ⟨gv2, vr2, rfl, hd, hrr⟩
                      obtain ⟨A13b, c13b, rfl⟩ := rr_slice hrr
                      have HD8 := Lib.hid (hd.drop (U' := []) (by intro p hp; cases hp))
                      have HRR := Lib.hid hrr
                      clear hd hrr c0 c1 c2 HD7
                      have q1 : (x.state == nw) = false := by have := HNE.out; simpa using this
                      have q2 : (x.state == x.state) = true := by simp
                      have HDE : Hid (decide (([] : List (List UInt8)) = ([] : List (List UInt8))) = true) := Lib.hid (decide_eq_true rfl)
                      have HSM := Lib.hid (JS.same_any w8 (.slice A13b ([] : List (List UInt8)).length c13b) (.slice none 0 0) ([] : List (List UInt8)) ([] : List (List UInt8)) HRR.out (HD8.out.row (p := (.slice none 0 0, ([] : List (List UInt8)))) (by simp)).rr (by have := HLM.out; omega) (by have := HLM.out; omega))
                      have hde : decide (([] : List (List UInt8)) = ([] : List (List UInt8))) = true := HDE.out
                      rw [hde] at HSM
                      clear hde
                      go_wp2_with fail
                      refine HSM.out.mono ?_
                      rintro e w9 ⟨rfl, hg⟩
                      have HD9 := Lib.hid (HD8.out.grew hg)
                      clear hg HSM HRR HD8 q1 q2
                      have HKN : Hid (KEEP W0 g (i + 1) L2 (n + 1) b2 x.state ([] : List (List UInt8)) (.slice none 0 0) w9) := Lib.hid ⟨HD9.out.rows (by intro p hp; simp at hp ⊢; first | exact hp | (subst hp; simp)), HLV.out, by have := HK.out.hn; omega, by have := HK.out.hb; have := HB2.out; omega, HXL.out⟩
                      go_wp2
                      go_roundg q
                      case measure => omega
                      case rel => exact ⟨i + 1, L2, (n + 1), b2, x.state, ([] : List (List UInt8)), none, 0, 0, by omega, rfl, rfl, by first | rfl | simp, HKN⟩
    · have hin' : ¬ ((i : Int) < (L.length : Int)) := by omega
      clear hin
      go_wp2_with fail
      refine (VG.alive_any _).mono ?_
      rintro e w3 ⟨rfl, hg⟩
      have HG3 := Lib.hid (HGW.out.trans (HK.out.dr.gr.trans hg))
      clear hg
      go_wp2
      go_ret
      exact ⟨rfl, HG3.out⟩
theorem keeps_any (w : World) (A B : Option Addr) (cA cB : Nat) (st : List UInt8) (L : List Li) (hr : Rd (fun b => b < w.heap.size) w (.slice A st.length cA) st) (hL : LI w B cB L) :
    Calls Try.prog 10 #[.slice A st.length cA, .slice B L.length cB] w fun e w' => e = .returned (.bool true) ∧ Grew w w' := by
  by_cases h : 200 < st.length
  · exact VL.keeps_long w A B cA cB L.length st h
  · exact keeps_main w A B cA cB st L (by omega) hr hL
end Go.Proofs.Ytbnicphegbdfnaa.VN
