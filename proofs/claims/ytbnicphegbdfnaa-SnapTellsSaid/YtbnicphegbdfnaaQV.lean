/-
  SnapTells: any two areas, any deeds.
  Conditions: none beyond those that each lemma names.
-/
import Derived.Test.YtbnicphegbdfnaaQU
import Derived.Test.YtbnicphegbdfnaaQO
import Derived.Deep.DeepCutAuto
import Derived.Deep.CutBlock
namespace Go.Proofs.Ytbnicphegbdfnaa.QV
set_option maxRecDepth 100000
open Go Go.RowKit Go.Proofs.Ytbnicphegbdfnaa Go.Proofs.Ytbnicphegbdfnaa.Facts Go.Proofs.Ytbnicphegbdfnaa.Bytes Go.Proofs.Ytbnicphegbdfnaa.DKeep Go.Proofs.Ytbnicphegbdfnaa.DSmall Go.Proofs.Ytbnicphegbdfnaa.DRefA Go.Proofs.Ytbnicphegbdfnaa.DRefB Go.Proofs.Ytbnicphegbdfnaa.DRefC Go.Proofs.Ytbnicphegbdfnaa.DSim Go.Proofs.Ytbnicphegbdfnaa.DRefD Go.Proofs.Ytbnicphegbdfnaa.DRefF Go.Proofs.Ytbnicphegbdfnaa.DLawA Go.Proofs.Ytbnicphegbdfnaa.RG Go.Proofs.Ytbnicphegbdfnaa.RH Go.Proofs.Ytbnicphegbdfnaa.RI Go.Proofs.Ytbnicphegbdfnaa.RJ Go.Proofs.Ytbnicphegbdfnaa.DOpens Go.Proofs.Ytbnicphegbdfnaa.DS Go.Proofs.Ytbnicphegbdfnaa.QW Go.Proofs.Ytbnicphegbdfnaa.QZ Go.Proofs.Ytbnicphegbdfnaa.QU

/-- The deeds go on. -/
structure LU (w : World) (g gx n : Nat) (d : Pd) (r : Rp) (y : World) : Prop where
  us : US w g gx d r y
  sim : Sim d r
  len : r.now.length = 7
  wt : r.waits.length ≤ 20 * n
section
variable {w y z : World} {g gx n m : Nat} {d : Pd} {r : Rp}
theorem LU.grew (h : LU w g gx n d r y) (hg : Grew y z) : LU w g gx n d r z := ⟨h.us.grew hg, h.sim, h.len, h.wt⟩
theorem LU.more (h : LU w g gx n d r y) (hm : n ≤ m) : LU w g gx m d r y := ⟨h.us, h.sim, h.len, Nat.le_trans h.wt (by omega)⟩
theorem LU.waits (h : LU w g gx n d r y) (hn : n ≤ 40) : r.waits.length ≤ 1000 ∧ d.waits.length ≤ 1000 := by
  have := h.wt
  rw [← h.sim.waits]
  omega
theorem LU.ev (h : LU w g gx n d r y) : Even r.now := by rw [h.sim.now]; exact h.sim.evenl
end
theorem grew_heap {w w' : World} {A : Option Addr} {c : Nat} {L : List De} (h : DE w A c L) (hg : Grew w w') {ad : Addr} (ha : A = some ad) {i : Nat} {x : De} (hx : L[i]? = some x) :
    w'.cell? (ad.add (i * 3)) = some (.int .i64 x.kind) ∧ w'.cell? ⟨(ad.add (i * 3)).block, (ad.add (i * 3)).off + 1, none⟩ = some (.int .i64 x.n) ∧ (-9223372036854775808 ≤ x.n ∧ x.n ≤ 9223372036854775807) ∧ ∃ AB cB, w'.cell? ⟨(ad.add (i * 3)).block, (ad.add (i * 3)).off + 2, none⟩ = some (.slice AB x.b.length cB) ∧ Rd (fun b => b < w.heap.size) w (.slice AB x.b.length cB) x.b := by
  obtain ⟨h1, h2, h3, vB, h4, h5⟩ := h.2.2.2 ad ha i x hx
  obtain ⟨AB, cB, rfl, _⟩ := id h5
  refine ⟨DWrite.cellB hg h1, ?_, h3, AB, cB, ?_, h5⟩
  · have e : ad.add (i * 3 + 1) = (ad.add (i * 3)).add 1 := by rw [add_add']
    rw [e] at h2
    exact DWrite.cellB hg h2
  · have e : ad.add (i * 3 + 2) = (ad.add (i * 3)).add 2 := by rw [add_add']
    rw [e] at h4
    exact DWrite.cellB hg h4
theorem dx_cells {y : World} {gd : Nat} {kind n : Int} {v : Value} (h : y.heap[gd]? = some (.cells #[.int .i64 kind, .int .i64 n, v] 76 (0, 0))) : y.cell? ⟨gd, 0, none⟩ = some (.int .i64 kind) ∧ y.cell? ⟨gd, 1, none⟩ = some (.int .i64 n) ∧ y.cell? ⟨gd, 2, none⟩ = some v := by
  refine ⟨?_, ?_, ?_⟩ <;> (rw [cell_of_row _ _ _ _ _ _ h]; rfl)
set_option maxHeartbeats 16000000 in
theorem law_any (w : World) (first many : Int) (A : Option Addr) (c : Nat) (L : List De) (hL : DE w A c L) :
    Calls Try.prog 7 #[.int .i64 first, .int .i64 many, .slice A L.length c] w fun e w' => e = .returned (.bool true) ∧ Grew w w' := by
  have HL := Lib.hid hL
  have hLc := hL.1
  have hLm := hL.2.1
  clear hL
  go_enter Try.func7, Try.ntmps7
  go_wp2_with fail
  refine (DAlive.new_eq 7 7 rfl w (by omega) (by omega)).mono ?_
  rintro e w1 ⟨g, rfl, hd, hg⟩
  have HD1 := Lib.hid hd
  have HG1 := Lib.hid hg
  have HDW : Hid (∀ k, (fun k => w.heap.size ≤ k ∧ k < w1.heap.size) k → w.heap.size ≤ k) := Lib.hid fun k hk => hk.1
  clear hd hg
  generalize hDD : (fun k => w.heap.size ≤ k ∧ k < w1.heap.size) = D at *
  clear hDD
  go_wp2_with fail
  have hrn : Calls Try.prog 22 #[.int .i64 7] w1 fun e w' => ∃ v', e = .returned v' ∧ RD w' v' (rfresh 7) ∧ Grew w1 w' := rnew_any 7 w1 (by omega)
  refine hrn.mono ?_
  rintro e w2 ⟨v2, rfl, hrd, hg⟩
  obtain ⟨w3, hst3, hbx3, hg3⟩ := box_new hrd
  have HST3 := Lib.hid hst3
  obtain ⟨D5, hdt5, hsub5⟩ := DK.tight ((HD1.out.grew hg).grew hg3)
  have HLI0 : Hid (LU w g w2.heap.size 0 (DNew.fresh 7) (rfresh 7) w3) := Lib.hid ⟨⟨⟨D5, hdt5, fun k hk => HDW.out k (hsub5 k hk)⟩, hbx3, (HG1.out.trans hg).size, (HG1.out.trans hg).trans hg3⟩, Sim.fresh 7, by show (DNew.blank 7).length = 7; exact DNew.blank_length 7, Nat.zero_le _⟩
  clear hrn hrd hg hst3 hbx3 hg3 hdt5 hsub5 HD1 HG1 HDW
  go_upto_block 0 with (refine DArm.wpList_store (by rfl) 49 (.tmp 9) (.tmp 32) (by with_reducible rfl) _ _ (by rfl) (by rfl) _ HST3.out ?_)
  clear HST3
  generalize w2.heap.size = gx at *
  go_cut [] (fun wx => ∃ (d : Pd) (r : Rp), Hid (LU w g gx 30 d r wx))
  case rest =>
    as_aux_lemma =>
      obtain ⟨d, r, HLI⟩ := hcut
      clear HLI0
      go_wp2_with fail
      refine (SB.alive_any _).mono ?_
      rintro e we ⟨rfl, hge⟩
      have HGE := Lib.hid (HLI.out.us.gr.trans hge)
      clear hge HLI
      go_wp2
      go_ret
      exact ⟨rfl, HGE.out⟩
  case first =>
    go_wp2_with fail
    go_loopg [10, 11, 12, 13, 14, 15, 16, 17, 18, 19, 20, 21] 30 (fun q s10 s11 s12 s13 s14 s15 s16 s17 s18 s19 s20 s21 wx => ∃ (i : Nat) (d : Pd) (r : Rp), i + q = 30 ∧ s10 = .int .i64 (i : Int) ∧ Hid (LU w g gx i d r wx))
    case atStart => exact ⟨0, _, _, Nat.zero_add _, rfl, HLI0⟩
    case round =>
      obtain ⟨i, d, r, hiq, rfl, HLI⟩ := hrel
      clear HLI0
      by_cases hin : i < L.length ∧ i < 30
      · obtain ⟨hil, hi30⟩ := hin
        obtain ⟨q0, rfl⟩ : ∃ q0, gk = q0 + 1 := ⟨gk - 1, by omega⟩
        have hil' : (i : Int) < (L.length : Int) := by omega
        have hi30' : (i : Int) < 30 := by omega
        obtain ⟨x, hx⟩ : ∃ x, L[i]? = some x := ⟨_, List.getElem?_eq_getElem hil⟩
        obtain ⟨ad, rfl⟩ : ∃ ad, A = some ad := by
          cases A with
          | none => have := HL.out.2.2.1 rfl; omega
          | some ad => exact ⟨ad, rfl⟩
        obtain ⟨kc0, kc1, ⟨hn1, hn2⟩, AB, cB, kc2, hrb⟩ := grew_heap HL.out HLI.out.us.gr rfl hx
        obtain ⟨kd, hkd⟩ : ∃ kd, x.kind = kd := ⟨_, rfl⟩
        rw [hkd] at kc0
        clear hkd
        have HRB := Lib.hid hrb
        have HN2 := Lib.hid hn2
        have hwi : IntKind.i64.wrap ((i : Int) + 1) = (i : Int) + 1 := IntWalk.i64_in _ (by omega)
        have hbl : x.b.length ≤ 9223372036854775807 := by
          obtain ⟨_, _, he, h1, h2, _⟩ := hrb
          unfold maxLen at h2
          omega
        clear hx hil hi30 hrb hn1 hn2
        by_cases hlong : 2000 < x.b.length
        · have hlong' : (2000 : Int) < (x.b.length : Int) := by omega
          clear hlong
          go_wp2
          go_roundg q0
          case measure => omega
          case rel => exact ⟨i + 1, d, r, by omega, by first | rfl | simp, Lib.hid ((HLI.out.grew (grew_new _)).more (by omega))⟩
        · have hlong' : ¬ (2000 : Int) < (x.b.length : Int) := by omega
          clear hlong
          go_upto_block 2 with fail
          have HDX : Hid ((wr.alloc (.cells #[.int .i64 kd, .int .i64 x.n, .slice AB x.b.length cB] 76)).heap[wr.heap.size]? = some (.cells #[.int .i64 kd, .int .i64 x.n, .slice AB x.b.length cB] 76 (0, 0))) := Lib.hid (heap_alloc_new wr _)
          have HLI1 := Lib.hid (HLI.out.grew (grew_new (w := wr) (.cells #[.int .i64 kd, .int .i64 x.n, .slice AB x.b.length cB] 76)))
          have HGD : Hid (w.heap.size ≤ wr.heap.size) := Lib.hid HLI.out.us.gr.size
          clear HLI kc0 kc1 kc2
          generalize wr.alloc (.cells #[.int .i64 kd, .int .i64 x.n, .slice AB x.b.length cB] 76) = w7 at *
          generalize wr.heap.size = gd at *
          have HRB7 := Lib.hid (HRB.out.grew HLI1.out.us.gr)
          have HI : Hid (i ≤ 30) := Lib.hid (by omega)
          go_cut [12, 13] (fun s12 s13 wx => ∃ (d : Pd) (r : Rp) (q : Int), s12 = .int .i64 q ∧ s13 = .int .i64 q ∧ Hid (LU w g gx (i + 1) d r wx) ∧ Hid (∃ C, wx.heap[gd]? = some (.cells C 76 (0, 0))))
          case first =>
            obtain ⟨dc0, dc1, dc2⟩ := dx_cells HDX.out
            have HWT := Lib.hid (HLI1.out.waits (by have := HI.out; omega))
            have HR7 : Hid (r.now.length = 7) := Lib.hid HLI1.out.len
            by_cases k0 : kd = 0
            · as_aux_lemma =>
                subst k0
                rcases hap : nextA d first many x.b with ⟨d', q⟩
                rcases hbp : nextB r first many x.b with ⟨r', q'⟩
                have hst := nextA_sim HLI1.out.sim first many x.b
                rw [hap, hbp] at hst
                obtain ⟨rfl, hs2⟩ := hst
                have HAPP := Lib.hid (us_call HLI1.out.us HRB7.out HDX.out HGD.out (R := fun e _ => e = .returned (.int .i64 q)) (d' := d') fun V hin hds => ds_nextA hds first many _ x.b hin (by have := HWT.out.2; omega) d' q hap)
                have HST : Hid (Sim d' r' ∧ r'.now.length = 7 ∧ r'.waits.length ≤ 20 * (i + 1)) := Lib.hid (by
                  have h := nextB_now r first many x.b
                  rw [hbp, HR7.out] at h
                  have := HLI1.out.wt
                  exact ⟨hs2, h.1, by have := h.2; simp only at this; omega⟩)
                have HBP := Lib.hid hbp
                clear hap hbp hs2
                go_wp2_with fail
                refine HAPP.out.mono ?_
                rintro e w8 ⟨rfl, hus, hdx⟩
                have HUS8 := Lib.hid hus
                have HDX8 := Lib.hid hdx
                clear dc0 dc1 dc2 HAPP
                obtain ⟨dc0, dc1, dc2⟩ := dx_cells HDX8.out
                have HRB8 := Lib.hid (HRB.out.grew hus.gr)
                obtain ⟨A1, A2, A3, c1, c2, c3, hrd, hld, _⟩ := hus.bx.load
                have HL1 := Lib.hid hld
                have HRA := Lib.hid (rnextB r _ w8 hrd first many AB cB x.b HLI1.out.ev (by rw [HR7.out]; omega) _ HRB8.out (by have := HWT.out.1; omega) r' q HBP.out)
                clear hus hdx hrd hld
                go_wp2_with (refine DArm.wpList_load (by rfl) 49 (.tmp 9) (by with_reducible rfl) _ _ (by rfl) HL1.out ?_)
                refine HRA.out.mono ?_
                rintro e w9 ⟨v9, rfl, hrd9, hg9⟩
                obtain ⟨za, hsa, husa, hka⟩ := us_put (HUS8.out.grew hg9) hrd9
                have HSA := Lib.hid hsa
                have HDZ : Hid (∃ C, za.heap[gd]? = some (.cells C 76 (0, 0))) := Lib.hid ⟨_, other hka (DWrite.keepB HDX8.out hg9) (fun e => by
                  obtain ⟨_, _, _, _, _, _, _, q2⟩ := (HUS8.out.grew hg9).bx
                  rw [← e, DWrite.keepB HDX8.out hg9] at q2
                  cases q2)⟩
                have HLI2 : Hid (LU w g gx (i + 1) d' r' za) := Lib.hid ⟨husa, HST.out.1, HST.out.2.1, HST.out.2.2⟩
                clear hrd9 hg9 hsa husa hka HRA HL1 HUS8 dc0 dc1 dc2 HDX8
                go_wp2_with (refine DArm.wpList_store (by rfl) 49 (.tmp 9) (.tmp 83) (by with_reducible rfl) _ _ (by rfl) (by rfl) _ HSA.out ?_)
                go_meet
                case rel => exact ⟨_, _, q, rfl, rfl, HLI2, HDZ⟩
            by_cases k1 : kd = 1
            · as_aux_lemma =>
                subst k1
                clear k0
                rcases hap : beginA d first many x.b with ⟨d', q⟩
                rcases hbp : beginB r first many x.b with ⟨r', q'⟩
                have hst := beginA_sim HLI1.out.sim first many x.b
                rw [hap, hbp] at hst
                obtain ⟨rfl, hs2⟩ := hst
                have HAPP := Lib.hid (us_call HLI1.out.us HRB7.out HDX.out HGD.out (R := fun e _ => e = .returned (.int .i64 q)) (d' := d') fun V hin hds => ds_beginA hds first many _ x.b hin (by have := HWT.out.2; omega) d' q hap)
                have HST : Hid (Sim d' r' ∧ r'.now.length = 7 ∧ r'.waits.length ≤ 20 * (i + 1)) := Lib.hid (by
                  have h := beginB_now r first many x.b
                  rw [hbp, HR7.out] at h
                  have := HLI1.out.wt
                  exact ⟨hs2, h.1, by have := h.2; simp only at this; omega⟩)
                have HBP := Lib.hid hbp
                clear hap hbp hs2
                go_wp2_with fail
                refine HAPP.out.mono ?_
                rintro e w8 ⟨rfl, hus, hdx⟩
                have HUS8 := Lib.hid hus
                have HDX8 := Lib.hid hdx
                clear dc0 dc1 dc2 HAPP
                obtain ⟨dc0, dc1, dc2⟩ := dx_cells HDX8.out
                have HRB8 := Lib.hid (HRB.out.grew hus.gr)
                obtain ⟨A1, A2, A3, c1, c2, c3, hrd, hld, _⟩ := hus.bx.load
                have HL1 := Lib.hid hld
                have HRA := Lib.hid (rbeginB r _ w8 hrd first many AB cB x.b (by rw [HR7.out]; omega) _ HRB8.out (by have := HWT.out.1; omega) r' q HBP.out)
                clear hus hdx hrd hld
                go_wp2_with (refine DArm.wpList_load (by rfl) 49 (.tmp 9) (by with_reducible rfl) _ _ (by rfl) HL1.out ?_)
                refine HRA.out.mono ?_
                rintro e w9 ⟨v9, rfl, hrd9, hg9⟩
                obtain ⟨za, hsa, husa, hka⟩ := us_put (HUS8.out.grew hg9) hrd9
                have HSA := Lib.hid hsa
                have HDZ : Hid (∃ C, za.heap[gd]? = some (.cells C 76 (0, 0))) := Lib.hid ⟨_, other hka (DWrite.keepB HDX8.out hg9) (fun e => by
                  obtain ⟨_, _, _, _, _, _, _, q2⟩ := (HUS8.out.grew hg9).bx
                  rw [← e, DWrite.keepB HDX8.out hg9] at q2
                  cases q2)⟩
                have HLI2 : Hid (LU w g gx (i + 1) d' r' za) := Lib.hid ⟨husa, HST.out.1, HST.out.2.1, HST.out.2.2⟩
                clear hrd9 hg9 hsa husa hka HRA HL1 HUS8 dc0 dc1 dc2 HDX8
                go_wp2_with (refine DArm.wpList_store (by rfl) 49 (.tmp 9) (.tmp 100) (by with_reducible rfl) _ _ (by rfl) (by rfl) _ HSA.out ?_)
                go_meet
                case rel => exact ⟨_, _, q, rfl, rfl, HLI2, HDZ⟩
            by_cases k2 : kd = 2
            · as_aux_lemma =>
                subst k2
                clear k0 k1
                have hdummy := True.intro
                have HAPP := Lib.hid (us_call HLI1.out.us HRB7.out HDX.out HGD.out (R := fun e _ => e = .returned (.int .i64 0)) (d' := DFlush.crashed d x.b) fun V hin hds => ds_crash _ _ _ _ _ hds _ _ x.b _ (by have := HWT.out.2; omega) HRB.out (fun b hb => hb) rfl)
                have HST : Hid (Sim (DFlush.crashed d x.b) (rcrash r x.b) ∧ (rcrash r x.b).now.length = 7 ∧ (rcrash r x.b).waits.length ≤ 20 * (i + 1)) := Lib.hid ⟨HLI1.out.sim.crashed x.b, by rw [(HLI1.out.sim.crashed x.b).len, crashed_len, ← HLI1.out.sim.len, HR7.out], Nat.zero_le _⟩
                have HS7 : Hid (r.safe.length = 7) := Lib.hid (by rw [HLI1.out.sim.safe, ← HLI1.out.sim.len, HR7.out])
                clear hdummy
                go_wp2_with fail
                refine HAPP.out.mono ?_
                rintro e w8 ⟨rfl, hus, hdx⟩
                have HUS8 := Lib.hid hus
                have HDX8 := Lib.hid hdx
                clear dc0 dc1 dc2 HAPP
                obtain ⟨dc0, dc1, dc2⟩ := dx_cells HDX8.out
                have HRB8 := Lib.hid (HRB.out.grew hus.gr)
                obtain ⟨A1, A2, A3, c1, c2, c3, hrd, hld, _⟩ := hus.bx.load
                have HL1 := Lib.hid hld
                have HRA := Lib.hid (DRefE.rcrash_any r _ _ _ x.b w8 hrd HRB8.out (by rw [HLI1.out.sim.safe]; exact HLI1.out.sim.even) (by rw [HLI1.out.sim.safe, HLI1.out.sim.waits]; exact HLI1.out.sim.fit) (by rw [HS7.out]; omega) (by rw [HS7.out]; omega) (by have := HWT.out.1; omega))
                clear hus hdx hrd hld
                go_wp2_with (refine DArm.wpList_load (by rfl) 49 (.tmp 9) (by with_reducible rfl) _ _ (by rfl) HL1.out ?_)
                refine HRA.out.mono ?_
                rintro e w9 ⟨v9, rfl, hrd9, hg9⟩
                obtain ⟨za, hsa, husa, hka⟩ := us_put (HUS8.out.grew hg9) hrd9
                have HSA := Lib.hid hsa
                have HDZ : Hid (∃ C, za.heap[gd]? = some (.cells C 76 (0, 0))) := Lib.hid ⟨_, other hka (DWrite.keepB HDX8.out hg9) (fun e => by
                  obtain ⟨_, _, _, _, _, _, _, q2⟩ := (HUS8.out.grew hg9).bx
                  rw [← e, DWrite.keepB HDX8.out hg9] at q2
                  cases q2)⟩
                have HLI2 : Hid (LU w g gx (i + 1) (DFlush.crashed d x.b) (rcrash r x.b) za) := Lib.hid ⟨husa, HST.out.1, HST.out.2.1, HST.out.2.2⟩
                clear hrd9 hg9 hsa husa hka HRA HL1 HUS8 dc0 dc1 dc2 HDX8
                go_wp2_with (refine DArm.wpList_store (by rfl) 49 (.tmp 9) (.tmp 111) (by with_reducible rfl) _ _ (by rfl) (by rfl) _ HSA.out ?_)
                go_meet
                case rel => exact ⟨_, _, 0, rfl, rfl, HLI2, HDZ⟩
            by_cases k3 : kd = 3
            · as_aux_lemma =>
                subst k3
                clear k0 k1 k2
                have hdummy := True.intro
                have HAPP := Lib.hid (us_call HLI1.out.us HRB7.out HDX.out HGD.out (R := fun e _ => e = .returned (.tuple #[])) (d' := DTurn.fused d x.n) fun V hin hds => ds_fuse _ _ _ _ _ hds x.n _ HN2.out rfl)
                have HST : Hid (Sim (DTurn.fused d x.n) (rfus r x.n) ∧ (rfus r x.n).now.length = 7 ∧ (rfus r x.n).waits.length ≤ 20 * (i + 1)) := Lib.hid ⟨HLI1.out.sim.fused x.n HN2.out, HR7.out, (HLI1.out.more (Nat.le_succ i)).wt⟩
                clear hdummy
                go_wp2_with fail
                refine HAPP.out.mono ?_
                rintro e w8 ⟨rfl, hus, hdx⟩
                have HUS8 := Lib.hid hus
                have HDX8 := Lib.hid hdx
                clear dc0 dc1 dc2 HAPP
                obtain ⟨dc0, dc1, dc2⟩ := dx_cells HDX8.out
                have HRB8 := Lib.hid (HRB.out.grew hus.gr)
                obtain ⟨A1, A2, A3, c1, c2, c3, hrd, hld, _⟩ := hus.bx.load
                have HL1 := Lib.hid hld
                have HRA := Lib.hid (rfuse_any r _ x.n w8 hrd HN2.out)
                clear hus hdx hrd hld
                go_wp2_with (refine DArm.wpList_load (by rfl) 49 (.tmp 9) (by with_reducible rfl) _ _ (by rfl) HL1.out ?_)
                refine HRA.out.mono ?_
                rintro e w9 ⟨v9, rfl, hrd9, hg9⟩
                obtain ⟨za, hsa, husa, hka⟩ := us_put (HUS8.out.grew hg9) hrd9
                have HSA := Lib.hid hsa
                have HDZ : Hid (∃ C, za.heap[gd]? = some (.cells C 76 (0, 0))) := Lib.hid ⟨_, other hka (DWrite.keepB HDX8.out hg9) (fun e => by
                  obtain ⟨_, _, _, _, _, _, _, q2⟩ := (HUS8.out.grew hg9).bx
                  rw [← e, DWrite.keepB HDX8.out hg9] at q2
                  cases q2)⟩
                have HLI2 : Hid (LU w g gx (i + 1) (DTurn.fused d x.n) (rfus r x.n) za) := Lib.hid ⟨husa, HST.out.1, HST.out.2.1, HST.out.2.2⟩
                clear hrd9 hg9 hsa husa hka HRA HL1 HUS8 dc0 dc1 dc2 HDX8
                go_wp2_with (refine DArm.wpList_store (by rfl) 49 (.tmp 9) (.tmp 121) (by with_reducible rfl) _ _ (by rfl) (by rfl) _ HSA.out ?_)
                go_meet
                case rel => exact ⟨_, _, 0, rfl, rfl, HLI2, HDZ⟩
            · as_aux_lemma =>
                have b0 : (kd == 0) = false := by simpa using k0
                have b1 : (kd == 1) = false := by simpa using k1
                have b2 : (kd == 2) = false := by simpa using k2
                have b3 : (kd == 3) = false := by simpa using k3
                rcases hap : DWrite.written d x.n x.b with ⟨d', q⟩
                rcases hbp : rwritten r x.n x.b with ⟨r', q'⟩
                have hst := HLI1.out.sim.written x.n x.b
                rw [hap, hbp] at hst
                obtain ⟨rfl, hs2⟩ := hst
                have HAPP := Lib.hid (us_call HLI1.out.us HRB7.out HDX.out HGD.out (R := fun e _ => e = .returned (.int .i64 q)) (d' := d') fun V hin hds => ds_write _ _ _ _ _ hds x.n _ _ x.b d' q HRB7.out (by have := HWT.out.2; omega) hap)
                have HST : Hid (Sim d' r' ∧ r'.now.length = 7 ∧ r'.waits.length ≤ 20 * (i + 1)) := Lib.hid (by
                  have h1 := rwritten_now r x.n x.b
                  have h2 := rwritten_waits r x.n x.b
                  rw [hbp] at h1 h2
                  have := HLI1.out.wt
                  exact ⟨hs2, h1.trans HR7.out, by simp only at h2; omega⟩)
                have HBP := Lib.hid hbp
                clear hap hbp hs2
                go_wp2_with fail
                refine HAPP.out.mono ?_
                rintro e w8 ⟨rfl, hus, hdx⟩
                have HUS8 := Lib.hid hus
                have HDX8 := Lib.hid hdx
                clear dc0 dc1 dc2 HAPP
                obtain ⟨dc0, dc1, dc2⟩ := dx_cells HDX8.out
                have HRB8 := Lib.hid (HRB.out.grew hus.gr)
                obtain ⟨A1, A2, A3, c1, c2, c3, hrd, hld, _⟩ := hus.bx.load
                have HL1 := Lib.hid hld
                have HRA := Lib.hid (rwrite_eq r _ _ x.n _ x.b w8 r' q hrd HRB8.out (by rw [HR7.out]; omega) (by have := HWT.out.1; omega) HBP.out)
                clear hus hdx hrd hld
                go_wp2_with (refine DArm.wpList_load (by rfl) 49 (.tmp 9) (by with_reducible rfl) _ _ (by rfl) HL1.out ?_)
                refine HRA.out.mono ?_
                rintro e w9 ⟨v9, rfl, hrd9, hg9⟩
                obtain ⟨za, hsa, husa, hka⟩ := us_put (HUS8.out.grew hg9) hrd9
                have HSA := Lib.hid hsa
                have HDZ : Hid (∃ C, za.heap[gd]? = some (.cells C 76 (0, 0))) := Lib.hid ⟨_, other hka (DWrite.keepB HDX8.out hg9) (fun e => by
                  obtain ⟨_, _, _, _, _, _, _, q2⟩ := (HUS8.out.grew hg9).bx
                  rw [← e, DWrite.keepB HDX8.out hg9] at q2
                  cases q2)⟩
                have HLI2 : Hid (LU w g gx (i + 1) d' r' za) := Lib.hid ⟨husa, HST.out.1, HST.out.2.1, HST.out.2.2⟩
                clear hrd9 hg9 hsa husa hka HRA HL1 HUS8 dc0 dc1 dc2 HDX8
                go_wp2_with (refine DArm.wpList_store (by rfl) 49 (.tmp 9) (.tmp 66) (by with_reducible rfl) _ _ (by rfl) (by rfl) _ HSA.out ?_)
                go_meet
                case rel => exact ⟨_, _, q, rfl, rfl, HLI2, HDZ⟩
          case rest =>
            as_aux_lemma =>
              obtain ⟨d2, r2, q2, rfl, rfl, HLI2, HCC⟩ := hcut
              clear HLI1 HDX HRB7 HRB HN2
              obtain ⟨C, hC⟩ := HCC.out
              rcases hla : lastA d2 first many with ⟨a, s, b, qn⟩
              have hlb := lastA_sim HLI2.out.sim first many
              rw [hla] at hlb
              have HLB := Lib.hid hlb.symm
              have HAPP := Lib.hid (us_call HLI2.out.us (Rd.nil _ _) hC HGD.out (R := fun e z => ∃ v, e = .returned (.tuple #[.int .i64 (a : Int), .int .u64 (s : Int), v, .int .i64 qn]) ∧ Rd (fun _ => True) z v b) (d' := d2) fun V hin hds => ds_lastA hds first many a s b qn hla)
              clear hla hlb hC HCC
              go_wp2_with fail
              refine HAPP.out.mono ?_
              rintro e w8 ⟨⟨v1, rfl, hr1⟩, hus, _⟩
              obtain ⟨AV1, cv1, rfl, _⟩ := id hr1
              have HR1 := Lib.hid hr1
              have HLI3 : Hid (LU w g gx (i + 1) d2 r2 w8) := Lib.hid ⟨hus, HLI2.out.sim, HLI2.out.len, HLI2.out.wt⟩
              clear hr1 hus HAPP HLI2
              obtain ⟨A1, A2, A3, c1, c2, c3, hrd, hld, _⟩ := HLI3.out.us.bx.load
              have HL1 := Lib.hid hld
              have HRA := Lib.hid (rlastB r2 _ w8 hrd first many HLI3.out.ev (by rw [HLI3.out.len]; omega) a s b qn HLB.out)
              clear hrd hld
              go_wp2_with (refine DArm.wpList_load (by rfl) 49 (.tmp 9) (by with_reducible rfl) _ _ (by rfl) HL1.out ?_)
              refine HRA.out.mono ?_
              rintro e w9 ⟨v2, rfl, hr2, hg9⟩
              obtain ⟨AV2, cv2, rfl, _⟩ := id hr2
              have HLI4 := Lib.hid (HLI3.out.grew hg9)
              have kx := Nums.conv22 (HR1.out.grew hg9)
              have ky := Nums.conv22 hr2
              have n0 : (q2 != q2) = false := by simp
              have n1 : (qn != qn) = false := by simp
              have n2 : ((a : Int) != (a : Int)) = false := by simp
              have n3 : ((s : Int) != (s : Int)) = false := by simp
              have n4 : (b != b) = false := by simp
              clear hr2 hg9 HRA HL1 HR1 HLI3 HLB
              go_wp2
              go_roundg q0
              case measure => omega
              case rel => exact ⟨i + 1, d2, r2, by omega, by first | rfl | simp, HLI4⟩
      · have HLI3 := Lib.hid (HLI.out.more (show i ≤ 30 by omega))
        by_cases h30 : i < 30
        · have hil : ¬ (i : Int) < (L.length : Int) := by omega
          clear hin h30
          go_wp2_with fail
          go_meet
          case rel => exact ⟨d, r, HLI3⟩
        · have h30' : ¬ (i : Int) < 30 := by omega
          clear hin h30
          by_cases hil : (i : Int) < (L.length : Int)
          · go_wp2_with fail
            go_meet
            case rel => exact ⟨d, r, HLI3⟩
          · go_wp2_with fail
            go_meet
            case rel => exact ⟨d, r, HLI3⟩
end Go.Proofs.Ytbnicphegbdfnaa.QV
