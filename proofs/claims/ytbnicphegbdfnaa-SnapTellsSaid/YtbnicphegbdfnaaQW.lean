/-
  The document's Write: an area is filled.
  Conditions: those that each lemma names.
-/
import Derived.Test.YtbnicphegbdfnaaQR
import Derived.Test.YtbnicphegbdfnaaRJ
namespace Go.Proofs.Ytbnicphegbdfnaa.QW
set_option maxRecDepth 100000
open Go Go.RowKit Go.Proofs.Ytbnicphegbdfnaa Go.Proofs.Ytbnicphegbdfnaa.Facts Go.Proofs.Ytbnicphegbdfnaa.Bytes Go.Proofs.Ytbnicphegbdfnaa.DKeep Go.Proofs.Ytbnicphegbdfnaa.DSmall Go.Proofs.Ytbnicphegbdfnaa.Puts Go.Proofs.Ytbnicphegbdfnaa.Refs Go.Proofs.Ytbnicphegbdfnaa.Scan Go.Proofs.Ytbnicphegbdfnaa.SPure Go.Proofs.Ytbnicphegbdfnaa.SSeal Go.Proofs.Ytbnicphegbdfnaa.JA Go.Proofs.Ytbnicphegbdfnaa.JB Go.Proofs.Ytbnicphegbdfnaa.JC Go.Proofs.Ytbnicphegbdfnaa.JD Go.Proofs.Ytbnicphegbdfnaa.JE Go.Proofs.Ytbnicphegbdfnaa.JF Go.Proofs.Ytbnicphegbdfnaa.DRefA Go.Proofs.Ytbnicphegbdfnaa.DRefB Go.Proofs.Ytbnicphegbdfnaa.DRefC Go.Proofs.Ytbnicphegbdfnaa.DSim Go.Proofs.Ytbnicphegbdfnaa.DRefD Go.Proofs.Ytbnicphegbdfnaa.DLawA Go.Proofs.Ytbnicphegbdfnaa.AP Go.Proofs.Ytbnicphegbdfnaa.AQ Go.Proofs.Ytbnicphegbdfnaa.RA Go.Proofs.Ytbnicphegbdfnaa.RB Go.Proofs.Ytbnicphegbdfnaa.RE Go.Proofs.Ytbnicphegbdfnaa.RF Go.Proofs.Ytbnicphegbdfnaa.RG Go.Proofs.Ytbnicphegbdfnaa.RH Go.Proofs.Ytbnicphegbdfnaa.QA Go.Proofs.Ytbnicphegbdfnaa.QN

/-- An area is filled, m sectors, from the k-th on. -/
def rgw (first st : Nat) (all : List UInt8) : Nat → Nat → Rp → Rp × Int
  | 0, _, r => (r, 0)
  | m + 1, k, r =>
    let q := rwritten r ((first + k : Nat) : Int) (sealed st ((all.drop (108 * k)).take 108))
    if q.2 = 0 then rgw first st all m (k + 1) q.1 else q
theorem rgw_sim (first st : Nat) (b : List UInt8) (each : Nat) (hb : b.length + 4 ≤ 108 * each) : ∀ (m k : Nat) (d : Pd) (r : Rp), k + m = each → Sim d r →
    (gw first (fun _ => st) m k ((recB b).drop (108 * k)) d).2 = (rgw first st (place each b) m k r).2 ∧ Sim (gw first (fun _ => st) m k ((recB b).drop (108 * k)) d).1 (rgw first st (place each b) m k r).1
  | 0, k, d, r, _, h => ⟨rfl, h⟩
  | m + 1, k, d, r, hk, h => by
    rw [gw, rgw]
    have hs : sealed st (((place each b).drop (108 * k)).take 108) = sealed st (((recB b).drop (108 * k)).take 108) := by
      unfold place
      rw [chunk _ _ _ (by rw [RA.recB_length]; omega)]
      exact sealed_pad _ _ _ (by rw [List.length_take]; omega)
    rw [hs]
    obtain ⟨h1, h2⟩ := h.written ((first + k : Nat) : Int) (sealed st (((recB b).drop (108 * k)).take 108))
    try simp only
    rw [h1]
    split
    · have := rgw_sim first st b each hb m (k + 1) _ _ (by omega) h2
      rw [List.drop_drop, show 108 * k + 108 = 108 * (k + 1) by omega]
      exact this
    · exact ⟨h1, h2⟩
/-- The document's disk in a box of a call's own, its result in another one. -/
structure WQ (w : World) (BP BR : Nat) (r : Rp) (y : World) : Prop where
  bx : BX y BP r
  rs : AnyC y BR 49
  gr : Grew w y
  lp : w.heap.size ≤ BP
  lr : w.heap.size ≤ BR
  ne : BP ≠ BR
section
variable {w y z : World} {BP BR : Nat} {r r' : Rp}
theorem anyc_grew {t : TypeId} (h : AnyC y BR t) (hg : Grew y z) : AnyC z BR t := by
  obtain ⟨C, h1, h2⟩ := h
  exact ⟨C, DWrite.keepB h1 hg, h2⟩
theorem WQ.grew (h : WQ w BP BR r y) (hg : Grew y z) : WQ w BP BR r z := ⟨h.bx.grew hg, anyc_grew h.rs hg, h.gr.trans hg, h.lp, h.lr, h.ne⟩
theorem WQ.put (h : WQ w BP BR r y) {v : Value} (hr : RD y v r') : ∃ z, (Instr.storeAt 49 (.pointer (some ⟨BP, 0, none⟩)) v).run Try.prog y = .ok () z ∧ WQ w BP BR r' z ∧ Kept (fun k => k = BP) y z := by
  obtain ⟨A1, A2, A3, c1, c2, c3, q1, q2⟩ := h.bx
  obtain ⟨z, hst, hbx, hk⟩ := box_store q2 rfl hr
  obtain ⟨C, h1, h2⟩ := h.rs
  exact ⟨z, hst, ⟨hbx, ⟨C, other hk h1 (Ne.symm h.ne), h2⟩, DAlive.grew_kept h.gr hk fun k hk => by rw [hk]; exact h.lp, h.lp, h.lr, h.ne⟩, hk⟩
/-- What is handed over. -/
structure FQ (w : World) (BP BR : Nat) (r : Rp) (y : World) (A1 A2 A3 : Option Addr) (c1 c2 c3 : Nat) (z : World) : Prop where
  ld : (Instr.loadAt 49 (.pointer (some ⟨BP, 0, none⟩))).run Try.prog y = .ok (dv A1 A2 A3 r.now.length r.safe.length r.waits.length c1 c2 c3 r.fuse r.off) y
  st : (Instr.storeAt 49 (.pointer (some ⟨BR, 0, none⟩)) (dv A1 A2 A3 r.now.length r.safe.length r.waits.length c1 c2 c3 r.fuse r.off)).run Try.prog y = .ok () z
  bl : z.heap[BR]? = some (.cells (d5 A1 A2 A3 r.now.length r.safe.length r.waits.length c1 c2 c3 r.fuse r.off).toArray 49 (0, 0))
  rd : RD z (dv A1 A2 A3 r.now.length r.safe.length r.waits.length c1 c2 c3 r.fuse r.off) r
  gr : Grew w z
theorem WQ.fin (h : WQ w BP BR r y) : ∃ A1 A2 A3 c1 c2 c3 z, FQ w BP BR r y A1 A2 A3 c1 c2 c3 z := by
  obtain ⟨A1, A2, A3, c1, c2, c3, hrd, hld, _⟩ := h.bx.load
  obtain ⟨C, h1, h2⟩ := h.rs
  have hk : Kept (fun k => k = BR) y (y.setRow BR (d5 A1 A2 A3 r.now.length r.safe.length r.waits.length c1 c2 c3 r.fuse r.off).toArray) := ⟨rfl, rfl, rfl, by simp, fun j _ hj => setRow_other y BR j _ (by omega)⟩
  exact ⟨A1, A2, A3, c1, c2, c3, _, hld, store5 y BR C h1 h2 A1 A2 A3 _ _ _ c1 c2 c3 _ _, setRow_heap y BR _ _ _ _ h1, RD.kept hrd hk (fun k cur e fz hd hh => by
    subst hd
    rw [h1] at hh
    cases hh
    exact ⟨by decide, by decide⟩), DAlive.grew_kept h.gr hk fun k hk => by rw [hk]; exact h.lr⟩
theorem FQ.res {A1 A2 A3 : Option Addr} {c1 c2 c3 : Nat} (h : FQ w BP BR r y A1 A2 A3 c1 c2 c3 z) : (loadVar 49 ⟨BR, 0, none⟩).run Try.prog z = .ok (.agg (d5 A1 A2 A3 r.now.length r.safe.length r.waits.length c1 c2 c3 r.fuse r.off).toArray) z :=
  run_loadVar_mid (P := Try.prog) z BR 0 49 (d5 A1 A2 A3 r.now.length r.safe.length r.waits.length c1 c2 c3 r.fuse r.off) _ (fun j v hv => by rw [cell_of_row _ _ _ _ _ _ h.bl, Nat.zero_add]; first | exact hv | simpa [d5] using hv) Try.underlying49 rfl size32
theorem WQ.start {A1 A2 A3 : Option Addr} {c1 c2 c3 : Nat} (h : RD w (dv A1 A2 A3 r.now.length r.safe.length r.waits.length c1 c2 c3 r.fuse r.off) r) : WQ w w.heap.size (w.heap.size + 1) r ((w.alloc (.cells (d5 A1 A2 A3 r.now.length r.safe.length r.waits.length c1 c2 c3 r.fuse r.off).toArray 49)).alloc (.cells #[.slice none 0 0, .slice none 0 0, .slice none 0 0, .int .i64 0, .bool false] 49)) := by
  have g0 : Grew w ((w.alloc (.cells (d5 A1 A2 A3 r.now.length r.safe.length r.waits.length c1 c2 c3 r.fuse r.off).toArray 49)).alloc (.cells #[.slice none 0 0, .slice none 0 0, .slice none 0 0, .int .i64 0, .bool false] 49)) := (grew_new (w := w) _).trans (grew_new _)
  exact ⟨⟨A1, A2, A3, c1, c2, c3, h.grew g0, heapA w _ _⟩, ⟨_, heapB w _ _, rfl⟩, g0, Nat.le_refl _, Nat.le_succ _, by omega⟩
end
/-- What a call that answers a disk and an error leaves. -/
def ANS (w : World) (r : Rp) (q : Int) (e : Ending) (y : World) : Prop := ∃ v', e = .returned (.tuple #[v', .int .i64 q]) ∧ RD y v' r ∧ Grew w y
set_option maxHeartbeats 8000000 in
theorem write_any (r : Rp) (v : Value) (w : World) (hrd : RD w v r) (first m st : Nat) (x2 x3 : Int) (hx2 : x2 = (m : Int)) (hx3 : x3 = (st : Int)) (A : Option Addr) (c : Nat) (b : List UInt8) (S : Nat → Prop) (hb : Rd S w (.slice A b.length c) b) (hn : r.now.length ≤ 16384) (hq : aref r.now.length r.off (first : Int) (m : Int) = 0) (hs : may st = true) (hl : b.length + 4 ≤ 108 * m) (hw : r.waits.length ≤ 1000000000) :
    Calls Try.prog 80 #[v, .int .i64 (first : Int), .int .i64 x2, .int .u64 x3, .slice A b.length c] w fun e y => ANS w (rgw first st (place m b) m 0 r).1 (rgw first st (place m b) m 0 r).2 e y := by
  subst hx2 hx3
  obtain ⟨⟨A1, A2, A3, c1, c2, c3, rfl, _⟩, _⟩ := id hrd
  have hfit : first + m ≤ r.now.length ∧ 1 ≤ m := by
    unfold aref at hq
    split at hq
    · omega
    · omega
  obtain ⟨A', c', e', qq1, qq2, q3, q4⟩ := id hb
  injection e' with e1 _ e2
  subst e1 e2
  have HRB := Lib.hid hb
  have HQ := Lib.hid q4
  have HL3 := Lib.hid q3
  have HWQ := Lib.hid (WQ.start hrd)
  have HAB : Hid (∀ A1 A2 A3 c1 c2 c3 W, Calls Try.prog 117 #[dv A1 A2 A3 r.now.length r.safe.length r.waits.length c1 c2 c3 r.fuse r.off, .int .i64 (first : Int), .int .i64 (m : Int)] W fun e w' => e = .returned (.int .i64 0) ∧ Grew W w') := Lib.hid fun A1 A2 A3 c1 c2 c3 W => by
    have h := aable_any A1 A2 A3 r.now.length r.safe.length r.waits.length c1 c2 c3 r.fuse r.off (first : Int) (m : Int) W hn
    rwa [hq] at h
  have HF := Lib.hid hfit
  have HN := Lib.hid hn
  have HMAY := Lib.hid hs
  have hmay := (may_iff st).1 hs
  have st1 : ¬ (st : Int) < 1 := by omega
  have st2 : ¬ (4611686018427387904 : Int) < (st : Int) := by omega
  obtain ⟨M, hM⟩ : ∃ M, 108 * m = M := ⟨_, rfl⟩
  have hmi : IntKind.i64.wrap (108 * (m : Int)) = (M : Int) := by rw [IntWalk.i64_in _ (by omega)]; omega
  have hm4 : IntKind.i64.wrap ((M : Int) - 4) = (M : Int) - 4 := IntWalk.i64_in _ (by omega)
  have hbm : b.length + 4 ≤ M := by omega
  have hlong : ¬ (M : Int) - 4 < (b.length : Int) := by omega
  have hm1 : M ≤ 1769472 := by omega
  have hm2 : 108 ≤ M := by omega
  have hpl : place m b = recB b ++ zeros (M - (recB b).length) := by unfold place; rw [hM]
  obtain ⟨X, hX⟩ : ∃ X, rgw first st (place m b) m 0 r = X := ⟨_, rfl⟩
  rw [hX]
  have HX0 := Lib.hid hX
  have HPL := Lib.hid hpl
  have HMM := Lib.hid hM
  obtain ⟨i0, hi, hz0, hz1, hz2⟩ := info_parts info5
  have hmk : ∀ u : World, (Instr.makeSlice 23 (.int .i64 (M : Int)) (.int .i64 (M : Int))).run Try.prog u =
      .ok (.slice (some ⟨u.heap.size, 0, none⟩) M M) (u.alloc (.cells (madeCells #[.int .u8 0] M) 5)) := fun u => by
    have h := run_make (P := Try.prog) u 23 5 i0 (.int .u8 0) Try.underlying23 hi hz0 .i64 .i64 M M (by omega) (by omega) (by rw [hz2]; omega) (by omega)
    simpa [hz1, Value.cells] using h
  have HB4 := Lib.hid (be_length 4 b.length)
  have HBM := Lib.hid hbm
  have HM1 := Lib.hid hm1
  have HM2 := Lib.hid hm2
  have hbu : IntKind.u64.wrap (b.length : Int) = (b.length : Int) := IntWalk.u64_in _ (by omega)
  have HNX0 : Hid (r.now.length = r.now.length) := Lib.hid rfl
  have HWX : Hid (r.waits.length ≤ 1000000000) := Lib.hid hw
  obtain ⟨n0, hn0⟩ : ∃ n0, r.now.length = n0 := ⟨_, rfl⟩
  have HN0 := Lib.hid hn0
  have HN16 : Hid (n0 ≤ 16384) := Lib.hid (by omega)
  have HFN : Hid (first + m ≤ n0) := Lib.hid (by omega)
  clear hb q4 q3 hpl hM hs hl hq hn hrd hX hw hz0 hz1 hz2 hi hmay hn0 hfit
  unfold dv
  go_enter Try.func80, Try.ntmps80
  go_upto_region 1 with fail
  unfold d5 at HWQ
  have HWQ0 : Hid (WQ w w.heap.size (w.heap.size + 1) r ((w.alloc (.cells #[.slice A1 r.now.length c1, .slice A2 r.safe.length c2, .slice A3 r.waits.length c3, .int .i64 r.fuse, .bool r.off] 49)).alloc (.cells #[.slice none 0 0, .slice none 0 0, .slice none 0 0, .int .i64 0, .bool false] 49))) := HWQ
  clear HWQ
  generalize (w.alloc (.cells #[.slice A1 r.now.length c1, .slice A2 r.safe.length c2, .slice A3 r.waits.length c3, .int .i64 r.fuse, .bool r.off] 49)).alloc (.cells #[.slice none 0 0, .slice none 0 0, .slice none 0 0, .int .i64 0, .bool false] 49) = W0 at *
  obtain ⟨BP, hBP⟩ : ∃ BP, w.heap.size = BP := ⟨_, rfl⟩
  rw [hBP] at HWQ0 ⊢
  obtain ⟨BR, hBR⟩ : ∃ BR, BP + 1 = BR := ⟨_, rfl⟩
  rw [hBR] at HWQ0 ⊢
  clear hBP hBR
  obtain ⟨B1, B2, B3, d1, d2, d3, hrd0, hld0, _⟩ := HWQ0.out.bx.load
  have HL1 := Lib.hid hld0
  clear hrd0 hld0
  go_wp2_with (refine DArm.wpList_load (by rfl) 49 (.tmp 5) (by with_reducible rfl) _ _ (by rfl) HL1.out ?_)
  refine (HAB.out B1 B2 B3 d1 d2 d3 W0).mono ?_
  rintro e W1 ⟨rfl, hg1⟩
  have HWQ1 := Lib.hid (HWQ0.out.grew hg1)
  clear hg1 HL1 HAB HWQ0
  go_upto_region 9 with fail
  have HG0 : Hid (Grew W1 (W1.alloc (.cells (madeCells #[.int .u8 0] M) 5))) := Lib.hid ((Below.refl _ W1).alloc (Nat.le_refl _) _)
  have HO0 := Lib.hid (made_at W1 M)
  clear hmk
  generalize W1.alloc (.cells (madeCells #[.int .u8 0] M) 5) = w1 at *
  obtain ⟨BQ, hBQ⟩ : ∃ BQ, W1.heap.size = BQ := ⟨_, rfl⟩
  have HBQ := Lib.hid hBQ
  rw [hBQ] at HO0 ⊢
  clear hBQ
  clear hm4 hlong st1 st2
  go_wp2_with fail
  refine (rnum4 (fun _ => True) _ [] b.length w1 (Rd.nil _ _) (by simp) (by have := HBM.out; have := HM1.out; omega)).mono ?_
  rintro e w2 ⟨v2, rfl, o2, g2⟩
  rw [List.nil_append] at o2
  obtain ⟨g2x, cc2, rfl, hq2⟩ := own_src o2 (by have := HB4.out; omega)
  rw [HB4.out]
  have HQ2 := Lib.hid hq2
  have HO2 : Hid (w2.heap[BQ]? = some (.cells (bv (zeros M)).toArray 5 (0, 0))) := Lib.hid ((g2.block BQ (Array.getElem?_eq_some_iff.1 HO0.out).1).trans HO0.out)
  have HG2 := Lib.hid (HG0.out.trans g2)
  clear o2 g2 hq2 HO0 HG0
  go_wp2_with (with_reducible refine wpList_copy_splice rfl (.tmp 42) (.tmp 46) 23 23 rfl 5 Try.underlying23 Refs.size5 (some ⟨BQ, 0, none⟩) (some ⟨g2x, 0, none⟩) M M 4 cc2 rfl rfl BQ 0 (bv (zeros M)) 5 ?_ (bv (be 4 b.length)) ?_ ?_ ?_ (bv_one _) BQ W1 ?_ (Nat.le_refl _) ?_)
  · exact HO2.out
  · skip
    rw [bv_length, HB4.out]
    exact (Nat.min_eq_left (by have := HM2.out; omega)).symm
  · skip
    intro _ j u hu
    have := HQ2.out j u hu
    rwa [Addr.add_mid, Nat.zero_add] at this
  · rw [bv_length, bv_length, zeros_length, HB4.out]; have := HM2.out; omega
  · have := HG2.out; unfold Grew at this; rwa [HBQ.out] at this
  intro w3 hw3 hb3
  rw [splice_num M _ (by rw [HB4.out]; have := HM2.out; omega)] at hw3
  have HO3 : Hid (w3.heap[BQ]? = some (.cells (bv (be 4 b.length ++ zeros (M - (be 4 b.length).length))).toArray 5 (0, 0))) := hw3
  have HG3 : Hid (Grew W1 w3) := Lib.hid (by unfold Grew; rw [HBQ.out]; exact hb3)
  have hsl : (M : Int) - 4 = ((M - 4 : Nat) : Int) := by have := HM2.out; omega
  clear hw3 hb3 HO2 HQ2
  go_wp2_with (with_reducible refine wpList_copy_splice rfl (.tmp 49) (.tmp 50) 23 23 rfl 5 Try.underlying23 Refs.size5 (some ⟨BQ, 4, none⟩) A (M - 4) (M - 4) b.length c rfl rfl BQ 4 (bv (be 4 b.length ++ zeros (M - (be 4 b.length).length))) 5 ?_ (bv b) ?_ ?_ ?_ (bv_one _) BQ W1 ?_ (Nat.le_refl _) ?_)
  · exact HO3.out
  · skip
    rw [bv_length]
    exact (Nat.min_eq_left (by have := HBM.out; omega)).symm
  · skip
    intro hp
    rw [bv_length] at hp
    cases A with
    | none => have := HL3.out rfl; omega
    | some ad => exact ⟨ad, rfl, fun j u hu => DWrite.cellB (HWQ1.out.gr.trans HG3.out) ((HQ.out ad rfl).2 j u hu)⟩
  · simp only [bv_length, List.length_append, zeros_length]; have := HBM.out; have := HB4.out; omega
  · have := HG3.out; unfold Grew at this; rwa [HBQ.out] at this
  intro w4 hw4 hb4
  rw [splice_four M _ b HB4.out (by have := HBM.out; omega)] at hw4
  have HO4 : Hid (w4.heap[BQ]? = some (.cells (bv (recB b ++ zeros (M - (recB b).length))).toArray 5 (0, 0))) := hw4
  have HG4 : Hid (Grew W1 w4) := Lib.hid (by unfold Grew; rw [HBQ.out]; exact hb4)
  clear hw4 hb4 HO3 HG3 hsl
  have hlen : (recB b ++ zeros (M - (recB b).length)).length = M := by rw [List.length_append, zeros_length, RA.recB_length]; have := HBM.out; omega
  have HRX0 : Hid (Rd (fun k => BQ ≤ k) w4 (.slice (some ⟨BQ, 0, none⟩) M M) (place m b)) := Lib.hid (by
    rw [HPL.out]
    have h2 : w4.ownsRow BQ 5 1 (.slice (some ⟨BQ, 0, none⟩) M M) M (bv (recB b ++ zeros (M - (recB b).length))) :=
      ⟨by rw [bv_length, hlen, Nat.mul_one], .inr ⟨BQ, M, _, rfl, Nat.le_refl _, HO4.out, Nat.le_refl _, by unfold maxLen; have := HM1.out; omega, by simp [bv_length, hlen], by rw [List.take_of_length_le (by simp [bv_length, hlen])]⟩⟩
    exact (Rd.of_own h2 hlen.symm).mono fun k hk => hk.1)
  have HPLL : Hid ((place m b).length = M) := Lib.hid (by rw [HPL.out]; exact hlen)
  have HWQ4 := Lib.hid (HWQ1.out.grew HG4.out)
  have HBPQ : Hid (BP < BQ ∧ BR < BQ) := Lib.hid (by
    obtain ⟨B1, B2, B3, d1, d2, d3, _, hbx⟩ := HWQ1.out.bx
    obtain ⟨C, hC, _⟩ := HWQ1.out.rs
    rw [← HBQ.out]
    exact ⟨(Array.getElem?_eq_some_iff.1 hbx).1, (Array.getElem?_eq_some_iff.1 hC).1⟩)
  clear hlen HO4 HG4 HWQ1 HBQ
  go_wp2_with fail
  go_loopg [12, 14, 15, 16] m (fun q s12 s14 s15 s16 wx => ∃ (k : Nat) (r : Rp), k + q = m ∧ s14 = .int .i64 (k : Int) ∧ s12 = .int .i64 0 ∧ Hid (WQ w BP BR r wx) ∧ Hid (Rd (fun k => BQ ≤ k) wx (.slice (some ⟨BQ, 0, none⟩) M M) (place m b)) ∧ Hid (rgw first st (place m b) q k r = X) ∧ Hid (r.now.length = n0) ∧ Hid (r.waits.length ≤ 1000000000 + k))
  case atStart => exact ⟨0, r, Nat.zero_add _, rfl, rfl, HWQ4, HRX0, HX0, HN0, HWX⟩
  case round =>
    clear HWQ4 HRX0 HX0 HN0 HWX HNX0 HN HF
    obtain ⟨k, r, hkq, rfl, rfl, HWQ, HRX, HXX, HNX, HWX⟩ := hrel
    cases gk with
    | zero =>
      have hke : ¬ (k : Int) < (m : Int) := by omega
      have hX : X = (r, 0) := by have := HXX.out; rw [rgw] at this; exact this.symm
      obtain ⟨B1, B2, B3, d1, d2, d3, z, hfq⟩ := HWQ.out.fin
      have HFQ := Lib.hid hfq
      have l6 := hfq.res
      have HXE := Lib.hid hX
      clear hfq hX HXX HWQ HRX
      go_wp2_with (first
        | refine DArm.wpList_load (by rfl) 49 (.tmp 5) (by with_reducible rfl) _ _ (by rfl) HFQ.out.ld ?_
        | refine DArm.wpList_store (by rfl) 49 (.tmp 10) (.tmp 82) (by with_reducible rfl) _ _ (by rfl) (by rfl) _ HFQ.out.st ?_)
      refine bodyPost_ret (v := .tuple #[dv B1 B2 B3 r.now.length r.safe.length r.waits.length d1 d2 d3 r.fuse r.off, .int .i64 0]) ?_ rfl (by show ANS w X.1 X.2 _ _; rw [HXE.out]; exact ⟨_, rfl, HFQ.out.rd, HFQ.out.gr⟩)
      simp [results, Try.results80]
      simp [asAddr, l6, d5, dv]
    | succ q =>
      have hke : (k : Int) < (m : Int) := by omega
      have hkn : k < m := by omega
      obtain ⟨ix, hix⟩ : ∃ ix, first + k = ix := ⟨_, rfl⟩
      obtain ⟨kk, hkk⟩ : ∃ kk, 108 * k = kk := ⟨_, rfl⟩
      obtain ⟨kl, hkl⟩ : ∃ kl, kk + 108 = kl := ⟨_, rfl⟩
      have hklm : kl ≤ M := by have := HMM.out; omega
      have e2 : IntKind.i64.wrap ((first : Int) + (k : Int)) = (ix : Int) := by rw [IntWalk.i64_in _ (by have := HFN.out; have := HN16.out; omega)]; omega
      have e5 : IntKind.i64.wrap (108 * (k : Int)) = (kk : Int) := by rw [IntWalk.i64_in _ (by have := HFN.out; have := HN16.out; omega)]; omega
      have e6 : IntKind.i64.wrap ((kk : Int) + 108) = (kl : Int) := by rw [IntWalk.i64_in _ (by have := HM1.out; omega)]; omega
      obtain ⟨L1, hL1⟩ : ∃ L1, ((place m b).drop kk).take 108 = L1 := ⟨_, rfl⟩
      have hL2 : L1.length = 108 := by rw [← hL1, List.length_take, List.length_drop, HPLL.out]; omega
      have HSEAL : Hid (Calls Try.prog 70 #[.int .u64 (st : Int), .slice (some ⟨BQ, kk, none⟩) 108 (M - kk)] wr fun e w' => ∃ v', e = .returned (.tuple #[v', .int .i64 0]) ∧ Rd (fun _ => True) w' v' (sealed st L1) ∧ Grew wr w') := Lib.hid (by
        have h1 : Rd (fun k => BQ ≤ k) wr (.slice (some ⟨BQ, 0, none⟩) (place m b).length M) (place m b) := by rw [HPLL.out]; exact HRX.out
        have h2 := SOpen.cut_at h1 kk 108 (by rw [HPLL.out]; omega) (by omega) (M - kk) (by omega) (by have := HM1.out; omega)
        rw [hL1] at h2
        have h3 : Rd (fun k => BQ ≤ k) wr (.slice (some ((⟨BQ, 0, none⟩ : Addr).add kk)) L1.length (M - kk)) L1 := by rw [hL2]; exact h2
        rw [Addr.add_mid, Nat.zero_add] at h3
        have := rseal_main _ _ _ L1 st wr h3 HMAY.out (by omega)
        rw [hL2] at this
        exact this.mono fun e y ⟨v', h1, h2, h3⟩ => ⟨v', h1, h2.mono fun _ _ => trivial, h3⟩)
      rcases hwr : rwritten r (ix : Int) (sealed st L1) with ⟨r1, q1⟩
      have hxx := HXX.out
      rw [rgw] at hxx
      simp only [hix, hkk, hL1, hwr] at hxx
      have HXX2 := Lib.hid hxx
      have HLN : Hid (r1.now.length = n0) := Lib.hid (by have := rwritten_now r (ix : Int) (sealed st L1); rw [hwr] at this; exact this.trans HNX.out)
      have HLW : Hid (r1.waits.length ≤ 1000000000 + (k + 1)) := Lib.hid (by have hh := rwritten_waits r (ix : Int) (sealed st L1); rw [hwr] at hh; have := HWX.out; simp only at hh; omega)
      have hcut1 : (kk : Int) ≤ (kl : Int) := by omega
      have hcut2 : (kl : Int) ≤ (M : Int) := by omega
      have hcut3 : kl - kk = 108 := by omega
      have HWR := Lib.hid hwr
      have HWXX : Hid (r.waits.length ≤ 1073741823) := Lib.hid (by have := HWX.out; have := HFN.out; have := HN16.out; omega)
      have hk1 : IntKind.i64.wrap ((k : Int) + 1) = (k : Int) + 1 := IntWalk.i64_in _ (by have := HFN.out; have := HN16.out; omega)
      clear hwr hxx HXX hL1 hL2 hkl hklm hkk hix HWX
      go_wp2_with fail
      refine HSEAL.out.mono ?_
      rintro e w5 ⟨v5, rfl, hr5, hg5⟩
      have HWQ5 := Lib.hid (HWQ.out.grew hg5)
      have HRX5 := Lib.hid (HRX.out.grew hg5)
      obtain ⟨B1, B2, B3, d1, d2, d3, hrd5, hld5, _⟩ := HWQ5.out.bx.load
      have HL1 := Lib.hid hld5
      have HW5 := Lib.hid (rwrite_eq r _ v5 (ix : Int) _ _ w5 r1 q1 hrd5 hr5 (by rw [HNX.out]; exact HN16.out) HWXX.out HWR.out)
      clear hr5 hg5 hrd5 hld5 HSEAL HWQ HRX hcut1 hcut2 hcut3 e5 e6
      go_wp2_with (refine DArm.wpList_load (by rfl) 49 (.tmp 5) (by with_reducible rfl) _ _ (by rfl) HL1.out ?_)
      refine HW5.out.mono ?_
      rintro e w6 ⟨v6, rfl, hr6, hg6⟩
      obtain ⟨z, hst, hwq, hk⟩ := (HWQ5.out.grew hg6).put hr6
      have HSTO := Lib.hid hst
      have HWZ := Lib.hid hwq
      have HRZ : Hid (Rd (fun k => BQ ≤ k) z (.slice (some ⟨BQ, 0, none⟩) M M) (place m b)) := Lib.hid ((HRX5.out.grew hg6).keep fun k hk1 hk2 => hk.block k hk1 (by have := HBPQ.out; omega))
      clear hr6 hg6 hst hwq hk HWQ5 HRX5 HL1 HW5 e2
      by_cases hq : q1 = 0
      · subst hq
        have hxx := HXX2.out
        rw [if_pos rfl] at hxx
        have HX3 := Lib.hid hxx
        clear hxx HXX2
        go_wp2_with (refine DArm.wpList_store (by rfl) 49 (.tmp 5) (.tmp 76) (by with_reducible rfl) _ _ (by rfl) (by rfl) _ HSTO.out ?_)
        go_roundg q
        case measure => omega
        case rel => exact ⟨k + 1, r1, by omega, by first | rfl | simp, rfl, HWZ, HRZ, HX3, HLN, HLW⟩
      · have hX : X = (r1, q1) := by have := HXX2.out; rw [if_neg hq] at this; exact this.symm
        have hq2 : (q1 != 0) = true := by simpa using hq
        obtain ⟨B1, B2, B3, d1, d2, d3, zz, hfq⟩ := HWZ.out.fin
        have HFQ := Lib.hid hfq
        have l6 := hfq.res
        have HXE := Lib.hid hX
        clear hfq hX HXX2 hq
        go_wp2_with (first
          | refine DArm.wpList_store (by rfl) 49 (.tmp 5) (.tmp 76) (by with_reducible rfl) _ _ (by rfl) (by rfl) _ HSTO.out ?_
          | refine DArm.wpList_load (by rfl) 49 (.tmp 5) (by with_reducible rfl) _ _ (by rfl) HFQ.out.ld ?_
          | refine DArm.wpList_store (by rfl) 49 (.tmp 10) (.tmp 80) (by with_reducible rfl) _ _ (by rfl) (by rfl) _ HFQ.out.st ?_)
        refine bodyPost_ret (v := .tuple #[dv B1 B2 B3 r1.now.length r1.safe.length r1.waits.length d1 d2 d3 r1.fuse r1.off, .int .i64 q1]) ?_ rfl (by show ANS w X.1 X.2 _ _; rw [HXE.out]; exact ⟨_, rfl, HFQ.out.rd, HFQ.out.gr⟩)
        simp [results, Try.results80]
        simp [asAddr, l6, d5, dv]
end Go.Proofs.Ytbnicphegbdfnaa.QW
