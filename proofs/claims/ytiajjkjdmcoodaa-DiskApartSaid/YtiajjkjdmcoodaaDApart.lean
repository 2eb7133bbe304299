/-
  The law of the disk's clone: what is done to a disk is not seen in its clone, nor the other way round.
  Conditions: none beyond those that each lemma names.
-/
import Derived.Test.YtiajjkjdmcoodaaDLawD
import Derived.BigFrame
namespace Go.Proofs.Ytiajjkjdmcoodaa.DApart
set_option maxRecDepth 100000
open Go Go.RowKit Go.Proofs.Ytiajjkjdmcoodaa Go.Proofs.Ytiajjkjdmcoodaa.Facts Go.Proofs.Ytiajjkjdmcoodaa.Bytes Go.Proofs.Ytiajjkjdmcoodaa.DKeep Go.Proofs.Ytiajjkjdmcoodaa.DSmall Go.Proofs.Ytiajjkjdmcoodaa.DRead Go.Proofs.Ytiajjkjdmcoodaa.DRefA Go.Proofs.Ytiajjkjdmcoodaa.DRefB Go.Proofs.Ytiajjkjdmcoodaa.DRefC Go.Proofs.Ytiajjkjdmcoodaa.DSim Go.Proofs.Ytiajjkjdmcoodaa.DKeepsH Go.Proofs.Ytiajjkjdmcoodaa.DRefD Go.Proofs.Ytiajjkjdmcoodaa.DRefE Go.Proofs.Ytiajjkjdmcoodaa.DOpens Go.Proofs.Ytiajjkjdmcoodaa.DLawA Go.Proofs.Ytiajjkjdmcoodaa.DLawC Go.Proofs.Ytiajjkjdmcoodaa.DLawD

theorem wload {ops : Array Oper} {rest : List Oper} {op : Oper} {a : Act} {w : World} {Q : Exit → Act → World → Prop} (hgd : Region.wanted op (yielded ops a.tmps) = true) (t : TypeId) (x : Operand) (ho : op.op = .load t x) (px v : Value) (hx : a.eval x = px)
    (hr : (Instr.loadAt t px).run Try.prog w = .ok v w) (h : wpList Try.prog ops Q rest (a.put op.dst v) w) : wpList Try.prog ops Q (op :: rest) a w := by
  refine BigFrame.wpList_want hgd fun _ hK => ?_
  unfold Oper.wp execOp
  simp only [ho, hx, Sem.run_bind, Sem.run_pure, Result.andThen_ok, hr]
  exact hK _ _ h
theorem box_new {w : World} {v : Value} {r : Rp} (h : RD w v r) : ∃ w', (Instr.storeAt 32 (.pointer (some ⟨w.heap.size, 0, none⟩)) v).run Try.prog (w.alloc (.cells #[.slice none 0 0, .slice none 0 0, .slice none 0 0, .int .i64 0, .bool false] 32)) = .ok () w' ∧ BX w' w.heap.size r ∧ Grew w w' := by
  have hga : Grew w (w.alloc (.cells #[.slice none 0 0, .slice none 0 0, .slice none 0 0, .int .i64 0, .bool false] 32)) := grew_new _
  obtain ⟨w3, hst, hbx, hk3⟩ := box_store (heap_alloc_new w (.cells #[.slice none 0 0, .slice none 0 0, .slice none 0 0, .int .i64 0, .bool false] 32)) rfl (h.grew hga)
  exact ⟨w3, hst, hbx, DAlive.grew_kept hga hk3 (fun k hk => by rw [hk]; exact Nat.le_refl _)⟩
theorem DT_keep {w w' : World} {g : Nat} {D D' : Nat → Prop} {d : Pd} (h : DT w g D d) (hk : Kept D' w w') (hd : ∀ k, D k → ¬ D' k) : DT w' g D d :=
  ⟨h.1.keep hk hd, fun k hD => by
    obtain ⟨cur, e, fz, h4, h5⟩ := h.2 k hD
    exact ⟨cur, e, fz, (hk.block k (Array.getElem?_eq_some_iff.1 h4).1 (hd k hD)).trans h4, h5⟩⟩
theorem BX_keep {w w' : World} {g gx : Nat} {D : Nat → Prop} {d : Pd} {r : Rp} (h : BX w gx r) (hd : DT w g D d) (hk : Kept D w w') : BX w' gx r := by
  obtain ⟨A1, A2, A3, c1, c2, c3, q1, q2⟩ := h
  refine ⟨A1, A2, A3, c1, c2, c3, RD.kept q1 hk (fun k cur e fz hD hh => ?_), (hk.block gx (Array.getElem?_eq_some_iff.1 q2).1 (fun hD => ?_)).trans q2⟩
  · obtain ⟨cur', e', fz', h7, h8⟩ := hd.2 k hD
    rw [h7] at hh
    cases hh
    rcases h8 with rfl | rfl | rfl <;> exact ⟨by decide, by decide⟩
  · obtain ⟨cur', e', fz', h7, h8⟩ := hd.2 gx hD
    rw [q2] at h7
    cases h7
    rcases h8 with h8 | h8 | h8 <;> exact absurd h8 (by decide)
theorem pok {w : World} {g : Nat} {D : Nat → Prop} {d : Pd} (h : DK w g D d) : POk d := by
  obtain ⟨_, _, _, _, _, _, h0, _⟩ := h
  exact h0.ok

set_option maxHeartbeats 4000000 in
theorem law_any (A Aa Ab : Option Addr) (c ca cb : Nat) (L La Lb : List De) (w : World) (hL : DE w A c L) (hLa : DE w Aa ca La) (hLb : DE w Ab cb Lb) :
    Calls Try.prog 4 #[.slice A L.length c, .slice Aa La.length ca, .slice Ab Lb.length cb] w fun e w' => e = .returned (.bool true) ∧ Grew w w' := by
  have HL := Lib.hid (DEn.of hL)
  have HLA := Lib.hid (DEn.of hLa)
  have HLB := Lib.hid (DEn.of hLb)
  clear hL hLa hLb
  go_enter Try.func4, Try.ntmps4
  go_wp2_with fail
  refine (DAlive.new_eq 5 5 rfl w (by omega) (by omega)).mono ?_
  rintro e w1 ⟨g, rfl, hd, hg⟩
  have HD1 := Lib.hid hd
  have HG1 := Lib.hid hg
  clear hd hg
  go_wp2_with fail
  refine (DRefF.rnew_any 5 w1 (by omega)).mono ?_
  rintro e w2 ⟨v, rfl, hv, hg2⟩
  obtain ⟨D, hdt, hsub⟩ := DK.tight (HD1.out.grew hg2)
  have HG2 := Lib.hid (HG1.out.trans hg2)
  have HN2 : Hid (∀ k, D k → w.heap.size ≤ k) := Lib.hid fun k hk => (hsub k hk).1
  have hrun := run_any w.heap.size w2 g D _ v _ A c L hdt hv (Sim.fresh 5) (by show (0 : Nat) ≤ 1000; omega) (DEn.keep HL.out (fun k hk => HG2.out.block k hk) HG2.out.size) HN2.out HG2.out.size
  clear hdt hsub hv hg2 HD1 HG1
  go_wp2_with fail
  refine hrun.mono ?_
  rintro e w3 ⟨v3, D3, d3, r3, rfl, hdt3, hv3, hs3, hw3, hsub3, hk3⟩
  clear hrun
  have hN3 : ∀ k, D3 k → w.heap.size ≤ k := fun k hk => (hsub3 k hk).elim (HN2.out k) (Nat.le_trans HG2.out.size)
  have HG3 := Lib.hid (DAlive.grew_kept HG2.out hk3 HN2.out)
  obtain ⟨w4, hst4, hbx4, hg4⟩ := box_new hv3
  have HDT4 := Lib.hid (DT_grew hdt3 hg4)
  have HBX4 := Lib.hid hbx4
  have HG4 := Lib.hid (HG3.out.trans hg4)
  have HZW4 := Lib.hid HG4.out.size
  have HS3 := Lib.hid hs3
  have HW3 : Hid (d3.waits.length ≤ 40) := Lib.hid (Nat.le_trans hw3 (by show 0 + 40 ≤ 40; omega))
  have HN3 := Lib.hid hN3
  have HST4 := Lib.hid hst4
  clear hdt3 hv3 hs3 hw3 hsub3 hk3 hN3 hst4 hbx4 hg4 HG3 HN2 HG2
  go_wp2_with (refine DArm.wpList_store (by rfl) 32 (.tmp 9) (.tmp 26) (by with_reducible rfl) _ _ (by rfl) (by rfl) _ HST4.out ?_)
  refine (DClone.clone_any w4 g D3 d3 HDT4.out.1 (Nat.le_trans HW3.out (by omega))).mono ?_
  rintro e w5 ⟨g5, rfl, hd5, hg5⟩
  unfold dptr
  obtain ⟨D5, hdt5, hsub5⟩ := DK.tight hd5
  have HDT5 := Lib.hid hdt5
  have HSUB5 := Lib.hid hsub5
  have HDA := Lib.hid (DT_grew HDT4.out hg5)
  have HD3L : Hid (∀ k, D3 k → k < w4.heap.size) := Lib.hid HDT4.out.1.1
  have HBX5 := Lib.hid (HBX4.out.grew hg5)
  have HG5 := Lib.hid (HG4.out.trans hg5)
  have HZ45 := Lib.hid hg5.size
  clear hd5 hdt5 hsub5 hg5 HDT4 HBX4 HG4 HST4
  obtain ⟨A1, A2, A3, c1, c2, c3, hrd5, hld5, hbb5⟩ := HBX5.out.load
  have HL5 := Lib.hid hld5
  have hrun := run_any w.heap.size w5 g D3 d3 _ r3 Aa ca La HDA.out hrd5 HS3.out (Nat.le_trans HW3.out (by omega)) (DEn.keep HLA.out (fun k hk => HG5.out.block k hk) HG5.out.size) HN3.out HG5.out.size
  clear hrd5 hld5 hbb5
  go_wp2_with (refine DArm.wpList_load (by rfl) 32 (.tmp 9) (by with_reducible rfl) _ _ (by rfl) HL5.out ?_)
  refine hrun.mono ?_
  rintro e w6 ⟨v6, D6, d6, r6, rfl, hdt6, hv6, hs6, hw6, hsub6, hk6⟩
  clear hrun HL5
  have HG6 := Lib.hid (DAlive.grew_kept HG5.out hk6 HN3.out)
  have HDC6 := Lib.hid (DT_keep HDT5.out hk6 (fun k h1 h2 => by have := (HSUB5.out k h1).1; have := HD3L.out k h2; omega))
  have HBX6 := Lib.hid (BX_keep HBX5.out HDA.out hk6)
  obtain ⟨w7, hst7, hbx7, hg7⟩ := box_new hv6
  have HDT7 := Lib.hid (DT_grew hdt6 hg7)
  have HDC7 := Lib.hid (DT_grew HDC6.out hg7)
  have HBX7 := Lib.hid (HBX6.out.grew hg7)
  have HBY7 := Lib.hid hbx7
  have HG7 := Lib.hid (HG6.out.trans hg7)
  have HS6 := Lib.hid hs6
  have HSUB6 := Lib.hid hsub6
  have HST7 := Lib.hid hst7
  have HNC : Hid (∀ k, D5 k → w.heap.size ≤ k) := Lib.hid fun k hk => by
    have := (HSUB5.out k hk).1
    have := HZW4.out
    omega
  clear hdt6 hv6 hs6 hw6 hsub6 hk6 hst7 hbx7 hg7 HG6 HDC6 HBX6 HDA HBX5 HG5 HDT5
  obtain ⟨A1, A2, A3, c1, c2, c3, hrd7, hld7, hbb7⟩ := HBX7.out.load
  have HL7 := Lib.hid hld7
  have hrun := run_any w.heap.size w7 g5 D5 d3 _ r3 Ab cb Lb HDC7.out hrd7 HS3.out (Nat.le_trans HW3.out (by omega)) (DEn.keep HLB.out (fun k hk => HG7.out.block k hk) HG7.out.size) HNC.out HG7.out.size
  clear hrd7 hld7 hbb7
  go_wp2_with (first
    | refine DArm.wpList_store (by rfl) 32 (.tmp 11) (.tmp 34) (by with_reducible rfl) _ _ (by rfl) (by rfl) _ HST7.out ?_
    | refine DArm.wpList_load (by rfl) 32 (.tmp 9) (by with_reducible rfl) _ _ (by rfl) HL7.out ?_)
  refine hrun.mono ?_
  rintro e w8 ⟨v8, D8, d8, r8, rfl, hdt8, hv8, hs8, hw8, hsub8, hk8⟩
  clear hrun HL7 HST7
  have HG8 := Lib.hid (DAlive.grew_kept HG7.out hk8 HNC.out)
  have HDT8 := Lib.hid (DT_keep HDT7.out hk8 (fun k h1 h2 => by
    have h3 := HSUB5.out k h2
    rcases HSUB6.out k h1 with h4 | h4
    · have := HD3L.out k h4; omega
    · omega))
  have HBY8 := Lib.hid (BX_keep HBY7.out HDC7.out hk8)
  obtain ⟨w9, hst9, hbx9, hg9⟩ := box_new hv8
  have HDT9 := Lib.hid (DT_grew HDT8.out hg9)
  have HDZ9 := Lib.hid (DT_grew hdt8 hg9)
  have HBY9 := Lib.hid (HBY8.out.grew hg9)
  have HBZ9 := Lib.hid hbx9
  have HG9 := Lib.hid (HG8.out.trans hg9)
  have HS8 := Lib.hid hs8
  have HST9 := Lib.hid hst9
  clear hdt8 hv8 hs8 hw8 hsub8 hk8 hst9 hbx9 hg9 HG8 HDT8 HBY8 HBY7 HDC7 HG7 HDT7
  go_wp2_with (refine DArm.wpList_store (by rfl) 32 (.tmp 12) (.tmp 38) (by with_reducible rfl) _ _ (by rfl) (by rfl) _ HST9.out ?_)
  refine (DAlive.alive_any w9).mono ?_
  rintro e wa ⟨rfl, hga⟩
  have HDTa := Lib.hid (DT_grew HDT9.out hga)
  have HDZa := Lib.hid (DT_grew HDZ9.out hga)
  obtain ⟨A1, A2, A3, c1, c2, c3, hrda, hlda, _⟩ := (HBY9.out.grew hga).load
  have HBZa := Lib.hid (HBZ9.out.grew hga)
  have HGa := Lib.hid (HG9.out.trans hga)
  have HLa := Lib.hid hlda
  have HSM := Lib.hid (DLawB.same_any wa g D6 d6 _ r6 HDTa.out.1 hrda HS6.out (by rw [HS6.out.len]; exact (pok HDTa.out.1).n2))
  clear hrda hlda hga HST9 HDT9 HDZ9 HBY9 HBZ9 HG9
  unfold dptr at HSM
  go_wp2_with (refine wload (by rfl) 32 (.tmp 11) (by with_reducible rfl) _ _ (by rfl) HLa.out ?_)
  refine HSM.out.mono ?_
  rintro e wb ⟨rfl, hgb⟩
  have HDZb := Lib.hid (DT_grew HDZa.out hgb)
  obtain ⟨A1, A2, A3, c1, c2, c3, hrdb, hldb, _⟩ := (HBZa.out.grew hgb).load
  have HGb := Lib.hid (HGa.out.trans hgb)
  have HLb2 := Lib.hid hldb
  have HSN := Lib.hid (DLawB.same_any wb g5 D8 d8 _ r8 HDZb.out.1 hrdb HS8.out (by rw [HS8.out.len]; exact (pok HDZb.out.1).n2))
  clear hrdb hldb hgb HSM HLa
  unfold dptr at HSN
  go_wp2_with (refine wload (by rfl) 32 (.tmp 12) (by with_reducible rfl) _ _ (by rfl) HLb2.out ?_)
  refine HSN.out.mono ?_
  rintro e wc ⟨rfl, hgc⟩
  have HGc := Lib.hid (HGb.out.trans hgc)
  clear hgc
  go_wp2
  go_ret
  exact ⟨rfl, HGc.out⟩
end Go.Proofs.Ytiajjkjdmcoodaa.DApart
