/-
  The law of the disk's answers: whatever is done to a disk, one thing behind the other, is told.
  Conditions: none beyond those that each lemma names.
-/
import Derived.Test.YtiajjkjdmcoodaaDLawD
import Derived.BigFrame
namespace Go.Proofs.Ytiajjkjdmcoodaa.DTells
set_option maxRecDepth 100000
open Go Go.RowKit Go.Proofs.Ytiajjkjdmcoodaa Go.Proofs.Ytiajjkjdmcoodaa.Facts Go.Proofs.Ytiajjkjdmcoodaa.Bytes Go.Proofs.Ytiajjkjdmcoodaa.DKeep Go.Proofs.Ytiajjkjdmcoodaa.DSmall Go.Proofs.Ytiajjkjdmcoodaa.DRead Go.Proofs.Ytiajjkjdmcoodaa.DRefA Go.Proofs.Ytiajjkjdmcoodaa.DRefB Go.Proofs.Ytiajjkjdmcoodaa.DRefC Go.Proofs.Ytiajjkjdmcoodaa.DSim Go.Proofs.Ytiajjkjdmcoodaa.DKeepsH Go.Proofs.Ytiajjkjdmcoodaa.DRefD Go.Proofs.Ytiajjkjdmcoodaa.DRefE Go.Proofs.Ytiajjkjdmcoodaa.DOpens Go.Proofs.Ytiajjkjdmcoodaa.DLawA Go.Proofs.Ytiajjkjdmcoodaa.DLawC Go.Proofs.Ytiajjkjdmcoodaa.DLawD

theorem wload {ops : Array Oper} {rest : List Oper} {op : Oper} {a : Act} {w : World} {Q : Exit → Act → World → Prop} (hgd : Region.wanted op (yielded ops a.tmps) = true) (t : TypeId) (x : Operand) (ho : op.op = .load t x) (px v : Value) (hx : a.eval x = px)
    (hr : (Instr.loadAt t px).run Try.prog w = .ok v w) (h : wpList Try.prog ops Q rest (a.put op.dst v) w) : wpList Try.prog ops Q (op :: rest) a w := by
  refine BigFrame.wpList_want hgd fun _ hK => ?_
  unfold Oper.wp execOp
  simp only [ho, hx, Sem.run_bind, Sem.run_pure, Result.andThen_ok, hr]
  exact hK _ _ h
theorem alive_same (w : World) : Calls Try.prog 8 #[] w fun e w' => e = .returned (.bool true) ∧ Grew w w' := DAlive.alive_any w
theorem kept_grew {w w' : World} (h : Kept (fun _ => False) w w') : Grew w w' := ⟨h.os, h.tape, h.output, h.size, fun k hk => h.block k hk (fun h => h)⟩
theorem law_bad (n : Int) (h : n < 1 ∨ 16384 < n) (v : Value) (w : World) : Calls Try.prog 3 #[.int .i64 n, v] w fun e w' => e = .returned (.bool true) ∧ Grew w w' := by
  have HB := Lib.hid (fun w => DNew.new_bad n w h)
  have HS := Lib.hid (fun w => size_none w)
  rcases h with h | h
  · go_enter Try.func3, Try.ntmps3
    go_wp2_with fail
    refine (HB.out _).mono ?_
    rintro e w' ⟨rfl, rfl⟩
    go_wp2_with fail
    refine (alive_same _).mono ?_
    rintro e w1 ⟨rfl, hg⟩
    go_wp2_with fail
    refine (HS.out _).mono ?_
    rintro e w' ⟨rfl, rfl⟩
    go_wp2
    go_ret
    exact ⟨rfl, hg⟩
  · by_cases h1 : n < 1
    · omega
    · go_enter Try.func3, Try.ntmps3
      go_wp2_with fail
      refine (HB.out _).mono ?_
      rintro e w' ⟨rfl, rfl⟩
      go_wp2_with fail
      refine (alive_same _).mono ?_
      rintro e w1 ⟨rfl, hg⟩
      go_wp2_with fail
      refine (HS.out _).mono ?_
      rintro e w' ⟨rfl, rfl⟩
      go_wp2
      go_ret
      exact ⟨rfl, hg⟩
theorem law_large (n : Nat) (h1 : 20 < n) (h2 : n ≤ 16384) (v : Value) (w : World) : Calls Try.prog 3 #[.int .i64 (n : Int), v] w fun e w' => e = .returned (.bool true) ∧ Grew w w' := by
  have HN := Lib.hid (show 1 ≤ n ∧ n ≤ 16384 by omega)
  have a1 : ¬ (n : Int) < 1 := by omega
  have a2 : ¬ (16384 : Int) < (n : Int) := by omega
  have a3 : (20 : Int) < (n : Int) := by omega
  clear h1 h2
  go_enter Try.func3, Try.ntmps3
  go_wp2_with fail
  refine (DAlive.new_eq n _ rfl w HN.out.1 HN.out.2).mono ?_
  rintro e w1 ⟨g, rfl, hd, hg⟩
  have HSZ := Lib.hid (size_any w1 g _ _ hd)
  have HG := Lib.hid hg
  rw [show (DNew.fresh n).safe.length = n from DNew.blank_length n] at HSZ
  clear hd hg
  go_wp2_with fail
  refine HSZ.out.mono ?_
  rintro e w' ⟨rfl, rfl⟩
  go_wp2_with fail
  refine (alive_same _).mono ?_
  rintro e w2 ⟨rfl, hg2⟩
  have HG2 := Lib.hid (HG.out.trans hg2)
  clear hg2 HSZ
  go_wp2
  go_ret
  exact ⟨rfl, HG2.out⟩

section
variable {P : Program} {ops : Array Oper} {o : Oper} {ac : Act} {w : World} {g : Value → World → Prop}
theorem fone_load (hgd : o.guard = none) (t : TypeId) (x : Operand) (ho : o.op = .load t x) (px v : Value) (hx : ac.eval x = px) (hr : (Instr.loadAt t px).run P w = .ok v w) (h : Grew w w ∧ g v w) : Facts.one P ops o ac w g := by
  unfold Facts.one
  rw [if_pos (by unfold Region.wanted; rw [hgd])]
  unfold execOp
  simp only [ho, hx, Sem.run_bind, Sem.run_pure, Result.andThen_ok, hr]
  exact h
end
theorem rread_eq (r : Rp) (v : Value) (n : Int) (w : World) (B : Sec) (q : Int) (h : RD w v r) (he : rread r.now r.off n = (B, q)) :
    Calls Try.prog 20 #[v, .int .i64 n] w fun e w' => e = .returned (.tuple #[sv B, .int .i64 q]) ∧ Grew w w' := by
  have := rread_rd r v n w h
  rwa [he] at this
set_option maxHeartbeats 8000000 in
theorem law_small (n : Nat) (h1 : 1 ≤ n) (h2 : n ≤ 20) (A : Option Addr) (c : Nat) (L : List De) (w : World) (hL : DE w A c L) : Calls Try.prog 3 #[.int .i64 (n : Int), .slice A L.length c] w fun e w' => e = .returned (.bool true) ∧ Grew w w' := by
  have HN := Lib.hid (show 1 ≤ n ∧ n ≤ 16384 ∧ n ≤ 20 by omega)
  have HL := Lib.hid (DEn.of hL)
  obtain ⟨hL1, hL2, hL3, _⟩ := id hL
  have a1 : ¬ (n : Int) < 1 := by omega
  have a2 : ¬ (16384 : Int) < (n : Int) := by omega
  have a3 : ¬ (20 : Int) < (n : Int) := by omega
  obtain ⟨D0, hD0⟩ : ∃ D0 : Nat → Prop, D0 = fun _ => False := ⟨_, rfl⟩
  have HD0 := Lib.hid hD0
  have HNO : Hid (∀ k, ¬ D0 k) := Lib.hid (by rw [hD0]; exact fun _ h => h)
  clear h1 h2 hL hD0
  go_enter Try.func3, Try.ntmps3
  go_wp2_with fail
  refine (DAlive.new_eq n _ rfl w HN.out.1 HN.out.2.1).mono ?_
  rintro e w1 ⟨g, rfl, hd, hg⟩
  have HSZ := Lib.hid (size_any w1 g _ _ hd)
  have HG := Lib.hid hg
  have HDK := Lib.hid hd
  rw [show (DNew.fresh n).safe.length = n from DNew.blank_length n] at HSZ
  clear hd hg
  go_wp2_with fail
  refine HSZ.out.mono ?_
  rintro e w' ⟨rfl, rfl⟩
  clear HSZ
  go_wp2_with fail
  refine (DRefF.rnew_any n w1 HN.out.2.1).mono ?_
  rintro e w2 ⟨v, rfl, hv, hg2⟩
  obtain ⟨D9, hdt, hsub⟩ := DK.tight (HDK.out.grew hg2)
  have hga : Grew w2 (w2.alloc (.cells #[.slice none 0 0, .slice none 0 0, .slice none 0 0, .int .i64 0, .bool false] 32)) := grew_new _
  obtain ⟨w3, hst, hbx, hk3⟩ := box_store (heap_alloc_new w2 (.cells #[.slice none 0 0, .slice none 0 0, .slice none 0 0, .int .i64 0, .bool false] 32)) rfl (hv.grew hga)
  obtain ⟨gx, hgx⟩ : ∃ gx, w2.heap.size = gx := ⟨_, rfl⟩
  have hgG : Grew w w2 := HG.out.trans hg2
  have HST0 : Hid (ST D0 w g gx w3 (DNew.fresh n) (rfresh n) 0) := Lib.hid (by
    have hdta := DT_grew hdt hga
    have hgs := hgG.size
    have hne : ∀ k, D9 k → ¬ k = w2.heap.size := fun k hd he => by
      have := hdt.1.1 k hd
      omega
    have hka : Kept D0 w w3 := kept_trans ((Kept.of_grew hgG).trans (Kept.of_grew hga)) hk3 (fun k hk => .inr (by rw [hk]; exact hgs))
    refine ⟨⟨D9, ⟨hdta.1.keep hk3 hne, fun k hd => ?_⟩, fun k hk => .inr (hsub k hk).1⟩, by rw [← hgx]; exact hbx, Nat.le_refl _, hka, by rw [← hgx]; exact hgs⟩
    obtain ⟨cur, e, fz, h4, h5⟩ := hdta.2 k hd
    exact ⟨cur, e, fz, (hk3.block k (Array.getElem?_eq_some_iff.1 h4).1 (hne k hd)).trans h4, h5⟩)
  rw [hgx] at hst
  have HSTO := Lib.hid hst
  clear hdt hsub hga hst hbx hk3 hgG hv hg2 HDK HG
  go_wp2_with (refine DArm.wpList_store (by rfl) 32 (.tmp 7) (.tmp 52) (by with_reducible rfl) _ _ (by rfl) (by rfl) _ HSTO.out ?_)
  try rw [hgx]
  clear hgx HSTO
  go_loopg [8] 60 (fun q s8 wx => ∃ (i : Nat) (d : Pd) (r : Rp), i + q = 60 ∧ s8 = .int .i64 i ∧ Hid (ST D0 w g gx wx d r (0 + i)) ∧ Hid (Sim d r))
  case atStart => exact ⟨0, _, _, Nat.zero_add _, rfl, HST0, Lib.hid (Sim.fresh n)⟩
  case round =>
    obtain ⟨i, d, r, hiq, rfl, HST, HSIM⟩ := hrel
    clear HST0
    generalize wr = wi at *
    have HW0 : Hid (0 ≤ 1000) := Lib.hid (by omega)
    by_cases hc : (i : Int) < (L.length : Int) ∧ (i : Int) < 60
    · obtain ⟨hc1, hc2⟩ := hc
      obtain ⟨q0, rfl⟩ : ∃ q0, gk = q0 + 1 := ⟨gk - 1, by omega⟩
      have hil : i < L.length := by omega
      obtain ⟨x, hx⟩ : ∃ x, L[i]? = some x := ⟨_, List.getElem?_eq_getElem hil⟩
      obtain ⟨ad, rfl⟩ : ∃ ad, A = some ad := by
        cases A with
        | none => have := hL3 rfl; omega
        | some ad => exact ⟨ad, rfl⟩
      have hLi := DEn.keep HL.out (fun k hk => HST.out.kept.block k hk (HNO.out k)) HST.out.kept.size
      obtain ⟨vB, hF⟩ := DEn.deed hLi hx
      have hc0 := hF.c0
      have HC1 := Lib.hid hF.c1
      have HC2 := Lib.hid hF.c2
      have HRB := Lib.hid hF.rd
      have HXN := Lib.hid hF.n2
      obtain ⟨mw, hmw⟩ : ∃ mw, mw = 0 + (i + 1) := ⟨_, rfl⟩
      have HME := Lib.hid hmw
      obtain ⟨D1, hDT, hsub⟩ := HST.out.ex
      have HDT := Lib.hid hDT
      have HSUB := Lib.hid hsub
      have HPOK : Hid (DSmall.POk d) := Lib.hid (by
        obtain ⟨_, _, _, _, _, _, h0, _⟩ := hDT.1
        exact h0.ok)
      obtain ⟨A1, A2, A3, c1, c2, c3, hrd0, hbx0⟩ := HST.out.box
      have HRD0 := Lib.hid hrd0
      have HBX := Lib.hid hbx0
      have HRN : Hid (r.now.length ≤ 16384) := Lib.hid (by rw [HSIM.out.len]; exact HPOK.out.n2)
      have HRW : Hid (r.waits.length ≤ 1073741823) := Lib.hid (by rw [HSIM.out.waits]; have := HST.out.wt; have := HW0.out; omega)
      clear hDT hsub hrd0 hbx0
      have HSTEP := Lib.hid (Sim.step HSIM.out x HXN.out)
      have HPW := Lib.hid (pstep_waits d x)
      have HWI : Hid (d.waits.length ≤ 1073741823) := Lib.hid (by have := HST.out.wt; omega)
      have HNS : Hid (∀ b, b < w.heap.size → ¬ D1 b) := Lib.hid fun b hb hd => by
        rcases HSUB.out b hd with h | h
        · exact HNO.out b h
        · omega
      obtain ⟨⟨d', ed⟩, hpd⟩ : ∃ y, pstep d x = y := ⟨_, rfl⟩
      obtain ⟨⟨r', er⟩, hpr⟩ : ∃ y, rstep r x = y := ⟨_, rfl⟩
      rw [hpd, hpr] at HSTEP
      rw [hpd] at HPW
      have HM : Hid (d'.waits.length ≤ mw) := Lib.hid (by rw [hmw]; have := HPW.out; have := HST.out.wt; simp only at *; omega)
      have HPD := Lib.hid hpd
      obtain rfl : ed = er := HSTEP.out.1
      have HPR := Lib.hid hpr
      have HW1 : Hid (IntKind.i64.wrap ((i : Int) + 1) = (i : Int) + 1) := Lib.hid (IntWalk.i64_in _ (by omega))
      have HX := Lib.hid hx
      clear hF hLi hx hmw hpd hpr
      by_cases k0 : x.kind = 0
      · rw [k0] at hc0
        have hq : DWrite.written d x.n x.b = (d', ed) := by have := HPD.out; unfold pstep at this; rwa [if_pos k0] at this
        have hq2 : rwritten r x.n x.b = (r', ed) := by have := HPR.out; unfold rstep at this; rwa [if_pos k0] at this
        have HQ := Lib.hid hq
        have HQ2 := Lib.hid hq2
        clear k0 hq hq2
        go_wp2
        refine Chain.wp_chain [11] (Chain.on 11 (S6 wi (fun y => ST D0 w g gx y d' r mw))) (by kernel_rfl) (by kernel_rfl) ((Grew.refl _).drew) ?_
        apply Marks.Lex.exact [] _ (by kernel_rfl)
        · intro m u W hm hcl hJ _
          unfold Marks.one
          go_simp
          exact ⟨trivial, hJ.same 0 _ (by rfl), rfl⟩
        simp only [Act.put, List.setIfInBounds_toArray, List.set_cons_zero, List.set_cons_succ, Nat.zero_add]
        apply Marks.Lex.exact [] _ (by kernel_rfl)
        · intro m u W hm hcl hJ _
          unfold Marks.one
          go_simp
          exact ⟨trivial, hJ.same 1 _ (by rfl), rfl⟩
        simp only [Act.put, List.setIfInBounds_toArray, List.set_cons_zero, List.set_cons_succ, Nat.reduceAdd]
        apply Marks.Lex.exact [] _ (by kernel_rfl)
        · intro m u W hm hcl hJ _
          unfold Marks.one
          go_simp
          exact ⟨trivial, hJ.same 2 _ (by rfl), rfl⟩
        simp only [Act.put, List.setIfInBounds_toArray, List.set_cons_zero, List.set_cons_succ, Nat.reduceAdd]
        apply Marks.Lex.exact [] _ (by kernel_rfl)
        · intro m u W hm hcl hJ _
          unfold Marks.one
          go_simp
          exact ⟨trivial, hJ.same 3 _ (by rfl), rfl⟩
        simp only [Act.put, List.setIfInBounds_toArray, List.set_cons_zero, List.set_cons_succ, Nat.reduceAdd]
        apply Marks.Lex.exact [] _ (by kernel_rfl)
        · intro m u W hm hcl hJ _
          unfold Marks.one
          go_simp
          exact ⟨trivial, hJ.same 4 _ (by rfl), rfl⟩
        simp only [Act.put, List.setIfInBounds_toArray, List.set_cons_zero, List.set_cons_succ, Nat.reduceAdd]
        apply Marks.Lex.exact [] (.int .i64 x.n) (by kernel_rfl)
        · intro m u W hm hcl hJ _
          have hC := hJ.first hm 11 rfl (by decide)
          have c1 : W.cell? ⟨(ad.add (i * 3)).block, (ad.add (i * 3)).off + 1, none⟩ = some (.int .i64 x.n) := DWrite.cellB hC HC1.out
          have c2 : W.cell? ⟨(ad.add (i * 3)).block, (ad.add (i * 3)).off + 2, none⟩ = some vB := DWrite.cellB hC HC2.out
          unfold Marks.one
          go_simp
          exact ⟨trivial, hJ.same 5 _ (by rfl), rfl⟩
        simp only [Act.put, List.setIfInBounds_toArray, List.set_cons_zero, List.set_cons_succ, Nat.reduceAdd]
        apply Marks.Lex.exact [] _ (by kernel_rfl)
        · intro m u W hm hcl hJ _
          unfold Marks.one
          go_simp
          exact ⟨trivial, hJ.same 6 _ (by rfl), rfl⟩
        simp only [Act.put, List.setIfInBounds_toArray, List.set_cons_zero, List.set_cons_succ, Nat.reduceAdd]
        apply Marks.Lex.exact [] _ (by kernel_rfl)
        · intro m u W hm hcl hJ _
          unfold Marks.one
          go_simp
          exact ⟨trivial, hJ.same 7 _ (by rfl), rfl⟩
        simp only [Act.put, List.setIfInBounds_toArray, List.set_cons_zero, List.set_cons_succ, Nat.reduceAdd]
        apply Marks.Lex.exact [] _ (by kernel_rfl)
        · intro m u W hm hcl hJ _
          unfold Marks.one
          go_simp
          exact ⟨trivial, hJ.same 8 _ (by rfl), rfl⟩
        simp only [Act.put, List.setIfInBounds_toArray, List.set_cons_zero, List.set_cons_succ, Nat.reduceAdd]
        apply Marks.Lex.exact [] _ (by kernel_rfl)
        · intro m u W hm hcl hJ _
          unfold Marks.one
          go_simp
          exact ⟨trivial, hJ.same 9 _ (by rfl), rfl⟩
        simp only [Act.put, List.setIfInBounds_toArray, List.set_cons_zero, List.set_cons_succ, Nat.reduceAdd]
        apply Marks.Lex.exact [] (vB) (by kernel_rfl)
        · intro m u W hm hcl hJ _
          have hC := hJ.first hm 11 rfl (by decide)
          have c1 : W.cell? ⟨(ad.add (i * 3)).block, (ad.add (i * 3)).off + 1, none⟩ = some (.int .i64 x.n) := DWrite.cellB hC HC1.out
          have c2 : W.cell? ⟨(ad.add (i * 3)).block, (ad.add (i * 3)).off + 2, none⟩ = some vB := DWrite.cellB hC HC2.out
          unfold Marks.one
          go_simp
          exact ⟨trivial, hJ.same 10 _ (by rfl), rfl⟩
        simp only [Act.put, List.setIfInBounds_toArray, List.set_cons_zero, List.set_cons_succ, Nat.reduceAdd]
        apply Marks.Lex.exact [] (.int .i64 ed) (by kernel_rfl)
        · intro m u W hm hcl hJ _
          obtain ⟨hP, hput⟩ := hJ.put 0 rfl hm hcl (by decide) (by decide)
          have hC : Grew wi W := hP
          unfold Marks.one
          go_simp
          refine Chain.come_enter ?_
          refine (DAlive.write_eq W g D1 d x.n vB _ x.b d' ed (HDT.out.1.grew hC) (HRB.out.grew hC) HWI.out HQ.out).mono ?_
          rintro e w' ⟨rfl, hx⟩
          exact ⟨_, rfl, trivial, hput _ w' (fun _ => Chain.on_put (show S6 _ _ 1 _ _ from (HST.out.grew hC).prog (DT_grew HDT.out hC) HSUB.out HM.out hx)), rfl⟩
        simp only [Act.put, List.setIfInBounds_toArray, List.set_cons_zero, List.set_cons_succ, Nat.reduceAdd]
        apply Marks.Lex.exact [] _ (by kernel_rfl)
        · intro m u W hm hcl hJ _
          unfold Marks.one
          go_simp
          exact ⟨trivial, hJ.same 12 _ (by rfl), rfl⟩
        simp only [Act.put, List.setIfInBounds_toArray, List.set_cons_zero, List.set_cons_succ, Nat.reduceAdd]
        refine Marks.Lex.done fun m0 u W' hm hJ _ => ?_
        have hE : S6 _ _ 1 (u 11) W' := hJ.done (by intro k hk; exact hm k (by simp at hk; omega))
        clear hJ hm
        have hst1 := hE
        generalize W' = w1 at *
        have HST2 := Lib.hid hst1
        obtain ⟨A1, A2, A3, c1, c2, c3, hrd1, hbx1⟩ := HST2.out.box
        have HRD1 := Lib.hid hrd1
        have HBX := Lib.hid hbx1
        obtain ⟨vB, hF⟩ := DEn.deed (DEn.keep HL.out (fun k hk => HST2.out.kept.block k hk (HNO.out k)) HST2.out.kept.size) HX.out
        have HC1 := Lib.hid hF.c1
        have HC2 := Lib.hid hF.c2
        have HRB := Lib.hid hF.rd
        clear hst1 hrd1 hbx1 hF
        go_wp2
        refine Chain.wp_chain [11, 12, 13, 15] (P7 11 12 13 w1 r' ed (fun y => ST D0 w g gx y d' r' mw)) (by kernel_rfl) (by kernel_rfl) ((Grew.refl _).drew) ?_
        apply Marks.Lex.exact [] (dv A1 A2 A3 r.now.length r.safe.length r.waits.length c1 c2 c3 r.fuse r.off) (by kernel_rfl)
        · intro m u W hm hcl hJ _
          have hC := hJ.first hm 11 rfl (by decide)
          exact DWrite.one_load rfl 32 (.tmp 7) rfl _ _ rfl (load5 W gx _ _ _ _ _ _ _ _ _ _ _ (DWrite.keepB HBX.out (show Grew w1 W from hC))) ⟨trivial, hJ.quiet (k := 0) _ (by rfl) (fun ii hh => P7.upd (by rfl) hh), rfl⟩
        simp only [Act.put, List.setIfInBounds_toArray, List.set_cons_zero, List.set_cons_succ, Nat.zero_add]
        apply Marks.Lex.exact [] _ (by kernel_rfl)
        · intro m u W hm hcl hJ _
          unfold Marks.one
          go_simp
          exact ⟨trivial, hJ.quiet (k := 1) _ (by rfl) (fun ii hh => P7.upd (by rfl) hh), rfl⟩
        simp only [Act.put, List.setIfInBounds_toArray, List.set_cons_zero, List.set_cons_succ, Nat.reduceAdd]
        apply Marks.Lex.exact [] _ (by kernel_rfl)
        · intro m u W hm hcl hJ _
          unfold Marks.one
          go_simp
          exact ⟨trivial, hJ.quiet (k := 2) _ (by rfl) (fun ii hh => P7.upd (by rfl) hh), rfl⟩
        simp only [Act.put, List.setIfInBounds_toArray, List.set_cons_zero, List.set_cons_succ, Nat.reduceAdd]
        apply Marks.Lex.exact [] _ (by kernel_rfl)
        · intro m u W hm hcl hJ _
          unfold Marks.one
          go_simp
          exact ⟨trivial, hJ.quiet (k := 3) _ (by rfl) (fun ii hh => P7.upd (by rfl) hh), rfl⟩
        simp only [Act.put, List.setIfInBounds_toArray, List.set_cons_zero, List.set_cons_succ, Nat.reduceAdd]
        apply Marks.Lex.exact [] _ (by kernel_rfl)
        · intro m u W hm hcl hJ _
          unfold Marks.one
          go_simp
          exact ⟨trivial, hJ.quiet (k := 4) _ (by rfl) (fun ii hh => P7.upd (by rfl) hh), rfl⟩
        simp only [Act.put, List.setIfInBounds_toArray, List.set_cons_zero, List.set_cons_succ, Nat.reduceAdd]
        apply Marks.Lex.exact [] (.int .i64 x.n) (by kernel_rfl)
        · intro m u W hm hcl hJ _
          have hC := hJ.first hm 11 rfl (by decide)
          have c1 : W.cell? ⟨(ad.add (i * 3)).block, (ad.add (i * 3)).off + 1, none⟩ = some (.int .i64 x.n) := DWrite.cellB (show Grew w1 W from hC) HC1.out
          have c2 : W.cell? ⟨(ad.add (i * 3)).block, (ad.add (i * 3)).off + 2, none⟩ = some vB := DWrite.cellB (show Grew w1 W from hC) HC2.out
          unfold Marks.one
          go_simp
          exact ⟨trivial, hJ.quiet (k := 5) _ (by rfl) (fun ii hh => P7.upd (by rfl) hh), rfl⟩
        simp only [Act.put, List.setIfInBounds_toArray, List.set_cons_zero, List.set_cons_succ, Nat.reduceAdd]
        apply Marks.Lex.exact [] _ (by kernel_rfl)
        · intro m u W hm hcl hJ _
          unfold Marks.one
          go_simp
          exact ⟨trivial, hJ.quiet (k := 6) _ (by rfl) (fun ii hh => P7.upd (by rfl) hh), rfl⟩
        simp only [Act.put, List.setIfInBounds_toArray, List.set_cons_zero, List.set_cons_succ, Nat.reduceAdd]
        apply Marks.Lex.exact [] _ (by kernel_rfl)
        · intro m u W hm hcl hJ _
          unfold Marks.one
          go_simp
          exact ⟨trivial, hJ.quiet (k := 7) _ (by rfl) (fun ii hh => P7.upd (by rfl) hh), rfl⟩
        simp only [Act.put, List.setIfInBounds_toArray, List.set_cons_zero, List.set_cons_succ, Nat.reduceAdd]
        apply Marks.Lex.exact [] _ (by kernel_rfl)
        · intro m u W hm hcl hJ _
          unfold Marks.one
          go_simp
          exact ⟨trivial, hJ.quiet (k := 8) _ (by rfl) (fun ii hh => P7.upd (by rfl) hh), rfl⟩
        simp only [Act.put, List.setIfInBounds_toArray, List.set_cons_zero, List.set_cons_succ, Nat.reduceAdd]
        apply Marks.Lex.exact [] _ (by kernel_rfl)
        · intro m u W hm hcl hJ _
          unfold Marks.one
          go_simp
          exact ⟨trivial, hJ.quiet (k := 9) _ (by rfl) (fun ii hh => P7.upd (by rfl) hh), rfl⟩
        simp only [Act.put, List.setIfInBounds_toArray, List.set_cons_zero, List.set_cons_succ, Nat.reduceAdd]
        apply Marks.Lex.exact [] (vB) (by kernel_rfl)
        · intro m u W hm hcl hJ _
          have hC := hJ.first hm 11 rfl (by decide)
          have c1 : W.cell? ⟨(ad.add (i * 3)).block, (ad.add (i * 3)).off + 1, none⟩ = some (.int .i64 x.n) := DWrite.cellB (show Grew w1 W from hC) HC1.out
          have c2 : W.cell? ⟨(ad.add (i * 3)).block, (ad.add (i * 3)).off + 2, none⟩ = some vB := DWrite.cellB (show Grew w1 W from hC) HC2.out
          unfold Marks.one
          go_simp
          exact ⟨trivial, hJ.quiet (k := 10) _ (by rfl) (fun ii hh => P7.upd (by rfl) hh), rfl⟩
        simp only [Act.put, List.setIfInBounds_toArray, List.set_cons_zero, List.set_cons_succ, Nat.reduceAdd]
        apply Marks.Lex.know [] (fun _ _ => True) (by kernel_rfl) (fun _ _ _ _ _ => trivial)
        · intro m u W hm hcl hJ _
          obtain ⟨hP, hput⟩ := hJ.put 0 rfl hm hcl (by decide) (by decide)
          have hC : Grew w1 W := hP
          unfold Marks.one
          go_simp
          refine Chain.come_enter ?_
          refine (rwrite_eq r _ vB x.n _ x.b W r' ed (HRD1.out.grew hC) (HRB.out.grew hC) HRN.out HRW.out HQ2.out).mono ?_
          rintro e w' ⟨v', rfl, hrd, hg⟩
          exact ⟨_, rfl, trivial, hput _ w' (fun _ => (show T7 _ _ _ _ 1 _ _ _ _ from by rw [Marks.updv_same]; exact ⟨hC.trans hg, v', rfl, hrd⟩)), trivial⟩
        simp only [Act.put, List.setIfInBounds_toArray, List.set_cons_zero, List.set_cons_succ, Nat.reduceAdd]
        apply Marks.Lex.know [] (fun _ _ => True) (by kernel_rfl) (fun _ _ _ _ _ => trivial)
        · intro m u W hm hcl hJ _
          obtain ⟨hP, hput⟩ := hJ.put 1 rfl hm hcl (by decide) (by decide)
          obtain ⟨hC, v', e11, hrd⟩ := hP
          exact one_move rfl (.tmp 123) rfl rfl ⟨trivial, hput _ W (fun _ => (show T7 _ _ _ _ 2 _ _ _ _ from by rw [Marks.updv_same]; exact ⟨hC, v', e11, hrd⟩)), trivial⟩
        simp only [Act.put, List.setIfInBounds_toArray, List.set_cons_zero, List.set_cons_succ, Nat.reduceAdd]
        apply Marks.Lex.know [] (fun _ _ => True) (by kernel_rfl) (fun _ _ _ _ _ => trivial)
        · intro m u W hm hcl hJ _
          obtain ⟨hP, hput⟩ := hJ.put 2 rfl hm hcl (by decide) (by decide)
          obtain ⟨hC, v', e12, hrd⟩ := hP
          exact one_extract rfl (.tmp 111) 0 rfl _ e12 (v := v') rfl ⟨trivial, hput v' W (fun _ => (show T7 _ _ _ _ 3 _ _ _ _ from by rw [Marks.updv_same, Marks.updv_other _ _ (by omega)]; exact ⟨hC, e12, hrd⟩)), trivial⟩
        simp only [Act.put, List.setIfInBounds_toArray, List.set_cons_zero, List.set_cons_succ, Nat.reduceAdd]
        apply Marks.Lex.exact [] (.int .i64 ed) (by kernel_rfl)
        · intro m u W hm hcl hJ _
          have h12 : m 12 = true := hcl 12 (by decide)
          obtain ⟨ii, hi1, hP⟩ := hJ.least 1 12 rfl h12
          obtain ⟨v', e12⟩ := P7.tup hi1 hP
          exact one_extract rfl (.tmp 111) 1 rfl _ e12 (v := .int .i64 ed) rfl ⟨trivial, hJ.quiet (k := 14) _ (by rfl) (fun ii hh => P7.upd (by rfl) hh), rfl⟩
        simp only [Act.put, List.setIfInBounds_toArray, List.set_cons_zero, List.set_cons_succ, Nat.reduceAdd]
        apply Marks.Lex.exact [] (undef) (by kernel_rfl)
        · intro m u W hm hcl hJ _
          obtain ⟨hP, hput⟩ := hJ.put 3 rfl hm hcl (by decide) (by decide)
          obtain ⟨hC, e12, hrd⟩ := hP
          obtain ⟨w', hst, hbx, hk⟩ := box_store (DWrite.keepB HBX.out hC) rfl hrd
          refine DWrite.one_store rfl 32 (.tmp 7) (.tmp 124) rfl _ _ rfl rfl w' hst ⟨trivial, hput undef w' (fun _ => ?_), rfl⟩
          refine P7.upd (by rfl) (i := 4) (show T7 _ _ _ _ 4 _ _ _ _ from ⟨e12, (HST2.out.grew hC).stored hk hbx⟩)
        simp only [Act.put, List.setIfInBounds_toArray, List.set_cons_zero, List.set_cons_succ, Nat.reduceAdd]
        apply Marks.Lex.exact [] _ (by kernel_rfl)
        · intro m u W hm hcl hJ _
          unfold Marks.one
          go_simp
          exact ⟨trivial, hJ.quiet (k := 16) _ (by rfl) (fun ii hh => P7.upd (by rfl) hh), rfl⟩
        simp only [Act.put, List.setIfInBounds_toArray, List.set_cons_zero, List.set_cons_succ, Nat.reduceAdd]
        refine Marks.Lex.done fun m0 u W' hm hJ _ => ?_
        have hE : T7 _ _ _ _ 4 _ _ _ W' := hJ.done (by intro k hk; exact hm k (by simp at hk; omega))
        have hE2 := hE.2
        clear hJ hm hE
        rw [HME.out] at hE2
        have HST3 := Lib.hid hE2
        have HSIM3 := Lib.hid HSTEP.out.2
        have hw1 := HW1.out
        clear hE2
        go_wp2
        go_roundg q0
        case measure => omega
        case rel => exact ⟨i + 1, d', r', by omega, by first | rfl | (simp; omega), HST3, HSIM3⟩

      · by_cases k1 : x.kind = 1
        · rw [k1] at hc0
          have hq : DFlush.flushed d = (d', ed) := by have := HPD.out; unfold pstep at this; rw [if_neg k0] at this; rwa [if_pos k1] at this
          have hq2 : rflushed r = (r', ed) := by have := HPR.out; unfold rstep at this; rw [if_neg k0] at this; rwa [if_pos k1] at this
          have HQ := Lib.hid hq
          have HQ2 := Lib.hid hq2
          clear k0 k1 hq hq2
          go_wp2_with fail
          refine (DAlive.flush_eq wi g D1 d d' ed HDT.out.1 (Nat.le_trans HWI.out (by omega)) HQ.out).mono ?_
          rintro e w1 ⟨rfl, hdk, hkk⟩
          have hst1 : ST D0 w g gx w1 d' r mw := HST.out.prog HDT.out HSUB.out HM.out ⟨D1, hdk, fun k h => .inl h, hkk⟩
          clear hdk hkk
          have HST2 := Lib.hid hst1
          obtain ⟨A1, A2, A3, c1, c2, c3, hrd1, hbx1⟩ := HST2.out.box
          have HRD1 := Lib.hid hrd1
          have HBX := Lib.hid hbx1
          obtain ⟨vB, hF⟩ := DEn.deed (DEn.keep HL.out (fun k hk => HST2.out.kept.block k hk (HNO.out k)) HST2.out.kept.size) HX.out
          have HC1 := Lib.hid hF.c1
          have HC2 := Lib.hid hF.c2
          have HRB := Lib.hid hF.rd
          clear hst1 hrd1 hbx1 hF
          have HL4 := Lib.hid (load5 w1 gx _ _ _ _ _ _ _ _ _ _ _ HBX.out)
          go_wp2_with (refine DArm.wpList_load (by rfl) 32 (.tmp 7) (by with_reducible rfl) _ _ (by rfl) HL4.out ?_)
          refine (rflush_eq r _ w1 r' ed HRD1.out HQ2.out).mono ?_
          rintro e w2 ⟨v', rfl, hrd, hg⟩
          obtain ⟨w3, hst, hbx, hk⟩ := box_store (DWrite.keepB HBX.out hg) rfl hrd
          have hE2 : ST D0 w g gx w3 d' r' mw := (HST2.out.grew hg).stored hk hbx
          have HSTO := Lib.hid hst
          clear hst hbx hk hrd hg
          go_wp2_with (refine DArm.wpList_store (by rfl) 32 (.tmp 7) (.tmp 133) (by with_reducible rfl) _ _ (by rfl) (by rfl) _ HSTO.out ?_)
          rw [HME.out] at hE2
          have HST3 := Lib.hid hE2
          have HSIM3 := Lib.hid HSTEP.out.2
          have hw1 := HW1.out
          clear hE2
          go_roundg q0
          case measure => omega
          case rel => exact ⟨i + 1, d', r', by omega, by first | rfl | (simp; omega), HST3, HSIM3⟩

        · by_cases k2 : x.kind = 2
          · rw [k2] at hc0
            have hq : (DTurn.fused d x.n, (0 : Int)) = (d', ed) := by have := HPD.out; unfold pstep at this; rw [if_neg k0] at this; rw [if_neg k1] at this; rwa [if_pos k2] at this
            have hq2 : (rfus r x.n, (0 : Int)) = (r', ed) := by have := HPR.out; unfold rstep at this; rw [if_neg k0] at this; rw [if_neg k1] at this; rwa [if_pos k2] at this
            injection hq with hq hq8
            injection hq2 with hq2 hq9
            have HQ := Lib.hid hq
            have HQ2 := Lib.hid hq2
            clear k0 k1 k2 hq hq2 hq8 hq9
            have hcn := HC1.out
            go_wp2_with fail
            refine (DTurn.fuse_any wi g D1 d x.n HXN.out HDT.out.1).mono ?_
            rintro e w1 ⟨rfl, hdk, hkk⟩
            rw [HQ.out] at hdk
            have hst1 : ST D0 w g gx w1 d' r mw := HST.out.prog HDT.out HSUB.out HM.out ⟨D1, hdk, fun k h => .inl h, hkk⟩
            clear hdk hkk hcn
            have HST2 := Lib.hid hst1
            obtain ⟨A1, A2, A3, c1, c2, c3, hrd1, hbx1⟩ := HST2.out.box
            have HRD1 := Lib.hid hrd1
            have HBX := Lib.hid hbx1
            obtain ⟨vB, hF⟩ := DEn.deed (DEn.keep HL.out (fun k hk => HST2.out.kept.block k hk (HNO.out k)) HST2.out.kept.size) HX.out
            have HC1 := Lib.hid hF.c1
            have HC2 := Lib.hid hF.c2
            have HRB := Lib.hid hF.rd
            clear hst1 hrd1 hbx1 hF
            go_wp2
            refine Chain.wp_chain [6, 7] (Chain.on 6 (S7 w1 r' (fun y => ST D0 w g gx y d' r' mw))) (by kernel_rfl) (by kernel_rfl) ((Grew.refl _).drew) ?_
            apply Marks.Lex.exact [] (dv A1 A2 A3 r.now.length r.safe.length r.waits.length c1 c2 c3 r.fuse r.off) (by kernel_rfl)
            · intro m u W hm hcl hJ _
              have hC := hJ.first hm 6 rfl (by decide)
              exact DWrite.one_load rfl 32 (.tmp 7) rfl _ _ rfl (load5 W gx _ _ _ _ _ _ _ _ _ _ _ (DWrite.keepB HBX.out (show Grew w1 W from hC))) ⟨trivial, hJ.same 0 _ (by rfl), rfl⟩
            simp only [Act.put, List.setIfInBounds_toArray, List.set_cons_zero, List.set_cons_succ, Nat.zero_add]
            apply Marks.Lex.exact [] _ (by kernel_rfl)
            · intro m u W hm hcl hJ _
              unfold Marks.one
              go_simp
              exact ⟨trivial, hJ.same 1 _ (by rfl), rfl⟩
            simp only [Act.put, List.setIfInBounds_toArray, List.set_cons_zero, List.set_cons_succ, Nat.reduceAdd]
            apply Marks.Lex.exact [] _ (by kernel_rfl)
            · intro m u W hm hcl hJ _
              unfold Marks.one
              go_simp
              exact ⟨trivial, hJ.same 2 _ (by rfl), rfl⟩
            simp only [Act.put, List.setIfInBounds_toArray, List.set_cons_zero, List.set_cons_succ, Nat.reduceAdd]
            apply Marks.Lex.exact [] _ (by kernel_rfl)
            · intro m u W hm hcl hJ _
              unfold Marks.one
              go_simp
              exact ⟨trivial, hJ.same 3 _ (by rfl), rfl⟩
            simp only [Act.put, List.setIfInBounds_toArray, List.set_cons_zero, List.set_cons_succ, Nat.reduceAdd]
            apply Marks.Lex.exact [] _ (by kernel_rfl)
            · intro m u W hm hcl hJ _
              unfold Marks.one
              go_simp
              exact ⟨trivial, hJ.same 4 _ (by rfl), rfl⟩
            simp only [Act.put, List.setIfInBounds_toArray, List.set_cons_zero, List.set_cons_succ, Nat.reduceAdd]
            apply Marks.Lex.exact [] (.int .i64 x.n) (by kernel_rfl)
            · intro m u W hm hcl hJ _
              have hC := hJ.first hm 6 rfl (by decide)
              have c1 : W.cell? ⟨(ad.add (i * 3)).block, (ad.add (i * 3)).off + 1, none⟩ = some (.int .i64 x.n) := DWrite.cellB (show Grew w1 W from hC) HC1.out
              have c2 : W.cell? ⟨(ad.add (i * 3)).block, (ad.add (i * 3)).off + 2, none⟩ = some vB := DWrite.cellB (show Grew w1 W from hC) HC2.out
              unfold Marks.one
              go_simp
              exact ⟨trivial, hJ.same 5 _ (by rfl), rfl⟩
            simp only [Act.put, List.setIfInBounds_toArray, List.set_cons_zero, List.set_cons_succ, Nat.reduceAdd]
            apply Marks.Lex.know [] (fun _ _ => True) (by kernel_rfl) (fun _ _ _ _ _ => trivial)
            · intro m u W hm hcl hJ _
              obtain ⟨hP, hput⟩ := hJ.put 0 rfl hm hcl (by decide) (by decide)
              have hC : Grew w1 W := hP
              unfold Marks.one
              go_simp
              refine Chain.come_enter ?_
              refine (rfuse_eq r _ x.n W r' (HRD1.out.grew hC) HXN.out HQ2.out).mono ?_
              rintro e w' ⟨v', rfl, hrd, hg⟩
              exact ⟨_, rfl, trivial, hput _ w' (fun _ => Chain.on_put (show S7 _ _ _ 1 _ _ from ⟨hC.trans hg, hrd⟩)), trivial⟩
            simp only [Act.put, List.setIfInBounds_toArray, List.set_cons_zero, List.set_cons_succ, Nat.reduceAdd]
            apply Marks.Lex.exact [] (undef) (by kernel_rfl)
            · intro m u W hm hcl hJ _
              obtain ⟨hP, hput⟩ := hJ.put 1 rfl hm hcl (by decide) (by decide)
              obtain ⟨hC, hrd⟩ := hP
              obtain ⟨w', hst, hbx, hk⟩ := box_store (DWrite.keepB HBX.out hC) rfl hrd
              exact DWrite.one_store rfl 32 (.tmp 7) (.tmp 150) rfl _ _ rfl rfl w' hst ⟨trivial, hput undef w' (fun _ => Chain.on_keep (by rfl) (show S7 _ _ _ 2 _ _ from (HST2.out.grew hC).stored hk hbx)), rfl⟩
            simp only [Act.put, List.setIfInBounds_toArray, List.set_cons_zero, List.set_cons_succ, Nat.reduceAdd]
            refine Marks.Lex.done fun m0 u W' hm hJ _ => ?_
            have hE2 : S7 _ _ _ 2 (u 6) W' := hJ.done (by intro k hk; exact hm k (by simp at hk; omega))
            clear hJ hm
            rw [HME.out] at hE2
            have HST3 := Lib.hid hE2
            have HSIM3 := Lib.hid HSTEP.out.2
            have hw1 := HW1.out
            clear hE2
            go_wp2
            go_roundg q0
            case measure => omega
            case rel => exact ⟨i + 1, d', r', by omega, by first | rfl | (simp; omega), HST3, HSIM3⟩

          · by_cases k3 : x.kind = 3
            · rw [k3] at hc0
              have hq : (DFlush.crashed d x.b, (0 : Int)) = (d', ed) := by have := HPD.out; unfold pstep at this; rw [if_neg k0] at this; rw [if_neg k1] at this; rw [if_neg k2] at this; rwa [if_pos k3] at this
              have hq2 : (rcrash r x.b, (0 : Int)) = (r', ed) := by have := HPR.out; unfold rstep at this; rw [if_neg k0] at this; rw [if_neg k1] at this; rw [if_neg k2] at this; rwa [if_pos k3] at this
              injection hq with hq hq8
              injection hq2 with hq2 hq9
              have HQ := Lib.hid hq
              have HQ2 := Lib.hid hq2
              clear k0 k1 k2 k3 hq hq2 hq8 hq9
              have hcn := HC2.out
              obtain ⟨AB, cB, eB, _⟩ := id HRB.out
              subst eB
              go_wp2_with fail
              refine (DFlush.crash_any wi g D1 d _ _ x.b HDT.out.1 HRB.out HNS.out (Nat.le_trans HWI.out (by omega))).mono ?_
              rintro e w1 ⟨rfl, hdk, hkk⟩
              rw [HQ.out] at hdk
              have hst1 : ST D0 w g gx w1 d' r mw := HST.out.prog HDT.out HSUB.out HM.out ⟨D1, hdk, fun k h => .inl h, hkk⟩
              clear hdk hkk hcn
              have HST2 := Lib.hid hst1
              obtain ⟨A1, A2, A3, c1, c2, c3, hrd1, hbx1⟩ := HST2.out.box
              have HRD1 := Lib.hid hrd1
              have HBX := Lib.hid hbx1
              obtain ⟨vB, hF⟩ := DEn.deed (DEn.keep HL.out (fun k hk => HST2.out.kept.block k hk (HNO.out k)) HST2.out.kept.size) HX.out
              have HC1 := Lib.hid hF.c1
              have HC2 := Lib.hid hF.c2
              have HRB := Lib.hid hF.rd
              clear hst1 hrd1 hbx1 hF
              go_wp2
              refine Chain.wp_chain [6, 7] (Chain.on 6 (S7 w1 r' (fun y => ST D0 w g gx y d' r' mw))) (by kernel_rfl) (by kernel_rfl) ((Grew.refl _).drew) ?_
              apply Marks.Lex.exact [] (dv A1 A2 A3 r.now.length r.safe.length r.waits.length c1 c2 c3 r.fuse r.off) (by kernel_rfl)
              · intro m u W hm hcl hJ _
                have hC := hJ.first hm 6 rfl (by decide)
                exact DWrite.one_load rfl 32 (.tmp 7) rfl _ _ rfl (load5 W gx _ _ _ _ _ _ _ _ _ _ _ (DWrite.keepB HBX.out (show Grew w1 W from hC))) ⟨trivial, hJ.same 0 _ (by rfl), rfl⟩
              simp only [Act.put, List.setIfInBounds_toArray, List.set_cons_zero, List.set_cons_succ, Nat.zero_add]
              apply Marks.Lex.exact [] _ (by kernel_rfl)
              · intro m u W hm hcl hJ _
                unfold Marks.one
                go_simp
                exact ⟨trivial, hJ.same 1 _ (by rfl), rfl⟩
              simp only [Act.put, List.setIfInBounds_toArray, List.set_cons_zero, List.set_cons_succ, Nat.reduceAdd]
              apply Marks.Lex.exact [] _ (by kernel_rfl)
              · intro m u W hm hcl hJ _
                unfold Marks.one
                go_simp
                exact ⟨trivial, hJ.same 2 _ (by rfl), rfl⟩
              simp only [Act.put, List.setIfInBounds_toArray, List.set_cons_zero, List.set_cons_succ, Nat.reduceAdd]
              apply Marks.Lex.exact [] _ (by kernel_rfl)
              · intro m u W hm hcl hJ _
                unfold Marks.one
                go_simp
                exact ⟨trivial, hJ.same 3 _ (by rfl), rfl⟩
              simp only [Act.put, List.setIfInBounds_toArray, List.set_cons_zero, List.set_cons_succ, Nat.reduceAdd]
              apply Marks.Lex.exact [] _ (by kernel_rfl)
              · intro m u W hm hcl hJ _
                unfold Marks.one
                go_simp
                exact ⟨trivial, hJ.same 4 _ (by rfl), rfl⟩
              simp only [Act.put, List.setIfInBounds_toArray, List.set_cons_zero, List.set_cons_succ, Nat.reduceAdd]
              apply Marks.Lex.exact [] (vB) (by kernel_rfl)
              · intro m u W hm hcl hJ _
                have hC := hJ.first hm 6 rfl (by decide)
                have c1 : W.cell? ⟨(ad.add (i * 3)).block, (ad.add (i * 3)).off + 1, none⟩ = some (.int .i64 x.n) := DWrite.cellB (show Grew w1 W from hC) HC1.out
                have c2 : W.cell? ⟨(ad.add (i * 3)).block, (ad.add (i * 3)).off + 2, none⟩ = some vB := DWrite.cellB (show Grew w1 W from hC) HC2.out
                unfold Marks.one
                go_simp
                exact ⟨trivial, hJ.same 5 _ (by rfl), rfl⟩
              simp only [Act.put, List.setIfInBounds_toArray, List.set_cons_zero, List.set_cons_succ, Nat.reduceAdd]
              apply Marks.Lex.know [] (fun _ _ => True) (by kernel_rfl) (fun _ _ _ _ _ => trivial)
              · intro m u W hm hcl hJ _
                obtain ⟨hP, hput⟩ := hJ.put 0 rfl hm hcl (by decide) (by decide)
                have hC : Grew w1 W := hP
                unfold Marks.one
                go_simp
                refine Chain.come_enter ?_
                refine (rcrash_eq r _ vB _ x.b W r' (HRD1.out.grew hC) (HRB.out.grew hC) HSIM.out HPOK.out.n1 HPOK.out.n2 HRW.out HQ2.out).mono ?_
                rintro e w' ⟨v', rfl, hrd, hg⟩
                exact ⟨_, rfl, trivial, hput _ w' (fun _ => Chain.on_put (show S7 _ _ _ 1 _ _ from ⟨hC.trans hg, hrd⟩)), trivial⟩
              simp only [Act.put, List.setIfInBounds_toArray, List.set_cons_zero, List.set_cons_succ, Nat.reduceAdd]
              apply Marks.Lex.exact [] (undef) (by kernel_rfl)
              · intro m u W hm hcl hJ _
                obtain ⟨hP, hput⟩ := hJ.put 1 rfl hm hcl (by decide) (by decide)
                obtain ⟨hC, hrd⟩ := hP
                obtain ⟨w', hst, hbx, hk⟩ := box_store (DWrite.keepB HBX.out hC) rfl hrd
                exact DWrite.one_store rfl 32 (.tmp 7) (.tmp 166) rfl _ _ rfl rfl w' hst ⟨trivial, hput undef w' (fun _ => Chain.on_keep (by rfl) (show S7 _ _ _ 2 _ _ from (HST2.out.grew hC).stored hk hbx)), rfl⟩
              simp only [Act.put, List.setIfInBounds_toArray, List.set_cons_zero, List.set_cons_succ, Nat.reduceAdd]
              refine Marks.Lex.done fun m0 u W' hm hJ _ => ?_
              have hE2 : S7 _ _ _ 2 (u 6) W' := hJ.done (by intro k hk; exact hm k (by simp at hk; omega))
              clear hJ hm
              rw [HME.out] at hE2
              have HST3 := Lib.hid hE2
              have HSIM3 := Lib.hid HSTEP.out.2
              have hw1 := HW1.out
              clear hE2
              go_wp2
              go_roundg q0
              case measure => omega
              case rel => exact ⟨i + 1, d', r', by omega, by first | rfl | (simp; omega), HST3, HSIM3⟩

            · have b0 : (x.kind == 0) = false := by simpa using k0
              have b1 : (x.kind == 1) = false := by simpa using k1
              have b2 : (x.kind == 2) = false := by simpa using k2
              have b3 : (x.kind == 3) = false := by simpa using k3
              have hq : (d, (0 : Int)) = (d', ed) := by have := HPD.out; unfold pstep at this; rw [if_neg k0, if_neg k1, if_neg k2, if_neg k3] at this; exact this
              have hq2 : (r, (0 : Int)) = (r', ed) := by have := HPR.out; unfold rstep at this; rw [if_neg k0, if_neg k1, if_neg k2, if_neg k3] at this; exact this
              injection hq with hq hq8
              injection hq2 with hq2 hq9
              clear hq8 hq9
              subst hq hq2
              obtain ⟨⟨B, er⟩, hre⟩ : ∃ y, rread r.now r.off x.n = y := ⟨_, rfl⟩
              have HRE := Lib.hid hre
              have HRDO := Lib.hid ((HSIM.out.read x.n).trans hre)
              clear hre
              have hcn := HC1.out
              go_wp2_with fail
              refine (DAlive.read_eq wi g D1 d x.n B er HDT.out.1 HRDO.out).mono ?_
              rintro e w1 ⟨vr, rfl, hvr, hg1⟩
              have hst1 : ST D0 w g gx w1 d r mw := by
                have h := HST.out.grew hg1
                exact ⟨h.ex, h.box, HM.out, h.kept, h.new⟩
              have HVR := Lib.hid hvr
              clear hg1 hvr hcn
              have HST2 := Lib.hid hst1
              obtain ⟨A1, A2, A3, c1, c2, c3, hrd1, hbx1⟩ := HST2.out.box
              have HRD1 := Lib.hid hrd1
              have HBX := Lib.hid hbx1
              obtain ⟨vB, hF⟩ := DEn.deed (DEn.keep HL.out (fun k hk => HST2.out.kept.block k hk (HNO.out k)) HST2.out.kept.size) HX.out
              have HC1 := Lib.hid hF.c1
              have HC2 := Lib.hid hF.c2
              have HRB := Lib.hid hF.rd
              clear hst1 hrd1 hbx1 hF
              go_wp2
              refine Facts.wp_region_text (by kernel_rfl) (by kernel_rfl) ?_
              apply Facts.Lex.exact [] (dv A1 A2 A3 r.now.length r.safe.length r.waits.length c1 c2 c3 r.fuse r.off) (by kernel_rfl)
              · intro u W hC _
                exact fone_load rfl 32 (.tmp 7) rfl _ _ rfl (load5 W gx _ _ _ _ _ _ _ _ _ _ _ (DWrite.keepB HBX.out hC)) ⟨Grew.refl _, rfl⟩
              simp only [Act.put, List.setIfInBounds_toArray, List.set_cons_zero, List.set_cons_succ, Nat.zero_add]
              apply Facts.Lex.exact [] _ (by kernel_rfl)
              · intro u W hC _
                unfold Facts.one
                go_simp
                first | exact ⟨Grew.refl _, rfl⟩ | rfl
              simp only [Act.put, List.setIfInBounds_toArray, List.set_cons_zero, List.set_cons_succ, Nat.reduceAdd]
              apply Facts.Lex.exact [] _ (by kernel_rfl)
              · intro u W hC _
                unfold Facts.one
                go_simp
                first | exact ⟨Grew.refl _, rfl⟩ | rfl
              simp only [Act.put, List.setIfInBounds_toArray, List.set_cons_zero, List.set_cons_succ, Nat.reduceAdd]
              apply Facts.Lex.exact [] _ (by kernel_rfl)
              · intro u W hC _
                unfold Facts.one
                go_simp
                first | exact ⟨Grew.refl _, rfl⟩ | rfl
              simp only [Act.put, List.setIfInBounds_toArray, List.set_cons_zero, List.set_cons_succ, Nat.reduceAdd]
              apply Facts.Lex.exact [] _ (by kernel_rfl)
              · intro u W hC _
                unfold Facts.one
                go_simp
                first | exact ⟨Grew.refl _, rfl⟩ | rfl
              simp only [Act.put, List.setIfInBounds_toArray, List.set_cons_zero, List.set_cons_succ, Nat.reduceAdd]
              apply Facts.Lex.exact [] (.int .i64 x.n) (by kernel_rfl)
              · intro u W hC _
                have c1 : W.cell? ⟨(ad.add (i * 3)).block, (ad.add (i * 3)).off + 1, none⟩ = some (.int .i64 x.n) := DWrite.cellB hC HC1.out
                unfold Facts.one
                go_simp
                first | exact ⟨Grew.refl _, rfl⟩ | rfl
              simp only [Act.put, List.setIfInBounds_toArray, List.set_cons_zero, List.set_cons_succ, Nat.reduceAdd]
              apply Facts.Lex.exact [] (.tuple #[sv B, .int .i64 er]) (by kernel_rfl)
              · intro u W hC _
                unfold Facts.one
                go_simp
                refine (rread_eq r _ x.n W B er (HRD1.out.grew hC) HRE.out).mono ?_
                rintro e w' ⟨rfl, hg⟩
                exact ⟨_, rfl, hg, rfl⟩
              simp only [Act.put, List.setIfInBounds_toArray, List.set_cons_zero, List.set_cons_succ, Nat.reduceAdd]
              apply Facts.Lex.exact [] _ (by kernel_rfl)
              · intro u W hC _
                unfold Facts.one
                go_simp
                first | exact ⟨Grew.refl _, rfl⟩ | rfl
              simp only [Act.put, List.setIfInBounds_toArray, List.set_cons_zero, List.set_cons_succ, Nat.reduceAdd]
              apply Facts.Lex.exact [] _ (by kernel_rfl)
              · intro u W hC _
                unfold Facts.one
                go_simp
                first | exact ⟨Grew.refl _, rfl⟩ | rfl
              simp only [Act.put, List.setIfInBounds_toArray, List.set_cons_zero, List.set_cons_succ, Nat.reduceAdd]
              apply Facts.Lex.exact [] _ (by kernel_rfl)
              · intro u W hC _
                unfold Facts.one
                go_simp
                first | exact ⟨Grew.refl _, rfl⟩ | rfl
              simp only [Act.put, List.setIfInBounds_toArray, List.set_cons_zero, List.set_cons_succ, Nat.reduceAdd]
              apply Facts.Lex.exact [] _ (by kernel_rfl)
              · intro u W hC _
                unfold Facts.one
                go_simp
                first | exact ⟨Grew.refl _, rfl⟩ | rfl
              simp only [Act.put, List.setIfInBounds_toArray, List.set_cons_zero, List.set_cons_succ, Nat.reduceAdd]
              apply Facts.Lex.exact [] _ (by kernel_rfl)
              · intro u W hC _
                unfold Facts.one
                go_simp
                first | exact ⟨Grew.refl _, rfl⟩ | rfl
              simp only [Act.put, List.setIfInBounds_toArray, List.set_cons_zero, List.set_cons_succ, Nat.reduceAdd]
              refine Facts.Lex.done fun u W hC _ => ?_
              have hcv := conv34 (HVR.out.grew hC)
              have hE2 : ST D0 w g gx W d r mw := HST2.out.grew hC
              clear hC
              unfold sv
              rw [HME.out] at hE2
              have HST3 := Lib.hid hE2
              have HSIM3 := Lib.hid HSTEP.out.2
              have hw1 := HW1.out
              clear hE2
              go_wp2
              go_roundg q0
              case measure => omega
              case rel => exact ⟨i + 1, d, r, by omega, by first | rfl | (simp; omega), HST3, HSIM3⟩

    · obtain ⟨D1, hDT, hsub⟩ := HST.out.ex
      obtain ⟨A1, A2, A3, c1, c2, c3, hrd0, hbx0⟩ := HST.out.box
      have hpok : DSmall.POk d := by
        obtain ⟨_, _, _, _, _, _, h0, _⟩ := hDT.1
        exact h0.ok
      have HDT := Lib.hid hDT
      have HRD0 := Lib.hid hrd0
      have HBX := Lib.hid hbx0
      have HRN : Hid (r.now.length ≤ 16384) := Lib.hid (by rw [HSIM.out.len]; exact hpok.n2)
      have hD0 := HD0.out
      have HGW : Hid (Grew w wi) := Lib.hid (by subst hD0; exact kept_grew HST.out.kept)
      clear hDT hsub hrd0 hbx0 hpok hD0 hL3
      by_cases hi1 : (i : Int) < (L.length : Int)
      all_goals
        try (have hi2 : ¬ (i : Int) < 60 := by omega)
        clear hc
        go_wp2_with fail
        refine (alive_same _).mono ?_
        rintro e w1 ⟨rfl, hg1⟩
        have HGW1 := Lib.hid (HGW.out.trans hg1)
        have HL4 := Lib.hid (load5 w1 gx _ _ _ _ _ _ _ _ _ _ _ (DWrite.keepB HBX.out hg1))
        have HSM := Lib.hid (DLawB.same_any w1 g D1 d _ r (HDT.out.1.grew hg1) (HRD0.out.grew hg1) HSIM.out HRN.out)
        clear hg1
        go_wp2_with (refine wload (by rfl) 32 (.tmp 7) (by with_reducible rfl) _ _ (by rfl) HL4.out ?_)
        refine HSM.out.mono ?_
        rintro e w2 ⟨rfl, hg2⟩
        have HGW2 := Lib.hid (HGW1.out.trans hg2)
        clear hg2
        go_wp2
        go_ret
        exact ⟨rfl, HGW2.out⟩

end Go.Proofs.Ytiajjkjdmcoodaa.DTells
