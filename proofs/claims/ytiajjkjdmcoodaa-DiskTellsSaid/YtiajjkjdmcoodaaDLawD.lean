/-
  Deeds, one behind the other, done to both disks.
  Conditions: none beyond those that each lemma names.
-/
import Derived.Test.YtiajjkjdmcoodaaDLawC
namespace Go.Proofs.Ytiajjkjdmcoodaa.DLawD
set_option maxRecDepth 100000
open Go Go.RowKit Go.Proofs.Ytiajjkjdmcoodaa Go.Proofs.Ytiajjkjdmcoodaa.Facts Go.Proofs.Ytiajjkjdmcoodaa.Bytes Go.Proofs.Ytiajjkjdmcoodaa.DKeep Go.Proofs.Ytiajjkjdmcoodaa.DSmall Go.Proofs.Ytiajjkjdmcoodaa.DRead Go.Proofs.Ytiajjkjdmcoodaa.DRefA Go.Proofs.Ytiajjkjdmcoodaa.DRefB Go.Proofs.Ytiajjkjdmcoodaa.DRefC Go.Proofs.Ytiajjkjdmcoodaa.DSim Go.Proofs.Ytiajjkjdmcoodaa.DKeepsH Go.Proofs.Ytiajjkjdmcoodaa.DRefD Go.Proofs.Ytiajjkjdmcoodaa.DRefE Go.Proofs.Ytiajjkjdmcoodaa.DOpens Go.Proofs.Ytiajjkjdmcoodaa.DLawA Go.Proofs.Ytiajjkjdmcoodaa.DLawC

/-- What a round of deeds needs of its deed. -/
structure DF (N : Nat) (wi : World) (ad : Addr) (i : Nat) (x : De) (vB : Value) : Prop where
  c0 : wi.cell? (ad.add (i * 3)) = some (.int .i64 x.kind)
  c1 : wi.cell? ⟨(ad.add (i * 3)).block, (ad.add (i * 3)).off + 1, none⟩ = some (.int .i64 x.n)
  c2 : wi.cell? ⟨(ad.add (i * 3)).block, (ad.add (i * 3)).off + 2, none⟩ = some vB
  rd : Rd (fun b => b < N) wi vB x.b
  n1 : -9223372036854775808 ≤ x.n
  n2 : x.n ≤ 9223372036854775807
theorem DEn.deed {N : Nat} {w : World} {ad : Addr} {c : Nat} {L : List De} {i : Nat} {x : De} (h : DEn N w (some ad) c L) (hx : L[i]? = some x) : ∃ vB, DF N w ad i x vB := by
  obtain ⟨h1, h2, ⟨h3, h3'⟩, _, vB, h4, h5⟩ := h.2.2.2 ad rfl i x hx
  refine ⟨vB, h1, ?_, ?_, h5, h3, h3'⟩
  · have e : ad.add (i * 3 + 1) = (ad.add (i * 3)).add 1 := by rw [add_add']
    rw [e] at h2
    exact h2
  · have e : ad.add (i * 3 + 2) = (ad.add (i * 3)).add 2 := by rw [add_add']
    rw [e] at h4
    exact h4

set_option maxHeartbeats 8000000 in
theorem run_any (N : Nat) (w : World) (g : Nat) (D0 : Nat → Prop) (d0 : Pd) (v : Value) (r0 : Rp) (A : Option Addr) (c : Nat) (L : List De) (hd : DT w g D0 d0) (hv : RD w v r0) (hs : Sim d0 r0) (hw : d0.waits.length ≤ 1000) (hL : DEn N w A c L) (hN : ∀ k, D0 k → N ≤ k) (hNw : N ≤ w.heap.size) :
    Calls Try.prog 22 #[dptr g, v, .slice A L.length c] w fun e w' => ∃ v' D' d' r', e = .returned v' ∧ DT w' g D' d' ∧ RD w' v' r' ∧ Sim d' r' ∧ d'.waits.length ≤ d0.waits.length + 40 ∧ (∀ k, D' k → D0 k ∨ w.heap.size ≤ k) ∧ Kept D0 w w' := by
  obtain ⟨⟨B1, B2, B3, e1, e2, e3, rfl, _⟩, _⟩ := id hv
  obtain ⟨gx, hgx⟩ : ∃ gx, gx = w.heap.size := ⟨_, rfl⟩
  obtain ⟨gr, hgr⟩ : ∃ gr, gr = w.heap.size + 1 := ⟨_, rfl⟩
  have HD0 := Lib.hid hd
  have HW0 := Lib.hid hw
  have HL := Lib.hid hL
  have HN := Lib.hid hN
  have HNW := Lib.hid hNw
  have hb0 := heapA w (.cells (d5 B1 B2 B3 r0.now.length r0.safe.length r0.waits.length e1 e2 e3 r0.fuse r0.off).toArray 32) (.cells #[.slice none 0 0, .slice none 0 0, .slice none 0 0, .int .i64 0, .bool false] 32)
  have hb1 := heapB w (.cells (d5 B1 B2 B3 r0.now.length r0.safe.length r0.waits.length e1 e2 e3 r0.fuse r0.off).toArray 32) (.cells #[.slice none 0 0, .slice none 0 0, .slice none 0 0, .int .i64 0, .bool false] 32)
  have g0 : Grew w ((w.alloc (.cells (d5 B1 B2 B3 r0.now.length r0.safe.length r0.waits.length e1 e2 e3 r0.fuse r0.off).toArray 32)).alloc (.cells #[.slice none 0 0, .slice none 0 0, .slice none 0 0, .int .i64 0, .bool false] 32)) := (grew_new (w := w) _).trans (grew_new _)
  have HST0 : Hid (ST D0 w g gx ((w.alloc (.cells (d5 B1 B2 B3 r0.now.length r0.safe.length r0.waits.length e1 e2 e3 r0.fuse r0.off).toArray 32)).alloc (.cells #[.slice none 0 0, .slice none 0 0, .slice none 0 0, .int .i64 0, .bool false] 32)) d0 r0 (d0.waits.length + 0)) := Lib.hid ⟨⟨D0, DT_grew hd g0, fun k hk => .inl hk⟩, ⟨B1, B2, B3, e1, e2, e3, hv.grew g0, by rw [hgx]; exact hb0⟩, Nat.le_refl _, Kept.of_grew g0, by rw [hgx]; exact Nat.le_refl _⟩
  have HRB0' : Hid (RB gr ((w.alloc (.cells (d5 B1 B2 B3 r0.now.length r0.safe.length r0.waits.length e1 e2 e3 r0.fuse r0.off).toArray 32)).alloc (.cells #[.slice none 0 0, .slice none 0 0, .slice none 0 0, .int .i64 0, .bool false] 32))) := Lib.hid (by rw [hgr]; exact hb1)
  have HNE : Hid (gr ≠ gx) := Lib.hid (by omega)
  have HGRN : Hid (w.heap.size ≤ gr) := Lib.hid (by omega)
  have HSIM0 := Lib.hid hs
  obtain ⟨hL1, hL2, hL3, _⟩ := id hL
  clear hd hv hs hw hL hN hNw hb0 hb1 g0
  unfold d5 at HST0 HRB0'
  unfold dptr dv
  go_enter Try.func22, Try.ntmps22
  go_wp2
  rw [← hgr, ← hgx]
  clear hgr hgx
  go_loopg [7] 40 (fun q s7 wx => ∃ (i : Nat) (d : Pd) (r : Rp), i + q = 40 ∧ s7 = .int .i64 i ∧ Hid (ST D0 w g gx wx d r (d0.waits.length + i)) ∧ Hid (RB gr wx) ∧ Hid (Sim d r))
  case atStart => exact ⟨0, d0, r0, Nat.zero_add _, rfl, HST0, HRB0', HSIM0⟩
  case round =>
    obtain ⟨i, d, r, hiq, rfl, HST, HRB0, HSIM⟩ := hrel
    clear HST0 HRB0' HSIM0
    generalize wr = wi at *
    by_cases hc : (i : Int) < (L.length : Int) ∧ (i : Int) < 40
    · obtain ⟨hc1, hc2⟩ := hc
      obtain ⟨q0, rfl⟩ : ∃ q0, gk = q0 + 1 := ⟨gk - 1, by omega⟩
      have hil : i < L.length := by omega
      obtain ⟨x, hx⟩ : ∃ x, L[i]? = some x := ⟨_, List.getElem?_eq_getElem hil⟩
      obtain ⟨ad, rfl⟩ : ∃ ad, A = some ad := by
        cases A with
        | none => have := hL3 rfl; omega
        | some ad => exact ⟨ad, rfl⟩
      have hLi := DEn.keep HL.out (fun k hk => HST.out.kept.block k (Nat.lt_of_lt_of_le hk HNW.out) (fun hd => by have := HN.out k hd; omega)) HST.out.kept.size
      obtain ⟨vB, hF⟩ := DEn.deed hLi hx
      have hc0 := hF.c0
      have HC1 := Lib.hid hF.c1
      have HC2 := Lib.hid hF.c2
      have HRB := Lib.hid hF.rd
      have HXN := Lib.hid hF.n2
      obtain ⟨mw, hmw⟩ : ∃ mw, mw = d0.waits.length + (i + 1) := ⟨_, rfl⟩
      have HME := Lib.hid hmw
      obtain ⟨D1, hDT, hsub⟩ := HST.out.ex
      have HDT := Lib.hid hDT
      have HSUB := Lib.hid hsub
      have HPOK : Hid (DSmall.POk d) := Lib.hid (by
        obtain ⟨_, _, _, _, _, _, h0, _⟩ := hDT.1
        exact h0.ok)
      obtain ⟨A1, A2, A3, c1, c2, c3, hrd0, hbx0⟩ := HST.out.box
      have HRD0 := Lib.hid hrd0
      have HBX := Lib.hid hbx0
      have HRN : Hid (r.now.length ≤ 16384) := Lib.hid (by rw [HSIM.out.len]; exact HPOK.out.n2)
      have HRW : Hid (r.waits.length ≤ 1073741823) := Lib.hid (by rw [HSIM.out.waits]; have := HST.out.wt; have := HW0.out; omega)
      clear hDT hsub hrd0 hbx0
      have HSTEP := Lib.hid (Sim.step HSIM.out x HXN.out)
      have HPW := Lib.hid (pstep_waits d x)
      have HWI : Hid (d.waits.length ≤ 1073741823) := Lib.hid (by have := HST.out.wt; have := HW0.out; omega)
      have HNS : Hid (∀ b, b < N → ¬ D1 b) := Lib.hid fun b hb hd => by
        rcases HSUB.out b hd with h | h
        · have := HN.out b h; omega
        · have := HNW.out; omega
      obtain ⟨⟨d', ed⟩, hpd⟩ : ∃ y, pstep d x = y := ⟨_, rfl⟩
      obtain ⟨⟨r', er⟩, hpr⟩ : ∃ y, rstep r x = y := ⟨_, rfl⟩
      rw [hpd, hpr] at HSTEP
      rw [hpd] at HPW
      have HM : Hid (d'.waits.length ≤ mw) := Lib.hid (by rw [hmw]; have := HPW.out; have := HST.out.wt; simp only at *; omega)
      have HPD := Lib.hid hpd
      have HPR := Lib.hid hpr
      have HW1 : Hid (IntKind.i64.wrap ((i : Int) + 1) = (i : Int) + 1) := Lib.hid (IntWalk.i64_in _ (by omega))
      have HX := Lib.hid hx
      clear hF hLi hx hmw hpd hpr
      by_cases k0 : x.kind = 0
      · rw [k0] at hc0
        have hq : DWrite.written d x.n x.b = (d', ed) := by have := HPD.out; unfold pstep at this; rwa [if_pos k0] at this
        have hq2 : rwritten r x.n x.b = (r', er) := by have := HPR.out; unfold rstep at this; rwa [if_pos k0] at this
        have HQ := Lib.hid hq
        have HQ2 := Lib.hid hq2
        clear k0 hq hq2
        go_wp2
        refine Chain.wp_chain [11] (Chain.on 11 (S6 wi (fun y => ST D0 w g gx y d' r mw ∧ RB gr y))) (by kernel_rfl) (by kernel_rfl) ((Grew.refl _).drew) ?_
        apply Marks.Lex.exact [] _ (by kernel_rfl)
        · intro m u W hm hcl hJ _
          unfold Marks.one
          go_simp
          exact ⟨trivial, hJ.same 0 _ (by rfl), rfl⟩
        simp only [Act.put, List.setIfInBounds_toArray, List.set_cons_zero, List.set_cons_succ, Nat.zero_add]
        apply Marks.Lex.exact [] _ (by kernel_rfl)
        · intro m u W hm hcl hJ _
          unfold Marks.one
          go_simp
          exact ⟨trivial, hJ.same 1 _ (by rfl), rfl⟩
        simp only [Act.put, List.setIfInBounds_toArray, List.set_cons_zero, List.set_cons_succ, Nat.reduceAdd]
        apply Marks.Lex.exact [] _ (by kernel_rfl)
        · intro m u W hm hcl hJ _
          unfold Marks.one
          go_simp
          exact ⟨trivial, hJ.same 2 _ (by rfl), rfl⟩
        simp only [Act.put, List.setIfInBounds_toArray, List.set_cons_zero, List.set_cons_succ, Nat.reduceAdd]
        apply Marks.Lex.exact [] _ (by kernel_rfl)
        · intro m u W hm hcl hJ _
          unfold Marks.one
          go_simp
          exact ⟨trivial, hJ.same 3 _ (by rfl), rfl⟩
        simp only [Act.put, List.setIfInBounds_toArray, List.set_cons_zero, List.set_cons_succ, Nat.reduceAdd]
        apply Marks.Lex.exact [] _ (by kernel_rfl)
        · intro m u W hm hcl hJ _
          unfold Marks.one
          go_simp
          exact ⟨trivial, hJ.same 4 _ (by rfl), rfl⟩
        simp only [Act.put, List.setIfInBounds_toArray, List.set_cons_zero, List.set_cons_succ, Nat.reduceAdd]
        apply Marks.Lex.exact [] (.int .i64 x.n) (by kernel_rfl)
        · intro m u W hm hcl hJ _
          have hC := hJ.first hm 11 rfl (by decide)
          have c1 : W.cell? ⟨(ad.add (i * 3)).block, (ad.add (i * 3)).off + 1, none⟩ = some (.int .i64 x.n) := DWrite.cellB hC HC1.out
          have c2 : W.cell? ⟨(ad.add (i * 3)).block, (ad.add (i * 3)).off + 2, none⟩ = some vB := DWrite.cellB hC HC2.out
          unfold Marks.one
          go_simp
          exact ⟨trivial, hJ.same 5 _ (by rfl), rfl⟩
        simp only [Act.put, List.setIfInBounds_toArray, List.set_cons_zero, List.set_cons_succ, Nat.reduceAdd]
        apply Marks.Lex.exact [] _ (by kernel_rfl)
        · intro m u W hm hcl hJ _
          unfold Marks.one
          go_simp
          exact ⟨trivial, hJ.same 6 _ (by rfl), rfl⟩
        simp only [Act.put, List.setIfInBounds_toArray, List.set_cons_zero, List.set_cons_succ, Nat.reduceAdd]
        apply Marks.Lex.exact [] _ (by kernel_rfl)
        · intro m u W hm hcl hJ _
          unfold Marks.one
          go_simp
          exact ⟨trivial, hJ.same 7 _ (by rfl), rfl⟩
        simp only [Act.put, List.setIfInBounds_toArray, List.set_cons_zero, List.set_cons_succ, Nat.reduceAdd]
        apply Marks.Lex.exact [] _ (by kernel_rfl)
        · intro m u W hm hcl hJ _
          unfold Marks.one
          go_simp
          exact ⟨trivial, hJ.same 8 _ (by rfl), rfl⟩
        simp only [Act.put, List.setIfInBounds_toArray, List.set_cons_zero, List.set_cons_succ, Nat.reduceAdd]
        apply Marks.Lex.exact [] _ (by kernel_rfl)
        · intro m u W hm hcl hJ _
          unfold Marks.one
          go_simp
          exact ⟨trivial, hJ.same 9 _ (by rfl), rfl⟩
        simp only [Act.put, List.setIfInBounds_toArray, List.set_cons_zero, List.set_cons_succ, Nat.reduceAdd]
        apply Marks.Lex.exact [] (vB) (by kernel_rfl)
        · intro m u W hm hcl hJ _
          have hC := hJ.first hm 11 rfl (by decide)
          have c1 : W.cell? ⟨(ad.add (i * 3)).block, (ad.add (i * 3)).off + 1, none⟩ = some (.int .i64 x.n) := DWrite.cellB hC HC1.out
          have c2 : W.cell? ⟨(ad.add (i * 3)).block, (ad.add (i * 3)).off + 2, none⟩ = some vB := DWrite.cellB hC HC2.out
          unfold Marks.one
          go_simp
          exact ⟨trivial, hJ.same 10 _ (by rfl), rfl⟩
        simp only [Act.put, List.setIfInBounds_toArray, List.set_cons_zero, List.set_cons_succ, Nat.reduceAdd]
        apply Marks.Lex.exact [] (.int .i64 ed) (by kernel_rfl)
        · intro m u W hm hcl hJ _
          obtain ⟨hP, hput⟩ := hJ.put 0 rfl hm hcl (by decide) (by decide)
          have hC : Grew wi W := hP
          unfold Marks.one
          go_simp
          refine Chain.come_enter ?_
          refine (DAlive.write_eq W g D1 d x.n vB _ x.b d' ed (HDT.out.1.grew hC) (HRB.out.grew hC) HWI.out HQ.out).mono ?_
          rintro e w' ⟨rfl, hx⟩
          exact ⟨_, rfl, trivial, hput _ w' (fun _ => Chain.on_put (show S6 _ _ 1 _ _ from ⟨(HST.out.grew hC).prog (DT_grew HDT.out hC) HSUB.out HM.out hx, RB.prog (DT_grew HDT.out hC) (HRB0.out.grew hC) hx⟩)), rfl⟩
        simp only [Act.put, List.setIfInBounds_toArray, List.set_cons_zero, List.set_cons_succ, Nat.reduceAdd]
        refine Marks.Lex.done fun m0 u W' hm hJ _ => ?_
        have hE : S6 _ _ 1 (u 11) W' := hJ.done (by intro k hk; exact hm k (by simp at hk; omega))
        clear hJ hm

        obtain ⟨hst1, hrb1⟩ := hE
        generalize W' = w1 at *
        have HST2 := Lib.hid hst1
        have HRB2 := Lib.hid hrb1
        obtain ⟨A1, A2, A3, c1, c2, c3, hrd1, hbx1⟩ := HST2.out.box
        have HRD1 := Lib.hid hrd1
        have HBX := Lib.hid hbx1
        obtain ⟨vB, hF⟩ := DEn.deed (DEn.keep HL.out (fun k hk => HST2.out.kept.block k (Nat.lt_of_lt_of_le hk HNW.out) (fun hd => by have := HN.out k hd; omega)) HST2.out.kept.size) HX.out
        have HC1 := Lib.hid hF.c1
        have HC2 := Lib.hid hF.c2
        have HRB := Lib.hid hF.rd
        clear hst1 hrb1 hrd1 hbx1 hF
        go_wp2
        refine Chain.wp_chain [11, 12, 13, 15] (P7 11 12 13 w1 r' er (fun y => ST D0 w g gx y d' r' mw ∧ RB gr y)) (by kernel_rfl) (by kernel_rfl) ((Grew.refl _).drew) ?_
        apply Marks.Lex.exact [] (dv A1 A2 A3 r.now.length r.safe.length r.waits.length c1 c2 c3 r.fuse r.off) (by kernel_rfl)
        · intro m u W hm hcl hJ _
          have hC := hJ.first hm 11 rfl (by decide)
          exact DWrite.one_load rfl 32 (.tmp 4) rfl _ _ rfl (load5 W gx _ _ _ _ _ _ _ _ _ _ _ (DWrite.keepB HBX.out (show Grew w1 W from hC))) ⟨trivial, hJ.quiet (k := 0) _ (by rfl) (fun ii hh => P7.upd (by rfl) hh), rfl⟩
        simp only [Act.put, List.setIfInBounds_toArray, List.set_cons_zero, List.set_cons_succ, Nat.zero_add]
        apply Marks.Lex.exact [] _ (by kernel_rfl)
        · intro m u W hm hcl hJ _
          unfold Marks.one
          go_simp
          exact ⟨trivial, hJ.quiet (k := 1) _ (by rfl) (fun ii hh => P7.upd (by rfl) hh), rfl⟩
        simp only [Act.put, List.setIfInBounds_toArray, List.set_cons_zero, List.set_cons_succ, Nat.reduceAdd]
        apply Marks.Lex.exact [] _ (by kernel_rfl)
        · intro m u W hm hcl hJ _
          unfold Marks.one
          go_simp
          exact ⟨trivial, hJ.quiet (k := 2) _ (by rfl) (fun ii hh => P7.upd (by rfl) hh), rfl⟩
        simp only [Act.put, List.setIfInBounds_toArray, List.set_cons_zero, List.set_cons_succ, Nat.reduceAdd]
        apply Marks.Lex.exact [] _ (by kernel_rfl)
        · intro m u W hm hcl hJ _
          unfold Marks.one
          go_simp
          exact ⟨trivial, hJ.quiet (k := 3) _ (by rfl) (fun ii hh => P7.upd (by rfl) hh), rfl⟩
        simp only [Act.put, List.setIfInBounds_toArray, List.set_cons_zero, List.set_cons_succ, Nat.reduceAdd]
        apply Marks.Lex.exact [] _ (by kernel_rfl)
        · intro m u W hm hcl hJ _
          unfold Marks.one
          go_simp
          exact ⟨trivial, hJ.quiet (k := 4) _ (by rfl) (fun ii hh => P7.upd (by rfl) hh), rfl⟩
        simp only [Act.put, List.setIfInBounds_toArray, List.set_cons_zero, List.set_cons_succ, Nat.reduceAdd]
        apply Marks.Lex.exact [] (.int .i64 x.n) (by kernel_rfl)
        · intro m u W hm hcl hJ _
          have hC := hJ.first hm 11 rfl (by decide)
          have c1 : W.cell? ⟨(ad.add (i * 3)).block, (ad.add (i * 3)).off + 1, none⟩ = some (.int .i64 x.n) := DWrite.cellB (show Grew w1 W from hC) HC1.out
          have c2 : W.cell? ⟨(ad.add (i * 3)).block, (ad.add (i * 3)).off + 2, none⟩ = some vB := DWrite.cellB (show Grew w1 W from hC) HC2.out
          unfold Marks.one
          go_simp
          exact ⟨trivial, hJ.quiet (k := 5) _ (by rfl) (fun ii hh => P7.upd (by rfl) hh), rfl⟩
        simp only [Act.put, List.setIfInBounds_toArray, List.set_cons_zero, List.set_cons_succ, Nat.reduceAdd]
        apply Marks.Lex.exact [] _ (by kernel_rfl)
        · intro m u W hm hcl hJ _
          unfold Marks.one
          go_simp
          exact ⟨trivial, hJ.quiet (k := 6) _ (by rfl) (fun ii hh => P7.upd (by rfl) hh), rfl⟩
        simp only [Act.put, List.setIfInBounds_toArray, List.set_cons_zero, List.set_cons_succ, Nat.reduceAdd]
        apply Marks.Lex.exact [] _ (by kernel_rfl)
        · intro m u W hm hcl hJ _
          unfold Marks.one
          go_simp
          exact ⟨trivial, hJ.quiet (k := 7) _ (by rfl) (fun ii hh => P7.upd (by rfl) hh), rfl⟩
        simp only [Act.put, List.setIfInBounds_toArray, List.set_cons_zero, List.set_cons_succ, Nat.reduceAdd]
        apply Marks.Lex.exact [] _ (by kernel_rfl)
        · intro m u W hm hcl hJ _
          unfold Marks.one
          go_simp
          exact ⟨trivial, hJ.quiet (k := 8) _ (by rfl) (fun ii hh => P7.upd (by rfl) hh), rfl⟩
        simp only [Act.put, List.setIfInBounds_toArray, List.set_cons_zero, List.set_cons_succ, Nat.reduceAdd]
        apply Marks.Lex.exact [] _ (by kernel_rfl)
        · intro m u W hm hcl hJ _
          unfold Marks.one
          go_simp
          exact ⟨trivial, hJ.quiet (k := 9) _ (by rfl) (fun ii hh => P7.upd (by rfl) hh), rfl⟩
        simp only [Act.put, List.setIfInBounds_toArray, List.set_cons_zero, List.set_cons_succ, Nat.reduceAdd]
        apply Marks.Lex.exact [] (vB) (by kernel_rfl)
        · intro m u W hm hcl hJ _
          have hC := hJ.first hm 11 rfl (by decide)
          have c1 : W.cell? ⟨(ad.add (i * 3)).block, (ad.add (i * 3)).off + 1, none⟩ = some (.int .i64 x.n) := DWrite.cellB (show Grew w1 W from hC) HC1.out
          have c2 : W.cell? ⟨(ad.add (i * 3)).block, (ad.add (i * 3)).off + 2, none⟩ = some vB := DWrite.cellB (show Grew w1 W from hC) HC2.out
          unfold Marks.one
          go_simp
          exact ⟨trivial, hJ.quiet (k := 10) _ (by rfl) (fun ii hh => P7.upd (by rfl) hh), rfl⟩
        simp only [Act.put, List.setIfInBounds_toArray, List.set_cons_zero, List.set_cons_succ, Nat.reduceAdd]
        apply Marks.Lex.know [] (fun _ _ => True) (by kernel_rfl) (fun _ _ _ _ _ => trivial)
        · intro m u W hm hcl hJ _
          obtain ⟨hP, hput⟩ := hJ.put 0 rfl hm hcl (by decide) (by decide)
          have hC : Grew w1 W := hP
          unfold Marks.one
          go_simp
          refine Chain.come_enter ?_
          refine (rwrite_eq r _ vB x.n _ x.b W r' er (HRD1.out.grew hC) (HRB.out.grew hC) HRN.out HRW.out HQ2.out).mono ?_
          rintro e w' ⟨v', rfl, hrd, hg⟩
          exact ⟨_, rfl, trivial, hput _ w' (fun _ => (show T7 _ _ _ _ 1 _ _ _ _ from by rw [Marks.updv_same]; exact ⟨hC.trans hg, v', rfl, hrd⟩)), trivial⟩
        simp only [Act.put, List.setIfInBounds_toArray, List.set_cons_zero, List.set_cons_succ, Nat.reduceAdd]
        apply Marks.Lex.know [] (fun _ _ => True) (by kernel_rfl) (fun _ _ _ _ _ => trivial)
        · intro m u W hm hcl hJ _
          obtain ⟨hP, hput⟩ := hJ.put 1 rfl hm hcl (by decide) (by decide)
          obtain ⟨hC, v', e11, hrd⟩ := hP
          exact one_move rfl (.tmp 49) rfl rfl ⟨trivial, hput _ W (fun _ => (show T7 _ _ _ _ 2 _ _ _ _ from by rw [Marks.updv_same]; exact ⟨hC, v', e11, hrd⟩)), trivial⟩
        simp only [Act.put, List.setIfInBounds_toArray, List.set_cons_zero, List.set_cons_succ, Nat.reduceAdd]
        apply Marks.Lex.know [] (fun _ _ => True) (by kernel_rfl) (fun _ _ _ _ _ => trivial)
        · intro m u W hm hcl hJ _
          obtain ⟨hP, hput⟩ := hJ.put 2 rfl hm hcl (by decide) (by decide)
          obtain ⟨hC, v', e12, hrd⟩ := hP
          exact one_extract rfl (.tmp 37) 0 rfl _ e12 (v := v') rfl ⟨trivial, hput v' W (fun _ => (show T7 _ _ _ _ 3 _ _ _ _ from by rw [Marks.updv_same, Marks.updv_other _ _ (by omega)]; exact ⟨hC, e12, hrd⟩)), trivial⟩
        simp only [Act.put, List.setIfInBounds_toArray, List.set_cons_zero, List.set_cons_succ, Nat.reduceAdd]
        apply Marks.Lex.exact [] (.int .i64 er) (by kernel_rfl)
        · intro m u W hm hcl hJ _
          have h12 : m 12 = true := hcl 12 (by decide)
          obtain ⟨ii, hi1, hP⟩ := hJ.least 1 12 rfl h12
          obtain ⟨v', e12⟩ := P7.tup hi1 hP
          exact one_extract rfl (.tmp 37) 1 rfl _ e12 (v := .int .i64 er) rfl ⟨trivial, hJ.quiet (k := 14) _ (by rfl) (fun ii hh => P7.upd (by rfl) hh), rfl⟩
        simp only [Act.put, List.setIfInBounds_toArray, List.set_cons_zero, List.set_cons_succ, Nat.reduceAdd]
        apply Marks.Lex.exact [] (undef) (by kernel_rfl)
        · intro m u W hm hcl hJ _
          obtain ⟨hP, hput⟩ := hJ.put 3 rfl hm hcl (by decide) (by decide)
          obtain ⟨hC, e12, hrd⟩ := hP
          obtain ⟨w', hst, hbx, hk⟩ := box_store (DWrite.keepB HBX.out hC) rfl hrd
          refine DWrite.one_store rfl 32 (.tmp 4) (.tmp 50) rfl _ _ rfl rfl w' hst ⟨trivial, hput undef w' (fun _ => ?_), rfl⟩
          refine P7.upd (by rfl) (i := 4) (show T7 _ _ _ _ 4 _ _ _ _ from ⟨e12, ⟨(HST2.out.grew hC).stored hk hbx, RB.stored HNE.out (HRB2.out.grew hC) hk⟩⟩)
        simp only [Act.put, List.setIfInBounds_toArray, List.set_cons_zero, List.set_cons_succ, Nat.reduceAdd]
        refine Marks.Lex.done fun m0 u W' hm hJ _ => ?_
        have hE : T7 _ _ _ _ 4 _ _ _ W' := hJ.done (by intro k hk; exact hm k (by simp at hk; omega))
        have hE2 := hE.2
        clear hJ hm hE

        obtain ⟨hst3, hrb3⟩ := hE2
        rw [HME.out] at hst3
        have HST3 := Lib.hid hst3
        have HRB3 := Lib.hid hrb3
        have HSIM3 := Lib.hid HSTEP.out.2
        have hw1 := HW1.out
        clear hst3 hrb3
        go_wp2
        go_roundg q0
        case measure => omega
        case rel => exact ⟨i + 1, d', r', by omega, by first | rfl | (simp; omega), HST3, HRB3, HSIM3⟩
      · by_cases k1 : x.kind = 1
        · rw [k1] at hc0
          have hq : DFlush.flushed d = (d', ed) := by have := HPD.out; unfold pstep at this; rw [if_neg k0] at this; rwa [if_pos k1] at this
          have hq2 : rflushed r = (r', er) := by have := HPR.out; unfold rstep at this; rw [if_neg k0] at this; rwa [if_pos k1] at this
          have HQ := Lib.hid hq
          have HQ2 := Lib.hid hq2
          clear k0 k1 hq hq2
          go_wp2_with fail
          refine (DAlive.flush_eq wi g D1 d d' ed HDT.out.1 (Nat.le_trans HWI.out (by omega)) HQ.out).mono ?_
          rintro e w1 ⟨rfl, hdk, hkk⟩
          have hst1 : ST D0 w g gx w1 d' r mw := HST.out.prog HDT.out HSUB.out HM.out ⟨D1, hdk, fun k h => .inl h, hkk⟩
          have hrb1 : RB gr w1 := RB.prog HDT.out HRB0.out ⟨D1, hdk, fun k h => .inl h, hkk⟩
          clear hdk hkk
          have HST2 := Lib.hid hst1
          have HRB2 := Lib.hid hrb1
          obtain ⟨A1, A2, A3, c1, c2, c3, hrd1, hbx1⟩ := HST2.out.box
          have HRD1 := Lib.hid hrd1
          have HBX := Lib.hid hbx1
          obtain ⟨vB, hF⟩ := DEn.deed (DEn.keep HL.out (fun k hk => HST2.out.kept.block k (Nat.lt_of_lt_of_le hk HNW.out) (fun hd => by have := HN.out k hd; omega)) HST2.out.kept.size) HX.out
          have HC1 := Lib.hid hF.c1
          have HC2 := Lib.hid hF.c2
          have HRB := Lib.hid hF.rd
          clear hst1 hrb1 hrd1 hbx1 hF

          have HL4 := Lib.hid (load5 w1 gx _ _ _ _ _ _ _ _ _ _ _ HBX.out)
          go_wp2_with (refine DArm.wpList_load (by rfl) 32 (.tmp 4) (by with_reducible rfl) _ _ (by rfl) HL4.out ?_)
          refine (rflush_eq r _ w1 r' er HRD1.out HQ2.out).mono ?_
          rintro e w2 ⟨v', rfl, hrd, hg⟩
          obtain ⟨w3, hst, hbx, hk⟩ := box_store (DWrite.keepB HBX.out hg) rfl hrd
          have hE2 : ST D0 w g gx w3 d' r' mw ∧ RB gr w3 := ⟨(HST2.out.grew hg).stored hk hbx, RB.stored HNE.out (HRB2.out.grew hg) hk⟩
          have HSTO := Lib.hid hst
          clear hst hbx hk hrd hg
          go_wp2_with (refine DArm.wpList_store (by rfl) 32 (.tmp 4) (.tmp 59) (by with_reducible rfl) _ _ (by rfl) (by rfl) _ HSTO.out ?_)
          obtain ⟨hst3, hrb3⟩ := hE2
          rw [HME.out] at hst3
          have HST3 := Lib.hid hst3
          have HRB3 := Lib.hid hrb3
          have HSIM3 := Lib.hid HSTEP.out.2
          have hw1 := HW1.out
          clear hst3 hrb3
          go_wp2
          go_roundg q0
          case measure => omega
          case rel => exact ⟨i + 1, d', r', by omega, by first | rfl | (simp; omega), HST3, HRB3, HSIM3⟩
        · by_cases k2 : x.kind = 2
          · rw [k2] at hc0
            have hq : (DTurn.fused d x.n, (0 : Int)) = (d', ed) := by have := HPD.out; unfold pstep at this; rw [if_neg k0] at this; rw [if_neg k1] at this; rwa [if_pos k2] at this
            have hq2 : (rfus r x.n, (0 : Int)) = (r', er) := by have := HPR.out; unfold rstep at this; rw [if_neg k0] at this; rw [if_neg k1] at this; rwa [if_pos k2] at this
            have HQ := Lib.hid hq
            have HQ2 := Lib.hid hq2
            injection hq with hq hq8
            injection hq2 with hq2 hq9
            have HQ := Lib.hid hq
            have HQ2 := Lib.hid hq2
            clear k0 k1 k2 hq hq2 hq8 hq9
            have hcn := HC1.out
            go_wp2_with fail
            refine (DTurn.fuse_any wi g D1 d x.n HXN.out HDT.out.1).mono ?_
            rintro e w1 ⟨rfl, hdk, hkk⟩
            rw [HQ.out] at hdk
            have hst1 : ST D0 w g gx w1 d' r mw := HST.out.prog HDT.out HSUB.out HM.out ⟨D1, hdk, fun k h => .inl h, hkk⟩
            have hrb1 : RB gr w1 := RB.prog HDT.out HRB0.out ⟨D1, hdk, fun k h => .inl h, hkk⟩
            clear hdk hkk hcn
            have HST2 := Lib.hid hst1
            have HRB2 := Lib.hid hrb1
            obtain ⟨A1, A2, A3, c1, c2, c3, hrd1, hbx1⟩ := HST2.out.box
            have HRD1 := Lib.hid hrd1
            have HBX := Lib.hid hbx1
            obtain ⟨vB, hF⟩ := DEn.deed (DEn.keep HL.out (fun k hk => HST2.out.kept.block k (Nat.lt_of_lt_of_le hk HNW.out) (fun hd => by have := HN.out k hd; omega)) HST2.out.kept.size) HX.out
            have HC1 := Lib.hid hF.c1
            have HC2 := Lib.hid hF.c2
            have HRB := Lib.hid hF.rd
            clear hst1 hrb1 hrd1 hbx1 hF

            go_wp2
            refine Chain.wp_chain [6, 7] (Chain.on 6 (S7 w1 r' (fun y => ST D0 w g gx y d' r' mw ∧ RB gr y))) (by kernel_rfl) (by kernel_rfl) ((Grew.refl _).drew) ?_
            apply Marks.Lex.exact [] (dv A1 A2 A3 r.now.length r.safe.length r.waits.length c1 c2 c3 r.fuse r.off) (by kernel_rfl)
            · intro m u W hm hcl hJ _
              have hC := hJ.first hm 6 rfl (by decide)
              exact DWrite.one_load rfl 32 (.tmp 4) rfl _ _ rfl (load5 W gx _ _ _ _ _ _ _ _ _ _ _ (DWrite.keepB HBX.out (show Grew w1 W from hC))) ⟨trivial, hJ.same 0 _ (by rfl), rfl⟩
            simp only [Act.put, List.setIfInBounds_toArray, List.set_cons_zero, List.set_cons_succ, Nat.zero_add]
            apply Marks.Lex.exact [] _ (by kernel_rfl)
            · intro m u W hm hcl hJ _
              unfold Marks.one
              go_simp
              exact ⟨trivial, hJ.same 1 _ (by rfl), rfl⟩
            simp only [Act.put, List.setIfInBounds_toArray, List.set_cons_zero, List.set_cons_succ, Nat.reduceAdd]
            apply Marks.Lex.exact [] _ (by kernel_rfl)
            · intro m u W hm hcl hJ _
              unfold Marks.one
              go_simp
              exact ⟨trivial, hJ.same 2 _ (by rfl), rfl⟩
            simp only [Act.put, List.setIfInBounds_toArray, List.set_cons_zero, List.set_cons_succ, Nat.reduceAdd]
            apply Marks.Lex.exact [] _ (by kernel_rfl)
            · intro m u W hm hcl hJ _
              unfold Marks.one
              go_simp
              exact ⟨trivial, hJ.same 3 _ (by rfl), rfl⟩
            simp only [Act.put, List.setIfInBounds_toArray, List.set_cons_zero, List.set_cons_succ, Nat.reduceAdd]
            apply Marks.Lex.exact [] _ (by kernel_rfl)
            · intro m u W hm hcl hJ _
              unfold Marks.one
              go_simp
              exact ⟨trivial, hJ.same 4 _ (by rfl), rfl⟩
            simp only [Act.put, List.setIfInBounds_toArray, List.set_cons_zero, List.set_cons_succ, Nat.reduceAdd]
            apply Marks.Lex.exact [] (.int .i64 x.n) (by kernel_rfl)
            · intro m u W hm hcl hJ _
              have hC := hJ.first hm 6 rfl (by decide)
              have c1 : W.cell? ⟨(ad.add (i * 3)).block, (ad.add (i * 3)).off + 1, none⟩ = some (.int .i64 x.n) := DWrite.cellB (show Grew w1 W from hC) HC1.out
              have c2 : W.cell? ⟨(ad.add (i * 3)).block, (ad.add (i * 3)).off + 2, none⟩ = some vB := DWrite.cellB (show Grew w1 W from hC) HC2.out
              unfold Marks.one
              go_simp
              exact ⟨trivial, hJ.same 5 _ (by rfl), rfl⟩
            simp only [Act.put, List.setIfInBounds_toArray, List.set_cons_zero, List.set_cons_succ, Nat.reduceAdd]
            apply Marks.Lex.know [] (fun _ _ => True) (by kernel_rfl) (fun _ _ _ _ _ => trivial)
            · intro m u W hm hcl hJ _
              obtain ⟨hP, hput⟩ := hJ.put 0 rfl hm hcl (by decide) (by decide)
              have hC : Grew w1 W := hP
              unfold Marks.one
              go_simp
              refine Chain.come_enter ?_
              refine (rfuse_eq r _ x.n W r' (HRD1.out.grew hC) HXN.out HQ2.out).mono ?_
              rintro e w' ⟨v', rfl, hrd, hg⟩
              exact ⟨_, rfl, trivial, hput _ w' (fun _ => Chain.on_put (show S7 _ _ _ 1 _ _ from ⟨hC.trans hg, hrd⟩)), trivial⟩
            simp only [Act.put, List.setIfInBounds_toArray, List.set_cons_zero, List.set_cons_succ, Nat.reduceAdd]
            apply Marks.Lex.exact [] (undef) (by kernel_rfl)
            · intro m u W hm hcl hJ _
              obtain ⟨hP, hput⟩ := hJ.put 1 rfl hm hcl (by decide) (by decide)
              obtain ⟨hC, hrd⟩ := hP
              obtain ⟨w', hst, hbx, hk⟩ := box_store (DWrite.keepB HBX.out hC) rfl hrd
              exact DWrite.one_store rfl 32 (.tmp 4) (.tmp 76) rfl _ _ rfl rfl w' hst ⟨trivial, hput undef w' (fun _ => Chain.on_keep (by rfl) (show S7 _ _ _ 2 _ _ from ⟨(HST2.out.grew hC).stored hk hbx, RB.stored HNE.out (HRB2.out.grew hC) hk⟩)), rfl⟩
            simp only [Act.put, List.setIfInBounds_toArray, List.set_cons_zero, List.set_cons_succ, Nat.reduceAdd]
            refine Marks.Lex.done fun m0 u W' hm hJ _ => ?_
            have hE2 : S7 _ _ _ 2 (u 6) W' := hJ.done (by intro k hk; exact hm k (by simp at hk; omega))
            clear hJ hm

            obtain ⟨hst3, hrb3⟩ := hE2
            rw [HME.out] at hst3
            have HST3 := Lib.hid hst3
            have HRB3 := Lib.hid hrb3
            have HSIM3 := Lib.hid HSTEP.out.2
            have hw1 := HW1.out
            clear hst3 hrb3
            go_wp2
            go_roundg q0
            case measure => omega
            case rel => exact ⟨i + 1, d', r', by omega, by first | rfl | (simp; omega), HST3, HRB3, HSIM3⟩
          · by_cases k3 : x.kind = 3
            · rw [k3] at hc0
              have hq : (DFlush.crashed d x.b, (0 : Int)) = (d', ed) := by have := HPD.out; unfold pstep at this; rw [if_neg k0] at this; rw [if_neg k1] at this; rw [if_neg k2] at this; rwa [if_pos k3] at this
              have hq2 : (rcrash r x.b, (0 : Int)) = (r', er) := by have := HPR.out; unfold rstep at this; rw [if_neg k0] at this; rw [if_neg k1] at this; rw [if_neg k2] at this; rwa [if_pos k3] at this
              have HQ := Lib.hid hq
              have HQ2 := Lib.hid hq2
              injection hq with hq hq8
              injection hq2 with hq2 hq9
              have HQ := Lib.hid hq
              have HQ2 := Lib.hid hq2
              clear k0 k1 k2 k3 hq hq2 hq8 hq9
              have hcn := HC2.out
              obtain ⟨AB, cB, eB, _⟩ := id HRB.out
              subst eB
              go_wp2_with fail
              refine (DFlush.crash_any wi g D1 d _ _ x.b HDT.out.1 HRB.out HNS.out (Nat.le_trans HWI.out (by omega))).mono ?_
              rintro e w1 ⟨rfl, hdk, hkk⟩
              rw [HQ.out] at hdk
              have hst1 : ST D0 w g gx w1 d' r mw := HST.out.prog HDT.out HSUB.out HM.out ⟨D1, hdk, fun k h => .inl h, hkk⟩
              have hrb1 : RB gr w1 := RB.prog HDT.out HRB0.out ⟨D1, hdk, fun k h => .inl h, hkk⟩
              clear hdk hkk hcn
              have HST2 := Lib.hid hst1
              have HRB2 := Lib.hid hrb1
              obtain ⟨A1, A2, A3, c1, c2, c3, hrd1, hbx1⟩ := HST2.out.box
              have HRD1 := Lib.hid hrd1
              have HBX := Lib.hid hbx1
              obtain ⟨vB, hF⟩ := DEn.deed (DEn.keep HL.out (fun k hk => HST2.out.kept.block k (Nat.lt_of_lt_of_le hk HNW.out) (fun hd => by have := HN.out k hd; omega)) HST2.out.kept.size) HX.out
              have HC1 := Lib.hid hF.c1
              have HC2 := Lib.hid hF.c2
              have HRB := Lib.hid hF.rd
              clear hst1 hrb1 hrd1 hbx1 hF

              go_wp2
              refine Chain.wp_chain [6, 7] (Chain.on 6 (S7 w1 r' (fun y => ST D0 w g gx y d' r' mw ∧ RB gr y))) (by kernel_rfl) (by kernel_rfl) ((Grew.refl _).drew) ?_
              apply Marks.Lex.exact [] (dv A1 A2 A3 r.now.length r.safe.length r.waits.length c1 c2 c3 r.fuse r.off) (by kernel_rfl)
              · intro m u W hm hcl hJ _
                have hC := hJ.first hm 6 rfl (by decide)
                exact DWrite.one_load rfl 32 (.tmp 4) rfl _ _ rfl (load5 W gx _ _ _ _ _ _ _ _ _ _ _ (DWrite.keepB HBX.out (show Grew w1 W from hC))) ⟨trivial, hJ.same 0 _ (by rfl), rfl⟩
              simp only [Act.put, List.setIfInBounds_toArray, List.set_cons_zero, List.set_cons_succ, Nat.zero_add]
              apply Marks.Lex.exact [] _ (by kernel_rfl)
              · intro m u W hm hcl hJ _
                unfold Marks.one
                go_simp
                exact ⟨trivial, hJ.same 1 _ (by rfl), rfl⟩
              simp only [Act.put, List.setIfInBounds_toArray, List.set_cons_zero, List.set_cons_succ, Nat.reduceAdd]
              apply Marks.Lex.exact [] _ (by kernel_rfl)
              · intro m u W hm hcl hJ _
                unfold Marks.one
                go_simp
                exact ⟨trivial, hJ.same 2 _ (by rfl), rfl⟩
              simp only [Act.put, List.setIfInBounds_toArray, List.set_cons_zero, List.set_cons_succ, Nat.reduceAdd]
              apply Marks.Lex.exact [] _ (by kernel_rfl)
              · intro m u W hm hcl hJ _
                unfold Marks.one
                go_simp
                exact ⟨trivial, hJ.same 3 _ (by rfl), rfl⟩
              simp only [Act.put, List.setIfInBounds_toArray, List.set_cons_zero, List.set_cons_succ, Nat.reduceAdd]
              apply Marks.Lex.exact [] _ (by kernel_rfl)
              · intro m u W hm hcl hJ _
                unfold Marks.one
                go_simp
                exact ⟨trivial, hJ.same 4 _ (by rfl), rfl⟩
              simp only [Act.put, List.setIfInBounds_toArray, List.set_cons_zero, List.set_cons_succ, Nat.reduceAdd]
              apply Marks.Lex.exact [] (vB) (by kernel_rfl)
              · intro m u W hm hcl hJ _
                have hC := hJ.first hm 6 rfl (by decide)
                have c1 : W.cell? ⟨(ad.add (i * 3)).block, (ad.add (i * 3)).off + 1, none⟩ = some (.int .i64 x.n) := DWrite.cellB (show Grew w1 W from hC) HC1.out
                have c2 : W.cell? ⟨(ad.add (i * 3)).block, (ad.add (i * 3)).off + 2, none⟩ = some vB := DWrite.cellB (show Grew w1 W from hC) HC2.out
                unfold Marks.one
                go_simp
                exact ⟨trivial, hJ.same 5 _ (by rfl), rfl⟩
              simp only [Act.put, List.setIfInBounds_toArray, List.set_cons_zero, List.set_cons_succ, Nat.reduceAdd]
              apply Marks.Lex.know [] (fun _ _ => True) (by kernel_rfl) (fun _ _ _ _ _ => trivial)
              · intro m u W hm hcl hJ _
                obtain ⟨hP, hput⟩ := hJ.put 0 rfl hm hcl (by decide) (by decide)
                have hC : Grew w1 W := hP
                unfold Marks.one
                go_simp
                refine Chain.come_enter ?_
                refine (rcrash_eq r _ vB _ x.b W r' (HRD1.out.grew hC) (HRB.out.grew hC) HSIM.out HPOK.out.n1 HPOK.out.n2 HRW.out HQ2.out).mono ?_
                rintro e w' ⟨v', rfl, hrd, hg⟩
                exact ⟨_, rfl, trivial, hput _ w' (fun _ => Chain.on_put (show S7 _ _ _ 1 _ _ from ⟨hC.trans hg, hrd⟩)), trivial⟩
              simp only [Act.put, List.setIfInBounds_toArray, List.set_cons_zero, List.set_cons_succ, Nat.reduceAdd]
              apply Marks.Lex.exact [] (undef) (by kernel_rfl)
              · intro m u W hm hcl hJ _
                obtain ⟨hP, hput⟩ := hJ.put 1 rfl hm hcl (by decide) (by decide)
                obtain ⟨hC, hrd⟩ := hP
                obtain ⟨w', hst, hbx, hk⟩ := box_store (DWrite.keepB HBX.out hC) rfl hrd
                exact DWrite.one_store rfl 32 (.tmp 4) (.tmp 92) rfl _ _ rfl rfl w' hst ⟨trivial, hput undef w' (fun _ => Chain.on_keep (by rfl) (show S7 _ _ _ 2 _ _ from ⟨(HST2.out.grew hC).stored hk hbx, RB.stored HNE.out (HRB2.out.grew hC) hk⟩)), rfl⟩
              simp only [Act.put, List.setIfInBounds_toArray, List.set_cons_zero, List.set_cons_succ, Nat.reduceAdd]
              refine Marks.Lex.done fun m0 u W' hm hJ _ => ?_
              have hE2 : S7 _ _ _ 2 (u 6) W' := hJ.done (by intro k hk; exact hm k (by simp at hk; omega))
              clear hJ hm

              obtain ⟨hst3, hrb3⟩ := hE2
              rw [HME.out] at hst3
              have HST3 := Lib.hid hst3
              have HRB3 := Lib.hid hrb3
              have HSIM3 := Lib.hid HSTEP.out.2
              have hw1 := HW1.out
              clear hst3 hrb3
              go_wp2
              go_roundg q0
              case measure => omega
              case rel => exact ⟨i + 1, d', r', by omega, by first | rfl | (simp; omega), HST3, HRB3, HSIM3⟩
            · have b0 : (x.kind == 0) = false := by simpa using k0
              have b1 : (x.kind == 1) = false := by simpa using k1
              have b2 : (x.kind == 2) = false := by simpa using k2
              have b3 : (x.kind == 3) = false := by simpa using k3
              have hq : (d, (0 : Int)) = (d', ed) := by have := HPD.out; unfold pstep at this; rw [if_neg k0, if_neg k1, if_neg k2, if_neg k3] at this; exact this
              have hq2 : (r, (0 : Int)) = (r', er) := by have := HPR.out; unfold rstep at this; rw [if_neg k0, if_neg k1, if_neg k2, if_neg k3] at this; exact this
              injection hq with hq hq8
              injection hq2 with hq2 hq9
              clear hq8 hq9
              subst hq hq2
              have hE2 : ST D0 w g gx wi d r mw ∧ RB gr wi := ⟨⟨HST.out.ex, HST.out.box, HM.out, HST.out.kept, HST.out.new⟩, HRB0.out⟩
              go_wp2
              obtain ⟨hst3, hrb3⟩ := hE2
              rw [HME.out] at hst3
              have HST3 := Lib.hid hst3
              have HRB3 := Lib.hid hrb3
              have HSIM3 := Lib.hid HSTEP.out.2
              have hw1 := HW1.out
              clear hst3 hrb3
              go_roundg q0
              case measure => omega
              case rel => exact ⟨i + 1, d, r, by omega, by first | rfl | (simp; omega), HST3, HRB3, HSIM3⟩
    · obtain ⟨D1, hDT, hsub⟩ := HST.out.ex
      obtain ⟨A1, A2, A3, c1, c2, c3, hrd0, hbx0⟩ := HST.out.box
      have L4 := load5 wi gx _ _ _ _ _ _ _ _ _ _ _ hbx0
      have hrb : wi.heap[gr]? = some (.cells #[.slice none 0 0, .slice none 0 0, .slice none 0 0, .int .i64 0, .bool false] 32 (0, 0)) := HRB0.out
      have S5 := store5 wi gr _ hrb (by simp) A1 A2 A3 r.now.length r.safe.length r.waits.length c1 c2 c3 r.fuse r.off
      have B5 := setRow_heap wi gr _ (d5 A1 A2 A3 r.now.length r.safe.length r.waits.length c1 c2 c3 r.fuse r.off).toArray _ _ hrb
      have K5 : Kept (fun k => k = gr) wi (wi.setRow gr (d5 A1 A2 A3 r.now.length r.safe.length r.waits.length c1 c2 c3 r.fuse r.off).toArray) := ⟨rfl, rfl, rfl, by simp, fun j _ hj => setRow_other wi gr j _ (by omega)⟩
      have L5 := run_loadVar_mid (P := Try.prog) _ gr 0 32 (d5 A1 A2 A3 r.now.length r.safe.length r.waits.length c1 c2 c3 r.fuse r.off) _ (fun j v hv => by rw [cell_of_row _ _ _ _ _ _ B5, Nat.zero_add]; simpa using hv) Try.underlying32 rfl size32
      generalize (wi.setRow gr (d5 A1 A2 A3 r.now.length r.safe.length r.waits.length c1 c2 c3 r.fuse r.off).toArray) = w5 at *
      have hrd5 : RD w5 (dv A1 A2 A3 r.now.length r.safe.length r.waits.length c1 c2 c3 r.fuse r.off) r := RD.kept hrd0 K5 (fun k cur e fz hd hh => by
        subst hd
        rw [hrb] at hh
        cases hh
        exact ⟨by decide, by decide⟩)
      have hne : ∀ k, D1 k → ¬ k = gr := fun k hd he => by
        subst he
        obtain ⟨cur', e', fz', h7, h8⟩ := hDT.2 k hd
        rw [hrb] at h7
        cases h7
        rcases h8 with h8 | h8 | h8 <;> exact absurd h8 (by decide)
      have hdt5 : DT w5 g D1 d := ⟨hDT.1.keep K5 hne, fun k hd => by
        obtain ⟨cur, e, fz, h4, h5⟩ := hDT.2 k hd
        exact ⟨cur, e, fz, (K5.block k (Array.getElem?_eq_some_iff.1 h4).1 (hne k hd)).trans h4, h5⟩⟩
      have HF : Hid (∃ v' D' d' r', (dv A1 A2 A3 r.now.length r.safe.length r.waits.length c1 c2 c3 r.fuse r.off) = v' ∧ DT w5 g D' d' ∧ RD w5 v' r' ∧ Sim d' r' ∧ d'.waits.length ≤ d0.waits.length + 40 ∧ (∀ k, D' k → D0 k ∨ w.heap.size ≤ k) ∧ Kept D0 w w5) := Lib.hid ⟨_, D1, d, r, rfl, hdt5, hrd5, HSIM.out, by have := HST.out.wt; omega, hsub, kept_trans HST.out.kept K5 (fun k hk => .inr (by rw [hk]; exact HGRN.out))⟩
      have HL4 := Lib.hid L4
      have HS5 := Lib.hid S5
      have HL5 := Lib.hid L5
      clear hDT hsub hrd0 hbx0 L4 hrb S5 B5 K5 L5 hrd5 hne hdt5
      by_cases hi1 : (i : Int) < (L.length : Int)
      all_goals
        try (have hi2 : ¬ (i : Int) < 40 := by omega)
        go_wp2_with (first
          | refine DArm.wpList_load (by rfl) 32 (.tmp 4) (by with_reducible rfl) _ _ (by rfl) HL4.out ?_
          | refine DArm.wpList_store (by rfl) 32 (.tmp 6) (.tmp 93) (by with_reducible rfl) _ _ (by rfl) (by rfl) _ HS5.out ?_)
        obtain ⟨v', D', d', r', rfl, hf1, hf⟩ := HF.out
        refine bodyPost_ret (v := dv A1 A2 A3 r.now.length r.safe.length r.waits.length c1 c2 c3 r.fuse r.off) ?_ rfl ⟨_, rfl, D', d', hf1, r', hf⟩
        have hld := HL5.out
        simp [results, Try.results22]
        simp [asAddr, hld, d5, dv]

end Go.Proofs.Ytiajjkjdmcoodaa.DLawD
