/-
  The law's own helpers: both disks have the same.
  Conditions: none beyond those that each lemma names.
-/
import Derived.Test.YtiajjkjdmcoodaaDLawA
namespace Go.Proofs.Ytiajjkjdmcoodaa.DLawB
set_option maxRecDepth 100000
open Go Go.RowKit Go.Proofs.Ytiajjkjdmcoodaa Go.Proofs.Ytiajjkjdmcoodaa.Facts Go.Proofs.Ytiajjkjdmcoodaa.Bytes Go.Proofs.Ytiajjkjdmcoodaa.DKeep Go.Proofs.Ytiajjkjdmcoodaa.DSmall Go.Proofs.Ytiajjkjdmcoodaa.DRead Go.Proofs.Ytiajjkjdmcoodaa.DRefA Go.Proofs.Ytiajjkjdmcoodaa.DRefB Go.Proofs.Ytiajjkjdmcoodaa.DRefC Go.Proofs.Ytiajjkjdmcoodaa.DSim Go.Proofs.Ytiajjkjdmcoodaa.DKeepsH Go.Proofs.Ytiajjkjdmcoodaa.DRefD Go.Proofs.Ytiajjkjdmcoodaa.DRefE Go.Proofs.Ytiajjkjdmcoodaa.DOpens Go.Proofs.Ytiajjkjdmcoodaa.DLawA

set_option maxHeartbeats 4000000 in
theorem same_any (w : World) (g : Nat) (D : Nat → Prop) (d : Pd) (v : Value) (r : Rp) (hd : DK w g D d) (hv : RD w v r) (hs : Sim d r) (hn : r.now.length ≤ 16384) :
    Calls Try.prog 21 #[dptr g, v] w fun e w' => e = .returned (.bool true) ∧ Grew w w' := by
  obtain ⟨⟨A1, A2, A3, c1, c2, c3, rfl, _⟩, _⟩ := id hv
  have HD := Lib.hid hd
  have HV := Lib.hid hv
  have HS := Lib.hid hs
  have HN := Lib.hid hn
  have hb0 := heap_alloc_new w (.cells (d5 A1 A2 A3 r.now.length r.safe.length r.waits.length c1 c2 c3 r.fuse r.off).toArray 32)
  have HB0 := Lib.hid hb0
  have HG0 : Hid (Grew w (w.alloc (.cells (d5 A1 A2 A3 r.now.length r.safe.length r.waits.length c1 c2 c3 r.fuse r.off).toArray 32))) := Lib.hid (grew_new _)
  clear hd hv hs hn hb0
  unfold d5 at HB0 HG0
  unfold dptr dv
  go_enter Try.func21, Try.ntmps21
  go_wp2
  go_loopg [5] r.now.length (fun q s5 wx => ∃ (i : Nat), i + q = r.now.length ∧ s5 = .int .i64 i ∧ Hid (wx.heap[w.heap.size]? = some (.cells (d5 A1 A2 A3 r.now.length r.safe.length r.waits.length c1 c2 c3 r.fuse r.off).toArray 32 (0, 0))) ∧ Hid (Grew w wx))
  case atStart => exact ⟨0, Nat.zero_add _, rfl, HB0, HG0⟩
  case round =>
    obtain ⟨i, hiq, rfl, HB, HG⟩ := hrel
    clear HB0 HG0
    generalize wr = wi at *
    have C0 : wi.cell? ⟨w.heap.size, 0, none⟩ = some (.slice A1 r.now.length c1) := cell_of_row _ _ _ _ _ _ HB.out
    cases gk with
    | succ q =>
      have hil : (i : Int) < (r.now.length : Int) := by omega
      obtain ⟨⟨B, e⟩, hre⟩ : ∃ x, rread r.now r.off (i : Int) = x := ⟨_, rfl⟩
      have hrd : readOf d (i : Int) = (B, e) := (HS.out.read i).trans hre
      have HRE := Lib.hid hre
      have HRD := Lib.hid hrd
      have hw1 : IntKind.i64.wrap ((i : Int) + 1) = (i : Int) + 1 := IntWalk.i64_in _ (by have := HN.out; omega)
      have HW1 := Lib.hid hw1
      clear hre hrd hw1
      go_wp2_with fail
      refine (DAlive.read_eq wi g D d (i : Int) B e (HD.out.grew HG.out) HRD.out).mono ?_
      rintro e1 w1 ⟨vb, rfl, hrb, hg1⟩
      have HG1 := Lib.hid (HG.out.trans hg1)
      have HB1 := Lib.hid (DWrite.keepB HB.out hg1)
      have L1 := load5 w1 w.heap.size _ _ _ _ _ _ _ _ _ _ _ HB1.out
      have HL1 := Lib.hid L1
      have HRB := Lib.hid hrb
      clear hg1 C0 HG HB hrb L1
      go_wp2_with (refine DArm.wpList_load (by rfl) 32 (.tmp 3) (by with_reducible rfl) _ _ (by rfl) HL1.out ?_)
      have hrr := rread_rd r (dv A1 A2 A3 r.now.length r.safe.length r.waits.length c1 c2 c3 r.fuse r.off) (i : Int) w1 (HV.out.grew HG1.out)
      rw [HRE.out] at hrr
      refine hrr.mono ?_
      rintro e2 w2 ⟨rfl, hg2⟩
      have HG2 := Lib.hid (HG1.out.trans hg2)
      have HB2 := Lib.hid (DWrite.keepB HB1.out hg2)
      have hcv := conv34 (HRB.out.grew hg2)
      have hw1 := HW1.out
      clear hg2 HG1 HB1 HL1 hrr HRB HRE HRD
      unfold sv
      go_wp2
      go_roundg q
      case measure => omega
      case rel => exact ⟨i + 1, by omega, by first | rfl | (simp; omega), HB2, HG2⟩
    | zero =>
      obtain rfl : i = r.now.length := by omega
      have hil : ¬ (r.now.length : Int) < (r.now.length : Int) := by omega
      have HC0 := Lib.hid C0
      have HC4 : Hid (wi.cell? ⟨w.heap.size, 4, none⟩ = some (.bool r.off)) := Lib.hid (cell_of_row _ _ _ _ _ _ HB.out)
      have HC2 : Hid (wi.cell? ⟨w.heap.size, 2, none⟩ = some (.slice A3 r.waits.length c3)) := Lib.hid (cell_of_row _ _ _ _ _ _ HB.out)
      have HSZ : Hid (∀ W, Grew wi W → Calls Try.prog 9 #[.pointer (some ⟨g, 0, none⟩)] W fun e w' => e = .returned (.int .i64 (r.now.length : Int)) ∧ W = w') := Lib.hid fun W hg => by
        have := size_any W g D d (HD.out.grew (HG.out.trans hg))
        rwa [← HS.out.len] at this
      have HOF : Hid (∀ W, Grew wi W → Calls Try.prog 25 #[.pointer (some ⟨g, 0, none⟩)] W fun e w' => e = .returned (.bool r.off) ∧ W = w') := Lib.hid fun W hg => by
        have := off_any W g D d (HD.out.grew (HG.out.trans hg))
        rwa [← HS.out.off] at this
      have HWT : Hid (∀ W, Grew wi W → Calls Try.prog 26 #[.pointer (some ⟨g, 0, none⟩)] W fun e w' => e = .returned (.int .i64 (r.waits.length : Int)) ∧ W = w') := Lib.hid fun W hg => by
        have := waits_any W g D d (HD.out.grew (HG.out.trans hg))
        rwa [← HS.out.waits] at this
      go_wp2
      refine Facts.wp_region_text (by kernel_rfl) (by kernel_rfl) ?_
      apply Facts.Lex.exact [] _ (by kernel_rfl)
      · intro u W hC _
        unfold Facts.one
        go_simp
        first | exact ⟨Grew.refl _, rfl⟩ | rfl
      simp only [Act.put, List.setIfInBounds_toArray, List.set_cons_zero, List.set_cons_succ, Nat.zero_add]
      apply Facts.Lex.exact [] (.int .i64 (r.now.length : Int)) (by kernel_rfl)
      · intro u W hC _
        unfold Facts.one
        go_simp
        refine (HSZ.out W hC).mono ?_
        rintro e w' ⟨rfl, rfl⟩
        exact ⟨_, rfl, Grew.refl _, rfl⟩
      simp only [Act.put, List.setIfInBounds_toArray, List.set_cons_zero, List.set_cons_succ, Nat.reduceAdd]
      apply Facts.Lex.exact [] _ (by kernel_rfl)
      · intro u W hC _
        unfold Facts.one
        go_simp
        first | exact ⟨Grew.refl _, rfl⟩ | rfl
      simp only [Act.put, List.setIfInBounds_toArray, List.set_cons_zero, List.set_cons_succ, Nat.reduceAdd]
      apply Facts.Lex.exact [] _ (by kernel_rfl)
      · intro u W hC _
        have d0 := DWrite.cellB hC HC0.out
        unfold Facts.one
        go_simp
        first | exact ⟨Grew.refl _, rfl⟩ | rfl
      simp only [Act.put, List.setIfInBounds_toArray, List.set_cons_zero, List.set_cons_succ, Nat.reduceAdd]
      apply Facts.Lex.exact [] _ (by kernel_rfl)
      · intro u W hC _
        unfold Facts.one
        go_simp
        first | exact ⟨Grew.refl _, rfl⟩ | rfl
      simp only [Act.put, List.setIfInBounds_toArray, List.set_cons_zero, List.set_cons_succ, Nat.reduceAdd]
      apply Facts.Lex.exact [] (.bool true) (by kernel_rfl)
      · intro u W hC _
        unfold Facts.one
        go_simp
        first | exact ⟨Grew.refl _, rfl⟩ | rfl
      simp only [Act.put, List.setIfInBounds_toArray, List.set_cons_zero, List.set_cons_succ, Nat.reduceAdd]
      apply Facts.Lex.exact [] _ (by kernel_rfl)
      · intro u W hC _
        unfold Facts.one
        go_simp
        first | exact ⟨Grew.refl _, rfl⟩ | rfl
      simp only [Act.put, List.setIfInBounds_toArray, List.set_cons_zero, List.set_cons_succ, Nat.reduceAdd]
      apply Facts.Lex.exact [] _ (by kernel_rfl)
      · intro u W hC _
        unfold Facts.one
        go_simp
        first | exact ⟨Grew.refl _, rfl⟩ | rfl
      simp only [Act.put, List.setIfInBounds_toArray, List.set_cons_zero, List.set_cons_succ, Nat.reduceAdd]
      apply Facts.Lex.exact [] (.bool r.off) (by kernel_rfl)
      · intro u W hC _
        unfold Facts.one
        go_simp
        refine (HOF.out W hC).mono ?_
        rintro e w' ⟨rfl, rfl⟩
        exact ⟨_, rfl, Grew.refl _, rfl⟩
      simp only [Act.put, List.setIfInBounds_toArray, List.set_cons_zero, List.set_cons_succ, Nat.reduceAdd]
      apply Facts.Lex.exact [] _ (by kernel_rfl)
      · intro u W hC _
        unfold Facts.one
        go_simp
        first | exact ⟨Grew.refl _, rfl⟩ | rfl
      simp only [Act.put, List.setIfInBounds_toArray, List.set_cons_zero, List.set_cons_succ, Nat.reduceAdd]
      apply Facts.Lex.exact [] _ (by kernel_rfl)
      · intro u W hC _
        have d4 := DWrite.cellB hC HC4.out
        unfold Facts.one
        go_simp
        first | exact ⟨Grew.refl _, rfl⟩ | rfl
      simp only [Act.put, List.setIfInBounds_toArray, List.set_cons_zero, List.set_cons_succ, Nat.reduceAdd]
      apply Facts.Lex.exact [] (.bool true) (by kernel_rfl)
      · intro u W hC _
        unfold Facts.one
        go_simp
        first | exact ⟨Grew.refl _, rfl⟩ | rfl
      simp only [Act.put, List.setIfInBounds_toArray, List.set_cons_zero, List.set_cons_succ, Nat.reduceAdd]
      apply Facts.Lex.exact [] _ (by kernel_rfl)
      · intro u W hC _
        unfold Facts.one
        go_simp
        first | exact ⟨Grew.refl _, rfl⟩ | rfl
      simp only [Act.put, List.setIfInBounds_toArray, List.set_cons_zero, List.set_cons_succ, Nat.reduceAdd]
      apply Facts.Lex.exact [] _ (by kernel_rfl)
      · intro u W hC _
        unfold Facts.one
        go_simp
        first | exact ⟨Grew.refl _, rfl⟩ | rfl
      simp only [Act.put, List.setIfInBounds_toArray, List.set_cons_zero, List.set_cons_succ, Nat.reduceAdd]
      apply Facts.Lex.exact [] _ (by kernel_rfl)
      · intro u W hC _
        unfold Facts.one
        go_simp
        first | exact ⟨Grew.refl _, rfl⟩ | rfl
      simp only [Act.put, List.setIfInBounds_toArray, List.set_cons_zero, List.set_cons_succ, Nat.reduceAdd]
      apply Facts.Lex.exact [] (.int .i64 (r.waits.length : Int)) (by kernel_rfl)
      · intro u W hC _
        unfold Facts.one
        go_simp
        refine (HWT.out W hC).mono ?_
        rintro e w' ⟨rfl, rfl⟩
        exact ⟨_, rfl, Grew.refl _, rfl⟩
      simp only [Act.put, List.setIfInBounds_toArray, List.set_cons_zero, List.set_cons_succ, Nat.reduceAdd]
      apply Facts.Lex.exact [] _ (by kernel_rfl)
      · intro u W hC _
        unfold Facts.one
        go_simp
        first | exact ⟨Grew.refl _, rfl⟩ | rfl
      simp only [Act.put, List.setIfInBounds_toArray, List.set_cons_zero, List.set_cons_succ, Nat.reduceAdd]
      apply Facts.Lex.exact [] _ (by kernel_rfl)
      · intro u W hC _
        have d2 := DWrite.cellB hC HC2.out
        unfold Facts.one
        go_simp
        first | exact ⟨Grew.refl _, rfl⟩ | rfl
      simp only [Act.put, List.setIfInBounds_toArray, List.set_cons_zero, List.set_cons_succ, Nat.reduceAdd]
      apply Facts.Lex.exact [] _ (by kernel_rfl)
      · intro u W hC _
        unfold Facts.one
        go_simp
        first | exact ⟨Grew.refl _, rfl⟩ | rfl
      simp only [Act.put, List.setIfInBounds_toArray, List.set_cons_zero, List.set_cons_succ, Nat.reduceAdd]
      apply Facts.Lex.exact [] (.bool true) (by kernel_rfl)
      · intro u W hC _
        unfold Facts.one
        go_simp
        first | exact ⟨Grew.refl _, rfl⟩ | rfl
      simp only [Act.put, List.setIfInBounds_toArray, List.set_cons_zero, List.set_cons_succ, Nat.reduceAdd]
      apply Facts.Lex.exact [] _ (by kernel_rfl)
      · intro u W hC _
        unfold Facts.one
        go_simp
        first | exact ⟨Grew.refl _, rfl⟩ | rfl
      simp only [Act.put, List.setIfInBounds_toArray, List.set_cons_zero, List.set_cons_succ, Nat.reduceAdd]
      apply Facts.Lex.exact [] _ (by kernel_rfl)
      · intro u W hC _
        unfold Facts.one
        go_simp
        first | exact ⟨Grew.refl _, rfl⟩ | rfl
      simp only [Act.put, List.setIfInBounds_toArray, List.set_cons_zero, List.set_cons_succ, Nat.reduceAdd]
      refine Facts.Lex.done fun u W hC _ => ?_

      have HGW := Lib.hid (HG.out.trans hC)
      clear hC
      go_wp2
      go_ret
      exact ⟨rfl, HGW.out⟩
end Go.Proofs.Ytiajjkjdmcoodaa.DLawB
