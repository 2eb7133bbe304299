/-
  A vault's plan, and what is kept.
  Conditions: those that each lemma names.
-/
import Derived.Test.YtbnicphegbdfnaaSC
import Derived.Test.YtbnicphegbdfnaaJT
namespace Go.Proofs.Ytbnicphegbdfnaa.VA
set_option maxRecDepth 100000
open Go Go.RowKit Go.Proofs.Ytbnicphegbdfnaa Go.Proofs.Ytbnicphegbdfnaa.Facts Go.Proofs.Ytbnicphegbdfnaa.Bytes Go.Proofs.Ytbnicphegbdfnaa.DKeep Go.Proofs.Ytbnicphegbdfnaa.DSmall Go.Proofs.Ytbnicphegbdfnaa.Puts Go.Proofs.Ytbnicphegbdfnaa.SPure Go.Proofs.Ytbnicphegbdfnaa.JA Go.Proofs.Ytbnicphegbdfnaa.JB Go.Proofs.Ytbnicphegbdfnaa.JD Go.Proofs.Ytbnicphegbdfnaa.JE Go.Proofs.Ytbnicphegbdfnaa.JF Go.Proofs.Ytbnicphegbdfnaa.JH Go.Proofs.Ytbnicphegbdfnaa.JQ Go.Proofs.Ytbnicphegbdfnaa.AP Go.Proofs.Ytbnicphegbdfnaa.AQ Go.Proofs.Ytbnicphegbdfnaa.AA Go.Proofs.Ytbnicphegbdfnaa.AW Go.Proofs.Ytbnicphegbdfnaa.AV Go.Proofs.Ytbnicphegbdfnaa.AC Go.Proofs.Ytbnicphegbdfnaa.DS Go.Proofs.Ytbnicphegbdfnaa.AU Go.Proofs.Ytbnicphegbdfnaa.SP Go.Proofs.Ytbnicphegbdfnaa.SN Go.Proofs.Ytbnicphegbdfnaa.SB

structure Pl where
  a : Nat
  p : Nat
  e : Nat
def PV (q : Pl) : Value := .agg #[.int .i64 (q.a : Int), .int .i64 (q.p : Int), .int .i64 (q.e : Int)]
/-- A plan that may be; pe: how many sectors its journal has. -/
structure POK (q : Pl) (pe : Nat) : Prop where
  a1 : 1 ≤ q.a
  p1 : 1 ≤ q.p
  p2 : q.p ≤ 16
  e1 : 1 ≤ q.e
  all : 2 * q.a + pe ≤ 16384
  is : q.p * q.e = pe
theorem POK.e2 {q : Pl} {pe : Nat} (h : POK q pe) : q.e ≤ 16384 := by
  have h1 := h.is
  have h2 := h.p1
  have h3 := h.all
  have : 1 * q.e ≤ q.p * q.e := Nat.mul_le_mul_right _ h2
  omega
theorem POK.mul {q : Pl} {pe : Nat} (h : POK q pe) : IntKind.i64.wrap ((q.p : Int) * (q.e : Int)) = (pe : Int) := by
  have e : (q.p : Int) * (q.e : Int) = (pe : Int) := by rw [← h.is]; simp
  rw [e]
  exact IntWalk.i64_in _ (by have := h.all; omega)
theorem from_any (q : Pl) (pe : Nat) (hq : POK q pe) (w : World) : Calls Try.prog 88 #[PV q] w fun e w' => e = .returned (.int .i64 ((2 * q.a : Nat) : Int)) ∧ Grew w w' := by
  have hw : IntKind.i64.wrap (2 * (q.a : Int)) = ((2 * q.a : Nat) : Int) := by rw [IntWalk.i64_in _ (by have := hq.all; omega)]; simp
  clear hq
  unfold PV
  go_enter Try.func88, Try.ntmps88
  go_wp2
  go_ret
  exact ⟨rfl, by unfold Grew; go_grown⟩
/-- A box of a plan. -/
def BX (w : World) (b : Nat) (q : Pl) : Prop := w.heap[b]? = some (.cells #[.int .i64 (q.a : Int), .int .i64 (q.p : Int), .int .i64 (q.e : Int)] 90)
theorem BX.grew {w w' : World} {b : Nat} {q : Pl} (h : BX w b q) (hg : Grew w w') : BX w' b q := (hg.block b (Array.getElem?_eq_some_iff.1 h).1).trans h
theorem BX.cells {w : World} {b : Nat} {q : Pl} (h : BX w b q) : w.cell? ⟨b, 0, none⟩ = some (.int .i64 (q.a : Int)) ∧ w.cell? ⟨b, 1, none⟩ = some (.int .i64 (q.p : Int)) ∧ w.cell? ⟨b, 2, none⟩ = some (.int .i64 (q.e : Int)) := by
  refine ⟨?_, ?_, ?_⟩ <;> (unfold World.cell?; simp only [show w.heap[b]? = _ from h]; rfl)
set_option maxHeartbeats 2000000 in
theorem need_any (q : Pl) (pe : Nat) (hq : POK q pe) (w : World) : Calls Try.prog 83 #[PV q] w fun e w' => e = .returned (.int .i64 ((2 * q.a + pe : Nat) : Int)) ∧ Grew w w' := by
  have HQ := Lib.hid hq
  have h1 : ¬ (q.a : Int) < 1 := by have := hq.a1; omega
  have h2 : ¬ (16384 : Int) < (q.a : Int) := by have := hq.all; omega
  have h3 : ¬ (q.e : Int) < 1 := by have := hq.e1; omega
  have h4 : ¬ (16384 : Int) < (q.e : Int) := by have := hq.e2; omega
  have h5 : ¬ (q.p : Int) < 1 := by have := hq.p1; omega
  have h6 : ¬ (16 : Int) < (q.p : Int) := by have := hq.p2; omega
  have HS : Hid (IntKind.i64.wrap (((2 * q.a : Nat) : Int) + (pe : Int)) = ((2 * q.a + pe : Nat) : Int)) := Lib.hid (by rw [IntWalk.i64_in _ (by have := hq.all; omega)]; simp)
  have HM := Lib.hid hq.mul
  have HL : Hid (¬ (16384 : Int) < ((2 * q.a + pe : Nat) : Int)) := Lib.hid (by have := hq.all; omega)
  obtain ⟨nn, hnn⟩ : ∃ nn : Int, nn = ((2 * q.a + pe : Nat) : Int) := ⟨_, rfl⟩
  rw [← hnn] at HS HL ⊢
  obtain ⟨tt, htt⟩ : ∃ tt : Int, tt = ((2 * q.a : Nat) : Int) := ⟨_, rfl⟩
  rw [← htt] at HS
  have HF : Hid (∀ w, Calls Try.prog 88 #[PV q] w fun e w' => e = .returned (.int .i64 tt) ∧ Grew w w') := Lib.hid (by rw [htt]; exact from_any q pe hq)
  clear hq hnn htt
  unfold PV
  unfold PV at HF
  go_enter Try.func83, Try.ntmps83
  have hb : BX (w.alloc (Obj.cells #[.int .i64 (q.a : Int), .int .i64 (q.p : Int), .int .i64 (q.e : Int)] 90)) w.heap.size q := heap_alloc_new w _
  have hg0 : Grew w (w.alloc (Obj.cells #[.int .i64 (q.a : Int), .int .i64 (q.p : Int), .int .i64 (q.e : Int)] 90)) := (Below.refl _ w).alloc (Nat.le_refl _) _
  go_upto_region 5 with fail
  generalize w.alloc (Obj.cells #[.int .i64 (q.a : Int), .int .i64 (q.p : Int), .int .i64 (q.e : Int)] 90) = W1 at *
  have HB := Lib.hid hb
  have HG0 := Lib.hid hg0
  clear hb hg0
  have he : (Value.pointer (some ⟨w.heap.size, 0, none⟩)) = .pointer (some ⟨w.heap.size, 0, none⟩) := rfl
  clear he
  generalize w.heap.size = BB at *
  refine Facts.wp_region_text (by kernel_rfl) (by kernel_rfl) ?_
  apply Facts.Lex.exact [] (.agg #[.int .i64 (q.a : Int), .int .i64 (q.p : Int), .int .i64 (q.e : Int)]) (by kernel_rfl)
  · intro u W hC _
    have hbx := (HB.out.grew hC).cells
    have d0 := hbx.1
    have d1 := hbx.2.1
    have d2 := hbx.2.2
    unfold Facts.one
    go_simp
    all_goals (first | exact ⟨Grew.refl _, rfl⟩ | rfl)
  simp only [Act.put, List.setIfInBounds_toArray, List.set_cons_zero, List.set_cons_succ, Nat.zero_add]
  apply Facts.Lex.exact [] (.int .i64 tt) (by kernel_rfl)
  · intro u W hC _
    unfold Facts.one
    go_simp
    refine (HF.out _).mono ?_
    rintro e w' ⟨rfl, hg⟩
    exact ⟨_, rfl, hg, rfl⟩
  simp only [Act.put, List.setIfInBounds_toArray, List.set_cons_zero, List.set_cons_succ, Nat.reduceAdd]
  apply Facts.Lex.exact [] _ (by kernel_rfl)
  · intro u W hC _
    unfold Facts.one
    go_simp
    all_goals (first | exact ⟨Grew.refl _, rfl⟩ | rfl)
  simp only [Act.put, List.setIfInBounds_toArray, List.set_cons_zero, List.set_cons_succ, Nat.reduceAdd]
  apply Facts.Lex.exact [] _ (by kernel_rfl)
  · intro u W hC _
    have hbx := (HB.out.grew hC).cells
    have d1 := hbx.2.1
    have d2 := hbx.2.2
    unfold Facts.one
    go_simp
    all_goals (first | exact ⟨Grew.refl _, rfl⟩ | rfl)
  simp only [Act.put, List.setIfInBounds_toArray, List.set_cons_zero, List.set_cons_succ, Nat.reduceAdd]
  apply Facts.Lex.exact [] _ (by kernel_rfl)
  · intro u W hC _
    unfold Facts.one
    go_simp
    all_goals (first | exact ⟨Grew.refl _, rfl⟩ | rfl)
  simp only [Act.put, List.setIfInBounds_toArray, List.set_cons_zero, List.set_cons_succ, Nat.reduceAdd]
  apply Facts.Lex.exact [] _ (by kernel_rfl)
  · intro u W hC _
    have hbx := (HB.out.grew hC).cells
    have d1 := hbx.2.1
    have d2 := hbx.2.2
    unfold Facts.one
    go_simp
    all_goals (first | exact ⟨Grew.refl _, rfl⟩ | rfl)
  simp only [Act.put, List.setIfInBounds_toArray, List.set_cons_zero, List.set_cons_succ, Nat.reduceAdd]
  apply Facts.Lex.exact [] (.int .i64 (pe : Int)) (by kernel_rfl)
  · intro u W hC _
    have d1 := HM.out
    unfold Facts.one
    go_simp
    all_goals (first | exact ⟨Grew.refl _, rfl⟩ | rfl)
  simp only [Act.put, List.setIfInBounds_toArray, List.set_cons_zero, List.set_cons_succ, Nat.reduceAdd]
  apply Facts.Lex.exact [] (.int .i64 nn) (by kernel_rfl)
  · intro u W hC _
    have d1 := HS.out
    unfold Facts.one
    go_simp
    all_goals (first | exact ⟨Grew.refl _, rfl⟩ | rfl)
  simp only [Act.put, List.setIfInBounds_toArray, List.set_cons_zero, List.set_cons_succ, Nat.reduceAdd]
  apply Facts.Lex.exact [] (.bool false) (by kernel_rfl)
  · intro u W hC _
    have d1 := HL.out
    unfold Facts.one
    go_simp
    all_goals (first | exact ⟨Grew.refl _, rfl⟩ | rfl)
  simp only [Act.put, List.setIfInBounds_toArray, List.set_cons_zero, List.set_cons_succ, Nat.reduceAdd]
  apply Facts.Lex.exact [] _ (by kernel_rfl)
  · intro u W hC _
    unfold Facts.one
    go_simp
    all_goals (first | exact ⟨Grew.refl _, rfl⟩ | rfl)
  simp only [Act.put, List.setIfInBounds_toArray, List.set_cons_zero, List.set_cons_succ, Nat.reduceAdd]
  refine Facts.Lex.done fun u W hC _ => ?_
  replace HG0 := Lib.hid (HG0.out.trans hC)
  replace HB := Lib.hid (HB.out.grew hC)
  have hlim := HL.out
  clear hC
  go_upto_region 7 with fail
  clear hlim
  refine Facts.wp_region_text (by kernel_rfl) (by kernel_rfl) ?_
  apply Facts.Lex.exact [] (.agg #[.int .i64 (q.a : Int), .int .i64 (q.p : Int), .int .i64 (q.e : Int)]) (by kernel_rfl)
  · intro u W hC _
    have hbx := (HB.out.grew hC).cells
    have d0 := hbx.1
    have d1 := hbx.2.1
    have d2 := hbx.2.2
    unfold Facts.one
    go_simp
    all_goals (first | exact ⟨Grew.refl _, rfl⟩ | rfl)
  simp only [Act.put, List.setIfInBounds_toArray, List.set_cons_zero, List.set_cons_succ, Nat.zero_add]
  apply Facts.Lex.exact [] (.int .i64 tt) (by kernel_rfl)
  · intro u W hC _
    unfold Facts.one
    go_simp
    refine (HF.out _).mono ?_
    rintro e w' ⟨rfl, hg⟩
    exact ⟨_, rfl, hg, rfl⟩
  simp only [Act.put, List.setIfInBounds_toArray, List.set_cons_zero, List.set_cons_succ, Nat.reduceAdd]
  apply Facts.Lex.exact [] _ (by kernel_rfl)
  · intro u W hC _
    unfold Facts.one
    go_simp
    all_goals (first | exact ⟨Grew.refl _, rfl⟩ | rfl)
  simp only [Act.put, List.setIfInBounds_toArray, List.set_cons_zero, List.set_cons_succ, Nat.reduceAdd]
  apply Facts.Lex.exact [] _ (by kernel_rfl)
  · intro u W hC _
    have hbx := (HB.out.grew hC).cells
    have d1 := hbx.2.1
    have d2 := hbx.2.2
    unfold Facts.one
    go_simp
    all_goals (first | exact ⟨Grew.refl _, rfl⟩ | rfl)
  simp only [Act.put, List.setIfInBounds_toArray, List.set_cons_zero, List.set_cons_succ, Nat.reduceAdd]
  apply Facts.Lex.exact [] _ (by kernel_rfl)
  · intro u W hC _
    unfold Facts.one
    go_simp
    all_goals (first | exact ⟨Grew.refl _, rfl⟩ | rfl)
  simp only [Act.put, List.setIfInBounds_toArray, List.set_cons_zero, List.set_cons_succ, Nat.reduceAdd]
  apply Facts.Lex.exact [] _ (by kernel_rfl)
  · intro u W hC _
    have hbx := (HB.out.grew hC).cells
    have d1 := hbx.2.1
    have d2 := hbx.2.2
    unfold Facts.one
    go_simp
    all_goals (first | exact ⟨Grew.refl _, rfl⟩ | rfl)
  simp only [Act.put, List.setIfInBounds_toArray, List.set_cons_zero, List.set_cons_succ, Nat.reduceAdd]
  apply Facts.Lex.exact [] (.int .i64 (pe : Int)) (by kernel_rfl)
  · intro u W hC _
    have d1 := HM.out
    unfold Facts.one
    go_simp
    all_goals (first | exact ⟨Grew.refl _, rfl⟩ | rfl)
  simp only [Act.put, List.setIfInBounds_toArray, List.set_cons_zero, List.set_cons_succ, Nat.reduceAdd]
  apply Facts.Lex.exact [] (.int .i64 nn) (by kernel_rfl)
  · intro u W hC _
    have d1 := HS.out
    unfold Facts.one
    go_simp
    all_goals (first | exact ⟨Grew.refl _, rfl⟩ | rfl)
  simp only [Act.put, List.setIfInBounds_toArray, List.set_cons_zero, List.set_cons_succ, Nat.reduceAdd]
  apply Facts.Lex.exact [] _ (by kernel_rfl)
  · intro u W hC _
    unfold Facts.one
    go_simp
    all_goals (first | exact ⟨Grew.refl _, rfl⟩ | rfl)
  simp only [Act.put, List.setIfInBounds_toArray, List.set_cons_zero, List.set_cons_succ, Nat.reduceAdd]
  refine Facts.Lex.done fun u W hC _ => ?_
  have HGE := Lib.hid (HG0.out.trans hC)
  clear hC
  go_wp2
  go_ret
  exact ⟨rfl, HGE.out⟩
end Go.Proofs.Ytbnicphegbdfnaa.VA
namespace Go.Proofs.Ytbnicphegbdfnaa.VB
set_option maxRecDepth 100000
open Go Go.RowKit Go.Proofs.Ytbnicphegbdfnaa Go.Proofs.Ytbnicphegbdfnaa.Facts Go.Proofs.Ytbnicphegbdfnaa.Bytes Go.Proofs.Ytbnicphegbdfnaa.DKeep Go.Proofs.Ytbnicphegbdfnaa.DSmall Go.Proofs.Ytbnicphegbdfnaa.Puts Go.Proofs.Ytbnicphegbdfnaa.SPure Go.Proofs.Ytbnicphegbdfnaa.JA Go.Proofs.Ytbnicphegbdfnaa.JB Go.Proofs.Ytbnicphegbdfnaa.JD Go.Proofs.Ytbnicphegbdfnaa.JE Go.Proofs.Ytbnicphegbdfnaa.JF Go.Proofs.Ytbnicphegbdfnaa.JH Go.Proofs.Ytbnicphegbdfnaa.JQ Go.Proofs.Ytbnicphegbdfnaa.AP Go.Proofs.Ytbnicphegbdfnaa.AQ Go.Proofs.Ytbnicphegbdfnaa.AA Go.Proofs.Ytbnicphegbdfnaa.AW Go.Proofs.Ytbnicphegbdfnaa.AV Go.Proofs.Ytbnicphegbdfnaa.AC Go.Proofs.Ytbnicphegbdfnaa.DS Go.Proofs.Ytbnicphegbdfnaa.AU Go.Proofs.Ytbnicphegbdfnaa.SP Go.Proofs.Ytbnicphegbdfnaa.SN Go.Proofs.Ytbnicphegbdfnaa.SB Go.Proofs.Ytbnicphegbdfnaa.VA
set_option maxHeartbeats 2000000 in
theorem room_any (q : Pl) (pe : Nat) (hq : POK q pe) (w : World) : Calls Try.prog 85 #[PV q] w fun e w' => e = .returned (.tuple #[.int .i64 ((108 * q.a - 12 : Nat) : Int), .int .i64 ((108 * q.e - 4 : Nat) : Int)]) ∧ Grew w w' := by
  have HN := Lib.hid (need_any q pe hq)
  obtain ⟨nn, hnn⟩ : ∃ nn : Int, nn = ((2 * q.a + pe : Nat) : Int) := ⟨_, rfl⟩
  rw [← hnn] at HN
  have hn0 : ¬ nn = 0 := by have := hq.a1; omega
  obtain ⟨ra, hra⟩ : ∃ ra : Int, ra = JA.room (q.a : Int) := ⟨_, rfl⟩
  obtain ⟨re, hre⟩ : ∃ re : Int, re = JA.room (q.e : Int) := ⟨_, rfl⟩
  have hra2 : ra = (q.a : Int) * 108 - 4 := by rw [hra]; unfold JA.room; rw [if_neg (by have := hq.a1; omega), if_neg (by have := hq.all; omega)]
  have hre2 : re = ((108 * q.e - 4 : Nat) : Int) := by rw [hre]; unfold JA.room; rw [if_neg (by have := hq.e1; omega), if_neg (by have := hq.e2; omega)]; have := hq.e1; omega
  have HRA : Hid (∀ w, Calls Try.prog 16 #[.int .i64 (q.a : Int)] w fun e w' => e = .returned (.int .i64 ra) ∧ w = w') := Lib.hid (by rw [hra]; exact fun w => JA.room_any _ w)
  have HRE : Hid (∀ w, Calls Try.prog 16 #[.int .i64 (q.e : Int)] w fun e w' => e = .returned (.int .i64 re) ∧ w = w') := Lib.hid (by rw [hre]; exact fun w => JA.room_any _ w)
  rw [← hre2]
  obtain ⟨mm, hmm⟩ : ∃ mm : Int, mm = ((108 * q.a - 12 : Nat) : Int) := ⟨_, rfl⟩
  rw [← hmm]
  have HW : Hid (IntKind.i64.wrap (ra - 8) = mm) := Lib.hid (by rw [IntWalk.i64_in _ (by have := hq.all; have := hq.a1; omega)]; have := hq.a1; omega)
  have HM0 : Hid (¬ mm < 0) := Lib.hid (by omega)
  clear hq hnn hra hre hra2 hre2 hmm
  unfold PV
  unfold PV at HN
  go_enter Try.func85, Try.ntmps85
  have hb : BX (w.alloc (Obj.cells #[.int .i64 (q.a : Int), .int .i64 (q.p : Int), .int .i64 (q.e : Int)] 90)) w.heap.size q := heap_alloc_new w _
  have hg0 : Grew w (w.alloc (Obj.cells #[.int .i64 (q.a : Int), .int .i64 (q.p : Int), .int .i64 (q.e : Int)] 90)) := (Below.refl _ w).alloc (Nat.le_refl _) _
  go_wp2_with fail
  generalize (w.alloc (Obj.cells #[.int .i64 (q.a : Int), .int .i64 (q.p : Int), .int .i64 (q.e : Int)] 90)) = W1 at *
  have HB := Lib.hid hb
  have HG0 := Lib.hid hg0
  clear hb hg0
  generalize w.heap.size = BB at *
  refine (HN.out _).mono ?_
  rintro e w2 ⟨rfl, hg⟩
  replace HG0 := Lib.hid (HG0.out.trans hg)
  replace HB := Lib.hid (HB.out.grew hg)
  clear hg
  go_upto_region 3 with fail
  refine Facts.wp_region_text (by kernel_rfl) (by kernel_rfl) ?_
  apply Facts.Lex.exact [] _ (by kernel_rfl)
  · intro u W hC _
    unfold Facts.one
    go_simp
    all_goals (first | exact ⟨Grew.refl _, rfl⟩ | rfl)
  simp only [Act.put, List.setIfInBounds_toArray, List.set_cons_zero, List.set_cons_succ, Nat.zero_add]
  apply Facts.Lex.exact [] _ (by kernel_rfl)
  · intro u W hC _
    have hbx := (HB.out.grew hC).cells
    have d0 := hbx.1
    have d1 := hbx.2.1
    have d2 := hbx.2.2
    unfold Facts.one
    go_simp
    all_goals (first | exact ⟨Grew.refl _, rfl⟩ | rfl)
  simp only [Act.put, List.setIfInBounds_toArray, List.set_cons_zero, List.set_cons_succ, Nat.reduceAdd]
  apply Facts.Lex.exact [] (.int .i64 ra) (by kernel_rfl)
  · intro u W hC _
    unfold Facts.one
    go_simp
    refine (HRA.out _).mono ?_
    rintro e w' ⟨rfl, rfl⟩
    exact ⟨_, rfl, Grew.refl _, rfl⟩
  simp only [Act.put, List.setIfInBounds_toArray, List.set_cons_zero, List.set_cons_succ, Nat.reduceAdd]
  apply Facts.Lex.exact [] (.int .i64 mm) (by kernel_rfl)
  · intro u W hC _
    have d1 := HW.out
    unfold Facts.one
    go_simp
    all_goals (first | exact ⟨Grew.refl _, rfl⟩ | rfl)
  simp only [Act.put, List.setIfInBounds_toArray, List.set_cons_zero, List.set_cons_succ, Nat.reduceAdd]
  apply Facts.Lex.exact [] (.int .i64 mm) (by kernel_rfl)
  · intro u W hC _
    have d1 := HM0.out
    have d2 : max mm 0 = mm := by omega
    unfold Facts.one
    go_simp
    all_goals (first | exact ⟨Grew.refl _, rfl⟩ | rfl)
  simp only [Act.put, List.setIfInBounds_toArray, List.set_cons_zero, List.set_cons_succ, Nat.reduceAdd]
  apply Facts.Lex.exact [] _ (by kernel_rfl)
  · intro u W hC _
    unfold Facts.one
    go_simp
    all_goals (first | exact ⟨Grew.refl _, rfl⟩ | rfl)
  simp only [Act.put, List.setIfInBounds_toArray, List.set_cons_zero, List.set_cons_succ, Nat.reduceAdd]
  apply Facts.Lex.exact [] _ (by kernel_rfl)
  · intro u W hC _
    have hbx := (HB.out.grew hC).cells
    have d0 := hbx.1
    have d1 := hbx.2.1
    have d2 := hbx.2.2
    unfold Facts.one
    go_simp
    all_goals (first | exact ⟨Grew.refl _, rfl⟩ | rfl)
  simp only [Act.put, List.setIfInBounds_toArray, List.set_cons_zero, List.set_cons_succ, Nat.reduceAdd]
  apply Facts.Lex.exact [] (.int .i64 re) (by kernel_rfl)
  · intro u W hC _
    unfold Facts.one
    go_simp
    refine (HRE.out _).mono ?_
    rintro e w' ⟨rfl, rfl⟩
    exact ⟨_, rfl, Grew.refl _, rfl⟩
  simp only [Act.put, List.setIfInBounds_toArray, List.set_cons_zero, List.set_cons_succ, Nat.reduceAdd]
  apply Facts.Lex.exact [] _ (by kernel_rfl)
  · intro u W hC _
    unfold Facts.one
    go_simp
    all_goals (first | exact ⟨Grew.refl _, rfl⟩ | rfl)
  simp only [Act.put, List.setIfInBounds_toArray, List.set_cons_zero, List.set_cons_succ, Nat.reduceAdd]
  apply Facts.Lex.exact [] _ (by kernel_rfl)
  · intro u W hC _
    unfold Facts.one
    go_simp
    all_goals (first | exact ⟨Grew.refl _, rfl⟩ | rfl)
  simp only [Act.put, List.setIfInBounds_toArray, List.set_cons_zero, List.set_cons_succ, Nat.reduceAdd]
  refine Facts.Lex.done fun u W hC _ => ?_
  have HGE := Lib.hid (HG0.out.trans hC)
  clear hC
  go_wp2
  go_returns
  exact ⟨rfl, HGE.out⟩
theorem long_any (q : Pl) (pe : Nat) (hq : POK q pe) (A : Option Addr) (n c : Nat) (w : World) (hn : n ≤ 108 * q.a - 12) : Calls Try.prog 87 #[PV q, .slice A n c] w fun e w' => e = .returned (.bool false) ∧ Grew w w' := by
  have HR := Lib.hid (room_any q pe hq)
  obtain ⟨mm, hmm⟩ : ∃ mm : Int, mm = ((108 * q.a - 12 : Nat) : Int) := ⟨_, rfl⟩
  rw [← hmm] at HR
  have hn' : ¬ mm < (n : Int) := by omega
  have hnd : decide (mm < (n : Int)) = false := decide_eq_false hn'
  clear hq hmm hn
  unfold PV
  unfold PV at HR
  go_enter Try.func87, Try.ntmps87
  have hb : BX (w.alloc (Obj.cells #[.int .i64 (q.a : Int), .int .i64 (q.p : Int), .int .i64 (q.e : Int)] 90)) w.heap.size q := heap_alloc_new w _
  have hg0 : Grew w (w.alloc (Obj.cells #[.int .i64 (q.a : Int), .int .i64 (q.p : Int), .int .i64 (q.e : Int)] 90)) := (Below.refl _ w).alloc (Nat.le_refl _) _
  go_wp2_with fail
  generalize (w.alloc (Obj.cells #[.int .i64 (q.a : Int), .int .i64 (q.p : Int), .int .i64 (q.e : Int)] 90)) = W1 at *
  have HB := Lib.hid hb
  have HG0 := Lib.hid hg0
  clear hb hg0
  generalize w.heap.size = BB at *
  refine (HR.out _).mono ?_
  rintro e w2 ⟨rfl, hg⟩
  have HGE := Lib.hid (HG0.out.trans hg)
  clear hg
  go_wp2
  go_ret
  exact ⟨rfl, HGE.out⟩
theorem stamps_any (q : Pl) (pe : Nat) (hq : POK q pe) (w : World) : Calls Try.prog 91 #[PV q] w fun e w' => e = .returned (.int .u64 (pe : Int)) ∧ Grew w w' := by
  have hm := hq.mul
  have hu : IntKind.u64.wrap (pe : Int) = (pe : Int) := IntWalk.u64_in _ (by have := hq.all; omega)
  clear hq
  unfold PV
  go_enter Try.func91, Try.ntmps91
  go_wp2
  go_ret
  exact ⟨rfl, by unfold Grew; go_grown⟩
theorem based_any (q : Pl) (pe base : Nat) (hq : POK q pe) (w : World) (h1 : 1 ≤ base) (h2 : base + pe ≤ 4611686018427387904) : Calls Try.prog 92 #[PV q, .int .u64 (base : Int)] w fun e w' => e = .returned (.bool true) ∧ Grew w w' := by
  have HS := Lib.hid (stamps_any q pe hq)
  have HK1 : Hid ((1 : Int) ≤ (base : Int)) := Lib.hid (by omega)
  have k1 : decide ((1 : Int) ≤ (base : Int)) = true := decide_eq_true HK1.out
  obtain ⟨lim, hlim⟩ : ∃ lim : Nat, (lim : Int) = 4611686018427387904 - (pe : Int) := ⟨4611686018427387904 - pe, by omega⟩
  have hu : IntKind.u64.wrap (4611686018427387904 - (pe : Int)) = (lim : Int) := by rw [← hlim, IntWalk.u64_in _ (by omega)]
  have k2 : (base : Int) ≤ (lim : Int) := by omega
  have k3 : decide ((base : Int) ≤ (lim : Int)) = true := decide_eq_true k2
  clear hq h1 h2 hlim
  unfold PV
  unfold PV at HS
  go_enter Try.func92, Try.ntmps92
  have hb : BX (w.alloc (Obj.cells #[.int .i64 (q.a : Int), .int .i64 (q.p : Int), .int .i64 (q.e : Int)] 90)) w.heap.size q := heap_alloc_new w _
  have hg0 : Grew w (w.alloc (Obj.cells #[.int .i64 (q.a : Int), .int .i64 (q.p : Int), .int .i64 (q.e : Int)] 90)) := (Below.refl _ w).alloc (Nat.le_refl _) _
  go_wp2_with fail
  generalize (w.alloc (Obj.cells #[.int .i64 (q.a : Int), .int .i64 (q.p : Int), .int .i64 (q.e : Int)] 90)) = W1 at *
  have HB := Lib.hid hb
  have HG0 := Lib.hid hg0
  clear hb hg0
  generalize w.heap.size = BB at *
  refine (HS.out _).mono ?_
  rintro e w2 ⟨rfl, hg⟩
  have HGE := Lib.hid (HG0.out.trans hg)
  clear hg
  go_wp2
  go_ret
  exact ⟨rfl, HGE.out⟩
theorem ds_vrefuses {w y : World} {g : Nat} {d : Pd} {V : List (Value × Cont)} (h : DS w g d V y) (q : Pl) (pe : Nat) (hq : POK q pe) (hn : 2 * q.a + pe ≤ d.safe.length) : Calls Try.prog 86 #[.pointer (some ⟨g, 0, none⟩), PV q] y fun e z => e = .returned (.int .i64 0) ∧ Grew y z := by
  have HN := Lib.hid (need_any q pe hq)
  obtain ⟨nn, hnn⟩ : ∃ nn : Int, nn = ((2 * q.a + pe : Nat) : Int) := ⟨_, rfl⟩
  rw [← hnn] at HN
  have hn0 : ¬ nn = 0 := by have := hq.a1; omega
  obtain ⟨sz, hsz⟩ : ∃ sz, d.safe.length = sz := ⟨_, rfl⟩
  have hs0 : ¬ (sz : Int) = 0 := by have := hq.a1; omega
  have hns : ¬ (sz : Int) < nn := by omega
  have hnd : decide ((sz : Int) < nn) = false := decide_eq_false hns
  have hnb : (nn == 0) = false := by simpa using hn0
  have HD := Lib.hid h
  have HSZ : Hid (∀ z, Grew y z → Calls Try.prog 100 #[.pointer (some ⟨g, 0, none⟩)] z fun e z' => e = .returned (.int .i64 (sz : Int)) ∧ z = z') := Lib.hid fun z hz => ds_size w z g d V (h.grew hz) sz hsz
  clear h hq hn hnn hsz
  unfold PV
  unfold PV at HN
  go_enter Try.func86, Try.ntmps86
  have hb : BX (y.alloc (Obj.cells #[.int .i64 (q.a : Int), .int .i64 (q.p : Int), .int .i64 (q.e : Int)] 90)) y.heap.size q := heap_alloc_new y _
  have hg0 : Grew y (y.alloc (Obj.cells #[.int .i64 (q.a : Int), .int .i64 (q.p : Int), .int .i64 (q.e : Int)] 90)) := (Below.refl _ y).alloc (Nat.le_refl _) _
  go_wp2_with fail
  generalize (y.alloc (Obj.cells #[.int .i64 (q.a : Int), .int .i64 (q.p : Int), .int .i64 (q.e : Int)] 90)) = W1 at *
  have HB := Lib.hid hb
  have HG0 := Lib.hid hg0
  clear hb hg0
  generalize y.heap.size = BB at *
  refine (HSZ.out _ HG0.out).mono ?_
  rintro e w' ⟨rfl, rfl⟩
  have hbx := HB.out.cells
  have c0 := hbx.1
  have c1 := hbx.2.1
  have c2 := hbx.2.2
  have fz : W1.heap[BB]? = some (.cells #[.int .i64 (q.a : Int), .int .i64 (q.p : Int), .int .i64 (q.e : Int)] 90) := HB.out
  clear hbx
  go_wp2_with fail
  refine (HN.out _).mono ?_
  rintro e w2 ⟨rfl, hg⟩
  replace HG0 := Lib.hid (HG0.out.trans hg)
  replace HB := Lib.hid (HB.out.grew hg)
  clear hg c0 c1 c2 fz
  have hbx := HB.out.cells
  have c0 := hbx.1
  have c1 := hbx.2.1
  have c2 := hbx.2.2
  clear hbx
  go_wp2_with fail
  refine (HN.out _).mono ?_
  rintro e w3 ⟨rfl, hg⟩
  have HGE := Lib.hid (HG0.out.trans hg)
  clear hg c0 c1 c2
  go_wp2
  go_ret
  exact ⟨rfl, HGE.out⟩
/-- What is kept of a base and a state. -/
def keptB (base : Nat) (st : List UInt8) : List UInt8 := be 8 base ++ st
theorem keptB_length (base : Nat) (st : List UInt8) : (keptB base st).length = st.length + 8 := by simp [keptB, be_length]; omega
theorem kept_any (base : Nat) (S : Nat → Prop) (v : Value) (st : List UInt8) (w : World) (h : Rd S w v st) (hl : st.length ≤ 100000000) :
    Calls Try.prog 89 #[.int .u64 (base : Int), v] w fun e w' => ∃ v', e = .returned v' ∧ Rd (fun b => w.heap.size ≤ b) w' v' (keptB base st) ∧ Grew w w' := by
  obtain ⟨A, c, rfl, _⟩ := id h
  have HR := Lib.hid h
  have HL := Lib.hid hl
  clear h hl
  go_enter Try.func89, Try.ntmps89
  go_wp2_with fail
  refine (SSeal.num8 (fun _ => True) (.slice none 0 0) [] base _ (Rd.nil _ _) (by simp)).mono ?_
  rintro e w3 ⟨v1, rfl, hown, hg⟩
  rw [List.nil_append] at hown
  obtain ⟨hv1, A1, cc1, rfl⟩ := SSeal.own_len hown (by rw [be_length]; have := HL.out; omega)
  obtain ⟨v4, w4, hrun, hown2, hb2⟩ := SSeal.run_app2 w3 w.heap.size _ A c (be 8 base) st S hown (HR.out.grew hg) (by rw [be_length]; have := HL.out; omega) hg.size
  have hlen2 : (be 8 base ++ st).length = st.length + 8 := keptB_length base st
  obtain ⟨A4, cc4, e2⟩ : ∃ A4 cc4, v4 = .slice A4 (st.length + 8) cc4 := by
    obtain ⟨_, A4, cc4, e⟩ := SSeal.own_len hown2 (by rw [hlen2]; have := HL.out; omega)
    rw [hlen2] at e
    exact ⟨A4, cc4, e⟩
  subst e2
  have HRUN := Lib.hid hrun
  have HO2 := Lib.hid hown2
  have HB2 := Lib.hid hb2
  have HG := Lib.hid hg
  clear hrun hown2 hb2 hg hown hlen2
  go_wp2_with (at_builtin; refine SSeal.wpList_app' (by rfl) (.tmp 6) (.tmp 7) 23 23 (by with_reducible rfl) _ _ (by rfl) (by rfl) _ _ HRUN.out ?_)
  go_ret
  exact ⟨_, rfl, (Rd.of_own HO2.out (by rw [show (be 8 base ++ st) = keptB base st from rfl, keptB_length])).mono fun b hb => hb.1, ⟨HB2.out.os.trans HG.out.os, HB2.out.tape.trans HG.out.tape, HB2.out.output.trans HG.out.output, Nat.le_trans HG.out.size HB2.out.size, fun k hk => (HB2.out.block k hk).trans (HG.out.block k hk)⟩⟩
end Go.Proofs.Ytbnicphegbdfnaa.VB
namespace Go.Proofs.Ytbnicphegbdfnaa.VC
set_option maxRecDepth 100000
open Go Go.RowKit Go.Proofs.Ytbnicphegbdfnaa Go.Proofs.Ytbnicphegbdfnaa.Facts Go.Proofs.Ytbnicphegbdfnaa.Bytes Go.Proofs.Ytbnicphegbdfnaa.DKeep Go.Proofs.Ytbnicphegbdfnaa.DSmall Go.Proofs.Ytbnicphegbdfnaa.Puts Go.Proofs.Ytbnicphegbdfnaa.SPure Go.Proofs.Ytbnicphegbdfnaa.JA Go.Proofs.Ytbnicphegbdfnaa.JB Go.Proofs.Ytbnicphegbdfnaa.JD Go.Proofs.Ytbnicphegbdfnaa.JE Go.Proofs.Ytbnicphegbdfnaa.JF Go.Proofs.Ytbnicphegbdfnaa.JH Go.Proofs.Ytbnicphegbdfnaa.JQ Go.Proofs.Ytbnicphegbdfnaa.AP Go.Proofs.Ytbnicphegbdfnaa.AQ Go.Proofs.Ytbnicphegbdfnaa.AA Go.Proofs.Ytbnicphegbdfnaa.AW Go.Proofs.Ytbnicphegbdfnaa.AV Go.Proofs.Ytbnicphegbdfnaa.AC Go.Proofs.Ytbnicphegbdfnaa.DS Go.Proofs.Ytbnicphegbdfnaa.AU Go.Proofs.Ytbnicphegbdfnaa.SP Go.Proofs.Ytbnicphegbdfnaa.SN Go.Proofs.Ytbnicphegbdfnaa.SB Go.Proofs.Ytbnicphegbdfnaa.VA Go.Proofs.Ytbnicphegbdfnaa.VB

def VP (jr : Option Nat) : Value := .pointer (jr.map fun gj => ⟨gj, 0, none⟩)
/-- A vault's block. -/
def VO (jr : Option Nat) (g : Nat) (q : Pl) (base : Nat) (dead : Bool) : Obj := .cells #[VP jr, .pointer (some ⟨g, 0, none⟩), .int .i64 (q.a : Int), .int .i64 (q.p : Int), .int .i64 (q.e : Int), .int .u64 (base : Int), .bool dead] 147
def JO (g : Nat) (j : Jr) : Obj := .cells #[.pointer (some ⟨g, 0, none⟩), .int .i64 (j.first : Int), .int .i64 (j.places : Int), .int .i64 (j.each : Int), .int .i64 (j.used : Int), .int .u64 (j.base : Int)] 120 (0, 0)
structure VCells (w : World) (gv : Nat) (jr : Option Nat) (g : Nat) (q : Pl) (base : Nat) (dead : Bool) : Prop where
  c0 : w.cell? ⟨gv, 0, none⟩ = some (VP jr)
  c1 : w.cell? ⟨gv, 1, none⟩ = some (.pointer (some ⟨g, 0, none⟩))
  c2 : w.cell? ⟨gv, 2, none⟩ = some (.int .i64 (q.a : Int))
  c3 : w.cell? ⟨gv, 3, none⟩ = some (.int .i64 (q.p : Int))
  c4 : w.cell? ⟨gv, 4, none⟩ = some (.int .i64 (q.e : Int))
  c5 : w.cell? ⟨gv, 5, none⟩ = some (.int .u64 (base : Int))
  c6 : w.cell? ⟨gv, 6, none⟩ = some (.bool dead)
section
variable {w y z : World} {gv g : Nat} {jr : Option Nat} {q : Pl} {base : Nat} {dead : Bool}
theorem vcells (h : y.heap[gv]? = some (VO jr g q base dead)) : VCells y gv jr g q base dead := by
  refine ⟨?_, ?_, ?_, ?_, ?_, ?_, ?_⟩ <;> (rw [cell_of_row _ _ _ _ _ _ h]; rfl)
theorem vmade (h : y.heap[gv]? = some (VO jr g q base dead)) : Calls Try.prog 90 #[.pointer (some ⟨gv, 0, none⟩)] y fun e z => e = .returned (.bool true) ∧ y = z := by
  have c1 := (vcells h).c1
  clear h
  go_enter Try.func90, Try.ntmps90
  go_wp2
  go_ret
  exact ⟨rfl, rfl⟩
theorem vmade_nil (y : World) : Calls Try.prog 90 #[.pointer none] y fun e z => e = .returned (.bool false) ∧ y = z := by
  go_enter Try.func90, Try.ntmps90
  go_wp2
  go_ret
  exact ⟨rfl, rfl⟩
theorem vdie (h : y.heap[gv]? = some (VO jr g q base dead)) : Calls Try.prog 94 #[.pointer (some ⟨gv, 0, none⟩)] y fun e z => e = .returned (.tuple #[]) ∧ z.heap[gv]? = some (VO none g q base true) ∧ Kept (fun k => k = gv) y z := by
  have hc := vcells h
  have c0 := hc.c0
  have c6 := hc.c6
  have f0 := frozen_of_row y gv 0 _ _ h
  have f6 := frozen_of_row y gv 6 _ _ h
  have HH := Lib.hid h
  clear h hc
  go_enter Try.func94, Try.ntmps94
  go_wp2
  all_goals
    go_end0
    refine ⟨rfl, ?_, ?_⟩
    · rw [heap_setCell_same _ _ _ _ _ _ (heap_setCell_same _ _ _ _ _ _ HH.out)]
      rfl
    · exact (Kept.set (D := fun k => k = gv) _ _ rfl).trans (Kept.set (D := fun k => k = gv) _ _ rfl)
end

/-- A block's turn. -/
theorem ds_set {w y z : World} {g : Nat} {d : Pd} {V : List (Value × Cont)} {x : Value} {c : Nat} {o o' : Obj} (h : DS w g d ((x, Cont.blk c o) :: V) y) (hn : ¬ BL V c) (hk : Kept (fun k => k = c) y z) (ho : z.heap[c]? = some o') : DS w g d ((x, Cont.blk c o') :: V) z := by
  refine h.turnB hn (fun D hD => ⟨D, hD.dk.keep hk fun k hd e => ?_, fun k hk => .inl hk, ?_⟩) ho
  · exact (hD.blk x c o (List.mem_cons_self ..)).2.1 (e ▸ hd)
  · exact ⟨hk.os, hk.tape, hk.output, hk.size, fun j hj hd => hk.block j hj fun e => hd (.inr e)⟩
theorem ds_append {w y : World} {g : Nat} {d d' : Pd} {V : List (Value × Cont)} {x : Value} {gj : Nat} {j j' : Jr} {r : Int} (h : DS w g d ((x, Cont.blk gj (JO g j)) :: V) y) (hn : ¬ BL V gj) (hk : JK j) (hb : 1 ≤ j.base) (hw : d.waits.length ≤ 1000000000) (S : Nat → Prop) (v : Value) (b : List UInt8) (hr : Rd S y v b) (he : japp j d b = (j', d', r)) :
    Calls Try.prog 27 #[.pointer (some ⟨gj, 0, none⟩), v] y fun e z => e = .returned (.int .i64 r) ∧ DS w g d' ((x, Cont.blk gj (JO g j')) :: V) z := by
  obtain ⟨D, hD⟩ := id h
  have hj := hD.blk x gj _ (List.mem_cons_self ..)
  have hc := japp_any y gj g j D d S v b hj.1 hk hb hD.dk hj.2.1 hr hw
  rw [he] at hc
  refine hc.mono ?_
  rintro e z ⟨rfl, D', k1, k2, k3, k4⟩
  have hh : DS w g d' ((x, Cont.blk gj (JO g j')) :: V) z := by
    have h0 : DS w g d ((x, Cont.blk gj (JO g j)) :: V) y := ⟨D, hD⟩
    exact DS.turnB' hD hn k1 k2 k4 k3
  exact ⟨rfl, hh⟩
/-- Where the vault lies, and its journal. -/
def VS (w : World) (g gv : Nat) (d : Pd) (jr : Option (Nat × Jr)) (q : Pl) (base : Nat) (dead : Bool) (V : List (Value × Cont)) (y : World) : Prop :=
  match jr with
  | none => DS w g d ((.nilFunc, Cont.blk gv (VO none g q base dead)) :: V) y ∧ ¬ BL V gv
  | some p => DS w g d ((.nilFunc, Cont.blk gv (VO (some p.1) g q base dead)) :: (.nilFunc, Cont.blk p.1 (JO g p.2)) :: V) y ∧ ¬ BL V gv ∧ ¬ BL V p.1 ∧ gv ≠ p.1
end Go.Proofs.Ytbnicphegbdfnaa.VC
namespace Go.Proofs.Ytbnicphegbdfnaa.VD
set_option maxRecDepth 100000
open Go Go.RowKit Go.Proofs.Ytbnicphegbdfnaa Go.Proofs.Ytbnicphegbdfnaa.Facts Go.Proofs.Ytbnicphegbdfnaa.Bytes Go.Proofs.Ytbnicphegbdfnaa.DKeep Go.Proofs.Ytbnicphegbdfnaa.DSmall Go.Proofs.Ytbnicphegbdfnaa.Puts Go.Proofs.Ytbnicphegbdfnaa.SPure Go.Proofs.Ytbnicphegbdfnaa.JA Go.Proofs.Ytbnicphegbdfnaa.JB Go.Proofs.Ytbnicphegbdfnaa.JD Go.Proofs.Ytbnicphegbdfnaa.JE Go.Proofs.Ytbnicphegbdfnaa.JF Go.Proofs.Ytbnicphegbdfnaa.JH Go.Proofs.Ytbnicphegbdfnaa.JQ Go.Proofs.Ytbnicphegbdfnaa.AP Go.Proofs.Ytbnicphegbdfnaa.AQ Go.Proofs.Ytbnicphegbdfnaa.AA Go.Proofs.Ytbnicphegbdfnaa.AW Go.Proofs.Ytbnicphegbdfnaa.AV Go.Proofs.Ytbnicphegbdfnaa.AC Go.Proofs.Ytbnicphegbdfnaa.DS Go.Proofs.Ytbnicphegbdfnaa.AU Go.Proofs.Ytbnicphegbdfnaa.SP Go.Proofs.Ytbnicphegbdfnaa.SN Go.Proofs.Ytbnicphegbdfnaa.SB Go.Proofs.Ytbnicphegbdfnaa.VA Go.Proofs.Ytbnicphegbdfnaa.VB Go.Proofs.Ytbnicphegbdfnaa.VC

/-- One row that comes of a call, and one call that turns the disk, within a region. -/
structure J3 (W0 : World) (km kc : Nat) (zz : List UInt8) (Q : World → Prop) (m : Nat → Bool) (u : Nat → Value) (w : World) : Prop where
  bef : m kc = false → Grew W0 w
  row : m km = true → m kc = false → Rd (fun b => W0.heap.size ≤ b) w (u km) zz
  aft : m kc = true → Q w
  dep : m kc = true → m km = true
section
variable {W0 w w' : World} {km kc : Nat} {zz : List UInt8} {Q : World → Prop} {m : Nat → Bool} {u : Nat → Value}
theorem J3.start (W0 : World) (km kc : Nat) (zz : List UInt8) (Q : World → Prop) : J3 W0 km kc zz Q (fun _ => false) (fun _ => undef) W0.drew := ⟨fun _ => (Grew.refl W0).drew, (fun h => by cases h), (fun h => by cases h), (fun h => by cases h)⟩
theorem J3.keep (h : J3 W0 km kc zz Q m u w) (k : Nat) (v : Value) (h1 : k ≠ km) (h2 : k ≠ kc) : J3 W0 km kc zz Q (Marks.upd m k) (Marks.updv u k v) w := by
  refine ⟨?_, ?_, ?_, ?_⟩
  · rw [Marks.upd_other m (by omega)]; exact h.bef
  · rw [Marks.upd_other m (by omega), Marks.upd_other m (by omega), Marks.updv_other u v (by omega)]; exact h.row
  · rw [Marks.upd_other m (by omega)]; exact h.aft
  · rw [Marks.upd_other m (by omega), Marks.upd_other m (by omega)]; exact h.dep
theorem J3.no (h : J3 W0 km kc zz Q m u w) (hm : m km = false) : m kc = false := by
  cases hc : m kc with
  | false => rfl
  | true => have := h.dep hc; rw [hm] at this; cases this
theorem J3.made (h : J3 W0 km kc zz Q m u w) (v : Value) (hn : km ≠ kc) (hm : m km = false) (hg : Grew w w') (hr : Rd (fun b => W0.heap.size ≤ b) w' v zz) : J3 W0 km kc zz Q (Marks.upd m km) (Marks.updv u km v) w' := by
  have hq := h.no hm
  refine ⟨?_, ?_, ?_, ?_⟩
  · rw [Marks.upd_other m (by omega)]; exact fun q => (h.bef q).trans hg
  · intro _ _; rw [Marks.updv_same]; exact hr
  · rw [Marks.upd_other m (by omega), hq]; exact fun h => by cases h
  · rw [Marks.upd_same]; exact fun _ => rfl
theorem J3.call (h : J3 W0 km kc zz Q m u w) (v : Value) (hn : km ≠ kc) (hk : m km = true) (hq : Q w') : J3 W0 km kc zz Q (Marks.upd m kc) (Marks.updv u kc v) w' := by
  refine ⟨?_, ?_, fun _ => hq, ?_⟩
  · rw [Marks.upd_same]; exact fun h => by cases h
  · rw [Marks.upd_same]; exact fun _ h => by cases h
  · intro _; rw [Marks.upd_other m hn]; exact hk
theorem J3.blk (h : J3 W0 km kc zz Q m u w) {b : Nat} {o : Obj} (h0 : W0.heap[b]? = some o) (hQ : ∀ z, Q z → z.heap[b]? = some o) : w.heap[b]? = some o := by
  cases hc : m kc with
  | false => exact ((h.bef hc).block b (Array.getElem?_eq_some_iff.1 h0).1).trans h0
  | true => exact hQ w (h.aft hc)
end
/-- A vault by value, and a box of it. -/
def VV (jr : Option Nat) (g : Nat) (q : Pl) (base : Nat) (dead : Bool) : Value := .agg #[VP jr, .pointer (some ⟨g, 0, none⟩), .int .i64 (q.a : Int), .int .i64 (q.p : Int), .int .i64 (q.e : Int), .int .u64 (base : Int), .bool dead]
def VX (jr : Option Nat) (g : Nat) (q : Pl) (base : Nat) (dead : Bool) : Obj := .cells #[VP jr, .pointer (some ⟨g, 0, none⟩), .int .i64 (q.a : Int), .int .i64 (q.p : Int), .int .i64 (q.e : Int), .int .u64 (base : Int), .bool dead] 145
theorem xcells {y : World} {gv g : Nat} {jr : Option Nat} {q : Pl} {base : Nat} {dead : Bool} (h : y.heap[gv]? = some (VX jr g q base dead)) : VCells y gv jr g q base dead := by
  refine ⟨?_, ?_, ?_, ?_, ?_, ?_, ?_⟩ <;> (rw [cell_of_row _ _ _ _ _ _ h]; rfl)
def gjo (v : Value) : Nat := match v with | .tuple #[.pointer (some a), _] => a.block | _ => 0
/-- A new journal within a region. -/
structure J4 (W0 : World) (g : Nat) (j : Jr) (m : Nat → Bool) (u : Nat → Value) (w : World) : Prop where
  gr : Grew W0 w
  jn : m 12 = true → ∃ gj, u 12 = .tuple #[.pointer (some ⟨gj, 0, none⟩), .int .i64 0] ∧ w.heap[gj]? = some (JO g j) ∧ W0.heap.size ≤ gj
  ex : m 13 = true → m 12 = true ∧ u 13 = .pointer (some ⟨gjo (u 12), 0, none⟩)
  asn : m 15 = true → m 13 = true ∧ u 15 = u 13
section
variable {W0 w w' : World} {g : Nat} {j : Jr} {m : Nat → Bool} {u : Nat → Value}
theorem J4.start (W0 : World) (g : Nat) (j : Jr) : J4 W0 g j (fun _ => false) (fun _ => undef) W0.drew := ⟨(Grew.refl W0).drew, (fun h => by cases h), (fun h => by cases h), (fun h => by cases h)⟩
theorem J4.go (h : J4 W0 g j m u w) (k : Nat) (v : Value) (h1 : k ≠ 12) (h2 : k ≠ 13) (h3 : k ≠ 15) (hg : Grew w w') : J4 W0 g j (Marks.upd m k) (Marks.updv u k v) w' := by
  refine ⟨h.gr.trans hg, ?_, ?_, ?_⟩
  · rw [Marks.upd_other m (by omega), Marks.updv_other u v (by omega)]
    intro q
    obtain ⟨gj, a, b, c⟩ := h.jn q
    exact ⟨gj, a, (hg.block gj (Array.getElem?_eq_some_iff.1 b).1).trans b, c⟩
  · rw [Marks.upd_other m (by omega), Marks.upd_other m (by omega), Marks.updv_other u v (by omega), Marks.updv_other u v (by omega)]; exact h.ex
  · rw [Marks.upd_other m (by omega), Marks.upd_other m (by omega), Marks.updv_other u v (by omega), Marks.updv_other u v (by omega)]; exact h.asn
theorem J4.made (h : J4 W0 g j m u w) (hm : m 12 = false) (gj : Nat) (hg : Grew w w') (ho : w'.heap[gj]? = some (JO g j)) (hgj : w.heap.size ≤ gj) : J4 W0 g j (Marks.upd m 12) (Marks.updv u 12 (.tuple #[.pointer (some ⟨gj, 0, none⟩), .int .i64 0])) w' := by
  have q13 : m 13 = false := by
    cases hc : m 13 with
    | false => rfl
    | true => have := (h.ex hc).1; rw [hm] at this; cases this
  have q15 : m 15 = false := by
    cases hc : m 15 with
    | false => rfl
    | true => have := (h.asn hc).1; rw [q13] at this; cases this
  refine ⟨h.gr.trans hg, fun _ => ⟨gj, Marks.updv_same .., ho, Nat.le_trans h.gr.size hgj⟩, ?_, ?_⟩
  · rw [Marks.upd_other m (by omega), q13]; exact fun h => by cases h
  · rw [Marks.upd_other m (by omega), q15]; exact fun h => by cases h
theorem J4.ext (h : J4 W0 g j m u w) (hm : m 13 = false) (h12 : m 12 = true) : J4 W0 g j (Marks.upd m 13) (Marks.updv u 13 (.pointer (some ⟨gjo (u 12), 0, none⟩))) w := by
  have q15 : m 15 = false := by
    cases hc : m 15 with
    | false => rfl
    | true => have := (h.asn hc).1; rw [hm] at this; cases this
  refine ⟨h.gr, ?_, fun _ => ?_, ?_⟩
  · rw [Marks.upd_other m (by omega), Marks.updv_other u _ (by omega)]; exact h.jn
  · rw [Marks.upd_other m (by omega), Marks.updv_same, Marks.updv_other u _ (by omega)]; exact ⟨h12, rfl⟩
  · rw [Marks.upd_other m (by omega), q15]; exact fun h => by cases h
theorem J4.asg (h : J4 W0 g j m u w) (h13 : m 13 = true) : J4 W0 g j (Marks.upd m 15) (Marks.updv u 15 (u 13)) w := by
  refine ⟨h.gr, ?_, ?_, fun _ => ?_⟩
  · rw [Marks.upd_other m (by omega), Marks.updv_other u _ (by omega)]; exact h.jn
  · rw [Marks.upd_other m (by omega), Marks.upd_other m (by omega), Marks.updv_other u _ (by omega), Marks.updv_other u _ (by omega)]; exact h.ex
  · rw [Marks.upd_other m (by omega), Marks.updv_same, Marks.updv_other u _ (by omega)]; exact ⟨h13, rfl⟩
end
/-- What comes of a next snapshot. -/
def KEPT (w : World) (g : Nat) (d' : Pd) (V : List (Value × Cont)) (ys : Nat) (q : Pl) (next : Nat) (r : Int) (e : Ending) (z : World) : Prop :=
  (¬ r = 0 ∧ e = .returned (.tuple #[.pointer none, .int .i64 r]) ∧ DS w g d' V z) ∨ (r = 0 ∧ ∃ gj, e = .returned (.tuple #[.pointer (some ⟨gj, 0, none⟩), .int .i64 0]) ∧ DS w g d' ((.nilFunc, Cont.blk gj (JO g ⟨2 * q.a, q.p, q.e, 0, next⟩)) :: V) z ∧ ys ≤ gj)
theorem KEPT.no {w : World} {g : Nat} {d' : Pd} {V : List (Value × Cont)} {ys : Nat} {q : Pl} {next : Nat} {r : Int} {e : Ending} {z : World} (h0 : ¬ r = 0) (h1 : e = .returned (.tuple #[.pointer none, .int .i64 r])) (h2 : DS w g d' V z) : KEPT w g d' V ys q next r e z := .inl ⟨h0, h1, h2⟩
theorem KEPT.yes {w : World} {g : Nat} {d' : Pd} {V : List (Value × Cont)} {ys : Nat} {q : Pl} {next : Nat} {e : Ending} {z : World} (gj : Nat) (h1 : e = .returned (.tuple #[.pointer (some ⟨gj, 0, none⟩), .int .i64 0])) (h2 : DS w g d' ((.nilFunc, Cont.blk gj (JO g ⟨2 * q.a, q.p, q.e, 0, next⟩)) :: V) z) (h3 : ys ≤ gj) : KEPT w g d' V ys q next 0 e z := .inr ⟨rfl, gj, h1, h2, h3⟩
set_option maxHeartbeats 4000000 in
theorem ds_vkeep {w y : World} {g : Nat} {L : List Sec} {fu : Int} {V : List (Value × Cont)} (h : DS w g (calmF L fu) V y) (jr : Option Nat) (q : Pl) (pe : Nat) (hpk : POK q pe) (base next : Nat) (dead : Bool) (n c s : Nat) (b0 : List UInt8) (hk : SK L 0 q.a n c s b0) (hn : anw L 0 (2 * q.a) = n) (hl : L.length ≤ 16384) (hs : may (n + 1) = true) (v : Value) (st : List UInt8) (hin : (v, Cont.bytes st) ∈ V) (hst : st.length + 12 ≤ 108 * q.a) (d' : Pd) (r : Int) (he : nextP L 0 q.a c n (keptB next st) fu = (d', r)) (hnx : next < 18446744073709551616) (hjq : r = 0 → jrefus d' ((2 * q.a : Nat) : Int) (q.p : Int) (q.e : Int) next = 0) :
    Calls Try.prog 93 #[VV jr g q base dead, .int .u64 (next : Int), v] y fun e z => KEPT w g d' V y.heap.size q next r e z := by
  have HD := Lib.hid h
  have HPK := Lib.hid hpk
  have HSK := Lib.hid hk
  have HNN : Hid (SC.Nwst L 0 (2 * q.a) n) := Lib.hid ⟨hn⟩
  have HL := Lib.hid hl
  have HMAY := Lib.hid hs
  have HIN := Lib.hid hin
  have HST : Hid (st.length ≤ 100000000) := Lib.hid (by have := hpk.all; omega)
  have HKB : Hid ((keptB next st).length + 4 ≤ 108 * q.a) := Lib.hid (by rw [keptB_length]; omega)
  have HE := Lib.hid he
  have HNX := Lib.hid hnx
  have HJ := Lib.hid hjq
  have HYS := Lib.hid (Nat.le_refl y.heap.size)
  obtain ⟨A, cp, rfl, _⟩ := id (h.rd hin)
  obtain ⟨v, hv⟩ : ∃ v, v = Value.slice A st.length cp := ⟨_, rfl⟩
  rw [← hv] at HIN ⊢
  clear h hpk hk hn hl hs hin hst he hnx hjq hv
  unfold VV
  go_enter Try.func93, Try.ntmps93
  have hb : (y.alloc (VX jr g q base dead)).heap[y.heap.size]? = some (VX jr g q base dead) := heap_alloc_new y _
  have hd1 : DS w g (calmF L fu) ((.nilFunc, Cont.blk y.heap.size (VX jr g q base dead)) :: V) (y.alloc (VX jr g q base dead)) := HD.out.new ((Below.refl _ y).alloc (Nat.le_refl _) _) .nilFunc (Nat.le_refl _) hb
  go_upto_region 1 with fail
  have HY1 : Hid (y.heap.size ≤ (y.alloc (VX jr g q base dead)).heap.size) := Lib.hid (by simp)
  have HBX := Lib.hid hb
  have HD1 := Lib.hid hd1
  clear hb hd1 HD
  change Code.wp _ _ _ _ (y.alloc (VX jr g q base dead))
  generalize y.alloc (VX jr g q base dead) = W1 at *
  obtain ⟨BB, hBB⟩ : ∃ BB, y.heap.size = BB := ⟨_, rfl⟩
  have HBB := Lib.hid hBB
  rw [hBB] at HBX HD1 HY1 HYS ⊢
  clear hBB
  refine Marks.wp_region_text (J3 W1 7 8 (keptB next st) (fun z => DS w g d' ((.nilFunc, Cont.blk BB (VX jr g q base dead)) :: V) z)) (fun _ _ => True) (by kernel_rfl) (by kernel_rfl) (J3.start W1 7 8 _ _) ?_
  apply Marks.Lex.exact [] _ (by kernel_rfl)
  · intro m' u W hm hcl hJ _
    unfold Marks.one
    go_simp
    exact ⟨trivial, hJ.keep 0 _ (by omega) (by omega), rfl⟩
  simp only [Act.put, List.setIfInBounds_toArray, List.set_cons_zero, List.set_cons_succ, Nat.zero_add]
  apply Marks.Lex.exact [] _ (by kernel_rfl)
  · intro m' u W hm hcl hJ _
    have hx := xcells (hJ.blk HBX.out (fun z h => DS.at_ h (List.mem_cons_self ..)))
    have d1 := hx.c1
    have d2 := hx.c2
    have d3 := hx.c3
    have d4 := hx.c4
    unfold Marks.one
    go_simp
    exact ⟨trivial, hJ.keep 1 _ (by omega) (by omega), rfl⟩
  simp only [Act.put, List.setIfInBounds_toArray, List.set_cons_zero, List.set_cons_succ, Nat.reduceAdd]
  apply Marks.Lex.exact [] _ (by kernel_rfl)
  · intro m' u W hm hcl hJ _
    unfold Marks.one
    go_simp
    exact ⟨trivial, hJ.keep 2 _ (by omega) (by omega), rfl⟩
  simp only [Act.put, List.setIfInBounds_toArray, List.set_cons_zero, List.set_cons_succ, Nat.reduceAdd]
  apply Marks.Lex.exact [] _ (by kernel_rfl)
  · intro m' u W hm hcl hJ _
    unfold Marks.one
    go_simp
    exact ⟨trivial, hJ.keep 3 _ (by omega) (by omega), rfl⟩
  simp only [Act.put, List.setIfInBounds_toArray, List.set_cons_zero, List.set_cons_succ, Nat.reduceAdd]
  apply Marks.Lex.exact [] _ (by kernel_rfl)
  · intro m' u W hm hcl hJ _
    have hx := xcells (hJ.blk HBX.out (fun z h => DS.at_ h (List.mem_cons_self ..)))
    have d1 := hx.c1
    have d2 := hx.c2
    have d3 := hx.c3
    have d4 := hx.c4
    unfold Marks.one
    go_simp
    exact ⟨trivial, hJ.keep 4 _ (by omega) (by omega), rfl⟩
  simp only [Act.put, List.setIfInBounds_toArray, List.set_cons_zero, List.set_cons_succ, Nat.reduceAdd]
  apply Marks.Lex.exact [] _ (by kernel_rfl)
  · intro m' u W hm hcl hJ _
    unfold Marks.one
    go_simp
    exact ⟨trivial, hJ.keep 5 _ (by omega) (by omega), rfl⟩
  simp only [Act.put, List.setIfInBounds_toArray, List.set_cons_zero, List.set_cons_succ, Nat.reduceAdd]
  apply Marks.Lex.exact [] _ (by kernel_rfl)
  · intro m' u W hm hcl hJ _
    unfold Marks.one
    go_simp
    exact ⟨trivial, hJ.keep 6 _ (by omega) (by omega), rfl⟩
  simp only [Act.put, List.setIfInBounds_toArray, List.set_cons_zero, List.set_cons_succ, Nat.reduceAdd]
  apply Marks.Lex.know [] (fun _ _ => True) (by kernel_rfl) (fun _ _ _ _ _ => trivial)
  · intro m' u W hm hcl hJ _
    unfold Marks.one
    go_simp
    refine (kept_any next _ v st W (HD1.out.rd (v := v) (l := st) (List.mem_cons_of_mem _ HIN.out) |>.grew (hJ.bef (hJ.no hm))) HST.out).mono ?_
    rintro e w' ⟨v', rfl, hr, hg⟩
    exact ⟨_, rfl, trivial, hJ.made _ (by omega) hm hg (hr.mono fun b hb => Nat.le_trans (hJ.bef (hJ.no hm)).size hb), trivial⟩
  simp only [Act.put, List.setIfInBounds_toArray, List.set_cons_zero, List.set_cons_succ, Nat.reduceAdd]
  apply Marks.Lex.exact [] (.int .i64 r) (by kernel_rfl)
  · intro m' u W hm hcl hJ _
    unfold Marks.one
    go_simp
    refine (ds_next (HD1.out.add (hJ.bef hm) (hJ.row (hcl 7 (by decide)) hm)) 0 q.a n c s 0 _ rfl rfl b0 HSK.out HNN.out.is HL.out HMAY.out (u 7) (keptB next st) (List.mem_cons_self ..) HKB.out d' r HE.out).mono ?_
    rintro e w' ⟨rfl, hx⟩
    exact ⟨_, rfl, trivial, hJ.call _ (by omega) (hcl 7 (by decide)) (hx.sub fun p hp => List.mem_cons_of_mem _ hp), rfl⟩
  simp only [Act.put, List.setIfInBounds_toArray, List.set_cons_zero, List.set_cons_succ, Nat.reduceAdd]
  apply Marks.Lex.exact [] _ (by kernel_rfl)
  · intro m' u W hm hcl hJ _
    unfold Marks.one
    go_simp
    exact ⟨trivial, hJ.keep 9 _ (by omega) (by omega), rfl⟩
  simp only [Act.put, List.setIfInBounds_toArray, List.set_cons_zero, List.set_cons_succ, Nat.reduceAdd]
  refine Marks.Lex.done fun m' u W hm hJ _ => ?_
  have HDW := Lib.hid (hJ.aft (hm 8 (by omega)))
  clear hm hJ HD1 HBX
  by_cases h0 : r = 0
  · have HR0 := Lib.hid h0
    have HJQ := Lib.hid (HJ.out h0)
    subst h0
    have HBX : Hid (W.heap[BB]? = some (VX jr g q base dead)) := Lib.hid (HDW.out.at_ (List.mem_cons_self ..))
    have HWS : Hid (BB < W.heap.size) := Lib.hid (Array.getElem?_eq_some_iff.1 HBX.out).1
    clear HJ
    go_upto_region 4 with fail
    generalize W = WB at *
    refine Marks.wp_region_text (J4 WB g ⟨2 * q.a, q.p, q.e, 0, next⟩) (fun _ _ => True) (by kernel_rfl) (by kernel_rfl) (J4.start WB g _) ?_
    apply Marks.Lex.exact [] _ (by kernel_rfl)
    · intro m' u W hm hcl hJ _
      unfold Marks.one
      go_simp
      exact ⟨trivial, hJ.go 0 _ (by omega) (by omega) (by omega) (Grew.refl W), rfl⟩
    simp only [Act.put, List.setIfInBounds_toArray, List.set_cons_zero, List.set_cons_succ, Nat.zero_add]
    apply Marks.Lex.exact [] _ (by kernel_rfl)
    · intro m' u W hm hcl hJ _
      have hx := xcells ((hJ.gr.block BB (Array.getElem?_eq_some_iff.1 HBX.out).1).trans HBX.out)
      have d1 := hx.c1
      have d2 := hx.c2
      have d3 := hx.c3
      have d4 := hx.c4
      unfold Marks.one
      go_simp
      exact ⟨trivial, hJ.go 1 _ (by omega) (by omega) (by omega) (Grew.refl W), rfl⟩
    simp only [Act.put, List.setIfInBounds_toArray, List.set_cons_zero, List.set_cons_succ, Nat.reduceAdd]
    apply Marks.Lex.exact [] _ (by kernel_rfl)
    · intro m' u W hm hcl hJ _
      unfold Marks.one
      go_simp
      exact ⟨trivial, hJ.go 2 _ (by omega) (by omega) (by omega) (Grew.refl W), rfl⟩
    simp only [Act.put, List.setIfInBounds_toArray, List.set_cons_zero, List.set_cons_succ, Nat.reduceAdd]
    apply Marks.Lex.exact [] (PV q) (by kernel_rfl)
    · intro m' u W hm hcl hJ _
      have hx := xcells ((hJ.gr.block BB (Array.getElem?_eq_some_iff.1 HBX.out).1).trans HBX.out)
      have d1 := hx.c1
      have d2 := hx.c2
      have d3 := hx.c3
      have d4 := hx.c4
      unfold PV
      unfold Marks.one
      go_simp
      exact ⟨trivial, hJ.go 3 _ (by omega) (by omega) (by omega) (Grew.refl W), rfl⟩
    simp only [Act.put, List.setIfInBounds_toArray, List.set_cons_zero, List.set_cons_succ, Nat.reduceAdd]
    apply Marks.Lex.exact [] (.int .i64 ((2 * q.a : Nat) : Int)) (by kernel_rfl)
    · intro m' u W hm hcl hJ _
      unfold Marks.one
      go_simp
      refine (from_any q pe HPK.out W).mono ?_
      rintro e w' ⟨rfl, hg⟩
      exact ⟨_, rfl, trivial, hJ.go 4 _ (by omega) (by omega) (by omega) hg, rfl⟩
    simp only [Act.put, List.setIfInBounds_toArray, List.set_cons_zero, List.set_cons_succ, Nat.reduceAdd]
    apply Marks.Lex.exact [] _ (by kernel_rfl)
    · intro m' u W hm hcl hJ _
      unfold Marks.one
      go_simp
      exact ⟨trivial, hJ.go 5 _ (by omega) (by omega) (by omega) (Grew.refl W), rfl⟩
    simp only [Act.put, List.setIfInBounds_toArray, List.set_cons_zero, List.set_cons_succ, Nat.reduceAdd]
    apply Marks.Lex.exact [] _ (by kernel_rfl)
    · intro m' u W hm hcl hJ _
      unfold Marks.one
      go_simp
      exact ⟨trivial, hJ.go 6 _ (by omega) (by omega) (by omega) (Grew.refl W), rfl⟩
    simp only [Act.put, List.setIfInBounds_toArray, List.set_cons_zero, List.set_cons_succ, Nat.reduceAdd]
    apply Marks.Lex.exact [] _ (by kernel_rfl)
    · intro m' u W hm hcl hJ _
      have hx := xcells ((hJ.gr.block BB (Array.getElem?_eq_some_iff.1 HBX.out).1).trans HBX.out)
      have d1 := hx.c1
      have d2 := hx.c2
      have d3 := hx.c3
      have d4 := hx.c4
      unfold Marks.one
      go_simp
      exact ⟨trivial, hJ.go 7 _ (by omega) (by omega) (by omega) (Grew.refl W), rfl⟩
    simp only [Act.put, List.setIfInBounds_toArray, List.set_cons_zero, List.set_cons_succ, Nat.reduceAdd]
    apply Marks.Lex.exact [] _ (by kernel_rfl)
    · intro m' u W hm hcl hJ _
      unfold Marks.one
      go_simp
      exact ⟨trivial, hJ.go 8 _ (by omega) (by omega) (by omega) (Grew.refl W), rfl⟩
    simp only [Act.put, List.setIfInBounds_toArray, List.set_cons_zero, List.set_cons_succ, Nat.reduceAdd]
    apply Marks.Lex.exact [] _ (by kernel_rfl)
    · intro m' u W hm hcl hJ _
      unfold Marks.one
      go_simp
      exact ⟨trivial, hJ.go 9 _ (by omega) (by omega) (by omega) (Grew.refl W), rfl⟩
    simp only [Act.put, List.setIfInBounds_toArray, List.set_cons_zero, List.set_cons_succ, Nat.reduceAdd]
    apply Marks.Lex.exact [] _ (by kernel_rfl)
    · intro m' u W hm hcl hJ _
      have hx := xcells ((hJ.gr.block BB (Array.getElem?_eq_some_iff.1 HBX.out).1).trans HBX.out)
      have d1 := hx.c1
      have d2 := hx.c2
      have d3 := hx.c3
      have d4 := hx.c4
      unfold Marks.one
      go_simp
      exact ⟨trivial, hJ.go 10 _ (by omega) (by omega) (by omega) (Grew.refl W), rfl⟩
    simp only [Act.put, List.setIfInBounds_toArray, List.set_cons_zero, List.set_cons_succ, Nat.reduceAdd]
    apply Marks.Lex.exact [] _ (by kernel_rfl)
    · intro m' u W hm hcl hJ _
      unfold Marks.one
      go_simp
      exact ⟨trivial, hJ.go 11 _ (by omega) (by omega) (by omega) (Grew.refl W), rfl⟩
    simp only [Act.put, List.setIfInBounds_toArray, List.set_cons_zero, List.set_cons_succ, Nat.reduceAdd]
    apply Marks.Lex.know [] (fun _ _ => True) (by kernel_rfl) (fun _ _ _ _ _ => trivial)
    · intro m' u W hm hcl hJ _
      unfold Marks.one
      go_simp
      obtain ⟨D, hdk⟩ := (HDW.out.grew hJ.gr).dk
      refine (jnew_any W g D d' (2 * q.a) q.p q.e next hdk HNX.out (by have := HPK.out.all; omega) HJQ.out).mono ?_
      rintro e w' ⟨gj, rfl, hjl, hgj, hg⟩
      exact ⟨_, rfl, trivial, hJ.made hm gj hg hjl hgj, trivial⟩
    simp only [Act.put, List.setIfInBounds_toArray, List.set_cons_zero, List.set_cons_succ, Nat.reduceAdd]
    apply Marks.Lex.know [] (fun _ _ => True) (by kernel_rfl) (fun _ _ _ _ _ => trivial)
    · intro m' u W hm hcl hJ _
      obtain ⟨gj, eu, _⟩ := hJ.jn (hcl 12 (by decide))
      have hex := hJ.ext hm (hcl 12 (by decide))
      have egj : gjo (u 12) = gj := by rw [eu]; rfl
      rw [egj] at hex
      unfold Marks.one
      go_simp
      exact ⟨trivial, hex, trivial⟩
    simp only [Act.put, List.setIfInBounds_toArray, List.set_cons_zero, List.set_cons_succ, Nat.reduceAdd]
    apply Marks.Lex.exact [] (.int .i64 0) (by kernel_rfl)
    · intro m' u W hm hcl hJ _
      obtain ⟨gj, eu, _⟩ := hJ.jn (hcl 12 (by decide))
      unfold Marks.one
      go_simp
      exact ⟨trivial, hJ.go 14 _ (by omega) (by omega) (by omega) (Grew.refl W), rfl⟩
    simp only [Act.put, List.setIfInBounds_toArray, List.set_cons_zero, List.set_cons_succ, Nat.reduceAdd]
    apply Marks.Lex.know [] (fun _ _ => True) (by kernel_rfl) (fun _ _ _ _ _ => trivial)
    · intro m' u W hm hcl hJ _
      unfold Marks.one
      go_simp
      exact ⟨trivial, hJ.asg (hcl 13 (by decide)), trivial⟩
    simp only [Act.put, List.setIfInBounds_toArray, List.set_cons_zero, List.set_cons_succ, Nat.reduceAdd]
    apply Marks.Lex.exact [] _ (by kernel_rfl)
    · intro m' u W hm hcl hJ _
      unfold Marks.one
      go_simp
      exact ⟨trivial, hJ.go 16 _ (by omega) (by omega) (by omega) (Grew.refl W), rfl⟩
    simp only [Act.put, List.setIfInBounds_toArray, List.set_cons_zero, List.set_cons_succ, Nat.reduceAdd]
    refine Marks.Lex.done fun m' u W hm hJ _ => ?_
    obtain ⟨gj, eu, hob, hgj⟩ := hJ.jn (hm 12 (by omega))
    have e15 := (hJ.asn (hm 15 (by omega))).2
    have e13 := (hJ.ex (hm 13 (by omega))).2
    have egj : gjo (u 12) = gj := by rw [eu]; rfl
    rw [egj] at e13
    rw [e13] at e15
    rw [e15]
    have HDE := Lib.hid ((HDW.out.sub (V' := V) fun p hp => List.mem_cons_of_mem _ hp).new hJ.gr .nilFunc hgj hob)
    have HGJ : Hid (y.heap.size ≤ gj) := Lib.hid (by rw [HBB.out]; have := HWS.out; omega)
    clear hm hJ eu e15 e13 egj hob hgj
    go_wp2
    go_returns
    exact KEPT.yes gj rfl HDE.out HGJ.out
  · have hrb : (r != 0) = true := by simpa using h0
    have HR0 := Lib.hid h0
    clear h0 HJ
    go_wp2
    go_returns
    exact KEPT.no HR0.out rfl (HDW.out.sub fun p hp => List.mem_cons_of_mem _ hp)
theorem pow_err {r : Int} (h : ¬ r = 15) : (r == 15) = false := by simpa using h
/-- A record that is committed, where records may be. -/
theorem ds_commit {w y : World} {g gv gj : Nat} {d d' : Pd} {V : List (Value × Cont)} {q : Pl} {base : Nat} {j j' : Jr} {r : Int} (h : DS w g d ((.nilFunc, Cont.blk gv (VO (some gj) g q base false)) :: (.nilFunc, Cont.blk gj (JO g j)) :: V) y) (hn : ¬ BL V gj) (hnv : ¬ BL V gv) (hne : gv ≠ gj) (hk : JK j) (hb : 1 ≤ j.base) (hw : d.waits.length ≤ 1000000000) (v : Value) (b : List UInt8) (hr : Rd (fun _ => True) y v b) (he : japp j d b = (j', d', r)) :
    Calls Try.prog 50 #[.pointer (some ⟨gv, 0, none⟩), v] y fun e z => e = .returned (.int .i64 r) ∧ (if r = 15 then DS w g d' ((.nilFunc, Cont.blk gv (VO none g q base true)) :: V) z else DS w g d' ((.nilFunc, Cont.blk gv (VO (some gj) g q base false)) :: (.nilFunc, Cont.blk gj (JO g j')) :: V) z) := by
  obtain ⟨A, c, rfl, _⟩ := id hr
  have hv := h.at_ (x := .nilFunc) (b := gv) (List.mem_cons_self ..)
  have HM := Lib.hid (vmade hv)
  have c0 := (vcells hv).c0
  have h2 : DS w g d ((.nilFunc, Cont.blk gj (JO g j)) :: (.nilFunc, Cont.blk gv (VO (some gj) g q base false)) :: V) y := h.sub fun p hp => by
    simp only [List.mem_cons] at hp ⊢
    rcases hp with hp | hp | hp
    · exact .inr (.inl hp)
    · exact .inl hp
    · exact .inr (.inr hp)
  have hn2 : ¬ BL ((.nilFunc, Cont.blk gv (VO (some gj) g q base false)) :: V) gj := fun hbl => (bl_cons hbl).elim (fun e => hne e.symm) hn
  have HA := Lib.hid (ds_append h2 hn2 hk hb hw _ _ b hr he)
  have HNV := Lib.hid hnv
  have HNE := Lib.hid hne
  clear h h2 hn hn2 hnv hne hk hb hw hr he hv
  unfold VP at c0
  simp only [Option.map_some] at c0
  go_enter Try.func50, Try.ntmps50
  go_wp2_with fail
  refine HM.out.mono ?_
  rintro e w' ⟨rfl, rfl⟩
  go_wp2_with fail
  refine HA.out.mono ?_
  rintro e w1 ⟨rfl, hd⟩
  have HD := Lib.hid hd
  clear hd HA HM c0
  by_cases h15 : r = 15
  · subst h15
    have hv1 := HD.out.at_ (x := .nilFunc) (b := gv) (List.mem_cons_of_mem _ (List.mem_cons_self ..))
    have HDI := Lib.hid (vdie hv1)
    clear hv1
    go_wp2_with fail
    refine HDI.out.mono ?_
    rintro e w2 ⟨rfl, ho, hk⟩
    have hd2 : DS w g d' ((.nilFunc, Cont.blk gv (VO none g q base true)) :: V) w2 := ds_set (HD.out.sub fun p hp => by
      rcases List.mem_cons.1 hp with hp | hp
      · exact hp ▸ List.mem_cons_of_mem _ (List.mem_cons_self ..)
      · exact List.mem_cons_of_mem _ (List.mem_cons_of_mem _ hp)) HNV.out hk ho
    have HD2 := Lib.hid hd2
    clear ho hk hd2
    go_wp2
    go_ret
    exact ⟨rfl, HD2.out⟩
  · have H15 := Lib.hid h15
    have hb := pow_err h15
    have HDS : Hid (DS w g d' ((.nilFunc, Cont.blk gv (VO (some gj) g q base false)) :: (.nilFunc, Cont.blk gj (JO g j')) :: V) w1) := Lib.hid (HD.out.sub fun p hp => by
      simp only [List.mem_cons] at hp ⊢
      rcases hp with hp | hp | hp
      · exact .inr (.inl hp)
      · exact .inl hp
      · exact .inr (.inr hp))
    clear h15 HD
    go_wp2
    go_ret
    refine ⟨rfl, ?_⟩
    first | exact HDS.out | (rw [if_neg H15.out]; exact HDS.out) | (split; exact absurd (by assumption) H15.out; exact HDS.out)
/-- A record that is committed, where none may be. -/
theorem ds_commit_no {w y : World} {g gv : Nat} {d : Pd} {V : List (Value × Cont)} {q : Pl} {base : Nat} {dead : Bool} (h : DS w g d ((.nilFunc, Cont.blk gv (VO none g q base dead)) :: V) y) (v : Value) :
    Calls Try.prog 50 #[.pointer (some ⟨gv, 0, none⟩), v] y fun e z => e = .returned (.int .i64 10) ∧ y = z := by
  have hv := h.at_ (x := .nilFunc) (b := gv) (List.mem_cons_self ..)
  have HM := Lib.hid (vmade hv)
  have c0 := (vcells hv).c0
  unfold VP at c0
  simp only [Option.map_none] at c0
  clear h hv
  go_enter Try.func50, Try.ntmps50
  go_wp2_with fail
  refine HM.out.mono ?_
  rintro e w' ⟨rfl, rfl⟩
  go_wp2
  go_ret
  exact ⟨rfl, rfl⟩
/-- A checkpoint of a vault that is not dead. -/
def CKD (w : World) (g gv : Nat) (d' : Pd) (V : List (Value × Cont)) (ys : Nat) (q : Pl) (base next : Nat) (r : Int) (e : Ending) (z : World) : Prop :=
  e = .returned (.int .i64 r) ∧ ((¬ r = 0 ∧ DS w g d' ((.nilFunc, Cont.blk gv (VO none g q base true)) :: V) z) ∨ (r = 0 ∧ ∃ gj, DS w g d' ((.nilFunc, Cont.blk gv (VO (some gj) g q next false)) :: (.nilFunc, Cont.blk gj (JO g ⟨2 * q.a, q.p, q.e, 0, next⟩)) :: V) z ∧ ys ≤ gj))
theorem CKD.no {w : World} {g gv : Nat} {d' : Pd} {V : List (Value × Cont)} {ys : Nat} {q : Pl} {base next : Nat} {r : Int} {e : Ending} {z : World} (h0 : ¬ r = 0) (h1 : e = .returned (.int .i64 r)) (h2 : DS w g d' ((.nilFunc, Cont.blk gv (VO none g q base true)) :: V) z) : CKD w g gv d' V ys q base next r e z := ⟨h1, .inl ⟨h0, h2⟩⟩
theorem CKD.yes {w : World} {g gv : Nat} {d' : Pd} {V : List (Value × Cont)} {ys : Nat} {q : Pl} {base next : Nat} {e : Ending} {z : World} (gj : Nat) (h1 : e = .returned (.int .i64 0)) (h2 : DS w g d' ((.nilFunc, Cont.blk gv (VO (some gj) g q next false)) :: (.nilFunc, Cont.blk gj (JO g ⟨2 * q.a, q.p, q.e, 0, next⟩)) :: V) z) (h3 : ys ≤ gj) : CKD w g gv d' V ys q base next 0 e z := ⟨h1, .inr ⟨rfl, gj, h2, h3⟩⟩
set_option maxHeartbeats 4000000 in
theorem ds_checkpoint {w y : World} {g gv : Nat} {L : List Sec} {fu : Int} {V : List (Value × Cont)} (jr : Option Nat) (q : Pl) (pe : Nat) (hpk : POK q pe) (base : Nat) (h : DS w g (calmF L fu) ((.nilFunc, Cont.blk gv (VO jr g q base false)) :: V) y) (hnv : ¬ BL V gv) (n c s : Nat) (b0 : List UInt8) (hk : SK L 0 q.a n c s b0) (hn : anw L 0 (2 * q.a) = n) (hl : L.length ≤ 16384) (hs : may (n + 1) = true) (v : Value) (st : List UInt8) (hin : (v, Cont.bytes st) ∈ V) (hst : st.length + 12 ≤ 108 * q.a) (d' : Pd) (r : Int) (hb1 : 1 ≤ base) (hb2 : base + 2 * pe ≤ 4611686018427387904) (he : nextP L 0 q.a c n (keptB (base + pe) st) fu = (d', r)) (hjq : r = 0 → jrefus d' ((2 * q.a : Nat) : Int) (q.p : Int) (q.e : Int) (base + pe) = 0) :
    Calls Try.prog 49 #[.pointer (some ⟨gv, 0, none⟩), v] y fun e z => CKD w g gv d' V y.heap.size q base (base + pe) r e z := by
  have hv := h.at_ (x := .nilFunc) (b := gv) (List.mem_cons_self ..)
  have HV := Lib.hid hv
  have HM := Lib.hid (vmade hv)
  have HPK := Lib.hid hpk
  have HDY := Lib.hid h
  have HNV := Lib.hid hnv
  obtain ⟨A, cp, e0, _⟩ := id (h.rd (List.mem_cons_of_mem _ hin))
  have HLO := Lib.hid (long_any q pe hpk A st.length cp)
  have HST2 : Hid (st.length ≤ 108 * q.a - 12) := Lib.hid (by omega)
  obtain ⟨next, hnext⟩ : ∃ next, base + pe = next := ⟨_, rfl⟩
  have HNX : Hid (IntKind.u64.wrap ((base : Int) + (pe : Int)) = (next : Int)) := Lib.hid (by rw [IntWalk.u64_in _ (by omega)]; omega)
  have HBA := Lib.hid (fun w => based_any q pe next hpk w (by omega) (by omega))
  rw [hnext] at he hjq ⊢
  have HKP := Lib.hid (fun (z : World) (hz : Grew y z) => ds_vkeep (h.grew hz) jr q pe hpk base next false n c s b0 hk hn hl hs v st (List.mem_cons_of_mem _ hin) hst d' r he (by omega) hjq)
  have hc := vcells hv
  have c6 := hc.c6
  have c2 := hc.c2
  have c3 := hc.c3
  have c4 := hc.c4
  subst e0
  clear h hv hnv hpk hk hn hl hs hin hst hb1 hb2 he hjq hnext hc
  go_enter Try.func49, Try.ntmps49
  go_wp2_with fail
  refine HM.out.mono ?_
  rintro e w' ⟨rfl, rfl⟩
  go_wp2_with fail
  refine (HLO.out _ HST2.out).mono ?_
  rintro e w1 ⟨rfl, hg⟩
  have HG1 := Lib.hid hg
  clear hg HLO HST2 c6 c2 c3 c4
  go_upto_region 7 with fail
  refine Facts.wp_region_text (by kernel_rfl) (by kernel_rfl) ?_
  apply Facts.Lex.exact [] _ (by kernel_rfl)
  · intro u W hC _
    unfold Facts.one
    go_simp
    all_goals (first | exact ⟨Grew.refl _, rfl⟩ | rfl)
  simp only [Act.put, List.setIfInBounds_toArray, List.set_cons_zero, List.set_cons_succ, Nat.zero_add]
  apply Facts.Lex.exact [] _ (by kernel_rfl)
  · intro u W hC _
    unfold Facts.one
    go_simp
    all_goals (first | exact ⟨Grew.refl _, rfl⟩ | rfl)
  simp only [Act.put, List.setIfInBounds_toArray, List.set_cons_zero, List.set_cons_succ, Nat.reduceAdd]
  apply Facts.Lex.exact [] _ (by kernel_rfl)
  · intro u W hC _
    unfold Facts.one
    go_simp
    all_goals (first | exact ⟨Grew.refl _, rfl⟩ | rfl)
  simp only [Act.put, List.setIfInBounds_toArray, List.set_cons_zero, List.set_cons_succ, Nat.reduceAdd]
  apply Facts.Lex.exact [] _ (by kernel_rfl)
  · intro u W hC _
    unfold Facts.one
    go_simp
    all_goals (first | exact ⟨Grew.refl _, rfl⟩ | rfl)
  simp only [Act.put, List.setIfInBounds_toArray, List.set_cons_zero, List.set_cons_succ, Nat.reduceAdd]
  apply Facts.Lex.exact [] _ (by kernel_rfl)
  · intro u W hC _
    have hc := vcells (((HG1.out.trans hC).block gv (Array.getElem?_eq_some_iff.1 HV.out).1).trans HV.out)
    have d2 := hc.c2
    have d3 := hc.c3
    have d4 := hc.c4
    have d5 := hc.c5
    unfold Facts.one
    go_simp
    all_goals (first | exact ⟨Grew.refl _, rfl⟩ | rfl)
  simp only [Act.put, List.setIfInBounds_toArray, List.set_cons_zero, List.set_cons_succ, Nat.reduceAdd]
  apply Facts.Lex.exact [] _ (by kernel_rfl)
  · intro u W hC _
    unfold Facts.one
    go_simp
    all_goals (first | exact ⟨Grew.refl _, rfl⟩ | rfl)
  simp only [Act.put, List.setIfInBounds_toArray, List.set_cons_zero, List.set_cons_succ, Nat.reduceAdd]
  apply Facts.Lex.exact [] _ (by kernel_rfl)
  · intro u W hC _
    unfold Facts.one
    go_simp
    all_goals (first | exact ⟨Grew.refl _, rfl⟩ | rfl)
  simp only [Act.put, List.setIfInBounds_toArray, List.set_cons_zero, List.set_cons_succ, Nat.reduceAdd]
  apply Facts.Lex.exact [] _ (by kernel_rfl)
  · intro u W hC _
    unfold Facts.one
    go_simp
    all_goals (first | exact ⟨Grew.refl _, rfl⟩ | rfl)
  simp only [Act.put, List.setIfInBounds_toArray, List.set_cons_zero, List.set_cons_succ, Nat.reduceAdd]
  apply Facts.Lex.exact [] _ (by kernel_rfl)
  · intro u W hC _
    unfold Facts.one
    go_simp
    all_goals (first | exact ⟨Grew.refl _, rfl⟩ | rfl)
  simp only [Act.put, List.setIfInBounds_toArray, List.set_cons_zero, List.set_cons_succ, Nat.reduceAdd]
  apply Facts.Lex.exact [] (PV q) (by kernel_rfl)
  · intro u W hC _
    have hc := vcells (((HG1.out.trans hC).block gv (Array.getElem?_eq_some_iff.1 HV.out).1).trans HV.out)
    have d2 := hc.c2
    have d3 := hc.c3
    have d4 := hc.c4
    have d5 := hc.c5
    unfold PV
    unfold Facts.one
    go_simp
    all_goals (first | exact ⟨Grew.refl _, rfl⟩ | rfl)
  simp only [Act.put, List.setIfInBounds_toArray, List.set_cons_zero, List.set_cons_succ, Nat.reduceAdd]
  apply Facts.Lex.exact [] (.int .u64 (pe : Int)) (by kernel_rfl)
  · intro u W hC _
    unfold Facts.one
    go_simp
    refine (stamps_any q pe HPK.out W).mono ?_
    rintro e w' ⟨rfl, hg⟩
    exact ⟨_, rfl, hg, rfl⟩
  simp only [Act.put, List.setIfInBounds_toArray, List.set_cons_zero, List.set_cons_succ, Nat.reduceAdd]
  apply Facts.Lex.exact [] (.int .u64 (next : Int)) (by kernel_rfl)
  · intro u W hC _
    have d1 := HNX.out
    unfold Facts.one
    go_simp
    all_goals (first | exact ⟨Grew.refl _, rfl⟩ | rfl)
  simp only [Act.put, List.setIfInBounds_toArray, List.set_cons_zero, List.set_cons_succ, Nat.reduceAdd]
  apply Facts.Lex.exact [] _ (by kernel_rfl)
  · intro u W hC _
    unfold Facts.one
    go_simp
    all_goals (first | exact ⟨Grew.refl _, rfl⟩ | rfl)
  simp only [Act.put, List.setIfInBounds_toArray, List.set_cons_zero, List.set_cons_succ, Nat.reduceAdd]
  refine Facts.Lex.done fun u W hC _ => ?_
  have HG2 := Lib.hid (HG1.out.trans hC)
  have hc := vcells ((HG2.out.block gv (Array.getElem?_eq_some_iff.1 HV.out).1).trans HV.out)
  have c2 := hc.c2
  have c3 := hc.c3
  have c4 := hc.c4
  clear hC HG1 hc
  go_wp2_with fail
  refine (HBA.out _).mono ?_
  rintro e w2 ⟨rfl, hg⟩
  have HG3 := Lib.hid (HG2.out.trans hg)
  clear hg HG2 c2 c3 c4
  have hc := vcells ((HG3.out.block gv (Array.getElem?_eq_some_iff.1 HV.out).1).trans HV.out)
  have c0 := hc.c0
  have c1 := hc.c1
  have c2 := hc.c2
  have c3 := hc.c3
  have c4 := hc.c4
  have c5 := hc.c5
  have c6 := hc.c6
  clear hc
  go_wp2_with fail
  refine (HKP.out _ HG3.out).mono ?_
  rintro e w3 hkp
  clear c0 c1 c2 c3 c4 c5 c6
  rcases hkp with ⟨h0, rfl, hd⟩ | ⟨h0, gj, rfl, hd, hgj⟩
  · have hb := h0
    have hrb : (r != 0) = true := by simpa using h0
    have H0 := Lib.hid h0
    have HD3 := Lib.hid hd
    have HDI := Lib.hid (vdie (hd.at_ (x := .nilFunc) (b := gv) (List.mem_cons_self ..)))
    clear hd h0 hb
    go_wp2_with fail
    refine HDI.out.mono ?_
    rintro e w4 ⟨rfl, ho, hk⟩
    have HD4 := Lib.hid (ds_set HD3.out HNV.out hk ho)
    clear ho hk HD3 HDI
    go_wp2
    go_ret
    exact CKD.no H0.out rfl HD4.out
  · subst h0
    have HD3 := Lib.hid hd
    have HGJ := Lib.hid (Nat.le_trans HG3.out.size hgj)
    have hv3 := hd.at_ (x := .nilFunc) (b := gv) (List.mem_cons_of_mem _ (List.mem_cons_self ..))
    have HV3 := Lib.hid hv3
    have hc := vcells hv3
    have c0 := hc.c0
    have c5 := hc.c5
    have f0 := frozen_of_row w3 gv 0 _ _ hv3
    have f5 := frozen_of_row w3 gv 5 _ _ hv3
    clear hd hgj hv3 hc
    go_wp2
    all_goals
      go_ret
      refine CKD.yes gj rfl ?_ HGJ.out
      have hne : gv ≠ gj := fun e => by have := (Array.getElem?_eq_some_iff.1 HV.out).1; have := HGJ.out; omega
      have hst : DS w g d' ((.nilFunc, Cont.blk gv (VO jr g q base false)) :: (.nilFunc, Cont.blk gj (JO g ⟨2 * q.a, q.p, q.e, 0, next⟩)) :: V) w3 := HD3.out.sub fun p hp => by
        simp only [List.mem_cons] at hp ⊢
        rcases hp with hp | hp | hp
        · exact .inr (.inl hp)
        · exact .inl hp
        · exact .inr (.inr hp)
      refine ds_set hst (fun hbl => (bl_cons hbl).elim hne HNV.out) ?_ ?_
      · exact (Kept.set (D := fun k => k = gv) _ _ rfl).trans (Kept.set (D := fun k => k = gv) _ _ rfl)
      · rw [heap_setCell_same _ _ _ _ _ _ (heap_setCell_same _ _ _ _ _ _ HV3.out)]
        rfl
end Go.Proofs.Ytbnicphegbdfnaa.VD
