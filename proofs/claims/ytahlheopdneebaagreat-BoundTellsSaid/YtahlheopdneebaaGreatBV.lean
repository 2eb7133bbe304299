/-
  A vault's plan, and how much room it has.
  Conditions: those that each lemma names.
-/
import Derived.Test.YtahlheopdneebaaGreatFacts
import Derived.Test.YtahlheopdneebaaGreatProg
import Derived.WalkKit
import Derived.WalkMore
import Derived.BigFrame
import Derived.Handy
import Derived.IntWalk
import Derived.Lib.Hide
import Derived.Deep.DeepCutAuto
import Derived.Deep.CutBlock
namespace Go.Proofs.YtahlheopdneebaaGreat.BV
set_option maxRecDepth 100000
set_option maxRecDepth 100000
open Go Go.RowKit Go.Proofs.YtahlheopdneebaaGreat Go.Proofs.YtahlheopdneebaaGreat.Facts

def room (n : Int) : Int := if n < 1 then 0 else if 85401592933840516 < n then 9223372036854775807 else n * 108 - 4
theorem aroom_any (n : Int) (w : World) : Calls Tryz.prog 23 #[.int .i64 n] w fun e w' => e = .returned (.int .i64 (room n)) ∧ w = w' := by
  unfold room
  by_cases h1 : n < 1
  · rw [if_pos h1]
    go_enter Tryz.func23, Tryz.ntmps23
    go_wp2
    go_ret
    exact ⟨rfl, rfl⟩
  · rw [if_neg h1]
    by_cases h2 : 85401592933840516 < n
    · rw [if_pos h2]
      go_enter Tryz.func23, Tryz.ntmps23
      go_wp2
      go_ret
      exact ⟨rfl, rfl⟩
    · rw [if_neg h2]
      have e1 : IntKind.i64.wrap (n * 108) = n * 108 := IntWalk.i64_in _ (by omega)
      have e2 : IntKind.i64.wrap (n * 108 - 4) = n * 108 - 4 := IntWalk.i64_in _ (by omega)
      go_enter Tryz.func23, Tryz.ntmps23
      go_wp2
      go_ret
      exact ⟨rfl, rfl⟩
structure Pl where
  a : Nat
  p : Nat
  e : Nat
def PV (q : Pl) : Value := .agg #[.int .i64 (q.a : Int), .int .i64 (q.p : Int), .int .i64 (q.e : Int)]
/-- A plan that may be; pe: how many sectors its journal has. -/
structure POK (q : Pl) (pe : Nat) : Prop where
  a1 : 1 ≤ q.a
  p1 : 1 ≤ q.p
  p2 : q.p ≤ 16
  e1 : 1 ≤ q.e
  all : 2 * q.a + pe ≤ 16384
  is : q.p * q.e = pe
theorem POK.e2 {q : Pl} {pe : Nat} (h : POK q pe) : q.e ≤ 16384 := by
  have h1 := h.is
  have h2 := h.p1
  have h3 := h.all
  have : 1 * q.e ≤ q.p * q.e := Nat.mul_le_mul_right _ h2
  omega
theorem POK.mul {q : Pl} {pe : Nat} (h : POK q pe) : IntKind.i64.wrap ((q.p : Int) * (q.e : Int)) = (pe : Int) := by
  have e : (q.p : Int) * (q.e : Int) = (pe : Int) := by rw [← h.is]; simp
  rw [e]
  exact IntWalk.i64_in _ (by have := h.all; omega)
theorem from_any (q : Pl) (pe : Nat) (hq : POK q pe) (w : World) : Calls Tryz.prog 29 #[PV q] w fun e w' => e = .returned (.int .i64 ((2 * q.a : Nat) : Int)) ∧ Grew w w' := by
  have hw : IntKind.i64.wrap (2 * (q.a : Int)) = ((2 * q.a : Nat) : Int) := by rw [IntWalk.i64_in _ (by have := hq.all; omega)]; simp
  clear hq
  unfold PV
  go_enter Tryz.func29, Tryz.ntmps29
  go_wp2
  go_ret
  exact ⟨rfl, by unfold Grew; go_grown⟩
/-- A box of a plan. -/
def BX (w : World) (b : Nat) (q : Pl) : Prop := w.heap[b]? = some (.cells #[.int .i64 (q.a : Int), .int .i64 (q.p : Int), .int .i64 (q.e : Int)] 30)
theorem BX.grew {w w' : World} {b : Nat} {q : Pl} (h : BX w b q) (hg : Grew w w') : BX w' b q := (hg.block b (Array.getElem?_eq_some_iff.1 h).1).trans h
theorem BX.cells {w : World} {b : Nat} {q : Pl} (h : BX w b q) : w.cell? ⟨b, 0, none⟩ = some (.int .i64 (q.a : Int)) ∧ w.cell? ⟨b, 1, none⟩ = some (.int .i64 (q.p : Int)) ∧ w.cell? ⟨b, 2, none⟩ = some (.int .i64 (q.e : Int)) := by
  refine ⟨?_, ?_, ?_⟩ <;> (unfold World.cell?; simp only [show w.heap[b]? = _ from h]; rfl)
set_option maxHeartbeats 2000000 in
theorem need_any (q : Pl) (pe : Nat) (hq : POK q pe) (w : World) : Calls Tryz.prog 21 #[PV q] w fun e w' => e = .returned (.int .i64 ((2 * q.a + pe : Nat) : Int)) ∧ Grew w w' := by
  have HQ := Lib.hid hq
  have h1 : ¬ (q.a : Int) < 1 := by have := hq.a1; omega
  have h2 : ¬ (16384 : Int) < (q.a : Int) := by have := hq.all; omega
  have h3 : ¬ (q.e : Int) < 1 := by have := hq.e1; omega
  have h4 : ¬ (16384 : Int) < (q.e : Int) := by have := hq.e2; omega
  have h5 : ¬ (q.p : Int) < 1 := by have := hq.p1; omega
  have h6 : ¬ (16 : Int) < (q.p : Int) := by have := hq.p2; omega
  have HS : Hid (IntKind.i64.wrap (((2 * q.a : Nat) : Int) + (pe : Int)) = ((2 * q.a + pe : Nat) : Int)) := Lib.hid (by rw [IntWalk.i64_in _ (by have := hq.all; omega)]; simp)
  have HM := Lib.hid hq.mul
  have HL : Hid (¬ (16384 : Int) < ((2 * q.a + pe : Nat) : Int)) := Lib.hid (by have := hq.all; omega)
  obtain ⟨nn, hnn⟩ : ∃ nn : Int, nn = ((2 * q.a + pe : Nat) : Int) := ⟨_, rfl⟩
  rw [← hnn] at HS HL ⊢
  obtain ⟨tt, htt⟩ : ∃ tt : Int, tt = ((2 * q.a : Nat) : Int) := ⟨_, rfl⟩
  rw [← htt] at HS
  have HF : Hid (∀ w, Calls Tryz.prog 29 #[PV q] w fun e w' => e = .returned (.int .i64 tt) ∧ Grew w w') := Lib.hid (by rw [htt]; exact from_any q pe hq)
  clear hq hnn htt
  unfold PV
  unfold PV at HF
  go_enter Tryz.func21, Tryz.ntmps21
  have hb : BX (w.alloc (Obj.cells #[.int .i64 (q.a : Int), .int .i64 (q.p : Int), .int .i64 (q.e : Int)] 30)) w.heap.size q := heap_alloc_new w _
  have hg0 : Grew w (w.alloc (Obj.cells #[.int .i64 (q.a : Int), .int .i64 (q.p : Int), .int .i64 (q.e : Int)] 30)) := (Below.refl _ w).alloc (Nat.le_refl _) _
  go_upto_region 5 with fail
  generalize w.alloc (Obj.cells #[.int .i64 (q.a : Int), .int .i64 (q.p : Int), .int .i64 (q.e : Int)] 30) = W1 at *
  have HB := Lib.hid hb
  have HG0 := Lib.hid hg0
  clear hb hg0
  have he : (Value.pointer (some ⟨w.heap.size, 0, none⟩)) = .pointer (some ⟨w.heap.size, 0, none⟩) := rfl
  clear he
  generalize w.heap.size = BB at *
  refine Facts.wp_region_text (by kernel_rfl) (by kernel_rfl) ?_
  apply Facts.Lex.exact [] (.agg #[.int .i64 (q.a : Int), .int .i64 (q.p : Int), .int .i64 (q.e : Int)]) (by kernel_rfl)
  · intro u W hC _
    have hbx := (HB.out.grew hC).cells
    have d0 := hbx.1
    have d1 := hbx.2.1
    have d2 := hbx.2.2
    unfold Facts.one
    go_simp
    all_goals (first | exact ⟨Grew.refl _, rfl⟩ | rfl)
  simp only [Act.put, List.setIfInBounds_toArray, List.set_cons_zero, List.set_cons_succ, Nat.zero_add]
  apply Facts.Lex.exact [] (.int .i64 tt) (by kernel_rfl)
  · intro u W hC _
    unfold Facts.one
    go_simp
    refine (HF.out _).mono ?_
    rintro e w' ⟨rfl, hg⟩
    exact ⟨_, rfl, hg, rfl⟩
  simp only [Act.put, List.setIfInBounds_toArray, List.set_cons_zero, List.set_cons_succ, Nat.reduceAdd]
  apply Facts.Lex.exact [] _ (by kernel_rfl)
  · intro u W hC _
    unfold Facts.one
    go_simp
    all_goals (first | exact ⟨Grew.refl _, rfl⟩ | rfl)
  simp only [Act.put, List.setIfInBounds_toArray, List.set_cons_zero, List.set_cons_succ, Nat.reduceAdd]
  apply Facts.Lex.exact [] _ (by kernel_rfl)
  · intro u W hC _
    have hbx := (HB.out.grew hC).cells
    have d1 := hbx.2.1
    have d2 := hbx.2.2
    unfold Facts.one
    go_simp
    all_goals (first | exact ⟨Grew.refl _, rfl⟩ | rfl)
  simp only [Act.put, List.setIfInBounds_toArray, List.set_cons_zero, List.set_cons_succ, Nat.reduceAdd]
  apply Facts.Lex.exact [] _ (by kernel_rfl)
  · intro u W hC _
    unfold Facts.one
    go_simp
    all_goals (first | exact ⟨Grew.refl _, rfl⟩ | rfl)
  simp only [Act.put, List.setIfInBounds_toArray, List.set_cons_zero, List.set_cons_succ, Nat.reduceAdd]
  apply Facts.Lex.exact [] _ (by kernel_rfl)
  · intro u W hC _
    have hbx := (HB.out.grew hC).cells
    have d1 := hbx.2.1
    have d2 := hbx.2.2
    unfold Facts.one
    go_simp
    all_goals (first | exact ⟨Grew.refl _, rfl⟩ | rfl)
  simp only [Act.put, List.setIfInBounds_toArray, List.set_cons_zero, List.set_cons_succ, Nat.reduceAdd]
  apply Facts.Lex.exact [] (.int .i64 (pe : Int)) (by kernel_rfl)
  · intro u W hC _
    have d1 := HM.out
    unfold Facts.one
    go_simp
    all_goals (first | exact ⟨Grew.refl _, rfl⟩ | rfl)
  simp only [Act.put, List.setIfInBounds_toArray, List.set_cons_zero, List.set_cons_succ, Nat.reduceAdd]
  apply Facts.Lex.exact [] (.int .i64 nn) (by kernel_rfl)
  · intro u W hC _
    have d1 := HS.out
    unfold Facts.one
    go_simp
    all_goals (first | exact ⟨Grew.refl _, rfl⟩ | rfl)
  simp only [Act.put, List.setIfInBounds_toArray, List.set_cons_zero, List.set_cons_succ, Nat.reduceAdd]
  apply Facts.Lex.exact [] (.bool false) (by kernel_rfl)
  · intro u W hC _
    have d1 := HL.out
    unfold Facts.one
    go_simp
    all_goals (first | exact ⟨Grew.refl _, rfl⟩ | rfl)
  simp only [Act.put, List.setIfInBounds_toArray, List.set_cons_zero, List.set_cons_succ, Nat.reduceAdd]
  apply Facts.Lex.exact [] _ (by kernel_rfl)
  · intro u W hC _
    unfold Facts.one
    go_simp
    all_goals (first | exact ⟨Grew.refl _, rfl⟩ | rfl)
  simp only [Act.put, List.setIfInBounds_toArray, List.set_cons_zero, List.set_cons_succ, Nat.reduceAdd]
  refine Facts.Lex.done fun u W hC _ => ?_
  replace HG0 := Lib.hid (HG0.out.trans hC)
  replace HB := Lib.hid (HB.out.grew hC)
  have hlim := HL.out
  clear hC
  go_upto_region 7 with fail
  clear hlim
  refine Facts.wp_region_text (by kernel_rfl) (by kernel_rfl) ?_
  apply Facts.Lex.exact [] (.agg #[.int .i64 (q.a : Int), .int .i64 (q.p : Int), .int .i64 (q.e : Int)]) (by kernel_rfl)
  · intro u W hC _
    have hbx := (HB.out.grew hC).cells
    have d0 := hbx.1
    have d1 := hbx.2.1
    have d2 := hbx.2.2
    unfold Facts.one
    go_simp
    all_goals (first | exact ⟨Grew.refl _, rfl⟩ | rfl)
  simp only [Act.put, List.setIfInBounds_toArray, List.set_cons_zero, List.set_cons_succ, Nat.zero_add]
  apply Facts.Lex.exact [] (.int .i64 tt) (by kernel_rfl)
  · intro u W hC _
    unfold Facts.one
    go_simp
    refine (HF.out _).mono ?_
    rintro e w' ⟨rfl, hg⟩
    exact ⟨_, rfl, hg, rfl⟩
  simp only [Act.put, List.setIfInBounds_toArray, List.set_cons_zero, List.set_cons_succ, Nat.reduceAdd]
  apply Facts.Lex.exact [] _ (by kernel_rfl)
  · intro u W hC _
    unfold Facts.one
    go_simp
    all_goals (first | exact ⟨Grew.refl _, rfl⟩ | rfl)
  simp only [Act.put, List.setIfInBounds_toArray, List.set_cons_zero, List.set_cons_succ, Nat.reduceAdd]
  apply Facts.Lex.exact [] _ (by kernel_rfl)
  · intro u W hC _
    have hbx := (HB.out.grew hC).cells
    have d1 := hbx.2.1
    have d2 := hbx.2.2
    unfold Facts.one
    go_simp
    all_goals (first | exact ⟨Grew.refl _, rfl⟩ | rfl)
  simp only [Act.put, List.setIfInBounds_toArray, List.set_cons_zero, List.set_cons_succ, Nat.reduceAdd]
  apply Facts.Lex.exact [] _ (by kernel_rfl)
  · intro u W hC _
    unfold Facts.one
    go_simp
    all_goals (first | exact ⟨Grew.refl _, rfl⟩ | rfl)
  simp only [Act.put, List.setIfInBounds_toArray, List.set_cons_zero, List.set_cons_succ, Nat.reduceAdd]
  apply Facts.Lex.exact [] _ (by kernel_rfl)
  · intro u W hC _
    have hbx := (HB.out.grew hC).cells
    have d1 := hbx.2.1
    have d2 := hbx.2.2
    unfold Facts.one
    go_simp
    all_goals (first | exact ⟨Grew.refl _, rfl⟩ | rfl)
  simp only [Act.put, List.setIfInBounds_toArray, List.set_cons_zero, List.set_cons_succ, Nat.reduceAdd]
  apply Facts.Lex.exact [] (.int .i64 (pe : Int)) (by kernel_rfl)
  · intro u W hC _
    have d1 := HM.out
    unfold Facts.one
    go_simp
    all_goals (first | exact ⟨Grew.refl _, rfl⟩ | rfl)
  simp only [Act.put, List.setIfInBounds_toArray, List.set_cons_zero, List.set_cons_succ, Nat.reduceAdd]
  apply Facts.Lex.exact [] (.int .i64 nn) (by kernel_rfl)
  · intro u W hC _
    have d1 := HS.out
    unfold Facts.one
    go_simp
    all_goals (first | exact ⟨Grew.refl _, rfl⟩ | rfl)
  simp only [Act.put, List.setIfInBounds_toArray, List.set_cons_zero, List.set_cons_succ, Nat.reduceAdd]
  apply Facts.Lex.exact [] _ (by kernel_rfl)
  · intro u W hC _
    unfold Facts.one
    go_simp
    all_goals (first | exact ⟨Grew.refl _, rfl⟩ | rfl)
  simp only [Act.put, List.setIfInBounds_toArray, List.set_cons_zero, List.set_cons_succ, Nat.reduceAdd]
  refine Facts.Lex.done fun u W hC _ => ?_
  have HGE := Lib.hid (HG0.out.trans hC)
  clear hC
  go_wp2
  go_ret
  exact ⟨rfl, HGE.out⟩
set_option maxHeartbeats 2000000 in
theorem room_any (q : Pl) (pe : Nat) (hq : POK q pe) (w : World) : Calls Tryz.prog 15 #[PV q] w fun e w' => e = .returned (.tuple #[.int .i64 ((108 * q.a - 12 : Nat) : Int), .int .i64 ((108 * q.e - 4 : Nat) : Int)]) ∧ Grew w w' := by
  have HN := Lib.hid (need_any q pe hq)
  obtain ⟨nn, hnn⟩ : ∃ nn : Int, nn = ((2 * q.a + pe : Nat) : Int) := ⟨_, rfl⟩
  rw [← hnn] at HN
  have hn0 : ¬ nn = 0 := by have := hq.a1; omega
  obtain ⟨ra, hra⟩ : ∃ ra : Int, ra = room (q.a : Int) := ⟨_, rfl⟩
  obtain ⟨re, hre⟩ : ∃ re : Int, re = room (q.e : Int) := ⟨_, rfl⟩
  have hra2 : ra = (q.a : Int) * 108 - 4 := by rw [hra]; unfold room; rw [if_neg (by have := hq.a1; omega), if_neg (by have := hq.all; omega)]
  have hre2 : re = ((108 * q.e - 4 : Nat) : Int) := by rw [hre]; unfold room; rw [if_neg (by have := hq.e1; omega), if_neg (by have := hq.e2; omega)]; have := hq.e1; omega
  have HRA : Hid (∀ w, Calls Tryz.prog 23 #[.int .i64 (q.a : Int)] w fun e w' => e = .returned (.int .i64 ra) ∧ w = w') := Lib.hid (by rw [hra]; exact fun w => aroom_any _ w)
  have HRE : Hid (∀ w, Calls Tryz.prog 23 #[.int .i64 (q.e : Int)] w fun e w' => e = .returned (.int .i64 re) ∧ w = w') := Lib.hid (by rw [hre]; exact fun w => aroom_any _ w)
  rw [← hre2]
  obtain ⟨mm, hmm⟩ : ∃ mm : Int, mm = ((108 * q.a - 12 : Nat) : Int) := ⟨_, rfl⟩
  rw [← hmm]
  have HW : Hid (IntKind.i64.wrap (ra - 8) = mm) := Lib.hid (by rw [IntWalk.i64_in _ (by have := hq.all; have := hq.a1; omega)]; have := hq.a1; omega)
  have HM0 : Hid (¬ mm < 0) := Lib.hid (by omega)
  clear hq hnn hra hre hra2 hre2 hmm
  unfold PV
  unfold PV at HN
  go_enter Tryz.func15, Tryz.ntmps15
  have hb : BX (w.alloc (Obj.cells #[.int .i64 (q.a : Int), .int .i64 (q.p : Int), .int .i64 (q.e : Int)] 30)) w.heap.size q := heap_alloc_new w _
  have hg0 : Grew w (w.alloc (Obj.cells #[.int .i64 (q.a : Int), .int .i64 (q.p : Int), .int .i64 (q.e : Int)] 30)) := (Below.refl _ w).alloc (Nat.le_refl _) _
  go_wp2_with fail
  generalize (w.alloc (Obj.cells #[.int .i64 (q.a : Int), .int .i64 (q.p : Int), .int .i64 (q.e : Int)] 30)) = W1 at *
  have HB := Lib.hid hb
  have HG0 := Lib.hid hg0
  clear hb hg0
  generalize w.heap.size = BB at *
  refine (HN.out _).mono ?_
  rintro e w2 ⟨rfl, hg⟩
  replace HG0 := Lib.hid (HG0.out.trans hg)
  replace HB := Lib.hid (HB.out.grew hg)
  clear hg
  go_upto_region 3 with fail
  refine Facts.wp_region_text (by kernel_rfl) (by kernel_rfl) ?_
  apply Facts.Lex.exact [] _ (by kernel_rfl)
  · intro u W hC _
    unfold Facts.one
    go_simp
    all_goals (first | exact ⟨Grew.refl _, rfl⟩ | rfl)
  simp only [Act.put, List.setIfInBounds_toArray, List.set_cons_zero, List.set_cons_succ, Nat.zero_add]
  apply Facts.Lex.exact [] _ (by kernel_rfl)
  · intro u W hC _
    have hbx := (HB.out.grew hC).cells
    have d0 := hbx.1
    have d1 := hbx.2.1
    have d2 := hbx.2.2
    unfold Facts.one
    go_simp
    all_goals (first | exact ⟨Grew.refl _, rfl⟩ | rfl)
  simp only [Act.put, List.setIfInBounds_toArray, List.set_cons_zero, List.set_cons_succ, Nat.reduceAdd]
  apply Facts.Lex.exact [] (.int .i64 ra) (by kernel_rfl)
  · intro u W hC _
    unfold Facts.one
    go_simp
    refine (HRA.out _).mono ?_
    rintro e w' ⟨rfl, rfl⟩
    exact ⟨_, rfl, Grew.refl _, rfl⟩
  simp only [Act.put, List.setIfInBounds_toArray, List.set_cons_zero, List.set_cons_succ, Nat.reduceAdd]
  apply Facts.Lex.exact [] (.int .i64 mm) (by kernel_rfl)
  · intro u W hC _
    have d1 := HW.out
    unfold Facts.one
    go_simp
    all_goals (first | exact ⟨Grew.refl _, rfl⟩ | rfl)
  simp only [Act.put, List.setIfInBounds_toArray, List.set_cons_zero, List.set_cons_succ, Nat.reduceAdd]
  apply Facts.Lex.exact [] (.int .i64 mm) (by kernel_rfl)
  · intro u W hC _
    have d1 : ¬ mm < 0 := by have := HM0.out; omega
    have d2 : max mm 0 = mm := by omega
    unfold Facts.one
    go_simp
    all_goals (first | exact ⟨Grew.refl _, rfl⟩ | rfl)
  simp only [Act.put, List.setIfInBounds_toArray, List.set_cons_zero, List.set_cons_succ, Nat.reduceAdd]
  apply Facts.Lex.exact [] _ (by kernel_rfl)
  · intro u W hC _
    unfold Facts.one
    go_simp
    all_goals (first | exact ⟨Grew.refl _, rfl⟩ | rfl)
  simp only [Act.put, List.setIfInBounds_toArray, List.set_cons_zero, List.set_cons_succ, Nat.reduceAdd]
  apply Facts.Lex.exact [] _ (by kernel_rfl)
  · intro u W hC _
    have hbx := (HB.out.grew hC).cells
    have d0 := hbx.1
    have d1 := hbx.2.1
    have d2 := hbx.2.2
    unfold Facts.one
    go_simp
    all_goals (first | exact ⟨Grew.refl _, rfl⟩ | rfl)
  simp only [Act.put, List.setIfInBounds_toArray, List.set_cons_zero, List.set_cons_succ, Nat.reduceAdd]
  apply Facts.Lex.exact [] (.int .i64 re) (by kernel_rfl)
  · intro u W hC _
    unfold Facts.one
    go_simp
    refine (HRE.out _).mono ?_
    rintro e w' ⟨rfl, rfl⟩
    exact ⟨_, rfl, Grew.refl _, rfl⟩
  simp only [Act.put, List.setIfInBounds_toArray, List.set_cons_zero, List.set_cons_succ, Nat.reduceAdd]
  apply Facts.Lex.exact [] _ (by kernel_rfl)
  · intro u W hC _
    unfold Facts.one
    go_simp
    all_goals (first | exact ⟨Grew.refl _, rfl⟩ | rfl)
  simp only [Act.put, List.setIfInBounds_toArray, List.set_cons_zero, List.set_cons_succ, Nat.reduceAdd]
  apply Facts.Lex.exact [] _ (by kernel_rfl)
  · intro u W hC _
    unfold Facts.one
    go_simp
    all_goals (first | exact ⟨Grew.refl _, rfl⟩ | rfl)
  simp only [Act.put, List.setIfInBounds_toArray, List.set_cons_zero, List.set_cons_succ, Nat.reduceAdd]
  refine Facts.Lex.done fun u W hC _ => ?_
  have HGE := Lib.hid (HG0.out.trans hC)
  clear hC
  go_wp2
  go_returns
  exact ⟨rfl, HGE.out⟩
end Go.Proofs.YtahlheopdneebaaGreat.BV
