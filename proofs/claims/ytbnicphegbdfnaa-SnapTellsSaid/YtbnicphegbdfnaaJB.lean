/-
  A journal that New made: made, Left, Next.
  Conditions: those that each lemma names.
-/
import Derived.Test.YtbnicphegbdfnaaJA
namespace Go.Proofs.Ytbnicphegbdfnaa.JB
set_option maxRecDepth 100000
set_option maxRecDepth 100000
open Go Go.RowKit Go.Proofs.Ytbnicphegbdfnaa Go.Proofs.Ytbnicphegbdfnaa.Facts Go.Proofs.Ytbnicphegbdfnaa.Bytes Go.Proofs.Ytbnicphegbdfnaa.DKeep Go.Proofs.Ytbnicphegbdfnaa.DSmall Go.Proofs.Ytbnicphegbdfnaa.JA

structure Jr where
  first : Nat
  places : Nat
  each : Nat
  used : Nat
  base : Nat
/-- A journal lies in block gj, on the disk at g. -/
def JL (w : World) (gj g : Nat) (j : Jr) : Prop := w.heap[gj]? = some (.cells #[.pointer (some ⟨g, 0, none⟩), .int .i64 (j.first : Int), .int .i64 (j.places : Int), .int .i64 (j.each : Int), .int .i64 (j.used : Int), .int .u64 (j.base : Int)] 120 (0, 0))
structure JK (j : Jr) : Prop where
  p1 : 1 ≤ j.places
  p2 : j.places ≤ 16
  e1 : 1 ≤ j.each
  e2 : j.each ≤ 16384
  f2 : j.first ≤ 16384
  u : j.used ≤ j.places
  b : j.base + j.places * j.each ≤ 4611686018427387904
theorem JL.grew {w w' : World} {gj g : Nat} {j : Jr} (h : JL w gj g j) (hg : Grew w w') : JL w' gj g j := (hg.block gj (Array.getElem?_eq_some_iff.1 h).1).trans h
theorem JL.cells {w : World} {gj g : Nat} {j : Jr} (h : JL w gj g j) : w.cell? ⟨gj, 0, none⟩ = some (.pointer (some ⟨g, 0, none⟩)) ∧ w.cell? ⟨gj, 1, none⟩ = some (.int .i64 (j.first : Int)) ∧ w.cell? ⟨gj, 2, none⟩ = some (.int .i64 (j.places : Int)) ∧ w.cell? ⟨gj, 3, none⟩ = some (.int .i64 (j.each : Int)) ∧ w.cell? ⟨gj, 4, none⟩ = some (.int .i64 (j.used : Int)) ∧ w.cell? ⟨gj, 5, none⟩ = some (.int .u64 (j.base : Int)) := by
  refine ⟨?_, ?_, ?_, ?_, ?_, ?_⟩ <;> (rw [cell_of_row _ _ _ _ _ _ h]; rfl)
theorem jnew_bad (w : World) (g : Nat) (D : Nat → Prop) (d : Pd) (first places each : Int) (base : Nat) (q : Int) (h : DK w g D d) (hb : base < 18446744073709551616) (hf1 : -9223372036854775808 ≤ first) (hf2 : first ≤ 9223372036854775807) (hq : jrefus d first places each base = q) (h0 : ¬ q = 0) :
    Calls Try.prog 23 #[.pointer (some ⟨g, 0, none⟩), .int .i64 first, .int .i64 places, .int .i64 each, .int .u64 (base : Int)] w fun e w' => e = .returned (.tuple #[.pointer none, .int .i64 q]) ∧ w = w' := by
  have hr := jrefuses_any w g D d first places each base h hb hf1 hf2
  rw [hq] at hr
  have HR := Lib.hid hr
  clear hr hq h
  go_enter Try.func23, Try.ntmps23
  go_wp2_with fail
  refine HR.out.mono ?_
  rintro e w' ⟨rfl, rfl⟩
  go_wp2
  go_returns
  exact ⟨rfl, rfl⟩
theorem jnew_any (w : World) (g : Nat) (D : Nat → Prop) (d : Pd) (first places each base : Nat) (h : DK w g D d) (hb : base < 18446744073709551616) (hf : first ≤ 16384) (hq : jrefus d first places each base = 0) :
    Calls Try.prog 23 #[.pointer (some ⟨g, 0, none⟩), .int .i64 (first : Int), .int .i64 (places : Int), .int .i64 (each : Int), .int .u64 (base : Int)] w fun e w' => ∃ gj, e = .returned (.tuple #[.pointer (some ⟨gj, 0, none⟩), .int .i64 0]) ∧ JL w' gj g ⟨first, places, each, 0, base⟩ ∧ w.heap.size ≤ gj ∧ Grew w w' := by
  have hr := jrefuses_any w g D d first places each base h hb (by omega) (by omega)
  rw [hq] at hr
  have HR := Lib.hid hr
  clear hr hq h
  go_enter Try.func23, Try.ntmps23
  go_wp2_with fail
  refine HR.out.mono ?_
  rintro e w' ⟨rfl, rfl⟩
  go_wp2
  go_returns
  exact ⟨w.heap.size, rfl, heap_alloc_new w _, Nat.le_refl _, (Below.refl _ _).alloc (Nat.le_refl _) _⟩
theorem jmade_any (w : World) (gj g : Nat) (j : Jr) (h : JL w gj g j) : Calls Try.prog 67 #[.pointer (some ⟨gj, 0, none⟩)] w fun e w' => e = .returned (.bool true) ∧ w = w' := by
  obtain ⟨c0, _⟩ := h.cells
  clear h
  go_enter Try.func67, Try.ntmps67
  go_wp2
  go_ret
  exact ⟨rfl, rfl⟩
theorem jmade_none (w : World) : Calls Try.prog 67 #[.pointer none] w fun e w' => e = .returned (.bool false) ∧ w = w' := by
  go_enter Try.func67, Try.ntmps67
  go_wp2
  go_ret
  exact ⟨rfl, rfl⟩
theorem jleft_any (w : World) (gj g : Nat) (j : Jr) (h : JL w gj g j) (hk : JK j) : Calls Try.prog 34 #[.pointer (some ⟨gj, 0, none⟩)] w fun e w' => e = .returned (.int .i64 ((j.places : Int) - (j.used : Int))) ∧ Grew w w' := by
  have HM := Lib.hid (jmade_any w gj g j h)
  obtain ⟨_, _, c2, _, c4, _⟩ := h.cells
  have hw : IntKind.i64.wrap ((j.places : Int) - (j.used : Int)) = (j.places : Int) - (j.used : Int) := IntWalk.i64_in _ (by have := hk.u; have := hk.p2; omega)
  clear h hk
  go_enter Try.func34, Try.ntmps34
  go_wp2_with fail
  refine HM.out.mono ?_
  rintro e w' ⟨rfl, rfl⟩
  go_wp2
  go_region
  all_goals
    go_wp2
    go_ret
    exact ⟨rfl, by unfold Grew; go_grown⟩
theorem jleft_none (w : World) : Calls Try.prog 34 #[.pointer none] w fun e w' => e = .returned (.int .i64 0) ∧ w = w' := by
  go_enter Try.func34, Try.ntmps34
  go_wp2_with fail
  refine (jmade_none w).mono ?_
  rintro e w' ⟨rfl, rfl⟩
  go_wp2
  go_ret
  exact ⟨rfl, rfl⟩
theorem jnext_any (w : World) (gj g : Nat) (j : Jr) (h : JL w gj g j) (hk : JK j) : Calls Try.prog 35 #[.pointer (some ⟨gj, 0, none⟩)] w fun e w' => e = .returned (.int .u64 ((j.base + j.places * j.each : Nat) : Int)) ∧ Grew w w' := by
  have HM := Lib.hid (jmade_any w gj g j h)
  obtain ⟨_, _, c2, c3, _, c5⟩ := h.cells
  have hb := hk.b
  obtain ⟨pe, hpe⟩ : ∃ pe, j.places * j.each = pe := ⟨_, rfl⟩
  have hc : (j.places : Int) * (j.each : Int) = (pe : Int) := by rw [← hpe]; simp
  rw [hpe] at hb ⊢
  have w1 : IntKind.i64.wrap ((j.places : Int) * (j.each : Int)) = (pe : Int) := by rw [hc]; exact IntWalk.i64_in _ (by omega)
  have w2 : IntKind.u64.wrap (pe : Int) = (pe : Int) := by rw [IntKind.wrap_u64]; omega
  have w3 : IntKind.u64.wrap ((j.base : Int) + (pe : Int)) = (j.base : Int) + (pe : Int) := by rw [IntKind.wrap_u64]; omega
  have HC : Hid (((j.base + pe : Nat) : Int) = (j.base : Int) + (pe : Int)) := Lib.hid (by omega)
  clear h hk hb hpe hc
  go_enter Try.func35, Try.ntmps35
  go_wp2_with fail
  refine HM.out.mono ?_
  rintro e w' ⟨rfl, rfl⟩
  go_wp2
  go_region
  all_goals
    go_wp2
    go_ret
    exact ⟨by rw [HC.out]; rfl, by unfold Grew; go_grown⟩
end Go.Proofs.Ytbnicphegbdfnaa.JB
