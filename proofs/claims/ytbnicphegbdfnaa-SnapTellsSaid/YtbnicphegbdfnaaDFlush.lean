/-
  A disk is flushed; it crashes.
  Conditions: those that each lemma names.
-/
import Derived.Test.YtbnicphegbdfnaaDSettle
namespace Go.Proofs.Ytbnicphegbdfnaa.DFlush
set_option maxRecDepth 100000
set_option maxRecDepth 100000
set_option maxRecDepth 100000
open Go Go.RowKit Go.Proofs.Ytbnicphegbdfnaa Go.Proofs.Ytbnicphegbdfnaa.Facts Go.Proofs.Ytbnicphegbdfnaa.Bytes Go.Proofs.Ytbnicphegbdfnaa.DKeep Go.Proofs.Ytbnicphegbdfnaa.DSmall Go.Proofs.Ytbnicphegbdfnaa.DTurn Go.Proofs.Ytbnicphegbdfnaa.DArm Go.Proofs.Ytbnicphegbdfnaa.DRead Go.Proofs.Ytbnicphegbdfnaa.DNew Go.Proofs.Ytbnicphegbdfnaa.DBuild Go.Proofs.Ytbnicphegbdfnaa.DWrite Go.Proofs.Ytbnicphegbdfnaa.DOver Go.Proofs.Ytbnicphegbdfnaa.DSettle

theorem all16 (w : World) (i : Nat) : Calls Try.prog 63 #[.int .i64 (i : Nat)] w fun e w' => e = .returned (.int .i64 ((16 : Nat) : Int)) ∧ Grew w w' := by
  go_enter Try.func63, Try.ntmps63
  go_wp2
  go_ret
  exact ⟨rfl, Grew.refl _⟩

/-- All that waits is settled, k words of each. -/
def ended (ks : Nat → Nat) (d : Pd) : Pd := { d with safe := settled ks d.safe d.waits d.waits.length, last := relast (settled ks d.safe d.waits d.waits.length) d.last d.waits d.waits.length, waits := [] }
def flushed (d : Pd) : Pd × Int := if d.off then (d, 15) else if (blown d).2 = 0 then (ended (fun _ => 16) (blown d).1, 0) else blown d
theorem blown_waits (d : Pd) : (blown d).1.waits = d.waits := by
  unfold blown
  split
  · rfl
  · split <;> rfl
theorem flush_any (w : World) (g : Nat) (D : Nat → Prop) (d : Pd) (h : DK w g D d) (hw : d.waits.length ≤ 1073741824) :
    Calls Try.prog 20 #[dptr g] w fun e w' => e = .returned (.int .i64 (flushed d).2) ∧ DK w' g D (flushed d).1 ∧ Kept D w w' := by
  have HD := Lib.hid h
  have HM := Lib.hid (made_any w g D d h)
  have HW := Lib.hid hw
  have HB := Lib.hid (burn_any w g D d h)
  obtain ⟨_, a, b, ca, cb, vw, h0, _⟩ := h
  obtain ⟨_, _, _, _, c4⟩ := h0.cells
  clear h0 hw
  unfold flushed
  unfold dptr at *
  cases hoff : d.off with
  | true =>
    rw [hoff] at c4
    clear hoff HB
    rw [if_pos rfl]
    go_enter Try.func20, Try.ntmps20
    go_wp2_with fail
    refine HM.out.mono ?_
    rintro e w' ⟨rfl, rfl⟩
    go_wp2
    go_ret
    exact ⟨rfl, HD.out, Kept.refl _ _⟩
  | false =>
    rw [hoff] at c4
    clear hoff
    rw [if_neg (by simp)]
    obtain ⟨⟨d1, q⟩, hb⟩ : ∃ x, blown d = x := ⟨_, rfl⟩
    have hbw := blown_waits d
    rw [hb] at HB hbw ⊢
    have HBW := Lib.hid hbw
    clear hb hbw
    by_cases hq : q = 0
    · subst hq
      rw [if_pos rfl]
      go_enter Try.func20, Try.ntmps20
      go_wp2_with fail
      refine HM.out.mono ?_
      rintro e w' ⟨rfl, rfl⟩
      go_wp2_with fail
      refine HB.out.mono ?_
      rintro e w1 ⟨rfl, hd1, hk1⟩
      have HK1 := Lib.hid hk1
      have HS := Lib.hid (settle33_any w1 g D d1 (fun _ => 16) hd1 (fun _ => Nat.le_refl _) (by have := HBW.out; have := HW.out; show d1.waits.length ≤ _; rw [show d1.waits = d.waits from HBW.out]; exact HW.out) (Lib.hid fun W i _ => all16 W i))
      unfold dptr at HS
      clear hd1 hk1
      go_wp2_with fail
      refine HS.out.mono ?_
      rintro e w2 ⟨rfl, hd2, hk2⟩
      go_wp2
      go_ret
      exact ⟨rfl, hd2, HK1.out.trans hk2⟩
    · rw [if_neg hq]
      go_enter Try.func20, Try.ntmps20
      go_wp2_with fail
      refine HM.out.mono ?_
      rintro e w' ⟨rfl, rfl⟩
      go_wp2_with fail
      refine HB.out.mono ?_
      rintro e w1 ⟨rfl, hd1, hk1⟩
      go_wp2
      go_ret
      exact ⟨rfl, hd1, hk1⟩
theorem flush_none (w : World) : Calls Try.prog 20 #[.pointer none] w fun e w' => e = .returned (.int .i64 11) ∧ w = w' := by
  go_enter Try.func20, Try.ntmps20
  go_wp2_with fail
  refine (made_none w).mono ?_
  rintro e w' ⟨rfl, rfl⟩
  go_wp2
  go_ret
  exact ⟨rfl, rfl⟩

/-- How many words stay. -/
def kept (l : List UInt8) (i : Nat) : Nat := if i < l.length then min ((l[i]?.getD 0).toNat) 16 else 0
theorem kept_le (l : List UInt8) (i : Nat) : kept l i ≤ 16 := by unfold kept; split <;> omega
theorem choice_any (S : Nat → Prop) (A : Option Addr) (c q : Nat) (l : List UInt8) (W : World) (i : Nat) (hq : W.cell? ⟨q, 0, none⟩ = some (.slice A l.length c)) (hr : Rd S W (.slice A l.length c) l) :
    Calls Try.prog 64 #[.int .i64 (i : Nat), .pointer (some ⟨q, 0, none⟩)] W fun e w' => e = .returned (.int .i64 (kept l i : Int)) ∧ Grew W w' := by
  unfold kept
  by_cases hi : i < l.length
  · obtain ⟨ad, c', e, hc1, hc2⟩ := hr.cell hi
    injection e with e1 _ e3
    subst e1 e3
    have hcm : c ≤ 9223372036854775807 := by
      obtain ⟨_, _, e0, _, hcm, _⟩ := hr
      injection e0 with _ _ e03
      unfold maxLen at hcm
      omega
    clear hr
    rw [if_pos hi]
    generalize l[i]?.getD 0 = x at *
    have hx := x.toNat_lt
    have hil : ¬ ((l.length : Int) ≤ (i : Int)) := by omega
    go_enter Try.func64, Try.ntmps64
    go_wp2
    all_goals
      go_ret
      exact ⟨congrArg (fun n => Ending.returned (Value.int .i64 n)) (by omega), Grew.refl _⟩
  · rw [if_neg hi]
    have hil : (l.length : Int) ≤ (i : Int) := by omega
    go_enter Try.func64, Try.ntmps64
    go_wp2
    go_ret
    exact ⟨rfl, Grew.refl _⟩

def crashed (d : Pd) (l : List UInt8) : Pd := { ended (kept l) d with fuse := -1, off := false }
set_option maxHeartbeats 2000000 in
theorem crash_any (w : World) (g : Nat) (D : Nat → Prop) (d : Pd) (S : Nat → Prop) (v : Value) (l : List UInt8) (h : DK w g D d) (hr : Rd S w v l) (hS : ∀ b, S b → ¬ D b) (hw : d.waits.length ≤ 1073741824) :
    Calls Try.prog 21 #[dptr g, v] w fun e w' => e = .returned (.int .i64 0) ∧ DK w' g D (crashed d l) ∧ Kept D w w' := by
  obtain ⟨A, c, rfl, _⟩ := id hr
  have hg1 : Grew w (w.alloc (.cells #[.slice A l.length c] 23)) := (Below.refl _ w).alloc (Nat.le_refl _) _
  have hd1 := h.grew hg1
  have hq : (w.alloc (.cells #[.slice A l.length c] 23)).heap[w.heap.size]? = some (.cells #[.slice A l.length c] 23 (0, 0)) := heap_alloc_new w _
  have HM := Lib.hid (made_any _ g D d hd1)
  have hDs : ∀ k, D k → k < w.heap.size := h.1
  have HS := Lib.hid (settle34_any _ g D d (kept l) w.heap.size (.pointer (some ⟨w.heap.size, 0, none⟩)) (Lib.hid rfl) hd1 (kept_le l) hw (Lib.hid fun W i hk => by
    have hql : w.heap.size < (w.alloc (.cells #[.slice A l.length c] 23)).heap.size := by simp
    have h1 : W.heap[w.heap.size]? = some (.cells #[.slice A l.length c] 23 (0, 0)) := (hk.block _ hql (fun hd => by have := hDs _ hd; omega)).trans hq
    refine choice_any (fun b => S b ∧ b < w.heap.size) A c w.heap.size l W i (by rw [cell_of_row _ _ _ _ _ _ h1]; rfl) ?_
    exact (hr.lt.grew hg1).keep fun b hb hs => hk.block b hb (hS b hs.1)))
  have HG := Lib.hid hg1
  clear h hr hg1 hd1 hq hS hw hDs
  unfold dptr at *
  go_enter Try.func21, Try.ntmps21
  go_wp2_with fail
  refine HM.out.mono ?_
  rintro e w' ⟨rfl, rfl⟩
  go_wp2_with fail
  refine HS.out.mono ?_
  rintro e w2 ⟨rfl, hd2, hk2⟩
  obtain ⟨hDD, a, b, ca, cb, vw, h2, hin⟩ := hd2
  obtain ⟨_, _, _, c3, c4⟩ := h2.cells
  have f3 := frozen_of_row w2 g 3 _ _ h2.blk
  have f4 := frozen_of_row w2 g 4 _ _ h2.blk
  have HA := Lib.hid h2
  have HI := Lib.hid hin
  have HL := Lib.hid hDD
  have HK := Lib.hid ((Kept.of_grew (D := D) HG.out).trans hk2)
  clear h2 hin hDD hk2
  go_wp2
  go_ret
  have hne : ∀ k, k ≠ g → ((w2.setCell ⟨g, 3, none⟩ (.int .i64 (-1))).setCell ⟨g, 4, none⟩ (.bool false)).heap[k]? = w2.heap[k]? := fun k hk =>
    (heap_setCell_other _ ⟨g, 4, none⟩ k _ hk).trans (heap_setCell_other w2 ⟨g, 3, none⟩ k _ hk)
  refine ⟨rfl, ⟨fun k hk => by simpa [World.setCell] using HL.out k hk, a, b, ca, cb, vw, ?_, HI.out⟩, ?_⟩
  · refine DKat.turned HA.out hne ?_ rfl rfl (.inl ⟨rfl, rfl⟩) ⟨by show (-1 : Int) ≤ -1; omega, by show (-1 : Int) ≤ _; omega⟩
    rw [heap_setCell_same _ _ _ _ _ _ (heap_setCell_same _ _ _ _ _ _ HA.out.blk)]
    rfl
  · exact (HK.out.trans (Kept.set _ _ HI.out.g)).trans (Kept.set _ _ HI.out.g)
end Go.Proofs.Ytbnicphegbdfnaa.DFlush
