/-
  What only reads a disk, or turns its fuse and its power: made, refuses, Size, Off, Waits, burn, Fuse, Read.
  Conditions: those that each lemma names.
-/
import Derived.Test.YtbnicphegbdfnaaDKeep
namespace Go.Proofs.Ytbnicphegbdfnaa.DSmall
set_option maxRecDepth 100000
set_option maxRecDepth 100000
set_option maxRecDepth 100000
open Go Go.RowKit Go.Proofs.Ytbnicphegbdfnaa Go.Proofs.Ytbnicphegbdfnaa.Facts Go.Proofs.Ytbnicphegbdfnaa.Bytes Go.Proofs.Ytbnicphegbdfnaa.DKeep

structure POk (d : Pd) : Prop where
  n1 : 1 ≤ d.safe.length
  n2 : d.safe.length ≤ 16384
  same : d.last.length = d.safe.length
  es : Even d.safe
  el : Even d.last
  fit : Fit d.safe.length d.waits
  f1 : -1 ≤ d.fuse
  f2 : d.fuse ≤ 9223372036854775807

structure DKat (w : World) (g a b ca cb : Nat) (vw : Value) (d : Pd) : Prop where
  blk : w.heap[g]? = some (.cells #[.slice (some ⟨a, 0, none⟩) d.safe.length ca, .slice (some ⟨b, 0, none⟩) d.safe.length cb, vw, .int .i64 d.fuse, .bool d.off] 104 (0, 0))
  safe : RowAt w a d.safe
  last : RowAt w b d.last
  waits : w.ownsRow 0 129 129 vw d.waits.length (wcells d.waits)
  ga : g ≠ a
  gb : g ≠ b
  ab : a ≠ b
  gw : vw.ownBlock ≠ some g
  aw : vw.ownBlock ≠ some a
  bw : vw.ownBlock ≠ some b
  ok : POk d
  ca1 : d.safe.length ≤ ca
  ca2 : ca ≤ 9223372036854775807
  cb1 : d.safe.length ≤ cb
  cb2 : cb ≤ 9223372036854775807

structure In (D : Nat → Prop) (g a b : Nat) (vw : Value) : Prop where
  g : D g
  a : D a
  b : D b
  w : ∀ k, vw.ownBlock = some k → D k

/-- Block g is a disk d, with the blocks D. -/
def DK (w : World) (g : Nat) (D : Nat → Prop) (d : Pd) : Prop := (∀ k, D k → k < w.heap.size) ∧ ∃ a b ca cb vw, DKat w g a b ca cb vw d ∧ In D g a b vw

/-- Of what was there only D may have turned. -/
structure Kept (D : Nat → Prop) (w w' : World) : Prop where
  os : w'.os = w.os
  tape : w'.tape = w.tape
  output : w'.output = w.output
  size : w.heap.size ≤ w'.heap.size
  block : ∀ k, k < w.heap.size → ¬ D k → w'.heap[k]? = w.heap[k]?
theorem Kept.refl (D : Nat → Prop) (w : World) : Kept D w w := ⟨rfl, rfl, rfl, Nat.le_refl _, fun _ _ _ => rfl⟩
theorem Kept.trans {D : Nat → Prop} {a b c : World} (h : Kept D a b) (k : Kept D b c) : Kept D a c :=
  ⟨k.os.trans h.os, k.tape.trans h.tape, k.output.trans h.output, Nat.le_trans h.size k.size, fun j hj hd => (k.block j (Nat.lt_of_lt_of_le hj h.size) hd).trans (h.block j hj hd)⟩
theorem Kept.of_grown {D : Nat → Prop} {a b : World} {r : Option Nat} (h : a.grownBy b r) (hr : ∀ k, r = some k → D k) : Kept D a b :=
  ⟨h.os, h.tape, h.output, h.size, fun j hj hd => h.block j hj (fun e => hd (hr j (e.symm ▸ rfl)))⟩
theorem Kept.of_grew {D : Nat → Prop} {a b : World} (h : Grew a b) : Kept D a b := ⟨h.os, h.tape, h.output, h.size, fun j hj _ => h.block j hj⟩
theorem Kept.set {D : Nat → Prop} {g i : Nat} (u : Value) (w : World) (hg : D g) : Kept D w (w.setCell ⟨g, i, none⟩ u) :=
  ⟨rfl, rfl, rfl, by simp [World.setCell], fun k _ hd => heap_setCell_other w ⟨g, i, none⟩ k u (fun e => hd (by have e' : k = g := e; rw [e']; exact hg))⟩
theorem Kept.drew {D : Nat → Prop} {a b : World} (h : Kept D a b) : Kept D a b.drew := ⟨h.os, h.tape, h.output, h.size, h.block⟩

theorem own_keep {w w' : World} {v : Value} {n : Nat} {xs : List Value} (h : w.ownsRow 0 129 129 v n xs) (hk : ∀ k, v.ownBlock = some k → w'.heap[k]? = w.heap[k]?) : w'.ownsRow 0 129 129 v n xs := by
  refine ⟨h.1, ?_⟩
  rcases h.2 with h2 | ⟨g, cap, cur, rfl, hb, hg, h3⟩
  · exact .inl h2
  · exact .inr ⟨g, cap, cur, rfl, hb, (hk g rfl).trans hg, h3⟩
theorem own_lt {w : World} {v : Value} {n k : Nat} {xs : List Value} (h : w.ownsRow 0 129 129 v n xs) (hk : v.ownBlock = some k) : k < w.heap.size := by
  rcases h.2 with ⟨rfl, _⟩ | ⟨g, cap, cur, rfl, hb, hg, h3⟩
  · cases hk
  · simp [Value.ownBlock] at hk
    subst hk
    exact (Array.getElem?_eq_some_iff.1 hg).1

theorem DKat.keep {w w' : World} {g a b ca cb : Nat} {vw : Value} {d : Pd} (h : DKat w g a b ca cb vw d) (hg : w'.heap[g]? = w.heap[g]?) (ha : w'.heap[a]? = w.heap[a]?) (hb : w'.heap[b]? = w.heap[b]?) (hw : ∀ k, vw.ownBlock = some k → w'.heap[k]? = w.heap[k]?) : DKat w' g a b ca cb vw d :=
  { h with blk := hg.trans h.blk, safe := h.safe.keep ha, last := h.last.keep hb, waits := own_keep h.waits hw }
theorem DK.keep {w w' : World} {g : Nat} {D D' : Nat → Prop} {d : Pd} (h : DK w g D d) (hk : Kept D' w w') (hd : ∀ k, D k → ¬ D' k) : DK w' g D d := by
  obtain ⟨h1, a, b, ca, cb, vw, h2, h3⟩ := h
  exact ⟨fun k hD => Nat.lt_of_lt_of_le (h1 k hD) hk.size, a, b, ca, cb, vw, h2.keep (hk.block _ (h1 _ h3.g) (hd _ h3.g)) (hk.block _ (h1 _ h3.a) (hd _ h3.a)) (hk.block _ (h1 _ h3.b) (hd _ h3.b)) (fun k e => hk.block _ (h1 _ (h3.w k e)) (hd _ (h3.w k e))), h3⟩
theorem DK.grew {w w' : World} {g : Nat} {D : Nat → Prop} {d : Pd} (h : DK w g D d) (hg : Grew w w') : DK w' g D d := h.keep (D' := fun _ => False) (Kept.of_grew hg) (fun _ _ h => h)

def dptr (g : Nat) : Value := .pointer (some ⟨g, 0, none⟩)

theorem DKat.cells {w : World} {g a b ca cb : Nat} {vw : Value} {d : Pd} (h : DKat w g a b ca cb vw d) :
    w.cell? ⟨g, 0, none⟩ = some (.slice (some ⟨a, 0, none⟩) d.safe.length ca) ∧ w.cell? ⟨g, 1, none⟩ = some (.slice (some ⟨b, 0, none⟩) d.safe.length cb) ∧ w.cell? ⟨g, 2, none⟩ = some vw ∧ w.cell? ⟨g, 3, none⟩ = some (.int .i64 d.fuse) ∧ w.cell? ⟨g, 4, none⟩ = some (.bool d.off) := by
  refine ⟨?_, ?_, ?_, ?_, ?_⟩ <;> (rw [cell_of_row _ _ _ _ _ _ h.blk]; rfl)

theorem made_any (w : World) (g : Nat) (D : Nat → Prop) (d : Pd) (h : DK w g D d) : Calls Try.prog 56 #[dptr g] w fun e w' => e = .returned (.bool true) ∧ w = w' := by
  obtain ⟨_, a, b, ca, cb, vw, h, _⟩ := h
  obtain ⟨c0, _⟩ := h.cells
  have hn := h.ok.n1
  clear h
  unfold dptr
  go_enter Try.func56, Try.ntmps56
  go_wp2
  go_ret
  exact ⟨congrArg (fun b => Ending.returned (Value.bool b)) (decide_eq_true (by omega)), rfl⟩
theorem made_none (w : World) : Calls Try.prog 56 #[.pointer none] w fun e w' => e = .returned (.bool false) ∧ w = w' := by
  go_enter Try.func56, Try.ntmps56
  go_wp2
  go_ret
  exact ⟨rfl, rfl⟩
theorem size_any (w : World) (g : Nat) (D : Nat → Prop) (d : Pd) (h : DK w g D d) : Calls Try.prog 100 #[dptr g] w fun e w' => e = .returned (.int .i64 (d.safe.length : Int)) ∧ w = w' := by
  have HD := Lib.hid h
  obtain ⟨_, a, b, ca, cb, vw, h, _⟩ := h
  obtain ⟨c0, _⟩ := h.cells
  clear h
  have HM := Lib.hid (made_any w g D d HD.out)
  unfold dptr at HM ⊢
  go_enter Try.func100, Try.ntmps100
  go_wp2_with fail
  refine HM.out.mono ?_
  rintro e w' ⟨rfl, rfl⟩
  go_wp2
  go_ret
  exact ⟨rfl, rfl⟩
theorem size_none (w : World) : Calls Try.prog 100 #[.pointer none] w fun e w' => e = .returned (.int .i64 0) ∧ w = w' := by
  go_enter Try.func100, Try.ntmps100
  go_wp2_with fail
  refine (made_none w).mono ?_
  rintro e w' ⟨rfl, rfl⟩
  go_wp2
  go_ret
  exact ⟨rfl, rfl⟩
theorem off_any (w : World) (g : Nat) (D : Nat → Prop) (d : Pd) (h : DK w g D d) : Calls Try.prog 45 #[dptr g] w fun e w' => e = .returned (.bool d.off) ∧ w = w' := by
  have HD := Lib.hid h
  obtain ⟨_, a, b, ca, cb, vw, h, _⟩ := h
  obtain ⟨_, _, _, _, c4⟩ := h.cells
  clear h
  have HM := Lib.hid (made_any w g D d HD.out)
  unfold dptr at HM ⊢
  go_enter Try.func45, Try.ntmps45
  go_wp2_with fail
  refine HM.out.mono ?_
  rintro e w' ⟨rfl, rfl⟩
  go_wp2
  go_ret
  exact ⟨rfl, rfl⟩
theorem waits_any (w : World) (g : Nat) (D : Nat → Prop) (d : Pd) (h : DK w g D d) : Calls Try.prog 15 #[dptr g] w fun e w' => e = .returned (.int .i64 (d.waits.length : Int)) ∧ w = w' := by
  have HD := Lib.hid h
  obtain ⟨_, a, b, ca, cb, vw, h, _⟩ := h
  obtain ⟨_, _, c2, _, _⟩ := h.cells
  obtain ⟨A, c, rfl⟩ : ∃ A c, vw = .slice A d.waits.length c := by
    rcases h.waits.2 with ⟨rfl, h0⟩ | ⟨q, cap, cur, rfl, _⟩
    · exact ⟨none, 0, by rw [h0]⟩
    · exact ⟨_, _, rfl⟩
  clear h
  have HM := Lib.hid (made_any w g D d HD.out)
  unfold dptr at HM ⊢
  go_enter Try.func15, Try.ntmps15
  go_wp2_with fail
  refine HM.out.mono ?_
  rintro e w' ⟨rfl, rfl⟩
  go_wp2
  go_ret
  exact ⟨rfl, rfl⟩

def refus (d : Pd) (n : Int) : Int := if d.off then 15 else if n < 0 ∨ (d.safe.length : Int) ≤ n then 16 else 0
theorem refuses_any (w : World) (g : Nat) (D : Nat → Prop) (d : Pd) (n : Int) (h : DK w g D d) : Calls Try.prog 60 #[dptr g, .int .i64 n] w fun e w' => e = .returned (.int .i64 (refus d n)) ∧ w = w' := by
  have HD := Lib.hid h
  obtain ⟨_, a, b, ca, cb, vw, h, _⟩ := h
  obtain ⟨c0, _, _, _, c4⟩ := h.cells
  clear h
  have HM := Lib.hid (made_any w g D d HD.out)
  unfold dptr at HM ⊢
  unfold refus
  cases hoff : d.off with
  | true =>
    rw [hoff] at c4
    clear hoff
    go_enter Try.func60, Try.ntmps60
    go_wp2_with fail
    refine HM.out.mono ?_
    rintro e w' ⟨rfl, rfl⟩
    go_wp2
    go_ret
    exact ⟨rfl, rfl⟩
  | false =>
    rw [hoff] at c4
    clear hoff
    by_cases h1 : n < 0
    · rw [if_neg (by simp), if_pos (.inl h1)]
      go_enter Try.func60, Try.ntmps60
      go_wp2_with fail
      refine HM.out.mono ?_
      rintro e w' ⟨rfl, rfl⟩
      go_wp2
      go_ret
      exact ⟨rfl, rfl⟩
    · by_cases h2 : (d.safe.length : Int) ≤ n
      · rw [if_neg (by simp), if_pos (.inr h2)]
        go_enter Try.func60, Try.ntmps60
        go_wp2_with fail
        refine HM.out.mono ?_
        rintro e w' ⟨rfl, rfl⟩
        go_wp2
        go_ret
        exact ⟨rfl, rfl⟩
      · rw [if_neg (by simp), if_neg (by omega)]
        go_enter Try.func60, Try.ntmps60
        go_wp2_with fail
        refine HM.out.mono ?_
        rintro e w' ⟨rfl, rfl⟩
        go_wp2
        go_ret
        exact ⟨rfl, rfl⟩
end Go.Proofs.Ytbnicphegbdfnaa.DSmall
