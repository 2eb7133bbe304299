/-
  The states of a journal whose power may go.
  Conditions: those that each lemma names.
-/
import Derived.Test.YtbnicphegbdfnaaJI
import Derived.Test.YtbnicphegbdfnaaJQ
namespace Go.Proofs.Ytbnicphegbdfnaa.JT
set_option maxRecDepth 100000
set_option maxRecDepth 100000
open Go Go.RowKit Go.Proofs.Ytbnicphegbdfnaa Go.Proofs.Ytbnicphegbdfnaa.Facts Go.Proofs.Ytbnicphegbdfnaa.Bytes Go.Proofs.Ytbnicphegbdfnaa.DKeep Go.Proofs.Ytbnicphegbdfnaa.DSmall Go.Proofs.Ytbnicphegbdfnaa.Puts Go.Proofs.Ytbnicphegbdfnaa.Scan Go.Proofs.Ytbnicphegbdfnaa.SPure Go.Proofs.Ytbnicphegbdfnaa.JA Go.Proofs.Ytbnicphegbdfnaa.JB Go.Proofs.Ytbnicphegbdfnaa.JC Go.Proofs.Ytbnicphegbdfnaa.JD Go.Proofs.Ytbnicphegbdfnaa.JE Go.Proofs.Ytbnicphegbdfnaa.JF Go.Proofs.Ytbnicphegbdfnaa.JH Go.Proofs.Ytbnicphegbdfnaa.JP Go.Proofs.Ytbnicphegbdfnaa.JQ Go.Proofs.Ytbnicphegbdfnaa.JI

/-- Where a disk and its journal lie, whatever the disk holds. -/
def AT (w : World) (g gj : Nat) (j : Jr) (d : Pd) (y : World) : Prop := ∃ D, DK y g D d ∧ JL y gj g j ∧ DAlive.Above D w.heap.size ∧ (∀ k, D k → k < y.heap.size) ∧ ¬ D gj ∧ Grew w y
theorem AT.grew {w y z : World} {g gj : Nat} {j : Jr} {d : Pd} (h : AT w g gj j d y) (hg : Grew y z) : AT w g gj j d z := by
  obtain ⟨D, h1, h2, h4, h5, h6, h7⟩ := h
  exact ⟨D, h1.grew hg, h2.grew hg, h4, fun k hk => Nat.lt_of_lt_of_le (h5 k hk) hg.size, h6, h7.trans hg⟩
theorem AT.g {w y : World} {g gj : Nat} {j : Jr} {d : Pd} (h : AT w g gj j d y) : Grew w y := by
  obtain ⟨D, h1, h2, h4, h5, h6, h7⟩ := h
  exact h7
theorem app_at (w y : World) (g gj : Nat) (j j' : Jr) (d d' : Pd) (q : Int) (S : Nat → Prop) (v : Value) (b : List UInt8) (h : AT w g gj j d y) (hgj : w.heap.size ≤ gj) (hk : JK j) (hb : 1 ≤ j.base) (hw : d.waits.length ≤ 1000000000) (hr : Rd S y v b) (he : japp j d b = (j', d', q)) :
    Calls Try.prog 27 #[.pointer (some ⟨gj, 0, none⟩), v] y fun e z => e = .returned (.int .i64 q) ∧ AT w g gj j' d' z := by
  obtain ⟨D, h1, h2, h4, h5, h6, h7⟩ := h
  have hc := japp_any y gj g j D d S v b h2 hk hb h1 h6 hr hw
  rw [he] at hc
  have hlt : gj < y.heap.size := (Array.getElem?_eq_some_iff.1 h2).1
  refine hc.mono ?_
  rintro e z ⟨rfl, D', hd, hs, hj, hk⟩
  refine ⟨rfl, D', hd, hj, DAlive.above_sub h4 hs h7.size, hd.1, fun hx => ?_, DAlive.grew_kept h7 hk fun k hk => by rcases hk with hk | rfl; exact h4 k hk; exact hgj⟩
  rcases hs gj hx with h | h
  · exact h6 h
  · omega
theorem crash_at (w y : World) (g gj : Nat) (j : Jr) (d : Pd) (S : Nat → Prop) (v : Value) (keep : List UInt8) (h : AT w g gj j d y) (hgj : w.heap.size ≤ gj) (hw : d.waits.length ≤ 1000000000) (hr : Rd S y v keep) (hS : ∀ b, S b → b < w.heap.size) :
    Calls Try.prog 21 #[.pointer (some ⟨g, 0, none⟩), v] y fun e z => e = .returned (.int .i64 0) ∧ AT w g gj j (DFlush.crashed d keep) z := by
  obtain ⟨D, h1, h2, h4, h5, h6, h7⟩ := h
  refine (DFlush.crash_any y g D d S v keep h1 hr (fun b hb hd => by have := h4 b hd; have := hS b hb; omega) (by omega)).mono ?_
  rintro e z ⟨rfl, hd, hk⟩
  refine ⟨rfl, D, hd, ?_, h4, hd.1, h6, DAlive.grew_kept h7 hk fun k hk => h4 k hk⟩
  exact (hk.block gj (Array.getElem?_eq_some_iff.1 h2).1 h6).trans h2
theorem fuse_at (w y : World) (g gj : Nat) (j : Jr) (d : Pd) (n : Nat) (h : AT w g gj j d y) (hn : n ≤ 255) :
    Calls Try.prog 30 #[.pointer (some ⟨g, 0, none⟩), .int .i64 (n : Int)] y fun e z => e = .returned (.tuple #[]) ∧ AT w g gj j { d with fuse := (n : Int) } z := by
  obtain ⟨D, h1, h2, h4, h5, h6, h7⟩ := h
  have hf := DTurn.fuse_any y g D d (n : Int) (by omega) h1
  unfold DTurn.fused at hf
  rw [show max (n : Int) (-1) = (n : Int) by omega] at hf
  refine hf.mono ?_
  rintro e z ⟨rfl, hd, hk⟩
  refine ⟨rfl, D, hd, ?_, h4, hd.1, h6, DAlive.grew_kept h7 hk fun k hk => h4 k hk⟩
  exact (hk.block gj (Array.getElem?_eq_some_iff.1 h2).1 h6).trans h2
/-- The power is on: the records sure are kept, f turns are left. -/
def ON (sure : List (List UInt8)) (f : Nat) (d : Pd) : Prop := ∃ L, d = calmF L (f : Int) ∧ JGd 3 L sure ∧ Bl L sure.length
/-- The power is gone: behind any crash the records sure are said, or those of under. -/
def GONE (sure under : List (List UInt8)) (d : Pd) : Prop := d.waits.length ≤ 2 ∧ ∀ keep, ∃ L, DFlush.crashed d keep = calm L ∧ (JGo 3 L sure ∨ JGo 3 L under)
theorem ON.waits {sure : List (List UInt8)} {f : Nat} {d : Pd} (h : ON sure f d) : d.waits.length = 0 := by
  obtain ⟨L, rfl, _⟩ := h
  rfl
theorem ON.crash {sure : List (List UInt8)} {f : Nat} {d : Pd} (h : ON sure f d) (under : List (List UInt8)) : GONE sure under d := by
  obtain ⟨L, rfl, h1, _⟩ := h
  exact ⟨Nat.zero_le _, fun keep => ⟨L, crashed_none L _ _ keep, .inl (JGo.of h1)⟩⟩
theorem on_app (sure : List (List UInt8)) (f : Nat) (d : Pd) (b : List UInt8) (h : ON sure f d) (hb : b.length ≤ 212) (hm : sure.length < 5) :
    (∃ d', japp ⟨2, 5, 2, sure.length, 3⟩ d b = (⟨2, 5, 2, sure.length, 3⟩, d', 15) ∧ GONE sure (sure ++ [b]) d') ∨
    (∃ d' f', japp ⟨2, 5, 2, sure.length, 3⟩ d b = (⟨2, 5, 2, (sure ++ [b]).length, 3⟩, d', 0) ∧ ON (sure ++ [b]) f' d') := by
  obtain ⟨L, rfl, h1, h2⟩ := h
  match f with
  | 0 => exact .inl ⟨_, japp_f0 3 sure.length L b h1.len hb hm, by simp, fun keep => lost_one 3 L sure b h1 h2 hb hm _ _ keep⟩
  | 1 => exact .inl ⟨_, japp_f1 3 sure.length L b h1.len hb hm, by simp, fun keep => lost_two 3 L sure b h1 h2 hb hm _ _ keep⟩
  | 2 => exact .inl ⟨_, japp_f2 3 sure.length L b h1.len hb hm, by simp, fun keep => lost_two 3 L sure b h1 h2 hb hm _ _ keep⟩
  | k + 3 => exact .inr ⟨_, k, by rw [List.length_append]; exact japp_f3 3 sure.length L b h1.len h1.ev hb hm k, _, rfl, h1.put b hb hm, by rw [List.length_append]; exact h2.put b⟩
theorem on_full (sure : List (List UInt8)) (d : Pd) (b : List UInt8) (hb : b.length ≤ 212) (hm : sure.length = 5) : japp ⟨2, 5, 2, sure.length, 3⟩ d b = (⟨2, 5, 2, sure.length, 3⟩, d, 8) := by
  rw [hm]
  exact japp_full 3 d b hb
end Go.Proofs.Ytbnicphegbdfnaa.JT
