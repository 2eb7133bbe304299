/-
  A second journal with the next base on the same disk, while the first one stays as it lies.
  Conditions: those that each lemma names.
-/
import Derived.Test.YtbnicphegbdfnaaJX
namespace Go.Proofs.Ytbnicphegbdfnaa.JY
set_option maxRecDepth 100000
open Go Go.RowKit Go.Proofs.Ytbnicphegbdfnaa Go.Proofs.Ytbnicphegbdfnaa.Facts Go.Proofs.Ytbnicphegbdfnaa.Bytes Go.Proofs.Ytbnicphegbdfnaa.DKeep Go.Proofs.Ytbnicphegbdfnaa.DSmall Go.Proofs.Ytbnicphegbdfnaa.Puts Go.Proofs.Ytbnicphegbdfnaa.JB Go.Proofs.Ytbnicphegbdfnaa.JE Go.Proofs.Ytbnicphegbdfnaa.JF Go.Proofs.Ytbnicphegbdfnaa.JH Go.Proofs.Ytbnicphegbdfnaa.JI Go.Proofs.Ytbnicphegbdfnaa.JT Go.Proofs.Ytbnicphegbdfnaa.JU

def AB (w : World) (g gk : Nat) (k : Jr) (d : Pd) (gj : Nat) (j : Jr) (y : World) : Prop := ∃ D, DK y g D d ∧ JL y gk g k ∧ DAlive.Above D w.heap.size ∧ (∀ k, D k → k < y.heap.size) ∧ ¬ D gk ∧ Grew w y ∧ JL y gj g j ∧ ¬ D gj ∧ gj ≠ gk ∧ w.heap.size ≤ gk
section
variable {w y z : World} {g gk gj : Nat} {k j : Jr} {d : Pd}
theorem AB.grew (h : AB w g gk k d gj j y) (hg : Grew y z) : AB w g gk k d gj j z := by
  obtain ⟨D, h1, h2, h4, h5, h6, h7, h8, h9, h10, h11⟩ := h
  exact ⟨D, h1.grew hg, h2.grew hg, h4, fun k hk => Nat.lt_of_lt_of_le (h5 k hk) hg.size, h6, h7.trans hg, h8.grew hg, h9, h10, h11⟩
theorem AB.at' (h : AB w g gk k d gj j y) : AT w g gk k d y := by
  obtain ⟨D, h1, h2, h4, h5, h6, h7, h8, h9, h10, h11⟩ := h
  exact ⟨D, h1, h2, h4, h5, h6, h7⟩
theorem AB.jl (h : AB w g gk k d gj j y) : JL y gj g j := by
  obtain ⟨D, h1, h2, h4, h5, h6, h7, h8, h9, h10, h11⟩ := h
  exact h8
end
theorem new_ab (w y : World) (g gj : Nat) (j : Jr) (L : List Sec) (h : AT w g gj j (calm L) y) (hl : L.length = 12) :
    Calls Try.prog 23 #[.pointer (some ⟨g, 0, none⟩), .int .i64 2, .int .i64 5, .int .i64 2, .int .u64 13] y fun e z => ∃ gk, e = .returned (.tuple #[.pointer (some ⟨gk, 0, none⟩), .int .i64 0]) ∧ AB w g gk ⟨2, 5, 2, 0, 13⟩ (calm L) gj j z := by
  obtain ⟨D, h1, h2, h4, h5, h6, h7⟩ := h
  refine (jnew_any y g D (calm L) 2 5 2 13 h1 (by omega) (by omega) (refus12 L 13 hl (by omega) (by omega))).mono ?_
  rintro e z ⟨gk, rfl, hj, hgk, hg⟩
  have hlt : gj < y.heap.size := (Array.getElem?_eq_some_iff.1 h2).1
  exact ⟨gk, rfl, D, h1.grew hg, hj, h4, fun k hk => Nat.lt_of_lt_of_le (h5 k hk) hg.size, fun hx => by have := h5 _ hx; omega, h7.trans hg, h2.grew hg, h6, by omega, Nat.le_trans h7.size hgk⟩
theorem app_ab (w y : World) (g gk gj : Nat) (j : Jr) (L : List Sec) (S : Nat → Prop) (v : Value) (b : List UInt8) (h : AB w g gk ⟨2, 5, 2, 0, 13⟩ (calm L) gj j y) (ho : JGd 13 L []) (hb : b.length ≤ 212) (hr : Rd S y v b) :
    Calls Try.prog 27 #[.pointer (some ⟨gk, 0, none⟩), v] y fun e z => e = .returned (.int .i64 0) ∧ AB w g gk ⟨2, 5, 2, 1, 13⟩ (calm (put 13 0 b L)) gj j z ∧ JGd 13 (put 13 0 b L) [b] := by
  obtain ⟨D, h1, h2, h4, h5, h6, h7, h8, h9, h10, h11⟩ := h
  have hc := japp_any y gk g ⟨2, 5, 2, 0, 13⟩ D (calm L) S v b h2 jk13 (by show 1 ≤ 13; omega) h1 h6 hr (Nat.zero_le _)
  rw [japp_calm 13 0 L b ho.len ho.ev hb (by omega)] at hc
  have hlt : gk < y.heap.size := (Array.getElem?_eq_some_iff.1 h2).1
  have hltj : gj < y.heap.size := (Array.getElem?_eq_some_iff.1 h8).1
  refine hc.mono ?_
  rintro e z ⟨rfl, D', hd, hs, hj, hk⟩
  refine ⟨rfl, ⟨D', hd, hj, DAlive.above_sub h4 hs h7.size, hd.1, fun hx => ?_, DAlive.grew_kept h7 hk (fun k hk => by rcases hk with hk | rfl; exact h4 k hk; exact h11), ?_, fun hx => ?_, h10, h11⟩, ho.put b hb (by simp)⟩
  · rcases hs gk hx with h | h
    · exact h6 h
    · omega
  · refine (hk.block gj hltj fun hd => ?_).trans h8
    rcases hd with hd | hd
    · exact h9 hd
    · exact h10 hd
  · rcases hs gj hx with h | h
    · exact h9 h
    · omega
theorem crash_ab (w y : World) (g gk gj : Nat) (k j : Jr) (L : List Sec) (S : Nat → Prop) (v : Value) (keep : List UInt8) (h : AB w g gk k (calm L) gj j y) (hr : Rd S y v keep) (hS : ∀ b, S b → b < w.heap.size) :
    Calls Try.prog 21 #[.pointer (some ⟨g, 0, none⟩), v] y fun e z => e = .returned (.int .i64 0) ∧ AB w g gk k (calm L) gj j z := by
  obtain ⟨D, h1, h2, h4, h5, h6, h7, h8, h9, h10, h11⟩ := h
  refine (DFlush.crash_any y g D (calm L) S v keep h1 hr (fun b hb hd => by have := h4 b hd; have := hS b hb; omega) (Nat.zero_le _)).mono ?_
  rintro e z ⟨rfl, hd, hk⟩
  rw [show DFlush.crashed (calm L) keep = calm L from JQ.crashed_none L _ _ keep] at hd
  exact ⟨rfl, D, hd, (hk.block gk (Array.getElem?_eq_some_iff.1 h2).1 h6).trans h2, h4, hd.1, h6, DAlive.grew_kept h7 hk (fun k hk => h4 k hk), (hk.block gj (Array.getElem?_eq_some_iff.1 h8).1 h9).trans h8, h9, h10, h11⟩
end Go.Proofs.Ytbnicphegbdfnaa.JY
