/-
  A journal behind a crash: what is said, a journal with the next base, and what is said of it.
  Conditions: those that each lemma names.
-/
import Derived.Test.YtbnicphegbdfnaaJT
namespace Go.Proofs.Ytbnicphegbdfnaa.JU
set_option maxRecDepth 100000
set_option maxRecDepth 100000
open Go Go.RowKit Go.Proofs.Ytbnicphegbdfnaa Go.Proofs.Ytbnicphegbdfnaa.Facts Go.Proofs.Ytbnicphegbdfnaa.Bytes Go.Proofs.Ytbnicphegbdfnaa.DKeep Go.Proofs.Ytbnicphegbdfnaa.DSmall Go.Proofs.Ytbnicphegbdfnaa.Puts Go.Proofs.Ytbnicphegbdfnaa.Scan Go.Proofs.Ytbnicphegbdfnaa.SPure Go.Proofs.Ytbnicphegbdfnaa.JA Go.Proofs.Ytbnicphegbdfnaa.JB Go.Proofs.Ytbnicphegbdfnaa.JC Go.Proofs.Ytbnicphegbdfnaa.JD Go.Proofs.Ytbnicphegbdfnaa.JE Go.Proofs.Ytbnicphegbdfnaa.JF Go.Proofs.Ytbnicphegbdfnaa.JH Go.Proofs.Ytbnicphegbdfnaa.JP Go.Proofs.Ytbnicphegbdfnaa.JQ Go.Proofs.Ytbnicphegbdfnaa.JI Go.Proofs.Ytbnicphegbdfnaa.JT

theorem scan_go (w y : World) (g gj : Nat) (j : Jr) (L : List Sec) (bs : List (List UInt8)) (h : AT w g gj j (calm L) y) (ho : JGo 3 L bs) :
    Calls Try.prog 25 #[.pointer (some ⟨g, 0, none⟩), .int .i64 2, .int .i64 5, .int .i64 2, .int .u64 3] y fun e z => ∃ v, e = .returned (.tuple #[v, .int .i64 0]) ∧ BS y.heap.size z v bs ∧ Grew y z := by
  obtain ⟨D, h1, _⟩ := h
  have hc := jscan_any y g D (calm L) 2 5 2 3 h1 (refus12 L 3 ho.len (by omega) (by omega))
  have hp := ho.scan 5 0 rfl (Nat.zero_le _)
  rw [Nat.zero_mul, List.take_zero] at hp
  rw [show (calm L).last = L from rfl, hp] at hc
  exact hc
theorem scan_13 (w y : World) (g gj : Nat) (j : Jr) (L : List Sec) (bs : List (List UInt8)) (h : AT w g gj j (calm L) y) (ho : JGd 13 L bs) :
    Calls Try.prog 25 #[.pointer (some ⟨g, 0, none⟩), .int .i64 2, .int .i64 5, .int .i64 2, .int .u64 13] y fun e z => ∃ v, e = .returned (.tuple #[v, .int .i64 0]) ∧ BS y.heap.size z v bs ∧ Grew y z := by
  obtain ⟨D, h1, _⟩ := h
  have hc := jscan_any y g D (calm L) 2 5 2 13 h1 (refus12 L 13 ho.len (by omega) (by omega))
  have hp := ho.scan 5 0 rfl (Nat.zero_le _)
  rw [Nat.zero_mul, List.take_zero] at hp
  rw [show (calm L).last = L from rfl, hp] at hc
  exact hc
theorem next_at (w y : World) (g gj m : Nat) (d : Pd) (h : AT w g gj ⟨2, 5, 2, m, 3⟩ d y) (hm : m ≤ 5) : Calls Try.prog 35 #[.pointer (some ⟨gj, 0, none⟩)] y fun e z => e = .returned (.int .u64 13) ∧ Grew y z := by
  obtain ⟨D, _, h2, _⟩ := h
  exact jnext_any y gj g ⟨2, 5, 2, m, 3⟩ h2 (jk3 _ hm)
theorem new_13 (w y : World) (g gj : Nat) (j : Jr) (L : List Sec) (h : AT w g gj j (calm L) y) (hl : L.length = 12) :
    Calls Try.prog 23 #[.pointer (some ⟨g, 0, none⟩), .int .i64 2, .int .i64 5, .int .i64 2, .int .u64 13] y fun e z => ∃ gk, e = .returned (.tuple #[.pointer (some ⟨gk, 0, none⟩), .int .i64 0]) ∧ AT w g gk ⟨2, 5, 2, 0, 13⟩ (calm L) z ∧ w.heap.size ≤ gk := by
  obtain ⟨D, h1, h2, h4, h5, h6, h7⟩ := h
  refine (jnew_any y g D (calm L) 2 5 2 13 h1 (by omega) (by omega) (refus12 L 13 hl (by omega) (by omega))).mono ?_
  rintro e z ⟨gk, rfl, hj, hgk, hg⟩
  exact ⟨gk, rfl, ⟨D, h1.grew hg, hj, h4, fun k hk => Nat.lt_of_lt_of_le (h5 k hk) hg.size, fun hx => by have := h5 _ hx; omega, h7.trans hg⟩, Nat.le_trans h7.size hgk⟩
theorem jk13 : JK ⟨2, 5, 2, 0, 13⟩ := ⟨by show 1 ≤ 5; omega, by show 5 ≤ 16; omega, by show 1 ≤ 2; omega, by show 2 ≤ 16384; omega, by show 2 ≤ 16384; omega, by show 0 ≤ 5; omega, by show 13 + 5 * 2 ≤ 4611686018427387904; omega⟩
theorem app_13 (w y : World) (g gk : Nat) (L : List Sec) (S : Nat → Prop) (v : Value) (b : List UInt8) (h : AT w g gk ⟨2, 5, 2, 0, 13⟩ (calm L) y) (hgk : w.heap.size ≤ gk) (ho : JGd 13 L []) (hb : b.length ≤ 212) (hr : Rd S y v b) :
    Calls Try.prog 27 #[.pointer (some ⟨gk, 0, none⟩), v] y fun e z => e = .returned (.int .i64 0) ∧ AT w g gk ⟨2, 5, 2, 1, 13⟩ (calm (put 13 0 b L)) z ∧ JGd 13 (put 13 0 b L) [b] := by
  refine (app_at w y g gk _ _ _ _ _ S v b h hgk jk13 (by show 1 ≤ 13; omega) (Nat.zero_le _) hr (japp_calm 13 0 L b ho.len ho.ev hb (by omega))).mono ?_
  rintro e z ⟨rfl, ha⟩
  exact ⟨rfl, ha, ho.put b hb (by simp)⟩
theorem crash_calm (w y : World) (g gj : Nat) (j : Jr) (L : List Sec) (S : Nat → Prop) (v : Value) (keep : List UInt8) (h : AT w g gj j (calm L) y) (hgj : w.heap.size ≤ gj) (hr : Rd S y v keep) (hS : ∀ b, S b → b < w.heap.size) :
    Calls Try.prog 21 #[.pointer (some ⟨g, 0, none⟩), v] y fun e z => e = .returned (.int .i64 0) ∧ AT w g gj j (calm L) z := by
  have := crash_at w y g gj j (calm L) S v keep h hgj (Nat.zero_le _) hr hS
  rwa [show DFlush.crashed (calm L) keep = calm L from crashed_none L _ _ keep] at this
/-- What a row of rows of bytes comes to when one row is put behind it. -/
theorem bs_run (w y : World) (base : Nat) (hby : base ≤ y.heap.size) (v : Value) (said : List (List UInt8)) (u : Value) (x : List UInt8) (hb : BS base y v said) (hu : u.oneCell' = true) (hr : Rd (fun b => b < base) y u x) (hl : said.length ≤ 1073741824) :
    ∃ A c W', (Builtin.append_ #[57, 57] 57 #[v, .slice (some ⟨y.heap.size, 0, none⟩) 1 1]).run Try.prog (y.alloc (.cells #[u] 23)) = .ok (.slice A (said ++ [x]).length c) W' ∧ BS base W' (.slice A (said ++ [x]).length c) (said ++ [x]) ∧ Below base y W' := by
  refine bs_app y base v said _ u x hb hu hr (fun b hb2 e => ?_) hl hby
  obtain ⟨ws, ho, _⟩ := hb
  rcases ho.2 with ⟨rfl, _⟩ | ⟨g, cap, cur, rfl, hbg, _⟩
  · cases e
  · simp [Value.ownBlock] at e
    omega
end Go.Proofs.Ytbnicphegbdfnaa.JU
