/-
  A journal of five places of two sectors, as it lies.
  Conditions: none beyond what is read of the arguments.
-/
import Derived.Test.YtbnicphegbdfnaaJG
import Derived.Test.YtbnicphegbdfnaaJH
namespace Go.Proofs.Ytbnicphegbdfnaa.JI
set_option maxRecDepth 100000
set_option maxRecDepth 100000
open Go Go.RowKit Go.Proofs.Ytbnicphegbdfnaa Go.Proofs.Ytbnicphegbdfnaa.Facts Go.Proofs.Ytbnicphegbdfnaa.Bytes Go.Proofs.Ytbnicphegbdfnaa.DKeep Go.Proofs.Ytbnicphegbdfnaa.DSmall Go.Proofs.Ytbnicphegbdfnaa.Puts Go.Proofs.Ytbnicphegbdfnaa.Scan Go.Proofs.Ytbnicphegbdfnaa.SPure Go.Proofs.Ytbnicphegbdfnaa.JA Go.Proofs.Ytbnicphegbdfnaa.JB Go.Proofs.Ytbnicphegbdfnaa.JC Go.Proofs.Ytbnicphegbdfnaa.JD Go.Proofs.Ytbnicphegbdfnaa.JE Go.Proofs.Ytbnicphegbdfnaa.JF Go.Proofs.Ytbnicphegbdfnaa.JG Go.Proofs.Ytbnicphegbdfnaa.JH

/-- Rows of bytes that came in. -/
def LB (w : World) (A : Option Addr) (c : Nat) (L : List (List UInt8)) : Prop := L.length ≤ c ∧ c ≤ 9223372036854775807 ∧ (A = none → c = 0) ∧ ∀ ad, A = some ad → ∀ (i : Nat) (x : List UInt8), L[i]? = some x → ∃ vB, w.cell? (ad.add i) = some vB ∧ Rd (fun b => b < w.heap.size) w vB x
theorem refus12 (L : List Sec) (base : Nat) (hl : L.length = 12) (h1 : 1 ≤ base) (h2 : base + 10 ≤ 4611686018427387904) : jrefus (calm L) ((2 : Nat) : Int) ((5 : Nat) : Int) ((2 : Nat) : Int) base = 0 := by
  unfold jrefus calm
  simp only [hl]
  rw [if_neg (by decide), if_neg (by decide), if_neg (by omega)]
  rfl
theorem calm_fresh : DNew.fresh 12 = calm (DNew.blank 12) := rfl
/-- The state behind some records. -/
def ST (w : World) (g gj : Nat) (bs : List (List UInt8)) (y : World) : Prop := ∃ D L, DK y g D (calm L) ∧ JL y gj g ⟨2, 5, 2, bs.length, 3⟩ ∧ JGd 3 L bs ∧ DAlive.Above D w.heap.size ∧ (∀ k, D k → k < y.heap.size) ∧ ¬ D gj ∧ Grew w y
theorem ST.grew {w y z : World} {g gj : Nat} {bs : List (List UInt8)} (h : ST w g gj bs y) (hg : Grew y z) : ST w g gj bs z := by
  obtain ⟨D, L, h1, h2, h3, h4, h5, h6, h7⟩ := h
  exact ⟨D, L, h1.grew hg, h2.grew hg, h3, h4, fun k hk => Nat.lt_of_lt_of_le (h5 k hk) hg.size, h6, h7.trans hg⟩
theorem ST.g {w y : World} {g gj : Nat} {bs : List (List UInt8)} (h : ST w g gj bs y) : Grew w y := by
  obtain ⟨_, _, _, _, _, _, _, _, h⟩ := h
  exact h
theorem jk3 (m : Nat) (h : m ≤ 5) : JK ⟨2, 5, 2, m, 3⟩ := ⟨by show 1 ≤ 5; omega, by show 5 ≤ 16; omega, by show 1 ≤ 2; omega, by show 2 ≤ 16384; omega, by show 2 ≤ 16384; omega, h, by show 3 + 5 * 2 ≤ 4611686018427387904; omega⟩
/-- Which record is taken. -/
def took (b : List UInt8) (bs : List (List UInt8)) : List (List UInt8) := if b.length ≤ 212 then bs ++ [b] else bs
theorem app_st (w y : World) (g gj : Nat) (bs : List (List UInt8)) (S : Nat → Prop) (v : Value) (b : List UInt8) (h : ST w g gj bs y) (hgj : w.heap.size ≤ gj) (hm : bs.length < 5) (hr : Rd S y v b) :
    Calls Try.prog 27 #[.pointer (some ⟨gj, 0, none⟩), v] y fun e z => e = .returned (.int .i64 (if b.length ≤ 212 then 0 else 13)) ∧ ST w g gj (took b bs) z := by
  obtain ⟨D, L, h1, h2, h3, h4, h5, h6, h7⟩ := h
  have hc := japp_any y gj g ⟨2, 5, 2, bs.length, 3⟩ D (calm L) S v b h2 (jk3 _ (by omega)) (by show 1 ≤ 3; omega) h1 h6 hr (by show (0 : Nat) ≤ _; omega)
  have hlt : gj < y.heap.size := (Array.getElem?_eq_some_iff.1 h2).1
  by_cases hb : b.length ≤ 212
  · rw [japp_calm 3 bs.length L b h3.len h3.ev hb hm] at hc
    unfold took
    rw [if_pos hb, if_pos hb]
    refine hc.mono ?_
    rintro e z ⟨rfl, D', hd, hs, hj, hk⟩
    refine ⟨rfl, D', _, hd, ?_, h3.put b hb hm, DAlive.above_sub h4 hs h7.size, hd.1, fun hx => ?_, DAlive.grew_kept h7 hk fun k hk => by rcases hk with hk | rfl; exact h4 k hk; exact hgj⟩
    · rw [List.length_append]; exact hj
    · rcases hs gj hx with h | h
      · exact h6 h
      · omega
  · rw [japp_long _ _ b rfl (by omega)] at hc
    unfold took
    rw [if_neg hb, if_neg hb]
    refine hc.mono ?_
    rintro e z ⟨rfl, D', hd, hs, hj, hk⟩
    refine ⟨rfl, D', L, hd, hj, h3, DAlive.above_sub h4 hs h7.size, hd.1, fun hx => ?_, DAlive.grew_kept h7 hk fun k hk => by rcases hk with hk | rfl; exact h4 k hk; exact hgj⟩
    rcases hs gj hx with h | h
    · exact h6 h
    · omega
theorem scan_st (w y : World) (g gj : Nat) (bs : List (List UInt8)) (h : ST w g gj bs y) :
    Calls Try.prog 25 #[.pointer (some ⟨g, 0, none⟩), .int .i64 2, .int .i64 5, .int .i64 2, .int .u64 3] y fun e z => ∃ v, e = .returned (.tuple #[v, .int .i64 0]) ∧ BS y.heap.size z v bs ∧ Grew y z := by
  obtain ⟨D, L, h1, h2, h3, h4, h5, h6, h7⟩ := h
  have hc := jscan_any y g D (calm L) 2 5 2 3 h1 (refus12 L 3 h3.len (by omega) (by omega))
  have hp := h3.scan 5 0 rfl (Nat.zero_le _)
  rw [Nat.zero_mul, List.take_zero] at hp
  rw [show (calm L).last = L from rfl, hp] at hc
  exact hc
theorem scan_old (w y : World) (g gj : Nat) (bs : List (List UInt8)) (base : Nat) (x : Int) (hx : x = (base : Int)) (h : ST w g gj bs y) (h1 : 3 < base) (h2 : base + 10 ≤ 4611686018427387904) :
    Calls Try.prog 25 #[.pointer (some ⟨g, 0, none⟩), .int .i64 2, .int .i64 5, .int .i64 2, .int .u64 x] y fun e z => ∃ v, e = .returned (.tuple #[v, .int .i64 0]) ∧ BS y.heap.size z v [] ∧ Grew y z := by
  subst hx
  obtain ⟨D, L, q1, _, q3, _⟩ := h
  have hc := jscan_any y g D (calm L) 2 5 2 base q1 (refus12 L base q3.len (by omega) h2)
  rw [show (calm L).last = L from rfl, q3.stale base h1] at hc
  exact hc
theorem next_st (w y : World) (g gj : Nat) (bs : List (List UInt8)) (h : ST w g gj bs y) : Calls Try.prog 35 #[.pointer (some ⟨gj, 0, none⟩)] y fun e z => e = .returned (.int .u64 13) ∧ Grew y z := by
  obtain ⟨D, L, _, h2, h3, _⟩ := h
  exact jnext_any y gj g ⟨2, 5, 2, bs.length, 3⟩ h2 (jk3 _ h3.few)
end Go.Proofs.Ytbnicphegbdfnaa.JI
