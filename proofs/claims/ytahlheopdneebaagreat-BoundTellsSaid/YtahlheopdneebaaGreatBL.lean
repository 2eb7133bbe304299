/-
  The least number that is enough.
  Conditions: those that each lemma names.
-/
import Derived.Test.YtahlheopdneebaaGreatBI
import Derived.Deep.LoopGhost
import Derived.Lib.Hide
namespace Go.Proofs.YtahlheopdneebaaGreat.BL
set_option maxRecDepth 100000
set_option maxRecDepth 100000
open Go Go.RowKit Go.Lib Go.Proofs.YtahlheopdneebaaGreat Go.Proofs.YtahlheopdneebaaGreat.Facts Go.Proofs.YtahlheopdneebaaGreat.Ints Go.Proofs.YtahlheopdneebaaGreat.RRows Go.Proofs.YtahlheopdneebaaGreat.RSmall Go.Proofs.YtahlheopdneebaaGreat.RRules Go.Proofs.YtahlheopdneebaaGreat.RCaps Go.Proofs.YtahlheopdneebaaGreat.RRule3 Go.Proofs.YtahlheopdneebaaGreat.RRule5 Go.Proofs.YtahlheopdneebaaGreat.RRight Go.Proofs.YtahlheopdneebaaGreat.BV Go.Proofs.YtahlheopdneebaaGreat.BP Go.Proofs.YtahlheopdneebaaGreat.BN Go.Proofs.YtahlheopdneebaaGreat.BM Go.Proofs.YtahlheopdneebaaGreat.BI


theorem one_c {W : World} {B t : Nat} {x : Value} (h : W.heap[B]? = some (.cells #[x] t (0, 0))) : W.cell? ⟨B, 0, none⟩ = some x := by
  rw [cell_of_row _ _ _ _ _ _ h]; rfl
/-- The boxes that a closure of Plan's looks into. -/
structure Bxs (w : World) (RB IB : Nat) (rn : Nat) (im : Int) : Prop where
  r : ∃ v0 v1 v2 v3 v4 o a rt, w.heap[RB]? = some (rcell v0 v1 v2 v3 v4 o a rt (rn : Int))
  i : w.heap[IB]? = some (.cells #[.int .i64 im] 3 (0, 0))
theorem Bxs.grew {w w' : World} {RB IB rn : Nat} {im : Int} (h : Bxs w RB IB rn im) (hg : Grew w w') : Bxs w' RB IB rn im := by
  obtain ⟨v0, v1, v2, v3, v4, o, a, rt, h1⟩ := h.r
  exact ⟨⟨v0, v1, v2, v3, v4, o, a, rt, keepB h1 hg⟩, keepB h.i hg⟩
theorem clo1 (n rn : Nat) (im : Int) (RB IB : Nat) (w : World) (h : Bxs w RB IB rn im) (h1 : 1 ≤ n) (h2 : n ≤ 200) (p1 : 1 ≤ rn) (p2 : rn ≤ 16) :
    Calls Tryz.prog 14 #[.int .i64 (n : Int), .pointer (some ⟨RB, 0, none⟩), .pointer (some ⟨IB, 0, none⟩)] w fun e w' => e = .returned (.bool (decide (im ≤ ((108 * n - 12 : Nat) : Int)))) ∧ Grew w w' := by
  have HRM := Lib.hid (room_any ⟨n, rn, 1⟩ (rn * 1) (pok h1 h2 p1 p2 (by decide) (by decide)))
  have HB := Lib.hid h
  obtain ⟨v0, v1, v2, v3, v4, o, a, rt, hr⟩ := h.r
  obtain ⟨r0, r1, r2, r3, r4, r5, r6, r7, r8⟩ := re_cells hr
  clear h h1 h2 p1 p2 hr
  unfold PV at HRM
  simp only at HRM
  generalize 108 * n - 12 = q at *
  go_enter Tryz.func14, Tryz.ntmps14
  go_wp2_with fail
  refine (HRM.out _).mono ?_
  rintro e w1 ⟨rfl, hg⟩
  have i0 := one_c (HB.out.grew hg).i
  have G1 := Lib.hid hg
  clear hg r0 r1 r2 r3 r4 r5 r6 r7 r8
  go_wp2
  go_returns
  exact ⟨rfl, G1.out⟩
theorem clo2 (n rn : Nat) (im : Int) (RB IB : Nat) (w : World) (h : Bxs w RB IB rn im) (h1 : 1 ≤ n) (h2 : n ≤ 200) (p1 : 1 ≤ rn) (p2 : rn ≤ 16) :
    Calls Tryz.prog 16 #[.int .i64 (n : Int), .pointer (some ⟨RB, 0, none⟩), .pointer (some ⟨IB, 0, none⟩)] w fun e w' => e = .returned (.bool (decide (im ≤ ((108 * n - 4 : Nat) : Int)))) ∧ Grew w w' := by
  have HRM := Lib.hid (room_any ⟨1, rn, n⟩ (rn * n) (pok (by decide) (by decide) p1 p2 h1 h2))
  have HB := Lib.hid h
  obtain ⟨v0, v1, v2, v3, v4, o, a, rt, hr⟩ := h.r
  obtain ⟨r0, r1, r2, r3, r4, r5, r6, r7, r8⟩ := re_cells hr
  clear h h1 h2 p1 p2 hr
  unfold PV at HRM
  simp only at HRM
  generalize 108 * n - 4 = q at *
  generalize 108 * 1 - 12 = q2 at *
  go_enter Tryz.func16, Tryz.ntmps16
  go_wp2_with fail
  refine (HRM.out _).mono ?_
  rintro e w1 ⟨rfl, hg⟩
  have i0 := one_c (HB.out.grew hg).i
  have G1 := Lib.hid hg
  clear hg r0 r1 r2 r3 r4 r5 r6 r7 r8
  go_wp2
  go_returns
  exact ⟨rfl, G1.out⟩
set_option maxHeartbeats 2000000 in
theorem least13 (N rn : Nat) (im : Int) (RB IB : Nat) (w : World) (h : Bxs w RB IB rn im) (h1 : 1 ≤ N) (h2 : N ≤ 200) (p1 : 1 ≤ rn) (p2 : rn ≤ 16) (hN : im ≤ ((108 * N - 12 : Nat) : Int)) (hL : ∀ n : Nat, 1 ≤ n → n < N → ((108 * n - 12 : Nat) : Int) < im) :
    Calls Tryz.prog 13 #[.func (.func 14) #[] #[.pointer (some ⟨RB, 0, none⟩), .pointer (some ⟨IB, 0, none⟩)]] w fun e w' => e = .returned (.int .i64 (N : Int)) ∧ Grew w w' := by
  have HC := Lib.hid (fun (n : Nat) W (hg : Grew w W) (g1 : 1 ≤ n) (g2 : n ≤ 200) => clo1 n rn im RB IB W (h.grew hg) g1 g2 p1 p2)
  have HN := Lib.hid hN
  have HL := Lib.hid hL
  have H2 := Lib.hid h2
  clear h p1 p2 hN hL
  go_enter Tryz.func13, Tryz.ntmps13
  go_wp2
  go_loopg [3] (N - 1) (fun g s3 wx => ∃ n : Nat, n + g = N ∧ 1 ≤ n ∧ s3 = .int .i64 (n : Int) ∧ Hid (Grew w wx))
  case atStart => exact ⟨1, by omega, by omega, rfl, Lib.hid (Grew.refl _)⟩
  case round =>
    obtain ⟨n, hng, hn1, rfl, HG⟩ := hrel
    have hl : (n : Int) < 16384 := by have := H2.out; omega
    have HC1 := Lib.hid (HC.out n _ HG.out hn1 (by have := H2.out; omega))
    cases gk with
    | zero =>
      have hn : n = N := by omega
      subst hn
      rw [decide_eq_true HN.out] at HC1
      clear hng h1 h2 hn1
      go_wp2_with fail
      refine HC1.out.mono ?_
      rintro e w1 ⟨rfl, hg⟩
      have G1 := Lib.hid (HG.out.trans hg)
      clear hg
      go_wp2
      go_returns
      exact ⟨rfl, G1.out⟩
    | succ g =>
      rw [decide_eq_false (by have := HL.out n hn1 (by omega); omega)] at HC1
      have HW : Hid (wrap64 ((n : Int) + 1) = ((n + 1 : Nat) : Int)) := Lib.hid (by have := H2.out; unfold wrap64; omega)
      have HM : Hid (n + 1 + g = N) := Lib.hid (by omega)
      clear hng h1 h2
      go_wp2_with fail
      refine HC1.out.mono ?_
      rintro e w1 ⟨rfl, hg⟩
      have G1 := Lib.hid (HG.out.trans hg)
      clear hg
      go_wp2
      go_roundg g
      case measure => omega
      case rel => exact ⟨n + 1, HM.out, by omega, by first | rfl | rw [HW.out], G1⟩
set_option maxHeartbeats 2000000 in
theorem least14 (N rn : Nat) (im : Int) (RB IB : Nat) (w : World) (h : Bxs w RB IB rn im) (h1 : 1 ≤ N) (h2 : N ≤ 200) (p1 : 1 ≤ rn) (p2 : rn ≤ 16) (hN : im ≤ ((108 * N - 4 : Nat) : Int)) (hL : ∀ n : Nat, 1 ≤ n → n < N → ((108 * n - 4 : Nat) : Int) < im) :
    Calls Tryz.prog 13 #[.func (.func 16) #[] #[.pointer (some ⟨RB, 0, none⟩), .pointer (some ⟨IB, 0, none⟩)]] w fun e w' => e = .returned (.int .i64 (N : Int)) ∧ Grew w w' := by
  have HC := Lib.hid (fun (n : Nat) W (hg : Grew w W) (g1 : 1 ≤ n) (g2 : n ≤ 200) => clo2 n rn im RB IB W (h.grew hg) g1 g2 p1 p2)
  have HN := Lib.hid hN
  have HL := Lib.hid hL
  have H2 := Lib.hid h2
  clear h p1 p2 hN hL
  go_enter Tryz.func13, Tryz.ntmps13
  go_wp2
  go_loopg [3] (N - 1) (fun g s3 wx => ∃ n : Nat, n + g = N ∧ 1 ≤ n ∧ s3 = .int .i64 (n : Int) ∧ Hid (Grew w wx))
  case atStart => exact ⟨1, by omega, by omega, rfl, Lib.hid (Grew.refl _)⟩
  case round =>
    obtain ⟨n, hng, hn1, rfl, HG⟩ := hrel
    have hl : (n : Int) < 16384 := by have := H2.out; omega
    have HC1 := Lib.hid (HC.out n _ HG.out hn1 (by have := H2.out; omega))
    cases gk with
    | zero =>
      have hn : n = N := by omega
      subst hn
      rw [decide_eq_true HN.out] at HC1
      clear hng h1 h2 hn1
      go_wp2_with fail
      refine HC1.out.mono ?_
      rintro e w1 ⟨rfl, hg⟩
      have G1 := Lib.hid (HG.out.trans hg)
      clear hg
      go_wp2
      go_returns
      exact ⟨rfl, G1.out⟩
    | succ g =>
      rw [decide_eq_false (by have := HL.out n hn1 (by omega); omega)] at HC1
      have HW : Hid (wrap64 ((n : Int) + 1) = ((n + 1 : Nat) : Int)) := Lib.hid (by have := H2.out; unfold wrap64; omega)
      have HM : Hid (n + 1 + g = N) := Lib.hid (by omega)
      clear hng h1 h2
      go_wp2_with fail
      refine HC1.out.mono ?_
      rintro e w1 ⟨rfl, hg⟩
      have G1 := Lib.hid (HG.out.trans hg)
      clear hg
      go_wp2
      go_roundg g
      case measure => omega
      case rel => exact ⟨n + 1, HM.out, by omega, by first | rfl | rw [HW.out], G1⟩
end Go.Proofs.YtahlheopdneebaaGreat.BL
