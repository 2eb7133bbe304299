/-
  What less answers; which orders meet; which one is the better one.
  Conditions: those that each lemma names.
-/
import Derived.Test.YtmnfajplfnfgpaaOF
import Derived.Lib.Hide
namespace Go.Proofs.Ytmnfajplfnfgpaa.OG
set_option maxRecDepth 100000
open Go Go.RowKit Go.Lib Go.Proofs.Ytmnfajplfnfgpaa Go.Proofs.Ytmnfajplfnfgpaa.Facts Go.Proofs.Ytmnfajplfnfgpaa.Ints Go.Proofs.Ytmnfajplfnfgpaa.PA Go.Proofs.Ytmnfajplfnfgpaa.UM Go.Proofs.Ytmnfajplfnfgpaa.UB Go.Proofs.Ytmnfajplfnfgpaa.OA Go.Proofs.Ytmnfajplfnfgpaa.BP Go.Proofs.Ytmnfajplfnfgpaa.OB Go.Proofs.Ytmnfajplfnfgpaa.OC Go.Proofs.Ytmnfajplfnfgpaa.OD Go.Proofs.Ytmnfajplfnfgpaa.OE Go.Proofs.Ytmnfajplfnfgpaa.OF Go.Proofs.Ytmnfajplfnfgpaa.Bytes


theorem wsub (a b : Nat) (h : b ≤ a) (ha : a < 18446744073709551616) : IntKind.u64.wrap ((a : Int) - (b : Int)) = ((a - b : Nat) : Int) := by
  rw [IntKind.wrap_u64]
  omega
theorem frz {W : World} {B t k : Nat} {xs : Array Value} (h : W.heap[B]? = some (.cells xs t (0, 0))) : W.frozen? ⟨B, k, none⟩ = false := by
  simp [World.frozen?, h]
theorem below_at {base B : Nat} {A W W' : World} (h : Below base A W) (k : W.grownBy W' (some B)) (hb : base ≤ B) (hs : base ≤ W.heap.size) : Below base A W' := h.grown k hs (fun j e => by cases e; exact hb)
theorem zor_box {W : World} {B : Nat} (h : W.heap[B]? = some (.cells #[.bool false, .int .i64 0, .int .i64 0, .int .i64 0, .int .i64 0, .int .i64 0, .int .u64 0, .int .u64 0, .int .u64 0, .int .i64 0] 26 (0, 0))) : Bx W B zor := h
set_option maxHeartbeats 2000000 in
theorem less_any (x : Or) (n p : Nat) (w : World) (hx : SzO x) (hp : p < 18446744073709551616) (hn : n ≤ x.left) (hsd : x.side = 1 ∨ x.side = 2) (hn0 : n ≠ 0) (hp0 : p ≠ 0) (ht : n * p ≤ top) (hg : (if x.side = 2 then n else n * p) ≤ x.res) :
    Calls Try.prog 61 #[orv x, .int .u64 (n : Int), .int .u64 (p : Int)] w fun e w' => e = .returned (orv (lessP x n p)) ∧ Grew w w' := by
  have HN := Lib.hid (need_any x.side n p (by have := hx.2.1; omega) hp)
  rw [need_ok x.side n p ⟨hsd, hn0, hp0⟩ ht] at HN
  obtain ⟨us, lb, wh, sd, bs, qt, pr, lf, rs, sq⟩ := x
  obtain ⟨_, hx2, hx3⟩ := hx
  unfold lessP
  simp only at HN hg hn hx2 hx3 ⊢
  generalize (if sd = 2 then n else n * p) = gv at *
  have W1 := Lib.hid (wsub lf n hn hx2)
  have W2 := Lib.hid (wsub rs gv hg hx3)
  clear hx2 hx3 hn hg ht hp0 hn0 hsd hp
  unfold two at HN
  unfold orv
  simp only at HN ⊢
  have g0 : Grew w ((w.alloc (.cells #[.bool us, .int .i64 lb, .int .i64 wh, .int .i64 sd, .int .i64 bs, .int .i64 qt, .int .u64 (pr : Int), .int .u64 (lf : Int), .int .u64 (rs : Int), .int .i64 sq] 26)).alloc (.cells #[.bool false, .int .i64 0, .int .i64 0, .int .i64 0, .int .i64 0, .int .i64 0, .int .u64 0, .int .u64 0, .int .u64 0, .int .i64 0] 26)) := by unfold Grew; go_grown
  have b0 : ((w.alloc (.cells #[.bool us, .int .i64 lb, .int .i64 wh, .int .i64 sd, .int .i64 bs, .int .i64 qt, .int .u64 (pr : Int), .int .u64 (lf : Int), .int .u64 (rs : Int), .int .i64 sq] 26)).alloc (.cells #[.bool false, .int .i64 0, .int .i64 0, .int .i64 0, .int .i64 0, .int .i64 0, .int .u64 0, .int .u64 0, .int .u64 0, .int .i64 0] 26)).heap[w.heap.size]? = some (.cells #[.bool us, .int .i64 lb, .int .i64 wh, .int .i64 sd, .int .i64 bs, .int .i64 qt, .int .u64 (pr : Int), .int .u64 (lf : Int), .int .u64 (rs : Int), .int .i64 sq] 26 (0, 0)) := keepB (blk_new w _) (by unfold Grew; go_grown)
  have b1 : ((w.alloc (.cells #[.bool us, .int .i64 lb, .int .i64 wh, .int .i64 sd, .int .i64 bs, .int .i64 qt, .int .u64 (pr : Int), .int .u64 (lf : Int), .int .u64 (rs : Int), .int .i64 sq] 26)).alloc (.cells #[.bool false, .int .i64 0, .int .i64 0, .int .i64 0, .int .i64 0, .int .i64 0, .int .u64 0, .int .u64 0, .int .u64 0, .int .i64 0] 26)).heap[w.heap.size + 1]? = some (.cells #[.bool false, .int .i64 0, .int .i64 0, .int .i64 0, .int .i64 0, .int .i64 0, .int .u64 0, .int .u64 0, .int .u64 0, .int .i64 0] 26 (0, 0)) := by
    have := blk_new (w.alloc (.cells #[.bool us, .int .i64 lb, .int .i64 wh, .int .i64 sd, .int .i64 bs, .int .i64 qt, .int .u64 (pr : Int), .int .u64 (lf : Int), .int .u64 (rs : Int), .int .i64 sq] 26)) (.cells #[.bool false, .int .i64 0, .int .i64 0, .int .i64 0, .int .i64 0, .int .i64 0, .int .u64 0, .int .u64 0, .int .u64 0, .int .i64 0] 26)
    rwa [World.size_alloc] at this
  have G0 := Lib.hid g0
  have B0 := Lib.hid b0
  have B1 := Lib.hid (zor_box b1)
  clear g0 b0 b1
  have f7 := frz (k := 7) B0.out
  have f8 := frz (k := 8) B0.out
  obtain ⟨c0, c1, c2, c3, c4, c5, c6, c7, c8, c9⟩ := ten_c B0.out
  have w1 := W1.out
  have w2 := W2.out
  clear W1 W2
  go_enter Try.func61, Try.ntmps61
  go_wp2_with fail
  refine (HN.out _).mono ?_
  rintro e w' ⟨rfl, rfl⟩
  go_wp2
  refine bodyPost_ret (by simp [results, Try.results61, go_sem]; try rfl) rfl ?_
  exact ⟨by first | rfl | (simp; done), by unfold Grew; go_grown⟩
theorem meets_any (o x : Or) (w : World) : Calls Try.prog 66 #[orv o, orv x] w fun e w' => e = .returned (.bool (meetsP o x)) ∧ Grew w w' := by
  obtain ⟨us, lb, wh, sd, bs, qt, pr, lf, rs, sq⟩ := o
  obtain ⟨us', lb', wh', sd', bs', qt', pr', lf', rs', sq'⟩ := x
  unfold orv meetsP
  simp only
  obtain ⟨q, hq⟩ : ∃ q, (decide (bs = bs') && (decide (qt = qt') && (!decide (sd = sd') && (if sd = 2 then decide (pr ≤ pr') else decide (pr' ≤ pr))))) = q := ⟨_, rfl⟩
  rw [hq]
  have HZ : Hid (q = true ↔ (bs = bs' ∧ qt = qt' ∧ ¬ sd = sd' ∧ (sd = 2 → pr ≤ pr') ∧ (¬ sd = 2 → pr' ≤ pr))) := Lib.hid (by
    rw [← hq]
    by_cases h4 : sd = 2
    · simp [h4]
    · simp [h4])
  clear hq
  go_enter Try.func66, Try.ntmps66
  go_wp2
  all_goals go_returns
  all_goals refine ⟨congrArg (fun b => Ending.returned (.bool b)) ?_, by unfold Grew; go_grown⟩
  all_goals rw [Bool.eq_iff_iff, HZ.out]
  all_goals (simp only [beq_iff_eq, beq_eq_false_iff_ne, ne_eq, decide_eq_true_eq, Bool.false_eq_true] at *)
  all_goals (constructor <;> intro hh)
  all_goals first | exact False.elim hh | exact ⟨by omega, by omega, by omega, fun _ => by omega, fun _ => by omega⟩ | (obtain ⟨k1, k2, k3, k4, k5⟩ := hh; first | omega | exact k4 (by omega) | exact k5 (by omega) | exact k3 (by omega) | (exfalso; omega))
theorem nan_u (a : Nat) (w : World) : Calls Try.prog 86 #[.int .u64 (a : Int)] w fun e w' => e = .returned (.bool false) ∧ w = w' := by
  have h1 : ((a : Int) != (a : Int)) = false := by simp
  go_enter Try.func86, Try.ntmps86
  go_wp2
  go_returns
  exact ⟨by first | rfl | (simp; done), rfl⟩
theorem nan_i (a : Int) (w : World) : Calls Try.prog 87 #[.int .i64 a] w fun e w' => e = .returned (.bool false) ∧ w = w' := by
  have h1 : (a != a) = false := by simp
  go_enter Try.func87, Try.ntmps87
  go_wp2
  go_returns
  exact ⟨by first | rfl | (simp; done), rfl⟩
theorem cmpu_any (a b : Nat) (w : World) : Calls Try.prog 73 #[.int .u64 (a : Int), .int .u64 (b : Int)] w fun e w' => e = .returned (.int .i64 (cmpN a b)) ∧ w = w' := by
  have HA := Lib.hid (nan_u a)
  have HB := Lib.hid (nan_u b)
  obtain ⟨r, hr⟩ : ∃ r, cmpN a b = r := ⟨_, rfl⟩
  rw [hr]
  have HZ : Hid ((a < b → r = -1) ∧ (¬ a < b → b < a → r = 1) ∧ (¬ a < b → ¬ b < a → r = 0)) := Lib.hid (by
    rw [← hr]
    unfold cmpN
    refine ⟨fun h => if_pos h, fun h k => ?_, fun h k => ?_⟩
    · rw [if_neg h, if_pos k]
    · rw [if_neg h, if_neg k])
  clear hr
  go_enter Try.func73, Try.ntmps73
  go_wp2_with fail
  refine (HA.out _).mono ?_
  rintro e w' ⟨rfl, rfl⟩
  go_wp2_with fail
  refine (HB.out _).mono ?_
  rintro e w' ⟨rfl, rfl⟩
  go_wp2
  all_goals go_returns
  all_goals refine ⟨congrArg (fun b => Ending.returned (.int .i64 b)) ?_, rfl⟩
  all_goals (have := HZ.out; omega)
theorem cmpi_any (a b : Int) (w : World) : Calls Try.prog 75 #[.int .i64 a, .int .i64 b] w fun e w' => e = .returned (.int .i64 (cmpZ a b)) ∧ w = w' := by
  have HA := Lib.hid (nan_i a)
  have HB := Lib.hid (nan_i b)
  obtain ⟨r, hr⟩ : ∃ r, cmpZ a b = r := ⟨_, rfl⟩
  rw [hr]
  have HZ : Hid ((a < b → r = -1) ∧ (¬ a < b → b < a → r = 1) ∧ (¬ a < b → ¬ b < a → r = 0)) := Lib.hid (by
    rw [← hr]
    unfold cmpZ
    refine ⟨fun h => if_pos h, fun h k => ?_, fun h k => ?_⟩
    · rw [if_neg h, if_pos k]
    · rw [if_neg h, if_neg k])
  clear hr
  go_enter Try.func75, Try.ntmps75
  go_wp2_with fail
  refine (HA.out _).mono ?_
  rintro e w' ⟨rfl, rfl⟩
  go_wp2_with fail
  refine (HB.out _).mono ?_
  rintro e w' ⟨rfl, rfl⟩
  go_wp2
  all_goals go_returns
  all_goals refine ⟨congrArg (fun b => Ending.returned (.int .i64 b)) ?_, rfl⟩
  all_goals (have := HZ.out; omega)
theorem or_any (a b : Int) (B : Nat) (w : World) (h : w.heap[B]? = some (.cells #[.int .i64 a, .int .i64 b] 3 (0, 0))) : Calls Try.prog 74 #[.slice (some ⟨B, 0, none⟩) 2 2] w fun e w' => e = .returned (.int .i64 (if a = 0 then b else a)) ∧ w = w' := by
  obtain ⟨c0, c1⟩ := two_c h
  clear h
  by_cases ha : a = 0
  · have e1 : (a != 0) = false := by simp [ha]
    rw [if_pos ha]
    clear ha
    by_cases hb : b = 0
    · subst hb
      go_enter Try.func74, Try.ntmps74
      go_wp2
      refine wp_loop_rounds 3 ?_
      rw [rounds_succ]
      go_wp2
      rw [rounds_succ]
      go_wp2
      rw [rounds_succ]
      go_wp2
      go_returns
      exact ⟨rfl, rfl⟩
    · have e2 : (b != 0) = true := by simp [hb]
      clear hb
      go_enter Try.func74, Try.ntmps74
      go_wp2
      refine wp_loop_rounds 2 ?_
      rw [rounds_succ]
      go_wp2
      rw [rounds_succ]
      go_wp2
      go_returns
      exact ⟨rfl, rfl⟩
  · have e1 : (a != 0) = true := by simp [ha]
    rw [if_neg ha]
    clear ha
    go_enter Try.func74, Try.ntmps74
    go_wp2
    refine wp_loop_rounds 1 ?_
    rw [rounds_succ]
    go_wp2
    go_returns
    exact ⟨rfl, rfl⟩
end Go.Proofs.Ytmnfajplfnfgpaa.OG
