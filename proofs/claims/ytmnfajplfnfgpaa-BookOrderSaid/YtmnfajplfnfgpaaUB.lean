/-
  What an order needs, numbers and coins, by program and document.
  Conditions: those that each lemma names.
-/
import Derived.Test.YtmnfajplfnfgpaaUM
import Derived.Test.YtmnfajplfnfgpaaPA
import Derived.Lib.Hide
namespace Go.Proofs.Ytmnfajplfnfgpaa.UB
set_option maxRecDepth 100000
open Go Go.RowKit Go.Lib Go.Proofs.Ytmnfajplfnfgpaa Go.Proofs.Ytmnfajplfnfgpaa.Facts Go.Proofs.Ytmnfajplfnfgpaa.Ints Go.Proofs.Ytmnfajplfnfgpaa.PA Go.Proofs.Ytmnfajplfnfgpaa.UM Go.Proofs.Ytmnfajplfnfgpaa.Bytes


/-- What an order needs. -/
def needP (sd : Int) (q p : Nat) : Nat × Int := if (sd = 1 ∨ sd = 2) ∧ q ≠ 0 ∧ p ≠ 0 then (if q * p ≤ top then (if sd = 2 then q else q * p, 0) else (0, 7)) else (0, 1)
theorem need_bad (sd : Int) (q p : Nat) (h : ¬ ((sd = 1 ∨ sd = 2) ∧ q ≠ 0 ∧ p ≠ 0)) : needP sd q p = (0, 1) := if_neg h
theorem need_over (sd : Int) (q p : Nat) (h : (sd = 1 ∨ sd = 2) ∧ q ≠ 0 ∧ p ≠ 0) (h2 : ¬ q * p ≤ top) : needP sd q p = (0, 7) := by unfold needP; rw [if_pos h, if_neg h2]
theorem need_ok (sd : Int) (q p : Nat) (h : (sd = 1 ∨ sd = 2) ∧ q ≠ 0 ∧ p ≠ 0) (h2 : q * p ≤ top) : needP sd q p = (if sd = 2 then q else q * p, 0) := by unfold needP; rw [if_pos h, if_pos h2]
set_option maxHeartbeats 1000000 in
theorem need_any (sd : Int) (q p : Nat) (hq : q < 18446744073709551616) (hp : p < 18446744073709551616) (w : World) :
    Calls Try.prog 11 #[.int .i64 sd, .int .u64 (q : Int), .int .u64 (p : Int)] w fun e w' => e = .returned (two (needP sd q p)) ∧ w = w' := by
  have HT := Lib.hid (times_any q p hq hp)
  by_cases h : (sd = 1 ∨ sd = 2) ∧ q ≠ 0 ∧ p ≠ 0
  · have q1 : ((q : Int) == 0) = false := by simp; exact h.2.1
    have q2 : ((q : Int) != 0) = true := by simp; exact h.2.1
    have p1 : ((p : Int) == 0) = false := by simp; exact h.2.2
    have p2 : ((p : Int) != 0) = true := by simp; exact h.2.2
    have q3 : ¬ (q : Int) = 0 := by omega
    have p3 : ¬ (p : Int) = 0 := by omega
    have q4 : (q == 0) = false := by simp; exact h.2.1
    have p4 : (p == 0) = false := by simp; exact h.2.2
    have hs := h.1
    by_cases h2 : q * p ≤ top
    · rw [need_ok sd q p h h2]
      rw [show timesN q p = (q * p, 0) from if_pos h2] at HT
      generalize q * p = m at *
      clear h h2 hq hp
      unfold two at *
      rcases hs with rfl | rfl
      · rw [if_neg (by decide)]
        go_enter Try.func11, Try.ntmps11
        go_wp2_with fail
        refine (HT.out _).mono ?_
        rintro e w' ⟨rfl, rfl⟩
        go_wp2
        go_ret2
        exact ⟨rfl, rfl⟩

      · rw [if_pos rfl]
        go_enter Try.func11, Try.ntmps11
        go_wp2_with fail
        refine (HT.out _).mono ?_
        rintro e w' ⟨rfl, rfl⟩
        go_wp2
        go_ret2
        exact ⟨rfl, rfl⟩

    · rw [need_over sd q p h h2]
      rw [show timesN q p = (0, 7) from if_neg h2] at HT
      clear h h2 hq hp
      unfold two at *
      rcases hs with rfl | rfl
      all_goals
        go_enter Try.func11, Try.ntmps11
        go_wp2_with fail
        refine (HT.out _).mono ?_
        rintro e w' ⟨rfl, rfl⟩
        go_wp2
        go_ret2
        exact ⟨rfl, rfl⟩

  · rw [need_bad sd q p h]
    unfold two
    by_cases hs : sd = 1 ∨ sd = 2
    · by_cases h0 : q = 0
      · subst h0
        clear h hq hp HT
        rcases hs with rfl | rfl
        all_goals
          go_enter Try.func11, Try.ntmps11
          go_wp2
          go_ret2
          exact ⟨rfl, rfl⟩

      · have h1 : p = 0 := Classical.byContradiction fun h1 => h ⟨hs, h0, h1⟩
        have q1 : ((q : Int) == 0) = false := by simp; exact h0
        have q4 : (q == 0) = false := by simp; exact h0
        subst h1
        clear h hq hp HT h0
        rcases hs with rfl | rfl
        all_goals
          go_enter Try.func11, Try.ntmps11
          go_wp2
          go_ret2
          exact ⟨rfl, rfl⟩

    · clear h hq hp HT
      have s1 : (sd == 1) = false := by simp; omega
      have s2 : (sd == 2) = false := by simp; omega
      have s3 : (sd != 1) = true := by simp; omega
      have s4 : (sd != 2) = true := by simp; omega
      clear hs
      go_enter Try.func11, Try.ntmps11
      go_wp2
      go_ret2
      exact ⟨rfl, rfl⟩
set_option maxHeartbeats 1000000 in
theorem rneed_any (sd : Int) (q p : Nat) (hq : q < 18446744073709551616) (hp : p < 18446744073709551616) (w : World) :
    Calls Try.prog 12 #[.int .i64 sd, .int .u64 (q : Int), .int .u64 (p : Int)] w fun e w' => e = .returned (two (needP sd q p)) ∧ w = w' := by
  have HT := Lib.hid (rtimes_any q p hq hp)
  by_cases h : (sd = 1 ∨ sd = 2) ∧ q ≠ 0 ∧ p ≠ 0
  · have q1 : ((q : Int) == 0) = false := by simp; exact h.2.1
    have q2 : ((q : Int) != 0) = true := by simp; exact h.2.1
    have p1 : ((p : Int) == 0) = false := by simp; exact h.2.2
    have p2 : ((p : Int) != 0) = true := by simp; exact h.2.2
    have q3 : ¬ (q : Int) = 0 := by omega
    have p3 : ¬ (p : Int) = 0 := by omega
    have q4 : (q == 0) = false := by simp; exact h.2.1
    have p4 : (p == 0) = false := by simp; exact h.2.2
    have hs := h.1
    by_cases h2 : q * p ≤ top
    · rw [need_ok sd q p h h2]
      rw [show timesN q p = (q * p, 0) from if_pos h2] at HT
      generalize q * p = m at *
      clear h h2 hq hp
      unfold two at *
      rcases hs with rfl | rfl
      · rw [if_neg (by decide)]
        go_enter Try.func12, Try.ntmps12
        go_wp2_with fail
        refine (HT.out _).mono ?_
        rintro e w' ⟨rfl, rfl⟩
        go_wp2
        go_ret2
        exact ⟨rfl, rfl⟩

      · rw [if_pos rfl]
        go_enter Try.func12, Try.ntmps12
        go_wp2_with fail
        refine (HT.out _).mono ?_
        rintro e w' ⟨rfl, rfl⟩
        go_wp2
        go_ret2
        exact ⟨rfl, rfl⟩

    · rw [need_over sd q p h h2]
      rw [show timesN q p = (0, 7) from if_neg h2] at HT
      clear h h2 hq hp
      unfold two at *
      rcases hs with rfl | rfl
      all_goals
        go_enter Try.func12, Try.ntmps12
        go_wp2_with fail
        refine (HT.out _).mono ?_
        rintro e w' ⟨rfl, rfl⟩
        go_wp2
        go_ret2
        exact ⟨rfl, rfl⟩

  · rw [need_bad sd q p h]
    unfold two
    by_cases hs : sd = 1 ∨ sd = 2
    · by_cases h0 : q = 0
      · subst h0
        clear h hq hp HT
        rcases hs with rfl | rfl
        all_goals
          go_enter Try.func12, Try.ntmps12
          go_wp2
          go_ret2
          exact ⟨rfl, rfl⟩

      · have h1 : p = 0 := Classical.byContradiction fun h1 => h ⟨hs, h0, h1⟩
        have q1 : ((q : Int) == 0) = false := by simp; exact h0
        have q4 : (q == 0) = false := by simp; exact h0
        subst h1
        clear h hq hp HT h0
        rcases hs with rfl | rfl
        all_goals
          go_enter Try.func12, Try.ntmps12
          go_wp2
          go_ret2
          exact ⟨rfl, rfl⟩

    · clear h hq hp HT
      by_cases s0 : sd < 1
      · have s1 : decide (sd < 1) = true := decide_eq_true s0
        clear hs s0
        go_enter Try.func12, Try.ntmps12
        go_wp2
        go_ret2
        exact ⟨rfl, rfl⟩
      · have s1 : decide (sd < 1) = false := decide_eq_false s0
        have s2 : decide (2 < sd) = true := decide_eq_true (by omega)
        clear hs s0
        go_enter Try.func12, Try.ntmps12
        go_wp2
        go_ret2
        exact ⟨rfl, rfl⟩

theorem num_any (n : Int) (w : World) : Calls Try.prog 51 #[.int .i64 n] w fun e w' => e = .returned (.bool (num n)) ∧ w = w' := by
  rcases num_cases n with ⟨h, h2, e⟩ | ⟨h, e⟩ | ⟨h, h2, e⟩
  all_goals
    rw [e]
    clear e
    go_enter Try.func51, Try.ntmps51
    go_wp2
    go_ret
    exact ⟨rfl, rfl⟩
theorem rnum_any (n : Int) (w : World) : Calls Try.prog 52 #[.int .i64 n] w fun e w' => e = .returned (.bool (num n)) ∧ w = w' := by
  rcases num_cases n with ⟨h, h2, e⟩ | ⟨h, e⟩ | ⟨h, h2, e⟩
  · rw [e]
    have h3 : decide (n < 128) = true := decide_eq_true (by omega)
    clear e h2
    go_enter Try.func52, Try.ntmps52
    go_wp2
    go_ret
    exact ⟨rfl, rfl⟩
  · rw [e]
    clear e
    go_enter Try.func52, Try.ntmps52
    go_wp2
    go_ret
    exact ⟨rfl, rfl⟩
  · rw [e]
    have h3 : decide (n < 128) = false := decide_eq_false (by omega)
    clear e h2
    go_enter Try.func52, Try.ntmps52
    go_wp2
    go_ret
    exact ⟨rfl, rfl⟩
theorem coin_any (c : Int) (w : World) : Calls Try.prog 34 #[.int .i64 c] w fun e w' => e = .returned (.bool (coinB c)) ∧ w = w' := by
  by_cases h : 0 ≤ c ∧ c < 4
  · rw [show coinB c = true from decide_eq_true h]
    exact right_yes c h w
  · rw [show coinB c = false from decide_eq_false h]
    exact right_no c (by omega) w
end Go.Proofs.Ytmnfajplfnfgpaa.UB
