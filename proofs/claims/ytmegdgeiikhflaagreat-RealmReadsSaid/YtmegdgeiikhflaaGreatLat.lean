/-
  At or below, together, in common, and the order, of labels: an order, a lattice, and an order of all.
  Conditions: none.
-/
import Derived.Test.YtmegdgeiikhflaaGreatPlain
namespace Go.Proofs.YtmegdgeiikhflaaGreat.Lat
set_option maxRecDepth 100000
set_option maxRecDepth 100000
open Go Go.Lib Go.Proofs.YtmegdgeiikhflaaGreat.Plain

theorem below_iff (c d : BitVec 64) : c &&& ~~~d = 0#64 ↔ ∀ i, c.getLsbD i = true → d.getLsbD i = true := by
  constructor
  · intro h i hi
    have := congrArg (·.getLsbD i) h
    have hlt : i < 64 := BitVec.lt_of_getLsbD hi
    simp [hi, hlt] at this
    exact this
  · intro h
    apply BitVec.eq_of_getLsbD_eq
    intro i hi
    simp [hi]
    intro h1
    exact h i (by simpa [hi] using h1)
theorem le_iff (v : Int) (c : BitVec 64) (v2 : Int) (c2 : BitVec 64) : le v c v2 c2 = true ↔ v ≤ v2 ∧ ∀ i, c.getLsbD i = true → c2.getLsbD i = true := by
  unfold le
  rw [Bool.and_eq_true, decide_eq_true_iff, decide_eq_true_iff, below_iff]
theorem le_refl (v : Int) (c : BitVec 64) : le v c v c = true := (le_iff ..).2 ⟨by omega, fun _ h => h⟩
theorem le_trans {v v2 v3 : Int} {c c2 c3 : BitVec 64} (h : le v c v2 c2 = true) (k : le v2 c2 v3 c3 = true) : le v c v3 c3 = true := by
  rw [le_iff] at *
  exact ⟨by omega, fun i hi => k.2 i (h.2 i hi)⟩
theorem le_anti {v v2 : Int} {c c2 : BitVec 64} (h : le v c v2 c2 = true) (k : le v2 c2 v c = true) : v = v2 ∧ c = c2 := by
  rw [le_iff] at *
  refine ⟨by omega, BitVec.eq_of_getLsbD_eq fun i _ => ?_⟩
  rw [Bool.eq_iff_iff]
  exact ⟨h.2 i, k.2 i⟩
theorem le_join (v v2 v3 : Int) (c c2 c3 : BitVec 64) : le (max v v2) (c ||| c2) v3 c3 = (le v c v3 c3 && le v2 c2 v3 c3) := by
  rw [Bool.eq_iff_iff, Bool.and_eq_true, le_iff, le_iff, le_iff]
  constructor
  · rintro ⟨h, k⟩
    exact ⟨⟨by omega, fun i hi => k i (by simp [hi])⟩, by omega, fun i hi => k i (by simp [hi])⟩
  · rintro ⟨⟨h, k⟩, h2, k2⟩
    refine ⟨by omega, fun i hi => ?_⟩
    rw [BitVec.getLsbD_or, Bool.or_eq_true] at hi
    exact hi.elim (k i) (k2 i)
theorem le_meet (v v2 v3 : Int) (c c2 c3 : BitVec 64) : le v3 c3 (min v v2) (c &&& c2) = (le v3 c3 v c && le v3 c3 v2 c2) := by
  rw [Bool.eq_iff_iff, Bool.and_eq_true, le_iff, le_iff, le_iff]
  constructor
  · rintro ⟨h, k⟩
    exact ⟨⟨by omega, fun i hi => by have := k i hi; simp at this; exact this.1⟩, by omega, fun i hi => by have := k i hi; simp at this; exact this.2⟩
  · rintro ⟨⟨h, k⟩, h2, k2⟩
    refine ⟨by omega, fun i hi => ?_⟩
    simp [k i hi, k2 i hi]
theorem le_order {v v2 : Int} {c c2 : BitVec 64} (h : le v c v2 c2 = true) : order v c v2 c2 ≤ 0 := by
  have h1 : v ≤ v2 := ((le_iff ..).1 h).1
  have h2 : c.toNat ≤ c2.toNat := by
    have e : c = c &&& c2 := BitVec.eq_of_getLsbD_eq fun i _ => by
      have := ((le_iff ..).1 h).2 i
      rw [BitVec.getLsbD_and]
      cases hc : c.getLsbD i
      · rfl
      · rw [this hc]; rfl
    rw [e, BitVec.toNat_and]
    exact Nat.and_le_right
  unfold order pick compareInt
  repeat' split
  all_goals omega
theorem order_neg (v v2 : Int) (c c2 : BitVec 64) : order v c v2 c2 = - order v2 c2 v c := by
  unfold order pick compareInt
  repeat' split
  all_goals omega
theorem order_zero (v v2 : Int) (c c2 : BitVec 64) : order v c v2 c2 = 0 ↔ v = v2 ∧ c = c2 := by
  have e : c = c2 ↔ c.toNat = c2.toNat := BitVec.toNat_inj.symm
  rw [e]
  unfold order pick compareInt
  repeat' split
  all_goals omega
theorem order_le (v v2 : Int) (c c2 : BitVec 64) : order v c v2 c2 ≤ 0 ↔ v < v2 ∨ v = v2 ∧ c.toNat ≤ c2.toNat := by
  unfold order pick compareInt
  repeat' split
  all_goals omega
theorem order_trans {v v2 v3 : Int} {c c2 c3 : BitVec 64} (h : order v c v2 c2 ≤ 0) (k : order v2 c2 v3 c3 ≤ 0) : order v c v3 c3 ≤ 0 := by
  rw [order_le] at *
  omega
theorem order_range (v v2 : Int) (c c2 : BitVec 64) : -1 ≤ order v c v2 c2 ∧ order v c v2 c2 ≤ 1 := by
  unfold order pick compareInt
  repeat' split
  all_goals omega
end Go.Proofs.YtmegdgeiikhflaaGreat.Lat
