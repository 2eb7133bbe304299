/-
  The document's own answers on labels: whether a compartment is in one, whether a label may be, at or below, the order.
  Conditions: none beyond those that each lemma names.
-/
import Derived.Test.YtahlheopdneebaaLBox
import Derived.Test.YtahlheopdneebaaLat
import Derived.WalkMore
import Derived.BigFrame
namespace Go.Proofs.Ytahlheopdneebaa.LRefs
set_option maxRecDepth 100000
set_option maxRecDepth 100000
set_option maxRecDepth 100000
open Go Go.RowKit Go.Lib Go.Proofs.Ytahlheopdneebaa Go.Proofs.Ytahlheopdneebaa.Facts Go.Proofs.Ytahlheopdneebaa.Plain Go.Proofs.Ytahlheopdneebaa.Lat Go.Proofs.Ytahlheopdneebaa.LBox

theorem odd_at (n i : Nat) : ((n : Int) / 2 ^ i).tmod 2 = ((n.testBit i).toNat : Int) := by
  have e : n / 2 ^ i % 2 = (n.testBit i).toNat := by
    rw [Nat.testBit_eq_decide_div_mod_eq]
    have := Nat.mod_lt (n / 2 ^ i) (show 0 < 2 by omega)
    by_cases h : n / 2 ^ i % 2 = 1
    · simp [h]
    · simp [show n / 2 ^ i % 2 = 0 by omega]
  rw [← e, Int.tmod_eq_emod_of_nonneg (Int.ediv_nonneg (by omega) (Int.le_of_lt (Int.pow_pos (by omega))))]
  simp

theorem le_end (v : Int) (c : BitVec 64) (v2 : Int) (c2 : BitVec 64) (h : ∀ j, j < 64 → c.getLsbD j = true → c2.getLsbD j = true) : le v c v2 c2 = decide (v ≤ v2) := by
  rw [Bool.eq_iff_iff, le_iff, decide_eq_true_iff]
  exact ⟨fun h => h.1, fun h1 => ⟨h1, fun i hi => h i (BitVec.lt_of_getLsbD hi) hi⟩⟩
theorem le_no (v : Int) (c : BitVec 64) (v2 : Int) (c2 : BitVec 64) (j : Nat) (h1 : c.getLsbD j = true) (h2 : c2.getLsbD j = false) : le v c v2 c2 = false := by
  rw [← Bool.not_eq_true, le_iff]
  rintro ⟨_, h⟩
  rw [h j h1] at h2
  cases h2

theorem order_cases (v v2 : Int) (c c2 : BitVec 64) : (v < v2 ∧ order v c v2 c2 = -1) ∨ (v = v2 ∧ c.toNat < c2.toNat ∧ order v c v2 c2 = -1) ∨ (v = v2 ∧ c = c2 ∧ order v c v2 c2 = 0) ∨ (v = v2 ∧ c2.toNat < c.toNat ∧ order v c v2 c2 = 1) ∨ (v2 < v ∧ order v c v2 c2 = 1) := by
  have e : c = c2 ↔ c.toNat = c2.toNat := BitVec.toNat_inj.symm
  rw [e]
  unfold order pick compareInt
  repeat' split
  all_goals omega

end Go.Proofs.Ytahlheopdneebaa.LRefs
