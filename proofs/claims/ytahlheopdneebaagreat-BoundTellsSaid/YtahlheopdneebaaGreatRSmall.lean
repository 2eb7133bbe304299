/-
  The realm's small functions: whether there is something at a place, whether a number is from one to another one, a guild's hall.
  Conditions: none beyond those that each lemma names.
-/
import Derived.Test.YtahlheopdneebaaGreatRRows
import Derived.Test.YtahlheopdneebaaGreatPlain
import Derived.Test.YtahlheopdneebaaGreatLBox
namespace Go.Proofs.YtahlheopdneebaaGreat.RSmall
set_option maxRecDepth 100000
set_option maxRecDepth 100000
open Go Go.RowKit Go.Lib Go.Proofs.YtahlheopdneebaaGreat Go.Proofs.YtahlheopdneebaaGreat.Facts Go.Proofs.YtahlheopdneebaaGreat.Plain Go.Proofs.YtahlheopdneebaaGreat.RRows Go.Proofs.YtahlheopdneebaaGreat.LBox

def inn (n : Nat) (i : Int) : Bool := decide (0 ≤ i) && decide (i < n)
theorem inn_cases (n : Nat) (i : Int) : (0 ≤ i ∧ i < n ∧ inn n i = true) ∨ (¬ 0 ≤ i ∧ inn n i = false) ∨ (0 ≤ i ∧ ¬ i < n ∧ inn n i = false) := by
  unfold inn
  by_cases h : 0 ≤ i
  · by_cases h2 : i < (n : Int)
    · exact .inl ⟨h, h2, by simp [h, h2]⟩
    · exact .inr (.inr ⟨h, h2, by simp [h2]⟩)
  · exact .inr (.inl ⟨h, by simp [h]⟩)
theorem hasL_any (A : Option Addr) (n c : Nat) (i : Int) (w : World) : Calls Tryz.prog 38 #[.slice A n c, .int .i64 i] w fun e w' => e = .returned (.bool (inn n i)) ∧ Grew w w' := by
  rcases inn_cases n i with ⟨h, h2, e⟩ | ⟨h, e⟩ | ⟨h, h2, e⟩
  all_goals
    rw [e]
    clear e
    go_enter Tryz.func38, Tryz.ntmps38
    go_wp2
    go_returns
    exact ⟨rfl, Grew.refl _⟩
theorem hasA_any (A : Option Addr) (n c : Nat) (i : Int) (w : World) : Calls Tryz.prog 73 #[.slice A n c, .int .i64 i] w fun e w' => e = .returned (.bool (inn n i)) ∧ Grew w w' := by
  rcases inn_cases n i with ⟨h, h2, e⟩ | ⟨h, e⟩ | ⟨h, h2, e⟩
  all_goals
    rw [e]
    clear e
    go_enter Tryz.func73, Tryz.ntmps73
    go_wp2
    go_returns
    exact ⟨rfl, Grew.refl _⟩

def wit (n a b : Int) : Bool := decide (a ≤ n) && decide (n ≤ b)
theorem wit_cases (n a b : Int) : (a ≤ n ∧ n ≤ b ∧ wit n a b = true) ∨ (¬ a ≤ n ∧ wit n a b = false) ∨ (a ≤ n ∧ ¬ n ≤ b ∧ wit n a b = false) := by
  unfold wit
  by_cases h : a ≤ n
  · by_cases h2 : n ≤ b
    · exact .inl ⟨h, h2, by simp [h, h2]⟩
    · exact .inr (.inr ⟨h, h2, by simp [h2]⟩)
  · exact .inr (.inl ⟨h, by simp [h]⟩)
theorem within_any (n a b : Int) (w : World) : Calls Tryz.prog 31 #[.int .i64 n, .int .i64 a, .int .i64 b] w fun e w' => e = .returned (.bool (wit n a b)) ∧ Grew w w' := by
  rcases wit_cases n a b with ⟨h, h2, e⟩ | ⟨h, e⟩ | ⟨h, h2, e⟩
  all_goals
    rw [e]
    clear e
    go_enter Tryz.func31, Tryz.ntmps31
    go_wp2
    go_returns
    exact ⟨rfl, Grew.refl _⟩
theorem slots_any (n : Int) (w : World) : Calls Tryz.prog 60 #[.int .i64 n] w fun e w' => e = .returned (.bool (wit n 0 12)) ∧ Grew w w' := by
  rcases wit_cases n 0 12 with ⟨h, h2, e⟩ | ⟨h, e⟩ | ⟨h, h2, e⟩
  all_goals
    rw [e]
    clear e
    go_enter Tryz.func60, Tryz.ntmps60
    go_wp2
    go_returns
    exact ⟨rfl, Grew.refl _⟩

/-- The one compartment of a guild's hall. -/
def bitOf (b : Int) : BitVec 64 := if 0 ≤ b ∧ b < 64 then BitVec.twoPow 64 b.toNat else 0#64
theorem hall_val (b : Int) : (if 0 ≤ b ∧ b < 64 then ((BitVec.twoPow 64 b.toNat).toNat : Int) else 0) = ((bitOf b).toNat : Int) := by
  unfold bitOf
  split <;> rfl
def hallErr (b : Int) : Int := if 0 ≤ b ∧ b < 64 then 0 else 1
theorem lhall_any (b : Int) (w : World) : Calls Tryz.prog 72 #[.int .i64 b] w fun e w' => e = .returned (.tuple #[.agg #[.int .i64 0, .int .u64 ((bitOf b).toNat : Int)], .int .i64 (hallErr b)]) ∧ Grew w w' := by
  rw [← hall_val]
  exact hall_any b w
theorem rhall_any (b : Nat) (hb : b < 64) (w : World) : Calls Tryz.prog 57 #[.int .i64 b] w fun e w' => e = .returned (.agg #[.int .i64 0, .int .u64 ((bitOf b).toNat : Int)]) ∧ Grew w w' := by
  have e : bitOf (b : Int) = BitVec.twoPow 64 b := by
    unfold bitOf
    rw [if_pos ⟨by omega, by omega⟩, Int.toNat_natCast]
  rw [e]
  have e2 : IntKind.u64.wrap ((2 : Int) ^ b) = ((BitVec.twoPow 64 b).toNat : Int) := by
    rw [IntKind.wrap_u64, BitVec.toNat_twoPow]
    simp
  clear e
  generalize ((BitVec.twoPow 64 b).toNat : Int) = x at *
  go_enter Tryz.func57, Tryz.ntmps57
  go_wp2
  go_returns
  exact ⟨rfl, by unfold Grew; go_grown⟩
end Go.Proofs.YtahlheopdneebaaGreat.RSmall
