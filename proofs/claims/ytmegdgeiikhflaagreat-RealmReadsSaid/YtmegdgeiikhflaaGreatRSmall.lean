/-
  The realm's small functions: whether there is something at a place, whether a number is from one to another one, a guild's hall.
  Conditions: none beyond those that each lemma names.
-/
import Derived.Test.YtmegdgeiikhflaaGreatRRows
import Derived.Test.YtmegdgeiikhflaaGreatPlain
import Derived.Test.YtmegdgeiikhflaaGreatLBox
namespace Go.Proofs.YtmegdgeiikhflaaGreat.RSmall
set_option maxRecDepth 100000
open Go Go.RowKit Go.Lib Go.Proofs.YtmegdgeiikhflaaGreat Go.Proofs.YtmegdgeiikhflaaGreat.Facts Go.Proofs.YtmegdgeiikhflaaGreat.Plain Go.Proofs.YtmegdgeiikhflaaGreat.RRows Go.Proofs.YtmegdgeiikhflaaGreat.LBox

def inn (n : Nat) (i : Int) : Bool := decide (0 ≤ i) && decide (i < n)
theorem inn_cases (n : Nat) (i : Int) : (0 ≤ i ∧ i < n ∧ inn n i = true) ∨ (¬ 0 ≤ i ∧ inn n i = false) ∨ (0 ≤ i ∧ ¬ i < n ∧ inn n i = false) := by
  unfold inn
  by_cases h : 0 ≤ i
  · by_cases h2 : i < (n : Int)
    · exact .inl ⟨h, h2, by simp [h, h2]⟩
    · exact .inr (.inr ⟨h, h2, by simp [h2]⟩)
  · exact .inr (.inl ⟨h, by simp [h]⟩)
theorem hasL_any (A : Option Addr) (n c : Nat) (i : Int) (w : World) : Calls Tryz.prog 53 #[.slice A n c, .int .i64 i] w fun e w' => e = .returned (.bool (inn n i)) ∧ Grew w w' := by
  rcases inn_cases n i with ⟨h, h2, e⟩ | ⟨h, e⟩ | ⟨h, h2, e⟩
  all_goals
    rw [e]
    clear e
    go_enter Tryz.func53, Tryz.ntmps53
    go_wp2
    go_returns
    exact ⟨rfl, Grew.refl _⟩
theorem hasG_any (A : Option Addr) (n c : Nat) (i : Int) (w : World) : Calls Tryz.prog 56 #[.slice A n c, .int .i64 i] w fun e w' => e = .returned (.bool (inn n i)) ∧ Grew w w' := by
  rcases inn_cases n i with ⟨h, h2, e⟩ | ⟨h, e⟩ | ⟨h, h2, e⟩
  all_goals
    rw [e]
    clear e
    go_enter Tryz.func56, Tryz.ntmps56
    go_wp2
    go_returns
    exact ⟨rfl, Grew.refl _⟩
theorem hasA_any (A : Option Addr) (n c : Nat) (i : Int) (w : World) : Calls Tryz.prog 157 #[.slice A n c, .int .i64 i] w fun e w' => e = .returned (.bool (inn n i)) ∧ Grew w w' := by
  rcases inn_cases n i with ⟨h, h2, e⟩ | ⟨h, e⟩ | ⟨h, h2, e⟩
  all_goals
    rw [e]
    clear e
    go_enter Tryz.func157, Tryz.ntmps157
    go_wp2
    go_returns
    exact ⟨rfl, Grew.refl _⟩

def wit (n a b : Int) : Bool := decide (a ≤ n) && decide (n ≤ b)
theorem wit_cases (n a b : Int) : (a ≤ n ∧ n ≤ b ∧ wit n a b = true) ∨ (¬ a ≤ n ∧ wit n a b = false) ∨ (a ≤ n ∧ ¬ n ≤ b ∧ wit n a b = false) := by
  unfold wit
  by_cases h : a ≤ n
  · by_cases h2 : n ≤ b
    · exact .inl ⟨h, h2, by simp [h, h2]⟩
    · exact .inr (.inr ⟨h, h2, by simp [h2]⟩)
  · exact .inr (.inl ⟨h, by simp [h]⟩)
theorem within_any (n a b : Int) (w : World) : Calls Tryz.prog 107 #[.int .i64 n, .int .i64 a, .int .i64 b] w fun e w' => e = .returned (.bool (wit n a b)) ∧ Grew w w' := by
  rcases wit_cases n a b with ⟨h, h2, e⟩ | ⟨h, e⟩ | ⟨h, h2, e⟩
  all_goals
    rw [e]
    clear e
    go_enter Tryz.func107, Tryz.ntmps107
    go_wp2
    go_returns
    exact ⟨rfl, Grew.refl _⟩
theorem slots_any (n : Int) (w : World) : Calls Tryz.prog 131 #[.int .i64 n] w fun e w' => e = .returned (.bool (wit n 0 12)) ∧ Grew w w' := by
  rcases wit_cases n 0 12 with ⟨h, h2, e⟩ | ⟨h, e⟩ | ⟨h, h2, e⟩
  all_goals
    rw [e]
    clear e
    go_enter Tryz.func131, Tryz.ntmps131
    go_wp2
    go_returns
    exact ⟨rfl, Grew.refl _⟩

/-- The one compartment of a guild's hall. -/
def bitOf (b : Int) : BitVec 64 := if 0 ≤ b ∧ b < 64 then BitVec.twoPow 64 b.toNat else 0#64
theorem hall_val (b : Int) : (if 0 ≤ b ∧ b < 64 then ((BitVec.twoPow 64 b.toNat).toNat : Int) else 0) = ((bitOf b).toNat : Int) := by
  unfold bitOf
  split <;> rfl
def hallErr (b : Int) : Int := if 0 ≤ b ∧ b < 64 then 0 else 1
theorem lhall_any (b : Int) (w : World) : Calls Tryz.prog 32 #[.int .i64 b] w fun e w' => e = .returned (.tuple #[.agg #[.int .i64 0, .int .u64 ((bitOf b).toNat : Int)], .int .i64 (hallErr b)]) ∧ Grew w w' := by
  rw [← hall_val]
  exact hall_any b w
theorem hallG_any (b f : Int) (w : World) : Calls Tryz.prog 57 #[.agg #[.int .i64 b, .int .i64 f]] w fun e w' => e = .returned (.agg #[.int .i64 0, .int .u64 ((bitOf b).toNat : Int)]) ∧ Grew w w' := by
  have HH := Lib.hid (fun W => lhall_any b W)
  generalize bitOf b = s at *
  generalize hallErr b = er at *
  have G0 : Hid (Grew w ((w.alloc (.cells #[.int .i64 b, .int .i64 f] 52)).alloc (.cells #[.int .i64 0, .int .u64 0] 31))) := Lib.hid (by unfold Grew; go_grown)
  have R0 : Hid (((w.alloc (.cells #[.int .i64 b, .int .i64 f] 52)).alloc (.cells #[.int .i64 0, .int .u64 0] 31)).heap[w.heap.size + 1]? = some (.cells #[.int .i64 0, .int .u64 0] 31 (0, 0))) := Lib.hid (heap_alloc2_new w _ _)
  go_enter Tryz.func57, Tryz.ntmps57
  go_wp2_with fail
  refine (HH.out _).mono ?_
  rintro e w1 ⟨rfl, hg⟩
  have g1 : Grew w1 (w1.alloc (.cells #[.int .i64 0, .int .u64 (s.toNat : Int)] 31)) := by unfold Grew; go_grown
  have R1 := Lib.hid (keepB (keepB R0.out hg) g1)
  have G1 := Lib.hid ((G0.out.trans hg).trans g1)
  have A1 : Hid ((w1.alloc (.cells #[.int .i64 0, .int .u64 (s.toNat : Int)] 31)).heap[w1.heap.size]? = some (.cells #[.int .i64 0, .int .u64 (s.toNat : Int)] 31 (0, 0))) := Lib.hid (heap_alloc_new w1 _)
  clear hg g1
  obtain ⟨r0, r1, r2, r3⟩ := lab_cells R1.out
  obtain ⟨a0, a1, _, _⟩ := lab_cells A1.out
  obtain ⟨s0, s1, s2⟩ := lab_store R1.out
  have S0 := Lib.hid s0
  have S1 := Lib.hid s1
  clear s0 s1 s2
  go_wp2
  have s0 := S0.out
  have s1 := S1.out
  refine bodyPost_ret (by simp [results, Tryz.results57, go_sem, s0, s1]; try rfl) rfl ⟨rfl, ?_⟩
  have hG := G1.out
  unfold Grew at hG ⊢
  exact (hG.setCell (p := ⟨w.heap.size + 1, 0, none⟩) (Nat.le_succ _) _).setCell (p := ⟨w.heap.size + 1, 1, none⟩) (Nat.le_succ _) _
theorem rhall_any (b : Nat) (hb : b < 64) (w : World) : Calls Tryz.prog 64 #[.int .i64 b] w fun e w' => e = .returned (.agg #[.int .i64 0, .int .u64 ((bitOf b).toNat : Int)]) ∧ Grew w w' := by
  have e : bitOf (b : Int) = BitVec.twoPow 64 b := by
    unfold bitOf
    rw [if_pos ⟨by omega, by omega⟩, Int.toNat_natCast]
  rw [e]
  have e2 : IntKind.u64.wrap ((2 : Int) ^ b) = ((BitVec.twoPow 64 b).toNat : Int) := by
    rw [IntKind.wrap_u64, BitVec.toNat_twoPow]
    simp
  clear e
  generalize ((BitVec.twoPow 64 b).toNat : Int) = x at *
  go_enter Tryz.func64, Tryz.ntmps64
  go_wp2
  go_returns
  exact ⟨rfl, by unfold Grew; go_grown⟩
end Go.Proofs.YtmegdgeiikhflaaGreat.RSmall
