/-
  What the functions on labels that only reckon come to: Right, Leq, Join, Meet, Cmp, Hall, the program's own.
  Conditions: none beyond those that each lemma names.
-/
import Derived.Test.YtmegdgeiikhflaaGreatShelf
import Derived.Test.YtmegdgeiikhflaaGreatMoves
import Derived.Test.YtmegdgeiikhflaaGreatBytes
import Derived.Handy
namespace Go.Proofs.YtmegdgeiikhflaaGreat.Plain
set_option maxRecDepth 100000
open Go Go.RowKit Go.Proofs.YtmegdgeiikhflaaGreat Go.Proofs.YtmegdgeiikhflaaGreat.Facts

/-- A label's value. -/
def lv (v : Int) (c : BitVec 64) : Value := .agg #[.int .i64 v, .int .u64 (c.toNat : Int)]

theorem of_toNat (a : BitVec 64) : BitVec.ofInt 64 ((a.toNat : Nat) : Int) = a := by
  rw [BitVec.ofInt_natCast, BitVec.ofNat_toNat, BitVec.setWidth_eq]
theorem wrap_bv (a : BitVec 64) : IntKind.u64.wrap ((a.toNat : Nat) : Int) = ((a.toNat : Nat) : Int) := by
  have := a.isLt
  rw [IntKind.wrap_u64]
  omega
theorem bits_and (a b : BitVec 64) : bits .and .u64 ((a.toNat : Nat) : Int) ((b.toNat : Nat) : Int) = (((a &&& b).toNat : Nat) : Int) := by
  show IntKind.u64.wrap (((BitVec.ofInt 64 ((a.toNat : Nat) : Int) &&& BitVec.ofInt 64 ((b.toNat : Nat) : Int)).toNat : Nat) : Int) = _
  rw [of_toNat, of_toNat, wrap_bv]
theorem bits_or (a b : BitVec 64) : bits .or .u64 ((a.toNat : Nat) : Int) ((b.toNat : Nat) : Int) = (((a ||| b).toNat : Nat) : Int) := by
  show IntKind.u64.wrap (((BitVec.ofInt 64 ((a.toNat : Nat) : Int) ||| BitVec.ofInt 64 ((b.toNat : Nat) : Int)).toNat : Nat) : Int) = _
  rw [of_toNat, of_toNat, wrap_bv]
theorem bits_sub (a b : BitVec 64) : bits .andNot .u64 ((a.toNat : Nat) : Int) ((b.toNat : Nat) : Int) = (((a &&& ~~~b).toNat : Nat) : Int) := by
  show IntKind.u64.wrap (((BitVec.ofInt 64 ((a.toNat : Nat) : Int) &&& ~~~BitVec.ofInt 64 ((b.toNat : Nat) : Int)).toNat : Nat) : Int) = _
  rw [of_toNat, of_toNat, wrap_bv]

/-- May it be? -/
def may (v : Int) : Bool := decide (0 ≤ v) && decide (v < 4)
/-- At or below? -/
def le (v : Int) (c : BitVec 64) (v2 : Int) (c2 : BitVec 64) : Bool := decide (v ≤ v2) && decide (c &&& ~~~c2 = 0#64)
/-- The first that is not nought. -/
def pick (a b : Int) : Int := if a = 0 then b else a
/-- The order. -/
def order (v : Int) (c : BitVec 64) (v2 : Int) (c2 : BitVec 64) : Int :=
  pick (Lib.compareInt v v2) (Lib.compareInt (c.toNat : Int) (c2.toNat : Int))

theorem bv_zero (a : BitVec 64) : (((a.toNat : Nat) : Int) == 0) = decide (a = 0#64) := by
  rw [Bool.eq_iff_iff]
  simp [BitVec.toNat_eq]


theorem right_any (v : Int) (c : BitVec 64) (w : World) : Calls Tryz.prog 109 #[.agg #[.int .i64 v, .int .u64 (c.toNat : Int)]] w fun e w' => e = .returned (.bool (may v)) ∧ Grew w w' := by
  go_enter Tryz.func109, Tryz.ntmps109
  go_wp2
  all_goals rename_i h
  all_goals go_returns
  all_goals refine ⟨?_, by unfold Grew; go_grown⟩
  · unfold may; rw [decide_eq_true h]; rfl
  · unfold may; rw [decide_eq_false (by omega : ¬ 0 ≤ v)]; rfl

theorem leq_any (v : Int) (c : BitVec 64) (v2 : Int) (c2 : BitVec 64) (w : World) : Calls Tryz.prog 54 #[.agg #[.int .i64 v, .int .u64 (c.toNat : Int)], .agg #[.int .i64 v2, .int .u64 (c2.toNat : Int)]] w fun e w' => e = .returned (.bool (le v c v2 c2)) ∧ Grew w w' := by
  go_enter Tryz.func54, Tryz.ntmps54
  go_wp2
  all_goals rename_i h
  all_goals go_returns
  all_goals refine ⟨?_, by unfold Grew; go_grown⟩
  · rw [bits_sub, bv_zero]; unfold le; rw [decide_eq_true h]; rfl
  · unfold le; rw [decide_eq_false (by omega : ¬ v ≤ v2)]; rfl

theorem join_any (v : Int) (c : BitVec 64) (v2 : Int) (c2 : BitVec 64) (w : World) : Calls Tryz.prog 159 #[.agg #[.int .i64 v, .int .u64 (c.toNat : Int)], .agg #[.int .i64 v2, .int .u64 (c2.toNat : Int)]] w fun e w' => e = .returned (.agg #[.int .i64 (max v v2), .int .u64 ((c ||| c2).toNat : Int)]) ∧ Grew w w' := by
  go_enter Tryz.func159, Tryz.ntmps159
  go_wp2
  go_returns
  exact ⟨by rw [bits_or], by unfold Grew; go_grown⟩

theorem isnan_u (x : Int) (w : World) : Calls Tryz.prog 180 #[.int .u64 x] w fun e w' => e = .returned (.bool false) ∧ w' = w := by
  go_enter Tryz.func180, Tryz.ntmps180
  go_wp2
  go_ret
  exact ⟨by simp, rfl⟩

theorem compare_u (x y : Int) (w : World) : Calls Tryz.prog 169 #[.int .u64 x, .int .u64 y] w fun e w' => e = .returned (.int .i64 (Lib.compareInt x y)) ∧ w' = w := by
  unfold Lib.compareInt
  go_enter Tryz.func169, Tryz.ntmps169
  go_wp2_with (refine (isnan_u _ _).mono ?_; rintro e w' ⟨rfl, rfl⟩)
  all_goals go_returns
  all_goals exact ⟨rfl, rfl⟩

theorem or_any (a b : Int) (w : World) (A : Addr) (ha : w.cell? A = some (.int .i64 a)) (hb : w.cell? ⟨A.block, A.off + 1, none⟩ = some (.int .i64 b)) : Calls Tryz.prog 167 #[.slice (some A) 2 2] w fun e w' => e = .returned (.int .i64 (pick a b)) ∧ w' = w := by
  unfold pick
  go_enter Tryz.func167, Tryz.ntmps167
  by_cases h0 : a = 0
  · subst h0
    by_cases h1 : b = 0
    · subst h1
      go_wp2
      go_rounds 3
      go_returns
      exact ⟨rfl, rfl⟩
    · have h1' : (b != 0) = true := by simpa using h1
      go_wp2
      go_rounds 3
      go_returns
      exact ⟨by simp, rfl⟩
  · have h0' : (a != 0) = true := by simpa using h0
    go_wp2
    go_rounds 3
    go_returns
    exact ⟨by simp, rfl⟩

theorem hall_any (v : Int) (w : World) : Calls Tryz.prog 32 #[.int .i64 v] w fun e w' => e = .returned (.tuple #[.agg #[.int .i64 0, .int .u64 (if 0 ≤ v ∧ v < 64 then ((BitVec.twoPow 64 v.toNat).toNat : Int) else 0)], .int .i64 (if 0 ≤ v ∧ v < 64 then 0 else 1)]) ∧ Grew w w' := by
  go_enter Tryz.func32, Tryz.ntmps32
  by_cases hb : 0 ≤ v ∧ v < 64
  · obtain ⟨h0, h1⟩ := hb
    have e : IntKind.u64.wrap ((2 : Int) ^ v.toNat) = ((BitVec.twoPow 64 v.toNat).toNat : Int) := by
      rw [IntKind.wrap_u64, BitVec.toNat_twoPow]
      simp
    go_wp2
    go_returns
    refine ⟨?_, by unfold Grew; go_grown⟩
    rfl
  · by_cases h0 : v < 0
    · go_wp2
      go_returns
      exact ⟨rfl, by unfold Grew; go_grown⟩
    · have h1 : 64 ≤ v := by omega
      go_wp2
      go_returns
      exact ⟨rfl, by unfold Grew; go_grown⟩

/-- A row of two numbers, as it lies. -/
def Two (x y : Int) (v : Value) (w : World) : Prop := ∃ A : Addr, v = .slice (some A) 2 2 ∧ w.cell? A = some (.int .i64 x) ∧ w.cell? ⟨A.block, A.off + 1, none⟩ = some (.int .i64 y)
theorem cellG {w w' : World} {a : Addr} {v : Value} (hg : Grew w w') (h : w.cell? a = some v) : w'.cell? a = some v :=
  (hg.cell (World.block_lt_of_cell? _ _ h)).trans h
theorem Two.grow {x y : Int} {v : Value} {w w' : World} (h : Two x y v w) (hg : Grew w w') : Two x y v w' := by
  obtain ⟨A, rfl, h1, h2⟩ := h
  exact ⟨A, rfl, cellG hg h1, cellG hg h2⟩

set_option maxRecDepth 100000 in
theorem cmp_any (v : Int) (c : BitVec 64) (v2 : Int) (c2 : BitVec 64) (w : World) : Calls Tryz.prog 149 #[.agg #[.int .i64 v, .int .u64 (c.toNat : Int)], .agg #[.int .i64 v2, .int .u64 (c2.toNat : Int)]] w fun e w' => e = .returned (.int .i64 (order v c v2 c2)) ∧ Grew w w' := by
  go_enter Tryz.func149, Tryz.ntmps149
  go_wp2
  refine Facts.wp_region_text (by kernel_rfl) (by kernel_rfl) ?_
  generalize hW : (w.alloc (Obj.cells #[Value.int IntKind.i64 v, Value.int IntKind.u64 (c.toNat : Int)] 31)).alloc (Obj.cells #[Value.int IntKind.i64 v2, Value.int IntKind.u64 (c2.toNat : Int)] 31) = W0
  have k0 : W0.cell? ⟨w.heap.size, 0, none⟩ = some (.int .i64 v) := by subst hW; go_simp
  have k1 : W0.cell? ⟨w.heap.size, 1, none⟩ = some (.int .u64 (c.toNat : Int)) := by subst hW; go_simp
  have k2 : W0.cell? ⟨w.heap.size + 1, 0, none⟩ = some (.int .i64 v2) := by subst hW; go_simp
  have k3 : W0.cell? ⟨w.heap.size + 1, 1, none⟩ = some (.int .u64 (c2.toNat : Int)) := by subst hW; go_simp
  have hG : Grew w W0 := by subst hW; unfold Grew; go_grown
  clear hW
  repeat
    apply Facts.Lex.exact [] _ (by kernel_rfl)
    · intro u W hC _
      have j0 := cellG hC k0
      have j1 := cellG hC k1
      have j2 := cellG hC k2
      have j3 := cellG hC k3
      unfold Facts.one
      go_simp
      first | exact ⟨Grew.refl _, rfl⟩ | rfl
    simp only [Act.put, List.setIfInBounds_toArray, List.set_cons_zero, List.set_cons_succ, Nat.zero_add, Nat.reduceAdd]
  apply Facts.Lex.exact [] _ (by kernel_rfl)
  · intro u W hC _
    unfold Facts.one
    go_simp
    refine (Tryz.cmp_Compare_int v v2 W).mono ?_
    rintro e w' ⟨rfl, rfl⟩
    exact ⟨_, rfl, Grew.refl _, rfl⟩
  simp only [Act.put, List.setIfInBounds_toArray, List.set_cons_zero, List.set_cons_succ, Nat.reduceAdd]
  repeat
    apply Facts.Lex.exact [] _ (by kernel_rfl)
    · intro u W hC _
      have j0 := cellG hC k0
      have j1 := cellG hC k1
      have j2 := cellG hC k2
      have j3 := cellG hC k3
      unfold Facts.one
      go_simp
      first | exact ⟨Grew.refl _, rfl⟩ | rfl
    simp only [Act.put, List.setIfInBounds_toArray, List.set_cons_zero, List.set_cons_succ, Nat.reduceAdd]
  apply Facts.Lex.exact [] _ (by kernel_rfl)
  · intro u W hC _
    unfold Facts.one
    go_simp
    refine (compare_u _ _ W).mono ?_
    rintro e w' ⟨rfl, rfl⟩
    exact ⟨_, rfl, Grew.refl _, rfl⟩
  simp only [Act.put, List.setIfInBounds_toArray, List.set_cons_zero, List.set_cons_succ, Nat.reduceAdd]
  refine Facts.Lex.know [] (fun x w => Two (Lib.compareInt v v2) (Lib.compareInt (c.toNat : Int) (c2.toNat : Int)) x w) (by kernel_rfl) (fun _ _ _ h hg => h.grow hg) ?_ ?_
  · intro u W hC _
    unfold Facts.one
    go_simp
    exact ⟨by unfold Grew; go_grown, ⟨_, rfl, by go_simp, by go_simp⟩⟩
  simp only [Act.put, List.setIfInBounds_toArray, List.set_cons_zero, List.set_cons_succ, Nat.reduceAdd]
  apply Facts.Lex.exact [10] _ (by kernel_rfl)
  · intro u W hC hK
    obtain ⟨A, hu, h1, h2⟩ := hK.1
    unfold Facts.one
    go_simp
    refine (or_any _ _ W A h1 h2).mono ?_
    rintro e w' ⟨rfl, rfl⟩
    exact ⟨_, rfl, Grew.refl _, rfl⟩
  simp only [Act.put, List.setIfInBounds_toArray, List.set_cons_zero, List.set_cons_succ, Nat.reduceAdd]
  repeat
    apply Facts.Lex.exact [] _ (by kernel_rfl)
    · intro u W hC _
      have j0 := cellG hC k0
      have j1 := cellG hC k1
      have j2 := cellG hC k2
      have j3 := cellG hC k3
      unfold Facts.one
      go_simp
      first | exact ⟨Grew.refl _, rfl⟩ | rfl
    simp only [Act.put, List.setIfInBounds_toArray, List.set_cons_zero, List.set_cons_succ, Nat.reduceAdd]
  refine Facts.Lex.done fun u W2 hC hL => ?_
  have G2 := Lib.hid (hG.trans hC)
  clear hC hL k0 k1 k2 k3 hG
  go_wp2
  go_returns
  exact ⟨rfl, G2.out⟩
end Go.Proofs.YtmegdgeiikhflaaGreat.Plain
