/-
  The document's own answers on labels: whether a compartment is in one, whether a label may be, at or below, the order.
  Conditions: none beyond those that each lemma names.
-/
import Derived.Test.YtmegdgeiikhflaaGreatLBox
import Derived.Test.YtmegdgeiikhflaaGreatLat
import Derived.WalkMore
import Derived.BigFrame
namespace Go.Proofs.YtmegdgeiikhflaaGreat.LRefs
set_option maxRecDepth 100000
set_option maxRecDepth 100000
open Go Go.RowKit Go.Lib Go.Proofs.YtmegdgeiikhflaaGreat Go.Proofs.YtmegdgeiikhflaaGreat.Facts Go.Proofs.YtmegdgeiikhflaaGreat.Plain Go.Proofs.YtmegdgeiikhflaaGreat.Lat Go.Proofs.YtmegdgeiikhflaaGreat.LBox

theorem odd_at (n i : Nat) : ((n : Int) / 2 ^ i).tmod 2 = ((n.testBit i).toNat : Int) := by
  have e : n / 2 ^ i % 2 = (n.testBit i).toNat := by
    rw [Nat.testBit_eq_decide_div_mod_eq]
    have := Nat.mod_lt (n / 2 ^ i) (show 0 < 2 by omega)
    by_cases h : n / 2 ^ i % 2 = 1
    · simp [h]
    · simp [show n / 2 ^ i % 2 = 0 by omega]
  rw [← e, Int.tmod_eq_emod_of_nonneg (Int.ediv_nonneg (by omega) (Int.le_of_lt (Int.pow_pos (by omega))))]
  simp

theorem has_any (v : Int) (c : BitVec 64) (k : Nat) (hk : k < 64) (w : World) : Calls Tryz.prog 65 #[.agg #[.int .i64 v, .int .u64 (c.toNat : Int)], .int .i64 k] w fun e w' => e = .returned (.bool (c.getLsbD k)) ∧ Grew w w' := by
  have HO : Hid (((c.toNat : Int) / 2 ^ k).tmod 2 = ((c.getLsbD k).toNat : Int)) := Lib.hid (odd_at c.toNat k)
  go_enter Tryz.func65, Tryz.ntmps65
  go_wp2
  go_returns
  refine ⟨?_, by unfold Grew; go_grown⟩
  rw [HO.out]
  cases c.getLsbD k <;> rfl

theorem rright_any (v : Int) (c : BitVec 64) (w : World) : Calls Tryz.prog 127 #[.agg #[.int .i64 v, .int .u64 (c.toNat : Int)]] w fun e w' => e = .returned (.bool (may v)) ∧ Grew w w' := by
  unfold may
  by_cases h0 : v = 0
  · subst h0
    go_enter Tryz.func127, Tryz.ntmps127
    go_wp2
    go_returns
    exact ⟨rfl, by unfold Grew; go_grown⟩
  by_cases h1 : v = 1
  · subst h1
    go_enter Tryz.func127, Tryz.ntmps127
    go_wp2
    go_returns
    exact ⟨rfl, by unfold Grew; go_grown⟩
  by_cases h2 : v = 2
  · subst h2
    go_enter Tryz.func127, Tryz.ntmps127
    go_wp2
    go_returns
    exact ⟨rfl, by unfold Grew; go_grown⟩
  by_cases h3 : v = 3
  · subst h3
    go_enter Tryz.func127, Tryz.ntmps127
    go_wp2
    go_returns
    exact ⟨rfl, by unfold Grew; go_grown⟩
  have e : (decide (0 ≤ v) && decide (v < 4)) = false := by
    rw [Bool.and_eq_false_iff, decide_eq_false_iff_not, decide_eq_false_iff_not]
    omega
  rw [e]
  have b0 : (v == 0) = false := by simpa using h0
  have b1 : (v == 1) = false := by simpa using h1
  have b2 : (v == 2) = false := by simpa using h2
  have b3 : (v == 3) = false := by simpa using h3
  clear e
  go_enter Tryz.func127, Tryz.ntmps127
  go_wp2
  go_returns
  exact ⟨rfl, by unfold Grew; go_grown⟩

theorem le_end (v : Int) (c : BitVec 64) (v2 : Int) (c2 : BitVec 64) (h : ∀ j, j < 64 → c.getLsbD j = true → c2.getLsbD j = true) : le v c v2 c2 = decide (v ≤ v2) := by
  rw [Bool.eq_iff_iff, le_iff, decide_eq_true_iff]
  exact ⟨fun h => h.1, fun h1 => ⟨h1, fun i hi => h i (BitVec.lt_of_getLsbD hi) hi⟩⟩
theorem le_no (v : Int) (c : BitVec 64) (v2 : Int) (c2 : BitVec 64) (j : Nat) (h1 : c.getLsbD j = true) (h2 : c2.getLsbD j = false) : le v c v2 c2 = false := by
  rw [← Bool.not_eq_true, le_iff]
  rintro ⟨_, h⟩
  rw [h j h1] at h2
  cases h2

set_option maxRecDepth 100000 in
theorem rleq_any (v : Int) (c : BitVec 64) (v2 : Int) (c2 : BitVec 64) (w : World) : Calls Tryz.prog 62 #[.agg #[.int .i64 v, .int .u64 (c.toNat : Int)], .agg #[.int .i64 v2, .int .u64 (c2.toNat : Int)]] w fun e w' => e = .returned (.bool (le v c v2 c2)) ∧ Grew w w' := by
  have HE := Lib.hid (le_end v c v2 c2)
  have HN := Lib.hid (le_no v c v2 c2)
  generalize le v c v2 c2 = r at *
  have A0 : (((w.alloc (Obj.cells #[Value.int IntKind.i64 v, Value.int IntKind.u64 (c.toNat : Int)] 31)).alloc (Obj.cells #[Value.int IntKind.i64 v2, Value.int IntKind.u64 (c2.toNat : Int)] 31))).heap[w.heap.size]? = some (.cells #[.int .i64 v, .int .u64 (c.toNat : Int)] 31 (0, 0)) := heap_alloc2_old w _ _
  have R0 : (((w.alloc (Obj.cells #[Value.int IntKind.i64 v, Value.int IntKind.u64 (c.toNat : Int)] 31)).alloc (Obj.cells #[Value.int IntKind.i64 v2, Value.int IntKind.u64 (c2.toNat : Int)] 31))).heap[w.heap.size + 1]? = some (.cells #[.int .i64 v2, .int .u64 (c2.toNat : Int)] 31 (0, 0)) := heap_alloc2_new w _ _
  have hG0 : Grew w ((w.alloc (Obj.cells #[Value.int IntKind.i64 v, Value.int IntKind.u64 (c.toNat : Int)] 31)).alloc (Obj.cells #[Value.int IntKind.i64 v2, Value.int IntKind.u64 (c2.toNat : Int)] 31)) := by unfold Grew; go_grown
  have HA := Lib.hid A0
  have HR := Lib.hid R0
  have HG0 := Lib.hid hG0
  clear A0 R0 hG0
  go_enter Tryz.func62, Tryz.ntmps62
  go_wp2
  go_loopg [5] 64 (fun g s5 wx => ∃ k : Nat, k + g = 64 ∧ s5 = .int .i64 k ∧ Hid (∀ j, j < k → c.getLsbD j = true → c2.getLsbD j = true) ∧ Hid (Grew ((w.alloc (Obj.cells #[Value.int IntKind.i64 v, Value.int IntKind.u64 (c.toNat : Int)] 31)).alloc (Obj.cells #[Value.int IntKind.i64 v2, Value.int IntKind.u64 (c2.toNat : Int)] 31)) wx))
  case atStart => exact ⟨0, by omega, rfl, Lib.hid (fun j hj => absurd hj (by omega)), Lib.hid (Grew.refl _)⟩
  case round =>
    obtain ⟨k, hkg, rfl, HI, HG⟩ := hrel
    obtain ⟨a0, a1, _, _⟩ := lab_cells (keepB HA.out HG.out)
    obtain ⟨r0, r1, _, _⟩ := lab_cells (keepB HR.out HG.out)
    cases gk with
    | zero =>
      have hkz : ¬ ((k : Int) < 64) := by omega
      have HX := Lib.hid (HE.out fun j hj => HI.out j (by omega))
      go_wp2
      go_returns
      refine ⟨?_, HG0.out.trans HG.out⟩
      rw [HX.out]
      try rfl
    | succ g =>
      have hkz : (k : Int) < 64 := by omega
      have H1 : Hid (∀ W, Calls Tryz.prog 65 #[.agg #[.int .i64 v, .int .u64 (c.toNat : Int)], .int .i64 k] W fun e w' => e = .returned (.bool (c.getLsbD k)) ∧ Grew W w') := Lib.hid (has_any v c k (by omega))
      have H2 : Hid (∀ W, Calls Tryz.prog 65 #[.agg #[.int .i64 v2, .int .u64 (c2.toNat : Int)], .int .i64 k] W fun e w' => e = .returned (.bool (c2.getLsbD k)) ∧ Grew W w') := Lib.hid (has_any v2 c2 k (by omega))
      have HS : Hid ((c.getLsbD k = true → c2.getLsbD k = true) → ∀ j, j < k + 1 → c.getLsbD j = true → c2.getLsbD j = true) := Lib.hid fun h j hj => by
        by_cases e : j = k
        · subst e; exact h
        · exact HI.out j (by omega)
      have HF := Lib.hid (HN.out k)
      generalize c.getLsbD k = p at H1 HS HF
      generalize c2.getLsbD k = q at H2 HS HF
      cases p with
      | false =>
        have HT := Lib.hid (HS.out (fun h => by cases h))
        go_wp2_with fail
        refine (H1.out _).mono ?_
        rintro e w1 ⟨rfl, hg⟩
        have HG2 := Lib.hid (HG.out.trans hg)
        clear hg a0 a1 r0 r1
        go_wp2
        go_roundg g
        case measure => omega
        case rel => exact ⟨k + 1, by omega, by first | rfl | simp, HT, HG2⟩
      | true =>
        cases q with
        | true =>
          have HT := Lib.hid (HS.out (fun _ => rfl))
          go_wp2_with fail
          refine (H1.out _).mono ?_
          rintro e w1 ⟨rfl, hg⟩
          have HG2 := Lib.hid (HG.out.trans hg)
          have hr0 := cellB hg r0
          have hr1 := cellB hg r1
          clear hg a0 a1 r0 r1
          go_wp2_with fail
          refine (H2.out _).mono ?_
          rintro e w2 ⟨rfl, hg⟩
          have HG3 := Lib.hid (HG2.out.trans hg)
          clear hg hr0 hr1
          go_wp2
          go_roundg g
          case measure => omega
          case rel => exact ⟨k + 1, by omega, by first | rfl | simp, HT, HG3⟩
        | false =>
          have HX := Lib.hid (HF.out rfl rfl)
          go_wp2_with fail
          refine (H1.out _).mono ?_
          rintro e w1 ⟨rfl, hg⟩
          have HG2 := Lib.hid (HG.out.trans hg)
          have hr0 := cellB hg r0
          have hr1 := cellB hg r1
          clear hg a0 a1 r0 r1
          go_wp2_with fail
          refine (H2.out _).mono ?_
          rintro e w2 ⟨rfl, hg⟩
          have HG3 := Lib.hid (HG2.out.trans hg)
          clear hg hr0 hr1
          go_wp2
          go_returns
          refine ⟨?_, HG0.out.trans HG3.out⟩
          rw [HX.out]
          try rfl
theorem order_cases (v v2 : Int) (c c2 : BitVec 64) : (v < v2 ∧ order v c v2 c2 = -1) ∨ (v = v2 ∧ c.toNat < c2.toNat ∧ order v c v2 c2 = -1) ∨ (v = v2 ∧ c = c2 ∧ order v c v2 c2 = 0) ∨ (v = v2 ∧ c2.toNat < c.toNat ∧ order v c v2 c2 = 1) ∨ (v2 < v ∧ order v c v2 c2 = 1) := by
  have e : c = c2 ↔ c.toNat = c2.toNat := BitVec.toNat_inj.symm
  rw [e]
  unfold order pick compareInt
  repeat' split
  all_goals omega

set_option maxRecDepth 100000 in
theorem rcmp_any (v : Int) (c : BitVec 64) (v2 : Int) (c2 : BitVec 64) (w : World) : Calls Tryz.prog 128 #[.agg #[.int .i64 v, .int .u64 (c.toNat : Int)], .agg #[.int .i64 v2, .int .u64 (c2.toNat : Int)]] w fun e w' => e = .returned (.int .i64 (order v c v2 c2)) ∧ Grew w w' := by
  rcases order_cases v v2 c c2 with ⟨h, e⟩ | ⟨rfl, h, e⟩ | ⟨rfl, rfl, e⟩ | ⟨rfl, h, e⟩ | ⟨h, e⟩
  · rw [e]
    clear e
    go_enter Tryz.func128, Tryz.ntmps128
    go_wp2
    go_returns
    exact ⟨rfl, by unfold Grew; go_grown⟩
  · rw [e]
    clear e
    have h1 : (c.toNat : Int) < (c2.toNat : Int) := by omega
    have h2 : ¬ v < v := by omega
    go_enter Tryz.func128, Tryz.ntmps128
    go_wp2
    go_returns
    exact ⟨rfl, by unfold Grew; go_grown⟩
  · rw [e]
    clear e
    have h2 : ¬ v < v := by omega
    go_enter Tryz.func128, Tryz.ntmps128
    go_wp2
    go_returns
    exact ⟨rfl, by unfold Grew; go_grown⟩
  · rw [e]
    clear e
    have h1 : decide (c.toNat < c2.toNat) = false := decide_eq_false (by omega)
    have h3 : (c == c2) = false := by rw [beq_eq_false_iff_ne]; intro e; rw [e] at h; omega
    have h4 : ¬ c.toNat = c2.toNat := by omega
    have h5 : ((c.toNat : Int) == (c2.toNat : Int)) = false := by rw [beq_eq_false_iff_ne]; omega
    go_enter Tryz.func128, Tryz.ntmps128
    go_wp2
    go_returns
    exact ⟨rfl, by unfold Grew; go_grown⟩
  · rw [e]
    clear e
    have h1 : decide (v < v2) = false := decide_eq_false (by omega)
    have h4 : ¬ v = v2 := by omega
    have h5 : (v == v2) = false := by rw [beq_eq_false_iff_ne]; omega
    go_enter Tryz.func128, Tryz.ntmps128
    go_wp2
    go_returns
    exact ⟨rfl, by unfold Grew; go_grown⟩

end Go.Proofs.YtmegdgeiikhflaaGreat.LRefs
