/-
  The document's own answers on labels: whether a compartment is in one, at or below, both together, what they share, the order, the compartments.
  Conditions: none beyond those that each lemma names.
-/
import Derived.Test.YtekodmnhheejkaaDoorLat
import Derived.Test.YtekodmnhheejkaaDoorText
import Derived.Test.YtekodmnhheejkaaDoorNums
namespace Go.Proofs.YtekodmnhheejkaaDoor.Refs
open Go Go.RowKit Go.Lib Go.Proofs.YtekodmnhheejkaaDoor Go.Proofs.YtekodmnhheejkaaDoor.Facts Go.Proofs.YtekodmnhheejkaaDoor.Plain Go.Proofs.YtekodmnhheejkaaDoor.Comps Go.Proofs.YtekodmnhheejkaaDoor.Text Go.Proofs.YtekodmnhheejkaaDoor.Lat Go.Proofs.YtekodmnhheejkaaDoor.Nums

theorem odd_at (n i : Nat) : ((n : Int) / 2 ^ i).tmod 2 = ((n.testBit i).toNat : Int) := by
  have e : n / 2 ^ i % 2 = (n.testBit i).toNat := by
    rw [Nat.testBit_eq_decide_div_mod_eq]
    have := Nat.mod_lt (n / 2 ^ i) (show 0 < 2 by omega)
    by_cases h : n / 2 ^ i % 2 = 1
    · simp [h]
    · simp [show n / 2 ^ i % 2 = 0 by omega]
  rw [← e, Int.tmod_eq_emod_of_nonneg (Int.ediv_nonneg (by omega) (Int.le_of_lt (Int.pow_pos (by omega))))]
  simp

theorem has_any (v : Int) (c : BitVec 64) (k : Nat) (hk : k < 64) (w : World) : Calls Tryd.prog 32 #[.agg #[.int .i64 v, .int .u64 (c.toNat : Int)], .int .i64 k] w fun e w' => e = .returned (.bool (c.getLsbD k)) ∧ Grew w w' := by
  have HO : Hid (((c.toNat : Int) / 2 ^ k).tmod 2 = ((c.getLsbD k).toNat : Int)) := Lib.hid (odd_at c.toNat k)
  go_enter Tryd.func32, Tryd.ntmps32
  go_wp2
  go_returns
  refine ⟨?_, by unfold Grew; go_grown⟩
  rw [HO.out]
  cases c.getLsbD k <;> rfl

theorem rright_any (v : Int) (c : BitVec 64) (w : World) : Calls Tryd.prog 13 #[.agg #[.int .i64 v, .int .u64 (c.toNat : Int)]] w fun e w' => e = .returned (.bool (may v)) ∧ Grew w w' := by
  unfold may
  by_cases h0 : v = 0
  · subst h0
    go_enter Tryd.func13, Tryd.ntmps13
    go_wp2
    go_returns
    exact ⟨rfl, by unfold Grew; go_grown⟩
  by_cases h1 : v = 1
  · subst h1
    go_enter Tryd.func13, Tryd.ntmps13
    go_wp2
    go_returns
    exact ⟨rfl, by unfold Grew; go_grown⟩
  by_cases h2 : v = 2
  · subst h2
    go_enter Tryd.func13, Tryd.ntmps13
    go_wp2
    go_returns
    exact ⟨rfl, by unfold Grew; go_grown⟩
  by_cases h3 : v = 3
  · subst h3
    go_enter Tryd.func13, Tryd.ntmps13
    go_wp2
    go_returns
    exact ⟨rfl, by unfold Grew; go_grown⟩
  have e : (decide (0 ≤ v) && decide (v < 4)) = false := by
    rw [Bool.and_eq_false_iff, decide_eq_false_iff_not, decide_eq_false_iff_not]
    omega
  rw [e]
  have b0 : (v == 0) = false := by simpa using h0
  have b1 : (v == 1) = false := by simpa using h1
  have b2 : (v == 2) = false := by simpa using h2
  have b3 : (v == 3) = false := by simpa using h3
  clear e
  go_enter Tryd.func13, Tryd.ntmps13
  go_wp2
  go_returns
  exact ⟨rfl, by unfold Grew; go_grown⟩

/-- The compartments below k. -/
def low (c : BitVec 64) (k : Nat) : BitVec 64 := BitVec.ofNat 64 (c.toNat % 2 ^ k)
theorem low_bit (c : BitVec 64) (k i : Nat) : (low c k).getLsbD i = (decide (i < k) && c.getLsbD i) := by
  unfold low
  rw [BitVec.getLsbD_ofNat, Nat.testBit_mod_two_pow]
  by_cases hi : i < 64
  · rw [decide_eq_true hi, Bool.true_and]; rfl
  · rw [decide_eq_false hi, Bool.false_and, BitVec.getLsbD_of_ge c i (by omega), Bool.and_false]
theorem low_zero (c : BitVec 64) : low c 0 = 0#64 := by
  apply BitVec.eq_of_getLsbD_eq
  intro i hi
  rw [low_bit]
  simp
theorem low_all (c : BitVec 64) : low c 64 = c := by
  apply BitVec.eq_of_getLsbD_eq
  intro i hi
  rw [low_bit, decide_eq_true hi, Bool.true_and]
theorem low_yes (c : BitVec 64) (k : Nat) (hk : k < 64) (h : c.getLsbD k = true) : low c k ||| BitVec.twoPow 64 k = low c (k + 1) := by
  apply BitVec.eq_of_getLsbD_eq
  intro i hi
  rw [BitVec.getLsbD_or, low_bit, low_bit, BitVec.getLsbD_twoPow]
  by_cases e : k = i
  · subst e
    simp [h, hi]
  · by_cases hl : i < k
    · simp [hl, show i < k + 1 by omega, e]
    · simp [hl, show ¬ i < k + 1 by omega, e]
theorem low_no (c : BitVec 64) (k : Nat) (h : c.getLsbD k = false) : low c (k + 1) = low c k := by
  apply BitVec.eq_of_getLsbD_eq
  intro i hi
  rw [low_bit, low_bit]
  by_cases e : i = k
  · subst e
    rw [h, Bool.and_false, Bool.and_false]
  · by_cases hl : i < k
    · simp [hl, show i < k + 1 by omega]
    · simp [hl, show ¬ i < k + 1 by omega]
theorem low_clear (c : BitVec 64) (k : Nat) : (low c k).getLsbD k = false := by rw [low_bit]; simp
theorem add_bit (c : BitVec 64) (k : Nat) (hk : k < 64) (h : c.getLsbD k = false) : IntKind.u64.wrap ((c.toNat : Int) + 2 ^ k) = ((c ||| BitVec.twoPow 64 k).toNat : Int) := by
  have e : c &&& BitVec.twoPow 64 k = 0#64 := by
    apply BitVec.eq_of_getLsbD_eq
    intro i hi
    rw [BitVec.getLsbD_and, BitVec.getLsbD_twoPow, BitVec.getLsbD_zero]
    by_cases e : k = i
    · subst e; rw [h]; rfl
    · simp [e]
  rw [← BitVec.add_eq_or_of_and_eq_zero _ _ e, BitVec.toNat_add, BitVec.toNat_twoPow, IntKind.wrap_u64]
  have h1 : 2 ^ k < 18446744073709551616 := by
    have := Nat.pow_lt_pow_right (show 1 < 2 by omega) hk
    simpa using this
  have h2 : ((2 ^ k : Nat) : Int) = (2 : Int) ^ k := by simp
  rw [← h2]
  generalize 2 ^ k = q at *
  simp

theorem keepB {w w' : World} {B : Nat} {o : Obj} (h : w.heap[B]? = some o) (hg : Grew w w') : w'.heap[B]? = some o := (hg.block _ (Array.getElem?_eq_some_iff.1 h).1).trans h
theorem cellB {w w' : World} {a : Addr} {v : Value} (hg : Grew w w') (h : w.cell? a = some v) : w'.cell? a = some v :=
  (hg.cell (World.block_lt_of_cell? _ _ h)).trans h

set_option maxRecDepth 100000 in
/-- A label with a compartment more, that it has not. -/
theorem with_any (v : Int) (c : BitVec 64) (k : Nat) (hk : k < 64) (hc : c.getLsbD k = false) (w : World) : Calls Tryd.prog 33 #[.agg #[.int .i64 v, .int .u64 (c.toNat : Int)], .int .i64 k] w fun e w' => e = .returned (.agg #[.int .i64 v, .int .u64 ((c ||| BitVec.twoPow 64 k).toNat : Int)]) ∧ Grew w w' := by
  have HH : Hid (∀ W, Calls Tryd.prog 32 #[.agg #[.int .i64 v, .int .u64 (c.toNat : Int)], .int .i64 k] W fun e w' => e = .returned (.bool false) ∧ Grew W w') := Lib.hid fun W => by
    have := has_any v c k hk W
    rwa [hc] at this
  have HA := Lib.hid (add_bit c k hk hc)
  generalize c ||| BitVec.twoPow 64 k = d at *
  have hw : IntKind.u64.wrap ((2 : Int) ^ k) = (2 : Int) ^ k := by
    rw [IntKind.wrap_u64]
    have h1 : 2 ^ k < 18446744073709551616 := by
      have := Nat.pow_lt_pow_right (show 1 < 2 by omega) hk
      simpa using this
    have h2 : ((2 ^ k : Nat) : Int) = (2 : Int) ^ k := by simp
    rw [← h2]
    generalize 2 ^ k = q at *
    omega
  have HW := Lib.hid hw
  clear hc hw
  go_enter Tryd.func33, Tryd.ntmps33
  go_wp2_with fail
  refine (HH.out _).mono ?_
  rintro e w1 ⟨rfl, hg⟩
  have A0 : (((w.alloc (Obj.cells #[Value.int IntKind.i64 v, Value.int IntKind.u64 (c.toNat : Int)] 24)).alloc (Obj.cells #[Value.int IntKind.i64 0, Value.int IntKind.u64 0] 24))).heap[w.heap.size]? = some (.cells #[.int .i64 v, .int .u64 (c.toNat : Int)] 24 (0, 0)) := heap_alloc2_old w _ _
  have R0 : (((w.alloc (Obj.cells #[Value.int IntKind.i64 v, Value.int IntKind.u64 (c.toNat : Int)] 24)).alloc (Obj.cells #[Value.int IntKind.i64 0, Value.int IntKind.u64 0] 24))).heap[w.heap.size + 1]? = some (.cells #[.int .i64 0, .int .u64 0] 24 (0, 0)) := heap_alloc2_new w _ _
  have A1 := keepB A0 hg
  have R1 := keepB R0 hg
  have hG : Grew w w1 := Grew.trans (b := (w.alloc (Obj.cells #[Value.int IntKind.i64 v, Value.int IntKind.u64 (c.toNat : Int)] 24)).alloc (Obj.cells #[Value.int IntKind.i64 0, Value.int IntKind.u64 0] 24)) (by unfold Grew; go_grown) hg
  have HG := Lib.hid hG
  obtain ⟨a0, a1, a2, a3⟩ := lab_cells A1
  obtain ⟨r0, r1, r2, r3⟩ := lab_cells R1
  clear hg A0 R0 hG
  have hS : (w1.setCell ⟨w.heap.size, 1, none⟩ (.int .u64 (d.toNat : Int))).heap[w.heap.size + 1]? = some (.cells #[.int .i64 0, .int .u64 0] 24 (0, 0)) :=
    (heap_setCell_other _ _ _ _ (by show w.heap.size + 1 ≠ w.heap.size; omega)).trans R1
  obtain ⟨b0, b1, b2⟩ := lab_store hS
  have HB := Lib.hid b2
  have B0 := Lib.hid b0
  have B1 := Lib.hid b1
  have hwp : IntKind.u64.wrap ((2 : Int) ^ k) = (2 : Int) ^ k := HW.out
  have hwa : IntKind.u64.wrap ((c.toNat : Int) + 2 ^ k) = (d.toNat : Int) := HA.out
  clear A1 R1 hS b0 b1 b2
  go_wp2
  have b0 := B0.out
  have b1 := B1.out
  refine bodyPost_ret (by simp [results, Tryd.results33, go_sem, b0, b1]; try rfl) rfl ⟨rfl, ?_⟩
  exact (((show Below w.heap.size w w1 from HG.out).setCell (p := ⟨w.heap.size, 1, none⟩) (Nat.le_refl _) _).setCell (p := ⟨w.heap.size + 1, 0, none⟩) (by show w.heap.size ≤ w.heap.size + 1; omega) _).setCell (p := ⟨w.heap.size + 1, 1, none⟩) (by show w.heap.size ≤ w.heap.size + 1; omega) _

theorem le_end (v : Int) (c : BitVec 64) (v2 : Int) (c2 : BitVec 64) (h : ∀ j, j < 64 → c.getLsbD j = true → c2.getLsbD j = true) : le v c v2 c2 = decide (v ≤ v2) := by
  rw [Bool.eq_iff_iff, le_iff, decide_eq_true_iff]
  exact ⟨fun h => h.1, fun h1 => ⟨h1, fun i hi => h i (BitVec.lt_of_getLsbD hi) hi⟩⟩
theorem le_no (v : Int) (c : BitVec 64) (v2 : Int) (c2 : BitVec 64) (j : Nat) (h1 : c.getLsbD j = true) (h2 : c2.getLsbD j = false) : le v c v2 c2 = false := by
  rw [← Bool.not_eq_true, le_iff]
  rintro ⟨_, h⟩
  rw [h j h1] at h2
  cases h2

set_option maxRecDepth 100000 in
theorem rleq_any (v : Int) (c : BitVec 64) (v2 : Int) (c2 : BitVec 64) (w : World) : Calls Tryd.prog 15 #[.agg #[.int .i64 v, .int .u64 (c.toNat : Int)], .agg #[.int .i64 v2, .int .u64 (c2.toNat : Int)]] w fun e w' => e = .returned (.bool (le v c v2 c2)) ∧ Grew w w' := by
  have HE := Lib.hid (le_end v c v2 c2)
  have HN := Lib.hid (le_no v c v2 c2)
  generalize le v c v2 c2 = r at *
  have A0 : (((w.alloc (Obj.cells #[Value.int IntKind.i64 v, Value.int IntKind.u64 (c.toNat : Int)] 24)).alloc (Obj.cells #[Value.int IntKind.i64 v2, Value.int IntKind.u64 (c2.toNat : Int)] 24))).heap[w.heap.size]? = some (.cells #[.int .i64 v, .int .u64 (c.toNat : Int)] 24 (0, 0)) := heap_alloc2_old w _ _
  have R0 : (((w.alloc (Obj.cells #[Value.int IntKind.i64 v, Value.int IntKind.u64 (c.toNat : Int)] 24)).alloc (Obj.cells #[Value.int IntKind.i64 v2, Value.int IntKind.u64 (c2.toNat : Int)] 24))).heap[w.heap.size + 1]? = some (.cells #[.int .i64 v2, .int .u64 (c2.toNat : Int)] 24 (0, 0)) := heap_alloc2_new w _ _
  have hG0 : Grew w ((w.alloc (Obj.cells #[Value.int IntKind.i64 v, Value.int IntKind.u64 (c.toNat : Int)] 24)).alloc (Obj.cells #[Value.int IntKind.i64 v2, Value.int IntKind.u64 (c2.toNat : Int)] 24)) := by unfold Grew; go_grown
  have HA := Lib.hid A0
  have HR := Lib.hid R0
  have HG0 := Lib.hid hG0
  clear A0 R0 hG0
  go_enter Tryd.func15, Tryd.ntmps15
  go_wp2
  go_loopg [5] 64 (fun g s5 wx => ∃ k : Nat, k + g = 64 ∧ s5 = .int .i64 k ∧ Hid (∀ j, j < k → c.getLsbD j = true → c2.getLsbD j = true) ∧ Hid (Grew ((w.alloc (Obj.cells #[Value.int IntKind.i64 v, Value.int IntKind.u64 (c.toNat : Int)] 24)).alloc (Obj.cells #[Value.int IntKind.i64 v2, Value.int IntKind.u64 (c2.toNat : Int)] 24)) wx))
  case atStart => exact ⟨0, by omega, rfl, Lib.hid (fun j hj => absurd hj (by omega)), Lib.hid (Grew.refl _)⟩
  case round =>
    obtain ⟨k, hkg, rfl, HI, HG⟩ := hrel
    obtain ⟨a0, a1, _, _⟩ := lab_cells (keepB HA.out HG.out)
    obtain ⟨r0, r1, _, _⟩ := lab_cells (keepB HR.out HG.out)
    cases gk with
    | zero =>
      have hkz : ¬ ((k : Int) < 64) := by omega
      have HX := Lib.hid (HE.out fun j hj => HI.out j (by omega))
      go_wp2
      go_returns
      refine ⟨?_, HG0.out.trans HG.out⟩
      rw [HX.out]
      try rfl
    | succ g =>
      have hkz : (k : Int) < 64 := by omega
      have H1 : Hid (∀ W, Calls Tryd.prog 32 #[.agg #[.int .i64 v, .int .u64 (c.toNat : Int)], .int .i64 k] W fun e w' => e = .returned (.bool (c.getLsbD k)) ∧ Grew W w') := Lib.hid (has_any v c k (by omega))
      have H2 : Hid (∀ W, Calls Tryd.prog 32 #[.agg #[.int .i64 v2, .int .u64 (c2.toNat : Int)], .int .i64 k] W fun e w' => e = .returned (.bool (c2.getLsbD k)) ∧ Grew W w') := Lib.hid (has_any v2 c2 k (by omega))
      have HS : Hid ((c.getLsbD k = true → c2.getLsbD k = true) → ∀ j, j < k + 1 → c.getLsbD j = true → c2.getLsbD j = true) := Lib.hid fun h j hj => by
        by_cases e : j = k
        · subst e; exact h
        · exact HI.out j (by omega)
      have HF := Lib.hid (HN.out k)
      generalize c.getLsbD k = p at H1 HS HF
      generalize c2.getLsbD k = q at H2 HS HF
      cases p with
      | false =>
        have HT := Lib.hid (HS.out (fun h => by cases h))
        go_wp2_with fail
        refine (H1.out _).mono ?_
        rintro e w1 ⟨rfl, hg⟩
        have HG2 := Lib.hid (HG.out.trans hg)
        clear hg a0 a1 r0 r1
        go_wp2
        go_roundg g
        case measure => omega
        case rel => exact ⟨k + 1, by omega, by first | rfl | simp, HT, HG2⟩
      | true =>
        cases q with
        | true =>
          have HT := Lib.hid (HS.out (fun _ => rfl))
          go_wp2_with fail
          refine (H1.out _).mono ?_
          rintro e w1 ⟨rfl, hg⟩
          have HG2 := Lib.hid (HG.out.trans hg)
          have hr0 := cellB hg r0
          have hr1 := cellB hg r1
          clear hg a0 a1 r0 r1
          go_wp2_with fail
          refine (H2.out _).mono ?_
          rintro e w2 ⟨rfl, hg⟩
          have HG3 := Lib.hid (HG2.out.trans hg)
          clear hg hr0 hr1
          go_wp2
          go_roundg g
          case measure => omega
          case rel => exact ⟨k + 1, by omega, by first | rfl | simp, HT, HG3⟩
        | false =>
          have HX := Lib.hid (HF.out rfl rfl)
          go_wp2_with fail
          refine (H1.out _).mono ?_
          rintro e w1 ⟨rfl, hg⟩
          have HG2 := Lib.hid (HG.out.trans hg)
          have hr0 := cellB hg r0
          have hr1 := cellB hg r1
          clear hg a0 a1 r0 r1
          go_wp2_with fail
          refine (H2.out _).mono ?_
          rintro e w2 ⟨rfl, hg⟩
          have HG3 := Lib.hid (HG2.out.trans hg)
          clear hg hr0 hr1
          go_wp2
          go_returns
          refine ⟨?_, HG0.out.trans HG3.out⟩
          rw [HX.out]
          try rfl
end Go.Proofs.YtekodmnhheejkaaDoor.Refs
