/-
  Of any two labels all is told: LabelTells answers true.
  Conditions: the library's variables lie as the program's text lays them.
-/
import Derived.Test.YtekodmnhheejkaaDoorAlive
import Derived.Test.YtekodmnhheejkaaDoorRefs3
namespace Go.Proofs.YtekodmnhheejkaaDoor.TellsLaw
open Go Go.RowKit Go.Lib Go.Proofs.YtekodmnhheejkaaDoor Go.Proofs.YtekodmnhheejkaaDoor.Facts Go.Proofs.YtekodmnhheejkaaDoor.Plain Go.Proofs.YtekodmnhheejkaaDoor.Each Go.Proofs.YtekodmnhheejkaaDoor.Comps Go.Proofs.YtekodmnhheejkaaDoor.Text Go.Proofs.YtekodmnhheejkaaDoor.Alive Go.Proofs.YtekodmnhheejkaaDoor.Lat Go.Proofs.YtekodmnhheejkaaDoor.Nums Go.Proofs.YtekodmnhheejkaaDoor.Refs Go.Proofs.YtekodmnhheejkaaDoor.Refs2 Go.Proofs.YtekodmnhheejkaaDoor.Refs3

theorem bits_any (v : Int) (c : BitVec 64) (w : World) (hE : Env w) (hs : 0 < w.heap.size) : Calls Tryd.prog 10 #[.agg #[.int .i64 v, .int .u64 (c.toNat : Int)]] w fun e W' => ∃ x, e = .returned x ∧ Is W' x (nums c) ∧ Grew w W' := by
  refine (callsIn_wide.1 (bits_in v c w hs hE.1)).mono ?_
  rintro e W' ⟨x, rfl, ho, hg⟩
  refine ⟨x, rfl, ?_, hg⟩
  have e : (comps c).map (fun x => Value.int .i64 ((x.1 : Nat) : Int)) = iv (nums c) := by
    unfold iv nums
    rw [List.map_map]
    rfl
  rw [e] at ho
  exact Is.of_own ho (by unfold nums; rw [List.length_map])
theorem nums_one (k : Nat) (hk : k < 64) : nums (BitVec.twoPow 64 k) = [(k : Int)] := by
  rw [← upto_all]
  have h : ∀ j, j ≤ 64 → upto (BitVec.twoPow 64 k) j = if k < j then [(k : Int)] else [] := fun j => by
    induction j with
    | zero => intro _; simp [upto]
    | succ j ih =>
      intro hj
      have ihj := ih (by omega)
      have hb : (BitVec.twoPow 64 k).getLsbD j = decide (k = j) := by
        rw [BitVec.getLsbD_twoPow, decide_eq_true hk, Bool.true_and]
      by_cases e : k = j
      · subst e
        rw [upto_yes _ _ (by rw [hb]; simp), ihj, if_neg (by omega), if_pos (by omega)]
        rfl
      · rw [upto_no _ _ (by rw [hb]; simp [e]), ihj]
        by_cases hl : k < j
        · rw [if_pos hl, if_pos (by omega)]
        · rw [if_neg hl, if_neg (by omega)]
  rw [h 64 (by omega), if_pos hk]
theorem is_one (w : World) (k : Int) : Is (w.alloc (.cells #[.int .i64 k] 3)) (.slice (some ⟨w.heap.size, 0, none⟩) 1 1) [k] := by
  refine ⟨_, 1, rfl, Nat.le_refl _, by decide, (fun h => by cases h), fun ad ha j u hu => ?_⟩
  cases ha
  have hj : j = 0 := by
    have := (List.getElem?_eq_some_iff.1 hu).1
    simpa [iv] using this
  subst hj
  simp only [iv, List.map_cons, List.map_nil, List.getElem?_cons_zero, Option.some.injEq] at hu
  subst hu
  exact World.cell?_alloc_mark _ _ _ _ _

set_option maxRecDepth 100000 in
set_option maxHeartbeats 8000000 in
theorem law_neg (v v2 : Int) (c c2 : BitVec 64) (bit : Int) (hb : ¬ (0 ≤ bit ∧ bit < 64)) (hn : bit < 0) (w : World) (hE : Env w) : Calls Tryd.prog 3 #[.agg #[.int .i64 v, .int .u64 (c.toNat : Int)], .agg #[.int .i64 v2, .int .u64 (c2.toNat : Int)], .int .i64 bit] w fun e W' => e = .returned (.bool true) ∧ Grew w W' := by
  have HE : Hid (∀ W, Grew w W → Env W) := Lib.hid fun W hg => hE.grow hg
  have HRI := Lib.hid (fun W => right_any v c W)
  have HRR := Lib.hid (fun W => rright_any v c W)
  have HLE := Lib.hid (fun W => leq_any v c v2 c2 W)
  have HRL := Lib.hid (fun W => rleq_any v c v2 c2 W)
  have HJO := Lib.hid (fun W => join_any v c v2 c2 W)
  have HRJ := Lib.hid (fun W => rjoin_any v c v2 c2 W)
  have HME := Lib.hid (fun W => meet_any v c v2 c2 W)
  have HRM := Lib.hid (fun W => rmeet_any v c v2 c2 W)
  have HCM := Lib.hid (fun W => cmp_any v c v2 c2 W)
  have HRC := Lib.hid (fun W => rcmp_any v c v2 c2 W)
  generalize may v = r at *
  generalize le v c v2 c2 = p at *
  generalize max v v2 = lj at *
  generalize min v v2 = lm at *
  generalize c ||| c2 = dj at *
  generalize c &&& c2 = dm at *
  generalize order v c v2 c2 = o at *
  have HH := Lib.hid (fun W => hall_any bit W)
  rw [if_neg hb, if_neg hb] at HH
  clear hb
  have A0 : ((w.alloc (Obj.cells #[Value.int IntKind.i64 v, Value.int IntKind.u64 (c.toNat : Int)] 24)).alloc (Obj.cells #[Value.int IntKind.i64 v2, Value.int IntKind.u64 (c2.toNat : Int)] 24)).heap[w.heap.size]? = some (lc v c) := heap_alloc2_old w _ _
  have B0 : ((w.alloc (Obj.cells #[Value.int IntKind.i64 v, Value.int IntKind.u64 (c.toNat : Int)] 24)).alloc (Obj.cells #[Value.int IntKind.i64 v2, Value.int IntKind.u64 (c2.toNat : Int)] 24)).heap[w.heap.size + 1]? = some (lc v2 c2) := heap_alloc2_new w _ _
  have g0 : Grew w ((w.alloc (Obj.cells #[Value.int IntKind.i64 v, Value.int IntKind.u64 (c.toNat : Int)] 24)).alloc (Obj.cells #[Value.int IntKind.i64 v2, Value.int IntKind.u64 (c2.toNat : Int)] 24)) := by unfold Grew; go_grown
  have s0 : 0 < ((w.alloc (Obj.cells #[Value.int IntKind.i64 v, Value.int IntKind.u64 (c.toNat : Int)] 24)).alloc (Obj.cells #[Value.int IntKind.i64 v2, Value.int IntKind.u64 (c2.toNat : Int)] 24)).heap.size := by simp
  have HA := Lib.hid A0
  have HB := Lib.hid B0
  have HG0 := Lib.hid g0
  have HS0 := Lib.hid s0
  clear A0 B0 g0 s0
  go_enter Tryd.func3, Tryd.ntmps3
  go_wp2_with fail
  refine (HH.out _).mono ?_
  rintro e w1 ⟨rfl, hg⟩
  have A1 := Lib.hid (keepB (keepB HA.out hg) (show Grew w1 (w1.alloc (.cells #[.int .i64 0, .int .u64 0] 24)) by unfold Grew; go_grown))
  have B1 := Lib.hid (keepB (keepB HB.out hg) (show Grew w1 (w1.alloc (.cells #[.int .i64 0, .int .u64 0] 24)) by unfold Grew; go_grown))
  have HG := Lib.hid ((HG0.out.trans hg).trans (show Grew w1 (w1.alloc (.cells #[.int .i64 0, .int .u64 0] 24)) by unfold Grew; go_grown))
  have HS : Hid (0 < w1.heap.size) := Lib.hid (by have := hg.size; have := HS0.out; omega)
  clear hg
  go_wp2
  generalize hW : w1.alloc (Obj.cells #[Value.int IntKind.i64 0, Value.int IntKind.u64 0] 24) = W0 at *
  have HS : Hid (0 < W0.heap.size) := Lib.hid (by rw [← hW]; simp)
  clear hW
  have A0 := A1.out
  have B0 := B1.out
  refine Facts.wp_region_text (by kernel_rfl) (by kernel_rfl) ?_
  apply Facts.Lex.exact [] (.bool true) (by kernel_rfl)
  · intro u W hC _
    obtain ⟨x0, x1, _, _⟩ := lab_cells (keepB A0 hC)
    obtain ⟨y0, y1, _, _⟩ := lab_cells (keepB B0 hC)
    unfold Facts.one
    go_simp
    first | exact ⟨Grew.refl _, rfl⟩ | rfl | (refine (alive_any W (HE.out W (HG.out.trans hC))).mono ?_; rintro e w' ⟨rfl, hg⟩; exact ⟨_, rfl, hg, rfl⟩)
  simp only [Act.put, List.setIfInBounds_toArray, List.set_cons_zero, List.set_cons_succ, Nat.reduceAdd]
  apply Facts.Lex.exact [] (.bool true) (by kernel_rfl)
  · intro u W hC _
    obtain ⟨x0, x1, _, _⟩ := lab_cells (keepB A0 hC)
    obtain ⟨y0, y1, _, _⟩ := lab_cells (keepB B0 hC)
    unfold Facts.one
    go_simp
    first | exact ⟨Grew.refl _, rfl⟩ | rfl
  simp only [Act.put, List.setIfInBounds_toArray, List.set_cons_zero, List.set_cons_succ, Nat.reduceAdd]
  apply Facts.Lex.exact [] (.agg #[.int .i64 v, .int .u64 (c.toNat : Int)]) (by kernel_rfl)
  · intro u W hC _
    obtain ⟨x0, x1, _, _⟩ := lab_cells (keepB A0 hC)
    obtain ⟨y0, y1, _, _⟩ := lab_cells (keepB B0 hC)
    unfold Facts.one
    go_simp
    first | exact ⟨Grew.refl _, rfl⟩ | rfl
  simp only [Act.put, List.setIfInBounds_toArray, List.set_cons_zero, List.set_cons_succ, Nat.reduceAdd]
  apply Facts.Lex.exact [] (.bool r) (by kernel_rfl)
  · intro u W hC _
    obtain ⟨x0, x1, _, _⟩ := lab_cells (keepB A0 hC)
    obtain ⟨y0, y1, _, _⟩ := lab_cells (keepB B0 hC)
    unfold Facts.one
    go_simp
    first | exact ⟨Grew.refl _, rfl⟩ | rfl | (refine (HRI.out W).mono ?_; rintro e w' ⟨rfl, hg⟩; exact ⟨_, rfl, hg, rfl⟩)
  simp only [Act.put, List.setIfInBounds_toArray, List.set_cons_zero, List.set_cons_succ, Nat.reduceAdd]
  apply Facts.Lex.exact [] (.agg #[.int .i64 v, .int .u64 (c.toNat : Int)]) (by kernel_rfl)
  · intro u W hC _
    obtain ⟨x0, x1, _, _⟩ := lab_cells (keepB A0 hC)
    obtain ⟨y0, y1, _, _⟩ := lab_cells (keepB B0 hC)
    unfold Facts.one
    go_simp
    first | exact ⟨Grew.refl _, rfl⟩ | rfl
  simp only [Act.put, List.setIfInBounds_toArray, List.set_cons_zero, List.set_cons_succ, Nat.reduceAdd]
  apply Facts.Lex.exact [] (.bool r) (by kernel_rfl)
  · intro u W hC _
    obtain ⟨x0, x1, _, _⟩ := lab_cells (keepB A0 hC)
    obtain ⟨y0, y1, _, _⟩ := lab_cells (keepB B0 hC)
    unfold Facts.one
    go_simp
    first | exact ⟨Grew.refl _, rfl⟩ | rfl | (refine (HRR.out W).mono ?_; rintro e w' ⟨rfl, hg⟩; exact ⟨_, rfl, hg, rfl⟩)
  simp only [Act.put, List.setIfInBounds_toArray, List.set_cons_zero, List.set_cons_succ, Nat.reduceAdd]
  apply Facts.Lex.exact [] (.bool true) (by kernel_rfl)
  · intro u W hC _
    obtain ⟨x0, x1, _, _⟩ := lab_cells (keepB A0 hC)
    obtain ⟨y0, y1, _, _⟩ := lab_cells (keepB B0 hC)
    unfold Facts.one
    go_simp
    first | exact ⟨Grew.refl _, rfl⟩ | rfl
  simp only [Act.put, List.setIfInBounds_toArray, List.set_cons_zero, List.set_cons_succ, Nat.reduceAdd]
  apply Facts.Lex.exact [] (.bool true) (by kernel_rfl)
  · intro u W hC _
    obtain ⟨x0, x1, _, _⟩ := lab_cells (keepB A0 hC)
    obtain ⟨y0, y1, _, _⟩ := lab_cells (keepB B0 hC)
    unfold Facts.one
    go_simp
    first | exact ⟨Grew.refl _, rfl⟩ | rfl
  simp only [Act.put, List.setIfInBounds_toArray, List.set_cons_zero, List.set_cons_succ, Nat.reduceAdd]
  apply Facts.Lex.exact [] (.bool true) (by kernel_rfl)
  · intro u W hC _
    obtain ⟨x0, x1, _, _⟩ := lab_cells (keepB A0 hC)
    obtain ⟨y0, y1, _, _⟩ := lab_cells (keepB B0 hC)
    unfold Facts.one
    go_simp
    first | exact ⟨Grew.refl _, rfl⟩ | rfl
  simp only [Act.put, List.setIfInBounds_toArray, List.set_cons_zero, List.set_cons_succ, Nat.reduceAdd]
  apply Facts.Lex.exact [] (.agg #[.int .i64 v, .int .u64 (c.toNat : Int)]) (by kernel_rfl)
  · intro u W hC _
    obtain ⟨x0, x1, _, _⟩ := lab_cells (keepB A0 hC)
    obtain ⟨y0, y1, _, _⟩ := lab_cells (keepB B0 hC)
    unfold Facts.one
    go_simp
    first | exact ⟨Grew.refl _, rfl⟩ | rfl
  simp only [Act.put, List.setIfInBounds_toArray, List.set_cons_zero, List.set_cons_succ, Nat.reduceAdd]
  apply Facts.Lex.exact [] (.agg #[.int .i64 v2, .int .u64 (c2.toNat : Int)]) (by kernel_rfl)
  · intro u W hC _
    obtain ⟨x0, x1, _, _⟩ := lab_cells (keepB A0 hC)
    obtain ⟨y0, y1, _, _⟩ := lab_cells (keepB B0 hC)
    unfold Facts.one
    go_simp
    first | exact ⟨Grew.refl _, rfl⟩ | rfl
  simp only [Act.put, List.setIfInBounds_toArray, List.set_cons_zero, List.set_cons_succ, Nat.reduceAdd]
  apply Facts.Lex.exact [] (.bool p) (by kernel_rfl)
  · intro u W hC _
    obtain ⟨x0, x1, _, _⟩ := lab_cells (keepB A0 hC)
    obtain ⟨y0, y1, _, _⟩ := lab_cells (keepB B0 hC)
    unfold Facts.one
    go_simp
    first | exact ⟨Grew.refl _, rfl⟩ | rfl | (refine (HLE.out W).mono ?_; rintro e w' ⟨rfl, hg⟩; exact ⟨_, rfl, hg, rfl⟩)
  simp only [Act.put, List.setIfInBounds_toArray, List.set_cons_zero, List.set_cons_succ, Nat.reduceAdd]
  apply Facts.Lex.exact [] (.agg #[.int .i64 v, .int .u64 (c.toNat : Int)]) (by kernel_rfl)
  · intro u W hC _
    obtain ⟨x0, x1, _, _⟩ := lab_cells (keepB A0 hC)
    obtain ⟨y0, y1, _, _⟩ := lab_cells (keepB B0 hC)
    unfold Facts.one
    go_simp
    first | exact ⟨Grew.refl _, rfl⟩ | rfl
  simp only [Act.put, List.setIfInBounds_toArray, List.set_cons_zero, List.set_cons_succ, Nat.reduceAdd]
  apply Facts.Lex.exact [] (.agg #[.int .i64 v2, .int .u64 (c2.toNat : Int)]) (by kernel_rfl)
  · intro u W hC _
    obtain ⟨x0, x1, _, _⟩ := lab_cells (keepB A0 hC)
    obtain ⟨y0, y1, _, _⟩ := lab_cells (keepB B0 hC)
    unfold Facts.one
    go_simp
    first | exact ⟨Grew.refl _, rfl⟩ | rfl
  simp only [Act.put, List.setIfInBounds_toArray, List.set_cons_zero, List.set_cons_succ, Nat.reduceAdd]
  apply Facts.Lex.exact [] (.bool p) (by kernel_rfl)
  · intro u W hC _
    obtain ⟨x0, x1, _, _⟩ := lab_cells (keepB A0 hC)
    obtain ⟨y0, y1, _, _⟩ := lab_cells (keepB B0 hC)
    unfold Facts.one
    go_simp
    first | exact ⟨Grew.refl _, rfl⟩ | rfl | (refine (HRL.out W).mono ?_; rintro e w' ⟨rfl, hg⟩; exact ⟨_, rfl, hg, rfl⟩)
  simp only [Act.put, List.setIfInBounds_toArray, List.set_cons_zero, List.set_cons_succ, Nat.reduceAdd]
  apply Facts.Lex.exact [] (.bool true) (by kernel_rfl)
  · intro u W hC _
    obtain ⟨x0, x1, _, _⟩ := lab_cells (keepB A0 hC)
    obtain ⟨y0, y1, _, _⟩ := lab_cells (keepB B0 hC)
    unfold Facts.one
    go_simp
    first | exact ⟨Grew.refl _, rfl⟩ | rfl
  simp only [Act.put, List.setIfInBounds_toArray, List.set_cons_zero, List.set_cons_succ, Nat.reduceAdd]
  apply Facts.Lex.exact [] (.bool true) (by kernel_rfl)
  · intro u W hC _
    obtain ⟨x0, x1, _, _⟩ := lab_cells (keepB A0 hC)
    obtain ⟨y0, y1, _, _⟩ := lab_cells (keepB B0 hC)
    unfold Facts.one
    go_simp
    first | exact ⟨Grew.refl _, rfl⟩ | rfl
  simp only [Act.put, List.setIfInBounds_toArray, List.set_cons_zero, List.set_cons_succ, Nat.reduceAdd]
  apply Facts.Lex.exact [] (.bool true) (by kernel_rfl)
  · intro u W hC _
    obtain ⟨x0, x1, _, _⟩ := lab_cells (keepB A0 hC)
    obtain ⟨y0, y1, _, _⟩ := lab_cells (keepB B0 hC)
    unfold Facts.one
    go_simp
    first | exact ⟨Grew.refl _, rfl⟩ | rfl
  simp only [Act.put, List.setIfInBounds_toArray, List.set_cons_zero, List.set_cons_succ, Nat.reduceAdd]
  apply Facts.Lex.exact [] (.agg #[.int .i64 v, .int .u64 (c.toNat : Int)]) (by kernel_rfl)
  · intro u W hC _
    obtain ⟨x0, x1, _, _⟩ := lab_cells (keepB A0 hC)
    obtain ⟨y0, y1, _, _⟩ := lab_cells (keepB B0 hC)
    unfold Facts.one
    go_simp
    first | exact ⟨Grew.refl _, rfl⟩ | rfl
  simp only [Act.put, List.setIfInBounds_toArray, List.set_cons_zero, List.set_cons_succ, Nat.reduceAdd]
  apply Facts.Lex.exact [] (.agg #[.int .i64 v2, .int .u64 (c2.toNat : Int)]) (by kernel_rfl)
  · intro u W hC _
    obtain ⟨x0, x1, _, _⟩ := lab_cells (keepB A0 hC)
    obtain ⟨y0, y1, _, _⟩ := lab_cells (keepB B0 hC)
    unfold Facts.one
    go_simp
    first | exact ⟨Grew.refl _, rfl⟩ | rfl
  simp only [Act.put, List.setIfInBounds_toArray, List.set_cons_zero, List.set_cons_succ, Nat.reduceAdd]
  apply Facts.Lex.exact [] (.agg #[.int .i64 lj, .int .u64 (dj.toNat : Int)]) (by kernel_rfl)
  · intro u W hC _
    obtain ⟨x0, x1, _, _⟩ := lab_cells (keepB A0 hC)
    obtain ⟨y0, y1, _, _⟩ := lab_cells (keepB B0 hC)
    unfold Facts.one
    go_simp
    first | exact ⟨Grew.refl _, rfl⟩ | rfl | (refine (HJO.out W).mono ?_; rintro e w' ⟨rfl, hg⟩; exact ⟨_, rfl, hg, rfl⟩)
  simp only [Act.put, List.setIfInBounds_toArray, List.set_cons_zero, List.set_cons_succ, Nat.reduceAdd]
  apply Facts.Lex.exact [] (.agg #[.int .i64 v, .int .u64 (c.toNat : Int)]) (by kernel_rfl)
  · intro u W hC _
    obtain ⟨x0, x1, _, _⟩ := lab_cells (keepB A0 hC)
    obtain ⟨y0, y1, _, _⟩ := lab_cells (keepB B0 hC)
    unfold Facts.one
    go_simp
    first | exact ⟨Grew.refl _, rfl⟩ | rfl
  simp only [Act.put, List.setIfInBounds_toArray, List.set_cons_zero, List.set_cons_succ, Nat.reduceAdd]
  apply Facts.Lex.exact [] (.agg #[.int .i64 v2, .int .u64 (c2.toNat : Int)]) (by kernel_rfl)
  · intro u W hC _
    obtain ⟨x0, x1, _, _⟩ := lab_cells (keepB A0 hC)
    obtain ⟨y0, y1, _, _⟩ := lab_cells (keepB B0 hC)
    unfold Facts.one
    go_simp
    first | exact ⟨Grew.refl _, rfl⟩ | rfl
  simp only [Act.put, List.setIfInBounds_toArray, List.set_cons_zero, List.set_cons_succ, Nat.reduceAdd]
  apply Facts.Lex.exact [] (.agg #[.int .i64 lj, .int .u64 (dj.toNat : Int)]) (by kernel_rfl)
  · intro u W hC _
    obtain ⟨x0, x1, _, _⟩ := lab_cells (keepB A0 hC)
    obtain ⟨y0, y1, _, _⟩ := lab_cells (keepB B0 hC)
    unfold Facts.one
    go_simp
    first | exact ⟨Grew.refl _, rfl⟩ | rfl | (refine (HRJ.out W).mono ?_; rintro e w' ⟨rfl, hg⟩; exact ⟨_, rfl, hg, rfl⟩)
  simp only [Act.put, List.setIfInBounds_toArray, List.set_cons_zero, List.set_cons_succ, Nat.reduceAdd]
  apply Facts.Lex.exact [] (.bool true) (by kernel_rfl)
  · intro u W hC _
    obtain ⟨x0, x1, _, _⟩ := lab_cells (keepB A0 hC)
    obtain ⟨y0, y1, _, _⟩ := lab_cells (keepB B0 hC)
    unfold Facts.one
    go_simp
    first | exact ⟨Grew.refl _, rfl⟩ | rfl
  simp only [Act.put, List.setIfInBounds_toArray, List.set_cons_zero, List.set_cons_succ, Nat.reduceAdd]
  apply Facts.Lex.exact [] (.bool true) (by kernel_rfl)
  · intro u W hC _
    obtain ⟨x0, x1, _, _⟩ := lab_cells (keepB A0 hC)
    obtain ⟨y0, y1, _, _⟩ := lab_cells (keepB B0 hC)
    unfold Facts.one
    go_simp
    first | exact ⟨Grew.refl _, rfl⟩ | rfl
  simp only [Act.put, List.setIfInBounds_toArray, List.set_cons_zero, List.set_cons_succ, Nat.reduceAdd]
  apply Facts.Lex.exact [] (.bool true) (by kernel_rfl)
  · intro u W hC _
    obtain ⟨x0, x1, _, _⟩ := lab_cells (keepB A0 hC)
    obtain ⟨y0, y1, _, _⟩ := lab_cells (keepB B0 hC)
    unfold Facts.one
    go_simp
    first | exact ⟨Grew.refl _, rfl⟩ | rfl
  simp only [Act.put, List.setIfInBounds_toArray, List.set_cons_zero, List.set_cons_succ, Nat.reduceAdd]
  apply Facts.Lex.exact [] (.agg #[.int .i64 v, .int .u64 (c.toNat : Int)]) (by kernel_rfl)
  · intro u W hC _
    obtain ⟨x0, x1, _, _⟩ := lab_cells (keepB A0 hC)
    obtain ⟨y0, y1, _, _⟩ := lab_cells (keepB B0 hC)
    unfold Facts.one
    go_simp
    first | exact ⟨Grew.refl _, rfl⟩ | rfl
  simp only [Act.put, List.setIfInBounds_toArray, List.set_cons_zero, List.set_cons_succ, Nat.reduceAdd]
  apply Facts.Lex.exact [] (.agg #[.int .i64 v2, .int .u64 (c2.toNat : Int)]) (by kernel_rfl)
  · intro u W hC _
    obtain ⟨x0, x1, _, _⟩ := lab_cells (keepB A0 hC)
    obtain ⟨y0, y1, _, _⟩ := lab_cells (keepB B0 hC)
    unfold Facts.one
    go_simp
    first | exact ⟨Grew.refl _, rfl⟩ | rfl
  simp only [Act.put, List.setIfInBounds_toArray, List.set_cons_zero, List.set_cons_succ, Nat.reduceAdd]
  apply Facts.Lex.exact [] (.agg #[.int .i64 lm, .int .u64 (dm.toNat : Int)]) (by kernel_rfl)
  · intro u W hC _
    obtain ⟨x0, x1, _, _⟩ := lab_cells (keepB A0 hC)
    obtain ⟨y0, y1, _, _⟩ := lab_cells (keepB B0 hC)
    unfold Facts.one
    go_simp
    first | exact ⟨Grew.refl _, rfl⟩ | rfl | (refine (HME.out W).mono ?_; rintro e w' ⟨rfl, hg⟩; exact ⟨_, rfl, hg, rfl⟩)
  simp only [Act.put, List.setIfInBounds_toArray, List.set_cons_zero, List.set_cons_succ, Nat.reduceAdd]
  apply Facts.Lex.exact [] (.agg #[.int .i64 v, .int .u64 (c.toNat : Int)]) (by kernel_rfl)
  · intro u W hC _
    obtain ⟨x0, x1, _, _⟩ := lab_cells (keepB A0 hC)
    obtain ⟨y0, y1, _, _⟩ := lab_cells (keepB B0 hC)
    unfold Facts.one
    go_simp
    first | exact ⟨Grew.refl _, rfl⟩ | rfl
  simp only [Act.put, List.setIfInBounds_toArray, List.set_cons_zero, List.set_cons_succ, Nat.reduceAdd]
  apply Facts.Lex.exact [] (.agg #[.int .i64 v2, .int .u64 (c2.toNat : Int)]) (by kernel_rfl)
  · intro u W hC _
    obtain ⟨x0, x1, _, _⟩ := lab_cells (keepB A0 hC)
    obtain ⟨y0, y1, _, _⟩ := lab_cells (keepB B0 hC)
    unfold Facts.one
    go_simp
    first | exact ⟨Grew.refl _, rfl⟩ | rfl
  simp only [Act.put, List.setIfInBounds_toArray, List.set_cons_zero, List.set_cons_succ, Nat.reduceAdd]
  apply Facts.Lex.exact [] (.agg #[.int .i64 lm, .int .u64 (dm.toNat : Int)]) (by kernel_rfl)
  · intro u W hC _
    obtain ⟨x0, x1, _, _⟩ := lab_cells (keepB A0 hC)
    obtain ⟨y0, y1, _, _⟩ := lab_cells (keepB B0 hC)
    unfold Facts.one
    go_simp
    first | exact ⟨Grew.refl _, rfl⟩ | rfl | (refine (HRM.out W).mono ?_; rintro e w' ⟨rfl, hg⟩; exact ⟨_, rfl, hg, rfl⟩)
  simp only [Act.put, List.setIfInBounds_toArray, List.set_cons_zero, List.set_cons_succ, Nat.reduceAdd]
  apply Facts.Lex.exact [] (.bool true) (by kernel_rfl)
  · intro u W hC _
    obtain ⟨x0, x1, _, _⟩ := lab_cells (keepB A0 hC)
    obtain ⟨y0, y1, _, _⟩ := lab_cells (keepB B0 hC)
    unfold Facts.one
    go_simp
    first | exact ⟨Grew.refl _, rfl⟩ | rfl
  simp only [Act.put, List.setIfInBounds_toArray, List.set_cons_zero, List.set_cons_succ, Nat.reduceAdd]
  apply Facts.Lex.exact [] (.bool true) (by kernel_rfl)
  · intro u W hC _
    obtain ⟨x0, x1, _, _⟩ := lab_cells (keepB A0 hC)
    obtain ⟨y0, y1, _, _⟩ := lab_cells (keepB B0 hC)
    unfold Facts.one
    go_simp
    first | exact ⟨Grew.refl _, rfl⟩ | rfl
  simp only [Act.put, List.setIfInBounds_toArray, List.set_cons_zero, List.set_cons_succ, Nat.reduceAdd]
  apply Facts.Lex.exact [] (.bool true) (by kernel_rfl)
  · intro u W hC _
    obtain ⟨x0, x1, _, _⟩ := lab_cells (keepB A0 hC)
    obtain ⟨y0, y1, _, _⟩ := lab_cells (keepB B0 hC)
    unfold Facts.one
    go_simp
    first | exact ⟨Grew.refl _, rfl⟩ | rfl
  simp only [Act.put, List.setIfInBounds_toArray, List.set_cons_zero, List.set_cons_succ, Nat.reduceAdd]
  apply Facts.Lex.exact [] (.agg #[.int .i64 v, .int .u64 (c.toNat : Int)]) (by kernel_rfl)
  · intro u W hC _
    obtain ⟨x0, x1, _, _⟩ := lab_cells (keepB A0 hC)
    obtain ⟨y0, y1, _, _⟩ := lab_cells (keepB B0 hC)
    unfold Facts.one
    go_simp
    first | exact ⟨Grew.refl _, rfl⟩ | rfl
  simp only [Act.put, List.setIfInBounds_toArray, List.set_cons_zero, List.set_cons_succ, Nat.reduceAdd]
  apply Facts.Lex.exact [] (.agg #[.int .i64 v2, .int .u64 (c2.toNat : Int)]) (by kernel_rfl)
  · intro u W hC _
    obtain ⟨x0, x1, _, _⟩ := lab_cells (keepB A0 hC)
    obtain ⟨y0, y1, _, _⟩ := lab_cells (keepB B0 hC)
    unfold Facts.one
    go_simp
    first | exact ⟨Grew.refl _, rfl⟩ | rfl
  simp only [Act.put, List.setIfInBounds_toArray, List.set_cons_zero, List.set_cons_succ, Nat.reduceAdd]
  apply Facts.Lex.exact [] (.int .i64 o) (by kernel_rfl)
  · intro u W hC _
    obtain ⟨x0, x1, _, _⟩ := lab_cells (keepB A0 hC)
    obtain ⟨y0, y1, _, _⟩ := lab_cells (keepB B0 hC)
    unfold Facts.one
    go_simp
    first | exact ⟨Grew.refl _, rfl⟩ | rfl | (refine (HCM.out W).mono ?_; rintro e w' ⟨rfl, hg⟩; exact ⟨_, rfl, hg, rfl⟩)
  simp only [Act.put, List.setIfInBounds_toArray, List.set_cons_zero, List.set_cons_succ, Nat.reduceAdd]
  apply Facts.Lex.exact [] (.agg #[.int .i64 v, .int .u64 (c.toNat : Int)]) (by kernel_rfl)
  · intro u W hC _
    obtain ⟨x0, x1, _, _⟩ := lab_cells (keepB A0 hC)
    obtain ⟨y0, y1, _, _⟩ := lab_cells (keepB B0 hC)
    unfold Facts.one
    go_simp
    first | exact ⟨Grew.refl _, rfl⟩ | rfl
  simp only [Act.put, List.setIfInBounds_toArray, List.set_cons_zero, List.set_cons_succ, Nat.reduceAdd]
  apply Facts.Lex.exact [] (.agg #[.int .i64 v2, .int .u64 (c2.toNat : Int)]) (by kernel_rfl)
  · intro u W hC _
    obtain ⟨x0, x1, _, _⟩ := lab_cells (keepB A0 hC)
    obtain ⟨y0, y1, _, _⟩ := lab_cells (keepB B0 hC)
    unfold Facts.one
    go_simp
    first | exact ⟨Grew.refl _, rfl⟩ | rfl
  simp only [Act.put, List.setIfInBounds_toArray, List.set_cons_zero, List.set_cons_succ, Nat.reduceAdd]
  apply Facts.Lex.exact [] (.int .i64 o) (by kernel_rfl)
  · intro u W hC _
    obtain ⟨x0, x1, _, _⟩ := lab_cells (keepB A0 hC)
    obtain ⟨y0, y1, _, _⟩ := lab_cells (keepB B0 hC)
    unfold Facts.one
    go_simp
    first | exact ⟨Grew.refl _, rfl⟩ | rfl | (refine (HRC.out W).mono ?_; rintro e w' ⟨rfl, hg⟩; exact ⟨_, rfl, hg, rfl⟩)
  simp only [Act.put, List.setIfInBounds_toArray, List.set_cons_zero, List.set_cons_succ, Nat.reduceAdd]
  apply Facts.Lex.exact [] (.bool true) (by kernel_rfl)
  · intro u W hC _
    obtain ⟨x0, x1, _, _⟩ := lab_cells (keepB A0 hC)
    obtain ⟨y0, y1, _, _⟩ := lab_cells (keepB B0 hC)
    unfold Facts.one
    go_simp
    first | exact ⟨Grew.refl _, rfl⟩ | rfl
  simp only [Act.put, List.setIfInBounds_toArray, List.set_cons_zero, List.set_cons_succ, Nat.reduceAdd]
  apply Facts.Lex.exact [] (.bool true) (by kernel_rfl)
  · intro u W hC _
    obtain ⟨x0, x1, _, _⟩ := lab_cells (keepB A0 hC)
    obtain ⟨y0, y1, _, _⟩ := lab_cells (keepB B0 hC)
    unfold Facts.one
    go_simp
    first | exact ⟨Grew.refl _, rfl⟩ | rfl
  simp only [Act.put, List.setIfInBounds_toArray, List.set_cons_zero, List.set_cons_succ, Nat.reduceAdd]
  apply Facts.Lex.exact [] (.bool true) (by kernel_rfl)
  · intro u W hC _
    obtain ⟨x0, x1, _, _⟩ := lab_cells (keepB A0 hC)
    obtain ⟨y0, y1, _, _⟩ := lab_cells (keepB B0 hC)
    unfold Facts.one
    go_simp
    first | exact ⟨Grew.refl _, rfl⟩ | rfl
  simp only [Act.put, List.setIfInBounds_toArray, List.set_cons_zero, List.set_cons_succ, Nat.reduceAdd]
  apply Facts.Lex.exact [] (.agg #[.int .i64 v, .int .u64 (c.toNat : Int)]) (by kernel_rfl)
  · intro u W hC _
    obtain ⟨x0, x1, _, _⟩ := lab_cells (keepB A0 hC)
    obtain ⟨y0, y1, _, _⟩ := lab_cells (keepB B0 hC)
    unfold Facts.one
    go_simp
    first | exact ⟨Grew.refl _, rfl⟩ | rfl
  simp only [Act.put, List.setIfInBounds_toArray, List.set_cons_zero, List.set_cons_succ, Nat.reduceAdd]
  refine Facts.Lex.know [] (fun x W => Is W x (nums c)) (by kernel_rfl) (fun _ _ _ h hg => h.grew hg) ?_ ?_
  · intro u W hC _
    obtain ⟨x0, x1, _, _⟩ := lab_cells (keepB A0 hC)
    obtain ⟨y0, y1, _, _⟩ := lab_cells (keepB B0 hC)
    unfold Facts.one
    go_simp
    refine (bits_any v c W (HE.out W (HG.out.trans hC)) (by have := hC.size; have := HG.out.size; have := HS.out; omega)).mono ?_
    rintro e w' ⟨x, rfl, hi, hg⟩
    exact ⟨_, rfl, hg, hi⟩
  simp only [Act.put, List.setIfInBounds_toArray, List.set_cons_zero, List.set_cons_succ, Nat.reduceAdd]
  apply Facts.Lex.exact [] (.agg #[.int .i64 v, .int .u64 (c.toNat : Int)]) (by kernel_rfl)
  · intro u W hC _
    obtain ⟨x0, x1, _, _⟩ := lab_cells (keepB A0 hC)
    obtain ⟨y0, y1, _, _⟩ := lab_cells (keepB B0 hC)
    unfold Facts.one
    go_simp
    first | exact ⟨Grew.refl _, rfl⟩ | rfl
  simp only [Act.put, List.setIfInBounds_toArray, List.set_cons_zero, List.set_cons_succ, Nat.reduceAdd]
  refine Facts.Lex.know [] (fun x W => Is W x (nums c)) (by kernel_rfl) (fun _ _ _ h hg => h.grew hg) ?_ ?_
  · intro u W hC _
    obtain ⟨x0, x1, _, _⟩ := lab_cells (keepB A0 hC)
    obtain ⟨y0, y1, _, _⟩ := lab_cells (keepB B0 hC)
    unfold Facts.one
    go_simp
    refine (rbits_any v c W).mono ?_
    rintro e w' ⟨x, rfl, hi, hg⟩
    exact ⟨_, rfl, hg, hi⟩
  simp only [Act.put, List.setIfInBounds_toArray, List.set_cons_zero, List.set_cons_succ, Nat.reduceAdd]
  apply Facts.Lex.exact [46, 48] (.bool true) (by kernel_rfl)
  · intro u W hC hK
    have h48 : Is W (u 48) (nums c) := hK.1
    have h46 : Is W (u 46) (nums c) := hK.2.1
    unfold Facts.one
    go_simp
    refine (ints_any W _ _ _ _ h46 h48).mono ?_
    rintro e w' ⟨rfl, hg⟩
    exact ⟨_, rfl, hg, by rw [decide_eq_true rfl]⟩
  simp only [Act.put, List.setIfInBounds_toArray, List.set_cons_zero, List.set_cons_succ, Nat.reduceAdd]
  apply Facts.Lex.exact [] (.bool true) (by kernel_rfl)
  · intro u W hC _
    obtain ⟨x0, x1, _, _⟩ := lab_cells (keepB A0 hC)
    obtain ⟨y0, y1, _, _⟩ := lab_cells (keepB B0 hC)
    unfold Facts.one
    go_simp
    first | exact ⟨Grew.refl _, rfl⟩ | rfl
  simp only [Act.put, List.setIfInBounds_toArray, List.set_cons_zero, List.set_cons_succ, Nat.reduceAdd]
  apply Facts.Lex.exact [] (.bool true) (by kernel_rfl)
  · intro u W hC _
    obtain ⟨x0, x1, _, _⟩ := lab_cells (keepB A0 hC)
    obtain ⟨y0, y1, _, _⟩ := lab_cells (keepB B0 hC)
    unfold Facts.one
    go_simp
    first | exact ⟨Grew.refl _, rfl⟩ | rfl
  simp only [Act.put, List.setIfInBounds_toArray, List.set_cons_zero, List.set_cons_succ, Nat.reduceAdd]
  refine Facts.Lex.done fun u W2 hC hL => ?_
  have G2 := Lib.hid (HG.out.trans hC)
  clear hC hL A0 B0
  go_wp2
  go_returns
  exact ⟨rfl, G2.out⟩

set_option maxRecDepth 100000 in
set_option maxHeartbeats 8000000 in
theorem law_big (v v2 : Int) (c c2 : BitVec 64) (bit : Int) (hb : ¬ (0 ≤ bit ∧ bit < 64)) (hn : 63 < bit) (w : World) (hE : Env w) : Calls Tryd.prog 3 #[.agg #[.int .i64 v, .int .u64 (c.toNat : Int)], .agg #[.int .i64 v2, .int .u64 (c2.toNat : Int)], .int .i64 bit] w fun e W' => e = .returned (.bool true) ∧ Grew w W' := by
  have HE : Hid (∀ W, Grew w W → Env W) := Lib.hid fun W hg => hE.grow hg
  have HRI := Lib.hid (fun W => right_any v c W)
  have HRR := Lib.hid (fun W => rright_any v c W)
  have HLE := Lib.hid (fun W => leq_any v c v2 c2 W)
  have HRL := Lib.hid (fun W => rleq_any v c v2 c2 W)
  have HJO := Lib.hid (fun W => join_any v c v2 c2 W)
  have HRJ := Lib.hid (fun W => rjoin_any v c v2 c2 W)
  have HME := Lib.hid (fun W => meet_any v c v2 c2 W)
  have HRM := Lib.hid (fun W => rmeet_any v c v2 c2 W)
  have HCM := Lib.hid (fun W => cmp_any v c v2 c2 W)
  have HRC := Lib.hid (fun W => rcmp_any v c v2 c2 W)
  generalize may v = r at *
  generalize le v c v2 c2 = p at *
  generalize max v v2 = lj at *
  generalize min v v2 = lm at *
  generalize c ||| c2 = dj at *
  generalize c &&& c2 = dm at *
  generalize order v c v2 c2 = o at *
  have HH := Lib.hid (fun W => hall_any bit W)
  rw [if_neg hb, if_neg hb] at HH
  have hd : decide (bit < 0) = false := decide_eq_false (by omega)
  clear hb
  have A0 : ((w.alloc (Obj.cells #[Value.int IntKind.i64 v, Value.int IntKind.u64 (c.toNat : Int)] 24)).alloc (Obj.cells #[Value.int IntKind.i64 v2, Value.int IntKind.u64 (c2.toNat : Int)] 24)).heap[w.heap.size]? = some (lc v c) := heap_alloc2_old w _ _
  have B0 : ((w.alloc (Obj.cells #[Value.int IntKind.i64 v, Value.int IntKind.u64 (c.toNat : Int)] 24)).alloc (Obj.cells #[Value.int IntKind.i64 v2, Value.int IntKind.u64 (c2.toNat : Int)] 24)).heap[w.heap.size + 1]? = some (lc v2 c2) := heap_alloc2_new w _ _
  have g0 : Grew w ((w.alloc (Obj.cells #[Value.int IntKind.i64 v, Value.int IntKind.u64 (c.toNat : Int)] 24)).alloc (Obj.cells #[Value.int IntKind.i64 v2, Value.int IntKind.u64 (c2.toNat : Int)] 24)) := by unfold Grew; go_grown
  have s0 : 0 < ((w.alloc (Obj.cells #[Value.int IntKind.i64 v, Value.int IntKind.u64 (c.toNat : Int)] 24)).alloc (Obj.cells #[Value.int IntKind.i64 v2, Value.int IntKind.u64 (c2.toNat : Int)] 24)).heap.size := by simp
  have HA := Lib.hid A0
  have HB := Lib.hid B0
  have HG0 := Lib.hid g0
  have HS0 := Lib.hid s0
  clear A0 B0 g0 s0
  go_enter Tryd.func3, Tryd.ntmps3
  go_wp2_with fail
  refine (HH.out _).mono ?_
  rintro e w1 ⟨rfl, hg⟩
  have A1 := Lib.hid (keepB (keepB HA.out hg) (show Grew w1 (w1.alloc (.cells #[.int .i64 0, .int .u64 0] 24)) by unfold Grew; go_grown))
  have B1 := Lib.hid (keepB (keepB HB.out hg) (show Grew w1 (w1.alloc (.cells #[.int .i64 0, .int .u64 0] 24)) by unfold Grew; go_grown))
  have HG := Lib.hid ((HG0.out.trans hg).trans (show Grew w1 (w1.alloc (.cells #[.int .i64 0, .int .u64 0] 24)) by unfold Grew; go_grown))
  have HS : Hid (0 < w1.heap.size) := Lib.hid (by have := hg.size; have := HS0.out; omega)
  clear hg
  go_wp2
  generalize hW : w1.alloc (Obj.cells #[Value.int IntKind.i64 0, Value.int IntKind.u64 0] 24) = W0 at *
  have HS : Hid (0 < W0.heap.size) := Lib.hid (by rw [← hW]; simp)
  clear hW
  have A0 := A1.out
  have B0 := B1.out
  refine Facts.wp_region_text (by kernel_rfl) (by kernel_rfl) ?_
  apply Facts.Lex.exact [] (.bool true) (by kernel_rfl)
  · intro u W hC _
    obtain ⟨x0, x1, _, _⟩ := lab_cells (keepB A0 hC)
    obtain ⟨y0, y1, _, _⟩ := lab_cells (keepB B0 hC)
    unfold Facts.one
    go_simp
    first | exact ⟨Grew.refl _, rfl⟩ | rfl | (refine (alive_any W (HE.out W (HG.out.trans hC))).mono ?_; rintro e w' ⟨rfl, hg⟩; exact ⟨_, rfl, hg, rfl⟩)
  simp only [Act.put, List.setIfInBounds_toArray, List.set_cons_zero, List.set_cons_succ, Nat.reduceAdd]
  apply Facts.Lex.exact [] (.bool true) (by kernel_rfl)
  · intro u W hC _
    obtain ⟨x0, x1, _, _⟩ := lab_cells (keepB A0 hC)
    obtain ⟨y0, y1, _, _⟩ := lab_cells (keepB B0 hC)
    unfold Facts.one
    go_simp
    first | exact ⟨Grew.refl _, rfl⟩ | rfl
  simp only [Act.put, List.setIfInBounds_toArray, List.set_cons_zero, List.set_cons_succ, Nat.reduceAdd]
  apply Facts.Lex.exact [] (.agg #[.int .i64 v, .int .u64 (c.toNat : Int)]) (by kernel_rfl)
  · intro u W hC _
    obtain ⟨x0, x1, _, _⟩ := lab_cells (keepB A0 hC)
    obtain ⟨y0, y1, _, _⟩ := lab_cells (keepB B0 hC)
    unfold Facts.one
    go_simp
    first | exact ⟨Grew.refl _, rfl⟩ | rfl
  simp only [Act.put, List.setIfInBounds_toArray, List.set_cons_zero, List.set_cons_succ, Nat.reduceAdd]
  apply Facts.Lex.exact [] (.bool r) (by kernel_rfl)
  · intro u W hC _
    obtain ⟨x0, x1, _, _⟩ := lab_cells (keepB A0 hC)
    obtain ⟨y0, y1, _, _⟩ := lab_cells (keepB B0 hC)
    unfold Facts.one
    go_simp
    first | exact ⟨Grew.refl _, rfl⟩ | rfl | (refine (HRI.out W).mono ?_; rintro e w' ⟨rfl, hg⟩; exact ⟨_, rfl, hg, rfl⟩)
  simp only [Act.put, List.setIfInBounds_toArray, List.set_cons_zero, List.set_cons_succ, Nat.reduceAdd]
  apply Facts.Lex.exact [] (.agg #[.int .i64 v, .int .u64 (c.toNat : Int)]) (by kernel_rfl)
  · intro u W hC _
    obtain ⟨x0, x1, _, _⟩ := lab_cells (keepB A0 hC)
    obtain ⟨y0, y1, _, _⟩ := lab_cells (keepB B0 hC)
    unfold Facts.one
    go_simp
    first | exact ⟨Grew.refl _, rfl⟩ | rfl
  simp only [Act.put, List.setIfInBounds_toArray, List.set_cons_zero, List.set_cons_succ, Nat.reduceAdd]
  apply Facts.Lex.exact [] (.bool r) (by kernel_rfl)
  · intro u W hC _
    obtain ⟨x0, x1, _, _⟩ := lab_cells (keepB A0 hC)
    obtain ⟨y0, y1, _, _⟩ := lab_cells (keepB B0 hC)
    unfold Facts.one
    go_simp
    first | exact ⟨Grew.refl _, rfl⟩ | rfl | (refine (HRR.out W).mono ?_; rintro e w' ⟨rfl, hg⟩; exact ⟨_, rfl, hg, rfl⟩)
  simp only [Act.put, List.setIfInBounds_toArray, List.set_cons_zero, List.set_cons_succ, Nat.reduceAdd]
  apply Facts.Lex.exact [] (.bool true) (by kernel_rfl)
  · intro u W hC _
    obtain ⟨x0, x1, _, _⟩ := lab_cells (keepB A0 hC)
    obtain ⟨y0, y1, _, _⟩ := lab_cells (keepB B0 hC)
    unfold Facts.one
    go_simp
    first | exact ⟨Grew.refl _, rfl⟩ | rfl
  simp only [Act.put, List.setIfInBounds_toArray, List.set_cons_zero, List.set_cons_succ, Nat.reduceAdd]
  apply Facts.Lex.exact [] (.bool true) (by kernel_rfl)
  · intro u W hC _
    obtain ⟨x0, x1, _, _⟩ := lab_cells (keepB A0 hC)
    obtain ⟨y0, y1, _, _⟩ := lab_cells (keepB B0 hC)
    unfold Facts.one
    go_simp
    first | exact ⟨Grew.refl _, rfl⟩ | rfl
  simp only [Act.put, List.setIfInBounds_toArray, List.set_cons_zero, List.set_cons_succ, Nat.reduceAdd]
  apply Facts.Lex.exact [] (.bool true) (by kernel_rfl)
  · intro u W hC _
    obtain ⟨x0, x1, _, _⟩ := lab_cells (keepB A0 hC)
    obtain ⟨y0, y1, _, _⟩ := lab_cells (keepB B0 hC)
    unfold Facts.one
    go_simp
    first | exact ⟨Grew.refl _, rfl⟩ | rfl
  simp only [Act.put, List.setIfInBounds_toArray, List.set_cons_zero, List.set_cons_succ, Nat.reduceAdd]
  apply Facts.Lex.exact [] (.agg #[.int .i64 v, .int .u64 (c.toNat : Int)]) (by kernel_rfl)
  · intro u W hC _
    obtain ⟨x0, x1, _, _⟩ := lab_cells (keepB A0 hC)
    obtain ⟨y0, y1, _, _⟩ := lab_cells (keepB B0 hC)
    unfold Facts.one
    go_simp
    first | exact ⟨Grew.refl _, rfl⟩ | rfl
  simp only [Act.put, List.setIfInBounds_toArray, List.set_cons_zero, List.set_cons_succ, Nat.reduceAdd]
  apply Facts.Lex.exact [] (.agg #[.int .i64 v2, .int .u64 (c2.toNat : Int)]) (by kernel_rfl)
  · intro u W hC _
    obtain ⟨x0, x1, _, _⟩ := lab_cells (keepB A0 hC)
    obtain ⟨y0, y1, _, _⟩ := lab_cells (keepB B0 hC)
    unfold Facts.one
    go_simp
    first | exact ⟨Grew.refl _, rfl⟩ | rfl
  simp only [Act.put, List.setIfInBounds_toArray, List.set_cons_zero, List.set_cons_succ, Nat.reduceAdd]
  apply Facts.Lex.exact [] (.bool p) (by kernel_rfl)
  · intro u W hC _
    obtain ⟨x0, x1, _, _⟩ := lab_cells (keepB A0 hC)
    obtain ⟨y0, y1, _, _⟩ := lab_cells (keepB B0 hC)
    unfold Facts.one
    go_simp
    first | exact ⟨Grew.refl _, rfl⟩ | rfl | (refine (HLE.out W).mono ?_; rintro e w' ⟨rfl, hg⟩; exact ⟨_, rfl, hg, rfl⟩)
  simp only [Act.put, List.setIfInBounds_toArray, List.set_cons_zero, List.set_cons_succ, Nat.reduceAdd]
  apply Facts.Lex.exact [] (.agg #[.int .i64 v, .int .u64 (c.toNat : Int)]) (by kernel_rfl)
  · intro u W hC _
    obtain ⟨x0, x1, _, _⟩ := lab_cells (keepB A0 hC)
    obtain ⟨y0, y1, _, _⟩ := lab_cells (keepB B0 hC)
    unfold Facts.one
    go_simp
    first | exact ⟨Grew.refl _, rfl⟩ | rfl
  simp only [Act.put, List.setIfInBounds_toArray, List.set_cons_zero, List.set_cons_succ, Nat.reduceAdd]
  apply Facts.Lex.exact [] (.agg #[.int .i64 v2, .int .u64 (c2.toNat : Int)]) (by kernel_rfl)
  · intro u W hC _
    obtain ⟨x0, x1, _, _⟩ := lab_cells (keepB A0 hC)
    obtain ⟨y0, y1, _, _⟩ := lab_cells (keepB B0 hC)
    unfold Facts.one
    go_simp
    first | exact ⟨Grew.refl _, rfl⟩ | rfl
  simp only [Act.put, List.setIfInBounds_toArray, List.set_cons_zero, List.set_cons_succ, Nat.reduceAdd]
  apply Facts.Lex.exact [] (.bool p) (by kernel_rfl)
  · intro u W hC _
    obtain ⟨x0, x1, _, _⟩ := lab_cells (keepB A0 hC)
    obtain ⟨y0, y1, _, _⟩ := lab_cells (keepB B0 hC)
    unfold Facts.one
    go_simp
    first | exact ⟨Grew.refl _, rfl⟩ | rfl | (refine (HRL.out W).mono ?_; rintro e w' ⟨rfl, hg⟩; exact ⟨_, rfl, hg, rfl⟩)
  simp only [Act.put, List.setIfInBounds_toArray, List.set_cons_zero, List.set_cons_succ, Nat.reduceAdd]
  apply Facts.Lex.exact [] (.bool true) (by kernel_rfl)
  · intro u W hC _
    obtain ⟨x0, x1, _, _⟩ := lab_cells (keepB A0 hC)
    obtain ⟨y0, y1, _, _⟩ := lab_cells (keepB B0 hC)
    unfold Facts.one
    go_simp
    first | exact ⟨Grew.refl _, rfl⟩ | rfl
  simp only [Act.put, List.setIfInBounds_toArray, List.set_cons_zero, List.set_cons_succ, Nat.reduceAdd]
  apply Facts.Lex.exact [] (.bool true) (by kernel_rfl)
  · intro u W hC _
    obtain ⟨x0, x1, _, _⟩ := lab_cells (keepB A0 hC)
    obtain ⟨y0, y1, _, _⟩ := lab_cells (keepB B0 hC)
    unfold Facts.one
    go_simp
    first | exact ⟨Grew.refl _, rfl⟩ | rfl
  simp only [Act.put, List.setIfInBounds_toArray, List.set_cons_zero, List.set_cons_succ, Nat.reduceAdd]
  apply Facts.Lex.exact [] (.bool true) (by kernel_rfl)
  · intro u W hC _
    obtain ⟨x0, x1, _, _⟩ := lab_cells (keepB A0 hC)
    obtain ⟨y0, y1, _, _⟩ := lab_cells (keepB B0 hC)
    unfold Facts.one
    go_simp
    first | exact ⟨Grew.refl _, rfl⟩ | rfl
  simp only [Act.put, List.setIfInBounds_toArray, List.set_cons_zero, List.set_cons_succ, Nat.reduceAdd]
  apply Facts.Lex.exact [] (.agg #[.int .i64 v, .int .u64 (c.toNat : Int)]) (by kernel_rfl)
  · intro u W hC _
    obtain ⟨x0, x1, _, _⟩ := lab_cells (keepB A0 hC)
    obtain ⟨y0, y1, _, _⟩ := lab_cells (keepB B0 hC)
    unfold Facts.one
    go_simp
    first | exact ⟨Grew.refl _, rfl⟩ | rfl
  simp only [Act.put, List.setIfInBounds_toArray, List.set_cons_zero, List.set_cons_succ, Nat.reduceAdd]
  apply Facts.Lex.exact [] (.agg #[.int .i64 v2, .int .u64 (c2.toNat : Int)]) (by kernel_rfl)
  · intro u W hC _
    obtain ⟨x0, x1, _, _⟩ := lab_cells (keepB A0 hC)
    obtain ⟨y0, y1, _, _⟩ := lab_cells (keepB B0 hC)
    unfold Facts.one
    go_simp
    first | exact ⟨Grew.refl _, rfl⟩ | rfl
  simp only [Act.put, List.setIfInBounds_toArray, List.set_cons_zero, List.set_cons_succ, Nat.reduceAdd]
  apply Facts.Lex.exact [] (.agg #[.int .i64 lj, .int .u64 (dj.toNat : Int)]) (by kernel_rfl)
  · intro u W hC _
    obtain ⟨x0, x1, _, _⟩ := lab_cells (keepB A0 hC)
    obtain ⟨y0, y1, _, _⟩ := lab_cells (keepB B0 hC)
    unfold Facts.one
    go_simp
    first | exact ⟨Grew.refl _, rfl⟩ | rfl | (refine (HJO.out W).mono ?_; rintro e w' ⟨rfl, hg⟩; exact ⟨_, rfl, hg, rfl⟩)
  simp only [Act.put, List.setIfInBounds_toArray, List.set_cons_zero, List.set_cons_succ, Nat.reduceAdd]
  apply Facts.Lex.exact [] (.agg #[.int .i64 v, .int .u64 (c.toNat : Int)]) (by kernel_rfl)
  · intro u W hC _
    obtain ⟨x0, x1, _, _⟩ := lab_cells (keepB A0 hC)
    obtain ⟨y0, y1, _, _⟩ := lab_cells (keepB B0 hC)
    unfold Facts.one
    go_simp
    first | exact ⟨Grew.refl _, rfl⟩ | rfl
  simp only [Act.put, List.setIfInBounds_toArray, List.set_cons_zero, List.set_cons_succ, Nat.reduceAdd]
  apply Facts.Lex.exact [] (.agg #[.int .i64 v2, .int .u64 (c2.toNat : Int)]) (by kernel_rfl)
  · intro u W hC _
    obtain ⟨x0, x1, _, _⟩ := lab_cells (keepB A0 hC)
    obtain ⟨y0, y1, _, _⟩ := lab_cells (keepB B0 hC)
    unfold Facts.one
    go_simp
    first | exact ⟨Grew.refl _, rfl⟩ | rfl
  simp only [Act.put, List.setIfInBounds_toArray, List.set_cons_zero, List.set_cons_succ, Nat.reduceAdd]
  apply Facts.Lex.exact [] (.agg #[.int .i64 lj, .int .u64 (dj.toNat : Int)]) (by kernel_rfl)
  · intro u W hC _
    obtain ⟨x0, x1, _, _⟩ := lab_cells (keepB A0 hC)
    obtain ⟨y0, y1, _, _⟩ := lab_cells (keepB B0 hC)
    unfold Facts.one
    go_simp
    first | exact ⟨Grew.refl _, rfl⟩ | rfl | (refine (HRJ.out W).mono ?_; rintro e w' ⟨rfl, hg⟩; exact ⟨_, rfl, hg, rfl⟩)
  simp only [Act.put, List.setIfInBounds_toArray, List.set_cons_zero, List.set_cons_succ, Nat.reduceAdd]
  apply Facts.Lex.exact [] (.bool true) (by kernel_rfl)
  · intro u W hC _
    obtain ⟨x0, x1, _, _⟩ := lab_cells (keepB A0 hC)
    obtain ⟨y0, y1, _, _⟩ := lab_cells (keepB B0 hC)
    unfold Facts.one
    go_simp
    first | exact ⟨Grew.refl _, rfl⟩ | rfl
  simp only [Act.put, List.setIfInBounds_toArray, List.set_cons_zero, List.set_cons_succ, Nat.reduceAdd]
  apply Facts.Lex.exact [] (.bool true) (by kernel_rfl)
  · intro u W hC _
    obtain ⟨x0, x1, _, _⟩ := lab_cells (keepB A0 hC)
    obtain ⟨y0, y1, _, _⟩ := lab_cells (keepB B0 hC)
    unfold Facts.one
    go_simp
    first | exact ⟨Grew.refl _, rfl⟩ | rfl
  simp only [Act.put, List.setIfInBounds_toArray, List.set_cons_zero, List.set_cons_succ, Nat.reduceAdd]
  apply Facts.Lex.exact [] (.bool true) (by kernel_rfl)
  · intro u W hC _
    obtain ⟨x0, x1, _, _⟩ := lab_cells (keepB A0 hC)
    obtain ⟨y0, y1, _, _⟩ := lab_cells (keepB B0 hC)
    unfold Facts.one
    go_simp
    first | exact ⟨Grew.refl _, rfl⟩ | rfl
  simp only [Act.put, List.setIfInBounds_toArray, List.set_cons_zero, List.set_cons_succ, Nat.reduceAdd]
  apply Facts.Lex.exact [] (.agg #[.int .i64 v, .int .u64 (c.toNat : Int)]) (by kernel_rfl)
  · intro u W hC _
    obtain ⟨x0, x1, _, _⟩ := lab_cells (keepB A0 hC)
    obtain ⟨y0, y1, _, _⟩ := lab_cells (keepB B0 hC)
    unfold Facts.one
    go_simp
    first | exact ⟨Grew.refl _, rfl⟩ | rfl
  simp only [Act.put, List.setIfInBounds_toArray, List.set_cons_zero, List.set_cons_succ, Nat.reduceAdd]
  apply Facts.Lex.exact [] (.agg #[.int .i64 v2, .int .u64 (c2.toNat : Int)]) (by kernel_rfl)
  · intro u W hC _
    obtain ⟨x0, x1, _, _⟩ := lab_cells (keepB A0 hC)
    obtain ⟨y0, y1, _, _⟩ := lab_cells (keepB B0 hC)
    unfold Facts.one
    go_simp
    first | exact ⟨Grew.refl _, rfl⟩ | rfl
  simp only [Act.put, List.setIfInBounds_toArray, List.set_cons_zero, List.set_cons_succ, Nat.reduceAdd]
  apply Facts.Lex.exact [] (.agg #[.int .i64 lm, .int .u64 (dm.toNat : Int)]) (by kernel_rfl)
  · intro u W hC _
    obtain ⟨x0, x1, _, _⟩ := lab_cells (keepB A0 hC)
    obtain ⟨y0, y1, _, _⟩ := lab_cells (keepB B0 hC)
    unfold Facts.one
    go_simp
    first | exact ⟨Grew.refl _, rfl⟩ | rfl | (refine (HME.out W).mono ?_; rintro e w' ⟨rfl, hg⟩; exact ⟨_, rfl, hg, rfl⟩)
  simp only [Act.put, List.setIfInBounds_toArray, List.set_cons_zero, List.set_cons_succ, Nat.reduceAdd]
  apply Facts.Lex.exact [] (.agg #[.int .i64 v, .int .u64 (c.toNat : Int)]) (by kernel_rfl)
  · intro u W hC _
    obtain ⟨x0, x1, _, _⟩ := lab_cells (keepB A0 hC)
    obtain ⟨y0, y1, _, _⟩ := lab_cells (keepB B0 hC)
    unfold Facts.one
    go_simp
    first | exact ⟨Grew.refl _, rfl⟩ | rfl
  simp only [Act.put, List.setIfInBounds_toArray, List.set_cons_zero, List.set_cons_succ, Nat.reduceAdd]
  apply Facts.Lex.exact [] (.agg #[.int .i64 v2, .int .u64 (c2.toNat : Int)]) (by kernel_rfl)
  · intro u W hC _
    obtain ⟨x0, x1, _, _⟩ := lab_cells (keepB A0 hC)
    obtain ⟨y0, y1, _, _⟩ := lab_cells (keepB B0 hC)
    unfold Facts.one
    go_simp
    first | exact ⟨Grew.refl _, rfl⟩ | rfl
  simp only [Act.put, List.setIfInBounds_toArray, List.set_cons_zero, List.set_cons_succ, Nat.reduceAdd]
  apply Facts.Lex.exact [] (.agg #[.int .i64 lm, .int .u64 (dm.toNat : Int)]) (by kernel_rfl)
  · intro u W hC _
    obtain ⟨x0, x1, _, _⟩ := lab_cells (keepB A0 hC)
    obtain ⟨y0, y1, _, _⟩ := lab_cells (keepB B0 hC)
    unfold Facts.one
    go_simp
    first | exact ⟨Grew.refl _, rfl⟩ | rfl | (refine (HRM.out W).mono ?_; rintro e w' ⟨rfl, hg⟩; exact ⟨_, rfl, hg, rfl⟩)
  simp only [Act.put, List.setIfInBounds_toArray, List.set_cons_zero, List.set_cons_succ, Nat.reduceAdd]
  apply Facts.Lex.exact [] (.bool true) (by kernel_rfl)
  · intro u W hC _
    obtain ⟨x0, x1, _, _⟩ := lab_cells (keepB A0 hC)
    obtain ⟨y0, y1, _, _⟩ := lab_cells (keepB B0 hC)
    unfold Facts.one
    go_simp
    first | exact ⟨Grew.refl _, rfl⟩ | rfl
  simp only [Act.put, List.setIfInBounds_toArray, List.set_cons_zero, List.set_cons_succ, Nat.reduceAdd]
  apply Facts.Lex.exact [] (.bool true) (by kernel_rfl)
  · intro u W hC _
    obtain ⟨x0, x1, _, _⟩ := lab_cells (keepB A0 hC)
    obtain ⟨y0, y1, _, _⟩ := lab_cells (keepB B0 hC)
    unfold Facts.one
    go_simp
    first | exact ⟨Grew.refl _, rfl⟩ | rfl
  simp only [Act.put, List.setIfInBounds_toArray, List.set_cons_zero, List.set_cons_succ, Nat.reduceAdd]
  apply Facts.Lex.exact [] (.bool true) (by kernel_rfl)
  · intro u W hC _
    obtain ⟨x0, x1, _, _⟩ := lab_cells (keepB A0 hC)
    obtain ⟨y0, y1, _, _⟩ := lab_cells (keepB B0 hC)
    unfold Facts.one
    go_simp
    first | exact ⟨Grew.refl _, rfl⟩ | rfl
  simp only [Act.put, List.setIfInBounds_toArray, List.set_cons_zero, List.set_cons_succ, Nat.reduceAdd]
  apply Facts.Lex.exact [] (.agg #[.int .i64 v, .int .u64 (c.toNat : Int)]) (by kernel_rfl)
  · intro u W hC _
    obtain ⟨x0, x1, _, _⟩ := lab_cells (keepB A0 hC)
    obtain ⟨y0, y1, _, _⟩ := lab_cells (keepB B0 hC)
    unfold Facts.one
    go_simp
    first | exact ⟨Grew.refl _, rfl⟩ | rfl
  simp only [Act.put, List.setIfInBounds_toArray, List.set_cons_zero, List.set_cons_succ, Nat.reduceAdd]
  apply Facts.Lex.exact [] (.agg #[.int .i64 v2, .int .u64 (c2.toNat : Int)]) (by kernel_rfl)
  · intro u W hC _
    obtain ⟨x0, x1, _, _⟩ := lab_cells (keepB A0 hC)
    obtain ⟨y0, y1, _, _⟩ := lab_cells (keepB B0 hC)
    unfold Facts.one
    go_simp
    first | exact ⟨Grew.refl _, rfl⟩ | rfl
  simp only [Act.put, List.setIfInBounds_toArray, List.set_cons_zero, List.set_cons_succ, Nat.reduceAdd]
  apply Facts.Lex.exact [] (.int .i64 o) (by kernel_rfl)
  · intro u W hC _
    obtain ⟨x0, x1, _, _⟩ := lab_cells (keepB A0 hC)
    obtain ⟨y0, y1, _, _⟩ := lab_cells (keepB B0 hC)
    unfold Facts.one
    go_simp
    first | exact ⟨Grew.refl _, rfl⟩ | rfl | (refine (HCM.out W).mono ?_; rintro e w' ⟨rfl, hg⟩; exact ⟨_, rfl, hg, rfl⟩)
  simp only [Act.put, List.setIfInBounds_toArray, List.set_cons_zero, List.set_cons_succ, Nat.reduceAdd]
  apply Facts.Lex.exact [] (.agg #[.int .i64 v, .int .u64 (c.toNat : Int)]) (by kernel_rfl)
  · intro u W hC _
    obtain ⟨x0, x1, _, _⟩ := lab_cells (keepB A0 hC)
    obtain ⟨y0, y1, _, _⟩ := lab_cells (keepB B0 hC)
    unfold Facts.one
    go_simp
    first | exact ⟨Grew.refl _, rfl⟩ | rfl
  simp only [Act.put, List.setIfInBounds_toArray, List.set_cons_zero, List.set_cons_succ, Nat.reduceAdd]
  apply Facts.Lex.exact [] (.agg #[.int .i64 v2, .int .u64 (c2.toNat : Int)]) (by kernel_rfl)
  · intro u W hC _
    obtain ⟨x0, x1, _, _⟩ := lab_cells (keepB A0 hC)
    obtain ⟨y0, y1, _, _⟩ := lab_cells (keepB B0 hC)
    unfold Facts.one
    go_simp
    first | exact ⟨Grew.refl _, rfl⟩ | rfl
  simp only [Act.put, List.setIfInBounds_toArray, List.set_cons_zero, List.set_cons_succ, Nat.reduceAdd]
  apply Facts.Lex.exact [] (.int .i64 o) (by kernel_rfl)
  · intro u W hC _
    obtain ⟨x0, x1, _, _⟩ := lab_cells (keepB A0 hC)
    obtain ⟨y0, y1, _, _⟩ := lab_cells (keepB B0 hC)
    unfold Facts.one
    go_simp
    first | exact ⟨Grew.refl _, rfl⟩ | rfl | (refine (HRC.out W).mono ?_; rintro e w' ⟨rfl, hg⟩; exact ⟨_, rfl, hg, rfl⟩)
  simp only [Act.put, List.setIfInBounds_toArray, List.set_cons_zero, List.set_cons_succ, Nat.reduceAdd]
  apply Facts.Lex.exact [] (.bool true) (by kernel_rfl)
  · intro u W hC _
    obtain ⟨x0, x1, _, _⟩ := lab_cells (keepB A0 hC)
    obtain ⟨y0, y1, _, _⟩ := lab_cells (keepB B0 hC)
    unfold Facts.one
    go_simp
    first | exact ⟨Grew.refl _, rfl⟩ | rfl
  simp only [Act.put, List.setIfInBounds_toArray, List.set_cons_zero, List.set_cons_succ, Nat.reduceAdd]
  apply Facts.Lex.exact [] (.bool true) (by kernel_rfl)
  · intro u W hC _
    obtain ⟨x0, x1, _, _⟩ := lab_cells (keepB A0 hC)
    obtain ⟨y0, y1, _, _⟩ := lab_cells (keepB B0 hC)
    unfold Facts.one
    go_simp
    first | exact ⟨Grew.refl _, rfl⟩ | rfl
  simp only [Act.put, List.setIfInBounds_toArray, List.set_cons_zero, List.set_cons_succ, Nat.reduceAdd]
  apply Facts.Lex.exact [] (.bool true) (by kernel_rfl)
  · intro u W hC _
    obtain ⟨x0, x1, _, _⟩ := lab_cells (keepB A0 hC)
    obtain ⟨y0, y1, _, _⟩ := lab_cells (keepB B0 hC)
    unfold Facts.one
    go_simp
    first | exact ⟨Grew.refl _, rfl⟩ | rfl
  simp only [Act.put, List.setIfInBounds_toArray, List.set_cons_zero, List.set_cons_succ, Nat.reduceAdd]
  apply Facts.Lex.exact [] (.agg #[.int .i64 v, .int .u64 (c.toNat : Int)]) (by kernel_rfl)
  · intro u W hC _
    obtain ⟨x0, x1, _, _⟩ := lab_cells (keepB A0 hC)
    obtain ⟨y0, y1, _, _⟩ := lab_cells (keepB B0 hC)
    unfold Facts.one
    go_simp
    first | exact ⟨Grew.refl _, rfl⟩ | rfl
  simp only [Act.put, List.setIfInBounds_toArray, List.set_cons_zero, List.set_cons_succ, Nat.reduceAdd]
  refine Facts.Lex.know [] (fun x W => Is W x (nums c)) (by kernel_rfl) (fun _ _ _ h hg => h.grew hg) ?_ ?_
  · intro u W hC _
    obtain ⟨x0, x1, _, _⟩ := lab_cells (keepB A0 hC)
    obtain ⟨y0, y1, _, _⟩ := lab_cells (keepB B0 hC)
    unfold Facts.one
    go_simp
    refine (bits_any v c W (HE.out W (HG.out.trans hC)) (by have := hC.size; have := HG.out.size; have := HS.out; omega)).mono ?_
    rintro e w' ⟨x, rfl, hi, hg⟩
    exact ⟨_, rfl, hg, hi⟩
  simp only [Act.put, List.setIfInBounds_toArray, List.set_cons_zero, List.set_cons_succ, Nat.reduceAdd]
  apply Facts.Lex.exact [] (.agg #[.int .i64 v, .int .u64 (c.toNat : Int)]) (by kernel_rfl)
  · intro u W hC _
    obtain ⟨x0, x1, _, _⟩ := lab_cells (keepB A0 hC)
    obtain ⟨y0, y1, _, _⟩ := lab_cells (keepB B0 hC)
    unfold Facts.one
    go_simp
    first | exact ⟨Grew.refl _, rfl⟩ | rfl
  simp only [Act.put, List.setIfInBounds_toArray, List.set_cons_zero, List.set_cons_succ, Nat.reduceAdd]
  refine Facts.Lex.know [] (fun x W => Is W x (nums c)) (by kernel_rfl) (fun _ _ _ h hg => h.grew hg) ?_ ?_
  · intro u W hC _
    obtain ⟨x0, x1, _, _⟩ := lab_cells (keepB A0 hC)
    obtain ⟨y0, y1, _, _⟩ := lab_cells (keepB B0 hC)
    unfold Facts.one
    go_simp
    refine (rbits_any v c W).mono ?_
    rintro e w' ⟨x, rfl, hi, hg⟩
    exact ⟨_, rfl, hg, hi⟩
  simp only [Act.put, List.setIfInBounds_toArray, List.set_cons_zero, List.set_cons_succ, Nat.reduceAdd]
  apply Facts.Lex.exact [46, 48] (.bool true) (by kernel_rfl)
  · intro u W hC hK
    have h48 : Is W (u 48) (nums c) := hK.1
    have h46 : Is W (u 46) (nums c) := hK.2.1
    unfold Facts.one
    go_simp
    refine (ints_any W _ _ _ _ h46 h48).mono ?_
    rintro e w' ⟨rfl, hg⟩
    exact ⟨_, rfl, hg, by rw [decide_eq_true rfl]⟩
  simp only [Act.put, List.setIfInBounds_toArray, List.set_cons_zero, List.set_cons_succ, Nat.reduceAdd]
  apply Facts.Lex.exact [] (.bool true) (by kernel_rfl)
  · intro u W hC _
    obtain ⟨x0, x1, _, _⟩ := lab_cells (keepB A0 hC)
    obtain ⟨y0, y1, _, _⟩ := lab_cells (keepB B0 hC)
    unfold Facts.one
    go_simp
    first | exact ⟨Grew.refl _, rfl⟩ | rfl
  simp only [Act.put, List.setIfInBounds_toArray, List.set_cons_zero, List.set_cons_succ, Nat.reduceAdd]
  apply Facts.Lex.exact [] (.bool true) (by kernel_rfl)
  · intro u W hC _
    obtain ⟨x0, x1, _, _⟩ := lab_cells (keepB A0 hC)
    obtain ⟨y0, y1, _, _⟩ := lab_cells (keepB B0 hC)
    unfold Facts.one
    go_simp
    first | exact ⟨Grew.refl _, rfl⟩ | rfl
  simp only [Act.put, List.setIfInBounds_toArray, List.set_cons_zero, List.set_cons_succ, Nat.reduceAdd]
  refine Facts.Lex.done fun u W2 hC hL => ?_
  have G2 := Lib.hid (HG.out.trans hC)
  clear hC hL A0 B0
  go_wp2
  go_returns
  exact ⟨rfl, G2.out⟩

set_option maxRecDepth 100000 in
set_option maxHeartbeats 8000000 in
theorem law_in (v v2 : Int) (c c2 : BitVec 64) (bit : Nat) (hb : bit < 64) (w : World) (hE : Env w) : Calls Tryd.prog 3 #[.agg #[.int .i64 v, .int .u64 (c.toNat : Int)], .agg #[.int .i64 v2, .int .u64 (c2.toNat : Int)], .int .i64 (bit : Int)] w fun e W' => e = .returned (.bool true) ∧ Grew w W' := by
  have HE : Hid (∀ W, Grew w W → Env W) := Lib.hid fun W hg => hE.grow hg
  have HRI := Lib.hid (fun W => right_any v c W)
  have HRR := Lib.hid (fun W => rright_any v c W)
  have HLE := Lib.hid (fun W => leq_any v c v2 c2 W)
  have HRL := Lib.hid (fun W => rleq_any v c v2 c2 W)
  have HJO := Lib.hid (fun W => join_any v c v2 c2 W)
  have HRJ := Lib.hid (fun W => rjoin_any v c v2 c2 W)
  have HME := Lib.hid (fun W => meet_any v c v2 c2 W)
  have HRM := Lib.hid (fun W => rmeet_any v c v2 c2 W)
  have HCM := Lib.hid (fun W => cmp_any v c v2 c2 W)
  have HRC := Lib.hid (fun W => rcmp_any v c v2 c2 W)
  generalize may v = r at *
  generalize le v c v2 c2 = p at *
  generalize max v v2 = lj at *
  generalize min v v2 = lm at *
  generalize c ||| c2 = dj at *
  generalize c &&& c2 = dm at *
  generalize order v c v2 c2 = o at *
  have HH := Lib.hid (fun W => hall_any (bit : Int) W)
  rw [if_pos (by omega), if_pos (by omega), Int.toNat_natCast] at HH
  have HN1 := Lib.hid (nums_one bit hb)
  have h0 : decide ((bit : Int) < 0) = false := decide_eq_false (by omega)
  have h1 : decide (63 < (bit : Int)) = false := decide_eq_false (by omega)
  generalize BitVec.twoPow 64 bit = d at *
  have A0 : ((w.alloc (Obj.cells #[Value.int IntKind.i64 v, Value.int IntKind.u64 (c.toNat : Int)] 24)).alloc (Obj.cells #[Value.int IntKind.i64 v2, Value.int IntKind.u64 (c2.toNat : Int)] 24)).heap[w.heap.size]? = some (lc v c) := heap_alloc2_old w _ _
  have B0 : ((w.alloc (Obj.cells #[Value.int IntKind.i64 v, Value.int IntKind.u64 (c.toNat : Int)] 24)).alloc (Obj.cells #[Value.int IntKind.i64 v2, Value.int IntKind.u64 (c2.toNat : Int)] 24)).heap[w.heap.size + 1]? = some (lc v2 c2) := heap_alloc2_new w _ _
  have g0 : Grew w ((w.alloc (Obj.cells #[Value.int IntKind.i64 v, Value.int IntKind.u64 (c.toNat : Int)] 24)).alloc (Obj.cells #[Value.int IntKind.i64 v2, Value.int IntKind.u64 (c2.toNat : Int)] 24)) := by unfold Grew; go_grown
  have s0 : 0 < ((w.alloc (Obj.cells #[Value.int IntKind.i64 v, Value.int IntKind.u64 (c.toNat : Int)] 24)).alloc (Obj.cells #[Value.int IntKind.i64 v2, Value.int IntKind.u64 (c2.toNat : Int)] 24)).heap.size := by simp
  have HA := Lib.hid A0
  have HB := Lib.hid B0
  have HG0 := Lib.hid g0
  have HS0 := Lib.hid s0
  clear A0 B0 g0 s0
  go_enter Tryd.func3, Tryd.ntmps3
  go_wp2_with fail
  refine (HH.out _).mono ?_
  rintro e w1 ⟨rfl, hg⟩
  have g1 : Grew w1 (w1.alloc (.cells #[.int .i64 0, .int .u64 (d.toNat : Int)] 24)) := by unfold Grew; go_grown
  have A1 := Lib.hid (keepB (keepB HA.out hg) g1)
  have B1 := Lib.hid (keepB (keepB HB.out hg) g1)
  have HG1 := Lib.hid ((HG0.out.trans hg).trans g1)
  have HS1 : Hid (0 < (w1.alloc (.cells #[.int .i64 0, .int .u64 (d.toNat : Int)] 24)).heap.size) := Lib.hid (by simp)
  clear hg g1
  go_wp2_with fail
  refine (bits_any 0 d _ (HE.out _ HG1.out) HS1.out).mono ?_
  rintro e w2 ⟨x, rfl, hi, hg⟩
  have IX := Lib.hid hi
  have A2 := Lib.hid (keepB A1.out hg)
  have B2 := Lib.hid (keepB B1.out hg)
  have HG2 := Lib.hid (HG1.out.trans hg)
  clear hg hi
  have IO := Lib.hid (is_one w2 (bit : Int))
  have g2 : Grew w2 (w2.alloc (.cells #[.int .i64 (bit : Int)] 3)) := by unfold Grew; go_grown
  have IX2 := Lib.hid (IX.out.grew g2)
  have A3 := Lib.hid (keepB A2.out g2)
  have B3 := Lib.hid (keepB B2.out g2)
  have HG3 := Lib.hid (HG2.out.trans g2)
  clear g2
  go_wp2_with fail
  refine (ints_any _ _ _ _ _ IX2.out IO.out).mono ?_
  rintro e W0 ⟨rfl, hg⟩
  rw [HN1.out, decide_eq_true rfl]
  have A0 := keepB A3.out hg
  have B0 := keepB B3.out hg
  have HG := Lib.hid (HG3.out.trans hg)
  have HS : Hid (0 < W0.heap.size) := Lib.hid (by have := (Array.getElem?_eq_some_iff.1 A0).1; omega)
  clear hg
  go_wp2
  refine Facts.wp_region_text (by kernel_rfl) (by kernel_rfl) ?_
  apply Facts.Lex.exact [] (.bool true) (by kernel_rfl)
  · intro u W hC _
    obtain ⟨x0, x1, _, _⟩ := lab_cells (keepB A0 hC)
    obtain ⟨y0, y1, _, _⟩ := lab_cells (keepB B0 hC)
    unfold Facts.one
    go_simp
    first | exact ⟨Grew.refl _, rfl⟩ | rfl | (refine (alive_any W (HE.out W (HG.out.trans hC))).mono ?_; rintro e w' ⟨rfl, hg⟩; exact ⟨_, rfl, hg, rfl⟩)
  simp only [Act.put, List.setIfInBounds_toArray, List.set_cons_zero, List.set_cons_succ, Nat.reduceAdd]
  apply Facts.Lex.exact [] (.bool true) (by kernel_rfl)
  · intro u W hC _
    obtain ⟨x0, x1, _, _⟩ := lab_cells (keepB A0 hC)
    obtain ⟨y0, y1, _, _⟩ := lab_cells (keepB B0 hC)
    unfold Facts.one
    go_simp
    first | exact ⟨Grew.refl _, rfl⟩ | rfl
  simp only [Act.put, List.setIfInBounds_toArray, List.set_cons_zero, List.set_cons_succ, Nat.reduceAdd]
  apply Facts.Lex.exact [] (.agg #[.int .i64 v, .int .u64 (c.toNat : Int)]) (by kernel_rfl)
  · intro u W hC _
    obtain ⟨x0, x1, _, _⟩ := lab_cells (keepB A0 hC)
    obtain ⟨y0, y1, _, _⟩ := lab_cells (keepB B0 hC)
    unfold Facts.one
    go_simp
    first | exact ⟨Grew.refl _, rfl⟩ | rfl
  simp only [Act.put, List.setIfInBounds_toArray, List.set_cons_zero, List.set_cons_succ, Nat.reduceAdd]
  apply Facts.Lex.exact [] (.bool r) (by kernel_rfl)
  · intro u W hC _
    obtain ⟨x0, x1, _, _⟩ := lab_cells (keepB A0 hC)
    obtain ⟨y0, y1, _, _⟩ := lab_cells (keepB B0 hC)
    unfold Facts.one
    go_simp
    first | exact ⟨Grew.refl _, rfl⟩ | rfl | (refine (HRI.out W).mono ?_; rintro e w' ⟨rfl, hg⟩; exact ⟨_, rfl, hg, rfl⟩)
  simp only [Act.put, List.setIfInBounds_toArray, List.set_cons_zero, List.set_cons_succ, Nat.reduceAdd]
  apply Facts.Lex.exact [] (.agg #[.int .i64 v, .int .u64 (c.toNat : Int)]) (by kernel_rfl)
  · intro u W hC _
    obtain ⟨x0, x1, _, _⟩ := lab_cells (keepB A0 hC)
    obtain ⟨y0, y1, _, _⟩ := lab_cells (keepB B0 hC)
    unfold Facts.one
    go_simp
    first | exact ⟨Grew.refl _, rfl⟩ | rfl
  simp only [Act.put, List.setIfInBounds_toArray, List.set_cons_zero, List.set_cons_succ, Nat.reduceAdd]
  apply Facts.Lex.exact [] (.bool r) (by kernel_rfl)
  · intro u W hC _
    obtain ⟨x0, x1, _, _⟩ := lab_cells (keepB A0 hC)
    obtain ⟨y0, y1, _, _⟩ := lab_cells (keepB B0 hC)
    unfold Facts.one
    go_simp
    first | exact ⟨Grew.refl _, rfl⟩ | rfl | (refine (HRR.out W).mono ?_; rintro e w' ⟨rfl, hg⟩; exact ⟨_, rfl, hg, rfl⟩)
  simp only [Act.put, List.setIfInBounds_toArray, List.set_cons_zero, List.set_cons_succ, Nat.reduceAdd]
  apply Facts.Lex.exact [] (.bool true) (by kernel_rfl)
  · intro u W hC _
    obtain ⟨x0, x1, _, _⟩ := lab_cells (keepB A0 hC)
    obtain ⟨y0, y1, _, _⟩ := lab_cells (keepB B0 hC)
    unfold Facts.one
    go_simp
    first | exact ⟨Grew.refl _, rfl⟩ | rfl
  simp only [Act.put, List.setIfInBounds_toArray, List.set_cons_zero, List.set_cons_succ, Nat.reduceAdd]
  apply Facts.Lex.exact [] (.bool true) (by kernel_rfl)
  · intro u W hC _
    obtain ⟨x0, x1, _, _⟩ := lab_cells (keepB A0 hC)
    obtain ⟨y0, y1, _, _⟩ := lab_cells (keepB B0 hC)
    unfold Facts.one
    go_simp
    first | exact ⟨Grew.refl _, rfl⟩ | rfl
  simp only [Act.put, List.setIfInBounds_toArray, List.set_cons_zero, List.set_cons_succ, Nat.reduceAdd]
  apply Facts.Lex.exact [] (.bool true) (by kernel_rfl)
  · intro u W hC _
    obtain ⟨x0, x1, _, _⟩ := lab_cells (keepB A0 hC)
    obtain ⟨y0, y1, _, _⟩ := lab_cells (keepB B0 hC)
    unfold Facts.one
    go_simp
    first | exact ⟨Grew.refl _, rfl⟩ | rfl
  simp only [Act.put, List.setIfInBounds_toArray, List.set_cons_zero, List.set_cons_succ, Nat.reduceAdd]
  apply Facts.Lex.exact [] (.agg #[.int .i64 v, .int .u64 (c.toNat : Int)]) (by kernel_rfl)
  · intro u W hC _
    obtain ⟨x0, x1, _, _⟩ := lab_cells (keepB A0 hC)
    obtain ⟨y0, y1, _, _⟩ := lab_cells (keepB B0 hC)
    unfold Facts.one
    go_simp
    first | exact ⟨Grew.refl _, rfl⟩ | rfl
  simp only [Act.put, List.setIfInBounds_toArray, List.set_cons_zero, List.set_cons_succ, Nat.reduceAdd]
  apply Facts.Lex.exact [] (.agg #[.int .i64 v2, .int .u64 (c2.toNat : Int)]) (by kernel_rfl)
  · intro u W hC _
    obtain ⟨x0, x1, _, _⟩ := lab_cells (keepB A0 hC)
    obtain ⟨y0, y1, _, _⟩ := lab_cells (keepB B0 hC)
    unfold Facts.one
    go_simp
    first | exact ⟨Grew.refl _, rfl⟩ | rfl
  simp only [Act.put, List.setIfInBounds_toArray, List.set_cons_zero, List.set_cons_succ, Nat.reduceAdd]
  apply Facts.Lex.exact [] (.bool p) (by kernel_rfl)
  · intro u W hC _
    obtain ⟨x0, x1, _, _⟩ := lab_cells (keepB A0 hC)
    obtain ⟨y0, y1, _, _⟩ := lab_cells (keepB B0 hC)
    unfold Facts.one
    go_simp
    first | exact ⟨Grew.refl _, rfl⟩ | rfl | (refine (HLE.out W).mono ?_; rintro e w' ⟨rfl, hg⟩; exact ⟨_, rfl, hg, rfl⟩)
  simp only [Act.put, List.setIfInBounds_toArray, List.set_cons_zero, List.set_cons_succ, Nat.reduceAdd]
  apply Facts.Lex.exact [] (.agg #[.int .i64 v, .int .u64 (c.toNat : Int)]) (by kernel_rfl)
  · intro u W hC _
    obtain ⟨x0, x1, _, _⟩ := lab_cells (keepB A0 hC)
    obtain ⟨y0, y1, _, _⟩ := lab_cells (keepB B0 hC)
    unfold Facts.one
    go_simp
    first | exact ⟨Grew.refl _, rfl⟩ | rfl
  simp only [Act.put, List.setIfInBounds_toArray, List.set_cons_zero, List.set_cons_succ, Nat.reduceAdd]
  apply Facts.Lex.exact [] (.agg #[.int .i64 v2, .int .u64 (c2.toNat : Int)]) (by kernel_rfl)
  · intro u W hC _
    obtain ⟨x0, x1, _, _⟩ := lab_cells (keepB A0 hC)
    obtain ⟨y0, y1, _, _⟩ := lab_cells (keepB B0 hC)
    unfold Facts.one
    go_simp
    first | exact ⟨Grew.refl _, rfl⟩ | rfl
  simp only [Act.put, List.setIfInBounds_toArray, List.set_cons_zero, List.set_cons_succ, Nat.reduceAdd]
  apply Facts.Lex.exact [] (.bool p) (by kernel_rfl)
  · intro u W hC _
    obtain ⟨x0, x1, _, _⟩ := lab_cells (keepB A0 hC)
    obtain ⟨y0, y1, _, _⟩ := lab_cells (keepB B0 hC)
    unfold Facts.one
    go_simp
    first | exact ⟨Grew.refl _, rfl⟩ | rfl | (refine (HRL.out W).mono ?_; rintro e w' ⟨rfl, hg⟩; exact ⟨_, rfl, hg, rfl⟩)
  simp only [Act.put, List.setIfInBounds_toArray, List.set_cons_zero, List.set_cons_succ, Nat.reduceAdd]
  apply Facts.Lex.exact [] (.bool true) (by kernel_rfl)
  · intro u W hC _
    obtain ⟨x0, x1, _, _⟩ := lab_cells (keepB A0 hC)
    obtain ⟨y0, y1, _, _⟩ := lab_cells (keepB B0 hC)
    unfold Facts.one
    go_simp
    first | exact ⟨Grew.refl _, rfl⟩ | rfl
  simp only [Act.put, List.setIfInBounds_toArray, List.set_cons_zero, List.set_cons_succ, Nat.reduceAdd]
  apply Facts.Lex.exact [] (.bool true) (by kernel_rfl)
  · intro u W hC _
    obtain ⟨x0, x1, _, _⟩ := lab_cells (keepB A0 hC)
    obtain ⟨y0, y1, _, _⟩ := lab_cells (keepB B0 hC)
    unfold Facts.one
    go_simp
    first | exact ⟨Grew.refl _, rfl⟩ | rfl
  simp only [Act.put, List.setIfInBounds_toArray, List.set_cons_zero, List.set_cons_succ, Nat.reduceAdd]
  apply Facts.Lex.exact [] (.bool true) (by kernel_rfl)
  · intro u W hC _
    obtain ⟨x0, x1, _, _⟩ := lab_cells (keepB A0 hC)
    obtain ⟨y0, y1, _, _⟩ := lab_cells (keepB B0 hC)
    unfold Facts.one
    go_simp
    first | exact ⟨Grew.refl _, rfl⟩ | rfl
  simp only [Act.put, List.setIfInBounds_toArray, List.set_cons_zero, List.set_cons_succ, Nat.reduceAdd]
  apply Facts.Lex.exact [] (.agg #[.int .i64 v, .int .u64 (c.toNat : Int)]) (by kernel_rfl)
  · intro u W hC _
    obtain ⟨x0, x1, _, _⟩ := lab_cells (keepB A0 hC)
    obtain ⟨y0, y1, _, _⟩ := lab_cells (keepB B0 hC)
    unfold Facts.one
    go_simp
    first | exact ⟨Grew.refl _, rfl⟩ | rfl
  simp only [Act.put, List.setIfInBounds_toArray, List.set_cons_zero, List.set_cons_succ, Nat.reduceAdd]
  apply Facts.Lex.exact [] (.agg #[.int .i64 v2, .int .u64 (c2.toNat : Int)]) (by kernel_rfl)
  · intro u W hC _
    obtain ⟨x0, x1, _, _⟩ := lab_cells (keepB A0 hC)
    obtain ⟨y0, y1, _, _⟩ := lab_cells (keepB B0 hC)
    unfold Facts.one
    go_simp
    first | exact ⟨Grew.refl _, rfl⟩ | rfl
  simp only [Act.put, List.setIfInBounds_toArray, List.set_cons_zero, List.set_cons_succ, Nat.reduceAdd]
  apply Facts.Lex.exact [] (.agg #[.int .i64 lj, .int .u64 (dj.toNat : Int)]) (by kernel_rfl)
  · intro u W hC _
    obtain ⟨x0, x1, _, _⟩ := lab_cells (keepB A0 hC)
    obtain ⟨y0, y1, _, _⟩ := lab_cells (keepB B0 hC)
    unfold Facts.one
    go_simp
    first | exact ⟨Grew.refl _, rfl⟩ | rfl | (refine (HJO.out W).mono ?_; rintro e w' ⟨rfl, hg⟩; exact ⟨_, rfl, hg, rfl⟩)
  simp only [Act.put, List.setIfInBounds_toArray, List.set_cons_zero, List.set_cons_succ, Nat.reduceAdd]
  apply Facts.Lex.exact [] (.agg #[.int .i64 v, .int .u64 (c.toNat : Int)]) (by kernel_rfl)
  · intro u W hC _
    obtain ⟨x0, x1, _, _⟩ := lab_cells (keepB A0 hC)
    obtain ⟨y0, y1, _, _⟩ := lab_cells (keepB B0 hC)
    unfold Facts.one
    go_simp
    first | exact ⟨Grew.refl _, rfl⟩ | rfl
  simp only [Act.put, List.setIfInBounds_toArray, List.set_cons_zero, List.set_cons_succ, Nat.reduceAdd]
  apply Facts.Lex.exact [] (.agg #[.int .i64 v2, .int .u64 (c2.toNat : Int)]) (by kernel_rfl)
  · intro u W hC _
    obtain ⟨x0, x1, _, _⟩ := lab_cells (keepB A0 hC)
    obtain ⟨y0, y1, _, _⟩ := lab_cells (keepB B0 hC)
    unfold Facts.one
    go_simp
    first | exact ⟨Grew.refl _, rfl⟩ | rfl
  simp only [Act.put, List.setIfInBounds_toArray, List.set_cons_zero, List.set_cons_succ, Nat.reduceAdd]
  apply Facts.Lex.exact [] (.agg #[.int .i64 lj, .int .u64 (dj.toNat : Int)]) (by kernel_rfl)
  · intro u W hC _
    obtain ⟨x0, x1, _, _⟩ := lab_cells (keepB A0 hC)
    obtain ⟨y0, y1, _, _⟩ := lab_cells (keepB B0 hC)
    unfold Facts.one
    go_simp
    first | exact ⟨Grew.refl _, rfl⟩ | rfl | (refine (HRJ.out W).mono ?_; rintro e w' ⟨rfl, hg⟩; exact ⟨_, rfl, hg, rfl⟩)
  simp only [Act.put, List.setIfInBounds_toArray, List.set_cons_zero, List.set_cons_succ, Nat.reduceAdd]
  apply Facts.Lex.exact [] (.bool true) (by kernel_rfl)
  · intro u W hC _
    obtain ⟨x0, x1, _, _⟩ := lab_cells (keepB A0 hC)
    obtain ⟨y0, y1, _, _⟩ := lab_cells (keepB B0 hC)
    unfold Facts.one
    go_simp
    first | exact ⟨Grew.refl _, rfl⟩ | rfl
  simp only [Act.put, List.setIfInBounds_toArray, List.set_cons_zero, List.set_cons_succ, Nat.reduceAdd]
  apply Facts.Lex.exact [] (.bool true) (by kernel_rfl)
  · intro u W hC _
    obtain ⟨x0, x1, _, _⟩ := lab_cells (keepB A0 hC)
    obtain ⟨y0, y1, _, _⟩ := lab_cells (keepB B0 hC)
    unfold Facts.one
    go_simp
    first | exact ⟨Grew.refl _, rfl⟩ | rfl
  simp only [Act.put, List.setIfInBounds_toArray, List.set_cons_zero, List.set_cons_succ, Nat.reduceAdd]
  apply Facts.Lex.exact [] (.bool true) (by kernel_rfl)
  · intro u W hC _
    obtain ⟨x0, x1, _, _⟩ := lab_cells (keepB A0 hC)
    obtain ⟨y0, y1, _, _⟩ := lab_cells (keepB B0 hC)
    unfold Facts.one
    go_simp
    first | exact ⟨Grew.refl _, rfl⟩ | rfl
  simp only [Act.put, List.setIfInBounds_toArray, List.set_cons_zero, List.set_cons_succ, Nat.reduceAdd]
  apply Facts.Lex.exact [] (.agg #[.int .i64 v, .int .u64 (c.toNat : Int)]) (by kernel_rfl)
  · intro u W hC _
    obtain ⟨x0, x1, _, _⟩ := lab_cells (keepB A0 hC)
    obtain ⟨y0, y1, _, _⟩ := lab_cells (keepB B0 hC)
    unfold Facts.one
    go_simp
    first | exact ⟨Grew.refl _, rfl⟩ | rfl
  simp only [Act.put, List.setIfInBounds_toArray, List.set_cons_zero, List.set_cons_succ, Nat.reduceAdd]
  apply Facts.Lex.exact [] (.agg #[.int .i64 v2, .int .u64 (c2.toNat : Int)]) (by kernel_rfl)
  · intro u W hC _
    obtain ⟨x0, x1, _, _⟩ := lab_cells (keepB A0 hC)
    obtain ⟨y0, y1, _, _⟩ := lab_cells (keepB B0 hC)
    unfold Facts.one
    go_simp
    first | exact ⟨Grew.refl _, rfl⟩ | rfl
  simp only [Act.put, List.setIfInBounds_toArray, List.set_cons_zero, List.set_cons_succ, Nat.reduceAdd]
  apply Facts.Lex.exact [] (.agg #[.int .i64 lm, .int .u64 (dm.toNat : Int)]) (by kernel_rfl)
  · intro u W hC _
    obtain ⟨x0, x1, _, _⟩ := lab_cells (keepB A0 hC)
    obtain ⟨y0, y1, _, _⟩ := lab_cells (keepB B0 hC)
    unfold Facts.one
    go_simp
    first | exact ⟨Grew.refl _, rfl⟩ | rfl | (refine (HME.out W).mono ?_; rintro e w' ⟨rfl, hg⟩; exact ⟨_, rfl, hg, rfl⟩)
  simp only [Act.put, List.setIfInBounds_toArray, List.set_cons_zero, List.set_cons_succ, Nat.reduceAdd]
  apply Facts.Lex.exact [] (.agg #[.int .i64 v, .int .u64 (c.toNat : Int)]) (by kernel_rfl)
  · intro u W hC _
    obtain ⟨x0, x1, _, _⟩ := lab_cells (keepB A0 hC)
    obtain ⟨y0, y1, _, _⟩ := lab_cells (keepB B0 hC)
    unfold Facts.one
    go_simp
    first | exact ⟨Grew.refl _, rfl⟩ | rfl
  simp only [Act.put, List.setIfInBounds_toArray, List.set_cons_zero, List.set_cons_succ, Nat.reduceAdd]
  apply Facts.Lex.exact [] (.agg #[.int .i64 v2, .int .u64 (c2.toNat : Int)]) (by kernel_rfl)
  · intro u W hC _
    obtain ⟨x0, x1, _, _⟩ := lab_cells (keepB A0 hC)
    obtain ⟨y0, y1, _, _⟩ := lab_cells (keepB B0 hC)
    unfold Facts.one
    go_simp
    first | exact ⟨Grew.refl _, rfl⟩ | rfl
  simp only [Act.put, List.setIfInBounds_toArray, List.set_cons_zero, List.set_cons_succ, Nat.reduceAdd]
  apply Facts.Lex.exact [] (.agg #[.int .i64 lm, .int .u64 (dm.toNat : Int)]) (by kernel_rfl)
  · intro u W hC _
    obtain ⟨x0, x1, _, _⟩ := lab_cells (keepB A0 hC)
    obtain ⟨y0, y1, _, _⟩ := lab_cells (keepB B0 hC)
    unfold Facts.one
    go_simp
    first | exact ⟨Grew.refl _, rfl⟩ | rfl | (refine (HRM.out W).mono ?_; rintro e w' ⟨rfl, hg⟩; exact ⟨_, rfl, hg, rfl⟩)
  simp only [Act.put, List.setIfInBounds_toArray, List.set_cons_zero, List.set_cons_succ, Nat.reduceAdd]
  apply Facts.Lex.exact [] (.bool true) (by kernel_rfl)
  · intro u W hC _
    obtain ⟨x0, x1, _, _⟩ := lab_cells (keepB A0 hC)
    obtain ⟨y0, y1, _, _⟩ := lab_cells (keepB B0 hC)
    unfold Facts.one
    go_simp
    first | exact ⟨Grew.refl _, rfl⟩ | rfl
  simp only [Act.put, List.setIfInBounds_toArray, List.set_cons_zero, List.set_cons_succ, Nat.reduceAdd]
  apply Facts.Lex.exact [] (.bool true) (by kernel_rfl)
  · intro u W hC _
    obtain ⟨x0, x1, _, _⟩ := lab_cells (keepB A0 hC)
    obtain ⟨y0, y1, _, _⟩ := lab_cells (keepB B0 hC)
    unfold Facts.one
    go_simp
    first | exact ⟨Grew.refl _, rfl⟩ | rfl
  simp only [Act.put, List.setIfInBounds_toArray, List.set_cons_zero, List.set_cons_succ, Nat.reduceAdd]
  apply Facts.Lex.exact [] (.bool true) (by kernel_rfl)
  · intro u W hC _
    obtain ⟨x0, x1, _, _⟩ := lab_cells (keepB A0 hC)
    obtain ⟨y0, y1, _, _⟩ := lab_cells (keepB B0 hC)
    unfold Facts.one
    go_simp
    first | exact ⟨Grew.refl _, rfl⟩ | rfl
  simp only [Act.put, List.setIfInBounds_toArray, List.set_cons_zero, List.set_cons_succ, Nat.reduceAdd]
  apply Facts.Lex.exact [] (.agg #[.int .i64 v, .int .u64 (c.toNat : Int)]) (by kernel_rfl)
  · intro u W hC _
    obtain ⟨x0, x1, _, _⟩ := lab_cells (keepB A0 hC)
    obtain ⟨y0, y1, _, _⟩ := lab_cells (keepB B0 hC)
    unfold Facts.one
    go_simp
    first | exact ⟨Grew.refl _, rfl⟩ | rfl
  simp only [Act.put, List.setIfInBounds_toArray, List.set_cons_zero, List.set_cons_succ, Nat.reduceAdd]
  apply Facts.Lex.exact [] (.agg #[.int .i64 v2, .int .u64 (c2.toNat : Int)]) (by kernel_rfl)
  · intro u W hC _
    obtain ⟨x0, x1, _, _⟩ := lab_cells (keepB A0 hC)
    obtain ⟨y0, y1, _, _⟩ := lab_cells (keepB B0 hC)
    unfold Facts.one
    go_simp
    first | exact ⟨Grew.refl _, rfl⟩ | rfl
  simp only [Act.put, List.setIfInBounds_toArray, List.set_cons_zero, List.set_cons_succ, Nat.reduceAdd]
  apply Facts.Lex.exact [] (.int .i64 o) (by kernel_rfl)
  · intro u W hC _
    obtain ⟨x0, x1, _, _⟩ := lab_cells (keepB A0 hC)
    obtain ⟨y0, y1, _, _⟩ := lab_cells (keepB B0 hC)
    unfold Facts.one
    go_simp
    first | exact ⟨Grew.refl _, rfl⟩ | rfl | (refine (HCM.out W).mono ?_; rintro e w' ⟨rfl, hg⟩; exact ⟨_, rfl, hg, rfl⟩)
  simp only [Act.put, List.setIfInBounds_toArray, List.set_cons_zero, List.set_cons_succ, Nat.reduceAdd]
  apply Facts.Lex.exact [] (.agg #[.int .i64 v, .int .u64 (c.toNat : Int)]) (by kernel_rfl)
  · intro u W hC _
    obtain ⟨x0, x1, _, _⟩ := lab_cells (keepB A0 hC)
    obtain ⟨y0, y1, _, _⟩ := lab_cells (keepB B0 hC)
    unfold Facts.one
    go_simp
    first | exact ⟨Grew.refl _, rfl⟩ | rfl
  simp only [Act.put, List.setIfInBounds_toArray, List.set_cons_zero, List.set_cons_succ, Nat.reduceAdd]
  apply Facts.Lex.exact [] (.agg #[.int .i64 v2, .int .u64 (c2.toNat : Int)]) (by kernel_rfl)
  · intro u W hC _
    obtain ⟨x0, x1, _, _⟩ := lab_cells (keepB A0 hC)
    obtain ⟨y0, y1, _, _⟩ := lab_cells (keepB B0 hC)
    unfold Facts.one
    go_simp
    first | exact ⟨Grew.refl _, rfl⟩ | rfl
  simp only [Act.put, List.setIfInBounds_toArray, List.set_cons_zero, List.set_cons_succ, Nat.reduceAdd]
  apply Facts.Lex.exact [] (.int .i64 o) (by kernel_rfl)
  · intro u W hC _
    obtain ⟨x0, x1, _, _⟩ := lab_cells (keepB A0 hC)
    obtain ⟨y0, y1, _, _⟩ := lab_cells (keepB B0 hC)
    unfold Facts.one
    go_simp
    first | exact ⟨Grew.refl _, rfl⟩ | rfl | (refine (HRC.out W).mono ?_; rintro e w' ⟨rfl, hg⟩; exact ⟨_, rfl, hg, rfl⟩)
  simp only [Act.put, List.setIfInBounds_toArray, List.set_cons_zero, List.set_cons_succ, Nat.reduceAdd]
  apply Facts.Lex.exact [] (.bool true) (by kernel_rfl)
  · intro u W hC _
    obtain ⟨x0, x1, _, _⟩ := lab_cells (keepB A0 hC)
    obtain ⟨y0, y1, _, _⟩ := lab_cells (keepB B0 hC)
    unfold Facts.one
    go_simp
    first | exact ⟨Grew.refl _, rfl⟩ | rfl
  simp only [Act.put, List.setIfInBounds_toArray, List.set_cons_zero, List.set_cons_succ, Nat.reduceAdd]
  apply Facts.Lex.exact [] (.bool true) (by kernel_rfl)
  · intro u W hC _
    obtain ⟨x0, x1, _, _⟩ := lab_cells (keepB A0 hC)
    obtain ⟨y0, y1, _, _⟩ := lab_cells (keepB B0 hC)
    unfold Facts.one
    go_simp
    first | exact ⟨Grew.refl _, rfl⟩ | rfl
  simp only [Act.put, List.setIfInBounds_toArray, List.set_cons_zero, List.set_cons_succ, Nat.reduceAdd]
  apply Facts.Lex.exact [] (.bool true) (by kernel_rfl)
  · intro u W hC _
    obtain ⟨x0, x1, _, _⟩ := lab_cells (keepB A0 hC)
    obtain ⟨y0, y1, _, _⟩ := lab_cells (keepB B0 hC)
    unfold Facts.one
    go_simp
    first | exact ⟨Grew.refl _, rfl⟩ | rfl
  simp only [Act.put, List.setIfInBounds_toArray, List.set_cons_zero, List.set_cons_succ, Nat.reduceAdd]
  apply Facts.Lex.exact [] (.agg #[.int .i64 v, .int .u64 (c.toNat : Int)]) (by kernel_rfl)
  · intro u W hC _
    obtain ⟨x0, x1, _, _⟩ := lab_cells (keepB A0 hC)
    obtain ⟨y0, y1, _, _⟩ := lab_cells (keepB B0 hC)
    unfold Facts.one
    go_simp
    first | exact ⟨Grew.refl _, rfl⟩ | rfl
  simp only [Act.put, List.setIfInBounds_toArray, List.set_cons_zero, List.set_cons_succ, Nat.reduceAdd]
  refine Facts.Lex.know [] (fun x W => Is W x (nums c)) (by kernel_rfl) (fun _ _ _ h hg => h.grew hg) ?_ ?_
  · intro u W hC _
    obtain ⟨x0, x1, _, _⟩ := lab_cells (keepB A0 hC)
    obtain ⟨y0, y1, _, _⟩ := lab_cells (keepB B0 hC)
    unfold Facts.one
    go_simp
    refine (bits_any v c W (HE.out W (HG.out.trans hC)) (by have := hC.size; have := HG.out.size; have := HS.out; omega)).mono ?_
    rintro e w' ⟨x, rfl, hi, hg⟩
    exact ⟨_, rfl, hg, hi⟩
  simp only [Act.put, List.setIfInBounds_toArray, List.set_cons_zero, List.set_cons_succ, Nat.reduceAdd]
  apply Facts.Lex.exact [] (.agg #[.int .i64 v, .int .u64 (c.toNat : Int)]) (by kernel_rfl)
  · intro u W hC _
    obtain ⟨x0, x1, _, _⟩ := lab_cells (keepB A0 hC)
    obtain ⟨y0, y1, _, _⟩ := lab_cells (keepB B0 hC)
    unfold Facts.one
    go_simp
    first | exact ⟨Grew.refl _, rfl⟩ | rfl
  simp only [Act.put, List.setIfInBounds_toArray, List.set_cons_zero, List.set_cons_succ, Nat.reduceAdd]
  refine Facts.Lex.know [] (fun x W => Is W x (nums c)) (by kernel_rfl) (fun _ _ _ h hg => h.grew hg) ?_ ?_
  · intro u W hC _
    obtain ⟨x0, x1, _, _⟩ := lab_cells (keepB A0 hC)
    obtain ⟨y0, y1, _, _⟩ := lab_cells (keepB B0 hC)
    unfold Facts.one
    go_simp
    refine (rbits_any v c W).mono ?_
    rintro e w' ⟨x, rfl, hi, hg⟩
    exact ⟨_, rfl, hg, hi⟩
  simp only [Act.put, List.setIfInBounds_toArray, List.set_cons_zero, List.set_cons_succ, Nat.reduceAdd]
  apply Facts.Lex.exact [46, 48] (.bool true) (by kernel_rfl)
  · intro u W hC hK
    have h48 : Is W (u 48) (nums c) := hK.1
    have h46 : Is W (u 46) (nums c) := hK.2.1
    unfold Facts.one
    go_simp
    refine (ints_any W _ _ _ _ h46 h48).mono ?_
    rintro e w' ⟨rfl, hg⟩
    exact ⟨_, rfl, hg, by rw [decide_eq_true rfl]⟩
  simp only [Act.put, List.setIfInBounds_toArray, List.set_cons_zero, List.set_cons_succ, Nat.reduceAdd]
  apply Facts.Lex.exact [] (.bool true) (by kernel_rfl)
  · intro u W hC _
    obtain ⟨x0, x1, _, _⟩ := lab_cells (keepB A0 hC)
    obtain ⟨y0, y1, _, _⟩ := lab_cells (keepB B0 hC)
    unfold Facts.one
    go_simp
    first | exact ⟨Grew.refl _, rfl⟩ | rfl
  simp only [Act.put, List.setIfInBounds_toArray, List.set_cons_zero, List.set_cons_succ, Nat.reduceAdd]
  apply Facts.Lex.exact [] (.bool true) (by kernel_rfl)
  · intro u W hC _
    obtain ⟨x0, x1, _, _⟩ := lab_cells (keepB A0 hC)
    obtain ⟨y0, y1, _, _⟩ := lab_cells (keepB B0 hC)
    unfold Facts.one
    go_simp
    first | exact ⟨Grew.refl _, rfl⟩ | rfl
  simp only [Act.put, List.setIfInBounds_toArray, List.set_cons_zero, List.set_cons_succ, Nat.reduceAdd]
  refine Facts.Lex.done fun u W2 hC hL => ?_
  have G2 := Lib.hid (HG.out.trans hC)
  clear hC hL A0 B0
  go_wp2
  go_returns
  exact ⟨rfl, G2.out⟩

theorem law_any (v v2 : Int) (c c2 : BitVec 64) (bit : Int) (w : World) (hE : Env w) : Calls Tryd.prog 3 #[.agg #[.int .i64 v, .int .u64 (c.toNat : Int)], .agg #[.int .i64 v2, .int .u64 (c2.toNat : Int)], .int .i64 bit] w fun e W' => e = .returned (.bool true) ∧ Grew w W' := by
  by_cases h0 : bit < 0
  · exact law_neg v v2 c c2 bit (by omega) h0 w hE
  · by_cases h1 : 63 < bit
    · exact law_big v v2 c c2 bit (by omega) h1 w hE
    · obtain ⟨n, rfl⟩ := Int.eq_ofNat_of_zero_le (show 0 ≤ bit by omega)
      exact law_in v v2 c c2 n (by omega) w hE
end Go.Proofs.YtekodmnhheejkaaDoor.TellsLaw
