/-
  What must come of fixed calls on labels: it does.
  Conditions: the library's variables lie as the program's text lays them.
-/
import Derived.Test.YtekodmnhheejkaaDoorText
namespace Go.Proofs.YtekodmnhheejkaaDoor.Alive
open Go Go.RowKit Go.Proofs.YtekodmnhheejkaaDoor Go.Proofs.YtekodmnhheejkaaDoor.Facts Go.Proofs.YtekodmnhheejkaaDoor.Plain Go.Proofs.YtekodmnhheejkaaDoor.Bytes Go.Proofs.YtekodmnhheejkaaDoor.Each Go.Proofs.YtekodmnhheejkaaDoor.Print Go.Proofs.YtekodmnhheejkaaDoor.Comps Go.Proofs.YtekodmnhheejkaaDoor.Form Go.Proofs.YtekodmnhheejkaaDoor.Parse Go.Proofs.YtekodmnhheejkaaDoor.Text

theorem p1 : parse ⟨#[50, 44, 48, 44, 53]⟩ = some (2, 33#64) := by decide +kernel
theorem p2 : parse ⟨#[50, 44, 53, 44, 48]⟩ = none := by decide +kernel
theorem t1 : print 1 1#64 = ⟨#[49, 44, 48]⟩ := by decide +kernel
theorem f1 : form 2 33#64 = [2, 0, 0, 0, 0, 0, 0, 0, 33] := by decide +kernel
theorem v1 : val [0, 0, 0, 0, 0, 0, 0, 33] = 33#64 := by decide +kernel
theorem c1 : comps 33#64 = [0, 5] := by decide +kernel

theorem hall5 (w : World) : Calls Tryd.prog 8 #[.int .i64 5] w fun e w' => e = .returned (.tuple #[.agg #[.int .i64 0, .int .u64 32], .int .i64 0]) ∧ Grew w w' := hall_any 5 w
theorem formB (w : World) : Calls Tryd.prog 27 #[.agg #[.int .i64 2, .int .u64 33]] w fun e W' => ∃ v', e = .returned v' ∧ Rd (fun _ => True) W' v' [2, 0, 0, 0, 0, 0, 0, 0, 33] ∧ Grew w W' := by
  refine (form_any 2 33#64 w).mono ?_
  rintro e W' ⟨v', rfl, h, hg⟩
  rw [f1] at h
  exact ⟨v', rfl, h.mono fun _ _ => trivial, hg⟩
theorem readB (v : Value) (w : World) (h : Rd (fun _ => True) w v [2, 0, 0, 0, 0, 0, 0, 0, 33]) : Calls Tryd.prog 23 #[v] w fun e W' => e = .returned (.tuple #[.agg #[.int .i64 2, .int .u64 33], .int .i64 0]) ∧ Grew w W' := by
  have := read_nine v 2 [0, 0, 0, 0, 0, 0, 0, 33] w h rfl
  rw [v1] at this
  exact this
theorem parse1 (w : World) (hE : Env w) : Calls Tryd.prog 25 #[.string ⟨#[50, 44, 48, 44, 53]⟩] w fun e W' => e = .returned (.tuple #[.agg #[.int .i64 2, .int .u64 33], .int .i64 0]) ∧ Grew w W' := by
  have := parse_any ⟨#[50, 44, 48, 44, 53]⟩ (by decide) w hE
  rw [p1] at this
  exact this
theorem parse2 (w : World) (hE : Env w) : Calls Tryd.prog 25 #[.string ⟨#[50, 44, 53, 44, 48]⟩] w fun e W' => e = .returned (.tuple #[.agg #[.int .i64 0, .int .u64 0], .int .i64 2]) ∧ Grew w W' := by
  have := parse_any ⟨#[50, 44, 53, 44, 48]⟩ (by decide) w hE
  rw [p2] at this
  exact this
theorem bitsB (w : World) (hs : 0 < w.heap.size) (hE : Env w) : Calls Tryd.prog 10 #[.agg #[.int .i64 2, .int .u64 33]] w fun e W' => ∃ v, e = .returned v ∧ W'.ownsRow w.heap.size 3 1 v 2 [.int .i64 0, .int .i64 5] ∧ Grew w W' := by
  have := callsIn_wide.1 (bits_in 2 33#64 w hs hE.tab)
  rw [c1] at this
  exact this
theorem leq1 (w : World) : Calls Tryd.prog 14 #[.agg #[.int .i64 1, .int .u64 1], .agg #[.int .i64 2, .int .u64 33]] w fun e w' => e = .returned (.bool true) ∧ Grew w w' := leq_any 1 1#64 2 33#64 w
theorem leq2 (w : World) : Calls Tryd.prog 14 #[.agg #[.int .i64 1, .int .u64 1], .agg #[.int .i64 2, .int .u64 32]] w fun e w' => e = .returned (.bool false) ∧ Grew w w' := leq_any 1 1#64 2 32#64 w
theorem print1 (w : World) (hs : 0 < w.heap.size) (hE : Env w) : Calls Tryd.prog 29 #[.agg #[.int .i64 1, .int .u64 1]] w fun e W' => e = .returned (.string ⟨#[49, 44, 48]⟩) ∧ Grew w W' := by
  have := print_any 1 1#64 w hs hE.tab
  rw [t1] at this
  exact this
theorem join1 (w : World) : Calls Tryd.prog 16 #[.agg #[.int .i64 1, .int .u64 1], .agg #[.int .i64 0, .int .u64 32]] w fun e w' => e = .returned (.agg #[.int .i64 1, .int .u64 33]) ∧ Grew w w' := join_any 1 1#64 0 32#64 w
theorem meet1 (w : World) : Calls Tryd.prog 18 #[.agg #[.int .i64 1, .int .u64 1], .agg #[.int .i64 2, .int .u64 33]] w fun e w' => e = .returned (.agg #[.int .i64 1, .int .u64 1]) ∧ Grew w w' := meet_any 1 1#64 2 33#64 w
theorem cmp1 (w : World) : Calls Tryd.prog 20 #[.agg #[.int .i64 1, .int .u64 1], .agg #[.int .i64 2, .int .u64 33]] w fun e w' => e = .returned (.int .i64 (-1)) ∧ Grew w w' := cmp_any 1 1#64 2 33#64 w
theorem right1 (w : World) : Calls Tryd.prog 12 #[.agg #[.int .i64 1, .int .u64 1]] w fun e w' => e = .returned (.bool true) ∧ Grew w w' := right_any 1 1#64 w

theorem lab_new (w : World) (x y : Value) : (w.alloc (.cells #[x, y] 24)).heap[w.heap.size]? = some (.cells #[x, y] 24 (0, 0)) := heap_alloc_new w _
theorem lab_keep {w w' : World} {B : Nat} {o : Obj} (h : w.heap[B]? = some o) (hg : Grew w w') : w'.heap[B]? = some o := (hg.block _ (Array.getElem?_eq_some_iff.1 h).1).trans h

set_option maxRecDepth 100000 in
set_option maxHeartbeats 4000000 in
theorem alive_any (w : World) (hE : Env w) : Calls Tryd.prog 11 #[] w fun e W' => e = .returned (.bool true) ∧ Grew w W' := by
  go_enter Tryd.func11, Tryd.ntmps11
  have G0 : Grew w ((w.alloc (Obj.cells #[Value.int IntKind.i64 1, Value.int IntKind.u64 1] 24)).alloc (Obj.cells #[Value.int IntKind.i64 2, Value.int IntKind.u64 33] 24)) := by unfold Grew; go_grown
  have A0 := lab_keep (lab_new w (.int .i64 1) (.int .u64 1)) (show Grew _ ((w.alloc (Obj.cells #[Value.int IntKind.i64 1, Value.int IntKind.u64 1] 24)).alloc (Obj.cells #[Value.int IntKind.i64 2, Value.int IntKind.u64 33] 24)) from by unfold Grew; go_grown)
  have B0 := lab_new (w.alloc (Obj.cells #[Value.int IntKind.i64 1, Value.int IntKind.u64 1] 24)) (.int .i64 2) (.int .u64 33)
  rw [World.size_alloc] at B0
  go_wp2_with fail
  refine (hall5 _).mono ?_
  rintro e W1 ⟨rfl, g1⟩
  have G1 := G0.trans g1
  have A1 := lab_keep A0 g1
  have B1 := lab_keep B0 g1
  clear g1 G0 A0 B0
  have n2 : Grew W1 (W1.alloc (Obj.cells #[Value.int IntKind.i64 0, Value.int IntKind.u64 32] 24)) := by unfold Grew; go_grown
  have G2 := G1.trans n2
  have A2 := lab_keep A1 n2
  have B2 := lab_keep B1 n2
  have H2 := lab_new W1 (.int .i64 0) (.int .u64 32)
  clear n2 G1 A1 B1
  obtain ⟨a20, a21, _, _⟩ := lab_cells A2
  obtain ⟨b20, b21, _, _⟩ := lab_cells B2
  obtain ⟨h20, h21, _, _⟩ := lab_cells H2
  go_wp2_with fail
  refine (formB _).mono ?_
  rintro e W3 ⟨v3, rfl, r3, g3⟩
  have G3 := G2.trans g3
  have A3 := lab_keep A2 g3
  have B3 := lab_keep B2 g3
  have H3 := lab_keep H2 g3
  clear g3 G2 A2 B2 H2
  go_wp2_with fail
  refine (readB _ _ r3).mono ?_
  rintro e W4 ⟨rfl, g4⟩
  have G4 := G3.trans g4
  have A4 := lab_keep A3 g4
  have B4 := lab_keep B3 g4
  have H4 := lab_keep H3 g4
  clear g4 G3 A3 B3 H3
  clear r3
  have n5 : Grew W4 (W4.alloc (Obj.cells #[Value.int IntKind.i64 2, Value.int IntKind.u64 33] 24)) := by unfold Grew; go_grown
  have G5 := G4.trans n5
  have A5 := lab_keep A4 n5
  have B5 := lab_keep B4 n5
  have H5 := lab_keep H4 n5
  have C5 := lab_new W4 (.int .i64 2) (.int .u64 33)
  clear n5 G4 A4 B4 H4
  obtain ⟨a50, a51, _, _⟩ := lab_cells A5
  obtain ⟨b50, b51, _, _⟩ := lab_cells B5
  obtain ⟨h50, h51, _, _⟩ := lab_cells H5
  obtain ⟨c50, c51, _, _⟩ := lab_cells C5
  go_wp2_with fail
  refine (parse1 _ (hE.grow G5)).mono ?_
  rintro e W6 ⟨rfl, g6⟩
  have G6 := G5.trans g6
  have A6 := lab_keep A5 g6
  have B6 := lab_keep B5 g6
  have H6 := lab_keep H5 g6
  have C6 := lab_keep C5 g6
  clear g6 G5 A5 B5 H5 C5
  have n7 : Grew W6 (W6.alloc (Obj.cells #[Value.int IntKind.i64 2, Value.int IntKind.u64 33] 24)) := by unfold Grew; go_grown
  have G7 := G6.trans n7
  have A7 := lab_keep A6 n7
  have B7 := lab_keep B6 n7
  have H7 := lab_keep H6 n7
  have C7 := lab_keep C6 n7
  have D7 := lab_new W6 (.int .i64 2) (.int .u64 33)
  clear n7 G6 A6 B6 H6 C6
  obtain ⟨a70, a71, _, _⟩ := lab_cells A7
  obtain ⟨b70, b71, _, _⟩ := lab_cells B7
  obtain ⟨h70, h71, _, _⟩ := lab_cells H7
  obtain ⟨c70, c71, _, _⟩ := lab_cells C7
  obtain ⟨d70, d71, _, _⟩ := lab_cells D7
  go_wp2_with fail
  refine (parse2 _ (hE.grow G7)).mono ?_
  rintro e W8 ⟨rfl, g8⟩
  have G8 := G7.trans g8
  have A8 := lab_keep A7 g8
  have B8 := lab_keep B7 g8
  have H8 := lab_keep H7 g8
  have C8 := lab_keep C7 g8
  have D8 := lab_keep D7 g8
  clear g8 G7 A7 B7 H7 C7 D7
  have n9 : Grew W8 (W8.alloc (Obj.cells #[Value.int IntKind.i64 0, Value.int IntKind.u64 0] 24)) := by unfold Grew; go_grown
  have G9 := G8.trans n9
  have A9 := lab_keep A8 n9
  have B9 := lab_keep B8 n9
  have H9 := lab_keep H8 n9
  have C9 := lab_keep C8 n9
  have D9 := lab_keep D8 n9
  have Z9 := lab_new W8 (.int .i64 0) (.int .u64 0)
  clear n9 G8 A8 B8 H8 C8 D8
  obtain ⟨a90, a91, _, _⟩ := lab_cells A9
  obtain ⟨b90, b91, _, _⟩ := lab_cells B9
  obtain ⟨h90, h91, _, _⟩ := lab_cells H9
  obtain ⟨c90, c91, _, _⟩ := lab_cells C9
  obtain ⟨d90, d91, _, _⟩ := lab_cells D9
  obtain ⟨z90, z91, _, _⟩ := lab_cells Z9
  have hs9 : 0 < (W8.alloc (Obj.cells #[Value.int IntKind.i64 0, Value.int IntKind.u64 0] 24)).heap.size := Nat.lt_of_le_of_lt (Nat.zero_le _) (Array.getElem?_eq_some_iff.1 B9).1
  go_wp2_with fail
  refine (bitsB _ hs9 (hE.grow G9)).mono ?_
  rintro e W10 ⟨v10, rfl, o10, g10⟩
  have G10 := G9.trans g10
  have A10 := lab_keep A9 g10
  have B10 := lab_keep B9 g10
  have H10 := lab_keep H9 g10
  have C10 := lab_keep C9 g10
  have D10 := lab_keep D9 g10
  have Z10 := lab_keep Z9 g10
  clear g10 G9 A9 B9 H9 C9 D9 Z9
  obtain ⟨a100, a101, _, _⟩ := lab_cells A10
  obtain ⟨b100, b101, _, _⟩ := lab_cells B10
  obtain ⟨h100, h101, _, _⟩ := lab_cells H10
  obtain ⟨c100, c101, _, _⟩ := lab_cells C10
  obtain ⟨d100, d101, _, _⟩ := lab_cells D10
  obtain ⟨z100, z101, _, _⟩ := lab_cells Z10
  obtain ⟨L, k10, l0, l1⟩ : ∃ L : Addr, (∃ cap, v10 = .slice (some L) 2 cap) ∧ W10.cell? L = some (.int .i64 0) ∧ W10.cell? ⟨L.block, L.off + 1, none⟩ = some (.int .i64 5) := by
    obtain ⟨hl, h | ⟨gB, cap, cs, rfl, hge, hrow, hrest⟩⟩ := o10
    · exact absurd h.2 (by decide)
    · have ht := hrest.2.2.2
      have e0 : cs.toList[0]? = some (.int .i64 0) := by
        have := congrArg (·[0]?) ht
        simpa [List.getElem?_take] using this
      have e1 : cs.toList[1]? = some (.int .i64 5) := by
        have := congrArg (·[1]?) ht
        simpa [List.getElem?_take] using this
      refine ⟨⟨gB, 0, none⟩, ⟨cap, rfl⟩, ?_, ?_⟩
      · rw [cell_of_row _ _ _ _ _ _ hrow, ← Array.getElem?_toList]
        exact e0
      · rw [cell_of_row _ _ _ _ _ _ hrow, ← Array.getElem?_toList]
        exact e1
  obtain ⟨cap, rfl⟩ := k10
  clear o10
  go_wp2_with fail
  refine Facts.wp_region_text (by kernel_rfl) (by kernel_rfl) ?_
  repeat
    apply Facts.Lex.exact [] _ (by kernel_rfl)
    · intro u W hC _
      have hEW := hE.grow (G10.trans hC)
      have hsW : 0 < W.heap.size := Nat.lt_of_le_of_lt (Nat.zero_le _) (Array.getElem?_eq_some_iff.1 (lab_keep B10 hC)).1
      obtain ⟨x0, x1, _, _⟩ := lab_cells (lab_keep A10 hC)
      obtain ⟨y0, y1, _, _⟩ := lab_cells (lab_keep B10 hC)
      obtain ⟨h0, h1, _, _⟩ := lab_cells (lab_keep H10 hC)
      obtain ⟨c0, c1', _, _⟩ := lab_cells (lab_keep C10 hC)
      obtain ⟨d0, d1, _, _⟩ := lab_cells (lab_keep D10 hC)
      have m0 := cellG hC l0
      have m1 := cellG hC l1
      unfold Facts.one
      go_simp
      first | exact ⟨Grew.refl _, rfl⟩ | rfl
    simp only [Act.put, List.setIfInBounds_toArray, List.set_cons_zero, List.set_cons_succ, Nat.zero_add, Nat.reduceAdd]
  apply Facts.Lex.exact [] _ (by kernel_rfl)
  · intro u W hC _
    have hEW := hE.grow (G10.trans hC)
    have hsW : 0 < W.heap.size := Nat.lt_of_le_of_lt (Nat.zero_le _) (Array.getElem?_eq_some_iff.1 (lab_keep B10 hC)).1
    unfold Facts.one
    go_simp
    refine (leq1 W).mono ?_
    rintro e w' ⟨rfl, hg⟩
    exact ⟨_, rfl, hg, rfl⟩
  simp only [Act.put, List.setIfInBounds_toArray, List.set_cons_zero, List.set_cons_succ, Nat.zero_add, Nat.reduceAdd]
  repeat
    apply Facts.Lex.exact [] _ (by kernel_rfl)
    · intro u W hC _
      have hEW := hE.grow (G10.trans hC)
      have hsW : 0 < W.heap.size := Nat.lt_of_le_of_lt (Nat.zero_le _) (Array.getElem?_eq_some_iff.1 (lab_keep B10 hC)).1
      obtain ⟨x0, x1, _, _⟩ := lab_cells (lab_keep A10 hC)
      obtain ⟨y0, y1, _, _⟩ := lab_cells (lab_keep B10 hC)
      obtain ⟨h0, h1, _, _⟩ := lab_cells (lab_keep H10 hC)
      obtain ⟨c0, c1', _, _⟩ := lab_cells (lab_keep C10 hC)
      obtain ⟨d0, d1, _, _⟩ := lab_cells (lab_keep D10 hC)
      have m0 := cellG hC l0
      have m1 := cellG hC l1
      unfold Facts.one
      go_simp
      first | exact ⟨Grew.refl _, rfl⟩ | rfl
    simp only [Act.put, List.setIfInBounds_toArray, List.set_cons_zero, List.set_cons_succ, Nat.zero_add, Nat.reduceAdd]
  apply Facts.Lex.exact [] _ (by kernel_rfl)
  · intro u W hC _
    have hEW := hE.grow (G10.trans hC)
    have hsW : 0 < W.heap.size := Nat.lt_of_le_of_lt (Nat.zero_le _) (Array.getElem?_eq_some_iff.1 (lab_keep B10 hC)).1
    unfold Facts.one
    go_simp
    refine (leq2 W).mono ?_
    rintro e w' ⟨rfl, hg⟩
    exact ⟨_, rfl, hg, rfl⟩
  simp only [Act.put, List.setIfInBounds_toArray, List.set_cons_zero, List.set_cons_succ, Nat.zero_add, Nat.reduceAdd]
  repeat
    apply Facts.Lex.exact [] _ (by kernel_rfl)
    · intro u W hC _
      have hEW := hE.grow (G10.trans hC)
      have hsW : 0 < W.heap.size := Nat.lt_of_le_of_lt (Nat.zero_le _) (Array.getElem?_eq_some_iff.1 (lab_keep B10 hC)).1
      obtain ⟨x0, x1, _, _⟩ := lab_cells (lab_keep A10 hC)
      obtain ⟨y0, y1, _, _⟩ := lab_cells (lab_keep B10 hC)
      obtain ⟨h0, h1, _, _⟩ := lab_cells (lab_keep H10 hC)
      obtain ⟨c0, c1', _, _⟩ := lab_cells (lab_keep C10 hC)
      obtain ⟨d0, d1, _, _⟩ := lab_cells (lab_keep D10 hC)
      have m0 := cellG hC l0
      have m1 := cellG hC l1
      unfold Facts.one
      go_simp
      first | exact ⟨Grew.refl _, rfl⟩ | rfl
    simp only [Act.put, List.setIfInBounds_toArray, List.set_cons_zero, List.set_cons_succ, Nat.zero_add, Nat.reduceAdd]
  apply Facts.Lex.exact [] _ (by kernel_rfl)
  · intro u W hC _
    have hEW := hE.grow (G10.trans hC)
    have hsW : 0 < W.heap.size := Nat.lt_of_le_of_lt (Nat.zero_le _) (Array.getElem?_eq_some_iff.1 (lab_keep B10 hC)).1
    unfold Facts.one
    go_simp
    refine (print1 W hsW hEW).mono ?_
    rintro e w' ⟨rfl, hg⟩
    exact ⟨_, rfl, hg, rfl⟩
  simp only [Act.put, List.setIfInBounds_toArray, List.set_cons_zero, List.set_cons_succ, Nat.zero_add, Nat.reduceAdd]
  repeat
    apply Facts.Lex.exact [] _ (by kernel_rfl)
    · intro u W hC _
      have hEW := hE.grow (G10.trans hC)
      have hsW : 0 < W.heap.size := Nat.lt_of_le_of_lt (Nat.zero_le _) (Array.getElem?_eq_some_iff.1 (lab_keep B10 hC)).1
      obtain ⟨x0, x1, _, _⟩ := lab_cells (lab_keep A10 hC)
      obtain ⟨y0, y1, _, _⟩ := lab_cells (lab_keep B10 hC)
      obtain ⟨h0, h1, _, _⟩ := lab_cells (lab_keep H10 hC)
      obtain ⟨c0, c1', _, _⟩ := lab_cells (lab_keep C10 hC)
      obtain ⟨d0, d1, _, _⟩ := lab_cells (lab_keep D10 hC)
      have m0 := cellG hC l0
      have m1 := cellG hC l1
      unfold Facts.one
      go_simp
      first | exact ⟨Grew.refl _, rfl⟩ | rfl
    simp only [Act.put, List.setIfInBounds_toArray, List.set_cons_zero, List.set_cons_succ, Nat.zero_add, Nat.reduceAdd]
  apply Facts.Lex.exact [] _ (by kernel_rfl)
  · intro u W hC _
    have hEW := hE.grow (G10.trans hC)
    have hsW : 0 < W.heap.size := Nat.lt_of_le_of_lt (Nat.zero_le _) (Array.getElem?_eq_some_iff.1 (lab_keep B10 hC)).1
    unfold Facts.one
    go_simp
    refine (join1 W).mono ?_
    rintro e w' ⟨rfl, hg⟩
    exact ⟨_, rfl, hg, rfl⟩
  simp only [Act.put, List.setIfInBounds_toArray, List.set_cons_zero, List.set_cons_succ, Nat.zero_add, Nat.reduceAdd]
  repeat
    apply Facts.Lex.exact [] _ (by kernel_rfl)
    · intro u W hC _
      have hEW := hE.grow (G10.trans hC)
      have hsW : 0 < W.heap.size := Nat.lt_of_le_of_lt (Nat.zero_le _) (Array.getElem?_eq_some_iff.1 (lab_keep B10 hC)).1
      obtain ⟨x0, x1, _, _⟩ := lab_cells (lab_keep A10 hC)
      obtain ⟨y0, y1, _, _⟩ := lab_cells (lab_keep B10 hC)
      obtain ⟨h0, h1, _, _⟩ := lab_cells (lab_keep H10 hC)
      obtain ⟨c0, c1', _, _⟩ := lab_cells (lab_keep C10 hC)
      obtain ⟨d0, d1, _, _⟩ := lab_cells (lab_keep D10 hC)
      have m0 := cellG hC l0
      have m1 := cellG hC l1
      unfold Facts.one
      go_simp
      first | exact ⟨Grew.refl _, rfl⟩ | rfl
    simp only [Act.put, List.setIfInBounds_toArray, List.set_cons_zero, List.set_cons_succ, Nat.zero_add, Nat.reduceAdd]
  apply Facts.Lex.exact [] _ (by kernel_rfl)
  · intro u W hC _
    have hEW := hE.grow (G10.trans hC)
    have hsW : 0 < W.heap.size := Nat.lt_of_le_of_lt (Nat.zero_le _) (Array.getElem?_eq_some_iff.1 (lab_keep B10 hC)).1
    unfold Facts.one
    go_simp
    refine (meet1 W).mono ?_
    rintro e w' ⟨rfl, hg⟩
    exact ⟨_, rfl, hg, rfl⟩
  simp only [Act.put, List.setIfInBounds_toArray, List.set_cons_zero, List.set_cons_succ, Nat.zero_add, Nat.reduceAdd]
  repeat
    apply Facts.Lex.exact [] _ (by kernel_rfl)
    · intro u W hC _
      have hEW := hE.grow (G10.trans hC)
      have hsW : 0 < W.heap.size := Nat.lt_of_le_of_lt (Nat.zero_le _) (Array.getElem?_eq_some_iff.1 (lab_keep B10 hC)).1
      obtain ⟨x0, x1, _, _⟩ := lab_cells (lab_keep A10 hC)
      obtain ⟨y0, y1, _, _⟩ := lab_cells (lab_keep B10 hC)
      obtain ⟨h0, h1, _, _⟩ := lab_cells (lab_keep H10 hC)
      obtain ⟨c0, c1', _, _⟩ := lab_cells (lab_keep C10 hC)
      obtain ⟨d0, d1, _, _⟩ := lab_cells (lab_keep D10 hC)
      have m0 := cellG hC l0
      have m1 := cellG hC l1
      unfold Facts.one
      go_simp
      first | exact ⟨Grew.refl _, rfl⟩ | rfl
    simp only [Act.put, List.setIfInBounds_toArray, List.set_cons_zero, List.set_cons_succ, Nat.zero_add, Nat.reduceAdd]
  apply Facts.Lex.exact [] _ (by kernel_rfl)
  · intro u W hC _
    have hEW := hE.grow (G10.trans hC)
    have hsW : 0 < W.heap.size := Nat.lt_of_le_of_lt (Nat.zero_le _) (Array.getElem?_eq_some_iff.1 (lab_keep B10 hC)).1
    unfold Facts.one
    go_simp
    refine (cmp1 W).mono ?_
    rintro e w' ⟨rfl, hg⟩
    exact ⟨_, rfl, hg, rfl⟩
  simp only [Act.put, List.setIfInBounds_toArray, List.set_cons_zero, List.set_cons_succ, Nat.zero_add, Nat.reduceAdd]
  repeat
    apply Facts.Lex.exact [] _ (by kernel_rfl)
    · intro u W hC _
      have hEW := hE.grow (G10.trans hC)
      have hsW : 0 < W.heap.size := Nat.lt_of_le_of_lt (Nat.zero_le _) (Array.getElem?_eq_some_iff.1 (lab_keep B10 hC)).1
      obtain ⟨x0, x1, _, _⟩ := lab_cells (lab_keep A10 hC)
      obtain ⟨y0, y1, _, _⟩ := lab_cells (lab_keep B10 hC)
      obtain ⟨h0, h1, _, _⟩ := lab_cells (lab_keep H10 hC)
      obtain ⟨c0, c1', _, _⟩ := lab_cells (lab_keep C10 hC)
      obtain ⟨d0, d1, _, _⟩ := lab_cells (lab_keep D10 hC)
      have m0 := cellG hC l0
      have m1 := cellG hC l1
      unfold Facts.one
      go_simp
      first | exact ⟨Grew.refl _, rfl⟩ | rfl
    simp only [Act.put, List.setIfInBounds_toArray, List.set_cons_zero, List.set_cons_succ, Nat.zero_add, Nat.reduceAdd]
  apply Facts.Lex.exact [] _ (by kernel_rfl)
  · intro u W hC _
    have hEW := hE.grow (G10.trans hC)
    have hsW : 0 < W.heap.size := Nat.lt_of_le_of_lt (Nat.zero_le _) (Array.getElem?_eq_some_iff.1 (lab_keep B10 hC)).1
    unfold Facts.one
    go_simp
    refine (right1 W).mono ?_
    rintro e w' ⟨rfl, hg⟩
    exact ⟨_, rfl, hg, rfl⟩
  simp only [Act.put, List.setIfInBounds_toArray, List.set_cons_zero, List.set_cons_succ, Nat.zero_add, Nat.reduceAdd]
  repeat
    apply Facts.Lex.exact [] _ (by kernel_rfl)
    · intro u W hC _
      have hEW := hE.grow (G10.trans hC)
      have hsW : 0 < W.heap.size := Nat.lt_of_le_of_lt (Nat.zero_le _) (Array.getElem?_eq_some_iff.1 (lab_keep B10 hC)).1
      obtain ⟨x0, x1, _, _⟩ := lab_cells (lab_keep A10 hC)
      obtain ⟨y0, y1, _, _⟩ := lab_cells (lab_keep B10 hC)
      obtain ⟨h0, h1, _, _⟩ := lab_cells (lab_keep H10 hC)
      obtain ⟨c0, c1', _, _⟩ := lab_cells (lab_keep C10 hC)
      obtain ⟨d0, d1, _, _⟩ := lab_cells (lab_keep D10 hC)
      have m0 := cellG hC l0
      have m1 := cellG hC l1
      unfold Facts.one
      go_simp
      first | exact ⟨Grew.refl _, rfl⟩ | rfl
    simp only [Act.put, List.setIfInBounds_toArray, List.set_cons_zero, List.set_cons_succ, Nat.zero_add, Nat.reduceAdd]
  refine Facts.Lex.done fun u W2 hC hL => ?_
  have GE := G10.trans hC
  clear hC hL
  go_wp2
  go_returns
  exact ⟨rfl, GE⟩
end Go.Proofs.YtekodmnhheejkaaDoor.Alive
