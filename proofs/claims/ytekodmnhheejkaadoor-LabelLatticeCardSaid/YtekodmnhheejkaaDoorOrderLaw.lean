/-
  The order of labels: what is at or below stands not behind; the order is one of all labels.
  Conditions: the library's variables lie as the program's text lays them.
-/
import Derived.Test.YtekodmnhheejkaaDoorAlive
import Derived.Test.YtekodmnhheejkaaDoorLat
namespace Go.Proofs.YtekodmnhheejkaaDoor.OrderLaw
open Go Go.RowKit Go.Proofs.YtekodmnhheejkaaDoor Go.Proofs.YtekodmnhheejkaaDoor.Facts Go.Proofs.YtekodmnhheejkaaDoor.Plain Go.Proofs.YtekodmnhheejkaaDoor.Each Go.Proofs.YtekodmnhheejkaaDoor.Text Go.Proofs.YtekodmnhheejkaaDoor.Alive Go.Proofs.YtekodmnhheejkaaDoor.Lat

theorem same_ (q : Bool) (v v2 c c2 : Int) (W : World) (h : q = true ↔ v = v2 ∧ c = c2) :
    come Tryd.prog (gone W fun x _ => x = Value.bool q) (if v = v2 then if c = c2 then Result.ok (Next.value (Value.bool true)) W else Result.ok (Next.value (Value.bool false)) W else Result.ok (Next.value (Value.bool false)) W) := by
  have hf : ¬ (v = v2 ∧ c = c2) → q = false := fun hn => by
    cases hq : q with
    | false => rfl
    | true => exact absurd (h.1 hq) hn
  by_cases hv : v = v2
  · by_cases hc : c = c2
    · rw [if_pos hv, if_pos hc, h.2 ⟨hv, hc⟩]
      exact ⟨Grew.refl _, rfl⟩
    · rw [if_pos hv, if_neg hc, hf fun e => hc e.2]
      exact ⟨Grew.refl _, rfl⟩
  · rw [if_neg hv, hf fun e => hv e.1]
    exact ⟨Grew.refl _, rfl⟩

set_option maxRecDepth 100000 in
set_option maxHeartbeats 8000000 in
theorem law_any (v v2 v3 : Int) (c c2 c3 : BitVec 64) (w : World) (hE : Env w) : Calls Tryd.prog 6 #[.agg #[.int .i64 v, .int .u64 (c.toNat : Int)], .agg #[.int .i64 v2, .int .u64 (c2.toNat : Int)], .agg #[.int .i64 v3, .int .u64 (c3.toNat : Int)]] w fun e W' => e = .returned (.bool true) ∧ Grew w W' := by
  have hneg : IntKind.i64.wrap (-(order v2 c2 v c)) = order v c v2 c2 := by
    have := order_range v v2 c c2
    rw [← order_neg, IntKind.wrap_i64]
    omega
  obtain ⟨p, hp⟩ : ∃ p, p = le v c v2 c2 := ⟨_, rfl⟩
  have hcLeq := fun W => leq_any v c v2 c2 W
  rw [← hp] at hcLeq
  obtain ⟨q, he⟩ : ∃ q, q = (order v c v2 c2 == 0) := ⟨_, rfl⟩
  have heq : q = true ↔ v = v2 ∧ (c.toNat : Int) = (c2.toNat : Int) := by
    rw [he, beq_iff_eq, order_zero, ← BitVec.toNat_inj]
    omega
  have HNEG := Lib.hid hneg
  have HP := Lib.hid hp
  have HcLeq := Lib.hid hcLeq
  have HQ := Lib.hid he
  have HEQ := Lib.hid heq
  clear hneg hp hcLeq he heq
  go_enter Tryd.func6, Tryd.ntmps6
  go_wp2
  generalize hW : ((w.alloc (Obj.cells #[Value.int IntKind.i64 v, Value.int IntKind.u64 (c.toNat : Int)] 24)).alloc (Obj.cells #[Value.int IntKind.i64 v2, Value.int IntKind.u64 (c2.toNat : Int)] 24)).alloc (Obj.cells #[Value.int IntKind.i64 v3, Value.int IntKind.u64 (c3.toNat : Int)] 24) = W0
  have A0 : W0.heap[w.heap.size]? = some (.cells #[.int .i64 v, .int .u64 (c.toNat : Int)] 24 (0, 0)) := by subst hW; exact lab_keep (lab_keep (lab_new w _ _) (by unfold Grew; go_grown)) (by unfold Grew; go_grown)
  have B0 : W0.heap[w.heap.size + 1]? = some (.cells #[.int .i64 v2, .int .u64 (c2.toNat : Int)] 24 (0, 0)) := by
    subst hW
    have := lab_new (w.alloc (Obj.cells #[Value.int IntKind.i64 v, Value.int IntKind.u64 (c.toNat : Int)] 24)) (.int .i64 v2) (.int .u64 (c2.toNat : Int))
    rw [World.size_alloc] at this
    exact lab_keep this (by unfold Grew; go_grown)
  have C0 : W0.heap[w.heap.size + 1 + 1]? = some (.cells #[.int .i64 v3, .int .u64 (c3.toNat : Int)] 24 (0, 0)) := by
    subst hW
    have := lab_new ((w.alloc (Obj.cells #[Value.int IntKind.i64 v, Value.int IntKind.u64 (c.toNat : Int)] 24)).alloc (Obj.cells #[Value.int IntKind.i64 v2, Value.int IntKind.u64 (c2.toNat : Int)] 24)) (.int .i64 v3) (.int .u64 (c3.toNat : Int))
    rw [World.size_alloc, World.size_alloc] at this
    exact this
  have G0 : Grew w W0 := by subst hW; unfold Grew; go_grown
  clear hW
  refine Facts.wp_region_text (by kernel_rfl) (by kernel_rfl) ?_
  apply Facts.Lex.exact [] (.agg #[.int .i64 v, .int .u64 (c.toNat : Int)]) (by kernel_rfl)
  · intro u W hC _
    obtain ⟨x0, x1, _, _⟩ := lab_cells (lab_keep A0 hC)
    obtain ⟨y0, y1, _, _⟩ := lab_cells (lab_keep B0 hC)
    obtain ⟨z0, z1, _, _⟩ := lab_cells (lab_keep C0 hC)
    unfold Facts.one
    go_simp
    first | exact ⟨Grew.refl _, rfl⟩ | rfl
  simp only [Act.put, List.setIfInBounds_toArray, List.set_cons_zero, List.set_cons_succ, Nat.zero_add, Nat.reduceAdd]
  apply Facts.Lex.exact [] (.agg #[.int .i64 v2, .int .u64 (c2.toNat : Int)]) (by kernel_rfl)
  · intro u W hC _
    obtain ⟨x0, x1, _, _⟩ := lab_cells (lab_keep A0 hC)
    obtain ⟨y0, y1, _, _⟩ := lab_cells (lab_keep B0 hC)
    obtain ⟨z0, z1, _, _⟩ := lab_cells (lab_keep C0 hC)
    unfold Facts.one
    go_simp
    first | exact ⟨Grew.refl _, rfl⟩ | rfl
  simp only [Act.put, List.setIfInBounds_toArray, List.set_cons_zero, List.set_cons_succ, Nat.zero_add, Nat.reduceAdd]
  apply Facts.Lex.exact [] (.bool p) (by kernel_rfl)
  · intro u W hC _
    obtain ⟨x0, x1, _, _⟩ := lab_cells (lab_keep A0 hC)
    obtain ⟨y0, y1, _, _⟩ := lab_cells (lab_keep B0 hC)
    obtain ⟨z0, z1, _, _⟩ := lab_cells (lab_keep C0 hC)
    unfold Facts.one
    go_simp
    first | exact ⟨Grew.refl _, rfl⟩ | rfl | (refine (HcLeq.out W).mono ?_; rintro e w' ⟨rfl, hg⟩; exact ⟨_, rfl, hg, rfl⟩)
  simp only [Act.put, List.setIfInBounds_toArray, List.set_cons_zero, List.set_cons_succ, Nat.zero_add, Nat.reduceAdd]
  apply Facts.Lex.exact [] (.bool p) (by kernel_rfl)
  · intro u W hC _
    obtain ⟨x0, x1, _, _⟩ := lab_cells (lab_keep A0 hC)
    obtain ⟨y0, y1, _, _⟩ := lab_cells (lab_keep B0 hC)
    obtain ⟨z0, z1, _, _⟩ := lab_cells (lab_keep C0 hC)
    unfold Facts.one
    go_simp
    first | exact ⟨Grew.refl _, rfl⟩ | rfl
  simp only [Act.put, List.setIfInBounds_toArray, List.set_cons_zero, List.set_cons_succ, Nat.zero_add, Nat.reduceAdd]
  apply Facts.Lex.exact [] (bif p then .agg #[.int .i64 v, .int .u64 (c.toNat : Int)] else undef) (by kernel_rfl)
  · intro u W hC _
    obtain ⟨x0, x1, _, _⟩ := lab_cells (lab_keep A0 hC)
    obtain ⟨y0, y1, _, _⟩ := lab_cells (lab_keep B0 hC)
    obtain ⟨z0, z1, _, _⟩ := lab_cells (lab_keep C0 hC)
    cases p
    all_goals try simp only [cond_true, cond_false]
    all_goals unfold Facts.one
    all_goals go_simp
    all_goals first | exact ⟨Grew.refl _, rfl⟩ | rfl
  simp only [Act.put, List.setIfInBounds_toArray, List.set_cons_zero, List.set_cons_succ, Nat.zero_add, Nat.reduceAdd]
  apply Facts.Lex.exact [] (bif p then .agg #[.int .i64 v2, .int .u64 (c2.toNat : Int)] else undef) (by kernel_rfl)
  · intro u W hC _
    obtain ⟨x0, x1, _, _⟩ := lab_cells (lab_keep A0 hC)
    obtain ⟨y0, y1, _, _⟩ := lab_cells (lab_keep B0 hC)
    obtain ⟨z0, z1, _, _⟩ := lab_cells (lab_keep C0 hC)
    cases p
    all_goals try simp only [cond_true, cond_false]
    all_goals unfold Facts.one
    all_goals go_simp
    all_goals first | exact ⟨Grew.refl _, rfl⟩ | rfl
  simp only [Act.put, List.setIfInBounds_toArray, List.set_cons_zero, List.set_cons_succ, Nat.zero_add, Nat.reduceAdd]
  apply Facts.Lex.exact [] (bif p then .int .i64 (order v c v2 c2) else undef) (by kernel_rfl)
  · intro u W hC _
    obtain ⟨x0, x1, _, _⟩ := lab_cells (lab_keep A0 hC)
    obtain ⟨y0, y1, _, _⟩ := lab_cells (lab_keep B0 hC)
    obtain ⟨z0, z1, _, _⟩ := lab_cells (lab_keep C0 hC)
    cases p
    all_goals try simp only [cond_true, cond_false]
    all_goals unfold Facts.one
    all_goals go_simp
    all_goals first | exact ⟨Grew.refl _, rfl⟩ | rfl | (refine (cmp_any v c v2 c2 W).mono ?_; rintro e w' ⟨rfl, hg⟩; exact ⟨_, rfl, hg, rfl⟩)
  simp only [Act.put, List.setIfInBounds_toArray, List.set_cons_zero, List.set_cons_succ, Nat.zero_add, Nat.reduceAdd]
  apply Facts.Lex.exact [] (bif p then .bool false else undef) (by kernel_rfl)
  · intro u W hC _
    obtain ⟨x0, x1, _, _⟩ := lab_cells (lab_keep A0 hC)
    obtain ⟨y0, y1, _, _⟩ := lab_cells (lab_keep B0 hC)
    obtain ⟨z0, z1, _, _⟩ := lab_cells (lab_keep C0 hC)
    cases p
    all_goals try simp only [cond_true, cond_false]
    all_goals unfold Facts.one
    all_goals go_simp
    all_goals first | exact ⟨Grew.refl _, rfl⟩ | rfl | (have := le_order HP.out.symm; exact ⟨Grew.refl _, by simp; omega⟩)
  simp only [Act.put, List.setIfInBounds_toArray, List.set_cons_zero, List.set_cons_succ, Nat.zero_add, Nat.reduceAdd]
  apply Facts.Lex.exact [] (.bool false) (by kernel_rfl)
  · intro u W hC _
    obtain ⟨x0, x1, _, _⟩ := lab_cells (lab_keep A0 hC)
    obtain ⟨y0, y1, _, _⟩ := lab_cells (lab_keep B0 hC)
    obtain ⟨z0, z1, _, _⟩ := lab_cells (lab_keep C0 hC)
    cases p
    all_goals try simp only [cond_true, cond_false]
    all_goals unfold Facts.one
    all_goals go_simp
    all_goals first | exact ⟨Grew.refl _, rfl⟩ | rfl
  simp only [Act.put, List.setIfInBounds_toArray, List.set_cons_zero, List.set_cons_succ, Nat.zero_add, Nat.reduceAdd]
  apply Facts.Lex.exact [] (.bool false) (by kernel_rfl)
  · intro u W hC _
    obtain ⟨x0, x1, _, _⟩ := lab_cells (lab_keep A0 hC)
    obtain ⟨y0, y1, _, _⟩ := lab_cells (lab_keep B0 hC)
    obtain ⟨z0, z1, _, _⟩ := lab_cells (lab_keep C0 hC)
    unfold Facts.one
    go_simp
    first | exact ⟨Grew.refl _, rfl⟩ | rfl
  simp only [Act.put, List.setIfInBounds_toArray, List.set_cons_zero, List.set_cons_succ, Nat.zero_add, Nat.reduceAdd]
  apply Facts.Lex.exact [] (.agg #[.int .i64 v, .int .u64 (c.toNat : Int)]) (by kernel_rfl)
  · intro u W hC _
    obtain ⟨x0, x1, _, _⟩ := lab_cells (lab_keep A0 hC)
    obtain ⟨y0, y1, _, _⟩ := lab_cells (lab_keep B0 hC)
    obtain ⟨z0, z1, _, _⟩ := lab_cells (lab_keep C0 hC)
    unfold Facts.one
    go_simp
    first | exact ⟨Grew.refl _, rfl⟩ | rfl
  simp only [Act.put, List.setIfInBounds_toArray, List.set_cons_zero, List.set_cons_succ, Nat.zero_add, Nat.reduceAdd]
  apply Facts.Lex.exact [] (.agg #[.int .i64 v2, .int .u64 (c2.toNat : Int)]) (by kernel_rfl)
  · intro u W hC _
    obtain ⟨x0, x1, _, _⟩ := lab_cells (lab_keep A0 hC)
    obtain ⟨y0, y1, _, _⟩ := lab_cells (lab_keep B0 hC)
    obtain ⟨z0, z1, _, _⟩ := lab_cells (lab_keep C0 hC)
    unfold Facts.one
    go_simp
    first | exact ⟨Grew.refl _, rfl⟩ | rfl
  simp only [Act.put, List.setIfInBounds_toArray, List.set_cons_zero, List.set_cons_succ, Nat.zero_add, Nat.reduceAdd]
  apply Facts.Lex.exact [] (.int .i64 (order v c v2 c2)) (by kernel_rfl)
  · intro u W hC _
    obtain ⟨x0, x1, _, _⟩ := lab_cells (lab_keep A0 hC)
    obtain ⟨y0, y1, _, _⟩ := lab_cells (lab_keep B0 hC)
    obtain ⟨z0, z1, _, _⟩ := lab_cells (lab_keep C0 hC)
    unfold Facts.one
    go_simp
    first | exact ⟨Grew.refl _, rfl⟩ | rfl | (refine (cmp_any v c v2 c2 W).mono ?_; rintro e w' ⟨rfl, hg⟩; exact ⟨_, rfl, hg, rfl⟩)
  simp only [Act.put, List.setIfInBounds_toArray, List.set_cons_zero, List.set_cons_succ, Nat.zero_add, Nat.reduceAdd]
  apply Facts.Lex.exact [] (.agg #[.int .i64 v2, .int .u64 (c2.toNat : Int)]) (by kernel_rfl)
  · intro u W hC _
    obtain ⟨x0, x1, _, _⟩ := lab_cells (lab_keep A0 hC)
    obtain ⟨y0, y1, _, _⟩ := lab_cells (lab_keep B0 hC)
    obtain ⟨z0, z1, _, _⟩ := lab_cells (lab_keep C0 hC)
    unfold Facts.one
    go_simp
    first | exact ⟨Grew.refl _, rfl⟩ | rfl
  simp only [Act.put, List.setIfInBounds_toArray, List.set_cons_zero, List.set_cons_succ, Nat.zero_add, Nat.reduceAdd]
  apply Facts.Lex.exact [] (.agg #[.int .i64 v, .int .u64 (c.toNat : Int)]) (by kernel_rfl)
  · intro u W hC _
    obtain ⟨x0, x1, _, _⟩ := lab_cells (lab_keep A0 hC)
    obtain ⟨y0, y1, _, _⟩ := lab_cells (lab_keep B0 hC)
    obtain ⟨z0, z1, _, _⟩ := lab_cells (lab_keep C0 hC)
    unfold Facts.one
    go_simp
    first | exact ⟨Grew.refl _, rfl⟩ | rfl
  simp only [Act.put, List.setIfInBounds_toArray, List.set_cons_zero, List.set_cons_succ, Nat.zero_add, Nat.reduceAdd]
  apply Facts.Lex.exact [] (.int .i64 (order v2 c2 v c)) (by kernel_rfl)
  · intro u W hC _
    obtain ⟨x0, x1, _, _⟩ := lab_cells (lab_keep A0 hC)
    obtain ⟨y0, y1, _, _⟩ := lab_cells (lab_keep B0 hC)
    obtain ⟨z0, z1, _, _⟩ := lab_cells (lab_keep C0 hC)
    unfold Facts.one
    go_simp
    first | exact ⟨Grew.refl _, rfl⟩ | rfl | (refine (cmp_any v2 c2 v c W).mono ?_; rintro e w' ⟨rfl, hg⟩; exact ⟨_, rfl, hg, rfl⟩)
  simp only [Act.put, List.setIfInBounds_toArray, List.set_cons_zero, List.set_cons_succ, Nat.zero_add, Nat.reduceAdd]
  apply Facts.Lex.exact [] (.int .i64 (order v c v2 c2)) (by kernel_rfl)
  · intro u W hC _
    obtain ⟨x0, x1, _, _⟩ := lab_cells (lab_keep A0 hC)
    obtain ⟨y0, y1, _, _⟩ := lab_cells (lab_keep B0 hC)
    obtain ⟨z0, z1, _, _⟩ := lab_cells (lab_keep C0 hC)
    unfold Facts.one
    go_simp
    first | exact ⟨Grew.refl _, rfl⟩ | rfl | exact ⟨Grew.refl _, by rw [HNEG.out]⟩
  simp only [Act.put, List.setIfInBounds_toArray, List.set_cons_zero, List.set_cons_succ, Nat.zero_add, Nat.reduceAdd]
  apply Facts.Lex.exact [] (.bool false) (by kernel_rfl)
  · intro u W hC _
    obtain ⟨x0, x1, _, _⟩ := lab_cells (lab_keep A0 hC)
    obtain ⟨y0, y1, _, _⟩ := lab_cells (lab_keep B0 hC)
    obtain ⟨z0, z1, _, _⟩ := lab_cells (lab_keep C0 hC)
    unfold Facts.one
    go_simp
    first | exact ⟨Grew.refl _, rfl⟩ | rfl | exact ⟨Grew.refl _, by simp⟩
  simp only [Act.put, List.setIfInBounds_toArray, List.set_cons_zero, List.set_cons_succ, Nat.zero_add, Nat.reduceAdd]
  apply Facts.Lex.exact [] (.bool false) (by kernel_rfl)
  · intro u W hC _
    obtain ⟨x0, x1, _, _⟩ := lab_cells (lab_keep A0 hC)
    obtain ⟨y0, y1, _, _⟩ := lab_cells (lab_keep B0 hC)
    obtain ⟨z0, z1, _, _⟩ := lab_cells (lab_keep C0 hC)
    unfold Facts.one
    go_simp
    first | exact ⟨Grew.refl _, rfl⟩ | rfl
  simp only [Act.put, List.setIfInBounds_toArray, List.set_cons_zero, List.set_cons_succ, Nat.zero_add, Nat.reduceAdd]
  apply Facts.Lex.exact [] (.bool false) (by kernel_rfl)
  · intro u W hC _
    obtain ⟨x0, x1, _, _⟩ := lab_cells (lab_keep A0 hC)
    obtain ⟨y0, y1, _, _⟩ := lab_cells (lab_keep B0 hC)
    obtain ⟨z0, z1, _, _⟩ := lab_cells (lab_keep C0 hC)
    unfold Facts.one
    go_simp
    first | exact ⟨Grew.refl _, rfl⟩ | rfl
  simp only [Act.put, List.setIfInBounds_toArray, List.set_cons_zero, List.set_cons_succ, Nat.zero_add, Nat.reduceAdd]
  apply Facts.Lex.exact [] (.agg #[.int .i64 v, .int .u64 (c.toNat : Int)]) (by kernel_rfl)
  · intro u W hC _
    obtain ⟨x0, x1, _, _⟩ := lab_cells (lab_keep A0 hC)
    obtain ⟨y0, y1, _, _⟩ := lab_cells (lab_keep B0 hC)
    obtain ⟨z0, z1, _, _⟩ := lab_cells (lab_keep C0 hC)
    unfold Facts.one
    go_simp
    first | exact ⟨Grew.refl _, rfl⟩ | rfl
  simp only [Act.put, List.setIfInBounds_toArray, List.set_cons_zero, List.set_cons_succ, Nat.zero_add, Nat.reduceAdd]
  apply Facts.Lex.exact [] (.agg #[.int .i64 v2, .int .u64 (c2.toNat : Int)]) (by kernel_rfl)
  · intro u W hC _
    obtain ⟨x0, x1, _, _⟩ := lab_cells (lab_keep A0 hC)
    obtain ⟨y0, y1, _, _⟩ := lab_cells (lab_keep B0 hC)
    obtain ⟨z0, z1, _, _⟩ := lab_cells (lab_keep C0 hC)
    unfold Facts.one
    go_simp
    first | exact ⟨Grew.refl _, rfl⟩ | rfl
  simp only [Act.put, List.setIfInBounds_toArray, List.set_cons_zero, List.set_cons_succ, Nat.zero_add, Nat.reduceAdd]
  apply Facts.Lex.exact [] (.int .i64 (order v c v2 c2)) (by kernel_rfl)
  · intro u W hC _
    obtain ⟨x0, x1, _, _⟩ := lab_cells (lab_keep A0 hC)
    obtain ⟨y0, y1, _, _⟩ := lab_cells (lab_keep B0 hC)
    obtain ⟨z0, z1, _, _⟩ := lab_cells (lab_keep C0 hC)
    unfold Facts.one
    go_simp
    first | exact ⟨Grew.refl _, rfl⟩ | rfl | (refine (cmp_any v c v2 c2 W).mono ?_; rintro e w' ⟨rfl, hg⟩; exact ⟨_, rfl, hg, rfl⟩)
  simp only [Act.put, List.setIfInBounds_toArray, List.set_cons_zero, List.set_cons_succ, Nat.zero_add, Nat.reduceAdd]
  apply Facts.Lex.exact [] (.bool q) (by kernel_rfl)
  · intro u W hC _
    obtain ⟨x0, x1, _, _⟩ := lab_cells (lab_keep A0 hC)
    obtain ⟨y0, y1, _, _⟩ := lab_cells (lab_keep B0 hC)
    obtain ⟨z0, z1, _, _⟩ := lab_cells (lab_keep C0 hC)
    unfold Facts.one
    go_simp
    first | exact ⟨Grew.refl _, rfl⟩ | rfl | exact ⟨Grew.refl _, by rw [HQ.out]⟩
  simp only [Act.put, List.setIfInBounds_toArray, List.set_cons_zero, List.set_cons_succ, Nat.zero_add, Nat.reduceAdd]
  apply Facts.Lex.exact [] (.agg #[.int .i64 v, .int .u64 (c.toNat : Int)]) (by kernel_rfl)
  · intro u W hC _
    obtain ⟨x0, x1, _, _⟩ := lab_cells (lab_keep A0 hC)
    obtain ⟨y0, y1, _, _⟩ := lab_cells (lab_keep B0 hC)
    obtain ⟨z0, z1, _, _⟩ := lab_cells (lab_keep C0 hC)
    unfold Facts.one
    go_simp
    first | exact ⟨Grew.refl _, rfl⟩ | rfl
  simp only [Act.put, List.setIfInBounds_toArray, List.set_cons_zero, List.set_cons_succ, Nat.zero_add, Nat.reduceAdd]
  apply Facts.Lex.exact [] (.agg #[.int .i64 v2, .int .u64 (c2.toNat : Int)]) (by kernel_rfl)
  · intro u W hC _
    obtain ⟨x0, x1, _, _⟩ := lab_cells (lab_keep A0 hC)
    obtain ⟨y0, y1, _, _⟩ := lab_cells (lab_keep B0 hC)
    obtain ⟨z0, z1, _, _⟩ := lab_cells (lab_keep C0 hC)
    unfold Facts.one
    go_simp
    first | exact ⟨Grew.refl _, rfl⟩ | rfl
  simp only [Act.put, List.setIfInBounds_toArray, List.set_cons_zero, List.set_cons_succ, Nat.zero_add, Nat.reduceAdd]
  apply Facts.Lex.exact [] (.bool q) (by kernel_rfl)
  · intro u W hC _
    obtain ⟨x0, x1, _, _⟩ := lab_cells (lab_keep A0 hC)
    obtain ⟨y0, y1, _, _⟩ := lab_cells (lab_keep B0 hC)
    obtain ⟨z0, z1, _, _⟩ := lab_cells (lab_keep C0 hC)
    unfold Facts.one
    go_simp
    first | exact ⟨Grew.refl _, rfl⟩ | rfl | exact same_ q v v2 c.toNat c2.toNat W HEQ.out
  simp only [Act.put, List.setIfInBounds_toArray, List.set_cons_zero, List.set_cons_succ, Nat.zero_add, Nat.reduceAdd]
  apply Facts.Lex.exact [] (.bool false) (by kernel_rfl)
  · intro u W hC _
    obtain ⟨x0, x1, _, _⟩ := lab_cells (lab_keep A0 hC)
    obtain ⟨y0, y1, _, _⟩ := lab_cells (lab_keep B0 hC)
    obtain ⟨z0, z1, _, _⟩ := lab_cells (lab_keep C0 hC)
    unfold Facts.one
    go_simp
    first | exact ⟨Grew.refl _, rfl⟩ | rfl | exact ⟨Grew.refl _, by simp⟩
  simp only [Act.put, List.setIfInBounds_toArray, List.set_cons_zero, List.set_cons_succ, Nat.zero_add, Nat.reduceAdd]
  apply Facts.Lex.exact [] (.bool false) (by kernel_rfl)
  · intro u W hC _
    obtain ⟨x0, x1, _, _⟩ := lab_cells (lab_keep A0 hC)
    obtain ⟨y0, y1, _, _⟩ := lab_cells (lab_keep B0 hC)
    obtain ⟨z0, z1, _, _⟩ := lab_cells (lab_keep C0 hC)
    unfold Facts.one
    go_simp
    first | exact ⟨Grew.refl _, rfl⟩ | rfl
  simp only [Act.put, List.setIfInBounds_toArray, List.set_cons_zero, List.set_cons_succ, Nat.zero_add, Nat.reduceAdd]
  refine Facts.Lex.done fun u W2 hC hL => ?_
  replace A0 := lab_keep A0 hC
  replace B0 := lab_keep B0 hC
  replace C0 := lab_keep C0 hC
  replace G0 := G0.trans hC
  clear hC hL
  go_wp2_with fail
  refine (alive_any _ (hE.grow G0)).mono ?_
  rintro e W3 ⟨rfl, g3⟩
  replace A0 := lab_keep A0 g3
  replace B0 := lab_keep B0 g3
  replace C0 := lab_keep C0 g3
  replace G0 := G0.trans g3
  clear g3
  obtain ⟨x0, x1, _, _⟩ := lab_cells A0
  obtain ⟨y0, y1, _, _⟩ := lab_cells B0
  obtain ⟨z0, z1, _, _⟩ := lab_cells C0
  go_wp2_with fail
  refine (cmp_any v c v2 c2 _).mono ?_
  rintro e W4 ⟨rfl, g4⟩
  replace A0 := lab_keep A0 g4
  replace B0 := lab_keep B0 g4
  replace C0 := lab_keep C0 g4
  replace G0 := G0.trans g4
  clear g4
  obtain ⟨x0, x1, _, _⟩ := lab_cells A0
  obtain ⟨y0, y1, _, _⟩ := lab_cells B0
  obtain ⟨z0, z1, _, _⟩ := lab_cells C0
  by_cases h1 : order v c v2 c2 > 0
  · go_wp2
    go_returns
    exact ⟨rfl, G0⟩
  · go_wp2_with fail
    refine (cmp_any v2 c2 v3 c3 _).mono ?_
    rintro e W5 ⟨rfl, g5⟩
    replace A0 := lab_keep A0 g5
    replace C0 := lab_keep C0 g5
    replace G0 := G0.trans g5
    clear g5
    obtain ⟨x0, x1, _, _⟩ := lab_cells A0
    obtain ⟨z0, z1, _, _⟩ := lab_cells C0
    by_cases h2 : order v2 c2 v3 c3 > 0
    · go_wp2
      go_returns
      exact ⟨rfl, G0⟩
    · have h3 : order v c v3 c3 ≤ 0 := order_trans (by omega) (by omega)
      go_wp2_with fail
      refine (cmp_any v c v3 c3 _).mono ?_
      rintro e W6 ⟨rfl, g6⟩
      go_wp2
      go_returns
      exact ⟨rfl, G0.trans g6⟩
end Go.Proofs.YtekodmnhheejkaaDoor.OrderLaw
