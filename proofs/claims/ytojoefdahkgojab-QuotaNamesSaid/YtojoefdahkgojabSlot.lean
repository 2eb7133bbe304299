/-
  What the program's rows of numbers answer: whether a slot is taken, the lowest free one, all that are there, what is put.
  Conditions: a row's size.
-/
import Derived.Test.YtojoefdahkgojabInts
namespace Go.Proofs.Ytojoefdahkgojab.Slot
open Go Go.RowKit Go.Lib Go.Proofs.Ytojoefdahkgojab Go.Proofs.Ytojoefdahkgojab.Facts Go.Proofs.Ytojoefdahkgojab.Bytes Go.Proofs.Ytojoefdahkgojab.Ints

theorem two_cells {W : World} {B t : Nat} {x y : Value} (h : W.heap[B]? = some (.cells #[x, y] t (0, 0))) :
    W.cell? ⟨B, 0, none⟩ = some x ∧ W.cell? ⟨B, 1, none⟩ = some y := by
  constructor <;> simp [World.cell?, h]
theorem blk_new (w : World) (o : Obj) : (w.alloc o).heap[w.heap.size]? = some o := heap_alloc_new w _
theorem blk_keep {w w' : World} {B : Nat} {o : Obj} (h : w.heap[B]? = some o) (hg : Grew w w') : w'.heap[B]? = some o := (hg.block _ (Array.getElem?_eq_some_iff.1 h).1).trans h

/-- A row of numbers at b. -/
def Row (w : World) (b : Nat) (l : List Int) : Prop := ∃ sv, w.heap[b]? = some (.cells #[sv, .func (.func 7) #[] #[]] 51 (0, 0)) ∧ Is w sv l
theorem Row.grew {w w' : World} {b : Nat} {l : List Int} (h : Row w b l) (hg : Grew w w') : Row w' b l := by
  obtain ⟨sv, h1, h2⟩ := h
  exact ⟨sv, blk_keep h1 hg, h2.grew hg⟩

theorem there_any (x : Int) (w : World) : Calls Try.prog 7 #[.int .i64 x] w fun e w' => e = .returned (.bool (x != 0)) ∧ w' = w := by
  go_enter Try.func7, Try.ntmps7
  go_wp2
  go_returns
  exact ⟨rfl, rfl⟩

theorem made_nil (w : World) : Calls Try.prog 25 #[.pointer none] w fun e w' => e = .returned (.bool false) ∧ w' = w := by
  go_enter Try.func25, Try.ntmps25
  go_wp2
  go_returns
  exact ⟨rfl, rfl⟩
theorem made_row (w : World) (b : Nat) (sv : Value) (h : w.heap[b]? = some (.cells #[sv, .func (.func 7) #[] #[]] 51 (0, 0))) :
    Calls Try.prog 25 #[.pointer (some ⟨b, 0, none⟩)] w fun e w' => e = .returned (.bool true) ∧ w' = w := by
  obtain ⟨c0, c1⟩ := two_cells h
  clear h
  have hrun : ∀ w : World, (binOp BinOp.neq 25 (.func (.func 7) #[] #[]) .nilFunc).run Try.prog w = .ok (.bool true) w := fun _ => by kernel_rfl
  go_enter Try.func25, Try.ntmps25
  go_wp2
  go_returns
  exact ⟨rfl, rfl⟩

theorem of_nil (w : World) (v : Value) : Calls Try.prog 6 #[v, .nilFunc] w fun e w' => e = .returned (.pointer none) ∧ w' = w := by
  have hrun : ∀ w : World, (binOp BinOp.eql 25 .nilFunc .nilFunc).run Try.prog w = .ok (.bool true) w := fun _ => by kernel_rfl
  go_enter Try.func6, Try.ntmps6
  go_wp2
  go_returns
  exact ⟨rfl, rfl⟩
theorem of_any (w : World) (v : Value) (l : List Int) (h : Is w v l) (hl : l.length * 8 ≤ 140737488355328) :
    Calls Try.prog 6 #[v, .func (.func 7) #[] #[]] w fun e w' => ∃ b, e = .returned (.pointer (some ⟨b, 0, none⟩)) ∧ Row w' b l ∧ Grew w w' := by
  have HC := Lib.hid (clone_any w v l h hl)
  clear h hl
  have hrun : ∀ w : World, (binOp BinOp.eql 25 (.func (.func 7) #[] #[]) .nilFunc).run Try.prog w = .ok (.bool false) w := fun _ => by kernel_rfl
  go_enter Try.func6, Try.ntmps6
  go_wp2_with fail
  refine HC.out.mono ?_
  rintro e w1 ⟨v', rfl, hown, hg⟩
  have HI := Lib.hid (Is.of_own hown rfl)
  have HG := Lib.hid hg
  obtain ⟨A', c', rfl, _⟩ := id HI.out
  clear hown hg
  have HR : Hid (Row (w1.alloc (.cells #[.slice A' l.length c', .func (.func 7) #[] #[]] 51)) w1.heap.size l ∧ Grew w (w1.alloc (.cells #[.slice A' l.length c', .func (.func 7) #[] #[]] 51))) := by
    have ga : Grew w1 (w1.alloc (.cells #[.slice A' l.length c', .func (.func 7) #[] #[]] 51)) := by unfold Grew; go_grown
    exact Lib.hid ⟨⟨_, blk_new w1 _, HI.out.grew ga⟩, HG.out.trans ga⟩
  go_wp2
  go_returns
  exact ⟨_, rfl, HR.out.1, HR.out.2⟩

/-- Is there something at a slot? -/
def at_ (l : List Int) (k : Nat) : Bool := l[k]?.getD 0 != 0
/-- Is there something at this number? -/
def has (l : List Int) (i : Int) : Bool := decide (0 ≤ i) && (decide (i < l.length) && at_ l i.toNat)

theorem has_nil (i : Int) (w : World) : Calls Try.prog 18 #[.pointer none, .int .i64 i] w fun e w' => e = .returned (.bool false) ∧ Grew w w' := by
  go_enter Try.func18, Try.ntmps18
  go_wp2
  refine Facts.wp_region_text (by kernel_rfl) (by kernel_rfl) ?_
  apply Facts.Lex.exact [] _ (by kernel_rfl)
  · intro u W hC _
    unfold Facts.one
    go_simp
    first | exact ⟨Grew.refl _, rfl⟩ | rfl
  simp only [Act.put, List.setIfInBounds_toArray, List.set_cons_zero, List.set_cons_succ, Nat.zero_add, Nat.reduceAdd]
  apply Facts.Lex.exact [] _ (by kernel_rfl)
  · intro u W hC _
    unfold Facts.one
    go_simp
    exact ((made_nil W).mono fun e w' ⟨he, hw⟩ => ⟨_, he, by rw [hw]; exact Grew.refl _, rfl⟩)
  simp only [Act.put, List.setIfInBounds_toArray, List.set_cons_zero, List.set_cons_succ, Nat.zero_add, Nat.reduceAdd]
  repeat
    apply Facts.Lex.exact [] _ (by kernel_rfl)
    · intro u W hC _
      unfold Facts.one
      go_simp
      first | exact ⟨Grew.refl _, rfl⟩ | rfl
    simp only [Act.put, List.setIfInBounds_toArray, List.set_cons_zero, List.set_cons_succ, Nat.zero_add, Nat.reduceAdd]
  refine Facts.Lex.done fun u W2 hC hL => ?_
  have G2 := Lib.hid hC
  clear hC hL
  go_wp2
  go_returns
  exact ⟨rfl, G2.out⟩

set_option maxRecDepth 100000 in
theorem has_out (w : World) (b : Nat) (l : List Int) (i : Int) (h : Row w b l) (hi : ¬ (0 ≤ i ∧ i < l.length)) :
    Calls Try.prog 18 #[.pointer (some ⟨b, 0, none⟩), .int .i64 i] w fun e w' => e = .returned (.bool false) ∧ Grew w w' := by
  obtain ⟨sv, h1, h2⟩ := h
  have HB := Lib.hid h1
  obtain ⟨c0, c1⟩ := two_cells h1
  obtain ⟨A, c, rfl, _⟩ := h2
  clear h1
  by_cases h0 : 0 ≤ i
  · have hi' : decide (i < (l.length : Int)) = false := decide_eq_false (by omega)
    go_enter Try.func18, Try.ntmps18
    go_wp2
    refine Facts.wp_region_text (by kernel_rfl) (by kernel_rfl) ?_
    apply Facts.Lex.exact [] _ (by kernel_rfl)
    · intro u W hC _
      have j0 := cellG hC c0
      have j1 := cellG hC c1
      unfold Facts.one
      go_simp
      first | exact ⟨Grew.refl _, rfl⟩ | rfl
    simp only [Act.put, List.setIfInBounds_toArray, List.set_cons_zero, List.set_cons_succ, Nat.zero_add, Nat.reduceAdd]
    apply Facts.Lex.exact [] _ (by kernel_rfl)
    · intro u W hC _
      have j0 := cellG hC c0
      have j1 := cellG hC c1
      unfold Facts.one
      go_simp
      exact ((made_row W b _ (blk_keep HB.out hC)).mono fun e w' ⟨he, hw⟩ => ⟨_, he, by rw [hw]; exact Grew.refl _, rfl⟩)
    simp only [Act.put, List.setIfInBounds_toArray, List.set_cons_zero, List.set_cons_succ, Nat.zero_add, Nat.reduceAdd]
    repeat
      apply Facts.Lex.exact [] _ (by kernel_rfl)
      · intro u W hC _
        have j0 := cellG hC c0
        have j1 := cellG hC c1
        unfold Facts.one
        go_simp
        first | exact ⟨Grew.refl _, rfl⟩ | rfl
      simp only [Act.put, List.setIfInBounds_toArray, List.set_cons_zero, List.set_cons_succ, Nat.zero_add, Nat.reduceAdd]
    refine Facts.Lex.done fun u W2 hC hL => ?_
    have G2 := Lib.hid hC
    clear hC hL
    go_wp2
    go_returns
    exact ⟨rfl, G2.out⟩
  · have h0' : decide (0 ≤ i) = false := decide_eq_false h0
    go_enter Try.func18, Try.ntmps18
    go_wp2
    refine Facts.wp_region_text (by kernel_rfl) (by kernel_rfl) ?_
    apply Facts.Lex.exact [] _ (by kernel_rfl)
    · intro u W hC _
      have j0 := cellG hC c0
      have j1 := cellG hC c1
      unfold Facts.one
      go_simp
      first | exact ⟨Grew.refl _, rfl⟩ | rfl
    simp only [Act.put, List.setIfInBounds_toArray, List.set_cons_zero, List.set_cons_succ, Nat.zero_add, Nat.reduceAdd]
    apply Facts.Lex.exact [] _ (by kernel_rfl)
    · intro u W hC _
      have j0 := cellG hC c0
      have j1 := cellG hC c1
      unfold Facts.one
      go_simp
      exact ((made_row W b _ (blk_keep HB.out hC)).mono fun e w' ⟨he, hw⟩ => ⟨_, he, by rw [hw]; exact Grew.refl _, rfl⟩)
    simp only [Act.put, List.setIfInBounds_toArray, List.set_cons_zero, List.set_cons_succ, Nat.zero_add, Nat.reduceAdd]
    repeat
      apply Facts.Lex.exact [] _ (by kernel_rfl)
      · intro u W hC _
        have j0 := cellG hC c0
        have j1 := cellG hC c1
        unfold Facts.one
        go_simp
        first | exact ⟨Grew.refl _, rfl⟩ | rfl
      simp only [Act.put, List.setIfInBounds_toArray, List.set_cons_zero, List.set_cons_succ, Nat.zero_add, Nat.reduceAdd]
    refine Facts.Lex.done fun u W2 hC hL => ?_
    have G2 := Lib.hid hC
    clear hC hL
    go_wp2
    go_returns
    exact ⟨rfl, G2.out⟩

set_option maxRecDepth 100000 in
theorem has_in (w : World) (b : Nat) (l : List Int) (k : Nat) (h : Row w b l) (hk : k < l.length) :
    Calls Try.prog 18 #[.pointer (some ⟨b, 0, none⟩), .int .i64 k] w fun e w' => e = .returned (.bool (at_ l k)) ∧ Grew w w' := by
  obtain ⟨sv, h1, h2⟩ := h
  have HB := Lib.hid h1
  obtain ⟨c0, c1⟩ := two_cells h1
  obtain ⟨ad, c, rfl, hc, hcell⟩ := h2.cell hk
  clear h1 h2
  have hk' : (k : Int) < (l.length : Int) := by omega
  unfold at_
  generalize l[k]?.getD 0 = x at *
  go_enter Try.func18, Try.ntmps18
  go_wp2
  refine Facts.wp_region_text (by kernel_rfl) (by kernel_rfl) ?_
  apply Facts.Lex.exact [] _ (by kernel_rfl)
  · intro u W hC _
    have j0 := cellG hC c0
    have j1 := cellG hC c1
    unfold Facts.one
    go_simp
    first | exact ⟨Grew.refl _, rfl⟩ | rfl
  simp only [Act.put, List.setIfInBounds_toArray, List.set_cons_zero, List.set_cons_succ, Nat.zero_add, Nat.reduceAdd]
  apply Facts.Lex.exact [] _ (by kernel_rfl)
  · intro u W hC _
    have j0 := cellG hC c0
    have j1 := cellG hC c1
    unfold Facts.one
    go_simp
    exact ((made_row W b _ (blk_keep HB.out hC)).mono fun e w' ⟨he, hw⟩ => ⟨_, he, by rw [hw]; exact Grew.refl _, rfl⟩)
  simp only [Act.put, List.setIfInBounds_toArray, List.set_cons_zero, List.set_cons_succ, Nat.zero_add, Nat.reduceAdd]
  repeat
    apply Facts.Lex.exact [] _ (by kernel_rfl)
    · intro u W hC _
      have j0 := cellG hC c0
      have j1 := cellG hC c1
      have j2 := cellG hC hcell
      unfold Facts.one
      go_simp
      first | exact ⟨Grew.refl _, rfl⟩ | rfl
    simp only [Act.put, List.setIfInBounds_toArray, List.set_cons_zero, List.set_cons_succ, Nat.zero_add, Nat.reduceAdd]
  apply Facts.Lex.exact [] _ (by kernel_rfl)
  · intro u W hC _
    have j0 := cellG hC c0
    have j1 := cellG hC c1
    unfold Facts.one
    go_simp
    exact ((there_any x W).mono fun e w' ⟨he, hw⟩ => ⟨_, he, by rw [hw]; exact Grew.refl _, rfl⟩)
  simp only [Act.put, List.setIfInBounds_toArray, List.set_cons_zero, List.set_cons_succ, Nat.zero_add, Nat.reduceAdd]
  repeat
    apply Facts.Lex.exact [] _ (by kernel_rfl)
    · intro u W hC _
      have j0 := cellG hC c0
      have j1 := cellG hC c1
      unfold Facts.one
      go_simp
      first | exact ⟨Grew.refl _, rfl⟩ | rfl
    simp only [Act.put, List.setIfInBounds_toArray, List.set_cons_zero, List.set_cons_succ, Nat.zero_add, Nat.reduceAdd]
  refine Facts.Lex.done fun u W2 hC hL => ?_
  have G2 := Lib.hid hC
  clear hC hL
  go_wp2
  go_returns
  exact ⟨rfl, G2.out⟩
end Go.Proofs.Ytojoefdahkgojab.Slot
