/-
  Boxes and rows of orders, stored to and loaded whole.
  Conditions: those that each lemma names.
-/
import Derived.Test.YtmnfajplfnfgpaaOE
import Derived.Test.YtmnfajplfnfgpaaMarks
import Derived.Lib.Hide
import Derived.Deep.MidRow
import Derived.RangeFuncBox
namespace Go.Proofs.Ytmnfajplfnfgpaa.OF
set_option maxRecDepth 100000
open Go Go.RowKit Go.Lib Go.Proofs.Ytmnfajplfnfgpaa Go.Proofs.Ytmnfajplfnfgpaa.Facts Go.Proofs.Ytmnfajplfnfgpaa.Ints Go.Proofs.Ytmnfajplfnfgpaa.PA Go.Proofs.Ytmnfajplfnfgpaa.UM Go.Proofs.Ytmnfajplfnfgpaa.UB Go.Proofs.Ytmnfajplfnfgpaa.OA Go.Proofs.Ytmnfajplfnfgpaa.BP Go.Proofs.Ytmnfajplfnfgpaa.OB Go.Proofs.Ytmnfajplfnfgpaa.OC Go.Proofs.Ytmnfajplfnfgpaa.OD Go.Proofs.Ytmnfajplfnfgpaa.OE Go.Proofs.Ytmnfajplfnfgpaa.Bytes


/-- A box of one order. -/
def Bx (W : World) (B : Nat) (x : Or) : Prop := W.heap[B]? = some (.cells (ocs x).toArray 26 (0, 0))
theorem Bx.grew {W W' : World} {B : Nat} {x : Or} (h : Bx W B x) (hg : Grew W W') : Bx W' B x := keepB h hg
theorem Bx.lt {W : World} {B : Nat} {x : Or} (h : Bx W B x) : B < W.heap.size := (Array.getElem?_eq_some_iff.1 h).1
theorem Bx.frz {W : World} {B : Nat} {x : Or} (h : Bx W B x) (k : Nat) : W.frozen? ⟨B, k, none⟩ = false := by
  simp [World.frozen?, show W.heap[B]? = _ from h]
theorem Bx.cells {W : World} {B : Nat} {x : Or} (h : Bx W B x) : W.cell? ⟨B, 0, none⟩ = some (.bool x.used) ∧ W.cell? ⟨B, 1, none⟩ = some (.int .i64 x.label) ∧ W.cell? ⟨B, 2, none⟩ = some (.int .i64 x.who) ∧ W.cell? ⟨B, 3, none⟩ = some (.int .i64 x.side) ∧ W.cell? ⟨B, 4, none⟩ = some (.int .i64 x.base) ∧ W.cell? ⟨B, 5, none⟩ = some (.int .i64 x.quote) ∧ W.cell? ⟨B, 6, none⟩ = some (.int .u64 x.price) ∧ W.cell? ⟨B, 7, none⟩ = some (.int .u64 x.left) ∧ W.cell? ⟨B, 8, none⟩ = some (.int .u64 x.res) ∧ W.cell? ⟨B, 9, none⟩ = some (.int .i64 x.seq) := ord_cells h
theorem bset {W : World} {B t k : Nat} {C : Array Value} {fr : Nat × Nat} (v : Value) (h : W.heap[B]? = some (.cells C t fr)) : (W.setCell ⟨B, k, none⟩ v).heap[B]? = some (.cells (C.modify k fun _ => v) t fr) := by
  obtain ⟨hlt, hk⟩ := Array.getElem?_eq_some_iff.1 h
  show (W.heap.modify B _)[B]? = _
  rw [Array.getElem?_eq_getElem (by rw [Array.size_modify]; exact hlt), Array.getElem_modify_self, hk]
  rfl
theorem setCells_row {B t : Nat} {fr : Nat × Nat} : ∀ (vs : List Value) (o : Nat) (C : Array Value) (W : World), W.heap[B]? = some (.cells C t fr) → ∃ C', (W.setCells B o vs).heap[B]? = some (.cells C' t fr) ∧ C'.size = C.size
  | [], o, C, W, h => ⟨C, h, rfl⟩
  | v :: r, o, C, W, h => by
    obtain ⟨C', h1, h2⟩ := setCells_row r (o + 1) _ (W.setCell ⟨B, o, none⟩ v) (bset v h)
    exact ⟨C', h1, by rw [h2, Array.size_modify]⟩
theorem grown_set (W : World) (B k : Nat) (v : Value) : W.grownBy (W.setCell ⟨B, k, none⟩ v) (some B) := ⟨rfl, rfl, rfl, (KeepsWalks.setCell W _ v).size, fun j _ hj => Below.heap_setCell _ _ _ j (fun e => hj (by rw [e]))⟩
theorem grown_trans {A B C : World} {r : Option Nat} (h : A.grownBy B r) (k : B.grownBy C r) : A.grownBy C r :=
  ⟨k.os.trans h.os, k.tape.trans h.tape, k.output.trans h.output, Nat.le_trans h.size k.size, fun j hj hr => (k.block j (Nat.lt_of_lt_of_le hj h.size) hr).trans (h.block j hj hr)⟩
theorem grown_cells (B : Nat) : ∀ (vs : List Value) (o : Nat) (W : World), W.grownBy (W.setCells B o vs) (some B)
  | [], _, W => World.grownBy.refl W _
  | v :: r, o, W => grown_trans (grown_set W B o v) (grown_cells B r (o + 1) _)
theorem setC_ten (W : World) (B o : Nat) (a b c d e f g h i j : Value) : W.setCells B o [a, b, c, d, e, f, g, h, i, j] = (((((((((W.setCell ⟨B, o, none⟩ a).setCell ⟨B, o + 1, none⟩ b).setCell ⟨B, o + 2, none⟩ c).setCell ⟨B, o + 3, none⟩ d).setCell ⟨B, o + 4, none⟩ e).setCell ⟨B, o + 5, none⟩ f).setCell ⟨B, o + 6, none⟩ g).setCell ⟨B, o + 7, none⟩ h).setCell ⟨B, o + 8, none⟩ i).setCell ⟨B, o + 9, none⟩ j := rfl
theorem size26 : (Try.prog.info? 26).map (·.size) = some 10 := by kernel_rfl
theorem ocs_all (x : Or) : (ocs x).toArray.all (·.oneCell') = true := by simp [ocs, Value.oneCell']
theorem Bx.store {W : World} {B : Nat} {y : Or} (h : Bx W B y) (x : Or) : ∃ W', (Instr.storeAt 26 (.pointer (some ⟨B, 0, none⟩)) (orv x)).run Try.prog W = .ok () W' ∧ Bx W' B x ∧ W.grownBy W' (some B) := by
  have hth : W.there B 0 (ocs x).toArray.size := fun j hj => by
    have hj' : j < 10 := hj
    refine ⟨?_, h.frz _⟩
    rw [cell_of_row _ _ _ _ _ _ h]
    have hj2 : j < (ocs y).length := hj'
    simp [hj2]
  have hr := run_storeAt_mid (P := Try.prog) W B 0 26 (ocs x).toArray hth size26 (ocs_all x)
  refine ⟨_, hr, ?_, grown_cells B _ 0 W⟩
  obtain ⟨C', h1, h2⟩ := setCells_row (ocs x) 0 _ W h
  show (W.setCells B 0 (ocs x)).heap[B]? = _
  rw [h1]
  have hC : C' = (ocs x).toArray := by
    refine Array.ext_getElem? fun j => ?_
    by_cases hj : j < 10
    · have h3 := World.rangeAt_setCells_same W B 0 (ocs x) hth j _ (List.getElem?_eq_getElem (show j < (ocs x).length from hj))
      rw [cell_of_row _ _ _ _ _ _ h1, Nat.zero_add] at h3
      rw [h3, List.getElem?_toArray, List.getElem?_eq_getElem]
    · have h4 : C'.size = 10 := h2
      have h5 : (ocs x).toArray.size = 10 := rfl
      rw [Array.getElem?_eq_none (by omega), Array.getElem?_eq_none (by omega)]
  rw [hC]
theorem Bx.load {W : World} {B : Nat} {x : Or} (h : Bx W B x) : (Instr.loadAt 26 (.pointer (some ⟨B, 0, none⟩))).run Try.prog W = .ok (orv x) W :=
  run_loadAt_mid W B 0 26 (ocs x) _ (fun j v hv => by
    rw [cell_of_row _ _ _ _ _ _ h]
    have hj : j < (ocs x).length := (List.getElem?_eq_some_iff.1 hv).1
    simpa using hv) Try.underlying26 rfl size26
/-- An order stored at a slot of a row. -/
theorem own_store {W : World} {base g n c : Nat} {l : List Or} (h : OwnO W base (.slice (some ⟨g, 0, none⟩) n c) l) (hn : n = l.length) {k : Nat} (hk : k < l.length) (x : Or) : ∃ W', (Instr.storeAt 26 (.pointer (some ⟨g, k * 10, none⟩)) (orv x)).run Try.prog W = .ok () W' ∧ OwnO W' base (.slice (some ⟨g, 0, none⟩) n c) (l.set k x) ∧ W.grownBy W' (some g) := by
  subst hn
  have hth : W.there g (k * 10) (ocs x).toArray.size := fun j hj => by
    have hj' : j < 10 := hj
    refine ⟨?_, h.frozenAt _⟩
    rw [h.cellAt (k * 10 + j) (by omega), flat_get ocs 10 (fun _ => rfl) l k j (eo l k) (eo_get hk) hj']
    rw [List.getElem?_eq_getElem (show j < (ocs (eo l k)).length from hj')]
    rfl
  have hr := run_storeAt_mid (P := Try.prog) W g (k * 10) 26 (ocs x).toArray hth size26 (ocs_all x)
  refine ⟨_, hr, ?_, grown_cells g _ _ W⟩
  show OwnO (W.setCells g (k * 10) (ocs x)) base _ _
  unfold OwnO
  rw [List.length_set, ← ocs_set]
  unfold ocs
  rw [setC_ten]
  obtain ⟨s0, _⟩ := h.stored (k * 10) (.bool x.used)
  obtain ⟨s1, _⟩ := s0.stored (k * 10 + 1) (.int .i64 x.label)
  obtain ⟨s2, _⟩ := s1.stored (k * 10 + 2) (.int .i64 x.who)
  obtain ⟨s3, _⟩ := s2.stored (k * 10 + 3) (.int .i64 x.side)
  obtain ⟨s4, _⟩ := s3.stored (k * 10 + 4) (.int .i64 x.base)
  obtain ⟨s5, _⟩ := s4.stored (k * 10 + 5) (.int .i64 x.quote)
  obtain ⟨s6, _⟩ := s5.stored (k * 10 + 6) (.int .u64 x.price)
  obtain ⟨s7, _⟩ := s6.stored (k * 10 + 7) (.int .u64 x.left)
  obtain ⟨s8, _⟩ := s7.stored (k * 10 + 8) (.int .u64 x.res)
  obtain ⟨s9, _⟩ := s8.stored (k * 10 + 9) (.int .i64 x.seq)
  exact s9
section
variable {P : Program} {ops : Array Oper} {o : Oper} {ac : Act} {w : World} {R : World → World → Prop} {J' : Value → World → Prop} {g : Value → World → Prop}
theorem one_load (hgd : o.guard = none) (t : TypeId) (x : Operand) (ho : o.op = .load t x) (px v : Value) (hx : ac.eval x = px) (hr : (Instr.loadAt t px).run P w = .ok v w) (h : R w w ∧ J' v w ∧ g v w) : Marks.one P ops o ac w R J' g := by
  unfold Marks.one
  rw [if_pos (by unfold Region.wanted; rw [hgd])]
  unfold execOp
  simp only [ho, hx, Sem.run_bind, Sem.run_pure, Result.andThen_ok, hr]
  exact h
theorem one_store (hgd : o.guard = none) (t : TypeId) (x y : Operand) (ho : o.op = .store t x y) (px vy : Value) (hx : ac.eval x = px) (hy : ac.eval y = vy) (w' : World) (hr : (Instr.storeAt t px vy).run P w = .ok () w') (h : R w w' ∧ J' undef w' ∧ g undef w') : Marks.one P ops o ac w R J' g := by
  unfold Marks.one
  rw [if_pos (by unfold Region.wanted; rw [hgd])]
  unfold execOp
  simp only [ho, hx, hy, Sem.run_bind, Sem.run_pure, Result.andThen_ok, hr]
  exact h
end
theorem wpList_store {ops : Array Oper} {rest : List Oper} {op : Oper} {a : Act} {w : World} {Q : Exit → Act → World → Prop} (hgd : op.guard = none) (t : TypeId) (x y : Operand) (ho : op.op = .store t x y) (px vy : Value) (hx : a.eval x = px) (hy : a.eval y = vy) (w' : World)
    (hr : (Instr.storeAt t px vy).run Try.prog w = .ok () w') (h : wpList Try.prog ops Q rest (a.put op.dst undef) w') : wpList Try.prog ops Q (op :: rest) a w := by
  refine wpList_plain hgd fun _ hK => ?_
  unfold Oper.wp execOp
  simp only [ho, hx, hy, Sem.run_bind, Sem.run_pure, Result.andThen_ok, hr]
  exact hK _ _ h
theorem wpList_load {ops : Array Oper} {rest : List Oper} {op : Oper} {a : Act} {w : World} {Q : Exit → Act → World → Prop} (hgd : op.guard = none) (t : TypeId) (x : Operand) (ho : op.op = .load t x) (px v : Value) (hx : a.eval x = px)
    (hr : (Instr.loadAt t px).run Try.prog w = .ok v w) (h : wpList Try.prog ops Q rest (a.put op.dst v) w) : wpList Try.prog ops Q (op :: rest) a w := by
  refine wpList_plain hgd fun _ hK => ?_
  unfold Oper.wp execOp
  simp only [ho, hx, Sem.run_bind, Sem.run_pure, Result.andThen_ok, hr]
  exact hK _ _ h
/-- One operation leads to Pst; those that it waits for (D) come ahead of it, in worlds that only grew. -/
structure JM (Wc : World) (D : List Nat) (N : Nat) (Pst : World → Prop) (m : Nat → Bool) (_u : Nat → Value) (w : World) : Prop where
  a : m N = false → Grew Wc w
  b : m N = true → (∀ j ∈ D, m j = true) ∧ Pst w
theorem JM.start (w : World) (D : List Nat) (N : Nat) (Pst : World → Prop) : JM w D N Pst (fun _ => false) (fun _ => undef) w.drew := ⟨fun _ => (Grew.refl w).drew, fun h => by cases h⟩
theorem JM.get {Wc : World} {D : List Nat} {N : Nat} {Pst : World → Prop} {m : Nat → Bool} {u : Nat → Value} {w : World} (h : JM Wc D N Pst m u w) (k : Nat) (hk : k ∈ D) (hm : m k = false) : Grew Wc w ∧ m N = false := by
  cases hN : m N with
  | false => exact ⟨h.a hN, rfl⟩
  | true => rw [(h.b hN).1 k hk] at hm; cases hm
/-- An operation that it waits for. -/
theorem JM.keep {Wc : World} {D : List Nat} {N : Nat} {Pst : World → Prop} {m : Nat → Bool} {u : Nat → Value} {w w' : World} (h : JM Wc D N Pst m u w) (k : Nat) (hk : k ∈ D) (hkN : N ≠ k) (hm : m k = false) (v : Value) (hg : Grew w w') : JM Wc D N Pst (Marks.upd m k) (Marks.updv u k v) w' := by
  obtain ⟨h1, h2⟩ := h.get k hk hm
  exact ⟨fun _ => h1.trans hg, fun hN => by rw [Marks.upd_other m hkN, h2] at hN; cases hN⟩
/-- An operation that touches nothing. -/
theorem JM.idle {Wc : World} {D : List Nat} {N : Nat} {Pst : World → Prop} {m : Nat → Bool} {u : Nat → Value} {w : World} (h : JM Wc D N Pst m u w) (k : Nat) (hkN : N ≠ k) (v : Value) : JM Wc D N Pst (Marks.upd m k) (Marks.updv u k v) w := by
  refine ⟨fun hN => ?_, fun hN => ?_⟩
  · rw [Marks.upd_other m hkN] at hN; exact h.a hN
  · rw [Marks.upd_other m hkN] at hN
    obtain ⟨h1, h2⟩ := h.b hN
    refine ⟨fun j hj => ?_, h2⟩
    by_cases e : j = k
    · subst e; exact Marks.upd_same m j
    · rw [Marks.upd_other m e]; exact h1 j hj
theorem JM.last {Wc : World} {D : List Nat} {N : Nat} {Pst : World → Prop} {m : Nat → Bool} {u : Nat → Value} {w w' : World} (_h : JM Wc D N Pst m u w) (v : Value) (hND : N ∉ D) (hall : ∀ j ∈ D, m j = true) (hp : Pst w') : JM Wc D N Pst (Marks.upd m N) (Marks.updv u N v) w' :=
  ⟨(fun hN => by rw [Marks.upd_same] at hN; cases hN), fun _ => ⟨fun j hj => by rw [Marks.upd_other m (fun e => hND (by subst e; exact hj))]; exact hall j hj, hp⟩⟩
end Go.Proofs.Ytmnfajplfnfgpaa.OF
