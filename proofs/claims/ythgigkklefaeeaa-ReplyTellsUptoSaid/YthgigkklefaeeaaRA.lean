/-
  What a line may be told: the table of kinds.
  Conditions: those that each lemma names.
-/
import Derived.Test.YthgigkklefaeeaaFX
import Derived.Laws.CopyRow
import Derived.Laws.Tables
import Derived.Deep.MidRow
import Derived.Handy
import Derived.Deep.LoopGhost
import Derived.Lib.Hide
namespace Go.Proofs.Ythgigkklefaeeaa.RA
set_option maxRecDepth 100000
open Go Go.RowKit Go.Lib Go.Proofs.Ythgigkklefaeeaa Go.Proofs.Ythgigkklefaeeaa.Facts Go.Proofs.Ythgigkklefaeeaa.Bytes Go.Proofs.Ythgigkklefaeeaa.Puts Go.Proofs.Ythgigkklefaeeaa.Scan Go.Proofs.Ythgigkklefaeeaa.Take Go.Proofs.Ythgigkklefaeeaa.Nums Go.Proofs.Ythgigkklefaeeaa.SumPure Go.Proofs.Ythgigkklefaeeaa.Sum Go.Proofs.Ythgigkklefaeeaa.FP Go.Proofs.Ythgigkklefaeeaa.FW Go.Proofs.Ythgigkklefaeeaa.FX

theorem wpList_store {ops : Array Oper} {rest : List Oper} {op : Oper} {a : Act} {w : World} {Q : Exit → Act → World → Prop} (hgd : op.guard = none) (t : TypeId) (x y : Operand) (ho : op.op = .store t x y) (px vy : Value) (hx : a.eval x = px) (hy : a.eval y = vy) (w' : World)
    (hr : (Instr.storeAt t px vy).run Try.prog w = .ok () w') (h : wpList Try.prog ops Q rest (a.put op.dst undef) w') : wpList Try.prog ops Q (op :: rest) a w := by
  refine wpList_plain hgd fun _ hK => ?_
  unfold Oper.wp execOp
  simp only [ho, hx, hy, Sem.run_bind, Sem.run_pure, Result.andThen_ok, hr]
  exact hK _ _ h
theorem wpList_load {ops : Array Oper} {rest : List Oper} {op : Oper} {a : Act} {w : World} {Q : Exit → Act → World → Prop} (hgd : op.guard = none) (t : TypeId) (x : Operand) (ho : op.op = .load t x) (px v : Value) (hx : a.eval x = px)
    (hr : (Instr.loadAt t px).run Try.prog w = .ok v w) (h : wpList Try.prog ops Q rest (a.put op.dst v) w) : wpList Try.prog ops Q (op :: rest) a w := by
  refine wpList_plain hgd fun _ hK => ?_
  unfold Oper.wp execOp
  simp only [ho, hx, Sem.run_bind, Sem.run_pure, Result.andThen_ok, hr]
  exact hK _ _ h
theorem wpList_build {ops : Array Oper} {rest : List Oper} {op : Oper} {a : Act} {w : World} {Q : Exit → Act → World → Prop} (hgd : op.guard = none) (t : TypeId) (xs : Array (Nat × Operand)) (ho : op.op = .build t xs) (vs : Array (Nat × Value)) (hx : xs.map (fun (i, x) => (i, a.eval x)) = vs) (v : Value)
    (hr : (Instr.build t vs).run Try.prog w = .ok v w) (h : wpList Try.prog ops Q rest (a.put op.dst v) w) : wpList Try.prog ops Q (op :: rest) a w := by
  refine wpList_plain hgd fun _ hK => ?_
  unfold Oper.wp execOp
  simp only [ho, hx, Sem.run_bind, Sem.run_pure, Result.andThen_ok, hr]
  exact hK _ _ h
theorem run_store_row (t : TypeId) (n : Nat) (hs : (Try.prog.info? t).map (·.size) = some n) (w : World) (g o : Nat) (e : TypeId) (cur : Array Value) (hg : w.heap[g]? = some (.cells cur e (0, 0))) (cs : List Value) (hc : cs.length = n) (h1 : ∀ u ∈ cs, u.oneCell' = true) (hfit : o + n ≤ cur.size) :
    (Instr.storeAt t (.pointer (some ⟨g, o, none⟩)) (.agg cs.toArray)).run Try.prog w = .ok () (w.setRow g (cur.toList.take o ++ cs ++ cur.toList.drop (o + n)).toArray) := by
  have hst := run_storeCells_at Try.prog g o e cs 0 cur w hg (by omega) h1
  simp only [Nat.add_zero, hc] at hst
  cases hq : Try.prog.info? t with
  | none => simp [hq] at hs
  | some i =>
    have hsz : i.size = n := by simpa [hq] using hs
    simp only [Instr.storeAt, Instr.sureAddr, storeVar, sizeOf, typeInfo, Sem.run_bind, Sem.run_pure, Result.andThen_ok, Value.cells]
    simp [hq, hsz, hc]
    simpa [hc] using hst
theorem results_cell {P : Program} {fn : Func} {t : Tmp} {ty : TypeId} {tmps : Array Value} {p : Addr} {v : Value} {w : World} (h : fn.results = #[.cell t ty]) (ht : tmps.getD t undef = .pointer (some p)) (hl : (loadVar ty p).run P w = .ok v w) : (results fn tmps).run P w = .ok v w := by
  have ht2 : tmps[t]?.getD undef = .pointer (some p) := by rw [← ht]; simp [Array.getD_eq_getD_getElem?]
  simp [results, h, ht2, asAddr, hl]
/-- A value that is all of a block is stored; all else stays. -/
theorem store_all {W : World} {R ty n : Nat} {xs : Array Value} (hs : (Try.prog.info? ty).map (·.size) = some n) (h : W.heap[R]? = some (.cells xs ty (0, 0))) (hx : xs.size = n) (ys : List Value) (hy : ys.length = n) (h1 : ∀ u ∈ ys, u.oneCell' = true) :
    ∃ W', (Instr.storeAt ty (.pointer (some ⟨R, 0, none⟩)) (.agg ys.toArray)).run Try.prog W = .ok () W' ∧ W'.heap[R]? = some (.cells ys.toArray ty (0, 0)) ∧ W.grownBy W' (some R) := by
  refine ⟨_, run_store_row ty n hs W R 0 ty xs h ys hy h1 (by omega), ?_, ?_⟩
  · rw [setRow_heap W R _ _ ty _ h]
    congr 2
    simp [List.drop_of_length_le (show xs.toList.length ≤ n by simp [hx])]
  · exact ⟨rfl, rfl, rfl, by simp [World.setRow], fun k _ hk => setRow_other W R k _ (fun e => hk (by rw [e]))⟩
theorem load_all {W : World} {R ty n : Nat} {d : TypeDesc} (hu : Try.prog.underlying ty = some d) (hd : d.isRow = true) (hs : (Try.prog.info? ty).map (·.size) = some n) {ys : List Value} (h : W.heap[R]? = some (.cells ys.toArray ty (0, 0))) (hy : ys.length = n) : (loadVar ty ⟨R, 0, none⟩).run Try.prog W = .ok (.agg ys.toArray) W := by
  have hr : W.rangeAt R 0 ys := fun j v hv => by
    rw [cell_of_row _ _ _ _ _ _ h]
    simpa using hv
  exact run_loadVar_mid W R 0 ty ys d hr hu hd (by rw [hs, hy])
theorem size60 : (Try.prog.info? 60).map (·.size) = some 36 := by kernel_rfl
theorem size59 : (Try.prog.info? 59).map (·.size) = some 6 := by kernel_rfl
theorem size58 : (Try.prog.info? 58).map (·.size) = some 2 := by kernel_rfl
theorem size25 : (Try.prog.info? 25).map (·.size) = some 4 := by kernel_rfl
/-- What all kinds may have. -/
def K36 : List Value := [.int .i64 0, .int .i64 0, .int .i64 0, .int .i64 0, .int .i64 0, .int .i64 0, .int .i64 1, .int .i64 42, .int .i64 0, .int .i64 18, .int .i64 0, .int .i64 247, .int .i64 0, .int .i64 0, .int .i64 0, .int .i64 0, .int .i64 0, .int .i64 247, .int .i64 0, .int .i64 0, .int .i64 0, .int .i64 0, .int .i64 0, .int .i64 247, .int .i64 0, .int .i64 0, .int .i64 0, .int .i64 0, .int .i64 0, .int .i64 247, .int .i64 0, .int .i64 0, .int .i64 1, .int .i64 18, .int .i64 0, .int .i64 247]
theorem K36_one : ∀ u ∈ K36, u.oneCell' = true := by
  have : K36.all (·.oneCell') = true := by decide +kernel
  exact fun u hu => List.all_eq_true.1 this u hu
def row (k : Int) : List Int := if k = 1 then [1, 42, 0, 18, 0, 247] else if k = 5 then [0, 0, 1, 18, 0, 247] else [0, 0, 0, 0, 0, 247]
theorem idx60 (k : Int) (h1 : 1 ≤ k) (h2 : k ≤ 5) (w : World) : (Instr.index 60 (.agg K36.toArray) (.int .i64 k)).run Try.prog w = .ok (.agg ((row k).map fun z => Value.int .i64 z).toArray) w := by
  rcases (show k = 1 ∨ k = 2 ∨ k = 3 ∨ k = 4 ∨ k = 5 by omega) with rfl | rfl | rfl | rfl | rfl
  all_goals kernel_rfl
end Go.Proofs.Ythgigkklefaeeaa.RA
