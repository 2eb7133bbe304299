/-
  Operations on whole sectors, as the walk meets them: a sector's variable is laid, read, stored; so with a write.
  Conditions: those that each lemma names.
-/
import Derived.Test.YtbnicphegbdfnaaDTurn
import Derived.Handy
import Derived.Deep.LoopGhost
import Derived.IntWalk
import Derived.Lib.SliceRun
import Derived.Lib.Walk
namespace Go.Proofs.Ytbnicphegbdfnaa.DArm
set_option maxRecDepth 100000
set_option maxRecDepth 100000
set_option maxRecDepth 100000
open Go Go.RowKit Go.Proofs.Ytbnicphegbdfnaa Go.Proofs.Ytbnicphegbdfnaa.Facts Go.Proofs.Ytbnicphegbdfnaa.Bytes Go.Proofs.Ytbnicphegbdfnaa.DKeep Go.Proofs.Ytbnicphegbdfnaa.DSmall Go.Proofs.Ytbnicphegbdfnaa.DTurn

theorem size65 : (Try.prog.info? 116).map (·.size) = some 128 := by kernel_rfl
theorem size67 : (Try.prog.info? 129).map (·.size) = some 129 := by kernel_rfl
theorem zcells65 : (Try.prog.info? 116).map (fun i => i.zero.map (·.cells)) = some (some (bv (List.replicate 128 0)).toArray) := by kernel_rfl
theorem zcells67 : (Try.prog.info? 129).map (fun i => i.zero.map (·.cells)) = some (some (Value.int .i64 0 :: bv (List.replicate 128 0)).toArray) := by kernel_rfl

theorem run_alloc (t : TypeId) (Z : Array Value) (h : (Try.prog.info? t).map (fun i => i.zero.map (·.cells)) = some (some Z)) (u : World) : (Instr.alloc t true (.tuple #[])).run Try.prog u = .ok (.pointer (some ⟨u.heap.size, 0, none⟩)) (u.alloc (.cells Z t)) := by
  cases hq : Try.prog.info? t with
  | none => simp [hq] at h
  | some i =>
    cases hz : i.zero with
    | none => simp [hq, hz] at h
    | some z =>
      have hzc : z.cells = Z := by simpa [hq, hz] using h
      simp [Instr.alloc, zeroValue, typeInfo, hq, hz, newVar, newRow, hzc]

theorem wpList_alloc {ops : Array Oper} {rest : List Oper} {op : Oper} {a : Act} {w : World} {Q : Exit → Act → World → Prop} (hgd : op.guard = none) (t : TypeId) (ho : op.op = .alloc t) (Z : Array Value)
    (hz : (Try.prog.info? t).map (fun i => i.zero.map (·.cells)) = some (some Z)) (h : wpList Try.prog ops Q rest (a.put op.dst (.pointer (some ⟨w.heap.size, 0, none⟩))) (w.alloc (.cells Z t))) : wpList Try.prog ops Q (op :: rest) a w := by
  refine wpList_plain hgd fun _ hK => ?_
  unfold Oper.wp execOp
  simp only [ho, Sem.run_bind, Sem.run_pure, Result.andThen_ok, run_alloc t Z hz w]
  exact hK _ _ h

/-- A whole value is stored into a block of which it is all. -/
theorem run_store_row (t : TypeId) (n : Nat) (hs : (Try.prog.info? t).map (·.size) = some n) (w : World) (g o : Nat) (e : TypeId) (cur : Array Value) (hg : w.heap[g]? = some (.cells cur e (0, 0))) (cs : List Value) (hc : cs.length = n) (h1 : ∀ u ∈ cs, u.oneCell' = true) (hfit : o + n ≤ cur.size) :
    (Instr.storeAt t (.pointer (some ⟨g, o, none⟩)) (.agg cs.toArray)).run Try.prog w = .ok () (w.setRow g (cur.toList.take o ++ cs ++ cur.toList.drop (o + n)).toArray) := by
  have hst := run_storeCells_at Try.prog g o e cs 0 cur w hg (by omega) h1
  simp only [Nat.add_zero, hc] at hst
  cases hq : Try.prog.info? t with
  | none => simp [hq] at hs
  | some i =>
    have hsz : i.size = n := by simpa [hq] using hs
    simp only [Instr.storeAt, Instr.sureAddr, storeVar, sizeOf, typeInfo, Sem.run_bind, Sem.run_pure, Result.andThen_ok, Value.cells]
    simp [hq, hsz, hc]
    simpa [hc] using hst

theorem wpList_store {ops : Array Oper} {rest : List Oper} {op : Oper} {a : Act} {w : World} {Q : Exit → Act → World → Prop} (hgd : op.guard = none) (t : TypeId) (x y : Operand) (ho : op.op = .store t x y) (px vy : Value) (hx : a.eval x = px) (hy : a.eval y = vy) (w' : World)
    (hr : (Instr.storeAt t px vy).run Try.prog w = .ok () w') (h : wpList Try.prog ops Q rest (a.put op.dst undef) w') : wpList Try.prog ops Q (op :: rest) a w := by
  refine wpList_plain hgd fun _ hK => ?_
  unfold Oper.wp execOp
  simp only [ho, hx, hy, Sem.run_bind, Sem.run_pure, Result.andThen_ok, hr]
  exact hK _ _ h
theorem wpList_load {ops : Array Oper} {rest : List Oper} {op : Oper} {a : Act} {w : World} {Q : Exit → Act → World → Prop} (hgd : op.guard = none) (t : TypeId) (x : Operand) (ho : op.op = .load t x) (px v : Value) (hx : a.eval x = px)
    (hr : (Instr.loadAt t px).run Try.prog w = .ok v w) (h : wpList Try.prog ops Q rest (a.put op.dst v) w) : wpList Try.prog ops Q (op :: rest) a w := by
  refine wpList_plain hgd fun _ hK => ?_
  unfold Oper.wp execOp
  simp only [ho, hx, Sem.run_bind, Sem.run_pure, Result.andThen_ok, hr]
  exact hK _ _ h
/-- A sector out of the middle. -/
theorem run_load_sec (w : World) (b o : Nat) (B : Sec) (h : w.rangeAt b o (bv B)) (hB : B.length = 128) : (Instr.loadAt 116 (.pointer (some ⟨b, o, none⟩))).run Try.prog w = .ok (.agg (bv B).toArray) w :=
  run_loadAt_mid w b o 116 (bv B) _ h Try.underlying116 rfl (by rw [bv_length, hB]; exact size65)
theorem setRow_alloc (w : World) (c c' : Array Value) (t : TypeId) : (w.alloc (.cells c t)).setRow w.heap.size c' = w.alloc (.cells c' t) := by
  simp only [World.setRow, World.alloc]
  congr 1
  apply Array.ext_getElem?
  intro i
  rw [Array.getElem?_modify]
  by_cases h : w.heap.size = i
  · subst h
    simp
  · have h' : ¬ i = w.heap.size := fun e => h e.symm
    simp [h, h', Array.getElem?_push]
/-- A whole value into the block that was made last. -/
theorem run_store_new (t : TypeId) (n : Nat) (hs : (Try.prog.info? t).map (·.size) = some n) (w : World) (Z : Array Value) (hZ : Z.size = n) (cs : List Value) (hc : cs.length = n) (h1 : ∀ u ∈ cs, u.oneCell' = true) :
    (Instr.storeAt t (.pointer (some ⟨w.heap.size, 0, none⟩)) (.agg cs.toArray)).run Try.prog (w.alloc (.cells Z t)) = .ok () (w.alloc (.cells cs.toArray t)) := by
  have hr := run_store_row t n hs (w.alloc (.cells Z t)) w.heap.size 0 t Z (heap_alloc_new w _) cs hc h1 (by omega)
  rw [hr]
  congr 1
  have hzl : Z.toList.length = n := by rw [Array.length_toList]; exact hZ
  rw [List.take_zero, List.nil_append, Nat.zero_add, List.drop_of_length_le (by omega), List.append_nil]
  exact setRow_alloc w Z cs.toArray t
end Go.Proofs.Ytbnicphegbdfnaa.DArm
