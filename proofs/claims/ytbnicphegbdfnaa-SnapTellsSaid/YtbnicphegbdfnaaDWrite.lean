/-
  A sector is written.
  Conditions: those that each lemma names.
-/
import Derived.Test.YtbnicphegbdfnaaDKeep
namespace Go.Proofs.Ytbnicphegbdfnaa.DWrite
set_option maxRecDepth 100000
set_option maxRecDepth 100000
set_option maxRecDepth 100000
open Go Go.RowKit Go.Proofs.Ytbnicphegbdfnaa Go.Proofs.Ytbnicphegbdfnaa.Facts Go.Proofs.Ytbnicphegbdfnaa.Bytes Go.Proofs.Ytbnicphegbdfnaa.DKeep Go.Proofs.Ytbnicphegbdfnaa.DSmall Go.Proofs.Ytbnicphegbdfnaa.DTurn Go.Proofs.Ytbnicphegbdfnaa.DArm Go.Proofs.Ytbnicphegbdfnaa.DRead Go.Proofs.Ytbnicphegbdfnaa.DNew Go.Proofs.Ytbnicphegbdfnaa.DBuild

section
variable {P : Program} {ops : Array Oper} {o : Oper} {ac : Act} {w : World} {R : World → World → Prop} {J' : Value → World → Prop} {g : Value → World → Prop}
theorem one_load (hgd : o.guard = none) (t : TypeId) (x : Operand) (ho : o.op = .load t x) (px v : Value) (hx : ac.eval x = px) (hr : (Instr.loadAt t px).run P w = .ok v w) (h : R w w ∧ J' v w ∧ g v w) : Marks.one P ops o ac w R J' g := by
  unfold Marks.one
  rw [if_pos (by unfold Region.wanted; rw [hgd])]
  unfold execOp
  simp only [ho, hx, Sem.run_bind, Sem.run_pure, Result.andThen_ok, hr]
  exact h
theorem one_store (hgd : o.guard = none) (t : TypeId) (x y : Operand) (ho : o.op = .store t x y) (px vy : Value) (hx : ac.eval x = px) (hy : ac.eval y = vy) (w' : World) (hr : (Instr.storeAt t px vy).run P w = .ok () w') (h : R w w' ∧ J' undef w' ∧ g undef w') : Marks.one P ops o ac w R J' g := by
  unfold Marks.one
  rw [if_pos (by unfold Region.wanted; rw [hgd])]
  unfold execOp
  simp only [ho, hx, hy, Sem.run_bind, Sem.run_pure, Result.andThen_ok, hr]
  exact h
theorem one_app (hgd : o.guard = none) (s x : Operand) (t tn : TypeId)
    (ho : o.op = .call { callee := .builtin .append, args := #[s, x], argTypes := #[t, tn] }) (vs vx : Value) (hs : ac.eval s = vs) (hx : ac.eval x = vx) (v' : Value) (w' : World)
    (hr : (Builtin.append_ #[t, tn] o.type #[vs, vx]).run P w = .ok v' w') (h : R w w' ∧ J' v' w' ∧ g v' w') : Marks.one P ops o ac w R J' g := by
  unfold Marks.one
  rw [if_pos (by unfold Region.wanted; rw [hgd])]
  unfold execOp
  simp only [ho, resolve, invoke, builtin, Sem.run_bind, Sem.run_pure, Result.andThen_ok, List.map_toArray, List.map_cons, List.map_nil, hs, hx, hr]
  exact h
theorem one_bs (hgd : o.guard = none) (t : TypeId) (n : Nat) (parts : Array (Nat × Operand)) (ho : o.op = .buildSlice t n parts) (vs : Array (Nat × Value)) (hx : (parts.map fun (i, x) => (i, ac.eval x)) = vs) (v : Value) (w' : World) (hr : (Instr.buildSlice t n vs).run P w = .ok v w') (h : R w w' ∧ J' v w' ∧ g v w') : Marks.one P ops o ac w R J' g := by
  unfold Marks.one
  rw [if_pos (by unfold Region.wanted; rw [hgd])]
  unfold execOp
  simp only [ho, hx, Sem.run_bind, Sem.run_pure, Result.andThen_ok, hr]
  exact h
end

/-- All operations but the last are quiet; the last leads to Pst. -/
structure JS (Wc : World) (N : Nat) (Pst : World → Prop) (m : Nat → Bool) (_u : Nat → Value) (w : World) : Prop where
  a : m N = false → Grew Wc w
  b : m N = true → (∀ j, j < N → m j = true) ∧ Pst w
theorem JS.start (w : World) (N : Nat) (Pst : World → Prop) : JS w N Pst (fun _ => false) (fun _ => undef) w.drew := ⟨fun _ => (Grew.refl w).drew, fun h => by cases h⟩
theorem JS.get {Wc : World} {N : Nat} {Pst : World → Prop} {m : Nat → Bool} {u : Nat → Value} {w : World} (h : JS Wc N Pst m u w) (k : Nat) (hk : k < N) (hm : m k = false) : Grew Wc w ∧ m N = false := by
  cases hN : m N with
  | false => exact ⟨h.a hN, rfl⟩
  | true => rw [(h.b hN).1 k hk] at hm; cases hm
theorem JS.keep {Wc : World} {N : Nat} {Pst : World → Prop} {m : Nat → Bool} {u : Nat → Value} {w w' : World} (h : JS Wc N Pst m u w) (k : Nat) (hk : k < N) (hm : m k = false) (v : Value) (hg : Grew w w') : JS Wc N Pst (Marks.upd m k) (Marks.updv u k v) w' := by
  obtain ⟨h1, h2⟩ := h.get k hk hm
  exact ⟨fun _ => h1.trans hg, fun hN => by rw [Marks.upd_other m (by omega), h2] at hN; cases hN⟩
theorem JS.last {Wc : World} {N : Nat} {Pst : World → Prop} {m : Nat → Bool} {u : Nat → Value} {w w' : World} (_h : JS Wc N Pst m u w) (v : Value) (hall : ∀ j, j < N → m j = true) (hp : Pst w') : JS Wc N Pst (Marks.upd m N) (Marks.updv u N v) w' :=
  ⟨(fun hN => by rw [Marks.upd_same] at hN; cases hN), fun _ => ⟨fun j hj => by rw [Marks.upd_other m (by omega)]; exact hall j hj, hp⟩⟩

structure J9 (Wc : World) (g : Nat) (vw : Value) (l' : List (Nat × Sec)) (news : List Value) (gc : Value → Array Value) (m : Nat → Bool) (u : Nat → Value) (w : World) : Prop where
  kept : Kept (fun j => vw.ownBlock = some j ∨ j = g) Wc w
  m74 : m 7 = true → m 4 = true
  m76 : m 7 = true → m 6 = true
  m10 : m 10 = true → m 7 = true
  gs : m 10 = false → w.heap[g]? = Wc.heap[g]?
  vs : m 7 = false → ∀ j, vw.ownBlock = some j → w.heap[j]? = Wc.heap[j]?
  u6 : m 6 = true → m 7 = false → ∃ q, u 6 = .slice (some ⟨q, 0, none⟩) 1 1 ∧ ∀ j x, news[j]? = some x → w.cell? ((⟨q, 0, none⟩ : Addr).add j) = some x
  u7 : m 7 = true → w.ownsRow 0 129 129 (u 7) l'.length (wcells l') ∧ (∀ j, (u 7).ownBlock = some j → vw.ownBlock = some j ∨ Wc.heap.size ≤ j)
  g10 : m 10 = true → w.heap[g]? = some (.cells (gc (u 7)) 104 (0, 0))
section
variable {Wc : World} {g : Nat} {vw : Value} {l' : List (Nat × Sec)} {news : List Value} {gc : Value → Array Value} {m : Nat → Bool} {u : Nat → Value} {w : World}
theorem off {a b : Bool} (h : a = true → b = true) (hb : b = false) : a = false := by cases a with
  | false => rfl
  | true => rw [h rfl] at hb; cases hb
theorem J9.start (w : World) : J9 w g vw l' news gc (fun _ => false) (fun _ => undef) w.drew :=
  ⟨(Kept.refl _ w).drew, (fun h => by cases h), (fun h => by cases h), (fun h => by cases h), fun _ => rfl, fun _ _ _ => rfl, (fun h => by cases h), (fun h => by cases h), (fun h => by cases h)⟩
theorem J9.keep (h : J9 Wc g vw l' news gc m u w) (k : Nat) (v : Value) (h6 : k ≠ 6) (h7 : k ≠ 7) (h10 : k ≠ 10) : J9 Wc g vw l' news gc (Marks.upd m k) (Marks.updv u k v) w := by
  have e6 := Marks.upd_other m (Ne.symm h6)
  have e7 := Marks.upd_other m (Ne.symm h7)
  have e10 := Marks.upd_other m (Ne.symm h10)
  have f6 := Marks.updv_other u v (Ne.symm h6)
  have f7 := Marks.updv_other u v (Ne.symm h7)
  refine ⟨h.kept, ?_, by rw [e7, e6]; exact h.m76, by rw [e10, e7]; exact h.m10, by rw [e10]; exact h.gs, by rw [e7]; exact h.vs, by rw [e6, e7, f6]; exact h.u6, by rw [e7, f7]; exact h.u7, by rw [e10, f7]; exact h.g10⟩
  intro hh
  rw [e7] at hh
  by_cases hk : k = 4
  · subst hk; exact Marks.upd_same m 4
  · rw [Marks.upd_other m (Ne.symm hk)]; exact h.m74 hh
theorem J9.put6 (h : J9 Wc g vw l' news gc m u w) (hm : m 6 = false) (hgs : g < Wc.heap.size) (hvs : ∀ j, vw.ownBlock = some j → j < Wc.heap.size) (q : Nat) (w' : World) (hg : Grew w w') (hc : ∀ j x, news[j]? = some x → w'.cell? ((⟨q, 0, none⟩ : Addr).add j) = some x) : J9 Wc g vw l' news gc (Marks.upd m 6) (Marks.updv u 6 (.slice (some ⟨q, 0, none⟩) 1 1)) w' := by
  have q7 := off h.m76 hm
  have q10 := off h.m10 q7
  have e7 : Marks.upd m 6 7 = false := by rw [Marks.upd_other m (by omega)]; exact q7
  have e10 : Marks.upd m 6 10 = false := by rw [Marks.upd_other m (by omega)]; exact q10
  refine ⟨h.kept.trans (Kept.of_grew hg), by rw [e7]; simp, by rw [e7]; simp, by rw [e10]; simp, fun _ => (hg.block g (Nat.lt_of_lt_of_le hgs h.kept.size)).trans (h.gs q10), fun _ j hj => (hg.block j (Nat.lt_of_lt_of_le (hvs j hj) h.kept.size)).trans (h.vs q7 j hj), fun _ _ => ⟨q, Marks.updv_same _ _ _, hc⟩, by rw [e7]; simp, by rw [e10]; simp⟩
theorem J9.put7 (h : J9 Wc g vw l' news gc m u w) (hm : m 7 = false) (h4 : m 4 = true) (h6 : m 6 = true) (hgs : g < Wc.heap.size) (hgw : vw.ownBlock ≠ some g) (v : Value) (w' : World) (hg : w.grownBy w' vw.ownBlock) (ho : w'.ownsRow 0 129 129 v l'.length (wcells l')) (hb : ∀ j, v.ownBlock = some j → vw.ownBlock = some j ∨ Wc.heap.size ≤ j) : J9 Wc g vw l' news gc (Marks.upd m 7) (Marks.updv u 7 v) w' := by
  have q10 := off h.m10 hm
  have e4 : Marks.upd m 7 4 = true := by rw [Marks.upd_other m (by omega)]; exact h4
  have e6 : Marks.upd m 7 6 = true := by rw [Marks.upd_other m (by omega)]; exact h6
  have e7 := Marks.upd_same m 7
  have e10 : Marks.upd m 7 10 = false := by rw [Marks.upd_other m (by omega)]; exact q10
  refine ⟨h.kept.trans (Kept.of_grown hg fun k hk => .inl hk), fun _ => e4, fun _ => e6, by rw [e10]; simp, fun _ => (hg.block g (Nat.lt_of_lt_of_le hgs h.kept.size) (fun e => hgw e.symm)).trans (h.gs q10), by rw [e7]; simp, by rw [e7]; simp, fun _ => by rw [Marks.updv_same]; exact ⟨ho, hb⟩, by rw [e10]; simp⟩
theorem J9.put10 (h : J9 Wc g vw l' news gc m u w) (h7 : m 7 = true) (hgs : g < Wc.heap.size) (hgw : vw.ownBlock ≠ some g) (x : Value) (w' : World) (hk : Kept (fun j => j = g) w w') (hg : w'.heap[g]? = some (.cells (gc (u 7)) 104 (0, 0))) : J9 Wc g vw l' news gc (Marks.upd m 10) (Marks.updv u 10 x) w' := by
  have e4 : Marks.upd m 10 4 = true := by rw [Marks.upd_other m (by omega)]; exact h.m74 h7
  have e6 : Marks.upd m 10 6 = true := by rw [Marks.upd_other m (by omega)]; exact h.m76 h7
  have e7 : Marks.upd m 10 7 = true := by rw [Marks.upd_other m (by omega)]; exact h7
  have e10 := Marks.upd_same m 10
  have f7 := Marks.updv_other u x (k := 10) (j := 7) (by omega)
  obtain ⟨h1, h2⟩ := h.u7 h7
  refine ⟨h.kept.trans ⟨hk.os, hk.tape, hk.output, hk.size, fun k hs hd => hk.block k hs (fun e => hd (.inr e))⟩, fun _ => e4, fun _ => e6, fun _ => e7, by rw [e10]; simp, by rw [e7]; simp, by rw [e7]; simp, fun _ => ?_, fun _ => by rw [f7]; exact hg⟩
  rw [f7]
  refine ⟨own_keep h1 fun k hkk => hk.block k (own_lt h1 hkk) (fun e => ?_), h2⟩
  subst e
  rcases h2 _ hkk with h3 | h3
  · exact hgw h3
  · omega
end

def noted (d : Pd) (n : Nat) (l : Sec) : Pd := { d with last := d.last.set n l, waits := d.waits ++ [(n, l)] }
theorem splice_wr (n : Int) (l : Sec) (h : l.length = 128) : splice (wr n zsec) 1 (bv l) = wr n l := by
  have hz : (bv zsec).length = 128 := by simp [bv, zsec]
  unfold splice wr
  rw [bv_length, h]
  simp only [List.take_succ_cons, List.take_zero, List.singleton_append]
  rw [show 1 + 128 = 128 + 1 from rfl, List.drop_succ_cons, List.drop_of_length_le (by omega), List.append_nil]
theorem size5 : (Try.prog.info? 5).map (·.size) = some 1 := by kernel_rfl
theorem row_set {w w' : World} {b n : Nat} {l : List Sec} {B : Sec} (h : RowAt w b l) (he : Even l) (hn : n < l.length) (hB : B.length = 128) :
    ∃ w', (Instr.storeAt 116 (.pointer (some ⟨b, n * 128, none⟩)) (.agg (bv B).toArray)).run Try.prog w = .ok () w' ∧ RowAt w' b (l.set n B) ∧ w.grownBy w' (some b) := by
  have := h.store he n B hn hB
  rwa [Nat.mul_comm] at this

theorem wr_range {W : World} {K : Nat} {n : Int} {l : Sec} (h : W.heap[K]? = some (.cells (wr n l).toArray 129 (0, 0))) : W.rangeAt K 1 (bv l) := by
  intro j v hv
  rw [cell_of_row W K (1 + j) _ _ _ h]
  simp only [List.getElem?_toArray, wr]
  rw [show 1 + j = j + 1 by omega, List.getElem?_cons_succ]
  exact hv
theorem cellB {w W : World} {p : Addr} {v : Value} (hC : Grew w W) (h : w.cell? p = some v) : W.cell? p = some v :=
  (World.cell?_of_block (w := w) (hC.block _ (World.block_lt_of_cell? w _ h))).trans h
theorem keepB {w W : World} {g : Nat} {o : Obj} (h : w.heap[g]? = some o) (hC : Grew w W) : W.heap[g]? = some o :=
  (hC.block g (Array.getElem?_eq_some_iff.1 h).1).trans h
theorem grown_of {a b c : World} {r : Option Nat} (h : Grew a b) (k : b.grownBy c r) : a.grownBy c r :=
  ⟨k.os.trans h.os, k.tape.trans h.tape, k.output.trans h.output, Nat.le_trans h.size k.size, fun j hj hr => (k.block j (Nat.lt_of_lt_of_le hj h.size) hr).trans (h.block j hj)⟩
theorem load_wr (W : World) (K : Nat) (n : Int) (l : Sec) (h : W.heap[K]? = some (.cells (wr n l).toArray 129 (0, 0))) (hl : l.length = 128) : (Instr.loadAt 129 (.pointer (some ⟨K, 0, none⟩))).run Try.prog W = .ok (.agg (wr n l).toArray) W :=
  run_loadAt_mid W K 0 129 (wr n l) _ (fun j v hv => by rw [cell_of_row W K (0 + j) _ _ _ h, Nat.zero_add]; simpa using hv) Try.underlying129 rfl (by rw [wr_length _ _ hl]; exact size67)
theorem run_store_slice (W : World) (g : Nat) (C : Array Value) (hg : W.heap[g]? = some (.cells C 104 (0, 0))) (A : Option Addr) (c n : Nat) (hC : 2 < C.size) : (Instr.storeAt 102 (.pointer (some ⟨g, 2, none⟩)) (.slice A n c)).run Try.prog W = .ok () (W.setCell ⟨g, 2, none⟩ (.slice A n c)) := by
  have h2 : W.cell? ⟨g, 2, none⟩ = some C[2] := by rw [cell_of_row _ _ _ _ _ _ hg]; simp [hC]
  have f2 := frozen_of_row W g 2 _ _ hg
  have hs : (Try.prog.info? 102).map (·.size) = some 1 := by kernel_rfl
  have hst := run_storeCells_cells (P := Try.prog) g 2 [.slice A n c] 0 W (fun j hj => by simp at hj; subst hj; simpa using congrArg Option.isSome h2) (fun j hj => by simp at hj; subst hj; exact f2) (fun v hv => by simp at hv; subst hv; rfl)
  cases hq : Try.prog.info? 102 with
  | none => simp [hq] at hs
  | some i =>
    have hsz : i.size = 1 := by simpa [hq] using hs
    simp only [Instr.storeAt, Instr.sureAddr, storeVar, sizeOf, typeInfo, Sem.run_bind, Sem.run_pure, Result.andThen_ok, Value.cells]
    simp [hq, hsz]
    exact hst

set_option maxHeartbeats 4000000 in
theorem write_full (w : World) (g : Nat) (D : Nat → Prop) (d : Pd) (n c : Nat) (ad : Addr) (S : Nat → Prop) (l : Sec) (h : DK w g D d) (hoff : d.off = false) (hn : n < d.safe.length) (hl : l.length = 128) (hr : Rd S w (.slice (some ad) 128 c) l) (hw : d.waits.length ≤ 1073741823) :
    Calls Try.prog 32 #[dptr g, .int .i64 n, .slice (some ad) 128 c] w fun e w' => e = .returned (.int .i64 (blown (noted d n l)).2) ∧ ∃ D', DK w' g D' (blown (noted d n l)).1 ∧ (∀ k, D' k → D k ∨ w.heap.size ≤ k) ∧ Kept D w w' := by
  have HD := Lib.hid h
  have HQ : Hid (refus d (n : Int) = 0) := Lib.hid (by unfold refus; rw [if_neg (by simp [hoff]), if_neg (by omega)])
  obtain ⟨A', c', e', hcl, hcm, _, q4⟩ := id hr
  injection e' with e1 e0 e2
  clear e0
  subst e1 e2
  have HC := Lib.hid (q4 ad rfl).2
  unfold maxLen at hcm
  rw [hl] at hcl
  obtain ⟨Z, hZ, hz⟩ := z67
  have HST := Lib.hid (run_store_new 129 129 size67 w Z hZ (wr n zsec) (wr_length _ _ (by simp [zsec])) (wr_one _ _))
  have HZ := Lib.hid hz
  have HL := Lib.hid hl
  have HN := Lib.hid hn
  have HW := Lib.hid hw
  have HOFF := Lib.hid hoff
  have HWZ : Hid (wr (n : Int) zsec = wr n zsec) := rfl
  clear h hoff hn hl hr hw q4 hZ hz
  unfold dptr
  go_enter Try.func32, Try.ntmps32
  go_wp2_with (first
    | (go_at_call 60; refine (refuses_eq _ _ _ _ _ 0 HD HQ).mono ?_; rintro e w' ⟨rfl, rfl⟩)
    | refine DBuild.wpList_build (by rfl) 129 #[(0, Operand.tmp 18)] (by with_reducible rfl) #[(0, .int .i64 (n : Int))] (by simp [Act.eval]) _ (run_build67 n _) ?_
    | refine DArm.wpList_alloc (by rfl) 129 (by with_reducible rfl) _ HZ.out ?_
    | refine DArm.wpList_store (by rfl) 129 (.tmp 8) (.tmp 19) (by with_reducible rfl) _ _ (by rfl) (by rfl) _ HST.out ?_
    | with_reducible refine wpList_copy_splice rfl (.tmp 21) (.tmp 22) 23 23 rfl 5 Try.underlying23 size5 (some ⟨w.heap.size, 1, none⟩) (some ad) 128 128 128 c rfl rfl w.heap.size 1 (wr n zsec) 129 ?c0 (bv l) ?c1 ?c2 ?c3 (bv_one l) w.heap.size w ?c4 (Nat.le_refl _) ?_)
  case c0 => exact heap_alloc_new w _
  case c1 => rw [bv_length, HL.out]; rfl
  case c2 => exact fun _ j v hj => Lib.cell?_alloc_some _ (HC.out j v hj)
  case c3 => rw [bv_length, HL.out, wr_length _ _ (by simp [zsec])]; omega
  case c4 => exact (Below.refl _ w).alloc (Nat.le_refl _) _
  intro w1 hw1 hb1
  rw [splice_wr n l HL.out] at hw1
  obtain ⟨K, hK⟩ : ∃ K, K = w.heap.size := ⟨_, rfl⟩
  rw [← hK] at hw1 hb1 ⊢
  have HKE := Lib.hid hK
  have HK := Lib.hid hw1.out
  obtain ⟨hD, a, b, ca, cb, vw, h0, hin⟩ := HD.out
  have hg1 : Grew w w1 := by rw [hK] at hb1; exact hb1
  have h1 : DKat w1 g a b ca cb vw d := h0.keep (hg1.block _ (hD _ hin.g)) (hg1.block _ (hD _ hin.a)) (hg1.block _ (hD _ hin.b)) (fun k e => hg1.block _ (hD _ (hin.w k e)))
  have HA1 := Lib.hid h1
  have HIN := Lib.hid hin
  have HDD := Lib.hid hD
  have HG1 := Lib.hid hg1
  have HBL : Hid (b < w1.heap.size) := Lib.hid h1.last.lt
  obtain ⟨_, c1, c2, _, _⟩ := h1.cells
  have hcb := h1.cb1
  have hcb2 := h1.cb2
  have hnn := HN.out
  clear hw1 hb1 h0 h1 hin hD hg1 HC HST HZ hK HQ
  go_wp2
  refine Marks.wp_region_text (JS w1 8 (fun W => RowAt W b (d.last.set n l) ∧ w1.grownBy W (some b))) (fun _ _ => True) (by kernel_rfl) (by kernel_rfl) (JS.start w1 8 _) ?_
  apply Marks.Lex.exact [] _ (by kernel_rfl)
  · intro m u W hm hcl hJ _
    obtain ⟨hC, _⟩ := hJ.get 0 (by omega) hm
    unfold Marks.one
    go_simp
    exact ⟨trivial, hJ.keep 0 (by omega) hm _ (Grew.refl _), rfl⟩
  simp only [Act.put, List.setIfInBounds_toArray, List.set_cons_zero, List.set_cons_succ, Nat.zero_add, Nat.reduceAdd]
  apply Marks.Lex.exact [] _ (by kernel_rfl)
  · intro m u W hm hcl hJ _
    obtain ⟨hC, _⟩ := hJ.get 1 (by omega) hm
    unfold Marks.one
    go_simp
    exact ⟨trivial, hJ.keep 1 (by omega) hm _ (Grew.refl _), rfl⟩
  simp only [Act.put, List.setIfInBounds_toArray, List.set_cons_zero, List.set_cons_succ, Nat.zero_add, Nat.reduceAdd]
  apply Marks.Lex.exact [] _ (by kernel_rfl)
  · intro m u W hm hcl hJ _
    obtain ⟨hC, _⟩ := hJ.get 2 (by omega) hm
    unfold Marks.one
    go_simp
    exact ⟨trivial, hJ.keep 2 (by omega) hm _ (Grew.refl _), rfl⟩
  simp only [Act.put, List.setIfInBounds_toArray, List.set_cons_zero, List.set_cons_succ, Nat.zero_add, Nat.reduceAdd]
  apply Marks.Lex.exact [] _ (by kernel_rfl)
  · intro m u W hm hcl hJ _
    obtain ⟨hC, _⟩ := hJ.get 3 (by omega) hm
    have c1' := cellB hC c1
    unfold Marks.one
    go_simp
    exact ⟨trivial, hJ.keep 3 (by omega) hm _ (Grew.refl _), rfl⟩
  simp only [Act.put, List.setIfInBounds_toArray, List.set_cons_zero, List.set_cons_succ, Nat.zero_add, Nat.reduceAdd]
  apply Marks.Lex.exact [] _ (by kernel_rfl)
  · intro m u W hm hcl hJ _
    obtain ⟨hC, _⟩ := hJ.get 4 (by omega) hm
    unfold Marks.one
    go_simp
    exact ⟨trivial, hJ.keep 4 (by omega) hm _ (Grew.refl _), rfl⟩
  simp only [Act.put, List.setIfInBounds_toArray, List.set_cons_zero, List.set_cons_succ, Nat.zero_add, Nat.reduceAdd]
  apply Marks.Lex.exact [] _ (by kernel_rfl)
  · intro m u W hm hcl hJ _
    obtain ⟨hC, _⟩ := hJ.get 5 (by omega) hm
    unfold Marks.one
    go_simp
    exact ⟨trivial, hJ.keep 5 (by omega) hm _ (Grew.refl _), rfl⟩
  simp only [Act.put, List.setIfInBounds_toArray, List.set_cons_zero, List.set_cons_succ, Nat.zero_add, Nat.reduceAdd]
  apply Marks.Lex.exact [] (.agg (bv l).toArray) (by kernel_rfl)
  · intro m u W hm hcl hJ _
    obtain ⟨hC, _⟩ := hJ.get 6 (by omega) hm
    exact one_load rfl 116 (.tmp 29) rfl _ _ rfl (run_load_sec W K 1 l (wr_range (keepB HK.out hC)) HL.out) ⟨trivial, hJ.keep 6 (by omega) hm _ (Grew.refl _), rfl⟩
  simp only [Act.put, List.setIfInBounds_toArray, List.set_cons_zero, List.set_cons_succ, Nat.zero_add, Nat.reduceAdd]
  apply Marks.Lex.exact [] _ (by kernel_rfl)
  · intro m u W hm hcl hJ _
    obtain ⟨hC, _⟩ := hJ.get 7 (by omega) hm
    unfold Marks.one
    go_simp
    exact ⟨trivial, hJ.keep 7 (by omega) hm _ (Grew.refl _), rfl⟩
  simp only [Act.put, List.setIfInBounds_toArray, List.set_cons_zero, List.set_cons_succ, Nat.zero_add, Nat.reduceAdd]
  apply Marks.Lex.exact [] undef (by kernel_rfl)
  · intro m u W hm hcl hJ _
    have hC := hJ.a hm
    obtain ⟨W', hr, hrow, hgr⟩ := row_set (w' := W) (HA1.out.last.keep (hC.block b HBL.out)) HA1.out.ok.el (by rw [HA1.out.ok.same]; exact HN.out) HL.out
    exact one_store rfl 116 (.tmp 31) (.tmp 30) rfl _ _ rfl rfl W' hr ⟨trivial, hJ.last undef (fun j hj => hcl j (by have : j ∈ List.range 8 := List.mem_range.2 hj; revert this; revert j; decide)) ⟨hrow, grown_of hC hgr⟩, rfl⟩
  simp only [Act.put, List.setIfInBounds_toArray, List.set_cons_zero, List.set_cons_succ, Nat.zero_add, Nat.reduceAdd]
  refine Marks.Lex.done fun m u W2 hm hJ _ => ?_
  obtain ⟨_, HR2, HG2⟩ := hJ.b (hm 8 (by omega))
  clear hJ hm
  obtain ⟨AW, cW, rfl⟩ := own_block HA1.out.waits
  have hA1 := HA1.out
  have k2 : ∀ j, j < w1.heap.size → j ≠ b → W2.heap[j]? = w1.heap[j]? := fun j hj hne => HG2.block j hj (fun e => hne (by cases e; rfl))
  have hgl : g < w1.heap.size := (Array.getElem?_eq_some_iff.1 hA1.blk).1
  have hal := hA1.safe.lt
  have HC2 : Hid (W2.cell? ⟨g, 2, none⟩ = some (.slice AW d.waits.length cW)) := Lib.hid ((World.cell?_of_block (w := w1) (k2 g hgl hA1.gb)).trans c2)
  have HBLK := Lib.hid ((k2 g hgl hA1.gb).trans hA1.blk)
  have HSF := Lib.hid (hA1.safe.keep (k2 a hal hA1.ab))
  have HOW := Lib.hid (own_keep hA1.waits fun j hj => k2 j (own_lt hA1.waits hj) (fun e => hA1.bw (by rw [hj, e])))
  have HGL : Hid (g < W2.heap.size) := Lib.hid (Nat.lt_of_lt_of_le hgl HG2.size)
  have HVL : Hid (∀ j, (Value.slice AW d.waits.length cW).ownBlock = some j → j < W2.heap.size) := Lib.hid fun j hj => Nat.lt_of_lt_of_le (own_lt hA1.waits hj) HG2.size
  have HGW := Lib.hid hA1.gw
  have HFIT := Lib.hid hA1.ok.fit
  have hKl : K < w1.heap.size := (Array.getElem?_eq_some_iff.1 HK.out).1
  have hKD : ∀ j, D j → j ≠ K := fun j hj e => by have := HDD.out j hj; have := HKE.out; omega
  have HKL : Hid (K < W2.heap.size) := Lib.hid (Nat.lt_of_lt_of_le hKl HG2.size)
  have HKN : Hid (¬ ((Value.slice AW d.waits.length cW).ownBlock = some K ∨ K = g)) := Lib.hid fun h => by
    rcases h with h | h
    · exact hKD K (HIN.out.w K h) rfl
    · exact hKD g HIN.out.g h.symm
  have HK2 := Lib.hid ((k2 K hKl (fun e => hKD b HIN.out.b e.symm)).trans HK.out)
  have HKP : Hid (Kept D w W2) := Lib.hid ((Kept.of_grew HG1.out).trans (Kept.of_grown HG2 fun j e => by cases e; exact HIN.out.b))
  have HR2' := Lib.hid HR2
  obtain ⟨GC, hGC⟩ : ∃ GC : Value → Array Value, GC = fun v => #[.slice (some ⟨a, 0, none⟩) d.safe.length ca, .slice (some ⟨b, 0, none⟩) d.safe.length cb, v, .int .i64 d.fuse, .bool d.off] := ⟨_, rfl⟩
  have HGC := Lib.hid hGC
  clear hGC
  clear c1 c2 k2 hgl hal hKl hKD HG2 HR2 hA1 hcb hcb2 hnn HK HG1
  go_wp2
  refine Marks.wp_region_text (J9 W2 g (.slice AW d.waits.length cW) (d.waits ++ [(n, l)]) (wr n l) GC) (fun _ _ => True) (by kernel_rfl) (by kernel_rfl) (J9.start W2) ?_
  apply Marks.Lex.exact [] _ (by kernel_rfl)
  · intro m u W hm hcl hJ _
    unfold Marks.one
    go_simp
    exact ⟨trivial, hJ.keep 0 _ (by omega) (by omega) (by omega), rfl⟩
  simp only [Act.put, List.setIfInBounds_toArray, List.set_cons_zero, List.set_cons_succ, Nat.zero_add, Nat.reduceAdd]
  apply Marks.Lex.exact [] _ (by kernel_rfl)
  · intro m u W hm hcl hJ _
    unfold Marks.one
    go_simp
    exact ⟨trivial, hJ.keep 1 _ (by omega) (by omega) (by omega), rfl⟩
  simp only [Act.put, List.setIfInBounds_toArray, List.set_cons_zero, List.set_cons_succ, Nat.zero_add, Nat.reduceAdd]
  apply Marks.Lex.exact [] _ (by kernel_rfl)
  · intro m u W hm hcl hJ _
    unfold Marks.one
    go_simp
    exact ⟨trivial, hJ.keep 2 _ (by omega) (by omega) (by omega), rfl⟩
  simp only [Act.put, List.setIfInBounds_toArray, List.set_cons_zero, List.set_cons_succ, Nat.zero_add, Nat.reduceAdd]
  apply Marks.Lex.exact [] _ (by kernel_rfl)
  · intro m u W hm hcl hJ _
    unfold Marks.one
    go_simp
    exact ⟨trivial, hJ.keep 3 _ (by omega) (by omega) (by omega), rfl⟩
  simp only [Act.put, List.setIfInBounds_toArray, List.set_cons_zero, List.set_cons_succ, Nat.zero_add, Nat.reduceAdd]
  apply Marks.Lex.exact [] (.slice AW d.waits.length cW) (by kernel_rfl)
  · intro m u W hm hcl hJ _
    have h10 : m 10 = false := off hJ.m10 (off hJ.m74 hm)
    have c2' : W.cell? ⟨g, 2, none⟩ = some (.slice AW d.waits.length cW) := (World.cell?_of_block (w := W2) (hJ.gs h10)).trans HC2.out
    unfold Marks.one
    go_simp
    exact ⟨trivial, hJ.keep 4 _ (by omega) (by omega) (by omega), rfl⟩
  simp only [Act.put, List.setIfInBounds_toArray, List.set_cons_zero, List.set_cons_succ, Nat.zero_add, Nat.reduceAdd]
  apply Marks.Lex.exact [] (.agg (wr n l).toArray) (by kernel_rfl)
  · intro m u W hm hcl hJ _
    have hkk : W.heap[K]? = some (.cells (wr n l).toArray 129 (0, 0)) := (hJ.kept.block K HKL.out HKN.out).trans HK2.out
    exact one_load rfl 129 (.tmp 8) rfl _ _ rfl (load_wr W K n l hkk HL.out) ⟨trivial, hJ.keep 5 _ (by omega) (by omega) (by omega), rfl⟩
  simp only [Act.put, List.setIfInBounds_toArray, List.set_cons_zero, List.set_cons_succ, Nat.zero_add, Nat.reduceAdd]
  apply Marks.Lex.know [] (fun _ _ => True) (by kernel_rfl) (fun _ _ _ _ _ => trivial)
  · intro m u W hm hcl hJ _
    refine one_bs rfl 102 1 #[(0, Operand.tmp 37)] rfl #[(0, .agg (wr n l).toArray)] (by simp [Act.eval]) _ _ (run_bs _ (by simp [wr_length _ _ HL.out]) W) ⟨trivial, hJ.put6 hm HGL.out HVL.out W.heap.size _ ((Below.refl _ W).alloc (Nat.le_refl _) _) ?_, trivial⟩
    intro j x hx
    rw [Addr.add_mid, cell_of_row _ _ _ _ _ _ (heap_alloc_new W _)]
    simpa using hx
  simp only [Act.put, List.setIfInBounds_toArray, List.set_cons_zero, List.set_cons_succ, Nat.zero_add, Nat.reduceAdd]
  apply Marks.Lex.know [] (fun _ _ => True) (by kernel_rfl) (fun _ _ _ _ _ => trivial)
  · intro m u W hm hcl hJ _
    have h4 : m 4 = true := hcl 4 (by decide)
    have h6 : m 6 = true := hcl 6 (by decide)
    obtain ⟨q, e6, hq⟩ := hJ.u6 h6 hm
    obtain ⟨v', W', hr, ho, hg, hb⟩ := run_app W _ d.waits (n, l) _ HFIT.out HL.out (own_keep HOW.out (hJ.vs hm)) q hq (Nat.le_of_lt_succ (Nat.lt_succ_of_le (Nat.le_trans HW.out (by omega))))
    refine one_app rfl (.tmp 36) (.tmp 38) 102 102 rfl _ _ rfl e6 v' W' hr ⟨trivial, hJ.put7 hm h4 h6 HGL.out HGW.out v' W' hg ho ?_, trivial⟩
    intro j hj
    rcases hb j hj with h | h
    · exact .inl h
    · exact .inr (Nat.le_trans hJ.kept.size h)
  simp only [Act.put, List.setIfInBounds_toArray, List.set_cons_zero, List.set_cons_succ, Nat.zero_add, Nat.reduceAdd]
  apply Marks.Lex.exact [] _ (by kernel_rfl)
  · intro m u W hm hcl hJ _
    unfold Marks.one
    go_simp
    exact ⟨trivial, hJ.keep 8 _ (by omega) (by omega) (by omega), rfl⟩
  simp only [Act.put, List.setIfInBounds_toArray, List.set_cons_zero, List.set_cons_succ, Nat.zero_add, Nat.reduceAdd]
  apply Marks.Lex.exact [] _ (by kernel_rfl)
  · intro m u W hm hcl hJ _
    unfold Marks.one
    go_simp
    exact ⟨trivial, hJ.keep 9 _ (by omega) (by omega) (by omega), rfl⟩
  simp only [Act.put, List.setIfInBounds_toArray, List.set_cons_zero, List.set_cons_succ, Nat.zero_add, Nat.reduceAdd]
  apply Marks.Lex.exact [] undef (by kernel_rfl)
  · intro m u W hm hcl hJ _
    have h7 : m 7 = true := hcl 7 (by decide)
    obtain ⟨hown, hbl⟩ := hJ.u7 h7
    obtain ⟨A7, c7, e7⟩ := own_block hown
    have hgg : W.heap[g]? = some (.cells #[.slice (some ⟨a, 0, none⟩) d.safe.length ca, .slice (some ⟨b, 0, none⟩) d.safe.length cb, .slice AW d.waits.length cW, .int .i64 d.fuse, .bool d.off] 104 (0, 0)) := (hJ.gs hm).trans HBLK.out
    have hst := run_store_slice W g _ hgg A7 c7 (d.waits ++ [(n, l)]).length (by simp)
    refine one_store rfl 102 (.tmp 41) (.tmp 39) rfl _ _ rfl e7 _ hst ⟨trivial, hJ.put10 h7 HGL.out HGW.out undef _ (Kept.set _ _ rfl) ?_, rfl⟩
    rw [heap_setCell_same _ _ _ _ _ _ hgg, e7, HGC.out]
    rfl
  simp only [Act.put, List.setIfInBounds_toArray, List.set_cons_zero, List.set_cons_succ, Nat.zero_add, Nat.reduceAdd]
  refine Marks.Lex.done fun m u W3 hm hJ _ => ?_
  have hown := (hJ.u7 (hm 7 (by omega))).1
  have hbl := (hJ.u7 (hm 7 (by omega))).2
  have hg10 := hJ.g10 (hm 10 (by omega))
  have hkept := hJ.kept
  clear hJ hm
  generalize u 7 = v7 at *
  have hA1 := HA1.out
  have kk : ∀ j, j < W2.heap.size → j ≠ g → (Value.slice AW d.waits.length cW).ownBlock ≠ some j → W3.heap[j]? = W2.heap[j]? := fun j hj h1 h2 => hkept.block j hj (fun h => h.elim h2 h1)
  have hnew : ∀ j, v7.ownBlock = some j → j ≠ g ∧ j ≠ a ∧ j ≠ b := fun j hj => by
    rcases hbl j hj with h | h
    · exact ⟨fun e => hA1.gw (by rw [h, e]), fun e => hA1.aw (by rw [h, e]), fun e => hA1.bw (by rw [h, e])⟩
    · have := HSF.out.lt
      have := HR2'.out.lt
      have := HGL.out
      exact ⟨by omega, by omega, by omega⟩
  have hDK : DK W3 g (fun j => D j ∨ (W2.heap.size ≤ j ∧ j < W3.heap.size)) (noted d n l) := by
    refine ⟨fun j hj => ?_, a, b, ca, cb, v7, ?_, ⟨.inl HIN.out.g, .inl HIN.out.a, .inl HIN.out.b, fun j hj => ?_⟩⟩
    · rcases hj with hj | hj
      · exact Nat.lt_of_lt_of_le (HDD.out j hj) (Nat.le_trans HKP.out.size hkept.size)
      · exact hj.2
    · refine ⟨by rw [hg10, HGC.out]; rfl, HSF.out.keep (kk a HSF.out.lt (Ne.symm hA1.ga) hA1.aw), HR2'.out.keep (kk b HR2'.out.lt (Ne.symm hA1.gb) hA1.bw), hown, hA1.ga, hA1.gb, hA1.ab, fun h => (hnew g h).1 rfl, fun h => (hnew a h).2.1 rfl, fun h => (hnew b h).2.2 rfl, ⟨hA1.ok.n1, hA1.ok.n2, ?_, hA1.ok.es, ?_, ?_, hA1.ok.f1, hA1.ok.f2⟩, hA1.ca1, hA1.ca2, hA1.cb1, hA1.cb2⟩
      · show (d.last.set n l).length = d.safe.length
        rw [List.length_set]
        exact hA1.ok.same
      · intro B hB
        rcases List.mem_or_eq_of_mem_set hB with h | rfl
        · exact hA1.ok.el B h
        · exact HL.out
      · intro p hp
        rcases List.mem_append.1 hp with h | h
        · exact hA1.ok.fit p h
        · simp at h
          subst h
          exact ⟨HN.out, HL.out⟩
    · rcases hbl j hj with h | h
      · exact .inl (HIN.out.w j h)
      · exact .inr ⟨h, own_lt hown hj⟩
  have HDK := Lib.hid hDK
  have HKP3 : Hid (Kept D w W3) := Lib.hid (HKP.out.trans ⟨hkept.os, hkept.tape, hkept.output, hkept.size, fun j hj hd => hkept.block j hj (fun h => hd (h.elim (fun h => HIN.out.w j h) (fun h => by rw [h]; exact HIN.out.g)))⟩)
  have HSZ := Lib.hid HKP.out.size
  clear hDK hnew kk hkept hown hbl hg10 hA1 HA1
  go_wp2_with fail
  refine (burn_any W3 g _ _ HDK.out).mono ?_
  rintro e W4 ⟨rfl, hdk, hk4⟩
  go_wp2
  go_ret
  refine ⟨rfl, _, hdk, fun j hj => ?_, ?_⟩
  · rcases hj with hj | hj
    · exact .inl hj
    · exact .inr (Nat.le_trans HSZ.out hj.1)
  · refine ⟨hk4.os.trans HKP3.out.os, hk4.tape.trans HKP3.out.tape, hk4.output.trans HKP3.out.output, Nat.le_trans HKP3.out.size hk4.size, fun j hj hd => (hk4.block j (Nat.lt_of_lt_of_le hj HKP3.out.size) ?_).trans (HKP3.out.block j hj hd)⟩
    rintro (h | h)
    · exact hd h
    · have := HSZ.out
      omega

def written (d : Pd) (n : Int) (l : Sec) : Pd × Int := if refus d n = 0 then (if l.length = 128 then blown (noted d n.toNat l) else (d, 1)) else (d, refus d n)
theorem refus_zero {d : Pd} {n : Int} (h0 : refus d n = 0) : d.off = false ∧ 0 ≤ n ∧ n < d.safe.length := by
  unfold refus at h0
  cases hoff : d.off with
  | true => rw [hoff, if_pos rfl] at h0; omega
  | false =>
    rw [hoff, if_neg (by simp)] at h0
    refine ⟨rfl, ?_⟩
    by_cases h1 : n < 0 ∨ (d.safe.length : Int) ≤ n
    · rw [if_pos h1] at h0; omega
    · omega
theorem write_any (w : World) (g : Nat) (D : Nat → Prop) (d : Pd) (n : Int) (v : Value) (S : Nat → Prop) (l : Sec) (h : DK w g D d) (hr : Rd S w v l) (hw : d.waits.length ≤ 1073741823) :
    Calls Try.prog 32 #[dptr g, .int .i64 n, v] w fun e w' => e = .returned (.int .i64 (written d n l).2) ∧ ∃ D', DK w' g D' (written d n l).1 ∧ (∀ k, D' k → D k ∨ w.heap.size ≤ k) ∧ Kept D w w' := by
  obtain ⟨A, c, rfl, hlc, hcm, h3, _⟩ := id hr
  unfold maxLen at hcm
  unfold written
  have HD := Lib.hid h
  by_cases h0 : refus d n = 0
  · rw [if_pos h0]
    by_cases h1 : l.length = 128
    · rw [if_pos h1]
      obtain ⟨hoff, hn0, hn1⟩ := refus_zero h0
      obtain ⟨k, rfl⟩ := Int.eq_ofNat_of_zero_le hn0
      cases A with
      | none => have := h3 rfl; omega
      | some ad =>
        rw [h1] at hr ⊢
        exact write_full w g D d k c ad S l h hoff (by omega) h1 hr hw
    · rw [if_neg h1]
      have HQ := Lib.hid h0
      have h1' : ¬ ((l.length : Int) = 128) := by omega
      clear h hr h3 h0
      unfold dptr
      go_enter Try.func32, Try.ntmps32
      go_wp2_with (go_at_call 60; refine (refuses_eq _ _ _ _ _ 0 HD HQ).mono ?_; rintro e w' ⟨rfl, rfl⟩)
      go_ret
      exact ⟨rfl, D, HD.out, fun _ h => .inl h, Kept.refl _ _⟩
  · rw [if_neg h0]
    obtain ⟨q, hq⟩ : ∃ q, refus d n = q := ⟨_, rfl⟩
    have HQ := Lib.hid hq
    rw [hq] at h0 ⊢
    clear h hr h3 hq
    unfold dptr
    go_enter Try.func32, Try.ntmps32
    go_wp2_with (go_at_call 60; refine (refuses_eq _ _ _ _ _ q HD HQ).mono ?_; rintro e w' ⟨rfl, rfl⟩)
    go_ret
    exact ⟨rfl, D, HD.out, fun _ h => .inl h, Kept.refl _ _⟩
end Go.Proofs.Ytbnicphegbdfnaa.DWrite
