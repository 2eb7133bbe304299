/-
  What all kinds need.
  Conditions: those that each lemma names.
-/
import Derived.Test.YtahlheopdneebaaGreatBN
import Derived.Lib.Hide
import Derived.Deep.MidRow
import Derived.RangeFuncBox
namespace Go.Proofs.YtahlheopdneebaaGreat.BM
set_option maxRecDepth 100000
set_option maxRecDepth 100000
open Go Go.RowKit Go.Lib Go.Proofs.YtahlheopdneebaaGreat Go.Proofs.YtahlheopdneebaaGreat.Facts Go.Proofs.YtahlheopdneebaaGreat.Ints Go.Proofs.YtahlheopdneebaaGreat.RRows Go.Proofs.YtahlheopdneebaaGreat.RSmall Go.Proofs.YtahlheopdneebaaGreat.RRules Go.Proofs.YtahlheopdneebaaGreat.RCaps Go.Proofs.YtahlheopdneebaaGreat.RRule3 Go.Proofs.YtahlheopdneebaaGreat.RRule5 Go.Proofs.YtahlheopdneebaaGreat.RRight Go.Proofs.YtahlheopdneebaaGreat.BV Go.Proofs.YtahlheopdneebaaGreat.BP Go.Proofs.YtahlheopdneebaaGreat.BN


theorem setCells_row {B t : Nat} {fr : Nat × Nat} : ∀ (vs : List Value) (o : Nat) (C : Array Value) (W : World), W.heap[B]? = some (.cells C t fr) → ∃ C', (W.setCells B o vs).heap[B]? = some (.cells C' t fr) ∧ C'.size = C.size
  | [], o, C, W, h => ⟨C, h, rfl⟩
  | v :: r, o, C, W, h => by
    obtain ⟨C', h1, h2⟩ := setCells_row r (o + 1) _ (W.setCell ⟨B, o, none⟩ v) (bset v h)
    exact ⟨C', h1, by rw [h2, Array.size_modify]⟩
theorem grown_set (W : World) (B k : Nat) (v : Value) : W.grownBy (W.setCell ⟨B, k, none⟩ v) (some B) := ⟨rfl, rfl, rfl, (KeepsWalks.setCell W _ v).size, fun j _ hj => Below.heap_setCell _ _ _ j (fun e => hj (by rw [e]))⟩
theorem grown_trans {A B C : World} {r : Option Nat} (h : A.grownBy B r) (k : B.grownBy C r) : A.grownBy C r :=
  ⟨k.os.trans h.os, k.tape.trans h.tape, k.output.trans h.output, Nat.le_trans h.size k.size, fun j hj hr => (k.block j (Nat.lt_of_lt_of_le hj h.size) hr).trans (h.block j hj hr)⟩
theorem grown_cells (B : Nat) : ∀ (vs : List Value) (o : Nat) (W : World), W.grownBy (W.setCells B o vs) (some B)
  | [], _, W => World.grownBy.refl W _
  | v :: r, o, W => grown_trans (grown_set W B o v) (grown_cells B r (o + 1) _)
/-- A block, stored to whole. -/
theorem blk_store {W : World} {B t : Nat} {C : Array Value} (xs : List Value) (h : W.heap[B]? = some (.cells C t (0, 0))) (hC : C.size = xs.length) (hsz : (Tryz.prog.info? t).map (·.size) = some xs.toArray.size) (hone : xs.toArray.all (·.oneCell') = true) :
    ∃ W', (Instr.storeAt t (.pointer (some ⟨B, 0, none⟩)) (.agg xs.toArray)).run Tryz.prog W = .ok () W' ∧ W'.heap[B]? = some (.cells xs.toArray t (0, 0)) ∧ W.grownBy W' (some B) := by
  have hth : W.there B 0 xs.toArray.size := fun j hj => by
    have hj' : j < C.size := by rw [hC]; simpa using hj
    refine ⟨?_, by simp [World.frozen?, show W.heap[B]? = _ from h]⟩
    rw [cell_of_row _ _ _ _ _ _ h]
    simp [hj']
  have hr := run_storeAt_mid (P := Tryz.prog) W B 0 t xs.toArray hth hsz hone
  refine ⟨_, hr, ?_, grown_cells B _ 0 W⟩
  obtain ⟨C', h1, h2⟩ := setCells_row xs 0 _ W h
  show (W.setCells B 0 xs).heap[B]? = _
  rw [h1]
  have hX : C' = xs.toArray := by
    refine Array.ext_getElem? fun j => ?_
    by_cases hj : j < xs.length
    · have h3 := World.rangeAt_setCells_same W B 0 xs hth j _ (List.getElem?_eq_getElem hj)
      rw [cell_of_row _ _ _ _ _ _ h1, Nat.zero_add] at h3
      rw [h3, List.getElem?_toArray, List.getElem?_eq_getElem]
    · rw [Array.getElem?_eq_none (by omega), Array.getElem?_eq_none (by simpa using hj)]
  rw [hX]
theorem wpList_store {ops : Array Oper} {rest : List Oper} {op : Oper} {a : Act} {w : World} {Q : Exit → Act → World → Prop} (hgd : op.guard = none) (t : TypeId) (x y : Operand) (ho : op.op = .store t x y) (px vy : Value) (hx : a.eval x = px) (hy : a.eval y = vy) (w' : World)
    (hr : (Instr.storeAt t px vy).run Tryz.prog w = .ok () w') (h : wpList Tryz.prog ops Q rest (a.put op.dst undef) w') : wpList Tryz.prog ops Q (op :: rest) a w := by
  refine wpList_plain hgd fun _ hK => ?_
  unfold Oper.wp execOp
  simp only [ho, hx, hy, Sem.run_bind, Sem.run_pure, Result.andThen_ok, hr]
  exact hK _ _ h
theorem results_cell {P : Program} {fn : Func} {t : Tmp} {ty : TypeId} {tmps : Array Value} {p : Addr} {v : Value} {w : World} (h : fn.results = #[.cell t ty]) (ht : tmps.getD t undef = .pointer (some p)) (hl : (loadVar ty p).run P w = .ok v w) : (results fn tmps).run P w = .ok v w := by
  have ht2 : tmps[t]?.getD undef = .pointer (some p) := by rw [← ht]; simp [Array.getD_eq_getD_getElem?]
  simp [results, h, ht2, asAddr, hl]
theorem two_new (w : World) (o p : Obj) : ((w.alloc o).alloc p).heap[w.heap.size]? = some o ∧ ((w.alloc o).alloc p).heap[w.heap.size + 1]? = some p := by
  have h1 := heap_alloc_new w o
  have h2 := heap_alloc_new (w.alloc o) p
  rw [World.size_alloc] at h2
  exact ⟨keepB h1 (by unfold Grew; go_grown), h2⟩
/-- What each kind needs, and how many there may be. -/
def nds (r : Re) : List (Int × Int) := [(9, 1), (1, r.lines.length), (1, (r.guilds.length * r.accounts.length : Nat)), (14, (tog r.quotas).R), (6, (tog r.quotas).E), (18, (tog r.quotas).I), (45, (tog r.quotas).M), (23, (tog r.quotas).T), (34, (r.labels.length * r.accounts.length : Nat)), (64, r.labels.length), (23, r.orders), (31, r.audits)]
def ndv (l : List (Int × Int)) : Value := .agg (l.flatMap fun x => [.int .i64 x.1, .int .i64 x.2]).toArray
theorem wmul (a b : Nat) (h : a * b ≤ 1000000) : IntKind.i64.wrap ((a : Int) * (b : Int)) = ((a * b : Nat) : Int) := by rw [← Int.natCast_mul]; exact IntWalk.i64_in _ (by omega)
set_option maxHeartbeats 4000000 in
theorem needs_any (v : Value) (r : Re) (w : World) (h : ReIs w v r) (hb : RB r) : Calls Tryz.prog 20 #[v] w fun e w' => e = .returned (ndv (nds r)) ∧ Grew w w' := by
  obtain ⟨v0, v1, v2, v3, v4, rfl, h0, h1, h2, h3, h4⟩ := h
  obtain ⟨A0, c0, rfl, _⟩ := h0.slice
  obtain ⟨A1, c1, rfl, _⟩ := Rw.slice h1
  obtain ⟨A2, c2, rfl, _⟩ := h2.slice
  obtain ⟨A3, c3, rfl, _⟩ := h3.slice
  have HT := Lib.hid (fun W (hg : Grew w W) => tog_any v4 r.quotas W (h4.grew hg) (by rw [hb.quo]; exact hb.lab8) hb.qok)
  obtain ⟨A4, c4, rfl, _⟩ := h4.slice
  have hp := hb.prods
  have p1 := wmul r.guilds.length r.accounts.length (by omega)
  have p2 := wmul r.labels.length r.accounts.length (by omega)
  have HE : Hid (ndv (nds r) = .agg #[.int .i64 9, .int .i64 1, .int .i64 1, .int .i64 (r.lines.length : Int), .int .i64 1, .int .i64 ((r.guilds.length * r.accounts.length : Nat) : Int), .int .i64 14, .int .i64 (tog r.quotas).R, .int .i64 6, .int .i64 (tog r.quotas).E, .int .i64 18, .int .i64 (tog r.quotas).I, .int .i64 45, .int .i64 (tog r.quotas).M, .int .i64 23, .int .i64 (tog r.quotas).T, .int .i64 34, .int .i64 ((r.labels.length * r.accounts.length : Nat) : Int), .int .i64 64, .int .i64 (r.labels.length : Int), .int .i64 23, .int .i64 r.orders, .int .i64 31, .int .i64 r.audits]) := Lib.hid rfl
  generalize ndv (nds r) = NV at *
  generalize tog r.quotas = T at *
  generalize r.guilds.length * r.accounts.length = g1 at *
  generalize r.labels.length * r.accounts.length = g2 at *
  obtain ⟨a0, a1, a2, a3, a4⟩ := T
  unfold tgv at HT
  simp only at HT HE
  clear h0 h1 h2 h3 h4 hp hb
  have G0 : Hid (Grew w (w.alloc (Obj.cells #[.slice A0 r.labels.length c0, .slice A1 r.lines.length c1, .slice A2 r.accounts.length c2, .slice A3 r.guilds.length c3, .slice A4 r.quotas.length c4, .int .i64 r.orders, .int .i64 r.audits, .int .i64 r.rate, .int .i64 r.rounds] 28))) := Lib.hid (by unfold Grew; go_grown)
  go_enter Tryz.func20, Tryz.ntmps20
  have G1 : Hid (Grew w ((w.alloc (Obj.cells #[.slice A0 r.labels.length c0, .slice A1 r.lines.length c1, .slice A2 r.accounts.length c2, .slice A3 r.guilds.length c3, .slice A4 r.quotas.length c4, .int .i64 r.orders, .int .i64 r.audits, .int .i64 r.rate, .int .i64 r.rounds] 28)).alloc (.cells #[.int .i64 0, .int .i64 0, .int .i64 0, .int .i64 0, .int .i64 0, .int .i64 0, .int .i64 0, .int .i64 0, .int .i64 0, .int .i64 0, .int .i64 0, .int .i64 0, .int .i64 0, .int .i64 0, .int .i64 0, .int .i64 0, .int .i64 0, .int .i64 0, .int .i64 0, .int .i64 0, .int .i64 0, .int .i64 0, .int .i64 0, .int .i64 0] 45))) := Lib.hid (by unfold Grew; go_grown)
  have X1 : Hid (((w.alloc (Obj.cells #[.slice A0 r.labels.length c0, .slice A1 r.lines.length c1, .slice A2 r.accounts.length c2, .slice A3 r.guilds.length c3, .slice A4 r.quotas.length c4, .int .i64 r.orders, .int .i64 r.audits, .int .i64 r.rate, .int .i64 r.rounds] 28)).alloc (.cells #[.int .i64 0, .int .i64 0, .int .i64 0, .int .i64 0, .int .i64 0, .int .i64 0, .int .i64 0, .int .i64 0, .int .i64 0, .int .i64 0, .int .i64 0, .int .i64 0, .int .i64 0, .int .i64 0, .int .i64 0, .int .i64 0, .int .i64 0, .int .i64 0, .int .i64 0, .int .i64 0, .int .i64 0, .int .i64 0, .int .i64 0, .int .i64 0] 45)).heap[w.heap.size]? = some (rcell (.slice A0 r.labels.length c0) (.slice A1 r.lines.length c1) (.slice A2 r.accounts.length c2) (.slice A3 r.guilds.length c3) (.slice A4 r.quotas.length c4) r.orders r.audits r.rate r.rounds)) := Lib.hid (two_new w _ _).1
  have Y1 : Hid (((w.alloc (Obj.cells #[.slice A0 r.labels.length c0, .slice A1 r.lines.length c1, .slice A2 r.accounts.length c2, .slice A3 r.guilds.length c3, .slice A4 r.quotas.length c4, .int .i64 r.orders, .int .i64 r.audits, .int .i64 r.rate, .int .i64 r.rounds] 28)).alloc (.cells #[.int .i64 0, .int .i64 0, .int .i64 0, .int .i64 0, .int .i64 0, .int .i64 0, .int .i64 0, .int .i64 0, .int .i64 0, .int .i64 0, .int .i64 0, .int .i64 0, .int .i64 0, .int .i64 0, .int .i64 0, .int .i64 0, .int .i64 0, .int .i64 0, .int .i64 0, .int .i64 0, .int .i64 0, .int .i64 0, .int .i64 0, .int .i64 0] 45)).heap[w.heap.size + 1]? = some (.cells #[.int .i64 0, .int .i64 0, .int .i64 0, .int .i64 0, .int .i64 0, .int .i64 0, .int .i64 0, .int .i64 0, .int .i64 0, .int .i64 0, .int .i64 0, .int .i64 0, .int .i64 0, .int .i64 0, .int .i64 0, .int .i64 0, .int .i64 0, .int .i64 0, .int .i64 0, .int .i64 0, .int .i64 0, .int .i64 0, .int .i64 0, .int .i64 0] 45 (0, 0))) := Lib.hid (two_new w _ _).2
  go_wp2_with fail
  refine (HT.out _ G1.out).mono ?_
  rintro e w2 ⟨rfl, hg⟩
  have X2 := Lib.hid (keepB X1.out hg)
  have Y2 := Lib.hid (keepB Y1.out hg)
  have G2 := Lib.hid (G1.out.trans hg)
  clear hg G1 X1 Y1 G0 HT
  have gt : Grew w2 (w2.alloc (tcell ⟨a0, a1, a2, a3, a4⟩)) := by unfold Grew; go_grown
  have X3 := Lib.hid (keepB X2.out gt)
  have Y3 := Lib.hid (keepB Y2.out gt)
  have G3 := Lib.hid (G2.out.trans gt)
  have T3 := Lib.hid (heap_alloc_new w2 (tcell ⟨a0, a1, a2, a3, a4⟩))
  clear gt X2 Y2 G2
  unfold tcell at X3 Y3 G3 T3
  obtain ⟨r0, r1, r2, r3, r4, r5, r6, r7, r8⟩ := re_cells X3.out
  go_upto_region 2 with fail
  generalize (w2.alloc (Obj.cells #[.int .i64 a0, .int .i64 a1, .int .i64 a2, .int .i64 a3, .int .i64 a4, .int .u64 0] 49)) = W3 at *
  refine Facts.wp_region_text (by kernel_rfl) (by kernel_rfl) ?_
  apply Facts.Lex.exact [] _ (by kernel_rfl)
  · intro u W hC _
    unfold Facts.one
    go_simp
    first | exact ⟨Grew.refl _, rfl⟩ | rfl
  simp only [Act.put, List.setIfInBounds_toArray, List.set_cons_zero, List.set_cons_succ, Nat.zero_add]
  apply Facts.Lex.exact [] _ (by kernel_rfl)
  · intro u W hC _
    have j0 := cellG hC r0
    have j2 := cellG hC r2
    unfold Facts.one
    go_simp
    first | exact ⟨Grew.refl _, rfl⟩ | rfl
  simp only [Act.put, List.setIfInBounds_toArray, List.set_cons_zero, List.set_cons_succ, Nat.reduceAdd]
  apply Facts.Lex.exact [] _ (by kernel_rfl)
  · intro u W hC _
    unfold Facts.one
    go_simp
    first | exact ⟨Grew.refl _, rfl⟩ | rfl
  simp only [Act.put, List.setIfInBounds_toArray, List.set_cons_zero, List.set_cons_succ, Nat.reduceAdd]
  apply Facts.Lex.exact [] _ (by kernel_rfl)
  · intro u W hC _
    unfold Facts.one
    go_simp
    first | exact ⟨Grew.refl _, rfl⟩ | rfl
  simp only [Act.put, List.setIfInBounds_toArray, List.set_cons_zero, List.set_cons_succ, Nat.reduceAdd]
  apply Facts.Lex.exact [] _ (by kernel_rfl)
  · intro u W hC _
    have j0 := cellG hC r0
    have j2 := cellG hC r2
    unfold Facts.one
    go_simp
    first | exact ⟨Grew.refl _, rfl⟩ | rfl
  simp only [Act.put, List.setIfInBounds_toArray, List.set_cons_zero, List.set_cons_succ, Nat.reduceAdd]
  apply Facts.Lex.exact [] _ (by kernel_rfl)
  · intro u W hC _
    unfold Facts.one
    go_simp
    first | exact ⟨Grew.refl _, rfl⟩ | rfl
  simp only [Act.put, List.setIfInBounds_toArray, List.set_cons_zero, List.set_cons_succ, Nat.reduceAdd]
  apply Facts.Lex.exact [] _ (by kernel_rfl)
  · intro u W hC _
    unfold Facts.one
    go_simp
    first | exact ⟨Grew.refl _, rfl⟩ | rfl
  simp only [Act.put, List.setIfInBounds_toArray, List.set_cons_zero, List.set_cons_succ, Nat.reduceAdd]
  apply Facts.Lex.exact [] _ (by kernel_rfl)
  · intro u W hC _
    unfold Facts.one
    go_simp
    first | exact ⟨Grew.refl _, rfl⟩ | rfl
  simp only [Act.put, List.setIfInBounds_toArray, List.set_cons_zero, List.set_cons_succ, Nat.reduceAdd]
  refine Facts.Lex.done fun u W4 hC hL => ?_
  have X4 := Lib.hid (keepB X3.out hC)
  have Y4 := Lib.hid (keepB Y3.out hC)
  have G4 := Lib.hid (G3.out.trans hC)
  have T4 := Lib.hid (keepB T3.out hC)
  clear hC hL r0 r1 r2 r3 r4 r5 r6 r7 r8 X3 Y3 G3 T3
  obtain ⟨r0, r1, r2, r3, r4, r5, r6, r7, r8⟩ := re_cells X4.out
  obtain ⟨t0, t1, t2, t3, t4, t5⟩ := tcells (g := ⟨a0, a1, a2, a3, a4⟩) T4.out
  simp only at t0 t1 t2 t3 t4
  obtain ⟨W5, hst, hb5, hg5⟩ := blk_store [.int .i64 9, .int .i64 1, .int .i64 1, .int .i64 (r.lines.length : Int), .int .i64 1, .int .i64 (g1 : Int), .int .i64 14, .int .i64 a0, .int .i64 6, .int .i64 a1, .int .i64 18, .int .i64 a2, .int .i64 45, .int .i64 a3, .int .i64 23, .int .i64 a4, .int .i64 34, .int .i64 (g2 : Int), .int .i64 64, .int .i64 (r.labels.length : Int), .int .i64 23, .int .i64 r.orders, .int .i64 31, .int .i64 r.audits] Y4.out rfl (by kernel_rfl) (by simp [Value.oneCell'])
  have HST := Lib.hid hst
  have B5 := Lib.hid hb5
  have G5 : Hid (Grew w W5) := Lib.hid ((show Below w.heap.size w W4 from G4.out).grown hg5 G4.out.size (fun j e => by cases e; exact Nat.le_succ _))
  clear hst hb5 hg5
  go_wp2_with (refine wpList_store (by rfl) 45 (.tmp 2) (.tmp 53) (by with_reducible rfl) _ _ (by rfl) (by rfl) _ HST.out ?_)
  have hld : (loadVar 45 ⟨w.heap.size + 1, 0, none⟩).run Tryz.prog W5 = .ok NV W5 := by
    rw [HE.out]
    exact run_loadVar_mid W5 (w.heap.size + 1) 0 45 [.int .i64 9, .int .i64 1, .int .i64 1, .int .i64 (r.lines.length : Int), .int .i64 1, .int .i64 (g1 : Int), .int .i64 14, .int .i64 a0, .int .i64 6, .int .i64 a1, .int .i64 18, .int .i64 a2, .int .i64 45, .int .i64 a3, .int .i64 23, .int .i64 a4, .int .i64 34, .int .i64 (g2 : Int), .int .i64 64, .int .i64 (r.labels.length : Int), .int .i64 23, .int .i64 r.orders, .int .i64 31, .int .i64 r.audits] _ (fun j v hv => by
      rw [cell_of_row _ _ _ _ _ _ B5.out]
      simpa using hv) Tryz.underlying45 rfl (by kernel_rfl)
  refine bodyPost_ret (results_cell rfl rfl hld) rfl ?_
  exact ⟨rfl, G5.out⟩
end Go.Proofs.YtahlheopdneebaaGreat.BM
