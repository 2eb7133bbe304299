/-
  The document's Read: where it stands, its loops, and that it reads what the program reads: EO QA QC QB QD in one text.
  Conditions: those that each lemma names.
-/
import Derived.Test.YtmegdgeiikhflaaGreatRnums
import Derived.Test.YtmegdgeiikhflaaGreatFacts
import Derived.Handy
import Derived.Lib.Hide
import Derived.Test.YtmegdgeiikhflaaGreatEQ
import Derived.Deep.LoopGhost
import Derived.Test.YtmegdgeiikhflaaGreatMarks
import Derived.Test.YtmegdgeiikhflaaGreatDR
import Derived.Laws.CopyRow
import Derived.Laws.Tables
import Derived.Deep.MidRow
namespace Go.Proofs.YtmegdgeiikhflaaGreat.EO
set_option maxRecDepth 100000
open Go Go.RowKit Go.Proofs.YtmegdgeiikhflaaGreat Go.Proofs.YtmegdgeiikhflaaGreat.Facts Go.Proofs.YtmegdgeiikhflaaGreat.Bytes Go.Proofs.YtmegdgeiikhflaaGreat.Puts Go.Proofs.YtmegdgeiikhflaaGreat.Refs Go.Proofs.YtmegdgeiikhflaaGreat.Scan Go.Proofs.YtmegdgeiikhflaaGreat.Take Go.Proofs.YtmegdgeiikhflaaGreat.Nums Go.Proofs.YtmegdgeiikhflaaGreat.Rscan Go.Proofs.YtmegdgeiikhflaaGreat.Rnums

/-- A number of one byte that may be eight at most, and none behind a fault. -/
def manyP (s : Sc) : Int × Sc :=
  let u := (s.num (width 1)).2.rule (decide (((s.num (width 1)).1 : Int) ≤ 8)) 2
  (if u.e = 0 then ((s.num (width 1)).1 : Int) else 0, u)
set_option maxHeartbeats 4000000 in
theorem rmany_any (S : Nat → Prop) (w : World) (g : Nat) (s : Sc) (h : RS S w g s) :
    Calls Tryz.prog 77 #[ptr g] w fun e w' => e = .returned (.int .i64 (manyP s).1) ∧ RS S w' g (manyP s).2 ∧ Chg (ptr g) w w' := by
  obtain ⟨⟨n, s1⟩, hn⟩ : ∃ q, s.num (width 1) = q := ⟨_, rfl⟩
  have hlt := num_lt s n s1 hn
  have HN := Lib.hid hn
  have HP := Lib.hid (rnum_eq S w g s 1 n s1 (Lib.hid h) HN)
  have hw : IntKind.i64.wrap (n : Int) = (n : Int) := IntWalk.i64_in _ (by omega)
  unfold ptr
  clear h hn
  go_enter Tryz.func77, Tryz.ntmps77
  go_wp2_with fail
  refine HP.out.mono ?_
  rintro e w1 ⟨rfl, hr, hc⟩
  have HR1 := Lib.hid hr
  have HC1 := Lib.hid hc
  clear hr hc HP
  by_cases h8 : (n : Int) ≤ 8
  · have HD : Hid (decide ((n : Int) ≤ 8) = true) := Lib.hid (by simp; omega)
    clear hlt
    go_wp2_with fail
    refine (rrule_any S w1 g s1 true 2 HR1.out).mono ?_
    rintro e w2 ⟨rfl, hr2, hc2⟩
    have HR2 := Lib.hid hr2
    have HC2 := Lib.hid (HC1.out.trans hc2)
    obtain ⟨h0, h1, v, full, a, hg, hr, ha, hl⟩ := hr2
    have c2 : w2.cell? ⟨g, 2, none⟩ = some (.int .i64 (s1.rule true 2).e) := by rw [cell_of_row _ _ _ _ _ _ hg]; rfl
    generalize hq : s1.rule true 2 = q at *
    have HQ := Lib.hid hq
    clear hc2 hg hq HR1 HC1 h0 h1 hr ha hl
    by_cases hz : q.e = 0
    · have hb : (q.e != 0) = false := by simp [hz]
      have HM : Hid (manyP s = ((n : Int), q)) := Lib.hid (by unfold manyP; simp only [HN.out, HD.out, HQ.out, hz, if_true])
      clear hz
      go_wp2
      rw [HM.out]
      go_returns
      exact ⟨rfl, HR2.out, HC2.out⟩
    · have hb : (q.e != 0) = true := by simp [hz]
      have HM : Hid (manyP s = (0, q)) := Lib.hid (by unfold manyP; simp only [HN.out, HD.out, HQ.out, hz, if_false])
      clear hz
      go_wp2
      rw [HM.out]
      go_returns
      exact ⟨rfl, HR2.out, HC2.out⟩

  · have hd : decide ((n : Int) ≤ 8) = false := by simp; omega
    have HD := Lib.hid hd
    clear hlt h8
    go_wp2_with fail
    refine (rrule_any S w1 g s1 false 2 HR1.out).mono ?_
    rintro e w2 ⟨rfl, hr2, hc2⟩
    have HR2 := Lib.hid hr2
    have HC2 := Lib.hid (HC1.out.trans hc2)
    obtain ⟨h0, h1, v, full, a, hg, hr, ha, hl⟩ := hr2
    have c2 : w2.cell? ⟨g, 2, none⟩ = some (.int .i64 (s1.rule false 2).e) := by rw [cell_of_row _ _ _ _ _ _ hg]; rfl
    generalize hq : s1.rule false 2 = q at *
    have HQ := Lib.hid hq
    clear hc2 hg hq HR1 HC1 h0 h1 hr ha hl
    by_cases hz : q.e = 0
    · have hb : (q.e != 0) = false := by simp [hz]
      have HM : Hid (manyP s = ((n : Int), q)) := Lib.hid (by unfold manyP; simp only [HN.out, HD.out, HQ.out, hz, if_true])
      clear hz
      go_wp2
      rw [HM.out]
      go_returns
      exact ⟨rfl, HR2.out, HC2.out⟩
    · have hb : (q.e != 0) = true := by simp [hz]
      have HM : Hid (manyP s = (0, q)) := Lib.hid (by unfold manyP; simp only [HN.out, HD.out, HQ.out, hz, if_false])
      clear hz
      go_wp2
      rw [HM.out]
      go_returns
      exact ⟨rfl, HR2.out, HC2.out⟩

end Go.Proofs.YtmegdgeiikhflaaGreat.EO
namespace Go.Proofs.YtmegdgeiikhflaaGreat.QA
set_option maxRecDepth 100000
open Go Go.RowKit Go.Lib Go.Proofs.YtmegdgeiikhflaaGreat Go.Proofs.YtmegdgeiikhflaaGreat.Facts Go.Proofs.YtmegdgeiikhflaaGreat.Bytes Go.Proofs.YtmegdgeiikhflaaGreat.Plain Go.Proofs.YtmegdgeiikhflaaGreat.Ints Go.Proofs.YtmegdgeiikhflaaGreat.LBox Go.Proofs.YtmegdgeiikhflaaGreat.RRows Go.Proofs.YtmegdgeiikhflaaGreat.Puts Go.Proofs.YtmegdgeiikhflaaGreat.Scan Go.Proofs.YtmegdgeiikhflaaGreat.Take Go.Proofs.YtmegdgeiikhflaaGreat.Nums Go.Proofs.YtmegdgeiikhflaaGreat.Refs Go.Proofs.YtmegdgeiikhflaaGreat.Rscan Go.Proofs.YtmegdgeiikhflaaGreat.Rnums Go.Proofs.YtmegdgeiikhflaaGreat.CA Go.Proofs.YtmegdgeiikhflaaGreat.CB Go.Proofs.YtmegdgeiikhflaaGreat.CC Go.Proofs.YtmegdgeiikhflaaGreat.CD Go.Proofs.YtmegdgeiikhflaaGreat.CE Go.Proofs.YtmegdgeiikhflaaGreat.CF Go.Proofs.YtmegdgeiikhflaaGreat.EO Go.Proofs.YtmegdgeiikhflaaGreat.RRight Go.Proofs.YtmegdgeiikhflaaGreat.RCaps Go.Proofs.YtmegdgeiikhflaaGreat.BD Go.Proofs.YtmegdgeiikhflaaGreat.BE

/-- Where it stands: the scan in block n0 + 1, the realm in block n0 + 2, a row of its own from b5 on. -/
structure LI (n0 g D b5 e m : Nat) (X : Value → Array Value) (Ws : World) (n : Nat) (xs : List Value) (v : Value) (s : Sc) (W : World) : Prop where
  kp : Kp b5 (ptr g) D Ws W
  box : W.heap[D]? = some (.cells (X v) 28 (0, 0))
  scan : RS (fun b => b < n0) W g s
  own : W.ownsRow b5 e m v n xs
  le : b5 ≤ W.heap.size
  lt : D < b5
  hg : g = n0 + 1
  hD : D = n0 + 2
section
variable {n0 g D b5 e m n : Nat} {X : Value → Array Value} {Ws W W' : World} {xs : List Value} {v : Value} {s s' : Sc}
theorem LI.chg (h : LI n0 g D b5 e m X Ws n xs v s W) (hc : Chg (ptr g) W W') (hs : RS (fun b => b < n0) W' g s') : LI n0 g D b5 e m X Ws n xs v s' W' := by
  have hlt := h.lt
  have hgg := h.hg
  have hDD := h.hD
  refine ⟨h.kp.trans (Kp.chg hc h.le), ?_, hs, own_chg h.own hc (fun b hb => by cases hb; show g < b5; omega), Nat.le_trans h.le hc.size, h.lt, h.hg, h.hD⟩
  refine (hc.block D (Array.getElem?_eq_some_iff.1 h.box).1 (fun q => ?_)).trans h.box
  simp [ptr, blk] at q
  omega
theorem LI.grew (h : LI n0 g D b5 e m X Ws n xs v s W) (hg : Grew W W') : LI n0 g D b5 e m X Ws n xs v s W' := h.chg (Chg.of_grew hg) (h.scan.grew hg)
theorem LI.setB (h : LI n0 g D b5 e m X Ws n xs v s W) (B i : Nat) (x : Value) (hB : b5 ≤ B) (hv : ∀ k, v.ownBlock = some k → k ≠ B) : LI n0 g D b5 e m X Ws n xs v s (W.setCell ⟨B, i, none⟩ x) := by
  have hlt := h.lt
  have hgg := h.hg
  have hDD := h.hD
  have ho : ∀ k, k ≠ B → (W.setCell ⟨B, i, none⟩ x).heap[k]? = W.heap[k]? := fun k hk => heap_setCell_other W ⟨B, i, none⟩ k x (fun q => hk q)
  refine ⟨h.kp.trans ⟨rfl, rfl, rfl, by simp [World.setCell], fun k hk _ _ => ho k (by omega)⟩, (ho _ (by omega)).trans h.box, h.scan.keep (by simp [World.setCell]) (ho _ (by omega)) (fun b _ hb => ho b (by omega)), ?_, by have := h.le; simpa [World.setCell] using this, h.lt, h.hg, h.hD⟩
  refine ⟨h.own.1, h.own.2.imp id fun ⟨q, cap, cur, h1, h2, h3, h4⟩ => ⟨q, cap, cur, h1, h2, ?_, h4⟩⟩
  subst h1
  exact (ho _ (hv _ rfl)).trans h3
theorem RS.setD (h : RS (fun b => b < n0) W g s) (hgg : g = n0 + 1) (hDD : D = n0 + 2) (i : Nat) (x : Value) : RS (fun b => b < n0) (W.setCell ⟨D, i, none⟩ x) g s :=
  h.keep (by simp [World.setCell]) (heap_setCell_other W ⟨D, i, none⟩ _ x (fun q => by have q' : g = D := q; omega)) (fun b _ hb => heap_setCell_other W ⟨D, i, none⟩ b x (fun q => by have q' : b = D := q; omega))
theorem LI.push (h : LI n0 g D b5 e m X Ws n xs v s W) (hb : Below b5 W W') {n' : Nat} {xs' : List Value} {v' : Value} (ho : W'.ownsRow b5 e m v' n' xs') (i : Nat) (hX : (X v).setIfInBounds i v' = X v') : LI n0 g D b5 e m X Ws n' xs' v' s (W'.setCell ⟨D, i, none⟩ v') := by
  have hlt := h.lt
  have hgg := h.hg
  have hDD := h.hD
  have hbox : W'.heap[D]? = some (.cells (X v) 28 (0, 0)) := (hb.block _ (by omega)).trans h.box
  refine ⟨(h.kp.trans (Kp.below hb)).trans (Kp.set W' i v'), ?_, RS.setD (h.scan.keep hb.size (hb.block _ (by omega)) (fun b _ q => hb.block b (by omega))) hgg hDD i v', own_set ho (by omega), by have := Nat.le_trans h.le hb.size; simpa [World.setCell] using this, h.lt, h.hg, h.hD⟩
  rw [heap_setCell_same _ _ _ _ _ _ hbox, hX]
theorem LI.setD (h : LI n0 g D b5 e m X Ws n xs v s W) (i : Nat) (x : Value) (X' : Value → Array Value) (hX : (X v).setIfInBounds i x = X' v) : LI n0 g D b5 e m X' Ws n xs v s (W.setCell ⟨D, i, none⟩ x) := by
  refine ⟨h.kp.trans (Kp.set W i x), ?_, RS.setD h.scan h.hg h.hD i x, own_set h.own h.lt, by have := h.le; simpa [World.setCell] using this, h.lt, h.hg, h.hD⟩
  rw [heap_setCell_same _ _ _ _ _ _ h.box, hX]
/-- The next row is begun. -/
theorem LI.next (h : LI n0 g D b5 e m X Ws n xs v s W) (e' m' : Nat) (X' : Value → Array Value) (hX : X v = X' (.slice none 0 0)) : LI n0 g D W.heap.size e' m' X' W 0 [] (.slice none 0 0) s W :=
  ⟨Kp.refl _ _ _ _, by rw [← hX]; exact h.box, h.scan, World.ownsRow_nil _ _ _ _, Nat.le_refl _, Nat.lt_of_lt_of_le h.lt h.le, h.hg, h.hD⟩
theorem LI.ltD (h : LI n0 g D b5 e m X Ws n xs v s W) : D < W.heap.size := Nat.lt_of_lt_of_le h.lt h.le
theorem LI.apart (h : LI n0 g D b5 e m X Ws n xs v s W) : ∀ k, v.ownBlock = some k → k ≠ W.heap.size := fun k hk => by
  rcases h.own.2 with ⟨rfl, _⟩ | ⟨q, cap, cur, rfl, _, hq, _⟩
  · cases hk
  · simp [Value.ownBlock] at hk
    have := (Array.getElem?_eq_some_iff.1 hq).1
    omega
theorem LI.slice (h : LI n0 g D b5 e m X Ws n xs v s W) : ∃ A c, v = .slice A n c := own_sl h.own
/-- A row that was made before stays. -/
theorem LI.row (h : LI n0 g D b5 e m X Ws n xs v s W) {base t k c : Nat} {u : Value} {ys : List Value} (ho : Ws.ownsRow base t k u c ys) (h5 : Ws.heap.size ≤ b5) (hb : D < base) : W.ownsRow base t k u c ys :=
  h.kp.row ho h5 hb (fun k hk => by have := h.hg; have := h.hD; simp [ptr, blk] at hk; omega)
end

/-- A label, as the document takes it. -/
def rL (s : Sc) : La × Sc := (⟨((s.num 1).1 : Int), BitVec.ofNat 64 ((s.num 1).2.num 8).1⟩, ((s.num 1).2.num 8).2)
/-- As many as were told, whatever the fault. -/
def goF {T : Type} (one : Sc → T × Sc) : Nat → List T → Sc → List T × Sc
  | 0, acc, s => (acc, s)
  | f + 1, acc, s => goF one f (acc ++ [(one s).1]) (one s).2
def rallP {T : Type} (one : Sc → T × Sc) (s : Sc) : List T × Sc := goF one (manyP s).1.toNat [] (manyP s).2
def rpartsP (l : List UInt8) : Re × Sc :=
  let a := rallP rL ⟨l, 0⟩
  let b := rallP takeP a.2
  let c := rallP oneA b.2
  let d := rallP oneG c.2
  let q := goF oneQ a.1.length [] d.2
  let o := takeP q.2
  let u := takeP o.2
  let t := takeP u.2
  let n := takeP t.2
  (⟨a.1, b.1, c.1, d.1, q.1, o.1, u.1, t.1, n.1⟩, n.2)
def rreadP (l : List UInt8) : Re × Int :=
  if (rpartsP l).2.fin = 0 then (if mayBe (rpartsP l).1 = true then ((rpartsP l).1, 0) else (re0, 2)) else (re0, (rpartsP l).2.fin)
end Go.Proofs.YtmegdgeiikhflaaGreat.QA
namespace Go.Proofs.YtmegdgeiikhflaaGreat.QC
set_option maxRecDepth 100000
open Go Go.RowKit Go.Lib Go.Proofs.YtmegdgeiikhflaaGreat Go.Proofs.YtmegdgeiikhflaaGreat.Facts Go.Proofs.YtmegdgeiikhflaaGreat.Bytes Go.Proofs.YtmegdgeiikhflaaGreat.Plain Go.Proofs.YtmegdgeiikhflaaGreat.Ints Go.Proofs.YtmegdgeiikhflaaGreat.LBox Go.Proofs.YtmegdgeiikhflaaGreat.RRows Go.Proofs.YtmegdgeiikhflaaGreat.Puts Go.Proofs.YtmegdgeiikhflaaGreat.Scan Go.Proofs.YtmegdgeiikhflaaGreat.Take Go.Proofs.YtmegdgeiikhflaaGreat.Nums Go.Proofs.YtmegdgeiikhflaaGreat.Refs Go.Proofs.YtmegdgeiikhflaaGreat.Rscan Go.Proofs.YtmegdgeiikhflaaGreat.Rnums Go.Proofs.YtmegdgeiikhflaaGreat.CA Go.Proofs.YtmegdgeiikhflaaGreat.CB Go.Proofs.YtmegdgeiikhflaaGreat.CC Go.Proofs.YtmegdgeiikhflaaGreat.CD Go.Proofs.YtmegdgeiikhflaaGreat.CE Go.Proofs.YtmegdgeiikhflaaGreat.CF Go.Proofs.YtmegdgeiikhflaaGreat.EO Go.Proofs.YtmegdgeiikhflaaGreat.RRight Go.Proofs.YtmegdgeiikhflaaGreat.RCaps Go.Proofs.YtmegdgeiikhflaaGreat.BD Go.Proofs.YtmegdgeiikhflaaGreat.BE Go.Proofs.YtmegdgeiikhflaaGreat.QA
theorem wpList_app' {P : Program} {w : World} {ops : Array Oper} {rest : List Oper} {o : Oper} {ac : Act} {Q : Exit → Act → World → Prop} (hgd : o.guard = none) (s x : Operand) (t tn : TypeId)
    (ho : o.op = .call { callee := .builtin .append, args := #[s, x], argTypes := #[t, tn] }) (vs vx : Value) (hs : ac.eval s = vs) (hx : ac.eval x = vx) (v' : Value) (w' : World)
    (hr : (Builtin.append_ #[t, tn] o.type #[vs, vx]).run P w = .ok v' w') (hK : wpList P ops Q rest (ac.put o.dst v') w') : wpList P ops Q (o :: rest) ac w := by
  refine wpList_plain hgd fun _ hK' => ?_
  unfold Oper.wp execOp
  simp only [ho, resolve, invoke, builtin, Sem.run_bind, Sem.run_pure, Result.andThen_ok, List.map_toArray, List.map_cons, List.map_nil, hs, hx, hr]
  exact hK' _ _ hK
theorem wpList_store {ops : Array Oper} {rest : List Oper} {op : Oper} {a : Act} {w : World} {Q : Exit → Act → World → Prop} (hgd : op.guard = none) (t : TypeId) (x y : Operand) (ho : op.op = .store t x y) (px vy : Value) (hx : a.eval x = px) (hy : a.eval y = vy) (w' : World)
    (hr : (Instr.storeAt t px vy).run Tryz.prog w = .ok () w') (h : wpList Tryz.prog ops Q rest (a.put op.dst undef) w') : wpList Tryz.prog ops Q (op :: rest) a w := by
  refine wpList_plain hgd fun _ hK => ?_
  unfold Oper.wp execOp
  simp only [ho, hx, hy, Sem.run_bind, Sem.run_pure, Result.andThen_ok, hr]
  exact hK _ _ h
theorem st_int {W : World} {B i t ty : Nat} {xs : Array Value} {k : IntKind} {n : Int} (h : W.heap[B]? = some (.cells xs t (0, 0))) (hi : i < xs.size) (hs : ∀ U, (sizeOf ty).run Tryz.prog U = .ok 1 U) : (Instr.storeAt ty (.pointer (some ⟨B, i, none⟩)) (.int k n)).run Tryz.prog W = .ok () (W.setCell ⟨B, i, none⟩ (.int k n)) := by
  have c : W.cell? ⟨B, i, none⟩ = some xs[i] := by rw [cell_of_row _ _ _ _ _ _ h]; simp [hi]
  have f := frz (k := i) h
  have hs' := hs W
  go_simp
theorem st_slice {W : World} {B i t ty : Nat} {xs : Array Value} {A : Option Addr} {n c : Nat} (h : W.heap[B]? = some (.cells xs t (0, 0))) (hi : i < xs.size) (hs : ∀ U, (sizeOf ty).run Tryz.prog U = .ok 1 U) : (Instr.storeAt ty (.pointer (some ⟨B, i, none⟩)) (.slice A n c)).run Tryz.prog W = .ok () (W.setCell ⟨B, i, none⟩ (.slice A n c)) := by
  have c : W.cell? ⟨B, i, none⟩ = some xs[i] := by rw [cell_of_row _ _ _ _ _ _ h]; simp [hi]
  have f := frz (k := i) h
  have hs' := hs W
  go_simp
theorem st_string {W : World} {B i t ty : Nat} {xs : Array Value} {b : ByteArray} (h : W.heap[B]? = some (.cells xs t (0, 0))) (hi : i < xs.size) (hs : ∀ U, (sizeOf ty).run Tryz.prog U = .ok 1 U) : (Instr.storeAt ty (.pointer (some ⟨B, i, none⟩)) (.string b)).run Tryz.prog W = .ok () (W.setCell ⟨B, i, none⟩ (.string b)) := by
  have c : W.cell? ⟨B, i, none⟩ = some xs[i] := by rw [cell_of_row _ _ _ _ _ _ h]; simp [hi]
  have f := frz (k := i) h
  have hs' := hs W
  go_simp
theorem st_bool {W : World} {B i t ty : Nat} {xs : Array Value} {b : Bool} (h : W.heap[B]? = some (.cells xs t (0, 0))) (hi : i < xs.size) (hs : ∀ U, (sizeOf ty).run Tryz.prog U = .ok 1 U) : (Instr.storeAt ty (.pointer (some ⟨B, i, none⟩)) (.bool b)).run Tryz.prog W = .ok () (W.setCell ⟨B, i, none⟩ (.bool b)) := by
  have c : W.cell? ⟨B, i, none⟩ = some xs[i] := by rw [cell_of_row _ _ _ _ _ _ h]; simp [hi]
  have f := frz (k := i) h
  have hs' := hs W
  go_simp
theorem sz29 (U : World) : (sizeOf 29).run Tryz.prog U = .ok 1 U := by go_simp
theorem sz22 (U : World) : (sizeOf 22).run Tryz.prog U = .ok 1 U := by go_simp
theorem sz23 (U : World) : (sizeOf 23).run Tryz.prog U = .ok 1 U := by go_simp
theorem sz24 (U : World) : (sizeOf 24).run Tryz.prog U = .ok 1 U := by go_simp
theorem sz25 (U : World) : (sizeOf 25).run Tryz.prog U = .ok 1 U := by go_simp
theorem sz26 (U : World) : (sizeOf 26).run Tryz.prog U = .ok 1 U := by go_simp
theorem sz3 (U : World) : (sizeOf 3).run Tryz.prog U = .ok 1 U := by go_simp
theorem sz4 (U : World) : (sizeOf 4).run Tryz.prog U = .ok 1 U := by go_simp
theorem sz9 (U : World) : (sizeOf 9).run Tryz.prog U = .ok 1 U := by go_simp
theorem many_le (s : Sc) : 0 ≤ (manyP s).1 ∧ (manyP s).1 ≤ 8 := by
  unfold manyP
  simp only
  split
  · rename_i h
    by_cases h8 : ((s.num (width 1)).1 : Int) ≤ 8
    · omega
    · rw [decide_eq_false h8] at h
      unfold Sc.rule at h
      by_cases he : (s.num (width 1)).2.e = 0
      · rw [if_pos ⟨rfl, he⟩] at h
        simp at h
      · rw [if_neg (fun q => he q.2)] at h
        exact absurd h he
  · omega
theorem one_le (s : Sc) : (s.num (width 1)).1 < 256 := num_lt s _ _ rfl
theorem keepK {g : Nat} {W W' : World} {B : Nat} {o : Obj} (h : W.heap[B]? = some o) (hc : Chg (ptr g) W W') (hB : B ≠ g) : W'.heap[B]? = some o :=
  (hc.block B (Array.getElem?_eq_some_iff.1 h).1 (fun q => by simp [ptr, blk] at q; omega)).trans h
theorem two_set {W : World} {B t : Nat} {a b x : Value} (h : W.heap[B]? = some (.cells #[a, b] t (0, 0))) : (W.setCell ⟨B, 1, none⟩ x).heap[B]? = some (.cells #[a, x] t (0, 0)) := by
  rw [heap_setCell_same _ _ _ _ _ _ h]; rfl
/-- The drawn region: a number taken, laid behind the others, put into the realm. -/
def JN (A0 A1 : World → Prop) (cs : Array Value) (PB : World → Value → Prop) (PC : World → Prop) (m : Nat → Bool) (u : Nat → Value) (W : World) : Prop :=
  (m 3 = false ∧ m 5 = false ∧ m 6 = false ∧ m 8 = false ∧ A0 W) ∨
  (m 3 = true ∧ m 5 = false ∧ m 6 = false ∧ m 8 = false ∧ A1 W) ∨
  (m 3 = true ∧ m 5 = true ∧ m 6 = false ∧ m 8 = false ∧ ∃ W1, A1 W1 ∧ W = W1.alloc (.cells cs 3) ∧ u 5 = .slice (some ⟨W1.heap.size, 0, none⟩) 1 1) ∨
  (m 3 = true ∧ m 5 = true ∧ m 6 = true ∧ m 8 = false ∧ PB W (u 6)) ∨
  (m 3 = true ∧ m 5 = true ∧ m 6 = true ∧ m 8 = true ∧ m 1 = true ∧ PC W)
section
variable {A0 A1 : World → Prop} {cs : Array Value} {PB : World → Value → Prop} {PC : World → Prop} {m : Nat → Bool} {u : Nat → Value} {W W' : World}
theorem JN.start (h : A0 W) : JN A0 A1 cs PB PC (fun _ => false) (fun _ => undef) W := .inl ⟨rfl, rfl, rfl, rfl, h⟩
theorem JN.keep (h : JN A0 A1 cs PB PC m u W) {k : Nat} (hk : k = 0 ∨ k = 1 ∨ k = 2 ∨ k = 4 ∨ k = 7) (v : Value) : JN A0 A1 cs PB PC (Marks.upd m k) (Marks.updv u k v) W := by
  have e3 : Marks.upd m k 3 = m 3 := Marks.upd_other m (by omega)
  have e4 : Marks.upd m k 5 = m 5 := Marks.upd_other m (by omega)
  have e5 : Marks.upd m k 6 = m 6 := Marks.upd_other m (by omega)
  have e7 : Marks.upd m k 8 = m 8 := Marks.upd_other m (by omega)
  have u4 : Marks.updv u k v 5 = u 5 := Marks.updv_other u v (by omega)
  have u5 : Marks.updv u k v 6 = u 6 := Marks.updv_other u v (by omega)
  have e1 : m 1 = true → Marks.upd m k 1 = true := fun h => by
    unfold Marks.upd
    split
    · rfl
    · exact h
  unfold JN
  rw [e3, e4, e5, e7, u4, u5]
  rcases h with h | h | h | h | ⟨a, b, c, d, h1, hc⟩
  · exact .inl h
  · exact .inr (.inl h)
  · exact .inr (.inr (.inl h))
  · exact .inr (.inr (.inr (.inl h)))
  · exact .inr (.inr (.inr (.inr ⟨a, b, c, d, e1 h1, hc⟩)))
theorem JN.row (h : JN A0 A1 cs PB PC m u W) (h1 : m 1 = false) (P : World → Prop) (a0 : ∀ W, A0 W → P W) (a1 : ∀ W, A1 W → P W) (a2 : ∀ W, A1 W → P (W.alloc (.cells cs 3))) (b : ∀ W v, PB W v → P W) : P W := by
  rcases h with ⟨_, _, _, _, h⟩ | ⟨_, _, _, _, h⟩ | ⟨_, _, _, _, W1, h, rfl, _⟩ | ⟨_, _, _, _, h⟩ | ⟨_, _, _, _, h, _⟩
  · exact a0 _ h
  · exact a1 _ h
  · exact a2 _ h
  · exact b _ _ h
  · rw [h1] at h; cases h
theorem JN.at3 (h : JN A0 A1 cs PB PC m u W) (h3 : m 3 = false) : A0 W ∧ m 5 = false ∧ m 6 = false ∧ m 8 = false := by
  rcases h with ⟨_, a, b, c, h⟩ | ⟨h, _⟩ | ⟨h, _⟩ | ⟨h, _⟩ | ⟨h, _⟩
  · exact ⟨h, a, b, c⟩
  all_goals rw [h3] at h; cases h
theorem JN.at4 (h : JN A0 A1 cs PB PC m u W) (h3 : m 3 = true) (h4 : m 5 = false) : A1 W ∧ m 6 = false ∧ m 8 = false := by
  rcases h with ⟨h, _⟩ | ⟨_, _, b, c, h⟩ | ⟨_, h, _⟩ | ⟨_, h, _⟩ | ⟨_, h, _⟩
  · rw [h3] at h; cases h
  · exact ⟨h, b, c⟩
  all_goals rw [h4] at h; cases h
theorem JN.at5 (h : JN A0 A1 cs PB PC m u W) (h4 : m 5 = true) (h5 : m 6 = false) : m 3 = true ∧ m 8 = false ∧ ∃ W1, A1 W1 ∧ W = W1.alloc (.cells cs 3) ∧ u 5 = .slice (some ⟨W1.heap.size, 0, none⟩) 1 1 := by
  rcases h with ⟨_, h, _⟩ | ⟨_, h, _⟩ | ⟨a, _, _, c, h⟩ | ⟨_, _, h, _⟩ | ⟨_, _, h, _⟩
  · rw [h4] at h; cases h
  · rw [h4] at h; cases h
  · exact ⟨a, c, h⟩
  all_goals rw [h5] at h; cases h
theorem JN.at7 (h : JN A0 A1 cs PB PC m u W) (h5 : m 6 = true) (h7 : m 8 = false) : m 3 = true ∧ m 5 = true ∧ PB W (u 6) := by
  rcases h with ⟨_, _, h, _⟩ | ⟨_, _, h, _⟩ | ⟨_, _, h, _⟩ | ⟨a, b, _, _, h⟩ | ⟨_, _, _, h, _⟩
  · rw [h5] at h; cases h
  · rw [h5] at h; cases h
  · rw [h5] at h; cases h
  · exact ⟨a, b, h⟩
  · rw [h7] at h; cases h
theorem JN.fin (h : JN A0 A1 cs PB PC m u W) (h7 : m 8 = true) : PC W := by
  rcases h with ⟨_, _, _, h, _⟩ | ⟨_, _, _, h, _⟩ | ⟨_, _, _, h, _⟩ | ⟨_, _, _, h, _⟩ | ⟨_, _, _, _, _, h⟩
  · rw [h7] at h; cases h
  · rw [h7] at h; cases h
  · rw [h7] at h; cases h
  · rw [h7] at h; cases h
  · exact h
theorem JN.put3 (h : JN A0 A1 cs PB PC m u W) (h3 : m 3 = false) (v : Value) (ha : A1 W') : JN A0 A1 cs PB PC (Marks.upd m 3) (Marks.updv u 3 v) W' := by
  obtain ⟨_, h4, h5, h7⟩ := h.at3 h3
  exact .inr (.inl ⟨Marks.upd_same m 3, by rw [Marks.upd_other m (by decide)]; exact h4, by rw [Marks.upd_other m (by decide)]; exact h5, by rw [Marks.upd_other m (by decide)]; exact h7, ha⟩)
theorem JN.put4 (h : JN A0 A1 cs PB PC m u W) (h3 : m 3 = true) (h4 : m 5 = false) : JN A0 A1 cs PB PC (Marks.upd m 5) (Marks.updv u 5 (.slice (some ⟨W.heap.size, 0, none⟩) 1 1)) (W.alloc (.cells cs 3)) := by
  obtain ⟨ha, h5, h7⟩ := h.at4 h3 h4
  exact .inr (.inr (.inl ⟨by rw [Marks.upd_other m (by decide)]; exact h3, Marks.upd_same m 5, by rw [Marks.upd_other m (by decide)]; exact h5, by rw [Marks.upd_other m (by decide)]; exact h7, W, ha, rfl, Marks.updv_same u 5 _⟩))
theorem JN.put5 (h : JN A0 A1 cs PB PC m u W) (h4 : m 5 = true) (h5 : m 6 = false) (v : Value) (hb : PB W' v) : JN A0 A1 cs PB PC (Marks.upd m 6) (Marks.updv u 6 v) W' := by
  obtain ⟨h3, h7, _⟩ := h.at5 h4 h5
  exact .inr (.inr (.inr (.inl ⟨by rw [Marks.upd_other m (by decide)]; exact h3, by rw [Marks.upd_other m (by decide)]; exact h4, Marks.upd_same m 6, by rw [Marks.upd_other m (by decide)]; exact h7, by rw [Marks.updv_same]; exact hb⟩)))
theorem JN.put7 (h : JN A0 A1 cs PB PC m u W) (h5 : m 6 = true) (h7 : m 8 = false) (h1 : m 1 = true) (v : Value) (hc : PC W') : JN A0 A1 cs PB PC (Marks.upd m 8) (Marks.updv u 8 v) W' := by
  obtain ⟨h3, h4, _⟩ := h.at7 h5 h7
  exact .inr (.inr (.inr (.inr ⟨by rw [Marks.upd_other m (by decide)]; exact h3, by rw [Marks.upd_other m (by decide)]; exact h4, by rw [Marks.upd_other m (by decide)]; exact h5, Marks.upd_same m 8, by rw [Marks.upd_other m (by decide)]; exact h1, hc⟩)))
end

theorem wpList_load {ops : Array Oper} {rest : List Oper} {op : Oper} {a : Act} {w : World} {Q : Exit → Act → World → Prop} (hgd : op.guard = none) (t : TypeId) (x : Operand) (ho : op.op = .load t x) (px v : Value) (hx : a.eval x = px)
    (hr : (Instr.loadAt t px).run Tryz.prog w = .ok v w) (h : wpList Tryz.prog ops Q rest (a.put op.dst v) w) : wpList Tryz.prog ops Q (op :: rest) a w := by
  refine wpList_plain hgd fun _ hK => ?_
  unfold Oper.wp execOp
  simp only [ho, hx, Sem.run_bind, Sem.run_pure, Result.andThen_ok, hr]
  exact hK _ _ h
theorem run_store_row (t : TypeId) (n : Nat) (hs : (Tryz.prog.info? t).map (·.size) = some n) (w : World) (g o : Nat) (e : TypeId) (cur : Array Value) (hg : w.heap[g]? = some (.cells cur e (0, 0))) (cs : List Value) (hc : cs.length = n) (h1 : ∀ u ∈ cs, u.oneCell' = true) (hfit : o + n ≤ cur.size) :
    (Instr.storeAt t (.pointer (some ⟨g, o, none⟩)) (.agg cs.toArray)).run Tryz.prog w = .ok () (w.setRow g (cur.toList.take o ++ cs ++ cur.toList.drop (o + n)).toArray) := by
  have hst := run_storeCells_at Tryz.prog g o e cs 0 cur w hg (by omega) h1
  simp only [Nat.add_zero, hc] at hst
  cases hq : Tryz.prog.info? t with
  | none => simp [hq] at hs
  | some i =>
    have hsz : i.size = n := by simpa [hq] using hs
    simp only [Instr.storeAt, Instr.sureAddr, storeVar, sizeOf, typeInfo, Sem.run_bind, Sem.run_pure, Result.andThen_ok, Value.cells]
    simp [hq, hsz, hc]
    simpa [hc] using hst
theorem size28 : (Tryz.prog.info? 28).map (·.size) = some 9 := by kernel_rfl
/-- A whole realm is stored; all else stays. -/
theorem store9 {W : World} {R : Nat} {xs : Array Value} (h : W.heap[R]? = some (.cells xs 28 (0, 0))) (hx : xs.size = 9) (ys : List Value) (hy : ys.length = 9) (h1 : ∀ u ∈ ys, u.oneCell' = true) :
    ∃ W', (Instr.storeAt 28 (.pointer (some ⟨R, 0, none⟩)) (.agg ys.toArray)).run Tryz.prog W = .ok () W' ∧ W'.heap[R]? = some (.cells ys.toArray 28 (0, 0)) ∧ W.grownBy W' (some R) := by
  refine ⟨_, run_store_row 28 9 size28 W R 0 28 xs h ys hy h1 (by omega), ?_, ?_⟩
  · rw [setRow_heap W R _ _ 28 _ h]
    congr 2
    simp [List.drop_of_length_le (show xs.toList.length ≤ 9 by simp [hx])]
  · exact ⟨rfl, rfl, rfl, by simp [World.setRow], fun k _ hk => setRow_other W R k _ (fun e => hk (by rw [e]))⟩
theorem load9 {W : World} {R : Nat} {ys : List Value} (h : W.heap[R]? = some (.cells ys.toArray 28 (0, 0))) (hy : ys.length = 9) (_h1 : ∀ u ∈ ys, u.oneCell' = true) : (Instr.loadAt 28 (.pointer (some ⟨R, 0, none⟩))).run Tryz.prog W = .ok (.agg ys.toArray) W ∧ (loadVar 28 ⟨R, 0, none⟩).run Tryz.prog W = .ok (.agg ys.toArray) W := by
  have hr : W.rangeAt R 0 ys := fun j v hv => by
    rw [cell_of_row _ _ _ _ _ _ h]
    simpa using hv
  exact ⟨run_loadAt_mid W R 0 28 ys _ hr Tryz.underlying28 rfl (by rw [size28, hy]), run_loadVar_mid W R 0 28 ys _ hr Tryz.underlying28 rfl (by rw [size28, hy])⟩
theorem results_ct {P : Program} {fn : Func} {t s : Tmp} {ty : TypeId} {tmps : Array Value} {p : Addr} {v : Value} {w : World} (h : fn.results = #[.cell t ty, .tmp s]) (ht : tmps.getD t undef = .pointer (some p)) (hl : (loadVar ty p).run P w = .ok v w) : (results fn tmps).run P w = .ok (.tuple #[v, tmps.getD s undef]) w := by
  have ht2 : tmps[t]?.getD undef = .pointer (some p) := by rw [← ht]; simp [Array.getD_eq_getD_getElem?]
  simp [results, h, ht2, asAddr, hl]
end Go.Proofs.YtmegdgeiikhflaaGreat.QC
namespace Go.Proofs.YtmegdgeiikhflaaGreat.QB
set_option maxRecDepth 100000
open Go Go.RowKit Go.Lib Go.Proofs.YtmegdgeiikhflaaGreat Go.Proofs.YtmegdgeiikhflaaGreat.Facts Go.Proofs.YtmegdgeiikhflaaGreat.Bytes Go.Proofs.YtmegdgeiikhflaaGreat.Plain Go.Proofs.YtmegdgeiikhflaaGreat.Ints Go.Proofs.YtmegdgeiikhflaaGreat.LBox Go.Proofs.YtmegdgeiikhflaaGreat.RRows Go.Proofs.YtmegdgeiikhflaaGreat.Puts Go.Proofs.YtmegdgeiikhflaaGreat.Scan Go.Proofs.YtmegdgeiikhflaaGreat.Take Go.Proofs.YtmegdgeiikhflaaGreat.Nums Go.Proofs.YtmegdgeiikhflaaGreat.Refs Go.Proofs.YtmegdgeiikhflaaGreat.Rscan Go.Proofs.YtmegdgeiikhflaaGreat.Rnums Go.Proofs.YtmegdgeiikhflaaGreat.CA Go.Proofs.YtmegdgeiikhflaaGreat.CB Go.Proofs.YtmegdgeiikhflaaGreat.CC Go.Proofs.YtmegdgeiikhflaaGreat.CD Go.Proofs.YtmegdgeiikhflaaGreat.CE Go.Proofs.YtmegdgeiikhflaaGreat.CF Go.Proofs.YtmegdgeiikhflaaGreat.EO Go.Proofs.YtmegdgeiikhflaaGreat.RRight Go.Proofs.YtmegdgeiikhflaaGreat.RCaps Go.Proofs.YtmegdgeiikhflaaGreat.BD Go.Proofs.YtmegdgeiikhflaaGreat.BE Go.Proofs.YtmegdgeiikhflaaGreat.RRule3 Go.Proofs.YtmegdgeiikhflaaGreat.RNames Go.Proofs.YtmegdgeiikhflaaGreat.QA Go.Proofs.YtmegdgeiikhflaaGreat.QC Go.Proofs.YtmegdgeiikhflaaGreat.DR
theorem start (w : World) (v : Value) (l : List UInt8) (h : Rd (fun b => b < w.heap.size) w v l) (A : Option Addr) (c : Nat) (hv : v = .slice A l.length c) :
    LI w.heap.size (w.heap.size + 1) (w.heap.size + 2) (w.heap.size + 3) 31 2 (fun u => #[u, .slice none 0 0, .slice none 0 0, .slice none 0 0, .slice none 0 0, .int .i64 0, .int .i64 0, .int .i64 0, .int .i64 0])
      (((w.alloc (.cells #[.slice none 0 0, .slice none 0 0, .slice none 0 0, .slice none 0 0, .slice none 0 0, .int .i64 0, .int .i64 0, .int .i64 0, .int .i64 0] 28)).alloc (.cells #[.slice A l.length c, .int .i64 0, .int .i64 0] 105)).alloc (.cells #[.slice none 0 0, .slice none 0 0, .slice none 0 0, .slice none 0 0, .slice none 0 0, .int .i64 0, .int .i64 0, .int .i64 0, .int .i64 0] 28)) 0 [] (.slice none 0 0) ⟨l, 0⟩
      (((w.alloc (.cells #[.slice none 0 0, .slice none 0 0, .slice none 0 0, .slice none 0 0, .slice none 0 0, .int .i64 0, .int .i64 0, .int .i64 0, .int .i64 0] 28)).alloc (.cells #[.slice A l.length c, .int .i64 0, .int .i64 0] 105)).alloc (.cells #[.slice none 0 0, .slice none 0 0, .slice none 0 0, .slice none 0 0, .slice none 0 0, .int .i64 0, .int .i64 0, .int .i64 0, .int .i64 0] 28)) := by
  subst hv
  have g1 : Grew w (w.alloc (.cells #[.slice none 0 0, .slice none 0 0, .slice none 0 0, .slice none 0 0, .slice none 0 0, .int .i64 0, .int .i64 0, .int .i64 0, .int .i64 0] 28)) := (Below.refl _ _).alloc (Nat.le_refl _) _
  have g2 : Grew (w.alloc (.cells #[.slice none 0 0, .slice none 0 0, .slice none 0 0, .slice none 0 0, .slice none 0 0, .int .i64 0, .int .i64 0, .int .i64 0, .int .i64 0] 28)) ((w.alloc (.cells #[.slice none 0 0, .slice none 0 0, .slice none 0 0, .slice none 0 0, .slice none 0 0, .int .i64 0, .int .i64 0, .int .i64 0, .int .i64 0] 28)).alloc (.cells #[.slice A l.length c, .int .i64 0, .int .i64 0] 105)) := (Below.refl _ _).alloc (Nat.le_refl _) _
  have g3 : Grew ((w.alloc (.cells #[.slice none 0 0, .slice none 0 0, .slice none 0 0, .slice none 0 0, .slice none 0 0, .int .i64 0, .int .i64 0, .int .i64 0, .int .i64 0] 28)).alloc (.cells #[.slice A l.length c, .int .i64 0, .int .i64 0] 105)) (((w.alloc (.cells #[.slice none 0 0, .slice none 0 0, .slice none 0 0, .slice none 0 0, .slice none 0 0, .int .i64 0, .int .i64 0, .int .i64 0, .int .i64 0] 28)).alloc (.cells #[.slice A l.length c, .int .i64 0, .int .i64 0] 105)).alloc (.cells #[.slice none 0 0, .slice none 0 0, .slice none 0 0, .slice none 0 0, .slice none 0 0, .int .i64 0, .int .i64 0, .int .i64 0, .int .i64 0] 28)) := (Below.refl _ _).alloc (Nat.le_refl _) _
  have e1 : (w.alloc (.cells #[.slice none 0 0, .slice none 0 0, .slice none 0 0, .slice none 0 0, .slice none 0 0, .int .i64 0, .int .i64 0, .int .i64 0, .int .i64 0] 28)).heap.size = w.heap.size + 1 := by simp
  have e2 : ((w.alloc (.cells #[.slice none 0 0, .slice none 0 0, .slice none 0 0, .slice none 0 0, .slice none 0 0, .int .i64 0, .int .i64 0, .int .i64 0, .int .i64 0] 28)).alloc (.cells #[.slice A l.length c, .int .i64 0, .int .i64 0] 105)).heap.size = w.heap.size + 2 := by simp
  have a2 := heap_alloc_new (w.alloc (.cells #[.slice none 0 0, .slice none 0 0, .slice none 0 0, .slice none 0 0, .slice none 0 0, .int .i64 0, .int .i64 0, .int .i64 0, .int .i64 0] 28)) (.cells #[.slice A l.length c, .int .i64 0, .int .i64 0] 105)
  have a3 := heap_alloc_new ((w.alloc (.cells #[.slice none 0 0, .slice none 0 0, .slice none 0 0, .slice none 0 0, .slice none 0 0, .int .i64 0, .int .i64 0, .int .i64 0, .int .i64 0] 28)).alloc (.cells #[.slice A l.length c, .int .i64 0, .int .i64 0] 105)) (.cells #[.slice none 0 0, .slice none 0 0, .slice none 0 0, .slice none 0 0, .slice none 0 0, .int .i64 0, .int .i64 0, .int .i64 0, .int .i64 0] 28)
  rw [e1] at a2
  rw [e2] at a3
  refine ⟨Kp.refl _ _ _ _, a3, ⟨by omega, by simp, .slice A l.length c, l, 0, (g3.block _ (by rw [e2]; omega)).trans a2, h.grew ((g1.trans g2).trans g3), Nat.zero_le _, rfl⟩, World.ownsRow_nil _ _ _ _, by simp, by omega, rfl, rfl⟩
theorem start_grew (w : World) (A : Option Addr) (n c : Nat) : Grew w (((w.alloc (.cells #[.slice none 0 0, .slice none 0 0, .slice none 0 0, .slice none 0 0, .slice none 0 0, .int .i64 0, .int .i64 0, .int .i64 0, .int .i64 0] 28)).alloc (.cells #[.slice A n c, .int .i64 0, .int .i64 0] 105)).alloc (.cells #[.slice none 0 0, .slice none 0 0, .slice none 0 0, .slice none 0 0, .slice none 0 0, .int .i64 0, .int .i64 0, .int .i64 0, .int .i64 0] 28)) := by unfold Grew; go_grown

theorem li_res {n0 g D b5 e m n : Nat} {X : Value → Array Value} {Ws W : World} {xs : List Value} {v : Value} {s : Sc} (h : LI n0 g D b5 e m X Ws n xs v s W) {o : Obj} (hr : Ws.heap[n0]? = some o) : W.heap[n0]? = some o :=
  (h.kp.block n0 (by have := h.lt; have := h.hD; omega) (by have := h.hD; omega) (fun q => by have := h.hg; simp [ptr, blk] at q; omega)).trans hr
theorem li_from {n0 g D b5 e m n : Nat} {X : Value → Array Value} {Ws W w : World} {xs : List Value} {v : Value} {s : Sc} (h : LI n0 g D b5 e m X Ws n xs v s W) (hg : Grew w Ws) (hn : w.heap.size = n0) : Grew w W :=
  h.kp.grew hg (by have := h.lt; have := h.hD; omega) (by have := h.hD; omega) (fun k q => by have := h.hg; simp [ptr, blk] at q; omega)
theorem start_res (w : World) (A : Option Addr) (n c : Nat) : (((w.alloc (.cells #[.slice none 0 0, .slice none 0 0, .slice none 0 0, .slice none 0 0, .slice none 0 0, .int .i64 0, .int .i64 0, .int .i64 0, .int .i64 0] 28)).alloc (.cells #[.slice A n c, .int .i64 0, .int .i64 0] 105)).alloc (.cells #[.slice none 0 0, .slice none 0 0, .slice none 0 0, .slice none 0 0, .slice none 0 0, .int .i64 0, .int .i64 0, .int .i64 0, .int .i64 0] 28)).heap[w.heap.size]? = some (.cells #[.slice none 0 0, .slice none 0 0, .slice none 0 0, .slice none 0 0, .slice none 0 0, .int .i64 0, .int .i64 0, .int .i64 0, .int .i64 0] 28 (0, 0)) := by
  have g2 : Grew (w.alloc (.cells #[.slice none 0 0, .slice none 0 0, .slice none 0 0, .slice none 0 0, .slice none 0 0, .int .i64 0, .int .i64 0, .int .i64 0, .int .i64 0] 28)) (((w.alloc (.cells #[.slice none 0 0, .slice none 0 0, .slice none 0 0, .slice none 0 0, .slice none 0 0, .int .i64 0, .int .i64 0, .int .i64 0, .int .i64 0] 28)).alloc (.cells #[.slice A n c, .int .i64 0, .int .i64 0] 105)).alloc (.cells #[.slice none 0 0, .slice none 0 0, .slice none 0 0, .slice none 0 0, .slice none 0 0, .int .i64 0, .int .i64 0, .int .i64 0, .int .i64 0] 28)) := by unfold Grew; go_grown
  exact (g2.block _ (by simp)).trans (heap_alloc_new w _)
theorem goF_len {T : Type} (one : Sc → T × Sc) : ∀ (f : Nat) (acc : List T) (s : Sc), (goF one f acc s).1.length = acc.length + f
  | 0, acc, s => rfl
  | f + 1, acc, s => by unfold goF; rw [goF_len one f]; simp; omega
theorem parts_is {l : List UInt8} {s1 sc1 s2 sc2 s3 sc3 s4 sc4 sc5 sc6 sc7 sc8 sc9 : Sc} {k1 k2 k3 k4 f0 f1 f2 f3 : Nat} {LL : List La} {BB : List Int} {CC : List Ac} {GG : List Gu} {QQ : List Qu}
    (h1 : manyP ⟨l, 0⟩ = ((k1 : Int), s1)) (r1 : goF rL k1 [] s1 = (LL, sc1)) (h2 : manyP sc1 = ((k2 : Int), s2)) (r2 : goF takeP k2 [] s2 = (BB, sc2)) (h3 : manyP sc2 = ((k3 : Int), s3)) (r3 : goF oneA k3 [] s3 = (CC, sc3)) (h4 : manyP sc3 = ((k4 : Int), s4)) (r4 : goF oneG k4 [] s4 = (GG, sc4)) (r5 : goF oneQ LL.length [] sc4 = (QQ, sc5))
    (e0 : sc5.num (width 1) = (f0, sc6)) (e1 : sc6.num (width 1) = (f1, sc7)) (e2 : sc7.num (width 1) = (f2, sc8)) (e3 : sc8.num (width 1) = (f3, sc9)) : rpartsP l = (⟨LL, BB, CC, GG, QQ, (f0 : Int), (f1 : Int), (f2 : Int), (f3 : Int)⟩, sc9) := by
  have a1 : rallP rL ⟨l, 0⟩ = (LL, sc1) := by unfold rallP; rw [h1]; exact r1
  have a2 : rallP takeP sc1 = (BB, sc2) := by unfold rallP; rw [h2]; exact r2
  have a3 : rallP oneA sc2 = (CC, sc3) := by unfold rallP; rw [h3]; exact r3
  have a4 : rallP oneG sc3 = (GG, sc4) := by unfold rallP; rw [h4]; exact r4
  have t0 : takeP sc5 = ((f0 : Int), sc6) := by unfold takeP; rw [show sc5.num 1 = (f0, sc6) from e0]
  have t1 : takeP sc6 = ((f1 : Int), sc7) := by unfold takeP; rw [show sc6.num 1 = (f1, sc7) from e1]
  have t2 : takeP sc7 = ((f2 : Int), sc8) := by unfold takeP; rw [show sc7.num 1 = (f2, sc8) from e2]
  have t3 : takeP sc8 = ((f3 : Int), sc9) := by unfold takeP; rw [show sc8.num 1 = (f3, sc9) from e3]
  simp only [rpartsP, a1, a2, a3, a4, r5, t0, t1, t2, t3]
theorem wpl_id {P : Program} {ops : Array Oper} {l : List Oper} {a : Act} {w : World} {Q : Exit → Act → World → Prop} (h : wpList P ops Q l a w) : wpList P ops Q l a w := h
theorem one_store {ops : Array Oper} {o : Oper} {ac : Act} {w : World} {R : World → World → Prop} {J' : Value → World → Prop} {g : Value → World → Prop}
    (hgd : o.guard = none) (t : TypeId) (x y : Operand) (ho : o.op = .store t x y) (px vy : Value) (hx : ac.eval x = px) (hy : ac.eval y = vy) (w' : World) (hr : (Instr.storeAt t px vy).run Tryz.prog w = .ok () w')
    (h : R w w' ∧ J' undef w' ∧ g undef w') : Marks.one Tryz.prog ops o ac w R J' g := by
  unfold Marks.one
  rw [if_pos (by unfold Region.wanted; rw [hgd])]
  unfold execOp
  simp only [ho, hx, hy, Sem.run_bind, Sem.run_pure, Result.andThen_ok, hr]
  exact h
theorem goF_mem {T : Type} (one : Sc → T × Sc) (P : T → Prop) (n : Nat) (h1 : ∀ s, (one s).2.l.length ≤ s.l.length) (hP : ∀ s, s.l.length ≤ n → P (one s).1) :
    ∀ (f : Nat) (acc : List T) (s : Sc), (∀ x ∈ acc, P x) → s.l.length ≤ n → ∀ x ∈ (goF one f acc s).1, P x
  | 0, acc, s, ha, _ => ha
  | f + 1, acc, s, ha, hs => by
    unfold goF
    refine goF_mem one P n h1 hP f _ _ (fun x hx => ?_) (Nat.le_trans (h1 s) hs)
    rcases List.mem_append.1 hx with h | h
    · exact ha x h
    · simp only [List.mem_singleton] at h
      subst h
      exact hP s hs
theorem goF_le {T : Type} (one : Sc → T × Sc) (h1 : ∀ s, (one s).2.l.length ≤ s.l.length) : ∀ (f : Nat) (acc : List T) (s : Sc), (goF one f acc s).2.l.length ≤ s.l.length
  | 0, _acc, _s => Nat.le_refl _
  | f + 1, _acc, s => Nat.le_trans (goF_le one h1 f _ _) (h1 s)
theorem many_l (s : Sc) : (manyP s).2.l.length ≤ s.l.length := Nat.le_trans (rule_le _ _ _) (num_le _ _)
theorem rallP_le {T : Type} (one : Sc → T × Sc) (h1 : ∀ s, (one s).2.l.length ≤ s.l.length) (s : Sc) : (rallP one s).2.l.length ≤ s.l.length :=
  Nat.le_trans (goF_le one h1 _ _ _) (many_l s)
theorem rL_le (s : Sc) : (rL s).2.l.length ≤ s.l.length := Nat.le_trans (num_le _ _) (num_le _ _)
theorem rparts_sized (l : List UInt8) (hl : l.length ≤ 140737488355328) : Sized (rpartsP l).1 := by
  have hs : ∀ s : Sc, s.l.length ≤ 140737488355328 → (oneA s).1.name.size ≤ 9223372036854775807 ∧ (oneA s).1.secret.size ≤ 9223372036854775807 := by
    intro s hs
    have h1 := text_size s 12
    have h2 := text_size (s.text 12).2 12
    have h3 := text_le s 12
    have e1 : (oneA s).1.name.size = (s.text 12).1.length := by simp [oneA, ByteArray.size]
    have e2 : (oneA s).1.secret.size = ((s.text 12).2.text 12).1.length := by simp [oneA, ByteArray.size]
    omega
  have hb : (rallP takeP (rallP rL ⟨l, 0⟩).2).2.l.length ≤ 140737488355328 := Nat.le_trans (rallP_le takeP takeP_le _) (Nat.le_trans (rallP_le rL rL_le _) hl)
  exact goF_mem oneA _ 140737488355328 oneA_le hs _ [] _ (fun x hx => by cases hx) (Nat.le_trans (many_l _) hb)
set_option maxHeartbeats 16000000 in
theorem rread_any (S : Nat → Prop) (v : Value) (l : List UInt8) (w : World) (h : Rd S w v l) (hl : l.length ≤ 140737488355328) :
    Calls Tryz.prog 28 #[v] w fun e w' => ∃ v', e = .returned (.tuple #[v', .int .i64 (rreadP l).2]) ∧ ReIs w' v' (rreadP l).1 ∧ Grew w w' := by
  replace h := h.lt.mono (S' := fun b => b < w.heap.size) fun b hb => hb.2
  obtain ⟨A, c, rfl, _⟩ := id h
  have HS := Lib.hid (start w _ l h A c rfl)
  have HSG := Lib.hid (start_grew w A l.length c)
  have hres := start_res w A l.length c
  clear h
  obtain ⟨R, hR⟩ : ∃ R, rreadP l = R := ⟨_, rfl⟩
  rw [hR]
  have HRP := Lib.hid hR
  clear hR
  obtain ⟨W0, hW0⟩ : ∃ W0, ((w.alloc (.cells #[.slice none 0 0, .slice none 0 0, .slice none 0 0, .slice none 0 0, .slice none 0 0, .int .i64 0, .int .i64 0, .int .i64 0, .int .i64 0] 28)).alloc (.cells #[.slice A l.length c, .int .i64 0, .int .i64 0] 105)).alloc (.cells #[.slice none 0 0, .slice none 0 0, .slice none 0 0, .slice none 0 0, .slice none 0 0, .int .i64 0, .int .i64 0, .int .i64 0, .int .i64 0] 28) = W0 := ⟨_, rfl⟩
  obtain ⟨n0, hn0⟩ : ∃ n0, w.heap.size = n0 := ⟨_, rfl⟩
  obtain ⟨g, hg⟩ : ∃ g, n0 + 1 = g := ⟨_, rfl⟩
  obtain ⟨D, hD⟩ : ∃ D, n0 + 1 + 1 = D := ⟨_, rfl⟩
  obtain ⟨b0, hb0⟩ : ∃ b0, n0 + 3 = b0 := ⟨_, rfl⟩
  rw [hW0, hn0, hg, show n0 + 2 = D from hD, hb0] at HS
  rw [hW0] at HSG
  rw [hW0, hn0] at hres
  have HRES0 := Lib.hid hres
  have HN0 := Lib.hid hn0
  have EG := Lib.hid hg
  have ED := Lib.hid hD
  have EW := Lib.hid hW0
  clear hn0 hg hD hW0 hb0 hres
  obtain ⟨⟨k1', s1⟩, hm⟩ : ∃ q, manyP (⟨l, 0⟩ : Sc) = q := ⟨_, rfl⟩
  have hq := many_le (⟨l, 0⟩ : Sc)
  rw [hm] at hq
  obtain ⟨k1, hk⟩ := Int.eq_ofNat_of_zero_le (show 0 ≤ k1' from hq.1)
  subst hk
  have HK1 : Hid (k1 ≤ 8) := Lib.hid (by have := hq.2; simp only at this; omega)
  have HM1 := Lib.hid hm
  obtain ⟨⟨LL, sc1⟩, hr⟩ : ∃ q, goF rL k1 [] s1 = q := ⟨_, rfl⟩
  have HR0 := Lib.hid hr
  clear hm hq hr
  obtain ⟨⟨k2', s2⟩, hm⟩ : ∃ q, manyP sc1 = q := ⟨_, rfl⟩
  have hq := many_le sc1
  rw [hm] at hq
  obtain ⟨k2, hk⟩ := Int.eq_ofNat_of_zero_le (show 0 ≤ k2' from hq.1)
  subst hk
  have HK2 : Hid (k2 ≤ 8) := Lib.hid (by have := hq.2; simp only at this; omega)
  have HM2 := Lib.hid hm
  obtain ⟨⟨BB, sc2⟩, hr⟩ : ∃ q, goF takeP k2 [] s2 = q := ⟨_, rfl⟩
  have HR1 := Lib.hid hr
  clear hm hq hr
  obtain ⟨⟨k3', s3⟩, hm⟩ : ∃ q, manyP sc2 = q := ⟨_, rfl⟩
  have hq := many_le sc2
  rw [hm] at hq
  obtain ⟨k3, hk⟩ := Int.eq_ofNat_of_zero_le (show 0 ≤ k3' from hq.1)
  subst hk
  have HK3 : Hid (k3 ≤ 8) := Lib.hid (by have := hq.2; simp only at this; omega)
  have HM3 := Lib.hid hm
  obtain ⟨⟨CC, sc3⟩, hr⟩ : ∃ q, goF oneA k3 [] s3 = q := ⟨_, rfl⟩
  have HR2 := Lib.hid hr
  clear hm hq hr
  obtain ⟨⟨k4', s4⟩, hm⟩ : ∃ q, manyP sc3 = q := ⟨_, rfl⟩
  have hq := many_le sc3
  rw [hm] at hq
  obtain ⟨k4, hk⟩ := Int.eq_ofNat_of_zero_le (show 0 ≤ k4' from hq.1)
  subst hk
  have HK4 : Hid (k4 ≤ 8) := Lib.hid (by have := hq.2; simp only at this; omega)
  have HM4 := Lib.hid hm
  obtain ⟨⟨GG, sc4⟩, hr⟩ : ∃ q, goF oneG k4 [] s4 = q := ⟨_, rfl⟩
  have HR3 := Lib.hid hr
  clear hm hq hr
  have HAL0 : Hid (LL.length ≤ 8) := Lib.hid (by have := goF_len rL k1 [] s1; rw [HR0.out] at this; simp only [List.length_nil] at this; have := HK1.out; omega)
  obtain ⟨⟨QQ, sc5⟩, hr⟩ : ∃ q, goF oneQ LL.length [] sc4 = q := ⟨_, rfl⟩
  have HR4 := Lib.hid hr
  clear hr
  obtain ⟨⟨f0, sc6⟩, hr⟩ : ∃ q, Sc.num sc5 (width 1) = q := ⟨_, rfl⟩
  have hf0 : f0 < 256 := num_lt sc5 f0 sc6 hr
  have hwf0 : IntKind.i64.wrap (f0 : Int) = (f0 : Int) := IntWalk.i64_in _ (by omega)
  have HE0 := Lib.hid hr
  clear hr
  obtain ⟨⟨f1, sc7⟩, hr⟩ : ∃ q, Sc.num sc6 (width 1) = q := ⟨_, rfl⟩
  have hf1 : f1 < 256 := num_lt sc6 f1 sc7 hr
  have hwf1 : IntKind.i64.wrap (f1 : Int) = (f1 : Int) := IntWalk.i64_in _ (by omega)
  have HE1 := Lib.hid hr
  clear hr
  obtain ⟨⟨f2, sc8⟩, hr⟩ : ∃ q, Sc.num sc7 (width 1) = q := ⟨_, rfl⟩
  have hf2 : f2 < 256 := num_lt sc7 f2 sc8 hr
  have hwf2 : IntKind.i64.wrap (f2 : Int) = (f2 : Int) := IntWalk.i64_in _ (by omega)
  have HE2 := Lib.hid hr
  clear hr
  obtain ⟨⟨f3, sc9⟩, hr⟩ : ∃ q, Sc.num sc8 (width 1) = q := ⟨_, rfl⟩
  have hf3 : f3 < 256 := num_lt sc8 f3 sc9 hr
  have hwf3 : IntKind.i64.wrap (f3 : Int) = (f3 : Int) := IntWalk.i64_in _ (by omega)
  have HE3 := Lib.hid hr
  clear hr
  have HPA : Hid (rpartsP l = (⟨LL, BB, CC, GG, QQ, (f0 : Int), (f1 : Int), (f2 : Int), (f3 : Int)⟩, sc9)) := Lib.hid (parts_is HM1.out HR0.out HM2.out HR1.out HM3.out HR2.out HM4.out HR3.out HR4.out HE0.out HE1.out HE2.out HE3.out)
  have HSZ : Hid (Sized (rpartsP l).1) := Lib.hid (rparts_sized l hl)
  rw [HPA.out] at HSZ
  simp only at HSZ
  clear hl
  go_enter Tryz.func28, Tryz.ntmps28
  go_wp2_with fail
  rw [EW.out, HN0.out, ED.out, EG.out]
  refine (rmany_any _ W0 g ⟨l, 0⟩ HS.out.scan).mono ?_
  rintro e9 X1 ⟨rfl, hr, hc⟩
  rw [HM1.out] at hr ⊢
  simp only at hr ⊢
  have HL := Lib.hid (HS.out.chg hc hr)
  clear hr hc
  go_wp2
  go_loopg [7] k1 (fun q sk wx => ∃ (i : Nat) (acc : List La) (v : Value) (s : Sc), i + q = k1 ∧ sk = .int .i64 (i : Int) ∧ Hid (LI n0 g D b0 31 2 (fun u => #[u, .slice none 0 0, .slice none 0 0, .slice none 0 0, .slice none 0 0, .int .i64 0, .int .i64 0, .int .i64 0, .int .i64 0]) W0 acc.length (acc.flatMap lcs) v s wx) ∧ Hid (goF rL q acc s = (LL, sc1)) ∧ Hid (acc.length = i))
  case atStart => exact ⟨0, [], _, s1, by omega, rfl, HL, HR0, Lib.hid rfl⟩
  case round =>
    obtain ⟨i, acc, v, s, hiq, rfl, H, HF, HAL⟩ := hrel
    cases gk with
    | succ q =>
      have hlt : (i : Int) < (k1 : Int) := by omega
      have hi8 : i ≤ 8 := by have := HK1.out; omega
      obtain ⟨A, cp, rfl⟩ := H.out.slice
      go_wp2_with fail
      refine (rnum_any _ wr g s 1 H.out.scan).mono ?_
      rintro e9 W1 ⟨rfl, hr, hc⟩
      have H1 := Lib.hid (H.out.chg hc hr)
      obtain ⟨⟨n0, sx0⟩, hn⟩ : ∃ q, s.num (width 1) = q := ⟨_, rfl⟩
      have hn256_0 : n0 < 256 := num_lt s n0 sx0 hn
      have hwn0 : IntKind.i64.wrap (n0 : Int) = (n0 : Int) := IntWalk.i64_in _ (by omega)
      rw [hn] at H1 ⊢
      simp only at H1 ⊢
      have EN0 : Hid (s.num 1 = (n0, sx0)) := Lib.hid hn
      clear hr hc hn
      go_wp2_with fail
      obtain ⟨W2, hW2⟩ : ∃ W2, W1.alloc (.cells #[.int .i64 (n0 : Int), .int .u64 0] 31) = W2 := ⟨_, rfl⟩
      rw [hW2]
      obtain ⟨B, hB⟩ : ∃ B, W1.heap.size = B := ⟨_, rfl⟩
      have HB2 : W2.heap[B]? = some (.cells #[.int .i64 (n0 : Int), .int .u64 0] 31 (0, 0)) := by rw [← hW2, ← hB]; exact heap_alloc_new W1 _
      have hap := H1.out.apart
      have hBb := H1.out.le
      have hBg := H1.out.ltD
      have hgg := H1.out.hg
      have hDD := H1.out.hD
      rw [hB] at hap hBb hBg ⊢
      have H2 := Lib.hid (H1.out.grew (W' := W2) (by rw [← hW2]; exact (Below.refl _ _).alloc (Nat.le_refl _) _))
      have HAP := Lib.hid hap
      have HBB := Lib.hid hBb
      have HGB : Hid (B ≠ g ∧ B ≠ D ∧ g ≠ D) := Lib.hid (by omega)
      clear hW2 hB hap hBb hBg hgg hDD H1
      refine (rnum_any _ W2 g sx0 8 H2.out.scan).mono ?_
      rintro e9 W3a ⟨rfl, hr, hc⟩
      have HB3a := keepK HB2 hc HGB.out.1
      have H3a := Lib.hid (H2.out.chg hc hr)
      obtain ⟨⟨n1, sx1⟩, hn⟩ : ∃ q, sx0.num (width 8) = q := ⟨_, rfl⟩
      rw [hn] at H3a ⊢
      simp only at H3a ⊢
      have EN1 : Hid (sx0.num 8 = (n1, sx1)) := Lib.hid hn
      clear hr hc hn
      clear HB2
      obtain ⟨W3s, hW3s⟩ : ∃ W3s, W3a.setCell ⟨B, 1, none⟩ (.int .u64 (n1 : Int)) = W3s := ⟨_, rfl⟩
      have HST1 : Hid ((Instr.storeAt 29 (.pointer (some ⟨B, 1, none⟩)) (.int .u64 (n1 : Int))).run Tryz.prog W3a = .ok () W3s) := Lib.hid (by rw [← hW3s]; exact st_int HB3a (by simp) sz29)
      have H3s := Lib.hid (H3a.out.setB B 1 (.int .u64 (n1 : Int)) HBB.out HAP.out)
      have HB3s : (W3a.setCell ⟨B, 1, none⟩ (.int .u64 (n1 : Int))).heap[B]? = some (.cells #[.int .i64 (n0 : Int), .int .u64 (n1 : Int)] 31 (0, 0)) := by rw [heap_setCell_same _ _ _ _ _ _ HB3a]; rfl
      rw [hW3s] at H3s HB3s
      clear hW3s HB3a H3a H2
      obtain ⟨x, hxx⟩ : ∃ x : La, x = ⟨(n0 : Int), BitVec.ofNat 64 n1⟩ := ⟨_, rfl⟩
      have hx : (rL s) = (x, sx1) := by
        rw [hxx]
        simp only [rL, EN0.out, EN1.out]
      obtain ⟨v5, W5, hr5, ho5, hb5⟩ := appL W3s b0 _ acc x H3s.out.own (by have := HAL.out; omega) H3s.out.le
      have hmx : n1 < 2 ^ 64 := by have := num8_lt sx0; rw [EN1.out] at this; exact this
      have hmm : ((BitVec.ofNat 64 n1).toNat : Int) = (n1 : Int) := by rw [BitVec.toNat_ofNat, Nat.mod_eq_of_lt hmx]
      rw [hxx] at hr5
      simp only [hmm] at hr5
      clear hmx hmm
      have hbox := (hb5.block D H3s.out.lt).trans H3s.out.box
      have h5 := H3s.out.push hb5 ho5 0 rfl
      obtain ⟨A5, c5, rfl⟩ := own_sl ho5
      obtain ⟨W6, hW6⟩ : ∃ W6, W5.setCell ⟨D, 0, none⟩ (.slice A5 (acc ++ [x]).length c5) = W6 := ⟨_, rfl⟩
      have HST9 : Hid ((Instr.storeAt 22 (.pointer (some ⟨D, 0, none⟩)) (.slice A5 (acc ++ [x]).length c5)).run Tryz.prog W5 = .ok () W6) := Lib.hid (by rw [← hW6]; exact st_slice hbox (by simp) sz22)
      rw [hW6] at h5
      have H6 := Lib.hid h5
      have HR5 := Lib.hid hr5
      have HF2 : Hid (goF rL q (acc ++ [x]) sx1 = (LL, sc1)) := Lib.hid (by have := HF.out; unfold goF at this; rw [hx] at this; exact this)
      have HAL2 : Hid ((acc ++ [x]).length = i + 1) := Lib.hid (by have := HAL.out; simp; omega)
      have dR : W3s.cell? ⟨D, 0, none⟩ = some (.slice A acc.length cp) := by rw [cell_of_row _ _ _ _ _ _ H3s.out.box]; rfl
      have b0 : W3s.cell? ⟨B, 0, none⟩ = some (.int .i64 (n0 : Int)) := by rw [cell_of_row _ _ _ _ _ _ HB3s]; rfl
      have b1 : W3s.cell? ⟨B, 1, none⟩ = some (.int .u64 (n1 : Int)) := by rw [cell_of_row _ _ _ _ _ _ HB3s]; rfl
      obtain ⟨acc2, hacc2⟩ : ∃ acc2, acc ++ [x] = acc2 := ⟨_, rfl⟩
      rw [hacc2] at HST9 H6 HR5 HF2 HAL2
      clear hr5 ho5 hb5 hx hxx hW6 hbox h5 hacc2 H3s HB3s 
      go_wp2_with (first | (refine wpList_store (by rfl) 29 (.tmp 34) (.tmp 33) (by with_reducible rfl) _ _ (by rfl) (by rfl) _ HST1.out ?_) | (refine wpList_store (by rfl) 22 (.tmp 40) (.tmp 39) (by with_reducible rfl) _ _ (by rfl) (by rfl) _ HST9.out ?_) | (at_builtin; refine wpList_app' rfl (.tmp 36) (.tmp 38) 22 22 rfl _ _ rfl rfl _ W5 (by exact HR5.out) ?_))
      go_roundg q
      case measure => omega
      case rel => exact ⟨i + 1, acc2, _, sx1, by omega, by first | rfl | (simp; done) | (simp; omega), H6, HF2, HAL2⟩
    | zero =>
      have hlt : ¬ (i : Int) < (k1 : Int) := by omega
      obtain ⟨q1, q2⟩ : LL = acc ∧ sc1 = s := by have := HF.out; unfold goF at this; injection this with q1 q2; exact ⟨q1.symm, q2.symm⟩
      subst q1 q2
      obtain ⟨A0, c0, rfl⟩ := H.out.slice
      go_wp2_with fail
      refine (rmany_any _ wr g sc1 H.out.scan).mono ?_
      rintro e9 Y1 ⟨rfl, hr, hc⟩
      rw [HM2.out] at hr ⊢
      simp only at hr ⊢
      have Hm := H.out.chg hc hr
      have Hn := Hm.next 3 1 (fun u => #[(.slice A0 LL.length c0), u, .slice none 0 0, .slice none 0 0, .slice none 0 0, .int .i64 0, .int .i64 0, .int .i64 0, .int .i64 0]) rfl
      have OR0y := Hm.own
      have HBOR0 : Hid (D < b0) := Lib.hid Hm.lt
      have HRESy := li_res Hm HRES0.out
      have HGy := li_from Hm HSG.out HN0.out
      obtain ⟨b1, hb1⟩ : ∃ b, Y1.heap.size = b := ⟨_, rfl⟩
      have HBW1 : Hid (Y1.heap.size ≤ b1) := Lib.hid (Nat.le_of_eq hb1)
      rw [hb1] at Hn
      clear hb1
      have OR0 := Lib.hid OR0y
      have HRES1 := Lib.hid HRESy
      have HGW1 := Lib.hid HGy
      have HL := Lib.hid Hn
      clear Hm Hn HRESy HGy H OR0y
      clear hr hc hlt
      clear hiq HF HAL
      go_wp2
      go_loopg [9] k2 (fun q sk wx => ∃ (i : Nat) (acc : List Int) (v : Value) (s : Sc), i + q = k2 ∧ sk = .int .i64 (i : Int) ∧ Hid (LI n0 g D b1 3 1 (fun u => #[(.slice A0 LL.length c0), u, .slice none 0 0, .slice none 0 0, .slice none 0 0, .int .i64 0, .int .i64 0, .int .i64 0, .int .i64 0]) Y1 acc.length (iv acc) v s wx) ∧ Hid (goF takeP q acc s = (BB, sc2)) ∧ Hid (acc.length = i))
      case atStart => exact ⟨0, [], _, s2, by omega, rfl, HL, HR1, Lib.hid rfl⟩
      case round =>
        obtain ⟨i, acc, v, s, hiq, rfl, H, HF, HAL⟩ := hrel
        cases gk with
        | succ q =>
          have hlt : (i : Int) < (k2 : Int) := by omega
          have hi8 : i ≤ 8 := by have := HK2.out; omega
          obtain ⟨A, cp, rfl⟩ := H.out.slice
          obtain ⟨⟨n, sx⟩, hn⟩ : ∃ q, s.num (width 1) = q := ⟨_, rfl⟩
          have hn256 : n < 256 := num_lt s n sx hn
          have hwn : IntKind.i64.wrap (n : Int) = (n : Int) := IntWalk.i64_in _ (by omega)
          have HN := Lib.hid hn
          have hx : takeP s = ((n : Int), sx) := by unfold takeP; rw [show s.num 1 = (n, sx) from hn]
          have HF2 : Hid (goF takeP q (acc ++ [(n : Int)]) sx = (BB, sc2)) := Lib.hid (by have := HF.out; unfold goF at this; rw [hx] at this; exact this)
          have HAL2 : Hid ((acc ++ [(n : Int)]).length = i + 1) := Lib.hid (by have := HAL.out; simp; omega)
          have HGD : Hid (g ≠ D ∧ D < b1) := Lib.hid ⟨by have := H.out.hg; have := H.out.hD; omega, H.out.lt⟩
          clear hn hx
          go_wp2
          obtain ⟨P0, i0⟩ : ∃ P : World → Prop, ∀ W, P W ↔ LI n0 g D b1 3 1 (fun u => #[(.slice A0 LL.length c0), u, .slice none 0 0, .slice none 0 0, .slice none 0 0, .int .i64 0, .int .i64 0, .int .i64 0, .int .i64 0]) Y1 acc.length (iv acc) (.slice A acc.length cp) s W := ⟨_, fun _ => Iff.rfl⟩
          obtain ⟨P1, i1⟩ : ∃ P : World → Prop, ∀ W, P W ↔ LI n0 g D b1 3 1 (fun u => #[(.slice A0 LL.length c0), u, .slice none 0 0, .slice none 0 0, .slice none 0 0, .int .i64 0, .int .i64 0, .int .i64 0, .int .i64 0]) Y1 acc.length (iv acc) (.slice A acc.length cp) sx W := ⟨_, fun _ => Iff.rfl⟩
          obtain ⟨P2, i2⟩ : ∃ P : World → Value → Prop, ∀ W v', P W v' ↔ ∃ W1, LI n0 g D b1 3 1 (fun u => #[(.slice A0 LL.length c0), u, .slice none 0 0, .slice none 0 0, .slice none 0 0, .int .i64 0, .int .i64 0, .int .i64 0, .int .i64 0]) Y1 acc.length (iv acc) (.slice A acc.length cp) sx W1 ∧ Below b1 W1 W ∧ OwnI W b1 v' (acc ++ [(n : Int)]) := ⟨_, fun _ _ => Iff.rfl⟩
          obtain ⟨P3, i3⟩ : ∃ P : World → Prop, ∀ W, P W ↔ ∃ v', LI n0 g D b1 3 1 (fun u => #[(.slice A0 LL.length c0), u, .slice none 0 0, .slice none 0 0, .slice none 0 0, .int .i64 0, .int .i64 0, .int .i64 0, .int .i64 0]) Y1 (acc ++ [(n : Int)]).length (iv (acc ++ [(n : Int)])) v' sx W := ⟨_, fun _ => Iff.rfl⟩
          have J0 := Lib.hid i0
          have J1 := Lib.hid i1
          have J2 := Lib.hid i2
          have J3 := Lib.hid i3
          clear i0 i1 i2 i3
          refine Marks.wp_region_text (JN P0 P1 #[.int .i64 (n : Int)] P2 P3) (fun _ _ => True) (by kernel_rfl) (by kernel_rfl) (JN.start ((J0.out _).2 (H.out.grew (Grew.refl _).drew))) ?_
          apply Marks.Lex.exact [] (.pointer (some ⟨D, 1, none⟩)) (by kernel_rfl)
          · intro m u W hm hcl hJ _
            unfold Marks.one
            go_simp
            exact ⟨trivial, hJ.keep (k := 0) (by decide) _, rfl⟩
          simp only [Act.put, List.setIfInBounds_toArray, List.set_cons_zero, List.set_cons_succ, Nat.zero_add]
          apply Marks.Lex.exact [] (.slice A acc.length cp) (by kernel_rfl)
          · intro m u W hm hcl hJ _
            have hrow := hJ.row hm (fun W => W.cell? ⟨D, 1, none⟩ = some (.slice A acc.length cp)) (fun _ h => by rw [cell_of_row _ _ _ _ _ _ ((J0.out _).1 h).box]; rfl) (fun _ h => by rw [cell_of_row _ _ _ _ _ _ ((J1.out _).1 h).box]; rfl) (fun W1 h => by rw [cell_of_row _ _ _ _ _ _ ((((J1.out _).1 h).grew (W' := W1.alloc (.cells #[.int .i64 (n : Int)] 3)) ((Below.refl _ _).alloc (Nat.le_refl _) _)).box)]; rfl) (fun _ _ h => by obtain ⟨W1, q1, q2, _⟩ := (J2.out _ _).1 h; rw [cell_of_row _ _ _ _ _ _ ((q2.block D HGD.out.2).trans q1.box)]; rfl)
            unfold Marks.one
            go_simp
            exact ⟨trivial, hJ.keep (k := 1) (by decide) _, rfl⟩
          simp only [Act.put, List.setIfInBounds_toArray, List.set_cons_zero, List.set_cons_succ, Nat.reduceAdd]
          apply Marks.Lex.exact [] (ptr g) (by kernel_rfl)
          · intro m u W hm hcl hJ _
            unfold ptr
            unfold Marks.one
            go_simp
            exact ⟨trivial, hJ.keep (k := 2) (by decide) _, rfl⟩
          simp only [Act.put, List.setIfInBounds_toArray, List.set_cons_zero, List.set_cons_succ, Nat.reduceAdd]
          apply Marks.Lex.exact [] (.int .u64 (n : Int)) (by kernel_rfl)
          · intro m u W hm hcl hJ _
            have hA := (J0.out _).1 (hJ.at3 hm).1
            have HH := Lib.hid (rnum_any _ W g s 1 hA.scan)
            rw [HN.out] at HH
            have HAA := Lib.hid hA
            clear hA
            unfold Marks.one
            go_simp
            refine HH.out.mono ?_
            rintro e w' ⟨rfl, hr, hc⟩
            exact ⟨_, rfl, trivial, hJ.put3 hm _ ((J1.out _).2 (HAA.out.chg hc hr)), rfl⟩
          simp only [Act.put, List.setIfInBounds_toArray, List.set_cons_zero, List.set_cons_succ, Nat.reduceAdd]
          apply Marks.Lex.exact [] (.int .i64 (n : Int)) (by kernel_rfl)
          · intro m u W hm hcl hJ _
            unfold Marks.one
            go_simp
            exact ⟨trivial, hJ.keep (k := 4) (by decide) _, rfl⟩
          simp only [Act.put, List.setIfInBounds_toArray, List.set_cons_zero, List.set_cons_succ, Nat.reduceAdd]
          refine Marks.Lex.know [] (fun _ _ => True) (by kernel_rfl) (fun _ _ _ _ _ => trivial) ?_ ?_
          · intro m u W hm hcl hJ _
            have h3 : m 3 = true := hcl 3 (by decide)
            unfold Marks.one
            go_simp
            exact ⟨trivial, hJ.put4 h3 hm, trivial⟩
          simp only [Act.put, List.setIfInBounds_toArray, List.set_cons_zero, List.set_cons_succ, Nat.reduceAdd]
          refine Marks.Lex.know [] (fun _ _ => True) (by kernel_rfl) (fun _ _ _ _ _ => trivial) ?_ ?_
          · intro m u W hm hcl hJ _
            have h4 : m 5 = true := hcl 5 (by decide)
            obtain ⟨_, _, W1, hA, rfl, hu4⟩ := hJ.at5 h4 hm
            replace hA := (J1.out _).1 hA
            obtain ⟨v', w', hr, hown, hbel⟩ := appI W1 b1 _ acc (n : Int) hA.own (by have := HAL.out; omega) hA.le
            refine one_app rfl (.tmp 49) (.tmp 53) 23 rfl (.slice A acc.length cp) (.slice (some ⟨W1.heap.size, 0, none⟩) 1 1) (by rfl) (by exact hu4) v' w' hr ?_
            exact ⟨trivial, hJ.put5 h4 hm v' ((J2.out _ _).2 ⟨W1, hA, hbel, hown⟩), trivial⟩
          simp only [Act.put, List.setIfInBounds_toArray, List.set_cons_zero, List.set_cons_succ, Nat.reduceAdd]
          apply Marks.Lex.exact [] (.pointer (some ⟨D, 1, none⟩)) (by kernel_rfl)
          · intro m u W hm hcl hJ _
            unfold Marks.one
            go_simp
            exact ⟨trivial, hJ.keep (k := 7) (by decide) _, rfl⟩
          simp only [Act.put, List.setIfInBounds_toArray, List.set_cons_zero, List.set_cons_succ, Nat.reduceAdd]
          apply Marks.Lex.exact [] undef (by kernel_rfl)
          · intro m u W hm hcl hJ _
            have h5 : m 6 = true := hcl 6 (by decide)
            have h1 : m 1 = true := hcl 1 (by decide)
            obtain ⟨_, _, hB⟩ := hJ.at7 h5 hm
            obtain ⟨W1, q1, q2, q3⟩ := (J2.out _ _).1 hB
            obtain ⟨A4, cp4, e4⟩ := own_sl q3
            have hrow := (q2.block D HGD.out.2).trans q1.box
            rw [e4] at q3
            have hst := st_slice (ty := 23) (A := A4) (n := (acc ++ [(n : Int)]).length) (c := cp4) (i := 1) hrow (by simp) sz23
            have HL2 := Lib.hid (q1.push q2 q3 1 rfl)
            exact one_store rfl 23 (.tmp 55) (.tmp 54) rfl _ _ rfl (by exact e4) _ hst ⟨trivial, hJ.put7 h5 hm h1 _ ((J3.out _).2 ⟨_, HL2.out⟩), rfl⟩
          simp only [Act.put, Nat.reduceAdd]
          refine Marks.Lex.done fun m u W3 hm hJ _ => ?_
          obtain ⟨v', hl'⟩ := (J3.out _).1 (hJ.fin (hm 8 (by omega)))
          have H6 := Lib.hid hl'
          clear hl' hJ hm
          obtain ⟨acc2, hacc2⟩ : ∃ acc2, acc ++ [(n : Int)] = acc2 := ⟨_, rfl⟩
          rw [hacc2] at H6 HF2 HAL2
          clear hacc2
          generalize u 5 = z5 at *
          generalize u 6 = z6 at *
          go_wp2
          go_roundg q
          case measure => omega
          case rel => exact ⟨i + 1, acc2, _, sx, by omega, by first | rfl | (simp; done) | (simp; omega), H6, HF2, HAL2⟩
        | zero =>
          have hlt : ¬ (i : Int) < (k2 : Int) := by omega
          obtain ⟨q1, q2⟩ : BB = acc ∧ sc2 = s := by have := HF.out; unfold goF at this; injection this with q1 q2; exact ⟨q1.symm, q2.symm⟩
          subst q1 q2
          obtain ⟨A1, c1, rfl⟩ := H.out.slice
          go_wp2_with fail
          refine (rmany_any _ wr g sc2 H.out.scan).mono ?_
          rintro e9 Y2 ⟨rfl, hr, hc⟩
          rw [HM3.out] at hr ⊢
          simp only at hr ⊢
          have Hm := H.out.chg hc hr
          have Hn := Hm.next 88 4 (fun u => #[(.slice A0 LL.length c0), (.slice A1 BB.length c1), u, .slice none 0 0, .slice none 0 0, .int .i64 0, .int .i64 0, .int .i64 0, .int .i64 0]) rfl
          have OR0y := Hm.row OR0.out HBW1.out HBOR0.out
          have OR1y := Hm.own
          have HBOR1 : Hid (D < b1) := Lib.hid Hm.lt
          have HRESy := li_res Hm HRES1.out
          have HGy := li_from Hm HGW1.out HN0.out
          obtain ⟨b2, hb2⟩ : ∃ b, Y2.heap.size = b := ⟨_, rfl⟩
          have HBW2 : Hid (Y2.heap.size ≤ b2) := Lib.hid (Nat.le_of_eq hb2)
          rw [hb2] at Hn
          clear hb2
          have OR0 := Lib.hid OR0y
          have OR1 := Lib.hid OR1y
          have HRES2 := Lib.hid HRESy
          have HGW2 := Lib.hid HGy
          have HL := Lib.hid Hn
          clear Hm Hn HRESy HGy H OR0y OR1y
          clear hr hc hlt
          clear hiq HF HAL
          go_wp2
          go_loopg [10] k3 (fun q sk wx => ∃ (i : Nat) (acc : List Ac) (v : Value) (s : Sc), i + q = k3 ∧ sk = .int .i64 (i : Int) ∧ Hid (LI n0 g D b2 88 4 (fun u => #[(.slice A0 LL.length c0), (.slice A1 BB.length c1), u, .slice none 0 0, .slice none 0 0, .int .i64 0, .int .i64 0, .int .i64 0, .int .i64 0]) Y2 acc.length (acc.flatMap acs) v s wx) ∧ Hid (goF oneA q acc s = (CC, sc3)) ∧ Hid (acc.length = i))
          case atStart => exact ⟨0, [], _, s3, by omega, rfl, HL, HR2, Lib.hid rfl⟩
          case round =>
            obtain ⟨i, acc, v, s, hiq, rfl, H, HF, HAL⟩ := hrel
            cases gk with
            | succ q =>
              have hlt : (i : Int) < (k3 : Int) := by omega
              have hi8 : i ≤ 8 := by have := HK3.out; omega
              obtain ⟨A, cp, rfl⟩ := H.out.slice
              go_wp2_with fail
              refine (rtext_any _ wr g s 12 H.out.scan).mono ?_
              rintro e9 W1 ⟨rfl, hr, hc⟩
              have H1 := Lib.hid (H.out.chg hc hr)
              obtain ⟨⟨n0, sx0⟩, hn⟩ : ∃ q, s.text 12 = q := ⟨_, rfl⟩
              rw [hn] at H1 ⊢
              simp only at H1 ⊢
              have EN0 : Hid (s.text 12 = (n0, sx0)) := Lib.hid hn
              clear hr hc hn
              go_wp2_with fail
              obtain ⟨W2, hW2⟩ : ∃ W2, W1.alloc (.cells #[.string ⟨n0.toArray⟩, .string ⟨#[]⟩, .int .i64 0, .bool false] 88) = W2 := ⟨_, rfl⟩
              rw [hW2]
              obtain ⟨B, hB⟩ : ∃ B, W1.heap.size = B := ⟨_, rfl⟩
              have HB2 : W2.heap[B]? = some (.cells #[.string ⟨n0.toArray⟩, .string ⟨#[]⟩, .int .i64 0, .bool false] 88 (0, 0)) := by rw [← hW2, ← hB]; exact heap_alloc_new W1 _
              have hap := H1.out.apart
              have hBb := H1.out.le
              have hBg := H1.out.ltD
              have hgg := H1.out.hg
              have hDD := H1.out.hD
              rw [hB] at hap hBb hBg ⊢
              have H2 := Lib.hid (H1.out.grew (W' := W2) (by rw [← hW2]; exact (Below.refl _ _).alloc (Nat.le_refl _) _))
              have HAP := Lib.hid hap
              have HBB := Lib.hid hBb
              have HGB : Hid (B ≠ g ∧ B ≠ D ∧ g ≠ D) := Lib.hid (by omega)
              clear hW2 hB hap hBb hBg hgg hDD H1
              refine (rtext_any _ W2 g sx0 12 H2.out.scan).mono ?_
              rintro e9 W3a ⟨rfl, hr, hc⟩
              have HB3a := keepK HB2 hc HGB.out.1
              have H3a := Lib.hid (H2.out.chg hc hr)
              obtain ⟨⟨n1, sx1⟩, hn⟩ : ∃ q, sx0.text 12 = q := ⟨_, rfl⟩
              rw [hn] at H3a ⊢
              simp only at H3a ⊢
              have EN1 : Hid (sx0.text 12 = (n1, sx1)) := Lib.hid hn
              clear hr hc hn
              clear HB2
              obtain ⟨W3s, hW3s⟩ : ∃ W3s, W3a.setCell ⟨B, 1, none⟩ (.string ⟨n1.toArray⟩) = W3s := ⟨_, rfl⟩
              have HST1 : Hid ((Instr.storeAt 9 (.pointer (some ⟨B, 1, none⟩)) (.string ⟨n1.toArray⟩)).run Tryz.prog W3a = .ok () W3s) := Lib.hid (by rw [← hW3s]; exact st_string HB3a (by simp) sz9)
              have H3s := Lib.hid (H3a.out.setB B 1 (.string ⟨n1.toArray⟩) HBB.out HAP.out)
              have HB3s : (W3a.setCell ⟨B, 1, none⟩ (.string ⟨n1.toArray⟩)).heap[B]? = some (.cells #[.string ⟨n0.toArray⟩, .string ⟨n1.toArray⟩, .int .i64 0, .bool false] 88 (0, 0)) := by rw [heap_setCell_same _ _ _ _ _ _ HB3a]; rfl
              rw [hW3s] at H3s HB3s
              clear hW3s HB3a H3a H2
              go_wp2_with (refine wpList_store (by rfl) 9 (.tmp 68) (.tmp 67) (by with_reducible rfl) _ _ (by rfl) (by rfl) _ HST1.out ?_)
              refine (rnum_any _ W3s g sx1 1 H3s.out.scan).mono ?_
              rintro e9 W4a ⟨rfl, hr, hc⟩
              have HB4a := keepK HB3s hc HGB.out.1
              have H4a := Lib.hid (H3s.out.chg hc hr)
              obtain ⟨⟨n2, sx2⟩, hn⟩ : ∃ q, sx1.num (width 1) = q := ⟨_, rfl⟩
              have hn256_2 : n2 < 256 := num_lt sx1 n2 sx2 hn
              have hwn2 : IntKind.i64.wrap (n2 : Int) = (n2 : Int) := IntWalk.i64_in _ (by omega)
              rw [hn] at H4a ⊢
              simp only at H4a ⊢
              have EN2 : Hid (sx1.num 1 = (n2, sx2)) := Lib.hid hn
              clear hr hc hn
              clear HB3s
              obtain ⟨W4s, hW4s⟩ : ∃ W4s, W4a.setCell ⟨B, 2, none⟩ (.int .i64 (n2 : Int)) = W4s := ⟨_, rfl⟩
              have HST2 : Hid ((Instr.storeAt 3 (.pointer (some ⟨B, 2, none⟩)) (.int .i64 (n2 : Int))).run Tryz.prog W4a = .ok () W4s) := Lib.hid (by rw [← hW4s]; exact st_int HB4a (by simp) sz3)
              have H4s := Lib.hid (H4a.out.setB B 2 (.int .i64 (n2 : Int)) HBB.out HAP.out)
              have HB4s : (W4a.setCell ⟨B, 2, none⟩ (.int .i64 (n2 : Int))).heap[B]? = some (.cells #[.string ⟨n0.toArray⟩, .string ⟨n1.toArray⟩, .int .i64 (n2 : Int), .bool false] 88 (0, 0)) := by rw [heap_setCell_same _ _ _ _ _ _ HB4a]; rfl
              rw [hW4s] at H4s HB4s
              clear hW4s HB4a H4a H3s
              go_wp2_with (refine wpList_store (by rfl) 3 (.tmp 72) (.tmp 71) (by with_reducible rfl) _ _ (by rfl) (by rfl) _ HST2.out ?_)
              refine (rnum_any _ W4s g sx2 1 H4s.out.scan).mono ?_
              rintro e9 W5a ⟨rfl, hr, hc⟩
              have HB5a := keepK HB4s hc HGB.out.1
              have H5a := Lib.hid (H4s.out.chg hc hr)
              obtain ⟨⟨n3, sx3⟩, hn⟩ : ∃ q, sx2.num (width 1) = q := ⟨_, rfl⟩
              have hn256_3 : n3 < 256 := num_lt sx2 n3 sx3 hn
              have hwn3 : IntKind.i64.wrap (n3 : Int) = (n3 : Int) := IntWalk.i64_in _ (by omega)
              rw [hn] at H5a ⊢
              simp only at H5a ⊢
              have EN3 : Hid (sx2.num 1 = (n3, sx3)) := Lib.hid hn
              clear hr hc hn
              clear HB4s
              go_wp2_with fail
              refine (rrule_any _ W5a g sx3 _ 2 H5a.out.scan).mono ?_
              rintro e9 W5ab ⟨rfl, hr, hc⟩
              have HB5ab := keepK HB5a hc HGB.out.1
              have H5ab := Lib.hid (H5a.out.chg hc hr)
              clear hr hc HB5a
              obtain ⟨W5s, hW5s⟩ : ∃ W5s, W5ab.setCell ⟨B, 3, none⟩ (.bool (decide ((n3 : Int) = 1))) = W5s := ⟨_, rfl⟩
              have HST3 : Hid ((Instr.storeAt 4 (.pointer (some ⟨B, 3, none⟩)) (.bool (decide ((n3 : Int) = 1)))).run Tryz.prog W5ab = .ok () W5s) := Lib.hid (by rw [← hW5s]; exact st_bool HB5ab (by simp) sz4)
              have H5s := Lib.hid (H5ab.out.setB B 3 (.bool (decide ((n3 : Int) = 1))) HBB.out HAP.out)
              have HB5s : (W5ab.setCell ⟨B, 3, none⟩ (.bool (decide ((n3 : Int) = 1)))).heap[B]? = some (.cells #[.string ⟨n0.toArray⟩, .string ⟨n1.toArray⟩, .int .i64 (n2 : Int), .bool (decide ((n3 : Int) = 1))] 88 (0, 0)) := by rw [heap_setCell_same _ _ _ _ _ _ HB5ab]; rfl
              rw [hW5s] at H5s HB5s
              clear hW5s HB5ab H5ab H4s
              obtain ⟨x, hxx⟩ : ∃ x : Ac, x = ⟨⟨n0.toArray⟩, ⟨n1.toArray⟩, (n2 : Int), decide ((n3 : Int) = 1)⟩ := ⟨_, rfl⟩
              have hx : (oneA s) = (x, (sx3.rule (decide ((n3 : Int) < 2)) 2)) := by
                rw [hxx]
                simp only [oneA, takeP, EN0.out, EN1.out, EN2.out, EN3.out]
                rw [show decide ((n3 : Int) ≤ 1) = decide ((n3 : Int) < 2) from decide_eq_decide.2 (by omega)]
              obtain ⟨v5, W5, hr5, ho5, hb5⟩ := appA W5s b2 _ acc x H5s.out.own (by have := HAL.out; omega) H5s.out.le
              rw [hxx] at hr5
              have hbox := (hb5.block D H5s.out.lt).trans H5s.out.box
              have h5 := H5s.out.push hb5 ho5 2 rfl
              obtain ⟨A5, c5, rfl⟩ := own_sl ho5
              obtain ⟨W6, hW6⟩ : ∃ W6, W5.setCell ⟨D, 2, none⟩ (.slice A5 (acc ++ [x]).length c5) = W6 := ⟨_, rfl⟩
              have HST9 : Hid ((Instr.storeAt 24 (.pointer (some ⟨D, 2, none⟩)) (.slice A5 (acc ++ [x]).length c5)).run Tryz.prog W5 = .ok () W6) := Lib.hid (by rw [← hW6]; exact st_slice hbox (by simp) sz24)
              rw [hW6] at h5
              have H6 := Lib.hid h5
              have HR5 := Lib.hid hr5
              have HF2 : Hid (goF oneA q (acc ++ [x]) (sx3.rule (decide ((n3 : Int) < 2)) 2) = (CC, sc3)) := Lib.hid (by have := HF.out; unfold goF at this; rw [hx] at this; exact this)
              have HAL2 : Hid ((acc ++ [x]).length = i + 1) := Lib.hid (by have := HAL.out; simp; omega)
              have dR : W5s.cell? ⟨D, 2, none⟩ = some (.slice A acc.length cp) := by rw [cell_of_row _ _ _ _ _ _ H5s.out.box]; rfl
              have b0 : W5s.cell? ⟨B, 0, none⟩ = some (.string ⟨n0.toArray⟩) := by rw [cell_of_row _ _ _ _ _ _ HB5s]; rfl
              have b1 : W5s.cell? ⟨B, 1, none⟩ = some (.string ⟨n1.toArray⟩) := by rw [cell_of_row _ _ _ _ _ _ HB5s]; rfl
              have b2 : W5s.cell? ⟨B, 2, none⟩ = some (.int .i64 (n2 : Int)) := by rw [cell_of_row _ _ _ _ _ _ HB5s]; rfl
              have b3 : W5s.cell? ⟨B, 3, none⟩ = some (.bool (decide ((n3 : Int) = 1))) := by rw [cell_of_row _ _ _ _ _ _ HB5s]; rfl
              obtain ⟨acc2, hacc2⟩ : ∃ acc2, acc ++ [x] = acc2 := ⟨_, rfl⟩
              rw [hacc2] at HST9 H6 HR5 HF2 HAL2
              clear hr5 ho5 hb5 hx hxx hW6 hbox h5 hacc2 H5s HB5s 
              go_wp2_with (first | (refine wpList_store (by rfl) 4 (.tmp 81) (.tmp 80) (by with_reducible rfl) _ _ (by rfl) (by rfl) _ HST3.out ?_) | (refine wpList_store (by rfl) 24 (.tmp 87) (.tmp 86) (by with_reducible rfl) _ _ (by rfl) (by rfl) _ HST9.out ?_) | (at_builtin; refine wpList_app' rfl (.tmp 83) (.tmp 85) 24 24 rfl _ _ rfl rfl _ W5 (by exact HR5.out) ?_))
              go_roundg q
              case measure => omega
              case rel => exact ⟨i + 1, acc2, _, (sx3.rule (decide ((n3 : Int) < 2)) 2), by omega, by first | rfl | (simp; done) | (simp; omega), H6, HF2, HAL2⟩
            | zero =>
              have hlt : ¬ (i : Int) < (k3 : Int) := by omega
              obtain ⟨q1, q2⟩ : CC = acc ∧ sc3 = s := by have := HF.out; unfold goF at this; injection this with q1 q2; exact ⟨q1.symm, q2.symm⟩
              subst q1 q2
              obtain ⟨A2, c2, rfl⟩ := H.out.slice
              go_wp2_with fail
              refine (rmany_any _ wr g sc3 H.out.scan).mono ?_
              rintro e9 Y3 ⟨rfl, hr, hc⟩
              rw [HM4.out] at hr ⊢
              simp only at hr ⊢
              have Hm := H.out.chg hc hr
              have Hn := Hm.next 52 2 (fun u => #[(.slice A0 LL.length c0), (.slice A1 BB.length c1), (.slice A2 CC.length c2), u, .slice none 0 0, .int .i64 0, .int .i64 0, .int .i64 0, .int .i64 0]) rfl
              have OR0y := Hm.row OR0.out HBW2.out HBOR0.out
              have OR1y := Hm.row OR1.out HBW2.out HBOR1.out
              have OR2y := Hm.own
              have HBOR2 : Hid (D < b2) := Lib.hid Hm.lt
              have HRESy := li_res Hm HRES2.out
              have HGy := li_from Hm HGW2.out HN0.out
              obtain ⟨b3, hb3⟩ : ∃ b, Y3.heap.size = b := ⟨_, rfl⟩
              have HBW3 : Hid (Y3.heap.size ≤ b3) := Lib.hid (Nat.le_of_eq hb3)
              rw [hb3] at Hn
              clear hb3
              have OR0 := Lib.hid OR0y
              have OR1 := Lib.hid OR1y
              have OR2 := Lib.hid OR2y
              have HRES3 := Lib.hid HRESy
              have HGW3 := Lib.hid HGy
              have HL := Lib.hid Hn
              clear Hm Hn HRESy HGy H OR0y OR1y OR2y
              clear hr hc hlt
              clear hiq HF HAL
              go_wp2
              go_loopg [13] k4 (fun q sk wx => ∃ (i : Nat) (acc : List Gu) (v : Value) (s : Sc), i + q = k4 ∧ sk = .int .i64 (i : Int) ∧ Hid (LI n0 g D b3 52 2 (fun u => #[(.slice A0 LL.length c0), (.slice A1 BB.length c1), (.slice A2 CC.length c2), u, .slice none 0 0, .int .i64 0, .int .i64 0, .int .i64 0, .int .i64 0]) Y3 acc.length (acc.flatMap gcs) v s wx) ∧ Hid (goF oneG q acc s = (GG, sc4)) ∧ Hid (acc.length = i))
              case atStart => exact ⟨0, [], _, s4, by omega, rfl, HL, HR3, Lib.hid rfl⟩
              case round =>
                obtain ⟨i, acc, v, s, hiq, rfl, H, HF, HAL⟩ := hrel
                cases gk with
                | succ q =>
                  have hlt : (i : Int) < (k4 : Int) := by omega
                  have hi8 : i ≤ 8 := by have := HK4.out; omega
                  obtain ⟨A, cp, rfl⟩ := H.out.slice
                  go_wp2_with fail
                  refine (rnum_any _ wr g s 1 H.out.scan).mono ?_
                  rintro e9 W1 ⟨rfl, hr, hc⟩
                  have H1 := Lib.hid (H.out.chg hc hr)
                  obtain ⟨⟨n0, sx0⟩, hn⟩ : ∃ q, s.num (width 1) = q := ⟨_, rfl⟩
                  have hn256_0 : n0 < 256 := num_lt s n0 sx0 hn
                  have hwn0 : IntKind.i64.wrap (n0 : Int) = (n0 : Int) := IntWalk.i64_in _ (by omega)
                  rw [hn] at H1 ⊢
                  simp only at H1 ⊢
                  have EN0 : Hid (s.num 1 = (n0, sx0)) := Lib.hid hn
                  clear hr hc hn
                  go_wp2_with fail
                  obtain ⟨W2, hW2⟩ : ∃ W2, W1.alloc (.cells #[.int .i64 (n0 : Int), .int .i64 0] 52) = W2 := ⟨_, rfl⟩
                  rw [hW2]
                  obtain ⟨B, hB⟩ : ∃ B, W1.heap.size = B := ⟨_, rfl⟩
                  have HB2 : W2.heap[B]? = some (.cells #[.int .i64 (n0 : Int), .int .i64 0] 52 (0, 0)) := by rw [← hW2, ← hB]; exact heap_alloc_new W1 _
                  have hap := H1.out.apart
                  have hBb := H1.out.le
                  have hBg := H1.out.ltD
                  have hgg := H1.out.hg
                  have hDD := H1.out.hD
                  rw [hB] at hap hBb hBg ⊢
                  have H2 := Lib.hid (H1.out.grew (W' := W2) (by rw [← hW2]; exact (Below.refl _ _).alloc (Nat.le_refl _) _))
                  have HAP := Lib.hid hap
                  have HBB := Lib.hid hBb
                  have HGB : Hid (B ≠ g ∧ B ≠ D ∧ g ≠ D) := Lib.hid (by omega)
                  clear hW2 hB hap hBb hBg hgg hDD H1
                  refine (rnum_any _ W2 g sx0 1 H2.out.scan).mono ?_
                  rintro e9 W3a ⟨rfl, hr, hc⟩
                  have HB3a := keepK HB2 hc HGB.out.1
                  have H3a := Lib.hid (H2.out.chg hc hr)
                  obtain ⟨⟨n1, sx1⟩, hn⟩ : ∃ q, sx0.num (width 1) = q := ⟨_, rfl⟩
                  have hn256_1 : n1 < 256 := num_lt sx0 n1 sx1 hn
                  have hwn1 : IntKind.i64.wrap (n1 : Int) = (n1 : Int) := IntWalk.i64_in _ (by omega)
                  rw [hn] at H3a ⊢
                  simp only at H3a ⊢
                  have EN1 : Hid (sx0.num 1 = (n1, sx1)) := Lib.hid hn
                  clear hr hc hn
                  clear HB2
                  obtain ⟨W3s, hW3s⟩ : ∃ W3s, W3a.setCell ⟨B, 1, none⟩ (.int .i64 (n1 : Int)) = W3s := ⟨_, rfl⟩
                  have HST1 : Hid ((Instr.storeAt 3 (.pointer (some ⟨B, 1, none⟩)) (.int .i64 (n1 : Int))).run Tryz.prog W3a = .ok () W3s) := Lib.hid (by rw [← hW3s]; exact st_int HB3a (by simp) sz3)
                  have H3s := Lib.hid (H3a.out.setB B 1 (.int .i64 (n1 : Int)) HBB.out HAP.out)
                  have HB3s : (W3a.setCell ⟨B, 1, none⟩ (.int .i64 (n1 : Int))).heap[B]? = some (.cells #[.int .i64 (n0 : Int), .int .i64 (n1 : Int)] 52 (0, 0)) := by rw [heap_setCell_same _ _ _ _ _ _ HB3a]; rfl
                  rw [hW3s] at H3s HB3s
                  clear hW3s HB3a H3a H2
                  obtain ⟨x, hxx⟩ : ∃ x : Gu, x = ⟨(n0 : Int), (n1 : Int)⟩ := ⟨_, rfl⟩
                  have hx : (oneG s) = (x, sx1) := by
                    rw [hxx]
                    simp only [oneG, takeP, EN0.out, EN1.out]
                  obtain ⟨v5, W5, hr5, ho5, hb5⟩ := appG W3s b3 _ acc x H3s.out.own (by have := HAL.out; omega) H3s.out.le
                  rw [hxx] at hr5
                  have hbox := (hb5.block D H3s.out.lt).trans H3s.out.box
                  have h5 := H3s.out.push hb5 ho5 3 rfl
                  obtain ⟨A5, c5, rfl⟩ := own_sl ho5
                  obtain ⟨W6, hW6⟩ : ∃ W6, W5.setCell ⟨D, 3, none⟩ (.slice A5 (acc ++ [x]).length c5) = W6 := ⟨_, rfl⟩
                  have HST9 : Hid ((Instr.storeAt 25 (.pointer (some ⟨D, 3, none⟩)) (.slice A5 (acc ++ [x]).length c5)).run Tryz.prog W5 = .ok () W6) := Lib.hid (by rw [← hW6]; exact st_slice hbox (by simp) sz25)
                  rw [hW6] at h5
                  have H6 := Lib.hid h5
                  have HR5 := Lib.hid hr5
                  have HF2 : Hid (goF oneG q (acc ++ [x]) sx1 = (GG, sc4)) := Lib.hid (by have := HF.out; unfold goF at this; rw [hx] at this; exact this)
                  have HAL2 : Hid ((acc ++ [x]).length = i + 1) := Lib.hid (by have := HAL.out; simp; omega)
                  have dR : W3s.cell? ⟨D, 3, none⟩ = some (.slice A acc.length cp) := by rw [cell_of_row _ _ _ _ _ _ H3s.out.box]; rfl
                  have b0 : W3s.cell? ⟨B, 0, none⟩ = some (.int .i64 (n0 : Int)) := by rw [cell_of_row _ _ _ _ _ _ HB3s]; rfl
                  have b1 : W3s.cell? ⟨B, 1, none⟩ = some (.int .i64 (n1 : Int)) := by rw [cell_of_row _ _ _ _ _ _ HB3s]; rfl
                  obtain ⟨acc2, hacc2⟩ : ∃ acc2, acc ++ [x] = acc2 := ⟨_, rfl⟩
                  rw [hacc2] at HST9 H6 HR5 HF2 HAL2
                  clear hr5 ho5 hb5 hx hxx hW6 hbox h5 hacc2 H3s HB3s 
                  go_wp2_with (first | (refine wpList_store (by rfl) 3 (.tmp 102) (.tmp 101) (by with_reducible rfl) _ _ (by rfl) (by rfl) _ HST1.out ?_) | (refine wpList_store (by rfl) 25 (.tmp 108) (.tmp 107) (by with_reducible rfl) _ _ (by rfl) (by rfl) _ HST9.out ?_) | (at_builtin; refine wpList_app' rfl (.tmp 104) (.tmp 106) 25 25 rfl _ _ rfl rfl _ W5 (by exact HR5.out) ?_))
                  go_roundg q
                  case measure => omega
                  case rel => exact ⟨i + 1, acc2, _, sx1, by omega, by first | rfl | (simp; done) | (simp; omega), H6, HF2, HAL2⟩
                | zero =>
                  have hlt : ¬ (i : Int) < (k4 : Int) := by omega
                  obtain ⟨q1, q2⟩ : GG = acc ∧ sc4 = s := by have := HF.out; unfold goF at this; injection this with q1 q2; exact ⟨q1.symm, q2.symm⟩
                  subst q1 q2
                  obtain ⟨A3, c3, rfl⟩ := H.out.slice
                  have Hm := H.out
                  have Hn := Hm.next 100 6 (fun u => #[(.slice A0 LL.length c0), (.slice A1 BB.length c1), (.slice A2 CC.length c2), (.slice A3 GG.length c3), u, .int .i64 0, .int .i64 0, .int .i64 0, .int .i64 0]) rfl
                  have OR0y := Hm.row OR0.out HBW3.out HBOR0.out
                  have OR1y := Hm.row OR1.out HBW3.out HBOR1.out
                  have OR2y := Hm.row OR2.out HBW3.out HBOR2.out
                  have OR3y := Hm.own
                  have HBOR3 : Hid (D < b3) := Lib.hid Hm.lt
                  have HRESy := li_res Hm HRES3.out
                  have HGy := li_from Hm HGW3.out HN0.out
                  obtain ⟨b4, hb4⟩ : ∃ b, wr.heap.size = b := ⟨_, rfl⟩
                  have HBW4 : Hid (wr.heap.size ≤ b4) := Lib.hid (Nat.le_of_eq hb4)
                  rw [hb4] at Hn
                  clear hb4
                  have OR0 := Lib.hid OR0y
                  have OR1 := Lib.hid OR1y
                  have OR2 := Lib.hid OR2y
                  have OR3 := Lib.hid OR3y
                  have HRES4 := Lib.hid HRESy
                  have HGW4 := Lib.hid HGy
                  have HL := Lib.hid Hn
                  clear Hm Hn HRESy HGy H OR0y OR1y OR2y OR3y
                  clear hiq HF HAL
                  go_wp2
                  clear hlt
                  go_loopg [15] LL.length (fun q sk wx => ∃ (i : Nat) (acc : List Qu) (v : Value) (s : Sc), i + q = LL.length ∧ sk = .int .i64 (i : Int) ∧ Hid (LI n0 g D b4 100 6 (fun u => #[(.slice A0 LL.length c0), (.slice A1 BB.length c1), (.slice A2 CC.length c2), (.slice A3 GG.length c3), u, .int .i64 0, .int .i64 0, .int .i64 0, .int .i64 0]) wr acc.length (acc.flatMap qcs) v s wx) ∧ Hid (goF oneQ q acc s = (QQ, sc5)) ∧ Hid (acc.length = i))
                  case atStart => exact ⟨0, [], _, sc4, by omega, rfl, HL, HR4, Lib.hid rfl⟩
                  case round =>
                    obtain ⟨i, acc, v, s, hiq, rfl, H, HF, HAL⟩ := hrel
                    cases gk with
                    | succ q =>
                      have hlt : (i : Int) < (LL.length : Int) := by omega
                      have hi8 : i ≤ 8 := by have := HAL0.out; omega
                      obtain ⟨A, cp, rfl⟩ := H.out.slice
                      have dL : wr.cell? ⟨D, 0, none⟩ = some (.slice A0 LL.length c0) := by rw [cell_of_row _ _ _ _ _ _ H.out.box]; rfl
                      go_wp2_with fail
                      refine (rnum_any _ wr g s 1 H.out.scan).mono ?_
                      rintro e9 W1 ⟨rfl, hr, hc⟩
                      have H1 := Lib.hid (H.out.chg hc hr)
                      obtain ⟨⟨n0, sx0⟩, hn⟩ : ∃ q, s.num (width 1) = q := ⟨_, rfl⟩
                      have hn256_0 : n0 < 256 := num_lt s n0 sx0 hn
                      have hwn0 : IntKind.i64.wrap (n0 : Int) = (n0 : Int) := IntWalk.i64_in _ (by omega)
                      rw [hn] at H1 ⊢
                      simp only at H1 ⊢
                      have EN0 : Hid (s.num 1 = (n0, sx0)) := Lib.hid hn
                      clear hr hc hn
                      clear dL
                      go_wp2_with fail
                      obtain ⟨W2, hW2⟩ : ∃ W2, W1.alloc (.cells #[.int .i64 (n0 : Int), .int .i64 0, .int .i64 0, .int .i64 0, .int .i64 0, .int .u64 0] 100) = W2 := ⟨_, rfl⟩
                      rw [hW2]
                      obtain ⟨B, hB⟩ : ∃ B, W1.heap.size = B := ⟨_, rfl⟩
                      have HB2 : W2.heap[B]? = some (.cells #[.int .i64 (n0 : Int), .int .i64 0, .int .i64 0, .int .i64 0, .int .i64 0, .int .u64 0] 100 (0, 0)) := by rw [← hW2, ← hB]; exact heap_alloc_new W1 _
                      have hap := H1.out.apart
                      have hBb := H1.out.le
                      have hBg := H1.out.ltD
                      have hgg := H1.out.hg
                      have hDD := H1.out.hD
                      rw [hB] at hap hBb hBg ⊢
                      have H2 := Lib.hid (H1.out.grew (W' := W2) (by rw [← hW2]; exact (Below.refl _ _).alloc (Nat.le_refl _) _))
                      have HAP := Lib.hid hap
                      have HBB := Lib.hid hBb
                      have HGB : Hid (B ≠ g ∧ B ≠ D ∧ g ≠ D) := Lib.hid (by omega)
                      clear hW2 hB hap hBb hBg hgg hDD H1
                      refine (rnum_any _ W2 g sx0 1 H2.out.scan).mono ?_
                      rintro e9 W3a ⟨rfl, hr, hc⟩
                      have HB3a := keepK HB2 hc HGB.out.1
                      have H3a := Lib.hid (H2.out.chg hc hr)
                      obtain ⟨⟨n1, sx1⟩, hn⟩ : ∃ q, sx0.num (width 1) = q := ⟨_, rfl⟩
                      have hn256_1 : n1 < 256 := num_lt sx0 n1 sx1 hn
                      have hwn1 : IntKind.i64.wrap (n1 : Int) = (n1 : Int) := IntWalk.i64_in _ (by omega)
                      rw [hn] at H3a ⊢
                      simp only at H3a ⊢
                      have EN1 : Hid (sx0.num 1 = (n1, sx1)) := Lib.hid hn
                      clear hr hc hn
                      clear HB2
                      obtain ⟨W3s, hW3s⟩ : ∃ W3s, W3a.setCell ⟨B, 1, none⟩ (.int .i64 (n1 : Int)) = W3s := ⟨_, rfl⟩
                      have HST1 : Hid ((Instr.storeAt 3 (.pointer (some ⟨B, 1, none⟩)) (.int .i64 (n1 : Int))).run Tryz.prog W3a = .ok () W3s) := Lib.hid (by rw [← hW3s]; exact st_int HB3a (by simp) sz3)
                      have H3s := Lib.hid (H3a.out.setB B 1 (.int .i64 (n1 : Int)) HBB.out HAP.out)
                      have HB3s : (W3a.setCell ⟨B, 1, none⟩ (.int .i64 (n1 : Int))).heap[B]? = some (.cells #[.int .i64 (n0 : Int), .int .i64 (n1 : Int), .int .i64 0, .int .i64 0, .int .i64 0, .int .u64 0] 100 (0, 0)) := by rw [heap_setCell_same _ _ _ _ _ _ HB3a]; rfl
                      rw [hW3s] at H3s HB3s
                      clear hW3s HB3a H3a H2
                      go_wp2_with (refine wpList_store (by rfl) 3 (.tmp 123) (.tmp 122) (by with_reducible rfl) _ _ (by rfl) (by rfl) _ HST1.out ?_)
                      refine (rnum_any _ W3s g sx1 1 H3s.out.scan).mono ?_
                      rintro e9 W4a ⟨rfl, hr, hc⟩
                      have HB4a := keepK HB3s hc HGB.out.1
                      have H4a := Lib.hid (H3s.out.chg hc hr)
                      obtain ⟨⟨n2, sx2⟩, hn⟩ : ∃ q, sx1.num (width 1) = q := ⟨_, rfl⟩
                      have hn256_2 : n2 < 256 := num_lt sx1 n2 sx2 hn
                      have hwn2 : IntKind.i64.wrap (n2 : Int) = (n2 : Int) := IntWalk.i64_in _ (by omega)
                      rw [hn] at H4a ⊢
                      simp only at H4a ⊢
                      have EN2 : Hid (sx1.num 1 = (n2, sx2)) := Lib.hid hn
                      clear hr hc hn
                      clear HB3s
                      obtain ⟨W4s, hW4s⟩ : ∃ W4s, W4a.setCell ⟨B, 2, none⟩ (.int .i64 (n2 : Int)) = W4s := ⟨_, rfl⟩
                      have HST2 : Hid ((Instr.storeAt 3 (.pointer (some ⟨B, 2, none⟩)) (.int .i64 (n2 : Int))).run Tryz.prog W4a = .ok () W4s) := Lib.hid (by rw [← hW4s]; exact st_int HB4a (by simp) sz3)
                      have H4s := Lib.hid (H4a.out.setB B 2 (.int .i64 (n2 : Int)) HBB.out HAP.out)
                      have HB4s : (W4a.setCell ⟨B, 2, none⟩ (.int .i64 (n2 : Int))).heap[B]? = some (.cells #[.int .i64 (n0 : Int), .int .i64 (n1 : Int), .int .i64 (n2 : Int), .int .i64 0, .int .i64 0, .int .u64 0] 100 (0, 0)) := by rw [heap_setCell_same _ _ _ _ _ _ HB4a]; rfl
                      rw [hW4s] at H4s HB4s
                      clear hW4s HB4a H4a H3s
                      go_wp2_with (refine wpList_store (by rfl) 3 (.tmp 127) (.tmp 126) (by with_reducible rfl) _ _ (by rfl) (by rfl) _ HST2.out ?_)
                      refine (rnum_any _ W4s g sx2 1 H4s.out.scan).mono ?_
                      rintro e9 W5a ⟨rfl, hr, hc⟩
                      have HB5a := keepK HB4s hc HGB.out.1
                      have H5a := Lib.hid (H4s.out.chg hc hr)
                      obtain ⟨⟨n3, sx3⟩, hn⟩ : ∃ q, sx2.num (width 1) = q := ⟨_, rfl⟩
                      have hn256_3 : n3 < 256 := num_lt sx2 n3 sx3 hn
                      have hwn3 : IntKind.i64.wrap (n3 : Int) = (n3 : Int) := IntWalk.i64_in _ (by omega)
                      rw [hn] at H5a ⊢
                      simp only at H5a ⊢
                      have EN3 : Hid (sx2.num 1 = (n3, sx3)) := Lib.hid hn
                      clear hr hc hn
                      clear HB4s
                      obtain ⟨W5s, hW5s⟩ : ∃ W5s, W5a.setCell ⟨B, 3, none⟩ (.int .i64 (n3 : Int)) = W5s := ⟨_, rfl⟩
                      have HST3 : Hid ((Instr.storeAt 3 (.pointer (some ⟨B, 3, none⟩)) (.int .i64 (n3 : Int))).run Tryz.prog W5a = .ok () W5s) := Lib.hid (by rw [← hW5s]; exact st_int HB5a (by simp) sz3)
                      have H5s := Lib.hid (H5a.out.setB B 3 (.int .i64 (n3 : Int)) HBB.out HAP.out)
                      have HB5s : (W5a.setCell ⟨B, 3, none⟩ (.int .i64 (n3 : Int))).heap[B]? = some (.cells #[.int .i64 (n0 : Int), .int .i64 (n1 : Int), .int .i64 (n2 : Int), .int .i64 (n3 : Int), .int .i64 0, .int .u64 0] 100 (0, 0)) := by rw [heap_setCell_same _ _ _ _ _ _ HB5a]; rfl
                      rw [hW5s] at H5s HB5s
                      clear hW5s HB5a H5a H4s
                      go_wp2_with (refine wpList_store (by rfl) 3 (.tmp 131) (.tmp 130) (by with_reducible rfl) _ _ (by rfl) (by rfl) _ HST3.out ?_)
                      refine (rnum_any _ W5s g sx3 1 H5s.out.scan).mono ?_
                      rintro e9 W6a ⟨rfl, hr, hc⟩
                      have HB6a := keepK HB5s hc HGB.out.1
                      have H6a := Lib.hid (H5s.out.chg hc hr)
                      obtain ⟨⟨n4, sx4⟩, hn⟩ : ∃ q, sx3.num (width 1) = q := ⟨_, rfl⟩
                      have hn256_4 : n4 < 256 := num_lt sx3 n4 sx4 hn
                      have hwn4 : IntKind.i64.wrap (n4 : Int) = (n4 : Int) := IntWalk.i64_in _ (by omega)
                      rw [hn] at H6a ⊢
                      simp only at H6a ⊢
                      have EN4 : Hid (sx3.num 1 = (n4, sx4)) := Lib.hid hn
                      clear hr hc hn
                      clear HB5s
                      obtain ⟨W6s, hW6s⟩ : ∃ W6s, W6a.setCell ⟨B, 4, none⟩ (.int .i64 (n4 : Int)) = W6s := ⟨_, rfl⟩
                      have HST4 : Hid ((Instr.storeAt 3 (.pointer (some ⟨B, 4, none⟩)) (.int .i64 (n4 : Int))).run Tryz.prog W6a = .ok () W6s) := Lib.hid (by rw [← hW6s]; exact st_int HB6a (by simp) sz3)
                      have H6s := Lib.hid (H6a.out.setB B 4 (.int .i64 (n4 : Int)) HBB.out HAP.out)
                      have HB6s : (W6a.setCell ⟨B, 4, none⟩ (.int .i64 (n4 : Int))).heap[B]? = some (.cells #[.int .i64 (n0 : Int), .int .i64 (n1 : Int), .int .i64 (n2 : Int), .int .i64 (n3 : Int), .int .i64 (n4 : Int), .int .u64 0] 100 (0, 0)) := by rw [heap_setCell_same _ _ _ _ _ _ HB6a]; rfl
                      rw [hW6s] at H6s HB6s
                      clear hW6s HB6a H6a H5s
                      go_wp2_with (refine wpList_store (by rfl) 3 (.tmp 135) (.tmp 134) (by with_reducible rfl) _ _ (by rfl) (by rfl) _ HST4.out ?_)
                      refine (rnum_any _ W6s g sx4 8 H6s.out.scan).mono ?_
                      rintro e9 W7a ⟨rfl, hr, hc⟩
                      have HB7a := keepK HB6s hc HGB.out.1
                      have H7a := Lib.hid (H6s.out.chg hc hr)
                      obtain ⟨⟨n5, sx5⟩, hn⟩ : ∃ q, sx4.num (width 8) = q := ⟨_, rfl⟩
                      rw [hn] at H7a ⊢
                      simp only at H7a ⊢
                      have EN5 : Hid (sx4.num 8 = (n5, sx5)) := Lib.hid hn
                      clear hr hc hn
                      clear HB6s
                      obtain ⟨W7s, hW7s⟩ : ∃ W7s, W7a.setCell ⟨B, 5, none⟩ (.int .u64 (n5 : Int)) = W7s := ⟨_, rfl⟩
                      have HST5 : Hid ((Instr.storeAt 29 (.pointer (some ⟨B, 5, none⟩)) (.int .u64 (n5 : Int))).run Tryz.prog W7a = .ok () W7s) := Lib.hid (by rw [← hW7s]; exact st_int HB7a (by simp) sz29)
                      have H7s := Lib.hid (H7a.out.setB B 5 (.int .u64 (n5 : Int)) HBB.out HAP.out)
                      have HB7s : (W7a.setCell ⟨B, 5, none⟩ (.int .u64 (n5 : Int))).heap[B]? = some (.cells #[.int .i64 (n0 : Int), .int .i64 (n1 : Int), .int .i64 (n2 : Int), .int .i64 (n3 : Int), .int .i64 (n4 : Int), .int .u64 (n5 : Int)] 100 (0, 0)) := by rw [heap_setCell_same _ _ _ _ _ _ HB7a]; rfl
                      rw [hW7s] at H7s HB7s
                      clear hW7s HB7a H7a H6s
                      obtain ⟨x, hxx⟩ : ∃ x : Qu, x = ⟨(n0 : Int), (n1 : Int), (n2 : Int), (n3 : Int), (n4 : Int), BitVec.ofNat 64 n5⟩ := ⟨_, rfl⟩
                      have hx : (oneQ s) = (x, sx5) := by
                        rw [hxx]
                        simp only [oneQ, takeP, EN0.out, EN1.out, EN2.out, EN3.out, EN4.out, EN5.out]
                      obtain ⟨v5, W5, hr5, ho5, hb5⟩ := appQ W7s b4 _ acc x H7s.out.own (by have := HAL.out; omega) H7s.out.le
                      have hmx : n5 < 2 ^ 64 := by have := num8_lt sx4; rw [EN5.out] at this; exact this
                      have hmm : ((BitVec.ofNat 64 n5).toNat : Int) = (n5 : Int) := by rw [BitVec.toNat_ofNat, Nat.mod_eq_of_lt hmx]
                      rw [hxx] at hr5
                      simp only [hmm] at hr5
                      clear hmx hmm
                      have hbox := (hb5.block D H7s.out.lt).trans H7s.out.box
                      have h5 := H7s.out.push hb5 ho5 4 rfl
                      obtain ⟨A5, c5, rfl⟩ := own_sl ho5
                      obtain ⟨W6, hW6⟩ : ∃ W6, W5.setCell ⟨D, 4, none⟩ (.slice A5 (acc ++ [x]).length c5) = W6 := ⟨_, rfl⟩
                      have HST9 : Hid ((Instr.storeAt 26 (.pointer (some ⟨D, 4, none⟩)) (.slice A5 (acc ++ [x]).length c5)).run Tryz.prog W5 = .ok () W6) := Lib.hid (by rw [← hW6]; exact st_slice hbox (by simp) sz26)
                      rw [hW6] at h5
                      have H6 := Lib.hid h5
                      have HR5 := Lib.hid hr5
                      have HF2 : Hid (goF oneQ q (acc ++ [x]) sx5 = (QQ, sc5)) := Lib.hid (by have := HF.out; unfold goF at this; rw [hx] at this; exact this)
                      have HAL2 : Hid ((acc ++ [x]).length = i + 1) := Lib.hid (by have := HAL.out; simp; omega)
                      have dR : W7s.cell? ⟨D, 4, none⟩ = some (.slice A acc.length cp) := by rw [cell_of_row _ _ _ _ _ _ H7s.out.box]; rfl
                      have b0 : W7s.cell? ⟨B, 0, none⟩ = some (.int .i64 (n0 : Int)) := by rw [cell_of_row _ _ _ _ _ _ HB7s]; rfl
                      have b1 : W7s.cell? ⟨B, 1, none⟩ = some (.int .i64 (n1 : Int)) := by rw [cell_of_row _ _ _ _ _ _ HB7s]; rfl
                      have b2 : W7s.cell? ⟨B, 2, none⟩ = some (.int .i64 (n2 : Int)) := by rw [cell_of_row _ _ _ _ _ _ HB7s]; rfl
                      have b3 : W7s.cell? ⟨B, 3, none⟩ = some (.int .i64 (n3 : Int)) := by rw [cell_of_row _ _ _ _ _ _ HB7s]; rfl
                      have b4 : W7s.cell? ⟨B, 4, none⟩ = some (.int .i64 (n4 : Int)) := by rw [cell_of_row _ _ _ _ _ _ HB7s]; rfl
                      have b5 : W7s.cell? ⟨B, 5, none⟩ = some (.int .u64 (n5 : Int)) := by rw [cell_of_row _ _ _ _ _ _ HB7s]; rfl
                      obtain ⟨acc2, hacc2⟩ : ∃ acc2, acc ++ [x] = acc2 := ⟨_, rfl⟩
                      rw [hacc2] at HST9 H6 HR5 HF2 HAL2
                      clear hr5 ho5 hb5 hx hxx hW6 hbox h5 hacc2 H7s HB7s 
                      go_wp2_with (first | (refine wpList_store (by rfl) 29 (.tmp 138) (.tmp 137) (by with_reducible rfl) _ _ (by rfl) (by rfl) _ HST5.out ?_) | (refine wpList_store (by rfl) 26 (.tmp 144) (.tmp 143) (by with_reducible rfl) _ _ (by rfl) (by rfl) _ HST9.out ?_) | (at_builtin; refine wpList_app' rfl (.tmp 140) (.tmp 142) 26 26 rfl _ _ rfl rfl _ W5 (by exact HR5.out) ?_))
                      go_roundg q
                      case measure => omega
                      case rel => exact ⟨i + 1, acc2, _, sx5, by omega, by first | rfl | (simp; done) | (simp; omega), H6, HF2, HAL2⟩
                    | zero =>
                      have hlt : ¬ (i : Int) < (LL.length : Int) := by omega
                      obtain ⟨q1, q2⟩ : QQ = acc ∧ sc5 = s := by have := HF.out; unfold goF at this; injection this with q1 q2; exact ⟨q1.symm, q2.symm⟩
                      subst q1 q2
                      obtain ⟨A4, c4, rfl⟩ := H.out.slice
                      have dL : wr.cell? ⟨D, 0, none⟩ = some (.slice A0 LL.length c0) := by rw [cell_of_row _ _ _ _ _ _ H.out.box]; rfl
                      have Hm := H.out
                      have OR0y := Hm.row OR0.out HBW4.out HBOR0.out
                      have OR1y := Hm.row OR1.out HBW4.out HBOR1.out
                      have OR2y := Hm.row OR2.out HBW4.out HBOR2.out
                      have OR3y := Hm.row OR3.out HBW4.out HBOR3.out
                      have OR4y := Hm.own
                      have HBOR4 : Hid (D < b4) := Lib.hid Hm.lt
                      have HRESy := li_res Hm HRES4.out
                      have HGy := li_from Hm HGW4.out HN0.out
                      have HT0 := Lib.hid Hm
                      clear Hm HRESy HGy H OR0y OR1y OR2y OR3y OR4y
                      go_wp2_with fail
                      refine (rnum_any _ wr g sc5 1 HT0.out.scan).mono ?_
                      rintro e9 V0 ⟨rfl, hr, hc⟩
                      have Hc := HT0.out.chg hc hr
                      rw [HE0.out] at Hc ⊢
                      simp only at Hc ⊢
                      obtain ⟨U0, hU⟩ : ∃ U, V0.setCell ⟨D, 5, none⟩ (.int .i64 (f0 : Int)) = U := ⟨_, rfl⟩
                      have HSU0 : Hid ((Instr.storeAt 3 (.pointer (some ⟨D, 5, none⟩)) (.int .i64 (f0 : Int))).run Tryz.prog V0 = .ok () U0) := Lib.hid (by rw [← hU]; exact st_int Hc.box (by simp) sz3)
                      have hs := Hc.setD 5 (.int .i64 (f0 : Int)) (fun u => #[(.slice A0 LL.length c0), (.slice A1 BB.length c1), (.slice A2 CC.length c2), (.slice A3 GG.length c3), u, .int .i64 (f0 : Int), .int .i64 0, .int .i64 0, .int .i64 0]) rfl
                      rw [hU] at hs
                      have HT1 := Lib.hid hs
                      clear hs hU Hc hr hc HT0 dL hlt hiq HF HAL
                      go_wp2_with ((with_reducible refine wpl_id ?_); refine wpList_store (by rfl) 3 (.tmp 148) (.tmp 147) (by with_reducible rfl) _ _ (by rfl) (by rfl) _ HSU0.out ?_)
                      refine (rnum_any _ U0 g sc6 1 HT1.out.scan).mono ?_
                      rintro e9 V1 ⟨rfl, hr, hc⟩
                      have Hc := HT1.out.chg hc hr
                      rw [HE1.out] at Hc ⊢
                      simp only at Hc ⊢
                      obtain ⟨U1, hU⟩ : ∃ U, V1.setCell ⟨D, 6, none⟩ (.int .i64 (f1 : Int)) = U := ⟨_, rfl⟩
                      have HSU1 : Hid ((Instr.storeAt 3 (.pointer (some ⟨D, 6, none⟩)) (.int .i64 (f1 : Int))).run Tryz.prog V1 = .ok () U1) := Lib.hid (by rw [← hU]; exact st_int Hc.box (by simp) sz3)
                      have hs := Hc.setD 6 (.int .i64 (f1 : Int)) (fun u => #[(.slice A0 LL.length c0), (.slice A1 BB.length c1), (.slice A2 CC.length c2), (.slice A3 GG.length c3), u, .int .i64 (f0 : Int), .int .i64 (f1 : Int), .int .i64 0, .int .i64 0]) rfl
                      rw [hU] at hs
                      have HT2 := Lib.hid hs
                      clear hs hU Hc hr hc HT1
                      go_wp2_with ((with_reducible refine wpl_id ?_); refine wpList_store (by rfl) 3 (.tmp 152) (.tmp 151) (by with_reducible rfl) _ _ (by rfl) (by rfl) _ HSU1.out ?_)
                      refine (rnum_any _ U1 g sc7 1 HT2.out.scan).mono ?_
                      rintro e9 V2 ⟨rfl, hr, hc⟩
                      have Hc := HT2.out.chg hc hr
                      rw [HE2.out] at Hc ⊢
                      simp only at Hc ⊢
                      obtain ⟨U2, hU⟩ : ∃ U, V2.setCell ⟨D, 7, none⟩ (.int .i64 (f2 : Int)) = U := ⟨_, rfl⟩
                      have HSU2 : Hid ((Instr.storeAt 3 (.pointer (some ⟨D, 7, none⟩)) (.int .i64 (f2 : Int))).run Tryz.prog V2 = .ok () U2) := Lib.hid (by rw [← hU]; exact st_int Hc.box (by simp) sz3)
                      have hs := Hc.setD 7 (.int .i64 (f2 : Int)) (fun u => #[(.slice A0 LL.length c0), (.slice A1 BB.length c1), (.slice A2 CC.length c2), (.slice A3 GG.length c3), u, .int .i64 (f0 : Int), .int .i64 (f1 : Int), .int .i64 (f2 : Int), .int .i64 0]) rfl
                      rw [hU] at hs
                      have HT3 := Lib.hid hs
                      clear hs hU Hc hr hc HT2
                      go_wp2_with ((with_reducible refine wpl_id ?_); refine wpList_store (by rfl) 3 (.tmp 156) (.tmp 155) (by with_reducible rfl) _ _ (by rfl) (by rfl) _ HSU2.out ?_)
                      refine (rnum_any _ U2 g sc8 1 HT3.out.scan).mono ?_
                      rintro e9 V3 ⟨rfl, hr, hc⟩
                      have Hc := HT3.out.chg hc hr
                      rw [HE3.out] at Hc ⊢
                      simp only at Hc ⊢
                      obtain ⟨U3, hU⟩ : ∃ U, V3.setCell ⟨D, 8, none⟩ (.int .i64 (f3 : Int)) = U := ⟨_, rfl⟩
                      have HSU3 : Hid ((Instr.storeAt 3 (.pointer (some ⟨D, 8, none⟩)) (.int .i64 (f3 : Int))).run Tryz.prog V3 = .ok () U3) := Lib.hid (by rw [← hU]; exact st_int Hc.box (by simp) sz3)
                      have hs := Hc.setD 8 (.int .i64 (f3 : Int)) (fun u => #[(.slice A0 LL.length c0), (.slice A1 BB.length c1), (.slice A2 CC.length c2), (.slice A3 GG.length c3), u, .int .i64 (f0 : Int), .int .i64 (f1 : Int), .int .i64 (f2 : Int), .int .i64 (f3 : Int)]) rfl
                      rw [hU] at hs
                      have HT4 := Lib.hid hs
                      clear hs hU Hc hr hc HT3
                      go_wp2_with ((with_reducible refine wpl_id ?_); refine wpList_store (by rfl) 3 (.tmp 160) (.tmp 159) (by with_reducible rfl) _ _ (by rfl) (by rfl) _ HSU3.out ?_)
                      clear hf0 hf1 hf2 hf3 hwf0 hwf1 hwf2 hwf3
                      obtain ⟨fin, hfin⟩ : ∃ fin, sc9.fin = fin := ⟨_, rfl⟩
                      have HFIN := Lib.hid hfin
                      clear hfin
                      refine (rend_any _ U3 g sc9 HT4.out.scan).mono ?_
                      rintro e9 V4 ⟨rfl, hv⟩
                      have hgv : Grew U3 V4 := by obtain ⟨nn, rfl⟩ := hv; exact grew_drewN _ _
                      have HT5 := Lib.hid (HT4.out.grew hgv)
                      clear hv hgv HT4
                      rw [HFIN.out]
                      by_cases hf : fin = 0
                      · subst hf
                        have Y0 := Lib.hid (HT5.out.row OR0.out HBW4.out HBOR0.out)
                        have Y1 := Lib.hid (HT5.out.row OR1.out HBW4.out HBOR1.out)
                        have Y2 := Lib.hid (HT5.out.row OR2.out HBW4.out HBOR2.out)
                        have Y3 := Lib.hid (HT5.out.row OR3.out HBW4.out HBOR3.out)
                        have Y4 := Lib.hid HT5.out.own
                        have hre : ReIs V4 (.agg #[(.slice A0 LL.length c0), (.slice A1 BB.length c1), (.slice A2 CC.length c2), (.slice A3 GG.length c3), (.slice A4 QQ.length c4), .int .i64 (f0 : Int), .int .i64 (f1 : Int), .int .i64 (f2 : Int), .int .i64 (f3 : Int)]) ⟨LL, BB, CC, GG, QQ, (f0 : Int), (f1 : Int), (f2 : Int), (f3 : Int)⟩ := re_is Y0.out Y1.out Y2.out Y3.out Y4.out _ _ _ _
                        have HRE := Lib.hid hre
                        have HLD := Lib.hid (load9 (ys := [(.slice A0 LL.length c0), (.slice A1 BB.length c1), (.slice A2 CC.length c2), (.slice A3 GG.length c3), (.slice A4 QQ.length c4), .int .i64 (f0 : Int), .int .i64 (f1 : Int), .int .i64 (f2 : Int), .int .i64 (f3 : Int)]) HT5.out.box rfl (by simp [Value.oneCell'])).1
                        clear hre
                        obtain ⟨mb, hmb⟩ : ∃ mb, mayBe ⟨LL, BB, CC, GG, QQ, (f0 : Int), (f1 : Int), (f2 : Int), (f3 : Int)⟩ = mb := ⟨_, rfl⟩
                        have HMB := Lib.hid hmb
                        have HRR := Lib.hid (rright_any _ _ V4 HRE.out HSZ.out)
                        rw [hmb] at HRR
                        clear hmb
                        go_wp2_with ((with_reducible refine wpl_id ?_); refine wpList_load (by rfl) 28 (.tmp 5) (by with_reducible rfl) _ _ (by rfl) HLD.out ?_)
                        refine HRR.out.mono ?_
                        rintro e9 V5 ⟨rfl, hg5⟩
                        have HT6 := Lib.hid (HT5.out.grew hg5)
                        clear hg5 HRR HLD
                        cases mb with
                        | false =>
                          have HRes : Hid (R = (re0, 2)) := Lib.hid (by rw [← HRP.out]; unfold rreadP; rw [HPA.out]; simp only [HFIN.out, HMB.out]; rfl)
                          obtain ⟨V6, hst, hz, hgr⟩ := store9 (li_res HT6.out HRES4.out) rfl [.slice none 0 0, .slice none 0 0, .slice none 0 0, .slice none 0 0, .slice none 0 0, .int .i64 0, .int .i64 0, .int .i64 0, .int .i64 0] rfl (by simp [Value.oneCell'])
                          have HST := Lib.hid hst
                          have HLZ := Lib.hid (load9 hz rfl (by simp [Value.oneCell'])).2
                          have HGG : Hid (Grew w V6) := Lib.hid ((show Below w.heap.size w V5 from li_from HT6.out HGW4.out HN0.out).grown hgr (Nat.le_of_lt (by have := HT6.out.ltD; have := HT6.out.hD; have := HN0.out; omega)) (fun k hk => by cases hk; exact Nat.le_of_eq HN0.out))
                          clear hst hz hgr
                          go_wp2_with ((with_reducible refine wpl_id ?_); refine wpList_store (by rfl) 28 (.tmp 2) (.tmp 170) (by with_reducible rfl) _ _ (by rfl) (by rfl) _ HST.out ?_; (iterate 8 (first | go_values | go_skip | go_guarded | go_step | go_upon | go_back)); refine bodyPost_ret (results_ct rfl rfl HLZ.out) rfl ?_; rw [HRes.out]; exact ⟨_, rfl, zero_is _, HGG.out⟩)
                        | true =>
                          have HRes : Hid (R = (⟨LL, BB, CC, GG, QQ, (f0 : Int), (f1 : Int), (f2 : Int), (f3 : Int)⟩, 0)) := Lib.hid (by rw [← HRP.out]; unfold rreadP; rw [HPA.out]; simp only [HFIN.out, HMB.out]; rfl)
                          have HLD := Lib.hid (load9 (ys := [(.slice A0 LL.length c0), (.slice A1 BB.length c1), (.slice A2 CC.length c2), (.slice A3 GG.length c3), (.slice A4 QQ.length c4), .int .i64 (f0 : Int), .int .i64 (f1 : Int), .int .i64 (f2 : Int), .int .i64 (f3 : Int)]) HT6.out.box rfl (by simp [Value.oneCell'])).1
                          obtain ⟨V6, hst, hz, hgr⟩ := store9 (li_res HT6.out HRES4.out) rfl [(.slice A0 LL.length c0), (.slice A1 BB.length c1), (.slice A2 CC.length c2), (.slice A3 GG.length c3), (.slice A4 QQ.length c4), .int .i64 (f0 : Int), .int .i64 (f1 : Int), .int .i64 (f2 : Int), .int .i64 (f3 : Int)] rfl (by simp [Value.oneCell'])
                          have HST := Lib.hid hst
                          have HLZ := Lib.hid (load9 hz rfl (by simp [Value.oneCell'])).2
                          have HGG : Hid (Grew w V6) := Lib.hid ((show Below w.heap.size w V5 from li_from HT6.out HGW4.out HN0.out).grown hgr (Nat.le_of_lt (by have := HT6.out.ltD; have := HT6.out.hD; have := HN0.out; omega)) (fun k hk => by cases hk; exact Nat.le_of_eq HN0.out))
                          have far : ∀ {base t k c : Nat} {u : Value} {ys : List Value}, V5.ownsRow base t k u c ys → D < base → V6.ownsRow base t k u c ys := fun {base t k c u ys} ho hb => by
                            refine ⟨ho.1, ho.2.imp id fun ⟨q, cap, cur, h1, h2, h3, h4⟩ => ⟨q, cap, cur, h1, h2, ?_, h4⟩⟩
                            exact (hgr.block q (Array.getElem?_eq_some_iff.1 h3).1 (fun e => by injection e with e; have := HT6.out.hD; omega)).trans h3
                          have HFIV : Hid (ReIs V6 (.agg #[(.slice A0 LL.length c0), (.slice A1 BB.length c1), (.slice A2 CC.length c2), (.slice A3 GG.length c3), (.slice A4 QQ.length c4), .int .i64 (f0 : Int), .int .i64 (f1 : Int), .int .i64 (f2 : Int), .int .i64 (f3 : Int)]) ⟨LL, BB, CC, GG, QQ, (f0 : Int), (f1 : Int), (f2 : Int), (f3 : Int)⟩) := Lib.hid (re_is (far (HT6.out.row OR0.out HBW4.out HBOR0.out) HBOR0.out) (far (HT6.out.row OR1.out HBW4.out HBOR1.out) HBOR1.out) (far (HT6.out.row OR2.out HBW4.out HBOR2.out) HBOR2.out) (far (HT6.out.row OR3.out HBW4.out HBOR3.out) HBOR3.out) (far HT6.out.own HT6.out.lt) _ _ _ _)
                          clear hst hz hgr far
                          go_wp2_with (first | ((with_reducible refine wpl_id ?_); refine wpList_load (by rfl) 28 (.tmp 5) (by with_reducible rfl) _ _ (by rfl) HLD.out ?_) | ((with_reducible refine wpl_id ?_); refine wpList_store (by rfl) 28 (.tmp 2) (.tmp 171) (by with_reducible rfl) _ _ (by rfl) (by rfl) _ HST.out ?_; (iterate 8 (first | go_values | go_skip | go_guarded | go_step | go_upon | go_back)); refine bodyPost_ret (results_ct rfl rfl HLZ.out) rfl ?_; rw [HRes.out]; exact ⟨_, rfl, HFIV.out, HGG.out⟩))
                      · have HRes : Hid (R = (re0, fin)) := Lib.hid (by rw [← HRP.out]; unfold rreadP; rw [HPA.out]; simp only [HFIN.out, if_neg hf])
                        have hb : (fin != 0) = true := by simpa using hf
                        clear hf
                        go_wp2_with fail
                        refine (rend_any _ V4 g sc9 HT5.out.scan).mono ?_
                        rintro e9 V5 ⟨rfl, hv⟩
                        have hgv : Grew V4 V5 := by obtain ⟨nn, rfl⟩ := hv; exact grew_drewN _ _
                        have HT6 := Lib.hid (HT5.out.grew hgv)
                        rw [HFIN.out]
                        obtain ⟨V6, hst, hz, hgr⟩ := store9 (li_res HT6.out HRES4.out) rfl [.slice none 0 0, .slice none 0 0, .slice none 0 0, .slice none 0 0, .slice none 0 0, .int .i64 0, .int .i64 0, .int .i64 0, .int .i64 0] rfl (by simp [Value.oneCell'])
                        have HST := Lib.hid hst
                        have HLZ := Lib.hid (load9 hz rfl (by simp [Value.oneCell'])).2
                        have HGG : Hid (Grew w V6) := Lib.hid ((show Below w.heap.size w V5 from li_from HT6.out HGW4.out HN0.out).grown hgr (Nat.le_of_lt (by have := HT6.out.ltD; have := HT6.out.hD; have := HN0.out; omega)) (fun k hk => by cases hk; exact Nat.le_of_eq HN0.out))
                        clear hst hz hgr hv hgv
                        go_wp2_with ((with_reducible refine wpl_id ?_); refine wpList_store (by rfl) 28 (.tmp 2) (.tmp 164) (by with_reducible rfl) _ _ (by rfl) (by rfl) _ HST.out ?_; (iterate 8 (first | go_values | go_skip | go_guarded | go_step | go_upon | go_back)); refine bodyPost_ret (results_ct rfl rfl HLZ.out) rfl ?_; rw [HRes.out]; exact ⟨_, rfl, zero_is _, HGG.out⟩)
end Go.Proofs.YtmegdgeiikhflaaGreat.QB
namespace Go.Proofs.YtmegdgeiikhflaaGreat.QD
set_option maxRecDepth 100000
open Go Go.RowKit Go.Lib Go.Proofs.YtmegdgeiikhflaaGreat Go.Proofs.YtmegdgeiikhflaaGreat.Facts Go.Proofs.YtmegdgeiikhflaaGreat.Bytes Go.Proofs.YtmegdgeiikhflaaGreat.Plain Go.Proofs.YtmegdgeiikhflaaGreat.Ints Go.Proofs.YtmegdgeiikhflaaGreat.LBox Go.Proofs.YtmegdgeiikhflaaGreat.RRows Go.Proofs.YtmegdgeiikhflaaGreat.Puts Go.Proofs.YtmegdgeiikhflaaGreat.Scan Go.Proofs.YtmegdgeiikhflaaGreat.Take Go.Proofs.YtmegdgeiikhflaaGreat.Nums Go.Proofs.YtmegdgeiikhflaaGreat.Refs Go.Proofs.YtmegdgeiikhflaaGreat.Rscan Go.Proofs.YtmegdgeiikhflaaGreat.Rnums Go.Proofs.YtmegdgeiikhflaaGreat.CA Go.Proofs.YtmegdgeiikhflaaGreat.CB Go.Proofs.YtmegdgeiikhflaaGreat.CC Go.Proofs.YtmegdgeiikhflaaGreat.CD Go.Proofs.YtmegdgeiikhflaaGreat.CE Go.Proofs.YtmegdgeiikhflaaGreat.CF Go.Proofs.YtmegdgeiikhflaaGreat.EO Go.Proofs.YtmegdgeiikhflaaGreat.RRight Go.Proofs.YtmegdgeiikhflaaGreat.RCaps Go.Proofs.YtmegdgeiikhflaaGreat.BD Go.Proofs.YtmegdgeiikhflaaGreat.BE Go.Proofs.YtmegdgeiikhflaaGreat.RRule3 Go.Proofs.YtmegdgeiikhflaaGreat.RNames Go.Proofs.YtmegdgeiikhflaaGreat.QA Go.Proofs.YtmegdgeiikhflaaGreat.QC Go.Proofs.YtmegdgeiikhflaaGreat.LForm Go.Proofs.YtmegdgeiikhflaaGreat.LBytes Go.Proofs.YtmegdgeiikhflaaGreat.RRules Go.Proofs.YtmegdgeiikhflaaGreat.RAll

theorem take_st {s : Sc} (h : s.e ≠ 0) (n : Nat) : s.take n = ([], s) := by unfold Sc.take; rw [if_neg h]
theorem num_st {s : Sc} (h : s.e ≠ 0) (n : Nat) : s.num n = (0, s) := by unfold Sc.num; rw [take_st h]; rfl
theorem rule_st {s : Sc} (h : s.e ≠ 0) (b : Bool) (x : Int) : s.rule b x = s := by unfold Sc.rule; rw [if_neg (fun q => h q.2)]
theorem text_st {s : Sc} (h : s.e ≠ 0) (m : Int) : (s.text m).2 = s := by unfold Sc.text; rw [num_st h]; simp only; rw [rule_st h, take_st h]
theorem takeP_st (s : Sc) (h : s.e ≠ 0) : (takeP s).2 = s := by unfold takeP; rw [num_st h]
theorem oneG_st (s : Sc) (h : s.e ≠ 0) : (oneG s).2 = s := by unfold oneG; simp only; rw [takeP_st s h, takeP_st s h]
theorem oneQ_st (s : Sc) (h : s.e ≠ 0) : (oneQ s).2 = s := by unfold oneQ; simp only [takeP_st s h]; rw [num_st h]
theorem oneA_st (s : Sc) (h : s.e ≠ 0) : (oneA s).2 = s := by unfold oneA; simp only [text_st h, takeP_st s h]; rw [rule_st h]
theorem oneL_st (s : Sc) (h : s.e ≠ 0) : (oneL s).2 = s := by unfold oneL; rw [take_st h]
theorem rL_st (s : Sc) (h : s.e ≠ 0) : (rL s).2 = s := by unfold rL; simp only; rw [num_st h]; simp only; rw [num_st h]
section
variable {T : Type} {one : Sc → T × Sc}
theorem goF_st (hst : ∀ s, s.e ≠ 0 → (one s).2 = s) : ∀ (f : Nat) (acc : List T) (s : Sc), s.e ≠ 0 → (goF one f acc s).2 = s
  | 0, acc, s, _ => rfl
  | f + 1, acc, s, h => by unfold goF; rw [hst s h]; exact goF_st hst f _ s h
theorem goA_st : ∀ (f : Nat) (acc : List T) (s : Sc), s.e ≠ 0 → goA one f acc s = (acc, s)
  | 0, acc, s, _ => rfl
  | f + 1, acc, s, h => by unfold goA; rw [if_neg h]
theorem goF_goA (hst : ∀ s, s.e ≠ 0 → (one s).2 = s) : ∀ (f : Nat) (acc : List T) (s : Sc), (goF one f acc s).2 = (goA one f acc s).2 ∧ ((goF one f acc s).2.e = 0 → goF one f acc s = goA one f acc s)
  | 0, acc, s => ⟨rfl, fun _ => rfl⟩
  | f + 1, acc, s => by
    by_cases h : s.e = 0
    · have := goF_goA hst f (acc ++ [(one s).1]) (one s).2
      unfold goF goA
      rw [if_pos h]
      exact this
    · rw [goA_st _ _ s h]
      have := goF_st hst (f + 1) acc s h
      exact ⟨this, fun q => absurd (by rw [this] at q; exact q) h⟩
theorem rall_all (hst : ∀ s, s.e ≠ 0 → (one s).2 = s) (s : Sc) : (rallP one s).2 = (allP one s).2 ∧ ((rallP one s).2.e = 0 → rallP one s = allP one s) := by
  unfold rallP allP manyP
  simp only
  rw [show width 1 = 1 from rfl]
  generalize (s.num 1).2.rule (decide (((s.num 1).1 : Int) ≤ 8)) 2 = u
  by_cases h : u.e = 0
  · rw [if_pos h, Int.toNat_natCast]
    exact goF_goA hst _ _ _
  · rw [if_neg h, goA_st _ _ u h]
    exact ⟨rfl, fun _ => rfl⟩
end
/-- A label that is the same, or may not be, either. -/
def rel (x y : La) : Prop := x = y ∨ (may x.lev = false ∧ may y.lev = false)
theorem valB (t : List UInt8) : ∀ n : Nat, t.foldl LForm.step (BitVec.ofNat 64 n) = BitVec.ofNat 64 (t.foldl (fun n x => n * 256 + x.toNat) n) := by
  induction t with
  | nil => intro n; rfl
  | cons b t ih =>
    intro n
    have hb := b.toNat_lt
    have e : LForm.step (BitVec.ofNat 64 n) b = BitVec.ofNat 64 (n * 256 + b.toNat) := by
      have h := Nat.shiftLeft_add_eq_or_of_lt (show b.toNat < 2 ^ 8 by omega) n
      rw [Nat.shiftLeft_eq, show (2 : Nat) ^ 8 = 256 from rfl] at h
      rw [h]
      apply BitVec.eq_of_toNat_eq
      unfold LForm.step
      simp only [BitVec.toNat_or, BitVec.toNat_shiftLeft, BitVec.toNat_ofNat, Nat.shiftLeft_eq, Nat.or_mod_two_pow]
      congr 1
      omega
    rw [List.foldl_cons, List.foldl_cons, e, ih]
theorem val_sc (t : List UInt8) : LForm.val t = BitVec.ofNat 64 (Sc.val t) := valB t 0
theorem lab_long (s : Sc) (h : s.e = 0) (hl : 9 ≤ s.l.length) : (rL s).2 = (oneL s).2 ∧ rel (rL s).1 (oneL s).1 := by
  obtain ⟨l, e⟩ := s
  simp only at h hl
  subst h
  match l, hl with
  | a :: l, hl =>
    simp only [List.length_cons] at hl
    have e1 : (Sc.num ⟨a :: l, 0⟩ 1) = (a.toNat, ⟨l, 0⟩) := by simp [Sc.num, Sc.take, Sc.val]
    have e2 : (Sc.num ⟨l, 0⟩ 8) = (Sc.val (l.take 8), ⟨l.drop 8, 0⟩) := by simp [Sc.num, Sc.take, show 8 ≤ l.length by omega]
    have e3 : (Sc.take ⟨a :: l, 0⟩ 9) = (a :: l.take 8, ⟨l.drop 8, 0⟩) := by simp [Sc.take, show 8 ≤ l.length by omega]
    have hlen : (a :: l.take 8).length = 9 := by simp; omega
    unfold rL oneL rdE rdV rdC rdOk
    rw [e1, e2, e3]
    simp only [hlen, decide_true, Bool.true_and, List.headD_cons, List.tail_cons]
    cases hm : may (a.toNat : Int) with
    | true => simp [val_sc, rel]
    | false =>
      refine ⟨by first | rfl | trivial, .inr ⟨hm, ?_⟩⟩
      simp
      decide
theorem lab_short (s : Sc) (h : s.e = 0) (hl : s.l.length < 9) : (rL s).2.e = 12 ∧ (oneL s).2.e = 12 := by
  obtain ⟨l, e⟩ := s
  simp only at h hl
  subst h
  constructor
  · unfold rL
    match l, hl with
    | [], _ => simp [Sc.num, Sc.take]
    | a :: l, hl =>
      simp only [List.length_cons] at hl
      have e1 : (Sc.num ⟨a :: l, 0⟩ 1) = (a.toNat, ⟨l, 0⟩) := by simp [Sc.num, Sc.take, Sc.val]
      rw [e1]
      simp [Sc.num, Sc.take, show ¬ 8 ≤ l.length by omega]
  · unfold oneL
    simp [Sc.take, show ¬ 9 ≤ l.length by omega]
inductive rels : List La → List La → Prop
  | nil : rels [] []
  | snoc {X Y : List La} {x y : La} : rels X Y → rel x y → rels (X ++ [x]) (Y ++ [y])
theorem labs : ∀ (f : Nat) (X Y : List La) (s : Sc), rels X Y → (goF rL f X s).2.e = (goA oneL f Y s).2.e ∧ ((goF rL f X s).2.e = 0 → (goF rL f X s).2 = (goA oneL f Y s).2 ∧ rels (goF rL f X s).1 (goA oneL f Y s).1)
  | 0, X, Y, s, h => ⟨rfl, fun _ => ⟨rfl, h⟩⟩
  | f + 1, X, Y, s, h => by
    by_cases he : s.e = 0
    · unfold goF goA
      rw [if_pos he]
      by_cases hl : 9 ≤ s.l.length
      · obtain ⟨q1, q2⟩ := lab_long s he hl
        rw [q1]
        exact labs f _ _ _ (.snoc h q2)
      · obtain ⟨q1, q2⟩ := lab_short s he (by omega)
        have a1 := goF_st rL_st f (X ++ [(rL s).1]) (rL s).2 (by omega)
        have a2 := goA_st (one := oneL) f (Y ++ [(oneL s).1]) (oneL s).2 (by omega)
        rw [a1, a2]
        exact ⟨by rw [q1, q2], fun q => by omega⟩
    · have a1 := goF_st rL_st (f + 1) X s he
      have a2 := goA_st (one := oneL) (f + 1) Y s he
      rw [a1, a2]
      exact ⟨rfl, fun q => absurd q he⟩
theorem rels_all {X Y : List La} (h : rels X Y) : X.length = Y.length ∧ (X = Y ∨ (X.all (fun x => may x.lev) = false ∧ Y.all (fun x => may x.lev) = false)) := by
  induction h with
  | nil => exact ⟨rfl, .inl rfl⟩
  | snoc h hr ih =>
    obtain ⟨q1, q2⟩ := ih
    refine ⟨by simp [q1], ?_⟩
    rcases hr with rfl | ⟨h1, h2⟩
    · rcases q2 with rfl | ⟨h1, h2⟩
      · exact .inl rfl
      · exact .inr ⟨by rw [List.all_append, h1]; rfl, by rw [List.all_append, h2]; rfl⟩
    · exact .inr ⟨by rw [List.all_append]; simp [h1], by rw [List.all_append]; simp [h2]⟩
theorem rlab_all (s : Sc) : (rallP rL s).2.e = (allP oneL s).2.e ∧ ((rallP rL s).2.e = 0 → (rallP rL s).2 = (allP oneL s).2 ∧ rels (rallP rL s).1 (allP oneL s).1) := by
  unfold rallP allP manyP
  simp only
  rw [show width 1 = 1 from rfl]
  generalize (s.num 1).2.rule (decide (((s.num 1).1 : Int) ≤ 8)) 2 = u
  by_cases h : u.e = 0
  · rw [if_pos h, Int.toNat_natCast]
    exact labs _ _ _ _ .nil
  · rw [if_neg h, goA_st _ _ u h]
    exact ⟨rfl, fun q => absurd q h⟩
theorem allP_st {T : Type} {one : Sc → T × Sc} {s : Sc} (h : s.e ≠ 0) : (allP one s).2 = s := by
  unfold allP
  rw [num_st h]
  simp only
  rw [rule_st h]
  rfl
theorem rallP_st {T : Type} {one : Sc → T × Sc} {s : Sc} (h : s.e ≠ 0) : (rallP one s).2 = s := by
  unfold rallP manyP
  simp only
  rw [num_st h]
  simp only
  rw [rule_st h, if_neg h]
  rfl
theorem goN_F : ∀ (f : Nat) (acc : List Qu) (s : Sc), goN f acc s = goF oneQ f acc s
  | 0, _, _ => rfl
  | f + 1, acc, s => by unfold goN goF; exact goN_F f _ _
theorem fin_st {s : Sc} (h : s.e ≠ 0) : s.fin = s.e := by unfold Sc.fin Sc.left; rw [if_neg h]; rfl
/-- Whatever stands behind a fault, the fault is the answer. -/
theorem tail_st (k : Nat) {s : Sc} (h : s.e ≠ 0) (acc : List Qu) : (takeP (takeP (takeP (takeP (goF oneQ k acc s).2).2).2).2).2 = s := by
  rw [goF_st oneQ_st k acc s h, takeP_st s h, takeP_st s h, takeP_st s h, takeP_st s h]
theorem bad_may {A _B : List La} {x : Re} (hx : x.labels = A) (h : A.all (fun x => may x.lev) = false) : mayBe x = false := by
  unfold mayBe rule1
  rw [hx, h]
  simp
def tF (s : Sc) (k : Nat) : Sc := (takeP (takeP (takeP (takeP (goF oneQ k [] (rallP oneG (rallP oneA (rallP takeP s).2).2).2).2).2).2).2).2
def tG (s : Sc) (k : Nat) : Sc := (takeP (takeP (takeP (takeP (goN k [] (allP oneG (allP oneA (allP takeP s).2).2).2).2).2).2).2).2
theorem tFG (s : Sc) (k : Nat) : tF s k = tG s k := by
  unfold tF tG
  rw [(rall_all takeP_st s).1, (rall_all oneA_st _).1, (rall_all oneG_st _).1, goN_F]
theorem tF_st {s : Sc} (h : s.e ≠ 0) (k : Nat) : tF s k = s := by
  unfold tF
  rw [rallP_st h, rallP_st h, rallP_st h, tail_st k h []]
theorem fin0 {s : Sc} (h : s.fin = 0) : s.e = 0 := by
  unfold Sc.fin at h
  split at h
  · omega
  · exact h
theorem mid_ok {s : Sc} {k : Nat} (h : (tF s k).e = 0) : (rallP takeP s).2.e = 0 ∧ (rallP oneA (rallP takeP s).2).2.e = 0 ∧ (rallP oneG (rallP oneA (rallP takeP s).2).2).2.e = 0 := by
  have h3 : (rallP oneG (rallP oneA (rallP takeP s).2).2).2.e = 0 := Decidable.byContradiction fun q => by
    unfold tF at h
    rw [tail_st k q []] at h
    exact q h
  have h2 : (rallP oneA (rallP takeP s).2).2.e = 0 := Decidable.byContradiction fun q => by
    rw [rallP_st q] at h3
    exact q h3
  have h1 : (rallP takeP s).2.e = 0 := Decidable.byContradiction fun q => by
    rw [rallP_st q] at h2
    exact q h2
  exact ⟨h1, h2, h3⟩
theorem reads_same (l : List UInt8) : rreadP l = readP l := by
  have e1 : (rpartsP l).2 = tF (rallP rL ⟨l, 0⟩).2 (rallP rL ⟨l, 0⟩).1.length := rfl
  have e2 : (partsP l).2 = tG (allP oneL ⟨l, 0⟩).2 (allP oneL ⟨l, 0⟩).1.length := rfl
  obtain ⟨ea, fa⟩ := rlab_all ⟨l, 0⟩
  by_cases ha : (rallP rL ⟨l, 0⟩).2.e = 0
  · obtain ⟨sa, rl⟩ := fa ha
    obtain ⟨hlen, hla⟩ := rels_all rl
    have es : (rpartsP l).2 = (partsP l).2 := by rw [e1, e2, tFG, sa, hlen]
    unfold rreadP readP
    rw [es]
    by_cases hf : (partsP l).2.fin = 0
    · rw [if_pos hf, if_pos hf]
      have he := fin0 hf
      rw [← es, e1] at he
      obtain ⟨h1, h2, h3⟩ := mid_ok he
      rw [sa] at h1 h2 h3
      have t1 := (rall_all takeP_st (allP oneL ⟨l, 0⟩).2).2 h1
      rw [t1] at h2 h3
      have t2 := (rall_all oneA_st _).2 h2
      rw [t2] at h3
      have t3 := (rall_all oneG_st _).2 h3
      rcases hla with hq | ⟨b1, b2⟩
      · have hp : (rpartsP l).1 = (partsP l).1 := by
          have hr : rallP rL ⟨l, 0⟩ = allP oneL ⟨l, 0⟩ := Prod.ext hq sa
          unfold rpartsP partsP
          simp only [hr, t1, t2, t3, goN_F]
        rw [hp]
      · rw [bad_may (A := (rallP rL ⟨l, 0⟩).1) (_B := []) (x := (rpartsP l).1) rfl b1, bad_may (A := (allP oneL ⟨l, 0⟩).1) (_B := []) (x := (partsP l).1) rfl b2]
        rfl
    · rw [if_neg hf, if_neg hf]
  · have hb : (allP oneL ⟨l, 0⟩).2.e ≠ 0 := by rw [← ea]; exact ha
    have s1 : (rpartsP l).2 = (rallP rL ⟨l, 0⟩).2 := by rw [e1, tF_st ha]
    have s2 : (partsP l).2 = (allP oneL ⟨l, 0⟩).2 := by rw [e2, ← tFG, tF_st hb]
    have q1 := fin_st ha
    have q2 := fin_st hb
    unfold rreadP readP
    rw [s1, s2, q1, q2, if_neg ha, if_neg hb, ea]
end Go.Proofs.YtmegdgeiikhflaaGreat.QD
