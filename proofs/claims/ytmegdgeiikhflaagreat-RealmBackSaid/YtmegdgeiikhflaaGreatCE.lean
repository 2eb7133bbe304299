/-
  Where Read stands: the scan, the realm under way, the rows; and its drawn region.
  Conditions: those that each lemma names.
-/
import Derived.Test.YtmegdgeiikhflaaGreatCC
import Derived.Test.YtmegdgeiikhflaaGreatMarks
namespace Go.Proofs.YtmegdgeiikhflaaGreat.CD
set_option maxRecDepth 100000
open Go Go.RowKit Go.Lib Go.Proofs.YtmegdgeiikhflaaGreat Go.Proofs.YtmegdgeiikhflaaGreat.Facts Go.Proofs.YtmegdgeiikhflaaGreat.Bytes Go.Proofs.YtmegdgeiikhflaaGreat.Plain Go.Proofs.YtmegdgeiikhflaaGreat.Ints Go.Proofs.YtmegdgeiikhflaaGreat.LBox Go.Proofs.YtmegdgeiikhflaaGreat.RRows Go.Proofs.YtmegdgeiikhflaaGreat.Puts Go.Proofs.YtmegdgeiikhflaaGreat.Scan Go.Proofs.YtmegdgeiikhflaaGreat.Take Go.Proofs.YtmegdgeiikhflaaGreat.Nums Go.Proofs.YtmegdgeiikhflaaGreat.BA Go.Proofs.YtmegdgeiikhflaaGreat.BB Go.Proofs.YtmegdgeiikhflaaGreat.BC Go.Proofs.YtmegdgeiikhflaaGreat.BD Go.Proofs.YtmegdgeiikhflaaGreat.CA Go.Proofs.YtmegdgeiikhflaaGreat.CB Go.Proofs.YtmegdgeiikhflaaGreat.CC Go.Proofs.YtmegdgeiikhflaaGreat.RSmall Go.Proofs.YtmegdgeiikhflaaGreat.RRules Go.Proofs.YtmegdgeiikhflaaGreat.RRule3 Go.Proofs.YtmegdgeiikhflaaGreat.RRight


theorem blk_ge {w : World} {lo hi : Nat} {p : Value} {s : Sc} (h : SC w lo hi p s) (b : Nat) (hb : blk p = some b) : lo ≤ b := by
  rcases h with ⟨g, rfl, h⟩ | ⟨rfl | ⟨g, v, x, rfl, h1, h2, h3, hg⟩, rfl⟩
  · cases hb; exact h.1
  · cases hb
  · cases hb; exact h1
/-- A scan of these bytes. -/
theorem from_any (S : Nat → Prop) (v : Value) (l : List UInt8) (w : World) (h : Rd S w v l) (hl : l.length ≤ 140737488355328) :
    Calls Tryz.prog 66 #[v] w fun e w' => ∃ p, e = .returned p ∧ SC w' w.heap.size w'.heap.size p ⟨l, 0⟩ ∧ Grew w w' := by
  have H := Lib.hid h
  clear h
  go_enter Tryz.func66, Tryz.ntmps66
  go_wp2_with fail
  refine (clone_any S v l _ H.out hl).mono ?_
  rintro e w1 ⟨v1, rfl, hr, hg⟩
  obtain ⟨A, c, rfl, q⟩ := id hr
  have HR := Lib.hid hr
  have HG := Lib.hid hg
  clear hr hg q
  go_wp2
  go_ret
  refine ⟨_, rfl, .inl ⟨w1.heap.size, rfl, HG.out.size, by simp, Nat.le_refl _, _, heap_alloc_new _ _, ?_⟩, HG.out.trans ((Below.refl _ _).alloc (Nat.le_refl _) _)⟩
  refine (HR.out.lt.grew ((Below.refl _ _).alloc (Nat.le_refl _) _)).mono fun b hb => ⟨hb.1, ?_, by omega⟩
  have := hb.2
  simp
  omega

/-- Nothing below b5 changes but the scan and block D. -/
structure Kp (b5 : Nat) (p : Value) (D : Nat) (a b : World) : Prop where
  os : b.os = a.os
  tape : b.tape = a.tape
  output : b.output = a.output
  size : a.heap.size ≤ b.heap.size
  block : ∀ k, k < b5 → k ≠ D → blk p ≠ some k → b.heap[k]? = a.heap[k]?
theorem Kp.refl (b5 : Nat) (p : Value) (D : Nat) (a : World) : Kp b5 p D a a := ⟨rfl, rfl, rfl, Nat.le_refl _, fun _ _ _ _ => rfl⟩
theorem Kp.trans {b5 : Nat} {p : Value} {D : Nat} {a b c : World} (h : Kp b5 p D a b) (k : Kp b5 p D b c) : Kp b5 p D a c :=
  ⟨k.os.trans h.os, k.tape.trans h.tape, k.output.trans h.output, Nat.le_trans h.size k.size, fun i h1 h2 h3 => (k.block i h1 h2 h3).trans (h.block i h1 h2 h3)⟩
theorem Kp.chg {b5 : Nat} {p : Value} {D : Nat} {a b : World} (h : Chg p a b) (hb : b5 ≤ a.heap.size) : Kp b5 p D a b :=
  ⟨h.os, h.tape, h.output, h.size, fun k h1 _ h3 => h.block k (by omega) (Ne.symm h3)⟩
theorem Kp.below {b5 : Nat} {p : Value} {D : Nat} {a b : World} (h : Below b5 a b) : Kp b5 p D a b :=
  ⟨h.os, h.tape, h.output, h.size, fun k h1 _ _ => h.block k h1⟩
theorem Kp.set {b5 : Nat} {p : Value} {D : Nat} (a : World) (i : Nat) (x : Value) : Kp b5 p D a (a.setCell ⟨D, i, none⟩ x) :=
  ⟨rfl, rfl, rfl, by simp [World.setCell], fun k _ h2 _ => heap_setCell_other a ⟨D, i, none⟩ k x (by intro e; simp only at e; omega)⟩
theorem Kp.grew {b5 D : Nat} {p : Value} {w a b : World} (h : Kp b5 p D a b) (hg : Grew w a) (h5 : w.heap.size ≤ b5) (hD : w.heap.size ≤ D) (hp : ∀ k, blk p = some k → w.heap.size ≤ k) : Grew w b :=
  ⟨h.os.trans hg.os, h.tape.trans hg.tape, h.output.trans hg.output, Nat.le_trans hg.size h.size, fun k hk => (h.block k (by omega) (by omega) (fun e => by have := hp k e; omega)).trans (hg.block k hk)⟩
theorem Kp.row {b5 D base t n c : Nat} {p v : Value} {a b : World} {xs : List Value} (h : Kp b5 p D a b) (ho : a.ownsRow base t n v c xs) (h5 : a.heap.size ≤ b5) (hD : D < base) (hp : ∀ k, blk p = some k → k < base) : b.ownsRow base t n v c xs := by
  refine ⟨ho.1, ho.2.imp id fun ⟨g, cap, cur, h1, h2, h3, h4⟩ => ⟨g, cap, cur, h1, h2, ?_, h4⟩⟩
  have hlt := (Array.getElem?_eq_some_iff.1 h3).1
  exact (h.block g (by omega) (by omega) (fun e => by have := hp g e; omega)).trans h3
theorem own_set {W : World} {base t n c D i : Nat} {v x : Value} {xs : List Value} (ho : W.ownsRow base t n v c xs) (hD : D < base) : (W.setCell ⟨D, i, none⟩ x).ownsRow base t n v c xs := by
  refine ⟨ho.1, ho.2.imp id fun ⟨g, cap, cur, h1, h2, h3, h4⟩ => ⟨g, cap, cur, h1, h2, ?_, h4⟩⟩
  exact (heap_setCell_other W ⟨D, i, none⟩ g x (by intro e; simp only at e; omega)).trans h3
theorem oneQ_le (s : Sc) : (oneQ s).2.l.length ≤ s.l.length := by
  unfold oneQ
  exact Nat.le_trans (num_le _ _) (Nat.le_trans (takeP_le _) (Nat.le_trans (takeP_le _) (Nat.le_trans (takeP_le _) (Nat.le_trans (takeP_le _) (takeP_le _)))))
def goN : Nat → List Qu → Sc → List Qu × Sc
  | 0, acc, s => (acc, s)
  | f + 1, acc, s => goN f (acc ++ [(oneQ s).1]) (oneQ s).2
theorem goA_len {T : Type} (one : Sc → T × Sc) : ∀ (f : Nat) (acc : List T) (s : Sc), (goA one f acc s).1.length ≤ acc.length + f
  | 0, acc, s => Nat.le_refl _
  | f + 1, acc, s => by
    unfold goA
    split
    · have := goA_len one f (acc ++ [(one s).1]) (one s).2
      rw [List.length_append] at this
      simp only [List.length_cons, List.length_nil] at this
      omega
    · simp
theorem allP_len {T : Type} (one : Sc → T × Sc) (s : Sc) : (allP one s).1.length < 256 := by
  have := goA_len one (s.num 1).1 [] ((s.num 1).2.rule (decide (((s.num 1).1 : Int) ≤ 8)) 2)
  have h2 := num1_lt s
  unfold allP
  simp only [List.length_nil] at this
  omega
theorem goA_le {T : Type} (one : Sc → T × Sc) (h1 : ∀ s, (one s).2.l.length ≤ s.l.length) : ∀ (f : Nat) (acc : List T) (s : Sc), (goA one f acc s).2.l.length ≤ s.l.length
  | 0, acc, s => Nat.le_refl _
  | f + 1, acc, s => by
    unfold goA
    split
    · exact Nat.le_trans (goA_le one h1 f _ _) (h1 s)
    · exact Nat.le_refl _
theorem allP_le {T : Type} (one : Sc → T × Sc) (h1 : ∀ s, (one s).2.l.length ≤ s.l.length) (s : Sc) : (allP one s).2.l.length ≤ s.l.length :=
  Nat.le_trans (goA_le one h1 _ _ _) (Nat.le_trans (rule_le _ _ _) (num_le _ _))
theorem goA_mem {T : Type} (one : Sc → T × Sc) (P : T → Prop) (n : Nat) (h1 : ∀ s, (one s).2.l.length ≤ s.l.length) (hP : ∀ s, s.l.length ≤ n → P (one s).1) :
    ∀ (f : Nat) (acc : List T) (s : Sc), (∀ x ∈ acc, P x) → s.l.length ≤ n → ∀ x ∈ (goA one f acc s).1, P x
  | 0, acc, s, ha, _ => ha
  | f + 1, acc, s, ha, hs => by
    unfold goA
    split
    · refine goA_mem one P n h1 hP f _ _ (fun x hx => ?_) (Nat.le_trans (h1 s) hs)
      rcases List.mem_append.1 hx with h | h
      · exact ha x h
      · simp only [List.mem_singleton] at h
        subst h
        exact hP s hs
    · exact ha
theorem goN_le : ∀ (f : Nat) (acc : List Qu) (s : Sc), (goN f acc s).2.l.length ≤ s.l.length
  | 0, _, _ => Nat.le_refl _
  | f + 1, _, s => Nat.le_trans (goN_le f _ _) (oneQ_le s)
def re0 : Re := ⟨[], [], [], [], [], 0, 0, 0, 0⟩
/-- A realm's parts, taken. -/
def partsP (l : List UInt8) : Re × Sc :=
  let a := allP oneL ⟨l, 0⟩
  let b := allP takeP a.2
  let c := allP oneA b.2
  let d := allP oneG c.2
  let q := goN a.1.length [] d.2
  let o := takeP q.2
  let u := takeP o.2
  let t := takeP u.2
  let n := takeP t.2
  (⟨a.1, b.1, c.1, d.1, q.1, o.1, u.1, t.1, n.1⟩, n.2)
def readP (l : List UInt8) : Re × Int :=
  if (partsP l).2.fin = 0 then (if mayBe (partsP l).1 = true then ((partsP l).1, 0) else (re0, 2)) else (re0, (partsP l).2.fin)
theorem take1_le (s : Sc) (n : Nat) : (s.take n).1.length ≤ s.l.length := by
  unfold Sc.take
  split
  · split
    · simp only [List.length_take]; omega
    · simp
  · simp
theorem text_size (s : Sc) (m : Int) : (s.text m).1.length ≤ s.l.length := by
  unfold Sc.text
  exact Nat.le_trans (take1_le _ _) (Nat.le_trans (rule_le _ _ _) (num_le _ _))
theorem parts_sized (l : List UInt8) (hl : l.length ≤ 140737488355328) : Sized (partsP l).1 := by
  have hs : ∀ s : Sc, s.l.length ≤ 140737488355328 → (oneA s).1.name.size ≤ 9223372036854775807 ∧ (oneA s).1.secret.size ≤ 9223372036854775807 := by
    intro s hs
    have h1 := text_size s 12
    have h2 := text_size (s.text 12).2 12
    have h3 := text_le s 12
    have e1 : (oneA s).1.name.size = (s.text 12).1.length := by simp [oneA, ByteArray.size]
    have e2 : (oneA s).1.secret.size = ((s.text 12).2.text 12).1.length := by simp [oneA, ByteArray.size]
    omega
  have hb : (allP takeP (allP oneL ⟨l, 0⟩).2).2.l.length ≤ 140737488355328 := Nat.le_trans (allP_le takeP takeP_le _) (Nat.le_trans (allP_le oneL oneL_le _) hl)
  exact goA_mem oneA _ 140737488355328 oneA_le hs _ [] _ (fun x hx => by cases hx) (Nat.le_trans (rule_le _ _ _) (Nat.le_trans (num_le _ _) hb))

theorem info100 : (Tryz.prog.info? 100).map (fun i => (i.zero, i.size, i.bytes)) = some (some (.agg #[.int .i64 0, .int .i64 0, .int .i64 0, .int .i64 0, .int .i64 0, .int .u64 0]), 6, 48) := by kernel_rfl
def OwnQ (w : World) (base : Nat) (v : Value) (l : List Qu) : Prop := w.ownsRow base 100 6 v l.length (l.flatMap qcs)
theorem appQ (W : World) (base : Nat) (v : Value) (l : List Qu) (x : Qu) (hown : OwnQ W base v l) (hl : l.length ≤ 1000) (hb : base ≤ W.heap.size) :
    ∃ v' w', (Builtin.append_ #[26, 26] 26 #[v, .slice (some ⟨W.heap.size, 0, none⟩) 1 1]).run Tryz.prog (W.alloc (.cells #[.int .i64 x.rooms, .int .i64 x.exits, .int .i64 x.items, .int .i64 x.mails, .int .i64 x.trades, .int .u64 (x.cap.toNat : Int)] 100)) = .ok v' w' ∧ OwnQ w' base v' (l ++ [x]) ∧ Below base W w' := by
  obtain ⟨i0, hi, hx⟩ := Option.map_eq_some_iff.1 info100
  simp only [Prod.mk.injEq] at hx
  obtain ⟨hz0, hz1, hz2⟩ := hx
  have ho := World.ownsRow.alloc (show W.ownsRow base 100 6 v l.length (l.flatMap qcs) from hown) (.cells #[.int .i64 x.rooms, .int .i64 x.exits, .int .i64 x.items, .int .i64 x.mails, .int .i64 x.trades, .int .u64 (x.cap.toNat : Int)] 100)
  have hsz : (W.alloc (.cells #[.int .i64 x.rooms, .int .i64 x.exits, .int .i64 x.items, .int .i64 x.mails, .int .i64 x.trades, .int .u64 (x.cap.toNat : Int)] 100)).heap.size = W.heap.size + 1 := by simp
  obtain ⟨v', w', hr, h5, h6, _⟩ := run_append_own (P := Tryz.prog) (W.alloc (.cells #[.int .i64 x.rooms, .int .i64 x.exits, .int .i64 x.items, .int .i64 x.mails, .int .i64 x.trades, .int .u64 (x.cap.toNat : Int)] 100)) base 26 26 100 i0 (.agg #[.int .i64 0, .int .i64 0, .int .i64 0, .int .i64 0, .int .i64 0, .int .u64 0]) 6 48 Tryz.underlying26 hi hz0 hz1 hz2 rfl (by decide) v l.length (l.flatMap qcs) ho ⟨W.heap.size, 0, none⟩ 1 1 [.int .i64 x.rooms, .int .i64 x.exits, .int .i64 x.items, .int .i64 x.mails, .int .i64 x.trades, .int .u64 (x.cap.toNat : Int)] rfl (row_at rfl)
    (fun u hu => by
      simp only [List.mem_cons, List.not_mem_nil, or_false] at hu
      rcases hu with rfl | rfl | rfl | rfl | rfl | rfl <;> rfl) (by unfold maxLen; omega) (by omega) (by rw [hsz]; omega)
  have hbl : Below base _ w' := below_rows ho h6 (by rw [hsz]; omega)
  exact ⟨v', w', hr, by unfold OwnQ; rw [List.length_append, List.flatMap_append]; exact h5, ((Below.refl _ _).alloc hb _).trans hbl⟩
end Go.Proofs.YtmegdgeiikhflaaGreat.CD

namespace Go.Proofs.YtmegdgeiikhflaaGreat.CE
set_option maxRecDepth 100000
open Go Go.RowKit Go.Lib Go.Proofs.YtmegdgeiikhflaaGreat Go.Proofs.YtmegdgeiikhflaaGreat.Facts Go.Proofs.YtmegdgeiikhflaaGreat.Bytes Go.Proofs.YtmegdgeiikhflaaGreat.Plain Go.Proofs.YtmegdgeiikhflaaGreat.Ints Go.Proofs.YtmegdgeiikhflaaGreat.LBox Go.Proofs.YtmegdgeiikhflaaGreat.RRows Go.Proofs.YtmegdgeiikhflaaGreat.Puts Go.Proofs.YtmegdgeiikhflaaGreat.Scan Go.Proofs.YtmegdgeiikhflaaGreat.Take Go.Proofs.YtmegdgeiikhflaaGreat.Nums Go.Proofs.YtmegdgeiikhflaaGreat.BA Go.Proofs.YtmegdgeiikhflaaGreat.BB Go.Proofs.YtmegdgeiikhflaaGreat.BC Go.Proofs.YtmegdgeiikhflaaGreat.BD Go.Proofs.YtmegdgeiikhflaaGreat.CA Go.Proofs.YtmegdgeiikhflaaGreat.CB Go.Proofs.YtmegdgeiikhflaaGreat.CC Go.Proofs.YtmegdgeiikhflaaGreat.CD Go.Proofs.YtmegdgeiikhflaaGreat.RSmall Go.Proofs.YtmegdgeiikhflaaGreat.RRules Go.Proofs.YtmegdgeiikhflaaGreat.RRule3 Go.Proofs.YtmegdgeiikhflaaGreat.RRight


theorem one_app {P : Program} {ops : Array Oper} {o : Oper} {ac : Act} {w : World} {R : World → World → Prop} {J' : Value → World → Prop} {g : Value → World → Prop}
    (hgd : o.guard = none) (s x : Operand) (t : TypeId) (ho : o.op = .call { callee := .builtin .append, args := #[s, x], argTypes := #[t, t] }) (vs vx : Value) (hs : ac.eval s = vs) (hx : ac.eval x = vx) (v' : Value) (w' : World)
    (hr : (Builtin.append_ #[t, t] o.type #[vs, vx]).run P w = .ok v' w') (h : R w w' ∧ J' v' w' ∧ g v' w') : Marks.one P ops o ac w R J' g := by
  unfold Marks.one
  rw [if_pos (by unfold Region.wanted; rw [hgd])]
  unfold execOp
  simp only [ho, resolve, invoke, builtin, Sem.run_bind, Sem.run_pure, Result.andThen_ok, List.map_toArray, List.map_cons, List.map_nil, hs, hx, hr]
  exact h

/-- Where Read stands. -/
structure St (w : World) (p : Value) (D : Nat) (s : Sc) (xs : Array Value) (W : World) : Prop where
  grew : Grew w W
  res : W.heap[w.heap.size]? = some (.cells #[.slice none 0 0, .slice none 0 0, .slice none 0 0, .slice none 0 0, .slice none 0 0, .int .i64 0, .int .i64 0, .int .i64 0, .int .i64 0] 28 (0, 0))
  box : W.heap[D]? = some (.cells xs 28 (0, 0))
  scan : SC W (w.heap.size + 1) D p s
theorem St.lt {w W : World} {p : Value} {D : Nat} {s : Sc} {xs : Array Value} (h : St w p D s xs W) : w.heap.size < W.heap.size := (Array.getElem?_eq_some_iff.1 h.res).1
theorem St.ltD {w W : World} {p : Value} {D : Nat} {s : Sc} {xs : Array Value} (h : St w p D s xs W) : D < W.heap.size := (Array.getElem?_eq_some_iff.1 h.box).1
theorem St.kp {w W W' : World} {p : Value} {D b5 : Nat} {s s' : Sc} {xs xs' : Array Value} (h : St w p D s xs W) (hk : Kp b5 p D W W') (h5 : w.heap.size < b5) (hD : w.heap.size < D)
    (hb : W'.heap[D]? = some (.cells xs' 28 (0, 0))) (hs : SC W' (w.heap.size + 1) D p s') : St w p D s' xs' W' :=
  ⟨hk.grew h.grew (by omega) (by omega) (fun k e => by have := blk_ge h.scan k e; omega), (hk.block _ h5 (by omega) (fun e => by have := blk_ge h.scan _ e; omega)).trans h.res, hb, hs⟩
theorem St.chg {w W W' : World} {p : Value} {D : Nat} {s s' : Sc} {xs : Array Value} (h : St w p D s xs W) (hc : Chg p W W') (hD : w.heap.size < D) (hs : SC W' (w.heap.size + 1) D p s') : St w p D s' xs W' :=
  h.kp (Kp.chg hc (Nat.le_refl _)) h.lt hD (keepC h.scan (Nat.le_refl _) h.box hc) hs
theorem St.set {w W : World} {p : Value} {D : Nat} {s : Sc} {xs : Array Value} (h : St w p D s xs W) (hD : w.heap.size < D) (i : Nat) (x : Value) : St w p D s (xs.setIfInBounds i x) (W.setCell ⟨D, i, none⟩ x) :=
  h.kp (Kp.set W i x) h.lt hD (by rw [heap_setCell_same _ _ _ _ _ _ h.box]) (SC.set h.scan (Nat.le_refl _))
theorem St.below {w W W' : World} {p : Value} {D b5 : Nat} {s : Sc} {xs : Array Value} (h : St w p D s xs W) (hb : Below b5 W W') (hD5 : D < b5) (hD : w.heap.size < D) : St w p D s xs W' :=
  h.kp (Kp.below hb) (by omega) hD ((hb.block D hD5).trans h.box) (SC.below h.scan hb (by omega))

/-- The drawn region of Read: a quota taken, laid behind the others, put into the realm. -/
def JQ (A0 A1 : World → Prop) (cs : Array Value) (PB : World → Value → Prop) (PC : World → Prop) (m : Nat → Bool) (u : Nat → Value) (W : World) : Prop :=
  (m 3 = false ∧ m 4 = false ∧ m 5 = false ∧ m 7 = false ∧ A0 W) ∨
  (m 3 = true ∧ m 4 = false ∧ m 5 = false ∧ m 7 = false ∧ A1 W) ∨
  (m 3 = true ∧ m 4 = true ∧ m 5 = false ∧ m 7 = false ∧ ∃ W1, A1 W1 ∧ W = W1.alloc (.cells cs 100) ∧ u 4 = .slice (some ⟨W1.heap.size, 0, none⟩) 1 1) ∨
  (m 3 = true ∧ m 4 = true ∧ m 5 = true ∧ m 7 = false ∧ PB W (u 5)) ∨
  (m 3 = true ∧ m 4 = true ∧ m 5 = true ∧ m 7 = true ∧ m 1 = true ∧ PC W)
section
variable {A0 A1 : World → Prop} {cs : Array Value} {PB : World → Value → Prop} {PC : World → Prop} {m : Nat → Bool} {u : Nat → Value} {W W' : World}
theorem JQ.start (h : A0 W) : JQ A0 A1 cs PB PC (fun _ => false) (fun _ => undef) W := .inl ⟨rfl, rfl, rfl, rfl, h⟩
theorem JQ.keep (h : JQ A0 A1 cs PB PC m u W) {k : Nat} (hk : k = 0 ∨ k = 1 ∨ k = 2 ∨ k = 6) (v : Value) : JQ A0 A1 cs PB PC (Marks.upd m k) (Marks.updv u k v) W := by
  have e3 : Marks.upd m k 3 = m 3 := Marks.upd_other m (by omega)
  have e4 : Marks.upd m k 4 = m 4 := Marks.upd_other m (by omega)
  have e5 : Marks.upd m k 5 = m 5 := Marks.upd_other m (by omega)
  have e7 : Marks.upd m k 7 = m 7 := Marks.upd_other m (by omega)
  have u4 : Marks.updv u k v 4 = u 4 := Marks.updv_other u v (by omega)
  have u5 : Marks.updv u k v 5 = u 5 := Marks.updv_other u v (by omega)
  have e1 : m 1 = true → Marks.upd m k 1 = true := fun h => by
    unfold Marks.upd
    split
    · rfl
    · exact h
  unfold JQ
  rw [e3, e4, e5, e7, u4, u5]
  rcases h with h | h | h | h | ⟨a, b, c, d, h1, hc⟩
  · exact .inl h
  · exact .inr (.inl h)
  · exact .inr (.inr (.inl h))
  · exact .inr (.inr (.inr (.inl h)))
  · exact .inr (.inr (.inr (.inr ⟨a, b, c, d, e1 h1, hc⟩)))
theorem JQ.row (h : JQ A0 A1 cs PB PC m u W) (h1 : m 1 = false) (P : World → Prop) (a0 : ∀ W, A0 W → P W) (a1 : ∀ W, A1 W → P W) (a2 : ∀ W, A1 W → P (W.alloc (.cells cs 100))) (b : ∀ W v, PB W v → P W) : P W := by
  rcases h with ⟨_, _, _, _, h⟩ | ⟨_, _, _, _, h⟩ | ⟨_, _, _, _, W1, h, rfl, _⟩ | ⟨_, _, _, _, h⟩ | ⟨_, _, _, _, h, _⟩
  · exact a0 _ h
  · exact a1 _ h
  · exact a2 _ h
  · exact b _ _ h
  · rw [h1] at h; cases h
theorem JQ.at3 (h : JQ A0 A1 cs PB PC m u W) (h3 : m 3 = false) : A0 W ∧ m 4 = false ∧ m 5 = false ∧ m 7 = false := by
  rcases h with ⟨_, a, b, c, h⟩ | ⟨h, _⟩ | ⟨h, _⟩ | ⟨h, _⟩ | ⟨h, _⟩
  · exact ⟨h, a, b, c⟩
  all_goals rw [h3] at h; cases h
theorem JQ.at4 (h : JQ A0 A1 cs PB PC m u W) (h3 : m 3 = true) (h4 : m 4 = false) : A1 W ∧ m 5 = false ∧ m 7 = false := by
  rcases h with ⟨h, _⟩ | ⟨_, _, b, c, h⟩ | ⟨_, h, _⟩ | ⟨_, h, _⟩ | ⟨_, h, _⟩
  · rw [h3] at h; cases h
  · exact ⟨h, b, c⟩
  all_goals rw [h4] at h; cases h
theorem JQ.at5 (h : JQ A0 A1 cs PB PC m u W) (h4 : m 4 = true) (h5 : m 5 = false) : m 3 = true ∧ m 7 = false ∧ ∃ W1, A1 W1 ∧ W = W1.alloc (.cells cs 100) ∧ u 4 = .slice (some ⟨W1.heap.size, 0, none⟩) 1 1 := by
  rcases h with ⟨_, h, _⟩ | ⟨_, h, _⟩ | ⟨a, _, _, c, h⟩ | ⟨_, _, h, _⟩ | ⟨_, _, h, _⟩
  · rw [h4] at h; cases h
  · rw [h4] at h; cases h
  · exact ⟨a, c, h⟩
  all_goals rw [h5] at h; cases h
theorem JQ.at7 (h : JQ A0 A1 cs PB PC m u W) (h5 : m 5 = true) (h7 : m 7 = false) : m 3 = true ∧ m 4 = true ∧ PB W (u 5) := by
  rcases h with ⟨_, _, h, _⟩ | ⟨_, _, h, _⟩ | ⟨_, _, h, _⟩ | ⟨a, b, _, _, h⟩ | ⟨_, _, _, h, _⟩
  · rw [h5] at h; cases h
  · rw [h5] at h; cases h
  · rw [h5] at h; cases h
  · exact ⟨a, b, h⟩
  · rw [h7] at h; cases h
theorem JQ.fin (h : JQ A0 A1 cs PB PC m u W) (h7 : m 7 = true) : PC W := by
  rcases h with ⟨_, _, _, h, _⟩ | ⟨_, _, _, h, _⟩ | ⟨_, _, _, h, _⟩ | ⟨_, _, _, h, _⟩ | ⟨_, _, _, _, _, h⟩
  · rw [h7] at h; cases h
  · rw [h7] at h; cases h
  · rw [h7] at h; cases h
  · rw [h7] at h; cases h
  · exact h
theorem JQ.put3 (h : JQ A0 A1 cs PB PC m u W) (h3 : m 3 = false) (v : Value) (ha : A1 W') : JQ A0 A1 cs PB PC (Marks.upd m 3) (Marks.updv u 3 v) W' := by
  obtain ⟨_, h4, h5, h7⟩ := h.at3 h3
  exact .inr (.inl ⟨Marks.upd_same m 3, by rw [Marks.upd_other m (by decide)]; exact h4, by rw [Marks.upd_other m (by decide)]; exact h5, by rw [Marks.upd_other m (by decide)]; exact h7, ha⟩)
theorem JQ.put4 (h : JQ A0 A1 cs PB PC m u W) (h3 : m 3 = true) (h4 : m 4 = false) : JQ A0 A1 cs PB PC (Marks.upd m 4) (Marks.updv u 4 (.slice (some ⟨W.heap.size, 0, none⟩) 1 1)) (W.alloc (.cells cs 100)) := by
  obtain ⟨ha, h5, h7⟩ := h.at4 h3 h4
  exact .inr (.inr (.inl ⟨by rw [Marks.upd_other m (by decide)]; exact h3, Marks.upd_same m 4, by rw [Marks.upd_other m (by decide)]; exact h5, by rw [Marks.upd_other m (by decide)]; exact h7, W, ha, rfl, Marks.updv_same u 4 _⟩))
theorem JQ.put5 (h : JQ A0 A1 cs PB PC m u W) (h4 : m 4 = true) (h5 : m 5 = false) (v : Value) (hb : PB W' v) : JQ A0 A1 cs PB PC (Marks.upd m 5) (Marks.updv u 5 v) W' := by
  obtain ⟨h3, h7, _⟩ := h.at5 h4 h5
  exact .inr (.inr (.inr (.inl ⟨by rw [Marks.upd_other m (by decide)]; exact h3, by rw [Marks.upd_other m (by decide)]; exact h4, Marks.upd_same m 5, by rw [Marks.upd_other m (by decide)]; exact h7, by rw [Marks.updv_same]; exact hb⟩)))
theorem JQ.put7 (h : JQ A0 A1 cs PB PC m u W) (h5 : m 5 = true) (h7 : m 7 = false) (h1 : m 1 = true) (v : Value) (hc : PC W') : JQ A0 A1 cs PB PC (Marks.upd m 7) (Marks.updv u 7 v) W' := by
  obtain ⟨h3, h4, _⟩ := h.at7 h5 h7
  exact .inr (.inr (.inr (.inr ⟨by rw [Marks.upd_other m (by decide)]; exact h3, by rw [Marks.upd_other m (by decide)]; exact h4, by rw [Marks.upd_other m (by decide)]; exact h5, Marks.upd_same m 7, by rw [Marks.upd_other m (by decide)]; exact h1, hc⟩)))
end
end Go.Proofs.YtmegdgeiikhflaaGreat.CE
