/-
  What a round of fill keeps, and where it stands.
  Conditions: those that each lemma names.
-/
import Derived.Test.YtmnfajplfnfgpaaOK
import Derived.Lib.Hide
import Derived.OwnWalkIn
import Derived.RangeFuncWrites
import Derived.RangeFuncBox
namespace Go.Proofs.Ytmnfajplfnfgpaa.OLA
set_option maxRecDepth 100000
open Go Go.RowKit Go.Lib Go.Proofs.Ytmnfajplfnfgpaa Go.Proofs.Ytmnfajplfnfgpaa.Facts Go.Proofs.Ytmnfajplfnfgpaa.Ints Go.Proofs.Ytmnfajplfnfgpaa.PA Go.Proofs.Ytmnfajplfnfgpaa.UM Go.Proofs.Ytmnfajplfnfgpaa.UB Go.Proofs.Ytmnfajplfnfgpaa.OA Go.Proofs.Ytmnfajplfnfgpaa.BP Go.Proofs.Ytmnfajplfnfgpaa.OB Go.Proofs.Ytmnfajplfnfgpaa.OC Go.Proofs.Ytmnfajplfnfgpaa.OD Go.Proofs.Ytmnfajplfnfgpaa.OE Go.Proofs.Ytmnfajplfnfgpaa.OF Go.Proofs.Ytmnfajplfnfgpaa.OG Go.Proofs.Ytmnfajplfnfgpaa.OH Go.Proofs.Ytmnfajplfnfgpaa.OI Go.Proofs.Ytmnfajplfnfgpaa.OJ Go.Proofs.Ytmnfajplfnfgpaa.OK Go.Proofs.Ytmnfajplfnfgpaa.Bytes


theorem wpListIn_store {F : Fence} {n : Nat} {P : Program} {ops : Array Oper} {rest : List Oper} {o : Oper} {a : Act} {w : World} {Q : Exit → Act → World → Prop} (hgd : o.guard = none) (t : TypeId) (x y : Operand) (ho : o.op = .store t x y) (px vy : Value) (hx : a.eval x = px) (hy : a.eval y = vy) (w' : World)
    (hr : (Instr.storeAt t px vy).run P w = .ok () w') (h : wpListIn F n P ops Q rest (a.put o.dst undef) w') : wpListIn F n P ops Q (o :: rest) a w := by
  refine wpListIn_plain hgd fun K hK => ?_
  unfold Oper.wpIn
  refine ⟨by simp [Oper.about, ho], ?_⟩
  rw [Oper.semAt_plain F _ _ (by rw [ho]; intro c hc'; cases hc')]
  unfold execOp
  simp only [ho, hx, hy, Sem.run_bind, Sem.run_pure, Result.andThen_ok, hr]
  exact hK _ _ h
theorem wpListIn_app {F : Fence} {n : Nat} {P : Program} {ops : Array Oper} {rest : List Oper} {o : Oper} {a : Act} {w : World} {Q : Exit → Act → World → Prop} (hgd : o.guard = none) (s x : Operand) (t : TypeId)
    (ho : o.op = .call { callee := .builtin .append, args := #[s, x], argTypes := #[t, t] }) (vs vx : Value) (hs : a.eval s = vs) (hx : a.eval x = vx) (v' : Value) (w' : World)
    (hr : (Builtin.append_ #[t, t] o.type #[vs, vx]).run P w = .ok v' w') (h : wpListIn F n P ops Q rest (a.put o.dst v') w') : wpListIn F n P ops Q (o :: rest) a w := by
  refine wpListIn_plain hgd fun K hK => ?_
  unfold Oper.wpIn
  refine ⟨by simp [Oper.about, ho, resolve, Target.leads, Sem.run_pure], ?_⟩
  rw [Oper.semAt_plain F _ _ (by rw [ho]; intro c hc'; cases hc')]
  unfold execOp
  simp only [ho, resolve, invoke, builtin, Sem.run_bind, Sem.run_pure, Result.andThen_ok, List.map_toArray, List.map_cons, List.map_nil, hs, hx, hr]
  exact hK _ _ h
/-- What a step within a round may turn. -/
structure Stp (B s nB fB gN : Nat) (W W' : World) : Prop where
  kf : KeepsFrom B W W'
  kp : KpF s s nB fB gN W W'
theorem Stp.trans {B s nB fB gN : Nat} {X Y Z : World} (h : Stp B s nB fB gN X Y) (k : Stp B s nB fB gN Y Z) : Stp B s nB fB gN X Z := ⟨h.kf.trans k.kf, h.kp.trans k.kp⟩
theorem Stp.refl (B s nB fB gN : Nat) (W : World) : Stp B s nB fB gN W W := ⟨KeepsFrom.refl _ _, KpF.refl _ _ _ _ _ _⟩
theorem Stp.grew {B s nB fB gN : Nat} {W W' : World} (h : Grew W W') (hs : s ≤ W.heap.size) : Stp B s nB fB gN W W' :=
  ⟨⟨h.size, fun _k _o _ hk _ => keepB hk h⟩, Below.mono h hs, fun _k _C _t _fr hk _ _ _ _ _ => keepB hk h⟩
theorem Stp.set {B s nB fB gN g : Nat} {W W' : World} (h : W.grownBy W' (some g)) (hs : s ≤ W.heap.size) (hg : s ≤ g) (hm : g = s ∨ g = nB ∨ g = fB ∨ g = gN) (hc : ∃ C t fr, W.heap[g]? = some (.cells C t fr)) : Stp B s nB fB gN W W' := by
  obtain ⟨C0, t0, fr0, hc⟩ := hc
  refine ⟨⟨h.size, fun k o _ hk ho => ?_⟩, (Below.refl s W).grown h hs (fun j e => by cases e; exact hg), fun k C t fr hk _ h1 h2 h3 h4 => ?_⟩
  · by_cases e : k = g
    · subst e
      rw [hc] at hk
      cases hk
      cases ho
    · exact (h.block k (Array.getElem?_eq_some_iff.1 hk).1 (fun e2 => by cases e2; exact e rfl)).trans hk
  · have e : k ≠ g := by omega
    exact (h.block k (Array.getElem?_eq_some_iff.1 hk).1 (fun e2 => by cases e2; exact e rfl)).trans hk
theorem Stp.app {B s nB fB gN : Nat} {W W' : World} {base : Nat} {v : Value} {fs : List Fi} (hf : OwnF W base v fs) (h : W.grownBy W' v.ownBlock) (hs : s ≤ W.heap.size) (hb : s ≤ base) : Stp B s nB fB gN W W' := by
  rcases hf.2 with ⟨e, _⟩ | ⟨g, cap, cur, e, hb2, hg, _⟩
  · subst e
    refine Stp.grew ⟨h.os, h.tape, h.output, h.size, fun k hk => h.block k hk (fun e => by cases e)⟩ hs
  · subst e
    have e1 : (Value.slice (some ⟨g, 0, none⟩) fs.length cap).ownBlock = some g := rfl
    rw [e1] at h
    refine ⟨⟨h.size, fun k o _ hk ho => ?_⟩, (Below.refl s W).grown h hs (fun j e => by cases e; omega), fun k C t fr hk h47 h1 h2 h3 h4 => ?_⟩
    · by_cases e : k = g
      · subst e
        rw [hg] at hk
        cases hk
        cases ho
      · exact (h.block k (Array.getElem?_eq_some_iff.1 hk).1 (fun e2 => by cases e2; exact e rfl)).trans hk
    · by_cases e : k = g
      · subst e
        rw [hg] at hk
        cases hk
        exact absurd rfl h47
      · exact (h.block k (Array.getElem?_eq_some_iff.1 hk).1 (fun e2 => by cases e2; exact e rfl)).trans hk
theorem fi_app1 (W : World) (base : Nat) (v : Value) (l : List Fi) (x : Fi) (hown : OwnF W base v l) (hl : (l.length + 1) * 24 ≤ 140737488355328) (hb : base ≤ W.heap.size) :
    ∃ v' w', (Builtin.append_ #[39, 39] 39 #[v, .slice (some ⟨W.heap.size, 0, none⟩) 1 1]).run Try.prog (W.alloc (.cells #[.int .i64 x.slot, .int .u64 x.qty, .int .u64 x.price] 47)) = .ok v' w' ∧ OwnF w' base v' (l ++ [x]) ∧ (W.alloc (.cells #[.int .i64 x.slot, .int .u64 x.qty, .int .u64 x.price] 47)).grownBy w' v.ownBlock := by
  obtain ⟨i0, hi, hx⟩ := Option.map_eq_some_iff.1 info47
  simp only [Prod.mk.injEq] at hx
  obtain ⟨hz0, hz1, hz2⟩ := hx
  obtain ⟨v', w', hr, h5, h6, _⟩ := run_append_own (P := Try.prog) (W.alloc (.cells #[.int .i64 x.slot, .int .u64 x.qty, .int .u64 x.price] 47)) base 39 39 47 i0 (.agg #[.int .i64 0, .int .u64 0, .int .u64 0]) 3 24 Try.underlying39 hi hz0 hz1 hz2 rfl (by decide) v l.length (l.flatMap fcs) (hown.alloc _) ⟨W.heap.size, 0, none⟩ 1 1 (fcs x) rfl (fun j u hu => by
    rw [Addr.add_lit, Nat.zero_add, cell_of_row _ _ _ _ _ _ (heap_alloc_new W _)]
    unfold fcs at hu
    simpa using hu) (fun u hu => fcs_one [x] u (by simpa using hu)) (by unfold maxLen; omega) (by omega) (Nat.le_trans hb (by simp))
  exact ⟨v', w', hr, by unfold OwnF; rw [List.length_append, List.flatMap_append]; simpa using h5, h6⟩
/-- Where fill stands. -/
structure FIv (l : List Or) (o : Or) (w : World) (s nB fB : Nat) (A1 : Option Addr) (c1 : Nat) (pre : List (OJ.Met l o)) (now : List Or) (o' : Or) (fs : List Fi) (v2 : Value) (W : World) : Prop where
  run : ∀ rest, fillP l (pre.map (·.1) ++ rest) l o [] = fillP l rest now o' fs
  fo : FO o'
  same : ∀ x, meetsP o' x = meetsP o x
  price : o'.price = o.price
  len : now.length = l.length
  fl : fs.length = pre.length
  bo : Bx W s o'
  br : Bx W (s + 1) zor
  bn : Boxed W nB 22 (.slice A1 l.length c1)
  ow : OwnO W (s + 2) (.slice A1 l.length c1) now
  bf : Boxed W fB 39 v2
  off : OwnF W nB v2 fs
  gr : Below s w W
theorem FIv.kept {l : List Or} {o : Or} {w : World} {s nB fB : Nat} {A1 : Option Addr} {c1 : Nat} {pre : List (OJ.Met l o)} {now : List Or} {o' : Or} {fs : List Fi} {v2 : Value} {W W' : World} (h : FIv l o w s nB fB A1 c1 pre now o' fs v2 W) (hk : ∀ (k : Nat) (C : Array Value) (t : TypeId) (fr : Nat × Nat), W.heap[k]? = some (.cells C t fr) → W'.heap[k]? = some (.cells C t fr)) (hb : Below s W W') : FIv l o w s nB fB A1 c1 pre now o' fs v2 W' := by
  refine ⟨h.run, h.fo, h.same, h.price, h.len, h.fl, hk _ _ _ _ h.bo, hk _ _ _ _ h.br, hk _ _ _ _ h.bn, ?_, hk _ _ _ _ h.bf, ?_, h.gr.trans hb⟩
  · refine ⟨h.ow.1, ?_⟩
    rcases h.ow.2 with h0 | ⟨g, cap, cur, h1, h2, h3, h4⟩
    · exact .inl h0
    · exact .inr ⟨g, cap, cur, h1, h2, hk _ _ _ _ h3, h4⟩
  · refine ⟨h.off.1, ?_⟩
    rcases h.off.2 with h0 | ⟨g, cap, cur, h1, h2, h3, h4⟩
    · exact .inl h0
    · exact .inr ⟨g, cap, cur, h1, h2, hk _ _ _ _ h3, h4⟩
theorem FIv.grown {l : List Or} {o : Or} {w : World} {s nB fB B : Nat} {A1 : Option Addr} {c1 : Nat} {pre : List (OJ.Met l o)} {now : List Or} {o' : Or} {fs : List Fi} {v2 : Value} {W W' : World} {row : Option Nat} (h : FIv l o w s nB fB A1 c1 pre now o' fs v2 W) (hs : s ≤ B) (hg : W.grownBy W' row) (hr : ∀ r, row = some r → B ≤ r ∧ ∃ o : Obj, W.heap[r]? = some o ∧ o.isCells = false) : FIv l o w s nB fB A1 c1 pre now o' fs v2 W' := by
  refine h.kept (fun k C t fr hk => ?_) ?_
  · refine (hg.block k (Array.getElem?_eq_some_iff.1 hk).1 (fun e => ?_)).trans hk
    obtain ⟨_, o2, h1, h2⟩ := hr k e.symm
    rw [hk] at h1
    cases h1
    cases h2
  · refine ⟨hg.os, hg.tape, hg.output, hg.size, fun k hk => ?_⟩
    have h1 := h.bo.lt
    refine hg.block k (by omega) (fun e => ?_)
    have := (hr k e.symm).1
    omega
theorem FIv.own {l : List Or} {o : Or} {w : World} {s nB fB B : Nat} {A1 : Option Addr} {c1 : Nat} (hs : s ≤ B) : OwnFrom B (fun (pre : List (OJ.Met l o)) W => ∃ now o' fs v2, FIv l o w s nB fB A1 c1 pre now o' fs v2 W) := by
  rintro pre W W' row ⟨now, o', fs, v2, h⟩ hg hr
  exact ⟨now, o', fs, v2, h.grown hs hg hr⟩
theorem kp_put {s nB fB gN B : Nat} (hs : s ≤ B) (W : World) (k : Nat) (ob ob' : Obj) (hk : B ≤ k) (hb : W.heap[k]? = some ob) (hc : ob.isCells = false) : KpF s s nB fB gN W (W.putObj k ob') := by
  refine ⟨(Below.refl s W).grown (grownBy_putObj' W k ob') (by have := (Array.getElem?_eq_some_iff.1 hb).1; omega) (fun j e => by cases e; omega), fun j C t fr hj _ _ _ _ _ => ?_⟩
  refine ((grownBy_putObj' W k ob').block j (Array.getElem?_eq_some_iff.1 hj).1 (fun e => ?_)).trans hj
  cases e
  rw [hb] at hj
  cases hj
  cases hc
def Iv (l : List Or) (o : Or) (w : World) (s nB fB : Nat) (A1 : Option Addr) (c1 : Nat) (pre : List (OJ.Met l o)) (W : World) : Prop := ∃ now o' fs v2, FIv l o w s nB fB A1 c1 pre now o' fs v2 W
def Ixv (l : List Or) (o : Or) (w : World) (s nB fB : Nat) (A1 : Option Addr) (c1 : Nat) (cd : Code) (xs : List (OJ.Met l o)) (W : World) : Prop := cd = .exit 0 ∧ ∃ pre x, xs = pre ++ [x] ∧ ∃ now o' fs v2, FIv l o w s nB fB A1 c1 pre now o' fs v2 W ∧ o'.left = 0
theorem min_cast (a b n : Nat) (h : min a b = n) : min (a : Int) (b : Int) = (n : Int) := by omega
theorem FIv.next {l : List Or} {o : Or} {w : World} {s nB fB : Nat} {A1 : Option Addr} {c1 : Nat} {pre : List (OJ.Met l o)} {now : List Or} {o' : Or} {fs : List Fi} {v2 v3 : Value} {W W' : World} (h : FIv l o w s nB fB A1 c1 pre now o' fs v2 W) (x : OJ.Met l o) (h0 : o'.left ≠ 0) (hy : MayF (eo l x.1)) (hm : meetsP o (eo l x.1) = true)
    (bo : Bx W' s (ordP l o' x.1)) (br : Bx W' (s + 1) zor) (bn : Boxed W' nB 22 (.slice A1 l.length c1)) (ow : OwnO W' (s + 2) (.slice A1 l.length c1) (nowP l now o' x.1)) (bf : Boxed W' fB 39 v3) (off : OwnF W' nB v3 (fs ++ [filP l o' x.1])) (gr : Below s W W') : FIv l o w s nB fB A1 c1 (pre ++ [x]) (nowP l now o' x.1) (ordP l o' x.1) (fs ++ [filP l o' x.1]) v3 W' := by
  have hm2 : meetsP o' (eo l x.1) = true := by rw [h.same]; exact hm
  refine ⟨fun rest => ?_, h.fo.next hy hm2, fun z => ?_, ?_, ?_, ?_, bo, br, bn, ow, bf, off, h.gr.trans gr⟩
  · rw [List.map_append, List.append_assoc]
    have := h.run (x.1 :: rest)
    rw [show ([x].map (·.1) ++ rest) = x.1 :: rest from rfl, this]
    show (if o'.left = 0 then _ else _) = _
    rw [if_neg h0]
  · unfold ordP
    rw [meets_less]
    exact h.same z
  · exact h.price
  · unfold nowP
    rw [List.length_set]
    exact h.len
  · rw [List.length_append, List.length_append, h.fl]
    rfl
theorem box_kept {W W' : World} {g k : Nat} {C : Array Value} {t : TypeId} {fr : Nat × Nat} (h : W.heap[k]? = some (.cells C t fr)) (hg : W.grownBy W' (some g)) (hne : k ≠ g) : W'.heap[k]? = some (.cells C t fr) :=
  (hg.block k (Array.getElem?_eq_some_iff.1 h).1 (fun e => hne (by cases e; rfl))).trans h
theorem ownO_kept {W W' : World} {b : Nat} {A1 : Option Addr} {n c1 : Nat} {T : List Or} (h : OwnO W b (.slice A1 n c1) T) (hk : ∀ g, A1 = some ⟨g, 0, none⟩ → W'.heap[g]? = W.heap[g]?) : OwnO W' b (.slice A1 n c1) T := by
  refine ⟨h.1, ?_⟩
  rcases h.2 with h0 | ⟨g, cap, cur, h1, h2, h3, h4⟩
  · exact .inl h0
  · refine .inr ⟨g, cap, cur, h1, h2, ?_, h4⟩
    injection h1 with e _ _
    rw [hk g e]
    exact h3
theorem ownF_kept {W W' : World} {b : Nat} {v : Value} {fs : List Fi} (h : OwnF W b v fs) (hk : ∀ g C, b ≤ g → W.heap[g]? = some (.cells C 47 (0, 0)) → W'.heap[g]? = some (.cells C 47 (0, 0))) : OwnF W' b v fs := by
  refine ⟨h.1, ?_⟩
  rcases h.2 with h0 | ⟨g, cap, cur, h1, h2, h3, h4⟩
  · exact .inl h0
  · exact .inr ⟨g, cap, cur, h1, h2, hk g cur h2 h3, h4⟩
theorem not_ownF {W : World} {B base : Nat} {C : Array Value} {t : TypeId} {fr : Nat × Nat} {v : Value} {fs : List Fi} (h : W.heap[B]? = some (.cells C t fr)) (ht : t ≠ 47) (hf : OwnF W base v fs) : some B ≠ v.ownBlock := by
  rcases hf.2 with ⟨rfl, _⟩ | ⟨g, cap, cur, rfl, _, hgb, _⟩
  · simp [Value.ownBlock]
  · intro e
    obtain rfl : B = g := by simpa [Value.ownBlock] using e
    rw [h] at hgb
    cases hgb
    exact ht rfl
theorem keep_app {W W' : World} {B base : Nat} {C : Array Value} {t : TypeId} {fr : Nat × Nat} {v : Value} {fs : List Fi} {ob : Obj} (h : W.heap[B]? = some (.cells C t fr)) (ht : t ≠ 47) (hf : OwnF W base v fs) (hg : (W.alloc ob).grownBy W' v.ownBlock) : W'.heap[B]? = some (.cells C t fr) := by
  have h1 : (W.alloc ob).heap[B]? = some (.cells C t fr) := keepB h (by unfold Grew; exact (Below.refl _ _).alloc (Nat.le_refl _) _)
  exact (hg.block B (Array.getElem?_eq_some_iff.1 h1).1 (not_ownF h ht hf)).trans h1
theorem own_g {W : World} {b g n c1 : Nat} {T : List Or} (h : OwnO W b (.slice (some ⟨g, 0, none⟩) n c1) T) : ∃ C, W.heap[g]? = some (.cells C 26 (0, 0)) := by
  rcases h.2 with ⟨e, _⟩ | ⟨g', cap, cur, e, h2, h3, h4⟩
  · cases e
  · injection e with e1 _ _
    injection e1 with e1
    injection e1 with e1
    subst e1
    exact ⟨_, h3⟩
/-- The end of a round: the fills, and the order that is filled, are stored. -/
structure Rd (s nB fB gN Bb B : Nat) (l : List Or) (c1 : Nat) (y : Or) (NOW : List Or) (o' : Or) (fs : List Fi) (v2 : Value) (W W1 : World) : Prop where
  bo : Bx W1 s o'
  br : Bx W1 (s + 1) zor
  bn : Boxed W1 nB 22 (.slice (some ⟨gN, 0, none⟩) l.length c1)
  bb : Bx W1 Bb y
  ow : OwnO W1 (s + 2) (.slice (some ⟨gN, 0, none⟩) l.length c1) NOW
  bf : Boxed W1 fB 39 v2
  off : OwnF W1 nB v2 fs
  st : Stp B s nB fB gN W W1
theorem Rd.grew {s nB fB gN Bb B : Nat} {l : List Or} {c1 : Nat} {y : Or} {NOW : List Or} {o' : Or} {fs : List Fi} {v2 : Value} {W W1 W2 : World} (h : Rd s nB fB gN Bb B l c1 y NOW o' fs v2 W W1) (hg : Grew W1 W2) : Rd s nB fB gN Bb B l c1 y NOW o' fs v2 W W2 :=
  ⟨h.bo.grew hg, h.br.grew hg, keepB h.bn hg, h.bb.grew hg, ownO_kept h.ow (fun g e => by cases e; obtain ⟨C, hC⟩ := own_g h.ow; rw [keepB hC hg, hC]), keepB h.bf hg, ownF_kept h.off (fun g C _ hC => keepB hC hg), h.st.trans (Stp.grew hg (Nat.le_of_lt h.bo.lt))⟩
theorem Rd.setS {s nB fB gN Bb B : Nat} {l : List Or} {c1 : Nat} {y : Or} {NOW : List Or} {o' o2 : Or} {fs : List Fi} {v2 : Value} {W W1 W2 : World} (h : Rd s nB fB gN Bb B l c1 y NOW o' fs v2 W W1) (hb : Bx W2 s o2) (hg : W1.grownBy W2 (some s)) (h1 : s < nB) (h2 : s < fB) (h3 : s < gN) (h4 : s < Bb) : Rd s nB fB gN Bb B l c1 y NOW o2 fs v2 W W2 :=
  ⟨hb, box_kept h.br hg (by omega), box_kept h.bn hg (by omega), box_kept h.bb hg (by omega), ownO_kept h.ow (fun g e => by cases e; obtain ⟨C, hC⟩ := own_g h.ow; rw [box_kept hC hg (by omega), hC]), box_kept h.bf hg (by omega), ownF_kept h.off (fun g C hb2 hC => box_kept hC hg (by omega)), h.st.trans (Stp.set hg (Nat.le_of_lt h.bo.lt) (Nat.le_refl _) (.inl rfl) ⟨_, _, _, h.bo⟩)⟩
theorem Rd.setN {s nB fB gN Bb B : Nat} {l : List Or} {c1 : Nat} {y : Or} {NOW NOW' : List Or} {o' : Or} {fs : List Fi} {v2 : Value} {W W1 W2 : World} (h : Rd s nB fB gN Bb B l c1 y NOW o' fs v2 W W1) (ho : OwnO W2 (s + 2) (.slice (some ⟨gN, 0, none⟩) l.length c1) NOW') (hg : W1.grownBy W2 (some gN)) (h1 : gN < nB) (h2 : gN < fB) (h3 : s + 1 < gN) (h4 : gN < Bb) : Rd s nB fB gN Bb B l c1 y NOW' o' fs v2 W W2 := by
  obtain ⟨C, hC⟩ := own_g h.ow
  exact ⟨box_kept h.bo hg (by omega), box_kept h.br hg (by omega), box_kept h.bn hg (by omega), box_kept h.bb hg (by omega), ho, box_kept h.bf hg (by omega), ownF_kept h.off (fun g C hb2 hC => box_kept hC hg (by omega)), h.st.trans (Stp.set hg (Nat.le_of_lt h.bo.lt) (by omega) (.inr (.inr (.inr rfl))) ⟨_, _, _, hC⟩)⟩
theorem Rd.last {s nB fB gN Bb B : Nat} {l : List Or} {c1 : Nat} {y : Or} {NOW : List Or} {o' : Or} {fs fs' : List Fi} {v2 v3 : Value} {W W1 W4 : World} {ob : Obj} (h : Rd s nB fB gN Bb B l c1 y NOW o' fs v2 W W1) (hof : OwnF W4 nB v3 fs') (hg : (W1.alloc ob).grownBy W4 v2.ownBlock) (h1 : s < nB) (h2 : nB < fB) (h3 : gN < nB) (_h4 : s + 1 < gN) (h5 : fB < Bb) :
    Rd s nB fB gN Bb B l c1 y NOW o' fs' v3 W (W4.setCell ⟨fB, 0, none⟩ v3) := by
  obtain ⟨C, hC⟩ := own_g h.ow
  have k26 : ∀ {k : Nat} {C : Array Value} {t : TypeId} {fr : Nat × Nat}, W1.heap[k]? = some (.cells C t fr) → t ≠ 47 → k ≠ fB → (W4.setCell ⟨fB, 0, none⟩ v3).heap[k]? = some (.cells C t fr) := fun hk ht hne => box_kept (keep_app hk ht h.off hg) (grown_set W4 fB 0 v3) hne
  have bf4 : Boxed W4 fB 39 v2 := keep_app h.bf (by decide) h.off hg
  refine ⟨k26 h.bo (by decide) (by omega), k26 h.br (by decide) (by omega), k26 h.bn (by decide) (by omega), k26 h.bb (by decide) (by omega), ownO_kept h.ow (fun g e => by cases e; rw [k26 hC (by decide) (by omega), hC]), bf4.set v3, ownF_kept hof (fun g C hb2 hC => box_kept hC (grown_set W4 fB 0 v3) (fun e => ?_)), ?_⟩
  · subst e
    rw [show W4.heap[g]? = _ from bf4] at hC
    cases hC
  · have s1 := h.bo.lt
    have hal : Grew W1 (W1.alloc ob) := by unfold Grew; exact (Below.refl _ _).alloc (Nat.le_refl _) _
    refine h.st.trans ((Stp.grew hal (Nat.le_of_lt s1)).trans ((Stp.app (h.off.alloc _) hg (by simp; omega) (Nat.le_of_lt h1)).trans (Stp.set (grown_set W4 fB 0 v3) ?_ (by omega) (.inr (.inr (.inl rfl))) ⟨_, _, _, bf4⟩)))
    have := hg.size
    simp at this
    omega
end Go.Proofs.Ytmnfajplfnfgpaa.OLA
