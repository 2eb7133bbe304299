/-
  A region that draws its order, in which some operations stand in a fixed order and change the world, and all others are quiet.
  Conditions: what holds behind each of the operations in their order (P) is kept by every quiet operation.
-/
import Derived.Test.YtmnfajplfnfgpabMarks
namespace Go.Proofs.Ytmnfajplfnfgpab.Chain
set_option maxRecDepth 100000
set_option maxRecDepth 100000
set_option maxRecDepth 100000
open Go Go.RowKit Go.Proofs.Ytmnfajplfnfgpab.Facts Go.Proofs.Ytmnfajplfnfgpab.Marks

/-- i of the operations ks, in their order, have come up, and P i holds. -/
structure J (T : List (List Nat)) (ks : List Nat) (P : Nat → (Nat → Value) → World → Prop) (m : Nat → Bool) (u : Nat → Value) (w : World) : Prop where
  at' : ∃ i, i ≤ ks.length ∧ (∀ j k, ks[j]? = some k → m k = decide (j < i)) ∧ P i u w
  dep : ∀ k ∈ ks, m k = true → ∀ d ∈ clos T k, m d = true
section
variable {T : List (List Nat)} {ks : List Nat} {P : Nat → (Nat → Value) → World → Prop} {m : Nat → Bool} {u : Nat → Value} {w w' : World}
theorem J.start (w : World) (h : P 0 (fun _ => undef) w.drew) : J T ks P (fun _ => false) (fun _ => undef) w.drew :=
  ⟨⟨0, Nat.zero_le _, fun j k _ => by simp, h⟩, fun k _ h => by cases h⟩
/-- A quiet operation, or what it reads: at most b of them have come up, if it stands ahead of the one at b. -/
theorem J.get (h : J T ks P m u w) {k : Nat} (hm : m k = false) (b e : Nat) (he : ks[b]? = some e) (hk : (k == e || (clos T e).contains k) = true) : ∃ i, i ≤ b ∧ P i u w := by
  obtain ⟨i, h1, h2, h3⟩ := h.at'
  refine ⟨i, ?_, h3⟩
  have hme : m e = false := by
    cases hme : m e with
    | false => rfl
    | true =>
      rcases Bool.or_eq_true _ _ ▸ hk with h4 | h4
      · rw [beq_iff_eq] at h4
        rw [h4, hme] at hm
        cases hm
      · have := h.dep e (List.mem_of_getElem? he) hme k (by simpa using h4)
        rw [hm] at this
        cases this
  have := h2 b e he
  rw [hme] at this
  have h5 := of_decide_eq_false this.symm
  omega
/-- What stands ahead of the first of them. -/
theorem J.first (h : J T ks P m u w) {k : Nat} (hm : m k = false) (e : Nat) (he : ks[0]? = some e) (hk : (k == e || (clos T e).contains k) = true) : P 0 u w := by
  obtain ⟨i, hi, hP⟩ := h.get hm 0 e he hk
  have : i = 0 := by omega
  rw [← this]
  exact hP
theorem J.between (h : J T ks P m u w) {k : Nat} (hm : m k = false) (b e : Nat) (he : ks[b]? = some e) (hk : (k == e || (clos T e).contains k) = true) (b0 e0 : Nat) (he0 : ks[b0]? = some e0) (hm0 : m e0 = true) : ∃ i, b0 < i ∧ i ≤ b ∧ P i u w := by
  obtain ⟨i, h1, h2, h3⟩ := h.at'
  refine ⟨i, ?_, ?_, h3⟩
  · have := h2 b0 e0 he0
    rw [hm0] at this
    exact of_decide_eq_true this.symm
  · have hme : m e = false := by
      cases hme : m e with
      | false => rfl
      | true =>
        rcases Bool.or_eq_true _ _ ▸ hk with h4 | h4
        · rw [beq_iff_eq] at h4
          rw [h4, hme] at hm
          cases hm
        · have := h.dep e (List.mem_of_getElem? he) hme k (by simpa using h4)
          rw [hm] at this
          cases this
    have := h2 b e he
    rw [hme] at this
    have h5 := of_decide_eq_false this.symm
    omega
theorem J.least (h : J T ks P m u w) (b0 e0 : Nat) (he0 : ks[b0]? = some e0) (hm0 : m e0 = true) : ∃ i, b0 < i ∧ P i u w := by
  obtain ⟨i, h1, h2, h3⟩ := h.at'
  refine ⟨i, ?_, h3⟩
  have := h2 b0 e0 he0
  rw [hm0] at this
  exact of_decide_eq_true this.symm
theorem J.any (h : J T ks P m u w) : ∃ i, i ≤ ks.length ∧ P i u w := by
  obtain ⟨i, h1, _, h3⟩ := h.at'
  exact ⟨i, h1, h3⟩
theorem J.quiet (h : J T ks P m u w) {k : Nat} (v : Value) (hk : ks.contains k = false) (hP : ∀ i, P i u w → P i (updv u k v) w') : J T ks P (upd m k) (updv u k v) w' := by
  obtain ⟨i, h1, h2, h3⟩ := h.at'
  have hne : ∀ x ∈ ks, x ≠ k := fun x hx e => by
    subst e
    rw [List.contains_iff_mem.2 hx] at hk
    cases hk
  refine ⟨⟨i, h1, fun j x hx => ?_, hP i h3⟩, fun x hx hmx d hd => ?_⟩
  · rw [upd_other m (hne x (List.mem_of_getElem? hx))]
    exact h2 j x hx
  · rw [upd_other m (hne x hx)] at hmx
    have := h.dep x hx hmx d hd
    unfold upd
    split
    · rfl
    · exact this
/-- The next operation that changes the world. -/
theorem J.put (h : J T ks P m u w) {k : Nat} (b : Nat) (hb : ks[b]? = some k) (hm : m k = false) (hcl : ∀ j ∈ clos T k, m j = true) (hpre : ((List.range b).all fun j => (clos T k).contains (ks.getD j k)) = true) (hnd : ((List.range ks.length).all fun j => j == b || !(ks.getD j (k + 1) == k)) = true) :
    P b u w ∧ ∀ v w', (P b u w → P (b + 1) (updv u k v) w') → J T ks P (upd m k) (updv u k v) w' := by
  obtain ⟨i, h1, h2, h3⟩ := h.at'
  have hbl : b < ks.length := (List.getElem?_eq_some_iff.1 hb).1
  have hi : i = b := by
    have e1 := h2 b k hb
    rw [hm] at e1
    have e2 := of_decide_eq_false e1.symm
    rcases Nat.lt_or_ge i b with h4 | h4
    · have h5 := List.all_eq_true.1 hpre i (List.mem_range.2 h4)
      have h6 : ks[i]? = some (ks.getD i k) := by simp [List.getD, List.getElem?_eq_getElem (show i < ks.length by omega)]
      have h7 := h2 i _ h6
      rw [hcl _ (by simpa using h5)] at h7
      have := of_decide_eq_true h7.symm
      omega
    · omega
  subst hi
  refine ⟨h3, fun v w' hP => ⟨⟨i + 1, by omega, fun j x hx => ?_, hP h3⟩, fun x hx hmx d hd => ?_⟩⟩
  · have hjl : j < ks.length := (List.getElem?_eq_some_iff.1 hx).1
    have h8 := List.all_eq_true.1 hnd j (List.mem_range.2 hjl)
    have h9 : ks.getD j (k + 1) = x := by simp [List.getD, hx]
    rw [h9] at h8
    by_cases e : x = k
    · subst e
      have : j = i := by simpa using h8
      subst this
      rw [upd_same]
      simp
    · have hji : j ≠ i := fun hh => by subst hh; rw [hb] at hx; cases hx; exact e rfl
      rw [upd_other m e, h2 j x hx]
      simp only [decide_eq_decide]
      omega
  · by_cases e : x = k
    · subst e
      have := hcl d hd
      unfold upd
      split
      · rfl
      · exact this
    · rw [upd_other m e] at hmx
      have := h.dep x hx hmx d hd
      unfold upd
      split
      · rfl
      · exact this
theorem J.done (h : J T ks P m u w) (hall : ∀ k ∈ ks, m k = true) : P ks.length u w := by
  obtain ⟨i, h1, h2, h3⟩ := h.at'
  rcases Nat.lt_or_ge i ks.length with h4 | h4
  · have := h2 i _ (List.getElem?_eq_getElem h4)
    rw [hall _ (List.getElem_mem h4)] at this
    have := of_decide_eq_true this.symm
    omega
  · have : i = ks.length := by omega
    rw [← this]
    exact h3
/-- What holds hangs on one value alone. -/
def on (c : Nat) (PP : Nat → Value → World → Prop) : Nat → (Nat → Value) → World → Prop := fun i u w => PP i (u c) w
theorem on_put {c : Nat} {PP : Nat → Value → World → Prop} {b : Nat} {v : Value} (h : PP b v w') : on c PP b (updv u c v) w' := by
  show PP b (updv u c v c) w'
  rw [updv_same]
  exact h
theorem on_keep {c k : Nat} {PP : Nat → Value → World → Prop} {b : Nat} {v : Value} (hk : (k == c) = false) (h : PP b (u c) w') : on c PP b (updv u k v) w' := by
  show PP b (updv u k v c) w'
  rw [updv_other u v (fun e => by subst e; simp at hk)]
  exact h
theorem J.still {c : Nat} {PP : Nat → Value → World → Prop} (h : J T ks (on c PP) m u w) (k : Nat) (v : Value) (hk : (ks.contains k || k == c) = false) (hP : ∀ i x, PP i x w → PP i x w') : J T ks (on c PP) (upd m k) (updv u k v) w' := by
  rw [Bool.or_eq_false_iff] at hk
  refine h.quiet v hk.1 fun i hi => ?_
  have : c ≠ k := fun e => by subst e; simp at hk
  show PP i (updv u k v c) w'
  rw [updv_other u v this]
  exact hP i _ hi
theorem J.same {c : Nat} {PP : Nat → Value → World → Prop} (h : J T ks (on c PP) m u w) (k : Nat) (v : Value) (hk : (ks.contains k || k == c) = false) : J T ks (on c PP) (upd m k) (updv u k v) w :=
  h.still k v hk fun _ _ h => h
end
theorem come_enter {P : Program} {R : Value → World → Prop} {f : Nat} {args : Array Value} {w : World} (h : Calls P f args w (retd R)) : come P R (.ok (.enter f args) w) := h
theorem wp_chain {P : Program} {Q : Exit → Act → World → Prop} {id : Nat} {a : Act} {w : World} {l : List Oper} (ks : List Nat) (PP : Nat → (Nat → Value) → World → Prop) (hm : P.follows .mixedOrders = true) (hB : checkB l.toArray (cloTab l.toArray l.toArray.size) = true) (h0 : PP 0 (fun _ => undef) w.drew)
    (h : Lex P l.toArray (cloTab l.toArray l.toArray.size) (J (cloTab l.toArray l.toArray.size) ks PP) (fun _ _ => True) (fun a w => Q .normal a w) l 0 (fun _ => a) []) : (Code.region id l.toArray true).wp P Q a w :=
  wp_region_text _ _ hm hB (J.start w h0) h
section
variable {P : Program} {ops : Array Oper} {o : Oper} {ac : Act} {w : World} {R : World → World → Prop} {J' : Value → World → Prop} {g : Value → World → Prop}
theorem one_slice (hgd : o.guard = none) (t : TypeId) (x : Operand) (lo hi : Option Operand) (ho : o.op = .slice t x lo hi none) (vx : Value) (vl vh : Option Value) (hx : ac.eval x = vx) (hl : lo.map ac.eval = vl) (hh : hi.map ac.eval = vh) {v : Value} {w' : World} (hr : (Instr.sliceAt t vx vl vh none).run P w = .ok v w') (h : R w w' ∧ J' v w' ∧ g v w') : Marks.one P ops o ac w R J' g := by
  unfold Marks.one
  rw [if_pos (by unfold Region.wanted; rw [hgd])]
  unfold execOp
  simp only [ho, hx, hl, hh, Option.map_none, Sem.run_bind, Sem.run_pure, Result.andThen_ok, hr]
  exact h
theorem one_conv (hgd : o.guard = none) (s d : TypeId) (x : Operand) (ho : o.op = .convert s d x) (vx : Value) (hx : ac.eval x = vx) {v : Value} {w' : World} (hr : (convert s d vx).run P w = .ok v w') (h : R w w' ∧ J' v w' ∧ g v w') : Marks.one P ops o ac w R J' g := by
  unfold Marks.one
  rw [if_pos (by unfold Region.wanted; rw [hgd])]
  unfold execOp
  simp only [ho, hx, Sem.run_bind, Sem.run_pure, Result.andThen_ok, hr]
  exact h
theorem one_add (hgd : o.guard = none) (t : TypeId) (x y : Operand) {t2 : TypeId} (ho : o.op = .binOp .add t x y t2) (vx vy : Value) (hx : ac.eval x = vx) (hy : ac.eval y = vy) (v : Value) {w' : World} (hr : (binOp .add t vx vy).run P w = .ok v w') (h : R w w' ∧ J' v w' ∧ g v w') : Marks.one P ops o ac w R J' g := by
  unfold Marks.one
  rw [if_pos (by unfold Region.wanted; rw [hgd])]
  unfold execOp
  have hg : (eqGuard .add t x y vx vy).run P w = .ok () w := rfl
  simp only [ho, hx, hy, Sem.run_bind, Sem.run_pure, Result.andThen_ok, hg, hr]
  exact h
end
end Go.Proofs.Ytmnfajplfnfgpab.Chain
