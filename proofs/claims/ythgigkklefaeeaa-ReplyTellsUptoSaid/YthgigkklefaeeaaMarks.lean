/-
  A region that draws its order, whose operations may change the world, each in a part of its own: one walk in the order of the text serves every order.
  Conditions: of the world a condition is told for each set of operations that have come up, and their values (J); each operation is shown to lead from the one to the next, whatever others came up before it; what is known of a value is kept by every operation (R).
-/
import Derived.Test.YthgigkklefaeeaaFacts
namespace Go.Proofs.Ythgigkklefaeeaa.Marks
set_option maxRecDepth 100000
set_option maxRecDepth 100000
set_option maxRecDepth 100000
open Go Go.RowKit Go.Proofs.Ythgigkklefaeeaa.Facts

/-- What has come up, with its value. -/
def updv (u : Nat → Value) (k : Nat) (v : Value) : Nat → Value := fun j => if j = k then v else u j
theorem updv_same (u : Nat → Value) (k : Nat) (v : Value) : updv u k v k = v := by simp [updv]
theorem updv_other (u : Nat → Value) {k j : Nat} (v : Value) (h : j ≠ k) : updv u k v j = u j := by simp [updv, h]
/-- One more has come up. -/
def upd (m : Nat → Bool) (k : Nat) : Nat → Bool := fun j => if j = k then true else m j
theorem upd_same (m : Nat → Bool) (k : Nat) : upd m k k = true := by simp [upd]
theorem upd_other (m : Nat → Bool) {k j : Nat} (h : j ≠ k) : upd m k j = m j := by simp [upd, h]

def went (R : World → World → Prop) (J' : Value → World → Prop) (w : World) (g : Value → World → Prop) (v : Value) (w' : World) : Prop := R w w' ∧ J' v w' ∧ g v w'

/-- One operation, carried out in this state and world, or passed over. -/
def one (P : Program) (ops : Array Oper) (o : Oper) (a : Act) (w : World) (R : World → World → Prop) (J' : Value → World → Prop) (g : Value → World → Prop) : Prop :=
  if Region.wanted o (yielded ops a.tmps) then come P (went R J' w g) ((execOp a.eval o).run P w) else J' undef w ∧ g undef w

def Stable (R : World → World → Prop) (g : Value → World → Prop) : Prop := ∀ v w w', g v w → R w w' → g v w'

section
variable (P : Program) (ops : Array Oper) (T : List (List Nat)) (J : (Nat → Bool) → (Nat → Value) → World → Prop) (R : World → World → Prop) (Q : Act → World → Prop)

/-- The walk in the order of the text. -/
def Lex : List Oper → Nat → ((Nat → Value) → Act) → List (Nat × (Value → World → Prop)) → Prop
  | [], k, a, L => ∀ m u w, (∀ j, j < k → m j = true) → J m u w → (∀ p ∈ L, p.2 (u p.1) w) → Q (a u) w
  | o :: rest, k, a, L =>
    (∃ (A : List Nat) (c : Value), sub A (clos T k) = true ∧ (∀ m u w, m k = false → (∀ j ∈ clos T k, m j = true) → J m u w → known A u w L → one P ops o (a u) w R (fun v => J (upd m k) (updv u k v)) (fun v _ => v = c)) ∧
      Lex rest (k + 1) (fun u => (a u).put o.dst c) L) ∨
    (∃ (A : List Nat) (g : Value → World → Prop), sub A (clos T k) = true ∧ Stable R g ∧ (∀ m u w, m k = false → (∀ j ∈ clos T k, m j = true) → J m u w → known A u w L → one P ops o (a u) w R (fun v => J (upd m k) (updv u k v)) g) ∧
      Lex rest (k + 1) (fun u => (a u).put o.dst (u k)) ((k, g) :: L))
end

section
variable {P : Program} {ops : Array Oper} {T : List (List Nat)} {J : (Nat → Bool) → (Nat → Value) → World → Prop} {R : World → World → Prop} {Q : Act → World → Prop}

theorem Lex.done {k : Nat} {a : (Nat → Value) → Act} {L : List (Nat × (Value → World → Prop))} (h : ∀ m u w, (∀ j, j < k → m j = true) → J m u w → (∀ p ∈ L, p.2 (u p.1) w) → Q (a u) w) : Lex P ops T J R Q [] k a L := h
theorem Lex.exact {o : Oper} {rest : List Oper} {k : Nat} {a : (Nat → Value) → Act} {L : List (Nat × (Value → World → Prop))} (A : List Nat) (c : Value) (hA : sub A (clos T k) = true)
    (h : ∀ m u w, m k = false → (∀ j ∈ clos T k, m j = true) → J m u w → known A u w L → one P ops o (a u) w R (fun v => J (upd m k) (updv u k v)) (fun v _ => v = c)) (hr : Lex P ops T J R Q rest (k + 1) (fun u => (a u).put o.dst c) L) : Lex P ops T J R Q (o :: rest) k a L :=
  .inl ⟨A, c, hA, h, hr⟩
theorem Lex.know {o : Oper} {rest : List Oper} {k : Nat} {a : (Nat → Value) → Act} {L : List (Nat × (Value → World → Prop))} (A : List Nat) (g : Value → World → Prop) (hA : sub A (clos T k) = true) (hg : Stable R g)
    (h : ∀ m u w, m k = false → (∀ j ∈ clos T k, m j = true) → J m u w → known A u w L → one P ops o (a u) w R (fun v => J (upd m k) (updv u k v)) g) (hr : Lex P ops T J R Q rest (k + 1) (fun u => (a u).put o.dst (u k)) ((k, g) :: L)) : Lex P ops T J R Q (o :: rest) k a L :=
  .inr ⟨A, g, hA, hg, h, hr⟩

/-- The table out of the walk. -/
theorem Lex.table : ∀ (l : List Oper) (k : Nat) (a : (Nat → Value) → Act) (L : List (Nat × (Value → World → Prop))), (∀ j, l[j]? = ops[k + j]?) → (∀ p ∈ L, p.1 < k) → Lex P ops T J R Q l k a L →
    ∃ (x : Nat → Option Value) (g : Nat → Value → World → Prop) (A : Nat → List Nat),
      (∀ j, k ≤ j → x j = none → Stable R (g j)) ∧ (∀ j c, k ≤ j → x j = some c → g j = fun v _ => v = c) ∧
      (∀ n o, l[n]? = some o → sub (A (k + n)) (clos T (k + n)) = true ∧ ∀ m u w, m (k + n) = false → (∀ j ∈ clos T (k + n), m j = true) → J m u w → known (A (k + n)) u w L →
        (∀ j, k ≤ j → j < k + n → j ∈ A (k + n) → x j = none → g j (u j) w) → one P ops o (stateAt ops (valOf x) a k n u) w R (fun v => J (upd m (k + n)) (updv u (k + n) v)) (g (k + n))) ∧
      (∀ m u w, (∀ j, j < k + l.length → m j = true) → J m u w → (∀ p ∈ L, p.2 (u p.1) w) → (∀ j, k ≤ j → j < k + l.length → x j = none → g j (u j) w) → Q (stateAt ops (valOf x) a k l.length u) w)
  | [], k, a, L, _, _, h => ⟨fun _ => none, fun _ _ _ => True, fun _ => [], fun _ _ _ => fun _ _ _ _ _ => trivial, (fun _ _ _ e => by cases e), (fun n o e => by simp at e), fun m u w hm hw hL _ => h m u w (by simpa using hm) hw hL⟩
  | o :: l, k, a, L, hl, hk, h => by
    have ho : ops[k]? = Option.some o := by simpa using (hl 0).symm
    have hd : dstOf ops k = o.dst := by simp [dstOf, ho]
    have hl' : ∀ j, l[j]? = ops[k + 1 + j]? := fun j => by have := hl (j + 1); simpa [Nat.add_assoc, Nat.add_comm 1 j] using this
    rcases h with ⟨A0, c, hA, h1, hr⟩ | ⟨A0, g0, hA, hg, h1, hr⟩
    · obtain ⟨x, g, A, t1, t2, t3, t4⟩ := Lex.table l (k + 1) _ L hl' (fun p hp => by have := hk p hp; omega) hr
      let x' : Nat → Option Value := fun j => if j = k then Option.some c else x j
      let g' : Nat → Value → World → Prop := fun j => if j = k then (fun v _ => v = c) else g j
      let A' : Nat → List Nat := fun j => if j = k then A0 else A j
      have ex : x' k = Option.some c := by simp [x']
      have eg : g' k = fun v _ => v = c := by simp [g']
      have eA : A' k = A0 := by simp [A']
      have ex' : ∀ j, k + 1 ≤ j → x' j = x j := fun j hj => by simp only [x']; rw [if_neg (by omega)]
      have eg' : ∀ j, k + 1 ≤ j → g' j = g j := fun j hj => by simp only [g']; rw [if_neg (by omega)]
      have eA' : ∀ j, k + 1 ≤ j → A' j = A j := fun j hj => by simp only [A']; rw [if_neg (by omega)]
      have ev : ∀ u, valOf x' k u = c := fun u => by simp [valOf, ex]
      have est : ∀ n u, stateAt ops (valOf x) (fun u => (a u).put o.dst c) (k + 1) n u = stateAt ops (valOf x') a k (n + 1) u := fun n u => by
        rw [← stateAt_shift]
        rw [stateAt_congr _ _ (val := valOf x) (val' := valOf x') (fun j hj => by funext u; simp [valOf, ex' j hj])]
        congr 1
        funext u
        rw [hd, ev]
      refine ⟨x', g', A', fun j hj hn => ?_, fun j cc hj hs => ?_, fun n oo hn => ?_, fun m u w hm hw hL hf => ?_⟩
      · rcases Nat.eq_or_lt_of_le hj with e | e
        · subst e; rw [ex] at hn; cases hn
        · rw [eg' j e]; exact t1 j e (by rw [← ex' j e]; exact hn)
      · rcases Nat.eq_or_lt_of_le hj with e | e
        · subst e; rw [ex] at hs; cases hs; exact eg
        · rw [eg' j e]; exact t2 j cc e (by rw [← ex' j e]; exact hs)
      · cases n with
        | zero =>
          simp only [List.getElem?_cons_zero, Option.some.injEq] at hn
          subst hn
          simp only [Nat.add_zero, eA, eg]
          exact ⟨hA, fun m u w h0 hc hw hK _ => h1 m u w h0 hc hw hK⟩
        | succ n =>
          simp only [List.getElem?_cons_succ] at hn
          obtain ⟨s1, s2⟩ := t3 n oo hn
          rw [show k + (n + 1) = k + 1 + n from by omega, eA' _ (by omega), eg' _ (by omega)]
          refine ⟨s1, fun m u w h0 hc hw hK hf => ?_⟩
          rw [← est]
          exact s2 m u w h0 hc hw hK fun j hj hjn hjA hx => by
            rw [← eg' j hj]
            exact hf j (by omega) (by omega) hjA (by rw [ex' j hj]; exact hx)
      · have := t4 m u w (fun j hj => hm j (by simp only [List.length_cons]; omega)) hw hL fun j hj hjn hx => by
          rw [← eg' j hj]
          exact hf j (by omega) (by simp only [List.length_cons]; omega) (by rw [ex' j hj]; exact hx)
        rw [est] at this
        exact this
    · obtain ⟨x, g, A, t1, t2, t3, t4⟩ := Lex.table l (k + 1) _ ((k, g0) :: L) hl' (fun p hp => by
        rcases List.mem_cons.1 hp with e | e
        · subst e; exact Nat.lt_succ_self k
        · have := hk p e; omega) hr
      let x' : Nat → Option Value := fun j => if j = k then none else x j
      let g' : Nat → Value → World → Prop := fun j => if j = k then g0 else g j
      let A' : Nat → List Nat := fun j => if j = k then A0 else A j
      have ex : x' k = none := by simp [x']
      have eg : g' k = g0 := by simp [g']
      have eA : A' k = A0 := by simp [A']
      have ex' : ∀ j, k + 1 ≤ j → x' j = x j := fun j hj => by simp only [x']; rw [if_neg (by omega)]
      have eg' : ∀ j, k + 1 ≤ j → g' j = g j := fun j hj => by simp only [g']; rw [if_neg (by omega)]
      have eA' : ∀ j, k + 1 ≤ j → A' j = A j := fun j hj => by simp only [A']; rw [if_neg (by omega)]
      have ev : ∀ u, valOf x' k u = u k := fun u => by simp [valOf, ex]
      have est : ∀ n u, stateAt ops (valOf x) (fun u => (a u).put o.dst (u k)) (k + 1) n u = stateAt ops (valOf x') a k (n + 1) u := fun n u => by
        rw [← stateAt_shift]
        rw [stateAt_congr _ _ (val := valOf x) (val' := valOf x') (fun j hj => by funext u; simp [valOf, ex' j hj])]
        congr 1
        funext u
        rw [hd, ev]
      refine ⟨x', g', A', fun j hj hn => ?_, fun j cc hj hs => ?_, fun n oo hn => ?_, fun m u w hm hw hL hf => ?_⟩
      · rcases Nat.eq_or_lt_of_le hj with e | e
        · subst e; rw [eg]; exact hg
        · rw [eg' j e]; exact t1 j e (by rw [← ex' j e]; exact hn)
      · rcases Nat.eq_or_lt_of_le hj with e | e
        · subst e; rw [ex] at hs; cases hs
        · rw [eg' j e]; exact t2 j cc e (by rw [← ex' j e]; exact hs)
      · cases n with
        | zero =>
          simp only [List.getElem?_cons_zero, Option.some.injEq] at hn
          subst hn
          simp only [Nat.add_zero, eA, eg]
          exact ⟨hA, fun m u w h0 hc hw hK _ => h1 m u w h0 hc hw hK⟩
        | succ n =>
          simp only [List.getElem?_cons_succ] at hn
          obtain ⟨s1, s2⟩ := t3 n oo hn
          have hkk : k + (n + 1) = k + 1 + n := by omega
          rw [hkk, eA' _ (by omega), eg' _ (by omega)]
          refine ⟨s1, fun m u w h0 hc hw hK hf => ?_⟩
          rw [← est]
          refine s2 m u w h0 hc hw ?_ fun j hj hjn hjA hx => by
            rw [← eg' j hj]
            exact hf j (by omega) (by omega) hjA (by rw [ex' j hj]; exact hx)
          show (match (A (k + 1 + n)).contains k with
            | true => g0 (u k) w ∧ known (A (k + 1 + n)) u w L
            | false => known (A (k + 1 + n)) u w L)
          split
          · rename_i hc
            refine ⟨?_, hK⟩
            have := hf k (Nat.le_refl _) (by omega) (by simpa using hc) ex
            rwa [eg] at this
          · exact hK
      · have := t4 m u w (fun j hj => hm j (by simp only [List.length_cons]; omega)) hw (fun p hp => by
          rcases List.mem_cons.1 hp with e | e
          · subst e
            have := hf k (Nat.le_refl _) (by simp only [List.length_cons]; omega) ex
            rwa [eg] at this
          · exact hL p e) fun j hj hjn hx => by
          rw [← eg' j hj]
          exact hf j (by omega) (by simp only [List.length_cons]; omega) (by rw [ex' j hj]; exact hx)
        rw [est] at this
        exact this
end

section
variable {P : Program} {ops : Array Oper} {T : List (List Nat)} {J : (Nat → Bool) → (Nat → Value) → World → Prop} {R : World → World → Prop} {Q : Exit → Act → World → Prop}

def fl (l : Array Bool) : Nat → Bool := fun j => l.getD j false
theorem fl_set {l : Array Bool} {k : Nat} (h : k < l.size) : fl (l.setIfInBounds k true) = upd (fl l) k := by
  funext j
  by_cases hj : j = k
  · subst hj; simp [fl, upd, h]
  · rw [upd_other _ hj]; exact getD_set_ne false (Ne.symm hj)

structure Inv (ops : Array Oper) (J : (Nat → Bool) → (Nat → Value) → World → Prop) (x : Nat → Option Value) (g : Nat → Value → World → Prop) (a : Act) (l : Array Bool) (b : Act) (w : World) (u : Nat → Value) : Prop where
  size : l.size = ops.size
  holds : J (fl l) u w
  closed : Closed ops l
  tsize : b.tmps.size = a.tmps.size
  defers : b.defers = a.defers
  hit : ∀ (j : Nat) (s : Tmp), j < ops.size → listedAt l j → dstOf ops j = some s → s < a.tmps.size → b.tmps[s]? = some (valOf x j u)
  miss : ∀ s : Tmp, (∀ j, j < ops.size → listedAt l j → dstOf ops j ≠ some s) → b.tmps[s]? = a.tmps[s]?
  says : ∀ j, j < ops.size → listedAt l j → x j = none → g j (u j) w

theorem agree (hg : goodB ops T = true) (hs : slotsB ops T = true) {x : Nat → Option Value} {g : Nat → Value → World → Prop} {a : Act} {l : Array Bool} {b : Act} {w : World} {u : Nat → Value}
    (I : Inv ops J x g a l b w u) {k : Nat} (hk : k < ops.size) (hun : ¬ listedAt l k) (hd : ∀ d ∈ deps ops k, listedAt l d) :
    ∀ s ∈ looks ops k, b.tmps[s]? = (stateAt ops (valOf x) (fun _ => a) 0 k u).tmps[s]? := by
  intro s hsl
  obtain ⟨q1, _, q3, q4⟩ := stateAt_slots (ops := ops) (valOf x) a u k (Nat.le_of_lt hk)
  have hcl := clos_listed hg I.closed k k (Nat.le_refl _) hk hd
  by_cases hw : ∃ j, j < ops.size ∧ listedAt l j ∧ dstOf ops j = some s
  · obtain ⟨j, hj, hjl, hjs⟩ := hw
    have hne : k ≠ j := fun e => hun (e ▸ hjl)
    rcases (slots_spec hs hj hk hne hjs).2 hsl with ⟨hlt, _⟩ | ⟨_, hmem⟩
    · by_cases hb : s < a.tmps.size
      · rw [I.hit j s hj hjl hjs hb, q4 j s hlt hjs (fun m hm hmj => (slots_spec hs hj hm hmj hjs).1) hb]
      · rw [Array.getElem?_eq_none (Nat.le_trans (Nat.le_of_eq I.tsize) (Nat.le_of_not_lt hb)), Array.getElem?_eq_none (Nat.le_trans (Nat.le_of_eq q1) (Nat.le_of_not_lt hb))]
    · exact absurd (clos_listed hg I.closed j j (Nat.le_refl _) hj (I.closed j hj hjl) k hmem) hun
  · have hno : ∀ j, j < ops.size → listedAt l j → dstOf ops j ≠ some s := fun j hj hjl hjs => hw ⟨j, hj, hjl, hjs⟩
    rw [I.miss s hno, q3 s]
    intro j hj hjs
    have hne : k ≠ j := by omega
    rcases (slots_spec hs (by omega) hk hne hjs).2 hsl with ⟨_, hmem⟩ | ⟨hlt, _⟩
    · exact hno j (by omega) (hcl j hmem) hjs
    · omega

theorem wpAny_of_lex (hn : Region.noSelect ops = true) (hg : goodB ops T = true) (hs : slotsB ops T = true) {a : Act} (hlex : Lex P ops T J R (fun a w => Q .normal a w) ops.toList 0 (fun _ => a) []) :
    ∃ (x : Nat → Option Value) (g : Nat → Value → World → Prop), ∀ (fuel : Nat) (l : Array Bool) (b : Act) (w : World) (u : Nat → Value) (U : List Nat), U.length ≤ fuel →
      (∀ i, i < ops.size → ¬ listedAt l i → i ∈ U) → Inv ops J x g a l b w u → wpAny P .any ops Q fuel l b w := by
  obtain ⟨x, g, A, t1, t2, t3, t4⟩ := Lex.table ops.toList 0 _ [] (by intro j; simp) (by intro p hp; cases hp) hlex
  refine ⟨x, g, ?_⟩
  -- all are listed: what stands behind the region
  have fin : ∀ (l : Array Bool) (b : Act) (w : World) (u : Nat → Value), (∀ i, i < ops.size → listedAt l i) → Inv ops J x g a l b w u → Q .normal b w := by
    intro l b w u hall I
    have h := t4 (fl l) u w (fun j hj => hall j (by simpa using hj)) I.holds (fun p hp => by cases hp) (fun j _ hj hx => I.says j (by simpa using hj) (hall j (by simpa using hj)) hx)
    obtain ⟨q1, q2, q3, q4⟩ := stateAt_slots (ops := ops) (valOf x) a u ops.size (Nat.le_refl _)
    have e : b = stateAt ops (valOf x) (fun _ => a) 0 ops.toList.length u := by
      rw [Array.length_toList]
      have et : b.tmps = (stateAt ops (valOf x) (fun _ => a) 0 ops.size u).tmps := by
        apply Array.ext_getElem?
        intro s
        by_cases hw : ∃ j, j < ops.size ∧ dstOf ops j = some s
        · obtain ⟨j, hj, hjs⟩ := hw
          by_cases hb : s < a.tmps.size
          · rw [I.hit j s hj (hall j hj) hjs hb, q4 j s hj hjs (fun m hm hmj => (slots_spec hs hj hm hmj hjs).1) hb]
          · rw [Array.getElem?_eq_none (Nat.le_trans (Nat.le_of_eq I.tsize) (Nat.le_of_not_lt hb)), Array.getElem?_eq_none (Nat.le_trans (Nat.le_of_eq q1) (Nat.le_of_not_lt hb))]
        · rw [I.miss s fun j hj _ hjs => hw ⟨j, hj, hjs⟩, q3 s fun j hj hjs => hw ⟨j, hj, hjs⟩]
      have ed : b.defers = (stateAt ops (valOf x) (fun _ => a) 0 ops.size u).defers := I.defers.trans q2.symm
      cases b
      generalize stateAt ops (valOf x) (fun _ => a) 0 ops.size u = st at *
      cases st
      simp_all
    rw [e]
    exact h
  intro fuel
  induction fuel with
  | zero =>
    intro l b w u U hU hun I
    have hall : ∀ i, i < ops.size → listedAt l i := fun i hi => Classical.byContradiction fun h => by
      have := hun i hi h
      have hU0 : U = [] := List.eq_nil_of_length_eq_zero (by omega)
      rw [hU0] at this
      cases this
    refine ⟨?_, fin l b w u hall I⟩
    refine List.eq_nil_iff_forall_not_mem.2 fun k hk => ?_
    obtain ⟨h1, h2, _⟩ := ready_spec I.size hk
    exact h2 (hall k h1)
  | succ fuel ih =>
    intro l b w u U hU hun I
    refine ⟨fun h0 => fin l b w u ?_ I, fun k hk => ?_⟩
    · -- none is ready: all are listed
      have H : ∀ n i, i ≤ n → i < ops.size → listedAt l i := by
        intro n
        induction n with
        | zero =>
          intro i hin hi
          refine Classical.byContradiction fun h => ?_
          have : i ∈ Region.ready .any ops l := by
            refine mem_ready.2 ⟨?_, ops[i], Array.getElem?_eq_getElem hi, fun e he hb => ?_⟩
            · unfold listedAt at h
              simpa [Array.getD, I.size, hi] using h
            · have := (good_spec hg hi).1 e.on (by
                simp only [deps, Array.getElem?_eq_getElem hi, List.mem_map, List.mem_filter]
                exact ⟨e, ⟨by simpa using he, hb⟩, rfl⟩)
              omega
          rw [h0] at this
          cases this
        | succ n ihn =>
          intro i hin hi
          refine Classical.byContradiction fun h => ?_
          have : i ∈ Region.ready .any ops l := by
            refine mem_ready.2 ⟨?_, ops[i], Array.getElem?_eq_getElem hi, fun e he hb => ?_⟩
            · unfold listedAt at h
              simpa [Array.getD, I.size, hi] using h
            · have := (good_spec hg hi).1 e.on (by
                simp only [deps, Array.getElem?_eq_getElem hi, List.mem_map, List.mem_filter]
                exact ⟨e, ⟨by simpa using he, hb⟩, rfl⟩)
              exact ihn e.on (by omega) (by omega)
          rw [h0] at this
          cases this
      exact fun i hi => H i i (Nat.le_refl _) hi
    · obtain ⟨hkl, hku, o, ho, hd⟩ := ready_spec I.size hk
      have ag := agree hg hs I hkl hku hd
      obtain ⟨e1, e2⟩ := exec_agree hn ho ag
      have hcl := clos_listed hg I.closed k k (Nat.le_refl _) hkl hd
      obtain ⟨sA, hone⟩ := t3 k o (by simpa using ho)
      simp only [Nat.zero_add] at sA hone
      have hA : ∀ j ∈ A k, j ∈ clos T k := fun j hj => by
        have := List.all_eq_true.1 sA j hj
        simpa using this
      have h1 := hone (fl l) u w (by cases hfl : fl l k with | false => rfl | true => exact absurd hfl hku) (fun j hj => hcl j hj) I.holds trivial fun j _ hjk hjA hx => I.says j (by omega) (hcl j (hA j hjA)) hx
      have hdst : dstOf ops k = o.dst := by simp [dstOf, ho]
      -- the next state
      have next : ∀ v w', (∀ j, j < ops.size → j ≠ k → listedAt l j → x j = none → g j (u j) w') → J (upd (fl l) k) (updv u k v) w' → g k v w' → wpAny P .any ops Q fuel (l.setIfInBounds k true) (b.put o.dst v) w' := by
        intro v w' hgr hJ hgv
        let u' : Nat → Value := fun j => if j = k then v else u j
        have eu : ∀ j, j ≠ k → u' j = u j := fun j hj => by simp [u', hj]
        have euk : u' k = v := by simp [u']
        have evk : valOf x k u' = v := by
          unfold valOf
          cases hx : x k with
          | none => exact euk
          | some c =>
            have := t2 k c (Nat.zero_le _) hx
            rw [this] at hgv
            exact hgv.symm
        have ev : ∀ j, j ≠ k → valOf x j u' = valOf x j u := fun j hj => by simp [valOf, eu j hj]
        refine ih _ _ _ u' (U.erase k) ?_ ?_ ⟨by simpa using I.size, by rw [fl_set (by rw [I.size]; exact hkl)]; exact hJ, ?_, ?_, ?_, ?_, ?_, ?_⟩
        · have := List.length_erase_of_mem (hun k hkl hku)
          omega
        · intro i hi hiu
          have hik : i ≠ k := fun e => by subst e; exact hiu (listed_set_self (by rw [I.size]; exact hkl))
          exact (List.mem_erase_of_ne hik).2 (hun i hi fun h => hiu (listed_set h))
        · intro j hj hjl d hdj
          by_cases hjk : k = j
          · subst hjk; exact listed_set (hd d hdj)
          · exact listed_set (I.closed j hj (listed_of_set hjl hjk) d hdj)
        · cases o.dst <;> simp [Act.put, I.tsize]
        · rw [← I.defers]; cases o.dst <;> rfl
        · intro j s hj hjl hjs hsz
          by_cases hjk : k = j
          · subst hjk
            rw [evk]
            rw [hdst] at hjs
            rw [hjs]
            have : s < b.tmps.size := by rw [I.tsize]; exact hsz
            simp [Act.put, this]
          · rw [ev j (Ne.symm hjk)]
            have hne : dstOf ops k ≠ some s := (slots_spec hs hj hkl hjk hjs).1
            rw [hdst] at hne
            have hold := I.hit j s hj (listed_of_set hjl hjk) hjs hsz
            cases hod : o.dst with
            | none => exact hold
            | some t =>
              have hts : t ≠ s := fun e => hne (by rw [hod, e])
              simp only [Act.put]
              rw [Array.getElem?_setIfInBounds_ne hts]
              exact hold
        · intro s hno
          have hne : dstOf ops k ≠ some s := hno k hkl (listed_set_self (by rw [I.size]; exact hkl))
          rw [hdst] at hne
          have hold := I.miss s fun j hj hjl => hno j hj (listed_set hjl)
          cases hod : o.dst with
          | none => exact hold
          | some t =>
            have hts : t ≠ s := fun e => hne (by rw [hod, e])
            simp only [Act.put]
            rw [Array.getElem?_setIfInBounds_ne hts]
            exact hold
        · intro j hj hjl hx
          by_cases hjk : k = j
          · subst hjk; rw [euk]; exact hgv
          · rw [eu j (Ne.symm hjk)]
            exact hgr j hj (Ne.symm hjk) (listed_of_set hjl hjk) hx
      unfold wpOp
      simp only [ho]
      unfold one at h1
      rw [← e2] at h1
      split
      · rename_i hw
        rw [if_pos hw] at h1
        rw [← e1] at h1
        exact .inl (upon_of_come h1 fun v w' hv => next v w' (fun j hj _ hjl hx => t1 j (Nat.zero_le _) hx _ _ _ (I.says j hj hjl hx) hv.1) hv.2.1 hv.2.2)
      · rename_i hw
        rw [if_neg hw] at h1
        exact next undef w (fun j hj _ hjl hx => I.says j hj hjl hx) h1.1 h1.2

/-- **A region that draws its order, by one walk in the order of the text.** -/
theorem wp_region_lex {id : Nat} {a : Act} {w : World} (T : List (List Nat)) (hm : P.follows .mixedOrders = true) (hB : checkB ops T = true) (h0 : J (fun _ => false) (fun _ => undef) w.drew)
    (h : Lex P ops T J R (fun a w => Q .normal a w) ops.toList 0 (fun _ => a) []) : (Code.region id ops true).wp P Q a w := by
  unfold checkB at hB
  simp only [Bool.and_eq_true] at hB
  obtain ⟨⟨h1, h2⟩, h3⟩ := hB
  obtain ⟨x, g, H⟩ := wpAny_of_lex (Q := Q) h1 h2 h3 h
  refine wp_region_any hm ?_
  show wpAny P .any ops Q ops.size (Array.replicate ops.size false) a w.drew
  have hfl : fl (Array.replicate ops.size false) = fun _ => false := by
    funext j
    unfold fl
    by_cases hlt : j < ops.size <;> simp [Array.getD, hlt]
  refine H ops.size _ a w.drew (fun _ => undef) (List.range ops.size) (by simp) (fun i hi _ => List.mem_range.2 hi) ⟨by simp, by rw [hfl]; exact h0, ?_, rfl, rfl, ?_, fun s _ => rfl, ?_⟩
  all_goals
    have none_ : ∀ j, ¬ listedAt (Array.replicate ops.size false) j := fun j hj => by
      unfold listedAt at hj
      by_cases hlt : j < ops.size <;> simp [Array.getD, hlt] at hj
  · exact fun j _ hj => absurd hj (none_ j)
  · exact fun j s _ hj => absurd hj (none_ j)
  · exact fun j _ hj => absurd hj (none_ j)

theorem wp_region_text {id : Nat} {a : Act} {w : World} {l : List Oper} (J : (Nat → Bool) → (Nat → Value) → World → Prop) (R : World → World → Prop) (hm : P.follows .mixedOrders = true) (hB : checkB l.toArray (cloTab l.toArray l.toArray.size) = true) (h0 : J (fun _ => false) (fun _ => undef) w.drew)
    (h : Lex P l.toArray (cloTab l.toArray l.toArray.size) J R (fun a w => Q .normal a w) l 0 (fun _ => a) []) : (Code.region id l.toArray true).wp P Q a w :=
  wp_region_lex _ hm hB h0 (by simpa using h)
end
end Go.Proofs.Ythgigkklefaeeaa.Marks
