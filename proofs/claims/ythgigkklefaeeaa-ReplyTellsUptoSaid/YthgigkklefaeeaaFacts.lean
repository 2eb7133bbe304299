/-
  A region that draws its order, whose operations read, reckon, call and lay new memory, and change nothing that was there: one walk in the order of the text serves every order.
  Conditions: each operation is shown to come to its value from every world that is the first one with new blocks behind it, and with what is known of the operations that it waits for; what is known is kept by new blocks.
-/
import Derived.Orders
import Derived.Below
import Derived.KernelRfl
namespace Go.Proofs.Ythgigkklefaeeaa.Facts
set_option maxRecDepth 100000
set_option maxRecDepth 100000
set_option maxRecDepth 100000
open Go Go.RowKit

/-- Nothing that was there has turned. -/
def Grew (w w' : World) : Prop := Below w.heap.size w w'
theorem Grew.refl (w : World) : Grew w w := Below.refl _ _
theorem Grew.drew {a w : World} (h : Grew a w) : Grew a w.drew := Below.drew h
theorem Grew.trans {a b c : World} (h : Grew a b) (k : Grew b c) : Grew a c :=
  Below.trans h (Below.mono k h.size)

/-- It hands back a value of which R is known. -/
def retd (R : Value → World → Prop) (e : Ending) (w : World) : Prop := ∃ v, e = .returned v ∧ R v w
/-- Only new memory, and g is known of the value. -/
def gone (w : World) (g : Value → World → Prop) (v : Value) (w' : World) : Prop := Grew w w' ∧ g v w'

/-- What a run comes to. -/
def come (P : Program) (R : Value → World → Prop) : Result Next → Prop
  | .ok (.value v) w' => R v w'
  | .ok .skip w' => R undef w'
  | .ok (.enter f args) w' => Calls P f args w' (retd R)
  | _ => False

theorem upon_of_come {P : Program} {o : Oper} {a : Act} {R : Value → World → Prop} {K : Act → World → Prop} {Q : Exit → Act → World → Prop} {r : Result Next}
    (h : come P R r) (hK : ∀ v w', R v w' → K (a.put o.dst v) w') : o.upon P a K Q r := by
  cases r with
  | ok n w' =>
    cases n <;> simp only [come] at h <;> simp only [Oper.upon]
    case value u => exact hK _ _ h
    case skip => exact hK _ _ h
    case enter f args =>
      refine h.mono fun e w'' he => ?_
      obtain ⟨v, rfl, hr⟩ := he
      exact hK _ _ hr
  | halt x w' => simp only [come] at h

/-- One operation, carried out in this state and world, or passed over. -/
def one (P : Program) (ops : Array Oper) (o : Oper) (a : Act) (w : World) (g : Value → World → Prop) : Prop :=
  if Region.wanted o (yielded ops a.tmps) then come P (gone w g) ((execOp a.eval o).run P w) else g undef w

def Stable (g : Value → World → Prop) : Prop := ∀ v w w', g v w → Grew w w' → g v w'

/-- What is known of the operations in A. -/
def known (A : List Nat) (u : Nat → Value) (w : World) : List (Nat × (Value → World → Prop)) → Prop
  | [] => True
  | p :: r => match A.contains p.1 with
    | true => p.2 (u p.1) w ∧ known A u w r
    | false => known A u w r

theorem known_of {A : List Nat} {u : Nat → Value} {w : World} : ∀ {L : List (Nat × (Value → World → Prop))},
    (∀ p ∈ L, p.1 ∈ A → p.2 (u p.1) w) → known A u w L
  | [], _ => trivial
  | p :: r, h => by
    unfold known
    have ih := known_of (L := r) fun q hq => h q (List.mem_cons_of_mem _ hq)
    split
    · rename_i hc
      exact ⟨h p (List.mem_cons_self ..) (by simpa using hc), ih⟩
    · exact ih

def deps (ops : Array Oper) (k : Nat) : List Nat :=
  match ops[k]? with
  | some o => (o.after.toList.filter (Region.binds .any)).map (·.on)
  | none => []

/-- Whom each operation waits for, by whatever way. -/
def cloTab (ops : Array Oper) : Nat → List (List Nat)
  | 0 => []
  | n + 1 =>
    let t := cloTab ops n
    let d := deps ops n
    t ++ [(d ++ d.flatMap fun j => t.getD j []).eraseDups]

def sub (A B : List Nat) : Bool := A.all fun j => B.contains j

def clos (T : List (List Nat)) (k : Nat) : List Nat := T.getD k []

/-- The table's own look: each one that stands in a row is waited for. -/
def goodB (ops : Array Oper) (T : List (List Nat)) : Bool :=
  (List.range ops.size).all fun k =>
    ((deps ops k).all fun j => decide (j < k)) &&
    ((clos T k).all fun j => (deps ops k).contains j || (deps ops k).any fun m => decide (m < k) && (clos T m).contains j)

def dstOf (ops : Array Oper) (k : Nat) : Option Tmp := (ops[k]?).bind (·.dst)
def looks (ops : Array Oper) (k : Nat) : List Tmp := match ops[k]? with | some o => o.looksAt ops | none => []

/-- Slots: each is written once; who looks at one that is written waits for the writer, or the writer waits for him. -/
def slotsB (ops : Array Oper) (T : List (List Nat)) : Bool :=
  (List.range ops.size).all fun j =>
    match dstOf ops j with
    | none => true
    | some s => (List.range ops.size).all fun k =>
        (k == j) || ((dstOf ops k != some s) &&
          (!(looks ops k).contains s || (decide (j < k) && (clos T k).contains j) || (decide (k < j) && (clos T j).contains k)))

def checkB (ops : Array Oper) (T : List (List Nat)) : Bool := Region.noSelect ops && goodB ops T && slotsB ops T

section
variable (P : Program) (ops : Array Oper) (T : List (List Nat)) (W0 : World) (Q : Act → World → Prop)

/-- The walk in the order of the text. -/
def Lex : List Oper → Nat → ((Nat → Value) → Act) → List (Nat × (Value → World → Prop)) → Prop
  | [], _, a, L => ∀ u w, Grew W0 w → (∀ p ∈ L, p.2 (u p.1) w) → Q (a u) w
  | o :: rest, k, a, L =>
    (∃ (A : List Nat) (c : Value), sub A (clos T k) = true ∧ (∀ u w, Grew W0 w → known A u w L → one P ops o (a u) w (fun v _ => v = c)) ∧
      Lex rest (k + 1) (fun u => (a u).put o.dst c) L) ∨
    (∃ (A : List Nat) (g : Value → World → Prop), sub A (clos T k) = true ∧ Stable g ∧ (∀ u w, Grew W0 w → known A u w L → one P ops o (a u) w g) ∧
      Lex rest (k + 1) (fun u => (a u).put o.dst (u k)) ((k, g) :: L))
end

section
variable {P : Program} {ops : Array Oper} {T : List (List Nat)} {W0 : World} {Q : Act → World → Prop}

theorem Lex.done {k : Nat} {a : (Nat → Value) → Act} {L : List (Nat × (Value → World → Prop))} (h : ∀ u w, Grew W0 w → (∀ p ∈ L, p.2 (u p.1) w) → Q (a u) w) : Lex P ops T W0 Q [] k a L := h
theorem Lex.exact {o : Oper} {rest : List Oper} {k : Nat} {a : (Nat → Value) → Act} {L : List (Nat × (Value → World → Prop))} (A : List Nat) (c : Value) (hA : sub A (clos T k) = true)
    (h : ∀ u w, Grew W0 w → known A u w L → one P ops o (a u) w (fun v _ => v = c)) (hr : Lex P ops T W0 Q rest (k + 1) (fun u => (a u).put o.dst c) L) : Lex P ops T W0 Q (o :: rest) k a L :=
  .inl ⟨A, c, hA, h, hr⟩
theorem Lex.know {o : Oper} {rest : List Oper} {k : Nat} {a : (Nat → Value) → Act} {L : List (Nat × (Value → World → Prop))} (A : List Nat) (g : Value → World → Prop) (hA : sub A (clos T k) = true) (hg : Stable g)
    (h : ∀ u w, Grew W0 w → known A u w L → one P ops o (a u) w g) (hr : Lex P ops T W0 Q rest (k + 1) (fun u => (a u).put o.dst (u k)) ((k, g) :: L)) : Lex P ops T W0 Q (o :: rest) k a L :=
  .inr ⟨A, g, hA, hg, h, hr⟩

/-- The state behind the first k operations, in the order of the text. -/
def stateAt (ops : Array Oper) (val : Nat → (Nat → Value) → Value) (a0 : (Nat → Value) → Act) (k : Nat) : Nat → (Nat → Value) → Act
  | 0, u => a0 u
  | n + 1, u => (stateAt ops val a0 k n u).put (dstOf ops (k + n)) (val (k + n) u)

def valOf (x : Nat → Option Value) (k : Nat) (u : Nat → Value) : Value := (x k).getD (u k)

theorem stateAt_shift (val : Nat → (Nat → Value) → Value) (a0 : (Nat → Value) → Act) (k : Nat) : ∀ n u,
    stateAt ops val (fun u => (a0 u).put (dstOf ops k) (val k u)) (k + 1) n u = stateAt ops val a0 k (n + 1) u
  | 0, u => rfl
  | n + 1, u => by
    show (stateAt ops val _ (k + 1) n u).put _ _ = _
    rw [stateAt_shift val a0 k n u]
    show _ = (stateAt ops val a0 k (n + 1) u).put (dstOf ops (k + (n + 1))) (val (k + (n + 1)) u)
    rw [show k + 1 + n = k + (n + 1) from by omega]

theorem stateAt_congr {val val' : Nat → (Nat → Value) → Value} (a0 : (Nat → Value) → Act) (k : Nat) (h : ∀ j, k ≤ j → val j = val' j) : ∀ n u,
    stateAt ops val a0 k n u = stateAt ops val' a0 k n u
  | 0, u => rfl
  | n + 1, u => by
    show (stateAt ops val a0 k n u).put _ _ = (stateAt ops val' a0 k n u).put _ _
    rw [stateAt_congr a0 k h n u, h (k + n) (by omega)]

/-- The table out of the walk. -/
theorem Lex.table : ∀ (l : List Oper) (k : Nat) (a : (Nat → Value) → Act) (L : List (Nat × (Value → World → Prop))), (∀ j, l[j]? = ops[k + j]?) → (∀ p ∈ L, p.1 < k) → Lex P ops T W0 Q l k a L →
    ∃ (x : Nat → Option Value) (g : Nat → Value → World → Prop) (A : Nat → List Nat),
      (∀ j, k ≤ j → x j = none → Stable (g j)) ∧ (∀ j c, k ≤ j → x j = some c → g j = fun v _ => v = c) ∧
      (∀ n o, l[n]? = some o → sub (A (k + n)) (clos T (k + n)) = true ∧ ∀ u w, Grew W0 w → known (A (k + n)) u w L →
        (∀ j, k ≤ j → j < k + n → j ∈ A (k + n) → x j = none → g j (u j) w) → one P ops o (stateAt ops (valOf x) a k n u) w (g (k + n))) ∧
      (∀ u w, Grew W0 w → (∀ p ∈ L, p.2 (u p.1) w) → (∀ j, k ≤ j → j < k + l.length → x j = none → g j (u j) w) → Q (stateAt ops (valOf x) a k l.length u) w)
  | [], k, a, L, _, _, h => ⟨fun _ => none, fun _ _ _ => True, fun _ => [], fun _ _ _ => fun _ _ _ _ _ => trivial, (fun _ _ _ e => by cases e), (fun n o e => by simp at e), fun u w hw hL _ => h u w hw hL⟩
  | o :: l, k, a, L, hl, hk, h => by
    have ho : ops[k]? = Option.some o := by simpa using (hl 0).symm
    have hd : dstOf ops k = o.dst := by simp [dstOf, ho]
    have hl' : ∀ j, l[j]? = ops[k + 1 + j]? := fun j => by have := hl (j + 1); simpa [Nat.add_assoc, Nat.add_comm 1 j] using this
    rcases h with ⟨A0, c, hA, h1, hr⟩ | ⟨A0, g0, hA, hg, h1, hr⟩
    · obtain ⟨x, g, A, t1, t2, t3, t4⟩ := Lex.table l (k + 1) _ L hl' (fun p hp => by have := hk p hp; omega) hr
      let x' : Nat → Option Value := fun j => if j = k then Option.some c else x j
      let g' : Nat → Value → World → Prop := fun j => if j = k then (fun v _ => v = c) else g j
      let A' : Nat → List Nat := fun j => if j = k then A0 else A j
      have ex : x' k = Option.some c := by simp [x']
      have eg : g' k = fun v _ => v = c := by simp [g']
      have eA : A' k = A0 := by simp [A']
      have ex' : ∀ j, k + 1 ≤ j → x' j = x j := fun j hj => by simp only [x']; rw [if_neg (by omega)]
      have eg' : ∀ j, k + 1 ≤ j → g' j = g j := fun j hj => by simp only [g']; rw [if_neg (by omega)]
      have eA' : ∀ j, k + 1 ≤ j → A' j = A j := fun j hj => by simp only [A']; rw [if_neg (by omega)]
      have ev : ∀ u, valOf x' k u = c := fun u => by simp [valOf, ex]
      have est : ∀ n u, stateAt ops (valOf x) (fun u => (a u).put o.dst c) (k + 1) n u = stateAt ops (valOf x') a k (n + 1) u := fun n u => by
        rw [← stateAt_shift]
        rw [stateAt_congr _ _ (val := valOf x) (val' := valOf x') (fun j hj => by funext u; simp [valOf, ex' j hj])]
        congr 1
        funext u
        rw [hd, ev]
      refine ⟨x', g', A', fun j hj hn => ?_, fun j cc hj hs => ?_, fun n oo hn => ?_, fun u w hw hL hf => ?_⟩
      · rcases Nat.eq_or_lt_of_le hj with e | e
        · subst e; rw [ex] at hn; cases hn
        · rw [eg' j e]; exact t1 j e (by rw [← ex' j e]; exact hn)
      · rcases Nat.eq_or_lt_of_le hj with e | e
        · subst e; rw [ex] at hs; cases hs; exact eg
        · rw [eg' j e]; exact t2 j cc e (by rw [← ex' j e]; exact hs)
      · cases n with
        | zero =>
          simp only [List.getElem?_cons_zero, Option.some.injEq] at hn
          subst hn
          simp only [Nat.add_zero, eA, eg]
          exact ⟨hA, fun u w hw hK _ => h1 u w hw hK⟩
        | succ n =>
          simp only [List.getElem?_cons_succ] at hn
          obtain ⟨s1, s2⟩ := t3 n oo hn
          rw [show k + (n + 1) = k + 1 + n from by omega, eA' _ (by omega), eg' _ (by omega)]
          refine ⟨s1, fun u w hw hK hf => ?_⟩
          rw [← est]
          exact s2 u w hw hK fun j hj hjn hjA hx => by
            rw [← eg' j hj]
            exact hf j (by omega) (by omega) hjA (by rw [ex' j hj]; exact hx)
      · have := t4 u w hw hL fun j hj hjn hx => by
          rw [← eg' j hj]
          exact hf j (by omega) (by simp only [List.length_cons]; omega) (by rw [ex' j hj]; exact hx)
        rw [est] at this
        exact this
    · obtain ⟨x, g, A, t1, t2, t3, t4⟩ := Lex.table l (k + 1) _ ((k, g0) :: L) hl' (fun p hp => by
        rcases List.mem_cons.1 hp with e | e
        · subst e; exact Nat.lt_succ_self k
        · have := hk p e; omega) hr
      let x' : Nat → Option Value := fun j => if j = k then none else x j
      let g' : Nat → Value → World → Prop := fun j => if j = k then g0 else g j
      let A' : Nat → List Nat := fun j => if j = k then A0 else A j
      have ex : x' k = none := by simp [x']
      have eg : g' k = g0 := by simp [g']
      have eA : A' k = A0 := by simp [A']
      have ex' : ∀ j, k + 1 ≤ j → x' j = x j := fun j hj => by simp only [x']; rw [if_neg (by omega)]
      have eg' : ∀ j, k + 1 ≤ j → g' j = g j := fun j hj => by simp only [g']; rw [if_neg (by omega)]
      have eA' : ∀ j, k + 1 ≤ j → A' j = A j := fun j hj => by simp only [A']; rw [if_neg (by omega)]
      have ev : ∀ u, valOf x' k u = u k := fun u => by simp [valOf, ex]
      have est : ∀ n u, stateAt ops (valOf x) (fun u => (a u).put o.dst (u k)) (k + 1) n u = stateAt ops (valOf x') a k (n + 1) u := fun n u => by
        rw [← stateAt_shift]
        rw [stateAt_congr _ _ (val := valOf x) (val' := valOf x') (fun j hj => by funext u; simp [valOf, ex' j hj])]
        congr 1
        funext u
        rw [hd, ev]
      refine ⟨x', g', A', fun j hj hn => ?_, fun j cc hj hs => ?_, fun n oo hn => ?_, fun u w hw hL hf => ?_⟩
      · rcases Nat.eq_or_lt_of_le hj with e | e
        · subst e; rw [eg]; exact hg
        · rw [eg' j e]; exact t1 j e (by rw [← ex' j e]; exact hn)
      · rcases Nat.eq_or_lt_of_le hj with e | e
        · subst e; rw [ex] at hs; cases hs
        · rw [eg' j e]; exact t2 j cc e (by rw [← ex' j e]; exact hs)
      · cases n with
        | zero =>
          simp only [List.getElem?_cons_zero, Option.some.injEq] at hn
          subst hn
          simp only [Nat.add_zero, eA, eg]
          exact ⟨hA, fun u w hw hK _ => h1 u w hw hK⟩
        | succ n =>
          simp only [List.getElem?_cons_succ] at hn
          obtain ⟨s1, s2⟩ := t3 n oo hn
          have hkk : k + (n + 1) = k + 1 + n := by omega
          rw [hkk, eA' _ (by omega), eg' _ (by omega)]
          refine ⟨s1, fun u w hw hK hf => ?_⟩
          rw [← est]
          refine s2 u w hw ?_ fun j hj hjn hjA hx => by
            rw [← eg' j hj]
            exact hf j (by omega) (by omega) hjA (by rw [ex' j hj]; exact hx)
          show (match (A (k + 1 + n)).contains k with
            | true => g0 (u k) w ∧ known (A (k + 1 + n)) u w L
            | false => known (A (k + 1 + n)) u w L)
          split
          · rename_i hc
            refine ⟨?_, hK⟩
            have := hf k (Nat.le_refl _) (by omega) (by simpa using hc) ex
            rwa [eg] at this
          · exact hK
      · have := t4 u w hw (fun p hp => by
          rcases List.mem_cons.1 hp with e | e
          · subst e
            have := hf k (Nat.le_refl _) (by simp only [List.length_cons]; omega) ex
            rwa [eg] at this
          · exact hL p e) fun j hj hjn hx => by
          rw [← eg' j hj]
          exact hf j (by omega) (by simp only [List.length_cons]; omega) (by rw [ex' j hj]; exact hx)
        rw [est] at this
        exact this
end

section
variable {ops : Array Oper} {T : List (List Nat)}

theorem good_spec (h : goodB ops T = true) {k : Nat} (hk : k < ops.size) : (∀ j ∈ deps ops k, j < k) ∧ ∀ j ∈ clos T k, j ∈ deps ops k ∨ ∃ m ∈ deps ops k, m < k ∧ j ∈ clos T m := by
  unfold goodB at h
  have h1 := List.all_eq_true.1 h k (List.mem_range.2 hk)
  simp only [Bool.and_eq_true, List.all_eq_true, decide_eq_true_eq, Bool.or_eq_true, List.contains_iff_mem, List.any_eq_true] at h1
  exact ⟨h1.1, fun j hj => (h1.2 j hj).imp id fun ⟨m, hm, a, b⟩ => ⟨m, hm, a, b⟩⟩

theorem slots_spec (h : slotsB ops T = true) {j k : Nat} (hj : j < ops.size) (hk : k < ops.size) (hne : k ≠ j) {s : Tmp} (hs : dstOf ops j = some s) :
    dstOf ops k ≠ some s ∧ (s ∈ looks ops k → (j < k ∧ j ∈ clos T k) ∨ (k < j ∧ k ∈ clos T j)) := by
  unfold slotsB at h
  have h1 := List.all_eq_true.1 h j (List.mem_range.2 hj)
  rw [hs] at h1
  have h2 := List.all_eq_true.1 h1 k (List.mem_range.2 hk)
  simp only [Bool.or_eq_true, beq_iff_eq, hne, false_or, Bool.and_eq_true, bne_iff_ne, ne_eq, Bool.not_eq_true', decide_eq_true_eq, List.contains_iff_mem] at h2
  refine ⟨h2.1, fun hl => ?_⟩
  rcases h2.2 with (h3 | h3) | h3
  · have : (looks ops k).contains s = true := List.contains_iff_mem.2 hl
    rw [this] at h3
    cases h3
  · exact .inl h3
  · exact .inr h3

def listedAt (l : Array Bool) (j : Nat) : Prop := l.getD j false = true

def Closed (ops : Array Oper) (l : Array Bool) : Prop := ∀ j, j < ops.size → listedAt l j → ∀ d ∈ deps ops j, listedAt l d

theorem clos_listed (hg : goodB ops T = true) {l : Array Bool} (hc : Closed ops l) : ∀ (n k : Nat), k ≤ n → k < ops.size → (∀ d ∈ deps ops k, listedAt l d) → ∀ j ∈ clos T k, listedAt l j
  | n, k, hkn, hk, hd, j, hj => by
    rcases (good_spec hg hk).2 j hj with h | ⟨m, hm, hmk, hjm⟩
    · exact hd j h
    · cases n with
      | zero => omega
      | succ n => exact clos_listed hg hc n m (by omega) (by omega) (hc m (by omega) (hd m hm)) j hjm

theorem listed_set {l : Array Bool} {k j : Nat} (h : listedAt l j) : listedAt (l.setIfInBounds k true) j := getD_set_true h
theorem listed_set_self {l : Array Bool} {k : Nat} (h : k < l.size) : listedAt (l.setIfInBounds k true) k := by simp [listedAt, h]
theorem listed_of_set {l : Array Bool} {k j : Nat} (h : listedAt (l.setIfInBounds k true) j) (hne : k ≠ j) : listedAt l j := by
  unfold listedAt at *
  rwa [getD_set_ne false hne] at h

theorem ready_spec {l : Array Bool} (hs : l.size = ops.size) {k : Nat} (h : k ∈ Region.ready .any ops l) :
    k < ops.size ∧ ¬ listedAt l k ∧ ∃ o, ops[k]? = some o ∧ ∀ d ∈ deps ops k, listedAt l d := by
  obtain ⟨h0, o, ho, hall⟩ := mem_ready.1 h
  have hk : k < ops.size := (Array.getElem?_eq_some_iff.1 ho).1
  refine ⟨hk, fun hl => ?_, o, ho, fun d hd => ?_⟩
  · unfold listedAt at hl
    simp [Array.getD, hs, hk] at h0 hl
    rw [h0] at hl
    cases hl
  · simp only [deps, ho, List.mem_map, List.mem_filter] at hd
    obtain ⟨e, ⟨he, hb⟩, rfl⟩ := hd
    exact hall e (by simpa using he) hb

/-- The slots of the state behind the first n operations. -/
theorem stateAt_slots (val : Nat → (Nat → Value) → Value) (a : Act) (u : Nat → Value) : ∀ n, n ≤ ops.size →
    (stateAt ops val (fun _ => a) 0 n u).tmps.size = a.tmps.size ∧ (stateAt ops val (fun _ => a) 0 n u).defers = a.defers ∧
    (∀ s : Tmp, (∀ j, j < n → dstOf ops j ≠ some s) → (stateAt ops val (fun _ => a) 0 n u).tmps[s]? = a.tmps[s]?) ∧
    (∀ (j : Nat) (s : Tmp), j < n → dstOf ops j = some s → (∀ k, k < ops.size → k ≠ j → dstOf ops k ≠ some s) → s < a.tmps.size → (stateAt ops val (fun _ => a) 0 n u).tmps[s]? = some (val j u))
  | 0, _ => ⟨rfl, rfl, fun _ _ => rfl, fun _ _ h => absurd h (Nat.not_lt_zero _)⟩
  | n + 1, hn => by
    obtain ⟨h1, h2, h3, h4⟩ := stateAt_slots val a u n (by omega)
    have e : stateAt ops val (fun _ => a) 0 (n + 1) u = (stateAt ops val (fun _ => a) 0 n u).put (dstOf ops n) (val n u) := by
      show (stateAt ops val (fun _ => a) 0 n u).put (dstOf ops (0 + n)) (val (0 + n) u) = _
      rw [Nat.zero_add]
    rw [e]
    generalize stateAt ops val (fun _ => a) 0 n u = st at *
    cases hd : dstOf ops n with
    | none =>
      refine ⟨h1, h2, fun s hs => h3 s fun j hj => hs j (by omega), fun j s hj hjs hu hs => ?_⟩
      rcases Nat.lt_succ_iff_lt_or_eq.1 hj with h | h
      · exact h4 j s h hjs hu hs
      · subst h; rw [hd] at hjs; cases hjs
    | some t =>
      refine ⟨by simp [Act.put, h1], h2, fun s hs => ?_, fun j s hj hjs hu hs => ?_⟩
      · have hne : t ≠ s := fun e => hs n (by omega) (by rw [hd, e])
        simp only [Act.put]
        rw [Array.getElem?_setIfInBounds_ne hne]
        exact h3 s fun j hj => hs j (by omega)
      · rcases Nat.lt_succ_iff_lt_or_eq.1 hj with h | h
        · have hne : t ≠ s := fun e => hu n (by omega) (by omega) (by rw [hd, e])
          simp only [Act.put]
          rw [Array.getElem?_setIfInBounds_ne hne]
          exact h4 j s h hjs hu hs
        · subst h
          rw [hd] at hjs
          cases hjs
          simp [Act.put, h1, hs]

theorem exec_agree (hn : Region.noSelect ops = true) {k : Nat} {o : Oper} (ho : ops[k]? = some o) {a b : Act} (h : ∀ s ∈ looks ops k, a.tmps[s]? = b.tmps[s]?) :
    execOp a.eval o = execOp b.eval o ∧ Region.wanted o (yielded ops a.tmps) = Region.wanted o (yielded ops b.tmps) := by
  have hl : looks ops k = o.looksAt ops := by simp [looks, ho]
  rw [hl] at h
  constructor
  · refine execOp_congr o (fun cs b => Region.noSelect_spec hn k o cs b ho) fun x hx => ?_
    cases x with
    | tmp t =>
      have := h t (by
        unfold Oper.looksAt
        exact List.mem_append_left _ (List.mem_filterMap.2 ⟨.tmp t, by simpa using hx, rfl⟩))
      simp [Act.eval, Array.getD_eq_getD_getElem?, this]
    | _ => rfl
  · unfold Region.wanted
    cases hg : o.guard with
    | none => rfl
    | some gw =>
      obtain ⟨g, want⟩ := gw
      have hy : yielded ops a.tmps g = yielded ops b.tmps g := by
        unfold yielded
        cases ht : (ops[g]?).bind (·.dst) with
        | none => rfl
        | some t =>
          have := h t (by
            unfold Oper.looksAt
            refine List.mem_append_right _ ?_
            simp [hg, ht])
          simp [this]
      simp only [hy]
end

section
variable {P : Program} {ops : Array Oper} {T : List (List Nat)} {W0 : World} {Q : Exit → Act → World → Prop}

structure Inv (ops : Array Oper) (W0 : World) (x : Nat → Option Value) (g : Nat → Value → World → Prop) (a : Act) (l : Array Bool) (b : Act) (w : World) (u : Nat → Value) : Prop where
  size : l.size = ops.size
  grew : Grew W0 w
  closed : Closed ops l
  tsize : b.tmps.size = a.tmps.size
  defers : b.defers = a.defers
  hit : ∀ (j : Nat) (s : Tmp), j < ops.size → listedAt l j → dstOf ops j = some s → s < a.tmps.size → b.tmps[s]? = some (valOf x j u)
  miss : ∀ s : Tmp, (∀ j, j < ops.size → listedAt l j → dstOf ops j ≠ some s) → b.tmps[s]? = a.tmps[s]?
  says : ∀ j, j < ops.size → listedAt l j → x j = none → g j (u j) w

theorem agree (hg : goodB ops T = true) (hs : slotsB ops T = true) {x : Nat → Option Value} {g : Nat → Value → World → Prop} {a : Act} {l : Array Bool} {b : Act} {w : World} {u : Nat → Value}
    (I : Inv ops W0 x g a l b w u) {k : Nat} (hk : k < ops.size) (hun : ¬ listedAt l k) (hd : ∀ d ∈ deps ops k, listedAt l d) :
    ∀ s ∈ looks ops k, b.tmps[s]? = (stateAt ops (valOf x) (fun _ => a) 0 k u).tmps[s]? := by
  intro s hsl
  obtain ⟨q1, _, q3, q4⟩ := stateAt_slots (ops := ops) (valOf x) a u k (Nat.le_of_lt hk)
  have hcl := clos_listed hg I.closed k k (Nat.le_refl _) hk hd
  by_cases hw : ∃ j, j < ops.size ∧ listedAt l j ∧ dstOf ops j = some s
  · obtain ⟨j, hj, hjl, hjs⟩ := hw
    have hne : k ≠ j := fun e => hun (e ▸ hjl)
    rcases (slots_spec hs hj hk hne hjs).2 hsl with ⟨hlt, _⟩ | ⟨_, hmem⟩
    · by_cases hb : s < a.tmps.size
      · rw [I.hit j s hj hjl hjs hb, q4 j s hlt hjs (fun m hm hmj => (slots_spec hs hj hm hmj hjs).1) hb]
      · rw [Array.getElem?_eq_none (Nat.le_trans (Nat.le_of_eq I.tsize) (Nat.le_of_not_lt hb)), Array.getElem?_eq_none (Nat.le_trans (Nat.le_of_eq q1) (Nat.le_of_not_lt hb))]
    · exact absurd (clos_listed hg I.closed j j (Nat.le_refl _) hj (I.closed j hj hjl) k hmem) hun
  · have hno : ∀ j, j < ops.size → listedAt l j → dstOf ops j ≠ some s := fun j hj hjl hjs => hw ⟨j, hj, hjl, hjs⟩
    rw [I.miss s hno, q3 s]
    intro j hj hjs
    have hne : k ≠ j := by omega
    rcases (slots_spec hs (by omega) hk hne hjs).2 hsl with ⟨_, hmem⟩ | ⟨hlt, _⟩
    · exact hno j (by omega) (hcl j hmem) hjs
    · omega

theorem wpAny_of_lex (hn : Region.noSelect ops = true) (hg : goodB ops T = true) (hs : slotsB ops T = true) {a : Act} (hlex : Lex P ops T W0 (fun a w => Q .normal a w) ops.toList 0 (fun _ => a) []) :
    ∃ (x : Nat → Option Value) (g : Nat → Value → World → Prop), ∀ (fuel : Nat) (l : Array Bool) (b : Act) (w : World) (u : Nat → Value) (U : List Nat), U.length ≤ fuel →
      (∀ i, i < ops.size → ¬ listedAt l i → i ∈ U) → Inv ops W0 x g a l b w u → wpAny P .any ops Q fuel l b w := by
  obtain ⟨x, g, A, t1, t2, t3, t4⟩ := Lex.table ops.toList 0 _ [] (by intro j; simp) (by intro p hp; cases hp) hlex
  refine ⟨x, g, ?_⟩
  -- all are listed: what stands behind the region
  have fin : ∀ (l : Array Bool) (b : Act) (w : World) (u : Nat → Value), (∀ i, i < ops.size → listedAt l i) → Inv ops W0 x g a l b w u → Q .normal b w := by
    intro l b w u hall I
    have h := t4 u w I.grew (fun p hp => by cases hp) (fun j _ hj hx => I.says j (by simpa using hj) (hall j (by simpa using hj)) hx)
    obtain ⟨q1, q2, q3, q4⟩ := stateAt_slots (ops := ops) (valOf x) a u ops.size (Nat.le_refl _)
    have e : b = stateAt ops (valOf x) (fun _ => a) 0 ops.toList.length u := by
      rw [Array.length_toList]
      have et : b.tmps = (stateAt ops (valOf x) (fun _ => a) 0 ops.size u).tmps := by
        apply Array.ext_getElem?
        intro s
        by_cases hw : ∃ j, j < ops.size ∧ dstOf ops j = some s
        · obtain ⟨j, hj, hjs⟩ := hw
          by_cases hb : s < a.tmps.size
          · rw [I.hit j s hj (hall j hj) hjs hb, q4 j s hj hjs (fun m hm hmj => (slots_spec hs hj hm hmj hjs).1) hb]
          · rw [Array.getElem?_eq_none (Nat.le_trans (Nat.le_of_eq I.tsize) (Nat.le_of_not_lt hb)), Array.getElem?_eq_none (Nat.le_trans (Nat.le_of_eq q1) (Nat.le_of_not_lt hb))]
        · rw [I.miss s fun j hj _ hjs => hw ⟨j, hj, hjs⟩, q3 s fun j hj hjs => hw ⟨j, hj, hjs⟩]
      have ed : b.defers = (stateAt ops (valOf x) (fun _ => a) 0 ops.size u).defers := I.defers.trans q2.symm
      cases b
      generalize stateAt ops (valOf x) (fun _ => a) 0 ops.size u = st at *
      cases st
      simp_all
    rw [e]
    exact h
  intro fuel
  induction fuel with
  | zero =>
    intro l b w u U hU hun I
    have hall : ∀ i, i < ops.size → listedAt l i := fun i hi => Classical.byContradiction fun h => by
      have := hun i hi h
      have hU0 : U = [] := List.eq_nil_of_length_eq_zero (by omega)
      rw [hU0] at this
      cases this
    refine ⟨?_, fin l b w u hall I⟩
    refine List.eq_nil_iff_forall_not_mem.2 fun k hk => ?_
    obtain ⟨h1, h2, _⟩ := ready_spec I.size hk
    exact h2 (hall k h1)
  | succ fuel ih =>
    intro l b w u U hU hun I
    refine ⟨fun h0 => fin l b w u ?_ I, fun k hk => ?_⟩
    · -- none is ready: all are listed
      have H : ∀ n i, i ≤ n → i < ops.size → listedAt l i := by
        intro n
        induction n with
        | zero =>
          intro i hin hi
          refine Classical.byContradiction fun h => ?_
          have : i ∈ Region.ready .any ops l := by
            refine mem_ready.2 ⟨?_, ops[i], Array.getElem?_eq_getElem hi, fun e he hb => ?_⟩
            · unfold listedAt at h
              simpa [Array.getD, I.size, hi] using h
            · have := (good_spec hg hi).1 e.on (by
                simp only [deps, Array.getElem?_eq_getElem hi, List.mem_map, List.mem_filter]
                exact ⟨e, ⟨by simpa using he, hb⟩, rfl⟩)
              omega
          rw [h0] at this
          cases this
        | succ n ihn =>
          intro i hin hi
          refine Classical.byContradiction fun h => ?_
          have : i ∈ Region.ready .any ops l := by
            refine mem_ready.2 ⟨?_, ops[i], Array.getElem?_eq_getElem hi, fun e he hb => ?_⟩
            · unfold listedAt at h
              simpa [Array.getD, I.size, hi] using h
            · have := (good_spec hg hi).1 e.on (by
                simp only [deps, Array.getElem?_eq_getElem hi, List.mem_map, List.mem_filter]
                exact ⟨e, ⟨by simpa using he, hb⟩, rfl⟩)
              exact ihn e.on (by omega) (by omega)
          rw [h0] at this
          cases this
      exact fun i hi => H i i (Nat.le_refl _) hi
    · obtain ⟨hkl, hku, o, ho, hd⟩ := ready_spec I.size hk
      have ag := agree hg hs I hkl hku hd
      obtain ⟨e1, e2⟩ := exec_agree hn ho ag
      have hcl := clos_listed hg I.closed k k (Nat.le_refl _) hkl hd
      obtain ⟨sA, hone⟩ := t3 k o (by simpa using ho)
      simp only [Nat.zero_add] at sA hone
      have hA : ∀ j ∈ A k, j ∈ clos T k := fun j hj => by
        have := List.all_eq_true.1 sA j hj
        simpa using this
      have h1 := hone u w I.grew trivial fun j _ hjk hjA hx => I.says j (by omega) (hcl j (hA j hjA)) hx
      have hdst : dstOf ops k = o.dst := by simp [dstOf, ho]
      -- the next state
      have next : ∀ v w', Grew w w' → g k v w' → wpAny P .any ops Q fuel (l.setIfInBounds k true) (b.put o.dst v) w' := by
        intro v w' hgr hgv
        let u' : Nat → Value := fun j => if j = k then v else u j
        have eu : ∀ j, j ≠ k → u' j = u j := fun j hj => by simp [u', hj]
        have euk : u' k = v := by simp [u']
        have evk : valOf x k u' = v := by
          unfold valOf
          cases hx : x k with
          | none => exact euk
          | some c =>
            have := t2 k c (Nat.zero_le _) hx
            rw [this] at hgv
            exact hgv.symm
        have ev : ∀ j, j ≠ k → valOf x j u' = valOf x j u := fun j hj => by simp [valOf, eu j hj]
        refine ih _ _ _ u' (U.erase k) ?_ ?_ ⟨by simpa using I.size, I.grew.trans hgr, ?_, ?_, ?_, ?_, ?_, ?_⟩
        · have := List.length_erase_of_mem (hun k hkl hku)
          omega
        · intro i hi hiu
          have hik : i ≠ k := fun e => by subst e; exact hiu (listed_set_self (by rw [I.size]; exact hkl))
          exact (List.mem_erase_of_ne hik).2 (hun i hi fun h => hiu (listed_set h))
        · intro j hj hjl d hdj
          by_cases hjk : k = j
          · subst hjk; exact listed_set (hd d hdj)
          · exact listed_set (I.closed j hj (listed_of_set hjl hjk) d hdj)
        · cases o.dst <;> simp [Act.put, I.tsize]
        · rw [← I.defers]; cases o.dst <;> rfl
        · intro j s hj hjl hjs hsz
          by_cases hjk : k = j
          · subst hjk
            rw [evk]
            rw [hdst] at hjs
            rw [hjs]
            have : s < b.tmps.size := by rw [I.tsize]; exact hsz
            simp [Act.put, this]
          · rw [ev j (Ne.symm hjk)]
            have hne : dstOf ops k ≠ some s := (slots_spec hs hj hkl hjk hjs).1
            rw [hdst] at hne
            have hold := I.hit j s hj (listed_of_set hjl hjk) hjs hsz
            cases hod : o.dst with
            | none => exact hold
            | some t =>
              have hts : t ≠ s := fun e => hne (by rw [hod, e])
              simp only [Act.put]
              rw [Array.getElem?_setIfInBounds_ne hts]
              exact hold
        · intro s hno
          have hne : dstOf ops k ≠ some s := hno k hkl (listed_set_self (by rw [I.size]; exact hkl))
          rw [hdst] at hne
          have hold := I.miss s fun j hj hjl => hno j hj (listed_set hjl)
          cases hod : o.dst with
          | none => exact hold
          | some t =>
            have hts : t ≠ s := fun e => hne (by rw [hod, e])
            simp only [Act.put]
            rw [Array.getElem?_setIfInBounds_ne hts]
            exact hold
        · intro j hj hjl hx
          by_cases hjk : k = j
          · subst hjk; rw [euk]; exact hgv
          · rw [eu j (Ne.symm hjk)]
            exact t1 j (Nat.zero_le _) hx _ _ _ (I.says j hj (listed_of_set hjl hjk) hx) hgr
      unfold wpOp
      simp only [ho]
      unfold one at h1
      rw [← e2] at h1
      split
      · rename_i hw
        rw [if_pos hw] at h1
        rw [← e1] at h1
        exact .inl (upon_of_come h1 fun v w' hv => next v w' hv.1 hv.2)
      · rename_i hw
        rw [if_neg hw] at h1
        exact next undef w (Grew.refl w) h1

/-- **A region that draws its order, by one walk in the order of the text.** -/
theorem wp_region_lex {id : Nat} {a : Act} {w : World} (T : List (List Nat)) (hm : P.follows .mixedOrders = true) (hB : checkB ops T = true)
    (h : Lex P ops T w (fun a w => Q .normal a w) ops.toList 0 (fun _ => a) []) : (Code.region id ops true).wp P Q a w := by
  unfold checkB at hB
  simp only [Bool.and_eq_true] at hB
  obtain ⟨⟨h1, h2⟩, h3⟩ := hB
  obtain ⟨x, g, H⟩ := wpAny_of_lex (Q := Q) h1 h2 h3 h
  refine wp_region_any hm ?_
  show wpAny P .any ops Q ops.size (Array.replicate ops.size false) a w.drew
  refine H ops.size _ a w.drew (fun _ => undef) (List.range ops.size) (by simp) (fun i hi _ => List.mem_range.2 hi) ⟨by simp, (Grew.refl w).drew, ?_, rfl, rfl, ?_, fun s _ => rfl, ?_⟩
  all_goals
    have none_ : ∀ j, ¬ listedAt (Array.replicate ops.size false) j := fun j hj => by
      unfold listedAt at hj
      by_cases hlt : j < ops.size <;> simp [Array.getD, hlt] at hj
  · exact fun j _ hj => absurd hj (none_ j)
  · exact fun j s _ hj => absurd hj (none_ j)
  · exact fun j _ hj => absurd hj (none_ j)

theorem wp_region_text {id : Nat} {a : Act} {w : World} {l : List Oper} (hm : P.follows .mixedOrders = true) (hB : checkB l.toArray (cloTab l.toArray l.toArray.size) = true)
    (h : Lex P l.toArray (cloTab l.toArray l.toArray.size) w (fun a w => Q .normal a w) l 0 (fun _ => a) []) : (Code.region id l.toArray true).wp P Q a w :=
  wp_region_lex _ hm hB (by simpa using h)
end
end Go.Proofs.Ythgigkklefaeeaa.Facts
