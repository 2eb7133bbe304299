/-
  A region that draws its order, within a round; rows of fills.
  Conditions: those that each lemma names.
-/
import Derived.Test.YtmnfajplfnfgpaaOJ
import Derived.Test.YtmnfajplfnfgpaaMarks
import Derived.Lib.Hide
import Derived.OrdersIn
import Derived.TacticsIn
import Derived.RangeFuncCalls
namespace Go.Proofs.Ytmnfajplfnfgpaa.OK
set_option maxRecDepth 100000
open Go Go.RowKit Go.Lib Go.Proofs.Ytmnfajplfnfgpaa Go.Proofs.Ytmnfajplfnfgpaa.Facts Go.Proofs.Ytmnfajplfnfgpaa.Ints Go.Proofs.Ytmnfajplfnfgpaa.PA Go.Proofs.Ytmnfajplfnfgpaa.UM Go.Proofs.Ytmnfajplfnfgpaa.UB Go.Proofs.Ytmnfajplfnfgpaa.OA Go.Proofs.Ytmnfajplfnfgpaa.BP Go.Proofs.Ytmnfajplfnfgpaa.OB Go.Proofs.Ytmnfajplfnfgpaa.OC Go.Proofs.Ytmnfajplfnfgpaa.OD Go.Proofs.Ytmnfajplfnfgpaa.OE Go.Proofs.Ytmnfajplfnfgpaa.OF Go.Proofs.Ytmnfajplfnfgpaa.OG Go.Proofs.Ytmnfajplfnfgpaa.OH Go.Proofs.Ytmnfajplfnfgpaa.OI Go.Proofs.Ytmnfajplfnfgpaa.OJ Go.Proofs.Ytmnfajplfnfgpaa.Marks Go.Proofs.Ytmnfajplfnfgpaa.Bytes


section
variable {P : Program} {ops : Array Oper} {J : (Nat → Bool) → (Nat → Value) → World → Prop} {R : World → World → Prop} {Q : Exit → Act → World → Prop}
theorem wpAny_lex {a : Act} {w : World} (T : List (List Nat)) (hB : checkB ops T = true) (h0 : J (fun _ => false) (fun _ => undef) w.drew)
    (h : Marks.Lex P ops T J R (fun a w => Q .normal a w) ops.toList 0 (fun _ => a) []) : wpAny P .any ops Q ops.size (Array.replicate ops.size false) a w.drew := by
  unfold checkB at hB
  simp only [Bool.and_eq_true] at hB
  obtain ⟨⟨h1, h2⟩, h3⟩ := hB
  obtain ⟨x, g, H⟩ := Marks.wpAny_of_lex (Q := Q) h1 h2 h3 h
  have hfl : fl (Array.replicate ops.size false) = fun _ => false := by
    funext j
    unfold fl
    by_cases hlt : j < ops.size <;> simp [Array.getD, hlt]
  refine H ops.size _ a w.drew (fun _ => undef) (List.range ops.size) (by simp) (fun i hi _ => List.mem_range.2 hi) ⟨by simp, by rw [hfl]; exact h0, ?_, rfl, rfl, ?_, fun s _ => rfl, ?_⟩
  all_goals
    have none_ : ∀ j, ¬ listedAt (Array.replicate ops.size false) j := fun j hj => by
      unfold listedAt at hj
      by_cases hlt : j < ops.size <;> simp [Array.getD, hlt] at hj
  · exact fun j _ hj => absurd hj (none_ j)
  · exact fun j s _ hj => absurd hj (none_ j)
  · exact fun j _ hj => absurd hj (none_ j)


theorem rows_wide {n : Nat} {row : String} {args : Array Value} {w : World} {X : Value → World → Prop} (h : Rows P row args w X) : RowsIn Fence.wide n P row args w X :=
  fun c cs _ => let ⟨v, w', r, s⟩ := h c cs; ⟨v, w', r, stepsIn_wide.2 s⟩
/-- One operation, carried out in a round as anywhere. -/
theorem op_round {o : Oper} {a : Act} {w : World} {lp n : Nat} {K K' : Act → World → Prop} {X : Act → World → Prop} {Q' : Exit → Act → World → Prop} (hd : ∀ c, o.op ≠ .defer c) (hK : ∀ a w, K a w → K' a w)
    (h : o.wp P a w K (fun e a w => e = .normal ∧ X a w)) : o.wpIn (Fence.wide.inRound lp) n P a w K' Q' := by
  refine ⟨fun _ _ => trivial, ?_⟩
  unfold Oper.wp at h
  rw [show (Fence.wide.inRound lp).round = some lp from rfl, Oper.semAt_some lp a.eval o hd]
  generalize (execOp a.eval o).run P w = r at *
  cases r with
  | ok x w' =>
    cases x with
    | value v => exact hK _ _ h
    | skip => exact hK _ _ h
    | defer d => exact hK _ _ h
    | enter f args =>
      refine ⟨(fun hx => by cases hx), CallsIn.inRound lp (callsIn_wide.2 (Calls.mono h fun e w'' he => ?_))⟩
      cases e with
      | returned v => exact hK _ _ he
      | panicked ch => cases he.1
      | outgrown =>
        obtain ⟨_, _, he2⟩ := he
        cases he2.1
    | row row args => exact ⟨(fun hx => by cases hx), rows_wide (Rows.mono h fun v w'' he => hK _ _ he)⟩
    | _ => exact False.elim h
  | halt x w' =>
    cases x with
    | panic v => cases h.1
    | _ => exact False.elim h
theorem any_round {lp n : Nat} {X : Act → World → Prop} {Q' : Exit → Act → World → Prop} (hd : ∀ (i : Nat) (o : Oper), ops[i]? = some o → ∀ c, o.op ≠ .defer c) (hQ : ∀ a w, X a w → Q' .normal a w) :
    ∀ (fuel : Nat) (listed : Array Bool) (a : Act) (w : World), wpAny P .any ops (fun e a w => e = .normal ∧ X a w) fuel listed a w → wpAnyIn (Fence.wide.inRound lp) n P .any ops Q' fuel listed a w
  | 0, _, _, _, h => ⟨h.1, hQ _ _ h.2.2⟩
  | fuel + 1, listed, a, w, h => by
    refine ⟨fun hr => hQ _ _ (h.1 hr).2, fun i hi => ?_⟩
    have h1 := h.2 i hi
    have ih := any_round (lp := lp) (n := n) hd hQ fuel (listed.setIfInBounds i true)
    unfold wpOp at h1
    unfold wpOpIn
    cases ho : ops[i]? with
    | none => rw [ho] at h1; exact ih _ _ h1
    | some o =>
      rw [ho] at h1
      simp only at h1 ⊢
      split
      · rename_i hw
        rw [if_pos hw] at h1
        rcases h1 with h1 | ⟨_, _, _, h1⟩
        · exact op_round (hd i o ho) ih h1
        · cases h1.1
      · rename_i hw
        rw [if_neg hw] at h1
        exact ⟨fun _ _ => trivial, ih _ _ h1⟩
/-- A region that draws its order, in a round, by one walk in the order of the text. -/
theorem region_round {id : Nat} {a : Act} {w : World} {l : List Oper} {lp n : Nat} {Q' : Exit → Act → World → Prop} (J : (Nat → Bool) → (Nat → Value) → World → Prop) (R : World → World → Prop) (X : Act → World → Prop) (hm : P.follows .mixedOrders = true) (hd : (l.all fun o => match o.op with | .defer _ => false | _ => true) = true) (hQ : ∀ a w, X a w → Q' .normal a w)
    (hB : checkB l.toArray (cloTab l.toArray l.toArray.size) = true) (h0 : J (fun _ => false) (fun _ => undef) w.drew)
    (h : Marks.Lex P l.toArray (cloTab l.toArray l.toArray.size) J R X l 0 (fun _ => a) []) : (Code.region id l.toArray true).wpIn (Fence.wide.inRound lp) n P Q' a w := by
  refine wpIn_region_any hm ?_
  refine any_round (X := X) (fun i o ho c hc => ?_) hQ _ _ _ _ (wpAny_lex (R := R) (Q := fun e a w => e = .normal ∧ X a w) _ hB h0 ?_)
  · rw [List.getElem?_toArray] at ho
    have := List.all_eq_true.1 hd o (List.mem_of_getElem? ho)
    rw [hc] at this
    cases this
  · have e : (fun (a : Act) (w : World) => (Exit.normal = Exit.normal ∧ X a w)) = X := by
      funext a w
      simp
    rw [e]
    simpa using h
end

def fcs (x : Fi) : List Value := [.int .i64 x.slot, .int .u64 x.qty, .int .u64 x.price]
def fiv (x : Fi) : Value := .agg #[.int .i64 x.slot, .int .u64 x.qty, .int .u64 x.price]
abbrev Fis (w : World) (v : Value) (l : List Fi) : Prop := Rw w v l.length (l.flatMap fcs)
theorem Fis_at {w : World} {v : Value} {l : List Fi} (h : Fis w v l) {k : Nat} {x : Fi} (hk : l[k]? = some x) :
    ∃ ad c, v = .slice (some ad) l.length c ∧ l.length ≤ c ∧ w.cell? (ad.add (k * 3)) = some (.int .i64 x.slot) ∧ w.cell? ⟨(ad.add (k * 3)).block, (ad.add (k * 3)).off + 1, none⟩ = some (.int .u64 x.qty) ∧ w.cell? ⟨(ad.add (k * 3)).block, (ad.add (k * 3)).off + 2, none⟩ = some (.int .u64 x.price) := by
  obtain ⟨ad, c, e, hc, h0, h1⟩ := Rw.at (f := fcs) (n := 3) (fun _ => rfl) h hk (by decide)
  exact ⟨ad, c, e, hc, h0 _ rfl, h1 1 _ (by decide) rfl, h1 2 _ (by decide) rfl⟩
def zfi : Fi := ⟨0, 0, 0⟩
def ef (l : List Fi) (k : Nat) : Fi := l[k]?.getD zfi
theorem ef_get {l : List Fi} {k : Nat} (hk : k < l.length) : l[k]? = some (ef l k) := by unfold ef; rw [List.getElem?_eq_getElem hk]; rfl
theorem fcs_len (l : List Fi) : (l.flatMap fcs).length = l.length * 3 := flat_len fcs 3 (fun _ => rfl) l
theorem fcs_one (l : List Fi) : ∀ u ∈ l.flatMap fcs, u.oneCell' = true := flat_one fcs (fun x u hu => by
  simp only [fcs, List.mem_cons, List.not_mem_nil, or_false] at hu
  rcases hu with rfl | rfl | rfl <;> rfl) l
theorem info47 : (Try.prog.info? 47).map (fun i => (i.zero, i.size, i.bytes)) = some (some (.agg #[.int .i64 0, .int .u64 0, .int .u64 0]), 3, 24) := by kernel_rfl
abbrev OwnF (w : World) (base : Nat) (v : Value) (l : List Fi) : Prop := w.ownsRow base 47 3 v l.length (l.flatMap fcs)
theorem Fis.of_own {w : World} {v : Value} {l : List Fi} {base : Nat} (h : OwnF w base v l) : Fis w v l := Rw.of_own h fun h => by rw [List.eq_nil_of_length_eq_zero h]; rfl
theorem fi_app (W : World) (base : Nat) (v : Value) (l m : List Fi) (ad : Addr) (c : Nat) (hown : OwnF W base v l) (hm : ∀ j u, (m.flatMap fcs)[j]? = some u → W.cell? (ad.add j) = some u) (hl : (l.length + m.length) * 24 ≤ 140737488355328) (hb : base ≤ W.heap.size) :
    ∃ v' w', (Builtin.append_ #[39, 39] 39 #[v, .slice (some ad) m.length c]).run Try.prog W = .ok v' w' ∧ OwnF w' base v' (l ++ m) ∧ Below base W w' := by
  obtain ⟨i0, hi, hx⟩ := Option.map_eq_some_iff.1 info47
  simp only [Prod.mk.injEq] at hx
  obtain ⟨hz0, hz1, hz2⟩ := hx
  obtain ⟨v', w', hr, h5, h6, _⟩ := run_append_own (P := Try.prog) W base 39 39 47 i0 (.agg #[.int .i64 0, .int .u64 0, .int .u64 0]) 3 24 Try.underlying39 hi hz0 hz1 hz2 rfl (by decide) v l.length (l.flatMap fcs) hown ad m.length c (m.flatMap fcs) (fcs_len m) hm (fcs_one m) (by unfold maxLen; omega) (by omega) hb
  refine ⟨v', w', hr, by unfold OwnF; rw [List.length_append, List.flatMap_append]; exact h5, ?_⟩
  exact below_of_grown W h6 hb fun k hk => by
    rcases hown.2 with ⟨rfl, _⟩ | ⟨g, cap, cur, rfl, hg, _⟩
    · simp [Value.ownBlock] at hk
    · simp [Value.ownBlock] at hk
      omega
end Go.Proofs.Ytmnfajplfnfgpaa.OK
