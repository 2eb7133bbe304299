/-
  What comes of posting may be; fills go by price, and then by Seq; where no order met another one, none does then.
  Conditions: those that each lemma names.
-/
import Derived.Test.YtmnfajplfnfgpaaOPA
namespace Go.Proofs.Ytmnfajplfnfgpaa.ORE
set_option maxRecDepth 100000
open Go Go.RowKit Go.Lib Go.Proofs.Ytmnfajplfnfgpaa Go.Proofs.Ytmnfajplfnfgpaa.Facts Go.Proofs.Ytmnfajplfnfgpaa.Ints Go.Proofs.Ytmnfajplfnfgpaa.PA Go.Proofs.Ytmnfajplfnfgpaa.UM Go.Proofs.Ytmnfajplfnfgpaa.UB Go.Proofs.Ytmnfajplfnfgpaa.OA Go.Proofs.Ytmnfajplfnfgpaa.BP Go.Proofs.Ytmnfajplfnfgpaa.BQ Go.Proofs.Ytmnfajplfnfgpaa.ORA Go.Proofs.Ytmnfajplfnfgpaa.ORC Go.Proofs.Ytmnfajplfnfgpaa.ORD Go.Proofs.Ytmnfajplfnfgpaa.OY Go.Proofs.Ytmnfajplfnfgpaa.OPA


/-- A slot that is taken is turned into one of the same Seq, or is given free. -/
theorem right_turn {l : List Or} {k : Nat} (hk : k < l.length) (hr : rightO l = true) (hu : (eo l k).used = true) {y : Or} (hy : okO y = true) (hs : y.used = true → y.seq = (eo l k).seq) : rightO (l.set k y) = true := by
  unfold rightO at hr ⊢
  rw [Bool.and_eq_true] at hr ⊢
  refine ⟨List.all_eq_true.2 fun x hx => ?_, ?_⟩
  · rcases List.mem_or_eq_of_mem_set hx with h | h
    · exact List.all_eq_true.1 hr.1 x h
    · rw [h]; exact hy
  · have h2 := hr.2
    unfold apartP at h2 ⊢
    rw [decide_eq_true_iff] at h2 ⊢
    obtain ⟨e1, e2⟩ := split_at hk y
    unfold seqs at h2 ⊢
    rw [e2, List.filter_append, List.filter_cons]
    rw [e1, List.filter_append, List.filter_cons, hu, if_pos rfl, List.map_append, List.map_cons] at h2
    cases hyu : y.used with
    | false =>
      rw [if_neg (by decide), List.map_append]
      refine h2.sublist ?_
      exact List.Sublist.append_left (List.sublist_cons_self _ _) _
    | true =>
      rw [if_pos rfl, List.map_append, List.map_cons, hs hyu]
      exact h2
theorem taken_turn {l : List Or} {o : Or} {k : Nat} (ht : takenB l o = false) (hk : k < l.length) (hu : (eo l k).used = true) {y : Or} (hs : y.used = true → y.seq = (eo l k).seq) : takenB (l.set k y) o = false := by
  unfold takenB at ht ⊢
  rw [List.any_eq_false] at ht ⊢
  intro x hx
  rcases List.mem_or_eq_of_mem_set hx with h | h
  · exact ht x h
  · rw [h]
    have h2 := ht (eo l k) (List.mem_of_getElem? (eo_get hk))
    rw [hu] at h2
    cases hyu : y.used with
    | false => simp
    | true =>
      rw [hs hyu]
      simpa using h2
/-- An order of which something is left may be. -/
theorem less_may {x : Or} (hx : MayF x) {n : Nat} (hn : n < x.left) : MayF (lessP x n x.price) := by
  have h1 : (x.left - n) * x.price ≤ top := Nat.le_trans (Nat.mul_le_mul_right _ (Nat.sub_le _ _)) hx.tp
  refine ⟨hx.sd, ?_, hx.p0, h1, ?_, hx.lb, hx.wh, hx.bs, hx.qt, hx.ne, hx.sq⟩
  · show x.left - n ≠ 0
    omega
  · show x.res - (if x.side = 2 then n else n * x.price) = if x.side = 2 then x.left - n else (x.left - n) * x.price
    rw [hx.rs]
    split
    · rfl
    · exact (Nat.sub_mul _ _ _).symm
theorem may_ok {x : Or} (h : MayF x) (hu : x.used = true) : okO x = true := by
  unfold okO
  rw [if_pos hu]
  exact (may_iff x).2 h
/-- What holds of the fills. -/
structure Fx (l : List Or) (o : Or) (S pre rest : List Nat) (now : List Or) (o' : Or) (fs : List Fi) : Prop where
  piv : PIv l o S pre rest now o' fs
  rt : rightO now = true
  tk : takenB now o = false
  sum : (fs.map (·.qty)).sum + o'.left = o.left
  at_ : ∀ i x, fs[i]? = some x → ∃ k : Nat, pre[i]? = some k ∧ x.slot = (k : Int) ∧ x.price = (eo l k).price ∧ x.qty ≠ 0 ∧ x.qty ≤ (eo l k).left ∧ (i + 1 < fs.length ∨ o'.left ≠ 0 → x.qty = (eo l k).left)
  key : ∀ i, (eo now i).used = true → (eo l i).used = true ∧ (eo now i).side = (eo l i).side ∧ (eo now i).base = (eo l i).base ∧ (eo now i).quote = (eo l i).quote ∧ (eo now i).price = (eo l i).price
theorem Fx.start {l : List Or} {o : Or} {S : List Nat} (hr : rightO l = true) (hm : MayF o) (ht : takenB l o = false) : Fx l o S [] S l o [] :=
  ⟨PIv.start hr hm, hr, ht, by simp, (fun i x h => by cases h), fun i h => ⟨h, rfl, rfl, rfl, rfl⟩⟩
theorem Fx.next {l : List Or} {o : Or} {S pre r : List Nat} {k : Nat} {now : List Or} {o' : Or} {fs : List Fi} (hr : rightO l = true) (hS : Srt l o S) (h : Fx l o S pre (k :: r) now o' fs) (h0 : o'.left ≠ 0) (hm : MayF o) :
    Fx l o S (pre ++ [k]) r (nowP l now o' k) (ordP l o' k) (fs ++ [filP l o' k]) := by
  obtain ⟨_, hk, hek, hmk, hmm⟩ := h.piv.best hr hS h0 hm
  have hku : (eo l k).used = true := by
    have hks : k ∈ S := by rw [h.piv.all]; exact List.mem_append_right _ (List.mem_cons_self ..)
    exact ((hS.mem k).1 hks).2.1
  have hkn : k < now.length := by rw [h.piv.len]; exact hk
  have hnu : (eo now k).used = true := by rw [hek]; exact hku
  have hl0 := hmk.l0
  have hy : okO (if o'.left < (eo l k).left then lessP (eo l k) o'.left (eo l k).price else zor) = true := by
    split
    · exact may_ok (less_may hmk (by assumption)) hku
    · rfl
  have hsq : (if o'.left < (eo l k).left then lessP (eo l k) o'.left (eo l k).price else zor).used = true → (if o'.left < (eo l k).left then lessP (eo l k) o'.left (eo l k).price else zor).seq = (eo now k).seq := by
    rw [hek]
    split
    · exact fun _ => rfl
    · exact fun h => by cases h
  refine ⟨h.piv.next hr hS h0 hm, right_turn hkn h.rt hnu hy hsq, taken_turn h.tk hkn hnu hsq, ?_, ?_, ?_⟩
  · have h1 := h.sum
    rw [List.map_append, List.sum_append]
    show (fs.map (·.qty)).sum + (min o'.left (eo l k).left + 0) + (o'.left - min o'.left (eo l k).left) = o.left
    omega
  · intro i x hx
    have hfl := h.piv.fl
    by_cases hi : i < fs.length
    · rw [List.getElem?_append_left hi] at hx
      obtain ⟨j, j1, j2, j3, j4, j5, j6⟩ := h.at_ i x hx
      refine ⟨j, ?_, j2, j3, j4, j5, fun _ => j6 (.inr h0)⟩
      rw [List.getElem?_append_left (by omega)]
      exact j1
    · rw [List.getElem?_append_right (by omega)] at hx
      have hi0 : i = fs.length := by
        have := (List.getElem?_eq_some_iff.1 hx).1
        simp at this
        omega
      subst hi0
      rw [Nat.sub_self] at hx
      cases hx
      refine ⟨k, ?_, rfl, rfl, ?_, Nat.min_le_right _ _, ?_⟩
      · rw [hfl, List.getElem?_append_right (Nat.le_refl _), Nat.sub_self]; rfl
      · show min o'.left (eo l k).left ≠ 0
        omega
      · rintro (h1 | h1)
        · rw [List.length_append] at h1
          simp at h1
        · have h2 : o'.left - min o'.left (eo l k).left ≠ 0 := h1
          show min o'.left (eo l k).left = _
          omega
  · intro i hu
    unfold nowP at hu ⊢
    by_cases e : i = k
    · subst e
      rw [eo_set_same hkn] at hu ⊢
      split at hu
      · rw [if_pos (by assumption)]
        exact ⟨hku, rfl, rfl, rfl, rfl⟩
      · cases hu
    · rw [eo_set e] at hu ⊢
      exact h.key i hu
/-- What fill leaves: all of it. -/
theorem fill_all {l : List Or} {o : Or} {S : List Nat} (hr : rightO l = true) (hS : Srt l o S) (hm : MayF o) : ∀ (rest pre : List Nat) (now : List Or) (o' : Or) (fs : List Fi), Fx l o S pre rest now o' fs → ∃ pre' rest' now' o2 fs', Fx l o S pre' rest' now' o2 fs' ∧ fillP l S l o [] = (now', fs', o2) ∧ (o2.left = 0 ∨ rest' = [])
  | [], pre, now, o', fs, h => ⟨pre, [], now, o', fs, h, h.piv.fin (.inr rfl), .inr rfl⟩
  | k :: r, pre, now, o', fs, h => by
    by_cases h0 : o'.left = 0
    · exact ⟨pre, k :: r, now, o', fs, h, h.piv.fin (.inl h0), .inl h0⟩
    · exact fill_all hr hS hm r _ _ _ _ (h.next hr hS h0 hm)
def crossB (l : List Or) : Bool := (List.range l.length).any fun i => (List.range l.length).any fun k => (eo l i).used && rmeets (eo l i) (eo l k)
theorem cross_no {l : List Or} : crossB l = false ↔ ∀ i k, i < l.length → k < l.length → (eo l i).used = true → rmeets (eo l i) (eo l k) = false := by
  unfold crossB
  rw [List.any_eq_false]
  constructor
  · intro h i k hi hk hu
    have h1 := h i (List.mem_range.2 hi)
    rw [Bool.not_eq_true, List.any_eq_false] at h1
    have h2 := h1 k (List.mem_range.2 hk)
    rw [hu, Bool.true_and, Bool.not_eq_true] at h2
    exact h2
  · intro h i hi
    rw [Bool.not_eq_true, List.any_eq_false]
    intro k hk
    rw [Bool.not_eq_true]
    cases hu : (eo l i).used with
    | false => rfl
    | true => rw [h i k (List.mem_range.1 hi) (List.mem_range.1 hk) hu]; rfl
theorem rm_key {o x o2 x2 : Or} (hx : x2.used = x.used) (h1 : o2.side = o.side) (h2 : o2.base = o.base) (h3 : o2.quote = o.quote) (h4 : o2.price = o.price) (g1 : x2.side = x.side) (g2 : x2.base = x.base) (g3 : x2.quote = x.quote) (g4 : x2.price = x.price) : rmeets o2 x2 = rmeets o x := by
  unfold rmeets
  rw [hx, h1, h2, h3, h4, g1, g2, g3, g4]
theorem rm_swap {o x : Or} (ho : o.used = true) (hx : x.used = true) : rmeets x o = rmeets o x := by
  unfold rmeets
  rw [ho, hx, show decide (o.base = x.base) = decide (x.base = o.base) from decide_eq_decide.2 eq_comm, show decide (o.quote = x.quote) = decide (x.quote = o.quote) from decide_eq_decide.2 eq_comm]
  congr 1
  by_cases a : o.side = 1 <;> by_cases b : o.side = 2 <;> by_cases c : x.side = 1 <;> by_cases d : x.side = 2 <;> simp [a, b, c, d] <;> omega
theorem rm_self (o : Or) : rmeets o o = false := by
  unfold rmeets
  by_cases a : o.side = 1 <;> by_cases b : o.side = 2 <;> simp [a, b] <;> omega
/-- Nothing is left that the rest meets. -/
theorem Fx.none {l : List Or} {o : Or} {S pre : List Nat} {now : List Or} {o' : Or} {fs : List Fi} (hr : rightO l = true) (hS : Srt l o S) (h : Fx l o S pre [] now o' fs) (h0 : o'.left ≠ 0) (hm : MayF o) (i : Nat) (hi : i < l.length) : rmeets o (eo now i) = false := by
  by_cases hp : i ∈ pre
  · rw [h.piv.done h0 i hp]
    exact rm_off rfl
  · rw [h.piv.other i hp]
    cases hu : (eo l i).used with
    | false => exact rm_off hu
    | true =>
      rw [rmeets_is hm.sd (right_at hr i hu).sd, hu, Bool.true_and]
      refine Bool.eq_false_iff.2 fun hmm => hp ?_
      have := (hS.mem i).2 ⟨hi, hu, hmm⟩
      rw [h.piv.all, List.append_nil] at this
      exact this
theorem Fx.cross {l : List Or} {o : Or} {S pre rest : List Nat} {now : List Or} {o' : Or} {fs : List Fi} (h : Fx l o S pre rest now o' fs) (hc : crossB l = false) : crossB now = false := by
  rw [cross_no] at hc ⊢
  rw [h.piv.len]
  intro i k hi hk hu
  cases hx : (eo now k).used with
  | false => exact rm_off hx
  | true =>
    obtain ⟨a1, a2, a3, a4, a5⟩ := h.key i hu
    obtain ⟨b1, b2, b3, b4, b5⟩ := h.key k hx
    rw [rm_key (o := eo l i) (x := eo l k) (by rw [hx, b1]) a2 a3 a4 a5 b2 b3 b4 b5]
    exact hc i k hi hk a1
end Go.Proofs.Ytmnfajplfnfgpaa.ORE
