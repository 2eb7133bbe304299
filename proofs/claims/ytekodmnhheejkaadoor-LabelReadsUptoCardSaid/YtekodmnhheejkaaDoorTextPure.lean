/-
  The text of a label is read as the label that it was made of, and what is read is made of it again.
  Conditions: none beyond those that each lemma names.
-/
import Derived.Test.YtekodmnhheejkaaDoorText
import Derived.Test.YtekodmnhheejkaaDoorPrint
namespace Go.Proofs.YtekodmnhheejkaaDoor.TextPure
open Go Go.RowKit Go.Proofs.YtekodmnhheejkaaDoor Go.Proofs.YtekodmnhheejkaaDoor.Plain Go.Proofs.YtekodmnhheejkaaDoor.Comps Go.Proofs.YtekodmnhheejkaaDoor.Parse Go.Proofs.YtekodmnhheejkaaDoor.Print Go.Proofs.YtekodmnhheejkaaDoor.Text

/-- Ahead of the first comma, behind it, and whether there is one. -/
def cutL : List UInt8 → List UInt8 × List UInt8 × Bool
  | [] => ([], [], false)
  | b :: l => if b = 44 then ([], l, true) else (b :: (cutL l).1, (cutL l).2.1, (cutL l).2.2)

theorem cutL_no : ∀ (l : List UInt8), 44 ∉ l → cutL l = (l, [], false)
  | [], _ => rfl
  | b :: l, h => by
    simp only [List.mem_cons, not_or] at h
    unfold cutL
    rw [if_neg (fun e => h.1 e.symm), cutL_no l h.2]
theorem cutL_at : ∀ (d r : List UInt8), 44 ∉ d → cutL (d ++ 44 :: r) = (d, r, true)
  | [], r, _ => by simp [cutL]
  | b :: d, r, h => by
    simp only [List.mem_cons, not_or] at h
    rw [List.cons_append]
    unfold cutL
    rw [if_neg (fun e => h.1 e.symm), cutL_at d r h.2]
theorem cutL_join : ∀ (l : List UInt8), l = (cutL l).1 ++ (bif (cutL l).2.2 then 44 :: (cutL l).2.1 else [])
  | [] => rfl
  | b :: l => by
    unfold cutL
    by_cases h : b = 44
    · rw [if_pos h, h]; rfl
    · rw [if_neg h]
      exact congrArg (b :: ·) (cutL_join l)
theorem cutL_none : ∀ (l : List UInt8), (cutL l).2.2 = false → (cutL l).2.1 = []
  | [], _ => rfl
  | b :: l, h => by
    unfold cutL at h ⊢
    by_cases e : b = 44
    · rw [if_pos e] at h; cases h
    · rw [if_neg e] at h ⊢
      exact cutL_none l h
theorem cutL_len (l : List UInt8) (h : (cutL l).2.2 = true) : (cutL l).2.1.length < l.length := by
  have := congrArg List.length (cutL_join l)
  rw [h] at this
  simp at this
  omega

theorem index_at : ∀ (l : List UInt8), ((cutL l).2.2 = false → Lib.indexByte l 44 = -1) ∧ ((cutL l).2.2 = true → Lib.indexByte l 44 = ((cutL l).1.length : Int))
  | [] => by simp [cutL, Lib.indexByte]
  | b :: l => by
    obtain ⟨h1, h2⟩ := index_at l
    unfold cutL Lib.indexByte
    by_cases h : b = 44
    · have hb : (b == 44) = true := by simpa using h
      rw [if_pos h, if_pos hb]
      simp
    · have hb : (b == 44) = false := by simpa using h
      rw [if_neg h, if_neg (by rw [hb]; simp)]
      constructor
      · intro hf
        rw [h1 hf]
        simp
      · intro ht
        rw [h2 ht]
        have hn : ((((cutL l).1.length : Nat) : Int) == -1) = false := by
          rw [beq_eq_false_iff_ne]
          omega
        rw [if_neg (by rw [hn]; simp)]
        simp

theorem extract_toList (s : ByteArray) (i j : Nat) : (s.extract i j).data.toList = (s.data.toList.take j).drop i := by
  rw [ByteArray.data_extract, Array.toList_extract]
  simp [List.extract_eq_take_drop, List.drop_take]

theorem cut_lists (s : ByteArray) : (cut1 s).1.data.toList = (cutL s.data.toList).1 ∧ (cut1 s).2.1.data.toList = (cutL s.data.toList).2.1 ∧ (cut1 s).2.2 = (cutL s.data.toList).2.2 := by
  obtain ⟨h1, h2⟩ := index_at s.data.toList
  have hj := cutL_join s.data.toList
  have hz : s.data.toList.length = s.size := by rw [Array.length_toList]; rfl
  unfold cut1
  cases hb : (cutL s.data.toList).2.2 with
  | false =>
    rw [h1 hb, if_neg (by omega)]
    rw [hb] at hj
    simp only [cond_false, List.append_nil] at hj
    exact ⟨hj, (cutL_none _ hb).symm, rfl⟩
  | true =>
    rw [h2 hb, if_pos (by omega)]
    rw [hb] at hj
    simp only [cond_true] at hj
    generalize (cutL s.data.toList).1 = d at *
    generalize (cutL s.data.toList).2.1 = r at *
    refine ⟨?_, ?_, rfl⟩
    · show (s.extract 0 _).data.toList = d
      rw [extract_toList, List.drop_zero, Int.toNat_natCast, hj, List.take_left]
    · show (s.extract _ s.size).data.toList = r
      rw [extract_toList, List.take_of_length_le (by omega), Int.toNat_natCast, hj]
      simp

/-- What stands behind a number's digits: the compartments' texts, with commas between. -/
def rest : List (Fin 64) → List UInt8
  | [] => []
  | x :: xs => Lib.decDigits x.1 ++ tail xs
def more : List (Fin 64) → Bool
  | [] => false
  | _ :: _ => true
theorem tail_eq (xs : List (Fin 64)) : tail xs = bif more xs then 44 :: rest xs else [] := by
  cases xs <;> simp [tail, more, rest]

theorem no_comma_fin : ∀ n : Fin 100, (Lib.decDigits n.1).contains 44 = false := by decide +kernel
theorem no_comma (n : Nat) (h : n < 100) : 44 ∉ Lib.decDigits n := fun hm => by
  have := no_comma_fin ⟨n, h⟩
  rw [List.contains_iff_mem.2 hm] at this
  cases this
theorem num64_fin : ∀ n : Fin 64, numOf (Lib.decDigits n.1) 64 = some n.1 := by decide +kernel
theorem num4_fin : ∀ n : Fin 4, numOf (Lib.decDigits n.1) 4 = some n.1 := by decide +kernel
theorem num_inv {l : List UInt8} {most b : Nat} (h : numOf l most = some b) : b < most ∧ l = Lib.decDigits b := by
  unfold numOf at h
  have h1 := List.find?_some h
  have h2 := List.mem_of_find?_eq_some h
  exact ⟨List.mem_range.1 h2, (beq_iff_eq.1 h1).symm⟩

theorem cutL_text (n : Nat) (hn : n < 100) (xs : List (Fin 64)) : cutL (Lib.decDigits n ++ tail xs) = (Lib.decDigits n, rest xs, more xs) := by
  rw [tail_eq]
  cases xs with
  | nil => simp only [more, cond_false, List.append_nil, rest]; exact cutL_no _ (no_comma n hn)
  | cons x xs => simp only [more, cond_true]; exact cutL_at _ _ (no_comma n hn)

/-- A set with these compartments, too. -/
def orAll (c : BitVec 64) (xs : List (Fin 64)) : BitVec 64 := xs.foldl (fun c x => c ||| BitVec.twoPow 64 x.1) c
theorem orAll_bit : ∀ (xs : List (Fin 64)) (c : BitVec 64) (i : Fin 64), (orAll c xs).getLsbD i.1 = (c.getLsbD i.1 || xs.contains i)
  | [], c, i => by simp [orAll]
  | x :: xs, c, i => by
    show (orAll (c ||| BitVec.twoPow 64 x.1) xs).getLsbD i.1 = _
    rw [orAll_bit xs, BitVec.getLsbD_or, BitVec.getLsbD_twoPow, List.contains_cons]
    have e : (decide (x.1 < 64) && decide (x.1 = i.1)) = (i == x) := by
      have := x.isLt
      rw [decide_eq_true this, Bool.true_and, Bool.eq_iff_iff, decide_eq_true_iff, beq_iff_eq, Fin.ext_iff]
      exact eq_comm
    rw [e, Bool.or_assoc]

/-- Rising, all behind last. -/
def Rise : Int → List (Fin 64) → Prop
  | _, [] => True
  | last, x :: xs => last < (x.1 : Int) ∧ Rise x.1 xs
theorem rise_lt : ∀ {xs : List (Fin 64)} {last : Int}, Rise last xs → ∀ x ∈ xs, last < (x.1 : Int)
  | [], _, _, x, h => by cases h
  | y :: xs, last, hr, x, h => by
    rcases List.mem_cons.1 h with e | e
    · rw [e]; exact hr.1
    · have := rise_lt hr.2 x e
      have := hr.1
      omega
theorem rise_ext : ∀ {l m : List (Fin 64)} {a b : Int}, Rise a l → Rise b m → (∀ i, i ∈ l ↔ i ∈ m) → l = m
  | [], [], _, _, _, _, _ => rfl
  | [], y :: m, _, _, _, _, h => by have := (h y).2 (List.mem_cons_self ..); cases this
  | x :: l, [], _, _, _, _, h => by have := (h x).1 (List.mem_cons_self ..); cases this
  | x :: l, y :: m, a, b, hl, hm, h => by
    have e : x = y := by
      rcases List.mem_cons.1 ((h x).1 (List.mem_cons_self ..)) with e | e
      · exact e
      · rcases List.mem_cons.1 ((h y).2 (List.mem_cons_self ..)) with e2 | e2
        · exact e2.symm
        · have h1 := rise_lt hm.2 x e
          have h2 := rise_lt hl.2 y e2
          omega
    subst e
    congr 1
    refine rise_ext hl.2 hm.2 fun i => ?_
    constructor
    · intro hi
      rcases List.mem_cons.1 ((h i).1 (List.mem_cons_of_mem _ hi)) with e | e
      · have := rise_lt hl.2 i hi
        rw [e] at this
        omega
      · exact e
    · intro hi
      rcases List.mem_cons.1 ((h i).2 (List.mem_cons_of_mem _ hi)) with e | e
      · have := rise_lt hm.2 i hi
        rw [e] at this
        omega
      · exact e
theorem rise_pairwise : ∀ {xs : List (Fin 64)} {last : Int}, (∀ x ∈ xs, last < (x.1 : Int)) → xs.Pairwise (· < ·) → Rise last xs
  | [], _, _, _ => trivial
  | x :: xs, last, h, hp => by
    rw [List.pairwise_cons] at hp
    refine ⟨h x (List.mem_cons_self ..), rise_pairwise (fun y hy => ?_) hp.2⟩
    have := hp.1 y hy
    rw [Fin.lt_def] at this
    omega
theorem mem_comps (c : BitVec 64) (i : Fin 64) : i ∈ comps c ↔ c.getLsbD i.1 = true := by
  unfold comps
  rw [List.mem_filter]
  exact ⟨fun h => h.2, fun h => ⟨List.mem_finRange i, h⟩⟩
theorem rise_comps (c : BitVec 64) : Rise (-1) (comps c) := by
  refine rise_pairwise (fun x _ => by omega) ?_
  unfold comps
  exact List.Pairwise.filter _ (List.pairwise_lt_finRange 64)
theorem or_comps (c : BitVec 64) : orAll 0#64 (comps c) = c := by
  apply BitVec.eq_of_getLsbD_eq
  intro i hi
  have h1 := orAll_bit (comps c) 0#64 ⟨i, hi⟩
  rw [h1, BitVec.getLsbD_zero, Bool.false_or, Bool.eq_iff_iff, List.contains_iff_mem, mem_comps]
theorem comps_or {xs : List (Fin 64)} {a : Int} (h : Rise a xs) : comps (orAll 0#64 xs) = xs := by
  refine rise_ext (rise_comps _) h fun i => ?_
  rw [mem_comps, orAll_bit, BitVec.getLsbD_zero, Bool.false_or, List.contains_iff_mem]

theorem go_there : ∀ (xs : List (Fin 64)) (f : Nat) (s : ByteArray) (last : Int) (c : BitVec 64), xs.length < f → s.data.toList = rest xs → Rise last xs → go f s (more xs) last c = some (orAll c xs)
  | [], f + 1, s, last, c, _, _, _ => rfl
  | x :: xs, f + 1, s, last, c, hf, hs, hr => by
    obtain ⟨c1, c2, c3⟩ := cut_lists s
    have hx := x.isLt
    rw [hs] at c1 c2 c3
    simp only [rest] at c1 c2 c3
    rw [cutL_text x.1 (by omega) xs] at c1 c2 c3
    simp only [more, go]
    rw [c1, num64_fin x, c3]
    simp only []
    rw [if_neg (by have := hr.1; omega)]
    exact go_there xs f _ x.1 _ (by simp at hf; omega) c2 hr.2
theorem print_parse (v : Int) (c : BitVec 64) (hv : may v = true) : parse (print v c) = some (v.toNat, c) := by
  have hv4 : v.toNat < 4 := by unfold may at hv; simp at hv; omega
  have hp : (print v c).data.toList = Lib.decDigits v.toNat ++ tail (comps c) := by
    unfold print
    rw [if_pos hv]
    simp [text]
  obtain ⟨c1, c2, c3⟩ := cut_lists (print v c)
  rw [hp, cutL_text _ (by omega) _] at c1 c2 c3
  unfold parse
  rw [c1, num4_fin ⟨v.toNat, hv4⟩, c3]
  simp only []
  rw [go_there (comps c) _ _ (-1) 0#64 ?_ c2 (rise_comps c), or_comps]
  · rfl
  · have h1 : (print v c).size = (print v c).data.toList.length := by rw [Array.length_toList]; rfl
    rw [h1, hp, List.length_append]
    have : ∀ xs : List (Fin 64), xs.length ≤ (tail xs).length := fun xs => by
      induction xs with
      | nil => simp
      | cons x xs ih =>
        have e : tail (x :: xs) = 44 :: Lib.decDigits x.1 ++ tail xs := by simp [tail]
        rw [e]
        simp
        omega
    have := this (comps c)
    omega

theorem go_back : ∀ (f : Nat) (s : ByteArray) (m : Bool) (last : Int) (c c' : BitVec 64), go f s m last c = some c' → (m = false → s.data.toList = []) →
    ∃ xs, Rise last xs ∧ m = more xs ∧ s.data.toList = rest xs ∧ c' = orAll c xs
  | 0, _, _, _, _, _, h, _ => by simp [go] at h
  | f + 1, s, false, last, c, c', h, hm => by
    simp only [go, Option.some.injEq] at h
    exact ⟨[], trivial, rfl, hm rfl, h.symm⟩
  | f + 1, s, true, last, c, c', h, hm => by
    simp only [go] at h
    obtain ⟨c1, c2, c3⟩ := cut_lists s
    have hj := cutL_join s.data.toList
    cases hn : numOf (cut1 s).1.data.toList 64 with
    | none => rw [hn] at h; cases h
    | some b =>
      rw [hn] at h
      simp only [] at h
      obtain ⟨hb, e⟩ := num_inv hn
      by_cases hl : (b : Int) ≤ last
      · rw [if_pos hl] at h; cases h
      · rw [if_neg hl] at h
        obtain ⟨xs, r1, r2, r3, r4⟩ := go_back f _ _ _ _ _ h (fun hf => by rw [c2]; rw [c3] at hf; exact cutL_none _ hf)
        refine ⟨⟨b, hb⟩ :: xs, ⟨by show last < (b : Int); omega, r1⟩, rfl, ?_, r4⟩
        rw [hj, ← c1, ← c2, ← c3, e, r2, r3]
        show _ = Lib.decDigits b ++ tail xs
        rw [tail_eq]
theorem parse_print (s : ByteArray) (v : Nat) (c : BitVec 64) (h : parse s = some (v, c)) : may (v : Int) = true ∧ print (v : Int) c = s := by
  unfold parse at h
  obtain ⟨c1, c2, c3⟩ := cut_lists s
  have hj := cutL_join s.data.toList
  cases hn : numOf (cut1 s).1.data.toList 4 with
  | none => rw [hn] at h; cases h
  | some b =>
    rw [hn] at h
    simp only [Option.map_eq_some_iff, Prod.mk.injEq] at h
    obtain ⟨c', hg, rfl, rfl⟩ := h
    obtain ⟨hb, e⟩ := num_inv hn
    obtain ⟨xs, r1, r2, r3, r4⟩ := go_back _ _ _ _ _ _ hg (fun hf => by rw [c2]; rw [c3] at hf; exact cutL_none _ hf)
    have hm : may (b : Int) = true := by unfold may; simp; omega
    refine ⟨hm, ?_⟩
    unfold print
    rw [if_pos hm]
    apply ByteArray.ext
    apply Array.toList_inj.mp
    rw [hj, ← c1, ← c2, ← c3, e, r2, r3, r4, comps_or r1]
    simp only [text, Int.toNat_natCast]
    rw [← tail_eq]
end Go.Proofs.YtekodmnhheejkaaDoor.TextPure
