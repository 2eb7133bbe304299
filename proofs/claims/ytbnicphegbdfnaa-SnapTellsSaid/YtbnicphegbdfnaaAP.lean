/-
  Sectors that are written one behind the other, and what a crash leaves of them, as lists of bytes.
  Conditions: those that each lemma names.
-/
import Derived.Test.YtbnicphegbdfnaaJH
namespace Go.Proofs.Ytbnicphegbdfnaa.AP
set_option maxRecDepth 100000
open Go Go.RowKit Go.Proofs.Ytbnicphegbdfnaa Go.Proofs.Ytbnicphegbdfnaa.Facts Go.Proofs.Ytbnicphegbdfnaa.Bytes Go.Proofs.Ytbnicphegbdfnaa.DKeep Go.Proofs.Ytbnicphegbdfnaa.DSmall Go.Proofs.Ytbnicphegbdfnaa.Puts Go.Proofs.Ytbnicphegbdfnaa.Scan Go.Proofs.Ytbnicphegbdfnaa.SPure Go.Proofs.Ytbnicphegbdfnaa.JA Go.Proofs.Ytbnicphegbdfnaa.JB Go.Proofs.Ytbnicphegbdfnaa.JC Go.Proofs.Ytbnicphegbdfnaa.JD Go.Proofs.Ytbnicphegbdfnaa.JE Go.Proofs.Ytbnicphegbdfnaa.JF Go.Proofs.Ytbnicphegbdfnaa.JH Go.Proofs.Ytbnicphegbdfnaa.JP Go.Proofs.Ytbnicphegbdfnaa.JQ
open Go.Proofs.Ytbnicphegbdfnaa.DOver (cutw cutw_length)

/-- Sealed sectors are written: m of them, from the index a on, each with the stamp of its index. -/
def gw (first : Nat) (st : Nat → Nat) : Nat → Nat → List UInt8 → Pd → Pd × Int
  | 0, _, _, d => (d, 0)
  | m + 1, a, left, d =>
    let r := DWrite.written d ((first + a : Nat) : Int) (sealed (st a) (left.take 108))
    if r.2 = 0 then gw first st m (a + 1) (left.drop 108) r.1 else r
theorem jw_gw (first base : Nat) : ∀ (m a : Nat) (l : List UInt8) (d : Pd), jw first base m a l d = gw first (fun i => base + i) m a l d
  | 0, _, _, _ => rfl
  | m + 1, a, l, d => by
    rw [jw, gw]
    split
    · exact jw_gw first base m (a + 1) (l.drop 108) _
    · rfl
/-- What is written: sectors, and their bytes. -/
def ws (first : Nat) (st : Nat → Nat) : Nat → Nat → List UInt8 → List (Nat × Sec)
  | 0, _, _ => []
  | m + 1, a, l => (first + a, sealed (st a) (l.take 108)) :: ws first st m (a + 1) (l.drop 108)
theorem ws_length (first : Nat) (st : Nat → Nat) : ∀ (m a : Nat) (l : List UInt8), (ws first st m a l).length = m
  | 0, _, _ => rfl
  | m + 1, a, l => by rw [ws, List.length_cons, ws_length]
theorem ws_at (first : Nat) (st : Nat → Nat) : ∀ (m a : Nat) (l : List UInt8) (i : Nat), i < m → (ws first st m a l)[i]? = some (first + (a + i), sealed (st (a + i)) ((l.drop (108 * i)).take 108))
  | m + 1, a, l, 0, _ => by rw [ws]; simp
  | m + 1, a, l, i + 1, h => by
    rw [ws, List.getElem?_cons_succ, ws_at first st m (a + 1) (l.drop 108) i (by omega), List.drop_drop]
    rw [show a + 1 + i = a + (i + 1) by omega, show 108 + 108 * i = 108 * (i + 1) by omega]
/-- Sectors are put, one behind the other. -/
def sets (L : List Sec) (l : List (Nat × Sec)) : List Sec := l.foldl (fun L p => L.set p.1 p.2) L
theorem sets_length (l : List (Nat × Sec)) : ∀ L, (sets L l).length = L.length := by
  induction l with
  | nil => intro L; rfl
  | cons p l ih => intro L; show (sets (L.set p.1 p.2) l).length = _; rw [ih, List.length_set]
theorem sets_snoc (L : List Sec) (l : List (Nat × Sec)) (p : Nat × Sec) : sets L (l ++ [p]) = (sets L l).set p.1 p.2 := by simp [sets]
theorem sets_out (l : List (Nat × Sec)) : ∀ (L : List Sec) (a : Nat), (∀ p ∈ l, p.1 ≠ a) → (sets L l)[a]? = L[a]? := by
  induction l with
  | nil => intro L a _; rfl
  | cons p l ih =>
    intro L a h
    show (sets (L.set p.1 p.2) l)[a]? = _
    rw [ih _ a (fun q hq => h q (List.mem_cons_of_mem _ hq)), List.getElem?_set_ne (h p (List.mem_cons_self))]
theorem sets_in (l : List (Nat × Sec)) : ∀ (L : List Sec) (i a : Nat) (s : Sec), (l.map (·.1)).Nodup → l[i]? = some (a, s) → a < L.length → (sets L l)[a]? = some s := by
  induction l with
  | nil => intro L i a s _ h; cases h
  | cons p l ih =>
    intro L i a s hn h ha
    show (sets (L.set p.1 p.2) l)[a]? = _
    rw [List.map_cons, List.nodup_cons] at hn
    match i, h with
    | 0, h =>
      rw [List.getElem?_cons_zero] at h
      injection h with h
      subst h
      rw [sets_out l _ a (fun q hq e => hn.1 (by have := List.mem_map_of_mem (f := fun p : Nat × Sec => p.1) hq; rw [e] at this; exact this)), List.getElem?_set_self ha]
    | i + 1, h =>
      rw [List.getElem?_cons_succ] at h
      exact ih _ i a s hn.2 h (by rw [List.length_set]; exact ha)

/-- What waits, and lies over what is safe. -/
structure Wq (L : List Sec) (l : List (Nat × Sec)) : Prop where
  ev : ∀ (a : Nat) (s : Sec), L[a]? = some s → s.length = 128
  nd : (l.map (·.1)).Nodup
  fit : ∀ p ∈ l, p.1 < L.length ∧ p.2.length = 128
theorem Wq.nil {L : List Sec} (h : ∀ (a : Nat) (s : Sec), L[a]? = some s → s.length = 128) : Wq L [] := ⟨h, List.nodup_nil, fun p h => by cases h⟩
theorem fst_at {l : List (Nat × Sec)} (hn : (l.map (·.1)).Nodup) {i j : Nat} {p q : Nat × Sec} (hi : l[i]? = some p) (hj : l[j]? = some q) (he : p.1 = q.1) : i = j := by
  have h1 : (l.map (·.1))[i]? = some p.1 := by rw [List.getElem?_map, hi]; rfl
  have h2 : (l.map (·.1))[j]? = some p.1 := by rw [List.getElem?_map, hj, he]; rfl
  have hl := (List.getElem?_eq_some_iff.1 h1).1
  exact (List.getElem?_inj hl hn).1 (by rw [h1, h2])
theorem settled_out (ks : Nat → Nat) (L : List Sec) (l : List (Nat × Sec)) (a : Nat) : ∀ i, (∀ j p, j < i → l[j]? = some p → p.1 ≠ a) → (DSettle.settled ks L l i)[a]? = L[a]?
  | 0, _ => rfl
  | i + 1, h => by
    unfold DSettle.settled
    cases hq : l[i]? with
    | none => exact settled_out ks L l a i fun j p hj => h j p (by omega)
    | some p =>
      show ((DSettle.settled ks L l i).set p.1 _)[a]? = _
      rw [List.getElem?_set_ne (h i p (by omega) hq)]
      exact settled_out ks L l a i fun j p hj => h j p (by omega)
theorem settled_in (ks : Nat → Nat) (L : List Sec) (l : List (Nat × Sec)) (hw : Wq L l) (i : Nat) (a : Nat) (s z : Sec) (hi : l[i]? = some (a, s)) (hz : L[a]? = some z) : ∀ m, i < m → (DSettle.settled ks L l m)[a]? = some (cutw z s (ks i))
  | 0, h => by omega
  | m + 1, h => by
    unfold DSettle.settled
    by_cases e : i = m
    · subst e
      rw [hi]
      show ((DSettle.settled ks L l i).set a (cutw ((DSettle.settled ks L l i)[a]?.getD []) s (ks i)))[a]? = _
      have ho : (DSettle.settled ks L l i)[a]? = L[a]? := settled_out ks L l a i fun j p hj hp he => by
        have := fst_at hw.nd hp hi he
        omega
      rw [ho, hz, Option.getD_some, List.getElem?_set_self (by rw [DSettle.settled_length]; exact (List.getElem?_eq_some_iff.1 hz).1)]
    · cases hq : l[m]? with
      | none => exact settled_in ks L l hw i a s z hi hz m (by omega)
      | some p =>
        show ((DSettle.settled ks L l m).set p.1 _)[a]? = _
        rw [List.getElem?_set_ne (fun he => e (fst_at hw.nd hi hq he.symm))]
        exact settled_in ks L l hw i a s z hi hz m (by omega)
theorem relast_length (S M : List Sec) (l : List (Nat × Sec)) : ∀ i, (DSettle.relast S M l i).length = M.length
  | 0 => rfl
  | i + 1 => by
    unfold DSettle.relast
    cases l[i]? with
    | none => exact relast_length S M l i
    | some p => show ((DSettle.relast S M l i).set p.1 _).length = _; rw [List.length_set]; exact relast_length S M l i
theorem relast_at (S M : List Sec) (hl : S.length = M.length) (l : List (Nat × Sec)) (a : Nat) : ∀ i, (DSettle.relast S M l i)[a]? = S[a]? ∨ ((∀ j p, j < i → l[j]? = some p → p.1 ≠ a) ∧ (DSettle.relast S M l i)[a]? = M[a]?)
  | 0 => .inr ⟨fun j p hj => by omega, rfl⟩
  | i + 1 => by
    unfold DSettle.relast
    have ih := relast_at S M hl l a i
    cases hq : l[i]? with
    | none =>
      show (DSettle.relast S M l i)[a]? = _ ∨ _ ∧ (DSettle.relast S M l i)[a]? = _
      rcases ih with h | ⟨h1, h2⟩
      · exact .inl h
      · refine .inr ⟨fun j p hj hp => ?_, h2⟩
        by_cases e : j = i
        · rw [e, hq] at hp; cases hp
        · exact h1 j p (by omega) hp
    | some p =>
      show ((DSettle.relast S M l i).set p.1 (S[p.1]?.getD []))[a]? = _ ∨ _ ∧ ((DSettle.relast S M l i).set p.1 (S[p.1]?.getD []))[a]? = _
      by_cases e : p.1 = a
      · left
        rw [e]
        by_cases hb : a < S.length
        · rw [List.getElem?_set_self (by rw [relast_length]; omega), List.getElem?_eq_getElem hb, Option.getD_some]
        · rw [List.getElem?_eq_none (by rw [List.length_set, relast_length]; omega), List.getElem?_eq_none (by omega)]
      · rw [List.getElem?_set_ne e]
        rcases ih with h | ⟨h1, h2⟩
        · exact .inl h
        · refine .inr ⟨fun j q hj hp => ?_, h2⟩
          by_cases e2 : j = i
          · rw [e2, hq] at hp; injection hp with hp; rw [← hp]; exact e
          · exact h1 j q (by omega) hp
/-- What is safe, and what is read, come to the same when all that waits is settled. -/
theorem relast_all (ks : Nat → Nat) (L : List Sec) (l : List (Nat × Sec)) : DSettle.relast (DSettle.settled ks L l l.length) (sets L l) l l.length = DSettle.settled ks L l l.length := by
  apply List.ext_getElem?
  intro a
  rcases relast_at (DSettle.settled ks L l l.length) (sets L l) (by rw [DSettle.settled_length, sets_length]) l a l.length with h | ⟨h1, h2⟩
  · exact h
  · rw [h2, settled_out ks L l a l.length h1, sets_out l L a]
    intro p hp
    obtain ⟨j, hj, he⟩ := List.getElem_of_mem hp
    exact h1 j p hj (by rw [List.getElem?_eq_getElem hj, he])
/-- What a crash leaves of each sector. -/
def Cut (L L' : List Sec) (l : List (Nat × Sec)) : Prop := L'.length = L.length ∧ ∀ a z, L[a]? = some z → L'[a]? = some z ∨ ∃ s k, k ≤ 16 ∧ (a, s) ∈ l ∧ L'[a]? = some (cutw z s k)
theorem crashed_cut (L : List Sec) (l : List (Nat × Sec)) (hw : Wq L l) (f : Int) (o : Bool) (keep : List UInt8) : ∃ L', DFlush.crashed ⟨L, sets L l, l, f, o⟩ keep = calm L' ∧ Cut L L' l := by
  refine ⟨DSettle.settled (DFlush.kept keep) L l l.length, ?_, DSettle.settled_length _ _ _ _, fun a z hz => ?_⟩
  · unfold DFlush.crashed DFlush.ended calm
    simp only [relast_all]
  · by_cases h : ∃ j p, j < l.length ∧ l[j]? = some p ∧ p.1 = a
    · obtain ⟨j, ⟨b, s⟩, hj, hp, rfl⟩ := h
      exact .inr ⟨s, _, DFlush.kept_le keep j, List.mem_of_getElem? hp, settled_in _ L l hw j _ s z hp hz l.length hj⟩
    · left
      rw [settled_out _ L l a l.length fun j p hj hp he => h ⟨j, p, hj, hp, he⟩]
      exact hz
theorem settled_sets (L : List Sec) (l : List (Nat × Sec)) (hw : Wq L l) : DSettle.settled (fun _ => 16) L l l.length = sets L l := by
  apply List.ext_getElem?
  intro a
  by_cases h : ∃ j p, j < l.length ∧ l[j]? = some p ∧ p.1 = a
  · obtain ⟨j, ⟨b, s⟩, hj, hp, rfl⟩ := h
    have hf := hw.fit _ (List.mem_of_getElem? hp)
    obtain ⟨z, hz⟩ : ∃ z, L[b]? = some z := ⟨_, List.getElem?_eq_getElem hf.1⟩
    rw [settled_in _ L l hw j b s z hp hz l.length hj, sets_in l L j b s hw.nd hp hf.1, cut16 z s (hw.ev b z hz) hf.2]
  · rw [settled_out _ L l a l.length fun j p hj hp he => h ⟨j, p, hj, hp, he⟩, sets_out l L a]
    intro p hp he
    obtain ⟨j, hj, e⟩ := List.getElem_of_mem hp
    exact h ⟨j, p, hj, by rw [List.getElem?_eq_getElem hj, e], he⟩
theorem flushed_sets (L : List Sec) (l : List (Nat × Sec)) (hw : Wq L l) (f : Int) (hf : f = -1 ∨ 1 ≤ f) : DFlush.flushed ⟨L, sets L l, l, f, false⟩ = (calmF (sets L l) (if f = -1 then -1 else f - 1), 0) := by
  have h := relast_all (fun _ => 16) L l
  have h2 := settled_sets L l hw
  rw [h2] at h
  unfold DFlush.flushed DTurn.blown
  rw [if_neg (show ¬ (false = true) by decide)]
  rcases hf with rfl | hf
  · simp only [if_pos trivial, if_pos rfl]
    unfold DFlush.ended calmF
    simp only [h2, h]
  · simp only [if_neg (show ¬ f = -1 by omega), if_neg (show ¬ f = 0 by omega), if_pos trivial, if_pos rfl]
    unfold DFlush.ended calmF
    simp only [h2, h]
theorem flushed_dead (S L : List Sec) (l : List (Nat × Sec)) : DFlush.flushed ⟨S, L, l, 0, false⟩ = (⟨S, L, l, 0, true⟩, 15) := by
  unfold DFlush.flushed DTurn.blown
  simp

/-- What comes of writing m sectors with a fuse. -/
theorem gw_any (first : Nat) (st : Nat → Nat) (L : List Sec) : ∀ (m a : Nat) (l : List UInt8) (M : List Sec) (wt : List (Nat × Sec)) (f : Int), -1 ≤ f → first + a + m ≤ L.length →
    ((f = -1 ∨ (m : Int) ≤ f) ∧ gw first st m a l ⟨L, M, wt, f, false⟩ = (⟨L, sets M (ws first st m a l), wt ++ ws first st m a l, if f = -1 then -1 else f - (m : Int), false⟩, 0)) ∨
    (0 ≤ f ∧ f < (m : Int) ∧ ∃ k, k ≤ m ∧ gw first st m a l ⟨L, M, wt, f, false⟩ = (⟨L, sets M ((ws first st m a l).take k), wt ++ (ws first st m a l).take k, 0, true⟩, 15))
  | 0, a, l, M, wt, f, hf, hl => by
    left
    refine ⟨by omega, ?_⟩
    rw [gw, ws, List.append_nil]
    show _ = ((⟨L, M, wt, _, false⟩ : Pd), (0 : Int))
    congr 2
    split
    · assumption
    · simp
  | m + 1, a, l, M, wt, f, hf, hl => by
    have hs : (sealed (st a) (l.take 108)).length = 128 := sealed_length _ _ (by simp; omega)
    have hn : ¬ (((first + a : Nat) : Int) < 0 ∨ ((L.length : Nat) : Int) ≤ ((first + a : Nat) : Int)) := by omega
    have hw : DWrite.written ⟨L, M, wt, f, false⟩ ((first + a : Nat) : Int) (sealed (st a) (l.take 108)) = DTurn.blown ⟨L, M.set (first + a) (sealed (st a) (l.take 108)), wt ++ [(first + a, sealed (st a) (l.take 108))], f, false⟩ := by
      unfold DWrite.written refus
      simp only [if_neg hn, if_neg (show ¬ (false = true) by decide)]
      rw [if_pos trivial, if_pos hs]
      show DTurn.blown (DWrite.noted _ (((first + a : Nat) : Int)).toNat _) = _
      rw [Int.toNat_natCast]
      rfl
    rw [gw, ws, hw]
    generalize sealed (st a) (l.take 108) = s at *
    by_cases h0 : f = 0
    · subst h0
      right
      refine ⟨Int.le_refl _, by omega, 1, by omega, ?_⟩
      unfold DTurn.blown
      simp only [if_neg (show ¬ (0 : Int) = -1 by decide), if_pos rfl]
      simp [sets]
    · have hb : DTurn.blown ⟨L, M.set (first + a) s, wt ++ [(first + a, s)], f, false⟩ = (⟨L, M.set (first + a) s, wt ++ [(first + a, s)], if f = -1 then -1 else f - 1, false⟩, 0) := by
        unfold DTurn.blown
        by_cases h1 : f = -1
        · subst h1; rfl
        · simp only [if_neg h1, if_neg h0]
      rw [hb]
      simp only [if_pos trivial]
      rcases gw_any first st L m (a + 1) (l.drop 108) (M.set (first + a) s) (wt ++ [(first + a, s)]) (if f = -1 then -1 else f - 1) (by split <;> omega) (by omega) with ⟨h1, h2⟩ | ⟨h1, h2, k, h3, h4⟩
      · left
        refine ⟨by split at h1 <;> omega, ?_⟩
        rw [h2]
        simp only [List.append_assoc, List.singleton_append]
        congr 2
        by_cases h5 : f = -1
        · simp [h5]
        · simp only [if_neg h5]
          rw [if_neg (by omega)]
          omega
      · right
        refine ⟨by split at h1 <;> omega, by split at h2 <;> omega, k + 1, by omega, ?_⟩
        rw [h4]
        simp [sets]
end Go.Proofs.Ytbnicphegbdfnaa.AP
namespace Go.Proofs.Ytbnicphegbdfnaa.AQ
set_option maxRecDepth 100000
open Go Go.RowKit Go.Proofs.Ytbnicphegbdfnaa Go.Proofs.Ytbnicphegbdfnaa.Facts Go.Proofs.Ytbnicphegbdfnaa.Bytes Go.Proofs.Ytbnicphegbdfnaa.DKeep Go.Proofs.Ytbnicphegbdfnaa.DSmall Go.Proofs.Ytbnicphegbdfnaa.Puts Go.Proofs.Ytbnicphegbdfnaa.Scan Go.Proofs.Ytbnicphegbdfnaa.SPure Go.Proofs.Ytbnicphegbdfnaa.JA Go.Proofs.Ytbnicphegbdfnaa.JB Go.Proofs.Ytbnicphegbdfnaa.JC Go.Proofs.Ytbnicphegbdfnaa.JD Go.Proofs.Ytbnicphegbdfnaa.JE Go.Proofs.Ytbnicphegbdfnaa.JF Go.Proofs.Ytbnicphegbdfnaa.JH Go.Proofs.Ytbnicphegbdfnaa.JP Go.Proofs.Ytbnicphegbdfnaa.JQ Go.Proofs.Ytbnicphegbdfnaa.AP
open Go.Proofs.Ytbnicphegbdfnaa.DOver (cutw cutw_length)

theorem told_rec' (b : List UInt8) (k : Nat) (h : b.length < 4294967296) : toldS (recB b ++ zeros k) = (b, true) := by
  have e4 : (be 4 b.length).length = 4 := by rw [be_length]
  have hv : Sc.val (be 4 b.length) = b.length := val_be _ 4 (by omega)
  have h1 : Sc.num ⟨recB b ++ zeros k, 0⟩ 4 = (b.length, ⟨b ++ zeros k, 0⟩) := by
    unfold Sc.num Sc.take recB
    rw [if_pos rfl, if_pos (by simp [e4])]
    simp only [List.append_assoc]
    rw [show (be 4 b.length ++ (b ++ zeros k)).take 4 = be 4 b.length by rw [List.take_append_of_le_length (by omega), List.take_of_length_le (by omega)], hv]
    rw [show (be 4 b.length ++ (b ++ zeros k)).drop 4 = b ++ zeros k from List.drop_left' (be_length 4 _)]
  unfold toldS
  simp only [h1]
  have h2 : Sc.rule ⟨b ++ zeros k, 0⟩ (decide ((b.length : Int) ≤ ((Sc.left ⟨b ++ zeros k, 0⟩ : Nat) : Int))) 2 = ⟨b ++ zeros k, 0⟩ := by
    unfold Sc.rule Sc.left
    rw [if_neg]
    rintro ⟨h, _⟩
    simp at h
    omega
  rw [h2]
  have h3 : Sc.take ⟨b ++ zeros k, 0⟩ b.length = (b, ⟨zeros k, 0⟩) := by
    unfold Sc.take
    rw [if_pos rfl, if_pos (by simp)]
    simp
  rw [h3]
  have h4 : Sc.take ⟨zeros k, 0⟩ (Sc.left ⟨zeros k, 0⟩) = (zeros k, ⟨[], 0⟩) := by
    unfold Sc.take Sc.left
    rw [if_pos rfl, if_pos rfl, if_pos (Nat.le_refl _)]
    simp
  have h5 : Sc.rule ⟨[], 0⟩ (!false) 2 = ⟨[], 0⟩ := by
    unfold Sc.rule
    exact if_neg (by simp)
  simp only [h4, some0_zeros, h5]
  exact if_pos trivial
/-- The stamp and the loads of m sectors, from the index a on, behind acc; none, if one is not right. -/
def aload (last : List Sec) (first : Nat) : Nat → Nat → Nat → List UInt8 → Option (Nat × List UInt8)
  | 0, _, s, acc => some (s, acc)
  | m + 1, a, s, acc =>
    let o := opened (last[first + a]?.getD [])
    if o.2.2 = 0 ∧ (a = 0 ∨ o.1 = s) then aload last first m (a + 1) o.1 (acc ++ o.2.1) else none
/-- The greatest number in m sectors, from the index a on. -/
def anew (last : List Sec) (first : Nat) : Nat → Nat → Nat → Nat
  | 0, _, most => most
  | m + 1, a, most => anew last first m (a + 1) (max (max most (stampOf (last[first + a]?.getD []))) (againOf (last[first + a]?.getD [])))
/-- What an area tells. -/
def atell (o : Option (Nat × List UInt8)) : Nat × List UInt8 × Int :=
  match o with
  | none => (0, [], 2)
  | some (s, l) => if (toldS l).2 = true then (s, (toldS l).1, 0) else (0, [], 2)
theorem atell_err (o : Option (Nat × List UInt8)) : (atell o).2.2 = 0 ∨ (atell o).2.2 = 2 := by
  unfold atell
  cases o with
  | none => exact .inr rfl
  | some p =>
    obtain ⟨s, l⟩ := p
    by_cases h : (toldS l).2 = true
    · exact .inl (by simp only [if_pos h])
    · exact .inr (by simp only [if_neg h])

theorem opened_ok {l : List UInt8} (h : (opened l).2.2 = 0) : (opened l).1 = stampOf l ∧ stampOf l = againOf l ∧ may (stampOf l) = true := by
  unfold opened at h ⊢
  split at h
  · cases h
  · split at h
    · cases h
    · split at h
      · cases h
      · split at h
        · cases h
        · rename_i h1 h2 h3 h4
          rw [if_neg h1, if_neg h2, if_neg h3, if_neg h4]
          have h5 : formed l = true := by simpa using h3
          unfold formed at h5
          rw [Bool.and_eq_true] at h5
          exact ⟨rfl, of_decide_eq_true h5.1, h5.2⟩
theorem aload_some (last : List Sec) (first : Nat) : ∀ (m a s : Nat) (acc : List UInt8) (s' : Nat) (l : List UInt8), aload last first m a s acc = some (s', l) →
    (∀ i, i < m → (opened (last[first + (a + i)]?.getD [])).2.2 = 0 ∧ (opened (last[first + (a + i)]?.getD [])).1 = s') ∧ (a ≠ 0 → s' = s)
  | 0, a, s, acc, s', l, h => by
    rw [aload] at h
    injection h with h
    injection h with h1 h2
    exact ⟨fun i hi => by omega, fun _ => h1.symm⟩
  | m + 1, a, s, acc, s', l, h => by
    rw [aload] at h
    split at h
    · rename_i hc
      obtain ⟨h1, h2⟩ := aload_some last first m (a + 1) _ _ s' l h
      have h3 := h2 (by omega)
      refine ⟨fun i hi => ?_, fun ha => ?_⟩
      · match i with
        | 0 => exact ⟨hc.1, h3.symm⟩
        | i + 1 =>
          have := h1 i (by omega)
          rwa [show a + 1 + i = a + (i + 1) by omega] at this
      · rcases hc.2 with h | h
        · exact absurd h ha
        · rw [h3]; exact h
    · cases h
theorem aload_congr (L L' : List Sec) (first : Nat) : ∀ (m a s : Nat) (acc : List UInt8), (∀ i, i < m → L'[first + (a + i)]? = L[first + (a + i)]?) → aload L' first m a s acc = aload L first m a s acc
  | 0, _, _, _, _ => rfl
  | m + 1, a, s, acc, h => by
    rw [aload, aload]
    have h0 := h 0 (by omega)
    rw [Nat.add_zero] at h0
    simp only [h0]
    rw [aload_congr L L' first m (a + 1) _ _ fun i hi => by have := h (i + 1) (by omega); rwa [show a + (i + 1) = a + 1 + i by omega] at this]
theorem anew_congr (L L' : List Sec) (first : Nat) : ∀ (m a most : Nat), (∀ i, i < m → L'[first + (a + i)]? = L[first + (a + i)]?) → anew L' first m a most = anew L first m a most
  | 0, _, _, _ => rfl
  | m + 1, a, most, h => by
    rw [anew, anew]
    have h0 := h 0 (by omega)
    rw [Nat.add_zero] at h0
    rw [h0]
    exact anew_congr L L' first m (a + 1) _ fun i hi => by have := h (i + 1) (by omega); rwa [show a + (i + 1) = a + 1 + i by omega] at this
theorem anew_ge (L : List Sec) (first : Nat) : ∀ (m a most : Nat), most ≤ anew L first m a most ∧ ∀ i, i < m → stampOf (L[first + (a + i)]?.getD []) ≤ anew L first m a most ∧ againOf (L[first + (a + i)]?.getD []) ≤ anew L first m a most
  | 0, a, most => ⟨Nat.le_refl _, fun i hi => by omega⟩
  | m + 1, a, most => by
    rw [anew]
    obtain ⟨h1, h2⟩ := anew_ge L first m (a + 1) (max (max most (stampOf (L[first + a]?.getD []))) (againOf (L[first + a]?.getD [])))
    refine ⟨by omega, fun i hi => ?_⟩
    match i with
    | 0 => rw [Nat.add_zero]; omega
    | i + 1 =>
      have := h2 i (by omega)
      rwa [show a + 1 + i = a + (i + 1) by omega] at this
theorem anew_le (L : List Sec) (first N : Nat) : ∀ (m a most : Nat), most ≤ N → (∀ i, i < m → stampOf (L[first + (a + i)]?.getD []) ≤ N ∧ againOf (L[first + (a + i)]?.getD []) ≤ N) → anew L first m a most ≤ N
  | 0, a, most, h, _ => h
  | m + 1, a, most, h, h2 => by
    rw [anew]
    have h0 := h2 0 (by omega)
    rw [Nat.add_zero] at h0
    exact anew_le L first N m (a + 1) _ (by omega) fun i hi => by have := h2 (i + 1) (by omega); rwa [show a + (i + 1) = a + 1 + i by omega] at this

/-- What m loads are, each filled with noughts. -/
def pads : Nat → List UInt8 → List UInt8
  | 0, _ => []
  | m + 1, l => (l.take 108 ++ zeros (108 - (l.take 108).length)) ++ pads m (l.drop 108)
theorem pads_nil : ∀ m, pads m [] = zeros (108 * m)
  | 0 => rfl
  | m + 1 => by
    rw [pads, List.take_nil, List.drop_nil, pads_nil m]
    unfold zeros
    rw [List.nil_append, List.replicate_append_replicate]
    congr 1
    simp
    omega
theorem pads_eq : ∀ (m : Nat) (l : List UInt8), l.length ≤ 108 * m → pads m l = l ++ zeros (108 * m - l.length)
  | 0, l, h => by
    have : l = [] := List.eq_nil_of_length_eq_zero (by omega)
    subst this
    rfl
  | m + 1, l, h => by
    rw [pads]
    by_cases h1 : l.length ≤ 108
    · rw [List.take_of_length_le h1, List.drop_of_length_le h1, pads_nil, List.append_assoc]
      unfold zeros
      rw [List.replicate_append_replicate, show 108 - l.length + 108 * m = 108 * (m + 1) - l.length by omega]
    · rw [pads_eq m (l.drop 108) (by rw [List.length_drop]; omega)]
      have e1 : (l.take 108).length = 108 := by rw [List.length_take]; omega
      rw [e1, Nat.sub_self]
      unfold zeros
      rw [List.replicate_zero, List.append_nil, ← List.append_assoc, List.take_append_drop, List.length_drop, show 108 * m - (l.length - 108) = 108 * (m + 1) - l.length by omega]
theorem aload_put (L : List Sec) (first s : Nat) (hs : may s = true) : ∀ (m a s0 : Nat) (acc l : List UInt8), (a = 0 ∨ s0 = s) → (∀ i, i < m → L[first + (a + i)]? = some (sealed s ((l.drop (108 * i)).take 108))) → 1 ≤ m + a → 
    aload L first m a s0 acc = some (if m = 0 then s0 else s, acc ++ pads m l)
  | 0, a, s0, acc, l, _, _, _ => by rw [aload, pads, List.append_nil]; rfl
  | m + 1, a, s0, acc, l, ha, h, _ => by
    have h0 := h 0 (by omega)
    rw [Nat.add_zero, Nat.mul_zero, List.drop_zero] at h0
    have ho : opened (L[first + a]?.getD []) = (s, l.take 108 ++ zeros (108 - (l.take 108).length), 0) := by
      rw [h0, Option.getD_some]
      exact opened_sealed s _ (by simp; omega) hs
    rw [aload]
    simp only [ho]
    rw [if_pos ⟨trivial, ha.imp id fun h => h.symm⟩, aload_put L first s hs m (a + 1) s _ (l.drop 108) (.inr rfl) (fun i hi => by
      have := h (i + 1) (by omega)
      rw [show a + (i + 1) = a + 1 + i by omega] at this
      rw [this, List.drop_drop, show 108 + 108 * i = 108 * (i + 1) by omega]) (by omega)]
    simp only [pads, List.append_assoc, ite_self, if_neg (show ¬ m + 1 = 0 by omega)]
/-- An area that was written is read. -/
theorem atell_put (L : List Sec) (first s m : Nat) (b : List UInt8) (hs : may s = true) (hm : 1 ≤ m) (hb : b.length + 4 ≤ 108 * m) (hb2 : b.length < 4294967296) (h : ∀ i, i < m → L[first + i]? = some (sealed s (((recB b).drop (108 * i)).take 108))) : atell (aload L first m 0 0 []) = (s, b, 0) := by
  rw [aload_put L first s hs m 0 0 [] (recB b) (.inl rfl) (fun i hi => by rw [Nat.zero_add]; exact h i hi) (by omega), if_neg (by omega), List.nil_append, pads_eq m _ (by rw [recB_length]; omega)]
  unfold atell
  simp only [told_rec' b _ hb2]
  rw [if_pos trivial]

/-- What a cut leaves of one sector. -/
theorem cut_one (z : Sec) (s : Nat) (load : List UInt8) (k : Nat) (hz : z.length = 128) (hl : load.length ≤ 108) (hs : may s = true) (hk : k ≤ 16) :
    cutw z (sealed s load) k = z ∨ cutw z (sealed s load) k = sealed s load ∨ (stampOf (cutw z (sealed s load) k) = s ∧ againOf (cutw z (sealed s load) k) = againOf z) := by
  have hsl := sealed_length s load hl
  by_cases h0 : k = 0
  · left
    subst h0
    unfold cutw
    simp
  · by_cases h1 : k = 16
    · right; left
      rw [h1]
      exact cut16 _ _ hz hsl
    · right; right
      have hst := sealed_stamp s load hs
      constructor
      · have e : stampOf (cutw z (sealed s load) k) = stampOf (sealed s load) := by
          unfold stampOf cutw
          congr 1
          rw [List.take_append_of_le_length (by rw [List.length_take]; omega), List.take_take, Nat.min_eq_left (by omega)]
        rw [e, hst]
      · unfold againOf cutw
        congr 2
        rw [List.drop_append, List.drop_of_length_le (by rw [List.length_take]; omega), List.nil_append, List.drop_drop, List.length_take]
        congr 1
        omega
/-- What is left of an area that was written, when the power went. -/
structure Left (L L' : List Sec) (first m s : Nat) (r : List UInt8) : Prop where
  len : L'.length = L.length
  ev : ∀ (a : Nat) (x : Sec), L'[a]? = some x → x.length = 128
  out : ∀ a, (a < first ∨ first + m ≤ a) → L'[a]? = L[a]?
  is : L' = L ∨ ((∃ i, i < m ∧ stampOf (L'[first + i]?.getD []) = s) ∧ (∀ i, i < m → stampOf (L'[first + i]?.getD []) ≤ s ∧ againOf (L'[first + i]?.getD []) ≤ s) ∧
    (aload L' first m 0 0 [] = none ∨ ∀ i, i < m → L'[first + i]? = some (sealed s ((r.drop (108 * i)).take 108))))
theorem ws_mem {first m : Nat} {st : Nat → Nat} {r : List UInt8} {a : Nat} {s : Sec} (h : (a, s) ∈ ws first st m 0 r) : ∃ i, i < m ∧ a = first + i ∧ s = sealed (st i) ((r.drop (108 * i)).take 108) := by
  obtain ⟨i, hi, he⟩ := List.getElem_of_mem h
  rw [ws_length] at hi
  have h2 := ws_at first st m 0 r i hi
  rw [List.getElem?_eq_getElem (by rw [ws_length]; exact hi), he] at h2
  injection h2 with h2
  injection h2 with h3 h4
  rw [Nat.zero_add] at h3 h4
  exact ⟨i, hi, h3, h4⟩
theorem left_of (L L' : List Sec) (first m s : Nat) (r : List UInt8) (hs : may s = true) (hev : ∀ (a : Nat) (x : Sec), L[a]? = some x → x.length = 128) (hfit : first + m ≤ L.length)
    (hlow : ∀ i, i < m → stampOf (L[first + i]?.getD []) < s ∧ againOf (L[first + i]?.getD []) < s) (l : List (Nat × Sec)) (hsub : ∀ p ∈ l, p ∈ ws first (fun _ => s) m 0 r) (hc : Cut L L' l) : Left L L' first m s r := by
  obtain ⟨hlen, hcut⟩ := hc
  have hch : ∀ i, ((r.drop (108 * i)).take 108).length ≤ 108 := fun i => by simp; omega
  -- each sector of the area is the old one, the new one, or a torn one
  have each : ∀ i, i < m → ∃ z y, L[first + i]? = some z ∧ L'[first + i]? = some y ∧ y.length = 128 ∧ (y = z ∨ y = sealed s ((r.drop (108 * i)).take 108) ∨ (stampOf y = s ∧ againOf y = againOf z)) := fun i hi => by
    obtain ⟨z, hz⟩ : ∃ z, L[first + i]? = some z := ⟨_, List.getElem?_eq_getElem (by omega)⟩
    have hzl := hev _ z hz
    rcases hcut _ z hz with h | ⟨q, k, hk, hq, h⟩
    · exact ⟨z, z, hz, h, hzl, .inl rfl⟩
    · obtain ⟨i2, hi2, he, rfl⟩ := ws_mem (hsub _ hq)
      have : i2 = i := by omega
      subst this
      exact ⟨z, _, hz, h, cutw_length _ _ _ hzl (sealed_length _ _ (hch _)) hk, cut_one z s _ k hzl (hch _) hs hk⟩
  have out : ∀ a, (a < first ∨ first + m ≤ a) → L'[a]? = L[a]? := fun a ha => by
    cases hz : L[a]? with
    | none => rw [List.getElem?_eq_none_iff] at hz ⊢; omega
    | some z =>
      rcases hcut a z hz with h | ⟨q, k, hk, hq, h⟩
      · exact h
      · obtain ⟨i2, hi2, he, _⟩ := ws_mem (hsub _ hq)
        omega
  refine ⟨hlen, fun a x hx => ?_, out, ?_⟩
  · by_cases h : a < first ∨ first + m ≤ a
    · rw [out a h] at hx
      exact hev a x hx
    · obtain ⟨z, y, _, h2, h3, _⟩ := each (a - first) (by omega)
      rw [show first + (a - first) = a by omega, hx] at h2
      injection h2 with h2
      rw [h2]; exact h3
  · by_cases hall : ∀ i, i < m → L'[first + i]? = L[first + i]?
    · left
      apply List.ext_getElem?
      intro a
      by_cases h : a < first ∨ first + m ≤ a
      · exact out a h
      · have := hall (a - first) (by omega)
        rwa [show first + (a - first) = a by omega] at this
    · right
      have hstamp : ∀ i, stampOf (sealed s ((r.drop (108 * i)).take 108)) = s := fun i => sealed_stamp s _ hs
      have hagain : ∀ i, againOf (sealed s ((r.drop (108 * i)).take 108)) = s := fun i => sealed_again s _ (hch i) hs
      refine ⟨?_, fun i hi => ?_, ?_⟩
      · obtain ⟨i, hi⟩ : ∃ i, ¬ (i < m → L'[first + i]? = L[first + i]?) := Classical.not_forall.1 hall
        have him : i < m := Classical.byContradiction fun h => hi fun h2 => absurd h2 h
        obtain ⟨z, y, h1, h2, h3, h4⟩ := each i him
        refine ⟨i, him, ?_⟩
        rw [h2, Option.getD_some]
        rcases h4 with rfl | rfl | h4
        · exact absurd (fun _ => by rw [h2, h1]) hi
        · exact hstamp i
        · exact h4.1
      · obtain ⟨z, y, h1, h2, h3, h4⟩ := each i hi
        have hl := hlow i hi
        rw [h1, Option.getD_some] at hl
        rw [h2, Option.getD_some]
        rcases h4 with rfl | rfl | h4
        · omega
        · rw [hstamp, hagain]; omega
        · rw [h4.1, h4.2]; omega
      · cases hq : aload L' first m 0 0 [] with
        | none => exact .inl rfl
        | some p =>
          right
          obtain ⟨s', l'⟩ := p
          have hsome := (aload_some L' first m 0 0 [] s' l' hq).1
          -- some sector is not the old one: the stamp of all is the new one
          obtain ⟨i0, hi0⟩ : ∃ i, ¬ (i < m → L'[first + i]? = L[first + i]?) := Classical.not_forall.1 hall
          have him : i0 < m := Classical.byContradiction fun h => hi0 fun h2 => absurd h2 h
          have hnew : ∀ i, i < m → (opened (L'[first + i]?.getD [])).2.2 = 0 ∧ stampOf (L'[first + i]?.getD []) = s' ∧ againOf (L'[first + i]?.getD []) = s' := fun i hi => by
            have h := hsome i hi
            rw [Nat.zero_add] at h
            have h2 := opened_ok h.1
            exact ⟨h.1, by rw [← h2.1]; exact h.2, by rw [← h2.2.1, ← h2.1]; exact h.2⟩
          have hs' : s' = s := by
            obtain ⟨z, y, h1, h2, h3, h4⟩ := each i0 him
            have h5 := hnew i0 him
            rw [h2, Option.getD_some] at h5
            rcases h4 with rfl | rfl | h4
            · exact absurd (fun _ => by rw [h2, h1]) hi0
            · rw [← h5.2.1]; exact hstamp i0
            · rw [← h5.2.1]; exact h4.1
          intro i hi
          obtain ⟨z, y, h1, h2, h3, h4⟩ := each i hi
          have h5 := hnew i hi
          have hl := hlow i hi
          rw [h1, Option.getD_some] at hl
          rw [h2, Option.getD_some] at h5
          rcases h4 with rfl | rfl | h4
          · omega
          · exact h2
          · omega
end Go.Proofs.Ytbnicphegbdfnaa.AQ
namespace Go.Proofs.Ytbnicphegbdfnaa.AA
set_option maxRecDepth 100000
open Go Go.RowKit Go.Proofs.Ytbnicphegbdfnaa Go.Proofs.Ytbnicphegbdfnaa.Facts Go.Proofs.Ytbnicphegbdfnaa.Bytes Go.Proofs.Ytbnicphegbdfnaa.DKeep Go.Proofs.Ytbnicphegbdfnaa.DSmall Go.Proofs.Ytbnicphegbdfnaa.Puts Go.Proofs.Ytbnicphegbdfnaa.Scan Go.Proofs.Ytbnicphegbdfnaa.Take Go.Proofs.Ytbnicphegbdfnaa.Nums Go.Proofs.Ytbnicphegbdfnaa.Rscan Go.Proofs.Ytbnicphegbdfnaa.Rnums Go.Proofs.Ytbnicphegbdfnaa.SPure Go.Proofs.Ytbnicphegbdfnaa.SSeal Go.Proofs.Ytbnicphegbdfnaa.SOpen
open Go.Proofs.Ytbnicphegbdfnaa.JC (some0 takeC toldS left_le take_l rule_l)

/-- The error of what may be told. -/
def toldE (b : Bool) : Int := if b = true then 0 else 2
theorem isnt74 (x : UInt8) (w : World) : Calls Try.prog 109 #[.int .u8 (x.toNat : Int)] w fun e w' => e = .returned (.bool (x != 0)) ∧ w = w' := by
  have hx : (x != 0) = ((x.toNat : Int) != 0) := by
    by_cases h : x = 0
    · subst h; rfl
    · have h1 : (x != 0) = true := by simpa using h
      have h2 : ¬ x.toNat = 0 := fun e => h (UInt8.toNat_inj.1 (by simpa using e))
      rw [h1]
      simp
      omega
  rw [hx]
  go_enter Try.func109, Try.ntmps109
  go_wp2
  go_ret
  exact ⟨rfl, rfl⟩
theorem isnt74_eq (x : UInt8) (q : Bool) (h : Hid ((x != 0) = q)) (w : World) : Calls Try.prog 109 #[.int .u8 (x.toNat : Int)] w fun e w' => e = .returned (.bool q) ∧ w = w' := by
  have := isnt74 x w
  rwa [h.out] at this
theorem index74 (S : Nat → Prop) (v : Value) (l : List UInt8) (w : World) (h : Rd S w v l) : Calls Try.prog 120 #[v, .func (.func 109) #[] #[]] w fun e w' => ∃ r : Int, e = .returned (.int .i64 r) ∧ decide (0 ≤ r) = some0 l ∧ w = w' := by
  obtain ⟨A, c, rfl, h1, h2, h3, _⟩ := id h
  have HR := Lib.hid h
  unfold maxLen at h2
  have hc2 : c ≤ 9223372036854775807 := by omega
  clear h h2
  go_enter Try.func120, Try.ntmps120
  go_wp2
  go_loopg [8] l.length (fun q s8 wx => ∃ (i : Nat), i + q = l.length ∧ s8 = .int .i64 i ∧ wx = w ∧ Hid (some0 (l.take i) = false))
  case atStart => exact ⟨0, Nat.zero_add _, rfl, rfl, Lib.hid rfl⟩
  case round =>
    obtain ⟨i, hiq, rfl, rfl, HZ⟩ := hrel
    cases gk with
    | succ q =>
      have hil : (i : Int) < (l.length : Int) := by omega
      have hil2 : i < l.length := by omega
      obtain ⟨ad, c', e, _, hcell⟩ := HR.out.cell hil2
      injection e with e1 _ e3
      subst e1 e3
      obtain ⟨x, hx⟩ : ∃ x, l[i]?.getD 0 = x := ⟨_, rfl⟩
      rw [hx] at hcell
      have hw1 : IntKind.i64.wrap ((i : Int) + 1) = (i : Int) + 1 := IntWalk.i64_in _ (by omega)
      have HTK : Hid (some0 (l.take (i + 1)) = (x != 0)) := Lib.hid (by
        rw [take_snoc l i hil2, hx]
        have := HZ.out
        unfold some0 at this ⊢
        rw [List.any_append, this]
        simp)
      have HL : Hid (some0 l = true ∨ some0 (l.take (i + 1)) = false) := Lib.hid (by
        cases hh : some0 (l.take (i + 1)) with
        | false => exact .inr rfl
        | true =>
          left
          unfold some0 at hh ⊢
          obtain ⟨y, hy, hy2⟩ := List.any_eq_true.1 hh
          exact List.any_eq_true.2 ⟨y, List.mem_of_mem_take hy, hy2⟩)
      clear hx
      cases hq : (x != 0) with
      | true =>
        have HQ := Lib.hid hq
        clear hq
        go_wp2_with fail
        refine (isnt74_eq x true HQ _).mono ?_
        rintro e w' ⟨rfl, rfl⟩
        go_wp2
        go_ret
        refine ⟨(i : Int), rfl, ?_, rfl⟩
        rcases HL.out with h | h
        · rw [h]; exact decide_eq_true (by omega)
        · rw [HTK.out, HQ.out] at h; cases h
      | false =>
        have HQ := Lib.hid hq
        clear hq
        go_wp2_with fail
        refine (isnt74_eq x false HQ _).mono ?_
        rintro e w' ⟨rfl, rfl⟩
        have HT2 : Hid (some0 (l.take (i + 1)) = false) := Lib.hid (HTK.out.trans HQ.out)
        go_wp2
        go_roundg q
        case measure => omega
        case rel => exact ⟨i + 1, by omega, by first | rfl | (simp; omega), rfl, HT2⟩
    | zero =>
      obtain rfl : i = l.length := by omega
      have hil : ¬ (l.length : Int) < (l.length : Int) := by omega
      have hz := HZ.out
      rw [List.take_length] at hz
      have HZ2 := Lib.hid hz
      clear hz
      go_wp2
      go_ret
      exact ⟨-1, rfl, by rw [HZ2.out]; rfl, rfl⟩
theorem contains74 (S : Nat → Prop) (v : Value) (l : List UInt8) (w : World) (h : Rd S w v l) : Calls Try.prog 108 #[v, .func (.func 109) #[] #[]] w fun e w' => e = .returned (.bool (some0 l)) ∧ w = w' := by
  obtain ⟨A, c, rfl, _⟩ := id h
  have HI := Lib.hid (index74 S _ l w h)
  clear h
  go_enter Try.func108, Try.ntmps108
  go_wp2_with fail
  refine HI.out.mono ?_
  rintro e w' ⟨r, rfl, hr, rfl⟩
  have HRR := Lib.hid hr
  clear hr
  go_wp2
  go_ret
  exact ⟨by rw [← HRR.out]; first | rfl | simp, rfl⟩

set_option maxHeartbeats 2000000 in
theorem told_any (S : Nat → Prop) (v : Value) (l : List UInt8) (w : World) (h : Rd S w v l) (hl : l.length ≤ 140737488355328) :
    Calls Try.prog 58 #[v] w fun e w' => ∃ v', e = .returned (.tuple #[v', .int .i64 (toldE (toldS l).2)]) ∧ Rd (fun b => w.heap.size ≤ b) w' v' (toldS l).1 ∧ Grew w w' := by
  unfold toldS
  have e4 : width 4 = 4 := by decide
  obtain ⟨⟨n, s1⟩, h1⟩ : ∃ y, Sc.num ⟨l, 0⟩ 4 = y := ⟨_, rfl⟩
  have l1 : s1.l.length ≤ 140737488355328 := by
    have := (take_l ⟨l, 0⟩ 4 140737488355328 hl).2
    have e : s1 = (Sc.take ⟨l, 0⟩ 4).2 := by have := congrArg Prod.snd h1; exact this.symm
    rw [e]; exact this
  have n1 : n < 4294967296 := by
    have e : n = Sc.val (Sc.take ⟨l, 0⟩ 4).1 := by have := congrArg Prod.fst h1; exact this.symm
    rw [e]
    have hh := take_len ⟨l, 0⟩ 4
    have := val_lt (Sc.take ⟨l, 0⟩ 4).1 4
    rw [List.take_of_length_le hh] at this
    omega
  obtain ⟨s2, h2⟩ : ∃ y, s1.rule (decide ((n : Int) ≤ (s1.left : Int))) 2 = y := ⟨_, rfl⟩
  have l2 : s2.l.length ≤ 140737488355328 := by rw [← h2, rule_l]; exact l1
  obtain ⟨⟨b, s3⟩, h3⟩ : ∃ y, s2.take n = y := ⟨_, rfl⟩
  have l3 : b.length ≤ 140737488355328 ∧ s3.l.length ≤ 140737488355328 := by have := take_l s2 n _ l2; rw [h3] at this; exact this
  obtain ⟨⟨z, s4⟩, h4⟩ : ∃ y, s3.take s3.left = y := ⟨_, rfl⟩
  have l4 : z.length ≤ 140737488355328 := by have := (take_l s3 s3.left _ l3.2).1; rw [h4] at this; exact this
  obtain ⟨s5, h5⟩ : ∃ y, s4.rule (!some0 z) 2 = y := ⟨_, rfl⟩
  have ll1 := left_le s1 _ l1
  have ll3 := left_le s3 _ l3.2
  simp only [h1, h2, h3, h4, h5]
  obtain ⟨ans, hans⟩ : ∃ ans : List UInt8 × Bool, (if s5.e = 0 then (b, true) else ([], false)) = ans := ⟨_, rfl⟩
  rw [hans]
  have HANS := Lib.hid hans
  clear hans
  have H1 : Hid (Sc.num ⟨l, 0⟩ (width 4) = (n, s1)) := Lib.hid (by rw [e4]; exact h1)
  have H2 := Lib.hid h2
  have H3 := Lib.hid h3
  have H4 := Lib.hid h4
  have H5 := Lib.hid h5
  obtain ⟨L1, hL1⟩ : ∃ y, s1.left = y := ⟨_, rfl⟩
  obtain ⟨L3, hL3⟩ : ∃ y, s3.left = y := ⟨_, rfl⟩
  rw [hL1] at H2 ll1
  rw [hL3] at H4 ll3
  obtain ⟨q1, hq1⟩ : ∃ q1, decide ((n : Int) ≤ (L1 : Int)) = q1 := ⟨_, rfl⟩
  have hq1b : decide (n ≤ L1) = q1 := by rw [← hq1]; simp
  rw [hq1] at H2
  obtain ⟨q2, hq2⟩ : ∃ q2, (!some0 z) = q2 := ⟨_, rfl⟩
  rw [hq2] at H5
  have HL1 := Lib.hid hL1
  have HL3 := Lib.hid hL3
  have HB := Lib.hid l3.1
  have HZ := Lib.hid l4
  have HN : Hid (n ≤ 9223372036854775807) := Lib.hid (by omega)
  have HM : Hid (L3 ≤ 9223372036854775807) := Lib.hid (by omega)
  have w1 : IntKind.u64.wrap (L1 : Int) = (L1 : Int) := by rw [IntKind.wrap_u64]; omega
  have w2 : IntKind.i64.wrap (n : Int) = (n : Int) := IntWalk.i64_in _ (by omega)
  have HR := Lib.hid h
  obtain ⟨A, c, rfl, _⟩ := id h
  have HLL := Lib.hid hl
  clear h h1 h2 h3 h4 h5 l1 l2 l3 l4 n1 ll1 ll3 hL1 hL3 e4 hl
  go_enter Try.func58, Try.ntmps58
  go_wp2_with fail
  refine (from_any S _ l _ HR.out HLL.out).mono ?_
  rintro e w1' ⟨g, rfl, hs, hg⟩
  have HSA := Lib.hid hs
  have HG := Lib.hid hg
  have HSZ := Lib.hid hs.size.1
  obtain ⟨hi, hhi⟩ : ∃ hi, w1'.heap.size = hi := ⟨_, rfl⟩
  rw [hhi] at HSA
  clear hs hg hhi
  unfold ptr at *
  go_wp2_with fail
  refine (num_eq _ _ _ _ _ _ _ _ HSA H1).mono ?_
  rintro e wA ⟨rfl, hs, hc⟩
  have HSB := Lib.hid hs
  have HGA := Lib.hid (grew_chg HG.out hc HSZ.out)
  clear hs hc HSA HG
  go_wp2_with fail
  refine (left_eq _ _ _ _ _ _ HSB HL1).mono ?_
  rintro e w' ⟨rfl, rfl⟩
  go_wp2_with fail
  with_reducible refine (rule_eq _ _ _ _ _ s2 q1 _ HSB H2).mono ?_
  rintro e wB ⟨rfl, hs, hc⟩
  have HSC := Lib.hid hs
  have HGB := Lib.hid (grew_chg HGA.out hc HSZ.out)
  clear hs hc HSB HGA
  go_wp2_with fail
  with_reducible refine (takeC _ _ _ _ _ n b s3 HSC HN.out H3 HB.out).mono ?_
  rintro e wC ⟨vb, rfl, hr, hs, hc⟩
  have HSD := Lib.hid hs
  have HGC := Lib.hid (grew_chg HGB.out hc HSZ.out)
  have HZB : Hid (g < wB.heap.size) := Lib.hid (by have := HSC.out.size; omega)
  have HRB := Lib.hid hr.lt
  have HZC := Lib.hid hc.size
  obtain ⟨Ab, cb, rfl, _⟩ := id hr
  clear hs hc hr HSC
  go_wp2_with fail
  refine (left_eq _ _ _ _ _ _ HSD HL3).mono ?_
  rintro e w' ⟨rfl, rfl⟩
  go_wp2_with fail
  with_reducible refine (takeC _ _ _ _ _ L3 z s4 HSD HM.out H4 HZ.out).mono ?_
  rintro e wD ⟨vz, rfl, hr, hs, hc⟩
  have HSE := Lib.hid hs
  have HGD := Lib.hid (grew_chg HGC.out hc HSZ.out)
  have HRB2 := Lib.hid (HRB.out.keep fun q hq hS => hc.block q hq (fun e => by have e2 : q = g := Option.some.inj e; have := hS.1; have := HZB.out; omega))
  obtain ⟨Az, cz, rfl, _⟩ := id hr
  have HCT := Lib.hid (contains74 _ _ z wD hr)
  clear hs hc hr HSD HRB
  go_wp2_with fail
  refine HCT.out.mono ?_
  rintro e w' ⟨rfl, rfl⟩
  go_wp2_with fail
  with_reducible refine (rule_eq _ _ _ _ _ s5 q2 _ HSE H5).mono ?_
  rintro e wE ⟨rfl, hs, hc⟩
  have HSF := Lib.hid hs
  have HGE := Lib.hid (grew_chg HGD.out hc HSZ.out)
  have HRB3 := Lib.hid (HRB2.out.keep fun q hq hS => hc.block q hq (fun e => by have e2 : q = g := Option.some.inj e; have := hS.1; have := HZB.out; omega))
  clear hs hc HSE HCT HRB2
  go_wp2_with fail
  refine (fault_eq _ _ _ _ _ s5.e HSF (Lib.hid rfl)).mono ?_
  rintro e w' ⟨rfl, rfl⟩
  by_cases h0 : s5.e = 0
  · have b0 : (s5.e != 0) = false := by simpa using h0
    have hans := HANS.out
    rw [if_pos h0] at hans
    subst hans
    go_wp2
    go_returns
    exact ⟨_, rfl, HRB3.out.mono fun q hq => by have := HGB.out.size; have := hq.1; omega, HGE.out⟩
  · have b0 : (s5.e != 0) = true := by simpa using h0
    have hans := HANS.out
    rw [if_neg h0] at hans
    subst hans
    go_wp2
    go_returns
    exact ⟨_, rfl, Rd.nil _ _, HGE.out⟩

/-- Why an area can't be gone to. -/
def arefus (d : Pd) (first many : Int) : Int := if many < 1 ∨ first < 0 ∨ (d.safe.length : Int) - many < first then 1 else if d.off then 15 else 0
set_option maxHeartbeats 2000000 in
theorem arefuses_any (w : World) (g : Nat) (D : Nat → Prop) (d : Pd) (first many : Int) (h : DK w g D d) (hm : many ≤ 9223372036854775807) :
    Calls Try.prog 52 #[.pointer (some ⟨g, 0, none⟩), .int .i64 first, .int .i64 many] w fun e w' => e = .returned (.int .i64 (arefus d first many)) ∧ w = w' := by
  have HSZ := Lib.hid (DSmall.size_any w g D d h)
  have HOF := Lib.hid (off_any w g D d h)
  unfold dptr at HSZ HOF
  obtain ⟨_, a, b, ca, cb, vw, h0, _⟩ := h
  have n1 := h0.ok.n1
  have n2 := h0.ok.n2
  clear h0
  obtain ⟨n, hn⟩ : ∃ n, n = d.safe.length := ⟨_, rfl⟩
  unfold arefus
  rw [← hn] at HSZ n1 n2 ⊢
  have hn0 : ¬ ((n : Int) = 0) := by omega
  clear hn
  by_cases a1 : many < 1
  · rw [if_pos (.inl a1)]
    go_enter Try.func52, Try.ntmps52
    go_wp2_with fail
    refine HSZ.out.mono ?_
    rintro e w' ⟨rfl, rfl⟩
    go_wp2
    go_ret
    exact ⟨rfl, rfl⟩
  by_cases a2 : first < 0
  · rw [if_pos (.inr (.inl a2))]
    go_enter Try.func52, Try.ntmps52
    go_wp2_with fail
    refine HSZ.out.mono ?_
    rintro e w' ⟨rfl, rfl⟩
    go_wp2
    go_ret
    exact ⟨rfl, rfl⟩
  have e1 : IntKind.i64.wrap ((n : Int) - many) = (n : Int) - many := IntWalk.i64_in _ (by omega)
  by_cases a3 : (n : Int) - many < first
  · rw [if_pos (.inr (.inr a3))]
    go_enter Try.func52, Try.ntmps52
    go_wp2_with fail
    refine HSZ.out.mono ?_
    rintro e w' ⟨rfl, rfl⟩
    go_wp2
    go_ret
    exact ⟨rfl, rfl⟩
  rw [if_neg (by omega)]
  cases ho : d.off with
  | true =>
    rw [ho] at HOF
    clear ho
    rw [if_pos rfl]
    go_enter Try.func52, Try.ntmps52
    go_wp2_with fail
    refine HSZ.out.mono ?_
    rintro e w' ⟨rfl, rfl⟩
    go_wp2_with fail
    refine HOF.out.mono ?_
    rintro e w' ⟨rfl, rfl⟩
    go_wp2
    go_ret
    exact ⟨rfl, rfl⟩
  | false =>
    rw [ho] at HOF
    clear ho
    rw [if_neg (by decide)]
    go_enter Try.func52, Try.ntmps52
    go_wp2_with fail
    refine HSZ.out.mono ?_
    rintro e w' ⟨rfl, rfl⟩
    go_wp2_with fail
    refine HOF.out.mono ?_
    rintro e w' ⟨rfl, rfl⟩
    go_wp2
    go_ret
    exact ⟨rfl, rfl⟩
theorem made_nil (w : World) : Calls Try.prog 56 #[.pointer none] w fun e w' => e = .returned (.bool false) ∧ w = w' := by
  go_enter Try.func56, Try.ntmps56
  go_wp2
  go_ret
  exact ⟨rfl, rfl⟩
theorem size_nil (w : World) : Calls Try.prog 100 #[.pointer none] w fun e w' => e = .returned (.int .i64 0) ∧ w = w' := by
  go_enter Try.func100, Try.ntmps100
  go_wp2_with fail
  refine (made_nil w).mono ?_
  rintro e w' ⟨rfl, rfl⟩
  go_wp2
  go_ret
  exact ⟨rfl, rfl⟩
theorem arefuses_nil (w : World) (first many : Int) : Calls Try.prog 52 #[.pointer none, .int .i64 first, .int .i64 many] w fun e w' => e = .returned (.int .i64 11) ∧ w = w' := by
  go_enter Try.func52, Try.ntmps52
  go_wp2_with fail
  refine (size_nil w).mono ?_
  rintro e w' ⟨rfl, rfl⟩
  go_wp2
  go_ret
  exact ⟨rfl, rfl⟩
theorem anumber_any (S : Nat → Prop) (v : Value) (l : List UInt8) (w : World) (h : Rd S w v l) (h1 : 1 ≤ l.length) (h8 : l.length ≤ 8) :
    Calls Try.prog 59 #[v] w fun e w' => e = .returned (.int .u64 (Sc.val l : Int)) ∧ Grew w w' := by
  obtain ⟨A, c, rfl, _⟩ := id h
  have H := Lib.hid h
  have hw : width (l.length : Int) = l.length := by unfold width; omega
  have HN : Hid (Sc.num ⟨l, 0⟩ (width (l.length : Int)) = (Sc.val l, ⟨[], 0⟩)) := Lib.hid (by
    rw [hw]; simp [Sc.num, Sc.take])
  clear h
  go_enter Try.func59, Try.ntmps59
  go_wp2_with fail
  refine (from_any S _ l _ H.out (by omega)).mono ?_
  rintro e w1 ⟨g, rfl, hs, hg⟩
  have HS := Lib.hid hs
  have HG := Lib.hid hg
  have hsz := hs.size.1
  have HSZ := Lib.hid hsz
  clear hs hg hsz
  unfold ptr
  go_wp2_with fail
  refine (num_eq w1 w.heap.size w1.heap.size _ ⟨l, 0⟩ _ _ _ HS HN).mono ?_
  rintro e w2 ⟨rfl, _, hc⟩
  go_wp2
  go_ret
  exact ⟨rfl, grew_chg HG.out hc HSZ.out⟩
end Go.Proofs.Ytbnicphegbdfnaa.AA
namespace Go.Proofs.Ytbnicphegbdfnaa.AW
set_option maxRecDepth 100000
open Go Go.RowKit Go.Proofs.Ytbnicphegbdfnaa Go.Proofs.Ytbnicphegbdfnaa.Facts Go.Proofs.Ytbnicphegbdfnaa.Bytes Go.Proofs.Ytbnicphegbdfnaa.DKeep Go.Proofs.Ytbnicphegbdfnaa.DSmall Go.Proofs.Ytbnicphegbdfnaa.SPure Go.Proofs.Ytbnicphegbdfnaa.JD Go.Proofs.Ytbnicphegbdfnaa.AP Go.Proofs.Ytbnicphegbdfnaa.AQ

/-- Sealed sectors are written to the indexes of a list. -/
def gl (first st : Nat) : List Nat → List UInt8 → Pd → Pd × Int
  | [], _, d => (d, 0)
  | i :: l, left, d =>
    let r := DWrite.written d ((first + i : Nat) : Int) (sealed st (left.take 108))
    if r.2 = 0 then gl first st l (left.drop 108) r.1 else r
theorem gl_gw (first st : Nat) : ∀ (m a : Nat) (left : List UInt8) (d : Pd), gl first st (List.range' a m) left d = gw first (fun _ => st) m a left d
  | 0, _, _, _ => rfl
  | m + 1, a, left, d => by
    rw [List.range'_succ, gl, gw]
    split
    · exact gl_gw first st m (a + 1) _ _
    · rfl
theorem gl_snoc (first st : Nat) (x : Nat) : ∀ (pre : List Nat) (left : List UInt8) (d d' : Pd), gl first st pre left d = (d', 0) → gl first st (pre ++ [x]) left d = DWrite.written d' ((first + x : Nat) : Int) (sealed st ((left.drop (108 * pre.length)).take 108))
  | [], left, d, d', h => by
    have h : (d, (0 : Int)) = (d', 0) := h
    injection h with h _
    subst h
    rw [List.nil_append, gl]
    simp only [List.length_nil, Nat.mul_zero, List.drop_zero]
    generalize DWrite.written d ((first + x : Nat) : Int) (sealed st (left.take 108)) = r
    obtain ⟨r1, r2⟩ := r
    by_cases h0 : r2 = 0
    · subst h0
      rw [if_pos rfl, gl]
    · rw [if_neg h0]
  | i :: l, left, d, d', h => by
    rw [gl] at h
    rw [List.cons_append, gl]
    by_cases h0 : (DWrite.written d ((first + i : Nat) : Int) (sealed st (left.take 108))).2 = 0
    · rw [if_pos h0] at h ⊢
      rw [gl_snoc first st x l _ _ d' h, List.drop_drop, List.length_cons, show 108 + 108 * l.length = 108 * (l.length + 1) by omega]
    · rw [if_neg h0] at h
      rw [h] at h0
      exact absurd rfl h0
theorem gl_stop (first st : Nat) (suf : List Nat) : ∀ (pre : List Nat) (left : List UInt8) (d : Pd), ¬ (gl first st pre left d).2 = 0 → gl first st (pre ++ suf) left d = gl first st pre left d
  | [], left, d, h => absurd rfl h
  | i :: l, left, d, h => by
    rw [List.cons_append, gl, gl]
    rw [gl] at h
    by_cases h0 : (DWrite.written d ((first + i : Nat) : Int) (sealed st (left.take 108))).2 = 0
    · rw [if_pos h0] at h ⊢
      rw [if_pos h0]
      exact gl_stop first st suf l _ _ h
    · rw [if_neg h0, if_neg h0]
theorem gl_waits (first st : Nat) : ∀ (l : List Nat) (left : List UInt8) (d : Pd), (gl first st l left d).1.waits.length ≤ d.waits.length + l.length
  | [], left, d => Nat.le_refl _
  | i :: l, left, d => by
    rw [gl]
    have h1 := written_waits d ((first + i : Nat) : Int) (sealed st (left.take 108))
    split
    · have := gl_waits first st l (left.drop 108) (DWrite.written d ((first + i : Nat) : Int) (sealed st (left.take 108))).1
      rw [List.length_cons]
      omega
    · rw [List.length_cons]
      omega

/-- What a list of sectors tells. -/
def al (last : List Sec) (first : Nat) : List Nat → Nat → List UInt8 → Option (Nat × List UInt8)
  | [], s, acc => some (s, acc)
  | i :: l, s, acc =>
    let o := opened (last[first + i]?.getD [])
    if o.2.2 = 0 ∧ (i = 0 ∨ o.1 = s) then al last first l o.1 (acc ++ o.2.1) else none
theorem al_aload (last : List Sec) (first : Nat) : ∀ (m a s : Nat) (acc : List UInt8), al last first (List.range' a m) s acc = aload last first m a s acc
  | 0, _, _, _ => rfl
  | m + 1, a, s, acc => by
    rw [List.range'_succ, al, aload]
    split
    · exact al_aload last first m (a + 1) _ _
    · rfl
theorem al_snoc (last : List Sec) (first x : Nat) : ∀ (pre : List Nat) (s0 : Nat) (acc0 : List UInt8) (s : Nat) (acc : List UInt8), al last first pre s0 acc0 = some (s, acc) →
    al last first (pre ++ [x]) s0 acc0 = if (opened (last[first + x]?.getD [])).2.2 = 0 ∧ (x = 0 ∨ (opened (last[first + x]?.getD [])).1 = s) then some ((opened (last[first + x]?.getD [])).1, acc ++ (opened (last[first + x]?.getD [])).2.1) else none
  | [], s0, acc0, s, acc, h => by
    rw [al] at h
    injection h with h
    injection h with h1 h2
    subst h1 h2
    rw [List.nil_append, al]
    simp only [al]
  | i :: l, s0, acc0, s, acc, h => by
    rw [al] at h
    rw [List.cons_append, al]
    split at h
    · rename_i hc
      rw [if_pos hc]
      exact al_snoc last first x l _ _ s acc h
    · cases h
theorem al_stop (last : List Sec) (first : Nat) (suf : List Nat) : ∀ (pre : List Nat) (s0 : Nat) (acc0 : List UInt8), al last first pre s0 acc0 = none → al last first (pre ++ suf) s0 acc0 = none
  | [], s0, acc0, h => by rw [al] at h; cases h
  | i :: l, s0, acc0, h => by
    rw [al] at h
    rw [List.cons_append, al]
    split at h
    · rename_i hc
      rw [if_pos hc]
      exact al_stop last first suf l _ _ h
    · rename_i hc
      rw [if_neg hc]
theorem al_len (last : List Sec) (first : Nat) : ∀ (l : List Nat) (s0 : Nat) (acc0 : List UInt8) (s : Nat) (acc : List UInt8), al last first l s0 acc0 = some (s, acc) → acc.length ≤ acc0.length + 108 * l.length
  | [], s0, acc0, s, acc, h => by
    rw [al] at h
    injection h with h
    injection h with h1 h2
    subst h1 h2
    omega
  | i :: l, s0, acc0, s, acc, h => by
    rw [al] at h
    split at h
    · have h1 := al_len last first l _ _ s acc h
      have h2 := JF.opened_len (last[first + i]?.getD [])
      rw [List.length_append] at h1
      rw [List.length_cons]
      omega
    · cases h

/-- The newest number in a list of sectors. -/
def nl (last : List Sec) (first : Nat) : List Nat → Nat → Nat
  | [], most => most
  | i :: l, most => nl last first l (max (max most (stampOf (last[first + i]?.getD []))) (againOf (last[first + i]?.getD [])))
theorem nl_anew (last : List Sec) (first : Nat) : ∀ (m a most : Nat), nl last first (List.range' a m) most = anew last first m a most
  | 0, _, _ => rfl
  | m + 1, a, most => by rw [List.range'_succ, nl, anew]; exact nl_anew last first m (a + 1) _
theorem nl_snoc (last : List Sec) (first x : Nat) : ∀ (pre : List Nat) (most : Nat), nl last first (pre ++ [x]) most = max (max (nl last first pre most) (stampOf (last[first + x]?.getD []))) (againOf (last[first + x]?.getD []))
  | [], most => rfl
  | i :: l, most => by rw [List.cons_append, nl, nl]; exact nl_snoc last first x l _
end Go.Proofs.Ytbnicphegbdfnaa.AW
namespace Go.Proofs.Ytbnicphegbdfnaa.AV
set_option maxRecDepth 100000
open Go Go.RowKit Go.Proofs.Ytbnicphegbdfnaa Go.Proofs.Ytbnicphegbdfnaa.Facts Go.Proofs.Ytbnicphegbdfnaa.Bytes Go.Proofs.Ytbnicphegbdfnaa.DKeep Go.Proofs.Ytbnicphegbdfnaa.DSmall Go.Proofs.Ytbnicphegbdfnaa.SPure Go.Proofs.Ytbnicphegbdfnaa.JD Go.Proofs.Ytbnicphegbdfnaa.JH Go.Proofs.Ytbnicphegbdfnaa.JQ Go.Proofs.Ytbnicphegbdfnaa.AP Go.Proofs.Ytbnicphegbdfnaa.AQ Go.Proofs.Ytbnicphegbdfnaa.AW

/-- All sectors have their size. -/
def Ev (L : List Sec) : Prop := ∀ (a : Nat) (s : Sec), L[a]? = some s → s.length = 128
theorem Ev.blank (n : Nat) : Ev (DNew.blank n) := fun a s h => by
  unfold DNew.blank at h
  rw [List.getElem?_replicate] at h
  split at h
  · injection h with h
    rw [← h]
    simp [DNew.zsec]
  · cases h
theorem ws_fst (first : Nat) (st : Nat → Nat) : ∀ (m a : Nat) (l : List UInt8), (ws first st m a l).map (·.1) = List.range' (first + a) m
  | 0, _, _ => rfl
  | m + 1, a, l => by rw [ws, List.map_cons, ws_fst first st m (a + 1), List.range'_succ, Nat.add_assoc]
theorem ws_wq (L : List Sec) (first : Nat) (st : Nat → Nat) (m : Nat) (r : List UInt8) (h : Ev L) (hf : first + m ≤ L.length) : Wq L (ws first st m 0 r) where
  ev := h
  nd := by rw [ws_fst]; exact List.nodup_range'
  fit := fun p hp => by
    obtain ⟨i, hi, h1, h2⟩ := (show ∃ i, i < m ∧ p.1 = first + i ∧ p.2 = sealed (st i) ((r.drop (108 * i)).take 108) from ws_mem (a := p.1) (s := p.2) hp)
    rw [h1, h2]
    exact ⟨by omega, sealed_length _ _ (by simp; omega)⟩
theorem sets_at (L : List Sec) (first : Nat) (st : Nat → Nat) (m : Nat) (r : List UInt8) (hf : first + m ≤ L.length) (i : Nat) (hi : i < m) : (sets L (ws first st m 0 r))[first + i]? = some (sealed (st i) ((r.drop (108 * i)).take 108)) := by
  have h := ws_at first st m 0 r i hi
  rw [Nat.zero_add] at h
  exact sets_in _ L i (first + i) _ (by rw [ws_fst]; exact List.nodup_range') h (by omega)
theorem sets_off (L : List Sec) (first : Nat) (st : Nat → Nat) (m : Nat) (r : List UInt8) (a : Nat) (ha : a < first ∨ first + m ≤ a) : (sets L (ws first st m 0 r))[a]? = L[a]? :=
  sets_out _ L a fun p hp e => by
    obtain ⟨i, hi, h1, _⟩ := (show ∃ i, i < m ∧ p.1 = first + i ∧ p.2 = sealed (st i) ((r.drop (108 * i)).take 108) from ws_mem (a := p.1) (s := p.2) hp)
    omega
theorem Ev.sets {L : List Sec} (h : Ev L) (first : Nat) (st : Nat → Nat) (m : Nat) (r : List UInt8) (hf : first + m ≤ L.length) : Ev (sets L (ws first st m 0 r)) := fun a s hs => by
  by_cases ha : a < first ∨ first + m ≤ a
  · rw [sets_off L first st m r a ha] at hs
    exact h a s hs
  · have h1 := sets_at L first st m r hf (a - first) (by omega)
    rw [show first + (a - first) = a by omega, hs] at h1
    injection h1 with h1
    rw [h1]
    exact sealed_length _ _ (by simp; omega)
/-- What an area of m sectors tells. -/
def ard (L : List Sec) (first m : Nat) : Nat × List UInt8 × Int := atell (aload L first m 0 0 [])
theorem ard_congr (L L' : List Sec) (first m : Nat) (h : ∀ i, i < m → L'[first + i]? = L[first + i]?) : ard L' first m = ard L first m := by
  unfold ard
  rw [aload_congr L L' first m 0 0 [] fun i hi => by rw [Nat.zero_add]; exact h i hi]
theorem ard_put (L : List Sec) (first s m : Nat) (b : List UInt8) (hs : may s = true) (hm : 1 ≤ m) (hb : b.length + 4 ≤ 108 * m) (hb2 : b.length < 4294967296) (h : ∀ i, i < m → L[first + i]? = some (sealed s (((recB b).drop (108 * i)).take 108))) : ard L first m = (s, b, 0) :=
  atell_put L first s m b hs hm hb hb2 h
/-- The newest number in m sectors. -/
def anw (L : List Sec) (first m : Nat) : Nat := anew L first m 0 0
theorem anw_congr (L L' : List Sec) (first m : Nat) (h : ∀ i, i < m → L'[first + i]? = L[first + i]?) : anw L' first m = anw L first m := by
  unfold anw
  exact anew_congr L L' first m 0 0 fun i hi => by rw [Nat.zero_add]; exact h i hi
theorem anw_ge (L : List Sec) (first m i : Nat) (hi : i < m) : stampOf (L[first + i]?.getD []) ≤ anw L first m ∧ againOf (L[first + i]?.getD []) ≤ anw L first m := by
  have := (anew_ge L first m 0 0).2 i hi
  rwa [Nat.zero_add] at this
theorem anw_le (L : List Sec) (first m n : Nat) (h : ∀ i, i < m → stampOf (L[first + i]?.getD []) ≤ n ∧ againOf (L[first + i]?.getD []) ≤ n) : anw L first m ≤ n :=
  anew_le L first n m 0 0 (Nat.zero_le _) fun i hi => by rw [Nat.zero_add]; exact h i hi
theorem anw_is (L : List Sec) (first m n : Nat) (h : ∀ i, i < m → stampOf (L[first + i]?.getD []) ≤ n ∧ againOf (L[first + i]?.getD []) ≤ n) (h2 : ∃ i, i < m ∧ stampOf (L[first + i]?.getD []) = n) : anw L first m = n := by
  have h1 := anw_le L first m n h
  obtain ⟨i, hi, he⟩ := h2
  have := (anw_ge L first m i hi).1
  omega
theorem stamp_sealed (s : Nat) (r : List UInt8) (i : Nat) (hs : may s = true) : stampOf (sealed s ((r.drop (108 * i)).take 108)) = s ∧ againOf (sealed s ((r.drop (108 * i)).take 108)) = s :=
  ⟨sealed_stamp s _ hs, sealed_again s _ (by simp; omega) hs⟩
theorem ard_ok {L : List Sec} {first m s : Nat} {b : List UInt8} (hm : 1 ≤ m) (h : ard L first m = (s, b, 0)) : may s = true ∧ ∀ i, i < m → stampOf (L[first + i]?.getD []) = s := by
  unfold ard atell at h
  cases hq : aload L first m 0 0 [] with
  | none => rw [hq] at h; cases h
  | some p =>
    obtain ⟨s', l⟩ := p
    rw [hq] at h
    have h : (if (JC.toldS l).2 = true then (s', (JC.toldS l).1, (0 : Int)) else (0, [], 2)) = (s, b, 0) := h
    split at h
    · injection h with h1 _
      subst h1
      have hs := (aload_some L first m 0 0 [] s' l hq).1
      have each : ∀ i, i < m → may s' = true ∧ stampOf (L[first + i]?.getD []) = s' := fun i hi => by
        have h := hs i hi
        rw [Nat.zero_add] at h
        have h2 := opened_ok h.1
        rw [← h2.1, h.2] at h2
        exact ⟨h2.2.2, by rw [← h.2]; exact (opened_ok h.1).1.symm⟩
      exact ⟨(each 0 (by omega)).1, fun i hi => (each i hi).2⟩
    · cases h
theorem ard_err (L : List Sec) (first m : Nat) : (ard L first m).2.2 = 0 ∨ ard L first m = (0, [], 2) := by
  unfold ard atell
  cases aload L first m 0 0 [] with
  | none => exact .inr rfl
  | some p =>
    obtain ⟨s, l⟩ := p
    by_cases h : (JC.toldS l).2 = true
    · exact .inl (by simp only [if_pos h])
    · exact .inr (by simp only [if_neg h])

/-- What may come of an area that was written with a stamp one above the newest number. -/
structure Came (L L' : List Sec) (first m s : Nat) (b : List UInt8) : Prop where
  len : L'.length = L.length
  ev : Ev L'
  out : ∀ a, (a < first ∨ first + m ≤ a) → L'[a]? = L[a]?
  is : L' = L ∨ ((∃ i, i < m ∧ stampOf (L'[first + i]?.getD []) = s) ∧ (∀ i, i < m → stampOf (L'[first + i]?.getD []) ≤ s ∧ againOf (L'[first + i]?.getD []) ≤ s) ∧ (ard L' first m = (0, [], 2) ∨ ard L' first m = (s, b, 0)))
theorem came_lost (L : List Sec) (first m s : Nat) (b : List UInt8) (hs : may s = true) (hev : Ev L) (hf : first + m ≤ L.length) (hm : 1 ≤ m) (hb : b.length + 4 ≤ 108 * m) (hb2 : b.length < 4294967296)
    (hlow : ∀ i, i < m → stampOf (L[first + i]?.getD []) < s ∧ againOf (L[first + i]?.getD []) < s) (k : Nat) (f : Int) (o : Bool) (keep : List UInt8) :
    ∃ L', DFlush.crashed ⟨L, sets L ((ws first (fun _ => s) m 0 (recB b)).take k), (ws first (fun _ => s) m 0 (recB b)).take k, f, o⟩ keep = calm L' ∧ Came L L' first m s b := by
  have hw := ws_wq L first (fun _ => s) m (recB b) hev hf
  have hw2 : Wq L ((ws first (fun _ => s) m 0 (recB b)).take k) := ⟨hw.ev, by
    rw [List.map_take]
    exact hw.nd.sublist (List.take_sublist _ _), fun p hp => hw.fit p (List.mem_of_mem_take hp)⟩
  obtain ⟨L', hc, hcut⟩ := crashed_cut L _ hw2 f o keep
  have hl := left_of L L' first m s (recB b) hs hev hf hlow _ (fun p hp => List.mem_of_mem_take hp) hcut
  refine ⟨L', hc, hl.len, hl.ev, hl.out, ?_⟩
  rcases hl.is with h | ⟨h1, h2, h3⟩
  · exact .inl h
  · refine .inr ⟨h1, h2, ?_⟩
    rcases h3 with h3 | h3
    · left
      unfold ard
      rw [h3]
      rfl
    · exact .inr (ard_put L' first s m b hs hm hb hb2 h3)
theorem came_put (L : List Sec) (first m s : Nat) (b : List UInt8) (hs : may s = true) (hev : Ev L) (hf : first + m ≤ L.length) (hm : 1 ≤ m) (hb : b.length + 4 ≤ 108 * m) (hb2 : b.length < 4294967296) :
    Came L (sets L (ws first (fun _ => s) m 0 (recB b))) first m s b ∧ ard (sets L (ws first (fun _ => s) m 0 (recB b))) first m = (s, b, 0) ∧ (∀ i, i < m → stampOf ((sets L (ws first (fun _ => s) m 0 (recB b)))[first + i]?.getD []) = s ∧ againOf ((sets L (ws first (fun _ => s) m 0 (recB b)))[first + i]?.getD []) = s) := by
  have hat := sets_at L first (fun _ => s) m (recB b) hf
  have hst : ∀ i, i < m → stampOf ((sets L (ws first (fun _ => s) m 0 (recB b)))[first + i]?.getD []) = s ∧ againOf ((sets L (ws first (fun _ => s) m 0 (recB b)))[first + i]?.getD []) = s := fun i hi => by
    rw [hat i hi, Option.getD_some]
    exact stamp_sealed s (recB b) i hs
  have hr := ard_put _ first s m b hs hm hb hb2 hat
  exact ⟨⟨sets_length _ _, hev.sets _ _ _ _ hf, fun a ha => sets_off L first _ m _ a ha, .inr ⟨⟨0, by omega, (hst 0 (by omega)).1⟩, fun i hi => by rw [(hst i hi).1, (hst i hi).2]; exact ⟨Nat.le_refl _, Nat.le_refl _⟩, .inr hr⟩⟩, hr, hst⟩
/-- What an area is behind a write. -/
theorem gw_none (first m s : Nat) (L : List Sec) (r : List UInt8) (hf : first + m ≤ L.length) : gw first (fun _ => s) m 0 r (calm L) = (⟨L, sets L (ws first (fun _ => s) m 0 r), ws first (fun _ => s) m 0 r, -1, false⟩, 0) := by
  rcases gw_any first (fun _ => s) L m 0 r L [] (-1) (by omega) (by omega) with ⟨_, h⟩ | ⟨h, _⟩
  · exact h
  · omega
end Go.Proofs.Ytbnicphegbdfnaa.AV
