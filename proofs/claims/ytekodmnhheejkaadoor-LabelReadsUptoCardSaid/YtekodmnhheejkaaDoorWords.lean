/-
  A text cut at its commas, word by word, and what comes of the words: the document's own way of reading a label's text.
  Conditions: a text's size.
-/
import Derived.Test.YtekodmnhheejkaaDoorRefs6
namespace Go.Proofs.YtekodmnhheejkaaDoor.Words
open Go Go.RowKit Go.Proofs.YtekodmnhheejkaaDoor Go.Proofs.YtekodmnhheejkaaDoor.Facts Go.Proofs.YtekodmnhheejkaaDoor.Plain Go.Proofs.YtekodmnhheejkaaDoor.Parse Go.Proofs.YtekodmnhheejkaaDoor.Text Go.Proofs.YtekodmnhheejkaaDoor.TextPure Go.Proofs.YtekodmnhheejkaaDoor.BackLaw Go.Proofs.YtekodmnhheejkaaDoor.Refs4

def wst (s : List (List UInt8) × List UInt8) (b : UInt8) : List (List UInt8) × List UInt8 := if b = 44 then (s.1 ++ [s.2], []) else (s.1, s.2 ++ [b])
def wfold (l : List UInt8) : List (List UInt8) × List UInt8 := l.foldl wst ([], [])
/-- The words. -/
def words (l : List UInt8) : List (List UInt8) := (wfold l).1 ++ [(wfold l).2]

theorem wfold_add : ∀ (l : List UInt8) (d : List (List UInt8)) (c : List UInt8), l.foldl wst (d, c) = (d ++ (l.foldl wst ([], c)).1, (l.foldl wst ([], c)).2)
  | [], d, c => by simp
  | b :: l, d, c => by
    simp only [List.foldl_cons]
    by_cases h : b = 44
    · have e1 : wst (d, c) b = (d ++ [c], []) := by unfold wst; rw [if_pos h]
      have e2 : wst ([], c) b = ([c], []) := by unfold wst; rw [if_pos h]; rfl
      rw [e1, e2, wfold_add l (d ++ [c]) [], wfold_add l [c] []]
      simp
    · have e1 : wst (d, c) b = (d, c ++ [b]) := by unfold wst; rw [if_neg h]
      have e2 : wst ([], c) b = ([], c ++ [b]) := by unfold wst; rw [if_neg h]
      rw [e1, e2]
      exact wfold_add l d (c ++ [b])
theorem wfold_plain : ∀ (p : List UInt8) (d : List (List UInt8)) (c : List UInt8), 44 ∉ p → p.foldl wst (d, c) = (d, c ++ p)
  | [], d, c, _ => by simp
  | b :: p, d, c, h => by
    simp only [List.mem_cons, not_or] at h
    have e1 : wst (d, c) b = (d, c ++ [b]) := by unfold wst; rw [if_neg (fun e => h.1 e.symm)]
    rw [List.foldl_cons, e1, wfold_plain p d (c ++ [b]) h.2]
    simp
theorem words_no (l : List UInt8) (h : 44 ∉ l) : words l = [l] := by
  unfold words wfold
  rw [wfold_plain l [] [] h]
  rfl
theorem words_at (p r : List UInt8) (hp : 44 ∉ p) : words (p ++ 44 :: r) = p :: words r := by
  have e1 : wst ([], p) 44 = ([p], []) := by unfold wst; rw [if_pos rfl]; rfl
  unfold words wfold
  rw [List.foldl_append, wfold_plain p [] [] hp, List.nil_append, List.foldl_cons, e1, wfold_add r [p] []]
  simp
theorem cutL_clean : ∀ l : List UInt8, 44 ∉ (cutL l).1
  | [] => by simp [cutL]
  | b :: l => by
    unfold cutL
    by_cases h : b = 44
    · rw [if_pos h]; simp
    · rw [if_neg h]
      simp only [List.mem_cons, not_or]
      exact ⟨fun e => h e.symm, cutL_clean l⟩
theorem words_cut (l : List UInt8) : words l = (cutL l).1 :: bif (cutL l).2.2 then words (cutL l).2.1 else [] := by
  have hj := cutL_join l
  have hc := cutL_clean l
  cases hb : (cutL l).2.2 with
  | true =>
    rw [hb] at hj
    conv => lhs; rw [hj]
    exact words_at _ _ hc
  | false =>
    rw [hb] at hj
    simp only [cond_false, List.append_nil] at hj
    rw [← hj] at hc
    rw [words_no l hc]
    simp only [cond_false]
    rw [← hj]
theorem wfold_step (l : List UInt8) (k : Nat) (hk : k < l.length) : wfold (l.take (k + 1)) = wst (wfold (l.take k)) (l[k]'hk) := by
  unfold wfold
  rw [List.take_add_one, List.getElem?_eq_getElem hk, Option.toList_some, List.foldl_append]
  rfl
theorem words_len (l : List UInt8) : (wfold l).1.length ≤ l.length := by
  have h : ∀ (l : List UInt8) (d : List (List UInt8)) (c : List UInt8), (l.foldl wst (d, c)).1.length ≤ d.length + l.length := fun l => by
    induction l with
    | nil => intro d c; simp
    | cons b l ih =>
      intro d c
      rw [List.foldl_cons]
      by_cases e : b = 44
      · have e1 : wst (d, c) b = (d ++ [c], []) := by unfold wst; rw [if_pos e]
        have := ih (d ++ [c]) []
        rw [e1]
        simp at this ⊢
        omega
      · have e1 : wst (d, c) b = (d, c ++ [b]) := by unfold wst; rw [if_neg e]
        have := ih d (c ++ [b])
        rw [e1]
        simp at this ⊢
        omega
  have := h l [] []
  simpa [wfold] using this

/-- The compartments that words tell. -/
def goW : List (List UInt8) → Int → BitVec 64 → Option (BitVec 64)
  | [], _, c => some c
  | x :: ws, last, c => match numOf x 64 with
    | none => none
    | some b => if (b : Int) ≤ last then none else goW ws b (c ||| BitVec.twoPow 64 b)
theorem go_words : ∀ (f : Nat) (s : ByteArray) (m : Bool) (last : Int) (c : BitVec 64), 1 ≤ f → (m = true → s.size + 2 ≤ f) → go f s m last c = goW (bif m then words s.data.toList else []) last c
  | 0, _, _, _, _, h, _ => absurd h (by omega)
  | f + 1, s, false, last, c, _, _ => rfl
  | f + 1, s, true, last, c, _, hs => by
    obtain ⟨c1, c2, c3⟩ := cut_lists s
    have hz := cut1_size s
    have hs' := hs rfl
    simp only [cond_true]
    rw [words_cut, ← c1, ← c2, ← c3]
    simp only [go, goW]
    cases hn : numOf (cut1 s).1.data.toList 64 with
    | none => rfl
    | some b =>
      simp only []
      by_cases hl : (b : Int) ≤ last
      · rw [if_pos hl, if_pos hl]
      · rw [if_neg hl, if_neg hl]
        exact go_words f _ _ _ _ (by omega) (fun hm => by have := hz.2.2 hm; omega)
theorem parse_words (s : ByteArray) : ∃ w0 ws, words s.data.toList = w0 :: ws ∧ parse s = match numOf w0 4 with
    | none => none
    | some v => (goW ws (-1) 0#64).map fun c => (v, c) := by
  obtain ⟨c1, c2, c3⟩ := cut_lists s
  have hz := cut1_size s
  refine ⟨_, _, words_cut _, ?_⟩
  unfold parse
  rw [c1]
  cases numOf (cutL s.data.toList).1 4 with
  | none => rfl
  | some v =>
    simp only []
    rw [go_words _ _ _ _ _ (by omega) (fun _ => by have := hz.2.1; omega), c2, c3]
theorem nw_lt (l : List UInt8) : -1 ≤ nw l ∧ nw l ≤ 63 := by
  unfold nw
  cases h : numOf l 64 with
  | none => simp
  | some k =>
    have := (num_inv h).1
    simp only
    omega
theorem nw_four (l : List UInt8) : (may (nw l) = true → numOf l 4 = some (nw l).toNat) ∧ (may (nw l) = false → numOf l 4 = none) := by
  constructor
  · intro h
    have hb : 0 ≤ nw l ∧ nw l < 4 := by unfold may at h; simpa using h
    unfold nw at hb ⊢
    cases hn : numOf l 64 with
    | none => rw [hn] at hb; simp at hb
    | some k =>
      rw [hn] at hb
      simp only at hb ⊢
      have := (num_inv hn).2
      rw [this]
      exact num4_fin ⟨k, by omega⟩
  · intro h
    cases hn : numOf l 4 with
    | none => rfl
    | some k =>
      obtain ⟨h1, h2⟩ := num_inv hn
      have h64 : numOf l 64 = some k := by rw [h2]; exact num64_fin ⟨k, by omega⟩
      rw [nw_some h64] at h
      unfold may at h
      simp at h
      omega
/-- What the words make of it. -/
theorem pa_words {s : ByteArray} {w0 : List UInt8} {ws : List (List UInt8)} (h : words s.data.toList = w0 :: ws) :
    (∀ c, may (nw w0) = true → goW ws (-1) 0#64 = some c → paV s = nw w0 ∧ paC s = c ∧ paE s = 0) ∧ (may (nw w0) = false → paV s = 0 ∧ paC s = 0#64 ∧ paE s = 2) ∧ (goW ws (-1) 0#64 = none → paV s = 0 ∧ paC s = 0#64 ∧ paE s = 2) := by
  obtain ⟨w1, ws1, e, hp⟩ := parse_words s
  rw [h] at e
  injection e with e1 e2
  subst e1 e2
  obtain ⟨n1, n2⟩ := nw_four w0
  refine ⟨fun c hm hg => ?_, fun hm => ?_, fun hg => ?_⟩
  · have hb : 0 ≤ nw w0 := by unfold may at hm; simp at hm; omega
    rw [n1 hm, hg] at hp
    unfold paV paC paE
    rw [hp]
    exact ⟨Int.toNat_of_nonneg hb, rfl, rfl⟩
  · rw [n2 hm] at hp
    unfold paV paC paE
    rw [hp]
    exact ⟨rfl, rfl, rfl⟩
  · have hn : parse s = none := by
      rw [hp]
      cases numOf w0 4 with
      | none => rfl
      | some v => simp only; rw [hg]; rfl
    unfold paV paC paE
    rw [hn]
    exact ⟨rfl, rfl, rfl⟩
theorem goW_bad {x : List UInt8} {ws : List (List UInt8)} {last : Int} {c : BitVec 64} (h : nw x ≤ last) : goW (x :: ws) last c = none := by
  unfold goW
  cases hn : numOf x 64 with
  | none => rfl
  | some b =>
    rw [nw_some hn] at h
    simp only
    rw [if_pos h]
theorem goW_good {x : List UInt8} {ws : List (List UInt8)} {last : Int} {c : BitVec 64} (h : last < nw x) (hl : -1 ≤ last) : ∃ b : Nat, b < 64 ∧ nw x = b ∧ goW (x :: ws) last c = goW ws b (c ||| BitVec.twoPow 64 b) := by
  cases hn : numOf x 64 with
  | none => rw [nw_none hn] at h; omega
  | some b =>
    rw [nw_some hn] at h
    refine ⟨b, (num_inv hn).1, nw_some hn, ?_⟩
    conv => lhs; unfold goW
    rw [hn]
    simp only
    rw [if_neg (by omega)]
end Go.Proofs.YtekodmnhheejkaaDoor.Words
