/-
  Two areas side by side, of which one counts, as lists of bytes.
  Conditions: those that each lemma names.
-/
import Derived.Test.YtbnicphegbdfnaaAP
namespace Go.Proofs.Ytbnicphegbdfnaa.SP
set_option maxRecDepth 100000
open Go Go.RowKit Go.Proofs.Ytbnicphegbdfnaa Go.Proofs.Ytbnicphegbdfnaa.Facts Go.Proofs.Ytbnicphegbdfnaa.Bytes Go.Proofs.Ytbnicphegbdfnaa.DKeep Go.Proofs.Ytbnicphegbdfnaa.DSmall Go.Proofs.Ytbnicphegbdfnaa.SPure Go.Proofs.Ytbnicphegbdfnaa.JD Go.Proofs.Ytbnicphegbdfnaa.JH Go.Proofs.Ytbnicphegbdfnaa.JQ Go.Proofs.Ytbnicphegbdfnaa.AP Go.Proofs.Ytbnicphegbdfnaa.AQ Go.Proofs.Ytbnicphegbdfnaa.AW Go.Proofs.Ytbnicphegbdfnaa.AV

/-- Which of two areas counts, with its stamp and its bytes. -/
def pick1 (r : Nat × List UInt8 × Int) : Option (Nat × Nat × List UInt8) := if r.2.2 = 0 ∧ 0 < r.1 then some (0, r.1, r.2.1) else none
def pick2 (a : Option (Nat × Nat × List UInt8)) (r : Nat × List UInt8 × Int) : Option (Nat × Nat × List UInt8) := if r.2.2 = 0 ∧ (match a with | none => 0 | some x => x.2.1) < r.1 then some (1, r.1, r.2.1) else a
def pick (L : List Sec) (f m : Nat) : Option (Nat × Nat × List UInt8) := pick2 (pick1 (ard L f m)) (ard L (f + m) m)
/-- Area c counts, with the stamp s and the bytes b; no number is above n. -/
structure SK (L : List Sec) (f m n c s : Nat) (b : List UInt8) : Prop where
  ev : Ev L
  len : f + 2 * m ≤ L.length
  one : 1 ≤ m
  c2 : c < 2
  top : ∀ i, i < 2 * m → stampOf (L[f + i]?.getD []) ≤ n ∧ againOf (L[f + i]?.getD []) ≤ n
  is : ard L (f + c * m) m = (s, b, 0)
  other : ard L (f + (1 - c) * m) m = (0, [], 2) ∨ ∃ s' b', ard L (f + (1 - c) * m) m = (s', b', 0) ∧ s' < s
theorem pick1_ok (s : Nat) (b : List UInt8) (h : 0 < s) : pick1 (s, b, 0) = some (0, s, b) := if_pos ⟨rfl, h⟩
theorem pick1_bad : pick1 (0, [], 2) = none := if_neg fun h => absurd h.1 (by decide)
theorem pick2_bad (a : Option (Nat × Nat × List UInt8)) : pick2 a (0, [], 2) = a := if_neg fun h => absurd h.1 (by decide)
theorem pick2_none (s : Nat) (b : List UInt8) (h : 0 < s) : pick2 none (s, b, 0) = some (1, s, b) := if_pos ⟨rfl, h⟩
theorem pick2_gt (c s' s : Nat) (b' b : List UInt8) (h : s' < s) : pick2 (some (c, s', b')) (s, b, 0) = some (1, s, b) := if_pos ⟨rfl, h⟩
theorem pick2_le (c s' s : Nat) (b' b : List UInt8) (h : s ≤ s') : pick2 (some (c, s', b')) (s, b, 0) = some (c, s', b') := if_neg fun hh => by have h2 : s' < s := hh.2; omega
theorem SK.pick {L : List Sec} {f m n c s : Nat} {b : List UInt8} (h : SK L f m n c s b) : pick L f m = some (c, s, b) := by
  have hs := (may_iff s).1 (ard_ok h.one h.is).1
  have hi := h.is
  have ho := h.other
  unfold SP.pick
  rcases (show c = 0 ∨ c = 1 by have := h.c2; omega) with rfl | rfl
  · simp only [Nat.zero_mul, Nat.add_zero, Nat.sub_zero, Nat.one_mul] at hi ho
    rw [hi, pick1_ok s b (by omega)]
    rcases ho with ho | ⟨s', b', ho, hlt⟩
    · rw [ho, pick2_bad]
    · rw [ho, pick2_le _ _ _ _ _ (by omega)]
  · simp only [Nat.one_mul, Nat.sub_self, Nat.zero_mul, Nat.add_zero] at hi ho
    rw [hi]
    rcases ho with ho | ⟨s', b', ho, hlt⟩
    · rw [ho, pick1_bad, pick2_none s b (by omega)]
    · rw [ho]
      by_cases h0 : 0 < s'
      · rw [pick1_ok s' b' h0, pick2_gt _ _ _ _ _ hlt]
      · rw [show pick1 (s', b', 0) = none from if_neg fun hh => h0 hh.2, pick2_none s b (by omega)]
theorem SK.up {L : List Sec} {f m n n' c s : Nat} {b : List UInt8} (h : SK L f m n c s b) (hn : n ≤ n') : SK L f m n' c s b :=
  ⟨h.ev, h.len, h.one, h.c2, fun i hi => by have := h.top i hi; omega, h.is, h.other⟩
theorem SK.newest {L : List Sec} {f m n c s : Nat} {b : List UInt8} (h : SK L f m n c s b) : SK L f m (anw L f (2 * m)) c s b :=
  ⟨h.ev, h.len, h.one, h.c2, fun i hi => anw_ge L f (2 * m) i hi, h.is, h.other⟩
theorem SK.newest_le {L : List Sec} {f m n c s : Nat} {b : List UInt8} (h : SK L f m n c s b) : anw L f (2 * m) ≤ n := anw_le L f (2 * m) n h.top
/-- An index of area c is one of both areas. -/
theorem ix {f m c i : Nat} (hc : c < 2) (hi : i < m) : ∃ k, k < 2 * m ∧ f + c * m + i = f + k := by
  rcases (show c = 0 ∨ c = 1 by omega) with rfl | rfl
  · exact ⟨i, by omega, by omega⟩
  · exact ⟨m + i, by omega, by omega⟩
theorem SK.stamp_le {L : List Sec} {f m n c s : Nat} {b : List UInt8} (h : SK L f m n c s b) : s ≤ n := by
  obtain ⟨k, hk, he⟩ := ix (f := f) h.c2 (show 0 < m from h.one)
  have h1 := (ard_ok h.one h.is).2 0 h.one
  rw [he] at h1
  have := (h.top k hk).1
  omega
/-- The spare area was written with one number more, whole or in part. -/
theorem SK.came {L L' : List Sec} {f m n c s : Nat} {b0 b : List UInt8} (h : SK L f m n c s b0) (hc : Came L L' (f + (1 - c) * m) m (n + 1) b) : SK L' f m (n + 1) c s b0 ∨ SK L' f m (n + 1) (1 - c) (n + 1) b := by
  have hsn := h.stamp_le
  have hc2 := h.c2
  have hlen := h.len
  have hout : ∀ i, i < m → L'[f + c * m + i]? = L[f + c * m + i]? := fun i hi => hc.out _ (by
    rcases (show c = 0 ∨ c = 1 by omega) with rfl | rfl
    · left; simp; omega
    · right; simp)
  have hr := ard_congr L L' (f + c * m) m hout
  have htop : ((∃ i, i < m ∧ stampOf (L'[f + (1 - c) * m + i]?.getD []) = n + 1) ∧ (∀ i, i < m → stampOf (L'[f + (1 - c) * m + i]?.getD []) ≤ n + 1 ∧ againOf (L'[f + (1 - c) * m + i]?.getD []) ≤ n + 1)) → ∀ i, i < 2 * m → stampOf (L'[f + i]?.getD []) ≤ n + 1 ∧ againOf (L'[f + i]?.getD []) ≤ n + 1 := fun hh i hi => by
    by_cases hin : f + (1 - c) * m ≤ f + i ∧ f + i < f + (1 - c) * m + m
    · have := hh.2 (i - (1 - c) * m) (by omega)
      rwa [show f + (1 - c) * m + (i - (1 - c) * m) = f + i by omega] at this
    · rw [hc.out (f + i) (by omega)]
      have := h.top i hi
      omega
  rcases hc.is with rfl | ⟨h1, h2, h3⟩
  · exact .inl (h.up (by omega))
  · have ht := htop ⟨h1, h2⟩
    rcases h3 with h3 | h3
    · exact .inl ⟨hc.ev, by rw [hc.len]; exact hlen, h.one, hc2, ht, by rw [hr]; exact h.is, .inl h3⟩
    · refine .inr ⟨hc.ev, by rw [hc.len]; exact hlen, h.one, by omega, ht, h3, .inr ⟨s, b0, ?_, by omega⟩⟩
      rw [show 1 - (1 - c) = c by omega, hr]
      exact h.is
theorem SK.put {L : List Sec} {f m n c s : Nat} {b0 b : List UInt8} (h : SK L f m n c s b0) (hs : may (n + 1) = true) (hb : b.length + 4 ≤ 108 * m) (hb2 : b.length < 4294967296) :
    SK (sets L (ws (f + (1 - c) * m) (fun _ => n + 1) m 0 (recB b))) f m (n + 1) (1 - c) (n + 1) b := by
  have hf : f + (1 - c) * m + m ≤ L.length := by
    have := h.len
    have := h.c2
    rcases (show c = 0 ∨ c = 1 by omega) with rfl | rfl
    · simp; omega
    · simp; omega
  obtain ⟨h1, h2, h3⟩ := came_put L (f + (1 - c) * m) m (n + 1) b hs h.ev hf h.one hb hb2
  rcases h.came h1 with hh | hh
  · exfalso
    have ho := hh.other
    rw [h2] at ho
    have hsn := h.stamp_le
    rcases ho with ho | ⟨s', b', ho, hlt⟩
    · injection ho with _ ho
      injection ho with _ ho
      cases ho
    · injection ho with ho _
      omega
  · exact hh
/-- The next snapshot is made. -/
def nextP (L : List Sec) (f m c n : Nat) (b : List UInt8) (fu : Int) : Pd × Int :=
  let r := gw (f + (1 - c) * m) (fun _ => n + 1) m 0 (recB b) (calmF L fu)
  if r.2 = 0 then DFlush.flushed r.1 else r
theorem settled_nil (L : List Sec) (l : List (Nat × Sec)) (hl : Ev L) (hs : ∀ p ∈ l, p.1 < L.length) : ∀ i, DSettle.settled (fun _ => 0) L l i = L
  | 0 => rfl
  | i + 1 => by
    unfold DSettle.settled
    cases hq : l[i]? with
    | none => exact settled_nil L l hl hs i
    | some p =>
      show (DSettle.settled (fun _ => 0) L l i).set p.1 _ = L
      rw [settled_nil L l hl hs i]
      have hp := hs p (List.mem_of_getElem? hq)
      have e : DOver.cutw (L[p.1]?.getD []) p.2 0 = L[p.1] := by
        rw [List.getElem?_eq_getElem hp]
        unfold DOver.cutw
        simp
      rw [e, List.set_getElem_self]
theorem kept_nil : DFlush.kept [] = fun _ => 0 := by
  funext i
  unfold DFlush.kept
  simp
theorem next_any (L : List Sec) (f m n c s : Nat) (b0 b : List UInt8) (fu : Int) (h : SK L f m n c s b0) (hs : may (n + 1) = true) (hb : b.length + 4 ≤ 108 * m) (hb2 : b.length < 4294967296) (hfu : -1 ≤ fu) :
    ((fu = -1 ∨ (m : Int) + 1 ≤ fu) ∧ ∃ L', nextP L f m c n b fu = (calmF L' (if fu = -1 then -1 else fu - (m : Int) - 1), 0) ∧ SK L' f m (n + 1) (1 - c) (n + 1) b ∧ (∀ a, (a < f ∨ f + 2 * m ≤ a) → L'[a]? = L[a]?) ∧ L'.length = L.length) ∨
    (0 ≤ fu ∧ fu < (m : Int) + 1 ∧ ∃ d', nextP L f m c n b fu = (d', 15) ∧ d'.off = true ∧ d'.waits.length ≤ m ∧ d'.safe.length = L.length ∧ DFlush.crashed d' [] = calm L ∧ ∀ keep, ∃ L', DFlush.crashed d' keep = calm L' ∧ (SK L' f m (n + 1) c s b0 ∨ SK L' f m (n + 1) (1 - c) (n + 1) b) ∧ (∀ a, (a < f ∨ f + 2 * m ≤ a) → L'[a]? = L[a]?) ∧ L'.length = L.length) := by
  have hc2 := h.c2
  have hlen := h.len
  obtain ⟨g, hg⟩ : ∃ g, f + (1 - c) * m = g := ⟨_, rfl⟩
  have hgf : f ≤ g ∧ g + m ≤ f + 2 * m := by
    rw [← hg]
    rcases (show c = 0 ∨ c = 1 by omega) with rfl | rfl
    · simp; omega
    · simp; omega
  have hw := ws_wq L g (fun _ => n + 1) m (recB b) h.ev (by omega)
  have hlow : ∀ i, i < m → stampOf (L[g + i]?.getD []) < n + 1 ∧ againOf (L[g + i]?.getD []) < n + 1 := fun i hi => by
    have := h.top (g + i - f) (by omega)
    rw [show f + (g + i - f) = g + i by omega] at this
    omega
  have lost : ∀ (k : Nat) (ff : Int) (o : Bool), DFlush.crashed ⟨L, sets L ((ws g (fun _ => n + 1) m 0 (recB b)).take k), (ws g (fun _ => n + 1) m 0 (recB b)).take k, ff, o⟩ [] = calm L ∧
      ∀ keep, ∃ L', DFlush.crashed ⟨L, sets L ((ws g (fun _ => n + 1) m 0 (recB b)).take k), (ws g (fun _ => n + 1) m 0 (recB b)).take k, ff, o⟩ keep = calm L' ∧ (SK L' f m (n + 1) c s b0 ∨ SK L' f m (n + 1) (1 - c) (n + 1) b) ∧ (∀ a, (a < f ∨ f + 2 * m ≤ a) → L'[a]? = L[a]?) ∧ L'.length = L.length := fun k ff o => by
    constructor
    · unfold DFlush.crashed DFlush.ended calm
      rw [kept_nil, relast_all, settled_nil L _ h.ev fun p hp => (hw.fit p (List.mem_of_mem_take hp)).1]
    · intro keep
      obtain ⟨L', hcr, hcm⟩ := came_lost L g m (n + 1) b hs h.ev (by omega) h.one hb hb2 hlow k ff o keep
      refine ⟨L', hcr, h.came (by rw [hg]; exact hcm), fun a ha => hcm.out a (by omega), hcm.len⟩
  have hput := h.put (b := b) hs hb hb2
  unfold nextP
  rw [hg] at hput ⊢
  unfold calmF
  rcases gw_any g (fun _ => n + 1) L m 0 (recB b) L [] fu hfu (by omega) with ⟨h1, h2⟩ | ⟨h1, h2, k, h3, h4⟩
  · simp only [h2]
    rw [if_pos trivial, List.nil_append]
    by_cases h0 : fu = (m : Int)
    · right
      have e : (if fu = -1 then (-1 : Int) else fu - (m : Int)) = 0 := by rw [if_neg (by omega)]; omega
      rw [e, flushed_dead]
      have ht : (ws g (fun _ => n + 1) m 0 (recB b)).take m = ws g (fun _ => n + 1) m 0 (recB b) := List.take_of_length_le (by rw [ws_length]; omega)
      have hl := lost m 0 true
      rw [ht] at hl
      exact ⟨by omega, by omega, _, rfl, rfl, by show (ws g (fun _ => n + 1) m 0 (recB b)).length ≤ m; rw [ws_length]; omega, rfl, hl.1, hl.2⟩
    · left
      rw [flushed_sets L _ hw _ (by split <;> omega)]
      refine ⟨by omega, _, ?_, hput, fun a ha => sets_off L g _ m _ a (by omega), sets_length _ _⟩
      unfold calmF
      congr 2
      by_cases h5 : fu = -1
      · simp [h5]
      · simp only [if_neg h5]
        rw [if_neg (by omega)]
  · right
    simp only [h4]
    rw [if_neg (show ¬ (15 : Int) = 0 by decide), List.nil_append]
    have hl := lost k 0 true
    exact ⟨h1, by omega, _, rfl, rfl, by show ((ws g (fun _ => n + 1) m 0 (recB b)).take k).length ≤ m; rw [List.length_take, ws_length]; omega, rfl, hl.1, hl.2⟩
end Go.Proofs.Ytbnicphegbdfnaa.SP
