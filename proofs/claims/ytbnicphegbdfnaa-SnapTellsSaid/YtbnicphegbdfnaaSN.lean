/-
  Two areas side by side, of which one counts, as lists of bytes.
  Conditions: those that each lemma names.
-/
import Derived.Test.YtbnicphegbdfnaaAP
import Derived.Test.YtbnicphegbdfnaaDS
import Derived.Deep.DeepCutAuto
import Derived.Test.YtbnicphegbdfnaaMarks
import Derived.Deep.CutBlock
namespace Go.Proofs.Ytbnicphegbdfnaa.SP
set_option maxRecDepth 100000
open Go Go.RowKit Go.Proofs.Ytbnicphegbdfnaa Go.Proofs.Ytbnicphegbdfnaa.Facts Go.Proofs.Ytbnicphegbdfnaa.Bytes Go.Proofs.Ytbnicphegbdfnaa.DKeep Go.Proofs.Ytbnicphegbdfnaa.DSmall Go.Proofs.Ytbnicphegbdfnaa.SPure Go.Proofs.Ytbnicphegbdfnaa.JD Go.Proofs.Ytbnicphegbdfnaa.JH Go.Proofs.Ytbnicphegbdfnaa.JQ Go.Proofs.Ytbnicphegbdfnaa.AP Go.Proofs.Ytbnicphegbdfnaa.AQ Go.Proofs.Ytbnicphegbdfnaa.AW Go.Proofs.Ytbnicphegbdfnaa.AV

/-- Which of two areas counts, with its stamp and its bytes. -/
def pick1 (r : Nat × List UInt8 × Int) : Option (Nat × Nat × List UInt8) := if r.2.2 = 0 ∧ 0 < r.1 then some (0, r.1, r.2.1) else none
def pick2 (a : Option (Nat × Nat × List UInt8)) (r : Nat × List UInt8 × Int) : Option (Nat × Nat × List UInt8) := if r.2.2 = 0 ∧ (match a with | none => 0 | some x => x.2.1) < r.1 then some (1, r.1, r.2.1) else a
def pick (L : List Sec) (f m : Nat) : Option (Nat × Nat × List UInt8) := pick2 (pick1 (ard L f m)) (ard L (f + m) m)
/-- Area c counts, with the stamp s and the bytes b; no number is above n. -/
structure SK (L : List Sec) (f m n c s : Nat) (b : List UInt8) : Prop where
  ev : Ev L
  len : f + 2 * m ≤ L.length
  one : 1 ≤ m
  c2 : c < 2
  top : ∀ i, i < 2 * m → stampOf (L[f + i]?.getD []) ≤ n ∧ againOf (L[f + i]?.getD []) ≤ n
  is : ard L (f + c * m) m = (s, b, 0)
  other : ard L (f + (1 - c) * m) m = (0, [], 2) ∨ ∃ s' b', ard L (f + (1 - c) * m) m = (s', b', 0) ∧ s' < s
theorem pick1_ok (s : Nat) (b : List UInt8) (h : 0 < s) : pick1 (s, b, 0) = some (0, s, b) := if_pos ⟨rfl, h⟩
theorem pick1_bad : pick1 (0, [], 2) = none := if_neg fun h => absurd h.1 (by decide)
theorem pick2_bad (a : Option (Nat × Nat × List UInt8)) : pick2 a (0, [], 2) = a := if_neg fun h => absurd h.1 (by decide)
theorem pick2_none (s : Nat) (b : List UInt8) (h : 0 < s) : pick2 none (s, b, 0) = some (1, s, b) := if_pos ⟨rfl, h⟩
theorem pick2_gt (c s' s : Nat) (b' b : List UInt8) (h : s' < s) : pick2 (some (c, s', b')) (s, b, 0) = some (1, s, b) := if_pos ⟨rfl, h⟩
theorem pick2_le (c s' s : Nat) (b' b : List UInt8) (h : s ≤ s') : pick2 (some (c, s', b')) (s, b, 0) = some (c, s', b') := if_neg fun hh => by have h2 : s' < s := hh.2; omega
theorem SK.pick {L : List Sec} {f m n c s : Nat} {b : List UInt8} (h : SK L f m n c s b) : pick L f m = some (c, s, b) := by
  have hs := (may_iff s).1 (ard_ok h.one h.is).1
  have hi := h.is
  have ho := h.other
  unfold SP.pick
  rcases (show c = 0 ∨ c = 1 by have := h.c2; omega) with rfl | rfl
  · simp only [Nat.zero_mul, Nat.add_zero, Nat.sub_zero, Nat.one_mul] at hi ho
    rw [hi, pick1_ok s b (by omega)]
    rcases ho with ho | ⟨s', b', ho, hlt⟩
    · rw [ho, pick2_bad]
    · rw [ho, pick2_le _ _ _ _ _ (by omega)]
  · simp only [Nat.one_mul, Nat.sub_self, Nat.zero_mul, Nat.add_zero] at hi ho
    rw [hi]
    rcases ho with ho | ⟨s', b', ho, hlt⟩
    · rw [ho, pick1_bad, pick2_none s b (by omega)]
    · rw [ho]
      by_cases h0 : 0 < s'
      · rw [pick1_ok s' b' h0, pick2_gt _ _ _ _ _ hlt]
      · rw [show pick1 (s', b', 0) = none from if_neg fun hh => h0 hh.2, pick2_none s b (by omega)]
theorem SK.up {L : List Sec} {f m n n' c s : Nat} {b : List UInt8} (h : SK L f m n c s b) (hn : n ≤ n') : SK L f m n' c s b :=
  ⟨h.ev, h.len, h.one, h.c2, fun i hi => by have := h.top i hi; omega, h.is, h.other⟩
theorem SK.newest {L : List Sec} {f m n c s : Nat} {b : List UInt8} (h : SK L f m n c s b) : SK L f m (anw L f (2 * m)) c s b :=
  ⟨h.ev, h.len, h.one, h.c2, fun i hi => anw_ge L f (2 * m) i hi, h.is, h.other⟩
theorem SK.newest_le {L : List Sec} {f m n c s : Nat} {b : List UInt8} (h : SK L f m n c s b) : anw L f (2 * m) ≤ n := anw_le L f (2 * m) n h.top
/-- An index of area c is one of both areas. -/
theorem ix {f m c i : Nat} (hc : c < 2) (hi : i < m) : ∃ k, k < 2 * m ∧ f + c * m + i = f + k := by
  rcases (show c = 0 ∨ c = 1 by omega) with rfl | rfl
  · exact ⟨i, by omega, by omega⟩
  · exact ⟨m + i, by omega, by omega⟩
theorem SK.stamp_le {L : List Sec} {f m n c s : Nat} {b : List UInt8} (h : SK L f m n c s b) : s ≤ n := by
  obtain ⟨k, hk, he⟩ := ix (f := f) h.c2 (show 0 < m from h.one)
  have h1 := (ard_ok h.one h.is).2 0 h.one
  rw [he] at h1
  have := (h.top k hk).1
  omega
/-- The spare area was written with one number more, whole or in part. -/
theorem SK.came {L L' : List Sec} {f m n c s : Nat} {b0 b : List UInt8} (h : SK L f m n c s b0) (hc : Came L L' (f + (1 - c) * m) m (n + 1) b) : SK L' f m (n + 1) c s b0 ∨ SK L' f m (n + 1) (1 - c) (n + 1) b := by
  have hsn := h.stamp_le
  have hc2 := h.c2
  have hlen := h.len
  have hout : ∀ i, i < m → L'[f + c * m + i]? = L[f + c * m + i]? := fun i hi => hc.out _ (by
    rcases (show c = 0 ∨ c = 1 by omega) with rfl | rfl
    · left; simp; omega
    · right; simp)
  have hr := ard_congr L L' (f + c * m) m hout
  have htop : ((∃ i, i < m ∧ stampOf (L'[f + (1 - c) * m + i]?.getD []) = n + 1) ∧ (∀ i, i < m → stampOf (L'[f + (1 - c) * m + i]?.getD []) ≤ n + 1 ∧ againOf (L'[f + (1 - c) * m + i]?.getD []) ≤ n + 1)) → ∀ i, i < 2 * m → stampOf (L'[f + i]?.getD []) ≤ n + 1 ∧ againOf (L'[f + i]?.getD []) ≤ n + 1 := fun hh i hi => by
    by_cases hin : f + (1 - c) * m ≤ f + i ∧ f + i < f + (1 - c) * m + m
    · have := hh.2 (i - (1 - c) * m) (by omega)
      rwa [show f + (1 - c) * m + (i - (1 - c) * m) = f + i by omega] at this
    · rw [hc.out (f + i) (by omega)]
      have := h.top i hi
      omega
  rcases hc.is with rfl | ⟨h1, h2, h3⟩
  · exact .inl (h.up (by omega))
  · have ht := htop ⟨h1, h2⟩
    rcases h3 with h3 | h3
    · exact .inl ⟨hc.ev, by rw [hc.len]; exact hlen, h.one, hc2, ht, by rw [hr]; exact h.is, .inl h3⟩
    · refine .inr ⟨hc.ev, by rw [hc.len]; exact hlen, h.one, by omega, ht, h3, .inr ⟨s, b0, ?_, by omega⟩⟩
      rw [show 1 - (1 - c) = c by omega, hr]
      exact h.is
theorem SK.put {L : List Sec} {f m n c s : Nat} {b0 b : List UInt8} (h : SK L f m n c s b0) (hs : may (n + 1) = true) (hb : b.length + 4 ≤ 108 * m) (hb2 : b.length < 4294967296) :
    SK (sets L (ws (f + (1 - c) * m) (fun _ => n + 1) m 0 (recB b))) f m (n + 1) (1 - c) (n + 1) b := by
  have hf : f + (1 - c) * m + m ≤ L.length := by
    have := h.len
    have := h.c2
    rcases (show c = 0 ∨ c = 1 by omega) with rfl | rfl
    · simp; omega
    · simp; omega
  obtain ⟨h1, h2, h3⟩ := came_put L (f + (1 - c) * m) m (n + 1) b hs h.ev hf h.one hb hb2
  rcases h.came h1 with hh | hh
  · exfalso
    have ho := hh.other
    rw [h2] at ho
    have hsn := h.stamp_le
    rcases ho with ho | ⟨s', b', ho, hlt⟩
    · injection ho with _ ho
      injection ho with _ ho
      cases ho
    · injection ho with ho _
      omega
  · exact hh
/-- The next snapshot is made. -/
def nextP (L : List Sec) (f m c n : Nat) (b : List UInt8) (fu : Int) : Pd × Int :=
  let r := gw (f + (1 - c) * m) (fun _ => n + 1) m 0 (recB b) (calmF L fu)
  if r.2 = 0 then DFlush.flushed r.1 else r
theorem settled_nil (L : List Sec) (l : List (Nat × Sec)) (hl : Ev L) (hs : ∀ p ∈ l, p.1 < L.length) : ∀ i, DSettle.settled (fun _ => 0) L l i = L
  | 0 => rfl
  | i + 1 => by
    unfold DSettle.settled
    cases hq : l[i]? with
    | none => exact settled_nil L l hl hs i
    | some p =>
      show (DSettle.settled (fun _ => 0) L l i).set p.1 _ = L
      rw [settled_nil L l hl hs i]
      have hp := hs p (List.mem_of_getElem? hq)
      have e : DOver.cutw (L[p.1]?.getD []) p.2 0 = L[p.1] := by
        rw [List.getElem?_eq_getElem hp]
        unfold DOver.cutw
        simp
      rw [e, List.set_getElem_self]
theorem kept_nil : DFlush.kept [] = fun _ => 0 := by
  funext i
  unfold DFlush.kept
  simp
theorem next_any (L : List Sec) (f m n c s : Nat) (b0 b : List UInt8) (fu : Int) (h : SK L f m n c s b0) (hs : may (n + 1) = true) (hb : b.length + 4 ≤ 108 * m) (hb2 : b.length < 4294967296) (hfu : -1 ≤ fu) :
    ((fu = -1 ∨ (m : Int) + 1 ≤ fu) ∧ ∃ L', nextP L f m c n b fu = (calmF L' (if fu = -1 then -1 else fu - (m : Int) - 1), 0) ∧ SK L' f m (n + 1) (1 - c) (n + 1) b ∧ (∀ a, (a < f ∨ f + 2 * m ≤ a) → L'[a]? = L[a]?) ∧ L'.length = L.length) ∨
    (0 ≤ fu ∧ fu < (m : Int) + 1 ∧ ∃ d', nextP L f m c n b fu = (d', 15) ∧ d'.off = true ∧ d'.waits.length ≤ m ∧ d'.safe.length = L.length ∧ DFlush.crashed d' [] = calm L ∧ ∀ keep, ∃ L', DFlush.crashed d' keep = calm L' ∧ (SK L' f m (n + 1) c s b0 ∨ SK L' f m (n + 1) (1 - c) (n + 1) b) ∧ (∀ a, (a < f ∨ f + 2 * m ≤ a) → L'[a]? = L[a]?) ∧ L'.length = L.length) := by
  have hc2 := h.c2
  have hlen := h.len
  obtain ⟨g, hg⟩ : ∃ g, f + (1 - c) * m = g := ⟨_, rfl⟩
  have hgf : f ≤ g ∧ g + m ≤ f + 2 * m := by
    rw [← hg]
    rcases (show c = 0 ∨ c = 1 by omega) with rfl | rfl
    · simp; omega
    · simp; omega
  have hw := ws_wq L g (fun _ => n + 1) m (recB b) h.ev (by omega)
  have hlow : ∀ i, i < m → stampOf (L[g + i]?.getD []) < n + 1 ∧ againOf (L[g + i]?.getD []) < n + 1 := fun i hi => by
    have := h.top (g + i - f) (by omega)
    rw [show f + (g + i - f) = g + i by omega] at this
    omega
  have lost : ∀ (k : Nat) (ff : Int) (o : Bool), DFlush.crashed ⟨L, sets L ((ws g (fun _ => n + 1) m 0 (recB b)).take k), (ws g (fun _ => n + 1) m 0 (recB b)).take k, ff, o⟩ [] = calm L ∧
      ∀ keep, ∃ L', DFlush.crashed ⟨L, sets L ((ws g (fun _ => n + 1) m 0 (recB b)).take k), (ws g (fun _ => n + 1) m 0 (recB b)).take k, ff, o⟩ keep = calm L' ∧ (SK L' f m (n + 1) c s b0 ∨ SK L' f m (n + 1) (1 - c) (n + 1) b) ∧ (∀ a, (a < f ∨ f + 2 * m ≤ a) → L'[a]? = L[a]?) ∧ L'.length = L.length := fun k ff o => by
    constructor
    · unfold DFlush.crashed DFlush.ended calm
      rw [kept_nil, relast_all, settled_nil L _ h.ev fun p hp => (hw.fit p (List.mem_of_mem_take hp)).1]
    · intro keep
      obtain ⟨L', hcr, hcm⟩ := came_lost L g m (n + 1) b hs h.ev (by omega) h.one hb hb2 hlow k ff o keep
      refine ⟨L', hcr, h.came (by rw [hg]; exact hcm), fun a ha => hcm.out a (by omega), hcm.len⟩
  have hput := h.put (b := b) hs hb hb2
  unfold nextP
  rw [hg] at hput ⊢
  unfold calmF
  rcases gw_any g (fun _ => n + 1) L m 0 (recB b) L [] fu hfu (by omega) with ⟨h1, h2⟩ | ⟨h1, h2, k, h3, h4⟩
  · simp only [h2]
    rw [if_pos trivial, List.nil_append]
    by_cases h0 : fu = (m : Int)
    · right
      have e : (if fu = -1 then (-1 : Int) else fu - (m : Int)) = 0 := by rw [if_neg (by omega)]; omega
      rw [e, flushed_dead]
      have ht : (ws g (fun _ => n + 1) m 0 (recB b)).take m = ws g (fun _ => n + 1) m 0 (recB b) := List.take_of_length_le (by rw [ws_length]; omega)
      have hl := lost m 0 true
      rw [ht] at hl
      exact ⟨by omega, by omega, _, rfl, rfl, by show (ws g (fun _ => n + 1) m 0 (recB b)).length ≤ m; rw [ws_length]; omega, rfl, hl.1, hl.2⟩
    · left
      rw [flushed_sets L _ hw _ (by split <;> omega)]
      refine ⟨by omega, _, ?_, hput, fun a ha => sets_off L g _ m _ a (by omega), sets_length _ _⟩
      unfold calmF
      congr 2
      by_cases h5 : fu = -1
      · simp [h5]
      · simp only [if_neg h5]
        rw [if_neg (by omega)]
  · right
    simp only [h4]
    rw [if_neg (show ¬ (15 : Int) = 0 by decide), List.nil_append]
    have hl := lost k 0 true
    exact ⟨h1, by omega, _, rfl, rfl, by show ((ws g (fun _ => n + 1) m 0 (recB b)).take k).length ≤ m; rw [List.length_take, ws_length]; omega, rfl, hl.1, hl.2⟩
end Go.Proofs.Ytbnicphegbdfnaa.SP
namespace Go.Proofs.Ytbnicphegbdfnaa.SN
set_option maxRecDepth 100000
open Go Go.RowKit Go.Proofs.Ytbnicphegbdfnaa Go.Proofs.Ytbnicphegbdfnaa.Facts Go.Proofs.Ytbnicphegbdfnaa.Bytes Go.Proofs.Ytbnicphegbdfnaa.DKeep Go.Proofs.Ytbnicphegbdfnaa.DSmall Go.Proofs.Ytbnicphegbdfnaa.Puts Go.Proofs.Ytbnicphegbdfnaa.SPure Go.Proofs.Ytbnicphegbdfnaa.JA Go.Proofs.Ytbnicphegbdfnaa.JD Go.Proofs.Ytbnicphegbdfnaa.JH Go.Proofs.Ytbnicphegbdfnaa.JQ Go.Proofs.Ytbnicphegbdfnaa.AP Go.Proofs.Ytbnicphegbdfnaa.AQ Go.Proofs.Ytbnicphegbdfnaa.AA Go.Proofs.Ytbnicphegbdfnaa.AW Go.Proofs.Ytbnicphegbdfnaa.AV Go.Proofs.Ytbnicphegbdfnaa.AC Go.Proofs.Ytbnicphegbdfnaa.DS Go.Proofs.Ytbnicphegbdfnaa.AU Go.Proofs.Ytbnicphegbdfnaa.SP

def srefus (d : Pd) (first many : Int) : Int := if many < 1 ∨ (d.safe.length : Int) < many then 1 else if first < 0 ∨ (d.safe.length : Int) - 2 * many < first then 1 else if d.off then 15 else 0
theorem ds_nil {w y : World} {g : Nat} {d : Pd} {V : List (Value × Cont)} (h : DS w g d V y) : DS w g d ((.slice none 0 0, ([] : List UInt8)) :: V) y := by
  obtain ⟨D, h⟩ := h
  refine ⟨D, h.dk, h.ab, h.gr, fun v' l' hp => ?_, fun x b o hp => ?_⟩
  · rcases List.mem_cons.1 hp with hp | hp
    · injection hp with e1 e2
      injection e2 with e2
      subst e1 e2
      exact ⟨fun _ => False, Rd.nil _ _, fun _ h => h.elim⟩
    · obtain ⟨S, k1, k2⟩ := h.row v' l' hp
      exact ⟨S, k1, fun b hb => ⟨(k2 b hb).1, (k2 b hb).2.1, fun hbl => (k2 b hb).2.2 (bl_row hbl)⟩⟩
  · rcases List.mem_cons.1 hp with hp | hp
    · cases hp
    · exact h.blk x b o hp
set_option maxHeartbeats 2000000 in
theorem srefuses_dk (w : World) (g : Nat) (D : Nat → Prop) (d : Pd) (first many : Int) (h : DK w g D d) :
    Calls Try.prog 81 #[.pointer (some ⟨g, 0, none⟩), .int .i64 first, .int .i64 many] w fun e w' => e = .returned (.int .i64 (srefus d first many)) ∧ w = w' := by
  have HSZ := Lib.hid (DSmall.size_any w g D d h)
  have HOF := Lib.hid (off_any w g D d h)
  unfold dptr at HSZ HOF
  obtain ⟨_, a, b, ca, cb, vw, h0, _⟩ := h
  have n1 := h0.ok.n1
  have n2 := h0.ok.n2
  clear h0
  obtain ⟨n, hn⟩ : ∃ n, n = d.safe.length := ⟨_, rfl⟩
  unfold srefus
  rw [← hn] at HSZ n1 n2 ⊢
  have hn0 : ¬ ((n : Int) = 0) := by omega
  clear hn
  by_cases a1 : many < 1
  · rw [if_pos (.inl a1)]
    go_enter Try.func81, Try.ntmps81
    go_wp2_with fail
    refine HSZ.out.mono ?_
    rintro e w' ⟨rfl, rfl⟩
    go_wp2
    go_ret
    exact ⟨rfl, rfl⟩
  by_cases a2 : (n : Int) < many
  · rw [if_pos (.inr a2)]
    go_enter Try.func81, Try.ntmps81
    go_wp2_with fail
    refine HSZ.out.mono ?_
    rintro e w' ⟨rfl, rfl⟩
    go_wp2
    go_ret
    exact ⟨rfl, rfl⟩
  rw [if_neg (by omega)]
  by_cases a3 : first < 0
  · rw [if_pos (.inl a3)]
    go_enter Try.func81, Try.ntmps81
    go_wp2_with fail
    refine HSZ.out.mono ?_
    rintro e w' ⟨rfl, rfl⟩
    go_wp2
    go_ret
    exact ⟨rfl, rfl⟩
  have e0 : IntKind.i64.wrap (2 * many) = 2 * many := IntWalk.i64_in _ (by omega)
  have e1 : IntKind.i64.wrap ((n : Int) - 2 * many) = (n : Int) - 2 * many := IntWalk.i64_in _ (by omega)
  by_cases a4 : (n : Int) - 2 * many < first
  · rw [if_pos (.inr a4)]
    go_enter Try.func81, Try.ntmps81
    go_wp2_with fail
    refine HSZ.out.mono ?_
    rintro e w' ⟨rfl, rfl⟩
    go_wp2
    go_ret
    exact ⟨rfl, rfl⟩
  rw [if_neg (by omega)]
  cases ho : d.off with
  | true =>
    rw [ho] at HOF
    clear ho
    rw [if_pos rfl]
    go_enter Try.func81, Try.ntmps81
    go_wp2_with fail
    refine HSZ.out.mono ?_
    rintro e w' ⟨rfl, rfl⟩
    go_wp2_with fail
    refine HOF.out.mono ?_
    rintro e w' ⟨rfl, rfl⟩
    go_wp2
    go_ret
    exact ⟨rfl, rfl⟩
  | false =>
    rw [ho] at HOF
    clear ho
    rw [if_neg (by decide)]
    go_enter Try.func81, Try.ntmps81
    go_wp2_with fail
    refine HSZ.out.mono ?_
    rintro e w' ⟨rfl, rfl⟩
    go_wp2_with fail
    refine HOF.out.mono ?_
    rintro e w' ⟨rfl, rfl⟩
    go_wp2
    go_ret
    exact ⟨rfl, rfl⟩
theorem srefuses_nil (w : World) (first many : Int) : Calls Try.prog 81 #[.pointer none, .int .i64 first, .int .i64 many] w fun e w' => e = .returned (.int .i64 11) ∧ w = w' := by
  go_enter Try.func81, Try.ntmps81
  go_wp2_with fail
  refine (size_nil w).mono ?_
  rintro e w' ⟨rfl, rfl⟩
  go_wp2
  go_ret
  exact ⟨rfl, rfl⟩
theorem ds_srefuses {w y : World} {g : Nat} {d : Pd} {V : List (Value × Cont)} (h : DS w g d V y) (first many q : Int) (hq : srefus d first many = q) :
    Calls Try.prog 81 #[.pointer (some ⟨g, 0, none⟩), .int .i64 first, .int .i64 many] y fun e z => e = .returned (.int .i64 q) ∧ y = z := by
  subst hq
  obtain ⟨D, h1⟩ := h.dk
  exact srefuses_dk y g D d first many h1
theorem ds_sbytes {w y : World} {g : Nat} {d : Pd} {V : List (Value × Cont)} (h : DS w g d V y) (first many : Int) (A : Option Addr) (n c : Nat) (q : Int) (hq : srefus d first many = q) :
    Calls Try.prog 75 #[.pointer (some ⟨g, 0, none⟩), .int .i64 first, .int .i64 many, .slice A n c] y fun e z => e = .returned (.int .i64 (if q = 0 then (if JA.room many < (n : Int) then 13 else 0) else q)) ∧ y = z := by
  have HR := Lib.hid (ds_srefuses h first many q hq)
  have HRM := Lib.hid (fun w => JA.room_any many w)
  obtain ⟨RM, hRM⟩ : ∃ RM, JA.room many = RM := ⟨_, rfl⟩
  rw [hRM] at HRM ⊢
  clear hq h hRM
  by_cases h0 : q = 0
  · subst h0
    rw [if_pos rfl]
    by_cases hl : RM < (n : Int)
    · rw [if_pos hl]
      go_enter Try.func75, Try.ntmps75
      go_wp2_with fail
      refine HR.out.mono ?_
      rintro e w' ⟨rfl, rfl⟩
      go_wp2_with fail
      refine (HRM.out _).mono ?_
      rintro e w' ⟨rfl, rfl⟩
      go_wp2
      go_ret
      exact ⟨rfl, rfl⟩
    · rw [if_neg hl]
      go_enter Try.func75, Try.ntmps75
      go_wp2_with fail
      refine HR.out.mono ?_
      rintro e w' ⟨rfl, rfl⟩
      go_wp2_with fail
      refine (HRM.out _).mono ?_
      rintro e w' ⟨rfl, rfl⟩
      go_wp2
      go_ret
      exact ⟨rfl, rfl⟩
  · rw [if_neg h0]
    have hb : (q != 0) = true := by simpa using h0
    go_enter Try.func75, Try.ntmps75
    go_wp2_with fail
    refine HR.out.mono ?_
    rintro e w' ⟨rfl, rfl⟩
    go_wp2
    go_ret
    exact ⟨rfl, rfl⟩
theorem sbytes_nil (w : World) (first many : Int) (v : Value) : Calls Try.prog 75 #[.pointer none, .int .i64 first, .int .i64 many, v] w fun e w' => e = .returned (.int .i64 11) ∧ w = w' := by
  go_enter Try.func75, Try.ntmps75
  go_wp2_with fail
  refine (srefuses_nil w first many).mono ?_
  rintro e w' ⟨rfl, rfl⟩
  go_wp2
  go_ret
  exact ⟨rfl, rfl⟩
theorem both_any (first many : Int) (w : World) (h1 : -9223372036854775808 ≤ first + many) (h2 : first + many ≤ 9223372036854775807) : Calls Try.prog 77 #[.int .i64 first, .int .i64 many] w fun e w' => e = .returned (.agg #[.int .i64 first, .int .i64 (first + many)]) ∧ Grew w w' := by
  have e1 : IntKind.i64.wrap (first + many) = first + many := IntWalk.i64_in _ (by omega)
  go_enter Try.func77, Try.ntmps77
  go_wp2
  go_returns
  exact ⟨rfl, by unfold Grew; go_grown⟩
/-- An area is filled, and all is flushed. -/
def keepP (d : Pd) (from_ st m : Nat) (b : List UInt8) : Pd × Int := if (gw from_ (fun _ => st) m 0 (recB b) d).2 = 0 then DFlush.flushed (gw from_ (fun _ => st) m 0 (recB b) d).1 else gw from_ (fun _ => st) m 0 (recB b) d
theorem ds_keep {w y : World} {g : Nat} {d : Pd} {V : List (Value × Cont)} (h : DS w g d V y) (first m st : Nat) (x0 x1 x2 : Int) (hx0 : x0 = (first : Int)) (hx1 : x1 = (m : Int)) (hx2 : x2 = (st : Int)) (S : Nat → Prop) (v : Value) (b : List UInt8) (d' : Pd) (q : Int) (hr : Rd S y v b) (hq : arefus d (first : Int) (m : Int) = 0) (hs : may st = true) (hb : b.length + 4 ≤ 108 * m) (hw : d.waits.length + m ≤ 1000000000) (he : keepP d first st m b = (d', q)) :
    Calls Try.prog 76 #[.pointer (some ⟨g, 0, none⟩), .int .i64 x0, .int .i64 x1, .int .u64 x2, v] y fun e z => e = .returned (.int .i64 q) ∧ DS w g d' V z := by
  obtain ⟨A, c, rfl, _⟩ := id hr
  obtain ⟨d1, q1, h1⟩ : ∃ d1 q1, gw first (fun _ => st) m 0 (recB b) d = (d1, q1) := ⟨_, _, rfl⟩
  have hw1 : d1.waits.length ≤ 1073741824 := by
    have := gl_waits first st (List.range' 0 m) (recB b) d
    rw [gl_gw, h1, List.length_range'] at this
    have h2 : d1.waits.length ≤ d.waits.length + m := this
    omega
  unfold keepP at he
  rw [h1] at he
  have HW := Lib.hid (ds_awrite w y g d V h first m st x0 x1 x2 hx0 hx1 hx2 S _ b d1 q1 hr hq hs hb (by omega) h1)
  have HW1 := Lib.hid hw1
  clear h h1 hw1 hr hq hs hb hw hx0 hx1 hx2
  by_cases h0 : q1 = 0
  · rw [if_pos h0] at he
    have HE := Lib.hid he
    subst h0
    clear he
    go_enter Try.func76, Try.ntmps76
    go_wp2_with fail
    refine HW.out.mono ?_
    rintro e w1 ⟨rfl, hd⟩
    have HD := Lib.hid hd
    clear hd HW
    go_wp2_with fail
    refine (ds_flush w w1 g d1 V HD.out d' q HW1.out HE.out).mono ?_
    rintro e w2 ⟨rfl, hd⟩
    have HD2 := Lib.hid hd
    clear hd HD HE
    go_wp2
    go_ret
    exact ⟨rfl, HD2.out⟩
  · rw [if_neg h0] at he
    injection he with he1 he2
    subst he1 he2
    have hb : (q1 != 0) = true := by simpa using h0
    go_enter Try.func76, Try.ntmps76
    go_wp2_with fail
    refine HW.out.mono ?_
    rintro e w1 ⟨rfl, hd⟩
    have HD := Lib.hid hd
    clear hd HW
    go_wp2
    go_ret
    exact ⟨rfl, HD.out⟩
theorem run_ix0 (a b : Value) (W : World) : (Instr.index 132 (.agg #[a, b]) (.int .i64 0)).run Try.prog W = .ok a W := by kernel_rfl
theorem run_ix1 (a b : Value) (W : World) : (Instr.index 132 (.agg #[a, b]) (.int .i64 1)).run Try.prog W = .ok b W := by kernel_rfl
/-- What is answered of the snapshot that counts. -/
def LAST (w : World) (g : Nat) (d : Pd) (V : List (Value × Cont)) (a : Option (Nat × Nat × List UInt8)) (e : Ending) (z : World) : Prop :=
  match a with
  | none => e = .returned (.tuple #[.int .i64 0, .int .u64 0, .slice none 0 0, .int .i64 2]) ∧ DS w g d V z
  | some x => ∃ v, e = .returned (.tuple #[.int .i64 (x.1 : Int), .int .u64 (x.2.1 : Int), v, .int .i64 0]) ∧ DS w g d ((v, x.2.2) :: V) z
theorem LAST.no {w : World} {g : Nat} {d : Pd} {V : List (Value × Cont)} {e : Ending} {z : World} (h1 : e = .returned (.tuple #[.int .i64 0, .int .u64 0, .slice none 0 0, .int .i64 2])) (h2 : DS w g d V z) : LAST w g d V none e z := ⟨h1, h2⟩
theorem LAST.yes {w : World} {g : Nat} {d : Pd} {V : List (Value × Cont)} {e : Ending} {z : World} {x : Nat × Nat × List UInt8} (v : Value) (h1 : e = .returned (.tuple #[.int .i64 (x.1 : Int), .int .u64 (x.2.1 : Int), v, .int .i64 0])) (h2 : DS w g d ((v, x.2.2) :: V) z) : LAST w g d V (some x) e z := ⟨v, h1, h2⟩
/-- What stands behind a step of the search. -/
def wh (a : Option (Nat × Nat × List UInt8)) : Int := match a with | none => -1 | some x => (x.1 : Int)
def sp (a : Option (Nat × Nat × List UInt8)) : Nat := match a with | none => 0 | some x => x.2.1
def by_ (a : Option (Nat × Nat × List UInt8)) : List UInt8 := match a with | none => [] | some x => x.2.2
def acc (L : List Sec) (f m : Nat) : Nat → Option (Nat × Nat × List UInt8)
  | 0 => none
  | 1 => pick1 (ard L f m)
  | _ => pick L f m
def at_ (f m : Nat) : Nat → Nat
  | 0 => f
  | _ => f + m
def stepP (a : Option (Nat × Nat × List UInt8)) (i : Nat) (r : Nat × List UInt8 × Int) : Option (Nat × Nat × List UInt8) := if r.2.2 = 0 ∧ sp a < r.1 then some (i, r.1, r.2.1) else a
theorem acc_next (L : List Sec) (f m i : Nat) (hi : i < 2) : acc L f m (i + 1) = stepP (acc L f m i) i (ard L (at_ f m i) m) := by
  match i, hi with
  | 0, _ => rfl
  | 1, _ => rfl
set_option maxHeartbeats 2000000 in
theorem ds_last {w y : World} {g : Nat} {d : Pd} {V : List (Value × Cont)} (h : DS w g d V y) (f m : Nat) (x0 x1 : Int) (hx0 : x0 = (f : Int)) (hx1 : x1 = (m : Int)) (hq : srefus d (f : Int) (m : Int) = 0) :
    Calls Try.prog 42 #[.pointer (some ⟨g, 0, none⟩), .int .i64 x0, .int .i64 x1] y fun e z => LAST w g d V (pick d.last f m) e z := by
  subst hx0 hx1
  have hfm : 1 ≤ m ∧ f + 2 * m ≤ 16384 ∧ f + 2 * m ≤ d.safe.length ∧ d.off = false := by
    unfold srefus at hq
    obtain ⟨D, hdk⟩ := h.dk
    obtain ⟨_, a, b, ca, cb, vw, h0, _⟩ := id hdk
    have n2 := h0.ok.n2
    split at hq
    · cases hq
    · split at hq
      · cases hq
      · split at hq
        · cases hq
        · rename_i h1 h2 h3
          exact ⟨by omega, by omega, by omega, by simpa using h3⟩
  obtain ⟨pk, hpk⟩ : ∃ pk, pick d.last f m = pk := ⟨_, rfl⟩
  rw [hpk]
  have HPK := Lib.hid hpk
  have HFM := Lib.hid hfm
  have HAR : Hid (∀ i, i < 2 → arefus d ((at_ f m i : Nat) : Int) (m : Int) = 0) := Lib.hid fun i hi => by
    unfold arefus
    have : at_ f m i ≤ f + m := by
      match i, hi with
      | 0, _ => show f ≤ f + m; omega
      | 1, _ => exact Nat.le_refl _
    rw [if_neg (by omega), if_neg (by simp [hfm.2.2.2])]
  have HR := Lib.hid (ds_srefuses h (f : Int) (m : Int) 0 hq)
  have HB := Lib.hid (fun w => both_any (f : Int) (m : Int) w (by omega) (by omega))
  have HD := Lib.hid h
  clear h hq hfm hpk
  go_enter Try.func42, Try.ntmps42
  go_wp2_with fail
  refine HR.out.mono ?_
  rintro e w' ⟨rfl, rfl⟩
  clear HR
  go_wp2_with fail
  refine (HB.out _).mono ?_
  rintro e w1 ⟨rfl, hg⟩
  have HD1 : Hid (DS w g d ((.slice none 0 0, ([] : List UInt8)) :: V) w1) := Lib.hid (ds_nil (HD.out.grew hg))
  clear hg HD HB
  go_wp2
  go_loopg [11, 12, 13, 14, 15, 16, 17, 18, 29] 2 (fun q s11 s12 s13 s14 s15 s16 s17 s18 s29 wx => ∃ (i : Nat) (a : Option (Nat × Nat × List UInt8)) (A : Option Addr) (c : Nat), i + q = 2 ∧ s29 = .int .i64 (i : Int) ∧ s11 = .int .i64 (wh a) ∧ s12 = .int .u64 (sp a : Int) ∧ s13 = .slice A (by_ a).length c ∧ Hid (acc d.last f m i = a) ∧ Hid (DS w g d ((.slice A (by_ a).length c, by_ a) :: V) wx))
  case atStart => exact ⟨0, none, none, 0, rfl, rfl, rfl, rfl, rfl, Lib.hid rfl, HD1⟩
  case round =>
    obtain ⟨i, a, A, c, hiq, rfl, rfl, rfl, rfl, HAC, HDX⟩ := hrel
    clear HD1
    cases gk with
    | zero =>
      obtain rfl : i = 2 := by omega
      obtain rfl : pk = a := by rw [← HPK.out]; exact HAC.out
      clear HPK HAC
      cases pk with
      | none =>
        simp only [wh, sp, by_]
        go_wp2
        go_returns
        exact LAST.no rfl (HDX.out.sub fun p hp => List.mem_cons_of_mem _ hp)
      | some x =>
        have hx : ¬ ((x.1 : Int) = -1) := by omega
        simp only [wh, sp, by_]
        go_wp2
        go_returns
        exact LAST.yes _ rfl HDX.out
    | succ q =>
      have hi2 : i < 2 := by omega
      have hlt : (i : Int) < 2 := by omega
      obtain ⟨s, b, qe, hrd⟩ : ∃ s b qe, ard d.last (at_ f m i) m = (s, b, qe) := ⟨_, _, _, rfl⟩
      have hnx := acc_next d.last f m i hi2
      rw [HAC.out, hrd] at hnx
      have HNX := Lib.hid hnx
      have HRD := Lib.hid hrd
      have HQ := Lib.hid (HAR.out i hi2)
      have hwi : IntKind.i64.wrap ((i : Int) + 1) = (i : Int) + 1 := IntWalk.i64_in _ (by omega)
      clear hnx hrd HAC
      match i, hi2 with
      | 0, _ =>
        have kix := run_ix0 (.int .i64 (f : Int)) (.int .i64 ((f : Int) + (m : Int)))
        go_wp2_with fail
        refine (ds_aread w wr g d _ HDX.out (at_ f m 0) m _ _ (by first | rfl | (show (f : Int) + (m : Int) = ((f + m : Nat) : Int); omega)) rfl s b qe HQ.out HRD.out).mono ?_
        rintro e w2 ⟨v, rfl, hd⟩
        obtain ⟨A2, c2, rfl, _⟩ := id (hd.rd (List.mem_cons_self ..))
        have HD2 := Lib.hid hd
        clear hd HDX
        clear kix
        by_cases h0 : qe = 0
        · subst h0
          by_cases hs : sp a < s
          · have hs' : ((sp a : Nat) : Int) < (s : Int) := by omega
            have HST : Hid (acc d.last f m (0 + 1) = some (0, s, b)) := Lib.hid (by rw [HNX.out]; exact if_pos ⟨rfl, hs⟩)
            clear hs
            go_wp2
            go_roundg q
            case measure => omega
            case rel => exact ⟨0 + 1, some (0, s, b), A2, c2, by omega, by first | rfl | simp, by first | rfl | simp [wh], rfl, rfl, HST, Lib.hid (HD2.out.sub fun p hp => by rcases List.mem_cons.1 hp with h | h; exact h ▸ List.mem_cons_self ..; exact List.mem_cons_of_mem _ (List.mem_cons_of_mem _ h))⟩
          · have hs' : ¬ ((sp a : Nat) : Int) < (s : Int) := by omega
            have HST : Hid (acc d.last f m (0 + 1) = a) := Lib.hid (by rw [HNX.out]; exact if_neg fun h => hs h.2)
            clear hs
            go_wp2
            go_roundg q
            case measure => omega
            case rel => exact ⟨0 + 1, a, A, c, by omega, by first | rfl | simp, rfl, rfl, rfl, HST, Lib.hid (HD2.out.sub fun p hp => List.mem_cons_of_mem _ hp)⟩
        · have HST : Hid (acc d.last f m (0 + 1) = a) := Lib.hid (by rw [HNX.out]; exact if_neg fun h => h0 h.1)
          have hb : (qe == 0) = false := by simpa using h0
          clear h0
          go_wp2
          go_roundg q
          case measure => omega
          case rel => exact ⟨0 + 1, a, A, c, by omega, by first | rfl | simp, rfl, rfl, rfl, HST, Lib.hid (HD2.out.sub fun p hp => List.mem_cons_of_mem _ hp)⟩
      | 1, _ =>
        have kix := run_ix1 (.int .i64 (f : Int)) (.int .i64 ((f : Int) + (m : Int)))
        go_wp2_with fail
        refine (ds_aread w wr g d _ HDX.out (at_ f m 1) m _ _ (by first | rfl | (show (f : Int) + (m : Int) = ((f + m : Nat) : Int); omega)) rfl s b qe HQ.out HRD.out).mono ?_
        rintro e w2 ⟨v, rfl, hd⟩
        obtain ⟨A2, c2, rfl, _⟩ := id (hd.rd (List.mem_cons_self ..))
        have HD2 := Lib.hid hd
        clear hd HDX
        clear kix
        by_cases h0 : qe = 0
        · subst h0
          by_cases hs : sp a < s
          · have hs' : ((sp a : Nat) : Int) < (s : Int) := by omega
            have HST : Hid (acc d.last f m (1 + 1) = some (1, s, b)) := Lib.hid (by rw [HNX.out]; exact if_pos ⟨rfl, hs⟩)
            clear hs
            go_wp2
            go_roundg q
            case measure => omega
            case rel => exact ⟨1 + 1, some (1, s, b), A2, c2, by omega, by first | rfl | simp, by first | rfl | simp [wh], rfl, rfl, HST, Lib.hid (HD2.out.sub fun p hp => by rcases List.mem_cons.1 hp with h | h; exact h ▸ List.mem_cons_self ..; exact List.mem_cons_of_mem _ (List.mem_cons_of_mem _ h))⟩
          · have hs' : ¬ ((sp a : Nat) : Int) < (s : Int) := by omega
            have HST : Hid (acc d.last f m (1 + 1) = a) := Lib.hid (by rw [HNX.out]; exact if_neg fun h => hs h.2)
            clear hs
            go_wp2
            go_roundg q
            case measure => omega
            case rel => exact ⟨1 + 1, a, A, c, by omega, by first | rfl | simp, rfl, rfl, rfl, HST, Lib.hid (HD2.out.sub fun p hp => List.mem_cons_of_mem _ hp)⟩
        · have HST : Hid (acc d.last f m (1 + 1) = a) := Lib.hid (by rw [HNX.out]; exact if_neg fun h => h0 h.1)
          have hb : (qe == 0) = false := by simpa using h0
          clear h0
          go_wp2
          go_roundg q
          case measure => omega
          case rel => exact ⟨1 + 1, a, A, c, by omega, by first | rfl | simp, rfl, rfl, rfl, HST, Lib.hid (HD2.out.sub fun p hp => List.mem_cons_of_mem _ hp)⟩
theorem ds_last_some {w y : World} {g : Nat} {d : Pd} {V : List (Value × Cont)} (h : DS w g d V y) (f m : Nat) (x0 x1 : Int) (hx0 : x0 = (f : Int)) (hx1 : x1 = (m : Int)) (hq : srefus d (f : Int) (m : Int) = 0) (c s : Nat) (b : List UInt8) (hp : pick d.last f m = some (c, s, b)) :
    Calls Try.prog 42 #[.pointer (some ⟨g, 0, none⟩), .int .i64 x0, .int .i64 x1] y fun e z => ∃ v, e = .returned (.tuple #[.int .i64 (c : Int), .int .u64 (s : Int), v, .int .i64 0]) ∧ DS w g d ((v, b) :: V) z := by
  have := ds_last h f m x0 x1 hx0 hx1 hq
  rw [hp] at this
  exact this
theorem ds_last_none {w y : World} {g : Nat} {d : Pd} {V : List (Value × Cont)} (h : DS w g d V y) (f m : Nat) (x0 x1 : Int) (hx0 : x0 = (f : Int)) (hx1 : x1 = (m : Int)) (hq : srefus d (f : Int) (m : Int) = 0) (hp : pick d.last f m = none) :
    Calls Try.prog 42 #[.pointer (some ⟨g, 0, none⟩), .int .i64 x0, .int .i64 x1] y fun e z => e = .returned (.tuple #[.int .i64 0, .int .u64 0, .slice none 0 0, .int .i64 2]) ∧ DS w g d V z := by
  have := ds_last h f m x0 x1 hx0 hx1 hq
  rw [hp] at this
  exact this
set_option maxHeartbeats 2000000 in
/-- The next snapshot, where one counts and there is room for the next stamp. -/
theorem ds_next {w y : World} {g : Nat} {L : List Sec} {fu : Int} {V : List (Value × Cont)} (h : DS w g (calmF L fu) V y) (f m n c s : Nat) (x0 x1 : Int) (hx0 : x0 = (f : Int)) (hx1 : x1 = (m : Int)) (b0 : List UInt8) (hk : SK L f m n c s b0) (hn : anw L f (2 * m) = n) (hl : L.length ≤ 16384) (hs : may (n + 1) = true) (v : Value) (b : List UInt8) (hin : (v, Cont.bytes b) ∈ V) (hb : b.length + 4 ≤ 108 * m) (d' : Pd) (q : Int) (he : nextP L f m c n b fu = (d', q)) :
    Calls Try.prog 38 #[.pointer (some ⟨g, 0, none⟩), .int .i64 x0, .int .i64 x1, v] y fun e z => e = .returned (.int .i64 q) ∧ DS w g d' V z := by
  subst hx0 hx1
  obtain ⟨A, cp, rfl, _⟩ := id (h.rd hin)
  have hlen := hk.len
  have hone := hk.one
  have hc2 := hk.c2
  have hsq : srefus (calmF L fu) (f : Int) (m : Int) = 0 := by
    unfold srefus calmF
    simp only
    rw [if_neg (by omega), if_neg (by omega)]
    rfl
  have HSB := Lib.hid (ds_sbytes h (f : Int) (m : Int) A b.length cp 0 hsq)
  rw [if_pos rfl, if_neg (by unfold JA.room; rw [if_neg (by omega), if_neg (by omega)]; omega)] at HSB
  have HLA := Lib.hid (ds_last_some h f m _ _ rfl rfl hsq c s b0 hk.pick)
  have HQ : Hid (∀ k : Nat, k < 2 → arefus (calmF L fu) ((f + k * m : Nat) : Int) (m : Int) = 0) := Lib.hid fun k hk => by
    unfold arefus calmF
    simp only
    rcases (show k = 0 ∨ k = 1 by omega) with rfl | rfl
    · rw [if_neg (by simp; omega)]; rfl
    · rw [if_neg (by simp; omega)]; rfl
  have HQ2 : Hid (arefus (calmF L fu) (f : Int) ((2 * m : Nat) : Int) = 0) := Lib.hid (by
    unfold arefus calmF
    simp only
    rw [if_neg (by omega)]
    rfl)
  have HEV := Lib.hid (ev_at hk.ev f (2 * m) hlen)
  have HNN := Lib.hid hn
  have HS := Lib.hid hs
  have HB := Lib.hid hb
  have HIN := Lib.hid hin
  have HE : Hid (keepP (calmF L fu) (f + (1 - c) * m) (n + 1) m b = (d', q)) := Lib.hid (by rw [← he]; rfl)
  have HBO := Lib.hid (fun w => both_any (f : Int) (m : Int) w (by omega) (by omega))
  have hn62 : ¬ (4611686018427387904 : Int) ≤ (n : Int) := by have h62 := (may_iff (n + 1)).1 hs; omega
  have HN62 := Lib.hid hn62
  have hwn : IntKind.u64.wrap ((n : Int) + 1) = ((n + 1 : Nat) : Int) := by rw [IntWalk.u64_in _ (by omega)]; simp
  have hw2 : IntKind.i64.wrap (2 * (m : Int)) = 2 * (m : Int) := IntWalk.i64_in _ (by omega)
  have HM := Lib.hid (show m ≤ 16384 by omega)
  have HG := Lib.hid h.gr
  have HDY := Lib.hid h
  clear h hk hn hs hb hin he hsq hlen hn62
  rcases (show c = 0 ∨ c = 1 by omega) with rfl | rfl
  · have hwc : IntKind.i64.wrap (1 - ((0 : Nat) : Int)) = 1 := by decide
    go_enter Try.func38, Try.ntmps38
    go_wp2_with fail
    refine HSB.out.mono ?_
    rintro e w' ⟨rfl, rfl⟩
    clear HSB
    go_wp2_with fail
    refine HLA.out.mono ?_
    rintro e w1 ⟨v1, rfl, hd⟩
    obtain ⟨A1, c1, rfl, _⟩ := id (hd.rd (List.mem_cons_self ..))
    have HD1 := Lib.hid hd
    clear hd HLA
    go_wp2_with fail
    refine (ds_anewest w w1 g _ _ HD1.out f (2 * m) _ _ rfl (by omega) n HQ2.out HEV.out HNN.out).mono ?_
    rintro e w2 ⟨rfl, hd⟩
    have HD2 := Lib.hid hd
    clear hd HD1
    have k62 : decide ((4611686018427387904 : Int) ≤ (n : Int)) = false := decide_eq_false (by have := HN62.out; omega)
    go_wp2_with fail
    refine (HBO.out _).mono ?_
    rintro e w3 ⟨rfl, hg⟩
    have HD3 := Lib.hid (HD2.out.grew hg)
    clear hg HD2
    have kix := run_ix1 (.int .i64 (f : Int)) (.int .i64 ((f : Int) + (m : Int)))
    go_wp2_with fail
    refine (ds_keep HD3.out (f + (1 - 0) * m) m (n + 1) _ _ _ (by simp) rfl (by first | rfl | simp) _ _ b d' q (HD3.out.rd (v := .slice A b.length cp) (l := b) (List.mem_cons_of_mem _ HIN.out)) (HQ.out 1 (by omega)) HS.out HB.out (by have := HM.out; show 0 + m ≤ _; omega) HE.out).mono ?_
    rintro e w4 ⟨rfl, hd⟩
    have HD4 := Lib.hid hd
    clear hd HD3
    go_wp2
    go_ret
    exact ⟨rfl, HD4.out.sub fun p hp => List.mem_cons_of_mem _ hp⟩
  · have hwc : IntKind.i64.wrap (1 - ((1 : Nat) : Int)) = 0 := by decide
    go_enter Try.func38, Try.ntmps38
    go_wp2_with fail
    refine HSB.out.mono ?_
    rintro e w' ⟨rfl, rfl⟩
    clear HSB
    go_wp2_with fail
    refine HLA.out.mono ?_
    rintro e w1 ⟨v1, rfl, hd⟩
    obtain ⟨A1, c1, rfl, _⟩ := id (hd.rd (List.mem_cons_self ..))
    have HD1 := Lib.hid hd
    clear hd HLA
    go_wp2_with fail
    refine (ds_anewest w w1 g _ _ HD1.out f (2 * m) _ _ rfl (by omega) n HQ2.out HEV.out HNN.out).mono ?_
    rintro e w2 ⟨rfl, hd⟩
    have HD2 := Lib.hid hd
    clear hd HD1
    have k62 : decide ((4611686018427387904 : Int) ≤ (n : Int)) = false := decide_eq_false (by have := HN62.out; omega)
    go_wp2_with fail
    refine (HBO.out _).mono ?_
    rintro e w3 ⟨rfl, hg⟩
    have HD3 := Lib.hid (HD2.out.grew hg)
    clear hg HD2
    have kix := run_ix0 (.int .i64 (f : Int)) (.int .i64 ((f : Int) + (m : Int)))
    go_wp2_with fail
    refine (ds_keep HD3.out (f + (1 - 1) * m) m (n + 1) _ _ _ (by simp) rfl (by first | rfl | simp) _ _ b d' q (HD3.out.rd (v := .slice A b.length cp) (l := b) (List.mem_cons_of_mem _ HIN.out)) (HQ.out 0 (by omega)) HS.out HB.out (by have := HM.out; show 0 + m ≤ _; omega) HE.out).mono ?_
    rintro e w4 ⟨rfl, hd⟩
    have HD4 := Lib.hid hd
    clear hd HD3
    go_wp2
    go_ret
    exact ⟨rfl, HD4.out.sub fun p hp => List.mem_cons_of_mem _ hp⟩
end Go.Proofs.Ytbnicphegbdfnaa.SN
namespace Go.Proofs.Ytbnicphegbdfnaa.SB
set_option maxRecDepth 100000
open Go Go.RowKit Go.Proofs.Ytbnicphegbdfnaa Go.Proofs.Ytbnicphegbdfnaa.Facts Go.Proofs.Ytbnicphegbdfnaa.Bytes Go.Proofs.Ytbnicphegbdfnaa.DKeep Go.Proofs.Ytbnicphegbdfnaa.DSmall Go.Proofs.Ytbnicphegbdfnaa.Puts Go.Proofs.Ytbnicphegbdfnaa.SPure Go.Proofs.Ytbnicphegbdfnaa.JA Go.Proofs.Ytbnicphegbdfnaa.JD Go.Proofs.Ytbnicphegbdfnaa.JH Go.Proofs.Ytbnicphegbdfnaa.JQ Go.Proofs.Ytbnicphegbdfnaa.AP Go.Proofs.Ytbnicphegbdfnaa.AQ Go.Proofs.Ytbnicphegbdfnaa.AA Go.Proofs.Ytbnicphegbdfnaa.AW Go.Proofs.Ytbnicphegbdfnaa.AV Go.Proofs.Ytbnicphegbdfnaa.AC Go.Proofs.Ytbnicphegbdfnaa.DS Go.Proofs.Ytbnicphegbdfnaa.AU Go.Proofs.Ytbnicphegbdfnaa.SP Go.Proofs.Ytbnicphegbdfnaa.SN

theorem mk128 (u : World) : (Instr.makeSlice 23 (.int .i64 128) (.int .i64 128)).run Try.prog u = .ok (.slice (some ⟨u.heap.size, 0, none⟩) 128 128) (u.alloc (.cells (madeCells #[.int .u8 0] 128) 5)) := by
  obtain ⟨i0, hi, hx⟩ := Option.map_eq_some_iff.1 Puts.info5
  simp only [Prod.mk.injEq] at hx
  obtain ⟨hz0, hz1, hz2⟩ := hx
  have h := run_make (P := Try.prog) u 23 5 i0 (.int .u8 0) Try.underlying23 hi hz0 .i64 .i64 128 128 (by omega) (Int.le_refl _) (by rw [hz2]; omega) (by omega)
  simpa [hz1, Value.cells] using h
/-- Sectors of zeros are written, rising. -/
def zw (first : Nat) : Nat → Pd → Pd × Int
  | 0, d => (d, 0)
  | i + 1, d => if (zw first i d).2 = 0 then DWrite.written (zw first i d).1 ((first + i : Nat) : Int) (zeros 128) else zw first i d
theorem zw_waits (first : Nat) (d : Pd) : ∀ i, (zw first i d).1.waits.length ≤ d.waits.length + i
  | 0 => Nat.le_refl _
  | i + 1 => by
    have h := zw_waits first d i
    show (if (zw first i d).2 = 0 then _ else _ : Pd × Int).1.waits.length ≤ _
    split
    · have := written_waits (zw first i d).1 ((first + i : Nat) : Int) (zeros 128)
      omega
    · omega
theorem zw_stop (first i : Nat) (d : Pd) (h : ¬ (zw first i d).2 = 0) : ∀ k, zw first (i + k) d = zw first i d
  | 0 => rfl
  | k + 1 => by
    have := zw_stop first i d h k
    show (if (zw first (i + k) d).2 = 0 then _ else _) = _
    rw [this, if_neg h]
    exact this
def beginP (d : Pd) (f m : Nat) (b : List UInt8) : Pd × Int :=
  if (zw (f + m) m d).2 = 0 then (if (DFlush.flushed (zw (f + m) m d).1).2 = 0 then keepP (DFlush.flushed (zw (f + m) m d).1).1 f 1 m b else DFlush.flushed (zw (f + m) m d).1) else zw (f + m) m d
/-- A disk, what is kept beside it, and one block. -/
def DB (w : World) (g : Nat) (d : Pd) (V : List (Value × Cont)) (b : Nat) (o : Obj) (y : World) : Prop := DS w g d ((.nilFunc, Cont.blk b o) :: V) y
section
variable {w y z : World} {g : Nat} {d : Pd} {V : List (Value × Cont)} {b : Nat} {o : Obj}
theorem DB.ds (h : DB w g d V b o y) : DS w g d V y := DS.sub h fun p hp => List.mem_cons_of_mem _ hp
theorem DB.blk (h : DB w g d V b o y) : y.heap[b]? = some o := DS.at_ h (List.mem_cons_self ..)
theorem DB.grew (h : DB w g d V b o y) (hg : Grew y z) : DB w g d V b o z := DS.grew h hg
theorem DB.start (h : DS w g d V y) (hg : Grew y z) (hb : y.heap.size ≤ b) (ho : z.heap[b]? = some o) : DB w g d V b o z := h.new hg _ hb ho
theorem db_write (h : DB w g d V b o y) (n : Int) (v : Value) (S : Nat → Prop) (l : Sec) (d' : Pd) (q : Int) (hr : Rd S y v l) (hw : d.waits.length ≤ 1073741823) (he : DWrite.written d n l = (d', q)) :
    Calls Try.prog 32 #[.pointer (some ⟨g, 0, none⟩), .int .i64 n, v] y fun e z => e = .returned (.int .i64 q) ∧ DB w g d' V b o z := ds_write w y g d _ h n v S l d' q hr hw he
theorem db_flush (h : DB w g d V b o y) (d' : Pd) (q : Int) (hw : d.waits.length ≤ 1073741824) (he : DFlush.flushed d = (d', q)) :
    Calls Try.prog 20 #[.pointer (some ⟨g, 0, none⟩)] y fun e z => e = .returned (.int .i64 q) ∧ DB w g d' V b o z := ds_flush w y g d _ h d' q hw he
end
/-- One row that is made, and one write, within a region. -/
structure J2 (W0 : World) (km kc : Nat) (Q : World → Prop) (m : Nat → Bool) (u : Nat → Value) (w : World) : Prop where
  bef : m kc = false → Grew W0 w
  row : m km = true → m kc = false → Rd (fun _ => True) w (u km) (zeros 128)
  aft : m kc = true → Q w
  dep : m kc = true → m km = true
section
variable {W0 w w' : World} {km kc : Nat} {Q : World → Prop} {m : Nat → Bool} {u : Nat → Value}
theorem J2.start (W0 : World) (km kc : Nat) (Q : World → Prop) : J2 W0 km kc Q (fun _ => false) (fun _ => undef) W0.drew := ⟨fun _ => (Grew.refl W0).drew, (fun h => by cases h), (fun h => by cases h), (fun h => by cases h)⟩
theorem J2.keep (h : J2 W0 km kc Q m u w) (k : Nat) (v : Value) (h1 : k ≠ km) (h2 : k ≠ kc) : J2 W0 km kc Q (Marks.upd m k) (Marks.updv u k v) w := by
  refine ⟨?_, ?_, ?_, ?_⟩
  · rw [Marks.upd_other m (by omega)]; exact h.bef
  · rw [Marks.upd_other m (by omega), Marks.upd_other m (by omega), Marks.updv_other u v (by omega)]; exact h.row
  · rw [Marks.upd_other m (by omega)]; exact h.aft
  · rw [Marks.upd_other m (by omega), Marks.upd_other m (by omega)]; exact h.dep
theorem J2.made (h : J2 W0 km kc Q m u w) (v : Value) (hn : km ≠ kc) (hm : m km = false) (hg : Grew w w') (hr : Rd (fun _ => True) w' v (zeros 128)) : J2 W0 km kc Q (Marks.upd m km) (Marks.updv u km v) w' := by
  have hq : m kc = false := by
    cases hc : m kc with
    | false => rfl
    | true => have := h.dep hc; rw [hm] at this; cases this
  refine ⟨?_, ?_, ?_, ?_⟩
  · rw [Marks.upd_other m (by omega)]; exact fun q => (h.bef q).trans hg
  · intro _ _; rw [Marks.updv_same]; exact hr
  · rw [Marks.upd_other m (by omega), hq]; exact fun h => by cases h
  · rw [Marks.upd_same]; exact fun _ => rfl
theorem J2.call (h : J2 W0 km kc Q m u w) (v : Value) (hn : km ≠ kc) (hk : m km = true) (hq : Q w') : J2 W0 km kc Q (Marks.upd m kc) (Marks.updv u kc v) w' := by
  refine ⟨?_, ?_, fun _ => hq, ?_⟩
  · rw [Marks.upd_same]; exact fun h => by cases h
  · rw [Marks.upd_same]; exact fun _ h => by cases h
  · intro _; rw [Marks.upd_other m hn]; exact hk
theorem J2.blk (h : J2 W0 km kc Q m u w) {b : Nat} {o : Obj} (h0 : W0.heap[b]? = some o) (hQ : ∀ z, Q z → z.heap[b]? = some o) : w.heap[b]? = some o := by
  cases hc : m kc with
  | false => exact ((h.bef hc).block b (Array.getElem?_eq_some_iff.1 h0).1).trans h0
  | true => exact hQ w (h.aft hc)
end
set_option maxHeartbeats 4000000 in
theorem ds_begin {w y : World} {g : Nat} {d : Pd} {V : List (Value × Cont)} (h : DS w g d V y) (f m : Nat) (x0 x1 : Int) (hx0 : x0 = (f : Int)) (hx1 : x1 = (m : Int)) (hq : srefus d (f : Int) (m : Int) = 0) (v : Value) (b : List UInt8) (hin : (v, Cont.bytes b) ∈ V) (hb : b.length + 4 ≤ 108 * m) (hw : d.waits.length ≤ 100000) (hq2 : (zw (f + m) m d).2 = 0 → (DFlush.flushed (zw (f + m) m d).1).2 = 0 → arefus (DFlush.flushed (zw (f + m) m d).1).1 (f : Int) (m : Int) = 0 ∧ (DFlush.flushed (zw (f + m) m d).1).1.waits.length ≤ 100000) (d' : Pd) (q : Int) (he : beginP d f m b = (d', q)) :
    Calls Try.prog 40 #[.pointer (some ⟨g, 0, none⟩), .int .i64 x0, .int .i64 x1, v] y fun e z => e = .returned (.int .i64 q) ∧ DS w g d' V z := by
  subst hx0 hx1
  obtain ⟨A, cp, rfl, _⟩ := id (h.rd hin)
  have hfm : 1 ≤ m ∧ f + 2 * m ≤ 16384 := by
    unfold srefus at hq
    obtain ⟨D, hdk⟩ := h.dk
    obtain ⟨_, a, b, ca, cb, vw, h0, _⟩ := id hdk
    have n2 := h0.ok.n2
    split at hq
    · cases hq
    · split at hq
      · cases hq
      · exact ⟨by omega, by omega⟩
  have HFM := Lib.hid hfm
  have HSB := Lib.hid (ds_sbytes h (f : Int) (m : Int) A b.length cp 0 hq)
  rw [if_pos rfl, if_neg (by unfold JA.room; rw [if_neg (by omega), if_neg (by omega)]; omega)] at HSB
  have HBO := Lib.hid (fun w => both_any (f : Int) (m : Int) w (by omega) (by omega))
  have HIN := Lib.hid hin
  have HB := Lib.hid hb
  have HW := Lib.hid hw
  have HQ2 := Lib.hid hq2
  have HE := Lib.hid he
  have HDY := Lib.hid h
  clear h hq hin hb hw hq2 he hfm
  go_enter Try.func40, Try.ntmps40
  go_wp2_with fail
  refine HSB.out.mono ?_
  rintro e w' ⟨rfl, rfl⟩
  clear HSB
  go_wp2_with fail
  refine (HBO.out _).mono ?_
  rintro e w1 ⟨rfl, hg⟩
  have HD1 := Lib.hid (HDY.out.grew hg)
  clear hg HDY HBO
  go_upto_block 0 with fail
  have hgA : Grew w1 (w1.alloc (Obj.cells #[Value.int IntKind.i64 (f : Int), Value.int IntKind.i64 ((f : Int) + (m : Int))] 132)) := (Below.refl _ w1).alloc (Nat.le_refl _) _
  have hdb : DB w g d V w1.heap.size (Obj.cells #[Value.int IntKind.i64 (f : Int), Value.int IntKind.i64 ((f : Int) + (m : Int))] 132) (w1.alloc (Obj.cells #[Value.int IntKind.i64 (f : Int), Value.int IntKind.i64 ((f : Int) + (m : Int))] 132)) := DB.start HD1.out hgA (Nat.le_refl _) (heap_alloc_new w1 _)
  have HDB := Lib.hid hdb
  clear hdb hgA HD1
  generalize w1.alloc (Obj.cells #[Value.int IntKind.i64 (f : Int), Value.int IntKind.i64 ((f : Int) + (m : Int))] 132) = WA at *
  generalize w1.heap.size = BB at *
  obtain ⟨OO, hOO⟩ : ∃ OO, OO = Obj.cells #[Value.int IntKind.i64 (f : Int), Value.int IntKind.i64 ((f : Int) + (m : Int))] 132 := ⟨_, rfl⟩
  have HOO := Lib.hid hOO
  rw [← hOO] at HDB
  clear hOO
  go_wp2
  go_loopg [11, 12, 26] m (fun q s11 s12 s26 wx => ∃ (i : Nat) (di : Pd), i + q = m ∧ s26 = .int .i64 (i : Int) ∧ Hid (zw (f + m) i d = (di, 0)) ∧ Hid (DB w g di V BB OO wx))
  case atStart => exact ⟨0, d, by omega, rfl, Lib.hid rfl, HDB⟩
  case round =>
    obtain ⟨i, di, hiq, rfl, HZ, HDX⟩ := hrel
    clear HDB
    cases gk with
    | zero =>
      obtain rfl : i = m := by omega
      have hlt : ¬ ((i : Int) < (i : Int)) := by omega
      obtain ⟨d2, q2, hfl⟩ : ∃ d2 q2, DFlush.flushed di = (d2, q2) := ⟨_, _, rfl⟩
      have HFL := Lib.hid hfl
      have HWT : Hid (di.waits.length ≤ 1073741824) := Lib.hid (by
        have := zw_waits (f + i) d i
        rw [HZ.out] at this
        have h1 := HW.out
        have h2 := HFM.out
        have h3 : di.waits.length ≤ d.waits.length + i := this
        omega)
      have HBE : Hid ((if q2 = 0 then keepP d2 f 1 i b else (d2, q2)) = (d', q)) := Lib.hid (by
        rw [← HE.out]
        unfold beginP
        rw [HZ.out]
        simp only [HFL.out]
        rw [if_pos trivial])
      clear hfl
      by_cases h0 : q2 = 0
      · subst h0
        have HK : Hid (keepP d2 f 1 i b = (d', q)) := Lib.hid (by have := HBE.out; rwa [if_pos rfl] at this)
        have HQ3 := Lib.hid (HQ2.out (by rw [HZ.out]) (by rw [HZ.out, HFL.out]))
        rw [HZ.out] at HQ3
        simp only [HFL.out] at HQ3
        clear HBE HQ2 HE
        go_wp2_with fail
        refine (db_flush HDX.out d2 0 HWT.out HFL.out).mono ?_
        rintro e w2 ⟨rfl, hd⟩
        have HD2 := Lib.hid hd
        have hb0 : w2.cell? ⟨BB, 0, none⟩ = some (.int .i64 (f : Int)) := by
          unfold World.cell?
          simp only [hd.blk, HOO.out]
          rfl
        clear hd HDX HFL HZ
        go_wp2_with fail
        refine (ds_keep HD2.out.ds f i 1 _ _ 1 rfl rfl rfl _ _ b d' q (HD2.out.ds.rd (v := .slice A b.length cp) (l := b) HIN.out) HQ3.out.1 (by decide) HB.out (by have := HQ3.out.2; have := HFM.out; omega) HK.out).mono ?_
        rintro e w3 ⟨rfl, hd⟩
        have HD3 := Lib.hid hd
        clear hd HD2 hb0
        go_wp2
        go_ret
        exact ⟨rfl, HD3.out⟩
      · have hne : (q2 != 0) = true := by simpa using h0
        have hqq : (d2, q2) = (d', q) := by have := HBE.out; rwa [if_neg h0] at this
        injection hqq with h1 h2
        subst h1 h2
        clear HBE HQ2 HE h0
        go_wp2_with fail
        refine (db_flush HDX.out d2 q2 HWT.out HFL.out).mono ?_
        rintro e w2 ⟨rfl, hd⟩
        have HD2 := Lib.hid hd
        clear hd HDX HFL HZ
        go_wp2
        go_ret
        exact ⟨rfl, HD2.out.ds⟩
    | succ k =>
      have hlt : (i : Int) < (m : Int) := by omega
      have hwi : IntKind.i64.wrap ((i : Int) + 1) = (i : Int) + 1 := IntWalk.i64_in _ (by have := HFM.out; omega)
      have hwf : IntKind.i64.wrap ((f : Int) + (m : Int) + (i : Int)) = ((f + m + i : Nat) : Int) := by rw [IntWalk.i64_in _ (by have := HFM.out; omega)]; simp
      obtain ⟨d2, q2, hwr⟩ : ∃ d2 q2, DWrite.written di ((f + m + i : Nat) : Int) (zeros 128) = (d2, q2) := ⟨_, _, rfl⟩
      have HWR := Lib.hid hwr
      have HBB := Lib.hid (HDX.out.blk)
      have HWT : Hid (di.waits.length ≤ 1073741823) := Lib.hid (by
        have := zw_waits (f + m) d i
        rw [HZ.out] at this
        have h1 := HW.out
        have h2 := HFM.out
        have h3 : di.waits.length ≤ d.waits.length + i := this
        omega)
      have HZ1 : Hid (zw (f + m) (i + 1) d = (d2, q2)) := Lib.hid (by
        show (if (zw (f + m) i d).2 = 0 then _ else _) = _
        rw [HZ.out, if_pos rfl]
        exact HWR.out)
      clear hwr HZ
      go_wp2
      refine Marks.wp_region_text (J2 wr 5 6 (fun z => DB w g d2 V BB OO z)) (fun _ _ => True) (by kernel_rfl) (by kernel_rfl) (J2.start wr 5 6 _) ?_
      apply Marks.Lex.exact [] _ (by kernel_rfl)
      · intro m' u W hm hcl hJ _
        unfold Marks.one
        go_simp
        exact ⟨trivial, hJ.keep 0 _ (by omega) (by omega), rfl⟩
      simp only [Act.put, List.setIfInBounds_toArray, List.set_cons_zero, List.set_cons_succ, Nat.zero_add]
      apply Marks.Lex.exact [] _ (by kernel_rfl)
      · intro m' u W hm hcl hJ _
        unfold Marks.one
        go_simp
        exact ⟨trivial, hJ.keep 1 _ (by omega) (by omega), rfl⟩
      simp only [Act.put, List.setIfInBounds_toArray, List.set_cons_zero, List.set_cons_succ, Nat.reduceAdd]
      apply Marks.Lex.exact [] _ (by kernel_rfl)
      · intro m' u W hm hcl hJ _
        have d1 : W.cell? ⟨BB, 1, none⟩ = some (.int .i64 ((f : Int) + (m : Int))) := by
          have hb := hJ.blk HBB.out (fun z h => DB.blk h)
          unfold World.cell?
          simp only [hb, HOO.out]
          rfl
        unfold Marks.one
        go_simp
        exact ⟨trivial, hJ.keep 2 _ (by omega) (by omega), rfl⟩
      simp only [Act.put, List.setIfInBounds_toArray, List.set_cons_zero, List.set_cons_succ, Nat.reduceAdd]
      apply Marks.Lex.exact [] _ (by kernel_rfl)
      · intro m' u W hm hcl hJ _
        unfold Marks.one
        go_simp
        exact ⟨trivial, hJ.keep 3 _ (by omega) (by omega), rfl⟩
      simp only [Act.put, List.setIfInBounds_toArray, List.set_cons_zero, List.set_cons_succ, Nat.reduceAdd]
      apply Marks.Lex.exact [] _ (by kernel_rfl)
      · intro m' u W hm hcl hJ _
        unfold Marks.one
        go_simp
        exact ⟨trivial, hJ.keep 4 _ (by omega) (by omega), rfl⟩
      simp only [Act.put, List.setIfInBounds_toArray, List.set_cons_zero, List.set_cons_succ, Nat.reduceAdd]
      apply Marks.Lex.know [] (fun _ _ => True) (by kernel_rfl) (fun _ _ _ _ _ => trivial)
      · intro m' u W hm hcl hJ _
        have hmk := mk128 W
        unfold Marks.one
        go_simp
        exact ⟨trivial, hJ.made _ (by omega) hm ((Below.refl _ W).alloc (Nat.le_refl _) _) ((JG.made_rd W 128 (by decide)).mono fun _ _ => trivial), trivial⟩
      simp only [Act.put, List.setIfInBounds_toArray, List.set_cons_zero, List.set_cons_succ, Nat.reduceAdd]
      apply Marks.Lex.exact [] (.int .i64 q2) (by kernel_rfl)
      · intro m' u W hm hcl hJ _
        unfold Marks.one
        go_simp
        refine (db_write (HDX.out.grew (hJ.bef hm)) _ _ _ (zeros 128) d2 q2 (hJ.row (hcl 5 (by decide)) hm) HWT.out HWR.out).mono ?_
        rintro e w' ⟨rfl, hx⟩
        exact ⟨_, rfl, trivial, hJ.call _ (by omega) (hcl 5 (by decide)) hx, rfl⟩
      simp only [Act.put, List.setIfInBounds_toArray, List.set_cons_zero, List.set_cons_succ, Nat.reduceAdd]
      apply Marks.Lex.exact [] _ (by kernel_rfl)
      · intro m' u W hm hcl hJ _
        unfold Marks.one
        go_simp
        exact ⟨trivial, hJ.keep 7 _ (by omega) (by omega), rfl⟩
      simp only [Act.put, List.setIfInBounds_toArray, List.set_cons_zero, List.set_cons_succ, Nat.reduceAdd]
      refine Marks.Lex.done fun m' u W hm hJ _ => ?_
      have HDY := Lib.hid (hJ.aft (hm 6 (by omega)))
      by_cases h0 : q2 = 0
      · subst h0
        clear HBB
        go_wp2
        go_roundg k
        case measure => omega
        case rel => exact ⟨i + 1, d2, by omega, by first | rfl | simp, HZ1, HDY⟩
      · have hne : (q2 != 0) = true := by simpa using h0
        have hqq : (d2, q2) = (d', q) := by
          have h1 := HE.out
          have h2 := zw_stop (f + m) (i + 1) d (by rw [HZ1.out]; exact h0) (m - (i + 1))
          rw [show i + 1 + (m - (i + 1)) = m by omega, HZ1.out] at h2
          unfold beginP at h1
          rw [h2, if_neg h0] at h1
          exact h1
        injection hqq with h1 h2
        subst h1 h2
        clear h0 HBB
        go_wp2
        go_ret
        exact ⟨rfl, HDY.out.ds⟩

/-- What is refused of a next snapshot. -/
theorem ds_nextno {w y : World} {g : Nat} {d : Pd} {V : List (Value × Cont)} (h : DS w g d V y) (first many : Int) (A : Option Addr) (n c : Nat) (q : Int) (hq : (if srefus d first many = 0 then (if JA.room many < (n : Int) then 13 else 0) else srefus d first many) = q) (h0 : ¬ q = 0) :
    Calls Try.prog 38 #[.pointer (some ⟨g, 0, none⟩), .int .i64 first, .int .i64 many, .slice A n c] y fun e z => e = .returned (.int .i64 q) ∧ DS w g d V z := by
  have HSB := Lib.hid (ds_sbytes h first many A n c _ rfl)
  rw [hq] at HSB
  have hb : (q != 0) = true := by simpa using h0
  have HD := Lib.hid h
  clear h hq h0
  go_enter Try.func38, Try.ntmps38
  go_wp2_with fail
  refine HSB.out.mono ?_
  rintro e w' ⟨rfl, rfl⟩
  go_wp2
  go_ret
  exact ⟨rfl, HD.out⟩
/-- A next snapshot where none counts. -/
theorem ds_nextform {w y : World} {g : Nat} {d : Pd} {V : List (Value × Cont)} (h : DS w g d V y) (f m : Nat) (x0 x1 : Int) (hx0 : x0 = (f : Int)) (hx1 : x1 = (m : Int)) (A : Option Addr) (n c : Nat) (hq : srefus d (f : Int) (m : Int) = 0) (hl : ¬ JA.room (m : Int) < (n : Int)) (hp : pick d.last f m = none) :
    Calls Try.prog 38 #[.pointer (some ⟨g, 0, none⟩), .int .i64 x0, .int .i64 x1, .slice A n c] y fun e z => e = .returned (.int .i64 2) ∧ DS w g d V z := by
  have HLA := Lib.hid (ds_last_none h f m x0 x1 hx0 hx1 hq hp)
  subst hx0 hx1
  have HSB := Lib.hid (ds_sbytes h (f : Int) (m : Int) A n c _ hq)
  rw [if_pos rfl, if_neg hl] at HSB
  clear h hq hl hp
  go_enter Try.func38, Try.ntmps38
  go_wp2_with fail
  refine HSB.out.mono ?_
  rintro e w' ⟨rfl, rfl⟩
  go_wp2_with fail
  refine HLA.out.mono ?_
  rintro e w1 ⟨rfl, hd⟩
  have HD := Lib.hid hd
  clear hd HLA
  go_wp2
  go_ret
  exact ⟨rfl, HD.out⟩
theorem last_nil (w : World) (first many : Int) : Calls Try.prog 42 #[.pointer none, .int .i64 first, .int .i64 many] w fun e w' => e = .returned (.tuple #[.int .i64 0, .int .u64 0, .slice none 0 0, .int .i64 11]) ∧ w = w' := by
  go_enter Try.func42, Try.ntmps42
  go_wp2_with fail
  refine (srefuses_nil w first many).mono ?_
  rintro e w' ⟨rfl, rfl⟩
  go_wp2
  go_returns
  exact ⟨rfl, rfl⟩
def e0 : Pd := DNew.fresh 5
def e1 : Pd := (beginP e0 1 2 [97]).1
def L1 : List Sec := e1.last
def e2 : Pd := (nextP L1 1 2 0 1 [98] (-1)).1
theorem B1 : beginP e0 1 2 [97] = (e1, 0) := by kernel_rfl
theorem B1c : e1 = calmF L1 (-1) := by kernel_rfl
theorem B2 : nextP L1 1 2 0 1 [98] (-1) = (e2, 0) := by kernel_rfl
theorem B3 : pick e2.last 1 2 = some (1, 2, [98]) := by kernel_rfl
theorem Bn : anw L1 1 (2 * 2) = 1 := by kernel_rfl
theorem Bl : L1.length = 5 := by kernel_rfl
theorem P0 : pick e0.last 1 2 = none := by kernel_rfl
theorem Q0 : srefus e0 ((1 : Nat) : Int) ((2 : Nat) : Int) = 0 := by kernel_rfl
theorem Q2 : srefus e2 ((1 : Nat) : Int) ((2 : Nat) : Int) = 0 := by kernel_rfl
theorem Q3 : srefus e2 1 2 = 0 := by kernel_rfl
theorem Q4 : srefus e2 1 3 = 1 := by kernel_rfl
theorem Z1 : arefus (DFlush.flushed (zw (1 + 2) 2 e0).1).1 ((1 : Nat) : Int) ((2 : Nat) : Int) = 0 := by kernel_rfl
theorem Z2 : (DFlush.flushed (zw (1 + 2) 2 e0).1).1.waits.length = 0 := by kernel_rfl
theorem W0 : e0.waits.length = 0 := by kernel_rfl
theorem S1 : ard L1 1 2 = (1, [97], 0) := by kernel_rfl
theorem S2 : ard L1 (1 + 2) 2 = (0, [], 2) := by kernel_rfl
/-- What stands behind a first snapshot. -/
theorem sk_begin (L : List Sec) (f m : Nat) (b : List UInt8) (hev : Ev L) (hlen : f + 2 * m ≤ L.length) (hm : 1 ≤ m) (hlow : ∀ i, i < 2 * m → stampOf (L[f + i]?.getD []) ≤ 1 ∧ againOf (L[f + i]?.getD []) ≤ 1) (hno : ard L (f + m) m = (0, [], 2)) (hb : b.length + 4 ≤ 108 * m) (hb2 : b.length < 4294967296) :
    SK (sets L (ws f (fun _ => 1) m 0 (recB b))) f m 1 0 1 b := by
  obtain ⟨hc, h1, h2⟩ := came_put L f m 1 b (by decide) hev (by omega) hm hb hb2
  refine ⟨hc.ev, by rw [hc.len]; exact hlen, hm, by omega, fun i hi => ?_, by rw [Nat.zero_mul]; exact h1, .inl ?_⟩
  · by_cases hi2 : i < m
    · rw [(h2 i hi2).1, (h2 i hi2).2]; omega
    · rw [hc.out (f + i) (by omega)]; exact hlow i hi
  · rw [show f + (1 - 0) * m = f + m by simp]
    rw [← hno]
    exact ard_congr _ _ _ _ fun i hi => hc.out _ (by omega)
theorem keep_calm (L : List Sec) (f m s : Nat) (b : List UInt8) (hev : Ev L) (hf : f + m ≤ L.length) : keepP (calm L) f s m b = (calm (sets L (ws f (fun _ => s) m 0 (recB b))), 0) := by
  unfold keepP
  rw [gw_none f m s L (recB b) hf]
  simp only [if_true]
  exact flushed_sets L _ (ws_wq L f (fun _ => s) m (recB b) hev hf) (-1) (.inl rfl)
theorem blank_le (n : Nat) (a : Nat) : stampOf ((DNew.blank n)[a]?.getD []) ≤ 1 ∧ againOf ((DNew.blank n)[a]?.getD []) ≤ 1 := by
  have := blank_ne n a
  omega
theorem begin_blank (n f m : Nat) (b : List UInt8) (hn : f + 2 * m ≤ n) (hm : 1 ≤ m) (hz : zw (f + m) m (calm (DNew.blank n)) = ((zw (f + m) m (calm (DNew.blank n))).1, 0)) (hfl : DFlush.flushed (zw (f + m) m (calm (DNew.blank n))).1 = (calm (DNew.blank n), 0)) (hno : ard (DNew.blank n) (f + m) m = (0, [], 2)) (hb : b.length + 4 ≤ 108 * m) (hb2 : b.length < 4294967296) :
    beginP (calm (DNew.blank n)) f m b = (calm (sets (DNew.blank n) (ws f (fun _ => 1) m 0 (recB b))), 0) ∧ SK (sets (DNew.blank n) (ws f (fun _ => 1) m 0 (recB b))) f m 1 0 1 b := by
  refine ⟨?_, sk_begin _ f m b (Ev.blank n) (by rw [DNew.blank_length]; exact hn) hm (fun i _ => blank_le n (f + i)) hno hb hb2⟩
  unfold beginP
  rw [hz, if_pos rfl, hfl, if_pos rfl]
  exact keep_calm _ f m 1 b (Ev.blank n) (by rw [DNew.blank_length]; omega)
theorem zfive : zw (1 + 2) 2 (calm (DNew.blank 5)) = ((zw (1 + 2) 2 (calm (DNew.blank 5))).1, 0) := by kernel_rfl
theorem ffive : DFlush.flushed (zw (1 + 2) 2 (calm (DNew.blank 5))).1 = (calm (DNew.blank 5), 0) := by kernel_rfl
theorem afive : ard (DNew.blank 5) (1 + 2) 2 = (0, [], 2) := by kernel_rfl
theorem K1 : SK L1 1 2 1 0 1 [97] := by
  have h := begin_blank 5 1 2 [97] (by omega) (by omega) zfive ffive afive (by decide) (by decide)
  have e : L1 = sets (DNew.blank 5) (ws 1 (fun _ => 1) 2 0 (recB [97])) := by
    have h1 := B1
    rw [show e0 = calm (DNew.blank 5) from rfl, h.1] at h1
    unfold L1
    injection h1 with h1 _
    rw [← h1]
    rfl
  rw [e]
  exact h.2
theorem mk213 (u : World) : (Instr.makeSlice 23 (.int .i64 213) (.int .i64 213)).run Try.prog u = .ok (.slice (some ⟨u.heap.size, 0, none⟩) 213 213) (u.alloc (.cells (madeCells #[.int .u8 0] 213) 5)) := by
  obtain ⟨i0, hi, hx⟩ := Option.map_eq_some_iff.1 Puts.info5
  simp only [Prod.mk.injEq] at hx
  obtain ⟨hz0, hz1, hz2⟩ := hx
  have h := run_make (P := Try.prog) u 23 5 i0 (.int .u8 0) Try.underlying23 hi hz0 .i64 .i64 213 213 (by omega) (Int.le_refl _) (by rw [hz2]; omega) (by omega)
  simpa [hz1, Value.cells] using h
set_option maxHeartbeats 4000000 in
theorem alive_any (w : World) : Calls Try.prog 44 #[] w fun e w' => e = .returned (.bool true) ∧ Grew w w' := by
  go_enter Try.func44, Try.ntmps44
  go_wp2_with fail
  refine (ds_new w 5 5 rfl (by omega) (by omega)).mono ?_
  rintro e w1 ⟨g, rfl, hd⟩
  have HD : Hid (DS w g e0 [] w1) := Lib.hid hd
  clear hd
  go_wp2_with fail
  refine (ds_nextform HD.out 1 2 1 2 rfl rfl none 0 0 Q0 (by decide) P0).mono ?_
  rintro e w2 ⟨rfl, hd⟩
  have HD2 := Lib.hid hd
  clear hd HD
  have kc := fun (w : World) (C : Array Value) (n c : Nat) => Lib.run_convert_bytes_const (P := Try.prog) w 23 5 C n c Try.underlying23 Try.underlying5
  go_wp2_with fail
  have hg1 : Grew w2 (w2.alloc (.cells #[.int .u8 97] 5 (1, 2))) := (Below.refl _ w2).alloc (Nat.le_refl _) _
  refine (ds_begin (HD2.out.add hg1 ((JG.lit_rd w2 [97] (1, 2) (by decide)).mono fun b hb => by omega)) 1 2 1 2 rfl rfl Q0 _ [97] (List.mem_cons_self ..) (by decide) (by rw [W0]; omega) (fun _ _ => ⟨Z1, by rw [Z2]; omega⟩) e1 0 B1).mono ?_
  rintro e w3 ⟨rfl, hd⟩
  rw [B1c] at hd
  have HD3 := Lib.hid hd
  clear hd HD2 hg1
  go_wp2_with fail
  have hg2 : Grew w3 (w3.alloc (.cells #[.int .u8 98] 5 (1, 2))) := (Below.refl _ w3).alloc (Nat.le_refl _) _
  refine (ds_next (HD3.out.add hg2 ((JG.lit_rd w3 [98] (1, 2) (by decide)).mono fun b hb => by omega)) 1 2 1 0 1 1 2 rfl rfl [97] K1 Bn (by rw [Bl]; omega) (by decide) _ [98] (List.mem_cons_self ..) (by decide) e2 0 B2).mono ?_
  rintro e w4 ⟨rfl, hd⟩
  have HD4 := Lib.hid hd
  clear hd HD3 hg2 kc
  go_wp2_with fail
  refine (ds_last_some HD4.out 1 2 1 2 rfl rfl Q2 1 2 [98] B3).mono ?_
  rintro e w5 ⟨v5, rfl, hd⟩
  obtain ⟨A5, c5, rfl, _⟩ := id (hd.rd (List.mem_cons_self ..))
  have HD5 := Lib.hid hd
  clear hd HD4
  go_wp2_with fail
  refine (last_nil w5 1 2).mono ?_
  rintro e w' ⟨rfl, rfl⟩
  have ks := Nums.conv22 (HD5.out.rd (v := .slice A5 1 c5) (l := [98]) (by simp))
  go_wp2_with fail
  refine (ds_nextno HD5.out 1 3 none 0 0 1 (by rw [Q4]; rfl) (by omega)).mono ?_
  rintro e w6 ⟨rfl, hd⟩
  have HD6 := Lib.hid hd
  clear hd HD5 ks
  have kmk := mk213
  go_wp2_with fail
  refine (ds_nextno (HD6.out.grew ((Below.refl _ w6).alloc (Nat.le_refl _) _)) 1 2 _ 213 213 13 (by rw [Q3]; rfl) (by omega)).mono ?_
  rintro e w7 ⟨rfl, hd⟩
  have HD7 := Lib.hid hd
  clear hd HD6 kmk
  go_wp2
  go_returns
  exact ⟨rfl, HD7.out.gr⟩
end Go.Proofs.Ytbnicphegbdfnaa.SB
