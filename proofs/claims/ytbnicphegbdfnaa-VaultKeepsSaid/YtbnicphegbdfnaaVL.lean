/-
  A journal of places of two sectors, wherever it lies, over older ones: appended to till the power goes, and what a crash leaves.
  Conditions: those that each lemma names.
-/
import Derived.Test.YtbnicphegbdfnaaVE
import Derived.Test.YtbnicphegbdfnaaDS
import Derived.Test.YtbnicphegbdfnaaJX
import Derived.Test.YtbnicphegbdfnaaJOpens
import Derived.Deep.DeepCutAuto
namespace Go.Proofs.Ytbnicphegbdfnaa.VI
set_option maxRecDepth 100000
open Go Go.RowKit Go.Proofs.Ytbnicphegbdfnaa Go.Proofs.Ytbnicphegbdfnaa.Facts Go.Proofs.Ytbnicphegbdfnaa.Bytes Go.Proofs.Ytbnicphegbdfnaa.DKeep Go.Proofs.Ytbnicphegbdfnaa.DSmall Go.Proofs.Ytbnicphegbdfnaa.Puts Go.Proofs.Ytbnicphegbdfnaa.Scan Go.Proofs.Ytbnicphegbdfnaa.SPure Go.Proofs.Ytbnicphegbdfnaa.JA Go.Proofs.Ytbnicphegbdfnaa.JB Go.Proofs.Ytbnicphegbdfnaa.JC Go.Proofs.Ytbnicphegbdfnaa.JD Go.Proofs.Ytbnicphegbdfnaa.JE Go.Proofs.Ytbnicphegbdfnaa.JF Go.Proofs.Ytbnicphegbdfnaa.JH Go.Proofs.Ytbnicphegbdfnaa.JQ Go.Proofs.Ytbnicphegbdfnaa.AP Go.Proofs.Ytbnicphegbdfnaa.AQ Go.Proofs.Ytbnicphegbdfnaa.AW Go.Proofs.Ytbnicphegbdfnaa.AV Go.Proofs.Ytbnicphegbdfnaa.AU
theorem gw_shift (first c : Nat) (st : Nat → Nat) : ∀ (m a : Nat) (l : List UInt8) (d : Pd), gw first st m (c + a) l d = gw (first + c) (fun i => st (c + i)) m a l d
  | 0, a, l, d => rfl
  | m + 1, a, l, d => by
    rw [gw, gw]
    rw [show first + (c + a) = first + c + a by omega, show c + a + 1 = c + (a + 1) by omega]
    simp only [gw_shift first c st m (a + 1)]
/-- The journal says bs; beyond that only lesser numbers stand. -/
structure JG (F K base : Nat) (L : List Sec) (bs : List (List UInt8)) : Prop where
  ev : Ev L
  room : F + 2 * K ≤ L.length
  few : bs.length ≤ K
  low : 1 ≤ base
  high : base + 2 * K ≤ 4611686018427387904
  fit : ∀ (p : Nat) (b : List UInt8), bs[p]? = some b → b.length ≤ 212
  at0 : ∀ (p : Nat) (b : List UInt8), bs[p]? = some b → L[F + 2 * p]? = some (s0 base p b)
  at1 : ∀ (p : Nat) (b : List UInt8), bs[p]? = some b → L[F + 2 * p + 1]? = some (s1 base p b)
  old : ∀ a, 2 * bs.length ≤ a → a < 2 * K → stampOf (L[F + a]?.getD []) < base ∧ againOf (L[F + a]?.getD []) < base
/-- The journal says bs; no number beyond its own stands. -/
structure JO (F K base : Nat) (L : List Sec) (bs : List (List UInt8)) : Prop where
  ev : Ev L
  room : F + 2 * K ≤ L.length
  few : bs.length ≤ K
  fit : ∀ (p : Nat) (b : List UInt8), bs[p]? = some b → b.length ≤ 212
  says : ∀ (p : Nat) (b : List UInt8), bs[p]? = some b → loadsAt L F base 2 (p * 2) [] = some (recB b ++ zeros (216 - (recB b).length))
  stop : bs.length < K → loadsAt L F base 2 (bs.length * 2) [] = none
  high : ∀ a, a < 2 * K → stampOf (L[F + a]?.getD []) < base + 2 * K ∧ againOf (L[F + a]?.getD []) < base + 2 * K
theorem o0 (base p K : Nat) (b : List UInt8) (h1 : 1 ≤ base) (h2 : base + 2 * K ≤ 4611686018427387904) (hp : p < K) : opened (s0 base p b) = (base + 2 * p, (recB b).take 108 ++ zeros (108 - ((recB b).take 108).length), 0) := opened_sealed _ _ (by simp; omega) (by rw [may_iff]; omega)
theorem o1 (base p K : Nat) (b : List UInt8) (h1 : 1 ≤ base) (h2 : base + 2 * K ≤ 4611686018427387904) (hp : p < K) : opened (s1 base p b) = (base + 2 * p + 1, ((recB b).drop 108).take 108 ++ zeros (108 - (((recB b).drop 108).take 108).length), 0) := opened_sealed _ _ (by simp; omega) (by rw [may_iff]; omega)
theorem n0 (base p K : Nat) (b : List UInt8) (h1 : 1 ≤ base) (h2 : base + 2 * K ≤ 4611686018427387904) (hp : p < K) : stampOf (s0 base p b) = base + 2 * p ∧ againOf (s0 base p b) = base + 2 * p := by
  have hm : may (base + 2 * p) = true := (may_iff _).2 (by omega)
  have := stamp_sealed (base + 2 * p) (recB b) 0 hm
  rwa [Nat.mul_zero, List.drop_zero] at this
theorem n1 (base p K : Nat) (b : List UInt8) (h1 : 1 ≤ base) (h2 : base + 2 * K ≤ 4611686018427387904) (hp : p < K) : stampOf (s1 base p b) = base + 2 * p + 1 ∧ againOf (s1 base p b) = base + 2 * p + 1 := by
  have hm : may (base + 2 * p + 1) = true := (may_iff _).2 (by omega)
  have := stamp_sealed (base + 2 * p + 1) (recB b) 1 hm
  rwa [Nat.mul_one] at this
section
variable {F K base : Nat} {L : List Sec} {bs : List (List UInt8)}
theorem JG.loads (h : JG F K base L bs) (p : Nat) (b : List UInt8) (hp : bs[p]? = some b) : loadsAt L F base 2 (p * 2) [] = some (recB b ++ zeros (216 - (recB b).length)) := by
  have hpk : p < K := by have := (List.getElem?_eq_some_iff.1 hp).1; have := h.few; omega
  have q0 := h.at0 p b hp
  have q1 := h.at1 p b hp
  have e0 := o0 base p K b h.low h.high hpk
  have e1 := o1 base p K b h.low h.high hpk
  rw [loadsAt, loadsAt, loadsAt]
  rw [show F + p * 2 = F + 2 * p by omega, show F + (p * 2 + 1) = F + 2 * p + 1 by omega, q0, q1]
  simp only [Option.getD_some, e0, e1]
  rw [if_pos ⟨trivial, by omega⟩, if_pos ⟨trivial, by omega⟩, List.nil_append]
  rcases recB_take b with e | e
  · rw [e]
  · have := h.fit p b hp; omega
theorem JG.nums (h : JG F K base L bs) (a : Nat) (ha : a < 2 * K) : stampOf (L[F + a]?.getD []) < base + 2 * K ∧ againOf (L[F + a]?.getD []) < base + 2 * K := by
  by_cases h1 : 2 * bs.length ≤ a
  · have := h.old a h1 ha; omega
  · obtain ⟨b, hb⟩ : ∃ b, bs[a / 2]? = some b := ⟨_, List.getElem?_eq_getElem (by omega)⟩
    have hpk : a / 2 < K := by have := h.few; omega
    rcases Nat.mod_two_eq_zero_or_one a with e | e
    · have := h.at0 (a / 2) b hb
      rw [show F + 2 * (a / 2) = F + a by omega] at this
      have hn := n0 base _ K b h.low h.high hpk
      rw [this, Option.getD_some, hn.1, hn.2]
      omega
    · have := h.at1 (a / 2) b hb
      rw [show F + 2 * (a / 2) + 1 = F + a by omega] at this
      have hn := n1 base _ K b h.low h.high hpk
      rw [this, Option.getD_some, hn.1, hn.2]
      omega
theorem lone (l : Sec) (n : Nat) (h : stampOf l < n ∨ stampOf l ≠ againOf l) : ¬ ((opened l).2.2 = 0 ∧ (opened l).1 = n) := fun hh => by
  have := opened_ok hh.1
  omega
theorem JO.of (h : JG F K base L bs) : JO F K base L bs where
  ev := h.ev
  room := h.room
  few := h.few
  fit := h.fit
  says := h.loads
  stop := fun hk => by
    rw [loadsAt]
    exact if_neg (lone _ _ (.inl (by have := (h.old (bs.length * 2) (by omega) (by omega)).1; omega)))
  high := h.nums
theorem JO.scan (h : JO F K base L bs) : ∀ (m p : Nat), m + p = K → p ≤ bs.length → jscan L F base 2 m (p * 2) (bs.take p) = bs
  | 0, p, h1, h2 => by
    rw [jscan]
    have := h.few
    exact List.take_of_length_le (by omega)
  | m + 1, p, h1, h2 => by
    rw [jscan]
    by_cases hp : p < bs.length
    · obtain ⟨b, hb⟩ : ∃ b, bs[p]? = some b := ⟨_, List.getElem?_eq_getElem hp⟩
      rw [h.says p b hb]
      simp only [told_rec b _ (h.fit p b hb)]
      rw [if_pos trivial, show p * 2 + 2 = (p + 1) * 2 by omega, show bs.take p ++ [b] = bs.take (p + 1) by rw [List.take_add_one, hb]; rfl]
      exact h.scan m (p + 1) (by omega) (by omega)
    · have hpe : p = bs.length := by omega
      have hn := h.stop (by omega)
      rw [← hpe] at hn
      rw [hn]
      exact List.take_of_length_le (by omega)
theorem JO.said (h : JO F K base L bs) : jscan L F base 2 K 0 [] = bs := h.scan K 0 (by omega) (Nat.zero_le _)
/-- With the next base nothing is said. -/
theorem JO.next (h : JO F K base L bs) (h1 : 1 ≤ base) (h2 : base + 4 * K ≤ 4611686018427387904) : JG F K (base + 2 * K) L [] where
  ev := h.ev
  room := h.room
  few := Nat.zero_le _
  low := by omega
  high := by omega
  fit := fun p b h => by cases h
  at0 := fun p b h => by cases h
  at1 := fun p b h => by cases h
  old := fun a _ ha => h.high a ha
/-- What does not touch the journal's sectors. -/
theorem JO.congr {L' : List Sec} (h : JO F K base L bs) (hev : Ev L') (hl : L'.length = L.length) (he : ∀ a, F ≤ a → a < F + 2 * K → L'[a]? = L[a]?) : JO F K base L' bs := by
  have el : ∀ p, p < K → loadsAt L' F base 2 (p * 2) [] = loadsAt L F base 2 (p * 2) [] := fun p hp => by
    rw [loadsAt, loadsAt, loadsAt, loadsAt, loadsAt, loadsAt, he _ (by omega) (by omega), he _ (by omega) (by omega)]
  refine ⟨hev, by rw [hl]; exact h.room, h.few, h.fit, fun p b hp => ?_, fun hk => ?_, fun a ha => ?_⟩
  · rw [el p (by have := (List.getElem?_eq_some_iff.1 hp).1; have := h.few; omega)]; exact h.says p b hp
  · rw [el _ hk]; exact h.stop hk
  · rw [he (F + a) (by omega) (by omega)]; exact h.high a ha
theorem JG.congr {L' : List Sec} (h : JG F K base L bs) (hev : Ev L') (hl : L'.length = L.length) (he : ∀ a, F ≤ a → a < F + 2 * K → L'[a]? = L[a]?) : JG F K base L' bs where
  ev := hev
  room := by rw [hl]; exact h.room
  few := h.few
  low := h.low
  high := h.high
  fit := h.fit
  at0 := fun p b hp => by rw [he _ (by omega) (by have := (List.getElem?_eq_some_iff.1 hp).1; have := h.few; omega)]; exact h.at0 p b hp
  at1 := fun p b hp => by rw [he _ (by omega) (by have := (List.getElem?_eq_some_iff.1 hp).1; have := h.few; omega)]; exact h.at1 p b hp
  old := fun a h1 h2 => by rw [he _ (by omega) (by omega)]; exact h.old a h1 h2
/-- A record is put. -/
theorem JG.put {L' : List Sec} (h : JG F K base L bs) (b : List UInt8) (hb : b.length ≤ 212) (hm : bs.length < K) (hev : Ev L') (hl : L'.length = L.length) (h0 : L'[F + 2 * bs.length]? = some (s0 base bs.length b)) (h1 : L'[F + 2 * bs.length + 1]? = some (s1 base bs.length b)) (he : ∀ a, a ≠ F + 2 * bs.length → a ≠ F + 2 * bs.length + 1 → L'[a]? = L[a]?) : JG F K base L' (bs ++ [b]) := by
  have hc : ∀ (p : Nat) (c : List UInt8), (bs ++ [b])[p]? = some c → (p < bs.length ∧ bs[p]? = some c) ∨ (p = bs.length ∧ c = b) := fun p c hp => by
    by_cases hi : p < bs.length
    · rw [List.getElem?_append_left hi] at hp
      exact .inl ⟨hi, hp⟩
    · rw [List.getElem?_append_right (by omega)] at hp
      rcases Nat.eq_zero_or_pos (p - bs.length) with e | e
      · rw [e] at hp
        injection hp with hp
        exact .inr ⟨by omega, hp.symm⟩
      · rw [List.getElem?_eq_none (by simp; omega)] at hp; cases hp
  refine ⟨hev, by rw [hl]; exact h.room, by simp; omega, h.low, h.high, fun p c hp => ?_, fun p c hp => ?_, fun p c hp => ?_, fun a h2 h3 => ?_⟩
  · rcases hc p c hp with ⟨_, q⟩ | ⟨_, q⟩
    · exact h.fit p c q
    · rw [q]; exact hb
  · rcases hc p c hp with ⟨q1, q⟩ | ⟨q1, q⟩
    · rw [he _ (by omega) (by omega)]; exact h.at0 p c q
    · rw [q1, q]; exact h0
  · rcases hc p c hp with ⟨q1, q⟩ | ⟨q1, q⟩
    · rw [he _ (by omega) (by omega)]; exact h.at1 p c q
    · rw [q1, q]; exact h1
  · rw [List.length_append, List.length_singleton] at h2
    rw [he _ (by omega) (by omega)]
    exact h.old a (by omega) h3
end
/-- What a crash leaves of a record under way. -/
theorem lost {F K base : Nat} {L L' : List Sec} {bs : List (List UInt8)} (h : JG F K base L bs) (b : List UInt8) (hb : b.length ≤ 212) (hm : bs.length < K) (l : List (Nat × Sec)) (hl : ∀ p ∈ l, p ∈ ws (F + 2 * bs.length) (fun i => base + (2 * bs.length + i)) 2 0 (recB b)) (hc : Cut L L' l) : JO F K base L' bs ∨ JO F K base L' (bs ++ [b]) := by
  have hlo := h.low
  have hhi := h.high
  have hroom := h.room
  have hev : Ev L' := fun a s hs => by
    have ha : a < L.length := by rw [← hc.1]; exact (List.getElem?_eq_some_iff.1 hs).1
    obtain ⟨z, hz⟩ : ∃ z, L[a]? = some z := ⟨_, List.getElem?_eq_getElem ha⟩
    rcases hc.2 a z hz with q | ⟨s', k, hk, hin, q⟩
    · rw [q] at hs; injection hs with hs; rw [← hs]; exact h.ev a z hz
    · rw [q] at hs
      injection hs with hs
      obtain ⟨i, hi, _, e⟩ := ws_mem (hl _ hin)
      rw [← hs]
      exact DOver.cutw_length _ _ _ (h.ev a z hz) (by rw [e]; exact sealed_length _ _ (by simp; omega)) hk
  have hout : ∀ a, a ≠ F + 2 * bs.length → a ≠ F + 2 * bs.length + 1 → L'[a]? = L[a]? := fun a h1 h2 => by
    cases hz : L[a]? with
    | none => exact List.getElem?_eq_none (by rw [hc.1]; exact List.getElem?_eq_none_iff.1 hz)
    | some z =>
      rcases hc.2 a z hz with q | ⟨s', k, hk, hin, q⟩
      · exact q
      · obtain ⟨i, hi, e, _⟩ := ws_mem (hl _ hin)
        omega
  have one : ∀ i, i < 2 → ∃ P, L'[F + 2 * bs.length + i]? = some P ∧ (P = sealed (base + (2 * bs.length + i)) (((recB b).drop (108 * i)).take 108) ∨ (¬ ((opened P).2.2 = 0 ∧ (opened P).1 = base + (2 * bs.length + i)) ∧ stampOf P < base + 2 * K ∧ againOf P < base + 2 * K)) := fun i hi => by
    have hmay : may (base + (2 * bs.length + i)) = true := (may_iff _).2 (by omega)
    obtain ⟨z, hz⟩ : ∃ z, L[F + 2 * bs.length + i]? = some z := ⟨_, List.getElem?_eq_getElem (by omega)⟩
    have ho := h.old (2 * bs.length + i) (by omega) (by omega)
    rw [show F + (2 * bs.length + i) = F + 2 * bs.length + i by omega, hz, Option.getD_some] at ho
    rcases hc.2 _ z hz with q | ⟨s', k, hk, hin, q⟩
    · exact ⟨z, q, .inr ⟨lone _ _ (.inl (by omega)), by omega, by omega⟩⟩
    · obtain ⟨j, hj, e1, e2⟩ := ws_mem (hl _ hin)
      have hij : j = i := by omega
      subst hij
      rcases cut_one z _ (((recB b).drop (108 * j)).take 108) k (h.ev _ z hz) (by simp; omega) hmay hk with e | e | ⟨e, e'⟩
      · rw [e2] at q
        rw [e] at q
        exact ⟨z, q, .inr ⟨lone _ _ (.inl (by omega)), by omega, by omega⟩⟩
      · rw [e2] at q
        rw [e] at q
        exact ⟨_, q, .inl rfl⟩
      · rw [e2] at q
        exact ⟨_, q, .inr ⟨lone _ _ (.inr (by omega)), by omega, by omega⟩⟩
  obtain ⟨P0, g0, t0⟩ := one 0 (by omega)
  obtain ⟨P1, g1, t1⟩ := one 1 (by omega)
  rw [Nat.add_zero] at g0
  have es0 : sealed (base + (2 * bs.length + 0)) (((recB b).drop (108 * 0)).take 108) = s0 base bs.length b := by unfold s0; rw [Nat.mul_zero, List.drop_zero, Nat.add_zero]
  have es1 : sealed (base + (2 * bs.length + 1)) (((recB b).drop (108 * 1)).take 108) = s1 base bs.length b := by unfold s1; rw [Nat.mul_one, Nat.add_assoc]
  rw [es0] at t0
  rw [es1] at t1
  by_cases hw : P0 = s0 base bs.length b ∧ P1 = s1 base bs.length b
  · right
    rw [hw.1] at g0
    rw [hw.2] at g1
    exact JO.of (h.put b hb hm hev hc.1 g0 g1 hout)
  · left
    refine ⟨hev, by rw [hc.1]; exact hroom, h.few, h.fit, fun p c hp => ?_, fun _ => ?_, fun a ha => ?_⟩
    · have hpl := (List.getElem?_eq_some_iff.1 hp).1
      have hq := h.loads p c hp
      rw [loadsAt, loadsAt, loadsAt] at hq ⊢
      rwa [hout _ (by omega) (by omega), hout _ (by omega) (by omega)]
    · rw [loadsAt, loadsAt]
      rw [show F + bs.length * 2 = F + 2 * bs.length by omega, show F + (bs.length * 2 + 1) = F + 2 * bs.length + 1 by omega, g0, g1]
      simp only [Option.getD_some]
      rcases t0 with e0 | ⟨e0, _⟩
      · rcases t1 with e1 | ⟨e1, _⟩
        · exact absurd ⟨e0, e1⟩ hw
        · split
          · exact if_neg fun hh => e1 ⟨hh.1, by omega⟩
          · rfl
      · exact if_neg fun hh => e0 ⟨hh.1, by omega⟩
    · by_cases e0 : a = 2 * bs.length
      · rw [e0, g0, Option.getD_some]
        rcases t0 with q | ⟨_, q⟩
        · have hn := n0 base _ K b hlo hhi hm
          rw [q, hn.1, hn.2]; omega
        · exact q
      · by_cases e1 : a = 2 * bs.length + 1
        · rw [show F + a = F + 2 * bs.length + 1 by omega, g1, Option.getD_some]
          rcases t1 with q | ⟨_, q⟩
          · have hn := n1 base _ K b hlo hhi hm
            rw [q, hn.1, hn.2]; omega
          · exact q
        · rw [hout _ (by omega) (by omega)]
          exact h.nums a ha
/-- A record is appended, with whatever fuse. -/
theorem japp_any {F K base : Nat} {L : List Sec} {bs : List (List UInt8)} (h : JG F K base L bs) (b : List UInt8) (hb : b.length ≤ 212) (hm : bs.length < K) (f : Int) (hf : -1 ≤ f) :
    ((f = -1 ∨ 3 ≤ f) ∧ ∃ L', japp ⟨F, K, 2, bs.length, base⟩ (calmF L f) b = (⟨F, K, 2, bs.length + 1, base⟩, calmF L' (if f = -1 then -1 else f - 3), 0) ∧ JG F K base L' (bs ++ [b]) ∧ L'.length = L.length ∧ ∀ a, a < F → L'[a]? = L[a]?) ∨
    (0 ≤ f ∧ f < 3 ∧ ∃ d', japp ⟨F, K, 2, bs.length, base⟩ (calmF L f) b = (⟨F, K, 2, bs.length, base⟩, d', 15) ∧ d'.waits.length ≤ 2 ∧ ∀ keep, ∃ L', DFlush.crashed d' keep = calm L' ∧ (JO F K base L' bs ∨ JO F K base L' (bs ++ [b])) ∧ L'.length = L.length ∧ ∀ a, a < F → L'[a]? = L[a]?) := by
  have hroom := h.room
  have hw := ws_wq L (F + 2 * bs.length) (fun i => base + (2 * bs.length + i)) 2 (recB b) h.ev (by omega)
  have lst : ∀ (k : Nat) (ff : Int) (o : Bool) (keep : List UInt8), ∃ L', DFlush.crashed ⟨L, sets L ((ws (F + 2 * bs.length) (fun i => base + (2 * bs.length + i)) 2 0 (recB b)).take k), (ws (F + 2 * bs.length) (fun i => base + (2 * bs.length + i)) 2 0 (recB b)).take k, ff, o⟩ keep = calm L' ∧ (JO F K base L' bs ∨ JO F K base L' (bs ++ [b])) ∧ L'.length = L.length ∧ ∀ a, a < F → L'[a]? = L[a]? := fun k ff o keep => by
    have hw2 : Wq L ((ws (F + 2 * bs.length) (fun i => base + (2 * bs.length + i)) 2 0 (recB b)).take k) := ⟨hw.ev, by
      rw [List.map_take]
      exact hw.nd.sublist (List.take_sublist _ _), fun p hp => hw.fit p (List.mem_of_mem_take hp)⟩
    obtain ⟨L', hcr, hcut⟩ := crashed_cut L _ hw2 ff o keep
    refine ⟨L', hcr, lost h b hb hm _ (fun p hp => List.mem_of_mem_take hp) hcut, hcut.1, fun a ha => ?_⟩
    obtain ⟨z, hz⟩ : ∃ z, L[a]? = some z := ⟨_, List.getElem?_eq_getElem (by omega)⟩
    rcases hcut.2 a z hz with q | ⟨s', k', hk, hin, q⟩
    · rw [q, hz]
    · obtain ⟨i, hi, e, _⟩ := ws_mem (List.mem_of_mem_take hin)
      omega
  have eg : ∀ d : Pd, jw F base 2 (bs.length * 2) (recB b) d = gw (F + 2 * bs.length) (fun i => base + (2 * bs.length + i)) 2 0 (recB b) d := fun d => by
    rw [jw_gw, show bs.length * 2 = 2 * bs.length + 0 by omega, gw_shift]
  unfold japp
  simp only
  rw [if_neg (by omega), if_neg (by omega)]
  simp only [eg]
  unfold calmF
  rcases gw_any (F + 2 * bs.length) (fun i => base + (2 * bs.length + i)) L 2 0 (recB b) L [] f hf (by omega) with ⟨h1, h2⟩ | ⟨h1, h2, k, h3, h4⟩
  · simp only [h2]
    rw [if_pos trivial, List.nil_append]
    by_cases h0 : f = 2
    · right
      have e0 : (if f = -1 then (-1 : Int) else f - ((2 : Nat) : Int)) = 0 := by rw [if_neg (by omega)]; omega
      rw [e0, flushed_dead]
      have hl := lst 2 0 true
      have ht : (ws (F + 2 * bs.length) (fun i => base + (2 * bs.length + i)) 2 0 (recB b)).take 2 = ws (F + 2 * bs.length) (fun i => base + (2 * bs.length + i)) 2 0 (recB b) := List.take_of_length_le (by rw [ws_length]; omega)
      rw [ht] at hl
      exact ⟨by omega, by omega, _, rfl, (by show (ws _ _ 2 0 (recB b)).length ≤ 2; rw [ws_length]; omega), hl⟩
    · left
      rw [flushed_sets L _ hw _ (by split <;> omega)]
      have hat := sets_at L (F + 2 * bs.length) (fun i => base + (2 * bs.length + i)) 2 (recB b) (by omega)
      have hoff := sets_off L (F + 2 * bs.length) (fun i => base + (2 * bs.length + i)) 2 (recB b)
      have g0 := hat 0 (by omega)
      have g1 := hat 1 (by omega)
      rw [Nat.add_zero, Nat.mul_zero, List.drop_zero, Nat.add_zero] at g0
      refine ⟨by omega, sets L (ws (F + 2 * bs.length) (fun i => base + (2 * bs.length + i)) 2 0 (recB b)), ?_, h.put b hb hm (h.ev.sets _ _ _ _ (by omega)) (sets_length _ _) g0 (by rw [g1]; unfold s1; rw [Nat.mul_one, Nat.add_assoc]) (fun a h1 h2 => hoff a (by omega)), sets_length _ _, fun a ha => hoff a (by omega)⟩
      rw [if_pos rfl]
      unfold calmF
      congr 3
      by_cases h5 : f = -1
      · simp [h5]
      · simp only [if_neg h5]
        rw [if_neg (by omega)]
        rw [show f - ((2 : Nat) : Int) - 1 = f - 3 by omega]
  · right
    simp only [h4]
    rw [if_neg (show ¬ (15 : Int) = 0 by decide), List.nil_append]
    exact ⟨h1, by omega, _, rfl, (by show ((ws _ _ 2 0 (recB b)).take k).length ≤ 2; rw [List.length_take, ws_length]; omega), lst k 0 true⟩
theorem japp_full {F K base : Nat} (d : Pd) (b : List UInt8) (hb : b.length ≤ 212) : japp ⟨F, K, 2, K, base⟩ d b = (⟨F, K, 2, K, base⟩, d, 8) := by
  unfold japp
  rw [if_neg (by show ¬ 108 * 2 - 4 < b.length; omega)]
  exact if_pos rfl
end Go.Proofs.Ytbnicphegbdfnaa.VI
namespace Go.Proofs.Ytbnicphegbdfnaa.VJ
set_option maxRecDepth 100000
open Go Go.RowKit Go.Proofs.Ytbnicphegbdfnaa Go.Proofs.Ytbnicphegbdfnaa.Facts Go.Proofs.Ytbnicphegbdfnaa.Bytes Go.Proofs.Ytbnicphegbdfnaa.DKeep Go.Proofs.Ytbnicphegbdfnaa.DSmall Go.Proofs.Ytbnicphegbdfnaa.Puts Go.Proofs.Ytbnicphegbdfnaa.Scan Go.Proofs.Ytbnicphegbdfnaa.SPure Go.Proofs.Ytbnicphegbdfnaa.JA Go.Proofs.Ytbnicphegbdfnaa.JB Go.Proofs.Ytbnicphegbdfnaa.JD Go.Proofs.Ytbnicphegbdfnaa.JE Go.Proofs.Ytbnicphegbdfnaa.JF Go.Proofs.Ytbnicphegbdfnaa.JH Go.Proofs.Ytbnicphegbdfnaa.JQ Go.Proofs.Ytbnicphegbdfnaa.AP Go.Proofs.Ytbnicphegbdfnaa.AQ Go.Proofs.Ytbnicphegbdfnaa.AA Go.Proofs.Ytbnicphegbdfnaa.AW Go.Proofs.Ytbnicphegbdfnaa.AV Go.Proofs.Ytbnicphegbdfnaa.AC Go.Proofs.Ytbnicphegbdfnaa.DS Go.Proofs.Ytbnicphegbdfnaa.AU Go.Proofs.Ytbnicphegbdfnaa.SP Go.Proofs.Ytbnicphegbdfnaa.SN Go.Proofs.Ytbnicphegbdfnaa.SB Go.Proofs.Ytbnicphegbdfnaa.SC Go.Proofs.Ytbnicphegbdfnaa.VA Go.Proofs.Ytbnicphegbdfnaa.VB Go.Proofs.Ytbnicphegbdfnaa.VC Go.Proofs.Ytbnicphegbdfnaa.VD Go.Proofs.Ytbnicphegbdfnaa.VE Go.Proofs.Ytbnicphegbdfnaa.VF Go.Proofs.Ytbnicphegbdfnaa.VG Go.Proofs.Ytbnicphegbdfnaa.VH Go.Proofs.Ytbnicphegbdfnaa.VI

/-- What a disk of ten sectors keeps: a state and records. -/
structure LV (L : List Sec) (n base : Nat) (st : List UInt8) (recs : List (List UInt8)) : Prop where
  sk : ∃ c s, SK L 0 2 n c s (keptB base st)
  jo : JO 4 3 base L recs
  len : L.length = 10
  low : 1 ≤ base
/-- The same behind a checkpoint: records may be committed. -/
structure RV (L : List Sec) (n base : Nat) (st : List UInt8) (recs : List (List UInt8)) : Prop where
  sk : ∃ c s, SK L 0 2 n c s (keptB base st)
  jg : JG 4 3 base L recs
  len : L.length = 10
theorem RV.lv {L : List Sec} {n base : Nat} {st : List UInt8} {recs : List (List UInt8)} (h : RV L n base st recs) : LV L n base st recs := ⟨h.sk, JO.of h.jg, h.len, h.jg.low⟩
theorem LV.up {L : List Sec} {n n' base : Nat} {st : List UInt8} {recs : List (List UInt8)} (h : LV L n base st recs) (hn : n ≤ n') : LV L n' base st recs := by
  obtain ⟨c, s, hs⟩ := h.sk
  exact ⟨⟨c, s, hs.up hn⟩, h.jo, h.len, h.low⟩
/-- The power is gone: behind any crash one or the other is kept. -/
def GN (d : Pd) (n B : Nat) (st : List UInt8) (recs : List (List UInt8)) (st' : List UInt8) (recs' : List (List UInt8)) : Prop :=
  d.waits.length ≤ 2 ∧ ∀ keep, ∃ L' base', base' ≤ B ∧ DFlush.crashed d keep = calm L' ∧ (LV L' n base' st recs ∨ LV L' n base' st' recs')
/-- A checkpoint, with whatever fuse. -/
theorem check {L : List Sec} {n base : Nat} {st : List UInt8} {recs : List (List UInt8)} (h : LV L n base st recs) (hb : base + 12 ≤ 4611686018427387904) (hn : n < 4611686018427387904) (st' : List UInt8) (hst : st'.length ≤ 200) (fu : Int) (hfu : -1 ≤ fu) :
    ∃ m c s, SK L 0 2 m c s (keptB base st) ∧ anw L 0 (2 * 2) = m ∧ m ≤ n ∧
    ((∃ L' f', nextP L 0 2 c m (keptB (base + 6) st') fu = (calmF L' f', 0) ∧ -1 ≤ f' ∧ RV L' (n + 1) (base + 6) st' []) ∨
     (∃ d', nextP L 0 2 c m (keptB (base + 6) st') fu = (d', 15) ∧ GN d' (n + 1) (base + 6) st recs st' [])) := by
  obtain ⟨c, s, hs⟩ := h.sk
  have hm := hs.newest_le
  have hs2 := hs.newest
  have hlow := h.low
  have hlen := h.len
  refine ⟨anw L 0 (2 * 2), c, s, hs2, rfl, hm, ?_⟩
  have hmay : may (anw L 0 (2 * 2) + 1) = true := (may_iff _).2 (by omega)
  have hjn := h.jo.next hlow (by omega)
  rcases next_any L 0 2 _ c s (keptB base st) (keptB (base + 6) st') fu hs2 hmay (by rw [keptB_length]; omega) (by rw [keptB_length]; omega) hfu with ⟨hf, L', h1, h2, h3, h4⟩ | ⟨hf1, hf2, d', h1, _, h3, _, _, h5⟩
  · left
    refine ⟨L', _, h1, ?_, ⟨⟨_, _, h2.up (by omega)⟩, ?_, by rw [h4]; exact hlen⟩⟩
    · split <;> omega
    · exact hjn.congr h2.ev h4 (fun a ha _ => h3 a (by omega))
  · right
    refine ⟨d', h1, h3, fun keep => ?_⟩
    obtain ⟨L', g1, g2, g3, g4⟩ := h5 keep
    rcases g2 with g2 | g2
    · exact ⟨L', base, by omega, g1, .inl ⟨⟨_, _, g2.up (by omega)⟩, h.jo.congr g2.ev g4 (fun a ha _ => g3 a (by omega)), by rw [g4]; exact hlen, hlow⟩⟩
    · exact ⟨L', base + 6, Nat.le_refl _, g1, .inr ⟨⟨_, _, g2.up (by omega)⟩, JO.of (hjn.congr g2.ev g4 (fun a ha _ => g3 a (by omega))), by rw [g4]; exact hlen, by omega⟩⟩
/-- A record, with whatever fuse. -/
theorem record {L : List Sec} {n base : Nat} {st : List UInt8} {recs : List (List UInt8)} (h : RV L n base st recs) (b : List UInt8) (hb : b.length ≤ 212) (hm : recs.length < 3) (fu : Int) (hfu : -1 ≤ fu) :
    (∃ L' f', japp ⟨4, 3, 2, recs.length, base⟩ (calmF L fu) b = (⟨4, 3, 2, (recs ++ [b]).length, base⟩, calmF L' f', 0) ∧ -1 ≤ f' ∧ RV L' n base st (recs ++ [b])) ∨
    (∃ d', japp ⟨4, 3, 2, recs.length, base⟩ (calmF L fu) b = (⟨4, 3, 2, recs.length, base⟩, d', 15) ∧ GN d' n base st recs st (recs ++ [b])) := by
  obtain ⟨c, s, hs⟩ := h.sk
  have hlen := h.len
  rcases VI.japp_any h.jg b hb hm fu hfu with ⟨hf, L', h1, h2, h3, h4⟩ | ⟨hf1, hf2, d', h1, h2, h3⟩
  · left
    refine ⟨L', _, by rw [List.length_append]; exact h1, by split <;> omega, ⟨c, s, SK.congr hs h3 h2.ev fun a _ ha => h4 a (by omega)⟩, h2, by rw [h3]; exact hlen⟩
  · right
    refine ⟨d', h1, h2, fun keep => ?_⟩
    obtain ⟨L', g1, g2, g3, g4⟩ := h3 keep
    have hev : Ev L' := g2.elim JO.ev JO.ev
    have hsk : ∃ c s, SK L' 0 2 n c s (keptB base st) := ⟨c, s, SK.congr hs g3 hev fun a _ ha => g4 a (by omega)⟩
    refine ⟨L', base, Nat.le_refl _, g1, g2.imp (fun q => ⟨hsk, q, by rw [g3]; exact hlen, h.jg.low⟩) (fun q => ⟨hsk, q, by rw [g3]; exact hlen, h.jg.low⟩)⟩
/-- No power went. -/
theorem RV.calm {L : List Sec} {n base : Nat} {st : List UInt8} {recs : List (List UInt8)} (h : RV L n base st recs) (fu : Int) (keep : List UInt8) : DFlush.crashed (calmF L fu) keep = JH.calm L ∧ LV L n base st recs := ⟨crash_calm L fu keep, h.lv⟩
/-- What comes of what is kept. -/
def KPT (w : World) (g : Nat) (L : List Sec) (V : List (Value × Cont)) (ys : Nat) (q : Pl) (base : Nat) (st : List UInt8) (recs : List (List UInt8)) (e : Ending) (z : World) : Prop :=
  ∃ gv vr bb, e = .returned (.tuple #[.pointer (some ⟨gv, 0, none⟩), .string ⟨st.toArray⟩, vr, .bool true]) ∧ DS w g (calm L) ((.nilFunc, Cont.blk gv (VO none g q base false)) :: V) z ∧ BS bb z vr recs ∧ ys ≤ bb ∧ ys ≤ gv
theorem KPT.mk' {w : World} {g : Nat} {L : List Sec} {V : List (Value × Cont)} {ys : Nat} {q : Pl} {base : Nat} {st : List UInt8} {recs : List (List UInt8)} {e : Ending} {z : World} (gv : Nat) (vr : Value) (bb : Nat) (h1 : e = .returned (.tuple #[.pointer (some ⟨gv, 0, none⟩), .string ⟨st.toArray⟩, vr, .bool true])) (h2 : DS w g (calm L) ((.nilFunc, Cont.blk gv (VO none g q base false)) :: V) z) (h3 : BS bb z vr recs) (h4 : ys ≤ bb) (h5 : ys ≤ gv) : KPT w g L V ys q base st recs e z := ⟨gv, vr, bb, h1, h2, h3, h4, h5⟩
set_option maxHeartbeats 2000000 in
theorem ds_kept {w y : World} {g : Nat} {L : List Sec} {V : List (Value × Cont)} (h : DS w g (calm L) V y) (q : Pl) (pe : Nat) (hpk : POK q pe) (hsz : 2 * q.a + pe ≤ L.length) (n c s base : Nat) (st : List UInt8) (hk : SK L 0 q.a n c s (keptB base st)) (hst : st.length ≤ 100000000) (hb1 : 1 ≤ base) (hb2 : base + pe ≤ 4611686018427387904) (recs : List (List UInt8)) (hrc : jscan L (2 * q.a) base q.e q.p 0 [] = recs) :
    Calls Try.prog 48 #[.pointer (some ⟨g, 0, none⟩), PV q] y fun e z => KPT w g L V y.heap.size q base st recs e z := by
  have HO := Lib.hid (fun (z : World) (hz : Grew y z) => ds_open (h.grew hz) q pe hpk hsz n c s base st hk hst hb1 hb2 recs hrc)
  clear h hpk hsz hk hst hb1 hb2 hrc
  unfold PV at HO ⊢
  go_enter Try.func48, Try.ntmps48
  have hb : BX (y.alloc (Obj.cells #[.int .i64 (q.a : Int), .int .i64 (q.p : Int), .int .i64 (q.e : Int)] 90)) y.heap.size q := heap_alloc_new y _
  have hg0 : Grew y (y.alloc (Obj.cells #[.int .i64 (q.a : Int), .int .i64 (q.p : Int), .int .i64 (q.e : Int)] 90)) := (Below.refl _ y).alloc (Nat.le_refl _) _
  go_upto_region 1 with fail
  have HG0 := Lib.hid hg0
  have c0 := hb.cells.1
  have c1 := hb.cells.2.1
  have c2 := hb.cells.2.2
  have HSZ := Lib.hid hg0.size
  clear hb hg0
  generalize y.alloc (Obj.cells #[.int .i64 (q.a : Int), .int .i64 (q.p : Int), .int .i64 (q.e : Int)] 90) = W1 at *
  obtain ⟨BB, hBB⟩ : ∃ BB, y.heap.size = BB := ⟨_, rfl⟩
  have HBB := Lib.hid hBB
  rw [hBB] at c0 c1 c2 HSZ ⊢
  clear hBB
  go_wp2_with fail
  refine (HO.out _ HG0.out).mono ?_
  rintro e w2 ⟨gv, vst, vr, bb, rfl, hd, hbs, hbb, hgv⟩
  obtain ⟨A4, c4, rfl, _⟩ := id (hd.rd (v := vst) (l := st) (by simp))
  have HD := Lib.hid hd
  have HBS := Lib.hid hbs
  have HY : Hid (y.heap.size ≤ bb ∧ y.heap.size ≤ gv) := Lib.hid (by rw [HBB.out]; have := HSZ.out; omega)
  have HRS := Lib.hid (hd.rd (v := .slice A4 st.length c4) (l := st) (by simp))
  clear hd hbs hbb hgv c0 c1 c2
  go_upto_region 2 with fail
  refine Facts.wp_region_text (by kernel_rfl) (by kernel_rfl) ?_
  apply Facts.Lex.exact [] _ (by kernel_rfl)
  · intro u W hC _
    unfold Facts.one
    go_simp
    all_goals (first | exact ⟨Grew.refl _, rfl⟩ | rfl)
  simp only [Act.put, List.setIfInBounds_toArray, List.set_cons_zero, List.set_cons_succ, Nat.zero_add]
  apply Facts.Lex.exact [] _ (by kernel_rfl)
  · intro u W hC _
    unfold Facts.one
    go_simp
    all_goals (first | exact ⟨Grew.refl _, rfl⟩ | rfl)
  simp only [Act.put, List.setIfInBounds_toArray, List.set_cons_zero, List.set_cons_succ, Nat.reduceAdd]
  apply Facts.Lex.exact [] _ (by kernel_rfl)
  · intro u W hC _
    have d1 := Nums.conv22 (HRS.out.grew hC)
    unfold Facts.one
    go_simp
    all_goals (first | exact ⟨Grew.refl _, rfl⟩ | rfl)
  simp only [Act.put, List.setIfInBounds_toArray, List.set_cons_zero, List.set_cons_succ, Nat.reduceAdd]
  apply Facts.Lex.exact [] _ (by kernel_rfl)
  · intro u W hC _
    unfold Facts.one
    go_simp
    all_goals (first | exact ⟨Grew.refl _, rfl⟩ | rfl)
  simp only [Act.put, List.setIfInBounds_toArray, List.set_cons_zero, List.set_cons_succ, Nat.reduceAdd]
  apply Facts.Lex.exact [] _ (by kernel_rfl)
  · intro u W hC _
    unfold Facts.one
    go_simp
    all_goals (first | exact ⟨Grew.refl _, rfl⟩ | rfl)
  simp only [Act.put, List.setIfInBounds_toArray, List.set_cons_zero, List.set_cons_succ, Nat.reduceAdd]
  apply Facts.Lex.exact [] _ (by kernel_rfl)
  · intro u W hC _
    unfold Facts.one
    go_simp
    all_goals (first | exact ⟨Grew.refl _, rfl⟩ | rfl)
  simp only [Act.put, List.setIfInBounds_toArray, List.set_cons_zero, List.set_cons_succ, Nat.reduceAdd]
  apply Facts.Lex.exact [] _ (by kernel_rfl)
  · intro u W hC _
    unfold Facts.one
    go_simp
    all_goals (first | exact ⟨Grew.refl _, rfl⟩ | rfl)
  simp only [Act.put, List.setIfInBounds_toArray, List.set_cons_zero, List.set_cons_succ, Nat.reduceAdd]
  apply Facts.Lex.exact [] _ (by kernel_rfl)
  · intro u W hC _
    unfold Facts.one
    go_simp
    all_goals (first | exact ⟨Grew.refl _, rfl⟩ | rfl)
  simp only [Act.put, List.setIfInBounds_toArray, List.set_cons_zero, List.set_cons_succ, Nat.reduceAdd]
  apply Facts.Lex.exact [] _ (by kernel_rfl)
  · intro u W hC _
    unfold Facts.one
    go_simp
    all_goals (first | exact ⟨Grew.refl _, rfl⟩ | rfl)
  simp only [Act.put, List.setIfInBounds_toArray, List.set_cons_zero, List.set_cons_succ, Nat.reduceAdd]
  apply Facts.Lex.exact [] _ (by kernel_rfl)
  · intro u W hC _
    unfold Facts.one
    go_simp
    all_goals (first | exact ⟨Grew.refl _, rfl⟩ | rfl)
  simp only [Act.put, List.setIfInBounds_toArray, List.set_cons_zero, List.set_cons_succ, Nat.reduceAdd]
  apply Facts.Lex.exact [] _ (by kernel_rfl)
  · intro u W hC _
    unfold Facts.one
    go_simp
    all_goals (first | exact ⟨Grew.refl _, rfl⟩ | rfl)
  simp only [Act.put, List.setIfInBounds_toArray, List.set_cons_zero, List.set_cons_succ, Nat.reduceAdd]
  apply Facts.Lex.exact [] _ (by kernel_rfl)
  · intro u W hC _
    unfold Facts.one
    go_simp
    all_goals (first | exact ⟨Grew.refl _, rfl⟩ | rfl)
  simp only [Act.put, List.setIfInBounds_toArray, List.set_cons_zero, List.set_cons_succ, Nat.reduceAdd]
  apply Facts.Lex.exact [] _ (by kernel_rfl)
  · intro u W hC _
    unfold Facts.one
    go_simp
    all_goals (first | exact ⟨Grew.refl _, rfl⟩ | rfl)
  simp only [Act.put, List.setIfInBounds_toArray, List.set_cons_zero, List.set_cons_succ, Nat.reduceAdd]
  apply Facts.Lex.exact [] _ (by kernel_rfl)
  · intro u W hC _
    unfold Facts.one
    go_simp
    all_goals (first | exact ⟨Grew.refl _, rfl⟩ | rfl)
  simp only [Act.put, List.setIfInBounds_toArray, List.set_cons_zero, List.set_cons_succ, Nat.reduceAdd]
  refine Facts.Lex.done fun u W hC _ => ?_
  have HDE := Lib.hid ((HD.out.grew hC).sub (V' := (.nilFunc, Cont.blk gv (VO none g q base false)) :: V) fun p hp => by
    simp only [List.mem_cons] at hp ⊢
    rcases hp with hp | hp
    · exact .inl hp
    · exact .inr (.inr hp))
  have HBE := Lib.hid (HBS.out.grew hC)
  clear hC
  go_wp2
  go_returns
  exact KPT.mk' gv vr bb rfl HDE.out HBE.out HY.out.1 HY.out.2
end Go.Proofs.Ytbnicphegbdfnaa.VJ
namespace Go.Proofs.Ytbnicphegbdfnaa.VK
set_option maxRecDepth 100000
open Go Go.RowKit Go.Proofs.Ytbnicphegbdfnaa Go.Proofs.Ytbnicphegbdfnaa.Facts Go.Proofs.Ytbnicphegbdfnaa.Bytes Go.Proofs.Ytbnicphegbdfnaa.DKeep Go.Proofs.Ytbnicphegbdfnaa.DSmall Go.Proofs.Ytbnicphegbdfnaa.Puts Go.Proofs.Ytbnicphegbdfnaa.JX Go.Proofs.Ytbnicphegbdfnaa.DS

/-- A row of rows, whose rows came in with world w, and its own block as what is kept. -/
structure RK (w y : World) (v : Value) (l : List (List UInt8)) (Vr : List (Value × Cont)) : Prop where
  sl : SL w.heap.size w.heap.size y v l
  own : (v.ownBlock = none ∧ Vr = []) ∨ ∃ k o, v.ownBlock = some k ∧ Vr = [(undef, Cont.blk k o)]
section
variable {w y z : World} {g g' : Nat} {d d' : Pd} {V Vr : List (Value × Cont)} {v : Value} {l : List (List UInt8)}
theorem RK.nil (w y : World) : RK w y (.slice none 0 0) [] [] := ⟨SL.nil _ _ _, .inl ⟨rfl, rfl⟩⟩
/-- What turns the disk and keeps what is kept leaves the row. -/
theorem RK.keep (h : RK w y v l Vr) (hy : DS w g d Vr y) (hz : DS w g' d' Vr z) : RK w z v l Vr := by
  refine ⟨h.sl.keep (fun b hb _ => (hz.gr.block b hb).trans (hy.gr.block b hb).symm) (fun k hk => ?_), h.own⟩
  rcases h.own with ⟨e, _⟩ | ⟨k', o, e, rfl⟩
  · rw [e] at hk
    cases hk
  · rw [e] at hk
    injection hk with hk
    subst hk
    exact (hz.at_ (List.mem_cons_self ..)).trans (hy.at_ (List.mem_cons_self ..)).symm
/-- What an append leaves. -/
theorem RK.app {v' : Value} {l' : List (List UInt8)} (h : RK w y v l Vr) (hd : DS w g d (Vr ++ V) y) (hn : ∀ k, v.ownBlock = some k → ¬ BL V k) (hgb : y.grownBy z v.ownBlock)
    (hob : v'.ownBlock = v.ownBlock ∨ v'.ownBlock = some y.heap.size) (hs : SL w.heap.size w.heap.size z v' l') : ∃ Vr', DS w g d (Vr' ++ V) z ∧ RK w z v' l' Vr' ∧ ∀ k, v'.ownBlock = some k → ¬ BL V k := by
  obtain ⟨D, hd⟩ := hd
  have hin : ∀ k, v.ownBlock = some k → ∃ o, (undef, Cont.blk k o) ∈ Vr ++ V := fun k hk => by
    rcases h.own with ⟨e, _⟩ | ⟨k', o, e, rfl⟩
    · rw [e] at hk
      cases hk
    · rw [e] at hk
      injection hk with hk
      subst hk
      exact ⟨o, List.mem_cons_self ..⟩
  have hD : ∀ k, v.ownBlock = some k → ¬ D k ∧ w.heap.size ≤ k ∧ BL (Vr ++ V) k := fun k hk => by
    obtain ⟨o, ho⟩ := hin k hk
    exact ⟨(hd.blk _ _ _ ho).2.1, (hd.blk _ _ _ ho).2.2, _, _, ho⟩
  have hsub : ∀ p ∈ V, p ∈ Vr ++ V := fun p hp => List.mem_append.2 (.inr hp)
  have k3 : Kept (fun k => v.ownBlock = some k) y z := Kept.of_grown hgb fun k hk => hk
  have hgr : Grew w z := DAlive.grew_kept hd.gr k3 fun k hk => (hD k hk).2.1
  have hdk : DK z g D d := hd.dk.keep k3 fun k hk e => (hD k e).1 hk
  have hVlt : ∀ b, BL V b → b < y.heap.size := fun b hb => (hd.bl_lt (hb.sub hsub)).1
  have hbase : DSD w g d V z D := by
    refine ⟨hdk, hd.ab, hgr, fun u x hp => ?_, fun x b o hp => ?_⟩
    · obtain ⟨S, r1, r2⟩ := hd.row u x (hsub _ hp)
      exact ⟨S, r1.keep fun b hb hS => k3.block b hb fun e => (r2 b hS).2.2 (hD b e).2.2, fun b hb => ⟨Nat.lt_of_lt_of_le (r2 b hb).1 k3.size, (r2 b hb).2.1, fun hbl => (r2 b hb).2.2 (hbl.sub hsub)⟩⟩
    · have hb := hd.blk x b o (hsub _ hp)
      exact ⟨(k3.block b (Array.getElem?_eq_some_iff.1 hb.1).1 fun e => hn b e ⟨x, o, hp⟩).trans hb.1, hb.2⟩
  have hside : ∀ k, v'.ownBlock = some k → ¬ D k ∧ ¬ BL V k ∧ ∀ u x, (u, Cont.bytes x) ∈ V → ∃ S, Rd S z u x ∧ ∀ b, S b → b < z.heap.size ∧ ¬ D b ∧ ¬ BL V b ∧ b ≠ k := fun k hk => by
    have hk2 : v.ownBlock = some k ∨ k = y.heap.size := by
      rcases hob with e | e
      · exact .inl (e.symm.trans hk)
      · rw [e] at hk
        injection hk with hk
        exact .inr hk.symm
    refine ⟨?_, ?_, fun u x hp => ?_⟩
    · rcases hk2 with e | e
      · exact (hD k e).1
      · intro hdk2
        have := hd.dk.1 k hdk2
        omega
    · rcases hk2 with e | e
      · exact hn k e
      · intro hb
        have := hVlt k hb
        omega
    · obtain ⟨S, r1, r2⟩ := hd.row u x (hsub _ hp)
      refine ⟨_, r1.lt.keep fun b hb hS => k3.block b hb fun e => (r2 b hS.1).2.2 (hD b e).2.2, fun b hb => ⟨Nat.lt_of_lt_of_le hb.2 k3.size, (r2 b hb.1).2.1, fun hbl => (r2 b hb.1).2.2 (hbl.sub hsub), fun e => ?_⟩⟩
      rcases hk2 with q | q
      · exact (r2 b hb.1).2.2 (by rw [e]; exact (hD k q).2.2)
      · have := hb.2
        omega
  cases hv : v'.ownBlock with
  | none => exact ⟨[], ⟨D, hbase⟩, ⟨hs, .inl ⟨hv, rfl⟩⟩, fun k hk => by cases hk⟩
  | some k =>
    obtain ⟨q1, q2⟩ := hs.own k hv
    obtain ⟨o, ho⟩ : ∃ o, z.heap[k]? = some o := ⟨_, Array.getElem?_eq_getElem q2⟩
    obtain ⟨p1, p2, p3⟩ := hside k hv
    refine ⟨[(undef, Cont.blk k o)], ⟨D, hdk, hd.ab, hgr, fun u x hp => ?_, fun x b o2 hp => ?_⟩, ⟨hs, .inr ⟨k, o, hv, rfl⟩⟩, fun k2 hk => by injection hk with hk; subst hk; exact p2⟩
    · rcases List.mem_cons.1 hp with hp | hp
      · cases hp
      · obtain ⟨S, r1, r2⟩ := p3 u x hp
        refine ⟨S, r1, fun b hb => ⟨(r2 b hb).1, (r2 b hb).2.1, fun hbl => ?_⟩⟩
        rcases bl_cons hbl with e | e
        · exact (r2 b hb).2.2.2 e
        · exact (r2 b hb).2.2.1 e
    · rcases List.mem_cons.1 hp with hp | hp
      · injection hp with _ hp
        injection hp with e1 e2
        subst e1 e2
        exact ⟨ho, p1, q1⟩
      · exact hbase.blk x b o2 hp
end
end Go.Proofs.Ytbnicphegbdfnaa.VK
namespace Go.Proofs.Ytbnicphegbdfnaa.VM
set_option maxRecDepth 100000
open Go Go.RowKit Go.Proofs.Ytbnicphegbdfnaa Go.Proofs.Ytbnicphegbdfnaa.Facts Go.Proofs.Ytbnicphegbdfnaa.Bytes Go.Proofs.Ytbnicphegbdfnaa.DKeep Go.Proofs.Ytbnicphegbdfnaa.DSmall Go.Proofs.Ytbnicphegbdfnaa.Puts Go.Proofs.Ytbnicphegbdfnaa.Scan Go.Proofs.Ytbnicphegbdfnaa.SPure Go.Proofs.Ytbnicphegbdfnaa.JA Go.Proofs.Ytbnicphegbdfnaa.JB Go.Proofs.Ytbnicphegbdfnaa.JD Go.Proofs.Ytbnicphegbdfnaa.JE Go.Proofs.Ytbnicphegbdfnaa.JF Go.Proofs.Ytbnicphegbdfnaa.JH Go.Proofs.Ytbnicphegbdfnaa.JQ Go.Proofs.Ytbnicphegbdfnaa.AP Go.Proofs.Ytbnicphegbdfnaa.AQ Go.Proofs.Ytbnicphegbdfnaa.AA Go.Proofs.Ytbnicphegbdfnaa.AW Go.Proofs.Ytbnicphegbdfnaa.AV Go.Proofs.Ytbnicphegbdfnaa.AC Go.Proofs.Ytbnicphegbdfnaa.DS Go.Proofs.Ytbnicphegbdfnaa.AU Go.Proofs.Ytbnicphegbdfnaa.SP Go.Proofs.Ytbnicphegbdfnaa.SN Go.Proofs.Ytbnicphegbdfnaa.SB Go.Proofs.Ytbnicphegbdfnaa.SC Go.Proofs.Ytbnicphegbdfnaa.VA Go.Proofs.Ytbnicphegbdfnaa.VB Go.Proofs.Ytbnicphegbdfnaa.VC Go.Proofs.Ytbnicphegbdfnaa.VD Go.Proofs.Ytbnicphegbdfnaa.VE Go.Proofs.Ytbnicphegbdfnaa.VF Go.Proofs.Ytbnicphegbdfnaa.VG Go.Proofs.Ytbnicphegbdfnaa.VH Go.Proofs.Ytbnicphegbdfnaa.VI Go.Proofs.Ytbnicphegbdfnaa.VJ Go.Proofs.Ytbnicphegbdfnaa.VK Go.Proofs.Ytbnicphegbdfnaa.JX

theorem bl_append {U V : List (Value × Cont)} {b : Nat} (h : BL (U ++ V) b) : BL U b ∨ BL V b := by
  obtain ⟨x, o, h⟩ := h
  rcases List.mem_append.1 h with h | h
  · exact .inl ⟨x, o, h⟩
  · exact .inr ⟨x, o, h⟩
/-- Rows of rows, whose rows came in with world w, and their own blocks as what is kept. -/
structure RS (w y : World) (R : List (Value × List (List UInt8))) (Vr : List (Value × Cont)) : Prop where
  sl : ∀ p ∈ R, SL w.heap.size w.heap.size y p.1 p.2
  own : ∀ p ∈ R, ∀ k, p.1.ownBlock = some k → BL Vr k
/-- A disk, blocks, and rows of rows. -/
def DR (w : World) (g : Nat) (d : Pd) (R : List (Value × List (List UInt8))) (U : List (Value × Cont)) (y : World) : Prop :=
  ∃ Vr, DS w g d (U ++ Vr) y ∧ RS w y R Vr ∧ ∀ b, BL U b → ¬ BL Vr b
section
variable {w y z : World} {g g' : Nat} {d d' : Pd} {U U' Vr : List (Value × Cont)} {R R' : List (Value × List (List UInt8))}
theorem RS.keep (h : RS w y R Vr) (hy : DS w g d Vr y) (hz : DS w g' d' Vr z) : RS w z R Vr := by
  refine ⟨fun p hp => ?_, h.own⟩
  refine (h.sl p hp).keep (fun b hb _ => (hz.gr.block b hb).trans (hy.gr.block b hb).symm) (fun k hk => ?_)
  obtain ⟨x, o, hm⟩ := h.own p hp k hk
  exact (hz.at_ hm).trans (hy.at_ hm).symm
theorem sub_r {U Vr : List (Value × Cont)} : ∀ p ∈ Vr, p ∈ U ++ Vr := fun _ hp => List.mem_append.2 (.inr hp)
theorem DR.start (h : DS w g d [] y) : DR w g d [] [] y := ⟨[], h, ⟨(fun p hp => by cases hp), (fun p hp => by cases hp)⟩, (fun b hb => by obtain ⟨x, o, h⟩ := hb; cases h)⟩
theorem DR.gr (h : DR w g d R U y) : Grew w y := by
  obtain ⟨Vr, h, _⟩ := h
  exact h.gr
theorem DR.grew (h : DR w g d R U y) (hg : Grew y z) : DR w g d R U z := by
  obtain ⟨Vr, h1, h2, h3⟩ := h
  exact ⟨Vr, h1.grew hg, ⟨fun p hp => (h2.sl p hp).grew hg, h2.own⟩, h3⟩
theorem DR.row (h : DR w g d R U y) {p : Value × List (List UInt8)} (hp : p ∈ R) : SL w.heap.size w.heap.size y p.1 p.2 := by
  obtain ⟨Vr, h1, h2, h3⟩ := h
  exact h2.sl p hp
theorem DR.rows (h : DR w g d R U y) (hs : ∀ p ∈ R', p ∈ R) : DR w g d R' U y := by
  obtain ⟨Vr, h1, h2, h3⟩ := h
  exact ⟨Vr, h1, ⟨fun p hp => h2.sl p (hs p hp), fun p hp => h2.own p (hs p hp)⟩, h3⟩
theorem DR.nil (h : DR w g d R U y) : DR w g d ((.slice none 0 0, []) :: R) U y := by
  obtain ⟨Vr, h1, h2, h3⟩ := h
  refine ⟨Vr, h1, ⟨fun p hp => ?_, fun p hp k hk => ?_⟩, h3⟩
  · rcases List.mem_cons.1 hp with rfl | hp
    · exact SL.nil _ _ _
    · exact h2.sl p hp
  · rcases List.mem_cons.1 hp with rfl | hp
    · cases hk
    · exact h2.own p hp k hk
/-- A new row of rows. -/
theorem DR.add (h : DR w g d R U y) (hg : Grew y z) {v : Value} {l : List (List UInt8)} (hs : SL w.heap.size y.heap.size z v l) : DR w g d ((v, l) :: R) U z := by
  have hwy := h.gr.size
  obtain ⟨Vr, h1, h2, h3⟩ := h
  have hUlt : ∀ b, BL U b → b < y.heap.size := fun b hb => by
    obtain ⟨D, hD⟩ := h1
    obtain ⟨x, o, hm⟩ := hb
    exact (hD.bl_lt ⟨x, o, List.mem_append.2 (.inl hm)⟩).1
  cases hv : v.ownBlock with
  | none =>
    refine ⟨Vr, h1.grew hg, ⟨fun p hp => ?_, fun p hp k hk => ?_⟩, h3⟩
    · rcases List.mem_cons.1 hp with rfl | hp
      · exact hs.base hwy
      · exact (h2.sl p hp).grew hg
    · rcases List.mem_cons.1 hp with rfl | hp
      · rw [hv] at hk; cases hk
      · exact h2.own p hp k hk
  | some k =>
    obtain ⟨q1, q2⟩ := hs.own k hv
    obtain ⟨o, ho⟩ : ∃ o, z.heap[k]? = some o := ⟨_, Array.getElem?_eq_getElem q2⟩
    refine ⟨(undef, Cont.blk k o) :: Vr, (h1.new hg undef q1 ho).sub fun p hp => ?_, ⟨fun p hp => ?_, fun p hp k2 hk => ?_⟩, fun b hb hbl => ?_⟩
    · rcases List.mem_append.1 hp with hp | hp
      · exact List.mem_cons_of_mem _ (List.mem_append.2 (.inl hp))
      · rcases List.mem_cons.1 hp with rfl | hp
        · exact List.mem_cons_self ..
        · exact List.mem_cons_of_mem _ (List.mem_append.2 (.inr hp))
    · rcases List.mem_cons.1 hp with rfl | hp
      · exact hs.base hwy
      · exact (h2.sl p hp).grew hg
    · rcases List.mem_cons.1 hp with rfl | hp
      · rw [hv] at hk
        injection hk with hk
        subst hk
        exact ⟨undef, o, List.mem_cons_self ..⟩
      · obtain ⟨x, o2, hm⟩ := h2.own p hp k2 hk
        exact ⟨x, o2, List.mem_cons_of_mem _ hm⟩
    · rcases bl_cons hbl with e | e
      · have := hUlt b hb; omega
      · exact h3 b hb e
/-- A call that does to a disk, and to blocks, whatever it does, with whatever is kept beside them. -/
theorem DR.turn (h : DR w g d R U y) (hV : ∀ Vr, DS w g d (U ++ Vr) y → (∀ b, BL U b → ¬ BL Vr b) → DS w g d' (U' ++ Vr) z) (hU : ∀ b, BL U' b → BL U b ∨ y.heap.size ≤ b) : DR w g d' R U' z := by
  obtain ⟨Vr, h1, h2, h3⟩ := h
  have hz := hV Vr h1 h3
  refine ⟨Vr, hz, h2.keep (h1.sub sub_r) (hz.sub sub_r), fun b hb hbl => ?_⟩
  rcases hU b hb with q | q
  · exact h3 b q hbl
  · obtain ⟨D, hD⟩ := h1
    obtain ⟨x, o, hm⟩ := hbl
    have := (hD.bl_lt ⟨x, o, sub_r _ hm⟩).1
    omega
theorem DR.drop (h : DR w g d R U y) (hs : ∀ p ∈ U', p ∈ U) : DR w g d R U' y :=
  h.turn (fun Vr h1 _ => h1.sub fun p hp => by
    rcases List.mem_append.1 hp with hp | hp
    · exact List.mem_append.2 (.inl (hs p hp))
    · exact List.mem_append.2 (.inr hp)) fun b hb => .inl (hb.sub hs)
end
section
variable {w y : World} {g : Nat} {d : Pd} {U : List (Value × Cont)} {R : List (Value × List (List UInt8))}
theorem DR.arg (h : DR w g d R U y) {v : Value} {l : List UInt8} (hr : Rd (fun b => b < w.heap.size) w v l) : DR w g d R ((v, Cont.bytes l) :: U) y :=
  h.turn (fun _ h1 _ => h1.arg hr) fun b hb => .inl (bl_row hb)
theorem dr_fuse (h : DR w g d R U y) (n : Int) (d' : Pd) (hn : n ≤ 9223372036854775807) (he : DTurn.fused d n = d') :
    Calls Try.prog 30 #[.pointer (some ⟨g, 0, none⟩), .int .i64 n] y fun e z => e = .returned (.tuple #[]) ∧ DR w g d' R U z := by
  obtain ⟨Vr, h1, h2, h3⟩ := h
  refine (ds_fuse w y g d _ h1 n d' hn he).mono ?_
  rintro e z ⟨rfl, hd⟩
  exact ⟨rfl, Vr, hd, h2.keep (h1.sub sub_r) (hd.sub sub_r), h3⟩
theorem dr_crash (h : DR w g d R U y) (S : Nat → Prop) (v : Value) (keep : List UInt8) (d' : Pd) (hw : d.waits.length ≤ 1073741824) (hr : Rd S w v keep) (hS : ∀ b, S b → b < w.heap.size) (he : DFlush.crashed d keep = d') :
    Calls Try.prog 21 #[.pointer (some ⟨g, 0, none⟩), v] y fun e z => e = .returned (.int .i64 0) ∧ DR w g d' R U z := by
  obtain ⟨Vr, h1, h2, h3⟩ := h
  refine (ds_crash w y g d _ h1 S v keep d' hw hr hS he).mono ?_
  rintro e z ⟨rfl, hd⟩
  exact ⟨rfl, Vr, hd, h2.keep (h1.sub sub_r) (hd.sub sub_r), h3⟩
/-- What comes of what is kept. -/
def KPR (w : World) (g : Nat) (L : List Sec) (R : List (Value × List (List UInt8))) (U : List (Value × Cont)) (q : Pl) (base : Nat) (st : List UInt8) (recs : List (List UInt8)) (e : Ending) (z : World) : Prop :=
  ∃ gv vr, e = .returned (.tuple #[.pointer (some ⟨gv, 0, none⟩), .string ⟨st.toArray⟩, vr, .bool true]) ∧ DR w g (calm L) R ((.nilFunc, Cont.blk gv (VO none g q base false)) :: U) z ∧ JS.RR z vr recs
theorem dr_kept {L : List Sec} (h : DR w g (calm L) R U y) (n base : Nat) (st : List UInt8) (recs : List (List UInt8)) (hlv : LV L n base st recs) (hst : st.length ≤ 200) (hb2 : base + 6 ≤ 4611686018427387904) :
    Calls Try.prog 48 #[.pointer (some ⟨g, 0, none⟩), PV P2] y fun e z => KPR w g L R U P2 base st recs e z := by
  obtain ⟨Vr, h1, h2, h3⟩ := h
  obtain ⟨c, s, hs⟩ := hlv.sk
  refine (ds_kept h1 P2 6 pk2 (by have := hlv.len; show 2 * 2 + 6 ≤ _; omega) n c s base st hs (by omega) hlv.low hb2 recs hlv.jo.said).mono ?_
  rintro e z ⟨gv, vr, bb, rfl, hd, hbs, hbb, hgv⟩
  refine ⟨gv, vr, rfl, ⟨Vr, hd, h2.keep (h1.sub sub_r) (hd.sub fun p hp => List.mem_cons_of_mem _ (sub_r _ hp)), fun b hb hbl => ?_⟩, JS.RR.of_bs hbs⟩
  rcases bl_cons hb with e | e
  · subst e
    obtain ⟨D, hD⟩ := h1
    obtain ⟨x, o, hm⟩ := hbl
    have := (hD.bl_lt ⟨x, o, sub_r _ hm⟩).1
    omega
  · exact h3 b e hbl
/-- What comes of a checkpoint. -/
def CKR (w : World) (g gv : Nat) (d' : Pd) (R : List (Value × List (List UInt8))) (U : List (Value × Cont)) (q : Pl) (base next : Nat) (r : Int) (e : Ending) (z : World) : Prop :=
  e = .returned (.int .i64 r) ∧ ((¬ r = 0 ∧ DR w g d' R ((.nilFunc, Cont.blk gv (VO none g q base true)) :: U) z) ∨ (r = 0 ∧ ∃ gj, DR w g d' R ((.nilFunc, Cont.blk gv (VO (some gj) g q next false)) :: (.nilFunc, Cont.blk gj (VC.JO g ⟨2 * q.a, q.p, q.e, 0, next⟩)) :: U) z ∧ gj ≠ gv ∧ ¬ BL U gj))
theorem dr_checkpoint {gv : Nat} {L : List Sec} {fu : Int} (jr : Option Nat) (base : Nat) (h : DR w g (calmF L fu) R ((.nilFunc, Cont.blk gv (VO jr g P2 base false)) :: U) y) (hnv : ¬ BL U gv) (n c s : Nat) (b0 : List UInt8) (hk : SK L 0 P2.a n c s b0) (hn : anw L 0 (2 * P2.a) = n) (hl : L.length = 10) (hs : may (n + 1) = true) (v : Value) (st : List UInt8) (hin : (v, Cont.bytes st) ∈ U) (hst : st.length ≤ 200) (d' : Pd) (r : Int) (hb1 : 1 ≤ base) (hb2 : base + 12 ≤ 4611686018427387904) (he : nextP L 0 P2.a c n (keptB (base + 6) st) fu = (d', r)) (hjq : r = 0 → jrefus d' ((2 * P2.a : Nat) : Int) (P2.p : Int) (P2.e : Int) (base + 6) = 0) :
    Calls Try.prog 49 #[.pointer (some ⟨gv, 0, none⟩), v] y fun e z => CKR w g gv d' R U P2 base (base + 6) r e z := by
  obtain ⟨Vr, h1, h2, h3⟩ := h
  have hnv2 : ¬ BL (U ++ Vr) gv := fun hbl => (bl_append hbl).elim hnv (h3 gv ⟨_, _, List.mem_cons_self ..⟩)
  have hlt : ∀ b, BL (U ++ Vr) b ∨ b = gv → b < y.heap.size := fun b hb => by
    obtain ⟨D, hD⟩ := h1
    refine (hD.bl_lt ?_).1
    rcases hb with ⟨x, o, hm⟩ | rfl
    · exact ⟨x, o, List.mem_cons_of_mem _ hm⟩
    · exact ⟨_, _, List.mem_cons_self ..⟩
  refine (ds_checkpoint jr P2 6 pk2 base h1 hnv2 n c s b0 hk hn (by omega) hs v st (List.mem_append.2 (.inl hin)) (by show st.length + 12 ≤ 108 * 2; omega) d' r hb1 hb2 he hjq).mono ?_
  rintro e z ⟨rfl, ⟨h0, hd⟩ | ⟨h0, gj, hd, hgj⟩⟩
  · refine ⟨rfl, .inl ⟨h0, Vr, hd, h2.keep (h1.sub fun p hp => List.mem_cons_of_mem _ (sub_r _ hp)) (hd.sub fun p hp => List.mem_cons_of_mem _ (sub_r _ hp)), fun b hb hbl => ?_⟩⟩
    rcases bl_cons hb with e | e
    · subst e
      exact hnv2 ⟨_, _, sub_r _ hbl.choose_spec.choose_spec⟩
    · exact h3 b (by obtain ⟨x, o, hm⟩ := e; exact ⟨x, o, List.mem_cons_of_mem _ hm⟩) hbl
  · refine ⟨rfl, .inr ⟨h0, gj, ⟨Vr, hd, h2.keep (h1.sub fun p hp => List.mem_cons_of_mem _ (sub_r _ hp)) (hd.sub fun p hp => List.mem_cons_of_mem _ (List.mem_cons_of_mem _ (sub_r _ hp))), fun b hb hbl => ?_⟩, fun e => ?_, fun hbl => ?_⟩⟩
    · have hb3 : BL (U ++ Vr) b := by obtain ⟨x, o, hm⟩ := hbl; exact ⟨x, o, sub_r _ hm⟩
      rcases bl_cons hb with e | e
      · subst e
        exact hnv2 hb3
      · rcases bl_cons e with e | e
        · have := hlt b (.inl hb3); omega
        · exact h3 b (by obtain ⟨x, o, hm⟩ := e; exact ⟨x, o, List.mem_cons_of_mem _ hm⟩) hbl
    · have := hlt gv (.inr rfl); omega
    · have := hlt gj (.inl (by obtain ⟨x, o, hm⟩ := hbl; exact ⟨x, o, List.mem_append.2 (.inl hm)⟩)); omega
/-- What comes of a record. -/
def CMR (w : World) (g gv gj : Nat) (d' : Pd) (R : List (Value × List (List UInt8))) (U : List (Value × Cont)) (q : Pl) (base : Nat) (j' : Jr) (r : Int) (e : Ending) (z : World) : Prop :=
  e = .returned (.int .i64 r) ∧ ((r = 15 ∧ DR w g d' R ((.nilFunc, Cont.blk gv (VO none g q base true)) :: U) z) ∨ (¬ r = 15 ∧ DR w g d' R ((.nilFunc, Cont.blk gv (VO (some gj) g q base false)) :: (.nilFunc, Cont.blk gj (VC.JO g j')) :: U) z))
theorem dr_commit {gv gj : Nat} {d' : Pd} {q : Pl} {base : Nat} {j j' : Jr} {r : Int} (h : DR w g d R ((.nilFunc, Cont.blk gv (VO (some gj) g q base false)) :: (.nilFunc, Cont.blk gj (VC.JO g j)) :: U) y) (hn : ¬ BL U gj) (hnv : ¬ BL U gv) (hne : gj ≠ gv) (hk : JK j) (hb : 1 ≤ j.base) (hw : d.waits.length ≤ 1000000000) (v : Value) (b : List UInt8) (hr : Rd (fun _ => True) y v b) (he : japp j d b = (j', d', r)) :
    Calls Try.prog 50 #[.pointer (some ⟨gv, 0, none⟩), v] y fun e z => CMR w g gv gj d' R U q base j' r e z := by
  obtain ⟨Vr, h1, h2, h3⟩ := h
  have k1 : ¬ BL (U ++ Vr) gj := fun hbl => (bl_append hbl).elim hn (h3 gj ⟨_, _, List.mem_cons_of_mem _ (List.mem_cons_self ..)⟩)
  have k2 : ¬ BL (U ++ Vr) gv := fun hbl => (bl_append hbl).elim hnv (h3 gv ⟨_, _, List.mem_cons_self ..⟩)
  have hy : DS w g d Vr y := h1.sub fun p hp => List.mem_cons_of_mem _ (List.mem_cons_of_mem _ (sub_r _ hp))
  refine (ds_commit h1 k1 k2 (Ne.symm hne) hk hb hw v b hr he).mono ?_
  rintro e z ⟨rfl, hd⟩
  have hU : ∀ b, BL U b → ¬ BL Vr b := fun b hb => h3 b (by obtain ⟨x, o, hm⟩ := hb; exact ⟨x, o, List.mem_cons_of_mem _ (List.mem_cons_of_mem _ hm)⟩)
  have kr : ∀ b, BL Vr b → BL (U ++ Vr) b := fun b hb => by obtain ⟨x, o, hm⟩ := hb; exact ⟨x, o, sub_r _ hm⟩
  by_cases h15 : r = 15
  · rw [if_pos h15] at hd
    refine ⟨rfl, .inl ⟨h15, Vr, hd, h2.keep hy (hd.sub fun p hp => List.mem_cons_of_mem _ (sub_r _ hp)), fun b hb hbl => ?_⟩⟩
    rcases bl_cons hb with e | e
    · subst e
      exact k2 (kr _ hbl)
    · exact hU b e hbl
  · rw [if_neg h15] at hd
    refine ⟨rfl, .inr ⟨h15, Vr, hd, h2.keep hy (hd.sub fun p hp => List.mem_cons_of_mem _ (List.mem_cons_of_mem _ (sub_r _ hp))), fun b hb hbl => ?_⟩⟩
    rcases bl_cons hb with e | e
    · subst e
      exact k2 (kr _ hbl)
    · rcases bl_cons e with e | e
      · subst e
        exact k1 (kr _ hbl)
      · exact hU b e hbl
end
end Go.Proofs.Ytbnicphegbdfnaa.VM
namespace Go.Proofs.Ytbnicphegbdfnaa.VO
set_option maxRecDepth 100000
open Go Go.ChangeShapes Go.WideShapes Go.ChangeAt Go.RowKit Go.Deep Go.Joins Go.Lib Go.Proofs.Ytbnicphegbdfnaa Go.Proofs.Ytbnicphegbdfnaa.Facts Go.Proofs.Ytbnicphegbdfnaa.Bytes
theorem open_rowcell {H : Type} {enc : TypeId × Value → H} {w : World} {n' : Nat} {c2 : Value} {y2 : DataW H × List MemPlace} (g2 : DataW.trod enc Try.prog w 0 (fun _ => true) true n' 57 [c2] = some y2) : ∃ A c L, c2 = .slice A (List.length L) c ∧ JI.LB w A c L := by
  rcases Go.Deep.open_slice Try.underlying57 g2 with ⟨hcs, hx⟩ | ⟨a, len, cap, m, n, D, Pl, hcs, _, hlc, hm, hmm, hx, hi⟩
  · simp at hcs
    subst hcs
    exact ⟨none, 0, [], rfl, Nat.le_refl _, Nat.zero_le _, fun _ => rfl, fun ad ha => by cases ha⟩
  · simp at hcs
    subst hcs
    simp only [if_true] at hmm
    have each : ∀ i, i < len → ∃ q : List UInt8, ∃ vB, w.cell? (a.add i) = some vB ∧ Rd (fun b => b < w.heap.size) w vB q := fun i hin => by
      obtain ⟨cs', hc, ht'⟩ := hi i (by omega)
      rw [JOpens.cells23] at hc
      obtain ⟨_, hcl, hat⟩ := World.cells?_some hc
      match cs', hcl, hat, ht' with
      | [c0], _, hat, ht' =>
        have a0 := hat 0 (by omega)
        obtain ⟨l, hl⟩ := JOpens.open_cell ht'
        rw [Go.Deep.add_add, Nat.mul_one, Nat.add_zero] at a0
        exact ⟨l, c0, a0, hl⟩
    obtain ⟨f, hfx⟩ := choose_lt each
    have hlen : ((List.range len).map f).length = len := by simp
    refine ⟨some a, cap, (List.range len).map f, by rw [hlen], by rw [hlen]; exact hlc, by unfold maxLen at hm; omega, (fun h => by cases h), fun ad ha i x hx' => ?_⟩
    cases ha
    have hil : i < len := by
      have := (List.getElem?_eq_some_iff.1 hx').1
      rwa [hlen] at this
    simp [hil] at hx'
    subst hx'
    exact hfx i hil
structure Li where
  state : List UInt8
  recs : List (List UInt8)
  fuse : Int
  keep : List UInt8
deriving Inhabited
/-- A row of them, as it lies. -/
def LI (w : World) (A : Option Addr) (c : Nat) (L : List Li) : Prop := L.length ≤ c ∧ c ≤ 9223372036854775807 ∧ (A = none → c = 0) ∧ ∀ ad, A = some ad → ∀ i x, L[i]? = some x → ∃ v0 A1 c1 v3, w.cell? (ad.add (i * 4)) = some v0 ∧ w.cell? ⟨(ad.add (i * 4)).block, (ad.add (i * 4)).off + 1, none⟩ = some (.slice A1 x.recs.length c1) ∧ w.cell? ⟨(ad.add (i * 4)).block, (ad.add (i * 4)).off + 2, none⟩ = some (.int .i64 x.fuse) ∧ w.cell? ⟨(ad.add (i * 4)).block, (ad.add (i * 4)).off + 3, none⟩ = some v3 ∧ Rd (fun b => b < w.heap.size) w v0 x.state ∧ JI.LB w A1 c1 x.recs ∧ -9223372036854775808 ≤ x.fuse ∧ x.fuse ≤ 9223372036854775807 ∧ Rd (fun b => b < w.heap.size) w v3 x.keep
theorem cells96 : Try.prog.cellsOf 96 = 4 := by kernel_rfl
theorem struct96 : ∃ f0 f1 f2 f3, Try.prog.underlying 96 = some (.struct #[f0, f1, f2, f3]) ∧ oneCellFields Try.prog #[f0, f1, f2, f3] = true ∧ f0.type = 23 ∧ f1.type = 57 ∧ f2.type = 3 ∧ f3.type = 23 :=
  ⟨_, _, _, _, Try.underlying96, by kernel_rfl, rfl, rfl, rfl, rfl⟩
theorem open_lives {H : Type} {enc : TypeId × Value → H} {w : World} {r : Reach} {b0 : Nat} {v : Value} {d : DataW H} {p : List MemPlace} (hval : Value.okWide Try.prog w r b0 88 v) (h : DataW.Trod enc Try.prog w 0 (fun _ => true) true 88 v d p) :
    ∃ A c L, v = .slice A (List.length L) c ∧ LI w A c L := by
  obtain ⟨f0, f1, f2, f3, hs, hone, t0, t1, t2, t3⟩ := struct96
  obtain ⟨fuel, hf⟩ := h
  obtain ⟨A0, n0, k0, rfl⟩ := okWide_slice Try.underlying88 hval
  rcases Go.Deep.open_slice Try.underlying88 hf with ⟨hcs, hx⟩ | ⟨a, len, cap, m, n, D, Pl, hcs, _, hlc, hm, hmm, hx, hi⟩
  · simp [Value.cells] at hcs
    obtain ⟨rfl, rfl, rfl⟩ := hcs
    exact ⟨none, 0, [], rfl, Nat.le_refl _, Nat.zero_le _, fun _ => rfl, fun ad ha => by cases ha⟩
  · simp [Value.cells] at hcs
    obtain ⟨rfl, rfl, rfl⟩ := hcs
    simp only [if_true] at hmm
    have each : ∀ i, i < n0 → ∃ q : Li, ∃ v0 A1 c1 v3, w.cell? (a.add (i * 4)) = some v0 ∧ w.cell? ⟨(a.add (i * 4)).block, (a.add (i * 4)).off + 1, none⟩ = some (.slice A1 q.recs.length c1) ∧ w.cell? ⟨(a.add (i * 4)).block, (a.add (i * 4)).off + 2, none⟩ = some (.int .i64 q.fuse) ∧ w.cell? ⟨(a.add (i * 4)).block, (a.add (i * 4)).off + 3, none⟩ = some v3 ∧ Rd (fun b => b < w.heap.size) w v0 q.state ∧ JI.LB w A1 c1 q.recs ∧ -9223372036854775808 ≤ q.fuse ∧ q.fuse ≤ 9223372036854775807 ∧ Rd (fun b => b < w.heap.size) w v3 q.keep := fun i hil => by
      obtain ⟨cs', hc, ht'⟩ := hi i (by omega)
      rw [cells96] at hc
      obtain ⟨_, hcl, hat⟩ := World.cells?_some hc
      obtain ⟨xs, n', _, _, _, hxl, hg⟩ := DataW.trod_struct hs ht'
      obtain ⟨o0, q0⟩ := hone_of hone 0 f0 rfl
      obtain ⟨o1, q1⟩ := hone_of hone 1 f1 rfl
      obtain ⟨o2, q2⟩ := hone_of hone 2 f2 rfl
      obtain ⟨o3, q3⟩ := hone_of hone 3 f3 rfl
      match cs', xs, hcl, hxl, hat, hg with
      | [c0, c1, c2, c3], [y0, y1, y2, y3], _, _, hat, hg =>
        have a0 := hat 0 (by omega)
        have g0 := hg 0 f0 rfl
        rw [o0, q0, t0] at g0
        have a1 := hat 1 (by omega)
        have g1 := hg 1 f1 rfl
        rw [o1, q1, t1] at g1
        have a2 := hat 2 (by omega)
        have g2 := hg 2 f2 rfl
        rw [o2, q2, t2] at g2
        have a3 := hat 3 (by omega)
        have g3 := hg 3 f3 rfl
        rw [o3, q3, t3] at g3
        obtain ⟨l0, h0⟩ := JOpens.open_cell (show DataW.trod enc Try.prog w 0 (fun _ => true) true n' 23 [c0] = some y0 from g0)
        obtain ⟨A1, k1, l1, e1, h1⟩ := open_rowcell (show DataW.trod enc Try.prog w 0 (fun _ => true) true n' 57 [c1] = some y1 from g1)
        cases e1
        obtain ⟨z2, e2, _, wf2⟩ := DataW.trod_int Try.underlying3 (show DataW.trod enc Try.prog w 0 (fun _ => true) true n' 3 [c2] = some y2 from g2)
        cases e2
        have b2 : -9223372036854775808 ≤ z2 ∧ z2 ≤ 9223372036854775807 := by simpa [Lit.wf, IntKind.min, IntKind.max, IntKind.signed, IntKind.bits] using wf2
        obtain ⟨l3, h3⟩ := JOpens.open_cell (show DataW.trod enc Try.prog w 0 (fun _ => true) true n' 23 [c3] = some y3 from g3)
        exact ⟨⟨l0, l1, z2, l3⟩, c0, A1, k1, c3, a0, a1, a2, a3, h0, h1, b2.1, b2.2, h3⟩
    obtain ⟨f, hfx⟩ := choose_lt each
    have hlen : ((List.range n0).map f).length = n0 := by simp
    refine ⟨some a, k0, (List.range n0).map f, by rw [hlen], by rw [hlen]; exact hlc, by unfold maxLen at hm; omega, (fun h => by cases h), fun ad ha i x hx' => ?_⟩
    cases ha
    have hil : i < n0 := by
      have := (List.getElem?_eq_some_iff.1 hx').1
      rwa [hlen] at this
    simp [hil] at hx'
    subst hx'
    exact hfx i hil
end Go.Proofs.Ytbnicphegbdfnaa.VO
namespace Go.Proofs.Ytbnicphegbdfnaa.VL
set_option maxRecDepth 100000
open Go Go.RowKit Go.Proofs.Ytbnicphegbdfnaa Go.Proofs.Ytbnicphegbdfnaa.Facts Go.Proofs.Ytbnicphegbdfnaa.Bytes Go.Proofs.Ytbnicphegbdfnaa.DKeep Go.Proofs.Ytbnicphegbdfnaa.DSmall Go.Proofs.Ytbnicphegbdfnaa.Puts Go.Proofs.Ytbnicphegbdfnaa.Scan Go.Proofs.Ytbnicphegbdfnaa.SPure Go.Proofs.Ytbnicphegbdfnaa.JA Go.Proofs.Ytbnicphegbdfnaa.JB Go.Proofs.Ytbnicphegbdfnaa.JD Go.Proofs.Ytbnicphegbdfnaa.JE Go.Proofs.Ytbnicphegbdfnaa.JF Go.Proofs.Ytbnicphegbdfnaa.JH Go.Proofs.Ytbnicphegbdfnaa.JQ Go.Proofs.Ytbnicphegbdfnaa.AP Go.Proofs.Ytbnicphegbdfnaa.AQ Go.Proofs.Ytbnicphegbdfnaa.AA Go.Proofs.Ytbnicphegbdfnaa.AW Go.Proofs.Ytbnicphegbdfnaa.AV Go.Proofs.Ytbnicphegbdfnaa.AC Go.Proofs.Ytbnicphegbdfnaa.DS Go.Proofs.Ytbnicphegbdfnaa.AU Go.Proofs.Ytbnicphegbdfnaa.SP Go.Proofs.Ytbnicphegbdfnaa.SN Go.Proofs.Ytbnicphegbdfnaa.SB Go.Proofs.Ytbnicphegbdfnaa.SC Go.Proofs.Ytbnicphegbdfnaa.VA Go.Proofs.Ytbnicphegbdfnaa.VB Go.Proofs.Ytbnicphegbdfnaa.VC Go.Proofs.Ytbnicphegbdfnaa.VD Go.Proofs.Ytbnicphegbdfnaa.VE Go.Proofs.Ytbnicphegbdfnaa.VF Go.Proofs.Ytbnicphegbdfnaa.VG Go.Proofs.Ytbnicphegbdfnaa.VH Go.Proofs.Ytbnicphegbdfnaa.VI Go.Proofs.Ytbnicphegbdfnaa.VJ Go.Proofs.Ytbnicphegbdfnaa.VK
theorem keeps_long (w : World) (A B : Option Addr) (cA cB nB : Nat) (st : List UInt8) (h : 200 < st.length) :
    Calls Try.prog 10 #[.slice A st.length cA, .slice B nB cB] w fun e w' => e = .returned (.bool true) ∧ Grew w w' := by
  have h' : (200 : Int) < (st.length : Int) := by omega
  clear h
  go_enter Try.func10, Try.ntmps10
  go_upto_region 2 with fail
  have hgw : Grew w (w.alloc (Obj.cells #[.int .i64 2, .int .i64 3, .int .i64 2] 90)) := (Below.refl _ w).alloc (Nat.le_refl _) _
  have HGW := Lib.hid hgw
  clear hgw
  generalize w.alloc (Obj.cells #[.int .i64 2, .int .i64 3, .int .i64 2] 90) = W0 at *
  obtain ⟨BP, hBP⟩ : ∃ BP, w.heap.size = BP := ⟨_, rfl⟩
  rw [hBP]
  clear hBP
  go_wp2_with fail
  refine (ds_new W0 10 10 rfl (by omega) (by omega)).mono ?_
  rintro e w1 ⟨g, rfl, hd⟩
  have HG1 := Lib.hid (HGW.out.trans hd.gr)
  clear hd
  go_wp2_with fail
  refine (VG.alive_any _).mono ?_
  rintro e w2 ⟨rfl, hg⟩
  have HG2 := Lib.hid (HG1.out.trans hg)
  clear hg
  go_wp2
  go_ret
  exact ⟨rfl, HG2.out⟩
end Go.Proofs.Ytbnicphegbdfnaa.VL
