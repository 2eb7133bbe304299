/-
  What a journal of five places of two sectors keeps behind a crash, as lists of bytes.
  Conditions: those that each lemma names.
-/
import Derived.Test.YtbnicphegbdfnaaJH
namespace Go.Proofs.Ytbnicphegbdfnaa.JP
set_option maxRecDepth 100000
set_option maxRecDepth 100000
open Go Go.RowKit Go.Proofs.Ytbnicphegbdfnaa Go.Proofs.Ytbnicphegbdfnaa.Facts Go.Proofs.Ytbnicphegbdfnaa.Bytes Go.Proofs.Ytbnicphegbdfnaa.DKeep Go.Proofs.Ytbnicphegbdfnaa.DSmall Go.Proofs.Ytbnicphegbdfnaa.Puts Go.Proofs.Ytbnicphegbdfnaa.Scan Go.Proofs.Ytbnicphegbdfnaa.SPure Go.Proofs.Ytbnicphegbdfnaa.JA Go.Proofs.Ytbnicphegbdfnaa.JB Go.Proofs.Ytbnicphegbdfnaa.JC Go.Proofs.Ytbnicphegbdfnaa.JD Go.Proofs.Ytbnicphegbdfnaa.JE Go.Proofs.Ytbnicphegbdfnaa.JF Go.Proofs.Ytbnicphegbdfnaa.JH

/-- What is said behind a crash. -/
structure JGo (base : Nat) (L : List Sec) (bs : List (List UInt8)) : Prop where
  len : L.length = 12
  ev : ∀ (a : Nat) (s : Sec), L[a]? = some s → s.length = 128
  few : bs.length ≤ 5
  fit : ∀ (p : Nat) (b : List UInt8), bs[p]? = some b → b.length ≤ 212
  says : ∀ (p : Nat) (b : List UInt8), bs[p]? = some b → loadsAt L 2 base 2 (p * 2) [] = some (recB b ++ zeros (216 - (recB b).length))
  stop : bs.length < 5 → loadsAt L 2 base 2 (bs.length * 2) [] = none
  high : ∀ a, a < 10 → (opened (L[2 + a]?.getD [])).2.2 = 0 → (opened (L[2 + a]?.getD [])).1 < base + 10
theorem o0 (base p : Nat) (b : List UInt8) (h1 : 1 ≤ base) (h2 : base + 10 ≤ 4611686018427387904) (hp : p < 5) : opened (s0 base p b) = (base + 2 * p, (recB b).take 108 ++ zeros (108 - ((recB b).take 108).length), 0) := opened_sealed _ _ (by simp; omega) (by rw [may_iff]; omega)
theorem o1 (base p : Nat) (b : List UInt8) (h1 : 1 ≤ base) (h2 : base + 10 ≤ 4611686018427387904) (hp : p < 5) : opened (s1 base p b) = (base + 2 * p + 1, ((recB b).drop 108).take 108 ++ zeros (108 - (((recB b).drop 108).take 108).length), 0) := opened_sealed _ _ (by simp; omega) (by rw [may_iff]; omega)
theorem low_of {base : Nat} {L : List Sec} {bs : List (List UInt8)} (h : JGd base L bs) (a : Nat) (ha : a < 10) (ho : (opened (L[2 + a]?.getD [])).2.2 = 0) : (opened (L[2 + a]?.getD [])).1 < base + 10 := by
  by_cases h1 : 2 * bs.length ≤ a
  · have := h.old a h1 ha ho; omega
  · obtain ⟨b, hb⟩ : ∃ b, bs[a / 2]? = some b := ⟨_, List.getElem?_eq_getElem (by omega)⟩
    have hp5 : a / 2 < 5 := by omega
    rcases Nat.mod_two_eq_zero_or_one a with e | e
    · have := h.at0 (a / 2) b hb
      rw [show 2 + 2 * (a / 2) = 2 + a by omega] at this
      rw [this, Option.getD_some, o0 base _ b h.low h.high hp5]
      show base + 2 * (a / 2) < base + 10
      omega
    · have := h.at1 (a / 2) b hb
      rw [show 3 + 2 * (a / 2) = 2 + a by omega] at this
      rw [this, Option.getD_some, o1 base _ b h.low h.high hp5]
      show base + 2 * (a / 2) + 1 < base + 10
      omega
theorem JGo.of {base : Nat} {L : List Sec} {bs : List (List UInt8)} (h : JGd base L bs) : JGo base L bs where
  len := h.len
  ev := h.ev
  few := h.few
  fit := h.fit
  says := h.loads
  stop := fun h5 => by
    rw [loadsAt]
    exact if_neg fun hh => by have := h.old (bs.length * 2) (by omega) (by omega) hh.1; omega
  high := low_of h
theorem JGo.scan {base : Nat} {L : List Sec} {bs : List (List UInt8)} (h : JGo base L bs) : ∀ (m p : Nat), m + p = 5 → p ≤ bs.length → jscan L 2 base 2 m (p * 2) (bs.take p) = bs
  | 0, p, h1, h2 => by
    rw [jscan]
    have := h.few
    exact List.take_of_length_le (by omega)
  | m + 1, p, h1, h2 => by
    rw [jscan]
    by_cases hp : p < bs.length
    · obtain ⟨b, hb⟩ : ∃ b, bs[p]? = some b := ⟨_, List.getElem?_eq_getElem hp⟩
      rw [h.says p b hb]
      simp only [told_rec b _ (h.fit p b hb)]
      rw [if_pos trivial, show p * 2 + 2 = (p + 1) * 2 by omega, show bs.take p ++ [b] = bs.take (p + 1) by rw [List.take_add_one, hb]; rfl]
      exact h.scan m (p + 1) (by omega) (by omega)
    · have hpe : p = bs.length := by omega
      have hn := h.stop (by omega)
      rw [← hpe] at hn
      rw [hn]
      exact List.take_of_length_le (by omega)
theorem JGo.next {base : Nat} {L : List Sec} {bs : List (List UInt8)} (h : JGo base L bs) (h2 : base + 20 ≤ 4611686018427387904) : JGd (base + 10) L [] where
  len := h.len
  ev := h.ev
  few := Nat.zero_le _
  low := by omega
  high := by omega
  fit := fun p b h => by cases h
  at0 := fun p b h => by cases h
  at1 := fun p b h => by cases h
  old := fun a _ h2 h3 => h.high a h2 h3
theorem cut_torn (base p : Nat) (s : Sec) (load : List UInt8) (hl : load.length ≤ 108) (hs : may base = true) (he : s = sealed base load) (k : Nat) (hk : k ≤ 16) : DOver.cutw (zeros 128) s k = s ∨ (opened (DOver.cutw (zeros 128) s k)).2.2 = 2 := by
  subst he
  by_cases h1 : DOver.cutw (zeros 128) (sealed base load) k = sealed base load
  · exact .inl h1
  · right
    by_cases h2 : DOver.cutw (zeros 128) (sealed base load) k = zeros 128
    · rw [h2, opened_zero]
    · have hm := (may_iff base).1 hs
      have := torn (zeros 128) (sealed base load) 0 base (8 * k) stamped_zeros (stamped_sealed base load hl) (by omega) (by omega) (by omega) (by omega) h1 h2
      unfold DOver.cutw
      rw [this]
theorem crash_any (base : Nat) (L : List Sec) (bs : List (List UInt8)) (b : List UInt8) (h : JGd base L bs) (hb : b.length ≤ 212) (hm : bs.length < 5) (k0 k1 : Nat) (hk0 : k0 ≤ 16) (hk1 : k1 ≤ 16)
    (L' : List Sec) (hL : L' = (L.set (2 + 2 * bs.length) (DOver.cutw (zeros 128) (s0 base bs.length b) k0)).set (3 + 2 * bs.length) (DOver.cutw (zeros 128) (s1 base bs.length b) k1)) : JGo base L' bs ∨ JGo base L' (bs ++ [b]) := by
  have hlo := h.low
  have hhi := h.high
  have t0 := cut_torn (base + 2 * bs.length) 0 (s0 base bs.length b) _ (by simp; omega) (by rw [may_iff]; omega) rfl k0 hk0
  have t1 := cut_torn (base + 2 * bs.length + 1) 0 (s1 base bs.length b) _ (by simp; omega) (by rw [may_iff]; omega) rfl k1 hk1
  have p0 : (DOver.cutw (zeros 128) (s0 base bs.length b) k0).length = 128 := DOver.cutw_length _ _ _ (zeros_length 128) (s0_length _ _ _) hk0
  have p1 : (DOver.cutw (zeros 128) (s1 base bs.length b) k1).length = 128 := DOver.cutw_length _ _ _ (zeros_length 128) (s1_length _ _ _) hk1
  generalize DOver.cutw (zeros 128) (s0 base bs.length b) k0 = P0 at *
  generalize DOver.cutw (zeros 128) (s1 base bs.length b) k1 = P1 at *
  by_cases hw : P0 = s0 base bs.length b ∧ P1 = s1 base bs.length b
  · right
    rw [hw.1, hw.2] at hL
    rw [hL]
    exact JGo.of (h.put b hb hm)
  · left
    have hg : ∀ a, a ≠ 2 + 2 * bs.length → a ≠ 3 + 2 * bs.length → L'[a]? = L[a]? := fun a h1 h2 => by
      rw [hL, List.getElem?_set_ne (by omega), List.getElem?_set_ne (by omega)]
    have g0 : L'[2 + 2 * bs.length]? = some P0 := by
      rw [hL, List.getElem?_set_ne (by omega), List.getElem?_set_self (by rw [h.len]; omega)]
    have g1 : L'[3 + 2 * bs.length]? = some P1 := by
      rw [hL, List.getElem?_set_self (by rw [List.length_set, h.len]; omega)]
    refine ⟨by rw [hL, List.length_set, List.length_set, h.len], fun a s hs => ?_, h.few, h.fit, fun p c hp => ?_, fun _ => ?_, fun a ha ho => ?_⟩
    · by_cases e0 : a = 2 + 2 * bs.length
      · rw [e0, g0] at hs
        injection hs with hs
        rw [← hs]; exact p0
      · by_cases e1 : a = 3 + 2 * bs.length
        · rw [e1, g1] at hs
          injection hs with hs
          rw [← hs]; exact p1
        · rw [hg a e0 e1] at hs
          exact h.ev a s hs
    · have hpl := (List.getElem?_eq_some_iff.1 hp).1
      have hq := h.loads p c hp
      rw [loadsAt, loadsAt, loadsAt] at hq ⊢
      rwa [hg _ (by omega) (by omega), hg _ (by omega) (by omega)]
    · rw [loadsAt, loadsAt]
      rw [show 2 + bs.length * 2 = 2 + 2 * bs.length by omega, show 2 + (bs.length * 2 + 1) = 3 + 2 * bs.length by omega, g0, g1]
      simp only [Option.getD_some]
      rcases t0 with e0 | e0
      · have e1 : (opened P1).2.2 = 2 := by
          rcases t1 with e1 | e1
          · exact absurd ⟨e0, e1⟩ hw
          · exact e1
        split
        · exact if_neg fun hh => by have := hh.1; omega
        · rfl
      · exact if_neg fun hh => by have := hh.1; omega
    · by_cases e0 : a = 2 * bs.length
      · rw [e0, g0, Option.getD_some] at ho ⊢
        rcases t0 with q | q
        · rw [q, o0 base _ b hlo hhi hm]
          show base + 2 * bs.length < base + 10
          omega
        · omega
      · by_cases e1 : a = 2 * bs.length + 1
        · rw [show 2 + a = 3 + 2 * bs.length by omega, g1, Option.getD_some] at ho ⊢
          rcases t1 with q | q
          · rw [q, o1 base _ b hlo hhi hm]
            show base + 2 * bs.length + 1 < base + 10
            omega
          · omega
        · rw [hg _ (by omega) (by omega)] at ho ⊢
          exact low_of h a ha ho
end Go.Proofs.Ytbnicphegbdfnaa.JP
