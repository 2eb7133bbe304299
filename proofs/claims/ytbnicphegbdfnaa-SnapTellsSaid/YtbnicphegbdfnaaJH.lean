/-
  What a journal of five places of two sectors keeps, as lists of bytes.
  Conditions: those that each lemma names.
-/
import Derived.Test.YtbnicphegbdfnaaJF
namespace Go.Proofs.Ytbnicphegbdfnaa.JH
set_option maxRecDepth 100000
set_option maxRecDepth 100000
open Go Go.RowKit Go.Proofs.Ytbnicphegbdfnaa Go.Proofs.Ytbnicphegbdfnaa.Facts Go.Proofs.Ytbnicphegbdfnaa.Bytes Go.Proofs.Ytbnicphegbdfnaa.DKeep Go.Proofs.Ytbnicphegbdfnaa.DSmall Go.Proofs.Ytbnicphegbdfnaa.Puts Go.Proofs.Ytbnicphegbdfnaa.Scan Go.Proofs.Ytbnicphegbdfnaa.SPure Go.Proofs.Ytbnicphegbdfnaa.JA Go.Proofs.Ytbnicphegbdfnaa.JB Go.Proofs.Ytbnicphegbdfnaa.JC Go.Proofs.Ytbnicphegbdfnaa.JD Go.Proofs.Ytbnicphegbdfnaa.JE Go.Proofs.Ytbnicphegbdfnaa.JF

/-- A disk on which nothing waits. -/
def calm (L : List Sec) : Pd := ⟨L, L, [], -1, false⟩
def s0 (base m : Nat) (b : List UInt8) : Sec := sealed (base + 2 * m) ((recB b).take 108)
def s1 (base m : Nat) (b : List UInt8) : Sec := sealed (base + 2 * m + 1) (((recB b).drop 108).take 108)
/-- The record b is put to the place m. -/
def put (base m : Nat) (b : List UInt8) (L : List Sec) : List Sec := (L.set (2 + 2 * m) (s0 base m b)).set (3 + 2 * m) (s1 base m b)
theorem s0_length (base m : Nat) (b : List UInt8) : (s0 base m b).length = 128 := sealed_length _ _ (by simp; omega)
theorem s1_length (base m : Nat) (b : List UInt8) : (s1 base m b).length = 128 := sealed_length _ _ (by simp; omega)
theorem cut16 (A B : Sec) (hA : A.length = 128) (hB : B.length = 128) : DOver.cutw A B 16 = B := by
  unfold DOver.cutw
  rw [show 8 * 16 = 128 from rfl, List.take_of_length_le (by omega), List.drop_of_length_le (by omega), List.append_nil]
theorem recB_take (b : List UInt8) : (recB b).take 108 ++ zeros (108 - ((recB b).take 108).length) ++ (((recB b).drop 108).take 108 ++ zeros (108 - (((recB b).drop 108).take 108).length)) = recB b ++ zeros (216 - (recB b).length) ∨ 212 < b.length := by
  by_cases h : 212 < b.length
  · exact .inr h
  · left
    have hl := recB_length b
    have hr : (recB b).length ≤ 216 := by omega
    generalize recB b = r at *
    by_cases h1 : r.length ≤ 108
    · rw [List.take_of_length_le h1, List.drop_of_length_le h1]
      simp only [List.take_nil, List.length_nil, List.nil_append, List.append_assoc]
      unfold zeros
      rw [List.replicate_append_replicate, show 108 - r.length + (108 - 0) = 216 - r.length by omega]
    · have e1 : (r.take 108).length = 108 := by rw [List.length_take]; omega
      have e2 : (r.drop 108).take 108 = r.drop 108 := List.take_of_length_le (by rw [List.length_drop]; omega)
      rw [e2, e1, List.length_drop]
      unfold zeros
      rw [Nat.sub_self, List.replicate_zero, List.append_nil, ← List.append_assoc, List.take_append_drop, show 108 - (r.length - 108) = 216 - r.length by omega]
theorem some0_zeros (k : Nat) : some0 (zeros k) = false := by
  unfold some0 zeros
  rw [List.any_eq_false]
  intro x hx
  rw [List.eq_of_mem_replicate hx]
  decide
theorem told_rec (b : List UInt8) (k : Nat) (h : b.length ≤ 212) : toldS (recB b ++ zeros k) = (b, true) := by
  have e4 : (be 4 b.length).length = 4 := by rw [be_length]
  have hv : Sc.val (be 4 b.length) = b.length := val_be _ 4 (by omega)
  have h1 : Sc.num ⟨recB b ++ zeros k, 0⟩ 4 = (b.length, ⟨b ++ zeros k, 0⟩) := by
    unfold Sc.num Sc.take recB
    rw [if_pos rfl, if_pos (by simp [e4])]
    simp only [List.append_assoc]
    rw [show (be 4 b.length ++ (b ++ zeros k)).take 4 = be 4 b.length by rw [List.take_append_of_le_length (by omega), List.take_of_length_le (by omega)], hv]
    rw [show (be 4 b.length ++ (b ++ zeros k)).drop 4 = b ++ zeros k from List.drop_left' (be_length 4 _)]
  unfold toldS
  simp only [h1]
  have h2 : Sc.rule ⟨b ++ zeros k, 0⟩ (decide ((b.length : Int) ≤ ((Sc.left ⟨b ++ zeros k, 0⟩ : Nat) : Int))) 2 = ⟨b ++ zeros k, 0⟩ := by
    unfold Sc.rule Sc.left
    rw [if_neg]
    rintro ⟨h, _⟩
    simp at h
    omega
  rw [h2]
  have h3 : Sc.take ⟨b ++ zeros k, 0⟩ b.length = (b, ⟨zeros k, 0⟩) := by
    unfold Sc.take
    rw [if_pos rfl, if_pos (by simp)]
    simp
  rw [h3]
  have h4 : Sc.take ⟨zeros k, 0⟩ (Sc.left ⟨zeros k, 0⟩) = (zeros k, ⟨[], 0⟩) := by
    unfold Sc.take Sc.left
    rw [if_pos rfl, if_pos rfl, if_pos (Nat.le_refl _)]
    simp
  have h5 : Sc.rule ⟨[], 0⟩ (!false) 2 = ⟨[], 0⟩ := by
    unfold Sc.rule
    exact if_neg (by simp)
  simp only [h4, some0_zeros, h5]
  exact if_pos trivial

structure JGd (base : Nat) (L : List Sec) (bs : List (List UInt8)) : Prop where
  len : L.length = 12
  ev : ∀ (a : Nat) (s : Sec), L[a]? = some s → s.length = 128
  few : bs.length ≤ 5
  low : 1 ≤ base
  high : base + 10 ≤ 4611686018427387904
  fit : ∀ (p : Nat) (b : List UInt8), bs[p]? = some b → b.length ≤ 212
  at0 : ∀ (p : Nat) (b : List UInt8), bs[p]? = some b → L[2 + 2 * p]? = some (s0 base p b)
  at1 : ∀ (p : Nat) (b : List UInt8), bs[p]? = some b → L[3 + 2 * p]? = some (s1 base p b)
  old : ∀ a, 2 * bs.length ≤ a → a < 10 → (opened (L[2 + a]?.getD [])).2.2 = 0 → (opened (L[2 + a]?.getD [])).1 < base
theorem JGd.fresh : JGd 3 (DNew.blank 12) [] where
  len := DNew.blank_length 12
  ev := fun a s h => by
    have := List.mem_of_getElem? h
    rw [List.eq_of_mem_replicate this]
    simp [DNew.zsec]
  few := Nat.zero_le _
  low := by omega
  high := by omega
  fit := fun p b h => by cases h
  at0 := fun p b h => by cases h
  at1 := fun p b h => by cases h
  old := fun a h1 h2 h3 => by
    have e : (DNew.blank 12)[2 + a]?.getD [] = zeros 128 := by
      unfold DNew.blank
      rw [List.getElem?_replicate, if_pos (by omega)]
      rfl
    rw [e, opened_zero] at h3
    exact absurd h3 (by decide)
theorem JGd.put {base : Nat} {L : List Sec} {bs : List (List UInt8)} (h : JGd base L bs) (b : List UInt8) (hb : b.length ≤ 212) (hm : bs.length < 5) : JGd base (put base bs.length b L) (bs ++ [b]) := by
  have hl : (JH.put base bs.length b L).length = 12 := by unfold JH.put; rw [List.length_set, List.length_set, h.len]
  have hg : ∀ a, a ≠ 2 + 2 * bs.length → a ≠ 3 + 2 * bs.length → (JH.put base bs.length b L)[a]? = L[a]? := fun a h1 h2 => by
    unfold JH.put
    rw [List.getElem?_set_ne (by omega), List.getElem?_set_ne (by omega)]
  have g0 : (JH.put base bs.length b L)[2 + 2 * bs.length]? = some (s0 base bs.length b) := by
    unfold JH.put
    rw [List.getElem?_set_ne (by omega), List.getElem?_set_self (by rw [h.len]; omega)]
  have g1 : (JH.put base bs.length b L)[3 + 2 * bs.length]? = some (s1 base bs.length b) := by
    unfold JH.put
    rw [List.getElem?_set_self (by rw [List.length_set, h.len]; omega)]
  have hc : ∀ (p : Nat) (c : List UInt8), (bs ++ [b])[p]? = some c → (p < bs.length ∧ bs[p]? = some c) ∨ (p = bs.length ∧ c = b) := fun p c hp => by
    by_cases hi : p < bs.length
    · rw [List.getElem?_append_left hi] at hp
      exact .inl ⟨hi, hp⟩
    · rw [List.getElem?_append_right (by omega)] at hp
      rcases Nat.eq_zero_or_pos (p - bs.length) with e | e
      · rw [e] at hp
        injection hp with hp
        exact .inr ⟨by omega, hp.symm⟩
      · rw [List.getElem?_eq_none (by simp; omega)] at hp; cases hp
  refine ⟨hl, fun a s hs => ?_, by simp; omega, h.low, h.high, fun p c hp => ?_, fun p c hp => ?_, fun p c hp => ?_, fun a h1 h2 => ?_⟩
  · by_cases e0 : a = 2 + 2 * bs.length
    · rw [e0, g0] at hs
      injection hs with hs
      rw [← hs]; exact s0_length _ _ _
    · by_cases e1 : a = 3 + 2 * bs.length
      · rw [e1, g1] at hs
        injection hs with hs
        rw [← hs]; exact s1_length _ _ _
      · rw [hg a e0 e1] at hs
        exact h.ev a s hs
  · rcases hc p c hp with ⟨_, h3⟩ | ⟨_, h3⟩
    · exact h.fit p c h3
    · rw [h3]; exact hb
  · rcases hc p c hp with ⟨h2, h3⟩ | ⟨h2, h3⟩
    · rw [hg _ (by omega) (by omega)]; exact h.at0 p c h3
    · rw [h2, h3]; exact g0
  · rcases hc p c hp with ⟨h2, h3⟩ | ⟨h2, h3⟩
    · rw [hg _ (by omega) (by omega)]; exact h.at1 p c h3
    · rw [h2, h3]; exact g1
  · rw [List.length_append, List.length_singleton] at h1
    rw [hg _ (by omega) (by omega)]
    exact h.old a (by omega) h2
theorem JGd.loads {base : Nat} {L : List Sec} {bs : List (List UInt8)} (h : JGd base L bs) (p : Nat) (b : List UInt8) (hp : bs[p]? = some b) : loadsAt L 2 base 2 (p * 2) [] = some (recB b ++ zeros (216 - (recB b).length)) := by
  have hp5 : p < 5 := by have := (List.getElem?_eq_some_iff.1 hp).1; have := h.few; omega
  have hlo := h.low
  have hhi := h.high
  have q0 := h.at0 p b hp
  have q1 := h.at1 p b hp
  have o0 : opened (s0 base p b) = (base + 2 * p, (recB b).take 108 ++ zeros (108 - ((recB b).take 108).length), 0) := opened_sealed _ _ (by simp; omega) (by rw [may_iff]; omega)
  have o1 : opened (s1 base p b) = (base + 2 * p + 1, ((recB b).drop 108).take 108 ++ zeros (108 - (((recB b).drop 108).take 108).length), 0) := opened_sealed _ _ (by simp; omega) (by rw [may_iff]; omega)
  rw [loadsAt, loadsAt, loadsAt]
  rw [show 2 + p * 2 = 2 + 2 * p by omega, show 2 + (p * 2 + 1) = 3 + 2 * p by omega, q0, q1]
  simp only [Option.getD_some, o0, o1]
  rw [if_pos ⟨trivial, by omega⟩, if_pos ⟨trivial, by omega⟩, List.nil_append]
  rcases recB_take b with e | e
  · rw [e]
  · have := h.fit p b hp; omega
theorem JGd.scan {base : Nat} {L : List Sec} {bs : List (List UInt8)} (h : JGd base L bs) : ∀ (m p : Nat), m + p = 5 → p ≤ bs.length → jscan L 2 base 2 m (p * 2) (bs.take p) = bs
  | 0, p, h1, h2 => by
    rw [jscan]
    have := h.few
    exact List.take_of_length_le (by omega)
  | m + 1, p, h1, h2 => by
    rw [jscan]
    by_cases hp : p < bs.length
    · obtain ⟨b, hb⟩ : ∃ b, bs[p]? = some b := ⟨_, List.getElem?_eq_getElem hp⟩
      rw [h.loads p b hb]
      simp only [told_rec b _ (h.fit p b hb)]
      rw [if_pos trivial, show p * 2 + 2 = (p + 1) * 2 by omega, show bs.take p ++ [b] = bs.take (p + 1) by rw [List.take_add_one, hb]; rfl]
      exact h.scan m (p + 1) (by omega) (by omega)
    · have hpe : p = bs.length := by omega
      have hn : loadsAt L 2 base 2 (p * 2) [] = none := by
        rw [loadsAt]
        exact if_neg fun hh => by have := h.old (p * 2) (by omega) (by omega) hh.1; omega
      rw [hn]
      exact List.take_of_length_le (by omega)
theorem JGd.stale {base : Nat} {L : List Sec} {bs : List (List UInt8)} (h : JGd base L bs) (base' : Nat) (hb : base < base') : jscan L 2 base' 2 5 0 [] = [] := by
  have hn : loadsAt L 2 base' 2 0 [] = none := by
    rw [loadsAt]
    refine if_neg fun hh => ?_
    by_cases hp : 0 < bs.length
    · obtain ⟨b, hb2⟩ : ∃ b, bs[0]? = some b := ⟨_, List.getElem?_eq_getElem hp⟩
      have q0 := h.at0 0 b hb2
      have hlo := h.low
      have hhi := h.high
      have o0 : opened (s0 base 0 b) = (base + 2 * 0, (recB b).take 108 ++ zeros (108 - ((recB b).take 108).length), 0) := opened_sealed _ _ (by simp; omega) (by rw [may_iff]; omega)
      have := hh.2
      rw [show 2 + 0 = 2 + 2 * 0 from rfl, q0, Option.getD_some, o0] at this
      simp at this
      omega
    · have := h.old 0 (by omega) (by omega) hh.1
      have := hh.2
      omega
  rw [jscan, hn]

theorem written_calm (L : List Sec) (wt : List (Nat × Sec)) (S : List Sec) (n : Nat) (l : Sec) (hl : l.length = 128) (hn : n < S.length) : DWrite.written ⟨S, L, wt, -1, false⟩ (n : Int) l = (⟨S, L.set n l, wt ++ [(n, l)], -1, false⟩, 0) := by
  unfold DWrite.written refus
  have h1 : ¬ ((n : Int) < 0 ∨ ((S.length : Nat) : Int) ≤ (n : Int)) := by omega
  simp only [if_neg h1, if_neg (show ¬ (false = true) by decide)]
  rw [if_pos trivial, if_pos hl]
  unfold DTurn.blown DWrite.noted
  simp
theorem flushed_calm (L : List Sec) (a b : Nat) (x y : Sec) (ha : a < L.length) (hb : b < L.length) (hab : a ≠ b) (hx : x.length = 128) (hy : y.length = 128) (hev : ∀ (a : Nat) (s : Sec), L[a]? = some s → s.length = 128) :
    DFlush.flushed ⟨L, (L.set a x).set b y, [(a, x), (b, y)], -1, false⟩ = (calm ((L.set a x).set b y), 0) := by
  have hA : ∀ s, L[a]? = some s → DOver.cutw s x 16 = x := fun s hs => cut16 s x (hev a s hs) hx
  have hB : ∀ s, L[b]? = some s → DOver.cutw s y 16 = y := fun s hs => cut16 s y (hev b s hs) hy
  have ga : L[a]? = some (L[a]'ha) := List.getElem?_eq_getElem ha
  have gb : L[b]? = some (L[b]'hb) := List.getElem?_eq_getElem hb
  unfold DFlush.flushed DTurn.blown
  simp only [if_neg (show ¬ (false = true) by decide), if_pos trivial, if_pos rfl]
  unfold DFlush.ended calm
  have e1 : DSettle.settled (fun _ => 16) L [(a, x), (b, y)] 2 = (L.set a x).set b y := by
    unfold DSettle.settled
    simp only [List.getElem?_cons_succ, List.getElem?_cons_zero]
    unfold DSettle.settled
    simp only [List.getElem?_cons_zero]
    unfold DSettle.settled
    rw [ga, Option.getD_some, hA _ ga, List.getElem?_set_ne hab, gb, Option.getD_some, hB _ gb]
  have e2 : DSettle.relast ((L.set a x).set b y) ((L.set a x).set b y) [(a, x), (b, y)] 2 = (L.set a x).set b y := by
    have r : ∀ (M : List Sec) (k : Nat), k < M.length → M.set k (M[k]?.getD []) = M := fun M k hk => by
      rw [List.getElem?_eq_getElem hk, Option.getD_some, List.set_getElem_self]
    unfold DSettle.relast
    simp only [List.getElem?_cons_succ, List.getElem?_cons_zero]
    unfold DSettle.relast
    simp only [List.getElem?_cons_zero]
    unfold DSettle.relast
    rw [r _ a (by simp; exact ha), r _ b (by simp; exact hb)]
  simp only [List.length_cons, List.length_nil, Nat.zero_add, Nat.reduceAdd, e1, e2]
theorem japp_calm (base m : Nat) (L : List Sec) (b : List UInt8) (hl : L.length = 12) (hev : ∀ (a : Nat) (s : Sec), L[a]? = some s → s.length = 128) (hb : b.length ≤ 212) (hm : m < 5) : japp ⟨2, 5, 2, m, base⟩ (calm L) b = (⟨2, 5, 2, m + 1, base⟩, calm (put base m b L), 0) := by
  have hw : jw 2 base 2 (m * 2) (recB b) (calm L) = (⟨L, (L.set (2 + 2 * m) (s0 base m b)).set (3 + 2 * m) (s1 base m b), [(2 + 2 * m, s0 base m b), (3 + 2 * m, s1 base m b)], -1, false⟩, 0) := by
    have e0 : sealed (base + m * 2) ((recB b).take 108) = s0 base m b := by unfold s0; rw [show m * 2 = 2 * m by omega]
    have e1 : sealed (base + (m * 2 + 1)) (((recB b).drop 108).take 108) = s1 base m b := by unfold s1; rw [show base + (m * 2 + 1) = base + 2 * m + 1 by omega]
    rw [jw, jw, jw]
    simp only [e0, e1]
    rw [show 2 + m * 2 = 2 + 2 * m by omega, show 2 + (m * 2 + 1) = 3 + 2 * m by omega]
    unfold calm
    rw [written_calm L [] L _ _ (s0_length _ _ _) (by omega)]
    simp only [if_pos trivial, if_pos rfl]
    rw [written_calm _ _ L _ _ (s1_length _ _ _) (by omega)]
    rfl
  have hf := flushed_calm L (2 + 2 * m) (3 + 2 * m) (s0 base m b) (s1 base m b) (by omega) (by omega) (by omega) (s0_length _ _ _) (s1_length _ _ _) hev
  unfold japp
  rw [if_neg (by show ¬ 108 * 2 - 4 < b.length; omega), if_neg (by show ¬ m = 5; omega)]
  simp only [hw, hf]
  rfl
theorem japp_long (j : Jr) (d : Pd) (b : List UInt8) (he : j.each = 2) (hb : 212 < b.length) : japp j d b = (j, d, 13) := by
  unfold japp
  rw [if_pos (by rw [he]; exact hb)]
end Go.Proofs.Ytbnicphegbdfnaa.JH
namespace Go.Proofs.Ytbnicphegbdfnaa.JP
set_option maxRecDepth 100000
set_option maxRecDepth 100000
open Go Go.RowKit Go.Proofs.Ytbnicphegbdfnaa Go.Proofs.Ytbnicphegbdfnaa.Facts Go.Proofs.Ytbnicphegbdfnaa.Bytes Go.Proofs.Ytbnicphegbdfnaa.DKeep Go.Proofs.Ytbnicphegbdfnaa.DSmall Go.Proofs.Ytbnicphegbdfnaa.Puts Go.Proofs.Ytbnicphegbdfnaa.Scan Go.Proofs.Ytbnicphegbdfnaa.SPure Go.Proofs.Ytbnicphegbdfnaa.JA Go.Proofs.Ytbnicphegbdfnaa.JB Go.Proofs.Ytbnicphegbdfnaa.JC Go.Proofs.Ytbnicphegbdfnaa.JD Go.Proofs.Ytbnicphegbdfnaa.JE Go.Proofs.Ytbnicphegbdfnaa.JF Go.Proofs.Ytbnicphegbdfnaa.JH

/-- What is said behind a crash. -/
structure JGo (base : Nat) (L : List Sec) (bs : List (List UInt8)) : Prop where
  len : L.length = 12
  ev : ∀ (a : Nat) (s : Sec), L[a]? = some s → s.length = 128
  few : bs.length ≤ 5
  fit : ∀ (p : Nat) (b : List UInt8), bs[p]? = some b → b.length ≤ 212
  says : ∀ (p : Nat) (b : List UInt8), bs[p]? = some b → loadsAt L 2 base 2 (p * 2) [] = some (recB b ++ zeros (216 - (recB b).length))
  stop : bs.length < 5 → loadsAt L 2 base 2 (bs.length * 2) [] = none
  high : ∀ a, a < 10 → (opened (L[2 + a]?.getD [])).2.2 = 0 → (opened (L[2 + a]?.getD [])).1 < base + 10
theorem o0 (base p : Nat) (b : List UInt8) (h1 : 1 ≤ base) (h2 : base + 10 ≤ 4611686018427387904) (hp : p < 5) : opened (s0 base p b) = (base + 2 * p, (recB b).take 108 ++ zeros (108 - ((recB b).take 108).length), 0) := opened_sealed _ _ (by simp; omega) (by rw [may_iff]; omega)
theorem o1 (base p : Nat) (b : List UInt8) (h1 : 1 ≤ base) (h2 : base + 10 ≤ 4611686018427387904) (hp : p < 5) : opened (s1 base p b) = (base + 2 * p + 1, ((recB b).drop 108).take 108 ++ zeros (108 - (((recB b).drop 108).take 108).length), 0) := opened_sealed _ _ (by simp; omega) (by rw [may_iff]; omega)
theorem low_of {base : Nat} {L : List Sec} {bs : List (List UInt8)} (h : JGd base L bs) (a : Nat) (ha : a < 10) (ho : (opened (L[2 + a]?.getD [])).2.2 = 0) : (opened (L[2 + a]?.getD [])).1 < base + 10 := by
  by_cases h1 : 2 * bs.length ≤ a
  · have := h.old a h1 ha ho; omega
  · obtain ⟨b, hb⟩ : ∃ b, bs[a / 2]? = some b := ⟨_, List.getElem?_eq_getElem (by omega)⟩
    have hp5 : a / 2 < 5 := by omega
    rcases Nat.mod_two_eq_zero_or_one a with e | e
    · have := h.at0 (a / 2) b hb
      rw [show 2 + 2 * (a / 2) = 2 + a by omega] at this
      rw [this, Option.getD_some, o0 base _ b h.low h.high hp5]
      show base + 2 * (a / 2) < base + 10
      omega
    · have := h.at1 (a / 2) b hb
      rw [show 3 + 2 * (a / 2) = 2 + a by omega] at this
      rw [this, Option.getD_some, o1 base _ b h.low h.high hp5]
      show base + 2 * (a / 2) + 1 < base + 10
      omega
theorem JGo.of {base : Nat} {L : List Sec} {bs : List (List UInt8)} (h : JGd base L bs) : JGo base L bs where
  len := h.len
  ev := h.ev
  few := h.few
  fit := h.fit
  says := h.loads
  stop := fun h5 => by
    rw [loadsAt]
    exact if_neg fun hh => by have := h.old (bs.length * 2) (by omega) (by omega) hh.1; omega
  high := low_of h
theorem JGo.scan {base : Nat} {L : List Sec} {bs : List (List UInt8)} (h : JGo base L bs) : ∀ (m p : Nat), m + p = 5 → p ≤ bs.length → jscan L 2 base 2 m (p * 2) (bs.take p) = bs
  | 0, p, h1, h2 => by
    rw [jscan]
    have := h.few
    exact List.take_of_length_le (by omega)
  | m + 1, p, h1, h2 => by
    rw [jscan]
    by_cases hp : p < bs.length
    · obtain ⟨b, hb⟩ : ∃ b, bs[p]? = some b := ⟨_, List.getElem?_eq_getElem hp⟩
      rw [h.says p b hb]
      simp only [told_rec b _ (h.fit p b hb)]
      rw [if_pos trivial, show p * 2 + 2 = (p + 1) * 2 by omega, show bs.take p ++ [b] = bs.take (p + 1) by rw [List.take_add_one, hb]; rfl]
      exact h.scan m (p + 1) (by omega) (by omega)
    · have hpe : p = bs.length := by omega
      have hn := h.stop (by omega)
      rw [← hpe] at hn
      rw [hn]
      exact List.take_of_length_le (by omega)
theorem JGo.next {base : Nat} {L : List Sec} {bs : List (List UInt8)} (h : JGo base L bs) (h2 : base + 20 ≤ 4611686018427387904) : JGd (base + 10) L [] where
  len := h.len
  ev := h.ev
  few := Nat.zero_le _
  low := by omega
  high := by omega
  fit := fun p b h => by cases h
  at0 := fun p b h => by cases h
  at1 := fun p b h => by cases h
  old := fun a _ h2 h3 => h.high a h2 h3
theorem cut_torn (base p : Nat) (s : Sec) (load : List UInt8) (hl : load.length ≤ 108) (hs : may base = true) (he : s = sealed base load) (k : Nat) (hk : k ≤ 16) : DOver.cutw (zeros 128) s k = s ∨ (opened (DOver.cutw (zeros 128) s k)).2.2 = 2 := by
  subst he
  by_cases h1 : DOver.cutw (zeros 128) (sealed base load) k = sealed base load
  · exact .inl h1
  · right
    by_cases h2 : DOver.cutw (zeros 128) (sealed base load) k = zeros 128
    · rw [h2, opened_zero]
    · have hm := (may_iff base).1 hs
      have := torn (zeros 128) (sealed base load) 0 base (8 * k) stamped_zeros (stamped_sealed base load hl) (by omega) (by omega) (by omega) (by omega) h1 h2
      unfold DOver.cutw
      rw [this]
theorem crash_any (base : Nat) (L : List Sec) (bs : List (List UInt8)) (b : List UInt8) (h : JGd base L bs) (hb : b.length ≤ 212) (hm : bs.length < 5) (k0 k1 : Nat) (hk0 : k0 ≤ 16) (hk1 : k1 ≤ 16)
    (L' : List Sec) (hL : L' = (L.set (2 + 2 * bs.length) (DOver.cutw (zeros 128) (s0 base bs.length b) k0)).set (3 + 2 * bs.length) (DOver.cutw (zeros 128) (s1 base bs.length b) k1)) : JGo base L' bs ∨ JGo base L' (bs ++ [b]) := by
  have hlo := h.low
  have hhi := h.high
  have t0 := cut_torn (base + 2 * bs.length) 0 (s0 base bs.length b) _ (by simp; omega) (by rw [may_iff]; omega) rfl k0 hk0
  have t1 := cut_torn (base + 2 * bs.length + 1) 0 (s1 base bs.length b) _ (by simp; omega) (by rw [may_iff]; omega) rfl k1 hk1
  have p0 : (DOver.cutw (zeros 128) (s0 base bs.length b) k0).length = 128 := DOver.cutw_length _ _ _ (zeros_length 128) (s0_length _ _ _) hk0
  have p1 : (DOver.cutw (zeros 128) (s1 base bs.length b) k1).length = 128 := DOver.cutw_length _ _ _ (zeros_length 128) (s1_length _ _ _) hk1
  generalize DOver.cutw (zeros 128) (s0 base bs.length b) k0 = P0 at *
  generalize DOver.cutw (zeros 128) (s1 base bs.length b) k1 = P1 at *
  by_cases hw : P0 = s0 base bs.length b ∧ P1 = s1 base bs.length b
  · right
    rw [hw.1, hw.2] at hL
    rw [hL]
    exact JGo.of (h.put b hb hm)
  · left
    have hg : ∀ a, a ≠ 2 + 2 * bs.length → a ≠ 3 + 2 * bs.length → L'[a]? = L[a]? := fun a h1 h2 => by
      rw [hL, List.getElem?_set_ne (by omega), List.getElem?_set_ne (by omega)]
    have g0 : L'[2 + 2 * bs.length]? = some P0 := by
      rw [hL, List.getElem?_set_ne (by omega), List.getElem?_set_self (by rw [h.len]; omega)]
    have g1 : L'[3 + 2 * bs.length]? = some P1 := by
      rw [hL, List.getElem?_set_self (by rw [List.length_set, h.len]; omega)]
    refine ⟨by rw [hL, List.length_set, List.length_set, h.len], fun a s hs => ?_, h.few, h.fit, fun p c hp => ?_, fun _ => ?_, fun a ha ho => ?_⟩
    · by_cases e0 : a = 2 + 2 * bs.length
      · rw [e0, g0] at hs
        injection hs with hs
        rw [← hs]; exact p0
      · by_cases e1 : a = 3 + 2 * bs.length
        · rw [e1, g1] at hs
          injection hs with hs
          rw [← hs]; exact p1
        · rw [hg a e0 e1] at hs
          exact h.ev a s hs
    · have hpl := (List.getElem?_eq_some_iff.1 hp).1
      have hq := h.loads p c hp
      rw [loadsAt, loadsAt, loadsAt] at hq ⊢
      rwa [hg _ (by omega) (by omega), hg _ (by omega) (by omega)]
    · rw [loadsAt, loadsAt]
      rw [show 2 + bs.length * 2 = 2 + 2 * bs.length by omega, show 2 + (bs.length * 2 + 1) = 3 + 2 * bs.length by omega, g0, g1]
      simp only [Option.getD_some]
      rcases t0 with e0 | e0
      · have e1 : (opened P1).2.2 = 2 := by
          rcases t1 with e1 | e1
          · exact absurd ⟨e0, e1⟩ hw
          · exact e1
        split
        · exact if_neg fun hh => by have := hh.1; omega
        · rfl
      · exact if_neg fun hh => by have := hh.1; omega
    · by_cases e0 : a = 2 * bs.length
      · rw [e0, g0, Option.getD_some] at ho ⊢
        rcases t0 with q | q
        · rw [q, o0 base _ b hlo hhi hm]
          show base + 2 * bs.length < base + 10
          omega
        · omega
      · by_cases e1 : a = 2 * bs.length + 1
        · rw [show 2 + a = 3 + 2 * bs.length by omega, g1, Option.getD_some] at ho ⊢
          rcases t1 with q | q
          · rw [q, o1 base _ b hlo hhi hm]
            show base + 2 * bs.length + 1 < base + 10
            omega
          · omega
        · rw [hg _ (by omega) (by omega)] at ho ⊢
          exact low_of h a ha ho
end Go.Proofs.Ytbnicphegbdfnaa.JP
namespace Go.Proofs.Ytbnicphegbdfnaa.JQ
set_option maxRecDepth 100000
set_option maxRecDepth 100000
open Go Go.RowKit Go.Proofs.Ytbnicphegbdfnaa Go.Proofs.Ytbnicphegbdfnaa.Facts Go.Proofs.Ytbnicphegbdfnaa.Bytes Go.Proofs.Ytbnicphegbdfnaa.DKeep Go.Proofs.Ytbnicphegbdfnaa.DSmall Go.Proofs.Ytbnicphegbdfnaa.Puts Go.Proofs.Ytbnicphegbdfnaa.Scan Go.Proofs.Ytbnicphegbdfnaa.SPure Go.Proofs.Ytbnicphegbdfnaa.JA Go.Proofs.Ytbnicphegbdfnaa.JB Go.Proofs.Ytbnicphegbdfnaa.JC Go.Proofs.Ytbnicphegbdfnaa.JD Go.Proofs.Ytbnicphegbdfnaa.JE Go.Proofs.Ytbnicphegbdfnaa.JF Go.Proofs.Ytbnicphegbdfnaa.JH Go.Proofs.Ytbnicphegbdfnaa.JP

/-- A disk on which nothing waits, with a fuse. -/
def calmF (L : List Sec) (f : Int) : Pd := ⟨L, L, [], f, false⟩
theorem written_on (L : List Sec) (wt : List (Nat × Sec)) (S : List Sec) (n f : Nat) (l : Sec) (hl : l.length = 128) (hn : n < S.length) : DWrite.written ⟨S, L, wt, ((f + 1 : Nat) : Int), false⟩ (n : Int) l = (⟨S, L.set n l, wt ++ [(n, l)], (f : Int), false⟩, 0) := by
  unfold DWrite.written refus
  have h1 : ¬ ((n : Int) < 0 ∨ ((S.length : Nat) : Int) ≤ (n : Int)) := by omega
  simp only [if_neg h1, if_neg (show ¬ (false = true) by decide)]
  rw [if_pos trivial, if_pos hl]
  unfold DTurn.blown DWrite.noted
  rw [if_neg (by show ¬ ((f + 1 : Nat) : Int) = -1; omega), if_neg (by show ¬ ((f + 1 : Nat) : Int) = 0; omega)]
  simp
theorem written_off (L : List Sec) (wt : List (Nat × Sec)) (S : List Sec) (n : Nat) (l : Sec) (hl : l.length = 128) (hn : n < S.length) : DWrite.written ⟨S, L, wt, 0, false⟩ (n : Int) l = (⟨S, L.set n l, wt ++ [(n, l)], 0, true⟩, 15) := by
  unfold DWrite.written refus
  have h1 : ¬ ((n : Int) < 0 ∨ ((S.length : Nat) : Int) ≤ (n : Int)) := by omega
  simp only [if_neg h1, if_neg (show ¬ (false = true) by decide)]
  rw [if_pos trivial, if_pos hl]
  unfold DTurn.blown DWrite.noted
  simp
theorem flushed_off (S L : List Sec) (wt : List (Nat × Sec)) : DFlush.flushed ⟨S, L, wt, 0, false⟩ = (⟨S, L, wt, 0, true⟩, 15) := by
  unfold DFlush.flushed DTurn.blown
  simp
theorem flushed_on (L : List Sec) (a b f : Nat) (x y : Sec) (ha : a < L.length) (hb : b < L.length) (hab : a ≠ b) (hx : x.length = 128) (hy : y.length = 128) (hev : ∀ (a : Nat) (s : Sec), L[a]? = some s → s.length = 128) :
    DFlush.flushed ⟨L, (L.set a x).set b y, [(a, x), (b, y)], ((f + 1 : Nat) : Int), false⟩ = (calmF ((L.set a x).set b y) (f : Int), 0) := by
  have hc := flushed_calm L a b x y ha hb hab hx hy hev
  unfold DFlush.flushed DTurn.blown at hc ⊢
  simp only [if_neg (show ¬ (false = true) by decide), if_pos trivial, if_pos rfl] at hc ⊢
  rw [if_neg (show ¬ ((f + 1 : Nat) : Int) = -1 by omega), if_neg (show ¬ ((f + 1 : Nat) : Int) = 0 by omega)]
  unfold DFlush.ended calm at hc
  unfold DFlush.ended calmF
  simp only [Prod.mk.injEq, Pd.mk.injEq, and_true] at hc ⊢
  rw [if_pos trivial]
  simp only [Prod.mk.injEq, Pd.mk.injEq, and_true]
  exact ⟨hc.1, hc.2, ⟨trivial, by show ((f + 1 : Nat) : Int) - 1 = (f : Int); omega⟩⟩
section
variable (base m : Nat) (L : List Sec) (b : List UInt8) (hl : L.length = 12) (hev : ∀ (a : Nat) (s : Sec), L[a]? = some s → s.length = 128) (hb : b.length ≤ 212) (hm : m < 5)
include hl hm in
theorem jw_0 : jw 2 base 2 (m * 2) (recB b) (calmF L 0) = (⟨L, L.set (2 + 2 * m) (s0 base m b), [(2 + 2 * m, s0 base m b)], 0, true⟩, 15) := by
  have e0 : sealed (base + m * 2) ((recB b).take 108) = s0 base m b := by unfold s0; rw [show m * 2 = 2 * m by omega]
  rw [jw]
  simp only [e0]
  rw [show 2 + m * 2 = 2 + 2 * m by omega]
  unfold calmF
  rw [written_off L [] L _ _ (s0_length _ _ _) (by omega)]
  exact if_neg (by show ¬ (15 : Int) = 0; decide)
include hl hm in
theorem jw_1 : jw 2 base 2 (m * 2) (recB b) (calmF L ((0 + 1 : Nat) : Int)) = (⟨L, put base m b L, [(2 + 2 * m, s0 base m b), (3 + 2 * m, s1 base m b)], 0, true⟩, 15) := by
  have e0 : sealed (base + m * 2) ((recB b).take 108) = s0 base m b := by unfold s0; rw [show m * 2 = 2 * m by omega]
  have e1 : sealed (base + (m * 2 + 1)) (((recB b).drop 108).take 108) = s1 base m b := by unfold s1; rw [show base + (m * 2 + 1) = base + 2 * m + 1 by omega]
  rw [jw, jw]
  simp only [e0, e1]
  rw [show 2 + m * 2 = 2 + 2 * m by omega, show 2 + (m * 2 + 1) = 3 + 2 * m by omega]
  unfold calmF
  rw [written_on L [] L _ 0 _ (s0_length _ _ _) (by omega)]
  simp only [if_pos trivial, if_pos rfl]
  rw [show (((0 : Nat) : Int)) = 0 from rfl, written_off _ _ L _ _ (s1_length _ _ _) (by omega)]
  exact if_neg (by show ¬ (15 : Int) = 0; decide)
include hl hm in
theorem jw_2 (f : Nat) : jw 2 base 2 (m * 2) (recB b) (calmF L ((f + 1 + 1 : Nat) : Int)) = (⟨L, put base m b L, [(2 + 2 * m, s0 base m b), (3 + 2 * m, s1 base m b)], (f : Int), false⟩, 0) := by
  have e0 : sealed (base + m * 2) ((recB b).take 108) = s0 base m b := by unfold s0; rw [show m * 2 = 2 * m by omega]
  have e1 : sealed (base + (m * 2 + 1)) (((recB b).drop 108).take 108) = s1 base m b := by unfold s1; rw [show base + (m * 2 + 1) = base + 2 * m + 1 by omega]
  rw [jw, jw, jw]
  simp only [e0, e1]
  rw [show 2 + m * 2 = 2 + 2 * m by omega, show 2 + (m * 2 + 1) = 3 + 2 * m by omega]
  unfold calmF
  rw [written_on L [] L _ (f + 1) _ (s0_length _ _ _) (by omega)]
  simp only [if_pos trivial, if_pos rfl]
  rw [written_on _ _ L _ f _ (s1_length _ _ _) (by omega)]
  rfl
include hl hb hm in
theorem japp_f0 : japp ⟨2, 5, 2, m, base⟩ (calmF L 0) b = (⟨2, 5, 2, m, base⟩, ⟨L, L.set (2 + 2 * m) (s0 base m b), [(2 + 2 * m, s0 base m b)], 0, true⟩, 15) := by
  unfold japp
  rw [if_neg (by show ¬ 108 * 2 - 4 < b.length; omega), if_neg (by show ¬ m = 5; omega)]
  simp only [jw_0 base m L b hl hm]
  exact if_neg (by show ¬ (15 : Int) = 0; decide)
include hl hb hm in
theorem japp_f1 : japp ⟨2, 5, 2, m, base⟩ (calmF L ((0 + 1 : Nat) : Int)) b = (⟨2, 5, 2, m, base⟩, ⟨L, put base m b L, [(2 + 2 * m, s0 base m b), (3 + 2 * m, s1 base m b)], 0, true⟩, 15) := by
  unfold japp
  rw [if_neg (by show ¬ 108 * 2 - 4 < b.length; omega), if_neg (by show ¬ m = 5; omega)]
  simp only [jw_1 base m L b hl hm]
  exact if_neg (by show ¬ (15 : Int) = 0; decide)
include hl hb hm in
theorem japp_f2 : japp ⟨2, 5, 2, m, base⟩ (calmF L ((0 + 1 + 1 : Nat) : Int)) b = (⟨2, 5, 2, m, base⟩, ⟨L, put base m b L, [(2 + 2 * m, s0 base m b), (3 + 2 * m, s1 base m b)], 0, true⟩, 15) := by
  unfold japp
  rw [if_neg (by show ¬ 108 * 2 - 4 < b.length; omega), if_neg (by show ¬ m = 5; omega)]
  simp only [jw_2 base m L b hl hm 0]
  rw [show (((0 : Nat) : Int)) = 0 from rfl, flushed_off]
  rfl
include hl hev hb hm in
theorem japp_f3 (f : Nat) : japp ⟨2, 5, 2, m, base⟩ (calmF L ((f + 1 + 1 + 1 : Nat) : Int)) b = (⟨2, 5, 2, m + 1, base⟩, calmF (put base m b L) (f : Int), 0) := by
  have hf := flushed_on L (2 + 2 * m) (3 + 2 * m) f (s0 base m b) (s1 base m b) (by omega) (by omega) (by omega) (s0_length _ _ _) (s1_length _ _ _) hev
  unfold japp
  rw [if_neg (by show ¬ 108 * 2 - 4 < b.length; omega), if_neg (by show ¬ m = 5; omega)]
  simp only [jw_2 base m L b hl hm (f + 1)]
  unfold put
  simp only [hf]
  rfl
end
theorem japp_full (base : Nat) (d : Pd) (b : List UInt8) (hb : b.length ≤ 212) : japp ⟨2, 5, 2, 5, base⟩ d b = (⟨2, 5, 2, 5, base⟩, d, 8) := by
  unfold japp
  rw [if_neg (by show ¬ 108 * 2 - 4 < b.length; omega)]
  exact if_pos rfl

theorem crashed_none (L : List Sec) (f : Int) (o : Bool) (keep : List UInt8) : DFlush.crashed ⟨L, L, [], f, o⟩ keep = calm L := rfl
theorem crashed_one (L : List Sec) (x : Nat) (s z : Sec) (f : Int) (o : Bool) (keep : List UInt8) (hx : L[x]? = some z) : DFlush.crashed ⟨L, L.set x s, [(x, s)], f, o⟩ keep = calm (L.set x (DOver.cutw z s (DFlush.kept keep 0))) := by
  have hl := (List.getElem?_eq_some_iff.1 hx).1
  unfold DFlush.crashed DFlush.ended calm
  have e1 : DSettle.settled (DFlush.kept keep) L [(x, s)] 1 = L.set x (DOver.cutw z s (DFlush.kept keep 0)) := by
    unfold DSettle.settled
    simp only [List.getElem?_cons_zero]
    unfold DSettle.settled
    rw [hx, Option.getD_some]
  have e2 : DSettle.relast (L.set x (DOver.cutw z s (DFlush.kept keep 0))) (L.set x s) [(x, s)] 1 = L.set x (DOver.cutw z s (DFlush.kept keep 0)) := by
    unfold DSettle.relast
    simp only [List.getElem?_cons_zero]
    unfold DSettle.relast
    rw [List.getElem?_set_self hl, Option.getD_some, List.set_set]
  simp only [List.length_cons, List.length_nil, Nat.zero_add, e1, e2]
theorem crashed_two (L : List Sec) (x y : Nat) (s t z u : Sec) (f : Int) (o : Bool) (keep : List UInt8) (hxy : x ≠ y) (hx : L[x]? = some z) (hy : L[y]? = some u) : DFlush.crashed ⟨L, (L.set x s).set y t, [(x, s), (y, t)], f, o⟩ keep = calm ((L.set x (DOver.cutw z s (DFlush.kept keep 0))).set y (DOver.cutw u t (DFlush.kept keep 1))) := by
  have hl := (List.getElem?_eq_some_iff.1 hx).1
  have hl2 := (List.getElem?_eq_some_iff.1 hy).1
  unfold DFlush.crashed DFlush.ended calm
  have e1 : DSettle.settled (DFlush.kept keep) L [(x, s), (y, t)] 2 = (L.set x (DOver.cutw z s (DFlush.kept keep 0))).set y (DOver.cutw u t (DFlush.kept keep 1)) := by
    unfold DSettle.settled
    simp only [List.getElem?_cons_succ, List.getElem?_cons_zero]
    unfold DSettle.settled
    simp only [List.getElem?_cons_zero]
    unfold DSettle.settled
    rw [hx, Option.getD_some, List.getElem?_set_ne hxy, hy, Option.getD_some]
  have e2 : ∀ P Q : Sec, DSettle.relast ((L.set x P).set y Q) ((L.set x s).set y t) [(x, s), (y, t)] 2 = (L.set x P).set y Q := fun P Q => by
    unfold DSettle.relast
    simp only [List.getElem?_cons_succ, List.getElem?_cons_zero]
    unfold DSettle.relast
    simp only [List.getElem?_cons_zero]
    unfold DSettle.relast
    rw [List.getElem?_set_self (by rw [List.length_set]; exact hl2), List.getElem?_set_ne (fun h => hxy h.symm), List.getElem?_set_self hl, Option.getD_some, Option.getD_some, List.set_comm t P (fun h => hxy h.symm), List.set_set, List.set_set]
  simp only [List.length_cons, List.length_nil, Nat.zero_add, Nat.reduceAdd, e1, e2]
/-- From the place n on nothing was ever written. -/
def Bl (L : List Sec) (n : Nat) : Prop := ∀ a, 2 * n ≤ a → a < 10 → L[2 + a]? = some (zeros 128)
theorem Bl.fresh : Bl (DNew.blank 12) 0 := fun a _ h => by
  unfold DNew.blank
  rw [List.getElem?_replicate, if_pos (by omega)]
  rfl
theorem Bl.put {base m : Nat} {L : List Sec} (h : Bl L m) (b : List UInt8) : Bl (put base m b L) (m + 1) := fun a h1 h2 => by
  unfold JH.put
  rw [List.getElem?_set_ne (by omega), List.getElem?_set_ne (by omega)]
  exact h a (by omega) h2
theorem lost_one (base : Nat) (L : List Sec) (bs : List (List UInt8)) (b : List UInt8) (h : JGd base L bs) (hz : Bl L bs.length) (hb : b.length ≤ 212) (hm : bs.length < 5) (f : Int) (o : Bool) (keep : List UInt8) :
    ∃ L', DFlush.crashed ⟨L, L.set (2 + 2 * bs.length) (s0 base bs.length b), [(2 + 2 * bs.length, s0 base bs.length b)], f, o⟩ keep = calm L' ∧ (JGo base L' bs ∨ JGo base L' (bs ++ [b])) := by
  have z0 := hz (2 * bs.length) (by omega) (by omega)
  have z1 := hz (2 * bs.length + 1) (by omega) (by omega)
  refine ⟨_, crashed_one L _ _ _ f o keep z0, crash_any base L bs b h hb hm (DFlush.kept keep 0) 0 (DFlush.kept_le _ _) (by omega) _ ?_⟩
  have e : DOver.cutw (zeros 128) (s1 base bs.length b) 0 = zeros 128 := by unfold DOver.cutw; simp
  rw [e]
  have hl : 3 + 2 * bs.length < L.length := by rw [h.len]; omega
  have hg : (L.set (2 + 2 * bs.length) (DOver.cutw (zeros 128) (s0 base bs.length b) (DFlush.kept keep 0)))[3 + 2 * bs.length]? = some (zeros 128) := by
    rw [List.getElem?_set_ne (by omega), show 3 + 2 * bs.length = 2 + (2 * bs.length + 1) by omega]
    exact z1
  generalize L.set (2 + 2 * bs.length) (DOver.cutw (zeros 128) (s0 base bs.length b) (DFlush.kept keep 0)) = M at hg ⊢
  obtain ⟨hq, hv⟩ := List.getElem?_eq_some_iff.1 hg
  rw [← hv, List.set_getElem_self]
theorem lost_two (base : Nat) (L : List Sec) (bs : List (List UInt8)) (b : List UInt8) (h : JGd base L bs) (hz : Bl L bs.length) (hb : b.length ≤ 212) (hm : bs.length < 5) (f : Int) (o : Bool) (keep : List UInt8) :
    ∃ L', DFlush.crashed ⟨L, put base bs.length b L, [(2 + 2 * bs.length, s0 base bs.length b), (3 + 2 * bs.length, s1 base bs.length b)], f, o⟩ keep = calm L' ∧ (JGo base L' bs ∨ JGo base L' (bs ++ [b])) := by
  have z0 := hz (2 * bs.length) (by omega) (by omega)
  have z1 := hz (2 * bs.length + 1) (by omega) (by omega)
  rw [show 2 + (2 * bs.length + 1) = 3 + 2 * bs.length by omega] at z1
  exact ⟨_, crashed_two L _ _ _ _ _ _ f o keep (by omega) z0 z1, crash_any base L bs b h hb hm _ _ (DFlush.kept_le _ _) (DFlush.kept_le _ _) _ rfl⟩
end Go.Proofs.Ytbnicphegbdfnaa.JQ
