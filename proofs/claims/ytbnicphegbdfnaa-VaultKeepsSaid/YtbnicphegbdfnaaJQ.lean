/-
  Records appended till the power goes, as lists of bytes.
  Conditions: those that each lemma names.
-/
import Derived.Test.YtbnicphegbdfnaaJP
namespace Go.Proofs.Ytbnicphegbdfnaa.JQ
set_option maxRecDepth 100000
set_option maxRecDepth 100000
open Go Go.RowKit Go.Proofs.Ytbnicphegbdfnaa Go.Proofs.Ytbnicphegbdfnaa.Facts Go.Proofs.Ytbnicphegbdfnaa.Bytes Go.Proofs.Ytbnicphegbdfnaa.DKeep Go.Proofs.Ytbnicphegbdfnaa.DSmall Go.Proofs.Ytbnicphegbdfnaa.Puts Go.Proofs.Ytbnicphegbdfnaa.Scan Go.Proofs.Ytbnicphegbdfnaa.SPure Go.Proofs.Ytbnicphegbdfnaa.JA Go.Proofs.Ytbnicphegbdfnaa.JB Go.Proofs.Ytbnicphegbdfnaa.JC Go.Proofs.Ytbnicphegbdfnaa.JD Go.Proofs.Ytbnicphegbdfnaa.JE Go.Proofs.Ytbnicphegbdfnaa.JF Go.Proofs.Ytbnicphegbdfnaa.JH Go.Proofs.Ytbnicphegbdfnaa.JP

/-- A disk on which nothing waits, with a fuse. -/
def calmF (L : List Sec) (f : Int) : Pd := ⟨L, L, [], f, false⟩
theorem written_on (L : List Sec) (wt : List (Nat × Sec)) (S : List Sec) (n f : Nat) (l : Sec) (hl : l.length = 128) (hn : n < S.length) : DWrite.written ⟨S, L, wt, ((f + 1 : Nat) : Int), false⟩ (n : Int) l = (⟨S, L.set n l, wt ++ [(n, l)], (f : Int), false⟩, 0) := by
  unfold DWrite.written refus
  have h1 : ¬ ((n : Int) < 0 ∨ ((S.length : Nat) : Int) ≤ (n : Int)) := by omega
  simp only [if_neg h1, if_neg (show ¬ (false = true) by decide)]
  rw [if_pos trivial, if_pos hl]
  unfold DTurn.blown DWrite.noted
  rw [if_neg (by show ¬ ((f + 1 : Nat) : Int) = -1; omega), if_neg (by show ¬ ((f + 1 : Nat) : Int) = 0; omega)]
  simp
theorem written_off (L : List Sec) (wt : List (Nat × Sec)) (S : List Sec) (n : Nat) (l : Sec) (hl : l.length = 128) (hn : n < S.length) : DWrite.written ⟨S, L, wt, 0, false⟩ (n : Int) l = (⟨S, L.set n l, wt ++ [(n, l)], 0, true⟩, 15) := by
  unfold DWrite.written refus
  have h1 : ¬ ((n : Int) < 0 ∨ ((S.length : Nat) : Int) ≤ (n : Int)) := by omega
  simp only [if_neg h1, if_neg (show ¬ (false = true) by decide)]
  rw [if_pos trivial, if_pos hl]
  unfold DTurn.blown DWrite.noted
  simp
theorem flushed_off (S L : List Sec) (wt : List (Nat × Sec)) : DFlush.flushed ⟨S, L, wt, 0, false⟩ = (⟨S, L, wt, 0, true⟩, 15) := by
  unfold DFlush.flushed DTurn.blown
  simp
theorem flushed_on (L : List Sec) (a b f : Nat) (x y : Sec) (ha : a < L.length) (hb : b < L.length) (hab : a ≠ b) (hx : x.length = 128) (hy : y.length = 128) (hev : ∀ (a : Nat) (s : Sec), L[a]? = some s → s.length = 128) :
    DFlush.flushed ⟨L, (L.set a x).set b y, [(a, x), (b, y)], ((f + 1 : Nat) : Int), false⟩ = (calmF ((L.set a x).set b y) (f : Int), 0) := by
  have hc := flushed_calm L a b x y ha hb hab hx hy hev
  unfold DFlush.flushed DTurn.blown at hc ⊢
  simp only [if_neg (show ¬ (false = true) by decide), if_pos trivial, if_pos rfl] at hc ⊢
  rw [if_neg (show ¬ ((f + 1 : Nat) : Int) = -1 by omega), if_neg (show ¬ ((f + 1 : Nat) : Int) = 0 by omega)]
  unfold DFlush.ended calm at hc
  unfold DFlush.ended calmF
  simp only [Prod.mk.injEq, Pd.mk.injEq, and_true] at hc ⊢
  rw [if_pos trivial]
  simp only [Prod.mk.injEq, Pd.mk.injEq, and_true]
  exact ⟨hc.1, hc.2, ⟨trivial, by show ((f + 1 : Nat) : Int) - 1 = (f : Int); omega⟩⟩
section
variable (base m : Nat) (L : List Sec) (b : List UInt8) (hl : L.length = 12) (hev : ∀ (a : Nat) (s : Sec), L[a]? = some s → s.length = 128) (hb : b.length ≤ 212) (hm : m < 5)
include hl hm in
theorem jw_0 : jw 2 base 2 (m * 2) (recB b) (calmF L 0) = (⟨L, L.set (2 + 2 * m) (s0 base m b), [(2 + 2 * m, s0 base m b)], 0, true⟩, 15) := by
  have e0 : sealed (base + m * 2) ((recB b).take 108) = s0 base m b := by unfold s0; rw [show m * 2 = 2 * m by omega]
  rw [jw]
  simp only [e0]
  rw [show 2 + m * 2 = 2 + 2 * m by omega]
  unfold calmF
  rw [written_off L [] L _ _ (s0_length _ _ _) (by omega)]
  exact if_neg (by show ¬ (15 : Int) = 0; decide)
include hl hm in
theorem jw_1 : jw 2 base 2 (m * 2) (recB b) (calmF L ((0 + 1 : Nat) : Int)) = (⟨L, put base m b L, [(2 + 2 * m, s0 base m b), (3 + 2 * m, s1 base m b)], 0, true⟩, 15) := by
  have e0 : sealed (base + m * 2) ((recB b).take 108) = s0 base m b := by unfold s0; rw [show m * 2 = 2 * m by omega]
  have e1 : sealed (base + (m * 2 + 1)) (((recB b).drop 108).take 108) = s1 base m b := by unfold s1; rw [show base + (m * 2 + 1) = base + 2 * m + 1 by omega]
  rw [jw, jw]
  simp only [e0, e1]
  rw [show 2 + m * 2 = 2 + 2 * m by omega, show 2 + (m * 2 + 1) = 3 + 2 * m by omega]
  unfold calmF
  rw [written_on L [] L _ 0 _ (s0_length _ _ _) (by omega)]
  simp only [if_pos trivial, if_pos rfl]
  rw [show (((0 : Nat) : Int)) = 0 from rfl, written_off _ _ L _ _ (s1_length _ _ _) (by omega)]
  exact if_neg (by show ¬ (15 : Int) = 0; decide)
include hl hm in
theorem jw_2 (f : Nat) : jw 2 base 2 (m * 2) (recB b) (calmF L ((f + 1 + 1 : Nat) : Int)) = (⟨L, put base m b L, [(2 + 2 * m, s0 base m b), (3 + 2 * m, s1 base m b)], (f : Int), false⟩, 0) := by
  have e0 : sealed (base + m * 2) ((recB b).take 108) = s0 base m b := by unfold s0; rw [show m * 2 = 2 * m by omega]
  have e1 : sealed (base + (m * 2 + 1)) (((recB b).drop 108).take 108) = s1 base m b := by unfold s1; rw [show base + (m * 2 + 1) = base + 2 * m + 1 by omega]
  rw [jw, jw, jw]
  simp only [e0, e1]
  rw [show 2 + m * 2 = 2 + 2 * m by omega, show 2 + (m * 2 + 1) = 3 + 2 * m by omega]
  unfold calmF
  rw [written_on L [] L _ (f + 1) _ (s0_length _ _ _) (by omega)]
  simp only [if_pos trivial, if_pos rfl]
  rw [written_on _ _ L _ f _ (s1_length _ _ _) (by omega)]
  rfl
include hl hb hm in
theorem japp_f0 : japp ⟨2, 5, 2, m, base⟩ (calmF L 0) b = (⟨2, 5, 2, m, base⟩, ⟨L, L.set (2 + 2 * m) (s0 base m b), [(2 + 2 * m, s0 base m b)], 0, true⟩, 15) := by
  unfold japp
  rw [if_neg (by show ¬ 108 * 2 - 4 < b.length; omega), if_neg (by show ¬ m = 5; omega)]
  simp only [jw_0 base m L b hl hm]
  exact if_neg (by show ¬ (15 : Int) = 0; decide)
include hl hb hm in
theorem japp_f1 : japp ⟨2, 5, 2, m, base⟩ (calmF L ((0 + 1 : Nat) : Int)) b = (⟨2, 5, 2, m, base⟩, ⟨L, put base m b L, [(2 + 2 * m, s0 base m b), (3 + 2 * m, s1 base m b)], 0, true⟩, 15) := by
  unfold japp
  rw [if_neg (by show ¬ 108 * 2 - 4 < b.length; omega), if_neg (by show ¬ m = 5; omega)]
  simp only [jw_1 base m L b hl hm]
  exact if_neg (by show ¬ (15 : Int) = 0; decide)
include hl hb hm in
theorem japp_f2 : japp ⟨2, 5, 2, m, base⟩ (calmF L ((0 + 1 + 1 : Nat) : Int)) b = (⟨2, 5, 2, m, base⟩, ⟨L, put base m b L, [(2 + 2 * m, s0 base m b), (3 + 2 * m, s1 base m b)], 0, true⟩, 15) := by
  unfold japp
  rw [if_neg (by show ¬ 108 * 2 - 4 < b.length; omega), if_neg (by show ¬ m = 5; omega)]
  simp only [jw_2 base m L b hl hm 0]
  rw [show (((0 : Nat) : Int)) = 0 from rfl, flushed_off]
  rfl
include hl hev hb hm in
theorem japp_f3 (f : Nat) : japp ⟨2, 5, 2, m, base⟩ (calmF L ((f + 1 + 1 + 1 : Nat) : Int)) b = (⟨2, 5, 2, m + 1, base⟩, calmF (put base m b L) (f : Int), 0) := by
  have hf := flushed_on L (2 + 2 * m) (3 + 2 * m) f (s0 base m b) (s1 base m b) (by omega) (by omega) (by omega) (s0_length _ _ _) (s1_length _ _ _) hev
  unfold japp
  rw [if_neg (by show ¬ 108 * 2 - 4 < b.length; omega), if_neg (by show ¬ m = 5; omega)]
  simp only [jw_2 base m L b hl hm (f + 1)]
  unfold put
  simp only [hf]
  rfl
end
theorem japp_full (base : Nat) (d : Pd) (b : List UInt8) (hb : b.length ≤ 212) : japp ⟨2, 5, 2, 5, base⟩ d b = (⟨2, 5, 2, 5, base⟩, d, 8) := by
  unfold japp
  rw [if_neg (by show ¬ 108 * 2 - 4 < b.length; omega)]
  exact if_pos rfl

theorem crashed_none (L : List Sec) (f : Int) (o : Bool) (keep : List UInt8) : DFlush.crashed ⟨L, L, [], f, o⟩ keep = calm L := rfl
theorem crashed_one (L : List Sec) (x : Nat) (s z : Sec) (f : Int) (o : Bool) (keep : List UInt8) (hx : L[x]? = some z) : DFlush.crashed ⟨L, L.set x s, [(x, s)], f, o⟩ keep = calm (L.set x (DOver.cutw z s (DFlush.kept keep 0))) := by
  have hl := (List.getElem?_eq_some_iff.1 hx).1
  unfold DFlush.crashed DFlush.ended calm
  have e1 : DSettle.settled (DFlush.kept keep) L [(x, s)] 1 = L.set x (DOver.cutw z s (DFlush.kept keep 0)) := by
    unfold DSettle.settled
    simp only [List.getElem?_cons_zero]
    unfold DSettle.settled
    rw [hx, Option.getD_some]
  have e2 : DSettle.relast (L.set x (DOver.cutw z s (DFlush.kept keep 0))) (L.set x s) [(x, s)] 1 = L.set x (DOver.cutw z s (DFlush.kept keep 0)) := by
    unfold DSettle.relast
    simp only [List.getElem?_cons_zero]
    unfold DSettle.relast
    rw [List.getElem?_set_self hl, Option.getD_some, List.set_set]
  simp only [List.length_cons, List.length_nil, Nat.zero_add, e1, e2]
theorem crashed_two (L : List Sec) (x y : Nat) (s t z u : Sec) (f : Int) (o : Bool) (keep : List UInt8) (hxy : x ≠ y) (hx : L[x]? = some z) (hy : L[y]? = some u) : DFlush.crashed ⟨L, (L.set x s).set y t, [(x, s), (y, t)], f, o⟩ keep = calm ((L.set x (DOver.cutw z s (DFlush.kept keep 0))).set y (DOver.cutw u t (DFlush.kept keep 1))) := by
  have hl := (List.getElem?_eq_some_iff.1 hx).1
  have hl2 := (List.getElem?_eq_some_iff.1 hy).1
  unfold DFlush.crashed DFlush.ended calm
  have e1 : DSettle.settled (DFlush.kept keep) L [(x, s), (y, t)] 2 = (L.set x (DOver.cutw z s (DFlush.kept keep 0))).set y (DOver.cutw u t (DFlush.kept keep 1)) := by
    unfold DSettle.settled
    simp only [List.getElem?_cons_succ, List.getElem?_cons_zero]
    unfold DSettle.settled
    simp only [List.getElem?_cons_zero]
    unfold DSettle.settled
    rw [hx, Option.getD_some, List.getElem?_set_ne hxy, hy, Option.getD_some]
  have e2 : ∀ P Q : Sec, DSettle.relast ((L.set x P).set y Q) ((L.set x s).set y t) [(x, s), (y, t)] 2 = (L.set x P).set y Q := fun P Q => by
    unfold DSettle.relast
    simp only [List.getElem?_cons_succ, List.getElem?_cons_zero]
    unfold DSettle.relast
    simp only [List.getElem?_cons_zero]
    unfold DSettle.relast
    rw [List.getElem?_set_self (by rw [List.length_set]; exact hl2), List.getElem?_set_ne (fun h => hxy h.symm), List.getElem?_set_self hl, Option.getD_some, Option.getD_some, List.set_comm t P (fun h => hxy h.symm), List.set_set, List.set_set]
  simp only [List.length_cons, List.length_nil, Nat.zero_add, Nat.reduceAdd, e1, e2]
/-- From the place n on nothing was ever written. -/
def Bl (L : List Sec) (n : Nat) : Prop := ∀ a, 2 * n ≤ a → a < 10 → L[2 + a]? = some (zeros 128)
theorem Bl.fresh : Bl (DNew.blank 12) 0 := fun a _ h => by
  unfold DNew.blank
  rw [List.getElem?_replicate, if_pos (by omega)]
  rfl
theorem Bl.put {base m : Nat} {L : List Sec} (h : Bl L m) (b : List UInt8) : Bl (put base m b L) (m + 1) := fun a h1 h2 => by
  unfold JH.put
  rw [List.getElem?_set_ne (by omega), List.getElem?_set_ne (by omega)]
  exact h a (by omega) h2
theorem lost_one (base : Nat) (L : List Sec) (bs : List (List UInt8)) (b : List UInt8) (h : JGd base L bs) (hz : Bl L bs.length) (hb : b.length ≤ 212) (hm : bs.length < 5) (f : Int) (o : Bool) (keep : List UInt8) :
    ∃ L', DFlush.crashed ⟨L, L.set (2 + 2 * bs.length) (s0 base bs.length b), [(2 + 2 * bs.length, s0 base bs.length b)], f, o⟩ keep = calm L' ∧ (JGo base L' bs ∨ JGo base L' (bs ++ [b])) := by
  have z0 := hz (2 * bs.length) (by omega) (by omega)
  have z1 := hz (2 * bs.length + 1) (by omega) (by omega)
  refine ⟨_, crashed_one L _ _ _ f o keep z0, crash_any base L bs b h hb hm (DFlush.kept keep 0) 0 (DFlush.kept_le _ _) (by omega) _ ?_⟩
  have e : DOver.cutw (zeros 128) (s1 base bs.length b) 0 = zeros 128 := by unfold DOver.cutw; simp
  rw [e]
  have hl : 3 + 2 * bs.length < L.length := by rw [h.len]; omega
  have hg : (L.set (2 + 2 * bs.length) (DOver.cutw (zeros 128) (s0 base bs.length b) (DFlush.kept keep 0)))[3 + 2 * bs.length]? = some (zeros 128) := by
    rw [List.getElem?_set_ne (by omega), show 3 + 2 * bs.length = 2 + (2 * bs.length + 1) by omega]
    exact z1
  generalize L.set (2 + 2 * bs.length) (DOver.cutw (zeros 128) (s0 base bs.length b) (DFlush.kept keep 0)) = M at hg ⊢
  obtain ⟨hq, hv⟩ := List.getElem?_eq_some_iff.1 hg
  rw [← hv, List.set_getElem_self]
theorem lost_two (base : Nat) (L : List Sec) (bs : List (List UInt8)) (b : List UInt8) (h : JGd base L bs) (hz : Bl L bs.length) (hb : b.length ≤ 212) (hm : bs.length < 5) (f : Int) (o : Bool) (keep : List UInt8) :
    ∃ L', DFlush.crashed ⟨L, put base bs.length b L, [(2 + 2 * bs.length, s0 base bs.length b), (3 + 2 * bs.length, s1 base bs.length b)], f, o⟩ keep = calm L' ∧ (JGo base L' bs ∨ JGo base L' (bs ++ [b])) := by
  have z0 := hz (2 * bs.length) (by omega) (by omega)
  have z1 := hz (2 * bs.length + 1) (by omega) (by omega)
  rw [show 2 + (2 * bs.length + 1) = 3 + 2 * bs.length by omega] at z1
  exact ⟨_, crashed_two L _ _ _ _ _ _ f o keep (by omega) z0 z1, crash_any base L bs b h hb hm _ _ (DFlush.kept_le _ _) (DFlush.kept_le _ _) _ rfl⟩
end Go.Proofs.Ytbnicphegbdfnaa.JQ
