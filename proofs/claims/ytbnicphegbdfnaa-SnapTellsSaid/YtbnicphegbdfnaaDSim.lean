/-
  The document's disk and the program's, as what they have: they stay the same, whatever is done to both.
  Conditions: none beyond those that each lemma names.
-/
import Derived.Test.YtbnicphegbdfnaaDKeepsP
import Derived.Test.YtbnicphegbdfnaaDRefA
namespace Go.Proofs.Ytbnicphegbdfnaa.DSim
set_option maxRecDepth 100000
set_option maxRecDepth 100000
open Go Go.RowKit Go.Proofs.Ytbnicphegbdfnaa Go.Proofs.Ytbnicphegbdfnaa.Facts Go.Proofs.Ytbnicphegbdfnaa.Bytes Go.Proofs.Ytbnicphegbdfnaa.DKeep Go.Proofs.Ytbnicphegbdfnaa.DSmall Go.Proofs.Ytbnicphegbdfnaa.DTurn Go.Proofs.Ytbnicphegbdfnaa.DRead Go.Proofs.Ytbnicphegbdfnaa.DNew Go.Proofs.Ytbnicphegbdfnaa.DOver Go.Proofs.Ytbnicphegbdfnaa.DSettle Go.Proofs.Ytbnicphegbdfnaa.DFlush Go.Proofs.Ytbnicphegbdfnaa.DKeepsP

/-- The document's disk. -/
structure Rp where
  now : List Sec
  safe : List Sec
  waits : List (Nat × Sec)
  fuse : Int
  off : Bool

def rfresh (n : Nat) : Rp := ⟨DNew.blank n, DNew.blank n, [], -1, false⟩
def rnoted (r : Rp) (n : Nat) (l : Sec) : Rp := { r with now := r.now.set n l, waits := r.waits ++ [(n, l)] }
def rburnt (r : Rp) : Rp := { r with fuse := if 0 ≤ r.fuse then r.fuse - 1 else r.fuse, off := r.off || r.fuse == 0 }
def rwritten (r : Rp) (n : Int) (l : Sec) : Rp × Int :=
  if r.off then (r, 15) else if n < 0 ∨ (r.now.length : Int) ≤ n then (r, 16) else if l.length ≠ 128 then (r, 1) else
  (rburnt (rnoted r n.toNat l), if (rburnt (rnoted r n.toNat l)).off then 15 else 0)
def rflushed (r : Rp) : Rp × Int :=
  if r.off then (r, 15) else if r.fuse = 0 then (rburnt r, 15) else ({ rburnt r with safe := r.now, waits := [] }, 0)
def rfus (r : Rp) (n : Int) : Rp := { r with fuse := max n (-1) }
def rcrash (r : Rp) (l : List UInt8) : Rp := ⟨settled (kept l) r.safe r.waits r.waits.length, settled (kept l) r.safe r.waits r.waits.length, [], -1, false⟩

structure Sim (d : Pd) (r : Rp) : Prop where
  now : r.now = d.last
  safe : r.safe = d.safe
  waits : r.waits = d.waits
  off : r.off = d.off
  fuse : d.off = true ∨ r.fuse = d.fuse
  inv : d.last = settled (fun _ => 16) d.safe d.waits d.waits.length
  even : Even d.safe
  fit : Fit d.safe.length d.waits
  f1 : -1 ≤ r.fuse
  f2 : r.fuse ≤ 9223372036854775807
  df1 : -1 ≤ d.fuse
  df2 : d.fuse ≤ 9223372036854775807

theorem Sim.fresh (n : Nat) : Sim (DNew.fresh n) (rfresh n) :=
  ⟨rfl, rfl, rfl, rfl, .inr rfl, rfl, DNew.blank_even n, (fun p hp => by cases hp), by show (-1 : Int) ≤ -1; omega, by show (-1 : Int) ≤ 9223372036854775807; omega, by show (-1 : Int) ≤ -1; omega, by show (-1 : Int) ≤ 9223372036854775807; omega⟩

theorem settled_snoc (ks : Nat → Nat) (safe : List Sec) (l : List (Nat × Sec)) (p : Nat × Sec) : ∀ i, i ≤ l.length → settled ks safe (l ++ [p]) i = settled ks safe l i
  | 0, _ => rfl
  | i + 1, h => by
    have hi : (l ++ [p])[i]? = l[i]? := List.getElem?_append_left (by omega)
    unfold settled
    rw [hi, settled_snoc ks safe l p i (by omega)]
theorem settled_end (ks : Nat → Nat) (safe : List Sec) (l : List (Nat × Sec)) (p : Nat × Sec) : settled ks safe (l ++ [p]) (l ++ [p]).length = (settled ks safe l l.length).set p.1 (cutw ((settled ks safe l l.length)[p.1]?.getD []) p.2 (ks l.length)) := by
  rw [List.length_append, List.length_singleton, settled_succ ks safe (l ++ [p]) l.length p (by simp), settled_snoc ks safe l p l.length (Nat.le_refl _)]
theorem cutw_all (A B : Sec) (hA : A.length = 128) (hB : B.length = 128) : cutw A B 16 = B := by
  unfold cutw
  rw [List.take_of_length_le (by omega), List.drop_of_length_le (by omega), List.append_nil]

section
variable {d : Pd} {r : Rp}
theorem Sim.len (h : Sim d r) : r.now.length = d.safe.length := by
  rw [h.now, h.inv, settled_length]
theorem Sim.evenl (h : Sim d r) : Even d.last := by
  rw [h.inv]
  exact settled_even _ _ _ h.even h.fit (fun _ => Nat.le_refl _) _

theorem Sim.noted (h : Sim d r) (n : Nat) (l : Sec) (hn : n < d.safe.length) (hl : l.length = 128) : Sim (DWrite.noted d n l) (rnoted r n l) := by
  refine ⟨by show r.now.set n l = d.last.set n l; rw [h.now], h.safe, by show r.waits ++ _ = d.waits ++ _; rw [h.waits], h.off, h.fuse, ?_, h.even, ?_, h.f1, h.f2, h.df1, h.df2⟩
  · show d.last.set n l = settled (fun _ => 16) d.safe (d.waits ++ [(n, l)]) (d.waits ++ [(n, l)]).length
    rw [settled_end, ← h.inv]
    have hll : n < d.last.length := by rw [h.inv, settled_length]; exact hn
    rw [cutw_all _ _ (even_get h.evenl n hll) hl]
  · intro p hp
    rcases List.mem_append.1 hp with h1 | h1
    · exact h.fit p h1
    · simp at h1
      subst h1
      exact ⟨hn, hl⟩
theorem Sim.blown (h : Sim d r) (ho : d.off = false) : (blown d).2 = (if (rburnt r).off then 15 else 0) ∧ Sim (blown d).1 (rburnt r) := by
  have hf : r.fuse = d.fuse := by
    rcases h.fuse with h1 | h1
    · rw [ho] at h1; cases h1
    · exact h1
  have h1 := h.df1
  have h2 := h.df2
  have hro := h.off
  rw [ho] at hro
  unfold DTurn.blown rburnt
  by_cases e1 : d.fuse = -1
  · rw [if_pos e1]
    rw [e1] at hf
    have e3 : (r.off || r.fuse == 0) = false := by rw [hro, hf]; rfl
    refine ⟨by simp only [e3]; rfl, h.now, h.safe, h.waits, by simp only [e3]; exact ho.symm, .inr ?_, h.inv, h.even, h.fit, ?_, ?_, h.df1, h.df2⟩
    · simp only [hf]; rw [if_neg (by omega), e1]
    · simp only [hf]; omega
    · simp only [hf]; omega
  · rw [if_neg e1]
    by_cases e2 : d.fuse = 0
    · rw [if_pos e2]
      rw [e2] at hf
      have e3 : (r.off || r.fuse == 0) = true := by rw [hro, hf]; rfl
      refine ⟨by simp only [e3]; rfl, h.now, h.safe, h.waits, by simp only [e3], .inl rfl, h.inv, h.even, h.fit, ?_, ?_, h.df1, h.df2⟩
      · simp only [hf]; omega
      · simp only [hf]; omega
    · rw [if_neg e2]
      have e3 : (r.off || r.fuse == 0) = false := by rw [hro, hf]; simpa using e2
      refine ⟨by simp only [e3]; rfl, h.now, h.safe, h.waits, by simp only [e3]; exact ho.symm, .inr ?_, h.inv, h.even, h.fit, ?_, ?_, ?_, ?_⟩
      · simp only [hf]; rw [if_pos (by omega)]
      · simp only [hf]; omega
      · simp only [hf]; omega
      · show -1 ≤ d.fuse - 1; omega
      · show d.fuse - 1 ≤ 9223372036854775807; omega
theorem Sim.written (h : Sim d r) (n : Int) (l : Sec) : (DWrite.written d n l).2 = (rwritten r n l).2 ∧ Sim (DWrite.written d n l).1 (rwritten r n l).1 := by
  unfold DWrite.written rwritten refus
  rw [h.off, h.len]
  cases ho : d.off with
  | true =>
    rw [if_pos rfl, if_neg (by decide), if_pos rfl]
    exact ⟨rfl, h⟩
  | false =>
    rw [if_neg (show ¬ (false = true) by decide)]
    by_cases h0 : n < 0 ∨ (d.safe.length : Int) ≤ n
    · rw [if_pos h0, if_pos h0, if_neg (show ¬ (16 : Int) = 0 by decide), if_neg (show ¬ (false = true) by decide)]
      exact ⟨rfl, h⟩
    · rw [if_neg h0, if_neg h0, if_pos rfl, if_neg (show ¬ (false = true) by decide)]
      by_cases h1 : l.length = 128
      · rw [if_pos h1, if_neg (by simpa using h1)]
        have hb := (h.noted n.toNat l (by omega) h1).blown (by exact ho)
        exact hb
      · rw [if_neg h1, if_pos h1]
        exact ⟨rfl, h⟩
theorem relast_self (l : List (Nat × Sec)) (s : List Sec) : ∀ i, relast s s l i = s
  | 0 => rfl
  | i + 1 => by
    unfold relast
    split
    · rename_i p hp
      rw [relast_self l s i]
      by_cases hl : p.1 < s.length
      · rw [List.getElem?_eq_getElem hl]
        exact List.set_getElem_self hl
      · rw [List.set_eq_of_length_le (by omega)]
    · exact relast_self l s i
theorem Sim.flushed (h : Sim d r) : (DFlush.flushed d).2 = (rflushed r).2 ∧ Sim (DFlush.flushed d).1 (rflushed r).1 := by
  unfold DFlush.flushed rflushed
  rw [h.off]
  cases ho : d.off with
  | true =>
    rw [if_pos rfl, if_pos rfl]
    exact ⟨rfl, h⟩
  | false =>
    rw [if_neg (show ¬ (false = true) by decide), if_neg (show ¬ (false = true) by decide)]
    obtain ⟨h1, h2⟩ := h.blown ho
    have hf : r.fuse = d.fuse := by
      rcases h.fuse with h1 | h1
      · rw [ho] at h1; cases h1
      · exact h1
    have hro := h.off
    rw [ho] at hro
    by_cases e : r.fuse = 0
    · have e3 : (rburnt r).off = true := by simp [rburnt, e]
      rw [e3] at h1
      rw [if_neg (by rw [h1]; decide), if_pos e]
      exact ⟨h1, h2⟩
    · have e3 : (rburnt r).off = false := by simp [rburnt, e, hro]
      rw [e3] at h1
      rw [if_pos (by rw [h1]; rfl), if_neg e]
      have hi := h2.inv
      have hw := blown_waits d
      refine ⟨rfl, ?_, ?_, rfl, ?_, ?_, ?_, ?_, (fun p hp => by cases hp), h2.f1, h2.f2, h2.df1, h2.df2⟩
      · show r.now = relast (settled _ _ _ _) _ _ _
        rw [← hi, relast_self]
        exact h2.now
      · show r.now = settled _ _ _ _
        rw [← hi]
        exact h2.now
      · exact h2.off
      · rcases h2.fuse with h3 | h3
        · exact .inl h3
        · exact .inr h3
      · show DSettle.relast (settled _ _ _ _) _ _ _ = settled _ _ _ _
        rw [← hi, relast_self]
        exact hi
      · show Even (settled _ _ _ _)
        rw [← hi]
        exact h2.evenl
theorem Sim.fused (h : Sim d r) (n : Int) (hn : n ≤ 9223372036854775807) : Sim (DTurn.fused d n) (rfus r n) :=
  ⟨h.now, h.safe, h.waits, h.off, .inr rfl, h.inv, h.even, h.fit, by show -1 ≤ max n (-1); omega, by show max n (-1) ≤ 9223372036854775807; omega, by show -1 ≤ max n (-1); omega, by show max n (-1) ≤ 9223372036854775807; omega⟩
theorem settled_none (ks : Nat → Nat) (safe : List Sec) (l : List (Nat × Sec)) (a : Nat) : ∀ i, i ≤ l.length → ours a (l.take i) = [] → (settled ks safe l i)[a]? = safe[a]?
  | 0, _, _ => rfl
  | i + 1, hi, h => by
    obtain ⟨p, hp⟩ : ∃ p, l[i]? = some p := ⟨_, List.getElem?_eq_getElem hi⟩
    rw [ours_take a l i p hp] at h
    have e : ¬ p.1 = a := fun e => by rw [if_pos e] at h; simp at h
    rw [if_neg e, List.append_nil] at h
    rw [settled_succ ks safe l i p hp, List.getElem?_set_ne e]
    exact settled_none ks safe l a i (by omega) h
theorem Sim.relast (h : Sim d r) (ks : Nat → Nat) (hk : ∀ i, ks i ≤ 16) : relast (settled ks d.safe d.waits d.waits.length) d.last d.waits d.waits.length = settled ks d.safe d.waits d.waits.length := by
  apply List.ext_getElem?
  intro a
  by_cases ha : a < d.safe.length
  · have hs : a < (settled ks d.safe d.waits d.waits.length).length := by rw [settled_length]; exact ha
    rw [relast_at _ _ _ a _ (List.getElem?_eq_getElem hs) (by rw [h.inv, settled_length, settled_length]) _ (Nat.le_refl _), List.getElem?_eq_getElem hs]
    split
    · rename_i h0
      rw [← List.getElem?_eq_getElem hs, settled_none ks d.safe d.waits a _ (Nat.le_refl _) h0, h.inv]
      exact settled_none _ d.safe d.waits a _ (Nat.le_refl _) h0
    · rfl
  · rw [List.getElem?_eq_none (by rw [relast_length, h.inv, settled_length]; omega), List.getElem?_eq_none (by rw [settled_length]; omega)]
theorem Sim.crashed (h : Sim d r) (l : List UInt8) : Sim (DFlush.crashed d l) (rcrash r l) := by
  have hr := h.relast (kept l) (kept_le l)
  refine ⟨?_, ?_, rfl, rfl, .inr rfl, ?_, ?_, (fun p hp => by cases hp), by show (-1 : Int) ≤ -1; omega, by show (-1 : Int) ≤ 9223372036854775807; omega, by show (-1 : Int) ≤ -1; omega, by show (-1 : Int) ≤ 9223372036854775807; omega⟩
  · show settled (kept l) r.safe r.waits r.waits.length = DSettle.relast (settled (kept l) d.safe d.waits d.waits.length) d.last d.waits d.waits.length
    rw [hr, h.safe, h.waits]
  · show settled (kept l) r.safe r.waits r.waits.length = settled (kept l) d.safe d.waits d.waits.length
    rw [h.safe, h.waits]
  · exact hr
  · exact settled_even _ _ _ h.even h.fit (kept_le l) _
theorem Sim.read (h : Sim d r) (n : Int) : readOf d n = DRefB.rread r.now r.off n := by
  unfold readOf DRefB.rread refus
  rw [h.off, h.len, h.now]
  cases ho : d.off with
  | true => rfl
  | false =>
    rw [if_neg (show ¬ (false = true) by decide)]
    by_cases h0 : n < 0 ∨ (d.safe.length : Int) ≤ n
    · rw [if_pos h0, if_pos h0, if_neg (show ¬ (16 : Int) = 0 by decide), if_neg (show ¬ (false = true) by decide)]
    · rw [if_neg h0, if_neg h0, if_pos rfl, if_neg (show ¬ (false = true) by decide)]
theorem written_waits (d : Pd) (n : Int) (l : Sec) : (DWrite.written d n l).1.waits.length ≤ d.waits.length + 1 := by
  unfold DWrite.written
  split
  · split
    · rw [blown_waits]
      show (d.waits ++ _).length ≤ _
      simp
    · exact Nat.le_succ _
  · exact Nat.le_succ _
theorem flushed_waits (d : Pd) : (DFlush.flushed d).1.waits.length ≤ d.waits.length := by
  unfold DFlush.flushed
  split
  · exact Nat.le_refl _
  · split
    · exact Nat.zero_le _
    · rw [blown_waits]; exact Nat.le_refl _
end
end Go.Proofs.Ytbnicphegbdfnaa.DSim
