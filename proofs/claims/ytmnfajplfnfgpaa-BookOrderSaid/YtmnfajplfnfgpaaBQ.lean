/-
  What fill leaves, said purely.
  Conditions: those that each lemma names.
-/
import Derived.Test.YtmnfajplfnfgpaaBP
import Derived.Lib.Hide
namespace Go.Proofs.Ytmnfajplfnfgpaa.BQ
set_option maxRecDepth 100000
open Go Go.RowKit Go.Lib Go.Proofs.Ytmnfajplfnfgpaa Go.Proofs.Ytmnfajplfnfgpaa.Facts Go.Proofs.Ytmnfajplfnfgpaa.Ints Go.Proofs.Ytmnfajplfnfgpaa.PA Go.Proofs.Ytmnfajplfnfgpaa.UM Go.Proofs.Ytmnfajplfnfgpaa.UB Go.Proofs.Ytmnfajplfnfgpaa.OA Go.Proofs.Ytmnfajplfnfgpaa.BP Go.Proofs.Ytmnfajplfnfgpaa.Bytes


theorem eo_set {l : List Or} {i k : Nat} {x : Or} (h : k ≠ i) : eo (l.set i x) k = eo l k := by
  unfold eo
  rw [List.getElem?_set_ne (fun e => h e.symm)]
theorem eo_set_same {l : List Or} {i : Nat} {x : Or} (h : i < l.length) : eo (l.set i x) i = x := by
  unfold eo
  rw [List.getElem?_set_self h]
  rfl
theorem fill_other (l : List Or) : ∀ (S : List Nat) (now : List Or) (o : Or) (fs : List Fi) (k : Nat), k ∉ S → eo (fillP l S now o fs).1 k = eo now k
  | [], _, _, _, _, _ => rfl
  | i :: r, now, o, fs, k, hk => by
    rw [fillP]
    split
    · rfl
    · rw [fill_other l r _ _ _ k (fun h => hk (List.mem_cons_of_mem _ h))]
      unfold nowP
      exact eo_set (fun e => hk (by rw [e]; exact List.mem_cons_self ..))
theorem fill_len (l : List Or) : ∀ (S : List Nat) (now : List Or) (o : Or) (fs : List Fi), (fillP l S now o fs).1.length = now.length
  | [], _, _, _ => rfl
  | i :: r, now, o, fs => by
    rw [fillP]
    split
    · rfl
    · rw [fill_len l r]
      unfold nowP
      rw [List.length_set]
/-- The order that is filled is the same but for what is left, and what it reserves. -/
structure Sm (o r : Or) : Prop where
  used : r.used = o.used
  label : r.label = o.label
  who : r.who = o.who
  side : r.side = o.side
  base : r.base = o.base
  quote : r.quote = o.quote
  price : r.price = o.price
  seq : r.seq = o.seq
  le : r.left ≤ o.left
theorem fill_ord (l : List Or) : ∀ (S : List Nat) (now : List Or) (o : Or) (fs : List Fi), (∀ i ∈ S, MayF (eo l i) ∧ meetsP o (eo l i) = true) → FO o → FO (fillP l S now o fs).2.2 ∧ Sm o (fillP l S now o fs).2.2
  | [], _, o, _, _, h => ⟨h, rfl, rfl, rfl, rfl, rfl, rfl, rfl, rfl, Nat.le_refl _⟩
  | i :: r, now, o, fs, hS, h => by
    rw [fillP]
    split
    · exact ⟨h, rfl, rfl, rfl, rfl, rfl, rfl, rfl, rfl, Nat.le_refl _⟩
    · obtain ⟨h1, h2⟩ := hS i (List.mem_cons_self ..)
      obtain ⟨k1, k2⟩ := fill_ord l r (nowP l now o i) (ordP l o i) (fs ++ [filP l o i]) (fun j hj => by
        obtain ⟨j1, j2⟩ := hS j (List.mem_cons_of_mem _ hj)
        refine ⟨j1, ?_⟩
        unfold ordP
        rw [meets_less]
        exact j2) (h.next h1 h2)
      exact ⟨k1, k2.used, k2.label, k2.who, k2.side, k2.base, k2.quote, k2.price, k2.seq, Nat.le_trans k2.le (Nat.sub_le _ _)⟩
theorem Srt.all {l : List Or} {o : Or} {S : List Nat} (h : Srt l o S) (hr : rightO l = true) : ∀ i ∈ S, MayF (eo l i) ∧ meetsP o (eo l i) = true := fun i hi => by
  obtain ⟨_, h2, h3⟩ := (h.mem i).1 hi
  exact ⟨right_at hr i h2, h3⟩
theorem free_iff (l : List Or) : ordfree l ≠ -1 ↔ ∃ k, k < l.length ∧ (eo l k).used = false := by
  unfold ordfree
  rcases fidx_cases l (fun x => !x.used) with ⟨h, h2⟩ | ⟨k, hk, h, h2, _⟩
  · rw [h]
    constructor
    · intro e; exact absurd rfl e
    · rintro ⟨k, hk, hu⟩
      have h3 := List.filter_eq_self.1 h2 (eo l k) (List.mem_of_getElem? (eo_get hk))
      rw [hu] at h3
      cases h3
  · rw [h]
    refine ⟨fun _ => ⟨k, hk, ?_⟩, fun _ => by omega⟩
    have : eo l k = l[k] := by unfold eo; rw [List.getElem?_eq_getElem hk]; rfl
    rw [this]
    simpa using h2
theorem fill_free {l : List Or} {o : Or} {S : List Nat} (h : Srt l o S) (hf : ordfree l ≠ -1) (fs : List Fi) : ordfree (fillP l S l o fs).1 ≠ -1 := by
  obtain ⟨k, hk, hu⟩ := (free_iff l).1 hf
  refine (free_iff _).2 ⟨k, by rw [fill_len]; exact hk, ?_⟩
  rw [fill_other]
  · exact hu
  · intro hm
    have := ((h.mem k).1 hm).2.1
    rw [hu] at this
    cases this
theorem FO.need {r : Or} (h : FO r) (h0 : r.left ≠ 0) : (needP r.side r.left r.price).2 = 0 ∧ (needP r.side r.left r.price).1 ≤ r.res ∧ (needP r.side r.left r.price).1 = (if r.side = 2 then r.left else r.left * r.price) := by
  rw [need_ok _ _ _ ⟨h.sd, h0, h.p0⟩ h.tp]
  refine ⟨rfl, ?_, rfl⟩
  show (if r.side = 2 then r.left else r.left * r.price) ≤ r.res
  split
  · rename_i e; rw [h.s2 e]; exact Nat.le_refl _
  · rename_i e
    exact h.s1 (by rcases h.sd with e2 | e2; exact e2; exact absurd e2 e)
end Go.Proofs.Ytmnfajplfnfgpaa.BQ
