/-
  An order that met nothing: what comes of posting it.
  Conditions: those that each lemma names.
-/
import Derived.Test.YtmnfajplfnfgpaaBQ
namespace Go.Proofs.Ytmnfajplfnfgpaa.OY
set_option maxRecDepth 100000
open Go Go.RowKit Go.Lib Go.Proofs.Ytmnfajplfnfgpaa Go.Proofs.Ytmnfajplfnfgpaa.Facts Go.Proofs.Ytmnfajplfnfgpaa.Ints Go.Proofs.Ytmnfajplfnfgpaa.PA Go.Proofs.Ytmnfajplfnfgpaa.UM Go.Proofs.Ytmnfajplfnfgpaa.UB Go.Proofs.Ytmnfajplfnfgpaa.OA Go.Proofs.Ytmnfajplfnfgpaa.BP Go.Proofs.Ytmnfajplfnfgpaa.BQ Go.Proofs.Ytmnfajplfnfgpaa.Bytes


theorem fill_fs (l : List Or) : ∀ (S : List Nat) (now : List Or) (o : Or) (fs : List Fi), fs.length ≤ (fillP l S now o fs).2.1.length
  | [], _, _, fs => Nat.le_refl _
  | i :: r, now, o, fs => by
    rw [fillP]
    split
    · exact Nat.le_refl _
    · refine Nat.le_trans ?_ (fill_fs l r _ _ _)
      rw [List.length_append]
      exact Nat.le_add_right _ _
theorem split_at {l : List Or} {k : Nat} (hk : k < l.length) (x : Or) : l = l.take k ++ eo l k :: l.drop (k + 1) ∧ l.set k x = l.take k ++ x :: l.drop (k + 1) := by
  have h : eo l k = l[k] := by unfold eo; rw [List.getElem?_eq_getElem hk]; rfl
  refine ⟨?_, ?_⟩
  · rw [h, ← List.drop_eq_getElem_cons hk, List.take_append_drop]
  · rw [List.set_eq_take_append_cons_drop, if_pos hk]
theorem right_set {l : List Or} {k : Nat} (hk : k < l.length) (hr : rightO l = true) (hu : (eo l k).used = false) {x : Or} (hx : okO x = true) (hs : x.used = true → takenB l x = false) : rightO (l.set k x) = true := by
  unfold rightO at hr ⊢
  rw [Bool.and_eq_true] at hr ⊢
  refine ⟨List.all_eq_true.2 fun y hy => ?_, ?_⟩
  · rcases List.mem_or_eq_of_mem_set hy with h | h
    · exact List.all_eq_true.1 hr.1 y h
    · rw [h]; exact hx
  · have h2 := hr.2
    unfold apartP at h2 ⊢
    rw [decide_eq_true_iff] at h2 ⊢
    obtain ⟨e1, e2⟩ := split_at hk x
    unfold seqs at h2 ⊢
    rw [e2, List.filter_append, List.filter_cons]
    rw [e1, List.filter_append, List.filter_cons, hu] at h2
    simp only [Bool.false_eq_true, if_false] at h2
    cases hxu : x.used with
    | false =>
      simp only [Bool.false_eq_true, if_false]
      exact h2
    | true =>
      simp only [if_true]
      have ht := hs hxu
      rw [List.map_append, List.map_cons, List.perm_middle.nodup_iff, List.nodup_cons]
      rw [List.map_append] at h2
      refine ⟨fun hm => ?_, h2⟩
      rw [← List.map_append, ← List.filter_append] at hm
      obtain ⟨y, hy, hys⟩ := List.mem_map.1 hm
      obtain ⟨hy1, hy2⟩ := List.mem_filter.1 hy
      unfold takenB at ht
      have h3 := List.any_eq_false.1 ht y (by
        rw [e1]
        rcases List.mem_append.1 hy1 with h | h
        · exact List.mem_append_left _ h
        · exact List.mem_append_right _ (List.mem_cons_of_mem _ h))
      rw [hy2, hys] at h3
      simp at h3
theorem zor_at {l : List Or} {k : Nat} (hk : k < l.length) (hr : rightO l = true) (hu : (eo l k).used = false) : eo l k = zor := by
  unfold rightO at hr
  rw [Bool.and_eq_true] at hr
  have h := List.all_eq_true.1 hr.1 (eo l k) (List.mem_of_getElem? (eo_get hk))
  unfold okO at h
  rw [hu] at h
  simpa using h
theorem set_same {l : List Or} {k : Nat} (hk : k < l.length) : l.set k (eo l k) = l := by
  rw [(split_at hk _).2]
  exact (split_at hk zor).1.symm
theorem free_at {l : List Or} {k : Nat} (h : ordfree l = k) : k < l.length ∧ (eo l k).used = false := by
  unfold ordfree at h
  rcases fidx_cases l (fun x => !x.used) with ⟨h1, _⟩ | ⟨j, hj, h1, h2, _⟩
  · omega
  · have : j = k := by omega
    subst this
    refine ⟨hj, ?_⟩
    have : eo l j = l[j] := by unfold eo; rw [List.getElem?_eq_getElem hj]; rfl
    rw [this]
    simpa using h2
/-- What comes of posting, if all went well. -/
theorem post_fine {l : List Or} {o : Or} {S : List Nat} (he : (postP l o S).err = 0) : (rightO l = true ∧ mayO o = true ∧ takenB l o = false) ∧ ordfree l ≠ -1 ∧ postP l o S = restP (fillP l S l o []) := by
  by_cases h : rightO l = true ∧ mayO o = true ∧ takenB l o = false
  · by_cases hf : ordfree l = -1
    · have e : postP l o S = ⟨[], [], 0, 0, 8⟩ := by unfold postP; rw [if_pos h, if_pos hf]
      rw [e] at he
      cases he
    · exact ⟨h, hf, by unfold postP; rw [if_pos h, if_neg hf]⟩
  · have e : postP l o S = ⟨[], [], 0, 0, 1⟩ := if_neg h
    rw [e] at he
    cases he
theorem rest_fills (t : List Or × List Fi × Or) : (restP t).fills = t.2.1 := by
  unfold restP
  split <;> rfl
/-- An order that met nothing. -/
theorem post_none {l : List Or} {o : Or} {S : List Nat} (he : (postP l o S).err = 0) (hf : (postP l o S).fills = []) :
    ∃ k : Nat, k < l.length ∧ eo l k = zor ∧ postP l o S = ⟨l.set k { o with used := true }, [], k, 0, 0⟩ ∧ rightO (l.set k { o with used := true }) = true := by
  obtain ⟨⟨hr, hm, ht⟩, hfr, hp⟩ := post_fine he
  have hM := (may_iff o).1 hm
  rw [hp, rest_fills] at hf
  have hS : S = [] := by
    cases S with
    | nil => rfl
    | cons i r =>
      rw [fillP, if_neg hM.l0] at hf
      have := fill_fs l r (nowP l l o i) (ordP l o i) ([] ++ [filP l o i])
      rw [hf] at this
      simp at this
  subst hS
  obtain ⟨k, hk⟩ : ∃ k : Nat, ordfree l = k := by
    rcases ord_freec l with h | ⟨k, h, _⟩
    · exact absurd h hfr
    · exact ⟨k, h⟩
  obtain ⟨hkl, hu⟩ := free_at hk
  have hz := zor_at hkl hr hu
  have hrs : (needP o.side o.left o.price).1 = o.res := by
    unfold mayO at hm
    simp only [Bool.and_eq_true, decide_eq_true_eq] at hm
    exact hm.2.1.symm
  refine ⟨k, hkl, hz, ?_, right_set hkl hr hu ?_ ?_⟩
  · have e : fillP l [] l o [] = (l, [], o) := rfl
    rw [hp, e]
    refine (if_neg hM.l0).trans ?_
    show (⟨l.set (ordfree l).toNat { o with used := true, res := (needP o.side o.left o.price).1 }, [], ordfree l, o.res - (needP o.side o.left o.price).1, 0⟩ : Po) = _
    rw [hk, hrs, Nat.sub_self, Int.toNat_natCast]
  · show mayO _ = true
    exact hm
  · intro _
    exact ht
end Go.Proofs.Ytmnfajplfnfgpaa.OY
