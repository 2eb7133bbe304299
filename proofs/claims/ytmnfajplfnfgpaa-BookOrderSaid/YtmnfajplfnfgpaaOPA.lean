/-
  The best one is looked for again and again: what comes of it is what the sorted slots give.
  Conditions: those that each lemma names.
-/
import Derived.Test.YtmnfajplfnfgpaaORC
import Derived.Test.YtmnfajplfnfgpaaORD
import Derived.Test.YtmnfajplfnfgpaaOY
namespace Go.Proofs.Ytmnfajplfnfgpaa.OPA
set_option maxRecDepth 100000
open Go Go.RowKit Go.Lib Go.Proofs.Ytmnfajplfnfgpaa Go.Proofs.Ytmnfajplfnfgpaa.Facts Go.Proofs.Ytmnfajplfnfgpaa.Ints Go.Proofs.Ytmnfajplfnfgpaa.PA Go.Proofs.Ytmnfajplfnfgpaa.UM Go.Proofs.Ytmnfajplfnfgpaa.UB Go.Proofs.Ytmnfajplfnfgpaa.OA Go.Proofs.Ytmnfajplfnfgpaa.BP Go.Proofs.Ytmnfajplfnfgpaa.BQ Go.Proofs.Ytmnfajplfnfgpaa.ORA Go.Proofs.Ytmnfajplfnfgpaa.ORC Go.Proofs.Ytmnfajplfnfgpaa.ORD Go.Proofs.Ytmnfajplfnfgpaa.OY


theorem rless_is {x : Or} (hx : MayF x) {n : Nat} (hn : n ≤ x.left) (p : Nat) (hp : p = x.price) : rless x n = if n < x.left then lessP x n p else zor := by
  subst hp
  unfold rless
  by_cases h : x.left = n
  · rw [if_pos h, if_neg (by omega)]
  · have hlt : n < x.left := by omega
    rw [if_neg h, if_pos hlt]
    have h1 : (x.left - n) * x.price ≤ top := Nat.le_trans (Nat.mul_le_mul_right _ (Nat.sub_le _ _)) hx.tp
    rw [need_ok _ _ _ ⟨hx.sd, by omega, hx.p0⟩ h1]
    unfold lessP
    rw [hx.rs]
    congr 1
    show (if x.side = 2 then x.left - n else (x.left - n) * x.price) = _
    split
    · rfl
    · exact Nat.sub_mul _ _ _
theorem bst_meets (l : List Or) (o : Or) : ∀ n, bst l o n = -1 ∨ ∃ j : Nat, bst l o n = j ∧ j < n ∧ rmeets o (eo l j) = true
  | 0 => .inl rfl
  | k + 1 => by
    rw [bst]
    split
    · rename_i h
      exact .inr ⟨k, rfl, Nat.lt_succ_self _, h.1⟩
    · rcases bst_meets l o k with h | ⟨j, h, hj, hm⟩
      · exact .inl h
      · exact .inr ⟨j, h, by omega, hm⟩
theorem bst_no {l : List Or} {o : Or} : ∀ {n : Nat}, (∀ i, i < n → rmeets o (eo l i) = false) → bst l o n = -1
  | 0, _ => rfl
  | k + 1, h => by
    rw [bst, if_neg (fun e => by rw [h k (Nat.lt_succ_self _)] at e; cases e.1)]
    exact bst_no fun i hi => h i (by omega)
theorem bst_is {l : List Or} {o : Or} {j : Nat} (hm : rmeets o (eo l j) = true) : ∀ {n : Nat}, j < n → (∀ i, i < n → i ≠ j → rmeets o (eo l i) = true → betB o (eo l j) (eo l i) = true) → bst l o n = j
  | 0, h, _ => absurd h (Nat.not_lt_zero _)
  | k + 1, h, hb => by
    by_cases e : j = k
    · subst e
      rw [bst, if_pos]
      refine ⟨hm, ?_⟩
      rcases bst_meets l o j with h1 | ⟨i, h1, hi, him⟩
      · exact .inl (by omega)
      · rw [h1, Int.toNat_natCast]
        exact .inr (hb i (by omega) (by omega) him)
    · have h2 := bst_is hm (show j < k by omega) fun i hi => hb i (by omega)
      rw [bst, h2, Int.toNat_natCast]
      refine if_neg fun h3 => ?_
      rcases h3.2 with h4 | h4
      · omega
      · have h5 := hb k (Nat.lt_succ_self _) (fun e2 => e e2.symm) h3.1
        rw [bet_asy _ _ _ h5] at h4
        cases h4
/-- Orders that meet the same ones, and prefer the same ones. -/
structure Lk (o o' : Or) : Prop where
  side : o'.side = o.side
  base : o'.base = o.base
  quote : o'.quote = o.quote
  price : o'.price = o.price
theorem rm_same {o o' : Or} (h : Lk o o') (x : Or) : rmeets o' x = rmeets o x := by
  unfold rmeets
  rw [h.side, h.base, h.quote, h.price]
theorem bet_same {o o' : Or} (h : Lk o o') (x y : Or) : betB o' x y = betB o x y := by
  unfold betB
  rw [h.side]
theorem bst_same {o o' : Or} (h : Lk o o') (l : List Or) : ∀ n, bst l o' n = bst l o n
  | 0 => rfl
  | k + 1 => by rw [bst, bst, bst_same h l k, rm_same h, bet_same h]
theorem mp_same {o o' : Or} (h : Lk o o') (x : Or) : meetsP o' x = meetsP o x := by
  unfold meetsP
  rw [h.side, h.base, h.quote, h.price]
theorem Sm.lk {o o' : Or} (h : Sm o o') : Lk o o' := ⟨h.side, h.base, h.quote, h.price⟩
/-- Where the document's loop stands. -/
structure PIv (l : List Or) (o : Or) (S : List Nat) (pre rest : List Nat) (now : List Or) (o' : Or) (fs : List Fi) : Prop where
  all : S = pre ++ rest
  run : fillP l S l o [] = fillP l rest now o' fs
  fo : FO o'
  sm : Sm o o'
  len : now.length = l.length
  fl : fs.length = pre.length
  other : ∀ i, i ∉ pre → eo now i = eo l i
  done : o'.left ≠ 0 → ∀ i ∈ pre, eo now i = zor
  may : ∀ i, (eo now i).used = true → (eo now i).side = 1 ∨ (eo now i).side = 2
theorem PIv.start {l : List Or} {o : Or} {S : List Nat} (hr : rightO l = true) (hm : MayF o) : PIv l o S [] S l o [] :=
  ⟨rfl, rfl, FO.of_may hm, ⟨rfl, rfl, rfl, rfl, rfl, rfl, rfl, rfl, Nat.le_refl _⟩, rfl, rfl, fun _ _ => rfl, fun _ _ h => absurd h List.not_mem_nil, fun i hu => (right_at hr i hu).sd⟩
theorem zor_side : zor.used = false := rfl
theorem rm_off {o x : Or} (h : x.used = false) : rmeets o x = false := by
  unfold rmeets
  rw [h]
  rfl
/-- No slot is left: none meets. -/
theorem PIv.no {l : List Or} {o : Or} {S pre : List Nat} {now : List Or} {o' : Or} {fs : List Fi} (hr : rightO l = true) (hS : Srt l o S) (h : PIv l o S pre [] now o' fs) (h0 : o'.left ≠ 0) (hm : MayF o) : bst now o' l.length = -1 := by
  refine bst_no fun i hi => ?_
  rw [rm_same (Sm.lk h.sm)]
  by_cases hp : i ∈ pre
  · rw [h.done h0 i hp]
    exact rm_off rfl
  · rw [h.other i hp]
    cases hu : (eo l i).used with
    | false => exact rm_off hu
    | true =>
      rw [rmeets_is hm.sd (right_at hr i hu).sd, hu, Bool.true_and]
      refine Bool.eq_false_iff.2 fun hmm => hp ?_
      have := (hS.mem i).2 ⟨hi, hu, hmm⟩
      rw [h.all, List.append_nil] at this
      exact this
/-- The best one is the next slot. -/
theorem PIv.best {l : List Or} {o : Or} {S pre r : List Nat} {k : Nat} {now : List Or} {o' : Or} {fs : List Fi} (hr : rightO l = true) (hS : Srt l o S) (h : PIv l o S pre (k :: r) now o' fs) (h0 : o'.left ≠ 0) (hm : MayF o) :
    bst now o' l.length = k ∧ k < l.length ∧ eo now k = eo l k ∧ MayF (eo l k) ∧ meetsP o' (eo l k) = true := by
  have hk : k ∈ S := by rw [h.all]; exact List.mem_append_right _ (List.mem_cons_self ..)
  obtain ⟨k1, k2, k3⟩ := (hS.mem k).1 hk
  have hnd := hS.nodup
  rw [h.all] at hnd
  have hkp : k ∉ pre := fun hp => (List.nodup_append.1 hnd).2.2 k hp k (List.mem_cons_self ..) rfl
  have hek := h.other k hkp
  have hso := hS.sort
  rw [h.all] at hso
  have hkr := (List.pairwise_cons.1 (List.pairwise_append.1 hso).2.1).1
  refine ⟨?_, k1, hek, right_at hr k k2, ?_⟩
  · rw [bst_same (Sm.lk h.sm)]
    refine bst_is ?_ k1 fun i hi hne him => ?_
    · rw [hek, rmeets_is hm.sd (right_at hr k k2).sd, k2, k3]; rfl
    · by_cases hp : i ∈ pre
      · rw [h.done h0 i hp, rm_off rfl] at him
        cases him
      · rw [h.other i hp] at him ⊢
        rw [hek]
        cases hu : (eo l i).used with
        | false => rw [rm_off hu] at him; cases him
        | true =>
          rw [rmeets_is hm.sd (right_at hr i hu).sd, hu, Bool.true_and] at him
          have h3 := (hS.mem i).2 ⟨hi, hu, him⟩
          rw [h.all] at h3
          rcases List.mem_append.1 h3 with h4 | h4
          · exact absurd h4 hp
          · rcases List.mem_cons.1 h4 with h5 | h5
            · exact absurd h5 hne
            · exact hkr i h5
  · rw [mp_same (Sm.lk h.sm)]
    exact k3
/-- A round. -/
theorem PIv.next {l : List Or} {o : Or} {S pre r : List Nat} {k : Nat} {now : List Or} {o' : Or} {fs : List Fi} (hr : rightO l = true) (hS : Srt l o S) (h : PIv l o S pre (k :: r) now o' fs) (h0 : o'.left ≠ 0) (hm : MayF o) :
    PIv l o S (pre ++ [k]) r (nowP l now o' k) (ordP l o' k) (fs ++ [filP l o' k]) := by
  obtain ⟨_, hk, hek, hmk, hmm⟩ := h.best hr hS h0 hm
  refine ⟨?_, ?_, h.fo.next hmk hmm, ?_, ?_, ?_, ?_, ?_, ?_⟩
  · rw [h.all, List.append_assoc]; rfl
  · rw [h.run, fillP, if_neg h0]
  · exact ⟨h.sm.used, h.sm.label, h.sm.who, h.sm.side, h.sm.base, h.sm.quote, h.sm.price, h.sm.seq, Nat.le_trans (Nat.sub_le _ _) h.sm.le⟩
  · unfold nowP; rw [List.length_set]; exact h.len
  · rw [List.length_append, List.length_append, h.fl]; rfl
  · intro i hi
    have h1 : i ≠ k := fun e => hi (by rw [e]; exact List.mem_append_right _ (List.mem_cons_self ..))
    unfold nowP
    rw [eo_set h1]
    exact h.other i fun h2 => hi (List.mem_append_left _ h2)
  · intro hl i hi
    have hlt : ¬ o'.left < (eo l k).left := by
      intro hlt
      refine hl ?_
      show o'.left - min o'.left (eo l k).left = 0
      omega
    unfold nowP
    rw [if_neg hlt]
    by_cases e : i = k
    · subst e
      exact eo_set_same (by rw [h.len]; exact hk)
    · rw [eo_set e]
      rcases List.mem_append.1 hi with h2 | h2
      · exact h.done h0 i h2
      · exact absurd (List.mem_singleton.1 h2) e
  · intro i hu
    unfold nowP at hu ⊢
    by_cases e : i = k
    · subst e
      rw [eo_set_same (by rw [h.len]; exact hk)] at hu ⊢
      split at hu
      · rw [if_pos (by assumption)]
        exact hmk.sd
      · cases hu
    · rw [eo_set e] at hu ⊢
      exact h.may i hu
/-- What is written at the slot. -/
theorem PIv.less {l : List Or} {o' : Or} {k : Nat} (hmk : MayF (eo l k)) : rless (eo l k) (min o'.left (eo l k).left) = if o'.left < (eo l k).left then lessP (eo l k) o'.left (eo l k).price else zor := by
  rw [rless_is hmk (Nat.min_le_right _ _) _ rfl]
  by_cases h : o'.left < (eo l k).left
  · rw [if_pos h, if_pos (by omega), Nat.min_eq_left (by omega)]
  · rw [if_neg h, if_neg (by omega)]
theorem PIv.fin {l : List Or} {o : Or} {S pre rest : List Nat} {now : List Or} {o' : Or} {fs : List Fi} (h : PIv l o S pre rest now o' fs) (h0 : o'.left = 0 ∨ rest = []) : fillP l S l o [] = (now, fs, o') := by
  rw [h.run]
  rcases h0 with h0 | h0
  · cases rest with
    | nil => rfl
    | cons i r => rw [fillP, if_pos h0]
  · subst h0; rfl
end Go.Proofs.Ytmnfajplfnfgpaa.OPA
