/-
  What is left of writes that a crash cut short.
  Conditions: none beyond those that each lemma names.
-/
import Derived.Test.YtiajjkjdmcoodaaDOpens
namespace Go.Proofs.Ytiajjkjdmcoodaa.DKeepsP
set_option maxRecDepth 100000
open Go Go.RowKit Go.Proofs.Ytiajjkjdmcoodaa Go.Proofs.Ytiajjkjdmcoodaa.Facts Go.Proofs.Ytiajjkjdmcoodaa.Bytes Go.Proofs.Ytiajjkjdmcoodaa.DKeep Go.Proofs.Ytiajjkjdmcoodaa.DSmall Go.Proofs.Ytiajjkjdmcoodaa.DTurn Go.Proofs.Ytiajjkjdmcoodaa.DArm Go.Proofs.Ytiajjkjdmcoodaa.DRead Go.Proofs.Ytiajjkjdmcoodaa.DNew Go.Proofs.Ytiajjkjdmcoodaa.DBuild Go.Proofs.Ytiajjkjdmcoodaa.DWrite Go.Proofs.Ytiajjkjdmcoodaa.DOver Go.Proofs.Ytiajjkjdmcoodaa.DSettle Go.Proofs.Ytiajjkjdmcoodaa.DFlush Go.Proofs.Ytiajjkjdmcoodaa.DClone Go.Proofs.Ytiajjkjdmcoodaa.DAlive Go.Proofs.Ytiajjkjdmcoodaa.DOpens

def ours (a : Nat) (l : List (Nat × Sec)) : List (Nat × Sec) := l.filter fun p => p.1 == a
theorem ours_snoc (a : Nat) (l : List (Nat × Sec)) (p : Nat × Sec) : ours a (l ++ [p]) = ours a l ++ (if p.1 = a then [p] else []) := by
  unfold ours
  rw [List.filter_append]
  by_cases h : p.1 = a <;> simp [h]
theorem ours_take (a : Nat) (l : List (Nat × Sec)) (i : Nat) (p : Nat × Sec) (hp : l[i]? = some p) : ours a (l.take (i + 1)) = ours a (l.take i) ++ (if p.1 = a then [p] else []) := by
  rw [List.take_add_one, hp, Option.toList_some, ours_snoc]
theorem settled_at (ks : Nat → Nat) (safe : List Sec) (l : List (Nat × Sec)) (a : Nat) (s : Sec) (ha : safe[a]? = some s) (hk : ∀ i, ks i ≤ 16) : ∀ i, i ≤ l.length →
    (ours a (l.take i) = [] → (settled ks safe l i)[a]? = some s) ∧ (∀ b, ours a (l.take i) = [(a, b)] → ∃ k, k ≤ 16 ∧ (settled ks safe l i)[a]? = some (cutw s b k))
  | 0, _ => ⟨fun _ => ha, fun b h => by simp [ours] at h⟩
  | i + 1, hi => by
    obtain ⟨p, hp⟩ : ∃ p, l[i]? = some p := ⟨_, List.getElem?_eq_getElem hi⟩
    obtain ⟨h1, h2⟩ := settled_at ks safe l a s ha hk i (by omega)
    rw [settled_succ ks safe l i p hp, ours_take a l i p hp]
    have hal : a < (settled ks safe l i).length := by
      rw [settled_length]
      exact (List.getElem?_eq_some_iff.1 ha).1
    by_cases e : p.1 = a
    · rw [if_pos e, e]
      refine ⟨fun h => by simp at h, fun b h => ?_⟩
      have h0 : ours a (l.take i) = [] := by
        cases hh : ours a (l.take i) with
        | nil => rfl
        | cons x t => rw [hh] at h; simp at h
      rw [h0] at h
      simp at h
      subst h
      refine ⟨ks i, hk i, ?_⟩
      rw [List.getElem?_set_self hal, h1 h0]
      rfl
    · rw [if_neg e, List.append_nil, List.getElem?_set_ne e]
      exact ⟨h1, h2⟩
theorem relast_at (safe last : List Sec) (l : List (Nat × Sec)) (a : Nat) (s : Sec) (ha : safe[a]? = some s) (hl : last.length = safe.length) : ∀ i, i ≤ l.length →
    (relast safe last l i)[a]? = if ours a (l.take i) = [] then last[a]? else some s
  | 0, _ => by simp [ours]; rfl
  | i + 1, hi => by
    obtain ⟨p, hp⟩ : ∃ p, l[i]? = some p := ⟨_, List.getElem?_eq_getElem hi⟩
    have h1 := relast_at safe last l a s ha hl i (by omega)
    rw [relast_succ safe last l i p hp, ours_take a l i p hp]
    have hal : a < (relast safe last l i).length := by
      rw [relast_length, hl]
      exact (List.getElem?_eq_some_iff.1 ha).1
    by_cases e : p.1 = a
    · rw [if_pos e, e, List.getElem?_set_self hal, if_neg (by simp), ha]
      rfl
    · rw [if_neg e, List.append_nil, List.getElem?_set_ne e]
      exact h1

structure KS (a : Nat) (c : UInt8) (i : Nat) (d : Pd) (many : Nat) (last : Sec) : Prop where
  sz : d.safe.length = 6
  sz2 : d.last.length = 6
  off : d.off = false
  fuse : d.fuse = -1
  wt : d.waits.length ≤ i
  lt : a < 6
  old : d.safe[a]? = some (filled c)
  new : many = 0 → d.last[a]? = some (filled c)
  cnt : (ours a d.waits).length = many
  mine : 1 ≤ many → last.length = 128 ∧ (ours a d.waits).getLast? = some (a, last)
section
variable {a : Nat} {c : UInt8} {i : Nat} {d : Pd} {many : Nat} {last : Sec}
theorem KS.refus (h : KS a c i d many last) (n : Int) : refus d n = if n < 0 ∨ 6 ≤ n then 16 else 0 := by
  unfold DSmall.refus
  rw [h.off, h.sz]
  rfl
theorem KS.le (h : KS a c i d many last) : many ≤ i := by
  rw [← h.cnt]
  exact Nat.le_trans (List.length_filter_le _ _) h.wt
/-- A deed: refused, or noted elsewhere, or noted here. -/
theorem KS.deed (h : KS a c i d many last) (n : Int) (l : Sec) :
    (∃ q, DWrite.written d n l = (d, q) ∧ q ≠ 0) ∨ (DWrite.written d n l = (noted d n.toNat l, 0) ∧ n ≠ a ∧ KS a c (i + 1) (noted d n.toNat l) many last) ∨
      (DWrite.written d n l = (noted d n.toNat l, 0) ∧ n = a ∧ KS a c (i + 1) (noted d n.toNat l) (many + 1) l ∧ l.length = 128) := by
  unfold DWrite.written
  rw [h.refus n]
  by_cases hn : n < 0 ∨ 6 ≤ n
  · exact .inl ⟨16, by rw [if_pos hn, if_neg (by omega)], by omega⟩
  · rw [if_neg hn, if_pos rfl]
    by_cases hl : l.length = 128
    · rw [if_pos hl]
      have hb : blown (noted d n.toNat l) = (noted d n.toNat l, 0) := by
        unfold blown
        rw [if_pos (show (noted d n.toNat l).fuse = -1 from h.fuse)]
      rw [hb]
      have hw : (noted d n.toNat l).waits.length ≤ i + 1 := by
        show (d.waits ++ [_]).length ≤ i + 1
        rw [List.length_append, List.length_singleton]
        have := h.wt
        omega
      have hsl : (noted d n.toNat l).last.length = 6 := by
        show (d.last.set _ _).length = 6
        rw [List.length_set]
        exact h.sz2
      by_cases e : n = (a : Int)
      · refine .inr (.inr ⟨rfl, e, ⟨h.sz, hsl, h.off, h.fuse, hw, h.lt, h.old, fun h0 => by omega, ?_, fun _ => ⟨hl, ?_⟩⟩, hl⟩)
        · show (ours a (d.waits ++ [_])).length = _
          rw [ours_snoc, if_pos (by show n.toNat = a; omega), List.length_append, h.cnt]
          rfl
        · show (ours a (d.waits ++ [_])).getLast? = _
          rw [ours_snoc, if_pos (by show n.toNat = a; omega), List.getLast?_concat, show n.toNat = a by omega]
      · have en : ¬ n.toNat = a := by omega
        refine .inr (.inl ⟨rfl, e, ⟨h.sz, hsl, h.off, h.fuse, hw, h.lt, h.old, fun h0 => ?_, ?_, fun h1 => ?_⟩⟩)
        · show (d.last.set _ _)[a]? = _
          rw [List.getElem?_set_ne en]
          exact h.new h0
        · show (ours a (d.waits ++ [_])).length = _
          rw [ours_snoc, if_neg en, List.append_nil]
          exact h.cnt
        · show _ ∧ (ours a (d.waits ++ [_])).getLast? = _
          rw [ours_snoc, if_neg en, List.append_nil]
          exact h.mine h1
    · rw [if_neg hl]
      exact .inl ⟨1, rfl, by omega⟩
theorem KS.step (h : KS a c i d many last) : KS a c (i + 1) d many last :=
  ⟨h.sz, h.sz2, h.off, h.fuse, Nat.le_succ_of_le h.wt, h.lt, h.old, h.new, h.cnt, h.mine⟩
theorem filled_get (c : UInt8) (j : Nat) (hj : j < 128) : (filled c)[j]? = some c := by
  unfold filled
  rw [List.getElem?_replicate, if_pos hj]
theorem KS.crash (h : KS a c i d many last) (l : List UInt8) (hel : ∀ B ∈ (crashed d l).last, B.length = 128) : ∃ b k, readOf (crashed d l) (a : Int) = (b, 0) ∧ b.length = 128 ∧ (many ≤ 1 → k ≤ 16 ∧ (many = 0 → k = 0) ∧ (∀ j, 8 * k ≤ j → j < 128 → b[j]?.getD 0 = c) ∧ (∀ j, j < 8 * k → b[j]? = last[j]?)) := by
  obtain ⟨S, hS⟩ : ∃ S, settled (kept l) d.safe d.waits d.waits.length = S := ⟨_, rfl⟩
  have hSl : S.length = 6 := by rw [← hS, settled_length]; exact h.sz
  obtain ⟨s, hs⟩ : ∃ s, S[a]? = some s := ⟨_, List.getElem?_eq_getElem (by rw [hSl]; exact h.lt)⟩
  have hlast : (crashed d l).last = relast S d.last d.waits d.waits.length := by rw [← hS]; rfl
  have hsafe : (crashed d l).safe = S := hS
  have hr : DSmall.refus (crashed d l) (a : Int) = 0 := by
    have := h.lt
    unfold DSmall.refus
    rw [show (crashed d l).off = false from rfl, hsafe, hSl, if_neg (by simp), if_neg (by omega)]
  have hrl := relast_at S d.last d.waits a s hs (by rw [h.sz2, hSl]) d.waits.length (Nat.le_refl _)
  rw [List.take_length] at hrl
  obtain ⟨t1, t2⟩ := settled_at (kept l) d.safe d.waits a (filled c) h.old (kept_le l) d.waits.length (Nat.le_refl _)
  rw [List.take_length, hS] at t1 t2
  have hcnt := h.cnt
  have hro : ∀ b, (crashed d l).last[a]? = some b → readOf (crashed d l) (a : Int) = (b, 0) ∧ b.length = 128 := fun b hb => by
    unfold readOf
    rw [if_pos hr]
    exact ⟨by rw [Int.toNat_natCast, hb]; rfl, hel b (List.mem_of_getElem? hb)⟩
  rw [← hlast] at hrl
  by_cases e0 : ours a d.waits = []
  · rw [if_pos e0] at hrl
    have hm : many = 0 := by rw [← hcnt, e0]; rfl
    rw [h.new hm] at hrl
    obtain ⟨r1, r2⟩ := hro _ hrl
    exact ⟨filled c, 0, r1, r2, fun _ => ⟨by omega, fun _ => rfl, fun j _ hj => by rw [filled_get c j hj]; rfl, fun j hj => by omega⟩⟩
  · rw [if_neg e0] at hrl
    obtain ⟨r1, r2⟩ := hro _ hrl
    by_cases e1 : many = 1
    · obtain ⟨m1, m2⟩ := h.mine (by omega)
      have ho : ours a d.waits = [(a, last)] := by
        match ho : ours a d.waits with
        | [] => exact absurd ho e0
        | [x] => rw [ho] at m2; simpa using m2
        | x :: y :: t => rw [ho] at hcnt; simp at hcnt; omega
      obtain ⟨k, hk, he⟩ := t2 last ho
      rw [hs] at he
      injection he with he
      subst he
      have hlt : (last.take (8 * k)).length = 8 * k := by rw [List.length_take]; omega
      refine ⟨_, k, r1, r2, fun _ => ⟨hk, fun h0 => by omega, fun j h1 h2 => ?_, fun j h1 => ?_⟩⟩
      · unfold cutw
        rw [List.getElem?_append_right (by omega), hlt, List.getElem?_drop, filled_get c _ (by omega)]
        rfl
      · unfold cutw
        rw [List.getElem?_append_left (by omega), List.getElem?_take_of_lt h1]
    · have hm0 : many ≠ 0 := fun h0 => by
        rw [h0] at hcnt
        exact e0 (List.eq_nil_of_length_eq_zero hcnt)
      exact ⟨s, 0, r1, r2, fun h1 => by omega⟩
/-- The start: filled and flushed. -/
theorem KS.start (a : Nat) (c : UInt8) (ha : a < 6) : ∃ d1 d2, DWrite.written (fresh 6) (a : Int) (filled c) = (d1, 0) ∧ d1.waits.length ≤ 1 ∧ flushed d1 = (d2, 0) ∧ KS a c 0 d2 0 [] := by
  have hr : DSmall.refus (fresh 6) (a : Int) = 0 := by
    unfold DSmall.refus
    rw [show (fresh 6).off = false from rfl, show (fresh 6).safe.length = 6 from DNew.blank_length 6, if_neg (by simp), if_neg (by omega)]
  have hk : cutw zsec (filled c) 16 = filled c := by
    unfold cutw
    rw [List.take_of_length_le (by rw [filled_length]; omega), List.drop_eq_nil_of_le (by decide), List.append_nil]
  have hset : settled (fun _ => 16) (DNew.blank 6) [(a, filled c)] 1 = (DNew.blank 6).set a (filled c) := by
    rw [settled_succ _ _ _ 0 (a, filled c) rfl]
    show (DNew.blank 6).set a (cutw ((DNew.blank 6)[a]?.getD []) (filled c) 16) = _
    have : (DNew.blank 6)[a]?.getD [] = zsec := by
      unfold DNew.blank
      rw [List.getElem?_replicate, if_pos ha]
      rfl
    rw [this, hk]
  have hg : ((DNew.blank 6).set a (filled c))[a]? = some (filled c) := List.getElem?_set_self (by rw [DNew.blank_length]; exact ha)
  refine ⟨noted (fresh 6) a (filled c), ended (fun _ => 16) (noted (fresh 6) a (filled c)), ?_, Nat.le_refl _, rfl, ?_, ?_, rfl, rfl, Nat.le_refl _, ha, ?_, fun _ => ?_, rfl, fun h => by omega⟩
  · unfold DWrite.written
    rw [if_pos hr, if_pos (filled_length c)]
    rfl
  · show (settled _ _ _ _).length = 6
    rw [settled_length]
    exact DNew.blank_length 6
  · show (relast _ _ _ _).length = 6
    rw [relast_length]
    show ((DNew.blank 6).set _ _).length = 6
    rw [List.length_set]
    exact DNew.blank_length 6
  · show (settled (fun _ => 16) (DNew.blank 6) [(a, filled c)] 1)[a]? = _
    rw [hset]
    exact hg
  · show (relast (settled (fun _ => 16) (DNew.blank 6) [(a, filled c)] 1) ((DNew.blank 6).set a (filled c)) [(a, filled c)] 1)[a]? = _
    rw [hset, relast_succ _ _ _ 0 (a, filled c) rfl]
    show (((DNew.blank 6).set a (filled c)).set a (((DNew.blank 6).set a (filled c))[a]?.getD []))[a]? = _
    rw [hg, List.getElem?_set_self (by rw [List.length_set, DNew.blank_length]; exact ha)]
    rfl
end
end Go.Proofs.Ytiajjkjdmcoodaa.DKeepsP
