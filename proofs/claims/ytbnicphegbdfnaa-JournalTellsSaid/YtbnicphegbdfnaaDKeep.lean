/-
  A disk as it lies in memory: its sectors, those that are safe, what waits, its fuse; and what keeps it.
  Conditions: those that each lemma names.
-/
import Derived.Test.YtbnicphegbdfnaaProg
import Derived.Test.YtbnicphegbdfnaaMarks
import Derived.Test.YtbnicphegbdfnaaBytes
import Derived.Deep.MidRow
import Derived.Lib.Hide
import Derived.WalkMore
import Derived.Laws.OwnMore
namespace Go.Proofs.Ytbnicphegbdfnaa.DKeep
set_option maxRecDepth 100000
set_option maxRecDepth 100000
set_option maxRecDepth 100000
open Go Go.RowKit Go.Proofs.Ytbnicphegbdfnaa Go.Proofs.Ytbnicphegbdfnaa.Facts Go.Proofs.Ytbnicphegbdfnaa.Bytes

abbrev Sec := List UInt8
/-- A disk. -/
structure Pd where
  safe : List Sec
  last : List Sec
  waits : List (Nat × Sec)
  fuse : Int
  off : Bool

/-- The cells of sectors side by side. -/
def scells (l : List Sec) : List Value := l.flatMap bv
/-- The cells of writes side by side. -/
def wcells (l : List (Nat × Sec)) : List Value := l.flatMap fun p => .int .i64 (p.1 : Int) :: bv p.2
def Even (l : List Sec) : Prop := ∀ B ∈ l, B.length = 128
def Fit (n : Nat) (l : List (Nat × Sec)) : Prop := ∀ p ∈ l, p.1 < n ∧ p.2.length = 128

theorem scells_length (l : List Sec) (h : Even l) : (scells l).length = l.length * 128 := by
  induction l with
  | nil => rfl
  | cons B l ih =>
    have h1 := h B (List.mem_cons_self ..)
    have h2 := ih fun C hC => h C (List.mem_cons_of_mem _ hC)
    have e : scells (B :: l) = bv B ++ scells l := rfl
    rw [e, List.length_append, bv_length, h1, h2, List.length_cons]
    omega
theorem wcells_length (n : Nat) (l : List (Nat × Sec)) (h : Fit n l) : (wcells l).length = l.length * 129 := by
  induction l with
  | nil => rfl
  | cons p l ih =>
    have h1 := (h p (List.mem_cons_self ..)).2
    have h2 := ih fun C hC => h C (List.mem_cons_of_mem _ hC)
    have e : wcells (p :: l) = (.int .i64 (p.1 : Int) :: bv p.2) ++ wcells l := rfl
    rw [e, List.length_append, List.length_cons, bv_length, h1, h2, List.length_cons]
    omega
/-- Sector k's cells stand at 128 k. -/
theorem scells_at : ∀ (l : List Sec), Even l → ∀ k B, l[k]? = some B → ∀ j, j < 128 → (scells l)[128 * k + j]? = (bv B)[j]?
  | [], _, k, B, h, _, _ => by simp at h
  | C :: l, he, k, B, h, j, hj => by
    have h1 := he C (List.mem_cons_self ..)
    have e : scells (C :: l) = bv C ++ scells l := rfl
    rw [e]
    cases k with
    | zero =>
      simp only [List.getElem?_cons_zero, Option.some.injEq] at h
      subst h
      rw [List.getElem?_append_left (by rw [bv_length]; omega)]
      congr 1
      omega
    | succ k =>
      rw [List.getElem?_append_right (by rw [bv_length]; omega), bv_length, h1, show 128 * (k + 1) + j - 128 = 128 * k + j by omega]
      exact scells_at l (fun D hD => he D (List.mem_cons_of_mem _ hD)) k B (by simpa using h) j hj
theorem scells_set : ∀ (l : List Sec), Even l → ∀ k (B : Sec), k < l.length → B.length = 128 → scells (l.set k B) = (scells l).take (128 * k) ++ (bv B ++ (scells l).drop (128 * k + 128))
  | [], _, k, B, h, _ => by simp at h
  | C :: l, he, k, B, h, hB => by
    have h1 := he C (List.mem_cons_self ..)
    have hl := bv_length C
    have e : scells (C :: l) = bv C ++ scells l := rfl
    cases k with
    | zero =>
      have e2 : scells (B :: l) = bv B ++ scells l := rfl
      rw [List.set_cons_zero, e, e2, Nat.mul_zero, List.take_zero, List.nil_append, Nat.zero_add, List.drop_left' (by omega)]
    | succ k =>
      have ih := scells_set l (fun D hD => he D (List.mem_cons_of_mem _ hD)) k B (by simpa using h) hB
      have e2 : scells (C :: l.set k B) = bv C ++ scells (l.set k B) := rfl
      have t1 : (bv C ++ scells l).take (128 * (k + 1)) = bv C ++ (scells l).take (128 * k) := by
        rw [List.take_append, List.take_of_length_le (l := bv C) (by omega), hl, h1, show 128 * (k + 1) - 128 = 128 * k by omega]
      have t2 : (bv C ++ scells l).drop (128 * (k + 1) + 128) = (scells l).drop (128 * k + 128) := by
        rw [List.drop_append, List.drop_of_length_le (l := bv C) (by omega), hl, h1, show 128 * (k + 1) + 128 - 128 = 128 * k + 128 by omega, List.nil_append]
      rw [List.set_cons_succ, e, e2, t1, t2, ih, List.append_assoc]
/-- Write k's cells stand at 129 k. -/
theorem wcells_at (n : Nat) : ∀ (l : List (Nat × Sec)), Fit n l → ∀ k p, l[k]? = some p → ∀ j, j < 129 → (wcells l)[129 * k + j]? = (Value.int .i64 (p.1 : Int) :: bv p.2)[j]?
  | [], _, k, p, h, _, _ => by simp at h
  | C :: l, he, k, p, h, j, hj => by
    have h1 := (he C (List.mem_cons_self ..)).2
    have e : wcells (C :: l) = (.int .i64 (C.1 : Int) :: bv C.2) ++ wcells l := rfl
    rw [e]
    cases k with
    | zero =>
      simp only [List.getElem?_cons_zero, Option.some.injEq] at h
      subst h
      rw [List.getElem?_append_left (by rw [List.length_cons, bv_length]; omega)]
      congr 1
      omega
    | succ k =>
      rw [List.getElem?_append_right (by rw [List.length_cons, bv_length]; omega), List.length_cons, bv_length, h1, show 129 * (k + 1) + j - (128 + 1) = 129 * k + j by omega]
      exact wcells_at n l (fun D hD => he D (List.mem_cons_of_mem _ hD)) k p (by simpa using h) j hj
theorem wcells_snoc (l : List (Nat × Sec)) (p : Nat × Sec) : wcells (l ++ [p]) = wcells l ++ (.int .i64 (p.1 : Int) :: bv p.2) := by simp [wcells]

/-- Sectors, side by side, lie in block g. -/
def RowAt (w : World) (g : Nat) (l : List Sec) : Prop := ∃ cur : Array Value, w.heap[g]? = some (.cells cur 116 (0, 0)) ∧ cur.toList.take (l.length * 128) = scells l
theorem RowAt.keep {w w' : World} {g : Nat} {l : List Sec} (h : RowAt w g l) (hk : w'.heap[g]? = w.heap[g]?) : RowAt w' g l := by
  obtain ⟨cur, h1, h2⟩ := h
  exact ⟨cur, hk.trans h1, h2⟩
theorem RowAt.lt {w : World} {g : Nat} {l : List Sec} (h : RowAt w g l) : g < w.heap.size := by
  obtain ⟨cur, h1, _⟩ := h
  exact (Array.getElem?_eq_some_iff.1 h1).1
theorem RowAt.range {w : World} {g : Nat} {l : List Sec} (h : RowAt w g l) (he : Even l) {k : Nat} {B : Sec} (hk : l[k]? = some B) : w.rangeAt g (128 * k) (bv B) := by
  obtain ⟨cur, h1, h2⟩ := h
  have hkl := (List.getElem?_eq_some_iff.1 hk).1
  have hB : B.length = 128 := he B (List.mem_of_getElem? hk)
  intro j v hv
  have hj : j < 128 := by
    have := (List.getElem?_eq_some_iff.1 hv).1
    rw [bv_length] at this
    omega
  rw [cell_of_row w g (128 * k + j) cur 116 (0, 0) h1, ← Array.getElem?_toList]
  have h3 := scells_at l he k B hk j hj
  rw [← h2, List.getElem?_take, if_pos (by omega)] at h3
  rw [h3]
  exact hv
theorem RowAt.size {w : World} {g : Nat} {l : List Sec} {cur : Array Value} (hc : w.heap[g]? = some (.cells cur 116 (0, 0))) (h : RowAt w g l) (he : Even l) : l.length * 128 ≤ cur.size := by
  obtain ⟨cur', h1, h2⟩ := h
  rw [hc] at h1
  cases h1
  have h3 := congrArg List.length h2
  rw [List.length_take, scells_length l he] at h3
  have h4 : cur.toList.length = cur.size := Array.length_toList
  omega
theorem splice_take (X Bv : List Value) (a N : Nat) (hB : Bv.length = 128) (ha : a + 128 ≤ N) (hN : N ≤ X.length) : (X.take a ++ Bv ++ X.drop (a + Bv.length)).take N = (X.take N).take a ++ (Bv ++ (X.take N).drop (a + 128)) := by
  have h1 : (X.take a).length = a := by rw [List.length_take]; omega
  rw [hB, List.append_assoc, List.take_append, List.take_of_length_le (l := X.take a) (by omega), h1, List.take_append, List.take_of_length_le (l := Bv) (by omega), hB, List.take_take, Nat.min_eq_left (by omega), List.drop_take, show N - a - 128 = N - (a + 128) by omega]
/-- A sector is stored. -/
theorem RowAt.store {w : World} {g : Nat} {l : List Sec} (h : RowAt w g l) (he : Even l) (k : Nat) (B : Sec) (hk : k < l.length) (hB : B.length = 128) :
    ∃ w', (Instr.storeAt 116 (.pointer (some ⟨g, 128 * k, none⟩)) (.agg (bv B).toArray)).run Try.prog w = .ok () w' ∧ RowAt w' g (l.set k B) ∧ w.grownBy w' (some g) := by
  have hsz := fun cur hc => RowAt.size (cur := cur) hc h he
  obtain ⟨cur, h1, h2⟩ := h
  have hsz := hsz cur h1
  have hst := run_storeCells_at Try.prog g (128 * k) 116 (bv B) 0 cur w h1 (by rw [bv_length, hB]; omega) (bv_one _)
  simp only [Nat.add_zero] at hst
  have hi : (Try.prog.info? 116).map (·.size) = some 128 := by kernel_rfl
  have hbl : (bv B).length = 128 := by rw [bv_length, hB]
  have hcl : cur.toList.length = cur.size := Array.length_toList
  refine ⟨w.setRow g (cur.toList.take (128 * k) ++ bv B ++ cur.toList.drop (128 * k + (bv B).length)).toArray, ?_, ⟨_, setRow_heap w g cur _ 116 _ h1, ?_⟩, ⟨rfl, rfl, rfl, by simp, fun k _ hne => setRow_other w g k _ (fun e => hne (by rw [e]))⟩⟩
  · cases hq : Try.prog.info? 116 with
    | none => simp [hq] at hi
    | some i =>
      have hs : i.size = 128 := by simpa [hq] using hi
      simp only [Instr.storeAt, Instr.sureAddr, storeVar, sizeOf, typeInfo, Sem.run_bind, Sem.run_pure, Result.andThen_ok, Value.cells]
      simp [hq, hs, hbl]
      simpa [hbl] using hst
  · rw [List.length_set, splice_take _ _ _ _ hbl (by omega) (by omega), scells_set l he k B hk hB, h2]
end Go.Proofs.Ytbnicphegbdfnaa.DKeep
