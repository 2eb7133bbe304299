/-
  A disk as it lies in memory: its sectors, those that are safe, what waits, its fuse; and what keeps it.
  Conditions: those that each lemma names.
-/
import Derived.Test.YtbnicphegbdfnaaProg
import Derived.Test.YtbnicphegbdfnaaMarks
import Derived.Test.YtbnicphegbdfnaaBytes
import Derived.Deep.MidRow
import Derived.Lib.Hide
import Derived.WalkMore
import Derived.Laws.OwnMore
import Derived.Handy
import Derived.Deep.LoopGhost
import Derived.IntWalk
import Derived.Lib.SliceRun
import Derived.Lib.Walk
import Derived.RegionTactic
import Derived.BigRegion
import Derived.Great.BuildSlice
import Derived.Great.FillDense
namespace Go.Proofs.Ytbnicphegbdfnaa.DKeep
set_option maxRecDepth 100000
set_option maxRecDepth 100000
set_option maxRecDepth 100000
open Go Go.RowKit Go.Proofs.Ytbnicphegbdfnaa Go.Proofs.Ytbnicphegbdfnaa.Facts Go.Proofs.Ytbnicphegbdfnaa.Bytes

abbrev Sec := List UInt8
/-- A disk. -/
structure Pd where
  safe : List Sec
  last : List Sec
  waits : List (Nat × Sec)
  fuse : Int
  off : Bool

/-- The cells of sectors side by side. -/
def scells (l : List Sec) : List Value := l.flatMap bv
/-- The cells of writes side by side. -/
def wcells (l : List (Nat × Sec)) : List Value := l.flatMap fun p => .int .i64 (p.1 : Int) :: bv p.2
def Even (l : List Sec) : Prop := ∀ B ∈ l, B.length = 128
def Fit (n : Nat) (l : List (Nat × Sec)) : Prop := ∀ p ∈ l, p.1 < n ∧ p.2.length = 128

theorem scells_length (l : List Sec) (h : Even l) : (scells l).length = l.length * 128 := by
  induction l with
  | nil => rfl
  | cons B l ih =>
    have h1 := h B (List.mem_cons_self ..)
    have h2 := ih fun C hC => h C (List.mem_cons_of_mem _ hC)
    have e : scells (B :: l) = bv B ++ scells l := rfl
    rw [e, List.length_append, bv_length, h1, h2, List.length_cons]
    omega
theorem wcells_length (n : Nat) (l : List (Nat × Sec)) (h : Fit n l) : (wcells l).length = l.length * 129 := by
  induction l with
  | nil => rfl
  | cons p l ih =>
    have h1 := (h p (List.mem_cons_self ..)).2
    have h2 := ih fun C hC => h C (List.mem_cons_of_mem _ hC)
    have e : wcells (p :: l) = (.int .i64 (p.1 : Int) :: bv p.2) ++ wcells l := rfl
    rw [e, List.length_append, List.length_cons, bv_length, h1, h2, List.length_cons]
    omega
/-- Sector k's cells stand at 128 k. -/
theorem scells_at : ∀ (l : List Sec), Even l → ∀ k B, l[k]? = some B → ∀ j, j < 128 → (scells l)[128 * k + j]? = (bv B)[j]?
  | [], _, k, B, h, _, _ => by simp at h
  | C :: l, he, k, B, h, j, hj => by
    have h1 := he C (List.mem_cons_self ..)
    have e : scells (C :: l) = bv C ++ scells l := rfl
    rw [e]
    cases k with
    | zero =>
      simp only [List.getElem?_cons_zero, Option.some.injEq] at h
      subst h
      rw [List.getElem?_append_left (by rw [bv_length]; omega)]
      congr 1
      omega
    | succ k =>
      rw [List.getElem?_append_right (by rw [bv_length]; omega), bv_length, h1, show 128 * (k + 1) + j - 128 = 128 * k + j by omega]
      exact scells_at l (fun D hD => he D (List.mem_cons_of_mem _ hD)) k B (by simpa using h) j hj
theorem scells_set : ∀ (l : List Sec), Even l → ∀ k (B : Sec), k < l.length → B.length = 128 → scells (l.set k B) = (scells l).take (128 * k) ++ (bv B ++ (scells l).drop (128 * k + 128))
  | [], _, k, B, h, _ => by simp at h
  | C :: l, he, k, B, h, hB => by
    have h1 := he C (List.mem_cons_self ..)
    have hl := bv_length C
    have e : scells (C :: l) = bv C ++ scells l := rfl
    cases k with
    | zero =>
      have e2 : scells (B :: l) = bv B ++ scells l := rfl
      rw [List.set_cons_zero, e, e2, Nat.mul_zero, List.take_zero, List.nil_append, Nat.zero_add, List.drop_left' (by omega)]
    | succ k =>
      have ih := scells_set l (fun D hD => he D (List.mem_cons_of_mem _ hD)) k B (by simpa using h) hB
      have e2 : scells (C :: l.set k B) = bv C ++ scells (l.set k B) := rfl
      have t1 : (bv C ++ scells l).take (128 * (k + 1)) = bv C ++ (scells l).take (128 * k) := by
        rw [List.take_append, List.take_of_length_le (l := bv C) (by omega), hl, h1, show 128 * (k + 1) - 128 = 128 * k by omega]
      have t2 : (bv C ++ scells l).drop (128 * (k + 1) + 128) = (scells l).drop (128 * k + 128) := by
        rw [List.drop_append, List.drop_of_length_le (l := bv C) (by omega), hl, h1, show 128 * (k + 1) + 128 - 128 = 128 * k + 128 by omega, List.nil_append]
      rw [List.set_cons_succ, e, e2, t1, t2, ih, List.append_assoc]
/-- Write k's cells stand at 129 k. -/
theorem wcells_at (n : Nat) : ∀ (l : List (Nat × Sec)), Fit n l → ∀ k p, l[k]? = some p → ∀ j, j < 129 → (wcells l)[129 * k + j]? = (Value.int .i64 (p.1 : Int) :: bv p.2)[j]?
  | [], _, k, p, h, _, _ => by simp at h
  | C :: l, he, k, p, h, j, hj => by
    have h1 := (he C (List.mem_cons_self ..)).2
    have e : wcells (C :: l) = (.int .i64 (C.1 : Int) :: bv C.2) ++ wcells l := rfl
    rw [e]
    cases k with
    | zero =>
      simp only [List.getElem?_cons_zero, Option.some.injEq] at h
      subst h
      rw [List.getElem?_append_left (by rw [List.length_cons, bv_length]; omega)]
      congr 1
      omega
    | succ k =>
      rw [List.getElem?_append_right (by rw [List.length_cons, bv_length]; omega), List.length_cons, bv_length, h1, show 129 * (k + 1) + j - (128 + 1) = 129 * k + j by omega]
      exact wcells_at n l (fun D hD => he D (List.mem_cons_of_mem _ hD)) k p (by simpa using h) j hj
theorem wcells_snoc (l : List (Nat × Sec)) (p : Nat × Sec) : wcells (l ++ [p]) = wcells l ++ (.int .i64 (p.1 : Int) :: bv p.2) := by simp [wcells]

/-- Sectors, side by side, lie in block g. -/
def RowAt (w : World) (g : Nat) (l : List Sec) : Prop := ∃ cur : Array Value, w.heap[g]? = some (.cells cur 116 (0, 0)) ∧ cur.toList.take (l.length * 128) = scells l
theorem RowAt.keep {w w' : World} {g : Nat} {l : List Sec} (h : RowAt w g l) (hk : w'.heap[g]? = w.heap[g]?) : RowAt w' g l := by
  obtain ⟨cur, h1, h2⟩ := h
  exact ⟨cur, hk.trans h1, h2⟩
theorem RowAt.lt {w : World} {g : Nat} {l : List Sec} (h : RowAt w g l) : g < w.heap.size := by
  obtain ⟨cur, h1, _⟩ := h
  exact (Array.getElem?_eq_some_iff.1 h1).1
theorem RowAt.range {w : World} {g : Nat} {l : List Sec} (h : RowAt w g l) (he : Even l) {k : Nat} {B : Sec} (hk : l[k]? = some B) : w.rangeAt g (128 * k) (bv B) := by
  obtain ⟨cur, h1, h2⟩ := h
  have hkl := (List.getElem?_eq_some_iff.1 hk).1
  have hB : B.length = 128 := he B (List.mem_of_getElem? hk)
  intro j v hv
  have hj : j < 128 := by
    have := (List.getElem?_eq_some_iff.1 hv).1
    rw [bv_length] at this
    omega
  rw [cell_of_row w g (128 * k + j) cur 116 (0, 0) h1, ← Array.getElem?_toList]
  have h3 := scells_at l he k B hk j hj
  rw [← h2, List.getElem?_take, if_pos (by omega)] at h3
  rw [h3]
  exact hv
theorem RowAt.size {w : World} {g : Nat} {l : List Sec} {cur : Array Value} (hc : w.heap[g]? = some (.cells cur 116 (0, 0))) (h : RowAt w g l) (he : Even l) : l.length * 128 ≤ cur.size := by
  obtain ⟨cur', h1, h2⟩ := h
  rw [hc] at h1
  cases h1
  have h3 := congrArg List.length h2
  rw [List.length_take, scells_length l he] at h3
  have h4 : cur.toList.length = cur.size := Array.length_toList
  omega
theorem splice_take (X Bv : List Value) (a N : Nat) (hB : Bv.length = 128) (ha : a + 128 ≤ N) (hN : N ≤ X.length) : (X.take a ++ Bv ++ X.drop (a + Bv.length)).take N = (X.take N).take a ++ (Bv ++ (X.take N).drop (a + 128)) := by
  have h1 : (X.take a).length = a := by rw [List.length_take]; omega
  rw [hB, List.append_assoc, List.take_append, List.take_of_length_le (l := X.take a) (by omega), h1, List.take_append, List.take_of_length_le (l := Bv) (by omega), hB, List.take_take, Nat.min_eq_left (by omega), List.drop_take, show N - a - 128 = N - (a + 128) by omega]
/-- A sector is stored. -/
theorem RowAt.store {w : World} {g : Nat} {l : List Sec} (h : RowAt w g l) (he : Even l) (k : Nat) (B : Sec) (hk : k < l.length) (hB : B.length = 128) :
    ∃ w', (Instr.storeAt 116 (.pointer (some ⟨g, 128 * k, none⟩)) (.agg (bv B).toArray)).run Try.prog w = .ok () w' ∧ RowAt w' g (l.set k B) ∧ w.grownBy w' (some g) := by
  have hsz := fun cur hc => RowAt.size (cur := cur) hc h he
  obtain ⟨cur, h1, h2⟩ := h
  have hsz := hsz cur h1
  have hst := run_storeCells_at Try.prog g (128 * k) 116 (bv B) 0 cur w h1 (by rw [bv_length, hB]; omega) (bv_one _)
  simp only [Nat.add_zero] at hst
  have hi : (Try.prog.info? 116).map (·.size) = some 128 := by kernel_rfl
  have hbl : (bv B).length = 128 := by rw [bv_length, hB]
  have hcl : cur.toList.length = cur.size := Array.length_toList
  refine ⟨w.setRow g (cur.toList.take (128 * k) ++ bv B ++ cur.toList.drop (128 * k + (bv B).length)).toArray, ?_, ⟨_, setRow_heap w g cur _ 116 _ h1, ?_⟩, ⟨rfl, rfl, rfl, by simp, fun k _ hne => setRow_other w g k _ (fun e => hne (by rw [e]))⟩⟩
  · cases hq : Try.prog.info? 116 with
    | none => simp [hq] at hi
    | some i =>
      have hs : i.size = 128 := by simpa [hq] using hi
      simp only [Instr.storeAt, Instr.sureAddr, storeVar, sizeOf, typeInfo, Sem.run_bind, Sem.run_pure, Result.andThen_ok, Value.cells]
      simp [hq, hs, hbl]
      simpa [hbl] using hst
  · rw [List.length_set, splice_take _ _ _ _ hbl (by omega) (by omega), scells_set l he k B hk hB, h2]
end Go.Proofs.Ytbnicphegbdfnaa.DKeep
namespace Go.Proofs.Ytbnicphegbdfnaa.DSmall
set_option maxRecDepth 100000
set_option maxRecDepth 100000
set_option maxRecDepth 100000
open Go Go.RowKit Go.Proofs.Ytbnicphegbdfnaa Go.Proofs.Ytbnicphegbdfnaa.Facts Go.Proofs.Ytbnicphegbdfnaa.Bytes Go.Proofs.Ytbnicphegbdfnaa.DKeep

structure POk (d : Pd) : Prop where
  n1 : 1 ≤ d.safe.length
  n2 : d.safe.length ≤ 16384
  same : d.last.length = d.safe.length
  es : Even d.safe
  el : Even d.last
  fit : Fit d.safe.length d.waits
  f1 : -1 ≤ d.fuse
  f2 : d.fuse ≤ 9223372036854775807

structure DKat (w : World) (g a b ca cb : Nat) (vw : Value) (d : Pd) : Prop where
  blk : w.heap[g]? = some (.cells #[.slice (some ⟨a, 0, none⟩) d.safe.length ca, .slice (some ⟨b, 0, none⟩) d.safe.length cb, vw, .int .i64 d.fuse, .bool d.off] 104 (0, 0))
  safe : RowAt w a d.safe
  last : RowAt w b d.last
  waits : w.ownsRow 0 129 129 vw d.waits.length (wcells d.waits)
  ga : g ≠ a
  gb : g ≠ b
  ab : a ≠ b
  gw : vw.ownBlock ≠ some g
  aw : vw.ownBlock ≠ some a
  bw : vw.ownBlock ≠ some b
  ok : POk d
  ca1 : d.safe.length ≤ ca
  ca2 : ca ≤ 9223372036854775807
  cb1 : d.safe.length ≤ cb
  cb2 : cb ≤ 9223372036854775807

structure In (D : Nat → Prop) (g a b : Nat) (vw : Value) : Prop where
  g : D g
  a : D a
  b : D b
  w : ∀ k, vw.ownBlock = some k → D k

/-- Block g is a disk d, with the blocks D. -/
def DK (w : World) (g : Nat) (D : Nat → Prop) (d : Pd) : Prop := (∀ k, D k → k < w.heap.size) ∧ ∃ a b ca cb vw, DKat w g a b ca cb vw d ∧ In D g a b vw

/-- Of what was there only D may have turned. -/
structure Kept (D : Nat → Prop) (w w' : World) : Prop where
  os : w'.os = w.os
  tape : w'.tape = w.tape
  output : w'.output = w.output
  size : w.heap.size ≤ w'.heap.size
  block : ∀ k, k < w.heap.size → ¬ D k → w'.heap[k]? = w.heap[k]?
theorem Kept.refl (D : Nat → Prop) (w : World) : Kept D w w := ⟨rfl, rfl, rfl, Nat.le_refl _, fun _ _ _ => rfl⟩
theorem Kept.trans {D : Nat → Prop} {a b c : World} (h : Kept D a b) (k : Kept D b c) : Kept D a c :=
  ⟨k.os.trans h.os, k.tape.trans h.tape, k.output.trans h.output, Nat.le_trans h.size k.size, fun j hj hd => (k.block j (Nat.lt_of_lt_of_le hj h.size) hd).trans (h.block j hj hd)⟩
theorem Kept.of_grown {D : Nat → Prop} {a b : World} {r : Option Nat} (h : a.grownBy b r) (hr : ∀ k, r = some k → D k) : Kept D a b :=
  ⟨h.os, h.tape, h.output, h.size, fun j hj hd => h.block j hj (fun e => hd (hr j (e.symm ▸ rfl)))⟩
theorem Kept.of_grew {D : Nat → Prop} {a b : World} (h : Grew a b) : Kept D a b := ⟨h.os, h.tape, h.output, h.size, fun j hj _ => h.block j hj⟩
theorem Kept.set {D : Nat → Prop} {g i : Nat} (u : Value) (w : World) (hg : D g) : Kept D w (w.setCell ⟨g, i, none⟩ u) :=
  ⟨rfl, rfl, rfl, by simp [World.setCell], fun k _ hd => heap_setCell_other w ⟨g, i, none⟩ k u (fun e => hd (by have e' : k = g := e; rw [e']; exact hg))⟩
theorem Kept.drew {D : Nat → Prop} {a b : World} (h : Kept D a b) : Kept D a b.drew := ⟨h.os, h.tape, h.output, h.size, h.block⟩

theorem own_keep {w w' : World} {v : Value} {n : Nat} {xs : List Value} (h : w.ownsRow 0 129 129 v n xs) (hk : ∀ k, v.ownBlock = some k → w'.heap[k]? = w.heap[k]?) : w'.ownsRow 0 129 129 v n xs := by
  refine ⟨h.1, ?_⟩
  rcases h.2 with h2 | ⟨g, cap, cur, rfl, hb, hg, h3⟩
  · exact .inl h2
  · exact .inr ⟨g, cap, cur, rfl, hb, (hk g rfl).trans hg, h3⟩
theorem own_lt {w : World} {v : Value} {n k : Nat} {xs : List Value} (h : w.ownsRow 0 129 129 v n xs) (hk : v.ownBlock = some k) : k < w.heap.size := by
  rcases h.2 with ⟨rfl, _⟩ | ⟨g, cap, cur, rfl, hb, hg, h3⟩
  · cases hk
  · simp [Value.ownBlock] at hk
    subst hk
    exact (Array.getElem?_eq_some_iff.1 hg).1

theorem DKat.keep {w w' : World} {g a b ca cb : Nat} {vw : Value} {d : Pd} (h : DKat w g a b ca cb vw d) (hg : w'.heap[g]? = w.heap[g]?) (ha : w'.heap[a]? = w.heap[a]?) (hb : w'.heap[b]? = w.heap[b]?) (hw : ∀ k, vw.ownBlock = some k → w'.heap[k]? = w.heap[k]?) : DKat w' g a b ca cb vw d :=
  { h with blk := hg.trans h.blk, safe := h.safe.keep ha, last := h.last.keep hb, waits := own_keep h.waits hw }
theorem DK.keep {w w' : World} {g : Nat} {D D' : Nat → Prop} {d : Pd} (h : DK w g D d) (hk : Kept D' w w') (hd : ∀ k, D k → ¬ D' k) : DK w' g D d := by
  obtain ⟨h1, a, b, ca, cb, vw, h2, h3⟩ := h
  exact ⟨fun k hD => Nat.lt_of_lt_of_le (h1 k hD) hk.size, a, b, ca, cb, vw, h2.keep (hk.block _ (h1 _ h3.g) (hd _ h3.g)) (hk.block _ (h1 _ h3.a) (hd _ h3.a)) (hk.block _ (h1 _ h3.b) (hd _ h3.b)) (fun k e => hk.block _ (h1 _ (h3.w k e)) (hd _ (h3.w k e))), h3⟩
theorem DK.grew {w w' : World} {g : Nat} {D : Nat → Prop} {d : Pd} (h : DK w g D d) (hg : Grew w w') : DK w' g D d := h.keep (D' := fun _ => False) (Kept.of_grew hg) (fun _ _ h => h)

def dptr (g : Nat) : Value := .pointer (some ⟨g, 0, none⟩)

theorem DKat.cells {w : World} {g a b ca cb : Nat} {vw : Value} {d : Pd} (h : DKat w g a b ca cb vw d) :
    w.cell? ⟨g, 0, none⟩ = some (.slice (some ⟨a, 0, none⟩) d.safe.length ca) ∧ w.cell? ⟨g, 1, none⟩ = some (.slice (some ⟨b, 0, none⟩) d.safe.length cb) ∧ w.cell? ⟨g, 2, none⟩ = some vw ∧ w.cell? ⟨g, 3, none⟩ = some (.int .i64 d.fuse) ∧ w.cell? ⟨g, 4, none⟩ = some (.bool d.off) := by
  refine ⟨?_, ?_, ?_, ?_, ?_⟩ <;> (rw [cell_of_row _ _ _ _ _ _ h.blk]; rfl)

theorem made_any (w : World) (g : Nat) (D : Nat → Prop) (d : Pd) (h : DK w g D d) : Calls Try.prog 56 #[dptr g] w fun e w' => e = .returned (.bool true) ∧ w = w' := by
  obtain ⟨_, a, b, ca, cb, vw, h, _⟩ := h
  obtain ⟨c0, _⟩ := h.cells
  have hn := h.ok.n1
  clear h
  unfold dptr
  go_enter Try.func56, Try.ntmps56
  go_wp2
  go_ret
  exact ⟨congrArg (fun b => Ending.returned (Value.bool b)) (decide_eq_true (by omega)), rfl⟩
theorem made_none (w : World) : Calls Try.prog 56 #[.pointer none] w fun e w' => e = .returned (.bool false) ∧ w = w' := by
  go_enter Try.func56, Try.ntmps56
  go_wp2
  go_ret
  exact ⟨rfl, rfl⟩
theorem size_any (w : World) (g : Nat) (D : Nat → Prop) (d : Pd) (h : DK w g D d) : Calls Try.prog 100 #[dptr g] w fun e w' => e = .returned (.int .i64 (d.safe.length : Int)) ∧ w = w' := by
  have HD := Lib.hid h
  obtain ⟨_, a, b, ca, cb, vw, h, _⟩ := h
  obtain ⟨c0, _⟩ := h.cells
  clear h
  have HM := Lib.hid (made_any w g D d HD.out)
  unfold dptr at HM ⊢
  go_enter Try.func100, Try.ntmps100
  go_wp2_with fail
  refine HM.out.mono ?_
  rintro e w' ⟨rfl, rfl⟩
  go_wp2
  go_ret
  exact ⟨rfl, rfl⟩
theorem size_none (w : World) : Calls Try.prog 100 #[.pointer none] w fun e w' => e = .returned (.int .i64 0) ∧ w = w' := by
  go_enter Try.func100, Try.ntmps100
  go_wp2_with fail
  refine (made_none w).mono ?_
  rintro e w' ⟨rfl, rfl⟩
  go_wp2
  go_ret
  exact ⟨rfl, rfl⟩
theorem off_any (w : World) (g : Nat) (D : Nat → Prop) (d : Pd) (h : DK w g D d) : Calls Try.prog 45 #[dptr g] w fun e w' => e = .returned (.bool d.off) ∧ w = w' := by
  have HD := Lib.hid h
  obtain ⟨_, a, b, ca, cb, vw, h, _⟩ := h
  obtain ⟨_, _, _, _, c4⟩ := h.cells
  clear h
  have HM := Lib.hid (made_any w g D d HD.out)
  unfold dptr at HM ⊢
  go_enter Try.func45, Try.ntmps45
  go_wp2_with fail
  refine HM.out.mono ?_
  rintro e w' ⟨rfl, rfl⟩
  go_wp2
  go_ret
  exact ⟨rfl, rfl⟩
theorem waits_any (w : World) (g : Nat) (D : Nat → Prop) (d : Pd) (h : DK w g D d) : Calls Try.prog 15 #[dptr g] w fun e w' => e = .returned (.int .i64 (d.waits.length : Int)) ∧ w = w' := by
  have HD := Lib.hid h
  obtain ⟨_, a, b, ca, cb, vw, h, _⟩ := h
  obtain ⟨_, _, c2, _, _⟩ := h.cells
  obtain ⟨A, c, rfl⟩ : ∃ A c, vw = .slice A d.waits.length c := by
    rcases h.waits.2 with ⟨rfl, h0⟩ | ⟨q, cap, cur, rfl, _⟩
    · exact ⟨none, 0, by rw [h0]⟩
    · exact ⟨_, _, rfl⟩
  clear h
  have HM := Lib.hid (made_any w g D d HD.out)
  unfold dptr at HM ⊢
  go_enter Try.func15, Try.ntmps15
  go_wp2_with fail
  refine HM.out.mono ?_
  rintro e w' ⟨rfl, rfl⟩
  go_wp2
  go_ret
  exact ⟨rfl, rfl⟩

def refus (d : Pd) (n : Int) : Int := if d.off then 15 else if n < 0 ∨ (d.safe.length : Int) ≤ n then 16 else 0
theorem refuses_any (w : World) (g : Nat) (D : Nat → Prop) (d : Pd) (n : Int) (h : DK w g D d) : Calls Try.prog 60 #[dptr g, .int .i64 n] w fun e w' => e = .returned (.int .i64 (refus d n)) ∧ w = w' := by
  have HD := Lib.hid h
  obtain ⟨_, a, b, ca, cb, vw, h, _⟩ := h
  obtain ⟨c0, _, _, _, c4⟩ := h.cells
  clear h
  have HM := Lib.hid (made_any w g D d HD.out)
  unfold dptr at HM ⊢
  unfold refus
  cases hoff : d.off with
  | true =>
    rw [hoff] at c4
    clear hoff
    go_enter Try.func60, Try.ntmps60
    go_wp2_with fail
    refine HM.out.mono ?_
    rintro e w' ⟨rfl, rfl⟩
    go_wp2
    go_ret
    exact ⟨rfl, rfl⟩
  | false =>
    rw [hoff] at c4
    clear hoff
    by_cases h1 : n < 0
    · rw [if_neg (by simp), if_pos (.inl h1)]
      go_enter Try.func60, Try.ntmps60
      go_wp2_with fail
      refine HM.out.mono ?_
      rintro e w' ⟨rfl, rfl⟩
      go_wp2
      go_ret
      exact ⟨rfl, rfl⟩
    · by_cases h2 : (d.safe.length : Int) ≤ n
      · rw [if_neg (by simp), if_pos (.inr h2)]
        go_enter Try.func60, Try.ntmps60
        go_wp2_with fail
        refine HM.out.mono ?_
        rintro e w' ⟨rfl, rfl⟩
        go_wp2
        go_ret
        exact ⟨rfl, rfl⟩
      · rw [if_neg (by simp), if_neg (by omega)]
        go_enter Try.func60, Try.ntmps60
        go_wp2_with fail
        refine HM.out.mono ?_
        rintro e w' ⟨rfl, rfl⟩
        go_wp2
        go_ret
        exact ⟨rfl, rfl⟩
end Go.Proofs.Ytbnicphegbdfnaa.DSmall
namespace Go.Proofs.Ytbnicphegbdfnaa.DTurn
set_option maxRecDepth 100000
set_option maxRecDepth 100000
set_option maxRecDepth 100000
open Go Go.RowKit Go.Proofs.Ytbnicphegbdfnaa Go.Proofs.Ytbnicphegbdfnaa.Facts Go.Proofs.Ytbnicphegbdfnaa.Bytes Go.Proofs.Ytbnicphegbdfnaa.DKeep Go.Proofs.Ytbnicphegbdfnaa.DSmall

/-- The disk's own block is turned. -/
theorem DKat.turned {w w' : World} {g a b ca cb : Nat} {vw vw' : Value} {d d' : Pd} (h : DKat w g a b ca cb vw d) (hk : ∀ k, k ≠ g → w'.heap[k]? = w.heap[k]?)
    (hg : w'.heap[g]? = some (.cells #[.slice (some ⟨a, 0, none⟩) d'.safe.length ca, .slice (some ⟨b, 0, none⟩) d'.safe.length cb, vw', .int .i64 d'.fuse, .bool d'.off] 104 (0, 0)))
    (h1 : d'.safe = d.safe) (h2 : d'.last = d.last) (h3 : (vw' = vw ∧ d'.waits = d.waits) ∨ (vw' = .slice none 0 0 ∧ d'.waits = [])) (hf : -1 ≤ d'.fuse ∧ d'.fuse ≤ 9223372036854775807) : DKat w' g a b ca cb vw' d' := by
  have hs : RowAt w' a d'.safe := by rw [h1]; exact h.safe.keep (hk a (Ne.symm h.ga))
  have hl : RowAt w' b d'.last := by rw [h2]; exact h.last.keep (hk b (Ne.symm h.gb))
  rcases h3 with ⟨rfl, h3⟩ | ⟨rfl, h3⟩
  · exact ⟨hg, hs, hl, by rw [h3]; exact own_keep h.waits fun k e => hk k (fun e2 => h.gw (by rw [e, e2])), h.ga, h.gb, h.ab, h.gw, h.aw, h.bw,
      ⟨by rw [h1]; exact h.ok.n1, by rw [h1]; exact h.ok.n2, by rw [h1, h2]; exact h.ok.same, by rw [h1]; exact h.ok.es, by rw [h2]; exact h.ok.el, by rw [h1, h3]; exact h.ok.fit, hf.1, hf.2⟩, by rw [h1]; exact h.ca1, h.ca2, by rw [h1]; exact h.cb1, h.cb2⟩
  · exact ⟨hg, hs, hl, by rw [h3]; exact World.ownsRow_nil _ _ _ _, h.ga, h.gb, h.ab, by simp [Value.ownBlock], by simp [Value.ownBlock], by simp [Value.ownBlock],
      ⟨by rw [h1]; exact h.ok.n1, by rw [h1]; exact h.ok.n2, by rw [h1, h2]; exact h.ok.same, by rw [h1]; exact h.ok.es, by rw [h2]; exact h.ok.el, by rw [h3]; exact fun p hp => by simp at hp, hf.1, hf.2⟩, by rw [h1]; exact h.ca1, h.ca2, by rw [h1]; exact h.cb1, h.cb2⟩

def blown (d : Pd) : Pd × Int := if d.fuse = -1 then (d, 0) else if d.fuse = 0 then ({ d with off := true }, 15) else ({ d with fuse := d.fuse - 1 }, 0)

theorem burn_any (w : World) (g : Nat) (D : Nat → Prop) (d : Pd) (h : DK w g D d) : Calls Try.prog 61 #[dptr g] w fun e w' => e = .returned (.int .i64 (blown d).2) ∧ DK w' g D (blown d).1 ∧ Kept D w w' := by
  have HD := Lib.hid h
  obtain ⟨hD, a, b, ca, cb, vw, h, hin⟩ := h
  obtain ⟨_, _, _, c3, _⟩ := h.cells
  have f3 := frozen_of_row w g 3 _ _ h.blk
  have f4 := frozen_of_row w g 4 _ _ h.blk
  have hf1 := h.ok.f1
  have hf2 := h.ok.f2
  have HA := Lib.hid h
  have HI := Lib.hid hin
  have HL := Lib.hid hD
  clear h hin hD
  unfold dptr blown
  by_cases e1 : d.fuse = -1
  · rw [if_pos e1]
    rw [e1] at c3
    clear e1 f3 f4 hf1 hf2
    go_enter Try.func61, Try.ntmps61
    go_wp2
    go_ret
    exact ⟨rfl, HD.out, Kept.refl _ _⟩
  · rw [if_neg e1]
    by_cases e2 : d.fuse = 0
    · rw [if_pos e2]
      have c4 := HA.out.cells.2.2.2.2
      rw [e2] at c3
      have E2 := Lib.hid e2
      clear e1 e2 hf1 hf2
      go_enter Try.func61, Try.ntmps61
      go_wp2
      go_ret
      refine ⟨rfl, ⟨fun k hk => by simpa [World.setCell] using HL.out k hk, a, b, ca, cb, vw, ?_, HI.out⟩, Kept.set _ _ HI.out.g⟩
      refine DKat.turned HA.out (fun k hk => heap_setCell_other w ⟨g, 4, none⟩ k _ hk) ?_ rfl rfl (.inl ⟨rfl, rfl⟩) ⟨HA.out.ok.f1, HA.out.ok.f2⟩
      rw [heap_setCell_same _ _ _ _ _ _ HA.out.blk]
      rfl
    · rw [if_neg e2]
      have hw : IntKind.i64.wrap (d.fuse - 1) = d.fuse - 1 := IntWalk.i64_in _ (by omega)
      have E1 := Lib.hid e1
      have E2 := Lib.hid e2
      go_enter Try.func61, Try.ntmps61
      go_wp2
      go_ret
      refine ⟨rfl, ⟨fun k hk => by simpa [World.setCell] using HL.out k hk, a, b, ca, cb, vw, ?_, HI.out⟩, Kept.set _ _ HI.out.g⟩
      refine DKat.turned HA.out (fun k hk => heap_setCell_other w ⟨g, 3, none⟩ k _ hk) ?_ rfl rfl (.inl ⟨rfl, rfl⟩) ⟨by show -1 ≤ d.fuse - 1; omega, by show d.fuse - 1 ≤ _; omega⟩
      rw [heap_setCell_same _ _ _ _ _ _ HA.out.blk]
      rfl

def fused (d : Pd) (n : Int) : Pd := { d with fuse := max n (-1) }
theorem fuse_any (w : World) (g : Nat) (D : Nat → Prop) (d : Pd) (n : Int) (hn : n ≤ 9223372036854775807) (h : DK w g D d) : Calls Try.prog 30 #[dptr g, .int .i64 n] w fun e w' => e = .returned (.tuple #[]) ∧ DK w' g D (fused d n) ∧ Kept D w w' := by
  have HD := Lib.hid h
  obtain ⟨hD, a, b, ca, cb, vw, h, hin⟩ := h
  obtain ⟨_, _, _, c3, _⟩ := h.cells
  have f3 := frozen_of_row w g 3 _ _ h.blk
  have HA := Lib.hid h
  have HI := Lib.hid hin
  have HL := Lib.hid hD
  have HM := Lib.hid (made_any w g D d HD.out)
  clear h hin hD
  unfold dptr at HM ⊢
  go_enter Try.func30, Try.ntmps30
  go_wp2_with fail
  refine HM.out.mono ?_
  rintro e w' ⟨rfl, rfl⟩
  go_wp2
  all_goals
    go_end0
    refine ⟨rfl, ⟨fun k hk => by simpa [World.setCell] using HL.out k hk, a, b, ca, cb, vw, ?_, HI.out⟩, Kept.set _ _ HI.out.g⟩
    refine DKat.turned HA.out (fun k hk => heap_setCell_other w ⟨g, 3, none⟩ k _ hk) ?_ rfl rfl (.inl ⟨rfl, rfl⟩) ⟨by show -1 ≤ max n (-1); omega, by show max n (-1) ≤ _; omega⟩
    rw [heap_setCell_same _ _ _ _ _ _ HA.out.blk]
    unfold fused
    first | rfl | (congr 2; simp; omega)
end Go.Proofs.Ytbnicphegbdfnaa.DTurn
namespace Go.Proofs.Ytbnicphegbdfnaa.DArm
set_option maxRecDepth 100000
set_option maxRecDepth 100000
set_option maxRecDepth 100000
open Go Go.RowKit Go.Proofs.Ytbnicphegbdfnaa Go.Proofs.Ytbnicphegbdfnaa.Facts Go.Proofs.Ytbnicphegbdfnaa.Bytes Go.Proofs.Ytbnicphegbdfnaa.DKeep Go.Proofs.Ytbnicphegbdfnaa.DSmall Go.Proofs.Ytbnicphegbdfnaa.DTurn

theorem size65 : (Try.prog.info? 116).map (·.size) = some 128 := by kernel_rfl
theorem size67 : (Try.prog.info? 129).map (·.size) = some 129 := by kernel_rfl
theorem zcells65 : (Try.prog.info? 116).map (fun i => i.zero.map (·.cells)) = some (some (bv (List.replicate 128 0)).toArray) := by kernel_rfl
theorem zcells67 : (Try.prog.info? 129).map (fun i => i.zero.map (·.cells)) = some (some (Value.int .i64 0 :: bv (List.replicate 128 0)).toArray) := by kernel_rfl

theorem run_alloc (t : TypeId) (Z : Array Value) (h : (Try.prog.info? t).map (fun i => i.zero.map (·.cells)) = some (some Z)) (u : World) : (Instr.alloc t true (.tuple #[])).run Try.prog u = .ok (.pointer (some ⟨u.heap.size, 0, none⟩)) (u.alloc (.cells Z t)) := by
  cases hq : Try.prog.info? t with
  | none => simp [hq] at h
  | some i =>
    cases hz : i.zero with
    | none => simp [hq, hz] at h
    | some z =>
      have hzc : z.cells = Z := by simpa [hq, hz] using h
      simp [Instr.alloc, zeroValue, typeInfo, hq, hz, newVar, newRow, hzc]

theorem wpList_alloc {ops : Array Oper} {rest : List Oper} {op : Oper} {a : Act} {w : World} {Q : Exit → Act → World → Prop} (hgd : op.guard = none) (t : TypeId) (ho : op.op = .alloc t) (Z : Array Value)
    (hz : (Try.prog.info? t).map (fun i => i.zero.map (·.cells)) = some (some Z)) (h : wpList Try.prog ops Q rest (a.put op.dst (.pointer (some ⟨w.heap.size, 0, none⟩))) (w.alloc (.cells Z t))) : wpList Try.prog ops Q (op :: rest) a w := by
  refine wpList_plain hgd fun _ hK => ?_
  unfold Oper.wp execOp
  simp only [ho, Sem.run_bind, Sem.run_pure, Result.andThen_ok, run_alloc t Z hz w]
  exact hK _ _ h

/-- A whole value is stored into a block of which it is all. -/
theorem run_store_row (t : TypeId) (n : Nat) (hs : (Try.prog.info? t).map (·.size) = some n) (w : World) (g o : Nat) (e : TypeId) (cur : Array Value) (hg : w.heap[g]? = some (.cells cur e (0, 0))) (cs : List Value) (hc : cs.length = n) (h1 : ∀ u ∈ cs, u.oneCell' = true) (hfit : o + n ≤ cur.size) :
    (Instr.storeAt t (.pointer (some ⟨g, o, none⟩)) (.agg cs.toArray)).run Try.prog w = .ok () (w.setRow g (cur.toList.take o ++ cs ++ cur.toList.drop (o + n)).toArray) := by
  have hst := run_storeCells_at Try.prog g o e cs 0 cur w hg (by omega) h1
  simp only [Nat.add_zero, hc] at hst
  cases hq : Try.prog.info? t with
  | none => simp [hq] at hs
  | some i =>
    have hsz : i.size = n := by simpa [hq] using hs
    simp only [Instr.storeAt, Instr.sureAddr, storeVar, sizeOf, typeInfo, Sem.run_bind, Sem.run_pure, Result.andThen_ok, Value.cells]
    simp [hq, hsz, hc]
    simpa [hc] using hst

theorem wpList_store {ops : Array Oper} {rest : List Oper} {op : Oper} {a : Act} {w : World} {Q : Exit → Act → World → Prop} (hgd : op.guard = none) (t : TypeId) (x y : Operand) (ho : op.op = .store t x y) (px vy : Value) (hx : a.eval x = px) (hy : a.eval y = vy) (w' : World)
    (hr : (Instr.storeAt t px vy).run Try.prog w = .ok () w') (h : wpList Try.prog ops Q rest (a.put op.dst undef) w') : wpList Try.prog ops Q (op :: rest) a w := by
  refine wpList_plain hgd fun _ hK => ?_
  unfold Oper.wp execOp
  simp only [ho, hx, hy, Sem.run_bind, Sem.run_pure, Result.andThen_ok, hr]
  exact hK _ _ h
theorem wpList_load {ops : Array Oper} {rest : List Oper} {op : Oper} {a : Act} {w : World} {Q : Exit → Act → World → Prop} (hgd : op.guard = none) (t : TypeId) (x : Operand) (ho : op.op = .load t x) (px v : Value) (hx : a.eval x = px)
    (hr : (Instr.loadAt t px).run Try.prog w = .ok v w) (h : wpList Try.prog ops Q rest (a.put op.dst v) w) : wpList Try.prog ops Q (op :: rest) a w := by
  refine wpList_plain hgd fun _ hK => ?_
  unfold Oper.wp execOp
  simp only [ho, hx, Sem.run_bind, Sem.run_pure, Result.andThen_ok, hr]
  exact hK _ _ h
/-- A sector out of the middle. -/
theorem run_load_sec (w : World) (b o : Nat) (B : Sec) (h : w.rangeAt b o (bv B)) (hB : B.length = 128) : (Instr.loadAt 116 (.pointer (some ⟨b, o, none⟩))).run Try.prog w = .ok (.agg (bv B).toArray) w :=
  run_loadAt_mid w b o 116 (bv B) _ h Try.underlying116 rfl (by rw [bv_length, hB]; exact size65)
theorem setRow_alloc (w : World) (c c' : Array Value) (t : TypeId) : (w.alloc (.cells c t)).setRow w.heap.size c' = w.alloc (.cells c' t) := by
  simp only [World.setRow, World.alloc]
  congr 1
  apply Array.ext_getElem?
  intro i
  rw [Array.getElem?_modify]
  by_cases h : w.heap.size = i
  · subst h
    simp
  · have h' : ¬ i = w.heap.size := fun e => h e.symm
    simp [h, h', Array.getElem?_push]
/-- A whole value into the block that was made last. -/
theorem run_store_new (t : TypeId) (n : Nat) (hs : (Try.prog.info? t).map (·.size) = some n) (w : World) (Z : Array Value) (hZ : Z.size = n) (cs : List Value) (hc : cs.length = n) (h1 : ∀ u ∈ cs, u.oneCell' = true) :
    (Instr.storeAt t (.pointer (some ⟨w.heap.size, 0, none⟩)) (.agg cs.toArray)).run Try.prog (w.alloc (.cells Z t)) = .ok () (w.alloc (.cells cs.toArray t)) := by
  have hr := run_store_row t n hs (w.alloc (.cells Z t)) w.heap.size 0 t Z (heap_alloc_new w _) cs hc h1 (by omega)
  rw [hr]
  congr 1
  have hzl : Z.toList.length = n := by rw [Array.length_toList]; exact hZ
  rw [List.take_zero, List.nil_append, Nat.zero_add, List.drop_of_length_le (by omega), List.append_nil]
  exact setRow_alloc w Z cs.toArray t
end Go.Proofs.Ytbnicphegbdfnaa.DArm
namespace Go.Proofs.Ytbnicphegbdfnaa.DRead
set_option maxRecDepth 100000
set_option maxRecDepth 100000
set_option maxRecDepth 100000
open Go Go.RowKit Go.Proofs.Ytbnicphegbdfnaa Go.Proofs.Ytbnicphegbdfnaa.Facts Go.Proofs.Ytbnicphegbdfnaa.Bytes Go.Proofs.Ytbnicphegbdfnaa.DKeep Go.Proofs.Ytbnicphegbdfnaa.DSmall Go.Proofs.Ytbnicphegbdfnaa.DTurn Go.Proofs.Ytbnicphegbdfnaa.DArm

theorem refuses_eq (w : World) (g : Nat) (D : Nat → Prop) (d : Pd) (n q : Int) (h : Hid (DK w g D d)) (hq : Hid (refus d n = q)) : Calls Try.prog 60 #[.pointer (some ⟨g, 0, none⟩), .int .i64 n] w fun e w' => e = .returned (.int .i64 q) ∧ w = w' := by
  have := refuses_any w g D d n h.out
  rwa [hq.out] at this
def readOf (d : Pd) (n : Int) : Sec × Int := if refus d n = 0 then (d.last[n.toNat]?.getD [], 0) else ([], refus d n)
theorem someZ (t n : Nat) (Z : Array Value) (h : (Try.prog.info? t).map (fun i => i.zero.map (·.cells)) = some (some Z)) (hn : Z.size = n) : ∃ Z : Array Value, Z.size = n ∧ (Try.prog.info? t).map (fun i => i.zero.map (·.cells)) = some (some Z) := ⟨Z, hn, h⟩
theorem z65 : ∃ Z : Array Value, Z.size = 128 ∧ (Try.prog.info? 116).map (fun i => i.zero.map (·.cells)) = some (some Z) := ⟨_, by simp [bv], zcells65⟩
theorem z67 : ∃ Z : Array Value, Z.size = 129 ∧ (Try.prog.info? 129).map (fun i => i.zero.map (·.cells)) = some (some Z) := ⟨_, by simp [bv], zcells67⟩

set_option maxHeartbeats 2000000 in
theorem read_full (w : World) (g : Nat) (D : Nat → Prop) (d : Pd) (n : Nat) (B : Sec) (h : DK w g D d) (hoff : d.off = false) (hn : n < d.safe.length) (hB : d.last[n]? = some B) :
    Calls Try.prog 19 #[dptr g, .int .i64 n] w fun e w' => ∃ v', e = .returned (.tuple #[v', .int .i64 0]) ∧ Rd (fun b => w.heap.size ≤ b) w' v' B ∧ Grew w w' := by
  have HD := Lib.hid h
  obtain ⟨hD, a, b, ca, cb, vw, h, hin⟩ := h
  obtain ⟨_, c1, _, _, _⟩ := h.cells
  have hcb := h.cb1
  have hcb2 := h.cb2
  have hr := h.last.range h.ok.el hB
  rw [Nat.mul_comm] at hr
  have hb := h.ok.el B (List.mem_of_getElem? hB)
  have HB := Lib.hid hb
  have HLD := Lib.hid (run_load_sec w b (n * 128) B hr hb)
  obtain ⟨Z, hZ, hz⟩ := z65
  have HST := Lib.hid (run_store_new 116 128 size65 w Z hZ (bv B) (by rw [bv_length, hb]) (bv_one _))
  have HZ := Lib.hid hz
  have HQ : Hid (refus d (n : Int) = 0) := Lib.hid (by unfold refus; rw [if_neg (by simp [hoff]), if_neg (by omega)])
  clear h hin hD hoff hB hr hb hZ hz
  unfold dptr
  go_enter Try.func19, Try.ntmps19
  go_wp2_with (first
    | (go_at_call 60; refine (refuses_eq _ _ _ _ _ 0 HD HQ).mono ?_; rintro e w' ⟨rfl, rfl⟩)
    | refine wpList_load (by rfl) 116 (.tmp 19) (by with_reducible rfl) _ _ (by rfl) HLD.out ?_
    | refine wpList_alloc (by rfl) 116 (by with_reducible rfl) _ HZ.out ?_
    | refine wpList_store (by rfl) 116 (.tmp 7) (.tmp 20) (by with_reducible rfl) _ _ (by rfl) (by rfl) _ HST.out ?_)
  go_returns
  refine ⟨.slice (some ⟨w.heap.size, 0, none⟩) 128 128, rfl, ?_, (Below.refl _ _).alloc (Nat.le_refl _) _⟩
  have hown : (w.alloc (.cells (bv B).toArray 116)).heap[w.heap.size]? = some (.cells (bv B).toArray 116 (0, 0)) := heap_alloc_new w _
  refine ⟨some ⟨w.heap.size, 0, none⟩, 128, by rw [HB.out], by rw [HB.out]; exact Nat.le_refl _, by decide, (fun h => by cases h), fun ad ha => ⟨fun _ => by cases ha; exact Nat.le_refl _, fun j u hu => ?_⟩⟩
  cases ha
  rw [Addr.add_mid, cell_of_row _ _ _ _ _ _ hown]
  simpa using hu

theorem read_any (w : World) (g : Nat) (D : Nat → Prop) (d : Pd) (n : Int) (h : DK w g D d) :
    Calls Try.prog 19 #[dptr g, .int .i64 n] w fun e w' => ∃ v', e = .returned (.tuple #[v', .int .i64 (readOf d n).2]) ∧ Rd (fun b => w.heap.size ≤ b) w' v' (readOf d n).1 ∧ Grew w w' := by
  by_cases h0 : refus d n = 0
  · have hh : d.off = false ∧ 0 ≤ n ∧ n < d.safe.length := by
      unfold refus at h0
      cases hoff : d.off with
      | true => rw [hoff, if_pos rfl] at h0; omega
      | false =>
        rw [hoff, if_neg (by simp)] at h0
        refine ⟨rfl, ?_⟩
        by_cases h1 : n < 0 ∨ (d.safe.length : Int) ≤ n
        · rw [if_pos h1] at h0; omega
        · omega
    obtain ⟨hoff, h1, h2⟩ := hh
    obtain ⟨k, rfl⟩ := Int.eq_ofNat_of_zero_le h1
    have hk : k < d.last.length := by
      obtain ⟨_, a, b, ca, cb, vw, hx, _⟩ := h
      rw [hx.ok.same]
      omega
    have e : readOf d (k : Int) = (d.last[k], 0) := by
      unfold readOf
      rw [if_pos h0]
      simp [hk]
    rw [e]
    exact read_full w g D d k d.last[k] h hoff (by omega) (List.getElem?_eq_getElem hk)
  · have e : readOf d n = ([], refus d n) := by unfold readOf; rw [if_neg h0]
    rw [e]
    have HD := Lib.hid h
    obtain ⟨q, hq⟩ : ∃ q, refus d n = q := ⟨_, rfl⟩
    have HQ := Lib.hid hq
    rw [hq] at h0 ⊢
    clear h e hq
    unfold dptr
    go_enter Try.func19, Try.ntmps19
    go_wp2_with (go_at_call 60; refine (refuses_eq _ _ _ _ _ q HD HQ).mono ?_; rintro e w' ⟨rfl, rfl⟩)
    go_returns
    exact ⟨_, rfl, Rd.nil _ _, Grew.refl _⟩
end Go.Proofs.Ytbnicphegbdfnaa.DRead
namespace Go.Proofs.Ytbnicphegbdfnaa.DNew
set_option maxRecDepth 100000
set_option maxRecDepth 100000
set_option maxRecDepth 100000
open Go Go.RowKit Go.Proofs.Ytbnicphegbdfnaa Go.Proofs.Ytbnicphegbdfnaa.Facts Go.Proofs.Ytbnicphegbdfnaa.Bytes Go.Proofs.Ytbnicphegbdfnaa.DKeep Go.Proofs.Ytbnicphegbdfnaa.DSmall Go.Proofs.Ytbnicphegbdfnaa.DTurn Go.Proofs.Ytbnicphegbdfnaa.DArm

def zsec : Sec := List.replicate 128 0
def blank (n : Nat) : List Sec := List.replicate n zsec
theorem blank_length (n : Nat) : (blank n).length = n := by simp [blank]
theorem blank_even (n : Nat) : Even (blank n) := fun B hB => by
  rw [List.eq_of_mem_replicate hB]
  simp [zsec]
theorem blank_cells (n : Nat) : scells (blank n) = List.replicate (n * 128) (.int .u8 0) := by
  induction n with
  | zero => rfl
  | succ n ih =>
    have e : scells (blank (n + 1)) = bv zsec ++ scells (blank n) := by unfold blank; rw [List.replicate_succ]; rfl
    have e2 : bv zsec = List.replicate 128 (.int .u8 0) := by
      unfold bv zsec
      rw [List.map_replicate]
      rfl
    rw [e, ih, e2, List.replicate_append_replicate]
    congr 1
    omega
theorem made_blank (n : Nat) : madeCells (bv zsec).toArray (n * 128) = (scells (blank n)).toArray := by
  rw [blank_cells]
  apply Array.ext (by simp [madeCells])
  intro i h1 h2
  have hz : (bv zsec).toArray.size = 128 := by simp [bv, zsec]
  have hm : i % 128 < (bv zsec).toArray.size := by omega
  simp only [madeCells, Array.getElem_map, Array.getElem_range, hz, List.getElem_toArray, List.getElem_replicate]
  rw [getElem!_pos (bv zsec).toArray (i % 128) hm]
  have hall : ∀ u ∈ bv zsec, u = .int .u8 0 := by
    intro u hu
    obtain ⟨b, hb, rfl⟩ := List.mem_map.1 hu
    rw [List.eq_of_mem_replicate hb]
    rfl
  exact hall _ (by rw [← List.mem_toArray]; exact Array.getElem_mem hm)
theorem zero65 : (Try.prog.info? 116).map (fun i => (i.zero.map (·.cells), i.size, i.bytes)) = some (some (bv zsec).toArray, 128, 128) := by kernel_rfl
theorem run_mk (n : Nat) (hn : n ≤ 16384) (u : World) : (Instr.makeSlice 101 (.int .i64 n) (.int .i64 n)).run Try.prog u = .ok (.slice (some ⟨u.heap.size, 0, none⟩) n n) (u.alloc (.cells (scells (blank n)).toArray 116)) := by
  cases hq : Try.prog.info? 116 with
  | none => have := zero65; simp [hq] at this
  | some i =>
    have h := zero65
    simp only [hq, Option.map_some, Option.some.injEq, Prod.mk.injEq] at h
    obtain ⟨h1, h2, h3⟩ := h
    cases hz : i.zero with
    | none => simp [hz] at h1
    | some z =>
      have hzc : z.cells = (bv zsec).toArray := by simpa [hz] using h1
      have hr := run_make (P := Try.prog) u 101 116 i z Try.underlying101 hq hz .i64 .i64 (n : Int) (n : Int) (by omega) (Int.le_refl _) (by rw [h3]; omega) (by omega)
      rw [hr, hzc, h2, Int.toNat_natCast, made_blank]

def fresh (n : Nat) : Pd := ⟨blank n, blank n, [], -1, false⟩
theorem fresh_dk (w : World) (n g a b : Nat) (hn : 1 ≤ n) (hn2 : n ≤ 16384) (hg : w.heap[g]? = some (.cells #[.slice (some ⟨a, 0, none⟩) n n, .slice (some ⟨b, 0, none⟩) n n, .slice none 0 0, .int .i64 (-1), .bool false] 104 (0, 0)))
    (ha : w.heap[a]? = some (.cells (scells (blank n)).toArray 116 (0, 0))) (hb : w.heap[b]? = some (.cells (scells (blank n)).toArray 116 (0, 0))) (hab : a ≠ b) (D : Nat → Prop) (hD : ∀ k, D k → k < w.heap.size) (h1 : D g) (h2 : D a) (h3 : D b) : DK w g D (fresh n) := by
  have row : ∀ k, w.heap[k]? = some (.cells (scells (blank n)).toArray 116 (0, 0)) → RowAt w k (blank n) := fun k hk => ⟨_, hk, by rw [List.toList_toArray, ← scells_length _ (blank_even n), List.take_length]⟩
  have ga : g ≠ a := fun e => by
    rw [e, ha] at hg
    injection hg with h
    injection h with _ h2
    exact absurd h2 (by decide)
  have gb : g ≠ b := fun e => by
    rw [e, hb] at hg
    injection hg with h
    injection h with _ h2
    exact absurd h2 (by decide)
  refine ⟨hD, a, b, n, n, .slice none 0 0, ⟨by rw [show (fresh n).safe = blank n from rfl, blank_length]; exact hg, row a ha, row b hb, World.ownsRow_nil _ _ _ _, ga, gb, hab, by simp [Value.ownBlock], by simp [Value.ownBlock], by simp [Value.ownBlock], ?_, ?_, by omega, ?_, by omega⟩, ⟨h1, h2, h3, fun k hk => by simp [Value.ownBlock] at hk⟩⟩
  · exact ⟨by rw [show (fresh n).safe = blank n from rfl, blank_length]; exact hn, by rw [show (fresh n).safe = blank n from rfl, blank_length]; exact hn2, rfl, blank_even n, blank_even n, (fun p hp => by cases hp), by show (-1 : Int) ≤ -1; omega, by show (-1 : Int) ≤ 9223372036854775807; omega⟩
  · rw [show (fresh n).safe = blank n from rfl, blank_length]
    exact Nat.le_refl _
  · rw [show (fresh n).safe = blank n from rfl, blank_length]
    exact Nat.le_refl _

theorem new_bad (n : Int) (w : World) (h : n < 1 ∨ 16384 < n) : Calls Try.prog 12 #[.int .i64 n] w fun e w' => e = .returned (.tuple #[.pointer none, .int .i64 1]) ∧ w = w' := by
  rcases h with h | h
  · go_enter Try.func12, Try.ntmps12
    go_wp2
    go_returns
    exact ⟨rfl, rfl⟩
  · by_cases h1 : n < 1
    · omega
    · go_enter Try.func12, Try.ntmps12
      go_wp2
      go_returns
      exact ⟨rfl, rfl⟩

theorem push0 (H : Array Obj) (x y z : Obj) : (((H.push x).push y).push z)[H.size]? = some x := by
  rw [Array.getElem?_push, if_neg (by simp; omega), Array.getElem?_push, if_neg (by simp), Array.getElem?_push, if_pos rfl]
theorem push1 (H : Array Obj) (x y z : Obj) : (((H.push x).push y).push z)[H.size + 1]? = some y := by
  rw [Array.getElem?_push, if_neg (by simp), Array.getElem?_push, if_pos (by simp)]
theorem push2 (H : Array Obj) (x y z : Obj) : (((H.push x).push y).push z)[H.size + 1 + 1]? = some z := by
  rw [Array.getElem?_push, if_pos (by simp)]

set_option maxHeartbeats 4000000 in
theorem new_any (n : Nat) (w : World) (h1 : 1 ≤ n) (h2 : n ≤ 16384) : Calls Try.prog 12 #[.int .i64 n] w fun e w' => ∃ g, e = .returned (.tuple #[dptr g, .int .i64 0]) ∧ DK w' g (fun k => w.heap.size ≤ k ∧ k < w'.heap.size) (fresh n) ∧ Grew w w' := by
  have hmk := run_mk n h2
  have HN1 := Lib.hid h1
  have HN2 := Lib.hid h2
  have hx : ¬ ((n : Int) < 1) := by omega
  have hy : ¬ ((16384 : Int) < (n : Int)) := by omega
  have HF := Lib.hid (fun w g a b => fresh_dk w n g a b h1 h2)
  generalize (scells (blank n)).toArray = Z at *
  clear h1 h2
  go_enter Try.func12, Try.ntmps12
  go_wp2
  go_region
  all_goals
    go_wp2
    go_returns
  · exact ⟨w.heap.size + 1 + 1, rfl, HF.out _ _ w.heap.size (w.heap.size + 1) (push2 w.heap _ _ _) (push0 w.heap _ _ _) (push1 w.heap _ _ _) (by omega) _ (fun k hk => hk.2) ⟨by omega, by simp⟩ ⟨by omega, by simp; omega⟩ ⟨by omega, by simp⟩, by unfold Grew; go_grown⟩
  · exact ⟨w.heap.size + 1 + 1, rfl, HF.out _ _ (w.heap.size + 1) w.heap.size (push2 w.heap _ _ _) (push1 w.heap _ _ _) (push0 w.heap _ _ _) (by omega) _ (fun k hk => hk.2) ⟨by omega, by simp⟩ ⟨by omega, by simp⟩ ⟨by omega, by simp; omega⟩, by unfold Grew; go_grown⟩
end Go.Proofs.Ytbnicphegbdfnaa.DNew
namespace Go.Proofs.Ytbnicphegbdfnaa.DBuild
set_option maxRecDepth 100000
set_option maxRecDepth 100000
set_option maxRecDepth 100000
open Go Go.RowKit Go.Proofs.Ytbnicphegbdfnaa Go.Proofs.Ytbnicphegbdfnaa.Facts Go.Proofs.Ytbnicphegbdfnaa.Bytes Go.Proofs.Ytbnicphegbdfnaa.DKeep Go.Proofs.Ytbnicphegbdfnaa.DSmall Go.Proofs.Ytbnicphegbdfnaa.DTurn Go.Proofs.Ytbnicphegbdfnaa.DArm Go.Proofs.Ytbnicphegbdfnaa.DNew

def wr (n : Int) (B : Sec) : List Value := .int .i64 n :: bv B
theorem wr_length (n : Int) (B : Sec) (h : B.length = 128) : (wr n B).length = 129 := by simp [wr, bv_length, h]
theorem wr_one (n : Int) (B : Sec) : ∀ u ∈ wr n B, u.oneCell' = true := by
  intro u hu
  rcases List.mem_cons.1 hu with rfl | hu
  · rfl
  · exact bv_one B u hu
theorem run_build67 (n : Int) (u : World) : (Instr.build 129 #[(0, .int .i64 n)]).run Try.prog u = .ok (.agg (wr n zsec).toArray) u := by
  kernel_rfl
theorem wpList_build {ops : Array Oper} {rest : List Oper} {op : Oper} {a : Act} {w : World} {Q : Exit → Act → World → Prop} (hgd : op.guard = none) (t : TypeId) (parts : Array (Nat × Operand)) (ho : op.op = .build t parts) (vs : Array (Nat × Value)) (hx : (parts.map fun (i, x) => (i, a.eval x)) = vs) (v : Value)
    (hr : (Instr.build t vs).run Try.prog w = .ok v w) (h : wpList Try.prog ops Q rest (a.put op.dst v) w) : wpList Try.prog ops Q (op :: rest) a w := by
  refine wpList_plain hgd fun _ hK => ?_
  unfold Oper.wp execOp
  simp only [ho, hx, Sem.run_bind, Sem.run_pure, Result.andThen_ok, hr]
  exact hK _ _ h

theorem zero67 : (Try.prog.info? 129).map (fun i => (i.zero.isSome, i.size, i.bytes)) = some (true, 129, 136) := by kernel_rfl
theorem run_bs (C : Array Value) (hC : C.size = 129) (u : World) : (Instr.buildSlice 102 1 #[(0, .agg C)]).run Try.prog u = .ok (.slice (some ⟨u.heap.size, 0, none⟩) 1 1) (u.alloc (.cells C 129)) := by
  cases hq : Try.prog.info? 129 with
  | none => have := zero67; simp [hq] at this
  | some i =>
    have h := zero67
    simp only [hq, Option.map_some, Option.some.injEq, Prod.mk.injEq] at h
    obtain ⟨h1, h2, h3⟩ := h
    cases hz : i.zero with
    | none => simp [hz] at h1
    | some z =>
      refine run_buildSlice u 102 129 1 _ C i z Try.underlying102 hq hz (by omega) (by omega) ?_
      have hf := _root_.Go.Great.fill_whole (s := 129) (by omega) [.agg C] ((Array.range (1 * i.size)).map (z.cells[· % z.cells.size]!)) (by intro v hv; simp at hv; subst hv; exact hC) (by simp [h2])
      rw [h2]
      have e : ([Value.agg C].flatMap fun v => v.cells.toList).toArray = C := by simp [Value.cells]
      rw [e, h2] at hf
      exact hf
theorem run_app (W : World) (vw : Value) (l : List (Nat × Sec)) (p : Nat × Sec) (m : Nat) (hf : Fit m l) (hp : p.2.length = 128) (hown : W.ownsRow 0 129 129 vw l.length (wcells l)) (kk : Nat) (hk : ∀ j u, (wr p.1 p.2)[j]? = some u → W.cell? ((⟨kk, 0, none⟩ : Addr).add j) = some u) (hl : l.length ≤ 1073741824) :
    ∃ v' W', (Builtin.append_ #[102, 102] 102 #[vw, .slice (some ⟨kk, 0, none⟩) 1 1]).run Try.prog W = .ok v' W' ∧ W'.ownsRow 0 129 129 v' (l ++ [p]).length (wcells (l ++ [p])) ∧ W.grownBy W' vw.ownBlock ∧ (∀ j, v'.ownBlock = some j → vw.ownBlock = some j ∨ W.heap.size ≤ j) := by
  cases hq : Try.prog.info? 129 with
  | none => have := zero67; simp [hq] at this
  | some i =>
    have h := zero67
    simp only [hq, Option.map_some, Option.some.injEq, Prod.mk.injEq] at h
    obtain ⟨h1, h2, h3⟩ := h
    cases hz : i.zero with
    | none => simp [hz] at h1
    | some z =>
      have hzs : z.cells.size = 129 := by
        have h4 : (Try.prog.info? 129).map (fun i => i.zero.map (·.cells.size)) = some (some 129) := by kernel_rfl
        simpa [hq, hz] using h4
      obtain ⟨v', W', hr, h5, h6, _⟩ := run_append_own (P := Try.prog) W 0 102 102 129 i z 129 136 Try.underlying102 hq hz h2 h3 hzs (by omega) vw l.length (wcells l) hown ⟨kk, 0, none⟩ 1 1 (wr p.1 p.2) (by rw [wr_length _ _ hp]) hk (wr_one _ _) (by unfold maxLen; omega) (by omega) (Nat.zero_le _)
      refine ⟨v', W', hr, ?_, h6, ?_⟩
      · rw [List.length_append, List.length_singleton, wcells_snoc]
        exact h5
      · intro j hj
        have hwl := wr_length p.1 p.2 hp
        rcases hown.2 with ⟨rfl, h0⟩ | ⟨g, cap, cur, rfl, hbg, hg, hnc, hcm, hcs, htake⟩
        · have hx0 : l = [] := List.eq_nil_of_length_eq_zero h0
          subst hx0
          obtain ⟨v2, W2, hr2, h52, _, _⟩ := run_append_own (P := Try.prog) W W.heap.size 102 102 129 i z 129 136 Try.underlying102 hq hz h2 h3 hzs (by omega) (.slice none 0 0) 0 [] (World.ownsRow_nil _ _ _ _) ⟨kk, 0, none⟩ 1 1 (wr p.1 p.2) (by rw [hwl]) hk (wr_one _ _) (by decide) (by omega) (Nat.le_refl _)
          have e := hr.symm.trans hr2
          injection e with e1 e2
          subst e1
          rcases h52.2 with ⟨rfl, _⟩ | ⟨q, _, _, rfl, hq2, _⟩
          · cases hj
          · simp [Value.ownBlock] at hj
            subst hj
            exact .inr hq2
        · by_cases hroom : l.length + 1 ≤ cap
          · have hfit : l.length * i.size + (wr p.1 p.2).length ≤ cur.size := by rw [hwl, h2, hcs]; omega
            have hr2 := run_append_room (P := Try.prog) W 102 102 129 i Try.underlying102 hq g l.length cap cur hg ⟨kk, 0, none⟩ 1 1 (wr p.1 p.2) (by rw [hwl, h2]) hk (wr_one _ _) hroom hfit
            have e := hr.symm.trans hr2
            injection e with e1 e2
            subst e1
            exact .inl hj
          · have holds : ∀ j u, (wcells l)[j]? = some u → W.cell? ((⟨g, 0, none⟩ : Addr).add j) = some u := hown.cells (g := g) rfl
            have hr2 := run_append_grow (P := Try.prog) W 102 102 129 i z Try.underlying102 hq hz ⟨g, 0, none⟩ l.length cap (wcells l) (by rw [h2]; exact hown.1) holds ⟨kk, 0, none⟩ 1 1 (wr p.1 p.2) (by rw [hwl, h2]) hk (by omega) (by omega) (by rw [h3]; exact growslice_fits (by omega) (by omega))
            have e := hr.symm.trans hr2
            injection e with e1 e2
            subst e1
            simp [Value.ownBlock] at hj
            exact .inr (by omega)
theorem own_block {w : World} {base e s n : Nat} {v : Value} {xs : List Value} (h : w.ownsRow base e s v n xs) : ∃ A c, v = .slice A n c := by
  rcases h.2 with ⟨rfl, h0⟩ | ⟨g, cap, cur, rfl, _⟩
  · exact ⟨none, 0, by rw [h0]⟩
  · exact ⟨_, _, rfl⟩
end Go.Proofs.Ytbnicphegbdfnaa.DBuild
