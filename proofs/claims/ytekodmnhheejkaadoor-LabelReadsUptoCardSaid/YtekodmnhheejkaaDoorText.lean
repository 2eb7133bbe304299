/-
  The label of a text: what Parse comes to.
  Conditions: the library's two errors lie in their variables.
-/
import Derived.Test.YtekodmnhheejkaaDoorParse
namespace Go.Proofs.YtekodmnhheejkaaDoor.Text
open Go Go.RowKit Go.Proofs.YtekodmnhheejkaaDoor Go.Proofs.YtekodmnhheejkaaDoor.Facts Go.Proofs.YtekodmnhheejkaaDoor.Plain Go.Proofs.YtekodmnhheejkaaDoor.Bytes Go.Proofs.YtekodmnhheejkaaDoor.Each Go.Proofs.YtekodmnhheejkaaDoor.Parse

/-- The number below most that these digits spell. -/
def numOf (l : List UInt8) (most : Nat) : Option Nat := (List.range most).find? fun n => Lib.decDigits n == l
theorem numOf_some {l : List UInt8} {most : Nat} {v : Int} (hm : most ≤ 100) (h : Num l most v true) : ∃ n : Nat, n < most ∧ v = n ∧ numOf l most = some n := by
  obtain ⟨n, hn, rfl, e⟩ := h.1 rfl
  refine ⟨n, hn, rfl, ?_⟩
  unfold numOf
  rw [List.find?_eq_some_iff_append]
  refine ⟨by simp [e], List.range n, (List.range' (n + 1) (most - n - 1)), ?_, ?_⟩
  · have h1 : List.range most = List.range' 0 most := List.range_eq_range'
    have h2 : List.range n = List.range' 0 n := List.range_eq_range'
    rw [h1, h2, show most = n + ((most - n - 1) + 1) by omega, ← List.range'_append_1, List.range'_succ]
    simp
  · intro a ha
    have ha' := List.mem_range.1 ha
    simp only [Bool.not_eq_true', beq_eq_false_iff_ne, ne_eq]
    intro e2
    have h1 := digits_atoi a (by omega)
    rw [e2, ← e, digits_atoi n (by omega)] at h1
    injection h1 with h1
    omega
theorem numOf_none {l : List UInt8} {most : Nat} {v : Int} (h : Num l most v false) : numOf l most = none := by
  unfold numOf
  rw [List.find?_eq_none]
  intro n hn
  have := h.2 rfl n (List.mem_range.1 hn)
  simpa using this

/-- The compartments of what is left of a text. -/
def go : Nat → ByteArray → Bool → Int → BitVec 64 → Option (BitVec 64)
  | 0, _, _, _, _ => none
  | _ + 1, _, false, _, c => some c
  | f + 1, rest, true, last, c => match numOf (cut1 rest).1.data.toList 64 with
    | none => none
    | some b => if (b : Int) ≤ last then none else go f (cut1 rest).2.1 (cut1 rest).2.2 b (c ||| BitVec.twoPow 64 b)

/-- The label of a text. -/
def parse (s : ByteArray) : Option (Nat × BitVec 64) := match numOf (cut1 s).1.data.toList 4 with
  | none => none
  | some v => (go (s.size + 2) (cut1 s).2.1 (cut1 s).2.2 (-1) 0#64).map fun c => (v, c)

theorem cut1_size (s : ByteArray) : (cut1 s).1.size ≤ s.size ∧ (cut1 s).2.1.size ≤ s.size ∧ ((cut1 s).2.2 = true → (cut1 s).2.1.size + 1 ≤ s.size) := by
  have hlt := index_lt s.data.toList
  rw [Array.length_toList] at hlt
  have hz : s.data.size = s.size := rfl
  rw [hz] at hlt
  unfold cut1
  split
  · simp [ByteArray.size_extract]
    omega
  · simp
    show (0 : Nat) ≤ _
    omega

/-- A label's two cells, as they are read and stored to. -/
theorem lab_cells {W : World} {B : Nat} {x y : Value} (h : W.heap[B]? = some (.cells #[x, y] 24 (0, 0))) :
    W.cell? ⟨B, 0, none⟩ = some x ∧ W.cell? ⟨B, 1, none⟩ = some y ∧ W.frozen? ⟨B, 0, none⟩ = false ∧ W.frozen? ⟨B, 1, none⟩ = false := by
  refine ⟨?_, ?_, frozen_of_row _ _ _ _ _ h, frozen_of_row _ _ _ _ _ h⟩
  · rw [cell_of_row _ _ _ _ _ _ h]; rfl
  · rw [cell_of_row _ _ _ _ _ _ h]; rfl
theorem lab_store {W : World} {B : Nat} {x y : Value} (h : W.heap[B]? = some (.cells #[x, y] 24 (0, 0))) :
    (∀ v0, (W.setCell ⟨B, 0, none⟩ v0).cell? ⟨B, 0, none⟩ = some v0) ∧ (∀ v0 v1, ((W.setCell ⟨B, 0, none⟩ v0).setCell ⟨B, 1, none⟩ v1).cell? ⟨B, 1, none⟩ = some v1) ∧
      ∀ v0 v1, Below B W ((W.setCell ⟨B, 0, none⟩ v0).setCell ⟨B, 1, none⟩ v1) := by
  have R0 : ∀ v0 : Value, (W.setCell ⟨B, 0, none⟩ v0).heap[B]? = some (.cells #[v0, y] 24 (0, 0)) := fun v0 => by
    rw [heap_setCell_same _ _ _ _ _ _ h]
    rfl
  have R1 : ∀ v0 v1 : Value, ((W.setCell ⟨B, 0, none⟩ v0).setCell ⟨B, 1, none⟩ v1).heap[B]? = some (.cells #[v0, v1] 24 (0, 0)) := fun v0 v1 => by
    rw [heap_setCell_same _ _ _ _ _ _ (R0 v0)]
    rfl
  refine ⟨fun v0 => ?_, fun v0 v1 => ?_, fun v0 v1 => ?_⟩
  · rw [cell_of_row _ _ _ _ _ _ (R0 v0)]; rfl
  · rw [cell_of_row _ _ _ _ _ _ (R1 v0 v1)]; rfl
  · exact ((Below.refl _ W).setCell (p := ⟨B, 0, none⟩) (Nat.le_refl _) _).setCell (p := ⟨B, 1, none⟩) (Nat.le_refl _) _

def mz (r m : Value) : Nat := match r, m with
  | .string s, .bool true => s.size + 1
  | _, _ => 0

set_option maxRecDepth 100000 in
theorem parse_any (s : ByteArray) (hs : s.size ≤ 140737488355328) (w : World) (hE : Env w) : Calls Tryd.prog 25 #[.string s] w fun e W' =>
    e = .returned (match parse s with | some (v, c) => .tuple #[.agg #[.int .i64 (v : Int), .int .u64 (c.toNat : Int)], .int .i64 0] | none => .tuple #[.agg #[.int .i64 0, .int .u64 0], .int .i64 2]) ∧ Grew w W' := by
  obtain ⟨R, hR⟩ : ∃ R, parse s = R := ⟨_, rfl⟩
  rw [hR]
  have HR := Lib.hid hR
  clear hR
  go_enter Tryd.func25, Tryd.ntmps25
  go_wp2_with fail
  refine (cut_any s hs _).mono ?_
  rintro e W1 ⟨rfl, hg1⟩
  have hR1 : W1.heap[w.heap.size]? = some (.cells #[.int .i64 0, .int .u64 0] 24 (0, 0)) := (hg1.block w.heap.size (by simp)).trans (heap_alloc_new w _)
  have hG1 : Grew w W1 := Grew.trans (b := w.alloc (Obj.cells #[Value.int IntKind.i64 0, Value.int IntKind.u64 0] 24)) (by unfold Grew; go_grown) hg1
  clear hg1
  obtain ⟨z1, z2, z3⟩ := cut1_size s
  have hR := HR.out
  unfold parse at hR
  rcases hcut : cut1 s with ⟨p, r, m⟩
  rw [hcut] at z1 z2 z3 hR
  dsimp only at z1 z2 z3 hR
  clear hcut
  go_wp2_with fail
  refine (number_any p (by omega) 4 (by decide) W1 (hE.grow hG1)).mono ?_
  rintro e W2 ⟨⟨v, ok, rfl, hnum⟩, hg2⟩
  have hR2 : W2.heap[w.heap.size]? = some (.cells #[.int .i64 0, .int .u64 0] 24 (0, 0)) := (hg2.block _ (Array.getElem?_eq_some_iff.1 hR1).1).trans hR1
  have hG2 := hG1.trans hg2
  clear hg2 hR1 hG1
  cases ok with
  | false =>
    rw [numOf_none hnum] at hR
    subst hR
    obtain ⟨a0, a1, a2, a3⟩ := lab_cells hR2
    obtain ⟨b0, b1, b2⟩ := lab_store hR2
    go_wp2
    try simp only [Exit.inBlock, Exit.then]
    refine bodyPost_ret (by simp [results, Tryd.results25, go_sem, b0, b1]; try rfl) rfl ?_
    exact ⟨rfl, Below.trans (show Below w.heap.size w W2 from hG2) (b2 _ _)⟩
  | true =>
    obtain ⟨n, hn, rfl, hnn⟩ := numOf_some (by decide) hnum
    rw [hnn] at hR
    have HR := Lib.hid hR
    clear hR
    have hzw : w.heap.size < W2.heap.size := (Array.getElem?_eq_some_iff.1 hR2).1
    go_wp2
    go_loopw [4, 5, 6, 10] (fun p r m l wr => ∃ (f : Nat) (p' r' : ByteArray) (m' : Bool) (last : Int) (c : BitVec 64), p = .string p' ∧ r = .string r' ∧ m = .bool m' ∧ l = .int .i64 last ∧ r'.size ≤ 140737488355328 ∧ 1 ≤ f ∧ (m' = true → r'.size + 2 ≤ f) ∧
        Hid ((go f r' m' last c).map (fun c => (n, c)) = R) ∧ Hid (wr.heap[W2.heap.size]? = some (.cells #[.int .i64 (n : Int), .int .u64 ((c.toNat : Nat) : Int)] 24 (0, 0))) ∧ Hid (wr.heap[w.heap.size]? = some (.cells #[.int .i64 0, .int .u64 0] 24 (0, 0))) ∧ Hid (Grew w wr))
      (fun _ r m _ _ => mz r m)
    case atStart =>
      refine ⟨s.size + 2, p, r, m, -1, 0#64, rfl, rfl, rfl, rfl, by omega, by omega, fun h => by have := z3 h; omega, HR, ?_, ?_, ?_⟩
      · show _ = _
        exact heap_alloc_new W2 _
      · show _ = _
        exact (heap_alloc_old W2 _ hzw).trans hR2
      · show Grew _ _
        have h1 : Below w.heap.size w W2 := hG2
        exact h1.alloc (by omega) _
    case round =>
      obtain ⟨f, p', r', m', last, c, rfl, rfl, rfl, rfl, hrz, hf1, hf2, HG, hA, hB, hC⟩ := hrel
      obtain ⟨f, rfl⟩ : ∃ f', f = f' + 1 := ⟨f - 1, by omega⟩
      cases m' with
      | false =>
        obtain ⟨a0, a1, a2, a3⟩ := lab_cells hB.out
        obtain ⟨b0, b1, b2⟩ := lab_store hB.out
        obtain ⟨d0, d1, _, _⟩ := lab_cells hA.out
        have hg := HG.out
        have e : R = some (n, c) := hg.symm
        subst e
        go_wp2
        try simp only [Exit.inBlock, Exit.then]
        refine bodyPost_ret (by simp [results, Tryd.results25, go_sem, b0, b1]; try rfl) rfl ?_
        exact ⟨rfl, Below.trans (show Below w.heap.size w wr from hC.out) (b2 _ _)⟩
      | true =>
        obtain ⟨y1, y2, y3⟩ := cut1_size r'
        have hg := HG.out
        unfold go at hg
        rcases hcut : cut1 r' with ⟨p2, r2, m2⟩
        rw [hcut] at y1 y2 y3 hg
        dsimp only at y1 y2 y3 hg
        have hcu := cut_any r' hrz wr
        rw [hcut] at hcu
        dsimp only at hcu
        go_wp2_with fail
        refine hcu.mono ?_
        rintro e W3 ⟨rfl, hg3⟩
        have hC3 := Grew.trans hC.out hg3
        have hA3 := (hg3.block _ (Array.getElem?_eq_some_iff.1 hA.out).1).trans hA.out
        have hB3 := (hg3.block _ (Array.getElem?_eq_some_iff.1 hB.out).1).trans hB.out
        clear hg3 hcu
        go_wp2_with fail
        refine (number_any p2 (by omega) 64 (by decide) W3 (hE.grow hC3)).mono ?_
        rintro e W4 ⟨⟨v2, ok2, rfl, hnum2⟩, hg4⟩
        have hC4 := Grew.trans hC3 hg4
        have hA4 := (hg4.block _ (Array.getElem?_eq_some_iff.1 hA3).1).trans hA3
        have hB4 := (hg4.block _ (Array.getElem?_eq_some_iff.1 hB3).1).trans hB3
        clear hg4 hA3 hB3 hC3
        obtain ⟨a0, a1, a2, a3⟩ := lab_cells hB4
        obtain ⟨b0, b1, b2⟩ := lab_store hB4
        obtain ⟨d0, d1, d2, d3⟩ := lab_cells hA4
        cases ok2 with
        | false =>
          rw [numOf_none hnum2] at hg
          have e : R = none := hg.symm
          subst e
          go_wp2
          try simp only [Exit.inBlock, Exit.then]
          refine bodyPost_ret (by simp [results, Tryd.results25, go_sem, b0, b1]; try rfl) rfl ?_
          exact ⟨rfl, Below.trans (show Below w.heap.size w W4 from hC4) (b2 _ _)⟩
        | true =>
          obtain ⟨k, hk, rfl, hkk⟩ := numOf_some (by decide) hnum2
          rw [hkk] at hg
          dsimp only at hg
          by_cases hl : (k : Int) ≤ last
          · rw [if_pos hl] at hg
            have e : R = none := hg.symm
            subst e
            have hd : decide ((k : Int) ≤ last) = true := by simpa using hl
            go_wp2
            try simp only [Exit.inBlock, Exit.then]
            refine bodyPost_ret (by simp [results, Tryd.results25, go_sem, b0, b1]; try rfl) rfl ?_
            exact ⟨rfl, Below.trans (show Below w.heap.size w W4 from hC4) (b2 _ _)⟩
          · rw [if_neg hl] at hg
            have HG2 := Lib.hid hg
            clear hg
            have hd : decide ((k : Int) ≤ last) = false := by simpa using hl
            have hz := hC4.size
            have hmx : Tryd.prog.follows .mixedOrders = true := by kernel_rfl
            have HA4 := Lib.hid hA4
            clear a0 a1 a2 a3 b0 b1 b2
            go_wp2
            go_region
            go_wp2
            go_roundw
            case rel =>
              have hf : r'.size + 2 ≤ f + 1 := by first | exact hf2 rfl | exact hf2 trivial | simpa using hf2
              have hw : IntKind.u64.wrap ((2 : Int) ^ k) = (((BitVec.twoPow 64 k).toNat : Nat) : Int) := by
                rw [IntKind.wrap_u64, BitVec.toNat_twoPow]
                simp
              refine ⟨f, p2, r2, m2, k, c ||| BitVec.twoPow 64 k, rfl, rfl, rfl, rfl, by omega, by omega, fun h => by have := y3 h; omega, HG2, ?_, ?_, ?_⟩
              · show _ = _
                rw [hw, bits_or]
                exact (heap_setCell_same _ _ _ _ _ _ HA4.out).trans rfl
              · show _ = _
                exact (heap_setCell_other _ _ _ _ (by show w.heap.size ≠ W2.heap.size; omega)).trans hB4
              · show Grew _ _
                exact (Below.setCell (p := ⟨W2.heap.size, 1, none⟩) (show Below w.heap.size w W4 from hC4) (by show w.heap.size ≤ W2.heap.size; omega) _).drew
            case measure =>
              show mz (.string r2) (.bool m2) < mz (.string r') (.bool true)
              cases m2 with
              | false => simp [mz]
              | true => have := y3 rfl; simp only [mz]; omega
end Go.Proofs.YtekodmnhheejkaaDoor.Text
