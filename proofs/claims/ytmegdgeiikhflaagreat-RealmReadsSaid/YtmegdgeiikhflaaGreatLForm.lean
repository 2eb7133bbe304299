/-
  A label's bytes, and the label of bytes.
  Conditions: none beyond those that each lemma names.
-/
import Derived.Test.YtmegdgeiikhflaaGreatPlain
namespace Go.Proofs.YtmegdgeiikhflaaGreat.LForm
set_option maxRecDepth 100000
set_option maxRecDepth 100000
open Go Go.RowKit Go.Proofs.YtmegdgeiikhflaaGreat Go.Proofs.YtmegdgeiikhflaaGreat.Facts Go.Proofs.YtmegdgeiikhflaaGreat.Plain Go.Proofs.YtmegdgeiikhflaaGreat.Bytes

def byteAt (n i : Nat) : UInt8 := UInt8.ofNat (n / 2 ^ (8 * i))
theorem byteAt_toNat (n i : Nat) : ((byteAt n i).toNat : Int) = (n : Int) / 2 ^ (8 * i) % 256 := by
  simp [byteAt]

/-- A number in k bytes, the greatest ahead. -/
def be (k n : Nat) : List UInt8 := (List.range k).map fun j => byteAt n (k - 1 - j)
theorem be_length (k n : Nat) : (be k n).length = k := by simp [be]

/-- The bytes that stand behind while the last ones are laid. -/
def part (K n q : Nat) : List UInt8 := List.replicate q 0 ++ (be K n).drop q
theorem part_length (K n q : Nat) (h : q ≤ K) : (part K n q).length = K := by simp [part, be_length]; omega
theorem part_full (K n : Nat) : part K n 0 = be K n := by simp [part]
theorem part_start (K n : Nat) : part K n K = List.replicate K 0 := by
  unfold part
  rw [List.drop_of_length_le (by rw [be_length]; exact Nat.le_refl _), List.append_nil]
theorem part_set (K n q : Nat) (h : q < K) : (part K n (q + 1)).set q (byteAt n (K - 1 - q)) = part K n q := by
  unfold part
  have hd : (be K n).drop q = byteAt n (K - 1 - q) :: (be K n).drop (q + 1) := by
    rw [List.drop_eq_getElem_cons (by rw [be_length]; exact h)]
    simp [be]
  rw [hd, List.replicate_succ', List.append_assoc, List.set_append_right _ _ (by simp)]
  simp

theorem bv_set (l : List UInt8) (i : Nat) (b : UInt8) : (bv l).set i (.int .u8 (b.toNat : Int)) = bv (l.set i b) := by simp [bv, List.map_set]


theorem made_cells (n : Nat) : madeCells #[.int .u8 0] n = (bv (List.replicate n 0)).toArray := by
  apply Array.ext'
  rw [toList_madeCells_one]
  simp [bv]
theorem info5 : (Tryz.prog.info? 5).map (fun i => (i.zero, i.size, i.bytes)) = some (some (.int .u8 0), 1, 1) := by kernel_rfl

set_option maxRecDepth 100000 in
theorem bytes_any (v : Int) (c : BitVec 64) (w : World) (hv : may v = true) : Calls Tryz.prog 84 #[.agg #[.int .i64 v, .int .u64 (c.toNat : Int)]] w fun e W' => ∃ v', e = .returned v' ∧ W'.ownsRow w.heap.size 5 1 v' 9 (bv (UInt8.ofNat v.toNat :: be 8 c.toNat)) ∧ Grew w W' := by
  go_enter Tryz.func84, Tryz.ntmps84
  obtain ⟨h0, h4⟩ : 0 ≤ v ∧ v < 4 := by simpa [may] using hv
  obtain ⟨m, rfl⟩ := Int.eq_ofNat_of_zero_le h0
  obtain ⟨i0, hi, hz0, hz1, hz2⟩ := info_parts info5
  have hmk : ∀ u : World, (Instr.makeSlice 41 (.int .i64 9) (.int .i64 9)).run Tryz.prog u =
      .ok (.slice (some ⟨u.heap.size, 0, none⟩) 9 9) (u.alloc (.cells (bv (List.replicate 9 0)).toArray 5)) := fun u => by
    have h := run_make (P := Tryz.prog) u 41 5 i0 (.int .u8 0) Tryz.underlying41 hi hz0 .i64 .i64 9 9 (by omega) (Int.le_refl _) (by rw [hz2]; omega) (by omega)
    rw [← made_cells]
    simpa [hz1, Value.cells] using h
  go_wp2_with fail
  refine (right_any _ c _).mono ?_
  rintro e W1 ⟨rfl, hg1⟩
  have k0 : W1.cell? ⟨w.heap.size, 0, none⟩ = some (.int .i64 (m : Int)) := cellG hg1 (by go_simp)
  have kb : W1.heap[w.heap.size]? = some (.cells #[.int .i64 (m : Int), .int .u64 (c.toNat : Int)] 31 (0, 0)) := (hg1.block w.heap.size (by simp)).trans (heap_alloc_new w _)
  have z1 : w.heap.size + 1 ≤ W1.heap.size := by have := hg1.size; simpa using this
  have hG : Grew w W1 := Grew.trans (b := w.alloc (Obj.cells #[Value.int IntKind.i64 (m : Int), Value.int IntKind.u64 (c.toNat : Int)] 31)) (by unfold Grew; go_grown) hg1
  clear hg1
  have hb0 : Below w.heap.size w (W1.alloc (Obj.cells (bv [0, 0, 0, 0, 0, 0, 0, 0, 0]).toArray 5)) := by
    have h1 : Below w.heap.size w W1 := hG
    exact h1.alloc (by omega) _
  have hb1 : Below W1.heap.size W1 (W1.alloc (Obj.cells (bv [0, 0, 0, 0, 0, 0, 0, 0, 0]).toArray 5)) := by go_grown
  have k0' : (W1.alloc (Obj.cells (bv [0, 0, 0, 0, 0, 0, 0, 0, 0]).toArray 5)).cell? ⟨w.heap.size, 0, none⟩ = some (.int .i64 (m : Int)) := (hb1.cell (p := ⟨w.heap.size, 0, none⟩) (by show w.heap.size < W1.heap.size; omega)).trans k0
  have kb' : (W1.alloc (Obj.cells (bv [0, 0, 0, 0, 0, 0, 0, 0, 0]).toArray 5)).heap[w.heap.size]? = some (.cells #[.int .i64 (m : Int), .int .u64 (c.toNat : Int)] 31 (0, 0)) := (hb1.block w.heap.size (by omega)).trans kb
  have ko := heap_alloc_new W1 (Obj.cells (bv [0, 0, 0, 0, 0, 0, 0, 0, 0]).toArray 5)
  have koc : (W1.alloc (Obj.cells (bv [0, 0, 0, 0, 0, 0, 0, 0, 0]).toArray 5)).cell? ⟨W1.heap.size, 0, none⟩ = some (.int .u8 0) := by
    rw [cell_of_row _ _ _ _ _ _ ko]
    rfl
  have kof : (W1.alloc (Obj.cells (bv [0, 0, 0, 0, 0, 0, 0, 0, 0]).toArray 5)).frozen? ⟨W1.heap.size, 0, none⟩ = false := frozen_of_row _ _ _ _ _ ko
  have hw8 : (m : Int) % 256 = m := by omega
  have hstart : (bv [0, 0, 0, 0, 0, 0, 0, 0, 0]).set 0 (.int .u8 (m : Int)) = bv (UInt8.ofNat m :: part 8 c.toNat 8) := by
    rw [part_start]
    have e : ((UInt8.ofNat m).toNat : Int) = m := by rw [UInt8.toNat_ofNat']; omega
    show _ = bv (UInt8.ofNat m :: [0, 0, 0, 0, 0, 0, 0, 0])
    simp [bv]
    omega
  have hlt := c.isLt
  have hne : W1.heap.size ≠ w.heap.size := by omega
  go_wp2
  go_loopw [4] (fun i wr => ∃ q r : Nat, r + q = 8 ∧ i = .int .i64 (q : Int) ∧ Hid (wr.heap[w.heap.size]? = some (.cells #[.int .i64 (m : Int), .int .u64 ((c.toNat / 2 ^ (8 * r) : Nat) : Int)] 31 (0, 0))) ∧
      Hid (wr.heap[W1.heap.size]? = some (.cells (bv (UInt8.ofNat m :: part 8 c.toNat q)).toArray 5 (0, 0))) ∧ Below w.heap.size w wr) (fun i _ => (intOf i).toNat)
  case atStart =>
    refine ⟨8, 0, rfl, rfl, ?_, ?_, ?_⟩
    · show _ = _
      simp only [Nat.mul_zero, Nat.pow_zero, Nat.div_one]
      exact (heap_alloc_old W1 _ (by omega)).trans kb
    · show _ = _
      exact heap_alloc_new W1 _
    · have h1 : Below w.heap.size w W1 := hG
      exact h1.alloc (by omega) _
  case round =>
    obtain ⟨q, r, hrq, rfl, hA, hO, hb⟩ := hrel
    generalize hN : c.toNat / 2 ^ (8 * r) = N at *
    have HN := Lib.hid hN
    have HQ := Lib.hid hrq
    clear hN
    cases q with
    | zero =>
      clear hrq
      go_wp2
      go_ret
      refine ⟨_, rfl, ?_, hb⟩
      have hg := hO.out
      rw [part_full] at hg
      exact ⟨by simp [bv_length, be_length], .inr ⟨W1.heap.size, 9, _, rfl, by omega, hg, Nat.le_refl _, by unfold maxLen; omega, by simp [bv_length, be_length], List.take_of_length_le (by simp [bv_length, be_length])⟩⟩
    | succ q =>
      have hq : q < 8 := by omega
      clear hrq
      have hpl := part_length 8 c.toNat (q + 1) (by omega)
      have hNc : wr.cell? ⟨w.heap.size, 1, none⟩ = some (.int .u64 (N : Int)) := by
        rw [cell_of_row _ _ _ _ _ _ hA.out]
        rfl
      have hNf : wr.frozen? ⟨w.heap.size, 1, none⟩ = false := frozen_of_row _ _ _ _ _ hA.out
      have hcell : wr.cell? ⟨W1.heap.size, q + 1, none⟩ = some (.int .u8 (((UInt8.ofNat m :: part 8 c.toNat (q + 1))[q + 1]?.getD 0).toNat : Int)) := by
        rw [cell_of_row _ _ _ _ _ _ hO.out, List.getElem?_toArray]
        exact bv_get _ _ (by rw [List.length_cons, hpl]; omega)
      have hfro : wr.frozen? ⟨W1.heap.size, q + 1, none⟩ = false := frozen_of_row _ _ _ _ _ hO.out
      clear hpl
      go_wp2
      go_roundw
      case rel =>
        have hN := HN.out
        have hQ := HQ.out
        have hr : N / 256 = c.toNat / 2 ^ (8 * (r + 1)) := by
          rw [← hN, Nat.div_div_eq_div_mul]
          congr 1
          rw [show 8 * (r + 1) = 8 * r + 8 from by omega, Nat.pow_add]
        have hbyte : ((N : Int) % 256) = ((byteAt c.toNat r).toNat : Int) := by
          rw [byteAt_toNat, ← hN]
          simp
        have hcN : ((N : Int) / 256) = ((N / 256 : Nat) : Int) := by simp
        refine ⟨q, r + 1, by omega, rfl, ?_, ?_, ?_⟩
        · show _ = _
          have hA' : (wr.setCell ⟨W1.heap.size, q + 1, none⟩ (Value.int .u8 ((N : Int) % 256))).heap[w.heap.size]? = some (.cells #[.int .i64 (m : Int), .int .u64 (N : Int)] 31 (0, 0)) :=
            (heap_setCell_other _ _ _ _ (by show w.heap.size ≠ W1.heap.size; omega)).trans hA.out
          rw [heap_setCell_same _ _ _ _ _ _ hA', hcN, hr]
          rfl
        · show _ = _
          rw [heap_setCell_other _ _ _ _ (by show W1.heap.size ≠ w.heap.size; omega), heap_setCell_same _ _ _ _ _ _ hO.out, hbyte, List.setIfInBounds_toArray, bv_set, List.set_cons_succ]
          rw [show r = 8 - 1 - q from by omega, part_set _ _ _ hq]
        · exact (hb.setCell (p := ⟨W1.heap.size, q + 1, none⟩) (by show w.heap.size ≤ W1.heap.size; omega) _).setCell (p := ⟨w.heap.size, 1, none⟩) (Nat.le_refl _) _
      case measure => simp [intOf]

/-- A label's bytes; none where it may not be. -/
def form (v : Int) (c : BitVec 64) : List UInt8 := if may v = true then UInt8.ofNat v.toNat :: be 8 c.toNat else []

theorem bytes_none (v : Int) (c : BitVec 64) (w : World) (hv : may v = false) : Calls Tryz.prog 84 #[.agg #[.int .i64 v, .int .u64 (c.toNat : Int)]] w fun e W' => e = .returned (.slice none 0 0) ∧ Grew w W' := by
  go_enter Tryz.func84, Tryz.ntmps84
  go_wp2_with fail
  refine (right_any v c _).mono ?_
  rintro e W1 ⟨rfl, hg1⟩
  have hG : Grew w W1 := Grew.trans (b := w.alloc (Obj.cells #[Value.int IntKind.i64 v, Value.int IntKind.u64 (c.toNat : Int)] 31)) (by unfold Grew; go_grown) hg1
  clear hg1
  go_wp2
  go_returns
  exact ⟨rfl, hG⟩

theorem form_any (v : Int) (c : BitVec 64) (w : World) :
    Calls Tryz.prog 84 #[.agg #[.int .i64 v, .int .u64 (c.toNat : Int)]] w fun e W' => ∃ v', e = .returned v' ∧ Rd (fun b => w.heap.size ≤ b) W' v' (form v c) ∧ Grew w W' := by
  unfold form
  by_cases hv : may v = true
  · rw [if_pos hv]
    refine (bytes_any v c w hv).mono ?_
    rintro e W' ⟨v', rfl, ho, hg⟩
    exact ⟨v', rfl, (Rd.of_own ho (by simp [be_length])).mono fun _ h => h.1, hg⟩
  · rw [if_neg hv]
    refine (bytes_none v c w (by simpa using hv)).mono ?_
    rintro e W' ⟨rfl, hg⟩
    exact ⟨_, rfl, Rd.nil _ _, hg⟩

set_option maxRecDepth 100000 in
theorem read_short (v : Value) (l : List UInt8) (w : World) (h : Rd (fun _ => True) w v l) (hl : l.length < 9) : Calls Tryz.prog 136 #[v] w fun e W' => e = .returned (.tuple #[.agg #[.int .i64 0, .int .u64 0], .int .i64 12]) ∧ Grew w W' := by
  obtain ⟨A, cp, rfl, h1, h2, h3, h4⟩ := h
  have hd : decide ((l.length : Int) < 9) = true := by simp; omega
  clear h4
  go_enter Tryz.func136, Tryz.ntmps136
  go_wp2
  go_returns
  exact ⟨rfl, by unfold Grew; go_grown⟩
set_option maxRecDepth 100000 in
theorem read_long (v : Value) (l : List UInt8) (w : World) (h : Rd (fun _ => True) w v l) (hl : 9 < l.length) : Calls Tryz.prog 136 #[v] w fun e W' => e = .returned (.tuple #[.agg #[.int .i64 0, .int .u64 0], .int .i64 13]) ∧ Grew w W' := by
  obtain ⟨A, cp, rfl, h1, h2, h3, h4⟩ := h
  have hd : decide ((l.length : Int) < 9) = false := by simp; omega
  have hd2 : decide ((9 : Int) < (l.length : Int)) = true := by simp; omega
  clear h4
  go_enter Tryz.func136, Tryz.ntmps136
  go_wp2
  go_returns
  exact ⟨rfl, by unfold Grew; go_grown⟩

/-- The set of eight bytes. -/
def step (c : BitVec 64) (b : UInt8) : BitVec 64 := (c <<< 8) ||| BitVec.ofNat 64 b.toNat
def val (t : List UInt8) : BitVec 64 := t.foldl step 0#64
theorem byte_nat (b : UInt8) : (b.toNat : Int) = (((BitVec.ofNat 64 b.toNat).toNat : Nat) : Int) := by
  have := b.toNat_lt
  rw [BitVec.toNat_ofNat]
  omega
theorem shl_eight (c : BitVec 64) : IntKind.u64.wrap ((c.toNat : Int) * 256) = (((c <<< 8).toNat : Nat) : Int) := by
  rw [IntKind.wrap_u64, BitVec.toNat_shiftLeft, Nat.shiftLeft_eq]
  simp

set_option maxRecDepth 100000 in
theorem read_nine (v : Value) (x : UInt8) (t : List UInt8) (w : World) (h : Rd (fun _ => True) w v (x :: t)) (hl : t.length = 8) : Calls Tryz.prog 136 #[v] w fun e W' =>
    e = .returned (if may (x.toNat : Int) = true then .tuple #[.agg #[.int .i64 (x.toNat : Int), .int .u64 ((val t).toNat : Int)], .int .i64 0] else .tuple #[.agg #[.int .i64 0, .int .u64 0], .int .i64 2]) ∧ Grew w W' := by
  obtain ⟨A, cp, rfl, h1, h2, h3, h4⟩ := id h
  obtain ⟨ad, rfl⟩ : ∃ ad, A = some ad := by
    cases A with
    | none => have := h3 rfl; simp [hl] at h1; omega
    | some ad => exact ⟨ad, rfl⟩
  have H4 := Lib.hid (h4 ad rfl).2
  have hx0 : w.cell? ad = some (.int .u8 (x.toNat : Int)) := by
    have := H4.out 0 _ rfl
    simpa [Addr.add] using this
  have h9 : (x :: t).length = 9 := by simp [hl]
  rw [h9] at h1 ⊢
  clear h4 h
  have hxb := x.toNat_lt
  have g0 : Below w.heap.size w (w.alloc (Obj.cells #[Value.int IntKind.i64 0, Value.int IntKind.u64 0] 31)) := by go_grown
  have hx1 : (w.alloc (Obj.cells #[Value.int IntKind.i64 0, Value.int IntKind.u64 0] 31)).cell? ad = some (.int .u8 (x.toNat : Int)) := cellG g0 hx0
  go_enter Tryz.func136, Tryz.ntmps136
  go_wp2
  go_loopw [25] (fun i wr => ∃ k : Nat, k ≤ 8 ∧ i = .int .i64 (k : Int) ∧ Hid (wr.heap[w.heap.size + 1]? = some (.cells #[.int .i64 (x.toNat : Int), .int .u64 ((val (t.take k)).toNat : Int)] 31 (0, 0))) ∧
      Hid (wr.heap[w.heap.size]? = some (.cells #[.int .i64 0, .int .u64 0] 31 (0, 0))) ∧ Below w.heap.size w wr) (fun i _ => 8 - (intOf i).toNat)
  case atStart =>
    refine ⟨0, by omega, rfl, ?_, ?_, by go_grown⟩
    · show _ = _
      exact heap_alloc2_new w _ _
    · show _ = _
      exact heap_alloc2_old w _ _
  case round =>
    obtain ⟨k, hk, rfl, hA, hR, hb⟩ := hrel
    by_cases hk8 : k < 8
    · have hd : decide (k < 8) = true := by simpa using hk8
      have htk : (x :: t)[k + 1]? = some (t[k]'(by omega)) := by simp [hl, hk8]
      have hcell : wr.cell? ⟨ad.block, ad.off + 1 + k, none⟩ = some (.int .u8 (((t[k]'(by omega)).toNat : Nat) : Int)) := by
        have h := H4.out (k + 1) (.int .u8 (((t[k]'(by omega)).toNat : Nat) : Int)) (by simp [bv, hl, hk8])
        have e : ad.add (k + 1) = ⟨ad.block, ad.off + 1 + k, none⟩ := by
          show (⟨ad.block, ad.off + (k + 1), none⟩ : Addr) = _
          congr 1
          omega
        rw [e] at h
        exact cellG hb h
      have hNc : wr.cell? ⟨w.heap.size + 1, 1, none⟩ = some (.int .u64 ((val (t.take k)).toNat : Int)) := by
        rw [cell_of_row _ _ _ _ _ _ hA.out]
        rfl
      have hNf : wr.frozen? ⟨w.heap.size + 1, 1, none⟩ = false := frozen_of_row _ _ _ _ _ hA.out
      generalize hbk : t[k]'(by omega) = bk at *
      have hbb := bk.toNat_lt
      go_wp2
      go_roundw
      case rel =>
        refine ⟨k + 1, hk8, by go_num, ?_, ?_, ?_⟩
        · show _ = _
          have hv : val (t.take (k + 1)) = step (val (t.take k)) bk := by
            have h8 : k < t.length := by omega
            unfold val
            rw [List.take_add_one, List.getElem?_eq_getElem h8, hbk, Option.toList_some, List.foldl_append]
            rfl
          rw [heap_setCell_same _ _ _ _ _ _ hA.out, shl_eight, byte_nat bk, bits_or, hv]
          rfl
        · show _ = _
          exact (heap_setCell_other _ _ _ _ (by show w.heap.size ≠ w.heap.size + 1; omega)).trans hR.out
        · exact hb.setCell (p := ⟨w.heap.size + 1, 1, none⟩) (by show w.heap.size ≤ w.heap.size + 1; omega) _
      case measure => simp [intOf]; omega
    · have hk' : k = 8 := by omega
      subst hk'
      have ht8 : t.take 8 = t := List.take_of_length_le (by omega)
      rw [ht8] at hA
      have hA0 : wr.cell? ⟨w.heap.size + 1, 0, none⟩ = some (.int .i64 (x.toNat : Int)) := by
        rw [cell_of_row _ _ _ _ _ _ hA.out]
        rfl
      have hA1 : wr.cell? ⟨w.heap.size + 1, 1, none⟩ = some (.int .u64 ((val t).toNat : Int)) := by
        rw [cell_of_row _ _ _ _ _ _ hA.out]
        rfl
      go_wp2_with fail
      refine (right_any _ (val t) _).mono ?_
      rintro e W2 ⟨rfl, hg2⟩
      have hA2 : W2.heap[w.heap.size + 1]? = some (.cells #[.int .i64 (x.toNat : Int), .int .u64 ((val t).toNat : Int)] 31 (0, 0)) := (hg2.block _ (Array.getElem?_eq_some_iff.1 hA.out).1).trans hA.out
      have hR2 : W2.heap[w.heap.size]? = some (.cells #[.int .i64 0, .int .u64 0] 31 (0, 0)) := (hg2.block _ (Array.getElem?_eq_some_iff.1 hR.out).1).trans hR.out
      have hA0 : W2.cell? ⟨w.heap.size + 1, 0, none⟩ = some (.int .i64 (x.toNat : Int)) := by
        rw [cell_of_row _ _ _ _ _ _ hA2]
        rfl
      have hA1 : W2.cell? ⟨w.heap.size + 1, 1, none⟩ = some (.int .u64 ((val t).toNat : Int)) := by
        rw [cell_of_row _ _ _ _ _ _ hA2]
        rfl
      have hR0 : W2.cell? ⟨w.heap.size, 0, none⟩ = some (.int .i64 0) := by
        rw [cell_of_row _ _ _ _ _ _ hR2]
        rfl
      have hR1 : W2.cell? ⟨w.heap.size, 1, none⟩ = some (.int .u64 0) := by
        rw [cell_of_row _ _ _ _ _ _ hR2]
        rfl
      have hF0 : W2.frozen? ⟨w.heap.size, 0, none⟩ = false := frozen_of_row _ _ _ _ _ hR2
      have hF1 : W2.frozen? ⟨w.heap.size, 1, none⟩ = false := frozen_of_row _ _ _ _ _ hR2
      have hb2 : Grew w W2 := Grew.trans (b := wr) hb hg2
      have R0 : ∀ v0 : Value, (W2.setCell ⟨w.heap.size, 0, none⟩ v0).heap[w.heap.size]? = some (.cells #[v0, .int .u64 0] 31 (0, 0)) := fun v0 => by
        rw [heap_setCell_same _ _ _ _ _ _ hR2]
        rfl
      have R1 : ∀ v0 v1 : Value, ((W2.setCell ⟨w.heap.size, 0, none⟩ v0).setCell ⟨w.heap.size, 1, none⟩ v1).heap[w.heap.size]? = some (.cells #[v0, v1] 31 (0, 0)) := fun v0 v1 => by
        rw [heap_setCell_same _ _ _ _ _ _ (R0 v0)]
        rfl
      have C0 : ∀ v0 : Value, (W2.setCell ⟨w.heap.size, 0, none⟩ v0).cell? ⟨w.heap.size, 0, none⟩ = some v0 := fun v0 => by
        rw [cell_of_row _ _ _ _ _ _ (R0 v0)]
        rfl
      have C1 : ∀ v0 v1 : Value, ((W2.setCell ⟨w.heap.size, 0, none⟩ v0).setCell ⟨w.heap.size, 1, none⟩ v1).cell? ⟨w.heap.size, 1, none⟩ = some v1 := fun v0 v1 => by
        rw [cell_of_row _ _ _ _ _ _ (R1 v0 v1)]
        rfl
      have hset : ∀ v0 v1 : Value, Grew w ((W2.setCell ⟨w.heap.size, 0, none⟩ v0).setCell ⟨w.heap.size, 1, none⟩ v1) := fun v0 v1 =>
        (Below.setCell (p := ⟨w.heap.size, 0, none⟩) hb2 (Nat.le_refl _) _).setCell (p := ⟨w.heap.size, 1, none⟩) (Nat.le_refl _) _
      clear hg2 hA2 hR2 hb R0 R1
      by_cases hm : may (x.toNat : Int) = true
      · go_wp2
        try simp only [Exit.inBlock, Exit.then]
        refine bodyPost_ret (by simp [results, Tryz.results136, go_sem, C0, C1]; try rfl) rfl ?_
        exact ⟨by simp, hset _ _⟩
      · have hm' : may (x.toNat : Int) = false := by simpa using hm
        go_wp2
        try simp only [Exit.inBlock, Exit.then]
        refine bodyPost_ret (by simp [results, Tryz.results136, go_sem, C0, C1]; try rfl) rfl ?_
        exact ⟨by simp, hset _ _⟩
end Go.Proofs.YtmegdgeiikhflaaGreat.LForm
