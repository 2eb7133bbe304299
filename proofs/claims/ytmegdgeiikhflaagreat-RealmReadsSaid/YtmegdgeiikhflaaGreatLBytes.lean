/-
  The document's own bytes of a label; what is read of bytes.
  Conditions: none beyond those that each lemma names.
-/
import Derived.Test.YtmegdgeiikhflaaGreatLRefs
import Derived.Test.YtmegdgeiikhflaaGreatLForm
import Derived.WalkMore
import Derived.BigFrame
namespace Go.Proofs.YtmegdgeiikhflaaGreat.LBytes
set_option maxRecDepth 100000
set_option maxRecDepth 100000
open Go Go.RowKit Go.Proofs.YtmegdgeiikhflaaGreat Go.Proofs.YtmegdgeiikhflaaGreat.Facts Go.Proofs.YtmegdgeiikhflaaGreat.Plain Go.Proofs.YtmegdgeiikhflaaGreat.Bytes Go.Proofs.YtmegdgeiikhflaaGreat.LForm Go.Proofs.YtmegdgeiikhflaaGreat.LBox Go.Proofs.YtmegdgeiikhflaaGreat.LRefs

theorem step_bit (c : BitVec 64) (b : UInt8) (i : Nat) (hi : i < 64) : (LForm.step c b).getLsbD i = if i < 8 then b.toNat.testBit i else c.getLsbD (i - 8) := by
  unfold LForm.step
  rw [BitVec.getLsbD_or, BitVec.getLsbD_shiftLeft, BitVec.getLsbD_ofNat]
  by_cases h : i < 8
  · simp [h, hi]
  · have hb : b.toNat.testBit i = false := Nat.testBit_lt_two_pow (Nat.lt_of_lt_of_le b.toNat_lt (Nat.pow_le_pow_right (by omega) (by omega : 8 ≤ i)))
    simp [h, hi, hb]
/-- The bits of bytes, the first one uppermost. -/
def bitAt (t : List UInt8) (i : Nat) : Bool := (t.reverse.getD (i / 8) 0).toNat.testBit (i % 8)
theorem bitAt_snoc (t : List UInt8) (b : UInt8) (i : Nat) : bitAt (t ++ [b]) i = if i < 8 then b.toNat.testBit i else bitAt t (i - 8) := by
  unfold bitAt
  rw [List.reverse_append, List.reverse_singleton, List.singleton_append]
  by_cases h : i < 8
  · rw [if_pos h, Nat.div_eq_of_lt h, Nat.mod_eq_of_lt h]
    rfl
  · rw [if_neg h, show i / 8 = (i - 8) / 8 + 1 by omega, show i % 8 = (i - 8) % 8 by omega]
    rfl
theorem val_bit_rev (r : List UInt8) : ∀ i, i < 64 → (val r.reverse).getLsbD i = bitAt r.reverse i := by
  induction r with
  | nil => intro i _; simp [val, bitAt]
  | cons b r ih =>
    intro i hi
    rw [List.reverse_cons]
    have e : val (r.reverse ++ [b]) = LForm.step (val r.reverse) b := by simp [val]
    rw [e, step_bit _ _ _ hi, bitAt_snoc]
    split
    · rfl
    · exact ih _ (by omega)
theorem val_bit (t : List UInt8) (i : Nat) (hi : i < 64) : (val t).getLsbD i = bitAt t i := by
  have := val_bit_rev t.reverse i hi
  rwa [List.reverse_reverse] at this
theorem byteAt_bit (n i j : Nat) (hj : j < 8) : (byteAt n i).toNat.testBit j = n.testBit (8 * i + j) := by
  unfold byteAt
  rw [UInt8.toNat_ofNat', show (2 ^ 8 : Nat) = 2 ^ 8 from rfl, Nat.testBit_mod_two_pow, Nat.testBit_div_two_pow]
  simp [hj, Nat.add_comm]
theorem be_bit (n i : Nat) (hi : i < 64) : bitAt (be 8 n) i = n.testBit i := by
  unfold bitAt be
  rw [← List.map_reverse, List.getD_eq_getElem?_getD, List.getElem?_map, List.getElem?_reverse (by simp; omega), List.length_range, List.getElem?_range (by omega)]
  simp only [Option.map_some, Option.getD_some]
  rw [byteAt_bit _ _ _ (Nat.mod_lt _ (by omega))]
  congr 1
  omega
/-- The number of the bytes of a number is that number. -/
theorem val_be (c : BitVec 64) : val (be 8 c.toNat) = c := by
  apply BitVec.eq_of_getLsbD_eq
  intro i hi
  rw [val_bit _ _ hi, be_bit _ _ hi]
  rfl
theorem bitAt_ext {t s : List UInt8} (hl : t.length = s.length) (h : ∀ i, i < 8 * t.length → bitAt t i = bitAt s i) : t = s := by
  have hr : t.reverse = s.reverse := by
    apply List.ext_getElem (by simp [hl])
    intro k h1 h2
    apply UInt8.toNat_inj.1
    apply Nat.eq_of_testBit_eq
    intro j
    by_cases hj : j < 8
    · have := h (8 * k + j) (by simp at h1; omega)
      unfold bitAt at this
      rw [show (8 * k + j) / 8 = k by omega, show (8 * k + j) % 8 = j by omega, List.getD_eq_getElem?_getD, List.getD_eq_getElem?_getD, List.getElem?_eq_getElem h1, List.getElem?_eq_getElem h2] at this
      exact this
    · rw [Nat.testBit_lt_two_pow (Nat.lt_of_lt_of_le (UInt8.toNat_lt _) (Nat.pow_le_pow_right (by omega) (by omega : 8 ≤ j))), Nat.testBit_lt_two_pow (Nat.lt_of_lt_of_le (UInt8.toNat_lt _) (Nat.pow_le_pow_right (by omega) (by omega : 8 ≤ j)))]
  simpa using congrArg List.reverse hr
/-- The bytes of the number of eight bytes are these. -/
theorem be_val (t : List UInt8) (h : t.length = 8) : be 8 (val t).toNat = t := by
  apply bitAt_ext (by simp [be, h])
  intro i hi
  have hi' : i < 64 := by simp [be] at hi; omega
  rw [be_bit _ _ hi', ← val_bit _ _ hi']
  rfl
/-- What is read of bytes. -/
def rdOk (t : List UInt8) : Bool := decide (t.length = 9) && may ((t.headD 0).toNat : Int)
def rdV (t : List UInt8) : Int := if rdOk t = true then ((t.headD 0).toNat : Int) else 0
def rdC (t : List UInt8) : BitVec 64 := if rdOk t = true then val t.tail else 0#64
def rdE (t : List UInt8) : Int := if rdOk t = true then 0 else if t.length < 9 then 12 else if 9 < t.length then 13 else 2
theorem read_any (v : Value) (t : List UInt8) (w : World) (h : Rd (fun _ => True) w v t) : Calls Tryz.prog 136 #[v] w fun e W' => e = .returned (.tuple #[.agg #[.int .i64 (rdV t), .int .u64 ((rdC t).toNat : Int)], .int .i64 (rdE t)]) ∧ Grew w W' := by
  unfold rdV rdC rdE
  by_cases h1 : t.length < 9
  · have hk : rdOk t = false := by unfold rdOk; rw [decide_eq_false (by omega)]; rfl
    rw [hk, if_neg (by simp), if_neg (by simp), if_neg (by simp), if_pos h1]
    exact read_short v t w h h1
  · by_cases h2 : 9 < t.length
    · have hk : rdOk t = false := by unfold rdOk; rw [decide_eq_false (by omega)]; rfl
      rw [hk, if_neg (by simp), if_neg (by simp), if_neg (by simp), if_neg h1, if_pos h2]
      exact read_long v t w h h2
    · match t, h, h1, h2 with
      | x :: r, h, h1, h2 =>
        simp only [List.length_cons] at h1 h2
        have hn := read_nine v x r w h (by omega)
        have hk : rdOk (x :: r) = may (x.toNat : Int) := by
          unfold rdOk
          rw [decide_eq_true (by simp only [List.length_cons]; omega), Bool.true_and]
          rfl
        rw [hk, if_neg (show ¬ (x :: r).length < 9 by simp only [List.length_cons]; omega), if_neg (show ¬ 9 < (x :: r).length by simp only [List.length_cons]; omega)]
        cases hm : may (x.toNat : Int) with
        | true =>
          rw [hm, if_pos rfl] at hn
          exact hn
        | false =>
          rw [hm, if_neg (by simp)] at hn
          exact hn
theorem rdE_cases (t : List UInt8) : (rdE t = 0 ∧ rdOk t = true) ∨ ((rdE t != 0) = true ∧ rdOk t = false) := by
  unfold rdE
  cases h : rdOk t with
  | true => exact .inl ⟨rfl, rfl⟩
  | false =>
    refine .inr ⟨?_, rfl⟩
    rw [if_neg (by simp)]
    split
    · rfl
    · split <;> rfl
theorem rd_back (t : List UInt8) (h : rdOk t = true) : form (rdV t) (rdC t) = t := by
  unfold rdV rdC
  rw [if_pos h, if_pos h]
  unfold rdOk at h
  simp only [Bool.and_eq_true, decide_eq_true_iff] at h
  match t, h with
  | x :: r, h =>
    have hl : r.length = 8 := by simpa using h.1
    have hm : may (x.toNat : Int) = true := h.2
    show form (x.toNat : Int) (val r) = x :: r
    unfold form
    rw [if_pos hm, be_val r hl, Int.toNat_natCast]
    congr 1
    exact UInt8.ofNat_toNat
theorem rd_form (v : Int) (c : BitVec 64) (hv : may v = true) : rdV (form v c) = v ∧ rdC (form v c) = c ∧ rdE (form v c) = 0 := by
  have hb : 0 ≤ v ∧ v < 4 := by unfold may at hv; simpa using hv
  have e : ((UInt8.ofNat v.toNat).toNat : Int) = v := by rw [UInt8.toNat_ofNat']; omega
  have hk : rdOk (form v c) = true := by
    unfold rdOk form
    rw [if_pos hv]
    simp only [List.length_cons, be_length, List.headD_cons, e, hv]
    rfl
  unfold rdV rdC rdE
  rw [if_pos hk, if_pos hk, if_pos hk]
  unfold form
  rw [if_pos hv]
  exact ⟨e, val_be c, rfl⟩

set_option maxRecDepth 100000 in
theorem rbytes_in (v : Int) (c : BitVec 64) (w : World) (hv : may v = true) : Calls Tryz.prog 93 #[.agg #[.int .i64 v, .int .u64 (c.toNat : Int)]] w fun e W' => ∃ v', e = .returned v' ∧ W'.ownsRow w.heap.size 5 1 v' 9 (bv (UInt8.ofNat v.toNat :: be 8 c.toNat)) ∧ Grew w W' := by
  obtain ⟨h0, h4⟩ : 0 ≤ v ∧ v < 4 := by simpa [may] using hv
  obtain ⟨m, rfl⟩ := Int.eq_ofNat_of_zero_le h0
  have HRR : Hid (∀ W, Calls Tryz.prog 127 #[.agg #[.int .i64 (m : Int), .int .u64 (c.toNat : Int)]] W fun e w' => e = .returned (.bool true) ∧ Grew W w') := Lib.hid fun W => by
    have := rright_any (m : Int) c W
    rwa [hv] at this
  obtain ⟨i0, hi, hz0, hz1, hz2⟩ := info_parts info5
  have hmk : ∀ u : World, (Instr.makeSlice 41 (.int .i64 9) (.int .i64 9)).run Tryz.prog u =
      .ok (.slice (some ⟨u.heap.size, 0, none⟩) 9 9) (u.alloc (.cells (bv (List.replicate 9 0)).toArray 5)) := fun u => by
    have h := run_make (P := Tryz.prog) u 41 5 i0 (.int .u8 0) Tryz.underlying41 hi hz0 .i64 .i64 9 9 (by omega) (Int.le_refl _) (by rw [hz2]; omega) (by omega)
    rw [← made_cells]
    simpa [hz1, Value.cells] using h
  clear hv
  go_enter Tryz.func93, Tryz.ntmps93
  go_wp2_with fail
  refine (HRR.out _).mono ?_
  rintro e W1 ⟨rfl, hg1⟩
  have kb : W1.heap[w.heap.size]? = some (.cells #[.int .i64 (m : Int), .int .u64 (c.toNat : Int)] 31 (0, 0)) := (hg1.block w.heap.size (by simp)).trans (heap_alloc_new w _)
  have z1 : w.heap.size + 1 ≤ W1.heap.size := by have := hg1.size; simpa using this
  have hG : Grew w W1 := Grew.trans (b := w.alloc (Obj.cells #[Value.int IntKind.i64 (m : Int), Value.int IntKind.u64 (c.toNat : Int)] 31)) (by unfold Grew; go_grown) hg1
  clear hg1
  have k0 : ∀ o : Obj, (W1.alloc o).cell? ⟨w.heap.size, 0, none⟩ = some (.int .i64 (m : Int)) := fun o => (lab_cells (keepB kb (show Grew W1 (W1.alloc o) by unfold Grew; go_grown))).1
  have k1 : ∀ o : Obj, (W1.alloc o).cell? ⟨w.heap.size, 1, none⟩ = some (.int .u64 (c.toNat : Int)) := fun o => (lab_cells (keepB kb (show Grew W1 (W1.alloc o) by unfold Grew; go_grown))).2.1
  have ko := heap_alloc_new W1 (Obj.cells (bv [0, 0, 0, 0, 0, 0, 0, 0, 0]).toArray 5)
  have koc : (W1.alloc (Obj.cells (bv [0, 0, 0, 0, 0, 0, 0, 0, 0]).toArray 5)).cell? ⟨W1.heap.size, 0, none⟩ = some (.int .u8 0) := by
    rw [cell_of_row _ _ _ _ _ _ ko]
    rfl
  have kof : (W1.alloc (Obj.cells (bv [0, 0, 0, 0, 0, 0, 0, 0, 0]).toArray 5)).frozen? ⟨W1.heap.size, 0, none⟩ = false := frozen_of_row _ _ _ _ _ ko
  have hw8 : (m : Int) % 256 = m := by omega
  have hstart : (bv [0, 0, 0, 0, 0, 0, 0, 0, 0]).set 0 (.int .u8 (m : Int)) = bv (UInt8.ofNat m :: LForm.part 8 c.toNat 8) := by
    rw [part_start]
    have e : ((UInt8.ofNat m).toNat : Int) = m := by rw [UInt8.toNat_ofNat']; omega
    show _ = bv (UInt8.ofNat m :: [0, 0, 0, 0, 0, 0, 0, 0])
    simp [bv]
    omega
  have hlt := c.isLt
  have hne : W1.heap.size ≠ w.heap.size := by omega
  have HB := Lib.hid hG
  clear ko koc kof
  have koc : ∀ cs : Array Value, ∀ x, cs[0]? = some x → (W1.alloc (Obj.cells cs 5)).cell? ⟨W1.heap.size, 0, none⟩ = some x := fun cs x h => by
    rw [cell_of_row _ _ _ _ _ _ (heap_alloc_new W1 _)]
    exact h
  have koc0 := koc (bv [0, 0, 0, 0, 0, 0, 0, 0, 0]).toArray (.int .u8 0) rfl
  have kof : (W1.alloc (Obj.cells (bv [0, 0, 0, 0, 0, 0, 0, 0, 0]).toArray 5)).frozen? ⟨W1.heap.size, 0, none⟩ = false := frozen_of_row _ _ _ _ _ (heap_alloc_new W1 _)
  clear koc
  go_wp2
  clear k0 k1 koc0 kof hstart
  go_loopw [4, 5] (fun n i wr => ∃ q r N : Nat, r + q = 8 ∧ i = .int .i64 (q : Int) ∧ n = .int .u64 (N : Int) ∧ N < 18446744073709551616 ∧ Hid (N = c.toNat / 2 ^ (8 * r)) ∧
      Hid (wr.heap[W1.heap.size]? = some (.cells (bv (UInt8.ofNat m :: LForm.part 8 c.toNat q)).toArray 5 (0, 0))) ∧ Below w.heap.size w wr) (fun _ i _ => (intOf i).toNat)
  case atStart =>
    refine ⟨8, 0, c.toNat, rfl, rfl, rfl, hlt, ?_, ?_, ?_⟩
    · show _ = _
      simp
    · show _ = _
      exact heap_alloc_new W1 _
    · have h1 : Below w.heap.size w W1 := HB.out
      exact h1.alloc (by omega) _
  case round =>
    obtain ⟨q, r, N, hrq, rfl, rfl, hN64, HN, hO, hb⟩ := hrel
    cases q with
    | zero =>
      clear hrq
      go_wp2
      go_ret
      refine ⟨_, rfl, ?_, hb⟩
      have hg := hO.out
      rw [part_full] at hg
      exact ⟨by simp [bv_length, be_length], .inr ⟨W1.heap.size, 9, _, rfl, by omega, hg, Nat.le_refl _, by unfold maxLen; omega, by simp [bv_length, be_length], List.take_of_length_le (by simp [bv_length, be_length])⟩⟩
    | succ q =>
      have hq : q < 8 := by omega
      have HQ := Lib.hid hrq
      clear hrq
      have hpl := part_length 8 c.toNat (q + 1) (by omega)
      have hcell : wr.cell? ⟨W1.heap.size, q + 1, none⟩ = some (.int .u8 (((UInt8.ofNat m :: LForm.part 8 c.toNat (q + 1))[q + 1]?.getD 0).toNat : Int)) := by
        rw [cell_of_row _ _ _ _ _ _ hO.out, List.getElem?_toArray]
        exact bv_get _ _ (by rw [List.length_cons, hpl]; omega)
      have hfro : wr.frozen? ⟨W1.heap.size, q + 1, none⟩ = false := frozen_of_row _ _ _ _ _ hO.out
      clear hpl
      go_wp2
      go_roundw
      case rel =>
        have hN := HN.out
        have hQ := HQ.out
        have hr : N / 256 = c.toNat / 2 ^ (8 * (r + 1)) := by
          rw [hN, Nat.div_div_eq_div_mul]
          congr 1
          rw [show 8 * (r + 1) = 8 * r + 8 from by omega, Nat.pow_add]
        have hbyte : ((N : Int) % 256) = ((byteAt c.toNat r).toNat : Int) := by
          rw [byteAt_toNat, hN]
          simp
        refine ⟨q, r + 1, N / 256, by omega, by first | rfl | (simp; done) | (simp; omega), by first | rfl | simp, by omega, ?_, ?_, ?_⟩
        · show _ = _
          exact hr
        · show _ = _
          rw [heap_setCell_same _ _ _ _ _ _ hO.out, hbyte, List.setIfInBounds_toArray, bv_set, List.set_cons_succ]
          rw [show r = 8 - 1 - q from by omega, part_set _ _ _ hq]
        · exact hb.setCell (p := ⟨W1.heap.size, q + 1, none⟩) (by show w.heap.size ≤ W1.heap.size; omega) _
      case measure => simp [intOf]

theorem rbytes_none (v : Int) (c : BitVec 64) (w : World) (hv : may v = false) : Calls Tryz.prog 93 #[.agg #[.int .i64 v, .int .u64 (c.toNat : Int)]] w fun e W' => e = .returned (.slice none 0 0) ∧ Grew w W' := by
  go_enter Tryz.func93, Tryz.ntmps93
  go_wp2_with fail
  refine (rright_any v c _).mono ?_
  rintro e W1 ⟨rfl, hg1⟩
  have hG : Grew w W1 := Grew.trans (b := w.alloc (Obj.cells #[Value.int IntKind.i64 v, Value.int IntKind.u64 (c.toNat : Int)] 31)) (by unfold Grew; go_grown) hg1
  clear hg1
  go_wp2
  go_returns
  exact ⟨rfl, hG⟩

theorem rbytes_any (v : Int) (c : BitVec 64) (w : World) :
    Calls Tryz.prog 93 #[.agg #[.int .i64 v, .int .u64 (c.toNat : Int)]] w fun e W' => ∃ v', e = .returned v' ∧ Rd (fun _ => True) W' v' (form v c) ∧ Grew w W' := by
  unfold form
  by_cases hv : may v = true
  · rw [if_pos hv]
    refine (rbytes_in v c w hv).mono ?_
    rintro e W' ⟨v', rfl, ho, hg⟩
    exact ⟨v', rfl, (Rd.of_own ho (by simp [be_length])).mono fun _ _ => trivial, hg⟩
  · rw [if_neg hv]
    refine (rbytes_none v c w (by simpa using hv)).mono ?_
    rintro e W' ⟨rfl, hg⟩
    exact ⟨_, rfl, Rd.nil _ _, hg⟩

end Go.Proofs.YtmegdgeiikhflaaGreat.LBytes
