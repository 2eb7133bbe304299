/-
  For any bytes: SumEven answers true, and each argument reads afterwards as it read before.
  Conditions: none beyond the row's own (the form's reach: each argument takes at most 2 to the 47 less 4096 bytes).
-/
import Derived.Test.YtoeemilmjaihcaaAlive
import Derived.Test.YtoeemilmjaihcaaLaw
import Derived.Test.YtoeemilmjaihcaaCuts
import Derived.Test.YtoeemilmjaihcaaRows
import Derived.Laws.CopyOwn
namespace Go.Proofs.Ytoeemilmjaihcaa.Even
open Go Go.ChangeShapes Go.WideShapes Go.ChangeAt Go.RowKit Go.Proofs.Ytoeemilmjaihcaa Go.Proofs.Ytoeemilmjaihcaa.Facts Go.Proofs.Ytoeemilmjaihcaa.Bytes Go.Proofs.Ytoeemilmjaihcaa.SumPure Go.Proofs.Ytoeemilmjaihcaa.Sum Go.Proofs.Ytoeemilmjaihcaa.Alive Go.Proofs.Ytoeemilmjaihcaa.Law Go.Proofs.Ytoeemilmjaihcaa.Cuts

theorem info5 : (Try.prog.info? 5).map (fun i => (i.zero, i.size, i.bytes)) = some (some (.int .u8 0), 1, 1) := by kernel_rfl
theorem run_mk (n : Nat) (hn : n ≤ 140737488355328) (u : World) : (Instr.makeSlice 22 (.int .i64 (n : Int)) (.int .i64 (n : Int))).run Try.prog u = .ok (.slice (some ⟨u.heap.size, 0, none⟩) n n) (u.alloc (.cells (madeCells #[.int .u8 0] n) 5)) := by
  obtain ⟨i0, hi, hx⟩ := Option.map_eq_some_iff.1 info5
  simp only [Prod.mk.injEq] at hx
  obtain ⟨hz0, hz1, hz2⟩ := hx
  have h := run_make (P := Try.prog) u 22 5 i0 (.int .u8 0) Try.underlying22 hi hz0 .i64 .i64 (n : Int) (n : Int) (by omega) (Int.le_refl _) (by rw [hz2]; omega) (by omega)
  have e : ((n : Int)).toNat = n := by omega
  rw [e] at h
  simpa [hz1, Value.cells] using h
theorem made_cells (n : Nat) : madeCells #[.int .u8 0] n = (bv (List.replicate n 0)).toArray := by
  apply Array.ext'
  rw [toList_madeCells_one]
  simp [bv]
theorem row_rd {W : World} {B n : Nat} {l : List UInt8} (h : W.heap[B]? = some (.cells (bv l).toArray 5 (0, 0))) (hn : l.length = n) (hm : n ≤ 140737488355328) : Rd (fun _ => True) W (.slice (some ⟨B, 0, none⟩) n n) l := by
  subst hn
  refine ⟨some ⟨B, 0, none⟩, l.length, rfl, Nat.le_refl _, by unfold maxLen; omega, (fun h => by cases h), fun ad ha => ⟨fun _ => trivial, fun j u hu => ?_⟩⟩
  cases ha
  have e : (Addr.add ⟨B, 0, none⟩ j) = ⟨B, j, none⟩ := by
    unfold Addr.add
    split
    · rename_i h; subst h; rfl
    · simp
  rw [e, cell_of_row _ _ _ _ _ _ h]
  simpa using hu
theorem made_rd (W : World) (n : Nat) (hn : n ≤ 140737488355328) : Rd (fun _ => True) (W.alloc (.cells (madeCells #[.int .u8 0] n) 5)) (.slice (some ⟨W.heap.size, 0, none⟩) n n) (List.replicate n 0) := by
  rw [made_cells]
  exact row_rd (heap_alloc_new W _) (by simp) hn

/-- Byte by byte, without carry. -/
def xors (a b : List UInt8) : List UInt8 := List.zipWith (· ^^^ ·) a b
theorem xors_length (a b : List UInt8) : (xors a b).length = min a.length b.length := by simp [xors]
theorem row_at (l : List UInt8) (k m : Nat) (hk : k ≤ l.length) (hm : 0 < m) : (bv (l.take k ++ List.replicate m 0)).toArray[k]? = some (.int .u8 0) := by
  rw [List.getElem?_toArray]
  have : (l.take k).length = k := by rw [List.length_take]; omega
  have e : bv (l.take k ++ List.replicate m 0) = bv (l.take k) ++ bv (List.replicate m 0) := bv_append _ _
  rw [e, List.getElem?_append_right (by rw [bv_length, this]; exact Nat.le_refl _), bv_length, this, Nat.sub_self]
  simp [bv, hm]
theorem bv_set (l : List UInt8) (i : Nat) (b : UInt8) : (bv l).set i (.int .u8 (b.toNat : Int)) = bv (l.set i b) := by simp [bv, List.map_set]
theorem row_set (a b : List UInt8) (k m : Nat) (ha : k < a.length) (hb : k < b.length) (hm : 0 < m) :
    (bv ((xors a b).take k ++ List.replicate m 0)).set k (.int .u8 (((a[k]?.getD 0) ^^^ (b[k]?.getD 0)).toNat : Int)) = bv ((xors a b).take (k + 1) ++ List.replicate (m - 1) 0) := by
  have hl : ((xors a b).take k).length = k := by rw [List.length_take, xors_length]; omega
  rw [bv_set]
  congr 1
  rw [List.set_append_right _ _ (by omega), hl, Nat.sub_self]
  obtain ⟨m', rfl⟩ : ∃ m', m = m' + 1 := ⟨m - 1, by omega⟩
  rw [List.replicate_succ, List.set_cons_zero, List.take_add_one]
  simp [xors, List.getElem?_zipWith, ha, hb]
theorem bits8 (x y : UInt8) : bits .xor .u8 (x.toNat : Int) (y.toNat : Int) = ((x ^^^ y).toNat : Int) := by
  have hx := x.toNat_lt
  have hy := y.toNat_lt
  show IntKind.u8.wrap (((BitVec.ofInt 8 (x.toNat : Int) ^^^ BitVec.ofInt 8 (y.toNat : Int)).toNat : Nat) : Int) = _
  rw [BitVec.ofInt_natCast, BitVec.ofInt_natCast, BitVec.toNat_xor, BitVec.toNat_ofNat, BitVec.toNat_ofNat, UInt8.toNat_xor, Nat.mod_eq_of_lt hx, Nat.mod_eq_of_lt hy]
  have : x.toNat ^^^ y.toNat < 2 ^ 8 := Nat.xor_lt_two_pow hx hy
  rw [IntKind.wrap_u8]
  omega
theorem bits_xors (a b : List UInt8) (n : Nat) (ha : n ≤ a.length) (hb : n ≤ b.length) (hn : min a.length b.length = n) (p : Nat) : bitsOf (xors a b) p = (bitsOf (a.take n) p ^^ bitsOf (b.take n) p) := by
  unfold bitsOf
  simp only [List.getD_eq_getElem?_getD]
  by_cases h : p / 8 < n
  · simp [xors, List.getElem?_zipWith, List.getElem?_take, h, show p / 8 < a.length by omega, show p / 8 < b.length by omega, UInt8.toNat_xor, Nat.testBit_xor]
  · have e : (xors a b)[p / 8]? = none := List.getElem?_eq_none (by rw [xors_length]; omega)
    have e1 : (a.take n)[p / 8]? = none := List.getElem?_eq_none (by rw [List.length_take]; omega)
    have e2 : (b.take n)[p / 8]? = none := List.getElem?_eq_none (by rw [List.length_take]; omega)
    rw [e, e1, e2]
    simp
theorem bits_zero (n p : Nat) : bitsOf (List.replicate n 0) p = false := by
  unfold bitsOf
  simp only [List.getD_eq_getElem?_getD]
  by_cases h : p / 8 < n
  · simp [List.getElem?_replicate, h]
  · simp [List.getElem?_replicate, h]
theorem even_pure (a b : List UInt8) (n : Nat) (ha : n ≤ a.length) (hb : n ≤ b.length) (hn : min a.length b.length = n) :
    sumOf (a.take n) ^^^ sumOf (b.take n) ^^^ sumOf (xors a b) ^^^ sumOf (List.replicate n 0) = 0#32 := by
  refine sum_even _ _ _ _ ?_ ?_ ?_ (bits_xors a b n ha hb hn) (bits_zero n)
  · rw [List.length_take, List.length_take]; omega
  · rw [xors_length, List.length_take]; omega
  · rw [List.length_replicate, List.length_take]; omega

set_option maxRecDepth 100000 in
set_option maxHeartbeats 8000000 in
theorem law_any (S : Nat → Prop) (v v' : Value) (a b : List UInt8) (w : World) (ha : Rd S w v a) (hb : Rd S w v' b) (hla : a.length ≤ 140737488355328) (hlb : b.length ≤ 140737488355328) :
    Calls Try.prog 6 #[v, v'] w fun e w' => e = .returned (.bool true) ∧ Grew w w' := by
  obtain ⟨A, ca, rfl, hac, ham, _⟩ := id ha
  obtain ⟨B, cb, rfl, hbc, hbm, _⟩ := id hb
  unfold maxLen at ham hbm
  have HA := Lib.hid ha
  have HBR := Lib.hid hb
  obtain ⟨n, hn⟩ : ∃ n, n = min a.length b.length := ⟨_, rfl⟩
  have hna : n ≤ a.length := by omega
  have hnb : n ≤ b.length := by omega
  obtain ⟨x1, hx1⟩ : ∃ x1, x1 = ((sumOf (a.take n)).toNat : Int) := ⟨_, rfl⟩
  obtain ⟨x2, hx2⟩ : ∃ x2, x2 = ((sumOf (b.take n)).toNat : Int) := ⟨_, rfl⟩
  obtain ⟨x3, hx3⟩ : ∃ x3, x3 = ((sumOf (xors a b)).toNat : Int) := ⟨_, rfl⟩
  obtain ⟨x4, hx4⟩ : ∃ x4, x4 = ((sumOf (List.replicate n 0)).toNat : Int) := ⟨_, rfl⟩
  obtain ⟨x12, hx12⟩ : ∃ x12, x12 = ((sumOf (a.take n) ^^^ sumOf (b.take n)).toNat : Int) := ⟨_, rfl⟩
  obtain ⟨x123, hx123⟩ : ∃ x123, x123 = ((sumOf (a.take n) ^^^ sumOf (b.take n) ^^^ sumOf (xors a b)).toNat : Int) := ⟨_, rfl⟩
  have HX12 : Hid (bits .xor .u32 x1 x2 = x12) := Lib.hid (by rw [hx1, hx2, hx12, bits_xor])
  have HX123 : Hid (bits .xor .u32 x12 x3 = x123) := Lib.hid (by rw [hx12, hx3, hx123, bits_xor])
  have HX0 : Hid (bits .xor .u32 x123 x4 = 0) := Lib.hid (by rw [hx123, hx4, bits_xor, even_pure a b n hna hnb hn.symm]; rfl)
  have H1 : Hid (∀ W, Grew w W → Calls Try.prog 8 #[.slice A n ca] W fun e w' => e = .returned (.int .u32 x1) ∧ Grew W w') := Lib.hid fun W hg => by
    have := of_any S _ _ W ((cut_first ha hna).grew hg)
    rw [← hx1] at this
    exact this
  have H2 : Hid (∀ W, Grew w W → Calls Try.prog 8 #[.slice B n cb] W fun e w' => e = .returned (.int .u32 x2) ∧ Grew W w') := Lib.hid fun W hg => by
    have := of_any S _ _ W ((cut_first hb hnb).grew hg)
    rw [← hx2] at this
    exact this
  have H4 : Hid (∀ W u, Rd (fun _ => True) W u (List.replicate n 0) → Calls Try.prog 8 #[u] W fun e w' => e = .returned (.int .u32 x4) ∧ Grew W w') := Lib.hid fun W u hr => by
    have := of_any _ u _ W hr
    rw [← hx4] at this
    exact this
  have HX3 := Lib.hid hx3
  clear hx1 hx2 hx3 hx4 hx12 hx123 ha hb
  have hca : n ≤ ca := by omega
  have hcb : n ≤ cb := by omega
  go_enter Try.func6, Try.ntmps6
  by_cases hlt : (b.length : Int) < (a.length : Int)
  · obtain rfl : n = b.length := by omega
    have hnm : min a.length b.length = b.length := by omega
    have hN : b.length ≤ 140737488355328 := hlb
    clear hn hlb
    have HN := Lib.hid hN
    have HMK : Hid (∀ u : World, (Instr.makeSlice 22 (.int .i64 (b.length : Int)) (.int .i64 (b.length : Int))).run Try.prog u = .ok (.slice (some ⟨u.heap.size, 0, none⟩) b.length b.length) (u.alloc (.cells (madeCells #[.int .u8 0] b.length) 5))) := Lib.hid (run_mk b.length hN)
    have hmk := HMK.out
    go_wp2
    clear hmk
    go_loopg [7] b.length (fun g s7 wx => ∃ k : Nat, k + g = b.length ∧ s7 = .int .i64 k ∧ Hid (wx.heap[w.heap.size]? = some (.cells (bv (((xors a b).take k) ++ List.replicate (b.length - k) 0)).toArray 5 (0, 0))) ∧ Hid (Grew w wx))
    case atStart =>
      refine ⟨0, by omega, rfl, ?_, Lib.hid (by unfold Grew; go_grown)⟩
      show _ = _
      rw [heap_alloc_new, made_cells]
      rfl
    case round =>
      obtain ⟨k, hkg, rfl, HB, HG⟩ := hrel
      cases gk with
      | zero =>
        have hkz : ¬ ((k : Int) < (b.length : Int)) := by omega
        obtain rfl : k = b.length := by omega
        have H3 : Hid (∀ W, Grew wr W → Calls Try.prog 8 #[.slice (some ⟨w.heap.size, 0, none⟩) b.length b.length] W fun e w' => e = .returned (.int .u32 x3) ∧ Grew W w') := Lib.hid fun W hg => by
          have hb := HB.out
          rw [Nat.sub_self, List.replicate_zero, List.append_nil, List.take_of_length_le (by rw [xors_length, hnm]; exact Nat.le_refl _)] at hb
          have := of_any _ _ (xors a b) W ((row_rd hb (by rw [xors_length, hnm]) HN.out).grew hg)
          rw [← HX3.out] at this
          exact this
        clear HB HX3
        go_wp2
        refine Facts.wp_region_text (by kernel_rfl) (by kernel_rfl) ?_
        apply Facts.Lex.exact [] (.bool true) (by kernel_rfl)
        · intro u W hC _
          unfold Facts.one
          go_simp
          first | exact ⟨Grew.refl _, rfl⟩ | rfl | (refine (alive_any W).mono ?_; rintro e w' ⟨rfl, hg⟩; exact ⟨_, rfl, hg, rfl⟩)
        simp only [Act.put, List.setIfInBounds_toArray, List.set_cons_zero, List.set_cons_succ, Nat.zero_add, Nat.reduceAdd]
        apply Facts.Lex.exact [] _ (by kernel_rfl)
        · intro u W hC _
          unfold Facts.one
          go_simp
          first | exact ⟨Grew.refl _, rfl⟩ | rfl
        simp only [Act.put, List.setIfInBounds_toArray, List.set_cons_zero, List.set_cons_succ, Nat.zero_add, Nat.reduceAdd]
        apply Facts.Lex.exact [] _ (by kernel_rfl)
        · intro u W hC _
          unfold Facts.one
          go_simp
          first | exact ⟨Grew.refl _, rfl⟩ | rfl
        simp only [Act.put, List.setIfInBounds_toArray, List.set_cons_zero, List.set_cons_succ, Nat.zero_add, Nat.reduceAdd]
        apply Facts.Lex.exact [] _ (by kernel_rfl)
        · intro u W hC _
          unfold Facts.one
          go_simp
          first | exact ⟨Grew.refl _, rfl⟩ | rfl
        simp only [Act.put, List.setIfInBounds_toArray, List.set_cons_zero, List.set_cons_succ, Nat.zero_add, Nat.reduceAdd]
        apply Facts.Lex.exact [] (.slice A b.length ca) (by kernel_rfl)
        · intro u W hC _
          unfold Facts.one
          go_simp
          first | exact ⟨Grew.refl _, rfl⟩ | rfl | (rw [if_pos hca]; exact ⟨Grew.refl _, rfl⟩)
        simp only [Act.put, List.setIfInBounds_toArray, List.set_cons_zero, List.set_cons_succ, Nat.zero_add, Nat.reduceAdd]
        apply Facts.Lex.exact [] (.int .u32 x1) (by kernel_rfl)
        · intro u W hC _
          unfold Facts.one
          go_simp
          first | exact ⟨Grew.refl _, rfl⟩ | rfl | (refine (H1.out W (HG.out.trans hC)).mono ?_; rintro e w' ⟨rfl, hg⟩; exact ⟨_, rfl, hg, rfl⟩)
        simp only [Act.put, List.setIfInBounds_toArray, List.set_cons_zero, List.set_cons_succ, Nat.zero_add, Nat.reduceAdd]
        apply Facts.Lex.exact [] _ (by kernel_rfl)
        · intro u W hC _
          unfold Facts.one
          go_simp
          first | exact ⟨Grew.refl _, rfl⟩ | rfl
        simp only [Act.put, List.setIfInBounds_toArray, List.set_cons_zero, List.set_cons_succ, Nat.zero_add, Nat.reduceAdd]
        apply Facts.Lex.exact [] _ (by kernel_rfl)
        · intro u W hC _
          unfold Facts.one
          go_simp
          first | exact ⟨Grew.refl _, rfl⟩ | rfl
        simp only [Act.put, List.setIfInBounds_toArray, List.set_cons_zero, List.set_cons_succ, Nat.zero_add, Nat.reduceAdd]
        apply Facts.Lex.exact [] (.slice B b.length cb) (by kernel_rfl)
        · intro u W hC _
          unfold Facts.one
          go_simp
          first | exact ⟨Grew.refl _, rfl⟩ | rfl | (rw [if_pos hcb]; exact ⟨Grew.refl _, rfl⟩)
        simp only [Act.put, List.setIfInBounds_toArray, List.set_cons_zero, List.set_cons_succ, Nat.zero_add, Nat.reduceAdd]
        apply Facts.Lex.exact [] (.int .u32 x2) (by kernel_rfl)
        · intro u W hC _
          unfold Facts.one
          go_simp
          first | exact ⟨Grew.refl _, rfl⟩ | rfl | (refine (H2.out W (HG.out.trans hC)).mono ?_; rintro e w' ⟨rfl, hg⟩; exact ⟨_, rfl, hg, rfl⟩)
        simp only [Act.put, List.setIfInBounds_toArray, List.set_cons_zero, List.set_cons_succ, Nat.zero_add, Nat.reduceAdd]
        apply Facts.Lex.exact [] (.int .u32 x12) (by kernel_rfl)
        · intro u W hC _
          unfold Facts.one
          go_simp
          first | exact ⟨Grew.refl _, rfl⟩ | rfl | exact ⟨Grew.refl _, by rw [HX12.out]⟩
        simp only [Act.put, List.setIfInBounds_toArray, List.set_cons_zero, List.set_cons_succ, Nat.zero_add, Nat.reduceAdd]
        apply Facts.Lex.exact [] _ (by kernel_rfl)
        · intro u W hC _
          unfold Facts.one
          go_simp
          first | exact ⟨Grew.refl _, rfl⟩ | rfl
        simp only [Act.put, List.setIfInBounds_toArray, List.set_cons_zero, List.set_cons_succ, Nat.zero_add, Nat.reduceAdd]
        apply Facts.Lex.exact [] (.int .u32 x3) (by kernel_rfl)
        · intro u W hC _
          unfold Facts.one
          go_simp
          first | exact ⟨Grew.refl _, rfl⟩ | rfl | (refine (H3.out W hC).mono ?_; rintro e w' ⟨rfl, hg⟩; exact ⟨_, rfl, hg, rfl⟩)
        simp only [Act.put, List.setIfInBounds_toArray, List.set_cons_zero, List.set_cons_succ, Nat.zero_add, Nat.reduceAdd]
        apply Facts.Lex.exact [] (.int .u32 x123) (by kernel_rfl)
        · intro u W hC _
          unfold Facts.one
          go_simp
          first | exact ⟨Grew.refl _, rfl⟩ | rfl | exact ⟨Grew.refl _, by rw [HX123.out]⟩
        simp only [Act.put, List.setIfInBounds_toArray, List.set_cons_zero, List.set_cons_succ, Nat.zero_add, Nat.reduceAdd]
        apply Facts.Lex.exact [] _ (by kernel_rfl)
        · intro u W hC _
          unfold Facts.one
          go_simp
          first | exact ⟨Grew.refl _, rfl⟩ | rfl
        simp only [Act.put, List.setIfInBounds_toArray, List.set_cons_zero, List.set_cons_succ, Nat.zero_add, Nat.reduceAdd]
        refine Facts.Lex.know [] (fun x w => Rd (fun _ => True) w x (List.replicate b.length 0)) (by kernel_rfl) (fun _ _ _ h hg => h.grew hg) ?_ ?_
        · intro u W hC _
          unfold Facts.one
          have hm := HMK.out W
          go_simp
          exact ⟨by unfold Grew; go_grown, made_rd W b.length HN.out⟩
        simp only [Act.put, List.setIfInBounds_toArray, List.set_cons_zero, List.set_cons_succ, Nat.zero_add, Nat.reduceAdd]
        apply Facts.Lex.exact [15] (.int .u32 x4) (by kernel_rfl)
        · intro u W hC hK
          unfold Facts.one
          go_simp
          refine (H4.out W _ hK.1).mono ?_
          rintro e w' ⟨rfl, hg⟩
          exact ⟨_, rfl, hg, rfl⟩
        simp only [Act.put, List.setIfInBounds_toArray, List.set_cons_zero, List.set_cons_succ, Nat.zero_add, Nat.reduceAdd]
        apply Facts.Lex.exact [] (.int .u32 0) (by kernel_rfl)
        · intro u W hC _
          unfold Facts.one
          go_simp
          first | exact ⟨Grew.refl _, rfl⟩ | rfl | exact ⟨Grew.refl _, by rw [HX0.out]⟩
        simp only [Act.put, List.setIfInBounds_toArray, List.set_cons_zero, List.set_cons_succ, Nat.zero_add, Nat.reduceAdd]
        apply Facts.Lex.exact [] (.bool true) (by kernel_rfl)
        · intro u W hC _
          unfold Facts.one
          go_simp
          first | exact ⟨Grew.refl _, rfl⟩ | rfl | exact ⟨Grew.refl _, by simp⟩
        simp only [Act.put, List.setIfInBounds_toArray, List.set_cons_zero, List.set_cons_succ, Nat.zero_add, Nat.reduceAdd]
        apply Facts.Lex.exact [] _ (by kernel_rfl)
        · intro u W hC _
          unfold Facts.one
          go_simp
          first | exact ⟨Grew.refl _, rfl⟩ | rfl
        simp only [Act.put, List.setIfInBounds_toArray, List.set_cons_zero, List.set_cons_succ, Nat.zero_add, Nat.reduceAdd]
        apply Facts.Lex.exact [] _ (by kernel_rfl)
        · intro u W hC _
          unfold Facts.one
          go_simp
          first | exact ⟨Grew.refl _, rfl⟩ | rfl
        simp only [Act.put, List.setIfInBounds_toArray, List.set_cons_zero, List.set_cons_succ, Nat.zero_add, Nat.reduceAdd]
        refine Facts.Lex.done fun u W3 hC hL => ?_
        have GE := HG.out.trans hC
        clear hL hC
        go_wp2
        all_goals go_returns
        all_goals exact ⟨rfl, GE⟩
      | succ g =>
        have hkz : (k : Int) < (b.length : Int) := by omega
        obtain ⟨ad, c1, e, hcc, hcell⟩ := (HA.out.grew HG.out).cell (k := k) (by omega)
        injection e with e1 _ e3
        subst e1 e3
        obtain ⟨bd, c2, e, hcd, hdell⟩ := (HBR.out.grew HG.out).cell (k := k) (by omega)
        injection e with e1 _ e3
        subst e1 e3
        have hrow : wr.cell? ⟨w.heap.size, k, none⟩ = some (.int .u8 0) := by
          rw [cell_of_row _ _ _ _ _ _ HB.out]
          exact row_at (xors a b) k (b.length - k) (by rw [xors_length, hnm]; omega) (by omega)
        have hfro : wr.frozen? ⟨w.heap.size, k, none⟩ = false := frozen_of_row _ _ _ _ _ HB.out
        have HS := Lib.hid (row_set a b k (b.length - k) (by omega) (by omega) (by omega))
        generalize hxa : a[k]?.getD 0 = xa at *
        generalize hxb : b[k]?.getD 0 = xb at *
        clear hxa hxb
        have hx1 := xa.toNat_lt
        have hx2 := xb.toNat_lt
        go_wp2
        go_region
        go_wp2
        go_roundg g
        case measure => omega
        case rel =>
          refine ⟨k + 1, by omega, by first | rfl | simp, ?_, Lib.hid ?_⟩
          · show (wr.setCell ⟨w.heap.size, k, none⟩ (.int .u8 (bits .xor .u8 (xa.toNat : Int) (xb.toNat : Int)))).heap[w.heap.size]? = _
            rw [heap_setCell_same _ _ _ _ _ _ HB.out, bits8, List.setIfInBounds_toArray, HS.out, Nat.sub_sub]
          · have hg := HG.out
            exact (Below.setCell (p := ⟨w.heap.size, k, none⟩) hg (Nat.le_refl _) _).drew

  · obtain rfl : n = a.length := by omega
    have hnm : min a.length b.length = a.length := by omega
    have hN : a.length ≤ 140737488355328 := hla
    clear hn hla
    have HN := Lib.hid hN
    have HMK : Hid (∀ u : World, (Instr.makeSlice 22 (.int .i64 (a.length : Int)) (.int .i64 (a.length : Int))).run Try.prog u = .ok (.slice (some ⟨u.heap.size, 0, none⟩) a.length a.length) (u.alloc (.cells (madeCells #[.int .u8 0] a.length) 5))) := Lib.hid (run_mk a.length hN)
    have hmk := HMK.out
    go_wp2
    clear hmk
    go_loopg [7] a.length (fun g s7 wx => ∃ k : Nat, k + g = a.length ∧ s7 = .int .i64 k ∧ Hid (wx.heap[w.heap.size]? = some (.cells (bv (((xors a b).take k) ++ List.replicate (a.length - k) 0)).toArray 5 (0, 0))) ∧ Hid (Grew w wx))
    case atStart =>
      refine ⟨0, by omega, rfl, ?_, Lib.hid (by unfold Grew; go_grown)⟩
      show _ = _
      rw [heap_alloc_new, made_cells]
      rfl
    case round =>
      obtain ⟨k, hkg, rfl, HB, HG⟩ := hrel
      cases gk with
      | zero =>
        have hkz : ¬ ((k : Int) < (a.length : Int)) := by omega
        obtain rfl : k = a.length := by omega
        have H3 : Hid (∀ W, Grew wr W → Calls Try.prog 8 #[.slice (some ⟨w.heap.size, 0, none⟩) a.length a.length] W fun e w' => e = .returned (.int .u32 x3) ∧ Grew W w') := Lib.hid fun W hg => by
          have hb := HB.out
          rw [Nat.sub_self, List.replicate_zero, List.append_nil, List.take_of_length_le (by rw [xors_length, hnm]; exact Nat.le_refl _)] at hb
          have := of_any _ _ (xors a b) W ((row_rd hb (by rw [xors_length, hnm]) HN.out).grew hg)
          rw [← HX3.out] at this
          exact this
        clear HB HX3
        go_wp2
        refine Facts.wp_region_text (by kernel_rfl) (by kernel_rfl) ?_
        apply Facts.Lex.exact [] (.bool true) (by kernel_rfl)
        · intro u W hC _
          unfold Facts.one
          go_simp
          first | exact ⟨Grew.refl _, rfl⟩ | rfl | (refine (alive_any W).mono ?_; rintro e w' ⟨rfl, hg⟩; exact ⟨_, rfl, hg, rfl⟩)
        simp only [Act.put, List.setIfInBounds_toArray, List.set_cons_zero, List.set_cons_succ, Nat.zero_add, Nat.reduceAdd]
        apply Facts.Lex.exact [] _ (by kernel_rfl)
        · intro u W hC _
          unfold Facts.one
          go_simp
          first | exact ⟨Grew.refl _, rfl⟩ | rfl
        simp only [Act.put, List.setIfInBounds_toArray, List.set_cons_zero, List.set_cons_succ, Nat.zero_add, Nat.reduceAdd]
        apply Facts.Lex.exact [] _ (by kernel_rfl)
        · intro u W hC _
          unfold Facts.one
          go_simp
          first | exact ⟨Grew.refl _, rfl⟩ | rfl
        simp only [Act.put, List.setIfInBounds_toArray, List.set_cons_zero, List.set_cons_succ, Nat.zero_add, Nat.reduceAdd]
        apply Facts.Lex.exact [] _ (by kernel_rfl)
        · intro u W hC _
          unfold Facts.one
          go_simp
          first | exact ⟨Grew.refl _, rfl⟩ | rfl
        simp only [Act.put, List.setIfInBounds_toArray, List.set_cons_zero, List.set_cons_succ, Nat.zero_add, Nat.reduceAdd]
        apply Facts.Lex.exact [] (.slice A a.length ca) (by kernel_rfl)
        · intro u W hC _
          unfold Facts.one
          go_simp
          first | exact ⟨Grew.refl _, rfl⟩ | rfl | (rw [if_pos hca]; exact ⟨Grew.refl _, rfl⟩)
        simp only [Act.put, List.setIfInBounds_toArray, List.set_cons_zero, List.set_cons_succ, Nat.zero_add, Nat.reduceAdd]
        apply Facts.Lex.exact [] (.int .u32 x1) (by kernel_rfl)
        · intro u W hC _
          unfold Facts.one
          go_simp
          first | exact ⟨Grew.refl _, rfl⟩ | rfl | (refine (H1.out W (HG.out.trans hC)).mono ?_; rintro e w' ⟨rfl, hg⟩; exact ⟨_, rfl, hg, rfl⟩)
        simp only [Act.put, List.setIfInBounds_toArray, List.set_cons_zero, List.set_cons_succ, Nat.zero_add, Nat.reduceAdd]
        apply Facts.Lex.exact [] _ (by kernel_rfl)
        · intro u W hC _
          unfold Facts.one
          go_simp
          first | exact ⟨Grew.refl _, rfl⟩ | rfl
        simp only [Act.put, List.setIfInBounds_toArray, List.set_cons_zero, List.set_cons_succ, Nat.zero_add, Nat.reduceAdd]
        apply Facts.Lex.exact [] _ (by kernel_rfl)
        · intro u W hC _
          unfold Facts.one
          go_simp
          first | exact ⟨Grew.refl _, rfl⟩ | rfl
        simp only [Act.put, List.setIfInBounds_toArray, List.set_cons_zero, List.set_cons_succ, Nat.zero_add, Nat.reduceAdd]
        apply Facts.Lex.exact [] (.slice B a.length cb) (by kernel_rfl)
        · intro u W hC _
          unfold Facts.one
          go_simp
          first | exact ⟨Grew.refl _, rfl⟩ | rfl | (rw [if_pos hcb]; exact ⟨Grew.refl _, rfl⟩)
        simp only [Act.put, List.setIfInBounds_toArray, List.set_cons_zero, List.set_cons_succ, Nat.zero_add, Nat.reduceAdd]
        apply Facts.Lex.exact [] (.int .u32 x2) (by kernel_rfl)
        · intro u W hC _
          unfold Facts.one
          go_simp
          first | exact ⟨Grew.refl _, rfl⟩ | rfl | (refine (H2.out W (HG.out.trans hC)).mono ?_; rintro e w' ⟨rfl, hg⟩; exact ⟨_, rfl, hg, rfl⟩)
        simp only [Act.put, List.setIfInBounds_toArray, List.set_cons_zero, List.set_cons_succ, Nat.zero_add, Nat.reduceAdd]
        apply Facts.Lex.exact [] (.int .u32 x12) (by kernel_rfl)
        · intro u W hC _
          unfold Facts.one
          go_simp
          first | exact ⟨Grew.refl _, rfl⟩ | rfl | exact ⟨Grew.refl _, by rw [HX12.out]⟩
        simp only [Act.put, List.setIfInBounds_toArray, List.set_cons_zero, List.set_cons_succ, Nat.zero_add, Nat.reduceAdd]
        apply Facts.Lex.exact [] _ (by kernel_rfl)
        · intro u W hC _
          unfold Facts.one
          go_simp
          first | exact ⟨Grew.refl _, rfl⟩ | rfl
        simp only [Act.put, List.setIfInBounds_toArray, List.set_cons_zero, List.set_cons_succ, Nat.zero_add, Nat.reduceAdd]
        apply Facts.Lex.exact [] (.int .u32 x3) (by kernel_rfl)
        · intro u W hC _
          unfold Facts.one
          go_simp
          first | exact ⟨Grew.refl _, rfl⟩ | rfl | (refine (H3.out W hC).mono ?_; rintro e w' ⟨rfl, hg⟩; exact ⟨_, rfl, hg, rfl⟩)
        simp only [Act.put, List.setIfInBounds_toArray, List.set_cons_zero, List.set_cons_succ, Nat.zero_add, Nat.reduceAdd]
        apply Facts.Lex.exact [] (.int .u32 x123) (by kernel_rfl)
        · intro u W hC _
          unfold Facts.one
          go_simp
          first | exact ⟨Grew.refl _, rfl⟩ | rfl | exact ⟨Grew.refl _, by rw [HX123.out]⟩
        simp only [Act.put, List.setIfInBounds_toArray, List.set_cons_zero, List.set_cons_succ, Nat.zero_add, Nat.reduceAdd]
        apply Facts.Lex.exact [] _ (by kernel_rfl)
        · intro u W hC _
          unfold Facts.one
          go_simp
          first | exact ⟨Grew.refl _, rfl⟩ | rfl
        simp only [Act.put, List.setIfInBounds_toArray, List.set_cons_zero, List.set_cons_succ, Nat.zero_add, Nat.reduceAdd]
        refine Facts.Lex.know [] (fun x w => Rd (fun _ => True) w x (List.replicate a.length 0)) (by kernel_rfl) (fun _ _ _ h hg => h.grew hg) ?_ ?_
        · intro u W hC _
          unfold Facts.one
          have hm := HMK.out W
          go_simp
          exact ⟨by unfold Grew; go_grown, made_rd W a.length HN.out⟩
        simp only [Act.put, List.setIfInBounds_toArray, List.set_cons_zero, List.set_cons_succ, Nat.zero_add, Nat.reduceAdd]
        apply Facts.Lex.exact [15] (.int .u32 x4) (by kernel_rfl)
        · intro u W hC hK
          unfold Facts.one
          go_simp
          refine (H4.out W _ hK.1).mono ?_
          rintro e w' ⟨rfl, hg⟩
          exact ⟨_, rfl, hg, rfl⟩
        simp only [Act.put, List.setIfInBounds_toArray, List.set_cons_zero, List.set_cons_succ, Nat.zero_add, Nat.reduceAdd]
        apply Facts.Lex.exact [] (.int .u32 0) (by kernel_rfl)
        · intro u W hC _
          unfold Facts.one
          go_simp
          first | exact ⟨Grew.refl _, rfl⟩ | rfl | exact ⟨Grew.refl _, by rw [HX0.out]⟩
        simp only [Act.put, List.setIfInBounds_toArray, List.set_cons_zero, List.set_cons_succ, Nat.zero_add, Nat.reduceAdd]
        apply Facts.Lex.exact [] (.bool true) (by kernel_rfl)
        · intro u W hC _
          unfold Facts.one
          go_simp
          first | exact ⟨Grew.refl _, rfl⟩ | rfl | exact ⟨Grew.refl _, by simp⟩
        simp only [Act.put, List.setIfInBounds_toArray, List.set_cons_zero, List.set_cons_succ, Nat.zero_add, Nat.reduceAdd]
        apply Facts.Lex.exact [] _ (by kernel_rfl)
        · intro u W hC _
          unfold Facts.one
          go_simp
          first | exact ⟨Grew.refl _, rfl⟩ | rfl
        simp only [Act.put, List.setIfInBounds_toArray, List.set_cons_zero, List.set_cons_succ, Nat.zero_add, Nat.reduceAdd]
        apply Facts.Lex.exact [] _ (by kernel_rfl)
        · intro u W hC _
          unfold Facts.one
          go_simp
          first | exact ⟨Grew.refl _, rfl⟩ | rfl
        simp only [Act.put, List.setIfInBounds_toArray, List.set_cons_zero, List.set_cons_succ, Nat.zero_add, Nat.reduceAdd]
        refine Facts.Lex.done fun u W3 hC hL => ?_
        have GE := HG.out.trans hC
        clear hL hC
        go_wp2
        all_goals go_returns
        all_goals exact ⟨rfl, GE⟩
      | succ g =>
        have hkz : (k : Int) < (a.length : Int) := by omega
        obtain ⟨ad, c1, e, hcc, hcell⟩ := (HA.out.grew HG.out).cell (k := k) (by omega)
        injection e with e1 _ e3
        subst e1 e3
        obtain ⟨bd, c2, e, hcd, hdell⟩ := (HBR.out.grew HG.out).cell (k := k) (by omega)
        injection e with e1 _ e3
        subst e1 e3
        have hrow : wr.cell? ⟨w.heap.size, k, none⟩ = some (.int .u8 0) := by
          rw [cell_of_row _ _ _ _ _ _ HB.out]
          exact row_at (xors a b) k (a.length - k) (by rw [xors_length, hnm]; omega) (by omega)
        have hfro : wr.frozen? ⟨w.heap.size, k, none⟩ = false := frozen_of_row _ _ _ _ _ HB.out
        have HS := Lib.hid (row_set a b k (a.length - k) (by omega) (by omega) (by omega))
        generalize hxa : a[k]?.getD 0 = xa at *
        generalize hxb : b[k]?.getD 0 = xb at *
        clear hxa hxb
        have hx1 := xa.toNat_lt
        have hx2 := xb.toNat_lt
        go_wp2
        go_region
        go_wp2
        go_roundg g
        case measure => omega
        case rel =>
          refine ⟨k + 1, by omega, by first | rfl | simp, ?_, Lib.hid ?_⟩
          · show (wr.setCell ⟨w.heap.size, k, none⟩ (.int .u8 (bits .xor .u8 (xa.toNat : Int) (xb.toNat : Int)))).heap[w.heap.size]? = _
            rw [heap_setCell_same _ _ _ _ _ _ HB.out, bits8, List.setIfInBounds_toArray, HS.out, Nat.sub_sub]
          · have hg := HG.out
            exact (Below.setCell (p := ⟨w.heap.size, k, none⟩) hg (Nat.le_refl _) _).drew

end Go.Proofs.Ytoeemilmjaihcaa.Even
