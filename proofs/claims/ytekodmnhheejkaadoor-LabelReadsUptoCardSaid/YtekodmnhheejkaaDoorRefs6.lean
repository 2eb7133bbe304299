/-
  The document's own bytes of a label, and the label of bytes.
  Conditions: none beyond those that each lemma names.
-/
import Derived.Test.YtekodmnhheejkaaDoorRefs5
namespace Go.Proofs.YtekodmnhheejkaaDoor.Refs6
open Go Go.RowKit Go.Proofs.YtekodmnhheejkaaDoor Go.Proofs.YtekodmnhheejkaaDoor.Facts Go.Proofs.YtekodmnhheejkaaDoor.Plain Go.Proofs.YtekodmnhheejkaaDoor.Bytes Go.Proofs.YtekodmnhheejkaaDoor.Form Go.Proofs.YtekodmnhheejkaaDoor.Text Go.Proofs.YtekodmnhheejkaaDoor.Refs Go.Proofs.YtekodmnhheejkaaDoor.BackPure Go.Proofs.YtekodmnhheejkaaDoor.BackLaw

set_option maxRecDepth 100000 in
theorem rbytes_in (v : Int) (c : BitVec 64) (w : World) (hv : may v = true) : Calls Tryd.prog 28 #[.agg #[.int .i64 v, .int .u64 (c.toNat : Int)]] w fun e W' => ∃ v', e = .returned v' ∧ W'.ownsRow w.heap.size 5 1 v' 9 (bv (UInt8.ofNat v.toNat :: be 8 c.toNat)) ∧ Grew w W' := by
  obtain ⟨h0, h4⟩ : 0 ≤ v ∧ v < 4 := by simpa [may] using hv
  obtain ⟨m, rfl⟩ := Int.eq_ofNat_of_zero_le h0
  have HRR : Hid (∀ W, Calls Tryd.prog 13 #[.agg #[.int .i64 (m : Int), .int .u64 (c.toNat : Int)]] W fun e w' => e = .returned (.bool true) ∧ Grew W w') := Lib.hid fun W => by
    have := rright_any (m : Int) c W
    rwa [hv] at this
  obtain ⟨i0, hi, hz0, hz1, hz2⟩ := info_parts info5
  have hmk : ∀ u : World, (Instr.makeSlice 37 (.int .i64 9) (.int .i64 9)).run Tryd.prog u =
      .ok (.slice (some ⟨u.heap.size, 0, none⟩) 9 9) (u.alloc (.cells (bv (List.replicate 9 0)).toArray 5)) := fun u => by
    have h := run_make (P := Tryd.prog) u 37 5 i0 (.int .u8 0) Tryd.underlying37 hi hz0 .i64 .i64 9 9 (by omega) (Int.le_refl _) (by rw [hz2]; omega) (by omega)
    rw [← made_cells]
    simpa [hz1, Value.cells] using h
  clear hv
  go_enter Tryd.func28, Tryd.ntmps28
  go_wp2_with fail
  refine (HRR.out _).mono ?_
  rintro e W1 ⟨rfl, hg1⟩
  have kb : W1.heap[w.heap.size]? = some (.cells #[.int .i64 (m : Int), .int .u64 (c.toNat : Int)] 24 (0, 0)) := (hg1.block w.heap.size (by simp)).trans (heap_alloc_new w _)
  have z1 : w.heap.size + 1 ≤ W1.heap.size := by have := hg1.size; simpa using this
  have hG : Grew w W1 := Grew.trans (b := w.alloc (Obj.cells #[Value.int IntKind.i64 (m : Int), Value.int IntKind.u64 (c.toNat : Int)] 24)) (by unfold Grew; go_grown) hg1
  clear hg1
  have k0 : ∀ o : Obj, (W1.alloc o).cell? ⟨w.heap.size, 0, none⟩ = some (.int .i64 (m : Int)) := fun o => (lab_cells (keepB kb (show Grew W1 (W1.alloc o) by unfold Grew; go_grown))).1
  have k1 : ∀ o : Obj, (W1.alloc o).cell? ⟨w.heap.size, 1, none⟩ = some (.int .u64 (c.toNat : Int)) := fun o => (lab_cells (keepB kb (show Grew W1 (W1.alloc o) by unfold Grew; go_grown))).2.1
  have ko := heap_alloc_new W1 (Obj.cells (bv [0, 0, 0, 0, 0, 0, 0, 0, 0]).toArray 5)
  have koc : (W1.alloc (Obj.cells (bv [0, 0, 0, 0, 0, 0, 0, 0, 0]).toArray 5)).cell? ⟨W1.heap.size, 0, none⟩ = some (.int .u8 0) := by
    rw [cell_of_row _ _ _ _ _ _ ko]
    rfl
  have kof : (W1.alloc (Obj.cells (bv [0, 0, 0, 0, 0, 0, 0, 0, 0]).toArray 5)).frozen? ⟨W1.heap.size, 0, none⟩ = false := frozen_of_row _ _ _ _ _ ko
  have hw8 : (m : Int) % 256 = m := by omega
  have hstart : (bv [0, 0, 0, 0, 0, 0, 0, 0, 0]).set 0 (.int .u8 (m : Int)) = bv (UInt8.ofNat m :: Form.part 8 c.toNat 8) := by
    rw [part_start]
    have e : ((UInt8.ofNat m).toNat : Int) = m := by rw [UInt8.toNat_ofNat']; omega
    show _ = bv (UInt8.ofNat m :: [0, 0, 0, 0, 0, 0, 0, 0])
    simp [bv]
    omega
  have hlt := c.isLt
  have hne : W1.heap.size ≠ w.heap.size := by omega
  have HB := Lib.hid hG
  clear ko koc kof
  have koc : ∀ cs : Array Value, ∀ x, cs[0]? = some x → (W1.alloc (Obj.cells cs 5)).cell? ⟨W1.heap.size, 0, none⟩ = some x := fun cs x h => by
    rw [cell_of_row _ _ _ _ _ _ (heap_alloc_new W1 _)]
    exact h
  have koc0 := koc (bv [0, 0, 0, 0, 0, 0, 0, 0, 0]).toArray (.int .u8 0) rfl
  have kof : (W1.alloc (Obj.cells (bv [0, 0, 0, 0, 0, 0, 0, 0, 0]).toArray 5)).frozen? ⟨W1.heap.size, 0, none⟩ = false := frozen_of_row _ _ _ _ _ (heap_alloc_new W1 _)
  clear koc
  go_wp2
  clear k0 k1 koc0 kof hstart
  go_loopw [4, 5] (fun n i wr => ∃ q r N : Nat, r + q = 8 ∧ i = .int .i64 (q : Int) ∧ n = .int .u64 (N : Int) ∧ N < 18446744073709551616 ∧ Hid (N = c.toNat / 2 ^ (8 * r)) ∧
      Hid (wr.heap[W1.heap.size]? = some (.cells (bv (UInt8.ofNat m :: Form.part 8 c.toNat q)).toArray 5 (0, 0))) ∧ Below w.heap.size w wr) (fun _ i _ => (intOf i).toNat)
  case atStart =>
    refine ⟨8, 0, c.toNat, rfl, rfl, rfl, hlt, ?_, ?_, ?_⟩
    · show _ = _
      simp
    · show _ = _
      exact heap_alloc_new W1 _
    · have h1 : Below w.heap.size w W1 := HB.out
      exact h1.alloc (by omega) _
  case round =>
    obtain ⟨q, r, N, hrq, rfl, rfl, hN64, HN, hO, hb⟩ := hrel
    cases q with
    | zero =>
      clear hrq
      go_wp2
      go_ret
      refine ⟨_, rfl, ?_, hb⟩
      have hg := hO.out
      rw [part_full] at hg
      exact ⟨by simp [bv_length, be_length], .inr ⟨W1.heap.size, 9, _, rfl, by omega, hg, Nat.le_refl _, by unfold maxLen; omega, by simp [bv_length, be_length], List.take_of_length_le (by simp [bv_length, be_length])⟩⟩
    | succ q =>
      have hq : q < 8 := by omega
      have HQ := Lib.hid hrq
      clear hrq
      have hpl := part_length 8 c.toNat (q + 1) (by omega)
      have hcell : wr.cell? ⟨W1.heap.size, q + 1, none⟩ = some (.int .u8 (((UInt8.ofNat m :: Form.part 8 c.toNat (q + 1))[q + 1]?.getD 0).toNat : Int)) := by
        rw [cell_of_row _ _ _ _ _ _ hO.out, List.getElem?_toArray]
        exact bv_get _ _ (by rw [List.length_cons, hpl]; omega)
      have hfro : wr.frozen? ⟨W1.heap.size, q + 1, none⟩ = false := frozen_of_row _ _ _ _ _ hO.out
      clear hpl
      go_wp2
      go_roundw
      case rel =>
        have hN := HN.out
        have hQ := HQ.out
        have hr : N / 256 = c.toNat / 2 ^ (8 * (r + 1)) := by
          rw [hN, Nat.div_div_eq_div_mul]
          congr 1
          rw [show 8 * (r + 1) = 8 * r + 8 from by omega, Nat.pow_add]
        have hbyte : ((N : Int) % 256) = ((byteAt c.toNat r).toNat : Int) := by
          rw [byteAt_toNat, hN]
          simp
        refine ⟨q, r + 1, N / 256, by omega, by first | rfl | (simp; done) | (simp; omega), by first | rfl | simp, by omega, ?_, ?_, ?_⟩
        · show _ = _
          exact hr
        · show _ = _
          rw [heap_setCell_same _ _ _ _ _ _ hO.out, hbyte, List.setIfInBounds_toArray, bv_set, List.set_cons_succ]
          rw [show r = 8 - 1 - q from by omega, part_set _ _ _ hq]
        · exact hb.setCell (p := ⟨W1.heap.size, q + 1, none⟩) (by show w.heap.size ≤ W1.heap.size; omega) _
      case measure => simp [intOf]

theorem rbytes_none (v : Int) (c : BitVec 64) (w : World) (hv : may v = false) : Calls Tryd.prog 28 #[.agg #[.int .i64 v, .int .u64 (c.toNat : Int)]] w fun e W' => e = .returned (.slice none 0 0) ∧ Grew w W' := by
  go_enter Tryd.func28, Tryd.ntmps28
  go_wp2_with fail
  refine (rright_any v c _).mono ?_
  rintro e W1 ⟨rfl, hg1⟩
  have hG : Grew w W1 := Grew.trans (b := w.alloc (Obj.cells #[Value.int IntKind.i64 v, Value.int IntKind.u64 (c.toNat : Int)] 24)) (by unfold Grew; go_grown) hg1
  clear hg1
  go_wp2
  go_returns
  exact ⟨rfl, hG⟩

theorem rbytes_any (v : Int) (c : BitVec 64) (w : World) :
    Calls Tryd.prog 28 #[.agg #[.int .i64 v, .int .u64 (c.toNat : Int)]] w fun e W' => ∃ v', e = .returned v' ∧ Rd (fun _ => True) W' v' (form v c) ∧ Grew w W' := by
  unfold form
  by_cases hv : may v = true
  · rw [if_pos hv]
    refine (rbytes_in v c w hv).mono ?_
    rintro e W' ⟨v', rfl, ho, hg⟩
    exact ⟨v', rfl, (Rd.of_own ho (by simp [be_length])).mono fun _ _ => trivial, hg⟩
  · rw [if_neg hv]
    refine (rbytes_none v c w (by simpa using hv)).mono ?_
    rintro e W' ⟨rfl, hg⟩
    exact ⟨_, rfl, Rd.nil _ _, hg⟩

theorem step_add (c : BitVec 64) (b : UInt8) : IntKind.u64.wrap (((c <<< 8).toNat : Int) + (b.toNat : Int)) = ((Form.step c b).toNat : Int) := by
  have e : (c <<< 8) &&& BitVec.ofNat 64 b.toNat = 0#64 := by
    apply BitVec.eq_of_getLsbD_eq
    intro i hi
    rw [BitVec.getLsbD_and, BitVec.getLsbD_shiftLeft, BitVec.getLsbD_zero, BitVec.getLsbD_ofNat]
    by_cases h : i < 8
    · simp [h]
    · have hb : b.toNat.testBit i = false := by
        apply Nat.testBit_lt_two_pow
        have h1 := b.toNat_lt
        have h2 : 2 ^ 8 ≤ 2 ^ i := Nat.pow_le_pow_right (by omega) (by omega)
        omega
      simp [hb]
  unfold Form.step
  rw [← BitVec.add_eq_or_of_and_eq_zero _ _ e, BitVec.toNat_add, IntKind.wrap_u64, BitVec.toNat_ofNat]
  have h1 := b.toNat_lt
  generalize (c <<< 8).toNat = x
  omega
theorem val_take (t : List UInt8) (k : Nat) (hk : k < t.length) : val (t.take (k + 1)) = Form.step (val (t.take k)) (t[k]'hk) := by
  unfold val
  rw [List.take_add_one, List.getElem?_eq_getElem hk, Option.toList_some, List.foldl_append]
  rfl

set_option maxRecDepth 100000 in
theorem rread_short (v : Value) (l : List UInt8) (w : World) (h : Rd (fun _ => True) w v l) (hl : l.length < 9) : Calls Tryd.prog 24 #[v] w fun e W' => e = .returned (.tuple #[.agg #[.int .i64 0, .int .u64 0], .int .i64 12]) ∧ Grew w W' := by
  obtain ⟨A, cp, rfl, h1, h2, h3, h4⟩ := h
  have hd : decide ((l.length : Int) < 9) = true := by simp; omega
  clear h4
  go_enter Tryd.func24, Tryd.ntmps24
  go_wp2
  go_returns
  exact ⟨rfl, by unfold Grew; go_grown⟩
set_option maxRecDepth 100000 in
theorem rread_long (v : Value) (l : List UInt8) (w : World) (h : Rd (fun _ => True) w v l) (hl : 9 < l.length) : Calls Tryd.prog 24 #[v] w fun e W' => e = .returned (.tuple #[.agg #[.int .i64 0, .int .u64 0], .int .i64 13]) ∧ Grew w W' := by
  obtain ⟨A, cp, rfl, h1, h2, h3, h4⟩ := h
  have hd : decide ((l.length : Int) < 9) = false := by simp; omega
  have hd2 : decide ((9 : Int) < (l.length : Int)) = true := by simp; omega
  clear h4
  go_enter Tryd.func24, Tryd.ntmps24
  go_wp2
  go_returns
  exact ⟨rfl, by unfold Grew; go_grown⟩

set_option maxRecDepth 100000 in
theorem rread_nine (v : Value) (x : UInt8) (t : List UInt8) (w : World) (h : Rd (fun _ => True) w v (x :: t)) (hl : t.length = 8) : Calls Tryd.prog 24 #[v] w fun e W' =>
    e = .returned (if may (x.toNat : Int) = true then .tuple #[.agg #[.int .i64 (x.toNat : Int), .int .u64 ((val t).toNat : Int)], .int .i64 0] else .tuple #[.agg #[.int .i64 0, .int .u64 0], .int .i64 2]) ∧ Grew w W' := by
  obtain ⟨A, cp, rfl, h1, h2, h3, h4⟩ := id h
  obtain ⟨ad, rfl⟩ : ∃ ad, A = some ad := by
    cases A with
    | none => have := h3 rfl; simp [hl] at h1; omega
    | some ad => exact ⟨ad, rfl⟩
  have H4 := Lib.hid (h4 ad rfl).2
  have h9 : (x :: t).length = 9 := by simp [hl]
  rw [h9] at h1 ⊢
  have HL := Lib.hid hl
  clear h4 h h9 hl
  have hxb := x.toNat_lt
  have g0 : Grew w (w.alloc (Obj.cells #[Value.int IntKind.i64 0, Value.int IntKind.u64 0] 24)) := by unfold Grew; go_grown
  have R0 : Hid ((w.alloc (Obj.cells #[Value.int IntKind.i64 0, Value.int IntKind.u64 0] 24)).heap[w.heap.size]? = some (.cells #[.int .i64 0, .int .u64 0] 24 (0, 0))) := Lib.hid (heap_alloc_new w _)
  have HCL : Hid (∀ k, k < 9 → (w.alloc (Obj.cells #[Value.int IntKind.i64 0, Value.int IntKind.u64 0] 24)).cell? (ad.add k) = some (.int .u8 (((x :: t)[k]?.getD 0).toNat : Int))) := Lib.hid fun k hk =>
    cellB g0 (H4.out k _ (bv_get _ k (by simp [HL.out]; omega)))
  have G0 := Lib.hid g0
  clear g0
  have HC0 : Hid ((w.alloc (Obj.cells #[Value.int IntKind.i64 0, Value.int IntKind.u64 0] 24)).cell? ad = some (.int .u8 (x.toNat : Int))) := Lib.hid (by
    have := HCL.out 0 (by omega)
    simpa [Addr.add] using this)
  cases hm : may (x.toNat : Int) with
  | true =>
    have HR3 : Hid (∀ (n : BitVec 64) W, Calls Tryd.prog 13 #[.agg #[.int .i64 (x.toNat : Int), .int .u64 (n.toNat : Int)]] W fun e w' => e = .returned (.bool true) ∧ Grew W w') := Lib.hid fun n W => by
      have := rright_any (x.toNat : Int) n W
      rwa [hm] at this
    rw [if_pos rfl]
    generalize hvt : val t = vt at *
    have HVT0 := Lib.hid hvt
    clear hm hvt
    go_enter Tryd.func24, Tryd.ntmps24
    go_wp2
    go_loopg [4, 5] 8 (fun g s4 s5 wx => ∃ (k : Nat) (n : BitVec 64), k + g = 8 ∧ s5 = .int .i64 ((k : Int) + 1) ∧ s4 = .int .u64 (n.toNat : Int) ∧ Hid (n = val (t.take k)) ∧ wx = w.alloc (Obj.cells #[Value.int IntKind.i64 0, Value.int IntKind.u64 0] 24))
    case atStart => exact ⟨0, 0#64, by omega, by first | rfl | simp, rfl, Lib.hid rfl, rfl⟩
    case round =>
      obtain ⟨k, n, hkg, rfl, rfl, HN, rfl⟩ := hrel
      cases gk with
      | zero =>
        have hkz : ¬ ((k : Int) + 1 < 9) := by omega
        have HV : Hid (n = vt) := Lib.hid (by
          rw [HN.out, List.take_of_length_le (by have := HL.out; omega), HVT0.out])
        have hc0 := HC0.out
        have g1 : Grew (w.alloc (Obj.cells #[Value.int IntKind.i64 0, Value.int IntKind.u64 0] 24)) ((w.alloc (Obj.cells #[Value.int IntKind.i64 0, Value.int IntKind.u64 0] 24)).alloc (Obj.cells #[Value.int IntKind.i64 (x.toNat : Int), Value.int IntKind.u64 (n.toNat : Int)] 24)) := by unfold Grew; go_grown
        have R1 := Lib.hid (keepB R0.out g1)
        have A1 : Hid (((w.alloc (Obj.cells #[Value.int IntKind.i64 0, Value.int IntKind.u64 0] 24)).alloc (Obj.cells #[Value.int IntKind.i64 (x.toNat : Int), Value.int IntKind.u64 (n.toNat : Int)] 24)).heap[w.heap.size + 1]? = some (.cells #[.int .i64 (x.toNat : Int), .int .u64 (n.toNat : Int)] 24 (0, 0))) := Lib.hid (heap_alloc2_new w _ _)
        have G1 := Lib.hid (G0.out.trans g1)
        clear g1
        go_wp2_with fail
        refine (HR3.out n _).mono ?_
        rintro e w2 ⟨rfl, hg⟩
        have R2 := Lib.hid (keepB R1.out hg)
        have A2 := Lib.hid (keepB A1.out hg)
        have G2 := Lib.hid (G1.out.trans hg)
        clear hg
        obtain ⟨a0, a1, _, _⟩ := lab_cells A2.out
        obtain ⟨r0, r1, r2, r3⟩ := lab_cells R2.out
        obtain ⟨s0, s1, s2⟩ := lab_store R2.out
        have S0 := Lib.hid s0
        have S1 := Lib.hid s1
        clear s0 s1 s2
        go_wp2
        have s0 := S0.out
        have s1 := S1.out
        have hv := HV.out
        subst hv
        refine bodyPost_ret (by simp [results, Tryd.results24, go_sem, s0, s1]; try rfl) rfl ⟨rfl, ?_⟩
        exact ((show Below w.heap.size w w2 from G2.out).setCell (p := ⟨w.heap.size, 0, none⟩) (Nat.le_refl _) _).setCell (p := ⟨w.heap.size, 1, none⟩) (Nat.le_refl _) _
      | succ g =>
        have hkz : (k : Int) + 1 < 9 := by omega
        have hkt : k < t.length := by have := HL.out; omega
        have hcell := HCL.out (k + 1) (by omega)
        rw [List.getElem?_cons_succ, List.getElem?_eq_getElem hkt, Option.getD_some, show ad.add (k + 1) = ⟨ad.block, ad.off + (k + 1), none⟩ from rfl] at hcell
        have HVT := Lib.hid (val_take t k hkt)
        have HM := Lib.hid (shl_eight n)
        have HA := Lib.hid (step_add n (t[k]'hkt))
        have HST : Hid (Form.step n (t[k]'hkt) = val (t.take (k + 1))) := Lib.hid (by rw [HVT.out, HN.out])
        clear HVT
        generalize t[k]'hkt = b at hcell HA HST
        generalize Form.step n b = n2 at HA HST
        generalize n <<< 8 = n8 at HM HA
        have hb := b.toNat_lt
        have hm := HM.out
        have ha := HA.out
        clear hkt
        go_wp2
        go_roundg g
        case measure => omega
        case rel => exact ⟨k + 1, n2, by omega, by first | rfl | simp, by first | rfl | simp, HST, rfl⟩
  | false =>
    have HR3 : Hid (∀ (n : BitVec 64) W, Calls Tryd.prog 13 #[.agg #[.int .i64 (x.toNat : Int), .int .u64 (n.toNat : Int)]] W fun e w' => e = .returned (.bool false) ∧ Grew W w') := Lib.hid fun n W => by
      have := rright_any (x.toNat : Int) n W
      rwa [hm] at this
    rw [if_neg (by simp)]
    generalize hvt : val t = vt at *
    have HVT0 := Lib.hid hvt
    clear hm hvt
    go_enter Tryd.func24, Tryd.ntmps24
    go_wp2
    go_loopg [4, 5] 8 (fun g s4 s5 wx => ∃ (k : Nat) (n : BitVec 64), k + g = 8 ∧ s5 = .int .i64 ((k : Int) + 1) ∧ s4 = .int .u64 (n.toNat : Int) ∧ Hid (n = val (t.take k)) ∧ wx = w.alloc (Obj.cells #[Value.int IntKind.i64 0, Value.int IntKind.u64 0] 24))
    case atStart => exact ⟨0, 0#64, by omega, by first | rfl | simp, rfl, Lib.hid rfl, rfl⟩
    case round =>
      obtain ⟨k, n, hkg, rfl, rfl, HN, rfl⟩ := hrel
      cases gk with
      | zero =>
        have hkz : ¬ ((k : Int) + 1 < 9) := by omega
        have HV : Hid (n = vt) := Lib.hid (by
          rw [HN.out, List.take_of_length_le (by have := HL.out; omega), HVT0.out])
        have hc0 := HC0.out
        have g1 : Grew (w.alloc (Obj.cells #[Value.int IntKind.i64 0, Value.int IntKind.u64 0] 24)) ((w.alloc (Obj.cells #[Value.int IntKind.i64 0, Value.int IntKind.u64 0] 24)).alloc (Obj.cells #[Value.int IntKind.i64 (x.toNat : Int), Value.int IntKind.u64 (n.toNat : Int)] 24)) := by unfold Grew; go_grown
        have R1 := Lib.hid (keepB R0.out g1)
        have A1 : Hid (((w.alloc (Obj.cells #[Value.int IntKind.i64 0, Value.int IntKind.u64 0] 24)).alloc (Obj.cells #[Value.int IntKind.i64 (x.toNat : Int), Value.int IntKind.u64 (n.toNat : Int)] 24)).heap[w.heap.size + 1]? = some (.cells #[.int .i64 (x.toNat : Int), .int .u64 (n.toNat : Int)] 24 (0, 0))) := Lib.hid (heap_alloc2_new w _ _)
        have G1 := Lib.hid (G0.out.trans g1)
        clear g1
        go_wp2_with fail
        refine (HR3.out n _).mono ?_
        rintro e w2 ⟨rfl, hg⟩
        have R2 := Lib.hid (keepB R1.out hg)
        have A2 := Lib.hid (keepB A1.out hg)
        have G2 := Lib.hid (G1.out.trans hg)
        clear hg
        obtain ⟨a0, a1, _, _⟩ := lab_cells A2.out
        obtain ⟨r0, r1, r2, r3⟩ := lab_cells R2.out
        obtain ⟨s0, s1, s2⟩ := lab_store R2.out
        have S0 := Lib.hid s0
        have S1 := Lib.hid s1
        clear s0 s1 s2
        go_wp2
        have s0 := S0.out
        have s1 := S1.out
        have hv := HV.out
        subst hv
        refine bodyPost_ret (by simp [results, Tryd.results24, go_sem, s0, s1]; try rfl) rfl ⟨rfl, ?_⟩
        exact ((show Below w.heap.size w w2 from G2.out).setCell (p := ⟨w.heap.size, 0, none⟩) (Nat.le_refl _) _).setCell (p := ⟨w.heap.size, 1, none⟩) (Nat.le_refl _) _
      | succ g =>
        have hkz : (k : Int) + 1 < 9 := by omega
        have hkt : k < t.length := by have := HL.out; omega
        have hcell := HCL.out (k + 1) (by omega)
        rw [List.getElem?_cons_succ, List.getElem?_eq_getElem hkt, Option.getD_some, show ad.add (k + 1) = ⟨ad.block, ad.off + (k + 1), none⟩ from rfl] at hcell
        have HVT := Lib.hid (val_take t k hkt)
        have HM := Lib.hid (shl_eight n)
        have HA := Lib.hid (step_add n (t[k]'hkt))
        have HST : Hid (Form.step n (t[k]'hkt) = val (t.take (k + 1))) := Lib.hid (by rw [HVT.out, HN.out])
        clear HVT
        generalize t[k]'hkt = b at hcell HA HST
        generalize Form.step n b = n2 at HA HST
        generalize n <<< 8 = n8 at HM HA
        have hb := b.toNat_lt
        have hm := HM.out
        have ha := HA.out
        clear hkt
        go_wp2
        go_roundg g
        case measure => omega
        case rel => exact ⟨k + 1, n2, by omega, by first | rfl | simp, by first | rfl | simp, HST, rfl⟩

theorem rread_any (v : Value) (t : List UInt8) (w : World) (h : Rd (fun _ => True) w v t) : Calls Tryd.prog 24 #[v] w fun e W' => e = .returned (.tuple #[.agg #[.int .i64 (rdV t), .int .u64 ((rdC t).toNat : Int)], .int .i64 (rdE t)]) ∧ Grew w W' := by
  unfold rdV rdC rdE
  by_cases h1 : t.length < 9
  · have hk : rdOk t = false := by unfold rdOk; rw [decide_eq_false (by omega)]; rfl
    rw [hk, if_neg (by simp), if_neg (by simp), if_neg (by simp), if_pos h1]
    exact rread_short v t w h h1
  · by_cases h2 : 9 < t.length
    · have hk : rdOk t = false := by unfold rdOk; rw [decide_eq_false (by omega)]; rfl
      rw [hk, if_neg (by simp), if_neg (by simp), if_neg (by simp), if_neg h1, if_pos h2]
      exact rread_long v t w h h2
    · match t, h, h1, h2 with
      | x :: r, h, h1, h2 =>
        simp only [List.length_cons] at h1 h2
        have hn := rread_nine v x r w h (by omega)
        have hk : rdOk (x :: r) = may (x.toNat : Int) := by
          unfold rdOk
          rw [decide_eq_true (by simp only [List.length_cons]; omega), Bool.true_and]
          rfl
        rw [hk, if_neg (show ¬ (x :: r).length < 9 by simp only [List.length_cons]; omega), if_neg (show ¬ 9 < (x :: r).length by simp only [List.length_cons]; omega)]
        cases hm : may (x.toNat : Int) with
        | true =>
          rw [hm, if_pos rfl] at hn
          exact hn
        | false =>
          rw [hm, if_neg (by simp)] at hn
          exact hn
end Go.Proofs.YtekodmnhheejkaaDoor.Refs6
