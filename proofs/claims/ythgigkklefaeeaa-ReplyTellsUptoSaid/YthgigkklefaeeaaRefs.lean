/-
  What the document's own numbers and texts behind bytes come to, walked.
  Conditions: the bytes are at most 2 to the 47 less 4096, as every slice that is read.
-/
import Derived.Test.YthgigkklefaeeaaPuts
namespace Go.Proofs.Ythgigkklefaeeaa.Refs
set_option maxRecDepth 100000
open Go Go.RowKit Go.Proofs.Ythgigkklefaeeaa Go.Proofs.Ythgigkklefaeeaa.Facts Go.Proofs.Ythgigkklefaeeaa.Bytes Go.Proofs.Ythgigkklefaeeaa.Puts

theorem size_any (n : Int) (w : World) : Calls Try.prog 52 #[.int .i64 n] w fun e w' => e = .returned (.int .i64 (width n : Int)) ∧ w = w' := by
  go_enter Try.func52, Try.ntmps52
  go_wp2
  all_goals
    go_ret
    exact ⟨ret_int (by unfold width; omega), rfl⟩
theorem size_at (n : Int) (K : Nat) (h : Hid (width n = K)) (w : World) : Calls Try.prog 52 #[.int .i64 n] w fun e w' => e = .returned (.int .i64 (K : Int)) ∧ w = w' := by
  have := h.out
  subst this
  exact size_any n w

/-- The bytes that stand behind while the last ones are laid. -/
def part (K n q : Nat) : List UInt8 := List.replicate q 0 ++ (be K n).drop q
theorem part_length (K n q : Nat) (h : q ≤ K) : (part K n q).length = K := by simp [part, be_length]; omega
theorem part_full (K n : Nat) : part K n 0 = be K n := by simp [part]
theorem part_start (K n : Nat) : part K n K = List.replicate K 0 := by
  unfold part
  rw [List.drop_of_length_le (by rw [be_length]; exact Nat.le_refl _), List.append_nil]
theorem part_set (K n q : Nat) (h : q < K) : (part K n (q + 1)).set q (byteAt n (K - 1 - q)) = part K n q := by
  unfold part
  have hd : (be K n).drop q = byteAt n (K - 1 - q) :: (be K n).drop (q + 1) := by
    rw [List.drop_eq_getElem_cons (by rw [be_length]; exact h)]
    simp [be]
  rw [hd, List.replicate_succ', List.append_assoc, List.set_append_right _ _ (by simp)]
  simp

theorem bv_set (l : List UInt8) (i : Nat) (b : UInt8) : (bv l).set i (.int .u8 (b.toNat : Int)) = bv (l.set i b) := by simp [bv, List.map_set]

theorem size5 : (Try.prog.info? 5).map (·.size) = some 1 := by kernel_rfl
theorem made_cells (n : Nat) : madeCells #[.int .u8 0] n = (bv (List.replicate n 0)).toArray := by
  apply Array.ext'
  rw [toList_madeCells_one]
  simp [bv]
theorem splice_start (l : List UInt8) (K n : Nat) : splice (bv (List.replicate (l.length + K) 0)) 0 (bv l) = bv (l ++ part K n K) := by
  rw [part_start, bv_append]
  simp [splice, bv]

theorem u64_small (m : Nat) (h : m < 18446744073709551616) : IntKind.u64.wrap (m : Int) = (m : Int) := by
  exact IntWalk.u64_in _ (by omega)

theorem num_any (S : Nat → Prop) (v : Value) (l : List UInt8) (n : Nat) (size : Int) (w : World) (h : Rd S w v l) (hl : l.length + 8 ≤ 140737488355328) (hn : n < 18446744073709551616) :
    Calls Try.prog 39 #[v, .int .u64 n, .int .i64 size] w fun e w' => ∃ v', e = .returned v' ∧ w'.ownsRow w.heap.size 5 1 v' (l.length + width size) (bv (l ++ be (width size) n)) ∧ Grew w w' := by
  have hw := width_pos size
  generalize hK : width size = K at *
  have HK := Lib.hid hK
  clear hK
  obtain ⟨A, c, rfl, h1, h2, h3, h4⟩ := id h
  clear h
  unfold maxLen at h2
  obtain ⟨i0, hi, hz0, hz1, hz2⟩ := info_parts info5
  have hmk : ∀ u : World, (Instr.makeSlice 23 (.int .i64 ((l.length : Int) + K)) (.int .i64 ((l.length : Int) + K))).run Try.prog u =
      .ok (.slice (some ⟨u.heap.size, 0, none⟩) (l.length + K) (l.length + K)) (u.alloc (.cells (madeCells #[.int .u8 0] (l.length + K)) 5)) := fun u => by
    have h := run_make (P := Try.prog) u 23 5 i0 (.int .u8 0) Try.underlying23 hi hz0 .i64 .i64 ((l.length : Int) + K) ((l.length : Int) + K) (by omega) (Int.le_refl _) (by rw [hz2]; omega) (by omega)
    have e : ((l.length : Int) + K).toNat = l.length + K := by omega
    rw [e] at h
    simpa [hz1, Value.cells] using h
  have H4 := Lib.hid h4
  have Hn := Lib.hid hn
  clear h4 hn
  go_enter Try.func39, Try.ntmps39
  go_wp2_with (first
    | (go_at_call 52; refine (size_at _ _ HK _).mono ?_; rintro e w' ⟨rfl, rfl⟩)
    | (with_reducible refine wpList_copy_splice rfl (.tmp 17) (.tmp 18) 23 23 rfl 5 Try.underlying23 size5 (some ⟨w.heap.size, 0, none⟩) A (l.length + K) (l.length + K) l.length c rfl rfl w.heap.size 0 (bv (List.replicate (l.length + K) 0)) 5 ?c0 (bv l) ?c1 ?c2 ?c3 (bv_one l) w.heap.size w ?c4 (Nat.le_refl _) ?_))
  case c0 => rw [heap_alloc_new, ← made_cells]
  case c1 => rw [bv_length]; exact (Nat.min_eq_left (by omega)).symm
  case c2 =>
    intro hp
    rw [bv_length] at hp
    cases A with
    | none => have := h3 rfl; omega
    | some ad => exact ⟨ad, rfl, cells_alloc (H4.out ad rfl).2 _⟩
  case c3 => simp [bv_length]
  case c4 => exact (Below.refl _ w).alloc (Nat.le_refl _) _
  intro w1 hw1 hb1
  rw [splice_start l K n] at hw1
  go_wp2
  go_loopw [1, 9] (fun nn i wr => ∃ q r : Nat, r + q = K ∧ i = .int .i64 ((l.length : Int) + q - 1) ∧ nn = .int .u64 ((n / 2 ^ (8 * r) : Nat) : Int) ∧
      Hid (wr.heap[w.heap.size]? = some (.cells (bv (l ++ part K n q)).toArray 5 (0, 0))) ∧ Below w.heap.size w wr) (fun _ i _ => (intOf i + 1 - l.length).toNat)
  case atStart => exact ⟨K, 0, by omega, rfl, by simp, hw1, hb1⟩
  case round =>
    obtain ⟨q, r, hrq, rfl, rfl, hblk, hb⟩ := hrel
    generalize hN : n / 2 ^ (8 * r) = N
    have HN := Lib.hid hN
    have HQ := Lib.hid hrq
    clear hN
    cases q with
    | zero =>
      clear hrq
      go_wp2
      go_ret
      refine ⟨_, rfl, ?_, hb⟩
      have hg := hblk.out
      rw [part_full] at hg
      refine ⟨by simp [bv_length, be_length], .inr ⟨w.heap.size, l.length + K, _, rfl, Nat.le_refl _, hg, Nat.le_refl _, by unfold maxLen; omega, by simp [bv_length, be_length], ?_⟩⟩
      exact List.take_of_length_le (by simp [bv_length, be_length])
    | succ q =>
      have e : (l.length : Int) + ((q + 1 : Nat) : Int) - 1 = (l.length : Int) + q := by omega
      rw [e]
      clear e
      have hq : q < K := by omega
      clear hrq
      have hpl := part_length K n (q + 1) (by omega)
      have hcell : wr.cell? ⟨w.heap.size, l.length + q, none⟩ = some (.int .u8 (((l ++ part K n (q + 1))[l.length + q]?.getD 0).toNat : Int)) := by
        rw [cell_of_row _ _ _ _ _ _ hblk.out, List.getElem?_toArray]
        exact bv_get _ _ (by rw [List.length_append, hpl]; omega)
      have hfro : wr.frozen? ⟨w.heap.size, l.length + q, none⟩ = false := frozen_of_row _ _ _ _ _ hblk.out
      clear hpl
      go_wp2
      go_roundw
      case rel =>
        have hN := HN.out
        have hQ := HQ.out
        have hn := Hn.out
        have hNn : N ≤ n := by rw [← hN]; exact Nat.div_le_self _ _
        have hw64 : IntKind.u64.wrap ((N : Int) / 256) = ((N / 256 : Nat) : Int) := by
          rw [show (N : Int) / 256 = ((N / 256 : Nat) : Int) from by simp]
          exact u64_small (N / 256) (by omega)
        have hr : N / 256 = n / 2 ^ (8 * (r + 1)) := by
          rw [← hN, Nat.div_div_eq_div_mul]
          congr 1
          rw [show 8 * (r + 1) = 8 * r + 8 from by omega, Nat.pow_add]
        have hbyte : ((N : Int) % 256) = ((byteAt n r).toNat : Int) := by
          rw [byteAt_toNat, ← hN]
          simp
        refine ⟨q, r + 1, by omega, rfl, by rw [hw64, hr], ?_, hb.setCell (p := ⟨w.heap.size, l.length + q, none⟩) (Nat.le_refl _) _⟩
        show _ = _
        rw [heap_setCell_same _ _ _ _ _ _ hblk.out, hbyte, List.setIfInBounds_toArray, bv_set, List.set_append_right _ _ (by omega), show l.length + q - l.length = q from by omega]
        rw [show r = K - 1 - q from by omega, part_set _ _ _ hq]
      case measure => simp [intOf]; omega

end Go.Proofs.Ythgigkklefaeeaa.Refs
