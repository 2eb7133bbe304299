/-
  What the document's own numbers and texts behind bytes come to, walked.
  Conditions: the bytes are at most 2 to the 47 less 4096, as every slice that is read.
-/
import Derived.Test.YtmegdgeiikhflaaGreatPuts
namespace Go.Proofs.YtmegdgeiikhflaaGreat.Refs
set_option maxRecDepth 100000
set_option maxRecDepth 100000
open Go Go.RowKit Go.Proofs.YtmegdgeiikhflaaGreat Go.Proofs.YtmegdgeiikhflaaGreat.Facts Go.Proofs.YtmegdgeiikhflaaGreat.Bytes Go.Proofs.YtmegdgeiikhflaaGreat.Puts

theorem size_at (n : Int) (K : Nat) (h : Hid (width n = K)) (w : World) : Calls Tryz.prog 142 #[.int .i64 n] w fun e w' => e = .returned (.int .i64 (K : Int)) ∧ w = w' := by
  have := h.out
  subst this
  exact size_any n w

/-- The bytes that stand behind while the last ones are laid. -/
def part (K n q : Nat) : List UInt8 := List.replicate q 0 ++ (be K n).drop q
theorem part_length (K n q : Nat) (h : q ≤ K) : (part K n q).length = K := by simp [part, be_length]; omega
theorem part_full (K n : Nat) : part K n 0 = be K n := by simp [part]
theorem part_start (K n : Nat) : part K n K = List.replicate K 0 := by
  unfold part
  rw [List.drop_of_length_le (by rw [be_length]; exact Nat.le_refl _), List.append_nil]
theorem part_set (K n q : Nat) (h : q < K) : (part K n (q + 1)).set q (byteAt n (K - 1 - q)) = part K n q := by
  unfold part
  have hd : (be K n).drop q = byteAt n (K - 1 - q) :: (be K n).drop (q + 1) := by
    rw [List.drop_eq_getElem_cons (by rw [be_length]; exact h)]
    simp [be]
  rw [hd, List.replicate_succ', List.append_assoc, List.set_append_right _ _ (by simp)]
  simp

theorem bv_set (l : List UInt8) (i : Nat) (b : UInt8) : (bv l).set i (.int .u8 (b.toNat : Int)) = bv (l.set i b) := by simp [bv, List.map_set]

theorem size5 : (Tryz.prog.info? 5).map (·.size) = some 1 := by kernel_rfl
theorem made_cells (n : Nat) : madeCells #[.int .u8 0] n = (bv (List.replicate n 0)).toArray := by
  apply Array.ext'
  rw [toList_madeCells_one]
  simp [bv]
theorem splice_start (l : List UInt8) (K n : Nat) : splice (bv (List.replicate (l.length + K) 0)) 0 (bv l) = bv (l ++ part K n K) := by
  rw [part_start, bv_append]
  simp [splice, bv]

theorem u64_small (m : Nat) (h : m < 18446744073709551616) : IntKind.u64.wrap (m : Int) = (m : Int) := by
  exact IntWalk.u64_in _ (by omega)

theorem num_any (S : Nat → Prop) (v : Value) (l : List UInt8) (n : Nat) (size : Int) (w : World) (h : Rd S w v l) (hl : l.length + 8 ≤ 140737488355328) (hn : n < 18446744073709551616) :
    Calls Tryz.prog 95 #[v, .int .u64 n, .int .i64 size] w fun e w' => ∃ v', e = .returned v' ∧ w'.ownsRow w.heap.size 5 1 v' (l.length + width size) (bv (l ++ be (width size) n)) ∧ Grew w w' := by
  have hw := width_pos size
  generalize hK : width size = K at *
  have HK := Lib.hid hK
  clear hK
  obtain ⟨A, c, rfl, h1, h2, h3, h4⟩ := id h
  clear h
  unfold maxLen at h2
  obtain ⟨i0, hi, hz0, hz1, hz2⟩ := info_parts info5
  have hmk : ∀ u : World, (Instr.makeSlice 41 (.int .i64 ((l.length : Int) + K)) (.int .i64 ((l.length : Int) + K))).run Tryz.prog u =
      .ok (.slice (some ⟨u.heap.size, 0, none⟩) (l.length + K) (l.length + K)) (u.alloc (.cells (madeCells #[.int .u8 0] (l.length + K)) 5)) := fun u => by
    have h := run_make (P := Tryz.prog) u 41 5 i0 (.int .u8 0) Tryz.underlying41 hi hz0 .i64 .i64 ((l.length : Int) + K) ((l.length : Int) + K) (by omega) (Int.le_refl _) (by rw [hz2]; omega) (by omega)
    have e : ((l.length : Int) + K).toNat = l.length + K := by omega
    rw [e] at h
    simpa [hz1, Value.cells] using h
  have H4 := Lib.hid h4
  have Hn := Lib.hid hn
  clear h4 hn
  go_enter Tryz.func95, Tryz.ntmps95
  go_wp2_with (first
    | (go_at_call 142; refine (size_at _ _ HK _).mono ?_; rintro e w' ⟨rfl, rfl⟩)
    | (with_reducible refine wpList_copy_splice rfl (.tmp 17) (.tmp 18) 41 41 rfl 5 Tryz.underlying41 size5 (some ⟨w.heap.size, 0, none⟩) A (l.length + K) (l.length + K) l.length c rfl rfl w.heap.size 0 (bv (List.replicate (l.length + K) 0)) 5 ?c0 (bv l) ?c1 ?c2 ?c3 (bv_one l) w.heap.size w ?c4 (Nat.le_refl _) ?_))
  case c0 => rw [heap_alloc_new, ← made_cells]
  case c1 => rw [bv_length]; exact (Nat.min_eq_left (by omega)).symm
  case c2 =>
    intro hp
    rw [bv_length] at hp
    cases A with
    | none => have := h3 rfl; omega
    | some ad => exact ⟨ad, rfl, cells_alloc (H4.out ad rfl).2 _⟩
  case c3 => simp [bv_length]
  case c4 => exact (Below.refl _ w).alloc (Nat.le_refl _) _
  intro w1 hw1 hb1
  rw [splice_start l K n] at hw1
  go_wp2
  go_loopw [1, 9] (fun nn i wr => ∃ q r : Nat, r + q = K ∧ i = .int .i64 ((l.length : Int) + q - 1) ∧ nn = .int .u64 ((n / 2 ^ (8 * r) : Nat) : Int) ∧
      Hid (wr.heap[w.heap.size]? = some (.cells (bv (l ++ part K n q)).toArray 5 (0, 0))) ∧ Below w.heap.size w wr) (fun _ i _ => (intOf i + 1 - l.length).toNat)
  case atStart => exact ⟨K, 0, by omega, rfl, by simp, hw1, hb1⟩
  case round =>
    obtain ⟨q, r, hrq, rfl, rfl, hblk, hb⟩ := hrel
    generalize hN : n / 2 ^ (8 * r) = N
    have HN := Lib.hid hN
    have HQ := Lib.hid hrq
    clear hN
    cases q with
    | zero =>
      clear hrq
      go_wp2
      go_ret
      refine ⟨_, rfl, ?_, hb⟩
      have hg := hblk.out
      rw [part_full] at hg
      refine ⟨by simp [bv_length, be_length], .inr ⟨w.heap.size, l.length + K, _, rfl, Nat.le_refl _, hg, Nat.le_refl _, by unfold maxLen; omega, by simp [bv_length, be_length], ?_⟩⟩
      exact List.take_of_length_le (by simp [bv_length, be_length])
    | succ q =>
      have e : (l.length : Int) + ((q + 1 : Nat) : Int) - 1 = (l.length : Int) + q := by omega
      rw [e]
      clear e
      have hq : q < K := by omega
      clear hrq
      have hpl := part_length K n (q + 1) (by omega)
      have hcell : wr.cell? ⟨w.heap.size, l.length + q, none⟩ = some (.int .u8 (((l ++ part K n (q + 1))[l.length + q]?.getD 0).toNat : Int)) := by
        rw [cell_of_row _ _ _ _ _ _ hblk.out, List.getElem?_toArray]
        exact bv_get _ _ (by rw [List.length_append, hpl]; omega)
      have hfro : wr.frozen? ⟨w.heap.size, l.length + q, none⟩ = false := frozen_of_row _ _ _ _ _ hblk.out
      clear hpl
      go_wp2
      go_roundw
      case rel =>
        have hN := HN.out
        have hQ := HQ.out
        have hn := Hn.out
        have hNn : N ≤ n := by rw [← hN]; exact Nat.div_le_self _ _
        have hw64 : IntKind.u64.wrap ((N : Int) / 256) = ((N / 256 : Nat) : Int) := by
          rw [show (N : Int) / 256 = ((N / 256 : Nat) : Int) from by simp]
          exact u64_small (N / 256) (by omega)
        have hr : N / 256 = n / 2 ^ (8 * (r + 1)) := by
          rw [← hN, Nat.div_div_eq_div_mul]
          congr 1
          rw [show 8 * (r + 1) = 8 * r + 8 from by omega, Nat.pow_add]
        have hbyte : ((N : Int) % 256) = ((byteAt n r).toNat : Int) := by
          rw [byteAt_toNat, ← hN]
          simp
        refine ⟨q, r + 1, by omega, rfl, by rw [hw64, hr], ?_, hb.setCell (p := ⟨w.heap.size, l.length + q, none⟩) (Nat.le_refl _) _⟩
        show _ = _
        rw [heap_setCell_same _ _ _ _ _ _ hblk.out, hbyte, List.setIfInBounds_toArray, bv_set, List.set_append_right _ _ (by omega), show l.length + q - l.length = q from by omega]
        rw [show r = K - 1 - q from by omega, part_set _ _ _ hq]
      case measure => simp [intOf]; omega

theorem width_one : width 1 = 1 := by decide
theorem be_one (n : Nat) : be 1 n = [UInt8.ofNat n] := by simp [be, byteAt]
theorem size_toList (s : ByteArray) : s.data.toList.length = s.size := by rw [Array.length_toList]; rfl

theorem num_one (S : Nat → Prop) (v : Value) (l : List UInt8) (n : Nat) (w : World) (h : Hid (Rd S w v l)) (hl : l.length + 8 ≤ 140737488355328) (hn : n < 256) :
    Calls Tryz.prog 95 #[v, .int .u64 n, .int .i64 1] w fun e w' => ∃ v', e = .returned v' ∧ w'.ownsRow w.heap.size 5 1 v' (l.length + 1) (bv (l ++ [UInt8.ofNat n])) ∧ Grew w w' := by
  have := num_any S v l n 1 w h.out hl (by omega)
  rwa [width_one, be_one] at this

theorem text_shut {w : World} {base : Nat} {v : Value} {l : List UInt8} {s t : ByteArray} (ht : t.data.toList = s.data.toList.take 255)
    (h : w.ownsRow base 5 1 v (l.length + 1 + t.size) (bv (l ++ [UInt8.ofNat t.size]) ++ Lib.strCells t)) : w.ownsRow base 5 1 v (l.length + (tx s.data.toList).length) (bv (l ++ tx s.data.toList)) := by
  have hsz : t.size = min s.data.toList.length 255 := by
    rw [← size_toList t, ht, List.length_take, Nat.min_comm]
  have e1 : bv (l ++ tx s.data.toList) = bv (l ++ [UInt8.ofNat t.size]) ++ Lib.strCells t := by
    rw [strCells_eq, ht, ← bv_append, hsz]
    simp [tx]
  have e2 : l.length + (tx s.data.toList).length = l.length + 1 + t.size := by
    rw [tx_length, hsz]; omega
  rw [e1, e2]
  exact h

theorem text_any (S : Nat → Prop) (v : Value) (l : List UInt8) (s : ByteArray) (w : World) (h : Rd S w v l) (hl : l.length + 256 ≤ 140737488355328) (hs : s.size ≤ maxLen) :
    Calls Tryz.prog 94 #[v, .string s] w fun e w' => ∃ v', e = .returned v' ∧ w'.ownsRow w.heap.size 5 1 v' (l.length + (tx s.data.toList).length) (bv (l ++ tx s.data.toList)) ∧ Grew w w' := by
  unfold maxLen at hs
  obtain ⟨i0, hi, hz0, hz1, hz2⟩ := info_parts info5
  have hs2 := size_toList s
  have HR := Lib.hid h
  clear h
  by_cases h255 : 255 < s.size
  · have h' : (255 : Int) < (s.size : Int) := by omega
    have ht : (s.extract 0 255).data.toList = s.data.toList.take 255 := by
      rw [ByteArray.data_extract, Array.toList_extract, List.extract_eq_take_drop]
      simp
    have hz : (s.extract 0 255).size = min 255 s.size := by rw [ByteArray.size_extract]; omega
    have hm : min 255 s.size ≤ 255 := by omega
    have HT := Lib.hid ht
    have HZ := Lib.hid hz
    have hzl : (s.extract 0 255).size ≤ 255 := by omega
    clear ht hz hs2
    go_enter Tryz.func94, Tryz.ntmps94
    go_wp2_with fail
    refine (num_one S v l _ _ HR (by omega) (by omega)).mono ?_
    rintro e w1 ⟨v1, rfl, hown, hg1⟩
    have hsz := hg1.size
    go_wp2_with (at_builtin; refine Lib.wpList_append_own_string _ rfl (.tmp 16) (.tmp 17) 41 9 rfl w.heap.size 5 i0 Tryz.underlying41 Tryz.underlying9 hi hz0 hz1 hz2 v1 _ _ rfl hown (s.extract 0 255) rfl ?d1 ?d2 ?d3 ?_)
    case d1 => simp only [maxLen]; omega
    case d2 => omega
    case d3 => exact hsz
    intro v2 w2 hown2 hg2 _
    have hb2 : Grew w w2 := Below.grown hg1 hg2 hsz fun k hk => (hown.lt k hk).1
    go_wp2
    go_ret
    refine ⟨v2, rfl, ?_, hb2⟩
    refine text_shut HT.out ?_
    rw [HZ.out]
    exact hown2
  · have h' : ¬ ((255 : Int) < (s.size : Int)) := by omega
    have hd : decide ((255 : Int) < (s.size : Int)) = false := by simpa using h'
    have ht : s.data.toList = s.data.toList.take 255 := (List.take_of_length_le (by omega)).symm
    have HT := Lib.hid ht
    clear ht hs2
    go_enter Tryz.func94, Tryz.ntmps94
    go_wp2_with fail
    refine (num_one S v l _ _ HR (by omega) (by omega)).mono ?_
    rintro e w1 ⟨v1, rfl, hown, hg1⟩
    have hsz := hg1.size
    go_wp2_with (at_builtin; refine Lib.wpList_append_own_string _ rfl (.tmp 16) (.tmp 17) 41 9 rfl w.heap.size 5 i0 Tryz.underlying41 Tryz.underlying9 hi hz0 hz1 hz2 v1 _ _ rfl hown s rfl ?d1 ?d2 ?d3 ?_)
    case d1 => simp only [maxLen]; omega
    case d2 => omega
    case d3 => exact hsz
    intro v2 w2 hown2 hg2 _
    have hb2 : Grew w w2 := Below.grown hg1 hg2 hsz fun k hk => (hown.lt k hk).1
    go_wp2
    go_ret
    refine ⟨v2, rfl, ?_, hb2⟩
    exact text_shut HT.out hown2
end Go.Proofs.YtmegdgeiikhflaaGreat.Refs
