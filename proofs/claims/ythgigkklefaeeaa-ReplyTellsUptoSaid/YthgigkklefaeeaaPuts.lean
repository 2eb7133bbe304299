/-
  What numbers and texts put behind bytes come to, walked.
  Conditions: the bytes are at most 2 to the 47 less 4096, as every slice that is read.
-/
import Derived.Test.YthgigkklefaeeaaProg
import Derived.Test.YthgigkklefaeeaaBytes
import Derived.IntWalk
import Derived.Lib.SliceRun
import Derived.Lib.Walk
namespace Go.Proofs.Ythgigkklefaeeaa.Puts
set_option maxRecDepth 100000
set_option maxRecDepth 100000
set_option maxRecDepth 100000
set_option maxRecDepth 100000
open Go Go.RowKit Go.Proofs.Ythgigkklefaeeaa Go.Proofs.Ythgigkklefaeeaa.Facts Go.Proofs.Ythgigkklefaeeaa.Bytes

theorem ret_int {k : IntKind} {a b : Int} (h : a = b) : Ending.returned (.int k a) = .returned (.int k b) := by rw [h]

/-- The size that counts. -/
def width (n : Int) : Nat := (max 1 (min n 8)).toNat
theorem width_pos (n : Int) : 1 ≤ width n ∧ width n ≤ 8 := by unfold width; omega

theorem width_any (n : Int) (w : World) : Calls Try.prog 51 #[.int .i64 n] w fun e w' => e = .returned (.int .i64 (width n : Int)) ∧ w = w' := by
  go_enter Try.func51, Try.ntmps51
  go_wp2
  all_goals
    go_ret
    exact ⟨ret_int (by unfold width; omega), rfl⟩

theorem width_at (n : Int) (K : Nat) (h : Hid (width n = K)) (w : World) : Calls Try.prog 51 #[.int .i64 n] w fun e w' => e = .returned (.int .i64 (K : Int)) ∧ w = w' := by
  have := h.out
  subst this
  exact width_any n w

theorem info5 : (Try.prog.info? 5).map (fun i => (i.zero, i.size, i.bytes)) = some (some (.int .u8 0), 1, 1) := by kernel_rfl

theorem eqlNil (w : World) (a : Option Addr) (n c n' c' : Nat) : (binOp .eql 23 (.slice a n c) (.slice none n' c')).run Try.prog w = .ok (.bool a.isNone) w :=
  Lib.run_eql_slice_nil w _ _ a n c n' c' Try.underlying23

theorem cells_alloc {w : World} {a : Addr} {l : List Value} (h : ∀ j u, l[j]? = some u → w.cell? (a.add j) = some u) (o : Obj) : ∀ j u, l[j]? = some u → (w.alloc o).cell? (a.add j) = some u :=
  fun j u hu => Lib.cell?_alloc_some _ (h j u hu)

/-- bytes.Clone. -/
theorem clone_any (S : Nat → Prop) (v : Value) (l : List UInt8) (w : World) (h : Rd S w v l) (hl : l.length ≤ 140737488355328) :
    Calls Try.prog 40 #[v] w fun e w' => ∃ v', e = .returned v' ∧ Rd (fun b => w.heap.size ≤ b) w' v' l ∧ Grew w w' := by
  obtain ⟨A, c, rfl, h1, h2, h3, h4⟩ := h
  have q22 := eqlNil
  cases A with
  | none =>
    have hc := h3 rfl
    have : l = [] := List.eq_nil_of_length_eq_zero (by omega)
    subst this
    subst hc
    go_enter Try.func40, Try.ntmps40
    go_wp2
    go_ret
    exact ⟨_, rfl, Rd.nil _ _, Grew.refl _⟩
  | some a =>
    obtain ⟨i0, hi, hz0, hz1, hz2⟩ := info_parts info5
    have H := Lib.hid (cells_alloc (h4 a rfl).2 (.cells #[] 5))
    clear h4 h3
    go_enter Try.func40, Try.ntmps40
    go_wp2_with (at_builtin; refine wpList_append_own _ rfl _ _ 23 rfl w.heap.size 5 i0 (.int .u8 0) 1 1 Try.underlying23 hi hz0 hz1 hz2 rfl (by decide) _ _ _ rfl (World.ownsRow_made w #[] 0 (Nat.le_refl _) (Nat.zero_le _) rfl) a l.length c (bv l) rfl ?qc1 ?qc2 ?qc3 ?qc4 ?qc5 ?qc6 ?_)
    case qc1 => simp [bv_length]
    case qc2 => exact H.out
    case qc3 => exact bv_one l
    case qc4 => unfold maxLen; omega
    case qc5 => omega
    case qc6 => simp
    intro v' w1 hown hgrow _
    go_wp2
    go_ret
    refine ⟨v', rfl, ?_, ?_⟩
    · exact (Rd.of_own (by simpa using hown) (by simp)).mono fun b hb => hb.1
    · exact ((Below.refl _ w).alloc (Nat.le_refl _) _).grown hgrow (by simp) (by intro k hk; simp [Value.ownBlock] at hk; omega)

/-- One byte of a number. -/
def byteAt (n i : Nat) : UInt8 := UInt8.ofNat (n / 2 ^ (8 * i))
theorem byteAt_toNat (n i : Nat) : ((byteAt n i).toNat : Int) = (n : Int) / 2 ^ (8 * i) % 256 := by
  simp [byteAt]

theorem rdy_alloc {w : World} {base : Nat} {e : TypeId} {v : Value} {l : List Value} (h : Rdy w base e v l) (o : Obj) : Rdy (w.alloc o) base e v l := by
  rcases h with h | ⟨A, h1, h2, h3⟩
  · exact .inl (h.alloc o)
  · exact .inr ⟨A, h1, h2, fun b hb => cells_alloc (h3 b hb) o⟩
/-- A number in k bytes, the greatest ahead. -/
def be (k n : Nat) : List UInt8 := (List.range k).map fun j => byteAt n (k - 1 - j)
theorem be_length (k n : Nat) : (be k n).length = k := by simp [be]
theorem be_take (k n r : Nat) (h : r < k) : (be k n).take (r + 1) = (be k n).take r ++ [byteAt n (k - 1 - r)] := by
  rw [List.take_succ_eq_append_getElem (by simpa [be_length] using h)]
  simp [be]

theorem num_any (S : Nat → Prop) (v : Value) (l : List UInt8) (n : Nat) (size : Int) (w : World) (h : Rd S w v l) (hl : l.length + 8 ≤ 140737488355328) :
    Calls Try.prog 34 #[v, .int .u64 n, .int .i64 size] w fun e w' => ∃ v', e = .returned v' ∧ w'.ownsRow w.heap.size 5 1 v' (l.length + width size) (bv (l ++ be (width size) n)) ∧ Grew w w' := by
  have hw := width_pos size
  generalize hK : width size = K at *
  have HK := Lib.hid hK
  clear hK
  obtain ⟨A, c, rfl, h1, h2, h3, h4⟩ := id h
  go_enter Try.func34, Try.ntmps34
  go_wp2_with (go_at_call 51; refine (width_at _ _ HK _).mono ?_; rintro e w' ⟨rfl, rfl⟩)
  have hR : Rdy w w.heap.size 5 (.slice A l.length l.length) (bv l) := h.rdy w w.heap.size 5
  have HR := Lib.hid hR
  clear hR h4 h3 h
  obtain ⟨i0, hi, hz0, hz1, hz2⟩ := info_parts info5
  go_loopw [7, 8] (fun out i wr => ∃ r q : Nat, r + q = K ∧ i = .int .i64 ((q : Int) - 1) ∧ Rdy wr w.heap.size 5 out (bv (l ++ (be K n).take r)) ∧ (0 < r → wr.ownsRow w.heap.size 5 1 out (bv (l ++ (be K n).take r)).length (bv (l ++ (be K n).take r))) ∧ Below w.heap.size w wr) (fun _ i _ => (intOf i + 1).toNat)
  case atStart => exact ⟨0, K, by omega, rfl, by simpa using HR.out, fun h => absurd h (Nat.lt_irrefl 0), Below.refl _ _⟩
  case round =>
    obtain ⟨r, q, hrq, rfl, hrdy, hown0, hb⟩ := hrel
    have hlen : (bv (l ++ (be K n).take r)).length ≤ l.length + r := by
      rw [bv_length, List.length_append, List.length_take, be_length]; omega
    cases q with
    | zero =>
      have hrK : r = K := by omega
      have HK := Lib.hid hrK
      have hown := hown0 (by omega)
      clear hrK hrq hrdy hown0
      go_wp2
      go_ret
      have hrK := HK.out
      subst hrK
      rw [List.take_of_length_le (by rw [be_length]; exact Nat.le_refl _)] at hown
      exact ⟨_, rfl, by simpa [bv_length, be_length] using hown, hb⟩
    | succ q =>
      have e : (((q + 1 : Nat) : Int) - 1) = (q : Int) := by omega
      rw [e]
      clear e
      have hq : q ≤ 7 := by omega
      have hr7 : r ≤ 7 := by omega
      clear hown0
      have hbt := be_take K n r (by omega)
      rw [show K - 1 - r = q from by omega] at hbt
      have HB := Lib.hid hbt
      have HQ := Lib.hid hrq
      clear hbt hrq
      have hsz := hb.size
      go_wp2_with (at_builtin; refine wpList_append_rdy _ rfl (.tmp 22) (.tmp 28) 23 rfl w.heap.size 5 i0 _ 1 Try.underlying23 hi hz0 hz1 hz2 rfl u7 (bv (l ++ (be K n).take r)) rfl (rdy_alloc hrdy _) ⟨wr.heap.size, 0, none⟩ 1 1 [.int .u8 ((n : Int) / 2 ^ (8 * q) % 256)] rfl rfl (by simp) (cell_one_new _ _ _) ?c2 ?c3 ?c4 ?c5 ?_)
      case c2 => simp [Value.oneCell']
      case c3 => simp only [maxLen, List.length_singleton]; omega
      case c4 => simp only [List.length_singleton]; omega
      case c5 => simp; omega
      intro v' w1 hown hbel
      have hb1 := (hb.alloc hb.size (.cells #[.int .u8 ((n : Int) / 2 ^ (8 * q) % 256)] 5)).trans hbel
      have hown1 : w1.ownsRow w.heap.size 5 1 v' (bv (l ++ (be K n).take (r + 1))).length (bv (l ++ (be K n).take (r + 1))) := by
        rw [HB.out, ← List.append_assoc, bv_append]
        have : bv [byteAt n q] = [.int .u8 ((n : Int) / 2 ^ (8 * q) % 256)] := by simp [bv, byteAt_toNat]
        rw [this, List.length_append, List.length_singleton]
        exact hown
      clear hown hbel hrdy
      go_wp2
      go_roundw
      case rel => exact ⟨r + 1, q, by have := HQ.out; omega, by go_num, .inl hown1, fun _ => hown1, hb1⟩
      case measure => simp [intOf]

theorem ofNat_small (m : Nat) (h : m ≤ 255) : ((UInt8.ofNat m).toNat : Int) = (m : Int) := by
  simp only [UInt8.toNat_ofNat']; omega

/-- A text behind its length. -/
def tx (s : List UInt8) : List UInt8 := UInt8.ofNat (min s.length 255) :: s.take 255
theorem tx_length (s : List UInt8) : (tx s).length = 1 + min s.length 255 := by simp [tx]; omega

theorem text_any (S : Nat → Prop) (v : Value) (l : List UInt8) (s : ByteArray) (w : World) (h : Rd S w v l) (hl : l.length + 256 ≤ 140737488355328) (hs : s.size ≤ maxLen) :
    Calls Try.prog 47 #[v, .string s] w fun e w' => ∃ v', e = .returned v' ∧ w'.ownsRow w.heap.size 5 1 v' (l.length + (tx s.data.toList).length) (bv (l ++ tx s.data.toList)) ∧ Grew w w' := by
  obtain ⟨A, c, rfl, h1, h2, h3, h4⟩ := id h
  have hR : Rdy w w.heap.size 5 (.slice A l.length l.length) (bv l) := h.rdy w w.heap.size 5
  clear h4 h3 h
  unfold maxLen at hs h2
  obtain ⟨i0, hi, hz0, hz1, hz2⟩ := info_parts info5
  have hM : min (min (s.size : Int) 255).toNat s.size = min s.data.toList.length 255 := by
    rw [Array.length_toList]; show _ = min s.size 255; omega
  have hE : (s.extract 0 (min (s.size : Int) 255).toNat).data.toList = s.data.toList.take 255 := by
    rw [ByteArray.data_extract, Array.toList_extract]
    have e : (min (s.size : Int) 255).toNat = min s.size 255 := by omega
    have e2 : s.data.toList.length = s.size := by rw [Array.length_toList]; rfl
    rw [e, List.extract_eq_take_drop]
    simp only [Nat.sub_zero, List.drop_zero]
    rcases Nat.le_total s.size 255 with h | h
    · rw [Nat.min_eq_left h, List.take_of_length_le (by omega), List.take_of_length_le (by omega)]
    · rw [Nat.min_eq_right h]
  have HM := Lib.hid hM
  have HE := Lib.hid hE
  have hM8 : min (min (s.size : Int) 255).toNat s.size ≤ 255 := by omega
  have hXs : (s.extract 0 (min (s.size : Int) 255).toNat).size ≤ 255 := by rw [ByteArray.size_extract]; omega
  clear hM hE
  go_enter Try.func47, Try.ntmps47
  go_wp2_with (at_builtin; refine wpList_append_rdy _ rfl (.tmp 15) (.tmp 19) 23 rfl w.heap.size 5 i0 _ 1 Try.underlying23 hi hz0 hz1 hz2 rfl _ (bv l) rfl (rdy_alloc hR _) ⟨w.heap.size, 0, none⟩ 1 1 [_] rfl rfl (by simp) (cell_one_new _ _ _) ?c2 ?c3 ?c4 ?c5 ?_)
  case c2 => simp [Value.oneCell']
  case c3 => simp only [maxLen, List.length_singleton, bv_length]; omega
  case c4 => simp only [List.length_singleton, bv_length]; omega
  case c5 => simp
  intro v1 w1 hown hbel
  have hb1 := ((Below.refl w.heap.size w).alloc (Nat.le_refl _) _).trans hbel
  have hsz := hb1.size
  clear hbel hR
  go_wp2_with (at_builtin; refine Lib.wpList_append_own_string _ rfl (.tmp 20) (.tmp 21) 23 9 rfl w.heap.size 5 i0 Try.underlying23 Try.underlying9 hi hz0 hz1 hz2 v1 _ _ rfl hown _ rfl ?d1 ?d2 ?d3 ?_)
  case d1 => simp only [maxLen, bv_length]; omega
  case d2 => simp only [bv_length]; omega
  case d3 => exact hsz
  intro v2 w2 hown2 hg2 _
  have hb2 := hb1.grown hg2 hsz fun k hk => (hown.lt k hk).1
  go_wp2
  go_ret
  refine ⟨v2, rfl, ?_, hb2⟩
  rw [strCells_eq, HE.out] at hown2
  have e1 : bv (l ++ tx s.data.toList) = bv l ++ Value.int .u8 ((min (min (s.size : Int) 255).toNat s.size : Nat) : Int) :: bv (s.data.toList.take 255) := by
    rw [HM.out, bv_append]
    unfold tx
    rw [← ofNat_small _ (Nat.min_le_right s.data.toList.length 255)]
    rfl
  have e2 : l.length + (tx s.data.toList).length = (bv l).length + 1 + min (min (s.size : Int) 255).toNat s.size := by
    rw [HM.out, tx_length, bv_length]; omega
  rw [e1, e2]
  exact hown2
end Go.Proofs.Ythgigkklefaeeaa.Puts
