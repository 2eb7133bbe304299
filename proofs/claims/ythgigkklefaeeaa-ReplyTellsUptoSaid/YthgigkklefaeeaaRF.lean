/-
  A scan, by the program: one number, what is left, its end.
  Conditions: those that each lemma names.
-/
import Derived.Test.YthgigkklefaeeaaRE
namespace Go.Proofs.Ythgigkklefaeeaa.RF
set_option maxRecDepth 100000
open Go Go.RowKit Go.Lib Go.Proofs.Ythgigkklefaeeaa Go.Proofs.Ythgigkklefaeeaa.Facts Go.Proofs.Ythgigkklefaeeaa.Bytes Go.Proofs.Ythgigkklefaeeaa.Puts Go.Proofs.Ythgigkklefaeeaa.Scan Go.Proofs.Ythgigkklefaeeaa.Take Go.Proofs.Ythgigkklefaeeaa.Nums Go.Proofs.Ythgigkklefaeeaa.SumPure Go.Proofs.Ythgigkklefaeeaa.Sum Go.Proofs.Ythgigkklefaeeaa.FP Go.Proofs.Ythgigkklefaeeaa.FW Go.Proofs.Ythgigkklefaeeaa.FX Go.Proofs.Ythgigkklefaeeaa.Ints Go.Proofs.Ythgigkklefaeeaa.PA Go.Proofs.Ythgigkklefaeeaa.RA Go.Proofs.Ythgigkklefaeeaa.RC Go.Proofs.Ythgigkklefaeeaa.RD Go.Proofs.Ythgigkklefaeeaa.RE

theorem num_lt (s : Sc) (K : Nat) : (s.num K).1 < 256 ^ K := by
  unfold Sc.num
  have h1 := take_len s K
  have h := val_lt (s.take K).1 K
  rw [List.take_of_length_le h1] at h
  exact h
theorem take1_eq (w : World) (lo hi : Nat) (p : Value) (s : Sc) (n : Nat) (s1 : Sc) (h : Hid (SC w lo hi p s)) (hs : Hid (s.num (width 1) = (n, s1))) :
    Calls Try.prog 23 #[p] w fun e w' => e = .returned (.int .i64 (n : Int)) ∧ SC w' lo hi p s1 ∧ Chg p w w' := by
  have hn : n < 256 := by
    have := num_lt s (width 1)
    rw [hs.out] at this
    simpa [width1] using this
  have hw : IntKind.i64.wrap (n : Int) = (n : Int) := IntWalk.i64_in _ (by omega)
  have hw2 : wrap64 (n : Int) = (n : Int) := by unfold wrap64; omega
  clear hn
  go_enter Try.func23, Try.ntmps23
  go_wp2_with fail
  refine (num_eq w lo hi p s 1 n s1 h hs).mono ?_
  rintro e w1 ⟨rfl, h1, h2⟩
  have H1 := Lib.hid h1
  have H2 := Lib.hid h2
  clear h1 h2
  go_wp2
  go_returns
  exact ⟨rfl, H1.out, H2.out⟩
theorem take_eqs (w : World) (lo hi : Nat) (p : Value) (s : Sc) (n : Nat) (t : List UInt8) (s1 : Sc) (h : Hid (SC w lo hi p s)) (hn : n ≤ 140737488355328) (ht : Hid (s.take n = (t, s1))) :
    Calls Try.prog 24 #[p, .int .i64 n] w fun e w' => ∃ v, e = .returned v ∧ Rd (fun b => w.heap.size ≤ b) w' v t ∧ SC w' lo hi p s1 ∧ Chg p w w' := by
  have hm : max (n : Int) 0 = (n : Int) := by omega
  have HN := Lib.hid hn
  have hlt : t.length ≤ n := by
    have := take_len s n
    rwa [ht.out] at this
  have HT := Lib.hid hlt
  clear hn hlt
  go_enter Try.func24, Try.ntmps24
  go_wp2_with fail
  refine (Nums.take_eq w lo hi p s n t s1 h (by have := HN.out; omega) ht).mono ?_
  rintro e w1 ⟨v1, rfl, r1, h1, h2⟩
  have R1 := Lib.hid r1
  have H1 := Lib.hid h1
  have H2 := Lib.hid h2
  obtain ⟨A1, c1, rfl, _⟩ := id r1
  clear r1 h1 h2
  go_wp2_with fail
  refine (clone_any _ _ t w1 R1.out (by have := HN.out; have := HT.out; omega)).mono ?_
  rintro e w2 ⟨v2, rfl, r2, g2⟩
  have R2 := Lib.hid r2
  have G2 := Lib.hid g2
  clear r2 g2
  go_wp2
  go_returns
  exact ⟨_, rfl, R2.out.mono fun b hb => Nat.le_trans H2.out.size hb, SC.grew H1.out G2.out, H2.out.trans (Chg.of_grew G2.out)⟩
theorem end_eq (w : World) (lo hi : Nat) (p : Value) (s : Sc) (f : Int) (h : Hid (SC w lo hi p s)) (hf : Hid (s.fin = f)) :
    Calls Try.prog 26 #[p] w fun e w' => e = .returned (.int .i64 f) ∧ w = w' := by
  have hf2 := hf.out
  unfold Sc.fin at hf2
  obtain ⟨m, hm⟩ : ∃ m, s.left = m := ⟨_, rfl⟩
  have HM := Lib.hid hm
  rw [hm] at hf2
  clear hm
  by_cases h0 : 0 < m
  · rw [if_pos h0] at hf2
    have d1 : (0 : Int) < (m : Int) := by omega
    have HF := Lib.hid hf2
    clear h0 hf2
    go_enter Try.func26, Try.ntmps26
    go_wp2_with (go_at_call 25; refine (left_eq w lo hi p s m h HM).mono ?_; rintro e w' ⟨rfl, rfl⟩)
    go_returns
    rw [HF.out]
    exact ⟨rfl, rfl⟩
  · rw [if_neg h0] at hf2
    have d1 : ¬ (0 : Int) < (m : Int) := by omega
    have HF := Lib.hid hf2
    clear h0 hf2
    go_enter Try.func26, Try.ntmps26
    go_wp2_with (first | (go_at_call 25; refine (left_eq w lo hi p s m h HM).mono ?_; rintro e w' ⟨rfl, rfl⟩) | (go_at_call 43; refine (fault_eq w lo hi p s f h HF).mono ?_; rintro e w' ⟨rfl, rfl⟩))
    go_returns
    exact ⟨rfl, rfl⟩
end Go.Proofs.Ythgigkklefaeeaa.RF
