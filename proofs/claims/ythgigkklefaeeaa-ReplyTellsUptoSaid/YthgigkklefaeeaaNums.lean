/-
  Numbers and texts that are taken from a scan, walked.
  Conditions: the bytes are at most 2 to the 47.
-/
import Derived.Test.YthgigkklefaeeaaTake
namespace Go.Proofs.Ythgigkklefaeeaa.Nums
set_option maxRecDepth 100000
set_option maxRecDepth 100000
set_option maxRecDepth 100000
set_option maxRecDepth 100000
open Go Go.RowKit Go.Proofs.Ythgigkklefaeeaa Go.Proofs.Ythgigkklefaeeaa.Facts Go.Proofs.Ythgigkklefaeeaa.Bytes Go.Proofs.Ythgigkklefaeeaa.Puts Go.Proofs.Ythgigkklefaeeaa.Scan Go.Proofs.Ythgigkklefaeeaa.Take

theorem val_snoc (l : List UInt8) (b : UInt8) : Sc.val (l ++ [b]) = Sc.val l * 256 + b.toNat := by simp [Sc.val]
theorem take_snoc (l : List UInt8) (k : Nat) (h : k < l.length) : l.take (k + 1) = l.take k ++ [l[k]?.getD 0] := by
  rw [List.take_succ_eq_append_getElem h]
  simp [h]
theorem val_lt (l : List UInt8) : ∀ k, Sc.val (l.take k) < 256 ^ k
  | 0 => by simp [Sc.val]
  | k + 1 => by
    by_cases h : k < l.length
    · rw [take_snoc l k h, val_snoc, Nat.pow_succ]
      have := val_lt l k
      have := (l[k]?.getD 0).toNat_lt
      omega
    · rw [List.take_of_length_le (by omega), ← List.take_of_length_le (i := k) (l := l) (by omega), Nat.pow_succ]
      have := val_lt l k
      omega
theorem val_small (l : List UInt8) (k : Nat) (h : k ≤ 7) : Sc.val (l.take k) < 72057594037927936 := by
  have := val_lt l k
  have h2 : 256 ^ k ≤ 256 ^ 7 := Nat.pow_le_pow_right (by omega) h
  omega
theorem take_len (s : Sc) (n : Nat) : (s.take n).1.length ≤ n := by
  unfold Sc.take
  split
  · split
    · simp; omega
    · simp
  · simp

theorem or_byte (N b : Nat) (hN : N < 72057594037927936) (hb : b < 256) : bits BinOp.or IntKind.u64 ((N : Int) * 256) (IntKind.u64.wrap (b : Int)) = ((N * 256 + b : Nat) : Int) := by
  rw [IntWalk.u64_in _ (by omega)]
  have h := u64_or_nat (N * 256) b (by omega) (by omega)
  rw [Int.natCast_mul] at h
  rw [show ((N : Int) * 256) = (N : Int) * ((256 : Nat) : Int) from rfl, h]
  congr 1
  have e := Nat.shiftLeft_add_eq_or_of_lt (show b < 2 ^ 8 by omega) N
  rw [Nat.shiftLeft_eq] at e
  exact e.symm

theorem take_eq (w : World) (lo hi : Nat) (p : Value) (s : Sc) (n : Nat) (t : List UInt8) (s1 : Sc) (h : Hid (SC w lo hi p s)) (hn : n ≤ 9223372036854775807) (ht : Hid (s.take n = (t, s1))) :
    Calls Try.prog 42 #[p, .int .i64 n] w fun e w' => ∃ v, e = .returned v ∧ Rd (Bl lo hi p) w' v t ∧ SC w' lo hi p s1 ∧ Chg p w w' := by
  have := take_any w lo hi p s n h.out hn
  rwa [ht.out] at this

theorem num_any (w : World) (lo hi : Nat) (p : Value) (s : Sc) (size : Int) (h : SC w lo hi p s) :
    Calls Try.prog 41 #[p, .int .i64 size] w fun e w' => e = .returned (.int .u64 ((s.num (width size)).1 : Int)) ∧ SC w' lo hi p (s.num (width size)).2 ∧ Chg p w w' := by
  have hw := width_pos size
  generalize hK : width size = K at *
  have HK := Lib.hid hK
  have H := Lib.hid h
  have hlen := take_len s K
  obtain ⟨⟨t, s1⟩, ht⟩ : ∃ q, s.take K = q := ⟨_, rfl⟩
  rw [ht] at hlen
  have HT := Lib.hid ht
  clear hK h ht
  dsimp only at hlen
  go_enter Try.func41, Try.ntmps41
  go_wp2_with (go_at_call 51; refine (width_at _ _ HK _).mono ?_; rintro e w' ⟨rfl, rfl⟩)
  go_wp2_with fail
  refine (take_eq _ lo hi _ s K t s1 H (by omega) HT).mono ?_
  rintro e w1 ⟨v, rfl, hr, hs1, hc1⟩
  obtain ⟨A, c, rfl, r1, r2, r3, r4⟩ := id hr
  have HS := Lib.hid hs1
  have HC := Lib.hid hc1
  have HR := Lib.hid hr
  unfold maxLen at r2
  clear r4 r3 hs1 hc1 hr
  go_wp2
  go_loop [5, 13] (fun n i => ∃ k : Nat, k ≤ t.length ∧ i = .int .i64 k ∧ n = .int .u64 (Sc.val (t.take k) : Int)) (fun _ i => t.length - (intOf i).toNat)
  case atStart => exact ⟨0, Nat.zero_le _, rfl, by simp [Sc.val]⟩
  case round =>
    obtain ⟨k, hk, rfl, rfl⟩ := hrel
    by_cases hlt : k < t.length
    · obtain ⟨ad, c', e, hcc, hcell⟩ := HR.out.cell hlt
      injection e with e1 _ e3
      subst e1 e3
      have hN := val_small t k (by omega)
      generalize hNN : Sc.val (t.take k) = N at *
      have HN := Lib.hid hNN
      generalize hb : (t[k]?.getD 0).toNat = b at *
      have HB := Lib.hid hb
      clear hNN hb
      go_wp2
      go_round
      case rel =>
        refine ⟨k + 1, hlt, by go_num, ?_⟩
        rw [take_snoc t k hlt, val_snoc, HN.out, HB.out]
        have hb256 : b < 256 := by rw [← HB.out]; exact UInt8.toNat_lt _
        rw [or_byte N b hN hb256]
      case measure => simp [intOf]; omega
    · have hkt : k = t.length := by omega
      have HKT := Lib.hid hkt
      clear hkt
      go_wp2
      go_ret
      have e : s.num K = (Sc.val t, s1) := by simp [Sc.num, HT.out]
      rw [e, HKT.out, List.take_length]
      exact ⟨rfl, HS.out, HC.out⟩

theorem num_eq (w : World) (lo hi : Nat) (p : Value) (s : Sc) (size : Int) (n : Nat) (s1 : Sc) (h : Hid (SC w lo hi p s)) (hs : Hid (s.num (width size) = (n, s1))) :
    Calls Try.prog 41 #[p, .int .i64 size] w fun e w' => e = .returned (.int .u64 (n : Int)) ∧ SC w' lo hi p s1 ∧ Chg p w w' := by
  have := num_any w lo hi p s size h.out
  rwa [hs.out] at this

theorem conv22 {S : Nat → Prop} {w : World} {v : Value} {l : List UInt8} (h : Rd S w v l) : (convert 23 9 v).run Try.prog w = .ok (.string ⟨l.toArray⟩) w :=
  run_toString w Try.underlying23 Try.underlying5 Try.underlying9 h

end Go.Proofs.Ythgigkklefaeeaa.Nums
