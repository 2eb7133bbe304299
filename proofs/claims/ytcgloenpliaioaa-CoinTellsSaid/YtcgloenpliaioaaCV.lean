/-
  CoinTells and CoinPurses, walked.
  Conditions: those that each lemma names.
-/
import Derived.Test.YtcgloenpliaioaaCU
namespace Go.Proofs.Ytcgloenpliaioaa.CV
set_option maxRecDepth 100000
open Go Go.RowKit Go.Proofs.Ytcgloenpliaioaa Go.Proofs.Ytcgloenpliaioaa.Facts Go.Proofs.Ytcgloenpliaioaa.Bytes Go.Proofs.Ytcgloenpliaioaa.CA Go.Proofs.Ytcgloenpliaioaa.CB Go.Proofs.Ytcgloenpliaioaa.CS Go.Proofs.Ytcgloenpliaioaa.CT Go.Proofs.Ytcgloenpliaioaa.CU

set_option maxHeartbeats 2000000 in
theorem tells_in (a b : Nat) (A : Option Addr) (c : Nat) (l : List Nat) (n : Int) (ha : a < 18446744073709551616) (hb : b < 18446744073709551616) (w : World) (hl : Us w A c l) (hn : 0 ≤ n ∧ n < 4) :
    Calls Try.prog 3 #[.int .u64 (a : Int), .int .u64 (b : Int), .slice A l.length c, .int .i64 n] w fun e w' => e = .returned (.bool true) ∧ Grew w w' := by
  have H1 := Lib.hid (plus_any a b ha hb)
  have H2 := Lib.hid (rplus_any a b ha hb)
  have H3 := Lib.hid (minus_any a b ha hb)
  have H4 := Lib.hid (rminus_any a b ha hb)
  have H5 := Lib.hid (times_any a b ha hb)
  have H6 := Lib.hid (rtimes_any a b ha hb)
  have HL := Lib.hid hl
  have HR := Lib.hid (right_yes n hn)
  have d0 : decide (0 ≤ n) = true := decide_eq_true hn.1
  have d1 : decide (n < 4) = true := decide_eq_true hn.2
  clear ha hb hl hn
  rcases plusN a b with ⟨p, q⟩
  rcases minusN a b with ⟨p2, q2⟩
  rcases timesN a b with ⟨p3, q3⟩
  have H7 := Lib.hid (sum_any A c l w HL.out)
  have H8 := Lib.hid (rsum_any A c l w HL.out)
  rcases sumN l 0 with ⟨p4, q4⟩
  unfold two at H1 H2 H3 H4 H5 H6 H7 H8
  clear HL
  go_enter Try.func3, Try.ntmps3
  go_wp2_with fail
  refine (H1.out _).mono ?_
  rintro e w' ⟨rfl, rfl⟩
  go_wp2_with fail
  refine (H2.out _).mono ?_
  rintro e w' ⟨rfl, rfl⟩
  go_wp2_with fail
  refine (H3.out _).mono ?_
  rintro e w' ⟨rfl, rfl⟩
  go_wp2_with fail
  refine (H4.out _).mono ?_
  rintro e w' ⟨rfl, rfl⟩
  go_wp2_with fail
  refine (H5.out _).mono ?_
  rintro e w' ⟨rfl, rfl⟩
  go_wp2_with fail
  refine (H6.out _).mono ?_
  rintro e w' ⟨rfl, rfl⟩
  go_wp2_with fail
  refine H7.out.mono ?_
  rintro e w' ⟨rfl, rfl⟩
  go_wp2_with fail
  refine H8.out.mono ?_
  rintro e w' ⟨rfl, rfl⟩
  go_wp2_with fail
  refine (alive_any _).mono ?_
  rintro e w1 ⟨rfl, hg⟩
  have HG := Lib.hid hg
  clear hg
  go_wp2_with fail
  refine (HR.out _).mono ?_
  rintro e w' ⟨rfl, rfl⟩
  go_wp2
  go_ret
  exact ⟨rfl, HG.out⟩
set_option maxHeartbeats 2000000 in
theorem tells_low (a b : Nat) (A : Option Addr) (c : Nat) (l : List Nat) (n : Int) (ha : a < 18446744073709551616) (hb : b < 18446744073709551616) (w : World) (hl : Us w A c l) (hn : n < 0) :
    Calls Try.prog 3 #[.int .u64 (a : Int), .int .u64 (b : Int), .slice A l.length c, .int .i64 n] w fun e w' => e = .returned (.bool true) ∧ Grew w w' := by
  have H1 := Lib.hid (plus_any a b ha hb)
  have H2 := Lib.hid (rplus_any a b ha hb)
  have H3 := Lib.hid (minus_any a b ha hb)
  have H4 := Lib.hid (rminus_any a b ha hb)
  have H5 := Lib.hid (times_any a b ha hb)
  have H6 := Lib.hid (rtimes_any a b ha hb)
  have HL := Lib.hid hl
  have HR := Lib.hid (right_no n (.inl hn))
  have d0 : decide (0 ≤ n) = false := decide_eq_false (by omega)
  clear ha hb hl hn
  rcases plusN a b with ⟨p, q⟩
  rcases minusN a b with ⟨p2, q2⟩
  rcases timesN a b with ⟨p3, q3⟩
  have H7 := Lib.hid (sum_any A c l w HL.out)
  have H8 := Lib.hid (rsum_any A c l w HL.out)
  rcases sumN l 0 with ⟨p4, q4⟩
  unfold two at H1 H2 H3 H4 H5 H6 H7 H8
  clear HL
  go_enter Try.func3, Try.ntmps3
  go_wp2_with fail
  refine (H1.out _).mono ?_
  rintro e w' ⟨rfl, rfl⟩
  go_wp2_with fail
  refine (H2.out _).mono ?_
  rintro e w' ⟨rfl, rfl⟩
  go_wp2_with fail
  refine (H3.out _).mono ?_
  rintro e w' ⟨rfl, rfl⟩
  go_wp2_with fail
  refine (H4.out _).mono ?_
  rintro e w' ⟨rfl, rfl⟩
  go_wp2_with fail
  refine (H5.out _).mono ?_
  rintro e w' ⟨rfl, rfl⟩
  go_wp2_with fail
  refine (H6.out _).mono ?_
  rintro e w' ⟨rfl, rfl⟩
  go_wp2_with fail
  refine H7.out.mono ?_
  rintro e w' ⟨rfl, rfl⟩
  go_wp2_with fail
  refine H8.out.mono ?_
  rintro e w' ⟨rfl, rfl⟩
  go_wp2_with fail
  refine (alive_any _).mono ?_
  rintro e w1 ⟨rfl, hg⟩
  have HG := Lib.hid hg
  clear hg
  go_wp2_with fail
  refine (HR.out _).mono ?_
  rintro e w' ⟨rfl, rfl⟩
  go_wp2
  go_ret
  exact ⟨rfl, HG.out⟩
set_option maxHeartbeats 2000000 in
theorem tells_high (a b : Nat) (A : Option Addr) (c : Nat) (l : List Nat) (n : Int) (ha : a < 18446744073709551616) (hb : b < 18446744073709551616) (w : World) (hl : Us w A c l) (hn : 4 ≤ n) :
    Calls Try.prog 3 #[.int .u64 (a : Int), .int .u64 (b : Int), .slice A l.length c, .int .i64 n] w fun e w' => e = .returned (.bool true) ∧ Grew w w' := by
  have H1 := Lib.hid (plus_any a b ha hb)
  have H2 := Lib.hid (rplus_any a b ha hb)
  have H3 := Lib.hid (minus_any a b ha hb)
  have H4 := Lib.hid (rminus_any a b ha hb)
  have H5 := Lib.hid (times_any a b ha hb)
  have H6 := Lib.hid (rtimes_any a b ha hb)
  have HL := Lib.hid hl
  have HR := Lib.hid (right_no n (.inr hn))
  have d0 : decide (0 ≤ n) = true := decide_eq_true (by omega)
  have d1 : decide (n < 4) = false := decide_eq_false (by omega)
  clear ha hb hl hn
  rcases plusN a b with ⟨p, q⟩
  rcases minusN a b with ⟨p2, q2⟩
  rcases timesN a b with ⟨p3, q3⟩
  have H7 := Lib.hid (sum_any A c l w HL.out)
  have H8 := Lib.hid (rsum_any A c l w HL.out)
  rcases sumN l 0 with ⟨p4, q4⟩
  unfold two at H1 H2 H3 H4 H5 H6 H7 H8
  clear HL
  go_enter Try.func3, Try.ntmps3
  go_wp2_with fail
  refine (H1.out _).mono ?_
  rintro e w' ⟨rfl, rfl⟩
  go_wp2_with fail
  refine (H2.out _).mono ?_
  rintro e w' ⟨rfl, rfl⟩
  go_wp2_with fail
  refine (H3.out _).mono ?_
  rintro e w' ⟨rfl, rfl⟩
  go_wp2_with fail
  refine (H4.out _).mono ?_
  rintro e w' ⟨rfl, rfl⟩
  go_wp2_with fail
  refine (H5.out _).mono ?_
  rintro e w' ⟨rfl, rfl⟩
  go_wp2_with fail
  refine (H6.out _).mono ?_
  rintro e w' ⟨rfl, rfl⟩
  go_wp2_with fail
  refine H7.out.mono ?_
  rintro e w' ⟨rfl, rfl⟩
  go_wp2_with fail
  refine H8.out.mono ?_
  rintro e w' ⟨rfl, rfl⟩
  go_wp2_with fail
  refine (alive_any _).mono ?_
  rintro e w1 ⟨rfl, hg⟩
  have HG := Lib.hid hg
  clear hg
  go_wp2_with fail
  refine (HR.out _).mono ?_
  rintro e w' ⟨rfl, rfl⟩
  go_wp2
  go_ret
  exact ⟨rfl, HG.out⟩
theorem tells_any (a b : Nat) (A : Option Addr) (c : Nat) (l : List Nat) (n : Int) (ha : a < 18446744073709551616) (hb : b < 18446744073709551616) (w : World) (hl : Us w A c l) :
    Calls Try.prog 3 #[.int .u64 (a : Int), .int .u64 (b : Int), .slice A l.length c, .int .i64 n] w fun e w' => e = .returned (.bool true) ∧ Grew w w' := by
  by_cases h1 : n < 0
  · exact tells_low a b A c l n ha hb w hl h1
  · by_cases h2 : n < 4
    · exact tells_in a b A c l n ha hb w hl ⟨by omega, h2⟩
    · exact tells_high a b A c l n ha hb w hl (by omega)
end Go.Proofs.Ytcgloenpliaioaa.CV
