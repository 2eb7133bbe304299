/-
  Purses: what giving and taking comes to, by the program and by the document.
  Conditions: each number fits 64 bits.
-/
import Derived.Test.YtcgloenpliaioaaCA
namespace Go.Proofs.Ytcgloenpliaioaa.CB
set_option maxRecDepth 100000
open Go Go.RowKit Go.Proofs.Ytcgloenpliaioaa Go.Proofs.Ytcgloenpliaioaa.Facts Go.Proofs.Ytcgloenpliaioaa.Bytes Go.Proofs.Ytcgloenpliaioaa.CA

def pv (a b c d : Nat) : Value := .agg #[.int .u64 (a : Int), .int .u64 (b : Int), .int .u64 (c : Int), .int .u64 (d : Int)]
def put (a b c d : Nat) (k : Nat) (n : Nat) : Value := if k = 0 then pv n b c d else if k = 1 then pv a n c d else if k = 2 then pv a b n d else pv a b c n
def at4 (a b c d : Nat) (k : Nat) : Nat := if k = 0 then a else if k = 1 then b else if k = 2 then c else d
/-- What comes of a purse. -/
def chg (op : Nat → Nat → Nat × Int) (a b c d k n : Nat) : Value :=
  if (op (at4 a b c d k) n).2 = 0 then .tuple #[put a b c d k (op (at4 a b c d k) n).1, .int .i64 0] else .tuple #[pv 0 0 0 0, .int .i64 (op (at4 a b c d k) n).2]
theorem changep_no (a b c d : Nat) (k : Int) (hk : k < 0 ∨ 4 ≤ k) (n : Nat) (w : World) :
    Calls Try.prog 21 #[pv a b c d, .int .i64 k, .int .u64 (n : Int), .func (.func 6) #[] #[]] w fun e w' => e = .returned (.tuple #[pv 0 0 0 0, .int .i64 1]) ∧ Grew w w' := by
  unfold pv
  have HR := Lib.hid (right_no k hk)
  clear hk
  go_enter Try.func21, Try.ntmps21
  go_wp2_with fail
  refine (HR.out _).mono ?_
  rintro e w' ⟨rfl, rfl⟩
  go_wp2
  exact bodyPost_ret (v := .tuple #[.agg #[.int .u64 ((0 : Nat) : Int), .int .u64 ((0 : Nat) : Int), .int .u64 ((0 : Nat) : Int), .int .u64 ((0 : Nat) : Int)], .int .i64 1]) (by simp [results, Try.results21, go_sem]) rfl ⟨rfl, by first | exact ((Below.refl _ w).alloc (Nat.le_refl _) _).alloc (by simp) _⟩
set_option maxHeartbeats 1000000 in
theorem changep_0 (a b c d n : Nat) (ha : a < 18446744073709551616) (hb : b < 18446744073709551616) (hc : c < 18446744073709551616) (hd : d < 18446744073709551616) (hn : n < 18446744073709551616) (w : World) :
    Calls Try.prog 21 #[pv a b c d, .int .i64 0, .int .u64 (n : Int), .func (.func 6) #[] #[]] w fun e w' => e = .returned (chg plusN a b c d 0 n) ∧ Grew w w' := by
  have HM := Lib.hid (plus_any a n ha hn)
  clear ha hb hc hd hn
  have hat : at4 a b c d 0 = a := rfl
  unfold chg
  rw [hat]
  clear hat
  rcases hx : plusN a n with ⟨x, q⟩
  rw [hx] at HM
  clear hx
  unfold two at HM
  by_cases h0 : q = 0
  · subst h0
    rw [if_pos rfl]
    unfold pv
    go_enter Try.func21, Try.ntmps21
    go_wp2_with fail
    refine (right_yes 0 (by omega) _).mono ?_
    rintro e w' ⟨rfl, rfl⟩
    go_wp2_with fail
    refine (HM.out _).mono ?_
    rintro e w' ⟨rfl, rfl⟩
    go_wp2
    exact bodyPost_ret (v := .tuple #[.agg #[.int .u64 (x : Int), .int .u64 (b : Int), .int .u64 (c : Int), .int .u64 (d : Int)], .int .i64 0]) (by simp [results, Try.results21, go_sem]) rfl ⟨rfl, by first | exact ((Below.refl _ w).alloc (Nat.le_refl _) _).alloc (by simp) _⟩
  · have d0 : (q == 0) = false := by simpa using h0
    have d1 : (q != 0) = true := by simpa using h0
    rw [if_neg (show ¬ (x, q).2 = 0 from h0)]
    clear h0
    unfold pv
    go_enter Try.func21, Try.ntmps21
    go_wp2_with fail
    refine (right_yes 0 (by omega) _).mono ?_
    rintro e w' ⟨rfl, rfl⟩
    go_wp2_with fail
    refine (HM.out _).mono ?_
    rintro e w' ⟨rfl, rfl⟩
    go_wp2
    exact bodyPost_ret (v := .tuple #[.agg #[.int .u64 ((0 : Nat) : Int), .int .u64 ((0 : Nat) : Int), .int .u64 ((0 : Nat) : Int), .int .u64 ((0 : Nat) : Int)], .int .i64 q]) (by simp [results, Try.results21, go_sem]) rfl ⟨rfl, by first | exact ((Below.refl _ w).alloc (Nat.le_refl _) _).alloc (by simp) _⟩
set_option maxHeartbeats 1000000 in
theorem changep_1 (a b c d n : Nat) (ha : a < 18446744073709551616) (hb : b < 18446744073709551616) (hc : c < 18446744073709551616) (hd : d < 18446744073709551616) (hn : n < 18446744073709551616) (w : World) :
    Calls Try.prog 21 #[pv a b c d, .int .i64 1, .int .u64 (n : Int), .func (.func 6) #[] #[]] w fun e w' => e = .returned (chg plusN a b c d 1 n) ∧ Grew w w' := by
  have HM := Lib.hid (plus_any b n hb hn)
  clear ha hb hc hd hn
  have hat : at4 a b c d 1 = b := rfl
  unfold chg
  rw [hat]
  clear hat
  rcases hx : plusN b n with ⟨x, q⟩
  rw [hx] at HM
  clear hx
  unfold two at HM
  by_cases h0 : q = 0
  · subst h0
    rw [if_pos rfl]
    unfold pv
    go_enter Try.func21, Try.ntmps21
    go_wp2_with fail
    refine (right_yes 1 (by omega) _).mono ?_
    rintro e w' ⟨rfl, rfl⟩
    go_wp2_with fail
    refine (HM.out _).mono ?_
    rintro e w' ⟨rfl, rfl⟩
    go_wp2
    exact bodyPost_ret (v := .tuple #[.agg #[.int .u64 (a : Int), .int .u64 (x : Int), .int .u64 (c : Int), .int .u64 (d : Int)], .int .i64 0]) (by simp [results, Try.results21, go_sem]) rfl ⟨rfl, by first | exact ((Below.refl _ w).alloc (Nat.le_refl _) _).alloc (by simp) _⟩
  · have d0 : (q == 0) = false := by simpa using h0
    have d1 : (q != 0) = true := by simpa using h0
    rw [if_neg (show ¬ (x, q).2 = 0 from h0)]
    clear h0
    unfold pv
    go_enter Try.func21, Try.ntmps21
    go_wp2_with fail
    refine (right_yes 1 (by omega) _).mono ?_
    rintro e w' ⟨rfl, rfl⟩
    go_wp2_with fail
    refine (HM.out _).mono ?_
    rintro e w' ⟨rfl, rfl⟩
    go_wp2
    exact bodyPost_ret (v := .tuple #[.agg #[.int .u64 ((0 : Nat) : Int), .int .u64 ((0 : Nat) : Int), .int .u64 ((0 : Nat) : Int), .int .u64 ((0 : Nat) : Int)], .int .i64 q]) (by simp [results, Try.results21, go_sem]) rfl ⟨rfl, by first | exact ((Below.refl _ w).alloc (Nat.le_refl _) _).alloc (by simp) _⟩
set_option maxHeartbeats 1000000 in
theorem changep_2 (a b c d n : Nat) (ha : a < 18446744073709551616) (hb : b < 18446744073709551616) (hc : c < 18446744073709551616) (hd : d < 18446744073709551616) (hn : n < 18446744073709551616) (w : World) :
    Calls Try.prog 21 #[pv a b c d, .int .i64 2, .int .u64 (n : Int), .func (.func 6) #[] #[]] w fun e w' => e = .returned (chg plusN a b c d 2 n) ∧ Grew w w' := by
  have HM := Lib.hid (plus_any c n hc hn)
  clear ha hb hc hd hn
  have hat : at4 a b c d 2 = c := rfl
  unfold chg
  rw [hat]
  clear hat
  rcases hx : plusN c n with ⟨x, q⟩
  rw [hx] at HM
  clear hx
  unfold two at HM
  by_cases h0 : q = 0
  · subst h0
    rw [if_pos rfl]
    unfold pv
    go_enter Try.func21, Try.ntmps21
    go_wp2_with fail
    refine (right_yes 2 (by omega) _).mono ?_
    rintro e w' ⟨rfl, rfl⟩
    go_wp2_with fail
    refine (HM.out _).mono ?_
    rintro e w' ⟨rfl, rfl⟩
    go_wp2
    exact bodyPost_ret (v := .tuple #[.agg #[.int .u64 (a : Int), .int .u64 (b : Int), .int .u64 (x : Int), .int .u64 (d : Int)], .int .i64 0]) (by simp [results, Try.results21, go_sem]) rfl ⟨rfl, by first | exact ((Below.refl _ w).alloc (Nat.le_refl _) _).alloc (by simp) _⟩
  · have d0 : (q == 0) = false := by simpa using h0
    have d1 : (q != 0) = true := by simpa using h0
    rw [if_neg (show ¬ (x, q).2 = 0 from h0)]
    clear h0
    unfold pv
    go_enter Try.func21, Try.ntmps21
    go_wp2_with fail
    refine (right_yes 2 (by omega) _).mono ?_
    rintro e w' ⟨rfl, rfl⟩
    go_wp2_with fail
    refine (HM.out _).mono ?_
    rintro e w' ⟨rfl, rfl⟩
    go_wp2
    exact bodyPost_ret (v := .tuple #[.agg #[.int .u64 ((0 : Nat) : Int), .int .u64 ((0 : Nat) : Int), .int .u64 ((0 : Nat) : Int), .int .u64 ((0 : Nat) : Int)], .int .i64 q]) (by simp [results, Try.results21, go_sem]) rfl ⟨rfl, by first | exact ((Below.refl _ w).alloc (Nat.le_refl _) _).alloc (by simp) _⟩
set_option maxHeartbeats 1000000 in
theorem changep_3 (a b c d n : Nat) (ha : a < 18446744073709551616) (hb : b < 18446744073709551616) (hc : c < 18446744073709551616) (hd : d < 18446744073709551616) (hn : n < 18446744073709551616) (w : World) :
    Calls Try.prog 21 #[pv a b c d, .int .i64 3, .int .u64 (n : Int), .func (.func 6) #[] #[]] w fun e w' => e = .returned (chg plusN a b c d 3 n) ∧ Grew w w' := by
  have HM := Lib.hid (plus_any d n hd hn)
  clear ha hb hc hd hn
  have hat : at4 a b c d 3 = d := rfl
  unfold chg
  rw [hat]
  clear hat
  rcases hx : plusN d n with ⟨x, q⟩
  rw [hx] at HM
  clear hx
  unfold two at HM
  by_cases h0 : q = 0
  · subst h0
    rw [if_pos rfl]
    unfold pv
    go_enter Try.func21, Try.ntmps21
    go_wp2_with fail
    refine (right_yes 3 (by omega) _).mono ?_
    rintro e w' ⟨rfl, rfl⟩
    go_wp2_with fail
    refine (HM.out _).mono ?_
    rintro e w' ⟨rfl, rfl⟩
    go_wp2
    exact bodyPost_ret (v := .tuple #[.agg #[.int .u64 (a : Int), .int .u64 (b : Int), .int .u64 (c : Int), .int .u64 (x : Int)], .int .i64 0]) (by simp [results, Try.results21, go_sem]) rfl ⟨rfl, by first | exact ((Below.refl _ w).alloc (Nat.le_refl _) _).alloc (by simp) _⟩
  · have d0 : (q == 0) = false := by simpa using h0
    have d1 : (q != 0) = true := by simpa using h0
    rw [if_neg (show ¬ (x, q).2 = 0 from h0)]
    clear h0
    unfold pv
    go_enter Try.func21, Try.ntmps21
    go_wp2_with fail
    refine (right_yes 3 (by omega) _).mono ?_
    rintro e w' ⟨rfl, rfl⟩
    go_wp2_with fail
    refine (HM.out _).mono ?_
    rintro e w' ⟨rfl, rfl⟩
    go_wp2
    exact bodyPost_ret (v := .tuple #[.agg #[.int .u64 ((0 : Nat) : Int), .int .u64 ((0 : Nat) : Int), .int .u64 ((0 : Nat) : Int), .int .u64 ((0 : Nat) : Int)], .int .i64 q]) (by simp [results, Try.results21, go_sem]) rfl ⟨rfl, by first | exact ((Below.refl _ w).alloc (Nat.le_refl _) _).alloc (by simp) _⟩
theorem changem_no (a b c d : Nat) (k : Int) (hk : k < 0 ∨ 4 ≤ k) (n : Nat) (w : World) :
    Calls Try.prog 21 #[pv a b c d, .int .i64 k, .int .u64 (n : Int), .func (.func 8) #[] #[]] w fun e w' => e = .returned (.tuple #[pv 0 0 0 0, .int .i64 1]) ∧ Grew w w' := by
  unfold pv
  have HR := Lib.hid (right_no k hk)
  clear hk
  go_enter Try.func21, Try.ntmps21
  go_wp2_with fail
  refine (HR.out _).mono ?_
  rintro e w' ⟨rfl, rfl⟩
  go_wp2
  exact bodyPost_ret (v := .tuple #[.agg #[.int .u64 ((0 : Nat) : Int), .int .u64 ((0 : Nat) : Int), .int .u64 ((0 : Nat) : Int), .int .u64 ((0 : Nat) : Int)], .int .i64 1]) (by simp [results, Try.results21, go_sem]) rfl ⟨rfl, by first | exact ((Below.refl _ w).alloc (Nat.le_refl _) _).alloc (by simp) _⟩
set_option maxHeartbeats 1000000 in
theorem changem_0 (a b c d n : Nat) (ha : a < 18446744073709551616) (hb : b < 18446744073709551616) (hc : c < 18446744073709551616) (hd : d < 18446744073709551616) (hn : n < 18446744073709551616) (w : World) :
    Calls Try.prog 21 #[pv a b c d, .int .i64 0, .int .u64 (n : Int), .func (.func 8) #[] #[]] w fun e w' => e = .returned (chg minusN a b c d 0 n) ∧ Grew w w' := by
  have HM := Lib.hid (minus_any a n ha hn)
  clear ha hb hc hd hn
  have hat : at4 a b c d 0 = a := rfl
  unfold chg
  rw [hat]
  clear hat
  rcases hx : minusN a n with ⟨x, q⟩
  rw [hx] at HM
  clear hx
  unfold two at HM
  by_cases h0 : q = 0
  · subst h0
    rw [if_pos rfl]
    unfold pv
    go_enter Try.func21, Try.ntmps21
    go_wp2_with fail
    refine (right_yes 0 (by omega) _).mono ?_
    rintro e w' ⟨rfl, rfl⟩
    go_wp2_with fail
    refine (HM.out _).mono ?_
    rintro e w' ⟨rfl, rfl⟩
    go_wp2
    exact bodyPost_ret (v := .tuple #[.agg #[.int .u64 (x : Int), .int .u64 (b : Int), .int .u64 (c : Int), .int .u64 (d : Int)], .int .i64 0]) (by simp [results, Try.results21, go_sem]) rfl ⟨rfl, by first | exact ((Below.refl _ w).alloc (Nat.le_refl _) _).alloc (by simp) _⟩
  · have d0 : (q == 0) = false := by simpa using h0
    have d1 : (q != 0) = true := by simpa using h0
    rw [if_neg (show ¬ (x, q).2 = 0 from h0)]
    clear h0
    unfold pv
    go_enter Try.func21, Try.ntmps21
    go_wp2_with fail
    refine (right_yes 0 (by omega) _).mono ?_
    rintro e w' ⟨rfl, rfl⟩
    go_wp2_with fail
    refine (HM.out _).mono ?_
    rintro e w' ⟨rfl, rfl⟩
    go_wp2
    exact bodyPost_ret (v := .tuple #[.agg #[.int .u64 ((0 : Nat) : Int), .int .u64 ((0 : Nat) : Int), .int .u64 ((0 : Nat) : Int), .int .u64 ((0 : Nat) : Int)], .int .i64 q]) (by simp [results, Try.results21, go_sem]) rfl ⟨rfl, by first | exact ((Below.refl _ w).alloc (Nat.le_refl _) _).alloc (by simp) _⟩
set_option maxHeartbeats 1000000 in
theorem changem_1 (a b c d n : Nat) (ha : a < 18446744073709551616) (hb : b < 18446744073709551616) (hc : c < 18446744073709551616) (hd : d < 18446744073709551616) (hn : n < 18446744073709551616) (w : World) :
    Calls Try.prog 21 #[pv a b c d, .int .i64 1, .int .u64 (n : Int), .func (.func 8) #[] #[]] w fun e w' => e = .returned (chg minusN a b c d 1 n) ∧ Grew w w' := by
  have HM := Lib.hid (minus_any b n hb hn)
  clear ha hb hc hd hn
  have hat : at4 a b c d 1 = b := rfl
  unfold chg
  rw [hat]
  clear hat
  rcases hx : minusN b n with ⟨x, q⟩
  rw [hx] at HM
  clear hx
  unfold two at HM
  by_cases h0 : q = 0
  · subst h0
    rw [if_pos rfl]
    unfold pv
    go_enter Try.func21, Try.ntmps21
    go_wp2_with fail
    refine (right_yes 1 (by omega) _).mono ?_
    rintro e w' ⟨rfl, rfl⟩
    go_wp2_with fail
    refine (HM.out _).mono ?_
    rintro e w' ⟨rfl, rfl⟩
    go_wp2
    exact bodyPost_ret (v := .tuple #[.agg #[.int .u64 (a : Int), .int .u64 (x : Int), .int .u64 (c : Int), .int .u64 (d : Int)], .int .i64 0]) (by simp [results, Try.results21, go_sem]) rfl ⟨rfl, by first | exact ((Below.refl _ w).alloc (Nat.le_refl _) _).alloc (by simp) _⟩
  · have d0 : (q == 0) = false := by simpa using h0
    have d1 : (q != 0) = true := by simpa using h0
    rw [if_neg (show ¬ (x, q).2 = 0 from h0)]
    clear h0
    unfold pv
    go_enter Try.func21, Try.ntmps21
    go_wp2_with fail
    refine (right_yes 1 (by omega) _).mono ?_
    rintro e w' ⟨rfl, rfl⟩
    go_wp2_with fail
    refine (HM.out _).mono ?_
    rintro e w' ⟨rfl, rfl⟩
    go_wp2
    exact bodyPost_ret (v := .tuple #[.agg #[.int .u64 ((0 : Nat) : Int), .int .u64 ((0 : Nat) : Int), .int .u64 ((0 : Nat) : Int), .int .u64 ((0 : Nat) : Int)], .int .i64 q]) (by simp [results, Try.results21, go_sem]) rfl ⟨rfl, by first | exact ((Below.refl _ w).alloc (Nat.le_refl _) _).alloc (by simp) _⟩
set_option maxHeartbeats 1000000 in
theorem changem_2 (a b c d n : Nat) (ha : a < 18446744073709551616) (hb : b < 18446744073709551616) (hc : c < 18446744073709551616) (hd : d < 18446744073709551616) (hn : n < 18446744073709551616) (w : World) :
    Calls Try.prog 21 #[pv a b c d, .int .i64 2, .int .u64 (n : Int), .func (.func 8) #[] #[]] w fun e w' => e = .returned (chg minusN a b c d 2 n) ∧ Grew w w' := by
  have HM := Lib.hid (minus_any c n hc hn)
  clear ha hb hc hd hn
  have hat : at4 a b c d 2 = c := rfl
  unfold chg
  rw [hat]
  clear hat
  rcases hx : minusN c n with ⟨x, q⟩
  rw [hx] at HM
  clear hx
  unfold two at HM
  by_cases h0 : q = 0
  · subst h0
    rw [if_pos rfl]
    unfold pv
    go_enter Try.func21, Try.ntmps21
    go_wp2_with fail
    refine (right_yes 2 (by omega) _).mono ?_
    rintro e w' ⟨rfl, rfl⟩
    go_wp2_with fail
    refine (HM.out _).mono ?_
    rintro e w' ⟨rfl, rfl⟩
    go_wp2
    exact bodyPost_ret (v := .tuple #[.agg #[.int .u64 (a : Int), .int .u64 (b : Int), .int .u64 (x : Int), .int .u64 (d : Int)], .int .i64 0]) (by simp [results, Try.results21, go_sem]) rfl ⟨rfl, by first | exact ((Below.refl _ w).alloc (Nat.le_refl _) _).alloc (by simp) _⟩
  · have d0 : (q == 0) = false := by simpa using h0
    have d1 : (q != 0) = true := by simpa using h0
    rw [if_neg (show ¬ (x, q).2 = 0 from h0)]
    clear h0
    unfold pv
    go_enter Try.func21, Try.ntmps21
    go_wp2_with fail
    refine (right_yes 2 (by omega) _).mono ?_
    rintro e w' ⟨rfl, rfl⟩
    go_wp2_with fail
    refine (HM.out _).mono ?_
    rintro e w' ⟨rfl, rfl⟩
    go_wp2
    exact bodyPost_ret (v := .tuple #[.agg #[.int .u64 ((0 : Nat) : Int), .int .u64 ((0 : Nat) : Int), .int .u64 ((0 : Nat) : Int), .int .u64 ((0 : Nat) : Int)], .int .i64 q]) (by simp [results, Try.results21, go_sem]) rfl ⟨rfl, by first | exact ((Below.refl _ w).alloc (Nat.le_refl _) _).alloc (by simp) _⟩
set_option maxHeartbeats 1000000 in
theorem changem_3 (a b c d n : Nat) (ha : a < 18446744073709551616) (hb : b < 18446744073709551616) (hc : c < 18446744073709551616) (hd : d < 18446744073709551616) (hn : n < 18446744073709551616) (w : World) :
    Calls Try.prog 21 #[pv a b c d, .int .i64 3, .int .u64 (n : Int), .func (.func 8) #[] #[]] w fun e w' => e = .returned (chg minusN a b c d 3 n) ∧ Grew w w' := by
  have HM := Lib.hid (minus_any d n hd hn)
  clear ha hb hc hd hn
  have hat : at4 a b c d 3 = d := rfl
  unfold chg
  rw [hat]
  clear hat
  rcases hx : minusN d n with ⟨x, q⟩
  rw [hx] at HM
  clear hx
  unfold two at HM
  by_cases h0 : q = 0
  · subst h0
    rw [if_pos rfl]
    unfold pv
    go_enter Try.func21, Try.ntmps21
    go_wp2_with fail
    refine (right_yes 3 (by omega) _).mono ?_
    rintro e w' ⟨rfl, rfl⟩
    go_wp2_with fail
    refine (HM.out _).mono ?_
    rintro e w' ⟨rfl, rfl⟩
    go_wp2
    exact bodyPost_ret (v := .tuple #[.agg #[.int .u64 (a : Int), .int .u64 (b : Int), .int .u64 (c : Int), .int .u64 (x : Int)], .int .i64 0]) (by simp [results, Try.results21, go_sem]) rfl ⟨rfl, by first | exact ((Below.refl _ w).alloc (Nat.le_refl _) _).alloc (by simp) _⟩
  · have d0 : (q == 0) = false := by simpa using h0
    have d1 : (q != 0) = true := by simpa using h0
    rw [if_neg (show ¬ (x, q).2 = 0 from h0)]
    clear h0
    unfold pv
    go_enter Try.func21, Try.ntmps21
    go_wp2_with fail
    refine (right_yes 3 (by omega) _).mono ?_
    rintro e w' ⟨rfl, rfl⟩
    go_wp2_with fail
    refine (HM.out _).mono ?_
    rintro e w' ⟨rfl, rfl⟩
    go_wp2
    exact bodyPost_ret (v := .tuple #[.agg #[.int .u64 ((0 : Nat) : Int), .int .u64 ((0 : Nat) : Int), .int .u64 ((0 : Nat) : Int), .int .u64 ((0 : Nat) : Int)], .int .i64 q]) (by simp [results, Try.results21, go_sem]) rfl ⟨rfl, by first | exact ((Below.refl _ w).alloc (Nat.le_refl _) _).alloc (by simp) _⟩
theorem rgive_no (a b c d : Nat) (k : Int) (hk : k < 0 ∨ 4 ≤ k) (n : Nat) (w : World) :
    Calls Try.prog 17 #[pv a b c d, .int .i64 k, .int .u64 (n : Int)] w fun e w' => e = .returned (.tuple #[pv 0 0 0 0, .int .i64 1]) ∧ Grew w w' := by
  unfold pv
  by_cases h1 : k < 0
  · have d1 : decide (k < 0) = true := decide_eq_true h1
    clear hk h1
    go_enter Try.func17, Try.ntmps17
    go_wp2
    exact bodyPost_ret (v := .tuple #[.agg #[.int .u64 ((0 : Nat) : Int), .int .u64 ((0 : Nat) : Int), .int .u64 ((0 : Nat) : Int), .int .u64 ((0 : Nat) : Int)], .int .i64 1]) (by simp [results, Try.results17, go_sem]) rfl ⟨rfl, by first | exact ((Below.refl _ w).alloc (Nat.le_refl _) _).alloc (by simp) _⟩
  · have d1 : decide (k < 0) = false := decide_eq_false h1
    have d2 : decide ((3 : Int) < k) = true := decide_eq_true (by omega)
    clear hk h1
    go_enter Try.func17, Try.ntmps17
    go_wp2
    exact bodyPost_ret (v := .tuple #[.agg #[.int .u64 ((0 : Nat) : Int), .int .u64 ((0 : Nat) : Int), .int .u64 ((0 : Nat) : Int), .int .u64 ((0 : Nat) : Int)], .int .i64 1]) (by simp [results, Try.results17, go_sem]) rfl ⟨rfl, by first | exact ((Below.refl _ w).alloc (Nat.le_refl _) _).alloc (by simp) _⟩
set_option maxHeartbeats 1000000 in
theorem rgive_0 (a b c d n : Nat) (ha : a < 18446744073709551616) (hb : b < 18446744073709551616) (hc : c < 18446744073709551616) (hd : d < 18446744073709551616) (hn : n < 18446744073709551616) (w : World) :
    Calls Try.prog 17 #[pv a b c d, .int .i64 0, .int .u64 (n : Int)] w fun e w' => e = .returned (chg plusN a b c d 0 n) ∧ Grew w w' := by
  have HM := Lib.hid (rplus_any a n ha hn)
  clear ha hb hc hd hn
  have hat : at4 a b c d 0 = a := rfl
  unfold chg
  rw [hat]
  clear hat
  rcases hx : plusN a n with ⟨x, q⟩
  rw [hx] at HM
  clear hx
  unfold two at HM
  by_cases h0 : q = 0
  · subst h0
    rw [if_pos rfl]
    unfold pv
    go_enter Try.func17, Try.ntmps17
    go_wp2_with fail
    refine (HM.out _).mono ?_
    rintro e w' ⟨rfl, rfl⟩
    go_wp2
    exact bodyPost_ret (v := .tuple #[.agg #[.int .u64 (x : Int), .int .u64 (b : Int), .int .u64 (c : Int), .int .u64 (d : Int)], .int .i64 0]) (by simp [results, Try.results17, go_sem]) rfl ⟨rfl, by first | exact ((Below.refl _ w).alloc (Nat.le_refl _) _).alloc (by simp) _⟩
  · have d0 : (q == 0) = false := by simpa using h0
    have d1 : (q != 0) = true := by simpa using h0
    rw [if_neg (show ¬ (x, q).2 = 0 from h0)]
    clear h0
    unfold pv
    go_enter Try.func17, Try.ntmps17
    go_wp2_with fail
    refine (HM.out _).mono ?_
    rintro e w' ⟨rfl, rfl⟩
    go_wp2
    exact bodyPost_ret (v := .tuple #[.agg #[.int .u64 ((0 : Nat) : Int), .int .u64 ((0 : Nat) : Int), .int .u64 ((0 : Nat) : Int), .int .u64 ((0 : Nat) : Int)], .int .i64 q]) (by simp [results, Try.results17, go_sem]) rfl ⟨rfl, by first | exact ((Below.refl _ w).alloc (Nat.le_refl _) _).alloc (by simp) _⟩
set_option maxHeartbeats 1000000 in
theorem rgive_1 (a b c d n : Nat) (ha : a < 18446744073709551616) (hb : b < 18446744073709551616) (hc : c < 18446744073709551616) (hd : d < 18446744073709551616) (hn : n < 18446744073709551616) (w : World) :
    Calls Try.prog 17 #[pv a b c d, .int .i64 1, .int .u64 (n : Int)] w fun e w' => e = .returned (chg plusN a b c d 1 n) ∧ Grew w w' := by
  have HM := Lib.hid (rplus_any b n hb hn)
  clear ha hb hc hd hn
  have hat : at4 a b c d 1 = b := rfl
  unfold chg
  rw [hat]
  clear hat
  rcases hx : plusN b n with ⟨x, q⟩
  rw [hx] at HM
  clear hx
  unfold two at HM
  by_cases h0 : q = 0
  · subst h0
    rw [if_pos rfl]
    unfold pv
    go_enter Try.func17, Try.ntmps17
    go_wp2_with fail
    refine (HM.out _).mono ?_
    rintro e w' ⟨rfl, rfl⟩
    go_wp2
    exact bodyPost_ret (v := .tuple #[.agg #[.int .u64 (a : Int), .int .u64 (x : Int), .int .u64 (c : Int), .int .u64 (d : Int)], .int .i64 0]) (by simp [results, Try.results17, go_sem]) rfl ⟨rfl, by first | exact ((Below.refl _ w).alloc (Nat.le_refl _) _).alloc (by simp) _⟩
  · have d0 : (q == 0) = false := by simpa using h0
    have d1 : (q != 0) = true := by simpa using h0
    rw [if_neg (show ¬ (x, q).2 = 0 from h0)]
    clear h0
    unfold pv
    go_enter Try.func17, Try.ntmps17
    go_wp2_with fail
    refine (HM.out _).mono ?_
    rintro e w' ⟨rfl, rfl⟩
    go_wp2
    exact bodyPost_ret (v := .tuple #[.agg #[.int .u64 ((0 : Nat) : Int), .int .u64 ((0 : Nat) : Int), .int .u64 ((0 : Nat) : Int), .int .u64 ((0 : Nat) : Int)], .int .i64 q]) (by simp [results, Try.results17, go_sem]) rfl ⟨rfl, by first | exact ((Below.refl _ w).alloc (Nat.le_refl _) _).alloc (by simp) _⟩
set_option maxHeartbeats 1000000 in
theorem rgive_2 (a b c d n : Nat) (ha : a < 18446744073709551616) (hb : b < 18446744073709551616) (hc : c < 18446744073709551616) (hd : d < 18446744073709551616) (hn : n < 18446744073709551616) (w : World) :
    Calls Try.prog 17 #[pv a b c d, .int .i64 2, .int .u64 (n : Int)] w fun e w' => e = .returned (chg plusN a b c d 2 n) ∧ Grew w w' := by
  have HM := Lib.hid (rplus_any c n hc hn)
  clear ha hb hc hd hn
  have hat : at4 a b c d 2 = c := rfl
  unfold chg
  rw [hat]
  clear hat
  rcases hx : plusN c n with ⟨x, q⟩
  rw [hx] at HM
  clear hx
  unfold two at HM
  by_cases h0 : q = 0
  · subst h0
    rw [if_pos rfl]
    unfold pv
    go_enter Try.func17, Try.ntmps17
    go_wp2_with fail
    refine (HM.out _).mono ?_
    rintro e w' ⟨rfl, rfl⟩
    go_wp2
    exact bodyPost_ret (v := .tuple #[.agg #[.int .u64 (a : Int), .int .u64 (b : Int), .int .u64 (x : Int), .int .u64 (d : Int)], .int .i64 0]) (by simp [results, Try.results17, go_sem]) rfl ⟨rfl, by first | exact ((Below.refl _ w).alloc (Nat.le_refl _) _).alloc (by simp) _⟩
  · have d0 : (q == 0) = false := by simpa using h0
    have d1 : (q != 0) = true := by simpa using h0
    rw [if_neg (show ¬ (x, q).2 = 0 from h0)]
    clear h0
    unfold pv
    go_enter Try.func17, Try.ntmps17
    go_wp2_with fail
    refine (HM.out _).mono ?_
    rintro e w' ⟨rfl, rfl⟩
    go_wp2
    exact bodyPost_ret (v := .tuple #[.agg #[.int .u64 ((0 : Nat) : Int), .int .u64 ((0 : Nat) : Int), .int .u64 ((0 : Nat) : Int), .int .u64 ((0 : Nat) : Int)], .int .i64 q]) (by simp [results, Try.results17, go_sem]) rfl ⟨rfl, by first | exact ((Below.refl _ w).alloc (Nat.le_refl _) _).alloc (by simp) _⟩
set_option maxHeartbeats 1000000 in
theorem rgive_3 (a b c d n : Nat) (ha : a < 18446744073709551616) (hb : b < 18446744073709551616) (hc : c < 18446744073709551616) (hd : d < 18446744073709551616) (hn : n < 18446744073709551616) (w : World) :
    Calls Try.prog 17 #[pv a b c d, .int .i64 3, .int .u64 (n : Int)] w fun e w' => e = .returned (chg plusN a b c d 3 n) ∧ Grew w w' := by
  have HM := Lib.hid (rplus_any d n hd hn)
  clear ha hb hc hd hn
  have hat : at4 a b c d 3 = d := rfl
  unfold chg
  rw [hat]
  clear hat
  rcases hx : plusN d n with ⟨x, q⟩
  rw [hx] at HM
  clear hx
  unfold two at HM
  by_cases h0 : q = 0
  · subst h0
    rw [if_pos rfl]
    unfold pv
    go_enter Try.func17, Try.ntmps17
    go_wp2_with fail
    refine (HM.out _).mono ?_
    rintro e w' ⟨rfl, rfl⟩
    go_wp2
    exact bodyPost_ret (v := .tuple #[.agg #[.int .u64 (a : Int), .int .u64 (b : Int), .int .u64 (c : Int), .int .u64 (x : Int)], .int .i64 0]) (by simp [results, Try.results17, go_sem]) rfl ⟨rfl, by first | exact ((Below.refl _ w).alloc (Nat.le_refl _) _).alloc (by simp) _⟩
  · have d0 : (q == 0) = false := by simpa using h0
    have d1 : (q != 0) = true := by simpa using h0
    rw [if_neg (show ¬ (x, q).2 = 0 from h0)]
    clear h0
    unfold pv
    go_enter Try.func17, Try.ntmps17
    go_wp2_with fail
    refine (HM.out _).mono ?_
    rintro e w' ⟨rfl, rfl⟩
    go_wp2
    exact bodyPost_ret (v := .tuple #[.agg #[.int .u64 ((0 : Nat) : Int), .int .u64 ((0 : Nat) : Int), .int .u64 ((0 : Nat) : Int), .int .u64 ((0 : Nat) : Int)], .int .i64 q]) (by simp [results, Try.results17, go_sem]) rfl ⟨rfl, by first | exact ((Below.refl _ w).alloc (Nat.le_refl _) _).alloc (by simp) _⟩
theorem rtake_no (a b c d : Nat) (k : Int) (hk : k < 0 ∨ 4 ≤ k) (n : Nat) (w : World) :
    Calls Try.prog 19 #[pv a b c d, .int .i64 k, .int .u64 (n : Int)] w fun e w' => e = .returned (.tuple #[pv 0 0 0 0, .int .i64 1]) ∧ Grew w w' := by
  unfold pv
  by_cases h1 : k < 0
  · have d1 : decide (k < 0) = true := decide_eq_true h1
    clear hk h1
    go_enter Try.func19, Try.ntmps19
    go_wp2
    exact bodyPost_ret (v := .tuple #[.agg #[.int .u64 ((0 : Nat) : Int), .int .u64 ((0 : Nat) : Int), .int .u64 ((0 : Nat) : Int), .int .u64 ((0 : Nat) : Int)], .int .i64 1]) (by simp [results, Try.results19, go_sem]) rfl ⟨rfl, by first | exact ((Below.refl _ w).alloc (Nat.le_refl _) _).alloc (by simp) _⟩
  · have d1 : decide (k < 0) = false := decide_eq_false h1
    have d2 : decide ((3 : Int) < k) = true := decide_eq_true (by omega)
    clear hk h1
    go_enter Try.func19, Try.ntmps19
    go_wp2
    exact bodyPost_ret (v := .tuple #[.agg #[.int .u64 ((0 : Nat) : Int), .int .u64 ((0 : Nat) : Int), .int .u64 ((0 : Nat) : Int), .int .u64 ((0 : Nat) : Int)], .int .i64 1]) (by simp [results, Try.results19, go_sem]) rfl ⟨rfl, by first | exact ((Below.refl _ w).alloc (Nat.le_refl _) _).alloc (by simp) _⟩
set_option maxHeartbeats 1000000 in
theorem rtake_0 (a b c d n : Nat) (ha : a < 18446744073709551616) (hb : b < 18446744073709551616) (hc : c < 18446744073709551616) (hd : d < 18446744073709551616) (hn : n < 18446744073709551616) (w : World) :
    Calls Try.prog 19 #[pv a b c d, .int .i64 0, .int .u64 (n : Int)] w fun e w' => e = .returned (chg minusN a b c d 0 n) ∧ Grew w w' := by
  have HM := Lib.hid (rminus_any a n ha hn)
  clear ha hb hc hd hn
  have hat : at4 a b c d 0 = a := rfl
  unfold chg
  rw [hat]
  clear hat
  rcases hx : minusN a n with ⟨x, q⟩
  rw [hx] at HM
  clear hx
  unfold two at HM
  by_cases h0 : q = 0
  · subst h0
    rw [if_pos rfl]
    unfold pv
    go_enter Try.func19, Try.ntmps19
    go_wp2_with fail
    refine (HM.out _).mono ?_
    rintro e w' ⟨rfl, rfl⟩
    go_wp2
    exact bodyPost_ret (v := .tuple #[.agg #[.int .u64 (x : Int), .int .u64 (b : Int), .int .u64 (c : Int), .int .u64 (d : Int)], .int .i64 0]) (by simp [results, Try.results19, go_sem]) rfl ⟨rfl, by first | exact ((Below.refl _ w).alloc (Nat.le_refl _) _).alloc (by simp) _⟩
  · have d0 : (q == 0) = false := by simpa using h0
    have d1 : (q != 0) = true := by simpa using h0
    rw [if_neg (show ¬ (x, q).2 = 0 from h0)]
    clear h0
    unfold pv
    go_enter Try.func19, Try.ntmps19
    go_wp2_with fail
    refine (HM.out _).mono ?_
    rintro e w' ⟨rfl, rfl⟩
    go_wp2
    exact bodyPost_ret (v := .tuple #[.agg #[.int .u64 ((0 : Nat) : Int), .int .u64 ((0 : Nat) : Int), .int .u64 ((0 : Nat) : Int), .int .u64 ((0 : Nat) : Int)], .int .i64 q]) (by simp [results, Try.results19, go_sem]) rfl ⟨rfl, by first | exact ((Below.refl _ w).alloc (Nat.le_refl _) _).alloc (by simp) _⟩
set_option maxHeartbeats 1000000 in
theorem rtake_1 (a b c d n : Nat) (ha : a < 18446744073709551616) (hb : b < 18446744073709551616) (hc : c < 18446744073709551616) (hd : d < 18446744073709551616) (hn : n < 18446744073709551616) (w : World) :
    Calls Try.prog 19 #[pv a b c d, .int .i64 1, .int .u64 (n : Int)] w fun e w' => e = .returned (chg minusN a b c d 1 n) ∧ Grew w w' := by
  have HM := Lib.hid (rminus_any b n hb hn)
  clear ha hb hc hd hn
  have hat : at4 a b c d 1 = b := rfl
  unfold chg
  rw [hat]
  clear hat
  rcases hx : minusN b n with ⟨x, q⟩
  rw [hx] at HM
  clear hx
  unfold two at HM
  by_cases h0 : q = 0
  · subst h0
    rw [if_pos rfl]
    unfold pv
    go_enter Try.func19, Try.ntmps19
    go_wp2_with fail
    refine (HM.out _).mono ?_
    rintro e w' ⟨rfl, rfl⟩
    go_wp2
    exact bodyPost_ret (v := .tuple #[.agg #[.int .u64 (a : Int), .int .u64 (x : Int), .int .u64 (c : Int), .int .u64 (d : Int)], .int .i64 0]) (by simp [results, Try.results19, go_sem]) rfl ⟨rfl, by first | exact ((Below.refl _ w).alloc (Nat.le_refl _) _).alloc (by simp) _⟩
  · have d0 : (q == 0) = false := by simpa using h0
    have d1 : (q != 0) = true := by simpa using h0
    rw [if_neg (show ¬ (x, q).2 = 0 from h0)]
    clear h0
    unfold pv
    go_enter Try.func19, Try.ntmps19
    go_wp2_with fail
    refine (HM.out _).mono ?_
    rintro e w' ⟨rfl, rfl⟩
    go_wp2
    exact bodyPost_ret (v := .tuple #[.agg #[.int .u64 ((0 : Nat) : Int), .int .u64 ((0 : Nat) : Int), .int .u64 ((0 : Nat) : Int), .int .u64 ((0 : Nat) : Int)], .int .i64 q]) (by simp [results, Try.results19, go_sem]) rfl ⟨rfl, by first | exact ((Below.refl _ w).alloc (Nat.le_refl _) _).alloc (by simp) _⟩
set_option maxHeartbeats 1000000 in
theorem rtake_2 (a b c d n : Nat) (ha : a < 18446744073709551616) (hb : b < 18446744073709551616) (hc : c < 18446744073709551616) (hd : d < 18446744073709551616) (hn : n < 18446744073709551616) (w : World) :
    Calls Try.prog 19 #[pv a b c d, .int .i64 2, .int .u64 (n : Int)] w fun e w' => e = .returned (chg minusN a b c d 2 n) ∧ Grew w w' := by
  have HM := Lib.hid (rminus_any c n hc hn)
  clear ha hb hc hd hn
  have hat : at4 a b c d 2 = c := rfl
  unfold chg
  rw [hat]
  clear hat
  rcases hx : minusN c n with ⟨x, q⟩
  rw [hx] at HM
  clear hx
  unfold two at HM
  by_cases h0 : q = 0
  · subst h0
    rw [if_pos rfl]
    unfold pv
    go_enter Try.func19, Try.ntmps19
    go_wp2_with fail
    refine (HM.out _).mono ?_
    rintro e w' ⟨rfl, rfl⟩
    go_wp2
    exact bodyPost_ret (v := .tuple #[.agg #[.int .u64 (a : Int), .int .u64 (b : Int), .int .u64 (x : Int), .int .u64 (d : Int)], .int .i64 0]) (by simp [results, Try.results19, go_sem]) rfl ⟨rfl, by first | exact ((Below.refl _ w).alloc (Nat.le_refl _) _).alloc (by simp) _⟩
  · have d0 : (q == 0) = false := by simpa using h0
    have d1 : (q != 0) = true := by simpa using h0
    rw [if_neg (show ¬ (x, q).2 = 0 from h0)]
    clear h0
    unfold pv
    go_enter Try.func19, Try.ntmps19
    go_wp2_with fail
    refine (HM.out _).mono ?_
    rintro e w' ⟨rfl, rfl⟩
    go_wp2
    exact bodyPost_ret (v := .tuple #[.agg #[.int .u64 ((0 : Nat) : Int), .int .u64 ((0 : Nat) : Int), .int .u64 ((0 : Nat) : Int), .int .u64 ((0 : Nat) : Int)], .int .i64 q]) (by simp [results, Try.results19, go_sem]) rfl ⟨rfl, by first | exact ((Below.refl _ w).alloc (Nat.le_refl _) _).alloc (by simp) _⟩
set_option maxHeartbeats 1000000 in
theorem rtake_3 (a b c d n : Nat) (ha : a < 18446744073709551616) (hb : b < 18446744073709551616) (hc : c < 18446744073709551616) (hd : d < 18446744073709551616) (hn : n < 18446744073709551616) (w : World) :
    Calls Try.prog 19 #[pv a b c d, .int .i64 3, .int .u64 (n : Int)] w fun e w' => e = .returned (chg minusN a b c d 3 n) ∧ Grew w w' := by
  have HM := Lib.hid (rminus_any d n hd hn)
  clear ha hb hc hd hn
  have hat : at4 a b c d 3 = d := rfl
  unfold chg
  rw [hat]
  clear hat
  rcases hx : minusN d n with ⟨x, q⟩
  rw [hx] at HM
  clear hx
  unfold two at HM
  by_cases h0 : q = 0
  · subst h0
    rw [if_pos rfl]
    unfold pv
    go_enter Try.func19, Try.ntmps19
    go_wp2_with fail
    refine (HM.out _).mono ?_
    rintro e w' ⟨rfl, rfl⟩
    go_wp2
    exact bodyPost_ret (v := .tuple #[.agg #[.int .u64 (a : Int), .int .u64 (b : Int), .int .u64 (c : Int), .int .u64 (x : Int)], .int .i64 0]) (by simp [results, Try.results19, go_sem]) rfl ⟨rfl, by first | exact ((Below.refl _ w).alloc (Nat.le_refl _) _).alloc (by simp) _⟩
  · have d0 : (q == 0) = false := by simpa using h0
    have d1 : (q != 0) = true := by simpa using h0
    rw [if_neg (show ¬ (x, q).2 = 0 from h0)]
    clear h0
    unfold pv
    go_enter Try.func19, Try.ntmps19
    go_wp2_with fail
    refine (HM.out _).mono ?_
    rintro e w' ⟨rfl, rfl⟩
    go_wp2
    exact bodyPost_ret (v := .tuple #[.agg #[.int .u64 ((0 : Nat) : Int), .int .u64 ((0 : Nat) : Int), .int .u64 ((0 : Nat) : Int), .int .u64 ((0 : Nat) : Int)], .int .i64 q]) (by simp [results, Try.results19, go_sem]) rfl ⟨rfl, by first | exact ((Below.refl _ w).alloc (Nat.le_refl _) _).alloc (by simp) _⟩
end Go.Proofs.Ytcgloenpliaioaa.CB
