/-
  What a line may be told, by the document.
  Conditions: those that each lemma names.
-/
import Derived.Test.YthgigkklefaeeaaRH
namespace Go.Proofs.Ythgigkklefaeeaa.RS
set_option maxRecDepth 100000
open Go Go.RowKit Go.Lib Go.Proofs.Ythgigkklefaeeaa Go.Proofs.Ythgigkklefaeeaa.Facts Go.Proofs.Ythgigkklefaeeaa.Bytes Go.Proofs.Ythgigkklefaeeaa.Puts Go.Proofs.Ythgigkklefaeeaa.Scan Go.Proofs.Ythgigkklefaeeaa.Take Go.Proofs.Ythgigkklefaeeaa.Nums Go.Proofs.Ythgigkklefaeeaa.SumPure Go.Proofs.Ythgigkklefaeeaa.Sum Go.Proofs.Ythgigkklefaeeaa.FP Go.Proofs.Ythgigkklefaeeaa.FW Go.Proofs.Ythgigkklefaeeaa.FX Go.Proofs.Ythgigkklefaeeaa.Ints Go.Proofs.Ythgigkklefaeeaa.PA Go.Proofs.Ythgigkklefaeeaa.RA Go.Proofs.Ythgigkklefaeeaa.RC Go.Proofs.Ythgigkklefaeeaa.RD Go.Proofs.Ythgigkklefaeeaa.RE Go.Proofs.Ythgigkklefaeeaa.RF Go.Proofs.Ythgigkklefaeeaa.RG Go.Proofs.Ythgigkklefaeeaa.RH

theorem may_iff (k o e : Int) (n : Nat) : mayP k o e n = true ↔ (1 ≤ k ∧ k ≤ 5 ∧ 0 ≤ e ∧ e ≤ 18 ∧ n ≤ 247 ∧ (k = 1 → 1 ≤ o ∧ o ≤ 42) ∧ (k ≠ 1 → o = 0) ∧ (k = 5 → e ≠ 0) ∧ (1 < k ∧ k < 5 → e = 0) ∧ (e = 0 ∨ n = 0)) := by
  unfold mayP okI rl row
  by_cases k1 : k = 1
  · subst k1
    simp
    omega
  · by_cases k5 : k = 5
    · subst k5
      simp
      omega
    · simp [k1, k5]
      omega
theorem may_no {k o e : Int} {n : Nat} (h : ¬ (1 ≤ k ∧ k ≤ 5 ∧ 0 ≤ e ∧ e ≤ 18 ∧ n ≤ 247 ∧ (k = 1 → 1 ≤ o ∧ o ≤ 42) ∧ (k ≠ 1 → o = 0) ∧ (k = 5 → e ≠ 0) ∧ (1 < k ∧ k < 5 → e = 0) ∧ (e = 0 ∨ n = 0))) : mayP k o e n = false := by
  cases hm : mayP k o e n with
  | false => rfl
  | true => exact absurd ((may_iff k o e n).1 hm) h
set_option maxHeartbeats 4000000 in
theorem rmay_core (k o e : Int) (A : Option Addr) (n c : Nat) (w : World) (B : Bool) (hB : mayP k o e n = B) :
    Calls Try.prog 12 #[.agg #[.int .i64 k, .int .i64 o, .int .i64 e, .slice A n c]] w fun x w' => x = .returned (.bool B) ∧ Grew w w' := by
  have G0 : Hid (Grew w (w.alloc (.cells #[.int .i64 k, .int .i64 o, .int .i64 e, .slice A n c] 25))) := Lib.hid (by unfold Grew; go_grown)
  by_cases hk1 : k < 1
  case pos =>
    have hb : B = false := by rw [← hB]; exact may_no (by omega)
    subst hb
    clear hB
    have d0 : decide (k < 1) = true := decide_eq_true (by omega)
    clear hk1
    go_enter Try.func12, Try.ntmps12
    go_wp2
    go_returns
    exact ⟨rfl, G0.out⟩
  case neg =>
    by_cases hk2 : 5 < k
    case pos =>
      have hb : B = false := by rw [← hB]; exact may_no (by omega)
      subst hb
      clear hB
      have d0 : decide (k < 1) = false := decide_eq_false (by omega)
      have d1 : decide (5 < k) = true := decide_eq_true (by omega)
      clear hk1 hk2
      go_enter Try.func12, Try.ntmps12
      go_wp2
      go_returns
      exact ⟨rfl, G0.out⟩
    case neg =>
      by_cases he1 : e < 0
      case pos =>
        have hb : B = false := by rw [← hB]; exact may_no (by omega)
        subst hb
        clear hB
        have d0 : decide (k < 1) = false := decide_eq_false (by omega)
        have d1 : decide (5 < k) = false := decide_eq_false (by omega)
        have d2 : decide (e < 0) = true := decide_eq_true (by omega)
        clear he1 hk1 hk2
        go_enter Try.func12, Try.ntmps12
        go_wp2
        go_returns
        exact ⟨rfl, G0.out⟩
      case neg =>
        by_cases he2 : 18 < e
        case pos =>
          have hb : B = false := by rw [← hB]; exact may_no (by omega)
          subst hb
          clear hB
          have d0 : decide (k < 1) = false := decide_eq_false (by omega)
          have d1 : decide (5 < k) = false := decide_eq_false (by omega)
          have d2 : decide (e < 0) = false := decide_eq_false (by omega)
          have d3 : decide (18 < e) = true := decide_eq_true (by omega)
          clear he1 he2 hk1 hk2
          go_enter Try.func12, Try.ntmps12
          go_wp2
          go_returns
          exact ⟨rfl, G0.out⟩
        case neg =>
          by_cases hn1 : 247 < n
          case pos =>
            have hb : B = false := by rw [← hB]; exact may_no (by omega)
            subst hb
            clear hB
            have d0 : decide (k < 1) = false := decide_eq_false (by omega)
            have d1 : decide (5 < k) = false := decide_eq_false (by omega)
            have d2 : decide (e < 0) = false := decide_eq_false (by omega)
            have d3 : decide (18 < e) = false := decide_eq_false (by omega)
            have d4 : decide (247 < (n : Int)) = true := decide_eq_true (by omega)
            clear he1 he2 hk1 hk2 hn1
            go_enter Try.func12, Try.ntmps12
            go_wp2
            go_returns
            exact ⟨rfl, G0.out⟩
          case neg =>
            by_cases hk3 : k = 1
            case pos =>
              by_cases ho1 : o < 1
              case pos =>
                have hb : B = false := by rw [← hB]; exact may_no (by omega)
                subst hb
                clear hB
                have d0 : decide (k < 1) = false := decide_eq_false (by omega)
                have d1 : decide (5 < k) = false := decide_eq_false (by omega)
                have d2 : decide (e < 0) = false := decide_eq_false (by omega)
                have d3 : decide (18 < e) = false := decide_eq_false (by omega)
                have d4 : decide (247 < (n : Int)) = false := decide_eq_false (by omega)
                have d5 : (k == 1) = true := by simp; omega
                have d6 : (k != 1) = false := by simp; omega
                have d7 : (k == 5) = false := by simp; omega
                have d8 : decide (1 < k) = false := decide_eq_false (by omega)
                have d9 : decide (o < 1) = true := decide_eq_true (by omega)
                clear he1 he2 hk1 hk2 hk3 hn1 ho1
                go_enter Try.func12, Try.ntmps12
                go_wp2
                go_returns
                exact ⟨rfl, G0.out⟩
              case neg =>
                by_cases ho2 : 42 < o
                case pos =>
                  have hb : B = false := by rw [← hB]; exact may_no (by omega)
                  subst hb
                  clear hB
                  have d0 : decide (k < 1) = false := decide_eq_false (by omega)
                  have d1 : decide (5 < k) = false := decide_eq_false (by omega)
                  have d2 : decide (e < 0) = false := decide_eq_false (by omega)
                  have d3 : decide (18 < e) = false := decide_eq_false (by omega)
                  have d4 : decide (247 < (n : Int)) = false := decide_eq_false (by omega)
                  have d5 : (k == 1) = true := by simp; omega
                  have d6 : (k != 1) = false := by simp; omega
                  have d7 : (k == 5) = false := by simp; omega
                  have d8 : decide (1 < k) = false := decide_eq_false (by omega)
                  have d9 : decide (o < 1) = false := decide_eq_false (by omega)
                  have d10 : decide (42 < o) = true := decide_eq_true (by omega)
                  clear he1 he2 hk1 hk2 hk3 hn1 ho1 ho2
                  go_enter Try.func12, Try.ntmps12
                  go_wp2
                  go_returns
                  exact ⟨rfl, G0.out⟩
                case neg =>
                  by_cases he0 : e = 0
                  case pos =>
                    have hb : B = true := by rw [← hB]; exact (may_iff k o e n).2 (by omega)
                    subst hb
                    clear hB
                    have d0 : decide (k < 1) = false := decide_eq_false (by omega)
                    have d1 : decide (5 < k) = false := decide_eq_false (by omega)
                    have d2 : decide (e < 0) = false := decide_eq_false (by omega)
                    have d3 : decide (18 < e) = false := decide_eq_false (by omega)
                    have d4 : decide (247 < (n : Int)) = false := decide_eq_false (by omega)
                    have d5 : (k == 1) = true := by simp; omega
                    have d6 : (k != 1) = false := by simp; omega
                    have d7 : (k == 5) = false := by simp; omega
                    have d8 : decide (1 < k) = false := decide_eq_false (by omega)
                    have d9 : decide (o < 1) = false := decide_eq_false (by omega)
                    have d10 : decide (42 < o) = false := decide_eq_false (by omega)
                    have d11 : (e == 0) = true := by simp; omega
                    have d12 : (e != 0) = false := by simp; omega
                    clear he0 he1 he2 hk1 hk2 hk3 hn1 ho1 ho2
                    go_enter Try.func12, Try.ntmps12
                    go_wp2
                    go_returns
                    exact ⟨rfl, G0.out⟩
                  case neg =>
                    by_cases hn0 : n = 0
                    case pos =>
                      have hb : B = true := by rw [← hB]; exact (may_iff k o e n).2 (by omega)
                      subst hb
                      clear hB
                      have d0 : decide (k < 1) = false := decide_eq_false (by omega)
                      have d1 : decide (5 < k) = false := decide_eq_false (by omega)
                      have d2 : decide (e < 0) = false := decide_eq_false (by omega)
                      have d3 : decide (18 < e) = false := decide_eq_false (by omega)
                      have d4 : decide (247 < (n : Int)) = false := decide_eq_false (by omega)
                      have d5 : (k == 1) = true := by simp; omega
                      have d6 : (k != 1) = false := by simp; omega
                      have d7 : (k == 5) = false := by simp; omega
                      have d8 : decide (1 < k) = false := decide_eq_false (by omega)
                      have d9 : decide (o < 1) = false := decide_eq_false (by omega)
                      have d10 : decide (42 < o) = false := decide_eq_false (by omega)
                      have d11 : (e == 0) = false := by simp; omega
                      have d12 : (e != 0) = true := by simp; omega
                      have d13 : ((n : Int) == 0) = true := by simp; omega
                      clear he0 he1 he2 hk1 hk2 hk3 hn0 hn1 ho1 ho2
                      go_enter Try.func12, Try.ntmps12
                      go_wp2
                      go_returns
                      exact ⟨rfl, G0.out⟩
                    case neg =>
                      have hb : B = false := by rw [← hB]; exact may_no (by omega)
                      subst hb
                      clear hB
                      have d0 : decide (k < 1) = false := decide_eq_false (by omega)
                      have d1 : decide (5 < k) = false := decide_eq_false (by omega)
                      have d2 : decide (e < 0) = false := decide_eq_false (by omega)
                      have d3 : decide (18 < e) = false := decide_eq_false (by omega)
                      have d4 : decide (247 < (n : Int)) = false := decide_eq_false (by omega)
                      have d5 : (k == 1) = true := by simp; omega
                      have d6 : (k != 1) = false := by simp; omega
                      have d7 : (k == 5) = false := by simp; omega
                      have d8 : decide (1 < k) = false := decide_eq_false (by omega)
                      have d9 : decide (o < 1) = false := decide_eq_false (by omega)
                      have d10 : decide (42 < o) = false := decide_eq_false (by omega)
                      have d11 : (e == 0) = false := by simp; omega
                      have d12 : (e != 0) = true := by simp; omega
                      have d13 : ((n : Int) == 0) = false := by simp; omega
                      clear he0 he1 he2 hk1 hk2 hk3 hn0 hn1 ho1 ho2
                      go_enter Try.func12, Try.ntmps12
                      go_wp2
                      go_returns
                      exact ⟨rfl, G0.out⟩
            case neg =>
              by_cases hk4 : k = 5
              case pos =>
                by_cases ho0 : o = 0
                case pos =>
                  by_cases he0 : e = 0
                  case pos =>
                    have hb : B = false := by rw [← hB]; exact may_no (by omega)
                    subst hb
                    clear hB
                    have d0 : decide (k < 1) = false := decide_eq_false (by omega)
                    have d1 : decide (5 < k) = false := decide_eq_false (by omega)
                    have d2 : decide (e < 0) = false := decide_eq_false (by omega)
                    have d3 : decide (18 < e) = false := decide_eq_false (by omega)
                    have d4 : decide (247 < (n : Int)) = false := decide_eq_false (by omega)
                    have d5 : (k == 1) = false := by simp; omega
                    have d6 : (k != 1) = true := by simp; omega
                    have d7 : (k == 5) = true := by simp; omega
                    have d8 : decide (1 < k) = true := decide_eq_true (by omega)
                    have d9 : decide (k < 5) = false := decide_eq_false (by omega)
                    have d10 : (o == 0) = true := by simp; omega
                    have d11 : (o != 0) = false := by simp; omega
                    have d12 : (e == 0) = true := by simp; omega
                    have d13 : (e != 0) = false := by simp; omega
                    clear he0 he1 he2 hk1 hk2 hk3 hk4 hn1 ho0
                    go_enter Try.func12, Try.ntmps12
                    go_wp2
                    go_returns
                    exact ⟨rfl, G0.out⟩
                  case neg =>
                    by_cases hn0 : n = 0
                    case pos =>
                      have hb : B = true := by rw [← hB]; exact (may_iff k o e n).2 (by omega)
                      subst hb
                      clear hB
                      have d0 : decide (k < 1) = false := decide_eq_false (by omega)
                      have d1 : decide (5 < k) = false := decide_eq_false (by omega)
                      have d2 : decide (e < 0) = false := decide_eq_false (by omega)
                      have d3 : decide (18 < e) = false := decide_eq_false (by omega)
                      have d4 : decide (247 < (n : Int)) = false := decide_eq_false (by omega)
                      have d5 : (k == 1) = false := by simp; omega
                      have d6 : (k != 1) = true := by simp; omega
                      have d7 : (k == 5) = true := by simp; omega
                      have d8 : decide (1 < k) = true := decide_eq_true (by omega)
                      have d9 : decide (k < 5) = false := decide_eq_false (by omega)
                      have d10 : (o != 0) = false := by simp; omega
                      have d11 : (e == 0) = false := by simp; omega
                      have d12 : (e != 0) = true := by simp; omega
                      have d13 : ((n : Int) == 0) = true := by simp; omega
                      clear he0 he1 he2 hk1 hk2 hk3 hk4 hn0 hn1 ho0
                      go_enter Try.func12, Try.ntmps12
                      go_wp2
                      go_returns
                      exact ⟨rfl, G0.out⟩
                    case neg =>
                      have hb : B = false := by rw [← hB]; exact may_no (by omega)
                      subst hb
                      clear hB
                      have d0 : decide (k < 1) = false := decide_eq_false (by omega)
                      have d1 : decide (5 < k) = false := decide_eq_false (by omega)
                      have d2 : decide (e < 0) = false := decide_eq_false (by omega)
                      have d3 : decide (18 < e) = false := decide_eq_false (by omega)
                      have d4 : decide (247 < (n : Int)) = false := decide_eq_false (by omega)
                      have d5 : (k == 1) = false := by simp; omega
                      have d6 : (k != 1) = true := by simp; omega
                      have d7 : (k == 5) = true := by simp; omega
                      have d8 : decide (1 < k) = true := decide_eq_true (by omega)
                      have d9 : decide (k < 5) = false := decide_eq_false (by omega)
                      have d10 : (o != 0) = false := by simp; omega
                      have d11 : (e == 0) = false := by simp; omega
                      have d12 : (e != 0) = true := by simp; omega
                      have d13 : ((n : Int) == 0) = false := by simp; omega
                      clear he0 he1 he2 hk1 hk2 hk3 hk4 hn0 hn1 ho0
                      go_enter Try.func12, Try.ntmps12
                      go_wp2
                      go_returns
                      exact ⟨rfl, G0.out⟩
                case neg =>
                  have hb : B = false := by rw [← hB]; exact may_no (by omega)
                  subst hb
                  clear hB
                  have d0 : decide (k < 1) = false := decide_eq_false (by omega)
                  have d1 : decide (5 < k) = false := decide_eq_false (by omega)
                  have d2 : decide (e < 0) = false := decide_eq_false (by omega)
                  have d3 : decide (18 < e) = false := decide_eq_false (by omega)
                  have d4 : decide (247 < (n : Int)) = false := decide_eq_false (by omega)
                  have d5 : (k == 1) = false := by simp; omega
                  have d6 : (k != 1) = true := by simp; omega
                  have d7 : (k == 5) = true := by simp; omega
                  have d8 : decide (1 < k) = true := decide_eq_true (by omega)
                  have d9 : decide (k < 5) = false := decide_eq_false (by omega)
                  have d10 : (o != 0) = true := by simp; omega
                  clear he1 he2 hk1 hk2 hk3 hk4 hn1 ho0
                  go_enter Try.func12, Try.ntmps12
                  go_wp2
                  go_returns
                  exact ⟨rfl, G0.out⟩
              case neg =>
                by_cases ho0 : o = 0
                case pos =>
                  by_cases he0 : e = 0
                  case pos =>
                    have hb : B = true := by rw [← hB]; exact (may_iff k o e n).2 (by omega)
                    subst hb
                    clear hB
                    have d0 : decide (k < 1) = false := decide_eq_false (by omega)
                    have d1 : decide (5 < k) = false := decide_eq_false (by omega)
                    have d2 : decide (e < 0) = false := decide_eq_false (by omega)
                    have d3 : decide (18 < e) = false := decide_eq_false (by omega)
                    have d4 : decide (247 < (n : Int)) = false := decide_eq_false (by omega)
                    have d5 : (k == 1) = false := by simp; omega
                    have d6 : (k != 1) = true := by simp; omega
                    have d7 : (k == 5) = false := by simp; omega
                    have d8 : decide (1 < k) = true := decide_eq_true (by omega)
                    have d9 : decide (k < 5) = true := decide_eq_true (by omega)
                    have d10 : (o != 0) = false := by simp; omega
                    have d11 : (e == 0) = true := by simp; omega
                    have d12 : (e != 0) = false := by simp; omega
                    clear he0 he1 he2 hk1 hk2 hk3 hk4 hn1 ho0
                    go_enter Try.func12, Try.ntmps12
                    go_wp2
                    go_returns
                    exact ⟨rfl, G0.out⟩
                  case neg =>
                    have hb : B = false := by rw [← hB]; exact may_no (by omega)
                    subst hb
                    clear hB
                    have d0 : decide (k < 1) = false := decide_eq_false (by omega)
                    have d1 : decide (5 < k) = false := decide_eq_false (by omega)
                    have d2 : decide (e < 0) = false := decide_eq_false (by omega)
                    have d3 : decide (18 < e) = false := decide_eq_false (by omega)
                    have d4 : decide (247 < (n : Int)) = false := decide_eq_false (by omega)
                    have d5 : (k == 1) = false := by simp; omega
                    have d6 : (k != 1) = true := by simp; omega
                    have d7 : (k == 5) = false := by simp; omega
                    have d8 : decide (1 < k) = true := decide_eq_true (by omega)
                    have d9 : decide (k < 5) = true := decide_eq_true (by omega)
                    have d10 : (o != 0) = false := by simp; omega
                    have d11 : (e == 0) = false := by simp; omega
                    have d12 : (e != 0) = true := by simp; omega
                    clear he0 he1 he2 hk1 hk2 hk3 hk4 hn1 ho0
                    go_enter Try.func12, Try.ntmps12
                    go_wp2
                    go_returns
                    exact ⟨rfl, G0.out⟩
                case neg =>
                  have hb : B = false := by rw [← hB]; exact may_no (by omega)
                  subst hb
                  clear hB
                  have d0 : decide (k < 1) = false := decide_eq_false (by omega)
                  have d1 : decide (5 < k) = false := decide_eq_false (by omega)
                  have d2 : decide (e < 0) = false := decide_eq_false (by omega)
                  have d3 : decide (18 < e) = false := decide_eq_false (by omega)
                  have d4 : decide (247 < (n : Int)) = false := decide_eq_false (by omega)
                  have d5 : (k == 1) = false := by simp; omega
                  have d6 : (k != 1) = true := by simp; omega
                  have d7 : (k == 5) = false := by simp; omega
                  have d8 : decide (1 < k) = true := decide_eq_true (by omega)
                  have d9 : decide (k < 5) = true := decide_eq_true (by omega)
                  have d10 : (o != 0) = true := by simp; omega
                  clear he1 he2 hk1 hk2 hk3 hk4 hn1 ho0
                  go_enter Try.func12, Try.ntmps12
                  go_wp2
                  go_returns
                  exact ⟨rfl, G0.out⟩
theorem rmay_any (k o e : Int) (A : Option Addr) (n c : Nat) (w : World) :
    Calls Try.prog 12 #[.agg #[.int .i64 k, .int .i64 o, .int .i64 e, .slice A n c]] w fun x w' => x = .returned (.bool (mayP k o e n)) ∧ Grew w w' := rmay_core k o e A n c w _ rfl
end Go.Proofs.Ythgigkklefaeeaa.RS
