/-
  A journal as it lies in memory; what only reads it: Room, refuses, New, made, Left, Next.
  Conditions: those that each lemma names.
-/
import Derived.Test.YtbnicphegbdfnaaDAlive
import Derived.Test.YtbnicphegbdfnaaSOpen
import Derived.Test.YtbnicphegbdfnaaChain
namespace Go.Proofs.Ytbnicphegbdfnaa.JA
set_option maxRecDepth 100000
set_option maxRecDepth 100000
open Go Go.RowKit Go.Proofs.Ytbnicphegbdfnaa Go.Proofs.Ytbnicphegbdfnaa.Facts Go.Proofs.Ytbnicphegbdfnaa.Bytes Go.Proofs.Ytbnicphegbdfnaa.DKeep Go.Proofs.Ytbnicphegbdfnaa.DSmall

def room (n : Int) : Int := if n < 1 then 0 else if 85401592933840516 < n then 9223372036854775807 else n * 108 - 4
theorem room_any (n : Int) (w : World) : Calls Try.prog 16 #[.int .i64 n] w fun e w' => e = .returned (.int .i64 (room n)) ∧ w = w' := by
  unfold room
  by_cases h1 : n < 1
  · rw [if_pos h1]
    go_enter Try.func16, Try.ntmps16
    go_wp2
    go_ret
    exact ⟨rfl, rfl⟩
  · rw [if_neg h1]
    by_cases h2 : 85401592933840516 < n
    · rw [if_pos h2]
      go_enter Try.func16, Try.ntmps16
      go_wp2
      go_ret
      exact ⟨rfl, rfl⟩
    · rw [if_neg h2]
      have e1 : IntKind.i64.wrap (n * 108) = n * 108 := IntWalk.i64_in _ (by omega)
      have e2 : IntKind.i64.wrap (n * 108 - 4) = n * 108 - 4 := IntWalk.i64_in _ (by omega)
      go_enter Try.func16, Try.ntmps16
      go_wp2
      go_ret
      exact ⟨rfl, rfl⟩
/-- Why there may be no such journal. -/
def jrefus (d : Pd) (first places each : Int) (base : Nat) : Int :=
  if places < 1 ∨ 16 < places ∨ each < 1 ∨ 16384 < each then 1 else if first < 0 ∨ (d.safe.length : Int) - places * each < first then 1 else if base < 1 ∨ 4611686018427387904 - places * each < (base : Int) then 1 else if d.off then 15 else 0
set_option maxHeartbeats 2000000 in
theorem jrefuses_any (w : World) (g : Nat) (D : Nat → Prop) (d : Pd) (first places each : Int) (base : Nat) (h : DK w g D d) (hb : base < 18446744073709551616) (hf1 : -9223372036854775808 ≤ first) (hf2 : first ≤ 9223372036854775807) :
    Calls Try.prog 65 #[.pointer (some ⟨g, 0, none⟩), .int .i64 first, .int .i64 places, .int .i64 each, .int .u64 (base : Int)] w fun e w' => e = .returned (.int .i64 (jrefus d first places each base)) ∧ w = w' := by
  have HSZ := Lib.hid (DSmall.size_any w g D d h)
  have HOF := Lib.hid (off_any w g D d h)
  unfold dptr at HSZ HOF
  obtain ⟨_, a, b, ca, cb, vw, h0, _⟩ := h
  have n1 := h0.ok.n1
  have n2 := h0.ok.n2
  clear h0
  obtain ⟨n, hn⟩ : ∃ n, n = d.safe.length := ⟨_, rfl⟩
  unfold jrefus
  rw [← hn] at HSZ n1 n2 ⊢
  have hn0 : ¬ ((n : Int) = 0) := by omega
  clear hn
  by_cases a1 : places < 1
  · rw [if_pos (.inl a1)]
    go_enter Try.func65, Try.ntmps65
    go_wp2_with fail
    refine HSZ.out.mono ?_
    rintro e w' ⟨rfl, rfl⟩
    go_wp2
    go_ret
    exact ⟨rfl, rfl⟩
  by_cases a2 : 16 < places
  · rw [if_pos (.inr (.inl a2))]
    go_enter Try.func65, Try.ntmps65
    go_wp2_with fail
    refine HSZ.out.mono ?_
    rintro e w' ⟨rfl, rfl⟩
    go_wp2
    go_ret
    exact ⟨rfl, rfl⟩
  by_cases a3 : each < 1
  · rw [if_pos (.inr (.inr (.inl a3)))]
    go_enter Try.func65, Try.ntmps65
    go_wp2_with fail
    refine HSZ.out.mono ?_
    rintro e w' ⟨rfl, rfl⟩
    go_wp2
    go_ret
    exact ⟨rfl, rfl⟩
  by_cases a4 : 16384 < each
  · rw [if_pos (.inr (.inr (.inr a4)))]
    go_enter Try.func65, Try.ntmps65
    go_wp2_with fail
    refine HSZ.out.mono ?_
    rintro e w' ⟨rfl, rfl⟩
    go_wp2
    go_ret
    exact ⟨rfl, rfl⟩
  rw [if_neg (by omega)]
  obtain ⟨pe, hpe⟩ : ∃ pe, places * each = pe := ⟨_, rfl⟩
  have hpe1 : 1 ≤ pe := by rw [← hpe]; exact Int.mul_pos (a := places) (b := each) (by omega) (by omega)
  have hpe2 : pe ≤ 262144 := by
    rw [← hpe]
    have h1 : places * each ≤ 16 * each := Int.mul_le_mul_of_nonneg_right (by omega) (by omega)
    omega
  have e1 : IntKind.i64.wrap pe = pe := IntWalk.i64_in _ (by omega)
  have e2 : IntKind.i64.wrap ((n : Int) - pe) = (n : Int) - pe := IntWalk.i64_in _ (by omega)
  have e3 : IntKind.u64.wrap pe = pe := by rw [IntKind.wrap_u64]; omega
  have e4 : IntKind.u64.wrap (4611686018427387904 - pe) = 4611686018427387904 - pe := by rw [IntKind.wrap_u64]; omega
  rw [hpe]
  by_cases b1 : first < 0
  · rw [if_pos (.inl b1)]
    go_enter Try.func65, Try.ntmps65
    go_wp2_with fail
    refine HSZ.out.mono ?_
    rintro e w' ⟨rfl, rfl⟩
    go_wp2
    go_ret
    exact ⟨rfl, rfl⟩
  by_cases b2 : (n : Int) - pe < first
  · rw [if_pos (.inr b2)]
    go_enter Try.func65, Try.ntmps65
    go_wp2_with fail
    refine HSZ.out.mono ?_
    rintro e w' ⟨rfl, rfl⟩
    go_wp2
    go_ret
    exact ⟨rfl, rfl⟩
  rw [if_neg (by omega)]
  by_cases c1 : base < 1
  · rw [if_pos (.inl c1)]
    have c1' : (base : Int) < 1 := by omega
    go_enter Try.func65, Try.ntmps65
    go_wp2_with fail
    refine HSZ.out.mono ?_
    rintro e w' ⟨rfl, rfl⟩
    go_wp2
    go_ret
    exact ⟨rfl, rfl⟩
  have c1' : ¬ (base : Int) < 1 := by omega
  by_cases c2 : 4611686018427387904 - pe < (base : Int)
  · rw [if_pos (.inr c2)]
    go_enter Try.func65, Try.ntmps65
    go_wp2_with fail
    refine HSZ.out.mono ?_
    rintro e w' ⟨rfl, rfl⟩
    go_wp2
    go_ret
    exact ⟨rfl, rfl⟩
  rw [if_neg (by omega)]
  clear c1
  cases ho : d.off with
  | true =>
    rw [ho] at HOF
    clear ho
    rw [if_pos rfl]
    go_enter Try.func65, Try.ntmps65
    go_wp2_with fail
    refine HSZ.out.mono ?_
    rintro e w' ⟨rfl, rfl⟩
    go_wp2_with fail
    refine HOF.out.mono ?_
    rintro e w' ⟨rfl, rfl⟩
    go_wp2
    go_ret
    exact ⟨rfl, rfl⟩
  | false =>
    rw [ho] at HOF
    clear ho
    rw [if_neg (by decide)]
    go_enter Try.func65, Try.ntmps65
    go_wp2_with fail
    refine HSZ.out.mono ?_
    rintro e w' ⟨rfl, rfl⟩
    go_wp2_with fail
    refine HOF.out.mono ?_
    rintro e w' ⟨rfl, rfl⟩
    go_wp2
    go_ret
    exact ⟨rfl, rfl⟩
end Go.Proofs.Ytbnicphegbdfnaa.JA
