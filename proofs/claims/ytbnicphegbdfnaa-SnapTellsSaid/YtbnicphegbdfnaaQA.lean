/-
  The document's areas and snapshots: whether they can be gone to.
  Conditions: those that each lemma names.
-/
import Derived.Test.YtbnicphegbdfnaaDLawA
import Derived.Test.YtbnicphegbdfnaaSN
namespace Go.Proofs.Ytbnicphegbdfnaa.QA
set_option maxRecDepth 100000
open Go Go.RowKit Go.Proofs.Ytbnicphegbdfnaa Go.Proofs.Ytbnicphegbdfnaa.Facts Go.Proofs.Ytbnicphegbdfnaa.Bytes Go.Proofs.Ytbnicphegbdfnaa.DKeep Go.Proofs.Ytbnicphegbdfnaa.DSmall Go.Proofs.Ytbnicphegbdfnaa.DRefA Go.Proofs.Ytbnicphegbdfnaa.DRefB Go.Proofs.Ytbnicphegbdfnaa.DSim Go.Proofs.Ytbnicphegbdfnaa.DRefD Go.Proofs.Ytbnicphegbdfnaa.AP Go.Proofs.Ytbnicphegbdfnaa.AQ Go.Proofs.Ytbnicphegbdfnaa.AA

/-- Why an area can't be gone to. -/
def aref (n : Nat) (off : Bool) (first many : Int) : Int := if many < 1 ∨ first < 0 ∨ (n : Int) - many < first then 1 else if off then 15 else 0
theorem aref_is (d : Pd) (first many : Int) : arefus d first many = aref d.safe.length d.off first many := rfl
/-- Why two areas can't be gone to. -/
def sref (n : Nat) (off : Bool) (first many : Int) : Int := if many < 1 ∨ (n : Int) < many then 1 else if first < 0 ∨ (n : Int) - 2 * many < first then 1 else if off then 15 else 0
theorem sref_is (d : Pd) (first many : Int) : SN.srefus d first many = sref d.safe.length d.off first many := rfl
set_option maxHeartbeats 4000000 in
theorem aable_any (A1 A2 A3 : Option Addr) (n n2 n3 c1 c2 c3 : Nat) (f : Int) (off : Bool) (first many : Int) (w : World) (hn : n ≤ 16384) :
    Calls Try.prog 117 #[dv A1 A2 A3 n n2 n3 c1 c2 c3 f off, .int .i64 first, .int .i64 many] w fun e w' => e = .returned (.int .i64 (aref n off first many)) ∧ Grew w w' := by
  unfold aref dv
  by_cases a1 : many < 1
  · rw [if_pos (.inl a1)]
    go_enter Try.func117, Try.ntmps117
    go_wp2
    go_ret
    exact ⟨rfl, (Below.refl _ _).alloc (Nat.le_refl _) _⟩
  by_cases a2 : first < 0
  · rw [if_pos (.inr (.inl a2))]
    go_enter Try.func117, Try.ntmps117
    go_wp2
    go_ret
    exact ⟨rfl, (Below.refl _ _).alloc (Nat.le_refl _) _⟩
  by_cases a3 : (n : Int) < first
  · rw [if_pos (by omega)]
    go_enter Try.func117, Try.ntmps117
    go_wp2
    go_ret
    exact ⟨rfl, (Below.refl _ _).alloc (Nat.le_refl _) _⟩
  have e1 : IntKind.i64.wrap ((n : Int) - first) = (n : Int) - first := IntWalk.i64_in _ (by omega)
  by_cases a4 : (n : Int) - first < many
  · rw [if_pos (by omega)]
    go_enter Try.func117, Try.ntmps117
    go_wp2
    go_ret
    exact ⟨rfl, (Below.refl _ _).alloc (Nat.le_refl _) _⟩
  rw [if_neg (by omega)]
  cases off with
  | true =>
    rw [if_pos rfl]
    go_enter Try.func117, Try.ntmps117
    go_wp2
    go_ret
    exact ⟨rfl, (Below.refl _ _).alloc (Nat.le_refl _) _⟩
  | false =>
    rw [if_neg (by decide)]
    go_enter Try.func117, Try.ntmps117
    go_wp2
    go_ret
    exact ⟨rfl, (Below.refl _ _).alloc (Nat.le_refl _) _⟩
set_option maxHeartbeats 4000000 in
theorem sable_any (A1 A2 A3 : Option Addr) (n n2 n3 c1 c2 c3 : Nat) (f : Int) (off : Bool) (first many : Int) (w : World) (hn : n ≤ 16384) :
    Calls Try.prog 78 #[dv A1 A2 A3 n n2 n3 c1 c2 c3 f off, .int .i64 first, .int .i64 many] w fun e w' => e = .returned (.int .i64 (sref n off first many)) ∧ Grew w w' := by
  unfold sref dv
  by_cases a1 : many < 1
  · rw [if_pos (.inl a1)]
    go_enter Try.func78, Try.ntmps78
    go_wp2
    go_ret
    exact ⟨rfl, (Below.refl _ _).alloc (Nat.le_refl _) _⟩
  by_cases a2 : 16384 < many
  · rw [if_pos (.inr (by omega))]
    go_enter Try.func78, Try.ntmps78
    go_wp2
    go_ret
    exact ⟨rfl, (Below.refl _ _).alloc (Nat.le_refl _) _⟩
  by_cases a3 : first < 0
  · have hx : (if many < 1 ∨ (n : Int) < many then (1 : Int) else if first < 0 ∨ (n : Int) - 2 * many < first then 1 else if off = true then 15 else 0) = 1 := by
      split
      · rfl
      · rw [if_pos (.inl a3)]
    rw [hx]
    go_enter Try.func78, Try.ntmps78
    go_wp2
    go_ret
    exact ⟨rfl, (Below.refl _ _).alloc (Nat.le_refl _) _⟩
  have e1 : IntKind.i64.wrap (2 * many) = 2 * many := IntWalk.i64_in _ (by omega)
  by_cases a4 : (n : Int) < first
  · have hx : (if many < 1 ∨ (n : Int) < many then (1 : Int) else if first < 0 ∨ (n : Int) - 2 * many < first then 1 else if off = true then 15 else 0) = 1 := by
      split
      · rfl
      · rw [if_pos (by omega)]
    rw [hx]
    go_enter Try.func78, Try.ntmps78
    go_wp2
    go_ret
    exact ⟨rfl, (Below.refl _ _).alloc (Nat.le_refl _) _⟩
  have e2 : IntKind.i64.wrap ((n : Int) - first) = (n : Int) - first := IntWalk.i64_in _ (by omega)
  by_cases a5 : (n : Int) - first < 2 * many
  · have hx : (if many < 1 ∨ (n : Int) < many then (1 : Int) else if first < 0 ∨ (n : Int) - 2 * many < first then 1 else if off = true then 15 else 0) = 1 := by
      split
      · rfl
      · rw [if_pos (by omega)]
    rw [hx]
    go_enter Try.func78, Try.ntmps78
    go_wp2
    go_ret
    exact ⟨rfl, (Below.refl _ _).alloc (Nat.le_refl _) _⟩
  rw [if_neg (by omega), if_neg (by omega)]
  cases off with
  | true =>
    rw [if_pos rfl]
    go_enter Try.func78, Try.ntmps78
    go_wp2
    go_ret
    exact ⟨rfl, (Below.refl _ _).alloc (Nat.le_refl _) _⟩
  | false =>
    rw [if_neg (by decide)]
    go_enter Try.func78, Try.ntmps78
    go_wp2
    go_ret
    exact ⟨rfl, (Below.refl _ _).alloc (Nat.le_refl _) _⟩
end Go.Proofs.Ytbnicphegbdfnaa.QA
