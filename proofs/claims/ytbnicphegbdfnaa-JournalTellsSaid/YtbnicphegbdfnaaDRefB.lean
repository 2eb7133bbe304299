/-
  The document's own disk: fuse and read.
  Conditions: none beyond those that each lemma names.
-/
import Derived.Test.YtbnicphegbdfnaaDRefA
namespace Go.Proofs.Ytbnicphegbdfnaa.DRefB
set_option maxRecDepth 100000
set_option maxRecDepth 100000
open Go Go.RowKit Go.Proofs.Ytbnicphegbdfnaa Go.Proofs.Ytbnicphegbdfnaa.Facts Go.Proofs.Ytbnicphegbdfnaa.Bytes Go.Proofs.Ytbnicphegbdfnaa.DKeep Go.Proofs.Ytbnicphegbdfnaa.DRefA

section
variable (A1 A2 A3 : Option Addr) (n1 n2 n3 c1 c2 c3 : Nat) (f : Int) (o : Bool)
theorem rfused_any (n : Int) (w : World) : Calls Try.prog 31 #[dv A1 A2 A3 n1 n2 n3 c1 c2 c3 f o, .int .i64 n] w fun e w' => e = .returned (dv A1 A2 A3 n1 n2 n3 c1 c2 c3 (max n (-1)) o) ∧ Grew w w' := by
  unfold dv
  by_cases h : n < 0
  · go_enter Try.func31, Try.ntmps31
    go_wp2
    go_returns
    exact ⟨by rw [show max n (-1) = -1 by omega], by unfold Grew; go_grown⟩
  · go_enter Try.func31, Try.ntmps31
    go_wp2
    go_returns
    exact ⟨by rw [show max n (-1) = n by omega], by unfold Grew; go_grown⟩
/-- What a read answers. -/
def rread (l : List Sec) (off : Bool) (n : Int) : Sec × Int := if off then ([], 15) else if n < 0 ∨ (l.length : Int) ≤ n then ([], 16) else (l[n.toNat]?.getD [], 0)
end
end Go.Proofs.Ytbnicphegbdfnaa.DRefB
