/-
  The document's own disk: fuse and read.
  Conditions: none beyond those that each lemma names.
-/
import Derived.Test.YtiajjkjdmcoodaaDRefA
namespace Go.Proofs.Ytiajjkjdmcoodaa.DRefB
set_option maxRecDepth 100000
open Go Go.RowKit Go.Proofs.Ytiajjkjdmcoodaa Go.Proofs.Ytiajjkjdmcoodaa.Facts Go.Proofs.Ytiajjkjdmcoodaa.Bytes Go.Proofs.Ytiajjkjdmcoodaa.DKeep Go.Proofs.Ytiajjkjdmcoodaa.DRefA

section
variable (A1 A2 A3 : Option Addr) (n1 n2 n3 c1 c2 c3 : Nat) (f : Int) (o : Bool)
theorem rfused_any (n : Int) (w : World) : Calls Try.prog 16 #[dv A1 A2 A3 n1 n2 n3 c1 c2 c3 f o, .int .i64 n] w fun e w' => e = .returned (dv A1 A2 A3 n1 n2 n3 c1 c2 c3 (max n (-1)) o) ∧ Grew w w' := by
  unfold dv
  by_cases h : n < 0
  · go_enter Try.func16, Try.ntmps16
    go_wp2
    go_returns
    exact ⟨by rw [show max n (-1) = -1 by omega], by unfold Grew; go_grown⟩
  · go_enter Try.func16, Try.ntmps16
    go_wp2
    go_returns
    exact ⟨by rw [show max n (-1) = n by omega], by unfold Grew; go_grown⟩
/-- What a read answers. -/
def rread (l : List Sec) (off : Bool) (n : Int) : Sec × Int := if off then ([], 15) else if n < 0 ∨ (l.length : Int) ≤ n then ([], 16) else (l[n.toNat]?.getD [], 0)
theorem rread_any (l : List Sec) (n : Int) (w : World) (h : SR w (.slice A1 l.length c1) l) :
    Calls Try.prog 20 #[dv A1 A2 A3 l.length n2 n3 c1 c2 c3 f o, .int .i64 n] w fun e w' => e = .returned (.tuple #[sv (rread l o n).1, .int .i64 (rread l o n).2]) ∧ Grew w w' := by
  unfold dv rread sv
  cases o with
  | true =>
    go_enter Try.func20, Try.ntmps20
    go_wp2
    go_returns
    exact ⟨by simp, by unfold Grew; go_grown⟩
  | false =>
    by_cases h0 : n < 0
    · go_enter Try.func20, Try.ntmps20
      go_wp2
      go_returns
      exact ⟨by simp, by unfold Grew; go_grown⟩
    · by_cases h1 : (l.length : Int) ≤ n
      · go_enter Try.func20, Try.ntmps20
        go_wp2
        go_returns
        exact ⟨by simp, by unfold Grew; go_grown⟩
      · obtain ⟨k, rfl⟩ : ∃ k : Nat, n = k := ⟨n.toNat, by omega⟩
        have hk : k < l.length := by omega
        obtain ⟨x, hx⟩ : ∃ x, l[k]? = some x := ⟨_, List.getElem?_eq_getElem hk⟩
        obtain ⟨A, c, e, q1, q2, q3, q4⟩ := h
        injection e with e1 _ e3
        subst e1 e3
        obtain ⟨ad, rfl⟩ : ∃ ad, A1 = some ad := by
          cases A1 with
          | none => have := q3 rfl; omega
          | some ad => exact ⟨ad, rfl⟩
        have hcell : w.cell? (ad.add k) = some (.string ⟨x.toArray⟩) := q4 ad rfl k x hx
        have HC : ∀ W, Grew w W → W.cell? (ad.add k) = some (.string ⟨x.toArray⟩) := fun W hg => DWrite.cellB hg hcell
        have hcell2 := HC _ (grew_new (w := w) (.cells #[.slice (some ad) l.length c1, .slice A2 n2 c2, .slice A3 n3 c3, .int .i64 f, .bool false] 32))
        clear HC q4
        go_enter Try.func20, Try.ntmps20
        go_wp2
        go_returns
        have hxl : l[k] = x := by rw [List.getElem?_eq_getElem hk] at hx; exact Option.some.inj hx
        exact ⟨by simp [hxl], by unfold Grew; go_grown⟩
end
end Go.Proofs.Ytiajjkjdmcoodaa.DRefB
