/-
  Rows of structs that came in, as they are read.
  Conditions: none beyond those that each lemma names.
-/
import Derived.Test.YtbnicphegbdfnaaJOpens
namespace Go.Proofs.Ytbnicphegbdfnaa.AOpens
set_option maxRecDepth 100000
open Go Go.ChangeShapes Go.WideShapes Go.ChangeAt Go.RowKit Go.Deep Go.Joins Go.Lib Go.Proofs.Ytbnicphegbdfnaa Go.Proofs.Ytbnicphegbdfnaa.Facts Go.Proofs.Ytbnicphegbdfnaa.Bytes
structure Tu where
  b : List UInt8
  keep : List UInt8
  fl : Bool
deriving Inhabited
/-- A row of them, as it lies. -/
def TU (w : World) (A : Option Addr) (c : Nat) (L : List Tu) : Prop := L.length ≤ c ∧ c ≤ 9223372036854775807 ∧ (A = none → c = 0) ∧ ∀ ad, A = some ad → ∀ i x, L[i]? = some x → ∃ v0 v1, w.cell? (ad.add (i * 3)) = some v0 ∧ w.cell? ⟨(ad.add (i * 3)).block, (ad.add (i * 3)).off + 1, none⟩ = some v1 ∧ w.cell? ⟨(ad.add (i * 3)).block, (ad.add (i * 3)).off + 2, none⟩ = some (.bool x.fl) ∧ Rd (fun b => b < w.heap.size) w v0 x.b ∧ Rd (fun b => b < w.heap.size) w v1 x.keep
theorem cells41 : Try.prog.cellsOf 41 = 3 := by kernel_rfl
theorem struct41 : ∃ f0 f1 f2, Try.prog.underlying 41 = some (.struct #[f0, f1, f2]) ∧ oneCellFields Try.prog #[f0, f1, f2] = true ∧ f0.type = 23 ∧ f1.type = 23 ∧ f2.type = 4 :=
  ⟨_, _, _, Try.underlying41, by kernel_rfl, rfl, rfl, rfl⟩
theorem open_turns {H : Type} {enc : TypeId × Value → H} {w : World} {r : Reach} {b0 : Nat} {v : Value} {d : DataW H} {p : List MemPlace} (hval : Value.okWide Try.prog w r b0 39 v) (h : DataW.Trod enc Try.prog w 0 (fun _ => true) true 39 v d p) :
    ∃ A c L, v = .slice A (List.length L) c ∧ TU w A c L := by
  obtain ⟨f0, f1, f2, hs, hone, t0, t1, t2⟩ := struct41
  obtain ⟨fuel, hf⟩ := h
  obtain ⟨A0, n0, k0, rfl⟩ := okWide_slice Try.underlying39 hval
  rcases Go.Deep.open_slice Try.underlying39 hf with ⟨hcs, hx⟩ | ⟨a, len, cap, m, n, D, Pl, hcs, _, hlc, hm, hmm, hx, hi⟩
  · simp [Value.cells] at hcs
    obtain ⟨rfl, rfl, rfl⟩ := hcs
    exact ⟨none, 0, [], rfl, Nat.le_refl _, Nat.zero_le _, fun _ => rfl, fun ad ha => by cases ha⟩
  · simp [Value.cells] at hcs
    obtain ⟨rfl, rfl, rfl⟩ := hcs
    simp only [if_true] at hmm
    have each : ∀ i, i < n0 → ∃ q : Tu, ∃ v0 v1, w.cell? (a.add (i * 3)) = some v0 ∧ w.cell? ⟨(a.add (i * 3)).block, (a.add (i * 3)).off + 1, none⟩ = some v1 ∧ w.cell? ⟨(a.add (i * 3)).block, (a.add (i * 3)).off + 2, none⟩ = some (.bool q.fl) ∧ Rd (fun b => b < w.heap.size) w v0 q.b ∧ Rd (fun b => b < w.heap.size) w v1 q.keep := fun i hil => by
      obtain ⟨cs', hc, ht'⟩ := hi i (by omega)
      rw [cells41] at hc
      obtain ⟨_, hcl, hat⟩ := World.cells?_some hc
      obtain ⟨xs, n', _, _, _, hxl, hg⟩ := DataW.trod_struct hs ht'
      obtain ⟨o0, q0⟩ := hone_of hone 0 f0 rfl
      obtain ⟨o1, q1⟩ := hone_of hone 1 f1 rfl
      obtain ⟨o2, q2⟩ := hone_of hone 2 f2 rfl
      match cs', xs, hcl, hxl, hat, hg with
      | [c0, c1, c2], [y0, y1, y2], _, _, hat, hg =>
        have a0 := hat 0 (by omega)
        have g0 := hg 0 f0 rfl
        rw [o0, q0, t0] at g0
        have a1 := hat 1 (by omega)
        have g1 := hg 1 f1 rfl
        rw [o1, q1, t1] at g1
        have a2 := hat 2 (by omega)
        have g2 := hg 2 f2 rfl
        rw [o2, q2, t2] at g2
        obtain ⟨l0, h0⟩ := JOpens.open_cell (show DataW.trod enc Try.prog w 0 (fun _ => true) true n' 23 [c0] = some y0 from g0)
        obtain ⟨l1, h1⟩ := JOpens.open_cell (show DataW.trod enc Try.prog w 0 (fun _ => true) true n' 23 [c1] = some y1 from g1)
        obtain ⟨z2, e2, _⟩ := DataW.trod_bool Try.underlying4 (show DataW.trod enc Try.prog w 0 (fun _ => true) true n' 4 [c2] = some y2 from g2)
        cases e2
        exact ⟨⟨l0, l1, z2⟩, c0, c1, a0, a1, a2, h0, h1⟩
    obtain ⟨f, hfx⟩ := choose_lt each
    have hlen : ((List.range n0).map f).length = n0 := by simp
    refine ⟨some a, k0, (List.range n0).map f, by rw [hlen], by rw [hlen]; exact hlc, by unfold maxLen at hm; omega, (fun h => by cases h), fun ad ha i x hx' => ?_⟩
    cases ha
    have hil : i < n0 := by
      have := (List.getElem?_eq_some_iff.1 hx').1
      rwa [hlen] at this
    simp [hil] at hx'
    subst hx'
    exact hfx i hil
structure Sn where
  b : List UInt8
  fu : Int
  keep : List UInt8
deriving Inhabited
/-- A row of them, as it lies. -/
def SN (w : World) (A : Option Addr) (c : Nat) (L : List Sn) : Prop := L.length ≤ c ∧ c ≤ 9223372036854775807 ∧ (A = none → c = 0) ∧ ∀ ad, A = some ad → ∀ i x, L[i]? = some x → ∃ v0 v2, w.cell? (ad.add (i * 3)) = some v0 ∧ w.cell? ⟨(ad.add (i * 3)).block, (ad.add (i * 3)).off + 1, none⟩ = some (.int .i64 x.fu) ∧ w.cell? ⟨(ad.add (i * 3)).block, (ad.add (i * 3)).off + 2, none⟩ = some v2 ∧ Rd (fun b => b < w.heap.size) w v0 x.b ∧ -9223372036854775808 ≤ x.fu ∧ x.fu ≤ 9223372036854775807 ∧ Rd (fun b => b < w.heap.size) w v2 x.keep
theorem cells85 : Try.prog.cellsOf 85 = 3 := by kernel_rfl
theorem struct85 : ∃ f0 f1 f2, Try.prog.underlying 85 = some (.struct #[f0, f1, f2]) ∧ oneCellFields Try.prog #[f0, f1, f2] = true ∧ f0.type = 23 ∧ f1.type = 3 ∧ f2.type = 23 :=
  ⟨_, _, _, Try.underlying85, by kernel_rfl, rfl, rfl, rfl⟩
theorem open_snaps {H : Type} {enc : TypeId × Value → H} {w : World} {r : Reach} {b0 : Nat} {v : Value} {d : DataW H} {p : List MemPlace} (hval : Value.okWide Try.prog w r b0 83 v) (h : DataW.Trod enc Try.prog w 0 (fun _ => true) true 83 v d p) :
    ∃ A c L, v = .slice A (List.length L) c ∧ SN w A c L := by
  obtain ⟨f0, f1, f2, hs, hone, t0, t1, t2⟩ := struct85
  obtain ⟨fuel, hf⟩ := h
  obtain ⟨A0, n0, k0, rfl⟩ := okWide_slice Try.underlying83 hval
  rcases Go.Deep.open_slice Try.underlying83 hf with ⟨hcs, hx⟩ | ⟨a, len, cap, m, n, D, Pl, hcs, _, hlc, hm, hmm, hx, hi⟩
  · simp [Value.cells] at hcs
    obtain ⟨rfl, rfl, rfl⟩ := hcs
    exact ⟨none, 0, [], rfl, Nat.le_refl _, Nat.zero_le _, fun _ => rfl, fun ad ha => by cases ha⟩
  · simp [Value.cells] at hcs
    obtain ⟨rfl, rfl, rfl⟩ := hcs
    simp only [if_true] at hmm
    have each : ∀ i, i < n0 → ∃ q : Sn, ∃ v0 v2, w.cell? (a.add (i * 3)) = some v0 ∧ w.cell? ⟨(a.add (i * 3)).block, (a.add (i * 3)).off + 1, none⟩ = some (.int .i64 q.fu) ∧ w.cell? ⟨(a.add (i * 3)).block, (a.add (i * 3)).off + 2, none⟩ = some v2 ∧ Rd (fun b => b < w.heap.size) w v0 q.b ∧ -9223372036854775808 ≤ q.fu ∧ q.fu ≤ 9223372036854775807 ∧ Rd (fun b => b < w.heap.size) w v2 q.keep := fun i hil => by
      obtain ⟨cs', hc, ht'⟩ := hi i (by omega)
      rw [cells85] at hc
      obtain ⟨_, hcl, hat⟩ := World.cells?_some hc
      obtain ⟨xs, n', _, _, _, hxl, hg⟩ := DataW.trod_struct hs ht'
      obtain ⟨o0, q0⟩ := hone_of hone 0 f0 rfl
      obtain ⟨o1, q1⟩ := hone_of hone 1 f1 rfl
      obtain ⟨o2, q2⟩ := hone_of hone 2 f2 rfl
      match cs', xs, hcl, hxl, hat, hg with
      | [c0, c1, c2], [y0, y1, y2], _, _, hat, hg =>
        have a0 := hat 0 (by omega)
        have g0 := hg 0 f0 rfl
        rw [o0, q0, t0] at g0
        have a1 := hat 1 (by omega)
        have g1 := hg 1 f1 rfl
        rw [o1, q1, t1] at g1
        have a2 := hat 2 (by omega)
        have g2 := hg 2 f2 rfl
        rw [o2, q2, t2] at g2
        obtain ⟨l0, h0⟩ := JOpens.open_cell (show DataW.trod enc Try.prog w 0 (fun _ => true) true n' 23 [c0] = some y0 from g0)
        obtain ⟨z1, e1, _, wf1⟩ := DataW.trod_int Try.underlying3 (show DataW.trod enc Try.prog w 0 (fun _ => true) true n' 3 [c1] = some y1 from g1)
        cases e1
        have b1 : -9223372036854775808 ≤ z1 ∧ z1 ≤ 9223372036854775807 := by simpa [Lit.wf, IntKind.min, IntKind.max, IntKind.signed, IntKind.bits] using wf1
        obtain ⟨l2, h2⟩ := JOpens.open_cell (show DataW.trod enc Try.prog w 0 (fun _ => true) true n' 23 [c2] = some y2 from g2)
        exact ⟨⟨l0, z1, l2⟩, c0, c2, a0, a1, a2, h0, b1.1, b1.2, h2⟩
    obtain ⟨f, hfx⟩ := choose_lt each
    have hlen : ((List.range n0).map f).length = n0 := by simp
    refine ⟨some a, k0, (List.range n0).map f, by rw [hlen], by rw [hlen]; exact hlc, by unfold maxLen at hm; omega, (fun h => by cases h), fun ad ha i x hx' => ?_⟩
    cases ha
    have hil : i < n0 := by
      have := (List.getElem?_eq_some_iff.1 hx').1
      rwa [hlen] at this
    simp [hil] at hx'
    subst hx'
    exact hfx i hil
end Go.Proofs.Ytbnicphegbdfnaa.AOpens
