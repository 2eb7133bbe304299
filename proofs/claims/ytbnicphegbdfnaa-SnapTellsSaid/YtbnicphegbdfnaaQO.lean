/-
  Deeds done to snapshots that came in, as they are read.
  Conditions: none beyond those that each lemma names.
-/
import Derived.Test.YtbnicphegbdfnaaDOpens
namespace Go.Proofs.Ytbnicphegbdfnaa.QO
set_option maxRecDepth 100000
open Go Go.ChangeShapes Go.WideShapes Go.ChangeAt Go.RowKit Go.Deep Go.Joins Go.Lib Go.Proofs.Ytbnicphegbdfnaa Go.Proofs.Ytbnicphegbdfnaa.Facts Go.Proofs.Ytbnicphegbdfnaa.Bytes
open Go.Proofs.Ytbnicphegbdfnaa.DOpens (De DE open_cell)

theorem cells36 : Try.prog.cellsOf 76 = 3 := by kernel_rfl
theorem cells5 : Try.prog.cellsOf 5 = 1 := by kernel_rfl
theorem struct36 : ∃ f0 f1 f2, Try.prog.underlying 76 = some (.struct #[f0, f1, f2]) ∧ oneCellFields Try.prog #[f0, f1, f2] = true ∧ f0.type = 3 ∧ f1.type = 3 ∧ f2.type = 23 :=
  ⟨_, _, _, Try.underlying76, by kernel_rfl, rfl, rfl, rfl⟩

section
variable {H : Type} {enc : TypeId × Value → H} {w : World} {r : Reach} {b0 : Nat} {v : Value} {d : DataW H} {p : List MemPlace}

theorem open_snapdeeds (hval : Value.okWide Try.prog w r b0 75 v) (h : DataW.Trod enc Try.prog w 0 (fun _ => true) true 75 v d p) :
    ∃ A c L, v = .slice A (List.length L) c ∧ DE w A c L := by
  obtain ⟨f0, f1, f2, hs, hone, t0, t1, t2⟩ := struct36
  obtain ⟨fuel, hf⟩ := h
  obtain ⟨A0, n0, k0, rfl⟩ := okWide_slice Try.underlying75 hval
  rcases Go.Deep.open_slice Try.underlying75 hf with ⟨hcs, hx⟩ | ⟨a, len, cap, m, n, D, Pl, hcs, _, hlc, hm, hmm, hx, hi⟩
  · simp [Value.cells] at hcs
    obtain ⟨rfl, rfl, rfl⟩ := hcs
    exact ⟨none, 0, [], rfl, Nat.le_refl _, Nat.zero_le _, fun _ => rfl, fun ad ha => by cases ha⟩
  · simp [Value.cells] at hcs
    obtain ⟨rfl, rfl, rfl⟩ := hcs
    simp only [if_true] at hmm
    have each : ∀ i, i < n0 → ∃ q : De, w.cell? (a.add (i * 3)) = some (.int .i64 q.kind) ∧ w.cell? (a.add (i * 3 + 1)) = some (.int .i64 q.n) ∧ (-9223372036854775808 ≤ q.n ∧ q.n ≤ 9223372036854775807) ∧ ∃ vB, w.cell? (a.add (i * 3 + 2)) = some vB ∧ Rd (fun b => b < w.heap.size) w vB q.b := fun i hil => by
      obtain ⟨cs', hc, ht'⟩ := hi i (by omega)
      rw [cells36] at hc
      obtain ⟨_, hcl, hat⟩ := World.cells?_some hc
      obtain ⟨xs, n', _, _, _, hxl, hg⟩ := DataW.trod_struct hs ht'
      obtain ⟨o0, q0⟩ := hone_of hone 0 f0 rfl
      obtain ⟨o1, q1⟩ := hone_of hone 1 f1 rfl
      obtain ⟨o2, q2⟩ := hone_of hone 2 f2 rfl
      match cs', xs, hcl, hxl, hat, hg with
      | [c0, c1, c2], [y0, y1, y2], _, _, hat, hg =>
        have a0 := hat 0 (by omega)
        have a1 := hat 1 (by omega)
        have a2 := hat 2 (by omega)
        have g0 := hg 0 f0 rfl
        have g1 := hg 1 f1 rfl
        have g2 := hg 2 f2 rfl
        rw [o0, q0, t0] at g0
        rw [o1, q1, t1] at g1
        rw [o2, q2, t2] at g2
        obtain ⟨z0, e0, _, _⟩ := DataW.trod_int Try.underlying3 (show DataW.trod enc Try.prog w 0 (fun _ => true) true n' 3 [c0] = some y0 from g0)
        obtain ⟨z1, e1, _, wf1⟩ := DataW.trod_int Try.underlying3 (show DataW.trod enc Try.prog w 0 (fun _ => true) true n' 3 [c1] = some y1 from g1)
        obtain ⟨l, hl⟩ := open_cell (show DataW.trod enc Try.prog w 0 (fun _ => true) true n' 23 [c2] = some y2 from g2)
        cases e0
        cases e1
        rw [Go.Deep.add_add] at a0 a1 a2
        exact ⟨⟨z0, z1, l⟩, a0, a1, by simpa [Lit.wf, IntKind.min, IntKind.max, IntKind.signed, IntKind.bits] using wf1, c2, a2, hl⟩
    obtain ⟨f, hfx⟩ := choose_lt each
    have hlen : ((List.range n0).map f).length = n0 := by simp
    refine ⟨some a, k0, (List.range n0).map f, by rw [hlen], by rw [hlen]; exact hlc, by unfold maxLen at hm; omega, (fun h => by cases h), fun ad ha i x hx' => ?_⟩
    cases ha
    have hil : i < n0 := by
      have := (List.getElem?_eq_some_iff.1 hx').1
      rwa [hlen] at this
    simp [hil] at hx'
    subst hx'
    exact hfx i hil
end
end Go.Proofs.Ytbnicphegbdfnaa.QO
