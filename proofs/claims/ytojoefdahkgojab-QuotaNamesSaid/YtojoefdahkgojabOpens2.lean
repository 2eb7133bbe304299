/-
  A thing and a slice of things that came in, as they are read.
  Conditions: none.
-/
import Derived.Test.YtojoefdahkgojabThings
import Derived.Test.YtojoefdahkgojabLaw
import Derived.Deep.Slices
import Derived.Deep.Fields
import Derived.Lib.SmallJoins
import Derived.OpenShut
namespace Go.Proofs.Ytojoefdahkgojab.Opens2
open Go Go.ChangeShapes Go.WideShapes Go.ChangeAt Go.RowKit Go.Deep Go.Joins Go.Lib Go.Proofs.Ytojoefdahkgojab Go.Proofs.Ytojoefdahkgojab.Facts Go.Proofs.Ytojoefdahkgojab.Things

theorem cells43 : Try.prog.cellsOf 43 = 2 := by kernel_rfl
theorem bytes43 : Try.prog.bytesOf 43 = 24 := by kernel_rfl
theorem struct43 : ∃ f0 f1, Try.prog.underlying 43 = some (.struct #[f0, f1]) ∧ oneCellFields Try.prog #[f0, f1] = true ∧ f0.type = 9 ∧ f1.type = 3 :=
  ⟨_, _, Try.underlying43, by kernel_rfl, rfl, rfl⟩

section
variable {H : Type} {enc : TypeId × Value → H} {w : World} {r : Reach} {b0 : Nat} {v : Value} {d : DataW H} {p : List MemPlace}

theorem open_thing (hv : Value.okWide Try.prog w r b0 43 v) (h : DataW.Trod enc Try.prog w 0 (fun _ => true) true 43 v d p) : ∃ (s : ByteArray) (n : Int), v = .agg #[.string s, .int .i64 n] := by
  obtain ⟨f0, f1, hs, hone, t0, t1⟩ := struct43
  obtain ⟨v0, v1, y0, y1, n, rfl, _, _, g0, g1⟩ := open_agg2 hs hone cells43 hv h
  rw [t0] at g0
  rw [t1] at g1
  obtain ⟨s, e0, _, _⟩ := DataW.trod_string Try.underlying9 g0
  obtain ⟨y, e1, _, _⟩ := DataW.trod_int Try.underlying3 g1
  cases e0
  cases e1
  exact ⟨s, y, rfl⟩

theorem tv_of (f : Nat → ByteArray × Int) : ∀ (n j : Nat) (u : Value), (tv ((List.range n).map f))[j]? = some u → j < n * 2 ∧ ((j % 2 = 0 → u = .string (f (j / 2)).1) ∧ (j % 2 = 1 → u = .int .i64 (f (j / 2)).2)) := fun n j u hu => by
  have hl := (List.getElem?_eq_some_iff.1 hu).1
  rw [tv_length, List.length_map, List.length_range] at hl
  have hk : j / 2 < n := by omega
  obtain ⟨g1, g2⟩ := tv_get ((List.range n).map f) (j / 2) (by simpa using hk)
  have en : nm ((List.range n).map f) (j / 2) = (f (j / 2)).1 ∧ nn ((List.range n).map f) (j / 2) = (f (j / 2)).2 := by
    unfold nm nn
    simp [hk]
  rw [en.1] at g1
  rw [en.2] at g2
  refine ⟨hl, fun h => ?_, fun h => ?_⟩
  · rw [show j / 2 * 2 = j by omega, hu] at g1
    exact Option.some.inj g1
  · rw [show j / 2 * 2 + 1 = j by omega, hu] at g2
    exact Option.some.inj g2

theorem open_ts (hval : Value.okWide Try.prog w r b0 41 v) (h : DataW.Trod enc Try.prog w 0 (fun _ => true) true 41 v d p) :
    ∃ T : List (ByteArray × Int), Ts w v T ∧ (d = .nil ∧ T = [] ∨ ∃ elems spare, d = .slice elems spare ∧ elems.length = T.length) := by
  obtain ⟨f0, f1, hs, hone, t0, t1⟩ := struct43
  obtain ⟨fuel, hf⟩ := h
  obtain ⟨A0, n0, k0, rfl⟩ := okWide_slice Try.underlying41 hval
  rcases Go.Deep.open_slice Try.underlying41 hf with ⟨hcs, hx⟩ | ⟨a, len, cap, m, n, D, Pl, hcs, _, hlc, hm, hmm, hx, hi⟩
  · simp [Value.cells] at hcs
    obtain ⟨rfl, rfl, rfl⟩ := hcs
    cases hx
    exact ⟨[], ⟨none, 0, rfl, Nat.le_refl _, Nat.zero_le _, fun _ => rfl, fun ad ha => by cases ha⟩, .inl ⟨rfl, rfl⟩⟩
  · simp [Value.cells] at hcs
    obtain ⟨rfl, rfl, rfl⟩ := hcs
    simp only [if_true] at hmm
    cases hx
    have each : ∀ i, i < n0 → ∃ q : ByteArray × Int, w.cell? (a.add (i * 2)) = some (.string q.1) ∧ w.cell? (a.add (i * 2 + 1)) = some (.int .i64 q.2) := fun i hil => by
      obtain ⟨cs', hc, ht'⟩ := hi i (by omega)
      rw [cells43] at hc
      obtain ⟨_, hcl, hat⟩ := World.cells?_some hc
      obtain ⟨xs, n', _, _, _, hxl, hg⟩ := DataW.trod_struct hs ht'
      obtain ⟨o0, q0⟩ := hone_of hone 0 f0 rfl
      obtain ⟨o1, q1⟩ := hone_of hone 1 f1 rfl
      match cs', xs, hcl, hxl, hat, hg with
      | [c0, c1], [y0, y1], _, _, hat, hg =>
        have a0 := hat 0 (by omega)
        have a1 := hat 1 (by omega)
        have g0 := hg 0 f0 rfl
        have g1 := hg 1 f1 rfl
        rw [o0, q0, t0] at g0
        rw [o1, q1, t1] at g1
        obtain ⟨s, e0, _, _⟩ := DataW.trod_string Try.underlying9 (show DataW.trod enc Try.prog w 0 (fun _ => true) true n' 9 [c0] = some y0 from g0)
        obtain ⟨y, e1, _, _⟩ := DataW.trod_int Try.underlying3 (show DataW.trod enc Try.prog w 0 (fun _ => true) true n' 3 [c1] = some y1 from g1)
        cases e0
        cases e1
        rw [Go.Deep.add_add] at a0 a1
        exact ⟨(s, y), a0, a1⟩
    obtain ⟨f, hfx⟩ := choose_lt each
    have hlen : ((List.range n0).map f).length = n0 := by simp
    refine ⟨(List.range n0).map f, ⟨some a, k0, by rw [hlen], by rw [hlen]; exact hlc, hm, (fun h => by cases h), fun ad ha j u hu => ?_⟩, .inr ⟨_, _, rfl, by simp⟩⟩
    cases ha
    obtain ⟨hj, h0, h1⟩ := tv_of f n0 j u hu
    obtain ⟨x0, x1⟩ := hfx (j / 2) (by omega)
    by_cases hp : j % 2 = 0
    · rw [h0 hp]
      rwa [show j / 2 * 2 = j by omega] at x0
    · rw [h1 (by omega)]
      rwa [show j / 2 * 2 + 1 = j by omega] at x1
end
end Go.Proofs.Ytojoefdahkgojab.Opens2
