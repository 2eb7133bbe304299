/-
  Deeds that came in, as they are read.
  Conditions: none beyond those that each lemma names.
-/
import Derived.Test.YtbnicphegbdfnaaDAlive
import Derived.Test.YtbnicphegbdfnaaLaw
import Derived.Deep.Slices
import Derived.Deep.Fields
import Derived.Lib.SmallJoins
import Derived.OpenShut
namespace Go.Proofs.Ytbnicphegbdfnaa.DOpens
set_option maxRecDepth 100000
set_option maxRecDepth 100000
open Go Go.ChangeShapes Go.WideShapes Go.ChangeAt Go.RowKit Go.Deep Go.Joins Go.Lib Go.Proofs.Ytbnicphegbdfnaa Go.Proofs.Ytbnicphegbdfnaa.Facts Go.Proofs.Ytbnicphegbdfnaa.Bytes

structure De where
  kind : Int
  n : Int
  b : List UInt8
deriving Inhabited
/-- Deeds as they lie. -/
def DE (w : World) (A : Option Addr) (c : Nat) (L : List De) : Prop := L.length ≤ c ∧ c ≤ 9223372036854775807 ∧ (A = none → c = 0) ∧ ∀ ad, A = some ad → ∀ i x, L[i]? = some x →
  w.cell? (ad.add (i * 3)) = some (.int .i64 x.kind) ∧ w.cell? (ad.add (i * 3 + 1)) = some (.int .i64 x.n) ∧ (-9223372036854775808 ≤ x.n ∧ x.n ≤ 9223372036854775807) ∧ ∃ vB, w.cell? (ad.add (i * 3 + 2)) = some vB ∧ Rd (fun b => b < w.heap.size) w vB x.b
theorem DE.grew {w w' : World} {A : Option Addr} {c : Nat} {L : List De} (h : DE w A c L) (hg : Grew w w') : DE w' A c L := by
  refine ⟨h.1, h.2.1, h.2.2.1, fun ad ha i x hx => ?_⟩
  obtain ⟨h1, h2, h3, vB, h4, h5⟩ := h.2.2.2 ad ha i x hx
  exact ⟨DWrite.cellB hg h1, DWrite.cellB hg h2, h3, vB, DWrite.cellB hg h4, (h5.grew hg).mono fun b hb => Nat.lt_of_lt_of_le hb hg.size⟩

theorem cells36 : Try.prog.cellsOf 61 = 3 := by kernel_rfl
theorem cells5 : Try.prog.cellsOf 5 = 1 := by kernel_rfl
theorem struct36 : ∃ f0 f1 f2, Try.prog.underlying 61 = some (.struct #[f0, f1, f2]) ∧ oneCellFields Try.prog #[f0, f1, f2] = true ∧ f0.type = 3 ∧ f1.type = 3 ∧ f2.type = 23 :=
  ⟨_, _, _, Try.underlying61, by kernel_rfl, rfl, rfl, rfl⟩

section
variable {H : Type} {enc : TypeId × Value → H} {w : World} {r : Reach} {b0 : Nat} {v : Value} {d : DataW H} {p : List MemPlace}

theorem open_cell {n' : Nat} {c2 : Value} {y2 : DataW H × List MemPlace} (g2 : DataW.trod enc Try.prog w 0 (fun _ => true) true n' 23 [c2] = some y2) : ∃ l, Rd (fun b => b < w.heap.size) w c2 l := by
  rcases open_ints Try.underlying23 Try.underlying5 cells5 g2 with ⟨hcs, hx⟩ | ⟨a, len, cap, zs, hcs, hb, hlc, hm, hz, hx, hcell, hwf⟩
  · simp at hcs
    subst hcs
    exact ⟨[], Rd.nil _ _⟩
  · simp at hcs
    subst hcs
    simp only [if_true] at hz
    have hbv : bv ((zs.take len).map fun z => UInt8.ofNat z.toNat) = (zs.take len).map (Value.int .u8) := by
      simp only [bv, List.map_map]
      refine List.map_congr_left fun z hzm => ?_
      have hw := hwf z (List.mem_of_mem_take hzm)
      have hw2 : 0 ≤ z ∧ z ≤ 255 := by simpa [Lit.wf, IntKind.min, IntKind.max, IntKind.signed, IntKind.bits] using hw
      simp only [Function.comp_apply, UInt8.toNat_ofNat']
      congr 1
      omega
    have hlen : ((zs.take len).map fun z => UInt8.ofNat z.toNat).length = len := by rw [List.length_map, List.length_take, hz]; omega
    have hrd : Rd (fun _ => True) w (.slice (some a) len cap) ((zs.take len).map fun z => UInt8.ofNat z.toNat) := by
      refine ⟨_, cap, by rw [hlen], by rw [hlen]; exact hlc, hm, (fun h => by cases h), fun ad ha => ⟨fun _ => trivial, fun j u hu => ?_⟩⟩
      cases ha
      rw [hbv] at hu
      have hj : j < len := by
        have := (List.getElem?_eq_some_iff.1 hu).1
        simp at this
        omega
      rw [hcell j (by omega), ← hu]
      simp [List.getD, hj, List.getElem?_take, show j < zs.length by omega]
    exact ⟨_, hrd.lt.mono fun b hb => hb.2⟩

theorem open_deeds (hval : Value.okWide Try.prog w r b0 45 v) (h : DataW.Trod enc Try.prog w 0 (fun _ => true) true 45 v d p) :
    ∃ A c L, v = .slice A (List.length L) c ∧ DE w A c L := by
  obtain ⟨f0, f1, f2, hs, hone, t0, t1, t2⟩ := struct36
  obtain ⟨fuel, hf⟩ := h
  obtain ⟨A0, n0, k0, rfl⟩ := okWide_slice Try.underlying45 hval
  rcases Go.Deep.open_slice Try.underlying45 hf with ⟨hcs, hx⟩ | ⟨a, len, cap, m, n, D, Pl, hcs, _, hlc, hm, hmm, hx, hi⟩
  · simp [Value.cells] at hcs
    obtain ⟨rfl, rfl, rfl⟩ := hcs
    exact ⟨none, 0, [], rfl, Nat.le_refl _, Nat.zero_le _, fun _ => rfl, fun ad ha => by cases ha⟩
  · simp [Value.cells] at hcs
    obtain ⟨rfl, rfl, rfl⟩ := hcs
    simp only [if_true] at hmm
    have each : ∀ i, i < n0 → ∃ q : De, w.cell? (a.add (i * 3)) = some (.int .i64 q.kind) ∧ w.cell? (a.add (i * 3 + 1)) = some (.int .i64 q.n) ∧ (-9223372036854775808 ≤ q.n ∧ q.n ≤ 9223372036854775807) ∧ ∃ vB, w.cell? (a.add (i * 3 + 2)) = some vB ∧ Rd (fun b => b < w.heap.size) w vB q.b := fun i hil => by
      obtain ⟨cs', hc, ht'⟩ := hi i (by omega)
      rw [cells36] at hc
      obtain ⟨_, hcl, hat⟩ := World.cells?_some hc
      obtain ⟨xs, n', _, _, _, hxl, hg⟩ := DataW.trod_struct hs ht'
      obtain ⟨o0, q0⟩ := hone_of hone 0 f0 rfl
      obtain ⟨o1, q1⟩ := hone_of hone 1 f1 rfl
      obtain ⟨o2, q2⟩ := hone_of hone 2 f2 rfl
      match cs', xs, hcl, hxl, hat, hg with
      | [c0, c1, c2], [y0, y1, y2], _, _, hat, hg =>
        have a0 := hat 0 (by omega)
        have a1 := hat 1 (by omega)
        have a2 := hat 2 (by omega)
        have g0 := hg 0 f0 rfl
        have g1 := hg 1 f1 rfl
        have g2 := hg 2 f2 rfl
        rw [o0, q0, t0] at g0
        rw [o1, q1, t1] at g1
        rw [o2, q2, t2] at g2
        obtain ⟨z0, e0, _, _⟩ := DataW.trod_int Try.underlying3 (show DataW.trod enc Try.prog w 0 (fun _ => true) true n' 3 [c0] = some y0 from g0)
        obtain ⟨z1, e1, _, wf1⟩ := DataW.trod_int Try.underlying3 (show DataW.trod enc Try.prog w 0 (fun _ => true) true n' 3 [c1] = some y1 from g1)
        obtain ⟨l, hl⟩ := open_cell (show DataW.trod enc Try.prog w 0 (fun _ => true) true n' 23 [c2] = some y2 from g2)
        cases e0
        cases e1
        rw [Go.Deep.add_add] at a0 a1 a2
        exact ⟨⟨z0, z1, l⟩, a0, a1, by simpa [Lit.wf, IntKind.min, IntKind.max, IntKind.signed, IntKind.bits] using wf1, c2, a2, hl⟩
    obtain ⟨f, hfx⟩ := choose_lt each
    have hlen : ((List.range n0).map f).length = n0 := by simp
    refine ⟨some a, k0, (List.range n0).map f, by rw [hlen], by rw [hlen]; exact hlc, by unfold maxLen at hm; omega, (fun h => by cases h), fun ad ha i x hx' => ?_⟩
    cases ha
    have hil : i < n0 := by
      have := (List.getElem?_eq_some_iff.1 hx').1
      rwa [hlen] at this
    simp [hil] at hx'
    subst hx'
    exact hfx i hil
end
end Go.Proofs.Ytbnicphegbdfnaa.DOpens
