/-
  Orders that came in, as they are read.
  Conditions: those that each lemma names.
-/
import Derived.Test.YtmnfajplfnfgpaaOD
import Derived.Test.YtmnfajplfnfgpaaLaw
import Derived.Deep.Slices
import Derived.Deep.Fields
import Derived.Lib.SmallJoins
import Derived.OpenShut
namespace Go.Proofs.Ytmnfajplfnfgpaa.OW
set_option maxRecDepth 100000
open Go.ChangeShapes Go.WideShapes Go.ChangeAt Go.Deep Go.Joins
open Go Go.RowKit Go.Lib Go.Proofs.Ytmnfajplfnfgpaa Go.Proofs.Ytmnfajplfnfgpaa.Facts Go.Proofs.Ytmnfajplfnfgpaa.Bytes Go.Proofs.Ytmnfajplfnfgpaa.Ints Go.Proofs.Ytmnfajplfnfgpaa.PA Go.Proofs.Ytmnfajplfnfgpaa.OA Go.Proofs.Ytmnfajplfnfgpaa.BP Go.Proofs.Ytmnfajplfnfgpaa.OD Go.Proofs.Ytmnfajplfnfgpaa.Law

theorem add_off (ad : Addr) (m k : Nat) : (ad.add m).add k = ad.add (m + k) := Go.Deep.add_add ..
theorem rw_of {α : Type} {f : α → List Value} {n : Nat} (hf : ∀ x, (f x).length = n) {w : World} {ad : Addr} {c : Nat} (l : List α) (hl : l.length ≤ c) (hc : c ≤ maxLen) (h : ∀ (i : Nat) x, l[i]? = some x → ∀ (k : Nat) u, (f x)[k]? = some u → w.cell? (ad.add (i * n + k)) = some u) : Rw w (.slice (some ad) l.length c) l.length (l.flatMap f) := by
  refine ⟨some ad, c, rfl, hl, hc, (fun h => by cases h), fun ad' ha j u hu => ?_⟩
  cases ha
  have hj := (List.getElem?_eq_some_iff.1 hu).1
  rw [flat_len f n hf] at hj
  have hn : 0 < n := by
    rcases Nat.eq_zero_or_pos n with rfl | h0
    · omega
    · exact h0
  have hi : j / n < l.length := by rw [Nat.div_lt_iff_lt_mul hn]; exact hj
  have e : j = j / n * n + j % n := by rw [Nat.mul_comm]; exact (Nat.div_add_mod j n).symm
  have hk : j % n < n := Nat.mod_lt _ hn
  have hx : l[j / n]? = some l[j / n] := List.getElem?_eq_getElem hi
  rw [e]
  refine h _ _ hx _ u ?_
  rw [← flat_get f n hf l _ _ _ hx hk, ← e]
  exact hu
section
variable {H : Type} {enc : TypeId × Value → H} {w : World} {r : Reach} {b0 : Nat} {v : Value} {d : DataW H} {p : List MemPlace}
abbrev TR (enc : TypeId × Value → H) (w : World) (n : Nat) (t : TypeId) (cs : List Value) (y : DataW H × List MemPlace) : Prop := DataW.trod enc Try.prog w 0 (fun _ => true) true n t cs = some y
theorem open_row {α : Type} [Inhabited α] {f : α → List Value} {n : Nat} {t e : TypeId} {P : α → Prop} (hf : ∀ x, (f x).length = n) (ht : Try.prog.underlying t = some (.slice e)) (hc : Try.prog.cellsOf e = n) (hel : ∀ n' cs' y, TR enc w n' e cs' y → ∃ x, cs' = f x ∧ P x) {fuel : Nat} {y : DataW H × List MemPlace} (h : TR enc w fuel t [v] y) : ∃ l : List α, Rw w v l.length (l.flatMap f) ∧ ∀ x ∈ l, P x := by
  rcases Go.Deep.open_slice ht h with ⟨hcs, hx⟩ | ⟨a, len, cap, m, n1, D, Pl, hcs, _, hlc, hm, hmm, hx, hi⟩
  · simp only [List.cons.injEq, and_true] at hcs
    subst hcs
    exact ⟨[], rw_none w, fun x hx => by cases hx⟩
  · simp only [List.cons.injEq, and_true] at hcs
    subst hcs
    simp only [if_true] at hmm
    have each : ∀ i, i < len → ∃ x : α, (∀ (k : Nat) u, (f x)[k]? = some u → w.cell? (a.add (i * n + k)) = some u) ∧ P x := fun i hil => by
      obtain ⟨cs', hcl, ht'⟩ := hi i (by omega)
      obtain ⟨x, rfl, hp⟩ := hel _ _ _ ht'
      rw [hc] at hcl
      obtain ⟨_, hlen, hat⟩ := World.cells?_some hcl
      refine ⟨x, fun k u hu => ?_, hp⟩
      have hk := (List.getElem?_eq_some_iff.1 hu).1
      have := hat k (by rw [hf] at hk; exact hk)
      rw [add_off] at this
      exact this.trans hu
    obtain ⟨g, hg⟩ := choose_lt each
    have hlen : ((List.range len).map g).length = len := by simp
    refine ⟨(List.range len).map g, ?_, fun x hx => ?_⟩
    · have := rw_of (w := w) (ad := a) (c := cap) hf ((List.range len).map g) (by rw [hlen]; exact hlc) hm fun i x hx k u hu => by
        have hil : i < len := by
          have := (List.getElem?_eq_some_iff.1 hx).1
          rwa [hlen] at this
        simp [hil] at hx
        subst hx
        exact (hg i hil).1 k u hu
      rw [hlen] at this ⊢
      exact this
    · obtain ⟨i, hi', rfl⟩ := List.mem_map.1 hx
      exact (hg i (List.mem_range.1 hi')).2
theorem fieldsG {t : TypeId} {fs : Array Field} {n' : Nat} {cs' : List Value} {y : DataW H × List MemPlace} (hs : Try.prog.underlying t = some (.struct fs)) (h : TR enc w n' t cs' y) : cs'.length = Try.prog.cellsOf t ∧ ∀ i (hi : i < fs.size), ∃ n y', TR enc w n (fs[i]).type ((cs'.drop (fs[i]).offset).take (Try.prog.cellsOf (fs[i]).type)) y' := by
  obtain ⟨xs, n, _, _, hl, hlen, hf⟩ := DataW.trod_struct hs h
  refine ⟨hl, fun i hi => ?_⟩
  have h1 := hf i (fs[i]) (Array.getElem?_eq_getElem hi)
  exact ⟨n, xs[i]'(by rw [hlen]; exact hi), h1.trans (List.getElem?_eq_getElem _)⟩
theorem el_int {n' : Nat} {c : Value} {y : DataW H × List MemPlace} (h : TR enc w n' 3 [c] y) : ∃ z, c = .int .i64 z ∧ -9223372036854775808 ≤ z ∧ z ≤ 9223372036854775807 := by
  obtain ⟨z, e, _, wf⟩ := DataW.trod_int Try.underlying3 h
  cases e
  have : -9223372036854775808 ≤ z ∧ z ≤ 9223372036854775807 := by simpa [Lit.wf, IntKind.min, IntKind.max, IntKind.signed, IntKind.bits] using wf
  exact ⟨z, rfl, this⟩
theorem el_bool {n' : Nat} {c : Value} {y : DataW H × List MemPlace} (h : TR enc w n' 4 [c] y) : ∃ b, c = .bool b := by
  obtain ⟨b, e, _⟩ := DataW.trod_bool Try.underlying4 h
  cases e
  exact ⟨b, rfl⟩
theorem el_u64 {n' : Nat} {c : Value} {y : DataW H × List MemPlace} (h : TR enc w n' 23 [c] y) : ∃ z : Nat, c = .int .u64 (z : Int) ∧ z < 18446744073709551616 := by
  obtain ⟨z, e, _, wf⟩ := DataW.trod_int Try.underlying23 h
  cases e
  have hz : 0 ≤ z ∧ z ≤ 18446744073709551615 := by simpa [Lit.wf, IntKind.min, IntKind.max, IntKind.signed, IntKind.bits] using wf
  obtain ⟨k, rfl⟩ := Int.eq_ofNat_of_zero_le hz.1
  exact ⟨k, rfl, by omega⟩
theorem list10 {l : List Value} (h : l.length = 10) : ∃ a b c d e f g h i j, l = [a, b, c, d, e, f, g, h, i, j] := by
  match l, h with | [a, b, c, d, e, f, g, h, i, j], _ => exact ⟨a, b, c, d, e, f, g, h, i, j, rfl⟩
theorem el_order {n' : Nat} {cs' : List Value} {y : DataW H × List MemPlace} (h : TR enc w n' 26 cs' y) : ∃ x : Or, cs' = ocs x ∧ WfO x := by
  obtain ⟨hl, hg⟩ := fieldsG Try.underlying26 h
  obtain ⟨a, b, c, d, e, f, g, hh, i, j, rfl⟩ := list10 (hl.trans (by kernel_rfl))
  obtain ⟨_, _, g0⟩ := hg 0 (by decide)
  obtain ⟨_, _, g1⟩ := hg 1 (by decide)
  obtain ⟨_, _, g2⟩ := hg 2 (by decide)
  obtain ⟨_, _, g3⟩ := hg 3 (by decide)
  obtain ⟨_, _, g4⟩ := hg 4 (by decide)
  obtain ⟨_, _, g5⟩ := hg 5 (by decide)
  obtain ⟨_, _, g6⟩ := hg 6 (by decide)
  obtain ⟨_, _, g7⟩ := hg 7 (by decide)
  obtain ⟨_, _, g8⟩ := hg 8 (by decide)
  obtain ⟨_, _, g9⟩ := hg 9 (by decide)
  obtain ⟨z0, rfl⟩ := el_bool (c := a) g0
  obtain ⟨z1, rfl, b1⟩ := el_int (c := b) g1
  obtain ⟨z2, rfl, b2⟩ := el_int (c := c) g2
  obtain ⟨z3, rfl, b3⟩ := el_int (c := d) g3
  obtain ⟨z4, rfl, b4⟩ := el_int (c := e) g4
  obtain ⟨z5, rfl, b5⟩ := el_int (c := f) g5
  obtain ⟨z6, rfl, h6⟩ := el_u64 (c := g) g6
  obtain ⟨z7, rfl, h7⟩ := el_u64 (c := hh) g7
  obtain ⟨z8, rfl, h8⟩ := el_u64 (c := i) g8
  obtain ⟨z9, rfl, b9⟩ := el_int (c := j) g9
  exact ⟨⟨z0, z1, z2, z3, z4, z5, z6, z7, z8, z9⟩, rfl, ⟨h6, h7, h8⟩, WalkArith.wf_i64 b9⟩
theorem open_orders {fuel : Nat} {y : DataW H × List MemPlace} (h : TR enc w fuel 22 [v] y) : ∃ l, Ors w v l ∧ ∀ x ∈ l, WfO x := by
  haveI : Inhabited Or := ⟨zor⟩
  obtain ⟨l, hr, hp⟩ := open_row (α := Or) (f := ocs) (n := 10) (e := 26) (P := WfO) (fun _ => rfl) Try.underlying22 (by kernel_rfl) (fun n' cs' y h => el_order h) h
  exact ⟨l, hr, hp⟩
theorem open_orders' (hv : Value.okWide Try.prog w r b0 22 v) (h : DataW.Trod enc Try.prog w 0 (fun _ => true) true 22 v d p) : ∃ l, Ors w v l ∧ ∀ x ∈ l, WfO x := by
  obtain ⟨A, n, c, rfl⟩ := okWide_slice Try.underlying22 hv
  obtain ⟨fuel, hf⟩ := h
  exact open_orders hf
theorem open_order' (hv : Value.okWide Try.prog w r b0 26 v) (h : DataW.Trod enc Try.prog w 0 (fun _ => true) true 26 v d p) : ∃ x, v = orv x ∧ WfO x := by
  obtain ⟨cs, rfl, hsz⟩ := okWide_struct Try.underlying26 hv
  obtain ⟨fuel, hf⟩ := h
  obtain ⟨cs⟩ := cs
  have hf' : TR enc w fuel 26 cs (d, p) := by simpa [Value.cells] using hf
  obtain ⟨x, rfl, hs⟩ := el_order hf'
  exact ⟨x, rfl, hs⟩
end
end Go.Proofs.Ytmnfajplfnfgpaa.OW
