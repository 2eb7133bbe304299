/-
  Rows of items and of deeds that came in, as they are read.
  Conditions: those that each lemma names.
-/
import Derived.Test.YtcbaaeihppchiaaPF
import Derived.Test.YtcbaaeihppchiaaLaw
import Derived.Deep.Slices
import Derived.Deep.Fields
import Derived.Lib.SmallJoins
import Derived.OpenShut
namespace Go.Proofs.Ytcbaaeihppchiaa.PO
set_option maxRecDepth 100000
set_option maxRecDepth 100000
open Go.ChangeShapes Go.WideShapes Go.ChangeAt Go.Deep Go.Joins
open Go Go.RowKit Go.Lib Go.Proofs.Ytcbaaeihppchiaa Go.Proofs.Ytcbaaeihppchiaa.Facts Go.Proofs.Ytcbaaeihppchiaa.Ints Go.Proofs.Ytcbaaeihppchiaa.PA Go.Proofs.Ytcbaaeihppchiaa.PB Go.Proofs.Ytcbaaeihppchiaa.PD Go.Proofs.Ytcbaaeihppchiaa.Law

theorem add_off (ad : Addr) (m k : Nat) : (ad.add m).add k = ad.add (m + k) := Go.Deep.add_add ..
theorem rw_of {α : Type} {f : α → List Value} {n : Nat} (hf : ∀ x, (f x).length = n) {w : World} {ad : Addr} {c : Nat} (l : List α) (hl : l.length ≤ c) (hc : c ≤ maxLen) (h : ∀ (i : Nat) x, l[i]? = some x → ∀ (k : Nat) u, (f x)[k]? = some u → w.cell? (ad.add (i * n + k)) = some u) : Rw w (.slice (some ad) l.length c) l.length (l.flatMap f) := by
  refine ⟨some ad, c, rfl, hl, hc, (fun h => by cases h), fun ad' ha j u hu => ?_⟩
  cases ha
  have hj := (List.getElem?_eq_some_iff.1 hu).1
  rw [flat_len f n hf] at hj
  have hn : 0 < n := by
    rcases Nat.eq_zero_or_pos n with rfl | h0
    · omega
    · exact h0
  have hi : j / n < l.length := by rw [Nat.div_lt_iff_lt_mul hn]; exact hj
  have e : j = j / n * n + j % n := by rw [Nat.mul_comm]; exact (Nat.div_add_mod j n).symm
  have hk : j % n < n := Nat.mod_lt _ hn
  have hx : l[j / n]? = some l[j / n] := List.getElem?_eq_getElem hi
  rw [e]
  refine h _ _ hx _ u ?_
  rw [← flat_get f n hf l _ _ _ hx hk, ← e]
  exact hu
section
variable {H : Type} {enc : TypeId × Value → H} {w : World} {r : Reach} {b0 : Nat} {v : Value} {d : DataW H} {p : List MemPlace}
abbrev TR (enc : TypeId × Value → H) (w : World) (n : Nat) (t : TypeId) (cs : List Value) (y : DataW H × List MemPlace) : Prop := DataW.trod enc Try.prog w 0 (fun _ => true) true n t cs = some y
theorem open_row {α : Type} [Inhabited α] {f : α → List Value} {n : Nat} {t e : TypeId} {P : α → Prop} (hf : ∀ x, (f x).length = n) (ht : Try.prog.underlying t = some (.slice e)) (hc : Try.prog.cellsOf e = n) (hel : ∀ n' cs' y, TR enc w n' e cs' y → ∃ x, cs' = f x ∧ P x) {fuel : Nat} {y : DataW H × List MemPlace} (h : TR enc w fuel t [v] y) : ∃ l : List α, Rw w v l.length (l.flatMap f) ∧ ∀ x ∈ l, P x := by
  rcases Go.Deep.open_slice ht h with ⟨hcs, hx⟩ | ⟨a, len, cap, m, n1, D, Pl, hcs, _, hlc, hm, hmm, hx, hi⟩
  · simp only [List.cons.injEq, and_true] at hcs
    subst hcs
    exact ⟨[], rw_none w, fun x hx => by cases hx⟩
  · simp only [List.cons.injEq, and_true] at hcs
    subst hcs
    simp only [if_true] at hmm
    have each : ∀ i, i < len → ∃ x : α, (∀ (k : Nat) u, (f x)[k]? = some u → w.cell? (a.add (i * n + k)) = some u) ∧ P x := fun i hil => by
      obtain ⟨cs', hcl, ht'⟩ := hi i (by omega)
      obtain ⟨x, rfl, hp⟩ := hel _ _ _ ht'
      rw [hc] at hcl
      obtain ⟨_, hlen, hat⟩ := World.cells?_some hcl
      refine ⟨x, fun k u hu => ?_, hp⟩
      have hk := (List.getElem?_eq_some_iff.1 hu).1
      have := hat k (by rw [hf] at hk; exact hk)
      rw [add_off] at this
      exact this.trans hu
    obtain ⟨g, hg⟩ := choose_lt each
    have hlen : ((List.range len).map g).length = len := by simp
    refine ⟨(List.range len).map g, ?_, fun x hx => ?_⟩
    · have := rw_of (w := w) (ad := a) (c := cap) hf ((List.range len).map g) (by rw [hlen]; exact hlc) hm fun i x hx k u hu => by
        have hil : i < len := by
          have := (List.getElem?_eq_some_iff.1 hx).1
          rwa [hlen] at this
        simp [hil] at hx
        subst hx
        exact (hg i hil).1 k u hu
      rw [hlen] at this ⊢
      exact this
    · obtain ⟨i, hi', rfl⟩ := List.mem_map.1 hx
      exact (hg i (List.mem_range.1 hi')).2
theorem fieldsG {t : TypeId} {fs : Array Field} {n' : Nat} {cs' : List Value} {y : DataW H × List MemPlace} (hs : Try.prog.underlying t = some (.struct fs)) (h : TR enc w n' t cs' y) : cs'.length = Try.prog.cellsOf t ∧ ∀ i (hi : i < fs.size), ∃ n y', TR enc w n (fs[i]).type ((cs'.drop (fs[i]).offset).take (Try.prog.cellsOf (fs[i]).type)) y' := by
  obtain ⟨xs, n, _, _, hl, hlen, hf⟩ := DataW.trod_struct hs h
  refine ⟨hl, fun i hi => ?_⟩
  have h1 := hf i (fs[i]) (Array.getElem?_eq_getElem hi)
  exact ⟨n, xs[i]'(by rw [hlen]; exact hi), h1.trans (List.getElem?_eq_getElem _)⟩
theorem el_int {n' : Nat} {c : Value} {y : DataW H × List MemPlace} (h : TR enc w n' 3 [c] y) : ∃ z, c = .int .i64 z ∧ -9223372036854775808 ≤ z ∧ z ≤ 9223372036854775807 := by
  obtain ⟨z, e, _, wf⟩ := DataW.trod_int Try.underlying3 h
  cases e
  have : -9223372036854775808 ≤ z ∧ z ≤ 9223372036854775807 := by simpa [Lit.wf, IntKind.min, IntKind.max, IntKind.signed, IntKind.bits] using wf
  exact ⟨z, rfl, this⟩
theorem el_text {n' : Nat} {c : Value} {y : DataW H × List MemPlace} (h : TR enc w n' 9 [c] y) : ∃ s : ByteArray, c = .string s ∧ s.size ≤ 9223372036854775807 := by
  obtain ⟨s, e, _, hs⟩ := DataW.trod_string Try.underlying9 h
  cases e
  exact ⟨s, rfl, by unfold maxLen at hs; omega⟩
theorem el_bool {n' : Nat} {c : Value} {y : DataW H × List MemPlace} (h : TR enc w n' 4 [c] y) : ∃ b, c = .bool b := by
  obtain ⟨b, e, _⟩ := DataW.trod_bool Try.underlying4 h
  cases e
  exact ⟨b, rfl⟩
theorem list2 {l : List Value} (h : l.length = 2) : ∃ a b, l = [a, b] := by
  match l, h with | [a, b], _ => exact ⟨a, b, rfl⟩
theorem c3 : Try.prog.cellsOf 3 = 1 := by kernel_rfl
theorem c4 : Try.prog.cellsOf 4 = 1 := by kernel_rfl
theorem c9 : Try.prog.cellsOf 9 = 1 := by kernel_rfl
theorem flat_map_one : ∀ l : List Int, l.flatMap (fun z => [Value.int .i64 z]) = iv l
  | [] => rfl
  | a :: r => by
    rw [List.flatMap_cons, flat_map_one r]
    rfl
theorem list5 {l : List Value} (h : l.length = 5) : ∃ a b c d e, l = [a, b, c, d, e] := by
  match l, h with | [a, b, c, d, e], _ => exact ⟨a, b, c, d, e, rfl⟩
theorem el_mail {n' : Nat} {cs' : List Value} {y : DataW H × List MemPlace} (h : TR enc w n' 23 cs' y) : ∃ x : Ml, cs' = mcs x ∧ x.text.size ≤ 9223372036854775807 := by
  obtain ⟨hl, hg⟩ := fieldsG Try.underlying23 h
  obtain ⟨a, b, c, d, e, rfl⟩ := list5 (hl.trans (by kernel_rfl))
  obtain ⟨_, _, g0⟩ := hg 0 (by decide)
  obtain ⟨_, _, g1⟩ := hg 1 (by decide)
  obtain ⟨_, _, g2⟩ := hg 2 (by decide)
  obtain ⟨_, _, g3⟩ := hg 3 (by decide)
  obtain ⟨_, _, g4⟩ := hg 4 (by decide)
  obtain ⟨z0, rfl⟩ := el_bool (c := a) g0
  obtain ⟨z1, rfl, _⟩ := el_int (c := b) g1
  obtain ⟨z2, rfl, _⟩ := el_int (c := c) g2
  obtain ⟨z3, rfl, _⟩ := el_int (c := d) g3
  obtain ⟨z4, rfl, s4⟩ := el_text (c := e) g4
  exact ⟨⟨z0, z1, z2, z3, z4⟩, rfl, s4⟩
theorem open_mails {fuel : Nat} {y : DataW H × List MemPlace} (h : TR enc w fuel 24 [v] y) : ∃ l, Mls w v l ∧ SzM l := by
  haveI : Inhabited Ml := ⟨zml⟩
  obtain ⟨l, hr, hp⟩ := open_row (α := Ml) (f := mcs) (n := 5) (e := 23) (P := fun x => x.text.size ≤ 9223372036854775807) (fun _ => rfl) Try.underlying24 (by kernel_rfl) (fun n' cs' y h => el_mail h) h
  exact ⟨l, hr, hp⟩
theorem open_mails' (hv : Value.okWide Try.prog w r b0 24 v) (h : DataW.Trod enc Try.prog w 0 (fun _ => true) true 24 v d p) : ∃ l, Mls w v l ∧ SzM l := by
  obtain ⟨A, n, c, rfl⟩ := okWide_slice Try.underlying24 hv
  obtain ⟨fuel, hf⟩ := h
  exact open_mails hf
theorem open_mail' (hv : Value.okWide Try.prog w r b0 23 v) (h : DataW.Trod enc Try.prog w 0 (fun _ => true) true 23 v d p) : ∃ x, v = mlv x ∧ x.text.size ≤ 9223372036854775807 ∧ -9223372036854775808 ≤ x.to ∧ x.to ≤ 9223372036854775807 := by
  obtain ⟨cs, rfl, hsz⟩ := okWide_struct Try.underlying23 hv
  obtain ⟨fuel, hf⟩ := h
  obtain ⟨cs⟩ := cs
  have hf' : TR enc w fuel 23 cs (d, p) := by simpa [Value.cells] using hf
  obtain ⟨x, rfl, hs⟩ := el_mail hf'
  obtain ⟨_, hg⟩ := fieldsG Try.underlying23 hf'
  obtain ⟨_, _, g3⟩ := hg 3 (by decide)
  obtain ⟨z3, e3, hb⟩ := el_int (c := .int .i64 x.to) g3
  cases e3
  exact ⟨x, rfl, hs, hb.1, hb.2⟩
theorem open_ints' (hv : Value.okWide Try.prog w r b0 25 v) (h : DataW.Trod enc Try.prog w 0 (fun _ => true) true 25 v d p) : ∃ l, Is w v l := by
  obtain ⟨A, n, c, rfl⟩ := okWide_slice Try.underlying25 hv
  obtain ⟨fuel, hf⟩ := h
  haveI : Inhabited Int := ⟨0⟩
  obtain ⟨l, hr, _⟩ := open_row (α := Int) (f := fun z => [.int .i64 z]) (n := 1) (e := 3) (P := fun _ => True) (fun _ => rfl) Try.underlying25 (by kernel_rfl) (fun n' cs' y h => by
    obtain ⟨z, e, wf⟩ := DataW.trod_int Try.underlying3 h
    exact ⟨z, e, trivial⟩) hf
  refine ⟨l, ?_⟩
  have e : l.flatMap (fun z => [Value.int .i64 z]) = iv l := by
    exact flat_map_one l
  rw [e] at hr
  exact hr
end
end Go.Proofs.Ytcbaaeihppchiaa.PO
