/-
  What came in, as it is read.
  Conditions: those that each lemma names.
-/
import Derived.Test.YthgigkklefaeeaaRM
import Derived.Test.YthgigkklefaeeaaLaw
import Derived.Deep.Slices
import Derived.Deep.Fields
import Derived.Lib.SmallJoins
import Derived.OpenShut
import Derived.Test.YthgigkklefaeeaaRows
namespace Go.Proofs.Ythgigkklefaeeaa.RO
set_option maxRecDepth 100000
open Go Go.RowKit Go.Lib Go.Proofs.Ythgigkklefaeeaa Go.Proofs.Ythgigkklefaeeaa.Facts Go.Proofs.Ythgigkklefaeeaa.Bytes Go.Proofs.Ythgigkklefaeeaa.Puts Go.Proofs.Ythgigkklefaeeaa.Scan Go.Proofs.Ythgigkklefaeeaa.Take Go.Proofs.Ythgigkklefaeeaa.Nums Go.Proofs.Ythgigkklefaeeaa.SumPure Go.Proofs.Ythgigkklefaeeaa.Sum Go.Proofs.Ythgigkklefaeeaa.FP Go.Proofs.Ythgigkklefaeeaa.FW Go.Proofs.Ythgigkklefaeeaa.FX Go.Proofs.Ythgigkklefaeeaa.Law Go.Proofs.Ythgigkklefaeeaa.Ints Go.Proofs.Ythgigkklefaeeaa.PA Go.Proofs.Ythgigkklefaeeaa.RA Go.Proofs.Ythgigkklefaeeaa.RC Go.Proofs.Ythgigkklefaeeaa.RD Go.Proofs.Ythgigkklefaeeaa.RE Go.Proofs.Ythgigkklefaeeaa.RF Go.Proofs.Ythgigkklefaeeaa.RG Go.Proofs.Ythgigkklefaeeaa.RH Go.Proofs.Ythgigkklefaeeaa.RI Go.Proofs.Ythgigkklefaeeaa.RK Go.Proofs.Ythgigkklefaeeaa.RL Go.Proofs.Ythgigkklefaeeaa.RM Go.Proofs.Ythgigkklefaeeaa.FS Go.Proofs.Ythgigkklefaeeaa.FV

open Go.ChangeShapes Go.WideShapes Go.ChangeAt Go.Deep Go.Joins
theorem cells5 : Try.prog.cellsOf 5 = 1 := by kernel_rfl
theorem bulk_one {H : Type} (d : DataW H) : 1 ≤ Rows.uptoBulk d := by
  cases d with
  | lit l => cases l <;> simp [Rows.uptoBulk]
  | nil => simp [Rows.uptoBulk]
  | ptr d => simp [Rows.uptoBulk]
  | slice elems spare => simp [Rows.uptoBulk]
  | agg parts => simp [Rows.uptoBulk]
  | iface t d => simp [Rows.uptoBulk]
  | map entries => simp [Rows.uptoBulk]
  | held h => simp [Rows.uptoBulk]
theorem bulk_len {H : Type} (l : List (DataW H)) : l.length ≤ Rows.uptoBulkAll l := by
  induction l with
  | nil => simp [Rows.uptoBulkAll]
  | cons x r ih => have := bulk_one x; simp only [Rows.uptoBulkAll, List.length_cons]; omega
theorem bulk_slice {H : Type} (elems spare : List (DataW H)) : elems.length ≤ Rows.uptoBulk (.slice elems spare) := by
  have h1 := bulk_len elems
  simp only [Rows.uptoBulk]
  omega

theorem add_off (ad : Addr) (m k : Nat) : (ad.add m).add k = ad.add (m + k) := Go.Deep.add_add ..
theorem rw_of {α : Type} {f : α → List Value} {n : Nat} (hf : ∀ x, (f x).length = n) {w : World} {ad : Addr} {c : Nat} (l : List α) (hl : l.length ≤ c) (hc : c ≤ maxLen) (h : ∀ (i : Nat) x, l[i]? = some x → ∀ (k : Nat) u, (f x)[k]? = some u → w.cell? (ad.add (i * n + k)) = some u) : Rw w (.slice (some ad) l.length c) l.length (l.flatMap f) := by
  refine ⟨some ad, c, rfl, hl, hc, (fun h => by cases h), fun ad' ha j u hu => ?_⟩
  cases ha
  have hj := (List.getElem?_eq_some_iff.1 hu).1
  rw [flat_len f n hf] at hj
  have hn : 0 < n := by
    rcases Nat.eq_zero_or_pos n with rfl | h0
    · omega
    · exact h0
  have hi : j / n < l.length := by rw [Nat.div_lt_iff_lt_mul hn]; exact hj
  have e : j = j / n * n + j % n := by rw [Nat.mul_comm]; exact (Nat.div_add_mod j n).symm
  have hk : j % n < n := Nat.mod_lt _ hn
  have hx : l[j / n]? = some l[j / n] := List.getElem?_eq_getElem hi
  rw [e]
  refine h _ _ hx _ u ?_
  rw [← flat_get f n hf l _ _ _ hx hk, ← e]
  exact hu
section
variable {H : Type} {enc : TypeId × Value → H} {w : World} {r : Reach} {b0 : Nat} {v : Value} {d : DataW H} {p : List MemPlace}
abbrev TR (enc : TypeId × Value → H) (w : World) (n : Nat) (t : TypeId) (cs : List Value) (y : DataW H × List MemPlace) : Prop := DataW.trod enc Try.prog w 0 (fun _ => true) true n t cs = some y
theorem open_row {α : Type} [Inhabited α] {f : α → List Value} {n : Nat} {t e : TypeId} {P : α → Prop} (hf : ∀ x, (f x).length = n) (ht : Try.prog.underlying t = some (.slice e)) (hc : Try.prog.cellsOf e = n) (hel : ∀ n' cs' y, TR enc w n' e cs' y → ∃ x, cs' = f x ∧ P x) {fuel : Nat} {y : DataW H × List MemPlace} (h : TR enc w fuel t [v] y) : ∃ l : List α, Rw w v l.length (l.flatMap f) ∧ ∀ x ∈ l, P x := by
  rcases Go.Deep.open_slice ht h with ⟨hcs, hx⟩ | ⟨a, len, cap, m, n1, D, Pl, hcs, _, hlc, hm, hmm, hx, hi⟩
  · simp only [List.cons.injEq, and_true] at hcs
    subst hcs
    exact ⟨[], rw_none w, fun x hx => by cases hx⟩
  · simp only [List.cons.injEq, and_true] at hcs
    subst hcs
    simp only [if_true] at hmm
    have each : ∀ i, i < len → ∃ x : α, (∀ (k : Nat) u, (f x)[k]? = some u → w.cell? (a.add (i * n + k)) = some u) ∧ P x := fun i hil => by
      obtain ⟨cs', hcl, ht'⟩ := hi i (by omega)
      obtain ⟨x, rfl, hp⟩ := hel _ _ _ ht'
      rw [hc] at hcl
      obtain ⟨_, hlen, hat⟩ := World.cells?_some hcl
      refine ⟨x, fun k u hu => ?_, hp⟩
      have hk := (List.getElem?_eq_some_iff.1 hu).1
      have := hat k (by rw [hf] at hk; exact hk)
      rw [add_off] at this
      exact this.trans hu
    obtain ⟨g, hg⟩ := choose_lt each
    have hlen : ((List.range len).map g).length = len := by simp
    refine ⟨(List.range len).map g, ?_, fun x hx => ?_⟩
    · have := rw_of (w := w) (ad := a) (c := cap) hf ((List.range len).map g) (by rw [hlen]; exact hlc) hm fun i x hx k u hu => by
        have hil : i < len := by
          have := (List.getElem?_eq_some_iff.1 hx).1
          rwa [hlen] at this
        simp [hil] at hx
        subst hx
        exact (hg i hil).1 k u hu
      rw [hlen] at this ⊢
      exact this
    · obtain ⟨i, hi', rfl⟩ := List.mem_map.1 hx
      exact (hg i (List.mem_range.1 hi')).2
theorem fieldsG {t : TypeId} {fs : Array Field} {n' : Nat} {cs' : List Value} {y : DataW H × List MemPlace} (hs : Try.prog.underlying t = some (.struct fs)) (h : TR enc w n' t cs' y) : cs'.length = Try.prog.cellsOf t ∧ ∀ i (hi : i < fs.size), ∃ n y', TR enc w n (fs[i]).type ((cs'.drop (fs[i]).offset).take (Try.prog.cellsOf (fs[i]).type)) y' := by
  obtain ⟨xs, n, _, _, hl, hlen, hf⟩ := DataW.trod_struct hs h
  refine ⟨hl, fun i hi => ?_⟩
  have h1 := hf i (fs[i]) (Array.getElem?_eq_getElem hi)
  exact ⟨n, xs[i]'(by rw [hlen]; exact hi), h1.trans (List.getElem?_eq_getElem _)⟩
theorem el_int {n' : Nat} {c : Value} {y : DataW H × List MemPlace} (h : TR enc w n' 3 [c] y) : ∃ z, c = .int .i64 z ∧ -9223372036854775808 ≤ z ∧ z ≤ 9223372036854775807 := by
  obtain ⟨z, e, _, wf⟩ := DataW.trod_int Try.underlying3 h
  cases e
  have : -9223372036854775808 ≤ z ∧ z ≤ 9223372036854775807 := by simpa [Lit.wf, IntKind.min, IntKind.max, IntKind.signed, IntKind.bits] using wf
  exact ⟨z, rfl, this⟩
theorem el_u64 {n' : Nat} {c : Value} {y : DataW H × List MemPlace} (h : TR enc w n' 55 [c] y) : ∃ z : Nat, c = .int .u64 (z : Int) ∧ z < 18446744073709551616 := by
  obtain ⟨z, e, _, wf⟩ := DataW.trod_int Try.underlying55 h
  cases e
  have hz : 0 ≤ z ∧ z ≤ 18446744073709551615 := by simpa [Lit.wf, IntKind.min, IntKind.max, IntKind.signed, IntKind.bits] using wf
  obtain ⟨k, rfl⟩ := Int.eq_ofNat_of_zero_le hz.1
  exact ⟨k, rfl, by omega⟩
theorem el_errno {n' : Nat} {c : Value} {y : DataW H × List MemPlace} (h : TR enc w n' 22 [c] y) : ∃ z, c = .int .i64 z := by
  obtain ⟨z, e, _, _⟩ := DataW.trod_int Try.underlying22 h
  cases e
  exact ⟨z, rfl⟩
theorem open_cell {n' : Nat} {c2 : Value} {y2 : DataW H × List MemPlace} (g2 : DataW.trod enc Try.prog w 0 (fun _ => true) true n' 23 [c2] = some y2) : ∃ l, Rd (fun b => b < w.heap.size) w c2 l := by
  rcases open_ints Try.underlying23 Try.underlying5 cells5 g2 with ⟨hcs, hx⟩ | ⟨a, len, cap, zs, hcs, hb, hlc, hm, hz, hx, hcell, hwf⟩
  · simp at hcs
    subst hcs
    exact ⟨[], Rd.nil _ _⟩
  · simp at hcs
    subst hcs
    simp only [if_true] at hz
    have hbv : bv ((zs.take len).map fun z => UInt8.ofNat z.toNat) = (zs.take len).map (Value.int .u8) := by
      simp only [bv, List.map_map]
      refine List.map_congr_left fun z hzm => ?_
      have hw := hwf z (List.mem_of_mem_take hzm)
      have hw2 : 0 ≤ z ∧ z ≤ 255 := by simpa [Lit.wf, IntKind.min, IntKind.max, IntKind.signed, IntKind.bits] using hw
      simp only [Function.comp_apply, UInt8.toNat_ofNat']
      congr 1
      omega
    have hlen : ((zs.take len).map fun z => UInt8.ofNat z.toNat).length = len := by rw [List.length_map, List.length_take, hz]; omega
    have hrd : Rd (fun _ => True) w (.slice (some a) len cap) ((zs.take len).map fun z => UInt8.ofNat z.toNat) := by
      refine ⟨_, cap, by rw [hlen], by rw [hlen]; exact hlc, hm, (fun h => by cases h), fun ad ha => ⟨fun _ => trivial, fun j u hu => ?_⟩⟩
      cases ha
      rw [hbv] at hu
      have hj : j < len := by
        have := (List.getElem?_eq_some_iff.1 hu).1
        simp at this
        omega
      rw [hcell j (by omega), ← hu]
      simp [List.getD, hj, show j < zs.length by omega]
    exact ⟨_, hrd.lt.mono fun b hb => hb.2⟩

theorem row_size {t e m : Nat} {fuel : Nat} {y : DataW H × List MemPlace} (ht : Try.prog.underlying t = some (.slice e)) (hb : Try.prog.bytesOf e = m) {A : Option Addr} {n c : Nat} (h : TR enc w fuel t [.slice A n c] y) (hw : ∀ k ∈ y.1.weights Try.prog t, k ≤ reachBytes) : n * m ≤ reachBytes := by
  rcases Go.Deep.open_slice ht h with ⟨hcs, hx⟩ | ⟨a, len, cap, m1, n1, D, Pl, hcs, _, hlc, hm, hmm, hx, hi⟩
  · simp only [List.cons.injEq, and_true, Value.slice.injEq] at hcs
    rw [hcs.2.1]
    simp
  · simp only [List.cons.injEq, and_true, Value.slice.injEq] at hcs
    subst hx
    have := hw (_ * Try.prog.bytesOf e) (by rw [DataW.weights, ht]; exact List.mem_cons_self)
    rw [hb, List.length_map, List.length_range] at this
    rw [hcs.2.1]
    exact Nat.le_trans (Nat.mul_le_mul_right m (Nat.le_add_right _ _)) this
theorem list4 {l : List Value} (h : l.length = 4) : ∃ a b c d, l = [a, b, c, d] := by
  match l, h with | [a, b, c, d], _ => exact ⟨a, b, c, d, rfl⟩
theorem list2 {l : List Value} (h : l.length = 2) : ∃ a b, l = [a, b] := by
  match l, h with | [a, b], _ => exact ⟨a, b, rfl⟩
theorem list1 {l : List Value} (h : l.length = 1) : ∃ a, l = [a] := by
  match l, h with | [a], _ => exact ⟨a, rfl⟩
theorem el_out {n' : Nat} {cs' : List Value} {y : DataW H × List MemPlace} (h : TR enc w n' 25 cs' y) : ∃ q : Oq, cs' = ocs q ∧ Rd (fun b => b < w.heap.size) w (.slice q.2.1 q.1.d.length q.2.2) q.1.d := by
  obtain ⟨hl, hg⟩ := fieldsG Try.underlying25 h
  obtain ⟨a, b, c, d, rfl⟩ := list4 (hl.trans (by kernel_rfl))
  obtain ⟨_, _, g0⟩ := hg 0 (by decide)
  obtain ⟨_, _, g1⟩ := hg 1 (by decide)
  obtain ⟨_, _, g2⟩ := hg 2 (by decide)
  obtain ⟨_, _, g3⟩ := hg 3 (by decide)
  obtain ⟨z0, rfl, _⟩ := el_int (c := a) g0
  obtain ⟨z1, rfl, _⟩ := el_int (c := b) g1
  obtain ⟨z2, rfl⟩ := el_errno (c := c) g2
  obtain ⟨l, hr⟩ := open_cell (c2 := d) g3
  obtain ⟨A, k, rfl, _⟩ := id hr
  exact ⟨(⟨z0, z1, z2, l⟩, A, k), rfl, hr⟩
theorem open_out (hv : Value.okWide Try.prog w r b0 25 v) (h : DataW.Trod enc Try.prog w 0 (fun _ => true) true 25 v d p) : ∃ x A c, v = ov x A c ∧ Rd (fun b => b < w.heap.size) w (.slice A x.d.length c) x.d := by
  obtain ⟨cs, rfl, hsz⟩ := okWide_struct Try.underlying25 hv
  obtain ⟨fuel, hf⟩ := h
  obtain ⟨cs⟩ := cs
  have hf' : TR enc w fuel 25 cs (d, p) := by simpa [Value.cells] using hf
  obtain ⟨q, rfl, hs⟩ := el_out hf'
  exact ⟨q.1, q.2.1, q.2.2, rfl, hs⟩
theorem open_outs (hv : Value.okWide Try.prog w r b0 31 v) (h : DataW.Trod enc Try.prog w 0 (fun _ => true) true 31 v d p) : ∃ l : List Oq, Rw w v l.length (l.flatMap ocs) ∧ ∀ q ∈ l, Rd (fun b => b < w.heap.size) w (.slice q.2.1 q.1.d.length q.2.2) q.1.d := by
  obtain ⟨A, n, c, rfl⟩ := okWide_slice Try.underlying31 hv
  obtain ⟨fuel, hf⟩ := h
  haveI : Inhabited Oq := ⟨(zou, none, 0)⟩
  exact open_row (α := Oq) (f := ocs) (n := 4) (e := 25) (P := fun q => Rd (fun b => b < w.heap.size) w (.slice q.2.1 q.1.d.length q.2.2) q.1.d) (fun _ => rfl) Try.underlying31 (by kernel_rfl) (fun n' cs' y h => el_out h) hf
theorem open_ints' (hv : Value.okWide Try.prog w r b0 26 v) (h : DataW.Trod enc Try.prog w 0 (fun _ => true) true 26 v d p) : ∃ l, Is w v l := by
  obtain ⟨A, n, c, rfl⟩ := okWide_slice Try.underlying26 hv
  obtain ⟨fuel, hf⟩ := h
  obtain ⟨l, hr, _⟩ := open_row (α := Int) (f := fun z => [.int .i64 z]) (n := 1) (e := 3) (P := fun _ => True) (fun _ => rfl) Try.underlying26 (by kernel_rfl) (fun n' cs' y h => by
    obtain ⟨z, e, _, _⟩ := DataW.trod_int Try.underlying3 h
    exact ⟨z, e, trivial⟩) hf
  obtain ⟨A', c', e, h1, h2, h3, h4⟩ := hr
  have hfm : ∀ l : List Int, l.flatMap (fun z => [Value.int .i64 z]) = iv l := fun l => by
    unfold iv
    induction l with
    | nil => rfl
    | cons a l ih => simp [List.flatMap_cons, ih]
  rw [hfm] at h4
  exact ⟨l, A', c', e, h1, h2, h3, h4⟩
theorem row_bulk {t e : Nat} {fuel : Nat} {y : DataW H × List MemPlace} (ht : Try.prog.underlying t = some (.slice e)) {A : Option Addr} {n c : Nat} (h : TR enc w fuel t [.slice A n c] y) : n ≤ Rows.uptoBulk y.1 := by
  rcases Go.Deep.open_slice ht h with ⟨hcs, hx⟩ | ⟨a, len, cap, m1, n1, D, Pl, hcs, _, hlc, hm, hmm, hx, hi⟩
  · simp only [List.cons.injEq, and_true, Value.slice.injEq] at hcs
    rw [hcs.2.1]
    exact Nat.zero_le _
  · simp only [List.cons.injEq, and_true, Value.slice.injEq] at hcs
    subst hx
    have := bulk_slice ((List.range len).map D) ((List.range (m1 - len)).map fun j => D (len + j))
    rw [List.length_map, List.length_range] at this
    rw [hcs.2.1]
    exact this
theorem open_refs (hv : Value.okWide Try.prog w r b0 27 v) (h : DataW.Trod enc Try.prog w 0 (fun _ => true) true 27 v d p) : ∃ l : List Rf, Rfs w v l := by
  obtain ⟨A, n, c, rfl⟩ := okWide_slice Try.underlying27 hv
  obtain ⟨fuel, hf⟩ := h
  haveI : Inhabited Rf := ⟨⟨0, 0⟩⟩
  obtain ⟨l, hr, _⟩ := open_row (α := Rf) (f := rcs) (n := 2) (e := 35) (P := fun _ => True) (fun _ => rfl) Try.underlying27 (by kernel_rfl) (fun n' cs' y h => by
    obtain ⟨hl, hg⟩ := fieldsG Try.underlying35 h
    obtain ⟨a, b, rfl⟩ := list2 (hl.trans (by kernel_rfl))
    obtain ⟨_, _, g0⟩ := hg 0 (by decide)
    obtain ⟨_, _, g1⟩ := hg 1 (by decide)
    obtain ⟨z0, rfl, _⟩ := el_int (c := a) g0
    obtain ⟨z1, rfl, _⟩ := el_int (c := b) g1
    exact ⟨⟨z0, z1⟩, rfl, trivial⟩) hf
  exact ⟨l, hr⟩
theorem open_us (hv : Value.okWide Try.prog w r b0 28 v) (h : DataW.Trod enc Try.prog w 0 (fun _ => true) true 28 v d p) : ∃ l : List Nat, Us w v l ∧ ∀ z ∈ l, z < 18446744073709551616 := by
  obtain ⟨A, n, c, rfl⟩ := okWide_slice Try.underlying28 hv
  obtain ⟨fuel, hf⟩ := h
  exact open_row (α := Nat) (f := ucs) (n := 1) (e := 55) (P := fun z => z < 18446744073709551616) (fun _ => rfl) Try.underlying28 (by kernel_rfl) (fun n' cs' y h => by
    obtain ⟨z, e, _, wf⟩ := DataW.trod_int Try.underlying55 h
    have hz : 0 ≤ z ∧ z ≤ 18446744073709551615 := by simpa [Lit.wf, IntKind.min, IntKind.max, IntKind.signed, IntKind.bits] using wf
    obtain ⟨k, rfl⟩ := Int.eq_ofNat_of_zero_le hz.1
    exact ⟨k, e, by omega⟩) hf
theorem slice_bulk {t e : Nat} (ht : Try.prog.underlying t = some (.slice e)) {A : Option Addr} {n c : Nat} (h : DataW.Trod enc Try.prog w 0 (fun _ => true) true t (.slice A n c) d p) : n ≤ Rows.uptoBulk d := by
  obtain ⟨fuel, hf⟩ := h
  exact row_bulk (y := (d, p)) ht hf
theorem ord_rw {l : List Oq} (h : Rw w v l.length (l.flatMap ocs)) (he : ∀ q ∈ l, Rd (fun b => b < w.heap.size) w (.slice q.2.1 q.1.d.length q.2.2) q.1.d) : ORd w v (l.map (·.1)) := by
  obtain ⟨A, c, rfl, _⟩ := h.slice
  refine ⟨A, c, by rw [List.length_map], fun i x hx => ?_⟩
  obtain ⟨q, hq, hqx⟩ : ∃ q, l[i]? = some q ∧ q.1 = x := by
    rw [List.getElem?_map] at hx
    cases hq : l[i]? with
    | none => rw [hq] at hx; cases hx
    | some q => rw [hq] at hx; injection hx with hx; exact ⟨q, rfl, hx⟩
  subst hqx
  obtain ⟨ad, c', e, _, h0, h1⟩ := Rw.at (f := ocs) (n := 4) (fun _ => rfl) h hq (by decide)
  injection e with e1 _ _
  exact ⟨ad, q.2.1, q.2.2, e1, h0 _ rfl, h1 1 _ (by decide) rfl, h1 2 _ (by decide) rfl, h1 3 _ (by decide) rfl, he q (List.mem_of_getElem? hq)⟩
end
end Go.Proofs.Ythgigkklefaeeaa.RO
