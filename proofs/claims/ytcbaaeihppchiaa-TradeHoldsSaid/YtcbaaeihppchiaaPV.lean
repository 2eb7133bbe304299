/-
  Rows of trades that came in, as they are read.
  Conditions: those that each lemma names.
-/
import Derived.Test.YtcbaaeihppchiaaPO
import Derived.Test.YtcbaaeihppchiaaPQ
namespace Go.Proofs.Ytcbaaeihppchiaa.PV
set_option maxRecDepth 100000
open Go.ChangeShapes Go.WideShapes Go.ChangeAt Go.Deep Go.Joins
open Go Go.RowKit Go.Lib Go.Proofs.Ytcbaaeihppchiaa Go.Proofs.Ytcbaaeihppchiaa.Facts Go.Proofs.Ytcbaaeihppchiaa.Ints Go.Proofs.Ytcbaaeihppchiaa.PA Go.Proofs.Ytcbaaeihppchiaa.PC Go.Proofs.Ytcbaaeihppchiaa.PQ Go.Proofs.Ytcbaaeihppchiaa.PO Go.Proofs.Ytcbaaeihppchiaa.Law

section
variable {H : Type} {enc : TypeId × Value → H} {w : World} {r : Reach} {b0 : Nat} {v : Value} {d : DataW H} {p : List MemPlace}
theorem el_u64 {n' : Nat} {c : Value} {y : DataW H × List MemPlace} (h : TR enc w n' 38 [c] y) : ∃ z : Nat, c = .int .u64 (z : Int) ∧ z < 18446744073709551616 := by
  obtain ⟨z, e, _, wf⟩ := DataW.trod_int Try.underlying38 h
  cases e
  have hz : 0 ≤ z ∧ z ≤ 18446744073709551615 := by simpa [Lit.wf, IntKind.min, IntKind.max, IntKind.signed, IntKind.bits] using wf
  obtain ⟨k, rfl⟩ := Int.eq_ofNat_of_zero_le hz.1
  exact ⟨k, rfl, by omega⟩
theorem list3 {l : List Value} (h : l.length = 3) : ∃ a b c, l = [a, b, c] := by
  match l, h with | [a, b, c], _ => exact ⟨a, b, c, rfl⟩
theorem list9 {l : List Value} (h : l.length = 9) : ∃ a b c d e f g h i, l = [a, b, c, d, e, f, g, h, i] := by
  match l, h with | [a, b, c, d, e, f, g, h, i], _ => exact ⟨a, b, c, d, e, f, g, h, i, rfl⟩
theorem el_part {n' : Nat} {a b c : Value} {y : DataW H × List MemPlace} (h : TR enc w n' 40 [a, b, c] y) : ∃ (x : Int) (n : Nat) (z : Int), a = .int .i64 x ∧ b = .int .u64 (n : Int) ∧ c = .int .i64 z ∧ n < 18446744073709551616 := by
  obtain ⟨_, hg⟩ := fieldsG Try.underlying40 h
  obtain ⟨_, _, g0⟩ := hg 0 (by decide)
  obtain ⟨_, _, g1⟩ := hg 1 (by decide)
  obtain ⟨_, _, g2⟩ := hg 2 (by decide)
  obtain ⟨x, rfl, _⟩ := el_int (c := a) g0
  obtain ⟨n, rfl, hn⟩ := el_u64 (c := b) g1
  obtain ⟨z, rfl, _⟩ := el_int (c := c) g2
  exact ⟨x, n, z, rfl, rfl, rfl, hn⟩
theorem el_trade {n' : Nat} {cs' : List Value} {y : DataW H × List MemPlace} (h : TR enc w n' 42 cs' y) : ∃ x : Tr, cs' = tcs x ∧ x.ga < 18446744073709551616 := by
  obtain ⟨hl, hg⟩ := fieldsG Try.underlying42 h
  obtain ⟨a, b, c, d, e, f, g, hh, i, rfl⟩ := list9 (hl.trans (by kernel_rfl))
  obtain ⟨_, _, g0⟩ := hg 0 (by decide)
  obtain ⟨_, _, g1⟩ := hg 1 (by decide)
  obtain ⟨_, _, g2⟩ := hg 2 (by decide)
  obtain ⟨_, _, g3⟩ := hg 3 (by decide)
  obtain ⟨_, _, g4⟩ := hg 4 (by decide)
  obtain ⟨z0, rfl⟩ := el_bool (c := a) g0
  obtain ⟨z1, rfl, _⟩ := el_int (c := b) g1
  obtain ⟨z2, rfl, _⟩ := el_int (c := c) g2
  obtain ⟨z3, z4, z5, rfl, rfl, rfl, hz⟩ := el_part (a := d) (b := e) (c := f) g3
  obtain ⟨z6, z7, z8, rfl, rfl, rfl, _⟩ := el_part (a := g) (b := hh) (c := i) g4
  exact ⟨⟨z0, z1, z2, z3, z4, z5, z6, z7, z8⟩, rfl, hz⟩
theorem open_trades {fuel : Nat} {y : DataW H × List MemPlace} (h : TR enc w fuel 37 [v] y) : ∃ l, Trs w v l ∧ SzT l := by
  haveI : Inhabited Tr := ⟨ztr⟩
  obtain ⟨l, hr, hp⟩ := open_row (α := Tr) (f := tcs) (n := 9) (e := 42) (P := fun x => x.ga < 18446744073709551616) (fun _ => rfl) Try.underlying37 (by kernel_rfl) (fun n' cs' y h => el_trade h) h
  exact ⟨l, hr, hp⟩
theorem open_trades' (hv : Value.okWide Try.prog w r b0 37 v) (h : DataW.Trod enc Try.prog w 0 (fun _ => true) true 37 v d p) : ∃ l, Trs w v l ∧ SzT l := by
  obtain ⟨A, n, c, rfl⟩ := okWide_slice Try.underlying37 hv
  obtain ⟨fuel, hf⟩ := h
  exact open_trades hf
theorem trades_size {fuel : Nat} {y : DataW H × List MemPlace} (h : TR enc w fuel 37 [v] y) (hw : ∀ n ∈ y.1.weights Try.prog 37, n ≤ reachBytes) {l : List Tr} (hl : Trs w v l) : l.length * 72 ≤ reachBytes := by
  obtain ⟨A, c, rfl, h1, h2, h3, h4⟩ := hl
  rcases Go.Deep.open_slice Try.underlying37 h with ⟨hcs, hx⟩ | ⟨a, len, cap, m, n1, D, Pl, hcs, _, hlc, hm, hmm, hx, hi⟩
  · simp only [List.cons.injEq, and_true, Value.slice.injEq] at hcs
    rw [hcs.2.1]
    simp
  · simp only [List.cons.injEq, and_true, Value.slice.injEq] at hcs
    subst hx
    have := hw (_ * Try.prog.bytesOf 42) (by rw [DataW.weights, Try.underlying37]; exact List.mem_cons_self)
    rw [show Try.prog.bytesOf 42 = 72 by kernel_rfl, List.length_map, List.length_range] at this
    rw [hcs.2.1]
    exact Nat.le_trans (Nat.mul_le_mul_right 72 (Nat.le_add_right _ _)) this
theorem trades_sized {ts : List TypeId} {ds : List (DataW H)} {l : List Tr} {j : Nat} (hs : (DataW.weightsEach Try.prog ts ds).all (· ≤ reachBytes) = true) (ht : ts[j]? = some 37) (hd : ds[j]? = some d) (h : DataW.Trod enc Try.prog w 0 (fun _ => true) true 37 v d p) (hR : Trs w v l) : l.length * 72 ≤ 140737488355328 := by
  obtain ⟨fuel, hf⟩ := h
  obtain ⟨A, c, rfl, _⟩ := id hR
  have := trades_size (y := (d, p)) hf (fun n hn => by simpa using List.all_eq_true.1 hs n (DataW.weights_mem_each ht hd n hn)) hR
  have hb : reachBytes ≤ 140737488355328 := by decide
  exact Nat.le_trans this hb
theorem open_trade' (hv : Value.okWide Try.prog w r b0 42 v) (h : DataW.Trod enc Try.prog w 0 (fun _ => true) true 42 v d p) : ∃ x, v = trv x ∧ x.ga < 18446744073709551616 := by
  obtain ⟨cs, rfl, hsz⟩ := okWide_struct Try.underlying42 hv
  obtain ⟨fuel, hf⟩ := h
  obtain ⟨cs⟩ := cs
  have hf' : TR enc w fuel 42 cs (d, p) := by simpa [Value.cells] using hf
  obtain ⟨x, rfl, hs⟩ := el_trade hf'
  exact ⟨x, rfl, hs⟩
end
end Go.Proofs.Ytcbaaeihppchiaa.PV
