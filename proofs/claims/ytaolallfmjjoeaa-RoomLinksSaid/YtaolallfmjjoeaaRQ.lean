/-
  Rows of rooms and of links that came in, as they are read.
  Conditions: those that each lemma names.
-/
import Derived.Test.YtaolallfmjjoeaaTO3
import Derived.Test.YtaolallfmjjoeaaRP
namespace Go.Proofs.Ytaolallfmjjoeaa.RQ
set_option maxRecDepth 100000
open Go.ChangeShapes Go.WideShapes Go.ChangeAt Go.Deep Go.Joins
open Go Go.RowKit Go.Lib Go.Proofs.Ytaolallfmjjoeaa Go.Proofs.Ytaolallfmjjoeaa.Facts Go.Proofs.Ytaolallfmjjoeaa.Ints Go.Proofs.Ytaolallfmjjoeaa.TI Go.Proofs.Ytaolallfmjjoeaa.TP Go.Proofs.Ytaolallfmjjoeaa.TC Go.Proofs.Ytaolallfmjjoeaa.Law Go.Proofs.Ytaolallfmjjoeaa.TO Go.Proofs.Ytaolallfmjjoeaa.RA Go.Proofs.Ytaolallfmjjoeaa.RC Go.Proofs.Ytaolallfmjjoeaa.RP

section
variable {H : Type} {enc : TypeId × Value → H} {w : World} {r : Reach} {b0 : Nat} {v : Value} {d : DataW H} {p : List MemPlace}
theorem open_rooms {fuel : Nat} {y : DataW H × List MemPlace} (h : TR enc w fuel 22 [v] y) : ∃ l, Rms w v l ∧ SzR l := by
  haveI : Inhabited Rm := ⟨zrm⟩
  obtain ⟨l, hr, hp⟩ := open_row (α := Rm) (f := rcs) (n := 2) (e := 74) (P := fun x => x.name.size ≤ 9223372036854775807) (fun _ => rfl) Try.underlying22 (by kernel_rfl) (fun n' cs' y h => by
    obtain ⟨hl, hg⟩ := fieldsG Try.underlying74 h
    obtain ⟨a, b, rfl⟩ := list2 (hl.trans (by kernel_rfl))
    obtain ⟨_, _, g0⟩ := hg 0 (by decide)
    obtain ⟨_, _, g1⟩ := hg 1 (by decide)
    obtain ⟨z0, rfl⟩ := el_bool (c := a) g0
    obtain ⟨z1, rfl, s1⟩ := el_text (c := b) g1
    exact ⟨⟨z0, z1⟩, rfl, s1⟩) h
  exact ⟨l, hr, hp⟩
theorem rooms_size {fuel : Nat} {y : DataW H × List MemPlace} (h : TR enc w fuel 22 [v] y) (hw : ∀ n ∈ y.1.weights Try.prog 22, n ≤ reachBytes) {l : List Rm} (hl : Rms w v l) : l.length * 24 ≤ reachBytes := by
  obtain ⟨A, c, rfl, h1, h2, h3, h4⟩ := hl
  rcases Go.Deep.open_slice Try.underlying22 h with ⟨hcs, hx⟩ | ⟨a, len, cap, m, n1, D, Pl, hcs, _, hlc, hm, hmm, hx, hi⟩
  · simp only [List.cons.injEq, and_true, Value.slice.injEq] at hcs
    rw [hcs.2.1]
    simp
  · simp only [List.cons.injEq, and_true, Value.slice.injEq] at hcs
    subst hx
    have := hw (_ * Try.prog.bytesOf 74) (by rw [DataW.weights, Try.underlying22]; exact List.mem_cons_self)
    rw [show Try.prog.bytesOf 74 = 24 by kernel_rfl, List.length_map, List.length_range] at this
    rw [hcs.2.1]
    exact Nat.le_trans (Nat.mul_le_mul_right 24 (Nat.le_add_right _ _)) this
theorem rooms_sized {ts : List TypeId} {ds : List (DataW H)} {l : List Rm} {j : Nat} (hs : (DataW.weightsEach Try.prog ts ds).all (· ≤ reachBytes) = true) (ht : ts[j]? = some 22) (hd : ds[j]? = some d) (h : DataW.Trod enc Try.prog w 0 (fun _ => true) true 22 v d p) (hR : Rms w v l) : l.length * 24 ≤ 140737488355328 := by
  obtain ⟨fuel, hf⟩ := h
  obtain ⟨A, c, rfl, _⟩ := id hR
  have := rooms_size (y := (d, p)) hf (fun n hn => by simpa using List.all_eq_true.1 hs n (DataW.weights_mem_each ht hd n hn)) hR
  have hb : reachBytes ≤ 140737488355328 := by decide
  exact Nat.le_trans this hb
theorem open_rooms' (hv : Value.okWide Try.prog w r b0 22 v) (h : DataW.Trod enc Try.prog w 0 (fun _ => true) true 22 v d p) : ∃ l, Rms w v l ∧ SzR l := by
  obtain ⟨A, n, c, rfl⟩ := okWide_slice Try.underlying22 hv
  obtain ⟨fuel, hf⟩ := h
  exact open_rooms hf
theorem open_links {fuel : Nat} {y : DataW H × List MemPlace} (h : TR enc w fuel 30 [v] y) : ∃ l, Lds w v l ∧ ∀ x ∈ l, (fun _ => True) x := by
  haveI : Inhabited Ld := ⟨⟨0, 0, 0, 0, 0, false⟩⟩
  exact open_row (α := Ld) (f := lcs) (n := 6) (e := 35) (P := fun _ => True) (fun _ => rfl) Try.underlying30 (by kernel_rfl) (fun n' cs' y h => by
    obtain ⟨hl, hg⟩ := fieldsG Try.underlying35 h
    obtain ⟨a, b, c, d, e, f, rfl⟩ := list6 (hl.trans (by kernel_rfl))
    obtain ⟨_, _, g0⟩ := hg 0 (by decide)
    obtain ⟨_, _, g1⟩ := hg 1 (by decide)
    obtain ⟨_, _, g2⟩ := hg 2 (by decide)
    obtain ⟨_, _, g3⟩ := hg 3 (by decide)
    obtain ⟨z0, z1, rfl, rfl⟩ := el_ref (a := a) (b := b) g0
    obtain ⟨z2, z3, rfl, rfl⟩ := el_ref (a := c) (b := d) g1
    obtain ⟨z4, rfl, _⟩ := el_int (c := e) g2
    obtain ⟨z5, rfl⟩ := el_bool (c := f) g3
    exact ⟨⟨z0, z1, z2, z3, z4, z5⟩, rfl, trivial⟩) h
theorem open_links' (hv : Value.okWide Try.prog w r b0 30 v) (h : DataW.Trod enc Try.prog w 0 (fun _ => true) true 30 v d p) : ∃ l, Lds w v l ∧ ∀ x ∈ l, (fun _ => True) x := by
  obtain ⟨A, n, c, rfl⟩ := okWide_slice Try.underlying30 hv
  obtain ⟨fuel, hf⟩ := h
  exact open_links hf
end
end Go.Proofs.Ytaolallfmjjoeaa.RQ
