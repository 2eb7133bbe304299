/-
  Rows of what a line is told, whose data came in.
  Conditions: those that each lemma names.
-/
import Derived.Test.YthgigkklefaeeaaRI
import Derived.Test.YthgigkklefaeeaaFB1
namespace Go.Proofs.Ythgigkklefaeeaa.RN
set_option maxRecDepth 100000
open Go Go.RowKit Go.Lib Go.Proofs.Ythgigkklefaeeaa Go.Proofs.Ythgigkklefaeeaa.Facts Go.Proofs.Ythgigkklefaeeaa.Bytes Go.Proofs.Ythgigkklefaeeaa.Puts Go.Proofs.Ythgigkklefaeeaa.Scan Go.Proofs.Ythgigkklefaeeaa.Take Go.Proofs.Ythgigkklefaeeaa.Nums Go.Proofs.Ythgigkklefaeeaa.SumPure Go.Proofs.Ythgigkklefaeeaa.Sum Go.Proofs.Ythgigkklefaeeaa.FP Go.Proofs.Ythgigkklefaeeaa.FW Go.Proofs.Ythgigkklefaeeaa.FX Go.Proofs.Ythgigkklefaeeaa.Ints Go.Proofs.Ythgigkklefaeeaa.PA Go.Proofs.Ythgigkklefaeeaa.RA Go.Proofs.Ythgigkklefaeeaa.RC Go.Proofs.Ythgigkklefaeeaa.RD Go.Proofs.Ythgigkklefaeeaa.RE Go.Proofs.Ythgigkklefaeeaa.RF Go.Proofs.Ythgigkklefaeeaa.RG Go.Proofs.Ythgigkklefaeeaa.RH Go.Proofs.Ythgigkklefaeeaa.RI Go.Proofs.Ythgigkklefaeeaa.FS Go.Proofs.Ythgigkklefaeeaa.FB1

/-- A row of the call's own of what a line is told, whose data lies below a block. -/
def KS (n0 base : Nat) (w : World) (v : Value) (l : List Ou) : Prop := ∃ L : List Oq, L.map (·.1) = l ∧ w.ownsRow base 25 4 v L.length (L.flatMap ocs) ∧ ∀ q ∈ L, Rd (fun b => b < n0) w (.slice q.2.1 q.1.d.length q.2.2) q.1.d
theorem KS.nil (n0 base : Nat) (w : World) : KS n0 base w (.slice none 0 0) [] := ⟨[], rfl, World.ownsRow_nil _ _ _ _, fun q h => by cases h⟩
theorem KS.grew {n0 base : Nat} {w w' : World} {v : Value} {l : List Ou} (h : KS n0 base w v l) (hg : Grew w w') : KS n0 base w' v l := by
  obtain ⟨L, h1, h2, h3⟩ := h
  exact ⟨L, h1, own_grew h2 hg, fun q hq => (h3 q hq).grew hg⟩
theorem KS.own {n0 base : Nat} {w : World} {v : Value} {l : List Ou} (h : KS n0 base w v l) : ∀ k, v.ownBlock = some k → base ≤ k ∧ k < w.heap.size := fun k hk => by
  obtain ⟨L, _, ho, _⟩ := h
  rcases ho.2 with ⟨rfl, _⟩ | ⟨g2, cap, cur, rfl, hb, hg2, _⟩
  · cases hk
  · simp [Value.ownBlock] at hk
    subst hk
    exact ⟨hb, (Array.getElem?_eq_some_iff.1 hg2).1⟩
theorem KS.kept {n0 base : Nat} {w w' : World} {v : Value} {l : List Ou} {r : Option Nat} (h : KS n0 base w v l) (hg : w.grownBy w' r) (hr : ∀ k, v.ownBlock = some k → r ≠ some k) (hn : ∀ k, r = some k → n0 ≤ k) : KS n0 base w' v l := by
  obtain ⟨L, h1, h2, h3⟩ := h
  refine ⟨L, h1, own_kept h2 hg hr, fun q hq => (h3 q hq).keep fun b hb hb2 => hg.block b hb fun e => ?_⟩
  have := hn b e.symm
  omega
theorem KS.apart {n0 base b1 n m : Nat} {w : World} {v u : Value} {l : List Ou} {xs : List Value} (h : KS n0 base w v l) (h1 : w.ownsRow b1 5 m u n xs) : ∀ k, u.ownBlock = some k → v.ownBlock ≠ some k := by
  obtain ⟨L, _, h2, _⟩ := h
  exact own_apart h1 h2 (by decide)
theorem KS.ord {n0 base : Nat} {w : World} {v : Value} {l : List Ou} (h : KS n0 base w v l) (hn : n0 ≤ w.heap.size) : ORd w v l := by
  obtain ⟨L, rfl, ho, he⟩ := h
  obtain ⟨A, c, rfl⟩ := own_sl ho
  refine ⟨A, c, by rw [List.length_map], fun i x hx => ?_⟩
  obtain ⟨q, hq, hqx⟩ : ∃ q, L[i]? = some q ∧ q.1 = x := by
    rw [List.getElem?_map] at hx
    cases hq : L[i]? with
    | none => rw [hq] at hx; cases hx
    | some q => rw [hq] at hx; injection hx with hx; exact ⟨q, rfl, hx⟩
  subst hqx
  have hrw : Rw w (.slice A L.length c) L.length (L.flatMap ocs) := Rw.of_own ho fun h => by rw [List.eq_nil_of_length_eq_zero h]; rfl
  obtain ⟨ad, c', e, _, h0, h1⟩ := Rw.at (f := ocs) (n := 4) (fun _ => rfl) hrw hq (by decide)
  injection e with e1 _ _
  exact ⟨ad, q.2.1, q.2.2, e1, h0 _ rfl, h1 1 _ (by decide) rfl, h1 2 _ (by decide) rfl, h1 3 _ (by decide) rfl, (he q (List.mem_of_getElem? hq)).mono fun b hb => by omega⟩
/-- One is put behind. -/
theorem ks_app (n0 : Nat) (w : World) (base : Nat) (v : Value) (l : List Ou) (x : Ou) (A : Option Addr) (c : Nat) (h : KS n0 base w v l) (hn0 : n0 ≤ base) (hr : Rd (fun b => b < n0) w (.slice A x.d.length c) x.d) (hl : l.length ≤ 1073741824) (hbs : base ≤ w.heap.size) :
    ∃ A' c' W', (Builtin.append_ #[31, 31] 31 #[v, .slice (some ⟨w.heap.size, 0, none⟩) 1 1]).run Try.prog (w.alloc (.cells #[.int .i64 x.k, .int .i64 x.o, .int .i64 x.e, .slice A x.d.length c] 25)) = .ok (.slice A' (l ++ [x]).length c') W' ∧ KS n0 base W' (.slice A' (l ++ [x]).length c') (l ++ [x]) ∧ Below base w W' ∧ (w.alloc (.cells #[.int .i64 x.k, .int .i64 x.o, .int .i64 x.e, .slice A x.d.length c] 25)).grownBy W' v.ownBlock := by
  have hob0 := h.own
  obtain ⟨L, rfl, hown, hel⟩ := h
  obtain ⟨i, hi, hxx⟩ := Option.map_eq_some_iff.1 info25
  simp only [Prod.mk.injEq] at hxx
  obtain ⟨hz0, hz1, hz2⟩ := hxx
  obtain ⟨wn, hwn⟩ : ∃ wn, w.alloc (.cells #[.int .i64 x.k, .int .i64 x.o, .int .i64 x.e, .slice A x.d.length c] 25) = wn := ⟨_, rfl⟩
  have hgn : Grew w wn := by rw [← hwn]; exact (Below.refl _ _).alloc (Nat.le_refl _) _
  have hcells : ∀ j u, (ocs (x, A, c))[j]? = some u → wn.cell? ((⟨w.heap.size, 0, none⟩ : Addr).add j) = some u := fun j u hu => by
    have hn := heap_alloc_new w (.cells #[.int .i64 x.k, .int .i64 x.o, .int .i64 x.e, .slice A x.d.length c] 25)
    rw [hwn] at hn
    rw [Addr.add_lit, cell_of_row _ _ _ _ _ _ hn]
    simpa [ocs] using hu
  rw [hwn]
  have hll : L.length ≤ 1073741824 := by simpa using hl
  obtain ⟨v', W', hrun, hown2, hgb, _, _⟩ := run_append_own_at (P := Try.prog) wn base 31 31 25 i (.agg #[.int .i64 0, .int .i64 0, .int .i64 0, .slice none 0 0]) 4 48 Try.underlying31 hi hz0 hz1 hz2 rfl (by decide) v L.length (L.flatMap ocs) (own_grew hown hgn) ⟨w.heap.size, 0, none⟩ 1 1 (ocs (x, A, c)) rfl hcells (ocs_one _) (by unfold maxLen; omega) (by omega) (Nat.le_trans hbs hgn.size)
  have hlen : L.length + 1 = (L ++ [(x, A, c)]).length := by simp
  have hfl : L.flatMap ocs ++ ocs (x, A, c) = (L ++ [(x, A, c)]).flatMap ocs := by simp
  rw [hlen, hfl] at hown2
  obtain ⟨A', c', rfl⟩ := own_sl hown2
  have hmove : ∀ (y : Value) (z : List UInt8), Rd (fun b => b < n0) w y z → Rd (fun b => b < n0) W' y z := fun y z hy => (hy.grew hgn).keep fun b hb1 hb2 => hgb.block b hb1 fun e => by have := (hob0 b e.symm).1; omega
  have hL2 : (L.map (·.1) ++ [x]).length = (L ++ [(x, A, c)]).length := by simp
  rw [hL2]
  refine ⟨A', c', W', hrun, ⟨L ++ [(x, A, c)], by simp, hown2, fun q hq => ?_⟩, ((show Below w.heap.size w wn from hgn).mono hbs).trans (below_of_grown _ hgb (Nat.le_trans hbs hgn.size) fun k hk => (hob0 k hk).1), hgb⟩
  rcases List.mem_append.1 hq with hq | hq
  · exact hmove _ _ (hel q hq)
  · simp at hq
    subst hq
    exact hmove _ _ hr
/-- What came in, in every later world. -/
def Els (w : World) (A : Option Addr) (l : List Ou) : Prop := ∀ (i : Nat) (x : Ou), l[i]? = some x → ∃ ad A2 c2, A = some ad ∧ ∀ W, Grew w W → W.cell? (ad.add (i * 4)) = some (.int .i64 x.k) ∧ W.cell? ⟨(ad.add (i * 4)).block, (ad.add (i * 4)).off + 1, none⟩ = some (.int .i64 x.o) ∧ W.cell? ⟨(ad.add (i * 4)).block, (ad.add (i * 4)).off + 2, none⟩ = some (.int .i64 x.e) ∧ W.cell? ⟨(ad.add (i * 4)).block, (ad.add (i * 4)).off + 3, none⟩ = some (.slice A2 x.d.length c2) ∧ Rd (fun b => b < w.heap.size) W (.slice A2 x.d.length c2) x.d
theorem els_of {w : World} {A : Option Addr} {c n : Nat} {l : List Ou} (h : ORd w (.slice A n c) l) : Els w A l := by
  obtain ⟨A', c', e, q⟩ := h
  injection e with e1 _ e3
  subst e1 e3
  intro i x hx
  obtain ⟨ad, A2, c2, q0, q1, q2, q3, q4, q5⟩ := q i x hx
  exact ⟨ad, A2, c2, q0, fun W hW => ⟨RC.cellB hW q1, RC.cellB hW q2, RC.cellB hW q3, RC.cellB hW q4, q5.grew hW⟩⟩
end Go.Proofs.Ythgigkklefaeeaa.RN
