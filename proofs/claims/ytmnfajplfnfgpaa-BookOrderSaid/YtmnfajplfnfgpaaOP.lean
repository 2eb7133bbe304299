/-
  An order put into a row that is its own.
  Conditions: those that each lemma names.
-/
import Derived.Test.YtmnfajplfnfgpaaOA
import Derived.Lib.Hide
namespace Go.Proofs.Ytmnfajplfnfgpaa.OP
set_option maxRecDepth 100000
open Go Go.RowKit Go.Lib Go.Proofs.Ytmnfajplfnfgpaa Go.Proofs.Ytmnfajplfnfgpaa.Facts Go.Proofs.Ytmnfajplfnfgpaa.Ints Go.Proofs.Ytmnfajplfnfgpaa.PA Go.Proofs.Ytmnfajplfnfgpaa.OA Go.Proofs.Ytmnfajplfnfgpaa.Bytes

set_option maxHeartbeats 1000000 in
theorem ord_putB (w : World) (b : Nat) (T : List Or) (k : Nat) (x : Or) (h : RowO w b T) (hk : k < T.length) (hl : T.length * 80 ≤ 140737488355328) :
    Calls Try.prog 31 #[.pointer (some ⟨b, 0, none⟩), .int .i64 k, orv x] w fun e w' => ∃ v', e = .returned (.tuple #[v', .int .i64 0]) ∧ (∃ base, w.heap.size ≤ base ∧ OwnO w' base v' (T.set k x)) ∧ Grew w w' := by
  have hi6 : orv x = .agg #[.bool x.used, .int .i64 x.label, .int .i64 x.who, .int .i64 x.side, .int .i64 x.base, .int .i64 x.quote, .int .u64 x.price, .int .u64 x.left, .int .u64 x.res, .int .i64 x.seq] := rfl
  rw [hi6]
  clear hi6
  have ga : Grew w (w.alloc (.cells #[.bool x.used, .int .i64 x.label, .int .i64 x.who, .int .i64 x.side, .int .i64 x.base, .int .i64 x.quote, .int .u64 x.price, .int .u64 x.left, .int .u64 x.res, .int .i64 x.seq] 26)) := by unfold Grew; go_grown
  have hbx : (w.alloc (.cells #[.bool x.used, .int .i64 x.label, .int .i64 x.who, .int .i64 x.side, .int .i64 x.base, .int .i64 x.quote, .int .u64 x.price, .int .u64 x.left, .int .u64 x.res, .int .i64 x.seq] 26)).heap[w.heap.size]? = some (.cells #[.bool x.used, .int .i64 x.label, .int .i64 x.who, .int .i64 x.side, .int .i64 x.base, .int .i64 x.quote, .int .u64 x.price, .int .u64 x.left, .int .u64 x.res, .int .i64 x.seq] 26 (0, 0)) := blk_new w _
  obtain ⟨sv, h1, h2⟩ := h.grew ga
  have HM := Lib.hid (ord_made _ b sv h1)
  have HC := Lib.hid (ord_clone _ sv T h2 hl)
  obtain ⟨c0, c1⟩ := two_c h1
  obtain ⟨A, c, rfl, hlc, hcm, _⟩ := h2
  have HGA := Lib.hid ga
  have HBX := Lib.hid hbx
  clear h1 h ga hbx
  unfold maxLen at hcm
  have hk0 : ¬ ((k : Int) < 0) := by omega
  have hk1 : ¬ ((T.length : Int) ≤ k) := by omega
  go_enter Try.func31, Try.ntmps31
  go_wp2_with fail
  refine HM.out.mono ?_
  rintro e w' ⟨rfl, hw⟩
  subst hw
  go_wp2_with fail
  refine HC.out.mono ?_
  rintro e w1 ⟨v', rfl, hown, hg⟩
  obtain ⟨x0, x1, x2, x3, x4, x5, x6, x7, x8, x9⟩ := ord_cells (blk_keep HBX.out hg)
  obtain ⟨g, cap, rfl, hbg, hgl⟩ := hown.form (by omega)
  have r0 := hown.cellAt (k * 10 + 0) (by omega)
  rw [flat_get ocs 10 (fun _ => rfl) T k 0 (eo T k) (eo_get hk) (by decide)] at r0
  have f0 := hown.frozenAt (k * 10 + 0)
  have r1 := hown.cellAt (k * 10 + 1) (by omega)
  rw [flat_get ocs 10 (fun _ => rfl) T k 1 (eo T k) (eo_get hk) (by decide)] at r1
  have f1 := hown.frozenAt (k * 10 + 1)
  have r2 := hown.cellAt (k * 10 + 2) (by omega)
  rw [flat_get ocs 10 (fun _ => rfl) T k 2 (eo T k) (eo_get hk) (by decide)] at r2
  have f2 := hown.frozenAt (k * 10 + 2)
  have r3 := hown.cellAt (k * 10 + 3) (by omega)
  rw [flat_get ocs 10 (fun _ => rfl) T k 3 (eo T k) (eo_get hk) (by decide)] at r3
  have f3 := hown.frozenAt (k * 10 + 3)
  have r4 := hown.cellAt (k * 10 + 4) (by omega)
  rw [flat_get ocs 10 (fun _ => rfl) T k 4 (eo T k) (eo_get hk) (by decide)] at r4
  have f4 := hown.frozenAt (k * 10 + 4)
  have r5 := hown.cellAt (k * 10 + 5) (by omega)
  rw [flat_get ocs 10 (fun _ => rfl) T k 5 (eo T k) (eo_get hk) (by decide)] at r5
  have f5 := hown.frozenAt (k * 10 + 5)
  have r6 := hown.cellAt (k * 10 + 6) (by omega)
  rw [flat_get ocs 10 (fun _ => rfl) T k 6 (eo T k) (eo_get hk) (by decide)] at r6
  have f6 := hown.frozenAt (k * 10 + 6)
  have r7 := hown.cellAt (k * 10 + 7) (by omega)
  rw [flat_get ocs 10 (fun _ => rfl) T k 7 (eo T k) (eo_get hk) (by decide)] at r7
  have f7 := hown.frozenAt (k * 10 + 7)
  have r8 := hown.cellAt (k * 10 + 8) (by omega)
  rw [flat_get ocs 10 (fun _ => rfl) T k 8 (eo T k) (eo_get hk) (by decide)] at r8
  have f8 := hown.frozenAt (k * 10 + 8)
  have r9 := hown.cellAt (k * 10 + 9) (by omega)
  rw [flat_get ocs 10 (fun _ => rfl) T k 9 (eo T k) (eo_get hk) (by decide)] at r9
  have f9 := hown.frozenAt (k * 10 + 9)
  obtain ⟨s0, _⟩ := hown.stored (k * 10) (.bool x.used)
  obtain ⟨s1, _⟩ := s0.stored (k * 10 + 1) (.int .i64 x.label)
  obtain ⟨s2, _⟩ := s1.stored (k * 10 + 2) (.int .i64 x.who)
  obtain ⟨s3, _⟩ := s2.stored (k * 10 + 3) (.int .i64 x.side)
  obtain ⟨s4, _⟩ := s3.stored (k * 10 + 4) (.int .i64 x.base)
  obtain ⟨s5, _⟩ := s4.stored (k * 10 + 5) (.int .i64 x.quote)
  obtain ⟨s6, _⟩ := s5.stored (k * 10 + 6) (.int .u64 x.price)
  obtain ⟨s7, _⟩ := s6.stored (k * 10 + 7) (.int .u64 x.left)
  obtain ⟨s8, _⟩ := s7.stored (k * 10 + 8) (.int .u64 x.res)
  obtain ⟨s9, _⟩ := s8.stored (k * 10 + 9) (.int .i64 x.seq)
  rw [ocs_set] at s9
  have HS := Lib.hid s9
  have hgw : w.heap.size ≤ g := by rw [World.size_alloc] at hbg; omega
  have HG : Hid (Below w.heap.size w ((((((((((w1.setCell ⟨g, k * 10, none⟩ (.bool x.used)).setCell ⟨g, k * 10 + 1, none⟩ (.int .i64 x.label)).setCell ⟨g, k * 10 + 2, none⟩ (.int .i64 x.who)).setCell ⟨g, k * 10 + 3, none⟩ (.int .i64 x.side)).setCell ⟨g, k * 10 + 4, none⟩ (.int .i64 x.base)).setCell ⟨g, k * 10 + 5, none⟩ (.int .i64 x.quote)).setCell ⟨g, k * 10 + 6, none⟩ (.int .u64 x.price)).setCell ⟨g, k * 10 + 7, none⟩ (.int .u64 x.left)).setCell ⟨g, k * 10 + 8, none⟩ (.int .u64 x.res)).setCell ⟨g, k * 10 + 9, none⟩ (.int .i64 x.seq))) := Lib.hid (by
    exact (((((((((((show Below w.heap.size w w1 from HGA.out.trans hg).setCell (p := ⟨g, k * 10, none⟩) hgw _).setCell (p := ⟨g, k * 10 + 1, none⟩) hgw _).setCell (p := ⟨g, k * 10 + 2, none⟩) hgw _).setCell (p := ⟨g, k * 10 + 3, none⟩) hgw _).setCell (p := ⟨g, k * 10 + 4, none⟩) hgw _).setCell (p := ⟨g, k * 10 + 5, none⟩) hgw _).setCell (p := ⟨g, k * 10 + 6, none⟩) hgw _).setCell (p := ⟨g, k * 10 + 7, none⟩) hgw _).setCell (p := ⟨g, k * 10 + 8, none⟩) hgw _).setCell (p := ⟨g, k * 10 + 9, none⟩) hgw _))
  clear hown s0 s1 s2 s3 s4 s5 s6 s7 s8 s9 hg c0 c1 hgw
  simp only [ocs, List.getElem?_cons_zero, List.getElem?_cons_succ, Nat.add_zero] at r0 r1 r2 r3 r4 r5 r6 r7 r8 r9 f0
  generalize eo T k = y at *
  go_wp2
  go_returns
  refine ⟨.slice (some ⟨g, 0, none⟩) T.length cap, rfl, ⟨w.heap.size + 1, Nat.le_succ _, ?_⟩, HG.out⟩
  unfold OwnO
  rw [List.length_set]
  have h := HS.out
  rw [World.size_alloc] at h
  exact h

theorem own_kept {W W' : World} {base n B : Nat} {e : TypeId} {size : Nat} {v : Value} {xs : List Value} (h : W.ownsRow base e size v n xs) (hg : W.grownBy W' (some B)) (hB : B < base) : W'.ownsRow base e size v n xs := by
  obtain ⟨hx, h⟩ := h
  refine ⟨hx, ?_⟩
  rcases h with h | ⟨g, cap, cur, rfl, hb, hc, r⟩
  · exact .inl h
  · exact .inr ⟨g, cap, cur, rfl, hb, (hg.block g (Array.getElem?_eq_some_iff.1 hc).1 (by intro e; injection e; omega)).trans hc, r⟩
theorem own_grew {W W' : World} {base n : Nat} {e : TypeId} {size : Nat} {v : Value} {xs : List Value} (h : W.ownsRow base e size v n xs) (hg : Grew W W') : W'.ownsRow base e size v n xs := by
  obtain ⟨hx, h⟩ := h
  refine ⟨hx, ?_⟩
  rcases h with h | ⟨g, cap, cur, rfl, hb, hc, r⟩
  · exact .inl h
  · exact .inr ⟨g, cap, cur, rfl, hb, (hg.block g (Array.getElem?_eq_some_iff.1 hc).1).trans hc, r⟩
theorem ors_kept {W W' W2 : World} {base B : Nat} {v : Value} {l : List Or} (h : OwnO W base v l) (hg : Grew W W2) (hk : W2.grownBy W' (some B)) (hB : B < base) : Ors W' v l :=
  Ors.of_own (own_kept (own_grew h hg) hk hB)
end Go.Proofs.Ytmnfajplfnfgpaa.OP
