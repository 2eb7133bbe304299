/-
  How many slots of each kind all quotas let be.
  Conditions: those that each lemma names.
-/
import Derived.Test.YtahlheopdneebaaGreatBP
import Derived.Deep.LoopGhost
import Derived.Lib.Hide
namespace Go.Proofs.YtahlheopdneebaaGreat.BN
set_option maxRecDepth 100000
set_option maxRecDepth 100000
open Go Go.RowKit Go.Lib Go.Proofs.YtahlheopdneebaaGreat Go.Proofs.YtahlheopdneebaaGreat.Facts Go.Proofs.YtahlheopdneebaaGreat.Ints Go.Proofs.YtahlheopdneebaaGreat.RRows Go.Proofs.YtahlheopdneebaaGreat.RSmall Go.Proofs.YtahlheopdneebaaGreat.RRules Go.Proofs.YtahlheopdneebaaGreat.RCaps Go.Proofs.YtahlheopdneebaaGreat.RRule3 Go.Proofs.YtahlheopdneebaaGreat.RRule5 Go.Proofs.YtahlheopdneebaaGreat.RRight Go.Proofs.YtahlheopdneebaaGreat.BV Go.Proofs.YtahlheopdneebaaGreat.BP


theorem keepB {w w' : World} {B : Nat} {o : Obj} (h : w.heap[B]? = some o) (hg : Grew w w') : w'.heap[B]? = some o := (hg.block _ (Array.getElem?_eq_some_iff.1 h).1).trans h
theorem bset {W : World} {B t k : Nat} {C : Array Value} {fr : Nat × Nat} (v : Value) (h : W.heap[B]? = some (.cells C t fr)) : (W.setCell ⟨B, k, none⟩ v).heap[B]? = some (.cells (C.modify k fun _ => v) t fr) := by
  obtain ⟨hlt, hk⟩ := Array.getElem?_eq_some_iff.1 h
  show (W.heap.modify B _)[B]? = _
  rw [Array.getElem?_eq_getElem (by rw [Array.size_modify]; exact hlt), Array.getElem_modify_self, hk]
  rfl
def tcell (g : Tg) : Obj := .cells #[.int .i64 g.R, .int .i64 g.E, .int .i64 g.I, .int .i64 g.M, .int .i64 g.T, .int .u64 0] 49 (0, 0)
theorem tcells {W : World} {B : Nat} {g : Tg} (h : W.heap[B]? = some (tcell g)) :
    W.cell? ⟨B, 0, none⟩ = some (.int .i64 g.R) ∧ W.cell? ⟨B, 1, none⟩ = some (.int .i64 g.E) ∧ W.cell? ⟨B, 2, none⟩ = some (.int .i64 g.I) ∧ W.cell? ⟨B, 3, none⟩ = some (.int .i64 g.M) ∧ W.cell? ⟨B, 4, none⟩ = some (.int .i64 g.T) ∧ W.cell? ⟨B, 5, none⟩ = some (.int .u64 0) := by
  refine ⟨?_, ?_, ?_, ?_, ?_, ?_⟩ <;> (unfold World.cell?; simp only [show W.heap[B]? = _ from h]; rfl)
theorem tfrz {W : World} {B k : Nat} {g : Tg} (h : W.heap[B]? = some (tcell g)) : W.frozen? ⟨B, k, none⟩ = false := by
  simp [World.frozen?, show W.heap[B]? = _ from h, tcell]
theorem wadd (a b : Int) (ha : 0 ≤ a) (hb : 0 ≤ b) (h : a + b ≤ 1000000) : IntKind.i64.wrap (a + b) = a + b := IntWalk.i64_in _ (by omega)
theorem tog_step {l : List Qu} {k : Nat} {x : Qu} (hx : l[k]? = some x) (hl : l.length ≤ 8) (hq : ∀ q ∈ l, Q12 q) :
    IntKind.i64.wrap ((tog (l.take k)).R + x.rooms) = (tog (l.take (k + 1))).R ∧ IntKind.i64.wrap ((tog (l.take k)).E + x.exits) = (tog (l.take (k + 1))).E ∧ IntKind.i64.wrap ((tog (l.take k)).I + x.items) = (tog (l.take (k + 1))).I ∧ IntKind.i64.wrap ((tog (l.take k)).M + x.mails) = (tog (l.take (k + 1))).M ∧ IntKind.i64.wrap ((tog (l.take k)).T + x.trades) = (tog (l.take (k + 1))).T := by
  have hqk := hq x (List.mem_of_getElem? hx)
  have y1 := sumQ_take (f := (·.rooms)) (fun q h => (hq q h).1) k
  have y2 := sumQ_take (f := (·.exits)) (fun q h => (hq q h).2.1) k
  have y3 := sumQ_take (f := (·.items)) (fun q h => (hq q h).2.2.1) k
  have y4 := sumQ_take (f := (·.mails)) (fun q h => (hq q h).2.2.2.1) k
  have y5 := sumQ_take (f := (·.trades)) (fun q h => (hq q h).2.2.2.2) k
  have x1 := wadd _ _ y1.1 hqk.1.1 (by have := y1.2; have := hqk.1.2; omega)
  have x2 := wadd _ _ y2.1 hqk.2.1.1 (by have := y2.2; have := hqk.2.1.2; omega)
  have x3 := wadd _ _ y3.1 hqk.2.2.1.1 (by have := y3.2; have := hqk.2.2.1.2; omega)
  have x4 := wadd _ _ y4.1 hqk.2.2.2.1.1 (by have := y4.2; have := hqk.2.2.2.1.2; omega)
  have x5 := wadd _ _ y5.1 hqk.2.2.2.2.1 (by have := y5.2; have := hqk.2.2.2.2.2; omega)
  exact ⟨x1.trans (sumQ_step _ _ _ _ hx).symm, x2.trans (sumQ_step _ _ _ _ hx).symm, x3.trans (sumQ_step _ _ _ _ hx).symm, x4.trans (sumQ_step _ _ _ _ hx).symm, x5.trans (sumQ_step _ _ _ _ hx).symm⟩
def tgv (g : Tg) : Value := .agg #[.int .i64 g.R, .int .i64 g.E, .int .i64 g.I, .int .i64 g.M, .int .i64 g.T, .int .u64 0]
theorem five_t {W : World} {B : Nat} {g : Tg} (o : Obj) (h : W.heap[B]? = some (tcell g)) (a b c d e : Int) : ((((((W.alloc o).setCell ⟨B, 0, none⟩ (.int .i64 a)).setCell ⟨B, 1, none⟩ (.int .i64 b)).setCell ⟨B, 2, none⟩ (.int .i64 c)).setCell ⟨B, 3, none⟩ (.int .i64 d)).setCell ⟨B, 4, none⟩ (.int .i64 e)).heap[B]? = some (tcell ⟨a, b, c, d, e⟩) :=
  bset (k := 4) _ (bset (k := 3) _ (bset (k := 2) _ (bset (k := 1) _ (bset (k := 0) (.int .i64 a) (keepB h (by unfold Grew; go_grown))))))
theorem five_z {W : World} {B Z : Nat} {p : Obj} (o : Obj) (h : W.heap[Z]? = some p) (hne : Z ≠ B) (a b c d e : Int) : ((((((W.alloc o).setCell ⟨B, 0, none⟩ (.int .i64 a)).setCell ⟨B, 1, none⟩ (.int .i64 b)).setCell ⟨B, 2, none⟩ (.int .i64 c)).setCell ⟨B, 3, none⟩ (.int .i64 d)).setCell ⟨B, 4, none⟩ (.int .i64 e)).heap[Z]? = some p := by
  have hz := keepB h (w' := W.alloc o) (by unfold Grew; go_grown)
  have hs : ∀ (V : World) (j : Nat) (u : Value), V.heap[Z]? = some p → (V.setCell ⟨B, j, none⟩ u).heap[Z]? = some p := fun V j u h => (Below.heap_setCell _ _ _ _ hne).trans h
  exact hs _ _ _ (hs _ _ _ (hs _ _ _ (hs _ _ _ (hs _ _ _ hz))))
theorem five_g {w W : World} {B : Nat} (o : Obj) (h : Grew w W) (hB : w.heap.size ≤ B) (a b c d e : Int) : Grew w ((((((W.alloc o).setCell ⟨B, 0, none⟩ (.int .i64 a)).setCell ⟨B, 1, none⟩ (.int .i64 b)).setCell ⟨B, 2, none⟩ (.int .i64 c)).setCell ⟨B, 3, none⟩ (.int .i64 d)).setCell ⟨B, 4, none⟩ (.int .i64 e)) := by
  have h0 : Below w.heap.size w (W.alloc o) := h.trans (by unfold Grew; go_grown)
  exact ((((h0.setCell (p := ⟨B, 0, none⟩) hB _).setCell (p := ⟨B, 1, none⟩) hB _).setCell (p := ⟨B, 2, none⟩) hB _).setCell (p := ⟨B, 3, none⟩) hB _).setCell (p := ⟨B, 4, none⟩) hB _
theorem six_g {w W : World} {B : Nat} (h : Grew w W) (hB : w.heap.size ≤ B) (a b c d e u : Value) : Grew w ((((((W.setCell ⟨B, 0, none⟩ a).setCell ⟨B, 1, none⟩ b).setCell ⟨B, 2, none⟩ c).setCell ⟨B, 3, none⟩ d).setCell ⟨B, 4, none⟩ e).setCell ⟨B, 5, none⟩ u) :=
  ((((((show Below w.heap.size w W from h).setCell (p := ⟨B, 0, none⟩) hB _).setCell (p := ⟨B, 1, none⟩) hB _).setCell (p := ⟨B, 2, none⟩) hB _).setCell (p := ⟨B, 3, none⟩) hB _).setCell (p := ⟨B, 4, none⟩) hB _).setCell (p := ⟨B, 5, none⟩) hB _
set_option maxHeartbeats 4000000 in
theorem tog_any (v : Value) (l : List Qu) (w : World) (h : Qs w v l) (hl : l.length ≤ 8) (hq : ∀ q ∈ l, Q12 q) :
    Calls Tryz.prog 28 #[v] w fun e w' => e = .returned (tgv (tog l)) ∧ Grew w w' := by
  have HR := Lib.hid h
  have HQ := Lib.hid hq
  have HLN := Lib.hid hl
  obtain ⟨A, c, rfl, hlc, hcm⟩ := h.slice
  clear h hq hl
  go_enter Tryz.func28, Tryz.ntmps28
  go_wp2
  go_loopg [8] l.length (fun g s8 wx => ∃ k : Nat, k + g = l.length ∧ s8 = .int .i64 k ∧ Hid (wx.heap[w.heap.size + 1]? = some (tcell (tog (l.take k)))) ∧ Hid (wx.heap[w.heap.size]? = some (tcell ⟨0, 0, 0, 0, 0⟩)) ∧ Hid (Grew w wx))
  case atStart =>
    refine ⟨0, by omega, rfl, Lib.hid ?_, Lib.hid ?_, Lib.hid (by unfold Grew; go_grown)⟩
    · have h1 := heap_alloc_new (w.alloc (.cells #[.int .i64 0, .int .i64 0, .int .i64 0, .int .i64 0, .int .i64 0, .int .u64 0] 49)) (.cells #[.int .i64 0, .int .i64 0, .int .i64 0, .int .i64 0, .int .i64 0, .int .u64 0] 49)
      rw [World.size_alloc] at h1
      exact h1
    · have h1 := heap_alloc_new w (.cells #[.int .i64 0, .int .i64 0, .int .i64 0, .int .i64 0, .int .i64 0, .int .u64 0] 49)
      exact keepB h1 (by unfold Grew; go_grown)
  case round =>
    obtain ⟨k, hkg, rfl, HT, HZ, HG⟩ := hrel
    cases gk with
    | zero =>
      have hkz : ¬ ((k : Int) < (l.length : Int)) := by omega
      have hk : l.take k = l := List.take_of_length_le (by omega)
      rw [hk] at HT
      obtain ⟨t0, t1, t2, t3, t4, t5⟩ := tcells HT.out
      have hlt := (Array.getElem?_eq_some_iff.1 HT.out).1
      obtain ⟨r0, r1, r2, r3, r4, r5⟩ := tcells HZ.out
      have z0 := tfrz (k := 0) HZ.out
      have z1 := tfrz (k := 1) HZ.out
      have z2 := tfrz (k := 2) HZ.out
      have z3 := tfrz (k := 3) HZ.out
      have z4 := tfrz (k := 4) HZ.out
      have z5 := tfrz (k := 5) HZ.out
      clear hk hkg
      rcases hT : tog l with ⟨a0, a1, a2, a3, a4⟩
      rw [hT] at t0 t1 t2 t3 t4
      have HTT := Lib.hid hT
      simp only at t0 t1 t2 t3 t4
      clear hT HT
      go_wp2
      refine bodyPost_ret (by simp [results, Tryz.results28, go_sem, r0, r1, r2, r3, r4, r5]; try rfl) rfl ?_
      exact ⟨by rw [HTT.out]; rfl, six_g HG.out (Nat.le_refl _) _ _ _ _ _ _⟩
    | succ g =>
      have hkz : (k : Int) < (l.length : Int) := by omega
      have hkl : k < l.length := by omega
      obtain ⟨x, hx⟩ : ∃ x, l[k]? = some x := ⟨_, List.getElem?_eq_getElem hkl⟩
      have HX := Lib.hid hx
      have hqk := HQ.out x (List.mem_of_getElem? hx)
      clear hx
      obtain ⟨ad, c9, e, _, d0, d1, d2, d3, d4, d5⟩ := Qs_at (HR.out.grew HG.out) HX.out
      injection e with e1 e2 e3
      subst e1 e3
      clear e2
      obtain ⟨t0, t1, t2, t3, t4, t5⟩ := tcells HT.out
      have hlt := (Array.getElem?_eq_some_iff.1 HT.out).1
      have f1 : ¬ (w.heap.size + 1 = wr.heap.size) := by omega
      have z0 := tfrz (k := 0) HT.out
      have z1 := tfrz (k := 1) HT.out
      have z2 := tfrz (k := 2) HT.out
      have z3 := tfrz (k := 3) HT.out
      have z4 := tfrz (k := 4) HT.out
      have hts := tog_step HX.out (by have := HLN.out; omega) HQ.out
      obtain ⟨T1, hT1⟩ : ∃ T1, tog (l.take (k + 1)) = T1 := ⟨_, rfl⟩
      rw [hT1] at hts
      have HT1 := Lib.hid hT1
      clear hT1
      generalize tog (l.take k) = T0 at *
      obtain ⟨a0, a1, a2, a3, a4⟩ := T0
      obtain ⟨b0, b1, b2, b3, b4⟩ := T1
      obtain ⟨x1, x2, x3, x4, x5⟩ := hts
      simp only at x1 x2 x3 x4 x5 t0 t1 t2 t3 t4
      have HW1 : Hid (wrap64 ((k : Int) + 1) = ((k + 1 : Nat) : Int)) := Lib.hid (by have := HLN.out; unfold wrap64; omega)
      clear hkl hqk HX t0 t1 t2 t3 t4 t5 z0 z1 z2 z3 z4 f1 hlt
      have HXQ : Hid (∃ y, y = x) := Lib.hid ⟨_, rfl⟩
      obtain ⟨q1, q2, q3, q4, q5, q6⟩ := x
      simp only at *
      have hT1 : (wr.alloc (.cells #[.int .i64 q1, .int .i64 q2, .int .i64 q3, .int .i64 q4, .int .i64 q5, .int .u64 (q6.toNat : Int)] 49)).heap[w.heap.size + 1]? = some (tcell ⟨a0, a1, a2, a3, a4⟩) := keepB HT.out (by unfold Grew; go_grown)
      have hZ1 : (wr.alloc (.cells #[.int .i64 q1, .int .i64 q2, .int .i64 q3, .int .i64 q4, .int .i64 q5, .int .u64 (q6.toNat : Int)] 49)).heap[w.heap.size]? = some (tcell ⟨0, 0, 0, 0, 0⟩) := keepB HZ.out (by unfold Grew; go_grown)
      have hQ1 : (wr.alloc (.cells #[.int .i64 q1, .int .i64 q2, .int .i64 q3, .int .i64 q4, .int .i64 q5, .int .u64 (q6.toNat : Int)] 49)).heap[wr.heap.size]? = some (qcell ⟨q1, q2, q3, q4, q5, q6⟩) := heap_alloc_new wr _
      have hG1 : Below w.heap.size w (wr.alloc (.cells #[.int .i64 q1, .int .i64 q2, .int .i64 q3, .int .i64 q4, .int .i64 q5, .int .u64 (q6.toNat : Int)] 49)) := HG.out.trans (by unfold Grew; go_grown)
      have hne : w.heap.size + 1 ≠ wr.heap.size := by have := (Array.getElem?_eq_some_iff.1 HT.out).1; omega
      have M1 := Lib.hid hT1
      have M2 := Lib.hid hZ1
      have M3 := Lib.hid hQ1
      have M4 := Lib.hid hG1
      have M5 := Lib.hid hne
      clear hT1 hZ1 hQ1 hG1 hne HT HZ HG
      go_upto_region 5 with fail
      generalize (wr.alloc (.cells #[.int .i64 q1, .int .i64 q2, .int .i64 q3, .int .i64 q4, .int .i64 q5, .int .u64 (q6.toNat : Int)] 49)) = W1 at *
      clear d0 d1 d2 d3 d4 d5
      generalize wr.heap.size = QB at *
      obtain ⟨t0, t1, t2, t3, t4, t5⟩ := tcells M1.out
      obtain ⟨y0, y1, y2, y3, y4, y5⟩ := qu_cells M3.out
      have z := tfrz (k := 0) M1.out
      simp only at t0 t1 t2 t3 t4 y0 y1 y2 y3 y4
      have N1 : Hid ((W1.setCell ⟨w.heap.size + 1, 0, none⟩ (.int .i64 b0)).heap[w.heap.size + 1]? = some (tcell ⟨b0, a1, a2, a3, a4⟩)) := Lib.hid (bset (k := 0) _ M1.out)
      have N2 : Hid ((W1.setCell ⟨w.heap.size + 1, 0, none⟩ (.int .i64 b0)).heap[w.heap.size]? = some (tcell ⟨0, 0, 0, 0, 0⟩)) := Lib.hid ((Below.heap_setCell _ _ _ _ (by show w.heap.size ≠ w.heap.size + 1; omega)).trans M2.out)
      have N3 : Hid ((W1.setCell ⟨w.heap.size + 1, 0, none⟩ (.int .i64 b0)).heap[QB]? = some (qcell ⟨q1, q2, q3, q4, q5, q6⟩)) := Lib.hid ((Below.heap_setCell _ _ _ _ (fun e => M5.out e.symm)).trans M3.out)
      have N4 : Hid (Below w.heap.size w (W1.setCell ⟨w.heap.size + 1, 0, none⟩ (.int .i64 b0))) := Lib.hid (M4.out.setCell (p := ⟨w.heap.size + 1, 0, none⟩) (Nat.le_succ _) _)
      go_upto_region 6 with fail
      generalize (W1.setCell ⟨w.heap.size + 1, 0, none⟩ (.int .i64 b0)) = W2 at *
      clear t0 t1 t2 t3 t4 t5 y0 y1 y2 y3 y4 y5 z M1 M2 M3 M4
      have M1 := Lib.hid N1.out
      have M2 := Lib.hid N2.out
      have M3 := Lib.hid N3.out
      have M4 := Lib.hid N4.out
      clear N1 N2 N3 N4
      obtain ⟨t0, t1, t2, t3, t4, t5⟩ := tcells M1.out
      obtain ⟨y0, y1, y2, y3, y4, y5⟩ := qu_cells M3.out
      have z := tfrz (k := 1) M1.out
      simp only at t0 t1 t2 t3 t4 y0 y1 y2 y3 y4
      have N1 : Hid ((W2.setCell ⟨w.heap.size + 1, 1, none⟩ (.int .i64 b1)).heap[w.heap.size + 1]? = some (tcell ⟨b0, b1, a2, a3, a4⟩)) := Lib.hid (bset (k := 1) _ M1.out)
      have N2 : Hid ((W2.setCell ⟨w.heap.size + 1, 1, none⟩ (.int .i64 b1)).heap[w.heap.size]? = some (tcell ⟨0, 0, 0, 0, 0⟩)) := Lib.hid ((Below.heap_setCell _ _ _ _ (by show w.heap.size ≠ w.heap.size + 1; omega)).trans M2.out)
      have N3 : Hid ((W2.setCell ⟨w.heap.size + 1, 1, none⟩ (.int .i64 b1)).heap[QB]? = some (qcell ⟨q1, q2, q3, q4, q5, q6⟩)) := Lib.hid ((Below.heap_setCell _ _ _ _ (fun e => M5.out e.symm)).trans M3.out)
      have N4 : Hid (Below w.heap.size w (W2.setCell ⟨w.heap.size + 1, 1, none⟩ (.int .i64 b1))) := Lib.hid (M4.out.setCell (p := ⟨w.heap.size + 1, 1, none⟩) (Nat.le_succ _) _)
      go_upto_region 7 with fail
      generalize (W2.setCell ⟨w.heap.size + 1, 1, none⟩ (.int .i64 b1)) = W3 at *
      clear t0 t1 t2 t3 t4 t5 y0 y1 y2 y3 y4 y5 z M1 M2 M3 M4
      have M1 := Lib.hid N1.out
      have M2 := Lib.hid N2.out
      have M3 := Lib.hid N3.out
      have M4 := Lib.hid N4.out
      clear N1 N2 N3 N4
      obtain ⟨t0, t1, t2, t3, t4, t5⟩ := tcells M1.out
      obtain ⟨y0, y1, y2, y3, y4, y5⟩ := qu_cells M3.out
      have z := tfrz (k := 2) M1.out
      simp only at t0 t1 t2 t3 t4 y0 y1 y2 y3 y4
      have N1 : Hid ((W3.setCell ⟨w.heap.size + 1, 2, none⟩ (.int .i64 b2)).heap[w.heap.size + 1]? = some (tcell ⟨b0, b1, b2, a3, a4⟩)) := Lib.hid (bset (k := 2) _ M1.out)
      have N2 : Hid ((W3.setCell ⟨w.heap.size + 1, 2, none⟩ (.int .i64 b2)).heap[w.heap.size]? = some (tcell ⟨0, 0, 0, 0, 0⟩)) := Lib.hid ((Below.heap_setCell _ _ _ _ (by show w.heap.size ≠ w.heap.size + 1; omega)).trans M2.out)
      have N3 : Hid ((W3.setCell ⟨w.heap.size + 1, 2, none⟩ (.int .i64 b2)).heap[QB]? = some (qcell ⟨q1, q2, q3, q4, q5, q6⟩)) := Lib.hid ((Below.heap_setCell _ _ _ _ (fun e => M5.out e.symm)).trans M3.out)
      have N4 : Hid (Below w.heap.size w (W3.setCell ⟨w.heap.size + 1, 2, none⟩ (.int .i64 b2))) := Lib.hid (M4.out.setCell (p := ⟨w.heap.size + 1, 2, none⟩) (Nat.le_succ _) _)
      go_upto_region 8 with fail
      generalize (W3.setCell ⟨w.heap.size + 1, 2, none⟩ (.int .i64 b2)) = W4 at *
      clear t0 t1 t2 t3 t4 t5 y0 y1 y2 y3 y4 y5 z M1 M2 M3 M4
      have M1 := Lib.hid N1.out
      have M2 := Lib.hid N2.out
      have M3 := Lib.hid N3.out
      have M4 := Lib.hid N4.out
      clear N1 N2 N3 N4
      obtain ⟨t0, t1, t2, t3, t4, t5⟩ := tcells M1.out
      obtain ⟨y0, y1, y2, y3, y4, y5⟩ := qu_cells M3.out
      have z := tfrz (k := 3) M1.out
      simp only at t0 t1 t2 t3 t4 y0 y1 y2 y3 y4
      have N1 : Hid ((W4.setCell ⟨w.heap.size + 1, 3, none⟩ (.int .i64 b3)).heap[w.heap.size + 1]? = some (tcell ⟨b0, b1, b2, b3, a4⟩)) := Lib.hid (bset (k := 3) _ M1.out)
      have N2 : Hid ((W4.setCell ⟨w.heap.size + 1, 3, none⟩ (.int .i64 b3)).heap[w.heap.size]? = some (tcell ⟨0, 0, 0, 0, 0⟩)) := Lib.hid ((Below.heap_setCell _ _ _ _ (by show w.heap.size ≠ w.heap.size + 1; omega)).trans M2.out)
      have N3 : Hid ((W4.setCell ⟨w.heap.size + 1, 3, none⟩ (.int .i64 b3)).heap[QB]? = some (qcell ⟨q1, q2, q3, q4, q5, q6⟩)) := Lib.hid ((Below.heap_setCell _ _ _ _ (fun e => M5.out e.symm)).trans M3.out)
      have N4 : Hid (Below w.heap.size w (W4.setCell ⟨w.heap.size + 1, 3, none⟩ (.int .i64 b3))) := Lib.hid (M4.out.setCell (p := ⟨w.heap.size + 1, 3, none⟩) (Nat.le_succ _) _)
      go_upto_region 9 with fail
      generalize (W4.setCell ⟨w.heap.size + 1, 3, none⟩ (.int .i64 b3)) = W5 at *
      clear t0 t1 t2 t3 t4 t5 y0 y1 y2 y3 y4 y5 z M1 M2 M3 M4
      have M1 := Lib.hid N1.out
      have M2 := Lib.hid N2.out
      have M3 := Lib.hid N3.out
      have M4 := Lib.hid N4.out
      clear N1 N2 N3 N4
      obtain ⟨t0, t1, t2, t3, t4, t5⟩ := tcells M1.out
      obtain ⟨y0, y1, y2, y3, y4, y5⟩ := qu_cells M3.out
      have z := tfrz (k := 4) M1.out
      simp only at t0 t1 t2 t3 t4 y0 y1 y2 y3 y4
      have N1 : Hid ((W5.setCell ⟨w.heap.size + 1, 4, none⟩ (.int .i64 b4)).heap[w.heap.size + 1]? = some (tcell ⟨b0, b1, b2, b3, b4⟩)) := Lib.hid (bset (k := 4) _ M1.out)
      have N2 : Hid ((W5.setCell ⟨w.heap.size + 1, 4, none⟩ (.int .i64 b4)).heap[w.heap.size]? = some (tcell ⟨0, 0, 0, 0, 0⟩)) := Lib.hid ((Below.heap_setCell _ _ _ _ (by show w.heap.size ≠ w.heap.size + 1; omega)).trans M2.out)
      have N3 : Hid ((W5.setCell ⟨w.heap.size + 1, 4, none⟩ (.int .i64 b4)).heap[QB]? = some (qcell ⟨q1, q2, q3, q4, q5, q6⟩)) := Lib.hid ((Below.heap_setCell _ _ _ _ (fun e => M5.out e.symm)).trans M3.out)
      have N4 : Hid (Below w.heap.size w (W5.setCell ⟨w.heap.size + 1, 4, none⟩ (.int .i64 b4))) := Lib.hid (M4.out.setCell (p := ⟨w.heap.size + 1, 4, none⟩) (Nat.le_succ _) _)
      go_upto_region 10 with fail
      generalize (W5.setCell ⟨w.heap.size + 1, 4, none⟩ (.int .i64 b4)) = W6 at *
      clear t0 t1 t2 t3 t4 t5 y0 y1 y2 y3 y4 y5 z M1 M2 M3 M4
      have M1 := Lib.hid N1.out
      have M2 := Lib.hid N2.out
      have M3 := Lib.hid N3.out
      have M4 := Lib.hid N4.out
      clear N1 N2 N3 N4
      go_wp2
      go_roundg g
      case measure => omega
      case rel => exact ⟨k + 1, by omega, by first | rfl | rw [HW1.out], Lib.hid (by rw [HT1.out]; exact M1.out), M2, Lib.hid M4.out⟩
end Go.Proofs.YtahlheopdneebaaGreat.BN
