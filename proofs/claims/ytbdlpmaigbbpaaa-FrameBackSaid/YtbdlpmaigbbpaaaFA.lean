/-
  What must come of fixed calls of frames: it does.
  Conditions: those that each lemma names.
-/
import Derived.Test.YtbdlpmaigbbpaaaFV2
import Derived.Lib.SlBytesConst
namespace Go.Proofs.Ytbdlpmaigbbpaaa.FA
set_option maxRecDepth 100000
open Go Go.RowKit Go.Lib Go.Proofs.Ytbdlpmaigbbpaaa Go.Proofs.Ytbdlpmaigbbpaaa.Facts Go.Proofs.Ytbdlpmaigbbpaaa.Bytes Go.Proofs.Ytbdlpmaigbbpaaa.Puts Go.Proofs.Ytbdlpmaigbbpaaa.Scan Go.Proofs.Ytbdlpmaigbbpaaa.Take Go.Proofs.Ytbdlpmaigbbpaaa.Nums Go.Proofs.Ytbdlpmaigbbpaaa.SumPure Go.Proofs.Ytbdlpmaigbbpaaa.Sum Go.Proofs.Ytbdlpmaigbbpaaa.FP Go.Proofs.Ytbdlpmaigbbpaaa.FW Go.Proofs.Ytbdlpmaigbbpaaa.FX Go.Proofs.Ytbdlpmaigbbpaaa.FT Go.Proofs.Ytbdlpmaigbbpaaa.FU Go.Proofs.Ytbdlpmaigbbpaaa.FS Go.Proofs.Ytbdlpmaigbbpaaa.FV Go.Proofs.Ytbdlpmaigbbpaaa.FV2

theorem lit_rd (w : World) (l : List UInt8) (fr : Nat × Nat) (hl : l.length ≤ maxLen) : Rd (fun _ => True) (w.alloc (.cells (bv l).toArray 5 fr)) (.slice (some ⟨w.heap.size, 0, none⟩) l.length l.length) l := by
  refine ⟨some ⟨w.heap.size, 0, none⟩, l.length, rfl, Nat.le_refl _, hl, (fun h => by cases h), fun ad ha => ⟨fun _ => trivial, fun j u hu => ?_⟩⟩
  cases ha
  have e : (Addr.add ⟨w.heap.size, 0, none⟩ j) = ⟨w.heap.size, j, none⟩ := by
    unfold Addr.add
    split
    · rename_i h; subst h; rfl
    · simp
  rw [e, World.cell?_alloc_mark]
  simpa using hu
theorem shape {S : Nat → Prop} {w : World} {v : Value} {l : List UInt8} (h : Rd S w v l) (n : Nat) (hn : l.length = n) (hp : 0 < n) :
    ∃ ad c, v = .slice (some ad) n c ∧ n ≤ c ∧ c ≤ 9223372036854775807 := by
  subst hn
  obtain ⟨A, c, rfl, h1, h2, h3, h4⟩ := h
  unfold maxLen at h2
  cases A with
  | none => have := h3 rfl; omega
  | some ad => exact ⟨ad, c, rfl, h1, by omega⟩
theorem wrap_eq (S : Nat → Prop) (v : Value) (b : List UInt8) (most : Int) (w : World) (x : List UInt8) (y : Int) (h : Rd S w v b) (hq : wrapP b most = (x, y)) :
    Calls Try.prog 6 #[v, .int .i64 most] w fun e w' => ∃ v', e = .returned (.tuple #[v', .int .i64 y]) ∧ Rd (fun k => w.heap.size ≤ k) w' v' x ∧ Grew w w' := by
  have := wrap_any S v b most w h
  rwa [hq] at this
theorem take_eq (S : Nat → Prop) (v : Value) (l : List UInt8) (most : Int) (w : World) (x : List UInt8) (q : Nat) (y : Int) (h : Rd S w v l) (hq : takeP l most = (x, q, y)) :
    Calls Try.prog 8 #[v, .int .i64 most] w fun e w' => ∃ v', e = .returned (.tuple #[v', .int .i64 (q : Int), .int .i64 y]) ∧ Rd (fun b => w.heap.size ≤ b) w' v' x ∧ Grew w w' := by
  have := take_any S v l most w h
  rwa [hq] at this
theorem all_eq (S : Nat → Prop) (v : Value) (l : List UInt8) (most : Int) (w : World) (x : List (List UInt8)) (y : Int) (h : Rd S w v l) (hl : l.length ≤ 1048576) (hq : allP l most = (x, y)) :
    Calls Try.prog 10 #[v, .int .i64 most] w fun e w' => ∃ v', e = .returned (.tuple #[v', .int .i64 y]) ∧ BS w.heap.size w' v' x ∧ Grew w w' := by
  have := all_any S v l most w h hl
  rwa [hq] at this
theorem q1 : wrapP [97, 98] 2 = ([2, 97, 98, 147, 91], 0) := by decide +kernel
theorem q2 : wrapP [97, 98] 1 = ([], 13) := by decide +kernel
theorem q3 : takeP [2, 97, 98, 147, 91, 9] 2 = ([97, 98], 5, 0) := by decide +kernel
theorem q4 : takeP [2, 97, 98, 147] 2 = ([], 0, 12) := by decide +kernel
theorem q5 : takeP [2, 97, 98, 147, 91] 1 = ([], 1, 13) := by decide +kernel
theorem q6 : takeP [2, 98, 98, 147, 91] 2 = ([], 5, 14) := by decide +kernel
theorem q7 : allP [2, 97, 98, 147, 91, 2, 97, 98, 147, 91] 2 = ([[97, 98], [97, 98]], 0) := by decide +kernel
theorem frz {W : World} {B t k : Nat} {xs : Array Value} (h : W.heap[B]? = some (.cells xs t (0, 0))) : W.frozen? ⟨B, k, none⟩ = false := by
  unfold World.frozen?
  simp [h]
theorem bv_set (l : List UInt8) (i : Nat) (b : UInt8) : (bv l).set i (.int .u8 (b.toNat : Int)) = bv (l.set i b) := by simp [bv, List.map_set]
/-- A byte of one's own row, stored. -/
theorem own_put {W : World} {base : Nat} {v : Value} {l : List UInt8} (h : W.ownsRow base 5 1 v l.length (bv l)) (i : Nat) (hi : i < l.length) (x : UInt8) :
    ∃ g c, v = .slice (some ⟨g, 0, none⟩) l.length c ∧ base ≤ g ∧ W.cell? ⟨g, i, none⟩ = some (.int .u8 ((l[i]?.getD 0).toNat : Int)) ∧ W.frozen? ⟨g, i, none⟩ = false ∧ g < W.heap.size ∧
      (W.setCell ⟨g, i, none⟩ (.int .u8 (x.toNat : Int))).ownsRow base 5 1 v (l.set i x).length (bv (l.set i x)) := by
  have hr := Rd.of_own h rfl
  rcases h.2 with ⟨_, h0⟩ | ⟨g, cap, cur, rfl, hb, hg, hnc, hcm, hcs, ht⟩
  · omega
  · obtain ⟨ad, c, e, _, hc⟩ := hr.cell hi
    injection e with e1 _ _
    injection e1 with e1
    subst e1
    rw [Addr.add_lit] at hc
    refine ⟨g, cap, rfl, hb, by simpa using hc, frz hg, (Array.getElem?_eq_some_iff.1 hg).1, ?_⟩
    rw [List.length_set]
    refine ⟨by rw [bv_length, List.length_set, Nat.mul_one], .inr ⟨g, cap, cur.setIfInBounds i (.int .u8 (x.toNat : Int)), rfl, hb, ?_, hnc, hcm, by simp [hcs], ?_⟩⟩
    · rw [heap_setCell_same _ _ _ _ _ _ hg]
    · rw [← bv_set, ← ht, Array.toList_setIfInBounds, List.take_set]
set_option maxHeartbeats 4000000 in
theorem alive_any (w : World) : Calls Try.prog 12 #[] w fun e W' => e = .returned (.bool true) ∧ Grew w W' := by
  have kc := fun (w : World) (C : Array Value) (n c : Nat) => Lib.run_convert_bytes_const (P := Try.prog) w 22 5 C n c Try.underlying22 Try.underlying5
  go_enter Try.func12, Try.ntmps12
  go_wp2_with fail
  refine (wrap_eq _ _ [97, 98] 2 _ _ _ (lit_rd w [97, 98] (2, 3) (by decide)) q1).mono ?_
  rintro e w1 ⟨v1, rfl, d1, g1⟩
  replace g1 : Grew w w1 := Grew.trans (by unfold Grew; go_grown) g1
  have D1 := Lib.hid d1
  obtain ⟨ad, c, rfl, hc1, hc2⟩ := shape d1 5 rfl (by decide)
  have G1 := Lib.hid g1
  clear d1 g1
  go_wp2_with fail
  refine (wrap_eq _ _ [97, 98] 1 _ _ _ (lit_rd w1 [97, 98] (2, 3) (by decide)) q2).mono ?_
  rintro e w2 ⟨v2, rfl, _, g2⟩
  replace g2 : Grew w1 w2 := Grew.trans (by unfold Grew; go_grown) g2
  have D2 := Lib.hid (D1.out.grew g2)
  have G2 := Lib.hid (G1.out.trans g2)
  clear g2 D1
  have ga : Grew w2 (w2.alloc (.cells #[] 5)) := (Below.refl _ _).alloc (Nat.le_refl _) _
  obtain ⟨v3, w3, r3, o3, b3, _⟩ := run_app2 (w2.alloc (.cells #[] 5)) w2.heap.size (.slice (some ⟨w2.heap.size, 0, none⟩) 0 0) (some ad) c [] [2, 97, 98, 147, 91] _ (lit_own w2 _ (Nat.le_refl _) [] (by decide)) (D2.out.grew ga) (by decide) ga.size
  have R3 := Lib.hid r3
  have G3 : Hid (Grew w2 w3) := Lib.hid ((show Below w2.heap.size _ _ from ga).trans b3)
  obtain ⟨A3, c3, rfl⟩ := own_some o3
  have gb : Grew w3 (w3.alloc (.cells #[.int .u8 9] 5)) := (Below.refl _ _).alloc (Nat.le_refl _) _
  have y2 : Rd (fun _ => True) (w3.alloc (.cells #[.int .u8 9] 5)) (.slice (some ⟨w3.heap.size, 0, none⟩) 1 1) [9] := lit_rd w3 [9] (0, 0) (by decide)
  obtain ⟨v4, w4, r4, o4, b4, _⟩ := run_app2 (w3.alloc (.cells #[.int .u8 9] 5)) w2.heap.size _ (some ⟨w3.heap.size, 0, none⟩) 1 _ [9] _ (own_grew o3 gb) y2 (by decide) (Nat.le_trans G3.out.size gb.size)
  have R4 := Lib.hid r4
  have D4 := Lib.hid (Rd.of_own o4 rfl)
  have G4 : Hid (Grew w2 w4) := Lib.hid ((show Below w2.heap.size _ _ from G3.out.trans gb).trans b4)
  clear ga gb y2 r3 r4 b3 b4 o3 o4
  go_wp2_with (at_builtin; first | refine wpList_app' rfl (.tmp 36) (.tmp 37) 22 22 rfl _ _ rfl rfl _ w3 (by exact R3.out) ?_ | refine wpList_app' rfl (.tmp 38) (.tmp 39) 22 22 rfl _ _ rfl rfl _ w4 (by exact R4.out) ?_)
  refine (take_eq _ _ _ 2 w4 _ _ _ D4.out q3).mono ?_
  rintro e w5 ⟨v5, rfl, d5, g5⟩
  obtain ⟨ad5, c5, rfl, _, _⟩ := shape d5 2 rfl (by decide)
  have D5 := Lib.hid d5
  have D2b := Lib.hid (D2.out.grew (G4.out.trans g5))
  have G5 := Lib.hid ((G2.out.trans G4.out).trans g5)
  clear d5 g5 D2 D4 G4 R3 R4 G3
  have Y6 : Hid (Rd (fun _ => True) w5 (.slice (some ad) 4 c) [2, 97, 98, 147]) := Lib.hid (by
    have := cut_at (l := [2, 97, 98, 147, 91]) (c := c) D2b.out 0 4 (by decide) (by decide) c (by omega) (by omega)
    have e : (some ad).map (·.add 0) = some ad := by simp [Addr.add]
    rw [e] at this
    exact this.mono fun _ _ => trivial)
  go_wp2_with fail
  refine (take_eq _ _ [2, 97, 98, 147] 2 w5 _ _ _ Y6.out q4).mono ?_
  rintro e w6 ⟨v6, rfl, _, g6⟩
  have D2c := Lib.hid (D2b.out.grew g6)
  have D5c := Lib.hid (D5.out.grew g6)
  have G6 := Lib.hid (G5.out.trans g6)
  clear g6 D2b D5 G5
  go_wp2_with fail
  refine (take_eq _ _ _ 1 w6 _ _ _ D2c.out q5).mono ?_
  rintro e w7 ⟨v7, rfl, _, g7⟩
  have D2d := Lib.hid (D2c.out.grew g7)
  have D5d := Lib.hid (D5c.out.grew g7)
  have G7 := Lib.hid (G6.out.trans g7)
  clear g7 D2c D5c G6
  have ga : Grew w7 (w7.alloc (.cells #[] 5)) := (Below.refl _ _).alloc (Nat.le_refl _) _
  obtain ⟨v8, w8, r8, o8, b8, _⟩ := run_app2 (w7.alloc (.cells #[] 5)) w7.heap.size (.slice (some ⟨w7.heap.size, 0, none⟩) 0 0) (some ad) c [] [2, 97, 98, 147, 91] _ (lit_own w7 _ (Nat.le_refl _) [] (by decide)) (D2d.out.grew ga) (by decide) ga.size
  have R8 := Lib.hid r8
  have g8 : Grew w7 w8 := (show Below w7.heap.size _ _ from ga).trans b8
  obtain ⟨gg, cg, rfl, hgb, hcell, hfrz, hgl, o9⟩ := own_put o8 1 (by decide) 98
  have hcell2 : w8.cell? ⟨gg, 1, none⟩ = some (.int .u8 97) := hcell
  have G9 : Hid (Grew w (w8.setCell ⟨gg, 1, none⟩ (.int .u8 98))) := Lib.hid ((show Below w.heap.size _ _ from G7.out.trans g8).setCell (p := ⟨gg, 1, none⟩) (Nat.le_trans G7.out.size hgb) _)
  have D2e := Lib.hid (D2d.out.lt.keep (w' := w8.setCell ⟨gg, 1, none⟩ (.int .u8 98)) fun b hb hs => (heap_setCell_other w8 ⟨gg, 1, none⟩ b _ (fun e => by have e' : b = gg := e; have := hs.2; omega)).trans (g8.block b hb))
  have D5e := Lib.hid (D5d.out.lt.keep (w' := w8.setCell ⟨gg, 1, none⟩ (.int .u8 98)) fun b hb hs => (heap_setCell_other w8 ⟨gg, 1, none⟩ b _ (fun e => by have e' : b = gg := e; have := hs.2; omega)).trans (g8.block b hb))
  have D9 : Hid (Rd (fun b => w7.heap.size ≤ b ∧ b < (w8.setCell ⟨gg, 1, none⟩ (.int .u8 98)).heap.size) (w8.setCell ⟨gg, 1, none⟩ (.int .u8 98)) (.slice (some ⟨gg, 0, none⟩) 5 cg) [2, 98, 98, 147, 91]) := Lib.hid (Rd.of_own o9 rfl)
  clear ga b8 r8 g8 o8 o9 hcell hgl hgb D2d D5d
  go_wp2_with (at_builtin; refine wpList_app' rfl (.tmp 58) (.tmp 59) 22 22 rfl _ _ rfl rfl _ w8 (by exact R8.out) ?_)
  obtain ⟨W9, hW9⟩ : ∃ W9, w8.setCell ⟨gg, 1, none⟩ (.int .u8 98) = W9 := ⟨_, rfl⟩
  rw [hW9] at D2e D5e D9 G9 ⊢
  clear hW9 hcell2 hfrz R8
  refine (take_eq _ _ [2, 98, 98, 147, 91] 2 W9 _ _ _ D9.out q6).mono ?_
  rintro e wa ⟨va, rfl, _, gA⟩
  have D2f := Lib.hid (D2e.out.grew gA)
  have D5f := Lib.hid (D5e.out.grew gA)
  have Ga := Lib.hid (G9.out.trans gA)
  clear gA D2e D5e D9 G9
  have ga : Grew wa (wa.alloc (.cells #[] 5)) := (Below.refl _ _).alloc (Nat.le_refl _) _
  obtain ⟨vb, wb, rb, ob, bb, _⟩ := run_app2 (wa.alloc (.cells #[] 5)) wa.heap.size (.slice (some ⟨wa.heap.size, 0, none⟩) 0 0) (some ad) c [] [2, 97, 98, 147, 91] _ (lit_own wa _ (Nat.le_refl _) [] (by decide)) (D2f.out.grew ga) (by decide) ga.size
  have Rb := Lib.hid rb
  have gb : Grew wa wb := (show Below wa.heap.size _ _ from ga).trans bb
  obtain ⟨Ab, cb, rfl⟩ := own_some ob
  obtain ⟨vc, wc, rc, oc, bc, _⟩ := run_app2 wb wa.heap.size _ (some ad) c _ [2, 97, 98, 147, 91] _ ob (D2f.out.grew gb) (by decide) gb.size
  have Rc := Lib.hid rc
  have gc : Grew wa wc := (show Below wa.heap.size _ _ from gb).trans bc
  have Dc := Lib.hid (Rd.of_own oc rfl)
  have Gc := Lib.hid (Ga.out.trans gc)
  have D5g := Lib.hid (D5f.out.grew gc)
  clear ga gb gc bb bc rb rc ob oc D2f D5f Ga
  go_wp2_with (at_builtin; first | refine wpList_app' rfl (.tmp 73) (.tmp 74) 22 22 rfl _ _ rfl rfl _ wb (by exact Rb.out) ?_ | refine wpList_app' rfl (.tmp 75) (.tmp 76) 22 22 rfl _ _ rfl rfl _ wc (by exact Rc.out) ?_)
  refine (all_eq _ _ _ 2 wc _ _ Dc.out (by decide) q7).mono ?_
  rintro e wd ⟨vd, rfl, dd, gd⟩
  obtain ⟨Ad, cd, rfl⟩ := bs_len dd
  have k5 := conv22 (D5g.out.grew gd)
  have Gd := Lib.hid (Gc.out.trans gd)
  clear dd gd D5g Gc Dc Rb Rc
  have ll : ([[97, 98], [97, 98]] : List (List UInt8)).length = 2 := rfl
  go_wp2
  go_returns
  exact ⟨rfl, Gd.out⟩
end Go.Proofs.Ytbdlpmaigbbpaaa.FA
