/-
  The fixed calls.
  Conditions: those that each lemma names.
-/
import Derived.Test.YthgigkklefaeeaaRK
namespace Go.Proofs.Ythgigkklefaeeaa.RL
set_option maxRecDepth 100000
open Go Go.RowKit Go.Lib Go.Proofs.Ythgigkklefaeeaa Go.Proofs.Ythgigkklefaeeaa.Facts Go.Proofs.Ythgigkklefaeeaa.Bytes Go.Proofs.Ythgigkklefaeeaa.Puts Go.Proofs.Ythgigkklefaeeaa.Scan Go.Proofs.Ythgigkklefaeeaa.Take Go.Proofs.Ythgigkklefaeeaa.Nums Go.Proofs.Ythgigkklefaeeaa.SumPure Go.Proofs.Ythgigkklefaeeaa.Sum Go.Proofs.Ythgigkklefaeeaa.FP Go.Proofs.Ythgigkklefaeeaa.FW Go.Proofs.Ythgigkklefaeeaa.FX Go.Proofs.Ythgigkklefaeeaa.Ints Go.Proofs.Ythgigkklefaeeaa.PA Go.Proofs.Ythgigkklefaeeaa.RA Go.Proofs.Ythgigkklefaeeaa.RC Go.Proofs.Ythgigkklefaeeaa.RD Go.Proofs.Ythgigkklefaeeaa.RE Go.Proofs.Ythgigkklefaeeaa.RF Go.Proofs.Ythgigkklefaeeaa.RG Go.Proofs.Ythgigkklefaeeaa.RH Go.Proofs.Ythgigkklefaeeaa.RI Go.Proofs.Ythgigkklefaeeaa.RK Go.Proofs.Ythgigkklefaeeaa.FS Go.Proofs.Ythgigkklefaeeaa.FV

theorem lit_rd (w : World) (l : List UInt8) (fr : Nat × Nat) (hl : l.length ≤ maxLen) : Rd (fun _ => True) (w.alloc (.cells (bv l).toArray 5 fr)) (.slice (some ⟨w.heap.size, 0, none⟩) l.length l.length) l := by
  refine ⟨some ⟨w.heap.size, 0, none⟩, l.length, rfl, Nat.le_refl _, hl, (fun h => by cases h), fun ad ha => ⟨fun _ => trivial, fun j u hu => ?_⟩⟩
  cases ha
  have e : (Addr.add ⟨w.heap.size, 0, none⟩ j) = ⟨w.heap.size, j, none⟩ := by
    unfold Addr.add
    split
    · rename_i h; subst h; rfl
    · simp
  rw [e, World.cell?_alloc_mark]
  simpa using hu
theorem shape {S : Nat → Prop} {w : World} {v : Value} {l : List UInt8} (h : Rd S w v l) (n : Nat) (hn : l.length = n) (hp : 0 < n) :
    ∃ ad c, v = .slice (some ad) n c ∧ n ≤ c ∧ c ≤ 9223372036854775807 := by
  subst hn
  obtain ⟨A, c, rfl, h1, h2, h3, h4⟩ := h
  unfold maxLen at h2
  cases A with
  | none => have := h3 rfl; omega
  | some ad => exact ⟨ad, c, rfl, h1, by omega⟩
theorem wrap_eq (S : Nat → Prop) (x : Ou) (A : Option Addr) (c : Nat) (w : World) (y : List UInt8) (h : Rd S w (.slice A x.d.length c) x.d) (hq : wrapO x = y) :
    Calls Try.prog 13 #[ov x A c] w fun e w' => ∃ v', e = .returned v' ∧ Rd (fun k => w.heap.size ≤ k) w' v' y ∧ Grew w w' := by
  have := RH.wrap_any S x A c w h
  rwa [hq] at this
theorem all_eq (S : Nat → Prop) (v : Value) (l : List UInt8) (w : World) (x : List Ou) (y : Int) (h : Rd S w v l) (hl : l.length ≤ 1048576) (hq : allO l = (x, y)) :
    Calls Try.prog 8 #[v] w fun e w' => ∃ v', e = .returned (.tuple #[v', .int .i64 y]) ∧ OS w.heap.size w' v' x ∧ Grew w w' := by
  have := RK.all_any S v l w h hl
  rwa [hq] at this
theorem nums_eq (w : World) (v : Value) (l : List Int) (h : Is w v l) (hl : l.length ≤ 140737488355328) (y : List UInt8) (hq : ob l = y) : Calls Try.prog 17 #[v] w fun e w' => ∃ v', e = .returned v' ∧ Rd (fun k => w.heap.size ≤ k ∧ k < w'.heap.size) w' v' y ∧ Grew w w' := by
  subst hq
  refine (nums_any w v l h hl).mono ?_
  rintro e w' ⟨v', rfl, o1, g1⟩
  exact ⟨v', rfl, Rd.of_own o1 rfl, g1⟩
theorem refs_eq (w : World) (v : Value) (l : List Rf) (h : Rfs w v l) (hl : l.length ≤ 17592186044416) (y : List UInt8) (hq : orr l = y) : Calls Try.prog 19 #[v] w fun e w' => ∃ v', e = .returned v' ∧ Rd (fun k => w.heap.size ≤ k ∧ k < w'.heap.size) w' v' y ∧ Grew w w' := by
  subst hq
  refine (refs_any w v l h hl).mono ?_
  rintro e w' ⟨v', rfl, o1, g1⟩
  exact ⟨v', rfl, Rd.of_own o1 rfl, g1⟩
theorem amounts_eq (w : World) (v : Value) (l : List Nat) (h : Us w v l) (hl : l.length ≤ 17592186044416) (y : List UInt8) (hq : ou l = y) : Calls Try.prog 20 #[v] w fun e w' => ∃ v', e = .returned v' ∧ Rd (fun k => w.heap.size ≤ k ∧ k < w'.heap.size) w' v' y ∧ Grew w w' := by
  subst hq
  refine (amounts_any w v l h hl).mono ?_
  rintro e w' ⟨v', rfl, o1, g1⟩
  exact ⟨v', rfl, Rd.of_own o1 rfl, g1⟩
theorem lit_us (w : World) (n : Nat) : Us (w.alloc (.cells #[.int .u64 (n : Int)] 55)) (.slice (some ⟨w.heap.size, 0, none⟩) 1 1) [n] := by
  refine ⟨some ⟨w.heap.size, 0, none⟩, 1, rfl, Nat.le_refl _, by decide, (fun h => by cases h), fun ad ha j u hu => ?_⟩
  cases ha
  rw [Addr.add_lit, cell_of_row _ _ _ _ _ _ (heap_alloc_new w _)]
  simpa [ucs] using hu
theorem lit_rfs (w : World) (a b : Int) : Rfs (w.alloc (.cells #[.int .i64 a, .int .i64 b] 35)) (.slice (some ⟨w.heap.size, 0, none⟩) 1 1) [⟨a, b⟩] := by
  refine ⟨some ⟨w.heap.size, 0, none⟩, 1, rfl, Nat.le_refl _, by decide, (fun h => by cases h), fun ad ha j u hu => ?_⟩
  cases ha
  rw [Addr.add_lit, cell_of_row _ _ _ _ _ _ (heap_alloc_new w _)]
  simpa [rcs] using hu
def xg : Ou := ⟨1, 5, 0, []⟩
def P6 : List UInt8 := [3, 1, 5, 0, 123, 7]
theorem q1 : wrapO xg = [3, 1, 5, 0, 123, 7] := by decide +kernel
theorem q2 : readP [1, 5, 0] = (xg, 0) := by decide +kernel
theorem q3 : readP [1, 5] = (zou, 12) := by decide +kernel
theorem q4 : readP [2, 5, 0] = (zou, 2) := by decide +kernel
theorem q5 : allO ([3, 1, 5, 0, 123, 7] ++ [3, 1, 5, 0, 123, 7]) = ([xg, xg], 0) := by decide +kernel
theorem q6 : ob [1, 2] = [1, 2] := by decide +kernel
theorem q7 : orr [⟨1, 2⟩] = [1, 2] := by decide +kernel
theorem q8 : ou [7] = [0, 0, 0, 0, 0, 0, 0, 7] := by decide +kernel
theorem q9 : mayP 5 0 14 0 = true := by decide +kernel
theorem q10 : mayP 5 0 0 0 = false := by decide +kernel
theorem lit_own1 (w : World) (o : Obj) : ((w.alloc o).alloc (.cells #[] 5)).ownsRow (w.heap.size + 1) 5 1 (.slice (some ⟨w.heap.size + 1, 0, none⟩) 0 0) ([] : List UInt8).length (bv []) := by
  have := lit_own (w.alloc o) (w.heap.size + 1) (by simp) [] (by decide)
  rw [show (w.alloc o).heap.size = w.heap.size + 1 by simp] at this
  exact this
theorem lit_rd1 (w : World) (ob : Obj) (l : List UInt8) (hl : l.length ≤ maxLen) : Rd (fun _ => True) ((w.alloc ob).alloc (.cells (bv l).toArray 5)) (.slice (some ⟨w.heap.size + 1, 0, none⟩) l.length l.length) l := by
  have := lit_rd (w.alloc ob) l (0, 0) hl
  simpa using this
theorem ov_xg (A : Option Addr) (c : Nat) : ov xg A c = .agg #[.int .i64 1, .int .i64 5, .int .i64 0, .slice A 0 c] := rfl
theorem ov_zou (A : Option Addr) (c : Nat) : ov zou A c = .agg #[.int .i64 0, .int .i64 0, .int .i64 0, .slice A 0 c] := rfl
set_option maxHeartbeats 8000000 in
theorem alive_any (w : World) : Calls Try.prog 10 #[] w fun e w' => e = .returned (.bool true) ∧ Grew w w' := by
  have ga := box_cells w xg none 0
  have HA := Lib.hid ga
  have X0 := Lib.hid (heap_alloc_new w (.cells #[.int .i64 1, .int .i64 5, .int .i64 0, .slice none 0 0] 25))
  clear ga
  go_enter Try.func10, Try.ntmps10
  go_wp2_with fail
  refine (wrap_eq _ xg none 0 _ _ (Rd.nil (fun _ => True) _) q1).mono ?_
  rintro e w1 ⟨v1, rfl, d1, g1⟩
  obtain ⟨ad, c, rfl, hc1, hc2⟩ := shape d1 6 rfl (by decide)
  have X1 := Lib.hid (FX.keepB X0.out g1)
  have G1 := Lib.hid (HA.out.trans g1)
  have D1 := Lib.hid d1
  clear d1 g1 X0 HA
  go_wp2_with fail
  refine (read_eq _ _ [1, 5, 0] _ _ _ (lit_rd w1 [1, 5, 0] (0, 0) (by decide)) (by decide) q2).mono ?_
  rintro e w2 ⟨A2, c2, rfl, d2, g2⟩
  rw [ov_xg]
  replace g2 : Grew w1 w2 := Grew.trans (by unfold Grew; go_grown) g2
  have gb := box_cells w2 xg A2 c2
  have Y2 := Lib.hid (heap_alloc_new w2 (.cells #[.int .i64 1, .int .i64 5, .int .i64 0, .slice A2 0 c2] 25))
  have E2 := Lib.hid (d2.grew gb)
  have X2 := Lib.hid (FX.keepB X1.out (g2.trans gb))
  have G2 := Lib.hid (G1.out.trans (g2.trans gb))
  have D2 := Lib.hid (D1.out.grew (g2.trans gb))
  clear d2 g2 gb X1 G1 D1
  go_wp2_with fail
  refine (read_eq _ _ [1, 5] _ _ _ (lit_rd1 w2 _ [1, 5] (by decide)) (by decide) q3).mono ?_
  rintro e w3 ⟨A3, c3, rfl, d3, g3⟩
  rw [ov_zou]
  have g3' := Grew.trans ((Below.refl _ _).alloc (Nat.le_refl _) _) g3
  have gb := box_cells w3 zou A3 c3
  have Y3 := Lib.hid (FX.keepB Y2.out (g3'.trans gb))
  have E3 := Lib.hid (E2.out.grew (g3'.trans gb))
  have X3 := Lib.hid (FX.keepB X2.out (g3'.trans gb))
  have G3 := Lib.hid (G2.out.trans (g3'.trans gb))
  have D3 := Lib.hid (D2.out.grew (g3'.trans gb))
  clear d3 g3 g3' gb X2 G2 D2 Y2 E2
  go_wp2_with fail
  refine (read_eq _ _ [2, 5, 0] _ _ _ (lit_rd1 w3 _ [2, 5, 0] (by decide)) (by decide) q4).mono ?_
  rintro e w4 ⟨A4, c4, rfl, d4, g4⟩
  rw [ov_zou]
  have g4' := Grew.trans ((Below.refl _ _).alloc (Nat.le_refl _) _) g4
  have gb := box_cells w4 zou A4 c4
  have Y4 := Lib.hid (FX.keepB Y3.out (g4'.trans gb))
  have E4 := Lib.hid (E3.out.grew (g4'.trans gb))
  have X4 := Lib.hid (FX.keepB X3.out (g4'.trans gb))
  have G4 := Lib.hid (G3.out.trans (g4'.trans gb))
  have D4 := Lib.hid (D3.out.grew (g4'.trans gb))
  clear d4 g4 g4' gb X3 G3 D3 Y3 E3
  obtain ⟨Wb, hWb⟩ : ∃ Wb, w4.alloc (.cells #[.int .i64 zou.k, .int .i64 zou.o, .int .i64 zou.e, .slice A4 zou.d.length c4] 25) = Wb := ⟨_, rfl⟩
  have hsz : Wb.heap.size = w4.heap.size + 1 := by rw [← hWb]; simp
  have hl1 := lit_own1 w4 (.cells #[.int .i64 zou.k, .int .i64 zou.o, .int .i64 zou.e, .slice A4 zou.d.length c4] 25)
  rw [hWb] at Y4 E4 X4 G4 D4 hl1
  have gc : Grew Wb (Wb.alloc (.cells #[] 5)) := (Below.refl _ _).alloc (Nat.le_refl _) _
  obtain ⟨v5, w5, r5, o5, b5, _⟩ := run_app2 (Wb.alloc (.cells #[] 5)) (w4.heap.size + 1) (.slice (some ⟨w4.heap.size + 1, 0, none⟩) 0 0) (some ad) c [] [3, 1, 5, 0, 123, 7] _ hl1 (D4.out.grew gc) (by decide) (by rw [← hsz]; exact gc.size)
  rw [← hsz] at b5
  have g5 : Grew Wb w5 := Below.trans gc b5
  obtain ⟨A5, c5, rfl⟩ := own_some o5
  obtain ⟨v6, w6, r6, o6, b6, _⟩ := run_app2 w5 (w4.heap.size + 1) _ (some ad) c _ [3, 1, 5, 0, 123, 7] _ o5 (D4.out.grew g5) (by decide) (by rw [← hsz]; exact g5.size)
  rw [← hsz] at b6
  have g6 : Grew Wb w6 := Below.trans g5 b6
  have R5 := Lib.hid r5
  have R6 := Lib.hid r6
  have Y6 := Lib.hid (FX.keepB Y4.out g6)
  have E6 := Lib.hid (E4.out.grew g6)
  have X6 := Lib.hid (FX.keepB X4.out g6)
  have G6 := Lib.hid (G4.out.trans g6)
  have D6 := Lib.hid (D4.out.grew g6)
  have F6 := Lib.hid (Rd.of_own o6 rfl)
  rw [← hWb] at R5
  clear Y4 E4 X4 G4 D4 hl1 gc r5 o5 b5 g5 r6 o6 b6 g6 hsz hWb
  go_wp2_with (at_builtin; first | refine wpList_app' rfl (.tmp 30) (.tmp 31) 23 23 rfl _ _ rfl rfl _ w5 (by exact R5.out) ?_ | refine wpList_app' rfl (.tmp 32) (.tmp 33) 23 23 rfl _ _ rfl rfl _ w6 (by exact R6.out) ?_)
  refine (all_eq _ _ _ w6 _ _ F6.out (by decide) q5).mono ?_
  rintro e w7 ⟨v7, rfl, o7, g7⟩
  obtain ⟨A7, c7, rfl⟩ := o7.len
  rw [show ([xg, xg] : List Ou).length = 2 from rfl]
  have Y7 := FX.keepB Y6.out g7
  have E7 := Lib.hid (E6.out.grew g7)
  have X7 := FX.keepB X6.out g7
  have G7 := Lib.hid (G6.out.trans g7)
  have D7 := Lib.hid (D6.out.grew g7)
  obtain ⟨x0, x1, x2, x3⟩ := four_c X7
  obtain ⟨y0, y1, y2, y3⟩ := four_c Y7
  clear Y6 E6 X6 G6 D6 F6 R5 R6 o7 g7 X7 Y7
  have hcell : ∀ k, k < 6 → 0 < k → w7.cell? ⟨ad.block, ad.off + k, none⟩ = some (.int .u8 ((([3, 1, 5, 0, 123, 7] : List UInt8)[k]?.getD 0).toNat : Int)) := fun k hk h0 => by
    obtain ⟨ad', c', e, _, q⟩ := D7.out.cell (k := k) (by simpa using hk)
    injection e with e1 _ _
    injection e1 with e1
    subst e1
    rw [← q]
    simp [Addr.add, show ¬ k = 0 by omega]
  have z1 : w7.cell? ⟨ad.block, ad.off + 1, none⟩ = some (.int .u8 1) := hcell 1 (by decide) (by decide)
  have z2 : w7.cell? ⟨ad.block, ad.off + 2, none⟩ = some (.int .u8 5) := hcell 2 (by decide) (by decide)
  have z3 : w7.cell? ⟨ad.block, ad.off + 3, none⟩ = some (.int .u8 0) := hcell 3 (by decide) (by decide)
  clear hcell
  go_wp2_with fail
  refine (same_any xg xg none A2 0 c2 (fun _ => True) _ w7 (Rd.nil _ _) E7.out).mono ?_
  rintro e w8 ⟨rfl, g8⟩
  rw [show decide (xg = xg) = true from decide_eq_true rfl]
  have G8 := Lib.hid (G7.out.trans g8)
  clear g8 x0 x1 x2 x3 y0 y1 y2 y3 z1 z2 z3 D7 E7 G7
  go_wp2_with fail
  refine (may_any 5 0 14 none 0 0 w8).mono ?_
  rintro e w9 ⟨rfl, g9⟩
  rw [q9]
  have G9 := Lib.hid (G8.out.trans g9)
  clear g9 G8
  go_wp2_with fail
  refine (may_any 5 0 0 none 0 0 w9).mono ?_
  rintro e wa ⟨rfl, g9⟩
  rw [q10]
  have Ga := Lib.hid (G9.out.trans g9)
  clear g9 G9
  go_wp2_with fail
  refine (nums_eq _ _ [1, 2] (lit_is wa [1, 2] (by decide)) (by decide) _ q6).mono ?_
  rintro e wb ⟨vb, rfl, rb, gb⟩
  have gb2 := Grew.trans ((Below.refl _ _).alloc (Nat.le_refl _) _) gb
  have kb := conv22 rb
  have Gb := Lib.hid (Ga.out.trans gb2)
  clear gb gb2 Ga rb
  go_wp2_with fail
  refine (refs_eq _ _ [⟨1, 2⟩] (lit_rfs wb 1 2) (by decide) _ q7).mono ?_
  rintro e wc ⟨vc, rfl, rc, gc⟩
  have gc2 := Grew.trans ((Below.refl _ _).alloc (Nat.le_refl _) _) gc
  have kc := conv22 rc
  have Gc := Lib.hid (Gb.out.trans gc2)
  clear gc gc2 Gb rc kb
  go_wp2_with fail
  refine (amounts_eq _ _ [7] (lit_us wc 7) (by decide) _ q8).mono ?_
  rintro e wd ⟨vd, rfl, rd, gd⟩
  obtain ⟨Ad, cd, rfl, _⟩ := id rd
  rw [show ([0, 0, 0, 0, 0, 0, 0, 7] : List UInt8).length = 8 from rfl]
  have gd2 := Grew.trans ((Below.refl _ _).alloc (Nat.le_refl _) _) gd
  have Gd := Lib.hid (Gc.out.trans gd2)
  clear gd gd2 Gc rd kc
  go_wp2
  go_returns
  exact ⟨rfl, Gd.out⟩
end Go.Proofs.Ythgigkklefaeeaa.RL
