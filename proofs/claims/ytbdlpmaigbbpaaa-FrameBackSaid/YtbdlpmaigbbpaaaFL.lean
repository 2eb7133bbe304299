/-
  FrameTells: what wraps, what is taken, and all frames, are as the document says.
  Conditions: those that each lemma names.
-/
import Derived.Test.YtbdlpmaigbbpaaaFA
import Derived.Test.YtbdlpmaigbbpaaaLaw
namespace Go.Proofs.Ytbdlpmaigbbpaaa.FL
set_option maxRecDepth 100000
open Go Go.RowKit Go.Lib Go.Proofs.Ytbdlpmaigbbpaaa Go.Proofs.Ytbdlpmaigbbpaaa.Facts Go.Proofs.Ytbdlpmaigbbpaaa.Bytes Go.Proofs.Ytbdlpmaigbbpaaa.Puts Go.Proofs.Ytbdlpmaigbbpaaa.Scan Go.Proofs.Ytbdlpmaigbbpaaa.Take Go.Proofs.Ytbdlpmaigbbpaaa.Nums Go.Proofs.Ytbdlpmaigbbpaaa.SumPure Go.Proofs.Ytbdlpmaigbbpaaa.Sum Go.Proofs.Ytbdlpmaigbbpaaa.FP Go.Proofs.Ytbdlpmaigbbpaaa.FW Go.Proofs.Ytbdlpmaigbbpaaa.FX Go.Proofs.Ytbdlpmaigbbpaaa.FT Go.Proofs.Ytbdlpmaigbbpaaa.FU Go.Proofs.Ytbdlpmaigbbpaaa.FS Go.Proofs.Ytbdlpmaigbbpaaa.FV Go.Proofs.Ytbdlpmaigbbpaaa.FV2 Go.Proofs.Ytbdlpmaigbbpaaa.FA

theorem same_yes (w : World) (va vb : Value) (a : List (List UInt8)) (ha : RR w va a) (hb : RR w vb a) (hl : a.length ≤ 9223372036854775807) :
    Calls Try.prog 13 #[va, vb] w fun e w' => e = .returned (.bool true) ∧ Grew w w' := by
  have := same_any w va vb a a ha hb hl hl
  simpa using this
theorem goP_len (most : Int) : ∀ (g : Nat) (acc : List (List UInt8)) (l : List UInt8), (goP most g acc l).1.length ≤ acc.length + g
  | 0, acc, l => by unfold goP; simp
  | g + 1, acc, l => by
    unfold goP
    split
    · simp
    · split
      · have := goP_len most g (acc ++ [(takeP l most).1]) (l.drop (takeP l most).2.1)
        simp at this
        omega
      · simp
set_option maxHeartbeats 4000000 in
theorem law_any (S1 S2 : Nat → Prop) (v1 v2 : Value) (b c : List UInt8) (most : Int) (w : World) (h1 : Rd S1 w v1 b) (h2 : Rd S2 w v2 c) (hc : c.length ≤ 1048576) :
    Calls Try.prog 3 #[v1, v2, .int .i64 most] w fun e w' => e = .returned (.bool true) ∧ Grew w w' := by
  have H1 := Lib.hid h1
  have H2 := Lib.hid h2
  have hal := goP_len most c.length [] c
  have HAL : Hid ((allP c most).1.length ≤ 9223372036854775807) := Lib.hid (by unfold allP; simp at hal; omega)
  obtain ⟨⟨x, e1⟩, hx⟩ : ∃ q, wrapP b most = q := ⟨_, rfl⟩
  obtain ⟨⟨y, n, e2⟩, hy⟩ : ∃ q, takeP c most = q := ⟨_, rfl⟩
  obtain ⟨⟨L, e3⟩, hL⟩ : ∃ q, allP c most = q := ⟨_, rfl⟩
  rw [hL] at HAL
  have HX := Lib.hid hx
  have HY := Lib.hid hy
  have HL := Lib.hid hL
  have HC := Lib.hid hc
  clear h1 h2 hx hy hL hal hc
  go_enter Try.func3, Try.ntmps3
  go_wp2_with fail
  refine (wrap_any S1 v1 b most w H1.out).mono ?_
  rintro e w1 ⟨a1, rfl, r1, g1⟩
  rw [HX.out] at r1 ⊢
  simp only at r1 ⊢
  have R1 := Lib.hid r1
  have G1 := Lib.hid g1
  obtain ⟨A1, c1, rfl, _⟩ := id r1
  clear r1 g1
  go_wp2_with fail
  refine (rwrap_any S1 v1 b most w1 (H1.out.grew G1.out)).mono ?_
  rintro e w2 ⟨a2, rfl, r2, g2⟩
  rw [HX.out] at r2 ⊢
  simp only at r2 ⊢
  have R1b := Lib.hid (R1.out.grew g2)
  have R2 := Lib.hid r2
  have G2 := Lib.hid (G1.out.trans g2)
  obtain ⟨A2, c2, rfl, _⟩ := id r2
  clear r2 g2 R1 G1
  go_wp2_with fail
  refine (take_any S2 v2 c most w2 (H2.out.grew G2.out)).mono ?_
  rintro e w3 ⟨a3, rfl, r3, g3⟩
  rw [HY.out] at r3 ⊢
  simp only at r3 ⊢
  have R1 := Lib.hid (R1b.out.grew g3)
  have R2b := Lib.hid (R2.out.grew g3)
  have R3 := Lib.hid r3
  have G3 := Lib.hid (G2.out.trans g3)
  obtain ⟨A3, c3, rfl, _⟩ := id r3
  clear r3 g3 R1b R2 G2
  go_wp2_with fail
  refine (rtake_any S2 v2 c most w3 (H2.out.grew G3.out)).mono ?_
  rintro e w4 ⟨a4, rfl, r4, g4⟩
  rw [HY.out] at r4 ⊢
  simp only at r4 ⊢
  have R1b := Lib.hid (R1.out.grew g4)
  have R2 := Lib.hid (R2b.out.grew g4)
  have R3b := Lib.hid (R3.out.grew g4)
  have R4 := Lib.hid r4
  have G4 := Lib.hid (G3.out.trans g4)
  obtain ⟨A4, c4, rfl, _⟩ := id r4
  clear r4 g4 R1 R2b R3 G3
  go_wp2_with fail
  refine (all_any S2 v2 c most w4 (H2.out.grew G4.out) HC.out).mono ?_
  rintro e w5 ⟨a5, rfl, r5, g5⟩
  rw [HL.out] at r5 ⊢
  simp only at r5 ⊢
  have R1 := Lib.hid (R1b.out.grew g5)
  have R2b := Lib.hid (R2.out.grew g5)
  have R3 := Lib.hid (R3b.out.grew g5)
  have R4b := Lib.hid (R4.out.grew g5)
  have R5 := Lib.hid r5
  have G5 := Lib.hid (G4.out.trans g5)
  obtain ⟨A5, c5, rfl⟩ := bs_len r5
  clear r5 g5 R1b R2 R3b R4 G4
  go_wp2_with fail
  refine (rall_any S2 v2 c most w5 (H2.out.grew G5.out) HC.out).mono ?_
  rintro e w6 ⟨a6, rfl, r6, g6⟩
  rw [HL.out] at r6 ⊢
  simp only at r6 ⊢
  have R1b := Lib.hid (R1.out.grew g6)
  have R2 := Lib.hid (R2b.out.grew g6)
  have R3b := Lib.hid (R3.out.grew g6)
  have R4 := Lib.hid (R4b.out.grew g6)
  have R5b := Lib.hid (R5.out.grew g6)
  have R6 := Lib.hid r6
  have G6 := Lib.hid (G5.out.trans g6)
  obtain ⟨A6, c6, rfl⟩ := bs_len r6
  clear r6 g6 R1 R2b R3 R4b R5 G5
  go_wp2_with fail
  refine (alive_any w6).mono ?_
  rintro e w7 ⟨rfl, g7⟩
  have k1 := conv22 (R1b.out.grew g7)
  have k2 := conv22 (R2.out.grew g7)
  have k3 := conv22 (R3b.out.grew g7)
  have k4 := conv22 (R4.out.grew g7)
  have R5 := Lib.hid (R5b.out.grew g7)
  have R6b := Lib.hid (R6.out.grew g7)
  have G7 := Lib.hid (G6.out.trans g7)
  clear g7 R1b R2 R3b R4 R5b R6 G6
  go_wp2_with fail
  refine (same_yes w7 _ _ L (RR.of_bs R5.out) (RR.of_bs R6b.out) HAL.out).mono ?_
  rintro e w8 ⟨rfl, g8⟩
  go_wp2
  go_returns
  exact ⟨rfl, G7.out.trans g8⟩
end Go.Proofs.Ytbdlpmaigbbpaaa.FL
