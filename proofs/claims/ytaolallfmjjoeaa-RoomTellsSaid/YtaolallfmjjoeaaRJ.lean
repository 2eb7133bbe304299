/-
  What comes of fixed calls.
  Conditions: those that each lemma names.
-/
import Derived.Test.YtaolallfmjjoeaaRI
namespace Go.Proofs.Ytaolallfmjjoeaa.RJ
set_option maxRecDepth 100000
open Go Go.RowKit Go.Lib Go.Proofs.Ytaolallfmjjoeaa Go.Proofs.Ytaolallfmjjoeaa.Facts Go.Proofs.Ytaolallfmjjoeaa.Ints Go.Proofs.Ytaolallfmjjoeaa.TI Go.Proofs.Ytaolallfmjjoeaa.TP Go.Proofs.Ytaolallfmjjoeaa.TB Go.Proofs.Ytaolallfmjjoeaa.TC Go.Proofs.Ytaolallfmjjoeaa.TD Go.Proofs.Ytaolallfmjjoeaa.TE Go.Proofs.Ytaolallfmjjoeaa.TF Go.Proofs.Ytaolallfmjjoeaa.TH Go.Proofs.Ytaolallfmjjoeaa.RA Go.Proofs.Ytaolallfmjjoeaa.RB Go.Proofs.Ytaolallfmjjoeaa.RC Go.Proofs.Ytaolallfmjjoeaa.RD Go.Proofs.Ytaolallfmjjoeaa.RE Go.Proofs.Ytaolallfmjjoeaa.RF Go.Proofs.Ytaolallfmjjoeaa.RG Go.Proofs.Ytaolallfmjjoeaa.RH Go.Proofs.Ytaolallfmjjoeaa.RI Go.Proofs.Ytaolallfmjjoeaa.Bytes


theorem ansR_at {R : List Rm} {k er : Int} {w w' : World} {e : Ending} (n : Nat) (hn : R.length = n) (h : AnsR (R, k, er) w e w') : ∃ A c, e = .returned (.tuple #[.slice A n c, .int .i64 k, .int .i64 er]) ∧ Hid (Rms w' (.slice A n c) R) ∧ Grew w w' := by
  obtain ⟨v', e1, hi, hg⟩ := h
  obtain ⟨A, c, rfl, _⟩ := hi.slice
  subst hn
  exact ⟨A, c, e1, Lib.hid hi, hg⟩
theorem ansE_at {R : List Ex} {k er : Int} {w w' : World} {e : Ending} (n : Nat) (hn : R.length = n) (h : AnsE (R, k, er) w e w') : ∃ A c, e = .returned (.tuple #[.slice A n c, .int .i64 k, .int .i64 er]) ∧ Hid (Exs w' (.slice A n c) R) ∧ Grew w w' := by
  obtain ⟨v', e1, hi, hg⟩ := h
  obtain ⟨A, c, rfl, _⟩ := hi.slice
  subst hn
  exact ⟨A, c, e1, Lib.hid hi, hg⟩
theorem atA1 {W : World} {A : Option Addr} {c : Nat} (hi : Rms W (.slice A 2 c) A1) : ∃ ad, A = some ad ∧ W.cell? ⟨ad.block, ad.off + 1, none⟩ = some (.string hut) := by
  obtain ⟨ad, c9, e9', hc9, _, d1⟩ := Rms_at hi (k := 0) (x := ⟨true, hut⟩) rfl
  injection e9' with e1' _ e3'
  exact ⟨ad, e1', by simpa [Addr.add] using d1⟩
theorem atE0 {W : World} {A : Option Addr} {c : Nat} (hi : Exs W (.slice A 1 c) E0) : ∃ ad, A = some ad ∧ W.cell? ad = some (.bool false) := by
  obtain ⟨ad, c9, e9', hc9, d0, _⟩ := Exs_at hi (k := 0) (x := zex) rfl
  injection e9' with e1' _ e3'
  exact ⟨ad, e1', by simpa [Addr.add, zex] using d0⟩
theorem atW {W : World} {v : Value} (hi : Is W v [2]) : ∃ ad c, v = .slice (some ad) 1 c ∧ W.cell? ad = some (.int .i64 2) := by
  obtain ⟨ad, c9, e9', hc9, d0⟩ := hi.cell (k := 0) (by decide)
  exact ⟨ad, c9, e9', by simpa [Addr.add] using d0⟩
theorem szA : SzR A0 ∧ SzR A1 := by
  constructor
  all_goals
    intro x hx
    simp only [A0, A1, List.mem_cons, List.not_mem_nil, or_false] at hx
    rcases hx with rfl | rfl <;> decide
def ZR : Array Value := ((List.replicate 2 zrm).flatMap rcs).toArray
def ZE : Array Value := ((List.replicate 1 zex).flatMap ecs).toArray
set_option maxHeartbeats 2000000 in
theorem alive_any (w : World) : Calls Try.prog 10 #[] w fun e w' => e = .returned (.bool true) ∧ Grew w w' := by
  have hmk : ∀ u : World, (Instr.makeSlice 22 (.int .i64 2) (.int .i64 2)).run Try.prog u = .ok (.slice (some ⟨u.heap.size, 0, none⟩) 2 2) (u.alloc (.cells ZR 74)) := fun u => mk_rooms 2 (by decide) u
  have hmk2 : ∀ u : World, (Instr.makeSlice 31 (.int .i64 1) (.int .i64 1)).run Try.prog u = .ok (.slice (some ⟨u.heap.size, 0, none⟩) 1 1) (u.alloc (.cells ZE 41)) := fun u => mk_exits 1 (by decide) u
  have gl : Grew w (w.alloc (.cells ZR 74)) := by unfold Grew; go_grown
  have G0 := Lib.hid gl
  have HDG := Lib.hid (dig_any (.slice (some ⟨w.heap.size, 0, none⟩) 2 2) A0 hut (w.alloc (.cells ZR 74)) (rooms_made w A0 (by decide)) szA.1 (by decide) (by decide))
  rw [p0] at HDG
  have HD2 := Lib.hid (fun W A c (hi : Rms W (.slice A 2 c) A1) => dig_any _ A1 two W hi szA.2 (by decide) (by decide))
  rw [p1] at HD2
  have HL1 := Lib.hid (fun W => link_any (.slice (some ⟨W.heap.size, 0, none⟩) 1 1) E0 0 0 0 1 2 (W.alloc (.cells ZE 41)) (exits_made W E0 (by decide)) (by decide))
  rw [p2] at HL1
  have HGE := Lib.hid (fun W : World => (show Grew W (W.alloc (.cells ZE 41)) by unfold Grew; go_grown))
  have HL2 := Lib.hid (fun W A c (hi : Exs W (.slice A 1 c) E1) => link_any _ E1 0 0 0 0 2 W hi (by decide))
  rw [p3] at HL2
  have HL3 := Lib.hid (fun W A c (hi : Exs W (.slice A 1 c) E1) => link_any _ E1 0 0 0 0 3 W hi (by decide))
  rw [p4] at HL3
  have HFI := Lib.hid (fun W A c (hi : Exs W (.slice A 1 c) E1) => find_any _ E1 0 0 2 W hi)
  rw [p5] at HFI
  have HWY := Lib.hid (fun W A c (hi : Exs W (.slice A 1 c) E1) => ways_any _ E1 0 0 W hi)
  rw [p6] at HWY
  have HCL := Lib.hid (fun W A c (hi : Exs W (.slice A 1 c) E1) => close_any _ E1 0 0 2 W hi (by decide))
  rw [p7] at HCL
  have HRM := Lib.hid (fun W A c (hi : Rms W (.slice A 2 c) A1) => rooms_any _ A1 W hi szA.2)
  rw [p8] at HRM
  have HEX := Lib.hid (fun W A c (hi : Exs W (.slice A 1 c) E1) => exits_any _ E1 W hi (by decide))
  rw [p9] at HEX
  clear gl
  unfold hut at HDG
  unfold two at HD2
  go_enter Try.func10, Try.ntmps10
  go_wp2_with fail
  refine HDG.out.mono ?_
  rintro e w1 ha
  obtain ⟨A1', c1, rfl, HI1, hg⟩ := ansR_at 2 rfl ha
  have G1 := Lib.hid (G0.out.trans hg)
  clear ha hg hmk HDG G0
  go_wp2_with fail
  refine (HD2.out _ _ _ HI1.out).mono ?_
  rintro e w2 ha
  obtain ⟨A2, c2, rfl, HI2, hg⟩ := ansR_at 0 rfl ha
  have G2 := Lib.hid (G1.out.trans hg)
  replace HI1 := Lib.hid (HI1.out.grew hg)
  clear ha hg HD2 G1 HI2
  go_wp2_with fail
  refine (HL1.out w2).mono ?_
  rintro e w3 ha
  obtain ⟨A3, c3, rfl, HI3, hg⟩ := ansE_at 1 rfl ha
  have hg' := (HGE.out w2).trans hg
  have G3 := Lib.hid (G2.out.trans hg')
  replace HI1 := Lib.hid (HI1.out.grew hg')
  clear ha hg hg' HL1 G2 hmk2 HGE
  go_wp2_with fail
  refine (HL2.out _ _ _ HI3.out).mono ?_
  rintro e w4 ha
  obtain ⟨A4, c4, rfl, HI4, hg⟩ := ansE_at 0 rfl ha
  have G4 := Lib.hid (G3.out.trans hg)
  replace HI1 := Lib.hid (HI1.out.grew hg)
  replace HI3 := Lib.hid (HI3.out.grew hg)
  clear ha hg HL2 G3 HI4
  go_wp2_with fail
  refine (HL3.out _ _ _ HI3.out).mono ?_
  rintro e w5 ha
  obtain ⟨A5, c5, rfl, HI5, hg⟩ := ansE_at 0 rfl ha
  have G5 := Lib.hid (G4.out.trans hg)
  replace HI1 := Lib.hid (HI1.out.grew hg)
  replace HI3 := Lib.hid (HI3.out.grew hg)
  clear ha hg HL3 G4 HI5
  go_wp2_with fail
  refine (HFI.out _ _ _ HI3.out).mono ?_
  rintro e w6 ⟨rfl, hg⟩
  have G6 := Lib.hid (G5.out.trans hg)
  replace HI1 := Lib.hid (HI1.out.grew hg)
  replace HI3 := Lib.hid (HI3.out.grew hg)
  clear hg HFI G5
  have g7 : Grew w6 (w6.alloc (.cells #[.int .i64 0, .int .i64 1] 33)) := by unfold Grew; go_grown
  have G7 := Lib.hid (G6.out.trans g7)
  have HB7 := Lib.hid (heap_alloc_new w6 (.cells #[.int .i64 0, .int .i64 1] 33))
  replace HI1 := Lib.hid (HI1.out.grew g7)
  replace HI3 := Lib.hid (HI3.out.grew g7)
  clear g7 G6
  go_wp2_with fail
  refine (HWY.out _ _ _ HI3.out).mono ?_
  rintro e w8 ⟨V8, rfl, hi, hg⟩
  have G8 := Lib.hid (G7.out.trans hg)
  have HB8 := Lib.hid (keepB HB7.out hg)
  have HW8 := Lib.hid hi
  obtain ⟨a8, c8, rfl, _⟩ := atW hi
  replace HI1 := Lib.hid (HI1.out.grew hg)
  replace HI3 := Lib.hid (HI3.out.grew hg)
  clear hi hg HWY G7 HB7
  go_wp2_with fail
  refine (HCL.out _ _ _ HI3.out).mono ?_
  rintro e w9 ⟨v9, rfl, hi, hg⟩
  have HI9 : Hid (Exs w9 v9 E0) := Lib.hid hi
  have G9 := Lib.hid (G8.out.trans hg)
  have HB9 := Lib.hid (keepB HB8.out hg)
  replace HI1 := Lib.hid (HI1.out.grew hg)
  replace HI3 := Lib.hid (HI3.out.grew hg)
  have HW9 := Lib.hid (HW8.out.grew hg)
  clear hi hg HCL G8 HB8 HW8
  obtain ⟨A9, c9, rfl, _⟩ := HI9.out.slice
  have hln : E0.length = 1 := rfl
  rw [hln] at HI9 ⊢
  obtain ⟨ad1, rfl, x1⟩ := atA1 HI1.out
  obtain ⟨ad9, rfl, x9⟩ := atE0 HI9.out
  obtain ⟨k0, k1⟩ := two_c HB9.out
  obtain ⟨ad8, c8', e8, x8⟩ := atW HW9.out
  injection e8 with e8a _ e8c
  injection e8a with e8b
  subst e8b e8c
  clear hln
  unfold hut at x1
  go_wp2_with fail
  refine (HRM.out _ _ _ HI1.out).mono ?_
  rintro e w10 ⟨rfl, hg⟩
  have G10 := Lib.hid (G9.out.trans hg)
  replace HI3 := Lib.hid (HI3.out.grew hg)
  clear hg x1 x9 k0 k1 x8
  go_wp2_with fail
  refine (HEX.out _ _ _ HI3.out).mono ?_
  rintro e w11 ⟨rfl, hg⟩
  have G11 := Lib.hid (G10.out.trans hg)
  clear hg
  go_wp2
  go_returns
  exact ⟨rfl, G11.out⟩
end Go.Proofs.Ytaolallfmjjoeaa.RJ
