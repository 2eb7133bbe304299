/-
  What comes of fixed calls on trades.
  Conditions: those that each lemma names.
-/
import Derived.Test.YtcbaaeihppchiaaPQ
namespace Go.Proofs.Ytcbaaeihppchiaa.PR
set_option maxRecDepth 100000
open Go Go.RowKit Go.Lib Go.Proofs.Ytcbaaeihppchiaa Go.Proofs.Ytcbaaeihppchiaa.Facts Go.Proofs.Ytcbaaeihppchiaa.Ints Go.Proofs.Ytcbaaeihppchiaa.PA Go.Proofs.Ytcbaaeihppchiaa.PB Go.Proofs.Ytcbaaeihppchiaa.PC Go.Proofs.Ytcbaaeihppchiaa.PG Go.Proofs.Ytcbaaeihppchiaa.PM Go.Proofs.Ytcbaaeihppchiaa.PN Go.Proofs.Ytcbaaeihppchiaa.PP Go.Proofs.Ytcbaaeihppchiaa.PQ Go.Proofs.Ytcbaaeihppchiaa.Bytes


def A0 : List Tr := [ztr]
def t0 : Tr := ⟨false, 0, 1, 2, 5, -1, 0, 0, 3⟩
def A1 : List Tr := [⟨true, 0, 1, 2, 5, -1, 0, 0, 3⟩]
theorem p0 : openP A0 t0 = (A1, 0, 0) := by kernel_rfl
theorem p1 : openP A1 t0 = ([], 0, 8) := by kernel_rfl
theorem p2 : openP A1 ⟨false, 0, 1, 0, 0, -1, 0, 0, -1⟩ = ([], 0, 1) := by kernel_rfl
theorem p3 : heldP A1 2 = (5, 0) := by kernel_rfl
theorem p4 : getP A1 0 2 = (ztr, 3) := by kernel_rfl
theorem p5 : getP A1 0 1 = (⟨true, 0, 1, 2, 5, -1, 0, 0, 3⟩, 0) := by kernel_rfl
theorem p6 : shutP A1 0 0 = (A0, 0) := by kernel_rfl
theorem p7 : ofP A1 1 = [0] := by kernel_rfl
theorem p8 : okTs A1 = true := by kernel_rfl
theorem p9 : mayP 2 5 (-1) = true := by kernel_rfl
def MkT (m : Nat) (v : Value) (w : World) : Prop := ∃ A, v = .slice A m m ∧ Trs w (.slice A m m) (List.replicate m ztr)
theorem MkT.grew {m : Nat} {v : Value} {w w' : World} (h : MkT m v w) (hg : Grew w w') : MkT m v w' := by
  obtain ⟨A, e, h⟩ := h
  exact ⟨A, e, h.grew hg⟩
theorem ans3_at {R : List Tr} {k er : Int} {w w' : World} {e : Ending} (n : Nat) (hn : R.length = n) (h : Ans3 (R, k, er) w e w') : ∃ A c, e = .returned (.tuple #[.slice A n c, .int .i64 k, .int .i64 er]) ∧ Hid (Trs w' (.slice A n c) R) ∧ Grew w w' := by
  obtain ⟨v', e1, hi, hg⟩ := h
  obtain ⟨A, c, rfl, _⟩ := hi.slice
  subst hn
  exact ⟨A, c, e1, Lib.hid hi, hg⟩
theorem ans2_at {R : List Tr} {er : Int} {w w' : World} {e : Ending} (n : Nat) (hn : R.length = n) (h : Ans2 (R, er) w e w') : ∃ A c, e = .returned (.tuple #[.slice A n c, .int .i64 er]) ∧ Hid (Trs w' (.slice A n c) R) ∧ Grew w w' := by
  obtain ⟨v', e1, hi, hg⟩ := h
  obtain ⟨A, c, rfl, _⟩ := hi.slice
  subst hn
  exact ⟨A, c, e1, Lib.hid hi, hg⟩
theorem szA : SzT A1 := by
  intro x hx
  simp only [A1, List.mem_cons, List.not_mem_nil, or_false] at hx
  rcases hx with rfl
  decide
theorem atA0 {W : World} {A : Option Addr} {c : Nat} (hi : Trs W (.slice A 1 c) A0) : ∃ ad, A = some ad ∧ W.cell? ad = some (.bool false) := by
  obtain ⟨ad, c9, e9', hc9, d0, _⟩ := Trs_at hi (k := 0) (x := ztr) rfl
  injection e9' with e1' _ e3'
  exact ⟨ad, e1', by simpa [Addr.add, ztr] using d0⟩
def ZT : Array Value := ((List.replicate 1 ztr).flatMap tcs).toArray
set_option maxHeartbeats 4000000 in
theorem alive_any (w : World) : Calls Try.prog 15 #[] w fun e w' => e = .returned (.bool true) ∧ Grew w w' := by
  have HMK : Hid (∀ u : World, (Instr.makeSlice 37 (.int .i64 1) (.int .i64 1)).run Try.prog u = .ok (.slice (some ⟨u.heap.size, 0, none⟩) 1 1) (u.alloc (.cells ZT 42))) := Lib.hid fun u => mk_tr 1 (by decide) u
  have gl : Grew w (w.alloc (.cells #[.bool false, .int .i64 0, .int .i64 1, .int .i64 2, .int .u64 5, .int .i64 (-1), .int .i64 0, .int .u64 0, .int .i64 3] 42)) := by unfold Grew; go_grown
  have G0 := Lib.hid gl
  have B0 := Lib.hid (blk_new w (.cells #[.bool false, .int .i64 0, .int .i64 1, .int .i64 2, .int .u64 5, .int .i64 (-1), .int .i64 0, .int .u64 0, .int .i64 3] 42))
  have HO0 := Lib.hid (fun W v (h : Trs W v A0) => open_any v A0 t0 W h (by decide))
  rw [p0] at HO0
  have HO1 := Lib.hid (fun W A c (h : Trs W (.slice A 1 c) A1) => open_any _ A1 t0 W h (by decide))
  rw [p1] at HO1
  have HO2 := Lib.hid (fun W A c (h : Trs W (.slice A 1 c) A1) => open_any _ A1 ⟨false, 0, 1, 0, 0, -1, 0, 0, -1⟩ W h (by decide))
  rw [p2] at HO2
  have HH3 := Lib.hid (fun W A c (h : Trs W (.slice A 1 c) A1) => held_any _ A1 2 W h (by decide) szA)
  rw [p3] at HH3
  have HG4 := Lib.hid (fun W A c (h : Trs W (.slice A 1 c) A1) => get_any _ A1 0 2 W h (by decide))
  rw [p4] at HG4
  have HG5 := Lib.hid (fun W A c (h : Trs W (.slice A 1 c) A1) => get_any _ A1 0 1 W h (by decide))
  rw [p5] at HG5
  have HS6 := Lib.hid (fun W A c (h : Trs W (.slice A 1 c) A1) => shut_any _ A1 0 0 W h (by decide))
  rw [p6] at HS6
  have HF7 := Lib.hid (fun W A c (h : Trs W (.slice A 1 c) A1) => of_any _ A1 1 W h (by decide))
  rw [p7] at HF7
  have HR8 := Lib.hid (fun W A c (h : Trs W (.slice A 1 c) A1) => trades_any _ A1 W h)
  rw [p8] at HR8
  have HM9 := Lib.hid (fun W => may_any 2 5 (-1) W)
  rw [p9] at HM9
  unfold trv at HO0 HO1 HO2 HG4 HG5
  unfold t0 at HO0 HO1
  unfold ztr at HG4
  unfold two at HH3
  unfold Ans3 at HO0
  simp only at HO0 HO1 HO2 HG4 HG5 HH3
  clear gl
  go_enter Try.func15, Try.ntmps15
  go_wp2
  refine Facts.wp_region_text (by kernel_rfl) (by kernel_rfl) ?_
  refine Facts.Lex.know [] (MkT 1) (by kernel_rfl) (fun _ _ _ h hg => h.grew hg) ?_ ?_
  · intro u W hC hK
    clear hK
    have hmk := HMK.out W
    unfold Facts.one
    go_simp
    exact ⟨by unfold Grew; go_grown, ⟨_, rfl, tr_made1 W A0 (by decide)⟩⟩
  simp only [Act.put, List.setIfInBounds_toArray, List.set_cons_zero, List.set_cons_succ, Nat.zero_add, Nat.reduceAdd]
  apply Facts.Lex.exact [] (.agg #[.bool false, .int .i64 0, .int .i64 1, .int .i64 2, .int .u64 5, .int .i64 (-1), .int .i64 0, .int .u64 0, .int .i64 3]) (by kernel_rfl)
  · intro u W hC hK
    clear hK
    obtain ⟨c0, c1, c2, c3, c4, c5, c6, c7, c8⟩ := nine_c (keepB B0.out hC)
    unfold Facts.one
    go_simp
    first | exact ⟨Grew.refl _, rfl⟩ | rfl
  simp only [Act.put, List.setIfInBounds_toArray, List.set_cons_zero, List.set_cons_succ, Nat.zero_add, Nat.reduceAdd]
  refine Facts.Lex.know [0] (TupT 0 0 A1) (by kernel_rfl) (fun _ _ _ ⟨r, e, h⟩ hg => ⟨r, e, h.grew hg⟩) ?_ ?_
  · intro u W hC hK
    obtain ⟨A3, hA3, hi⟩ : MkT 1 (u 0) W := hK.1
    have HC9 := Lib.hid (HO0.out W _ hi)
    clear hK hi
    unfold Facts.one
    go_simp
    try simp only [hA3]
    refine HC9.out.mono ?_
    rintro e w' ⟨v', rfl, hi, hg⟩
    exact ⟨_, rfl, hg, ⟨v', rfl, hi⟩⟩
  simp only [Act.put, List.setIfInBounds_toArray, List.set_cons_zero, List.set_cons_succ, Nat.zero_add, Nat.reduceAdd]
  refine Facts.Lex.know [2] (TupT 0 0 A1) (by kernel_rfl) (fun _ _ _ ⟨r, e, h⟩ hg => ⟨r, e, h.grew hg⟩) ?_ ?_
  · intro u W hC hK
    have HY : Hid (TupT 0 0 A1 (u 2) W) := Lib.hid hK.1
    clear hK
    unfold Facts.one
    go_simp
    exact ⟨Grew.refl _, HY.out⟩
  simp only [Act.put, List.setIfInBounds_toArray, List.set_cons_zero, List.set_cons_succ, Nat.zero_add, Nat.reduceAdd]
  refine Facts.Lex.know [3] (fun v w => Trs w v A1) (by kernel_rfl) (fun _ _ _ h hg => h.grew hg) ?_ ?_
  · intro u W hC hK
    obtain ⟨v', hv', hi⟩ : TupT 0 0 A1 (u 3) W := hK.1
    have HI := Lib.hid hi
    clear hK hi
    unfold Facts.one
    simp only [hv']
    go_simp
    exact ⟨Grew.refl _, HI.out⟩
  simp only [Act.put, List.setIfInBounds_toArray, List.set_cons_zero, List.set_cons_succ, Nat.zero_add, Nat.reduceAdd]
  apply Facts.Lex.exact [3] (.int .i64 0) (by kernel_rfl)
  · intro u W hC hK
    obtain ⟨v', hv', hi⟩ : TupT 0 0 A1 (u 3) W := hK.1
    have HI := Lib.hid hi
    clear hK hi
    unfold Facts.one
    simp only [hv']
    go_simp
    first | exact ⟨Grew.refl _, rfl⟩ | rfl
  simp only [Act.put, List.setIfInBounds_toArray, List.set_cons_zero, List.set_cons_succ, Nat.zero_add, Nat.reduceAdd]
  apply Facts.Lex.exact [3] (.int .i64 0) (by kernel_rfl)
  · intro u W hC hK
    obtain ⟨v', hv', hi⟩ : TupT 0 0 A1 (u 3) W := hK.1
    have HI := Lib.hid hi
    clear hK hi
    unfold Facts.one
    simp only [hv']
    go_simp
    first | exact ⟨Grew.refl _, rfl⟩ | rfl
  simp only [Act.put, List.setIfInBounds_toArray, List.set_cons_zero, List.set_cons_succ, Nat.zero_add, Nat.reduceAdd]
  refine Facts.Lex.know [4] (fun v w => Trs w v A1) (by kernel_rfl) (fun _ _ _ h hg => h.grew hg) ?_ ?_
  · intro u W hC hK
    have HY : Hid (Trs W (u 4) A1) := Lib.hid hK.1
    clear hK
    unfold Facts.one
    go_simp
    exact ⟨Grew.refl _, HY.out⟩
  simp only [Act.put, List.setIfInBounds_toArray, List.set_cons_zero, List.set_cons_succ, Nat.zero_add, Nat.reduceAdd]
  apply Facts.Lex.exact [] _ (by kernel_rfl)
  · intro u W hC hK
    clear hK
    unfold Facts.one
    go_simp
    first | exact ⟨Grew.refl _, rfl⟩ | rfl
  simp only [Act.put, List.setIfInBounds_toArray, List.set_cons_zero, List.set_cons_succ, Nat.zero_add, Nat.reduceAdd]
  apply Facts.Lex.exact [] _ (by kernel_rfl)
  · intro u W hC hK
    clear hK
    unfold Facts.one
    go_simp
    first | exact ⟨Grew.refl _, rfl⟩ | rfl
  simp only [Act.put, List.setIfInBounds_toArray, List.set_cons_zero, List.set_cons_succ, Nat.zero_add, Nat.reduceAdd]
  refine Facts.Lex.done fun u W2 hC hL => ?_
  have HI1 : Hid (Trs W2 (u 7) A1) := Lib.hid (hL _ (List.mem_cons_self ..))
  have G1 := Lib.hid (G0.out.trans hC)
  have B1 := Lib.hid (keepB B0.out hC)
  clear hC hL
  generalize u 7 = v7 at *
  obtain ⟨A1', c1, rfl, _⟩ := HI1.out.slice
  have hl1 : A1.length = 1 := rfl
  rw [hl1] at HI1 ⊢
  clear hl1 HMK HO0 G0 B0
  obtain ⟨c0, c1, c2, c3, c4, c5, c6, c7, c8⟩ := nine_c B1.out
  go_wp2_with fail
  refine (HO1.out _ _ _ HI1.out).mono ?_
  rintro e w2 ha
  obtain ⟨A2, c2', rfl, HI2, hg⟩ := ans3_at 0 rfl ha
  have G2 := Lib.hid (G1.out.trans hg)
  have B2 := Lib.hid (keepB B1.out hg)
  replace HI1 := Lib.hid (HI1.out.grew hg)
  clear ha hg HO1 G1 HI2 B1 c0 c1 c2 c3 c4 c5 c6 c7 c8
  go_wp2_with fail
  refine (HO2.out _ _ _ HI1.out).mono ?_
  rintro e w3 ha
  obtain ⟨A3, c3', rfl, HI3, hg⟩ := ans3_at 0 rfl ha
  have G3 := Lib.hid (G2.out.trans hg)
  have B3 := Lib.hid (keepB B2.out hg)
  replace HI1 := Lib.hid (HI1.out.grew hg)
  clear ha hg HO2 G2 HI3 B2
  go_wp2_with fail
  refine (HH3.out _ _ _ HI1.out).mono ?_
  rintro e w4 ⟨rfl, hg⟩
  have G4 := Lib.hid (G3.out.trans hg)
  have B4 := Lib.hid (keepB B3.out hg)
  replace HI1 := Lib.hid (HI1.out.grew hg)
  clear hg HH3 G3 B3
  go_wp2_with fail
  refine (HG4.out _ _ _ HI1.out).mono ?_
  rintro e w5 ⟨rfl, hg⟩
  have g6 : Grew w5 (w5.alloc (.cells #[.bool false, .int .i64 0, .int .i64 0, .int .i64 0, .int .u64 0, .int .i64 0, .int .i64 0, .int .u64 0, .int .i64 0] 42)) := by unfold Grew; go_grown
  have G6 := Lib.hid ((G4.out.trans hg).trans g6)
  have B6 := Lib.hid (keepB (keepB B4.out hg) g6)
  replace HI1 := Lib.hid ((HI1.out.grew hg).grew g6)
  clear hg g6 HG4 G4 B4
  go_wp2_with fail
  refine (HG5.out _ _ _ HI1.out).mono ?_
  rintro e w7 ⟨rfl, hg⟩
  have g8 : Grew w7 (w7.alloc (.cells #[.bool true, .int .i64 0, .int .i64 1, .int .i64 2, .int .u64 5, .int .i64 (-1), .int .i64 0, .int .u64 0, .int .i64 3] 42)) := by unfold Grew; go_grown
  have G8 := Lib.hid ((G6.out.trans hg).trans g8)
  have B8 := Lib.hid (keepB (keepB B6.out hg) g8)
  have D8 := Lib.hid (blk_new w7 (.cells #[.bool true, .int .i64 0, .int .i64 1, .int .i64 2, .int .u64 5, .int .i64 (-1), .int .i64 0, .int .u64 0, .int .i64 3] 42))
  replace HI1 := Lib.hid ((HI1.out.grew hg).grew g8)
  clear hg g8 HG5 G6 B6
  go_wp2_with fail
  refine (HS6.out _ _ _ HI1.out).mono ?_
  rintro e w9 ha
  obtain ⟨A9, c9, rfl, HI9, hg⟩ := ans2_at 1 rfl ha
  have G9 := Lib.hid (G8.out.trans hg)
  have B9 := Lib.hid (keepB B8.out hg)
  have D9 := Lib.hid (keepB D8.out hg)
  replace HI1 := Lib.hid (HI1.out.grew hg)
  clear ha hg HS6 G8 B8 D8
  obtain ⟨c0, c1, c2, c3, c4, c5, c6, c7, c8⟩ := nine_c D9.out
  obtain ⟨ad9, rfl, x9⟩ := atA0 HI9.out
  go_wp2_with fail
  refine (HF7.out _ _ _ HI1.out).mono ?_
  rintro e w10 ⟨V8, rfl, hi8, hg⟩
  obtain ⟨A8, c8', rfl, _⟩ := Is.slice hi8
  have hl8 : ([0] : List Int).length = 1 := rfl
  rw [hl8]
  have G10 := Lib.hid (G9.out.trans hg)
  have B10 := Lib.hid (keepB B9.out hg)
  replace HI1 := Lib.hid (HI1.out.grew hg)
  clear hi8 hg HF7 G9 B9 hl8 x9 c0 c1 c2 c3 c4 c5 c6 c7 c8
  go_wp2_with fail
  refine (HR8.out _ _ _ HI1.out).mono ?_
  rintro e w11 ⟨rfl, hg⟩
  have G11 := Lib.hid (G10.out.trans hg)
  have B11 := Lib.hid (keepB B10.out hg)
  clear hg G10 B10
  obtain ⟨c0, c1, c2, c3, c4, c5, c6, c7, c8⟩ := nine_c B11.out
  go_wp2_with fail
  refine (HM9.out _).mono ?_
  rintro e w12 ⟨rfl, hg⟩
  have G12 := Lib.hid (G11.out.trans hg)
  clear hg c0 c1 c2 c3 c4 c5 c6 c7 c8
  go_wp2
  go_returns
  exact ⟨rfl, G12.out⟩
end Go.Proofs.Ytcbaaeihppchiaa.PR
