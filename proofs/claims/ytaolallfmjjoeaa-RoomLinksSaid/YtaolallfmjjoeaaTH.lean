/-
  What is put into a row of items, at a slot or at the first free one.
  Conditions: those that each lemma names.
-/
import Derived.Test.YtaolallfmjjoeaaTG
namespace Go.Proofs.Ytaolallfmjjoeaa.TH
set_option maxRecDepth 100000
open Go Go.RowKit Go.Lib Go.Proofs.Ytaolallfmjjoeaa Go.Proofs.Ytaolallfmjjoeaa.Facts Go.Proofs.Ytaolallfmjjoeaa.Ints Go.Proofs.Ytaolallfmjjoeaa.TI Go.Proofs.Ytaolallfmjjoeaa.TP Go.Proofs.Ytaolallfmjjoeaa.TB Go.Proofs.Ytaolallfmjjoeaa.TC Go.Proofs.Ytaolallfmjjoeaa.TD Go.Proofs.Ytaolallfmjjoeaa.TE Go.Proofs.Ytaolallfmjjoeaa.TF Go.Proofs.Ytaolallfmjjoeaa.TG Go.Proofs.Ytaolallfmjjoeaa.Bytes


theorem ics_set (x : It) : ∀ (T : List It) (k : Nat), (((((((T.flatMap ics).set (k * 6) (.bool x.used)).set (k * 6 + 1) (.string x.name)).set (k * 6 + 2) (.int .i64 x.kind)).set (k * 6 + 3) (.int .i64 x.who)).set (k * 6 + 4) (.int .i64 x.lab)).set (k * 6 + 5) (.int .i64 x.slot)) = (T.set k x).flatMap ics
  | [], k => by simp
  | y :: T, 0 => by
    simp only [List.flatMap_cons, List.set_cons_zero]
    rfl
  | y :: T, k + 1 => by
    have ih := ics_set x T k
    have e : (y :: T).flatMap ics = .bool y.used :: .string y.name :: .int .i64 y.kind :: .int .i64 y.who :: .int .i64 y.lab :: .int .i64 y.slot :: T.flatMap ics := rfl
    rw [e, show (k + 1) * 6 = k * 6 + 1 + 1 + 1 + 1 + 1 + 1 by omega]
    simp only [show ∀ j : Nat, k * 6 + 1 + 1 + 1 + 1 + 1 + 1 + j = (k * 6 + j) + 1 + 1 + 1 + 1 + 1 + 1 from fun j => by omega, List.set_cons_succ]
    rw [ih]
    rfl
theorem it_kept {W : World} {B : Nat} {x : It} (h : W.heap[B]? = some (.cells #[.bool x.used, .string x.name, .int .i64 x.kind, .int .i64 x.who, .int .i64 x.lab, .int .i64 x.slot] 67 (0, 0))) :
    W.cell? ⟨B, 0, none⟩ = some (.bool x.used) ∧ W.cell? ⟨B, 1, none⟩ = some (.string x.name) ∧ W.cell? ⟨B, 2, none⟩ = some (.int .i64 x.kind) ∧ W.cell? ⟨B, 3, none⟩ = some (.int .i64 x.who) ∧ W.cell? ⟨B, 4, none⟩ = some (.int .i64 x.lab) ∧ W.cell? ⟨B, 5, none⟩ = some (.int .i64 x.slot) := it_cells h

theorem put_any (w : World) (b : Nat) (T : List It) (k : Nat) (x : It) (h : Row w b T) (hk : k < T.length) (hl : T.length ≤ 1000) :
    Calls Try.prog 67 #[.pointer (some ⟨b, 0, none⟩), .int .i64 k, iv6 x] w fun e w' => ∃ v', e = .returned (.tuple #[v', .int .i64 0]) ∧ Its w' v' (T.set k x) ∧ Grew w w' := by
  have hi6 : iv6 x = .agg #[.bool x.used, .string x.name, .int .i64 x.kind, .int .i64 x.who, .int .i64 x.lab, .int .i64 x.slot] := rfl
  rw [hi6]
  clear hi6
  have ga : Grew w (w.alloc (.cells #[.bool x.used, .string x.name, .int .i64 x.kind, .int .i64 x.who, .int .i64 x.lab, .int .i64 x.slot] 67)) := by unfold Grew; go_grown
  have hbx : (w.alloc (.cells #[.bool x.used, .string x.name, .int .i64 x.kind, .int .i64 x.who, .int .i64 x.lab, .int .i64 x.slot] 67)).heap[w.heap.size]? = some (.cells #[.bool x.used, .string x.name, .int .i64 x.kind, .int .i64 x.who, .int .i64 x.lab, .int .i64 x.slot] 67 (0, 0)) := blk_new w _
  obtain ⟨sv, h1, h2⟩ := h.grew ga
  have HM := Lib.hid (made_row _ b sv h1)
  have HC := Lib.hid (clone_any _ sv T h2 hl)
  obtain ⟨c0, c1⟩ := two_cells h1
  obtain ⟨A, c, rfl, hlc, hcm, _⟩ := h2
  have HGA := Lib.hid ga
  have HBX := Lib.hid hbx
  clear h1 h ga hbx
  unfold maxLen at hcm
  have hk0 : ¬ ((k : Int) < 0) := by omega
  have hk1 : ¬ ((T.length : Int) ≤ k) := by omega
  go_enter Try.func67, Try.ntmps67
  go_wp2_with fail
  refine HM.out.mono ?_
  rintro e w' ⟨rfl, hw⟩
  subst hw
  go_wp2_with fail
  refine HC.out.mono ?_
  rintro e w1 ⟨v', rfl, hown, hg⟩
  obtain ⟨x0, x1, x2, x3, x4, x5⟩ := it_kept (blk_keep HBX.out hg)
  obtain ⟨g, cap, rfl, hbg, hgl⟩ := hown.form (by omega)
  have r0 := hown.cellAt (k * 6 + 0) (by omega)
  rw [flat_get ics 6 (fun _ => rfl) T k 0 (el T k) (by unfold el; rw [List.getElem?_eq_getElem hk]; rfl) (by decide)] at r0
  have f0 := hown.frozenAt (k * 6 + 0)
  have r1 := hown.cellAt (k * 6 + 1) (by omega)
  rw [flat_get ics 6 (fun _ => rfl) T k 1 (el T k) (by unfold el; rw [List.getElem?_eq_getElem hk]; rfl) (by decide)] at r1
  have f1 := hown.frozenAt (k * 6 + 1)
  have r2 := hown.cellAt (k * 6 + 2) (by omega)
  rw [flat_get ics 6 (fun _ => rfl) T k 2 (el T k) (by unfold el; rw [List.getElem?_eq_getElem hk]; rfl) (by decide)] at r2
  have f2 := hown.frozenAt (k * 6 + 2)
  have r3 := hown.cellAt (k * 6 + 3) (by omega)
  rw [flat_get ics 6 (fun _ => rfl) T k 3 (el T k) (by unfold el; rw [List.getElem?_eq_getElem hk]; rfl) (by decide)] at r3
  have f3 := hown.frozenAt (k * 6 + 3)
  have r4 := hown.cellAt (k * 6 + 4) (by omega)
  rw [flat_get ics 6 (fun _ => rfl) T k 4 (el T k) (by unfold el; rw [List.getElem?_eq_getElem hk]; rfl) (by decide)] at r4
  have f4 := hown.frozenAt (k * 6 + 4)
  have r5 := hown.cellAt (k * 6 + 5) (by omega)
  rw [flat_get ics 6 (fun _ => rfl) T k 5 (el T k) (by unfold el; rw [List.getElem?_eq_getElem hk]; rfl) (by decide)] at r5
  have f5 := hown.frozenAt (k * 6 + 5)
  obtain ⟨s0, _⟩ := hown.stored (k * 6) (.bool x.used)
  obtain ⟨s1, _⟩ := s0.stored (k * 6 + 1) (.string x.name)
  obtain ⟨s2, _⟩ := s1.stored (k * 6 + 2) (.int .i64 x.kind)
  obtain ⟨s3, _⟩ := s2.stored (k * 6 + 3) (.int .i64 x.who)
  obtain ⟨s4, _⟩ := s3.stored (k * 6 + 4) (.int .i64 x.lab)
  obtain ⟨s5, _⟩ := s4.stored (k * 6 + 5) (.int .i64 x.slot)
  rw [ics_set] at s5
  have HS := Lib.hid s5
  have hgw : w.heap.size ≤ g := by rw [World.size_alloc] at hbg; omega
  have HG : Hid (Below w.heap.size w ((((((w1.setCell ⟨g, k * 6, none⟩ (.bool x.used)).setCell ⟨g, k * 6 + 1, none⟩ (.string x.name)).setCell ⟨g, k * 6 + 2, none⟩ (.int .i64 x.kind)).setCell ⟨g, k * 6 + 3, none⟩ (.int .i64 x.who)).setCell ⟨g, k * 6 + 4, none⟩ (.int .i64 x.lab)).setCell ⟨g, k * 6 + 5, none⟩ (.int .i64 x.slot))) := Lib.hid (by
    exact (((((((show Below w.heap.size w w1 from HGA.out.trans hg).setCell (p := ⟨g, k * 6, none⟩) hgw _).setCell (p := ⟨g, k * 6 + 1, none⟩) hgw _).setCell (p := ⟨g, k * 6 + 2, none⟩) hgw _).setCell (p := ⟨g, k * 6 + 3, none⟩) hgw _).setCell (p := ⟨g, k * 6 + 4, none⟩) hgw _).setCell (p := ⟨g, k * 6 + 5, none⟩) hgw _))
  clear hown s0 s1 s2 s3 s4 s5 hg c0 c1 hgw
  simp only [ics, List.getElem?_cons_zero, List.getElem?_cons_succ, Nat.add_zero] at r0 r1 r2 r3 r4 r5 f0
  generalize el T k = y at *
  go_wp2
  go_returns
  refine ⟨_, rfl, ?_, HG.out⟩
  show Rw _ _ (T.set k x).length _
  rw [List.length_set]
  exact Rw.of_own HS.out (fun h0 => absurd hk (by omega))

/-- The first slot that is free. -/
def free (l : List It) : Int := fidx l fun x => !x.used
theorem free_cases (l : List It) : free l = -1 ∨ ∃ k : Nat, free l = k ∧ k < l.length := by
  rcases fidx_cases l (fun x => !x.used) with ⟨h, _⟩ | ⟨k, hk, h, _⟩
  · exact .inl h
  · exact .inr ⟨k, h, hk⟩
/-- What First answers. -/
def fv (z : Int) : Value := if z = -1 then .tuple #[.int .i64 0, .int .i64 8] else .tuple #[.int .i64 z, .int .i64 0]
theorem fv_no : fv (-1) = .tuple #[.int .i64 0, .int .i64 8] := rfl
theorem fv_at (k : Nat) : fv k = .tuple #[.int .i64 k, .int .i64 0] := if_neg (by omega)
theorem first_any (w : World) (b : Nat) (T : List It) (h : Row w b T) (hl : T.length ≤ 1000) :
    Calls Try.prog 97 #[.pointer (some ⟨b, 0, none⟩)] w fun e w' => e = .returned (fv (free T)) ∧ Grew w w' := by
  have HR := Lib.hid h
  obtain ⟨sv, h1, h2⟩ := h
  have HM := Lib.hid (made_row w b sv h1)
  obtain ⟨c0, c1⟩ := two_cells h1
  obtain ⟨A, c, rfl, hlc, hcm, _⟩ := h2
  clear h1
  have HH := Lib.hid (fun k x => @fidx_hit It T (fun x => !x.used) k x)
  have HN := Lib.hid (@fidx_miss It T (fun x => !x.used))
  unfold free
  generalize fidx T (fun x => !x.used) = res at *
  unfold maxLen at hcm
  go_enter Try.func97, Try.ntmps97
  go_wp2_with fail
  refine HM.out.mono ?_
  rintro e w' ⟨rfl, hw⟩
  subst hw
  go_wp2
  clear c0 c1
  go_loopg [13] T.length (fun g s13 wx => ∃ k : Nat, k + g = T.length ∧ s13 = .int .i64 k ∧ Hid (∀ j y, j < k → T[j]? = some y → (!y.used) = false) ∧ Hid (Grew w' wx))
  case atStart => exact ⟨0, by omega, rfl, Lib.hid (fun j y h => absurd h (by omega)), Lib.hid (Grew.refl _)⟩
  case round =>
    obtain ⟨k, hkg, rfl, HJ, HG⟩ := hrel
    cases gk with
    | zero =>
      have hkz : ¬ ((k : Int) < (T.length : Int)) := by omega
      have HE : Hid (res = -1) := Lib.hid (HN.out fun j y hy => HJ.out j y (by have := (List.getElem?_eq_some_iff.1 hy).1; omega) hy)
      go_wp2
      go_returns
      refine ⟨?_, HG.out⟩
      rw [HE.out, fv_no]
      rfl
    | succ g =>
      have hkz : (k : Int) < (T.length : Int) := by omega
      have hkl : k < T.length := by omega
      have hx : T[k]? = some (el T k) := by unfold el; rw [List.getElem?_eq_getElem hkl]; rfl
      have HX := Lib.hid hx
      have HC := Lib.hid (has_in wr b T k (HR.out.grew HG.out) hkl)
      have hkw := wr1 hkl hl
      generalize el T k = x at HX HC
      clear hx
      cases hu : x.used with
      | false =>
        rw [hu] at HC
        have HE : Hid (res = k) := Lib.hid (HH.out _ _ HX.out (by rw [hu]; rfl) HJ.out)
        clear HX hu
        go_wp2_with fail
        refine HC.out.mono ?_
        rintro e w2 ⟨rfl, hg⟩
        have G2 := Lib.hid (HG.out.trans hg)
        clear hg
        go_wp2
        go_returns
        refine ⟨?_, G2.out⟩
        rw [HE.out, fv_at]
        rfl
      | true =>
        rw [hu] at HC
        have HN2 : Hid (∀ j y, j < k + 1 → T[j]? = some y → (!y.used) = false) := Lib.hid fun j y hj hy => by
          by_cases hjk : j = k
          · subst hjk
            rw [HX.out] at hy
            cases hy
            rw [hu]
            rfl
          · exact HJ.out j y (by omega) hy
        clear HX hu
        go_wp2_with fail
        refine HC.out.mono ?_
        rintro e w2 ⟨rfl, hg⟩
        have G2 := Lib.hid (HG.out.trans hg)
        clear hg
        go_wp2
        go_roundg g
        case measure => omega
        case rel => exact ⟨k + 1, by omega, by simp, HN2, G2⟩
theorem add_any (w : World) (b : Nat) (T : List It) (x : It) (h : Row w b T) (hl : T.length ≤ 1000) :
    Calls Try.prog 58 #[.pointer (some ⟨b, 0, none⟩), iv6 x] w fun e w' => ∃ v', e = .returned (.tuple #[v', .int .i64 (if free T = -1 then 0 else free T), .int .i64 (if free T = -1 then 8 else 0)]) ∧ Its w' v' (if free T = -1 then [] else T.set (free T).toNat x) ∧ Grew w w' := by
  have hi6 : iv6 x = .agg #[.bool x.used, .string x.name, .int .i64 x.kind, .int .i64 x.who, .int .i64 x.lab, .int .i64 x.slot] := rfl
  have HPUT := Lib.hid (fun W k (hr : Row W b T) hk => put_any W b T k x hr hk hl)
  rw [hi6] at HPUT
  rw [hi6]
  clear hi6
  have ga : Grew w (w.alloc (.cells #[.bool x.used, .string x.name, .int .i64 x.kind, .int .i64 x.who, .int .i64 x.lab, .int .i64 x.slot] 67)) := by unfold Grew; go_grown
  have hbx : (w.alloc (.cells #[.bool x.used, .string x.name, .int .i64 x.kind, .int .i64 x.who, .int .i64 x.lab, .int .i64 x.slot] 67)).heap[w.heap.size]? = some (.cells #[.bool x.used, .string x.name, .int .i64 x.kind, .int .i64 x.who, .int .i64 x.lab, .int .i64 x.slot] 67 (0, 0)) := blk_new w _
  have HF := Lib.hid (first_any _ b T (h.grew ga) hl)
  have HR := Lib.hid (h.grew ga)
  have GA := Lib.hid ga
  have BX := Lib.hid hbx
  clear h ga hbx
  rcases free_cases T with e | ⟨k, e, hk⟩
  · rw [e, fv_no] at HF
    rw [e]
    simp only [if_true]
    clear e HPUT
    go_enter Try.func58, Try.ntmps58
    go_wp2_with fail
    refine HF.out.mono ?_
    rintro e w1 ⟨rfl, hg⟩
    have G1 := Lib.hid (GA.out.trans hg)
    clear hg
    go_wp2
    go_returns
    exact ⟨_, rfl, rw_none _, G1.out⟩
  · have hkn : ¬ (k : Int) = -1 := by omega
    rw [e, fv_at] at HF
    rw [e]
    rw [if_neg hkn, if_neg hkn, if_neg hkn, Int.toNat_natCast]
    have HPK := Lib.hid (fun W hr => HPUT.out W k hr hk)
    clear e hkn hk HPUT
    generalize T.set k x = R at *
    go_enter Try.func58, Try.ntmps58
    go_wp2_with fail
    refine HF.out.mono ?_
    rintro e w1 ⟨rfl, hg⟩
    have G1 := Lib.hid (GA.out.trans hg)
    have HP := Lib.hid (HPK.out w1 (HR.out.grew hg))
    obtain ⟨x0, x1, x2, x3, x4, x5⟩ := it_kept (blk_keep BX.out hg)
    clear hg
    go_wp2_with fail
    refine HP.out.mono ?_
    rintro e w2 ⟨v', rfl, hi, hg⟩
    have G2 := Lib.hid (G1.out.trans hg)
    have HI := Lib.hid hi
    obtain ⟨A, c, rfl, _⟩ := hi.slice
    clear hi hg x0 x1 x2 x3 x4 x5
    go_wp2
    go_returns
    exact ⟨_, rfl, HI.out, G2.out⟩
end Go.Proofs.Ytaolallfmjjoeaa.TH
