/-
  Of any row all is told, and what comes of putting and adding: QuotaTells answers true.
  Conditions: a row's size.
-/
import Derived.Test.YtojoefdahkgojabAlive
namespace Go.Proofs.Ytojoefdahkgojab.TellsLaw
open Go Go.RowKit Go.Lib Go.Proofs.Ytojoefdahkgojab Go.Proofs.Ytojoefdahkgojab.Facts Go.Proofs.Ytojoefdahkgojab.Bytes Go.Proofs.Ytojoefdahkgojab.Ints Go.Proofs.Ytojoefdahkgojab.Slot Go.Proofs.Ytojoefdahkgojab.Row Go.Proofs.Ytojoefdahkgojab.Refs Go.Proofs.Ytojoefdahkgojab.Alive

theorem same_ints (w : World) (v v2 : Value) (l : List Int) (h : Is w v l) (h2 : Is w v2 l) : Calls Try.prog 13 #[v, v2] w fun e w' => e = .returned (.bool true) ∧ Grew w w' := by
  have := ints_any w v v2 l l h h2
  rwa [decide_eq_true rfl] at this
theorem firstErr_cases (l : List Int) : (∃ k, first l = some k ∧ firstErr l = 0 ∧ firstAt l = k) ∨ first l = none ∧ firstErr l = 8 ∧ firstAt l = 0 := by
  unfold firstErr firstAt
  cases h : first l with
  | none => exact .inr ⟨rfl, rfl, rfl⟩
  | some k => exact .inl ⟨k, rfl, rfl, rfl⟩
theorem putL_first (l : List Int) (k : Nat) (x : Int) (h : first l = some k) : putL l k x = addL l x ∧ putE l k = 0 := by
  have := (first_lt h).1
  unfold putL putE addL
  rw [h, if_pos (by omega), if_pos (by omega), Int.toNat_natCast]
  exact ⟨rfl, rfl⟩
/-- What Has is held against. -/
theorem has_neg (l : List Int) (i : Int) (h : i < 0) : has l i = false := by
  unfold has; rw [decide_eq_false (by omega)]; rfl
theorem has_big (l : List Int) (i : Int) (h : (l.length : Int) ≤ i) : has l i = false := by
  unfold has; rw [decide_eq_false (show ¬ i < (l.length : Int) by omega)]; simp
theorem has_at (l : List Int) (k : Nat) (h : k < l.length) : has l k = (l[k]?.getD 0 != 0) := by
  unfold has at_; rw [decide_eq_true (by omega), decide_eq_true (by omega), Int.toNat_natCast]; rfl

set_option maxRecDepth 100000 in
set_option maxHeartbeats 4000000 in
theorem law_full_in (w : World) (v : Value) (l : List Int) (i : Nat) (x : Int) (h : Is w v l) (hl : l.length * 8 ≤ 140737488351232) (hi : i < l.length) (hf : first l = none) :
    Calls Try.prog 3 #[v, .int .i64 i, .int .i64 x] w fun e w' => e = .returned (.bool true) ∧ Grew w w' := by
  have HIS := Lib.hid h
  have HOF := Lib.hid (of_any w v l h (by omega))
  have H8 : Hid (∀ W b, Row W b l → Calls Try.prog 8 #[.pointer (some ⟨b, 0, none⟩)] W fun e w' => e = .returned (.tuple #[.int .i64 (firstAt l), .int .i64 (firstErr l)]) ∧ Grew W w') := Lib.hid fun W b hr => first_any W b l hr
  have H9 : Hid (∀ W, Grew w W → Calls Try.prog 9 #[v] W fun e w' => e = .returned (.tuple #[.int .i64 (firstAt l), .int .i64 (firstErr l)]) ∧ w' = W) := Lib.hid fun W hg => rfirst_any W v l (h.grew hg)
  have H10 : Hid (∀ W b, Row W b l → Calls Try.prog 10 #[.pointer (some ⟨b, 0, none⟩), .int .i64 i, .int .i64 x] W (Puts W (putL l i x) (putE l i))) := Lib.hid fun W b hr => put_any W b l i x hr hl
  have H11 : Hid (∀ W, Grew w W → Calls Try.prog 11 #[v, .int .i64 i, .int .i64 x] W (Puts W (putL l i x) (putE l i))) := Lib.hid fun W hg => rput_any W v l i x (h.grew hg) hl
  have H12 : Hid (∀ W b, Row W b l → Calls Try.prog 12 #[.pointer (some ⟨b, 0, none⟩), .int .i64 x] W (Adds W l x)) := Lib.hid fun W b hr => add_any W b l x hr hl
  have H15 : Hid (∀ W b, Row W b l → Calls Try.prog 15 #[.pointer (some ⟨b, 0, none⟩)] W fun e w' => ∃ v', e = .returned v' ∧ Is w' v' (slots l) ∧ Grew W w') := Lib.hid fun W b hr => slots_any W b l hr hl
  have H16 : Hid (∀ W, Grew w W → Calls Try.prog 16 #[v] W fun e w' => ∃ v', e = .returned v' ∧ Is w' v' (slots l) ∧ Grew W w') := Lib.hid fun W hg => rslots_any W v l (h.grew hg) hl
  have H17 : Hid (∀ W b, Row W b l → Calls Try.prog 17 #[.pointer (some ⟨b, 0, none⟩)] W fun e w' => e = .returned (.int .i64 ((slots l).length : Int)) ∧ Grew W w') := Lib.hid fun W b hr => count_any W b l hr hl
  have H18 : Hid (∀ W b, Row W b l → Calls Try.prog 18 #[.pointer (some ⟨b, 0, none⟩), .int .i64 i] W fun e w' => e = .returned (.bool (has l i)) ∧ Grew W w') := Lib.hid fun W b hr => has_any W b l i hr
  obtain ⟨hfe, hfa⟩ : firstErr l = 8 ∧ firstAt l = 0 := by
    unfold firstErr firstAt
    rw [hf]
    exact ⟨rfl, rfl⟩
  have hal : addL l x = [] := by unfold addL; rw [hf]
  have HAL := Lib.hid hal
  rw [hfe, hfa] at H8 H9
  have HAD : Hid (∀ W b, Row W b l → Calls Try.prog 12 #[.pointer (some ⟨b, 0, none⟩), .int .i64 x] W fun e w' => e = .returned (.tuple #[.slice none 0 0, .int .i64 0, .int .i64 8]) ∧ Grew W w') := Lib.hid fun W b hr => add_full W b l x hr hf
  clear hfe hfa hal H12
  rw [has_at l i hi] at H18
  have hi' : (i : Int) < (l.length : Int) := by omega
  obtain ⟨ad, cx, hv, _, hc0⟩ := h.cell hi
  have HCELL := Lib.hid hc0
  clear hc0
  generalize l[i]?.getD 0 = xi at H18 HCELL
  generalize putL l i x = pl at *
  generalize putE l i = pe at *
  generalize slots l = sl at *
  subst hv
  clear h
  clear hl hf
  go_enter Try.func3, Try.ntmps3
  go_wp2_with fail
  refine (HOF.out).mono ?_
  rintro e w1 ⟨b, rfl, hr, hg⟩
  have HR := Lib.hid hr
  have G1 := Lib.hid hg
  have K1 := Lib.hid (Grew.refl w1)
  clear hr hg
  go_wp2_with fail
  refine (H8.out _ _ (HR.out.grew K1.out)).mono ?_
  rintro e w2 ⟨rfl, hg⟩
  have G2 := Lib.hid (G1.out.trans hg)
  have K2 := Lib.hid (K1.out.trans hg)
  clear hg
  go_wp2_with fail
  refine (H9.out _ G2.out).mono ?_
  rintro e w3 ⟨rfl, hw⟩
  subst hw
  go_wp2_with fail
  refine (H10.out _ _ (HR.out.grew K2.out)).mono ?_
  rintro e w4 ⟨A1, c1, rfl, hI, hg⟩
  have I4 := Lib.hid hI
  have G4 := Lib.hid (G2.out.trans hg)
  have K4 := Lib.hid (K2.out.trans hg)
  clear hg hI
  go_wp2_with fail
  refine (H11.out _ G4.out).mono ?_
  rintro e w5 ⟨A2, c2, rfl, hI, hg⟩
  have I5 := Lib.hid hI
  have J5 := Lib.hid (I4.out.grew hg)
  have G5 := Lib.hid (G4.out.trans hg)
  have K5 := Lib.hid (K4.out.trans hg)
  clear hg hI
  go_wp2_with fail
  refine (HAD.out _ _ (HR.out.grew K5.out)).mono ?_
  rintro e w6 ⟨rfl, hg⟩
  have I6 := Lib.hid (I5.out.grew hg)
  have J6 := Lib.hid (J5.out.grew hg)
  have G6 := Lib.hid (G5.out.trans hg)
  have K6 := Lib.hid (K5.out.trans hg)
  clear hg
  go_wp2_with fail
  refine (same_ints _ _ _ _ J6.out I6.out).mono ?_
  rintro e w7 ⟨rfl, hg⟩
  have G7 := Lib.hid (G6.out.trans hg)
  have K7 := Lib.hid (K6.out.trans hg)
  clear hg
  go_wp2_with fail
  refine (alive_any _).mono ?_
  rintro e w8 ⟨rfl, hg⟩
  have G8 := Lib.hid (G7.out.trans hg)
  have K8 := Lib.hid (K7.out.trans hg)
  clear hg
  go_wp2_with fail
  refine (H15.out _ _ (HR.out.grew K8.out)).mono ?_
  rintro e w9 ⟨v1, rfl, hI, hg⟩
  have IA := Lib.hid hI
  have G9 := Lib.hid (G8.out.trans hg)
  have K9 := Lib.hid (K8.out.trans hg)
  clear hg hI
  go_wp2_with fail
  refine (H16.out _ G9.out).mono ?_
  rintro e w10 ⟨v2, rfl, hI, hg⟩
  have IB := Lib.hid hI
  have IC := Lib.hid (IA.out.grew hg)
  have G10 := Lib.hid (G9.out.trans hg)
  have K10 := Lib.hid (K9.out.trans hg)
  clear hg hI
  go_wp2_with fail
  refine (same_ints _ _ _ _ IC.out IB.out).mono ?_
  rintro e w11 ⟨rfl, hg⟩
  have G11 := Lib.hid (G10.out.trans hg)
  have K11 := Lib.hid (K10.out.trans hg)
  clear hg
  go_wp2_with fail
  refine (H17.out _ _ (HR.out.grew K11.out)).mono ?_
  rintro e w12 ⟨rfl, hg⟩
  have G12 := Lib.hid (G11.out.trans hg)
  have K12 := Lib.hid (K11.out.trans hg)
  clear hg
  go_wp2_with fail
  refine (H16.out _ G12.out).mono ?_
  rintro e w13 ⟨v3, rfl, hI, hg⟩
  obtain ⟨A5, c5, rfl, _⟩ := hI
  have G13 := Lib.hid (G12.out.trans hg)
  have K13 := Lib.hid (K12.out.trans hg)
  clear hg
  go_wp2_with fail
  refine (H18.out _ _ (HR.out.grew K13.out)).mono ?_
  rintro e w14 ⟨rfl, hg⟩
  have G14 := Lib.hid (G13.out.trans hg)
  have K14 := Lib.hid (K13.out.trans hg)
  clear hg
  have hcl := cellG G14.out HCELL.out
  go_wp2
  go_returns
  exact ⟨rfl, G14.out⟩

set_option maxRecDepth 100000 in
set_option maxHeartbeats 4000000 in
theorem law_full_neg (w : World) (v : Value) (l : List Int) (i : Int) (x : Int) (h : Is w v l) (hl : l.length * 8 ≤ 140737488351232) (hi : i < 0) (hf : first l = none) :
    Calls Try.prog 3 #[v, .int .i64 i, .int .i64 x] w fun e w' => e = .returned (.bool true) ∧ Grew w w' := by
  have HIS := Lib.hid h
  have HOF := Lib.hid (of_any w v l h (by omega))
  have H8 : Hid (∀ W b, Row W b l → Calls Try.prog 8 #[.pointer (some ⟨b, 0, none⟩)] W fun e w' => e = .returned (.tuple #[.int .i64 (firstAt l), .int .i64 (firstErr l)]) ∧ Grew W w') := Lib.hid fun W b hr => first_any W b l hr
  have H9 : Hid (∀ W, Grew w W → Calls Try.prog 9 #[v] W fun e w' => e = .returned (.tuple #[.int .i64 (firstAt l), .int .i64 (firstErr l)]) ∧ w' = W) := Lib.hid fun W hg => rfirst_any W v l (h.grew hg)
  have H10 : Hid (∀ W b, Row W b l → Calls Try.prog 10 #[.pointer (some ⟨b, 0, none⟩), .int .i64 i, .int .i64 x] W (Puts W (putL l i x) (putE l i))) := Lib.hid fun W b hr => put_any W b l i x hr hl
  have H11 : Hid (∀ W, Grew w W → Calls Try.prog 11 #[v, .int .i64 i, .int .i64 x] W (Puts W (putL l i x) (putE l i))) := Lib.hid fun W hg => rput_any W v l i x (h.grew hg) hl
  have H12 : Hid (∀ W b, Row W b l → Calls Try.prog 12 #[.pointer (some ⟨b, 0, none⟩), .int .i64 x] W (Adds W l x)) := Lib.hid fun W b hr => add_any W b l x hr hl
  have H15 : Hid (∀ W b, Row W b l → Calls Try.prog 15 #[.pointer (some ⟨b, 0, none⟩)] W fun e w' => ∃ v', e = .returned v' ∧ Is w' v' (slots l) ∧ Grew W w') := Lib.hid fun W b hr => slots_any W b l hr hl
  have H16 : Hid (∀ W, Grew w W → Calls Try.prog 16 #[v] W fun e w' => ∃ v', e = .returned v' ∧ Is w' v' (slots l) ∧ Grew W w') := Lib.hid fun W hg => rslots_any W v l (h.grew hg) hl
  have H17 : Hid (∀ W b, Row W b l → Calls Try.prog 17 #[.pointer (some ⟨b, 0, none⟩)] W fun e w' => e = .returned (.int .i64 ((slots l).length : Int)) ∧ Grew W w') := Lib.hid fun W b hr => count_any W b l hr hl
  have H18 : Hid (∀ W b, Row W b l → Calls Try.prog 18 #[.pointer (some ⟨b, 0, none⟩), .int .i64 i] W fun e w' => e = .returned (.bool (has l i)) ∧ Grew W w') := Lib.hid fun W b hr => has_any W b l i hr
  obtain ⟨hfe, hfa⟩ : firstErr l = 8 ∧ firstAt l = 0 := by
    unfold firstErr firstAt
    rw [hf]
    exact ⟨rfl, rfl⟩
  have hal : addL l x = [] := by unfold addL; rw [hf]
  have HAL := Lib.hid hal
  rw [hfe, hfa] at H8 H9
  have HAD : Hid (∀ W b, Row W b l → Calls Try.prog 12 #[.pointer (some ⟨b, 0, none⟩), .int .i64 x] W fun e w' => e = .returned (.tuple #[.slice none 0 0, .int .i64 0, .int .i64 8]) ∧ Grew W w') := Lib.hid fun W b hr => add_full W b l x hr hf
  clear hfe hfa hal H12
  rw [has_neg l i hi] at H18
  have hd : decide (0 ≤ i) = false := decide_eq_false (by omega)
  generalize putL l i x = pl at *
  generalize putE l i = pe at *
  generalize slots l = sl at *
  obtain ⟨A, c, rfl, _⟩ := h
  clear hl hf
  go_enter Try.func3, Try.ntmps3
  go_wp2_with fail
  refine (HOF.out).mono ?_
  rintro e w1 ⟨b, rfl, hr, hg⟩
  have HR := Lib.hid hr
  have G1 := Lib.hid hg
  have K1 := Lib.hid (Grew.refl w1)
  clear hr hg
  go_wp2_with fail
  refine (H8.out _ _ (HR.out.grew K1.out)).mono ?_
  rintro e w2 ⟨rfl, hg⟩
  have G2 := Lib.hid (G1.out.trans hg)
  have K2 := Lib.hid (K1.out.trans hg)
  clear hg
  go_wp2_with fail
  refine (H9.out _ G2.out).mono ?_
  rintro e w3 ⟨rfl, hw⟩
  subst hw
  go_wp2_with fail
  refine (H10.out _ _ (HR.out.grew K2.out)).mono ?_
  rintro e w4 ⟨A1, c1, rfl, hI, hg⟩
  have I4 := Lib.hid hI
  have G4 := Lib.hid (G2.out.trans hg)
  have K4 := Lib.hid (K2.out.trans hg)
  clear hg hI
  go_wp2_with fail
  refine (H11.out _ G4.out).mono ?_
  rintro e w5 ⟨A2, c2, rfl, hI, hg⟩
  have I5 := Lib.hid hI
  have J5 := Lib.hid (I4.out.grew hg)
  have G5 := Lib.hid (G4.out.trans hg)
  have K5 := Lib.hid (K4.out.trans hg)
  clear hg hI
  go_wp2_with fail
  refine (HAD.out _ _ (HR.out.grew K5.out)).mono ?_
  rintro e w6 ⟨rfl, hg⟩
  have I6 := Lib.hid (I5.out.grew hg)
  have J6 := Lib.hid (J5.out.grew hg)
  have G6 := Lib.hid (G5.out.trans hg)
  have K6 := Lib.hid (K5.out.trans hg)
  clear hg
  go_wp2_with fail
  refine (same_ints _ _ _ _ J6.out I6.out).mono ?_
  rintro e w7 ⟨rfl, hg⟩
  have G7 := Lib.hid (G6.out.trans hg)
  have K7 := Lib.hid (K6.out.trans hg)
  clear hg
  go_wp2_with fail
  refine (alive_any _).mono ?_
  rintro e w8 ⟨rfl, hg⟩
  have G8 := Lib.hid (G7.out.trans hg)
  have K8 := Lib.hid (K7.out.trans hg)
  clear hg
  go_wp2_with fail
  refine (H15.out _ _ (HR.out.grew K8.out)).mono ?_
  rintro e w9 ⟨v1, rfl, hI, hg⟩
  have IA := Lib.hid hI
  have G9 := Lib.hid (G8.out.trans hg)
  have K9 := Lib.hid (K8.out.trans hg)
  clear hg hI
  go_wp2_with fail
  refine (H16.out _ G9.out).mono ?_
  rintro e w10 ⟨v2, rfl, hI, hg⟩
  have IB := Lib.hid hI
  have IC := Lib.hid (IA.out.grew hg)
  have G10 := Lib.hid (G9.out.trans hg)
  have K10 := Lib.hid (K9.out.trans hg)
  clear hg hI
  go_wp2_with fail
  refine (same_ints _ _ _ _ IC.out IB.out).mono ?_
  rintro e w11 ⟨rfl, hg⟩
  have G11 := Lib.hid (G10.out.trans hg)
  have K11 := Lib.hid (K10.out.trans hg)
  clear hg
  go_wp2_with fail
  refine (H17.out _ _ (HR.out.grew K11.out)).mono ?_
  rintro e w12 ⟨rfl, hg⟩
  have G12 := Lib.hid (G11.out.trans hg)
  have K12 := Lib.hid (K11.out.trans hg)
  clear hg
  go_wp2_with fail
  refine (H16.out _ G12.out).mono ?_
  rintro e w13 ⟨v3, rfl, hI, hg⟩
  obtain ⟨A5, c5, rfl, _⟩ := hI
  have G13 := Lib.hid (G12.out.trans hg)
  have K13 := Lib.hid (K12.out.trans hg)
  clear hg
  go_wp2_with fail
  refine (H18.out _ _ (HR.out.grew K13.out)).mono ?_
  rintro e w14 ⟨rfl, hg⟩
  have G14 := Lib.hid (G13.out.trans hg)
  have K14 := Lib.hid (K13.out.trans hg)
  clear hg
  go_wp2
  go_returns
  exact ⟨rfl, G14.out⟩

set_option maxRecDepth 100000 in
set_option maxHeartbeats 4000000 in
theorem law_full_big (w : World) (v : Value) (l : List Int) (i : Int) (x : Int) (h : Is w v l) (hl : l.length * 8 ≤ 140737488351232) (hi : (l.length : Int) ≤ i) (hf : first l = none) :
    Calls Try.prog 3 #[v, .int .i64 i, .int .i64 x] w fun e w' => e = .returned (.bool true) ∧ Grew w w' := by
  have HIS := Lib.hid h
  have HOF := Lib.hid (of_any w v l h (by omega))
  have H8 : Hid (∀ W b, Row W b l → Calls Try.prog 8 #[.pointer (some ⟨b, 0, none⟩)] W fun e w' => e = .returned (.tuple #[.int .i64 (firstAt l), .int .i64 (firstErr l)]) ∧ Grew W w') := Lib.hid fun W b hr => first_any W b l hr
  have H9 : Hid (∀ W, Grew w W → Calls Try.prog 9 #[v] W fun e w' => e = .returned (.tuple #[.int .i64 (firstAt l), .int .i64 (firstErr l)]) ∧ w' = W) := Lib.hid fun W hg => rfirst_any W v l (h.grew hg)
  have H10 : Hid (∀ W b, Row W b l → Calls Try.prog 10 #[.pointer (some ⟨b, 0, none⟩), .int .i64 i, .int .i64 x] W (Puts W (putL l i x) (putE l i))) := Lib.hid fun W b hr => put_any W b l i x hr hl
  have H11 : Hid (∀ W, Grew w W → Calls Try.prog 11 #[v, .int .i64 i, .int .i64 x] W (Puts W (putL l i x) (putE l i))) := Lib.hid fun W hg => rput_any W v l i x (h.grew hg) hl
  have H12 : Hid (∀ W b, Row W b l → Calls Try.prog 12 #[.pointer (some ⟨b, 0, none⟩), .int .i64 x] W (Adds W l x)) := Lib.hid fun W b hr => add_any W b l x hr hl
  have H15 : Hid (∀ W b, Row W b l → Calls Try.prog 15 #[.pointer (some ⟨b, 0, none⟩)] W fun e w' => ∃ v', e = .returned v' ∧ Is w' v' (slots l) ∧ Grew W w') := Lib.hid fun W b hr => slots_any W b l hr hl
  have H16 : Hid (∀ W, Grew w W → Calls Try.prog 16 #[v] W fun e w' => ∃ v', e = .returned v' ∧ Is w' v' (slots l) ∧ Grew W w') := Lib.hid fun W hg => rslots_any W v l (h.grew hg) hl
  have H17 : Hid (∀ W b, Row W b l → Calls Try.prog 17 #[.pointer (some ⟨b, 0, none⟩)] W fun e w' => e = .returned (.int .i64 ((slots l).length : Int)) ∧ Grew W w') := Lib.hid fun W b hr => count_any W b l hr hl
  have H18 : Hid (∀ W b, Row W b l → Calls Try.prog 18 #[.pointer (some ⟨b, 0, none⟩), .int .i64 i] W fun e w' => e = .returned (.bool (has l i)) ∧ Grew W w') := Lib.hid fun W b hr => has_any W b l i hr
  obtain ⟨hfe, hfa⟩ : firstErr l = 8 ∧ firstAt l = 0 := by
    unfold firstErr firstAt
    rw [hf]
    exact ⟨rfl, rfl⟩
  have hal : addL l x = [] := by unfold addL; rw [hf]
  have HAL := Lib.hid hal
  rw [hfe, hfa] at H8 H9
  have HAD : Hid (∀ W b, Row W b l → Calls Try.prog 12 #[.pointer (some ⟨b, 0, none⟩), .int .i64 x] W fun e w' => e = .returned (.tuple #[.slice none 0 0, .int .i64 0, .int .i64 8]) ∧ Grew W w') := Lib.hid fun W b hr => add_full W b l x hr hf
  clear hfe hfa hal H12
  rw [has_big l i hi] at H18
  have h0 : 0 ≤ i := by omega
  have hd : decide (i < (l.length : Int)) = false := decide_eq_false (by omega)
  generalize putL l i x = pl at *
  generalize putE l i = pe at *
  generalize slots l = sl at *
  obtain ⟨A, c, rfl, _⟩ := h
  clear hl hf
  go_enter Try.func3, Try.ntmps3
  go_wp2_with fail
  refine (HOF.out).mono ?_
  rintro e w1 ⟨b, rfl, hr, hg⟩
  have HR := Lib.hid hr
  have G1 := Lib.hid hg
  have K1 := Lib.hid (Grew.refl w1)
  clear hr hg
  go_wp2_with fail
  refine (H8.out _ _ (HR.out.grew K1.out)).mono ?_
  rintro e w2 ⟨rfl, hg⟩
  have G2 := Lib.hid (G1.out.trans hg)
  have K2 := Lib.hid (K1.out.trans hg)
  clear hg
  go_wp2_with fail
  refine (H9.out _ G2.out).mono ?_
  rintro e w3 ⟨rfl, hw⟩
  subst hw
  go_wp2_with fail
  refine (H10.out _ _ (HR.out.grew K2.out)).mono ?_
  rintro e w4 ⟨A1, c1, rfl, hI, hg⟩
  have I4 := Lib.hid hI
  have G4 := Lib.hid (G2.out.trans hg)
  have K4 := Lib.hid (K2.out.trans hg)
  clear hg hI
  go_wp2_with fail
  refine (H11.out _ G4.out).mono ?_
  rintro e w5 ⟨A2, c2, rfl, hI, hg⟩
  have I5 := Lib.hid hI
  have J5 := Lib.hid (I4.out.grew hg)
  have G5 := Lib.hid (G4.out.trans hg)
  have K5 := Lib.hid (K4.out.trans hg)
  clear hg hI
  go_wp2_with fail
  refine (HAD.out _ _ (HR.out.grew K5.out)).mono ?_
  rintro e w6 ⟨rfl, hg⟩
  have I6 := Lib.hid (I5.out.grew hg)
  have J6 := Lib.hid (J5.out.grew hg)
  have G6 := Lib.hid (G5.out.trans hg)
  have K6 := Lib.hid (K5.out.trans hg)
  clear hg
  go_wp2_with fail
  refine (same_ints _ _ _ _ J6.out I6.out).mono ?_
  rintro e w7 ⟨rfl, hg⟩
  have G7 := Lib.hid (G6.out.trans hg)
  have K7 := Lib.hid (K6.out.trans hg)
  clear hg
  go_wp2_with fail
  refine (alive_any _).mono ?_
  rintro e w8 ⟨rfl, hg⟩
  have G8 := Lib.hid (G7.out.trans hg)
  have K8 := Lib.hid (K7.out.trans hg)
  clear hg
  go_wp2_with fail
  refine (H15.out _ _ (HR.out.grew K8.out)).mono ?_
  rintro e w9 ⟨v1, rfl, hI, hg⟩
  have IA := Lib.hid hI
  have G9 := Lib.hid (G8.out.trans hg)
  have K9 := Lib.hid (K8.out.trans hg)
  clear hg hI
  go_wp2_with fail
  refine (H16.out _ G9.out).mono ?_
  rintro e w10 ⟨v2, rfl, hI, hg⟩
  have IB := Lib.hid hI
  have IC := Lib.hid (IA.out.grew hg)
  have G10 := Lib.hid (G9.out.trans hg)
  have K10 := Lib.hid (K9.out.trans hg)
  clear hg hI
  go_wp2_with fail
  refine (same_ints _ _ _ _ IC.out IB.out).mono ?_
  rintro e w11 ⟨rfl, hg⟩
  have G11 := Lib.hid (G10.out.trans hg)
  have K11 := Lib.hid (K10.out.trans hg)
  clear hg
  go_wp2_with fail
  refine (H17.out _ _ (HR.out.grew K11.out)).mono ?_
  rintro e w12 ⟨rfl, hg⟩
  have G12 := Lib.hid (G11.out.trans hg)
  have K12 := Lib.hid (K11.out.trans hg)
  clear hg
  go_wp2_with fail
  refine (H16.out _ G12.out).mono ?_
  rintro e w13 ⟨v3, rfl, hI, hg⟩
  obtain ⟨A5, c5, rfl, _⟩ := hI
  have G13 := Lib.hid (G12.out.trans hg)
  have K13 := Lib.hid (K12.out.trans hg)
  clear hg
  go_wp2_with fail
  refine (H18.out _ _ (HR.out.grew K13.out)).mono ?_
  rintro e w14 ⟨rfl, hg⟩
  have G14 := Lib.hid (G13.out.trans hg)
  have K14 := Lib.hid (K13.out.trans hg)
  clear hg
  go_wp2
  go_returns
  exact ⟨rfl, G14.out⟩

set_option maxRecDepth 100000 in
set_option maxHeartbeats 4000000 in
theorem law_room_in (w : World) (v : Value) (l : List Int) (i : Nat) (x : Int) (h : Is w v l) (hl : l.length * 8 ≤ 140737488351232) (hi : i < l.length) (k : Nat) (hf : first l = some k) :
    Calls Try.prog 3 #[v, .int .i64 i, .int .i64 x] w fun e w' => e = .returned (.bool true) ∧ Grew w w' := by
  have HIS := Lib.hid h
  have HOF := Lib.hid (of_any w v l h (by omega))
  have H8 : Hid (∀ W b, Row W b l → Calls Try.prog 8 #[.pointer (some ⟨b, 0, none⟩)] W fun e w' => e = .returned (.tuple #[.int .i64 (firstAt l), .int .i64 (firstErr l)]) ∧ Grew W w') := Lib.hid fun W b hr => first_any W b l hr
  have H9 : Hid (∀ W, Grew w W → Calls Try.prog 9 #[v] W fun e w' => e = .returned (.tuple #[.int .i64 (firstAt l), .int .i64 (firstErr l)]) ∧ w' = W) := Lib.hid fun W hg => rfirst_any W v l (h.grew hg)
  have H10 : Hid (∀ W b, Row W b l → Calls Try.prog 10 #[.pointer (some ⟨b, 0, none⟩), .int .i64 i, .int .i64 x] W (Puts W (putL l i x) (putE l i))) := Lib.hid fun W b hr => put_any W b l i x hr hl
  have H11 : Hid (∀ W, Grew w W → Calls Try.prog 11 #[v, .int .i64 i, .int .i64 x] W (Puts W (putL l i x) (putE l i))) := Lib.hid fun W hg => rput_any W v l i x (h.grew hg) hl
  have H12 : Hid (∀ W b, Row W b l → Calls Try.prog 12 #[.pointer (some ⟨b, 0, none⟩), .int .i64 x] W (Adds W l x)) := Lib.hid fun W b hr => add_any W b l x hr hl
  have H15 : Hid (∀ W b, Row W b l → Calls Try.prog 15 #[.pointer (some ⟨b, 0, none⟩)] W fun e w' => ∃ v', e = .returned v' ∧ Is w' v' (slots l) ∧ Grew W w') := Lib.hid fun W b hr => slots_any W b l hr hl
  have H16 : Hid (∀ W, Grew w W → Calls Try.prog 16 #[v] W fun e w' => ∃ v', e = .returned v' ∧ Is w' v' (slots l) ∧ Grew W w') := Lib.hid fun W hg => rslots_any W v l (h.grew hg) hl
  have H17 : Hid (∀ W b, Row W b l → Calls Try.prog 17 #[.pointer (some ⟨b, 0, none⟩)] W fun e w' => e = .returned (.int .i64 ((slots l).length : Int)) ∧ Grew W w') := Lib.hid fun W b hr => count_any W b l hr hl
  have H18 : Hid (∀ W b, Row W b l → Calls Try.prog 18 #[.pointer (some ⟨b, 0, none⟩), .int .i64 i] W fun e w' => e = .returned (.bool (has l i)) ∧ Grew W w') := Lib.hid fun W b hr => has_any W b l i hr
  obtain ⟨hfe, hfa⟩ : firstErr l = 0 ∧ firstAt l = k := by
    unfold firstErr firstAt
    rw [hf]
    exact ⟨rfl, rfl⟩
  obtain ⟨hp1, hp2⟩ := putL_first l k x hf
  have HAD : Hid (∀ W b, Row W b l → Calls Try.prog 12 #[.pointer (some ⟨b, 0, none⟩), .int .i64 x] W fun e w' => ∃ A c, e = .returned (.tuple #[.slice A (addL l x).length c, .int .i64 k, .int .i64 0]) ∧ Is w' (.slice A (addL l x).length c) (addL l x) ∧ Grew W w') := by
    have := H12.out
    unfold Adds at this
    rw [hfe, hfa] at this
    exact Lib.hid this
  have HPK : Hid (∀ W, Grew w W → Calls Try.prog 11 #[v, .int .i64 k, .int .i64 x] W (Puts W (addL l x) 0)) := Lib.hid fun W hg => by
    have := rput_any W v l k x (h.grew hg) hl
    rwa [hp1, hp2] at this
  rw [hfe, hfa] at H8 H9
  clear hfe hfa hp1 hp2 H12
  generalize addL l x = al at *
  rw [has_at l i hi] at H18
  have hi' : (i : Int) < (l.length : Int) := by omega
  obtain ⟨ad, cx, hv, _, hc0⟩ := h.cell hi
  have HCELL := Lib.hid hc0
  clear hc0
  generalize l[i]?.getD 0 = xi at H18 HCELL
  generalize putL l i x = pl at *
  generalize putE l i = pe at *
  generalize slots l = sl at *
  subst hv
  clear h
  clear hl hf
  go_enter Try.func3, Try.ntmps3
  go_wp2_with fail
  refine (HOF.out).mono ?_
  rintro e w1 ⟨b, rfl, hr, hg⟩
  have HR := Lib.hid hr
  have G1 := Lib.hid hg
  have K1 := Lib.hid (Grew.refl w1)
  clear hr hg
  go_wp2_with fail
  refine (H8.out _ _ (HR.out.grew K1.out)).mono ?_
  rintro e w2 ⟨rfl, hg⟩
  have G2 := Lib.hid (G1.out.trans hg)
  have K2 := Lib.hid (K1.out.trans hg)
  clear hg
  go_wp2_with fail
  refine (H9.out _ G2.out).mono ?_
  rintro e w3 ⟨rfl, hw⟩
  subst hw
  go_wp2_with fail
  refine (H10.out _ _ (HR.out.grew K2.out)).mono ?_
  rintro e w4 ⟨A1, c1, rfl, hI, hg⟩
  have I4 := Lib.hid hI
  have G4 := Lib.hid (G2.out.trans hg)
  have K4 := Lib.hid (K2.out.trans hg)
  clear hg hI
  go_wp2_with fail
  refine (H11.out _ G4.out).mono ?_
  rintro e w5 ⟨A2, c2, rfl, hI, hg⟩
  have I5 := Lib.hid hI
  have J5 := Lib.hid (I4.out.grew hg)
  have G5 := Lib.hid (G4.out.trans hg)
  have K5 := Lib.hid (K4.out.trans hg)
  clear hg hI
  go_wp2_with fail
  refine (HAD.out _ _ (HR.out.grew K5.out)).mono ?_
  rintro e w6 ⟨A3, c3, rfl, hI, hg⟩
  have M6 := Lib.hid hI
  have I6 := Lib.hid (I5.out.grew hg)
  have J6 := Lib.hid (J5.out.grew hg)
  have G6 := Lib.hid (G5.out.trans hg)
  have K6 := Lib.hid (K5.out.trans hg)
  clear hg hI
  go_wp2_with fail
  refine (same_ints _ _ _ _ J6.out I6.out).mono ?_
  rintro e w7 ⟨rfl, hg⟩
  have M7 := Lib.hid (M6.out.grew hg)
  have G7 := Lib.hid (G6.out.trans hg)
  have K7 := Lib.hid (K6.out.trans hg)
  clear hg
  go_wp2_with fail
  refine (HPK.out _ G7.out).mono ?_
  rintro e w8 ⟨A4, c4, rfl, hI, hg⟩
  have I8 := Lib.hid hI
  have M8 := Lib.hid (M7.out.grew hg)
  have G8 := Lib.hid (G7.out.trans hg)
  have K8 := Lib.hid (K7.out.trans hg)
  clear hg hI
  go_wp2_with fail
  refine (same_ints _ _ _ _ M8.out I8.out).mono ?_
  rintro e w9 ⟨rfl, hg⟩
  have G9 := Lib.hid (G8.out.trans hg)
  have K9 := Lib.hid (K8.out.trans hg)
  clear hg
  go_wp2_with fail
  refine (alive_any _).mono ?_
  rintro e w10 ⟨rfl, hg⟩
  have G10 := Lib.hid (G9.out.trans hg)
  have K10 := Lib.hid (K9.out.trans hg)
  clear hg
  go_wp2_with fail
  refine (H15.out _ _ (HR.out.grew K10.out)).mono ?_
  rintro e w11 ⟨v1, rfl, hI, hg⟩
  have IA := Lib.hid hI
  have G11 := Lib.hid (G10.out.trans hg)
  have K11 := Lib.hid (K10.out.trans hg)
  clear hg hI
  go_wp2_with fail
  refine (H16.out _ G11.out).mono ?_
  rintro e w12 ⟨v2, rfl, hI, hg⟩
  have IB := Lib.hid hI
  have IC := Lib.hid (IA.out.grew hg)
  have G12 := Lib.hid (G11.out.trans hg)
  have K12 := Lib.hid (K11.out.trans hg)
  clear hg hI
  go_wp2_with fail
  refine (same_ints _ _ _ _ IC.out IB.out).mono ?_
  rintro e w13 ⟨rfl, hg⟩
  have G13 := Lib.hid (G12.out.trans hg)
  have K13 := Lib.hid (K12.out.trans hg)
  clear hg
  go_wp2_with fail
  refine (H17.out _ _ (HR.out.grew K13.out)).mono ?_
  rintro e w14 ⟨rfl, hg⟩
  have G14 := Lib.hid (G13.out.trans hg)
  have K14 := Lib.hid (K13.out.trans hg)
  clear hg
  go_wp2_with fail
  refine (H16.out _ G14.out).mono ?_
  rintro e w15 ⟨v3, rfl, hI, hg⟩
  obtain ⟨A5, c5, rfl, _⟩ := hI
  have G15 := Lib.hid (G14.out.trans hg)
  have K15 := Lib.hid (K14.out.trans hg)
  clear hg
  go_wp2_with fail
  refine (H18.out _ _ (HR.out.grew K15.out)).mono ?_
  rintro e w16 ⟨rfl, hg⟩
  have G16 := Lib.hid (G15.out.trans hg)
  have K16 := Lib.hid (K15.out.trans hg)
  clear hg
  have hcl := cellG G16.out HCELL.out
  go_wp2
  go_returns
  exact ⟨rfl, G16.out⟩

set_option maxRecDepth 100000 in
set_option maxHeartbeats 4000000 in
theorem law_room_neg (w : World) (v : Value) (l : List Int) (i : Int) (x : Int) (h : Is w v l) (hl : l.length * 8 ≤ 140737488351232) (hi : i < 0) (k : Nat) (hf : first l = some k) :
    Calls Try.prog 3 #[v, .int .i64 i, .int .i64 x] w fun e w' => e = .returned (.bool true) ∧ Grew w w' := by
  have HIS := Lib.hid h
  have HOF := Lib.hid (of_any w v l h (by omega))
  have H8 : Hid (∀ W b, Row W b l → Calls Try.prog 8 #[.pointer (some ⟨b, 0, none⟩)] W fun e w' => e = .returned (.tuple #[.int .i64 (firstAt l), .int .i64 (firstErr l)]) ∧ Grew W w') := Lib.hid fun W b hr => first_any W b l hr
  have H9 : Hid (∀ W, Grew w W → Calls Try.prog 9 #[v] W fun e w' => e = .returned (.tuple #[.int .i64 (firstAt l), .int .i64 (firstErr l)]) ∧ w' = W) := Lib.hid fun W hg => rfirst_any W v l (h.grew hg)
  have H10 : Hid (∀ W b, Row W b l → Calls Try.prog 10 #[.pointer (some ⟨b, 0, none⟩), .int .i64 i, .int .i64 x] W (Puts W (putL l i x) (putE l i))) := Lib.hid fun W b hr => put_any W b l i x hr hl
  have H11 : Hid (∀ W, Grew w W → Calls Try.prog 11 #[v, .int .i64 i, .int .i64 x] W (Puts W (putL l i x) (putE l i))) := Lib.hid fun W hg => rput_any W v l i x (h.grew hg) hl
  have H12 : Hid (∀ W b, Row W b l → Calls Try.prog 12 #[.pointer (some ⟨b, 0, none⟩), .int .i64 x] W (Adds W l x)) := Lib.hid fun W b hr => add_any W b l x hr hl
  have H15 : Hid (∀ W b, Row W b l → Calls Try.prog 15 #[.pointer (some ⟨b, 0, none⟩)] W fun e w' => ∃ v', e = .returned v' ∧ Is w' v' (slots l) ∧ Grew W w') := Lib.hid fun W b hr => slots_any W b l hr hl
  have H16 : Hid (∀ W, Grew w W → Calls Try.prog 16 #[v] W fun e w' => ∃ v', e = .returned v' ∧ Is w' v' (slots l) ∧ Grew W w') := Lib.hid fun W hg => rslots_any W v l (h.grew hg) hl
  have H17 : Hid (∀ W b, Row W b l → Calls Try.prog 17 #[.pointer (some ⟨b, 0, none⟩)] W fun e w' => e = .returned (.int .i64 ((slots l).length : Int)) ∧ Grew W w') := Lib.hid fun W b hr => count_any W b l hr hl
  have H18 : Hid (∀ W b, Row W b l → Calls Try.prog 18 #[.pointer (some ⟨b, 0, none⟩), .int .i64 i] W fun e w' => e = .returned (.bool (has l i)) ∧ Grew W w') := Lib.hid fun W b hr => has_any W b l i hr
  obtain ⟨hfe, hfa⟩ : firstErr l = 0 ∧ firstAt l = k := by
    unfold firstErr firstAt
    rw [hf]
    exact ⟨rfl, rfl⟩
  obtain ⟨hp1, hp2⟩ := putL_first l k x hf
  have HAD : Hid (∀ W b, Row W b l → Calls Try.prog 12 #[.pointer (some ⟨b, 0, none⟩), .int .i64 x] W fun e w' => ∃ A c, e = .returned (.tuple #[.slice A (addL l x).length c, .int .i64 k, .int .i64 0]) ∧ Is w' (.slice A (addL l x).length c) (addL l x) ∧ Grew W w') := by
    have := H12.out
    unfold Adds at this
    rw [hfe, hfa] at this
    exact Lib.hid this
  have HPK : Hid (∀ W, Grew w W → Calls Try.prog 11 #[v, .int .i64 k, .int .i64 x] W (Puts W (addL l x) 0)) := Lib.hid fun W hg => by
    have := rput_any W v l k x (h.grew hg) hl
    rwa [hp1, hp2] at this
  rw [hfe, hfa] at H8 H9
  clear hfe hfa hp1 hp2 H12
  generalize addL l x = al at *
  rw [has_neg l i hi] at H18
  have hd : decide (0 ≤ i) = false := decide_eq_false (by omega)
  generalize putL l i x = pl at *
  generalize putE l i = pe at *
  generalize slots l = sl at *
  obtain ⟨A, c, rfl, _⟩ := h
  clear hl hf
  go_enter Try.func3, Try.ntmps3
  go_wp2_with fail
  refine (HOF.out).mono ?_
  rintro e w1 ⟨b, rfl, hr, hg⟩
  have HR := Lib.hid hr
  have G1 := Lib.hid hg
  have K1 := Lib.hid (Grew.refl w1)
  clear hr hg
  go_wp2_with fail
  refine (H8.out _ _ (HR.out.grew K1.out)).mono ?_
  rintro e w2 ⟨rfl, hg⟩
  have G2 := Lib.hid (G1.out.trans hg)
  have K2 := Lib.hid (K1.out.trans hg)
  clear hg
  go_wp2_with fail
  refine (H9.out _ G2.out).mono ?_
  rintro e w3 ⟨rfl, hw⟩
  subst hw
  go_wp2_with fail
  refine (H10.out _ _ (HR.out.grew K2.out)).mono ?_
  rintro e w4 ⟨A1, c1, rfl, hI, hg⟩
  have I4 := Lib.hid hI
  have G4 := Lib.hid (G2.out.trans hg)
  have K4 := Lib.hid (K2.out.trans hg)
  clear hg hI
  go_wp2_with fail
  refine (H11.out _ G4.out).mono ?_
  rintro e w5 ⟨A2, c2, rfl, hI, hg⟩
  have I5 := Lib.hid hI
  have J5 := Lib.hid (I4.out.grew hg)
  have G5 := Lib.hid (G4.out.trans hg)
  have K5 := Lib.hid (K4.out.trans hg)
  clear hg hI
  go_wp2_with fail
  refine (HAD.out _ _ (HR.out.grew K5.out)).mono ?_
  rintro e w6 ⟨A3, c3, rfl, hI, hg⟩
  have M6 := Lib.hid hI
  have I6 := Lib.hid (I5.out.grew hg)
  have J6 := Lib.hid (J5.out.grew hg)
  have G6 := Lib.hid (G5.out.trans hg)
  have K6 := Lib.hid (K5.out.trans hg)
  clear hg hI
  go_wp2_with fail
  refine (same_ints _ _ _ _ J6.out I6.out).mono ?_
  rintro e w7 ⟨rfl, hg⟩
  have M7 := Lib.hid (M6.out.grew hg)
  have G7 := Lib.hid (G6.out.trans hg)
  have K7 := Lib.hid (K6.out.trans hg)
  clear hg
  go_wp2_with fail
  refine (HPK.out _ G7.out).mono ?_
  rintro e w8 ⟨A4, c4, rfl, hI, hg⟩
  have I8 := Lib.hid hI
  have M8 := Lib.hid (M7.out.grew hg)
  have G8 := Lib.hid (G7.out.trans hg)
  have K8 := Lib.hid (K7.out.trans hg)
  clear hg hI
  go_wp2_with fail
  refine (same_ints _ _ _ _ M8.out I8.out).mono ?_
  rintro e w9 ⟨rfl, hg⟩
  have G9 := Lib.hid (G8.out.trans hg)
  have K9 := Lib.hid (K8.out.trans hg)
  clear hg
  go_wp2_with fail
  refine (alive_any _).mono ?_
  rintro e w10 ⟨rfl, hg⟩
  have G10 := Lib.hid (G9.out.trans hg)
  have K10 := Lib.hid (K9.out.trans hg)
  clear hg
  go_wp2_with fail
  refine (H15.out _ _ (HR.out.grew K10.out)).mono ?_
  rintro e w11 ⟨v1, rfl, hI, hg⟩
  have IA := Lib.hid hI
  have G11 := Lib.hid (G10.out.trans hg)
  have K11 := Lib.hid (K10.out.trans hg)
  clear hg hI
  go_wp2_with fail
  refine (H16.out _ G11.out).mono ?_
  rintro e w12 ⟨v2, rfl, hI, hg⟩
  have IB := Lib.hid hI
  have IC := Lib.hid (IA.out.grew hg)
  have G12 := Lib.hid (G11.out.trans hg)
  have K12 := Lib.hid (K11.out.trans hg)
  clear hg hI
  go_wp2_with fail
  refine (same_ints _ _ _ _ IC.out IB.out).mono ?_
  rintro e w13 ⟨rfl, hg⟩
  have G13 := Lib.hid (G12.out.trans hg)
  have K13 := Lib.hid (K12.out.trans hg)
  clear hg
  go_wp2_with fail
  refine (H17.out _ _ (HR.out.grew K13.out)).mono ?_
  rintro e w14 ⟨rfl, hg⟩
  have G14 := Lib.hid (G13.out.trans hg)
  have K14 := Lib.hid (K13.out.trans hg)
  clear hg
  go_wp2_with fail
  refine (H16.out _ G14.out).mono ?_
  rintro e w15 ⟨v3, rfl, hI, hg⟩
  obtain ⟨A5, c5, rfl, _⟩ := hI
  have G15 := Lib.hid (G14.out.trans hg)
  have K15 := Lib.hid (K14.out.trans hg)
  clear hg
  go_wp2_with fail
  refine (H18.out _ _ (HR.out.grew K15.out)).mono ?_
  rintro e w16 ⟨rfl, hg⟩
  have G16 := Lib.hid (G15.out.trans hg)
  have K16 := Lib.hid (K15.out.trans hg)
  clear hg
  go_wp2
  go_returns
  exact ⟨rfl, G16.out⟩

set_option maxRecDepth 100000 in
set_option maxHeartbeats 4000000 in
theorem law_room_big (w : World) (v : Value) (l : List Int) (i : Int) (x : Int) (h : Is w v l) (hl : l.length * 8 ≤ 140737488351232) (hi : (l.length : Int) ≤ i) (k : Nat) (hf : first l = some k) :
    Calls Try.prog 3 #[v, .int .i64 i, .int .i64 x] w fun e w' => e = .returned (.bool true) ∧ Grew w w' := by
  have HIS := Lib.hid h
  have HOF := Lib.hid (of_any w v l h (by omega))
  have H8 : Hid (∀ W b, Row W b l → Calls Try.prog 8 #[.pointer (some ⟨b, 0, none⟩)] W fun e w' => e = .returned (.tuple #[.int .i64 (firstAt l), .int .i64 (firstErr l)]) ∧ Grew W w') := Lib.hid fun W b hr => first_any W b l hr
  have H9 : Hid (∀ W, Grew w W → Calls Try.prog 9 #[v] W fun e w' => e = .returned (.tuple #[.int .i64 (firstAt l), .int .i64 (firstErr l)]) ∧ w' = W) := Lib.hid fun W hg => rfirst_any W v l (h.grew hg)
  have H10 : Hid (∀ W b, Row W b l → Calls Try.prog 10 #[.pointer (some ⟨b, 0, none⟩), .int .i64 i, .int .i64 x] W (Puts W (putL l i x) (putE l i))) := Lib.hid fun W b hr => put_any W b l i x hr hl
  have H11 : Hid (∀ W, Grew w W → Calls Try.prog 11 #[v, .int .i64 i, .int .i64 x] W (Puts W (putL l i x) (putE l i))) := Lib.hid fun W hg => rput_any W v l i x (h.grew hg) hl
  have H12 : Hid (∀ W b, Row W b l → Calls Try.prog 12 #[.pointer (some ⟨b, 0, none⟩), .int .i64 x] W (Adds W l x)) := Lib.hid fun W b hr => add_any W b l x hr hl
  have H15 : Hid (∀ W b, Row W b l → Calls Try.prog 15 #[.pointer (some ⟨b, 0, none⟩)] W fun e w' => ∃ v', e = .returned v' ∧ Is w' v' (slots l) ∧ Grew W w') := Lib.hid fun W b hr => slots_any W b l hr hl
  have H16 : Hid (∀ W, Grew w W → Calls Try.prog 16 #[v] W fun e w' => ∃ v', e = .returned v' ∧ Is w' v' (slots l) ∧ Grew W w') := Lib.hid fun W hg => rslots_any W v l (h.grew hg) hl
  have H17 : Hid (∀ W b, Row W b l → Calls Try.prog 17 #[.pointer (some ⟨b, 0, none⟩)] W fun e w' => e = .returned (.int .i64 ((slots l).length : Int)) ∧ Grew W w') := Lib.hid fun W b hr => count_any W b l hr hl
  have H18 : Hid (∀ W b, Row W b l → Calls Try.prog 18 #[.pointer (some ⟨b, 0, none⟩), .int .i64 i] W fun e w' => e = .returned (.bool (has l i)) ∧ Grew W w') := Lib.hid fun W b hr => has_any W b l i hr
  obtain ⟨hfe, hfa⟩ : firstErr l = 0 ∧ firstAt l = k := by
    unfold firstErr firstAt
    rw [hf]
    exact ⟨rfl, rfl⟩
  obtain ⟨hp1, hp2⟩ := putL_first l k x hf
  have HAD : Hid (∀ W b, Row W b l → Calls Try.prog 12 #[.pointer (some ⟨b, 0, none⟩), .int .i64 x] W fun e w' => ∃ A c, e = .returned (.tuple #[.slice A (addL l x).length c, .int .i64 k, .int .i64 0]) ∧ Is w' (.slice A (addL l x).length c) (addL l x) ∧ Grew W w') := by
    have := H12.out
    unfold Adds at this
    rw [hfe, hfa] at this
    exact Lib.hid this
  have HPK : Hid (∀ W, Grew w W → Calls Try.prog 11 #[v, .int .i64 k, .int .i64 x] W (Puts W (addL l x) 0)) := Lib.hid fun W hg => by
    have := rput_any W v l k x (h.grew hg) hl
    rwa [hp1, hp2] at this
  rw [hfe, hfa] at H8 H9
  clear hfe hfa hp1 hp2 H12
  generalize addL l x = al at *
  rw [has_big l i hi] at H18
  have h0 : 0 ≤ i := by omega
  have hd : decide (i < (l.length : Int)) = false := decide_eq_false (by omega)
  generalize putL l i x = pl at *
  generalize putE l i = pe at *
  generalize slots l = sl at *
  obtain ⟨A, c, rfl, _⟩ := h
  clear hl hf
  go_enter Try.func3, Try.ntmps3
  go_wp2_with fail
  refine (HOF.out).mono ?_
  rintro e w1 ⟨b, rfl, hr, hg⟩
  have HR := Lib.hid hr
  have G1 := Lib.hid hg
  have K1 := Lib.hid (Grew.refl w1)
  clear hr hg
  go_wp2_with fail
  refine (H8.out _ _ (HR.out.grew K1.out)).mono ?_
  rintro e w2 ⟨rfl, hg⟩
  have G2 := Lib.hid (G1.out.trans hg)
  have K2 := Lib.hid (K1.out.trans hg)
  clear hg
  go_wp2_with fail
  refine (H9.out _ G2.out).mono ?_
  rintro e w3 ⟨rfl, hw⟩
  subst hw
  go_wp2_with fail
  refine (H10.out _ _ (HR.out.grew K2.out)).mono ?_
  rintro e w4 ⟨A1, c1, rfl, hI, hg⟩
  have I4 := Lib.hid hI
  have G4 := Lib.hid (G2.out.trans hg)
  have K4 := Lib.hid (K2.out.trans hg)
  clear hg hI
  go_wp2_with fail
  refine (H11.out _ G4.out).mono ?_
  rintro e w5 ⟨A2, c2, rfl, hI, hg⟩
  have I5 := Lib.hid hI
  have J5 := Lib.hid (I4.out.grew hg)
  have G5 := Lib.hid (G4.out.trans hg)
  have K5 := Lib.hid (K4.out.trans hg)
  clear hg hI
  go_wp2_with fail
  refine (HAD.out _ _ (HR.out.grew K5.out)).mono ?_
  rintro e w6 ⟨A3, c3, rfl, hI, hg⟩
  have M6 := Lib.hid hI
  have I6 := Lib.hid (I5.out.grew hg)
  have J6 := Lib.hid (J5.out.grew hg)
  have G6 := Lib.hid (G5.out.trans hg)
  have K6 := Lib.hid (K5.out.trans hg)
  clear hg hI
  go_wp2_with fail
  refine (same_ints _ _ _ _ J6.out I6.out).mono ?_
  rintro e w7 ⟨rfl, hg⟩
  have M7 := Lib.hid (M6.out.grew hg)
  have G7 := Lib.hid (G6.out.trans hg)
  have K7 := Lib.hid (K6.out.trans hg)
  clear hg
  go_wp2_with fail
  refine (HPK.out _ G7.out).mono ?_
  rintro e w8 ⟨A4, c4, rfl, hI, hg⟩
  have I8 := Lib.hid hI
  have M8 := Lib.hid (M7.out.grew hg)
  have G8 := Lib.hid (G7.out.trans hg)
  have K8 := Lib.hid (K7.out.trans hg)
  clear hg hI
  go_wp2_with fail
  refine (same_ints _ _ _ _ M8.out I8.out).mono ?_
  rintro e w9 ⟨rfl, hg⟩
  have G9 := Lib.hid (G8.out.trans hg)
  have K9 := Lib.hid (K8.out.trans hg)
  clear hg
  go_wp2_with fail
  refine (alive_any _).mono ?_
  rintro e w10 ⟨rfl, hg⟩
  have G10 := Lib.hid (G9.out.trans hg)
  have K10 := Lib.hid (K9.out.trans hg)
  clear hg
  go_wp2_with fail
  refine (H15.out _ _ (HR.out.grew K10.out)).mono ?_
  rintro e w11 ⟨v1, rfl, hI, hg⟩
  have IA := Lib.hid hI
  have G11 := Lib.hid (G10.out.trans hg)
  have K11 := Lib.hid (K10.out.trans hg)
  clear hg hI
  go_wp2_with fail
  refine (H16.out _ G11.out).mono ?_
  rintro e w12 ⟨v2, rfl, hI, hg⟩
  have IB := Lib.hid hI
  have IC := Lib.hid (IA.out.grew hg)
  have G12 := Lib.hid (G11.out.trans hg)
  have K12 := Lib.hid (K11.out.trans hg)
  clear hg hI
  go_wp2_with fail
  refine (same_ints _ _ _ _ IC.out IB.out).mono ?_
  rintro e w13 ⟨rfl, hg⟩
  have G13 := Lib.hid (G12.out.trans hg)
  have K13 := Lib.hid (K12.out.trans hg)
  clear hg
  go_wp2_with fail
  refine (H17.out _ _ (HR.out.grew K13.out)).mono ?_
  rintro e w14 ⟨rfl, hg⟩
  have G14 := Lib.hid (G13.out.trans hg)
  have K14 := Lib.hid (K13.out.trans hg)
  clear hg
  go_wp2_with fail
  refine (H16.out _ G14.out).mono ?_
  rintro e w15 ⟨v3, rfl, hI, hg⟩
  obtain ⟨A5, c5, rfl, _⟩ := hI
  have G15 := Lib.hid (G14.out.trans hg)
  have K15 := Lib.hid (K14.out.trans hg)
  clear hg
  go_wp2_with fail
  refine (H18.out _ _ (HR.out.grew K15.out)).mono ?_
  rintro e w16 ⟨rfl, hg⟩
  have G16 := Lib.hid (G15.out.trans hg)
  have K16 := Lib.hid (K15.out.trans hg)
  clear hg
  go_wp2
  go_returns
  exact ⟨rfl, G16.out⟩

theorem law_any (w : World) (v : Value) (l : List Int) (i x : Int) (h : Is w v l) (hl : l.length * 8 ≤ 140737488351232) :
    Calls Try.prog 3 #[v, .int .i64 i, .int .i64 x] w fun e w' => e = .returned (.bool true) ∧ Grew w w' := by
  by_cases h0 : i < 0
  · cases hf : first l with
    | none => exact law_full_neg w v l i x h hl h0 hf
    | some k => exact law_room_neg w v l i x h hl h0 k hf
  · by_cases h1 : (l.length : Int) ≤ i
    · cases hf : first l with
      | none => exact law_full_big w v l i x h hl h1 hf
      | some k => exact law_room_big w v l i x h hl h1 k hf
    · obtain ⟨n, rfl⟩ := Int.eq_ofNat_of_zero_le (show 0 ≤ i by omega)
      cases hf : first l with
      | none => exact law_full_in w v l n x h hl (by omega) hf
      | some k => exact law_room_in w v l n x h hl (by omega) k hf
end Go.Proofs.Ytojoefdahkgojab.TellsLaw
