/-
  How much of a coin all trades give.
  Conditions: those that each lemma names.
-/
import Derived.Test.YtcbaaeihppchiaaPP
import Derived.Test.YtcbaaeihppchiaaPG
namespace Go.Proofs.Ytcbaaeihppchiaa.PQ
set_option maxRecDepth 100000
open Go Go.RowKit Go.Lib Go.Proofs.Ytcbaaeihppchiaa Go.Proofs.Ytcbaaeihppchiaa.Facts Go.Proofs.Ytcbaaeihppchiaa.Ints Go.Proofs.Ytcbaaeihppchiaa.PA Go.Proofs.Ytcbaaeihppchiaa.PB Go.Proofs.Ytcbaaeihppchiaa.PC Go.Proofs.Ytcbaaeihppchiaa.PG Go.Proofs.Ytcbaaeihppchiaa.PM Go.Proofs.Ytcbaaeihppchiaa.PN Go.Proofs.Ytcbaaeihppchiaa.PP Go.Proofs.Ytcbaaeihppchiaa.Bytes


/-- What is given of a coin at these slots. -/
def givS (l : List Tr) (c : Int) (S : List Int) : List Nat := (S.filter fun j => decide ((et l j.toNat).gc = c)).map fun j => (et l j.toNat).ga
theorem givS_nil (l : List Tr) (c : Int) : givS l c [] = [] := rfl
theorem givS_yes (l : List Tr) (c : Int) (S : List Int) (j : Nat) (h : (et l j).gc = c) : givS l c (S ++ [(j : Int)]) = givS l c S ++ [(et l j).ga] := by
  unfold givS
  rw [List.filter_append, List.map_append]
  simp [h]
theorem givS_no (l : List Tr) (c : Int) (S : List Int) (j : Nat) (h : ¬ (et l j).gc = c) : givS l c (S ++ [(j : Int)]) = givS l c S := by
  unfold givS
  rw [List.filter_append]
  simp [h]
theorem givS_len (l : List Tr) (c : Int) (S : List Int) : (givS l c S).length ≤ S.length := by
  unfold givS
  rw [List.length_map]
  exact List.length_filter_le _ _
def usl (l : List Tr) : List Int := uptoG ztr (fun x : Tr => x.used) l l.length
def SzT (l : List Tr) : Prop := ∀ x ∈ l, x.ga < 18446744073709551616
theorem SzT_at {l : List Tr} (h : SzT l) (j : Nat) : (et l j).ga < 18446744073709551616 := by
  unfold et
  cases hx : l[j]? with
  | none => decide
  | some x => exact h x (List.mem_of_getElem? hx)
theorem givS_lt {l : List Tr} (h : SzT l) (c : Int) (S : List Int) : ∀ x ∈ givS l c S, x < 18446744073709551616 := by
  intro x hx
  unfold givS at hx
  obtain ⟨j, _, rfl⟩ := List.mem_map.1 hx
  exact SzT_at h _
theorem Us_own {w : World} {v : Value} {l : List Nat} {base : Nat} (h : w.ownsRow base 38 1 v l.length (uv l)) (hs : ∀ x ∈ l, x < 18446744073709551616) : ∃ A c, v = .slice A l.length c ∧ Us w A c l := by
  rcases h.2 with ⟨rfl, h0⟩ | ⟨g, cap, cur, rfl, hb, hg, hnc, hcm, _, _⟩
  · have : l = [] := List.eq_nil_of_length_eq_zero h0
    subst this
    exact ⟨none, 0, rfl, by simp, hs, fun j x hx => by simp at hx⟩
  · refine ⟨_, cap, rfl, by unfold maxLen at hcm; omega, hs, fun j x hx => ⟨_, rfl, hnc, ?_⟩⟩
    exact h.cells (g := g) rfl j _ (by unfold uv; rw [List.getElem?_map, hx]; rfl)
theorem u_own_grew {W W' : World} {base : Nat} {v : Value} {n : Nat} {xs : List Value} (h : W.ownsRow base 38 1 v n xs) (hg : Grew W W') : W'.ownsRow base 38 1 v n xs := by
  refine ⟨h.1, ?_⟩
  rcases h.2 with h0 | ⟨g, cap, cur, h1, h2, h3, h4⟩
  · exact .inl h0
  · exact .inr ⟨g, cap, cur, h1, h2, keepB h3 hg, h4⟩
theorem take_snoc' (S : List Int) (i : Nat) (hi : i < S.length) : S.take (i + 1) = S.take i ++ [S[i]] := by
  rw [List.take_add_one, List.getElem?_eq_getElem hi]
  rfl
/-- What Held answers. -/
def heldP (l : List Tr) (c : Int) : Nat × Int := if coinB c = false then (0, 1) else sumN (givS l c (usl l)) 0
set_option maxHeartbeats 2000000 in
theorem held_any (v : Value) (l : List Tr) (c : Int) (w : World) (h : Trs w v l) (hl : l.length * 72 ≤ 140737488355328) (hs : SzT l) :
    Calls Try.prog 13 #[v, .int .i64 c] w fun e w' => e = .returned (two (heldP l c)) ∧ Grew w w' := by
  have HL := Lib.hid h
  have HCO := Lib.hid (fun W => coin_any c W)
  have HROW := Lib.hid (fun W (hg : Grew w W) => tr_row W v l (h.grew hg) hl)
  have HSL := Lib.hid (fun W b (hr : RowR W b l) => tr_slots W b l hr hl)
  have HAT := Lib.hid (fun i hi => uptoG_at ztr (fun x : Tr => x.used) l l.length i hi)
  have hul := uptoG_len ztr (fun x : Tr => x.used) l l.length
  have HLT := Lib.hid (givS_lt hs c)
  unfold heldP usl
  generalize uptoG ztr (fun x : Tr => x.used) l l.length = S at *
  have HSB : Hid (S.length * 72 ≤ 140737488355328) := Lib.hid (by omega)
  have HSU : Hid (∀ i (hi : i < S.length), ∃ j : Nat, S[i] = j ∧ j < l.length) := Lib.hid fun i hi => by
    obtain ⟨j, h1, h2, _⟩ := HAT.out i hi
    exact ⟨j, h1, h2⟩
  obtain ⟨A, cp, rfl, _⟩ := h.slice
  clear h hl hs hul HAT
  cases hc : coinB c with
  | false =>
    rw [hc] at HCO
    simp only [if_true]
    clear hc
    unfold two
    go_enter Try.func13, Try.ntmps13
    go_wp2_with fail
    refine (HCO.out _).mono ?_
    rintro e w1 ⟨rfl, hg⟩
    have G1 := Lib.hid hg
    clear hg
    go_wp2
    go_returns
    exact ⟨rfl, G1.out⟩
  | true =>
    rw [hc] at HCO
    simp only [Bool.true_eq_false, if_false]
    clear hc
    obtain ⟨RES, hRES⟩ : ∃ RES, sumN (givS l c S) 0 = RES := ⟨_, rfl⟩
    rw [hRES]
    have HRES := Lib.hid hRES
    clear hRES
    unfold two
    go_enter Try.func13, Try.ntmps13
    go_wp2_with fail
    refine (HCO.out _).mono ?_
    rintro e w1 ⟨rfl, hg⟩
    have G1 := Lib.hid hg
    clear hg
    go_wp2_with fail
    refine (HROW.out _ G1.out).mono ?_
    rintro e w2 ⟨b, rfl, hr, hg⟩
    have G2 := Lib.hid (G1.out.trans hg)
    have HSC := Lib.hid (HSL.out _ _ hr)
    clear hr hg
    go_wp2_with fail
    refine HSC.out.mono ?_
    rintro e w3 ⟨vS, rfl, hown, hg⟩
    have G3 := Lib.hid (G2.out.trans hg)
    have hIs := Is.of_own hown rfl
    have HIS := Lib.hid hIs
    obtain ⟨AS, cS, rfl, _⟩ := Is.slice hIs
    clear hown hg hIs HSC HSL HROW HCO
    go_wp2
    go_loopg [6, 16] S.length (fun g s6 s16 wx => ∃ (i : Nat) (v6 : Value), i + g = S.length ∧ v6 = s6 ∧ s16 = .int .i64 i ∧ Hid (wx.ownsRow w3.heap.size 38 1 s6 (givS l c (S.take i)).length (uv (givS l c (S.take i)))) ∧ Hid (Grew w3 wx))
    case atStart => exact ⟨0, _, by omega, rfl, rfl, Lib.hid (u_own_nil _ _), Lib.hid (Grew.refl _)⟩
    case round =>
      obtain ⟨i, v6, hig, rfl, rfl, HO, HG⟩ := hrel
      cases gk with
      | zero =>
        have hiz : ¬ ((i : Int) < (S.length : Int)) := by omega
        have HO2 : Hid (wr.ownsRow w3.heap.size 38 1 v6 (givS l c S).length (uv (givS l c S))) := Lib.hid (by
          have := HO.out
          rw [show i = S.length by omega, List.take_length] at this
          exact this)
        obtain ⟨A6, c6, rfl, hus⟩ := Us_own HO2.out (HLT.out S)
        have HSM := Lib.hid (sum_any A6 c6 _ wr hus)
        have GF := Lib.hid (G3.out.trans HG.out)
        rw [HRES.out] at HSM
        unfold two at HSM
        clear HO HO2 hus hig HLT HRES
        generalize givS l c S = U at *
        go_wp2_with fail
        refine HSM.out.mono ?_
        rintro e w5 ⟨rfl, hw⟩
        subst hw
        go_wp2
        go_returns
        exact ⟨rfl, GF.out⟩
      | succ g =>
        have hil : i < S.length := by omega
        have hiz : (i : Int) < (S.length : Int) := by omega
        have HIM : Hid (i + 1 + g = S.length) := Lib.hid (by omega)
        have HIW := Lib.hid (wr1b hil (by have := HSB.out; omega))
        obtain ⟨j, hSj, hj⟩ := HSU.out i hil
        have hts := take_snoc' S i hil
        rw [hSj] at hts
        have HXS : Hid (S[i]? = some (j : Int)) := Lib.hid (by rw [List.getElem?_eq_getElem hil, hSj])
        have HGL : Hid (((givS l c (S.take i)).length + 1) * 8 ≤ 140737488355328) := Lib.hid (by
          have h1 := givS_len l c (S.take i)
          rw [List.length_take] at h1
          have h2 := HSB.out
          have h3 : (givS l c (S.take i)).length ≤ S.length := by omega
          omega)
        have HGY : Hid ((et l j).gc = c → givS l c (S.take (i + 1)) = givS l c (S.take i) ++ [(et l j).ga]) := Lib.hid fun h => by rw [hts]; exact givS_yes l c _ j h
        have HGN : Hid (¬ (et l j).gc = c → givS l c (S.take (i + 1)) = givS l c (S.take i)) := Lib.hid fun h => by rw [hts]; exact givS_no l c _ j h
        have HXL := Lib.hid (et_get hj)
        have hj0 : ¬ (j : Int) < 0 := by omega
        have hj2 : (j : Int) < (l.length : Int) := by omega
        generalize et l j = x at *
        obtain ⟨u, a, b, gc, ga, gi, wc, wa, wi⟩ := x
        simp only at HGY HGN
        obtain ⟨adS, c9, e9, _, a0⟩ := Is_at (HIS.out.grew HG.out) HXS.out
        injection e9 with e1 e2 e3
        subst e1 e3
        clear e2
        obtain ⟨ad, c8, e8, _, d0, d1, d2, d3, d4, d5, d6, d7, d8⟩ := Trs_at (HL.out.grew (G3.out.trans HG.out)) HXL.out
        injection e8 with e1 e2 e3
        subst e1 e3
        clear e2 hts hSj hj hil hig HSU HXL HXS
        simp only at d0 d1 d2 d3 d4 d5 d6 d7 d8
        by_cases hgc : gc = c
        · have HE := Lib.hid (HGY.out hgc)
          obtain ⟨v', w4, hr, hown, hb⟩ := u_app_one wr w3.heap.size v6 (givS l c (S.take i)) ga HO.out HGL.out HG.out.size
          have HAPP := Lib.hid hr
          have HO2 := Lib.hid hown
          have HG2 : Hid (Grew w3 w4) := Lib.hid ((show Below w3.heap.size w3 wr from HG.out).trans hb)
          subst hgc
          clear hr hown hb HGY HGN
          go_wp2_with (at_builtin; refine wpList_app_want (.tmp 28) (.tmp 35) 64 (by rfl) (by rfl) _ _ rfl rfl v' w4 (by exact HAPP.out) ?_)
          go_roundg g
          case measure => omega
          case rel =>
            refine ⟨i + 1, _, HIM.out, rfl, by first | rfl | (simp; done) | rw [HIW.out], ?_, HG2⟩
            rw [HE.out]
            exact HO2
        · have HE := Lib.hid (HGN.out hgc)
          have hgc1 : (gc == c) = false := by simpa using hgc
          clear HGY HGN
          go_wp2
          go_roundg g
          case measure => omega
          case rel =>
            refine ⟨i + 1, _, HIM.out, rfl, by first | rfl | (simp; done) | rw [HIW.out], ?_, HG⟩
            rw [HE.out]
            exact HO
/-- How much of a coin is given, all together. -/
def heldN (l : List Tr) (c : Int) : Nat := ((l.filter fun x => x.used && decide (x.gc = c)).map fun x => x.ga).sum
theorem sumN_is : ∀ (L : List Nat) (s : Nat), s ≤ top → sumN L s = if s + L.sum ≤ top then (s + L.sum, 0) else (0, 7)
  | [], s, h => by simp [sumN, h]
  | n :: r, s, h => by
    rw [sumN]
    by_cases h1 : s + n ≤ top
    · have hp : plusN s n = (s + n, 0) := if_pos ⟨h, h1⟩
      rw [hp, if_pos rfl]
      rw [sumN_is r (s + n) h1, List.sum_cons, Nat.add_assoc]
    · have hp : plusN s n = (0, 7) := if_neg fun hh => h1 hh.2
      rw [hp, if_neg (by decide), List.sum_cons, if_neg (by omega)]
theorem givS_upto (l : List Tr) (c : Int) : ∀ k, k ≤ l.length → givS l c (uptoG ztr (fun x : Tr => x.used) l k) = ((l.take k).filter fun x => x.used && decide (x.gc = c)).map fun x => x.ga
  | 0, _ => rfl
  | k + 1, h => by
    have ih := givS_upto l c k (by omega)
    have hx : l[k]? = some l[k] := List.getElem?_eq_getElem (by omega)
    have he : et l k = l[k] := by unfold et; rw [hx]; rfl
    rw [List.take_add_one, hx, List.filter_append, List.map_append, ← ih]
    cases hu : l[k].used with
    | false =>
      rw [uptoG_no _ _ _ _ (by rw [hx]; exact hu)]
      simp [hu]
    | true =>
      rw [uptoG_yes _ _ _ _ (by rw [hx]; exact hu)]
      by_cases hc : l[k].gc = c
      · rw [givS_yes _ _ _ _ (by rw [he]; exact hc), he]
        simp [hu, hc]
      · rw [givS_no _ _ _ _ (by rw [he]; exact hc)]
        simp [hu, hc]
theorem held_is (l : List Tr) (c : Int) : heldP l c = if coinB c = false then (0, 1) else if heldN l c ≤ top then (heldN l c, 0) else (0, 7) := by
  unfold heldP usl
  rw [givS_upto l c _ (Nat.le_refl _), List.take_length, sumN_is _ _ (Nat.zero_le _), Nat.zero_add]
  rfl
end Go.Proofs.Ytcbaaeihppchiaa.PQ
