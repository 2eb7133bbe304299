/-
  How much of a coin all orders hold.
  Conditions: those that each lemma names.
-/
import Derived.Test.YtmnfajplfnfgpaaOD
import Derived.Lib.Hide
namespace Go.Proofs.Ytmnfajplfnfgpaa.OE
set_option maxRecDepth 100000
open Go Go.RowKit Go.Lib Go.Proofs.Ytmnfajplfnfgpaa Go.Proofs.Ytmnfajplfnfgpaa.Facts Go.Proofs.Ytmnfajplfnfgpaa.Ints Go.Proofs.Ytmnfajplfnfgpaa.PA Go.Proofs.Ytmnfajplfnfgpaa.UM Go.Proofs.Ytmnfajplfnfgpaa.UB Go.Proofs.Ytmnfajplfnfgpaa.OA Go.Proofs.Ytmnfajplfnfgpaa.BP Go.Proofs.Ytmnfajplfnfgpaa.OB Go.Proofs.Ytmnfajplfnfgpaa.OC Go.Proofs.Ytmnfajplfnfgpaa.OD Go.Proofs.Ytmnfajplfnfgpaa.Bytes

/-- The slice v reads as the numbers l. -/
def Us (w : World) (A : Option Addr) (c : Nat) (l : List Nat) : Prop :=
  l.length ≤ 9223372036854775807 ∧ (∀ x ∈ l, x < 18446744073709551616) ∧ ∀ (j : Nat) (x : Nat), l[j]? = some x → ∃ ad, A = some ad ∧ l.length ≤ c ∧ w.cell? (ad.add j) = some (.int .u64 (x : Int))
theorem Us.grew {w w' : World} {A : Option Addr} {c : Nat} {l : List Nat} (h : Us w A c l) (hg : Grew w w') : Us w' A c l := by
  obtain ⟨h1, h2, h3⟩ := h
  refine ⟨h1, h2, fun j x hx => ?_⟩
  obtain ⟨ad, e, hc, k⟩ := h3 j x hx
  exact ⟨ad, e, hc, (hg.cell (World.block_lt_of_cell? _ _ k)).trans k⟩
def sumN : List Nat → Nat → Nat × Int
  | [], s => (s, 0)
  | n :: r, s => if (plusN s n).2 = 0 then sumN r (plusN s n).1 else (0, (plusN s n).2)
theorem plus_le (a b : Nat) (h : (plusN a b).2 = 0) : (plusN a b).1 ≤ top := by
  unfold plusN at h ⊢
  split
  · rename_i h1; exact h1.2
  · rename_i h1; rw [if_neg h1] at h; cases h
theorem sum_at (l : List Nat) (k s x : Nat) (h : l[k]? = some x) : sumN (l.drop k) s = if (plusN s x).2 = 0 then sumN (l.drop (k + 1)) (plusN s x).1 else (0, (plusN s x).2) := by
  have hk := (List.getElem?_eq_some_iff.1 h).1
  have he : l[k] = x := (List.getElem?_eq_some_iff.1 h).2
  rw [List.drop_eq_getElem_cons hk, he]
  rfl
set_option maxHeartbeats 1000000 in
theorem sum_any (A : Option Addr) (c : Nat) (l : List Nat) (w : World) (h : Us w A c l) :
    Calls Try.prog 36 #[.slice A l.length c] w fun e w' => e = .returned (two (sumN l 0)) ∧ w = w' := by
  have HU := Lib.hid h
  have hlen := h.1
  have HS0 : Hid (sumN (l.drop 0) 0 = sumN l 0) := Lib.hid (by rw [List.drop_zero])
  have HT0 : Hid (0 ≤ top) := Lib.hid (Nat.zero_le _)
  clear h
  obtain ⟨R, hR⟩ : ∃ R, sumN l 0 = R := ⟨_, rfl⟩
  rw [hR] at HS0 ⊢
  clear hR
  go_enter Try.func36, Try.ntmps36
  go_wp2
  go_loop [4, 11] (fun sa si => ∃ k s : Nat, k ≤ l.length ∧ sa = .int .u64 (s : Int) ∧ si = .int .i64 (k : Int) ∧ Hid (sumN (l.drop k) s = R) ∧ Hid (s ≤ top)) (fun sa si => l.length - (intOf si).toNat)
  case atStart => exact ⟨0, 0, Nat.zero_le _, rfl, rfl, HS0, HT0⟩
  case round =>
    obtain ⟨k, s, hk, rfl, rfl, HS, HT⟩ := hrel
    clear HS0 HT0
    by_cases hlt : k < l.length
    · obtain ⟨x, hx⟩ : ∃ x, l[k]? = some x := ⟨_, List.getElem?_eq_getElem hlt⟩
      obtain ⟨ad, hA, hcap, hc⟩ := HU.out.2.2 k x hx
      subst hA
      have hxl := HU.out.2.1 x (List.mem_of_getElem? hx)
      have hst := HT.out
      have HP := Lib.hid (plus_any s x (by unfold top at hst; omega) hxl)
      have HN := Lib.hid (sum_at l k s x hx)
      have HPL := Lib.hid (plus_le s x)
      clear hx hxl hst
      rcases hp : plusN s x with ⟨t, q⟩
      rw [hp] at HP HN HPL
      clear hp
      unfold two at HP
      have hkn : (k : Int) < (l.length : Int) := by omega
      by_cases h0 : q = 0
      · subst h0
        have HS2 : Hid (sumN (l.drop (k + 1)) t = R) := Lib.hid (by have := HN.out; rw [if_pos rfl, HS.out] at this; exact this.symm)
        have HT2 : Hid (t ≤ top) := Lib.hid (HPL.out rfl)
        clear HN HPL HS HT
        go_wp2_with fail
        refine (HP.out _).mono ?_
        rintro e w' ⟨rfl, rfl⟩
        go_wp2
        go_round
        case rel => exact ⟨k + 1, t, by omega, rfl, by first | rfl | go_num, HS2, HT2⟩
        case measure => simp [intOf]; omega
      · have d0 : (q == 0) = false := by simpa using h0
        have d1 : (q != 0) = true := by simpa using h0
        have HR : Hid (R = (0, q)) := Lib.hid (by have := HN.out; rw [if_neg (show ¬ (t, q).2 = 0 from h0), HS.out] at this; exact this)
        clear HN HPL HS HT h0
        go_wp2_with fail
        refine (HP.out _).mono ?_
        rintro e w' ⟨rfl, rfl⟩
        go_wp2
        rw [HR.out]
        unfold two
        go_ret2
        exact ⟨rfl, rfl⟩
    · have hkn : ¬ (k : Int) < (l.length : Int) := by omega
      have HR : Hid (R = (s, 0)) := Lib.hid (by rw [← HS.out, List.drop_of_length_le (by omega)]; rfl)
      clear hlt HS HT
      go_wp2
      rw [HR.out]
      unfold two
      go_ret2
      exact ⟨rfl, rfl⟩
theorem info23 : (Try.prog.info? 23).map (fun i => (i.zero, i.size, i.bytes)) = some (some (.int .u64 0), 1, 8) := by kernel_rfl
def uv (l : List Nat) : List Value := l.map fun n : Nat => Value.int .u64 (n : Int)
theorem uv_length (l : List Nat) : (uv l).length = l.length := by simp [uv]
theorem uv_append (l m : List Nat) : uv (l ++ m) = uv l ++ uv m := by simp [uv]
theorem uv_one (l : List Nat) : ∀ u ∈ uv l, u.oneCell' = true := by
  intro u hu
  obtain ⟨b, _, rfl⟩ := List.mem_map.1 hu
  rfl
theorem u_grown_below {W w' : World} {base : Nat} {v : Value} {n : Nat} {xs : List Value} (hown : W.ownsRow base 23 1 v n xs) (h6 : W.grownBy w' v.ownBlock) (hb : base ≤ W.heap.size) : Below base W w' :=
  below_of_grown W h6 hb fun k hk => by
    rcases hown.2 with ⟨rfl, _⟩ | ⟨g, cap, cur, rfl, hg, _⟩
    · simp [Value.ownBlock] at hk
    · simp [Value.ownBlock] at hk
      omega

theorem u_app_row (W : World) (base : Nat) (v : Value) (l m : List Nat) (ad : Addr) (c : Nat) (hown : W.ownsRow base 23 1 v l.length (uv l)) (hm : ∀ j u, (uv m)[j]? = some u → W.cell? (ad.add j) = some u) (hl : (l.length + m.length) * 8 ≤ 140737488355328) (hb : base ≤ W.heap.size) :
    ∃ v' w', (Builtin.append_ #[56, 56] 56 #[v, .slice (some ad) m.length c]).run Try.prog W = .ok v' w' ∧ w'.ownsRow base 23 1 v' (l ++ m).length (uv (l ++ m)) ∧ Below base W w' := by
  obtain ⟨i0, hi, hx⟩ := Option.map_eq_some_iff.1 info23
  simp only [Prod.mk.injEq] at hx
  obtain ⟨hz0, hz1, hz2⟩ := hx
  obtain ⟨v', w', hr, h5, h6, _⟩ := run_append_own (P := Try.prog) W base 56 56 23 i0 (.int .u64 0) 1 8 Try.underlying56 hi hz0 hz1 hz2 rfl Nat.one_pos v l.length (uv l) hown ad m.length c (uv m) (by rw [uv_length]; omega) hm (uv_one m) (by unfold maxLen; omega) (by omega) hb
  exact ⟨v', w', hr, by rw [List.length_append, uv_append]; exact h5, u_grown_below hown h6 hb⟩

theorem u_app_one (W : World) (base : Nat) (v : Value) (l : List Nat) (x : Nat) (hown : W.ownsRow base 23 1 v l.length (uv l)) (hl : (l.length + 1) * 8 ≤ 140737488355328) (hb : base ≤ W.heap.size) :
    ∃ v' w', (Builtin.append_ #[56, 56] 56 #[v, .slice (some ⟨W.heap.size, 0, none⟩) 1 1]).run Try.prog (W.alloc (.cells #[.int .u64 x] 23)) = .ok v' w' ∧ w'.ownsRow base 23 1 v' (l ++ [x]).length (uv (l ++ [x])) ∧ Below base W w' := by
  have ha : Below base W (W.alloc (.cells #[.int .u64 x] 23)) := (Below.refl _ _).alloc hb _
  obtain ⟨v', w', hr, h5, h6⟩ := u_app_row (W.alloc (.cells #[.int .u64 x] 23)) base v l [x] ⟨W.heap.size, 0, none⟩ 1 (hown.alloc _) (fun j u hu => by
    have hj : j = 0 := by
      have := (List.getElem?_eq_some_iff.1 hu).1
      simp [uv] at this
      exact this
    subst hj
    simp only [uv, List.map_cons, List.map_nil, List.getElem?_cons_zero, Option.some.injEq] at hu
    subst hu
    exact World.cell?_alloc_mark _ _ _ _ _) (by simpa using hl) (Nat.le_trans hb (by simp))
  exact ⟨v', w', hr, h5, ha.trans h6⟩

theorem u_own_nil (w : World) (base : Nat) : w.ownsRow base 23 1 (.slice none 0 0) 0 (uv []) := World.ownsRow_nil w base 23 1


theorem Us_own {w : World} {v : Value} {l : List Nat} {base : Nat} (h : w.ownsRow base 23 1 v l.length (uv l)) (hs : ∀ x ∈ l, x < 18446744073709551616) : ∃ A c, v = .slice A l.length c ∧ Us w A c l := by
  rcases h.2 with ⟨rfl, h0⟩ | ⟨g, cap, cur, rfl, hb, hg, hnc, hcm, _, _⟩
  · have : l = [] := List.eq_nil_of_length_eq_zero h0
    subst this
    exact ⟨none, 0, rfl, by simp, hs, fun j x hx => by simp at hx⟩
  · refine ⟨_, cap, rfl, by unfold maxLen at hcm; omega, hs, fun j x hx => ⟨_, rfl, hnc, ?_⟩⟩
    exact h.cells (g := g) rfl j _ (by unfold uv; rw [List.getElem?_map, hx]; rfl)
theorem u_own_grew {W W' : World} {base : Nat} {v : Value} {n : Nat} {xs : List Value} (h : W.ownsRow base 23 1 v n xs) (hg : Grew W W') : W'.ownsRow base 23 1 v n xs := by
  refine ⟨h.1, ?_⟩
  rcases h.2 with h0 | ⟨g, cap, cur, h1, h2, h3, h4⟩
  · exact .inl h0
  · exact .inr ⟨g, cap, cur, h1, h2, keepB h3 hg, h4⟩
theorem sumN_is : ∀ (L : List Nat) (s : Nat), s ≤ top → sumN L s = if s + L.sum ≤ top then (s + L.sum, 0) else (0, 7)
  | [], s, h => by simp [sumN, h]
  | n :: r, s, h => by
    rw [sumN]
    by_cases h1 : s + n ≤ top
    · have hp : plusN s n = (s + n, 0) := if_pos ⟨h, h1⟩
      rw [hp, if_pos rfl]
      rw [sumN_is r (s + n) h1, List.sum_cons, Nat.add_assoc]
    · have hp : plusN s n = (0, 7) := if_neg fun hh => h1 hh.2
      rw [hp, if_neg (by decide), List.sum_cons, if_neg (by omega)]

/-- The coin that an order gives. -/
def givC (x : Or) : Int := if x.side = 2 then x.base else x.quote
theorem gives_any (x : Or) (w : World) : Calls Try.prog 35 #[orv x] w fun e w' => e = .returned (.int .i64 (givC x)) ∧ Grew w w' := by
  obtain ⟨us, lb, wh, sd, bs, qt, pr, lf, rs, sq⟩ := x
  unfold orv givC
  simp only
  have G0 : Hid (Grew w (w.alloc (.cells #[.bool us, .int .i64 lb, .int .i64 wh, .int .i64 sd, .int .i64 bs, .int .i64 qt, .int .u64 (pr : Int), .int .u64 (lf : Int), .int .u64 (rs : Int), .int .i64 sq] 26))) := Lib.hid (by unfold Grew; go_grown)
  by_cases h : sd = 2
  · rw [if_pos h]
    have h1 : (sd == 2) = true := by simp [h]
    clear h
    go_enter Try.func35, Try.ntmps35
    go_wp2
    go_returns
    exact ⟨rfl, G0.out⟩
  · rw [if_neg h]
    have h1 : (sd == 2) = false := by simp [h]
    clear h
    go_enter Try.func35, Try.ntmps35
    go_wp2
    go_returns
    exact ⟨rfl, G0.out⟩
/-- What is held of a coin at these slots. -/
def gvS (l : List Or) (c : Int) (S : List Int) : List Nat := (S.filter fun j => decide (givC (eo l j.toNat) = c)).map fun j => (eo l j.toNat).res
theorem gvS_nil (l : List Or) (c : Int) : gvS l c [] = [] := rfl
theorem gvS_yes (l : List Or) (c : Int) (S : List Int) (j : Nat) (h : givC (eo l j) = c) : gvS l c (S ++ [(j : Int)]) = gvS l c S ++ [(eo l j).res] := by
  unfold gvS
  rw [List.filter_append, List.map_append]
  simp [h]
theorem gvS_no (l : List Or) (c : Int) (S : List Int) (j : Nat) (h : ¬ givC (eo l j) = c) : gvS l c (S ++ [(j : Int)]) = gvS l c S := by
  unfold gvS
  rw [List.filter_append]
  simp [h]
theorem gvS_len (l : List Or) (c : Int) (S : List Int) : (gvS l c S).length ≤ S.length := by
  unfold gvS
  rw [List.length_map]
  exact List.length_filter_le _ _
theorem res_at {l : List Or} (h : ∀ x ∈ l, WfO x) (j : Nat) : (eo l j).res < 18446744073709551616 := by
  unfold eo
  cases hx : l[j]? with
  | none => decide
  | some x => exact (h x (List.mem_of_getElem? hx)).1.2.2
theorem gvS_lt {l : List Or} (h : ∀ x ∈ l, WfO x) (c : Int) (S : List Int) : ∀ x ∈ gvS l c S, x < 18446744073709551616 := by
  intro x hx
  unfold gvS at hx
  obtain ⟨j, _, rfl⟩ := List.mem_map.1 hx
  exact res_at h _
/-- What Held answers. -/
def heldP (l : List Or) (c : Int) : Nat × Int := if coinB c = false then (0, 1) else sumN (gvS l c (usl l)) 0
set_option maxHeartbeats 2000000 in
theorem held_any (v : Value) (l : List Or) (c : Int) (w : World) (h : Ors w v l) (hl : l.length ≤ 1000) (hs : ∀ x ∈ l, WfO x) :
    Calls Try.prog 13 #[v, .int .i64 c] w fun e w' => e = .returned (two (heldP l c)) ∧ Grew w w' := by
  have HL := Lib.hid h
  have HCO := Lib.hid (fun W => coin_any c W)
  have HSL := Lib.hid (slots_any v l w h hl)
  have HAT := Lib.hid (fun i hi => uptoG_at zor (fun x : Or => x.used) l l.length i hi)
  have hul := usl_len l
  have HLT := Lib.hid (gvS_lt hs c)
  have HGA := Lib.hid gives_any
  unfold heldP usl at *
  generalize uptoG zor (fun x : Or => x.used) l l.length = S at *
  have HSB : Hid (S.length ≤ 1000) := Lib.hid (by omega)
  have HSU : Hid (∀ i (hi : i < S.length), ∃ j : Nat, S[i] = j ∧ j < l.length) := Lib.hid fun i hi => by
    obtain ⟨j, h1, h2, _⟩ := HAT.out i hi
    exact ⟨j, h1, h2⟩
  obtain ⟨A, cp, rfl, _⟩ := h.slice
  clear h hl hs hul HAT
  cases hc : coinB c with
  | false =>
    rw [hc] at HCO
    simp only [if_true]
    clear hc
    unfold two
    go_enter Try.func13, Try.ntmps13
    go_wp2_with fail
    refine (HCO.out _).mono ?_
    rintro e w1 ⟨rfl, rfl⟩
    go_wp2
    go_returns
    exact ⟨rfl, Grew.refl _⟩
  | true =>
    rw [hc] at HCO
    simp only [Bool.true_eq_false, if_false]
    clear hc
    obtain ⟨RES, hRES⟩ : ∃ RES, sumN (gvS l c S) 0 = RES := ⟨_, rfl⟩
    rw [hRES]
    have HRES := Lib.hid hRES
    clear hRES
    unfold two
    go_enter Try.func13, Try.ntmps13
    go_wp2_with fail
    refine (HCO.out _).mono ?_
    rintro e w1 ⟨rfl, rfl⟩
    go_wp2_with fail
    refine HSL.out.mono ?_
    rintro e w3 ⟨vS, b, rfl, _, _, hown, hg⟩
    have G3 := Lib.hid hg
    have hIs := Is.of_own hown rfl
    have HIS := Lib.hid hIs
    obtain ⟨AS, cS, rfl, _⟩ := Is.slice hIs
    clear hown hg hIs HSL HCO
    go_wp2
    go_loopg [6, 15] S.length (fun g s6 s15 wx => ∃ (i : Nat) (v6 : Value), i + g = S.length ∧ v6 = s6 ∧ s15 = .int .i64 i ∧ Hid (wx.ownsRow w3.heap.size 23 1 s6 (gvS l c (S.take i)).length (uv (gvS l c (S.take i)))) ∧ Hid (Grew w3 wx))
    case atStart => exact ⟨0, _, by omega, rfl, rfl, Lib.hid (u_own_nil _ _), Lib.hid (Grew.refl _)⟩
    case round =>
      obtain ⟨i, v6, hig, rfl, rfl, HO, HG⟩ := hrel
      cases gk with
      | zero =>
        have hiz : ¬ ((i : Int) < (S.length : Int)) := by omega
        have HO2 : Hid (wr.ownsRow w3.heap.size 23 1 v6 (gvS l c S).length (uv (gvS l c S))) := Lib.hid (by
          have := HO.out
          rw [show i = S.length by omega, List.take_length] at this
          exact this)
        obtain ⟨A6, c6, rfl, hus⟩ := Us_own HO2.out (HLT.out S)
        have HSM := Lib.hid (sum_any A6 c6 _ wr hus)
        have GF := Lib.hid (G3.out.trans HG.out)
        rw [HRES.out] at HSM
        unfold two at HSM
        clear HO HO2 hus hig HLT HRES
        generalize gvS l c S = U at *
        go_wp2_with fail
        refine HSM.out.mono ?_
        rintro e w5 ⟨rfl, hw⟩
        subst hw
        go_wp2
        go_returns
        exact ⟨rfl, GF.out⟩
      | succ g =>
        have hil : i < S.length := by omega
        have hiz : (i : Int) < (S.length : Int) := by omega
        have HIM : Hid (i + 1 + g = S.length) := Lib.hid (by omega)
        have HIW := Lib.hid (wr1b hil (by have := HSB.out; omega))
        obtain ⟨j, hSj, hj⟩ := HSU.out i hil
        have hts := take_snoc' S i hil
        rw [hSj] at hts
        have HXS : Hid (S[i]? = some (j : Int)) := Lib.hid (by rw [List.getElem?_eq_getElem hil, hSj])
        have HGL : Hid (((gvS l c (S.take i)).length + 1) * 8 ≤ 140737488355328) := Lib.hid (by
          have h1 := gvS_len l c (S.take i)
          rw [List.length_take] at h1
          have h2 := HSB.out
          have h3 : (gvS l c (S.take i)).length ≤ S.length := by omega
          omega)
        have HGY : Hid (givC (eo l j) = c → gvS l c (S.take (i + 1)) = gvS l c (S.take i) ++ [(eo l j).res]) := Lib.hid fun h => by rw [hts]; exact gvS_yes l c _ j h
        have HGN : Hid (¬ givC (eo l j) = c → gvS l c (S.take (i + 1)) = gvS l c (S.take i)) := Lib.hid fun h => by rw [hts]; exact gvS_no l c _ j h
        have HXL := Lib.hid (eo_get hj)
        have HG1 := Lib.hid (HGA.out (eo l j))
        have hj0 : ¬ (j : Int) < 0 := by omega
        have hj2 : (j : Int) < (l.length : Int) := by omega
        generalize eo l j = x at *
        generalize hgx : givC x = gx at *
        clear hgx
        obtain ⟨us, lb, wh, sd, bs, qt, pr, lf, rs, sq⟩ := x
        simp only at HGY HGN
        unfold orv at HG1
        simp only at HG1
        obtain ⟨adS, c9, e9, _, a0⟩ := Is_at (HIS.out.grew HG.out) HXS.out
        injection e9 with e1 e2 e3
        subst e1 e3
        clear e2
        obtain ⟨ad, c8, e8, _, d0, d1, d2, d3, d4, d5, d6, d7, d8, d9⟩ := Ors_at (HL.out.grew (G3.out.trans HG.out)) HXL.out
        injection e8 with e1 e2 e3
        subst e1 e3
        clear e2 hts hSj hj hil hig HSU
        simp only at d0 d1 d2 d3 d4 d5 d6 d7 d8 d9
        by_cases hgc : gx = c
        · have HE := Lib.hid (HGY.out hgc)
          have hgc1 : (gx == c) = true := by simpa using hgc
          clear HGY HGN hgc
          go_wp2_with fail
          refine (HG1.out _).mono ?_
          rintro e w4 ⟨rfl, hg⟩
          have HG4 : Hid (Grew w3 w4) := Lib.hid (HG.out.trans hg)
          have HO4 := Lib.hid (u_own_grew HO.out hg)
          clear hg a0 d0 d1 d2 d3 d4 d5 d6 d7 d8 d9
          obtain ⟨ad', c8', e8, _, d0, d1, d2, d3, d4, d5, d6, d7, d8, d9⟩ := Ors_at (HL.out.grew (G3.out.trans HG4.out)) HXL.out
          injection e8 with e1 e2 e3
          cases e1
          clear e2 e3
          simp only at d8
          obtain ⟨v', w5, hr, hown, hb⟩ := u_app_one w4 w3.heap.size v6 (gvS l c (S.take i)) rs HO4.out HGL.out HG4.out.size
          have HAPP := Lib.hid hr
          have HO2 := Lib.hid hown
          have HG2 : Hid (Grew w3 w5) := Lib.hid ((show Below w3.heap.size w3 w4 from HG4.out).trans hb)
          clear hr hown hb
          go_wp2_with (at_builtin; refine wpList_app_want (.tmp 26) (.tmp 32) 56 (by rfl) (by rfl) _ _ rfl rfl v' w5 (by exact HAPP.out) ?_)
          go_roundg g
          case measure => omega
          case rel =>
            refine ⟨i + 1, _, HIM.out, rfl, by first | rfl | (simp; done) | rw [HIW.out], ?_, HG2⟩
            rw [HE.out]
            exact HO2
        · have HE := Lib.hid (HGN.out hgc)
          have hgc1 : (gx == c) = false := by simpa using hgc
          clear HGY HGN hgc
          go_wp2_with fail
          refine (HG1.out _).mono ?_
          rintro e w4 ⟨rfl, hg⟩
          have HG4 : Hid (Grew w3 w4) := Lib.hid (HG.out.trans hg)
          have HO4 := Lib.hid (u_own_grew HO.out hg)
          clear hg a0 d0 d1 d2 d3 d4 d5 d6 d7 d8 d9
          go_wp2
          go_roundg g
          case measure => omega
          case rel =>
            refine ⟨i + 1, _, HIM.out, rfl, by first | rfl | (simp; done) | rw [HIW.out], ?_, HG4⟩
            rw [HE.out]
            exact HO4
/-- How much of a coin is held, all together. -/
def heldN (l : List Or) (c : Int) : Nat := ((l.filter fun x => x.used && decide (givC x = c)).map fun x => x.res).sum
theorem gvS_upto (l : List Or) (c : Int) : ∀ k, k ≤ l.length → gvS l c (uptoG zor (fun x : Or => x.used) l k) = ((l.take k).filter fun x => x.used && decide (givC x = c)).map fun x => x.res
  | 0, _ => rfl
  | k + 1, h => by
    have ih := gvS_upto l c k (by omega)
    have hx : l[k]? = some l[k] := List.getElem?_eq_getElem (by omega)
    have he : eo l k = l[k] := by unfold eo; rw [hx]; rfl
    rw [List.take_add_one, hx, List.filter_append, List.map_append, ← ih]
    cases hu : l[k].used with
    | false =>
      rw [uptoG_no _ _ _ _ (by rw [hx]; exact hu)]
      simp [hu]
    | true =>
      rw [uptoG_yes _ _ _ _ (by rw [hx]; exact hu)]
      by_cases hc : givC l[k] = c
      · rw [gvS_yes _ _ _ _ (by rw [he]; exact hc), he]
        simp [hu, hc]
      · rw [gvS_no _ _ _ _ (by rw [he]; exact hc)]
        simp [hu, hc]
theorem held_is (l : List Or) (c : Int) : heldP l c = if coinB c = false then (0, 1) else if heldN l c ≤ top then (heldN l c, 0) else (0, 7) := by
  unfold heldP usl
  rw [gvS_upto l c _ (Nat.le_refl _), List.take_length, sumN_is _ _ (Nat.zero_le _), Nat.zero_add]
  rfl
end Go.Proofs.Ytmnfajplfnfgpaa.OE
