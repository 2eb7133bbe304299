/-
  The lowest free slot, all that are there, how many, and what comes of putting and adding.
  Conditions: a row's size.
-/
import Derived.Test.YtojoefdahkgojabSlot
import Derived.Laws.OwnMore
import Derived.Deep.Onto
namespace Go.Proofs.Ytojoefdahkgojab.Row
open Go Go.RowKit Go.Lib Go.Proofs.Ytojoefdahkgojab Go.Proofs.Ytojoefdahkgojab.Facts Go.Proofs.Ytojoefdahkgojab.Bytes Go.Proofs.Ytojoefdahkgojab.Ints Go.Proofs.Ytojoefdahkgojab.Slot

/-- The lowest free slot. -/
def first (l : List Int) : Option Nat := l.findIdx? fun x => x == 0
theorem first_hit (l : List Int) (k : Nat) (hk : k < l.length) (h : at_ l k = false) (hj : ∀ j, j < k → at_ l j = true) : first l = some k := by
  unfold first
  rw [List.findIdx?_eq_some_iff_getElem]
  unfold at_ at h hj
  refine ⟨hk, ?_, fun j hji => ?_⟩
  · simpa [hk] using h
  · have := hj j hji
    have hlt : j < l.length := by omega
    simpa [hlt] using this
theorem first_miss (l : List Int) (h : ∀ j, j < l.length → at_ l j = true) : first l = none := by
  unfold first
  rw [List.findIdx?_eq_none_iff]
  intro x hx
  obtain ⟨j, hj, rfl⟩ := List.getElem_of_mem hx
  have := h j hj
  unfold at_ at this
  simpa [hj] using this
theorem first_lt {l : List Int} {k : Nat} (h : first l = some k) : k < l.length ∧ l[k]?.getD 0 = 0 ∧ ∀ j, j < k → at_ l j = true := by
  unfold first at h
  rw [List.findIdx?_eq_some_iff_getElem] at h
  obtain ⟨h1, h2, h3⟩ := h
  refine ⟨h1, by simpa [h1] using h2, fun j hj => ?_⟩
  have := h3 j hj
  have hlt : j < l.length := by omega
  unfold at_
  simpa [hlt] using this
/-- Where, and the error. -/
def firstAt (l : List Int) : Int := (((first l).getD 0 : Nat) : Int)
def firstErr (l : List Int) : Int := if (first l).isSome then 0 else 8

theorem at_hit (l : List Int) (k : Nat) (hk : k < l.length) (h : at_ l k = false) (hj : ∀ j, j < k → at_ l j = true) : firstAt l = k ∧ firstErr l = 0 := by
  unfold firstAt firstErr
  rw [first_hit l k hk h hj]
  exact ⟨rfl, rfl⟩
theorem at_miss (l : List Int) (h : ∀ j, j < l.length → at_ l j = true) : firstAt l = 0 ∧ firstErr l = 8 := by
  unfold firstAt firstErr
  rw [first_miss l h]
  exact ⟨rfl, rfl⟩

theorem first_nil (w : World) : Calls Try.prog 8 #[.pointer none] w fun e w' => e = .returned (.tuple #[.int .i64 0, .int .i64 11]) ∧ w' = w := by
  go_enter Try.func8, Try.ntmps8
  go_wp2_with fail
  refine (made_nil _).mono ?_
  rintro e w' ⟨rfl, hw⟩
  subst hw
  go_wp2
  go_returns
  exact ⟨rfl, rfl⟩

set_option maxRecDepth 100000 in
theorem first_any (w : World) (b : Nat) (l : List Int) (h : Row w b l) :
    Calls Try.prog 8 #[.pointer (some ⟨b, 0, none⟩)] w fun e w' => e = .returned (.tuple #[.int .i64 (firstAt l), .int .i64 (firstErr l)]) ∧ Grew w w' := by
  have HR := Lib.hid h
  obtain ⟨sv, h1, h2⟩ := h
  have HM := Lib.hid (made_row w b sv h1)
  obtain ⟨c0, c1⟩ := two_cells h1
  obtain ⟨A, c, rfl, hlc, hcm, _⟩ := h2
  have HH := Lib.hid (at_hit l)
  have HX := Lib.hid (at_miss l)
  clear h1
  unfold maxLen at hcm
  generalize firstAt l = fa at *
  generalize firstErr l = fe at *
  go_enter Try.func8, Try.ntmps8
  go_wp2_with fail
  refine HM.out.mono ?_
  rintro e w' ⟨rfl, hw⟩
  subst hw
  go_wp2
  clear c0 c1
  go_loopg [13] l.length (fun g s13 wx => ∃ k : Nat, k + g = l.length ∧ s13 = .int .i64 k ∧ Hid (∀ j, j < k → at_ l j = true) ∧ Hid (Grew w' wx))
  case atStart => exact ⟨0, by omega, rfl, Lib.hid (fun j hj => absurd hj (by omega)), Lib.hid (Grew.refl _)⟩
  case round =>
    obtain ⟨k, hkg, rfl, HI, HG⟩ := hrel
    cases gk with
    | zero =>
      have hkz : ¬ ((k : Int) < (l.length : Int)) := by omega
      have HE := Lib.hid (HX.out fun j hj => HI.out j (by omega))
      go_wp2
      go_returns
      refine ⟨?_, HG.out⟩
      rw [HE.out.1, HE.out.2]
      rfl
    | succ g =>
      have hkz : (k : Int) < (l.length : Int) := by omega
      have HC := Lib.hid (has_in wr b l k (HR.out.grew HG.out) (by omega))
      have HS : Hid (at_ l k = true → ∀ j, j < k + 1 → at_ l j = true) := Lib.hid fun h j hj => by
        by_cases e : j = k
        · subst e; exact h
        · exact HI.out j (by omega)
      have HF : Hid (at_ l k = false → fa = k ∧ fe = 0) := Lib.hid fun h => HH.out k (by omega) h HI.out
      generalize at_ l k = t at HC HS HF
      cases t with
      | true =>
        have HT := Lib.hid (HS.out rfl)
        go_wp2_with fail
        refine HC.out.mono ?_
        rintro e w2 ⟨rfl, hg⟩
        have HG2 := Lib.hid (HG.out.trans hg)
        clear hg
        go_wp2
        go_roundg g
        case measure => omega
        case rel => exact ⟨k + 1, by omega, by first | rfl | simp, HT, HG2⟩
      | false =>
        have HE := Lib.hid (HF.out rfl)
        go_wp2_with fail
        refine HC.out.mono ?_
        rintro e w2 ⟨rfl, hg⟩
        have HG2 := Lib.hid (HG.out.trans hg)
        clear hg
        go_wp2
        go_returns
        refine ⟨?_, HG2.out⟩
        rw [HE.out.1, HE.out.2]
        rfl

/-- The slots of those that are there, among the first k. -/
def upto (l : List Int) (k : Nat) : List Int := ((List.range k).filter (at_ l)).map Int.ofNat
theorem upto_zero (l : List Int) : upto l 0 = [] := rfl
theorem upto_succ (l : List Int) (k : Nat) : upto l (k + 1) = if at_ l k = true then upto l k ++ [(k : Int)] else upto l k := by
  unfold upto
  rw [List.range_succ, List.filter_append, List.map_append]
  cases h : at_ l k <;> simp [h]
theorem upto_yes (l : List Int) (k : Nat) (h : at_ l k = true) : upto l (k + 1) = upto l k ++ [(k : Int)] := by rw [upto_succ, if_pos h]
theorem upto_no (l : List Int) (k : Nat) (h : at_ l k = false) : upto l (k + 1) = upto l k := by rw [upto_succ, if_neg (by simp [h])]
theorem upto_len (l : List Int) (k : Nat) : (upto l k).length ≤ k := by
  unfold upto
  rw [List.length_map]
  exact Nat.le_trans (List.length_filter_le _ _) (by simp)
/-- The slots of those that are there. -/
def slots (l : List Int) : List Int := upto l l.length

theorem own_grew {W W' : World} {base : Nat} {v : Value} {n : Nat} {xs : List Value} (h : W.ownsRow base 3 1 v n xs) (hg : Grew W W') : W'.ownsRow base 3 1 v n xs := by
  refine ⟨h.1, h.2.imp id fun ⟨g, cap, cur, h1, h2, h3, h4⟩ => ⟨g, cap, cur, h1, h2, ?_, h4⟩⟩
  exact blk_keep h3 hg

set_option maxRecDepth 100000 in
theorem slots_any (w : World) (b : Nat) (l : List Int) (h : Row w b l) (hl : l.length * 8 ≤ 140737488351232) :
    Calls Try.prog 15 #[.pointer (some ⟨b, 0, none⟩)] w fun e w' => ∃ v', e = .returned v' ∧ Is w' v' (slots l) ∧ Grew w w' := by
  have HR := Lib.hid h
  obtain ⟨sv, h1, h2⟩ := h
  have HM := Lib.hid (made_row w b sv h1)
  obtain ⟨c0, c1⟩ := two_cells h1
  obtain ⟨A, c, rfl, hlc, hcm, _⟩ := h2
  clear h1
  unfold maxLen at hcm
  go_enter Try.func15, Try.ntmps15
  go_wp2_with fail
  refine HM.out.mono ?_
  rintro e w' ⟨rfl, hw⟩
  subst hw
  go_wp2
  clear c0 c1
  go_loopg [3, 13] l.length (fun g s3 s13 wx => ∃ (k : Nat) (v3 : Value), k + g = l.length ∧ v3 = s3 ∧ s13 = .int .i64 k ∧ Hid (wx.ownsRow w'.heap.size 3 1 s3 (upto l k).length (iv (upto l k))) ∧ Hid (Grew w' wx))
  case atStart => exact ⟨0, _, by omega, rfl, rfl, Lib.hid (own_nil _ _), Lib.hid (Grew.refl _)⟩
  case round =>
    obtain ⟨k, v3, hkg, rfl, rfl, HI, HG⟩ := hrel
    cases gk with
    | zero =>
      have hkz : ¬ ((k : Int) < (l.length : Int)) := by omega
      have HE : Hid (Is wr v3 (slots l)) := Lib.hid (by
        have := Is.of_own HI.out rfl
        rw [show k = l.length by omega] at this
        exact this)
      go_wp2
      go_returns
      exact ⟨_, rfl, HE.out, HG.out⟩
    | succ g =>
      have hkz : (k : Int) < (l.length : Int) := by omega
      have HC := Lib.hid (has_in wr b l k (HR.out.grew HG.out) (by omega))
      have HY := Lib.hid (upto_yes l k)
      have HN := Lib.hid (upto_no l k)
      have hul := upto_len l k
      generalize at_ l k = t at HC HY HN
      cases t with
      | true =>
        go_wp2_with fail
        refine HC.out.mono ?_
        rintro e w2 ⟨rfl, hg⟩
        have HG2 := Lib.hid (HG.out.trans hg)
        obtain ⟨v', w3, hr, hown, hb⟩ := app_one w2 w'.heap.size v3 (upto l k) (k : Int) (own_grew HI.out hg) (by omega) HG2.out.size
        have HAPP := Lib.hid hr
        have HE := Lib.hid (HY.out (by simp))
        have HO := Lib.hid hown
        have HG3 : Hid (Grew w' w3) := Lib.hid ((show Below w'.heap.size w' w2 from HG2.out).trans hb)
        clear hg hr hown hb
        go_wp2_with (at_builtin; refine wpList_app_want (.tmp 19) (.tmp 21) 22 (by rfl) (by rfl) _ _ rfl rfl v' w3 (by exact HAPP.out) ?_)
        go_roundg g
        case measure => omega
        case rel =>
          refine ⟨k + 1, _, by omega, rfl, by first | rfl | simp, ?_, HG3⟩
          rw [HE.out]
          exact HO
      | false =>
        go_wp2_with fail
        refine HC.out.mono ?_
        rintro e w2 ⟨rfl, hg⟩
        have HG2 := Lib.hid (HG.out.trans hg)
        have HO := Lib.hid (own_grew HI.out hg)
        have HE := Lib.hid (HN.out (by simp))
        clear hg
        go_wp2
        go_roundg g
        case measure => omega
        case rel =>
          refine ⟨k + 1, _, by omega, rfl, by first | rfl | simp, ?_, HG2⟩
          rw [HE.out]
          exact HO

theorem slots_nil (w : World) : Calls Try.prog 15 #[.pointer none] w fun e w' => e = .returned (.slice none 0 0) ∧ w' = w := by
  go_enter Try.func15, Try.ntmps15
  go_wp2_with fail
  refine (made_nil _).mono ?_
  rintro e w' ⟨rfl, hw⟩
  subst hw
  go_wp2
  go_returns
  exact ⟨rfl, rfl⟩

theorem count_any (w : World) (b : Nat) (l : List Int) (h : Row w b l) (hl : l.length * 8 ≤ 140737488351232) :
    Calls Try.prog 17 #[.pointer (some ⟨b, 0, none⟩)] w fun e w' => e = .returned (.int .i64 ((slots l).length : Int)) ∧ Grew w w' := by
  have HC := Lib.hid (slots_any w b l h hl)
  clear h hl
  go_enter Try.func17, Try.ntmps17
  go_wp2_with fail
  refine HC.out.mono ?_
  rintro e w' ⟨v', rfl, hi, hg⟩
  obtain ⟨A, c, rfl, _⟩ := hi
  have HG := Lib.hid hg
  clear hg
  go_wp2
  go_returns
  exact ⟨rfl, HG.out⟩

theorem put_nil (i x : Int) (w : World) : Calls Try.prog 10 #[.pointer none, .int .i64 i, .int .i64 x] w fun e w' => e = .returned (.tuple #[.slice none 0 0, .int .i64 11]) ∧ w' = w := by
  go_enter Try.func10, Try.ntmps10
  go_wp2_with fail
  refine (made_nil _).mono ?_
  rintro e w' ⟨rfl, hw⟩
  subst hw
  go_wp2
  go_returns
  exact ⟨rfl, rfl⟩

theorem put_out (w : World) (b : Nat) (l : List Int) (i x : Int) (h : Row w b l) (hi : ¬ (0 ≤ i ∧ i < l.length)) :
    Calls Try.prog 10 #[.pointer (some ⟨b, 0, none⟩), .int .i64 i, .int .i64 x] w fun e w' => e = .returned (.tuple #[.slice none 0 0, .int .i64 1]) ∧ w' = w := by
  obtain ⟨sv, h1, h2⟩ := h
  have HM := Lib.hid (made_row w b sv h1)
  obtain ⟨c0, c1⟩ := two_cells h1
  obtain ⟨A, c, rfl, hlc, hcm, _⟩ := h2
  clear h1
  unfold maxLen at hcm
  by_cases h0 : i < 0
  · clear hi
    go_enter Try.func10, Try.ntmps10
    go_wp2_with fail
    refine HM.out.mono ?_
    rintro e w' ⟨rfl, hw⟩
    subst hw
    go_wp2
    go_returns
    exact ⟨rfl, rfl⟩
  · have hi' : (l.length : Int) ≤ i := by omega
    clear hi
    go_enter Try.func10, Try.ntmps10
    go_wp2_with fail
    refine HM.out.mono ?_
    rintro e w' ⟨rfl, hw⟩
    subst hw
    go_wp2
    go_returns
    exact ⟨rfl, rfl⟩

theorem iv_set (l : List Int) (k : Nat) (x : Int) : (iv l).set k (.int .i64 x) = iv (l.set k x) := by simp [iv, List.map_set]
/-- It hands back this row of its own, with these beside it. -/
def Own (w : World) (l : List Int) (f : Value → Value) (e : Ending) (w' : World) : Prop := ∃ v', e = .returned (f v') ∧ w'.ownsRow w.heap.size 3 1 v' l.length (iv l) ∧ Grew w w'

theorem put_in (w : World) (b : Nat) (l : List Int) (k : Nat) (x : Int) (h : Row w b l) (hk : k < l.length) (hl : l.length * 8 ≤ 140737488351232) :
    Calls Try.prog 10 #[.pointer (some ⟨b, 0, none⟩), .int .i64 k, .int .i64 x] w (Own w (l.set k x) fun v' => .tuple #[v', .int .i64 0]) := by
  obtain ⟨sv, h1, h2⟩ := h
  have HM := Lib.hid (made_row w b sv h1)
  have HC := Lib.hid (clone_any w sv l h2 (by omega))
  obtain ⟨c0, c1⟩ := two_cells h1
  obtain ⟨A, c, rfl, hlc, hcm, _⟩ := h2
  clear h1
  unfold maxLen at hcm
  have hk0 : ¬ ((k : Int) < 0) := by omega
  have hk1 : ¬ ((l.length : Int) ≤ k) := by omega
  go_enter Try.func10, Try.ntmps10
  go_wp2_with fail
  refine HM.out.mono ?_
  rintro e w' ⟨rfl, hw⟩
  subst hw
  go_wp2_with fail
  refine HC.out.mono ?_
  rintro e w1 ⟨v', rfl, hown, hg⟩
  obtain ⟨g, cap, rfl, hbg, hgl⟩ := hown.form (by omega)
  have hcell := hown.cellAt k (by omega)
  rw [iv_get l k hk] at hcell
  have hfr := hown.frozenAt k
  obtain ⟨hs, hgb⟩ := hown.stored k (.int .i64 x)
  rw [iv_set] at hs
  have HS := Lib.hid hs
  have HG : Hid (Grew w' (w1.setCell ⟨g, k, none⟩ (.int .i64 x))) := Lib.hid ((show Below w'.heap.size w' w1 from hg).setCell hbg _)
  clear hown hs hgb hg c0 c1
  generalize l[k]?.getD 0 = y at hcell
  go_wp2
  go_returns
  exact ⟨_, rfl, by rw [List.length_set]; exact HS.out, HG.out⟩

theorem add_full (w : World) (b : Nat) (l : List Int) (x : Int) (h : Row w b l) (hf : first l = none) :
    Calls Try.prog 12 #[.pointer (some ⟨b, 0, none⟩), .int .i64 x] w fun e w' => e = .returned (.tuple #[.slice none 0 0, .int .i64 0, .int .i64 8]) ∧ Grew w w' := by
  have h1 := first_any w b l h
  have ha : firstAt l = 0 := by unfold firstAt; rw [hf]; rfl
  have he : firstErr l = 8 := by unfold firstErr; rw [hf]; rfl
  rw [ha, he] at h1
  have H1 := Lib.hid h1
  clear h h1 ha he hf
  go_enter Try.func12, Try.ntmps12
  go_wp2_with fail
  refine H1.out.mono ?_
  rintro e w' ⟨rfl, hg⟩
  have HG := Lib.hid hg
  clear hg
  go_wp2
  go_returns
  exact ⟨rfl, HG.out⟩

theorem add_in (w : World) (b : Nat) (l : List Int) (k : Nat) (x : Int) (h : Row w b l) (hf : first l = some k) (hl : l.length * 8 ≤ 140737488351232) :
    Calls Try.prog 12 #[.pointer (some ⟨b, 0, none⟩), .int .i64 x] w (Own w (l.set k x) fun v' => .tuple #[v', .int .i64 k, .int .i64 0]) := by
  have h1 := first_any w b l h
  have ha : firstAt l = k := by unfold firstAt; rw [hf]; rfl
  have he : firstErr l = 0 := by unfold firstErr; rw [hf]; rfl
  rw [ha, he] at h1
  have H1 := Lib.hid h1
  have H2 : Hid (∀ W, Grew w W → Calls Try.prog 10 #[.pointer (some ⟨b, 0, none⟩), .int .i64 k, .int .i64 x] W (Own W (l.set k x) fun v' => .tuple #[v', .int .i64 0])) := Lib.hid fun W hg => put_in W b l k x (h.grew hg) (first_lt hf).1 hl
  clear h h1 ha he hf
  go_enter Try.func12, Try.ntmps12
  go_wp2_with fail
  refine H1.out.mono ?_
  rintro e w' ⟨rfl, hg⟩
  have HG := Lib.hid hg
  clear hg
  go_wp2_with fail
  refine (H2.out _ HG.out).mono ?_
  rintro e w2 ⟨v', rfl, hown, hg⟩
  obtain ⟨A', c', rfl⟩ : ∃ A' c', v' = .slice A' l.length c' := by
    obtain ⟨A', c', e, _⟩ := Is.of_own hown rfl
    rw [List.length_set] at e
    exact ⟨A', c', e⟩
  have HO := Lib.hid (hown.mono HG.out.size)
  have HG2 := Lib.hid (HG.out.trans hg)
  clear hg hown
  go_wp2
  go_returns
  exact ⟨_, rfl, HO.out, HG2.out⟩
end Go.Proofs.Ytojoefdahkgojab.Row
