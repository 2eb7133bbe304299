/-
  The document's own answers on rows of numbers: the lowest free slot, all that are there, what is put; and the program's once more, in the same words.
  Conditions: a row's size.
-/
import Derived.Test.YtojoefdahkgojabRow
namespace Go.Proofs.Ytojoefdahkgojab.Refs
open Go Go.RowKit Go.Lib Go.Proofs.Ytojoefdahkgojab Go.Proofs.Ytojoefdahkgojab.Facts Go.Proofs.Ytojoefdahkgojab.Bytes Go.Proofs.Ytojoefdahkgojab.Ints Go.Proofs.Ytojoefdahkgojab.Slot Go.Proofs.Ytojoefdahkgojab.Row

theorem ne_zero_at (l : List Int) (k : Nat) : (l[k]?.getD 0 == 0) = !at_ l k := by unfold at_; cases h : (l[k]?.getD 0 == 0) <;> simp_all

set_option maxRecDepth 100000 in
theorem rfirst_any (w : World) (v : Value) (l : List Int) (h : Is w v l) :
    Calls Try.prog 9 #[v] w fun e w' => e = .returned (.tuple #[.int .i64 (firstAt l), .int .i64 (firstErr l)]) ∧ w' = w := by
  have HL := Lib.hid h
  obtain ⟨A, c, rfl, hlc, hcm, _⟩ := h
  have HH := Lib.hid (at_hit l)
  have HX := Lib.hid (at_miss l)
  unfold maxLen at hcm
  generalize firstAt l = fa at *
  generalize firstErr l = fe at *
  go_enter Try.func9, Try.ntmps9
  go_wp2
  go_loopg [4] l.length (fun g s4 wx => ∃ k : Nat, k + g = l.length ∧ s4 = .int .i64 k ∧ Hid (∀ j, j < k → at_ l j = true) ∧ wx = w)
  case atStart => exact ⟨0, by omega, rfl, Lib.hid (fun j hj => absurd hj (by omega)), rfl⟩
  case round =>
    obtain ⟨k, hkg, rfl, HI, rfl⟩ := hrel
    cases gk with
    | zero =>
      have hkz : ¬ ((k : Int) < (l.length : Int)) := by omega
      have HE := Lib.hid (HX.out fun j hj => HI.out j (by omega))
      go_wp2
      go_returns
      refine ⟨?_, rfl⟩
      rw [HE.out.1, HE.out.2]
      rfl
    | succ g =>
      have hkz : (k : Int) < (l.length : Int) := by omega
      obtain ⟨ad, c', e, hcc, hcell⟩ := HL.out.cell (k := k) (by omega)
      injection e with e1 _ e3
      subst e1 e3
      have HS : Hid (at_ l k = true → ∀ j, j < k + 1 → at_ l j = true) := Lib.hid fun h j hj => by
        by_cases e : j = k
        · subst e; exact h
        · exact HI.out j (by omega)
      have HF : Hid (at_ l k = false → fa = k ∧ fe = 0) := Lib.hid fun h => HH.out k (by omega) h HI.out
      have ht : at_ l k = (l[k]?.getD 0 != 0) := rfl
      rw [ht] at HS HF
      clear ht
      generalize l[k]?.getD 0 = x at hcell HS HF
      by_cases hx : x = 0
      · subst hx
        have HE := Lib.hid (HF.out (by simp))
        go_wp2
        go_returns
        refine ⟨?_, rfl⟩
        rw [HE.out.1, HE.out.2]
        rfl
      · have HT := Lib.hid (HS.out (by simpa using hx))
        have hx' : (x == 0) = false := by simpa using hx
        go_wp2
        go_roundg g
        case measure => omega
        case rel => exact ⟨k + 1, by omega, by first | rfl | simp, HT, rfl⟩

set_option maxRecDepth 100000 in
theorem rslots_any (w : World) (v : Value) (l : List Int) (h : Is w v l) (hl : l.length * 8 ≤ 140737488351232) :
    Calls Try.prog 16 #[v] w fun e w' => ∃ v', e = .returned v' ∧ Is w' v' (slots l) ∧ Grew w w' := by
  have HL := Lib.hid h
  obtain ⟨A, c, rfl, hlc, hcm, _⟩ := h
  unfold maxLen at hcm
  go_enter Try.func16, Try.ntmps16
  go_wp2
  go_loopg [3, 4] l.length (fun g s3 s4 wx => ∃ (k : Nat) (v3 : Value), k + g = l.length ∧ v3 = s3 ∧ s4 = .int .i64 k ∧ Hid (wx.ownsRow w.heap.size 3 1 s3 (upto l k).length (iv (upto l k))) ∧ Hid (Grew w wx))
  case atStart => exact ⟨0, _, by omega, rfl, rfl, Lib.hid (own_nil _ _), Lib.hid (Grew.refl _)⟩
  case round =>
    obtain ⟨k, v3, hkg, rfl, rfl, HI, HG⟩ := hrel
    cases gk with
    | zero =>
      have hkz : ¬ ((k : Int) < (l.length : Int)) := by omega
      have HE : Hid (Is wr v3 (slots l)) := Lib.hid (by
        have := Is.of_own HI.out rfl
        rw [show k = l.length by omega] at this
        exact this)
      go_wp2
      go_returns
      exact ⟨_, rfl, HE.out, HG.out⟩
    | succ g =>
      have hkz : (k : Int) < (l.length : Int) := by omega
      obtain ⟨ad, c', e, hcc, hcell⟩ := (HL.out.grew HG.out).cell (k := k) (by omega)
      injection e with e1 _ e3
      subst e1 e3
      have HY := Lib.hid (upto_yes l k)
      have HN := Lib.hid (upto_no l k)
      have hul := upto_len l k
      have ht : at_ l k = (l[k]?.getD 0 != 0) := rfl
      rw [ht] at HY HN
      clear ht
      generalize l[k]?.getD 0 = x at hcell HY HN
      by_cases hx : x = 0
      · subst hx
        have HE := Lib.hid (HN.out (by simp))
        go_wp2
        go_roundg g
        case measure => omega
        case rel =>
          refine ⟨k + 1, _, by omega, rfl, by first | rfl | simp, ?_, HG⟩
          rw [HE.out]
          exact HI
      · have HE := Lib.hid (HY.out (by simpa using hx))
        have hx' : (x != 0) = true := by simpa using hx
        obtain ⟨v', w3, hr, hown, hb⟩ := app_one wr w.heap.size v3 (upto l k) (k : Int) HI.out (by omega) HG.out.size
        have HAPP := Lib.hid hr
        have HO := Lib.hid hown
        have HG3 : Hid (Grew w w3) := Lib.hid ((show Below w.heap.size w wr from HG.out).trans hb)
        clear hr hown hb
        go_wp2_with (at_builtin; refine wpList_app_want (.tmp 16) (.tmp 18) 22 (by rfl) (by rfl) _ _ rfl rfl v' w3 (by exact HAPP.out) ?_)
        go_roundg g
        case measure => omega
        case rel =>
          refine ⟨k + 1, _, by omega, rfl, by first | rfl | simp, ?_, HG3⟩
          rw [HE.out]
          exact HO

/-- What is put. -/
def putL (l : List Int) (i x : Int) : List Int := if 0 ≤ i ∧ i < l.length then l.set i.toNat x else []
def putE (l : List Int) (i : Int) : Int := if 0 ≤ i ∧ i < l.length then 0 else 1
/-- It hands back a row that reads so, and an error. -/
def Puts (w : World) (l : List Int) (n : Int) (e : Ending) (w' : World) : Prop := ∃ A c, e = .returned (.tuple #[.slice A l.length c, .int .i64 n]) ∧ Is w' (.slice A l.length c) l ∧ Grew w w'
theorem is_nil (w : World) : Is w (.slice none 0 0) [] := ⟨none, 0, rfl, Nat.le_refl _, Nat.zero_le _, fun _ => rfl, fun ad ha => by cases ha⟩

theorem put_any (w : World) (b : Nat) (l : List Int) (i x : Int) (h : Row w b l) (hl : l.length * 8 ≤ 140737488351232) :
    Calls Try.prog 10 #[.pointer (some ⟨b, 0, none⟩), .int .i64 i, .int .i64 x] w (Puts w (putL l i x) (putE l i)) := by
  unfold putL putE
  by_cases hi : 0 ≤ i ∧ i < l.length
  · rw [if_pos hi, if_pos hi]
    obtain ⟨k, rfl⟩ := Int.eq_ofNat_of_zero_le hi.1
    refine (put_in w b l k x h (by omega) hl).mono ?_
    rintro e w' ⟨v', rfl, hown, hg⟩
    have hI := Is.of_own hown rfl
    rw [Int.toNat_natCast]
    obtain ⟨A, c, rfl, _⟩ := id hI
    exact ⟨A, c, rfl, hI, hg⟩
  · rw [if_neg hi, if_neg hi]
    refine (put_out w b l i x h hi).mono ?_
    rintro e w' ⟨rfl, rfl⟩
    exact ⟨none, 0, rfl, is_nil _, Grew.refl _⟩

theorem set_take_lt (l : List Int) (i k : Nat) (x : Int) (hk : k < l.length) : (l.set i x).take (k + 1) = (l.set i x).take k ++ [if k = i then x else l[k]?.getD 0] := by
  rw [List.take_add_one, List.getElem?_eq_getElem (by rw [List.length_set]; exact hk), List.getElem_set]
  by_cases h : i = k
  · subst h; simp
  · rw [if_neg h, if_neg (fun e => h e.symm)]
    simp [hk]

set_option maxRecDepth 100000 in
theorem rput_in (w : World) (v : Value) (l : List Int) (i : Nat) (x : Int) (h : Is w v l) (hi : i < l.length) (hl : l.length * 8 ≤ 140737488351232) :
    Calls Try.prog 11 #[v, .int .i64 i, .int .i64 x] w (Puts w (l.set i x) 0) := by
  have HL := Lib.hid h
  obtain ⟨A, c, rfl, hlc, hcm, _⟩ := h
  unfold maxLen at hcm
  have hi0 : ¬ ((i : Int) < 0) := by omega
  have hi1 : ¬ ((l.length : Int) ≤ i) := by omega
  go_enter Try.func11, Try.ntmps11
  go_wp2
  go_loopg [8, 9] l.length (fun g s8 s9 wx => ∃ (k : Nat) (v3 : Value), k + g = l.length ∧ v3 = s8 ∧ s9 = .int .i64 k ∧ Hid (wx.ownsRow w.heap.size 3 1 s8 ((l.set i x).take k).length (iv ((l.set i x).take k))) ∧ Hid (Grew w wx))
  case atStart => exact ⟨0, _, by omega, rfl, rfl, Lib.hid (own_nil _ _), Lib.hid (Grew.refl _)⟩
  case round =>
    obtain ⟨k, v3, hkg, rfl, rfl, HI, HG⟩ := hrel
    cases gk with
    | zero =>
      have hkz : ¬ ((k : Int) < (l.length : Int)) := by omega
      have HE : Hid (Is wr v3 (l.set i x)) := Lib.hid (by
        have := Is.of_own HI.out rfl
        rw [List.take_of_length_le (by rw [List.length_set]; omega)] at this
        exact this)
      obtain ⟨A', c', hv, _⟩ := id HE.out
      subst hv
      go_wp2
      go_returns
      exact ⟨_, _, by simp, HE.out, HG.out⟩
    | succ g =>
      have hkz : (k : Int) < (l.length : Int) := by omega
      obtain ⟨ad, c', e, hcc, hcell⟩ := (HL.out.grew HG.out).cell (k := k) (by omega)
      injection e with e1 _ e3
      subst e1 e3
      have HT := Lib.hid (set_take_lt l i k x (by omega))
      have hul : ((l.set i x).take k).length ≤ k := List.length_take_le _ _
      have HUL := Lib.hid hul
      clear hul
      generalize l[k]?.getD 0 = y at hcell HT
      by_cases hx : k = i
      · subst hx
        obtain ⟨v', w3, hr, hown, hb⟩ := app_one wr w.heap.size v3 _ x HI.out (by have := HUL.out; omega) HG.out.size
        have HAPP := Lib.hid hr
        have HO := Lib.hid hown
        have HG3 : Hid (Grew w w3) := Lib.hid ((show Below w.heap.size w wr from HG.out).trans hb)
        have HE : Hid ((l.set k x).take (k + 1) = (l.set k x).take k ++ [x]) := Lib.hid (by rw [HT.out, if_pos rfl])
        clear hr hown hb
        go_wp2_with (at_builtin; refine wpList_app_want (.tmp 27) (.tmp 29) 22 (by rfl) (by rfl) _ _ rfl rfl v' w3 (by exact HAPP.out) ?_)
        go_roundg g
        case measure => omega
        case rel =>
          refine ⟨k + 1, _, by omega, rfl, by first | rfl | simp, ?_, HG3⟩
          rw [HE.out]
          exact HO
      · have hx' : ((k : Int) == (i : Int)) = false := by simp; omega
        obtain ⟨v', w3, hr, hown, hb⟩ := app_one wr w.heap.size v3 _ y HI.out (by have := HUL.out; omega) HG.out.size
        have HAPP := Lib.hid hr
        have HO := Lib.hid hown
        have HG3 : Hid (Grew w w3) := Lib.hid ((show Below w.heap.size w wr from HG.out).trans hb)
        have HE : Hid ((l.set i x).take (k + 1) = (l.set i x).take k ++ [y]) := Lib.hid (by rw [HT.out, if_neg hx])
        clear hr hown hb
        go_wp2_with (at_builtin; refine wpList_app_want (.tmp 31) (.tmp 36) 22 (by rfl) (by rfl) _ _ rfl rfl v' w3 (by exact HAPP.out) ?_)
        go_roundg g
        case measure => omega
        case rel =>
          refine ⟨k + 1, _, by omega, rfl, by first | rfl | simp, ?_, HG3⟩
          rw [HE.out]
          exact HO

theorem rput_any (w : World) (v : Value) (l : List Int) (i x : Int) (h : Is w v l) (hl : l.length * 8 ≤ 140737488351232) :
    Calls Try.prog 11 #[v, .int .i64 i, .int .i64 x] w (Puts w (putL l i x) (putE l i)) := by
  unfold putL putE
  by_cases hi : 0 ≤ i ∧ i < l.length
  · rw [if_pos hi, if_pos hi]
    obtain ⟨k, rfl⟩ := Int.eq_ofNat_of_zero_le hi.1
    rw [Int.toNat_natCast]
    exact rput_in w v l k x h (by omega) hl
  · rw [if_neg hi, if_neg hi]
    have HN := Lib.hid (is_nil w)
    obtain ⟨A, c, rfl, hlc, hcm, _⟩ := h
    unfold maxLen at hcm
    by_cases h0 : i < 0
    · clear hi
      go_enter Try.func11, Try.ntmps11
      go_wp2
      go_returns
      exact ⟨none, 0, rfl, HN.out, Grew.refl _⟩
    · have hi' : (l.length : Int) ≤ i := by omega
      clear hi
      go_enter Try.func11, Try.ntmps11
      go_wp2
      go_returns
      exact ⟨none, 0, rfl, HN.out, Grew.refl _⟩

/-- What is added. -/
def addL (l : List Int) (x : Int) : List Int := match first l with
  | some k => l.set k x
  | none => []
def Adds (w : World) (l : List Int) (x : Int) (e : Ending) (w' : World) : Prop := ∃ A c, e = .returned (.tuple #[.slice A (addL l x).length c, .int .i64 (firstAt l), .int .i64 (firstErr l)]) ∧ Is w' (.slice A (addL l x).length c) (addL l x) ∧ Grew w w'
theorem add_any (w : World) (b : Nat) (l : List Int) (x : Int) (h : Row w b l) (hl : l.length * 8 ≤ 140737488351232) :
    Calls Try.prog 12 #[.pointer (some ⟨b, 0, none⟩), .int .i64 x] w (Adds w l x) := by
  cases hf : first l with
  | none =>
    refine (add_full w b l x h hf).mono ?_
    rintro e w' ⟨rfl, hg⟩
    unfold Adds addL firstAt firstErr
    rw [hf]
    exact ⟨none, 0, rfl, is_nil _, hg⟩
  | some k =>
    refine (add_in w b l k x h hf hl).mono ?_
    rintro e w' ⟨v', rfl, hown, hg⟩
    have hI := Is.of_own hown rfl
    unfold Adds addL firstAt firstErr
    rw [hf]
    obtain ⟨A, c, rfl, _⟩ := id hI
    exact ⟨A, c, rfl, hI, hg⟩

theorem has_any (w : World) (b : Nat) (l : List Int) (i : Int) (h : Row w b l) :
    Calls Try.prog 18 #[.pointer (some ⟨b, 0, none⟩), .int .i64 i] w fun e w' => e = .returned (.bool (has l i)) ∧ Grew w w' := by
  unfold has
  by_cases hi : 0 ≤ i ∧ i < l.length
  · obtain ⟨k, rfl⟩ := Int.eq_ofNat_of_zero_le hi.1
    rw [decide_eq_true hi.1, decide_eq_true hi.2, Bool.true_and, Bool.true_and, Int.toNat_natCast]
    exact has_in w b l k h (by omega)
  · have : (decide (0 ≤ i) && (decide (i < (l.length : Int)) && at_ l i.toNat)) = false := by
      by_cases h0 : 0 ≤ i
      · rw [decide_eq_false (show ¬ i < (l.length : Int) by omega)]; simp
      · rw [decide_eq_false h0]; simp
    rw [this]
    exact has_out w b l i h hi
end Go.Proofs.Ytojoefdahkgojab.Refs
