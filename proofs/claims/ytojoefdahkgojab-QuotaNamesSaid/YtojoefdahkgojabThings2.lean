/-
  What the program's rows of things answer.
  Conditions: a row's size.
-/
import Derived.Test.YtojoefdahkgojabThings
namespace Go.Proofs.Ytojoefdahkgojab.Things2
open Go Go.RowKit Go.Lib Go.Proofs.Ytojoefdahkgojab Go.Proofs.Ytojoefdahkgojab.Facts Go.Proofs.Ytojoefdahkgojab.Bytes Go.Proofs.Ytojoefdahkgojab.Ints Go.Proofs.Ytojoefdahkgojab.Things
open _root_.Go.Proofs.Ytojoefdahkgojab.Slot (two_cells blk_new blk_keep)
open _root_.Go.Proofs.Ytojoefdahkgojab.Row (own_grew)

/-- A row of things at b. -/
def Row2 (w : World) (b : Nat) (T : List (ByteArray × Int)) : Prop := ∃ sv, w.heap[b]? = some (.cells #[sv, .func (.func 20) #[] #[]] 54 (0, 0)) ∧ Ts w sv T
theorem Row2.grew {w w' : World} {b : Nat} {T : List (ByteArray × Int)} (h : Row2 w b T) (hg : Grew w w') : Row2 w' b T := by
  obtain ⟨sv, h1, h2⟩ := h
  exact ⟨sv, blk_keep h1 hg, h2.grew hg⟩

theorem made_row (w : World) (b : Nat) (sv : Value) (h : w.heap[b]? = some (.cells #[sv, .func (.func 20) #[] #[]] 54 (0, 0))) :
    Calls Try.prog 27 #[.pointer (some ⟨b, 0, none⟩)] w fun e w' => e = .returned (.bool true) ∧ w' = w := by
  obtain ⟨c0, c1⟩ := two_cells h
  clear h
  have hrun : ∀ w : World, (binOp BinOp.neq 46 (.func (.func 20) #[] #[]) .nilFunc).run Try.prog w = .ok (.bool true) w := fun _ => by kernel_rfl
  go_enter Try.func27, Try.ntmps27
  go_wp2
  go_returns
  exact ⟨rfl, rfl⟩

theorem of_any (w : World) (v : Value) (T : List (ByteArray × Int)) (h : Ts w v T) (hl : T.length * 24 ≤ 140737488355328) :
    Calls Try.prog 19 #[v, .func (.func 20) #[] #[]] w fun e w' => ∃ b, e = .returned (.pointer (some ⟨b, 0, none⟩)) ∧ Row2 w' b T ∧ Grew w w' := by
  have HC := Lib.hid (clone_any w v T h hl)
  clear h hl
  have hrun : ∀ w : World, (binOp BinOp.eql 46 (.func (.func 20) #[] #[]) .nilFunc).run Try.prog w = .ok (.bool false) w := fun _ => by kernel_rfl
  go_enter Try.func19, Try.ntmps19
  go_wp2_with fail
  refine HC.out.mono ?_
  rintro e w1 ⟨v', rfl, hown, hg⟩
  have HI := Lib.hid (Ts.of_own hown rfl)
  have HG := Lib.hid hg
  obtain ⟨A', c', rfl, _⟩ := id HI.out
  clear hown hg
  have HR : Hid (Row2 (w1.alloc (.cells #[.slice A' T.length c', .func (.func 20) #[] #[]] 54)) w1.heap.size T ∧ Grew w (w1.alloc (.cells #[.slice A' T.length c', .func (.func 20) #[] #[]] 54))) := by
    have ga : Grew w1 (w1.alloc (.cells #[.slice A' T.length c', .func (.func 20) #[] #[]] 54)) := by unfold Grew; go_grown
    exact Lib.hid ⟨⟨_, blk_new w1 _, HI.out.grew ga⟩, HG.out.trans ga⟩
  go_wp2
  go_returns
  exact ⟨_, rfl, HR.out.1, HR.out.2⟩

set_option maxRecDepth 100000 in
theorem has_out (w : World) (b : Nat) (T : List (ByteArray × Int)) (i : Int) (h : Row2 w b T) (hi : ¬ (0 ≤ i ∧ i < T.length)) :
    Calls Try.prog 22 #[.pointer (some ⟨b, 0, none⟩), .int .i64 i] w fun e w' => e = .returned (.bool false) ∧ Grew w w' := by
  obtain ⟨sv, h1, h2⟩ := h
  have HB := Lib.hid h1
  obtain ⟨c0, c1⟩ := two_cells h1
  obtain ⟨A, c, rfl, _⟩ := h2
  clear h1
  by_cases h0 : 0 ≤ i
  · have hi' : decide (i < (T.length : Int)) = false := decide_eq_false (by omega)
    go_enter Try.func22, Try.ntmps22
    go_wp2
    refine Facts.wp_region_text (by kernel_rfl) (by kernel_rfl) ?_
    apply Facts.Lex.exact [] _ (by kernel_rfl)
    · intro u W hC _
      have j0 := cellG hC c0
      have j1 := cellG hC c1
      unfold Facts.one
      go_simp
      first | exact ⟨Grew.refl _, rfl⟩ | rfl
    simp only [Act.put, List.setIfInBounds_toArray, List.set_cons_zero, List.set_cons_succ, Nat.zero_add, Nat.reduceAdd]
    apply Facts.Lex.exact [] _ (by kernel_rfl)
    · intro u W hC _
      have j0 := cellG hC c0
      have j1 := cellG hC c1
      unfold Facts.one
      go_simp
      exact ((made_row W b _ (blk_keep HB.out hC)).mono fun e w' ⟨he, hw⟩ => ⟨_, he, by rw [hw]; exact Grew.refl _, rfl⟩)
    simp only [Act.put, List.setIfInBounds_toArray, List.set_cons_zero, List.set_cons_succ, Nat.zero_add, Nat.reduceAdd]
    repeat
      apply Facts.Lex.exact [] _ (by kernel_rfl)
      · intro u W hC _
        have j0 := cellG hC c0
        have j1 := cellG hC c1
        unfold Facts.one
        go_simp
        first | exact ⟨Grew.refl _, rfl⟩ | rfl
      simp only [Act.put, List.setIfInBounds_toArray, List.set_cons_zero, List.set_cons_succ, Nat.zero_add, Nat.reduceAdd]
    refine Facts.Lex.done fun u W2 hC hL => ?_
    have G2 := Lib.hid hC
    clear hC hL
    go_wp2
    go_returns
    exact ⟨rfl, G2.out⟩
  · have h0' : decide (0 ≤ i) = false := decide_eq_false h0
    go_enter Try.func22, Try.ntmps22
    go_wp2
    refine Facts.wp_region_text (by kernel_rfl) (by kernel_rfl) ?_
    apply Facts.Lex.exact [] _ (by kernel_rfl)
    · intro u W hC _
      have j0 := cellG hC c0
      have j1 := cellG hC c1
      unfold Facts.one
      go_simp
      first | exact ⟨Grew.refl _, rfl⟩ | rfl
    simp only [Act.put, List.setIfInBounds_toArray, List.set_cons_zero, List.set_cons_succ, Nat.zero_add, Nat.reduceAdd]
    apply Facts.Lex.exact [] _ (by kernel_rfl)
    · intro u W hC _
      have j0 := cellG hC c0
      have j1 := cellG hC c1
      unfold Facts.one
      go_simp
      exact ((made_row W b _ (blk_keep HB.out hC)).mono fun e w' ⟨he, hw⟩ => ⟨_, he, by rw [hw]; exact Grew.refl _, rfl⟩)
    simp only [Act.put, List.setIfInBounds_toArray, List.set_cons_zero, List.set_cons_succ, Nat.zero_add, Nat.reduceAdd]
    repeat
      apply Facts.Lex.exact [] _ (by kernel_rfl)
      · intro u W hC _
        have j0 := cellG hC c0
        have j1 := cellG hC c1
        unfold Facts.one
        go_simp
        first | exact ⟨Grew.refl _, rfl⟩ | rfl
      simp only [Act.put, List.setIfInBounds_toArray, List.set_cons_zero, List.set_cons_succ, Nat.zero_add, Nat.reduceAdd]
    refine Facts.Lex.done fun u W2 hC hL => ?_
    have G2 := Lib.hid hC
    clear hC hL
    go_wp2
    go_returns
    exact ⟨rfl, G2.out⟩

set_option maxRecDepth 100000 in
theorem has_in (w : World) (b : Nat) (T : List (ByteArray × Int)) (k : Nat) (h : Row2 w b T) (hk : k < T.length) :
    Calls Try.prog 22 #[.pointer (some ⟨b, 0, none⟩), .int .i64 k] w fun e w' => e = .returned (.bool (named (nm T k))) ∧ Grew w w' := by
  obtain ⟨sv, h1, h2⟩ := h
  have HB := Lib.hid h1
  obtain ⟨c0, c1⟩ := two_cells h1
  obtain ⟨ad, c, rfl, hc, hcell, hcell2⟩ := h2.cell hk
  clear h1 h2
  have hk' : (k : Int) < (T.length : Int) := by omega
  generalize nm T k = s at *
  generalize nn T k = n at *
  go_enter Try.func22, Try.ntmps22
  go_wp2
  refine Facts.wp_region_text (by kernel_rfl) (by kernel_rfl) ?_
  apply Facts.Lex.exact [] _ (by kernel_rfl)
  · intro u W hC _
    have j0 := cellG hC c0
    have j1 := cellG hC c1
    unfold Facts.one
    go_simp
    first | exact ⟨Grew.refl _, rfl⟩ | rfl
  simp only [Act.put, List.setIfInBounds_toArray, List.set_cons_zero, List.set_cons_succ, Nat.zero_add, Nat.reduceAdd]
  apply Facts.Lex.exact [] _ (by kernel_rfl)
  · intro u W hC _
    have j0 := cellG hC c0
    have j1 := cellG hC c1
    unfold Facts.one
    go_simp
    exact ((made_row W b _ (blk_keep HB.out hC)).mono fun e w' ⟨he, hw⟩ => ⟨_, he, by rw [hw]; exact Grew.refl _, rfl⟩)
  simp only [Act.put, List.setIfInBounds_toArray, List.set_cons_zero, List.set_cons_succ, Nat.zero_add, Nat.reduceAdd]
  repeat
    apply Facts.Lex.exact [] _ (by kernel_rfl)
    · intro u W hC _
      have j0 := cellG hC c0
      have j1 := cellG hC c1
      have j2 := cellG hC hcell
      have j3 := cellG hC hcell2
      unfold Facts.one
      go_simp
      first | exact ⟨Grew.refl _, rfl⟩ | rfl
    simp only [Act.put, List.setIfInBounds_toArray, List.set_cons_zero, List.set_cons_succ, Nat.zero_add, Nat.reduceAdd]
  apply Facts.Lex.exact [] _ (by kernel_rfl)
  · intro u W hC _
    have j0 := cellG hC c0
    have j1 := cellG hC c1
    unfold Facts.one
    go_simp
    exact ((named_any s n W).mono fun e w' ⟨he, hg⟩ => ⟨_, he, hg, rfl⟩)
  simp only [Act.put, List.setIfInBounds_toArray, List.set_cons_zero, List.set_cons_succ, Nat.zero_add, Nat.reduceAdd]
  repeat
    apply Facts.Lex.exact [] _ (by kernel_rfl)
    · intro u W hC _
      have j0 := cellG hC c0
      have j1 := cellG hC c1
      unfold Facts.one
      go_simp
      first | exact ⟨Grew.refl _, rfl⟩ | rfl
    simp only [Act.put, List.setIfInBounds_toArray, List.set_cons_zero, List.set_cons_succ, Nat.zero_add, Nat.reduceAdd]
  refine Facts.Lex.done fun u W2 hC hL => ?_
  have G2 := Lib.hid hC
  clear hC hL
  go_wp2
  go_returns
  exact ⟨rfl, G2.out⟩

/-- The slots of those that have a name, among the first k. -/
def upto (T : List (ByteArray × Int)) (k : Nat) : List Int := ((List.range k).filter fun j => named (nm T j)).map Int.ofNat
theorem upto_yes (T : List (ByteArray × Int)) (k : Nat) (h : named (nm T k) = true) : upto T (k + 1) = upto T k ++ [(k : Int)] := by
  unfold upto
  rw [List.range_succ, List.filter_append, List.map_append]
  simp [h]
theorem upto_no (T : List (ByteArray × Int)) (k : Nat) (h : named (nm T k) = false) : upto T (k + 1) = upto T k := by
  unfold upto
  rw [List.range_succ, List.filter_append, List.map_append]
  simp [h]
theorem upto_len (T : List (ByteArray × Int)) (k : Nat) : (upto T k).length ≤ k := by
  unfold upto
  rw [List.length_map]
  exact Nat.le_trans (List.length_filter_le _ _) (by simp)

set_option maxRecDepth 100000 in
theorem slots_any (w : World) (b : Nat) (T : List (ByteArray × Int)) (h : Row2 w b T) (hl : T.length * 24 ≤ 140737488351232) :
    Calls Try.prog 28 #[.pointer (some ⟨b, 0, none⟩)] w fun e w' => ∃ v', e = .returned v' ∧ Is w' v' (upto T T.length) ∧ Grew w w' := by
  have HR := Lib.hid h
  obtain ⟨sv, h1, h2⟩ := h
  have HM := Lib.hid (made_row w b sv h1)
  obtain ⟨c0, c1⟩ := two_cells h1
  obtain ⟨A, c, rfl, hlc, hcm, _⟩ := h2
  clear h1
  unfold maxLen at hcm
  go_enter Try.func28, Try.ntmps28
  go_wp2_with fail
  refine HM.out.mono ?_
  rintro e w' ⟨rfl, hw⟩
  subst hw
  go_wp2
  clear c0 c1
  go_loopg [3, 13] T.length (fun g s3 s13 wx => ∃ (k : Nat) (v3 : Value), k + g = T.length ∧ v3 = s3 ∧ s13 = .int .i64 k ∧ Hid (wx.ownsRow w'.heap.size 3 1 s3 (upto T k).length (iv (upto T k))) ∧ Hid (Grew w' wx))
  case atStart => exact ⟨0, _, by omega, rfl, rfl, Lib.hid (own_nil _ _), Lib.hid (Grew.refl _)⟩
  case round =>
    obtain ⟨k, v3, hkg, rfl, rfl, HI, HG⟩ := hrel
    cases gk with
    | zero =>
      have hkz : ¬ ((k : Int) < (T.length : Int)) := by omega
      have HE : Hid (Is wr v3 (upto T T.length)) := Lib.hid (by
        have := Is.of_own HI.out rfl
        rw [show k = T.length by omega] at this
        exact this)
      go_wp2
      go_returns
      exact ⟨_, rfl, HE.out, HG.out⟩
    | succ g =>
      have hkz : (k : Int) < (T.length : Int) := by omega
      have HC := Lib.hid (has_in wr b T k (HR.out.grew HG.out) (by omega))
      have HY := Lib.hid (upto_yes T k)
      have HN := Lib.hid (upto_no T k)
      have hul := upto_len T k
      generalize named (nm T k) = t at HC HY HN
      cases t with
      | true =>
        have HE := Lib.hid (HY.out rfl)
        go_wp2_with fail
        refine HC.out.mono ?_
        rintro e w2 ⟨rfl, hg⟩
        have HG2 := Lib.hid (HG.out.trans hg)
        obtain ⟨v', w3, hr, hown, hb⟩ := app_one w2 w'.heap.size v3 (upto T k) (k : Int) (own_grew HI.out hg) (by omega) HG2.out.size
        have HAPP := Lib.hid hr
        have HO := Lib.hid hown
        have HG3 : Hid (Grew w' w3) := Lib.hid ((show Below w'.heap.size w' w2 from HG2.out).trans hb)
        clear hg hr hown hb
        go_wp2_with (at_builtin; refine wpList_app_want (.tmp 19) (.tmp 21) 22 (by rfl) (by rfl) _ _ rfl rfl v' w3 (by exact HAPP.out) ?_)
        go_roundg g
        case measure => omega
        case rel =>
          refine ⟨k + 1, _, by omega, rfl, by first | rfl | simp, ?_, HG3⟩
          rw [HE.out]
          exact HO
      | false =>
        have HE := Lib.hid (HN.out rfl)
        go_wp2_with fail
        refine HC.out.mono ?_
        rintro e w2 ⟨rfl, hg⟩
        have HG2 := Lib.hid (HG.out.trans hg)
        have HO := Lib.hid (own_grew HI.out hg)
        clear hg
        go_wp2
        go_roundg g
        case measure => omega
        case rel =>
          refine ⟨k + 1, _, by omega, rfl, by first | rfl | simp, ?_, HG2⟩
          rw [HE.out]
          exact HO

theorem count_any (w : World) (b : Nat) (T : List (ByteArray × Int)) (h : Row2 w b T) (hl : T.length * 24 ≤ 140737488351232) :
    Calls Try.prog 23 #[.pointer (some ⟨b, 0, none⟩)] w fun e w' => e = .returned (.int .i64 ((upto T T.length).length : Int)) ∧ Grew w w' := by
  have HC := Lib.hid (slots_any w b T h hl)
  clear h hl
  go_enter Try.func23, Try.ntmps23
  go_wp2_with fail
  refine HC.out.mono ?_
  rintro e w' ⟨v', rfl, hi, hg⟩
  obtain ⟨A, c, rfl, _⟩ := hi
  have HG := Lib.hid hg
  clear hg
  go_wp2
  go_returns
  exact ⟨rfl, HG.out⟩

theorem put_out (w : World) (b : Nat) (T : List (ByteArray × Int)) (i : Int) (s : ByteArray) (n : Int) (h : Row2 w b T) (hi : ¬ (0 ≤ i ∧ i < T.length)) :
    Calls Try.prog 21 #[.pointer (some ⟨b, 0, none⟩), .int .i64 i, .agg #[.string s, .int .i64 n]] w fun e w' => e = .returned (.tuple #[.slice none 0 0, .int .i64 1]) ∧ Grew w w' := by
  have ga : Grew w (w.alloc (.cells #[.string s, .int .i64 n] 43)) := by unfold Grew; go_grown
  obtain ⟨sv, h1, h2⟩ := h.grew ga
  have HM := Lib.hid (made_row _ b sv h1)
  obtain ⟨c0, c1⟩ := two_cells h1
  obtain ⟨A, c, rfl, hlc, hcm, _⟩ := h2
  have HG := Lib.hid ga
  clear h1 h ga
  unfold maxLen at hcm
  by_cases h0 : i < 0
  · clear hi
    go_enter Try.func21, Try.ntmps21
    go_wp2_with fail
    refine HM.out.mono ?_
    rintro e w' ⟨rfl, hw⟩
    subst hw
    go_wp2
    go_returns
    exact ⟨rfl, HG.out⟩
  · have hi' : (T.length : Int) ≤ i := by omega
    clear hi
    go_enter Try.func21, Try.ntmps21
    go_wp2_with fail
    refine HM.out.mono ?_
    rintro e w' ⟨rfl, hw⟩
    subst hw
    go_wp2
    go_returns
    exact ⟨rfl, HG.out⟩

/-- It hands back a row of its own, with these beside it. -/
def Own2 (w : World) (T : List (ByteArray × Int)) (f : Value → Value) (e : Ending) (w' : World) : Prop := ∃ v', e = .returned (f v') ∧ w'.ownsRow w.heap.size 43 2 v' T.length (tv T) ∧ Grew w w'

theorem put_in (w : World) (b : Nat) (T : List (ByteArray × Int)) (k : Nat) (s : ByteArray) (n : Int) (h : Row2 w b T) (hk : k < T.length) (hl : T.length * 24 ≤ 140737488351232) :
    Calls Try.prog 21 #[.pointer (some ⟨b, 0, none⟩), .int .i64 k, .agg #[.string s, .int .i64 n]] w (Own2 w (T.set k (s, n)) fun v' => .tuple #[v', .int .i64 0]) := by
  have ga : Grew w (w.alloc (.cells #[.string s, .int .i64 n] 43)) := by unfold Grew; go_grown
  have hbx : (w.alloc (.cells #[.string s, .int .i64 n] 43)).heap[w.heap.size]? = some (.cells #[.string s, .int .i64 n] 43 (0, 0)) := blk_new w _
  obtain ⟨sv, h1, h2⟩ := h.grew ga
  have HM := Lib.hid (made_row _ b sv h1)
  have HC := Lib.hid (clone_any _ sv T h2 (by omega))
  obtain ⟨c0, c1⟩ := two_cells h1
  obtain ⟨A, c, rfl, hlc, hcm, _⟩ := h2
  have HGA := Lib.hid ga
  have HBX := Lib.hid hbx
  clear h1 h ga hbx
  unfold maxLen at hcm
  have hk0 : ¬ ((k : Int) < 0) := by omega
  have hk1 : ¬ ((T.length : Int) ≤ k) := by omega
  go_enter Try.func21, Try.ntmps21
  go_wp2_with fail
  refine HM.out.mono ?_
  rintro e w' ⟨rfl, hw⟩
  subst hw
  go_wp2_with fail
  refine HC.out.mono ?_
  rintro e w1 ⟨v', rfl, hown, hg⟩
  obtain ⟨x0, x1⟩ := two_cells (blk_keep HBX.out hg)
  obtain ⟨g, cap, rfl, hbg, hgl⟩ := hown.form (by omega)
  have hcell := hown.cellAt (k * 2) (by omega)
  have hcell2 := hown.cellAt (k * 2 + 1) (by omega)
  obtain ⟨t1, t2⟩ := tv_get T k hk
  rw [t1] at hcell
  rw [t2] at hcell2
  have hfr := hown.frozenAt (k * 2)
  have hfr2 := hown.frozenAt (k * 2 + 1)
  obtain ⟨hs, _⟩ := hown.stored (k * 2) (.string s)
  obtain ⟨hs2, _⟩ := hs.stored (k * 2 + 1) (.int .i64 n)
  rw [tv_set] at hs2
  have HS := Lib.hid hs2
  have HG : Hid (Below w.heap.size w ((w1.setCell ⟨g, k * 2, none⟩ (.string s)).setCell ⟨g, k * 2 + 1, none⟩ (.int .i64 n))) := Lib.hid (by
    have hgw : w.heap.size ≤ g := by rw [World.size_alloc] at hbg; omega
    exact ((show Below w.heap.size w w1 from HGA.out.trans hg).setCell (p := ⟨g, k * 2, none⟩) hgw _).setCell (p := ⟨g, k * 2 + 1, none⟩) hgw _)
  clear hown hs hs2 hg c0 c1 t1 t2
  generalize nm T k = s0 at hcell
  generalize nn T k = n0 at hcell2
  go_wp2
  go_returns
  refine ⟨_, rfl, ?_, HG.out⟩
  rw [List.length_set]
  have := HS.out
  rw [World.size_alloc] at this
  exact this.mono (by omega)
end Go.Proofs.Ytojoefdahkgojab.Things2
