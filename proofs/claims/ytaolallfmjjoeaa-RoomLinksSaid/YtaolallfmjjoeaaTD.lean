/-
  Rows of items, as the program keeps them: a clone, whether a slot is taken, the slots that are.
  Conditions: those that each lemma names.
-/
import Derived.Test.YtaolallfmjjoeaaTC
namespace Go.Proofs.Ytaolallfmjjoeaa.TD
set_option maxRecDepth 100000
open Go Go.RowKit Go.Lib Go.Proofs.Ytaolallfmjjoeaa Go.Proofs.Ytaolallfmjjoeaa.Facts Go.Proofs.Ytaolallfmjjoeaa.Ints Go.Proofs.Ytaolallfmjjoeaa.TI Go.Proofs.Ytaolallfmjjoeaa.TP Go.Proofs.Ytaolallfmjjoeaa.TB Go.Proofs.Ytaolallfmjjoeaa.TC Go.Proofs.Ytaolallfmjjoeaa.Bytes

theorem two_cells {W : World} {B t : Nat} {x y : Value} (h : W.heap[B]? = some (.cells #[x, y] t (0, 0))) :
    W.cell? ⟨B, 0, none⟩ = some x ∧ W.cell? ⟨B, 1, none⟩ = some y := by
  constructor <;> simp [World.cell?, h]
theorem blk_new (w : World) (o : Obj) : (w.alloc o).heap[w.heap.size]? = some o := heap_alloc_new w _
theorem blk_keep {w w' : World} {B : Nat} {o : Obj} (h : w.heap[B]? = some o) (hg : Grew w w') : w'.heap[B]? = some o := (hg.block _ (Array.getElem?_eq_some_iff.1 h).1).trans h

theorem own_grew {W W' : World} {base : Nat} {v : Value} {n : Nat} {xs : List Value} (h : W.ownsRow base 3 1 v n xs) (hg : Grew W W') : W'.ownsRow base 3 1 v n xs := by
  refine ⟨h.1, h.2.imp id fun ⟨g, cap, cur, h1, h2, h3, h4⟩ => ⟨g, cap, cur, h1, h2, ?_, h4⟩⟩
  exact blk_keep h3 hg

theorem ics_len (l : List It) : (l.flatMap ics).length = l.length * 6 := flat_len ics 6 (fun _ => rfl) l
theorem ics_one (l : List It) : ∀ u ∈ l.flatMap ics, u.oneCell' = true := flat_one ics (fun x u hu => by
  simp only [ics, List.mem_cons, List.not_mem_nil, or_false] at hu
  rcases hu with rfl | rfl | rfl | rfl | rfl | rfl <;> rfl) l
theorem info67 : (Try.prog.info? 67).map (fun i => (i.zero, i.size, i.bytes)) = some (some (.agg #[.bool false, .string ⟨#[]⟩, .int .i64 0, .int .i64 0, .int .i64 0, .int .i64 0]), 6, 56) := by kernel_rfl
/-- A row of items of the call's own. -/
abbrev OwnI (w : World) (base : Nat) (v : Value) (l : List It) : Prop := w.ownsRow base 67 6 v l.length (l.flatMap ics)
theorem Its.of_own {w : World} {v : Value} {l : List It} {base : Nat} (h : OwnI w base v l) : Its w v l := Rw.of_own h fun h => by rw [List.eq_nil_of_length_eq_zero h]; rfl
theorem app_row (W : World) (base : Nat) (v : Value) (l m : List It) (ad : Addr) (c : Nat) (hown : OwnI W base v l) (hm : ∀ j u, (m.flatMap ics)[j]? = some u → W.cell? (ad.add j) = some u) (hl : (l.length + m.length) * 56 ≤ 140737488355328) (hb : base ≤ W.heap.size) :
    ∃ v' w', (Builtin.append_ #[46, 46] 46 #[v, .slice (some ad) m.length c]).run Try.prog W = .ok v' w' ∧ OwnI w' base v' (l ++ m) ∧ Below base W w' := by
  obtain ⟨i0, hi, hx⟩ := Option.map_eq_some_iff.1 info67
  simp only [Prod.mk.injEq] at hx
  obtain ⟨hz0, hz1, hz2⟩ := hx
  obtain ⟨v', w', hr, h5, h6, _⟩ := run_append_own (P := Try.prog) W base 46 46 67 i0 (.agg #[.bool false, .string ⟨#[]⟩, .int .i64 0, .int .i64 0, .int .i64 0, .int .i64 0]) 6 56 Try.underlying46 hi hz0 hz1 hz2 rfl (by decide) v l.length (l.flatMap ics) hown ad m.length c (m.flatMap ics) (ics_len m) hm (ics_one m) (by unfold maxLen; omega) (by omega) hb
  refine ⟨v', w', hr, by unfold OwnI; rw [List.length_append, List.flatMap_append]; exact h5, ?_⟩
  exact below_of_grown W h6 hb fun k hk => by
    rcases hown.2 with ⟨rfl, _⟩ | ⟨g, cap, cur, rfl, hg, _⟩
    · simp [Value.ownBlock] at hk
    · simp [Value.ownBlock] at hk
      omega
/-- A clone. -/
theorem clone_any (w : World) (v : Value) (T : List It) (h : Its w v T) (hl : T.length ≤ 1000) :
    Calls Try.prog 72 #[v] w fun e w' => ∃ v', e = .returned v' ∧ OwnI w' w.heap.size v' T ∧ Grew w w' := by
  obtain ⟨A, c, rfl, h1, h2, h3, h4⟩ := h
  have q46 : ∀ (w : World) (a : Option Addr) (n c n' c' : Nat), (binOp .eql 46 (.slice a n c) (.slice none n' c')).run Try.prog w = .ok (.bool a.isNone) w := fun w a n c n' c' => Lib.run_eql_slice_nil w _ _ a n c n' c' Try.underlying46
  cases A with
  | none =>
    have h0 := h3 rfl
    have hn : T = [] := List.eq_nil_of_length_eq_zero (by omega)
    subst hn
    have HO : Hid (OwnI w w.heap.size (.slice none 0 0) []) := Lib.hid (World.ownsRow_nil w w.heap.size 67 6)
    clear h4 h3 h1 h2 h0
    go_enter Try.func72, Try.ntmps72
    go_wp2
    go_returns
    exact ⟨_, rfl, HO.out, Grew.refl _⟩
  | some ad =>
    have hown : OwnI (w.alloc (.cells #[] 67)) w.heap.size (.slice (some ⟨w.heap.size, 0, none⟩) 0 0) [] :=
      ⟨rfl, .inr ⟨w.heap.size, 0, #[], rfl, Nat.le_refl _, heap_alloc_new w _, Nat.le_refl _, Nat.zero_le _, rfl, rfl⟩⟩
    have ga : Grew w (w.alloc (.cells #[] 67)) := by unfold Grew; go_grown
    obtain ⟨v', w', hr, h5, h6⟩ := app_row (w.alloc (.cells #[] 67)) w.heap.size _ [] T ad c hown (fun j u hu => cellG ga (h4 ad rfl j u hu)) (by simp; omega) (by simp)
    rw [List.nil_append] at h5
    have HR := Lib.hid hr
    have HO := Lib.hid h5
    have HG : Hid (Grew w w') := Lib.hid ((show Below w.heap.size w _ from ga).trans h6)
    clear hown ga hr h5 h6 h4 h3
    go_enter Try.func72, Try.ntmps72
    go_wp2_with (at_builtin; refine wpList_app_want (.tmp 5) (.tmp 6) 46 (by rfl) (by rfl) _ _ rfl rfl v' w' (by exact HR.out) ?_)
    go_returns
    exact ⟨_, rfl, HO.out, HG.out⟩

theorem used_any (x : It) (w : World) : Calls Try.prog 96 #[iv6 x] w fun e w' => e = .returned (.bool x.used) ∧ Grew w w' := by
  unfold iv6
  obtain ⟨u, s, k, n, a, b⟩ := x
  go_enter Try.func96, Try.ntmps96
  go_wp2
  go_returns
  exact ⟨rfl, by unfold Grew; go_grown⟩

/-- A row of items at b. -/
def Row (w : World) (b : Nat) (T : List It) : Prop := ∃ sv, w.heap[b]? = some (.cells #[sv, .func (.func 96) #[] #[]] 129 (0, 0)) ∧ Its w sv T
theorem Row.grew {w w' : World} {b : Nat} {T : List It} (h : Row w b T) (hg : Grew w w') : Row w' b T := by
  obtain ⟨sv, h1, h2⟩ := h
  exact ⟨sv, blk_keep h1 hg, h2.grew hg⟩
theorem made_row (w : World) (b : Nat) (sv : Value) (h : w.heap[b]? = some (.cells #[sv, .func (.func 96) #[] #[]] 129 (0, 0))) :
    Calls Try.prog 101 #[.pointer (some ⟨b, 0, none⟩)] w fun e w' => e = .returned (.bool true) ∧ w' = w := by
  obtain ⟨c0, c1⟩ := two_cells h
  clear h
  have hrun : ∀ w : World, (binOp BinOp.neq 98 (.func (.func 96) #[] #[]) .nilFunc).run Try.prog w = .ok (.bool true) w := fun _ => by kernel_rfl
  go_enter Try.func101, Try.ntmps101
  go_wp2
  go_returns
  exact ⟨rfl, rfl⟩
theorem of_any (w : World) (v : Value) (T : List It) (h : Its w v T) (hl : T.length ≤ 1000) :
    Calls Try.prog 95 #[v, .func (.func 96) #[] #[]] w fun e w' => ∃ b, e = .returned (.pointer (some ⟨b, 0, none⟩)) ∧ Row w' b T ∧ Grew w w' := by
  have HC := Lib.hid (clone_any w v T h hl)
  obtain ⟨A, c, rfl, _⟩ := h
  clear hl
  have hrun : ∀ w : World, (binOp BinOp.eql 98 (.func (.func 96) #[] #[]) .nilFunc).run Try.prog w = .ok (.bool false) w := fun _ => by kernel_rfl
  go_enter Try.func95, Try.ntmps95
  go_wp2_with fail
  refine HC.out.mono ?_
  rintro e w1 ⟨v', rfl, hown, hg⟩
  have HI := Lib.hid (Its.of_own hown)
  have HG := Lib.hid hg
  obtain ⟨A', c', rfl, _⟩ := id HI.out
  clear hown hg
  have HR : Hid (Row (w1.alloc (.cells #[.slice A' T.length c', .func (.func 96) #[] #[]] 129)) w1.heap.size T ∧ Grew w (w1.alloc (.cells #[.slice A' T.length c', .func (.func 96) #[] #[]] 129))) := by
    have ga : Grew w1 (w1.alloc (.cells #[.slice A' T.length c', .func (.func 96) #[] #[]] 129)) := by unfold Grew; go_grown
    exact Lib.hid ⟨⟨_, blk_new w1 _, HI.out.grew ga⟩, HG.out.trans ga⟩
  go_wp2
  go_returns
  exact ⟨_, rfl, HR.out.1, HR.out.2⟩
theorem row_any (w : World) (v : Value) (T : List It) (h : Its w v T) (hl : T.length ≤ 1000) :
    Calls Try.prog 57 #[v] w fun e w' => ∃ b, e = .returned (.pointer (some ⟨b, 0, none⟩)) ∧ Row w' b T ∧ Grew w w' := by
  have HC := Lib.hid (of_any w v T h hl)
  obtain ⟨A, c, rfl, _⟩ := h
  clear hl
  go_enter Try.func57, Try.ntmps57
  go_wp2_with fail
  refine HC.out.mono ?_
  rintro e w1 ⟨b, rfl, hr, hg⟩
  have HR := Lib.hid hr
  have HG := Lib.hid hg
  clear hr hg
  go_wp2
  go_returns
  exact ⟨_, rfl, HR.out, HG.out⟩

theorem has_in (w : World) (b : Nat) (T : List It) (k : Nat) (h : Row w b T) (hk : k < T.length) :
    Calls Try.prog 112 #[.pointer (some ⟨b, 0, none⟩), .int .i64 k] w fun e w' => e = .returned (.bool (el T k).used) ∧ Grew w w' := by
  obtain ⟨sv, h1, h2⟩ := h
  have HB := Lib.hid h1
  obtain ⟨c0, c1⟩ := two_cells h1
  have hx : T[k]? = some (el T k) := by unfold el; rw [List.getElem?_eq_getElem hk]; rfl
  obtain ⟨ad, c, rfl, hc, d0, d1, d2, d3, d4, d5⟩ := Its_at h2 hx
  clear h1 h2 hx
  have hk' : (k : Int) < (T.length : Int) := by omega
  have HU := Lib.hid (fun W => used_any (el T k) W)
  unfold iv6 at HU
  generalize el T k = x at *
  go_enter Try.func112, Try.ntmps112
  go_wp2
  refine Facts.wp_region_text (by kernel_rfl) (by kernel_rfl) ?_
  apply Facts.Lex.exact [] _ (by kernel_rfl)
  · intro u W hC _
    have j0 := cellG hC c0
    have j1 := cellG hC c1
    unfold Facts.one
    go_simp
    first | exact ⟨Grew.refl _, rfl⟩ | rfl
  simp only [Act.put, List.setIfInBounds_toArray, List.set_cons_zero, List.set_cons_succ, Nat.zero_add]
  apply Facts.Lex.exact [] _ (by kernel_rfl)
  · intro u W hC _
    have j0 := cellG hC c0
    have j1 := cellG hC c1
    unfold Facts.one
    go_simp
    exact ((made_row W b _ (blk_keep HB.out hC)).mono fun e w' ⟨he, hw⟩ => ⟨_, he, by rw [hw]; exact Grew.refl _, rfl⟩)
  simp only [Act.put, List.setIfInBounds_toArray, List.set_cons_zero, List.set_cons_succ, Nat.reduceAdd]
  repeat
    apply Facts.Lex.exact [] _ (by kernel_rfl)
    · intro u W hC _
      have j0 := cellG hC c0
      have j1 := cellG hC c1
      have e0 := cellG hC d0
      have e1 := cellG hC d1
      have e2 := cellG hC d2
      have e3 := cellG hC d3
      have e4 := cellG hC d4
      have e5 := cellG hC d5
      unfold Facts.one
      go_simp
      first | exact ⟨Grew.refl _, rfl⟩ | rfl
    simp only [Act.put, List.setIfInBounds_toArray, List.set_cons_zero, List.set_cons_succ, Nat.reduceAdd]
  apply Facts.Lex.exact [] _ (by kernel_rfl)
  · intro u W hC _
    have j0 := cellG hC c0
    have j1 := cellG hC c1
    unfold Facts.one
    go_simp
    exact ((HU.out W).mono fun e w' ⟨he, hg⟩ => ⟨_, he, hg, rfl⟩)
  simp only [Act.put, List.setIfInBounds_toArray, List.set_cons_zero, List.set_cons_succ, Nat.reduceAdd]
  repeat
    apply Facts.Lex.exact [] _ (by kernel_rfl)
    · intro u W hC _
      have j0 := cellG hC c0
      have j1 := cellG hC c1
      unfold Facts.one
      go_simp
      first | exact ⟨Grew.refl _, rfl⟩ | rfl
    simp only [Act.put, List.setIfInBounds_toArray, List.set_cons_zero, List.set_cons_succ, Nat.reduceAdd]
  refine Facts.Lex.done fun u W2 hC hL => ?_
  have G2 := Lib.hid hC
  clear hC hL
  go_wp2
  go_returns
  exact ⟨rfl, G2.out⟩

theorem has_out (w : World) (b : Nat) (T : List It) (i : Int) (h : Row w b T) (hi : ¬ (0 ≤ i ∧ i < T.length)) :
    Calls Try.prog 112 #[.pointer (some ⟨b, 0, none⟩), .int .i64 i] w fun e w' => e = .returned (.bool false) ∧ Grew w w' := by
  obtain ⟨sv, h1, h2⟩ := h
  have HB := Lib.hid h1
  obtain ⟨c0, c1⟩ := two_cells h1
  obtain ⟨A, c, rfl, _⟩ := h2
  clear h1
  by_cases h0 : 0 ≤ i
  · have hi' : decide (i < (T.length : Int)) = false := decide_eq_false (by omega)
    go_enter Try.func112, Try.ntmps112
    go_wp2
    refine Facts.wp_region_text (by kernel_rfl) (by kernel_rfl) ?_
    apply Facts.Lex.exact [] _ (by kernel_rfl)
    · intro u W hC _
      have j0 := cellG hC c0
      have j1 := cellG hC c1
      unfold Facts.one
      go_simp
      first | exact ⟨Grew.refl _, rfl⟩ | rfl
    simp only [Act.put, List.setIfInBounds_toArray, List.set_cons_zero, List.set_cons_succ, Nat.zero_add]
    apply Facts.Lex.exact [] _ (by kernel_rfl)
    · intro u W hC _
      have j0 := cellG hC c0
      have j1 := cellG hC c1
      unfold Facts.one
      go_simp
      exact ((made_row W b _ (blk_keep HB.out hC)).mono fun e w' ⟨he, hw⟩ => ⟨_, he, by rw [hw]; exact Grew.refl _, rfl⟩)
    simp only [Act.put, List.setIfInBounds_toArray, List.set_cons_zero, List.set_cons_succ, Nat.reduceAdd]
    repeat
      apply Facts.Lex.exact [] _ (by kernel_rfl)
      · intro u W hC _
        have j0 := cellG hC c0
        have j1 := cellG hC c1
        unfold Facts.one
        go_simp
        first | exact ⟨Grew.refl _, rfl⟩ | rfl
      simp only [Act.put, List.setIfInBounds_toArray, List.set_cons_zero, List.set_cons_succ, Nat.reduceAdd]
    refine Facts.Lex.done fun u W2 hC hL => ?_
    have G2 := Lib.hid hC
    clear hC hL
    go_wp2
    go_returns
    exact ⟨rfl, G2.out⟩
  · have h0' : decide (0 ≤ i) = false := decide_eq_false h0
    go_enter Try.func112, Try.ntmps112
    go_wp2
    refine Facts.wp_region_text (by kernel_rfl) (by kernel_rfl) ?_
    apply Facts.Lex.exact [] _ (by kernel_rfl)
    · intro u W hC _
      have j0 := cellG hC c0
      have j1 := cellG hC c1
      unfold Facts.one
      go_simp
      first | exact ⟨Grew.refl _, rfl⟩ | rfl
    simp only [Act.put, List.setIfInBounds_toArray, List.set_cons_zero, List.set_cons_succ, Nat.zero_add]
    apply Facts.Lex.exact [] _ (by kernel_rfl)
    · intro u W hC _
      have j0 := cellG hC c0
      have j1 := cellG hC c1
      unfold Facts.one
      go_simp
      exact ((made_row W b _ (blk_keep HB.out hC)).mono fun e w' ⟨he, hw⟩ => ⟨_, he, by rw [hw]; exact Grew.refl _, rfl⟩)
    simp only [Act.put, List.setIfInBounds_toArray, List.set_cons_zero, List.set_cons_succ, Nat.reduceAdd]
    repeat
      apply Facts.Lex.exact [] _ (by kernel_rfl)
      · intro u W hC _
        have j0 := cellG hC c0
        have j1 := cellG hC c1
        unfold Facts.one
        go_simp
        first | exact ⟨Grew.refl _, rfl⟩ | rfl
      simp only [Act.put, List.setIfInBounds_toArray, List.set_cons_zero, List.set_cons_succ, Nat.reduceAdd]
    refine Facts.Lex.done fun u W2 hC hL => ?_
    have G2 := Lib.hid hC
    clear hC hL
    go_wp2
    go_returns
    exact ⟨rfl, G2.out⟩

theorem slots_any (w : World) (b : Nat) (T : List It) (h : Row w b T) (hl : T.length ≤ 1000) :
    Calls Try.prog 103 #[.pointer (some ⟨b, 0, none⟩)] w fun e w' => ∃ v', e = .returned v' ∧ w'.ownsRow w.heap.size 3 1 v' (upto T T.length).length (iv (upto T T.length)) ∧ Grew w w' := by
  have HR := Lib.hid h
  obtain ⟨sv, h1, h2⟩ := h
  have HM := Lib.hid (made_row w b sv h1)
  obtain ⟨c0, c1⟩ := two_cells h1
  obtain ⟨A, c, rfl, hlc, hcm, _⟩ := h2
  clear h1
  unfold maxLen at hcm
  go_enter Try.func103, Try.ntmps103
  go_wp2_with fail
  refine HM.out.mono ?_
  rintro e w' ⟨rfl, hw⟩
  subst hw
  go_wp2
  clear c0 c1
  go_loopg [3, 13] T.length (fun g s3 s13 wx => ∃ (k : Nat) (v3 : Value), k + g = T.length ∧ v3 = s3 ∧ s13 = .int .i64 k ∧ Hid (wx.ownsRow w'.heap.size 3 1 s3 (upto T k).length (iv (upto T k))) ∧ Hid (Grew w' wx))
  case atStart => exact ⟨0, _, by omega, rfl, rfl, Lib.hid (own_nil _ _), Lib.hid (Grew.refl _)⟩
  case round =>
    obtain ⟨k, v3, hkg, rfl, rfl, HI, HG⟩ := hrel
    cases gk with
    | zero =>
      have hkz : ¬ ((k : Int) < (T.length : Int)) := by omega
      have HE := HI
      rw [show k = T.length by omega] at HE
      go_wp2
      go_returns
      exact ⟨_, rfl, HE.out, HG.out⟩
    | succ g =>
      have hkz : (k : Int) < (T.length : Int) := by omega
      have HC := Lib.hid (has_in wr b T k (HR.out.grew HG.out) (by omega))
      have HY := Lib.hid (upto_yes T k)
      have HN := Lib.hid (upto_no T k)
      have hul := upto_len T k
      generalize (el T k).used = t at HC HY HN
      cases t with
      | true =>
        have HE := Lib.hid (HY.out rfl)
        go_wp2_with fail
        refine HC.out.mono ?_
        rintro e w2 ⟨rfl, hg⟩
        have HG2 := Lib.hid (HG.out.trans hg)
        obtain ⟨v', w3, hr, hown, hb⟩ := app_one w2 w'.heap.size v3 (upto T k) (k : Int) (own_grew HI.out hg) (by omega) HG2.out.size
        have HAPP := Lib.hid hr
        have HO := Lib.hid hown
        have HG3 : Hid (Grew w' w3) := Lib.hid ((show Below w'.heap.size w' w2 from HG2.out).trans hb)
        clear hg hr hown hb
        go_wp2_with (at_builtin; refine wpList_app_want (.tmp 19) (.tmp 21) 57 (by rfl) (by rfl) _ _ rfl rfl v' w3 (by exact HAPP.out) ?_)
        go_roundg g
        case measure => omega
        case rel =>
          refine ⟨k + 1, _, by omega, rfl, by first | rfl | simp, ?_, HG3⟩
          rw [HE.out]
          exact HO
      | false =>
        have HE := Lib.hid (HN.out rfl)
        go_wp2_with fail
        refine HC.out.mono ?_
        rintro e w2 ⟨rfl, hg⟩
        have HG2 := Lib.hid (HG.out.trans hg)
        have HO := Lib.hid (own_grew HI.out hg)
        clear hg
        go_wp2
        go_roundg g
        case measure => omega
        case rel =>
          refine ⟨k + 1, _, by omega, rfl, by first | rfl | simp, ?_, HG2⟩
          rw [HE.out]
          exact HO

end Go.Proofs.Ytaolallfmjjoeaa.TD
