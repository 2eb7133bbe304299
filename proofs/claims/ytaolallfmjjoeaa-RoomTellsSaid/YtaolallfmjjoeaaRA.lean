/-
  Rows of rooms, as the program keeps them.
  Conditions: those that each lemma names.
-/
import Derived.Test.YtaolallfmjjoeaaTH
namespace Go.Proofs.Ytaolallfmjjoeaa.RA
set_option maxRecDepth 100000
open Go Go.RowKit Go.Lib Go.Proofs.Ytaolallfmjjoeaa Go.Proofs.Ytaolallfmjjoeaa.Facts Go.Proofs.Ytaolallfmjjoeaa.Ints Go.Proofs.Ytaolallfmjjoeaa.TI Go.Proofs.Ytaolallfmjjoeaa.TP Go.Proofs.Ytaolallfmjjoeaa.TB Go.Proofs.Ytaolallfmjjoeaa.TC Go.Proofs.Ytaolallfmjjoeaa.TD Go.Proofs.Ytaolallfmjjoeaa.TE Go.Proofs.Ytaolallfmjjoeaa.TH Go.Proofs.Ytaolallfmjjoeaa.Bytes


theorem two_c {W : World} {b t : Nat} {x y : Value} (h : W.heap[b]? = some (.cells #[x, y] t (0, 0))) : W.cell? ⟨b, 0, none⟩ = some x ∧ W.cell? ⟨b, 1, none⟩ = some y := by
  refine ⟨?_, ?_⟩
  all_goals rw [cell_of_row _ _ _ _ _ _ h]; rfl
theorem wr1b {j n : Nat} (h : j < n) (hn : n ≤ 4611686018427387904) : wrap64 ((j : Int) + 1) = ((j + 1 : Nat) : Int) := by unfold wrap64; omega

structure Rm where
  used : Bool
  name : ByteArray
deriving DecidableEq
def rcs (x : Rm) : List Value := [.bool x.used, .string x.name]
def rmv (x : Rm) : Value := .agg #[.bool x.used, .string x.name]
abbrev Rms (w : World) (v : Value) (l : List Rm) : Prop := Rw w v l.length (l.flatMap rcs)
theorem Rms_at {w : World} {v : Value} {l : List Rm} (h : Rms w v l) {k : Nat} {x : Rm} (hk : l[k]? = some x) :
    ∃ ad c, v = .slice (some ad) l.length c ∧ l.length ≤ c ∧ w.cell? (ad.add (k * 2)) = some (.bool x.used) ∧ w.cell? ⟨(ad.add (k * 2)).block, (ad.add (k * 2)).off + 1, none⟩ = some (.string x.name) := by
  obtain ⟨ad, c, e, hc, h0, h1⟩ := Rw.at (f := rcs) (n := 2) (fun _ => rfl) h hk (by decide)
  exact ⟨ad, c, e, hc, h0 _ rfl, h1 1 _ (by decide) rfl⟩
def zrm : Rm := ⟨false, ⟨#[]⟩⟩
def er (l : List Rm) (k : Nat) : Rm := l[k]?.getD zrm
theorem rcs_len (l : List Rm) : (l.flatMap rcs).length = l.length * 2 := flat_len rcs 2 (fun _ => rfl) l
theorem rcs_one (l : List Rm) : ∀ u ∈ l.flatMap rcs, u.oneCell' = true := flat_one rcs (fun x u hu => by
  simp only [rcs, List.mem_cons, List.not_mem_nil, or_false] at hu
  rcases hu with rfl | rfl <;> rfl) l
theorem info74 : (Try.prog.info? 74).map (fun i => (i.zero, i.size, i.bytes)) = some (some (.agg #[.bool false, .string ⟨#[]⟩]), 2, 24) := by kernel_rfl
abbrev OwnR (w : World) (base : Nat) (v : Value) (l : List Rm) : Prop := w.ownsRow base 74 2 v l.length (l.flatMap rcs)
theorem Rms.of_own {w : World} {v : Value} {l : List Rm} {base : Nat} (h : OwnR w base v l) : Rms w v l := Rw.of_own h fun h => by rw [List.eq_nil_of_length_eq_zero h]; rfl
theorem ro_app (W : World) (base : Nat) (v : Value) (l m : List Rm) (ad : Addr) (c : Nat) (hown : OwnR W base v l) (hm : ∀ j u, (m.flatMap rcs)[j]? = some u → W.cell? (ad.add j) = some u) (hl : (l.length + m.length) * 24 ≤ 140737488355328) (hb : base ≤ W.heap.size) :
    ∃ v' w', (Builtin.append_ #[22, 22] 22 #[v, .slice (some ad) m.length c]).run Try.prog W = .ok v' w' ∧ OwnR w' base v' (l ++ m) ∧ Below base W w' := by
  obtain ⟨i0, hi, hx⟩ := Option.map_eq_some_iff.1 info74
  simp only [Prod.mk.injEq] at hx
  obtain ⟨hz0, hz1, hz2⟩ := hx
  obtain ⟨v', w', hr, h5, h6, _⟩ := run_append_own (P := Try.prog) W base 22 22 74 i0 (.agg #[.bool false, .string ⟨#[]⟩]) 2 24 Try.underlying22 hi hz0 hz1 hz2 rfl (by decide) v l.length (l.flatMap rcs) hown ad m.length c (m.flatMap rcs) (rcs_len m) hm (rcs_one m) (by unfold maxLen; omega) (by omega) hb
  refine ⟨v', w', hr, by unfold OwnR; rw [List.length_append, List.flatMap_append]; exact h5, ?_⟩
  exact below_of_grown W h6 hb fun k hk => by
    rcases hown.2 with ⟨rfl, _⟩ | ⟨g, cap, cur, rfl, hg, _⟩
    · simp [Value.ownBlock] at hk
    · simp [Value.ownBlock] at hk
      omega
theorem ro_clone (w : World) (v : Value) (T : List Rm) (h : Rms w v T) (hl : T.length * 24 ≤ 140737488355328) :
    Calls Try.prog 106 #[v] w fun e w' => ∃ v', e = .returned v' ∧ OwnR w' w.heap.size v' T ∧ Grew w w' := by
  obtain ⟨A, c, rfl, h1, h2, h3, h4⟩ := h
  have q46 : ∀ (w : World) (a : Option Addr) (n c n' c' : Nat), (binOp .eql 22 (.slice a n c) (.slice none n' c')).run Try.prog w = .ok (.bool a.isNone) w := fun w a n c n' c' => Lib.run_eql_slice_nil w _ _ a n c n' c' Try.underlying22
  cases A with
  | none =>
    have h0 := h3 rfl
    have hn : T = [] := List.eq_nil_of_length_eq_zero (by omega)
    subst hn
    have HO : Hid (OwnR w w.heap.size (.slice none 0 0) []) := Lib.hid (World.ownsRow_nil w w.heap.size 74 2)
    clear h4 h3 h1 h2 h0
    go_enter Try.func106, Try.ntmps106
    go_wp2
    go_returns
    exact ⟨_, rfl, HO.out, Grew.refl _⟩
  | some ad =>
    have hown : OwnR (w.alloc (.cells #[] 74)) w.heap.size (.slice (some ⟨w.heap.size, 0, none⟩) 0 0) [] :=
      ⟨rfl, .inr ⟨w.heap.size, 0, #[], rfl, Nat.le_refl _, heap_alloc_new w _, Nat.le_refl _, Nat.zero_le _, rfl, rfl⟩⟩
    have ga : Grew w (w.alloc (.cells #[] 74)) := by unfold Grew; go_grown
    obtain ⟨v', w', hr, h5, h6⟩ := ro_app (w.alloc (.cells #[] 74)) w.heap.size _ [] T ad c hown (fun j u hu => cellG ga (h4 ad rfl j u hu)) (by simpa using hl) (by simp)
    rw [List.nil_append] at h5
    have HR := Lib.hid hr
    have HO := Lib.hid h5
    have HG : Hid (Grew w w') := Lib.hid ((show Below w.heap.size w _ from ga).trans h6)
    clear hown ga hr h5 h6 h4 h3
    go_enter Try.func106, Try.ntmps106
    go_wp2_with (at_builtin; refine wpList_app_want (.tmp 5) (.tmp 6) 22 (by rfl) (by rfl) _ _ rfl rfl v' w' (by exact HR.out) ?_)
    go_returns
    exact ⟨_, rfl, HO.out, HG.out⟩
theorem ro_used (x : Rm) (w : World) : Calls Try.prog 80 #[rmv x] w fun e w' => e = .returned (.bool x.used) ∧ Grew w w' := by
  unfold rmv
  go_enter Try.func80, Try.ntmps80
  go_wp2
  go_returns
  exact ⟨rfl, by unfold Grew; go_grown⟩
def RowR (w : World) (b : Nat) (T : List Rm) : Prop := ∃ sv, w.heap[b]? = some (.cells #[sv, .func (.func 80) #[] #[]] 135 (0, 0)) ∧ Rms w sv T
theorem RowR.grew {w w' : World} {b : Nat} {T : List Rm} (h : RowR w b T) (hg : Grew w w') : RowR w' b T := by
  obtain ⟨sv, h1, h2⟩ := h
  exact ⟨sv, blk_keep h1 hg, h2.grew hg⟩
theorem ro_made (w : World) (b : Nat) (sv : Value) (h : w.heap[b]? = some (.cells #[sv, .func (.func 80) #[] #[]] 135 (0, 0))) :
    Calls Try.prog 107 #[.pointer (some ⟨b, 0, none⟩)] w fun e w' => e = .returned (.bool true) ∧ w' = w := by
  obtain ⟨c0, c1⟩ := two_c h
  clear h
  have hrun : ∀ w : World, (binOp BinOp.neq 77 (.func (.func 80) #[] #[]) .nilFunc).run Try.prog w = .ok (.bool true) w := fun _ => by kernel_rfl
  go_enter Try.func107, Try.ntmps107
  go_wp2
  go_returns
  exact ⟨rfl, rfl⟩
theorem ro_of (w : World) (v : Value) (T : List Rm) (h : Rms w v T) (hl : T.length * 24 ≤ 140737488355328) :
    Calls Try.prog 79 #[v, .func (.func 80) #[] #[]] w fun e w' => ∃ b, e = .returned (.pointer (some ⟨b, 0, none⟩)) ∧ RowR w' b T ∧ Grew w w' := by
  have HC := Lib.hid (ro_clone w v T h hl)
  obtain ⟨A, c, rfl, _⟩ := h
  clear hl
  have hrun : ∀ w : World, (binOp BinOp.eql 77 (.func (.func 80) #[] #[]) .nilFunc).run Try.prog w = .ok (.bool false) w := fun _ => by kernel_rfl
  go_enter Try.func79, Try.ntmps79
  go_wp2_with fail
  refine HC.out.mono ?_
  rintro e w1 ⟨v', rfl, hown, hg⟩
  have HI := Lib.hid (Rms.of_own hown)
  have HG := Lib.hid hg
  obtain ⟨A', c', rfl, _⟩ := id HI.out
  clear hown hg
  have HR : Hid (RowR (w1.alloc (.cells #[.slice A' T.length c', .func (.func 80) #[] #[]] 135)) w1.heap.size T ∧ Grew w (w1.alloc (.cells #[.slice A' T.length c', .func (.func 80) #[] #[]] 135))) := by
    have ga : Grew w1 (w1.alloc (.cells #[.slice A' T.length c', .func (.func 80) #[] #[]] 135)) := by unfold Grew; go_grown
    exact Lib.hid ⟨⟨_, blk_new w1 _, HI.out.grew ga⟩, HG.out.trans ga⟩
  go_wp2
  go_returns
  exact ⟨_, rfl, HR.out.1, HR.out.2⟩
theorem ro_row (w : World) (v : Value) (T : List Rm) (h : Rms w v T) (hl : T.length * 24 ≤ 140737488355328) :
    Calls Try.prog 43 #[v] w fun e w' => ∃ b, e = .returned (.pointer (some ⟨b, 0, none⟩)) ∧ RowR w' b T ∧ Grew w w' := by
  have HC := Lib.hid (ro_of w v T h hl)
  obtain ⟨A, c, rfl, _⟩ := h
  clear hl
  go_enter Try.func43, Try.ntmps43
  go_wp2_with fail
  refine HC.out.mono ?_
  rintro e w1 ⟨b, rfl, hr, hg⟩
  have HR := Lib.hid hr
  have HG := Lib.hid hg
  clear hr hg
  go_wp2
  go_returns
  exact ⟨_, rfl, HR.out, HG.out⟩

theorem ro_has (w : World) (b : Nat) (T : List Rm) (k : Nat) (h : RowR w b T) (hk : k < T.length) :
    Calls Try.prog 108 #[.pointer (some ⟨b, 0, none⟩), .int .i64 k] w fun e w' => e = .returned (.bool (er T k).used) ∧ Grew w w' := by
  obtain ⟨sv, h1, h2⟩ := h
  have HB := Lib.hid h1
  obtain ⟨c0, c1⟩ := two_c h1
  have hx : T[k]? = some (er T k) := by unfold er; rw [List.getElem?_eq_getElem hk]; rfl
  obtain ⟨ad, c, rfl, hc, d0, d1⟩ := Rms_at h2 hx
  clear h1 h2 hx
  have hk' : (k : Int) < (T.length : Int) := by omega
  have HU := Lib.hid (fun W => ro_used (er T k) W)
  unfold rmv at HU
  generalize er T k = x at *
  go_enter Try.func108, Try.ntmps108
  go_wp2
  refine Facts.wp_region_text (by kernel_rfl) (by kernel_rfl) ?_
  apply Facts.Lex.exact [] _ (by kernel_rfl)
  · intro u W hC _
    have j0 := cellG hC c0
    have j1 := cellG hC c1
    unfold Facts.one
    go_simp
    first | exact ⟨Grew.refl _, rfl⟩ | rfl
  simp only [Act.put, List.setIfInBounds_toArray, List.set_cons_zero, List.set_cons_succ, Nat.zero_add, Nat.reduceAdd]
  apply Facts.Lex.exact [] _ (by kernel_rfl)
  · intro u W hC _
    have j0 := cellG hC c0
    have j1 := cellG hC c1
    unfold Facts.one
    go_simp
    exact ((ro_made W b _ (blk_keep HB.out hC)).mono fun e w' ⟨he, hw⟩ => ⟨_, he, by rw [hw]; exact Grew.refl _, rfl⟩)
  simp only [Act.put, List.setIfInBounds_toArray, List.set_cons_zero, List.set_cons_succ, Nat.zero_add, Nat.reduceAdd]
  repeat
    apply Facts.Lex.exact [] _ (by kernel_rfl)
    · intro u W hC _
      have j0 := cellG hC c0
      have j1 := cellG hC c1
      have e0 := cellG hC d0
      have e1 := cellG hC d1
      unfold Facts.one
      go_simp
      first | exact ⟨Grew.refl _, rfl⟩ | rfl
    simp only [Act.put, List.setIfInBounds_toArray, List.set_cons_zero, List.set_cons_succ, Nat.zero_add, Nat.reduceAdd]

  apply Facts.Lex.exact [] _ (by kernel_rfl)
  · intro u W hC _
    have j0 := cellG hC c0
    have j1 := cellG hC c1
    unfold Facts.one
    go_simp
    exact ((HU.out W).mono fun e w' ⟨he, hg⟩ => ⟨_, he, hg, rfl⟩)
  simp only [Act.put, List.setIfInBounds_toArray, List.set_cons_zero, List.set_cons_succ, Nat.zero_add, Nat.reduceAdd]
  repeat
    apply Facts.Lex.exact [] _ (by kernel_rfl)
    · intro u W hC _
      have j0 := cellG hC c0
      have j1 := cellG hC c1
      unfold Facts.one
      go_simp
      first | exact ⟨Grew.refl _, rfl⟩ | rfl
    simp only [Act.put, List.setIfInBounds_toArray, List.set_cons_zero, List.set_cons_succ, Nat.zero_add, Nat.reduceAdd]

  refine Facts.Lex.done fun u W2 hC hL => ?_
  have G2 := Lib.hid hC
  clear hC hL
  go_wp2
  go_returns
  exact ⟨rfl, G2.out⟩

theorem rcs_set (x : Rm) : ∀ (T : List Rm) (k : Nat), (((T.flatMap rcs).set (k * 2) (.bool x.used)).set (k * 2 + 1) (.string x.name)) = (T.set k x).flatMap rcs
  | [], k => by simp
  | y :: T, 0 => by
    simp only [List.flatMap_cons, List.set_cons_zero]
    rfl
  | y :: T, k + 1 => by
    have ih := rcs_set x T k
    have e : (y :: T).flatMap rcs = .bool y.used :: .string y.name :: T.flatMap rcs := rfl
    rw [e, show (k + 1) * 2 = k * 2 + 1 + 1 by omega]
    simp only [show ∀ j : Nat, k * 2 + 1 + 1 + j = (k * 2 + j) + 1 + 1 from fun j => by omega, List.set_cons_succ]
    rw [ih]
    rfl
theorem ro_cells {W : World} {B : Nat} {x : Rm} (h : W.heap[B]? = some (.cells #[.bool x.used, .string x.name] 74 (0, 0))) :
    W.cell? ⟨B, 0, none⟩ = some (.bool x.used) ∧ W.cell? ⟨B, 1, none⟩ = some (.string x.name) := by
  refine ⟨?_, ?_⟩
  all_goals rw [cell_of_row _ _ _ _ _ _ h]; rfl
set_option maxHeartbeats 1000000 in
theorem ro_put (w : World) (b : Nat) (T : List Rm) (k : Nat) (x : Rm) (h : RowR w b T) (hk : k < T.length) (hl : T.length * 24 ≤ 140737488355328) :
    Calls Try.prog 82 #[.pointer (some ⟨b, 0, none⟩), .int .i64 k, rmv x] w fun e w' => ∃ v', e = .returned (.tuple #[v', .int .i64 0]) ∧ Rms w' v' (T.set k x) ∧ Grew w w' := by
  have hi6 : rmv x = .agg #[.bool x.used, .string x.name] := rfl
  rw [hi6]
  clear hi6
  have ga : Grew w (w.alloc (.cells #[.bool x.used, .string x.name] 74)) := by unfold Grew; go_grown
  have hbx : (w.alloc (.cells #[.bool x.used, .string x.name] 74)).heap[w.heap.size]? = some (.cells #[.bool x.used, .string x.name] 74 (0, 0)) := blk_new w _
  obtain ⟨sv, h1, h2⟩ := h.grew ga
  have HM := Lib.hid (ro_made _ b sv h1)
  have HC := Lib.hid (ro_clone _ sv T h2 hl)
  obtain ⟨c0, c1⟩ := two_c h1
  obtain ⟨A, c, rfl, hlc, hcm, _⟩ := h2
  have HGA := Lib.hid ga
  have HBX := Lib.hid hbx
  clear h1 h ga hbx
  unfold maxLen at hcm
  have hk0 : ¬ ((k : Int) < 0) := by omega
  have hk1 : ¬ ((T.length : Int) ≤ k) := by omega
  go_enter Try.func82, Try.ntmps82
  go_wp2_with fail
  refine HM.out.mono ?_
  rintro e w' ⟨rfl, hw⟩
  subst hw
  go_wp2_with fail
  refine HC.out.mono ?_
  rintro e w1 ⟨v', rfl, hown, hg⟩
  obtain ⟨x0, x1⟩ := ro_cells (blk_keep HBX.out hg)
  obtain ⟨g, cap, rfl, hbg, hgl⟩ := hown.form (by omega)
  have r0 := hown.cellAt (k * 2 + 0) (by omega)
  rw [flat_get rcs 2 (fun _ => rfl) T k 0 (er T k) (by unfold er; rw [List.getElem?_eq_getElem hk]; rfl) (by decide)] at r0
  have f0 := hown.frozenAt (k * 2 + 0)
  have r1 := hown.cellAt (k * 2 + 1) (by omega)
  rw [flat_get rcs 2 (fun _ => rfl) T k 1 (er T k) (by unfold er; rw [List.getElem?_eq_getElem hk]; rfl) (by decide)] at r1
  have f1 := hown.frozenAt (k * 2 + 1)
  obtain ⟨s0, _⟩ := hown.stored (k * 2) (.bool x.used)
  obtain ⟨s1, _⟩ := s0.stored (k * 2 + 1) (.string x.name)
  rw [rcs_set] at s1
  have HS := Lib.hid s1
  have hgw : w.heap.size ≤ g := by rw [World.size_alloc] at hbg; omega
  have HG : Hid (Below w.heap.size w ((w1.setCell ⟨g, k * 2, none⟩ (.bool x.used)).setCell ⟨g, k * 2 + 1, none⟩ (.string x.name))) := Lib.hid (by
    exact (((show Below w.heap.size w w1 from HGA.out.trans hg).setCell (p := ⟨g, k * 2, none⟩) hgw _).setCell (p := ⟨g, k * 2 + 1, none⟩) hgw _))
  clear hown s0 s1 hg c0 c1 hgw
  simp only [rcs, List.getElem?_cons_zero, List.getElem?_cons_succ, Nat.add_zero] at r0 r1 f0
  generalize er T k = y at *
  go_wp2
  go_returns
  refine ⟨_, rfl, ?_, HG.out⟩
  show Rw _ _ (T.set k x).length _
  rw [List.length_set]
  exact Rw.of_own HS.out (fun h0 => absurd hk (by omega))
/-- The first slot that is free. -/
def rofree (l : List Rm) : Int := fidx l fun x => !x.used
theorem ro_freec (l : List Rm) : rofree l = -1 ∨ ∃ k : Nat, rofree l = k ∧ k < l.length := by
  rcases fidx_cases l (fun x => !x.used) with ⟨h, _⟩ | ⟨k, hk, h, _⟩
  · exact .inl h
  · exact .inr ⟨k, h, hk⟩
theorem ro_first (w : World) (b : Nat) (T : List Rm) (h : RowR w b T) (hl : T.length * 24 ≤ 140737488355328) :
    Calls Try.prog 81 #[.pointer (some ⟨b, 0, none⟩)] w fun e w' => e = .returned (fv (rofree T)) ∧ Grew w w' := by
  have HR := Lib.hid h
  obtain ⟨sv, h1, h2⟩ := h
  have HM := Lib.hid (ro_made w b sv h1)
  obtain ⟨c0, c1⟩ := two_c h1
  obtain ⟨A, c, rfl, hlc, hcm, _⟩ := h2
  clear h1
  have HH := Lib.hid (fun k x => @fidx_hit Rm T (fun x => !x.used) k x)
  have HN := Lib.hid (@fidx_miss Rm T (fun x => !x.used))
  unfold rofree
  generalize fidx T (fun x => !x.used) = res at *
  unfold maxLen at hcm
  go_enter Try.func81, Try.ntmps81
  go_wp2_with fail
  refine HM.out.mono ?_
  rintro e w' ⟨rfl, hw⟩
  subst hw
  go_wp2
  clear c0 c1
  go_loopg [13] T.length (fun g s13 wx => ∃ k : Nat, k + g = T.length ∧ s13 = .int .i64 k ∧ Hid (∀ j y, j < k → T[j]? = some y → (!y.used) = false) ∧ Hid (Grew w' wx))
  case atStart => exact ⟨0, by omega, rfl, Lib.hid (fun j y h => absurd h (by omega)), Lib.hid (Grew.refl _)⟩
  case round =>
    obtain ⟨k, hkg, rfl, HJ, HG⟩ := hrel
    cases gk with
    | zero =>
      have hkz : ¬ ((k : Int) < (T.length : Int)) := by omega
      have HE : Hid (res = -1) := Lib.hid (HN.out fun j y hy => HJ.out j y (by have := (List.getElem?_eq_some_iff.1 hy).1; omega) hy)
      go_wp2
      go_returns
      refine ⟨?_, HG.out⟩
      rw [HE.out, fv_no]
      rfl
    | succ g =>
      have hkz : (k : Int) < (T.length : Int) := by omega
      have hkl : k < T.length := by omega
      have hx : T[k]? = some (er T k) := by unfold er; rw [List.getElem?_eq_getElem hkl]; rfl
      have HX := Lib.hid hx
      have HC := Lib.hid (ro_has wr b T k (HR.out.grew HG.out) hkl)
      have hkw := wr1b hkl (by omega : T.length ≤ 4611686018427387904)
      generalize er T k = x at HX HC
      clear hx
      cases hu : x.used with
      | false =>
        rw [hu] at HC
        have HE : Hid (res = k) := Lib.hid (HH.out _ _ HX.out (by rw [hu]; rfl) HJ.out)
        clear HX hu
        go_wp2_with fail
        refine HC.out.mono ?_
        rintro e w2 ⟨rfl, hg⟩
        have G2 := Lib.hid (HG.out.trans hg)
        clear hg
        go_wp2
        go_returns
        refine ⟨?_, G2.out⟩
        rw [HE.out, fv_at]
        rfl
      | true =>
        rw [hu] at HC
        have HN2 : Hid (∀ j y, j < k + 1 → T[j]? = some y → (!y.used) = false) := Lib.hid fun j y hj hy => by
          by_cases hjk : j = k
          · subst hjk
            rw [HX.out] at hy
            cases hy
            rw [hu]
            rfl
          · exact HJ.out j y (by omega) hy
        clear HX hu
        go_wp2_with fail
        refine HC.out.mono ?_
        rintro e w2 ⟨rfl, hg⟩
        have G2 := Lib.hid (HG.out.trans hg)
        clear hg
        go_wp2
        go_roundg g
        case measure => omega
        case rel => exact ⟨k + 1, by omega, by simp [hkw], HN2, G2⟩
theorem ro_add (w : World) (b : Nat) (T : List Rm) (x : Rm) (h : RowR w b T) (hl : T.length * 24 ≤ 140737488355328) :
    Calls Try.prog 44 #[.pointer (some ⟨b, 0, none⟩), rmv x] w fun e w' => ∃ v', e = .returned (.tuple #[v', .int .i64 (if rofree T = -1 then 0 else rofree T), .int .i64 (if rofree T = -1 then 8 else 0)]) ∧ Rms w' v' (if rofree T = -1 then [] else T.set (rofree T).toNat x) ∧ Grew w w' := by
  have hi6 : rmv x = .agg #[.bool x.used, .string x.name] := rfl
  have HPUT := Lib.hid (fun W k (hr : RowR W b T) hk => ro_put W b T k x hr hk hl)
  rw [hi6] at HPUT
  rw [hi6]
  clear hi6
  have ga : Grew w (w.alloc (.cells #[.bool x.used, .string x.name] 74)) := by unfold Grew; go_grown
  have hbx : (w.alloc (.cells #[.bool x.used, .string x.name] 74)).heap[w.heap.size]? = some (.cells #[.bool x.used, .string x.name] 74 (0, 0)) := blk_new w _
  have HF := Lib.hid (ro_first _ b T (h.grew ga) hl)
  have HR := Lib.hid (h.grew ga)
  have GA := Lib.hid ga
  have BX := Lib.hid hbx
  clear h ga hbx
  rcases ro_freec T with e | ⟨k, e, hk⟩
  · rw [e, fv_no] at HF
    rw [e]
    simp only [if_true]
    clear e HPUT
    go_enter Try.func44, Try.ntmps44
    go_wp2_with fail
    refine HF.out.mono ?_
    rintro e w1 ⟨rfl, hg⟩
    have G1 := Lib.hid (GA.out.trans hg)
    clear hg
    go_wp2
    go_returns
    exact ⟨_, rfl, rw_none _, G1.out⟩
  · have hkn : ¬ (k : Int) = -1 := by omega
    rw [e, fv_at] at HF
    rw [e]
    rw [if_neg hkn, if_neg hkn, if_neg hkn, Int.toNat_natCast]
    have HPK := Lib.hid (fun W hr => HPUT.out W k hr hk)
    clear e hkn hk HPUT
    generalize T.set k x = R at *
    go_enter Try.func44, Try.ntmps44
    go_wp2_with fail
    refine HF.out.mono ?_
    rintro e w1 ⟨rfl, hg⟩
    have G1 := Lib.hid (GA.out.trans hg)
    have HP := Lib.hid (HPK.out w1 (HR.out.grew hg))
    obtain ⟨x0, x1⟩ := ro_cells (blk_keep BX.out hg)
    clear hg
    go_wp2_with fail
    refine HP.out.mono ?_
    rintro e w2 ⟨v', rfl, hi, hg⟩
    have G2 := Lib.hid (G1.out.trans hg)
    have HI := Lib.hid hi
    obtain ⟨A, c, rfl, _⟩ := hi.slice
    clear hi hg x0 x1
    go_wp2
    go_returns
    exact ⟨_, rfl, HI.out, G2.out⟩
end Go.Proofs.Ytaolallfmjjoeaa.RA
