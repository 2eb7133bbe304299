/-
  Rows of exits, as the program keeps them.
  Conditions: those that each lemma names.
-/
import Derived.Test.YtaolallfmjjoeaaRA
namespace Go.Proofs.Ytaolallfmjjoeaa.RB
set_option maxRecDepth 100000
open Go Go.RowKit Go.Lib Go.Proofs.Ytaolallfmjjoeaa Go.Proofs.Ytaolallfmjjoeaa.Facts Go.Proofs.Ytaolallfmjjoeaa.Ints Go.Proofs.Ytaolallfmjjoeaa.TI Go.Proofs.Ytaolallfmjjoeaa.TP Go.Proofs.Ytaolallfmjjoeaa.TB Go.Proofs.Ytaolallfmjjoeaa.TC Go.Proofs.Ytaolallfmjjoeaa.TD Go.Proofs.Ytaolallfmjjoeaa.TE Go.Proofs.Ytaolallfmjjoeaa.TH Go.Proofs.Ytaolallfmjjoeaa.RA Go.Proofs.Ytaolallfmjjoeaa.Bytes


structure Ex where
  used : Bool
  fl : Int
  fs : Int
  tl : Int
  ts : Int
  dir : Int
deriving DecidableEq
def ecs (x : Ex) : List Value := [.bool x.used, .int .i64 x.fl, .int .i64 x.fs, .int .i64 x.tl, .int .i64 x.ts, .int .i64 x.dir]
def exv (x : Ex) : Value := .agg #[.bool x.used, .int .i64 x.fl, .int .i64 x.fs, .int .i64 x.tl, .int .i64 x.ts, .int .i64 x.dir]
abbrev Exs (w : World) (v : Value) (l : List Ex) : Prop := Rw w v l.length (l.flatMap ecs)
theorem Exs_at {w : World} {v : Value} {l : List Ex} (h : Exs w v l) {k : Nat} {x : Ex} (hk : l[k]? = some x) :
    ∃ ad c, v = .slice (some ad) l.length c ∧ l.length ≤ c ∧ w.cell? (ad.add (k * 6)) = some (.bool x.used) ∧ w.cell? ⟨(ad.add (k * 6)).block, (ad.add (k * 6)).off + 1, none⟩ = some (.int .i64 x.fl) ∧ w.cell? ⟨(ad.add (k * 6)).block, (ad.add (k * 6)).off + 2, none⟩ = some (.int .i64 x.fs) ∧ w.cell? ⟨(ad.add (k * 6)).block, (ad.add (k * 6)).off + 3, none⟩ = some (.int .i64 x.tl) ∧ w.cell? ⟨(ad.add (k * 6)).block, (ad.add (k * 6)).off + 4, none⟩ = some (.int .i64 x.ts) ∧ w.cell? ⟨(ad.add (k * 6)).block, (ad.add (k * 6)).off + 5, none⟩ = some (.int .i64 x.dir) := by
  obtain ⟨ad, c, e, hc, h0, h1⟩ := Rw.at (f := ecs) (n := 6) (fun _ => rfl) h hk (by decide)
  exact ⟨ad, c, e, hc, h0 _ rfl, h1 1 _ (by decide) rfl, h1 2 _ (by decide) rfl, h1 3 _ (by decide) rfl, h1 4 _ (by decide) rfl, h1 5 _ (by decide) rfl⟩
def zex : Ex := ⟨false, 0, 0, 0, 0, 0⟩
def ee (l : List Ex) (k : Nat) : Ex := l[k]?.getD zex
theorem ecs_len (l : List Ex) : (l.flatMap ecs).length = l.length * 6 := flat_len ecs 6 (fun _ => rfl) l
theorem ecs_one (l : List Ex) : ∀ u ∈ l.flatMap ecs, u.oneCell' = true := flat_one ecs (fun x u hu => by
  simp only [ecs, List.mem_cons, List.not_mem_nil, or_false] at hu
  rcases hu with rfl | rfl | rfl | rfl | rfl | rfl <;> rfl) l
theorem info41 : (Try.prog.info? 41).map (fun i => (i.zero, i.size, i.bytes)) = some (some (.agg #[.bool false, .int .i64 0, .int .i64 0, .int .i64 0, .int .i64 0, .int .i64 0]), 6, 48) := by kernel_rfl
abbrev OwnE (w : World) (base : Nat) (v : Value) (l : List Ex) : Prop := w.ownsRow base 41 6 v l.length (l.flatMap ecs)
theorem Exs.of_own {w : World} {v : Value} {l : List Ex} {base : Nat} (h : OwnE w base v l) : Exs w v l := Rw.of_own h fun h => by rw [List.eq_nil_of_length_eq_zero h]; rfl
theorem ex_app (W : World) (base : Nat) (v : Value) (l m : List Ex) (ad : Addr) (c : Nat) (hown : OwnE W base v l) (hm : ∀ j u, (m.flatMap ecs)[j]? = some u → W.cell? (ad.add j) = some u) (hl : (l.length + m.length) * 48 ≤ 140737488355328) (hb : base ≤ W.heap.size) :
    ∃ v' w', (Builtin.append_ #[31, 31] 31 #[v, .slice (some ad) m.length c]).run Try.prog W = .ok v' w' ∧ OwnE w' base v' (l ++ m) ∧ Below base W w' := by
  obtain ⟨i0, hi, hx⟩ := Option.map_eq_some_iff.1 info41
  simp only [Prod.mk.injEq] at hx
  obtain ⟨hz0, hz1, hz2⟩ := hx
  obtain ⟨v', w', hr, h5, h6, _⟩ := run_append_own (P := Try.prog) W base 31 31 41 i0 (.agg #[.bool false, .int .i64 0, .int .i64 0, .int .i64 0, .int .i64 0, .int .i64 0]) 6 48 Try.underlying31 hi hz0 hz1 hz2 rfl (by decide) v l.length (l.flatMap ecs) hown ad m.length c (m.flatMap ecs) (ecs_len m) hm (ecs_one m) (by unfold maxLen; omega) (by omega) hb
  refine ⟨v', w', hr, by unfold OwnE; rw [List.length_append, List.flatMap_append]; exact h5, ?_⟩
  exact below_of_grown W h6 hb fun k hk => by
    rcases hown.2 with ⟨rfl, _⟩ | ⟨g, cap, cur, rfl, hg, _⟩
    · simp [Value.ownBlock] at hk
    · simp [Value.ownBlock] at hk
      omega
theorem ex_clone (w : World) (v : Value) (T : List Ex) (h : Exs w v T) (hl : T.length * 48 ≤ 140737488355328) :
    Calls Try.prog 91 #[v] w fun e w' => ∃ v', e = .returned v' ∧ OwnE w' w.heap.size v' T ∧ Grew w w' := by
  obtain ⟨A, c, rfl, h1, h2, h3, h4⟩ := h
  have q46 : ∀ (w : World) (a : Option Addr) (n c n' c' : Nat), (binOp .eql 31 (.slice a n c) (.slice none n' c')).run Try.prog w = .ok (.bool a.isNone) w := fun w a n c n' c' => Lib.run_eql_slice_nil w _ _ a n c n' c' Try.underlying31
  cases A with
  | none =>
    have h0 := h3 rfl
    have hn : T = [] := List.eq_nil_of_length_eq_zero (by omega)
    subst hn
    have HO : Hid (OwnE w w.heap.size (.slice none 0 0) []) := Lib.hid (World.ownsRow_nil w w.heap.size 41 6)
    clear h4 h3 h1 h2 h0
    go_enter Try.func91, Try.ntmps91
    go_wp2
    go_returns
    exact ⟨_, rfl, HO.out, Grew.refl _⟩
  | some ad =>
    have hown : OwnE (w.alloc (.cells #[] 41)) w.heap.size (.slice (some ⟨w.heap.size, 0, none⟩) 0 0) [] :=
      ⟨rfl, .inr ⟨w.heap.size, 0, #[], rfl, Nat.le_refl _, heap_alloc_new w _, Nat.le_refl _, Nat.zero_le _, rfl, rfl⟩⟩
    have ga : Grew w (w.alloc (.cells #[] 41)) := by unfold Grew; go_grown
    obtain ⟨v', w', hr, h5, h6⟩ := ex_app (w.alloc (.cells #[] 41)) w.heap.size _ [] T ad c hown (fun j u hu => cellG ga (h4 ad rfl j u hu)) (by simpa using hl) (by simp)
    rw [List.nil_append] at h5
    have HR := Lib.hid hr
    have HO := Lib.hid h5
    have HG : Hid (Grew w w') := Lib.hid ((show Below w.heap.size w _ from ga).trans h6)
    clear hown ga hr h5 h6 h4 h3
    go_enter Try.func91, Try.ntmps91
    go_wp2_with (at_builtin; refine wpList_app_want (.tmp 5) (.tmp 6) 31 (by rfl) (by rfl) _ _ rfl rfl v' w' (by exact HR.out) ?_)
    go_returns
    exact ⟨_, rfl, HO.out, HG.out⟩
theorem ex_used (x : Ex) (w : World) : Calls Try.prog 88 #[exv x] w fun e w' => e = .returned (.bool x.used) ∧ Grew w w' := by
  unfold exv
  go_enter Try.func88, Try.ntmps88
  go_wp2
  go_returns
  exact ⟨rfl, by unfold Grew; go_grown⟩
def RowE (w : World) (b : Nat) (T : List Ex) : Prop := ∃ sv, w.heap[b]? = some (.cells #[sv, .func (.func 88) #[] #[]] 119 (0, 0)) ∧ Exs w sv T
theorem RowE.grew {w w' : World} {b : Nat} {T : List Ex} (h : RowE w b T) (hg : Grew w w') : RowE w' b T := by
  obtain ⟨sv, h1, h2⟩ := h
  exact ⟨sv, blk_keep h1 hg, h2.grew hg⟩
theorem ex_made (w : World) (b : Nat) (sv : Value) (h : w.heap[b]? = some (.cells #[sv, .func (.func 88) #[] #[]] 119 (0, 0))) :
    Calls Try.prog 90 #[.pointer (some ⟨b, 0, none⟩)] w fun e w' => e = .returned (.bool true) ∧ w' = w := by
  obtain ⟨c0, c1⟩ := two_c h
  clear h
  have hrun : ∀ w : World, (binOp BinOp.neq 79 (.func (.func 88) #[] #[]) .nilFunc).run Try.prog w = .ok (.bool true) w := fun _ => by kernel_rfl
  go_enter Try.func90, Try.ntmps90
  go_wp2
  go_returns
  exact ⟨rfl, rfl⟩
theorem ex_of (w : World) (v : Value) (T : List Ex) (h : Exs w v T) (hl : T.length * 48 ≤ 140737488355328) :
    Calls Try.prog 87 #[v, .func (.func 88) #[] #[]] w fun e w' => ∃ b, e = .returned (.pointer (some ⟨b, 0, none⟩)) ∧ RowE w' b T ∧ Grew w w' := by
  have HC := Lib.hid (ex_clone w v T h hl)
  obtain ⟨A, c, rfl, _⟩ := h
  clear hl
  have hrun : ∀ w : World, (binOp BinOp.eql 79 (.func (.func 88) #[] #[]) .nilFunc).run Try.prog w = .ok (.bool false) w := fun _ => by kernel_rfl
  go_enter Try.func87, Try.ntmps87
  go_wp2_with fail
  refine HC.out.mono ?_
  rintro e w1 ⟨v', rfl, hown, hg⟩
  have HI := Lib.hid (Exs.of_own hown)
  have HG := Lib.hid hg
  obtain ⟨A', c', rfl, _⟩ := id HI.out
  clear hown hg
  have HR : Hid (RowE (w1.alloc (.cells #[.slice A' T.length c', .func (.func 88) #[] #[]] 119)) w1.heap.size T ∧ Grew w (w1.alloc (.cells #[.slice A' T.length c', .func (.func 88) #[] #[]] 119))) := by
    have ga : Grew w1 (w1.alloc (.cells #[.slice A' T.length c', .func (.func 88) #[] #[]] 119)) := by unfold Grew; go_grown
    exact Lib.hid ⟨⟨_, blk_new w1 _, HI.out.grew ga⟩, HG.out.trans ga⟩
  go_wp2
  go_returns
  exact ⟨_, rfl, HR.out.1, HR.out.2⟩
theorem ex_row (w : World) (v : Value) (T : List Ex) (h : Exs w v T) (hl : T.length * 48 ≤ 140737488355328) :
    Calls Try.prog 52 #[v] w fun e w' => ∃ b, e = .returned (.pointer (some ⟨b, 0, none⟩)) ∧ RowE w' b T ∧ Grew w w' := by
  have HC := Lib.hid (ex_of w v T h hl)
  obtain ⟨A, c, rfl, _⟩ := h
  clear hl
  go_enter Try.func52, Try.ntmps52
  go_wp2_with fail
  refine HC.out.mono ?_
  rintro e w1 ⟨b, rfl, hr, hg⟩
  have HR := Lib.hid hr
  have HG := Lib.hid hg
  clear hr hg
  go_wp2
  go_returns
  exact ⟨_, rfl, HR.out, HG.out⟩

theorem ex_has (w : World) (b : Nat) (T : List Ex) (k : Nat) (h : RowE w b T) (hk : k < T.length) :
    Calls Try.prog 109 #[.pointer (some ⟨b, 0, none⟩), .int .i64 k] w fun e w' => e = .returned (.bool (ee T k).used) ∧ Grew w w' := by
  obtain ⟨sv, h1, h2⟩ := h
  have HB := Lib.hid h1
  obtain ⟨c0, c1⟩ := two_c h1
  have hx : T[k]? = some (ee T k) := by unfold ee; rw [List.getElem?_eq_getElem hk]; rfl
  obtain ⟨ad, c, rfl, hc, d0, d1, d2, d3, d4, d5⟩ := Exs_at h2 hx
  clear h1 h2 hx
  have hk' : (k : Int) < (T.length : Int) := by omega
  have HU := Lib.hid (fun W => ex_used (ee T k) W)
  unfold exv at HU
  generalize ee T k = x at *
  go_enter Try.func109, Try.ntmps109
  go_wp2
  refine Facts.wp_region_text (by kernel_rfl) (by kernel_rfl) ?_
  apply Facts.Lex.exact [] _ (by kernel_rfl)
  · intro u W hC _
    have j0 := cellG hC c0
    have j1 := cellG hC c1
    unfold Facts.one
    go_simp
    first | exact ⟨Grew.refl _, rfl⟩ | rfl
  simp only [Act.put, List.setIfInBounds_toArray, List.set_cons_zero, List.set_cons_succ, Nat.zero_add, Nat.reduceAdd]
  apply Facts.Lex.exact [] _ (by kernel_rfl)
  · intro u W hC _
    have j0 := cellG hC c0
    have j1 := cellG hC c1
    unfold Facts.one
    go_simp
    exact ((ex_made W b _ (blk_keep HB.out hC)).mono fun e w' ⟨he, hw⟩ => ⟨_, he, by rw [hw]; exact Grew.refl _, rfl⟩)
  simp only [Act.put, List.setIfInBounds_toArray, List.set_cons_zero, List.set_cons_succ, Nat.zero_add, Nat.reduceAdd]
  repeat
    apply Facts.Lex.exact [] _ (by kernel_rfl)
    · intro u W hC _
      have j0 := cellG hC c0
      have j1 := cellG hC c1
      have e0 := cellG hC d0
      have e1 := cellG hC d1
      have e2 := cellG hC d2
      have e3 := cellG hC d3
      have e4 := cellG hC d4
      have e5 := cellG hC d5
      unfold Facts.one
      go_simp
      first | exact ⟨Grew.refl _, rfl⟩ | rfl
    simp only [Act.put, List.setIfInBounds_toArray, List.set_cons_zero, List.set_cons_succ, Nat.zero_add, Nat.reduceAdd]

  apply Facts.Lex.exact [] _ (by kernel_rfl)
  · intro u W hC _
    have j0 := cellG hC c0
    have j1 := cellG hC c1
    unfold Facts.one
    go_simp
    exact ((HU.out W).mono fun e w' ⟨he, hg⟩ => ⟨_, he, hg, rfl⟩)
  simp only [Act.put, List.setIfInBounds_toArray, List.set_cons_zero, List.set_cons_succ, Nat.zero_add, Nat.reduceAdd]
  repeat
    apply Facts.Lex.exact [] _ (by kernel_rfl)
    · intro u W hC _
      have j0 := cellG hC c0
      have j1 := cellG hC c1
      unfold Facts.one
      go_simp
      first | exact ⟨Grew.refl _, rfl⟩ | rfl
    simp only [Act.put, List.setIfInBounds_toArray, List.set_cons_zero, List.set_cons_succ, Nat.zero_add, Nat.reduceAdd]

  refine Facts.Lex.done fun u W2 hC hL => ?_
  have G2 := Lib.hid hC
  clear hC hL
  go_wp2
  go_returns
  exact ⟨rfl, G2.out⟩

theorem ecs_set (x : Ex) : ∀ (T : List Ex) (k : Nat), (((((((T.flatMap ecs).set (k * 6) (.bool x.used)).set (k * 6 + 1) (.int .i64 x.fl)).set (k * 6 + 2) (.int .i64 x.fs)).set (k * 6 + 3) (.int .i64 x.tl)).set (k * 6 + 4) (.int .i64 x.ts)).set (k * 6 + 5) (.int .i64 x.dir)) = (T.set k x).flatMap ecs
  | [], k => by simp
  | y :: T, 0 => by
    simp only [List.flatMap_cons, List.set_cons_zero]
    rfl
  | y :: T, k + 1 => by
    have ih := ecs_set x T k
    have e : (y :: T).flatMap ecs = .bool y.used :: .int .i64 y.fl :: .int .i64 y.fs :: .int .i64 y.tl :: .int .i64 y.ts :: .int .i64 y.dir :: T.flatMap ecs := rfl
    rw [e, show (k + 1) * 6 = k * 6 + 1 + 1 + 1 + 1 + 1 + 1 by omega]
    simp only [show ∀ j : Nat, k * 6 + 1 + 1 + 1 + 1 + 1 + 1 + j = (k * 6 + j) + 1 + 1 + 1 + 1 + 1 + 1 from fun j => by omega, List.set_cons_succ]
    rw [ih]
    rfl
theorem ex_cells {W : World} {B : Nat} {x : Ex} (h : W.heap[B]? = some (.cells #[.bool x.used, .int .i64 x.fl, .int .i64 x.fs, .int .i64 x.tl, .int .i64 x.ts, .int .i64 x.dir] 41 (0, 0))) :
    W.cell? ⟨B, 0, none⟩ = some (.bool x.used) ∧ W.cell? ⟨B, 1, none⟩ = some (.int .i64 x.fl) ∧ W.cell? ⟨B, 2, none⟩ = some (.int .i64 x.fs) ∧ W.cell? ⟨B, 3, none⟩ = some (.int .i64 x.tl) ∧ W.cell? ⟨B, 4, none⟩ = some (.int .i64 x.ts) ∧ W.cell? ⟨B, 5, none⟩ = some (.int .i64 x.dir) := by
  refine ⟨?_, ?_, ?_, ?_, ?_, ?_⟩
  all_goals rw [cell_of_row _ _ _ _ _ _ h]; rfl
set_option maxHeartbeats 1000000 in
theorem ex_put (w : World) (b : Nat) (T : List Ex) (k : Nat) (x : Ex) (h : RowE w b T) (hk : k < T.length) (hl : T.length * 48 ≤ 140737488355328) :
    Calls Try.prog 54 #[.pointer (some ⟨b, 0, none⟩), .int .i64 k, exv x] w fun e w' => ∃ v', e = .returned (.tuple #[v', .int .i64 0]) ∧ Exs w' v' (T.set k x) ∧ Grew w w' := by
  have hi6 : exv x = .agg #[.bool x.used, .int .i64 x.fl, .int .i64 x.fs, .int .i64 x.tl, .int .i64 x.ts, .int .i64 x.dir] := rfl
  rw [hi6]
  clear hi6
  have ga : Grew w (w.alloc (.cells #[.bool x.used, .int .i64 x.fl, .int .i64 x.fs, .int .i64 x.tl, .int .i64 x.ts, .int .i64 x.dir] 41)) := by unfold Grew; go_grown
  have hbx : (w.alloc (.cells #[.bool x.used, .int .i64 x.fl, .int .i64 x.fs, .int .i64 x.tl, .int .i64 x.ts, .int .i64 x.dir] 41)).heap[w.heap.size]? = some (.cells #[.bool x.used, .int .i64 x.fl, .int .i64 x.fs, .int .i64 x.tl, .int .i64 x.ts, .int .i64 x.dir] 41 (0, 0)) := blk_new w _
  obtain ⟨sv, h1, h2⟩ := h.grew ga
  have HM := Lib.hid (ex_made _ b sv h1)
  have HC := Lib.hid (ex_clone _ sv T h2 hl)
  obtain ⟨c0, c1⟩ := two_c h1
  obtain ⟨A, c, rfl, hlc, hcm, _⟩ := h2
  have HGA := Lib.hid ga
  have HBX := Lib.hid hbx
  clear h1 h ga hbx
  unfold maxLen at hcm
  have hk0 : ¬ ((k : Int) < 0) := by omega
  have hk1 : ¬ ((T.length : Int) ≤ k) := by omega
  go_enter Try.func54, Try.ntmps54
  go_wp2_with fail
  refine HM.out.mono ?_
  rintro e w' ⟨rfl, hw⟩
  subst hw
  go_wp2_with fail
  refine HC.out.mono ?_
  rintro e w1 ⟨v', rfl, hown, hg⟩
  obtain ⟨x0, x1, x2, x3, x4, x5⟩ := ex_cells (blk_keep HBX.out hg)
  obtain ⟨g, cap, rfl, hbg, hgl⟩ := hown.form (by omega)
  have r0 := hown.cellAt (k * 6 + 0) (by omega)
  rw [flat_get ecs 6 (fun _ => rfl) T k 0 (ee T k) (by unfold ee; rw [List.getElem?_eq_getElem hk]; rfl) (by decide)] at r0
  have f0 := hown.frozenAt (k * 6 + 0)
  have r1 := hown.cellAt (k * 6 + 1) (by omega)
  rw [flat_get ecs 6 (fun _ => rfl) T k 1 (ee T k) (by unfold ee; rw [List.getElem?_eq_getElem hk]; rfl) (by decide)] at r1
  have f1 := hown.frozenAt (k * 6 + 1)
  have r2 := hown.cellAt (k * 6 + 2) (by omega)
  rw [flat_get ecs 6 (fun _ => rfl) T k 2 (ee T k) (by unfold ee; rw [List.getElem?_eq_getElem hk]; rfl) (by decide)] at r2
  have f2 := hown.frozenAt (k * 6 + 2)
  have r3 := hown.cellAt (k * 6 + 3) (by omega)
  rw [flat_get ecs 6 (fun _ => rfl) T k 3 (ee T k) (by unfold ee; rw [List.getElem?_eq_getElem hk]; rfl) (by decide)] at r3
  have f3 := hown.frozenAt (k * 6 + 3)
  have r4 := hown.cellAt (k * 6 + 4) (by omega)
  rw [flat_get ecs 6 (fun _ => rfl) T k 4 (ee T k) (by unfold ee; rw [List.getElem?_eq_getElem hk]; rfl) (by decide)] at r4
  have f4 := hown.frozenAt (k * 6 + 4)
  have r5 := hown.cellAt (k * 6 + 5) (by omega)
  rw [flat_get ecs 6 (fun _ => rfl) T k 5 (ee T k) (by unfold ee; rw [List.getElem?_eq_getElem hk]; rfl) (by decide)] at r5
  have f5 := hown.frozenAt (k * 6 + 5)
  obtain ⟨s0, _⟩ := hown.stored (k * 6) (.bool x.used)
  obtain ⟨s1, _⟩ := s0.stored (k * 6 + 1) (.int .i64 x.fl)
  obtain ⟨s2, _⟩ := s1.stored (k * 6 + 2) (.int .i64 x.fs)
  obtain ⟨s3, _⟩ := s2.stored (k * 6 + 3) (.int .i64 x.tl)
  obtain ⟨s4, _⟩ := s3.stored (k * 6 + 4) (.int .i64 x.ts)
  obtain ⟨s5, _⟩ := s4.stored (k * 6 + 5) (.int .i64 x.dir)
  rw [ecs_set] at s5
  have HS := Lib.hid s5
  have hgw : w.heap.size ≤ g := by rw [World.size_alloc] at hbg; omega
  have HG : Hid (Below w.heap.size w ((((((w1.setCell ⟨g, k * 6, none⟩ (.bool x.used)).setCell ⟨g, k * 6 + 1, none⟩ (.int .i64 x.fl)).setCell ⟨g, k * 6 + 2, none⟩ (.int .i64 x.fs)).setCell ⟨g, k * 6 + 3, none⟩ (.int .i64 x.tl)).setCell ⟨g, k * 6 + 4, none⟩ (.int .i64 x.ts)).setCell ⟨g, k * 6 + 5, none⟩ (.int .i64 x.dir))) := Lib.hid (by
    exact (((((((show Below w.heap.size w w1 from HGA.out.trans hg).setCell (p := ⟨g, k * 6, none⟩) hgw _).setCell (p := ⟨g, k * 6 + 1, none⟩) hgw _).setCell (p := ⟨g, k * 6 + 2, none⟩) hgw _).setCell (p := ⟨g, k * 6 + 3, none⟩) hgw _).setCell (p := ⟨g, k * 6 + 4, none⟩) hgw _).setCell (p := ⟨g, k * 6 + 5, none⟩) hgw _))
  clear hown s0 s1 s2 s3 s4 s5 hg c0 c1 hgw
  simp only [ecs, List.getElem?_cons_zero, List.getElem?_cons_succ, Nat.add_zero] at r0 r1 r2 r3 r4 r5 f0
  generalize ee T k = y at *
  go_wp2
  go_returns
  refine ⟨_, rfl, ?_, HG.out⟩
  show Rw _ _ (T.set k x).length _
  rw [List.length_set]
  exact Rw.of_own HS.out (fun h0 => absurd hk (by omega))
/-- The first slot that is free. -/
def exfree (l : List Ex) : Int := fidx l fun x => !x.used
theorem ex_freec (l : List Ex) : exfree l = -1 ∨ ∃ k : Nat, exfree l = k ∧ k < l.length := by
  rcases fidx_cases l (fun x => !x.used) with ⟨h, _⟩ | ⟨k, hk, h, _⟩
  · exact .inl h
  · exact .inr ⟨k, h, hk⟩
theorem ex_first (w : World) (b : Nat) (T : List Ex) (h : RowE w b T) (hl : T.length * 48 ≤ 140737488355328) :
    Calls Try.prog 89 #[.pointer (some ⟨b, 0, none⟩)] w fun e w' => e = .returned (fv (exfree T)) ∧ Grew w w' := by
  have HR := Lib.hid h
  obtain ⟨sv, h1, h2⟩ := h
  have HM := Lib.hid (ex_made w b sv h1)
  obtain ⟨c0, c1⟩ := two_c h1
  obtain ⟨A, c, rfl, hlc, hcm, _⟩ := h2
  clear h1
  have HH := Lib.hid (fun k x => @fidx_hit Ex T (fun x => !x.used) k x)
  have HN := Lib.hid (@fidx_miss Ex T (fun x => !x.used))
  unfold exfree
  generalize fidx T (fun x => !x.used) = res at *
  unfold maxLen at hcm
  go_enter Try.func89, Try.ntmps89
  go_wp2_with fail
  refine HM.out.mono ?_
  rintro e w' ⟨rfl, hw⟩
  subst hw
  go_wp2
  clear c0 c1
  go_loopg [13] T.length (fun g s13 wx => ∃ k : Nat, k + g = T.length ∧ s13 = .int .i64 k ∧ Hid (∀ j y, j < k → T[j]? = some y → (!y.used) = false) ∧ Hid (Grew w' wx))
  case atStart => exact ⟨0, by omega, rfl, Lib.hid (fun j y h => absurd h (by omega)), Lib.hid (Grew.refl _)⟩
  case round =>
    obtain ⟨k, hkg, rfl, HJ, HG⟩ := hrel
    cases gk with
    | zero =>
      have hkz : ¬ ((k : Int) < (T.length : Int)) := by omega
      have HE : Hid (res = -1) := Lib.hid (HN.out fun j y hy => HJ.out j y (by have := (List.getElem?_eq_some_iff.1 hy).1; omega) hy)
      go_wp2
      go_returns
      refine ⟨?_, HG.out⟩
      rw [HE.out, fv_no]
      rfl
    | succ g =>
      have hkz : (k : Int) < (T.length : Int) := by omega
      have hkl : k < T.length := by omega
      have hx : T[k]? = some (ee T k) := by unfold ee; rw [List.getElem?_eq_getElem hkl]; rfl
      have HX := Lib.hid hx
      have HC := Lib.hid (ex_has wr b T k (HR.out.grew HG.out) hkl)
      have hkw := wr1b hkl (by omega : T.length ≤ 4611686018427387904)
      generalize ee T k = x at HX HC
      clear hx
      cases hu : x.used with
      | false =>
        rw [hu] at HC
        have HE : Hid (res = k) := Lib.hid (HH.out _ _ HX.out (by rw [hu]; rfl) HJ.out)
        clear HX hu
        go_wp2_with fail
        refine HC.out.mono ?_
        rintro e w2 ⟨rfl, hg⟩
        have G2 := Lib.hid (HG.out.trans hg)
        clear hg
        go_wp2
        go_returns
        refine ⟨?_, G2.out⟩
        rw [HE.out, fv_at]
        rfl
      | true =>
        rw [hu] at HC
        have HN2 : Hid (∀ j y, j < k + 1 → T[j]? = some y → (!y.used) = false) := Lib.hid fun j y hj hy => by
          by_cases hjk : j = k
          · subst hjk
            rw [HX.out] at hy
            cases hy
            rw [hu]
            rfl
          · exact HJ.out j y (by omega) hy
        clear HX hu
        go_wp2_with fail
        refine HC.out.mono ?_
        rintro e w2 ⟨rfl, hg⟩
        have G2 := Lib.hid (HG.out.trans hg)
        clear hg
        go_wp2
        go_roundg g
        case measure => omega
        case rel => exact ⟨k + 1, by omega, by simp [hkw], HN2, G2⟩
theorem ex_add (w : World) (b : Nat) (T : List Ex) (x : Ex) (h : RowE w b T) (hl : T.length * 48 ≤ 140737488355328) :
    Calls Try.prog 53 #[.pointer (some ⟨b, 0, none⟩), exv x] w fun e w' => ∃ v', e = .returned (.tuple #[v', .int .i64 (if exfree T = -1 then 0 else exfree T), .int .i64 (if exfree T = -1 then 8 else 0)]) ∧ Exs w' v' (if exfree T = -1 then [] else T.set (exfree T).toNat x) ∧ Grew w w' := by
  have hi6 : exv x = .agg #[.bool x.used, .int .i64 x.fl, .int .i64 x.fs, .int .i64 x.tl, .int .i64 x.ts, .int .i64 x.dir] := rfl
  have HPUT := Lib.hid (fun W k (hr : RowE W b T) hk => ex_put W b T k x hr hk hl)
  rw [hi6] at HPUT
  rw [hi6]
  clear hi6
  have ga : Grew w (w.alloc (.cells #[.bool x.used, .int .i64 x.fl, .int .i64 x.fs, .int .i64 x.tl, .int .i64 x.ts, .int .i64 x.dir] 41)) := by unfold Grew; go_grown
  have hbx : (w.alloc (.cells #[.bool x.used, .int .i64 x.fl, .int .i64 x.fs, .int .i64 x.tl, .int .i64 x.ts, .int .i64 x.dir] 41)).heap[w.heap.size]? = some (.cells #[.bool x.used, .int .i64 x.fl, .int .i64 x.fs, .int .i64 x.tl, .int .i64 x.ts, .int .i64 x.dir] 41 (0, 0)) := blk_new w _
  have HF := Lib.hid (ex_first _ b T (h.grew ga) hl)
  have HR := Lib.hid (h.grew ga)
  have GA := Lib.hid ga
  have BX := Lib.hid hbx
  clear h ga hbx
  rcases ex_freec T with e | ⟨k, e, hk⟩
  · rw [e, fv_no] at HF
    rw [e]
    simp only [if_true]
    clear e HPUT
    go_enter Try.func53, Try.ntmps53
    go_wp2_with fail
    refine HF.out.mono ?_
    rintro e w1 ⟨rfl, hg⟩
    have G1 := Lib.hid (GA.out.trans hg)
    clear hg
    go_wp2
    go_returns
    exact ⟨_, rfl, rw_none _, G1.out⟩
  · have hkn : ¬ (k : Int) = -1 := by omega
    rw [e, fv_at] at HF
    rw [e]
    rw [if_neg hkn, if_neg hkn, if_neg hkn, Int.toNat_natCast]
    have HPK := Lib.hid (fun W hr => HPUT.out W k hr hk)
    clear e hkn hk HPUT
    generalize T.set k x = R at *
    go_enter Try.func53, Try.ntmps53
    go_wp2_with fail
    refine HF.out.mono ?_
    rintro e w1 ⟨rfl, hg⟩
    have G1 := Lib.hid (GA.out.trans hg)
    have HP := Lib.hid (HPK.out w1 (HR.out.grew hg))
    obtain ⟨x0, x1, x2, x3, x4, x5⟩ := ex_cells (blk_keep BX.out hg)
    clear hg
    go_wp2_with fail
    refine HP.out.mono ?_
    rintro e w2 ⟨v', rfl, hi, hg⟩
    have G2 := Lib.hid (G1.out.trans hg)
    have HI := Lib.hid hi
    obtain ⟨A, c, rfl, _⟩ := hi.slice
    clear hi hg x0 x1 x2 x3 x4 x5
    go_wp2
    go_returns
    exact ⟨_, rfl, HI.out, G2.out⟩
end Go.Proofs.Ytaolallfmjjoeaa.RB
