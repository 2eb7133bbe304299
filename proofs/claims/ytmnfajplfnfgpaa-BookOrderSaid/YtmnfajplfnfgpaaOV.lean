/-
  The fixed calls.
  Conditions: those that each lemma names.
-/
import Derived.Test.YtmnfajplfnfgpaaON
import Derived.Test.YtmnfajplfnfgpaaOM
import Derived.Test.YtmnfajplfnfgpaaOQ
import Derived.Lib.Hide
import Derived.Deep.AppendLies
import Derived.Laws.MakeOwn
namespace Go.Proofs.Ytmnfajplfnfgpaa.OV
set_option maxRecDepth 100000
open Go Go.RowKit Go.Lib Go.Proofs.Ytmnfajplfnfgpaa Go.Proofs.Ytmnfajplfnfgpaa.Facts Go.Proofs.Ytmnfajplfnfgpaa.Ints Go.Proofs.Ytmnfajplfnfgpaa.PA Go.Proofs.Ytmnfajplfnfgpaa.UM Go.Proofs.Ytmnfajplfnfgpaa.UB Go.Proofs.Ytmnfajplfnfgpaa.OA Go.Proofs.Ytmnfajplfnfgpaa.BP Go.Proofs.Ytmnfajplfnfgpaa.BQ Go.Proofs.Ytmnfajplfnfgpaa.OB Go.Proofs.Ytmnfajplfnfgpaa.OC Go.Proofs.Ytmnfajplfnfgpaa.OD Go.Proofs.Ytmnfajplfnfgpaa.OE Go.Proofs.Ytmnfajplfnfgpaa.OF Go.Proofs.Ytmnfajplfnfgpaa.OG Go.Proofs.Ytmnfajplfnfgpaa.OK Go.Proofs.Ytmnfajplfnfgpaa.OQ Go.Proofs.Ytmnfajplfnfgpaa.OM Go.Proofs.Ytmnfajplfnfgpaa.ON Go.Proofs.Ytmnfajplfnfgpaa.Bytes


/-- A row of orders that was made. -/
theorem or_made (u : World) (l : List Or) (hl : l.length ≤ 1000) : Ors (u.alloc (.cells (l.flatMap ocs).toArray 26)) (.slice (some ⟨u.heap.size, 0, none⟩) l.length l.length) l := by
  refine ⟨some ⟨u.heap.size, 0, none⟩, l.length, rfl, Nat.le_refl _, by unfold maxLen; omega, (fun h => by cases h), fun ad ha j x hx => ?_⟩
  cases ha
  rw [Addr.add_lit, Nat.zero_add, cell_of_row _ _ _ _ _ _ (blk_new u _), List.getElem?_toArray]
  exact hx
theorem mk_or (n : Nat) (l : List Or) (hn : n ≤ 1000) (hl : n = l.length) (hm : madeCells #[.bool false, .int .i64 0, .int .i64 0, .int .i64 0, .int .i64 0, .int .i64 0, .int .u64 0, .int .u64 0, .int .u64 0, .int .i64 0] (n * 10) = (l.flatMap ocs).toArray) (u : World) : ∃ v w', (Instr.makeSlice 22 (.int .i64 (n : Int)) (.int .i64 (n : Int))).run Try.prog u = .ok v w' ∧ Ors w' v l ∧ Grew u w' := by
  obtain ⟨i0, hi, hx⟩ := Option.map_eq_some_iff.1 info26
  simp only [Prod.mk.injEq] at hx
  obtain ⟨hz0, hz1, hz2⟩ := hx
  have h := run_make (P := Try.prog) u 22 26 i0 (.agg #[.bool false, .int .i64 0, .int .i64 0, .int .i64 0, .int .i64 0, .int .i64 0, .int .u64 0, .int .u64 0, .int .u64 0, .int .i64 0]) Try.underlying22 hi hz0 .i64 .i64 n n (by omega) (Int.le_refl _) (by rw [hz2]; omega) (by omega)
  rw [hz1, Int.toNat_natCast, show (Value.agg #[.bool false, .int .i64 0, .int .i64 0, .int .i64 0, .int .i64 0, .int .i64 0, .int .u64 0, .int .u64 0, .int .u64 0, .int .i64 0]).cells = #[.bool false, .int .i64 0, .int .i64 0, .int .i64 0, .int .i64 0, .int .i64 0, .int .u64 0, .int .u64 0, .int .u64 0, .int .i64 0] from by kernel_rfl, hm] at h
  subst hl
  exact ⟨_, _, h, or_made u l hn, by unfold Grew; go_grown⟩
theorem one_make {P : Program} {ops : Array Oper} {o : Oper} {ac : Act} {w : World} {g : Value → World → Prop} (hgd : o.guard = none) (t : TypeId) (x y : Operand) (ho : o.op = .makeSlice t x y) (px py : Value) (hx : ac.eval x = px) (hy : ac.eval y = py) (v : Value) (w' : World) (hr : (Instr.makeSlice t px py).run P w = .ok v w') (h : Grew w w' ∧ g v w') : Facts.one P ops o ac w g := by
  unfold Facts.one
  rw [if_pos (by unfold Region.wanted; rw [hgd])]
  unfold execOp
  simp only [ho, hx, hy, Sem.run_bind, Sem.run_pure, Result.andThen_ok, hr]
  exact h
def TupP (P : Po) (v : Value) (w : World) : Prop := ∃ v1 v2, v = .tuple #[v1, v2, .int .i64 P.at_, .int .u64 (P.sur : Int), .int .i64 P.err] ∧ Ors w v1 P.now ∧ Fis w v2 P.fills
theorem TupP.grew {P : Po} {v : Value} {w w' : World} (h : TupP P v w) (hg : Grew w w') : TupP P v w' := by
  obtain ⟨v1, v2, e, h1, h2⟩ := h
  exact ⟨v1, v2, e, h1.grew hg, Rw.grew h2 hg⟩
def AnsK (P : Po) (w : World) (e : Ending) (w' : World) : Prop := ∃ v1 v2, e = .returned (.tuple #[v1, v2, .int .i64 P.at_, .int .u64 (P.sur : Int), .int .i64 P.err]) ∧ Ors w' v1 P.now ∧ Fis w' v2 P.fills ∧ Grew w w'
theorem post_is {l : List Or} {o : Or} {w w' : World} {e : Ending} (P : Po) (S0 : List Nat) (hS : ∀ S, Srt l o S → S = S0) (hP : postP l o S0 = P) (h : AnsPo l o w e w') : AnsK P w e w' := by
  obtain ⟨S, v1, v2, _, h2, he, ha, hb, hg⟩ := h
  have hp : postP l o S = P := by
    rcases h2 with h | h
    · rw [hS S h]; exact hP
    · rw [← h S0]; exact hP
  rw [hp] at he ha hb
  exact ⟨v1, v2, he, ha, hb, hg⟩
theorem ans_k {P : Po} {w w' : World} {e : Ending} (n k : Nat) (hn : P.now.length = n) (hk : P.fills.length = k) (h : AnsK P w e w') : ∃ A c B d, e = .returned (.tuple #[.slice A n c, .slice B k d, .int .i64 P.at_, .int .u64 (P.sur : Int), .int .i64 P.err]) ∧ Hid (Ors w' (.slice A n c) P.now) ∧ Hid (Fis w' (.slice B k d) P.fills) ∧ Grew w w' := by
  obtain ⟨v1, v2, e1, hi, hf, hg⟩ := h
  obtain ⟨A, c, rfl, _⟩ := hi.slice
  obtain ⟨B, d, rfl, _⟩ := hf.slice
  subst hn hk
  exact ⟨A, c, B, d, e1, Lib.hid hi, Lib.hid hf, hg⟩
theorem wfs : WfO ⟨false, 0, 0, 2, 0, 1, 5, 3, 3, 0⟩ ∧ WfO ⟨true, 0, 0, 2, 0, 1, 5, 3, 3, 0⟩ ∧ WfO ⟨false, 0, 1, 1, 0, 1, 7, 5, 35, 1⟩ ∧ WfO ⟨true, 0, 1, 1, 0, 1, 7, 2, 14, 1⟩ ∧ WfO zor := by unfold WfO SzO zor; decide +kernel
theorem q1 : postP [zor, zor] ⟨false, 0, 0, 2, 0, 1, 5, 3, 3, 0⟩ [] = ⟨[⟨true, 0, 0, 2, 0, 1, 5, 3, 3, 0⟩, zor], [], 0, 0, 0⟩ := by kernel_rfl
theorem q2 : postP [⟨true, 0, 0, 2, 0, 1, 5, 3, 3, 0⟩, zor] ⟨false, 0, 1, 1, 0, 1, 7, 5, 35, 1⟩ [0] = ⟨[⟨true, 0, 1, 1, 0, 1, 7, 2, 14, 1⟩, zor], [⟨0, 3, 5⟩], 0, 6, 0⟩ := by kernel_rfl
theorem q3 : postP [] ⟨false, 0, 0, 2, 0, 1, 5, 3, 3, 0⟩ [] = ⟨[], [], 0, 0, 8⟩ := by kernel_rfl
theorem s1 : metL [zor, zor] ⟨false, 0, 0, 2, 0, 1, 5, 3, 3, 0⟩ = [] := by decide +kernel
theorem s2 : metL [⟨true, 0, 0, 2, 0, 1, 5, 3, 3, 0⟩, zor] ⟨false, 0, 1, 1, 0, 1, 7, 5, 35, 1⟩ = [0] := by decide +kernel
theorem s3 : metL [] ⟨false, 0, 0, 2, 0, 1, 5, 3, 3, 0⟩ = [] := by decide +kernel
theorem q4 : pullP [⟨true, 0, 1, 1, 0, 1, 7, 2, 14, 1⟩, zor] 0 0 0 = ([], zor, 5) := by decide +kernel
theorem q5 : pullP [⟨true, 0, 1, 1, 0, 1, 7, 2, 14, 1⟩, zor] 0 0 1 = ([zor, zor], ⟨true, 0, 1, 1, 0, 1, 7, 2, 14, 1⟩, 0) := by decide +kernel
theorem q6 : heldP [⟨true, 0, 1, 1, 0, 1, 7, 2, 14, 1⟩, zor] 1 = (14, 0) := by decide +kernel
theorem q7 : usl [⟨true, 0, 1, 1, 0, 1, 7, 2, 14, 1⟩, zor] = [0] := by decide +kernel
theorem q8 : rightO [⟨true, 0, 1, 1, 0, 1, 7, 2, 14, 1⟩, zor] = true := by decide +kernel
theorem q9 : mayO ⟨false, 0, 1, 1, 0, 1, 7, 5, 35, 1⟩ = true := by decide +kernel
def P1 : Po := ⟨[⟨true, 0, 0, 2, 0, 1, 5, 3, 3, 0⟩, zor], [], 0, 0, 0⟩
def P2 : Po := ⟨[⟨true, 0, 1, 1, 0, 1, 7, 2, 14, 1⟩, zor], [⟨0, 3, 5⟩], 0, 6, 0⟩
def P3 : Po := ⟨[], [], 0, 0, 8⟩
set_option maxHeartbeats 8000000 in
theorem alive_any (w : World) : Calls Try.prog 8 #[] w fun e w' => e = .returned (.bool true) ∧ Grew w w' := by
  obtain ⟨zs, zs1, zb, zb1, zz⟩ := wfs
  have tw : ∀ {x : Or}, WfO x → ∀ y ∈ [x, zor], WfO y := fun hx y hy => by
    rcases List.mem_cons.1 hy with h | h
    · rw [h]; exact hx
    · rw [List.mem_singleton.1 h]; exact zz
  have HM2 := Lib.hid (mk_or 2 [zor, zor] (by decide) rfl (by kernel_rfl))
  have HM0 := Lib.hid (mk_or 0 [] (by decide) rfl (by kernel_rfl))
  have H1 := Lib.hid (fun W v (h : Ors W v [zor, zor]) => (post_any v [zor, zor] ⟨false, 0, 0, 2, 0, 1, 5, 3, 3, 0⟩ W h (by decide) (tw zz) zs).mono fun _ _ h => post_is P1 [] (fun S hS => srt_none hS s1) q1 h)
  have H2 := Lib.hid (fun W v (h : Ors W v P1.now) => (post_any v [⟨true, 0, 0, 2, 0, 1, 5, 3, 3, 0⟩, zor] ⟨false, 0, 1, 1, 0, 1, 7, 5, 35, 1⟩ W h (by decide) (tw zs1) zb).mono fun _ _ h => post_is P2 [0] (fun S hS => srt_one hS s2) q2 h)
  have H3 := Lib.hid (fun W v (h : Ors W v []) => (post_any v [] ⟨false, 0, 0, 2, 0, 1, 5, 3, 3, 0⟩ W h (by decide) (fun y hy => by cases hy) zs).mono fun _ _ h => post_is P3 [] (fun S hS => srt_none hS s3) q3 h)
  have H4 := Lib.hid (fun W v (h : Ors W v P2.now) => pull_any v [⟨true, 0, 1, 1, 0, 1, 7, 2, 14, 1⟩, zor] 0 0 0 W h (by decide) (tw zb1))
  have H5 := Lib.hid (fun W v (h : Ors W v P2.now) => pull_any v [⟨true, 0, 1, 1, 0, 1, 7, 2, 14, 1⟩, zor] 0 0 1 W h (by decide) (tw zb1))
  have H6 := Lib.hid (fun W v (h : Ors W v P2.now) => held_any v [⟨true, 0, 1, 1, 0, 1, 7, 2, 14, 1⟩, zor] 1 W h (by decide) (tw zb1))
  have H7 := Lib.hid (fun W v (h : Ors W v P2.now) => slots_any v [⟨true, 0, 1, 1, 0, 1, 7, 2, 14, 1⟩, zor] W h (by decide))
  have H8 := Lib.hid (fun W v (h : Ors W v P2.now) => right_any v [⟨true, 0, 1, 1, 0, 1, 7, 2, 14, 1⟩, zor] W h (by decide) (tw zb1))
  have H9 := Lib.hid (fun W => may_any ⟨false, 0, 1, 1, 0, 1, 7, 5, 35, 1⟩ zb.1 W)
  have heq := fun W => eqF ⟨0, 3, 5⟩ W
  rw [q4] at H4
  rw [q5] at H5
  rw [q6] at H6
  rw [q7] at H7
  rw [q8] at H8
  rw [q9] at H9
  unfold AnsP at H4 H5
  simp only [orv, zor] at H4 H5 H1 H2 H3 H9
  unfold two fiv at *
  simp only at H6 heq
  have G0 : Hid (Grew w ((w.alloc (.cells #[.bool false, .int .i64 0, .int .i64 0, .int .i64 2, .int .i64 0, .int .i64 1, .int .u64 5, .int .u64 3, .int .u64 3, .int .i64 0] 26)).alloc (.cells #[.bool false, .int .i64 0, .int .i64 1, .int .i64 1, .int .i64 0, .int .i64 1, .int .u64 7, .int .u64 5, .int .u64 35, .int .i64 1] 26))) := Lib.hid (by unfold Grew; go_grown)
  have BX := Lib.hid (show ((w.alloc (.cells #[.bool false, .int .i64 0, .int .i64 0, .int .i64 2, .int .i64 0, .int .i64 1, .int .u64 5, .int .u64 3, .int .u64 3, .int .i64 0] 26)).alloc (.cells #[.bool false, .int .i64 0, .int .i64 1, .int .i64 1, .int .i64 0, .int .i64 1, .int .u64 7, .int .u64 5, .int .u64 35, .int .i64 1] 26)).heap[w.heap.size]? = some (.cells #[.bool false, .int .i64 0, .int .i64 0, .int .i64 2, .int .i64 0, .int .i64 1, .int .u64 5, .int .u64 3, .int .u64 3, .int .i64 0] 26 (0, 0)) from keepB (blk_new w (.cells #[.bool false, .int .i64 0, .int .i64 0, .int .i64 2, .int .i64 0, .int .i64 1, .int .u64 5, .int .u64 3, .int .u64 3, .int .i64 0] 26)) (by unfold Grew; go_grown))
  have BY : Hid (((w.alloc (.cells #[.bool false, .int .i64 0, .int .i64 0, .int .i64 2, .int .i64 0, .int .i64 1, .int .u64 5, .int .u64 3, .int .u64 3, .int .i64 0] 26)).alloc (.cells #[.bool false, .int .i64 0, .int .i64 1, .int .i64 1, .int .i64 0, .int .i64 1, .int .u64 7, .int .u64 5, .int .u64 35, .int .i64 1] 26)).heap[w.heap.size + 1]? = some (.cells #[.bool false, .int .i64 0, .int .i64 1, .int .i64 1, .int .i64 0, .int .i64 1, .int .u64 7, .int .u64 5, .int .u64 35, .int .i64 1] 26 (0, 0))) := Lib.hid (by
    have h := blk_new (w.alloc (.cells #[.bool false, .int .i64 0, .int .i64 0, .int .i64 2, .int .i64 0, .int .i64 1, .int .u64 5, .int .u64 3, .int .u64 3, .int .i64 0] 26)) (.cells #[.bool false, .int .i64 0, .int .i64 1, .int .i64 1, .int .i64 0, .int .i64 1, .int .u64 7, .int .u64 5, .int .u64 35, .int .i64 1] 26)
    rw [show (w.alloc (.cells #[.bool false, .int .i64 0, .int .i64 0, .int .i64 2, .int .i64 0, .int .i64 1, .int .u64 5, .int .u64 3, .int .u64 3, .int .i64 0] 26)).heap.size = w.heap.size + 1 by simp] at h
    exact h)
  clear zs zs1 zb zb1 zz tw
  go_enter Try.func8, Try.ntmps8
  go_wp2
  refine Facts.wp_region_text (by kernel_rfl) (by kernel_rfl) ?_
  refine Facts.Lex.know [] (fun v w => Ors w v [zor, zor]) (by kernel_rfl) (fun _ _ _ h hg => h.grew hg) ?_ ?_
  · intro u W hC hK
    clear hK
    obtain ⟨v, w0, hr, ho, hg⟩ := HM2.out W
    exact one_make rfl 22 _ _ rfl _ _ rfl rfl v w0 hr ⟨hg, ho⟩
  simp only [Act.put, List.setIfInBounds_toArray, List.set_cons_zero, List.set_cons_succ, Nat.zero_add]
  apply Facts.Lex.exact [] _ (by kernel_rfl)
  · intro u W hC hK
    clear hK
    obtain ⟨c0, c1, c2, c3, c4, c5, c6, c7, c8, c9⟩ := ten_c (keepB BX.out hC)
    unfold Facts.one
    go_simp
    first | exact ⟨Grew.refl _, rfl⟩ | rfl
  simp only [Act.put, List.setIfInBounds_toArray, List.set_cons_zero, List.set_cons_succ, Nat.reduceAdd]
  refine Facts.Lex.know [0] (TupP P1) (by kernel_rfl) (fun _ _ _ h hg => TupP.grew h hg) ?_ ?_
  · intro u W hC hK
    have hr : Ors W (u 0) [zor, zor] := hK.1
    have HC := Lib.hid (H1.out W _ hr)
    clear hK hr
    unfold Facts.one
    go_simp
    refine HC.out.mono ?_
    rintro e w0 ⟨v1, v2, rfl, h1, h2, hg⟩
    exact ⟨_, rfl, hg, ⟨v1, v2, rfl, h1, h2⟩⟩
  simp only [Act.put, List.setIfInBounds_toArray, List.set_cons_zero, List.set_cons_succ, Nat.reduceAdd]
  refine Facts.Lex.know [2] (TupP P1) (by kernel_rfl) (fun _ _ _ h hg => TupP.grew h hg) ?_ ?_
  · intro u W hC hK
    have HY : Hid (TupP P1 (u 2) W) := Lib.hid hK.1
    clear hK
    unfold Facts.one
    go_simp
    exact ⟨Grew.refl _, HY.out⟩
  simp only [Act.put, List.setIfInBounds_toArray, List.set_cons_zero, List.set_cons_succ, Nat.reduceAdd]
  refine Facts.Lex.know [3] (fun v w => Ors w v P1.now) (by kernel_rfl) (fun _ _ _ h hg => h.grew hg) ?_ ?_
  · intro u W hC hK
    obtain ⟨v1, v2, hv, h1, h2⟩ : TupP P1 (u 3) W := hK.1
    have H1 := Lib.hid h1
    have H2 := Lib.hid h2
    clear hK h1 h2
    unfold Facts.one
    simp only [hv]
    go_simp
    exact ⟨Grew.refl _, H1.out⟩
  simp only [Act.put, List.setIfInBounds_toArray, List.set_cons_zero, List.set_cons_succ, Nat.reduceAdd]
  refine Facts.Lex.know [3] (fun v w => Fis w v P1.fills) (by kernel_rfl) (fun _ _ _ h hg => Rw.grew h hg) ?_ ?_
  · intro u W hC hK
    obtain ⟨v1, v2, hv, h1, h2⟩ : TupP P1 (u 3) W := hK.1
    have H1 := Lib.hid h1
    have H2 := Lib.hid h2
    clear hK h1 h2
    unfold Facts.one
    simp only [hv]
    go_simp
    exact ⟨Grew.refl _, H2.out⟩
  simp only [Act.put, List.setIfInBounds_toArray, List.set_cons_zero, List.set_cons_succ, Nat.reduceAdd]
  apply Facts.Lex.exact [3] (.int .i64 P1.at_) (by kernel_rfl)
  · intro u W hC hK
    obtain ⟨v1, v2, hv, h1, h2⟩ : TupP P1 (u 3) W := hK.1
    have H1 := Lib.hid h1
    have H2 := Lib.hid h2
    clear hK h1 h2
    unfold Facts.one
    simp only [hv]
    go_simp
    first | exact ⟨Grew.refl _, rfl⟩ | rfl
  simp only [Act.put, List.setIfInBounds_toArray, List.set_cons_zero, List.set_cons_succ, Nat.reduceAdd]
  apply Facts.Lex.exact [3] (.int .u64 (P1.sur : Int)) (by kernel_rfl)
  · intro u W hC hK
    obtain ⟨v1, v2, hv, h1, h2⟩ : TupP P1 (u 3) W := hK.1
    have H1 := Lib.hid h1
    have H2 := Lib.hid h2
    clear hK h1 h2
    unfold Facts.one
    simp only [hv]
    go_simp
    first | exact ⟨Grew.refl _, rfl⟩ | rfl
  simp only [Act.put, List.setIfInBounds_toArray, List.set_cons_zero, List.set_cons_succ, Nat.reduceAdd]
  apply Facts.Lex.exact [3] (.int .i64 P1.err) (by kernel_rfl)
  · intro u W hC hK
    obtain ⟨v1, v2, hv, h1, h2⟩ : TupP P1 (u 3) W := hK.1
    have H1 := Lib.hid h1
    have H2 := Lib.hid h2
    clear hK h1 h2
    unfold Facts.one
    simp only [hv]
    go_simp
    first | exact ⟨Grew.refl _, rfl⟩ | rfl
  simp only [Act.put, List.setIfInBounds_toArray, List.set_cons_zero, List.set_cons_succ, Nat.reduceAdd]
  refine Facts.Lex.know [4] (fun v w => Ors w v P1.now) (by kernel_rfl) (fun _ _ _ h hg => h.grew hg) ?_ ?_
  · intro u W hC hK
    have HY : Hid (Ors W (u 4) P1.now) := Lib.hid hK.1
    clear hK
    unfold Facts.one
    go_simp
    exact ⟨Grew.refl _, HY.out⟩
  simp only [Act.put, List.setIfInBounds_toArray, List.set_cons_zero, List.set_cons_succ, Nat.reduceAdd]
  refine Facts.Lex.know [5] (fun v w => Fis w v P1.fills) (by kernel_rfl) (fun _ _ _ h hg => Rw.grew h hg) ?_ ?_
  · intro u W hC hK
    have HY : Hid (Fis W (u 5) P1.fills) := Lib.hid hK.1
    clear hK
    unfold Facts.one
    go_simp
    exact ⟨Grew.refl _, HY.out⟩
  simp only [Act.put, List.setIfInBounds_toArray, List.set_cons_zero, List.set_cons_succ, Nat.reduceAdd]
  apply Facts.Lex.exact [] _ (by kernel_rfl)
  · intro u W hC hK
    clear hK
    unfold Facts.one
    go_simp
    first | exact ⟨Grew.refl _, rfl⟩ | rfl
  simp only [Act.put, List.setIfInBounds_toArray, List.set_cons_zero, List.set_cons_succ, Nat.reduceAdd]
  apply Facts.Lex.exact [] _ (by kernel_rfl)
  · intro u W hC hK
    clear hK
    unfold Facts.one
    go_simp
    first | exact ⟨Grew.refl _, rfl⟩ | rfl
  simp only [Act.put, List.setIfInBounds_toArray, List.set_cons_zero, List.set_cons_succ, Nat.reduceAdd]
  apply Facts.Lex.exact [] _ (by kernel_rfl)
  · intro u W hC hK
    clear hK
    unfold Facts.one
    go_simp
    first | exact ⟨Grew.refl _, rfl⟩ | rfl
  simp only [Act.put, List.setIfInBounds_toArray, List.set_cons_zero, List.set_cons_succ, Nat.reduceAdd]

  refine Facts.Lex.done fun u W1 hC hL => ?_
  have hf := hL _ (List.mem_cons_self ..)
  have ho := hL _ (List.mem_cons_of_mem _ (List.mem_cons_self ..))
  have I1 : Hid (Ors W1 (u 9) P1.now) := Lib.hid ho
  have F1 : Hid (Fis W1 (u 10) P1.fills) := Lib.hid hf
  have G1 := Lib.hid (G0.out.trans hC)
  have BX1 := Lib.hid (keepB BX.out hC)
  have BY1 := Lib.hid (keepB BY.out hC)
  obtain ⟨Af, cf, hu10, _⟩ := F1.out.slice
  rw [hu10]
  clear hC hL hf ho BX BY F1 hu10
  generalize u 9 = v1 at *
  obtain ⟨y0, y1, y2, y3, y4, y5, y6, y7, y8, y9⟩ := ten_c BY1.out
  simp only [P1]
  go_wp2_with fail
  refine (H2.out _ _ I1.out).mono ?_
  rintro e w2 ha
  obtain ⟨A2, c2, B2, cb2, rfl, I2, F2, hg⟩ := ans_k 2 1 rfl rfl ha
  have G2 := Lib.hid (G1.out.trans hg)
  have BX2 := Lib.hid (keepB BX1.out hg)
  have BY2 := Lib.hid (keepB BY1.out hg)
  clear ha hg BX1 BY1 I1 y0 y1 y2 y3 y4 y5 y6 y7 y8 y9 G1
  simp only [P2]
  go_wp2_with fail
  refine (H4.out _ _ I2.out).mono ?_
  rintro e w3 ⟨v3, rfl, _, hg⟩
  have gz : Grew w3 (w3.alloc (.cells #[.bool false, .int .i64 0, .int .i64 0, .int .i64 0, .int .i64 0, .int .i64 0, .int .u64 0, .int .u64 0, .int .u64 0, .int .i64 0] 26)) := by unfold Grew; go_grown
  have G3 := Lib.hid (G2.out.trans (hg.trans gz))
  have BX3 := Lib.hid (keepB BX2.out (hg.trans gz))
  have BY3 := Lib.hid (keepB BY2.out (hg.trans gz))
  have I3 := Lib.hid (I2.out.grew (hg.trans gz))
  have F3 := Lib.hid (Rw.grew F2.out (hg.trans gz))
  clear hg gz BX2 BY2 I2 F2 G2
  go_wp2_with fail
  refine (H5.out _ _ I3.out).mono ?_
  rintro e w4 ⟨v4, rfl, _, hg⟩
  have gz : Grew w4 (w4.alloc (.cells #[.bool true, .int .i64 0, .int .i64 1, .int .i64 1, .int .i64 0, .int .i64 1, .int .u64 7, .int .u64 2, .int .u64 14, .int .i64 1] 26)) := by unfold Grew; go_grown
  have G4 := Lib.hid (G3.out.trans (hg.trans gz))
  have BX4 := Lib.hid (keepB BX3.out (hg.trans gz))
  have BY4 := Lib.hid (keepB BY3.out (hg.trans gz))
  have BO4 := Lib.hid (blk_new w4 (.cells #[.bool true, .int .i64 0, .int .i64 1, .int .i64 1, .int .i64 0, .int .i64 1, .int .u64 7, .int .u64 2, .int .u64 14, .int .i64 1] 26))
  have I4 := Lib.hid (I3.out.grew (hg.trans gz))
  have F4 := Lib.hid (Rw.grew F3.out (hg.trans gz))
  clear hg gz BX3 BY3 I3 F3 G3
  go_wp2
  refine Facts.wp_region_text (by kernel_rfl) (by kernel_rfl) ?_
  refine Facts.Lex.know [] (fun v w => Ors w v []) (by kernel_rfl) (fun _ _ _ h hg => h.grew hg) ?_ ?_
  · intro u W hC hK
    clear hK
    obtain ⟨v, w0, hr, ho, hg⟩ := HM0.out W
    exact one_make rfl 22 _ _ rfl _ _ rfl rfl v w0 hr ⟨hg, ho⟩
  simp only [Act.put, List.setIfInBounds_toArray, List.set_cons_zero, List.set_cons_succ, Nat.zero_add]
  apply Facts.Lex.exact [] _ (by kernel_rfl)
  · intro u W hC hK
    clear hK
    obtain ⟨c0, c1, c2, c3, c4, c5, c6, c7, c8, c9⟩ := ten_c (keepB BX4.out hC)
    unfold Facts.one
    go_simp
    first | exact ⟨Grew.refl _, rfl⟩ | rfl
  simp only [Act.put, List.setIfInBounds_toArray, List.set_cons_zero, List.set_cons_succ, Nat.reduceAdd]
  refine Facts.Lex.know [0] (TupP P3) (by kernel_rfl) (fun _ _ _ h hg => TupP.grew h hg) ?_ ?_
  · intro u W hC hK
    have hr : Ors W (u 0) [] := hK.1
    have HC := Lib.hid (H3.out W _ hr)
    clear hK hr
    unfold Facts.one
    go_simp
    refine HC.out.mono ?_
    rintro e w0 ⟨v1, v2, rfl, h1, h2, hg⟩
    exact ⟨_, rfl, hg, ⟨v1, v2, rfl, h1, h2⟩⟩
  simp only [Act.put, List.setIfInBounds_toArray, List.set_cons_zero, List.set_cons_succ, Nat.reduceAdd]
  refine Facts.Lex.know [2] (TupP P3) (by kernel_rfl) (fun _ _ _ h hg => TupP.grew h hg) ?_ ?_
  · intro u W hC hK
    have HY : Hid (TupP P3 (u 2) W) := Lib.hid hK.1
    clear hK
    unfold Facts.one
    go_simp
    exact ⟨Grew.refl _, HY.out⟩
  simp only [Act.put, List.setIfInBounds_toArray, List.set_cons_zero, List.set_cons_succ, Nat.reduceAdd]
  refine Facts.Lex.know [3] (fun v w => Ors w v P3.now) (by kernel_rfl) (fun _ _ _ h hg => h.grew hg) ?_ ?_
  · intro u W hC hK
    obtain ⟨v1, v2, hv, h1, h2⟩ : TupP P3 (u 3) W := hK.1
    have H1 := Lib.hid h1
    have H2 := Lib.hid h2
    clear hK h1 h2
    unfold Facts.one
    simp only [hv]
    go_simp
    exact ⟨Grew.refl _, H1.out⟩
  simp only [Act.put, List.setIfInBounds_toArray, List.set_cons_zero, List.set_cons_succ, Nat.reduceAdd]
  refine Facts.Lex.know [3] (fun v w => Fis w v P3.fills) (by kernel_rfl) (fun _ _ _ h hg => Rw.grew h hg) ?_ ?_
  · intro u W hC hK
    obtain ⟨v1, v2, hv, h1, h2⟩ : TupP P3 (u 3) W := hK.1
    have H1 := Lib.hid h1
    have H2 := Lib.hid h2
    clear hK h1 h2
    unfold Facts.one
    simp only [hv]
    go_simp
    exact ⟨Grew.refl _, H2.out⟩
  simp only [Act.put, List.setIfInBounds_toArray, List.set_cons_zero, List.set_cons_succ, Nat.reduceAdd]
  apply Facts.Lex.exact [3] (.int .i64 P3.at_) (by kernel_rfl)
  · intro u W hC hK
    obtain ⟨v1, v2, hv, h1, h2⟩ : TupP P3 (u 3) W := hK.1
    have H1 := Lib.hid h1
    have H2 := Lib.hid h2
    clear hK h1 h2
    unfold Facts.one
    simp only [hv]
    go_simp
    first | exact ⟨Grew.refl _, rfl⟩ | rfl
  simp only [Act.put, List.setIfInBounds_toArray, List.set_cons_zero, List.set_cons_succ, Nat.reduceAdd]
  apply Facts.Lex.exact [3] (.int .u64 (P3.sur : Int)) (by kernel_rfl)
  · intro u W hC hK
    obtain ⟨v1, v2, hv, h1, h2⟩ : TupP P3 (u 3) W := hK.1
    have H1 := Lib.hid h1
    have H2 := Lib.hid h2
    clear hK h1 h2
    unfold Facts.one
    simp only [hv]
    go_simp
    first | exact ⟨Grew.refl _, rfl⟩ | rfl
  simp only [Act.put, List.setIfInBounds_toArray, List.set_cons_zero, List.set_cons_succ, Nat.reduceAdd]
  apply Facts.Lex.exact [3] (.int .i64 P3.err) (by kernel_rfl)
  · intro u W hC hK
    obtain ⟨v1, v2, hv, h1, h2⟩ : TupP P3 (u 3) W := hK.1
    have H1 := Lib.hid h1
    have H2 := Lib.hid h2
    clear hK h1 h2
    unfold Facts.one
    simp only [hv]
    go_simp
    first | exact ⟨Grew.refl _, rfl⟩ | rfl
  simp only [Act.put, List.setIfInBounds_toArray, List.set_cons_zero, List.set_cons_succ, Nat.reduceAdd]
  refine Facts.Lex.know [4] (fun v w => Ors w v P3.now) (by kernel_rfl) (fun _ _ _ h hg => h.grew hg) ?_ ?_
  · intro u W hC hK
    have HY : Hid (Ors W (u 4) P3.now) := Lib.hid hK.1
    clear hK
    unfold Facts.one
    go_simp
    exact ⟨Grew.refl _, HY.out⟩
  simp only [Act.put, List.setIfInBounds_toArray, List.set_cons_zero, List.set_cons_succ, Nat.reduceAdd]
  refine Facts.Lex.know [5] (fun v w => Fis w v P3.fills) (by kernel_rfl) (fun _ _ _ h hg => Rw.grew h hg) ?_ ?_
  · intro u W hC hK
    have HY : Hid (Fis W (u 5) P3.fills) := Lib.hid hK.1
    clear hK
    unfold Facts.one
    go_simp
    exact ⟨Grew.refl _, HY.out⟩
  simp only [Act.put, List.setIfInBounds_toArray, List.set_cons_zero, List.set_cons_succ, Nat.reduceAdd]
  apply Facts.Lex.exact [] _ (by kernel_rfl)
  · intro u W hC hK
    clear hK
    unfold Facts.one
    go_simp
    first | exact ⟨Grew.refl _, rfl⟩ | rfl
  simp only [Act.put, List.setIfInBounds_toArray, List.set_cons_zero, List.set_cons_succ, Nat.reduceAdd]
  apply Facts.Lex.exact [] _ (by kernel_rfl)
  · intro u W hC hK
    clear hK
    unfold Facts.one
    go_simp
    first | exact ⟨Grew.refl _, rfl⟩ | rfl
  simp only [Act.put, List.setIfInBounds_toArray, List.set_cons_zero, List.set_cons_succ, Nat.reduceAdd]
  apply Facts.Lex.exact [] _ (by kernel_rfl)
  · intro u W hC hK
    clear hK
    unfold Facts.one
    go_simp
    first | exact ⟨Grew.refl _, rfl⟩ | rfl
  simp only [Act.put, List.setIfInBounds_toArray, List.set_cons_zero, List.set_cons_succ, Nat.reduceAdd]

  refine Facts.Lex.done fun u W5 hC hL => ?_
  have G5 := Lib.hid (G4.out.trans hC)
  have BY5 := Lib.hid (keepB BY4.out hC)
  have BO5 := Lib.hid (keepB BO4.out hC)
  have I5 := Lib.hid (I4.out.grew hC)
  have F5 := Lib.hid (Rw.grew F4.out hC)
  clear hC hL BX4 BY4 BO4 I4 F4 G4
  generalize u 9 = v5 at *
  generalize u 10 = v6 at *
  simp only [P3]
  go_wp2_with fail
  refine (H6.out _ _ I5.out).mono ?_
  rintro e w6 ⟨rfl, hg⟩
  have G6 := Lib.hid (G5.out.trans hg)
  have BY6 := Lib.hid (keepB BY5.out hg)
  have BO6 := Lib.hid (keepB BO5.out hg)
  have I6 := Lib.hid (I5.out.grew hg)
  obtain ⟨ad, c9, e, _, d0, d1, d2, d3, d4, d5, d6, d7, d8, d9⟩ := Ors_at (k := 0) I6.out rfl
  injection e with e1 e2 e3
  subst e1 e3
  clear e2
  obtain ⟨ad2, c9, e, _, f0, f1, f2⟩ := Fis_at (k := 0) (Rw.grew F5.out hg) rfl
  injection e with e1 e2 e3
  subst e1 e3
  clear e2
  obtain ⟨y0, y1, y2, y3, y4, y5, y6, y7, y8, y9⟩ := ten_c BY6.out
  obtain ⟨x0, x1, x2, x3, x4, x5, x6, x7, x8, x9⟩ := ten_c BO6.out
  simp only at d0 d1 d2 d3 d4 d5 d6 d7 d8 d9 f0 f1 f2
  have e0 : ad.add (0 * 10) = ad := rfl
  have e1 : ad2.add (0 * 3) = ad2 := rfl
  rw [e0] at d0 d1 d2 d3 d4 d5 d6 d7 d8 d9
  rw [e1] at f0 f1 f2
  clear e0 e1
  clear hg BY5 BO5 I5 F5 G5
  go_wp2_with fail
  refine (H7.out _ _ I6.out).mono ?_
  rintro e w7 ⟨v7, b7, rfl, _, _, ho7, hg⟩
  have G7 := Lib.hid (G6.out.trans hg)
  have I7 := Lib.hid (I6.out.grew hg)
  have BY7 := Lib.hid (keepB BY6.out hg)
  obtain ⟨g7, c7, rfl, _⟩ := World.ownsRow.form ho7 (by decide)
  clear hg ho7 d0 d1 d2 d3 d4 d5 d6 d7 d8 d9 f0 f1 f2 x0 x1 x2 x3 x4 x5 x6 x7 x8 x9 y0 y1 y2 y3 y4 y5 y6 y7 y8 y9 BY6 BO6 I6 G6
  go_wp2_with fail
  refine (H8.out _ _ I7.out).mono ?_
  rintro e w8 ⟨rfl, hg⟩
  have G8 := Lib.hid (G7.out.trans hg)
  have BY8 := Lib.hid (keepB BY7.out hg)
  obtain ⟨y0, y1, y2, y3, y4, y5, y6, y7, y8, y9⟩ := ten_c BY8.out
  clear hg
  go_wp2_with fail
  refine (H9.out _).mono ?_
  rintro e w9 ⟨rfl, hg⟩
  have G9 := Lib.hid (G8.out.trans hg)
  clear hg
  go_wp2
  go_returns
  exact ⟨rfl, G9.out⟩
end Go.Proofs.Ytmnfajplfnfgpaa.OV
