/-
  What any realm needs is told.
  Conditions: those that each lemma names.
-/
import Derived.Test.YtahlheopdneebaaGreatBR
import Derived.Test.YtahlheopdneebaaGreatMarks
import Derived.Lib.Hide
namespace Go.Proofs.YtahlheopdneebaaGreat.BT
set_option maxRecDepth 100000
open Go Go.RowKit Go.Lib Go.Proofs.YtahlheopdneebaaGreat Go.Proofs.YtahlheopdneebaaGreat.Facts Go.Proofs.YtahlheopdneebaaGreat.Ints Go.Proofs.YtahlheopdneebaaGreat.RRows Go.Proofs.YtahlheopdneebaaGreat.RSmall Go.Proofs.YtahlheopdneebaaGreat.RRules Go.Proofs.YtahlheopdneebaaGreat.RCaps Go.Proofs.YtahlheopdneebaaGreat.RRule3 Go.Proofs.YtahlheopdneebaaGreat.RRule5 Go.Proofs.YtahlheopdneebaaGreat.RRight Go.Proofs.YtahlheopdneebaaGreat.HS Go.Proofs.YtahlheopdneebaaGreat.BV Go.Proofs.YtahlheopdneebaaGreat.BP Go.Proofs.YtahlheopdneebaaGreat.BN Go.Proofs.YtahlheopdneebaaGreat.BM Go.Proofs.YtahlheopdneebaaGreat.BI Go.Proofs.YtahlheopdneebaaGreat.BL Go.Proofs.YtahlheopdneebaaGreat.BK Go.Proofs.YtahlheopdneebaaGreat.BA Go.Proofs.YtahlheopdneebaaGreat.DR Go.Proofs.YtahlheopdneebaaGreat.BR


section
variable {P : Program} {ops : Array Oper} {o : Oper} {ac : Act} {w : World} {R : World → World → Prop} {J' : Value → World → Prop} {g : Value → World → Prop}
theorem one_store (hgd : o.guard = none) (t : TypeId) (x y : Operand) (ho : o.op = .store t x y) (px vy : Value) (hx : ac.eval x = px) (hy : ac.eval y = vy) (w' : World) (hr : (Instr.storeAt t px vy).run P w = .ok () w') (h : R w w' ∧ J' undef w' ∧ g undef w') : Marks.one P ops o ac w R J' g := by
  unfold Marks.one
  rw [if_pos (by unfold Region.wanted; rw [hgd])]
  unfold execOp
  simp only [ho, hx, hy, Sem.run_bind, Sem.run_pure, Result.andThen_ok, hr]
  exact h
end
/-- One operation leads to Pst; those that it waits for (D) come ahead of it, in worlds that only grew. -/
structure JM (Wc : World) (D : List Nat) (N : Nat) (Pst : World → Prop) (m : Nat → Bool) (_u : Nat → Value) (w : World) : Prop where
  a : m N = false → Grew Wc w
  b : m N = true → (∀ j ∈ D, m j = true) ∧ Pst w
theorem JM.start (w : World) (D : List Nat) (N : Nat) (Pst : World → Prop) : JM w D N Pst (fun _ => false) (fun _ => undef) w.drew := ⟨fun _ => (Grew.refl w).drew, fun h => by cases h⟩
theorem JM.get {Wc : World} {D : List Nat} {N : Nat} {Pst : World → Prop} {m : Nat → Bool} {u : Nat → Value} {w : World} (h : JM Wc D N Pst m u w) (k : Nat) (hk : k ∈ D) (hm : m k = false) : Grew Wc w ∧ m N = false := by
  cases hN : m N with
  | false => exact ⟨h.a hN, rfl⟩
  | true => rw [(h.b hN).1 k hk] at hm; cases hm
/-- An operation that it waits for. -/
theorem JM.keep {Wc : World} {D : List Nat} {N : Nat} {Pst : World → Prop} {m : Nat → Bool} {u : Nat → Value} {w w' : World} (h : JM Wc D N Pst m u w) (k : Nat) (hk : k ∈ D) (hkN : N ≠ k) (hm : m k = false) (v : Value) (hg : Grew w w') : JM Wc D N Pst (Marks.upd m k) (Marks.updv u k v) w' := by
  obtain ⟨h1, h2⟩ := h.get k hk hm
  exact ⟨fun _ => h1.trans hg, fun hN => by rw [Marks.upd_other m hkN, h2] at hN; cases hN⟩
/-- An operation that touches nothing. -/
theorem JM.idle {Wc : World} {D : List Nat} {N : Nat} {Pst : World → Prop} {m : Nat → Bool} {u : Nat → Value} {w : World} (h : JM Wc D N Pst m u w) (k : Nat) (hkN : N ≠ k) (v : Value) : JM Wc D N Pst (Marks.upd m k) (Marks.updv u k v) w := by
  refine ⟨fun hN => ?_, fun hN => ?_⟩
  · rw [Marks.upd_other m hkN] at hN; exact h.a hN
  · rw [Marks.upd_other m hkN] at hN
    obtain ⟨h1, h2⟩ := h.b hN
    refine ⟨fun j hj => ?_, h2⟩
    by_cases e : j = k
    · subst e; exact Marks.upd_same m j
    · rw [Marks.upd_other m e]; exact h1 j hj
theorem JM.last {Wc : World} {D : List Nat} {N : Nat} {Pst : World → Prop} {m : Nat → Bool} {u : Nat → Value} {w w' : World} (_h : JM Wc D N Pst m u w) (v : Value) (hND : N ∉ D) (hall : ∀ j ∈ D, m j = true) (hp : Pst w') : JM Wc D N Pst (Marks.upd m N) (Marks.updv u N v) w' :=
  ⟨(fun hN => by rw [Marks.upd_same] at hN; cases hN), fun _ => ⟨fun j hj => by rw [Marks.upd_other m (fun e => hND (by subst e; exact hj))]; exact hall j hj, hp⟩⟩
theorem eqP (q : Pl) (W : World) : (binOp .eql 30 (PV q) (PV q)).run Tryz.prog W = .ok (.bool true) W := by
  unfold PV
  go_simp
  try simp
set_option maxHeartbeats 4000000 in
theorem rplan_any (v : Value) (r : Re) (w : World) (h : ReIs w v r) (hs : Sized r) : Calls Tryz.prog 5 #[v] w fun e w' => e = .returned (.tuple #[PV (planR r), .int .i64 (planE r)]) ∧ Grew w w' := by
  have HRT := Lib.hid (fun W (hg : Grew w W) => rright_any v r W (h.grew hg) hs)
  have HIM := Lib.hid (fun W (hg : Grew w W) => rimage_any v r W (h.grew hg) hs)
  have HRC := Lib.hid (fun W (hg : Grew w W) => rrecord_any v r W (h.grew hg) hs)
  have HRB := Lib.hid (RB.of (r := r))
  obtain ⟨v0, v1, v2, v3, v4, rfl, _⟩ := h
  clear hs
  have gz : Grew w ((w.alloc (Obj.cells #[v0, v1, v2, v3, v4, .int .i64 r.orders, .int .i64 r.audits, .int .i64 r.rate, .int .i64 r.rounds] 28)).alloc (.cells #[.int .i64 0, .int .i64 0, .int .i64 0] 30)) := by unfold Grew; go_grown
  have G0 := Lib.hid gz
  have X0 : Hid (((w.alloc (Obj.cells #[v0, v1, v2, v3, v4, .int .i64 r.orders, .int .i64 r.audits, .int .i64 r.rate, .int .i64 r.rounds] 28)).alloc (.cells #[.int .i64 0, .int .i64 0, .int .i64 0] 30)).heap[w.heap.size]? = some (rcell v0 v1 v2 v3 v4 r.orders r.audits r.rate r.rounds)) := Lib.hid (two_new w _ _).1
  have Y0 : Hid (((w.alloc (Obj.cells #[v0, v1, v2, v3, v4, .int .i64 r.orders, .int .i64 r.audits, .int .i64 r.rate, .int .i64 r.rounds] 28)).alloc (.cells #[.int .i64 0, .int .i64 0, .int .i64 0] 30)).heap[w.heap.size + 1]? = some (.cells #[.int .i64 0, .int .i64 0, .int .i64 0] 30 (0, 0))) := Lib.hid (two_new w _ _).2
  clear gz
  unfold planR planE
  cases hm : mayBe r with
  | false =>
    rw [hm] at HRT
    clear HIM HRC HRB hm
    rw [if_neg (by decide), if_neg (by decide)]
    go_enter Tryz.func5, Tryz.ntmps5
    go_wp2_with fail
    refine (HRT.out _ G0.out).mono ?_
    rintro e w1 ⟨rfl, hg⟩
    have G1 := Lib.hid (G0.out.trans hg)
    have Y1 := Lib.hid (keepB Y0.out hg)
    clear hg X0 G0 Y0
    obtain ⟨W5, hst, hb5, hg5⟩ := blk_store [.int .i64 0, .int .i64 0, .int .i64 0] Y1.out rfl (by kernel_rfl) (by simp [Value.oneCell'])
    have HST := Lib.hid hst
    have G5 : Hid (Grew w W5) := Lib.hid ((show Below w.heap.size w w1 from G1.out).grown hg5 G1.out.size (fun j e => by cases e; exact Nat.le_succ _))
    have hld : (loadVar 30 ⟨w.heap.size + 1, 0, none⟩).run Tryz.prog W5 = .ok (PV ⟨0, 0, 0⟩) W5 :=
      run_loadVar_mid W5 (w.heap.size + 1) 0 30 [.int .i64 0, .int .i64 0, .int .i64 0] _ (fun j v hv => by
        rw [cell_of_row _ _ _ _ _ _ hb5]
        simpa using hv) Tryz.underlying30 rfl (by kernel_rfl)
    have HLD := Lib.hid hld
    clear hst hb5 hg5 hld Y1 G1
    go_wp2_with (refine wpList_store (by rfl) 30 (.tmp 2) (.tmp 7) (by with_reducible rfl) _ _ (by rfl) (by rfl) _ HST.out ?_)
    refine bodyPost_ret (results_ct rfl rfl HLD.out) rfl ?_
    exact ⟨rfl, G5.out⟩
  | true =>
    have hb := HRB.out hm
    rw [hm] at HRT
    rw [if_pos rfl, if_pos rfl]
    rw [show imageP r = imgP r from by unfold imageP; rw [if_pos hm]] at HIM
    rw [show recordP r = recP r from by unfold recordP; rw [if_pos hm]] at HRC
    obtain ⟨rn, hrn⟩ : ∃ rn : Nat, r.rounds = (rn : Int) := ⟨r.rounds.toNat, by have := hb.rou1; omega⟩
    have HPP : Hid (PV (planP r) = .agg #[.int .i64 (areaP r : Int), .int .i64 (rn : Int), .int .i64 (eachP r : Int)]) := Lib.hid (by unfold planP PV; simp only; rw [hrn]; simp)
    rw [hrn] at X0 HRT HIM HRC G0 Y0 ⊢
    have hi := hb.img
    have hr := hb.record
    have u1 : (imgP r + 12 + 107) / 108 = (areaP r : Int) := by unfold areaP; omega
    have u2 : (recP r + 4 + 107) / 108 = (eachP r : Int) := by unfold eachP; omega
    have HU1 := Lib.hid (fun W => up_any (imgP r + 12) W (by omega) (by omega))
    have HU2 := Lib.hid (fun W => up_any (recP r + 4) W (by omega) (by omega))
    rw [u1] at HU1
    rw [u2] at HU2
    have WI := Lib.hid (wr (imgP r + 12) (by omega) (by omega))
    have WR := Lib.hid (wr (recP r + 4) (by omega) (by omega))
    clear hb hm HRB hrn hi hr u1 u2
    obtain ⟨ia, hia⟩ : ∃ ia, imgP r + 12 = ia := ⟨_, rfl⟩
    obtain ⟨ra, hra⟩ : ∃ ra, recP r + 4 = ra := ⟨_, rfl⟩
    rw [hia] at HU1 WI
    rw [hra] at HU2 WR
    have WI2 : Hid (IntKind.i64.wrap (imgP r + 12) = ia) := Lib.hid (by rw [hia]; exact WI.out)
    have WR2 : Hid (IntKind.i64.wrap (recP r + 4) = ra) := Lib.hid (by rw [hra]; exact WR.out)
    clear hia hra WI WR
    generalize imgP r = im at *
    generalize recP r = rc at *
    generalize areaP r = NA at *
    generalize eachP r = NE at *
    generalize PV (planP r) = PP at *
    go_enter Tryz.func5, Tryz.ntmps5
    go_wp2_with fail
    refine (HRT.out _ G0.out).mono ?_
    rintro e w1 ⟨rfl, hg⟩
    have G1 := Lib.hid (G0.out.trans hg)
    have X1 := Lib.hid (keepB X0.out hg)
    have Y1 := Lib.hid (keepB Y0.out hg)
    clear hg X0 G0 Y0 HRT
    obtain ⟨PS, hPS⟩ : ∃ PS : World → Prop, PS = fun W' => W'.heap[w.heap.size + 1]? = some (.cells #[.int .i64 (NA : Int), .int .i64 (rn : Int), .int .i64 (NE : Int)] 30 (0, 0)) ∧ ∃ Wg, Grew w1 Wg ∧ Wg.grownBy W' (some (w.heap.size + 1)) := ⟨_, rfl⟩
    have HPS := Lib.hid hPS
    clear hPS
    go_upto_region 3 with fail
    refine Marks.wp_region_text (JM w1 [0, 1, 3, 5, 6, 7, 9] 11 PS) (fun _ _ => True) (by kernel_rfl) (by kernel_rfl) (JM.start _ _ _ _) ?_
    apply Marks.Lex.exact [] _ (by kernel_rfl)
    · intro m u W hm hcl hJ _
      obtain ⟨hC, _⟩ := hJ.get 0 (by decide) hm
      obtain ⟨r0, r1, r2, r3, r4, r5, r6, r7, r8⟩ := re_cells (keepB X1.out hC)
      unfold Marks.one
      go_simp
      exact ⟨trivial, hJ.keep 0 (by decide) (by decide) hm _ (Grew.refl _), rfl⟩
    simp only [Act.put, List.setIfInBounds_toArray, List.set_cons_zero, List.set_cons_succ, Nat.zero_add]
    apply Marks.Lex.exact [] (.int .i64 im) (by kernel_rfl)
    · intro m u W hm hcl hJ _
      obtain ⟨hC, _⟩ := hJ.get 1 (by decide) hm
      unfold Marks.one
      go_simp
      exact (HIM.out _ (G1.out.trans hC)).mono fun e w' ⟨he, hg⟩ => ⟨_, he, trivial, hJ.keep 1 (by decide) (by decide) hm _ hg, rfl⟩
    simp only [Act.put, List.setIfInBounds_toArray, List.set_cons_zero, List.set_cons_succ, Nat.reduceAdd]
    apply Marks.Lex.exact [] (.int .i64 ia) (by kernel_rfl)
    · intro m u W hm hcl hJ _
      have d := WI2.out
      unfold Marks.one
      go_simp
      exact ⟨trivial, hJ.idle 2 (by decide) _, rfl⟩
    simp only [Act.put, List.setIfInBounds_toArray, List.set_cons_zero, List.set_cons_succ, Nat.reduceAdd]
    apply Marks.Lex.exact [] (.int .i64 (NA : Int)) (by kernel_rfl)
    · intro m u W hm hcl hJ _
      obtain ⟨hC, _⟩ := hJ.get 3 (by decide) hm
      unfold Marks.one
      go_simp
      exact (HU1.out _).mono fun e w' ⟨he, hg⟩ => ⟨_, he, trivial, hJ.keep 3 (by decide) (by decide) hm _ hg, rfl⟩
    simp only [Act.put, List.setIfInBounds_toArray, List.set_cons_zero, List.set_cons_succ, Nat.reduceAdd]
    apply Marks.Lex.exact [] _ (by kernel_rfl)
    · intro m u W hm hcl hJ _
      unfold Marks.one
      go_simp
      exact ⟨trivial, hJ.idle 4 (by decide) _, rfl⟩
    simp only [Act.put, List.setIfInBounds_toArray, List.set_cons_zero, List.set_cons_succ, Nat.reduceAdd]
    apply Marks.Lex.exact [] _ (by kernel_rfl)
    · intro m u W hm hcl hJ _
      obtain ⟨hC, _⟩ := hJ.get 5 (by decide) hm
      obtain ⟨r0, r1, r2, r3, r4, r5, r6, r7, r8⟩ := re_cells (keepB X1.out hC)
      unfold Marks.one
      go_simp
      exact ⟨trivial, hJ.keep 5 (by decide) (by decide) hm _ (Grew.refl _), rfl⟩
    simp only [Act.put, List.setIfInBounds_toArray, List.set_cons_zero, List.set_cons_succ, Nat.reduceAdd]
    apply Marks.Lex.exact [] _ (by kernel_rfl)
    · intro m u W hm hcl hJ _
      obtain ⟨hC, _⟩ := hJ.get 6 (by decide) hm
      obtain ⟨r0, r1, r2, r3, r4, r5, r6, r7, r8⟩ := re_cells (keepB X1.out hC)
      unfold Marks.one
      go_simp
      exact ⟨trivial, hJ.keep 6 (by decide) (by decide) hm _ (Grew.refl _), rfl⟩
    simp only [Act.put, List.setIfInBounds_toArray, List.set_cons_zero, List.set_cons_succ, Nat.reduceAdd]
    apply Marks.Lex.exact [] (.int .i64 rc) (by kernel_rfl)
    · intro m u W hm hcl hJ _
      obtain ⟨hC, _⟩ := hJ.get 7 (by decide) hm
      unfold Marks.one
      go_simp
      exact (HRC.out _ (G1.out.trans hC)).mono fun e w' ⟨he, hg⟩ => ⟨_, he, trivial, hJ.keep 7 (by decide) (by decide) hm _ hg, rfl⟩
    simp only [Act.put, List.setIfInBounds_toArray, List.set_cons_zero, List.set_cons_succ, Nat.reduceAdd]
    apply Marks.Lex.exact [] (.int .i64 ra) (by kernel_rfl)
    · intro m u W hm hcl hJ _
      have d := WR2.out
      unfold Marks.one
      go_simp
      exact ⟨trivial, hJ.idle 8 (by decide) _, rfl⟩
    simp only [Act.put, List.setIfInBounds_toArray, List.set_cons_zero, List.set_cons_succ, Nat.reduceAdd]
    apply Marks.Lex.exact [] (.int .i64 (NE : Int)) (by kernel_rfl)
    · intro m u W hm hcl hJ _
      obtain ⟨hC, _⟩ := hJ.get 9 (by decide) hm
      unfold Marks.one
      go_simp
      exact (HU2.out _).mono fun e w' ⟨he, hg⟩ => ⟨_, he, trivial, hJ.keep 9 (by decide) (by decide) hm _ hg, rfl⟩
    simp only [Act.put, List.setIfInBounds_toArray, List.set_cons_zero, List.set_cons_succ, Nat.reduceAdd]
    apply Marks.Lex.exact [] _ (by kernel_rfl)
    · intro m u W hm hcl hJ _
      unfold Marks.one
      go_simp
      exact ⟨trivial, hJ.idle 10 (by decide) _, rfl⟩
    simp only [Act.put, List.setIfInBounds_toArray, List.set_cons_zero, List.set_cons_succ, Nat.reduceAdd]
    apply Marks.Lex.exact [] undef (by kernel_rfl)
    · intro m u W hm hcl hJ _
      have hC := hJ.a hm
      obtain ⟨W5, hst, hb5, hg5⟩ := blk_store [.int .i64 (NA : Int), .int .i64 (rn : Int), .int .i64 (NE : Int)] (keepB Y1.out hC) rfl (by kernel_rfl) (by simp [Value.oneCell'])
      exact one_store rfl 30 (.tmp 2) (.tmp 18) rfl _ _ rfl rfl W5 hst ⟨trivial, hJ.last _ (by decide) (fun j hj => hcl j (by revert j; decide)) (by rw [HPS.out]; exact ⟨hb5, W, hC, hg5⟩), rfl⟩
    simp only [Act.put, Nat.reduceAdd]
    apply Marks.Lex.exact [] _ (by kernel_rfl)
    · intro m u W hm hcl hJ _
      unfold Marks.one
      go_simp
      exact ⟨trivial, hJ.idle 12 (by decide) _, rfl⟩
    simp only [Act.put, List.setIfInBounds_toArray, List.set_cons_zero, List.set_cons_succ, Nat.reduceAdd]
    refine Marks.Lex.done fun m u W5 hm hJ _ => ?_
    have hps := (hJ.b (hm 11 (by decide))).2
    rw [HPS.out] at hps
    obtain ⟨hb5, Wg, hgg, hg5⟩ := hps
    have G5 : Hid (Grew w W5) := Lib.hid ((show Below w.heap.size w Wg from G1.out.trans hgg).grown hg5 (G1.out.trans hgg).size (fun j e => by cases e; exact Nat.le_succ _))
    have hld : (loadVar 30 ⟨w.heap.size + 1, 0, none⟩).run Tryz.prog W5 = .ok PP W5 := by
      rw [HPP.out]
      exact run_loadVar_mid W5 (w.heap.size + 1) 0 30 [.int .i64 (NA : Int), .int .i64 (rn : Int), .int .i64 (NE : Int)] _ (fun j v hv => by
        rw [cell_of_row _ _ _ _ _ _ hb5]
        simpa using hv) Tryz.underlying30 rfl (by kernel_rfl)
    have HLD := Lib.hid hld
    clear hm hJ hb5 hgg hg5 hld
    go_wp2
    refine bodyPost_ret (results_ct rfl rfl HLD.out) rfl ?_
    exact ⟨rfl, G5.out⟩
theorem sect_sum (r : Re) : ∃ x1 x2, IntKind.i64.wrap (2 * ((planR r).a : Int)) = x1 ∧ IntKind.i64.wrap (((planR r).p : Int) * ((planR r).e : Int)) = x2 ∧ IntKind.i64.wrap (x1 + x2) = sectP r := by
  unfold planR sectP
  cases hm : mayBe r with
  | false =>
    refine ⟨0, 0, ?_, ?_, ?_⟩ <;> (simp only [Bool.false_eq_true, if_false]; exact IntWalk.i64_in _ (by decide))
  | true =>
    have hb := RB.of hm
    have hk := RB.pok hb
    have hall := hk.all
    have his := hk.is
    simp only [if_true]
    refine ⟨_, _, wr _ (by omega) (by omega), hk.mul, ?_⟩
    unfold needP
    rw [his]
    rw [IntWalk.i64_in _ (by omega)]
    omega
set_option maxHeartbeats 8000000 in
theorem law (v : Value) (r : Re) (w : World) (h : ReIs w v r) (hs : Sized r) : Calls Tryz.prog 3 #[v] w fun e w' => e = .returned (.bool true) ∧ Grew w w' := by
  have HAL := Lib.hid alive_any
  have HP1 := Lib.hid (fun W (hg : Grew w W) => plan_any v r W (h.grew hg) hs)
  have HP2 := Lib.hid (fun W (hg : Grew w W) => rplan_any v r W (h.grew hg) hs)
  have HI1 := Lib.hid (fun W (hg : Grew w W) => image_any v r W (h.grew hg) hs)
  have HI2 := Lib.hid (fun W (hg : Grew w W) => rimage_any v r W (h.grew hg) hs)
  have HC1 := Lib.hid (fun W (hg : Grew w W) => record_any v r W (h.grew hg) hs)
  have HC2 := Lib.hid (fun W (hg : Grew w W) => rrecord_any v r W (h.grew hg) hs)
  have HSE := Lib.hid (fun W (hg : Grew w W) => sectors_any v r W (h.grew hg) hs)
  have HEQ := Lib.hid (eqP (planR r))
  obtain ⟨x1, x2, y1, y2, y3⟩ := sect_sum r
  obtain ⟨v0, v1, v2, v3, v4, rfl, _⟩ := h
  clear hs
  have gz : Grew w (w.alloc (Obj.cells #[v0, v1, v2, v3, v4, .int .i64 r.orders, .int .i64 r.audits, .int .i64 r.rate, .int .i64 r.rounds] 28)) := by unfold Grew; go_grown
  have G0 := Lib.hid gz
  have X0 : Hid ((w.alloc (Obj.cells #[v0, v1, v2, v3, v4, .int .i64 r.orders, .int .i64 r.audits, .int .i64 r.rate, .int .i64 r.rounds] 28)).heap[w.heap.size]? = some (rcell v0 v1 v2 v3 v4 r.orders r.audits r.rate r.rounds)) := Lib.hid (heap_alloc_new w _)
  clear gz
  generalize sectP r = se at *
  generalize planE r = pe at *
  generalize planR r = q at *
  generalize imageP r = im at *
  generalize recordP r = rc at *
  obtain ⟨qa, qp, qe⟩ := q
  unfold PV at HP1 HP2 HEQ
  simp only at HP1 HP2 HEQ y1 y2
  go_enter Tryz.func3, Tryz.ntmps3
  go_wp2_with fail
  refine (HP1.out _ G0.out).mono ?_
  rintro e w1 ⟨rfl, hg⟩
  have gz : Grew w1 (w1.alloc (.cells #[.int .i64 (qa : Int), .int .i64 (qp : Int), .int .i64 (qe : Int)] 30)) := by unfold Grew; go_grown
  have G1 := Lib.hid (G0.out.trans (hg.trans gz))
  have X1 := Lib.hid (keepB X0.out (hg.trans gz))
  have P1 := Lib.hid (heap_alloc_new w1 (.cells #[.int .i64 (qa : Int), .int .i64 (qp : Int), .int .i64 (qe : Int)] 30))
  obtain ⟨r0, r1, r2, r3, r4, r5, r6, r7, r8⟩ := re_cells X1.out
  clear hg gz X0 G0 HP1
  go_wp2_with fail
  generalize w1.alloc (.cells #[.int .i64 (qa : Int), .int .i64 (qp : Int), .int .i64 (qe : Int)] 30) = W1 at *
  generalize w1.heap.size = PB at *
  refine (HP2.out _ G1.out).mono ?_
  rintro e w2 ⟨rfl, hg⟩
  have gz : Grew w2 (w2.alloc (.cells #[.int .i64 (qa : Int), .int .i64 (qp : Int), .int .i64 (qe : Int)] 30)) := by unfold Grew; go_grown
  have G4 := Lib.hid (G1.out.trans (hg.trans gz))
  have X4 := Lib.hid (keepB X1.out (hg.trans gz))
  have P4 := Lib.hid (keepB P1.out (hg.trans gz))
  have Q4 := Lib.hid (heap_alloc_new w2 (.cells #[.int .i64 (qa : Int), .int .i64 (qp : Int), .int .i64 (qe : Int)] 30))
  clear hg gz X1 G1 HP2 P1 r0 r1 r2 r3 r4 r5 r6 r7 r8
  obtain ⟨q0, q1, q2⟩ := pcells (q := ⟨qa, qp, qe⟩) Q4.out
  simp only at q0 q1 q2
  go_upto_region 4 with fail
  generalize w2.alloc (.cells #[.int .i64 (qa : Int), .int .i64 (qp : Int), .int .i64 (qe : Int)] 30) = W2 at *
  generalize w2.heap.size = QB at *
  clear q0 q1 q2 y1 y2 y3
  refine Facts.wp_region_text (by kernel_rfl) (by kernel_rfl) ?_
  apply Facts.Lex.exact [] _ (by kernel_rfl)
  · intro u W hC _
    unfold Facts.one
    go_simp
    exact ((HAL.out W).mono fun e w' ⟨he, hg⟩ => ⟨_, he, hg, rfl⟩)
  simp only [Act.put, List.setIfInBounds_toArray, List.set_cons_zero, List.set_cons_succ, Nat.zero_add]
  apply Facts.Lex.exact [] _ (by kernel_rfl)
  · intro u W hC _
    unfold Facts.one
    go_simp
    first | exact ⟨Grew.refl _, rfl⟩ | rfl
  simp only [Act.put, List.setIfInBounds_toArray, List.set_cons_zero, List.set_cons_succ, Nat.reduceAdd]
  apply Facts.Lex.exact [] _ (by kernel_rfl)
  · intro u W hC _
    obtain ⟨r0, r1, r2, r3, r4, r5, r6, r7, r8⟩ := re_cells (keepB X4.out hC)
    unfold Facts.one
    go_simp
    first | exact ⟨Grew.refl _, rfl⟩ | rfl
  simp only [Act.put, List.setIfInBounds_toArray, List.set_cons_zero, List.set_cons_succ, Nat.reduceAdd]
  apply Facts.Lex.exact [] _ (by kernel_rfl)
  · intro u W hC _
    unfold Facts.one
    go_simp
    exact ((HI1.out W (G4.out.trans hC)).mono fun e w' ⟨he, hg⟩ => ⟨_, he, hg, rfl⟩)
  simp only [Act.put, List.setIfInBounds_toArray, List.set_cons_zero, List.set_cons_succ, Nat.reduceAdd]
  apply Facts.Lex.exact [] _ (by kernel_rfl)
  · intro u W hC _
    obtain ⟨r0, r1, r2, r3, r4, r5, r6, r7, r8⟩ := re_cells (keepB X4.out hC)
    unfold Facts.one
    go_simp
    first | exact ⟨Grew.refl _, rfl⟩ | rfl
  simp only [Act.put, List.setIfInBounds_toArray, List.set_cons_zero, List.set_cons_succ, Nat.reduceAdd]
  apply Facts.Lex.exact [] _ (by kernel_rfl)
  · intro u W hC _
    unfold Facts.one
    go_simp
    exact ((HI2.out W (G4.out.trans hC)).mono fun e w' ⟨he, hg⟩ => ⟨_, he, hg, rfl⟩)
  simp only [Act.put, List.setIfInBounds_toArray, List.set_cons_zero, List.set_cons_succ, Nat.reduceAdd]
  apply Facts.Lex.exact [] _ (by kernel_rfl)
  · intro u W hC _
    unfold Facts.one
    go_simp
    first | exact ⟨Grew.refl _, rfl⟩ | rfl
  simp only [Act.put, List.setIfInBounds_toArray, List.set_cons_zero, List.set_cons_succ, Nat.reduceAdd]
  apply Facts.Lex.exact [] _ (by kernel_rfl)
  · intro u W hC _
    unfold Facts.one
    go_simp
    first | exact ⟨Grew.refl _, rfl⟩ | rfl
  simp only [Act.put, List.setIfInBounds_toArray, List.set_cons_zero, List.set_cons_succ, Nat.reduceAdd]
  apply Facts.Lex.exact [] _ (by kernel_rfl)
  · intro u W hC _
    unfold Facts.one
    go_simp
    first | exact ⟨Grew.refl _, rfl⟩ | rfl
  simp only [Act.put, List.setIfInBounds_toArray, List.set_cons_zero, List.set_cons_succ, Nat.reduceAdd]
  apply Facts.Lex.exact [] _ (by kernel_rfl)
  · intro u W hC _
    obtain ⟨r0, r1, r2, r3, r4, r5, r6, r7, r8⟩ := re_cells (keepB X4.out hC)
    unfold Facts.one
    go_simp
    first | exact ⟨Grew.refl _, rfl⟩ | rfl
  simp only [Act.put, List.setIfInBounds_toArray, List.set_cons_zero, List.set_cons_succ, Nat.reduceAdd]
  apply Facts.Lex.exact [] _ (by kernel_rfl)
  · intro u W hC _
    unfold Facts.one
    go_simp
    exact ((HC1.out W (G4.out.trans hC)).mono fun e w' ⟨he, hg⟩ => ⟨_, he, hg, rfl⟩)
  simp only [Act.put, List.setIfInBounds_toArray, List.set_cons_zero, List.set_cons_succ, Nat.reduceAdd]
  apply Facts.Lex.exact [] _ (by kernel_rfl)
  · intro u W hC _
    obtain ⟨r0, r1, r2, r3, r4, r5, r6, r7, r8⟩ := re_cells (keepB X4.out hC)
    unfold Facts.one
    go_simp
    first | exact ⟨Grew.refl _, rfl⟩ | rfl
  simp only [Act.put, List.setIfInBounds_toArray, List.set_cons_zero, List.set_cons_succ, Nat.reduceAdd]
  apply Facts.Lex.exact [] _ (by kernel_rfl)
  · intro u W hC _
    unfold Facts.one
    go_simp
    exact ((HC2.out W (G4.out.trans hC)).mono fun e w' ⟨he, hg⟩ => ⟨_, he, hg, rfl⟩)
  simp only [Act.put, List.setIfInBounds_toArray, List.set_cons_zero, List.set_cons_succ, Nat.reduceAdd]
  apply Facts.Lex.exact [] _ (by kernel_rfl)
  · intro u W hC _
    unfold Facts.one
    go_simp
    first | exact ⟨Grew.refl _, rfl⟩ | rfl
  simp only [Act.put, List.setIfInBounds_toArray, List.set_cons_zero, List.set_cons_succ, Nat.reduceAdd]
  apply Facts.Lex.exact [] _ (by kernel_rfl)
  · intro u W hC _
    unfold Facts.one
    go_simp
    first | exact ⟨Grew.refl _, rfl⟩ | rfl
  simp only [Act.put, List.setIfInBounds_toArray, List.set_cons_zero, List.set_cons_succ, Nat.reduceAdd]
  apply Facts.Lex.exact [] _ (by kernel_rfl)
  · intro u W hC _
    unfold Facts.one
    go_simp
    first | exact ⟨Grew.refl _, rfl⟩ | rfl
  simp only [Act.put, List.setIfInBounds_toArray, List.set_cons_zero, List.set_cons_succ, Nat.reduceAdd]
  apply Facts.Lex.exact [] _ (by kernel_rfl)
  · intro u W hC _
    obtain ⟨q0, q1, q2⟩ := pcells (q := ⟨qa, qp, qe⟩) (keepB P4.out hC)
    simp only at q0 q1 q2
    unfold Facts.one
    go_simp
    first | exact ⟨Grew.refl _, rfl⟩ | rfl
  simp only [Act.put, List.setIfInBounds_toArray, List.set_cons_zero, List.set_cons_succ, Nat.reduceAdd]
  apply Facts.Lex.exact [] _ (by kernel_rfl)
  · intro u W hC _
    obtain ⟨q0, q1, q2⟩ := pcells (q := ⟨qa, qp, qe⟩) (keepB Q4.out hC)
    simp only at q0 q1 q2
    unfold Facts.one
    go_simp
    first | exact ⟨Grew.refl _, rfl⟩ | rfl
  simp only [Act.put, List.setIfInBounds_toArray, List.set_cons_zero, List.set_cons_succ, Nat.reduceAdd]
  apply Facts.Lex.exact [] _ (by kernel_rfl)
  · intro u W hC _
    have d := HEQ.out W
    unfold Facts.one
    go_simp
    first | exact ⟨Grew.refl _, rfl⟩ | rfl
  simp only [Act.put, List.setIfInBounds_toArray, List.set_cons_zero, List.set_cons_succ, Nat.reduceAdd]
  apply Facts.Lex.exact [] _ (by kernel_rfl)
  · intro u W hC _
    unfold Facts.one
    go_simp
    first | exact ⟨Grew.refl _, rfl⟩ | rfl
  simp only [Act.put, List.setIfInBounds_toArray, List.set_cons_zero, List.set_cons_succ, Nat.reduceAdd]
  apply Facts.Lex.exact [] _ (by kernel_rfl)
  · intro u W hC _
    unfold Facts.one
    go_simp
    first | exact ⟨Grew.refl _, rfl⟩ | rfl
  simp only [Act.put, List.setIfInBounds_toArray, List.set_cons_zero, List.set_cons_succ, Nat.reduceAdd]
  apply Facts.Lex.exact [] _ (by kernel_rfl)
  · intro u W hC _
    unfold Facts.one
    go_simp
    first | exact ⟨Grew.refl _, rfl⟩ | rfl
  simp only [Act.put, List.setIfInBounds_toArray, List.set_cons_zero, List.set_cons_succ, Nat.reduceAdd]
  apply Facts.Lex.exact [] _ (by kernel_rfl)
  · intro u W hC _
    unfold Facts.one
    go_simp
    first | exact ⟨Grew.refl _, rfl⟩ | rfl
  simp only [Act.put, List.setIfInBounds_toArray, List.set_cons_zero, List.set_cons_succ, Nat.reduceAdd]
  apply Facts.Lex.exact [] _ (by kernel_rfl)
  · intro u W hC _
    unfold Facts.one
    go_simp
    first | exact ⟨Grew.refl _, rfl⟩ | rfl
  simp only [Act.put, List.setIfInBounds_toArray, List.set_cons_zero, List.set_cons_succ, Nat.reduceAdd]
  apply Facts.Lex.exact [] _ (by kernel_rfl)
  · intro u W hC _
    unfold Facts.one
    go_simp
    first | exact ⟨Grew.refl _, rfl⟩ | rfl
  simp only [Act.put, List.setIfInBounds_toArray, List.set_cons_zero, List.set_cons_succ, Nat.reduceAdd]
  apply Facts.Lex.exact [] _ (by kernel_rfl)
  · intro u W hC _
    unfold Facts.one
    go_simp
    first | exact ⟨Grew.refl _, rfl⟩ | rfl
  simp only [Act.put, List.setIfInBounds_toArray, List.set_cons_zero, List.set_cons_succ, Nat.reduceAdd]
  apply Facts.Lex.exact [] _ (by kernel_rfl)
  · intro u W hC _
    obtain ⟨r0, r1, r2, r3, r4, r5, r6, r7, r8⟩ := re_cells (keepB X4.out hC)
    unfold Facts.one
    go_simp
    first | exact ⟨Grew.refl _, rfl⟩ | rfl
  simp only [Act.put, List.setIfInBounds_toArray, List.set_cons_zero, List.set_cons_succ, Nat.reduceAdd]
  apply Facts.Lex.exact [] _ (by kernel_rfl)
  · intro u W hC _
    unfold Facts.one
    go_simp
    exact ((HSE.out W (G4.out.trans hC)).mono fun e w' ⟨he, hg⟩ => ⟨_, he, hg, rfl⟩)
  simp only [Act.put, List.setIfInBounds_toArray, List.set_cons_zero, List.set_cons_succ, Nat.reduceAdd]
  apply Facts.Lex.exact [] _ (by kernel_rfl)
  · intro u W hC _
    unfold Facts.one
    go_simp
    first | exact ⟨Grew.refl _, rfl⟩ | rfl
  simp only [Act.put, List.setIfInBounds_toArray, List.set_cons_zero, List.set_cons_succ, Nat.reduceAdd]
  apply Facts.Lex.exact [] _ (by kernel_rfl)
  · intro u W hC _
    unfold Facts.one
    go_simp
    first | exact ⟨Grew.refl _, rfl⟩ | rfl
  simp only [Act.put, List.setIfInBounds_toArray, List.set_cons_zero, List.set_cons_succ, Nat.reduceAdd]
  apply Facts.Lex.exact [] _ (by kernel_rfl)
  · intro u W hC _
    unfold Facts.one
    go_simp
    first | exact ⟨Grew.refl _, rfl⟩ | rfl
  simp only [Act.put, List.setIfInBounds_toArray, List.set_cons_zero, List.set_cons_succ, Nat.reduceAdd]
  apply Facts.Lex.exact [] _ (by kernel_rfl)
  · intro u W hC _
    unfold Facts.one
    go_simp
    first | exact ⟨Grew.refl _, rfl⟩ | rfl
  simp only [Act.put, List.setIfInBounds_toArray, List.set_cons_zero, List.set_cons_succ, Nat.reduceAdd]
  refine Facts.Lex.done fun u W7 hC hL => ?_
  have G7 := Lib.hid (G4.out.trans hC)
  clear hC hL
  go_wp2
  go_returns
  exact ⟨rfl, G7.out⟩
end Go.Proofs.YtahlheopdneebaaGreat.BT
