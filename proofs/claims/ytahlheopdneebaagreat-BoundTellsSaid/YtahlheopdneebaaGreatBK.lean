/-
  The plan of a realm, and how many sectors it needs.
  Conditions: those that each lemma names.
-/
import Derived.Test.YtahlheopdneebaaGreatBL
import Derived.Test.YtahlheopdneebaaGreatMarks
import Derived.Lib.Hide
namespace Go.Proofs.YtahlheopdneebaaGreat.BK
set_option maxRecDepth 100000
set_option maxRecDepth 100000
open Go Go.RowKit Go.Lib Go.Proofs.YtahlheopdneebaaGreat Go.Proofs.YtahlheopdneebaaGreat.Facts Go.Proofs.YtahlheopdneebaaGreat.Ints Go.Proofs.YtahlheopdneebaaGreat.RRows Go.Proofs.YtahlheopdneebaaGreat.RSmall Go.Proofs.YtahlheopdneebaaGreat.RRules Go.Proofs.YtahlheopdneebaaGreat.RCaps Go.Proofs.YtahlheopdneebaaGreat.RRule3 Go.Proofs.YtahlheopdneebaaGreat.RRule5 Go.Proofs.YtahlheopdneebaaGreat.RRight Go.Proofs.YtahlheopdneebaaGreat.BV Go.Proofs.YtahlheopdneebaaGreat.BP Go.Proofs.YtahlheopdneebaaGreat.BN Go.Proofs.YtahlheopdneebaaGreat.BM Go.Proofs.YtahlheopdneebaaGreat.BI Go.Proofs.YtahlheopdneebaaGreat.BL


/-- Two numbers that are reckoned, and two boxes that they are stored into, in any order. -/
structure J3 (w0 : World) (im rc : Int) (m : Nat → Bool) (u : Nat → Value) (w : World) : Prop where
  g : Grew w0 w
  a : m 4 = true → ∃ b, u 4 = .pointer (some ⟨b, 0, none⟩) ∧ w0.heap.size ≤ b ∧ w.heap[b]? = some (.cells #[.int .i64 (if m 6 then im else 0)] 3 (0, 0))
  c : m 5 = true → ∃ b, u 5 = .pointer (some ⟨b, 0, none⟩) ∧ w0.heap.size ≤ b ∧ w.heap[b]? = some (.cells #[.int .i64 (if m 7 then rc else 0)] 3 (0, 0))
  d : m 4 = true → m 5 = true → u 4 ≠ u 5
  e : m 6 = true → m 4 = true
  f : m 7 = true → m 5 = true
theorem J3.start (w : World) (im rc : Int) : J3 w im rc (fun _ => false) (fun _ => undef) w.drew :=
  ⟨(Grew.refl w).drew, (fun h => by cases h), (fun h => by cases h), (fun h => by cases h), (fun h => by cases h), (fun h => by cases h)⟩
section
variable {w0 w w' : World} {im rc : Int} {m : Nat → Bool} {u : Nat → Value}
theorem J3.keep (h : J3 w0 im rc m u w) (k : Nat) (v : Value) (hk : k < 4) (hg : Grew w w') : J3 w0 im rc (Marks.upd m k) (Marks.updv u k v) w' := by
  refine ⟨h.g.trans hg, ?_, ?_, ?_, ?_, ?_⟩
  · rw [Marks.upd_other m (by omega), Marks.upd_other m (by omega), Marks.updv_other u v (by omega)]
    intro h4
    obtain ⟨b, e1, e2, e3⟩ := h.a h4
    exact ⟨b, e1, e2, keepB e3 hg⟩
  · rw [Marks.upd_other m (by omega), Marks.upd_other m (by omega), Marks.updv_other u v (by omega)]
    intro h4
    obtain ⟨b, e1, e2, e3⟩ := h.c h4
    exact ⟨b, e1, e2, keepB e3 hg⟩
  · rw [Marks.upd_other m (by omega), Marks.upd_other m (by omega), Marks.updv_other u v (by omega), Marks.updv_other u v (by omega)]
    exact h.d
  · rw [Marks.upd_other m (by omega), Marks.upd_other m (by omega)]
    exact h.e
  · rw [Marks.upd_other m (by omega), Marks.upd_other m (by omega)]
    exact h.f
theorem J3.new4 (h : J3 w0 im rc m u w) (h4 : m 4 = false) : J3 w0 im rc (Marks.upd m 4) (Marks.updv u 4 (.pointer (some ⟨w.heap.size, 0, none⟩))) (w.alloc (.cells #[.int .i64 0] 3)) := by
  have hg : Grew w (w.alloc (.cells #[.int .i64 0] 3)) := by unfold Grew; go_grown
  have h6 : m 6 = false := by
    cases hm : m 6 with
    | false => rfl
    | true => have := h.e hm; rw [h4] at this; cases this
  refine ⟨h.g.trans hg, ?_, ?_, ?_, ?_, ?_⟩
  · intro _
    rw [Marks.upd_other m (by omega), Marks.updv_same, h6]
    exact ⟨_, rfl, h.g.size, heap_alloc_new w _⟩
  · rw [Marks.upd_other m (by omega), Marks.upd_other m (by omega), Marks.updv_other u _ (by omega)]
    intro h5
    obtain ⟨b, e1, e2, e3⟩ := h.c h5
    exact ⟨b, e1, e2, keepB e3 hg⟩
  · rw [Marks.upd_other m (show 5 ≠ 4 by omega), Marks.updv_same, Marks.updv_other u _ (by omega)]
    intro _ h5
    obtain ⟨b, e1, e2, e3⟩ := h.c h5
    have := (Array.getElem?_eq_some_iff.1 e3).1
    rw [e1]
    intro e
    injection e with e
    injection e with e
    injection e with e
    omega
  · rw [Marks.upd_same]
    exact fun _ => rfl
  · rw [Marks.upd_other m (by omega), Marks.upd_other m (by omega)]
    exact h.f
theorem J3.new5 (h : J3 w0 im rc m u w) (h5 : m 5 = false) : J3 w0 im rc (Marks.upd m 5) (Marks.updv u 5 (.pointer (some ⟨w.heap.size, 0, none⟩))) (w.alloc (.cells #[.int .i64 0] 3)) := by
  have hg : Grew w (w.alloc (.cells #[.int .i64 0] 3)) := by unfold Grew; go_grown
  have h7 : m 7 = false := by
    cases hm : m 7 with
    | false => rfl
    | true => have := h.f hm; rw [h5] at this; cases this
  refine ⟨h.g.trans hg, ?_, ?_, ?_, ?_, ?_⟩
  · rw [Marks.upd_other m (by omega), Marks.upd_other m (by omega), Marks.updv_other u _ (by omega)]
    intro h4
    obtain ⟨b, e1, e2, e3⟩ := h.a h4
    exact ⟨b, e1, e2, keepB e3 hg⟩
  · intro _
    rw [Marks.upd_other m (by omega), Marks.updv_same, h7]
    exact ⟨_, rfl, h.g.size, heap_alloc_new w _⟩
  · rw [Marks.upd_other m (show 4 ≠ 5 by omega), Marks.updv_same, Marks.updv_other u _ (by omega)]
    intro h4 _
    obtain ⟨b, e1, e2, e3⟩ := h.a h4
    have := (Array.getElem?_eq_some_iff.1 e3).1
    rw [e1]
    intro e
    injection e with e
    injection e with e
    injection e with e
    omega
  · rw [Marks.upd_other m (by omega), Marks.upd_other m (by omega)]
    exact h.e
  · rw [Marks.upd_same]
    exact fun _ => rfl
theorem J3.put6 (h : J3 w0 im rc m u w) {b : Nat} (hb : u 4 = .pointer (some ⟨b, 0, none⟩)) (h4 : m 4 = true) (v : Value) : J3 w0 im rc (Marks.upd m 6) (Marks.updv u 6 v) (w.setCell ⟨b, 0, none⟩ (.int .i64 im)) := by
  obtain ⟨b', e1, e2, e3⟩ := h.a h4
  rw [hb] at e1
  injection e1 with e1
  injection e1 with e1
  injection e1 with e1
  subst e1
  refine ⟨?_, ?_, ?_, ?_, ?_, ?_⟩
  · exact (show Below w0.heap.size w0 w from h.g).setCell (p := ⟨b, 0, none⟩) e2 _
  · intro _
    rw [Marks.upd_same, Marks.updv_other u _ (by omega)]
    exact ⟨b, hb, e2, bset (k := 0) _ e3⟩
  · rw [Marks.upd_other m (by omega), Marks.upd_other m (by omega), Marks.updv_other u _ (by omega)]
    intro h5
    obtain ⟨c, c1, c2, c3⟩ := h.c h5
    refine ⟨c, c1, c2, (Below.heap_setCell _ _ _ _ (fun e => h.d h4 h5 ?_)).trans c3⟩
    rw [hb, c1]
    have e' : c = b := e
    rw [e']
  · rw [Marks.upd_other m (by omega), Marks.upd_other m (by omega), Marks.updv_other u _ (by omega), Marks.updv_other u _ (by omega)]
    exact h.d
  · rw [Marks.upd_other m (show 4 ≠ 6 by omega)]
    exact fun _ => h4
  · rw [Marks.upd_other m (by omega), Marks.upd_other m (by omega)]
    exact h.f
theorem J3.put7 (h : J3 w0 im rc m u w) {b : Nat} (hb : u 5 = .pointer (some ⟨b, 0, none⟩)) (h5 : m 5 = true) (v : Value) : J3 w0 im rc (Marks.upd m 7) (Marks.updv u 7 v) (w.setCell ⟨b, 0, none⟩ (.int .i64 rc)) := by
  obtain ⟨b', e1, e2, e3⟩ := h.c h5
  rw [hb] at e1
  injection e1 with e1
  injection e1 with e1
  injection e1 with e1
  subst e1
  refine ⟨?_, ?_, ?_, ?_, ?_, ?_⟩
  · exact (show Below w0.heap.size w0 w from h.g).setCell (p := ⟨b, 0, none⟩) e2 _
  · rw [Marks.upd_other m (by omega), Marks.upd_other m (by omega), Marks.updv_other u _ (by omega)]
    intro h4
    obtain ⟨c, c1, c2, c3⟩ := h.a h4
    refine ⟨c, c1, c2, (Below.heap_setCell _ _ _ _ (fun e => h.d h4 h5 ?_)).trans c3⟩
    rw [hb, c1]
    have e' : c = b := e
    rw [e']
  · intro _
    rw [Marks.upd_same, Marks.updv_other u _ (by omega)]
    exact ⟨b, hb, e2, bset (k := 0) _ e3⟩
  · rw [Marks.upd_other m (by omega), Marks.upd_other m (by omega), Marks.updv_other u _ (by omega), Marks.updv_other u _ (by omega)]
    exact h.d
  · rw [Marks.upd_other m (by omega), Marks.upd_other m (by omega)]
    exact h.e
  · rw [Marks.upd_other m (show 5 ≠ 7 by omega)]
    exact fun _ => h5
end
theorem results_ct {P : Program} {fn : Func} {t s : Tmp} {ty : TypeId} {tmps : Array Value} {p : Addr} {v : Value} {w : World} (h : fn.results = #[.cell t ty, .tmp s]) (ht : tmps.getD t undef = .pointer (some p)) (hl : (loadVar ty p).run P w = .ok v w) : (results fn tmps).run P w = .ok (.tuple #[v, tmps.getD s undef]) w := by
  have ht2 : tmps[t]?.getD undef = .pointer (some p) := by rw [← ht]; simp [Array.getD_eq_getD_getElem?]
  simp [results, h, ht2, asAddr, hl]
def PtrV (v : Value) (_ : World) : Prop := ∃ b, v = .pointer (some ⟨b, 0, none⟩)
/-- What Plan answers. -/
def planR (r : Re) : Pl := if mayBe r = true then planP r else ⟨0, 0, 0⟩
def planE (r : Re) : Int := if mayBe r = true then 0 else 1
set_option maxHeartbeats 4000000 in
theorem plan_any (v : Value) (r : Re) (w : World) (h : ReIs w v r) (hs : Sized r) : Calls Tryz.prog 4 #[v] w fun e w' => e = .returned (.tuple #[PV (planR r), .int .i64 (planE r)]) ∧ Grew w w' := by
  have HRT := Lib.hid (fun W (hg : Grew w W) => right_re v r W (h.grew hg) hs)
  have HIM := Lib.hid (fun W (hg : Grew w W) => image_any v r W (h.grew hg) hs)
  have HRC := Lib.hid (fun W (hg : Grew w W) => record_any v r W (h.grew hg) hs)
  have HRB := Lib.hid (RB.of (r := r))
  obtain ⟨v0, v1, v2, v3, v4, rfl, _⟩ := h
  clear hs
  have gz : Grew w ((w.alloc (Obj.cells #[v0, v1, v2, v3, v4, .int .i64 r.orders, .int .i64 r.audits, .int .i64 r.rate, .int .i64 r.rounds] 28)).alloc (.cells #[.int .i64 0, .int .i64 0, .int .i64 0] 30)) := by unfold Grew; go_grown
  have G0 := Lib.hid gz
  have X0 : Hid (((w.alloc (Obj.cells #[v0, v1, v2, v3, v4, .int .i64 r.orders, .int .i64 r.audits, .int .i64 r.rate, .int .i64 r.rounds] 28)).alloc (.cells #[.int .i64 0, .int .i64 0, .int .i64 0] 30)).heap[w.heap.size]? = some (rcell v0 v1 v2 v3 v4 r.orders r.audits r.rate r.rounds)) := Lib.hid (two_new w _ _).1
  have Y0 : Hid (((w.alloc (Obj.cells #[v0, v1, v2, v3, v4, .int .i64 r.orders, .int .i64 r.audits, .int .i64 r.rate, .int .i64 r.rounds] 28)).alloc (.cells #[.int .i64 0, .int .i64 0, .int .i64 0] 30)).heap[w.heap.size + 1]? = some (.cells #[.int .i64 0, .int .i64 0, .int .i64 0] 30 (0, 0))) := Lib.hid (two_new w _ _).2
  clear gz
  unfold planR planE
  cases hm : mayBe r with
  | false =>
    rw [hm] at HRT
    clear HIM HRC HRB hm
    rw [if_neg (by decide), if_neg (by decide)]
    go_enter Tryz.func4, Tryz.ntmps4
    go_wp2_with fail
    refine (HRT.out _ G0.out).mono ?_
    rintro e w1 ⟨rfl, hg⟩
    have G1 := Lib.hid (G0.out.trans hg)
    have Y1 := Lib.hid (keepB Y0.out hg)
    clear hg X0 G0 Y0
    obtain ⟨W5, hst, hb5, hg5⟩ := blk_store [.int .i64 0, .int .i64 0, .int .i64 0] Y1.out rfl (by kernel_rfl) (by simp [Value.oneCell'])
    have HST := Lib.hid hst
    have G5 : Hid (Grew w W5) := Lib.hid ((show Below w.heap.size w w1 from G1.out).grown hg5 G1.out.size (fun j e => by cases e; exact Nat.le_succ _))
    have hld : (loadVar 30 ⟨w.heap.size + 1, 0, none⟩).run Tryz.prog W5 = .ok (PV ⟨0, 0, 0⟩) W5 :=
      run_loadVar_mid W5 (w.heap.size + 1) 0 30 [.int .i64 0, .int .i64 0, .int .i64 0] _ (fun j v hv => by
        rw [cell_of_row _ _ _ _ _ _ hb5]
        simpa using hv) Tryz.underlying30 rfl (by kernel_rfl)
    have HLD := Lib.hid hld
    clear hst hb5 hg5 hld Y1 G1
    go_wp2_with (refine wpList_store (by rfl) 30 (.tmp 2) (.tmp 11) (by with_reducible rfl) _ _ (by rfl) (by rfl) _ HST.out ?_)
    refine bodyPost_ret (results_ct rfl rfl HLD.out) rfl ?_
    exact ⟨rfl, G5.out⟩
  | true =>
    have hb := HRB.out hm
    rw [hm] at HRT
    rw [if_pos rfl, if_pos rfl]
    have HIQ : Hid (imageP r = imgP r) := Lib.hid (by unfold imageP; rw [if_pos hm])
    have HRQ : Hid (recordP r = recP r) := Lib.hid (by unfold recordP; rw [if_pos hm])
    rw [HIQ.out] at HIM
    rw [HRQ.out] at HRC
    have HBB := Lib.hid hb
    obtain ⟨rn, hrn⟩ : ∃ rn : Nat, r.rounds = (rn : Int) := ⟨r.rounds.toNat, by have := hb.rou1; omega⟩
    have HPP : Hid (PV (planP r) = .agg #[.int .i64 (areaP r : Int), .int .i64 (rn : Int), .int .i64 (eachP r : Int)]) := Lib.hid (by unfold planP PV; simp only; rw [hrn]; simp)
    have HP1 : Hid (1 ≤ rn ∧ rn ≤ 16) := Lib.hid (by have := hb.rou1; have := hb.rou16; omega)
    rw [hrn] at X0 HRT HIM HRC G0 Y0 ⊢
    have HA := Lib.hid hb.area
    have HE := Lib.hid hb.each
    clear hb hm HRB HIQ HRQ HBB hrn
    generalize imgP r = im at *
    generalize recP r = rc at *
    generalize areaP r = NA at *
    generalize eachP r = NE at *
    generalize PV (planP r) = PP at *
    go_enter Tryz.func4, Tryz.ntmps4
    go_wp2_with fail
    refine (HRT.out _ G0.out).mono ?_
    rintro e w1 ⟨rfl, hg⟩
    have G1 := Lib.hid (G0.out.trans hg)
    have X1 := Lib.hid (keepB X0.out hg)
    have Y1 := Lib.hid (keepB Y0.out hg)
    clear hg X0 G0 Y0 HRT
    go_upto_region 3 with fail
    refine Marks.wp_region_text (J3 w1 im rc) (fun _ _ => True) (by kernel_rfl) (by kernel_rfl) (J3.start _ _ _) ?_
    apply Marks.Lex.exact [] _ (by kernel_rfl)
    · intro m u W hm hcl hJ _
      obtain ⟨r0, r1, r2, r3, r4, r5, r6, r7, r8⟩ := re_cells (keepB X1.out hJ.g)
      unfold Marks.one
      go_simp
      exact ⟨trivial, hJ.keep 0 _ (by decide) (Grew.refl _), rfl⟩
    simp only [Act.put, List.setIfInBounds_toArray, List.set_cons_zero, List.set_cons_succ, Nat.zero_add]
    apply Marks.Lex.exact [] (.int .i64 im) (by kernel_rfl)
    · intro m u W hm hcl hJ _
      unfold Marks.one
      go_simp
      exact (HIM.out _ (G1.out.trans hJ.g)).mono fun e w' ⟨he, hg⟩ => ⟨_, he, trivial, hJ.keep 1 _ (by decide) hg, rfl⟩
    simp only [Act.put, List.setIfInBounds_toArray, List.set_cons_zero, List.set_cons_succ, Nat.reduceAdd]
    apply Marks.Lex.exact [] _ (by kernel_rfl)
    · intro m u W hm hcl hJ _
      obtain ⟨r0, r1, r2, r3, r4, r5, r6, r7, r8⟩ := re_cells (keepB X1.out hJ.g)
      unfold Marks.one
      go_simp
      exact ⟨trivial, hJ.keep 2 _ (by decide) (Grew.refl _), rfl⟩
    simp only [Act.put, List.setIfInBounds_toArray, List.set_cons_zero, List.set_cons_succ, Nat.reduceAdd]
    apply Marks.Lex.exact [] (.int .i64 rc) (by kernel_rfl)
    · intro m u W hm hcl hJ _
      unfold Marks.one
      go_simp
      exact (HRC.out _ (G1.out.trans hJ.g)).mono fun e w' ⟨he, hg⟩ => ⟨_, he, trivial, hJ.keep 3 _ (by decide) hg, rfl⟩
    simp only [Act.put, List.setIfInBounds_toArray, List.set_cons_zero, List.set_cons_succ, Nat.reduceAdd]
    refine Marks.Lex.know [] PtrV (by kernel_rfl) (fun _ _ _ h _ => h) ?_ ?_
    · intro m u W hm hcl hJ _
      unfold Marks.one
      go_simp
      exact ⟨trivial, hJ.new4 hm, _, rfl⟩
    simp only [Act.put, List.setIfInBounds_toArray, List.set_cons_zero, List.set_cons_succ, Nat.reduceAdd]
    refine Marks.Lex.know [] PtrV (by kernel_rfl) (fun _ _ _ h _ => h) ?_ ?_
    · intro m u W hm hcl hJ _
      unfold Marks.one
      go_simp
      exact ⟨trivial, hJ.new5 hm, _, rfl⟩
    simp only [Act.put, List.setIfInBounds_toArray, List.set_cons_zero, List.set_cons_succ, Nat.reduceAdd]
    apply Marks.Lex.exact [] undef (by kernel_rfl)
    · intro m u W hm hcl hJ _
      have h4 : m 4 = true := hcl 4 (by decide)
      obtain ⟨b, e4, _, hb⟩ := hJ.a h4
      have c4 := one_c hb
      have f4 : W.frozen? ⟨b, 0, none⟩ = false := by simp [World.frozen?, hb]
      unfold Marks.one
      simp only [e4]
      go_simp
      exact ⟨trivial, hJ.put6 e4 h4 _, rfl⟩
    simp only [Act.put, Nat.reduceAdd]
    apply Marks.Lex.exact [] undef (by kernel_rfl)
    · intro m u W hm hcl hJ _
      have h5 : m 5 = true := hcl 5 (by decide)
      obtain ⟨b, e5, _, hb⟩ := hJ.c h5
      have c5 := one_c hb
      have f5 : W.frozen? ⟨b, 0, none⟩ = false := by simp [World.frozen?, hb]
      unfold Marks.one
      simp only [e5]
      go_simp
      exact ⟨trivial, hJ.put7 e5 h5 _, rfl⟩
    simp only [Act.put, Nat.reduceAdd]
    refine Marks.Lex.done fun m u W2 hm hJ _ => ?_
    obtain ⟨b4, e4, _, hb4⟩ := hJ.a (hm 4 (by decide))
    obtain ⟨b5, e5, _, hb5⟩ := hJ.c (hm 5 (by decide))
    rw [hm 6 (by decide)] at hb4
    rw [hm 7 (by decide)] at hb5
    have G2 := Lib.hid (G1.out.trans hJ.g)
    have X2 := Lib.hid (keepB X1.out hJ.g)
    have Y2 := Lib.hid (keepB Y1.out hJ.g)
    have Z4 := Lib.hid hb4
    have Z5 := Lib.hid hb5
    simp only [if_true] at Z4 Z5
    simp only [e4, e5]
    have L1 := Lib.hid (least13 NA rn im w.heap.size b4 W2 ⟨⟨_, _, _, _, _, _, _, _, X2.out⟩, Z4.out⟩ (by have := HA.out.1; omega) (by have := HA.out.2.1; omega) HP1.out.1 HP1.out.2 (by have := HA.out.2.2.1; have := HA.out.1; omega) (fun n h1 h2 => by have := HA.out.2.2.2 n h2; omega))
    clear hJ hm e4 e5 hb4 hb5 G1 X1 Y1 HIM HRC
    go_wp2_with fail
    refine L1.out.mono ?_
    rintro e w3 ⟨rfl, hg⟩
    have G3 := Lib.hid (G2.out.trans hg)
    have X3 := Lib.hid (keepB X2.out hg)
    have Y3 := Lib.hid (keepB Y2.out hg)
    have L2 := Lib.hid (least14 NE rn rc w.heap.size b5 w3 ⟨⟨_, _, _, _, _, _, _, _, X3.out⟩, keepB Z5.out hg⟩ HE.out.1 (by have := HE.out.2.1; omega) HP1.out.1 HP1.out.2 (by have := HE.out.2.2.1; have := HE.out.1; omega) (fun n h1 h2 => by have := HE.out.2.2.2 n h2; omega))
    clear hg G2 X2 Y2 Z4 Z5 L1
    go_wp2_with fail
    refine L2.out.mono ?_
    rintro e w4 ⟨rfl, hg⟩
    have G4 := Lib.hid (G3.out.trans hg)
    have Y4 := Lib.hid (keepB Y3.out hg)
    obtain ⟨r0, r1, r2, r3, r4, r5, r6, r7, r8⟩ := re_cells (keepB X3.out hg)
    obtain ⟨W5, hst, hb5, hg5⟩ := blk_store [.int .i64 (NA : Int), .int .i64 (rn : Int), .int .i64 (NE : Int)] Y4.out rfl (by kernel_rfl) (by simp [Value.oneCell'])
    have HST := Lib.hid hst
    have G5 : Hid (Grew w W5) := Lib.hid ((show Below w.heap.size w w4 from G4.out).grown hg5 G4.out.size (fun j e => by cases e; exact Nat.le_succ _))
    have hld : (loadVar 30 ⟨w.heap.size + 1, 0, none⟩).run Tryz.prog W5 = .ok PP W5 := by
      rw [HPP.out]
      exact run_loadVar_mid W5 (w.heap.size + 1) 0 30 [.int .i64 (NA : Int), .int .i64 (rn : Int), .int .i64 (NE : Int)] _ (fun j v hv => by
        rw [cell_of_row _ _ _ _ _ _ hb5]
        simpa using hv) Tryz.underlying30 rfl (by kernel_rfl)
    have HLD := Lib.hid hld
    clear hst hb5 hg5 hld hg G3 X3 Y3 L2 G4 Y4
    go_wp2_with (refine wpList_store (by rfl) 30 (.tmp 2) (.tmp 24) (by with_reducible rfl) _ _ (by rfl) (by rfl) _ HST.out ?_)
    refine bodyPost_ret (results_ct rfl rfl HLD.out) rfl ?_
    exact ⟨rfl, G5.out⟩
end Go.Proofs.YtahlheopdneebaaGreat.BK
