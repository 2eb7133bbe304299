/-
  The plan fits, and no smaller one would do.
  Conditions: those that each lemma names.
-/
import Derived.Test.YtahlheopdneebaaBA
import Derived.Lib.Hide
namespace Go.Proofs.Ytahlheopdneebaa.BF
set_option maxRecDepth 100000
open Go Go.RowKit Go.Lib Go.Proofs.Ytahlheopdneebaa Go.Proofs.Ytahlheopdneebaa.Facts Go.Proofs.Ytahlheopdneebaa.Ints Go.Proofs.Ytahlheopdneebaa.RRows Go.Proofs.Ytahlheopdneebaa.RSmall Go.Proofs.Ytahlheopdneebaa.RRules Go.Proofs.Ytahlheopdneebaa.RCaps Go.Proofs.Ytahlheopdneebaa.RRule3 Go.Proofs.Ytahlheopdneebaa.RRule5 Go.Proofs.Ytahlheopdneebaa.RRight Go.Proofs.Ytahlheopdneebaa.HS Go.Proofs.Ytahlheopdneebaa.BV Go.Proofs.Ytahlheopdneebaa.BP Go.Proofs.Ytahlheopdneebaa.BN Go.Proofs.Ytahlheopdneebaa.BM Go.Proofs.Ytahlheopdneebaa.BI Go.Proofs.Ytahlheopdneebaa.BL Go.Proofs.Ytahlheopdneebaa.BK Go.Proofs.Ytahlheopdneebaa.BA


/-- The boxes of the realm, and of the plan. -/
structure SF (w : World) (PB : Nat) (v0 v1 v2 v3 v4 : Value) (o a rt rn : Int) (q : Pl) (W : World) : Prop where
  p : W.heap[PB]? = some (.cells #[.int .i64 (q.a : Int), .int .i64 (q.p : Int), .int .i64 (q.e : Int)] 30 (0, 0))
  r : W.heap[w.heap.size]? = some (rcell v0 v1 v2 v3 v4 o a rt rn)
  g : Grew w W
  n : w.heap.size < PB
section
variable {w : World} {PB : Nat} {v0 v1 v2 v3 v4 : Value} {o a rt rn : Int} {q : Pl} {W W' : World}
theorem SF.grew (h : SF w PB v0 v1 v2 v3 v4 o a rt rn q W) (hg : Grew W W') : SF w PB v0 v1 v2 v3 v4 o a rt rn q W' := ⟨keepB h.p hg, keepB h.r hg, h.g.trans hg, h.n⟩
theorem SF.frz (h : SF w PB v0 v1 v2 v3 v4 o a rt rn q W) (k : Nat) : W.frozen? ⟨PB, k, none⟩ = false := by simp [World.frozen?, h.p]
theorem SF.seta (h : SF w PB v0 v1 v2 v3 v4 o a rt rn q W) (n : Nat) : SF w PB v0 v1 v2 v3 v4 o a rt rn ⟨n, q.p, q.e⟩ (W.setCell ⟨PB, 0, none⟩ (.int .i64 (n : Int))) :=
  ⟨bset (k := 0) _ h.p, (Below.heap_setCell _ _ _ _ (by have := h.n; show w.heap.size ≠ PB; omega)).trans h.r, (show Below w.heap.size w W from h.g).setCell (p := ⟨PB, 0, none⟩) (Nat.le_of_lt h.n) _, h.n⟩
theorem SF.sete (h : SF w PB v0 v1 v2 v3 v4 o a rt rn q W) (n : Nat) : SF w PB v0 v1 v2 v3 v4 o a rt rn ⟨q.a, q.p, n⟩ (W.setCell ⟨PB, 2, none⟩ (.int .i64 (n : Int))) :=
  ⟨bset (k := 2) _ h.p, (Below.heap_setCell _ _ _ _ (by have := h.n; show w.heap.size ≠ PB; omega)).trans h.r, (show Below w.heap.size w W from h.g).setCell (p := ⟨PB, 2, none⟩) (Nat.le_of_lt h.n) _, h.n⟩
end
set_option maxHeartbeats 8000000 in
theorem law (v : Value) (r : Re) (w : World) (h : ReIs w v r) (hs : Sized r) : Calls Try.prog 3 #[v] w fun e w' => e = .returned (.bool true) ∧ Grew w w' := by
  have HAL := Lib.hid alive_any
  have HPL := Lib.hid (fun W (hg : Grew w W) => plan_any v r W (h.grew hg) hs)
  have HRT := Lib.hid (fun W (hg : Grew w W) => right_re v r W (h.grew hg) hs)
  have HIM := Lib.hid (fun W (hg : Grew w W) => image_any v r W (h.grew hg) hs)
  have HRC := Lib.hid (fun W (hg : Grew w W) => record_any v r W (h.grew hg) hs)
  have HSE := Lib.hid (fun W (hg : Grew w W) => sectors_any v r W (h.grew hg) hs)
  have HRB := Lib.hid (RB.of (r := r))
  obtain ⟨v0, v1, v2, v3, v4, rfl, _⟩ := h
  clear hs
  have gz : Grew w (w.alloc (Obj.cells #[v0, v1, v2, v3, v4, .int .i64 r.orders, .int .i64 r.audits, .int .i64 r.rate, .int .i64 r.rounds] 28)) := by unfold Grew; go_grown
  have G0 := Lib.hid gz
  have X0 : Hid ((w.alloc (Obj.cells #[v0, v1, v2, v3, v4, .int .i64 r.orders, .int .i64 r.audits, .int .i64 r.rate, .int .i64 r.rounds] 28)).heap[w.heap.size]? = some (rcell v0 v1 v2 v3 v4 r.orders r.audits r.rate r.rounds)) := Lib.hid (heap_alloc_new w _)
  clear gz
  unfold planR planE at HPL
  cases hm : mayBe r with
  | false =>
    rw [hm, if_neg (by decide), if_neg (by decide)] at HPL
    rw [hm] at HRT
    clear HRB hm HIM HRC HSE
    unfold PV at HPL
    simp only at HPL
    go_enter Try.func3, Try.ntmps3
    go_wp2_with fail
    refine (HPL.out _ G0.out).mono ?_
    rintro e w1 ⟨rfl, hg⟩
    have gz : Grew w1 (w1.alloc (.cells #[.int .i64 0, .int .i64 0, .int .i64 0] 30)) := by unfold Grew; go_grown
    have G1 := Lib.hid (G0.out.trans (hg.trans gz))
    have X1 := Lib.hid (keepB X0.out (hg.trans gz))
    clear hg gz X0 G0
    go_wp2_with fail
    refine (HAL.out _).mono ?_
    rintro e w2 ⟨rfl, hg⟩
    have G2 := Lib.hid (G1.out.trans hg)
    obtain ⟨r0, r1, r2, r3, r4, r5, r6, r7, r8⟩ := re_cells (keepB X1.out hg)
    clear hg
    go_wp2_with fail
    refine (HRT.out _ G2.out).mono ?_
    rintro e w3 ⟨rfl, hg⟩
    have G3 := Lib.hid (G2.out.trans hg)
    clear hg r0 r1 r2 r3 r4 r5 r6 r7 r8
    go_wp2
    go_returns
    exact ⟨rfl, G3.out⟩
  | true =>
    have hb := HRB.out hm
    have ha := hb.area
    have hrc0 : (0 : Int) < recP r := by have := hb.record.1; omega
    have he := hb.each
    have hnd : Hid (∀ W, Calls Try.prog 8 #[PV (planP r)] W fun e w' => e = .returned (.int .i64 (needP (planP r))) ∧ Grew W w') := Lib.hid (fun W => (need_any (planP r) _ (RB.pok hb) W).mono fun e w' ⟨h1, h2⟩ => ⟨h1, h2⟩)
    have hall := (RB.pok hb).all
    obtain ⟨rn, hrn⟩ : ∃ rn : Nat, r.rounds.toNat = rn := ⟨_, rfl⟩
    have hr16 : 1 ≤ rn ∧ rn ≤ 16 := by have := hb.rou1; have := hb.rou16; omega
    have hnp : needP (planP r) = ((2 * areaP r + rn * eachP r : Nat) : Int) := by rw [← hrn]; rfl
    have hpl : planP r = ⟨areaP r, rn, eachP r⟩ := by unfold planP; rw [hrn]
    rw [hrn] at hall
    rw [hm, if_pos rfl, if_pos rfl] at HPL
    rw [show imageP r = imgP r from by unfold imageP; rw [if_pos hm]] at HIM
    rw [show recordP r = recP r from by unfold recordP; rw [if_pos hm]] at HRC
    rw [show sectP r = needP (planP r) from by unfold sectP; rw [if_pos hm], hnp] at HSE
    rw [hnp] at hnd
    rw [hpl] at hnd HPL hall
    simp only at hall
    generalize imgP r = im at *
    generalize recP r = rc at *
    generalize areaP r = NA at *
    generalize eachP r = NE at *
    have HR1 := Lib.hid (room_any ⟨NA, rn, NE⟩ _ (pok (by omega) (by omega) hr16.1 hr16.2 he.1 (by omega)))
    have HR2 := Lib.hid (room_any ⟨NA - 1, rn, NE⟩ _ (pok (by omega) (by omega) hr16.1 hr16.2 he.1 (by omega)))
    have HR3 : Hid (∃ x : Int, ∀ W, Calls Try.prog 7 #[PV ⟨NA, rn, NE - 1⟩] W fun e w' => e = .returned (.tuple #[.int .i64 x, .int .i64 ((108 * (NE - 1) - 4 : Nat) : Int)]) ∧ Grew W w') := Lib.hid (by
      by_cases h1 : NE = 1
      · subst h1
        exact ⟨0, fun W => room_zero NA rn (by omega) (by omega) W⟩
      · exact ⟨_, fun W => room_any ⟨NA, rn, NE - 1⟩ _ (pok (by omega) (by omega) hr16.1 hr16.2 (by omega) (by omega)) W⟩)
    obtain ⟨x3, hx3⟩ := HR3.out
    have HR4 := Lib.hid hx3
    obtain ⟨a1, ha1⟩ : ∃ a1, NA - 1 = a1 := ⟨_, rfl⟩
    obtain ⟨e1, he1⟩ : ∃ e1, NE - 1 = e1 := ⟨_, rfl⟩
    rw [ha1] at HR2
    rw [he1] at HR4
    have w1' : IntKind.i64.wrap ((NA : Int) - 1) = (a1 : Int) := by rw [IntWalk.i64_in _ (by omega)]; omega
    have w2' : IntKind.i64.wrap ((a1 : Int) + 1) = (NA : Int) := by rw [IntWalk.i64_in _ (by omega)]; omega
    have w3' : IntKind.i64.wrap ((NE : Int) - 1) = (e1 : Int) := by rw [IntWalk.i64_in _ (by omega)]; omega
    have w4' : IntKind.i64.wrap ((e1 : Int) + 1) = (NE : Int) := by rw [IntWalk.i64_in _ (by omega)]; omega
    have c1 : im ≤ ((108 * NA - 12 : Nat) : Int) := by have := ha.2.2.1; omega
    have c2 : rc ≤ ((108 * NE - 4 : Nat) : Int) := by have := he.2.2.1; omega
    have c3 : ((108 * a1 - 12 : Nat) : Int) < im := by have := ha.2.2.2 a1 (by omega); have := ha.1; omega
    have c4 : ((108 * e1 - 4 : Nat) : Int) < rc := by
      have h1 := he.2.2.2 e1 (by omega)
      by_cases h0 : e1 = 0
      · subst h0
        have h3 := he.2.2.2 0 (by omega)
        have h4 : (0 : Int) < rc := hrc0
        simpa using h4
      · omega
    have n1 : (0 : Int) < ((2 * NA + rn * NE : Nat) : Int) := by omega
    have n2 : ((2 * NA + rn * NE : Nat) : Int) ≤ 16384 := by omega
    generalize ((2 * NA + rn * NE : Nat) : Int) = nd at *
    generalize ((108 * NA - 12 : Nat) : Int) = y1 at *
    generalize ((108 * NE - 4 : Nat) : Int) = y2 at *
    generalize ((108 * a1 - 12 : Nat) : Int) = y3 at *
    generalize ((108 * e1 - 4 : Nat) : Int) = y4 at *
    unfold PV at HPL hnd HR1 HR2 HR4
    simp only at HPL hnd HR1 HR2 HR4
    have C1 := Lib.hid c1
    have C2 := Lib.hid c2
    have C3 := Lib.hid c3
    have C4 := Lib.hid c4
    have N1 := Lib.hid n1
    have N2 := Lib.hid n2
    have V1 := Lib.hid w1'
    have V2 := Lib.hid w2'
    have V3 := Lib.hid w3'
    have V4 := Lib.hid w4'
    clear hrc0 HRB hm hb ha he hall hrn hr16 hnp hpl hx3 HR3 ha1 he1 w1' w2' w3' w4' c1 c2 c3 c4 n1 n2
    go_enter Try.func3, Try.ntmps3
    go_wp2_with fail
    refine (HPL.out _ G0.out).mono ?_
    rintro e w1 ⟨rfl, hg⟩
    have gz : Grew w1 (w1.alloc (.cells #[.int .i64 (NA : Int), .int .i64 (rn : Int), .int .i64 (NE : Int)] 30)) := by unfold Grew; go_grown
    have S1 : Hid (SF w w1.heap.size v0 v1 v2 v3 v4 r.orders r.audits r.rate r.rounds ⟨NA, rn, NE⟩ (w1.alloc (.cells #[.int .i64 (NA : Int), .int .i64 (rn : Int), .int .i64 (NE : Int)] 30))) := Lib.hid ⟨heap_alloc_new w1 _, keepB X0.out (hg.trans gz), G0.out.trans (hg.trans gz), (Array.getElem?_eq_some_iff.1 (keepB X0.out hg)).1⟩
    clear hg gz X0 G0 HPL
    go_wp2_with fail
    generalize w1.alloc (.cells #[.int .i64 (NA : Int), .int .i64 (rn : Int), .int .i64 (NE : Int)] 30) = W1 at *
    generalize w1.heap.size = PB at *
    refine (HR1.out _).mono ?_
    rintro e z1 ⟨rfl, hg⟩
    have T1 := Lib.hid (S1.out.grew hg)
    clear hg S1
    have S2 := Lib.hid (T1.out.seta a1)
    obtain ⟨q0, q1, q2⟩ := pcells T1.out.p
    obtain ⟨p0, p1, p2⟩ := pcells S2.out.p
    have f0 := T1.out.frz 0
    have u1 := V1.out
    simp only at q0 q1 q2 p0 p1 p2
    go_wp2_with fail
    generalize z1.setCell ⟨PB, 0, none⟩ (.int .i64 (a1 : Int)) = W2 at *
    clear q0 q1 q2 f0 u1 T1 p0 p1 p2
    refine (HR2.out _).mono ?_
    rintro e z2 ⟨rfl, hg⟩
    have T2 := Lib.hid (S2.out.grew hg)
    clear hg S2
    have S3 := Lib.hid (T2.out.seta NA)
    have S4 := Lib.hid (S3.out.sete e1)
    obtain ⟨q0, q1, q2⟩ := pcells T2.out.p
    obtain ⟨p0, p1, p2⟩ := pcells S3.out.p
    obtain ⟨o0, o1, o2⟩ := pcells S4.out.p
    have f0 := T2.out.frz 0
    have f2 := T2.out.frz 2
    have u2 := V2.out
    have u3 := V3.out
    simp only at q0 q1 q2 p0 p1 p2 o0 o1 o2
    go_wp2_with fail
    generalize (z2.setCell ⟨PB, 0, none⟩ (.int .i64 (NA : Int))).setCell ⟨PB, 2, none⟩ (.int .i64 (e1 : Int)) = W4 at *
    clear q0 q1 q2 f0 f2 u2 u3 T2 S3 p0 p1 p2 o0 o1 o2
    refine (HR4.out _).mono ?_
    rintro e z4 ⟨rfl, hg⟩
    have T4 := Lib.hid (S4.out.grew hg)
    clear hg S4
    have S6 := Lib.hid (T4.out.sete NE)
    obtain ⟨q0, q1, q2⟩ := pcells T4.out.p
    have f2 := T4.out.frz 2
    have u4 := V4.out
    simp only at q0 q1 q2
    go_upto_region 11 with fail
    generalize z4.setCell ⟨PB, 2, none⟩ (.int .i64 (NE : Int)) = W6 at *
    clear q0 q1 q2 f2 u4 T4
    refine Facts.wp_region_text (by kernel_rfl) (by kernel_rfl) ?_
    apply Facts.Lex.exact [] _ (by kernel_rfl)
    · intro u W hC _
      unfold Facts.one
      go_simp
      exact ((HAL.out W).mono fun e w' ⟨he, hg⟩ => ⟨_, he, hg, rfl⟩)
    simp only [Act.put, List.setIfInBounds_toArray, List.set_cons_zero, List.set_cons_succ, Nat.zero_add]
    apply Facts.Lex.exact [] _ (by kernel_rfl)
    · intro u W hC _
      unfold Facts.one
      go_simp
      first | exact ⟨Grew.refl _, rfl⟩ | rfl
    simp only [Act.put, List.setIfInBounds_toArray, List.set_cons_zero, List.set_cons_succ, Nat.reduceAdd]
    apply Facts.Lex.exact [] _ (by kernel_rfl)
    · intro u W hC _
      obtain ⟨q0, q1, q2⟩ := pcells (q := ⟨NA, rn, NE⟩) (S6.out.grew hC).p
      simp only at q0 q1 q2
      unfold Facts.one
      go_simp
      first | exact ⟨Grew.refl _, rfl⟩ | rfl
    simp only [Act.put, List.setIfInBounds_toArray, List.set_cons_zero, List.set_cons_succ, Nat.reduceAdd]
    apply Facts.Lex.exact [] _ (by kernel_rfl)
    · intro u W hC _
      unfold Facts.one
      go_simp
      exact ((hnd.out W).mono fun e w' ⟨he, hg⟩ => ⟨_, he, hg, rfl⟩)
    simp only [Act.put, List.setIfInBounds_toArray, List.set_cons_zero, List.set_cons_succ, Nat.reduceAdd]
    apply Facts.Lex.exact [] _ (by kernel_rfl)
    · intro u W hC _
      have d := N1.out
      unfold Facts.one
      go_simp
      first | exact ⟨Grew.refl _, rfl⟩ | rfl
    simp only [Act.put, List.setIfInBounds_toArray, List.set_cons_zero, List.set_cons_succ, Nat.reduceAdd]
    apply Facts.Lex.exact [] _ (by kernel_rfl)
    · intro u W hC _
      unfold Facts.one
      go_simp
      first | exact ⟨Grew.refl _, rfl⟩ | rfl
    simp only [Act.put, List.setIfInBounds_toArray, List.set_cons_zero, List.set_cons_succ, Nat.reduceAdd]
    apply Facts.Lex.exact [] _ (by kernel_rfl)
    · intro u W hC _
      unfold Facts.one
      go_simp
      first | exact ⟨Grew.refl _, rfl⟩ | rfl
    simp only [Act.put, List.setIfInBounds_toArray, List.set_cons_zero, List.set_cons_succ, Nat.reduceAdd]
    apply Facts.Lex.exact [] _ (by kernel_rfl)
    · intro u W hC _
      obtain ⟨q0, q1, q2⟩ := pcells (q := ⟨NA, rn, NE⟩) (S6.out.grew hC).p
      simp only at q0 q1 q2
      unfold Facts.one
      go_simp
      first | exact ⟨Grew.refl _, rfl⟩ | rfl
    simp only [Act.put, List.setIfInBounds_toArray, List.set_cons_zero, List.set_cons_succ, Nat.reduceAdd]
    apply Facts.Lex.exact [] _ (by kernel_rfl)
    · intro u W hC _
      unfold Facts.one
      go_simp
      exact ((hnd.out W).mono fun e w' ⟨he, hg⟩ => ⟨_, he, hg, rfl⟩)
    simp only [Act.put, List.setIfInBounds_toArray, List.set_cons_zero, List.set_cons_succ, Nat.reduceAdd]
    apply Facts.Lex.exact [] _ (by kernel_rfl)
    · intro u W hC _
      have d := N2.out
      unfold Facts.one
      go_simp
      first | exact ⟨Grew.refl _, rfl⟩ | rfl
    simp only [Act.put, List.setIfInBounds_toArray, List.set_cons_zero, List.set_cons_succ, Nat.reduceAdd]
    apply Facts.Lex.exact [] _ (by kernel_rfl)
    · intro u W hC _
      unfold Facts.one
      go_simp
      first | exact ⟨Grew.refl _, rfl⟩ | rfl
    simp only [Act.put, List.setIfInBounds_toArray, List.set_cons_zero, List.set_cons_succ, Nat.reduceAdd]
    apply Facts.Lex.exact [] _ (by kernel_rfl)
    · intro u W hC _
      unfold Facts.one
      go_simp
      first | exact ⟨Grew.refl _, rfl⟩ | rfl
    simp only [Act.put, List.setIfInBounds_toArray, List.set_cons_zero, List.set_cons_succ, Nat.reduceAdd]
    apply Facts.Lex.exact [] _ (by kernel_rfl)
    · intro u W hC _
      obtain ⟨q0, q1, q2⟩ := pcells (q := ⟨NA, rn, NE⟩) (S6.out.grew hC).p
      simp only at q0 q1 q2
      unfold Facts.one
      go_simp
      first | exact ⟨Grew.refl _, rfl⟩ | rfl
    simp only [Act.put, List.setIfInBounds_toArray, List.set_cons_zero, List.set_cons_succ, Nat.reduceAdd]
    apply Facts.Lex.exact [] _ (by kernel_rfl)
    · intro u W hC _
      unfold Facts.one
      go_simp
      exact ((hnd.out W).mono fun e w' ⟨he, hg⟩ => ⟨_, he, hg, rfl⟩)
    simp only [Act.put, List.setIfInBounds_toArray, List.set_cons_zero, List.set_cons_succ, Nat.reduceAdd]
    apply Facts.Lex.exact [] _ (by kernel_rfl)
    · intro u W hC _
      obtain ⟨r0, r1, r2, r3, r4, r5, r6, r7, r8⟩ := re_cells (S6.out.grew hC).r
      unfold Facts.one
      go_simp
      first | exact ⟨Grew.refl _, rfl⟩ | rfl
    simp only [Act.put, List.setIfInBounds_toArray, List.set_cons_zero, List.set_cons_succ, Nat.reduceAdd]
    apply Facts.Lex.exact [] _ (by kernel_rfl)
    · intro u W hC _
      unfold Facts.one
      go_simp
      exact ((HSE.out W (S6.out.g.trans hC)).mono fun e w' ⟨he, hg⟩ => ⟨_, he, hg, rfl⟩)
    simp only [Act.put, List.setIfInBounds_toArray, List.set_cons_zero, List.set_cons_succ, Nat.reduceAdd]
    apply Facts.Lex.exact [] _ (by kernel_rfl)
    · intro u W hC _
      unfold Facts.one
      go_simp
      first | exact ⟨Grew.refl _, rfl⟩ | rfl
    simp only [Act.put, List.setIfInBounds_toArray, List.set_cons_zero, List.set_cons_succ, Nat.reduceAdd]
    apply Facts.Lex.exact [] _ (by kernel_rfl)
    · intro u W hC _
      unfold Facts.one
      go_simp
      first | exact ⟨Grew.refl _, rfl⟩ | rfl
    simp only [Act.put, List.setIfInBounds_toArray, List.set_cons_zero, List.set_cons_succ, Nat.reduceAdd]
    apply Facts.Lex.exact [] _ (by kernel_rfl)
    · intro u W hC _
      unfold Facts.one
      go_simp
      first | exact ⟨Grew.refl _, rfl⟩ | rfl
    simp only [Act.put, List.setIfInBounds_toArray, List.set_cons_zero, List.set_cons_succ, Nat.reduceAdd]
    apply Facts.Lex.exact [] _ (by kernel_rfl)
    · intro u W hC _
      unfold Facts.one
      go_simp
      first | exact ⟨Grew.refl _, rfl⟩ | rfl
    simp only [Act.put, List.setIfInBounds_toArray, List.set_cons_zero, List.set_cons_succ, Nat.reduceAdd]
    apply Facts.Lex.exact [] _ (by kernel_rfl)
    · intro u W hC _
      obtain ⟨r0, r1, r2, r3, r4, r5, r6, r7, r8⟩ := re_cells (S6.out.grew hC).r
      unfold Facts.one
      go_simp
      first | exact ⟨Grew.refl _, rfl⟩ | rfl
    simp only [Act.put, List.setIfInBounds_toArray, List.set_cons_zero, List.set_cons_succ, Nat.reduceAdd]
    apply Facts.Lex.exact [] _ (by kernel_rfl)
    · intro u W hC _
      unfold Facts.one
      go_simp
      exact ((HIM.out W (S6.out.g.trans hC)).mono fun e w' ⟨he, hg⟩ => ⟨_, he, hg, rfl⟩)
    simp only [Act.put, List.setIfInBounds_toArray, List.set_cons_zero, List.set_cons_succ, Nat.reduceAdd]
    apply Facts.Lex.exact [] _ (by kernel_rfl)
    · intro u W hC _
      have d := C1.out
      unfold Facts.one
      go_simp
      first | exact ⟨Grew.refl _, rfl⟩ | rfl
    simp only [Act.put, List.setIfInBounds_toArray, List.set_cons_zero, List.set_cons_succ, Nat.reduceAdd]
    apply Facts.Lex.exact [] _ (by kernel_rfl)
    · intro u W hC _
      unfold Facts.one
      go_simp
      first | exact ⟨Grew.refl _, rfl⟩ | rfl
    simp only [Act.put, List.setIfInBounds_toArray, List.set_cons_zero, List.set_cons_succ, Nat.reduceAdd]
    apply Facts.Lex.exact [] _ (by kernel_rfl)
    · intro u W hC _
      unfold Facts.one
      go_simp
      first | exact ⟨Grew.refl _, rfl⟩ | rfl
    simp only [Act.put, List.setIfInBounds_toArray, List.set_cons_zero, List.set_cons_succ, Nat.reduceAdd]
    apply Facts.Lex.exact [] _ (by kernel_rfl)
    · intro u W hC _
      unfold Facts.one
      go_simp
      first | exact ⟨Grew.refl _, rfl⟩ | rfl
    simp only [Act.put, List.setIfInBounds_toArray, List.set_cons_zero, List.set_cons_succ, Nat.reduceAdd]
    apply Facts.Lex.exact [] _ (by kernel_rfl)
    · intro u W hC _
      obtain ⟨r0, r1, r2, r3, r4, r5, r6, r7, r8⟩ := re_cells (S6.out.grew hC).r
      unfold Facts.one
      go_simp
      first | exact ⟨Grew.refl _, rfl⟩ | rfl
    simp only [Act.put, List.setIfInBounds_toArray, List.set_cons_zero, List.set_cons_succ, Nat.reduceAdd]
    apply Facts.Lex.exact [] _ (by kernel_rfl)
    · intro u W hC _
      unfold Facts.one
      go_simp
      exact ((HRC.out W (S6.out.g.trans hC)).mono fun e w' ⟨he, hg⟩ => ⟨_, he, hg, rfl⟩)
    simp only [Act.put, List.setIfInBounds_toArray, List.set_cons_zero, List.set_cons_succ, Nat.reduceAdd]
    apply Facts.Lex.exact [] _ (by kernel_rfl)
    · intro u W hC _
      have d := C2.out
      unfold Facts.one
      go_simp
      first | exact ⟨Grew.refl _, rfl⟩ | rfl
    simp only [Act.put, List.setIfInBounds_toArray, List.set_cons_zero, List.set_cons_succ, Nat.reduceAdd]
    apply Facts.Lex.exact [] _ (by kernel_rfl)
    · intro u W hC _
      unfold Facts.one
      go_simp
      first | exact ⟨Grew.refl _, rfl⟩ | rfl
    simp only [Act.put, List.setIfInBounds_toArray, List.set_cons_zero, List.set_cons_succ, Nat.reduceAdd]
    apply Facts.Lex.exact [] _ (by kernel_rfl)
    · intro u W hC _
      unfold Facts.one
      go_simp
      first | exact ⟨Grew.refl _, rfl⟩ | rfl
    simp only [Act.put, List.setIfInBounds_toArray, List.set_cons_zero, List.set_cons_succ, Nat.reduceAdd]
    apply Facts.Lex.exact [] _ (by kernel_rfl)
    · intro u W hC _
      unfold Facts.one
      go_simp
      first | exact ⟨Grew.refl _, rfl⟩ | rfl
    simp only [Act.put, List.setIfInBounds_toArray, List.set_cons_zero, List.set_cons_succ, Nat.reduceAdd]
    apply Facts.Lex.exact [] _ (by kernel_rfl)
    · intro u W hC _
      obtain ⟨r0, r1, r2, r3, r4, r5, r6, r7, r8⟩ := re_cells (S6.out.grew hC).r
      unfold Facts.one
      go_simp
      first | exact ⟨Grew.refl _, rfl⟩ | rfl
    simp only [Act.put, List.setIfInBounds_toArray, List.set_cons_zero, List.set_cons_succ, Nat.reduceAdd]
    apply Facts.Lex.exact [] _ (by kernel_rfl)
    · intro u W hC _
      unfold Facts.one
      go_simp
      exact ((HIM.out W (S6.out.g.trans hC)).mono fun e w' ⟨he, hg⟩ => ⟨_, he, hg, rfl⟩)
    simp only [Act.put, List.setIfInBounds_toArray, List.set_cons_zero, List.set_cons_succ, Nat.reduceAdd]
    apply Facts.Lex.exact [] _ (by kernel_rfl)
    · intro u W hC _
      have d := C3.out
      unfold Facts.one
      go_simp
      first | exact ⟨Grew.refl _, rfl⟩ | rfl
    simp only [Act.put, List.setIfInBounds_toArray, List.set_cons_zero, List.set_cons_succ, Nat.reduceAdd]
    apply Facts.Lex.exact [] _ (by kernel_rfl)
    · intro u W hC _
      unfold Facts.one
      go_simp
      first | exact ⟨Grew.refl _, rfl⟩ | rfl
    simp only [Act.put, List.setIfInBounds_toArray, List.set_cons_zero, List.set_cons_succ, Nat.reduceAdd]
    apply Facts.Lex.exact [] _ (by kernel_rfl)
    · intro u W hC _
      unfold Facts.one
      go_simp
      first | exact ⟨Grew.refl _, rfl⟩ | rfl
    simp only [Act.put, List.setIfInBounds_toArray, List.set_cons_zero, List.set_cons_succ, Nat.reduceAdd]
    apply Facts.Lex.exact [] _ (by kernel_rfl)
    · intro u W hC _
      unfold Facts.one
      go_simp
      first | exact ⟨Grew.refl _, rfl⟩ | rfl
    simp only [Act.put, List.setIfInBounds_toArray, List.set_cons_zero, List.set_cons_succ, Nat.reduceAdd]
    apply Facts.Lex.exact [] _ (by kernel_rfl)
    · intro u W hC _
      obtain ⟨r0, r1, r2, r3, r4, r5, r6, r7, r8⟩ := re_cells (S6.out.grew hC).r
      unfold Facts.one
      go_simp
      first | exact ⟨Grew.refl _, rfl⟩ | rfl
    simp only [Act.put, List.setIfInBounds_toArray, List.set_cons_zero, List.set_cons_succ, Nat.reduceAdd]
    apply Facts.Lex.exact [] _ (by kernel_rfl)
    · intro u W hC _
      unfold Facts.one
      go_simp
      exact ((HRC.out W (S6.out.g.trans hC)).mono fun e w' ⟨he, hg⟩ => ⟨_, he, hg, rfl⟩)
    simp only [Act.put, List.setIfInBounds_toArray, List.set_cons_zero, List.set_cons_succ, Nat.reduceAdd]
    apply Facts.Lex.exact [] _ (by kernel_rfl)
    · intro u W hC _
      have d := C4.out
      unfold Facts.one
      go_simp
      first | exact ⟨Grew.refl _, rfl⟩ | rfl
    simp only [Act.put, List.setIfInBounds_toArray, List.set_cons_zero, List.set_cons_succ, Nat.reduceAdd]
    apply Facts.Lex.exact [] _ (by kernel_rfl)
    · intro u W hC _
      unfold Facts.one
      go_simp
      first | exact ⟨Grew.refl _, rfl⟩ | rfl
    simp only [Act.put, List.setIfInBounds_toArray, List.set_cons_zero, List.set_cons_succ, Nat.reduceAdd]
    apply Facts.Lex.exact [] _ (by kernel_rfl)
    · intro u W hC _
      unfold Facts.one
      go_simp
      first | exact ⟨Grew.refl _, rfl⟩ | rfl
    simp only [Act.put, List.setIfInBounds_toArray, List.set_cons_zero, List.set_cons_succ, Nat.reduceAdd]
    refine Facts.Lex.done fun u W7 hC hL => ?_
    have G7 := Lib.hid (S6.out.g.trans hC)
    clear hC hL
    go_wp2
    go_returns
    exact ⟨rfl, G7.out⟩
end Go.Proofs.Ytahlheopdneebaa.BF
