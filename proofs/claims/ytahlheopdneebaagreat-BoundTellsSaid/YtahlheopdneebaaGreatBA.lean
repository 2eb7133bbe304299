/-
  How many sectors a realm needs; the fixed calls.
  Conditions: those that each lemma names.
-/
import Derived.Test.YtahlheopdneebaaGreatBK
import Derived.Test.YtahlheopdneebaaGreatHS
import Derived.Lib.Hide
namespace Go.Proofs.YtahlheopdneebaaGreat.BA
set_option maxRecDepth 100000
set_option maxRecDepth 100000
open Go Go.RowKit Go.Lib Go.Proofs.YtahlheopdneebaaGreat Go.Proofs.YtahlheopdneebaaGreat.Facts Go.Proofs.YtahlheopdneebaaGreat.Ints Go.Proofs.YtahlheopdneebaaGreat.RRows Go.Proofs.YtahlheopdneebaaGreat.RSmall Go.Proofs.YtahlheopdneebaaGreat.RRules Go.Proofs.YtahlheopdneebaaGreat.RCaps Go.Proofs.YtahlheopdneebaaGreat.RRule3 Go.Proofs.YtahlheopdneebaaGreat.RRule5 Go.Proofs.YtahlheopdneebaaGreat.RRight Go.Proofs.YtahlheopdneebaaGreat.HS Go.Proofs.YtahlheopdneebaaGreat.BV Go.Proofs.YtahlheopdneebaaGreat.BP Go.Proofs.YtahlheopdneebaaGreat.BN Go.Proofs.YtahlheopdneebaaGreat.BM Go.Proofs.YtahlheopdneebaaGreat.BI Go.Proofs.YtahlheopdneebaaGreat.BL Go.Proofs.YtahlheopdneebaaGreat.BK


/-- A plan's number of sectors. -/
def needP (q : Pl) : Int := ((2 * q.a + q.p * q.e : Nat) : Int)
def sectP (r : Re) : Int := if mayBe r = true then needP (planP r) else 0
theorem RB.pok {r : Re} (h : RB r) : POK (planP r) (r.rounds.toNat * eachP r) := by
  have a := h.area
  have e := h.each
  have h1 := h.rou1
  have h2 := h.rou16
  exact BP.pok (by omega) (by omega) (by omega) (by omega) (by omega) (by omega)
theorem pcells {W : World} {B : Nat} {q : Pl} (h : W.heap[B]? = some (.cells #[.int .i64 (q.a : Int), .int .i64 (q.p : Int), .int .i64 (q.e : Int)] 30 (0, 0))) : W.cell? ⟨B, 0, none⟩ = some (.int .i64 (q.a : Int)) ∧ W.cell? ⟨B, 1, none⟩ = some (.int .i64 (q.p : Int)) ∧ W.cell? ⟨B, 2, none⟩ = some (.int .i64 (q.e : Int)) := by
  refine ⟨?_, ?_, ?_⟩ <;> (rw [cell_of_row _ _ _ _ _ _ h]; rfl)
theorem sectors_any (v : Value) (r : Re) (w : World) (h : ReIs w v r) (hs : Sized r) : Calls Tryz.prog 11 #[v] w fun e w' => e = .returned (.int .i64 (sectP r)) ∧ Grew w w' := by
  have HPL := Lib.hid (fun W (hg : Grew w W) => plan_any v r W (h.grew hg) hs)
  have HRB := Lib.hid (RB.of (r := r))
  obtain ⟨v0, v1, v2, v3, v4, rfl, _⟩ := h
  clear hs
  have gz : Grew w (w.alloc (Obj.cells #[v0, v1, v2, v3, v4, .int .i64 r.orders, .int .i64 r.audits, .int .i64 r.rate, .int .i64 r.rounds] 28)) := by unfold Grew; go_grown
  have G0 := Lib.hid gz
  have X0 : Hid ((w.alloc (Obj.cells #[v0, v1, v2, v3, v4, .int .i64 r.orders, .int .i64 r.audits, .int .i64 r.rate, .int .i64 r.rounds] 28)).heap[w.heap.size]? = some (rcell v0 v1 v2 v3 v4 r.orders r.audits r.rate r.rounds)) := Lib.hid (heap_alloc_new w _)
  clear gz
  unfold sectP
  unfold planR planE at HPL
  cases hm : mayBe r with
  | false =>
    rw [hm, if_neg (by decide), if_neg (by decide)] at HPL
    rw [if_neg (by decide)]
    clear HRB hm
    unfold PV at HPL
    simp only at HPL
    go_enter Tryz.func11, Tryz.ntmps11
    go_wp2_with fail
    refine (HPL.out _ G0.out).mono ?_
    rintro e w1 ⟨rfl, hg⟩
    have G1 := Lib.hid (G0.out.trans hg)
    have G2 : Hid (Grew w (w1.alloc (.cells #[.int .i64 0, .int .i64 0, .int .i64 0] 30))) := Lib.hid (G1.out.trans (by unfold Grew; go_grown))
    clear hg
    go_wp2
    go_returns
    exact ⟨rfl, G2.out⟩
  | true =>
    have hb := HRB.out hm
    have HN := Lib.hid (need_any (planP r) _ (RB.pok hb))
    have HE : Hid (needP (planP r) = ((2 * (planP r).a + r.rounds.toNat * eachP r : Nat) : Int)) := Lib.hid rfl
    rw [hm, if_pos rfl, if_pos rfl] at HPL
    rw [if_pos rfl, HE.out]
    clear HRB hm hb HE
    generalize 2 * (planP r).a + r.rounds.toNat * eachP r = nd at *
    generalize planP r = q at *
    obtain ⟨qa, qp, qe⟩ := q
    unfold PV at HPL HN
    simp only at HPL HN
    go_enter Tryz.func11, Tryz.ntmps11
    go_wp2_with fail
    refine (HPL.out _ G0.out).mono ?_
    rintro e w1 ⟨rfl, hg⟩
    have G1 := Lib.hid (G0.out.trans hg)
    have gz : Grew w1 (w1.alloc (.cells #[.int .i64 (qa : Int), .int .i64 (qp : Int), .int .i64 (qe : Int)] 30)) := by unfold Grew; go_grown
    have G2 := Lib.hid (G1.out.trans gz)
    clear hg gz
    go_wp2_with fail
    refine (HN.out _).mono ?_
    rintro e w2 ⟨rfl, hg⟩
    have G3 := Lib.hid (G2.out.trans hg)
    clear hg
    go_wp2
    go_returns
    exact ⟨rfl, G3.out⟩
/-- A plan without a journal's sectors has no room. -/
theorem room_zero (a p : Nat) (ha : 1 ≤ a) (ha2 : a ≤ 200) (w : World) : Calls Tryz.prog 15 #[PV ⟨a, p, 0⟩] w fun e w' => e = .returned (.tuple #[.int .i64 0, .int .i64 0]) ∧ Grew w w' := by
  have h1 : ¬ ((a : Int) < 1) := by omega
  have h2 : ¬ ((16384 : Int) < (a : Int)) := by omega
  have HN : Hid (∀ W, Calls Tryz.prog 21 #[PV ⟨a, p, 0⟩] W fun e w' => e = .returned (.int .i64 0) ∧ Grew W w') := Lib.hid (fun W => by
    unfold PV
    go_enter Tryz.func21, Tryz.ntmps21
    go_wp2
    go_returns
    exact ⟨rfl, by unfold Grew; go_grown⟩)
  clear ha ha2 h1 h2
  unfold PV at *
  have G0 : Hid (Grew w (w.alloc (Obj.cells #[.int .i64 (a : Int), .int .i64 (p : Int), .int .i64 ((0 : Nat) : Int)] 30))) := Lib.hid (by unfold Grew; go_grown)
  go_enter Tryz.func15, Tryz.ntmps15
  go_wp2_with fail
  refine (HN.out _).mono ?_
  rintro e w1 ⟨rfl, hg⟩
  have G1 := Lib.hid (G0.out.trans hg)
  clear hg
  go_wp2
  go_returns
  exact ⟨rfl, G1.out⟩
/-- The realm of the fixed calls. -/
def one : Re := { small with lines := [0] }
def none_ : Re := ⟨[], [], [], [], [], 0, 0, 0, 0⟩
theorem s_apart : Names.apart (Names.lists (one.accounts.map (·.name))) = true := by
  unfold Names.apart Names.sorted
  rw [decide_eq_true_eq]
  exact (ListsPure.apart_iff _).2 (by decide)
theorem s_rule3 : rule3 one = true := by
  unfold rule3
  rw [s_apart]
  kernel_rfl
theorem one_may : mayBe one = true := by
  unfold mayBe
  rw [s_rule3]
  kernel_rfl
theorem none_may : mayBe none_ = false := by decide +kernel
theorem one_img : imgP one = 1322 := by decide +kernel
theorem one_area : areaP one = 13 := by unfold areaP; rw [one_img]; decide
theorem one_each : eachP one = 1 := by decide +kernel
theorem one_sized : Sized one := by
  intro x hx
  simp only [one, small, List.mem_cons, List.not_mem_nil, or_false] at hx
  rcases hx with rfl | rfl <;> decide
theorem none_sized : Sized none_ := fun x hx => by cases hx
theorem one_image : imageP one = 1322 := by unfold imageP; rw [if_pos one_may, one_img]
theorem one_record : recordP one = 69 := by unfold recordP; rw [if_pos one_may]; decide
theorem one_sect : sectP one = 29 := by
  unfold sectP needP planP
  rw [if_pos one_may, one_area, one_each]
  decide
theorem one_plan : PV (planR one) = .agg #[.int .i64 13, .int .i64 3, .int .i64 1] := by
  unfold planR planP PV
  rw [if_pos one_may]
  simp only [one_area, one_each]
  rfl
theorem none_is (w : World) : ReIs w (.agg #[.slice none 0 0, .slice none 0 0, .slice none 0 0, .slice none 0 0, .slice none 0 0, .int .i64 0, .int .i64 0, .int .i64 0, .int .i64 0]) none_ :=
  ⟨_, _, _, _, _, rfl, rw_none w, ⟨_, 0, rfl, Nat.le_refl _, Nat.zero_le _, fun _ => rfl, fun ad ha => by cases ha⟩, rw_none w, rw_none w, rw_none w⟩
set_option maxHeartbeats 4000000 in
theorem alive_any (w : World) : Calls Tryz.prog 6 #[] w fun e w' => e = .returned (.bool true) ∧ Grew w w' := by
  have HPL := Lib.hid (fun W v (h : ReIs W v one) => plan_any v one W h one_sized)
  have HRC := Lib.hid (fun W v (h : ReIs W v one) => record_any v one W h one_sized)
  have HIM := Lib.hid (fun W v (h : ReIs W v one) => image_any v one W h one_sized)
  have HSE := Lib.hid (fun W v (h : ReIs W v one) => sectors_any v one W h one_sized)
  have HI0 := Lib.hid (fun W => image_any _ none_ W (none_is W) none_sized)
  have HS0 := Lib.hid (fun W => sectors_any _ none_ W (none_is W) none_sized)
  rw [one_plan, show planE one = 0 from by unfold planE; rw [if_pos one_may]] at HPL
  rw [one_record] at HRC
  rw [one_image] at HIM
  rw [one_sect] at HSE
  rw [show imageP none_ = 0 from by unfold imageP; rw [if_neg (by rw [none_may]; decide)]] at HI0
  rw [show sectP none_ = 0 from by unfold sectP; rw [if_neg (by rw [none_may]; decide)]] at HS0
  go_enter Tryz.func6, Tryz.ntmps6
  go_wp2_with fail
  refine (small_any _).mono ?_
  rintro e w1 ⟨v', rfl, hr, hg⟩
  obtain ⟨v0, v1, v2, v3, v4, rfl, h0, h1, h2, h3, h4⟩ := hr
  have K0 := Lib.hid h0
  have K2 := Lib.hid h2
  have K3 := Lib.hid h3
  have K4 := Lib.hid h4
  have G1 := Lib.hid hg
  obtain ⟨A0, c0, rfl, _⟩ := h0.slice
  obtain ⟨A1, c1, rfl, _⟩ := Rw.slice h1
  obtain ⟨A2, c2, rfl, _⟩ := h2.slice
  obtain ⟨A3, c3, rfl, _⟩ := h3.slice
  obtain ⟨A4, c4, rfl, _⟩ := h4.slice
  clear h0 h1 h2 h3 h4 hg
  go_upto_region 3 with fail
  have hX : ((w1.alloc (Obj.cells #[.slice A0 small.labels.length c0, .slice (some ⟨w1.heap.size + 1, 0, none⟩) 1 1, .slice A2 small.accounts.length c2, .slice A3 small.guilds.length c3, .slice A4 small.quotas.length c4, .int .i64 small.orders, .int .i64 small.audits, .int .i64 small.rate, .int .i64 small.rounds] 28)).alloc (Obj.cells #[.int .i64 0] 3)).heap[w1.heap.size]? = some (rcell (.slice A0 small.labels.length c0) (.slice (some ⟨w1.heap.size + 1, 0, none⟩) 1 1) (.slice A2 small.accounts.length c2) (.slice A3 small.guilds.length c3) (.slice A4 small.quotas.length c4) small.orders small.audits small.rate small.rounds) := (two_new w1 _ _).1
  have hL : ((w1.alloc (Obj.cells #[.slice A0 small.labels.length c0, .slice (some ⟨w1.heap.size + 1, 0, none⟩) 1 1, .slice A2 small.accounts.length c2, .slice A3 small.guilds.length c3, .slice A4 small.quotas.length c4, .int .i64 small.orders, .int .i64 small.audits, .int .i64 small.rate, .int .i64 small.rounds] 28)).alloc (Obj.cells #[.int .i64 0] 3)).heap[w1.heap.size + 1]? = some (.cells #[.int .i64 0] 3 (0, 0)) := (two_new w1 _ _).2
  have hgw : Grew w1 ((w1.alloc (Obj.cells #[.slice A0 small.labels.length c0, .slice (some ⟨w1.heap.size + 1, 0, none⟩) 1 1, .slice A2 small.accounts.length c2, .slice A3 small.guilds.length c3, .slice A4 small.quotas.length c4, .int .i64 small.orders, .int .i64 small.audits, .int .i64 small.rate, .int .i64 small.rounds] 28)).alloc (Obj.cells #[.int .i64 0] 3)) := by unfold Grew; go_grown
  generalize ((w1.alloc (Obj.cells #[.slice A0 small.labels.length c0, .slice (some ⟨w1.heap.size + 1, 0, none⟩) 1 1, .slice A2 small.accounts.length c2, .slice A3 small.guilds.length c3, .slice A4 small.quotas.length c4, .int .i64 small.orders, .int .i64 small.audits, .int .i64 small.rate, .int .i64 small.rounds] 28)).alloc (Obj.cells #[.int .i64 0] 3)) = W2 at *
  have HR : Hid (ReIs W2 (.agg #[.slice A0 small.labels.length c0, .slice (some ⟨w1.heap.size + 1, 0, none⟩) 1 1, .slice A2 small.accounts.length c2, .slice A3 small.guilds.length c3, .slice A4 small.quotas.length c4, .int .i64 small.orders, .int .i64 small.audits, .int .i64 small.rate, .int .i64 small.rounds]) one) := Lib.hid ⟨_, _, _, _, _, rfl, K0.out.grew hgw, ⟨some ⟨w1.heap.size + 1, 0, none⟩, 1, rfl, Nat.le_refl _, by decide, (fun h => by cases h), fun ad ha j u hu => by
    cases ha
    rw [addr_zero, cell_of_row _ _ _ _ _ _ hL]
    match j with
    | 0 => exact hu
    | j + 1 => simp [one, iv] at hu⟩, K2.out.grew hgw, K3.out.grew hgw, K4.out.grew hgw⟩
  have X2 := Lib.hid hX
  have G2 := Lib.hid (G1.out.trans hgw)
  clear hX hL hgw K0 K2 K3 K4 G1
  obtain ⟨r0, r1, r2, r3, r4, r5, r6, r7, r8⟩ := re_cells X2.out
  go_wp2_with fail
  refine (HPL.out _ _ HR.out).mono ?_
  rintro e w3 ⟨rfl, hg⟩
  have gz : Grew w3 (w3.alloc (.cells #[.int .i64 13, .int .i64 3, .int .i64 1] 30)) := by unfold Grew; go_grown
  have X3 := Lib.hid (keepB X2.out (hg.trans gz))
  have G3 := Lib.hid (G2.out.trans (hg.trans gz))
  have R3 := Lib.hid (HR.out.grew (hg.trans gz))
  have P3 := Lib.hid (heap_alloc_new w3 (.cells #[.int .i64 13, .int .i64 3, .int .i64 1] 30))
  clear hg gz X2 G2 HR r0 r1 r2 r3 r4 r5 r6 r7 r8 HPL
  go_upto_region 4 with fail
  generalize w3.alloc (.cells #[.int .i64 13, .int .i64 3, .int .i64 1] 30) = W3 at *
  generalize w3.heap.size = PB at *
  refine Facts.wp_region_text (by kernel_rfl) (by kernel_rfl) ?_
  apply Facts.Lex.exact [] _ (by kernel_rfl)
  · intro u W hC _
    obtain ⟨r0, r1, r2, r3, r4, r5, r6, r7, r8⟩ := re_cells (keepB X3.out hC)
    unfold Facts.one
    go_simp
    first | exact ⟨Grew.refl _, rfl⟩ | rfl
  simp only [Act.put, List.setIfInBounds_toArray, List.set_cons_zero, List.set_cons_succ, Nat.zero_add]
  apply Facts.Lex.exact [] _ (by kernel_rfl)
  · intro u W hC _
    unfold Facts.one
    go_simp
    exact ((HRC.out W _ (R3.out.grew hC)).mono fun e w' ⟨he, hg⟩ => ⟨_, he, hg, rfl⟩)
  simp only [Act.put, List.setIfInBounds_toArray, List.set_cons_zero, List.set_cons_succ, Nat.reduceAdd]
  apply Facts.Lex.exact [] _ (by kernel_rfl)
  · intro u W hC _
    unfold Facts.one
    go_simp
    first | exact ⟨Grew.refl _, rfl⟩ | rfl
  simp only [Act.put, List.setIfInBounds_toArray, List.set_cons_zero, List.set_cons_succ, Nat.reduceAdd]
  apply Facts.Lex.exact [] _ (by kernel_rfl)
  · intro u W hC _
    unfold Facts.one
    go_simp
    first | exact ⟨Grew.refl _, rfl⟩ | rfl
  simp only [Act.put, List.setIfInBounds_toArray, List.set_cons_zero, List.set_cons_succ, Nat.reduceAdd]
  apply Facts.Lex.exact [] _ (by kernel_rfl)
  · intro u W hC _
    unfold Facts.one
    go_simp
    first | exact ⟨Grew.refl _, rfl⟩ | rfl
  simp only [Act.put, List.setIfInBounds_toArray, List.set_cons_zero, List.set_cons_succ, Nat.reduceAdd]
  apply Facts.Lex.exact [] _ (by kernel_rfl)
  · intro u W hC _
    obtain ⟨q0, q1, q2⟩ := pcells (q := ⟨13, 3, 1⟩) (keepB P3.out hC)
    simp only at q0 q1 q2
    unfold Facts.one
    go_simp
    first | exact ⟨Grew.refl _, rfl⟩ | rfl
  simp only [Act.put, List.setIfInBounds_toArray, List.set_cons_zero, List.set_cons_succ, Nat.reduceAdd]
  apply Facts.Lex.exact [] _ (by kernel_rfl)
  · intro u W hC _
    unfold Facts.one
    go_simp
    first | exact ⟨Grew.refl _, rfl⟩ | rfl
  simp only [Act.put, List.setIfInBounds_toArray, List.set_cons_zero, List.set_cons_succ, Nat.reduceAdd]
  apply Facts.Lex.exact [] _ (by kernel_rfl)
  · intro u W hC _
    unfold Facts.one
    go_simp
    first | exact ⟨Grew.refl _, rfl⟩ | rfl
  simp only [Act.put, List.setIfInBounds_toArray, List.set_cons_zero, List.set_cons_succ, Nat.reduceAdd]
  apply Facts.Lex.exact [] _ (by kernel_rfl)
  · intro u W hC _
    unfold Facts.one
    go_simp
    first | exact ⟨Grew.refl _, rfl⟩ | rfl
  simp only [Act.put, List.setIfInBounds_toArray, List.set_cons_zero, List.set_cons_succ, Nat.reduceAdd]
  apply Facts.Lex.exact [] _ (by kernel_rfl)
  · intro u W hC _
    unfold Facts.one
    go_simp
    first | exact ⟨Grew.refl _, rfl⟩ | rfl
  simp only [Act.put, List.setIfInBounds_toArray, List.set_cons_zero, List.set_cons_succ, Nat.reduceAdd]
  apply Facts.Lex.exact [] _ (by kernel_rfl)
  · intro u W hC _
    obtain ⟨q0, q1, q2⟩ := pcells (q := ⟨13, 3, 1⟩) (keepB P3.out hC)
    simp only at q0 q1 q2
    unfold Facts.one
    go_simp
    first | exact ⟨Grew.refl _, rfl⟩ | rfl
  simp only [Act.put, List.setIfInBounds_toArray, List.set_cons_zero, List.set_cons_succ, Nat.reduceAdd]
  apply Facts.Lex.exact [] _ (by kernel_rfl)
  · intro u W hC _
    unfold Facts.one
    go_simp
    first | exact ⟨Grew.refl _, rfl⟩ | rfl
  simp only [Act.put, List.setIfInBounds_toArray, List.set_cons_zero, List.set_cons_succ, Nat.reduceAdd]
  apply Facts.Lex.exact [] _ (by kernel_rfl)
  · intro u W hC _
    unfold Facts.one
    go_simp
    first | exact ⟨Grew.refl _, rfl⟩ | rfl
  simp only [Act.put, List.setIfInBounds_toArray, List.set_cons_zero, List.set_cons_succ, Nat.reduceAdd]
  apply Facts.Lex.exact [] _ (by kernel_rfl)
  · intro u W hC _
    unfold Facts.one
    go_simp
    first | exact ⟨Grew.refl _, rfl⟩ | rfl
  simp only [Act.put, List.setIfInBounds_toArray, List.set_cons_zero, List.set_cons_succ, Nat.reduceAdd]
  apply Facts.Lex.exact [] _ (by kernel_rfl)
  · intro u W hC _
    unfold Facts.one
    go_simp
    first | exact ⟨Grew.refl _, rfl⟩ | rfl
  simp only [Act.put, List.setIfInBounds_toArray, List.set_cons_zero, List.set_cons_succ, Nat.reduceAdd]
  apply Facts.Lex.exact [] _ (by kernel_rfl)
  · intro u W hC _
    obtain ⟨q0, q1, q2⟩ := pcells (q := ⟨13, 3, 1⟩) (keepB P3.out hC)
    simp only at q0 q1 q2
    unfold Facts.one
    go_simp
    first | exact ⟨Grew.refl _, rfl⟩ | rfl
  simp only [Act.put, List.setIfInBounds_toArray, List.set_cons_zero, List.set_cons_succ, Nat.reduceAdd]
  apply Facts.Lex.exact [] _ (by kernel_rfl)
  · intro u W hC _
    unfold Facts.one
    go_simp
    first | exact ⟨Grew.refl _, rfl⟩ | rfl
  simp only [Act.put, List.setIfInBounds_toArray, List.set_cons_zero, List.set_cons_succ, Nat.reduceAdd]
  apply Facts.Lex.exact [] _ (by kernel_rfl)
  · intro u W hC _
    unfold Facts.one
    go_simp
    first | exact ⟨Grew.refl _, rfl⟩ | rfl
  simp only [Act.put, List.setIfInBounds_toArray, List.set_cons_zero, List.set_cons_succ, Nat.reduceAdd]
  apply Facts.Lex.exact [] _ (by kernel_rfl)
  · intro u W hC _
    unfold Facts.one
    go_simp
    first | exact ⟨Grew.refl _, rfl⟩ | rfl
  simp only [Act.put, List.setIfInBounds_toArray, List.set_cons_zero, List.set_cons_succ, Nat.reduceAdd]
  apply Facts.Lex.exact [] _ (by kernel_rfl)
  · intro u W hC _
    unfold Facts.one
    go_simp
    first | exact ⟨Grew.refl _, rfl⟩ | rfl
  simp only [Act.put, List.setIfInBounds_toArray, List.set_cons_zero, List.set_cons_succ, Nat.reduceAdd]
  apply Facts.Lex.exact [] _ (by kernel_rfl)
  · intro u W hC _
    unfold Facts.one
    go_simp
    first | exact ⟨Grew.refl _, rfl⟩ | rfl
  simp only [Act.put, List.setIfInBounds_toArray, List.set_cons_zero, List.set_cons_succ, Nat.reduceAdd]
  apply Facts.Lex.exact [] _ (by kernel_rfl)
  · intro u W hC _
    unfold Facts.one
    go_simp
    first | exact ⟨Grew.refl _, rfl⟩ | rfl
  simp only [Act.put, List.setIfInBounds_toArray, List.set_cons_zero, List.set_cons_succ, Nat.reduceAdd]
  apply Facts.Lex.exact [] _ (by kernel_rfl)
  · intro u W hC _
    unfold Facts.one
    go_simp
    first | exact ⟨Grew.refl _, rfl⟩ | rfl
  simp only [Act.put, List.setIfInBounds_toArray, List.set_cons_zero, List.set_cons_succ, Nat.reduceAdd]
  apply Facts.Lex.exact [] _ (by kernel_rfl)
  · intro u W hC _
    obtain ⟨r0, r1, r2, r3, r4, r5, r6, r7, r8⟩ := re_cells (keepB X3.out hC)
    unfold Facts.one
    go_simp
    first | exact ⟨Grew.refl _, rfl⟩ | rfl
  simp only [Act.put, List.setIfInBounds_toArray, List.set_cons_zero, List.set_cons_succ, Nat.reduceAdd]
  apply Facts.Lex.exact [] _ (by kernel_rfl)
  · intro u W hC _
    unfold Facts.one
    go_simp
    exact ((HIM.out W _ (R3.out.grew hC)).mono fun e w' ⟨he, hg⟩ => ⟨_, he, hg, rfl⟩)
  simp only [Act.put, List.setIfInBounds_toArray, List.set_cons_zero, List.set_cons_succ, Nat.reduceAdd]
  apply Facts.Lex.exact [] _ (by kernel_rfl)
  · intro u W hC _
    unfold Facts.one
    go_simp
    first | exact ⟨Grew.refl _, rfl⟩ | rfl
  simp only [Act.put, List.setIfInBounds_toArray, List.set_cons_zero, List.set_cons_succ, Nat.reduceAdd]
  apply Facts.Lex.exact [] _ (by kernel_rfl)
  · intro u W hC _
    unfold Facts.one
    go_simp
    first | exact ⟨Grew.refl _, rfl⟩ | rfl
  simp only [Act.put, List.setIfInBounds_toArray, List.set_cons_zero, List.set_cons_succ, Nat.reduceAdd]
  apply Facts.Lex.exact [] _ (by kernel_rfl)
  · intro u W hC _
    unfold Facts.one
    go_simp
    first | exact ⟨Grew.refl _, rfl⟩ | rfl
  simp only [Act.put, List.setIfInBounds_toArray, List.set_cons_zero, List.set_cons_succ, Nat.reduceAdd]
  apply Facts.Lex.exact [] _ (by kernel_rfl)
  · intro u W hC _
    obtain ⟨r0, r1, r2, r3, r4, r5, r6, r7, r8⟩ := re_cells (keepB X3.out hC)
    unfold Facts.one
    go_simp
    first | exact ⟨Grew.refl _, rfl⟩ | rfl
  simp only [Act.put, List.setIfInBounds_toArray, List.set_cons_zero, List.set_cons_succ, Nat.reduceAdd]
  apply Facts.Lex.exact [] _ (by kernel_rfl)
  · intro u W hC _
    unfold Facts.one
    go_simp
    exact ((HSE.out W _ (R3.out.grew hC)).mono fun e w' ⟨he, hg⟩ => ⟨_, he, hg, rfl⟩)
  simp only [Act.put, List.setIfInBounds_toArray, List.set_cons_zero, List.set_cons_succ, Nat.reduceAdd]
  apply Facts.Lex.exact [] _ (by kernel_rfl)
  · intro u W hC _
    unfold Facts.one
    go_simp
    first | exact ⟨Grew.refl _, rfl⟩ | rfl
  simp only [Act.put, List.setIfInBounds_toArray, List.set_cons_zero, List.set_cons_succ, Nat.reduceAdd]
  apply Facts.Lex.exact [] _ (by kernel_rfl)
  · intro u W hC _
    obtain ⟨q0, q1, q2⟩ := pcells (q := ⟨13, 3, 1⟩) (keepB P3.out hC)
    simp only at q0 q1 q2
    unfold Facts.one
    go_simp
    first | exact ⟨Grew.refl _, rfl⟩ | rfl
  simp only [Act.put, List.setIfInBounds_toArray, List.set_cons_zero, List.set_cons_succ, Nat.reduceAdd]
  apply Facts.Lex.exact [] _ (by kernel_rfl)
  · intro u W hC _
    unfold Facts.one
    go_simp
    first | exact ⟨Grew.refl _, rfl⟩ | rfl
  simp only [Act.put, List.setIfInBounds_toArray, List.set_cons_zero, List.set_cons_succ, Nat.reduceAdd]
  apply Facts.Lex.exact [] _ (by kernel_rfl)
  · intro u W hC _
    unfold Facts.one
    go_simp
    first | exact ⟨Grew.refl _, rfl⟩ | rfl
  simp only [Act.put, List.setIfInBounds_toArray, List.set_cons_zero, List.set_cons_succ, Nat.reduceAdd]
  apply Facts.Lex.exact [] _ (by kernel_rfl)
  · intro u W hC _
    unfold Facts.one
    go_simp
    first | exact ⟨Grew.refl _, rfl⟩ | rfl
  simp only [Act.put, List.setIfInBounds_toArray, List.set_cons_zero, List.set_cons_succ, Nat.reduceAdd]
  apply Facts.Lex.exact [] _ (by kernel_rfl)
  · intro u W hC _
    unfold Facts.one
    go_simp
    first | exact ⟨Grew.refl _, rfl⟩ | rfl
  simp only [Act.put, List.setIfInBounds_toArray, List.set_cons_zero, List.set_cons_succ, Nat.reduceAdd]
  apply Facts.Lex.exact [] _ (by kernel_rfl)
  · intro u W hC _
    unfold Facts.one
    go_simp
    first | exact ⟨Grew.refl _, rfl⟩ | rfl
  simp only [Act.put, List.setIfInBounds_toArray, List.set_cons_zero, List.set_cons_succ, Nat.reduceAdd]
  apply Facts.Lex.exact [] _ (by kernel_rfl)
  · intro u W hC _
    unfold Facts.one
    go_simp
    first | exact ⟨Grew.refl _, rfl⟩ | rfl
  simp only [Act.put, List.setIfInBounds_toArray, List.set_cons_zero, List.set_cons_succ, Nat.reduceAdd]
  apply Facts.Lex.exact [] _ (by kernel_rfl)
  · intro u W hC _
    unfold Facts.one
    go_simp
    exact ((HI0.out W).mono fun e w' ⟨he, hg⟩ => ⟨_, he, hg, rfl⟩)
  simp only [Act.put, List.setIfInBounds_toArray, List.set_cons_zero, List.set_cons_succ, Nat.reduceAdd]
  apply Facts.Lex.exact [] _ (by kernel_rfl)
  · intro u W hC _
    unfold Facts.one
    go_simp
    first | exact ⟨Grew.refl _, rfl⟩ | rfl
  simp only [Act.put, List.setIfInBounds_toArray, List.set_cons_zero, List.set_cons_succ, Nat.reduceAdd]
  apply Facts.Lex.exact [] _ (by kernel_rfl)
  · intro u W hC _
    unfold Facts.one
    go_simp
    first | exact ⟨Grew.refl _, rfl⟩ | rfl
  simp only [Act.put, List.setIfInBounds_toArray, List.set_cons_zero, List.set_cons_succ, Nat.reduceAdd]
  apply Facts.Lex.exact [] _ (by kernel_rfl)
  · intro u W hC _
    unfold Facts.one
    go_simp
    first | exact ⟨Grew.refl _, rfl⟩ | rfl
  simp only [Act.put, List.setIfInBounds_toArray, List.set_cons_zero, List.set_cons_succ, Nat.reduceAdd]
  apply Facts.Lex.exact [] _ (by kernel_rfl)
  · intro u W hC _
    unfold Facts.one
    go_simp
    first | exact ⟨Grew.refl _, rfl⟩ | rfl
  simp only [Act.put, List.setIfInBounds_toArray, List.set_cons_zero, List.set_cons_succ, Nat.reduceAdd]
  apply Facts.Lex.exact [] _ (by kernel_rfl)
  · intro u W hC _
    unfold Facts.one
    go_simp
    exact ((HS0.out W).mono fun e w' ⟨he, hg⟩ => ⟨_, he, hg, rfl⟩)
  simp only [Act.put, List.setIfInBounds_toArray, List.set_cons_zero, List.set_cons_succ, Nat.reduceAdd]
  apply Facts.Lex.exact [] _ (by kernel_rfl)
  · intro u W hC _
    unfold Facts.one
    go_simp
    first | exact ⟨Grew.refl _, rfl⟩ | rfl
  simp only [Act.put, List.setIfInBounds_toArray, List.set_cons_zero, List.set_cons_succ, Nat.reduceAdd]
  apply Facts.Lex.exact [] _ (by kernel_rfl)
  · intro u W hC _
    unfold Facts.one
    go_simp
    first | exact ⟨Grew.refl _, rfl⟩ | rfl
  simp only [Act.put, List.setIfInBounds_toArray, List.set_cons_zero, List.set_cons_succ, Nat.reduceAdd]
  apply Facts.Lex.exact [] _ (by kernel_rfl)
  · intro u W hC _
    unfold Facts.one
    go_simp
    first | exact ⟨Grew.refl _, rfl⟩ | rfl
  simp only [Act.put, List.setIfInBounds_toArray, List.set_cons_zero, Nat.reduceAdd]
  refine Facts.Lex.done fun u W4 hC hL => ?_
  have G4 := Lib.hid (G3.out.trans hC)
  clear hC hL
  go_wp2
  go_returns
  exact ⟨rfl, G4.out⟩
end Go.Proofs.YtahlheopdneebaaGreat.BA
