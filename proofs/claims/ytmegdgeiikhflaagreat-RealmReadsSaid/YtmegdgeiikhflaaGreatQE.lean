/-
  RealmReads: any realm's bytes, and the realm of any bytes, are as the document says.
  Conditions: those that each lemma names.
-/
import Derived.Test.YtmegdgeiikhflaaGreatQZ
import Derived.Test.YtmegdgeiikhflaaGreatEN
import Derived.Test.YtmegdgeiikhflaaGreatEQ
import Derived.Test.YtmegdgeiikhflaaGreatHO
namespace Go.Proofs.YtmegdgeiikhflaaGreat.QE
set_option maxRecDepth 100000
open Go Go.RowKit Go.Lib Go.Proofs.YtmegdgeiikhflaaGreat Go.Proofs.YtmegdgeiikhflaaGreat.Facts Go.Proofs.YtmegdgeiikhflaaGreat.Bytes Go.Proofs.YtmegdgeiikhflaaGreat.Plain Go.Proofs.YtmegdgeiikhflaaGreat.Ints Go.Proofs.YtmegdgeiikhflaaGreat.LBox Go.Proofs.YtmegdgeiikhflaaGreat.RRows Go.Proofs.YtmegdgeiikhflaaGreat.Puts Go.Proofs.YtmegdgeiikhflaaGreat.Scan Go.Proofs.YtmegdgeiikhflaaGreat.Take Go.Proofs.YtmegdgeiikhflaaGreat.Nums Go.Proofs.YtmegdgeiikhflaaGreat.Refs Go.Proofs.YtmegdgeiikhflaaGreat.Rscan Go.Proofs.YtmegdgeiikhflaaGreat.Rnums Go.Proofs.YtmegdgeiikhflaaGreat.CA Go.Proofs.YtmegdgeiikhflaaGreat.CB Go.Proofs.YtmegdgeiikhflaaGreat.CC Go.Proofs.YtmegdgeiikhflaaGreat.CD Go.Proofs.YtmegdgeiikhflaaGreat.CE Go.Proofs.YtmegdgeiikhflaaGreat.CF Go.Proofs.YtmegdgeiikhflaaGreat.EO Go.Proofs.YtmegdgeiikhflaaGreat.RRight Go.Proofs.YtmegdgeiikhflaaGreat.RCaps Go.Proofs.YtmegdgeiikhflaaGreat.BD Go.Proofs.YtmegdgeiikhflaaGreat.BE Go.Proofs.YtmegdgeiikhflaaGreat.RRule3 Go.Proofs.YtmegdgeiikhflaaGreat.RNames Go.Proofs.YtmegdgeiikhflaaGreat.QA Go.Proofs.YtmegdgeiikhflaaGreat.QC
theorem conv_r {S : Nat → Prop} {w : World} {v : Value} {l : List UInt8} (h : Rd S w v l) : (convert 41 9 v).run Tryz.prog w = .ok (.string ⟨l.toArray⟩) w :=
  run_toString w Tryz.underlying41 Tryz.underlying5 Tryz.underlying9 h

theorem ED_alive (w : World) : Calls Tryz.prog 13 #[] w fun e w' => e = .returned (.bool true) ∧ Grew w w' := ED.alive_any w
set_option maxHeartbeats 8000000 in
theorem reads (v : Value) (r : Re) (vb : Value) (b : List UInt8) (w : World) (h : ReIs w v r) (hs : Sized r) (hb : Rd (fun _ => True) w vb b) (hbl : b.length ≤ 140737488355328) :
    Calls Tryz.prog 4 #[v, vb] w fun e w' => e = .returned (.bool true) ∧ Grew w w' := by
  have HR := Lib.hid h
  have HSZ := Lib.hid hs
  have HRB := Lib.hid (fun W (hg : Grew w W) => read_any (fun _ => True) vb b W (hb.grew hg) hbl)
  have HRD := Lib.hid (fun W (hg : Grew w W) => QB.rread_any (fun _ => True) vb b W (hb.grew hg) hbl)
  obtain ⟨⟨U, er⟩, hP⟩ : ∃ P, readP b = P := ⟨_, rfl⟩
  rw [QD.reads_same] at HRD
  rw [hP] at HRB HRD
  simp only at HRB HRD
  obtain ⟨AB, cB, rfl, _⟩ := id hb
  clear hs hb hbl hP
  obtain ⟨Rv0, Rv1, Rv2, Rv3, Rv4, rfl, h0, h1, h2, h3, h4⟩ := h
  obtain ⟨R0, kR0, rfl, _⟩ := h0.slice
  obtain ⟨R1, kR1, rfl, _⟩ := id h1
  obtain ⟨R2, kR2, rfl, _⟩ := h2.slice
  obtain ⟨R3, kR3, rfl, _⟩ := h3.slice
  obtain ⟨R4, kR4, rfl, _⟩ := h4.slice
  clear h0 h1 h2 h3 h4
  obtain ⟨W0, hW0⟩ : ∃ W0, w.alloc (.cells #[.slice R0 r.labels.length kR0, .slice R1 r.lines.length kR1, .slice R2 r.accounts.length kR2, .slice R3 r.guilds.length kR3, .slice R4 r.quotas.length kR4, .int .i64 r.orders, .int .i64 r.audits, .int .i64 r.rate, .int .i64 r.rounds] 28) = W0 := ⟨_, rfl⟩
  have G0 : Hid (Grew w W0) := Lib.hid (by rw [← hW0]; exact (Below.refl _ _).alloc (Nat.le_refl _) _)
  have x0 : W0.heap[w.heap.size]? = some (.cells #[.slice R0 r.labels.length kR0, .slice R1 r.lines.length kR1, .slice R2 r.accounts.length kR2, .slice R3 r.guilds.length kR3, .slice R4 r.quotas.length kR4, .int .i64 r.orders, .int .i64 r.audits, .int .i64 r.rate, .int .i64 r.rounds] 28 (0, 0)) := by rw [← hW0]; exact heap_alloc_new w _
  have HW0 := Lib.hid hW0
  obtain ⟨p0, hp0⟩ : ∃ p0, w.heap.size = p0 := ⟨_, rfl⟩
  rw [hp0] at x0
  have HP0 := Lib.hid hp0
  have XX0 := Lib.hid x0
  clear hW0 hp0 x0
  go_enter Tryz.func4, Tryz.ntmps4
  go_wp2_with fail
  rw [HW0.out, HP0.out]
  refine (HRB.out W0 G0.out).mono ?_
  rintro e9 w1 ⟨u9, rfl, hu, hg1, _⟩
  have HU := Lib.hid hu
  obtain ⟨Uv0, Uv1, Uv2, Uv3, Uv4, rfl, hu0, hu1, hu2, hu3, hu4⟩ := hu
  obtain ⟨U0, kU0, rfl, _⟩ := hu0.slice
  obtain ⟨U1, kU1, rfl, _⟩ := id hu1
  obtain ⟨U2, kU2, rfl, _⟩ := hu2.slice
  obtain ⟨U3, kU3, rfl, _⟩ := hu3.slice
  obtain ⟨U4, kU4, rfl, _⟩ := hu4.slice
  clear hu0 hu1 hu2 hu3 hu4
  obtain ⟨W1, hW1⟩ : ∃ W1, w1.alloc (.cells #[.slice U0 U.labels.length kU0, .slice U1 U.lines.length kU1, .slice U2 U.accounts.length kU2, .slice U3 U.guilds.length kU3, .slice U4 U.quotas.length kU4, .int .i64 U.orders, .int .i64 U.audits, .int .i64 U.rate, .int .i64 U.rounds] 28) = W1 := ⟨_, rfl⟩
  have g1 : Grew w1 W1 := by rw [← hW1]; exact (Below.refl _ _).alloc (Nat.le_refl _) _
  have x1 : W1.heap[w1.heap.size]? = some (.cells #[.slice U0 U.labels.length kU0, .slice U1 U.lines.length kU1, .slice U2 U.accounts.length kU2, .slice U3 U.guilds.length kU3, .slice U4 U.quotas.length kU4, .int .i64 U.orders, .int .i64 U.audits, .int .i64 U.rate, .int .i64 U.rounds] 28 (0, 0)) := by rw [← hW1]; exact heap_alloc_new w1 _
  have G1 := Lib.hid ((G0.out.trans hg1).trans g1)
  have X0' := Lib.hid (((hg1.trans g1).block _ (Array.getElem?_eq_some_iff.1 XX0.out).1).trans XX0.out)
  have HW1 := Lib.hid hW1
  obtain ⟨p1, hp1⟩ : ∃ p1, w1.heap.size = p1 := ⟨_, rfl⟩
  rw [hp1] at x1
  have HP1 := Lib.hid hp1
  have XX1 := Lib.hid x1
  have HG1 := Lib.hid g1
  clear hW1 hp1 x1 g1 hg1 XX0
  go_wp2_with fail
  rw [HW1.out, HP1.out]
  refine (HRD.out W1 G1.out).mono ?_
  rintro e9 w2 ⟨v9, rfl, hv, hg2⟩
  have HV0 := Lib.hid hv
  obtain ⟨Vv0, Vv1, Vv2, Vv3, Vv4, rfl, hv0, hv1, hv2, hv3, hv4⟩ := hv
  obtain ⟨V0, kV0, rfl, _⟩ := hv0.slice
  obtain ⟨V1, kV1, rfl, _⟩ := id hv1
  obtain ⟨V2, kV2, rfl, _⟩ := hv2.slice
  obtain ⟨V3, kV3, rfl, _⟩ := hv3.slice
  obtain ⟨V4, kV4, rfl, _⟩ := hv4.slice
  clear hv0 hv1 hv2 hv3 hv4
  obtain ⟨W2, hW2⟩ : ∃ W2, w2.alloc (.cells #[.slice V0 U.labels.length kV0, .slice V1 U.lines.length kV1, .slice V2 U.accounts.length kV2, .slice V3 U.guilds.length kV3, .slice V4 U.quotas.length kV4, .int .i64 U.orders, .int .i64 U.audits, .int .i64 U.rate, .int .i64 U.rounds] 28) = W2 := ⟨_, rfl⟩
  have g2 : Grew w2 W2 := by rw [← hW2]; exact (Below.refl _ _).alloc (Nat.le_refl _) _
  have x2 : W2.heap[w2.heap.size]? = some (.cells #[.slice V0 U.labels.length kV0, .slice V1 U.lines.length kV1, .slice V2 U.accounts.length kV2, .slice V3 U.guilds.length kV3, .slice V4 U.quotas.length kV4, .int .i64 U.orders, .int .i64 U.audits, .int .i64 U.rate, .int .i64 U.rounds] 28 (0, 0)) := by rw [← hW2]; exact heap_alloc_new w2 _
  have GV := Lib.hid ((G1.out.trans hg2).trans g2)
  have GU2 := Lib.hid (HG1.out.trans (hg2.trans g2))
  have X0 := Lib.hid (((hg2.trans g2).block _ (Array.getElem?_eq_some_iff.1 X0'.out).1).trans X0'.out)
  have X1 := Lib.hid (((hg2.trans g2).block _ (Array.getElem?_eq_some_iff.1 XX1.out).1).trans XX1.out)
  have HV := Lib.hid (HV0.out.grew g2)
  have HW2 := Lib.hid hW2
  obtain ⟨p2, hp2⟩ : ∃ p2, w2.heap.size = p2 := ⟨_, rfl⟩
  rw [hp2] at x2
  have HP2 := Lib.hid hp2
  have X2 := Lib.hid x2
  clear hW2 hp2 x2 g2 hg2 XX1 X0' HV0
  go_wp2
  rw [HW2.out, HP2.out]
  ·
    refine Facts.wp_region_text (by kernel_rfl) (by kernel_rfl) ?_
    apply Facts.Lex.exact [] (.bool true) (by kernel_rfl)
    · intro u W hC _
      unfold Facts.one
      go_simp
      exact ((ED_alive W).mono fun e w' ⟨he, hg⟩ => ⟨_, he, hg, rfl⟩)
    simp only [Act.put, List.setIfInBounds_toArray, List.set_cons_zero, List.set_cons_succ, Nat.zero_add]
    apply Facts.Lex.exact [] _ (by kernel_rfl)
    · intro u W hC _
      unfold Facts.one
      go_simp
      first | exact ⟨Grew.refl _, rfl⟩ | rfl
    simp only [Act.put, List.setIfInBounds_toArray, List.set_cons_zero, List.set_cons_succ, Nat.reduceAdd]
    apply Facts.Lex.exact [] (.agg #[.slice R0 r.labels.length kR0, .slice R1 r.lines.length kR1, .slice R2 r.accounts.length kR2, .slice R3 r.guilds.length kR3, .slice R4 r.quotas.length kR4, .int .i64 r.orders, .int .i64 r.audits, .int .i64 r.rate, .int .i64 r.rounds]) (by kernel_rfl)
    · intro u W hC _
      obtain ⟨q0, q1, q2, q3, q4, q5, q6, q7, q8⟩ := nine_c ((hC.block _ (Array.getElem?_eq_some_iff.1 X0.out).1).trans X0.out)
      unfold Facts.one
      go_simp
      first | exact ⟨Grew.refl _, rfl⟩ | rfl
    simp only [Act.put, List.setIfInBounds_toArray, List.set_cons_zero, List.set_cons_succ, Nat.reduceAdd]
    refine Facts.Lex.know [] (fun v w => Rd (fun _ => True) w v (bytesP r)) (by kernel_rfl) (fun _ _ _ h hg => h.grew hg) ?_ ?_
    · intro u W hC hK
      clear hK
      have hN := bytes_any _ r W (HR.out.grew (GV.out.trans hC)) HSZ.out
      unfold Facts.one
      go_simp
      refine hN.mono ?_
      rintro e w' ⟨v', rfl, hr, hg⟩
      exact ⟨_, rfl, hg, hr.rd⟩
    simp only [Act.put, List.setIfInBounds_toArray, List.set_cons_zero, List.set_cons_succ, Nat.reduceAdd]
    apply Facts.Lex.exact [3] (.string ⟨(bytesP r).toArray⟩) (by kernel_rfl)
    · intro u W hC hK
      have hcv := conv_r (show Rd (fun _ => True) W (u 3) (bytesP r) from hK.1)
      clear hK
      unfold Facts.one
      go_simp
      first | exact ⟨Grew.refl _, rfl⟩ | rfl
    simp only [Act.put, List.setIfInBounds_toArray, List.set_cons_zero, List.set_cons_succ, Nat.reduceAdd]
    apply Facts.Lex.exact [] (.agg #[.slice R0 r.labels.length kR0, .slice R1 r.lines.length kR1, .slice R2 r.accounts.length kR2, .slice R3 r.guilds.length kR3, .slice R4 r.quotas.length kR4, .int .i64 r.orders, .int .i64 r.audits, .int .i64 r.rate, .int .i64 r.rounds]) (by kernel_rfl)
    · intro u W hC _
      obtain ⟨q0, q1, q2, q3, q4, q5, q6, q7, q8⟩ := nine_c ((hC.block _ (Array.getElem?_eq_some_iff.1 X0.out).1).trans X0.out)
      unfold Facts.one
      go_simp
      first | exact ⟨Grew.refl _, rfl⟩ | rfl
    simp only [Act.put, List.setIfInBounds_toArray, List.set_cons_zero, List.set_cons_succ, Nat.reduceAdd]
    refine Facts.Lex.know [] (fun v w => Rd (fun _ => True) w v (bytesP r)) (by kernel_rfl) (fun _ _ _ h hg => h.grew hg) ?_ ?_
    · intro u W hC hK
      clear hK
      have hN := EN.rbytes_any _ r W (HR.out.grew (GV.out.trans hC)) HSZ.out
      unfold Facts.one
      go_simp
      refine hN.mono ?_
      rintro e w' ⟨v', base, rfl, hbs, hr, hg⟩
      exact ⟨_, rfl, hg, hr.rd⟩
    simp only [Act.put, List.setIfInBounds_toArray, List.set_cons_zero, List.set_cons_succ, Nat.reduceAdd]
    apply Facts.Lex.exact [6] (.string ⟨(bytesP r).toArray⟩) (by kernel_rfl)
    · intro u W hC hK
      have hcv := conv_r (show Rd (fun _ => True) W (u 6) (bytesP r) from hK.1)
      clear hK
      unfold Facts.one
      go_simp
      first | exact ⟨Grew.refl _, rfl⟩ | rfl
    simp only [Act.put, List.setIfInBounds_toArray, List.set_cons_zero, List.set_cons_succ, Nat.reduceAdd]
    apply Facts.Lex.exact [] _ (by kernel_rfl)
    · intro u W hC _
      unfold Facts.one
      go_simp
      first | exact ⟨Grew.refl _, rfl⟩ | rfl
    simp only [Act.put, List.setIfInBounds_toArray, List.set_cons_zero, List.set_cons_succ, Nat.reduceAdd]
    apply Facts.Lex.exact [] _ (by kernel_rfl)
    · intro u W hC _
      unfold Facts.one
      go_simp
      first | exact ⟨Grew.refl _, rfl⟩ | rfl
    simp only [Act.put, List.setIfInBounds_toArray, List.set_cons_zero, List.set_cons_succ, Nat.reduceAdd]
    apply Facts.Lex.exact [] _ (by kernel_rfl)
    · intro u W hC _
      unfold Facts.one
      go_simp
      first | exact ⟨Grew.refl _, rfl⟩ | rfl
    simp only [Act.put, List.setIfInBounds_toArray, List.set_cons_zero, List.set_cons_succ, Nat.reduceAdd]
    apply Facts.Lex.exact [] _ (by kernel_rfl)
    · intro u W hC _
      unfold Facts.one
      go_simp
      first | exact ⟨Grew.refl _, rfl⟩ | rfl
    simp only [Act.put, List.setIfInBounds_toArray, List.set_cons_zero, List.set_cons_succ, Nat.reduceAdd]
    apply Facts.Lex.exact [] _ (by kernel_rfl)
    · intro u W hC _
      unfold Facts.one
      go_simp
      first | exact ⟨Grew.refl _, rfl⟩ | rfl
    simp only [Act.put, List.setIfInBounds_toArray, List.set_cons_zero, List.set_cons_succ, Nat.reduceAdd]
    apply Facts.Lex.exact [] (.bool true) (by kernel_rfl)
    · intro u W hC _
      have her : (er == er) = true := by simp
      unfold Facts.one
      go_simp
      first | exact ⟨Grew.refl _, rfl⟩ | rfl
    simp only [Act.put, List.setIfInBounds_toArray, List.set_cons_zero, List.set_cons_succ, Nat.reduceAdd]
    apply Facts.Lex.exact [] _ (by kernel_rfl)
    · intro u W hC _
      unfold Facts.one
      go_simp
      first | exact ⟨Grew.refl _, rfl⟩ | rfl
    simp only [Act.put, List.setIfInBounds_toArray, List.set_cons_zero, List.set_cons_succ, Nat.reduceAdd]
    apply Facts.Lex.exact [] _ (by kernel_rfl)
    · intro u W hC _
      unfold Facts.one
      go_simp
      first | exact ⟨Grew.refl _, rfl⟩ | rfl
    simp only [Act.put, List.setIfInBounds_toArray, List.set_cons_zero, List.set_cons_succ, Nat.reduceAdd]
    apply Facts.Lex.exact [] (.agg #[.slice U0 U.labels.length kU0, .slice U1 U.lines.length kU1, .slice U2 U.accounts.length kU2, .slice U3 U.guilds.length kU3, .slice U4 U.quotas.length kU4, .int .i64 U.orders, .int .i64 U.audits, .int .i64 U.rate, .int .i64 U.rounds]) (by kernel_rfl)
    · intro u W hC _
      obtain ⟨q0, q1, q2, q3, q4, q5, q6, q7, q8⟩ := nine_c ((hC.block _ (Array.getElem?_eq_some_iff.1 X1.out).1).trans X1.out)
      unfold Facts.one
      go_simp
      first | exact ⟨Grew.refl _, rfl⟩ | rfl
    simp only [Act.put, List.setIfInBounds_toArray, List.set_cons_zero, List.set_cons_succ, Nat.reduceAdd]
    apply Facts.Lex.exact [] (.agg #[.slice V0 U.labels.length kV0, .slice V1 U.lines.length kV1, .slice V2 U.accounts.length kV2, .slice V3 U.guilds.length kV3, .slice V4 U.quotas.length kV4, .int .i64 U.orders, .int .i64 U.audits, .int .i64 U.rate, .int .i64 U.rounds]) (by kernel_rfl)
    · intro u W hC _
      obtain ⟨q0, q1, q2, q3, q4, q5, q6, q7, q8⟩ := nine_c ((hC.block _ (Array.getElem?_eq_some_iff.1 X2.out).1).trans X2.out)
      unfold Facts.one
      go_simp
      first | exact ⟨Grew.refl _, rfl⟩ | rfl
    simp only [Act.put, List.setIfInBounds_toArray, List.set_cons_zero, List.set_cons_succ, Nat.reduceAdd]
    apply Facts.Lex.exact [] (.bool true) (by kernel_rfl)
    · intro u W hC _
      have hS := EB.same_self _ _ U W (HU.out.grew (GU2.out.trans hC)) (HV.out.grew hC)
      unfold Facts.one
      go_simp
      exact (hS.mono fun e w' ⟨he, hg⟩ => ⟨_, he, hg, rfl⟩)
    simp only [Act.put, List.setIfInBounds_toArray, List.set_cons_zero, List.set_cons_succ, Nat.reduceAdd]
    apply Facts.Lex.exact [] _ (by kernel_rfl)
    · intro u W hC _
      unfold Facts.one
      go_simp
      first | exact ⟨Grew.refl _, rfl⟩ | rfl
    simp only [Act.put, List.setIfInBounds_toArray, List.set_cons_zero, List.set_cons_succ, Nat.reduceAdd]
    apply Facts.Lex.exact [] _ (by kernel_rfl)
    · intro u W hC _
      unfold Facts.one
      go_simp
      first | exact ⟨Grew.refl _, rfl⟩ | rfl
    simp only [Act.put, List.setIfInBounds_toArray, List.set_cons_zero, List.set_cons_succ, Nat.reduceAdd]
    refine Facts.Lex.done fun u W2 hC hL => ?_
    have GF := Lib.hid (GV.out.trans hC)
    clear hC hL
    go_wp2
    go_returns
    exact ⟨rfl, GF.out⟩

section
open Go.ChangeShapes Go.WideShapes Go.ChangeAt Go.Deep Go.Joins Go.Proofs.YtmegdgeiikhflaaGreat.HO
variable {H : Type} {enc : TypeId × Value → H} {w : World} {v : Value} {d : DataW H} {p : List MemPlace}
theorem row_size {t e m : Nat} {fuel : Nat} {y : DataW H × List MemPlace} (ht : Tryz.prog.underlying t = some (.slice e)) (hb : Tryz.prog.bytesOf e = m) {A : Option Addr} {n c : Nat} (h : TR enc w fuel t [.slice A n c] y) (hw : ∀ k ∈ y.1.weights Tryz.prog t, k ≤ reachBytes) : n * m ≤ reachBytes := by
  rcases Go.Deep.open_slice ht h with ⟨hcs, hx⟩ | ⟨a, len, cap, m1, n1, D, Pl, hcs, _, hlc, hm, hmm, hx, hi⟩
  · simp only [List.cons.injEq, and_true, Value.slice.injEq] at hcs
    rw [hcs.2.1]
    simp
  · simp only [List.cons.injEq, and_true, Value.slice.injEq] at hcs
    subst hx
    have := hw (_ * Tryz.prog.bytesOf e) (by rw [DataW.weights, ht]; exact List.mem_cons_self)
    rw [hb, List.length_map, List.length_range] at this
    rw [hcs.2.1]
    exact Nat.le_trans (Nat.mul_le_mul_right m (Nat.le_add_right _ _)) this
theorem bytes_sized {ts : List TypeId} {ds : List (DataW H)} {l : List UInt8} {j : Nat} {S : Nat → Prop} (hs : (DataW.weightsEach Tryz.prog ts ds).all (· ≤ reachBytes) = true) (ht : ts[j]? = some 41) (hd : ds[j]? = some d) (h : DataW.Trod enc Tryz.prog w 0 (fun _ => true) true 41 v d p) (hR : Rd S w v l) : l.length ≤ 140737488355328 := by
  obtain ⟨fuel, hf⟩ := h
  obtain ⟨A, c, rfl, _⟩ := id hR
  have := row_size (y := (d, p)) (e := 5) (m := 1) Tryz.underlying41 (by kernel_rfl) hf (fun n hn => by simpa using List.all_eq_true.1 hs n (DataW.weights_mem_each ht hd n hn))
  have hb : reachBytes ≤ 140737488355328 := by decide
  omega
end
end Go.Proofs.YtmegdgeiikhflaaGreat.QE
