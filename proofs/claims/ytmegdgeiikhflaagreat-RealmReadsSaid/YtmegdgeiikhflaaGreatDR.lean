/-
  Which realms may be, as the document tells it.
  Conditions: the accounts' texts' sizes.
-/
import Derived.Test.YtmegdgeiikhflaaGreatDG
import Derived.Test.YtmegdgeiikhflaaGreatDQ
import Derived.Test.YtmegdgeiikhflaaGreatDA
import Derived.Test.YtmegdgeiikhflaaGreatRRight
namespace Go.Proofs.YtmegdgeiikhflaaGreat.DR
set_option maxRecDepth 100000
open Go Go.RowKit Go.Lib Go.Proofs.YtmegdgeiikhflaaGreat Go.Proofs.YtmegdgeiikhflaaGreat.Facts Go.Proofs.YtmegdgeiikhflaaGreat.Plain Go.Proofs.YtmegdgeiikhflaaGreat.Ints Go.Proofs.YtmegdgeiikhflaaGreat.RRows Go.Proofs.YtmegdgeiikhflaaGreat.LBox Go.Proofs.YtmegdgeiikhflaaGreat.RSmall Go.Proofs.YtmegdgeiikhflaaGreat.RFind Go.Proofs.YtmegdgeiikhflaaGreat.RAll Go.Proofs.YtmegdgeiikhflaaGreat.RRule1 Go.Proofs.YtmegdgeiikhflaaGreat.RRules Go.Proofs.YtmegdgeiikhflaaGreat.RRule5 Go.Proofs.YtmegdgeiikhflaaGreat.RCaps Go.Proofs.YtmegdgeiikhflaaGreat.LRefs Go.Proofs.YtmegdgeiikhflaaGreat.RRule3 Go.Proofs.YtmegdgeiikhflaaGreat.RRight

theorem m4 {k g n : Nat} (h : k + (g + 1) = n) : k + 1 + g = n := by omega
theorem may_no {r : Re} (h : rule1 r = false ∨ rule2 r = false ∨ rule3 r = false ∨ rule4 r = false ∨ rule5 r = false ∨ rule6 r = false ∨ rule7 r = false) : mayBe r = false := by
  unfold mayBe
  rcases h with h | h | h | h | h | h | h <;> simp [h]
theorem may_yes {r : Re} (h1 : rule1 r = true) (h2 : rule2 r = true) (h3 : rule3 r = true) (h4 : rule4 r = true) (h5 : rule5 r = true) (h6 : rule6 r = true) (h7 : rule7 r = true) : mayBe r = true := by
  unfold mayBe
  simp [h1, h2, h3, h4, h5, h6, h7]
def lin (r : Re) (k : Nat) : Int := (r.lines[k]?).getD 0
theorem rule2_len {r : Re} (h : ¬ (1 ≤ r.lines.length ∧ r.lines.length ≤ 8)) : rule2 r = false := by
  unfold rule2 wit
  by_cases h1 : 1 ≤ r.lines.length
  · rw [decide_eq_false (show ¬ ((r.lines.length : Nat) : Int) ≤ 8 by omega)]; simp
  · rw [decide_eq_false (show ¬ (1 : Int) ≤ ((r.lines.length : Nat) : Int) by omega)]; simp
theorem rule2_one {r : Re} {k : Nat} (hk : k < r.lines.length) (h : inn r.labels.length (lin r k) = false) : rule2 r = false := by
  unfold rule2
  have : r.lines.all (inn r.labels.length) = false := by
    rw [List.all_eq_false]
    refine ⟨lin r k, ?_, by simp [h]⟩
    unfold lin
    rw [List.getElem?_eq_getElem hk]
    exact List.getElem_mem hk
  rw [this]
  simp
theorem rule2_yes {r : Re} (h1 : 1 ≤ r.lines.length) (h2 : r.lines.length ≤ 8) (h3 : ∀ k, k < r.lines.length → inn r.labels.length (lin r k) = true) : rule2 r = true := by
  unfold rule2 wit
  rw [decide_eq_true (by omega), decide_eq_true (by omega)]
  simp only [Bool.true_and]
  rw [List.all_eq_true]
  intro x hx
  obtain ⟨k, hk⟩ := List.getElem?_of_mem hx
  have hkl := (List.getElem?_eq_some_iff.1 hk).1
  have := h3 k hkl
  unfold lin at this
  rw [hk] at this
  exact this
set_option maxHeartbeats 8000000 in
theorem rright_any (v : Value) (r : Re) (w : World) (h : ReIs w v r) (hs : Sized r) : Calls Tryz.prog 12 #[v] w fun e w' => e = .returned (.bool (mayBe r)) ∧ Grew w w' := by
  obtain ⟨v0, v1, v2, v3, v4, rfl, h0, h1, h2, h3, h4⟩ := h
  have HIS := Lib.hid h1
  have HLA := Lib.hid (fun W hg => DL.labels_any v0 r.labels W (h0.grew (w' := W) hg))
  have HAC := Lib.hid (fun W hg => DA.accounts_any v2 r.accounts hs W (h2.grew (w' := W) hg))
  have HGU := Lib.hid (fun W hg => DG.guilds_any' v0 v3 r W (h0.grew (w' := W) hg) (h3.grew hg) (by obtain ⟨_, _, _, a, b⟩ := h2.slice; omega))
  have HQU := Lib.hid (fun W hg => DQ.quotas_any v4 r.quotas W (h4.grew (w' := W) hg))
  obtain ⟨A0', cp0, rfl, _⟩ := h0.slice
  obtain ⟨A1', cp1, rfl, hf1, hf2, _⟩ := id h1
  obtain ⟨A2', cp2, rfl, _⟩ := h2.slice
  obtain ⟨A3', cp3, rfl, _⟩ := h3.slice
  obtain ⟨A4', cp4, rfl, _⟩ := h4.slice
  clear h0 h1 h2 h3 h4 hs hf1 hf2
  have G0 : Hid (Grew w (w.alloc (Obj.cells #[.slice A0' r.labels.length cp0, .slice A1' r.lines.length cp1, .slice A2' r.accounts.length cp2, .slice A3' r.guilds.length cp3, .slice A4' r.quotas.length cp4, .int .i64 r.orders, .int .i64 r.audits, .int .i64 r.rate, .int .i64 r.rounds] 28))) := Lib.hid (by unfold Grew; go_grown)
  have R0 : Hid ((w.alloc (Obj.cells #[.slice A0' r.labels.length cp0, .slice A1' r.lines.length cp1, .slice A2' r.accounts.length cp2, .slice A3' r.guilds.length cp3, .slice A4' r.quotas.length cp4, .int .i64 r.orders, .int .i64 r.audits, .int .i64 r.rate, .int .i64 r.rounds] 28)).heap[w.heap.size]? = some (rcell (.slice A0' r.labels.length cp0) (.slice A1' r.lines.length cp1) (.slice A2' r.accounts.length cp2) (.slice A3' r.guilds.length cp3) (.slice A4' r.quotas.length cp4) r.orders r.audits r.rate r.rounds)) := Lib.hid (heap_alloc_new w _)
  have HNO := Lib.hid (@may_no r)
  have HYES := Lib.hid (@may_yes r)
  have H2L := Lib.hid (@rule2_len r)
  have H2O := Lib.hid (fun k => @rule2_one r k)
  have H2Y := Lib.hid (@rule2_yes r)
  have HR1 : Hid (rule1 r = DL.okL r.labels) := Lib.hid rfl
  have HR3 : Hid (rule3 r = DA.okA r.accounts) := Lib.hid rfl
  have HR4 : Hid (rule4 r = DG.okG r) := Lib.hid rfl
  have HR5 : Hid (rule5 r = (decide (r.quotas.length = r.labels.length) && DQ.okQ r.quotas)) := Lib.hid rfl
  have HR6 : Hid (rule6 r = (wit r.orders 0 24 && wit r.audits 0 48)) := Lib.hid rfl
  have HR7 : Hid (rule7 r = (wit r.rate 1 4 && wit r.rounds 1 16)) := Lib.hid rfl
  generalize mayBe r = res at *
  generalize rule1 r = c1 at *
  generalize rule2 r = c2 at *
  generalize rule3 r = c3 at *
  generalize rule4 r = c4 at *
  generalize rule5 r = c5 at *
  generalize rule6 r = c6 at *
  generalize rule7 r = c7 at *
  generalize DL.okL r.labels = b1 at *
  generalize DA.okA r.accounts = b3 at *
  generalize DG.okG r = b4 at *
  generalize DQ.okQ r.quotas = b5 at *
  obtain ⟨r0, r1, r2, r3, r4, r5, r6, r7, r8⟩ := re_cells R0.out
  go_enter Tryz.func12, Tryz.ntmps12
  go_wp2_with fail
  with_reducible refine (HLA.out _ G0.out).mono ?_
  rintro e w1 ⟨rfl, hg⟩
  have G1 := Lib.hid (G0.out.trans hg)
  have R1 := Lib.hid (keepB R0.out hg)
  clear hg r0 r1 r2 r3 r4 r5 r6 r7 r8
  obtain ⟨r0, r1, r2, r3, r4, r5, r6, r7, r8⟩ := re_cells R1.out
  cases b1 with
  | false =>
    have HR := Lib.hid (HNO.out (.inl HR1.out))
    go_wp2
    go_returns
    refine ⟨?_, G1.out⟩
    rw [HR.out]
    try rfl
  | true =>
    by_cases l1 : 1 ≤ r.lines.length
    · have l1' : ¬ (r.lines.length : Int) < 1 := by omega
      by_cases l8 : r.lines.length ≤ 8
      · have l8' : ¬ (8 : Int) < (r.lines.length : Int) := by omega
        go_wp2_with fail
        with_reducible refine (HAC.out _ G1.out).mono ?_
        rintro e w2 ⟨rfl, hg⟩
        have G2 := Lib.hid (G1.out.trans hg)
        have R2 := Lib.hid (keepB R1.out hg)
        clear hg r0 r1 r2 r3 r4 r5 r6 r7 r8
        obtain ⟨r0, r1, r2, r3, r4, r5, r6, r7, r8⟩ := re_cells R2.out
        cases b3 with
        | false =>
          have HR := Lib.hid (HNO.out (.inr (.inr (.inl HR3.out))))
          go_wp2
          go_returns
          refine ⟨?_, G2.out⟩
          rw [HR.out]
          try rfl
        | true =>
          go_wp2_with fail
          with_reducible refine (HGU.out _ G2.out).mono ?_
          rintro e w3 ⟨rfl, hg⟩
          have G3 := Lib.hid (G2.out.trans hg)
          have R3 := Lib.hid (keepB R2.out hg)
          clear hg r0 r1 r2 r3 r4 r5 r6 r7 r8
          obtain ⟨r0, r1, r2, r3, r4, r5, r6, r7, r8⟩ := re_cells R3.out
          cases b4 with
          | false =>
            have HR := Lib.hid (HNO.out (.inr (.inr (.inr (.inl HR4.out)))))
            go_wp2
            go_returns
            refine ⟨?_, G3.out⟩
            rw [HR.out]
            try rfl
          | true =>
            have HT1 : Hid (c1 = true) := Lib.hid HR1.out
            have HT3 : Hid (c3 = true) := Lib.hid HR3.out
            have HT4 : Hid (c4 = true) := Lib.hid HR4.out
            have L8 := Lib.hid l8
            have L1 := Lib.hid l1
            go_wp2
            clear l1 l8 l1' l8'
            go_loopg [3] r.lines.length (fun g s3 wx => ∃ k : Nat, k + g = r.lines.length ∧ s3 = .int .i64 k ∧ Hid (∀ j, j < k → inn r.labels.length (lin r j) = true) ∧ Hid (Grew w3 wx))
            case atStart => exact ⟨0, by omega, rfl, Lib.hid (fun j h => absurd h (by omega)), Lib.hid (Grew.refl _)⟩
            case round =>
              obtain ⟨k, hkg, rfl, HJ, HG⟩ := hrel
              have G4 := Lib.hid (G3.out.trans HG.out)
              have R4 := Lib.hid (keepB R3.out HG.out)
              clear r0 r1 r2 r3 r4 r5 r6 r7 r8
              obtain ⟨r0, r1, r2, r3, r4, r5, r6, r7, r8⟩ := re_cells R4.out
              cases gk with
              | zero =>
                have hkz : ¬ ((k : Int) < (r.lines.length : Int)) := by omega
                have HT2 : Hid (c2 = true) := Lib.hid (H2Y.out L1.out L8.out fun i hi => HJ.out i (by omega))
                clear hkg
                by_cases hq : r.quotas.length = r.labels.length
                · have hqb : ((r.quotas.length : Int) != (r.labels.length : Int)) = false := by simp [hq]
                  have HQL : Hid (decide (r.quotas.length = r.labels.length) = true) := Lib.hid (decide_eq_true hq)
                  clear hq
                  go_wp2_with fail
                  with_reducible refine (HQU.out _ G4.out).mono ?_
                  rintro e w6 ⟨rfl, hg⟩
                  have G6 := Lib.hid (G4.out.trans hg)
                  have R6 := Lib.hid (keepB R4.out hg)
                  clear hg r0 r1 r2 r3 r4 r5 r6 r7 r8
                  obtain ⟨r0, r1, r2, r3, r4, r5, r6, r7, r8⟩ := re_cells R6.out
                  cases b5 with
                  | false =>
                    have HR := Lib.hid (HNO.out (.inr (.inr (.inr (.inr (.inl (HR5.out.trans (by simp))))))))
                    go_wp2
                    go_returns
                    refine ⟨?_, G6.out⟩
                    rw [HR.out]
                    try rfl
                  | true =>
                    have HT5 : Hid (c5 = true) := Lib.hid (HR5.out.trans (by rw [HQL.out]; rfl))
                    by_cases q0 : 0 ≤ r.orders
                    · by_cases q1 : r.orders ≤ 24
                      · by_cases q2 : 0 ≤ r.audits
                        · by_cases q3 : r.audits ≤ 48
                          · by_cases q4 : 1 ≤ r.rate
                            · by_cases q5 : r.rate ≤ 4
                              · by_cases q6 : 1 ≤ r.rounds
                                · by_cases q7 : r.rounds ≤ 16
                                  · have HR := Lib.hid (HYES.out HT1.out HT2.out HT3.out HT4.out HT5.out (by rw [HR6.out]; unfold wit; rw [decide_eq_true q0, decide_eq_true q1, decide_eq_true q2, decide_eq_true q3]; rfl) (by rw [HR7.out]; unfold wit; rw [decide_eq_true q4, decide_eq_true q5, decide_eq_true q6, decide_eq_true q7]; rfl))
                                    go_wp2
                                    go_returns
                                    refine ⟨?_, G6.out⟩
                                    rw [HR.out]
                                    try rfl
                                  · have HR := Lib.hid (HNO.out (.inr (.inr (.inr (.inr (.inr (.inr (by rw [HR7.out]; unfold wit; rw [decide_eq_false q7]; simp))))))))
                                    have hd : decide (r.rounds ≤ 16) = false := decide_eq_false q7
                                    clear q7
                                    go_wp2
                                    go_returns
                                    refine ⟨?_, G6.out⟩
                                    rw [HR.out]
                                    first | rfl | simp [hd]
                                · have HR := Lib.hid (HNO.out (.inr (.inr (.inr (.inr (.inr (.inr (by rw [HR7.out]; unfold wit; rw [decide_eq_false q6]; simp))))))))
                                  have hd : decide (1 ≤ r.rounds) = false := decide_eq_false q6
                                  clear q6
                                  go_wp2
                                  go_returns
                                  refine ⟨?_, G6.out⟩
                                  rw [HR.out]
                                  first | rfl | simp [hd]
                              · have HR := Lib.hid (HNO.out (.inr (.inr (.inr (.inr (.inr (.inr (by rw [HR7.out]; unfold wit; rw [decide_eq_false q5]; simp))))))))
                                have hd : decide (r.rate ≤ 4) = false := decide_eq_false q5
                                clear q5
                                go_wp2
                                go_returns
                                refine ⟨?_, G6.out⟩
                                rw [HR.out]
                                first | rfl | simp [hd]
                            · have HR := Lib.hid (HNO.out (.inr (.inr (.inr (.inr (.inr (.inr (by rw [HR7.out]; unfold wit; rw [decide_eq_false q4]; simp))))))))
                              have hd : decide (1 ≤ r.rate) = false := decide_eq_false q4
                              clear q4
                              go_wp2
                              go_returns
                              refine ⟨?_, G6.out⟩
                              rw [HR.out]
                              first | rfl | simp [hd]
                          · have HR := Lib.hid (HNO.out (.inr (.inr (.inr (.inr (.inr (.inl (by rw [HR6.out]; unfold wit; rw [decide_eq_false q3]; simp))))))))
                            have hd : decide (r.audits ≤ 48) = false := decide_eq_false q3
                            clear q3
                            go_wp2
                            go_returns
                            refine ⟨?_, G6.out⟩
                            rw [HR.out]
                            first | rfl | simp [hd]
                        · have HR := Lib.hid (HNO.out (.inr (.inr (.inr (.inr (.inr (.inl (by rw [HR6.out]; unfold wit; rw [decide_eq_false q2]; simp))))))))
                          have hd : decide (0 ≤ r.audits) = false := decide_eq_false q2
                          clear q2
                          go_wp2
                          go_returns
                          refine ⟨?_, G6.out⟩
                          rw [HR.out]
                          first | rfl | simp [hd]
                      · have HR := Lib.hid (HNO.out (.inr (.inr (.inr (.inr (.inr (.inl (by rw [HR6.out]; unfold wit; rw [decide_eq_false q1]; simp))))))))
                        have hd : decide (r.orders ≤ 24) = false := decide_eq_false q1
                        clear q1
                        go_wp2
                        go_returns
                        refine ⟨?_, G6.out⟩
                        rw [HR.out]
                        first | rfl | simp [hd]
                    · have HR := Lib.hid (HNO.out (.inr (.inr (.inr (.inr (.inr (.inl (by rw [HR6.out]; unfold wit; rw [decide_eq_false q0]; simp))))))))
                      have hd : decide (0 ≤ r.orders) = false := decide_eq_false q0
                      clear q0
                      go_wp2
                      go_returns
                      refine ⟨?_, G6.out⟩
                      rw [HR.out]
                      first | rfl | simp [hd]
                · have hqb : ((r.quotas.length : Int) != (r.labels.length : Int)) = true := by simp; omega
                  have HR := Lib.hid (HNO.out (.inr (.inr (.inr (.inr (.inl (HR5.out.trans (by rw [decide_eq_false hq]; rfl))))))))
                  clear hq
                  go_wp2
                  go_returns
                  refine ⟨?_, G4.out⟩
                  rw [HR.out]
                  try rfl
              | succ g =>
                have hkz : (k : Int) < (r.lines.length : Int) := by omega
                have hkl : k < r.lines.length := by omega
                have hkw : wrap64 ((k : Int) + 1) = (k : Int) + 1 := by have := L8.out; unfold wrap64; omega
                obtain ⟨ad, c2', e, hc2, hcell⟩ := (HIS.out.grew G4.out).cell (k := k) hkl
                injection e with e1 _ e3
                subst e1 e3
                have C0 : Hid (wr.cell? (ad.add k) = some (.int .i64 (lin r k))) := Lib.hid hcell
                have HO := Lib.hid (H2O.out k hkl)
                have HSS : Hid (inn r.labels.length (lin r k) = true → ∀ j, j < k + 1 → inn r.labels.length (lin r j) = true) := Lib.hid fun h j hj => by
                  rcases Nat.lt_succ_iff_lt_or_eq.1 hj with h1 | h1
                  · exact HJ.out j h1
                  · rw [h1]; exact h
                have HKG := Lib.hid hkg
                clear hcell hkl hkg
                rcases inn_cases r.labels.length (lin r k) with ⟨q1, q2, q3⟩ | ⟨q1, q3⟩ | ⟨q1, q2, q3⟩
                · have HS4 := Lib.hid (HSS.out q3)
                  generalize lin r k = x at *
                  have q1' : ¬ x < 0 := by omega
                  have q2' : ¬ (r.labels.length : Int) ≤ x := by omega
                  clear q1 q2 q3
                  go_wp2
                  refine Facts.wp_region_text (by kernel_rfl) (by kernel_rfl) ?_
                  apply Facts.Lex.exact [] _ (by kernel_rfl)
                  · intro u W hC _
                    unfold Facts.one
                    go_simp
                    first | exact ⟨Grew.refl _, rfl⟩ | rfl
                  simp only [Act.put, List.setIfInBounds_toArray, List.set_cons_zero, List.set_cons_succ, Nat.zero_add]
                  apply Facts.Lex.exact [] _ (by kernel_rfl)
                  · intro u W hC _
                    obtain ⟨r0, r1, r2, r3, r4, r5, r6, r7, r8⟩ := re_cells (keepB R4.out hC)
                    unfold Facts.one
                    go_simp
                    first | exact ⟨Grew.refl _, rfl⟩ | rfl
                  simp only [Act.put, List.setIfInBounds_toArray, List.set_cons_zero, List.set_cons_succ, Nat.reduceAdd]
                  apply Facts.Lex.exact [] _ (by kernel_rfl)
                  · intro u W hC _
                    unfold Facts.one
                    go_simp
                    first | exact ⟨Grew.refl _, rfl⟩ | rfl
                  simp only [Act.put, List.setIfInBounds_toArray, List.set_cons_zero, List.set_cons_succ, Nat.reduceAdd]
                  apply Facts.Lex.exact [] _ (by kernel_rfl)
                  · intro u W hC _
                    unfold Facts.one
                    go_simp
                    first | exact ⟨Grew.refl _, rfl⟩ | rfl
                  simp only [Act.put, List.setIfInBounds_toArray, List.set_cons_zero, List.set_cons_succ, Nat.reduceAdd]
                  apply Facts.Lex.exact [] _ (by kernel_rfl)
                  · intro u W hC _
                    have k0 := cellB hC C0.out
                    unfold Facts.one
                    go_simp
                    first | exact ⟨Grew.refl _, rfl⟩ | rfl
                  simp only [Act.put, List.setIfInBounds_toArray, List.set_cons_zero, List.set_cons_succ, Nat.reduceAdd]
                  apply Facts.Lex.exact [] _ (by kernel_rfl)
                  · intro u W hC _
                    unfold Facts.one
                    go_simp
                    first | exact ⟨Grew.refl _, rfl⟩ | rfl
                  simp only [Act.put, List.setIfInBounds_toArray, List.set_cons_zero, List.set_cons_succ, Nat.reduceAdd]
                  apply Facts.Lex.exact [] _ (by kernel_rfl)
                  · intro u W hC _
                    unfold Facts.one
                    go_simp
                    first | exact ⟨Grew.refl _, rfl⟩ | rfl
                  simp only [Act.put, List.setIfInBounds_toArray, List.set_cons_zero, List.set_cons_succ, Nat.reduceAdd]
                  apply Facts.Lex.exact [] _ (by kernel_rfl)
                  · intro u W hC _
                    unfold Facts.one
                    go_simp
                    first | exact ⟨Grew.refl _, rfl⟩ | rfl
                  simp only [Act.put, List.setIfInBounds_toArray, List.set_cons_zero, List.set_cons_succ, Nat.reduceAdd]
                  apply Facts.Lex.exact [] _ (by kernel_rfl)
                  · intro u W hC _
                    obtain ⟨r0, r1, r2, r3, r4, r5, r6, r7, r8⟩ := re_cells (keepB R4.out hC)
                    unfold Facts.one
                    go_simp
                    first | exact ⟨Grew.refl _, rfl⟩ | rfl
                  simp only [Act.put, List.setIfInBounds_toArray, List.set_cons_zero, List.set_cons_succ, Nat.reduceAdd]
                  apply Facts.Lex.exact [] _ (by kernel_rfl)
                  · intro u W hC _
                    unfold Facts.one
                    go_simp
                    first | exact ⟨Grew.refl _, rfl⟩ | rfl
                  simp only [Act.put, List.setIfInBounds_toArray, List.set_cons_zero, List.set_cons_succ, Nat.reduceAdd]
                  apply Facts.Lex.exact [] _ (by kernel_rfl)
                  · intro u W hC _
                    unfold Facts.one
                    go_simp
                    first | exact ⟨Grew.refl _, rfl⟩ | rfl
                  simp only [Act.put, List.setIfInBounds_toArray, List.set_cons_zero, List.set_cons_succ, Nat.reduceAdd]
                  apply Facts.Lex.exact [] _ (by kernel_rfl)
                  · intro u W hC _
                    have k0 := cellB hC C0.out
                    unfold Facts.one
                    go_simp
                    first | exact ⟨Grew.refl _, rfl⟩ | rfl
                  simp only [Act.put, List.setIfInBounds_toArray, List.set_cons_zero, List.set_cons_succ, Nat.reduceAdd]
                  apply Facts.Lex.exact [] _ (by kernel_rfl)
                  · intro u W hC _
                    unfold Facts.one
                    go_simp
                    first | exact ⟨Grew.refl _, rfl⟩ | rfl
                  simp only [Act.put, List.setIfInBounds_toArray, List.set_cons_zero, List.set_cons_succ, Nat.reduceAdd]
                  apply Facts.Lex.exact [] _ (by kernel_rfl)
                  · intro u W hC _
                    obtain ⟨r0, r1, r2, r3, r4, r5, r6, r7, r8⟩ := re_cells (keepB R4.out hC)
                    unfold Facts.one
                    go_simp
                    first | exact ⟨Grew.refl _, rfl⟩ | rfl
                  simp only [Act.put, List.setIfInBounds_toArray, List.set_cons_zero, List.set_cons_succ, Nat.reduceAdd]
                  apply Facts.Lex.exact [] _ (by kernel_rfl)
                  · intro u W hC _
                    unfold Facts.one
                    go_simp
                    first | exact ⟨Grew.refl _, rfl⟩ | rfl
                  simp only [Act.put, List.setIfInBounds_toArray, List.set_cons_zero, List.set_cons_succ, Nat.reduceAdd]
                  apply Facts.Lex.exact [] _ (by kernel_rfl)
                  · intro u W hC _
                    unfold Facts.one
                    go_simp
                    first | exact ⟨Grew.refl _, rfl⟩ | rfl
                  simp only [Act.put, List.setIfInBounds_toArray, List.set_cons_zero, List.set_cons_succ, Nat.reduceAdd]
                  apply Facts.Lex.exact [] _ (by kernel_rfl)
                  · intro u W hC _
                    unfold Facts.one
                    go_simp
                    first | exact ⟨Grew.refl _, rfl⟩ | rfl
                  simp only [Act.put, List.setIfInBounds_toArray, List.set_cons_zero, List.set_cons_succ, Nat.reduceAdd]
                  refine Facts.Lex.done fun u W2 hC hL => ?_
                  have G9 := Lib.hid (G4.out.trans hC)
                  have R9 := Lib.hid (keepB R4.out hC)
                  have HCC := Lib.hid hC
                  clear hC hL r0 r1 r2 r3 r4 r5 r6 r7 r8
                  have HG9 := Lib.hid (HG.out.trans HCC.out)
                  go_wp2
                  go_roundg g
                  case measure => exact Nat.lt_succ_self _
                  case rel => exact ⟨k + 1, m4 HKG.out, by first | rfl | simp [hkw], HS4, HG9⟩
                · have HR := Lib.hid (HNO.out (.inr (.inl (HO.out q3))))
                  generalize lin r k = x at *
                  have q1' : x < 0 := by omega
                  clear q1 q3
                  go_wp2
                  refine Facts.wp_region_text (by kernel_rfl) (by kernel_rfl) ?_
                  apply Facts.Lex.exact [] _ (by kernel_rfl)
                  · intro u W hC _
                    unfold Facts.one
                    go_simp
                    first | exact ⟨Grew.refl _, rfl⟩ | rfl
                  simp only [Act.put, List.setIfInBounds_toArray, List.set_cons_zero, List.set_cons_succ, Nat.zero_add]
                  apply Facts.Lex.exact [] _ (by kernel_rfl)
                  · intro u W hC _
                    obtain ⟨r0, r1, r2, r3, r4, r5, r6, r7, r8⟩ := re_cells (keepB R4.out hC)
                    unfold Facts.one
                    go_simp
                    first | exact ⟨Grew.refl _, rfl⟩ | rfl
                  simp only [Act.put, List.setIfInBounds_toArray, List.set_cons_zero, List.set_cons_succ, Nat.reduceAdd]
                  apply Facts.Lex.exact [] _ (by kernel_rfl)
                  · intro u W hC _
                    unfold Facts.one
                    go_simp
                    first | exact ⟨Grew.refl _, rfl⟩ | rfl
                  simp only [Act.put, List.setIfInBounds_toArray, List.set_cons_zero, List.set_cons_succ, Nat.reduceAdd]
                  apply Facts.Lex.exact [] _ (by kernel_rfl)
                  · intro u W hC _
                    unfold Facts.one
                    go_simp
                    first | exact ⟨Grew.refl _, rfl⟩ | rfl
                  simp only [Act.put, List.setIfInBounds_toArray, List.set_cons_zero, List.set_cons_succ, Nat.reduceAdd]
                  apply Facts.Lex.exact [] _ (by kernel_rfl)
                  · intro u W hC _
                    have k0 := cellB hC C0.out
                    unfold Facts.one
                    go_simp
                    first | exact ⟨Grew.refl _, rfl⟩ | rfl
                  simp only [Act.put, List.setIfInBounds_toArray, List.set_cons_zero, List.set_cons_succ, Nat.reduceAdd]
                  apply Facts.Lex.exact [] _ (by kernel_rfl)
                  · intro u W hC _
                    unfold Facts.one
                    go_simp
                    first | exact ⟨Grew.refl _, rfl⟩ | rfl
                  simp only [Act.put, List.setIfInBounds_toArray, List.set_cons_zero, List.set_cons_succ, Nat.reduceAdd]
                  apply Facts.Lex.exact [] _ (by kernel_rfl)
                  · intro u W hC _
                    unfold Facts.one
                    go_simp
                    first | exact ⟨Grew.refl _, rfl⟩ | rfl
                  simp only [Act.put, List.setIfInBounds_toArray, List.set_cons_zero, List.set_cons_succ, Nat.reduceAdd]
                  apply Facts.Lex.exact [] _ (by kernel_rfl)
                  · intro u W hC _
                    unfold Facts.one
                    go_simp
                    first | exact ⟨Grew.refl _, rfl⟩ | rfl
                  simp only [Act.put, List.setIfInBounds_toArray, List.set_cons_zero, List.set_cons_succ, Nat.reduceAdd]
                  apply Facts.Lex.exact [] _ (by kernel_rfl)
                  · intro u W hC _
                    obtain ⟨r0, r1, r2, r3, r4, r5, r6, r7, r8⟩ := re_cells (keepB R4.out hC)
                    unfold Facts.one
                    go_simp
                    first | exact ⟨Grew.refl _, rfl⟩ | rfl
                  simp only [Act.put, List.setIfInBounds_toArray, List.set_cons_zero, List.set_cons_succ, Nat.reduceAdd]
                  apply Facts.Lex.exact [] _ (by kernel_rfl)
                  · intro u W hC _
                    unfold Facts.one
                    go_simp
                    first | exact ⟨Grew.refl _, rfl⟩ | rfl
                  simp only [Act.put, List.setIfInBounds_toArray, List.set_cons_zero, List.set_cons_succ, Nat.reduceAdd]
                  apply Facts.Lex.exact [] _ (by kernel_rfl)
                  · intro u W hC _
                    unfold Facts.one
                    go_simp
                    first | exact ⟨Grew.refl _, rfl⟩ | rfl
                  simp only [Act.put, List.setIfInBounds_toArray, List.set_cons_zero, List.set_cons_succ, Nat.reduceAdd]
                  apply Facts.Lex.exact [] _ (by kernel_rfl)
                  · intro u W hC _
                    have k0 := cellB hC C0.out
                    unfold Facts.one
                    go_simp
                    first | exact ⟨Grew.refl _, rfl⟩ | rfl
                  simp only [Act.put, List.setIfInBounds_toArray, List.set_cons_zero, List.set_cons_succ, Nat.reduceAdd]
                  apply Facts.Lex.exact [] _ (by kernel_rfl)
                  · intro u W hC _
                    unfold Facts.one
                    go_simp
                    first | exact ⟨Grew.refl _, rfl⟩ | rfl
                  simp only [Act.put, List.setIfInBounds_toArray, List.set_cons_zero, List.set_cons_succ, Nat.reduceAdd]
                  apply Facts.Lex.exact [] _ (by kernel_rfl)
                  · intro u W hC _
                    obtain ⟨r0, r1, r2, r3, r4, r5, r6, r7, r8⟩ := re_cells (keepB R4.out hC)
                    unfold Facts.one
                    go_simp
                    first | exact ⟨Grew.refl _, rfl⟩ | rfl
                  simp only [Act.put, List.setIfInBounds_toArray, List.set_cons_zero, List.set_cons_succ, Nat.reduceAdd]
                  apply Facts.Lex.exact [] _ (by kernel_rfl)
                  · intro u W hC _
                    unfold Facts.one
                    go_simp
                    first | exact ⟨Grew.refl _, rfl⟩ | rfl
                  simp only [Act.put, List.setIfInBounds_toArray, List.set_cons_zero, List.set_cons_succ, Nat.reduceAdd]
                  apply Facts.Lex.exact [] _ (by kernel_rfl)
                  · intro u W hC _
                    unfold Facts.one
                    go_simp
                    first | exact ⟨Grew.refl _, rfl⟩ | rfl
                  simp only [Act.put, List.setIfInBounds_toArray, List.set_cons_zero, List.set_cons_succ, Nat.reduceAdd]
                  apply Facts.Lex.exact [] _ (by kernel_rfl)
                  · intro u W hC _
                    unfold Facts.one
                    go_simp
                    first | exact ⟨Grew.refl _, rfl⟩ | rfl
                  simp only [Act.put, List.setIfInBounds_toArray, List.set_cons_zero, List.set_cons_succ, Nat.reduceAdd]
                  refine Facts.Lex.done fun u W2 hC hL => ?_
                  have G9 := Lib.hid (G4.out.trans hC)
                  have R9 := Lib.hid (keepB R4.out hC)
                  clear hC hL r0 r1 r2 r3 r4 r5 r6 r7 r8
                  go_wp2
                  go_returns
                  refine ⟨?_, G9.out⟩
                  rw [HR.out]
                  try rfl
                · have HR := Lib.hid (HNO.out (.inr (.inl (HO.out q3))))
                  generalize lin r k = x at *
                  have q1' : ¬ x < 0 := by omega
                  have q2' : (r.labels.length : Int) ≤ x := by omega
                  clear q1 q2 q3
                  go_wp2
                  refine Facts.wp_region_text (by kernel_rfl) (by kernel_rfl) ?_
                  apply Facts.Lex.exact [] _ (by kernel_rfl)
                  · intro u W hC _
                    unfold Facts.one
                    go_simp
                    first | exact ⟨Grew.refl _, rfl⟩ | rfl
                  simp only [Act.put, List.setIfInBounds_toArray, List.set_cons_zero, List.set_cons_succ, Nat.zero_add]
                  apply Facts.Lex.exact [] _ (by kernel_rfl)
                  · intro u W hC _
                    obtain ⟨r0, r1, r2, r3, r4, r5, r6, r7, r8⟩ := re_cells (keepB R4.out hC)
                    unfold Facts.one
                    go_simp
                    first | exact ⟨Grew.refl _, rfl⟩ | rfl
                  simp only [Act.put, List.setIfInBounds_toArray, List.set_cons_zero, List.set_cons_succ, Nat.reduceAdd]
                  apply Facts.Lex.exact [] _ (by kernel_rfl)
                  · intro u W hC _
                    unfold Facts.one
                    go_simp
                    first | exact ⟨Grew.refl _, rfl⟩ | rfl
                  simp only [Act.put, List.setIfInBounds_toArray, List.set_cons_zero, List.set_cons_succ, Nat.reduceAdd]
                  apply Facts.Lex.exact [] _ (by kernel_rfl)
                  · intro u W hC _
                    unfold Facts.one
                    go_simp
                    first | exact ⟨Grew.refl _, rfl⟩ | rfl
                  simp only [Act.put, List.setIfInBounds_toArray, List.set_cons_zero, List.set_cons_succ, Nat.reduceAdd]
                  apply Facts.Lex.exact [] _ (by kernel_rfl)
                  · intro u W hC _
                    have k0 := cellB hC C0.out
                    unfold Facts.one
                    go_simp
                    first | exact ⟨Grew.refl _, rfl⟩ | rfl
                  simp only [Act.put, List.setIfInBounds_toArray, List.set_cons_zero, List.set_cons_succ, Nat.reduceAdd]
                  apply Facts.Lex.exact [] _ (by kernel_rfl)
                  · intro u W hC _
                    unfold Facts.one
                    go_simp
                    first | exact ⟨Grew.refl _, rfl⟩ | rfl
                  simp only [Act.put, List.setIfInBounds_toArray, List.set_cons_zero, List.set_cons_succ, Nat.reduceAdd]
                  apply Facts.Lex.exact [] _ (by kernel_rfl)
                  · intro u W hC _
                    unfold Facts.one
                    go_simp
                    first | exact ⟨Grew.refl _, rfl⟩ | rfl
                  simp only [Act.put, List.setIfInBounds_toArray, List.set_cons_zero, List.set_cons_succ, Nat.reduceAdd]
                  apply Facts.Lex.exact [] _ (by kernel_rfl)
                  · intro u W hC _
                    unfold Facts.one
                    go_simp
                    first | exact ⟨Grew.refl _, rfl⟩ | rfl
                  simp only [Act.put, List.setIfInBounds_toArray, List.set_cons_zero, List.set_cons_succ, Nat.reduceAdd]
                  apply Facts.Lex.exact [] _ (by kernel_rfl)
                  · intro u W hC _
                    obtain ⟨r0, r1, r2, r3, r4, r5, r6, r7, r8⟩ := re_cells (keepB R4.out hC)
                    unfold Facts.one
                    go_simp
                    first | exact ⟨Grew.refl _, rfl⟩ | rfl
                  simp only [Act.put, List.setIfInBounds_toArray, List.set_cons_zero, List.set_cons_succ, Nat.reduceAdd]
                  apply Facts.Lex.exact [] _ (by kernel_rfl)
                  · intro u W hC _
                    unfold Facts.one
                    go_simp
                    first | exact ⟨Grew.refl _, rfl⟩ | rfl
                  simp only [Act.put, List.setIfInBounds_toArray, List.set_cons_zero, List.set_cons_succ, Nat.reduceAdd]
                  apply Facts.Lex.exact [] _ (by kernel_rfl)
                  · intro u W hC _
                    unfold Facts.one
                    go_simp
                    first | exact ⟨Grew.refl _, rfl⟩ | rfl
                  simp only [Act.put, List.setIfInBounds_toArray, List.set_cons_zero, List.set_cons_succ, Nat.reduceAdd]
                  apply Facts.Lex.exact [] _ (by kernel_rfl)
                  · intro u W hC _
                    have k0 := cellB hC C0.out
                    unfold Facts.one
                    go_simp
                    first | exact ⟨Grew.refl _, rfl⟩ | rfl
                  simp only [Act.put, List.setIfInBounds_toArray, List.set_cons_zero, List.set_cons_succ, Nat.reduceAdd]
                  apply Facts.Lex.exact [] _ (by kernel_rfl)
                  · intro u W hC _
                    unfold Facts.one
                    go_simp
                    first | exact ⟨Grew.refl _, rfl⟩ | rfl
                  simp only [Act.put, List.setIfInBounds_toArray, List.set_cons_zero, List.set_cons_succ, Nat.reduceAdd]
                  apply Facts.Lex.exact [] _ (by kernel_rfl)
                  · intro u W hC _
                    obtain ⟨r0, r1, r2, r3, r4, r5, r6, r7, r8⟩ := re_cells (keepB R4.out hC)
                    unfold Facts.one
                    go_simp
                    first | exact ⟨Grew.refl _, rfl⟩ | rfl
                  simp only [Act.put, List.setIfInBounds_toArray, List.set_cons_zero, List.set_cons_succ, Nat.reduceAdd]
                  apply Facts.Lex.exact [] _ (by kernel_rfl)
                  · intro u W hC _
                    unfold Facts.one
                    go_simp
                    first | exact ⟨Grew.refl _, rfl⟩ | rfl
                  simp only [Act.put, List.setIfInBounds_toArray, List.set_cons_zero, List.set_cons_succ, Nat.reduceAdd]
                  apply Facts.Lex.exact [] _ (by kernel_rfl)
                  · intro u W hC _
                    unfold Facts.one
                    go_simp
                    first | exact ⟨Grew.refl _, rfl⟩ | rfl
                  simp only [Act.put, List.setIfInBounds_toArray, List.set_cons_zero, List.set_cons_succ, Nat.reduceAdd]
                  apply Facts.Lex.exact [] _ (by kernel_rfl)
                  · intro u W hC _
                    unfold Facts.one
                    go_simp
                    first | exact ⟨Grew.refl _, rfl⟩ | rfl
                  simp only [Act.put, List.setIfInBounds_toArray, List.set_cons_zero, List.set_cons_succ, Nat.reduceAdd]
                  refine Facts.Lex.done fun u W2 hC hL => ?_
                  have G9 := Lib.hid (G4.out.trans hC)
                  have R9 := Lib.hid (keepB R4.out hC)
                  clear hC hL r0 r1 r2 r3 r4 r5 r6 r7 r8
                  go_wp2
                  go_returns
                  refine ⟨?_, G9.out⟩
                  rw [HR.out]
                  try rfl
      · have HR2 := H2L.out (fun h => l8 h.2)
        have l8' : (8 : Int) < (r.lines.length : Int) := by omega
        clear l8
        have HR := Lib.hid (HNO.out (.inr (.inl HR2)))
        go_wp2
        go_returns
        refine ⟨?_, G1.out⟩
        rw [HR.out]
        try rfl
    · have HR2 := H2L.out (fun h => l1 h.1)
      have l1' : (r.lines.length : Int) < 1 := by omega
      clear l1
      have HR := Lib.hid (HNO.out (.inr (.inl HR2)))
      go_wp2
      go_returns
      refine ⟨?_, G1.out⟩
      rw [HR.out]
      try rfl

end Go.Proofs.YtmegdgeiikhflaaGreat.DR
