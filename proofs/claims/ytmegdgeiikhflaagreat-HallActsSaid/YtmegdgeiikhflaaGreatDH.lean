/-
  Whether ranks may be, as the document tells it.
  Conditions: the accounts' texts' sizes.
-/
import Derived.Test.YtmegdgeiikhflaaGreatHC
import Derived.Test.YtmegdgeiikhflaaGreatDR
import Derived.Test.YtmegdgeiikhflaaGreatDN
namespace Go.Proofs.YtmegdgeiikhflaaGreat.DH
set_option maxRecDepth 100000
open Go Go.RowKit Go.Lib Go.Proofs.YtmegdgeiikhflaaGreat Go.Proofs.YtmegdgeiikhflaaGreat.Facts Go.Proofs.YtmegdgeiikhflaaGreat.Plain Go.Proofs.YtmegdgeiikhflaaGreat.Ints Go.Proofs.YtmegdgeiikhflaaGreat.RRows Go.Proofs.YtmegdgeiikhflaaGreat.LBox Go.Proofs.YtmegdgeiikhflaaGreat.RSmall Go.Proofs.YtmegdgeiikhflaaGreat.RFind Go.Proofs.YtmegdgeiikhflaaGreat.RAll Go.Proofs.YtmegdgeiikhflaaGreat.RRules Go.Proofs.YtmegdgeiikhflaaGreat.RRule3 Go.Proofs.YtmegdgeiikhflaaGreat.RRight Go.Proofs.YtmegdgeiikhflaaGreat.HA Go.Proofs.YtmegdgeiikhflaaGreat.HB Go.Proofs.YtmegdgeiikhflaaGreat.HG Go.Proofs.YtmegdgeiikhflaaGreat.HC

theorem any_cel {l : List Int} {k : Nat} (hk : k < l.length) (h : noR (cel l k) = true) : l.any noR = true := by
  rw [List.any_eq_true]
  refine ⟨cel l k, ?_, h⟩
  unfold cel
  rw [List.getElem?_eq_getElem hk]
  exact List.getElem_mem hk
theorem none_cel {l : List Int} (h : ∀ k, k < l.length → noR (cel l k) = false) : l.any noR = false := by
  rw [List.any_eq_false]
  intro x hx
  obtain ⟨k, hk⟩ := List.getElem?_of_mem hx
  have hkl := (List.getElem?_eq_some_iff.1 hk).1
  have := h k hkl
  unfold cel at this
  rw [hk] at this
  simpa using this
theorem row_len {r : Re} {R : List (List Int)} {k : Nat} (h : ¬ (rk R k).length = r.accounts.length) : rowOk r R k = false := by
  unfold rowOk
  rw [decide_eq_false h]
  rfl
theorem row_founder {r : Re} {R : List (List Int)} {k : Nat} (h : ¬ cel (rk R k) (gu r k).founder.toNat = 2) : rowOk r R k = false := by
  unfold rowOk
  rw [decide_eq_false h]
  simp
theorem row_cell {r : Re} {R : List (List Int)} {k j : Nat} (hj : j < (rk R k).length) (h : noR (cel (rk R k) j) = true) : rowOk r R k = false := by
  unfold rowOk
  rw [any_cel hj h]
  simp
theorem row_yes {r : Re} {R : List (List Int)} {k : Nat} (h1 : (rk R k).length = r.accounts.length) (h2 : cel (rk R k) (gu r k).founder.toNat = 2) (h3 : ∀ j, j < (rk R k).length → noR (cel (rk R k) j) = false) : rowOk r R k = true := by
  unfold rowOk
  rw [decide_eq_true h1, decide_eq_true h2, none_cel h3]
  rfl
theorem p1 {k q n m : Nat} (h : k + (q + 1) = n) (h2 : n = m) : k < m := by omega
theorem p2 {k q n : Nat} (h : k + (q + 1) = n) : k < n := by omega
theorem p3 {k n : Nat} (h : k < n) : (k : Int) < (n : Int) := by omega
theorem p4 {i k : Nat} (h : k + 0 = i) (j : Nat) (hj : j < i) : j < k := by omega
set_option maxHeartbeats 8000000 in
theorem rhright_any (v vr : Value) (r : Re) (R : List (List Int)) (w : World) (h : ReIs w v r) (hs : Sized r) (hR : RK w vr R) : Calls Tryz.prog 40 #[v, vr] w fun e w' => e = .returned (.bool (rightH r R)) ∧ Grew w w' := by
  have HRI := Lib.hid (fun W hg => DR.rright_any v r W (h.grew (w' := W) hg) hs)
  obtain ⟨v0, v1, v2, v3, v4, rfl, h0, h1, h2, h3, h4⟩ := h
  have HL3 := Lib.hid h3
  have HRK := Lib.hid hR
  obtain ⟨A0', cp0, rfl, _⟩ := h0.slice
  obtain ⟨A1', cp1, rfl, _⟩ := id h1
  obtain ⟨A2', cp2, rfl, _⟩ := h2.slice
  obtain ⟨A3', cp3, rfl, _⟩ := h3.slice
  obtain ⟨A4', cp4, rfl, _⟩ := h4.slice
  obtain ⟨B, cb, rfl, _⟩ := id hR
  clear h0 h1 h2 h3 h4 hs hR
  have HFI := Lib.hid (@founder_in r)
  have HSZ := Lib.hid (@sizes r)
  unfold rightH
  have G0 : Hid (Grew w (w.alloc (Obj.cells #[.slice A0' r.labels.length cp0, .slice A1' r.lines.length cp1, .slice A2' r.accounts.length cp2, .slice A3' r.guilds.length cp3, .slice A4' r.quotas.length cp4, .int .i64 r.orders, .int .i64 r.audits, .int .i64 r.rate, .int .i64 r.rounds] 28))) := Lib.hid (by unfold Grew; go_grown)
  have R0 : Hid ((w.alloc (Obj.cells #[.slice A0' r.labels.length cp0, .slice A1' r.lines.length cp1, .slice A2' r.accounts.length cp2, .slice A3' r.guilds.length cp3, .slice A4' r.quotas.length cp4, .int .i64 r.orders, .int .i64 r.audits, .int .i64 r.rate, .int .i64 r.rounds] 28)).heap[w.heap.size]? = some (rcell (.slice A0' r.labels.length cp0) (.slice A1' r.lines.length cp1) (.slice A2' r.accounts.length cp2) (.slice A3' r.guilds.length cp3) (.slice A4' r.quotas.length cp4) r.orders r.audits r.rate r.rounds)) := Lib.hid (heap_alloc_new w _)
  obtain ⟨r0, r1, r2, r3, r4, r5, r6, r7, r8⟩ := re_cells R0.out
  generalize mayBe r = b at *
  cases b with
  | false =>
    rw [if_neg (by simp)]
    go_enter Tryz.func40, Tryz.ntmps40
    go_wp2_with fail
    with_reducible refine (HRI.out _ G0.out).mono ?_
    rintro e w1 ⟨rfl, hg⟩
    have G1 := Lib.hid (G0.out.trans hg)
    clear hg r0 r1 r2 r3 r4 r5 r6 r7 r8
    go_wp2
    go_returns
    exact ⟨rfl, G1.out⟩
  | true =>
    rw [if_pos rfl]
    by_cases hlen : R.length = r.guilds.length
    · rw [if_pos hlen]
      have hb : ((R.length : Int) != (r.guilds.length : Int)) = false := by simp [hlen]
      have HLEN := Lib.hid hlen
      obtain ⟨ha8, h8, _⟩ := HSZ.out rfl
      have HA8 := Lib.hid ha8
      have HF : Hid (∀ k, k < r.guilds.length → 0 ≤ (gu r k).founder ∧ (gu r k).founder < r.accounts.length) := Lib.hid fun k hk => HFI.out rfl hk
      have HYES := Lib.hid (@rows_yes r R)
      have HNO := Lib.hid (fun k => @rows_no r R k)
      have HR8 : Hid (R.length ≤ 8) := Lib.hid (by rw [hlen]; exact h8)
      generalize (List.range R.length).all (rowOk r R) = res at *
      clear hlen h8 ha8 HFI HSZ
      go_enter Tryz.func40, Tryz.ntmps40
      go_wp2_with fail
      with_reducible refine (HRI.out _ G0.out).mono ?_
      rintro e w1 ⟨rfl, hg⟩
      have G1 := Lib.hid (G0.out.trans hg)
      have R1 := Lib.hid (keepB R0.out hg)
      clear hg r0 r1 r2 r3 r4 r5 r6 r7 r8
      obtain ⟨r0, r1, r2, r3, r4, r5, r6, r7, r8⟩ := re_cells R1.out
      go_wp2
      clear hb r0 r1 r2 r3 r4 r5 r6 r7 r8
      go_loopg [5, 6] R.length (fun g s5 s6 wx => ∃ (k : Nat), k + g = R.length ∧ s5 = .int .i64 k ∧ Hid (∀ j, j < k → rowOk r R j = true) ∧ Hid (Grew w1 wx))
      case atStart => exact ⟨0, Nat.zero_add _, rfl, Lib.hid (fun j h => absurd h (Nat.not_lt_zero _)), Lib.hid (Grew.refl _)⟩
      case round =>
        obtain ⟨k, hkg, rfl, HJ, HG⟩ := hrel
        cases gk with
        | zero =>
          have hkz : ¬ ((k : Int) < (R.length : Int)) := DN.m8 hkg
          have HR := Lib.hid (HYES.out fun i hi => HJ.out i (p4 hkg i hi))
          clear hkg
          go_wp2
          go_returns
          refine ⟨?_, G1.out.trans HG.out⟩
          rw [HR.out]
          try rfl
        | succ g =>
          have hkl : k < R.length := p2 hkg
          have hkz : (k : Int) < (R.length : Int) := p3 hkl
          have hkG : k < r.guilds.length := p1 hkg HLEN.out
          have hkg3 : (k : Int) < (r.guilds.length : Int) := p3 hkG
          have hkw : wrap64 ((k : Int) + 1) = (k : Int) + 1 := DN.m10 hkg HR8.out
          obtain ⟨ad, c2, A', c', e, hcl, hrow⟩ := (HRK.out.grew (G1.out.trans HG.out)).at hkl
          injection e with e1 _ e3
          subst e1 e3
          obtain ⟨ad3, cp3', e, hc3, f0, f1⟩ := Gs_at (HL3.out.grew (G1.out.trans HG.out)) (gu_get (k := k) hkG)
          injection e with e1 _ e3
          subst e1 e3
          obtain ⟨hf0, hf1⟩ := HF.out k hkG
          obtain ⟨kf, hkf⟩ := Int.eq_ofNat_of_zero_le hf0
          have HKF := Lib.hid hkf
          have HFL : Hid (kf < r.accounts.length) := Lib.hid (by rw [hkf] at hf1; exact Int.ofNat_lt.1 hf1)
          rw [hkf] at f1
          have C0 := Lib.hid hcl
          have HROW := Lib.hid hrow
          have F1 := Lib.hid f1
          have RX := Lib.hid (keepB R1.out HG.out)
          have HNK := Lib.hid (HNO.out k hkl)
          have HSS : Hid (rowOk r R k = true → ∀ j, j < k + 1 → rowOk r R j = true) := Lib.hid fun h j hj => by
            rcases Nat.lt_succ_iff_lt_or_eq.1 hj with h1 | h1
            · exact HJ.out j h1
            · rw [h1]; exact h
          have HKG := Lib.hid hkg
          have HRLN := Lib.hid (@row_len r R k)
          have HRFO : Hid (¬ cel (rk R k) kf = 2 → rowOk r R k = false) := Lib.hid fun h => row_founder (by rw [HKF.out]; exact h)
          have HRCE := Lib.hid (fun j => @row_cell r R k j)
          have HRYE : Hid ((rk R k).length = r.accounts.length → cel (rk R k) kf = 2 → (∀ j, j < (rk R k).length → noR (cel (rk R k) j) = false) → rowOk r R k = true) := Lib.hid fun q1 q2 q3 => row_yes q1 (by rw [HKF.out]; exact q2) q3
          clear hcl hrow f0 f1 hf0 hf1 hkf hkg hkl hkG
          by_cases hl : (rk R k).length = r.accounts.length
          · have hb : (((rk R k).length : Int) != (r.accounts.length : Int)) = false := by simp [hl]
            have hkr : (kf : Int) < ((rk R k).length : Int) := p3 (by rw [hl]; exact HFL.out)
            obtain ⟨adr, rfl, hcr⟩ := Is.at' HROW.out (k := kf) (by rw [hl]; exact HFL.out)
            have CR := Lib.hid hcr
            have HLL := Lib.hid hl
            obtain ⟨cv, hcv⟩ : ∃ cv, cel (rk R k) kf = cv := ⟨_, rfl⟩
            rw [hcv] at CR HRFO HRYE
            clear hcr hl hcv
            by_cases h2 : cv = 2
            · have H2 := Lib.hid h2
              have hvb : (cv != 2) = false := by simp [h2]
              clear h2
              go_wp2
              refine Facts.wp_region_text (by kernel_rfl) (by kernel_rfl) ?_
              apply Facts.Lex.exact [] _ (by kernel_rfl)
              · intro u W hC _
                unfold Facts.one
                go_simp
                first | exact ⟨Grew.refl _, rfl⟩ | rfl
              simp only [Act.put, List.setIfInBounds_toArray, List.set_cons_zero, List.set_cons_succ, Nat.zero_add]
              apply Facts.Lex.exact [] _ (by kernel_rfl)
              · intro u W hC _
                unfold Facts.one
                go_simp
                first | exact ⟨Grew.refl _, rfl⟩ | rfl
              simp only [Act.put, List.setIfInBounds_toArray, List.set_cons_zero, List.set_cons_succ, Nat.reduceAdd]
              apply Facts.Lex.exact [] _ (by kernel_rfl)
              · intro u W hC _
                unfold Facts.one
                go_simp
                first | exact ⟨Grew.refl _, rfl⟩ | rfl
              simp only [Act.put, List.setIfInBounds_toArray, List.set_cons_zero, List.set_cons_succ, Nat.reduceAdd]
              apply Facts.Lex.exact [] _ (by kernel_rfl)
              · intro u W hC _
                have k0 := cellB hC C0.out
                unfold Facts.one
                go_simp
                first | exact ⟨Grew.refl _, rfl⟩ | rfl
              simp only [Act.put, List.setIfInBounds_toArray, List.set_cons_zero, List.set_cons_succ, Nat.reduceAdd]
              apply Facts.Lex.exact [] _ (by kernel_rfl)
              · intro u W hC _
                unfold Facts.one
                go_simp
                first | exact ⟨Grew.refl _, rfl⟩ | rfl
              simp only [Act.put, List.setIfInBounds_toArray, List.set_cons_zero, List.set_cons_succ, Nat.reduceAdd]
              apply Facts.Lex.exact [] _ (by kernel_rfl)
              · intro u W hC _
                unfold Facts.one
                go_simp
                first | exact ⟨Grew.refl _, rfl⟩ | rfl
              simp only [Act.put, List.setIfInBounds_toArray, List.set_cons_zero, List.set_cons_succ, Nat.reduceAdd]
              apply Facts.Lex.exact [] _ (by kernel_rfl)
              · intro u W hC _
                obtain ⟨r0, r1, r2, r3, r4, r5, r6, r7, r8⟩ := re_cells (keepB RX.out hC)
                unfold Facts.one
                go_simp
                first | exact ⟨Grew.refl _, rfl⟩ | rfl
              simp only [Act.put, List.setIfInBounds_toArray, List.set_cons_zero, List.set_cons_succ, Nat.reduceAdd]
              apply Facts.Lex.exact [] _ (by kernel_rfl)
              · intro u W hC _
                unfold Facts.one
                go_simp
                first | exact ⟨Grew.refl _, rfl⟩ | rfl
              simp only [Act.put, List.setIfInBounds_toArray, List.set_cons_zero, List.set_cons_succ, Nat.reduceAdd]
              apply Facts.Lex.exact [] _ (by kernel_rfl)
              · intro u W hC _
                unfold Facts.one
                go_simp
                first | exact ⟨Grew.refl _, rfl⟩ | rfl
              simp only [Act.put, List.setIfInBounds_toArray, List.set_cons_zero, List.set_cons_succ, Nat.reduceAdd]
              apply Facts.Lex.exact [] _ (by kernel_rfl)
              · intro u W hC _
                unfold Facts.one
                go_simp
                first | exact ⟨Grew.refl _, rfl⟩ | rfl
              simp only [Act.put, List.setIfInBounds_toArray, List.set_cons_zero, List.set_cons_succ, Nat.reduceAdd]
              apply Facts.Lex.exact [] _ (by kernel_rfl)
              · intro u W hC _
                unfold Facts.one
                go_simp
                first | exact ⟨Grew.refl _, rfl⟩ | rfl
              simp only [Act.put, List.setIfInBounds_toArray, List.set_cons_zero, List.set_cons_succ, Nat.reduceAdd]
              apply Facts.Lex.exact [] _ (by kernel_rfl)
              · intro u W hC _
                unfold Facts.one
                go_simp
                first | exact ⟨Grew.refl _, rfl⟩ | rfl
              simp only [Act.put, List.setIfInBounds_toArray, List.set_cons_zero, List.set_cons_succ, Nat.reduceAdd]
              apply Facts.Lex.exact [] _ (by kernel_rfl)
              · intro u W hC _
                unfold Facts.one
                go_simp
                first | exact ⟨Grew.refl _, rfl⟩ | rfl
              simp only [Act.put, List.setIfInBounds_toArray, List.set_cons_zero, List.set_cons_succ, Nat.reduceAdd]
              apply Facts.Lex.exact [] _ (by kernel_rfl)
              · intro u W hC _
                have k0 := cellB hC C0.out
                unfold Facts.one
                go_simp
                first | exact ⟨Grew.refl _, rfl⟩ | rfl
              simp only [Act.put, List.setIfInBounds_toArray, List.set_cons_zero, List.set_cons_succ, Nat.reduceAdd]
              apply Facts.Lex.exact [] _ (by kernel_rfl)
              · intro u W hC _
                unfold Facts.one
                go_simp
                first | exact ⟨Grew.refl _, rfl⟩ | rfl
              simp only [Act.put, List.setIfInBounds_toArray, List.set_cons_zero, List.set_cons_succ, Nat.reduceAdd]
              apply Facts.Lex.exact [] _ (by kernel_rfl)
              · intro u W hC _
                obtain ⟨r0, r1, r2, r3, r4, r5, r6, r7, r8⟩ := re_cells (keepB RX.out hC)
                unfold Facts.one
                go_simp
                first | exact ⟨Grew.refl _, rfl⟩ | rfl
              simp only [Act.put, List.setIfInBounds_toArray, List.set_cons_zero, List.set_cons_succ, Nat.reduceAdd]
              apply Facts.Lex.exact [] _ (by kernel_rfl)
              · intro u W hC _
                unfold Facts.one
                go_simp
                first | exact ⟨Grew.refl _, rfl⟩ | rfl
              simp only [Act.put, List.setIfInBounds_toArray, List.set_cons_zero, List.set_cons_succ, Nat.reduceAdd]
              apply Facts.Lex.exact [] _ (by kernel_rfl)
              · intro u W hC _
                unfold Facts.one
                go_simp
                first | exact ⟨Grew.refl _, rfl⟩ | rfl
              simp only [Act.put, List.setIfInBounds_toArray, List.set_cons_zero, List.set_cons_succ, Nat.reduceAdd]
              apply Facts.Lex.exact [] _ (by kernel_rfl)
              · intro u W hC _
                unfold Facts.one
                go_simp
                first | exact ⟨Grew.refl _, rfl⟩ | rfl
              simp only [Act.put, List.setIfInBounds_toArray, List.set_cons_zero, List.set_cons_succ, Nat.reduceAdd]
              apply Facts.Lex.exact [] _ (by kernel_rfl)
              · intro u W hC _
                have k1 := cellB hC F1.out
                unfold Facts.one
                go_simp
                first | exact ⟨Grew.refl _, rfl⟩ | rfl
              simp only [Act.put, List.setIfInBounds_toArray, List.set_cons_zero, List.set_cons_succ, Nat.reduceAdd]
              apply Facts.Lex.exact [] _ (by kernel_rfl)
              · intro u W hC _
                unfold Facts.one
                go_simp
                first | exact ⟨Grew.refl _, rfl⟩ | rfl
              simp only [Act.put, List.setIfInBounds_toArray, List.set_cons_zero, List.set_cons_succ, Nat.reduceAdd]
              apply Facts.Lex.exact [] _ (by kernel_rfl)
              · intro u W hC _
                have k2 := cellB hC CR.out
                unfold Facts.one
                go_simp
                first | exact ⟨Grew.refl _, rfl⟩ | rfl
              simp only [Act.put, List.setIfInBounds_toArray, List.set_cons_zero, List.set_cons_succ, Nat.reduceAdd]
              apply Facts.Lex.exact [] _ (by kernel_rfl)
              · intro u W hC _
                unfold Facts.one
                go_simp
                first | exact ⟨Grew.refl _, rfl⟩ | rfl
              simp only [Act.put, List.setIfInBounds_toArray, List.set_cons_zero, List.set_cons_succ, Nat.reduceAdd]
              apply Facts.Lex.exact [] _ (by kernel_rfl)
              · intro u W hC _
                unfold Facts.one
                go_simp
                first | exact ⟨Grew.refl _, rfl⟩ | rfl
              simp only [Act.put, List.setIfInBounds_toArray, List.set_cons_zero, List.set_cons_succ, Nat.reduceAdd]
              refine Facts.Lex.done fun u W2 hC hL => ?_
              have G2 := Lib.hid (HG.out.trans hC)
              have C2 := Lib.hid (cellB hC C0.out)
              have HC2 := Lib.hid hC
              clear hC hL hb hvb hkr
              go_wp2
              go_loopg [6] (rk R k).length (fun q s6 wx => ∃ (j : Nat), j + q = (rk R k).length ∧ s6 = .int .i64 j ∧ Hid (∀ i, i < j → noR (cel (rk R k) i) = false) ∧ Hid (Grew W2 wx))
              case atStart => exact ⟨0, Nat.zero_add _, rfl, Lib.hid (fun i h => absurd h (Nat.not_lt_zero _)), Lib.hid (Grew.refl _)⟩
              case round =>
                obtain ⟨j, hjg, rfl, HJ2, HG2⟩ := hrel
                have c0' := cellB HG2.out C2.out
                cases gk with
                | zero =>
                  have hjz : ¬ ((j : Int) < ((rk R k).length : Int)) := DN.m8 hjg
                  have HE := Lib.hid (HSS.out (HRYE.out HLL.out H2.out fun i hi => HJ2.out i (p4 hjg i hi)))
                  have HG3 := Lib.hid (G2.out.trans HG2.out)
                  clear hjg
                  go_wp2
                  go_roundg g
                  case measure => exact Nat.lt_succ_self _
                  case rel => exact ⟨k + 1, DN.m4 HKG.out, by first | rfl | simp [hkw], HE, HG3⟩
                | succ g2 =>
                  have hjl : j < (rk R k).length := p2 hjg
                  have hjz : (j : Int) < ((rk R k).length : Int) := p3 hjl
                  have hjw : wrap64 ((j : Int) + 1) = (j : Int) + 1 := DN.m10 hjg (by rw [HLL.out]; exact HA8.out)
                  obtain ⟨ar, e, hca⟩ := Is.at' (HROW.out.grew (HC2.out.trans HG2.out)) (k := j) hjl
                  cases e
                  have HJG := Lib.hid hjg
                  have HCE := Lib.hid (HRCE.out j hjl)
                  have HST : Hid (noR (cel (rk R k) j) = false → ∀ i, i < j + 1 → noR (cel (rk R k) i) = false) := Lib.hid fun h i hi => by
                    rcases Nat.lt_succ_iff_lt_or_eq.1 hi with h1 | h1
                    · exact HJ2.out i h1
                    · rw [h1]; exact h
                  clear hjg hjl
                  generalize cel (rk R k) j = x at *
                  rcases noR_cases x with ⟨q1, q3⟩ | ⟨q1, q2, q3⟩ | ⟨q1, q2, q3⟩
                  · have HR := Lib.hid (HNK.out (HCE.out q3))
                    clear q3
                    go_wp2
                    go_returns
                    refine ⟨?_, G1.out.trans (G2.out.trans HG2.out)⟩
                    rw [HR.out]
                    try rfl
                  · have HR := Lib.hid (HNK.out (HCE.out q3))
                    clear q3
                    go_wp2
                    go_returns
                    refine ⟨?_, G1.out.trans (G2.out.trans HG2.out)⟩
                    rw [HR.out]
                    try rfl
                  · have HS4 := Lib.hid (HST.out q3)
                    clear q3
                    go_wp2
                    go_roundg g2
                    case measure => exact Nat.lt_succ_self _
                    case rel => exact ⟨j + 1, DN.m4 HJG.out, by first | rfl | simp [hjw], HS4, HG2⟩
            · have HR := Lib.hid (HNK.out (HRFO.out h2))
              have hvb : (cv != 2) = true := by simpa using h2
              clear h2
              go_wp2
              refine Facts.wp_region_text (by kernel_rfl) (by kernel_rfl) ?_
              apply Facts.Lex.exact [] _ (by kernel_rfl)
              · intro u W hC _
                unfold Facts.one
                go_simp
                first | exact ⟨Grew.refl _, rfl⟩ | rfl
              simp only [Act.put, List.setIfInBounds_toArray, List.set_cons_zero, List.set_cons_succ, Nat.zero_add]
              apply Facts.Lex.exact [] _ (by kernel_rfl)
              · intro u W hC _
                unfold Facts.one
                go_simp
                first | exact ⟨Grew.refl _, rfl⟩ | rfl
              simp only [Act.put, List.setIfInBounds_toArray, List.set_cons_zero, List.set_cons_succ, Nat.reduceAdd]
              apply Facts.Lex.exact [] _ (by kernel_rfl)
              · intro u W hC _
                unfold Facts.one
                go_simp
                first | exact ⟨Grew.refl _, rfl⟩ | rfl
              simp only [Act.put, List.setIfInBounds_toArray, List.set_cons_zero, List.set_cons_succ, Nat.reduceAdd]
              apply Facts.Lex.exact [] _ (by kernel_rfl)
              · intro u W hC _
                have k0 := cellB hC C0.out
                unfold Facts.one
                go_simp
                first | exact ⟨Grew.refl _, rfl⟩ | rfl
              simp only [Act.put, List.setIfInBounds_toArray, List.set_cons_zero, List.set_cons_succ, Nat.reduceAdd]
              apply Facts.Lex.exact [] _ (by kernel_rfl)
              · intro u W hC _
                unfold Facts.one
                go_simp
                first | exact ⟨Grew.refl _, rfl⟩ | rfl
              simp only [Act.put, List.setIfInBounds_toArray, List.set_cons_zero, List.set_cons_succ, Nat.reduceAdd]
              apply Facts.Lex.exact [] _ (by kernel_rfl)
              · intro u W hC _
                unfold Facts.one
                go_simp
                first | exact ⟨Grew.refl _, rfl⟩ | rfl
              simp only [Act.put, List.setIfInBounds_toArray, List.set_cons_zero, List.set_cons_succ, Nat.reduceAdd]
              apply Facts.Lex.exact [] _ (by kernel_rfl)
              · intro u W hC _
                obtain ⟨r0, r1, r2, r3, r4, r5, r6, r7, r8⟩ := re_cells (keepB RX.out hC)
                unfold Facts.one
                go_simp
                first | exact ⟨Grew.refl _, rfl⟩ | rfl
              simp only [Act.put, List.setIfInBounds_toArray, List.set_cons_zero, List.set_cons_succ, Nat.reduceAdd]
              apply Facts.Lex.exact [] _ (by kernel_rfl)
              · intro u W hC _
                unfold Facts.one
                go_simp
                first | exact ⟨Grew.refl _, rfl⟩ | rfl
              simp only [Act.put, List.setIfInBounds_toArray, List.set_cons_zero, List.set_cons_succ, Nat.reduceAdd]
              apply Facts.Lex.exact [] _ (by kernel_rfl)
              · intro u W hC _
                unfold Facts.one
                go_simp
                first | exact ⟨Grew.refl _, rfl⟩ | rfl
              simp only [Act.put, List.setIfInBounds_toArray, List.set_cons_zero, List.set_cons_succ, Nat.reduceAdd]
              apply Facts.Lex.exact [] _ (by kernel_rfl)
              · intro u W hC _
                unfold Facts.one
                go_simp
                first | exact ⟨Grew.refl _, rfl⟩ | rfl
              simp only [Act.put, List.setIfInBounds_toArray, List.set_cons_zero, List.set_cons_succ, Nat.reduceAdd]
              apply Facts.Lex.exact [] _ (by kernel_rfl)
              · intro u W hC _
                unfold Facts.one
                go_simp
                first | exact ⟨Grew.refl _, rfl⟩ | rfl
              simp only [Act.put, List.setIfInBounds_toArray, List.set_cons_zero, List.set_cons_succ, Nat.reduceAdd]
              apply Facts.Lex.exact [] _ (by kernel_rfl)
              · intro u W hC _
                unfold Facts.one
                go_simp
                first | exact ⟨Grew.refl _, rfl⟩ | rfl
              simp only [Act.put, List.setIfInBounds_toArray, List.set_cons_zero, List.set_cons_succ, Nat.reduceAdd]
              apply Facts.Lex.exact [] _ (by kernel_rfl)
              · intro u W hC _
                unfold Facts.one
                go_simp
                first | exact ⟨Grew.refl _, rfl⟩ | rfl
              simp only [Act.put, List.setIfInBounds_toArray, List.set_cons_zero, List.set_cons_succ, Nat.reduceAdd]
              apply Facts.Lex.exact [] _ (by kernel_rfl)
              · intro u W hC _
                have k0 := cellB hC C0.out
                unfold Facts.one
                go_simp
                first | exact ⟨Grew.refl _, rfl⟩ | rfl
              simp only [Act.put, List.setIfInBounds_toArray, List.set_cons_zero, List.set_cons_succ, Nat.reduceAdd]
              apply Facts.Lex.exact [] _ (by kernel_rfl)
              · intro u W hC _
                unfold Facts.one
                go_simp
                first | exact ⟨Grew.refl _, rfl⟩ | rfl
              simp only [Act.put, List.setIfInBounds_toArray, List.set_cons_zero, List.set_cons_succ, Nat.reduceAdd]
              apply Facts.Lex.exact [] _ (by kernel_rfl)
              · intro u W hC _
                obtain ⟨r0, r1, r2, r3, r4, r5, r6, r7, r8⟩ := re_cells (keepB RX.out hC)
                unfold Facts.one
                go_simp
                first | exact ⟨Grew.refl _, rfl⟩ | rfl
              simp only [Act.put, List.setIfInBounds_toArray, List.set_cons_zero, List.set_cons_succ, Nat.reduceAdd]
              apply Facts.Lex.exact [] _ (by kernel_rfl)
              · intro u W hC _
                unfold Facts.one
                go_simp
                first | exact ⟨Grew.refl _, rfl⟩ | rfl
              simp only [Act.put, List.setIfInBounds_toArray, List.set_cons_zero, List.set_cons_succ, Nat.reduceAdd]
              apply Facts.Lex.exact [] _ (by kernel_rfl)
              · intro u W hC _
                unfold Facts.one
                go_simp
                first | exact ⟨Grew.refl _, rfl⟩ | rfl
              simp only [Act.put, List.setIfInBounds_toArray, List.set_cons_zero, List.set_cons_succ, Nat.reduceAdd]
              apply Facts.Lex.exact [] _ (by kernel_rfl)
              · intro u W hC _
                unfold Facts.one
                go_simp
                first | exact ⟨Grew.refl _, rfl⟩ | rfl
              simp only [Act.put, List.setIfInBounds_toArray, List.set_cons_zero, List.set_cons_succ, Nat.reduceAdd]
              apply Facts.Lex.exact [] _ (by kernel_rfl)
              · intro u W hC _
                have k1 := cellB hC F1.out
                unfold Facts.one
                go_simp
                first | exact ⟨Grew.refl _, rfl⟩ | rfl
              simp only [Act.put, List.setIfInBounds_toArray, List.set_cons_zero, List.set_cons_succ, Nat.reduceAdd]
              apply Facts.Lex.exact [] _ (by kernel_rfl)
              · intro u W hC _
                unfold Facts.one
                go_simp
                first | exact ⟨Grew.refl _, rfl⟩ | rfl
              simp only [Act.put, List.setIfInBounds_toArray, List.set_cons_zero, List.set_cons_succ, Nat.reduceAdd]
              apply Facts.Lex.exact [] _ (by kernel_rfl)
              · intro u W hC _
                have k2 := cellB hC CR.out
                unfold Facts.one
                go_simp
                first | exact ⟨Grew.refl _, rfl⟩ | rfl
              simp only [Act.put, List.setIfInBounds_toArray, List.set_cons_zero, List.set_cons_succ, Nat.reduceAdd]
              apply Facts.Lex.exact [] _ (by kernel_rfl)
              · intro u W hC _
                unfold Facts.one
                go_simp
                first | exact ⟨Grew.refl _, rfl⟩ | rfl
              simp only [Act.put, List.setIfInBounds_toArray, List.set_cons_zero, List.set_cons_succ, Nat.reduceAdd]
              apply Facts.Lex.exact [] _ (by kernel_rfl)
              · intro u W hC _
                unfold Facts.one
                go_simp
                first | exact ⟨Grew.refl _, rfl⟩ | rfl
              simp only [Act.put, List.setIfInBounds_toArray, List.set_cons_zero, List.set_cons_succ, Nat.reduceAdd]
              refine Facts.Lex.done fun u W2 hC hL => ?_
              have G2 := Lib.hid ((G1.out.trans HG.out).trans hC)
              clear hC hL
              go_wp2
              go_returns
              refine ⟨?_, G2.out⟩
              rw [HR.out]
              try rfl
          · have hb : (((rk R k).length : Int) != (r.accounts.length : Int)) = true := by
              rw [bne_iff_ne]
              exact fun h => hl (Int.ofNat_inj.1 h)
            have HR := Lib.hid (HNK.out (HRLN.out hl))
            clear hl
            go_wp2
            refine Facts.wp_region_text (by kernel_rfl) (by kernel_rfl) ?_
            apply Facts.Lex.exact [] _ (by kernel_rfl)
            · intro u W hC _
              unfold Facts.one
              go_simp
              first | exact ⟨Grew.refl _, rfl⟩ | rfl
            simp only [Act.put, List.setIfInBounds_toArray, List.set_cons_zero, List.set_cons_succ, Nat.zero_add]
            apply Facts.Lex.exact [] _ (by kernel_rfl)
            · intro u W hC _
              unfold Facts.one
              go_simp
              first | exact ⟨Grew.refl _, rfl⟩ | rfl
            simp only [Act.put, List.setIfInBounds_toArray, List.set_cons_zero, List.set_cons_succ, Nat.reduceAdd]
            apply Facts.Lex.exact [] _ (by kernel_rfl)
            · intro u W hC _
              unfold Facts.one
              go_simp
              first | exact ⟨Grew.refl _, rfl⟩ | rfl
            simp only [Act.put, List.setIfInBounds_toArray, List.set_cons_zero, List.set_cons_succ, Nat.reduceAdd]
            apply Facts.Lex.exact [] _ (by kernel_rfl)
            · intro u W hC _
              have k0 := cellB hC C0.out
              unfold Facts.one
              go_simp
              first | exact ⟨Grew.refl _, rfl⟩ | rfl
            simp only [Act.put, List.setIfInBounds_toArray, List.set_cons_zero, List.set_cons_succ, Nat.reduceAdd]
            apply Facts.Lex.exact [] _ (by kernel_rfl)
            · intro u W hC _
              unfold Facts.one
              go_simp
              first | exact ⟨Grew.refl _, rfl⟩ | rfl
            simp only [Act.put, List.setIfInBounds_toArray, List.set_cons_zero, List.set_cons_succ, Nat.reduceAdd]
            apply Facts.Lex.exact [] _ (by kernel_rfl)
            · intro u W hC _
              unfold Facts.one
              go_simp
              first | exact ⟨Grew.refl _, rfl⟩ | rfl
            simp only [Act.put, List.setIfInBounds_toArray, List.set_cons_zero, List.set_cons_succ, Nat.reduceAdd]
            apply Facts.Lex.exact [] _ (by kernel_rfl)
            · intro u W hC _
              obtain ⟨r0, r1, r2, r3, r4, r5, r6, r7, r8⟩ := re_cells (keepB RX.out hC)
              unfold Facts.one
              go_simp
              first | exact ⟨Grew.refl _, rfl⟩ | rfl
            simp only [Act.put, List.setIfInBounds_toArray, List.set_cons_zero, List.set_cons_succ, Nat.reduceAdd]
            apply Facts.Lex.exact [] _ (by kernel_rfl)
            · intro u W hC _
              unfold Facts.one
              go_simp
              first | exact ⟨Grew.refl _, rfl⟩ | rfl
            simp only [Act.put, List.setIfInBounds_toArray, List.set_cons_zero, List.set_cons_succ, Nat.reduceAdd]
            apply Facts.Lex.exact [] _ (by kernel_rfl)
            · intro u W hC _
              unfold Facts.one
              go_simp
              first | exact ⟨Grew.refl _, rfl⟩ | rfl
            simp only [Act.put, List.setIfInBounds_toArray, List.set_cons_zero, List.set_cons_succ, Nat.reduceAdd]
            apply Facts.Lex.exact [] _ (by kernel_rfl)
            · intro u W hC _
              unfold Facts.one
              go_simp
              first | exact ⟨Grew.refl _, rfl⟩ | rfl
            simp only [Act.put, List.setIfInBounds_toArray, List.set_cons_zero, List.set_cons_succ, Nat.reduceAdd]
            apply Facts.Lex.exact [] _ (by kernel_rfl)
            · intro u W hC _
              unfold Facts.one
              go_simp
              first | exact ⟨Grew.refl _, rfl⟩ | rfl
            simp only [Act.put, List.setIfInBounds_toArray, List.set_cons_zero, List.set_cons_succ, Nat.reduceAdd]
            apply Facts.Lex.exact [] _ (by kernel_rfl)
            · intro u W hC _
              unfold Facts.one
              go_simp
              first | exact ⟨Grew.refl _, rfl⟩ | rfl
            simp only [Act.put, List.setIfInBounds_toArray, List.set_cons_zero, List.set_cons_succ, Nat.reduceAdd]
            apply Facts.Lex.exact [] _ (by kernel_rfl)
            · intro u W hC _
              unfold Facts.one
              go_simp
              first | exact ⟨Grew.refl _, rfl⟩ | rfl
            simp only [Act.put, List.setIfInBounds_toArray, List.set_cons_zero, List.set_cons_succ, Nat.reduceAdd]
            apply Facts.Lex.exact [] _ (by kernel_rfl)
            · intro u W hC _
              unfold Facts.one
              go_simp
              first | exact ⟨Grew.refl _, rfl⟩ | rfl
            simp only [Act.put, List.setIfInBounds_toArray, List.set_cons_zero, List.set_cons_succ, Nat.reduceAdd]
            apply Facts.Lex.exact [] _ (by kernel_rfl)
            · intro u W hC _
              unfold Facts.one
              go_simp
              first | exact ⟨Grew.refl _, rfl⟩ | rfl
            simp only [Act.put, List.setIfInBounds_toArray, List.set_cons_zero, List.set_cons_succ, Nat.reduceAdd]
            apply Facts.Lex.exact [] _ (by kernel_rfl)
            · intro u W hC _
              unfold Facts.one
              go_simp
              first | exact ⟨Grew.refl _, rfl⟩ | rfl
            simp only [Act.put, List.setIfInBounds_toArray, List.set_cons_zero, List.set_cons_succ, Nat.reduceAdd]
            apply Facts.Lex.exact [] _ (by kernel_rfl)
            · intro u W hC _
              unfold Facts.one
              go_simp
              first | exact ⟨Grew.refl _, rfl⟩ | rfl
            simp only [Act.put, List.setIfInBounds_toArray, List.set_cons_zero, List.set_cons_succ, Nat.reduceAdd]
            apply Facts.Lex.exact [] _ (by kernel_rfl)
            · intro u W hC _
              unfold Facts.one
              go_simp
              first | exact ⟨Grew.refl _, rfl⟩ | rfl
            simp only [Act.put, List.setIfInBounds_toArray, List.set_cons_zero, List.set_cons_succ, Nat.reduceAdd]
            apply Facts.Lex.exact [] _ (by kernel_rfl)
            · intro u W hC _
              unfold Facts.one
              go_simp
              first | exact ⟨Grew.refl _, rfl⟩ | rfl
            simp only [Act.put, List.setIfInBounds_toArray, List.set_cons_zero, List.set_cons_succ, Nat.reduceAdd]
            apply Facts.Lex.exact [] _ (by kernel_rfl)
            · intro u W hC _
              unfold Facts.one
              go_simp
              first | exact ⟨Grew.refl _, rfl⟩ | rfl
            simp only [Act.put, List.setIfInBounds_toArray, List.set_cons_zero, List.set_cons_succ, Nat.reduceAdd]
            apply Facts.Lex.exact [] _ (by kernel_rfl)
            · intro u W hC _
              unfold Facts.one
              go_simp
              first | exact ⟨Grew.refl _, rfl⟩ | rfl
            simp only [Act.put, List.setIfInBounds_toArray, List.set_cons_zero, List.set_cons_succ, Nat.reduceAdd]
            apply Facts.Lex.exact [] _ (by kernel_rfl)
            · intro u W hC _
              unfold Facts.one
              go_simp
              first | exact ⟨Grew.refl _, rfl⟩ | rfl
            simp only [Act.put, List.setIfInBounds_toArray, List.set_cons_zero, List.set_cons_succ, Nat.reduceAdd]
            apply Facts.Lex.exact [] _ (by kernel_rfl)
            · intro u W hC _
              unfold Facts.one
              go_simp
              first | exact ⟨Grew.refl _, rfl⟩ | rfl
            simp only [Act.put, List.setIfInBounds_toArray, List.set_cons_zero, List.set_cons_succ, Nat.reduceAdd]
            apply Facts.Lex.exact [] _ (by kernel_rfl)
            · intro u W hC _
              unfold Facts.one
              go_simp
              first | exact ⟨Grew.refl _, rfl⟩ | rfl
            simp only [Act.put, List.setIfInBounds_toArray, List.set_cons_zero, List.set_cons_succ, Nat.reduceAdd]
            refine Facts.Lex.done fun u W2 hC hL => ?_
            have G2 := Lib.hid ((G1.out.trans HG.out).trans hC)
            clear hC hL
            go_wp2
            go_returns
            refine ⟨?_, G2.out⟩
            rw [HR.out]
            try rfl
    · rw [if_neg hlen]
      have hb : ((R.length : Int) != (r.guilds.length : Int)) = true := by simp; omega
      clear hlen
      go_enter Tryz.func40, Tryz.ntmps40
      go_wp2_with fail
      with_reducible refine (HRI.out _ G0.out).mono ?_
      rintro e w1 ⟨rfl, hg⟩
      have G1 := Lib.hid (G0.out.trans hg)
      have R1 := Lib.hid (keepB R0.out hg)
      clear hg r0 r1 r2 r3 r4 r5 r6 r7 r8
      obtain ⟨r0, r1, r2, r3, r4, r5, r6, r7, r8⟩ := re_cells R1.out
      go_wp2
      go_returns
      exact ⟨rfl, G1.out⟩
end Go.Proofs.YtmegdgeiikhflaaGreat.DH
