/-
  Inviting, raising and expelling, as the program does it.
  Conditions: the accounts' texts' sizes.
-/
import Derived.Test.YtmegdgeiikhflaaGreatHX
namespace Go.Proofs.YtmegdgeiikhflaaGreat.HY
open Go Go.RowKit Go.Lib Go.Proofs.YtmegdgeiikhflaaGreat Go.Proofs.YtmegdgeiikhflaaGreat.Facts Go.Proofs.YtmegdgeiikhflaaGreat.Plain Go.Proofs.YtmegdgeiikhflaaGreat.Ints Go.Proofs.YtmegdgeiikhflaaGreat.RRows Go.Proofs.YtmegdgeiikhflaaGreat.LBox Go.Proofs.YtmegdgeiikhflaaGreat.RSmall Go.Proofs.YtmegdgeiikhflaaGreat.RFind Go.Proofs.YtmegdgeiikhflaaGreat.RAll Go.Proofs.YtmegdgeiikhflaaGreat.RRules Go.Proofs.YtmegdgeiikhflaaGreat.RRule3 Go.Proofs.YtmegdgeiikhflaaGreat.RRight Go.Proofs.YtmegdgeiikhflaaGreat.HA Go.Proofs.YtmegdgeiikhflaaGreat.HB Go.Proofs.YtmegdgeiikhflaaGreat.HG Go.Proofs.YtmegdgeiikhflaaGreat.HC Go.Proofs.YtmegdgeiikhflaaGreat.HD Go.Proofs.YtmegdgeiikhflaaGreat.HN Go.Proofs.YtmegdgeiikhflaaGreat.HW Go.Proofs.YtmegdgeiikhflaaGreat.HX

theorem clo_I (g n : Int) (w : World) : Calls Tryz.prog 103 #[.int .i64 g, .int .i64 n] w fun e w' => e = .returned (.tuple #[.int .i64 (ruleI n).1, .int .i64 (ruleI n).2]) ∧ Grew w w' := by
  by_cases h : n = 0
  · rw [show ruleI n = (1, 0) from if_pos h]
    subst h
    go_enter Tryz.func103, Tryz.ntmps103
    go_wp2
    go_returns
    exact ⟨rfl, Grew.refl _⟩
  · rw [show ruleI n = (0, 4) from if_neg h]
    have hb : (n != 0) = true := by simpa using h
    clear h
    go_enter Tryz.func103, Tryz.ntmps103
    go_wp2
    go_returns
    exact ⟨rfl, Grew.refl _⟩
theorem clo_R (g n : Int) (w : World) : Calls Tryz.prog 104 #[.int .i64 g, .int .i64 n] w fun e w' => e = .returned (.tuple #[.int .i64 (ruleR n).1, .int .i64 (ruleR n).2]) ∧ Grew w w' := by
  by_cases h : n = 0
  · rw [show ruleR n = (0, 3) from if_pos h]
    subst h
    go_enter Tryz.func104, Tryz.ntmps104
    go_wp2
    go_returns
    exact ⟨rfl, Grew.refl _⟩
  · have hb : (n == 0) = false := by simpa using h
    by_cases h2 : n = 2
    · rw [show ruleR n = (0, 4) from (if_neg h).trans (if_pos h2)]
      clear h hb
      subst h2
      go_enter Tryz.func104, Tryz.ntmps104
      go_wp2
      go_returns
      exact ⟨rfl, Grew.refl _⟩
    · rw [show ruleR n = (2, 0) from (if_neg h).trans (if_neg h2)]
      have hb2 : (n == 2) = false := by simpa using h2
      clear h h2
      go_enter Tryz.func104, Tryz.ntmps104
      go_wp2
      go_returns
      exact ⟨rfl, Grew.refl _⟩
set_option maxRecDepth 100000 in
set_option maxHeartbeats 4000000 in
theorem clo_E (r : Re) (g : Nat) (who n : Int) (P R' : Nat) (v0 v1 v2 v3 v4 : Value) (w : World) (hg : g < r.guilds.length) (h3 : Gs w v3 r.guilds) (hr : w.heap[R']? = some (rcell v0 v1 v2 v3 v4 r.orders r.audits r.rate r.rounds)) (hp : w.cell? ⟨P, 0, none⟩ = some (.int .i64 who)) :
    Calls Tryz.prog 105 #[.int .i64 (g : Int), .int .i64 n, .pointer (some ⟨P, 0, none⟩), .pointer (some ⟨R', 0, none⟩)] w fun e w' => e = .returned (.tuple #[.int .i64 (rE r who g n).1, .int .i64 (rE r who g n).2]) ∧ Grew w w' := by
  unfold rE
  by_cases h : n = 0
  · rw [show ruleE (gu r g).founder who n = (0, 3) from if_pos h]
    subst h
    go_enter Tryz.func105, Tryz.ntmps105
    go_wp2
    go_returns
    exact ⟨rfl, Grew.refl _⟩
  · have hb : (n == 0) = false := by simpa using h
    obtain ⟨ad, c2, e, hc2, c0, c1⟩ := Gs_at h3 (gu_get hg)
    subst e
    have hk1 : (g : Int) < (r.guilds.length : Int) := by omega
    have C1 := Lib.hid c1
    have R0 := Lib.hid hr
    have P0 := Lib.hid hp
    clear c0 c1 h3 hr hp hg
    generalize gu r g = x at *
    obtain ⟨bit, fo⟩ := x
    simp only at C1
    obtain ⟨res, hres⟩ : ∃ res, res = ruleE fo who n := ⟨_, rfl⟩
    show Calls Tryz.prog 105 _ _ fun e w' => e = .returned (.tuple #[.int .i64 (ruleE fo who n).1, .int .i64 (ruleE fo who n).2]) ∧ Grew w w'
    rw [← hres]
    by_cases h2 : who = fo
    · subst h2
      rw [hres, show ruleE who who n = (0, 5) from (if_neg h).trans (if_pos rfl)]
      clear h hres
      go_enter Tryz.func105, Tryz.ntmps105
      go_wp2
      refine Facts.wp_region_text (by kernel_rfl) (by kernel_rfl) ?_
      apply Facts.Lex.exact [] _ (by kernel_rfl)
      · intro u W hC _
        have p0 := cellB hC P0.out
        unfold Facts.one
        go_simp
        first | exact ⟨Grew.refl _, rfl⟩ | rfl
      simp only [Act.put, List.setIfInBounds_toArray, List.set_cons_zero, List.set_cons_succ, Nat.zero_add]
      apply Facts.Lex.exact [] _ (by kernel_rfl)
      · intro u W hC _
        unfold Facts.one
        go_simp
        first | exact ⟨Grew.refl _, rfl⟩ | rfl
      simp only [Act.put, List.setIfInBounds_toArray, List.set_cons_zero, List.set_cons_succ, Nat.reduceAdd]
      apply Facts.Lex.exact [] _ (by kernel_rfl)
      · intro u W hC _
        obtain ⟨r0, r1, r2, r3, r4, r5, r6, r7, r8⟩ := re_cells (keepB R0.out hC)
        unfold Facts.one
        go_simp
        first | exact ⟨Grew.refl _, rfl⟩ | rfl
      simp only [Act.put, List.setIfInBounds_toArray, List.set_cons_zero, List.set_cons_succ, Nat.reduceAdd]
      apply Facts.Lex.exact [] _ (by kernel_rfl)
      · intro u W hC _
        unfold Facts.one
        go_simp
        first | exact ⟨Grew.refl _, rfl⟩ | rfl
      simp only [Act.put, List.setIfInBounds_toArray, List.set_cons_zero, List.set_cons_succ, Nat.reduceAdd]
      apply Facts.Lex.exact [] _ (by kernel_rfl)
      · intro u W hC _
        unfold Facts.one
        go_simp
        first | exact ⟨Grew.refl _, rfl⟩ | rfl
      simp only [Act.put, List.setIfInBounds_toArray, List.set_cons_zero, List.set_cons_succ, Nat.reduceAdd]
      apply Facts.Lex.exact [] _ (by kernel_rfl)
      · intro u W hC _
        unfold Facts.one
        go_simp
        first | exact ⟨Grew.refl _, rfl⟩ | rfl
      simp only [Act.put, List.setIfInBounds_toArray, List.set_cons_zero, List.set_cons_succ, Nat.reduceAdd]
      apply Facts.Lex.exact [] _ (by kernel_rfl)
      · intro u W hC _
        have c1 := cellB hC C1.out
        unfold Facts.one
        go_simp
        first | exact ⟨Grew.refl _, rfl⟩ | rfl
      simp only [Act.put, List.setIfInBounds_toArray, List.set_cons_zero, List.set_cons_succ, Nat.reduceAdd]
      apply Facts.Lex.exact [] _ (by kernel_rfl)
      · intro u W hC _
        unfold Facts.one
        go_simp
        first | exact ⟨Grew.refl _, rfl⟩ | rfl
      simp only [Act.put, List.setIfInBounds_toArray, List.set_cons_zero, List.set_cons_succ, Nat.reduceAdd]
      apply Facts.Lex.exact [] _ (by kernel_rfl)
      · intro u W hC _
        unfold Facts.one
        go_simp
        first | exact ⟨Grew.refl _, rfl⟩ | rfl
      simp only [Act.put, List.setIfInBounds_toArray, List.set_cons_zero, List.set_cons_succ, Nat.reduceAdd]
      refine Facts.Lex.done fun u W2 hC hL => ?_
      have G9 := Lib.hid hC
      clear hC hL
      go_wp2
      go_returns
      exact ⟨rfl, G9.out⟩
    · rw [hres, show ruleE fo who n = (0, 0) from (if_neg h).trans (if_neg h2)]
      have hb2 : (who == fo) = false := by simpa using h2
      clear h h2 hres
      go_enter Tryz.func105, Tryz.ntmps105
      go_wp2
      refine Facts.wp_region_text (by kernel_rfl) (by kernel_rfl) ?_
      apply Facts.Lex.exact [] _ (by kernel_rfl)
      · intro u W hC _
        have p0 := cellB hC P0.out
        unfold Facts.one
        go_simp
        first | exact ⟨Grew.refl _, rfl⟩ | rfl
      simp only [Act.put, List.setIfInBounds_toArray, List.set_cons_zero, List.set_cons_succ, Nat.zero_add]
      apply Facts.Lex.exact [] _ (by kernel_rfl)
      · intro u W hC _
        unfold Facts.one
        go_simp
        first | exact ⟨Grew.refl _, rfl⟩ | rfl
      simp only [Act.put, List.setIfInBounds_toArray, List.set_cons_zero, List.set_cons_succ, Nat.reduceAdd]
      apply Facts.Lex.exact [] _ (by kernel_rfl)
      · intro u W hC _
        obtain ⟨r0, r1, r2, r3, r4, r5, r6, r7, r8⟩ := re_cells (keepB R0.out hC)
        unfold Facts.one
        go_simp
        first | exact ⟨Grew.refl _, rfl⟩ | rfl
      simp only [Act.put, List.setIfInBounds_toArray, List.set_cons_zero, List.set_cons_succ, Nat.reduceAdd]
      apply Facts.Lex.exact [] _ (by kernel_rfl)
      · intro u W hC _
        unfold Facts.one
        go_simp
        first | exact ⟨Grew.refl _, rfl⟩ | rfl
      simp only [Act.put, List.setIfInBounds_toArray, List.set_cons_zero, List.set_cons_succ, Nat.reduceAdd]
      apply Facts.Lex.exact [] _ (by kernel_rfl)
      · intro u W hC _
        unfold Facts.one
        go_simp
        first | exact ⟨Grew.refl _, rfl⟩ | rfl
      simp only [Act.put, List.setIfInBounds_toArray, List.set_cons_zero, List.set_cons_succ, Nat.reduceAdd]
      apply Facts.Lex.exact [] _ (by kernel_rfl)
      · intro u W hC _
        unfold Facts.one
        go_simp
        first | exact ⟨Grew.refl _, rfl⟩ | rfl
      simp only [Act.put, List.setIfInBounds_toArray, List.set_cons_zero, List.set_cons_succ, Nat.reduceAdd]
      apply Facts.Lex.exact [] _ (by kernel_rfl)
      · intro u W hC _
        have c1 := cellB hC C1.out
        unfold Facts.one
        go_simp
        first | exact ⟨Grew.refl _, rfl⟩ | rfl
      simp only [Act.put, List.setIfInBounds_toArray, List.set_cons_zero, List.set_cons_succ, Nat.reduceAdd]
      apply Facts.Lex.exact [] _ (by kernel_rfl)
      · intro u W hC _
        unfold Facts.one
        go_simp
        first | exact ⟨Grew.refl _, rfl⟩ | rfl
      simp only [Act.put, List.setIfInBounds_toArray, List.set_cons_zero, List.set_cons_succ, Nat.reduceAdd]
      apply Facts.Lex.exact [] _ (by kernel_rfl)
      · intro u W hC _
        unfold Facts.one
        go_simp
        first | exact ⟨Grew.refl _, rfl⟩ | rfl
      simp only [Act.put, List.setIfInBounds_toArray, List.set_cons_zero, List.set_cons_succ, Nat.reduceAdd]
      refine Facts.Lex.done fun u W2 hC hL => ?_
      have G9 := Lib.hid hC
      clear hC hL
      go_wp2
      go_returns
      exact ⟨rfl, G9.out⟩

set_option maxRecDepth 100000 in
set_option maxHeartbeats 4000000 in
theorem invite_any (v vr : Value) (r : Re) (R : List (List Int)) (place by' who : Int) (w : World) (h : ReIs w v r) (hs : Sized r) (hR : RK w vr R) :
    Calls Tryz.prog 43 #[v, vr, .int .i64 place, .int .i64 by', .int .i64 who] w fun e w' => ∃ v', e = .returned (.tuple #[v', .int .i64 (actR r R place by' who rI).2]) ∧ RK w' v' (actR r R place by' who rI).1 ∧ Grew w w' := by
  have HA := Lib.hid (fun W hg => actI_any v vr r R place by' who W (h.grew (w' := W) hg) hs (hR.grew hg) fun g n _ W2 _ => clo_I g n W2)
  obtain ⟨v0, v1, v2, v3, v4, rfl, h0, h1, h2, h3, h4⟩ := h
  obtain ⟨A0', cp0, rfl, _⟩ := h0.slice
  obtain ⟨A1', cp1, rfl, _⟩ := id h1
  obtain ⟨A2', cp2, rfl, _⟩ := h2.slice
  obtain ⟨A3', cp3, rfl, _⟩ := h3.slice
  obtain ⟨A4', cp4, rfl, _⟩ := h4.slice
  obtain ⟨B, cb, rfl, _⟩ := id hR
  clear h0 h1 h2 h3 h4 hs hR
  have G0 : Hid (Grew w (w.alloc (Obj.cells #[.slice A0' r.labels.length cp0, .slice A1' r.lines.length cp1, .slice A2' r.accounts.length cp2, .slice A3' r.guilds.length cp3, .slice A4' r.quotas.length cp4, .int .i64 r.orders, .int .i64 r.audits, .int .i64 r.rate, .int .i64 r.rounds] 28))) := Lib.hid (by unfold Grew; go_grown)
  have R0 : Hid ((w.alloc (Obj.cells #[.slice A0' r.labels.length cp0, .slice A1' r.lines.length cp1, .slice A2' r.accounts.length cp2, .slice A3' r.guilds.length cp3, .slice A4' r.quotas.length cp4, .int .i64 r.orders, .int .i64 r.audits, .int .i64 r.rate, .int .i64 r.rounds] 28)).heap[w.heap.size]? = some (rcell (.slice A0' r.labels.length cp0) (.slice A1' r.lines.length cp1) (.slice A2' r.accounts.length cp2) (.slice A3' r.guilds.length cp3) (.slice A4' r.quotas.length cp4) r.orders r.audits r.rate r.rounds)) := Lib.hid (heap_alloc_new w _)
  generalize actR r R place by' who rI = res at *
  obtain ⟨rr, re⟩ := res
  obtain ⟨r0, r1, r2, r3, r4, r5, r6, r7, r8⟩ := re_cells R0.out
  go_enter Tryz.func43, Tryz.ntmps43
  go_wp2_with fail
  with_reducible refine (HA.out _ G0.out).mono ?_
  rintro e w1 ⟨v', rfl, hrk, hg⟩
  have H1 := Lib.hid hrk
  have G1 := Lib.hid (G0.out.trans hg)
  obtain ⟨A1, c1, rfl, _⟩ := id hrk
  clear hrk hg r0 r1 r2 r3 r4 r5 r6 r7 r8
  go_wp2
  go_returns
  exact ⟨_, rfl, H1.out, G1.out⟩

set_option maxRecDepth 100000 in
set_option maxHeartbeats 4000000 in
theorem raise_any (v vr : Value) (r : Re) (R : List (List Int)) (place by' who : Int) (w : World) (h : ReIs w v r) (hs : Sized r) (hR : RK w vr R) :
    Calls Tryz.prog 44 #[v, vr, .int .i64 place, .int .i64 by', .int .i64 who] w fun e w' => ∃ v', e = .returned (.tuple #[v', .int .i64 (actR r R place by' who rR).2]) ∧ RK w' v' (actR r R place by' who rR).1 ∧ Grew w w' := by
  have HA := Lib.hid (fun W hg => actR_any v vr r R place by' who W (h.grew (w' := W) hg) hs (hR.grew hg) fun g n _ W2 _ => clo_R g n W2)
  obtain ⟨v0, v1, v2, v3, v4, rfl, h0, h1, h2, h3, h4⟩ := h
  obtain ⟨A0', cp0, rfl, _⟩ := h0.slice
  obtain ⟨A1', cp1, rfl, _⟩ := id h1
  obtain ⟨A2', cp2, rfl, _⟩ := h2.slice
  obtain ⟨A3', cp3, rfl, _⟩ := h3.slice
  obtain ⟨A4', cp4, rfl, _⟩ := h4.slice
  obtain ⟨B, cb, rfl, _⟩ := id hR
  clear h0 h1 h2 h3 h4 hs hR
  have G0 : Hid (Grew w (w.alloc (Obj.cells #[.slice A0' r.labels.length cp0, .slice A1' r.lines.length cp1, .slice A2' r.accounts.length cp2, .slice A3' r.guilds.length cp3, .slice A4' r.quotas.length cp4, .int .i64 r.orders, .int .i64 r.audits, .int .i64 r.rate, .int .i64 r.rounds] 28))) := Lib.hid (by unfold Grew; go_grown)
  have R0 : Hid ((w.alloc (Obj.cells #[.slice A0' r.labels.length cp0, .slice A1' r.lines.length cp1, .slice A2' r.accounts.length cp2, .slice A3' r.guilds.length cp3, .slice A4' r.quotas.length cp4, .int .i64 r.orders, .int .i64 r.audits, .int .i64 r.rate, .int .i64 r.rounds] 28)).heap[w.heap.size]? = some (rcell (.slice A0' r.labels.length cp0) (.slice A1' r.lines.length cp1) (.slice A2' r.accounts.length cp2) (.slice A3' r.guilds.length cp3) (.slice A4' r.quotas.length cp4) r.orders r.audits r.rate r.rounds)) := Lib.hid (heap_alloc_new w _)
  generalize actR r R place by' who rR = res at *
  obtain ⟨rr, re⟩ := res
  obtain ⟨r0, r1, r2, r3, r4, r5, r6, r7, r8⟩ := re_cells R0.out
  go_enter Tryz.func44, Tryz.ntmps44
  go_wp2_with fail
  with_reducible refine (HA.out _ G0.out).mono ?_
  rintro e w1 ⟨v', rfl, hrk, hg⟩
  have H1 := Lib.hid hrk
  have G1 := Lib.hid (G0.out.trans hg)
  obtain ⟨A1, c1, rfl, _⟩ := id hrk
  clear hrk hg r0 r1 r2 r3 r4 r5 r6 r7 r8
  go_wp2
  go_returns
  exact ⟨_, rfl, H1.out, G1.out⟩

set_option maxRecDepth 100000 in
set_option maxHeartbeats 4000000 in
theorem expel_any (v vr : Value) (r : Re) (R : List (List Int)) (place by' who : Int) (w : World) (h : ReIs w v r) (hs : Sized r) (hR : RK w vr R) :
    Calls Tryz.prog 45 #[v, vr, .int .i64 place, .int .i64 by', .int .i64 who] w fun e w' => ∃ v', e = .returned (.tuple #[v', .int .i64 (actR r R place by' who (rE r who)).2]) ∧ RK w' v' (actR r R place by' who (rE r who)).1 ∧ Grew w w' := by
  have h' := h
  obtain ⟨v0, v1, v2, v3, v4, rfl, h0, h1, h2, h3, h4⟩ := h
  obtain ⟨A0', cp0, rfl, _⟩ := h0.slice
  obtain ⟨A1', cp1, rfl, _⟩ := id h1
  obtain ⟨A2', cp2, rfl, _⟩ := h2.slice
  obtain ⟨A3', cp3, rfl, _⟩ := h3.slice
  obtain ⟨A4', cp4, rfl, _⟩ := h4.slice
  have G0 : Hid (Grew w ((w.alloc (Obj.cells #[.slice A0' r.labels.length cp0, .slice A1' r.lines.length cp1, .slice A2' r.accounts.length cp2, .slice A3' r.guilds.length cp3, .slice A4' r.quotas.length cp4, .int .i64 r.orders, .int .i64 r.audits, .int .i64 r.rate, .int .i64 r.rounds] 28)).alloc (.cells #[.int .i64 who] 3))) := Lib.hid (by unfold Grew; go_grown)
  have R0 : Hid (((w.alloc (Obj.cells #[.slice A0' r.labels.length cp0, .slice A1' r.lines.length cp1, .slice A2' r.accounts.length cp2, .slice A3' r.guilds.length cp3, .slice A4' r.quotas.length cp4, .int .i64 r.orders, .int .i64 r.audits, .int .i64 r.rate, .int .i64 r.rounds] 28)).alloc (.cells #[.int .i64 who] 3)).heap[w.heap.size]? = some (rcell (.slice A0' r.labels.length cp0) (.slice A1' r.lines.length cp1) (.slice A2' r.accounts.length cp2) (.slice A3' r.guilds.length cp3) (.slice A4' r.quotas.length cp4) r.orders r.audits r.rate r.rounds)) := Lib.hid ((heap_alloc_old _ _ (by simp)).trans (heap_alloc_new w _))
  have P0 : Hid (((w.alloc (Obj.cells #[.slice A0' r.labels.length cp0, .slice A1' r.lines.length cp1, .slice A2' r.accounts.length cp2, .slice A3' r.guilds.length cp3, .slice A4' r.quotas.length cp4, .int .i64 r.orders, .int .i64 r.audits, .int .i64 r.rate, .int .i64 r.rounds] 28)).alloc (.cells #[.int .i64 who] 3)).heap[w.heap.size + 1]? = some (.cells #[.int .i64 who] 3 (0, 0))) := Lib.hid (heap_alloc2_new w _ _)
  have PC : Hid (∀ W, Grew ((w.alloc (Obj.cells #[.slice A0' r.labels.length cp0, .slice A1' r.lines.length cp1, .slice A2' r.accounts.length cp2, .slice A3' r.guilds.length cp3, .slice A4' r.quotas.length cp4, .int .i64 r.orders, .int .i64 r.audits, .int .i64 r.rate, .int .i64 r.rounds] 28)).alloc (.cells #[.int .i64 who] 3)) W → W.cell? ⟨w.heap.size + 1, 0, none⟩ = some (.int .i64 who)) := Lib.hid fun W hg => by
    rw [cell_of_row _ _ _ _ _ _ (keepB P0.out hg)]
    rfl
  have HA := Lib.hid (actE_any _ vr r R place by' who (w.heap.size + 1) w.heap.size ((w.alloc (Obj.cells #[.slice A0' r.labels.length cp0, .slice A1' r.lines.length cp1, .slice A2' r.accounts.length cp2, .slice A3' r.guilds.length cp3, .slice A4' r.quotas.length cp4, .int .i64 r.orders, .int .i64 r.audits, .int .i64 r.rate, .int .i64 r.rounds] 28)).alloc (.cells #[.int .i64 who] 3)) (h'.grew G0.out) hs (hR.grew G0.out) fun g n hg W2 hg2 => clo_E r g who n _ _ _ _ _ _ _ W2 hg (h3.grew (G0.out.trans hg2)) (keepB R0.out hg2) (PC.out _ hg2))
  obtain ⟨B, cb, rfl, _⟩ := id hR
  have p0 := PC.out _ (Grew.refl _)
  clear h0 h1 h2 h3 h4 hs hR h'
  generalize actR r R place by' who (rE r who) = res at *
  obtain ⟨rr, re⟩ := res
  obtain ⟨r0, r1, r2, r3, r4, r5, r6, r7, r8⟩ := re_cells R0.out
  go_enter Tryz.func45, Tryz.ntmps45
  go_wp2_with fail
  with_reducible refine HA.out.mono ?_
  rintro e w1 ⟨v', rfl, hrk, hg⟩
  have H1 := Lib.hid hrk
  have G1 := Lib.hid (G0.out.trans hg)
  obtain ⟨A1, c1, rfl, _⟩ := id hrk
  clear hrk hg r0 r1 r2 r3 r4 r5 r6 r7 r8 p0
  go_wp2
  go_returns
  exact ⟨_, rfl, H1.out, G1.out⟩
end Go.Proofs.YtmegdgeiikhflaaGreat.HY
