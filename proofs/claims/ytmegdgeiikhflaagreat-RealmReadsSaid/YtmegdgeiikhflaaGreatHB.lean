/-
  The guild of a hall, and the guilds of a label, as the program tells them; whether a test holds of a number among some.
  Conditions: the accounts' texts' sizes; a test's own contract.
-/
import Derived.Test.YtmegdgeiikhflaaGreatHA
namespace Go.Proofs.YtmegdgeiikhflaaGreat.HB
open Go Go.RowKit Go.Lib Go.Proofs.YtmegdgeiikhflaaGreat Go.Proofs.YtmegdgeiikhflaaGreat.Facts Go.Proofs.YtmegdgeiikhflaaGreat.Plain Go.Proofs.YtmegdgeiikhflaaGreat.Ints Go.Proofs.YtmegdgeiikhflaaGreat.RRows Go.Proofs.YtmegdgeiikhflaaGreat.LBox Go.Proofs.YtmegdgeiikhflaaGreat.RSmall Go.Proofs.YtmegdgeiikhflaaGreat.RFind Go.Proofs.YtmegdgeiikhflaaGreat.RAll Go.Proofs.YtmegdgeiikhflaaGreat.RRules Go.Proofs.YtmegdgeiikhflaaGreat.RRule3 Go.Proofs.YtmegdgeiikhflaaGreat.RRight Go.Proofs.YtmegdgeiikhflaaGreat.HA

set_option maxRecDepth 100000 in
theorem idxfG_any (v : Value) (l : List Gu) (p : Gu → Bool) (R P : Nat) (w : World) (h : Gs w v l)
    (hp : ∀ x, x ∈ l → ∀ W, Grew w W → Calls Tryz.prog 59 #[.agg #[.int .i64 x.bit, .int .i64 x.founder], .pointer (some ⟨R, 0, none⟩), .pointer (some ⟨P, 0, none⟩)] W fun e w' => e = .returned (.bool (p x)) ∧ Grew W w') :
    Calls Tryz.prog 58 #[v, .func (.func 59) #[] #[.pointer (some ⟨R, 0, none⟩), .pointer (some ⟨P, 0, none⟩)]] w fun e w' => e = .returned (.int .i64 (fidx l p)) ∧ Grew w w' := by
  have HL := Lib.hid h
  have HP := Lib.hid hp
  obtain ⟨A, cp, rfl, hc1, hc2⟩ := h.slice
  have HC2 := Lib.hid hc2
  clear h hp hc2
  have HH := Lib.hid (fun k x => @fidx_hit Gu l p k x)
  have HM := Lib.hid (@fidx_miss Gu l p)
  generalize fidx l p = res at *
  go_enter Tryz.func58, Tryz.ntmps58
  go_wp2
  go_loopg [8] l.length (fun g s8 wx => ∃ k : Nat, k + g = l.length ∧ s8 = .int .i64 k ∧ Hid (∀ j y, j < k → l[j]? = some y → p y = false) ∧ Hid (Grew w wx))
  case atStart => exact ⟨0, by omega, rfl, Lib.hid (fun j y h => absurd h (by omega)), Lib.hid (Grew.refl _)⟩
  case round =>
    obtain ⟨k, hkg, rfl, HJ, HG⟩ := hrel
    cases gk with
    | zero =>
      have hkz : ¬ ((k : Int) < (l.length : Int)) := by omega
      have HR : Hid (res = -1) := Lib.hid (HM.out fun j y hy => HJ.out j y (by have := (List.getElem?_eq_some_iff.1 hy).1; omega) hy)
      go_wp2
      go_returns
      refine ⟨?_, HG.out⟩
      rw [HR.out]
      try rfl
    | succ g =>
      have hkz : (k : Int) < (l.length : Int) := by omega
      have hkl : k < l.length := by omega
      have hx : l[k]? = some l[k] := List.getElem?_eq_getElem hkl
      obtain ⟨ad, c2, e, hc, c0, c1⟩ := Gs_at (HL.out.grew HG.out) hx
      injection e with e1 _ e3
      subst e1 e3
      have HX := Lib.hid hx
      have HF := Lib.hid (HP.out l[k] (List.getElem_mem hkl))
      have hkw : wrap64 ((k : Int) + 1) = (k : Int) + 1 := by
        have hc2 := HC2.out
        unfold maxLen at hc2
        unfold wrap64
        omega
      generalize l[k] = x at c0 c1 HX HF
      clear hx hkl
      cases hpx : p x with
      | true =>
        rw [hpx] at HF
        have HR : Hid (res = k) := Lib.hid (HH.out _ _ HX.out hpx HJ.out)
        clear HX hpx
        go_wp2_with fail
        refine (HF.out _ HG.out).mono ?_
        rintro e w2 ⟨rfl, hg⟩
        have G2 := Lib.hid (HG.out.trans hg)
        clear hg c0 c1
        go_wp2
        go_returns
        refine ⟨?_, G2.out⟩
        rw [HR.out]
        try rfl
      | false =>
        have HN : Hid (∀ j y, j < k + 1 → l[j]? = some y → p y = false) := Lib.hid fun j y hj hy => by
          by_cases hjk : j = k
          · subst hjk
            rw [HX.out] at hy
            cases hy
            exact hpx
          · exact HJ.out j y (by omega) hy
        rw [hpx] at HF
        clear HX hpx
        go_wp2_with fail
        refine (HF.out _ HG.out).mono ?_
        rintro e w2 ⟨rfl, hg⟩
        have G2 := Lib.hid (HG.out.trans hg)
        clear hg c0 c1
        go_wp2
        go_roundg g
        case measure => omega
        case rel => exact ⟨k + 1, by omega, by first | rfl | simp [hkw] | simp, HN, G2⟩

set_option maxRecDepth 100000 in
theorem idxfN_any (v : Value) (l : List Int) (p : Int → Bool) (w : World) (h : Is w v l)
    (hp : ∀ x, x ∈ l → ∀ W, Grew w W → Calls Tryz.prog 97 #[.int .i64 x] W fun e w' => e = .returned (.bool (p x)) ∧ Grew W w') :
    Calls Tryz.prog 145 #[v, .func (.func 97) #[] #[]] w fun e w' => e = .returned (.int .i64 (fidx l p)) ∧ Grew w w' := by
  have HL := Lib.hid h
  have HP := Lib.hid hp
  obtain ⟨A, cp, rfl, hc1, hc2, _⟩ := id h
  have HC2 := Lib.hid hc2
  clear h hp hc2
  have HH := Lib.hid (fun k x => @fidx_hit Int l p k x)
  have HM := Lib.hid (@fidx_miss Int l p)
  generalize fidx l p = res at *
  go_enter Tryz.func145, Tryz.ntmps145
  go_wp2
  go_loopg [8] l.length (fun g s8 wx => ∃ k : Nat, k + g = l.length ∧ s8 = .int .i64 k ∧ Hid (∀ j y, j < k → l[j]? = some y → p y = false) ∧ Hid (Grew w wx))
  case atStart => exact ⟨0, by omega, rfl, Lib.hid (fun j y h => absurd h (by omega)), Lib.hid (Grew.refl _)⟩
  case round =>
    obtain ⟨k, hkg, rfl, HJ, HG⟩ := hrel
    cases gk with
    | zero =>
      have hkz : ¬ ((k : Int) < (l.length : Int)) := by omega
      have HR : Hid (res = -1) := Lib.hid (HM.out fun j y hy => HJ.out j y (by have := (List.getElem?_eq_some_iff.1 hy).1; omega) hy)
      go_wp2
      go_returns
      refine ⟨?_, HG.out⟩
      rw [HR.out]
      try rfl
    | succ g =>
      have hkz : (k : Int) < (l.length : Int) := by omega
      have hkl : k < l.length := by omega
      have hx : l[k]? = some l[k] := List.getElem?_eq_getElem hkl
      obtain ⟨ad, c2, e, hc, c0⟩ := (HL.out.grew HG.out).cell (k := k) hkl
      rw [List.getElem?_eq_getElem hkl, Option.getD_some] at c0
      injection e with e1 _ e3
      subst e1 e3
      have HX := Lib.hid hx
      have HF := Lib.hid (HP.out l[k] (List.getElem_mem hkl))
      have hkw : wrap64 ((k : Int) + 1) = (k : Int) + 1 := by
        have hc2 := HC2.out
        unfold maxLen at hc2
        unfold wrap64
        omega
      generalize l[k] = x at c0 HX HF
      clear hx hkl
      cases hpx : p x with
      | true =>
        rw [hpx] at HF
        have HR : Hid (res = k) := Lib.hid (HH.out _ _ HX.out hpx HJ.out)
        clear HX hpx
        go_wp2_with fail
        refine (HF.out _ HG.out).mono ?_
        rintro e w2 ⟨rfl, hg⟩
        have G2 := Lib.hid (HG.out.trans hg)
        clear hg c0
        go_wp2
        go_returns
        refine ⟨?_, G2.out⟩
        rw [HR.out]
        try rfl
      | false =>
        have HN : Hid (∀ j y, j < k + 1 → l[j]? = some y → p y = false) := Lib.hid fun j y hj hy => by
          by_cases hjk : j = k
          · subst hjk
            rw [HX.out] at hy
            cases hy
            exact hpx
          · exact HJ.out j y (by omega) hy
        rw [hpx] at HF
        clear HX hpx
        go_wp2_with fail
        refine (HF.out _ HG.out).mono ?_
        rintro e w2 ⟨rfl, hg⟩
        have G2 := Lib.hid (HG.out.trans hg)
        clear hg c0
        go_wp2
        go_roundg g
        case measure => omega
        case rel => exact ⟨k + 1, by omega, by first | rfl | simp [hkw] | simp, HN, G2⟩

set_option maxRecDepth 100000 in
theorem idxfC_any (v : Value) (l : List Int) (p : Int → Bool) (R P : Nat) (w : World) (h : Is w v l)
    (hp : ∀ x, x ∈ l → ∀ W, Grew w W → Calls Tryz.prog 100 #[.int .i64 x, .pointer (some ⟨R, 0, none⟩), .pointer (some ⟨P, 0, none⟩)] W fun e w' => e = .returned (.bool (p x)) ∧ Grew W w') :
    Calls Tryz.prog 145 #[v, .func (.func 100) #[] #[.pointer (some ⟨R, 0, none⟩), .pointer (some ⟨P, 0, none⟩)]] w fun e w' => e = .returned (.int .i64 (fidx l p)) ∧ Grew w w' := by
  have HL := Lib.hid h
  have HP := Lib.hid hp
  obtain ⟨A, cp, rfl, hc1, hc2, _⟩ := id h
  have HC2 := Lib.hid hc2
  clear h hp hc2
  have HH := Lib.hid (fun k x => @fidx_hit Int l p k x)
  have HM := Lib.hid (@fidx_miss Int l p)
  generalize fidx l p = res at *
  go_enter Tryz.func145, Tryz.ntmps145
  go_wp2
  go_loopg [8] l.length (fun g s8 wx => ∃ k : Nat, k + g = l.length ∧ s8 = .int .i64 k ∧ Hid (∀ j y, j < k → l[j]? = some y → p y = false) ∧ Hid (Grew w wx))
  case atStart => exact ⟨0, by omega, rfl, Lib.hid (fun j y h => absurd h (by omega)), Lib.hid (Grew.refl _)⟩
  case round =>
    obtain ⟨k, hkg, rfl, HJ, HG⟩ := hrel
    cases gk with
    | zero =>
      have hkz : ¬ ((k : Int) < (l.length : Int)) := by omega
      have HR : Hid (res = -1) := Lib.hid (HM.out fun j y hy => HJ.out j y (by have := (List.getElem?_eq_some_iff.1 hy).1; omega) hy)
      go_wp2
      go_returns
      refine ⟨?_, HG.out⟩
      rw [HR.out]
      try rfl
    | succ g =>
      have hkz : (k : Int) < (l.length : Int) := by omega
      have hkl : k < l.length := by omega
      have hx : l[k]? = some l[k] := List.getElem?_eq_getElem hkl
      obtain ⟨ad, c2, e, hc, c0⟩ := (HL.out.grew HG.out).cell (k := k) hkl
      rw [List.getElem?_eq_getElem hkl, Option.getD_some] at c0
      injection e with e1 _ e3
      subst e1 e3
      have HX := Lib.hid hx
      have HF := Lib.hid (HP.out l[k] (List.getElem_mem hkl))
      have hkw : wrap64 ((k : Int) + 1) = (k : Int) + 1 := by
        have hc2 := HC2.out
        unfold maxLen at hc2
        unfold wrap64
        omega
      generalize l[k] = x at c0 HX HF
      clear hx hkl
      cases hpx : p x with
      | true =>
        rw [hpx] at HF
        have HR : Hid (res = k) := Lib.hid (HH.out _ _ HX.out hpx HJ.out)
        clear HX hpx
        go_wp2_with fail
        refine (HF.out _ HG.out).mono ?_
        rintro e w2 ⟨rfl, hg⟩
        have G2 := Lib.hid (HG.out.trans hg)
        clear hg c0
        go_wp2
        go_returns
        refine ⟨?_, G2.out⟩
        rw [HR.out]
        try rfl
      | false =>
        have HN : Hid (∀ j y, j < k + 1 → l[j]? = some y → p y = false) := Lib.hid fun j y hj hy => by
          by_cases hjk : j = k
          · subst hjk
            rw [HX.out] at hy
            cases hy
            exact hpx
          · exact HJ.out j y (by omega) hy
        rw [hpx] at HF
        clear HX hpx
        go_wp2_with fail
        refine (HF.out _ HG.out).mono ?_
        rintro e w2 ⟨rfl, hg⟩
        have G2 := Lib.hid (HG.out.trans hg)
        clear hg c0
        go_wp2
        go_roundg g
        case measure => omega
        case rel => exact ⟨k + 1, by omega, by first | rfl | simp [hkw] | simp, HN, G2⟩

theorem contN_any (v : Value) (l : List Int) (p : Int → Bool) (w : World) (h : Is w v l)
    (hp : ∀ x, x ∈ l → ∀ W, Grew w W → Calls Tryz.prog 97 #[.int .i64 x] W fun e w' => e = .returned (.bool (p x)) ∧ Grew W w') :
    Calls Tryz.prog 96 #[v, .func (.func 97) #[] #[]] w fun e w' => e = .returned (.bool (l.any p)) ∧ Grew w w' := by
  have HI := Lib.hid (idxfN_any v l p w h hp)
  rw [← fidx_neg]
  generalize fidx l p = res at *
  clear h hp
  by_cases hr : 0 ≤ res
  all_goals
    go_enter Tryz.func96, Tryz.ntmps96
    go_wp2_with fail
    refine HI.out.mono ?_
    rintro e w2 ⟨rfl, hg⟩
    have G2 := Lib.hid hg
    clear hg
    go_wp2
    go_returns
    exact ⟨by simp [hr], G2.out⟩

theorem contC_any (v : Value) (l : List Int) (p : Int → Bool) (R P : Nat) (w : World) (h : Is w v l)
    (hp : ∀ x, x ∈ l → ∀ W, Grew w W → Calls Tryz.prog 100 #[.int .i64 x, .pointer (some ⟨R, 0, none⟩), .pointer (some ⟨P, 0, none⟩)] W fun e w' => e = .returned (.bool (p x)) ∧ Grew W w') :
    Calls Tryz.prog 96 #[v, .func (.func 100) #[] #[.pointer (some ⟨R, 0, none⟩), .pointer (some ⟨P, 0, none⟩)]] w fun e w' => e = .returned (.bool (l.any p)) ∧ Grew w w' := by
  have HI := Lib.hid (idxfC_any v l p R P w h hp)
  rw [← fidx_neg]
  generalize fidx l p = res at *
  clear h hp
  by_cases hr : 0 ≤ res
  all_goals
    go_enter Tryz.func96, Tryz.ntmps96
    go_wp2_with fail
    refine HI.out.mono ?_
    rintro e w2 ⟨rfl, hg⟩
    have G2 := Lib.hid hg
    clear hg
    go_wp2
    go_returns
    exact ⟨by simp [hr], G2.out⟩

theorem eql31 (b : BitVec 64) (l : Int) (s : BitVec 64) : ((0 : Int) == l && ((b.toNat : Int) == (s.toNat : Int))) = decide ((⟨0, b⟩ : La) = ⟨l, s⟩) := by
  have e : ((b.toNat : Int) == (s.toNat : Int)) = decide (b = s) := by
    rw [Bool.eq_iff_iff]
    simp only [beq_iff_eq, decide_eq_true_eq]
    constructor
    · intro h
      exact BitVec.eq_of_toNat_eq (by omega)
    · rintro rfl
      rfl
  rw [e, Bool.eq_iff_iff]
  simp only [Bool.and_eq_true, beq_iff_eq, decide_eq_true_eq, La.mk.injEq]

set_option maxRecDepth 100000 in
set_option maxHeartbeats 4000000 in
/-- Is this guild's hall that label? -/
theorem clo_guild (r : Re) (x : Gu) (k : Nat) (R P : Nat) (v0 v1 v2 v3 v4 : Value) (w : World) (hk : k < r.labels.length) (h0 : Ls w v0 r.labels) (hr : w.heap[R]? = some (rcell v0 v1 v2 v3 v4 r.orders r.audits r.rate r.rounds)) (hp : w.cell? ⟨P, 0, none⟩ = some (.int .i64 (k : Int))) :
    Calls Tryz.prog 59 #[.agg #[.int .i64 x.bit, .int .i64 x.founder], .pointer (some ⟨R, 0, none⟩), .pointer (some ⟨P, 0, none⟩)] w fun e w' => e = .returned (.bool (decide ((⟨0, bitOf x.bit⟩ : La) = RRule1.lat r.labels k))) ∧ Grew w w' := by
  have HH := Lib.hid (fun W => hallG_any x.bit x.founder W)
  obtain ⟨ad, c9, e, hc, d0, d1⟩ := Ls_at h0 (RRule1.lat_get hk)
  obtain ⟨A0', cp0, e', _⟩ := h0.slice
  rw [e] at e'
  injection e' with e1 _ e3
  subst e1 e3
  subst e
  have hkl : (k : Int) < (r.labels.length : Int) := by omega
  generalize bitOf x.bit = bt at *
  generalize RRule1.lat r.labels k = la at *
  obtain ⟨bv, hbv, hcase⟩ : ∃ bv, decide ((⟨0, bt⟩ : La) = la) = bv ∧ ((la.lev = 0 ∧ (bt.toNat : Int) = (la.set.toNat : Int) ∧ bv = true) ∨ (la.lev = 0 ∧ ¬ (bt.toNat : Int) = (la.set.toNat : Int) ∧ bv = false) ∨ (¬ 0 = la.lev ∧ bv = false)) := by
    refine ⟨_, rfl, ?_⟩
    rw [← eql31 bt la.lev la.set]
    by_cases e1 : 0 = la.lev
    · by_cases e2 : (bt.toNat : Int) = (la.set.toNat : Int)
      · exact .inl ⟨e1.symm, e2, by simp [← e1, e2]⟩
      · exact .inr (.inl ⟨e1.symm, e2, by simp [← e1, e2]⟩)
    · exact .inr (.inr ⟨e1, by simp [e1]⟩)
  rw [hbv]
  clear hbv
  have G0 : Hid (Grew w (w.alloc (.cells #[.int .i64 x.bit, .int .i64 x.founder] 52))) := Lib.hid (by unfold Grew; go_grown)
  have X0 : Hid ((w.alloc (.cells #[.int .i64 x.bit, .int .i64 x.founder] 52)).heap[w.heap.size]? = some (.cells #[.int .i64 x.bit, .int .i64 x.founder] 52 (0, 0))) := Lib.hid (heap_alloc_new w _)
  have R0 := Lib.hid hr
  have P0 := Lib.hid hp
  have D0 := Lib.hid d0
  have D1 := Lib.hid d1
  clear h0 hr hp d0 d1
  rcases hcase with ⟨e1, e2, rfl⟩ | ⟨e1, e2, rfl⟩ | ⟨e1, rfl⟩
  all_goals
    go_enter Tryz.func59, Tryz.ntmps59
    go_wp2
    refine Facts.wp_region_text (by kernel_rfl) (by kernel_rfl) ?_
    apply Facts.Lex.exact [] _ (by kernel_rfl)
    · intro u W hC _
      have x0 : W.cell? ⟨w.heap.size, 0, none⟩ = some (.int .i64 x.bit) := by rw [cell_of_row _ _ _ _ _ _ (keepB X0.out hC)]; rfl
      have x1 : W.cell? ⟨w.heap.size, 1, none⟩ = some (.int .i64 x.founder) := by rw [cell_of_row _ _ _ _ _ _ (keepB X0.out hC)]; rfl
      unfold Facts.one
      go_simp
      first | exact ⟨Grew.refl _, rfl⟩ | rfl
    simp only [Act.put, List.setIfInBounds_toArray, List.set_cons_zero, List.set_cons_succ, Nat.zero_add]
    apply Facts.Lex.exact [] _ (by kernel_rfl)
    · intro u W hC _
      unfold Facts.one
      go_simp
      first | exact ⟨Grew.refl _, rfl⟩ | rfl | (refine (HH.out W).mono ?_; rintro e w' ⟨rfl, hg⟩; exact ⟨_, rfl, hg, rfl⟩)
    simp only [Act.put, List.setIfInBounds_toArray, List.set_cons_zero, List.set_cons_succ, Nat.reduceAdd]
    apply Facts.Lex.exact [] _ (by kernel_rfl)
    · intro u W hC _
      unfold Facts.one
      go_simp
      first | exact ⟨Grew.refl _, rfl⟩ | rfl
    simp only [Act.put, List.setIfInBounds_toArray, List.set_cons_zero, List.set_cons_succ, Nat.reduceAdd]
    apply Facts.Lex.exact [] _ (by kernel_rfl)
    · intro u W hC _
      obtain ⟨r0, r1, r2, r3, r4, r5, r6, r7, r8⟩ := re_cells (keepB R0.out (G0.out.trans hC))
      unfold Facts.one
      go_simp
      first | exact ⟨Grew.refl _, rfl⟩ | rfl
    simp only [Act.put, List.setIfInBounds_toArray, List.set_cons_zero, List.set_cons_succ, Nat.reduceAdd]
    apply Facts.Lex.exact [] _ (by kernel_rfl)
    · intro u W hC _
      have p0 := cellB (G0.out.trans hC) P0.out
      unfold Facts.one
      go_simp
      first | exact ⟨Grew.refl _, rfl⟩ | rfl
    simp only [Act.put, List.setIfInBounds_toArray, List.set_cons_zero, List.set_cons_succ, Nat.reduceAdd]
    apply Facts.Lex.exact [] _ (by kernel_rfl)
    · intro u W hC _
      unfold Facts.one
      go_simp
      first | exact ⟨Grew.refl _, rfl⟩ | rfl
    simp only [Act.put, List.setIfInBounds_toArray, List.set_cons_zero, List.set_cons_succ, Nat.reduceAdd]
    apply Facts.Lex.exact [] _ (by kernel_rfl)
    · intro u W hC _
      have c0 := cellB (G0.out.trans hC) D0.out
      have c1 := cellB (G0.out.trans hC) D1.out
      unfold Facts.one
      go_simp
      first | exact ⟨Grew.refl _, rfl⟩ | rfl
    simp only [Act.put, List.setIfInBounds_toArray, List.set_cons_zero, List.set_cons_succ, Nat.reduceAdd]
    apply Facts.Lex.exact [] _ (by kernel_rfl)
    · intro u W hC _
      unfold Facts.one
      go_simp
      first | exact ⟨Grew.refl _, rfl⟩ | (rw [if_pos e1.symm, if_pos e2]; exact ⟨Grew.refl _, rfl⟩) | (rw [if_pos e1.symm, if_neg e2]; exact ⟨Grew.refl _, rfl⟩) | (rw [if_neg e1]; exact ⟨Grew.refl _, rfl⟩) | (rw [if_pos rfl, if_pos e2]; exact ⟨Grew.refl _, rfl⟩) | (rw [if_pos rfl, if_neg e2]; exact ⟨Grew.refl _, rfl⟩)
    simp only [Act.put, List.setIfInBounds_toArray, List.set_cons_zero, List.set_cons_succ, Nat.reduceAdd]
    apply Facts.Lex.exact [] _ (by kernel_rfl)
    · intro u W hC _
      unfold Facts.one
      go_simp
      first | exact ⟨Grew.refl _, rfl⟩ | rfl
    simp only [Act.put, List.setIfInBounds_toArray, List.set_cons_zero, List.set_cons_succ, Nat.reduceAdd]
    refine Facts.Lex.done fun u W2 hC hL => ?_
    have G9 := Lib.hid (G0.out.trans hC)
    clear hC hL
    go_wp2
    go_returns
    exact ⟨rfl, G9.out⟩

def guildOf (r : Re) (i : Int) : Int := if mayBe r = true then (if inn r.labels.length i = true then fidx r.guilds (fun x => decide ((⟨0, bitOf x.bit⟩ : La) = RRule1.lat r.labels i.toNat)) else -1) else -1
set_option maxRecDepth 100000 in
set_option maxHeartbeats 4000000 in
theorem guildOf_any (v : Value) (r : Re) (i : Int) (w : World) (h : ReIs w v r) (hs : Sized r) : Calls Tryz.prog 17 #[v, .int .i64 i] w fun e w' => e = .returned (.int .i64 (guildOf r i)) ∧ Grew w w' := by
  have HRI := Lib.hid (fun W hg => right_re v r W (h.grew (w' := W) hg) hs)
  obtain ⟨v0, v1, v2, v3, v4, rfl, h0, h1, h2, h3, h4⟩ := h
  have HL0 := Lib.hid h0
  have HL3 := Lib.hid h3
  obtain ⟨A0', cp0, rfl, _⟩ := h0.slice
  obtain ⟨A1', cp1, rfl, _⟩ := id h1
  obtain ⟨A2', cp2, rfl, _⟩ := h2.slice
  obtain ⟨A3', cp3, rfl, _⟩ := h3.slice
  obtain ⟨A4', cp4, rfl, _⟩ := h4.slice
  clear h0 h1 h2 h3 h4 hs
  have HI := Lib.hid (fun W => hasL_any A0' r.labels.length cp0 i W)
  have HII : inn r.labels.length i = true → 0 ≤ i ∧ i < r.labels.length := fun h => by unfold inn at h; simpa using h
  unfold guildOf
  have G0 : Hid (Grew w ((w.alloc (Obj.cells #[.slice A0' r.labels.length cp0, .slice A1' r.lines.length cp1, .slice A2' r.accounts.length cp2, .slice A3' r.guilds.length cp3, .slice A4' r.quotas.length cp4, .int .i64 r.orders, .int .i64 r.audits, .int .i64 r.rate, .int .i64 r.rounds] 28)).alloc (.cells #[.int .i64 i] 3))) := Lib.hid (by unfold Grew; go_grown)
  have R0 : Hid (((w.alloc (Obj.cells #[.slice A0' r.labels.length cp0, .slice A1' r.lines.length cp1, .slice A2' r.accounts.length cp2, .slice A3' r.guilds.length cp3, .slice A4' r.quotas.length cp4, .int .i64 r.orders, .int .i64 r.audits, .int .i64 r.rate, .int .i64 r.rounds] 28)).alloc (.cells #[.int .i64 i] 3)).heap[w.heap.size]? = some (rcell (.slice A0' r.labels.length cp0) (.slice A1' r.lines.length cp1) (.slice A2' r.accounts.length cp2) (.slice A3' r.guilds.length cp3) (.slice A4' r.quotas.length cp4) r.orders r.audits r.rate r.rounds)) := Lib.hid ((heap_alloc_old _ _ (by simp)).trans (heap_alloc_new w _))
  have I0 : Hid (((w.alloc (Obj.cells #[.slice A0' r.labels.length cp0, .slice A1' r.lines.length cp1, .slice A2' r.accounts.length cp2, .slice A3' r.guilds.length cp3, .slice A4' r.quotas.length cp4, .int .i64 r.orders, .int .i64 r.audits, .int .i64 r.rate, .int .i64 r.rounds] 28)).alloc (.cells #[.int .i64 i] 3)).heap[w.heap.size + 1]? = some (.cells #[.int .i64 i] 3 (0, 0))) := Lib.hid (heap_alloc2_new w _ _)
  have IC : Hid (∀ W, Grew ((w.alloc (Obj.cells #[.slice A0' r.labels.length cp0, .slice A1' r.lines.length cp1, .slice A2' r.accounts.length cp2, .slice A3' r.guilds.length cp3, .slice A4' r.quotas.length cp4, .int .i64 r.orders, .int .i64 r.audits, .int .i64 r.rate, .int .i64 r.rounds] 28)).alloc (.cells #[.int .i64 i] 3)) W → W.cell? ⟨w.heap.size + 1, 0, none⟩ = some (.int .i64 i)) := Lib.hid fun W hg => by
    rw [cell_of_row _ _ _ _ _ _ (keepB I0.out hg)]
    rfl
  obtain ⟨r0, r1, r2, r3, r4, r5, r6, r7, r8⟩ := re_cells R0.out
  have i0 := IC.out _ (Grew.refl _)
  generalize mayBe r = b at *
  generalize hbi : inn r.labels.length i = bi at *
  cases b with
  | false =>
    rw [if_neg (by simp)]
    clear HII
    go_enter Tryz.func17, Tryz.ntmps17
    go_wp2_with fail
    with_reducible refine (HRI.out _ G0.out).mono ?_
    rintro e w1 ⟨rfl, hg⟩
    have G1 := Lib.hid (G0.out.trans hg)
    clear hg r0 r1 r2 r3 r4 r5 r6 r7 r8 i0
    go_wp2
    go_returns
    exact ⟨rfl, G1.out⟩
  | true =>
    rw [if_pos rfl]
    cases bi with
    | false =>
      rw [if_neg (by simp)]
      clear HII
      go_enter Tryz.func17, Tryz.ntmps17
      go_wp2_with fail
      with_reducible refine (HRI.out _ G0.out).mono ?_
      rintro e w1 ⟨rfl, hg⟩
      have G1 := Lib.hid (G0.out.trans hg)
      have R1 := Lib.hid (keepB R0.out hg)
      have k0 := IC.out _ hg
      clear hg r0 r1 r2 r3 r4 r5 r6 r7 r8 i0
      obtain ⟨r0, r1, r2, r3, r4, r5, r6, r7, r8⟩ := re_cells R1.out
      go_wp2_with fail
      refine (HI.out _).mono ?_
      rintro e w2 ⟨rfl, hg⟩
      have G2 := Lib.hid (G1.out.trans hg)
      clear hg r0 r1 r2 r3 r4 r5 r6 r7 r8 k0
      go_wp2
      go_returns
      exact ⟨rfl, G2.out⟩
    | true =>
      rw [if_pos rfl]
      obtain ⟨q0, q1⟩ := HII rfl
      clear HII
      obtain ⟨k, rfl⟩ := Int.eq_ofNat_of_zero_le q0
      simp only [Int.toNat_natCast] at *
      have HX : Hid (∀ W, Grew ((w.alloc (Obj.cells #[.slice A0' r.labels.length cp0, .slice A1' r.lines.length cp1, .slice A2' r.accounts.length cp2, .slice A3' r.guilds.length cp3, .slice A4' r.quotas.length cp4, .int .i64 r.orders, .int .i64 r.audits, .int .i64 r.rate, .int .i64 r.rounds] 28)).alloc (.cells #[.int .i64 (k : Int)] 3)) W → Calls Tryz.prog 58 #[.slice A3' r.guilds.length cp3, .func (.func 59) #[] #[.pointer (some ⟨w.heap.size, 0, none⟩), .pointer (some ⟨w.heap.size + 1, 0, none⟩)]] W fun e w' => e = .returned (.int .i64 (fidx r.guilds fun x => decide ((⟨0, bitOf x.bit⟩ : La) = RRule1.lat r.labels k))) ∧ Grew W w') := Lib.hid fun W hg => by
        refine idxfG_any _ r.guilds (fun x => decide ((⟨0, bitOf x.bit⟩ : La) = RRule1.lat r.labels k)) _ _ W (HL3.out.grew (G0.out.trans hg)) fun x _ W2 hg2 => ?_
        exact clo_guild r x k _ _ _ _ _ _ _ W2 (by omega) (HL0.out.grew ((G0.out.trans hg).trans hg2)) (keepB R0.out (hg.trans hg2)) (IC.out _ (hg.trans hg2))
      generalize (fidx r.guilds fun x => decide ((⟨0, bitOf x.bit⟩ : La) = RRule1.lat r.labels k)) = res at *
      go_enter Tryz.func17, Tryz.ntmps17
      go_wp2_with fail
      with_reducible refine (HRI.out _ G0.out).mono ?_
      rintro e w1 ⟨rfl, hg⟩
      have G1 := Lib.hid (G0.out.trans hg)
      have Q1 := Lib.hid hg
      have R1 := Lib.hid (keepB R0.out hg)
      have k0 := IC.out _ hg
      clear hg r0 r1 r2 r3 r4 r5 r6 r7 r8 i0
      obtain ⟨r0, r1, r2, r3, r4, r5, r6, r7, r8⟩ := re_cells R1.out
      go_wp2_with fail
      refine (HI.out _).mono ?_
      rintro e w2 ⟨rfl, hg⟩
      have G2 := Lib.hid (G1.out.trans hg)
      have Q2 := Lib.hid (Q1.out.trans hg)
      have R2 := Lib.hid (keepB R1.out hg)
      clear hg r0 r1 r2 r3 r4 r5 r6 r7 r8 k0
      obtain ⟨r0, r1, r2, r3, r4, r5, r6, r7, r8⟩ := re_cells R2.out
      go_wp2_with fail
      refine (HX.out _ Q2.out).mono ?_
      rintro e w3 ⟨rfl, hg⟩
      have G3 := Lib.hid (G2.out.trans hg)
      clear hg r0 r1 r2 r3 r4 r5 r6 r7 r8
      go_wp2
      go_returns
      exact ⟨rfl, G3.out⟩
end Go.Proofs.YtmegdgeiikhflaaGreat.HB
