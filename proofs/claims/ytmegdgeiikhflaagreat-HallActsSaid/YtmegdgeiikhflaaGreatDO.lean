/-
  The place of a guild's hall, and the guild of a hall, as the document tells them.
  Conditions: of a realm that may be.
-/
import Derived.Test.YtmegdgeiikhflaaGreatDC
namespace Go.Proofs.YtmegdgeiikhflaaGreat.DO
set_option maxRecDepth 100000
open Go Go.RowKit Go.Lib Go.Proofs.YtmegdgeiikhflaaGreat Go.Proofs.YtmegdgeiikhflaaGreat.Facts Go.Proofs.YtmegdgeiikhflaaGreat.Plain Go.Proofs.YtmegdgeiikhflaaGreat.Ints Go.Proofs.YtmegdgeiikhflaaGreat.RRows Go.Proofs.YtmegdgeiikhflaaGreat.LBox Go.Proofs.YtmegdgeiikhflaaGreat.RSmall Go.Proofs.YtmegdgeiikhflaaGreat.RFind Go.Proofs.YtmegdgeiikhflaaGreat.RAll Go.Proofs.YtmegdgeiikhflaaGreat.RRules Go.Proofs.YtmegdgeiikhflaaGreat.RRule3 Go.Proofs.YtmegdgeiikhflaaGreat.RRight Go.Proofs.YtmegdgeiikhflaaGreat.HA Go.Proofs.YtmegdgeiikhflaaGreat.HB Go.Proofs.YtmegdgeiikhflaaGreat.HG Go.Proofs.YtmegdgeiikhflaaGreat.HC Go.Proofs.YtmegdgeiikhflaaGreat.HD

def hallAt (r : Re) (k : Nat) : Int := fidx r.labels fun x => decide (x = (⟨0, bitOf (gu r k).bit⟩ : La))
theorem chain {l : List La} (h : RRule1.rising l = true) : ∀ (d i : Nat), i + d < l.length → order (RRule1.lat l i).lev (RRule1.lat l i).set (RRule1.lat l (i + d)).lev (RRule1.lat l (i + d)).set ≤ 0
  | 0, i, hi => by
    rw [Nat.add_zero, (Lat.order_zero _ _ _ _).2 ⟨rfl, rfl⟩]
    omega
  | d + 1, i, hi => by
    have h1 := chain h d i (by omega)
    unfold RRule1.rising at h
    rw [List.all_eq_true] at h
    have h2 := h (i + d + 1) (List.mem_range.2 (by omega))
    rw [RRule1.rok_succ] at h2
    have h3 := of_decide_eq_true h2
    exact Lat.order_trans h1 (by rw [show i + (d + 1) = i + d + 1 by omega]; omega)
theorem distinct {l : List La} (h : RRule1.rising l = true) {i j : Nat} (hij : i < j) (hj : j < l.length) : ¬ RRule1.lat l i = RRule1.lat l j := by
  intro e
  have h1 := chain h (j - (i + 1)) (i + 1) (by omega)
  rw [show i + 1 + (j - (i + 1)) = j by omega, ← e] at h1
  have h0 := h
  unfold RRule1.rising at h0
  rw [List.all_eq_true] at h0
  have h2 := h0 (i + 1) (List.mem_range.2 (by omega))
  rw [RRule1.rok_succ] at h2
  have h3 := of_decide_eq_true h2
  rw [Lat.order_neg] at h1
  omega
theorem may_rising {r : Re} (h : mayBe r = true) : RRule1.rising r.labels = true := by
  have h1 := (may_parts h).2.2
  unfold rule1 at h1
  simp only [Bool.and_eq_true] at h1
  exact h1.2.2
theorem hall_is {r : Re} (h : mayBe r = true) {k p : Nat} (hp : p < r.labels.length) : hallAt r k = (p : Int) ↔ (⟨0, bitOf (gu r k).bit⟩ : La) = RRule1.lat r.labels p := by
  unfold hallAt
  constructor
  · intro e
    unfold fidx at e
    split at e
    · rename_i q hq
      obtain ⟨hql, h1, _⟩ := List.findIdx?_eq_some_iff_getElem.1 hq
      have hqp : q = p := by omega
      subst hqp
      have h2 := of_decide_eq_true h1
      have h3 := RRule1.lat_get hp
      rw [List.getElem?_eq_getElem hp] at h3
      injection h3 with h3
      rw [← h3, h2]
    · omega
  · intro e
    refine fidx_hit (RRule1.lat_get hp) (decide_eq_true e.symm) fun j y hj hy => decide_eq_false fun hye => ?_
    have hjl := (List.getElem?_eq_some_iff.1 hy).1
    rw [RRule1.lat_get hjl] at hy
    cases hy
    exact distinct (may_rising h) hj hp (hye.trans e)
set_option maxHeartbeats 4000000 in
theorem hallOf_any (v : Value) (r : Re) (k : Nat) (w : World) (h : ReIs w v r) (hm : mayBe r = true) (hk : k < r.guilds.length) : Calls Tryz.prog 22 #[v, .int .i64 (k : Int)] w fun e w' => e = .returned (.int .i64 (hallAt r k)) ∧ Grew w w' := by
  obtain ⟨v0, v1, v2, v3, v4, rfl, h0, h1, h2, h3, h4⟩ := h
  have HPL := Lib.hid (fun (a : La) W hg => placeL_any v0 r.labels a W (h0.grew (w' := W) hg))
  obtain ⟨ad3, c4, e3, hc3, f0, f1⟩ := Gs_at h3 (gu_get hk)
  obtain ⟨A0', cp0, rfl, _⟩ := h0.slice
  obtain ⟨A1', cp1, rfl, _⟩ := id h1
  obtain ⟨A2', cp2, rfl, _⟩ := h2.slice
  obtain ⟨A3', cp3, rfl, _⟩ := h3.slice
  obtain ⟨A4', cp4, rfl, _⟩ := h4.slice
  injection e3 with e31 _ e33
  subst e31 e33
  obtain ⟨b0, b1⟩ := DC.bit_in hm hk
  obtain ⟨kb, hkb⟩ := Int.eq_ofNat_of_zero_le b0
  have hb64 : kb < 64 := by rw [hkb] at b1; exact Int.ofNat_lt.1 b1
  have HHA := Lib.hid (fun W => rhall_any kb hb64 W)
  have HPA := Lib.hid (fun W hg => HPL.out ⟨0, bitOf (kb : Int)⟩ W hg)
  have F0 : Hid (w.cell? (ad3.add (k * 2)) = some (.int .i64 (kb : Int))) := Lib.hid (by rw [← hkb]; exact f0)
  have hres : hallAt r k = fidx r.labels fun x => decide (x = (⟨0, bitOf (kb : Int)⟩ : La)) := by unfold hallAt; rw [hkb]
  rw [hres]
  have hk1 : (k : Int) < (r.guilds.length : Int) := DH.p3 hk
  have hk0 : ¬ (k : Int) < 0 := by omega
  have hk2 : ¬ (r.guilds.length : Int) ≤ (k : Int) := by omega
  clear h0 h1 h2 h3 h4 f0 f1 b0 b1 hkb hb64 hres hm hk
  generalize (fidx r.labels fun x => decide (x = (⟨0, bitOf (kb : Int)⟩ : La))) = fi at *
  generalize bitOf (kb : Int) = bt at *
  have G0 : Hid (Grew w (w.alloc (Obj.cells #[.slice A0' r.labels.length cp0, .slice A1' r.lines.length cp1, .slice A2' r.accounts.length cp2, .slice (some ad3) r.guilds.length cp3, .slice A4' r.quotas.length cp4, .int .i64 r.orders, .int .i64 r.audits, .int .i64 r.rate, .int .i64 r.rounds] 28))) := Lib.hid (by unfold Grew; go_grown)
  have R0 : Hid ((w.alloc (Obj.cells #[.slice A0' r.labels.length cp0, .slice A1' r.lines.length cp1, .slice A2' r.accounts.length cp2, .slice (some ad3) r.guilds.length cp3, .slice A4' r.quotas.length cp4, .int .i64 r.orders, .int .i64 r.audits, .int .i64 r.rate, .int .i64 r.rounds] 28)).heap[w.heap.size]? = some (rcell (.slice A0' r.labels.length cp0) (.slice A1' r.lines.length cp1) (.slice A2' r.accounts.length cp2) (.slice (some ad3) r.guilds.length cp3) (.slice A4' r.quotas.length cp4) r.orders r.audits r.rate r.rounds)) := Lib.hid (heap_alloc_new w _)
  obtain ⟨r0, r1, r2, r3, r4, r5, r6, r7, r8⟩ := re_cells R0.out
  go_enter Tryz.func22, Tryz.ntmps22
  go_wp2
  refine Facts.wp_region_text (by kernel_rfl) (by kernel_rfl) ?_
  apply Facts.Lex.exact [] _ (by kernel_rfl)
  · intro u W hC _
    unfold Facts.one
    go_simp
    first | exact ⟨Grew.refl _, rfl⟩ | rfl
  simp only [Act.put, List.setIfInBounds_toArray, List.set_cons_zero, List.set_cons_succ, Nat.zero_add]
  apply Facts.Lex.exact [] _ (by kernel_rfl)
  · intro u W hC _
    obtain ⟨r0, r1, r2, r3, r4, r5, r6, r7, r8⟩ := re_cells (keepB R0.out hC)
    unfold Facts.one
    go_simp
    first | exact ⟨Grew.refl _, rfl⟩ | rfl
  simp only [Act.put, List.setIfInBounds_toArray, List.set_cons_zero, List.set_cons_succ, Nat.reduceAdd]
  apply Facts.Lex.exact [] _ (by kernel_rfl)
  · intro u W hC _
    unfold Facts.one
    go_simp
    first | exact ⟨Grew.refl _, rfl⟩ | rfl
  simp only [Act.put, List.setIfInBounds_toArray, List.set_cons_zero, List.set_cons_succ, Nat.reduceAdd]
  apply Facts.Lex.exact [] _ (by kernel_rfl)
  · intro u W hC _
    obtain ⟨r0, r1, r2, r3, r4, r5, r6, r7, r8⟩ := re_cells (keepB R0.out hC)
    unfold Facts.one
    go_simp
    first | exact ⟨Grew.refl _, rfl⟩ | rfl
  simp only [Act.put, List.setIfInBounds_toArray, List.set_cons_zero, List.set_cons_succ, Nat.reduceAdd]
  apply Facts.Lex.exact [] _ (by kernel_rfl)
  · intro u W hC _
    unfold Facts.one
    go_simp
    first | exact ⟨Grew.refl _, rfl⟩ | rfl
  simp only [Act.put, List.setIfInBounds_toArray, List.set_cons_zero, List.set_cons_succ, Nat.reduceAdd]
  apply Facts.Lex.exact [] _ (by kernel_rfl)
  · intro u W hC _
    unfold Facts.one
    go_simp
    first | exact ⟨Grew.refl _, rfl⟩ | rfl
  simp only [Act.put, List.setIfInBounds_toArray, List.set_cons_zero, List.set_cons_succ, Nat.reduceAdd]
  apply Facts.Lex.exact [] _ (by kernel_rfl)
  · intro u W hC _
    unfold Facts.one
    go_simp
    first | exact ⟨Grew.refl _, rfl⟩ | rfl
  simp only [Act.put, List.setIfInBounds_toArray, List.set_cons_zero, List.set_cons_succ, Nat.reduceAdd]
  apply Facts.Lex.exact [] _ (by kernel_rfl)
  · intro u W hC _
    have f0 := cellB (G0.out.trans hC) F0.out
    unfold Facts.one
    go_simp
    first | exact ⟨Grew.refl _, rfl⟩ | rfl
  simp only [Act.put, List.setIfInBounds_toArray, List.set_cons_zero, List.set_cons_succ, Nat.reduceAdd]
  apply Facts.Lex.exact [] _ (by kernel_rfl)
  · intro u W hC _
    unfold Facts.one
    go_simp
    first | exact ⟨Grew.refl _, rfl⟩ | rfl | (refine (HHA.out W).mono ?_; rintro e w' ⟨rfl, hg⟩; exact ⟨_, rfl, hg, rfl⟩)
  simp only [Act.put, List.setIfInBounds_toArray, List.set_cons_zero, List.set_cons_succ, Nat.reduceAdd]
  apply Facts.Lex.exact [] _ (by kernel_rfl)
  · intro u W hC _
    unfold Facts.one
    go_simp
    first | exact ⟨Grew.refl _, rfl⟩ | rfl | (refine (HPA.out W (G0.out.trans hC)).mono ?_; rintro e w' ⟨rfl, hg⟩; exact ⟨_, rfl, hg, rfl⟩)
  simp only [Act.put, List.setIfInBounds_toArray, List.set_cons_zero, List.set_cons_succ, Nat.reduceAdd]
  apply Facts.Lex.exact [] _ (by kernel_rfl)
  · intro u W hC _
    unfold Facts.one
    go_simp
    first | exact ⟨Grew.refl _, rfl⟩ | rfl
  simp only [Act.put, List.setIfInBounds_toArray, List.set_cons_zero, List.set_cons_succ, Nat.reduceAdd]
  refine Facts.Lex.done fun u W2 hC hL => ?_
  have G9 := Lib.hid (G0.out.trans hC)
  clear hC hL
  go_wp2
  go_returns
  exact ⟨rfl, G9.out⟩
set_option maxHeartbeats 4000000 in
theorem rguildOf_any (v : Value) (r : Re) (p : Nat) (w : World) (h : ReIs w v r) (hm : mayBe r = true) (hp : p < r.labels.length) : Calls Tryz.prog 23 #[v, .int .i64 (p : Int)] w fun e w' => e = .returned (.int .i64 (guildOf r (p : Int))) ∧ Grew w w' := by
  have HHO := Lib.hid (fun k hk W hg => hallOf_any v r k W (h.grew (w' := W) hg) hm hk)
  have hgo : guildOf r (p : Int) = fidx r.guilds (fun x => decide ((⟨0, bitOf x.bit⟩ : La) = RRule1.lat r.labels p)) := by
    unfold guildOf
    rw [if_pos hm, if_pos (by unfold inn; simp; omega)]
    rfl
  have HIT : Hid (∀ k, k < r.guilds.length → hallAt r k = (p : Int) → (∀ j, j < k → ¬ hallAt r j = (p : Int)) → guildOf r (p : Int) = (k : Int)) := Lib.hid fun k hk e hj => by
    rw [hgo]
    refine fidx_hit (gu_get hk) (decide_eq_true ((hall_is hm hp).1 e)) fun j y hjk hy => decide_eq_false fun hye => ?_
    rw [gu_get (by omega)] at hy
    cases hy
    exact hj j hjk ((hall_is hm hp).2 hye)
  have MISS : Hid ((∀ j, j < r.guilds.length → ¬ hallAt r j = (p : Int)) → guildOf r (p : Int) = -1) := Lib.hid fun hj => by
    rw [hgo]
    refine fidx_miss fun j y hy => decide_eq_false fun hye => ?_
    have hjl := (List.getElem?_eq_some_iff.1 hy).1
    rw [gu_get hjl] at hy
    cases hy
    exact hj j hjl ((hall_is hm hp).2 hye)
  have HG8 := Lib.hid (sizes hm).2.1
  generalize guildOf r (p : Int) = res at *
  obtain ⟨v0, v1, v2, v3, v4, rfl, h0, h1, h2, h3, h4⟩ := h
  obtain ⟨A0', cp0, rfl, _⟩ := h0.slice
  obtain ⟨A1', cp1, rfl, _⟩ := id h1
  obtain ⟨A2', cp2, rfl, _⟩ := h2.slice
  obtain ⟨A3', cp3, rfl, _⟩ := h3.slice
  obtain ⟨A4', cp4, rfl, _⟩ := h4.slice
  clear h0 h1 h2 h3 h4 hgo hm hp
  have G0 : Hid (Grew w (w.alloc (Obj.cells #[.slice A0' r.labels.length cp0, .slice A1' r.lines.length cp1, .slice A2' r.accounts.length cp2, .slice A3' r.guilds.length cp3, .slice A4' r.quotas.length cp4, .int .i64 r.orders, .int .i64 r.audits, .int .i64 r.rate, .int .i64 r.rounds] 28))) := Lib.hid (by unfold Grew; go_grown)
  have R0 : Hid ((w.alloc (Obj.cells #[.slice A0' r.labels.length cp0, .slice A1' r.lines.length cp1, .slice A2' r.accounts.length cp2, .slice A3' r.guilds.length cp3, .slice A4' r.quotas.length cp4, .int .i64 r.orders, .int .i64 r.audits, .int .i64 r.rate, .int .i64 r.rounds] 28)).heap[w.heap.size]? = some (rcell (.slice A0' r.labels.length cp0) (.slice A1' r.lines.length cp1) (.slice A2' r.accounts.length cp2) (.slice A3' r.guilds.length cp3) (.slice A4' r.quotas.length cp4) r.orders r.audits r.rate r.rounds)) := Lib.hid (heap_alloc_new w _)
  go_enter Tryz.func23, Tryz.ntmps23
  go_wp2
  go_loopg [5] r.guilds.length (fun g s5 wx => ∃ k : Nat, k + g = r.guilds.length ∧ s5 = .int .i64 k ∧ Hid (∀ j, j < k → ¬ hallAt r j = (p : Int)) ∧ Hid (Grew (w.alloc (Obj.cells #[.slice A0' r.labels.length cp0, .slice A1' r.lines.length cp1, .slice A2' r.accounts.length cp2, .slice A3' r.guilds.length cp3, .slice A4' r.quotas.length cp4, .int .i64 r.orders, .int .i64 r.audits, .int .i64 r.rate, .int .i64 r.rounds] 28)) wx))
  case atStart => exact ⟨0, Nat.zero_add _, rfl, Lib.hid (fun j h => absurd h (Nat.not_lt_zero _)), Lib.hid (Grew.refl _)⟩
  case round =>
    obtain ⟨k, hkg, rfl, HJ, HG⟩ := hrel
    obtain ⟨r0, r1, r2, r3, r4, r5, r6, r7, r8⟩ := re_cells (keepB R0.out HG.out)
    cases gk with
    | zero =>
      have hkz : ¬ ((k : Int) < (r.guilds.length : Int)) := DN.m8 hkg
      have HR := Lib.hid (MISS.out fun j hj => HJ.out j (DH.p4 hkg j hj))
      clear hkg
      go_wp2
      go_returns
      refine ⟨?_, G0.out.trans HG.out⟩
      rw [HR.out]
      try rfl
    | succ g =>
      have hkl : k < r.guilds.length := DH.p2 hkg
      have hkz : (k : Int) < (r.guilds.length : Int) := DH.p3 hkl
      have hkw : wrap64 ((k : Int) + 1) = (k : Int) + 1 := DN.m10 hkg HG8.out
      have HHK := Lib.hid (fun W hg => HHO.out k hkl W hg)
      have HIK := Lib.hid (HIT.out k hkl)
      have HST : Hid (¬ hallAt r k = (p : Int) → ∀ j, j < k + 1 → ¬ hallAt r j = (p : Int)) := Lib.hid fun h j hj => by
        rcases Nat.lt_succ_iff_lt_or_eq.1 hj with h1 | h1
        · exact HJ.out j h1
        · rw [h1]; exact h
      have HKG := Lib.hid hkg
      clear hkg hkl
      obtain ⟨hv, hhv⟩ : ∃ hv, hallAt r k = hv := ⟨_, rfl⟩
      rw [hhv] at HHK HIK HST
      clear hhv
      by_cases he : hv = (p : Int)
      · have HR := Lib.hid (HIK.out he HJ.out)
        have hb : (hv == (p : Int)) = true := by simpa using he
        clear he
        go_wp2_with fail
        with_reducible refine (HHK.out _ (G0.out.trans HG.out)).mono ?_
        rintro e w3 ⟨rfl, hg⟩
        have G3 := Lib.hid ((G0.out.trans HG.out).trans hg)
        clear hg r0 r1 r2 r3 r4 r5 r6 r7 r8
        go_wp2
        go_returns
        refine ⟨?_, G3.out⟩
        rw [HR.out]
        try rfl
      · have HS4 := Lib.hid (HST.out he)
        have hb : (hv == (p : Int)) = false := by simpa using he
        clear he
        go_wp2_with fail
        with_reducible refine (HHK.out _ (G0.out.trans HG.out)).mono ?_
        rintro e w3 ⟨rfl, hg⟩
        have G3 := Lib.hid (HG.out.trans hg)
        clear hg r0 r1 r2 r3 r4 r5 r6 r7 r8
        go_wp2
        go_roundg g
        case measure => exact Nat.lt_succ_self _
        case rel => exact ⟨k + 1, DN.m4 HKG.out, by first | rfl | simp [hkw], HS4, G3⟩
end Go.Proofs.YtmegdgeiikhflaaGreat.DO
