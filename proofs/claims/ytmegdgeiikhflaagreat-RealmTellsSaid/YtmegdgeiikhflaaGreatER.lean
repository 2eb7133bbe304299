/-
  The document's places of a realm, and the law RealmTells: DH DC DO EI EJ EK EL EM in one text.
  Conditions: those that each lemma names.
-/
import Derived.Test.YtmegdgeiikhflaaGreatHC
import Derived.Test.YtmegdgeiikhflaaGreatDR
import Derived.Test.YtmegdgeiikhflaaGreatDN
import Derived.Test.YtmegdgeiikhflaaGreatHD
import Derived.Test.YtmegdgeiikhflaaGreatDG
import Derived.Test.YtmegdgeiikhflaaGreatLat
import Derived.Test.YtmegdgeiikhflaaGreatEQ
import Derived.Test.YtmegdgeiikhflaaGreatHO
namespace Go.Proofs.YtmegdgeiikhflaaGreat.DH
set_option maxRecDepth 100000
open Go Go.RowKit Go.Lib Go.Proofs.YtmegdgeiikhflaaGreat Go.Proofs.YtmegdgeiikhflaaGreat.Facts Go.Proofs.YtmegdgeiikhflaaGreat.Plain Go.Proofs.YtmegdgeiikhflaaGreat.Ints Go.Proofs.YtmegdgeiikhflaaGreat.RRows Go.Proofs.YtmegdgeiikhflaaGreat.LBox Go.Proofs.YtmegdgeiikhflaaGreat.RSmall Go.Proofs.YtmegdgeiikhflaaGreat.RFind Go.Proofs.YtmegdgeiikhflaaGreat.RAll Go.Proofs.YtmegdgeiikhflaaGreat.RRules Go.Proofs.YtmegdgeiikhflaaGreat.RRule3 Go.Proofs.YtmegdgeiikhflaaGreat.RRight Go.Proofs.YtmegdgeiikhflaaGreat.HA Go.Proofs.YtmegdgeiikhflaaGreat.HB Go.Proofs.YtmegdgeiikhflaaGreat.HG Go.Proofs.YtmegdgeiikhflaaGreat.HC

theorem p1 {k q n m : Nat} (h : k + (q + 1) = n) (h2 : n = m) : k < m := by omega
theorem p2 {k q n : Nat} (h : k + (q + 1) = n) : k < n := by omega
theorem p3 {k n : Nat} (h : k < n) : (k : Int) < (n : Int) := by omega
theorem p4 {i k : Nat} (h : k + 0 = i) (j : Nat) (hj : j < i) : j < k := by omega
end Go.Proofs.YtmegdgeiikhflaaGreat.DH
namespace Go.Proofs.YtmegdgeiikhflaaGreat.DC
set_option maxRecDepth 100000
open Go Go.RowKit Go.Lib Go.Proofs.YtmegdgeiikhflaaGreat Go.Proofs.YtmegdgeiikhflaaGreat.Facts Go.Proofs.YtmegdgeiikhflaaGreat.Plain Go.Proofs.YtmegdgeiikhflaaGreat.Ints Go.Proofs.YtmegdgeiikhflaaGreat.RRows Go.Proofs.YtmegdgeiikhflaaGreat.LBox Go.Proofs.YtmegdgeiikhflaaGreat.RSmall Go.Proofs.YtmegdgeiikhflaaGreat.RFind Go.Proofs.YtmegdgeiikhflaaGreat.RAll Go.Proofs.YtmegdgeiikhflaaGreat.RRules Go.Proofs.YtmegdgeiikhflaaGreat.RRule3 Go.Proofs.YtmegdgeiikhflaaGreat.RRight Go.Proofs.YtmegdgeiikhflaaGreat.HA Go.Proofs.YtmegdgeiikhflaaGreat.HB Go.Proofs.YtmegdgeiikhflaaGreat.HG Go.Proofs.YtmegdgeiikhflaaGreat.HC Go.Proofs.YtmegdgeiikhflaaGreat.HD

theorem bit_in {r : Re} (h : mayBe r = true) {k : Nat} (hk : k < r.guilds.length) : 0 ≤ (gu r k).bit ∧ (gu r k).bit < 64 := by
  have h4 := (may_parts h).2.1
  unfold rule4 RGuilds.guildsOk at h4
  simp only [Bool.and_eq_true, decide_eq_true_eq, List.all_eq_true, List.mem_range] at h4
  have := h4.2.1 k hk
  rw [RGuilds.gk_at r k _ (gu_get hk)] at this
  simp only [Bool.and_eq_true, decide_eq_true_eq] at this
  have h5 := this.1
  unfold hallErr at h5
  by_cases h6 : 0 ≤ (gu r k).bit ∧ (gu r k).bit < 64
  · exact h6
  · rw [if_neg h6] at h5
    omega
theorem lev_in {r : Re} (h : mayBe r = true) {k : Nat} (hk : k < r.labels.length) : 0 ≤ (RRule1.lat r.labels k).lev := by
  have h1 := (may_parts h).2.2
  unfold rule1 at h1
  simp only [Bool.and_eq_true] at h1
  have := DL.lat_all.1 h1.2.1 k hk
  unfold may at this
  simp only [Bool.and_eq_true, decide_eq_true_eq] at this
  exact this.1
theorem under_is {r : Re} (h : mayBe r = true) {p k kb : Nat} (hp : p < r.labels.length) (hk : k < r.guilds.length) (hb : (gu r k).bit = (kb : Int)) : under r p k = (RRule1.lat r.labels p).set.getLsbD kb := by
  have h64 : kb < 64 := by have := (bit_in h hk).2; omega
  unfold under
  rw [Bool.eq_iff_iff, Lat.le_iff, hb]
  constructor
  · rintro ⟨_, h2⟩
    exact h2 kb (by rw [DG.bitOf_at _ _ h64]; simp)
  · intro h2
    refine ⟨lev_in h hp, fun i hi => ?_⟩
    by_cases hi64 : i < 64
    · rw [DG.bitOf_at _ _ hi64] at hi
      have := of_decide_eq_true hi
      have e : i = kb := by omega
      rw [e]
      exact h2
    · rw [BitVec.getLsbD_of_ge _ _ (by omega)] at hi
      cases hi
end Go.Proofs.YtmegdgeiikhflaaGreat.DC
namespace Go.Proofs.YtmegdgeiikhflaaGreat.DO
set_option maxRecDepth 100000
open Go Go.RowKit Go.Lib Go.Proofs.YtmegdgeiikhflaaGreat Go.Proofs.YtmegdgeiikhflaaGreat.Facts Go.Proofs.YtmegdgeiikhflaaGreat.Plain Go.Proofs.YtmegdgeiikhflaaGreat.Ints Go.Proofs.YtmegdgeiikhflaaGreat.RRows Go.Proofs.YtmegdgeiikhflaaGreat.LBox Go.Proofs.YtmegdgeiikhflaaGreat.RSmall Go.Proofs.YtmegdgeiikhflaaGreat.RFind Go.Proofs.YtmegdgeiikhflaaGreat.RAll Go.Proofs.YtmegdgeiikhflaaGreat.RRules Go.Proofs.YtmegdgeiikhflaaGreat.RRule3 Go.Proofs.YtmegdgeiikhflaaGreat.RRight Go.Proofs.YtmegdgeiikhflaaGreat.HA Go.Proofs.YtmegdgeiikhflaaGreat.HB Go.Proofs.YtmegdgeiikhflaaGreat.HG Go.Proofs.YtmegdgeiikhflaaGreat.HC Go.Proofs.YtmegdgeiikhflaaGreat.HD

def hallAt (r : Re) (k : Nat) : Int := fidx r.labels fun x => decide (x = (⟨0, bitOf (gu r k).bit⟩ : La))
theorem chain {l : List La} (h : RRule1.rising l = true) : ∀ (d i : Nat), i + d < l.length → order (RRule1.lat l i).lev (RRule1.lat l i).set (RRule1.lat l (i + d)).lev (RRule1.lat l (i + d)).set ≤ 0
  | 0, i, hi => by
    rw [Nat.add_zero, (Lat.order_zero _ _ _ _).2 ⟨rfl, rfl⟩]
    omega
  | d + 1, i, hi => by
    have h1 := chain h d i (by omega)
    unfold RRule1.rising at h
    rw [List.all_eq_true] at h
    have h2 := h (i + d + 1) (List.mem_range.2 (by omega))
    rw [RRule1.rok_succ] at h2
    have h3 := of_decide_eq_true h2
    exact Lat.order_trans h1 (by rw [show i + (d + 1) = i + d + 1 by omega]; omega)
theorem distinct {l : List La} (h : RRule1.rising l = true) {i j : Nat} (hij : i < j) (hj : j < l.length) : ¬ RRule1.lat l i = RRule1.lat l j := by
  intro e
  have h1 := chain h (j - (i + 1)) (i + 1) (by omega)
  rw [show i + 1 + (j - (i + 1)) = j by omega, ← e] at h1
  have h0 := h
  unfold RRule1.rising at h0
  rw [List.all_eq_true] at h0
  have h2 := h0 (i + 1) (List.mem_range.2 (by omega))
  rw [RRule1.rok_succ] at h2
  have h3 := of_decide_eq_true h2
  rw [Lat.order_neg] at h1
  omega
theorem may_rising {r : Re} (h : mayBe r = true) : RRule1.rising r.labels = true := by
  have h1 := (may_parts h).2.2
  unfold rule1 at h1
  simp only [Bool.and_eq_true] at h1
  exact h1.2.2
theorem hall_is {r : Re} (h : mayBe r = true) {k p : Nat} (hp : p < r.labels.length) : hallAt r k = (p : Int) ↔ (⟨0, bitOf (gu r k).bit⟩ : La) = RRule1.lat r.labels p := by
  unfold hallAt
  constructor
  · intro e
    unfold fidx at e
    split at e
    · rename_i q hq
      obtain ⟨hql, h1, _⟩ := List.findIdx?_eq_some_iff_getElem.1 hq
      have hqp : q = p := by omega
      subst hqp
      have h2 := of_decide_eq_true h1
      have h3 := RRule1.lat_get hp
      rw [List.getElem?_eq_getElem hp] at h3
      injection h3 with h3
      rw [← h3, h2]
    · omega
  · intro e
    refine fidx_hit (RRule1.lat_get hp) (decide_eq_true e.symm) fun j y hj hy => decide_eq_false fun hye => ?_
    have hjl := (List.getElem?_eq_some_iff.1 hy).1
    rw [RRule1.lat_get hjl] at hy
    cases hy
    exact distinct (may_rising h) hj hp (hye.trans e)
set_option maxHeartbeats 4000000 in
theorem hallOf_any (v : Value) (r : Re) (k : Nat) (w : World) (h : ReIs w v r) (hm : mayBe r = true) (hk : k < r.guilds.length) : Calls Tryz.prog 22 #[v, .int .i64 (k : Int)] w fun e w' => e = .returned (.int .i64 (hallAt r k)) ∧ Grew w w' := by
  obtain ⟨v0, v1, v2, v3, v4, rfl, h0, h1, h2, h3, h4⟩ := h
  have HPL := Lib.hid (fun (a : La) W hg => placeL_any v0 r.labels a W (h0.grew (w' := W) hg))
  obtain ⟨ad3, c4, e3, hc3, f0, f1⟩ := Gs_at h3 (gu_get hk)
  obtain ⟨A0', cp0, rfl, _⟩ := h0.slice
  obtain ⟨A1', cp1, rfl, _⟩ := id h1
  obtain ⟨A2', cp2, rfl, _⟩ := h2.slice
  obtain ⟨A3', cp3, rfl, _⟩ := h3.slice
  obtain ⟨A4', cp4, rfl, _⟩ := h4.slice
  injection e3 with e31 _ e33
  subst e31 e33
  obtain ⟨b0, b1⟩ := DC.bit_in hm hk
  obtain ⟨kb, hkb⟩ := Int.eq_ofNat_of_zero_le b0
  have hb64 : kb < 64 := by rw [hkb] at b1; exact Int.ofNat_lt.1 b1
  have HHA := Lib.hid (fun W => rhall_any kb hb64 W)
  have HPA := Lib.hid (fun W hg => HPL.out ⟨0, bitOf (kb : Int)⟩ W hg)
  have F0 : Hid (w.cell? (ad3.add (k * 2)) = some (.int .i64 (kb : Int))) := Lib.hid (by rw [← hkb]; exact f0)
  have hres : hallAt r k = fidx r.labels fun x => decide (x = (⟨0, bitOf (kb : Int)⟩ : La)) := by unfold hallAt; rw [hkb]
  rw [hres]
  have hk1 : (k : Int) < (r.guilds.length : Int) := DH.p3 hk
  have hk0 : ¬ (k : Int) < 0 := by omega
  have hk2 : ¬ (r.guilds.length : Int) ≤ (k : Int) := by omega
  clear h0 h1 h2 h3 h4 f0 f1 b0 b1 hkb hb64 hres hm hk
  generalize (fidx r.labels fun x => decide (x = (⟨0, bitOf (kb : Int)⟩ : La))) = fi at *
  generalize bitOf (kb : Int) = bt at *
  have G0 : Hid (Grew w (w.alloc (Obj.cells #[.slice A0' r.labels.length cp0, .slice A1' r.lines.length cp1, .slice A2' r.accounts.length cp2, .slice (some ad3) r.guilds.length cp3, .slice A4' r.quotas.length cp4, .int .i64 r.orders, .int .i64 r.audits, .int .i64 r.rate, .int .i64 r.rounds] 28))) := Lib.hid (by unfold Grew; go_grown)
  have R0 : Hid ((w.alloc (Obj.cells #[.slice A0' r.labels.length cp0, .slice A1' r.lines.length cp1, .slice A2' r.accounts.length cp2, .slice (some ad3) r.guilds.length cp3, .slice A4' r.quotas.length cp4, .int .i64 r.orders, .int .i64 r.audits, .int .i64 r.rate, .int .i64 r.rounds] 28)).heap[w.heap.size]? = some (rcell (.slice A0' r.labels.length cp0) (.slice A1' r.lines.length cp1) (.slice A2' r.accounts.length cp2) (.slice (some ad3) r.guilds.length cp3) (.slice A4' r.quotas.length cp4) r.orders r.audits r.rate r.rounds)) := Lib.hid (heap_alloc_new w _)
  obtain ⟨r0, r1, r2, r3, r4, r5, r6, r7, r8⟩ := re_cells R0.out
  go_enter Tryz.func22, Tryz.ntmps22
  go_wp2
  refine Facts.wp_region_text (by kernel_rfl) (by kernel_rfl) ?_
  apply Facts.Lex.exact [] _ (by kernel_rfl)
  · intro u W hC _
    unfold Facts.one
    go_simp
    first | exact ⟨Grew.refl _, rfl⟩ | rfl
  simp only [Act.put, List.setIfInBounds_toArray, List.set_cons_zero, List.set_cons_succ, Nat.zero_add]
  apply Facts.Lex.exact [] _ (by kernel_rfl)
  · intro u W hC _
    obtain ⟨r0, r1, r2, r3, r4, r5, r6, r7, r8⟩ := re_cells (keepB R0.out hC)
    unfold Facts.one
    go_simp
    first | exact ⟨Grew.refl _, rfl⟩ | rfl
  simp only [Act.put, List.setIfInBounds_toArray, List.set_cons_zero, List.set_cons_succ, Nat.reduceAdd]
  apply Facts.Lex.exact [] _ (by kernel_rfl)
  · intro u W hC _
    unfold Facts.one
    go_simp
    first | exact ⟨Grew.refl _, rfl⟩ | rfl
  simp only [Act.put, List.setIfInBounds_toArray, List.set_cons_zero, List.set_cons_succ, Nat.reduceAdd]
  apply Facts.Lex.exact [] _ (by kernel_rfl)
  · intro u W hC _
    obtain ⟨r0, r1, r2, r3, r4, r5, r6, r7, r8⟩ := re_cells (keepB R0.out hC)
    unfold Facts.one
    go_simp
    first | exact ⟨Grew.refl _, rfl⟩ | rfl
  simp only [Act.put, List.setIfInBounds_toArray, List.set_cons_zero, List.set_cons_succ, Nat.reduceAdd]
  apply Facts.Lex.exact [] _ (by kernel_rfl)
  · intro u W hC _
    unfold Facts.one
    go_simp
    first | exact ⟨Grew.refl _, rfl⟩ | rfl
  simp only [Act.put, List.setIfInBounds_toArray, List.set_cons_zero, List.set_cons_succ, Nat.reduceAdd]
  apply Facts.Lex.exact [] _ (by kernel_rfl)
  · intro u W hC _
    unfold Facts.one
    go_simp
    first | exact ⟨Grew.refl _, rfl⟩ | rfl
  simp only [Act.put, List.setIfInBounds_toArray, List.set_cons_zero, List.set_cons_succ, Nat.reduceAdd]
  apply Facts.Lex.exact [] _ (by kernel_rfl)
  · intro u W hC _
    unfold Facts.one
    go_simp
    first | exact ⟨Grew.refl _, rfl⟩ | rfl
  simp only [Act.put, List.setIfInBounds_toArray, List.set_cons_zero, List.set_cons_succ, Nat.reduceAdd]
  apply Facts.Lex.exact [] _ (by kernel_rfl)
  · intro u W hC _
    have f0 := cellB (G0.out.trans hC) F0.out
    unfold Facts.one
    go_simp
    first | exact ⟨Grew.refl _, rfl⟩ | rfl
  simp only [Act.put, List.setIfInBounds_toArray, List.set_cons_zero, List.set_cons_succ, Nat.reduceAdd]
  apply Facts.Lex.exact [] _ (by kernel_rfl)
  · intro u W hC _
    unfold Facts.one
    go_simp
    first | exact ⟨Grew.refl _, rfl⟩ | rfl | (refine (HHA.out W).mono ?_; rintro e w' ⟨rfl, hg⟩; exact ⟨_, rfl, hg, rfl⟩)
  simp only [Act.put, List.setIfInBounds_toArray, List.set_cons_zero, List.set_cons_succ, Nat.reduceAdd]
  apply Facts.Lex.exact [] _ (by kernel_rfl)
  · intro u W hC _
    unfold Facts.one
    go_simp
    first | exact ⟨Grew.refl _, rfl⟩ | rfl | (refine (HPA.out W (G0.out.trans hC)).mono ?_; rintro e w' ⟨rfl, hg⟩; exact ⟨_, rfl, hg, rfl⟩)
  simp only [Act.put, List.setIfInBounds_toArray, List.set_cons_zero, List.set_cons_succ, Nat.reduceAdd]
  apply Facts.Lex.exact [] _ (by kernel_rfl)
  · intro u W hC _
    unfold Facts.one
    go_simp
    first | exact ⟨Grew.refl _, rfl⟩ | rfl
  simp only [Act.put, List.setIfInBounds_toArray, List.set_cons_zero, List.set_cons_succ, Nat.reduceAdd]
  refine Facts.Lex.done fun u W2 hC hL => ?_
  have G9 := Lib.hid (G0.out.trans hC)
  clear hC hL
  go_wp2
  go_returns
  exact ⟨rfl, G9.out⟩
set_option maxHeartbeats 4000000 in
theorem rguildOf_any (v : Value) (r : Re) (p : Nat) (w : World) (h : ReIs w v r) (hm : mayBe r = true) (hp : p < r.labels.length) : Calls Tryz.prog 23 #[v, .int .i64 (p : Int)] w fun e w' => e = .returned (.int .i64 (guildOf r (p : Int))) ∧ Grew w w' := by
  have HHO := Lib.hid (fun k hk W hg => hallOf_any v r k W (h.grew (w' := W) hg) hm hk)
  have hgo : guildOf r (p : Int) = fidx r.guilds (fun x => decide ((⟨0, bitOf x.bit⟩ : La) = RRule1.lat r.labels p)) := by
    unfold guildOf
    rw [if_pos hm, if_pos (by unfold inn; simp; omega)]
    rfl
  have HIT : Hid (∀ k, k < r.guilds.length → hallAt r k = (p : Int) → (∀ j, j < k → ¬ hallAt r j = (p : Int)) → guildOf r (p : Int) = (k : Int)) := Lib.hid fun k hk e hj => by
    rw [hgo]
    refine fidx_hit (gu_get hk) (decide_eq_true ((hall_is hm hp).1 e)) fun j y hjk hy => decide_eq_false fun hye => ?_
    rw [gu_get (by omega)] at hy
    cases hy
    exact hj j hjk ((hall_is hm hp).2 hye)
  have MISS : Hid ((∀ j, j < r.guilds.length → ¬ hallAt r j = (p : Int)) → guildOf r (p : Int) = -1) := Lib.hid fun hj => by
    rw [hgo]
    refine fidx_miss fun j y hy => decide_eq_false fun hye => ?_
    have hjl := (List.getElem?_eq_some_iff.1 hy).1
    rw [gu_get hjl] at hy
    cases hy
    exact hj j hjl ((hall_is hm hp).2 hye)
  have HG8 := Lib.hid (sizes hm).2.1
  generalize guildOf r (p : Int) = res at *
  obtain ⟨v0, v1, v2, v3, v4, rfl, h0, h1, h2, h3, h4⟩ := h
  obtain ⟨A0', cp0, rfl, _⟩ := h0.slice
  obtain ⟨A1', cp1, rfl, _⟩ := id h1
  obtain ⟨A2', cp2, rfl, _⟩ := h2.slice
  obtain ⟨A3', cp3, rfl, _⟩ := h3.slice
  obtain ⟨A4', cp4, rfl, _⟩ := h4.slice
  clear h0 h1 h2 h3 h4 hgo hm hp
  have G0 : Hid (Grew w (w.alloc (Obj.cells #[.slice A0' r.labels.length cp0, .slice A1' r.lines.length cp1, .slice A2' r.accounts.length cp2, .slice A3' r.guilds.length cp3, .slice A4' r.quotas.length cp4, .int .i64 r.orders, .int .i64 r.audits, .int .i64 r.rate, .int .i64 r.rounds] 28))) := Lib.hid (by unfold Grew; go_grown)
  have R0 : Hid ((w.alloc (Obj.cells #[.slice A0' r.labels.length cp0, .slice A1' r.lines.length cp1, .slice A2' r.accounts.length cp2, .slice A3' r.guilds.length cp3, .slice A4' r.quotas.length cp4, .int .i64 r.orders, .int .i64 r.audits, .int .i64 r.rate, .int .i64 r.rounds] 28)).heap[w.heap.size]? = some (rcell (.slice A0' r.labels.length cp0) (.slice A1' r.lines.length cp1) (.slice A2' r.accounts.length cp2) (.slice A3' r.guilds.length cp3) (.slice A4' r.quotas.length cp4) r.orders r.audits r.rate r.rounds)) := Lib.hid (heap_alloc_new w _)
  go_enter Tryz.func23, Tryz.ntmps23
  go_wp2
  go_loopg [5] r.guilds.length (fun g s5 wx => ∃ k : Nat, k + g = r.guilds.length ∧ s5 = .int .i64 k ∧ Hid (∀ j, j < k → ¬ hallAt r j = (p : Int)) ∧ Hid (Grew (w.alloc (Obj.cells #[.slice A0' r.labels.length cp0, .slice A1' r.lines.length cp1, .slice A2' r.accounts.length cp2, .slice A3' r.guilds.length cp3, .slice A4' r.quotas.length cp4, .int .i64 r.orders, .int .i64 r.audits, .int .i64 r.rate, .int .i64 r.rounds] 28)) wx))
  case atStart => exact ⟨0, Nat.zero_add _, rfl, Lib.hid (fun j h => absurd h (Nat.not_lt_zero _)), Lib.hid (Grew.refl _)⟩
  case round =>
    obtain ⟨k, hkg, rfl, HJ, HG⟩ := hrel
    obtain ⟨r0, r1, r2, r3, r4, r5, r6, r7, r8⟩ := re_cells (keepB R0.out HG.out)
    cases gk with
    | zero =>
      have hkz : ¬ ((k : Int) < (r.guilds.length : Int)) := DN.m8 hkg
      have HR := Lib.hid (MISS.out fun j hj => HJ.out j (DH.p4 hkg j hj))
      clear hkg
      go_wp2
      go_returns
      refine ⟨?_, G0.out.trans HG.out⟩
      rw [HR.out]
      try rfl
    | succ g =>
      have hkl : k < r.guilds.length := DH.p2 hkg
      have hkz : (k : Int) < (r.guilds.length : Int) := DH.p3 hkl
      have hkw : wrap64 ((k : Int) + 1) = (k : Int) + 1 := DN.m10 hkg HG8.out
      have HHK := Lib.hid (fun W hg => HHO.out k hkl W hg)
      have HIK := Lib.hid (HIT.out k hkl)
      have HST : Hid (¬ hallAt r k = (p : Int) → ∀ j, j < k + 1 → ¬ hallAt r j = (p : Int)) := Lib.hid fun h j hj => by
        rcases Nat.lt_succ_iff_lt_or_eq.1 hj with h1 | h1
        · exact HJ.out j h1
        · rw [h1]; exact h
      have HKG := Lib.hid hkg
      clear hkg hkl
      obtain ⟨hv, hhv⟩ : ∃ hv, hallAt r k = hv := ⟨_, rfl⟩
      rw [hhv] at HHK HIK HST
      clear hhv
      by_cases he : hv = (p : Int)
      · have HR := Lib.hid (HIK.out he HJ.out)
        have hb : (hv == (p : Int)) = true := by simpa using he
        clear he
        go_wp2_with fail
        with_reducible refine (HHK.out _ (G0.out.trans HG.out)).mono ?_
        rintro e w3 ⟨rfl, hg⟩
        have G3 := Lib.hid ((G0.out.trans HG.out).trans hg)
        clear hg r0 r1 r2 r3 r4 r5 r6 r7 r8
        go_wp2
        go_returns
        refine ⟨?_, G3.out⟩
        rw [HR.out]
        try rfl
      · have HS4 := Lib.hid (HST.out he)
        have hb : (hv == (p : Int)) = false := by simpa using he
        clear he
        go_wp2_with fail
        with_reducible refine (HHK.out _ (G0.out.trans HG.out)).mono ?_
        rintro e w3 ⟨rfl, hg⟩
        have G3 := Lib.hid (HG.out.trans hg)
        clear hg r0 r1 r2 r3 r4 r5 r6 r7 r8
        go_wp2
        go_roundg g
        case measure => exact Nat.lt_succ_self _
        case rel => exact ⟨k + 1, DN.m4 HKG.out, by first | rfl | simp [hkw], HS4, G3⟩
end Go.Proofs.YtmegdgeiikhflaaGreat.DO
namespace Go.Proofs.YtmegdgeiikhflaaGreat.EI
set_option maxRecDepth 100000
open Go Go.RowKit Go.Lib Go.Proofs.YtmegdgeiikhflaaGreat Go.Proofs.YtmegdgeiikhflaaGreat.Facts Go.Proofs.YtmegdgeiikhflaaGreat.Plain Go.Proofs.YtmegdgeiikhflaaGreat.Ints Go.Proofs.YtmegdgeiikhflaaGreat.RRows Go.Proofs.YtmegdgeiikhflaaGreat.LBox Go.Proofs.YtmegdgeiikhflaaGreat.RSmall Go.Proofs.YtmegdgeiikhflaaGreat.RFind Go.Proofs.YtmegdgeiikhflaaGreat.RAll Go.Proofs.YtmegdgeiikhflaaGreat.RRules Go.Proofs.YtmegdgeiikhflaaGreat.RRule3 Go.Proofs.YtmegdgeiikhflaaGreat.RRight Go.Proofs.YtmegdgeiikhflaaGreat.HA Go.Proofs.YtmegdgeiikhflaaGreat.HB Go.Proofs.YtmegdgeiikhflaaGreat.HG Go.Proofs.YtmegdgeiikhflaaGreat.HC Go.Proofs.YtmegdgeiikhflaaGreat.HD

theorem n3 {j k : Nat} (h : j < k + 1) (hn : ¬ j = k) : j < k := by omega
set_option maxHeartbeats 4000000 in
theorem rplace_any (v : Value) (r : Re) (a : La) (w : World) (h : ReIs w v r) (hm : mayBe r = true) : Calls Tryz.prog 21 #[v, .agg #[.int .i64 a.lev, .int .u64 (a.set.toNat : Int)]] w fun e w' => e = .returned (.int .i64 (RPlaces.place r a)) ∧ Grew w w' := by
  have hp : RPlaces.place r a = fidx r.labels (fun x => decide (x = a)) := by
    unfold RPlaces.place
    rw [if_pos hm]
    congr 1
    funext x
    exact decide_eq_decide.2 ⟨fun e => e.symm, fun e => e.symm⟩
  rw [hp]
  clear hp hm
  obtain ⟨v0, v1, v2, v3, v4, rfl, h0, h1, h2, h3, h4⟩ := h
  have HPL := Lib.hid (fun W hg => placeL_any v0 r.labels a W (h0.grew (w' := W) hg))
  obtain ⟨A0', cp0, rfl, _⟩ := h0.slice
  obtain ⟨A1', cp1, rfl, _⟩ := id h1
  obtain ⟨A2', cp2, rfl, _⟩ := h2.slice
  obtain ⟨A3', cp3, rfl, _⟩ := h3.slice
  obtain ⟨A4', cp4, rfl, _⟩ := h4.slice
  clear h0 h1 h2 h3 h4
  generalize fidx r.labels (fun x => decide (x = a)) = res at *
  have G0 : Hid (Grew w ((w.alloc (Obj.cells #[.slice A0' r.labels.length cp0, .slice A1' r.lines.length cp1, .slice A2' r.accounts.length cp2, .slice A3' r.guilds.length cp3, .slice A4' r.quotas.length cp4, .int .i64 r.orders, .int .i64 r.audits, .int .i64 r.rate, .int .i64 r.rounds] 28)).alloc (.cells #[.int .i64 a.lev, .int .u64 (a.set.toNat : Int)] 31))) := Lib.hid (by unfold Grew; go_grown)
  have R0 : Hid (((w.alloc (Obj.cells #[.slice A0' r.labels.length cp0, .slice A1' r.lines.length cp1, .slice A2' r.accounts.length cp2, .slice A3' r.guilds.length cp3, .slice A4' r.quotas.length cp4, .int .i64 r.orders, .int .i64 r.audits, .int .i64 r.rate, .int .i64 r.rounds] 28)).alloc (.cells #[.int .i64 a.lev, .int .u64 (a.set.toNat : Int)] 31)).heap[w.heap.size]? = some (rcell (.slice A0' r.labels.length cp0) (.slice A1' r.lines.length cp1) (.slice A2' r.accounts.length cp2) (.slice A3' r.guilds.length cp3) (.slice A4' r.quotas.length cp4) r.orders r.audits r.rate r.rounds)) := Lib.hid ((heap_alloc_old _ _ (by simp)).trans (heap_alloc_new w _))
  have A0 : Hid (((w.alloc (Obj.cells #[.slice A0' r.labels.length cp0, .slice A1' r.lines.length cp1, .slice A2' r.accounts.length cp2, .slice A3' r.guilds.length cp3, .slice A4' r.quotas.length cp4, .int .i64 r.orders, .int .i64 r.audits, .int .i64 r.rate, .int .i64 r.rounds] 28)).alloc (.cells #[.int .i64 a.lev, .int .u64 (a.set.toNat : Int)] 31)).heap[w.heap.size + 1]? = some (.cells #[.int .i64 a.lev, .int .u64 (a.set.toNat : Int)] 31 (0, 0))) := Lib.hid (heap_alloc2_new w _ _)
  obtain ⟨r0, r1, r2, r3, r4, r5, r6, r7, r8⟩ := re_cells R0.out
  obtain ⟨a0, a1, _, _⟩ := lab_cells A0.out
  go_enter Tryz.func21, Tryz.ntmps21
  go_wp2_with fail
  with_reducible refine (HPL.out _ G0.out).mono ?_
  rintro e w1 ⟨rfl, hg⟩
  have G1 := Lib.hid (G0.out.trans hg)
  clear hg r0 r1 r2 r3 r4 r5 r6 r7 r8 a0 a1
  go_wp2
  go_returns
  exact ⟨rfl, G1.out⟩
theorem hallP_in {r : Re} (hm : mayBe r = true) {k : Nat} (hk : k < r.guilds.length) : EA.hallP r (k : Int) = DO.hallAt r k := by
  unfold EA.hallP DO.hallAt
  rw [if_pos hm, if_pos (by unfold inn; simp; omega), Int.toNat_natCast, gu_get hk]
  simp only
  congr 1
  funext x
  exact decide_eq_decide.2 ⟨fun e => e.symm, fun e => e.symm⟩
theorem hallP_out {r : Re} {i : Int} (h : inn r.guilds.length i = false) : EA.hallP r i = -1 := by
  unfold EA.hallP
  rw [h]
  by_cases hr : mayBe r = true
  · rw [if_pos hr]; rfl
  · rw [if_neg hr]
set_option maxHeartbeats 4000000 in
theorem rhallOf_any (v : Value) (r : Re) (i : Int) (w : World) (h : ReIs w v r) (hm : mayBe r = true) : Calls Tryz.prog 22 #[v, .int .i64 i] w fun e w' => e = .returned (.int .i64 (EA.hallP r i)) ∧ Grew w w' := by
  by_cases hi : inn r.guilds.length i = true
  · have hj : 0 ≤ i ∧ i < r.guilds.length := by unfold inn at hi; simpa using hi
    obtain ⟨k, rfl⟩ := Int.eq_ofNat_of_zero_le hj.1
    have hk : k < r.guilds.length := by omega
    rw [hallP_in hm hk]
    exact DO.hallOf_any v r k w h hm hk
  · have hf : inn r.guilds.length i = false := by simpa using hi
    rw [hallP_out hf]
    have hj : i < 0 ∨ (r.guilds.length : Int) ≤ i := by
      by_cases h0 : 0 ≤ i
      · right
        by_cases h1 : i < r.guilds.length
        · exact absurd (show inn r.guilds.length i = true by unfold inn; simp [h0, h1]) hi
        · omega
      · left; omega
    clear hm hi hf
    obtain ⟨v0, v1, v2, v3, v4, rfl, h0, h1, h2, h3, h4⟩ := h
    obtain ⟨A0', cp0, rfl, _⟩ := h0.slice
    obtain ⟨A1', cp1, rfl, _⟩ := id h1
    obtain ⟨A2', cp2, rfl, _⟩ := h2.slice
    obtain ⟨A3', cp3, rfl, _⟩ := h3.slice
    obtain ⟨A4', cp4, rfl, _⟩ := h4.slice
    clear h0 h1 h2 h3 h4
    have G0 : Hid (Grew w (w.alloc (Obj.cells #[.slice A0' r.labels.length cp0, .slice A1' r.lines.length cp1, .slice A2' r.accounts.length cp2, .slice A3' r.guilds.length cp3, .slice A4' r.quotas.length cp4, .int .i64 r.orders, .int .i64 r.audits, .int .i64 r.rate, .int .i64 r.rounds] 28))) := Lib.hid (by unfold Grew; go_grown)
    have R0 : Hid ((w.alloc (Obj.cells #[.slice A0' r.labels.length cp0, .slice A1' r.lines.length cp1, .slice A2' r.accounts.length cp2, .slice A3' r.guilds.length cp3, .slice A4' r.quotas.length cp4, .int .i64 r.orders, .int .i64 r.audits, .int .i64 r.rate, .int .i64 r.rounds] 28)).heap[w.heap.size]? = some (rcell (.slice A0' r.labels.length cp0) (.slice A1' r.lines.length cp1) (.slice A2' r.accounts.length cp2) (.slice A3' r.guilds.length cp3) (.slice A4' r.quotas.length cp4) r.orders r.audits r.rate r.rounds)) := Lib.hid (heap_alloc_new w _)
    obtain ⟨r0, r1, r2, r3, r4, r5, r6, r7, r8⟩ := re_cells R0.out
    rcases hj with hj | hj
    · have hj1 : decide (i < 0) = true := decide_eq_true hj
      clear hj
      go_enter Tryz.func22, Tryz.ntmps22
      go_wp2
      go_returns
      exact ⟨rfl, G0.out⟩
    · have hj1 : decide (i < 0) = false := decide_eq_false (by omega)
      have hj2 : decide ((r.guilds.length : Int) ≤ i) = true := decide_eq_true hj
      clear hj
      go_enter Tryz.func22, Tryz.ntmps22
      go_wp2
      go_returns
      exact ⟨rfl, G0.out⟩
theorem hall_some {r : Re} (h : mayBe r = true) {k : Nat} (hk : k < r.guilds.length) : ∃ p : Nat, p < r.labels.length ∧ DO.hallAt r k = (p : Int) := by
  have h4 := (may_parts h).2.1
  unfold rule4 RGuilds.guildsOk at h4
  simp only [Bool.and_eq_true, decide_eq_true_eq, List.all_eq_true, List.mem_range] at h4
  have := h4.2.1 k hk
  rw [RGuilds.gk_at r k _ (gu_get hk)] at this
  simp only [Bool.and_eq_true, decide_eq_true_eq] at this
  have ha := this.2.2.2
  rw [List.any_eq_true] at ha
  obtain ⟨y, hy, he⟩ := ha
  obtain ⟨p, hp, e⟩ := List.getElem_of_mem hy
  refine ⟨p, hp, (DO.hall_is h hp).2 ?_⟩
  rw [of_decide_eq_true he, ← e]
  have h3 := RRule1.lat_get hp
  rw [List.getElem?_eq_getElem hp] at h3
  injection h3
theorem guild_none {r : Re} {p : Int} (h : inn r.labels.length p = false) : guildOf r p = -1 := by
  unfold guildOf
  rw [h]
  by_cases hr : mayBe r = true
  · rw [if_pos hr]; rfl
  · rw [if_neg hr]
set_option maxHeartbeats 4000000 in
theorem rguildOf_out (v : Value) (r : Re) (p : Int) (w : World) (h : ReIs w v r) (hm : mayBe r = true) (hp : inn r.labels.length p = false) : Calls Tryz.prog 23 #[v, .int .i64 p] w fun e w' => e = .returned (.int .i64 (-1)) ∧ Grew w w' := by
  have HHO := Lib.hid (fun k hk W hg => DO.hallOf_any v r k W (h.grew (w' := W) hg) hm hk)
  have HNE : Hid (∀ k, k < r.guilds.length → (DO.hallAt r k == p) = false) := Lib.hid fun k hk => by
    obtain ⟨q, hq, e⟩ := hall_some hm hk
    rw [beq_eq_false_iff_ne, e]
    rintro rfl
    unfold inn at hp
    simp at hp
    omega
  have HG8 := Lib.hid (sizes hm).2.1
  clear hm hp
  obtain ⟨v0, v1, v2, v3, v4, rfl, h0, h1, h2, h3, h4⟩ := h
  obtain ⟨A0', cp0, rfl, _⟩ := h0.slice
  obtain ⟨A1', cp1, rfl, _⟩ := id h1
  obtain ⟨A2', cp2, rfl, _⟩ := h2.slice
  obtain ⟨A3', cp3, rfl, _⟩ := h3.slice
  obtain ⟨A4', cp4, rfl, _⟩ := h4.slice
  clear h0 h1 h2 h3 h4
  have G0 : Hid (Grew w (w.alloc (Obj.cells #[.slice A0' r.labels.length cp0, .slice A1' r.lines.length cp1, .slice A2' r.accounts.length cp2, .slice A3' r.guilds.length cp3, .slice A4' r.quotas.length cp4, .int .i64 r.orders, .int .i64 r.audits, .int .i64 r.rate, .int .i64 r.rounds] 28))) := Lib.hid (by unfold Grew; go_grown)
  have R0 : Hid ((w.alloc (Obj.cells #[.slice A0' r.labels.length cp0, .slice A1' r.lines.length cp1, .slice A2' r.accounts.length cp2, .slice A3' r.guilds.length cp3, .slice A4' r.quotas.length cp4, .int .i64 r.orders, .int .i64 r.audits, .int .i64 r.rate, .int .i64 r.rounds] 28)).heap[w.heap.size]? = some (rcell (.slice A0' r.labels.length cp0) (.slice A1' r.lines.length cp1) (.slice A2' r.accounts.length cp2) (.slice A3' r.guilds.length cp3) (.slice A4' r.quotas.length cp4) r.orders r.audits r.rate r.rounds)) := Lib.hid (heap_alloc_new w _)
  obtain ⟨r0, r1, r2, r3, r4, r5, r6, r7, r8⟩ := re_cells R0.out
  go_enter Tryz.func23, Tryz.ntmps23
  go_wp2
  go_loopg [5] r.guilds.length (fun g s5 wx => ∃ k : Nat, k + g = r.guilds.length ∧ s5 = .int .i64 k ∧ Hid (Grew (w.alloc (Obj.cells #[.slice A0' r.labels.length cp0, .slice A1' r.lines.length cp1, .slice A2' r.accounts.length cp2, .slice A3' r.guilds.length cp3, .slice A4' r.quotas.length cp4, .int .i64 r.orders, .int .i64 r.audits, .int .i64 r.rate, .int .i64 r.rounds] 28)) wx))
  case atStart => exact ⟨0, Nat.zero_add _, rfl, Lib.hid (Grew.refl _)⟩
  case round =>
    obtain ⟨k, hkg, rfl, HG⟩ := hrel
    obtain ⟨r0, r1, r2, r3, r4, r5, r6, r7, r8⟩ := re_cells (keepB R0.out HG.out)
    cases gk with
    | zero =>
      have hkz : ¬ ((k : Int) < (r.guilds.length : Int)) := DN.m8 hkg
      clear hkg
      go_wp2
      go_returns
      exact ⟨rfl, G0.out.trans HG.out⟩
    | succ g =>
      have hkl : k < r.guilds.length := DH.p2 hkg
      have hkz : (k : Int) < (r.guilds.length : Int) := DH.p3 hkl
      have hkw : wrap64 ((k : Int) + 1) = (k : Int) + 1 := DN.m10 hkg HG8.out
      have HHK := Lib.hid (fun W hg => HHO.out k hkl W hg)
      have hb := HNE.out k hkl
      have HKG := Lib.hid hkg
      clear hkg hkl
      generalize DO.hallAt r k = hv at HHK hb
      go_wp2_with fail
      with_reducible refine (HHK.out _ (G0.out.trans HG.out)).mono ?_
      rintro e w3 ⟨rfl, hg⟩
      have G3 := Lib.hid (HG.out.trans hg)
      clear hg r0 r1 r2 r3 r4 r5 r6 r7 r8
      go_wp2
      go_roundg g
      case measure => exact Nat.lt_succ_self _
      case rel => exact ⟨k + 1, DN.m4 HKG.out, by first | rfl | simp [hkw], G3⟩
theorem rguildOf_any (v : Value) (r : Re) (p : Int) (w : World) (h : ReIs w v r) (hm : mayBe r = true) : Calls Tryz.prog 23 #[v, .int .i64 p] w fun e w' => e = .returned (.int .i64 (guildOf r p)) ∧ Grew w w' := by
  by_cases hi : inn r.labels.length p = true
  · have hj : 0 ≤ p ∧ p < r.labels.length := by unfold inn at hi; simpa using hi
    obtain ⟨k, rfl⟩ := Int.eq_ofNat_of_zero_le hj.1
    exact DO.rguildOf_any v r k w h hm (by omega)
  · have hf : inn r.labels.length p = false := by simpa using hi
    rw [guild_none hf]
    exact rguildOf_out v r p w h hm hf
set_option maxHeartbeats 4000000 in
theorem raccount_any (v : Value) (r : Re) (s : ByteArray) (w : World) (h : ReIs w v r) (hm : mayBe r = true) : Calls Tryz.prog 26 #[v, .string s] w fun e w' => e = .returned (.int .i64 (EA.acctP r s)) ∧ Grew w w' := by
  have HIT : Hid (∀ (k : Nat) (x : Ac), r.accounts[k]? = some x → x.name = s → (∀ (j : Nat) (y : Ac), j < k → r.accounts[j]? = some y → ¬ y.name = s) → EA.acctP r s = (k : Int)) := Lib.hid fun k x hk e hj => by
    unfold EA.acctP
    rw [if_pos hm]
    have hkl := (List.getElem?_eq_some_iff.1 hk).1
    have := Lib.idxOfS_hit (r.accounts.map (·.name)) (r.accounts.map (·.name)).length k s (by rw [List.length_map]; exact hkl) (Nat.le_refl _) (by simp [List.getD_eq_getElem?_getD, hk, e]) fun j hjk => by
      have hjl : j < r.accounts.length := by omega
      have hy : r.accounts[j]? = some r.accounts[j] := List.getElem?_eq_getElem hjl
      have := hj j _ hjk hy
      simpa [List.getD_eq_getElem?_getD, hy] using this
    rwa [List.take_length] at this
  have MISS : Hid ((∀ (j : Nat) (y : Ac), r.accounts[j]? = some y → ¬ y.name = s) → EA.acctP r s = -1) := Lib.hid fun hj => by
    unfold EA.acctP
    rw [if_pos hm]
    have := Lib.idxOfS_miss (r.accounts.map (·.name)) (r.accounts.map (·.name)).length s fun j hjl => by
      rw [List.length_map] at hjl
      have hy : r.accounts[j]? = some r.accounts[j] := List.getElem?_eq_getElem hjl
      have := hj j _ hy
      simpa [List.getD_eq_getElem?_getD, hy] using this
    rwa [List.take_length] at this
  have HG8 := Lib.hid (sizes hm).1
  generalize EA.acctP r s = res at *
  clear hm
  obtain ⟨v0, v1, v2, v3, v4, rfl, h0, h1, h2, h3, h4⟩ := h
  have HL2 := Lib.hid h2
  obtain ⟨A0', cp0, rfl, _⟩ := h0.slice
  obtain ⟨A1', cp1, rfl, _⟩ := id h1
  obtain ⟨A2', cp2, rfl, _⟩ := h2.slice
  obtain ⟨A3', cp3, rfl, _⟩ := h3.slice
  obtain ⟨A4', cp4, rfl, _⟩ := h4.slice
  clear h0 h1 h2 h3 h4
  have G0 : Hid (Grew w (w.alloc (Obj.cells #[.slice A0' r.labels.length cp0, .slice A1' r.lines.length cp1, .slice A2' r.accounts.length cp2, .slice A3' r.guilds.length cp3, .slice A4' r.quotas.length cp4, .int .i64 r.orders, .int .i64 r.audits, .int .i64 r.rate, .int .i64 r.rounds] 28))) := Lib.hid (by unfold Grew; go_grown)
  have R0 : Hid ((w.alloc (Obj.cells #[.slice A0' r.labels.length cp0, .slice A1' r.lines.length cp1, .slice A2' r.accounts.length cp2, .slice A3' r.guilds.length cp3, .slice A4' r.quotas.length cp4, .int .i64 r.orders, .int .i64 r.audits, .int .i64 r.rate, .int .i64 r.rounds] 28)).heap[w.heap.size]? = some (rcell (.slice A0' r.labels.length cp0) (.slice A1' r.lines.length cp1) (.slice A2' r.accounts.length cp2) (.slice A3' r.guilds.length cp3) (.slice A4' r.quotas.length cp4) r.orders r.audits r.rate r.rounds)) := Lib.hid (heap_alloc_new w _)
  obtain ⟨r0, r1, r2, r3, r4, r5, r6, r7, r8⟩ := re_cells R0.out
  go_enter Tryz.func26, Tryz.ntmps26
  go_wp2
  go_loopg [5] r.accounts.length (fun g s5 wx => ∃ k : Nat, k + g = r.accounts.length ∧ s5 = .int .i64 k ∧ Hid (∀ (j : Nat) (y : Ac), j < k → r.accounts[j]? = some y → ¬ y.name = s) ∧ Hid (Grew (w.alloc (Obj.cells #[.slice A0' r.labels.length cp0, .slice A1' r.lines.length cp1, .slice A2' r.accounts.length cp2, .slice A3' r.guilds.length cp3, .slice A4' r.quotas.length cp4, .int .i64 r.orders, .int .i64 r.audits, .int .i64 r.rate, .int .i64 r.rounds] 28)) wx))
  case atStart => exact ⟨0, Nat.zero_add _, rfl, Lib.hid (fun j y h => absurd h (Nat.not_lt_zero _)), Lib.hid (Grew.refl _)⟩
  case round =>
    obtain ⟨k, hkg, rfl, HJ, HG⟩ := hrel
    obtain ⟨r0, r1, r2, r3, r4, r5, r6, r7, r8⟩ := re_cells (keepB R0.out HG.out)
    cases gk with
    | zero =>
      have hkz : ¬ ((k : Int) < (r.accounts.length : Int)) := DN.m8 hkg
      have HR := Lib.hid (MISS.out fun j y hy => HJ.out j y (DH.p4 hkg j (List.getElem?_eq_some_iff.1 hy).1) hy)
      clear hkg
      go_wp2
      go_returns
      refine ⟨?_, G0.out.trans HG.out⟩
      rw [HR.out]
      try rfl
    | succ g =>
      have hkl : k < r.accounts.length := DH.p2 hkg
      have hkz : (k : Int) < (r.accounts.length : Int) := DH.p3 hkl
      have hkw : wrap64 ((k : Int) + 1) = (k : Int) + 1 := DN.m10 hkg HG8.out
      have hx : r.accounts[k]? = some r.accounts[k] := List.getElem?_eq_getElem hkl
      obtain ⟨ad, c9, e9, hc9, d0, drest⟩ := As_at (HL2.out.grew (G0.out.trans HG.out)) hx
      injection e9 with e1 _ e3
      subst e1 e3
      have HX := Lib.hid hx
      have HKG := Lib.hid hkg
      clear hkg hx drest hc9
      generalize r.accounts[k] = x at d0 HX
      clear hkl
      by_cases he : x.name = s
      · have HR := Lib.hid (HIT.out k x HX.out he HJ.out)
        have hb : (x.name.toList == s.toList) = true := by rw [he]; simp
        clear he HX
        go_wp2
        go_returns
        refine ⟨?_, G0.out.trans HG.out⟩
        rw [HR.out]
        try rfl
      · have HN : Hid (∀ (j : Nat) (y : Ac), j < k + 1 → r.accounts[j]? = some y → ¬ y.name = s) := Lib.hid fun j y hj hy => by
          by_cases hjk : j = k
          · subst hjk
            rw [HX.out] at hy
            cases hy
            exact he
          · exact HJ.out j y (n3 hj hjk) hy
        have hb : (x.name.toList == s.toList) = false := (Lib.bytes_beq_false_iff _ _).2 he
        clear he HX
        go_wp2
        go_roundg g
        case measure => exact Nat.lt_succ_self _
        case rel => exact ⟨k + 1, DN.m4 HKG.out, by first | rfl | simp [hkw], HN, HG⟩
end Go.Proofs.YtmegdgeiikhflaaGreat.EI
namespace Go.Proofs.YtmegdgeiikhflaaGreat.EJ
set_option maxRecDepth 100000
open Go Go.RowKit Go.Lib Go.Proofs.YtmegdgeiikhflaaGreat Go.Proofs.YtmegdgeiikhflaaGreat.Facts Go.Proofs.YtmegdgeiikhflaaGreat.Plain Go.Proofs.YtmegdgeiikhflaaGreat.Ints Go.Proofs.YtmegdgeiikhflaaGreat.RRows Go.Proofs.YtmegdgeiikhflaaGreat.LBox Go.Proofs.YtmegdgeiikhflaaGreat.RSmall Go.Proofs.YtmegdgeiikhflaaGreat.RFind Go.Proofs.YtmegdgeiikhflaaGreat.RAll Go.Proofs.YtmegdgeiikhflaaGreat.RRules Go.Proofs.YtmegdgeiikhflaaGreat.RRule3 Go.Proofs.YtmegdgeiikhflaaGreat.RRight Go.Proofs.YtmegdgeiikhflaaGreat.HA Go.Proofs.YtmegdgeiikhflaaGreat.HB Go.Proofs.YtmegdgeiikhflaaGreat.HG Go.Proofs.YtmegdgeiikhflaaGreat.HC Go.Proofs.YtmegdgeiikhflaaGreat.HD

theorem inn_no {n : Nat} {i : Int} (h : inn n i = false) : i < 0 ∨ (n : Int) ≤ i := by
  by_cases h0 : 0 ≤ i
  · right
    by_cases h1 : i < n
    · exact absurd (show inn n i = true by unfold inn; simp [h0, h1]) (by rw [h]; decide)
    · omega
  · left; omega
theorem inn_yes {n : Nat} {i : Int} (h : inn n i = true) : ∃ k : Nat, i = (k : Int) ∧ k < n := by
  have hj : 0 ≤ i ∧ i < n := by unfold inn at h; simpa using h
  obtain ⟨k, rfl⟩ := Int.eq_ofNat_of_zero_le hj.1
  exact ⟨k, rfl, by omega⟩
theorem lt_c {a b : Nat} (h : a < b) : (a : Int) < (b : Int) := by omega
theorem leq_out {r : Re} {i j : Int} (h : inn r.labels.length i = false ∨ inn r.labels.length j = false) : leqR r i j = false := by
  unfold leqR
  rcases h with h | h <;> simp [h]
theorem leq_in {r : Re} (hm : mayBe r = true) {i j : Nat} (hi : i < r.labels.length) (hj : j < r.labels.length) : leqR r (i : Int) (j : Int) = le (RRule1.lat r.labels i).lev (RRule1.lat r.labels i).set (RRule1.lat r.labels j).lev (RRule1.lat r.labels j).set := by
  unfold leqR inn
  simp [hm, hi, hj]
set_option maxHeartbeats 8000000 in
theorem rleqR_any (v : Value) (r : Re) (i j : Int) (w : World) (h : ReIs w v r) (hm : mayBe r = true) : Calls Tryz.prog 20 #[v, .int .i64 i, .int .i64 j] w fun e w' => e = .returned (.bool (leqR r i j)) ∧ Grew w w' := by
  cases hi : inn r.labels.length i with
  | false =>
    rw [leq_out (.inl hi)]
    have hj := inn_no hi
    clear hm hi
    obtain ⟨v0, v1, v2, v3, v4, rfl, h0, h1, h2, h3, h4⟩ := h
    obtain ⟨A0', cp0, rfl, _⟩ := h0.slice
    obtain ⟨A1', cp1, rfl, _⟩ := id h1
    obtain ⟨A2', cp2, rfl, _⟩ := h2.slice
    obtain ⟨A3', cp3, rfl, _⟩ := h3.slice
    obtain ⟨A4', cp4, rfl, _⟩ := h4.slice
    clear h0 h1 h2 h3 h4
    have G0 : Hid (Grew w (w.alloc (Obj.cells #[.slice A0' r.labels.length cp0, .slice A1' r.lines.length cp1, .slice A2' r.accounts.length cp2, .slice A3' r.guilds.length cp3, .slice A4' r.quotas.length cp4, .int .i64 r.orders, .int .i64 r.audits, .int .i64 r.rate, .int .i64 r.rounds] 28))) := Lib.hid (by unfold Grew; go_grown)
    have R0 : Hid ((w.alloc (Obj.cells #[.slice A0' r.labels.length cp0, .slice A1' r.lines.length cp1, .slice A2' r.accounts.length cp2, .slice A3' r.guilds.length cp3, .slice A4' r.quotas.length cp4, .int .i64 r.orders, .int .i64 r.audits, .int .i64 r.rate, .int .i64 r.rounds] 28)).heap[w.heap.size]? = some (rcell (.slice A0' r.labels.length cp0) (.slice A1' r.lines.length cp1) (.slice A2' r.accounts.length cp2) (.slice A3' r.guilds.length cp3) (.slice A4' r.quotas.length cp4) r.orders r.audits r.rate r.rounds)) := Lib.hid (heap_alloc_new w _)
    obtain ⟨r0, r1, r2, r3, r4, r5, r6, r7, r8⟩ := re_cells R0.out
    rcases hj with hj | hj
    · have hj1 : decide (0 ≤ i) = false := decide_eq_false (by omega)
      clear hj
      go_enter Tryz.func20, Tryz.ntmps20
      go_wp2
      refine Facts.wp_region_text (by kernel_rfl) (by kernel_rfl) ?_
      repeat
        apply Facts.Lex.exact [] _ (by kernel_rfl)
        · intro u W hC _
          obtain ⟨r0, r1, r2, r3, r4, r5, r6, r7, r8⟩ := re_cells (keepB R0.out hC)
          unfold Facts.one
          go_simp
          first | exact ⟨Grew.refl _, rfl⟩ | rfl
        simp only [Act.put, List.setIfInBounds_toArray, List.set_cons_zero, List.set_cons_succ, Nat.zero_add, Nat.reduceAdd]
      refine Facts.Lex.done fun u W2 hC hL => ?_
      have G9 := Lib.hid (G0.out.trans hC)
      clear hC hL
      go_wp2
      go_returns
      exact ⟨rfl, G9.out⟩
    · have hj1 : decide (0 ≤ i) = true := decide_eq_true (by omega)
      have hj2 : decide (i < (r.labels.length : Int)) = false := decide_eq_false (by omega)
      clear hj
      by_cases hz : 0 ≤ j
      · have hz1 : decide (0 ≤ j) = true := decide_eq_true hz
        clear hz
        go_enter Tryz.func20, Tryz.ntmps20
        go_wp2
        refine Facts.wp_region_text (by kernel_rfl) (by kernel_rfl) ?_
        repeat
          apply Facts.Lex.exact [] _ (by kernel_rfl)
          · intro u W hC _
            obtain ⟨r0, r1, r2, r3, r4, r5, r6, r7, r8⟩ := re_cells (keepB R0.out hC)
            unfold Facts.one
            go_simp
            first | exact ⟨Grew.refl _, rfl⟩ | rfl
          simp only [Act.put, List.setIfInBounds_toArray, List.set_cons_zero, List.set_cons_succ, Nat.zero_add, Nat.reduceAdd]
        refine Facts.Lex.done fun u W2 hC hL => ?_
        have G9 := Lib.hid (G0.out.trans hC)
        clear hC hL
        go_wp2
        go_returns
        exact ⟨rfl, G9.out⟩
      · have hz1 : decide (0 ≤ j) = false := decide_eq_false hz
        clear hz
        go_enter Tryz.func20, Tryz.ntmps20
        go_wp2
        refine Facts.wp_region_text (by kernel_rfl) (by kernel_rfl) ?_
        repeat
          apply Facts.Lex.exact [] _ (by kernel_rfl)
          · intro u W hC _
            obtain ⟨r0, r1, r2, r3, r4, r5, r6, r7, r8⟩ := re_cells (keepB R0.out hC)
            unfold Facts.one
            go_simp
            first | exact ⟨Grew.refl _, rfl⟩ | rfl
          simp only [Act.put, List.setIfInBounds_toArray, List.set_cons_zero, List.set_cons_succ, Nat.zero_add, Nat.reduceAdd]
        refine Facts.Lex.done fun u W2 hC hL => ?_
        have G9 := Lib.hid (G0.out.trans hC)
        clear hC hL
        go_wp2
        go_returns
        exact ⟨rfl, G9.out⟩
  | true =>
    obtain ⟨ki, rfl, hki⟩ := inn_yes hi
    have hkz := lt_c hki
    cases hj : inn r.labels.length j with
    | false =>
      rw [leq_out (.inr hj)]
      have hq := inn_no hj
      clear hm hi hj
      obtain ⟨v0, v1, v2, v3, v4, rfl, h0, h1, h2, h3, h4⟩ := h
      obtain ⟨A0', cp0, rfl, _⟩ := h0.slice
      obtain ⟨A1', cp1, rfl, _⟩ := id h1
      obtain ⟨A2', cp2, rfl, _⟩ := h2.slice
      obtain ⟨A3', cp3, rfl, _⟩ := h3.slice
      obtain ⟨A4', cp4, rfl, _⟩ := h4.slice
      clear h0 h1 h2 h3 h4
      have G0 : Hid (Grew w (w.alloc (Obj.cells #[.slice A0' r.labels.length cp0, .slice A1' r.lines.length cp1, .slice A2' r.accounts.length cp2, .slice A3' r.guilds.length cp3, .slice A4' r.quotas.length cp4, .int .i64 r.orders, .int .i64 r.audits, .int .i64 r.rate, .int .i64 r.rounds] 28))) := Lib.hid (by unfold Grew; go_grown)
      have R0 : Hid ((w.alloc (Obj.cells #[.slice A0' r.labels.length cp0, .slice A1' r.lines.length cp1, .slice A2' r.accounts.length cp2, .slice A3' r.guilds.length cp3, .slice A4' r.quotas.length cp4, .int .i64 r.orders, .int .i64 r.audits, .int .i64 r.rate, .int .i64 r.rounds] 28)).heap[w.heap.size]? = some (rcell (.slice A0' r.labels.length cp0) (.slice A1' r.lines.length cp1) (.slice A2' r.accounts.length cp2) (.slice A3' r.guilds.length cp3) (.slice A4' r.quotas.length cp4) r.orders r.audits r.rate r.rounds)) := Lib.hid (heap_alloc_new w _)
      obtain ⟨r0, r1, r2, r3, r4, r5, r6, r7, r8⟩ := re_cells R0.out
      rcases hq with hq | hq
      · have hj1 : decide (0 ≤ j) = false := decide_eq_false (by omega)
        clear hq
        go_enter Tryz.func20, Tryz.ntmps20
        go_wp2
        refine Facts.wp_region_text (by kernel_rfl) (by kernel_rfl) ?_
        repeat
          apply Facts.Lex.exact [] _ (by kernel_rfl)
          · intro u W hC _
            obtain ⟨r0, r1, r2, r3, r4, r5, r6, r7, r8⟩ := re_cells (keepB R0.out hC)
            unfold Facts.one
            go_simp
            first | exact ⟨Grew.refl _, rfl⟩ | rfl
          simp only [Act.put, List.setIfInBounds_toArray, List.set_cons_zero, List.set_cons_succ, Nat.zero_add, Nat.reduceAdd]
        refine Facts.Lex.done fun u W2 hC hL => ?_
        have G9 := Lib.hid (G0.out.trans hC)
        clear hC hL
        go_wp2
        go_returns
        exact ⟨rfl, G9.out⟩
      · have hj1 : decide (0 ≤ j) = true := decide_eq_true (by omega)
        have hj2 : decide (j < (r.labels.length : Int)) = false := decide_eq_false (by omega)
        clear hq
        go_enter Tryz.func20, Tryz.ntmps20
        go_wp2
        refine Facts.wp_region_text (by kernel_rfl) (by kernel_rfl) ?_
        repeat
          apply Facts.Lex.exact [] _ (by kernel_rfl)
          · intro u W hC _
            obtain ⟨r0, r1, r2, r3, r4, r5, r6, r7, r8⟩ := re_cells (keepB R0.out hC)
            unfold Facts.one
            go_simp
            first | exact ⟨Grew.refl _, rfl⟩ | rfl
          simp only [Act.put, List.setIfInBounds_toArray, List.set_cons_zero, List.set_cons_succ, Nat.zero_add, Nat.reduceAdd]
        refine Facts.Lex.done fun u W2 hC hL => ?_
        have G9 := Lib.hid (G0.out.trans hC)
        clear hC hL
        go_wp2
        go_returns
        exact ⟨rfl, G9.out⟩
    | true =>
      obtain ⟨kj, rfl, hkj⟩ := inn_yes hj
      have hkw := lt_c hkj
      rw [leq_in hm hki hkj]
      clear hm hi hj
      obtain ⟨v0, v1, v2, v3, v4, rfl, h0, h1, h2, h3, h4⟩ := h
      have HL0 := Lib.hid h0
      obtain ⟨A0', cp0, rfl, _⟩ := h0.slice
      obtain ⟨A1', cp1, rfl, _⟩ := id h1
      obtain ⟨A2', cp2, rfl, _⟩ := h2.slice
      obtain ⟨A3', cp3, rfl, _⟩ := h3.slice
      obtain ⟨A4', cp4, rfl, _⟩ := h4.slice
      clear h0 h1 h2 h3 h4
      obtain ⟨ad, c9, e9, _, d0, d1⟩ := Ls_at HL0.out (RRule1.lat_get hki)
      injection e9 with x1 _ x3
      subst x1 x3
      obtain ⟨ad2, c8, e8, _, f0, f1⟩ := Ls_at HL0.out (RRule1.lat_get hkj)
      injection e8 with x1 _ x3
      injection x1 with x1
      subst x1 x3
      have D0 := Lib.hid d0
      have D1 := Lib.hid d1
      have E0 := Lib.hid f0
      have E1 := Lib.hid f1
      have HLE := Lib.hid (fun W => LRefs.rleq_any (RRule1.lat r.labels ki).lev (RRule1.lat r.labels ki).set (RRule1.lat r.labels kj).lev (RRule1.lat r.labels kj).set W)
      clear d0 d1 f0 f1 HL0
      generalize RRule1.lat r.labels ki = la at *
      generalize RRule1.lat r.labels kj = lb at *
      generalize le la.lev la.set lb.lev lb.set = res at *
      have G0 : Hid (Grew w (w.alloc (Obj.cells #[.slice (some ad) r.labels.length cp0, .slice A1' r.lines.length cp1, .slice A2' r.accounts.length cp2, .slice A3' r.guilds.length cp3, .slice A4' r.quotas.length cp4, .int .i64 r.orders, .int .i64 r.audits, .int .i64 r.rate, .int .i64 r.rounds] 28))) := Lib.hid (by unfold Grew; go_grown)
      have R0 : Hid ((w.alloc (Obj.cells #[.slice (some ad) r.labels.length cp0, .slice A1' r.lines.length cp1, .slice A2' r.accounts.length cp2, .slice A3' r.guilds.length cp3, .slice A4' r.quotas.length cp4, .int .i64 r.orders, .int .i64 r.audits, .int .i64 r.rate, .int .i64 r.rounds] 28)).heap[w.heap.size]? = some (rcell (.slice (some ad) r.labels.length cp0) (.slice A1' r.lines.length cp1) (.slice A2' r.accounts.length cp2) (.slice A3' r.guilds.length cp3) (.slice A4' r.quotas.length cp4) r.orders r.audits r.rate r.rounds)) := Lib.hid (heap_alloc_new w _)
      obtain ⟨r0, r1, r2, r3, r4, r5, r6, r7, r8⟩ := re_cells R0.out
      go_enter Tryz.func20, Tryz.ntmps20
      go_wp2
      refine Facts.wp_region_text (by kernel_rfl) (by kernel_rfl) ?_
      iterate 31
        apply Facts.Lex.exact [] _ (by kernel_rfl)
        · intro u W hC _
          obtain ⟨r0, r1, r2, r3, r4, r5, r6, r7, r8⟩ := re_cells (keepB R0.out hC)
          have c0 := cellB (G0.out.trans hC) D0.out
          have c1 := cellB (G0.out.trans hC) D1.out
          have c2 := cellB (G0.out.trans hC) E0.out
          have c3 := cellB (G0.out.trans hC) E1.out
          unfold Facts.one
          go_simp
          first | exact ⟨Grew.refl _, rfl⟩ | rfl
        simp only [Act.put, List.setIfInBounds_toArray, List.set_cons_zero, List.set_cons_succ, Nat.zero_add, Nat.reduceAdd]
      apply Facts.Lex.exact [] _ (by kernel_rfl)
      · intro u W hC _
        unfold Facts.one
        go_simp
        exact ((HLE.out W).mono fun e w' ⟨he, hg⟩ => ⟨_, he, hg, rfl⟩)
      simp only [Act.put, List.setIfInBounds_toArray, List.set_cons_zero, List.set_cons_succ, Nat.reduceAdd]
      repeat
        apply Facts.Lex.exact [] _ (by kernel_rfl)
        · intro u W hC _
          unfold Facts.one
          go_simp
          first | exact ⟨Grew.refl _, rfl⟩ | rfl
        simp only [Act.put, List.setIfInBounds_toArray, List.set_cons_zero, List.set_cons_succ, Nat.reduceAdd]
      refine Facts.Lex.done fun u W2 hC hL => ?_
      have G9 := Lib.hid (G0.out.trans hC)
      clear hC hL
      go_wp2
      go_returns
      exact ⟨rfl, G9.out⟩
end Go.Proofs.YtmegdgeiikhflaaGreat.EJ
namespace Go.Proofs.YtmegdgeiikhflaaGreat.EK
set_option maxRecDepth 100000
open Go Go.RowKit Go.Lib Go.Proofs.YtmegdgeiikhflaaGreat Go.Proofs.YtmegdgeiikhflaaGreat.Facts Go.Proofs.YtmegdgeiikhflaaGreat.Plain Go.Proofs.YtmegdgeiikhflaaGreat.Ints Go.Proofs.YtmegdgeiikhflaaGreat.RRows Go.Proofs.YtmegdgeiikhflaaGreat.LBox Go.Proofs.YtmegdgeiikhflaaGreat.RSmall Go.Proofs.YtmegdgeiikhflaaGreat.RFind Go.Proofs.YtmegdgeiikhflaaGreat.RAll Go.Proofs.YtmegdgeiikhflaaGreat.RRules Go.Proofs.YtmegdgeiikhflaaGreat.RRule3 Go.Proofs.YtmegdgeiikhflaaGreat.RRight Go.Proofs.YtmegdgeiikhflaaGreat.HA Go.Proofs.YtmegdgeiikhflaaGreat.HB Go.Proofs.YtmegdgeiikhflaaGreat.HG Go.Proofs.YtmegdgeiikhflaaGreat.HC Go.Proofs.YtmegdgeiikhflaaGreat.HD Go.Proofs.YtmegdgeiikhflaaGreat.EJ

theorem le8 {L k n : Nat} (h1 : L ≤ k) (h2 : k < n) (h3 : n ≤ 8) : L ≤ 8 := by omega
theorem b8 {L : Nat} (h : L ≤ 8) : (L + 1) * 8 ≤ 140737488355328 := by omega
theorem k_is {k n : Nat} (h : k + 0 = n) : k = n := h
theorem grew_step {w0 W w3 : World} {b : Nat} (h : w0.heap.size = b) (h1 : Grew w0 W) (h2 : Below b W w3) : Grew w0 w3 := by
  subst h
  exact (show Below w0.heap.size w0 W from h1).trans h2
theorem size_step {w0 W : World} {b : Nat} (h : w0.heap.size = b) (h1 : Grew w0 W) : b ≤ W.heap.size := by
  subst h
  exact h1.size
theorem guilds_out {r : Re} {i : Int} (h : inn r.labels.length i = false) : guildsOf r i = [] := by
  unfold guildsOf
  rw [h]
  by_cases hr : mayBe r = true
  · rw [if_pos hr]; rfl
  · rw [if_neg hr]
theorem guilds_in {r : Re} (hm : mayBe r = true) {i : Nat} (h : i < r.labels.length) : guildsOf r (i : Int) = gl r i r.guilds.length := by
  unfold guildsOf
  rw [if_pos hm, if_pos (by unfold inn; simp; omega)]
  rfl
set_option maxHeartbeats 8000000 in
theorem rguilds_out (v : Value) (r : Re) (i : Int) (w : World) (h : ReIs w v r) (hi : inn r.labels.length i = false) : Calls Tryz.prog 25 #[v, .int .i64 i] w fun e w' => e = .returned (.slice none 0 0) ∧ Grew w w' := by
  have hj := inn_no hi
  clear hi
  obtain ⟨v0, v1, v2, v3, v4, rfl, h0, h1, h2, h3, h4⟩ := h
  obtain ⟨A0', cp0, rfl, _⟩ := h0.slice
  obtain ⟨A1', cp1, rfl, _⟩ := id h1
  obtain ⟨A2', cp2, rfl, _⟩ := h2.slice
  obtain ⟨A3', cp3, rfl, _⟩ := h3.slice
  obtain ⟨A4', cp4, rfl, _⟩ := h4.slice
  clear h0 h1 h2 h3 h4
  have G0 : Hid (Grew w (w.alloc (Obj.cells #[.slice A0' r.labels.length cp0, .slice A1' r.lines.length cp1, .slice A2' r.accounts.length cp2, .slice A3' r.guilds.length cp3, .slice A4' r.quotas.length cp4, .int .i64 r.orders, .int .i64 r.audits, .int .i64 r.rate, .int .i64 r.rounds] 28))) := Lib.hid (by unfold Grew; go_grown)
  have R0 : Hid ((w.alloc (Obj.cells #[.slice A0' r.labels.length cp0, .slice A1' r.lines.length cp1, .slice A2' r.accounts.length cp2, .slice A3' r.guilds.length cp3, .slice A4' r.quotas.length cp4, .int .i64 r.orders, .int .i64 r.audits, .int .i64 r.rate, .int .i64 r.rounds] 28)).heap[w.heap.size]? = some (rcell (.slice A0' r.labels.length cp0) (.slice A1' r.lines.length cp1) (.slice A2' r.accounts.length cp2) (.slice A3' r.guilds.length cp3) (.slice A4' r.quotas.length cp4) r.orders r.audits r.rate r.rounds)) := Lib.hid (heap_alloc_new w _)
  obtain ⟨r0, r1, r2, r3, r4, r5, r6, r7, r8⟩ := re_cells R0.out
  obtain ⟨k0, hk0⟩ : ∃ k : Nat, k = 0 := ⟨0, rfl⟩
  have HK := Lib.hid hk0
  have hneg : (0 ≤ i ∧ decide (i < (r.labels.length : Int)) = false) ∨ decide (0 ≤ i) = false := by
    rcases hj with h | h
    · exact .inr (decide_eq_false (by omega))
    · by_cases h0 : 0 ≤ i
      · exact .inl ⟨h0, decide_eq_false (by omega)⟩
      · exact .inr (decide_eq_false h0)
  clear hj hk0
  go_enter Tryz.func25, Tryz.ntmps25
  go_wp2
  go_loopg [5, 6] 0 (fun g s5 s6 wx => s5 = .slice none 0 0 ∧ s6 = .int .i64 (k0 : Int) ∧ Hid (Grew (w.alloc (Obj.cells #[.slice A0' r.labels.length cp0, .slice A1' r.lines.length cp1, .slice A2' r.accounts.length cp2, .slice A3' r.guilds.length cp3, .slice A4' r.quotas.length cp4, .int .i64 r.orders, .int .i64 r.audits, .int .i64 r.rate, .int .i64 r.rounds] 28)) wx))
  case atStart => exact ⟨rfl, by rw [HK.out]; rfl, Lib.hid (Grew.refl _)⟩
  case round =>
    obtain ⟨rfl, rfl, HG⟩ := hrel
    clear r0 r1 r2 r3 r4 r5 r6 r7 r8
    obtain ⟨r0, r1, r2, r3, r4, r5, r6, r7, r8⟩ := re_cells (keepB R0.out HG.out)
    by_cases hz : (k0 : Int) < (r.guilds.length : Int)
    · rcases hneg with ⟨h0, h1⟩ | h1
      · have h2 : decide (0 ≤ i) = true := decide_eq_true h0
        clear h0
        go_wp2
        go_returns
        exact ⟨rfl, G0.out.trans HG.out⟩
      · go_wp2
        go_returns
        exact ⟨rfl, G0.out.trans HG.out⟩
    · clear hneg
      go_wp2
      go_returns
      exact ⟨rfl, G0.out.trans HG.out⟩
set_option maxHeartbeats 8000000 in
theorem rguilds_in (v : Value) (r : Re) (ki : Nat) (w : World) (h : ReIs w v r) (hm : mayBe r = true) (hk : ki < r.labels.length) : Calls Tryz.prog 25 #[v, .int .i64 (ki : Int)] w fun e w' => ∃ v', e = .returned v' ∧ Is w' v' (gl r ki r.guilds.length) ∧ Grew w w' := by
  have hkiz := lt_c hk
  have HG8 := Lib.hid (sizes hm).2.1
  have HUN : Hid (∀ k, k < r.guilds.length → ∃ kb : Nat, (gu r k).bit = (kb : Int) ∧ kb < 64 ∧ under r ki k = (RRule1.lat r.labels ki).set.getLsbD kb) := Lib.hid fun k hkg => by
    obtain ⟨b0, b1⟩ := DC.bit_in hm hkg
    obtain ⟨kb, hkb⟩ := Int.eq_ofNat_of_zero_le b0
    exact ⟨kb, hkb, by omega, DC.under_is hm hk hkg hkb⟩
  obtain ⟨v0, v1, v2, v3, v4, rfl, h0, h1, h2, h3, h4⟩ := h
  have HL0 := Lib.hid h0
  have HL3 := Lib.hid h3
  obtain ⟨A0', cp0, rfl, _⟩ := h0.slice
  obtain ⟨A1', cp1, rfl, _⟩ := id h1
  obtain ⟨A2', cp2, rfl, _⟩ := h2.slice
  obtain ⟨A3', cp3, rfl, _⟩ := h3.slice
  obtain ⟨A4', cp4, rfl, _⟩ := h4.slice
  clear h0 h1 h2 h3 h4
  obtain ⟨ad0, c9, e0, _, d0, d1⟩ := Ls_at HL0.out (RRule1.lat_get hk)
  injection e0 with e01 _ e03
  subst e01 e03
  have D0 := Lib.hid d0
  have D1 := Lib.hid d1
  clear hm hk d0 d1 HL0
  have G0 : Hid (Grew w (w.alloc (Obj.cells #[.slice (some ad0) r.labels.length cp0, .slice A1' r.lines.length cp1, .slice A2' r.accounts.length cp2, .slice A3' r.guilds.length cp3, .slice A4' r.quotas.length cp4, .int .i64 r.orders, .int .i64 r.audits, .int .i64 r.rate, .int .i64 r.rounds] 28))) := Lib.hid (by unfold Grew; go_grown)
  have R0 : Hid ((w.alloc (Obj.cells #[.slice (some ad0) r.labels.length cp0, .slice A1' r.lines.length cp1, .slice A2' r.accounts.length cp2, .slice A3' r.guilds.length cp3, .slice A4' r.quotas.length cp4, .int .i64 r.orders, .int .i64 r.audits, .int .i64 r.rate, .int .i64 r.rounds] 28)).heap[w.heap.size]? = some (rcell (.slice (some ad0) r.labels.length cp0) (.slice A1' r.lines.length cp1) (.slice A2' r.accounts.length cp2) (.slice A3' r.guilds.length cp3) (.slice A4' r.quotas.length cp4) r.orders r.audits r.rate r.rounds)) := Lib.hid (heap_alloc_new w _)
  obtain ⟨r0, r1, r2, r3, r4, r5, r6, r7, r8⟩ := re_cells R0.out
  have HB1 : Hid ((w.alloc (Obj.cells #[.slice (some ad0) r.labels.length cp0, .slice A1' r.lines.length cp1, .slice A2' r.accounts.length cp2, .slice A3' r.guilds.length cp3, .slice A4' r.quotas.length cp4, .int .i64 r.orders, .int .i64 r.audits, .int .i64 r.rate, .int .i64 r.rounds] 28)).heap.size = w.heap.size + 1) := Lib.hid (by simp)
  generalize hla : RRule1.lat r.labels ki = la at *
  clear hla
  go_enter Tryz.func25, Tryz.ntmps25
  go_wp2
  go_loopg [5, 6] r.guilds.length (fun g s5 s6 wx => ∃ (k : Nat) (v5 : Value), k + g = r.guilds.length ∧ v5 = s5 ∧ s6 = .int .i64 k ∧ Hid (wx.ownsRow (w.heap.size + 1) 3 1 s5 (gl r ki k).length (iv (gl r ki k))) ∧ Hid (Grew (w.alloc (Obj.cells #[.slice (some ad0) r.labels.length cp0, .slice A1' r.lines.length cp1, .slice A2' r.accounts.length cp2, .slice A3' r.guilds.length cp3, .slice A4' r.quotas.length cp4, .int .i64 r.orders, .int .i64 r.audits, .int .i64 r.rate, .int .i64 r.rounds] 28)) wx))
  case atStart => exact ⟨0, _, by omega, rfl, rfl, Lib.hid (own_nil _ _), Lib.hid (Grew.refl _)⟩
  case round =>
    obtain ⟨k, v5, hkg, rfl, rfl, HO, HG⟩ := hrel
    clear r0 r1 r2 r3 r4 r5 r6 r7 r8
    obtain ⟨r0, r1, r2, r3, r4, r5, r6, r7, r8⟩ := re_cells (keepB R0.out HG.out)
    cases gk with
    | zero =>
      have hkz : ¬ ((k : Int) < (r.guilds.length : Int)) := DN.m8 hkg
      have HE : Hid (Is wr v5 (gl r ki r.guilds.length)) := Lib.hid (by
        have := Is.of_own HO.out rfl
        rw [k_is hkg] at this
        exact this)
      clear hkg
      go_wp2
      go_returns
      exact ⟨_, rfl, HE.out, G0.out.trans HG.out⟩
    | succ g =>
      have hkl : k < r.guilds.length := DH.p2 hkg
      have hkz : (k : Int) < (r.guilds.length : Int) := DH.p3 hkl
      have hkw : wrap64 ((k : Int) + 1) = (k : Int) + 1 := DN.m10 hkg HG8.out
      obtain ⟨ad, c2, e, _, c0, c1⟩ := Gs_at (HL3.out.grew (G0.out.trans HG.out)) (gu_get hkl)
      injection e with e1 _ e3
      subst e1 e3
      obtain ⟨kb, hkb, hk64, hun⟩ := HUN.out k hkl
      rw [hkb] at c0
      have D2 := Lib.hid (cellB (G0.out.trans HG.out) D0.out)
      have D3 := Lib.hid (cellB (G0.out.trans HG.out) D1.out)
      have E2 := Lib.hid c0
      have RX := Lib.hid (keepB R0.out HG.out)
      have HHS := Lib.hid (fun W => LRefs.has_any la.lev la.set kb hk64 W)
      rw [← hun] at HHS
      have HY := Lib.hid (@gl_yes r ki k)
      have HN := Lib.hid (@gl_no r ki k)
      have HLEN : Hid ((gl r ki k).length ≤ 8) := Lib.hid (le8 (gl_len r ki k) hkl HG8.out)
      have HKG := Lib.hid hkg
      clear hkg hkb hk64 hun c0 c1 hkl
      generalize under r ki k = tb at HHS HY HN
      cases tb
      · go_wp2
        refine Facts.wp_region_text (by kernel_rfl) (by kernel_rfl) ?_
        iterate 11
          apply Facts.Lex.exact [] _ (by kernel_rfl)
          · intro u W hC _
            obtain ⟨r0, r1, r2, r3, r4, r5, r6, r7, r8⟩ := re_cells (keepB RX.out hC)
            have c0 := cellB hC D2.out
            have c1 := cellB hC D3.out
            have c2 := cellB hC E2.out
            unfold Facts.one
            go_simp
            first | exact ⟨Grew.refl _, rfl⟩ | rfl
          simp only [Act.put, List.setIfInBounds_toArray, List.set_cons_zero, List.set_cons_succ, Nat.zero_add, Nat.reduceAdd]
        apply Facts.Lex.exact [] _ (by kernel_rfl)
        · intro u W hC _
          unfold Facts.one
          go_simp
          exact ((HHS.out W).mono fun e w' ⟨he, hg⟩ => ⟨_, he, hg, rfl⟩)
        simp only [Act.put, List.setIfInBounds_toArray, List.set_cons_zero, List.set_cons_succ, Nat.reduceAdd]
        refine Facts.Lex.done fun u W2 hC hL => ?_
        have G9 := Lib.hid (HG.out.trans hC)
        have HO2 := Lib.hid (own_grew HO.out hC)
        have HE := Lib.hid (HN.out (by first | rfl | trivial))
        clear hC hL r0 r1 r2 r3 r4 r5 r6 r7 r8
        go_wp2
        go_roundg g
        case measure => exact Nat.lt_succ_self _
        case rel =>
          refine ⟨k + 1, _, DN.m4 HKG.out, rfl, by first | rfl | simp [hkw], ?_, G9⟩
          rw [HE.out]
          exact HO2
      · go_wp2
        refine Facts.wp_region_text (by kernel_rfl) (by kernel_rfl) ?_
        iterate 11
          apply Facts.Lex.exact [] _ (by kernel_rfl)
          · intro u W hC _
            obtain ⟨r0, r1, r2, r3, r4, r5, r6, r7, r8⟩ := re_cells (keepB RX.out hC)
            have c0 := cellB hC D2.out
            have c1 := cellB hC D3.out
            have c2 := cellB hC E2.out
            unfold Facts.one
            go_simp
            first | exact ⟨Grew.refl _, rfl⟩ | rfl
          simp only [Act.put, List.setIfInBounds_toArray, List.set_cons_zero, List.set_cons_succ, Nat.zero_add, Nat.reduceAdd]
        apply Facts.Lex.exact [] _ (by kernel_rfl)
        · intro u W hC _
          unfold Facts.one
          go_simp
          exact ((HHS.out W).mono fun e w' ⟨he, hg⟩ => ⟨_, he, hg, rfl⟩)
        simp only [Act.put, List.setIfInBounds_toArray, List.set_cons_zero, List.set_cons_succ, Nat.reduceAdd]
        refine Facts.Lex.done fun u W2 hC hL => ?_
        have HE := Lib.hid (HY.out (by first | rfl | trivial))
        have G9 := HG.out.trans hC
        have hsz : w.heap.size + 1 ≤ W2.heap.size := size_step HB1.out G9
        obtain ⟨v', w3, hr, hown, hb⟩ := app_one W2 (w.heap.size + 1) v5 (gl r ki k) (k : Int) (own_grew HO.out hC) (b8 HLEN.out) hsz
        have HAPP := Lib.hid hr
        have HO3 := Lib.hid hown
        have HG3 := Lib.hid (grew_step HB1.out G9 hb)
        clear hr hown hb hsz hC hL r0 r1 r2 r3 r4 r5 r6 r7 r8 G9
        go_wp2_with (at_builtin; refine wpList_app_want (.tmp 37) (.tmp 39) 23 (by rfl) (by rfl) _ _ rfl rfl v' w3 (by exact HAPP.out) ?_)
        go_roundg g
        case measure => exact Nat.lt_succ_self _
        case rel =>
          refine ⟨k + 1, _, DN.m4 HKG.out, rfl, by first | rfl | simp [hkw], ?_, HG3⟩
          rw [HE.out]
          exact HO3
theorem rguilds_any (v : Value) (r : Re) (i : Int) (w : World) (h : ReIs w v r) (hm : mayBe r = true) : Calls Tryz.prog 25 #[v, .int .i64 i] w fun e w' => ∃ v', e = .returned v' ∧ Is w' v' (guildsOf r i) ∧ Grew w w' := by
  cases hi : inn r.labels.length i with
  | false =>
    rw [guilds_out hi]
    exact (rguilds_out v r i w h hi).mono fun e w' ⟨he, hg⟩ => ⟨_, he, is_nil _, hg⟩
  | true =>
    obtain ⟨k, rfl, hk⟩ := inn_yes hi
    rw [guilds_in hm hk]
    exact rguilds_in v r k w h hm hk
end Go.Proofs.YtmegdgeiikhflaaGreat.EK
namespace Go.Proofs.YtmegdgeiikhflaaGreat.EL
set_option maxRecDepth 100000
open Go Go.RowKit Go.Lib Go.Proofs.YtmegdgeiikhflaaGreat Go.Proofs.YtmegdgeiikhflaaGreat.Facts Go.Proofs.YtmegdgeiikhflaaGreat.Plain Go.Proofs.YtmegdgeiikhflaaGreat.Ints Go.Proofs.YtmegdgeiikhflaaGreat.RRows Go.Proofs.YtmegdgeiikhflaaGreat.LBox Go.Proofs.YtmegdgeiikhflaaGreat.RSmall Go.Proofs.YtmegdgeiikhflaaGreat.RFind Go.Proofs.YtmegdgeiikhflaaGreat.RAll Go.Proofs.YtmegdgeiikhflaaGreat.RRules Go.Proofs.YtmegdgeiikhflaaGreat.RRule3 Go.Proofs.YtmegdgeiikhflaaGreat.RRight Go.Proofs.YtmegdgeiikhflaaGreat.HA Go.Proofs.YtmegdgeiikhflaaGreat.HB Go.Proofs.YtmegdgeiikhflaaGreat.HG Go.Proofs.YtmegdgeiikhflaaGreat.HC Go.Proofs.YtmegdgeiikhflaaGreat.HD Go.Proofs.YtmegdgeiikhflaaGreat.EI Go.Proofs.YtmegdgeiikhflaaGreat.EJ Go.Proofs.YtmegdgeiikhflaaGreat.EK

theorem ints_same (w : World) (v v2 : Value) (l : List Int) (h : Is w v l) (h2 : Is w v2 l) : Calls Tryz.prog 24 #[v, v2] w fun e w' => e = .returned (.bool true) ∧ Grew w w' :=
  (ints_any w v v2 l l h h2).mono fun e w' ⟨he, hg⟩ => ⟨by rw [he, decide_eq_true rfl], hg⟩
theorem no_leq {r : Re} {i j : Int} (h : mayBe r = false) : leqR r i j = false := by unfold leqR; rw [h]; rfl
theorem no_place {r : Re} {a : La} (h : mayBe r = false) : RPlaces.place r a = -1 := if_neg (by rw [h]; decide)
theorem no_hall {r : Re} {i : Int} (h : mayBe r = false) : EA.hallP r i = -1 := if_neg (by rw [h]; decide)
theorem no_guild {r : Re} {i : Int} (h : mayBe r = false) : guildOf r i = -1 := if_neg (by rw [h]; decide)
theorem no_guilds {r : Re} {i : Int} (h : mayBe r = false) : guildsOf r i = [] := if_neg (by rw [h]; decide)
theorem no_acct {r : Re} {s : ByteArray} (h : mayBe r = false) : EA.acctP r s = -1 := if_neg (by rw [h]; decide)
set_option maxHeartbeats 16000000 in
theorem tells (v : Value) (r : Re) (p q : Int) (a : La) (s : ByteArray) (w : World) (h : ReIs w v r) (hs : Sized r) : Calls Tryz.prog 3 #[v, .int .i64 p, .int .i64 q, .agg #[.int .i64 a.lev, .int .u64 (a.set.toNat : Int)], .string s] w fun e w' => e = .returned (.bool true) ∧ Grew w w' := by
  have HR11 := Lib.hid (fun W hg => right_re v r W (h.grew (w' := W) hg) hs)
  have HR12 := Lib.hid (fun W hg => DR.rright_any v r W (h.grew (w' := W) hg) hs)
  have HAL := Lib.hid (fun W => ED.alive_any W)
  have H14 := Lib.hid (fun W hg => leqR_any v r p q W (h.grew (w' := W) hg) hs)
  have H15 := Lib.hid (fun W hg => RPlaces.place_any v r a W (h.grew (w' := W) hg) hs)
  have H16 := Lib.hid (fun W hg => EA.hallOf_any v r p W (h.grew (w' := W) hg) hs)
  have H17 := Lib.hid (fun W hg => guildOf_any v r p W (h.grew (w' := W) hg) hs)
  have H18 := Lib.hid (fun W hg => guildsOf_any v r p W (h.grew (w' := W) hg) hs)
  have H19 := Lib.hid (fun W hg => EA.account_any v r s W (h.grew (w' := W) hg) hs)
  cases hm : mayBe r with
  | false =>
    rw [hm] at HR11 HR12
    rw [no_leq hm] at H14
    rw [no_place hm] at H15
    rw [no_hall hm] at H16
    rw [no_guild hm] at H17
    rw [no_guilds hm] at H18
    rw [no_acct hm] at H19
    clear hm hs
    obtain ⟨v0, v1, v2, v3, v4, rfl, h0, h1, h2, h3, h4⟩ := h
    obtain ⟨A0', cp0, rfl, _⟩ := h0.slice
    obtain ⟨A1', cp1, rfl, _⟩ := id h1
    obtain ⟨A2', cp2, rfl, _⟩ := h2.slice
    obtain ⟨A3', cp3, rfl, _⟩ := h3.slice
    obtain ⟨A4', cp4, rfl, _⟩ := h4.slice
    clear h0 h1 h2 h3 h4
    have G0 : Hid (Grew w ((w.alloc (Obj.cells #[.slice A0' r.labels.length cp0, .slice A1' r.lines.length cp1, .slice A2' r.accounts.length cp2, .slice A3' r.guilds.length cp3, .slice A4' r.quotas.length cp4, .int .i64 r.orders, .int .i64 r.audits, .int .i64 r.rate, .int .i64 r.rounds] 28)).alloc (.cells #[.int .i64 a.lev, .int .u64 (a.set.toNat : Int)] 31))) := Lib.hid (by unfold Grew; go_grown)
    have R0 : Hid (((w.alloc (Obj.cells #[.slice A0' r.labels.length cp0, .slice A1' r.lines.length cp1, .slice A2' r.accounts.length cp2, .slice A3' r.guilds.length cp3, .slice A4' r.quotas.length cp4, .int .i64 r.orders, .int .i64 r.audits, .int .i64 r.rate, .int .i64 r.rounds] 28)).alloc (.cells #[.int .i64 a.lev, .int .u64 (a.set.toNat : Int)] 31)).heap[w.heap.size]? = some (rcell (.slice A0' r.labels.length cp0) (.slice A1' r.lines.length cp1) (.slice A2' r.accounts.length cp2) (.slice A3' r.guilds.length cp3) (.slice A4' r.quotas.length cp4) r.orders r.audits r.rate r.rounds)) := Lib.hid ((heap_alloc_old _ _ (by simp)).trans (heap_alloc_new w _))
    have A0 : Hid (((w.alloc (Obj.cells #[.slice A0' r.labels.length cp0, .slice A1' r.lines.length cp1, .slice A2' r.accounts.length cp2, .slice A3' r.guilds.length cp3, .slice A4' r.quotas.length cp4, .int .i64 r.orders, .int .i64 r.audits, .int .i64 r.rate, .int .i64 r.rounds] 28)).alloc (.cells #[.int .i64 a.lev, .int .u64 (a.set.toNat : Int)] 31)).heap[w.heap.size + 1]? = some (.cells #[.int .i64 a.lev, .int .u64 (a.set.toNat : Int)] 31 (0, 0))) := Lib.hid (heap_alloc2_new w _ _)
    obtain ⟨r0, r1, r2, r3, r4, r5, r6, r7, r8⟩ := re_cells R0.out
    obtain ⟨a0, a1, _, _⟩ := lab_cells A0.out
    go_enter Tryz.func3, Tryz.ntmps3
    go_wp2_with fail
    refine Facts.wp_region_text (by kernel_rfl) (by kernel_rfl) ?_
    apply Facts.Lex.exact [] _ (by kernel_rfl)
    · intro u W hC _
      obtain ⟨r0, r1, r2, r3, r4, r5, r6, r7, r8⟩ := re_cells (keepB R0.out hC)
      unfold Facts.one
      go_simp
      first | exact ⟨Grew.refl _, rfl⟩ | rfl
    simp only [Act.put, List.setIfInBounds_toArray, List.set_cons_zero, List.set_cons_succ, Nat.zero_add]
    apply Facts.Lex.exact [] _ (by kernel_rfl)
    · intro u W hC _
      unfold Facts.one
      go_simp
      exact ((HR11.out W (G0.out.trans hC)).mono fun e w' ⟨he, hg⟩ => ⟨_, he, hg, rfl⟩)
    simp only [Act.put, List.setIfInBounds_toArray, List.set_cons_zero, List.set_cons_succ, Nat.reduceAdd]
    apply Facts.Lex.exact [] _ (by kernel_rfl)
    · intro u W hC _
      obtain ⟨r0, r1, r2, r3, r4, r5, r6, r7, r8⟩ := re_cells (keepB R0.out hC)
      unfold Facts.one
      go_simp
      first | exact ⟨Grew.refl _, rfl⟩ | rfl
    simp only [Act.put, List.setIfInBounds_toArray, List.set_cons_zero, List.set_cons_succ, Nat.reduceAdd]
    apply Facts.Lex.exact [] _ (by kernel_rfl)
    · intro u W hC _
      unfold Facts.one
      go_simp
      exact ((HR12.out W (G0.out.trans hC)).mono fun e w' ⟨he, hg⟩ => ⟨_, he, hg, rfl⟩)
    simp only [Act.put, List.setIfInBounds_toArray, List.set_cons_zero, List.set_cons_succ, Nat.reduceAdd]
    apply Facts.Lex.exact [] _ (by kernel_rfl)
    · intro u W hC _
      unfold Facts.one
      go_simp
      first | exact ⟨Grew.refl _, rfl⟩ | rfl
    simp only [Act.put, List.setIfInBounds_toArray, List.set_cons_zero, List.set_cons_succ, Nat.reduceAdd]
    refine Facts.Lex.done fun u W2 hC hL => ?_
    have GA := Lib.hid (G0.out.trans hC)
    have RA := Lib.hid (keepB R0.out hC)
    have AA := Lib.hid (keepB A0.out hC)
    clear hC hL r0 r1 r2 r3 r4 r5 r6 r7 r8 a0 a1 R0 A0 G0
    obtain ⟨r0, r1, r2, r3, r4, r5, r6, r7, r8⟩ := re_cells RA.out
    go_wp2_with fail
    with_reducible refine (HR12.out _ GA.out).mono ?_
    rintro e w2 ⟨rfl, hg⟩
    have G0 := Lib.hid (GA.out.trans hg)
    have R0 := Lib.hid (keepB RA.out hg)
    have A0 := Lib.hid (keepB AA.out hg)
    clear hg GA RA AA r0 r1 r2 r3 r4 r5 r6 r7 r8
    obtain ⟨r0, r1, r2, r3, r4, r5, r6, r7, r8⟩ := re_cells R0.out
    obtain ⟨a0, a1, _, _⟩ := lab_cells A0.out
    go_wp2_with fail
    with_reducible refine (HAL.out _).mono ?_
    rintro e y1 ⟨rfl, hg⟩
    have G1 := Lib.hid (G0.out.trans hg)
    have R1 := Lib.hid (keepB R0.out hg)
    have A1 := Lib.hid (keepB A0.out hg)
    clear hg r0 r1 r2 r3 r4 r5 r6 r7 r8 a0 a1
    obtain ⟨r0, r1, r2, r3, r4, r5, r6, r7, r8⟩ := re_cells R1.out
    obtain ⟨a0, a1, _, _⟩ := lab_cells A1.out
    go_wp2_with fail
    with_reducible refine (H14.out _ G1.out).mono ?_
    rintro e y2 ⟨rfl, hg⟩
    have G2 := Lib.hid (G1.out.trans hg)
    have R2 := Lib.hid (keepB R1.out hg)
    have A2 := Lib.hid (keepB A1.out hg)
    clear hg r0 r1 r2 r3 r4 r5 r6 r7 r8 a0 a1
    obtain ⟨r0, r1, r2, r3, r4, r5, r6, r7, r8⟩ := re_cells R2.out
    obtain ⟨a0, a1, _, _⟩ := lab_cells A2.out
    go_wp2_with fail
    with_reducible refine (H15.out _ G2.out).mono ?_
    rintro e y3 ⟨rfl, hg⟩
    have G3 := Lib.hid (G2.out.trans hg)
    have R3 := Lib.hid (keepB R2.out hg)
    have A3 := Lib.hid (keepB A2.out hg)
    clear hg r0 r1 r2 r3 r4 r5 r6 r7 r8 a0 a1
    obtain ⟨r0, r1, r2, r3, r4, r5, r6, r7, r8⟩ := re_cells R3.out
    obtain ⟨a0, a1, _, _⟩ := lab_cells A3.out
    go_wp2_with fail
    with_reducible refine (H16.out _ G3.out).mono ?_
    rintro e y4 ⟨rfl, hg⟩
    have G4 := Lib.hid (G3.out.trans hg)
    have R4 := Lib.hid (keepB R3.out hg)
    have A4 := Lib.hid (keepB A3.out hg)
    clear hg r0 r1 r2 r3 r4 r5 r6 r7 r8 a0 a1
    obtain ⟨r0, r1, r2, r3, r4, r5, r6, r7, r8⟩ := re_cells R4.out
    obtain ⟨a0, a1, _, _⟩ := lab_cells A4.out
    go_wp2_with fail
    with_reducible refine (H17.out _ G4.out).mono ?_
    rintro e y5 ⟨rfl, hg⟩
    have G5 := Lib.hid (G4.out.trans hg)
    have R5 := Lib.hid (keepB R4.out hg)
    have A5 := Lib.hid (keepB A4.out hg)
    clear hg r0 r1 r2 r3 r4 r5 r6 r7 r8 a0 a1
    obtain ⟨r0, r1, r2, r3, r4, r5, r6, r7, r8⟩ := re_cells R5.out
    obtain ⟨a0, a1, _, _⟩ := lab_cells A5.out
    go_wp2_with fail
    refine (H18.out _ G5.out).mono ?_
    rintro e y6 ⟨v8, rfl, hr, hg⟩
    have G6 := Lib.hid (G5.out.trans hg)
    have R6 := Lib.hid (keepB R5.out hg)
    have A6 := Lib.hid (keepB A5.out hg)
    obtain ⟨AA, cc, rfl, _⟩ := hr
    clear hg r0 r1 r2 r3 r4 r5 r6 r7 r8 a0 a1
    obtain ⟨r0, r1, r2, r3, r4, r5, r6, r7, r8⟩ := re_cells R6.out
    obtain ⟨a0, a1, _, _⟩ := lab_cells A6.out
    go_wp2_with fail
    with_reducible refine (H19.out _ G6.out).mono ?_
    rintro e y7 ⟨rfl, hg⟩
    have G7 := Lib.hid (G6.out.trans hg)
    have R7 := Lib.hid (keepB R6.out hg)
    have A7 := Lib.hid (keepB A6.out hg)
    clear hg r0 r1 r2 r3 r4 r5 r6 r7 r8 a0 a1
    obtain ⟨r0, r1, r2, r3, r4, r5, r6, r7, r8⟩ := re_cells R7.out
    obtain ⟨a0, a1, _, _⟩ := lab_cells A7.out
    go_wp2
    go_returns
    exact ⟨rfl, G7.out⟩
  | true =>
    rw [hm] at HR11 HR12
    have H20 := Lib.hid (fun W hg => rleqR_any v r p q W (h.grew (w' := W) hg) hm)
    have H21 := Lib.hid (fun W hg => rplace_any v r a W (h.grew (w' := W) hg) hm)
    have H22 := Lib.hid (fun W hg => rhallOf_any v r p W (h.grew (w' := W) hg) hm)
    have H23 := Lib.hid (fun W hg => rguildOf_any v r p W (h.grew (w' := W) hg) hm)
    have H25 := Lib.hid (fun W hg => rguilds_any v r p W (h.grew (w' := W) hg) hm)
    have H26 := Lib.hid (fun W hg => raccount_any v r s W (h.grew (w' := W) hg) hm)
    clear hm hs
    generalize leqR r p q = xl at *
    generalize RPlaces.place r a = xp at *
    generalize EA.hallP r p = xh at *
    generalize guildOf r p = xg at *
    generalize EA.acctP r s = xa at *
    obtain ⟨v0, v1, v2, v3, v4, rfl, h0, h1, h2, h3, h4⟩ := h
    obtain ⟨A0', cp0, rfl, _⟩ := h0.slice
    obtain ⟨A1', cp1, rfl, _⟩ := id h1
    obtain ⟨A2', cp2, rfl, _⟩ := h2.slice
    obtain ⟨A3', cp3, rfl, _⟩ := h3.slice
    obtain ⟨A4', cp4, rfl, _⟩ := h4.slice
    clear h0 h1 h2 h3 h4
    have G0 : Hid (Grew w ((w.alloc (Obj.cells #[.slice A0' r.labels.length cp0, .slice A1' r.lines.length cp1, .slice A2' r.accounts.length cp2, .slice A3' r.guilds.length cp3, .slice A4' r.quotas.length cp4, .int .i64 r.orders, .int .i64 r.audits, .int .i64 r.rate, .int .i64 r.rounds] 28)).alloc (.cells #[.int .i64 a.lev, .int .u64 (a.set.toNat : Int)] 31))) := Lib.hid (by unfold Grew; go_grown)
    have R0 : Hid (((w.alloc (Obj.cells #[.slice A0' r.labels.length cp0, .slice A1' r.lines.length cp1, .slice A2' r.accounts.length cp2, .slice A3' r.guilds.length cp3, .slice A4' r.quotas.length cp4, .int .i64 r.orders, .int .i64 r.audits, .int .i64 r.rate, .int .i64 r.rounds] 28)).alloc (.cells #[.int .i64 a.lev, .int .u64 (a.set.toNat : Int)] 31)).heap[w.heap.size]? = some (rcell (.slice A0' r.labels.length cp0) (.slice A1' r.lines.length cp1) (.slice A2' r.accounts.length cp2) (.slice A3' r.guilds.length cp3) (.slice A4' r.quotas.length cp4) r.orders r.audits r.rate r.rounds)) := Lib.hid ((heap_alloc_old _ _ (by simp)).trans (heap_alloc_new w _))
    have A0 : Hid (((w.alloc (Obj.cells #[.slice A0' r.labels.length cp0, .slice A1' r.lines.length cp1, .slice A2' r.accounts.length cp2, .slice A3' r.guilds.length cp3, .slice A4' r.quotas.length cp4, .int .i64 r.orders, .int .i64 r.audits, .int .i64 r.rate, .int .i64 r.rounds] 28)).alloc (.cells #[.int .i64 a.lev, .int .u64 (a.set.toNat : Int)] 31)).heap[w.heap.size + 1]? = some (.cells #[.int .i64 a.lev, .int .u64 (a.set.toNat : Int)] 31 (0, 0))) := Lib.hid (heap_alloc2_new w _ _)
    obtain ⟨r0, r1, r2, r3, r4, r5, r6, r7, r8⟩ := re_cells R0.out
    obtain ⟨a0, a1, _, _⟩ := lab_cells A0.out
    go_enter Tryz.func3, Tryz.ntmps3
    go_wp2_with fail
    refine Facts.wp_region_text (by kernel_rfl) (by kernel_rfl) ?_
    apply Facts.Lex.exact [] _ (by kernel_rfl)
    · intro u W hC _
      obtain ⟨r0, r1, r2, r3, r4, r5, r6, r7, r8⟩ := re_cells (keepB R0.out hC)
      unfold Facts.one
      go_simp
      first | exact ⟨Grew.refl _, rfl⟩ | rfl
    simp only [Act.put, List.setIfInBounds_toArray, List.set_cons_zero, List.set_cons_succ, Nat.zero_add]
    apply Facts.Lex.exact [] _ (by kernel_rfl)
    · intro u W hC _
      unfold Facts.one
      go_simp
      exact ((HR11.out W (G0.out.trans hC)).mono fun e w' ⟨he, hg⟩ => ⟨_, he, hg, rfl⟩)
    simp only [Act.put, List.setIfInBounds_toArray, List.set_cons_zero, List.set_cons_succ, Nat.reduceAdd]
    apply Facts.Lex.exact [] _ (by kernel_rfl)
    · intro u W hC _
      obtain ⟨r0, r1, r2, r3, r4, r5, r6, r7, r8⟩ := re_cells (keepB R0.out hC)
      unfold Facts.one
      go_simp
      first | exact ⟨Grew.refl _, rfl⟩ | rfl
    simp only [Act.put, List.setIfInBounds_toArray, List.set_cons_zero, List.set_cons_succ, Nat.reduceAdd]
    apply Facts.Lex.exact [] _ (by kernel_rfl)
    · intro u W hC _
      unfold Facts.one
      go_simp
      exact ((HR12.out W (G0.out.trans hC)).mono fun e w' ⟨he, hg⟩ => ⟨_, he, hg, rfl⟩)
    simp only [Act.put, List.setIfInBounds_toArray, List.set_cons_zero, List.set_cons_succ, Nat.reduceAdd]
    apply Facts.Lex.exact [] _ (by kernel_rfl)
    · intro u W hC _
      unfold Facts.one
      go_simp
      first | exact ⟨Grew.refl _, rfl⟩ | rfl
    simp only [Act.put, List.setIfInBounds_toArray, List.set_cons_zero, List.set_cons_succ, Nat.reduceAdd]
    refine Facts.Lex.done fun u W2 hC hL => ?_
    have GA := Lib.hid (G0.out.trans hC)
    have RA := Lib.hid (keepB R0.out hC)
    have AA := Lib.hid (keepB A0.out hC)
    clear hC hL r0 r1 r2 r3 r4 r5 r6 r7 r8 a0 a1 R0 A0 G0
    obtain ⟨r0, r1, r2, r3, r4, r5, r6, r7, r8⟩ := re_cells RA.out
    go_wp2_with fail
    with_reducible refine (HR12.out _ GA.out).mono ?_
    rintro e w2 ⟨rfl, hg⟩
    have G0 := Lib.hid (GA.out.trans hg)
    have R0 := Lib.hid (keepB RA.out hg)
    have A0 := Lib.hid (keepB AA.out hg)
    clear hg GA RA AA r0 r1 r2 r3 r4 r5 r6 r7 r8
    go_wp2_with fail
    refine Facts.wp_region_text (by kernel_rfl) (by kernel_rfl) ?_
    apply Facts.Lex.exact [] _ (by kernel_rfl)
    · intro u W hC _
      unfold Facts.one
      go_simp
      exact ((HAL.out W).mono fun e w' ⟨he, hg⟩ => ⟨_, he, hg, rfl⟩)
    simp only [Act.put, List.setIfInBounds_toArray, List.set_cons_zero, List.set_cons_succ, Nat.zero_add]
    apply Facts.Lex.exact [] _ (by kernel_rfl)
    · intro u W hC _
      unfold Facts.one
      go_simp
      first | exact ⟨Grew.refl _, rfl⟩ | rfl
    simp only [Act.put, List.setIfInBounds_toArray, List.set_cons_zero, List.set_cons_succ, Nat.reduceAdd]
    apply Facts.Lex.exact [] _ (by kernel_rfl)
    · intro u W hC _
      obtain ⟨r0, r1, r2, r3, r4, r5, r6, r7, r8⟩ := re_cells (keepB R0.out hC)
      unfold Facts.one
      go_simp
      first | exact ⟨Grew.refl _, rfl⟩ | rfl
    simp only [Act.put, List.setIfInBounds_toArray, List.set_cons_zero, List.set_cons_succ, Nat.reduceAdd]
    apply Facts.Lex.exact [] _ (by kernel_rfl)
    · intro u W hC _
      unfold Facts.one
      go_simp
      first | exact ⟨Grew.refl _, rfl⟩ | rfl
    simp only [Act.put, List.setIfInBounds_toArray, List.set_cons_zero, List.set_cons_succ, Nat.reduceAdd]
    apply Facts.Lex.exact [] _ (by kernel_rfl)
    · intro u W hC _
      unfold Facts.one
      go_simp
      first | exact ⟨Grew.refl _, rfl⟩ | rfl
    simp only [Act.put, List.setIfInBounds_toArray, List.set_cons_zero, List.set_cons_succ, Nat.reduceAdd]
    apply Facts.Lex.exact [] _ (by kernel_rfl)
    · intro u W hC _
      unfold Facts.one
      go_simp
      exact ((H14.out W (G0.out.trans hC)).mono fun e w' ⟨he, hg⟩ => ⟨_, he, hg, rfl⟩)
    simp only [Act.put, List.setIfInBounds_toArray, List.set_cons_zero, List.set_cons_succ, Nat.reduceAdd]
    apply Facts.Lex.exact [] _ (by kernel_rfl)
    · intro u W hC _
      obtain ⟨r0, r1, r2, r3, r4, r5, r6, r7, r8⟩ := re_cells (keepB R0.out hC)
      unfold Facts.one
      go_simp
      first | exact ⟨Grew.refl _, rfl⟩ | rfl
    simp only [Act.put, List.setIfInBounds_toArray, List.set_cons_zero, List.set_cons_succ, Nat.reduceAdd]
    apply Facts.Lex.exact [] _ (by kernel_rfl)
    · intro u W hC _
      unfold Facts.one
      go_simp
      first | exact ⟨Grew.refl _, rfl⟩ | rfl
    simp only [Act.put, List.setIfInBounds_toArray, List.set_cons_zero, List.set_cons_succ, Nat.reduceAdd]
    apply Facts.Lex.exact [] _ (by kernel_rfl)
    · intro u W hC _
      unfold Facts.one
      go_simp
      first | exact ⟨Grew.refl _, rfl⟩ | rfl
    simp only [Act.put, List.setIfInBounds_toArray, List.set_cons_zero, List.set_cons_succ, Nat.reduceAdd]
    apply Facts.Lex.exact [] _ (by kernel_rfl)
    · intro u W hC _
      unfold Facts.one
      go_simp
      exact ((H20.out W (G0.out.trans hC)).mono fun e w' ⟨he, hg⟩ => ⟨_, he, hg, rfl⟩)
    simp only [Act.put, List.setIfInBounds_toArray, List.set_cons_zero, List.set_cons_succ, Nat.reduceAdd]
    apply Facts.Lex.exact [] _ (by kernel_rfl)
    · intro u W hC _
      unfold Facts.one
      go_simp
      first | exact ⟨Grew.refl _, rfl⟩ | rfl
    simp only [Act.put, List.setIfInBounds_toArray, List.set_cons_zero, List.set_cons_succ, Nat.reduceAdd]
    apply Facts.Lex.exact [] _ (by kernel_rfl)
    · intro u W hC _
      unfold Facts.one
      go_simp
      first | exact ⟨Grew.refl _, rfl⟩ | rfl
    simp only [Act.put, List.setIfInBounds_toArray, List.set_cons_zero, List.set_cons_succ, Nat.reduceAdd]
    apply Facts.Lex.exact [] _ (by kernel_rfl)
    · intro u W hC _
      unfold Facts.one
      go_simp
      first | exact ⟨Grew.refl _, rfl⟩ | rfl
    simp only [Act.put, List.setIfInBounds_toArray, List.set_cons_zero, List.set_cons_succ, Nat.reduceAdd]
    apply Facts.Lex.exact [] _ (by kernel_rfl)
    · intro u W hC _
      obtain ⟨r0, r1, r2, r3, r4, r5, r6, r7, r8⟩ := re_cells (keepB R0.out hC)
      unfold Facts.one
      go_simp
      first | exact ⟨Grew.refl _, rfl⟩ | rfl
    simp only [Act.put, List.setIfInBounds_toArray, List.set_cons_zero, List.set_cons_succ, Nat.reduceAdd]
    apply Facts.Lex.exact [] _ (by kernel_rfl)
    · intro u W hC _
      obtain ⟨a0, a1, _, _⟩ := lab_cells (keepB A0.out hC)
      unfold Facts.one
      go_simp
      first | exact ⟨Grew.refl _, rfl⟩ | rfl
    simp only [Act.put, List.setIfInBounds_toArray, List.set_cons_zero, List.set_cons_succ, Nat.reduceAdd]
    apply Facts.Lex.exact [] _ (by kernel_rfl)
    · intro u W hC _
      unfold Facts.one
      go_simp
      exact ((H15.out W (G0.out.trans hC)).mono fun e w' ⟨he, hg⟩ => ⟨_, he, hg, rfl⟩)
    simp only [Act.put, List.setIfInBounds_toArray, List.set_cons_zero, List.set_cons_succ, Nat.reduceAdd]
    apply Facts.Lex.exact [] _ (by kernel_rfl)
    · intro u W hC _
      obtain ⟨r0, r1, r2, r3, r4, r5, r6, r7, r8⟩ := re_cells (keepB R0.out hC)
      unfold Facts.one
      go_simp
      first | exact ⟨Grew.refl _, rfl⟩ | rfl
    simp only [Act.put, List.setIfInBounds_toArray, List.set_cons_zero, List.set_cons_succ, Nat.reduceAdd]
    apply Facts.Lex.exact [] _ (by kernel_rfl)
    · intro u W hC _
      obtain ⟨a0, a1, _, _⟩ := lab_cells (keepB A0.out hC)
      unfold Facts.one
      go_simp
      first | exact ⟨Grew.refl _, rfl⟩ | rfl
    simp only [Act.put, List.setIfInBounds_toArray, List.set_cons_zero, List.set_cons_succ, Nat.reduceAdd]
    apply Facts.Lex.exact [] _ (by kernel_rfl)
    · intro u W hC _
      unfold Facts.one
      go_simp
      exact ((H21.out W (G0.out.trans hC)).mono fun e w' ⟨he, hg⟩ => ⟨_, he, hg, rfl⟩)
    simp only [Act.put, List.setIfInBounds_toArray, List.set_cons_zero, List.set_cons_succ, Nat.reduceAdd]
    apply Facts.Lex.exact [] _ (by kernel_rfl)
    · intro u W hC _
      unfold Facts.one
      go_simp
      first | exact ⟨Grew.refl _, rfl⟩ | rfl
    simp only [Act.put, List.setIfInBounds_toArray, List.set_cons_zero, List.set_cons_succ, Nat.reduceAdd]
    apply Facts.Lex.exact [] _ (by kernel_rfl)
    · intro u W hC _
      unfold Facts.one
      go_simp
      first | exact ⟨Grew.refl _, rfl⟩ | rfl
    simp only [Act.put, List.setIfInBounds_toArray, List.set_cons_zero, List.set_cons_succ, Nat.reduceAdd]
    apply Facts.Lex.exact [] _ (by kernel_rfl)
    · intro u W hC _
      unfold Facts.one
      go_simp
      first | exact ⟨Grew.refl _, rfl⟩ | rfl
    simp only [Act.put, List.setIfInBounds_toArray, List.set_cons_zero, List.set_cons_succ, Nat.reduceAdd]
    apply Facts.Lex.exact [] _ (by kernel_rfl)
    · intro u W hC _
      obtain ⟨r0, r1, r2, r3, r4, r5, r6, r7, r8⟩ := re_cells (keepB R0.out hC)
      unfold Facts.one
      go_simp
      first | exact ⟨Grew.refl _, rfl⟩ | rfl
    simp only [Act.put, List.setIfInBounds_toArray, List.set_cons_zero, List.set_cons_succ, Nat.reduceAdd]
    apply Facts.Lex.exact [] _ (by kernel_rfl)
    · intro u W hC _
      unfold Facts.one
      go_simp
      first | exact ⟨Grew.refl _, rfl⟩ | rfl
    simp only [Act.put, List.setIfInBounds_toArray, List.set_cons_zero, List.set_cons_succ, Nat.reduceAdd]
    apply Facts.Lex.exact [] _ (by kernel_rfl)
    · intro u W hC _
      unfold Facts.one
      go_simp
      exact ((H16.out W (G0.out.trans hC)).mono fun e w' ⟨he, hg⟩ => ⟨_, he, hg, rfl⟩)
    simp only [Act.put, List.setIfInBounds_toArray, List.set_cons_zero, List.set_cons_succ, Nat.reduceAdd]
    apply Facts.Lex.exact [] _ (by kernel_rfl)
    · intro u W hC _
      obtain ⟨r0, r1, r2, r3, r4, r5, r6, r7, r8⟩ := re_cells (keepB R0.out hC)
      unfold Facts.one
      go_simp
      first | exact ⟨Grew.refl _, rfl⟩ | rfl
    simp only [Act.put, List.setIfInBounds_toArray, List.set_cons_zero, List.set_cons_succ, Nat.reduceAdd]
    apply Facts.Lex.exact [] _ (by kernel_rfl)
    · intro u W hC _
      unfold Facts.one
      go_simp
      first | exact ⟨Grew.refl _, rfl⟩ | rfl
    simp only [Act.put, List.setIfInBounds_toArray, List.set_cons_zero, List.set_cons_succ, Nat.reduceAdd]
    apply Facts.Lex.exact [] _ (by kernel_rfl)
    · intro u W hC _
      unfold Facts.one
      go_simp
      exact ((H22.out W (G0.out.trans hC)).mono fun e w' ⟨he, hg⟩ => ⟨_, he, hg, rfl⟩)
    simp only [Act.put, List.setIfInBounds_toArray, List.set_cons_zero, List.set_cons_succ, Nat.reduceAdd]
    apply Facts.Lex.exact [] _ (by kernel_rfl)
    · intro u W hC _
      unfold Facts.one
      go_simp
      first | exact ⟨Grew.refl _, rfl⟩ | rfl
    simp only [Act.put, List.setIfInBounds_toArray, List.set_cons_zero, List.set_cons_succ, Nat.reduceAdd]
    apply Facts.Lex.exact [] _ (by kernel_rfl)
    · intro u W hC _
      unfold Facts.one
      go_simp
      first | exact ⟨Grew.refl _, rfl⟩ | rfl
    simp only [Act.put, List.setIfInBounds_toArray, List.set_cons_zero, List.set_cons_succ, Nat.reduceAdd]
    apply Facts.Lex.exact [] _ (by kernel_rfl)
    · intro u W hC _
      unfold Facts.one
      go_simp
      first | exact ⟨Grew.refl _, rfl⟩ | rfl
    simp only [Act.put, List.setIfInBounds_toArray, List.set_cons_zero, List.set_cons_succ, Nat.reduceAdd]
    apply Facts.Lex.exact [] _ (by kernel_rfl)
    · intro u W hC _
      obtain ⟨r0, r1, r2, r3, r4, r5, r6, r7, r8⟩ := re_cells (keepB R0.out hC)
      unfold Facts.one
      go_simp
      first | exact ⟨Grew.refl _, rfl⟩ | rfl
    simp only [Act.put, List.setIfInBounds_toArray, List.set_cons_zero, List.set_cons_succ, Nat.reduceAdd]
    apply Facts.Lex.exact [] _ (by kernel_rfl)
    · intro u W hC _
      unfold Facts.one
      go_simp
      first | exact ⟨Grew.refl _, rfl⟩ | rfl
    simp only [Act.put, List.setIfInBounds_toArray, List.set_cons_zero, List.set_cons_succ, Nat.reduceAdd]
    apply Facts.Lex.exact [] _ (by kernel_rfl)
    · intro u W hC _
      unfold Facts.one
      go_simp
      exact ((H17.out W (G0.out.trans hC)).mono fun e w' ⟨he, hg⟩ => ⟨_, he, hg, rfl⟩)
    simp only [Act.put, List.setIfInBounds_toArray, List.set_cons_zero, List.set_cons_succ, Nat.reduceAdd]
    apply Facts.Lex.exact [] _ (by kernel_rfl)
    · intro u W hC _
      obtain ⟨r0, r1, r2, r3, r4, r5, r6, r7, r8⟩ := re_cells (keepB R0.out hC)
      unfold Facts.one
      go_simp
      first | exact ⟨Grew.refl _, rfl⟩ | rfl
    simp only [Act.put, List.setIfInBounds_toArray, List.set_cons_zero, List.set_cons_succ, Nat.reduceAdd]
    apply Facts.Lex.exact [] _ (by kernel_rfl)
    · intro u W hC _
      unfold Facts.one
      go_simp
      first | exact ⟨Grew.refl _, rfl⟩ | rfl
    simp only [Act.put, List.setIfInBounds_toArray, List.set_cons_zero, List.set_cons_succ, Nat.reduceAdd]
    apply Facts.Lex.exact [] _ (by kernel_rfl)
    · intro u W hC _
      unfold Facts.one
      go_simp
      exact ((H23.out W (G0.out.trans hC)).mono fun e w' ⟨he, hg⟩ => ⟨_, he, hg, rfl⟩)
    simp only [Act.put, List.setIfInBounds_toArray, List.set_cons_zero, List.set_cons_succ, Nat.reduceAdd]
    apply Facts.Lex.exact [] _ (by kernel_rfl)
    · intro u W hC _
      unfold Facts.one
      go_simp
      first | exact ⟨Grew.refl _, rfl⟩ | rfl
    simp only [Act.put, List.setIfInBounds_toArray, List.set_cons_zero, List.set_cons_succ, Nat.reduceAdd]
    apply Facts.Lex.exact [] _ (by kernel_rfl)
    · intro u W hC _
      unfold Facts.one
      go_simp
      first | exact ⟨Grew.refl _, rfl⟩ | rfl
    simp only [Act.put, List.setIfInBounds_toArray, List.set_cons_zero, List.set_cons_succ, Nat.reduceAdd]
    apply Facts.Lex.exact [] _ (by kernel_rfl)
    · intro u W hC _
      unfold Facts.one
      go_simp
      first | exact ⟨Grew.refl _, rfl⟩ | rfl
    simp only [Act.put, List.setIfInBounds_toArray, List.set_cons_zero, List.set_cons_succ, Nat.reduceAdd]
    apply Facts.Lex.exact [] _ (by kernel_rfl)
    · intro u W hC _
      obtain ⟨r0, r1, r2, r3, r4, r5, r6, r7, r8⟩ := re_cells (keepB R0.out hC)
      unfold Facts.one
      go_simp
      first | exact ⟨Grew.refl _, rfl⟩ | rfl
    simp only [Act.put, List.setIfInBounds_toArray, List.set_cons_zero, List.set_cons_succ, Nat.reduceAdd]
    apply Facts.Lex.exact [] _ (by kernel_rfl)
    · intro u W hC _
      unfold Facts.one
      go_simp
      first | exact ⟨Grew.refl _, rfl⟩ | rfl
    simp only [Act.put, List.setIfInBounds_toArray, List.set_cons_zero, List.set_cons_succ, Nat.reduceAdd]
    refine Facts.Lex.know [] (fun v w => Is w v (guildsOf r p)) (by kernel_rfl) (fun _ _ _ h hg => Is.grew h hg) ?_ ?_
    · intro u W hC hK
      clear hK
      unfold Facts.one
      go_simp
      refine (H18.out W (G0.out.trans hC)).mono ?_
      rintro e w' ⟨v', rfl, hr, hg⟩
      exact ⟨_, rfl, hg, hr⟩
    simp only [Act.put, List.setIfInBounds_toArray, List.set_cons_zero, List.set_cons_succ, Nat.reduceAdd]
    apply Facts.Lex.exact [] _ (by kernel_rfl)
    · intro u W hC _
      obtain ⟨r0, r1, r2, r3, r4, r5, r6, r7, r8⟩ := re_cells (keepB R0.out hC)
      unfold Facts.one
      go_simp
      first | exact ⟨Grew.refl _, rfl⟩ | rfl
    simp only [Act.put, List.setIfInBounds_toArray, List.set_cons_zero, List.set_cons_succ, Nat.reduceAdd]
    apply Facts.Lex.exact [] _ (by kernel_rfl)
    · intro u W hC _
      unfold Facts.one
      go_simp
      first | exact ⟨Grew.refl _, rfl⟩ | rfl
    simp only [Act.put, List.setIfInBounds_toArray, List.set_cons_zero, List.set_cons_succ, Nat.reduceAdd]
    refine Facts.Lex.know [] (fun v w => Is w v (guildsOf r p)) (by kernel_rfl) (fun _ _ _ h hg => Is.grew h hg) ?_ ?_
    · intro u W hC hK
      clear hK
      unfold Facts.one
      go_simp
      refine (H25.out W (G0.out.trans hC)).mono ?_
      rintro e w' ⟨v', rfl, hr, hg⟩
      exact ⟨_, rfl, hg, hr⟩
    simp only [Act.put, List.setIfInBounds_toArray, List.set_cons_zero, List.set_cons_succ, Nat.reduceAdd]
    apply Facts.Lex.exact [42, 45] (.bool true) (by kernel_rfl)
    · intro u W hC hK
      have hv1 : Is W (u 42) (guildsOf r p) := hK.2.1
      have hv2 : Is W (u 45) (guildsOf r p) := hK.1
      clear hK
      unfold Facts.one
      go_simp
      exact ((ints_same W _ _ _ hv1 hv2).mono fun e w' ⟨he, hg⟩ => ⟨_, he, hg, rfl⟩)
    simp only [Act.put, List.setIfInBounds_toArray, List.set_cons_zero, List.set_cons_succ, Nat.reduceAdd]
    apply Facts.Lex.exact [] _ (by kernel_rfl)
    · intro u W hC _
      unfold Facts.one
      go_simp
      first | exact ⟨Grew.refl _, rfl⟩ | rfl
    simp only [Act.put, List.setIfInBounds_toArray, List.set_cons_zero, List.set_cons_succ, Nat.reduceAdd]
    apply Facts.Lex.exact [] _ (by kernel_rfl)
    · intro u W hC _
      unfold Facts.one
      go_simp
      first | exact ⟨Grew.refl _, rfl⟩ | rfl
    simp only [Act.put, List.setIfInBounds_toArray, List.set_cons_zero, List.set_cons_succ, Nat.reduceAdd]
    apply Facts.Lex.exact [] _ (by kernel_rfl)
    · intro u W hC _
      obtain ⟨r0, r1, r2, r3, r4, r5, r6, r7, r8⟩ := re_cells (keepB R0.out hC)
      unfold Facts.one
      go_simp
      first | exact ⟨Grew.refl _, rfl⟩ | rfl
    simp only [Act.put, List.setIfInBounds_toArray, List.set_cons_zero, List.set_cons_succ, Nat.reduceAdd]
    apply Facts.Lex.exact [] _ (by kernel_rfl)
    · intro u W hC _
      unfold Facts.one
      go_simp
      first | exact ⟨Grew.refl _, rfl⟩ | rfl
    simp only [Act.put, List.setIfInBounds_toArray, List.set_cons_zero, List.set_cons_succ, Nat.reduceAdd]
    apply Facts.Lex.exact [] _ (by kernel_rfl)
    · intro u W hC _
      unfold Facts.one
      go_simp
      exact ((H19.out W (G0.out.trans hC)).mono fun e w' ⟨he, hg⟩ => ⟨_, he, hg, rfl⟩)
    simp only [Act.put, List.setIfInBounds_toArray, List.set_cons_zero, List.set_cons_succ, Nat.reduceAdd]
    apply Facts.Lex.exact [] _ (by kernel_rfl)
    · intro u W hC _
      obtain ⟨r0, r1, r2, r3, r4, r5, r6, r7, r8⟩ := re_cells (keepB R0.out hC)
      unfold Facts.one
      go_simp
      first | exact ⟨Grew.refl _, rfl⟩ | rfl
    simp only [Act.put, List.setIfInBounds_toArray, List.set_cons_zero, List.set_cons_succ, Nat.reduceAdd]
    apply Facts.Lex.exact [] _ (by kernel_rfl)
    · intro u W hC _
      unfold Facts.one
      go_simp
      first | exact ⟨Grew.refl _, rfl⟩ | rfl
    simp only [Act.put, List.setIfInBounds_toArray, List.set_cons_zero, List.set_cons_succ, Nat.reduceAdd]
    apply Facts.Lex.exact [] _ (by kernel_rfl)
    · intro u W hC _
      unfold Facts.one
      go_simp
      exact ((H26.out W (G0.out.trans hC)).mono fun e w' ⟨he, hg⟩ => ⟨_, he, hg, rfl⟩)
    simp only [Act.put, List.setIfInBounds_toArray, List.set_cons_zero, List.set_cons_succ, Nat.reduceAdd]
    apply Facts.Lex.exact [] _ (by kernel_rfl)
    · intro u W hC _
      unfold Facts.one
      go_simp
      first | exact ⟨Grew.refl _, rfl⟩ | rfl
    simp only [Act.put, List.setIfInBounds_toArray, List.set_cons_zero, List.set_cons_succ, Nat.reduceAdd]
    apply Facts.Lex.exact [] _ (by kernel_rfl)
    · intro u W hC _
      unfold Facts.one
      go_simp
      first | exact ⟨Grew.refl _, rfl⟩ | rfl
    simp only [Act.put, List.setIfInBounds_toArray, List.set_cons_zero, List.set_cons_succ, Nat.reduceAdd]
    apply Facts.Lex.exact [] _ (by kernel_rfl)
    · intro u W hC _
      unfold Facts.one
      go_simp
      first | exact ⟨Grew.refl _, rfl⟩ | rfl
    simp only [Act.put, List.setIfInBounds_toArray, List.set_cons_zero, List.set_cons_succ, Nat.reduceAdd]
    repeat
      apply Facts.Lex.exact [] _ (by kernel_rfl)
      · intro u W hC _
        unfold Facts.one
        go_simp
        first | exact ⟨Grew.refl _, rfl⟩ | rfl
      simp only [Act.put, List.setIfInBounds_toArray, List.set_cons_zero, List.set_cons_succ, Nat.zero_add, Nat.reduceAdd]
    refine Facts.Lex.done fun u W2 hC hL => ?_
    have G9 := Lib.hid (G0.out.trans hC)
    clear hC hL
    go_wp2
    go_returns
    exact ⟨rfl, G9.out⟩
end Go.Proofs.YtmegdgeiikhflaaGreat.EL
namespace Go.Proofs.YtmegdgeiikhflaaGreat.EM
set_option maxRecDepth 100000
open Go.ChangeShapes Go.WideShapes Go.ChangeAt Go.Deep Go.Joins
open Go Go.RowKit Go.Lib Go.Proofs.YtmegdgeiikhflaaGreat Go.Proofs.YtmegdgeiikhflaaGreat.Facts Go.Proofs.YtmegdgeiikhflaaGreat.Plain Go.Proofs.YtmegdgeiikhflaaGreat.Ints Go.Proofs.YtmegdgeiikhflaaGreat.RRows Go.Proofs.YtmegdgeiikhflaaGreat.LBox Go.Proofs.YtmegdgeiikhflaaGreat.RSmall Go.Proofs.YtmegdgeiikhflaaGreat.RFind Go.Proofs.YtmegdgeiikhflaaGreat.RAll Go.Proofs.YtmegdgeiikhflaaGreat.RRules Go.Proofs.YtmegdgeiikhflaaGreat.RRule3 Go.Proofs.YtmegdgeiikhflaaGreat.RRight Go.Proofs.YtmegdgeiikhflaaGreat.HA Go.Proofs.YtmegdgeiikhflaaGreat.HB Go.Proofs.YtmegdgeiikhflaaGreat.HG Go.Proofs.YtmegdgeiikhflaaGreat.HC
open Go.Proofs.YtmegdgeiikhflaaGreat.HO
section
variable {H : Type} {enc : TypeId × Value → H} {w : World} {r : Reach} {b0 : Nat} {v : Value} {d : DataW H} {p : List MemPlace}
theorem open_label' (hv : Value.okWide Tryz.prog w r b0 31 v) (h : DataW.Trod enc Tryz.prog w 0 (fun _ => true) true 31 v d p) : ∃ a : La, v = .agg #[.int .i64 a.lev, .int .u64 (a.set.toNat : Int)] := by
  obtain ⟨cs, rfl, hsz⟩ := okWide_struct Tryz.underlying31 hv
  obtain ⟨fuel, hf⟩ := h
  obtain ⟨hl, hg⟩ := fields Tryz.underlying31 (by kernel_rfl) (by kernel_rfl) (show TR enc w fuel 31 _ _ from hf)
  obtain ⟨cs⟩ := cs
  simp only [Value.cells] at hl hg
  obtain ⟨a, b, rfl⟩ := list2 hl
  obtain ⟨_, _, g0⟩ := hg 0 (by decide) a rfl
  obtain ⟨_, _, g1⟩ := hg 1 (by decide) b rfl
  obtain ⟨z0, rfl, _⟩ := el_int g0
  obtain ⟨z1, rfl⟩ := el_word g1
  exact ⟨⟨z0, z1⟩, rfl⟩
theorem open_text' (hv : Value.okWide Tryz.prog w r b0 9 v) (h : DataW.Trod enc Tryz.prog w 0 (fun _ => true) true 9 v d p) : ∃ s : ByteArray, v = .string s := by
  obtain ⟨s, rfl, _⟩ := ChangeMaps.open_string Tryz.underlying9 hv h
  exact ⟨s, rfl⟩
end
end Go.Proofs.YtmegdgeiikhflaaGreat.EM
