/-
  Who is cleared for a label, as the document tells it.
  Conditions: of ranks that may be.
-/
import Derived.Test.YtmegdgeiikhflaaGreatHD
import Derived.Test.YtmegdgeiikhflaaGreatDH
import Derived.Test.YtmegdgeiikhflaaGreatDG
import Derived.Test.YtmegdgeiikhflaaGreatLat
namespace Go.Proofs.YtmegdgeiikhflaaGreat.DC
set_option maxRecDepth 100000
open Go Go.RowKit Go.Lib Go.Proofs.YtmegdgeiikhflaaGreat Go.Proofs.YtmegdgeiikhflaaGreat.Facts Go.Proofs.YtmegdgeiikhflaaGreat.Plain Go.Proofs.YtmegdgeiikhflaaGreat.Ints Go.Proofs.YtmegdgeiikhflaaGreat.RRows Go.Proofs.YtmegdgeiikhflaaGreat.LBox Go.Proofs.YtmegdgeiikhflaaGreat.RSmall Go.Proofs.YtmegdgeiikhflaaGreat.RFind Go.Proofs.YtmegdgeiikhflaaGreat.RAll Go.Proofs.YtmegdgeiikhflaaGreat.RRules Go.Proofs.YtmegdgeiikhflaaGreat.RRule3 Go.Proofs.YtmegdgeiikhflaaGreat.RRight Go.Proofs.YtmegdgeiikhflaaGreat.HA Go.Proofs.YtmegdgeiikhflaaGreat.HB Go.Proofs.YtmegdgeiikhflaaGreat.HG Go.Proofs.YtmegdgeiikhflaaGreat.HC Go.Proofs.YtmegdgeiikhflaaGreat.HD

theorem bit_in {r : Re} (h : mayBe r = true) {k : Nat} (hk : k < r.guilds.length) : 0 ≤ (gu r k).bit ∧ (gu r k).bit < 64 := by
  have h4 := (may_parts h).2.1
  unfold rule4 RGuilds.guildsOk at h4
  simp only [Bool.and_eq_true, decide_eq_true_eq, List.all_eq_true, List.mem_range] at h4
  have := h4.2.1 k hk
  rw [RGuilds.gk_at r k _ (gu_get hk)] at this
  simp only [Bool.and_eq_true, decide_eq_true_eq] at this
  have h5 := this.1
  unfold hallErr at h5
  by_cases h6 : 0 ≤ (gu r k).bit ∧ (gu r k).bit < 64
  · exact h6
  · rw [if_neg h6] at h5
    omega
theorem lev_in {r : Re} (h : mayBe r = true) {k : Nat} (hk : k < r.labels.length) : 0 ≤ (RRule1.lat r.labels k).lev := by
  have h1 := (may_parts h).2.2
  unfold rule1 at h1
  simp only [Bool.and_eq_true] at h1
  have := DL.lat_all.1 h1.2.1 k hk
  unfold may at this
  simp only [Bool.and_eq_true, decide_eq_true_eq] at this
  exact this.1
theorem under_is {r : Re} (h : mayBe r = true) {p k kb : Nat} (hp : p < r.labels.length) (hk : k < r.guilds.length) (hb : (gu r k).bit = (kb : Int)) : under r p k = (RRule1.lat r.labels p).set.getLsbD kb := by
  have h64 : kb < 64 := by have := (bit_in h hk).2; omega
  unfold under
  rw [Bool.eq_iff_iff, Lat.le_iff, hb]
  constructor
  · rintro ⟨_, h2⟩
    exact h2 kb (by rw [DG.bitOf_at _ _ h64]; simp)
  · intro h2
    refine ⟨lev_in h hp, fun i hi => ?_⟩
    by_cases hi64 : i < 64
    · rw [DG.bitOf_at _ _ hi64] at hi
      have := of_decide_eq_true hi
      have e : i = kb := by omega
      rw [e]
      exact h2
    · rw [BitVec.getLsbD_of_ge _ _ (by omega)] at hi
      cases hi
theorem cl_str {r : Re} {R : List (List Int)} {w p k kb : Nat} (h : rightH r R = true) (hw : w < r.accounts.length) (hp : p < r.labels.length) (hk : k < r.guilds.length) (hb : (gu r k).bit = (kb : Int)) (h1 : (RRule1.lat r.labels p).set.getLsbD kb = true) (h2 : cel (rk R k) w = 0) : clearedH r R (w : Int) (p : Int) = false := by
  have hm := (right_parts h).1
  unfold clearedH
  rw [if_pos h, if_pos (by unfold inn; simp; omega), if_pos (by unfold inn; simp; omega)]
  by_cases hl : (ac r (w : Int).toNat).lev < (RRule1.lat r.labels (p : Int).toNat).lev
  · rw [if_pos hl]
  · rw [if_neg hl]
    have : (guildsOf r (p : Int)).any (stranger R (w : Int).toNat) = true := by
      rw [List.any_eq_true]
      refine ⟨(k : Int), ?_, ?_⟩
      · unfold guildsOf
        rw [if_pos hm, if_pos (by unfold inn; simp; omega)]
        exact gl_mem.2 ⟨k, hk, by rw [show ((p : Int)).toNat = p from rfl, under_is hm hp hk hb]; exact h1, rfl⟩
      · unfold stranger
        exact decide_eq_true h2
    rw [this]
    rfl
theorem cl_end {r : Re} {R : List (List Int)} {w p : Nat} (h : rightH r R = true) (hw : w < r.accounts.length) (hp : p < r.labels.length) (h1 : ∀ k, k < r.guilds.length → ¬ ((RRule1.lat r.labels p).set.getLsbD (gu r k).bit.toNat = true ∧ cel (rk R k) w = 0)) : clearedH r R (w : Int) (p : Int) = decide ((RRule1.lat r.labels p).lev ≤ (ac r w).lev) := by
  have hm := (right_parts h).1
  unfold clearedH
  rw [if_pos h, if_pos (by unfold inn; simp; omega), if_pos (by unfold inn; simp; omega)]
  by_cases hl : (ac r (w : Int).toNat).lev < (RRule1.lat r.labels (p : Int).toNat).lev
  · rw [if_pos hl, decide_eq_false (by have : (ac r w).lev < (RRule1.lat r.labels p).lev := hl; omega)]
  · rw [if_neg hl, decide_eq_true (by have : ¬ (ac r w).lev < (RRule1.lat r.labels p).lev := hl; omega)]
    have : (guildsOf r (p : Int)).any (stranger R (w : Int).toNat) = false := by
      rw [List.any_eq_false]
      intro g hg
      obtain ⟨k, rfl, hk, hu⟩ := guildsOf_in hg
      obtain ⟨b0, b1⟩ := bit_in hm hk
      obtain ⟨kb, hkb⟩ := Int.eq_ofNat_of_zero_le b0
      have hn := h1 k hk
      rw [show ((p : Int)).toNat = p from rfl, under_is hm hp hk hkb] at hu
      unfold stranger
      intro hd
      exact hn ⟨by rw [hkb]; exact hu, of_decide_eq_true hd⟩
    rw [this]
    rfl
theorem cl_out {r : Re} {R : List (List Int)} {w p : Int} (h : inn r.accounts.length w = false ∨ inn r.labels.length p = false) : clearedH r R w p = false := by
  unfold clearedH
  rcases h with h | h
  · by_cases hr : rightH r R = true
    · rw [if_pos hr, h]; rfl
    · rw [if_neg hr]
  · by_cases hr : rightH r R = true
    · rw [if_pos hr]
      by_cases hw : inn r.accounts.length w = true
      · rw [if_pos hw, h]; rfl
      · rw [if_neg hw]
    · rw [if_neg hr]
set_option maxHeartbeats 8000000 in
theorem rcleared_any (v vr : Value) (r : Re) (R : List (List Int)) (who place : Int) (w : World) (h : ReIs w v r) (hR : RK w vr R) (hr : rightH r R = true) : Calls Tryz.prog 41 #[v, vr, .int .i64 who, .int .i64 place] w fun e w' => e = .returned (.bool (clearedH r R who place)) ∧ Grew w w' := by
  obtain ⟨v0, v1, v2, v3, v4, rfl, h0, h1, h2, h3, h4⟩ := h
  have HL0 := Lib.hid h0
  have HL2 := Lib.hid h2
  have HL3 := Lib.hid h3
  have HRK := Lib.hid hR
  obtain ⟨A0', cp0, rfl, _⟩ := h0.slice
  obtain ⟨A1', cp1, rfl, _⟩ := id h1
  obtain ⟨A2', cp2, rfl, _⟩ := h2.slice
  obtain ⟨A3', cp3, rfl, _⟩ := h3.slice
  obtain ⟨A4', cp4, rfl, _⟩ := h4.slice
  obtain ⟨B, cb, rfl, _⟩ := id hR
  clear h0 h1 h2 h3 h4 hR
  obtain ⟨hm, hlen, hrows⟩ := right_parts hr
  have HM := Lib.hid hm
  have HLEN := Lib.hid hlen
  have HROWS := Lib.hid hrows
  have HG8 := Lib.hid (sizes hm).2.1
  have HR := Lib.hid hr
  clear hm hlen hrows hr
  have HOUT := Lib.hid (@cl_out r R who place)
  obtain ⟨res, hres⟩ : ∃ res, clearedH r R who place = res := ⟨_, rfl⟩
  have HRES := Lib.hid hres
  rw [hres] at HOUT ⊢
  clear hres
  have G0 : Hid (Grew w (w.alloc (Obj.cells #[.slice A0' r.labels.length cp0, .slice A1' r.lines.length cp1, .slice A2' r.accounts.length cp2, .slice A3' r.guilds.length cp3, .slice A4' r.quotas.length cp4, .int .i64 r.orders, .int .i64 r.audits, .int .i64 r.rate, .int .i64 r.rounds] 28))) := Lib.hid (by unfold Grew; go_grown)
  have R0 : Hid ((w.alloc (Obj.cells #[.slice A0' r.labels.length cp0, .slice A1' r.lines.length cp1, .slice A2' r.accounts.length cp2, .slice A3' r.guilds.length cp3, .slice A4' r.quotas.length cp4, .int .i64 r.orders, .int .i64 r.audits, .int .i64 r.rate, .int .i64 r.rounds] 28)).heap[w.heap.size]? = some (rcell (.slice A0' r.labels.length cp0) (.slice A1' r.lines.length cp1) (.slice A2' r.accounts.length cp2) (.slice A3' r.guilds.length cp3) (.slice A4' r.quotas.length cp4) r.orders r.audits r.rate r.rounds)) := Lib.hid (heap_alloc_new w _)
  obtain ⟨r0, r1, r2, r3, r4, r5, r6, r7, r8⟩ := re_cells R0.out
  rcases inn_cases r.accounts.length who with ⟨q1, q2, q3⟩ | ⟨q1, q3⟩ | ⟨q1, q2, q3⟩
  · rcases inn_cases r.labels.length place with ⟨p1, p2, p3⟩ | ⟨p1, p3⟩ | ⟨p1, p2, p3⟩
    · obtain ⟨kw, rfl⟩ := Int.eq_ofNat_of_zero_le q1
      obtain ⟨kp, rfl⟩ := Int.eq_ofNat_of_zero_le p1
      have hw : kw < r.accounts.length := Int.ofNat_lt.1 q2
      have hp : kp < r.labels.length := Int.ofNat_lt.1 p2
      have q1' : ¬ (kw : Int) < 0 := by omega
      have p1' : ¬ (kp : Int) < 0 := by omega
      have q2' : ¬ (r.accounts.length : Int) ≤ (kw : Int) := by omega
      have p2' : ¬ (r.labels.length : Int) ≤ (kp : Int) := by omega
      have HSTR : Hid (∀ k kb : Nat, k < r.guilds.length → (gu r k).bit = (kb : Int) → (RRule1.lat r.labels kp).set.getLsbD kb = true → cel (rk R k) kw = 0 → res = false) := Lib.hid fun k kb hk hb h1 h2 => by rw [← HRES.out]; exact cl_str HR.out hw hp hk hb h1 h2
      have HEND : Hid ((∀ k, k < r.guilds.length → ¬ ((RRule1.lat r.labels kp).set.getLsbD (gu r k).bit.toNat = true ∧ cel (rk R k) kw = 0)) → res = decide ((RRule1.lat r.labels kp).lev ≤ (ac r kw).lev)) := Lib.hid fun h1 => by rw [← HRES.out]; exact cl_end HR.out hw hp h1
      obtain ⟨ad0, c9, e0, hc, d0, d1⟩ := Ls_at HL0.out (RRule1.lat_get (i := kp) hp)
      injection e0 with e01 _ e03
      subst e01 e03
      obtain ⟨ad2, c8, e2, hc2, a0, a1, a2, a3⟩ := As_at HL2.out (ac_get (k := kw) hw)
      injection e2 with e21 _ e23
      subst e21 e23
      have D0 := Lib.hid d0
      have D1 := Lib.hid d1
      have A2 := Lib.hid a2
      have HW := Lib.hid hw
      have G1 := Lib.hid G0.out
      have R1 := Lib.hid R0.out
      generalize RRule1.lat r.labels kp = la at *
      generalize (ac r kw).lev = lb at *
      clear d0 d1 a0 a1 a2 a3 q1 p1 q3 p3 HRES HR hw hp HOUT
      go_enter Tryz.func41, Tryz.ntmps41
      go_wp2
      clear r0 r1 r2 r3 r4 r5 r6 r7 r8 q1' p1' q2' p2'
      go_loopg [9] r.guilds.length (fun g s9 wx => ∃ k : Nat, k + g = r.guilds.length ∧ s9 = .int .i64 k ∧ Hid (∀ j, j < k → ¬ (la.set.getLsbD (gu r j).bit.toNat = true ∧ cel (rk R j) kw = 0)) ∧ Hid (Grew (w.alloc (Obj.cells #[.slice (some ad0) r.labels.length cp0, .slice A1' r.lines.length cp1, .slice (some ad2) r.accounts.length cp2, .slice A3' r.guilds.length cp3, .slice A4' r.quotas.length cp4, .int .i64 r.orders, .int .i64 r.audits, .int .i64 r.rate, .int .i64 r.rounds] 28)) wx))
      case atStart => exact ⟨0, Nat.zero_add _, rfl, Lib.hid (fun j h => absurd h (Nat.not_lt_zero _)), Lib.hid (Grew.refl _)⟩
      case round =>
        obtain ⟨k, hkg, rfl, HJ, HG⟩ := hrel
        have RX := Lib.hid (keepB R1.out HG.out)
        have GX := Lib.hid (G1.out.trans HG.out)
        obtain ⟨r0, r1, r2, r3, r4, r5, r6, r7, r8⟩ := re_cells RX.out
        cases gk with
        | zero =>
          have hkz : ¬ ((k : Int) < (r.guilds.length : Int)) := DN.m8 hkg
          have HE := Lib.hid (HEND.out fun i hi => HJ.out i (DH.p4 hkg i hi))
          clear hkg
          by_cases hll : la.lev ≤ lb
          · have HR9 : Hid (res = true) := Lib.hid (HE.out.trans (decide_eq_true hll))
            have hd : decide (la.lev ≤ lb) = true := decide_eq_true hll
            clear hll
            go_wp2
            refine Facts.wp_region_text (by kernel_rfl) (by kernel_rfl) ?_
            apply Facts.Lex.exact [] _ (by kernel_rfl)
            · intro u W hC _
              unfold Facts.one
              go_simp
              first | exact ⟨Grew.refl _, rfl⟩ | rfl
            simp only [Act.put, List.setIfInBounds_toArray, List.set_cons_zero, List.set_cons_succ, Nat.zero_add]
            apply Facts.Lex.exact [] _ (by kernel_rfl)
            · intro u W hC _
              obtain ⟨r0, r1, r2, r3, r4, r5, r6, r7, r8⟩ := re_cells (keepB RX.out hC)
              unfold Facts.one
              go_simp
              first | exact ⟨Grew.refl _, rfl⟩ | rfl
            simp only [Act.put, List.setIfInBounds_toArray, List.set_cons_zero, List.set_cons_succ, Nat.reduceAdd]
            apply Facts.Lex.exact [] _ (by kernel_rfl)
            · intro u W hC _
              unfold Facts.one
              go_simp
              first | exact ⟨Grew.refl _, rfl⟩ | rfl
            simp only [Act.put, List.setIfInBounds_toArray, List.set_cons_zero, List.set_cons_succ, Nat.reduceAdd]
            apply Facts.Lex.exact [] _ (by kernel_rfl)
            · intro u W hC _
              unfold Facts.one
              go_simp
              first | exact ⟨Grew.refl _, rfl⟩ | rfl
            simp only [Act.put, List.setIfInBounds_toArray, List.set_cons_zero, List.set_cons_succ, Nat.reduceAdd]
            apply Facts.Lex.exact [] _ (by kernel_rfl)
            · intro u W hC _
              unfold Facts.one
              go_simp
              first | exact ⟨Grew.refl _, rfl⟩ | rfl
            simp only [Act.put, List.setIfInBounds_toArray, List.set_cons_zero, List.set_cons_succ, Nat.reduceAdd]
            apply Facts.Lex.exact [] _ (by kernel_rfl)
            · intro u W hC _
              have k0 := cellB (GX.out.trans hC) D0.out
              unfold Facts.one
              go_simp
              first | exact ⟨Grew.refl _, rfl⟩ | rfl
            simp only [Act.put, List.setIfInBounds_toArray, List.set_cons_zero, List.set_cons_succ, Nat.reduceAdd]
            apply Facts.Lex.exact [] _ (by kernel_rfl)
            · intro u W hC _
              unfold Facts.one
              go_simp
              first | exact ⟨Grew.refl _, rfl⟩ | rfl
            simp only [Act.put, List.setIfInBounds_toArray, List.set_cons_zero, List.set_cons_succ, Nat.reduceAdd]
            apply Facts.Lex.exact [] _ (by kernel_rfl)
            · intro u W hC _
              obtain ⟨r0, r1, r2, r3, r4, r5, r6, r7, r8⟩ := re_cells (keepB RX.out hC)
              unfold Facts.one
              go_simp
              first | exact ⟨Grew.refl _, rfl⟩ | rfl
            simp only [Act.put, List.setIfInBounds_toArray, List.set_cons_zero, List.set_cons_succ, Nat.reduceAdd]
            apply Facts.Lex.exact [] _ (by kernel_rfl)
            · intro u W hC _
              unfold Facts.one
              go_simp
              first | exact ⟨Grew.refl _, rfl⟩ | rfl
            simp only [Act.put, List.setIfInBounds_toArray, List.set_cons_zero, List.set_cons_succ, Nat.reduceAdd]
            apply Facts.Lex.exact [] _ (by kernel_rfl)
            · intro u W hC _
              unfold Facts.one
              go_simp
              first | exact ⟨Grew.refl _, rfl⟩ | rfl
            simp only [Act.put, List.setIfInBounds_toArray, List.set_cons_zero, List.set_cons_succ, Nat.reduceAdd]
            apply Facts.Lex.exact [] _ (by kernel_rfl)
            · intro u W hC _
              unfold Facts.one
              go_simp
              first | exact ⟨Grew.refl _, rfl⟩ | rfl
            simp only [Act.put, List.setIfInBounds_toArray, List.set_cons_zero, List.set_cons_succ, Nat.reduceAdd]
            apply Facts.Lex.exact [] _ (by kernel_rfl)
            · intro u W hC _
              have k2 := cellB (GX.out.trans hC) A2.out
              unfold Facts.one
              go_simp
              first | exact ⟨Grew.refl _, rfl⟩ | rfl
            simp only [Act.put, List.setIfInBounds_toArray, List.set_cons_zero, List.set_cons_succ, Nat.reduceAdd]
            apply Facts.Lex.exact [] _ (by kernel_rfl)
            · intro u W hC _
              unfold Facts.one
              go_simp
              first | exact ⟨Grew.refl _, rfl⟩ | rfl
            simp only [Act.put, List.setIfInBounds_toArray, List.set_cons_zero, List.set_cons_succ, Nat.reduceAdd]
            apply Facts.Lex.exact [] _ (by kernel_rfl)
            · intro u W hC _
              unfold Facts.one
              go_simp
              first | exact ⟨Grew.refl _, rfl⟩ | rfl
            simp only [Act.put, List.setIfInBounds_toArray, List.set_cons_zero, List.set_cons_succ, Nat.reduceAdd]
            refine Facts.Lex.done fun u W2 hC hL => ?_
            have G2 := Lib.hid (GX.out.trans hC)
            clear hC hL
            go_wp2
            go_returns
            refine ⟨?_, G2.out⟩
            rw [HR9.out]
            first | rfl | simp [hd]
          · have HR9 : Hid (res = false) := Lib.hid (HE.out.trans (decide_eq_false hll))
            have hd : decide (la.lev ≤ lb) = false := decide_eq_false hll
            clear hll
            go_wp2
            refine Facts.wp_region_text (by kernel_rfl) (by kernel_rfl) ?_
            apply Facts.Lex.exact [] _ (by kernel_rfl)
            · intro u W hC _
              unfold Facts.one
              go_simp
              first | exact ⟨Grew.refl _, rfl⟩ | rfl
            simp only [Act.put, List.setIfInBounds_toArray, List.set_cons_zero, List.set_cons_succ, Nat.zero_add]
            apply Facts.Lex.exact [] _ (by kernel_rfl)
            · intro u W hC _
              obtain ⟨r0, r1, r2, r3, r4, r5, r6, r7, r8⟩ := re_cells (keepB RX.out hC)
              unfold Facts.one
              go_simp
              first | exact ⟨Grew.refl _, rfl⟩ | rfl
            simp only [Act.put, List.setIfInBounds_toArray, List.set_cons_zero, List.set_cons_succ, Nat.reduceAdd]
            apply Facts.Lex.exact [] _ (by kernel_rfl)
            · intro u W hC _
              unfold Facts.one
              go_simp
              first | exact ⟨Grew.refl _, rfl⟩ | rfl
            simp only [Act.put, List.setIfInBounds_toArray, List.set_cons_zero, List.set_cons_succ, Nat.reduceAdd]
            apply Facts.Lex.exact [] _ (by kernel_rfl)
            · intro u W hC _
              unfold Facts.one
              go_simp
              first | exact ⟨Grew.refl _, rfl⟩ | rfl
            simp only [Act.put, List.setIfInBounds_toArray, List.set_cons_zero, List.set_cons_succ, Nat.reduceAdd]
            apply Facts.Lex.exact [] _ (by kernel_rfl)
            · intro u W hC _
              unfold Facts.one
              go_simp
              first | exact ⟨Grew.refl _, rfl⟩ | rfl
            simp only [Act.put, List.setIfInBounds_toArray, List.set_cons_zero, List.set_cons_succ, Nat.reduceAdd]
            apply Facts.Lex.exact [] _ (by kernel_rfl)
            · intro u W hC _
              have k0 := cellB (GX.out.trans hC) D0.out
              unfold Facts.one
              go_simp
              first | exact ⟨Grew.refl _, rfl⟩ | rfl
            simp only [Act.put, List.setIfInBounds_toArray, List.set_cons_zero, List.set_cons_succ, Nat.reduceAdd]
            apply Facts.Lex.exact [] _ (by kernel_rfl)
            · intro u W hC _
              unfold Facts.one
              go_simp
              first | exact ⟨Grew.refl _, rfl⟩ | rfl
            simp only [Act.put, List.setIfInBounds_toArray, List.set_cons_zero, List.set_cons_succ, Nat.reduceAdd]
            apply Facts.Lex.exact [] _ (by kernel_rfl)
            · intro u W hC _
              obtain ⟨r0, r1, r2, r3, r4, r5, r6, r7, r8⟩ := re_cells (keepB RX.out hC)
              unfold Facts.one
              go_simp
              first | exact ⟨Grew.refl _, rfl⟩ | rfl
            simp only [Act.put, List.setIfInBounds_toArray, List.set_cons_zero, List.set_cons_succ, Nat.reduceAdd]
            apply Facts.Lex.exact [] _ (by kernel_rfl)
            · intro u W hC _
              unfold Facts.one
              go_simp
              first | exact ⟨Grew.refl _, rfl⟩ | rfl
            simp only [Act.put, List.setIfInBounds_toArray, List.set_cons_zero, List.set_cons_succ, Nat.reduceAdd]
            apply Facts.Lex.exact [] _ (by kernel_rfl)
            · intro u W hC _
              unfold Facts.one
              go_simp
              first | exact ⟨Grew.refl _, rfl⟩ | rfl
            simp only [Act.put, List.setIfInBounds_toArray, List.set_cons_zero, List.set_cons_succ, Nat.reduceAdd]
            apply Facts.Lex.exact [] _ (by kernel_rfl)
            · intro u W hC _
              unfold Facts.one
              go_simp
              first | exact ⟨Grew.refl _, rfl⟩ | rfl
            simp only [Act.put, List.setIfInBounds_toArray, List.set_cons_zero, List.set_cons_succ, Nat.reduceAdd]
            apply Facts.Lex.exact [] _ (by kernel_rfl)
            · intro u W hC _
              have k2 := cellB (GX.out.trans hC) A2.out
              unfold Facts.one
              go_simp
              first | exact ⟨Grew.refl _, rfl⟩ | rfl
            simp only [Act.put, List.setIfInBounds_toArray, List.set_cons_zero, List.set_cons_succ, Nat.reduceAdd]
            apply Facts.Lex.exact [] _ (by kernel_rfl)
            · intro u W hC _
              unfold Facts.one
              go_simp
              first | exact ⟨Grew.refl _, rfl⟩ | rfl
            simp only [Act.put, List.setIfInBounds_toArray, List.set_cons_zero, List.set_cons_succ, Nat.reduceAdd]
            apply Facts.Lex.exact [] _ (by kernel_rfl)
            · intro u W hC _
              unfold Facts.one
              go_simp
              first | exact ⟨Grew.refl _, rfl⟩ | rfl
            simp only [Act.put, List.setIfInBounds_toArray, List.set_cons_zero, List.set_cons_succ, Nat.reduceAdd]
            refine Facts.Lex.done fun u W2 hC hL => ?_
            have G2 := Lib.hid (GX.out.trans hC)
            clear hC hL
            go_wp2
            go_returns
            refine ⟨?_, G2.out⟩
            rw [HR9.out]
            first | rfl | simp [hd]
        | succ g =>
          have hkl : k < r.guilds.length := DH.p2 hkg
          have hkz : (k : Int) < (r.guilds.length : Int) := DH.p3 hkl
          have hkw : wrap64 ((k : Int) + 1) = (k : Int) + 1 := DN.m10 hkg HG8.out
          obtain ⟨ad3, c4, e, hc3, f0, f1⟩ := Gs_at (HL3.out.grew GX.out) (gu_get (k := k) hkl)
          injection e with e1 _ e3
          subst e1 e3
          have hkR : k < R.length := by rw [HLEN.out]; exact hkl
          obtain ⟨ad, c2, A', c', e, hcl, hrow⟩ := (HRK.out.grew GX.out).at hkR
          injection e with e1 _ e3
          subst e1 e3
          have hrl : kw < (rk R k).length := by rw [(HROWS.out k hkR).1]; exact HW.out
          obtain ⟨adr, rfl, hcr⟩ := Is.at' hrow (k := kw) hrl
          have hkR' : (k : Int) < (R.length : Int) := DH.p3 hkR
          have hrl' : (kw : Int) < ((rk R k).length : Int) := DH.p3 hrl
          obtain ⟨b0, b1⟩ := bit_in HM.out hkl
          obtain ⟨kb, hkb⟩ := Int.eq_ofNat_of_zero_le b0
          have hb64 : kb < 64 := by rw [hkb] at b1; exact Int.ofNat_lt.1 b1
          rw [hkb] at f0
          have F0 := Lib.hid f0
          have C0 := Lib.hid hcl
          have CR := Lib.hid hcr
          have E0 := Lib.hid (cellB GX.out D0.out)
          have E1 := Lib.hid (cellB GX.out D1.out)
          have HHS := Lib.hid (fun W => LRefs.has_any la.lev la.set kb hb64 W)
          have HSK := Lib.hid (HSTR.out k kb hkl hkb)
          have HST : Hid (¬ (la.set.getLsbD kb = true ∧ cel (rk R k) kw = 0) → ∀ j, j < k + 1 → ¬ (la.set.getLsbD (gu r j).bit.toNat = true ∧ cel (rk R j) kw = 0)) := Lib.hid fun h j hj => by
            rcases Nat.lt_succ_iff_lt_or_eq.1 hj with h1 | h1
            · exact HJ.out j h1
            · rw [h1, hkb]; exact h
          have HKG := Lib.hid hkg
          clear f0 f1 hcl hrow hcr b0 b1 hkb hb64 hkl hkR hrl hkg
          obtain ⟨cv, hcv⟩ : ∃ cv, cel (rk R k) kw = cv := ⟨_, rfl⟩
          rw [hcv] at CR HSK HST
          obtain ⟨bs, hbs⟩ : ∃ bs, la.set.getLsbD kb = bs := ⟨_, rfl⟩
          rw [hbs] at HSK HST HHS
          clear hcv hbs
          cases bs with
          | false =>
            have HS4 := Lib.hid (HST.out (fun h => by simp at h))
            go_wp2
            refine Facts.wp_region_text (by kernel_rfl) (by kernel_rfl) ?_
            apply Facts.Lex.exact [] _ (by kernel_rfl)
            · intro u W hC _
              unfold Facts.one
              go_simp
              first | exact ⟨Grew.refl _, rfl⟩ | rfl
            simp only [Act.put, List.setIfInBounds_toArray, List.set_cons_zero, List.set_cons_succ, Nat.zero_add]
            apply Facts.Lex.exact [] _ (by kernel_rfl)
            · intro u W hC _
              obtain ⟨r0, r1, r2, r3, r4, r5, r6, r7, r8⟩ := re_cells (keepB RX.out hC)
              unfold Facts.one
              go_simp
              first | exact ⟨Grew.refl _, rfl⟩ | rfl
            simp only [Act.put, List.setIfInBounds_toArray, List.set_cons_zero, List.set_cons_succ, Nat.reduceAdd]
            apply Facts.Lex.exact [] _ (by kernel_rfl)
            · intro u W hC _
              unfold Facts.one
              go_simp
              first | exact ⟨Grew.refl _, rfl⟩ | rfl
            simp only [Act.put, List.setIfInBounds_toArray, List.set_cons_zero, List.set_cons_succ, Nat.reduceAdd]
            apply Facts.Lex.exact [] _ (by kernel_rfl)
            · intro u W hC _
              unfold Facts.one
              go_simp
              first | exact ⟨Grew.refl _, rfl⟩ | rfl
            simp only [Act.put, List.setIfInBounds_toArray, List.set_cons_zero, List.set_cons_succ, Nat.reduceAdd]
            apply Facts.Lex.exact [] _ (by kernel_rfl)
            · intro u W hC _
              have k0 := cellB hC E0.out
              have k1 := cellB hC E1.out
              unfold Facts.one
              go_simp
              first | exact ⟨Grew.refl _, rfl⟩ | rfl
            simp only [Act.put, List.setIfInBounds_toArray, List.set_cons_zero, List.set_cons_succ, Nat.reduceAdd]
            apply Facts.Lex.exact [] _ (by kernel_rfl)
            · intro u W hC _
              unfold Facts.one
              go_simp
              first | exact ⟨Grew.refl _, rfl⟩ | rfl
            simp only [Act.put, List.setIfInBounds_toArray, List.set_cons_zero, List.set_cons_succ, Nat.reduceAdd]
            apply Facts.Lex.exact [] _ (by kernel_rfl)
            · intro u W hC _
              obtain ⟨r0, r1, r2, r3, r4, r5, r6, r7, r8⟩ := re_cells (keepB RX.out hC)
              unfold Facts.one
              go_simp
              first | exact ⟨Grew.refl _, rfl⟩ | rfl
            simp only [Act.put, List.setIfInBounds_toArray, List.set_cons_zero, List.set_cons_succ, Nat.reduceAdd]
            apply Facts.Lex.exact [] _ (by kernel_rfl)
            · intro u W hC _
              unfold Facts.one
              go_simp
              first | exact ⟨Grew.refl _, rfl⟩ | rfl
            simp only [Act.put, List.setIfInBounds_toArray, List.set_cons_zero, List.set_cons_succ, Nat.reduceAdd]
            apply Facts.Lex.exact [] _ (by kernel_rfl)
            · intro u W hC _
              unfold Facts.one
              go_simp
              first | exact ⟨Grew.refl _, rfl⟩ | rfl
            simp only [Act.put, List.setIfInBounds_toArray, List.set_cons_zero, List.set_cons_succ, Nat.reduceAdd]
            apply Facts.Lex.exact [] _ (by kernel_rfl)
            · intro u W hC _
              unfold Facts.one
              go_simp
              first | exact ⟨Grew.refl _, rfl⟩ | rfl
            simp only [Act.put, List.setIfInBounds_toArray, List.set_cons_zero, List.set_cons_succ, Nat.reduceAdd]
            apply Facts.Lex.exact [] _ (by kernel_rfl)
            · intro u W hC _
              have k3 := cellB hC F0.out
              unfold Facts.one
              go_simp
              first | exact ⟨Grew.refl _, rfl⟩ | rfl
            simp only [Act.put, List.setIfInBounds_toArray, List.set_cons_zero, List.set_cons_succ, Nat.reduceAdd]
            apply Facts.Lex.exact [] _ (by kernel_rfl)
            · intro u W hC _
              unfold Facts.one
              go_simp
              first | exact ⟨Grew.refl _, rfl⟩ | rfl | (refine (HHS.out W).mono ?_; rintro e w' ⟨rfl, hg⟩; exact ⟨_, rfl, hg, rfl⟩)
            simp only [Act.put, List.setIfInBounds_toArray, List.set_cons_zero, List.set_cons_succ, Nat.reduceAdd]
            apply Facts.Lex.exact [] _ (by kernel_rfl)
            · intro u W hC _
              unfold Facts.one
              go_simp
              first | exact ⟨Grew.refl _, rfl⟩ | rfl
            simp only [Act.put, List.setIfInBounds_toArray, List.set_cons_zero, List.set_cons_succ, Nat.reduceAdd]
            apply Facts.Lex.exact [] _ (by kernel_rfl)
            · intro u W hC _
              unfold Facts.one
              go_simp
              first | exact ⟨Grew.refl _, rfl⟩ | rfl
            simp only [Act.put, List.setIfInBounds_toArray, List.set_cons_zero, List.set_cons_succ, Nat.reduceAdd]
            apply Facts.Lex.exact [] _ (by kernel_rfl)
            · intro u W hC _
              unfold Facts.one
              go_simp
              first | exact ⟨Grew.refl _, rfl⟩ | rfl
            simp only [Act.put, List.setIfInBounds_toArray, List.set_cons_zero, List.set_cons_succ, Nat.reduceAdd]
            apply Facts.Lex.exact [] _ (by kernel_rfl)
            · intro u W hC _
              unfold Facts.one
              go_simp
              first | exact ⟨Grew.refl _, rfl⟩ | rfl
            simp only [Act.put, List.setIfInBounds_toArray, List.set_cons_zero, List.set_cons_succ, Nat.reduceAdd]
            apply Facts.Lex.exact [] _ (by kernel_rfl)
            · intro u W hC _
              unfold Facts.one
              go_simp
              first | exact ⟨Grew.refl _, rfl⟩ | rfl
            simp only [Act.put, List.setIfInBounds_toArray, List.set_cons_zero, List.set_cons_succ, Nat.reduceAdd]
            apply Facts.Lex.exact [] _ (by kernel_rfl)
            · intro u W hC _
              unfold Facts.one
              go_simp
              first | exact ⟨Grew.refl _, rfl⟩ | rfl
            simp only [Act.put, List.setIfInBounds_toArray, List.set_cons_zero, List.set_cons_succ, Nat.reduceAdd]
            apply Facts.Lex.exact [] _ (by kernel_rfl)
            · intro u W hC _
              unfold Facts.one
              go_simp
              first | exact ⟨Grew.refl _, rfl⟩ | rfl
            simp only [Act.put, List.setIfInBounds_toArray, List.set_cons_zero, List.set_cons_succ, Nat.reduceAdd]
            apply Facts.Lex.exact [] _ (by kernel_rfl)
            · intro u W hC _
              unfold Facts.one
              go_simp
              first | exact ⟨Grew.refl _, rfl⟩ | rfl
            simp only [Act.put, List.setIfInBounds_toArray, List.set_cons_zero, List.set_cons_succ, Nat.reduceAdd]
            apply Facts.Lex.exact [] _ (by kernel_rfl)
            · intro u W hC _
              unfold Facts.one
              go_simp
              first | exact ⟨Grew.refl _, rfl⟩ | rfl
            simp only [Act.put, List.setIfInBounds_toArray, List.set_cons_zero, List.set_cons_succ, Nat.reduceAdd]
            apply Facts.Lex.exact [] _ (by kernel_rfl)
            · intro u W hC _
              unfold Facts.one
              go_simp
              first | exact ⟨Grew.refl _, rfl⟩ | rfl
            simp only [Act.put, List.setIfInBounds_toArray, List.set_cons_zero, List.set_cons_succ, Nat.reduceAdd]
            refine Facts.Lex.done fun u W2 hC hL => ?_
            have G2 := Lib.hid (HG.out.trans hC)
            clear hC hL
            go_wp2
            go_roundg g
            case measure => exact Nat.lt_succ_self _
            case rel => exact ⟨k + 1, DN.m4 HKG.out, by first | rfl | simp [hkw], HS4, G2⟩
          | true =>
            by_cases h0 : cv = 0
            · have HR9 := Lib.hid (HSK.out (by first | rfl | trivial) h0)
              have hb0 : (cv == 0) = true := by simpa using h0
              clear h0
              go_wp2
              refine Facts.wp_region_text (by kernel_rfl) (by kernel_rfl) ?_
              apply Facts.Lex.exact [] _ (by kernel_rfl)
              · intro u W hC _
                unfold Facts.one
                go_simp
                first | exact ⟨Grew.refl _, rfl⟩ | rfl
              simp only [Act.put, List.setIfInBounds_toArray, List.set_cons_zero, List.set_cons_succ, Nat.zero_add]
              apply Facts.Lex.exact [] _ (by kernel_rfl)
              · intro u W hC _
                obtain ⟨r0, r1, r2, r3, r4, r5, r6, r7, r8⟩ := re_cells (keepB RX.out hC)
                unfold Facts.one
                go_simp
                first | exact ⟨Grew.refl _, rfl⟩ | rfl
              simp only [Act.put, List.setIfInBounds_toArray, List.set_cons_zero, List.set_cons_succ, Nat.reduceAdd]
              apply Facts.Lex.exact [] _ (by kernel_rfl)
              · intro u W hC _
                unfold Facts.one
                go_simp
                first | exact ⟨Grew.refl _, rfl⟩ | rfl
              simp only [Act.put, List.setIfInBounds_toArray, List.set_cons_zero, List.set_cons_succ, Nat.reduceAdd]
              apply Facts.Lex.exact [] _ (by kernel_rfl)
              · intro u W hC _
                unfold Facts.one
                go_simp
                first | exact ⟨Grew.refl _, rfl⟩ | rfl
              simp only [Act.put, List.setIfInBounds_toArray, List.set_cons_zero, List.set_cons_succ, Nat.reduceAdd]
              apply Facts.Lex.exact [] _ (by kernel_rfl)
              · intro u W hC _
                have k0 := cellB hC E0.out
                have k1 := cellB hC E1.out
                unfold Facts.one
                go_simp
                first | exact ⟨Grew.refl _, rfl⟩ | rfl
              simp only [Act.put, List.setIfInBounds_toArray, List.set_cons_zero, List.set_cons_succ, Nat.reduceAdd]
              apply Facts.Lex.exact [] _ (by kernel_rfl)
              · intro u W hC _
                unfold Facts.one
                go_simp
                first | exact ⟨Grew.refl _, rfl⟩ | rfl
              simp only [Act.put, List.setIfInBounds_toArray, List.set_cons_zero, List.set_cons_succ, Nat.reduceAdd]
              apply Facts.Lex.exact [] _ (by kernel_rfl)
              · intro u W hC _
                obtain ⟨r0, r1, r2, r3, r4, r5, r6, r7, r8⟩ := re_cells (keepB RX.out hC)
                unfold Facts.one
                go_simp
                first | exact ⟨Grew.refl _, rfl⟩ | rfl
              simp only [Act.put, List.setIfInBounds_toArray, List.set_cons_zero, List.set_cons_succ, Nat.reduceAdd]
              apply Facts.Lex.exact [] _ (by kernel_rfl)
              · intro u W hC _
                unfold Facts.one
                go_simp
                first | exact ⟨Grew.refl _, rfl⟩ | rfl
              simp only [Act.put, List.setIfInBounds_toArray, List.set_cons_zero, List.set_cons_succ, Nat.reduceAdd]
              apply Facts.Lex.exact [] _ (by kernel_rfl)
              · intro u W hC _
                unfold Facts.one
                go_simp
                first | exact ⟨Grew.refl _, rfl⟩ | rfl
              simp only [Act.put, List.setIfInBounds_toArray, List.set_cons_zero, List.set_cons_succ, Nat.reduceAdd]
              apply Facts.Lex.exact [] _ (by kernel_rfl)
              · intro u W hC _
                unfold Facts.one
                go_simp
                first | exact ⟨Grew.refl _, rfl⟩ | rfl
              simp only [Act.put, List.setIfInBounds_toArray, List.set_cons_zero, List.set_cons_succ, Nat.reduceAdd]
              apply Facts.Lex.exact [] _ (by kernel_rfl)
              · intro u W hC _
                have k3 := cellB hC F0.out
                unfold Facts.one
                go_simp
                first | exact ⟨Grew.refl _, rfl⟩ | rfl
              simp only [Act.put, List.setIfInBounds_toArray, List.set_cons_zero, List.set_cons_succ, Nat.reduceAdd]
              apply Facts.Lex.exact [] _ (by kernel_rfl)
              · intro u W hC _
                unfold Facts.one
                go_simp
                first | exact ⟨Grew.refl _, rfl⟩ | rfl | (refine (HHS.out W).mono ?_; rintro e w' ⟨rfl, hg⟩; exact ⟨_, rfl, hg, rfl⟩)
              simp only [Act.put, List.setIfInBounds_toArray, List.set_cons_zero, List.set_cons_succ, Nat.reduceAdd]
              apply Facts.Lex.exact [] _ (by kernel_rfl)
              · intro u W hC _
                unfold Facts.one
                go_simp
                first | exact ⟨Grew.refl _, rfl⟩ | rfl
              simp only [Act.put, List.setIfInBounds_toArray, List.set_cons_zero, List.set_cons_succ, Nat.reduceAdd]
              apply Facts.Lex.exact [] _ (by kernel_rfl)
              · intro u W hC _
                unfold Facts.one
                go_simp
                first | exact ⟨Grew.refl _, rfl⟩ | rfl
              simp only [Act.put, List.setIfInBounds_toArray, List.set_cons_zero, List.set_cons_succ, Nat.reduceAdd]
              apply Facts.Lex.exact [] _ (by kernel_rfl)
              · intro u W hC _
                unfold Facts.one
                go_simp
                first | exact ⟨Grew.refl _, rfl⟩ | rfl
              simp only [Act.put, List.setIfInBounds_toArray, List.set_cons_zero, List.set_cons_succ, Nat.reduceAdd]
              apply Facts.Lex.exact [] _ (by kernel_rfl)
              · intro u W hC _
                unfold Facts.one
                go_simp
                first | exact ⟨Grew.refl _, rfl⟩ | rfl
              simp only [Act.put, List.setIfInBounds_toArray, List.set_cons_zero, List.set_cons_succ, Nat.reduceAdd]
              apply Facts.Lex.exact [] _ (by kernel_rfl)
              · intro u W hC _
                have k4 := cellB hC C0.out
                unfold Facts.one
                go_simp
                first | exact ⟨Grew.refl _, rfl⟩ | rfl
              simp only [Act.put, List.setIfInBounds_toArray, List.set_cons_zero, List.set_cons_succ, Nat.reduceAdd]
              apply Facts.Lex.exact [] _ (by kernel_rfl)
              · intro u W hC _
                unfold Facts.one
                go_simp
                first | exact ⟨Grew.refl _, rfl⟩ | rfl
              simp only [Act.put, List.setIfInBounds_toArray, List.set_cons_zero, List.set_cons_succ, Nat.reduceAdd]
              apply Facts.Lex.exact [] _ (by kernel_rfl)
              · intro u W hC _
                unfold Facts.one
                go_simp
                first | exact ⟨Grew.refl _, rfl⟩ | rfl
              simp only [Act.put, List.setIfInBounds_toArray, List.set_cons_zero, List.set_cons_succ, Nat.reduceAdd]
              apply Facts.Lex.exact [] _ (by kernel_rfl)
              · intro u W hC _
                have k5 := cellB hC CR.out
                unfold Facts.one
                go_simp
                first | exact ⟨Grew.refl _, rfl⟩ | rfl
              simp only [Act.put, List.setIfInBounds_toArray, List.set_cons_zero, List.set_cons_succ, Nat.reduceAdd]
              apply Facts.Lex.exact [] _ (by kernel_rfl)
              · intro u W hC _
                unfold Facts.one
                go_simp
                first | exact ⟨Grew.refl _, rfl⟩ | rfl
              simp only [Act.put, List.setIfInBounds_toArray, List.set_cons_zero, List.set_cons_succ, Nat.reduceAdd]
              apply Facts.Lex.exact [] _ (by kernel_rfl)
              · intro u W hC _
                unfold Facts.one
                go_simp
                first | exact ⟨Grew.refl _, rfl⟩ | rfl
              simp only [Act.put, List.setIfInBounds_toArray, List.set_cons_zero, List.set_cons_succ, Nat.reduceAdd]
              refine Facts.Lex.done fun u W2 hC hL => ?_
              have G2 := Lib.hid (GX.out.trans hC)
              clear hC hL
              go_wp2
              go_returns
              refine ⟨?_, G2.out⟩
              rw [HR9.out]
              try rfl
            · have HS4 := Lib.hid (HST.out (fun h => h0 h.2))
              have hb0 : (cv == 0) = false := by simpa using h0
              clear h0
              go_wp2
              refine Facts.wp_region_text (by kernel_rfl) (by kernel_rfl) ?_
              apply Facts.Lex.exact [] _ (by kernel_rfl)
              · intro u W hC _
                unfold Facts.one
                go_simp
                first | exact ⟨Grew.refl _, rfl⟩ | rfl
              simp only [Act.put, List.setIfInBounds_toArray, List.set_cons_zero, List.set_cons_succ, Nat.zero_add]
              apply Facts.Lex.exact [] _ (by kernel_rfl)
              · intro u W hC _
                obtain ⟨r0, r1, r2, r3, r4, r5, r6, r7, r8⟩ := re_cells (keepB RX.out hC)
                unfold Facts.one
                go_simp
                first | exact ⟨Grew.refl _, rfl⟩ | rfl
              simp only [Act.put, List.setIfInBounds_toArray, List.set_cons_zero, List.set_cons_succ, Nat.reduceAdd]
              apply Facts.Lex.exact [] _ (by kernel_rfl)
              · intro u W hC _
                unfold Facts.one
                go_simp
                first | exact ⟨Grew.refl _, rfl⟩ | rfl
              simp only [Act.put, List.setIfInBounds_toArray, List.set_cons_zero, List.set_cons_succ, Nat.reduceAdd]
              apply Facts.Lex.exact [] _ (by kernel_rfl)
              · intro u W hC _
                unfold Facts.one
                go_simp
                first | exact ⟨Grew.refl _, rfl⟩ | rfl
              simp only [Act.put, List.setIfInBounds_toArray, List.set_cons_zero, List.set_cons_succ, Nat.reduceAdd]
              apply Facts.Lex.exact [] _ (by kernel_rfl)
              · intro u W hC _
                have k0 := cellB hC E0.out
                have k1 := cellB hC E1.out
                unfold Facts.one
                go_simp
                first | exact ⟨Grew.refl _, rfl⟩ | rfl
              simp only [Act.put, List.setIfInBounds_toArray, List.set_cons_zero, List.set_cons_succ, Nat.reduceAdd]
              apply Facts.Lex.exact [] _ (by kernel_rfl)
              · intro u W hC _
                unfold Facts.one
                go_simp
                first | exact ⟨Grew.refl _, rfl⟩ | rfl
              simp only [Act.put, List.setIfInBounds_toArray, List.set_cons_zero, List.set_cons_succ, Nat.reduceAdd]
              apply Facts.Lex.exact [] _ (by kernel_rfl)
              · intro u W hC _
                obtain ⟨r0, r1, r2, r3, r4, r5, r6, r7, r8⟩ := re_cells (keepB RX.out hC)
                unfold Facts.one
                go_simp
                first | exact ⟨Grew.refl _, rfl⟩ | rfl
              simp only [Act.put, List.setIfInBounds_toArray, List.set_cons_zero, List.set_cons_succ, Nat.reduceAdd]
              apply Facts.Lex.exact [] _ (by kernel_rfl)
              · intro u W hC _
                unfold Facts.one
                go_simp
                first | exact ⟨Grew.refl _, rfl⟩ | rfl
              simp only [Act.put, List.setIfInBounds_toArray, List.set_cons_zero, List.set_cons_succ, Nat.reduceAdd]
              apply Facts.Lex.exact [] _ (by kernel_rfl)
              · intro u W hC _
                unfold Facts.one
                go_simp
                first | exact ⟨Grew.refl _, rfl⟩ | rfl
              simp only [Act.put, List.setIfInBounds_toArray, List.set_cons_zero, List.set_cons_succ, Nat.reduceAdd]
              apply Facts.Lex.exact [] _ (by kernel_rfl)
              · intro u W hC _
                unfold Facts.one
                go_simp
                first | exact ⟨Grew.refl _, rfl⟩ | rfl
              simp only [Act.put, List.setIfInBounds_toArray, List.set_cons_zero, List.set_cons_succ, Nat.reduceAdd]
              apply Facts.Lex.exact [] _ (by kernel_rfl)
              · intro u W hC _
                have k3 := cellB hC F0.out
                unfold Facts.one
                go_simp
                first | exact ⟨Grew.refl _, rfl⟩ | rfl
              simp only [Act.put, List.setIfInBounds_toArray, List.set_cons_zero, List.set_cons_succ, Nat.reduceAdd]
              apply Facts.Lex.exact [] _ (by kernel_rfl)
              · intro u W hC _
                unfold Facts.one
                go_simp
                first | exact ⟨Grew.refl _, rfl⟩ | rfl | (refine (HHS.out W).mono ?_; rintro e w' ⟨rfl, hg⟩; exact ⟨_, rfl, hg, rfl⟩)
              simp only [Act.put, List.setIfInBounds_toArray, List.set_cons_zero, List.set_cons_succ, Nat.reduceAdd]
              apply Facts.Lex.exact [] _ (by kernel_rfl)
              · intro u W hC _
                unfold Facts.one
                go_simp
                first | exact ⟨Grew.refl _, rfl⟩ | rfl
              simp only [Act.put, List.setIfInBounds_toArray, List.set_cons_zero, List.set_cons_succ, Nat.reduceAdd]
              apply Facts.Lex.exact [] _ (by kernel_rfl)
              · intro u W hC _
                unfold Facts.one
                go_simp
                first | exact ⟨Grew.refl _, rfl⟩ | rfl
              simp only [Act.put, List.setIfInBounds_toArray, List.set_cons_zero, List.set_cons_succ, Nat.reduceAdd]
              apply Facts.Lex.exact [] _ (by kernel_rfl)
              · intro u W hC _
                unfold Facts.one
                go_simp
                first | exact ⟨Grew.refl _, rfl⟩ | rfl
              simp only [Act.put, List.setIfInBounds_toArray, List.set_cons_zero, List.set_cons_succ, Nat.reduceAdd]
              apply Facts.Lex.exact [] _ (by kernel_rfl)
              · intro u W hC _
                unfold Facts.one
                go_simp
                first | exact ⟨Grew.refl _, rfl⟩ | rfl
              simp only [Act.put, List.setIfInBounds_toArray, List.set_cons_zero, List.set_cons_succ, Nat.reduceAdd]
              apply Facts.Lex.exact [] _ (by kernel_rfl)
              · intro u W hC _
                have k4 := cellB hC C0.out
                unfold Facts.one
                go_simp
                first | exact ⟨Grew.refl _, rfl⟩ | rfl
              simp only [Act.put, List.setIfInBounds_toArray, List.set_cons_zero, List.set_cons_succ, Nat.reduceAdd]
              apply Facts.Lex.exact [] _ (by kernel_rfl)
              · intro u W hC _
                unfold Facts.one
                go_simp
                first | exact ⟨Grew.refl _, rfl⟩ | rfl
              simp only [Act.put, List.setIfInBounds_toArray, List.set_cons_zero, List.set_cons_succ, Nat.reduceAdd]
              apply Facts.Lex.exact [] _ (by kernel_rfl)
              · intro u W hC _
                unfold Facts.one
                go_simp
                first | exact ⟨Grew.refl _, rfl⟩ | rfl
              simp only [Act.put, List.setIfInBounds_toArray, List.set_cons_zero, List.set_cons_succ, Nat.reduceAdd]
              apply Facts.Lex.exact [] _ (by kernel_rfl)
              · intro u W hC _
                have k5 := cellB hC CR.out
                unfold Facts.one
                go_simp
                first | exact ⟨Grew.refl _, rfl⟩ | rfl
              simp only [Act.put, List.setIfInBounds_toArray, List.set_cons_zero, List.set_cons_succ, Nat.reduceAdd]
              apply Facts.Lex.exact [] _ (by kernel_rfl)
              · intro u W hC _
                unfold Facts.one
                go_simp
                first | exact ⟨Grew.refl _, rfl⟩ | rfl
              simp only [Act.put, List.setIfInBounds_toArray, List.set_cons_zero, List.set_cons_succ, Nat.reduceAdd]
              apply Facts.Lex.exact [] _ (by kernel_rfl)
              · intro u W hC _
                unfold Facts.one
                go_simp
                first | exact ⟨Grew.refl _, rfl⟩ | rfl
              simp only [Act.put, List.setIfInBounds_toArray, List.set_cons_zero, List.set_cons_succ, Nat.reduceAdd]
              refine Facts.Lex.done fun u W2 hC hL => ?_
              have G2 := Lib.hid (HG.out.trans hC)
              clear hC hL
              go_wp2
              go_roundg g
              case measure => exact Nat.lt_succ_self _
              case rel => exact ⟨k + 1, DN.m4 HKG.out, by first | rfl | simp [hkw], HS4, G2⟩
    · have HR9 := Lib.hid (HOUT.out (.inr p3))
      have q1' : ¬ who < 0 := by omega
      have q2' : ¬ (r.accounts.length : Int) ≤ who := by omega
      have p1' : place < 0 := by omega
      clear q1 q2 q3 p1 p3
      go_enter Tryz.func41, Tryz.ntmps41
      go_wp2
      go_returns
      refine ⟨?_, G0.out⟩
      rw [HR9.out]
      try rfl
    · have HR9 := Lib.hid (HOUT.out (.inr p3))
      have q1' : ¬ who < 0 := by omega
      have q2' : ¬ (r.accounts.length : Int) ≤ who := by omega
      have p1' : ¬ place < 0 := by omega
      have p2' : (r.labels.length : Int) ≤ place := by omega
      clear q1 q2 q3 p1 p2 p3
      go_enter Tryz.func41, Tryz.ntmps41
      go_wp2
      go_returns
      refine ⟨?_, G0.out⟩
      rw [HR9.out]
      try rfl
  · have HR9 := Lib.hid (HOUT.out (.inl q3))
    have q1' : who < 0 := by omega
    clear q1 q3
    go_enter Tryz.func41, Tryz.ntmps41
    go_wp2
    go_returns
    refine ⟨?_, G0.out⟩
    rw [HR9.out]
    try rfl
  · have HR9 := Lib.hid (HOUT.out (.inl q3))
    have q1' : ¬ who < 0 := by omega
    have q2' : (r.accounts.length : Int) ≤ who := by omega
    clear q1 q2 q3
    go_enter Tryz.func41, Tryz.ntmps41
    go_wp2
    go_returns
    refine ⟨?_, G0.out⟩
    rw [HR9.out]
    try rfl
end Go.Proofs.YtmegdgeiikhflaaGreat.DC
