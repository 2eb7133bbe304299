/-
  The law RealmHalls comes to true.
  Conditions: those that each lemma names.
-/
import Derived.Test.YtmegdgeiikhflaaGreatEA
import Derived.Test.YtmegdgeiikhflaaGreatHG
import Derived.Test.YtmegdgeiikhflaaGreatHA
import Derived.Test.YtmegdgeiikhflaaGreatHC
import Derived.Test.YtmegdgeiikhflaaGreatLat
import Derived.Test.YtmegdgeiikhflaaGreatED
namespace Go.Proofs.YtmegdgeiikhflaaGreat.EE
set_option maxRecDepth 100000
open Go Go.RowKit Go.Lib Go.Proofs.YtmegdgeiikhflaaGreat Go.Proofs.YtmegdgeiikhflaaGreat.Facts Go.Proofs.YtmegdgeiikhflaaGreat.Plain Go.Proofs.YtmegdgeiikhflaaGreat.RRows Go.Proofs.YtmegdgeiikhflaaGreat.RSmall Go.Proofs.YtmegdgeiikhflaaGreat.RFind Go.Proofs.YtmegdgeiikhflaaGreat.RRules Go.Proofs.YtmegdgeiikhflaaGreat.RRule3 Go.Proofs.YtmegdgeiikhflaaGreat.RRight Go.Proofs.YtmegdgeiikhflaaGreat.HA Go.Proofs.YtmegdgeiikhflaaGreat.HB Go.Proofs.YtmegdgeiikhflaaGreat.HG Go.Proofs.YtmegdgeiikhflaaGreat.HC Go.Proofs.YtmegdgeiikhflaaGreat.EA


theorem lev_in {r : Re} (h : mayBe r = true) {k : Nat} (hk : k < r.labels.length) : 0 ≤ (RRule1.lat r.labels k).lev := by
  have h1 := (may_parts h).2.2
  unfold rule1 at h1
  simp only [Bool.and_eq_true, List.all_eq_true] at h1
  have := h1.2.1 _ (List.mem_of_getElem? (RRule1.lat_get hk))
  unfold may at this
  simp only [Bool.and_eq_true, decide_eq_true_eq] at this
  exact this.1
theorem gk_in {r : Re} (h : mayBe r = true) {k : Nat} (hk : k < r.guilds.length) : hallErr (gu r k).bit = 0 ∧ RGuilds.lastBit r.guilds k < (gu r k).bit ∧ r.labels.any (fun y => decide ((⟨0, bitOf (gu r k).bit⟩ : La) = y)) = true := by
  have h4 := (may_parts h).2.1
  unfold rule4 RGuilds.guildsOk at h4
  simp only [Bool.and_eq_true, decide_eq_true_eq, List.all_eq_true, List.mem_range] at h4
  have := h4.2.1 k hk
  rw [RGuilds.gk_at r k _ (gu_get hk)] at this
  simp only [Bool.and_eq_true, decide_eq_true_eq] at this
  exact ⟨this.1, this.2.1, this.2.2.2⟩
theorem bit_in {r : Re} (h : mayBe r = true) {k : Nat} (hk : k < r.guilds.length) : 0 ≤ (gu r k).bit ∧ (gu r k).bit < 64 := by
  have h5 := (gk_in h hk).1
  unfold hallErr at h5
  by_cases h6 : 0 ≤ (gu r k).bit ∧ (gu r k).bit < 64
  · exact h6
  · rw [if_neg h6] at h5
    omega
theorem bits_lt {r : Re} (h : mayBe r = true) : ∀ (j i : Nat), i < j → j < r.guilds.length → (gu r i).bit < (gu r j).bit
  | 0, i, hij, _ => absurd hij (Nat.not_lt_zero _)
  | j + 1, i, hij, hj => by
    have h5 := (gk_in h hj).2.1
    rw [RGuilds.lastBit_succ r.guilds j _ (gu_get (by omega))] at h5
    rcases Nat.lt_succ_iff_lt_or_eq.1 hij with h6 | h6
    · have := bits_lt h j i h6 (by omega)
      omega
    · rw [h6]
      exact h5
/-- The first label is under every label. -/
theorem low {r : Re} (h : mayBe r = true) {i : Nat} (hi : i < r.labels.length) : leqR r 0 (i : Int) = true := by
  have h1 := (may_parts h).2.2
  unfold rule1 RRule1.rising at h1
  simp only [Bool.and_eq_true, List.all_eq_true, List.mem_range] at h1
  have h0 := h1.2.2 0 (by omega)
  rw [RRule1.rok_zero] at h0
  simp only [Bool.and_eq_true, decide_eq_true_eq] at h0
  unfold leqR inn
  rw [h]
  simp only [Bool.and_eq_true, decide_eq_true_eq]
  refine ⟨trivial, ⟨by omega, by omega⟩, ⟨by omega, by omega⟩, ?_⟩
  rw [Lat.le_iff, show ((0 : Int)).toNat = 0 from rfl, show ((i : Int)).toNat = i from rfl, h0.1, h0.2]
  exact ⟨lev_in h hi, fun j hj => by simp at hj⟩
/-- Each guild has its hall. -/
theorem hall_is {r : Re} (h : mayBe r = true) {k : Nat} (hk : k < r.guilds.length) : ∃ p : Nat, p < r.labels.length ∧ hallP r (k : Int) = (p : Int) ∧ RRule1.lat r.labels p = ⟨0, bitOf (gu r k).bit⟩ := by
  have ha := (gk_in h hk).2.2
  have he : hallP r (k : Int) = fidx r.labels (fun y => decide ((⟨0, bitOf (gu r k).bit⟩ : La) = y)) := by
    unfold hallP
    rw [if_pos h, if_pos (by unfold inn; simp; omega), show ((k : Int)).toNat = k from rfl, gu_get hk]
  rw [he]
  unfold fidx
  split
  · rename_i q hq
    obtain ⟨hql, h1, _⟩ := List.findIdx?_eq_some_iff_getElem.1 hq
    refine ⟨q, hql, rfl, ?_⟩
    have h2 := of_decide_eq_true h1
    have h3 := RRule1.lat_get hql
    rw [List.getElem?_eq_getElem hql] at h3
    injection h3 with h3
    rw [← h3]
    exact h2.symm
  · rename_i hq
    rw [List.findIdx?_eq_none_iff] at hq
    rw [List.any_eq_true] at ha
    obtain ⟨y, hy, h2⟩ := ha
    rw [hq y hy] at h2
    cases h2
theorem bitOf_inj {a b : Int} (ha : 0 ≤ a ∧ a < 64) (hb : 0 ≤ b ∧ b < 64) (h : bitOf a = bitOf b) : a = b := by
  unfold bitOf at h
  rw [if_pos ha, if_pos hb] at h
  have h1 := congrArg (fun x => x.getLsbD a.toNat) h
  simp only [BitVec.getLsbD_twoPow] at h1
  have h2 : a.toNat < 64 := by omega
  simp only [h2, decide_true, Bool.true_and] at h1
  have h3 : b < 64 ∧ b.toNat = a.toNat := by simpa using h1
  omega
/-- A hall's guild is the one it is the hall of. -/
theorem guild_is {r : Re} (h : mayBe r = true) {k p : Nat} (hk : k < r.guilds.length) (hp : p < r.labels.length) (hl : RRule1.lat r.labels p = ⟨0, bitOf (gu r k).bit⟩) : guildOf r (p : Int) = (k : Int) := by
  have he : guildOf r (p : Int) = fidx r.guilds (fun x => decide ((⟨0, bitOf x.bit⟩ : La) = RRule1.lat r.labels p)) := by
    unfold guildOf
    rw [if_pos h, if_pos (by unfold inn; simp; omega)]
    rfl
  rw [he, hl]
  refine fidx_hit (gu_get hk) (by simp) fun j y hj hy => ?_
  have e := gu_get (show j < r.guilds.length by omega)
  rw [hy] at e
  injection e with e
  refine decide_eq_false fun h2 => ?_
  rw [e] at h2
  injection h2 with _ h2
  have := bitOf_inj (bit_in h (by omega)) (bit_in h hk) h2
  have := bits_lt h k j hj hk
  omega
/-- A hall is under a label exactly if its guild is among the label's. -/
theorem leq_is {r : Re} (h : mayBe r = true) {k p i : Nat} (hk : k < r.guilds.length) (hp : p < r.labels.length) (hi : i < r.labels.length) (hl : RRule1.lat r.labels p = ⟨0, bitOf (gu r k).bit⟩) : leqR r (p : Int) (i : Int) = decide ((k : Int) ∈ guildsOf r (i : Int)) := by
  have e1 : leqR r (p : Int) (i : Int) = under r i k := by
    unfold leqR inn under
    rw [h, show ((p : Int)).toNat = p from rfl, show ((i : Int)).toNat = i from rfl, hl]
    simp only [Bool.true_and]
    rw [decide_eq_true (by omega : (0 : Int) ≤ (p : Int)), decide_eq_true (by omega : (p : Int) < (r.labels.length : Int)), decide_eq_true (by omega : (0 : Int) ≤ (i : Int)), decide_eq_true (by omega : (i : Int) < (r.labels.length : Int))]
    simp
  have e2 : guildsOf r (i : Int) = gl r i r.guilds.length := by
    unfold guildsOf
    rw [if_pos h, if_pos (by unfold inn; simp; omega)]
    rfl
  rw [e1, e2, Bool.eq_iff_iff, decide_eq_true_eq, gl_mem]
  constructor
  · exact fun h2 => ⟨k, hk, h2, rfl⟩
  · rintro ⟨j, _, h2, h3⟩
    have : j = k := by omega
    rwa [← this]
end Go.Proofs.YtmegdgeiikhflaaGreat.EE

namespace Go.Proofs.YtmegdgeiikhflaaGreat.EF
set_option maxRecDepth 100000
open Go Go.RowKit Go.Lib Go.Proofs.YtmegdgeiikhflaaGreat Go.Proofs.YtmegdgeiikhflaaGreat.Facts Go.Proofs.YtmegdgeiikhflaaGreat.Bytes Go.Proofs.YtmegdgeiikhflaaGreat.Plain Go.Proofs.YtmegdgeiikhflaaGreat.Ints Go.Proofs.YtmegdgeiikhflaaGreat.LBox Go.Proofs.YtmegdgeiikhflaaGreat.RRows Go.Proofs.YtmegdgeiikhflaaGreat.RSmall Go.Proofs.YtmegdgeiikhflaaGreat.RFind Go.Proofs.YtmegdgeiikhflaaGreat.RRules Go.Proofs.YtmegdgeiikhflaaGreat.RRule3 Go.Proofs.YtmegdgeiikhflaaGreat.RRight Go.Proofs.YtmegdgeiikhflaaGreat.HA Go.Proofs.YtmegdgeiikhflaaGreat.HB Go.Proofs.YtmegdgeiikhflaaGreat.HG Go.Proofs.YtmegdgeiikhflaaGreat.HC Go.Proofs.YtmegdgeiikhflaaGreat.EA Go.Proofs.YtmegdgeiikhflaaGreat.EB Go.Proofs.YtmegdgeiikhflaaGreat.ED Go.Proofs.YtmegdgeiikhflaaGreat.EE


set_option maxHeartbeats 8000000 in
theorem law_any (v : Value) (r : Re) (i g : Int) (w : World) (h : ReIs w v r) (hs : Sized r) : Calls Tryz.prog 6 #[v, .int .i64 i, .int .i64 g] w fun e w' => e = .returned (.bool true) ∧ Grew w w' := by
  have HRE := Lib.hid h
  have HSZ := Lib.hid hs
  obtain ⟨v0, v1, v2, v3, v4, rfl, h0, h1, h2, h3, h4⟩ := h
  have HL0 := Lib.hid h0
  have HL3 := Lib.hid h3
  obtain ⟨A0', cp0, rfl, _⟩ := h0.slice
  obtain ⟨A1', cp1, rfl, _⟩ := id h1
  obtain ⟨A2', cp2, rfl, _⟩ := h2.slice
  obtain ⟨A3', cp3, rfl, _⟩ := h3.slice
  obtain ⟨A4', cp4, rfl, _⟩ := h4.slice
  clear h0 h1 h2 h3 h4 hs
  have G0 : Hid (Grew w (w.alloc (Obj.cells #[.slice A0' r.labels.length cp0, .slice A1' r.lines.length cp1, .slice A2' r.accounts.length cp2, .slice A3' r.guilds.length cp3, .slice A4' r.quotas.length cp4, .int .i64 r.orders, .int .i64 r.audits, .int .i64 r.rate, .int .i64 r.rounds] 28))) := Lib.hid (by unfold Grew; go_grown)
  have R0 : Hid ((w.alloc (Obj.cells #[.slice A0' r.labels.length cp0, .slice A1' r.lines.length cp1, .slice A2' r.accounts.length cp2, .slice A3' r.guilds.length cp3, .slice A4' r.quotas.length cp4, .int .i64 r.orders, .int .i64 r.audits, .int .i64 r.rate, .int .i64 r.rounds] 28)).heap[w.heap.size]? = some (rcell (.slice A0' r.labels.length cp0) (.slice A1' r.lines.length cp1) (.slice A2' r.accounts.length cp2) (.slice A3' r.guilds.length cp3) (.slice A4' r.quotas.length cp4) r.orders r.audits r.rate r.rounds)) := Lib.hid (heap_alloc_new w _)
  obtain ⟨r0, r1, r2, r3, r4, r5, r6, r7, r8⟩ := re_cells R0.out
  go_enter Tryz.func6, Tryz.ntmps6
  go_wp2_with fail
  refine (right_re _ r _ (HRE.out.grew G0.out) HSZ.out).mono ?_
  rintro e w1 ⟨rfl, hg⟩
  have G1 := Lib.hid (G0.out.trans hg)
  have R1 := Lib.hid (keepB R0.out hg)
  clear hg r0 r1 r2 r3 r4 r5 r6 r7 r8
  obtain ⟨r0, r1, r2, r3, r4, r5, r6, r7, r8⟩ := re_cells R1.out
  cases hm : mayBe r with
  | false =>
    clear hm
    go_wp2_with fail
    refine (alive_any _).mono ?_
    rintro e w2 ⟨rfl, hg⟩
    have GZ := Lib.hid (G1.out.trans hg)
    clear hg r0 r1 r2 r3 r4 r5 r6 r7 r8
    go_wp2
    go_returns
    exact ⟨by first | rfl | (simp; done), GZ.out⟩
  | true =>
    have HM := Lib.hid hm
    clear hm
    by_cases hi0 : i < 0
    · go_wp2_with fail
      refine (alive_any _).mono ?_
      rintro e w2 ⟨rfl, hg⟩
      have GZ := Lib.hid (G1.out.trans hg)
      clear hg r0 r1 r2 r3 r4 r5 r6 r7 r8
      go_wp2
      go_returns
      exact ⟨by first | rfl | (simp; done), GZ.out⟩
    · by_cases hi1 : (r.labels.length : Int) ≤ i
      · go_wp2_with fail
        refine (alive_any _).mono ?_
        rintro e w2 ⟨rfl, hg⟩
        have GZ := Lib.hid (G1.out.trans hg)
        clear hg r0 r1 r2 r3 r4 r5 r6 r7 r8
        go_wp2
        go_returns
        exact ⟨by first | rfl | (simp; done), GZ.out⟩
      · obtain ⟨i, rfl⟩ := Int.eq_ofNat_of_zero_le (by omega : 0 ≤ i)
        have hil : i < r.labels.length := by omega
        have hlow := low HM.out hil
        have HLOW : Hid (∀ W, Grew w W → Calls Tryz.prog 14 #[(.agg #[.slice A0' r.labels.length cp0, .slice A1' r.lines.length cp1, .slice A2' r.accounts.length cp2, .slice A3' r.guilds.length cp3, .slice A4' r.quotas.length cp4, .int .i64 r.orders, .int .i64 r.audits, .int .i64 r.rate, .int .i64 r.rounds]), .int .i64 0, .int .i64 (i : Int)] W fun e w' => e = .returned (.bool true) ∧ Grew W w') := Lib.hid fun W hg => by
          have := leqR_any _ r 0 (i : Int) W (HRE.out.grew hg) HSZ.out
          rwa [hlow] at this
        clear hlow
        go_wp2_with fail
        refine (HLOW.out _ G1.out).mono ?_
        rintro e w2 ⟨rfl, hg⟩
        have G2 := Lib.hid (G1.out.trans hg)
        have R2 := Lib.hid (keepB R1.out hg)
        clear hg r0 r1 r2 r3 r4 r5 r6 r7 r8
        obtain ⟨r0, r1, r2, r3, r4, r5, r6, r7, r8⟩ := re_cells R2.out
        go_wp2_with fail
        refine (hallOf_any _ r g _ (HRE.out.grew G2.out) HSZ.out).mono ?_
        rintro e w3 ⟨rfl, hg⟩
        have G3 := Lib.hid (G2.out.trans hg)
        have R3 := Lib.hid (keepB R2.out hg)
        clear hg r0 r1 r2 r3 r4 r5 r6 r7 r8
        obtain ⟨r0, r1, r2, r3, r4, r5, r6, r7, r8⟩ := re_cells R3.out
        by_cases hg0 : g < 0
        · have hng : hallP r g = -1 := by unfold hallP; rw [if_pos HM.out, if_neg (by unfold inn; simp; omega)]
          rw [hng]
          clear hng
          go_wp2_with fail
          refine (alive_any _).mono ?_
          rintro e w4 ⟨rfl, hg⟩
          have GZ := Lib.hid (G3.out.trans hg)
          clear hg r0 r1 r2 r3 r4 r5 r6 r7 r8
          go_wp2
          go_returns
          exact ⟨by first | rfl | (simp; done), GZ.out⟩
        · by_cases hg1 : (r.guilds.length : Int) ≤ g
          · have hng : hallP r g = -1 := by unfold hallP; rw [if_pos HM.out, if_neg (by unfold inn; simp; omega)]
            rw [hng]
            clear hng
            go_wp2_with fail
            refine (alive_any _).mono ?_
            rintro e w4 ⟨rfl, hg⟩
            have GZ := Lib.hid (G3.out.trans hg)
            clear hg r0 r1 r2 r3 r4 r5 r6 r7 r8
            go_wp2
            go_returns
            exact ⟨by first | rfl | (simp; done), GZ.out⟩
          · obtain ⟨k, rfl⟩ := Int.eq_ofNat_of_zero_le (by omega : 0 ≤ g)
            have hkl : k < r.guilds.length := by omega
            obtain ⟨p, hp, hh, hl⟩ := hall_is HM.out hkl
            have hb := (gk_in HM.out hkl).1
            have hgo := guild_is HM.out hkl hp hl
            have hle := leq_is HM.out hkl hp hil hl
            have hx := gu_get hkl
            have hy := RRule1.lat_get hp
            rw [hl] at hy
            obtain ⟨ad, c9, e9, _, _, _⟩ := Gs_at HL3.out hx
            injection e9 with e1 e2 e3
            subst e1 e3
            clear e2
            obtain ⟨ae, c8, e9, _, _, _⟩ := Ls_at HL0.out hy
            injection e9 with e1 e2 e3
            subst e1 e3
            clear e2
            have HX0 : Hid (∀ W, Grew w W → W.cell? (ad.add (k * 2)) = some (.int .i64 (gu r k).bit) ∧ W.cell? ⟨(ad.add (k * 2)).block, (ad.add (k * 2)).off + 1, none⟩ = some (.int .i64 (gu r k).founder)) := Lib.hid fun W hg => by
              obtain ⟨ad', c', e', _, d0, d1⟩ := Gs_at (HL3.out.grew hg) hx
              injection e' with e1 e2 e3
              injection e1 with e1
              subst e1
              exact ⟨d0, d1⟩
            have HY0 : Hid (∀ W, Grew w W → W.cell? (ae.add (p * 2)) = some (.int .i64 0) ∧ W.cell? ⟨(ae.add (p * 2)).block, (ae.add (p * 2)).off + 1, none⟩ = some (.int .u64 ((bitOf (gu r k).bit).toNat : Int))) := Lib.hid fun W hg => by
              obtain ⟨ad', c', e', _, d0, d1⟩ := Ls_at (HL0.out.grew hg) hy
              injection e' with e1 e2 e3
              injection e1 with e1
              subst e1
              exact ⟨d0, d1⟩
            obtain ⟨L, hL⟩ : ∃ L, guildsOf r (i : Int) = L := ⟨_, rfl⟩
            rw [hL] at hle
            obtain ⟨bx, hbx⟩ : ∃ b, decide ((k : Int) ∈ L) = b := ⟨_, rfl⟩
            rw [hbx] at hle
            have HGO : Hid (∀ W, Grew w W → Calls Tryz.prog 17 #[(.agg #[.slice (some ae) r.labels.length cp0, .slice A1' r.lines.length cp1, .slice A2' r.accounts.length cp2, .slice (some ad) r.guilds.length cp3, .slice A4' r.quotas.length cp4, .int .i64 r.orders, .int .i64 r.audits, .int .i64 r.rate, .int .i64 r.rounds]), .int .i64 (p : Int)] W fun e w' => e = .returned (.int .i64 (k : Int)) ∧ Grew W w') := Lib.hid fun W hg => by
              have := guildOf_any _ r (p : Int) W (HRE.out.grew hg) HSZ.out
              rwa [hgo] at this
            have HLE : Hid (∀ W, Grew w W → Calls Tryz.prog 14 #[(.agg #[.slice (some ae) r.labels.length cp0, .slice A1' r.lines.length cp1, .slice A2' r.accounts.length cp2, .slice (some ad) r.guilds.length cp3, .slice A4' r.quotas.length cp4, .int .i64 r.orders, .int .i64 r.audits, .int .i64 r.rate, .int .i64 r.rounds]), .int .i64 (p : Int), .int .i64 (i : Int)] W fun e w' => e = .returned (.bool bx) ∧ Grew W w') := Lib.hid fun W hg => by
              have := leqR_any _ r (p : Int) (i : Int) W (HRE.out.grew hg) HSZ.out
              rwa [hle] at this
            have HGS : Hid (∀ W, Grew w W → Calls Tryz.prog 18 #[(.agg #[.slice (some ae) r.labels.length cp0, .slice A1' r.lines.length cp1, .slice A2' r.accounts.length cp2, .slice (some ad) r.guilds.length cp3, .slice A4' r.quotas.length cp4, .int .i64 r.orders, .int .i64 r.audits, .int .i64 r.rate, .int .i64 r.rounds]), .int .i64 (i : Int)] W fun e w' => ∃ v', e = .returned v' ∧ Is w' v' L ∧ Grew W w') := Lib.hid fun W hg => by
              have := guildsOf_any _ r (i : Int) W (HRE.out.grew hg) HSZ.out
              rwa [hL] at this
            have HBX := Lib.hid hbx
            have HBT := Lib.hid hb
            have hkn : (k : Int) < (r.guilds.length : Int) := by omega
            have hpn : (p : Int) < (r.labels.length : Int) := by omega
            rw [hh]
            clear hb hgo hle hx hy hL hbx hl hh
            obtain ⟨d0, d1⟩ := HX0.out _ G3.out
            go_wp2_with fail
            refine (lhall_any (gu r k).bit _).mono ?_
            rintro e w5 ⟨rfl, hg⟩
            rw [HBT.out]
            have g5 : Grew w5 (w5.alloc (.cells #[.int .i64 0, .int .u64 ((bitOf (gu r k).bit).toNat : Int)] 31)) := by unfold Grew; go_grown
            have G5 := Lib.hid (G3.out.trans (hg.trans g5))
            have R5 := Lib.hid (keepB R3.out (hg.trans g5))
            have B5 := Lib.hid (heap_alloc_new w5 (.cells #[.int .i64 0, .int .u64 ((bitOf (gu r k).bit).toNat : Int)] 31))
            clear hg g5 d0 d1 r0 r1 r2 r3 r4 r5 r6 r7 r8
            obtain ⟨r0, r1, r2, r3, r4, r5, r6, r7, r8⟩ := re_cells R5.out
            go_wp2_with fail
            refine (HGS.out _ G5.out).mono ?_
            rintro e w6 ⟨vg, rfl, hig, hg⟩
            have HIG := Lib.hid hig
            have G6 := Lib.hid (G5.out.trans hg)
            have R6 := Lib.hid (keepB R5.out hg)
            have B6 := Lib.hid (keepB B5.out hg)
            have HCN : Hid (L.length ≤ maxLen) := Lib.hid (by obtain ⟨_, _, _, q1, q2, _⟩ := hig; omega)
            obtain ⟨Ag, cg, rfl, _⟩ := id hig
            clear hg hig r0 r1 r2 r3 r4 r5 r6 r7 r8
            have HPH := Lib.hid hpn
            have HKH := Lib.hid hkn
            go_wp2
            go_loopg [10, 12] L.length (fun g' s10 s12 wx => ∃ j : Nat, j + g' = L.length ∧ s10 = .bool (decide ((k : Int) ∈ L.take j)) ∧ s12 = .int .i64 j ∧ Hid (Grew w6 wx))
            case atStart => exact ⟨0, by omega, by simp, rfl, Lib.hid (Grew.refl _)⟩
            case round =>
              obtain ⟨j, hjg, rfl, rfl, HQ⟩ := hrel
              cases gk with
              | zero =>
                have hjz : ¬ ((j : Int) < (L.length : Int)) := by omega
                have hjl : j = L.length := by omega
                rw [hjl, List.take_length, HBX.out]
                rw [hjl] at hjz
                clear hjg hjl
                have G8 := Lib.hid (G6.out.trans HQ.out)
                have R8 := Lib.hid (keepB R6.out HQ.out)
                have B8 := Lib.hid (keepB B6.out HQ.out)
                have HE1 : Hid (∀ W, Grew wr W → W.cell? (ae.add (p * 2)) = some (.int .i64 0) ∧ W.cell? ⟨(ae.add (p * 2)).block, (ae.add (p * 2)).off + 1, none⟩ = some (.int .u64 ((bitOf (gu r k).bit).toNat : Int))) := Lib.hid fun W hg => HY0.out W (G8.out.trans hg)
                go_wp2
                refine Facts.wp_region_text (by kernel_rfl) (by kernel_rfl) ?_
                apply Facts.Lex.exact [] (.bool true) (by kernel_rfl)
                · intro u W hC hK
                  clear hK
                  have HC9 := Lib.hid (alive_any W)
                  unfold Facts.one
                  go_simp
                  refine HC9.out.mono ?_
                  rintro e w' ⟨rfl, hg⟩
                  exact ⟨_, rfl, hg, rfl⟩
                simp only [Act.put, List.setIfInBounds_toArray, List.set_cons_zero, List.set_cons_succ, Nat.zero_add]
                apply Facts.Lex.exact [] (.bool true) (by kernel_rfl)
                · intro u W hC hK
                  clear hK
                  unfold Facts.one
                  go_simp
                  first | exact ⟨Grew.refl _, rfl⟩ | rfl | exact ⟨Grew.refl _, by simp⟩
                simp only [Act.put, List.setIfInBounds_toArray, List.set_cons_zero, List.set_cons_succ, Nat.reduceAdd]
                apply Facts.Lex.exact [] (.int .i64 0) (by kernel_rfl)
                · intro u W hC hK
                  clear hK
                  unfold Facts.one
                  go_simp
                  first | exact ⟨Grew.refl _, rfl⟩ | rfl | exact ⟨Grew.refl _, by simp⟩
                simp only [Act.put, List.setIfInBounds_toArray, List.set_cons_zero, List.set_cons_succ, Nat.reduceAdd]
                apply Facts.Lex.exact [] (.bool true) (by kernel_rfl)
                · intro u W hC hK
                  clear hK
                  unfold Facts.one
                  go_simp
                  first | exact ⟨Grew.refl _, rfl⟩ | rfl | exact ⟨Grew.refl _, by simp⟩
                simp only [Act.put, List.setIfInBounds_toArray, List.set_cons_zero, List.set_cons_succ, Nat.reduceAdd]
                apply Facts.Lex.exact [] (.bool true) (by kernel_rfl)
                · intro u W hC hK
                  clear hK
                  unfold Facts.one
                  go_simp
                  first | exact ⟨Grew.refl _, rfl⟩ | rfl | exact ⟨Grew.refl _, by simp⟩
                simp only [Act.put, List.setIfInBounds_toArray, List.set_cons_zero, List.set_cons_succ, Nat.reduceAdd]
                apply Facts.Lex.exact [] (.bool true) (by kernel_rfl)
                · intro u W hC hK
                  clear hK
                  unfold Facts.one
                  go_simp
                  first | exact ⟨Grew.refl _, rfl⟩ | rfl | exact ⟨Grew.refl _, by simp⟩
                simp only [Act.put, List.setIfInBounds_toArray, List.set_cons_zero, List.set_cons_succ, Nat.reduceAdd]
                apply Facts.Lex.exact [] (.int .i64 (p : Int)) (by kernel_rfl)
                · intro u W hC hK
                  clear hK
                  unfold Facts.one
                  go_simp
                  first | exact ⟨Grew.refl _, rfl⟩ | rfl | exact ⟨Grew.refl _, by simp⟩
                simp only [Act.put, List.setIfInBounds_toArray, List.set_cons_zero, List.set_cons_succ, Nat.reduceAdd]
                apply Facts.Lex.exact [] (.bool true) (by kernel_rfl)
                · intro u W hC hK
                  clear hK
                  unfold Facts.one
                  go_simp
                  first | exact ⟨Grew.refl _, rfl⟩ | rfl | exact ⟨Grew.refl _, by simp⟩
                simp only [Act.put, List.setIfInBounds_toArray, List.set_cons_zero, List.set_cons_succ, Nat.reduceAdd]
                apply Facts.Lex.exact [] (.bool true) (by kernel_rfl)
                · intro u W hC hK
                  clear hK
                  unfold Facts.one
                  go_simp
                  first | exact ⟨Grew.refl _, rfl⟩ | rfl | exact ⟨Grew.refl _, by simp⟩
                simp only [Act.put, List.setIfInBounds_toArray, List.set_cons_zero, List.set_cons_succ, Nat.reduceAdd]
                apply Facts.Lex.exact [] (.bool true) (by kernel_rfl)
                · intro u W hC hK
                  clear hK
                  unfold Facts.one
                  go_simp
                  first | exact ⟨Grew.refl _, rfl⟩ | rfl | exact ⟨Grew.refl _, by simp⟩
                simp only [Act.put, List.setIfInBounds_toArray, List.set_cons_zero, List.set_cons_succ, Nat.reduceAdd]
                apply Facts.Lex.exact [] (.int .i64 (p : Int)) (by kernel_rfl)
                · intro u W hC hK
                  clear hK
                  unfold Facts.one
                  go_simp
                  first | exact ⟨Grew.refl _, rfl⟩ | rfl | exact ⟨Grew.refl _, by simp⟩
                simp only [Act.put, List.setIfInBounds_toArray, List.set_cons_zero, List.set_cons_succ, Nat.reduceAdd]
                apply Facts.Lex.exact [] _ (by kernel_rfl)
                · intro u W hC hK
                  clear hK
                  unfold Facts.one
                  go_simp
                  first | exact ⟨Grew.refl _, rfl⟩ | rfl | exact ⟨Grew.refl _, by simp⟩
                simp only [Act.put, List.setIfInBounds_toArray, List.set_cons_zero, List.set_cons_succ, Nat.reduceAdd]
                apply Facts.Lex.exact [] _ (by kernel_rfl)
                · intro u W hC hK
                  clear hK
                  obtain ⟨r0, r1, r2, r3, r4, r5, r6, r7, r8⟩ := re_cells (keepB R8.out hC)
                  unfold Facts.one
                  go_simp
                  first | exact ⟨Grew.refl _, rfl⟩ | rfl | exact ⟨Grew.refl _, by simp⟩
                simp only [Act.put, List.setIfInBounds_toArray, List.set_cons_zero, List.set_cons_succ, Nat.reduceAdd]
                apply Facts.Lex.exact [] (.int .i64 r.labels.length) (by kernel_rfl)
                · intro u W hC hK
                  clear hK
                  unfold Facts.one
                  go_simp
                  first | exact ⟨Grew.refl _, rfl⟩ | rfl | exact ⟨Grew.refl _, by simp⟩
                simp only [Act.put, List.setIfInBounds_toArray, List.set_cons_zero, List.set_cons_succ, Nat.reduceAdd]
                apply Facts.Lex.exact [] (.bool true) (by kernel_rfl)
                · intro u W hC hK
                  clear hK
                  unfold Facts.one
                  go_simp
                  first | exact ⟨Grew.refl _, rfl⟩ | rfl | exact ⟨Grew.refl _, by simp⟩
                simp only [Act.put, List.setIfInBounds_toArray, List.set_cons_zero, List.set_cons_succ, Nat.reduceAdd]
                apply Facts.Lex.exact [] (.bool true) (by kernel_rfl)
                · intro u W hC hK
                  clear hK
                  unfold Facts.one
                  go_simp
                  first | exact ⟨Grew.refl _, rfl⟩ | rfl | exact ⟨Grew.refl _, by simp⟩
                simp only [Act.put, List.setIfInBounds_toArray, List.set_cons_zero, List.set_cons_succ, Nat.reduceAdd]
                apply Facts.Lex.exact [] (.bool true) (by kernel_rfl)
                · intro u W hC hK
                  clear hK
                  unfold Facts.one
                  go_simp
                  first | exact ⟨Grew.refl _, rfl⟩ | rfl | exact ⟨Grew.refl _, by simp⟩
                simp only [Act.put, List.setIfInBounds_toArray, List.set_cons_zero, List.set_cons_succ, Nat.reduceAdd]
                apply Facts.Lex.exact [] _ (by kernel_rfl)
                · intro u W hC hK
                  clear hK
                  unfold Facts.one
                  go_simp
                  first | exact ⟨Grew.refl _, rfl⟩ | rfl | exact ⟨Grew.refl _, by simp⟩
                simp only [Act.put, List.setIfInBounds_toArray, List.set_cons_zero, List.set_cons_succ, Nat.reduceAdd]
                apply Facts.Lex.exact [] _ (by kernel_rfl)
                · intro u W hC hK
                  clear hK
                  obtain ⟨r0, r1, r2, r3, r4, r5, r6, r7, r8⟩ := re_cells (keepB R8.out hC)
                  unfold Facts.one
                  go_simp
                  first | exact ⟨Grew.refl _, rfl⟩ | rfl | exact ⟨Grew.refl _, by simp⟩
                simp only [Act.put, List.setIfInBounds_toArray, List.set_cons_zero, List.set_cons_succ, Nat.reduceAdd]
                apply Facts.Lex.exact [] (.int .i64 (p : Int)) (by kernel_rfl)
                · intro u W hC hK
                  clear hK
                  unfold Facts.one
                  go_simp
                  first | exact ⟨Grew.refl _, rfl⟩ | rfl | exact ⟨Grew.refl _, by simp⟩
                simp only [Act.put, List.setIfInBounds_toArray, List.set_cons_zero, List.set_cons_succ, Nat.reduceAdd]
                apply Facts.Lex.exact [] _ (by kernel_rfl)
                · intro u W hC hK
                  clear hK
                  unfold Facts.one
                  go_simp
                  first | exact ⟨Grew.refl _, rfl⟩ | rfl | exact ⟨Grew.refl _, by simp⟩
                simp only [Act.put, List.setIfInBounds_toArray, List.set_cons_zero, List.set_cons_succ, Nat.reduceAdd]
                apply Facts.Lex.exact [] (.agg #[.int .i64 0, .int .u64 ((bitOf (gu r k).bit).toNat : Int)]) (by kernel_rfl)
                · intro u W hC hK
                  clear hK
                  have hE := HE1.out W hC
                  obtain ⟨d0, d1⟩ := hE
                  unfold Facts.one
                  go_simp
                  first | exact ⟨Grew.refl _, rfl⟩ | rfl | exact ⟨Grew.refl _, by simp⟩
                simp only [Act.put, List.setIfInBounds_toArray, List.set_cons_zero, List.set_cons_succ, Nat.reduceAdd]
                apply Facts.Lex.exact [] (.agg #[.int .i64 0, .int .u64 ((bitOf (gu r k).bit).toNat : Int)]) (by kernel_rfl)
                · intro u W hC hK
                  clear hK
                  obtain ⟨b0, b1, _, _⟩ := lab_cells (keepB B8.out hC)
                  unfold Facts.one
                  go_simp
                  first | exact ⟨Grew.refl _, rfl⟩ | rfl | exact ⟨Grew.refl _, by simp⟩
                simp only [Act.put, List.setIfInBounds_toArray, List.set_cons_zero, List.set_cons_succ, Nat.reduceAdd]
                apply Facts.Lex.exact [] (.bool true) (by kernel_rfl)
                · intro u W hC hK
                  clear hK
                  unfold Facts.one
                  go_simp
                  first | exact ⟨Grew.refl _, rfl⟩ | rfl | exact ⟨Grew.refl _, by simp⟩
                simp only [Act.put, List.setIfInBounds_toArray, List.set_cons_zero, List.set_cons_succ, Nat.reduceAdd]
                apply Facts.Lex.exact [] (.bool true) (by kernel_rfl)
                · intro u W hC hK
                  clear hK
                  unfold Facts.one
                  go_simp
                  first | exact ⟨Grew.refl _, rfl⟩ | rfl | exact ⟨Grew.refl _, by simp⟩
                simp only [Act.put, List.setIfInBounds_toArray, List.set_cons_zero, List.set_cons_succ, Nat.reduceAdd]
                apply Facts.Lex.exact [] (.bool true) (by kernel_rfl)
                · intro u W hC hK
                  clear hK
                  unfold Facts.one
                  go_simp
                  first | exact ⟨Grew.refl _, rfl⟩ | rfl | exact ⟨Grew.refl _, by simp⟩
                simp only [Act.put, List.setIfInBounds_toArray, List.set_cons_zero, List.set_cons_succ, Nat.reduceAdd]
                apply Facts.Lex.exact [] (.agg #[.slice (some ae) r.labels.length cp0, .slice A1' r.lines.length cp1, .slice A2' r.accounts.length cp2, .slice (some ad) r.guilds.length cp3, .slice A4' r.quotas.length cp4, .int .i64 r.orders, .int .i64 r.audits, .int .i64 r.rate, .int .i64 r.rounds]) (by kernel_rfl)
                · intro u W hC hK
                  clear hK
                  obtain ⟨r0, r1, r2, r3, r4, r5, r6, r7, r8⟩ := re_cells (keepB R8.out hC)
                  unfold Facts.one
                  go_simp
                  first | exact ⟨Grew.refl _, rfl⟩ | rfl | exact ⟨Grew.refl _, by simp⟩
                simp only [Act.put, List.setIfInBounds_toArray, List.set_cons_zero, List.set_cons_succ, Nat.reduceAdd]
                apply Facts.Lex.exact [] (.int .i64 (p : Int)) (by kernel_rfl)
                · intro u W hC hK
                  clear hK
                  unfold Facts.one
                  go_simp
                  first | exact ⟨Grew.refl _, rfl⟩ | rfl | exact ⟨Grew.refl _, by simp⟩
                simp only [Act.put, List.setIfInBounds_toArray, List.set_cons_zero, List.set_cons_succ, Nat.reduceAdd]
                apply Facts.Lex.exact [] (.int .i64 (k : Int)) (by kernel_rfl)
                · intro u W hC hK
                  clear hK
                  have HC9 := Lib.hid (HGO.out W (G8.out.trans hC))
                  unfold Facts.one
                  go_simp
                  refine HC9.out.mono ?_
                  rintro e w' ⟨rfl, hg⟩
                  exact ⟨_, rfl, hg, rfl⟩
                simp only [Act.put, List.setIfInBounds_toArray, List.set_cons_zero, List.set_cons_succ, Nat.reduceAdd]
                apply Facts.Lex.exact [] (.int .i64 (k : Int)) (by kernel_rfl)
                · intro u W hC hK
                  clear hK
                  unfold Facts.one
                  go_simp
                  first | exact ⟨Grew.refl _, rfl⟩ | rfl | exact ⟨Grew.refl _, by simp⟩
                simp only [Act.put, List.setIfInBounds_toArray, List.set_cons_zero, List.set_cons_succ, Nat.reduceAdd]
                apply Facts.Lex.exact [] (.bool true) (by kernel_rfl)
                · intro u W hC hK
                  clear hK
                  unfold Facts.one
                  go_simp
                  first | exact ⟨Grew.refl _, rfl⟩ | rfl | exact ⟨Grew.refl _, by simp⟩
                simp only [Act.put, List.setIfInBounds_toArray, List.set_cons_zero, List.set_cons_succ, Nat.reduceAdd]
                apply Facts.Lex.exact [] (.bool true) (by kernel_rfl)
                · intro u W hC hK
                  clear hK
                  unfold Facts.one
                  go_simp
                  first | exact ⟨Grew.refl _, rfl⟩ | rfl | exact ⟨Grew.refl _, by simp⟩
                simp only [Act.put, List.setIfInBounds_toArray, List.set_cons_zero, List.set_cons_succ, Nat.reduceAdd]
                apply Facts.Lex.exact [] (.bool true) (by kernel_rfl)
                · intro u W hC hK
                  clear hK
                  unfold Facts.one
                  go_simp
                  first | exact ⟨Grew.refl _, rfl⟩ | rfl | exact ⟨Grew.refl _, by simp⟩
                simp only [Act.put, List.setIfInBounds_toArray, List.set_cons_zero, List.set_cons_succ, Nat.reduceAdd]
                apply Facts.Lex.exact [] (.agg #[.slice (some ae) r.labels.length cp0, .slice A1' r.lines.length cp1, .slice A2' r.accounts.length cp2, .slice (some ad) r.guilds.length cp3, .slice A4' r.quotas.length cp4, .int .i64 r.orders, .int .i64 r.audits, .int .i64 r.rate, .int .i64 r.rounds]) (by kernel_rfl)
                · intro u W hC hK
                  clear hK
                  obtain ⟨r0, r1, r2, r3, r4, r5, r6, r7, r8⟩ := re_cells (keepB R8.out hC)
                  unfold Facts.one
                  go_simp
                  first | exact ⟨Grew.refl _, rfl⟩ | rfl | exact ⟨Grew.refl _, by simp⟩
                simp only [Act.put, List.setIfInBounds_toArray, List.set_cons_zero, List.set_cons_succ, Nat.reduceAdd]
                apply Facts.Lex.exact [] (.int .i64 (p : Int)) (by kernel_rfl)
                · intro u W hC hK
                  clear hK
                  unfold Facts.one
                  go_simp
                  first | exact ⟨Grew.refl _, rfl⟩ | rfl | exact ⟨Grew.refl _, by simp⟩
                simp only [Act.put, List.setIfInBounds_toArray, List.set_cons_zero, List.set_cons_succ, Nat.reduceAdd]
                apply Facts.Lex.exact [] (.int .i64 (i : Int)) (by kernel_rfl)
                · intro u W hC hK
                  clear hK
                  unfold Facts.one
                  go_simp
                  first | exact ⟨Grew.refl _, rfl⟩ | rfl | exact ⟨Grew.refl _, by simp⟩
                simp only [Act.put, List.setIfInBounds_toArray, List.set_cons_zero, List.set_cons_succ, Nat.reduceAdd]
                apply Facts.Lex.exact [] (.bool bx) (by kernel_rfl)
                · intro u W hC hK
                  clear hK
                  have HC9 := Lib.hid (HLE.out W (G8.out.trans hC))
                  unfold Facts.one
                  go_simp
                  refine HC9.out.mono ?_
                  rintro e w' ⟨rfl, hg⟩
                  exact ⟨_, rfl, hg, rfl⟩
                simp only [Act.put, List.setIfInBounds_toArray, List.set_cons_zero, List.set_cons_succ, Nat.reduceAdd]
                apply Facts.Lex.exact [] (.bool bx) (by kernel_rfl)
                · intro u W hC hK
                  clear hK
                  unfold Facts.one
                  go_simp
                  first | exact ⟨Grew.refl _, rfl⟩ | rfl | exact ⟨Grew.refl _, by simp⟩
                simp only [Act.put, List.setIfInBounds_toArray, List.set_cons_zero, List.set_cons_succ, Nat.reduceAdd]
                apply Facts.Lex.exact [] (.bool true) (by kernel_rfl)
                · intro u W hC hK
                  clear hK
                  unfold Facts.one
                  go_simp
                  first | exact ⟨Grew.refl _, rfl⟩ | rfl | exact ⟨Grew.refl _, by simp⟩
                simp only [Act.put, List.setIfInBounds_toArray, List.set_cons_zero, List.set_cons_succ, Nat.reduceAdd]
                apply Facts.Lex.exact [] (.bool true) (by kernel_rfl)
                · intro u W hC hK
                  clear hK
                  unfold Facts.one
                  go_simp
                  first | exact ⟨Grew.refl _, rfl⟩ | rfl | exact ⟨Grew.refl _, by simp⟩
                simp only [Act.put, List.setIfInBounds_toArray, List.set_cons_zero, List.set_cons_succ, Nat.reduceAdd]
                apply Facts.Lex.exact [] (.bool true) (by kernel_rfl)
                · intro u W hC hK
                  clear hK
                  unfold Facts.one
                  go_simp
                  first | exact ⟨Grew.refl _, rfl⟩ | rfl | exact ⟨Grew.refl _, by simp⟩
                simp only [Act.put, List.setIfInBounds_toArray, List.set_cons_zero, List.set_cons_succ, Nat.reduceAdd]
                refine Facts.Lex.done fun u W2 hC hL => ?_
                have HG9 := Lib.hid (G8.out.trans hC)
                clear hC hL
                go_wp2
                go_returns
                exact ⟨by first | rfl | (simp; done), HG9.out⟩
              | succ g' =>
                have hjl : j < L.length := by omega
                have hjz : (j : Int) < (L.length : Int) := by omega
                have hx : L[j]? = some L[j] := List.getElem?_eq_getElem hjl
                have hts : ((k : Int) ∈ L.take (j + 1)) ↔ ((k : Int) ∈ L.take j ∨ L[j] = (k : Int)) := by
                  rw [List.take_add_one, hx, List.mem_append, Option.toList_some, List.mem_singleton]
                  exact or_congr Iff.rfl eq_comm
                have HTS := Lib.hid hts
                obtain ⟨af, c7, e9, _, d0⟩ := Is_at (HIG.out.grew HQ.out) hx
                injection e9 with e1 e2 e3
                subst e1 e3
                clear e2
                generalize L[j] = x at *
                have HKW : Hid (wrap64 ((j : Int) + 1) = ((j + 1 : Nat) : Int)) := Lib.hid (by have := HCN.out; unfold maxLen at this; unfold wrap64; omega)
                have HMM : Hid (j + 1 + g' = L.length) := Lib.hid (by omega)
                clear hjg hx hts
                by_cases h1 : (k : Int) ∈ L.take j
                · have h2 : decide ((k : Int) ∈ L.take (j + 1)) = true := decide_eq_true (HTS.out.2 (.inl h1))
                  have H2 := Lib.hid h2
                  rw [decide_eq_true h1]
                  clear h1 h2 HTS
                  go_wp2
                  go_roundg g'
                  case measure => omega
                  case rel => exact ⟨j + 1, HMM.out, by rw [H2.out], by first | rfl | (simp; done) | rw [HKW.out], HQ⟩
                · by_cases h3 : x = (k : Int)
                  · have h2 : decide ((k : Int) ∈ L.take (j + 1)) = true := decide_eq_true (HTS.out.2 (.inr h3))
                    have H2 := Lib.hid h2
                    rw [decide_eq_false h1]
                    clear h1 h2 HTS
                    go_wp2
                    go_roundg g'
                    case measure => omega
                    case rel => exact ⟨j + 1, HMM.out, by rw [H2.out]; try simp [h3], by first | rfl | (simp; done) | rw [HKW.out], HQ⟩
                  · have h2 : decide ((k : Int) ∈ L.take (j + 1)) = false := decide_eq_false fun hh => by
                      rcases HTS.out.1 hh with h4 | h4
                      · exact h1 h4
                      · exact h3 h4
                    have H2 := Lib.hid h2
                    rw [decide_eq_false h1]
                    clear h1 h2 HTS
                    go_wp2
                    go_roundg g'
                    case measure => omega
                    case rel => exact ⟨j + 1, HMM.out, by rw [H2.out]; try simp [h3], by first | rfl | (simp; done) | rw [HKW.out], HQ⟩
end Go.Proofs.YtmegdgeiikhflaaGreat.EF
