/-
  What is done in a hall, as the document does it, is what the program does.
  Conditions: the accounts' texts' sizes.
-/
import Derived.Test.YtmegdgeiikhflaaGreatDO
import Derived.Test.YtmegdgeiikhflaaGreatHP
namespace Go.Proofs.YtmegdgeiikhflaaGreat.DF
set_option maxRecDepth 100000
open Go Go.RowKit Go.Lib Go.Proofs.YtmegdgeiikhflaaGreat Go.Proofs.YtmegdgeiikhflaaGreat.Facts Go.Proofs.YtmegdgeiikhflaaGreat.Plain Go.Proofs.YtmegdgeiikhflaaGreat.Ints Go.Proofs.YtmegdgeiikhflaaGreat.RRows Go.Proofs.YtmegdgeiikhflaaGreat.LBox Go.Proofs.YtmegdgeiikhflaaGreat.RSmall Go.Proofs.YtmegdgeiikhflaaGreat.RFind Go.Proofs.YtmegdgeiikhflaaGreat.RAll Go.Proofs.YtmegdgeiikhflaaGreat.RRules Go.Proofs.YtmegdgeiikhflaaGreat.RRule3 Go.Proofs.YtmegdgeiikhflaaGreat.RRight Go.Proofs.YtmegdgeiikhflaaGreat.HA Go.Proofs.YtmegdgeiikhflaaGreat.HB Go.Proofs.YtmegdgeiikhflaaGreat.HG Go.Proofs.YtmegdgeiikhflaaGreat.HC Go.Proofs.YtmegdgeiikhflaaGreat.HD Go.Proofs.YtmegdgeiikhflaaGreat.HW Go.Proofs.YtmegdgeiikhflaaGreat.HX Go.Proofs.YtmegdgeiikhflaaGreat.HT

theorem bits_lt {r : Re} (h : mayBe r = true) : ∀ (j i : Nat), i < j → j < r.guilds.length → (gu r i).bit < (gu r j).bit
  | 0, i, hij, _ => absurd hij (Nat.not_lt_zero _)
  | j + 1, i, hij, hj => by
    have h4 := (may_parts h).2.1
    unfold rule4 RGuilds.guildsOk at h4
    simp only [Bool.and_eq_true, decide_eq_true_eq, List.all_eq_true, List.mem_range] at h4
    have := h4.2.1 (j + 1) hj
    rw [RGuilds.gk_at r (j + 1) _ (gu_get hj)] at this
    simp only [Bool.and_eq_true, decide_eq_true_eq] at this
    have h5 := this.2.1
    rw [DG.last_succ r j] at h5
    rcases Nat.lt_succ_iff_lt_or_eq.1 hij with h6 | h6
    · have := bits_lt h j i h6 (by omega)
      omega
    · rw [h6]
      exact h5
theorem guildOf_is {r : Re} (h : mayBe r = true) {p : Nat} (hp : p < r.labels.length) : guildOf r (p : Int) = -1 ∨ ∃ k : Nat, k < r.guilds.length ∧ guildOf r (p : Int) = (k : Int) ∧ (⟨0, bitOf (gu r k).bit⟩ : La) = RRule1.lat r.labels p := by
  have hgo : guildOf r (p : Int) = fidx r.guilds (fun x => decide ((⟨0, bitOf x.bit⟩ : La) = RRule1.lat r.labels p)) := by
    unfold guildOf
    rw [if_pos h, if_pos (by unfold inn; simp; omega)]
    rfl
  rw [hgo]
  unfold fidx
  split
  · rename_i q hq
    obtain ⟨hql, h1, _⟩ := List.findIdx?_eq_some_iff_getElem.1 hq
    refine .inr ⟨q, hql, rfl, ?_⟩
    have h2 := of_decide_eq_true h1
    have h3 := gu_get hql
    rw [List.getElem?_eq_getElem hql] at h3
    injection h3 with h3
    rw [← h3]
    exact h2
  · exact .inl rfl
theorem acc_lev {r : Re} (h : mayBe r = true) {k : Nat} (hk : k < r.accounts.length) : 0 ≤ (ac r k).lev := by
  have h3 := (may_parts h).1
  unfold rule3 at h3
  simp only [Bool.and_eq_true, List.all_eq_true] at h3
  have := h3.2.1 _ (List.mem_of_getElem? (ac_get hk))
  unfold accOk wit at this
  simp only [Bool.and_eq_true, decide_eq_true_eq] at this
  exact this.2.2.1
theorem officer {r : Re} {R : List (List Int)} {p b k : Nat} (h : rightH r R = true) (hp : p < r.labels.length) (hb : b < r.accounts.length) (hk : k < r.guilds.length) (hl : (⟨0, bitOf (gu r k).bit⟩ : La) = RRule1.lat r.labels p) (h2 : cel (rk R k) b = 2) : clearedH r R (b : Int) (p : Int) = true := by
  have hm := (right_parts h).1
  rw [DC.cl_end h hb hp fun j hj => ?_]
  · rw [← hl]
    exact decide_eq_true (acc_lev hm hb)
  · rintro ⟨h3, h4⟩
    rw [← hl] at h3
    obtain ⟨b0, b1⟩ := DC.bit_in hm hj
    have h5 : (bitOf (gu r k).bit).getLsbD (gu r j).bit.toNat = true := h3
    rw [DG.bitOf_at _ _ (by omega)] at h5
    have h6 := of_decide_eq_true h5
    have hjk : j = k := by
      rcases Nat.lt_trichotomy j k with h7 | h7 | h7
      · have := bits_lt hm k j h7 hk
        omega
      · exact h7
      · have := bits_lt hm j k h7 hj
        omega
    subst hjk
    omega
theorem rank_in {r : Re} {R : List (List Int)} (h : rightH r R = true) {g w : Nat} (hg : g < R.length) (hw : w < (rk R g).length) : 0 ≤ cel (rk R g) w ∧ cel (rk R g) w ≤ 2 := by
  have h1 := ((right_parts h).2.2 g hg).2.1
  rw [List.any_eq_false] at h1
  have := h1 (cel (rk R g) w) (by unfold cel; rw [List.getElem?_eq_getElem hw]; exact List.getElem_mem hw)
  unfold noR okRank at this
  simp only [Bool.not_eq_true', Bool.not_eq_false', Bool.and_eq_true, decide_eq_true_eq] at this
  simpa using this
end Go.Proofs.YtmegdgeiikhflaaGreat.DF
namespace Go.Proofs.YtmegdgeiikhflaaGreat.DK
set_option maxRecDepth 100000
open Go Go.RowKit Go.Lib Go.Proofs.YtmegdgeiikhflaaGreat Go.Proofs.YtmegdgeiikhflaaGreat.Facts Go.Proofs.YtmegdgeiikhflaaGreat.Plain Go.Proofs.YtmegdgeiikhflaaGreat.Ints Go.Proofs.YtmegdgeiikhflaaGreat.RRows Go.Proofs.YtmegdgeiikhflaaGreat.LBox Go.Proofs.YtmegdgeiikhflaaGreat.RSmall Go.Proofs.YtmegdgeiikhflaaGreat.RFind Go.Proofs.YtmegdgeiikhflaaGreat.RAll Go.Proofs.YtmegdgeiikhflaaGreat.RRules Go.Proofs.YtmegdgeiikhflaaGreat.RRule3 Go.Proofs.YtmegdgeiikhflaaGreat.RRight Go.Proofs.YtmegdgeiikhflaaGreat.HA Go.Proofs.YtmegdgeiikhflaaGreat.HB Go.Proofs.YtmegdgeiikhflaaGreat.HG Go.Proofs.YtmegdgeiikhflaaGreat.HC Go.Proofs.YtmegdgeiikhflaaGreat.HD Go.Proofs.YtmegdgeiikhflaaGreat.HW Go.Proofs.YtmegdgeiikhflaaGreat.HX Go.Proofs.YtmegdgeiikhflaaGreat.HT Go.Proofs.YtmegdgeiikhflaaGreat.HP Go.Proofs.YtmegdgeiikhflaaGreat.DF

theorem small_row {r : Re} {R : List (List Int)} (h : rightH r R = true) (i : Nat) : (rk R i).length ≤ 100 := by
  by_cases hi : i < R.length
  · exact ((rows_fine h).1 _ (List.mem_of_getElem? (rk_get hi))).2
  · unfold rk
    rw [List.getElem?_eq_none (by omega)]
    simp
theorem inn_of {n k : Nat} (h : k < n) : inn n (k : Int) = true := by unfold inn; simp; omega
theorem act_out {r : Re} {R : List (List Int)} {p b o : Int} {rule : Nat → Int → Int × Int} (h : rightH r R = false ∨ inn r.labels.length p = false ∨ inn r.accounts.length b = false ∨ inn r.accounts.length o = false) : actR r R p b o rule = ([], 1) := by
  unfold actR
  by_cases h1 : rightH r R = true
  · rw [if_pos h1]
    by_cases h2 : inn r.labels.length p = true
    · rw [if_pos h2]
      by_cases h3 : inn r.accounts.length b = true
      · rw [if_pos h3]
        by_cases h4 : inn r.accounts.length o = true
        · rcases h with h | h | h | h
          · rw [h] at h1; cases h1
          · rw [h] at h2; cases h2
          · rw [h] at h3; cases h3
          · rw [h] at h4; cases h4
        · rw [if_neg h4]
      · rw [if_neg h3]
    · rw [if_neg h2]
  · rw [if_neg h1]
theorem act_in {r : Re} {R : List (List Int)} {p b o : Nat} {rule : Nat → Int → Int × Int} (h : rightH r R = true) (hp : p < r.labels.length) (hb : b < r.accounts.length) (ho : o < r.accounts.length) :
    (guildOf r (p : Int) = -1 → actR r R p b o rule = ([], 17)) ∧ ∀ k : Nat, k < r.guilds.length → guildOf r (p : Int) = (k : Int) →
      (¬ cel (rk R k) b = 2 → actR r R p b o rule = ([], 5)) ∧ (cel (rk R k) b = 2 → actR r R p b o rule = if (rule k (cel (rk R k) o)).2 = 0 then (withR R k o (rule k (cel (rk R k) o)).1, 0) else ([], (rule k (cel (rk R k) o)).2)) := by
  constructor
  · intro hg
    unfold actR
    rw [if_pos h, if_pos (inn_of hp), if_pos (inn_of hb), if_pos (inn_of ho), hg, if_neg (by unfold inn; simp)]
  · intro k hk hg
    constructor
    · intro h2
      unfold actR
      rw [if_pos h, if_pos (inn_of hp), if_pos (inn_of hb), if_pos (inn_of ho), hg, if_pos (inn_of hk), if_neg (by simpa using h2)]
    · intro h2
      unfold actR
      rw [if_pos h, if_pos (inn_of hp), if_pos (inn_of hb), if_pos (inn_of ho), hg, if_pos (inn_of hk), if_pos (by simpa using h2)]
      rfl

set_option maxHeartbeats 8000000 in
theorem ract1 (v vr : Value) (r : Re) (R : List (List Int)) (place by' who : Int) (w : World) (h : ReIs w v r) (hs : Sized r) (hR : RK w vr R) :
    Calls Tryz.prog 46 #[v, vr, .int .i64 1, .int .i64 place, .int .i64 by', .int .i64 who] w fun e w' => ∃ v', e = .returned (.tuple #[v', .int .i64 (actR r R place by' who rI).2]) ∧ RK w' v' (actR r R place by' who rI).1 ∧ Grew w w' := by
  have HRR := Lib.hid (fun W hg => DH.rhright_any v vr r R W (h.grew (w' := W) hg) hs (hR.grew hg))
  have HGD := Lib.hid (fun (p : Nat) W hg hm hp => DO.rguildOf_any v r p W (h.grew (w' := W) hg) hm hp)
  have HCD := Lib.hid (fun W hg hr => DC.rcleared_any v vr r R by' place W (h.grew (w' := W) hg) (hR.grew hg) hr)
  obtain ⟨v0, v1, v2, v3, v4, rfl, h0, h1, h2, h3, h4⟩ := h
  have HRK := Lib.hid hR
  have HL3 := Lib.hid h3
  obtain ⟨A0', cp0, rfl, _⟩ := h0.slice
  obtain ⟨A1', cp1, rfl, _⟩ := id h1
  obtain ⟨A2', cp2, rfl, _⟩ := h2.slice
  obtain ⟨A3', cp3, rfl, _⟩ := h3.slice
  obtain ⟨A4', cp4, rfl, _⟩ := h4.slice
  obtain ⟨B, cb, rfl, _⟩ := id hR
  clear h0 h1 h2 h3 h4 hs hR
  have G0 : Hid (Grew w (w.alloc (Obj.cells #[.slice A0' r.labels.length cp0, .slice A1' r.lines.length cp1, .slice A2' r.accounts.length cp2, .slice A3' r.guilds.length cp3, .slice A4' r.quotas.length cp4, .int .i64 r.orders, .int .i64 r.audits, .int .i64 r.rate, .int .i64 r.rounds] 28))) := Lib.hid (by unfold Grew; go_grown)
  have R0 : Hid ((w.alloc (Obj.cells #[.slice A0' r.labels.length cp0, .slice A1' r.lines.length cp1, .slice A2' r.accounts.length cp2, .slice A3' r.guilds.length cp3, .slice A4' r.quotas.length cp4, .int .i64 r.orders, .int .i64 r.audits, .int .i64 r.rate, .int .i64 r.rounds] 28)).heap[w.heap.size]? = some (rcell (.slice A0' r.labels.length cp0) (.slice A1' r.lines.length cp1) (.slice A2' r.accounts.length cp2) (.slice A3' r.guilds.length cp3) (.slice A4' r.quotas.length cp4) r.orders r.audits r.rate r.rounds)) := Lib.hid (heap_alloc_new w _)
  obtain ⟨res, hres0⟩ : ∃ res, res = actR r R place by' who rI := ⟨_, rfl⟩
  rw [← hres0]
  have HRES := Lib.hid hres0
  clear hres0
  obtain ⟨bR, hbR⟩ : ∃ bR, rightH r R = bR := ⟨_, rfl⟩
  rw [hbR] at HRR
  have HRT0 := Lib.hid hbR
  clear hbR
  obtain ⟨r0, r1, r2, r3, r4, r5, r6, r7, r8⟩ := re_cells R0.out
  go_enter Tryz.func46, Tryz.ntmps46
  go_wp2_with fail
  with_reducible refine (HRR.out _ G0.out).mono ?_
  rintro e w1 ⟨rfl, hg⟩
  have G1 := Lib.hid (G0.out.trans hg)
  have R1 := Lib.hid (keepB R0.out hg)
  clear hg r0 r1 r2 r3 r4 r5 r6 r7 r8
  obtain ⟨r0, r1, r2, r3, r4, r5, r6, r7, r8⟩ := re_cells R1.out
  cases bR with
  | false =>
    have hres : res = ([], 1) := HRES.out.trans (act_out (.inl HRT0.out))
    clear HRES
    go_wp2
    go_returns
    exact ⟨.slice none 0 0, by rw [hres]; try rfl, by rw [hres]; exact RK.nil _, G1.out⟩
  | true =>
    have HRT : Hid (rightH r R = true) := Lib.hid HRT0.out
    rcases inn_cases r.labels.length place with ⟨p1, p2, p3⟩ | ⟨p1, p3⟩ | ⟨p1, p2, p3⟩
    · rcases inn_cases r.accounts.length by' with ⟨b1, b2, b3⟩ | ⟨b1, b3⟩ | ⟨b1, b2, b3⟩
      · rcases inn_cases r.accounts.length who with ⟨o1, o2, o3⟩ | ⟨o1, o3⟩ | ⟨o1, o2, o3⟩
        · obtain ⟨kp, rfl⟩ := Int.eq_ofNat_of_zero_le p1
          obtain ⟨kb, rfl⟩ := Int.eq_ofNat_of_zero_le b1
          obtain ⟨ko, rfl⟩ := Int.eq_ofNat_of_zero_le o1
          have hp : kp < r.labels.length := Int.ofNat_lt.1 p2
          have hb : kb < r.accounts.length := Int.ofNat_lt.1 b2
          have ho : ko < r.accounts.length := Int.ofNat_lt.1 o2
          have p1' : ¬ (kp : Int) < 0 := by omega
          have b1' : ¬ (kb : Int) < 0 := by omega
          have o1' : ¬ (ko : Int) < 0 := by omega
          have p2' : ¬ (r.labels.length : Int) ≤ (kp : Int) := by omega
          have b2' : ¬ (r.accounts.length : Int) ≤ (kb : Int) := by omega
          have o2' : ¬ (r.accounts.length : Int) ≤ (ko : Int) := by omega
          obtain ⟨hm, hlen, hrows⟩ := right_parts HRT.out
          have HGO := Lib.hid (fun W hg => HGD.out kp W hg hm hp)
          have HCC := Lib.hid (fun W hg => HCD.out W hg HRT.out)
          have HAI := Lib.hid (act_in (rule := rI) HRT.out hp hb ho)
          have HOF := Lib.hid (fun k hk hl h2 => @officer r R kp kb k HRT.out hp hb hk hl h2)
          have hgi := guildOf_is hm hp
          clear p1 p2 p3 b1 b2 b3 o1 o2 o3
          rcases hgi with hg1 | ⟨kg, hkG, hgk, hlk⟩
          · rw [hg1] at HGO
            have hr17 := HRES.out.trans (HAI.out.1 hg1)
            clear hg1 hm hlen hrows
            go_wp2_with fail
            with_reducible refine (HGO.out _ G1.out).mono ?_
            rintro e w2 ⟨rfl, hg⟩
            have G2 := Lib.hid (G1.out.trans hg)
            have R2 := Lib.hid (keepB R1.out hg)
            clear hg r0 r1 r2 r3 r4 r5 r6 r7 r8
            obtain ⟨r0, r1, r2, r3, r4, r5, r6, r7, r8⟩ := re_cells R2.out
            have hres : res = ([], 17) := hr17
            clear HRES
            go_wp2
            go_returns
            exact ⟨.slice none 0 0, by rw [hres]; try rfl, by rw [hres]; exact RK.nil _, G2.out⟩
          · rw [hgk] at HGO
            have HIN := HAI.out.2 kg hkG hgk
            have hkR : kg < R.length := by rw [hlen]; exact hkG
            have hrl := (hrows kg hkR).1
            have hbl : kb < (rk R kg).length := by rw [hrl]; exact hb
            have hol : ko < (rk R kg).length := by rw [hrl]; exact ho
            obtain ⟨i0, i1⟩ := rank_in HRT.out hkR hbl
            obtain ⟨j0, j1⟩ := rank_in HRT.out hkR hol
            have HOK := Lib.hid (HOF.out kg hkG hlk)
            have HSW := Lib.hid (fun n => set_with R kg ko n hkR hol)
            have hg0 : ¬ (kg : Int) < 0 := by omega
            have hk1 : (kg : Int) < (R.length : Int) := DH.p3 hkR
            have hk2 : (kb : Int) < ((rk R kg).length : Int) := DH.p3 hbl
            have hk3 : (ko : Int) < ((rk R kg).length : Int) := DH.p3 hol
            have hk4 : (kg : Int) < (r.guilds.length : Int) := DH.p3 hkG
            obtain ⟨ad, c2, A', c', e, hcl, hrow⟩ := HRK.out.at hkR
            injection e with e1 _ e3
            subst e1 e3
            obtain ⟨adr, rfl, hcb⟩ := Is.at' hrow (k := kb) hbl
            obtain ⟨adr2, e2, hco⟩ := Is.at' hrow (k := ko) hol
            cases e2
            obtain ⟨ad3, c4, e, hc3, f0, f1⟩ := Gs_at HL3.out (gu_get (k := kg) hkG)
            injection e with e1 _ e3
            subst e1 e3
            have C0 := Lib.hid hcl
            have CB := Lib.hid hcb
            have CO := Lib.hid hco
            have F1 := Lib.hid f1
            have HJ0 := Lib.hid j0
            have HJ1 := Lib.hid j1
            clear hm hlen hrows hkG hgk hlk hkR hrl hbl hol hcl hrow hcb hco f0 f1 hp hb ho j0 j1
            obtain ⟨cb', hcb'⟩ : ∃ cb', cel (rk R kg) kb = cb' := ⟨_, rfl⟩
            obtain ⟨co', hco'⟩ : ∃ co', cel (rk R kg) ko = co' := ⟨_, rfl⟩
            obtain ⟨bc, hbc⟩ : ∃ bc, clearedH r R (kb : Int) (kp : Int) = bc := ⟨_, rfl⟩
            obtain ⟨fo, hfo⟩ : ∃ fo, (gu r kg).founder = fo := ⟨_, rfl⟩
            rw [hcb'] at CB HOK HIN i0 i1
            rw [hco'] at CO HIN HJ0 HJ1
            rw [hbc] at HCC HOK
            rw [hfo] at F1
            have HFO := Lib.hid hfo
            clear hcb' hco' hbc hfo HGD HCD HAI HOF
            go_wp2_with fail
            with_reducible refine (HGO.out _ G1.out).mono ?_
            rintro e w2 ⟨rfl, hg⟩
            have G2 := Lib.hid (G1.out.trans hg)
            have R2 := Lib.hid (keepB R1.out hg)
            clear hg r0 r1 r2 r3 r4 r5 r6 r7 r8
            obtain ⟨r0, r1, r2, r3, r4, r5, r6, r7, r8⟩ := re_cells R2.out
            go_wp2_with fail
            with_reducible refine (HCC.out _ G2.out).mono ?_
            rintro e w3 ⟨rfl, hg⟩
            have G3 := Lib.hid (G2.out.trans hg)
            have R3 := Lib.hid (keepB R2.out hg)
            clear hg r0 r1 r2 r3 r4 r5 r6 r7 r8
            obtain ⟨r0, r1, r2, r3, r4, r5, r6, r7, r8⟩ := re_cells R3.out
            have c0 := cellB G3.out C0.out
            have cb3 := cellB G3.out CB.out
            by_cases h2 : cb' = 2
            · have hbc : bc = true := HOK.out h2
              subst hbc
              have HIN2 := HIN.2 h2
              have hlt : ¬ cb' < 2 := by omega
              clear HIN h2 i0 i1
              have co3 := cellB G3.out CO.out
              have f3 := cellB G3.out F1.out
              by_cases n0 : co' = 0
              · have hp0 : ¬ (0 : Int) < co' := by omega
                have hres : res = (withR R kg ko 1, 0) := HRES.out.trans (HIN2.trans (by unfold rI ruleI; rw [if_pos n0]; rfl))
                have HST := Lib.hid (fun W hg => set_any W _ R (kg : Int) (ko : Int) 1 (HRK.out.grew (w' := W) hg) (rows_fine HRT.out).2 (small_row HRT.out))
                rw [HSW.out] at HST
                clear HIN2 HRES n0
                go_wp2_with fail
                with_reducible refine (HST.out _ G3.out).mono ?_
                rintro e w4 ⟨v4', rfl, hrk, hg⟩
                obtain ⟨A8, c8, rfl, _⟩ := id hrk
                have H8 := Lib.hid hrk
                have G4 := Lib.hid (G3.out.trans hg)
                clear hrk hg r0 r1 r2 r3 r4 r5 r6 r7 r8
                go_wp2
                go_returns
                exact ⟨_, by rw [hres]; try rfl, by rw [hres]; exact H8.out, G4.out⟩
              · have hp0 : (0 : Int) < co' := by have := HJ0.out; omega
                have hres : res = ([], 4) := HRES.out.trans (HIN2.trans (by unfold rI ruleI; rw [if_neg n0]; rfl))
                clear HIN2 n0
                clear HRES
                go_wp2
                go_returns
                exact ⟨.slice none 0 0, by rw [hres]; try rfl, by rw [hres]; exact RK.nil _, G3.out⟩
            · have hres := HRES.out.trans (HIN.1 h2)
              have hlt : cb' < 2 := by omega
              clear HIN h2 i0 i1
              cases bc
              · clear HRES
                go_wp2
                go_returns
                exact ⟨.slice none 0 0, by rw [hres]; try rfl, by rw [hres]; exact RK.nil _, G3.out⟩
              · clear HRES
                go_wp2
                go_returns
                exact ⟨.slice none 0 0, by rw [hres]; try rfl, by rw [hres]; exact RK.nil _, G3.out⟩
        · have o1' : who < 0 := by omega
          have b1' : ¬ by' < 0 := by omega
          have b2' : ¬ (r.accounts.length : Int) ≤ by' := by omega
          have p1' : ¬ place < 0 := by omega
          have p2' : ¬ (r.labels.length : Int) ≤ place := by omega
          have HO3 := Lib.hid o3
          clear p1 p2 p3 b1 b2 b3 o1 o3
          have hres : res = ([], 1) := HRES.out.trans (act_out (.inr (.inr (.inr HO3.out))))
          clear HRES
          go_wp2
          go_returns
          exact ⟨.slice none 0 0, by rw [hres]; try rfl, by rw [hres]; exact RK.nil _, G1.out⟩
        · have o1' : ¬ who < 0 := by omega
          have o2' : (r.accounts.length : Int) ≤ who := by omega
          have b1' : ¬ by' < 0 := by omega
          have b2' : ¬ (r.accounts.length : Int) ≤ by' := by omega
          have p1' : ¬ place < 0 := by omega
          have p2' : ¬ (r.labels.length : Int) ≤ place := by omega
          have HO3 := Lib.hid o3
          clear p1 p2 p3 b1 b2 b3 o1 o2 o3
          have hres : res = ([], 1) := HRES.out.trans (act_out (.inr (.inr (.inr HO3.out))))
          clear HRES
          go_wp2
          go_returns
          exact ⟨.slice none 0 0, by rw [hres]; try rfl, by rw [hres]; exact RK.nil _, G1.out⟩
      · have b1' : by' < 0 := by omega
        have p1' : ¬ place < 0 := by omega
        have p2' : ¬ (r.labels.length : Int) ≤ place := by omega
        have HO3 := Lib.hid b3
        clear p1 p2 p3 b1 b3
        have hres : res = ([], 1) := HRES.out.trans (act_out (.inr (.inr (.inl HO3.out))))
        clear HRES
        go_wp2
        go_returns
        exact ⟨.slice none 0 0, by rw [hres]; try rfl, by rw [hres]; exact RK.nil _, G1.out⟩
      · have b1' : ¬ by' < 0 := by omega
        have b2' : (r.accounts.length : Int) ≤ by' := by omega
        have p1' : ¬ place < 0 := by omega
        have p2' : ¬ (r.labels.length : Int) ≤ place := by omega
        have HO3 := Lib.hid b3
        clear p1 p2 p3 b1 b2 b3
        have hres : res = ([], 1) := HRES.out.trans (act_out (.inr (.inr (.inl HO3.out))))
        clear HRES
        go_wp2
        go_returns
        exact ⟨.slice none 0 0, by rw [hres]; try rfl, by rw [hres]; exact RK.nil _, G1.out⟩
    · have p1' : place < 0 := by omega
      have HO3 := Lib.hid p3
      clear p1 p3
      have hres : res = ([], 1) := HRES.out.trans (act_out (.inr (.inl HO3.out)))
      clear HRES
      go_wp2
      go_returns
      exact ⟨.slice none 0 0, by rw [hres]; try rfl, by rw [hres]; exact RK.nil _, G1.out⟩
    · have p1' : ¬ place < 0 := by omega
      have p2' : (r.labels.length : Int) ≤ place := by omega
      have HO3 := Lib.hid p3
      clear p1 p2 p3
      have hres : res = ([], 1) := HRES.out.trans (act_out (.inr (.inl HO3.out)))
      clear HRES
      go_wp2
      go_returns
      exact ⟨.slice none 0 0, by rw [hres]; try rfl, by rw [hres]; exact RK.nil _, G1.out⟩
end Go.Proofs.YtmegdgeiikhflaaGreat.DK
