/-
  What is done in a hall, as the document does it, is what the program does.
  Conditions: the accounts' texts' sizes.
-/
import Derived.Test.YtmegdgeiikhflaaGreatDK
namespace Go.Proofs.YtmegdgeiikhflaaGreat.DK2
set_option maxRecDepth 100000
open Go Go.RowKit Go.Lib Go.Proofs.YtmegdgeiikhflaaGreat Go.Proofs.YtmegdgeiikhflaaGreat.Facts Go.Proofs.YtmegdgeiikhflaaGreat.Plain Go.Proofs.YtmegdgeiikhflaaGreat.Ints Go.Proofs.YtmegdgeiikhflaaGreat.RRows Go.Proofs.YtmegdgeiikhflaaGreat.LBox Go.Proofs.YtmegdgeiikhflaaGreat.RSmall Go.Proofs.YtmegdgeiikhflaaGreat.RFind Go.Proofs.YtmegdgeiikhflaaGreat.RAll Go.Proofs.YtmegdgeiikhflaaGreat.RRules Go.Proofs.YtmegdgeiikhflaaGreat.RRule3 Go.Proofs.YtmegdgeiikhflaaGreat.RRight Go.Proofs.YtmegdgeiikhflaaGreat.HA Go.Proofs.YtmegdgeiikhflaaGreat.HB Go.Proofs.YtmegdgeiikhflaaGreat.HG Go.Proofs.YtmegdgeiikhflaaGreat.HC Go.Proofs.YtmegdgeiikhflaaGreat.HD Go.Proofs.YtmegdgeiikhflaaGreat.HW Go.Proofs.YtmegdgeiikhflaaGreat.HX Go.Proofs.YtmegdgeiikhflaaGreat.HT Go.Proofs.YtmegdgeiikhflaaGreat.HP Go.Proofs.YtmegdgeiikhflaaGreat.DF Go.Proofs.YtmegdgeiikhflaaGreat.DK

set_option maxHeartbeats 8000000 in
theorem ract2 (v vr : Value) (r : Re) (R : List (List Int)) (place by' who : Int) (w : World) (h : ReIs w v r) (hs : Sized r) (hR : RK w vr R) :
    Calls Tryz.prog 46 #[v, vr, .int .i64 2, .int .i64 place, .int .i64 by', .int .i64 who] w fun e w' => ∃ v', e = .returned (.tuple #[v', .int .i64 (actR r R place by' who rR).2]) ∧ RK w' v' (actR r R place by' who rR).1 ∧ Grew w w' := by
  have HRR := Lib.hid (fun W hg => DH.rhright_any v vr r R W (h.grew (w' := W) hg) hs (hR.grew hg))
  have HGD := Lib.hid (fun (p : Nat) W hg hm hp => DO.rguildOf_any v r p W (h.grew (w' := W) hg) hm hp)
  have HCD := Lib.hid (fun W hg hr => DC.rcleared_any v vr r R by' place W (h.grew (w' := W) hg) (hR.grew hg) hr)
  obtain ⟨v0, v1, v2, v3, v4, rfl, h0, h1, h2, h3, h4⟩ := h
  have HRK := Lib.hid hR
  have HL3 := Lib.hid h3
  obtain ⟨A0', cp0, rfl, _⟩ := h0.slice
  obtain ⟨A1', cp1, rfl, _⟩ := id h1
  obtain ⟨A2', cp2, rfl, _⟩ := h2.slice
  obtain ⟨A3', cp3, rfl, _⟩ := h3.slice
  obtain ⟨A4', cp4, rfl, _⟩ := h4.slice
  obtain ⟨B, cb, rfl, _⟩ := id hR
  clear h0 h1 h2 h3 h4 hs hR
  have G0 : Hid (Grew w (w.alloc (Obj.cells #[.slice A0' r.labels.length cp0, .slice A1' r.lines.length cp1, .slice A2' r.accounts.length cp2, .slice A3' r.guilds.length cp3, .slice A4' r.quotas.length cp4, .int .i64 r.orders, .int .i64 r.audits, .int .i64 r.rate, .int .i64 r.rounds] 28))) := Lib.hid (by unfold Grew; go_grown)
  have R0 : Hid ((w.alloc (Obj.cells #[.slice A0' r.labels.length cp0, .slice A1' r.lines.length cp1, .slice A2' r.accounts.length cp2, .slice A3' r.guilds.length cp3, .slice A4' r.quotas.length cp4, .int .i64 r.orders, .int .i64 r.audits, .int .i64 r.rate, .int .i64 r.rounds] 28)).heap[w.heap.size]? = some (rcell (.slice A0' r.labels.length cp0) (.slice A1' r.lines.length cp1) (.slice A2' r.accounts.length cp2) (.slice A3' r.guilds.length cp3) (.slice A4' r.quotas.length cp4) r.orders r.audits r.rate r.rounds)) := Lib.hid (heap_alloc_new w _)
  obtain ⟨res, hres0⟩ : ∃ res, res = actR r R place by' who rR := ⟨_, rfl⟩
  rw [← hres0]
  have HRES := Lib.hid hres0
  clear hres0
  obtain ⟨bR, hbR⟩ : ∃ bR, rightH r R = bR := ⟨_, rfl⟩
  rw [hbR] at HRR
  have HRT0 := Lib.hid hbR
  clear hbR
  obtain ⟨r0, r1, r2, r3, r4, r5, r6, r7, r8⟩ := re_cells R0.out
  go_enter Tryz.func46, Tryz.ntmps46
  go_wp2_with fail
  with_reducible refine (HRR.out _ G0.out).mono ?_
  rintro e w1 ⟨rfl, hg⟩
  have G1 := Lib.hid (G0.out.trans hg)
  have R1 := Lib.hid (keepB R0.out hg)
  clear hg r0 r1 r2 r3 r4 r5 r6 r7 r8
  obtain ⟨r0, r1, r2, r3, r4, r5, r6, r7, r8⟩ := re_cells R1.out
  cases bR with
  | false =>
    have hres : res = ([], 1) := HRES.out.trans (act_out (.inl HRT0.out))
    clear HRES
    go_wp2
    go_returns
    exact ⟨.slice none 0 0, by rw [hres]; try rfl, by rw [hres]; exact RK.nil _, G1.out⟩
  | true =>
    have HRT : Hid (rightH r R = true) := Lib.hid HRT0.out
    rcases inn_cases r.labels.length place with ⟨p1, p2, p3⟩ | ⟨p1, p3⟩ | ⟨p1, p2, p3⟩
    · rcases inn_cases r.accounts.length by' with ⟨b1, b2, b3⟩ | ⟨b1, b3⟩ | ⟨b1, b2, b3⟩
      · rcases inn_cases r.accounts.length who with ⟨o1, o2, o3⟩ | ⟨o1, o3⟩ | ⟨o1, o2, o3⟩
        · obtain ⟨kp, rfl⟩ := Int.eq_ofNat_of_zero_le p1
          obtain ⟨kb, rfl⟩ := Int.eq_ofNat_of_zero_le b1
          obtain ⟨ko, rfl⟩ := Int.eq_ofNat_of_zero_le o1
          have hp : kp < r.labels.length := Int.ofNat_lt.1 p2
          have hb : kb < r.accounts.length := Int.ofNat_lt.1 b2
          have ho : ko < r.accounts.length := Int.ofNat_lt.1 o2
          have p1' : ¬ (kp : Int) < 0 := by omega
          have b1' : ¬ (kb : Int) < 0 := by omega
          have o1' : ¬ (ko : Int) < 0 := by omega
          have p2' : ¬ (r.labels.length : Int) ≤ (kp : Int) := by omega
          have b2' : ¬ (r.accounts.length : Int) ≤ (kb : Int) := by omega
          have o2' : ¬ (r.accounts.length : Int) ≤ (ko : Int) := by omega
          obtain ⟨hm, hlen, hrows⟩ := right_parts HRT.out
          have HGO := Lib.hid (fun W hg => HGD.out kp W hg hm hp)
          have HCC := Lib.hid (fun W hg => HCD.out W hg HRT.out)
          have HAI := Lib.hid (act_in (rule := rR) HRT.out hp hb ho)
          have HOF := Lib.hid (fun k hk hl h2 => @officer r R kp kb k HRT.out hp hb hk hl h2)
          have hgi := guildOf_is hm hp
          clear p1 p2 p3 b1 b2 b3 o1 o2 o3
          rcases hgi with hg1 | ⟨kg, hkG, hgk, hlk⟩
          · rw [hg1] at HGO
            have hr17 := HRES.out.trans (HAI.out.1 hg1)
            clear hg1 hm hlen hrows
            go_wp2_with fail
            with_reducible refine (HGO.out _ G1.out).mono ?_
            rintro e w2 ⟨rfl, hg⟩
            have G2 := Lib.hid (G1.out.trans hg)
            have R2 := Lib.hid (keepB R1.out hg)
            clear hg r0 r1 r2 r3 r4 r5 r6 r7 r8
            obtain ⟨r0, r1, r2, r3, r4, r5, r6, r7, r8⟩ := re_cells R2.out
            have hres : res = ([], 17) := hr17
            clear HRES
            go_wp2
            go_returns
            exact ⟨.slice none 0 0, by rw [hres]; try rfl, by rw [hres]; exact RK.nil _, G2.out⟩
          · rw [hgk] at HGO
            have HIN := HAI.out.2 kg hkG hgk
            have hkR : kg < R.length := by rw [hlen]; exact hkG
            have hrl := (hrows kg hkR).1
            have hbl : kb < (rk R kg).length := by rw [hrl]; exact hb
            have hol : ko < (rk R kg).length := by rw [hrl]; exact ho
            obtain ⟨i0, i1⟩ := rank_in HRT.out hkR hbl
            obtain ⟨j0, j1⟩ := rank_in HRT.out hkR hol
            have HOK := Lib.hid (HOF.out kg hkG hlk)
            have HSW := Lib.hid (fun n => set_with R kg ko n hkR hol)
            have hg0 : ¬ (kg : Int) < 0 := by omega
            have hk1 : (kg : Int) < (R.length : Int) := DH.p3 hkR
            have hk2 : (kb : Int) < ((rk R kg).length : Int) := DH.p3 hbl
            have hk3 : (ko : Int) < ((rk R kg).length : Int) := DH.p3 hol
            have hk4 : (kg : Int) < (r.guilds.length : Int) := DH.p3 hkG
            obtain ⟨ad, c2, A', c', e, hcl, hrow⟩ := HRK.out.at hkR
            injection e with e1 _ e3
            subst e1 e3
            obtain ⟨adr, rfl, hcb⟩ := Is.at' hrow (k := kb) hbl
            obtain ⟨adr2, e2, hco⟩ := Is.at' hrow (k := ko) hol
            cases e2
            obtain ⟨ad3, c4, e, hc3, f0, f1⟩ := Gs_at HL3.out (gu_get (k := kg) hkG)
            injection e with e1 _ e3
            subst e1 e3
            have C0 := Lib.hid hcl
            have CB := Lib.hid hcb
            have CO := Lib.hid hco
            have F1 := Lib.hid f1
            have HJ0 := Lib.hid j0
            have HJ1 := Lib.hid j1
            clear hm hlen hrows hkG hgk hlk hkR hrl hbl hol hcl hrow hcb hco f0 f1 hp hb ho j0 j1
            obtain ⟨cb', hcb'⟩ : ∃ cb', cel (rk R kg) kb = cb' := ⟨_, rfl⟩
            obtain ⟨co', hco'⟩ : ∃ co', cel (rk R kg) ko = co' := ⟨_, rfl⟩
            obtain ⟨bc, hbc⟩ : ∃ bc, clearedH r R (kb : Int) (kp : Int) = bc := ⟨_, rfl⟩
            obtain ⟨fo, hfo⟩ : ∃ fo, (gu r kg).founder = fo := ⟨_, rfl⟩
            rw [hcb'] at CB HOK HIN i0 i1
            rw [hco'] at CO HIN HJ0 HJ1
            rw [hbc] at HCC HOK
            rw [hfo] at F1
            have HFO := Lib.hid hfo
            clear hcb' hco' hbc hfo HGD HCD HAI HOF
            go_wp2_with fail
            with_reducible refine (HGO.out _ G1.out).mono ?_
            rintro e w2 ⟨rfl, hg⟩
            have G2 := Lib.hid (G1.out.trans hg)
            have R2 := Lib.hid (keepB R1.out hg)
            clear hg r0 r1 r2 r3 r4 r5 r6 r7 r8
            obtain ⟨r0, r1, r2, r3, r4, r5, r6, r7, r8⟩ := re_cells R2.out
            go_wp2_with fail
            with_reducible refine (HCC.out _ G2.out).mono ?_
            rintro e w3 ⟨rfl, hg⟩
            have G3 := Lib.hid (G2.out.trans hg)
            have R3 := Lib.hid (keepB R2.out hg)
            clear hg r0 r1 r2 r3 r4 r5 r6 r7 r8
            obtain ⟨r0, r1, r2, r3, r4, r5, r6, r7, r8⟩ := re_cells R3.out
            have c0 := cellB G3.out C0.out
            have cb3 := cellB G3.out CB.out
            by_cases h2 : cb' = 2
            · have hbc : bc = true := HOK.out h2
              subst hbc
              have HIN2 := HIN.2 h2
              have hlt : ¬ cb' < 2 := by omega
              clear HIN h2 i0 i1
              have co3 := cellB G3.out CO.out
              have f3 := cellB G3.out F1.out
              by_cases n0 : co' = 0
              · have hp0 : (co' == 0) = true := by simpa using n0
                have hp2 : (co' == 2) = false := by simp; omega
                have hres : res = ([], 3) := HRES.out.trans (HIN2.trans (by unfold rR ruleR; rw [if_pos n0]; rfl))
                clear HIN2 n0
                clear HRES
                go_wp2
                go_returns
                exact ⟨.slice none 0 0, by rw [hres]; try rfl, by rw [hres]; exact RK.nil _, G3.out⟩
              · by_cases n2 : co' = 2
                · have hp2 : (co' == 2) = true := by simpa using n2
                  have hres : res = ([], 4) := HRES.out.trans (HIN2.trans (by unfold rR ruleR; rw [if_neg n0, if_pos n2]; rfl))
                  clear HIN2 n0 n2
                  clear HRES
                  go_wp2
                  go_returns
                  exact ⟨.slice none 0 0, by rw [hres]; try rfl, by rw [hres]; exact RK.nil _, G3.out⟩
                · have hp0 : (co' == 0) = false := by simpa using n0
                  have hp2 : (co' == 2) = false := by simpa using n2
                  have hres : res = (withR R kg ko 2, 0) := HRES.out.trans (HIN2.trans (by unfold rR ruleR; rw [if_neg n0, if_neg n2]; rfl))
                  have HST := Lib.hid (fun W hg => set_any W _ R (kg : Int) (ko : Int) 2 (HRK.out.grew (w' := W) hg) (rows_fine HRT.out).2 (small_row HRT.out))
                  rw [HSW.out] at HST
                  clear HIN2 HRES n0 n2
                  go_wp2_with fail
                  with_reducible refine (HST.out _ G3.out).mono ?_
                  rintro e w4 ⟨v4', rfl, hrk, hg⟩
                  obtain ⟨A8, c8, rfl, _⟩ := id hrk
                  have H8 := Lib.hid hrk
                  have G4 := Lib.hid (G3.out.trans hg)
                  clear hrk hg r0 r1 r2 r3 r4 r5 r6 r7 r8
                  go_wp2
                  go_returns
                  exact ⟨_, by rw [hres]; try rfl, by rw [hres]; exact H8.out, G4.out⟩
            · have hres := HRES.out.trans (HIN.1 h2)
              have hlt : cb' < 2 := by omega
              clear HIN h2 i0 i1
              cases bc
              · clear HRES
                go_wp2
                go_returns
                exact ⟨.slice none 0 0, by rw [hres]; try rfl, by rw [hres]; exact RK.nil _, G3.out⟩
              · clear HRES
                go_wp2
                go_returns
                exact ⟨.slice none 0 0, by rw [hres]; try rfl, by rw [hres]; exact RK.nil _, G3.out⟩
        · have o1' : who < 0 := by omega
          have b1' : ¬ by' < 0 := by omega
          have b2' : ¬ (r.accounts.length : Int) ≤ by' := by omega
          have p1' : ¬ place < 0 := by omega
          have p2' : ¬ (r.labels.length : Int) ≤ place := by omega
          have HO3 := Lib.hid o3
          clear p1 p2 p3 b1 b2 b3 o1 o3
          have hres : res = ([], 1) := HRES.out.trans (act_out (.inr (.inr (.inr HO3.out))))
          clear HRES
          go_wp2
          go_returns
          exact ⟨.slice none 0 0, by rw [hres]; try rfl, by rw [hres]; exact RK.nil _, G1.out⟩
        · have o1' : ¬ who < 0 := by omega
          have o2' : (r.accounts.length : Int) ≤ who := by omega
          have b1' : ¬ by' < 0 := by omega
          have b2' : ¬ (r.accounts.length : Int) ≤ by' := by omega
          have p1' : ¬ place < 0 := by omega
          have p2' : ¬ (r.labels.length : Int) ≤ place := by omega
          have HO3 := Lib.hid o3
          clear p1 p2 p3 b1 b2 b3 o1 o2 o3
          have hres : res = ([], 1) := HRES.out.trans (act_out (.inr (.inr (.inr HO3.out))))
          clear HRES
          go_wp2
          go_returns
          exact ⟨.slice none 0 0, by rw [hres]; try rfl, by rw [hres]; exact RK.nil _, G1.out⟩
      · have b1' : by' < 0 := by omega
        have p1' : ¬ place < 0 := by omega
        have p2' : ¬ (r.labels.length : Int) ≤ place := by omega
        have HO3 := Lib.hid b3
        clear p1 p2 p3 b1 b3
        have hres : res = ([], 1) := HRES.out.trans (act_out (.inr (.inr (.inl HO3.out))))
        clear HRES
        go_wp2
        go_returns
        exact ⟨.slice none 0 0, by rw [hres]; try rfl, by rw [hres]; exact RK.nil _, G1.out⟩
      · have b1' : ¬ by' < 0 := by omega
        have b2' : (r.accounts.length : Int) ≤ by' := by omega
        have p1' : ¬ place < 0 := by omega
        have p2' : ¬ (r.labels.length : Int) ≤ place := by omega
        have HO3 := Lib.hid b3
        clear p1 p2 p3 b1 b2 b3
        have hres : res = ([], 1) := HRES.out.trans (act_out (.inr (.inr (.inl HO3.out))))
        clear HRES
        go_wp2
        go_returns
        exact ⟨.slice none 0 0, by rw [hres]; try rfl, by rw [hres]; exact RK.nil _, G1.out⟩
    · have p1' : place < 0 := by omega
      have HO3 := Lib.hid p3
      clear p1 p3
      have hres : res = ([], 1) := HRES.out.trans (act_out (.inr (.inl HO3.out)))
      clear HRES
      go_wp2
      go_returns
      exact ⟨.slice none 0 0, by rw [hres]; try rfl, by rw [hres]; exact RK.nil _, G1.out⟩
    · have p1' : ¬ place < 0 := by omega
      have p2' : (r.labels.length : Int) ≤ place := by omega
      have HO3 := Lib.hid p3
      clear p1 p2 p3
      have hres : res = ([], 1) := HRES.out.trans (act_out (.inr (.inl HO3.out)))
      clear HRES
      go_wp2
      go_returns
      exact ⟨.slice none 0 0, by rw [hres]; try rfl, by rw [hres]; exact RK.nil _, G1.out⟩

set_option maxHeartbeats 8000000 in
theorem ract3 (v vr : Value) (r : Re) (R : List (List Int)) (place by' who : Int) (w : World) (h : ReIs w v r) (hs : Sized r) (hR : RK w vr R) :
    Calls Tryz.prog 46 #[v, vr, .int .i64 3, .int .i64 place, .int .i64 by', .int .i64 who] w fun e w' => ∃ v', e = .returned (.tuple #[v', .int .i64 (actR r R place by' who (rE r who)).2]) ∧ RK w' v' (actR r R place by' who (rE r who)).1 ∧ Grew w w' := by
  have HRR := Lib.hid (fun W hg => DH.rhright_any v vr r R W (h.grew (w' := W) hg) hs (hR.grew hg))
  have HGD := Lib.hid (fun (p : Nat) W hg hm hp => DO.rguildOf_any v r p W (h.grew (w' := W) hg) hm hp)
  have HCD := Lib.hid (fun W hg hr => DC.rcleared_any v vr r R by' place W (h.grew (w' := W) hg) (hR.grew hg) hr)
  obtain ⟨v0, v1, v2, v3, v4, rfl, h0, h1, h2, h3, h4⟩ := h
  have HRK := Lib.hid hR
  have HL3 := Lib.hid h3
  obtain ⟨A0', cp0, rfl, _⟩ := h0.slice
  obtain ⟨A1', cp1, rfl, _⟩ := id h1
  obtain ⟨A2', cp2, rfl, _⟩ := h2.slice
  obtain ⟨A3', cp3, rfl, _⟩ := h3.slice
  obtain ⟨A4', cp4, rfl, _⟩ := h4.slice
  obtain ⟨B, cb, rfl, _⟩ := id hR
  clear h0 h1 h2 h3 h4 hs hR
  have G0 : Hid (Grew w (w.alloc (Obj.cells #[.slice A0' r.labels.length cp0, .slice A1' r.lines.length cp1, .slice A2' r.accounts.length cp2, .slice A3' r.guilds.length cp3, .slice A4' r.quotas.length cp4, .int .i64 r.orders, .int .i64 r.audits, .int .i64 r.rate, .int .i64 r.rounds] 28))) := Lib.hid (by unfold Grew; go_grown)
  have R0 : Hid ((w.alloc (Obj.cells #[.slice A0' r.labels.length cp0, .slice A1' r.lines.length cp1, .slice A2' r.accounts.length cp2, .slice A3' r.guilds.length cp3, .slice A4' r.quotas.length cp4, .int .i64 r.orders, .int .i64 r.audits, .int .i64 r.rate, .int .i64 r.rounds] 28)).heap[w.heap.size]? = some (rcell (.slice A0' r.labels.length cp0) (.slice A1' r.lines.length cp1) (.slice A2' r.accounts.length cp2) (.slice A3' r.guilds.length cp3) (.slice A4' r.quotas.length cp4) r.orders r.audits r.rate r.rounds)) := Lib.hid (heap_alloc_new w _)
  obtain ⟨res, hres0⟩ : ∃ res, res = actR r R place by' who (rE r who) := ⟨_, rfl⟩
  rw [← hres0]
  have HRES := Lib.hid hres0
  clear hres0
  obtain ⟨bR, hbR⟩ : ∃ bR, rightH r R = bR := ⟨_, rfl⟩
  rw [hbR] at HRR
  have HRT0 := Lib.hid hbR
  clear hbR
  obtain ⟨r0, r1, r2, r3, r4, r5, r6, r7, r8⟩ := re_cells R0.out
  go_enter Tryz.func46, Tryz.ntmps46
  go_wp2_with fail
  with_reducible refine (HRR.out _ G0.out).mono ?_
  rintro e w1 ⟨rfl, hg⟩
  have G1 := Lib.hid (G0.out.trans hg)
  have R1 := Lib.hid (keepB R0.out hg)
  clear hg r0 r1 r2 r3 r4 r5 r6 r7 r8
  obtain ⟨r0, r1, r2, r3, r4, r5, r6, r7, r8⟩ := re_cells R1.out
  cases bR with
  | false =>
    have hres : res = ([], 1) := HRES.out.trans (act_out (.inl HRT0.out))
    clear HRES
    go_wp2
    go_returns
    exact ⟨.slice none 0 0, by rw [hres]; try rfl, by rw [hres]; exact RK.nil _, G1.out⟩
  | true =>
    have HRT : Hid (rightH r R = true) := Lib.hid HRT0.out
    rcases inn_cases r.labels.length place with ⟨p1, p2, p3⟩ | ⟨p1, p3⟩ | ⟨p1, p2, p3⟩
    · rcases inn_cases r.accounts.length by' with ⟨b1, b2, b3⟩ | ⟨b1, b3⟩ | ⟨b1, b2, b3⟩
      · rcases inn_cases r.accounts.length who with ⟨o1, o2, o3⟩ | ⟨o1, o3⟩ | ⟨o1, o2, o3⟩
        · obtain ⟨kp, rfl⟩ := Int.eq_ofNat_of_zero_le p1
          obtain ⟨kb, rfl⟩ := Int.eq_ofNat_of_zero_le b1
          obtain ⟨ko, rfl⟩ := Int.eq_ofNat_of_zero_le o1
          have hp : kp < r.labels.length := Int.ofNat_lt.1 p2
          have hb : kb < r.accounts.length := Int.ofNat_lt.1 b2
          have ho : ko < r.accounts.length := Int.ofNat_lt.1 o2
          have p1' : ¬ (kp : Int) < 0 := by omega
          have b1' : ¬ (kb : Int) < 0 := by omega
          have o1' : ¬ (ko : Int) < 0 := by omega
          have p2' : ¬ (r.labels.length : Int) ≤ (kp : Int) := by omega
          have b2' : ¬ (r.accounts.length : Int) ≤ (kb : Int) := by omega
          have o2' : ¬ (r.accounts.length : Int) ≤ (ko : Int) := by omega
          obtain ⟨hm, hlen, hrows⟩ := right_parts HRT.out
          have HGO := Lib.hid (fun W hg => HGD.out kp W hg hm hp)
          have HCC := Lib.hid (fun W hg => HCD.out W hg HRT.out)
          have HAI := Lib.hid (act_in (rule := (rE r (ko : Int))) HRT.out hp hb ho)
          have HOF := Lib.hid (fun k hk hl h2 => @officer r R kp kb k HRT.out hp hb hk hl h2)
          have hgi := guildOf_is hm hp
          clear p1 p2 p3 b1 b2 b3 o1 o2 o3
          rcases hgi with hg1 | ⟨kg, hkG, hgk, hlk⟩
          · rw [hg1] at HGO
            have hr17 := HRES.out.trans (HAI.out.1 hg1)
            clear hg1 hm hlen hrows
            go_wp2_with fail
            with_reducible refine (HGO.out _ G1.out).mono ?_
            rintro e w2 ⟨rfl, hg⟩
            have G2 := Lib.hid (G1.out.trans hg)
            have R2 := Lib.hid (keepB R1.out hg)
            clear hg r0 r1 r2 r3 r4 r5 r6 r7 r8
            obtain ⟨r0, r1, r2, r3, r4, r5, r6, r7, r8⟩ := re_cells R2.out
            have hres : res = ([], 17) := hr17
            clear HRES
            go_wp2
            go_returns
            exact ⟨.slice none 0 0, by rw [hres]; try rfl, by rw [hres]; exact RK.nil _, G2.out⟩
          · rw [hgk] at HGO
            have HIN := HAI.out.2 kg hkG hgk
            have hkR : kg < R.length := by rw [hlen]; exact hkG
            have hrl := (hrows kg hkR).1
            have hbl : kb < (rk R kg).length := by rw [hrl]; exact hb
            have hol : ko < (rk R kg).length := by rw [hrl]; exact ho
            obtain ⟨i0, i1⟩ := rank_in HRT.out hkR hbl
            obtain ⟨j0, j1⟩ := rank_in HRT.out hkR hol
            have HOK := Lib.hid (HOF.out kg hkG hlk)
            have HSW := Lib.hid (fun n => set_with R kg ko n hkR hol)
            have hg0 : ¬ (kg : Int) < 0 := by omega
            have hk1 : (kg : Int) < (R.length : Int) := DH.p3 hkR
            have hk2 : (kb : Int) < ((rk R kg).length : Int) := DH.p3 hbl
            have hk3 : (ko : Int) < ((rk R kg).length : Int) := DH.p3 hol
            have hk4 : (kg : Int) < (r.guilds.length : Int) := DH.p3 hkG
            obtain ⟨ad, c2, A', c', e, hcl, hrow⟩ := HRK.out.at hkR
            injection e with e1 _ e3
            subst e1 e3
            obtain ⟨adr, rfl, hcb⟩ := Is.at' hrow (k := kb) hbl
            obtain ⟨adr2, e2, hco⟩ := Is.at' hrow (k := ko) hol
            cases e2
            obtain ⟨ad3, c4, e, hc3, f0, f1⟩ := Gs_at HL3.out (gu_get (k := kg) hkG)
            injection e with e1 _ e3
            subst e1 e3
            have C0 := Lib.hid hcl
            have CB := Lib.hid hcb
            have CO := Lib.hid hco
            have F1 := Lib.hid f1
            have HJ0 := Lib.hid j0
            have HJ1 := Lib.hid j1
            clear hm hlen hrows hkG hgk hlk hkR hrl hbl hol hcl hrow hcb hco f0 f1 hp hb ho j0 j1
            obtain ⟨cb', hcb'⟩ : ∃ cb', cel (rk R kg) kb = cb' := ⟨_, rfl⟩
            obtain ⟨co', hco'⟩ : ∃ co', cel (rk R kg) ko = co' := ⟨_, rfl⟩
            obtain ⟨bc, hbc⟩ : ∃ bc, clearedH r R (kb : Int) (kp : Int) = bc := ⟨_, rfl⟩
            obtain ⟨fo, hfo⟩ : ∃ fo, (gu r kg).founder = fo := ⟨_, rfl⟩
            rw [hcb'] at CB HOK HIN i0 i1
            rw [hco'] at CO HIN HJ0 HJ1
            rw [hbc] at HCC HOK
            rw [hfo] at F1
            have HFO := Lib.hid hfo
            clear hcb' hco' hbc hfo HGD HCD HAI HOF
            go_wp2_with fail
            with_reducible refine (HGO.out _ G1.out).mono ?_
            rintro e w2 ⟨rfl, hg⟩
            have G2 := Lib.hid (G1.out.trans hg)
            have R2 := Lib.hid (keepB R1.out hg)
            clear hg r0 r1 r2 r3 r4 r5 r6 r7 r8
            obtain ⟨r0, r1, r2, r3, r4, r5, r6, r7, r8⟩ := re_cells R2.out
            go_wp2_with fail
            with_reducible refine (HCC.out _ G2.out).mono ?_
            rintro e w3 ⟨rfl, hg⟩
            have G3 := Lib.hid (G2.out.trans hg)
            have R3 := Lib.hid (keepB R2.out hg)
            clear hg r0 r1 r2 r3 r4 r5 r6 r7 r8
            obtain ⟨r0, r1, r2, r3, r4, r5, r6, r7, r8⟩ := re_cells R3.out
            have c0 := cellB G3.out C0.out
            have cb3 := cellB G3.out CB.out
            by_cases h2 : cb' = 2
            · have hbc : bc = true := HOK.out h2
              subst hbc
              have HIN2 := HIN.2 h2
              have hlt : ¬ cb' < 2 := by omega
              clear HIN h2 i0 i1
              have co3 := cellB G3.out CO.out
              have f3 := cellB G3.out F1.out
              by_cases n0 : co' = 0
              · have hp0 : (co' == 0) = true := by simpa using n0
                have hres : res = ([], 3) := HRES.out.trans (HIN2.trans (by unfold rE ruleE; rw [if_pos n0]; rfl))
                clear HIN2 n0
                clear HRES
                go_wp2
                go_returns
                exact ⟨.slice none 0 0, by rw [hres]; try rfl, by rw [hres]; exact RK.nil _, G3.out⟩
              · by_cases n2 : (ko : Int) = fo
                · have hp0 : (co' == 0) = false := by simpa using n0
                  have hp2 : (fo == (ko : Int)) = true := by simpa using n2.symm
                  have hres : res = ([], 5) := HRES.out.trans (HIN2.trans (by unfold rE ruleE; rw [if_neg n0, HFO.out, if_pos n2]; rfl))
                  clear HIN2 n0 n2
                  clear HRES
                  go_wp2
                  go_returns
                  exact ⟨.slice none 0 0, by rw [hres]; try rfl, by rw [hres]; exact RK.nil _, G3.out⟩
                · have hp0 : (co' == 0) = false := by simpa using n0
                  have hp2 : (fo == (ko : Int)) = false := by simpa using (fun e => n2 e.symm)
                  have hres : res = (withR R kg ko 0, 0) := HRES.out.trans (HIN2.trans (by unfold rE ruleE; rw [if_neg n0, HFO.out, if_neg n2]; rfl))
                  have HST := Lib.hid (fun W hg => set_any W _ R (kg : Int) (ko : Int) 0 (HRK.out.grew (w' := W) hg) (rows_fine HRT.out).2 (small_row HRT.out))
                  rw [HSW.out] at HST
                  clear HIN2 HRES n0 n2
                  go_wp2_with fail
                  with_reducible refine (HST.out _ G3.out).mono ?_
                  rintro e w4 ⟨v4', rfl, hrk, hg⟩
                  obtain ⟨A8, c8, rfl, _⟩ := id hrk
                  have H8 := Lib.hid hrk
                  have G4 := Lib.hid (G3.out.trans hg)
                  clear hrk hg r0 r1 r2 r3 r4 r5 r6 r7 r8
                  go_wp2
                  go_returns
                  exact ⟨_, by rw [hres]; try rfl, by rw [hres]; exact H8.out, G4.out⟩
            · have hres := HRES.out.trans (HIN.1 h2)
              have hlt : cb' < 2 := by omega
              clear HIN h2 i0 i1
              cases bc
              · clear HRES
                go_wp2
                go_returns
                exact ⟨.slice none 0 0, by rw [hres]; try rfl, by rw [hres]; exact RK.nil _, G3.out⟩
              · clear HRES
                go_wp2
                go_returns
                exact ⟨.slice none 0 0, by rw [hres]; try rfl, by rw [hres]; exact RK.nil _, G3.out⟩
        · have o1' : who < 0 := by omega
          have b1' : ¬ by' < 0 := by omega
          have b2' : ¬ (r.accounts.length : Int) ≤ by' := by omega
          have p1' : ¬ place < 0 := by omega
          have p2' : ¬ (r.labels.length : Int) ≤ place := by omega
          have HO3 := Lib.hid o3
          clear p1 p2 p3 b1 b2 b3 o1 o3
          have hres : res = ([], 1) := HRES.out.trans (act_out (.inr (.inr (.inr HO3.out))))
          clear HRES
          go_wp2
          go_returns
          exact ⟨.slice none 0 0, by rw [hres]; try rfl, by rw [hres]; exact RK.nil _, G1.out⟩
        · have o1' : ¬ who < 0 := by omega
          have o2' : (r.accounts.length : Int) ≤ who := by omega
          have b1' : ¬ by' < 0 := by omega
          have b2' : ¬ (r.accounts.length : Int) ≤ by' := by omega
          have p1' : ¬ place < 0 := by omega
          have p2' : ¬ (r.labels.length : Int) ≤ place := by omega
          have HO3 := Lib.hid o3
          clear p1 p2 p3 b1 b2 b3 o1 o2 o3
          have hres : res = ([], 1) := HRES.out.trans (act_out (.inr (.inr (.inr HO3.out))))
          clear HRES
          go_wp2
          go_returns
          exact ⟨.slice none 0 0, by rw [hres]; try rfl, by rw [hres]; exact RK.nil _, G1.out⟩
      · have b1' : by' < 0 := by omega
        have p1' : ¬ place < 0 := by omega
        have p2' : ¬ (r.labels.length : Int) ≤ place := by omega
        have HO3 := Lib.hid b3
        clear p1 p2 p3 b1 b3
        have hres : res = ([], 1) := HRES.out.trans (act_out (.inr (.inr (.inl HO3.out))))
        clear HRES
        go_wp2
        go_returns
        exact ⟨.slice none 0 0, by rw [hres]; try rfl, by rw [hres]; exact RK.nil _, G1.out⟩
      · have b1' : ¬ by' < 0 := by omega
        have b2' : (r.accounts.length : Int) ≤ by' := by omega
        have p1' : ¬ place < 0 := by omega
        have p2' : ¬ (r.labels.length : Int) ≤ place := by omega
        have HO3 := Lib.hid b3
        clear p1 p2 p3 b1 b2 b3
        have hres : res = ([], 1) := HRES.out.trans (act_out (.inr (.inr (.inl HO3.out))))
        clear HRES
        go_wp2
        go_returns
        exact ⟨.slice none 0 0, by rw [hres]; try rfl, by rw [hres]; exact RK.nil _, G1.out⟩
    · have p1' : place < 0 := by omega
      have HO3 := Lib.hid p3
      clear p1 p3
      have hres : res = ([], 1) := HRES.out.trans (act_out (.inr (.inl HO3.out)))
      clear HRES
      go_wp2
      go_returns
      exact ⟨.slice none 0 0, by rw [hres]; try rfl, by rw [hres]; exact RK.nil _, G1.out⟩
    · have p1' : ¬ place < 0 := by omega
      have p2' : (r.labels.length : Int) ≤ place := by omega
      have HO3 := Lib.hid p3
      clear p1 p2 p3
      have hres : res = ([], 1) := HRES.out.trans (act_out (.inr (.inl HO3.out)))
      clear HRES
      go_wp2
      go_returns
      exact ⟨.slice none 0 0, by rw [hres]; try rfl, by rw [hres]; exact RK.nil _, G1.out⟩
end Go.Proofs.YtmegdgeiikhflaaGreat.DK2
