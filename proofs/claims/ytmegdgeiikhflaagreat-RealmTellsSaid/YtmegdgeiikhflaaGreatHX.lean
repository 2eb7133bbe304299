/-
  What is done in a hall, as the program does it.
  Conditions: the accounts' texts' sizes.
-/
import Derived.Test.YtmegdgeiikhflaaGreatHW
namespace Go.Proofs.YtmegdgeiikhflaaGreat.HX
open Go Go.RowKit Go.Lib Go.Proofs.YtmegdgeiikhflaaGreat Go.Proofs.YtmegdgeiikhflaaGreat.Facts Go.Proofs.YtmegdgeiikhflaaGreat.Plain Go.Proofs.YtmegdgeiikhflaaGreat.Ints Go.Proofs.YtmegdgeiikhflaaGreat.RRows Go.Proofs.YtmegdgeiikhflaaGreat.LBox Go.Proofs.YtmegdgeiikhflaaGreat.RSmall Go.Proofs.YtmegdgeiikhflaaGreat.RFind Go.Proofs.YtmegdgeiikhflaaGreat.RAll Go.Proofs.YtmegdgeiikhflaaGreat.RRules Go.Proofs.YtmegdgeiikhflaaGreat.RRule3 Go.Proofs.YtmegdgeiikhflaaGreat.RRight Go.Proofs.YtmegdgeiikhflaaGreat.HA Go.Proofs.YtmegdgeiikhflaaGreat.HB Go.Proofs.YtmegdgeiikhflaaGreat.HG Go.Proofs.YtmegdgeiikhflaaGreat.HC Go.Proofs.YtmegdgeiikhflaaGreat.HD Go.Proofs.YtmegdgeiikhflaaGreat.HN Go.Proofs.YtmegdgeiikhflaaGreat.HW

def ruleI (rank : Int) : Int × Int := if rank = 0 then (1, 0) else (0, 4)
def ruleR (rank : Int) : Int × Int := if rank = 0 then (0, 3) else if rank = 2 then (0, 4) else (2, 0)
def ruleE (f who rank : Int) : Int × Int := if rank = 0 then (0, 3) else if who = f then (0, 5) else (0, 0)
def rI (_ : Nat) (n : Int) : Int × Int := ruleI n
def rR (_ : Nat) (n : Int) : Int × Int := ruleR n
def rE (r : Re) (who : Int) (g : Nat) (n : Int) : Int × Int := ruleE (gu r g).founder who n
def actR (r : Re) (R : List (List Int)) (place by' who : Int) (rule : Nat → Int → Int × Int) : List (List Int) × Int :=
  if rightH r R = true then (if inn r.labels.length place = true then (if inn r.accounts.length by' = true then (if inn r.accounts.length who = true then
    (if inn r.guilds.length (guildOf r place) = true then
      (if cel (rk R (guildOf r place).toNat) by'.toNat = 2 then
        (if (rule (guildOf r place).toNat (cel (rk R (guildOf r place).toNat) who.toNat)).2 = 0 then (withR R (guildOf r place).toNat who.toNat (rule (guildOf r place).toNat (cel (rk R (guildOf r place).toNat) who.toNat)).1, 0)
         else ([], (rule (guildOf r place).toNat (cel (rk R (guildOf r place).toNat) who.toNat)).2))
       else ([], 5))
     else ([], 17))
   else ([], 1)) else ([], 1)) else ([], 1)) else ([], 1)
theorem rows_fine {r : Re} {R : List (List Int)} (h : rightH r R = true) : (∀ row ∈ R, row ≠ [] ∧ row.length ≤ 100) ∧ R.length ≤ 100 := by
  obtain ⟨h1, h2, h3⟩ := right_parts h
  obtain ⟨s1, s2, s3⟩ := sizes h1
  have ha : 1 ≤ r.accounts.length := by
    have := (may_parts h1).1
    unfold rule3 wit at this
    simp only [Bool.and_eq_true, decide_eq_true_eq] at this
    omega
  refine ⟨fun row hr => ?_, by omega⟩
  obtain ⟨k, hk⟩ := List.getElem?_of_mem hr
  have hkl := (List.getElem?_eq_some_iff.1 hk).1
  have h4 := (h3 k hkl).1
  rw [rk_get hkl] at hk
  cases hk
  refine ⟨fun e => ?_, by omega⟩
  rw [e] at h4
  simp at h4
  omega

set_option maxRecDepth 100000 in
set_option maxHeartbeats 4000000 in
theorem actI_any (v vr : Value) (r : Re) (R : List (List Int)) (place by' who : Int) (w : World) (h : ReIs w v r) (hs : Sized r) (hR : RK w vr R)
    (hrule : ∀ (g : Nat) (n : Int), g < r.guilds.length → ∀ W, Grew w W → Calls Tryz.prog 103 #[.int .i64 (g : Int), .int .i64 n] W fun e w' => e = .returned (.tuple #[.int .i64 (rI g n).1, .int .i64 (rI g n).2]) ∧ Grew W w') :
    Calls Tryz.prog 102 #[v, vr, .int .i64 place, .int .i64 by', .int .i64 who, .func (.func 103) #[] #[]] w fun e w' => ∃ v', e = .returned (.tuple #[v', .int .i64 (actR r R place by' who rI).2]) ∧ RK w' v' (actR r R place by' who rI).1 ∧ Grew w w' := by
  have HRI := Lib.hid (fun W hg => hright_any v vr r R W (h.grew (w' := W) hg) hs (hR.grew hg))
  have HGU := Lib.hid (fun W hg => guildOf_any v r place W (h.grew (w' := W) hg) hs)
  obtain ⟨v0, v1, v2, v3, v4, rfl, h0, h1, h2, h3, h4⟩ := h
  have HRK := Lib.hid hR
  obtain ⟨A0', cp0, rfl, _⟩ := h0.slice
  obtain ⟨A1', cp1, rfl, _⟩ := id h1
  obtain ⟨A2', cp2, rfl, _⟩ := h2.slice
  obtain ⟨A3', cp3, rfl, _⟩ := h3.slice
  obtain ⟨A4', cp4, rfl, _⟩ := h4.slice
  obtain ⟨B, cb, rfl, _⟩ := id hR
  clear h0 h1 h2 h3 h4 hs hR
  have HL1 := Lib.hid (fun W => hasHL_any A0' r.labels.length cp0 place W)
  have HB1 := Lib.hid (fun W => hasHA_any A2' r.accounts.length cp2 by' W)
  have HW1 := Lib.hid (fun W => hasHA_any A2' r.accounts.length cp2 who W)
  have HG1 := Lib.hid (fun W => hasHG_any A3' r.guilds.length cp3 (guildOf r place) W)
  have HP := Lib.hid (@right_parts r R)
  have HFN := Lib.hid (@rows_fine r R)
  have HBI := Lib.hid (@inn_iff r.accounts.length by')
  have HWI := Lib.hid (@inn_iff r.accounts.length who)
  have HGI := Lib.hid (@inn_iff r.guilds.length (guildOf r place))
  have G0 : Hid (Grew w (w.alloc (Obj.cells #[.slice A0' r.labels.length cp0, .slice A1' r.lines.length cp1, .slice A2' r.accounts.length cp2, .slice A3' r.guilds.length cp3, .slice A4' r.quotas.length cp4, .int .i64 r.orders, .int .i64 r.audits, .int .i64 r.rate, .int .i64 r.rounds] 28))) := Lib.hid (by unfold Grew; go_grown)
  have R0 : Hid ((w.alloc (Obj.cells #[.slice A0' r.labels.length cp0, .slice A1' r.lines.length cp1, .slice A2' r.accounts.length cp2, .slice A3' r.guilds.length cp3, .slice A4' r.quotas.length cp4, .int .i64 r.orders, .int .i64 r.audits, .int .i64 r.rate, .int .i64 r.rounds] 28)).heap[w.heap.size]? = some (rcell (.slice A0' r.labels.length cp0) (.slice A1' r.lines.length cp1) (.slice A2' r.accounts.length cp2) (.slice A3' r.guilds.length cp3) (.slice A4' r.quotas.length cp4) r.orders r.audits r.rate r.rounds)) := Lib.hid (heap_alloc_new w _)
  obtain ⟨res, hres0⟩ : ∃ res, res = actR r R place by' who rI := ⟨_, rfl⟩
  rw [← hres0]
  unfold actR at hres0
  have HRES := Lib.hid hres0
  clear hres0
  generalize rightH r R = b at *
  generalize inn r.labels.length place = bp at *
  generalize inn r.accounts.length by' = bb at *
  generalize inn r.accounts.length who = bw at *
  generalize inn r.guilds.length (guildOf r place) = bg at *
  generalize guildOf r place = gv at *
  obtain ⟨r0, r1, r2, r3, r4, r5, r6, r7, r8⟩ := re_cells R0.out
  go_enter Tryz.func102, Tryz.ntmps102
  go_wp2_with fail
  with_reducible refine (HRI.out _ G0.out).mono ?_
  rintro e w1 ⟨rfl, hg⟩
  have G1 := Lib.hid (G0.out.trans hg)
  have R1 := Lib.hid (keepB R0.out hg)
  clear hg r0 r1 r2 r3 r4 r5 r6 r7 r8
  cases b with
  | false =>
    have hres : res = ([], 1) := HRES.out.trans (by simp)
    go_wp2
    go_returns
    exact ⟨.slice none 0 0, by rw [hres]; try rfl, by rw [hres]; exact RK.nil _, G1.out⟩
  | true =>
    obtain ⟨hmb, hlen, hrows⟩ := HP.out (by first | rfl | trivial)
    obtain ⟨hne, hl100⟩ := HFN.out (by first | rfl | trivial)
    have HLEN := Lib.hid hlen
    have HROWS := Lib.hid hrows
    have HNE := Lib.hid hne
    have HL100 := Lib.hid hl100
    clear hmb hlen hrows hne hl100
    obtain ⟨r0, r1, r2, r3, r4, r5, r6, r7, r8⟩ := re_cells R1.out
    go_wp2_with fail
    with_reducible refine (HL1.out _).mono ?_
    rintro e w2 ⟨rfl, hg⟩
    have G2 := Lib.hid (G1.out.trans hg)
    have R2 := Lib.hid (keepB R1.out hg)
    clear hg r0 r1 r2 r3 r4 r5 r6 r7 r8
    cases bp with
    | false =>
      have hres : res = ([], 1) := HRES.out.trans (by simp)
      go_wp2
      go_returns
      exact ⟨.slice none 0 0, by rw [hres]; try rfl, by rw [hres]; exact RK.nil _, G2.out⟩
    | true =>
      obtain ⟨r0, r1, r2, r3, r4, r5, r6, r7, r8⟩ := re_cells R2.out
      go_wp2_with fail
      with_reducible refine (HB1.out _).mono ?_
      rintro e w3 ⟨rfl, hg⟩
      have G3 := Lib.hid (G2.out.trans hg)
      have R3 := Lib.hid (keepB R2.out hg)
      clear hg r0 r1 r2 r3 r4 r5 r6 r7 r8
      cases bb with
      | false =>
        have hres : res = ([], 1) := HRES.out.trans (by simp)
        go_wp2
        go_returns
        exact ⟨.slice none 0 0, by rw [hres]; try rfl, by rw [hres]; exact RK.nil _, G3.out⟩
      | true =>
        obtain ⟨r0, r1, r2, r3, r4, r5, r6, r7, r8⟩ := re_cells R3.out
        go_wp2_with fail
        with_reducible refine (HW1.out _).mono ?_
        rintro e w4 ⟨rfl, hg⟩
        have G4 := Lib.hid (G3.out.trans hg)
        have R4 := Lib.hid (keepB R3.out hg)
        clear hg r0 r1 r2 r3 r4 r5 r6 r7 r8
        cases bw with
        | false =>
          have hres : res = ([], 1) := HRES.out.trans (by simp)
          go_wp2
          go_returns
          exact ⟨.slice none 0 0, by rw [hres]; try rfl, by rw [hres]; exact RK.nil _, G4.out⟩
        | true =>
          obtain ⟨r0, r1, r2, r3, r4, r5, r6, r7, r8⟩ := re_cells R4.out
          go_wp2_with fail
          with_reducible refine (HGU.out _ G4.out).mono ?_
          rintro e w5 ⟨rfl, hg⟩
          have G5 := Lib.hid (G4.out.trans hg)
          have R5 := Lib.hid (keepB R4.out hg)
          clear hg r0 r1 r2 r3 r4 r5 r6 r7 r8
          obtain ⟨r0, r1, r2, r3, r4, r5, r6, r7, r8⟩ := re_cells R5.out
          go_wp2_with fail
          with_reducible refine (HG1.out _).mono ?_
          rintro e w6 ⟨rfl, hg⟩
          have G6 := Lib.hid (G5.out.trans hg)
          have R6 := Lib.hid (keepB R5.out hg)
          clear hg r0 r1 r2 r3 r4 r5 r6 r7 r8
          cases bg with
          | false =>
            have hres : res = ([], 17) := HRES.out.trans (by simp)
            go_wp2
            go_returns
            exact ⟨.slice none 0 0, by rw [hres]; try rfl, by rw [hres]; exact RK.nil _, G6.out⟩
          | true =>
            obtain ⟨p0, p1⟩ := HGI.out (by first | rfl | trivial)
            obtain ⟨b0, b1⟩ := HBI.out (by first | rfl | trivial)
            obtain ⟨o0, o1⟩ := HWI.out (by first | rfl | trivial)
            obtain ⟨kg, rfl⟩ := Int.eq_ofNat_of_zero_le p0
            obtain ⟨kb, rfl⟩ := Int.eq_ofNat_of_zero_le b0
            obtain ⟨ko, rfl⟩ := Int.eq_ofNat_of_zero_le o0
            have hkR : kg < R.length := by have := HLEN.out; omega
            obtain ⟨ad, c2, A', c', e, hcl, hrow⟩ := (HRK.out.grew G6.out).at hkR
            injection e with e1 _ e3
            subst e1 e3
            have hrl := (HROWS.out kg hkR).1
            obtain ⟨adr, rfl, hcb⟩ := Is.at' hrow (k := kb) (by omega)
            obtain ⟨adr2, e2, hco⟩ := Is.at' hrow (k := ko) (by omega)
            cases e2
            have hk1 : (kg : Int) < (R.length : Int) := by omega
            have hk2 : (kb : Int) < ((rk R kg).length : Int) := by omega
            have hk3 : (ko : Int) < ((rk R kg).length : Int) := by omega
            have HKR := Lib.hid hkR
            have HKO : Hid (ko < (rk R kg).length) := Lib.hid (by omega)
            have HRES2 : Hid (res = if cel (rk R kg) kb = 2 then (if (rI kg (cel (rk R kg) ko)).2 = 0 then (withR R kg ko (rI kg (cel (rk R kg) ko)).1, 0) else ([], (rI kg (cel (rk R kg) ko)).2)) else ([], 5)) := Lib.hid (HRES.out.trans (by simp))
            clear HRES hrow hrl p1 b1 o1 hkR
            have HRU := Lib.hid (fun W hg => hrule kg (cel (rk R kg) ko) (by have := HLEN.out; have := HKR.out; omega) W hg)
            generalize cel (rk R kg) kb = cb' at *
            generalize cel (rk R kg) ko = co' at *
            rcases hq : rI kg co' with ⟨n0, n1⟩
            by_cases h2 : cb' = 2
            · subst h2
              have HRES3 : Hid (res = if n1 = 0 then (withR R kg ko n0, 0) else ([], n1)) := Lib.hid (HRES2.out.trans (by rw [if_pos rfl, hq]))
              rw [hq] at HRU
              clear HRES2 hq
              have HCO := Lib.hid hco
              have HCL := Lib.hid hcl
              go_wp2_with fail
              with_reducible refine (HRU.out _ G6.out).mono ?_
              rintro e w7 ⟨rfl, hg⟩
              have G7 := Lib.hid (G6.out.trans hg)
              clear hg hcl hcb hco
              by_cases h0 : n1 = 0
              · subst h0
                have hres : res = (withR R kg ko n0, 0) := HRES3.out.trans (if_pos rfl)
                have HWI2 := Lib.hid (with_any w7 _ R kg ko n0 (HRK.out.grew G7.out) HNE.out HL100.out HKR.out HKO.out)
                go_wp2_with fail
                with_reducible refine HWI2.out.mono ?_
                rintro e w8 ⟨v8, rfl, hrk, hg⟩
                have H8 := Lib.hid hrk
                have G8 := Lib.hid (G7.out.trans hg)
                obtain ⟨A8, c8, rfl, _⟩ := id hrk
                clear hrk hg
                go_wp2
                go_returns
                exact ⟨_, by rw [hres]; try rfl, by rw [hres]; exact H8.out, G8.out⟩
              · have hres : res = ([], n1) := HRES3.out.trans (if_neg h0)
                have hb0 : (n1 != 0) = true := by simpa using h0
                clear h0
                go_wp2
                go_returns
                exact ⟨.slice none 0 0, by rw [hres]; try rfl, by rw [hres]; exact RK.nil _, G7.out⟩
            · have hres : res = ([], 5) := HRES2.out.trans (if_neg h2)
              have hb2 : (cb' != 2) = true := by simpa using h2
              clear h2 hq
              go_wp2
              go_returns
              exact ⟨.slice none 0 0, by rw [hres]; try rfl, by rw [hres]; exact RK.nil _, G6.out⟩

set_option maxRecDepth 100000 in
set_option maxHeartbeats 4000000 in
theorem actR_any (v vr : Value) (r : Re) (R : List (List Int)) (place by' who : Int) (w : World) (h : ReIs w v r) (hs : Sized r) (hR : RK w vr R)
    (hrule : ∀ (g : Nat) (n : Int), g < r.guilds.length → ∀ W, Grew w W → Calls Tryz.prog 104 #[.int .i64 (g : Int), .int .i64 n] W fun e w' => e = .returned (.tuple #[.int .i64 (rR g n).1, .int .i64 (rR g n).2]) ∧ Grew W w') :
    Calls Tryz.prog 102 #[v, vr, .int .i64 place, .int .i64 by', .int .i64 who, .func (.func 104) #[] #[]] w fun e w' => ∃ v', e = .returned (.tuple #[v', .int .i64 (actR r R place by' who rR).2]) ∧ RK w' v' (actR r R place by' who rR).1 ∧ Grew w w' := by
  have HRI := Lib.hid (fun W hg => hright_any v vr r R W (h.grew (w' := W) hg) hs (hR.grew hg))
  have HGU := Lib.hid (fun W hg => guildOf_any v r place W (h.grew (w' := W) hg) hs)
  obtain ⟨v0, v1, v2, v3, v4, rfl, h0, h1, h2, h3, h4⟩ := h
  have HRK := Lib.hid hR
  obtain ⟨A0', cp0, rfl, _⟩ := h0.slice
  obtain ⟨A1', cp1, rfl, _⟩ := id h1
  obtain ⟨A2', cp2, rfl, _⟩ := h2.slice
  obtain ⟨A3', cp3, rfl, _⟩ := h3.slice
  obtain ⟨A4', cp4, rfl, _⟩ := h4.slice
  obtain ⟨B, cb, rfl, _⟩ := id hR
  clear h0 h1 h2 h3 h4 hs hR
  have HL1 := Lib.hid (fun W => hasHL_any A0' r.labels.length cp0 place W)
  have HB1 := Lib.hid (fun W => hasHA_any A2' r.accounts.length cp2 by' W)
  have HW1 := Lib.hid (fun W => hasHA_any A2' r.accounts.length cp2 who W)
  have HG1 := Lib.hid (fun W => hasHG_any A3' r.guilds.length cp3 (guildOf r place) W)
  have HP := Lib.hid (@right_parts r R)
  have HFN := Lib.hid (@rows_fine r R)
  have HBI := Lib.hid (@inn_iff r.accounts.length by')
  have HWI := Lib.hid (@inn_iff r.accounts.length who)
  have HGI := Lib.hid (@inn_iff r.guilds.length (guildOf r place))
  have G0 : Hid (Grew w (w.alloc (Obj.cells #[.slice A0' r.labels.length cp0, .slice A1' r.lines.length cp1, .slice A2' r.accounts.length cp2, .slice A3' r.guilds.length cp3, .slice A4' r.quotas.length cp4, .int .i64 r.orders, .int .i64 r.audits, .int .i64 r.rate, .int .i64 r.rounds] 28))) := Lib.hid (by unfold Grew; go_grown)
  have R0 : Hid ((w.alloc (Obj.cells #[.slice A0' r.labels.length cp0, .slice A1' r.lines.length cp1, .slice A2' r.accounts.length cp2, .slice A3' r.guilds.length cp3, .slice A4' r.quotas.length cp4, .int .i64 r.orders, .int .i64 r.audits, .int .i64 r.rate, .int .i64 r.rounds] 28)).heap[w.heap.size]? = some (rcell (.slice A0' r.labels.length cp0) (.slice A1' r.lines.length cp1) (.slice A2' r.accounts.length cp2) (.slice A3' r.guilds.length cp3) (.slice A4' r.quotas.length cp4) r.orders r.audits r.rate r.rounds)) := Lib.hid (heap_alloc_new w _)
  obtain ⟨res, hres0⟩ : ∃ res, res = actR r R place by' who rR := ⟨_, rfl⟩
  rw [← hres0]
  unfold actR at hres0
  have HRES := Lib.hid hres0
  clear hres0
  generalize rightH r R = b at *
  generalize inn r.labels.length place = bp at *
  generalize inn r.accounts.length by' = bb at *
  generalize inn r.accounts.length who = bw at *
  generalize inn r.guilds.length (guildOf r place) = bg at *
  generalize guildOf r place = gv at *
  obtain ⟨r0, r1, r2, r3, r4, r5, r6, r7, r8⟩ := re_cells R0.out
  go_enter Tryz.func102, Tryz.ntmps102
  go_wp2_with fail
  with_reducible refine (HRI.out _ G0.out).mono ?_
  rintro e w1 ⟨rfl, hg⟩
  have G1 := Lib.hid (G0.out.trans hg)
  have R1 := Lib.hid (keepB R0.out hg)
  clear hg r0 r1 r2 r3 r4 r5 r6 r7 r8
  cases b with
  | false =>
    have hres : res = ([], 1) := HRES.out.trans (by simp)
    go_wp2
    go_returns
    exact ⟨.slice none 0 0, by rw [hres]; try rfl, by rw [hres]; exact RK.nil _, G1.out⟩
  | true =>
    obtain ⟨hmb, hlen, hrows⟩ := HP.out (by first | rfl | trivial)
    obtain ⟨hne, hl100⟩ := HFN.out (by first | rfl | trivial)
    have HLEN := Lib.hid hlen
    have HROWS := Lib.hid hrows
    have HNE := Lib.hid hne
    have HL100 := Lib.hid hl100
    clear hmb hlen hrows hne hl100
    obtain ⟨r0, r1, r2, r3, r4, r5, r6, r7, r8⟩ := re_cells R1.out
    go_wp2_with fail
    with_reducible refine (HL1.out _).mono ?_
    rintro e w2 ⟨rfl, hg⟩
    have G2 := Lib.hid (G1.out.trans hg)
    have R2 := Lib.hid (keepB R1.out hg)
    clear hg r0 r1 r2 r3 r4 r5 r6 r7 r8
    cases bp with
    | false =>
      have hres : res = ([], 1) := HRES.out.trans (by simp)
      go_wp2
      go_returns
      exact ⟨.slice none 0 0, by rw [hres]; try rfl, by rw [hres]; exact RK.nil _, G2.out⟩
    | true =>
      obtain ⟨r0, r1, r2, r3, r4, r5, r6, r7, r8⟩ := re_cells R2.out
      go_wp2_with fail
      with_reducible refine (HB1.out _).mono ?_
      rintro e w3 ⟨rfl, hg⟩
      have G3 := Lib.hid (G2.out.trans hg)
      have R3 := Lib.hid (keepB R2.out hg)
      clear hg r0 r1 r2 r3 r4 r5 r6 r7 r8
      cases bb with
      | false =>
        have hres : res = ([], 1) := HRES.out.trans (by simp)
        go_wp2
        go_returns
        exact ⟨.slice none 0 0, by rw [hres]; try rfl, by rw [hres]; exact RK.nil _, G3.out⟩
      | true =>
        obtain ⟨r0, r1, r2, r3, r4, r5, r6, r7, r8⟩ := re_cells R3.out
        go_wp2_with fail
        with_reducible refine (HW1.out _).mono ?_
        rintro e w4 ⟨rfl, hg⟩
        have G4 := Lib.hid (G3.out.trans hg)
        have R4 := Lib.hid (keepB R3.out hg)
        clear hg r0 r1 r2 r3 r4 r5 r6 r7 r8
        cases bw with
        | false =>
          have hres : res = ([], 1) := HRES.out.trans (by simp)
          go_wp2
          go_returns
          exact ⟨.slice none 0 0, by rw [hres]; try rfl, by rw [hres]; exact RK.nil _, G4.out⟩
        | true =>
          obtain ⟨r0, r1, r2, r3, r4, r5, r6, r7, r8⟩ := re_cells R4.out
          go_wp2_with fail
          with_reducible refine (HGU.out _ G4.out).mono ?_
          rintro e w5 ⟨rfl, hg⟩
          have G5 := Lib.hid (G4.out.trans hg)
          have R5 := Lib.hid (keepB R4.out hg)
          clear hg r0 r1 r2 r3 r4 r5 r6 r7 r8
          obtain ⟨r0, r1, r2, r3, r4, r5, r6, r7, r8⟩ := re_cells R5.out
          go_wp2_with fail
          with_reducible refine (HG1.out _).mono ?_
          rintro e w6 ⟨rfl, hg⟩
          have G6 := Lib.hid (G5.out.trans hg)
          have R6 := Lib.hid (keepB R5.out hg)
          clear hg r0 r1 r2 r3 r4 r5 r6 r7 r8
          cases bg with
          | false =>
            have hres : res = ([], 17) := HRES.out.trans (by simp)
            go_wp2
            go_returns
            exact ⟨.slice none 0 0, by rw [hres]; try rfl, by rw [hres]; exact RK.nil _, G6.out⟩
          | true =>
            obtain ⟨p0, p1⟩ := HGI.out (by first | rfl | trivial)
            obtain ⟨b0, b1⟩ := HBI.out (by first | rfl | trivial)
            obtain ⟨o0, o1⟩ := HWI.out (by first | rfl | trivial)
            obtain ⟨kg, rfl⟩ := Int.eq_ofNat_of_zero_le p0
            obtain ⟨kb, rfl⟩ := Int.eq_ofNat_of_zero_le b0
            obtain ⟨ko, rfl⟩ := Int.eq_ofNat_of_zero_le o0
            have hkR : kg < R.length := by have := HLEN.out; omega
            obtain ⟨ad, c2, A', c', e, hcl, hrow⟩ := (HRK.out.grew G6.out).at hkR
            injection e with e1 _ e3
            subst e1 e3
            have hrl := (HROWS.out kg hkR).1
            obtain ⟨adr, rfl, hcb⟩ := Is.at' hrow (k := kb) (by omega)
            obtain ⟨adr2, e2, hco⟩ := Is.at' hrow (k := ko) (by omega)
            cases e2
            have hk1 : (kg : Int) < (R.length : Int) := by omega
            have hk2 : (kb : Int) < ((rk R kg).length : Int) := by omega
            have hk3 : (ko : Int) < ((rk R kg).length : Int) := by omega
            have HKR := Lib.hid hkR
            have HKO : Hid (ko < (rk R kg).length) := Lib.hid (by omega)
            have HRES2 : Hid (res = if cel (rk R kg) kb = 2 then (if (rR kg (cel (rk R kg) ko)).2 = 0 then (withR R kg ko (rR kg (cel (rk R kg) ko)).1, 0) else ([], (rR kg (cel (rk R kg) ko)).2)) else ([], 5)) := Lib.hid (HRES.out.trans (by simp))
            clear HRES hrow hrl p1 b1 o1 hkR
            have HRU := Lib.hid (fun W hg => hrule kg (cel (rk R kg) ko) (by have := HLEN.out; have := HKR.out; omega) W hg)
            generalize cel (rk R kg) kb = cb' at *
            generalize cel (rk R kg) ko = co' at *
            rcases hq : rR kg co' with ⟨n0, n1⟩
            by_cases h2 : cb' = 2
            · subst h2
              have HRES3 : Hid (res = if n1 = 0 then (withR R kg ko n0, 0) else ([], n1)) := Lib.hid (HRES2.out.trans (by rw [if_pos rfl, hq]))
              rw [hq] at HRU
              clear HRES2 hq
              have HCO := Lib.hid hco
              have HCL := Lib.hid hcl
              go_wp2_with fail
              with_reducible refine (HRU.out _ G6.out).mono ?_
              rintro e w7 ⟨rfl, hg⟩
              have G7 := Lib.hid (G6.out.trans hg)
              clear hg hcl hcb hco
              by_cases h0 : n1 = 0
              · subst h0
                have hres : res = (withR R kg ko n0, 0) := HRES3.out.trans (if_pos rfl)
                have HWI2 := Lib.hid (with_any w7 _ R kg ko n0 (HRK.out.grew G7.out) HNE.out HL100.out HKR.out HKO.out)
                go_wp2_with fail
                with_reducible refine HWI2.out.mono ?_
                rintro e w8 ⟨v8, rfl, hrk, hg⟩
                have H8 := Lib.hid hrk
                have G8 := Lib.hid (G7.out.trans hg)
                obtain ⟨A8, c8, rfl, _⟩ := id hrk
                clear hrk hg
                go_wp2
                go_returns
                exact ⟨_, by rw [hres]; try rfl, by rw [hres]; exact H8.out, G8.out⟩
              · have hres : res = ([], n1) := HRES3.out.trans (if_neg h0)
                have hb0 : (n1 != 0) = true := by simpa using h0
                clear h0
                go_wp2
                go_returns
                exact ⟨.slice none 0 0, by rw [hres]; try rfl, by rw [hres]; exact RK.nil _, G7.out⟩
            · have hres : res = ([], 5) := HRES2.out.trans (if_neg h2)
              have hb2 : (cb' != 2) = true := by simpa using h2
              clear h2 hq
              go_wp2
              go_returns
              exact ⟨.slice none 0 0, by rw [hres]; try rfl, by rw [hres]; exact RK.nil _, G6.out⟩

set_option maxRecDepth 100000 in
set_option maxHeartbeats 4000000 in
theorem actE_any (v vr : Value) (r : Re) (R : List (List Int)) (place by' who : Int) (P R' : Nat) (w : World) (h : ReIs w v r) (hs : Sized r) (hR : RK w vr R)
    (hrule : ∀ (g : Nat) (n : Int), g < r.guilds.length → ∀ W, Grew w W → Calls Tryz.prog 105 #[.int .i64 (g : Int), .int .i64 n, .pointer (some ⟨P, 0, none⟩), .pointer (some ⟨R', 0, none⟩)] W fun e w' => e = .returned (.tuple #[.int .i64 ((rE r who) g n).1, .int .i64 ((rE r who) g n).2]) ∧ Grew W w') :
    Calls Tryz.prog 102 #[v, vr, .int .i64 place, .int .i64 by', .int .i64 who, .func (.func 105) #[] #[.pointer (some ⟨P, 0, none⟩), .pointer (some ⟨R', 0, none⟩)]] w fun e w' => ∃ v', e = .returned (.tuple #[v', .int .i64 (actR r R place by' who (rE r who)).2]) ∧ RK w' v' (actR r R place by' who (rE r who)).1 ∧ Grew w w' := by
  have HRI := Lib.hid (fun W hg => hright_any v vr r R W (h.grew (w' := W) hg) hs (hR.grew hg))
  have HGU := Lib.hid (fun W hg => guildOf_any v r place W (h.grew (w' := W) hg) hs)
  obtain ⟨v0, v1, v2, v3, v4, rfl, h0, h1, h2, h3, h4⟩ := h
  have HRK := Lib.hid hR
  obtain ⟨A0', cp0, rfl, _⟩ := h0.slice
  obtain ⟨A1', cp1, rfl, _⟩ := id h1
  obtain ⟨A2', cp2, rfl, _⟩ := h2.slice
  obtain ⟨A3', cp3, rfl, _⟩ := h3.slice
  obtain ⟨A4', cp4, rfl, _⟩ := h4.slice
  obtain ⟨B, cb, rfl, _⟩ := id hR
  clear h0 h1 h2 h3 h4 hs hR
  have HL1 := Lib.hid (fun W => hasHL_any A0' r.labels.length cp0 place W)
  have HB1 := Lib.hid (fun W => hasHA_any A2' r.accounts.length cp2 by' W)
  have HW1 := Lib.hid (fun W => hasHA_any A2' r.accounts.length cp2 who W)
  have HG1 := Lib.hid (fun W => hasHG_any A3' r.guilds.length cp3 (guildOf r place) W)
  have HP := Lib.hid (@right_parts r R)
  have HFN := Lib.hid (@rows_fine r R)
  have HBI := Lib.hid (@inn_iff r.accounts.length by')
  have HWI := Lib.hid (@inn_iff r.accounts.length who)
  have HGI := Lib.hid (@inn_iff r.guilds.length (guildOf r place))
  have G0 : Hid (Grew w (w.alloc (Obj.cells #[.slice A0' r.labels.length cp0, .slice A1' r.lines.length cp1, .slice A2' r.accounts.length cp2, .slice A3' r.guilds.length cp3, .slice A4' r.quotas.length cp4, .int .i64 r.orders, .int .i64 r.audits, .int .i64 r.rate, .int .i64 r.rounds] 28))) := Lib.hid (by unfold Grew; go_grown)
  have R0 : Hid ((w.alloc (Obj.cells #[.slice A0' r.labels.length cp0, .slice A1' r.lines.length cp1, .slice A2' r.accounts.length cp2, .slice A3' r.guilds.length cp3, .slice A4' r.quotas.length cp4, .int .i64 r.orders, .int .i64 r.audits, .int .i64 r.rate, .int .i64 r.rounds] 28)).heap[w.heap.size]? = some (rcell (.slice A0' r.labels.length cp0) (.slice A1' r.lines.length cp1) (.slice A2' r.accounts.length cp2) (.slice A3' r.guilds.length cp3) (.slice A4' r.quotas.length cp4) r.orders r.audits r.rate r.rounds)) := Lib.hid (heap_alloc_new w _)
  obtain ⟨res, hres0⟩ : ∃ res, res = actR r R place by' who (rE r who) := ⟨_, rfl⟩
  rw [← hres0]
  unfold actR at hres0
  have HRES := Lib.hid hres0
  clear hres0
  generalize rightH r R = b at *
  generalize inn r.labels.length place = bp at *
  generalize inn r.accounts.length by' = bb at *
  generalize inn r.accounts.length who = bw at *
  generalize inn r.guilds.length (guildOf r place) = bg at *
  generalize guildOf r place = gv at *
  obtain ⟨r0, r1, r2, r3, r4, r5, r6, r7, r8⟩ := re_cells R0.out
  go_enter Tryz.func102, Tryz.ntmps102
  go_wp2_with fail
  with_reducible refine (HRI.out _ G0.out).mono ?_
  rintro e w1 ⟨rfl, hg⟩
  have G1 := Lib.hid (G0.out.trans hg)
  have R1 := Lib.hid (keepB R0.out hg)
  clear hg r0 r1 r2 r3 r4 r5 r6 r7 r8
  cases b with
  | false =>
    have hres : res = ([], 1) := HRES.out.trans (by simp)
    go_wp2
    go_returns
    exact ⟨.slice none 0 0, by rw [hres]; try rfl, by rw [hres]; exact RK.nil _, G1.out⟩
  | true =>
    obtain ⟨hmb, hlen, hrows⟩ := HP.out (by first | rfl | trivial)
    obtain ⟨hne, hl100⟩ := HFN.out (by first | rfl | trivial)
    have HLEN := Lib.hid hlen
    have HROWS := Lib.hid hrows
    have HNE := Lib.hid hne
    have HL100 := Lib.hid hl100
    clear hmb hlen hrows hne hl100
    obtain ⟨r0, r1, r2, r3, r4, r5, r6, r7, r8⟩ := re_cells R1.out
    go_wp2_with fail
    with_reducible refine (HL1.out _).mono ?_
    rintro e w2 ⟨rfl, hg⟩
    have G2 := Lib.hid (G1.out.trans hg)
    have R2 := Lib.hid (keepB R1.out hg)
    clear hg r0 r1 r2 r3 r4 r5 r6 r7 r8
    cases bp with
    | false =>
      have hres : res = ([], 1) := HRES.out.trans (by simp)
      go_wp2
      go_returns
      exact ⟨.slice none 0 0, by rw [hres]; try rfl, by rw [hres]; exact RK.nil _, G2.out⟩
    | true =>
      obtain ⟨r0, r1, r2, r3, r4, r5, r6, r7, r8⟩ := re_cells R2.out
      go_wp2_with fail
      with_reducible refine (HB1.out _).mono ?_
      rintro e w3 ⟨rfl, hg⟩
      have G3 := Lib.hid (G2.out.trans hg)
      have R3 := Lib.hid (keepB R2.out hg)
      clear hg r0 r1 r2 r3 r4 r5 r6 r7 r8
      cases bb with
      | false =>
        have hres : res = ([], 1) := HRES.out.trans (by simp)
        go_wp2
        go_returns
        exact ⟨.slice none 0 0, by rw [hres]; try rfl, by rw [hres]; exact RK.nil _, G3.out⟩
      | true =>
        obtain ⟨r0, r1, r2, r3, r4, r5, r6, r7, r8⟩ := re_cells R3.out
        go_wp2_with fail
        with_reducible refine (HW1.out _).mono ?_
        rintro e w4 ⟨rfl, hg⟩
        have G4 := Lib.hid (G3.out.trans hg)
        have R4 := Lib.hid (keepB R3.out hg)
        clear hg r0 r1 r2 r3 r4 r5 r6 r7 r8
        cases bw with
        | false =>
          have hres : res = ([], 1) := HRES.out.trans (by simp)
          go_wp2
          go_returns
          exact ⟨.slice none 0 0, by rw [hres]; try rfl, by rw [hres]; exact RK.nil _, G4.out⟩
        | true =>
          obtain ⟨r0, r1, r2, r3, r4, r5, r6, r7, r8⟩ := re_cells R4.out
          go_wp2_with fail
          with_reducible refine (HGU.out _ G4.out).mono ?_
          rintro e w5 ⟨rfl, hg⟩
          have G5 := Lib.hid (G4.out.trans hg)
          have R5 := Lib.hid (keepB R4.out hg)
          clear hg r0 r1 r2 r3 r4 r5 r6 r7 r8
          obtain ⟨r0, r1, r2, r3, r4, r5, r6, r7, r8⟩ := re_cells R5.out
          go_wp2_with fail
          with_reducible refine (HG1.out _).mono ?_
          rintro e w6 ⟨rfl, hg⟩
          have G6 := Lib.hid (G5.out.trans hg)
          have R6 := Lib.hid (keepB R5.out hg)
          clear hg r0 r1 r2 r3 r4 r5 r6 r7 r8
          cases bg with
          | false =>
            have hres : res = ([], 17) := HRES.out.trans (by simp)
            go_wp2
            go_returns
            exact ⟨.slice none 0 0, by rw [hres]; try rfl, by rw [hres]; exact RK.nil _, G6.out⟩
          | true =>
            obtain ⟨p0, p1⟩ := HGI.out (by first | rfl | trivial)
            obtain ⟨b0, b1⟩ := HBI.out (by first | rfl | trivial)
            obtain ⟨o0, o1⟩ := HWI.out (by first | rfl | trivial)
            obtain ⟨kg, rfl⟩ := Int.eq_ofNat_of_zero_le p0
            obtain ⟨kb, rfl⟩ := Int.eq_ofNat_of_zero_le b0
            obtain ⟨ko, rfl⟩ := Int.eq_ofNat_of_zero_le o0
            have hkR : kg < R.length := by have := HLEN.out; omega
            obtain ⟨ad, c2, A', c', e, hcl, hrow⟩ := (HRK.out.grew G6.out).at hkR
            injection e with e1 _ e3
            subst e1 e3
            have hrl := (HROWS.out kg hkR).1
            obtain ⟨adr, rfl, hcb⟩ := Is.at' hrow (k := kb) (by omega)
            obtain ⟨adr2, e2, hco⟩ := Is.at' hrow (k := ko) (by omega)
            cases e2
            have hk1 : (kg : Int) < (R.length : Int) := by omega
            have hk2 : (kb : Int) < ((rk R kg).length : Int) := by omega
            have hk3 : (ko : Int) < ((rk R kg).length : Int) := by omega
            have HKR := Lib.hid hkR
            have HKO : Hid (ko < (rk R kg).length) := Lib.hid (by omega)
            have HRES2 : Hid (res = if cel (rk R kg) kb = 2 then (if ((rE r (ko : Int)) kg (cel (rk R kg) ko)).2 = 0 then (withR R kg ko ((rE r (ko : Int)) kg (cel (rk R kg) ko)).1, 0) else ([], ((rE r (ko : Int)) kg (cel (rk R kg) ko)).2)) else ([], 5)) := Lib.hid (HRES.out.trans (by simp))
            clear HRES hrow hrl p1 b1 o1 hkR
            have HRU := Lib.hid (fun W hg => hrule kg (cel (rk R kg) ko) (by have := HLEN.out; have := HKR.out; omega) W hg)
            generalize cel (rk R kg) kb = cb' at *
            generalize cel (rk R kg) ko = co' at *
            rcases hq : (rE r (ko : Int)) kg co' with ⟨n0, n1⟩
            by_cases h2 : cb' = 2
            · subst h2
              have HRES3 : Hid (res = if n1 = 0 then (withR R kg ko n0, 0) else ([], n1)) := Lib.hid (HRES2.out.trans (by rw [if_pos rfl, hq]))
              rw [hq] at HRU
              clear HRES2 hq
              have HCO := Lib.hid hco
              have HCL := Lib.hid hcl
              go_wp2_with fail
              with_reducible refine (HRU.out _ G6.out).mono ?_
              rintro e w7 ⟨rfl, hg⟩
              have G7 := Lib.hid (G6.out.trans hg)
              clear hg hcl hcb hco
              by_cases h0 : n1 = 0
              · subst h0
                have hres : res = (withR R kg ko n0, 0) := HRES3.out.trans (if_pos rfl)
                have HWI2 := Lib.hid (with_any w7 _ R kg ko n0 (HRK.out.grew G7.out) HNE.out HL100.out HKR.out HKO.out)
                go_wp2_with fail
                with_reducible refine HWI2.out.mono ?_
                rintro e w8 ⟨v8, rfl, hrk, hg⟩
                have H8 := Lib.hid hrk
                have G8 := Lib.hid (G7.out.trans hg)
                obtain ⟨A8, c8, rfl, _⟩ := id hrk
                clear hrk hg
                go_wp2
                go_returns
                exact ⟨_, by rw [hres]; try rfl, by rw [hres]; exact H8.out, G8.out⟩
              · have hres : res = ([], n1) := HRES3.out.trans (if_neg h0)
                have hb0 : (n1 != 0) = true := by simpa using h0
                clear h0
                go_wp2
                go_returns
                exact ⟨.slice none 0 0, by rw [hres]; try rfl, by rw [hres]; exact RK.nil _, G7.out⟩
            · have hres : res = ([], 5) := HRES2.out.trans (if_neg h2)
              have hb2 : (cb' != 2) = true := by simpa using h2
              clear h2 hq
              go_wp2
              go_returns
              exact ⟨.slice none 0 0, by rw [hres]; try rfl, by rw [hres]; exact RK.nil _, G6.out⟩
end Go.Proofs.YtmegdgeiikhflaaGreat.HX
