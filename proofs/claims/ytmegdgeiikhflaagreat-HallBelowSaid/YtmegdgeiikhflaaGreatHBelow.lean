/-
  HallBelow, walked: who is cleared for a label is cleared for each one at or below it.
  Conditions: the accounts' texts' sizes.
-/
import Derived.Test.YtmegdgeiikhflaaGreatHV
import Derived.Test.YtmegdgeiikhflaaGreatLat
namespace Go.Proofs.YtmegdgeiikhflaaGreat.HBelow
open Go Go.RowKit Go.Lib Go.Proofs.YtmegdgeiikhflaaGreat Go.Proofs.YtmegdgeiikhflaaGreat.Facts Go.Proofs.YtmegdgeiikhflaaGreat.Plain Go.Proofs.YtmegdgeiikhflaaGreat.Ints Go.Proofs.YtmegdgeiikhflaaGreat.RRows Go.Proofs.YtmegdgeiikhflaaGreat.LBox Go.Proofs.YtmegdgeiikhflaaGreat.RSmall Go.Proofs.YtmegdgeiikhflaaGreat.RFind Go.Proofs.YtmegdgeiikhflaaGreat.RAll Go.Proofs.YtmegdgeiikhflaaGreat.RRules Go.Proofs.YtmegdgeiikhflaaGreat.RRule3 Go.Proofs.YtmegdgeiikhflaaGreat.RRight Go.Proofs.YtmegdgeiikhflaaGreat.HA Go.Proofs.YtmegdgeiikhflaaGreat.HB Go.Proofs.YtmegdgeiikhflaaGreat.HG Go.Proofs.YtmegdgeiikhflaaGreat.HC Go.Proofs.YtmegdgeiikhflaaGreat.HD

theorem below {r : Re} {R : List (List Int)} {who i j : Int} (h1 : leqR r i j = true) (h2 : clearedH r R who j = true) : clearedH r R who i = true := by
  unfold leqR at h1
  simp only [Bool.and_eq_true] at h1
  obtain ⟨hm, hi, hj, hle⟩ := h1
  unfold clearedH at h2 ⊢
  split at h2
  · rename_i k1
    rw [if_pos k1]
    split at h2
    · rename_i k2
      rw [if_pos k2]
      try rw [if_pos hj] at h2
      rw [if_pos hi]
      split at h2
      · cases h2
      · rename_i k3
        have hl := (Lat.le_iff ..).1 hle
        rw [if_neg (by omega)]
        simp only [Bool.not_eq_true', List.any_eq_false] at h2 ⊢
        intro g hg
        obtain ⟨k, rfl, hk, hu⟩ := guildsOf_in hg
        refine h2 _ ?_
        unfold guildsOf
        rw [if_pos hm, if_pos hj]
        exact gl_mem.2 ⟨k, hk, Lat.le_trans hu hle, rfl⟩
    · cases h2
  · cases h2
set_option maxRecDepth 100000 in
set_option maxHeartbeats 4000000 in
theorem law_any (v vr : Value) (r : Re) (R : List (List Int)) (who i j : Int) (w : World) (h : ReIs w v r) (hs : Sized r) (hR : RK w vr R) : Calls Tryz.prog 10 #[v, vr, .int .i64 who, .int .i64 i, .int .i64 j] w fun e w' => e = .returned (.bool true) ∧ Grew w w' := by
  have HLQ := Lib.hid (fun W hg => leqR_any v r i j W (h.grew (w' := W) hg) hs)
  have HCJ := Lib.hid (fun W hg => cleared_any v vr r R who j W (h.grew (w' := W) hg) hs (hR.grew hg))
  have HCI := Lib.hid (fun W hg => cleared_any v vr r R who i W (h.grew (w' := W) hg) hs (hR.grew hg))
  have HAL := Lib.hid (fun W => HV.alive_any W)
  have HBE := Lib.hid (@below r R who i j)
  obtain ⟨v0, v1, v2, v3, v4, rfl, h0, h1, h2, h3, h4⟩ := h
  obtain ⟨A0', cp0, rfl, _⟩ := h0.slice
  obtain ⟨A1', cp1, rfl, _⟩ := id h1
  obtain ⟨A2', cp2, rfl, _⟩ := h2.slice
  obtain ⟨A3', cp3, rfl, _⟩ := h3.slice
  obtain ⟨A4', cp4, rfl, _⟩ := h4.slice
  obtain ⟨B, cb, rfl, _⟩ := id hR
  clear h0 h1 h2 h3 h4 hs hR
  have G0 : Hid (Grew w (w.alloc (Obj.cells #[.slice A0' r.labels.length cp0, .slice A1' r.lines.length cp1, .slice A2' r.accounts.length cp2, .slice A3' r.guilds.length cp3, .slice A4' r.quotas.length cp4, .int .i64 r.orders, .int .i64 r.audits, .int .i64 r.rate, .int .i64 r.rounds] 28))) := Lib.hid (by unfold Grew; go_grown)
  have R0 : Hid ((w.alloc (Obj.cells #[.slice A0' r.labels.length cp0, .slice A1' r.lines.length cp1, .slice A2' r.accounts.length cp2, .slice A3' r.guilds.length cp3, .slice A4' r.quotas.length cp4, .int .i64 r.orders, .int .i64 r.audits, .int .i64 r.rate, .int .i64 r.rounds] 28)).heap[w.heap.size]? = some (rcell (.slice A0' r.labels.length cp0) (.slice A1' r.lines.length cp1) (.slice A2' r.accounts.length cp2) (.slice A3' r.guilds.length cp3) (.slice A4' r.quotas.length cp4) r.orders r.audits r.rate r.rounds)) := Lib.hid (heap_alloc_new w _)
  obtain ⟨r0, r1, r2, r3, r4, r5, r6, r7, r8⟩ := re_cells R0.out
  generalize leqR r i j = b1 at *
  generalize clearedH r R who j = b2 at *
  generalize clearedH r R who i = b3 at *
  go_enter Tryz.func10, Tryz.ntmps10
  go_wp2_with fail
  with_reducible refine (HLQ.out _ G0.out).mono ?_
  rintro e w1 ⟨rfl, hg⟩
  have G1 := Lib.hid (G0.out.trans hg)
  have R1 := Lib.hid (keepB R0.out hg)
  clear hg r0 r1 r2 r3 r4 r5 r6 r7 r8
  obtain ⟨r0, r1, r2, r3, r4, r5, r6, r7, r8⟩ := re_cells R1.out
  cases b1 with
  | false =>
    go_wp2_with fail
    with_reducible refine (HAL.out _).mono ?_
    rintro e w2 ⟨rfl, hg⟩
    have G2 := Lib.hid (G1.out.trans hg)
    clear hg r0 r1 r2 r3 r4 r5 r6 r7 r8
    go_wp2
    go_returns
    exact ⟨rfl, G2.out⟩
  | true =>
    go_wp2_with fail
    with_reducible refine (HCJ.out _ G1.out).mono ?_
    rintro e w2 ⟨rfl, hg⟩
    have G2 := Lib.hid (G1.out.trans hg)
    have R2 := Lib.hid (keepB R1.out hg)
    clear hg r0 r1 r2 r3 r4 r5 r6 r7 r8
    cases b2 with
    | false =>
      go_wp2_with fail
      with_reducible refine (HAL.out _).mono ?_
      rintro e w3 ⟨rfl, hg⟩
      have G3 := Lib.hid (G2.out.trans hg)
      clear hg
      go_wp2
      go_returns
      exact ⟨rfl, G3.out⟩
    | true =>
      have hb3 : b3 = true := HBE.out (by first | rfl | trivial) (by first | rfl | trivial)
      subst hb3
      go_wp2_with fail
      with_reducible refine (HAL.out _).mono ?_
      rintro e w3 ⟨rfl, hg⟩
      have G3 := Lib.hid (G2.out.trans hg)
      have R3 := Lib.hid (keepB R2.out hg)
      clear hg
      obtain ⟨r0, r1, r2, r3, r4, r5, r6, r7, r8⟩ := re_cells R3.out
      go_wp2_with fail
      with_reducible refine (HCI.out _ G3.out).mono ?_
      rintro e w4 ⟨rfl, hg⟩
      have G4 := Lib.hid (G3.out.trans hg)
      clear hg r0 r1 r2 r3 r4 r5 r6 r7 r8
      go_wp2
      go_returns
      exact ⟨rfl, G4.out⟩
end Go.Proofs.YtmegdgeiikhflaaGreat.HBelow
