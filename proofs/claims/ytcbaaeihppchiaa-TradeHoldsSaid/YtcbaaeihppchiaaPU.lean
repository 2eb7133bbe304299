/-
  TradeHolds: what is opened adds what it gives, and what is shut takes it away.
  Conditions: those that each lemma names.
-/
import Derived.Test.YtcbaaeihppchiaaPS
import Derived.IntWalk
namespace Go.Proofs.Ytcbaaeihppchiaa.PU
set_option maxRecDepth 100000
open Go Go.RowKit Go.Lib Go.Proofs.Ytcbaaeihppchiaa Go.Proofs.Ytcbaaeihppchiaa.Facts Go.Proofs.Ytcbaaeihppchiaa.Ints Go.Proofs.Ytcbaaeihppchiaa.PA Go.Proofs.Ytcbaaeihppchiaa.PB Go.Proofs.Ytcbaaeihppchiaa.PC Go.Proofs.Ytcbaaeihppchiaa.PG Go.Proofs.Ytcbaaeihppchiaa.PM Go.Proofs.Ytcbaaeihppchiaa.PN Go.Proofs.Ytcbaaeihppchiaa.PP Go.Proofs.Ytcbaaeihppchiaa.PQ Go.Proofs.Ytcbaaeihppchiaa.PR Go.Proofs.Ytcbaaeihppchiaa.PS Go.Proofs.Ytcbaaeihppchiaa.Bytes


def con (x : Tr) (c : Int) : Nat := if (x.used && decide (x.gc = c)) = true then x.ga else 0
theorem heldN_con (l : List Tr) (c : Int) : heldN l c = (l.map fun x => con x c).sum := by
  unfold heldN
  induction l with
  | nil => rfl
  | cons x r ih =>
    rw [List.filter_cons, List.map_cons, List.sum_cons, ← ih]
    unfold con
    split
    · rw [List.map_cons, List.sum_cons]
    · rw [Nat.zero_add]
theorem heldN_set (l : List Tr) (k : Nat) (x : Tr) (c : Int) (hk : k < l.length) : heldN (l.set k x) c + con (et l k) c = heldN l c + con x c := by
  rw [heldN_con, heldN_con]
  have e : et l k = l[k] := by unfold et; rw [List.getElem?_eq_getElem hk]; rfl
  rw [e]
  clear e
  induction l generalizing k with
  | nil => simp at hk
  | cons y r ih =>
    cases k with
    | zero =>
      simp only [List.set_cons_zero, List.map_cons, List.sum_cons, List.getElem_cons_zero]
      omega
    | succ k =>
      have := ih k (by simpa using hk)
      simp only [List.set_cons_succ, List.map_cons, List.sum_cons, List.getElem_cons_succ]
      omega
theorem okTs_set {l : List Tr} (h : okTs l = true) (k : Nat) (x : Tr) (hx : okT x = true) : okTs (l.set k x) = true := by
  unfold okTs at *
  rw [List.all_eq_true] at *
  intro y hy
  rcases List.mem_or_eq_of_mem_set hy with hy | rfl
  · exact h y hy
  · exact hx
theorem SzT_set {l : List Tr} (h : SzT l) (k : Nat) (x : Tr) (hx : x.ga < 18446744073709551616) : SzT (l.set k x) := by
  intro y hy
  rcases List.mem_or_eq_of_mem_set hy with hy | rfl
  · exact h y hy
  · exact hx
theorem open_cases (l : List Tr) (t : Tr) : (openP l t).2.2 ≠ 0 ∨ (∃ k : Nat, k < l.length ∧ (et l k).used = false ∧ okTs l = true ∧ okT { t with used := true } = true ∧ openP l t = (l.set k { t with used := true }, (k : Int), 0)) := by
  unfold openP
  cases h : okTs l with
  | false => exact .inl (show (1 : Int) ≠ 0 by decide)
  | true =>
    rw [if_neg (by decide)]
    cases ht : okT { t with used := true } with
    | false => exact .inl (show (1 : Int) ≠ 0 by decide)
    | true =>
      rw [if_neg (by decide)]
      rcases fidx_cases l (fun x => !x.used) with ⟨hf, _⟩ | ⟨k, hk, hf, hku, _⟩
      · left
        unfold trfree
        rw [hf]
        show (8 : Int) ≠ 0
        decide
      · right
        refine ⟨k, hk, ?_, rfl, rfl, ?_⟩
        · unfold et
          rw [List.getElem?_eq_getElem hk]
          simpa using hku
        · unfold trfree
          rw [hf]
          have hne : ¬ (k : Int) = -1 := by omega
          rw [if_neg hne, if_neg hne, if_neg hne, Int.toNat_natCast]
theorem okT_ga {x : Tr} (h : okT x = true) (hu : x.used = true) : x.ga ≤ top := by
  unfold okT mayP at h
  rw [if_pos hu] at h
  simp only [Bool.and_eq_true, decide_eq_true_iff] at h
  exact h.1.1.2.1.2
theorem shut_len (l : List Tr) (k : Nat) : ((l.set k ztr).length) = l.length := List.length_set
theorem ans3_sl {r : List Tr × Int × Int} {w w' : World} {e : Ending} (h : Ans3 r w e w') : ∃ A c, e = .returned (.tuple #[.slice A r.1.length c, .int .i64 r.2.1, .int .i64 r.2.2]) ∧ Trs w' (.slice A r.1.length c) r.1 ∧ Grew w w' := by
  obtain ⟨v', e1, hi, hg⟩ := h
  obtain ⟨A, c, e2, _⟩ := hi.slice
  subst e2
  exact ⟨A, c, e1, hi, hg⟩
theorem ans2_sl {r : List Tr × Int} {w w' : World} {e : Ending} (n : Nat) (hn : r.1.length = n) (h : Ans2 r w e w') : ∃ A c, e = .returned (.tuple #[.slice A n c, .int .i64 r.2]) ∧ Hid (Trs w' (.slice A n c) r.1) ∧ Grew w w' := by
  obtain ⟨v', e1, hi, hg⟩ := h
  obtain ⟨A, c, rfl, _⟩ := hi.slice
  subst hn
  exact ⟨A, c, e1, Lib.hid hi, hg⟩
set_option maxHeartbeats 8000000 in
theorem law (v : Value) (l : List Tr) (t : Tr) (i c : Int) (w : World) (hl : Trs w v l) (hz : SzT l) (hn : l.length * 72 ≤ 140737488355328) (ht : t.ga < 18446744073709551616) : Calls Try.prog 5 #[v, trv t, .int .i64 i, .int .i64 c] w fun e w' => e = .returned (.bool true) ∧ Grew w w' := by
  have HAL := Lib.hid alive_any
  have HHE := Lib.hid (fun W (hg : Grew w W) => held_any v l c W (hl.grew hg) hn hz)
  have HOP := Lib.hid (fun W (hg : Grew w W) => open_any v l t W (hl.grew hg) hn)
  have HIS := Lib.hid (held_is l c)
  have HOC := Lib.hid (open_cases l t)
  have HZ := Lib.hid hz
  have HN := Lib.hid hn
  have HT := Lib.hid ht
  obtain ⟨A, cp, rfl, _⟩ := hl.slice
  clear hl hz hn ht
  obtain ⟨u0, a, b, gc, ga, gi, wc, wa, wi⟩ := t
  unfold trv at HOP ⊢
  simp only at HOP HT ⊢
  have G0 : Hid (Grew w (w.alloc (.cells #[.bool u0, .int .i64 a, .int .i64 b, .int .i64 gc, .int .u64 ga, .int .i64 gi, .int .i64 wc, .int .u64 wa, .int .i64 wi] 42))) := Lib.hid (by unfold Grew; go_grown)
  have B0 := Lib.hid (blk_new w (.cells #[.bool u0, .int .i64 a, .int .i64 b, .int .i64 gc, .int .u64 ga, .int .i64 gi, .int .i64 wc, .int .u64 wa, .int .i64 wi] 42))
  by_cases hgood : (heldP l c).2 = 0 ∧ (openP l ⟨u0, a, b, gc, ga, gi, wc, wa, wi⟩).2.2 = 0
  · obtain ⟨hg1, hg2⟩ := hgood
    obtain ⟨k, hk, hku, hok, hokt, hop⟩ : ∃ k : Nat, k < l.length ∧ (et l k).used = false ∧ okTs l = true ∧ okT ⟨true, a, b, gc, ga, gi, wc, wa, wi⟩ = true ∧ openP l ⟨u0, a, b, gc, ga, gi, wc, wa, wi⟩ = (l.set k ⟨true, a, b, gc, ga, gi, wc, wa, wi⟩, (k : Int), 0) := by
      rcases HOC.out with h | h
      · exact absurd hg2 h
      · exact h
    have hcoin : coinB c = true := by
      cases hc : coinB c with
      | true => rfl
      | false => rw [HIS.out, hc] at hg1; cases hg1
    have hq : heldN l c ≤ top := by
      by_cases h : heldN l c ≤ top
      · exact h
      · rw [HIS.out, hcoin, if_neg (by decide), if_neg h] at hg1; cases hg1
    have hhe : heldP l c = (heldN l c, 0) := by rw [HIS.out, hcoin, if_neg (by decide), if_pos hq]
    rw [hhe] at HHE
    rw [hop] at HOP
    have hga : ga ≤ top := okT_ga hokt rfl
    have hset := heldN_set l k ⟨true, a, b, gc, ga, gi, wc, wa, wi⟩ c hk
    have hc0 : con (et l k) c = 0 := by unfold con; rw [hku]; rfl
    rw [hc0, Nat.add_zero] at hset
    have hlen : (l.set k ⟨true, a, b, gc, ga, gi, wc, wa, wi⟩).length = l.length := List.length_set
    have hat : et (l.set k ⟨true, a, b, gc, ga, gi, wc, wa, wi⟩) k = ⟨true, a, b, gc, ga, gi, wc, wa, wi⟩ := by rw [et_set _ _ _ _ hk, if_pos rfl]
    have hback := heldN_set (l.set k ⟨true, a, b, gc, ga, gi, wc, wa, wi⟩) k ztr c (by rw [hlen]; exact hk)
    rw [hat, hset, show con ztr c = 0 by unfold con; rfl, Nat.add_zero] at hback
    have hback' : heldN ((l.set k ⟨true, a, b, gc, ga, gi, wc, wa, wi⟩).set k ztr) c = heldN l c := by omega
    have hokn := okTs_set hok k ⟨true, a, b, gc, ga, gi, wc, wa, wi⟩ hokt
    have hszn := SzT_set HZ.out k ⟨true, a, b, gc, ga, gi, wc, wa, wi⟩ HT.out
    have hszb := SzT_set hszn k ztr (by decide)
    have hsh := shutP_yes (n := b) hokn (show k < (l.set k ⟨true, a, b, gc, ga, gi, wc, wa, wi⟩).length by rw [hlen]; exact hk) (by rw [hat]) (by rw [hat]; exact .inr rfl)
    have hlb : ((l.set k ⟨true, a, b, gc, ga, gi, wc, wa, wi⟩).set k ztr).length = l.length := by rw [List.length_set, hlen]
    generalize l.set k ⟨true, a, b, gc, ga, gi, wc, wa, wi⟩ = R at *
    generalize R.set k ztr = K at *
    have HH2 := Lib.hid (fun W A4 c4 (h : Trs W (.slice A4 l.length c4) R) => held_any (.slice A4 l.length c4) R c W h (by rw [hlen]; exact HN.out) hszn)
    have HH3 := Lib.hid (fun W A4 c4 (h : Trs W (.slice A4 l.length c4) K) => held_any (.slice A4 l.length c4) K c W h (by rw [hlb]; exact HN.out) hszb)
    have HSH := Lib.hid (fun W A4 c4 (h : Trs W (.slice A4 l.length c4) R) => shut_any (.slice A4 l.length c4) R (k : Int) b W h (by rw [hlen]; exact HN.out))
    have HTR := Lib.hid (fun W A4 c4 (h : Trs W (.slice A4 l.length c4) R) => trades_any (.slice A4 l.length c4) R W h)
    rw [hokn] at HTR
    rw [hsh] at HSH
    rw [held_is, hcoin, if_neg (by decide), hback', if_pos hq] at HH3
    rw [held_is, hcoin, if_neg (by decide), hset] at HH2
    have HLN := Lib.hid hlen
    have HLB := Lib.hid hlb
    unfold two at HHE HH3
    unfold Ans3 at HOP
    simp only at HOP HHE HH3
    generalize hQ : heldN l c = q at *
    have HQ := Lib.hid hq
    have HGA := Lib.hid hga
    have HCON : Hid (con ⟨true, a, b, gc, ga, gi, wc, wa, wi⟩ c = if gc = c then ga else 0) := Lib.hid (by unfold con; simp)
    rw [HCON.out] at HH2
    clear hg1 hg2 hku hok hokt hop hcoin hhe hset hc0 hlen hat hback hback' hokn hszn hszb hsh hlb hQ hq hga HIS HOC HCON
    by_cases hgc : gc = c
    · subst hgc
      rw [if_pos rfl] at HH2
      by_cases hov : q + ga ≤ top
      · rw [if_pos hov] at HH2
        unfold two at HH2
        simp only at HH2
        have hwr : IntKind.u64.wrap ((q : Int) + (ga : Int)) = ((q + ga : Nat) : Int) := by rw [IntWalk.u64_in _ (by unfold top at hov; omega)]; omega
        have HWR := Lib.hid hwr
        clear hov hwr hk
        go_enter Try.func5, Try.ntmps5
        go_wp2_with fail
        refine (HHE.out _ G0.out).mono ?_
        rintro e w1 ⟨rfl, hg⟩
        have G1 := Lib.hid (G0.out.trans hg)
        have B1 := Lib.hid (keepB B0.out hg)
        clear hg
        obtain ⟨c0, c1, c2, c3, c4, c5, c6, c7, c8⟩ := nine_c B1.out
        go_wp2_with fail
        refine (HOP.out _ G1.out).mono ?_
        rintro e w2 ⟨v2, rfl, hi2, hg⟩
        obtain ⟨A2, c2', rfl, _⟩ := hi2.slice
        rw [HLN.out] at hi2 ⊢
        have HI2 := Lib.hid hi2
        have G2 := Lib.hid (G1.out.trans hg)
        have B2 := Lib.hid (keepB B1.out hg)
        clear hi2 hg c0 c1 c2 c3 c4 c5 c6 c7 c8
        obtain ⟨c0, c1, c2, c3, c4, c5, c6, c7, c8⟩ := nine_c B2.out
        go_wp2_with fail
        refine (HH2.out _ _ _ HI2.out).mono ?_
        rintro e w3 ⟨rfl, hg⟩
        have G3 := Lib.hid (G2.out.trans hg)
        have B3 := Lib.hid (keepB B2.out hg)
        replace HI2 := Lib.hid (HI2.out.grew hg)
        clear hg c0 c1 c2 c3 c4 c5 c6 c7 c8
        obtain ⟨c0, c1, c2, c3, c4, c5, c6, c7, c8⟩ := nine_c B3.out
        go_wp2_with fail
        refine (HSH.out _ _ _ HI2.out).mono ?_
        rintro e w4 ha
        obtain ⟨A4, c4', rfl, HI4, hg⟩ := ans2_sl l.length HLB.out ha
        have G4 := Lib.hid (G3.out.trans hg)
        replace HI2 := Lib.hid (HI2.out.grew hg)
        clear ha hg c0 c1 c2 c3 c4 c5 c6 c7 c8
        go_wp2_with fail
        refine (HH3.out _ _ _ HI4.out).mono ?_
        rintro e w5 ⟨rfl, hg⟩
        have G5 := Lib.hid (G4.out.trans hg)
        replace HI2 := Lib.hid (HI2.out.grew hg)
        clear hg
        go_wp2_with fail
        refine (HAL.out _).mono ?_
        rintro e w6 ⟨rfl, hg⟩
        have G6 := Lib.hid (G5.out.trans hg)
        replace HI2 := Lib.hid (HI2.out.grew hg)
        clear hg
        have hwr := HWR.out
        go_wp2_with fail
        refine (HTR.out _ _ _ HI2.out).mono ?_
        rintro e w7 ⟨rfl, hg⟩
        have G7 := Lib.hid (G6.out.trans hg)
        clear hg
        go_wp2
        go_returns
        exact ⟨by simp, G7.out⟩
      · rw [if_neg hov] at HH2
        unfold two at HH2
        simp only at HH2
        have HSB : Hid (IntKind.u64.wrap ((4611686018427387904 : Int) - (ga : Int)) = 4611686018427387904 - (ga : Int)) := Lib.hid (IntWalk.u64_in _ (by have := HGA.out; unfold top at this; omega))
        have HLT : Hid (decide ((4611686018427387904 : Int) - (ga : Int) < (q : Int)) = true) := Lib.hid (decide_eq_true (by have := HGA.out; have := HQ.out; unfold top at *; omega))
        clear hov hk
        go_enter Try.func5, Try.ntmps5
        go_wp2_with fail
        refine (HHE.out _ G0.out).mono ?_
        rintro e w1 ⟨rfl, hg⟩
        have G1 := Lib.hid (G0.out.trans hg)
        have B1 := Lib.hid (keepB B0.out hg)
        clear hg
        obtain ⟨c0, c1, c2, c3, c4, c5, c6, c7, c8⟩ := nine_c B1.out
        go_wp2_with fail
        refine (HOP.out _ G1.out).mono ?_
        rintro e w2 ⟨v2, rfl, hi2, hg⟩
        obtain ⟨A2, c2', rfl, _⟩ := hi2.slice
        rw [HLN.out] at hi2 ⊢
        have HI2 := Lib.hid hi2
        have G2 := Lib.hid (G1.out.trans hg)
        have B2 := Lib.hid (keepB B1.out hg)
        clear hi2 hg c0 c1 c2 c3 c4 c5 c6 c7 c8
        obtain ⟨c0, c1, c2, c3, c4, c5, c6, c7, c8⟩ := nine_c B2.out
        go_wp2_with fail
        refine (HH2.out _ _ _ HI2.out).mono ?_
        rintro e w3 ⟨rfl, hg⟩
        have G3 := Lib.hid (G2.out.trans hg)
        have B3 := Lib.hid (keepB B2.out hg)
        replace HI2 := Lib.hid (HI2.out.grew hg)
        clear hg c0 c1 c2 c3 c4 c5 c6 c7 c8
        go_wp2_with fail
        refine (HAL.out _).mono ?_
        rintro e w6 ⟨rfl, hg⟩
        have G6 := Lib.hid (G3.out.trans hg)
        clear hg
        have hsb := HSB.out
        have hlt := HLT.out
        go_wp2
        go_returns
        exact ⟨by simp, G6.out⟩
    · rw [if_neg hgc, Nat.add_zero, if_pos HQ.out] at HH2
      unfold two at HH2
      simp only at HH2
      have hgc1 : (gc == c) = false := by simpa using hgc
      have HWR : Hid (IntKind.u64.wrap (q : Int) = (q : Int)) := Lib.hid (IntWalk.u64_in _ (by have := HQ.out; unfold top at this; omega))
      clear hgc hk
      go_enter Try.func5, Try.ntmps5
      go_wp2_with fail
      refine (HHE.out _ G0.out).mono ?_
      rintro e w1 ⟨rfl, hg⟩
      have G1 := Lib.hid (G0.out.trans hg)
      have B1 := Lib.hid (keepB B0.out hg)
      clear hg
      obtain ⟨c0, c1, c2, c3, c4, c5, c6, c7, c8⟩ := nine_c B1.out
      go_wp2_with fail
      refine (HOP.out _ G1.out).mono ?_
      rintro e w2 ⟨v2, rfl, hi2, hg⟩
      obtain ⟨A2, c2', rfl, _⟩ := hi2.slice
      rw [HLN.out] at hi2 ⊢
      have HI2 := Lib.hid hi2
      have G2 := Lib.hid (G1.out.trans hg)
      have B2 := Lib.hid (keepB B1.out hg)
      clear hi2 hg c0 c1 c2 c3 c4 c5 c6 c7 c8
      obtain ⟨c0, c1, c2, c3, c4, c5, c6, c7, c8⟩ := nine_c B2.out
      go_wp2_with fail
      refine (HH2.out _ _ _ HI2.out).mono ?_
      rintro e w3 ⟨rfl, hg⟩
      have G3 := Lib.hid (G2.out.trans hg)
      have B3 := Lib.hid (keepB B2.out hg)
      replace HI2 := Lib.hid (HI2.out.grew hg)
      clear hg c0 c1 c2 c3 c4 c5 c6 c7 c8
      obtain ⟨c0, c1, c2, c3, c4, c5, c6, c7, c8⟩ := nine_c B3.out
      go_wp2_with fail
      refine (HSH.out _ _ _ HI2.out).mono ?_
      rintro e w4 ha
      obtain ⟨A4, c4', rfl, HI4, hg⟩ := ans2_sl l.length HLB.out ha
      have G4 := Lib.hid (G3.out.trans hg)
      replace HI2 := Lib.hid (HI2.out.grew hg)
      clear ha hg c0 c1 c2 c3 c4 c5 c6 c7 c8
      go_wp2_with fail
      refine (HH3.out _ _ _ HI4.out).mono ?_
      rintro e w5 ⟨rfl, hg⟩
      have G5 := Lib.hid (G4.out.trans hg)
      replace HI2 := Lib.hid (HI2.out.grew hg)
      clear hg
      go_wp2_with fail
      refine (HAL.out _).mono ?_
      rintro e w6 ⟨rfl, hg⟩
      have G6 := Lib.hid (G5.out.trans hg)
      replace HI2 := Lib.hid (HI2.out.grew hg)
      clear hg
      have hwr := HWR.out
      go_wp2_with fail
      refine (HTR.out _ _ _ HI2.out).mono ?_
      rintro e w7 ⟨rfl, hg⟩
      have G7 := Lib.hid (G6.out.trans hg)
      clear hg
      go_wp2
      go_returns
      exact ⟨by simp, G7.out⟩
  · generalize heldP l c = H at *
    generalize openP l ⟨u0, a, b, gc, ga, gi, wc, wa, wi⟩ = O at *
    obtain ⟨q, e1⟩ := H
    obtain ⟨R, k, er⟩ := O
    unfold two at HHE
    simp only at HHE hgood
    clear HIS HOC
    by_cases he : e1 = 0
    · have her : ¬ er = 0 := fun h => hgood ⟨he, h⟩
      subst he
      have her1 : (er == 0) = false := by simpa using her
      have her2 : (er != 0) = true := by simp [her]
      clear hgood
      go_enter Try.func5, Try.ntmps5
      go_wp2_with fail
      refine (HHE.out _ G0.out).mono ?_
      rintro e w1 ⟨rfl, hg⟩
      have G1 := Lib.hid (G0.out.trans hg)
      have B1 := Lib.hid (keepB B0.out hg)
      clear hg
      obtain ⟨c0, c1, c2, c3, c4, c5, c6, c7, c8⟩ := nine_c B1.out
      go_wp2_with fail
      refine (HOP.out _ G1.out).mono ?_
      rintro e w2 ha
      obtain ⟨A2, c2', rfl, _, hg⟩ := ans3_sl ha
      have G2 := Lib.hid (G1.out.trans hg)
      clear ha hg c0 c1 c2 c3 c4 c5 c6 c7 c8
      go_wp2_with fail
      refine (HAL.out _).mono ?_
      rintro e w6 ⟨rfl, hg⟩
      have G6 := Lib.hid (G2.out.trans hg)
      clear hg
      go_wp2
      go_returns
      exact ⟨rfl, G6.out⟩
    · have he1 : (e1 == 0) = false := by simpa using he
      have he2 : (e1 != 0) = true := by simp [he]
      clear hgood
      go_enter Try.func5, Try.ntmps5
      go_wp2_with fail
      refine (HHE.out _ G0.out).mono ?_
      rintro e w1 ⟨rfl, hg⟩
      have G1 := Lib.hid (G0.out.trans hg)
      have B1 := Lib.hid (keepB B0.out hg)
      clear hg
      obtain ⟨c0, c1, c2, c3, c4, c5, c6, c7, c8⟩ := nine_c B1.out
      go_wp2_with fail
      refine (HOP.out _ G1.out).mono ?_
      rintro e w2 ha
      obtain ⟨A2, c2', rfl, _, hg⟩ := ans3_sl ha
      have G2 := Lib.hid (G1.out.trans hg)
      clear ha hg c0 c1 c2 c3 c4 c5 c6 c7 c8
      go_wp2_with fail
      refine (HAL.out _).mono ?_
      rintro e w6 ⟨rfl, hg⟩
      have G6 := Lib.hid (G2.out.trans hg)
      clear hg
      go_wp2
      go_returns
      exact ⟨rfl, G6.out⟩
end Go.Proofs.Ytcbaaeihppchiaa.PU
