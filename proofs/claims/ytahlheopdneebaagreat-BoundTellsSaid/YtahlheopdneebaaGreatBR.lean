/-
  What any realm needs, by the document's reference.
  Conditions: those that each lemma names.
-/
import Derived.Test.YtahlheopdneebaaGreatBA
import Derived.Test.YtahlheopdneebaaGreatDR
import Derived.Lib.Hide
import Derived.Deep.LoopGhost
namespace Go.Proofs.YtahlheopdneebaaGreat.BR
set_option maxRecDepth 100000
open Go Go.RowKit Go.Lib Go.Proofs.YtahlheopdneebaaGreat Go.Proofs.YtahlheopdneebaaGreat.Facts Go.Proofs.YtahlheopdneebaaGreat.Ints Go.Proofs.YtahlheopdneebaaGreat.RRows Go.Proofs.YtahlheopdneebaaGreat.RSmall Go.Proofs.YtahlheopdneebaaGreat.RRules Go.Proofs.YtahlheopdneebaaGreat.RCaps Go.Proofs.YtahlheopdneebaaGreat.RRule3 Go.Proofs.YtahlheopdneebaaGreat.RRule5 Go.Proofs.YtahlheopdneebaaGreat.RRight Go.Proofs.YtahlheopdneebaaGreat.HS Go.Proofs.YtahlheopdneebaaGreat.BV Go.Proofs.YtahlheopdneebaaGreat.BP Go.Proofs.YtahlheopdneebaaGreat.BN Go.Proofs.YtahlheopdneebaaGreat.BM Go.Proofs.YtahlheopdneebaaGreat.BI Go.Proofs.YtahlheopdneebaaGreat.BL Go.Proofs.YtahlheopdneebaaGreat.BK Go.Proofs.YtahlheopdneebaaGreat.BA Go.Proofs.YtahlheopdneebaaGreat.DR


def accP (r : Re) (k : Nat) : Int := 9 + r.lines.length + (r.guilds.length * r.accounts.length : Nat) + 23 * r.orders + 31 * r.audits + 14 * sumQ (·.rooms) (r.quotas.take k) + 6 * sumQ (·.exits) (r.quotas.take k) + 18 * sumQ (·.items) (r.quotas.take k) + 45 * sumQ (·.mails) (r.quotas.take k) + 23 * sumQ (·.trades) (r.quotas.take k) + 34 * (k * r.accounts.length : Nat) + 64 * (k : Int)
theorem acc_all {r : Re} (hb : RB r) : accP r r.quotas.length = imgP r := by
  unfold accP imgP tog
  rw [List.take_length, hb.quo]
  simp only
  omega
structure Base (r : Re) (F0 : Int) : Prop where
  p : ∃ b1 b2 b3 b4 b5 b6, IntKind.i64.wrap (9 + (r.lines.length : Int)) = b1 ∧ IntKind.i64.wrap ((r.guilds.length : Int) * (r.accounts.length : Int)) = b2 ∧ IntKind.i64.wrap (b1 + b2) = b3 ∧ IntKind.i64.wrap (23 * r.orders) = b4 ∧ IntKind.i64.wrap (b3 + b4) = b5 ∧ IntKind.i64.wrap (31 * r.audits) = b6 ∧ IntKind.i64.wrap (b5 + b6) = F0
theorem base {r : Re} (hb : RB r) : Base r (accP r 0) := by
  have := hb.lin1; have := hb.lin8; have := hb.ord0; have := hb.ord24; have := hb.aud0; have := hb.aud48
  have hp := hb.prods
  have hz : accP r 0 = 9 + r.lines.length + (r.guilds.length * r.accounts.length : Nat) + 23 * r.orders + 31 * r.audits := by
    unfold accP
    simp [sumQ]
  rw [hz]
  refine ⟨_, _, _, _, _, _, wr _ (by omega) (by omega), wmul _ _ (by omega), wr _ (by omega) (by omega), wr _ (by omega) (by omega), wr _ (by omega) (by omega), wr _ (by omega) (by omega), wr _ (by omega) (by omega)⟩
structure Step (q : Qu) (a : Nat) (F0 F1 : Int) : Prop where
  p : ∃ m1 m2 m3 m4 m5 m6 s1 s2 s3 s4 s5 s6, IntKind.i64.wrap (14 * q.rooms) = m1 ∧ IntKind.i64.wrap (F0 + m1) = s1 ∧ IntKind.i64.wrap (6 * q.exits) = m2 ∧ IntKind.i64.wrap (s1 + m2) = s2 ∧ IntKind.i64.wrap (18 * q.items) = m3 ∧ IntKind.i64.wrap (s2 + m3) = s3 ∧ IntKind.i64.wrap (45 * q.mails) = m4 ∧ IntKind.i64.wrap (s3 + m4) = s4 ∧ IntKind.i64.wrap (23 * q.trades) = m5 ∧ IntKind.i64.wrap (s4 + m5) = s5 ∧ IntKind.i64.wrap (34 * (a : Int)) = m6 ∧ IntKind.i64.wrap (s5 + m6) = s6 ∧ IntKind.i64.wrap (s6 + 64) = F1
theorem step {r : Re} (hb : RB r) {k : Nat} {q : Qu} (hx : r.quotas[k]? = some q) : Step q r.accounts.length (accP r k) (accP r (k + 1)) := by
  have := hb.lin1; have := hb.lin8; have := hb.ord0; have := hb.ord24; have := hb.aud0; have := hb.aud48; have hac := hb.acc8; have hl8 := hb.lab8; have hql := hb.quo
  have hp := hb.prods
  have hk : k < r.quotas.length := (List.getElem?_eq_some_iff.1 hx).1
  obtain ⟨q1, q2, q3, q4, q5⟩ := hb.qok q (List.mem_of_getElem? hx)
  have y1 := sumQ_take (f := (·.rooms)) (fun q h => (hb.qok q h).1) k
  have y2 := sumQ_take (f := (·.exits)) (fun q h => (hb.qok q h).2.1) k
  have y3 := sumQ_take (f := (·.items)) (fun q h => (hb.qok q h).2.2.1) k
  have y4 := sumQ_take (f := (·.mails)) (fun q h => (hb.qok q h).2.2.2.1) k
  have y5 := sumQ_take (f := (·.trades)) (fun q h => (hb.qok q h).2.2.2.2) k
  have hka : k * r.accounts.length ≤ 64 := Nat.mul_le_mul (show k ≤ 8 by omega) hac
  have hz : accP r (k + 1) = accP r k + 14 * q.rooms + 6 * q.exits + 18 * q.items + 45 * q.mails + 23 * q.trades + 34 * (r.accounts.length : Int) + 64 := by
    unfold accP
    rw [sumQ_step _ _ _ _ hx, sumQ_step _ _ _ _ hx, sumQ_step _ _ _ _ hx, sumQ_step _ _ _ _ hx, sumQ_step _ _ _ _ hx, Nat.succ_mul]
    omega
  have h0 : 0 ≤ accP r k ∧ accP r k ≤ 20000 := by
    unfold accP
    omega
  rw [hz]
  generalize accP r k = F0 at *
  refine ⟨_, _, _, _, _, _, _, _, _, _, _, _, wr _ (by omega) (by omega), wr _ (by omega) (by omega), wr _ (by omega) (by omega), wr _ (by omega) (by omega), wr _ (by omega) (by omega), wr _ (by omega) (by omega), wr _ (by omega) (by omega), wr _ (by omega) (by omega), wr _ (by omega) (by omega), wr _ (by omega) (by omega), wr _ (by omega) (by omega), wr _ (by omega) (by omega), wr _ (by omega) (by omega)⟩
set_option maxHeartbeats 4000000 in
theorem rimage_any (v : Value) (r : Re) (w : World) (h : ReIs w v r) (hs : Sized r) : Calls Tryz.prog 8 #[v] w fun e w' => e = .returned (.int .i64 (imageP r)) ∧ Grew w w' := by
  have HRT := Lib.hid (fun W (hg : Grew w W) => rright_any v r W (h.grew hg) hs)
  have HRB := Lib.hid (RB.of (r := r))
  unfold imageP
  obtain ⟨v0, v1, v2, v3, v4, rfl, h0, h1, h2, h3, h4⟩ := h
  have HQ := Lib.hid h4
  obtain ⟨A0, c0, rfl, _⟩ := h0.slice
  obtain ⟨A1, c1, rfl, _⟩ := Rw.slice h1
  obtain ⟨A2, c2, rfl, _⟩ := h2.slice
  obtain ⟨A3, c3, rfl, _⟩ := h3.slice
  obtain ⟨A4, c4, rfl, _⟩ := h4.slice
  clear hs h0 h1 h2 h3 h4
  have gz : Grew w (w.alloc (Obj.cells #[.slice A0 r.labels.length c0, .slice A1 r.lines.length c1, .slice A2 r.accounts.length c2, .slice A3 r.guilds.length c3, .slice A4 r.quotas.length c4, .int .i64 r.orders, .int .i64 r.audits, .int .i64 r.rate, .int .i64 r.rounds] 28)) := by unfold Grew; go_grown
  have G0 := Lib.hid gz
  have X0 : Hid ((w.alloc (Obj.cells #[.slice A0 r.labels.length c0, .slice A1 r.lines.length c1, .slice A2 r.accounts.length c2, .slice A3 r.guilds.length c3, .slice A4 r.quotas.length c4, .int .i64 r.orders, .int .i64 r.audits, .int .i64 r.rate, .int .i64 r.rounds] 28)).heap[w.heap.size]? = some (rcell (.slice A0 r.labels.length c0) (.slice A1 r.lines.length c1) (.slice A2 r.accounts.length c2) (.slice A3 r.guilds.length c3) (.slice A4 r.quotas.length c4) r.orders r.audits r.rate r.rounds)) := Lib.hid (heap_alloc_new w _)
  clear gz
  cases hm : mayBe r with
  | false =>
    rw [hm] at HRT
    clear HRB hm HQ
    rw [if_neg (by decide)]
    go_enter Tryz.func8, Tryz.ntmps8
    go_wp2_with fail
    refine (HRT.out _ G0.out).mono ?_
    rintro e w1 ⟨rfl, hg⟩
    have G1 := Lib.hid (G0.out.trans hg)
    clear hg
    go_wp2
    go_returns
    exact ⟨rfl, G1.out⟩
  | true =>
    have hb := HRB.out hm
    rw [hm] at HRT
    rw [if_pos rfl, ← acc_all hb]
    obtain ⟨b1, b2, b3, b4, b5, b6, e1, e2, e3, e4, e5, e6, e7⟩ := (base hb).p
    have HST := Lib.hid (fun k q => step hb (k := k) (q := q))
    have HQL : Hid (r.quotas.length ≤ 8) := Lib.hid (by rw [hb.quo]; exact hb.lab8)
    clear HRB hm hb
    generalize accP r = F at *
    go_enter Tryz.func8, Tryz.ntmps8
    go_wp2_with fail
    refine (HRT.out _ G0.out).mono ?_
    rintro e w1 ⟨rfl, hg⟩
    have G1 := Lib.hid (G0.out.trans hg)
    have X1 := Lib.hid (keepB X0.out hg)
    clear hg X0 HRT
    obtain ⟨r0, r1, r2, r3, r4, r5, r6, r7, r8⟩ := re_cells X1.out
    go_wp2
    clear e1 e2 e3 e4 e5 e6 e7 r0 r1 r2 r3 r4 r5 r6 r7 r8
    go_loopg [3, 4] r.quotas.length (fun g s3 s4 wx => ∃ k : Nat, k + g = r.quotas.length ∧ s3 = .int .i64 (F k) ∧ s4 = .int .i64 k ∧ Hid (Grew w1 wx))
    case atStart => exact ⟨0, by omega, rfl, rfl, Lib.hid (Grew.refl _)⟩
    case round =>
      obtain ⟨k, hkg, rfl, rfl, HG⟩ := hrel
      obtain ⟨r0, r1, r2, r3, r4, r5, r6, r7, r8⟩ := re_cells (keepB X1.out HG.out)
      cases gk with
      | zero =>
        have hkz : ¬ ((k : Int) < (r.quotas.length : Int)) := by omega
        have HE : Hid (F k = F r.quotas.length) := Lib.hid (by rw [show k = r.quotas.length by omega])
        have GE := Lib.hid (G1.out.trans HG.out)
        clear hkg
        go_wp2
        go_returns
        exact ⟨by rw [← HE.out]; rfl, GE.out⟩
      | succ g =>
        have hkz : (k : Int) < (r.quotas.length : Int) := by omega
        have hkl : k < r.quotas.length := by omega
        obtain ⟨q, hq⟩ : ∃ q, r.quotas[k]? = some q := ⟨_, List.getElem?_eq_getElem hkl⟩
        obtain ⟨m1, m2, m3, m4, m5, m6, s1, s2, s3, s4, s5, s6, x1, x2, x3, x4, x5, x6, x7, x8, x9, x10, x11, x12, x13⟩ := (HST.out k q hq).p
        have HW1 : Hid (wrap64 ((k : Int) + 1) = ((k + 1 : Nat) : Int)) := Lib.hid (by have := HQL.out; unfold wrap64; omega)
        obtain ⟨ad, c9, e, _, d0, d1, d2, d3, d4, d5⟩ := Qs_at (HQ.out.grew (G1.out.trans HG.out)) hq
        injection e with e1 e2 e3
        subst e1 e3
        clear e2 hkl hq
        obtain ⟨q1, q2, q3, q4, q5, q6⟩ := q
        generalize (q6.toNat : Int) = q7 at *
        simp only at d0 d1 d2 d3 d4 d5 x1 x2 x3 x4 x5 x6 x7 x8 x9 x10 x11 x12 x13
        have gq : Grew wr (wr.alloc (.cells #[.int .i64 q1, .int .i64 q2, .int .i64 q3, .int .i64 q4, .int .i64 q5, .int .u64 q7] 49)) := by unfold Grew; exact (Below.refl _ _).alloc (Nat.le_refl _) _
        have r2a := cellG gq r2
        clear gq
        go_wp2
        go_roundg g
        case measure => omega
        case rel => exact ⟨k + 1, by omega, rfl, by first | rfl | (simp; done) | rw [HW1.out], Lib.hid (HG.out.trans (by unfold Grew; go_grown))⟩
set_option maxHeartbeats 4000000 in
theorem rrecord_any (v : Value) (r : Re) (w : World) (h : ReIs w v r) (hs : Sized r) : Calls Tryz.prog 10 #[v] w fun e w' => e = .returned (.int .i64 (recordP r)) ∧ Grew w w' := by
  have HRT := Lib.hid (fun W (hg : Grew w W) => rright_any v r W (h.grew hg) hs)
  have HRB := Lib.hid (RB.of (r := r))
  unfold recordP
  obtain ⟨v0, v1, v2, v3, v4, rfl, h0, h1, h2, h3, h4⟩ := h
  have HQ := Lib.hid h4
  obtain ⟨A0, c0, rfl, _⟩ := h0.slice
  obtain ⟨A1, c1, rfl, _⟩ := Rw.slice h1
  obtain ⟨A2, c2, rfl, _⟩ := h2.slice
  obtain ⟨A3, c3, rfl, _⟩ := h3.slice
  obtain ⟨A4, c4, rfl, _⟩ := h4.slice
  clear hs h0 h1 h2 h3 h4
  have gz : Grew w (w.alloc (Obj.cells #[.slice A0 r.labels.length c0, .slice A1 r.lines.length c1, .slice A2 r.accounts.length c2, .slice A3 r.guilds.length c3, .slice A4 r.quotas.length c4, .int .i64 r.orders, .int .i64 r.audits, .int .i64 r.rate, .int .i64 r.rounds] 28)) := by unfold Grew; go_grown
  have G0 := Lib.hid gz
  have X0 : Hid ((w.alloc (Obj.cells #[.slice A0 r.labels.length c0, .slice A1 r.lines.length c1, .slice A2 r.accounts.length c2, .slice A3 r.guilds.length c3, .slice A4 r.quotas.length c4, .int .i64 r.orders, .int .i64 r.audits, .int .i64 r.rate, .int .i64 r.rounds] 28)).heap[w.heap.size]? = some (rcell (.slice A0 r.labels.length c0) (.slice A1 r.lines.length c1) (.slice A2 r.accounts.length c2) (.slice A3 r.guilds.length c3) (.slice A4 r.quotas.length c4) r.orders r.audits r.rate r.rounds)) := Lib.hid (heap_alloc_new w _)
  clear gz
  clear HQ
  cases hm : mayBe r with
  | false =>
    rw [hm] at HRT
    clear HRB hm
    rw [if_neg (by decide)]
    go_enter Tryz.func10, Tryz.ntmps10
    go_wp2_with fail
    refine (HRT.out _ G0.out).mono ?_
    rintro e w1 ⟨rfl, hg⟩
    have G1 := Lib.hid (G0.out.trans hg)
    clear hg
    go_wp2
    go_returns
    exact ⟨rfl, G1.out⟩
  | true =>
    have hb := HRB.out hm
    have h1 := wr (61 * (r.lines.length : Int)) (by omega) (by have := hb.lin8; omega)
    have h2 := wr (8 + 61 * (r.lines.length : Int)) (by omega) (by have := hb.lin8; omega)
    rw [hm] at HRT
    rw [if_pos rfl]
    clear HRB hb hm
    go_enter Tryz.func10, Tryz.ntmps10
    go_wp2_with fail
    refine (HRT.out _ G0.out).mono ?_
    rintro e w1 ⟨rfl, hg⟩
    have G1 := Lib.hid (G0.out.trans hg)
    have X1 := Lib.hid (keepB X0.out hg)
    clear hg X0 G0 HRT
    obtain ⟨r0, r1, r2, r3, r4, r5, r6, r7, r8⟩ := re_cells X1.out
    go_wp2
    go_returns
    exact ⟨by unfold recP; first | rfl | simp [h1, h2], G1.out⟩
/-- How many times 108 bytes hold so many. -/
theorem up_any (n : Int) (w : World) (h0 : 0 ≤ n) (h1 : n ≤ 900000) : Calls Tryz.prog 18 #[.int .i64 n] w fun e w' => e = .returned (.int .i64 ((n + 107) / 108)) ∧ Grew w w' := by
  have e1 := wr (n + 107) (by omega) (by omega)
  have e2 : Int.tdiv (n + 107) 108 = (n + 107) / 108 := Int.tdiv_eq_ediv_of_nonneg (by omega)
  have e3 := wr ((n + 107) / 108) (by omega) (by omega)
  go_enter Tryz.func18, Tryz.ntmps18
  go_wp2
  go_returns
  exact ⟨by simp, Grew.refl _⟩
end Go.Proofs.YtahlheopdneebaaGreat.BR
