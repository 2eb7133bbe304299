/-
  How many bytes the greatest image has, and a round's record.
  Conditions: those that each lemma names.
-/
import Derived.Test.YtahlheopdneebaaGreatBM
import Derived.Lib.Hide
namespace Go.Proofs.YtahlheopdneebaaGreat.BI
set_option maxRecDepth 100000
set_option maxRecDepth 100000
open Go Go.RowKit Go.Lib Go.Proofs.YtahlheopdneebaaGreat Go.Proofs.YtahlheopdneebaaGreat.Facts Go.Proofs.YtahlheopdneebaaGreat.Ints Go.Proofs.YtahlheopdneebaaGreat.RRows Go.Proofs.YtahlheopdneebaaGreat.RSmall Go.Proofs.YtahlheopdneebaaGreat.RRules Go.Proofs.YtahlheopdneebaaGreat.RCaps Go.Proofs.YtahlheopdneebaaGreat.RRule3 Go.Proofs.YtahlheopdneebaaGreat.RRule5 Go.Proofs.YtahlheopdneebaaGreat.RRight Go.Proofs.YtahlheopdneebaaGreat.BV Go.Proofs.YtahlheopdneebaaGreat.BP Go.Proofs.YtahlheopdneebaaGreat.BN Go.Proofs.YtahlheopdneebaaGreat.BM


def imageP (r : Re) : Int := if mayBe r = true then imgP r else 0
def recordP (r : Re) : Int := if mayBe r = true then recP r else 0
/-- The numbers that are summed, and the sums on the way. -/
structure Sm (F : Nat → Int) (m1 m2 m3 m4 m5 m6 m7 m8 m9 m10 m11 : Int) : Prop where
  z : F 0 = 0
  p0 : ∃ p, IntKind.i64.wrap (9 * 1) = p ∧ IntKind.i64.wrap (F 0 + p) = F 1
  p1 : ∃ p, IntKind.i64.wrap (1 * m1) = p ∧ IntKind.i64.wrap (F 1 + p) = F 2
  p2 : ∃ p, IntKind.i64.wrap (1 * m2) = p ∧ IntKind.i64.wrap (F 2 + p) = F 3
  p3 : ∃ p, IntKind.i64.wrap (14 * m3) = p ∧ IntKind.i64.wrap (F 3 + p) = F 4
  p4 : ∃ p, IntKind.i64.wrap (6 * m4) = p ∧ IntKind.i64.wrap (F 4 + p) = F 5
  p5 : ∃ p, IntKind.i64.wrap (18 * m5) = p ∧ IntKind.i64.wrap (F 5 + p) = F 6
  p6 : ∃ p, IntKind.i64.wrap (45 * m6) = p ∧ IntKind.i64.wrap (F 6 + p) = F 7
  p7 : ∃ p, IntKind.i64.wrap (23 * m7) = p ∧ IntKind.i64.wrap (F 7 + p) = F 8
  p8 : ∃ p, IntKind.i64.wrap (34 * m8) = p ∧ IntKind.i64.wrap (F 8 + p) = F 9
  p9 : ∃ p, IntKind.i64.wrap (64 * m9) = p ∧ IntKind.i64.wrap (F 9 + p) = F 10
  p10 : ∃ p, IntKind.i64.wrap (23 * m10) = p ∧ IntKind.i64.wrap (F 10 + p) = F 11
  p11 : ∃ p, IntKind.i64.wrap (31 * m11) = p ∧ IntKind.i64.wrap (F 11 + p) = F 12
theorem wr (a : Int) (h0 : 0 ≤ a) (h : a ≤ 1000000) : IntKind.i64.wrap a = a := IntWalk.i64_in _ (by omega)
theorem sums {r : Re} (hb : RB r) : ∃ F, Sm F r.lines.length (r.guilds.length * r.accounts.length : Nat) (tog r.quotas).R (tog r.quotas).E (tog r.quotas).I (tog r.quotas).M (tog r.quotas).T (r.labels.length * r.accounts.length : Nat) r.labels.length r.orders r.audits ∧ F 12 = imgP r := by
  obtain ⟨s1, s2, s3, s4, s5⟩ := hb.sums
  have s0 := hb.room
  obtain ⟨q1, q2, q3⟩ := hb.prods
  have := hb.lab1; have := hb.lab8; have := hb.lin1; have := hb.lin8; have := hb.ord0; have := hb.ord24; have := hb.aud0; have := hb.aud48
  unfold imgP
  generalize r.guilds.length * r.accounts.length = g1 at *
  generalize r.labels.length * r.accounts.length = g2 at *
  generalize (tog r.quotas).R = a0 at *
  generalize (tog r.quotas).E = a1 at *
  generalize (tog r.quotas).I = a2 at *
  generalize (tog r.quotas).M = a3 at *
  generalize (tog r.quotas).T = a4 at *
  refine ⟨fun k => match k with | 0 => 0 | 1 => 0 + 9 * 1 | 2 => 0 + 9 * 1 + 1 * (r.lines.length : Int) | 3 => 0 + 9 * 1 + 1 * (r.lines.length : Int) + 1 * (g1 : Int) | 4 => 0 + 9 * 1 + 1 * (r.lines.length : Int) + 1 * (g1 : Int) + 14 * a0 | 5 => 0 + 9 * 1 + 1 * (r.lines.length : Int) + 1 * (g1 : Int) + 14 * a0 + 6 * a1 | 6 => 0 + 9 * 1 + 1 * (r.lines.length : Int) + 1 * (g1 : Int) + 14 * a0 + 6 * a1 + 18 * a2 | 7 => 0 + 9 * 1 + 1 * (r.lines.length : Int) + 1 * (g1 : Int) + 14 * a0 + 6 * a1 + 18 * a2 + 45 * a3 | 8 => 0 + 9 * 1 + 1 * (r.lines.length : Int) + 1 * (g1 : Int) + 14 * a0 + 6 * a1 + 18 * a2 + 45 * a3 + 23 * a4 | 9 => 0 + 9 * 1 + 1 * (r.lines.length : Int) + 1 * (g1 : Int) + 14 * a0 + 6 * a1 + 18 * a2 + 45 * a3 + 23 * a4 + 34 * (g2 : Int) | 10 => 0 + 9 * 1 + 1 * (r.lines.length : Int) + 1 * (g1 : Int) + 14 * a0 + 6 * a1 + 18 * a2 + 45 * a3 + 23 * a4 + 34 * (g2 : Int) + 64 * (r.labels.length : Int) | 11 => 0 + 9 * 1 + 1 * (r.lines.length : Int) + 1 * (g1 : Int) + 14 * a0 + 6 * a1 + 18 * a2 + 45 * a3 + 23 * a4 + 34 * (g2 : Int) + 64 * (r.labels.length : Int) + 23 * r.orders | _ => 0 + 9 * 1 + 1 * (r.lines.length : Int) + 1 * (g1 : Int) + 14 * a0 + 6 * a1 + 18 * a2 + 45 * a3 + 23 * a4 + 34 * (g2 : Int) + 64 * (r.labels.length : Int) + 23 * r.orders + 31 * r.audits, ⟨rfl, ⟨9 * 1, wr _ (by omega) (by omega), wr _ (by show 0 ≤ 0 + 9 * 1; omega) (by show 0 + 9 * 1 ≤ _; omega)⟩, ⟨1 * (r.lines.length : Int), wr _ (by omega) (by omega), wr _ (by show 0 ≤ 0 + 9 * 1 + 1 * (r.lines.length : Int); omega) (by show 0 + 9 * 1 + 1 * (r.lines.length : Int) ≤ _; omega)⟩, ⟨1 * (g1 : Int), wr _ (by omega) (by omega), wr _ (by show 0 ≤ 0 + 9 * 1 + 1 * (r.lines.length : Int) + 1 * (g1 : Int); omega) (by show 0 + 9 * 1 + 1 * (r.lines.length : Int) + 1 * (g1 : Int) ≤ _; omega)⟩, ⟨14 * a0, wr _ (by omega) (by omega), wr _ (by show 0 ≤ 0 + 9 * 1 + 1 * (r.lines.length : Int) + 1 * (g1 : Int) + 14 * a0; omega) (by show 0 + 9 * 1 + 1 * (r.lines.length : Int) + 1 * (g1 : Int) + 14 * a0 ≤ _; omega)⟩, ⟨6 * a1, wr _ (by omega) (by omega), wr _ (by show 0 ≤ 0 + 9 * 1 + 1 * (r.lines.length : Int) + 1 * (g1 : Int) + 14 * a0 + 6 * a1; omega) (by show 0 + 9 * 1 + 1 * (r.lines.length : Int) + 1 * (g1 : Int) + 14 * a0 + 6 * a1 ≤ _; omega)⟩, ⟨18 * a2, wr _ (by omega) (by omega), wr _ (by show 0 ≤ 0 + 9 * 1 + 1 * (r.lines.length : Int) + 1 * (g1 : Int) + 14 * a0 + 6 * a1 + 18 * a2; omega) (by show 0 + 9 * 1 + 1 * (r.lines.length : Int) + 1 * (g1 : Int) + 14 * a0 + 6 * a1 + 18 * a2 ≤ _; omega)⟩, ⟨45 * a3, wr _ (by omega) (by omega), wr _ (by show 0 ≤ 0 + 9 * 1 + 1 * (r.lines.length : Int) + 1 * (g1 : Int) + 14 * a0 + 6 * a1 + 18 * a2 + 45 * a3; omega) (by show 0 + 9 * 1 + 1 * (r.lines.length : Int) + 1 * (g1 : Int) + 14 * a0 + 6 * a1 + 18 * a2 + 45 * a3 ≤ _; omega)⟩, ⟨23 * a4, wr _ (by omega) (by omega), wr _ (by show 0 ≤ 0 + 9 * 1 + 1 * (r.lines.length : Int) + 1 * (g1 : Int) + 14 * a0 + 6 * a1 + 18 * a2 + 45 * a3 + 23 * a4; omega) (by show 0 + 9 * 1 + 1 * (r.lines.length : Int) + 1 * (g1 : Int) + 14 * a0 + 6 * a1 + 18 * a2 + 45 * a3 + 23 * a4 ≤ _; omega)⟩, ⟨34 * (g2 : Int), wr _ (by omega) (by omega), wr _ (by show 0 ≤ 0 + 9 * 1 + 1 * (r.lines.length : Int) + 1 * (g1 : Int) + 14 * a0 + 6 * a1 + 18 * a2 + 45 * a3 + 23 * a4 + 34 * (g2 : Int); omega) (by show 0 + 9 * 1 + 1 * (r.lines.length : Int) + 1 * (g1 : Int) + 14 * a0 + 6 * a1 + 18 * a2 + 45 * a3 + 23 * a4 + 34 * (g2 : Int) ≤ _; omega)⟩, ⟨64 * (r.labels.length : Int), wr _ (by omega) (by omega), wr _ (by show 0 ≤ 0 + 9 * 1 + 1 * (r.lines.length : Int) + 1 * (g1 : Int) + 14 * a0 + 6 * a1 + 18 * a2 + 45 * a3 + 23 * a4 + 34 * (g2 : Int) + 64 * (r.labels.length : Int); omega) (by show 0 + 9 * 1 + 1 * (r.lines.length : Int) + 1 * (g1 : Int) + 14 * a0 + 6 * a1 + 18 * a2 + 45 * a3 + 23 * a4 + 34 * (g2 : Int) + 64 * (r.labels.length : Int) ≤ _; omega)⟩, ⟨23 * r.orders, wr _ (by omega) (by omega), wr _ (by show 0 ≤ 0 + 9 * 1 + 1 * (r.lines.length : Int) + 1 * (g1 : Int) + 14 * a0 + 6 * a1 + 18 * a2 + 45 * a3 + 23 * a4 + 34 * (g2 : Int) + 64 * (r.labels.length : Int) + 23 * r.orders; omega) (by show 0 + 9 * 1 + 1 * (r.lines.length : Int) + 1 * (g1 : Int) + 14 * a0 + 6 * a1 + 18 * a2 + 45 * a3 + 23 * a4 + 34 * (g2 : Int) + 64 * (r.labels.length : Int) + 23 * r.orders ≤ _; omega)⟩, ⟨31 * r.audits, wr _ (by omega) (by omega), wr _ (by show 0 ≤ 0 + 9 * 1 + 1 * (r.lines.length : Int) + 1 * (g1 : Int) + 14 * a0 + 6 * a1 + 18 * a2 + 45 * a3 + 23 * a4 + 34 * (g2 : Int) + 64 * (r.labels.length : Int) + 23 * r.orders + 31 * r.audits; omega) (by show 0 + 9 * 1 + 1 * (r.lines.length : Int) + 1 * (g1 : Int) + 14 * a0 + 6 * a1 + 18 * a2 + 45 * a3 + 23 * a4 + 34 * (g2 : Int) + 64 * (r.labels.length : Int) + 23 * r.orders + 31 * r.audits ≤ _; omega)⟩⟩, ?_⟩
  show 0 + 9 * 1 + 1 * (r.lines.length : Int) + 1 * (g1 : Int) + 14 * a0 + 6 * a1 + 18 * a2 + 45 * a3 + 23 * a4 + 34 * (g2 : Int) + 64 * (r.labels.length : Int) + 23 * r.orders + 31 * r.audits = _
  omega
set_option maxHeartbeats 4000000 in
theorem image_any (v : Value) (r : Re) (w : World) (h : ReIs w v r) (hs : Sized r) : Calls Tryz.prog 7 #[v] w fun e w' => e = .returned (.int .i64 (imageP r)) ∧ Grew w w' := by
  have HRT := Lib.hid (fun W (hg : Grew w W) => right_re v r W (h.grew hg) hs)
  have HND := Lib.hid (fun hb W (hg : Grew w W) => needs_any v r W (h.grew hg) hb)
  have HSU := Lib.hid (sums (r := r))
  have HRB := Lib.hid (RB.of (r := r))
  unfold imageP
  generalize imgP r = IM at *
  obtain ⟨v0, v1, v2, v3, v4, rfl, _⟩ := h
  clear hs
  have gz : Grew w (w.alloc (Obj.cells #[v0, v1, v2, v3, v4, .int .i64 r.orders, .int .i64 r.audits, .int .i64 r.rate, .int .i64 r.rounds] 28)) := by unfold Grew; go_grown
  have G0 := Lib.hid gz
  have X0 : Hid ((w.alloc (Obj.cells #[v0, v1, v2, v3, v4, .int .i64 r.orders, .int .i64 r.audits, .int .i64 r.rate, .int .i64 r.rounds] 28)).heap[w.heap.size]? = some (rcell v0 v1 v2 v3 v4 r.orders r.audits r.rate r.rounds)) := Lib.hid (heap_alloc_new w _)
  clear gz
  cases hm : mayBe r with
  | false =>
    rw [hm] at HRT
    clear HND HSU HRB hm
    rw [if_neg (by decide)]
    go_enter Tryz.func7, Tryz.ntmps7
    go_wp2_with fail
    refine (HRT.out _ G0.out).mono ?_
    rintro e w1 ⟨rfl, hg⟩
    have G1 := Lib.hid (G0.out.trans hg)
    clear hg
    go_wp2
    go_returns
    exact ⟨rfl, G1.out⟩
  | true =>
    have hb := HRB.out hm
    obtain ⟨F, hF, hF12⟩ := HSU.out hb
    have HN := Lib.hid (HND.out hb)
    rw [hm] at HRT
    rw [if_pos rfl, ← hF12]
    have HF := Lib.hid hF
    have HE : Hid (ndv (nds r) = .agg #[.int .i64 9, .int .i64 1, .int .i64 1, .int .i64 (r.lines.length : Int), .int .i64 1, .int .i64 ((r.guilds.length * r.accounts.length : Nat) : Int), .int .i64 14, .int .i64 (tog r.quotas).R, .int .i64 6, .int .i64 (tog r.quotas).E, .int .i64 18, .int .i64 (tog r.quotas).I, .int .i64 45, .int .i64 (tog r.quotas).M, .int .i64 23, .int .i64 (tog r.quotas).T, .int .i64 34, .int .i64 ((r.labels.length * r.accounts.length : Nat) : Int), .int .i64 64, .int .i64 (r.labels.length : Int), .int .i64 23, .int .i64 r.orders, .int .i64 31, .int .i64 r.audits]) := Lib.hid rfl
    rw [HE.out] at HN
    clear HE HND HSU HRB hb hF hF12 hm
    generalize ((r.guilds.length * r.accounts.length : Nat) : Int) = m2 at HF HN
    generalize ((r.labels.length * r.accounts.length : Nat) : Int) = m8 at HF HN
    generalize (r.lines.length : Int) = m1 at HF HN
    generalize (tog r.quotas).R = m3 at HF HN
    generalize (tog r.quotas).E = m4 at HF HN
    generalize (tog r.quotas).I = m5 at HF HN
    generalize (tog r.quotas).M = m6 at HF HN
    generalize (tog r.quotas).T = m7 at HF HN
    generalize (r.labels.length : Int) = m9 at HF HN
    obtain ⟨m10, hm10⟩ : ∃ m, r.orders = m := ⟨_, rfl⟩
    obtain ⟨m11, hm11⟩ : ∃ m, r.audits = m := ⟨_, rfl⟩
    rw [hm10, hm11] at HF HN HRT X0 G0 ⊢
    clear hm10 hm11
    go_enter Tryz.func7, Tryz.ntmps7
    go_wp2_with fail
    refine (HRT.out _ G0.out).mono ?_
    rintro e w1 ⟨rfl, hg⟩
    have G1 := Lib.hid (G0.out.trans hg)
    have X1 := Lib.hid (keepB X0.out hg)
    clear hg X0 G0 HRT
    obtain ⟨r0, r1, r2, r3, r4, r5, r6, r7, r8⟩ := re_cells X1.out
    go_wp2_with fail
    refine (HN.out _ G1.out).mono ?_
    rintro e w2 ⟨rfl, hg⟩
    have G2 := Lib.hid (G1.out.trans hg)
    clear hg X1 G1 HN r0 r1 r2 r3 r4 r5 r6 r7 r8
    have hz := HF.out.z
    go_wp2
    go_loopg [3, 11] 12 (fun g s3 s11 wx => ∃ k : Nat, k + g = 12 ∧ s3 = .int .i64 (F k) ∧ s11 = .int .i64 k ∧ Hid (Grew w wx))
    case atStart => exact ⟨0, rfl, by rw [hz], rfl, G2⟩
    case round =>
      clear hz
      obtain ⟨k, hkg, rfl, rfl, HG⟩ := hrel
      cases gk with
      | zero =>
        have hk : k = 12 := by omega
        subst hk
        clear hkg
        go_wp2
        go_returns
        exact ⟨rfl, HG.out⟩
      | succ g =>
        have hkk : k = 0 ∨ k = 1 ∨ k = 2 ∨ k = 3 ∨ k = 4 ∨ k = 5 ∨ k = 6 ∨ k = 7 ∨ k = 8 ∨ k = 9 ∨ k = 10 ∨ k = 11 := by omega
        rcases hkk with rfl | rfl | rfl | rfl | rfl | rfl | rfl | rfl | rfl | rfl | rfl | rfl
        · obtain ⟨p, h1, h2⟩ := HF.out.p0
          have hgg : g = 11 := by omega
          subst hgg
          have hix : ∀ W, (Instr.index 45 (.agg #[.int .i64 9, .int .i64 1, .int .i64 1, .int .i64 m1, .int .i64 1, .int .i64 m2, .int .i64 14, .int .i64 m3, .int .i64 6, .int .i64 m4, .int .i64 18, .int .i64 m5, .int .i64 45, .int .i64 m6, .int .i64 23, .int .i64 m7, .int .i64 34, .int .i64 m8, .int .i64 64, .int .i64 m9, .int .i64 23, .int .i64 m10, .int .i64 31, .int .i64 m11]) (.int .i64 0)).run Tryz.prog W = .ok (.agg #[.int .i64 9, .int .i64 1]) W := fun W => by kernel_rfl
          clear hkg
          go_wp2
          go_roundg 11
          case measure => omega
          case rel => exact ⟨1, rfl, by first | rfl | (simp; done) | (simp only [Int.mul_one, IntWalk.i64_left] at h1 h2; simp; first | rw [h1, h2] | (rw [← h2, ← h1, show wrap64 9 = 9 from by unfold wrap64; omega])), rfl, Lib.hid (HG.out.trans (by unfold Grew; go_grown))⟩
        · obtain ⟨p, h1, h2⟩ := HF.out.p1
          have hgg : g = 10 := by omega
          subst hgg
          have hix : ∀ W, (Instr.index 45 (.agg #[.int .i64 9, .int .i64 1, .int .i64 1, .int .i64 m1, .int .i64 1, .int .i64 m2, .int .i64 14, .int .i64 m3, .int .i64 6, .int .i64 m4, .int .i64 18, .int .i64 m5, .int .i64 45, .int .i64 m6, .int .i64 23, .int .i64 m7, .int .i64 34, .int .i64 m8, .int .i64 64, .int .i64 m9, .int .i64 23, .int .i64 m10, .int .i64 31, .int .i64 m11]) (.int .i64 1)).run Tryz.prog W = .ok (.agg #[.int .i64 1, .int .i64 m1]) W := fun W => by kernel_rfl
          clear hkg
          go_wp2
          go_roundg 10
          case measure => omega
          case rel => exact ⟨2, rfl, by first | rfl | (simp; done) | (simp only [Int.one_mul, IntWalk.i64_left] at h1 h2; simp; first | rw [h1, h2] | (rw [← h2, ← h1, show wrap64 9 = 9 from by unfold wrap64; omega])), rfl, Lib.hid (HG.out.trans (by unfold Grew; go_grown))⟩
        · obtain ⟨p, h1, h2⟩ := HF.out.p2
          have hgg : g = 9 := by omega
          subst hgg
          have hix : ∀ W, (Instr.index 45 (.agg #[.int .i64 9, .int .i64 1, .int .i64 1, .int .i64 m1, .int .i64 1, .int .i64 m2, .int .i64 14, .int .i64 m3, .int .i64 6, .int .i64 m4, .int .i64 18, .int .i64 m5, .int .i64 45, .int .i64 m6, .int .i64 23, .int .i64 m7, .int .i64 34, .int .i64 m8, .int .i64 64, .int .i64 m9, .int .i64 23, .int .i64 m10, .int .i64 31, .int .i64 m11]) (.int .i64 2)).run Tryz.prog W = .ok (.agg #[.int .i64 1, .int .i64 m2]) W := fun W => by kernel_rfl
          clear hkg
          go_wp2
          go_roundg 9
          case measure => omega
          case rel => exact ⟨3, rfl, by first | rfl | (simp; done) | (simp only [Int.one_mul, IntWalk.i64_left] at h1 h2; simp; first | rw [h1, h2] | (rw [← h2, ← h1, show wrap64 9 = 9 from by unfold wrap64; omega])), rfl, Lib.hid (HG.out.trans (by unfold Grew; go_grown))⟩
        · obtain ⟨p, h1, h2⟩ := HF.out.p3
          have hgg : g = 8 := by omega
          subst hgg
          have hix : ∀ W, (Instr.index 45 (.agg #[.int .i64 9, .int .i64 1, .int .i64 1, .int .i64 m1, .int .i64 1, .int .i64 m2, .int .i64 14, .int .i64 m3, .int .i64 6, .int .i64 m4, .int .i64 18, .int .i64 m5, .int .i64 45, .int .i64 m6, .int .i64 23, .int .i64 m7, .int .i64 34, .int .i64 m8, .int .i64 64, .int .i64 m9, .int .i64 23, .int .i64 m10, .int .i64 31, .int .i64 m11]) (.int .i64 3)).run Tryz.prog W = .ok (.agg #[.int .i64 14, .int .i64 m3]) W := fun W => by kernel_rfl
          clear hkg
          go_wp2
          go_roundg 8
          case measure => omega
          case rel => exact ⟨4, rfl, by first | rfl | (simp [h2]; done) | (simp only [Int.mul_one, Int.one_mul, IntWalk.i64_left] at h1 h2; simp; first | rw [h1, h2] | (rw [← h2, ← h1, show wrap64 9 = 9 from by unfold wrap64; omega])), rfl, Lib.hid (HG.out.trans (by unfold Grew; go_grown))⟩
        · obtain ⟨p, h1, h2⟩ := HF.out.p4
          have hgg : g = 7 := by omega
          subst hgg
          have hix : ∀ W, (Instr.index 45 (.agg #[.int .i64 9, .int .i64 1, .int .i64 1, .int .i64 m1, .int .i64 1, .int .i64 m2, .int .i64 14, .int .i64 m3, .int .i64 6, .int .i64 m4, .int .i64 18, .int .i64 m5, .int .i64 45, .int .i64 m6, .int .i64 23, .int .i64 m7, .int .i64 34, .int .i64 m8, .int .i64 64, .int .i64 m9, .int .i64 23, .int .i64 m10, .int .i64 31, .int .i64 m11]) (.int .i64 4)).run Tryz.prog W = .ok (.agg #[.int .i64 6, .int .i64 m4]) W := fun W => by kernel_rfl
          clear hkg
          go_wp2
          go_roundg 7
          case measure => omega
          case rel => exact ⟨5, rfl, by first | rfl | (simp [h2]; done) | (simp only [Int.mul_one, Int.one_mul, IntWalk.i64_left] at h1 h2; simp; first | rw [h1, h2] | (rw [← h2, ← h1, show wrap64 9 = 9 from by unfold wrap64; omega])), rfl, Lib.hid (HG.out.trans (by unfold Grew; go_grown))⟩
        · obtain ⟨p, h1, h2⟩ := HF.out.p5
          have hgg : g = 6 := by omega
          subst hgg
          have hix : ∀ W, (Instr.index 45 (.agg #[.int .i64 9, .int .i64 1, .int .i64 1, .int .i64 m1, .int .i64 1, .int .i64 m2, .int .i64 14, .int .i64 m3, .int .i64 6, .int .i64 m4, .int .i64 18, .int .i64 m5, .int .i64 45, .int .i64 m6, .int .i64 23, .int .i64 m7, .int .i64 34, .int .i64 m8, .int .i64 64, .int .i64 m9, .int .i64 23, .int .i64 m10, .int .i64 31, .int .i64 m11]) (.int .i64 5)).run Tryz.prog W = .ok (.agg #[.int .i64 18, .int .i64 m5]) W := fun W => by kernel_rfl
          clear hkg
          go_wp2
          go_roundg 6
          case measure => omega
          case rel => exact ⟨6, rfl, by first | rfl | (simp [h2]; done) | (simp only [Int.mul_one, Int.one_mul, IntWalk.i64_left] at h1 h2; simp; first | rw [h1, h2] | (rw [← h2, ← h1, show wrap64 9 = 9 from by unfold wrap64; omega])), rfl, Lib.hid (HG.out.trans (by unfold Grew; go_grown))⟩
        · obtain ⟨p, h1, h2⟩ := HF.out.p6
          have hgg : g = 5 := by omega
          subst hgg
          have hix : ∀ W, (Instr.index 45 (.agg #[.int .i64 9, .int .i64 1, .int .i64 1, .int .i64 m1, .int .i64 1, .int .i64 m2, .int .i64 14, .int .i64 m3, .int .i64 6, .int .i64 m4, .int .i64 18, .int .i64 m5, .int .i64 45, .int .i64 m6, .int .i64 23, .int .i64 m7, .int .i64 34, .int .i64 m8, .int .i64 64, .int .i64 m9, .int .i64 23, .int .i64 m10, .int .i64 31, .int .i64 m11]) (.int .i64 6)).run Tryz.prog W = .ok (.agg #[.int .i64 45, .int .i64 m6]) W := fun W => by kernel_rfl
          clear hkg
          go_wp2
          go_roundg 5
          case measure => omega
          case rel => exact ⟨7, rfl, by first | rfl | (simp [h2]; done) | (simp only [Int.mul_one, Int.one_mul, IntWalk.i64_left] at h1 h2; simp; first | rw [h1, h2] | (rw [← h2, ← h1, show wrap64 9 = 9 from by unfold wrap64; omega])), rfl, Lib.hid (HG.out.trans (by unfold Grew; go_grown))⟩
        · obtain ⟨p, h1, h2⟩ := HF.out.p7
          have hgg : g = 4 := by omega
          subst hgg
          have hix : ∀ W, (Instr.index 45 (.agg #[.int .i64 9, .int .i64 1, .int .i64 1, .int .i64 m1, .int .i64 1, .int .i64 m2, .int .i64 14, .int .i64 m3, .int .i64 6, .int .i64 m4, .int .i64 18, .int .i64 m5, .int .i64 45, .int .i64 m6, .int .i64 23, .int .i64 m7, .int .i64 34, .int .i64 m8, .int .i64 64, .int .i64 m9, .int .i64 23, .int .i64 m10, .int .i64 31, .int .i64 m11]) (.int .i64 7)).run Tryz.prog W = .ok (.agg #[.int .i64 23, .int .i64 m7]) W := fun W => by kernel_rfl
          clear hkg
          go_wp2
          go_roundg 4
          case measure => omega
          case rel => exact ⟨8, rfl, by first | rfl | (simp [h2]; done) | (simp only [Int.mul_one, Int.one_mul, IntWalk.i64_left] at h1 h2; simp; first | rw [h1, h2] | (rw [← h2, ← h1, show wrap64 9 = 9 from by unfold wrap64; omega])), rfl, Lib.hid (HG.out.trans (by unfold Grew; go_grown))⟩
        · obtain ⟨p, h1, h2⟩ := HF.out.p8
          have hgg : g = 3 := by omega
          subst hgg
          have hix : ∀ W, (Instr.index 45 (.agg #[.int .i64 9, .int .i64 1, .int .i64 1, .int .i64 m1, .int .i64 1, .int .i64 m2, .int .i64 14, .int .i64 m3, .int .i64 6, .int .i64 m4, .int .i64 18, .int .i64 m5, .int .i64 45, .int .i64 m6, .int .i64 23, .int .i64 m7, .int .i64 34, .int .i64 m8, .int .i64 64, .int .i64 m9, .int .i64 23, .int .i64 m10, .int .i64 31, .int .i64 m11]) (.int .i64 8)).run Tryz.prog W = .ok (.agg #[.int .i64 34, .int .i64 m8]) W := fun W => by kernel_rfl
          clear hkg
          go_wp2
          go_roundg 3
          case measure => omega
          case rel => exact ⟨9, rfl, by first | rfl | (simp [h2]; done) | (simp only [Int.mul_one, Int.one_mul, IntWalk.i64_left] at h1 h2; simp; first | rw [h1, h2] | (rw [← h2, ← h1, show wrap64 9 = 9 from by unfold wrap64; omega])), rfl, Lib.hid (HG.out.trans (by unfold Grew; go_grown))⟩
        · obtain ⟨p, h1, h2⟩ := HF.out.p9
          have hgg : g = 2 := by omega
          subst hgg
          have hix : ∀ W, (Instr.index 45 (.agg #[.int .i64 9, .int .i64 1, .int .i64 1, .int .i64 m1, .int .i64 1, .int .i64 m2, .int .i64 14, .int .i64 m3, .int .i64 6, .int .i64 m4, .int .i64 18, .int .i64 m5, .int .i64 45, .int .i64 m6, .int .i64 23, .int .i64 m7, .int .i64 34, .int .i64 m8, .int .i64 64, .int .i64 m9, .int .i64 23, .int .i64 m10, .int .i64 31, .int .i64 m11]) (.int .i64 9)).run Tryz.prog W = .ok (.agg #[.int .i64 64, .int .i64 m9]) W := fun W => by kernel_rfl
          clear hkg
          go_wp2
          go_roundg 2
          case measure => omega
          case rel => exact ⟨10, rfl, by first | rfl | (simp [h2]; done) | (simp only [Int.mul_one, Int.one_mul, IntWalk.i64_left] at h1 h2; simp; first | rw [h1, h2] | (rw [← h2, ← h1, show wrap64 9 = 9 from by unfold wrap64; omega])), rfl, Lib.hid (HG.out.trans (by unfold Grew; go_grown))⟩
        · obtain ⟨p, h1, h2⟩ := HF.out.p10
          have hgg : g = 1 := by omega
          subst hgg
          have hix : ∀ W, (Instr.index 45 (.agg #[.int .i64 9, .int .i64 1, .int .i64 1, .int .i64 m1, .int .i64 1, .int .i64 m2, .int .i64 14, .int .i64 m3, .int .i64 6, .int .i64 m4, .int .i64 18, .int .i64 m5, .int .i64 45, .int .i64 m6, .int .i64 23, .int .i64 m7, .int .i64 34, .int .i64 m8, .int .i64 64, .int .i64 m9, .int .i64 23, .int .i64 m10, .int .i64 31, .int .i64 m11]) (.int .i64 10)).run Tryz.prog W = .ok (.agg #[.int .i64 23, .int .i64 m10]) W := fun W => by kernel_rfl
          clear hkg
          go_wp2
          go_roundg 1
          case measure => omega
          case rel => exact ⟨11, rfl, by first | rfl | (simp [h2]; done) | (simp only [Int.mul_one, Int.one_mul, IntWalk.i64_left] at h1 h2; simp; first | rw [h1, h2] | (rw [← h2, ← h1, show wrap64 9 = 9 from by unfold wrap64; omega])), rfl, Lib.hid (HG.out.trans (by unfold Grew; go_grown))⟩
        · obtain ⟨p, h1, h2⟩ := HF.out.p11
          have hgg : g = 0 := by omega
          subst hgg
          have hix : ∀ W, (Instr.index 45 (.agg #[.int .i64 9, .int .i64 1, .int .i64 1, .int .i64 m1, .int .i64 1, .int .i64 m2, .int .i64 14, .int .i64 m3, .int .i64 6, .int .i64 m4, .int .i64 18, .int .i64 m5, .int .i64 45, .int .i64 m6, .int .i64 23, .int .i64 m7, .int .i64 34, .int .i64 m8, .int .i64 64, .int .i64 m9, .int .i64 23, .int .i64 m10, .int .i64 31, .int .i64 m11]) (.int .i64 11)).run Tryz.prog W = .ok (.agg #[.int .i64 31, .int .i64 m11]) W := fun W => by kernel_rfl
          clear hkg
          go_wp2
          go_roundg 0
          case measure => omega
          case rel => exact ⟨12, rfl, by first | rfl | (simp [h2]; done) | (simp only [Int.mul_one, Int.one_mul, IntWalk.i64_left] at h1 h2; simp; first | rw [h1, h2] | (rw [← h2, ← h1, show wrap64 9 = 9 from by unfold wrap64; omega])), rfl, Lib.hid (HG.out.trans (by unfold Grew; go_grown))⟩
set_option maxHeartbeats 4000000 in
theorem record_any (v : Value) (r : Re) (w : World) (h : ReIs w v r) (hs : Sized r) : Calls Tryz.prog 9 #[v] w fun e w' => e = .returned (.int .i64 (recordP r)) ∧ Grew w w' := by
  have HRT := Lib.hid (fun W (hg : Grew w W) => right_re v r W (h.grew hg) hs)
  have HRB := Lib.hid (RB.of (r := r))
  unfold recordP
  obtain ⟨v0, v1, v2, v3, v4, rfl, _, h1, _⟩ := h
  obtain ⟨A1, c1, rfl, _⟩ := Rw.slice h1
  clear hs h1
  have gz : Grew w (w.alloc (Obj.cells #[v0, .slice A1 r.lines.length c1, v2, v3, v4, .int .i64 r.orders, .int .i64 r.audits, .int .i64 r.rate, .int .i64 r.rounds] 28)) := by unfold Grew; go_grown
  have G0 := Lib.hid gz
  have X0 : Hid ((w.alloc (Obj.cells #[v0, .slice A1 r.lines.length c1, v2, v3, v4, .int .i64 r.orders, .int .i64 r.audits, .int .i64 r.rate, .int .i64 r.rounds] 28)).heap[w.heap.size]? = some (rcell v0 (.slice A1 r.lines.length c1) v2 v3 v4 r.orders r.audits r.rate r.rounds)) := Lib.hid (heap_alloc_new w _)
  clear gz
  cases hm : mayBe r with
  | false =>
    rw [hm] at HRT
    clear HRB hm
    rw [if_neg (by decide)]
    go_enter Tryz.func9, Tryz.ntmps9
    go_wp2_with fail
    refine (HRT.out _ G0.out).mono ?_
    rintro e w1 ⟨rfl, hg⟩
    have G1 := Lib.hid (G0.out.trans hg)
    clear hg
    go_wp2
    go_returns
    exact ⟨rfl, G1.out⟩
  | true =>
    have hb := HRB.out hm
    have h1 := wr (61 * (r.lines.length : Int)) (by omega) (by have := hb.lin8; omega)
    have h2 := wr (8 + 61 * (r.lines.length : Int)) (by omega) (by have := hb.lin8; omega)
    rw [hm] at HRT
    rw [if_pos rfl]
    clear HRB hb hm
    go_enter Tryz.func9, Tryz.ntmps9
    go_wp2_with fail
    refine (HRT.out _ G0.out).mono ?_
    rintro e w1 ⟨rfl, hg⟩
    have G1 := Lib.hid (G0.out.trans hg)
    have X1 := Lib.hid (keepB X0.out hg)
    clear hg X0 G0 HRT
    obtain ⟨r0, r1, r2, r3, r4, r5, r6, r7, r8⟩ := re_cells X1.out
    go_wp2
    go_returns
    exact ⟨by unfold recP; first | rfl | simp [h1, h2], G1.out⟩
end Go.Proofs.YtahlheopdneebaaGreat.BI
