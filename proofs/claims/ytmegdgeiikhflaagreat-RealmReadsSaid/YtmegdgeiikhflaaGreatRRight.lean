/-
  Whether a realm may be, as the program tells it.
  Conditions: the accounts' texts' sizes.
-/
import Derived.Test.YtmegdgeiikhflaaGreatRGuilds
import Derived.Test.YtmegdgeiikhflaaGreatRCaps
import Derived.Test.YtmegdgeiikhflaaGreatRRule3
namespace Go.Proofs.YtmegdgeiikhflaaGreat.RRight
set_option maxRecDepth 100000
open Go Go.RowKit Go.Lib Go.Proofs.YtmegdgeiikhflaaGreat Go.Proofs.YtmegdgeiikhflaaGreat.Facts Go.Proofs.YtmegdgeiikhflaaGreat.Plain Go.Proofs.YtmegdgeiikhflaaGreat.Ints Go.Proofs.YtmegdgeiikhflaaGreat.RRows Go.Proofs.YtmegdgeiikhflaaGreat.LBox Go.Proofs.YtmegdgeiikhflaaGreat.RSmall Go.Proofs.YtmegdgeiikhflaaGreat.RFind Go.Proofs.YtmegdgeiikhflaaGreat.RAll Go.Proofs.YtmegdgeiikhflaaGreat.RRules Go.Proofs.YtmegdgeiikhflaaGreat.RGuilds Go.Proofs.YtmegdgeiikhflaaGreat.RCaps Go.Proofs.YtmegdgeiikhflaaGreat.RRule3

def rule4 (r : Re) : Bool := decide (r.guilds.length ≤ 8) && guildsOk r
set_option maxRecDepth 100000 in
theorem rule4_any (v0 v1 v2 v3 v4 : Value) (r : Re) (w : World) (h0 : Ls w v0 r.labels) (h2 : As w v2 r.accounts) (h3 : Gs w v3 r.guilds) :
    Calls Tryz.prog 118 #[.agg #[v0, v1, v2, v3, v4, .int .i64 r.orders, .int .i64 r.audits, .int .i64 r.rate, .int .i64 r.rounds]] w fun e w' => e = .returned (.bool (rule4 r)) ∧ Grew w w' := by
  have G0 : Hid (Grew w (w.alloc (Obj.cells #[v0, v1, v2, v3, v4, .int .i64 r.orders, .int .i64 r.audits, .int .i64 r.rate, .int .i64 r.rounds] 28))) := Lib.hid (by unfold Grew; go_grown)
  have A0 : Hid ((w.alloc (Obj.cells #[v0, v1, v2, v3, v4, .int .i64 r.orders, .int .i64 r.audits, .int .i64 r.rate, .int .i64 r.rounds] 28)).heap[w.heap.size]? = some (rcell v0 v1 v2 v3 v4 r.orders r.audits r.rate r.rounds)) := Lib.hid (heap_alloc_new w _)
  have HGU := Lib.hid (fun W hg => guilds_any v0 v1 v2 v3 v4 r W (h0.grew (w' := W) hg) (h2.grew hg) (h3.grew hg))
  obtain ⟨A0', cp0, rfl, hd1, hd2⟩ := h0.slice
  obtain ⟨A2', cp2, rfl, he1, he2⟩ := h2.slice
  obtain ⟨A3', cp3, rfl, hf1, hf2⟩ := h3.slice
  clear h0 h2 h3
  unfold rule4
  generalize guildsOk r = b1 at *
  obtain ⟨r0, r1, r2, r3, r4, r5, r6, r7, r8⟩ := re_cells A0.out
  by_cases hlen : r.guilds.length ≤ 8
  · have hl2 : (r.guilds.length : Int) ≤ 8 := by omega
    rw [decide_eq_true hlen]
    clear hlen
    cases b1
    all_goals
      go_enter Tryz.func118, Tryz.ntmps118
      go_wp2_with fail
      with_reducible refine (HGU.out _ G0.out).mono ?_
      rintro e w1 ⟨rfl, hg⟩
      have G1 := Lib.hid (G0.out.trans hg)
      clear hg r0 r1 r2 r3 r4 r5 r6 r7 r8
      go_wp2
      go_returns
      exact ⟨rfl, G1.out⟩
  · have hl2 : ¬ (r.guilds.length : Int) ≤ 8 := by omega
    rw [decide_eq_false hlen]
    clear hlen
    go_enter Tryz.func118, Tryz.ntmps118
    go_wp2
    go_returns
    exact ⟨rfl, G0.out⟩

def acc (b1 b2 b3 b4 b5 b6 b7 : Bool) : Nat → Bool
  | 0 => true
  | 1 => b1 && true
  | 2 => b2 && (b1 && true)
  | 3 => b3 && (b2 && (b1 && true))
  | 4 => b4 && (b3 && (b2 && (b1 && true)))
  | 5 => b5 && (b4 && (b3 && (b2 && (b1 && true))))
  | 6 => b6 && (b5 && (b4 && (b3 && (b2 && (b1 && true)))))
  | _ => b7 && (b6 && (b5 && (b4 && (b3 && (b2 && (b1 && true))))))
def mayBe (r : Re) : Bool := rule7 r && (rule6 r && (rule5 r && (rule4 r && (rule3 r && (rule2 r && (rule1 r && true))))))
set_option maxRecDepth 100000 in
set_option maxHeartbeats 2000000 in
theorem right_re (v : Value) (r : Re) (w : World) (h : ReIs w v r) (hs : Sized r) : Calls Tryz.prog 11 #[v] w fun e w' => e = .returned (.bool (mayBe r)) ∧ Grew w w' := by
  obtain ⟨v0, v1, v2, v3, v4, rfl, h0, h1, h2, h3, h4⟩ := h
  have H1 := Lib.hid (fun W hg => rule1_any v0 v1 v2 v3 v4 r W (h0.grew (w' := W) hg))
  have H2 := Lib.hid (fun W hg => rule2_any v0 v1 v2 v3 v4 r W (h0.grew (w' := W) hg) (h1.grew hg))
  have H3 := Lib.hid (fun W hg => rule3_any v0 v1 v2 v3 v4 r W (h2.grew (w' := W) hg) hs)
  have H4 := Lib.hid (fun W hg => rule4_any v0 v1 v2 v3 v4 r W (h0.grew (w' := W) hg) (h2.grew hg) (h3.grew hg))
  have H5 := Lib.hid (fun W hg => rule5_any v0 v1 v2 v3 v4 r W (h0.grew (w' := W) hg) (h4.grew hg))
  have H6 := Lib.hid (fun W => rule6_any v0 v1 v2 v3 v4 r W)
  have H7 := Lib.hid (fun W => rule7_any v0 v1 v2 v3 v4 r W)
  unfold mayBe
  generalize rule1 r = b1 at *
  generalize rule2 r = b2 at *
  generalize rule3 r = b3 at *
  generalize rule4 r = b4 at *
  generalize rule5 r = b5 at *
  generalize rule6 r = b6 at *
  generalize rule7 r = b7 at *
  obtain ⟨A0', cp0, rfl, _⟩ := h0.slice
  obtain ⟨A1', cp1, rfl, _⟩ := id h1
  obtain ⟨A2', cp2, rfl, _⟩ := h2.slice
  obtain ⟨A3', cp3, rfl, _⟩ := h3.slice
  obtain ⟨A4', cp4, rfl, _⟩ := h4.slice
  clear h0 h1 h2 h3 h4 hs
  have hr : ∀ W, Calls Tryz.prog 47 #[] W fun e w' => ∃ B, e = .returned (.slice (some ⟨B, 0, none⟩) 7 7) ∧ w'.heap[B]? = some (.cells #[.func (.func 106) #[] #[], .func (.func 111) #[] #[], .func (.func 114) #[] #[], .func (.func 118) #[] #[], .func (.func 120) #[] #[], .func (.func 125) #[] #[], .func (.func 126) #[] #[]] 32 (0, 0)) ∧ Grew W w' := fun W => by
    go_enter Tryz.func47, Tryz.ntmps47
    go_wp2
    go_returns
    exact ⟨_, rfl, heap_alloc_new W _, by unfold Grew; go_grown⟩
  have HRU := Lib.hid hr
  clear hr
  have G0 : Hid (Grew w (w.alloc (Obj.cells #[.slice A0' r.labels.length cp0, .slice A1' r.lines.length cp1, .slice A2' r.accounts.length cp2, .slice A3' r.guilds.length cp3, .slice A4' r.quotas.length cp4, .int .i64 r.orders, .int .i64 r.audits, .int .i64 r.rate, .int .i64 r.rounds] 28))) := Lib.hid (by unfold Grew; go_grown)
  have R0 : Hid ((w.alloc (Obj.cells #[.slice A0' r.labels.length cp0, .slice A1' r.lines.length cp1, .slice A2' r.accounts.length cp2, .slice A3' r.guilds.length cp3, .slice A4' r.quotas.length cp4, .int .i64 r.orders, .int .i64 r.audits, .int .i64 r.rate, .int .i64 r.rounds] 28)).heap[w.heap.size]? = some (rcell (.slice A0' r.labels.length cp0) (.slice A1' r.lines.length cp1) (.slice A2' r.accounts.length cp2) (.slice A3' r.guilds.length cp3) (.slice A4' r.quotas.length cp4) r.orders r.audits r.rate r.rounds)) := Lib.hid (heap_alloc_new w _)
  go_enter Tryz.func11, Tryz.ntmps11
  go_wp2_with fail
  with_reducible refine (HRU.out _).mono ?_
  rintro e w1 ⟨B, rfl, hb, hg⟩
  have HB := Lib.hid hb
  have G1 := Lib.hid (G0.out.trans hg)
  have R1 := Lib.hid (keepB R0.out hg)
  clear hb hg
  go_wp2
  go_loopg [3, 8] 7 (fun g s3 s8 wx => ∃ k : Nat, k + g = 7 ∧ s3 = .bool (acc b1 b2 b3 b4 b5 b6 b7 k) ∧ s8 = .int .i64 k ∧ Hid (wx.heap[B]? = some (.cells #[.func (.func 106) #[] #[], .func (.func 111) #[] #[], .func (.func 114) #[] #[], .func (.func 118) #[] #[], .func (.func 120) #[] #[], .func (.func 125) #[] #[], .func (.func 126) #[] #[]] 32 (0, 0))) ∧ Hid (wx.heap[w.heap.size]? = some (rcell (.slice A0' r.labels.length cp0) (.slice A1' r.lines.length cp1) (.slice A2' r.accounts.length cp2) (.slice A3' r.guilds.length cp3) (.slice A4' r.quotas.length cp4) r.orders r.audits r.rate r.rounds)) ∧ Hid (Grew w wx))
  case atStart => exact ⟨0, by omega, rfl, rfl, HB, R1, G1⟩
  case round =>
    obtain ⟨k, hkg, rfl, rfl, HBx, HRx, HG⟩ := hrel
    cases gk with
    | zero =>
      obtain rfl : k = 7 := by omega
      go_wp2
      go_returns
      refine ⟨?_, HG.out⟩
      show Ending.returned (.bool (acc b1 b2 b3 b4 b5 b6 b7 7)) = _
      simp [acc]
    | succ g =>
      obtain ⟨r0, r1, r2, r3, r4, r5, r6, r7, r8⟩ := re_cells HRx.out
      have HF : Hid (∀ j f, (#[.func (.func 106) #[] #[], .func (.func 111) #[] #[], .func (.func 114) #[] #[], .func (.func 118) #[] #[], .func (.func 120) #[] #[], .func (.func 125) #[] #[], .func (.func 126) #[] #[]] : Array Value)[j]? = some f → wr.cell? ⟨B, j, none⟩ = some f) := Lib.hid fun j f hf => by
        rw [cell_of_row _ _ _ _ _ _ HBx.out]
        exact hf
      have hk7 : k = 0 ∨ k = 1 ∨ k = 2 ∨ k = 3 ∨ k = 4 ∨ k = 5 ∨ k = 6 := by omega
      rcases hk7 with rfl | rfl | rfl | rfl | rfl | rfl | rfl
      · have c0 := HF.out 0 _ rfl
        have HC := Lib.hid (H1.out _ HG.out)
        obtain ⟨c, hc⟩ : ∃ c, c = b1 := ⟨_, rfl⟩
        rw [← hc] at HC
        have HE := Lib.hid hc
        clear hc
        cases c
        all_goals
          go_wp2_with fail
          with_reducible refine HC.out.mono ?_
          rintro e w2 ⟨rfl, hg⟩
          have G2 := Lib.hid (HG.out.trans hg)
          have B2 := Lib.hid (keepB HBx.out hg)
          have R2 := Lib.hid (keepB HRx.out hg)
          clear hg c0 r0 r1 r2 r3 r4 r5 r6 r7 r8
          go_wp2
          go_roundg g
          case measure => omega
          case rel => exact ⟨1, by omega, by first | (simp [acc, ← HE.out]; done) | rfl, by first | rfl | simp, B2, R2, G2⟩
      · have c0 := HF.out 1 _ rfl
        have HC := Lib.hid (H2.out _ HG.out)
        obtain ⟨c, hc⟩ : ∃ c, c = b2 := ⟨_, rfl⟩
        rw [← hc] at HC
        have HE := Lib.hid hc
        clear hc
        cases c
        all_goals
          go_wp2_with fail
          with_reducible refine HC.out.mono ?_
          rintro e w2 ⟨rfl, hg⟩
          have G2 := Lib.hid (HG.out.trans hg)
          have B2 := Lib.hid (keepB HBx.out hg)
          have R2 := Lib.hid (keepB HRx.out hg)
          clear hg c0 r0 r1 r2 r3 r4 r5 r6 r7 r8
          go_wp2
          go_roundg g
          case measure => omega
          case rel => exact ⟨2, by omega, by first | (simp [acc, ← HE.out]; done) | rfl, by first | rfl | simp, B2, R2, G2⟩
      · have c0 := HF.out 2 _ rfl
        have HC := Lib.hid (H3.out _ HG.out)
        obtain ⟨c, hc⟩ : ∃ c, c = b3 := ⟨_, rfl⟩
        rw [← hc] at HC
        have HE := Lib.hid hc
        clear hc
        cases c
        all_goals
          go_wp2_with fail
          with_reducible refine HC.out.mono ?_
          rintro e w2 ⟨rfl, hg⟩
          have G2 := Lib.hid (HG.out.trans hg)
          have B2 := Lib.hid (keepB HBx.out hg)
          have R2 := Lib.hid (keepB HRx.out hg)
          clear hg c0 r0 r1 r2 r3 r4 r5 r6 r7 r8
          go_wp2
          go_roundg g
          case measure => omega
          case rel => exact ⟨3, by omega, by first | (simp [acc, ← HE.out]; done) | rfl, by first | rfl | simp, B2, R2, G2⟩
      · have c0 := HF.out 3 _ rfl
        have HC := Lib.hid (H4.out _ HG.out)
        obtain ⟨c, hc⟩ : ∃ c, c = b4 := ⟨_, rfl⟩
        rw [← hc] at HC
        have HE := Lib.hid hc
        clear hc
        cases c
        all_goals
          go_wp2_with fail
          with_reducible refine HC.out.mono ?_
          rintro e w2 ⟨rfl, hg⟩
          have G2 := Lib.hid (HG.out.trans hg)
          have B2 := Lib.hid (keepB HBx.out hg)
          have R2 := Lib.hid (keepB HRx.out hg)
          clear hg c0 r0 r1 r2 r3 r4 r5 r6 r7 r8
          go_wp2
          go_roundg g
          case measure => omega
          case rel => exact ⟨4, by omega, by first | (simp [acc, ← HE.out]; done) | rfl, by first | rfl | simp, B2, R2, G2⟩
      · have c0 := HF.out 4 _ rfl
        have HC := Lib.hid (H5.out _ HG.out)
        obtain ⟨c, hc⟩ : ∃ c, c = b5 := ⟨_, rfl⟩
        rw [← hc] at HC
        have HE := Lib.hid hc
        clear hc
        cases c
        all_goals
          go_wp2_with fail
          with_reducible refine HC.out.mono ?_
          rintro e w2 ⟨rfl, hg⟩
          have G2 := Lib.hid (HG.out.trans hg)
          have B2 := Lib.hid (keepB HBx.out hg)
          have R2 := Lib.hid (keepB HRx.out hg)
          clear hg c0 r0 r1 r2 r3 r4 r5 r6 r7 r8
          go_wp2
          go_roundg g
          case measure => omega
          case rel => exact ⟨5, by omega, by first | (simp [acc, ← HE.out]; done) | rfl, by first | rfl | simp, B2, R2, G2⟩
      · have c0 := HF.out 5 _ rfl
        have HC := Lib.hid (H6.out wr)
        obtain ⟨c, hc⟩ : ∃ c, c = b6 := ⟨_, rfl⟩
        rw [← hc] at HC
        have HE := Lib.hid hc
        clear hc
        cases c
        all_goals
          go_wp2_with fail
          with_reducible refine HC.out.mono ?_
          rintro e w2 ⟨rfl, hg⟩
          have G2 := Lib.hid (HG.out.trans hg)
          have B2 := Lib.hid (keepB HBx.out hg)
          have R2 := Lib.hid (keepB HRx.out hg)
          clear hg c0 r0 r1 r2 r3 r4 r5 r6 r7 r8
          go_wp2
          go_roundg g
          case measure => omega
          case rel => exact ⟨6, by omega, by first | (simp [acc, ← HE.out]; done) | rfl, by first | rfl | simp, B2, R2, G2⟩
      · have c0 := HF.out 6 _ rfl
        have HC := Lib.hid (H7.out wr)
        obtain ⟨c, hc⟩ : ∃ c, c = b7 := ⟨_, rfl⟩
        rw [← hc] at HC
        have HE := Lib.hid hc
        clear hc
        cases c
        all_goals
          go_wp2_with fail
          with_reducible refine HC.out.mono ?_
          rintro e w2 ⟨rfl, hg⟩
          have G2 := Lib.hid (HG.out.trans hg)
          have B2 := Lib.hid (keepB HBx.out hg)
          have R2 := Lib.hid (keepB HRx.out hg)
          clear hg c0 r0 r1 r2 r3 r4 r5 r6 r7 r8
          go_wp2
          go_roundg g
          case measure => omega
          case rel => exact ⟨7, by omega, by first | (simp [acc, ← HE.out]; done) | rfl, by first | rfl | simp, B2, R2, G2⟩
end Go.Proofs.YtmegdgeiikhflaaGreat.RRight
