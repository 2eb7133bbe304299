/-
  The Caps of quotas together; the plaza's room; the rule of quotas.
  Conditions: none.
-/
import Derived.Test.YtmegdgeiikhflaaGreatRRule5
namespace Go.Proofs.YtmegdgeiikhflaaGreat.RCaps
set_option maxRecDepth 100000
open Go Go.RowKit Go.Lib Go.Proofs.YtmegdgeiikhflaaGreat Go.Proofs.YtmegdgeiikhflaaGreat.Facts Go.Proofs.YtmegdgeiikhflaaGreat.Plain Go.Proofs.YtmegdgeiikhflaaGreat.RRows Go.Proofs.YtmegdgeiikhflaaGreat.LBox Go.Proofs.YtmegdgeiikhflaaGreat.RSmall Go.Proofs.YtmegdgeiikhflaaGreat.RFind Go.Proofs.YtmegdgeiikhflaaGreat.RAll Go.Proofs.YtmegdgeiikhflaaGreat.RRules Go.Proofs.YtmegdgeiikhflaaGreat.RRule5

def caps (l : List Qu) : Nat := (l.map (·.cap.toNat)).sum
def capOk (l : List Qu) : Bool := decide (caps l ≤ 4611686018427387904)
theorem caps_step (l : List Qu) (k : Nat) (x : Qu) (h : l[k]? = some x) : caps (l.take (k + 1)) = caps (l.take k) + x.cap.toNat := by
  unfold caps
  rw [List.take_add_one, h, Option.toList_some, List.map_append, List.sum_append]
  simp
theorem caps_le (l : List Qu) (k : Nat) : caps (l.take k) ≤ caps l := by
  have h := congrArg caps (List.take_append_drop k l)
  unfold caps at *
  rw [List.map_append, List.sum_append] at h
  omega

set_option maxRecDepth 100000 in
theorem capped_any (v : Value) (l : List Qu) (w : World) (h : Qs w v l) : Calls Tryz.prog 124 #[v] w fun e w' => e = .returned (.bool (capOk l)) ∧ Grew w w' := by
  have HL := Lib.hid h
  obtain ⟨A, cp, rfl, hc1, hc2⟩ := h.slice
  have HC2 := Lib.hid hc2
  clear h hc2
  have HY : caps l ≤ 4611686018427387904 → Hid (capOk l = true) := fun h => Lib.hid (decide_eq_true h)
  have HNO : ¬ caps l ≤ 4611686018427387904 → Hid (capOk l = false) := fun h => Lib.hid (decide_eq_false h)
  generalize capOk l = res at *
  go_enter Tryz.func124, Tryz.ntmps124
  go_wp2
  go_loopg [3, 8] l.length (fun g s3 s8 wx => ∃ k m : Nat, k + g = l.length ∧ s3 = .int .u64 (m : Int) ∧ s8 = .int .i64 k ∧ m + caps (l.take k) = 4611686018427387904 ∧ Hid (Grew w wx))
  case atStart => exact ⟨0, 4611686018427387904, by omega, rfl, rfl, by simp [caps], Lib.hid (Grew.refl _)⟩
  case round =>
    obtain ⟨k, m, hkg, rfl, rfl, hm, HG⟩ := hrel
    have HM := Lib.hid hm
    cases gk with
    | zero =>
      have hkz : ¬ ((k : Int) < (l.length : Int)) := by omega
      have HR := HY (by rw [List.take_of_length_le (by omega)] at hm; omega)
      clear hm HY HNO
      go_wp2
      go_returns
      refine ⟨?_, HG.out⟩
      rw [HR.out]
      try rfl
    | succ g =>
      have hkz : (k : Int) < (l.length : Int) := by omega
      have hkl : k < l.length := by omega
      have hx : l[k]? = some l[k] := List.getElem?_eq_getElem hkl
      obtain ⟨ad, c2, e, hc, c0, c1, c2', c3, c4, c5⟩ := Qs_at (HL.out.grew HG.out) hx
      injection e with e1 _ e3
      subst e1 e3
      have hst := caps_step l k _ hx
      have hle := caps_le l (k + 1)
      generalize l[k] = x at *
      have hkw : wrap64 ((k : Int) + 1) = (k : Int) + 1 := by
        have hc2 := HC2.out
        unfold maxLen at hc2
        unfold wrap64
        omega
      have G1 : Hid (Grew w (wr.alloc (.cells #[.int .i64 x.rooms, .int .i64 x.exits, .int .i64 x.items, .int .i64 x.mails, .int .i64 x.trades, .int .u64 (x.cap.toNat : Int)] 100))) := Lib.hid (HG.out.trans (by unfold Grew; go_grown))
      by_cases hcap : x.cap.toNat ≤ m
      · have HN : Hid ((m - x.cap.toNat) + caps (l.take (k + 1)) = 4611686018427387904) := Lib.hid (by omega)
        have hws : IntKind.u64.wrap ((m : Int) - (x.cap.toNat : Int)) = ((m - x.cap.toNat : Nat) : Int) := by
          rw [IntKind.wrap_u64]
          omega
        have HWS := Lib.hid hws
        have hgt : ¬ ((m : Int) < (x.cap.toNat : Int)) := by omega
        clear hst hle hm hcap hx HY HNO
        generalize m - x.cap.toNat = m2 at *
        generalize x.cap.toNat = cp3 at *
        go_wp2
        go_roundg g
        case measure => omega
        case rel => exact ⟨k + 1, m2, by omega, by first | rfl | simp, by first | rfl | simp [hkw] | simp, HN.out, G1⟩
      · have HR := HNO (by omega)
        have hgt : (m : Int) < (x.cap.toNat : Int) := by omega
        clear hst hle hm hcap hx HY HNO
        go_wp2
        go_returns
        refine ⟨?_, G1.out⟩
        rw [HR.out]
        try rfl
def plazaOk (l : List Qu) : Bool := match l with | [] => false | q :: _ => !decide (q.rooms = 0)
theorem plaza_any (v : Value) (l : List Qu) (w : World) (h : Qs w v l) : Calls Tryz.prog 123 #[v] w fun e w' => e = .returned (.bool (plazaOk l)) ∧ Grew w w' := by
  cases l with
  | nil =>
    obtain ⟨A, cp, rfl, _⟩ := h.slice
    show Calls Tryz.prog 123 #[.slice A 0 cp] w fun e w' => e = .returned (.bool false) ∧ Grew w w'
    clear h
    go_enter Tryz.func123, Tryz.ntmps123
    go_wp2
    go_returns
    exact ⟨rfl, Grew.refl _⟩
  | cons q l =>
    obtain ⟨ad, c2, rfl, hc, c0, _⟩ := Qs_at h (k := 0) rfl
    have c0' : w.cell? ad = some (.int .i64 q.rooms) := by simpa [Addr.add] using c0
    have hlen : (q :: l).length = l.length + 1 := rfl
    rw [hlen]
    show Calls Tryz.prog 123 _ w fun e w' => e = .returned (.bool (!decide (q.rooms = 0))) ∧ Grew w w'
    clear h c0 hc hlen
    have hpos : (0 : Int) < ((l.length : Int) + 1) := by omega
    by_cases hr : q.rooms = 0
    · rw [decide_eq_true hr]
      go_enter Tryz.func123, Tryz.ntmps123
      go_wp2
      go_returns
      exact ⟨by simp, Grew.refl _⟩
    · rw [decide_eq_false hr]
      go_enter Tryz.func123, Tryz.ntmps123
      go_wp2
      go_returns
      exact ⟨by simp [hr], Grew.refl _⟩
def qcell (x : Qu) : Obj := .cells #[.int .i64 x.rooms, .int .i64 x.exits, .int .i64 x.items, .int .i64 x.mails, .int .i64 x.trades, .int .u64 (x.cap.toNat : Int)] 100 (0, 0)
theorem qu_cells {W : World} {B : Nat} {x : Qu} (h : W.heap[B]? = some (qcell x)) :
    W.cell? ⟨B, 0, none⟩ = some (.int .i64 x.rooms) ∧ W.cell? ⟨B, 1, none⟩ = some (.int .i64 x.exits) ∧ W.cell? ⟨B, 2, none⟩ = some (.int .i64 x.items) ∧ W.cell? ⟨B, 3, none⟩ = some (.int .i64 x.mails) ∧ W.cell? ⟨B, 4, none⟩ = some (.int .i64 x.trades) ∧ W.cell? ⟨B, 5, none⟩ = some (.int .u64 (x.cap.toNat : Int)) := by
  unfold qcell at h
  refine ⟨?_, ?_, ?_, ?_, ?_, ?_⟩ <;> (rw [cell_of_row _ _ _ _ _ _ h]; rfl)
theorem clo_quota (x : Qu) (B : Nat) (w : World) (h : w.cell? ⟨B, 0, none⟩ = some (.func (.func 122) #[] #[])) :
    Calls Tryz.prog 162 #[.agg #[.int .i64 x.rooms, .int .i64 x.exits, .int .i64 x.items, .int .i64 x.mails, .int .i64 x.trades, .int .u64 (x.cap.toNat : Int)], .pointer (some ⟨B, 0, none⟩)] w fun e w' => e = .returned (.bool (!quOk x)) ∧ Grew w w' := by
  have g0 : Grew w (w.alloc (Obj.cells #[.int .i64 x.rooms, .int .i64 x.exits, .int .i64 x.items, .int .i64 x.mails, .int .i64 x.trades, .int .u64 (x.cap.toNat : Int)] 100)) := by unfold Grew; go_grown
  have G0 := Lib.hid g0
  have A0 : Hid ((w.alloc (Obj.cells #[.int .i64 x.rooms, .int .i64 x.exits, .int .i64 x.items, .int .i64 x.mails, .int .i64 x.trades, .int .u64 (x.cap.toNat : Int)] 100)).heap[w.heap.size]? = some (qcell x)) := Lib.hid (heap_alloc_new w _)
  have hf := cellB g0 h
  have HRI := Lib.hid (fun W => quota_any x W)
  obtain ⟨a0, a1, a2, a3, a4, a5⟩ := qu_cells A0.out
  generalize quOk x = b at *
  clear g0 h
  cases b
  all_goals
    go_enter Tryz.func162, Tryz.ntmps162
    go_wp2_with fail
    refine (HRI.out _).mono ?_
    rintro e w2 ⟨rfl, hg⟩
    have G2 := Lib.hid (G0.out.trans hg)
    clear hg
    go_wp2
    go_returns
    exact ⟨rfl, G2.out⟩
theorem all_quotas (v : Value) (l : List Qu) (w : World) (h : Qs w v l) : Calls Tryz.prog 121 #[v, .func (.func 122) #[] #[]] w fun e w' => e = .returned (.bool (l.all quOk)) ∧ Grew w w' :=
  allQ_any v _ _ _ l quOk w h fun x _ W B _ hB => clo_quota x B W hB
def rule5 (r : Re) : Bool := decide (r.quotas.length = r.labels.length) && (r.quotas.all quOk && (plazaOk r.quotas && capOk r.quotas))
set_option maxRecDepth 100000 in
set_option maxHeartbeats 1000000 in
theorem rule5_any (v0 v1 v2 v3 v4 : Value) (r : Re) (w : World) (h0 : Ls w v0 r.labels) (h : Qs w v4 r.quotas) :
    Calls Tryz.prog 120 #[.agg #[v0, v1, v2, v3, v4, .int .i64 r.orders, .int .i64 r.audits, .int .i64 r.rate, .int .i64 r.rounds]] w fun e w' => e = .returned (.bool (rule5 r)) ∧ Grew w w' := by
  have G0 : Hid (Grew w (w.alloc (Obj.cells #[v0, v1, v2, v3, v4, .int .i64 r.orders, .int .i64 r.audits, .int .i64 r.rate, .int .i64 r.rounds] 28))) := Lib.hid (by unfold Grew; go_grown)
  have A0 : Hid ((w.alloc (Obj.cells #[v0, v1, v2, v3, v4, .int .i64 r.orders, .int .i64 r.audits, .int .i64 r.rate, .int .i64 r.rounds] 28)).heap[w.heap.size]? = some (rcell v0 v1 v2 v3 v4 r.orders r.audits r.rate r.rounds)) := Lib.hid (heap_alloc_new w _)
  have HAL := Lib.hid (fun W hg => all_quotas v4 r.quotas W (h.grew (w' := W) hg))
  have HPL := Lib.hid (fun W hg => plaza_any v4 r.quotas W (h.grew (w' := W) hg))
  have HCP := Lib.hid (fun W hg => capped_any v4 r.quotas W (h.grew (w' := W) hg))
  obtain ⟨A, cp, rfl, hc1, hc2⟩ := h.slice
  obtain ⟨A0', cp0, rfl, hd1, hd2⟩ := h0.slice
  clear h h0
  unfold rule5
  generalize r.quotas.all quOk = b1 at *
  generalize plazaOk r.quotas = b2 at *
  generalize capOk r.quotas = b3 at *
  by_cases hlen : r.quotas.length = r.labels.length
  · have hl2 : (r.quotas.length : Int) = (r.labels.length : Int) := by omega
    rw [decide_eq_true hlen]
    clear hlen
    cases b1 with
    | false =>
      go_enter Tryz.func120, Tryz.ntmps120
      go_wp2_with fail
      refine (HAL.out _ G0.out).mono ?_
      rintro e w1 ⟨rfl, hg⟩
      have A1 := Lib.hid (keepB A0.out hg)
      have G1 := Lib.hid (G0.out.trans hg)
      have H1 := Lib.hid hg
      clear hg
      obtain ⟨r0, r1, r2, r3, r4, r5, r6, r7, r8⟩ := re_cells A1.out
      go_wp2
      go_returns
      exact ⟨rfl, G1.out⟩
    | true =>
      cases b2 with
      | false =>
        go_enter Tryz.func120, Tryz.ntmps120
        go_wp2_with fail
        refine (HAL.out _ G0.out).mono ?_
        rintro e w1 ⟨rfl, hg⟩
        have A1 := Lib.hid (keepB A0.out hg)
        have G1 := Lib.hid (G0.out.trans hg)
        have H1 := Lib.hid hg
        clear hg
        obtain ⟨r0, r1, r2, r3, r4, r5, r6, r7, r8⟩ := re_cells A1.out
        go_wp2_with fail
        refine (HPL.out _ G1.out).mono ?_
        rintro e w2 ⟨rfl, hg⟩
        have A2 := Lib.hid (keepB A1.out hg)
        have G2 := Lib.hid (G1.out.trans hg)
        have H2 := Lib.hid (H1.out.trans hg)
        clear hg
        clear r0 r1 r2 r3 r4 r5 r6 r7 r8
        obtain ⟨r0, r1, r2, r3, r4, r5, r6, r7, r8⟩ := re_cells A2.out
        go_wp2
        go_returns
        exact ⟨rfl, G2.out⟩
      | true =>
        cases b3 with
        | false =>
          go_enter Tryz.func120, Tryz.ntmps120
          go_wp2_with fail
          refine (HAL.out _ G0.out).mono ?_
          rintro e w1 ⟨rfl, hg⟩
          have A1 := Lib.hid (keepB A0.out hg)
          have G1 := Lib.hid (G0.out.trans hg)
          have H1 := Lib.hid hg
          clear hg
          obtain ⟨r0, r1, r2, r3, r4, r5, r6, r7, r8⟩ := re_cells A1.out
          go_wp2_with fail
          refine (HPL.out _ G1.out).mono ?_
          rintro e w2 ⟨rfl, hg⟩
          have A2 := Lib.hid (keepB A1.out hg)
          have G2 := Lib.hid (G1.out.trans hg)
          have H2 := Lib.hid (H1.out.trans hg)
          clear hg
          clear r0 r1 r2 r3 r4 r5 r6 r7 r8
          obtain ⟨r0, r1, r2, r3, r4, r5, r6, r7, r8⟩ := re_cells A2.out
          go_wp2_with fail
          refine (HCP.out _ G2.out).mono ?_
          rintro e w3 ⟨rfl, hg⟩
          have A3 := Lib.hid (keepB A2.out hg)
          have G3 := Lib.hid (G2.out.trans hg)
          have H3 := Lib.hid (H2.out.trans hg)
          clear hg
          clear r0 r1 r2 r3 r4 r5 r6 r7 r8
          obtain ⟨r0, r1, r2, r3, r4, r5, r6, r7, r8⟩ := re_cells A3.out
          go_wp2
          go_returns
          exact ⟨rfl, G3.out⟩
        | true =>
          go_enter Tryz.func120, Tryz.ntmps120
          go_wp2_with fail
          refine (HAL.out _ G0.out).mono ?_
          rintro e w1 ⟨rfl, hg⟩
          have A1 := Lib.hid (keepB A0.out hg)
          have G1 := Lib.hid (G0.out.trans hg)
          have H1 := Lib.hid hg
          clear hg
          obtain ⟨r0, r1, r2, r3, r4, r5, r6, r7, r8⟩ := re_cells A1.out
          go_wp2_with fail
          refine (HPL.out _ G1.out).mono ?_
          rintro e w2 ⟨rfl, hg⟩
          have A2 := Lib.hid (keepB A1.out hg)
          have G2 := Lib.hid (G1.out.trans hg)
          have H2 := Lib.hid (H1.out.trans hg)
          clear hg
          clear r0 r1 r2 r3 r4 r5 r6 r7 r8
          obtain ⟨r0, r1, r2, r3, r4, r5, r6, r7, r8⟩ := re_cells A2.out
          go_wp2_with fail
          refine (HCP.out _ G2.out).mono ?_
          rintro e w3 ⟨rfl, hg⟩
          have A3 := Lib.hid (keepB A2.out hg)
          have G3 := Lib.hid (G2.out.trans hg)
          have H3 := Lib.hid (H2.out.trans hg)
          clear hg
          clear r0 r1 r2 r3 r4 r5 r6 r7 r8
          obtain ⟨r0, r1, r2, r3, r4, r5, r6, r7, r8⟩ := re_cells A3.out
          go_wp2
          go_returns
          exact ⟨rfl, G3.out⟩
  · have hl2 : ¬ (r.quotas.length : Int) = (r.labels.length : Int) := by omega
    rw [decide_eq_false hlen]
    clear hlen
    go_enter Tryz.func120, Tryz.ntmps120
    go_wp2
    go_returns
    exact ⟨rfl, G0.out⟩
end Go.Proofs.YtmegdgeiikhflaaGreat.RCaps
