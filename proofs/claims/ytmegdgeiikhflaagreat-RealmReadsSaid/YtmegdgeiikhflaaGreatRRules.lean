/-
  The rules of a realm, each as the program asks it.
  Conditions: none beyond those that each lemma names.
-/
import Derived.Test.YtmegdgeiikhflaaGreatRRule1
namespace Go.Proofs.YtmegdgeiikhflaaGreat.RRules
set_option maxRecDepth 100000
open Go Go.RowKit Go.Lib Go.Proofs.YtmegdgeiikhflaaGreat Go.Proofs.YtmegdgeiikhflaaGreat.Facts Go.Proofs.YtmegdgeiikhflaaGreat.Plain Go.Proofs.YtmegdgeiikhflaaGreat.Ints Go.Proofs.YtmegdgeiikhflaaGreat.RRows Go.Proofs.YtmegdgeiikhflaaGreat.LBox Go.Proofs.YtmegdgeiikhflaaGreat.RSmall Go.Proofs.YtmegdgeiikhflaaGreat.RFind Go.Proofs.YtmegdgeiikhflaaGreat.RAll Go.Proofs.YtmegdgeiikhflaaGreat.RRule1

def rcell (v0 v1 v2 v3 v4 : Value) (o a rt rn : Int) : Obj := .cells #[v0, v1, v2, v3, v4, .int .i64 o, .int .i64 a, .int .i64 rt, .int .i64 rn] 28 (0, 0)
theorem re_cells {W : World} {B : Nat} {v0 v1 v2 v3 v4 : Value} {o a rt rn : Int} (h : W.heap[B]? = some (rcell v0 v1 v2 v3 v4 o a rt rn)) :
    W.cell? ⟨B, 0, none⟩ = some v0 ∧ W.cell? ⟨B, 1, none⟩ = some v1 ∧ W.cell? ⟨B, 2, none⟩ = some v2 ∧ W.cell? ⟨B, 3, none⟩ = some v3 ∧ W.cell? ⟨B, 4, none⟩ = some v4 ∧
      W.cell? ⟨B, 5, none⟩ = some (.int .i64 o) ∧ W.cell? ⟨B, 6, none⟩ = some (.int .i64 a) ∧ W.cell? ⟨B, 7, none⟩ = some (.int .i64 rt) ∧ W.cell? ⟨B, 8, none⟩ = some (.int .i64 rn) := by
  unfold rcell at h
  refine ⟨?_, ?_, ?_, ?_, ?_, ?_, ?_, ?_, ?_⟩ <;> (rw [cell_of_row _ _ _ _ _ _ h]; rfl)

theorem clo_right (x : La) (B : Nat) (w : World) (h : w.cell? ⟨B, 0, none⟩ = some (.func (.func 109) #[] #[])) :
    Calls Tryz.prog 148 #[.agg #[.int .i64 x.lev, .int .u64 (x.set.toNat : Int)], .pointer (some ⟨B, 0, none⟩)] w fun e w' => e = .returned (.bool (!may x.lev)) ∧ Grew w w' := by
  have g0 : Grew w (w.alloc (Obj.cells #[Value.int IntKind.i64 x.lev, Value.int IntKind.u64 (x.set.toNat : Int)] 31)) := by unfold Grew; go_grown
  have G0 := Lib.hid g0
  have A0 : Hid ((w.alloc (Obj.cells #[Value.int IntKind.i64 x.lev, Value.int IntKind.u64 (x.set.toNat : Int)] 31)).heap[w.heap.size]? = some (.cells #[.int .i64 x.lev, .int .u64 (x.set.toNat : Int)] 31 (0, 0))) := Lib.hid (heap_alloc_new w _)
  have hf := cellB g0 h
  have HRI := Lib.hid (fun W => right_any x.lev x.set W)
  obtain ⟨a0, a1, _, _⟩ := lab_cells A0.out
  generalize may x.lev = b at *
  clear g0 h
  cases b
  all_goals
    go_enter Tryz.func148, Tryz.ntmps148
    go_wp2_with fail
    refine (HRI.out _).mono ?_
    rintro e w2 ⟨rfl, hg⟩
    have G2 := Lib.hid (G0.out.trans hg)
    clear hg
    go_wp2
    go_returns
    exact ⟨rfl, G2.out⟩
theorem all_right (v : Value) (l : List La) (w : World) (h : Ls w v l) : Calls Tryz.prog 108 #[v, .func (.func 109) #[] #[]] w fun e w' => e = .returned (.bool (l.all fun x => may x.lev)) ∧ Grew w w' :=
  allL_any v _ _ _ l (fun x => may x.lev) w h fun x _ W B _ hB => clo_right x B W hB

def rule1 (r : Re) : Bool := wit r.labels.length 1 8 && (r.labels.all (fun x => may x.lev) && rising r.labels)
set_option maxRecDepth 100000 in
theorem rule1_any (v0 v1 v2 v3 v4 : Value) (r : Re) (w : World) (h : Ls w v0 r.labels) :
    Calls Tryz.prog 106 #[.agg #[v0, v1, v2, v3, v4, .int .i64 r.orders, .int .i64 r.audits, .int .i64 r.rate, .int .i64 r.rounds]] w fun e w' => e = .returned (.bool (rule1 r)) ∧ Grew w w' := by
  have G0 : Hid (Grew w (w.alloc (Obj.cells #[v0, v1, v2, v3, v4, .int .i64 r.orders, .int .i64 r.audits, .int .i64 r.rate, .int .i64 r.rounds] 28))) := Lib.hid (by unfold Grew; go_grown)
  have A0 : Hid ((w.alloc (Obj.cells #[v0, v1, v2, v3, v4, .int .i64 r.orders, .int .i64 r.audits, .int .i64 r.rate, .int .i64 r.rounds] 28)).heap[w.heap.size]? = some (rcell v0 v1 v2 v3 v4 r.orders r.audits r.rate r.rounds)) := Lib.hid (heap_alloc_new w _)
  have HWI := Lib.hid (fun W => within_any r.labels.length 1 8 W)
  have HAL := Lib.hid (fun W hg => all_right v0 r.labels W (h.grew (w' := W) hg))
  have HRS := Lib.hid (fun W hg => rising_any v0 r.labels W (h.grew (w' := W) hg))
  obtain ⟨A, cp, rfl, hc1, hc2⟩ := h.slice
  clear h
  unfold rule1
  generalize wit r.labels.length 1 8 = b0 at *
  generalize (r.labels.all fun x => may x.lev) = b1 at *
  generalize rising r.labels = b2 at *
  cases b0 with
  | false =>
    go_enter Tryz.func106, Tryz.ntmps106
    go_wp2_with fail
    refine (HWI.out _).mono ?_
    rintro e w1 ⟨rfl, hg⟩
    have A1 := Lib.hid (keepB A0.out hg)
    have G1 := Lib.hid (G0.out.trans hg)
    have H1 := Lib.hid hg
    clear hg
    obtain ⟨r0, r1, r2, r3, r4, r5, r6, r7, r8⟩ := re_cells A1.out
    go_wp2
    go_returns
    exact ⟨rfl, G1.out⟩
  | true =>
    cases b1 with
    | false =>
      go_enter Tryz.func106, Tryz.ntmps106
      go_wp2_with fail
      refine (HWI.out _).mono ?_
      rintro e w1 ⟨rfl, hg⟩
      have A1 := Lib.hid (keepB A0.out hg)
      have G1 := Lib.hid (G0.out.trans hg)
      have H1 := Lib.hid hg
      clear hg
      obtain ⟨r0, r1, r2, r3, r4, r5, r6, r7, r8⟩ := re_cells A1.out
      go_wp2_with fail
      refine (HAL.out _ G1.out).mono ?_
      rintro e w2 ⟨rfl, hg⟩
      have A2 := Lib.hid (keepB A1.out hg)
      have G2 := Lib.hid (G1.out.trans hg)
      have H2 := Lib.hid (H1.out.trans hg)
      clear hg
      clear r0 r1 r2 r3 r4 r5 r6 r7 r8
      obtain ⟨r0, r1, r2, r3, r4, r5, r6, r7, r8⟩ := re_cells A2.out
      go_wp2
      go_returns
      exact ⟨rfl, G2.out⟩
    | true =>
      cases b2 with
      | false =>
        go_enter Tryz.func106, Tryz.ntmps106
        go_wp2_with fail
        refine (HWI.out _).mono ?_
        rintro e w1 ⟨rfl, hg⟩
        have A1 := Lib.hid (keepB A0.out hg)
        have G1 := Lib.hid (G0.out.trans hg)
        have H1 := Lib.hid hg
        clear hg
        obtain ⟨r0, r1, r2, r3, r4, r5, r6, r7, r8⟩ := re_cells A1.out
        go_wp2_with fail
        refine (HAL.out _ G1.out).mono ?_
        rintro e w2 ⟨rfl, hg⟩
        have A2 := Lib.hid (keepB A1.out hg)
        have G2 := Lib.hid (G1.out.trans hg)
        have H2 := Lib.hid (H1.out.trans hg)
        clear hg
        clear r0 r1 r2 r3 r4 r5 r6 r7 r8
        obtain ⟨r0, r1, r2, r3, r4, r5, r6, r7, r8⟩ := re_cells A2.out
        go_wp2_with fail
        refine (HRS.out _ G2.out).mono ?_
        rintro e w3 ⟨rfl, hg⟩
        have A3 := Lib.hid (keepB A2.out hg)
        have G3 := Lib.hid (G2.out.trans hg)
        have H3 := Lib.hid (H2.out.trans hg)
        clear hg
        clear r0 r1 r2 r3 r4 r5 r6 r7 r8
        obtain ⟨r0, r1, r2, r3, r4, r5, r6, r7, r8⟩ := re_cells A3.out
        go_wp2
        go_returns
        exact ⟨rfl, G3.out⟩
      | true =>
        go_enter Tryz.func106, Tryz.ntmps106
        go_wp2_with fail
        refine (HWI.out _).mono ?_
        rintro e w1 ⟨rfl, hg⟩
        have A1 := Lib.hid (keepB A0.out hg)
        have G1 := Lib.hid (G0.out.trans hg)
        have H1 := Lib.hid hg
        clear hg
        obtain ⟨r0, r1, r2, r3, r4, r5, r6, r7, r8⟩ := re_cells A1.out
        go_wp2_with fail
        refine (HAL.out _ G1.out).mono ?_
        rintro e w2 ⟨rfl, hg⟩
        have A2 := Lib.hid (keepB A1.out hg)
        have G2 := Lib.hid (G1.out.trans hg)
        have H2 := Lib.hid (H1.out.trans hg)
        clear hg
        clear r0 r1 r2 r3 r4 r5 r6 r7 r8
        obtain ⟨r0, r1, r2, r3, r4, r5, r6, r7, r8⟩ := re_cells A2.out
        go_wp2_with fail
        refine (HRS.out _ G2.out).mono ?_
        rintro e w3 ⟨rfl, hg⟩
        have A3 := Lib.hid (keepB A2.out hg)
        have G3 := Lib.hid (G2.out.trans hg)
        have H3 := Lib.hid (H2.out.trans hg)
        clear hg
        clear r0 r1 r2 r3 r4 r5 r6 r7 r8
        obtain ⟨r0, r1, r2, r3, r4, r5, r6, r7, r8⟩ := re_cells A3.out
        go_wp2
        go_returns
        exact ⟨rfl, G3.out⟩

def rule6 (r : Re) : Bool := wit r.orders 0 24 && wit r.audits 0 48
set_option maxRecDepth 100000 in
theorem rule6_any (v0 v1 v2 v3 v4 : Value) (r : Re) (w : World) :
    Calls Tryz.prog 125 #[.agg #[v0, v1, v2, v3, v4, .int .i64 r.orders, .int .i64 r.audits, .int .i64 r.rate, .int .i64 r.rounds]] w fun e w' => e = .returned (.bool (rule6 r)) ∧ Grew w w' := by
  have G0 : Hid (Grew w (w.alloc (Obj.cells #[v0, v1, v2, v3, v4, .int .i64 r.orders, .int .i64 r.audits, .int .i64 r.rate, .int .i64 r.rounds] 28))) := Lib.hid (by unfold Grew; go_grown)
  have A0 : Hid ((w.alloc (Obj.cells #[v0, v1, v2, v3, v4, .int .i64 r.orders, .int .i64 r.audits, .int .i64 r.rate, .int .i64 r.rounds] 28)).heap[w.heap.size]? = some (rcell v0 v1 v2 v3 v4 r.orders r.audits r.rate r.rounds)) := Lib.hid (heap_alloc_new w _)
  have HW0 := Lib.hid (fun W => within_any r.orders 0 24 W)
  have HW1 := Lib.hid (fun W => within_any r.audits 0 48 W)
  unfold rule6
  generalize wit r.orders 0 24 = b0 at *
  generalize wit r.audits 0 48 = b1 at *
  cases b0 with
  | false =>
    go_enter Tryz.func125, Tryz.ntmps125
    go_wp2_with fail
    refine (HW0.out _).mono ?_
    rintro e w1 ⟨rfl, hg⟩
    have A1 := Lib.hid (keepB A0.out hg)
    have G1 := Lib.hid (G0.out.trans hg)
    have H1 := Lib.hid hg
    clear hg
    obtain ⟨r0, r1, r2, r3, r4, r5, r6, r7, r8⟩ := re_cells A1.out
    go_wp2
    go_returns
    exact ⟨rfl, G1.out⟩
  | true =>
    cases b1 with
    | false =>
      go_enter Tryz.func125, Tryz.ntmps125
      go_wp2_with fail
      refine (HW0.out _).mono ?_
      rintro e w1 ⟨rfl, hg⟩
      have A1 := Lib.hid (keepB A0.out hg)
      have G1 := Lib.hid (G0.out.trans hg)
      have H1 := Lib.hid hg
      clear hg
      obtain ⟨r0, r1, r2, r3, r4, r5, r6, r7, r8⟩ := re_cells A1.out
      go_wp2_with fail
      refine (HW1.out _).mono ?_
      rintro e w2 ⟨rfl, hg⟩
      have A2 := Lib.hid (keepB A1.out hg)
      have G2 := Lib.hid (G1.out.trans hg)
      have H2 := Lib.hid (H1.out.trans hg)
      clear hg
      clear r0 r1 r2 r3 r4 r5 r6 r7 r8
      obtain ⟨r0, r1, r2, r3, r4, r5, r6, r7, r8⟩ := re_cells A2.out
      go_wp2
      go_returns
      exact ⟨rfl, G2.out⟩
    | true =>
      go_enter Tryz.func125, Tryz.ntmps125
      go_wp2_with fail
      refine (HW0.out _).mono ?_
      rintro e w1 ⟨rfl, hg⟩
      have A1 := Lib.hid (keepB A0.out hg)
      have G1 := Lib.hid (G0.out.trans hg)
      have H1 := Lib.hid hg
      clear hg
      obtain ⟨r0, r1, r2, r3, r4, r5, r6, r7, r8⟩ := re_cells A1.out
      go_wp2_with fail
      refine (HW1.out _).mono ?_
      rintro e w2 ⟨rfl, hg⟩
      have A2 := Lib.hid (keepB A1.out hg)
      have G2 := Lib.hid (G1.out.trans hg)
      have H2 := Lib.hid (H1.out.trans hg)
      clear hg
      clear r0 r1 r2 r3 r4 r5 r6 r7 r8
      obtain ⟨r0, r1, r2, r3, r4, r5, r6, r7, r8⟩ := re_cells A2.out
      go_wp2
      go_returns
      exact ⟨rfl, G2.out⟩

def rule7 (r : Re) : Bool := wit r.rate 1 4 && wit r.rounds 1 16
set_option maxRecDepth 100000 in
theorem rule7_any (v0 v1 v2 v3 v4 : Value) (r : Re) (w : World) :
    Calls Tryz.prog 126 #[.agg #[v0, v1, v2, v3, v4, .int .i64 r.orders, .int .i64 r.audits, .int .i64 r.rate, .int .i64 r.rounds]] w fun e w' => e = .returned (.bool (rule7 r)) ∧ Grew w w' := by
  have G0 : Hid (Grew w (w.alloc (Obj.cells #[v0, v1, v2, v3, v4, .int .i64 r.orders, .int .i64 r.audits, .int .i64 r.rate, .int .i64 r.rounds] 28))) := Lib.hid (by unfold Grew; go_grown)
  have A0 : Hid ((w.alloc (Obj.cells #[v0, v1, v2, v3, v4, .int .i64 r.orders, .int .i64 r.audits, .int .i64 r.rate, .int .i64 r.rounds] 28)).heap[w.heap.size]? = some (rcell v0 v1 v2 v3 v4 r.orders r.audits r.rate r.rounds)) := Lib.hid (heap_alloc_new w _)
  have HW0 := Lib.hid (fun W => within_any r.rate 1 4 W)
  have HW1 := Lib.hid (fun W => within_any r.rounds 1 16 W)
  unfold rule7
  generalize wit r.rate 1 4 = b0 at *
  generalize wit r.rounds 1 16 = b1 at *
  cases b0 with
  | false =>
    go_enter Tryz.func126, Tryz.ntmps126
    go_wp2_with fail
    refine (HW0.out _).mono ?_
    rintro e w1 ⟨rfl, hg⟩
    have A1 := Lib.hid (keepB A0.out hg)
    have G1 := Lib.hid (G0.out.trans hg)
    have H1 := Lib.hid hg
    clear hg
    obtain ⟨r0, r1, r2, r3, r4, r5, r6, r7, r8⟩ := re_cells A1.out
    go_wp2
    go_returns
    exact ⟨rfl, G1.out⟩
  | true =>
    cases b1 with
    | false =>
      go_enter Tryz.func126, Tryz.ntmps126
      go_wp2_with fail
      refine (HW0.out _).mono ?_
      rintro e w1 ⟨rfl, hg⟩
      have A1 := Lib.hid (keepB A0.out hg)
      have G1 := Lib.hid (G0.out.trans hg)
      have H1 := Lib.hid hg
      clear hg
      obtain ⟨r0, r1, r2, r3, r4, r5, r6, r7, r8⟩ := re_cells A1.out
      go_wp2_with fail
      refine (HW1.out _).mono ?_
      rintro e w2 ⟨rfl, hg⟩
      have A2 := Lib.hid (keepB A1.out hg)
      have G2 := Lib.hid (G1.out.trans hg)
      have H2 := Lib.hid (H1.out.trans hg)
      clear hg
      clear r0 r1 r2 r3 r4 r5 r6 r7 r8
      obtain ⟨r0, r1, r2, r3, r4, r5, r6, r7, r8⟩ := re_cells A2.out
      go_wp2
      go_returns
      exact ⟨rfl, G2.out⟩
    | true =>
      go_enter Tryz.func126, Tryz.ntmps126
      go_wp2_with fail
      refine (HW0.out _).mono ?_
      rintro e w1 ⟨rfl, hg⟩
      have A1 := Lib.hid (keepB A0.out hg)
      have G1 := Lib.hid (G0.out.trans hg)
      have H1 := Lib.hid hg
      clear hg
      obtain ⟨r0, r1, r2, r3, r4, r5, r6, r7, r8⟩ := re_cells A1.out
      go_wp2_with fail
      refine (HW1.out _).mono ?_
      rintro e w2 ⟨rfl, hg⟩
      have A2 := Lib.hid (keepB A1.out hg)
      have G2 := Lib.hid (G1.out.trans hg)
      have H2 := Lib.hid (H1.out.trans hg)
      clear hg
      clear r0 r1 r2 r3 r4 r5 r6 r7 r8
      obtain ⟨r0, r1, r2, r3, r4, r5, r6, r7, r8⟩ := re_cells A2.out
      go_wp2
      go_returns
      exact ⟨rfl, G2.out⟩


/-- Rule 2's own test: is there a label at this place? -/
theorem clo_place (x : Int) (B R n cp : Nat) (A : Option Addr) (v1 v2 v3 v4 : Value) (o a rt rn : Int) (w : World) (h : w.cell? ⟨B, 0, none⟩ = some (.func (.func 113) #[] #[.pointer (some ⟨R, 0, none⟩)]))
    (hr : w.heap[R]? = some (rcell (.slice A n cp) v1 v2 v3 v4 o a rt rn)) :
    Calls Tryz.prog 150 #[.int .i64 x, .pointer (some ⟨B, 0, none⟩)] w fun e w' => e = .returned (.bool (!inn n x)) ∧ Grew w w' := by
  have HAS := Lib.hid (fun W => hasL_any A n cp x W)
  have HIN : Hid (∀ W, Grew w W → Calls Tryz.prog 113 #[.int .i64 x, .pointer (some ⟨R, 0, none⟩)] W fun e w' => e = .returned (.bool (inn n x)) ∧ Grew W w') := Lib.hid fun W hW => by
    obtain ⟨r0, r1, r2, r3, r4, r5, r6, r7, r8⟩ := re_cells (keepB hr hW)
    generalize inn n x = b at *
    clear hr h hW
    cases b
    all_goals
      go_enter Tryz.func113, Tryz.ntmps113
      go_wp2_with fail
      refine (HAS.out _).mono ?_
      rintro e w2 ⟨rfl, hg⟩
      have G2 := Lib.hid hg
      clear hg
      go_wp2
      go_returns
      exact ⟨rfl, G2.out⟩
  generalize inn n x = b at *
  clear hr HAS
  cases b
  all_goals
    go_enter Tryz.func150, Tryz.ntmps150
    go_wp2_with fail
    refine (HIN.out _ (Grew.refl _)).mono ?_
    rintro e w2 ⟨rfl, hg⟩
    have G2 := Lib.hid hg
    clear hg
    go_wp2
    go_returns
    exact ⟨rfl, G2.out⟩
def rule2 (r : Re) : Bool := wit r.lines.length 1 8 && r.lines.all (inn r.labels.length)
set_option maxRecDepth 100000 in
theorem rule2_any (v0 v1 v2 v3 v4 : Value) (r : Re) (w : World) (h : Ls w v0 r.labels) (h2 : Is w v1 r.lines) :
    Calls Tryz.prog 111 #[.agg #[v0, v1, v2, v3, v4, .int .i64 r.orders, .int .i64 r.audits, .int .i64 r.rate, .int .i64 r.rounds]] w fun e w' => e = .returned (.bool (rule2 r)) ∧ Grew w w' := by
  have G0 : Hid (Grew w (w.alloc (Obj.cells #[v0, v1, v2, v3, v4, .int .i64 r.orders, .int .i64 r.audits, .int .i64 r.rate, .int .i64 r.rounds] 28))) := Lib.hid (by unfold Grew; go_grown)
  have A0 : Hid ((w.alloc (Obj.cells #[v0, v1, v2, v3, v4, .int .i64 r.orders, .int .i64 r.audits, .int .i64 r.rate, .int .i64 r.rounds] 28)).heap[w.heap.size]? = some (rcell v0 v1 v2 v3 v4 r.orders r.audits r.rate r.rounds)) := Lib.hid (heap_alloc_new w _)
  have HWI := Lib.hid (fun W => within_any r.lines.length 1 8 W)
  obtain ⟨A, cp, rfl, hc1, hc2⟩ := h.slice
  have HAL : Hid (∀ W, Grew (w.alloc (Obj.cells #[(.slice A r.labels.length cp), v1, v2, v3, v4, .int .i64 r.orders, .int .i64 r.audits, .int .i64 r.rate, .int .i64 r.rounds] 28)) W → Calls Tryz.prog 112 #[v1, .func (.func 113) #[] #[.pointer (some ⟨w.heap.size, 0, none⟩)]] W fun e w' => e = .returned (.bool (r.lines.all (inn r.labels.length))) ∧ Grew W w') := Lib.hid fun W hg => allI_any v1 _ _ _ r.lines (inn r.labels.length) W ((h2.grew G0.out).grew hg) fun x _ W2 B hg2 hB => clo_place x B w.heap.size r.labels.length cp A v1 v2 v3 v4 r.orders r.audits r.rate r.rounds W2 hB (keepB (keepB A0.out hg) hg2)
  obtain ⟨A1, cp1, rfl, hd1, hd2, _⟩ := id h2
  clear h h2
  unfold rule2
  generalize wit r.lines.length 1 8 = b0 at *
  generalize r.lines.all (inn r.labels.length) = b1 at *
  cases b0 with
  | false =>
    go_enter Tryz.func111, Tryz.ntmps111
    go_wp2_with fail
    refine (HWI.out _).mono ?_
    rintro e w1 ⟨rfl, hg⟩
    have A1 := Lib.hid (keepB A0.out hg)
    have G1 := Lib.hid (G0.out.trans hg)
    have H1 := Lib.hid hg
    clear hg
    obtain ⟨r0, r1, r2, r3, r4, r5, r6, r7, r8⟩ := re_cells A1.out
    go_wp2
    go_returns
    exact ⟨rfl, G1.out⟩
  | true =>
    cases b1 with
    | false =>
      go_enter Tryz.func111, Tryz.ntmps111
      go_wp2_with fail
      refine (HWI.out _).mono ?_
      rintro e w1 ⟨rfl, hg⟩
      have A1 := Lib.hid (keepB A0.out hg)
      have G1 := Lib.hid (G0.out.trans hg)
      have H1 := Lib.hid hg
      clear hg
      obtain ⟨r0, r1, r2, r3, r4, r5, r6, r7, r8⟩ := re_cells A1.out
      go_wp2_with fail
      refine (HAL.out _ H1.out).mono ?_
      rintro e w2 ⟨rfl, hg⟩
      have A2 := Lib.hid (keepB A1.out hg)
      have G2 := Lib.hid (G1.out.trans hg)
      have H2 := Lib.hid (H1.out.trans hg)
      clear hg
      clear r0 r1 r2 r3 r4 r5 r6 r7 r8
      obtain ⟨r0, r1, r2, r3, r4, r5, r6, r7, r8⟩ := re_cells A2.out
      go_wp2
      go_returns
      exact ⟨rfl, G2.out⟩
    | true =>
      go_enter Tryz.func111, Tryz.ntmps111
      go_wp2_with fail
      refine (HWI.out _).mono ?_
      rintro e w1 ⟨rfl, hg⟩
      have A1 := Lib.hid (keepB A0.out hg)
      have G1 := Lib.hid (G0.out.trans hg)
      have H1 := Lib.hid hg
      clear hg
      obtain ⟨r0, r1, r2, r3, r4, r5, r6, r7, r8⟩ := re_cells A1.out
      go_wp2_with fail
      refine (HAL.out _ H1.out).mono ?_
      rintro e w2 ⟨rfl, hg⟩
      have A2 := Lib.hid (keepB A1.out hg)
      have G2 := Lib.hid (G1.out.trans hg)
      have H2 := Lib.hid (H1.out.trans hg)
      clear hg
      clear r0 r1 r2 r3 r4 r5 r6 r7 r8
      obtain ⟨r0, r1, r2, r3, r4, r5, r6, r7, r8⟩ := re_cells A2.out
      go_wp2
      go_returns
      exact ⟨rfl, G2.out⟩

end Go.Proofs.YtmegdgeiikhflaaGreat.RRules
