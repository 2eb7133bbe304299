/-
  The sectors of an area, one by one, rising; what a loop over them may write.
  Conditions: those that each lemma names.
-/
import Derived.Test.YtbnicphegbdfnaaAP
import Derived.RangeFuncNested
import Derived.RangeFuncBound
import Derived.RangeFuncCalls
import Derived.RangeFuncLeaves
import Derived.Shelf.Abstract
import Derived.Shelf.RegionOpen
import Derived.WalkKit
import Derived.OwnWalkIn
import Derived.TacticsInMore
import Derived.LoopNIn
import Derived.LoopIn
import Derived.RangeFuncBox
import Derived.RangeFuncWrites
import Derived.Test.YtbnicphegbdfnaaMarks
namespace Go.Proofs.Ytbnicphegbdfnaa.AB
set_option maxRecDepth 100000
open Go Go.RowKit Go.Shelf Go.Proofs.Ytbnicphegbdfnaa Go.Proofs.Ytbnicphegbdfnaa.Facts Go.Proofs.Ytbnicphegbdfnaa.Bytes Go.Proofs.Ytbnicphegbdfnaa.DKeep Go.Proofs.Ytbnicphegbdfnaa.DSmall Go.Proofs.Ytbnicphegbdfnaa.SPure Go.Proofs.Ytbnicphegbdfnaa.JA Go.Proofs.Ytbnicphegbdfnaa.JD Go.Proofs.Ytbnicphegbdfnaa.AP Go.Proofs.Ytbnicphegbdfnaa.AQ Go.Proofs.Ytbnicphegbdfnaa.AA Go.Proofs.Ytbnicphegbdfnaa.AW
attribute [local go_sem] Oper.semAt_some

/-- Two boxes lie as they lay. -/
def KB (a b : Nat) (W W' : World) : Prop := W'.heap[a]? = W.heap[a]? ∧ W'.heap[b]? = W.heap[b]?
theorem kb_t {a b : Nat} {A B C : World} (h : KB a b A B) (k : KB a b B C) : KB a b A C := ⟨k.1.trans h.1, k.2.trans h.2⟩
theorem kb_b {a b : Nat} {w : World} (ha : a < w.heap.size) (hb : b < w.heap.size) (W : World) (l : Nat) (o o' : Obj) (hl : w.heap.size ≤ l) (_ : W.heap[l]? = some o) (_ : o.isCells = false) (_ : o.isWalk = false) : KB a b W (W.putObj l o') :=
  ⟨World.putObj_heap_other (by omega), World.putObj_heap_other (by omega)⟩
theorem sec_any (first many : Int) (w : World) : Calls Try.prog 55 #[.int .i64 first, .int .i64 many] w fun e w' => e = .returned (.func (.func 104) #[] #[.pointer (some ⟨w.heap.size + 1, 0, none⟩), .pointer (some ⟨w.heap.size, 0, none⟩)]) ∧ w' = (w.alloc (Obj.cells #[Value.int .i64 first] 3)).alloc (Obj.cells #[Value.int .i64 many] 3) := by
  go_enter Try.func55, Try.ntmps55
  go_wp2
  go_returns
  exact ⟨by simp, rfl⟩
set_option maxHeartbeats 1000000 in
/-- The iterator, for every loop body that keeps the two boxes. -/
theorem sec_in (n : Nat) (hn : 1 ≤ n) (l Bf Bm first m : Nat) (hfm : first + m ≤ 16384) (J Jx : List (Fin m) → World → Prop)
    (hY : ∀ pre (x : Fin m) W, J pre W → pre.length < m → YieldAt Fence.wide (n - 1) Try.prog l #[.int .i64 ((first : Int) + (x.1 : Int))] W fun e W' =>
      (e = .returned (.bool true) ∧ J (pre ++ [x]) W' ∧ KB Bf Bm W W') ∨ (e = .returned (.bool false) ∧ Jx (pre ++ [x]) W'))
    (W : World) (hBf : W.cell? ⟨Bf, 0, none⟩ = some (.int .i64 (first : Int))) (hBm : W.cell? ⟨Bm, 0, none⟩ = some (.int .i64 (m : Int))) (h0 : J [] W) :
    CallsIn Fence.wide n Try.prog 104 #[.func (.yield l) #[] #[], .pointer (some ⟨Bm, 0, none⟩), .pointer (some ⟨Bf, 0, none⟩)] W fun e W' => (∃ v, e = .returned v) ∧
      ((∃ ys : List (Fin m), ys.map (·.1) = List.range m ∧ J ys W') ∨ (∃ pre : List (Fin m), pre.map (·.1) <+: List.range m ∧ Jx pre W')) := by
  refine callsIn_of_wp Try.func104 rfl trivial ?_ rfl
  simp only [Try.ntmps104, List.size_toArray, List.length_cons, List.length_nil, Nat.reduceAdd, Nat.reduceSub, Array.replicate_succ, Array.replicate_zero, List.push_toArray, List.append_toArray, List.nil_append, List.cons_append]
  gi_wp2
  gi_loopw [6] (fun p wr => ∃ (pre : List (Fin m)) (i : Nat), p = .int .i64 (i : Int) ∧ i ≤ m ∧ pre.map (·.1) = List.range i ∧ wr.cell? ⟨Bf, 0, none⟩ = some (.int .i64 (first : Int)) ∧ J pre wr)
    (fun p _ => m - (intOf p).toNat)
  case atStart =>
    exact ⟨[], 0, rfl, Nat.zero_le _, rfl, hBf, h0⟩
  case round =>
    obtain ⟨pre, i, rfl, him, hpre, hcf, hJ⟩ := hrel
    by_cases hi : i < m
    · have hi' : (i : Int) < (m : Int) := by omega
      have hlen : pre.length < m := by
        have := congrArg List.length hpre
        simp at this
        omega
      obtain ⟨fn, tmps, assign, body, hy, hR⟩ := hY pre ⟨i, hi⟩ wr hJ hlen
      dsimp only at hy
      have hw1 : IntKind.i64.wrap ((first : Int) + (i : Int)) = (first : Int) + (i : Int) := IntWalk.i64_in _ (by omega)
      have hw2 : IntKind.i64.wrap ((i : Int) + 1) = (i : Int) + 1 := IntWalk.i64_in _ (by omega)
      gi_wp2
      refine hR.mono ?_
      rintro e W3 (⟨rfl, hJ3, hk3⟩ | ⟨rfl, hJx3⟩)
      · have hcf3 : W3.cell? ⟨Bf, 0, none⟩ = some (.int .i64 (first : Int)) := (World.cell?_of_block (w := wr) hk3.1).trans hcf
        gi_wp2
        go_roundw
        case rel => exact ⟨pre ++ [⟨i, hi⟩], i + 1, by simp, by omega, by rw [List.map_append, hpre, List.range_succ]; rfl, hcf3, hJ3⟩
        case measure =>
          simp only [intOf]
          omega
      · gi_wp2
        refine bodyPost_ret (results_none rfl _ _ _) rfl ?_
        refine ⟨⟨_, rfl⟩, .inr ⟨pre ++ [⟨i, hi⟩], ?_, hJx3⟩⟩
        rw [List.map_append, hpre, List.map_cons, List.map_nil, ← List.range_succ, show List.range (i + 1) = (List.range m).take (i + 1) by rw [List.take_range, Nat.min_eq_left (by omega)]]
        exact List.take_prefix _ _
    · have hi' : ¬ (i : Int) < (m : Int) := by omega
      gi_wp2
      go_end0
      exact ⟨⟨_, rfl⟩, .inl ⟨pre, by rw [hpre, show i = m by omega], hJ⟩⟩
theorem sec_stops (n : Nat) (hn : 1 ≤ n) (Bf Bm first m : Nat) (hfm : first + m ≤ 16384) (w : World) (hf : Bf < w.heap.size) (hm : Bm < w.heap.size) (hBf : w.cell? ⟨Bf, 0, none⟩ = some (.int .i64 (first : Int))) (hBm : w.cell? ⟨Bm, 0, none⟩ = some (.int .i64 (m : Int))) :
    SeqStopsK Fence.wide n Try.prog 104 #[.pointer (some ⟨Bm, 0, none⟩), .pointer (some ⟨Bf, 0, none⟩)] (fun x : Fin m => #[Value.int .i64 ((first : Int) + (x.1 : Int))]) (KB Bf Bm) (fun ys => ys.map (·.1) = List.range m) (fun pre => pre.map (·.1) <+: List.range m) m w := fun l J Jx W hW _ _ hY h0 =>
  sec_in n hn l Bf Bm first m hfm J Jx hY W ((hW.cell (p := ⟨Bf, 0, none⟩) hf).trans hBf) ((hW.cell (p := ⟨Bm, 0, none⟩) hm).trans hBm) h0

/-- A disk's blocks are cells. -/
theorem DK.slim {w : World} {g : Nat} {D : Nat → Prop} {d : Pd} (h : DK w g D d) : ∃ D0, DK w g D0 d ∧ (∀ k, D0 k → D k) ∧ ∀ k, D0 k → ∃ o : Obj, w.heap[k]? = some o ∧ o.isCells = true := by
  obtain ⟨hD, a, b, ca, cb, vw, h1, h2⟩ := h
  refine ⟨fun k => k = g ∨ k = a ∨ k = b ∨ vw.ownBlock = some k, ⟨?_, a, b, ca, cb, vw, h1, ⟨.inl rfl, .inr (.inl rfl), .inr (.inr (.inl rfl)), fun k hk => .inr (.inr (.inr hk))⟩⟩, ?_, ?_⟩
  · rintro k (rfl | rfl | rfl | hk)
    · exact hD _ h2.g
    · exact hD _ h2.a
    · exact hD _ h2.b
    · exact hD _ (h2.w k hk)
  · rintro k (rfl | rfl | rfl | hk)
    · exact h2.g
    · exact h2.a
    · exact h2.b
    · exact h2.w k hk
  · rintro k (rfl | rfl | rfl | hk)
    · exact ⟨_, h1.blk, rfl⟩
    · obtain ⟨cur, hc, _⟩ := h1.safe
      exact ⟨_, hc, rfl⟩
    · obtain ⟨cur, hc, _⟩ := h1.last
      exact ⟨_, hc, rfl⟩
    · rcases h1.waits.2 with ⟨rfl, _⟩ | ⟨gg, cap, cur, rfl, _, hg, _⟩
      · cases hk
      · simp [Value.ownBlock] at hk
        subst hk
        exact ⟨_, hg, rfl⟩
end Go.Proofs.Ytbnicphegbdfnaa.AB
namespace Go.Proofs.Ytbnicphegbdfnaa.AC
set_option maxRecDepth 100000
open Go Go.RowKit Go.Shelf Go.Proofs.Ytbnicphegbdfnaa Go.Proofs.Ytbnicphegbdfnaa.Facts Go.Proofs.Ytbnicphegbdfnaa.Bytes Go.Proofs.Ytbnicphegbdfnaa.Puts Go.Proofs.Ytbnicphegbdfnaa.DKeep Go.Proofs.Ytbnicphegbdfnaa.DSmall Go.Proofs.Ytbnicphegbdfnaa.SPure Go.Proofs.Ytbnicphegbdfnaa.JA Go.Proofs.Ytbnicphegbdfnaa.JD Go.Proofs.Ytbnicphegbdfnaa.AP Go.Proofs.Ytbnicphegbdfnaa.AQ Go.Proofs.Ytbnicphegbdfnaa.AA Go.Proofs.Ytbnicphegbdfnaa.AW Go.Proofs.Ytbnicphegbdfnaa.AB
attribute [local go_sem] Oper.semAt_some

/-- A disk with new blocks from n on. -/
def AI (w0 : World) (g n : Nat) (D : Nat → Prop) (dk : Pd) (W : World) : Prop := ∃ Dk, DK W g Dk dk ∧ (∀ k, Dk k → D k ∨ n ≤ k) ∧ Kept D w0 W ∧ n ≤ W.heap.size
section
variable {w0 W W' : World} {g n : Nat} {D : Nat → Prop} {dk dk' : Pd}
theorem AI.turn {B : Nat} {row : Option Nat} (h : AI w0 g n D dk W) (hB : w0.heap.size ≤ B) (hg : W.grownBy W' row) (hr : ∀ r, row = some r → B ≤ r ∧ ∃ o : Obj, W.heap[r]? = some o ∧ o.isCells = false) : AI w0 g n D dk W' := by
  obtain ⟨Dk, h1, h2, h3, h4⟩ := h
  obtain ⟨D0, k1, k2, k3⟩ := AB.DK.slim h1
  refine ⟨D0, k1.keep (Kept.of_grown (D := fun k => row = some k) hg fun k e => e) fun k hk e => ?_, fun k hk => h2 k (k2 k hk), ?_, Nat.le_trans h4 hg.size⟩
  · obtain ⟨o, ho, hc⟩ := k3 k hk
    obtain ⟨_, o', ho', hc'⟩ := hr k e
    rw [ho] at ho'
    injection ho' with ho'
    rw [ho', hc'] at hc
    cases hc
  · exact ⟨hg.os.trans h3.os, hg.tape.trans h3.tape, hg.output.trans h3.output, Nat.le_trans h3.size hg.size, fun j hj hd => (hg.block j (Nat.lt_of_lt_of_le hj h3.size) fun e => by have := (hr j e.symm).1; omega).trans (h3.block j hj hd)⟩
/-- Blocks that are no disk's turn. -/
theorem AI.keep {E : Nat → Prop} (h : AI w0 g n D dk W) (hk : Kept E W W') (hE : ∀ k, E k → w0.heap.size ≤ k ∧ k < n) (hD : ∀ k, D k → k < w0.heap.size) : AI w0 g n D dk W' := by
  obtain ⟨Dk, h1, h2, h3, h4⟩ := h
  refine ⟨Dk, h1.keep hk fun k hd he => ?_, h2, ?_, Nat.le_trans h4 hk.size⟩
  · have := hE k he
    rcases h2 k hd with q | q
    · have := hD k q; omega
    · omega
  · exact ⟨hk.os.trans h3.os, hk.tape.trans h3.tape, hk.output.trans h3.output, Nat.le_trans h3.size hk.size, fun j hj hd => (hk.block j (Nat.lt_of_lt_of_le hj h3.size) fun e => by have := (hE j e).1; omega).trans (h3.block j hj hd)⟩
theorem AI.grew (h : AI w0 g n D dk W) (hg : Grew W W') : AI w0 g n D dk W' := by
  obtain ⟨Dk, h1, h2, h3, h4⟩ := h
  exact ⟨Dk, h1.grew hg, h2, h3.trans (Kept.of_grew hg), Nat.le_trans h4 hg.size⟩
/-- A sector is written. -/
theorem AI.write (h : AI w0 g n D dk W) (hw0 : w0.heap.size ≤ n) (x : Int) (v : Value) (S : Nat → Prop) (s : Sec) (q : Int) (hr : Rd S W v s) (hwt : dk.waits.length ≤ 1073741823) (he : DWrite.written dk x s = (dk', q)) :
    Calls Try.prog 32 #[.pointer (some ⟨g, 0, none⟩), .int .i64 x, v] W fun e W' => e = .returned (.int .i64 q) ∧ AI w0 g n D dk' W' ∧ W.heap.size ≤ W'.heap.size ∧ (∀ B, KeepsFrom B W W') ∧ ∀ k, k < W.heap.size → k < n → ¬ D k → W'.heap[k]? = W.heap[k]? := by
  obtain ⟨Dk, h1, h2, h3, h4⟩ := h
  obtain ⟨D0, k1, k2, k3⟩ := AB.DK.slim h1
  refine (DAlive.write_eq W g D0 dk x v S s dk' q k1 hr hwt he).mono ?_
  rintro e W' ⟨rfl, D', hd', hs', hk'⟩
  refine ⟨rfl, ⟨D', hd', fun k hk => ?_, kept_trans h3 hk' fun k hk => (h2 k (k2 k hk)).imp id fun q => by omega, Nat.le_trans h4 hk'.size⟩, hk'.size, fun B => ⟨hk'.size, fun k o _ hko hco => ?_⟩, fun k hk hkn hD => ?_⟩
  · rcases hs' k hk with q | q
    · exact h2 k (k2 k q)
    · exact .inr (by omega)
  · refine (hk'.block k (Array.getElem?_eq_some_iff.1 hko).1 fun hd => ?_).trans hko
    obtain ⟨o', ho', hc'⟩ := k3 k hd
    rw [hko] at ho'
    injection ho' with ho'
    rw [← ho', hco] at hc'
    cases hc'
  · refine hk'.block k hk fun hd => ?_
    rcases h2 k (k2 k hd) with q | q
    · exact hD q
    · omega
end
/-- The loop's state. -/
def WI (w0 : World) (g n b5 b8 b10 b14 first st : Nat) (D : Nat → Prop) (d : Pd) (rb : List UInt8) {m : Nat} (pre : List (Fin m)) (W : World) : Prop :=
  ∃ dk A c, gl first st (pre.map (·.1)) rb d = (dk, 0) ∧ Boxed W b5 24 (.pointer (some ⟨g, 0, none⟩)) ∧ Boxed W b8 22 (.int .u64 (st : Int)) ∧ Boxed W b10 25 (.int .i64 0) ∧ Boxed W b14 23 (.slice A (rb.drop (108 * pre.length)).length c) ∧
    Rd (fun z => w0.heap.size ≤ z ∧ z < n ∧ z ≠ b14 ∧ z ≠ b10) W (.slice A (rb.drop (108 * pre.length)).length c) (rb.drop (108 * pre.length)) ∧ AI w0 g n D dk W
def WX (w0 : World) (g n b10 first st : Nat) (D : Nat → Prop) (d : Pd) (rb : List UInt8) {m : Nat} (pre : List (Fin m)) (W : World) : Prop :=
  ∃ dk q, gl first st (pre.map (·.1)) rb d = (dk, q) ∧ ¬ q = 0 ∧ Boxed W b10 25 (.int .i64 q) ∧ AI w0 g n D dk W
theorem boxed_turn {W W' : World} {b t : Nat} {v : Value} {row : Option Nat} (h : Boxed W b t v) (hg : W.grownBy W' row) (hr : ∀ r, row = some r → ∃ o : Obj, W.heap[r]? = some o ∧ o.isCells = false) : Boxed W' b t v :=
  h.kept hg fun e => by
    obtain ⟨o, ho, hc⟩ := hr b e.symm
    rw [show W.heap[b]? = _ from h] at ho
    cases ho
    cases hc
theorem WI.own {w0 : World} {g n b5 b8 b10 b14 first st B : Nat} {D : Nat → Prop} {d : Pd} {rb : List UInt8} {m : Nat} (hB : w0.heap.size ≤ B) (hn : n ≤ B) : OwnFrom B (fun (pre : List (Fin m)) W => WI w0 g n b5 b8 b10 b14 first st D d rb pre W) := by
  rintro pre W W' row ⟨dk, A, c, h1, h2, h3, h4, h5, h6, h7⟩ hg hr
  have hr' := fun r e => (hr r e).2
  exact ⟨dk, A, c, h1, boxed_turn h2 hg hr', boxed_turn h3 hg hr', boxed_turn h4 hg hr', boxed_turn h5 hg hr', h6.keep fun b hb hS => hg.block b hb fun e => by have := (hr b e.symm).1; omega, h7.turn hB hg hr⟩
theorem WX.own {w0 : World} {g n b10 first st B : Nat} {D : Nat → Prop} {d : Pd} {rb : List UInt8} {m : Nat} (p : Prop) (hB : w0.heap.size ≤ B) : OwnFrom B (fun (pre : List (Fin m)) W => p ∧ WX w0 g n b10 first st D d rb pre W) := by
  rintro pre W W' row ⟨hp, dk, q, h1, h2, h3, h4⟩ hg hr
  have hr' := fun r e => (hr r e).2
  exact ⟨hp, dk, q, h1, h2, boxed_turn h3 hg hr', h4.turn hB hg hr⟩
theorem res13 (tmps : Array Value) (b : Nat) (q : Int) (W : World) (ht : tmps.getD 10 undef = .pointer (some ⟨b, 0, none⟩)) (hc : W.cell? ⟨b, 0, none⟩ = some (.int .i64 q)) : (results Try.f13 tmps).run Try.prog W = .ok (.int .i64 q) W := by
  have ht' : tmps[10]?.getD undef = .pointer (some ⟨b, 0, none⟩) := by simpa using ht
  simp [results, Try.results13, ht', go_sem, hc]
theorem AI.out {w W : World} {g n : Nat} {D : Nat → Prop} {d : Pd} (h : AI w g n D d W) (hn : w.heap.size ≤ n) : AI w g w.heap.size D d W := by
  obtain ⟨Dk, h1, h2, h3, h4⟩ := h
  exact ⟨Dk, h1, fun k hk => (h2 k hk).imp id fun q => by omega, h3, h3.size⟩
set_option maxHeartbeats 4000000 in
theorem awrite_ok (w : World) (g : Nat) (D : Nat → Prop) (d : Pd) (first m st : Nat) (S : Nat → Prop) (v : Value) (b : List UInt8) (hd : DK w g D d) (hr : Rd S w v b) (hq : arefus d (first : Int) (m : Int) = 0) (hs : may st = true) (hb : b.length + 4 ≤ 108 * m) (hw : d.waits.length ≤ 1000000000) :
    Calls Try.prog 13 #[.pointer (some ⟨g, 0, none⟩), .int .i64 (first : Int), .int .i64 (m : Int), .int .u64 (st : Int), v] w fun e w' => e = .returned (.int .i64 (gw first (fun _ => st) m 0 (recB b) d).2) ∧ AI w g w.heap.size D (gw first (fun _ => st) m 0 (recB b) d).1 w' := by
  have hfm : first + m ≤ 16384 ∧ 1 ≤ m := by
    unfold arefus at hq
    obtain ⟨_, a, b, ca, cb, vw, h0, _⟩ := id hd
    have n2 := h0.ok.n2
    split at hq
    · cases hq
    · omega
  have HRF := Lib.hid (arefuses_any w g D d (first : Int) (m : Int) hd (by omega))
  rw [hq] at HRF
  have hDl : ∀ k, D k → k < w.heap.size := hd.1
  obtain ⟨A, c, rfl, q1, q2, q3, q4⟩ := id hr
  unfold maxLen at q2
  have hu64 : IntKind.u64.wrap (b.length : Int) = (b.length : Int) := by rw [IntKind.wrap_u64]; omega
  have hro : ¬ (JA.room (m : Int) < (b.length : Int)) := by unfold JA.room; rw [if_neg (by omega), if_neg (by omega)]; omega
  obtain ⟨RM, hRM⟩ : ∃ RM, JA.room (m : Int) = RM := ⟨_, rfl⟩
  rw [hRM] at hro
  have HRM := Lib.hid hRM
  have HD := Lib.hid hd
  have HR := Lib.hid hr
  have HB := Lib.hid hb
  have HS := Lib.hid hs
  have HW := Lib.hid hw
  have HFM := Lib.hid hfm
  have HBN : Hid (b.length ≤ 1769472) := Lib.hid (by omega)
  have HDL := Lib.hid hDl
  have HQ := Lib.hid hq
  clear hd hr hb hs hw hfm hRM hDl q3 q4 hq
  refine (callsIn_wide (n := 3)).1 (callsIn_of_wp_marks Try.func13 rfl trivial ?_ rfl)
  simp only [Try.ntmps13, List.size_toArray, List.length_cons, List.length_nil, Nat.reduceAdd, Nat.reduceSub, Array.replicate_succ, Array.replicate_zero, List.push_toArray, List.append_toArray, List.nil_append, List.cons_append]
  refine wpIn_wide.2 ?_
  have g3 : Grew w (((w.alloc (Obj.cells #[Value.pointer (some ⟨g, 0, none⟩)] 24)).alloc (Obj.cells #[Value.int .u64 (st : Int)] 22)).alloc (Obj.cells #[Value.int .i64 0] 25)) := by unfold Grew; go_grown
  go_wp2_with fail
  refine (arefuses_any _ g D d (first : Int) (m : Int) (HD.out.grew g3) (by have := HFM.out; omega)).mono ?_
  rintro e w1 ⟨rfl, rfl⟩

  rw [HQ.out]
  go_wp2_with fail
  refine (seal_ok (fun _ => True) (.slice none 0 0) [] st (st : Int) rfl _ (Rd.nil _ _) HS.out (by simp)).mono ?_
  rintro e w2 ⟨v2, rfl, hr2, hg2⟩
  have G2 := Lib.hid (g3.trans hg2)
  have b5 : Boxed w2 w.heap.size 24 (.pointer (some ⟨g, 0, none⟩)) := by
    have h : Boxed (w.alloc (Obj.cells #[Value.pointer (some ⟨g, 0, none⟩)] 24)) w.heap.size 24 (.pointer (some ⟨g, 0, none⟩)) := Boxed.new w 24 _
    have h2 := (h.alloc (Obj.cells #[Value.int .u64 (st : Int)] 22)).alloc (Obj.cells #[Value.int .i64 0] 25)
    exact (hg2.block _ h2.lt).trans h2
  have b8 : Boxed w2 (w.heap.size + 1) 22 (.int .u64 (st : Int)) := by
    have h : Boxed ((w.alloc (Obj.cells #[Value.pointer (some ⟨g, 0, none⟩)] 24)).alloc (Obj.cells #[Value.int .u64 (st : Int)] 22)) (w.heap.size + 1) 22 (.int .u64 (st : Int)) := by
      have := Boxed.new (w.alloc (Obj.cells #[Value.pointer (some ⟨g, 0, none⟩)] 24)) 22 (.int .u64 (st : Int))
      rwa [World.size_alloc] at this
    have h2 := h.alloc (Obj.cells #[Value.int .i64 0] 25)
    exact (hg2.block _ h2.lt).trans h2
  have b10 : Boxed w2 (w.heap.size + 1 + 1) 25 (.int .i64 0) := by
    have h : Boxed (((w.alloc (Obj.cells #[Value.pointer (some ⟨g, 0, none⟩)] 24)).alloc (Obj.cells #[Value.int .u64 (st : Int)] 22)).alloc (Obj.cells #[Value.int .i64 0] 25)) (w.heap.size + 1 + 1) 25 (.int .i64 0) := by
      have := Boxed.new ((w.alloc (Obj.cells #[Value.pointer (some ⟨g, 0, none⟩)] 24)).alloc (Obj.cells #[Value.int .u64 (st : Int)] 22)) 25 (.int .i64 0)
      rwa [World.size_alloc, World.size_alloc] at this
    exact (hg2.block _ h.lt).trans h
  obtain ⟨A2, c2, rfl, _⟩ := hr2
  clear hg2 g3
  go_wp2_with fail
  refine (JA.room_any (m : Int) _).mono ?_
  rintro e w' ⟨rfl, rfl⟩
  rw [HRM.out]
  go_wp2_with fail
  refine (SSeal.num4 (fun _ => True) (.slice none 0 0) [] b.length _ (Rd.nil _ _) (by simp)).mono ?_
  rintro e w3 ⟨v1, rfl, hown, hg⟩
  rw [List.nil_append] at hown
  obtain ⟨hv1, A1, cc1, rfl⟩ := SSeal.own_len hown (by rw [be_length]; have := HBN.out; omega)
  have hz1 := hown
  obtain ⟨v4, w4, hrun, hown2, hb2⟩ := SSeal.run_app2 w3 w2.heap.size _ A c (be 4 b.length) b S hown (HR.out.grew (G2.out.trans hg)) (by rw [be_length]; have := HBN.out; omega) hg.size
  have hlen2 : (be 4 b.length ++ b).length = b.length + 4 := recB_length b
  obtain ⟨A4, cc4, e2⟩ : ∃ A4 cc4, v4 = .slice A4 (b.length + 4) cc4 := by
    obtain ⟨_, A4, cc4, e⟩ := SSeal.own_len hown2 (by rw [hlen2]; have := HBN.out; omega)
    rw [hlen2] at e
    exact ⟨A4, cc4, e⟩
  subst e2
  have HRUN := Lib.hid hrun
  have HOWN := Lib.hid hown2
  have HBL := Lib.hid hb2
  have HG := Lib.hid hg
  clear hown hv1 hz1 hrun hown2 hb2 hg hlen2
  go_wp2_with (refine SSeal.wpList_app' (by rfl) (.tmp 43) (.tmp 44) 23 23 (by with_reducible rfl) _ _ (by rfl) (by rfl) _ _ HRUN.out ?_)
  refine (sec_any (first : Int) (m : Int) _).mono ?_
  rintro e w' ⟨rfl, rfl⟩
  go_wp2
  have hsz2 := b10.lt
  have hG24 : Grew w2 w4 := ⟨HBL.out.os.trans HG.out.os, HBL.out.tape.trans HG.out.tape, HBL.out.output.trans HG.out.output, Nat.le_trans HG.out.size HBL.out.size, fun k hk => (HBL.out.block k hk).trans (HG.out.block k hk)⟩
  have hG4 : Grew w w4 := G2.out.trans hG24
  have h14 : Boxed (w4.alloc (Obj.cells #[Value.slice A4 (b.length + 4) cc4] 23)) w4.heap.size 23 (.slice A4 (b.length + 4) cc4) := Boxed.new w4 23 _
  have hbf := Boxed.new (w4.alloc (Obj.cells #[Value.slice A4 (b.length + 4) cc4] 23)) 3 (.int .i64 (first : Int))
  have hbm := Boxed.new ((w4.alloc (Obj.cells #[Value.slice A4 (b.length + 4) cc4] 23)).alloc (Obj.cells #[Value.int .i64 (first : Int)] 3)) 3 (.int .i64 (m : Int))
  rw [World.size_alloc] at hbf
  rw [World.size_alloc, World.size_alloc] at hbm
  have hGl : Grew w4 (((w4.alloc (Obj.cells #[Value.slice A4 (b.length + 4) cc4] 23)).alloc (Obj.cells #[Value.int .i64 (first : Int)] 3)).alloc (Obj.cells #[Value.int .i64 (m : Int)] 3)) := by unfold Grew; go_grown
  have hszl : (((w4.alloc (Obj.cells #[Value.slice A4 (b.length + 4) cc4] 23)).alloc (Obj.cells #[Value.int .i64 (first : Int)] 3)).alloc (Obj.cells #[Value.int .i64 (m : Int)] 3)).heap.size = w4.heap.size + 1 + 1 + 1 := by simp
  replace h14 := (h14.alloc (Obj.cells #[Value.int .i64 (first : Int)] 3)).alloc (Obj.cells #[Value.int .i64 (m : Int)] 3)
  replace hbf := hbf.alloc (Obj.cells #[Value.int .i64 (m : Int)] 3)
  obtain ⟨Wl, hWl⟩ : ∃ Wl, ((w4.alloc (Obj.cells #[Value.slice A4 (b.length + 4) cc4] 23)).alloc (Obj.cells #[Value.int .i64 (first : Int)] 3)).alloc (Obj.cells #[Value.int .i64 (m : Int)] 3) = Wl := ⟨_, rfl⟩
  rw [hWl] at hGl hszl h14 hbf hbm ⊢
  have hz24 : w2.heap.size ≤ w4.heap.size := Nat.le_trans HG.out.size HBL.out.size
  have k5 : Boxed Wl w.heap.size 24 (.pointer (some ⟨g, 0, none⟩)) := ((hG24.trans hGl).block _ b5.lt).trans b5
  have k8 : Boxed Wl (w.heap.size + 1) 22 (.int .u64 (st : Int)) := ((hG24.trans hGl).block _ b8.lt).trans b8
  have k10 : Boxed Wl (w.heap.size + 1 + 1) 25 (.int .i64 0) := ((hG24.trans hGl).block _ b10.lt).trans b10
  have hai : AI w g Wl.heap.size D d Wl := ⟨D, HD.out.grew (hG4.trans hGl), fun k hk => .inl hk, Kept.of_grew (hG4.trans hGl), Nat.le_refl _⟩
  have hrr : Rd (fun z => w.heap.size ≤ z ∧ z < Wl.heap.size ∧ z ≠ w4.heap.size ∧ z ≠ w.heap.size + 1 + 1) Wl (.slice A4 ((recB b).drop (108 * 0)).length cc4) ((recB b).drop (108 * 0)) := by
    rw [Nat.mul_zero, List.drop_zero, recB_length]
    exact ((Rd.of_own HOWN.out rfl : Rd (fun k => w2.heap.size ≤ k ∧ k < w4.heap.size) w4 _ (recB b)).grew hGl).mono fun z hz => by omega
  have hwl : w.heap.size ≤ Wl.heap.size := by omega
  have H0 : WI w g Wl.heap.size w.heap.size (w.heap.size + 1) (w.heap.size + 1 + 1) w4.heap.size first st D d (recB b) ([] : List (Fin m)) Wl := ⟨d, A4, cc4, rfl, k5, k8, k10, by rw [List.length_nil, Nat.mul_zero, List.drop_zero, recB_length]; exact h14, hrr, hai⟩
  have cbf := hbf.cell
  have cbm := hbm.cell
  clear h14 hbf hbm hGl k5 k8 k10 hai hrr HRUN HOWN HBL HG b5 b8 b10 hWl G2 hG4 hG24
  refine (wpIn_wide (n := 3)).1 (wpIn_rangeFunc_ownG rfl (by decide) (gf := 104) (lb := #[.pointer (some ⟨w4.heap.size + 1 + 1, 0, none⟩), .pointer (some ⟨w4.heap.size + 1, 0, none⟩)]) rfl trivial (enters_of Try.func104 (by kernel_rfl) rfl)
    (sec_stops 2 (by decide) (w4.heap.size + 1) (w4.heap.size + 1 + 1) first m HFM.out.1 _ (by omega) (by omega) cbf cbm) kb_t (kb_b (by omega) (by omega)) (Below.refl _ _) (fun _ => rfl)
    (fun (pre : List (Fin m)) W => WI w g Wl.heap.size w.heap.size (w.heap.size + 1) (w.heap.size + 1 + 1) w4.heap.size first st D d (recB b) pre W)
    (fun cc pre W => cc = .ret ∧ WX w g Wl.heap.size (w.heap.size + 1 + 1) first st D d (recB b) pre W)
    (WI.own hwl (Nat.le_refl _))
    (fun cc => WX.own (cc = .ret) hwl)
    H0
    (fun x => { tmps := #[.pointer (some ⟨g, 0, none⟩), .int .i64 (first : Int), .int .i64 (m : Int), .int .u64 (st : Int), .slice A b.length c, .pointer (some ⟨w.heap.size, 0, none⟩), undef, undef, .pointer (some ⟨w.heap.size + 1, 0, none⟩), undef, .pointer (some ⟨w.heap.size + 1 + 1, 0, none⟩), .int .i64 0, .slice A2 (sealed st []).length c2, .int .i64 0, .pointer (some ⟨w4.heap.size, 0, none⟩), .int .i64 ((first : Int) + (x.1 : Int)), undef, undef, undef, undef, .pointer (some ⟨g, 0, none⟩), .int .i64 (first : Int), .int .i64 (m : Int), .int .i64 0, .int .i64 0, .bool false, undef, .tuple #[.slice A2 (sealed st []).length c2, .int .i64 0], .int .u64 (st : Int), .tuple #[.slice A2 (sealed st []).length c2, .int .i64 0], .slice A2 (sealed st []).length c2, .int .i64 0, .int .i64 0, .bool false, undef, .slice A b.length c, .int .i64 (b.length : Int), .int .i64 (m : Int), .int .i64 RM, .bool (decide (RM < (b.length : Int))), .slice A b.length c, .int .i64 (b.length : Int), .int .u64 (b.length : Int), .slice A1 (be 4 b.length).length cc1, .slice A b.length c, .slice A4 (b.length + 4) cc4, .int .i64 (first : Int), .int .i64 (m : Int), .func (.func 104) #[] #[.pointer (some ⟨w4.heap.size + 1 + 1, 0, none⟩), .pointer (some ⟨w4.heap.size + 1, 0, none⟩)], .int .i64 ((first : Int) + (x.1 : Int)), undef, undef, undef, undef, undef, undef, undef, undef, undef, undef, undef, undef, undef, undef, undef, undef, undef, undef, undef, undef, undef, undef, undef, undef, undef], defers := [] }) ?assign ?body ?done ?stop)
  case assign =>
    intro l x W K hK
    gi_wp2
    exact hK
  case body =>
    rintro l pre x W ⟨dk, A5, c5, hgl, B5, B8, B10, B14, HRL, HAI⟩ hlt
    have hbz := B14.lt
    obtain ⟨left, hleft⟩ : ∃ left, (recB b).drop (108 * pre.length) = left := ⟨_, rfl⟩
    rw [hleft] at B14 HRL
    have HLF := Lib.hid hleft
    have hll : left.length ≤ b.length + 4 := by rw [← hleft, List.length_drop, recB_length]; omega
    have HLL := Lib.hid hll
    have hpl : pre.length ≤ m := by omega
    have HWT : Hid (dk.waits.length ≤ 1073741823) := Lib.hid (by
      have h1 := gl_waits first st (pre.map (·.1)) (recB b) d
      rw [hgl, List.length_map] at h1
      have h2 := HW.out
      have h3 := HFM.out
      show dk.waits.length ≤ 1073741823
      have h4 : dk.waits.length ≤ d.waits.length + pre.length := h1
      omega)
    obtain ⟨mm, hmm⟩ : ∃ mm, mm = min left.length 108 := ⟨_, rfl⟩
    have hmi : min (left.length : Int) 108 = (mm : Int) := by rw [hmm]; omega
    have hml : mm ≤ left.length := by omega
    obtain ⟨AX, cX, eX, x1, x2, x3, x4⟩ := id HRL
    injection eX with eX1 _ eX3
    subst eX1 eX3
    unfold maxLen at x2
    have hmc : mm ≤ c5 := by omega
    have HTK : Hid (left.take mm = left.take 108) := Lib.hid (by
      by_cases h : left.length ≤ 108
      · rw [List.take_of_length_le (by omega), List.take_of_length_le (by omega)]
      · rw [show mm = 108 by omega])
    have HDK2 : Hid (left.drop mm = left.drop 108) := Lib.hid (by
      by_cases h : left.length ≤ 108
      · rw [List.drop_of_length_le (by omega), List.drop_of_length_le (by omega)]
      · rw [show mm = 108 by omega])
    have HT8 : Hid ((left.take 108).length ≤ 108) := Lib.hid (by simp; omega)
    obtain ⟨⟨d', ed⟩, hwq⟩ : ∃ y, DWrite.written dk ((first : Int) + (x.1 : Int)) (sealed st (left.take 108)) = y := ⟨_, rfl⟩
    have HWQ := Lib.hid hwq
    have HGS : Hid (gl first st ((pre ++ [x]).map (·.1)) (recB b) d = (d', ed)) := Lib.hid (by
      rw [List.map_append, List.map_cons, List.map_nil, gl_snoc first st x.1 _ _ _ dk hgl, List.length_map, hleft, show ((first + x.1 : Nat) : Int) = (first : Int) + (x.1 : Int) by omega]
      exact hwq)
    have hr6 := rd_drop HRL rfl hml
    have hr5 := rd_take HRL rfl hml
    rw [HDK2.out] at hr6
    rw [HTK.out] at hr5
    have HR5 := Lib.hid hr5
    have HBX := Lib.hid (And.intro B5 (And.intro B8 (And.intro B10 B14)))
    have HAIh := Lib.hid HAI
    have c5' := B5.cell
    have c8' := B8.cell
    have c10' := B10.cell
    have f10' := B10.frozen
    have c14' := B14.cell
    have f14' := B14.frozen
    have hd2 : (left.drop 108).length = ((recB b).drop (108 * (pre ++ [x]).length)).length ∧ left.drop 108 = (recB b).drop (108 * (pre ++ [x]).length) := by
      have e : left.drop 108 = (recB b).drop (108 * (pre ++ [x]).length) := by rw [← hleft, List.drop_drop, List.length_append, List.length_singleton, show 108 * pre.length + 108 = 108 * (pre.length + 1) by omega]
      exact ⟨by rw [e], e⟩
    have HD2 := Lib.hid hd2
    have hlx : (left.length : Int) - (mm : Int) = ((left.length - mm : Nat) : Int) := by omega
    have HLX : Hid (left.length - mm = (left.drop 108).length) := Lib.hid (by rw [List.length_drop]; omega)
    clear x3 x4 hmm hwq hgl hleft HRL B5 B8 B10 B14 HAI hr5 hd2 hlt hpl hll hlx
    have arm : ∀ (V6 : Value) (A6 : Option Addr) (c6 : Nat), V6 = .slice A6 (left.length - mm) c6 → Rd (fun z => w.heap.size ≤ z ∧ z < Wl.heap.size ∧ z ≠ w4.heap.size ∧ z ≠ w.heap.size + 1 + 1) W V6 (left.drop 108) →
        ∀ (W1 : World), W1 = W.setCell ⟨w4.heap.size, 0, none⟩ V6 → True := fun _ _ _ _ _ _ _ => trivial
    clear arm
    have hne10 : w.heap.size + 1 + 1 ≠ w4.heap.size := by omega
    have hne5 : w.heap.size ≠ w4.heap.size := by omega
    have hne8 : w.heap.size + 1 ≠ w4.heap.size := by omega
    by_cases hcm : c5 = mm
    · subst hcm
      rw [if_pos rfl] at hr6
      rw [Nat.sub_self] at hr6
      have hlz : left.length - c5 = 0 := by omega
      rw [hlz] at hr6 HLX
      have HR6 := Lib.hid hr6
      clear hr6 hlz
      have HR5b := Lib.hid (HR5.out.keep (w' := W.setCell ⟨w4.heap.size, 0, none⟩ (.slice A5 0 0)) fun z hz hS => heap_setCell_other W ⟨w4.heap.size, 0, none⟩ z _ (fun e => hS.2.2.1 e))
      have HR6b := Lib.hid (HR6.out.keep (w' := W.setCell ⟨w4.heap.size, 0, none⟩ (.slice A5 0 0)) fun z hz hS => heap_setCell_other W ⟨w4.heap.size, 0, none⟩ z _ (fun e => hS.2.2.1 e))
      have HAIb : Hid (AI w g Wl.heap.size D dk (W.setCell ⟨w4.heap.size, 0, none⟩ (.slice A5 0 0))) := Lib.hid (AI.keep (E := fun k => k = w4.heap.size) HAIh.out (Kept.set _ _ rfl) (fun k hk => by omega) HDL.out)
      have HBb := Lib.hid (And.intro (HBX.out.1.other hne5 (.slice A5 0 0)) (And.intro (HBX.out.2.1.other hne8 (.slice A5 0 0)) (And.intro (HBX.out.2.2.1.other hne10 (.slice A5 0 0)) (HBX.out.2.2.2.set (.slice A5 0 0)))))
      have HKO : Hid (KeepsFrom Wl.heap.size W (W.setCell ⟨w4.heap.size, 0, none⟩ (.slice A5 0 0))) := Lib.hid ((KeepsOthers.setCell _ _ _).from _)
      have HKB : Hid (KB (w4.heap.size + 1) (w4.heap.size + 1 + 1) W (W.setCell ⟨w4.heap.size, 0, none⟩ (.slice A5 0 0))) := Lib.hid ⟨heap_setCell_other W ⟨w4.heap.size, 0, none⟩ _ _ (by show w4.heap.size + 1 ≠ w4.heap.size; omega), heap_setCell_other W ⟨w4.heap.size, 0, none⟩ _ _ (by show w4.heap.size + 1 + 1 ≠ w4.heap.size; omega)⟩
      have HZB : Hid (Wl.heap.size ≤ (W.setCell ⟨w4.heap.size, 0, none⟩ (.slice A5 0 0)).heap.size) := Lib.hid HAIb.out.choose_spec.2.2.2
      clear HR5 HR6 HAIh HBX
      gi_wp2_with fail
      refine ⟨trivial, (CallsIn.inRound l (callsIn_wide.2 (seal_ok _ _ _ st (st : Int) rfl _ HR5b.out HS.out HT8.out))).mono ?_⟩
      rintro e W2 ⟨v9, rfl, hr9, hg3⟩
      generalize W.setCell ⟨w4.heap.size, 0, none⟩ (.slice A5 0 0) = W1 at *
      have HG3 := Lib.hid hg3
      have HR9 := Lib.hid hr9
      obtain ⟨A9, c9, e9, _⟩ := id hr9
      subst e9
      have HAI2 := Lib.hid (HAIb.out.grew hg3)
      have c52 : W2.cell? ⟨w.heap.size, 0, none⟩ = some (.pointer (some ⟨g, 0, none⟩)) := DWrite.cellB hg3 HBb.out.1.cell
      clear hr9 hg3
      gi_wp2_with fail
      refine ⟨trivial, (CallsIn.inRound l (callsIn_wide.2 (AI.write HAI2.out hwl ((first : Int) + (x.1 : Int)) _ _ _ ed HR9.out HWT.out HWQ.out))).mono ?_⟩
      rintro e W3 ⟨rfl, hai3, hz3, hkf3, hbl3⟩
      have hb3 : ∀ k, w.heap.size ≤ k → k < Wl.heap.size → W3.heap[k]? = W1.heap[k]? := fun k hk1 hk2 => (hbl3 k (Nat.lt_of_lt_of_le hk2 (Nat.le_trans HZB.out HG3.out.size)) hk2 (fun hd => by have := HDL.out k hd; omega)).trans (HG3.out.block k (Nat.lt_of_lt_of_le hk2 HZB.out))
      have B5 : Boxed W3 w.heap.size 24 (.pointer (some ⟨g, 0, none⟩)) := (hb3 _ (by omega) (by omega)).trans HBb.out.1
      have B8 : Boxed W3 (w.heap.size + 1) 22 (.int .u64 (st : Int)) := (hb3 _ (by omega) (by omega)).trans HBb.out.2.1
      have B10 : Boxed W3 (w.heap.size + 1 + 1) 25 (.int .i64 0) := (hb3 _ (by omega) (by omega)).trans HBb.out.2.2.1
      have B14 : Boxed W3 w4.heap.size 23 (.slice A5 0 0) := (hb3 _ (by omega) (by omega)).trans HBb.out.2.2.2
      have HR3 : Hid (Rd (fun z => w.heap.size ≤ z ∧ z < Wl.heap.size ∧ z ≠ w4.heap.size ∧ z ≠ w.heap.size + 1 + 1) W3 (.slice A5 0 0) (left.drop 108)) := Lib.hid (HR6b.out.keep fun z hz hS => hb3 z hS.1 hS.2.1)
      have HKF3 : Hid (KeepsFrom Wl.heap.size W W3) := Lib.hid ((HKO.out.trans (KeepsFrom.of_grownBy (row := none) ⟨HG3.out.os, HG3.out.tape, HG3.out.output, HG3.out.size, fun k hk _ => HG3.out.block k hk⟩ (fun j e => by cases e))).trans (hkf3 Wl.heap.size))
      have HKB3 : Hid (KB (w4.heap.size + 1) (w4.heap.size + 1 + 1) W W3) := Lib.hid ⟨(hb3 _ (by omega) (by omega)).trans HKB.out.1, (hb3 _ (by omega) (by omega)).trans HKB.out.2⟩
      have HAI3 := Lib.hid hai3
      have HB3 := Lib.hid (And.intro B5 (And.intro B8 (And.intro B10 B14)))
      have c103 := B10.cell
      have f103 := B10.frozen
      clear hai3 hz3 hkf3 hbl3 hb3 B5 B8 B10 B14
      by_cases h0 : ed = 0
      · subst h0
        gi_wp2
        refine ⟨HKF3.out, HKB3.out, d', A5, 0, HGS.out, HB3.out.1, HB3.out.2.1, HB3.out.2.2.1, ?_, ?_, HAI3.out⟩
        · rw [← HD2.out.1, ← HLX.out]
          exact HB3.out.2.2.2
        · rw [← HD2.out.2, ← HLX.out]
          exact HR3.out
      · have b0 : (ed != 0) = true := by simpa using h0
        gi_wp2
        refine ⟨HKF3.out.trans ((KeepsOthers.setCell _ _ _).from _), rfl, d', ed, HGS.out, h0, HB3.out.2.2.1.set _, ?_⟩
        exact AI.keep (E := fun k => k = w.heap.size + 1 + 1) HAI3.out (Kept.set _ _ rfl) (fun k hk => by omega) HDL.out
    · rw [if_neg hcm] at hr6
      have HR6 := Lib.hid hr6
      clear hr6
      have HR5b := Lib.hid (HR5.out.keep (w' := W.setCell ⟨w4.heap.size, 0, none⟩ (.slice (Option.map (fun x => x.add mm) A5) (left.length - mm) (c5 - mm))) fun z hz hS => heap_setCell_other W ⟨w4.heap.size, 0, none⟩ z _ (fun e => hS.2.2.1 e))
      have HR6b := Lib.hid (HR6.out.keep (w' := W.setCell ⟨w4.heap.size, 0, none⟩ (.slice (Option.map (fun x => x.add mm) A5) (left.length - mm) (c5 - mm))) fun z hz hS => heap_setCell_other W ⟨w4.heap.size, 0, none⟩ z _ (fun e => hS.2.2.1 e))
      have HAIb : Hid (AI w g Wl.heap.size D dk (W.setCell ⟨w4.heap.size, 0, none⟩ (.slice (Option.map (fun x => x.add mm) A5) (left.length - mm) (c5 - mm)))) := Lib.hid (AI.keep (E := fun k => k = w4.heap.size) HAIh.out (Kept.set _ _ rfl) (fun k hk => by omega) HDL.out)
      have HBb := Lib.hid (And.intro (HBX.out.1.other hne5 (.slice (Option.map (fun x => x.add mm) A5) (left.length - mm) (c5 - mm))) (And.intro (HBX.out.2.1.other hne8 (.slice (Option.map (fun x => x.add mm) A5) (left.length - mm) (c5 - mm))) (And.intro (HBX.out.2.2.1.other hne10 (.slice (Option.map (fun x => x.add mm) A5) (left.length - mm) (c5 - mm))) (HBX.out.2.2.2.set (.slice (Option.map (fun x => x.add mm) A5) (left.length - mm) (c5 - mm))))))
      have HKO : Hid (KeepsFrom Wl.heap.size W (W.setCell ⟨w4.heap.size, 0, none⟩ (.slice (Option.map (fun x => x.add mm) A5) (left.length - mm) (c5 - mm)))) := Lib.hid ((KeepsOthers.setCell _ _ _).from _)
      have HKB : Hid (KB (w4.heap.size + 1) (w4.heap.size + 1 + 1) W (W.setCell ⟨w4.heap.size, 0, none⟩ (.slice (Option.map (fun x => x.add mm) A5) (left.length - mm) (c5 - mm)))) := Lib.hid ⟨heap_setCell_other W ⟨w4.heap.size, 0, none⟩ _ _ (by show w4.heap.size + 1 ≠ w4.heap.size; omega), heap_setCell_other W ⟨w4.heap.size, 0, none⟩ _ _ (by show w4.heap.size + 1 + 1 ≠ w4.heap.size; omega)⟩
      have HZB : Hid (Wl.heap.size ≤ (W.setCell ⟨w4.heap.size, 0, none⟩ (.slice (Option.map (fun x => x.add mm) A5) (left.length - mm) (c5 - mm))).heap.size) := Lib.hid HAIb.out.choose_spec.2.2.2
      clear HR5 HR6 HAIh HBX
      gi_wp2_with fail
      refine ⟨trivial, (CallsIn.inRound l (callsIn_wide.2 (seal_ok _ _ _ st (st : Int) rfl _ HR5b.out HS.out HT8.out))).mono ?_⟩
      rintro e W2 ⟨v9, rfl, hr9, hg3⟩
      generalize W.setCell ⟨w4.heap.size, 0, none⟩ (.slice (Option.map (fun x => x.add mm) A5) (left.length - mm) (c5 - mm)) = W1 at *
      have HG3 := Lib.hid hg3
      have HR9 := Lib.hid hr9
      obtain ⟨A9, c9, e9, _⟩ := id hr9
      subst e9
      have HAI2 := Lib.hid (HAIb.out.grew hg3)
      have c52 : W2.cell? ⟨w.heap.size, 0, none⟩ = some (.pointer (some ⟨g, 0, none⟩)) := DWrite.cellB hg3 HBb.out.1.cell
      clear hr9 hg3
      gi_wp2_with fail
      refine ⟨trivial, (CallsIn.inRound l (callsIn_wide.2 (AI.write HAI2.out hwl ((first : Int) + (x.1 : Int)) _ _ _ ed HR9.out HWT.out HWQ.out))).mono ?_⟩
      rintro e W3 ⟨rfl, hai3, hz3, hkf3, hbl3⟩
      have hb3 : ∀ k, w.heap.size ≤ k → k < Wl.heap.size → W3.heap[k]? = W1.heap[k]? := fun k hk1 hk2 => (hbl3 k (Nat.lt_of_lt_of_le hk2 (Nat.le_trans HZB.out HG3.out.size)) hk2 (fun hd => by have := HDL.out k hd; omega)).trans (HG3.out.block k (Nat.lt_of_lt_of_le hk2 HZB.out))
      have B5 : Boxed W3 w.heap.size 24 (.pointer (some ⟨g, 0, none⟩)) := (hb3 _ (by omega) (by omega)).trans HBb.out.1
      have B8 : Boxed W3 (w.heap.size + 1) 22 (.int .u64 (st : Int)) := (hb3 _ (by omega) (by omega)).trans HBb.out.2.1
      have B10 : Boxed W3 (w.heap.size + 1 + 1) 25 (.int .i64 0) := (hb3 _ (by omega) (by omega)).trans HBb.out.2.2.1
      have B14 : Boxed W3 w4.heap.size 23 (.slice (Option.map (fun x => x.add mm) A5) (left.length - mm) (c5 - mm)) := (hb3 _ (by omega) (by omega)).trans HBb.out.2.2.2
      have HR3 : Hid (Rd (fun z => w.heap.size ≤ z ∧ z < Wl.heap.size ∧ z ≠ w4.heap.size ∧ z ≠ w.heap.size + 1 + 1) W3 (.slice (Option.map (fun x => x.add mm) A5) (left.length - mm) (c5 - mm)) (left.drop 108)) := Lib.hid (HR6b.out.keep fun z hz hS => hb3 z hS.1 hS.2.1)
      have HKF3 : Hid (KeepsFrom Wl.heap.size W W3) := Lib.hid ((HKO.out.trans (KeepsFrom.of_grownBy (row := none) ⟨HG3.out.os, HG3.out.tape, HG3.out.output, HG3.out.size, fun k hk _ => HG3.out.block k hk⟩ (fun j e => by cases e))).trans (hkf3 Wl.heap.size))
      have HKB3 : Hid (KB (w4.heap.size + 1) (w4.heap.size + 1 + 1) W W3) := Lib.hid ⟨(hb3 _ (by omega) (by omega)).trans HKB.out.1, (hb3 _ (by omega) (by omega)).trans HKB.out.2⟩
      have HAI3 := Lib.hid hai3
      have HB3 := Lib.hid (And.intro B5 (And.intro B8 (And.intro B10 B14)))
      have c103 := B10.cell
      have f103 := B10.frozen
      clear hai3 hz3 hkf3 hbl3 hb3 B5 B8 B10 B14
      by_cases h0 : ed = 0
      · subst h0
        gi_wp2
        refine ⟨HKF3.out, HKB3.out, d', Option.map (fun x => x.add mm) A5, c5 - mm, HGS.out, HB3.out.1, HB3.out.2.1, HB3.out.2.2.1, ?_, ?_, HAI3.out⟩
        · rw [← HD2.out.1, ← HLX.out]
          exact HB3.out.2.2.2
        · rw [← HD2.out.2, ← HLX.out]
          exact HR3.out
      · have b0 : (ed != 0) = true := by simpa using h0
        gi_wp2
        refine ⟨HKF3.out.trans ((KeepsOthers.setCell _ _ _).from _), rfl, d', ed, HGS.out, h0, HB3.out.2.2.1.set _, ?_⟩
        exact AI.keep (E := fun k => k = w.heap.size + 1 + 1) HAI3.out (Kept.set _ _ rfl) (fun k hk => by omega) HDL.out
  case done =>
    rintro DD ys W hDD hys ⟨dk, A5, c5, hgl, B5, B8, B10, B14, HRL, HAI⟩ hK
    have c10 := B10.cell
    have f10 := B10.frozen
    go_wp2
    refine ⟨by simp, .inl ⟨_, _, rfl, run_takeDeferred ((KeepsOthers.setCell _ _ _).same DD _ hK rfl), ?_⟩⟩
    have hcs : (W.setCell ⟨w.heap.size + 1 + 1, 0, none⟩ (.int .i64 0)).cell? ⟨w.heap.size + 1 + 1, 0, none⟩ = some (.int .i64 0) := World.cell?_setCell_same' _ _ _ (by rw [c10]; rfl)
    have hne : w.heap.size + 1 + 1 ≠ DD := by omega
    refine ⟨_, res13 _ (w.heap.size + 1 + 1) 0 _ rfl ?_, ?_⟩
    · exact (World.cell?_of_block (World.putObj_heap_other hne)).trans hcs
    · have e : gw first (fun _ => st) m 0 (recB b) d = (dk, 0) := by rw [← gl_gw, ← List.range_eq_range', ← hys]; exact hgl
      rw [e]
      refine ⟨rfl, AI.out (n := Wl.heap.size) ?_ hwl⟩
      refine AI.turn (B := Wl.heap.size) (AI.keep (E := fun k => k = w.heap.size + 1 + 1) HAI (Kept.set _ _ rfl) (fun k hk => by omega) HDL.out) hwl (grownBy_putObj' _ DD _) ?_
      intro r hr
      injection hr with hr
      subst hr
      exact ⟨hDD, _, (KeepsOthers.setCell _ _ _).same DD _ hK rfl, rfl⟩
  case stop =>
    rintro DD cc pre W hDD hpre ⟨rfl, dk, q, hgl, hq0, B10, HAI⟩ hK
    have c10 := B10.cell
    refine wpIn_wide.2 ?_
    go_wp2
    refine ⟨by simp, .inl ⟨_, _, rfl, run_takeDeferred hK, ?_⟩⟩
    have hne : w.heap.size + 1 + 1 ≠ DD := by omega
    refine ⟨_, res13 _ (w.heap.size + 1 + 1) q _ rfl ?_, ?_⟩
    · exact (World.cell?_of_block (World.putObj_heap_other hne)).trans c10
    · obtain ⟨suf, hsuf⟩ := hpre
      have e : gw first (fun _ => st) m 0 (recB b) d = (dk, q) := by
        rw [← gl_gw, ← List.range_eq_range', ← hsuf, gl_stop first st suf _ _ _ (by rw [hgl]; exact hq0)]
        exact hgl
      rw [e]
      refine ⟨rfl, AI.out (n := Wl.heap.size) ?_ hwl⟩
      refine AI.turn (B := Wl.heap.size) HAI hwl (grownBy_putObj' _ DD _) ?_
      intro r hr
      injection hr with hr
      subst hr
      exact ⟨hDD, _, hK, rfl⟩

end Go.Proofs.Ytbnicphegbdfnaa.AC
namespace Go.Proofs.Ytbnicphegbdfnaa.AD
set_option maxRecDepth 100000
open Go Go.RowKit Go.Shelf Go.Proofs.Ytbnicphegbdfnaa Go.Proofs.Ytbnicphegbdfnaa.Facts Go.Proofs.Ytbnicphegbdfnaa.Bytes Go.Proofs.Ytbnicphegbdfnaa.Puts Go.Proofs.Ytbnicphegbdfnaa.DKeep Go.Proofs.Ytbnicphegbdfnaa.DSmall Go.Proofs.Ytbnicphegbdfnaa.SPure Go.Proofs.Ytbnicphegbdfnaa.JA Go.Proofs.Ytbnicphegbdfnaa.JD Go.Proofs.Ytbnicphegbdfnaa.AP Go.Proofs.Ytbnicphegbdfnaa.AQ Go.Proofs.Ytbnicphegbdfnaa.AA Go.Proofs.Ytbnicphegbdfnaa.AW Go.Proofs.Ytbnicphegbdfnaa.AV Go.Proofs.Ytbnicphegbdfnaa.AB Go.Proofs.Ytbnicphegbdfnaa.AC
attribute [local go_sem] Oper.semAt_some

theorem wpListIn_app' {F : Fence} {n : Nat} {P : Program} {w : World} {ops : Array Oper} {rest : List Oper} {o : Oper} {ac : Act} {Q : Exit → Act → World → Prop} (hgd : o.guard = none) (s x : Operand) (t tn : TypeId)
    (ho : o.op = .call { callee := .builtin .append, args := #[s, x], argTypes := #[t, tn] }) (vs vx : Value) (hs : ac.eval s = vs) (hx : ac.eval x = vx) (v' : Value) (w' : World)
    (hr : (Builtin.append_ #[t, tn] o.type #[vs, vx]).run P w = .ok v' w') (hK : wpListIn F n P ops Q rest (ac.put o.dst v') w') : wpListIn F n P ops Q (o :: rest) ac w := by
  refine wpListIn_plain hgd fun K hK' => ?_
  unfold Oper.wpIn
  refine ⟨?_, ?_⟩
  · simp [Oper.about, ho, resolve, Target.leads, Sem.run_pure]
  · rw [Oper.semAt_plain F _ _ (by rw [ho]; intro c hc'; cases hc')]
    simp [execOp, ho, resolve, invoke, builtin, hs, hx, hr, Result.andThen]
    exact hK' _ _ hK
/-- Bytes are put behind a row's own. -/
theorem run_app3 (W : World) (base : Nat) (v : Value) (A : Option Addr) (c : Nat) (l0 l : List UInt8) (S : Nat → Prop) (hown : W.ownsRow base 5 1 v l0.length (bv l0)) (hr : Rd S W (.slice A l.length c) l) (hl : l0.length + l.length ≤ 140737488355328) (hb : base ≤ W.heap.size) :
    ∃ v' w', (Builtin.append_ #[23, 23] 23 #[v, .slice A l.length c]).run Try.prog W = .ok v' w' ∧ w'.ownsRow base 5 1 v' (l0 ++ l).length (bv (l0 ++ l)) ∧ W.grownBy w' v.ownBlock := by
  obtain ⟨i0, hi, hx⟩ := Option.map_eq_some_iff.1 info5
  simp only [Prod.mk.injEq] at hx
  obtain ⟨hz0, hz1, hz2⟩ := hx
  obtain ⟨A', c', e, h1, h2, h3, h4⟩ := hr
  injection e with e1 _ e3
  subst e1 e3
  cases A with
  | none =>
    have h0 := h3 rfl
    have : l = [] := List.eq_nil_of_length_eq_zero (by omega)
    subst this
    subst h0
    rw [List.append_nil]
    exact ⟨v, W, run_append_owned_none W base 23 23 5 i0 1 Try.underlying23 hi v _ _ hown, hown, ⟨rfl, rfl, rfl, Nat.le_refl _, fun _ _ _ => rfl⟩⟩
  | some ad =>
    obtain ⟨v', w', hr, h5, h6, _⟩ := run_append_own (P := Try.prog) W base 23 23 5 i0 (.int .u8 0) 1 1 Try.underlying23 hi hz0 hz1 hz2 rfl Nat.one_pos v l0.length (bv l0) hown ad l.length c (bv l) (by rw [bv_length]; omega) (h4 ad rfl).2 (bv_one l) (by unfold maxLen; omega) (by omega) hb
    exact ⟨v', w', hr, by rw [List.length_append, bv_append]; exact h5, h6⟩
/-- The loop's state. -/
def RI (w : World) (g n first : Nat) (last : List Sec) {m : Nat} (pre : List (Fin m)) (W : World) : Prop :=
  ∃ s acc A c, al last first (pre.map (·.1)) 0 [] = some (s, acc) ∧ (Boxed W (w.heap.size) 24 (.pointer (some ⟨g, 0, none⟩)) ∧ Boxed W (w.heap.size + 1) 3 (.int .i64 (first : Int)) ∧ Boxed W (w.heap.size + 1 + 1) 22 (.int .u64 0) ∧ Boxed W (w.heap.size + 1 + 1 + 1) 23 (.slice none 0 0) ∧ Boxed W (w.heap.size + 1 + 1 + 1 + 1) 25 (.int .i64 0) ∧ Boxed W (w.heap.size + 1 + 1 + 1 + 1 + 1) 22 (.int .u64 (s : Int)) ∧ Boxed W (w.heap.size + 1 + 1 + 1 + 1 + 1 + 1) 23 (.slice A acc.length c)) ∧
    W.ownsRow n 5 1 (.slice A acc.length c) acc.length (bv acc) ∧ Grew w W ∧ n ≤ W.heap.size
def RX (w : World) (first : Nat) (last : List Sec) {m : Nat} (pre : List (Fin m)) (W : World) : Prop :=
  al last first (pre.map (·.1)) 0 [] = none ∧ (Boxed W (w.heap.size + 1 + 1) 22 (.int .u64 0) ∧ Boxed W (w.heap.size + 1 + 1 + 1) 23 (.slice none 0 0) ∧ Boxed W (w.heap.size + 1 + 1 + 1 + 1) 25 (.int .i64 2)) ∧ Grew w W
theorem grew_turn {w W W' : World} {B : Nat} {row : Option Nat} (h : Grew w W) (hB : w.heap.size ≤ B) (hg : W.grownBy W' row) (hr : ∀ r, row = some r → B ≤ r) : Grew w W' :=
  Below.grown h hg h.size fun k e => Nat.le_trans hB (hr k e)
theorem own_cells {W : World} {b e s n k : Nat} {v : Value} {xs : List Value} (h : W.ownsRow b e s v n xs) (hk : v.ownBlock = some k) : b ≤ k ∧ ∃ o : Obj, W.heap[k]? = some o ∧ o.isCells = true := by
  rcases h.2 with ⟨rfl, _⟩ | ⟨gg, cap, cur, rfl, hb, hg, _⟩
  · cases hk
  · simp [Value.ownBlock] at hk
    subst hk
    exact ⟨hb, _, hg, rfl⟩
theorem own_turn {W W' : World} {b e s n : Nat} {v : Value} {xs : List Value} {row : Option Nat} (h : W.ownsRow b e s v n xs) (hg : W.grownBy W' row) (hr : ∀ r, row = some r → ∃ o : Obj, W.heap[r]? = some o ∧ o.isCells = false) : W'.ownsRow b e s v n xs := by
  refine h.kept hg ?_
  cases hv : v.ownBlock with
  | none =>
    rcases h.2 with ⟨rfl, _⟩ | ⟨gg, cap, cur, rfl, _⟩
    · exact .inl rfl
    · cases hv
  | some k =>
    refine .inr fun e => ?_
    obtain ⟨_, o, ho, hc⟩ := own_cells h hv
    obtain ⟨o', ho', hc'⟩ := hr k e.symm
    rw [ho] at ho'
    injection ho' with ho'
    rw [ho', hc'] at hc
    cases hc
theorem RI.own {w : World} {g n first B : Nat} {last : List Sec} {m : Nat} (hB : w.heap.size ≤ B) : OwnFrom B (fun (pre : List (Fin m)) W => RI w g n first last pre W) := by
  rintro pre W W' row ⟨s, acc, A, c, h1, ⟨a1, a2, a3, a4, a5, a6, a7⟩, h2, h3, h4⟩ hg hr
  have hr' := fun r e => (hr r e).2
  exact ⟨s, acc, A, c, h1, ⟨boxed_turn a1 hg hr', boxed_turn a2 hg hr', boxed_turn a3 hg hr', boxed_turn a4 hg hr', boxed_turn a5 hg hr', boxed_turn a6 hg hr', boxed_turn a7 hg hr'⟩, own_turn h2 hg hr', grew_turn h3 hB hg fun r e => (hr r e).1, Nat.le_trans h4 hg.size⟩
theorem RX.own {w : World} {first B : Nat} {last : List Sec} {m : Nat} (p : Prop) (hB : w.heap.size ≤ B) : OwnFrom B (fun (pre : List (Fin m)) W => p ∧ RX w first last pre W) := by
  rintro pre W W' row ⟨hp, h1, ⟨a1, a2, a3⟩, h2⟩ hg hr
  have hr' := fun r e => (hr r e).2
  exact ⟨hp, h1, ⟨boxed_turn a1 hg hr', boxed_turn a2 hg hr', boxed_turn a3 hg hr'⟩, grew_turn h2 hB hg fun r e => (hr r e).1⟩
theorem res17 (tmps : Array Value) (b6 b7 b8 : Nat) (s : Int) (v : Value) (q : Int) (W : World) (h6 : tmps.getD 6 undef = .pointer (some ⟨b6, 0, none⟩)) (h7 : tmps.getD 7 undef = .pointer (some ⟨b7, 0, none⟩)) (h8 : tmps.getD 8 undef = .pointer (some ⟨b8, 0, none⟩))
    (c6 : W.cell? ⟨b6, 0, none⟩ = some (.int .u64 s)) (A : Option Addr) (n c : Nat) (hv : v = .slice A n c) (c7 : W.cell? ⟨b7, 0, none⟩ = some v) (c8 : W.cell? ⟨b8, 0, none⟩ = some (.int .i64 q)) : (results Try.f17 tmps).run Try.prog W = .ok (.tuple #[.int .u64 s, v, .int .i64 q]) W := by
  subst hv
  have h6' : tmps[6]?.getD undef = .pointer (some ⟨b6, 0, none⟩) := by simpa using h6
  have h7' : tmps[7]?.getD undef = .pointer (some ⟨b7, 0, none⟩) := by simpa using h7
  have h8' : tmps[8]?.getD undef = .pointer (some ⟨b8, 0, none⟩) := by simpa using h8
  simp [results, Try.results17, h6', h7', h8', go_sem, c6, c7, c8]
set_option maxHeartbeats 4000000 in
theorem aread_ok (w : World) (g : Nat) (D : Nat → Prop) (d : Pd) (first m : Nat) (hd : DK w g D d) (hq : arefus d (first : Int) (m : Int) = 0) :
    Calls Try.prog 17 #[.pointer (some ⟨g, 0, none⟩), .int .i64 (first : Int), .int .i64 (m : Int)] w fun e w' => ∃ v', e = .returned (.tuple #[.int .u64 ((ard d.last first m).1 : Int), v', .int .i64 (ard d.last first m).2.2]) ∧ Rd (fun b => w.heap.size ≤ b) w' v' (ard d.last first m).2.1 ∧ Grew w w' := by
  have hfm : first + m ≤ d.safe.length ∧ 1 ≤ m ∧ first + m ≤ 16384 ∧ d.off = false := by
    unfold arefus at hq
    obtain ⟨_, a, b, ca, cb, vw, h0, _⟩ := id hd
    have n2 := h0.ok.n2
    split at hq
    · cases hq
    · split at hq
      · cases hq
      · rename_i h1 h2
        exact ⟨by omega, by omega, by omega, by simpa using h2⟩
  have HD := Lib.hid hd
  have HFM := Lib.hid hfm
  have HRO : Hid (∀ i, i < m → DRead.readOf d ((first : Int) + (i : Int)) = (d.last[first + i]?.getD [], 0)) := Lib.hid fun i hi => by
    have h0 : refus d ((first : Int) + (i : Int)) = 0 := by
      unfold refus
      rw [if_neg (by rw [hfm.2.2.2]; decide), if_neg (by omega)]
    unfold DRead.readOf
    rw [if_pos h0, show ((first : Int) + (i : Int)).toNat = first + i by omega]
  have HQ := Lib.hid hq
  obtain ⟨⟨s0, b0, e0⟩, hard0⟩ : ∃ y, ard d.last first m = y := ⟨_, rfl⟩
  rw [hard0]
  have HARD0 := Lib.hid hard0
  clear hd hfm hq hard0
  refine (callsIn_wide (n := 3)).1 (callsIn_of_wp_marks Try.func17 rfl trivial ?_ rfl)
  simp only [Try.ntmps17, List.size_toArray, List.length_cons, List.length_nil, Nat.reduceAdd, Nat.reduceSub, Array.replicate_succ, Array.replicate_zero, List.push_toArray, List.append_toArray, List.nil_append, List.cons_append]
  refine wpIn_wide.2 ?_
  have g5 : Grew w (((((w.alloc (Obj.cells #[Value.pointer (some ⟨g, 0, none⟩)] 24)).alloc (Obj.cells #[Value.int .i64 (first : Int)] 3)).alloc (Obj.cells #[Value.int .u64 0] 22)).alloc (Obj.cells #[Value.slice none 0 0] 23)).alloc (Obj.cells #[Value.int .i64 0] 25)) := by unfold Grew; go_grown
  go_wp2_with fail
  refine (arefuses_any _ g D d (first : Int) (m : Int) (HD.out.grew g5) (by have := HFM.out; omega)).mono ?_
  rintro e w1 ⟨rfl, rfl⟩
  rw [HQ.out]
  go_wp2_with fail
  refine (sec_any (first : Int) (m : Int) _).mono ?_
  rintro e w' ⟨rfl, rfl⟩
  go_wp2
  have k3 : Boxed (((((((((w.alloc (Obj.cells #[Value.pointer (some ⟨g, 0, none⟩)] 24)).alloc (Obj.cells #[Value.int .i64 (first : Int)] 3)).alloc (Obj.cells #[Value.int .u64 0] 22)).alloc (Obj.cells #[Value.slice none 0 0] 23)).alloc (Obj.cells #[Value.int .i64 0] 25)).alloc (Obj.cells #[Value.int .u64 0] 22)).alloc (Obj.cells #[Value.slice none 0 0] 23)).alloc (Obj.cells #[Value.int .i64 (first : Int)] 3)).alloc (Obj.cells #[Value.int .i64 (m : Int)] 3)) (w.heap.size) 24 (.pointer (some ⟨g, 0, none⟩)) := by
    have h := Boxed.new w 24 (.pointer (some ⟨g, 0, none⟩))
    exact ((((((((h.alloc _).alloc _).alloc _).alloc _).alloc _).alloc _).alloc _).alloc _)
  have k4 : Boxed (((((((((w.alloc (Obj.cells #[Value.pointer (some ⟨g, 0, none⟩)] 24)).alloc (Obj.cells #[Value.int .i64 (first : Int)] 3)).alloc (Obj.cells #[Value.int .u64 0] 22)).alloc (Obj.cells #[Value.slice none 0 0] 23)).alloc (Obj.cells #[Value.int .i64 0] 25)).alloc (Obj.cells #[Value.int .u64 0] 22)).alloc (Obj.cells #[Value.slice none 0 0] 23)).alloc (Obj.cells #[Value.int .i64 (first : Int)] 3)).alloc (Obj.cells #[Value.int .i64 (m : Int)] 3)) (w.heap.size + 1) 3 (.int .i64 (first : Int)) := by
    have h := Boxed.new (w.alloc (Obj.cells #[Value.pointer (some ⟨g, 0, none⟩)] 24)) 3 (.int .i64 (first : Int))
    simp only [World.size_alloc] at h
    exact (((((((h.alloc _).alloc _).alloc _).alloc _).alloc _).alloc _).alloc _)
  have k6 : Boxed (((((((((w.alloc (Obj.cells #[Value.pointer (some ⟨g, 0, none⟩)] 24)).alloc (Obj.cells #[Value.int .i64 (first : Int)] 3)).alloc (Obj.cells #[Value.int .u64 0] 22)).alloc (Obj.cells #[Value.slice none 0 0] 23)).alloc (Obj.cells #[Value.int .i64 0] 25)).alloc (Obj.cells #[Value.int .u64 0] 22)).alloc (Obj.cells #[Value.slice none 0 0] 23)).alloc (Obj.cells #[Value.int .i64 (first : Int)] 3)).alloc (Obj.cells #[Value.int .i64 (m : Int)] 3)) (w.heap.size + 1 + 1) 22 (.int .u64 0) := by
    have h := Boxed.new ((w.alloc (Obj.cells #[Value.pointer (some ⟨g, 0, none⟩)] 24)).alloc (Obj.cells #[Value.int .i64 (first : Int)] 3)) 22 (.int .u64 0)
    simp only [World.size_alloc] at h
    exact ((((((h.alloc _).alloc _).alloc _).alloc _).alloc _).alloc _)
  have k7 : Boxed (((((((((w.alloc (Obj.cells #[Value.pointer (some ⟨g, 0, none⟩)] 24)).alloc (Obj.cells #[Value.int .i64 (first : Int)] 3)).alloc (Obj.cells #[Value.int .u64 0] 22)).alloc (Obj.cells #[Value.slice none 0 0] 23)).alloc (Obj.cells #[Value.int .i64 0] 25)).alloc (Obj.cells #[Value.int .u64 0] 22)).alloc (Obj.cells #[Value.slice none 0 0] 23)).alloc (Obj.cells #[Value.int .i64 (first : Int)] 3)).alloc (Obj.cells #[Value.int .i64 (m : Int)] 3)) (w.heap.size + 1 + 1 + 1) 23 (.slice none 0 0) := by
    have h := Boxed.new (((w.alloc (Obj.cells #[Value.pointer (some ⟨g, 0, none⟩)] 24)).alloc (Obj.cells #[Value.int .i64 (first : Int)] 3)).alloc (Obj.cells #[Value.int .u64 0] 22)) 23 (.slice none 0 0)
    simp only [World.size_alloc] at h
    exact (((((h.alloc _).alloc _).alloc _).alloc _).alloc _)
  have k8 : Boxed (((((((((w.alloc (Obj.cells #[Value.pointer (some ⟨g, 0, none⟩)] 24)).alloc (Obj.cells #[Value.int .i64 (first : Int)] 3)).alloc (Obj.cells #[Value.int .u64 0] 22)).alloc (Obj.cells #[Value.slice none 0 0] 23)).alloc (Obj.cells #[Value.int .i64 0] 25)).alloc (Obj.cells #[Value.int .u64 0] 22)).alloc (Obj.cells #[Value.slice none 0 0] 23)).alloc (Obj.cells #[Value.int .i64 (first : Int)] 3)).alloc (Obj.cells #[Value.int .i64 (m : Int)] 3)) (w.heap.size + 1 + 1 + 1 + 1) 25 (.int .i64 0) := by
    have h := Boxed.new ((((w.alloc (Obj.cells #[Value.pointer (some ⟨g, 0, none⟩)] 24)).alloc (Obj.cells #[Value.int .i64 (first : Int)] 3)).alloc (Obj.cells #[Value.int .u64 0] 22)).alloc (Obj.cells #[Value.slice none 0 0] 23)) 25 (.int .i64 0)
    simp only [World.size_alloc] at h
    exact ((((h.alloc _).alloc _).alloc _).alloc _)
  have k10 : Boxed (((((((((w.alloc (Obj.cells #[Value.pointer (some ⟨g, 0, none⟩)] 24)).alloc (Obj.cells #[Value.int .i64 (first : Int)] 3)).alloc (Obj.cells #[Value.int .u64 0] 22)).alloc (Obj.cells #[Value.slice none 0 0] 23)).alloc (Obj.cells #[Value.int .i64 0] 25)).alloc (Obj.cells #[Value.int .u64 0] 22)).alloc (Obj.cells #[Value.slice none 0 0] 23)).alloc (Obj.cells #[Value.int .i64 (first : Int)] 3)).alloc (Obj.cells #[Value.int .i64 (m : Int)] 3)) (w.heap.size + 1 + 1 + 1 + 1 + 1) 22 (.int .u64 0) := by
    have h := Boxed.new (((((w.alloc (Obj.cells #[Value.pointer (some ⟨g, 0, none⟩)] 24)).alloc (Obj.cells #[Value.int .i64 (first : Int)] 3)).alloc (Obj.cells #[Value.int .u64 0] 22)).alloc (Obj.cells #[Value.slice none 0 0] 23)).alloc (Obj.cells #[Value.int .i64 0] 25)) 22 (.int .u64 0)
    simp only [World.size_alloc] at h
    exact (((h.alloc _).alloc _).alloc _)
  have k11 : Boxed (((((((((w.alloc (Obj.cells #[Value.pointer (some ⟨g, 0, none⟩)] 24)).alloc (Obj.cells #[Value.int .i64 (first : Int)] 3)).alloc (Obj.cells #[Value.int .u64 0] 22)).alloc (Obj.cells #[Value.slice none 0 0] 23)).alloc (Obj.cells #[Value.int .i64 0] 25)).alloc (Obj.cells #[Value.int .u64 0] 22)).alloc (Obj.cells #[Value.slice none 0 0] 23)).alloc (Obj.cells #[Value.int .i64 (first : Int)] 3)).alloc (Obj.cells #[Value.int .i64 (m : Int)] 3)) (w.heap.size + 1 + 1 + 1 + 1 + 1 + 1) 23 (.slice none 0 0) := by
    have h := Boxed.new ((((((w.alloc (Obj.cells #[Value.pointer (some ⟨g, 0, none⟩)] 24)).alloc (Obj.cells #[Value.int .i64 (first : Int)] 3)).alloc (Obj.cells #[Value.int .u64 0] 22)).alloc (Obj.cells #[Value.slice none 0 0] 23)).alloc (Obj.cells #[Value.int .i64 0] 25)).alloc (Obj.cells #[Value.int .u64 0] 22)) 23 (.slice none 0 0)
    simp only [World.size_alloc] at h
    exact ((h.alloc _).alloc _)
  have kf : Boxed (((((((((w.alloc (Obj.cells #[Value.pointer (some ⟨g, 0, none⟩)] 24)).alloc (Obj.cells #[Value.int .i64 (first : Int)] 3)).alloc (Obj.cells #[Value.int .u64 0] 22)).alloc (Obj.cells #[Value.slice none 0 0] 23)).alloc (Obj.cells #[Value.int .i64 0] 25)).alloc (Obj.cells #[Value.int .u64 0] 22)).alloc (Obj.cells #[Value.slice none 0 0] 23)).alloc (Obj.cells #[Value.int .i64 (first : Int)] 3)).alloc (Obj.cells #[Value.int .i64 (m : Int)] 3)) (w.heap.size + 1 + 1 + 1 + 1 + 1 + 1 + 1) 3 (.int .i64 (first : Int)) := by
    have h := Boxed.new (((((((w.alloc (Obj.cells #[Value.pointer (some ⟨g, 0, none⟩)] 24)).alloc (Obj.cells #[Value.int .i64 (first : Int)] 3)).alloc (Obj.cells #[Value.int .u64 0] 22)).alloc (Obj.cells #[Value.slice none 0 0] 23)).alloc (Obj.cells #[Value.int .i64 0] 25)).alloc (Obj.cells #[Value.int .u64 0] 22)).alloc (Obj.cells #[Value.slice none 0 0] 23)) 3 (.int .i64 (first : Int))
    simp only [World.size_alloc] at h
    exact (h.alloc _)
  have km : Boxed (((((((((w.alloc (Obj.cells #[Value.pointer (some ⟨g, 0, none⟩)] 24)).alloc (Obj.cells #[Value.int .i64 (first : Int)] 3)).alloc (Obj.cells #[Value.int .u64 0] 22)).alloc (Obj.cells #[Value.slice none 0 0] 23)).alloc (Obj.cells #[Value.int .i64 0] 25)).alloc (Obj.cells #[Value.int .u64 0] 22)).alloc (Obj.cells #[Value.slice none 0 0] 23)).alloc (Obj.cells #[Value.int .i64 (first : Int)] 3)).alloc (Obj.cells #[Value.int .i64 (m : Int)] 3)) (w.heap.size + 1 + 1 + 1 + 1 + 1 + 1 + 1 + 1) 3 (.int .i64 (m : Int)) := by
    have h := Boxed.new ((((((((w.alloc (Obj.cells #[Value.pointer (some ⟨g, 0, none⟩)] 24)).alloc (Obj.cells #[Value.int .i64 (first : Int)] 3)).alloc (Obj.cells #[Value.int .u64 0] 22)).alloc (Obj.cells #[Value.slice none 0 0] 23)).alloc (Obj.cells #[Value.int .i64 0] 25)).alloc (Obj.cells #[Value.int .u64 0] 22)).alloc (Obj.cells #[Value.slice none 0 0] 23)).alloc (Obj.cells #[Value.int .i64 (first : Int)] 3)) 3 (.int .i64 (m : Int))
    simp only [World.size_alloc] at h
    exact h
  have hGl : Grew w (((((((((w.alloc (Obj.cells #[Value.pointer (some ⟨g, 0, none⟩)] 24)).alloc (Obj.cells #[Value.int .i64 (first : Int)] 3)).alloc (Obj.cells #[Value.int .u64 0] 22)).alloc (Obj.cells #[Value.slice none 0 0] 23)).alloc (Obj.cells #[Value.int .i64 0] 25)).alloc (Obj.cells #[Value.int .u64 0] 22)).alloc (Obj.cells #[Value.slice none 0 0] 23)).alloc (Obj.cells #[Value.int .i64 (first : Int)] 3)).alloc (Obj.cells #[Value.int .i64 (m : Int)] 3)) := by unfold Grew; go_grown
  have hszl : (((((((((w.alloc (Obj.cells #[Value.pointer (some ⟨g, 0, none⟩)] 24)).alloc (Obj.cells #[Value.int .i64 (first : Int)] 3)).alloc (Obj.cells #[Value.int .u64 0] 22)).alloc (Obj.cells #[Value.slice none 0 0] 23)).alloc (Obj.cells #[Value.int .i64 0] 25)).alloc (Obj.cells #[Value.int .u64 0] 22)).alloc (Obj.cells #[Value.slice none 0 0] 23)).alloc (Obj.cells #[Value.int .i64 (first : Int)] 3)).alloc (Obj.cells #[Value.int .i64 (m : Int)] 3)).heap.size = w.heap.size + 1 + 1 + 1 + 1 + 1 + 1 + 1 + 1 + 1 := by simp
  obtain ⟨Wl, hWl⟩ : ∃ Wl, (((((((((w.alloc (Obj.cells #[Value.pointer (some ⟨g, 0, none⟩)] 24)).alloc (Obj.cells #[Value.int .i64 (first : Int)] 3)).alloc (Obj.cells #[Value.int .u64 0] 22)).alloc (Obj.cells #[Value.slice none 0 0] 23)).alloc (Obj.cells #[Value.int .i64 0] 25)).alloc (Obj.cells #[Value.int .u64 0] 22)).alloc (Obj.cells #[Value.slice none 0 0] 23)).alloc (Obj.cells #[Value.int .i64 (first : Int)] 3)).alloc (Obj.cells #[Value.int .i64 (m : Int)] 3)) = Wl := ⟨_, rfl⟩
  rw [hWl] at hGl hszl k3 k4 k6 k7 k8 k10 k11 kf km ⊢
  have hwl : w.heap.size ≤ Wl.heap.size := hGl.size
  have HSZ := Lib.hid hszl
  have H0 : RI w g Wl.heap.size first d.last ([] : List (Fin m)) Wl := ⟨0, [], none, 0, rfl, ⟨k3, k4, k6, k7, k8, k10, k11⟩, World.ownsRow_nil _ _ _ _, hGl, Nat.le_refl _⟩
  have cbf := kf.cell
  have cbm := km.cell
  clear k3 k4 k6 k7 k8 k10 k11 kf km hGl hWl g5
  refine (wpIn_wide (n := 3)).1 (wpIn_rangeFunc_ownG rfl (by decide) (gf := 104) (lb := #[.pointer (some ⟨w.heap.size + 1 + 1 + 1 + 1 + 1 + 1 + 1 + 1, 0, none⟩), .pointer (some ⟨w.heap.size + 1 + 1 + 1 + 1 + 1 + 1 + 1, 0, none⟩)]) rfl trivial (enters_of Try.func104 (by kernel_rfl) rfl)
    (sec_stops 2 (by decide) (w.heap.size + 1 + 1 + 1 + 1 + 1 + 1 + 1) (w.heap.size + 1 + 1 + 1 + 1 + 1 + 1 + 1 + 1) first m HFM.out.2.2.1 _ (by omega) (by omega) cbf cbm) kb_t (kb_b (by omega) (by omega)) (Below.refl _ _) (fun _ => rfl)
    (fun (pre : List (Fin m)) W => RI w g Wl.heap.size first d.last pre W)
    (fun cc pre W => cc = .ret ∧ RX w first d.last pre W)
    (RI.own hwl)
    (fun cc => RX.own (cc = .ret) hwl)
    H0
    ?a1 ?assign ?body ?done ?stop)
  case assign =>
    intro l x W K hK
    gi_wp2
    exact hK
  case body =>
    rintro l pre x W ⟨s, acc, A, c, hal, ⟨B3, B4, B6, B7, B8, B10, B11⟩, how, hgw, hns⟩ hlt
    have hro := HRO.out x.1 x.2
    obtain ⟨sec, hsec⟩ : ∃ sec, d.last[first + x.1]?.getD [] = sec := ⟨_, rfl⟩
    rw [hsec] at hro
    obtain ⟨⟨st, ld, er⟩, hop⟩ : ∃ y, opened sec = y := ⟨_, rfl⟩
    have hld : ld.length ≤ 108 := by have := JF.opened_len sec; rw [hop] at this; exact this
    have hacc := al_len _ _ _ _ _ _ _ hal
    rw [List.length_map, List.length_nil] at hacc
    have hal2 := al_snoc d.last first x.1 _ _ _ _ _ hal
    rw [hsec, hop] at hal2
    have HAL2 := Lib.hid hal2
    have HLA : Hid (acc.length + ld.length ≤ 108 * m + 108) := Lib.hid (by omega)
    have HOW := Lib.hid how
    have HGW := Lib.hid hgw
    have HNS := Lib.hid hns
    have HB := Lib.hid (And.intro B3 (And.intro B4 (And.intro B6 (And.intro B7 (And.intro B8 (And.intro B10 B11))))))
    have c3 := B3.cell
    have HRD := Lib.hid hro
    have HOP := Lib.hid hop
    clear hszl hal hacc hal2 how hgw hns hlt hld hsec hop hro B3 B4 B6 B7 B8 B10 B11
    gi_wp2_with fail
    refine ⟨trivial, (CallsIn.inRound l (callsIn_wide.2 (DAlive.read_eq W g D d _ sec 0 (HD.out.grew HGW.out) HRD.out))).mono ?_⟩
    rintro e w1 ⟨v1, rfl, hr1, hg1⟩
    obtain ⟨A1, c1, rfl, _⟩ := id hr1
    have ho2 := SOpen.open_any _ _ sec w1 hr1
    rw [HOP.out] at ho2
    have HO2 := Lib.hid ho2
    have HG1 := Lib.hid hg1
    clear ho2 hr1 hg1
    gi_wp2_with fail
    refine ⟨trivial, (CallsIn.inRound l (callsIn_wide.2 HO2.out)).mono ?_⟩
    rintro e w2 ⟨v2, rfl, hr2, hg2⟩
    obtain ⟨A6, c6', rfl, _⟩ := id hr2
    have HR2 := Lib.hid hr2
    have HGA := Lib.hid (HG1.out.trans hg2)
    have HNS2 : Hid (Wl.heap.size ≤ w2.heap.size) := Lib.hid (Nat.le_trans HNS.out HGA.out.size)
    have HKF2 : Hid (KeepsFrom Wl.heap.size W w2) := Lib.hid (KeepsFrom.of_grownBy (row := none) ⟨HGA.out.os, HGA.out.tape, HGA.out.output, HGA.out.size, fun k hk _ => HGA.out.block k hk⟩ (fun j e => by cases e))
    have hszl := HSZ.out
    have h2b : ∀ b, b < Wl.heap.size → w2.heap[b]? = W.heap[b]? := fun b hb => HGA.out.block b (Nat.lt_of_lt_of_le hb HNS.out)
    have E3 : Boxed w2 (w.heap.size) 24 (.pointer (some ⟨g, 0, none⟩)) := (h2b _ (by omega)).trans HB.out.1
    have E4 : Boxed w2 (w.heap.size + 1) 3 (.int .i64 (first : Int)) := (h2b _ (by omega)).trans HB.out.2.1
    have E6 : Boxed w2 (w.heap.size + 1 + 1) 22 (.int .u64 0) := (h2b _ (by omega)).trans HB.out.2.2.1
    have E7 : Boxed w2 (w.heap.size + 1 + 1 + 1) 23 (.slice none 0 0) := (h2b _ (by omega)).trans HB.out.2.2.2.1
    have E8 : Boxed w2 (w.heap.size + 1 + 1 + 1 + 1) 25 (.int .i64 0) := (h2b _ (by omega)).trans HB.out.2.2.2.2.1
    have E10 : Boxed w2 (w.heap.size + 1 + 1 + 1 + 1 + 1) 22 (.int .u64 (s : Int)) := (h2b _ (by omega)).trans HB.out.2.2.2.2.2.1
    have E11 : Boxed w2 (w.heap.size + 1 + 1 + 1 + 1 + 1 + 1) 23 (.slice A acc.length c) := (h2b _ (by omega)).trans HB.out.2.2.2.2.2.2
    have HB2 := Lib.hid (And.intro E3 (And.intro E4 (And.intro E6 (And.intro E7 (And.intro E8 (And.intro E10 E11))))))
    have p4 := E4.cell
    have p6 := E6.cell
    have t6 := E6.frozen
    have p7 := E7.cell
    have t7 := E7.frozen
    have p8 := E8.cell
    have t8 := E8.frozen
    have p10 := E10.cell
    have p11 := E11.cell
    clear hr2 hg2 h2b E3 E4 E6 E7 E8 E10 E11 HB HO2 HG1 c3
    by_cases her : er = 0
    · subst her
      by_cases hx0 : x.1 = 0
      · have hgt : ¬ ((first : Int) < (first : Int) + (x.1 : Int)) := by omega
        have HC : Hid (x.1 = 0 ∨ st = s) := Lib.hid (.inl hx0)
        clear hx0
        obtain ⟨v7, w7, hr7, ho7, hg7⟩ := run_app3 w2 Wl.heap.size (.slice A acc.length c) A6 c6' acc ld _ (JF.own_grew HOW.out HGA.out) HR2.out (by have := HLA.out; have := HFM.out; omega) HNS2.out
        obtain ⟨A7, c7', rfl⟩ := JF.own_sl ho7
        have hnb : ∀ b, b < Wl.heap.size → some b ≠ (Value.slice A acc.length c).ownBlock := fun b hb e => by
          have := (own_cells HOW.out e.symm).1
          omega
        have h7b : ∀ b, b < Wl.heap.size → w7.heap[b]? = w2.heap[b]? := fun b hb => hg7.block b (Nat.lt_of_lt_of_le hb HNS2.out) (hnb b hb)
        have HAL3 : Hid (al d.last first ((pre ++ [x]).map (·.1)) 0 [] = some (st, acc ++ ld)) := Lib.hid (by rw [List.map_append, List.map_cons, List.map_nil, HAL2.out]; exact if_pos ⟨rfl, HC.out⟩)
        have E3 : Boxed w7 (w.heap.size) 24 (.pointer (some ⟨g, 0, none⟩)) := (h7b _ (by omega)).trans HB2.out.1
        have E4 : Boxed w7 (w.heap.size + 1) 3 (.int .i64 (first : Int)) := (h7b _ (by omega)).trans HB2.out.2.1
        have E6 : Boxed w7 (w.heap.size + 1 + 1) 22 (.int .u64 0) := (h7b _ (by omega)).trans HB2.out.2.2.1
        have E7 : Boxed w7 (w.heap.size + 1 + 1 + 1) 23 (.slice none 0 0) := (h7b _ (by omega)).trans HB2.out.2.2.2.1
        have E8 : Boxed w7 (w.heap.size + 1 + 1 + 1 + 1) 25 (.int .i64 0) := (h7b _ (by omega)).trans HB2.out.2.2.2.2.1
        have E10 : Boxed w7 (w.heap.size + 1 + 1 + 1 + 1 + 1) 22 (.int .u64 (s : Int)) := (h7b _ (by omega)).trans HB2.out.2.2.2.2.2.1
        have E11 : Boxed w7 (w.heap.size + 1 + 1 + 1 + 1 + 1 + 1) 23 (.slice A acc.length c) := (h7b _ (by omega)).trans HB2.out.2.2.2.2.2.2
        have HE := Lib.hid (And.intro E3 (And.intro E4 (And.intro E6 (And.intro E7 (And.intro E8 (And.intro E10 E11))))))
        have q10 := E10.cell
        have r10 := E10.frozen
        have q11 := E11.cell
        have r11 := E11.frozen
        have HR7 := Lib.hid hr7
        have HO7 := Lib.hid ho7
        have HS7 : Hid (w2.heap.size ≤ w7.heap.size) := Lib.hid hg7.size
        have HGW7 : Hid (Grew w w7) := Lib.hid (grew_turn (HGW.out.trans HGA.out) hwl hg7 fun r e => (own_cells HOW.out e).1)
        have HKO : Hid (KeepsOthers w2 w7) := Lib.hid (KeepsOthers.of_grownBy hg7 fun j o ej hj => by
          obtain ⟨_, o', ho', hc'⟩ := own_cells (JF.own_grew HOW.out HGA.out) ej
          rw [hj] at ho'
          injection ho' with ho'
          rw [ho']
          exact hc')
        have HKB7 : Hid (w7.heap[w.heap.size + 1 + 1 + 1 + 1 + 1 + 1 + 1]? = w2.heap[w.heap.size + 1 + 1 + 1 + 1 + 1 + 1 + 1]? ∧ w7.heap[w.heap.size + 1 + 1 + 1 + 1 + 1 + 1 + 1 + 1]? = w2.heap[w.heap.size + 1 + 1 + 1 + 1 + 1 + 1 + 1 + 1]?) := Lib.hid ⟨h7b _ (by omega), h7b _ (by omega)⟩
        clear hszl hr7 ho7 hg7 hnb h7b E3 E4 E6 E7 E8 E10 E11
        gi_wp2_with (refine wpListIn_app' (by rfl) (.tmp 58) (.tmp 59) 23 23 (by with_reducible rfl) _ _ (by rfl) (by rfl) _ w7 (by exact HR7.out) ?_)
        obtain ⟨E3, E4, E6, E7, E8, E10, E11⟩ := HE.out
        have hszl := HSZ.out
        refine ⟨((HKF2.out.trans (HKO.out.from _)).trans ((KeepsOthers.setCell _ _ _).from _)).trans ((KeepsOthers.setCell _ _ _).from _), ⟨?_, ?_⟩, st, acc ++ ld, A7, c7', HAL3.out, ⟨?_, ?_, ?_, ?_, ?_, ?_, ?_⟩, ?_, ?_, ?_⟩
        · rw [heap_setCell_other _ _ _ _ (by show w.heap.size + 1 + 1 + 1 + 1 + 1 + 1 + 1 ≠ w.heap.size + 1 + 1 + 1 + 1 + 1 + 1; omega), heap_setCell_other _ _ _ _ (by show w.heap.size + 1 + 1 + 1 + 1 + 1 + 1 + 1 ≠ w.heap.size + 1 + 1 + 1 + 1 + 1; omega), HKB7.out.1, HGA.out.block _ (by have := HNS.out; omega)]
        · rw [heap_setCell_other _ _ _ _ (by show w.heap.size + 1 + 1 + 1 + 1 + 1 + 1 + 1 + 1 ≠ w.heap.size + 1 + 1 + 1 + 1 + 1 + 1; omega), heap_setCell_other _ _ _ _ (by show w.heap.size + 1 + 1 + 1 + 1 + 1 + 1 + 1 + 1 ≠ w.heap.size + 1 + 1 + 1 + 1 + 1; omega), HKB7.out.2, HGA.out.block _ (by have := HNS.out; omega)]
        · exact (E3.other (by omega) _).other (by omega) _
        · exact (E4.other (by omega) _).other (by omega) _
        · exact (E6.other (by omega) _).other (by omega) _
        · exact (E7.other (by omega) _).other (by omega) _
        · exact (E8.other (by omega) _).other (by omega) _
        · exact (E10.set _).other (by omega) _
        · rw [List.length_append]
          exact (E11.other (by omega) _).set _
        · refine (HO7.out.kept (grownBy_setCell' _ _ _) ?_).kept (grownBy_setCell' _ _ _) ?_
          · refine .inr fun e => ?_
            have := (own_cells HO7.out e).1
            omega
          · refine .inr fun e => ?_
            have := (own_cells HO7.out e).1
            omega
        · exact (HGW7.out.setCell (p := ⟨w.heap.size + 1 + 1 + 1 + 1 + 1, 0, none⟩) (by show w.heap.size ≤ w.heap.size + 1 + 1 + 1 + 1 + 1; omega) _).setCell (p := ⟨w.heap.size + 1 + 1 + 1 + 1 + 1 + 1, 0, none⟩) (by show w.heap.size ≤ w.heap.size + 1 + 1 + 1 + 1 + 1 + 1; omega) _
        · have := HNS2.out
          have := HS7.out
          show Wl.heap.size ≤ ((w7.setCell _ _).setCell _ _).heap.size
          simp only [World.setCell, Array.size_modify]
          omega
      · have hgt : (first : Int) < (first : Int) + (x.1 : Int) := by omega
        by_cases hst : st = s
        · have b1 : ((st : Int) != (s : Int)) = false := by simp; omega
          have HC : Hid (x.1 = 0 ∨ st = s) := Lib.hid (.inr hst)
          clear hst hx0
          obtain ⟨v7, w7, hr7, ho7, hg7⟩ := run_app3 w2 Wl.heap.size (.slice A acc.length c) A6 c6' acc ld _ (JF.own_grew HOW.out HGA.out) HR2.out (by have := HLA.out; have := HFM.out; omega) HNS2.out
          obtain ⟨A7, c7', rfl⟩ := JF.own_sl ho7
          have hnb : ∀ b, b < Wl.heap.size → some b ≠ (Value.slice A acc.length c).ownBlock := fun b hb e => by
            have := (own_cells HOW.out e.symm).1
            omega
          have h7b : ∀ b, b < Wl.heap.size → w7.heap[b]? = w2.heap[b]? := fun b hb => hg7.block b (Nat.lt_of_lt_of_le hb HNS2.out) (hnb b hb)
          have HAL3 : Hid (al d.last first ((pre ++ [x]).map (·.1)) 0 [] = some (st, acc ++ ld)) := Lib.hid (by rw [List.map_append, List.map_cons, List.map_nil, HAL2.out]; exact if_pos ⟨rfl, HC.out⟩)
          have E3 : Boxed w7 (w.heap.size) 24 (.pointer (some ⟨g, 0, none⟩)) := (h7b _ (by omega)).trans HB2.out.1
          have E4 : Boxed w7 (w.heap.size + 1) 3 (.int .i64 (first : Int)) := (h7b _ (by omega)).trans HB2.out.2.1
          have E6 : Boxed w7 (w.heap.size + 1 + 1) 22 (.int .u64 0) := (h7b _ (by omega)).trans HB2.out.2.2.1
          have E7 : Boxed w7 (w.heap.size + 1 + 1 + 1) 23 (.slice none 0 0) := (h7b _ (by omega)).trans HB2.out.2.2.2.1
          have E8 : Boxed w7 (w.heap.size + 1 + 1 + 1 + 1) 25 (.int .i64 0) := (h7b _ (by omega)).trans HB2.out.2.2.2.2.1
          have E10 : Boxed w7 (w.heap.size + 1 + 1 + 1 + 1 + 1) 22 (.int .u64 (s : Int)) := (h7b _ (by omega)).trans HB2.out.2.2.2.2.2.1
          have E11 : Boxed w7 (w.heap.size + 1 + 1 + 1 + 1 + 1 + 1) 23 (.slice A acc.length c) := (h7b _ (by omega)).trans HB2.out.2.2.2.2.2.2
          have HE := Lib.hid (And.intro E3 (And.intro E4 (And.intro E6 (And.intro E7 (And.intro E8 (And.intro E10 E11))))))
          have q10 := E10.cell
          have r10 := E10.frozen
          have q11 := E11.cell
          have r11 := E11.frozen
          have HR7 := Lib.hid hr7
          have HO7 := Lib.hid ho7
          have HS7 : Hid (w2.heap.size ≤ w7.heap.size) := Lib.hid hg7.size
          have HGW7 : Hid (Grew w w7) := Lib.hid (grew_turn (HGW.out.trans HGA.out) hwl hg7 fun r e => (own_cells HOW.out e).1)
          have HKO : Hid (KeepsOthers w2 w7) := Lib.hid (KeepsOthers.of_grownBy hg7 fun j o ej hj => by
            obtain ⟨_, o', ho', hc'⟩ := own_cells (JF.own_grew HOW.out HGA.out) ej
            rw [hj] at ho'
            injection ho' with ho'
            rw [ho']
            exact hc')
          have HKB7 : Hid (w7.heap[w.heap.size + 1 + 1 + 1 + 1 + 1 + 1 + 1]? = w2.heap[w.heap.size + 1 + 1 + 1 + 1 + 1 + 1 + 1]? ∧ w7.heap[w.heap.size + 1 + 1 + 1 + 1 + 1 + 1 + 1 + 1]? = w2.heap[w.heap.size + 1 + 1 + 1 + 1 + 1 + 1 + 1 + 1]?) := Lib.hid ⟨h7b _ (by omega), h7b _ (by omega)⟩
          clear hszl hr7 ho7 hg7 hnb h7b E3 E4 E6 E7 E8 E10 E11
          gi_wp2_with (refine wpListIn_app' (by rfl) (.tmp 58) (.tmp 59) 23 23 (by with_reducible rfl) _ _ (by rfl) (by rfl) _ w7 (by exact HR7.out) ?_)
          obtain ⟨E3, E4, E6, E7, E8, E10, E11⟩ := HE.out
          have hszl := HSZ.out
          refine ⟨((HKF2.out.trans (HKO.out.from _)).trans ((KeepsOthers.setCell _ _ _).from _)).trans ((KeepsOthers.setCell _ _ _).from _), ⟨?_, ?_⟩, st, acc ++ ld, A7, c7', HAL3.out, ⟨?_, ?_, ?_, ?_, ?_, ?_, ?_⟩, ?_, ?_, ?_⟩
          · rw [heap_setCell_other _ _ _ _ (by show w.heap.size + 1 + 1 + 1 + 1 + 1 + 1 + 1 ≠ w.heap.size + 1 + 1 + 1 + 1 + 1 + 1; omega), heap_setCell_other _ _ _ _ (by show w.heap.size + 1 + 1 + 1 + 1 + 1 + 1 + 1 ≠ w.heap.size + 1 + 1 + 1 + 1 + 1; omega), HKB7.out.1, HGA.out.block _ (by have := HNS.out; omega)]
          · rw [heap_setCell_other _ _ _ _ (by show w.heap.size + 1 + 1 + 1 + 1 + 1 + 1 + 1 + 1 ≠ w.heap.size + 1 + 1 + 1 + 1 + 1 + 1; omega), heap_setCell_other _ _ _ _ (by show w.heap.size + 1 + 1 + 1 + 1 + 1 + 1 + 1 + 1 ≠ w.heap.size + 1 + 1 + 1 + 1 + 1; omega), HKB7.out.2, HGA.out.block _ (by have := HNS.out; omega)]
          · exact (E3.other (by omega) _).other (by omega) _
          · exact (E4.other (by omega) _).other (by omega) _
          · exact (E6.other (by omega) _).other (by omega) _
          · exact (E7.other (by omega) _).other (by omega) _
          · exact (E8.other (by omega) _).other (by omega) _
          · exact (E10.set _).other (by omega) _
          · rw [List.length_append]
            exact (E11.other (by omega) _).set _
          · refine (HO7.out.kept (grownBy_setCell' _ _ _) ?_).kept (grownBy_setCell' _ _ _) ?_
            · refine .inr fun e => ?_
              have := (own_cells HO7.out e).1
              omega
            · refine .inr fun e => ?_
              have := (own_cells HO7.out e).1
              omega
          · exact (HGW7.out.setCell (p := ⟨w.heap.size + 1 + 1 + 1 + 1 + 1, 0, none⟩) (by show w.heap.size ≤ w.heap.size + 1 + 1 + 1 + 1 + 1; omega) _).setCell (p := ⟨w.heap.size + 1 + 1 + 1 + 1 + 1 + 1, 0, none⟩) (by show w.heap.size ≤ w.heap.size + 1 + 1 + 1 + 1 + 1 + 1; omega) _
          · have := HNS2.out
            have := HS7.out
            show Wl.heap.size ≤ ((w7.setCell _ _).setCell _ _).heap.size
            simp only [World.setCell, Array.size_modify]
            omega
        · have b1 : ((st : Int) != (s : Int)) = true := by simp; omega
          have HC : Hid (¬ ((0 : Int) = 0 ∧ (x.1 = 0 ∨ st = s))) := Lib.hid (by rintro ⟨_, h | h⟩; exact hx0 h; exact hst h)
          clear hst hx0
          have HAL3 : Hid (al d.last first ((pre ++ [x]).map (·.1)) 0 [] = none) := Lib.hid (by rw [List.map_append, List.map_cons, List.map_nil, HAL2.out]; exact if_neg HC.out)
          clear hszl
          gi_wp2
          obtain ⟨E3, E4, E6, E7, E8, E10, E11⟩ := HB2.out
          have hszl := HSZ.out
          refine ⟨((HKF2.out.trans ((KeepsOthers.setCell _ _ _).from _)).trans ((KeepsOthers.setCell _ _ _).from _)).trans ((KeepsOthers.setCell _ _ _).from _), rfl, HAL3.out, ⟨?_, ?_, ?_⟩, ?_⟩
          · exact ((E6.set _).other (by omega) _).other (by omega) _
          · exact ((E7.other (by omega) _).set _).other (by omega) _
          · exact ((E8.other (by omega) _).other (by omega) _).set _
          · exact (((HGW.out.trans HGA.out).setCell (p := ⟨w.heap.size + 1 + 1, 0, none⟩) (by show w.heap.size ≤ w.heap.size + 1 + 1; omega) _).setCell (p := ⟨w.heap.size + 1 + 1 + 1, 0, none⟩) (by show w.heap.size ≤ w.heap.size + 1 + 1 + 1; omega) _).setCell (p := ⟨w.heap.size + 1 + 1 + 1 + 1, 0, none⟩) (by show w.heap.size ≤ w.heap.size + 1 + 1 + 1 + 1; omega) _
    · have b0 : (er != 0) = true := by simpa using her
      have HC : Hid (¬ (er = 0 ∧ (x.1 = 0 ∨ st = s))) := Lib.hid fun h => her h.1
      clear her
      have HAL3 : Hid (al d.last first ((pre ++ [x]).map (·.1)) 0 [] = none) := Lib.hid (by rw [List.map_append, List.map_cons, List.map_nil, HAL2.out]; exact if_neg HC.out)
      clear hszl
      gi_wp2
      obtain ⟨E3, E4, E6, E7, E8, E10, E11⟩ := HB2.out
      have hszl := HSZ.out
      refine ⟨((HKF2.out.trans ((KeepsOthers.setCell _ _ _).from _)).trans ((KeepsOthers.setCell _ _ _).from _)).trans ((KeepsOthers.setCell _ _ _).from _), rfl, HAL3.out, ⟨?_, ?_, ?_⟩, ?_⟩
      · exact ((E6.set _).other (by omega) _).other (by omega) _
      · exact ((E7.other (by omega) _).set _).other (by omega) _
      · exact ((E8.other (by omega) _).other (by omega) _).set _
      · exact (((HGW.out.trans HGA.out).setCell (p := ⟨w.heap.size + 1 + 1, 0, none⟩) (by show w.heap.size ≤ w.heap.size + 1 + 1; omega) _).setCell (p := ⟨w.heap.size + 1 + 1 + 1, 0, none⟩) (by show w.heap.size ≤ w.heap.size + 1 + 1 + 1; omega) _).setCell (p := ⟨w.heap.size + 1 + 1 + 1 + 1, 0, none⟩) (by show w.heap.size ≤ w.heap.size + 1 + 1 + 1 + 1; omega) _
  case done =>
    rintro DD ys W hDD hys ⟨s, acc, A, c, hal, ⟨B3, B4, B6, B7, B8, B10, B11⟩, how, hgw, hns⟩ hK
    have hacc := al_len _ _ _ _ _ _ _ hal
    rw [hys, List.length_range, List.length_nil] at hacc
    rw [hys, List.range_eq_range', al_aload] at hal
    obtain ⟨⟨rec, okk⟩, htd⟩ : ∃ y, JC.toldS acc = y := ⟨_, rfl⟩
    have ht := AA.told_any _ (.slice A acc.length c) acc W (Rd.of_own how rfl) (by have := HFM.out; omega)
    have hard : ard d.last first m = if okk = true then (s, rec, 0) else (0, [], 2) := by
      unfold ard atell
      rw [hal]
      show (if (JC.toldS acc).2 = true then (s, (JC.toldS acc).1, (0 : Int)) else (0, [], 2)) = _
      rw [htd]
    rw [htd] at ht
    have hard2 : (s0, b0, e0) = if okk = true then (s, rec, 0) else (0, [], 2) := HARD0.out.symm.trans hard
    have HB := Lib.hid (And.intro B6 (And.intro B7 (And.intro B8 B10)))
    have HGW := Lib.hid hgw
    have HNS := Lib.hid hns
    have HKD := Lib.hid hK
    have c11 := B11.cell
    have HDD := Lib.hid hDD
    have hlD : DD < W.heap.size := (Array.getElem?_eq_some_iff.1 hK).1
    have HLD := Lib.hid hlD
    clear hszl hal hys hacc htd hard how hgw hns hK B3 B4 B6 B7 B8 B10 B11 hDD hlD
    cases okk with
    | true =>
      have ht2 : Calls Try.prog 58 #[.slice A acc.length c] W fun e w' => ∃ v', e = .returned (.tuple #[v', .int .i64 0]) ∧ Rd (fun b => W.heap.size ≤ b) w' v' rec ∧ Grew W w' := ht
      have HT := Lib.hid ht2
      rw [if_pos rfl] at hard2
      injection hard2 with j1 j2
      injection j2 with j2 j3
      subst j1 j2 j3
      clear ht ht2
      go_wp2_with fail
      refine HT.out.mono ?_
      rintro e w3 ⟨v3, rfl, hr3, hg3⟩
      obtain ⟨A3, c3, rfl, _⟩ := id hr3
      have hszl := HSZ.out
      have h3b : ∀ b, b < Wl.heap.size → w3.heap[b]? = W.heap[b]? := fun b hb => hg3.block b (Nat.lt_of_lt_of_le hb HNS.out)
      have E6 : Boxed w3 (w.heap.size + 1 + 1) 22 (.int .u64 0) := (h3b _ (by omega)).trans HB.out.1
      have E7 : Boxed w3 (w.heap.size + 1 + 1 + 1) 23 (.slice none 0 0) := (h3b _ (by omega)).trans HB.out.2.1
      have E8 : Boxed w3 (w.heap.size + 1 + 1 + 1 + 1) 25 (.int .i64 0) := (h3b _ (by omega)).trans HB.out.2.2.1
      have E10 : Boxed w3 (w.heap.size + 1 + 1 + 1 + 1 + 1) 22 (.int .u64 (s0 : Int)) := (h3b _ (by omega)).trans HB.out.2.2.2
      have p6 := E6.cell
      have t6 := E6.frozen
      have p7 := E7.cell
      have t7 := E7.frozen
      have p8 := E8.cell
      have t8 := E8.frozen
      have p10 := E10.cell
      have HE := Lib.hid (And.intro E6 (And.intro E7 E8))
      have HR3 := Lib.hid hr3
      have HG3 := Lib.hid hg3
      have HK3 : Hid (w3.heap[DD]? = some (.deferred (some []))) := Lib.hid ((hg3.block DD HLD.out).trans HKD.out)
      clear hszl hr3 hg3 h3b E6 E7 E8 E10 HT
      go_wp2
      have hkd := (KeepsOthers.setCell (w3.setCell ⟨w.heap.size + 1 + 1, 0, none⟩ (.int .u64 (s0 : Int))) ⟨w.heap.size + 1 + 1 + 1, 0, none⟩ (.slice A3 b0.length c3)).same DD _ ((KeepsOthers.setCell w3 ⟨w.heap.size + 1 + 1, 0, none⟩ (.int .u64 (s0 : Int))).same DD _ HK3.out rfl) rfl
      have hkd2 := (KeepsOthers.setCell _ ⟨w.heap.size + 1 + 1 + 1 + 1, 0, none⟩ (.int .i64 0)).same DD _ hkd rfl
      have hD := HDD.out
      have hszl := HSZ.out
      have hne : ∀ b, b < Wl.heap.size → b ≠ DD := fun b hb => by omega
      refine ⟨by simp, .inl ⟨_, _, rfl, run_takeDeferred hkd2, ?_⟩⟩
      obtain ⟨E6, E7, E8⟩ := HE.out
      refine ⟨_, res17 _ (w.heap.size + 1 + 1) (w.heap.size + 1 + 1 + 1) (w.heap.size + 1 + 1 + 1 + 1) (s0 : Int) (.slice A3 b0.length c3) 0 _ rfl rfl rfl ?_ A3 b0.length c3 rfl ?_ ?_, _, rfl, ?_, ?_⟩
      · exact (World.cell?_of_block (World.putObj_heap_other (hne (w.heap.size + 1 + 1) (by omega)))).trans (((E6.set _).other (by omega) _).other (by omega) _).cell
      · exact (World.cell?_of_block (World.putObj_heap_other (hne (w.heap.size + 1 + 1 + 1) (by omega)))).trans (((E7.other (by omega) _).set _).other (by omega) _).cell
      · exact (World.cell?_of_block (World.putObj_heap_other (hne (w.heap.size + 1 + 1 + 1 + 1) (by omega)))).trans (((E8.other (by omega) _).other (by omega) _).set _).cell
      · refine (HR3.out.keep fun b hb hS => ?_).mono fun b hb => Nat.le_trans HGW.out.size hb
        have hns := HNS.out
        have hlD := HLD.out
        rw [World.putObj_heap_other (by omega), heap_setCell_other _ _ _ _ (by show b ≠ w.heap.size + 1 + 1 + 1 + 1; omega), heap_setCell_other _ _ _ _ (by show b ≠ w.heap.size + 1 + 1 + 1; omega), heap_setCell_other _ _ _ _ (by show b ≠ w.heap.size + 1 + 1; omega)]
      · refine grew_turn ((((HGW.out.trans HG3.out).setCell (p := ⟨w.heap.size + 1 + 1, 0, none⟩) (by show w.heap.size ≤ w.heap.size + 1 + 1; omega) _).setCell (p := ⟨w.heap.size + 1 + 1 + 1, 0, none⟩) (by show w.heap.size ≤ w.heap.size + 1 + 1 + 1; omega) _).setCell (p := ⟨w.heap.size + 1 + 1 + 1 + 1, 0, none⟩) (by show w.heap.size ≤ w.heap.size + 1 + 1 + 1 + 1; omega) _) hwl (grownBy_putObj' _ DD _) ?_
        intro r hr
        injection hr with hr
        omega
    | false =>
      have ht2 : Calls Try.prog 58 #[.slice A acc.length c] W fun e w' => ∃ v', e = .returned (.tuple #[v', .int .i64 2]) ∧ Rd (fun b => W.heap.size ≤ b) w' v' rec ∧ Grew W w' := ht
      have HT := Lib.hid ht2
      rw [if_neg (by decide)] at hard2
      injection hard2 with j1 j2
      injection j2 with j2 j3
      subst j1 j2 j3
      clear ht ht2
      go_wp2_with fail
      refine HT.out.mono ?_
      rintro e w3 ⟨v3, rfl, hr3, hg3⟩
      obtain ⟨A3, c3, rfl, _⟩ := id hr3
      have hszl := HSZ.out
      have h3b : ∀ b, b < Wl.heap.size → w3.heap[b]? = W.heap[b]? := fun b hb => hg3.block b (Nat.lt_of_lt_of_le hb HNS.out)
      have E6 : Boxed w3 (w.heap.size + 1 + 1) 22 (.int .u64 0) := (h3b _ (by omega)).trans HB.out.1
      have E7 : Boxed w3 (w.heap.size + 1 + 1 + 1) 23 (.slice none 0 0) := (h3b _ (by omega)).trans HB.out.2.1
      have E8 : Boxed w3 (w.heap.size + 1 + 1 + 1 + 1) 25 (.int .i64 0) := (h3b _ (by omega)).trans HB.out.2.2.1
      have p6 := E6.cell
      have t6 := E6.frozen
      have p7 := E7.cell
      have t7 := E7.frozen
      have p8 := E8.cell
      have t8 := E8.frozen
      have HE := Lib.hid (And.intro E6 (And.intro E7 E8))
      have HG3 := Lib.hid hg3
      have HK3 : Hid (w3.heap[DD]? = some (.deferred (some []))) := Lib.hid ((hg3.block DD HLD.out).trans HKD.out)
      clear hszl hr3 hg3 h3b E6 E7 E8 HT
      go_wp2
      have hkd := (KeepsOthers.setCell (w3.setCell ⟨w.heap.size + 1 + 1, 0, none⟩ (.int .u64 0)) ⟨w.heap.size + 1 + 1 + 1, 0, none⟩ (.slice none 0 0)).same DD _ ((KeepsOthers.setCell w3 ⟨w.heap.size + 1 + 1, 0, none⟩ (.int .u64 0)).same DD _ HK3.out rfl) rfl
      have hkd2 := (KeepsOthers.setCell _ ⟨w.heap.size + 1 + 1 + 1 + 1, 0, none⟩ (.int .i64 2)).same DD _ hkd rfl
      have hD := HDD.out
      have hszl := HSZ.out
      have hne : ∀ b, b < Wl.heap.size → b ≠ DD := fun b hb => by omega
      refine ⟨by simp, .inl ⟨_, _, rfl, run_takeDeferred hkd2, ?_⟩⟩
      obtain ⟨E6, E7, E8⟩ := HE.out
      refine ⟨_, res17 _ (w.heap.size + 1 + 1) (w.heap.size + 1 + 1 + 1) (w.heap.size + 1 + 1 + 1 + 1) 0 (.slice none 0 0) 2 _ rfl rfl rfl ?_ none 0 0 rfl ?_ ?_, _, rfl, Rd.nil _ _, ?_⟩
      · exact (World.cell?_of_block (World.putObj_heap_other (hne (w.heap.size + 1 + 1) (by omega)))).trans (((E6.set _).other (by omega) _).other (by omega) _).cell
      · exact (World.cell?_of_block (World.putObj_heap_other (hne (w.heap.size + 1 + 1 + 1) (by omega)))).trans (((E7.other (by omega) _).set _).other (by omega) _).cell
      · exact (World.cell?_of_block (World.putObj_heap_other (hne (w.heap.size + 1 + 1 + 1 + 1) (by omega)))).trans (((E8.other (by omega) _).other (by omega) _).set _).cell
      · refine grew_turn ((((HGW.out.trans HG3.out).setCell (p := ⟨w.heap.size + 1 + 1, 0, none⟩) (by show w.heap.size ≤ w.heap.size + 1 + 1; omega) _).setCell (p := ⟨w.heap.size + 1 + 1 + 1, 0, none⟩) (by show w.heap.size ≤ w.heap.size + 1 + 1 + 1; omega) _).setCell (p := ⟨w.heap.size + 1 + 1 + 1 + 1, 0, none⟩) (by show w.heap.size ≤ w.heap.size + 1 + 1 + 1 + 1; omega) _) hwl (grownBy_putObj' _ DD _) ?_
        intro r hr
        injection hr with hr
        omega
  case stop =>
    rintro DD cc pre W hDD hpre ⟨rfl, hal, ⟨B6, B7, B8⟩, hgw⟩ hK
    obtain ⟨suf, hsuf⟩ := hpre
    have hard : ard d.last first m = (0, [], 2) := by
      have e : aload d.last first m 0 0 [] = none := by
        rw [← al_aload, ← List.range_eq_range', ← hsuf]
        exact al_stop d.last first suf _ _ _ hal
      unfold ard
      rw [e]
      rfl
    have hard2 := HARD0.out.symm.trans hard
    injection hard2 with j1 j2
    injection j2 with j2 j3
    subst j1 j2 j3
    refine wpIn_wide.2 ?_
    have c6 := B6.cell
    have c7 := B7.cell
    have c8 := B8.cell
    clear hard hsuf hal hszl
    go_wp2
    have hszl := HSZ.out
    have hne : ∀ b, b < Wl.heap.size → b ≠ DD := fun b hb => by omega
    refine ⟨by simp, .inl ⟨_, _, rfl, run_takeDeferred hK, ?_⟩⟩
    refine ⟨_, res17 _ (w.heap.size + 1 + 1) (w.heap.size + 1 + 1 + 1) (w.heap.size + 1 + 1 + 1 + 1) 0 (.slice none 0 0) 2 _ rfl rfl rfl ?_ none 0 0 rfl ?_ ?_, _, rfl, Rd.nil _ _, ?_⟩
    · exact (World.cell?_of_block (World.putObj_heap_other (hne (w.heap.size + 1 + 1) (by omega)))).trans c6
    · exact (World.cell?_of_block (World.putObj_heap_other (hne (w.heap.size + 1 + 1 + 1) (by omega)))).trans c7
    · exact (World.cell?_of_block (World.putObj_heap_other (hne (w.heap.size + 1 + 1 + 1 + 1) (by omega)))).trans c8
    · refine grew_turn hgw hwl (grownBy_putObj' _ DD _) ?_
      intro r hr
      injection hr with hr
      omega

end Go.Proofs.Ytbnicphegbdfnaa.AD
namespace Go.Proofs.Ytbnicphegbdfnaa.AR
set_option maxRecDepth 100000
open Go Go.RowKit Go.Proofs.Ytbnicphegbdfnaa Go.Proofs.Ytbnicphegbdfnaa.Facts

variable {P : Program} {ops : Array Oper} {Q : Exit → Act → World → Prop}
theorem op_in (lr n : Nat) (o : Oper) (hd : ∀ c, o.op ≠ .defer c) (hQ : ¬ LetsOut Q) (K K' : Act → World → Prop) (hK : ∀ a w, K a w → K' a w) (a : Act) (w : World) (h : o.wp P a w K Q) : o.wpIn (Fence.wide.inRound lr) n P a w K' Q := by
  refine ⟨fun _ _ => trivial, ?_⟩
  rw [Oper.semAt_eq _ _ _ hd]
  unfold Oper.wp at h
  generalize (execOp a.eval o).run P w = r at h
  cases r with
  | ok nx w' =>
    cases nx with
    | value v => exact hK _ _ h
    | skip => exact hK _ _ h
    | defer d => exact hK _ _ h
    | enter f args =>
      refine ⟨fun hh => (by cases hh), (CallsIn.inRound lr (callsIn_wide.2 h)).mono ?_⟩
      intro e w'' he
      cases e with
      | returned v => exact hK _ _ he
      | panicked c => exact he
      | outgrown => exact absurd he hQ
    | row rw args =>
      refine ⟨fun hh => (by cases hh), fun c cs hroom => ?_⟩
      obtain ⟨v, w2, h1, h2⟩ := h c cs
      exact ⟨v, w2, hK _ _ h1, stepsIn_wide.2 h2⟩
    | _ => exact h.elim
  | halt x w' =>
    cases x <;> exact h
theorem ops_in (lr n : Nat) (hQ : ¬ LetsOut Q) (hd : ∀ (i : Nat) (o : Oper), ops[i]? = some o → ∀ c, o.op ≠ .defer c) : ∀ (L : List Nat) (a : Act) (w : World), wpOps P ops Q L a w → wpOpsIn (Fence.wide.inRound lr) n P ops Q L a w
  | [], a, w, h => h
  | i :: rest, a, w, h => by
    unfold wpOps at h
    unfold wpOpsIn
    cases ho : ops[i]? with
    | none =>
      simp only [ho] at h ⊢
      exact ops_in lr n hQ hd rest a w h
    | some o =>
      simp only [ho] at h ⊢
      split at h
      · rename_i hw
        rw [if_pos hw]
        rcases h with h | ⟨_, h⟩
        · exact op_in lr n o (hd i o ho) hQ _ _ (fun a w => ops_in lr n hQ hd rest a w) a w h
        · exact absurd h hQ
      · rename_i hw
        rw [if_neg hw]
        exact ⟨fun _ _ => trivial, ops_in lr n hQ hd rest _ w h⟩
def calmOp (o : Oper) : Bool := match o.op with | .defer _ => false | _ => true
theorem calm_ops {l : List Oper} (h : l.all calmOp = true) (i : Nat) (o : Oper) (ho : l.toArray[i]? = some o) (c : Call) : o.op ≠ .defer c := fun e => by
  have h1 := List.all_eq_true.1 h o (List.mem_of_getElem? (by simpa using ho))
  unfold calmOp at h1
  rw [e] at h1
  cases h1
theorem wpIn_region_text {id : Nat} {a : Act} {w : World} {l : List Oper} (lr n : Nat) (hQ : ¬ LetsOut Q) (hd : l.all calmOp = true) (hm : P.follows .mixedOrders = true) (hB : checkB l.toArray (cloTab l.toArray l.toArray.size) = true)
    (h : Lex P l.toArray (cloTab l.toArray l.toArray.size) w (fun a w => Q .normal a w) l 0 (fun _ => a) []) : (Code.region id l.toArray true).wpIn (Fence.wide.inRound lr) n P Q a w := by
  unfold checkB at hB
  simp only [Bool.and_eq_true] at hB
  obtain ⟨⟨h1, h2⟩, h3⟩ := hB
  obtain ⟨x, g, H⟩ := wpAny_of_lex (Q := Q) (ops := l.toArray) h1 h2 h3 (by simpa using h)
  refine wpIn_region_draw fun t => ops_in lr n hQ (calm_ops hd) _ _ _ ?_
  simp only [Region.schedule, hm, Bool.true_or, if_true]
  refine wpAny_sound _ t _ a _ ?_
  show wpAny P .any l.toArray Q l.toArray.size (Array.replicate l.toArray.size false) a w.drew
  refine H l.toArray.size _ a w.drew (fun _ => undef) (List.range l.toArray.size) (by simp) (fun i hi _ => List.mem_range.2 hi) ⟨by simp, (Grew.refl w).drew, ?_, rfl, rfl, ?_, fun s _ => rfl, ?_⟩
  all_goals
    have none_ : ∀ j, ¬ listedAt (Array.replicate l.toArray.size false) j := fun j hj => by
      unfold listedAt at hj
      by_cases hlt : j < l.toArray.size <;> simp [Array.getD, hlt] at hj
  · exact fun j _ hj => absurd hj (none_ j)
  · exact fun j s _ hj => absurd hj (none_ j)
  · exact fun j _ hj => absurd hj (none_ j)

/-- The same where operations may change what was there. -/
theorem wpIn_region_marks {id : Nat} {a : Act} {w : World} {l : List Oper} (lr n : Nat) (hQ : ¬ LetsOut Q) (hd : l.all calmOp = true) (J : (Nat → Bool) → (Nat → Value) → World → Prop) (R : World → World → Prop) (hm : P.follows .mixedOrders = true) (hB : checkB l.toArray (cloTab l.toArray l.toArray.size) = true) (h0 : J (fun _ => false) (fun _ => undef) w.drew)
    (h : Marks.Lex P l.toArray (cloTab l.toArray l.toArray.size) J R (fun a w => Q .normal a w) l 0 (fun _ => a) []) : (Code.region id l.toArray true).wpIn (Fence.wide.inRound lr) n P Q a w := by
  unfold checkB at hB
  simp only [Bool.and_eq_true] at hB
  obtain ⟨⟨h1, h2⟩, h3⟩ := hB
  obtain ⟨x, g, H⟩ := Marks.wpAny_of_lex (Q := Q) (ops := l.toArray) h1 h2 h3 (by simpa using h)
  refine wpIn_region_draw fun t => ops_in lr n hQ (calm_ops hd) _ _ _ ?_
  simp only [Region.schedule, hm, Bool.true_or, if_true]
  refine wpAny_sound _ t _ a _ ?_
  show wpAny P .any l.toArray Q l.toArray.size (Array.replicate l.toArray.size false) a w.drew
  have hfl : Marks.fl (Array.replicate l.toArray.size false) = fun _ => false := by
    funext j
    unfold Marks.fl
    by_cases hlt : j < l.toArray.size <;> simp [Array.getD, hlt]
  refine H l.toArray.size _ a w.drew (fun _ => undef) (List.range l.toArray.size) (by simp) (fun i hi _ => List.mem_range.2 hi) ⟨by simp, by rw [hfl]; exact h0, ?_, rfl, rfl, ?_, fun s _ => rfl, ?_⟩
  all_goals
    have none_ : ∀ j, ¬ listedAt (Array.replicate l.toArray.size false) j := fun j hj => by
      unfold listedAt at hj
      by_cases hlt : j < l.toArray.size <;> simp [Array.getD, hlt] at hj
  · exact fun j _ hj => absurd hj (none_ j)
  · exact fun j s _ hj => absurd hj (none_ j)
  · exact fun j _ hj => absurd hj (none_ j)
end Go.Proofs.Ytbnicphegbdfnaa.AR
namespace Go.Proofs.Ytbnicphegbdfnaa.AE
set_option maxRecDepth 100000
open Go Go.RowKit Go.Shelf Go.Proofs.Ytbnicphegbdfnaa Go.Proofs.Ytbnicphegbdfnaa.Facts Go.Proofs.Ytbnicphegbdfnaa.Bytes Go.Proofs.Ytbnicphegbdfnaa.Puts Go.Proofs.Ytbnicphegbdfnaa.Scan Go.Proofs.Ytbnicphegbdfnaa.DKeep Go.Proofs.Ytbnicphegbdfnaa.DSmall Go.Proofs.Ytbnicphegbdfnaa.SPure Go.Proofs.Ytbnicphegbdfnaa.JA Go.Proofs.Ytbnicphegbdfnaa.JD Go.Proofs.Ytbnicphegbdfnaa.AP Go.Proofs.Ytbnicphegbdfnaa.AQ Go.Proofs.Ytbnicphegbdfnaa.AA Go.Proofs.Ytbnicphegbdfnaa.AW Go.Proofs.Ytbnicphegbdfnaa.AV Go.Proofs.Ytbnicphegbdfnaa.AB Go.Proofs.Ytbnicphegbdfnaa.AC Go.Proofs.Ytbnicphegbdfnaa.AD
attribute [local go_sem] Oper.semAt_some

/-- The loop's state. -/
def NI (w : World) (g n first : Nat) (last : List Sec) {m : Nat} (pre : List (Fin m)) (W : World) : Prop :=
  (Boxed W (w.heap.size) 24 (.pointer (some ⟨g, 0, none⟩)) ∧ Boxed W (w.heap.size + 1) 22 (.int .u64 0) ∧ Boxed W (w.heap.size + 1 + 1) 25 (.int .i64 0) ∧ Boxed W (w.heap.size + 1 + 1 + 1) 22 (.int .u64 ((nl last first (pre.map (·.1)) 0 : Nat) : Int))) ∧ Grew w W ∧ n ≤ W.heap.size
theorem NI.own {w : World} {g n first B : Nat} {last : List Sec} {m : Nat} (hB : w.heap.size ≤ B) : OwnFrom B (fun (pre : List (Fin m)) W => NI w g n first last pre W) := by
  rintro pre W W' row ⟨⟨a1, a2, a3, a4⟩, h3, h4⟩ hg hr
  have hr' := fun r e => (hr r e).2
  exact ⟨⟨boxed_turn a1 hg hr', boxed_turn a2 hg hr', boxed_turn a3 hg hr', boxed_turn a4 hg hr'⟩, grew_turn h3 hB hg fun r e => (hr r e).1, Nat.le_trans h4 hg.size⟩
theorem res18 (tmps : Array Value) (b6 b7 : Nat) (s : Int) (q : Int) (W : World) (h6 : tmps.getD 6 undef = .pointer (some ⟨b6, 0, none⟩)) (h7 : tmps.getD 7 undef = .pointer (some ⟨b7, 0, none⟩))
    (c6 : W.cell? ⟨b6, 0, none⟩ = some (.int .u64 s)) (c7 : W.cell? ⟨b7, 0, none⟩ = some (.int .i64 q)) : (results Try.f18 tmps).run Try.prog W = .ok (.tuple #[.int .u64 s, .int .i64 q]) W := by
  have h6' : tmps[6]?.getD undef = .pointer (some ⟨b6, 0, none⟩) := by simpa using h6
  have h7' : tmps[7]?.getD undef = .pointer (some ⟨b7, 0, none⟩) := by simpa using h7
  simp [results, Try.results18, h6', h7', go_sem, c6, c7]
theorem anumber_eq (S : Nat → Prop) (v : Value) (l : List UInt8) (n : Nat) (hn : Sc.val l = n) (w : World) (h : Rd S w v l) (h1 : 1 ≤ l.length) (h8 : l.length ≤ 8) :
    Calls Try.prog 59 #[v] w fun e w' => e = .returned (.int .u64 (n : Int)) ∧ Grew w w' := by
  subst hn
  exact anumber_any S v l w h h1 h8
set_option maxHeartbeats 4000000 in
theorem anewest_ok (w : World) (g : Nat) (D : Nat → Prop) (d : Pd) (first m : Nat) (hd : DK w g D d) (hq : arefus d (first : Int) (m : Int) = 0) (hev : ∀ i, i < m → (d.last[first + i]?.getD []).length = 128) :
    Calls Try.prog 18 #[.pointer (some ⟨g, 0, none⟩), .int .i64 (first : Int), .int .i64 (m : Int)] w fun e w' => e = .returned (.tuple #[.int .u64 ((anw d.last first m : Nat) : Int), .int .i64 0]) ∧ Grew w w' := by
  have hfm : first + m ≤ d.safe.length ∧ 1 ≤ m ∧ first + m ≤ 16384 ∧ d.off = false := by
    unfold arefus at hq
    obtain ⟨_, a, b, ca, cb, vw, h0, _⟩ := id hd
    have n2 := h0.ok.n2
    split at hq
    · cases hq
    · split at hq
      · cases hq
      · rename_i h1 h2
        exact ⟨by omega, by omega, by omega, by simpa using h2⟩
  have HD := Lib.hid hd
  have HFM := Lib.hid hfm
  have HEV := Lib.hid hev
  have HRO : Hid (∀ i, i < m → DRead.readOf d ((first : Int) + (i : Int)) = (d.last[first + i]?.getD [], 0)) := Lib.hid fun i hi => by
    have h0 : refus d ((first : Int) + (i : Int)) = 0 := by
      unfold refus
      rw [if_neg (by rw [hfm.2.2.2]; decide), if_neg (by omega)]
    unfold DRead.readOf
    rw [if_pos h0, show ((first : Int) + (i : Int)).toNat = first + i by omega]
  have HQ := Lib.hid hq
  obtain ⟨s0, hard0⟩ : ∃ y, anw d.last first m = y := ⟨_, rfl⟩
  rw [hard0]
  have HARD0 := Lib.hid hard0
  clear hd hfm hq hard0 hev
  refine (callsIn_wide (n := 3)).1 (callsIn_of_wp_marks Try.func18 rfl trivial ?_ rfl)
  simp only [Try.ntmps18, List.size_toArray, List.length_cons, List.length_nil, Nat.reduceAdd, Nat.reduceSub, Array.replicate_succ, Array.replicate_zero, List.push_toArray, List.append_toArray, List.nil_append, List.cons_append]
  refine wpIn_wide.2 ?_
  have g5 : Grew w (((w.alloc (Obj.cells #[Value.pointer (some ⟨g, 0, none⟩)] 24)).alloc (Obj.cells #[Value.int .u64 0] 22)).alloc (Obj.cells #[Value.int .i64 0] 25)) := by unfold Grew; go_grown
  go_wp2_with fail
  refine (arefuses_any _ g D d (first : Int) (m : Int) (HD.out.grew g5) (by have := HFM.out; omega)).mono ?_
  rintro e w1 ⟨rfl, rfl⟩
  rw [HQ.out]
  go_wp2_with fail
  refine (sec_any (first : Int) (m : Int) _).mono ?_
  rintro e w' ⟨rfl, rfl⟩
  go_wp2
  have k3 : Boxed ((((((w.alloc (Obj.cells #[Value.pointer (some ⟨g, 0, none⟩)] 24)).alloc (Obj.cells #[Value.int .u64 0] 22)).alloc (Obj.cells #[Value.int .i64 0] 25)).alloc (Obj.cells #[Value.int .u64 0] 22)).alloc (Obj.cells #[Value.int .i64 (first : Int)] 3)).alloc (Obj.cells #[Value.int .i64 (m : Int)] 3)) (w.heap.size) 24 (.pointer (some ⟨g, 0, none⟩)) := by
    have h := Boxed.new w 24 (.pointer (some ⟨g, 0, none⟩))
    exact (((((h.alloc _).alloc _).alloc _).alloc _).alloc _)
  have k6 : Boxed ((((((w.alloc (Obj.cells #[Value.pointer (some ⟨g, 0, none⟩)] 24)).alloc (Obj.cells #[Value.int .u64 0] 22)).alloc (Obj.cells #[Value.int .i64 0] 25)).alloc (Obj.cells #[Value.int .u64 0] 22)).alloc (Obj.cells #[Value.int .i64 (first : Int)] 3)).alloc (Obj.cells #[Value.int .i64 (m : Int)] 3)) (w.heap.size + 1) 22 (.int .u64 0) := by
    have h := Boxed.new (w.alloc (Obj.cells #[Value.pointer (some ⟨g, 0, none⟩)] 24)) 22 (.int .u64 0)
    simp only [World.size_alloc] at h
    exact ((((h.alloc _).alloc _).alloc _).alloc _)
  have k7 : Boxed ((((((w.alloc (Obj.cells #[Value.pointer (some ⟨g, 0, none⟩)] 24)).alloc (Obj.cells #[Value.int .u64 0] 22)).alloc (Obj.cells #[Value.int .i64 0] 25)).alloc (Obj.cells #[Value.int .u64 0] 22)).alloc (Obj.cells #[Value.int .i64 (first : Int)] 3)).alloc (Obj.cells #[Value.int .i64 (m : Int)] 3)) (w.heap.size + 1 + 1) 25 (.int .i64 0) := by
    have h := Boxed.new ((w.alloc (Obj.cells #[Value.pointer (some ⟨g, 0, none⟩)] 24)).alloc (Obj.cells #[Value.int .u64 0] 22)) 25 (.int .i64 0)
    simp only [World.size_alloc] at h
    exact (((h.alloc _).alloc _).alloc _)
  have k9 : Boxed ((((((w.alloc (Obj.cells #[Value.pointer (some ⟨g, 0, none⟩)] 24)).alloc (Obj.cells #[Value.int .u64 0] 22)).alloc (Obj.cells #[Value.int .i64 0] 25)).alloc (Obj.cells #[Value.int .u64 0] 22)).alloc (Obj.cells #[Value.int .i64 (first : Int)] 3)).alloc (Obj.cells #[Value.int .i64 (m : Int)] 3)) (w.heap.size + 1 + 1 + 1) 22 (.int .u64 0) := by
    have h := Boxed.new (((w.alloc (Obj.cells #[Value.pointer (some ⟨g, 0, none⟩)] 24)).alloc (Obj.cells #[Value.int .u64 0] 22)).alloc (Obj.cells #[Value.int .i64 0] 25)) 22 (.int .u64 0)
    simp only [World.size_alloc] at h
    exact ((h.alloc _).alloc _)
  have kf : Boxed ((((((w.alloc (Obj.cells #[Value.pointer (some ⟨g, 0, none⟩)] 24)).alloc (Obj.cells #[Value.int .u64 0] 22)).alloc (Obj.cells #[Value.int .i64 0] 25)).alloc (Obj.cells #[Value.int .u64 0] 22)).alloc (Obj.cells #[Value.int .i64 (first : Int)] 3)).alloc (Obj.cells #[Value.int .i64 (m : Int)] 3)) (w.heap.size + 1 + 1 + 1 + 1) 3 (.int .i64 (first : Int)) := by
    have h := Boxed.new ((((w.alloc (Obj.cells #[Value.pointer (some ⟨g, 0, none⟩)] 24)).alloc (Obj.cells #[Value.int .u64 0] 22)).alloc (Obj.cells #[Value.int .i64 0] 25)).alloc (Obj.cells #[Value.int .u64 0] 22)) 3 (.int .i64 (first : Int))
    simp only [World.size_alloc] at h
    exact (h.alloc _)
  have km : Boxed ((((((w.alloc (Obj.cells #[Value.pointer (some ⟨g, 0, none⟩)] 24)).alloc (Obj.cells #[Value.int .u64 0] 22)).alloc (Obj.cells #[Value.int .i64 0] 25)).alloc (Obj.cells #[Value.int .u64 0] 22)).alloc (Obj.cells #[Value.int .i64 (first : Int)] 3)).alloc (Obj.cells #[Value.int .i64 (m : Int)] 3)) (w.heap.size + 1 + 1 + 1 + 1 + 1) 3 (.int .i64 (m : Int)) := by
    have h := Boxed.new (((((w.alloc (Obj.cells #[Value.pointer (some ⟨g, 0, none⟩)] 24)).alloc (Obj.cells #[Value.int .u64 0] 22)).alloc (Obj.cells #[Value.int .i64 0] 25)).alloc (Obj.cells #[Value.int .u64 0] 22)).alloc (Obj.cells #[Value.int .i64 (first : Int)] 3)) 3 (.int .i64 (m : Int))
    simp only [World.size_alloc] at h
    exact h
  have hGl : Grew w ((((((w.alloc (Obj.cells #[Value.pointer (some ⟨g, 0, none⟩)] 24)).alloc (Obj.cells #[Value.int .u64 0] 22)).alloc (Obj.cells #[Value.int .i64 0] 25)).alloc (Obj.cells #[Value.int .u64 0] 22)).alloc (Obj.cells #[Value.int .i64 (first : Int)] 3)).alloc (Obj.cells #[Value.int .i64 (m : Int)] 3)) := by unfold Grew; go_grown
  have hszl : ((((((w.alloc (Obj.cells #[Value.pointer (some ⟨g, 0, none⟩)] 24)).alloc (Obj.cells #[Value.int .u64 0] 22)).alloc (Obj.cells #[Value.int .i64 0] 25)).alloc (Obj.cells #[Value.int .u64 0] 22)).alloc (Obj.cells #[Value.int .i64 (first : Int)] 3)).alloc (Obj.cells #[Value.int .i64 (m : Int)] 3)).heap.size = w.heap.size + 1 + 1 + 1 + 1 + 1 + 1 := by simp
  obtain ⟨Wl, hWl⟩ : ∃ Wl, ((((((w.alloc (Obj.cells #[Value.pointer (some ⟨g, 0, none⟩)] 24)).alloc (Obj.cells #[Value.int .u64 0] 22)).alloc (Obj.cells #[Value.int .i64 0] 25)).alloc (Obj.cells #[Value.int .u64 0] 22)).alloc (Obj.cells #[Value.int .i64 (first : Int)] 3)).alloc (Obj.cells #[Value.int .i64 (m : Int)] 3)) = Wl := ⟨_, rfl⟩
  rw [hWl] at hGl hszl k3 k6 k7 k9 kf km ⊢
  have hwl : w.heap.size ≤ Wl.heap.size := hGl.size
  have HSZ := Lib.hid hszl
  have H0 : NI w g Wl.heap.size first d.last ([] : List (Fin m)) Wl := ⟨⟨k3, k6, k7, k9⟩, hGl, Nat.le_refl _⟩
  have cbf := kf.cell
  have cbm := km.cell
  clear k3 k6 k7 k9 kf km hGl hWl g5
  refine (wpIn_wide (n := 3)).1 (wpIn_rangeFunc_ownG rfl (by decide) (gf := 104) (lb := #[.pointer (some ⟨w.heap.size + 1 + 1 + 1 + 1 + 1, 0, none⟩), .pointer (some ⟨w.heap.size + 1 + 1 + 1 + 1, 0, none⟩)]) rfl trivial (enters_of Try.func104 (by kernel_rfl) rfl)
    (sec_stops 2 (by decide) (w.heap.size + 1 + 1 + 1 + 1) (w.heap.size + 1 + 1 + 1 + 1 + 1) first m HFM.out.2.2.1 _ (by omega) (by omega) cbf cbm) kb_t (kb_b (by omega) (by omega)) (Below.refl _ _) (fun _ => rfl)
    (fun (pre : List (Fin m)) W => NI w g Wl.heap.size first d.last pre W)
    (fun _ _ _ => False)
    (NI.own hwl)
    (fun _ _ _ _ _ hs _ _ => hs)
    H0
    ?a1 ?assign ?body ?done ?stop)
  case assign =>
    intro l x W K hK
    gi_wp2
    exact hK
  case body =>
    rintro l pre x W ⟨⟨B3, B6, B7, B9⟩, hgw, hns⟩ hlt
    have hro := HRO.out x.1 x.2
    have hsl := HEV.out x.1 x.2
    have hnl := nl_snoc d.last first x.1 (pre.map (·.1)) 0
    obtain ⟨sec, hsec⟩ : ∃ sec, d.last[first + x.1]?.getD [] = sec := ⟨_, rfl⟩
    rw [hsec] at hro hsl hnl
    obtain ⟨most, hmost⟩ : ∃ y, nl d.last first (pre.map (·.1)) 0 = y := ⟨_, rfl⟩
    rw [hmost] at B9 hnl
    obtain ⟨n1, hn1⟩ : ∃ y, Sc.val (sec.take 8) = y := ⟨_, rfl⟩
    obtain ⟨n2, hn2⟩ : ∃ y, Sc.val (sec.drop 120) = y := ⟨_, rfl⟩
    have HNL : Hid (nl d.last first ((pre ++ [x]).map (·.1)) 0 = max (max most n1) n2) := Lib.hid (by
      rw [List.map_append, List.map_cons, List.map_nil, hnl, ← hn1, ← hn2]
      unfold stampOf againOf
      rw [List.take_of_length_le (l := sec.drop 120) (by rw [List.length_drop]; omega)])
    obtain ⟨n3, hn3⟩ : ∃ y, max (max most n1) n2 = y := ⟨_, rfl⟩
    rw [hn3] at HNL
    have HN3 := Lib.hid hn3
    have HN1 := Lib.hid hn1
    have HN2 := Lib.hid hn2
    have HSL := Lib.hid hsl
    have HRD := Lib.hid hro
    have HGW := Lib.hid hgw
    have HNS := Lib.hid hns
    have c3 := B3.cell
    have HB := Lib.hid (And.intro B3 (And.intro B6 (And.intro B7 B9)))
    clear hszl hro hsl hnl hsec hmost hn1 hn2 hn3 hgw hns hlt B3 B6 B7 B9
    gi_wp2_with fail
    refine ⟨trivial, (CallsIn.inRound l (callsIn_wide.2 (DAlive.read_eq W g D d _ sec 0 (HD.out.grew HGW.out) HRD.out))).mono ?_⟩
    rintro e w1 ⟨v1, rfl, hr1, hg1⟩
    obtain ⟨A1, c1, e1, hcl1, hcm1, _⟩ := id hr1
    rw [HSL.out] at e1 hcl1
    subst e1
    unfold maxLen at hcm1
    have hr8 := rd_take hr1 HSL.out (show 8 ≤ 128 by omega)
    have hr9 := rd_drop hr1 HSL.out (show 120 ≤ 128 by omega)
    rw [if_neg (by omega)] at hr9
    have hr9' : Rd (fun b => W.heap.size ≤ b) w1 (.slice (Option.map (fun x => ({ block := x.block, off := x.off + 120 } : Addr)) A1) 8 (c1 - 120)) (sec.drop 120) := by simpa [Addr.add] using hr9
    have hc120 : ¬ c1 = 120 := by omega
    have hc8 : (8 : Int) ≤ (c1 : Int) := by omega
    have hc12 : (128 : Int) ≤ (c1 : Int) := by omega
    have hszl := HSZ.out
    have h2b : ∀ b, b < Wl.heap.size → w1.heap[b]? = W.heap[b]? := fun b hb => hg1.block b (Nat.lt_of_lt_of_le hb HNS.out)
    have E3 : Boxed w1 (w.heap.size) 24 (.pointer (some ⟨g, 0, none⟩)) := (h2b _ (by omega)).trans HB.out.1
    have E6 : Boxed w1 (w.heap.size + 1) 22 (.int .u64 0) := (h2b _ (by omega)).trans HB.out.2.1
    have E7 : Boxed w1 (w.heap.size + 1 + 1) 25 (.int .i64 0) := (h2b _ (by omega)).trans HB.out.2.2.1
    have E9 : Boxed w1 (w.heap.size + 1 + 1 + 1) 22 (.int .u64 (most : Int)) := (h2b _ (by omega)).trans HB.out.2.2.2
    have HB9 := Lib.hid E9
    have HE := Lib.hid (And.intro E3 (And.intro E6 E7))
    have HR8 := Lib.hid hr8
    have HR9 := Lib.hid hr9'
    have HG1 := Lib.hid hg1
    clear hszl h2b E3 E6 E7 E9 hr1 hr8 hr9 hr9' hg1 HB c3
    gi_wp2
    refine AR.wpIn_region_marks l _ (by rintro ⟨a, w, h⟩; exact h) (by kernel_rfl) (DWrite.JS w1 8 (fun Z => ∃ Y, Grew w1 Y ∧ Z = Y.setCell ⟨w.heap.size + 1 + 1 + 1, 0, none⟩ (.int .u64 (n3 : Int)))) (fun _ _ => True) (by kernel_rfl) (by kernel_rfl) (DWrite.JS.start w1 8 _) ?_
    apply Marks.Lex.exact [] _ (by kernel_rfl)
    · intro mm u W3 hm hcl hJ _
      have d1 := DWrite.cellB (hJ.get 0 (by omega) hm).1 HB9.out.cell
      unfold Marks.one
      go_simp
      exact ⟨trivial, hJ.keep 0 (by omega) hm _ (Grew.refl _), rfl⟩
    simp only [Act.put, List.setIfInBounds_toArray, List.set_cons_zero, List.set_cons_succ, Nat.zero_add, Nat.reduceAdd]
    apply Marks.Lex.exact [] _ (by kernel_rfl)
    · intro mm u W3 hm hcl hJ _
      unfold Marks.one
      go_simp
      exact ⟨trivial, hJ.keep 1 (by omega) hm _ (Grew.refl _), rfl⟩
    simp only [Act.put, List.setIfInBounds_toArray, List.set_cons_zero, List.set_cons_succ, Nat.zero_add, Nat.reduceAdd]
    apply Marks.Lex.exact [] _ (by kernel_rfl)
    · intro mm u W3 hm hcl hJ _
      unfold Marks.one
      go_simp
      exact ⟨trivial, hJ.keep 2 (by omega) hm _ (Grew.refl _), rfl⟩
    simp only [Act.put, List.setIfInBounds_toArray, List.set_cons_zero, List.set_cons_succ, Nat.zero_add, Nat.reduceAdd]
    apply Marks.Lex.exact [] (.int .u64 (n1 : Int)) (by kernel_rfl)
    · intro mm u W3 hm hcl hJ _
      have hC := (hJ.get 3 (by omega) hm).1
      unfold Marks.one
      go_simp
      refine Chain.come_enter ?_
      with_reducible refine (anumber_eq _ _ (sec.take 8) n1 HN1.out W3 (HR8.out.grew hC) (by have := HSL.out; simp; omega) (by simp; omega)).mono ?_
      rintro e w' ⟨rfl, hg⟩
      exact ⟨_, rfl, trivial, hJ.keep 3 (by omega) hm _ hg, rfl⟩
    simp only [Act.put, List.setIfInBounds_toArray, List.set_cons_zero, List.set_cons_succ, Nat.zero_add, Nat.reduceAdd]
    apply Marks.Lex.exact [] _ (by kernel_rfl)
    · intro mm u W3 hm hcl hJ _
      unfold Marks.one
      go_simp
      exact ⟨trivial, hJ.keep 4 (by omega) hm _ (Grew.refl _), rfl⟩
    simp only [Act.put, List.setIfInBounds_toArray, List.set_cons_zero, List.set_cons_succ, Nat.zero_add, Nat.reduceAdd]
    apply Marks.Lex.exact [] _ (by kernel_rfl)
    · intro mm u W3 hm hcl hJ _
      unfold Marks.one
      go_simp
      exact ⟨trivial, hJ.keep 5 (by omega) hm _ (Grew.refl _), rfl⟩
    simp only [Act.put, List.setIfInBounds_toArray, List.set_cons_zero, List.set_cons_succ, Nat.zero_add, Nat.reduceAdd]
    apply Marks.Lex.exact [] (.int .u64 (n2 : Int)) (by kernel_rfl)
    · intro mm u W3 hm hcl hJ _
      have hC := (hJ.get 6 (by omega) hm).1
      unfold Marks.one
      go_simp
      refine Chain.come_enter ?_
      with_reducible refine (anumber_eq _ _ (sec.drop 120) n2 HN2.out W3 (HR9.out.grew hC) (by have := HSL.out; simp; omega) (by have := HSL.out; simp; omega)).mono ?_
      rintro e w' ⟨rfl, hg⟩
      exact ⟨_, rfl, trivial, hJ.keep 6 (by omega) hm _ hg, rfl⟩
    simp only [Act.put, List.setIfInBounds_toArray, List.set_cons_zero, List.set_cons_succ, Nat.zero_add, Nat.reduceAdd]
    apply Marks.Lex.exact [] (.int .u64 (n3 : Int)) (by kernel_rfl)
    · intro mm u W3 hm hcl hJ _
      unfold Marks.one
      go_simp
      refine ⟨trivial, hJ.keep 7 (by omega) hm _ (Grew.refl _), ?_⟩
      show Value.int .u64 _ = Value.int .u64 _
      congr 1
      have := HN3.out
      split <;> (try split) <;> omega
    simp only [Act.put, List.setIfInBounds_toArray, List.set_cons_zero, List.set_cons_succ, Nat.zero_add, Nat.reduceAdd]
    apply Marks.Lex.exact [] undef (by kernel_rfl)
    · intro mm u W3 hm hcl hJ _
      have hC := hJ.a hm
      have hb9 : Boxed W3 (w.heap.size + 1 + 1 + 1) 22 (.int .u64 (most : Int)) := (hC.block _ HB9.out.lt).trans HB9.out
      have d1 := hb9.cell
      have d2 := hb9.frozen
      unfold Marks.one
      go_simp
      exact ⟨trivial, hJ.last _ (fun j hj => hcl j (by revert j; decide)) ⟨W3, hC, rfl⟩, rfl⟩
    simp only [Act.put, List.setIfInBounds_toArray, List.set_cons_zero, List.set_cons_succ, Nat.zero_add, Nat.reduceAdd]
    refine Marks.Lex.done fun mm u W3 hm hJ _ => ?_
    obtain ⟨_, Y, hY, rfl⟩ := hJ.b (hm 8 (by omega))
    have hszl := HSZ.out
    have hYs : Wl.heap.size ≤ Y.heap.size := Nat.le_trans (Nat.le_trans HNS.out HG1.out.size) hY.size
    have hWY : Grew W Y := HG1.out.trans hY
    have h3b : ∀ b, b < Wl.heap.size → Y.heap[b]? = w1.heap[b]? := fun b hb => hY.block b (Nat.lt_of_lt_of_le hb (Nat.le_trans HNS.out HG1.out.size))
    obtain ⟨E3, E6, E7⟩ := HE.out
    have E9 := HB9.out
    refine ⟨(KeepsFrom.of_grownBy (row := none) ⟨hWY.os, hWY.tape, hWY.output, hWY.size, fun k hk _ => hWY.block k hk⟩ (fun j e => by cases e)).trans ((KeepsOthers.setCell _ _ _).from _), ⟨?_, ?_⟩, ⟨?_, ?_, ?_, ?_⟩, ?_, ?_⟩
    · rw [heap_setCell_other _ _ _ _ (by show w.heap.size + 1 + 1 + 1 + 1 ≠ w.heap.size + 1 + 1 + 1; omega)]
      exact hWY.block _ (by have := HNS.out; omega)
    · rw [heap_setCell_other _ _ _ _ (by show w.heap.size + 1 + 1 + 1 + 1 + 1 ≠ w.heap.size + 1 + 1 + 1; omega)]
      exact hWY.block _ (by have := HNS.out; omega)
    · exact Boxed.other ((h3b _ (by omega)).trans E3) (by omega) _
    · exact Boxed.other ((h3b _ (by omega)).trans E6) (by omega) _
    · exact Boxed.other ((h3b _ (by omega)).trans E7) (by omega) _
    · rw [HNL.out]
      exact Boxed.set _ ((h3b _ (by omega)).trans E9)
    · exact (HGW.out.trans hWY).setCell (p := ⟨w.heap.size + 1 + 1 + 1, 0, none⟩) (by show w.heap.size ≤ w.heap.size + 1 + 1 + 1; omega) _
    · show Wl.heap.size ≤ (Y.setCell _ _).heap.size
      simp only [World.setCell, Array.size_modify]
      exact hYs
  case done =>
    rintro DD ys W hDD hys ⟨⟨B3, B6, B7, B9⟩, hgw, hns⟩ hK
    have hv : nl d.last first (ys.map (·.1)) 0 = s0 := by
      rw [hys, List.range_eq_range', nl_anew]
      exact HARD0.out
    rw [hv] at B9
    have c6 := B6.cell
    have f6 := B6.frozen
    have c7 := B7.cell
    have f7 := B7.frozen
    have c9 := B9.cell
    clear hszl hv hys
    go_wp2
    have hszl := HSZ.out
    have hkd := (KeepsOthers.setCell (W.setCell ⟨w.heap.size + 1, 0, none⟩ (.int .u64 (s0 : Int))) ⟨w.heap.size + 1 + 1, 0, none⟩ (.int .i64 0)).same DD _ ((KeepsOthers.setCell W ⟨w.heap.size + 1, 0, none⟩ (.int .u64 (s0 : Int))).same DD _ hK rfl) rfl
    have hne : ∀ b, b < Wl.heap.size → b ≠ DD := fun b hb => by omega
    refine ⟨by simp, .inl ⟨_, _, rfl, run_takeDeferred hkd, ?_⟩⟩
    refine ⟨_, res18 _ (w.heap.size + 1) (w.heap.size + 1 + 1) (s0 : Int) 0 _ rfl rfl ?_ ?_, rfl, ?_⟩
    · exact (World.cell?_of_block (World.putObj_heap_other (hne (w.heap.size + 1) (by omega)))).trans ((B6.set _).other (by omega) _).cell
    · exact (World.cell?_of_block (World.putObj_heap_other (hne (w.heap.size + 1 + 1) (by omega)))).trans ((B7.other (by omega) _).set _).cell
    · refine grew_turn ((hgw.setCell (p := ⟨w.heap.size + 1, 0, none⟩) (by show w.heap.size ≤ w.heap.size + 1; omega) _).setCell (p := ⟨w.heap.size + 1 + 1, 0, none⟩) (by show w.heap.size ≤ w.heap.size + 1 + 1; omega) _) hwl (grownBy_putObj' _ DD _) ?_
      intro r hr
      injection hr with hr
      omega
  case stop =>
    rintro DD cc pre W hDD hpre h hK
    exact h.elim

end Go.Proofs.Ytbnicphegbdfnaa.AE
namespace Go.Proofs.Ytbnicphegbdfnaa.AF
set_option maxRecDepth 100000
open Go Go.RowKit Go.Shelf Go.Proofs.Ytbnicphegbdfnaa Go.Proofs.Ytbnicphegbdfnaa.Facts Go.Proofs.Ytbnicphegbdfnaa.Bytes Go.Proofs.Ytbnicphegbdfnaa.Puts Go.Proofs.Ytbnicphegbdfnaa.DKeep Go.Proofs.Ytbnicphegbdfnaa.DSmall Go.Proofs.Ytbnicphegbdfnaa.SPure Go.Proofs.Ytbnicphegbdfnaa.JA Go.Proofs.Ytbnicphegbdfnaa.JD Go.Proofs.Ytbnicphegbdfnaa.AP Go.Proofs.Ytbnicphegbdfnaa.AQ Go.Proofs.Ytbnicphegbdfnaa.AA Go.Proofs.Ytbnicphegbdfnaa.AW Go.Proofs.Ytbnicphegbdfnaa.AV Go.Proofs.Ytbnicphegbdfnaa.AB Go.Proofs.Ytbnicphegbdfnaa.AC Go.Proofs.Ytbnicphegbdfnaa.AD Go.Proofs.Ytbnicphegbdfnaa.AE

theorem awrite_refused (w : World) (g : Nat) (D : Nat → Prop) (d : Pd) (first many : Int) (st : Nat) (A : Option Addr) (n c : Nat) (q : Int) (hd : DK w g D d) (hm : many ≤ 9223372036854775807) (hq : arefus d first many = q) (h0 : ¬ q = 0) :
    Calls Try.prog 13 #[.pointer (some ⟨g, 0, none⟩), .int .i64 first, .int .i64 many, .int .u64 (st : Int), .slice A n c] w fun e w' => e = .returned (.int .i64 q) ∧ Grew w w' := by
  have b10 : Boxed (((w.alloc (Obj.cells #[Value.pointer (some ⟨g, 0, none⟩)] 24)).alloc (Obj.cells #[Value.int .u64 (st : Int)] 22)).alloc (Obj.cells #[Value.int .i64 0] 25)) (w.heap.size + 1 + 1) 25 (.int .i64 0) := by
    have := Boxed.new ((w.alloc (Obj.cells #[Value.pointer (some ⟨g, 0, none⟩)] 24)).alloc (Obj.cells #[Value.int .u64 (st : Int)] 22)) 25 (.int .i64 0)
    simp only [World.size_alloc] at this
    exact this
  have g3 : Grew w (((w.alloc (Obj.cells #[Value.pointer (some ⟨g, 0, none⟩)] 24)).alloc (Obj.cells #[Value.int .u64 (st : Int)] 22)).alloc (Obj.cells #[Value.int .i64 0] 25)) := by unfold Grew; go_grown
  have HR := arefuses_any _ g D d first many (hd.grew g3) hm
  rw [hq] at HR
  have HR := Lib.hid HR
  have HB := Lib.hid b10
  have b0 : (q != 0) = true := by simpa using h0
  clear hd hq b10
  go_enter Try.func13, Try.ntmps13
  go_wp2_with fail
  refine HR.out.mono ?_
  rintro e w1 ⟨rfl, rfl⟩
  have c10 := HB.out.cell
  have f10 := HB.out.frozen
  clear HR
  go_wp2
  refine bodyPost_ret (res13 _ (w.heap.size + 1 + 1) q _ rfl ?_) rfl ⟨rfl, by unfold Grew; go_grown⟩
  have := Boxed.new ((w.alloc (Obj.cells #[Value.pointer (some ⟨g, 0, none⟩)] 24)).alloc (Obj.cells #[Value.int .u64 (st : Int)] 22)) 25 (.int .i64 q)
  simp only [World.size_alloc] at this
  exact this.cell
theorem awrite_stamp (w : World) (g : Nat) (D : Nat → Prop) (d : Pd) (first many : Int) (st : Nat) (A : Option Addr) (n c : Nat) (hd : DK w g D d) (hm : many ≤ 9223372036854775807) (hq : arefus d first many = 0) (hs : may st = false) :
    Calls Try.prog 13 #[.pointer (some ⟨g, 0, none⟩), .int .i64 first, .int .i64 many, .int .u64 (st : Int), .slice A n c] w fun e w' => e = .returned (.int .i64 1) ∧ Grew w w' := by
  have b10 : Boxed (((w.alloc (Obj.cells #[Value.pointer (some ⟨g, 0, none⟩)] 24)).alloc (Obj.cells #[Value.int .u64 (st : Int)] 22)).alloc (Obj.cells #[Value.int .i64 0] 25)) (w.heap.size + 1 + 1) 25 (.int .i64 0) := by
    have := Boxed.new ((w.alloc (Obj.cells #[Value.pointer (some ⟨g, 0, none⟩)] 24)).alloc (Obj.cells #[Value.int .u64 (st : Int)] 22)) 25 (.int .i64 0)
    simp only [World.size_alloc] at this
    exact this
  have g3 : Grew w (((w.alloc (Obj.cells #[Value.pointer (some ⟨g, 0, none⟩)] 24)).alloc (Obj.cells #[Value.int .u64 (st : Int)] 22)).alloc (Obj.cells #[Value.int .i64 0] 25)) := by unfold Grew; go_grown
  have HR := arefuses_any _ g D d first many (hd.grew g3) hm
  rw [hq] at HR
  have HR := Lib.hid HR
  have HB := Lib.hid b10
  have HSL := SSeal.seal_any (fun _ => True) (.slice none 0 0) [] st (((w.alloc (Obj.cells #[Value.pointer (some ⟨g, 0, none⟩)] 24)).alloc (Obj.cells #[Value.int .u64 (st : Int)] 22)).alloc (Obj.cells #[Value.int .i64 0] 25)) (Rd.nil _ _)
  have e : sealing st [] = ([], 1) := by unfold sealing; rw [hs, if_pos rfl]
  rw [e] at HSL
  have HSL := Lib.hid HSL
  clear hd hq b10 e
  go_enter Try.func13, Try.ntmps13
  go_wp2_with fail
  refine HR.out.mono ?_
  rintro e w1 ⟨rfl, rfl⟩
  clear HR
  go_wp2_with fail
  refine HSL.out.mono ?_
  rintro e w2 ⟨v2, rfl, hr2, hg2⟩
  obtain ⟨A2, c2, rfl, _⟩ := id hr2
  have k10 : Boxed w2 (w.heap.size + 1 + 1) 25 (.int .i64 0) := (hg2.block _ HB.out.lt).trans HB.out
  have c10 := k10.cell
  have f10 := k10.frozen
  have HK := Lib.hid k10
  have HG := Lib.hid (g3.trans hg2)
  clear hr2 hg2 HSL k10
  go_wp2
  refine bodyPost_ret (res13 _ (w.heap.size + 1 + 1) 1 _ rfl (HK.out.set _).cell) rfl ⟨rfl, ?_⟩
  exact HG.out.setCell (p := ⟨w.heap.size + 1 + 1, 0, none⟩) (by show w.heap.size ≤ w.heap.size + 1 + 1; omega) _
theorem awrite_long (w : World) (g : Nat) (D : Nat → Prop) (d : Pd) (first many : Int) (st : Nat) (A : Option Addr) (n c : Nat) (hd : DK w g D d) (hm : many ≤ 9223372036854775807) (hq : arefus d first many = 0) (hs : may st = true) (hl : JA.room many < (n : Int)) :
    Calls Try.prog 13 #[.pointer (some ⟨g, 0, none⟩), .int .i64 first, .int .i64 many, .int .u64 (st : Int), .slice A n c] w fun e w' => e = .returned (.int .i64 13) ∧ Grew w w' := by
  have b10 : Boxed (((w.alloc (Obj.cells #[Value.pointer (some ⟨g, 0, none⟩)] 24)).alloc (Obj.cells #[Value.int .u64 (st : Int)] 22)).alloc (Obj.cells #[Value.int .i64 0] 25)) (w.heap.size + 1 + 1) 25 (.int .i64 0) := by
    have := Boxed.new ((w.alloc (Obj.cells #[Value.pointer (some ⟨g, 0, none⟩)] 24)).alloc (Obj.cells #[Value.int .u64 (st : Int)] 22)) 25 (.int .i64 0)
    simp only [World.size_alloc] at this
    exact this
  have g3 : Grew w (((w.alloc (Obj.cells #[Value.pointer (some ⟨g, 0, none⟩)] 24)).alloc (Obj.cells #[Value.int .u64 (st : Int)] 22)).alloc (Obj.cells #[Value.int .i64 0] 25)) := by unfold Grew; go_grown
  have HR := arefuses_any _ g D d first many (hd.grew g3) hm
  rw [hq] at HR
  have HR := Lib.hid HR
  have HB := Lib.hid b10
  have HSL := SSeal.seal_any (fun _ => True) (.slice none 0 0) [] st (((w.alloc (Obj.cells #[Value.pointer (some ⟨g, 0, none⟩)] 24)).alloc (Obj.cells #[Value.int .u64 (st : Int)] 22)).alloc (Obj.cells #[Value.int .i64 0] 25)) (Rd.nil _ _)
  have e : sealing st [] = (sealed st [], 0) := by unfold sealing; rw [hs, if_neg (by decide), if_neg (by simp)]
  rw [e] at HSL
  have HSL := Lib.hid HSL
  obtain ⟨RM, hRM⟩ : ∃ RM, JA.room many = RM := ⟨_, rfl⟩
  rw [hRM] at hl
  have HRM := Lib.hid hRM
  clear hd hq b10 e hRM
  go_enter Try.func13, Try.ntmps13
  go_wp2_with fail
  refine HR.out.mono ?_
  rintro e w1 ⟨rfl, rfl⟩
  clear HR
  go_wp2_with fail
  refine HSL.out.mono ?_
  rintro e w2 ⟨v2, rfl, hr2, hg2⟩
  obtain ⟨A2, c2, rfl, _⟩ := id hr2
  have k10 : Boxed w2 (w.heap.size + 1 + 1) 25 (.int .i64 0) := (hg2.block _ HB.out.lt).trans HB.out
  have c10 := k10.cell
  have f10 := k10.frozen
  have HK := Lib.hid k10
  have HG := Lib.hid (g3.trans hg2)
  clear hr2 hg2 HSL k10
  go_wp2_with fail
  refine (JA.room_any many _).mono ?_
  rintro e w' ⟨rfl, rfl⟩
  rw [HRM.out]
  go_wp2
  refine bodyPost_ret (res13 _ (w.heap.size + 1 + 1) 13 _ rfl (HK.out.set _).cell) rfl ⟨rfl, ?_⟩
  exact HG.out.setCell (p := ⟨w.heap.size + 1 + 1, 0, none⟩) (by show w.heap.size ≤ w.heap.size + 1 + 1; omega) _
set_option maxHeartbeats 1000000 in
theorem aread_nil (w : World) (first many : Int) : Calls Try.prog 17 #[.pointer none, .int .i64 first, .int .i64 many] w fun e w' => e = .returned (.tuple #[.int .u64 0, .slice none 0 0, .int .i64 11]) ∧ Grew w w' := by
  go_enter Try.func17, Try.ntmps17
  go_wp2_with fail
  refine (arefuses_nil _ first many).mono ?_
  rintro e w' ⟨rfl, rfl⟩
  go_wp2
  go_returns
  exact ⟨rfl, by unfold Grew; go_grown⟩
end Go.Proofs.Ytbnicphegbdfnaa.AF
