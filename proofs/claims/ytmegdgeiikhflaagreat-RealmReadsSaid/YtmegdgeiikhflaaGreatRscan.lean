/-
  What is asked of the document's own scan, walked.
  Conditions: the bytes are at most 2 to the 47.
-/
import Derived.Test.YtmegdgeiikhflaaGreatNums
import Derived.Deep.QuietTactic
import Derived.BigQuiet
namespace Go.Proofs.YtmegdgeiikhflaaGreat.Rscan
set_option maxRecDepth 100000
set_option maxRecDepth 100000
open Go Go.RowKit Go.Proofs.YtmegdgeiikhflaaGreat Go.Proofs.YtmegdgeiikhflaaGreat.Facts Go.Proofs.YtmegdgeiikhflaaGreat.Bytes Go.Proofs.YtmegdgeiikhflaaGreat.Puts Go.Proofs.YtmegdgeiikhflaaGreat.Scan Go.Proofs.YtmegdgeiikhflaaGreat.Take Go.Proofs.YtmegdgeiikhflaaGreat.Nums

/-- Block g is the document's scan, at s; its bytes lie in S. -/
def RS (S : Nat → Prop) (w : World) (g : Nat) (s : Sc) : Prop :=
  ¬ S g ∧ g < w.heap.size ∧ ∃ (v : Value) (full : List UInt8) (at_ : Nat), w.heap[g]? = some (.cells #[v, .int .i64 (at_ : Int), .int .i64 s.e] 105 (0, 0)) ∧ Rd S w v full ∧ at_ ≤ full.length ∧ s.l = full.drop at_

def ptr (g : Nat) : Value := .pointer (some ⟨g, 0, none⟩)

theorem grew_drewN (w : World) (n : Nat) : Grew w (w.drewN n) := ⟨rfl, rfl, rfl, Nat.le_refl _, fun _ _ => rfl⟩

theorem RS.keep {S : Nat → Prop} {w w' : World} {g : Nat} {s : Sc} (h : RS S w g s) (hs : w.heap.size ≤ w'.heap.size) (hg : w'.heap[g]? = w.heap[g]?) (hk : ∀ b, b < w.heap.size → S b → w'.heap[b]? = w.heap[b]?) : RS S w' g s := by
  obtain ⟨h0, h1, v, full, a, h2, h3, h4, h5⟩ := h
  exact ⟨h0, Nat.lt_of_lt_of_le h1 hs, v, full, a, hg.trans h2, h3.keep hk, h4, h5⟩
theorem RS.grew {S : Nat → Prop} {w w' : World} {g : Nat} {s : Sc} (h : RS S w g s) (hg : Grew w w') : RS S w' g s :=
  h.keep hg.size (hg.block g h.2.1) fun b hb _ => hg.block b hb

structure Alike (w w' : World) : Prop where
  heap : w'.heap = w.heap
  os : w'.os = w.os
  tape : w'.tape = w.tape
  output : w'.output = w.output

theorem Alike.grew {w w' : World} (h : Alike w w') : Grew w w' := ⟨h.os, h.tape, h.output, by rw [h.heap]; exact Nat.le_refl _, fun k _ => by rw [h.heap]⟩

/-- The cut from a on, m of them. -/
theorem mid_rd {S : Nat → Prop} {w : World} {A : Option Addr} {c a m : Nat} {l : List UInt8} (h : Rd S w (.slice A l.length c) l) (hm : a + m ≤ l.length) :
    Rd S w (.slice (if c = a then A else A.map (·.add a)) m (c - a)) ((l.drop a).take m) := by
  have h1 := (cut_rd h (Nat.le_trans (Nat.le_add_right a m) hm)).2
  obtain ⟨A', c', e, q1, q2, q3, q4⟩ := h1
  injection e with e1 _ e3
  have hml : m ≤ (l.drop a).length := by rw [List.length_drop]; omega
  have hle : ((l.drop a).take m).length = m := by rw [List.length_take, Nat.min_eq_left hml]
  refine ⟨A', c', by rw [hle, e1, e3], by omega, q2, q3, fun ad hA => ⟨fun hl => (q4 ad hA).1 (fun e => hl (by rw [e, List.take_nil])), fun j u hu => (q4 ad hA).2 j u ?_⟩⟩
  have hb : bv ((l.drop a).take m) = (bv (l.drop a)).take m := by simp [bv, List.map_take]
  rw [hb, List.getElem?_take] at hu
  split at hu
  · exact hu
  · cases hu

theorem rtaken {S : Nat → Prop} {w W : World} {g : Nat} {s : Sc} {A : Option Addr} {c a m : Nat} {full : List UInt8} {v : Value} {x : Int} (h0 : ¬ S g) (h1 : g < w.heap.size)
    (hg : w.heap[g]? = some (.cells #[.slice A full.length c, .int .i64 (a : Int), .int .i64 s.e] 105 (0, 0))) (hr : Rd S w (.slice A full.length c) full) (ha : a ≤ full.length) (hl : s.l = full.drop a) (he : s.e = 0)
    (hm : m ≤ full.length - a) (hv : v = .slice (if c = a then A else A.map (·.add a)) m (c - a)) (hx : x = ((a + m : Nat) : Int)) (hW : Alike (w.setCell ⟨g, 1, none⟩ (.int .i64 x)) W) :
    Rd S W v (s.take m).1 ∧ RS S W g (s.take m).2 ∧ Chg (ptr g) w W := by
  have hlen : m ≤ s.l.length := by rw [hl, List.length_drop]; exact hm
  have hT : s.take m = (s.l.take m, ⟨s.l.drop m, 0⟩) := by simp [Sc.take, he, hlen]
  rw [hT]
  subst hv hx
  have hother : ∀ b, b ≠ g → W.heap[b]? = w.heap[b]? := fun b hb => by rw [hW.heap]; exact heap_setCell_other w ⟨g, 1, none⟩ b _ hb
  have hsz : W.heap.size = w.heap.size := by rw [hW.heap]; simp [World.setCell]
  have hSg : ∀ b, S b → b ≠ g := fun b hb e => h0 (e ▸ hb)
  refine ⟨?_, ⟨h0, by omega, _, full, a + m, ?_, hr.keep fun b _ hb => hother b (hSg b hb), by omega, ?_⟩, ⟨?_, ?_, ?_, by omega, fun k _ hk => hother k (fun e => hk (by rw [e]; rfl))⟩⟩
  · rw [hl]
    exact (mid_rd hr (by omega)).keep fun b _ hb => hother b (hSg b hb)
  · rw [hW.heap, heap_setCell_same _ _ _ _ _ _ hg, he]
    rfl
  · show s.l.drop m = _
    rw [hl, List.drop_drop]
  · exact hW.os
  · exact hW.tape
  · exact hW.output

theorem rtake_core (S : Nat → Prop) (w : World) (g : Nat) (s : Sc) (n : Int) (m : Nat) (hn : (n < 0 ∧ m = 0) ∨ (0 ≤ n ∧ n = (m : Int))) (hm : m ≤ 9223372036854775807) (h : RS S w g s) :
    Calls Tryz.prog 141 #[ptr g, .int .i64 n] w fun e w' => ∃ v, e = .returned v ∧ Rd S w' v (s.take m).1 ∧ RS S w' g (s.take m).2 ∧ Chg (ptr g) w w' := by
  unfold ptr
  have H := Lib.hid h
  obtain ⟨h0, h1, v, full, a, hg, hr, ha, hl⟩ := h
  have c0 := cell_of_row _ _ 0 _ _ _ hg
  have c1 := cell_of_row _ _ 1 _ _ _ hg
  have c2 := cell_of_row _ _ 2 _ _ _ hg
  have f1 := frozen_of_row w g 1 _ _ hg
  have f2 := frozen_of_row w g 2 _ _ hg
  have HG := Lib.hid hg
  have HR := Lib.hid hr
  have HL := Lib.hid hl
  by_cases he : s.e = 0
  · have hel : s.l.length = full.length - a := by rw [hl, List.length_drop]
    obtain ⟨A, c, rfl, r1, r2, r3, r4⟩ := hr
    unfold maxLen at r2
    have HE := Lib.hid he
    by_cases hm2 : m ≤ s.l.length
    · have hT : Hid (s.take m = (s.l.take m, ⟨s.l.drop m, 0⟩)) := by show _ = _; simp [Sc.take, he, hm2]
      have hb : (s.e == 0) = true := by simpa using he
      have hb' : (s.e != 0) = false := by simpa using he
      rw [hel] at hm2
      have Hh0 := Lib.hid h0
      have Hh1 := Lib.hid h1
      clear h0 h1 hg hl he hel r3 r4
      by_cases hca : c = a
      · subst hca
        have hm0 : m = 0 := by omega
        subst hm0
        have hfc : full.length = c := by omega
        have HF := Lib.hid hfc
        clear hfc
        rcases hn with ⟨hn, _⟩ | ⟨hn, rfl⟩
        · go_enter Tryz.func141, Tryz.ntmps141
          go_wp2
          go_quiet (fail)
          go_wp2
          go_quiet (fail)
          go_wp2
          go_ret
          refine ⟨_, rfl, rtaken Hh0.out Hh1.out HG.out HR.out ha HL.out HE.out (m := 0) (x := (c : Int)) (Nat.zero_le _) ?_ ?_ ?_⟩
          · simp
          · simp
          · exact ⟨rfl, rfl, rfl, rfl⟩
        · go_enter Tryz.func141, Tryz.ntmps141
          go_wp2
          go_quiet (fail)
          go_wp2
          go_quiet (fail)
          go_wp2
          go_ret
          refine ⟨_, rfl, rtaken Hh0.out Hh1.out HG.out HR.out ha HL.out HE.out (m := 0) (x := (c : Int)) (Nat.zero_le _) ?_ ?_ ?_⟩
          · simp
          · simp
          · exact ⟨rfl, rfl, rfl, rfl⟩
      · rcases hn with ⟨hn, rfl⟩ | ⟨hn, rfl⟩
        · go_enter Tryz.func141, Tryz.ntmps141
          go_wp2
          go_quiet (fail)
          go_wp2
          go_quiet (fail)
          go_wp2
          go_ret
          refine ⟨_, rfl, rtaken Hh0.out Hh1.out HG.out HR.out ha HL.out HE.out (m := 0) (x := (a : Int)) (Nat.zero_le _) ?_ ?_ ?_⟩
          · simp [hca]
          · simp
          · exact ⟨rfl, rfl, rfl, rfl⟩
        · have w1 : IntKind.i64.wrap ((a : Int) + (m : Int)) = (a : Int) + m := IntWalk.i64_in _ (by omega)
          have w2 : (0 : Int) ≤ (a : Int) + m := by omega
          have w3 : ((a : Int) + (m : Int)).toNat = a + m := by omega
          go_enter Tryz.func141, Tryz.ntmps141
          go_wp2
          go_quiet (fail)
          go_wp2
          go_quiet (fail)
          go_wp2
          go_ret
          refine ⟨_, rfl, rtaken Hh0.out Hh1.out HG.out HR.out ha HL.out HE.out (x := (a : Int) + m) hm2 ?_ ?_ ?_⟩
          · simp [hca]
          · simp
          · exact ⟨rfl, rfl, rfl, rfl⟩
    · have hT : Hid (s.take m = ([], ⟨s.l, 12⟩)) := by show _ = _; simp [Sc.take, he, hm2]
      have hb : (s.e == 0) = true := by simpa using he
      have hb' : (s.e != 0) = false := by simpa using he
      rw [hel] at hm2
      have Hh0 := Lib.hid h0
      have Hh1 := Lib.hid h1
      clear h0 h1 hg hl he hel r3 r4
      rcases hn with ⟨hn, rfl⟩ | ⟨hn, rfl⟩
      · omega
      · have hd : (full.length : Int) - a < m := by omega
        go_enter Tryz.func141, Tryz.ntmps141
        go_wp2
        go_quiet (fail)
        go_wp2
        go_ret
        rw [hT.out]
        refine ⟨_, rfl, Rd.nil _ _, ⟨Hh0.out, ?_, _, full, a, ?_, HR.out.keep fun b _ hb => ?_, ha, HL.out⟩, ?_⟩
        · simpa [World.setCell, World.drewN] using Hh1.out
        · show (w.setCell ⟨g, 2, none⟩ _).heap[g]? = _
          rw [heap_setCell_same _ _ _ _ _ _ HG.out]
          rfl
        · exact heap_setCell_other w ⟨g, 2, none⟩ b _ (fun e => Hh0.out (by have e' : b = g := e; rw [← e']; exact hb))
        · exact (Chg.of_grew (grew_drewN w _)).trans (Chg.set _ _ _ _)
  · have hT : Hid (s.take m = ([], s)) := by show _ = _; simp [Sc.take, he]
    have hb : (s.e == 0) = false := by simpa using he
    have hb' : (s.e != 0) = true := by simpa using he
    clear h0 h1 hg hl he hr
    rcases hn with ⟨hn, rfl⟩ | ⟨hn, rfl⟩
    all_goals
      go_enter Tryz.func141, Tryz.ntmps141
      go_wp2
      go_ret
      rw [hT.out]
      exact ⟨_, rfl, Rd.nil _ _, H.out, Chg.refl _ _⟩
end Go.Proofs.YtmegdgeiikhflaaGreat.Rscan
