/-
  What is asked of a scan, walked: the fault, what is left, a rule, the bytes, numbers and texts that are taken.
  Conditions: the bytes are at most 2 to the 47.
-/
import Derived.Test.YthgigkklefaeeaaPuts
import Derived.LaidEqlPtr
namespace Go.Proofs.Ythgigkklefaeeaa.Scan
set_option maxRecDepth 100000
set_option maxRecDepth 100000
set_option maxRecDepth 100000
set_option maxRecDepth 100000
open Go Go.RowKit Go.Proofs.Ythgigkklefaeeaa Go.Proofs.Ythgigkklefaeeaa.Facts Go.Proofs.Ythgigkklefaeeaa.Bytes Go.Proofs.Ythgigkklefaeeaa.Puts

structure Sc where
  l : List UInt8
  e : Int

namespace Sc
def left (s : Sc) : Nat := if s.e = 0 then s.l.length else 0
def rule (s : Sc) (ok : Bool) (e : Int) : Sc := if ok = false ∧ s.e = 0 then ⟨s.l, e⟩ else s
def take (s : Sc) (n : Nat) : List UInt8 × Sc := if s.e = 0 then (if n ≤ s.l.length then (s.l.take n, ⟨s.l.drop n, 0⟩) else ([], ⟨s.l, 12⟩)) else ([], s)
def val (l : List UInt8) : Nat := l.foldl (fun n x => n * 256 + x.toNat) 0
def num (s : Sc) (K : Nat) : Nat × Sc := (val (s.take K).1, (s.take K).2)
def text (s : Sc) (most : Int) : List UInt8 × Sc := ((s.num 1).2.rule (decide (((s.num 1).1 : Int) ≤ most)) 2).take (s.num 1).1
def fin (s : Sc) : Int := if 0 < s.left then 13 else s.e
end Sc

/-- Block g is a scan that From made, at s; it and its bytes lie from lo to hi. -/
def WS (w : World) (lo hi g : Nat) (s : Sc) : Prop :=
  lo ≤ g ∧ g < hi ∧ hi ≤ w.heap.size ∧ ∃ v, w.heap[g]? = some (.cells #[v, .int .i64 s.e, .bool true] 72 (0, 0)) ∧ Rd (fun b => lo ≤ b ∧ b < hi ∧ b ≠ g) w v s.l

/-- No scan, or one that From did not make. -/
def Dead (w : World) (lo hi : Nat) (p : Value) : Prop := p = .pointer none ∨ ∃ g v x, p = .pointer (some ⟨g, 0, none⟩) ∧ lo ≤ g ∧ g < hi ∧ hi ≤ w.heap.size ∧ w.heap[g]? = some (.cells #[v, x, .bool false] 72 (0, 0))

def SC (w : World) (lo hi : Nat) (p : Value) (s : Sc) : Prop := (∃ g, p = .pointer (some ⟨g, 0, none⟩) ∧ WS w lo hi g s) ∨ (Dead w lo hi p ∧ s = ⟨[], 11⟩)

def blk : Value → Option Nat
  | .pointer (some a) => some a.block
  | _ => none

/-- Of what was there the scan's own block alone may have turned. -/
def Chg (p : Value) (w w' : World) : Prop := w.grownBy w' (blk p)
theorem Chg.refl (p : Value) (w : World) : Chg p w w := ⟨rfl, rfl, rfl, Nat.le_refl _, fun _ _ _ => rfl⟩
theorem Chg.trans {p : Value} {a b c : World} (h : Chg p a b) (k : Chg p b c) : Chg p a c := World.grownBy.trans h k
theorem Chg.of_grew {p : Value} {a b : World} (h : Grew a b) : Chg p a b := ⟨h.os, h.tape, h.output, h.size, fun k hk _ => h.block k hk⟩
theorem Chg.set (g i : Nat) (u : Value) (w : World) : Chg (.pointer (some ⟨g, 0, none⟩)) w (w.setCell ⟨g, i, none⟩ u) :=
  ⟨rfl, rfl, rfl, by simp [World.setCell], fun k _ hne => heap_setCell_other w ⟨g, i, none⟩ k u (fun e => hne (by simp [blk, e]))⟩

theorem WS.keep {w w' : World} {lo hi g : Nat} {s : Sc} (h : WS w lo hi g s) (hs : w.heap.size ≤ w'.heap.size) (hk : ∀ b, lo ≤ b → b < hi → w'.heap[b]? = w.heap[b]?) : WS w' lo hi g s := by
  obtain ⟨h1, h2, h3, v, hg, hr⟩ := h
  exact ⟨h1, h2, Nat.le_trans h3 hs, v, (hk g h1 h2).trans hg, hr.keep fun b _ hb => hk b hb.1 hb.2.1⟩
theorem SC.keep {w w' : World} {lo hi : Nat} {p : Value} {s : Sc} (h : SC w lo hi p s) (hs : w.heap.size ≤ w'.heap.size) (hk : ∀ b, lo ≤ b → b < hi → w'.heap[b]? = w.heap[b]?) : SC w' lo hi p s := by
  rcases h with ⟨g, rfl, h⟩ | ⟨rfl | ⟨g, v, x, rfl, h1, h2, h3, hg⟩, rfl⟩
  · exact .inl ⟨g, rfl, h.keep hs hk⟩
  · exact .inr ⟨.inl rfl, rfl⟩
  · exact .inr ⟨.inr ⟨g, v, x, rfl, h1, h2, Nat.le_trans h3 hs, (hk g h1 h2).trans hg⟩, rfl⟩
theorem SC.size {w : World} {lo hi g : Nat} {s : Sc} (h : SC w lo hi (.pointer (some ⟨g, 0, none⟩)) s) : lo ≤ g ∧ g < hi ∧ hi ≤ w.heap.size := by
  rcases h with ⟨g', e, h⟩ | ⟨e | ⟨g', v, x, e, h1, h2, h3, hg⟩, rfl⟩
  · cases e; exact ⟨h.1, h.2.1, h.2.2.1⟩
  · cases e
  · cases e; exact ⟨h1, h2, h3⟩
theorem SC.grew {w w' : World} {lo hi : Nat} {p : Value} {s : Sc} (h : SC w lo hi p s) (hg : Grew w w') : SC w' lo hi p s := by
  rcases h with ⟨g, rfl, h⟩ | ⟨rfl | ⟨g, v, x, rfl, h1, h2, h3, hgg⟩, rfl⟩
  · exact .inl ⟨g, rfl, h.keep hg.size fun b _ hb => hg.block b (Nat.lt_of_lt_of_le hb h.2.2.1)⟩
  · exact .inr ⟨.inl rfl, rfl⟩
  · exact .inr ⟨.inr ⟨g, v, x, rfl, h1, h2, Nat.le_trans h3 hg.size, (hg.block g (Nat.lt_of_lt_of_le h2 h3)).trans hgg⟩, rfl⟩
theorem SC.made {w : World} {lo hi : Nat} {p : Value} {s : Sc} (h : SC w lo hi p s) (he : s.e = 0) : ∃ g, p = .pointer (some ⟨g, 0, none⟩) ∧ WS w lo hi g s := by
  rcases h with h | ⟨_, rfl⟩
  · exact h
  · simp at he

theorem fault_any (w : World) (lo hi : Nat) (p : Value) (s : Sc) (h : SC w lo hi p s) : Calls Try.prog 43 #[p] w fun e w' => e = .returned (.int .i64 s.e) ∧ w = w' := by
  rcases h with ⟨g, rfl, _, _, _, v, hg, _⟩ | ⟨rfl | ⟨g, v, x, rfl, _, _, _, hg⟩, rfl⟩
  · have c1 := cell_of_row _ _ 1 _ _ _ hg
    have c2 := cell_of_row _ _ 2 _ _ _ hg
    go_enter Try.func43, Try.ntmps43
    go_wp2
    go_ret
    exact ⟨rfl, rfl⟩
  · go_enter Try.func43, Try.ntmps43
    go_wp2
    go_ret
    exact ⟨rfl, rfl⟩
  · have c2 := cell_of_row _ _ 2 _ _ _ hg
    go_enter Try.func43, Try.ntmps43
    go_wp2
    go_ret
    exact ⟨rfl, rfl⟩

theorem fault_eq (w : World) (lo hi : Nat) (p : Value) (s : Sc) (x : Int) (h : Hid (SC w lo hi p s)) (hx : Hid (s.e = x)) : Calls Try.prog 43 #[p] w fun e w' => e = .returned (.int .i64 x) ∧ w = w' := by
  have := fault_any w lo hi p s h.out
  rwa [hx.out] at this

theorem left_any (w : World) (lo hi : Nat) (p : Value) (s : Sc) (h : SC w lo hi p s) : Calls Try.prog 25 #[p] w fun e w' => e = .returned (.int .i64 (s.left : Int)) ∧ w = w' := by
  have H := Lib.hid h
  by_cases he : s.e = 0
  · obtain ⟨g, rfl, _, _, _, v, hg, A, c, rfl, _⟩ := h.made he
    have c0 := cell_of_row _ _ 0 _ _ _ hg
    have HE := Lib.hid he
    clear h hg he
    go_enter Try.func25, Try.ntmps25
    go_wp2_with (go_at_call 43; refine (fault_eq _ lo hi _ s 0 H HE).mono ?_; rintro e w' ⟨rfl, rfl⟩)
    go_ret
    exact ⟨ret_int (by simp [Sc.left, HE.out]), rfl⟩
  · have hb : (s.e == 0) = false := by simpa using he
    have hb' : (s.e != 0) = true := by simpa using he
    have HE := Lib.hid he
    clear h he
    go_enter Try.func25, Try.ntmps25
    go_wp2_with (go_at_call 43; refine (fault_any _ lo hi _ s H.out).mono ?_; rintro e w' ⟨rfl, rfl⟩)
    go_ret
    exact ⟨ret_int (by simp [Sc.left, HE.out]), rfl⟩

theorem left_eq (w : World) (lo hi : Nat) (p : Value) (s : Sc) (x : Nat) (h : Hid (SC w lo hi p s)) (hx : Hid (s.left = x)) : Calls Try.prog 25 #[p] w fun e w' => e = .returned (.int .i64 (x : Int)) ∧ w = w' := by
  have := left_any w lo hi p s h.out
  rwa [hx.out] at this

theorem rule_any (w : World) (lo hi : Nat) (p : Value) (s : Sc) (ok : Bool) (x : Int) (h : SC w lo hi p s) : Calls Try.prog 53 #[p, .bool ok, .int .i64 x] w fun e w' => e = .returned (.tuple #[]) ∧ SC w' lo hi p (s.rule ok x) ∧ Chg p w w' := by
  have H := Lib.hid h
  cases ok with
  | true =>
    have HR : Hid (s.rule true x = s) := by show _ = _; simp [Sc.rule]
    clear h
    go_enter Try.func53, Try.ntmps53
    go_wp2_with (go_at_call 43; refine (fault_any _ lo hi _ s H.out).mono ?_; rintro e w' ⟨rfl, rfl⟩)
    go_end0
    exact ⟨rfl, by rw [HR.out]; exact H.out, Chg.refl _ _⟩
  | false =>
    by_cases he : s.e = 0
    · have HR : Hid (s.rule false x = ⟨s.l, x⟩) := by show _ = _; simp [Sc.rule, he]
      obtain ⟨g, rfl, q1, q2, q3, v, hg, hr⟩ := h.made he
      have c1 := cell_of_row _ _ 1 _ _ _ hg
      have f1 := frozen_of_row w g 1 _ _ hg
      have HG := Lib.hid hg
      have HRd := Lib.hid hr
      have HE := Lib.hid he
      clear h he hg hr
      go_enter Try.func53, Try.ntmps53
      go_wp2_with (go_at_call 43; refine (fault_eq _ lo hi _ s 0 H HE).mono ?_; rintro e w' ⟨rfl, rfl⟩)
      go_end0
      refine ⟨rfl, ?_, Chg.set _ _ _ _⟩
      rw [HR.out]
      refine .inl ⟨g, rfl, q1, q2, by simpa [World.setCell] using q3, v, ?_, HRd.out.keep fun b _ hb => heap_setCell_other w ⟨g, 1, none⟩ b _ hb.2.2⟩
      rw [heap_setCell_same _ _ _ _ _ _ HG.out]
      rfl
    · have HR : Hid (s.rule false x = s) := by show _ = _; simp [Sc.rule, he]
      have hb : (s.e == 0) = false := by simpa using he
      clear h he
      go_enter Try.func53, Try.ntmps53
      go_wp2_with (go_at_call 43; refine (fault_any _ lo hi _ s H.out).mono ?_; rintro e w' ⟨rfl, rfl⟩)
      go_end0
      exact ⟨rfl, by rw [HR.out]; exact H.out, Chg.refl _ _⟩
end Go.Proofs.Ythgigkklefaeeaa.Scan
