/-
  Bytes, numbers and texts that are taken from a scan, walked.
  Conditions: the bytes are at most 2 to the 47.
-/
import Derived.Test.YthgigkklefaeeaaScan
namespace Go.Proofs.Ythgigkklefaeeaa.Take
set_option maxRecDepth 100000
set_option maxRecDepth 100000
set_option maxRecDepth 100000
set_option maxRecDepth 100000
open Go Go.RowKit Go.Proofs.Ythgigkklefaeeaa Go.Proofs.Ythgigkklefaeeaa.Facts Go.Proofs.Ythgigkklefaeeaa.Bytes Go.Proofs.Ythgigkklefaeeaa.Puts Go.Proofs.Ythgigkklefaeeaa.Scan

def Bl (lo hi : Nat) (p : Value) : Nat → Prop := fun b => lo ≤ b ∧ b < hi ∧ some b ≠ blk p

theorem rule_eq (w : World) (lo hi : Nat) (p : Value) (s s' : Sc) (ok : Bool) (x : Int) (h : Hid (SC w lo hi p s)) (hs : Hid (s.rule ok x = s')) : Calls Try.prog 53 #[p, .bool ok, .int .i64 x] w fun e w' => e = .returned (.tuple #[]) ∧ SC w' lo hi p s' ∧ Chg p w w' := by
  have := rule_any w lo hi p s ok x h.out
  rwa [hs.out] at this

/-- The cut behind the first n. -/
theorem cut_rd {S : Nat → Prop} {w : World} {A : Option Addr} {c n : Nat} {l : List UInt8} (h : Rd S w (.slice A l.length c) l) (hn : n ≤ l.length) :
    Rd S w (.slice A n n) (l.take n) ∧ Rd S w (.slice (if c = n then A else A.map (·.add n)) (l.length - n) (c - n)) (l.drop n) := by
  obtain ⟨A', c', e, h1, h2, h3, h4⟩ := h
  injection e with e1 _ e3
  subst e1 e3
  constructor
  · refine ⟨A, n, by rw [List.length_take, Nat.min_eq_left hn], by rw [List.length_take]; omega, by omega, fun hA => by have := h3 hA; omega, fun ad hA => ⟨fun hl => (h4 ad hA).1 (fun e => hl (by rw [e, List.take_nil])), fun j u hu => (h4 ad hA).2 j u ?_⟩⟩
    have hb : bv (l.take n) = (bv l).take n := by simp [bv, List.map_take]
    rw [hb, List.getElem?_take] at hu
    split at hu
    · exact hu
    · cases hu
  · refine ⟨_, c - n, by rw [List.length_drop], by rw [List.length_drop]; omega, by omega, fun hA => ?_, fun ad hA => ?_⟩
    · split at hA
      · omega
      · cases hAA : A with
        | none => have := h3 hAA; omega
        | some x => rw [hAA] at hA; cases hA
    · split at hA
      · rename_i hc
        have hl : l.drop n = [] := List.drop_of_length_le (by omega)
        rw [hl]
        exact ⟨fun h => absurd rfl h, fun j u hu => by simp [bv] at hu⟩
      · cases hAA : A with
        | none => rw [hAA] at hA; cases hA
        | some x =>
          rw [hAA] at hA
          simp only [Option.map_some, Option.some.injEq] at hA
          subst hA
          refine ⟨fun hl => by rw [block_add']; exact (h4 x hAA).1 (fun e => hl (by rw [e]; simp)), fun j u hu => ?_⟩
          rw [add_add']
          refine (h4 x hAA).2 _ u ?_
          have hb : bv (l.drop n) = (bv l).drop n := by simp [bv, List.map_drop]
          rw [hb, List.getElem?_drop] at hu
          exact hu

theorem taken {w1 : World} {lo hi g n c : Nat} {s : Sc} {A : Option Addr} {v' : Value} (hl : n ≤ s.l.length) (q1 : lo ≤ g) (q2 : g < hi) (q3 : hi ≤ w1.heap.size)
    (hg : w1.heap[g]? = some (.cells #[.slice A s.l.length c, .int .i64 s.e, .bool true] 72 (0, 0))) (hr : Rd (fun b => lo ≤ b ∧ b < hi ∧ b ≠ g) w1 (.slice A s.l.length c) s.l) (he : s.e = 0)
    (hv : v' = .slice (if c = n then A else A.map (·.add n)) (s.l.length - n) (c - n)) :
    Rd (Bl lo hi (.pointer (some ⟨g, 0, none⟩))) (w1.setCell ⟨g, 0, none⟩ v') (.slice A n n) (s.take n).1 ∧ SC (w1.setCell ⟨g, 0, none⟩ v') lo hi (.pointer (some ⟨g, 0, none⟩)) (s.take n).2 := by
  have hT : s.take n = (s.l.take n, ⟨s.l.drop n, 0⟩) := by simp [Sc.take, he, hl]
  subst hv
  rw [hT]
  obtain ⟨k1, k2⟩ := cut_rd hr hl
  have keep : ∀ b, b ≠ g → ∀ u, (w1.setCell ⟨g, 0, none⟩ u).heap[b]? = w1.heap[b]? := fun b hb u => heap_setCell_other w1 ⟨g, 0, none⟩ b u hb
  constructor
  · exact (k1.keep fun b _ hb => keep b hb.2.2 _).mono fun b hb => ⟨hb.1, hb.2.1, fun e => hb.2.2 (by simpa [blk] using e)⟩
  · refine .inl ⟨g, rfl, q1, q2, by simpa [World.setCell] using q3, _, ?_, k2.keep fun b _ hb => keep b hb.2.2 _⟩
    rw [heap_setCell_same _ _ _ _ _ _ hg, he]
    rfl

theorem take_any (w : World) (lo hi : Nat) (p : Value) (s : Sc) (n : Nat) (h : SC w lo hi p s) (hn : n ≤ 9223372036854775807) :
    Calls Try.prog 42 #[p, .int .i64 n] w fun e w' => ∃ v, e = .returned v ∧ Rd (Bl lo hi p) w' v (s.take n).1 ∧ SC w' lo hi p (s.take n).2 ∧ Chg p w w' := by
  have H := Lib.hid h
  by_cases he : s.e = 0
  · by_cases hl : n ≤ s.l.length
    · have hL : Hid (s.left = s.l.length) := by show _ = _; simp [Sc.left, he]
      have hR : Hid (s.rule true 12 = s) := by show _ = _; simp [Sc.rule]
      have HE := Lib.hid he
      have hd : decide ((n : Int) ≤ (s.l.length : Int)) = true := by simp [hl]
      clear h he
      go_enter Try.func42, Try.ntmps42
      go_wp2_with (go_at_call 25; refine (left_eq _ lo hi _ s _ H hL).mono ?_; rintro e w' ⟨rfl, rfl⟩)
      go_wp2_with (go_at_call 53; refine (rule_eq _ lo hi _ s s _ _ H hR).mono ?_; rintro e w1 ⟨rfl, hs1, hc1⟩)
      obtain ⟨g, rfl, q1, q2, q3, v, hg, hr⟩ := hs1.made HE.out
      have H1 := Lib.hid hs1
      obtain ⟨A, c, rfl, r1, r2, r3, r4⟩ := id hr
      have c0 := cell_of_row _ _ 0 _ _ _ hg
      have f0 := frozen_of_row w1 g 0 _ _ hg
      have HG := Lib.hid hg
      have HRd := Lib.hid hr
      have HC := Lib.hid hc1
      unfold maxLen at r2
      clear hs1 hg hr hc1 r4 r3
      go_wp2_with (go_at_call 43; refine (fault_eq _ lo hi _ s 0 H1 HE).mono ?_; rintro e w' ⟨rfl, rfl⟩)
      · go_ret
        have hc : c = n := by assumption
        exact ⟨_, rfl, (taken hl q1 q2 q3 HG.out HRd.out HE.out (by simp [hc])).1, (taken hl q1 q2 q3 HG.out HRd.out HE.out (by simp [hc])).2, HC.out.trans (Chg.set _ _ _ _)⟩
      · go_ret
        have hc : ¬ c = n := by assumption
        exact ⟨_, rfl, (taken hl q1 q2 q3 HG.out HRd.out HE.out (by simp [hc])).1, (taken hl q1 q2 q3 HG.out HRd.out HE.out (by simp [hc])).2, HC.out.trans (Chg.set _ _ _ _)⟩
    · have hL : Hid (s.left = s.l.length) := by show _ = _; simp [Sc.left, he]
      have hT : Hid (s.take n = ([], ⟨s.l, 12⟩)) := by show _ = _; simp [Sc.take, he, hl]
      have hR : Hid (s.rule false 12 = ⟨s.l, 12⟩) := by show _ = _; simp [Sc.rule, he]
      have hd : decide ((n : Int) ≤ (s.l.length : Int)) = false := by simp; omega
      clear h he
      go_enter Try.func42, Try.ntmps42
      go_wp2_with (go_at_call 25; refine (left_eq _ lo hi _ s _ H hL).mono ?_; rintro e w' ⟨rfl, rfl⟩)
      go_wp2_with (go_at_call 53; refine (rule_eq _ lo hi _ s ⟨s.l, 12⟩ _ _ H hR).mono ?_; rintro e w1 ⟨rfl, hs1, hc1⟩)
      have H1 := Lib.hid hs1
      have HC := Lib.hid hc1
      clear hs1 hc1
      go_wp2_with (go_at_call 43; refine (fault_eq _ lo hi _ ⟨s.l, 12⟩ 12 H1 rfl).mono ?_; rintro e w' ⟨rfl, rfl⟩)
      go_ret
      rw [hT.out]
      exact ⟨_, rfl, Rd.nil _ _, H1.out, HC.out⟩
  · have hT : Hid (s.take n = ([], s)) := by show _ = _; simp [Sc.take, he]
    have hR : ∀ ok, Hid (s.rule ok 12 = s) := fun ok => by show _ = _; simp [Sc.rule, he]
    have hb : (s.e == 0) = false := by simpa using he
    have hb' : (s.e != 0) = true := by simpa using he
    have HR := Lib.hid hR
    clear h he hR
    go_enter Try.func42, Try.ntmps42
    go_wp2_with (go_at_call 25; refine (left_any _ lo hi _ s H.out).mono ?_; rintro e w' ⟨rfl, rfl⟩)
    go_wp2_with (go_at_call 53; refine (rule_eq _ lo hi _ s s _ _ H (HR.out _)).mono ?_; rintro e w1 ⟨rfl, hs1, hc1⟩)
    have H1 := Lib.hid hs1
    have HC := Lib.hid hc1
    clear hs1 hc1
    go_wp2_with (go_at_call 43; refine (fault_any _ lo hi _ s H1.out).mono ?_; rintro e w' ⟨rfl, rfl⟩)
    go_ret
    rw [hT.out]
    exact ⟨_, rfl, Rd.nil _ _, H1.out, HC.out⟩
end Go.Proofs.Ythgigkklefaeeaa.Take
