/-
  WireTakes: whatever is asked of a scan of any bytes, one thing behind the other, is told.
  Conditions: none beyond the row's own.
-/
import Derived.Test.YtekodmnhheejkabAlive
import Derived.Test.YtekodmnhheejkabMoves
namespace Go.Proofs.Ytekodmnhheejkab.TakesLaw
open Go Go.RowKit Go.Proofs.Ytekodmnhheejkab Go.Proofs.Ytekodmnhheejkab.Facts Go.Proofs.Ytekodmnhheejkab.Bytes Go.Proofs.Ytekodmnhheejkab.Puts Go.Proofs.Ytekodmnhheejkab.Scan Go.Proofs.Ytekodmnhheejkab.Take Go.Proofs.Ytekodmnhheejkab.Nums Go.Proofs.Ytekodmnhheejkab.Rscan Go.Proofs.Ytekodmnhheejkab.Rnums Go.Proofs.Ytekodmnhheejkab.Alive

/-- Both scans, in one world. -/
structure Two (B lo hi gc gx : Nat) (w0 W : World) (s t : Sc) : Prop where
  c : SC W lo hi (ptr gc) s
  x : RS (fun b => b < B) W gx t
  b : Below B w0 W

section
variable {B lo hi gc gx : Nat} {w0 W W' : World} {s t s1 t1 : Sc}
theorem Two.stepc (h : Two B lo hi gc gx w0 W s t) (hB : B ≤ lo) (hx : hi ≤ gx) (k : SC W' lo hi (ptr gc) s1) (hc : Chg (ptr gc) W W') : Two B lo hi gc gx w0 W' s1 t := by
  have hz := h.c.size
  refine ⟨k, h.x.keep hc.size (hc.block gx h.x.2.1 (fun e => by have e' : gx = gc := (by simpa [ptr, blk] using e); omega)) (fun b hb hS => hc.block b hb (fun e => by have e' : b = gc := (by simpa [ptr, blk] using e); omega)), ?_⟩
  exact h.b.trans ⟨hc.os, hc.tape, hc.output, hc.size, fun b hb => hc.block b (by omega) (fun e => by have e' : b = gc := (by simpa [ptr, blk] using e); omega)⟩
theorem Two.stepx (h : Two B lo hi gc gx w0 W s t) (hB : B ≤ lo) (hx : hi ≤ gx) (k : RS (fun b => b < B) W' gx t1) (hc : Chg (ptr gx) W W') : Two B lo hi gc gx w0 W' s t1 := by
  have hz := h.c.size
  refine ⟨far_sc h.c hc hx, k, ?_⟩
  exact h.b.trans ⟨hc.os, hc.tape, hc.output, hc.size, fun b hb => hc.block b (by omega) (fun e => by have e' : b = gx := (by simpa [ptr, blk] using e); omega)⟩
theorem Two.grew (h : Two B lo hi gc gx w0 W s t) (hB : B ≤ lo) (hg : Grew W W') : Two B lo hi gc gx w0 W' s t := by
  have hz := h.c.size
  exact ⟨h.c.grew hg, h.x.grew hg, h.b.trans (hg.mono (by omega))⟩
end

/-- Outside the two blocks all that was there is as it was. -/
def Rel (gc gx : Nat) (w w' : World) : Prop := w.heap.size ≤ w'.heap.size ∧ ∀ k, k < w.heap.size → k ≠ gc → k ≠ gx → w'.heap[k]? = w.heap[k]?
theorem Rel.refl (gc gx : Nat) (w : World) : Rel gc gx w w := ⟨Nat.le_refl _, fun _ _ _ _ => rfl⟩
theorem Rel.of_c {gc gx : Nat} {w w' : World} (h : Chg (ptr gc) w w') : Rel gc gx w w' := ⟨h.size, fun k hk h1 _ => h.block k hk (fun e => h1 (by simpa [ptr, blk] using e))⟩
theorem Rel.of_x {gc gx : Nat} {w w' : World} (h : Chg (ptr gx) w w') : Rel gc gx w w' := ⟨h.size, fun k hk _ h2 => h.block k hk (fun e => h2 (by simpa [ptr, blk] using e))⟩

/-- The world while two operations of one region, ic on the one scan and ix on the other, come up. -/
def J2 (B lo hi gc gx : Nat) (w0 : World) (ic ix : Nat) (s s1 : Sc) (m : Nat → Bool) (W : World) : Prop := Two B lo hi gc gx w0 W (if m ic = true then s1 else s) (if m ix = true then s1 else s)

theorem start2 {B lo hi gc gx ic ix : Nat} {w0 W : World} {s s1 : Sc} (h : Two B lo hi gc gx w0 W s s) : J2 B lo hi gc gx w0 ic ix s s1 (fun _ => false) W.drew :=
  ⟨h.c.grew ((Grew.refl W).drew), h.x.grew ((Grew.refl W).drew), h.b.drew⟩

theorem cellAt {B lo hi gc gx ic ix : Nat} {w0 W : World} {s s1 : Sc} {m : Nat → Bool} (hJ : J2 B lo hi gc gx w0 ic ix s s1 m W) {a : Addr} {v : Value} (h : w0.cell? a = some v) (ha : a.block < B) : W.cell? a = some v :=
  (Two.b hJ).cell ha |>.trans h

theorem rd_stable {gc gx : Nat} (t : List UInt8) : Moves.Stable (Rel gc gx) (fun v W => Rd (fun b => b ≠ gc ∧ b ≠ gx) W v t) := fun _ _ _ h hr => h.keep fun b hb hs => hr.2 b hb hs.1 hs.2

theorem take_len2 (s : Sc) (n : Nat) : (s.take n).2.l.length ≤ s.l.length := by
  unfold Sc.take
  split
  · split
    · simp
    · simp
  · simp
theorem num_len (s : Sc) (n : Nat) : (s.num n).2.l.length ≤ s.l.length := take_len2 s n
theorem rule_len (s : Sc) (ok : Bool) (e : Int) : (s.rule ok e).l.length = s.l.length := by
  unfold Sc.rule
  split <;> rfl
theorem text_len (s : Sc) (most : Int) : (s.text most).2.l.length ≤ s.l.length := by
  unfold Sc.text
  refine Nat.le_trans (take_len2 _ _) ?_
  rw [rule_len]
  exact num_len s 1
theorem rtext_eq (S : Nat → Prop) (w : World) (g : Nat) (s : Sc) (most : Int) (t : List UInt8) (s1 : Sc) (h : Hid (RS S w g s)) (hs : Hid (s.text most = (t, s1))) :
    Calls Try.prog 15 #[.pointer (some ⟨g, 0, none⟩), .int .i64 most] w fun e w' => e = .returned (.string ⟨t.toArray⟩) ∧ RS S w' g s1 ∧ Chg (ptr g) w w' := by
  have := rtext_any S w g s most h.out
  rwa [hs.out] at this
theorem takeN_eq (w : World) (lo hi : Nat) (p : Value) (s : Sc) (n : Int) (t : List UInt8) (s1 : Sc) (h : SC w lo hi p s) (hn : n ≤ 9223372036854775807) (hs : s.l.length ≤ 140737488355328) (ht : Hid (s.take (max n 0).toNat = (t, s1))) :
    Calls Try.prog 16 #[p, .int .i64 n] w fun e w' => ∃ v, e = .returned v ∧ Rd (fun b => w.heap.size ≤ b) w' v t ∧ SC w' lo hi p s1 ∧ Chg p w w' := by
  have := takeN_any w lo hi p s n h hn hs
  rwa [ht.out] at this
theorem rtakeN_eq (S : Nat → Prop) (w : World) (g : Nat) (s : Sc) (n : Int) (t : List UInt8) (s1 : Sc) (hn : n ≤ 9223372036854775807) (h : RS S w g s) (ht : Hid (s.take (max n 0).toNat = (t, s1))) :
    Calls Try.prog 17 #[.pointer (some ⟨g, 0, none⟩), .int .i64 n] w fun e w' => ∃ v, e = .returned v ∧ Rd S w' v t ∧ RS S w' g s1 ∧ Chg (ptr g) w w' := by
  have := rtake_any S w g s n hn h
  rwa [ht.out] at this

theorem rrule_eq (S : Nat → Prop) (w : World) (g : Nat) (s s' : Sc) (ok : Bool) (x : Int) (h : Hid (RS S w g s)) (hs : Hid (s.rule ok x = s')) :
    Calls Try.prog 19 #[.pointer (some ⟨g, 0, none⟩), .bool ok, .int .i64 x] w fun e w' => e = .returned (.tuple #[]) ∧ RS S w' g s' ∧ Chg (ptr g) w w' := by
  have := rrule_any S w g s ok x h.out
  rwa [hs.out] at this

/-- What is asked, as it lies. -/
def Asks (w : World) (A : Option Addr) (n : Nat) : Prop := n = 0 ∨ ∃ a, A = some a ∧ a.block < w.heap.size ∧
  ∀ k, k < n → ∃ kd nn ee : Int, nn ≤ 9223372036854775807 ∧ w.cell? (a.add (k * 3)) = some (.int .i64 kd) ∧
    w.cell? ⟨(a.add (k * 3)).block, (a.add (k * 3)).off + 1, none⟩ = some (.int .i64 nn) ∧ w.cell? ⟨(a.add (k * 3)).block, (a.add (k * 3)).off + 2, none⟩ = some (.int .i64 ee)

attribute [local go_sem] come

set_option maxRecDepth 100000 in
set_option maxHeartbeats 4000000 in
theorem law_any (S : Nat → Prop) (v : Value) (l : List UInt8) (A : Option Addr) (n c : Nat) (w : World) (h : Rd S w v l) (hl : l.length + 4096 ≤ 140737488355328) (hA : Asks w A n) (hn : n ≤ c) (hc : c ≤ maxLen) :
    Calls Try.prog 4 #[v, .slice A n c] w fun e w' => e = .returned (.bool true) ∧ Grew w w' := by
  obtain ⟨Ab, cb, rfl, _⟩ := id h
  have R0 := Lib.hid h.lt
  have HA := Lib.hid hA
  unfold maxLen at hc
  rename_i hjunk
  clear h hA hjunk
  go_enter Try.func4, Try.ntmps4
  go_wp2_with fail
  refine (from_any _ _ l _ R0.out (by omega)).mono ?_
  rintro e w1 ⟨gc, rfl, hs1, hg1⟩
  have R1 := Lib.hid (R0.out.grew hg1)
  have S1 := Lib.hid hs1
  have G1 := Lib.hid hg1
  clear hs1 hg1
  go_wp2
  have hz := S1.out.size
  have T0 : Two w.heap.size w.heap.size w1.heap.size gc w1.heap.size w (w1.alloc (.cells #[.slice Ab l.length cb, .int .i64 0, .int .i64 0] 34)) ⟨l, 0⟩ ⟨l, 0⟩ := by
    have hga : Grew w1 (w1.alloc (.cells #[.slice Ab l.length cb, .int .i64 0, .int .i64 0] 34)) := (Below.refl _ _).alloc (Nat.le_refl _) _
    refine ⟨S1.out.grew hga, ⟨by omega, by simp, _, l, 0, heap_alloc_new _ _, (R1.out.mono fun b hb => hb.2).grew hga, Nat.zero_le _, rfl⟩, G1.out.trans (hga.mono (by omega))⟩
  have hx : Hid (w1.heap.size ≤ w1.heap.size) := Nat.le_refl _
  have HT := Lib.hid T0
  clear T0
  generalize hW2 : w1.alloc (.cells #[.slice Ab l.length cb, .int .i64 0, .int .i64 0] 34) = W2 at *
  clear hW2
  generalize w1.heap.size = hi at *
  clear R1 S1 G1
  go_loopw [7] (fun i wr => ∃ (k : Nat) (s : Sc), k ≤ n ∧ i = .int .i64 k ∧ Two w.heap.size w.heap.size hi gc hi w wr s s ∧ s.l.length ≤ l.length) (fun i _ => n - (intOf i).toNat)
  case atStart => exact ⟨0, ⟨l, 0⟩, Nat.zero_le _, rfl, HT.out, Nat.le_refl _⟩
  case round =>
    obtain ⟨k, s, hk, rfl, hT, hsl⟩ := hrel
    by_cases hlt : k < n ∧ k < 100
    · obtain ⟨hlt, h100⟩ := hlt
      rcases HA.out with h0 | ⟨a, rfl, hab0, hcells⟩
      · omega
      obtain ⟨kd, nn, ee, hnn, c0, c1, c2⟩ := hcells k hlt
      have hab : (a.add (k * 3)).block < w.heap.size := by rw [block_add']; exact hab0
      have hd1 : decide (k < n) = true := by simpa using hlt
      have hd2 : decide ((k : Int) < 100) = true := by simp; omega
      have k0 : wr.cell? (a.add (k * 3)) = some (.int .i64 kd) := (hT.b.cell hab).trans c0
      have k2 : wr.cell? ⟨(a.add (k * 3)).block, (a.add (k * 3)).off + 2, none⟩ = some (.int .i64 ee) := (hT.b.cell (p := ⟨(a.add (k * 3)).block, (a.add (k * 3)).off + 2, none⟩) hab).trans c2
      have hT2 := Lib.hid hT
      clear hT hcells c0
      by_cases e0 : kd = 0
      · subst e0
        obtain ⟨⟨N, s3⟩, hs3⟩ : ∃ q, s.num (width nn) = q := ⟨_, rfl⟩
        have hsl3 : s3.l.length ≤ l.length := Nat.le_trans (by have := num_len s (width nn); rw [hs3] at this; exact this) hsl
        have HS3 := Lib.hid hs3
        clear hs3
        go_wp2
        refine Moves.wp_region_text (J2 w.heap.size w.heap.size hi gc hi w 6 13 s s3) (Rel gc hi) (by kernel_rfl) (by kernel_rfl) (start2 hT2.out) ?_
        repeat
          apply Moves.Lex.exact [] _ (by kernel_rfl)
          · intro m u W _ _ hJ _
            have kc := cellAt hJ c1 hab
            unfold Moves.one
            go_simp
            exact ⟨Rel.refl _ _ _, hJ, rfl⟩
          simp only [Act.put, List.setIfInBounds_toArray, List.set_cons_zero, List.set_cons_succ, Nat.zero_add, Nat.reduceAdd]
        apply Moves.Lex.exact [] _ (by kernel_rfl)
        · intro m u W h0 _ hJ _
          unfold J2 at hJ
          rw [if_neg (by rw [h0]; exact Bool.false_ne_true)] at hJ
          unfold Moves.one
          go_simp
          refine (num_eq _ _ _ _ s nn N s3 (Lib.hid hJ.c) HS3).mono ?_
          rintro e w' ⟨rfl, hk, hch⟩
          exact ⟨_, rfl, Rel.of_c hch, hJ.stepc (Nat.le_refl _) (Nat.le_refl _) hk hch, rfl⟩
        simp only [Act.put, List.setIfInBounds_toArray, List.set_cons_zero, List.set_cons_succ, Nat.zero_add, Nat.reduceAdd]
        repeat
          apply Moves.Lex.exact [] _ (by kernel_rfl)
          · intro m u W _ _ hJ _
            have kc := cellAt hJ c1 hab
            unfold Moves.one
            go_simp
            exact ⟨Rel.refl _ _ _, hJ, rfl⟩
          simp only [Act.put, List.setIfInBounds_toArray, List.set_cons_zero, List.set_cons_succ, Nat.zero_add, Nat.reduceAdd]
        apply Moves.Lex.exact [] _ (by kernel_rfl)
        · intro m u W h0 _ hJ _
          unfold J2 at hJ
          rw [if_neg (c := m 13 = true) (by rw [h0]; exact Bool.false_ne_true)] at hJ
          unfold Moves.one
          go_simp
          refine (rnum_eq _ _ _ s nn N s3 (Lib.hid hJ.x) HS3).mono ?_
          rintro e w' ⟨rfl, hk, hch⟩
          exact ⟨_, rfl, Rel.of_x hch, hJ.stepx (Nat.le_refl _) (Nat.le_refl _) hk hch, rfl⟩
        simp only [Act.put, List.setIfInBounds_toArray, List.set_cons_zero, List.set_cons_succ, Nat.zero_add, Nat.reduceAdd]
        repeat
          apply Moves.Lex.exact [] _ (by kernel_rfl)
          · intro m u W _ _ hJ _
            have kc := cellAt hJ c1 hab
            unfold Moves.one
            go_simp
            exact ⟨Rel.refl _ _ _, hJ, rfl⟩
          simp only [Act.put, List.setIfInBounds_toArray, List.set_cons_zero, List.set_cons_succ, Nat.zero_add, Nat.reduceAdd]
        refine Moves.Lex.done fun m u W hall hJ _ => ?_
        have hT3 : Hid (Two w.heap.size w.heap.size hi gc hi w W s3 s3) := by
          unfold J2 at hJ
          rwa [if_pos (hall 6 (by decide)), if_pos (hall 13 (by decide))] at hJ
        clear hJ hall
        have hxx := hT3.out.x
        go_wp2
        refine Facts.wp_region_text (by kernel_rfl) (by kernel_rfl) ?_
        repeat
          apply Facts.Lex.exact [] _ (by kernel_rfl)
          · intro u W hC _
            unfold Facts.one
            go_simp
            exact ⟨Grew.refl _, rfl⟩
          simp only [Act.put, List.setIfInBounds_toArray, List.set_cons_zero, List.set_cons_succ, Nat.zero_add, Nat.reduceAdd]
        apply Facts.Lex.exact [] _ (by kernel_rfl)
        · intro u W hC _
          unfold Facts.one
          go_simp
          refine (left_any _ _ _ _ s3 (hT3.out.c.grew hC)).mono ?_
          rintro e w' ⟨rfl, rfl⟩
          exact ⟨_, rfl, Grew.refl _, rfl⟩
        simp only [Act.put, List.setIfInBounds_toArray, List.set_cons_zero, List.set_cons_succ, Nat.zero_add, Nat.reduceAdd]
        repeat
          apply Facts.Lex.exact [] _ (by kernel_rfl)
          · intro u W hC _
            unfold Facts.one
            go_simp
            exact ⟨Grew.refl _, rfl⟩
          simp only [Act.put, List.setIfInBounds_toArray, List.set_cons_zero, List.set_cons_succ, Nat.zero_add, Nat.reduceAdd]
        apply Facts.Lex.exact [] _ (by kernel_rfl)
        · intro u W hC _
          unfold Facts.one
          go_simp
          refine (rleft_any _ _ _ s3 (hT3.out.x.grew hC)).mono ?_
          rintro e w' ⟨rfl, nd, rfl⟩
          exact ⟨_, rfl, grew_drewN _ _, rfl⟩
        simp only [Act.put, List.setIfInBounds_toArray, List.set_cons_zero, List.set_cons_succ, Nat.zero_add, Nat.reduceAdd]
        repeat
          apply Facts.Lex.exact [] _ (by kernel_rfl)
          · intro u W hC _
            unfold Facts.one
            go_simp
            exact ⟨Grew.refl _, rfl⟩
          simp only [Act.put, List.setIfInBounds_toArray, List.set_cons_zero, List.set_cons_succ, Nat.zero_add, Nat.reduceAdd]
        apply Facts.Lex.exact [] _ (by kernel_rfl)
        · intro u W hC _
          unfold Facts.one
          go_simp
          refine (fault_any _ _ _ _ s3 (hT3.out.c.grew hC)).mono ?_
          rintro e w' ⟨rfl, rfl⟩
          exact ⟨_, rfl, Grew.refl _, rfl⟩
        simp only [Act.put, List.setIfInBounds_toArray, List.set_cons_zero, List.set_cons_succ, Nat.zero_add, Nat.reduceAdd]
        repeat
          apply Facts.Lex.exact [] _ (by kernel_rfl)
          · intro u W hC _
            unfold Facts.one
            go_simp
            exact ⟨Grew.refl _, rfl⟩
          simp only [Act.put, List.setIfInBounds_toArray, List.set_cons_zero, List.set_cons_succ, Nat.zero_add, Nat.reduceAdd]
        apply Facts.Lex.exact [] _ (by kernel_rfl)
        · intro u W hC _
          obtain ⟨_, _, _, _, _, hgx, _⟩ := hT3.out.x.grew hC
          have kf := cell_of_row _ _ 2 _ _ _ hgx
          unfold Facts.one
          go_simp
          exact ⟨Grew.refl _, rfl⟩
        simp only [Act.put, List.setIfInBounds_toArray, List.set_cons_zero, List.set_cons_succ, Nat.zero_add, Nat.reduceAdd]
        repeat
          apply Facts.Lex.exact [] _ (by kernel_rfl)
          · intro u W hC _
            unfold Facts.one
            go_simp
            exact ⟨Grew.refl _, rfl⟩
          simp only [Act.put, List.setIfInBounds_toArray, List.set_cons_zero, List.set_cons_succ, Nat.zero_add, Nat.reduceAdd]
        apply Facts.Lex.exact [] _ (by kernel_rfl)
        · intro u W hC _
          unfold Facts.one
          go_simp
          refine (end_any _ _ _ _ s3 (hT3.out.c.grew hC)).mono ?_
          rintro e w' ⟨rfl, rfl⟩
          exact ⟨_, rfl, Grew.refl _, rfl⟩
        simp only [Act.put, List.setIfInBounds_toArray, List.set_cons_zero, List.set_cons_succ, Nat.zero_add, Nat.reduceAdd]
        repeat
          apply Facts.Lex.exact [] _ (by kernel_rfl)
          · intro u W hC _
            unfold Facts.one
            go_simp
            exact ⟨Grew.refl _, rfl⟩
          simp only [Act.put, List.setIfInBounds_toArray, List.set_cons_zero, List.set_cons_succ, Nat.zero_add, Nat.reduceAdd]
        apply Facts.Lex.exact [] _ (by kernel_rfl)
        · intro u W hC _
          unfold Facts.one
          go_simp
          refine (rend_any _ _ _ s3 (hT3.out.x.grew hC)).mono ?_
          rintro e w' ⟨rfl, nd, rfl⟩
          exact ⟨_, rfl, grew_drewN _ _, rfl⟩
        simp only [Act.put, List.setIfInBounds_toArray, List.set_cons_zero, List.set_cons_succ, Nat.zero_add, Nat.reduceAdd]
        repeat
          apply Facts.Lex.exact [] _ (by kernel_rfl)
          · intro u W hC _
            unfold Facts.one
            go_simp
            exact ⟨Grew.refl _, rfl⟩
          simp only [Act.put, List.setIfInBounds_toArray, List.set_cons_zero, List.set_cons_succ, Nat.zero_add, Nat.reduceAdd]
        refine Facts.Lex.done fun u W hC _ => ?_
        go_wp2
        go_roundw
        case rel => exact ⟨k + 1, s3, hlt, by go_num, hT3.out.grew (Nat.le_refl _) hC, hsl3⟩
        case measure => simp [intOf]; omega
      by_cases e1 : kd = 1
      · subst e1
        obtain ⟨⟨t, s3⟩, hs3⟩ : ∃ q, s.text nn = q := ⟨_, rfl⟩
        have hsl3 : s3.l.length ≤ l.length := Nat.le_trans (by have := text_len s nn; rw [hs3] at this; exact this) hsl
        have HS3 := Lib.hid hs3
        clear hs3
        go_wp2
        refine Moves.wp_region_text (J2 w.heap.size w.heap.size hi gc hi w 6 13 s s3) (Rel gc hi) (by kernel_rfl) (by kernel_rfl) (start2 hT2.out) ?_
        repeat
          apply Moves.Lex.exact [] _ (by kernel_rfl)
          · intro m u W _ _ hJ _
            have kc := cellAt hJ c1 hab
            unfold Moves.one
            go_simp
            exact ⟨Rel.refl _ _ _, hJ, rfl⟩
          simp only [Act.put, List.setIfInBounds_toArray, List.set_cons_zero, List.set_cons_succ, Nat.zero_add, Nat.reduceAdd]
        apply Moves.Lex.exact [] _ (by kernel_rfl)
        · intro m u W h0 _ hJ _
          unfold J2 at hJ
          rw [if_neg (by rw [h0]; exact Bool.false_ne_true)] at hJ
          unfold Moves.one
          go_simp
          refine (text_eq _ _ _ _ s nn t s3 (Lib.hid hJ.c) HS3).mono ?_
          rintro e w' ⟨rfl, hk, hch⟩
          exact ⟨_, rfl, Rel.of_c hch, hJ.stepc (Nat.le_refl _) (Nat.le_refl _) hk hch, rfl⟩
        simp only [Act.put, List.setIfInBounds_toArray, List.set_cons_zero, List.set_cons_succ, Nat.zero_add, Nat.reduceAdd]
        repeat
          apply Moves.Lex.exact [] _ (by kernel_rfl)
          · intro m u W _ _ hJ _
            have kc := cellAt hJ c1 hab
            unfold Moves.one
            go_simp
            exact ⟨Rel.refl _ _ _, hJ, rfl⟩
          simp only [Act.put, List.setIfInBounds_toArray, List.set_cons_zero, List.set_cons_succ, Nat.zero_add, Nat.reduceAdd]
        apply Moves.Lex.exact [] _ (by kernel_rfl)
        · intro m u W h0 _ hJ _
          unfold J2 at hJ
          rw [if_neg (c := m 13 = true) (by rw [h0]; exact Bool.false_ne_true)] at hJ
          unfold Moves.one
          go_simp
          refine (rtext_eq _ _ _ s nn t s3 (Lib.hid hJ.x) HS3).mono ?_
          rintro e w' ⟨rfl, hk, hch⟩
          exact ⟨_, rfl, Rel.of_x hch, hJ.stepx (Nat.le_refl _) (Nat.le_refl _) hk hch, rfl⟩
        simp only [Act.put, List.setIfInBounds_toArray, List.set_cons_zero, List.set_cons_succ, Nat.zero_add, Nat.reduceAdd]
        repeat
          apply Moves.Lex.exact [] _ (by kernel_rfl)
          · intro m u W _ _ hJ _
            have kc := cellAt hJ c1 hab
            unfold Moves.one
            go_simp
            exact ⟨Rel.refl _ _ _, hJ, rfl⟩
          simp only [Act.put, List.setIfInBounds_toArray, List.set_cons_zero, List.set_cons_succ, Nat.zero_add, Nat.reduceAdd]
        refine Moves.Lex.done fun m u W hall hJ _ => ?_
        have hT3 : Hid (Two w.heap.size w.heap.size hi gc hi w W s3 s3) := by
          unfold J2 at hJ
          rwa [if_pos (hall 6 (by decide)), if_pos (hall 13 (by decide))] at hJ
        clear hJ hall
        have hxx := hT3.out.x
        go_wp2
        refine Facts.wp_region_text (by kernel_rfl) (by kernel_rfl) ?_
        repeat
          apply Facts.Lex.exact [] _ (by kernel_rfl)
          · intro u W hC _
            unfold Facts.one
            go_simp
            exact ⟨Grew.refl _, rfl⟩
          simp only [Act.put, List.setIfInBounds_toArray, List.set_cons_zero, List.set_cons_succ, Nat.zero_add, Nat.reduceAdd]
        apply Facts.Lex.exact [] _ (by kernel_rfl)
        · intro u W hC _
          unfold Facts.one
          go_simp
          refine (left_any _ _ _ _ s3 (hT3.out.c.grew hC)).mono ?_
          rintro e w' ⟨rfl, rfl⟩
          exact ⟨_, rfl, Grew.refl _, rfl⟩
        simp only [Act.put, List.setIfInBounds_toArray, List.set_cons_zero, List.set_cons_succ, Nat.zero_add, Nat.reduceAdd]
        repeat
          apply Facts.Lex.exact [] _ (by kernel_rfl)
          · intro u W hC _
            unfold Facts.one
            go_simp
            exact ⟨Grew.refl _, rfl⟩
          simp only [Act.put, List.setIfInBounds_toArray, List.set_cons_zero, List.set_cons_succ, Nat.zero_add, Nat.reduceAdd]
        apply Facts.Lex.exact [] _ (by kernel_rfl)
        · intro u W hC _
          unfold Facts.one
          go_simp
          refine (rleft_any _ _ _ s3 (hT3.out.x.grew hC)).mono ?_
          rintro e w' ⟨rfl, nd, rfl⟩
          exact ⟨_, rfl, grew_drewN _ _, rfl⟩
        simp only [Act.put, List.setIfInBounds_toArray, List.set_cons_zero, List.set_cons_succ, Nat.zero_add, Nat.reduceAdd]
        repeat
          apply Facts.Lex.exact [] _ (by kernel_rfl)
          · intro u W hC _
            unfold Facts.one
            go_simp
            exact ⟨Grew.refl _, rfl⟩
          simp only [Act.put, List.setIfInBounds_toArray, List.set_cons_zero, List.set_cons_succ, Nat.zero_add, Nat.reduceAdd]
        apply Facts.Lex.exact [] _ (by kernel_rfl)
        · intro u W hC _
          unfold Facts.one
          go_simp
          refine (fault_any _ _ _ _ s3 (hT3.out.c.grew hC)).mono ?_
          rintro e w' ⟨rfl, rfl⟩
          exact ⟨_, rfl, Grew.refl _, rfl⟩
        simp only [Act.put, List.setIfInBounds_toArray, List.set_cons_zero, List.set_cons_succ, Nat.zero_add, Nat.reduceAdd]
        repeat
          apply Facts.Lex.exact [] _ (by kernel_rfl)
          · intro u W hC _
            unfold Facts.one
            go_simp
            exact ⟨Grew.refl _, rfl⟩
          simp only [Act.put, List.setIfInBounds_toArray, List.set_cons_zero, List.set_cons_succ, Nat.zero_add, Nat.reduceAdd]
        apply Facts.Lex.exact [] _ (by kernel_rfl)
        · intro u W hC _
          obtain ⟨_, _, _, _, _, hgx, _⟩ := hT3.out.x.grew hC
          have kf := cell_of_row _ _ 2 _ _ _ hgx
          unfold Facts.one
          go_simp
          exact ⟨Grew.refl _, rfl⟩
        simp only [Act.put, List.setIfInBounds_toArray, List.set_cons_zero, List.set_cons_succ, Nat.zero_add, Nat.reduceAdd]
        repeat
          apply Facts.Lex.exact [] _ (by kernel_rfl)
          · intro u W hC _
            unfold Facts.one
            go_simp
            exact ⟨Grew.refl _, rfl⟩
          simp only [Act.put, List.setIfInBounds_toArray, List.set_cons_zero, List.set_cons_succ, Nat.zero_add, Nat.reduceAdd]
        apply Facts.Lex.exact [] _ (by kernel_rfl)
        · intro u W hC _
          unfold Facts.one
          go_simp
          refine (end_any _ _ _ _ s3 (hT3.out.c.grew hC)).mono ?_
          rintro e w' ⟨rfl, rfl⟩
          exact ⟨_, rfl, Grew.refl _, rfl⟩
        simp only [Act.put, List.setIfInBounds_toArray, List.set_cons_zero, List.set_cons_succ, Nat.zero_add, Nat.reduceAdd]
        repeat
          apply Facts.Lex.exact [] _ (by kernel_rfl)
          · intro u W hC _
            unfold Facts.one
            go_simp
            exact ⟨Grew.refl _, rfl⟩
          simp only [Act.put, List.setIfInBounds_toArray, List.set_cons_zero, List.set_cons_succ, Nat.zero_add, Nat.reduceAdd]
        apply Facts.Lex.exact [] _ (by kernel_rfl)
        · intro u W hC _
          unfold Facts.one
          go_simp
          refine (rend_any _ _ _ s3 (hT3.out.x.grew hC)).mono ?_
          rintro e w' ⟨rfl, nd, rfl⟩
          exact ⟨_, rfl, grew_drewN _ _, rfl⟩
        simp only [Act.put, List.setIfInBounds_toArray, List.set_cons_zero, List.set_cons_succ, Nat.zero_add, Nat.reduceAdd]
        repeat
          apply Facts.Lex.exact [] _ (by kernel_rfl)
          · intro u W hC _
            unfold Facts.one
            go_simp
            exact ⟨Grew.refl _, rfl⟩
          simp only [Act.put, List.setIfInBounds_toArray, List.set_cons_zero, List.set_cons_succ, Nat.zero_add, Nat.reduceAdd]
        refine Facts.Lex.done fun u W hC _ => ?_
        go_wp2
        go_roundw
        case rel => exact ⟨k + 1, s3, hlt, by go_num, hT3.out.grew (Nat.le_refl _) hC, hsl3⟩
        case measure => simp [intOf]; omega
      by_cases e2 : kd = 2
      · subst e2
        obtain ⟨⟨t, s3⟩, hs3⟩ : ∃ q, s.take (max nn 0).toNat = q := ⟨_, rfl⟩
        have hsl3 : s3.l.length ≤ l.length := Nat.le_trans (by have := take_len2 s (max nn 0).toNat; rw [hs3] at this; exact this) hsl
        have HS3 := Lib.hid hs3
        clear hs3
        go_wp2
        refine Moves.wp_region_text (J2 w.heap.size w.heap.size hi gc hi w 6 14 s s3) (Rel gc hi) (by kernel_rfl) (by kernel_rfl) (start2 hT2.out) ?_
        repeat
          apply Moves.Lex.exact [] _ (by kernel_rfl)
          · intro m u W _ _ hJ _
            have kc := cellAt hJ c1 hab
            unfold Moves.one
            go_simp
            exact ⟨Rel.refl _ _ _, hJ, rfl⟩
          simp only [Act.put, List.setIfInBounds_toArray, List.set_cons_zero, List.set_cons_succ, Nat.zero_add, Nat.reduceAdd]
        refine Moves.Lex.know [] (fun v W => Rd (fun b => b ≠ gc ∧ b ≠ hi) W v t) (by kernel_rfl) (rd_stable _) ?_ ?_
        · intro m u W h0 _ hJ _
          unfold J2 at hJ
          rw [if_neg (by rw [h0]; exact Bool.false_ne_true)] at hJ
          have hzc := hJ.c.size
          have hzx := hJ.x.2.1
          unfold Moves.one
          go_simp
          refine (takeN_eq _ _ _ _ s nn t s3 hJ.c hnn (by omega) HS3).mono ?_
          rintro e w' ⟨v, rfl, hrd, hk, hch⟩
          exact ⟨_, rfl, Rel.of_c hch, hJ.stepc (Nat.le_refl _) (Nat.le_refl _) hk hch, hrd.mono fun b hb => ⟨by omega, by omega⟩⟩
        simp only [Act.put, List.setIfInBounds_toArray, List.set_cons_zero, List.set_cons_succ, Nat.zero_add, Nat.reduceAdd]
        apply Moves.Lex.exact [6] _ (by kernel_rfl)
        · intro m u W _ _ hJ hK
          have hcv := conv22 (show Rd (fun b => b ≠ gc ∧ b ≠ hi) W (u 6) t from hK.1)
          unfold Moves.one
          go_simp
          exact ⟨Rel.refl _ _ _, hJ, rfl⟩
        simp only [Act.put, List.setIfInBounds_toArray, List.set_cons_zero, List.set_cons_succ, Nat.zero_add, Nat.reduceAdd]
        repeat
          apply Moves.Lex.exact [] _ (by kernel_rfl)
          · intro m u W _ _ hJ _
            have kc := cellAt hJ c1 hab
            unfold Moves.one
            go_simp
            exact ⟨Rel.refl _ _ _, hJ, rfl⟩
          simp only [Act.put, List.setIfInBounds_toArray, List.set_cons_zero, List.set_cons_succ, Nat.zero_add, Nat.reduceAdd]
        refine Moves.Lex.know [] (fun v W => Rd (fun b => b ≠ gc ∧ b ≠ hi) W v t) (by kernel_rfl) (rd_stable _) ?_ ?_
        · intro m u W h0 _ hJ _
          unfold J2 at hJ
          rw [if_neg (c := m 14 = true) (by rw [h0]; exact Bool.false_ne_true)] at hJ
          have hzc := hJ.c.size
          unfold Moves.one
          go_simp
          refine (rtakeN_eq _ _ _ s nn t s3 hnn hJ.x HS3).mono ?_
          rintro e w' ⟨v, rfl, hrd, hk, hch⟩
          exact ⟨_, rfl, Rel.of_x hch, hJ.stepx (Nat.le_refl _) (Nat.le_refl _) hk hch, hrd.mono fun b hb => ⟨by omega, by omega⟩⟩
        simp only [Act.put, List.setIfInBounds_toArray, List.set_cons_zero, List.set_cons_succ, Nat.zero_add, Nat.reduceAdd]
        apply Moves.Lex.exact [14] _ (by kernel_rfl)
        · intro m u W _ _ hJ hK
          have hcv := conv22 (show Rd (fun b => b ≠ gc ∧ b ≠ hi) W (u 14) t from hK.1)
          unfold Moves.one
          go_simp
          exact ⟨Rel.refl _ _ _, hJ, rfl⟩
        simp only [Act.put, List.setIfInBounds_toArray, List.set_cons_zero, List.set_cons_succ, Nat.zero_add, Nat.reduceAdd]
        repeat
          apply Moves.Lex.exact [] _ (by kernel_rfl)
          · intro m u W _ _ hJ _
            have kc := cellAt hJ c1 hab
            unfold Moves.one
            go_simp
            exact ⟨Rel.refl _ _ _, hJ, rfl⟩
          simp only [Act.put, List.setIfInBounds_toArray, List.set_cons_zero, List.set_cons_succ, Nat.zero_add, Nat.reduceAdd]
        refine Moves.Lex.done fun m u W hall hJ _ => ?_
        have hT3 : Hid (Two w.heap.size w.heap.size hi gc hi w W s3 s3) := by
          unfold J2 at hJ
          rwa [if_pos (hall 6 (by decide)), if_pos (hall 14 (by decide))] at hJ
        clear hJ hall
        have hxx := hT3.out.x
        go_wp2
        refine Facts.wp_region_text (by kernel_rfl) (by kernel_rfl) ?_
        repeat
          apply Facts.Lex.exact [] _ (by kernel_rfl)
          · intro u W hC _
            unfold Facts.one
            go_simp
            exact ⟨Grew.refl _, rfl⟩
          simp only [Act.put, List.setIfInBounds_toArray, List.set_cons_zero, List.set_cons_succ, Nat.zero_add, Nat.reduceAdd]
        apply Facts.Lex.exact [] _ (by kernel_rfl)
        · intro u W hC _
          unfold Facts.one
          go_simp
          refine (left_any _ _ _ _ s3 (hT3.out.c.grew hC)).mono ?_
          rintro e w' ⟨rfl, rfl⟩
          exact ⟨_, rfl, Grew.refl _, rfl⟩
        simp only [Act.put, List.setIfInBounds_toArray, List.set_cons_zero, List.set_cons_succ, Nat.zero_add, Nat.reduceAdd]
        repeat
          apply Facts.Lex.exact [] _ (by kernel_rfl)
          · intro u W hC _
            unfold Facts.one
            go_simp
            exact ⟨Grew.refl _, rfl⟩
          simp only [Act.put, List.setIfInBounds_toArray, List.set_cons_zero, List.set_cons_succ, Nat.zero_add, Nat.reduceAdd]
        apply Facts.Lex.exact [] _ (by kernel_rfl)
        · intro u W hC _
          unfold Facts.one
          go_simp
          refine (rleft_any _ _ _ s3 (hT3.out.x.grew hC)).mono ?_
          rintro e w' ⟨rfl, nd, rfl⟩
          exact ⟨_, rfl, grew_drewN _ _, rfl⟩
        simp only [Act.put, List.setIfInBounds_toArray, List.set_cons_zero, List.set_cons_succ, Nat.zero_add, Nat.reduceAdd]
        repeat
          apply Facts.Lex.exact [] _ (by kernel_rfl)
          · intro u W hC _
            unfold Facts.one
            go_simp
            exact ⟨Grew.refl _, rfl⟩
          simp only [Act.put, List.setIfInBounds_toArray, List.set_cons_zero, List.set_cons_succ, Nat.zero_add, Nat.reduceAdd]
        apply Facts.Lex.exact [] _ (by kernel_rfl)
        · intro u W hC _
          unfold Facts.one
          go_simp
          refine (fault_any _ _ _ _ s3 (hT3.out.c.grew hC)).mono ?_
          rintro e w' ⟨rfl, rfl⟩
          exact ⟨_, rfl, Grew.refl _, rfl⟩
        simp only [Act.put, List.setIfInBounds_toArray, List.set_cons_zero, List.set_cons_succ, Nat.zero_add, Nat.reduceAdd]
        repeat
          apply Facts.Lex.exact [] _ (by kernel_rfl)
          · intro u W hC _
            unfold Facts.one
            go_simp
            exact ⟨Grew.refl _, rfl⟩
          simp only [Act.put, List.setIfInBounds_toArray, List.set_cons_zero, List.set_cons_succ, Nat.zero_add, Nat.reduceAdd]
        apply Facts.Lex.exact [] _ (by kernel_rfl)
        · intro u W hC _
          obtain ⟨_, _, _, _, _, hgx, _⟩ := hT3.out.x.grew hC
          have kf := cell_of_row _ _ 2 _ _ _ hgx
          unfold Facts.one
          go_simp
          exact ⟨Grew.refl _, rfl⟩
        simp only [Act.put, List.setIfInBounds_toArray, List.set_cons_zero, List.set_cons_succ, Nat.zero_add, Nat.reduceAdd]
        repeat
          apply Facts.Lex.exact [] _ (by kernel_rfl)
          · intro u W hC _
            unfold Facts.one
            go_simp
            exact ⟨Grew.refl _, rfl⟩
          simp only [Act.put, List.setIfInBounds_toArray, List.set_cons_zero, List.set_cons_succ, Nat.zero_add, Nat.reduceAdd]
        apply Facts.Lex.exact [] _ (by kernel_rfl)
        · intro u W hC _
          unfold Facts.one
          go_simp
          refine (end_any _ _ _ _ s3 (hT3.out.c.grew hC)).mono ?_
          rintro e w' ⟨rfl, rfl⟩
          exact ⟨_, rfl, Grew.refl _, rfl⟩
        simp only [Act.put, List.setIfInBounds_toArray, List.set_cons_zero, List.set_cons_succ, Nat.zero_add, Nat.reduceAdd]
        repeat
          apply Facts.Lex.exact [] _ (by kernel_rfl)
          · intro u W hC _
            unfold Facts.one
            go_simp
            exact ⟨Grew.refl _, rfl⟩
          simp only [Act.put, List.setIfInBounds_toArray, List.set_cons_zero, List.set_cons_succ, Nat.zero_add, Nat.reduceAdd]
        apply Facts.Lex.exact [] _ (by kernel_rfl)
        · intro u W hC _
          unfold Facts.one
          go_simp
          refine (rend_any _ _ _ s3 (hT3.out.x.grew hC)).mono ?_
          rintro e w' ⟨rfl, nd, rfl⟩
          exact ⟨_, rfl, grew_drewN _ _, rfl⟩
        simp only [Act.put, List.setIfInBounds_toArray, List.set_cons_zero, List.set_cons_succ, Nat.zero_add, Nat.reduceAdd]
        repeat
          apply Facts.Lex.exact [] _ (by kernel_rfl)
          · intro u W hC _
            unfold Facts.one
            go_simp
            exact ⟨Grew.refl _, rfl⟩
          simp only [Act.put, List.setIfInBounds_toArray, List.set_cons_zero, List.set_cons_succ, Nat.zero_add, Nat.reduceAdd]
        refine Facts.Lex.done fun u W hC _ => ?_
        go_wp2
        go_roundw
        case rel => exact ⟨k + 1, s3, hlt, by go_num, hT3.out.grew (Nat.le_refl _) hC, hsl3⟩
        case measure => simp [intOf]; omega
      have b0 : (kd == 0) = false := by simpa using e0
      have b1 : (kd == 1) = false := by simpa using e1
      have b2 : (kd == 2) = false := by simpa using e2
      clear e0 e1 e2
      by_cases e3 : kd = 3
      · have b3 : (kd == 3) = true := by simpa using e3
        clear e3
        obtain ⟨s3, hs3⟩ : ∃ q, s.rule false ee = q := ⟨_, rfl⟩
        have hsl3 : s3.l.length ≤ l.length := by rw [← hs3, rule_len]; exact hsl
        have HS3 := Lib.hid hs3
        clear hs3
        go_wp2_with fail
        refine (rule_eq _ _ _ _ s s3 _ _ (Lib.hid hT2.out.c) HS3).mono ?_
        rintro e W1 ⟨rfl, hk1, hch1⟩
        have hT4 := Lib.hid (hT2.out.stepc (Nat.le_refl _) (Nat.le_refl _) hk1 hch1)
        have k2' : W1.cell? ⟨(a.add (k * 3)).block, (a.add (k * 3)).off + 2, none⟩ = some (.int .i64 ee) := (hT4.out.b.cell (p := ⟨(a.add (k * 3)).block, (a.add (k * 3)).off + 2, none⟩) hab).trans c2
        clear hk1 hch1 k0 k2 c1 c2
        go_wp2_with fail
        refine (rrule_eq _ _ _ s s3 _ _ (Lib.hid hT4.out.x) HS3).mono ?_
        rintro e W2 ⟨rfl, hk2, hch2⟩
        have hT3 := Lib.hid (hT4.out.stepx (Nat.le_refl _) (Nat.le_refl _) hk2 hch2)
        clear hk2 hch2 k2'
        have hxx := hT3.out.x
        go_wp2
        refine Facts.wp_region_text (by kernel_rfl) (by kernel_rfl) ?_
        repeat
          apply Facts.Lex.exact [] _ (by kernel_rfl)
          · intro u W hC _
            unfold Facts.one
            go_simp
            exact ⟨Grew.refl _, rfl⟩
          simp only [Act.put, List.setIfInBounds_toArray, List.set_cons_zero, List.set_cons_succ, Nat.zero_add, Nat.reduceAdd]
        apply Facts.Lex.exact [] _ (by kernel_rfl)
        · intro u W hC _
          unfold Facts.one
          go_simp
          refine (left_any _ _ _ _ s3 (hT3.out.c.grew hC)).mono ?_
          rintro e w' ⟨rfl, rfl⟩
          exact ⟨_, rfl, Grew.refl _, rfl⟩
        simp only [Act.put, List.setIfInBounds_toArray, List.set_cons_zero, List.set_cons_succ, Nat.zero_add, Nat.reduceAdd]
        repeat
          apply Facts.Lex.exact [] _ (by kernel_rfl)
          · intro u W hC _
            unfold Facts.one
            go_simp
            exact ⟨Grew.refl _, rfl⟩
          simp only [Act.put, List.setIfInBounds_toArray, List.set_cons_zero, List.set_cons_succ, Nat.zero_add, Nat.reduceAdd]
        apply Facts.Lex.exact [] _ (by kernel_rfl)
        · intro u W hC _
          unfold Facts.one
          go_simp
          refine (rleft_any _ _ _ s3 (hT3.out.x.grew hC)).mono ?_
          rintro e w' ⟨rfl, nd, rfl⟩
          exact ⟨_, rfl, grew_drewN _ _, rfl⟩
        simp only [Act.put, List.setIfInBounds_toArray, List.set_cons_zero, List.set_cons_succ, Nat.zero_add, Nat.reduceAdd]
        repeat
          apply Facts.Lex.exact [] _ (by kernel_rfl)
          · intro u W hC _
            unfold Facts.one
            go_simp
            exact ⟨Grew.refl _, rfl⟩
          simp only [Act.put, List.setIfInBounds_toArray, List.set_cons_zero, List.set_cons_succ, Nat.zero_add, Nat.reduceAdd]
        apply Facts.Lex.exact [] _ (by kernel_rfl)
        · intro u W hC _
          unfold Facts.one
          go_simp
          refine (fault_any _ _ _ _ s3 (hT3.out.c.grew hC)).mono ?_
          rintro e w' ⟨rfl, rfl⟩
          exact ⟨_, rfl, Grew.refl _, rfl⟩
        simp only [Act.put, List.setIfInBounds_toArray, List.set_cons_zero, List.set_cons_succ, Nat.zero_add, Nat.reduceAdd]
        repeat
          apply Facts.Lex.exact [] _ (by kernel_rfl)
          · intro u W hC _
            unfold Facts.one
            go_simp
            exact ⟨Grew.refl _, rfl⟩
          simp only [Act.put, List.setIfInBounds_toArray, List.set_cons_zero, List.set_cons_succ, Nat.zero_add, Nat.reduceAdd]
        apply Facts.Lex.exact [] _ (by kernel_rfl)
        · intro u W hC _
          obtain ⟨_, _, _, _, _, hgx, _⟩ := hT3.out.x.grew hC
          have kf := cell_of_row _ _ 2 _ _ _ hgx
          unfold Facts.one
          go_simp
          exact ⟨Grew.refl _, rfl⟩
        simp only [Act.put, List.setIfInBounds_toArray, List.set_cons_zero, List.set_cons_succ, Nat.zero_add, Nat.reduceAdd]
        repeat
          apply Facts.Lex.exact [] _ (by kernel_rfl)
          · intro u W hC _
            unfold Facts.one
            go_simp
            exact ⟨Grew.refl _, rfl⟩
          simp only [Act.put, List.setIfInBounds_toArray, List.set_cons_zero, List.set_cons_succ, Nat.zero_add, Nat.reduceAdd]
        apply Facts.Lex.exact [] _ (by kernel_rfl)
        · intro u W hC _
          unfold Facts.one
          go_simp
          refine (end_any _ _ _ _ s3 (hT3.out.c.grew hC)).mono ?_
          rintro e w' ⟨rfl, rfl⟩
          exact ⟨_, rfl, Grew.refl _, rfl⟩
        simp only [Act.put, List.setIfInBounds_toArray, List.set_cons_zero, List.set_cons_succ, Nat.zero_add, Nat.reduceAdd]
        repeat
          apply Facts.Lex.exact [] _ (by kernel_rfl)
          · intro u W hC _
            unfold Facts.one
            go_simp
            exact ⟨Grew.refl _, rfl⟩
          simp only [Act.put, List.setIfInBounds_toArray, List.set_cons_zero, List.set_cons_succ, Nat.zero_add, Nat.reduceAdd]
        apply Facts.Lex.exact [] _ (by kernel_rfl)
        · intro u W hC _
          unfold Facts.one
          go_simp
          refine (rend_any _ _ _ s3 (hT3.out.x.grew hC)).mono ?_
          rintro e w' ⟨rfl, nd, rfl⟩
          exact ⟨_, rfl, grew_drewN _ _, rfl⟩
        simp only [Act.put, List.setIfInBounds_toArray, List.set_cons_zero, List.set_cons_succ, Nat.zero_add, Nat.reduceAdd]
        repeat
          apply Facts.Lex.exact [] _ (by kernel_rfl)
          · intro u W hC _
            unfold Facts.one
            go_simp
            exact ⟨Grew.refl _, rfl⟩
          simp only [Act.put, List.setIfInBounds_toArray, List.set_cons_zero, List.set_cons_succ, Nat.zero_add, Nat.reduceAdd]
        refine Facts.Lex.done fun u W hC _ => ?_
        go_wp2
        go_roundw
        case rel => exact ⟨k + 1, s3, hlt, by go_num, hT3.out.grew (Nat.le_refl _) hC, hsl3⟩
        case measure => simp [intOf]; omega
      · have b3 : (kd == 3) = false := by simpa using e3
        clear e3
        obtain ⟨s3, hs3⟩ : ∃ q, s = q := ⟨_, rfl⟩
        have hsl3 : s3.l.length ≤ l.length := by rw [← hs3]; exact hsl
        have HS3 : Hid (s.rule true ee = s3) := by show _ = _; rw [hs3]; simp [Sc.rule]
        have hT2' : Hid (Two w.heap.size w.heap.size hi gc hi w wr s s3) := by have := hT2.out; rw [← hs3]; exact this
        clear hs3
        go_wp2_with fail
        refine (rule_eq _ _ _ _ s s3 _ _ (Lib.hid hT2.out.c) HS3).mono ?_
        rintro e W1 ⟨rfl, hk1, hch1⟩
        have hT3 := Lib.hid (hT2'.out.stepc (Nat.le_refl _) (Nat.le_refl _) hk1 hch1)
        clear hk1 hch1 k0 k2 c1 c2
        have hxx := hT3.out.x
        go_wp2
        refine Facts.wp_region_text (by kernel_rfl) (by kernel_rfl) ?_
        repeat
          apply Facts.Lex.exact [] _ (by kernel_rfl)
          · intro u W hC _
            unfold Facts.one
            go_simp
            exact ⟨Grew.refl _, rfl⟩
          simp only [Act.put, List.setIfInBounds_toArray, List.set_cons_zero, List.set_cons_succ, Nat.zero_add, Nat.reduceAdd]
        apply Facts.Lex.exact [] _ (by kernel_rfl)
        · intro u W hC _
          unfold Facts.one
          go_simp
          refine (left_any _ _ _ _ s3 (hT3.out.c.grew hC)).mono ?_
          rintro e w' ⟨rfl, rfl⟩
          exact ⟨_, rfl, Grew.refl _, rfl⟩
        simp only [Act.put, List.setIfInBounds_toArray, List.set_cons_zero, List.set_cons_succ, Nat.zero_add, Nat.reduceAdd]
        repeat
          apply Facts.Lex.exact [] _ (by kernel_rfl)
          · intro u W hC _
            unfold Facts.one
            go_simp
            exact ⟨Grew.refl _, rfl⟩
          simp only [Act.put, List.setIfInBounds_toArray, List.set_cons_zero, List.set_cons_succ, Nat.zero_add, Nat.reduceAdd]
        apply Facts.Lex.exact [] _ (by kernel_rfl)
        · intro u W hC _
          unfold Facts.one
          go_simp
          refine (rleft_any _ _ _ s3 (hT3.out.x.grew hC)).mono ?_
          rintro e w' ⟨rfl, nd, rfl⟩
          exact ⟨_, rfl, grew_drewN _ _, rfl⟩
        simp only [Act.put, List.setIfInBounds_toArray, List.set_cons_zero, List.set_cons_succ, Nat.zero_add, Nat.reduceAdd]
        repeat
          apply Facts.Lex.exact [] _ (by kernel_rfl)
          · intro u W hC _
            unfold Facts.one
            go_simp
            exact ⟨Grew.refl _, rfl⟩
          simp only [Act.put, List.setIfInBounds_toArray, List.set_cons_zero, List.set_cons_succ, Nat.zero_add, Nat.reduceAdd]
        apply Facts.Lex.exact [] _ (by kernel_rfl)
        · intro u W hC _
          unfold Facts.one
          go_simp
          refine (fault_any _ _ _ _ s3 (hT3.out.c.grew hC)).mono ?_
          rintro e w' ⟨rfl, rfl⟩
          exact ⟨_, rfl, Grew.refl _, rfl⟩
        simp only [Act.put, List.setIfInBounds_toArray, List.set_cons_zero, List.set_cons_succ, Nat.zero_add, Nat.reduceAdd]
        repeat
          apply Facts.Lex.exact [] _ (by kernel_rfl)
          · intro u W hC _
            unfold Facts.one
            go_simp
            exact ⟨Grew.refl _, rfl⟩
          simp only [Act.put, List.setIfInBounds_toArray, List.set_cons_zero, List.set_cons_succ, Nat.zero_add, Nat.reduceAdd]
        apply Facts.Lex.exact [] _ (by kernel_rfl)
        · intro u W hC _
          obtain ⟨_, _, _, _, _, hgx, _⟩ := hT3.out.x.grew hC
          have kf := cell_of_row _ _ 2 _ _ _ hgx
          unfold Facts.one
          go_simp
          exact ⟨Grew.refl _, rfl⟩
        simp only [Act.put, List.setIfInBounds_toArray, List.set_cons_zero, List.set_cons_succ, Nat.zero_add, Nat.reduceAdd]
        repeat
          apply Facts.Lex.exact [] _ (by kernel_rfl)
          · intro u W hC _
            unfold Facts.one
            go_simp
            exact ⟨Grew.refl _, rfl⟩
          simp only [Act.put, List.setIfInBounds_toArray, List.set_cons_zero, List.set_cons_succ, Nat.zero_add, Nat.reduceAdd]
        apply Facts.Lex.exact [] _ (by kernel_rfl)
        · intro u W hC _
          unfold Facts.one
          go_simp
          refine (end_any _ _ _ _ s3 (hT3.out.c.grew hC)).mono ?_
          rintro e w' ⟨rfl, rfl⟩
          exact ⟨_, rfl, Grew.refl _, rfl⟩
        simp only [Act.put, List.setIfInBounds_toArray, List.set_cons_zero, List.set_cons_succ, Nat.zero_add, Nat.reduceAdd]
        repeat
          apply Facts.Lex.exact [] _ (by kernel_rfl)
          · intro u W hC _
            unfold Facts.one
            go_simp
            exact ⟨Grew.refl _, rfl⟩
          simp only [Act.put, List.setIfInBounds_toArray, List.set_cons_zero, List.set_cons_succ, Nat.zero_add, Nat.reduceAdd]
        apply Facts.Lex.exact [] _ (by kernel_rfl)
        · intro u W hC _
          unfold Facts.one
          go_simp
          refine (rend_any _ _ _ s3 (hT3.out.x.grew hC)).mono ?_
          rintro e w' ⟨rfl, nd, rfl⟩
          exact ⟨_, rfl, grew_drewN _ _, rfl⟩
        simp only [Act.put, List.setIfInBounds_toArray, List.set_cons_zero, List.set_cons_succ, Nat.zero_add, Nat.reduceAdd]
        repeat
          apply Facts.Lex.exact [] _ (by kernel_rfl)
          · intro u W hC _
            unfold Facts.one
            go_simp
            exact ⟨Grew.refl _, rfl⟩
          simp only [Act.put, List.setIfInBounds_toArray, List.set_cons_zero, List.set_cons_succ, Nat.zero_add, Nat.reduceAdd]
        refine Facts.Lex.done fun u W hC _ => ?_
        go_wp2
        go_roundw
        case rel => exact ⟨k + 1, s3, hlt, by go_num, hT3.out.grew (Nat.le_refl _) hC, hsl3⟩
        case measure => simp [intOf]; omega
    · have hT3 := Lib.hid hT
      clear hT
      by_cases hlt2 : k < n
      · have h100 : 100 ≤ k := by omega
        have hd1 : decide (k < n) = true := by simpa using hlt2
        have hd2 : decide ((k : Int) < 100) = false := by simp; omega
        clear hlt
        go_wp2_with fail
        refine (alive_any _).mono ?_
        rintro e W1 ⟨rfl, hg1⟩
        have hT4 := Lib.hid (hT3.out.grew (Nat.le_refl _) hg1)
        clear hg1
        go_wp2_with fail
        refine (left_any _ _ _ _ s hT4.out.c).mono ?_
        rintro e w' ⟨rfl, rfl⟩
        go_wp2_with fail
        refine (rleft_any _ _ _ s hT4.out.x).mono ?_
        rintro e w' ⟨rfl, nd, rfl⟩
        have hT5 := Lib.hid (hT4.out.grew (Nat.le_refl _) (grew_drewN _ nd))
        go_wp2_with fail
        refine (end_any _ _ _ _ s hT5.out.c).mono ?_
        rintro e w' ⟨rfl, rfl⟩
        go_wp2_with fail
        refine (rend_any _ _ _ s hT5.out.x).mono ?_
        rintro e w' ⟨rfl, nd2, rfl⟩
        have hT6 := Lib.hid (hT5.out.grew (Nat.le_refl _) (grew_drewN _ nd2))
        go_wp2
        go_ret
        exact ⟨rfl, (hT4.out.grew (Nat.le_refl _) (grew_drewN _ _)).b⟩
      · have hd1 : decide (k < n) = false := by simpa using hlt2
        clear hlt
        go_wp2_with fail
        refine (alive_any _).mono ?_
        rintro e W1 ⟨rfl, hg1⟩
        have hT4 := Lib.hid (hT3.out.grew (Nat.le_refl _) hg1)
        clear hg1
        go_wp2_with fail
        refine (left_any _ _ _ _ s hT4.out.c).mono ?_
        rintro e w' ⟨rfl, rfl⟩
        go_wp2_with fail
        refine (rleft_any _ _ _ s hT4.out.x).mono ?_
        rintro e w' ⟨rfl, nd, rfl⟩
        have hT5 := Lib.hid (hT4.out.grew (Nat.le_refl _) (grew_drewN _ nd))
        go_wp2_with fail
        refine (end_any _ _ _ _ s hT5.out.c).mono ?_
        rintro e w' ⟨rfl, rfl⟩
        go_wp2_with fail
        refine (rend_any _ _ _ s hT5.out.x).mono ?_
        rintro e w' ⟨rfl, nd2, rfl⟩
        have hT6 := Lib.hid (hT5.out.grew (Nat.le_refl _) (grew_drewN _ nd2))
        go_wp2
        go_ret
        exact ⟨rfl, (hT4.out.grew (Nat.le_refl _) (grew_drewN _ _)).b⟩
end Go.Proofs.Ytekodmnhheejkab.TakesLaw
