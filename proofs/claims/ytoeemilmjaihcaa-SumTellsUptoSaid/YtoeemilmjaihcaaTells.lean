/-
  For any two rows of bytes that are together of at most 2 to the 47 bytes: SumTells answers true.
  Conditions: none beyond those that each lemma names.
-/
import Derived.Test.YtoeemilmjaihcaaBurst
import Derived.BigFrame
namespace Go.Proofs.Ytoeemilmjaihcaa.Tells
open Go Go.RowKit Go.Proofs.Ytoeemilmjaihcaa Go.Proofs.Ytoeemilmjaihcaa.Facts Go.Proofs.Ytoeemilmjaihcaa.Bytes Go.Proofs.Ytoeemilmjaihcaa.SumPure Go.Proofs.Ytoeemilmjaihcaa.Sum Go.Proofs.Ytoeemilmjaihcaa.Alive Go.Proofs.Ytoeemilmjaihcaa.Even Go.Proofs.Ytoeemilmjaihcaa.Burst

theorem run_app2 (W : World) (base : Nat) (v : Value) (A : Option Addr) (c : Nat) (l0 l : List UInt8) (S : Nat → Prop) (hown : W.ownsRow base 5 1 v l0.length (bv l0)) (hr : Rd S W (.slice A l.length c) l) (hl : l0.length + l.length ≤ 140737488355328) (hb : base ≤ W.heap.size) :
    ∃ v' w', (Builtin.append_ #[22, 22] 22 #[v, .slice A l.length c]).run Try.prog W = .ok v' w' ∧ w'.ownsRow base 5 1 v' (l0 ++ l).length (bv (l0 ++ l)) ∧ Below base W w' := by
  obtain ⟨i0, hi, hx⟩ := Option.map_eq_some_iff.1 info5
  simp only [Prod.mk.injEq] at hx
  obtain ⟨hz0, hz1, hz2⟩ := hx
  obtain ⟨A', c', e, h1, h2, h3, h4⟩ := hr
  injection e with e1 _ e3
  subst e1 e3
  cases A with
  | none =>
    have h0 := h3 rfl
    have : l = [] := List.eq_nil_of_length_eq_zero (by omega)
    subst this
    subst h0
    rw [List.append_nil]
    exact ⟨v, W, run_append_owned_none W base 22 22 5 i0 1 Try.underlying22 hi v _ _ hown, hown, Below.refl _ _⟩
  | some ad =>
    obtain ⟨v', w', hr, h5, h6, _⟩ := run_append_own (P := Try.prog) W base 22 22 5 i0 (.int .u8 0) 1 1 Try.underlying22 hi hz0 hz1 hz2 rfl Nat.one_pos v l0.length (bv l0) hown ad l.length c (bv l) (by rw [bv_length]; omega) (h4 ad rfl).2 (bv_one l) (by unfold maxLen; omega) (by omega) hb
    refine ⟨v', w', hr, by rw [List.length_append, bv_append]; exact h5, below_of_grown W h6 hb fun k hk => ?_⟩
    rcases hown.2 with ⟨rfl, _⟩ | ⟨g, cap, cur, rfl, hg, _⟩
    · simp [Value.ownBlock] at hk
    · simp [Value.ownBlock] at hk
      omega

theorem wpList_app_want {P : Program} {w : World} {ops : Array Oper} {rest : List Oper} {o : Oper} {ac : Act} {Q : Exit → Act → World → Prop} (s x : Operand) (t : TypeId)
    (ho : o.op = .call { callee := .builtin .append, args := #[s, x], argTypes := #[t, t] }) (hgd : Region.wanted o (yielded ops ac.tmps) = true) (vs vx : Value) (hs : ac.eval s = vs) (hx : ac.eval x = vx) (v' : Value) (w' : World)
    (hr : (Builtin.append_ #[t, t] o.type #[vs, vx]).run P w = .ok v' w') (hK : wpList P ops Q rest (ac.put o.dst v') w') : wpList P ops Q (o :: rest) ac w := by
  refine BigFrame.wpList_want hgd fun _ hK' => ?_
  unfold Oper.wp execOp
  simp only [ho, resolve, invoke, builtin, Sem.run_bind, Sem.run_pure, Result.andThen_ok, List.map_toArray, List.map_cons, List.map_nil, hs, hx, hr]
  exact hK' _ _ hK

set_option maxRecDepth 100000 in
set_option maxHeartbeats 2000000 in
theorem law_any (S : Nat → Prop) (v v' : Value) (a b : List UInt8) (w : World) (ha : Rd S w v a) (hb : Rd S w v' b) (hl : a.length + b.length ≤ 140737488355328) :
    Calls Try.prog 3 #[v, v'] w fun e w' => e = .returned (.bool true) ∧ Grew w w' := by
  obtain ⟨A, ca, rfl, hac, ham, _⟩ := id ha
  obtain ⟨B, cb, rfl, hbc, hbm, _⟩ := id hb
  unfold maxLen at ham hbm
  have HA := Lib.hid ha
  have HB := Lib.hid hb
  obtain ⟨x, hx⟩ : ∃ x, x = ((sumOf a).toNat : Int) := ⟨_, rfl⟩
  obtain ⟨y, hy⟩ : ∃ y, y = ((sumOf (a ++ b)).toNat : Int) := ⟨_, rfl⟩
  obtain ⟨s, hs⟩ : ∃ s, s = short (sumOf a) := ⟨_, rfl⟩
  have H1 : Hid (∀ W, Grew w W → Calls Try.prog 8 #[.slice A a.length ca] W fun e w' => e = .returned (.int .u32 x) ∧ Grew W w') := Lib.hid fun W hg => by
    have := of_any S _ _ W (ha.grew hg)
    rw [← hx] at this
    exact this
  have H2 : Hid (∀ W, Grew w W → Calls Try.prog 9 #[.slice A a.length ca] W fun e w' => e = .returned (.int .u32 x) ∧ Grew W w') := Lib.hid fun W hg => by
    have := rof_any S _ _ W (by omega) (ha.grew hg)
    rw [← hx] at this
    exact this
  have H3 : Hid (∀ W, Grew w W → Calls Try.prog 10 #[.slice A a.length ca] W fun e w' => e = .returned (.int .u16 s) ∧ Grew W w') := Lib.hid fun W hg => by
    have := short_any S _ _ W (ha.grew hg)
    rw [← hs] at this
    exact this
  have H4 : Hid (∀ W, Grew w W → Calls Try.prog 11 #[.slice A a.length ca] W fun e w' => e = .returned (.int .u16 s) ∧ Grew W w') := Lib.hid fun W hg => by
    have := rshort_any S _ _ W (by omega) (ha.grew hg)
    rw [← hs] at this
    exact this
  have H5 : Hid (∀ W, Grew w W → Calls Try.prog 12 #[.int .u32 x, .slice B b.length cb] W fun e w' => e = .returned (.int .u32 y) ∧ Grew W w') := Lib.hid fun W hg => by
    have := on_any S (sumOf a) _ _ W (hb.grew hg)
    rw [goes_on, ← hx, ← hy] at this
    exact this
  have H6 : Hid (∀ W u, Rd (fun _ => True) W u (a ++ b) → Calls Try.prog 9 #[u] W fun e w' => e = .returned (.int .u32 y) ∧ Grew W w') := Lib.hid fun W u hg => by
    have := rof_any _ _ _ W (by rw [List.length_append]; omega) hg
    rw [← hy] at this
    exact this
  clear ha hb hx hy hs
  go_enter Try.func3, Try.ntmps3
  go_wp2_with fail
  refine (alive_any _).mono ?_
  rintro e W1 ⟨rfl, g⟩
  go_wp2_with fail
  refine (H1.out _ g).mono ?_
  rintro e W2 ⟨rfl, g2⟩
  replace g := g.trans g2
  clear g2
  go_wp2_with fail
  refine (H2.out _ g).mono ?_
  rintro e W3 ⟨rfl, g3⟩
  replace g := g.trans g3
  clear g3
  go_wp2_with fail
  refine (H3.out _ g).mono ?_
  rintro e W4 ⟨rfl, g4⟩
  replace g := g.trans g4
  clear g4
  go_wp2_with fail
  refine (H4.out _ g).mono ?_
  rintro e W5 ⟨rfl, g5⟩
  replace g := g.trans g5
  clear g5
  go_wp2_with fail
  refine (H2.out _ g).mono ?_
  rintro e W6 ⟨rfl, g6⟩
  replace g := g.trans g6
  clear g6
  go_wp2_with fail
  refine (H5.out _ g).mono ?_
  rintro e W7 ⟨rfl, g7⟩
  replace g := g.trans g7
  clear g7
  have hown : (W7.alloc (.cells #[] 5)).ownsRow W7.heap.size 5 1 (.slice (some ⟨W7.heap.size, 0, none⟩) 0 0) ([] : List UInt8).length (bv []) :=
    ⟨rfl, .inr ⟨W7.heap.size, 0, #[], rfl, Nat.le_refl _, heap_alloc_new W7 _, Nat.le_refl _, Nat.zero_le _, rfl, rfl⟩⟩
  have ga : Grew W7 (W7.alloc (.cells #[] 5)) := by unfold Grew; go_grown
  obtain ⟨v8, w8, h8, hown8, hb8⟩ := run_app2 _ W7.heap.size _ A ca [] a S hown (HA.out.grew (g.trans ga)) (by simp; omega) (by simp)
  rw [List.nil_append] at hown8
  have g8 : Grew W7 w8 := (show Below W7.heap.size W7 (W7.alloc (.cells #[] 5)) from ga).trans hb8
  obtain ⟨v9, w9, h9, hown9, hb9⟩ := run_app2 w8 W7.heap.size v8 B cb a b S hown8 (HB.out.grew (g.trans g8)) hl (Nat.le_trans (by simp) hb8.size)
  have g9 : Grew W7 w9 := (show Below W7.heap.size W7 w8 from g8).trans hb9
  have HR : Hid (Rd (fun _ => True) w9 v9 (a ++ b)) := Lib.hid ((Rd.of_own hown9 rfl).mono fun _ _ => trivial)
  have HAPP := Lib.hid h8
  have HAPP2 := Lib.hid h9
  have HG := Lib.hid (g.trans g9)
  clear hown ga hown8 hb8 g8 hown9 hb9 g9 h8 h9 g
  go_wp2_with (at_builtin; first
    | refine wpList_app_want (.tmp 25) (.tmp 26) 22 (by rfl) (by rfl) _ _ rfl rfl v8 w8 (by exact HAPP.out) ?_
    | refine wpList_app_want (.tmp 27) (.tmp 28) 22 (by rfl) (by rfl) _ _ rfl rfl v9 w9 (by exact HAPP2.out) ?_)
  refine (H6.out _ _ HR.out).mono ?_
  rintro e W10 ⟨rfl, g10⟩
  go_wp2
  go_returns
  exact ⟨rfl, HG.out.trans g10⟩
end Go.Proofs.Ytoeemilmjaihcaa.Tells
