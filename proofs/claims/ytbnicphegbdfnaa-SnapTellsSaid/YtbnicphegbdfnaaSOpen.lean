/-
  What is opened, the program's own and the document's, for every bytes.
  Conditions: those that each lemma names.
-/
import Derived.Test.YtbnicphegbdfnaaSSeal
namespace Go.Proofs.Ytbnicphegbdfnaa.SOpen
set_option maxRecDepth 100000
set_option maxRecDepth 100000
set_option maxRecDepth 100000
open Go Go.RowKit Go.Proofs.Ytbnicphegbdfnaa Go.Proofs.Ytbnicphegbdfnaa.Facts Go.Proofs.Ytbnicphegbdfnaa.Bytes Go.Proofs.Ytbnicphegbdfnaa.Puts Go.Proofs.Ytbnicphegbdfnaa.Scan Go.Proofs.Ytbnicphegbdfnaa.Take Go.Proofs.Ytbnicphegbdfnaa.Nums Go.Proofs.Ytbnicphegbdfnaa.Rscan Go.Proofs.Ytbnicphegbdfnaa.Rnums Go.Proofs.Ytbnicphegbdfnaa.SumPure Go.Proofs.Ytbnicphegbdfnaa.Sum Go.Proofs.Ytbnicphegbdfnaa.SPure Go.Proofs.Ytbnicphegbdfnaa.SSeal

theorem from_any (S : Nat → Prop) (v : Value) (l : List UInt8) (w : World) (h : Rd S w v l) (hl : l.length ≤ 140737488355328) :
    Calls Try.prog 95 #[v] w fun e w' => ∃ g, e = .returned (ptr g) ∧ SC w' w.heap.size w'.heap.size (ptr g) ⟨l, 0⟩ ∧ Grew w w' := by
  have H := Lib.hid h
  clear h
  go_enter Try.func95, Try.ntmps95
  go_wp2_with fail
  refine (clone_any S v l _ H.out hl).mono ?_
  rintro e w1 ⟨v1, rfl, hr, hg⟩
  obtain ⟨A, c, rfl, q⟩ := id hr
  have HR := Lib.hid hr
  have HG := Lib.hid hg
  clear hr hg q
  go_wp2
  go_ret
  refine ⟨w1.heap.size, rfl, .inl ⟨_, rfl, HG.out.size, by simp, Nat.le_refl _, _, heap_alloc_new _ _, ?_⟩, HG.out.trans ((Below.refl _ _).alloc (Nat.le_refl _) _)⟩
  refine (HR.out.lt.grew ((Below.refl _ _).alloc (Nat.le_refl _) _)).mono fun b hb => ⟨hb.1, ?_, by omega⟩
  have := hb.2
  simp
  omega

theorem grew_chg {w a b : World} {g : Nat} (h : Grew w a) (k : Chg (ptr g) a b) (hg : w.heap.size ≤ g) : Grew w b :=
  Below.grown h k h.size fun x hx => by cases hx; exact hg

theorem number_any (S : Nat → Prop) (v : Value) (l : List UInt8) (w : World) (h : Rd S w v l) (h1 : 1 ≤ l.length) (h8 : l.length ≤ 8) :
    Calls Try.prog 105 #[v] w fun e w' => e = .returned (.int .u64 (Sc.val l : Int)) ∧ Grew w w' := by
  obtain ⟨A, c, rfl, _⟩ := id h
  have H := Lib.hid h
  have hw : width (l.length : Int) = l.length := by unfold width; omega
  have HN : Hid (Sc.num ⟨l, 0⟩ (width (l.length : Int)) = (Sc.val l, ⟨[], 0⟩)) := Lib.hid (by
    rw [hw]; simp [Sc.num, Sc.take])
  clear h
  go_enter Try.func105, Try.ntmps105
  go_wp2_with fail
  refine (from_any S _ l _ H.out (by omega)).mono ?_
  rintro e w1 ⟨g, rfl, hs, hg⟩
  have HS := Lib.hid hs
  have HG := Lib.hid hg
  have hsz := hs.size.1
  have HSZ := Lib.hid hsz
  clear hs hg hsz
  unfold ptr
  go_wp2_with fail
  refine (num_eq w1 w.heap.size w1.heap.size _ ⟨l, 0⟩ _ _ _ HS HN).mono ?_
  rintro e w2 ⟨rfl, _, hc⟩
  go_wp2
  go_ret
  exact ⟨rfl, grew_chg HG.out hc HSZ.out⟩

/-- A cut of bytes, with its end as its room. -/
theorem cut_at {S : Nat → Prop} {w : World} {A : Option Addr} {c : Nat} {l : List UInt8} (h : Rd S w (.slice A l.length c) l) (a m : Nat) (hm : a + m ≤ l.length) (hm0 : 0 < m) (k : Nat) (hk : m ≤ k) (hk2 : a + k ≤ c) :
    Rd S w (.slice (A.map (·.add a)) m k) ((l.drop a).take m) := by
  have h1 := mid_rd h hm
  obtain ⟨A', c', e, q1, q2, q3, q4⟩ := h1
  obtain ⟨_, _, e0, p1, p2, p3, p4⟩ := id h
  injection e0 with e01 _ e02
  subst e01 e02
  have hle : ((l.drop a).take m).length = m := by rw [List.length_take, List.length_drop]; omega
  rw [if_neg (by omega)] at e
  injection e with f1 f2 f3
  subst f1 f3
  refine ⟨_, k, by rw [hle], by omega, by unfold maxLen at p2 ⊢; omega, fun hA => ?_, q4⟩
  cases hAA : A with
  | none => have := p3 hAA; omega
  | some x => rw [hAA] at hA; cases hA

set_option maxHeartbeats 2000000 in
theorem open_full (S : Nat → Prop) (ad : Addr) (c : Nat) (l : List UInt8) (w : World) (h : Rd S w (.slice (some ad) l.length c) l) (hl : l.length = 128) (hlc : l.length ≤ c) :
    Calls Try.prog 57 #[.slice (some ad) 128 c] w fun e w' => ∃ v', e = .returned (.tuple #[.int .u64 ((opened l).1 : Int), v', .int .i64 (opened l).2.2]) ∧ Rd (fun b => w.heap.size ≤ b) w' v' (opened l).2.1 ∧ Grew w w' := by
  have cut : ∀ (a m k : Nat), a + m ≤ l.length → 0 < m → m ≤ k → a + k ≤ c → Rd S w (.slice (some (ad.add a)) m k) ((l.drop a).take m) := fun a m k h1 h2 h3 h4 => cut_at h a m h1 h2 k h3 h4
  have num : ∀ (a m : Nat), a + m ≤ l.length → 0 < m → m ≤ 8 → ∀ W, Grew w W → Calls Try.prog 105 #[.slice (some (ad.add a)) m m] W fun e w' => e = .returned (.int .u64 (Sc.val ((l.drop a).take m) : Int)) ∧ Grew W w' := fun a m h1 h2 h3 W hg => by
    have hlen : ((l.drop a).take m).length = m := by rw [List.length_take, List.length_drop]; omega
    exact number_any S _ ((l.drop a).take m) W ((cut a m m h1 h2 (Nat.le_refl _) (by omega)).grew hg) (by omega) (by omega)
  have add0 : ad.add 0 = ad := by unfold Addr.add; simp
  obtain ⟨n, hn⟩ : ∃ n, n = stampOf l := ⟨_, rfl⟩
  obtain ⟨k, hk⟩ : ∃ k, k = checkOf l := ⟨_, rfl⟩
  obtain ⟨m, hm⟩ : ∃ m, m = againOf l := ⟨_, rfl⟩
  obtain ⟨X, hX⟩ : ∃ X, X = sumOf (l.take 116) := ⟨_, rfl⟩
  have H1 : Hid (∀ W, Grew w W → Calls Try.prog 105 #[.slice (some ad) 8 8] W fun e w' => e = .returned (.int .u64 (n : Int)) ∧ Grew W w') := Lib.hid (by
    have := num 0 8 (by omega) (by omega) (by omega)
    rw [add0, List.drop_zero] at this
    rw [hn]
    exact this)
  have H2 : Hid (∀ W, Grew w W → Calls Try.prog 105 #[.slice (some (ad.add 116)) 4 4] W fun e w' => e = .returned (.int .u64 (k : Int)) ∧ Grew W w') := Lib.hid (by
    have := num 116 4 (by omega) (by omega) (by omega)
    rw [hk]
    exact this)
  have H3 : Hid (∀ W, Grew w W → Calls Try.prog 105 #[.slice (some (ad.add 120)) 8 8] W fun e w' => e = .returned (.int .u64 (m : Int)) ∧ Grew W w') := Lib.hid (by
    have := num 120 8 (by omega) (by omega) (by omega)
    rw [hm]
    exact this)
  have H4 : Hid (∀ W, Grew w W → Calls Try.prog 102 #[.slice (some ad) 116 116] W fun e w' => e = .returned (.int .u32 (X.toNat : Int)) ∧ Grew W w') := Lib.hid fun W hg => by
    have hc := cut 0 116 116 (by omega) (by omega) (Nat.le_refl _) (by omega)
    rw [add0, List.drop_zero] at hc
    have := of_any S _ _ W (hc.grew hg)
    rw [hX]
    exact this
  have H5 : Hid (∀ W, Grew w W → Calls Try.prog 106 #[.slice (some (ad.add 8)) 108 108] W fun e w' => ∃ v', e = .returned v' ∧ Rd (fun b => W.heap.size ≤ b) w' v' (loadOf l) ∧ Grew W w') := Lib.hid fun W hg =>
    clone_any S _ (loadOf l) W ((cut 8 108 108 (by omega) (by omega) (Nat.le_refl _) (by omega)).grew hg) (by rw [loadOf_length l hl]; omega)
  have HX := Lib.hid (u64_of_sum X)
  have HC := Lib.hid hlc
  have hlc' : 128 ≤ c := by omega
  have hcm : c ≤ 9223372036854775807 := by
    obtain ⟨_, _, e0, p1, p2, _⟩ := h
    injection e0 with _ _ e02
    subst e02
    unfold maxLen at p2
    omega
  clear cut num add0 h
  unfold opened formed summed
  rw [if_neg (by omega), if_neg (by omega), ← hn, ← hm, ← hk, ← hX]
  clear hX hk hm hn
  generalize loadOf l = L at *
  by_cases e1 : n = m
  · subst e1
    cases hs : may n with
    | false =>
      have HS := Lib.hid hs
      clear hs
      simp only [decide_true, Bool.and_false, if_true]
      clear hl
      go_enter Try.func57, Try.ntmps57
      go_wp2_with fail
      refine (H1.out _ (Grew.refl _)).mono ?_
      rintro e w1 ⟨rfl, g1⟩
      go_wp2_with fail
      refine (H2.out _ g1).mono ?_
      rintro e w2 ⟨rfl, g2⟩
      replace g2 := g1.trans g2
      clear g1
      go_wp2_with fail
      refine (H3.out _ g2).mono ?_
      rintro e w3 ⟨rfl, g3⟩
      replace g3 := g2.trans g3
      clear g2
      go_wp2_with (go_at_call 101; refine (right_eq n false HS _).mono ?_; rintro e w' ⟨rfl, rfl⟩)
      go_returns
      exact ⟨_, rfl, Rd.nil _ _, g3⟩
    | true =>
      have HS := Lib.hid hs
      clear hs
      simp only [decide_true, Bool.and_true]
      rw [if_neg (by simp)]
      by_cases e2 : k = X.toNat
      · simp only [e2, decide_true]
        rw [if_neg (by simp)]
        clear hl
        go_enter Try.func57, Try.ntmps57
        go_wp2_with fail
        refine (H1.out _ (Grew.refl _)).mono ?_
        rintro e w1 ⟨rfl, g1⟩
        go_wp2_with fail
        refine (H2.out _ g1).mono ?_
        rintro e w2 ⟨rfl, g2⟩
        replace g2 := g1.trans g2
        clear g1
        go_wp2_with fail
        refine (H3.out _ g2).mono ?_
        rintro e w3 ⟨rfl, g3⟩
        replace g3 := g2.trans g3
        clear g2
        have hX := HX.out
        go_wp2_with (first
          | (go_at_call 101; refine (right_eq n true HS _).mono ?_; rintro e w' ⟨rfl, rfl⟩)
          | (go_at_call 102; fail))
        refine (H4.out _ g3).mono ?_
        rintro e w4 ⟨rfl, g4⟩
        replace g4 := g3.trans g4
        go_wp2_with fail
        refine (H5.out _ g4).mono ?_
        rintro e w5 ⟨v5, rfl, hr, g5⟩
        go_wp2
        go_returns
        exact ⟨_, rfl, hr.mono fun b hb => Nat.le_trans g4.size hb, g4.trans g5⟩
      · simp only [e2, decide_false]
        simp only [if_true]
        have e3 : ¬ ((k : Int) = (X.toNat : Int)) := by omega
        have HE3 := Lib.hid e3
        clear hl
        go_enter Try.func57, Try.ntmps57
        go_wp2_with fail
        refine (H1.out _ (Grew.refl _)).mono ?_
        rintro e w1 ⟨rfl, g1⟩
        go_wp2_with fail
        refine (H2.out _ g1).mono ?_
        rintro e w2 ⟨rfl, g2⟩
        replace g2 := g1.trans g2
        clear g1
        go_wp2_with fail
        refine (H3.out _ g2).mono ?_
        rintro e w3 ⟨rfl, g3⟩
        replace g3 := g2.trans g3
        clear g2
        have hX := HX.out
        go_wp2_with (first
          | (go_at_call 101; refine (right_eq n true HS _).mono ?_; rintro e w' ⟨rfl, rfl⟩)
          | (go_at_call 102; fail))
        refine (H4.out _ g3).mono ?_
        rintro e w4 ⟨rfl, g4⟩
        replace g4 := g3.trans g4
        go_wp2
        go_returns
        exact ⟨_, rfl, Rd.nil _ _, g4⟩
  · simp only [e1, decide_false, Bool.false_and, if_true]
    have e3 : ¬ ((n : Int) = (m : Int)) := by omega
    clear hl
    go_enter Try.func57, Try.ntmps57
    go_wp2_with fail
    refine (H1.out _ (Grew.refl _)).mono ?_
    rintro e w1 ⟨rfl, g1⟩
    go_wp2_with fail
    refine (H2.out _ g1).mono ?_
    rintro e w2 ⟨rfl, g2⟩
    replace g2 := g1.trans g2
    clear g1
    go_wp2_with fail
    refine (H3.out _ g2).mono ?_
    rintro e w3 ⟨rfl, g3⟩
    replace g3 := g2.trans g3
    clear g2
    go_wp2
    go_returns
    exact ⟨_, rfl, Rd.nil _ _, g3⟩

theorem open_any (S : Nat → Prop) (v : Value) (l : List UInt8) (w : World) (h : Rd S w v l) :
    Calls Try.prog 57 #[v] w fun e w' => ∃ v', e = .returned (.tuple #[.int .u64 ((opened l).1 : Int), v', .int .i64 (opened l).2.2]) ∧ Rd (fun b => w.heap.size ≤ b) w' v' (opened l).2.1 ∧ Grew w w' := by
  obtain ⟨A, c, rfl, hlc, hcm, h3, _⟩ := id h
  unfold maxLen at hcm
  by_cases h1 : l.length < 128
  · have e : opened l = (0, [], 12) := by unfold opened; rw [if_pos h1]
    rw [e]
    have h1' : (l.length : Int) < 128 := by omega
    clear h h3 e
    go_enter Try.func57, Try.ntmps57
    go_wp2
    go_returns
    exact ⟨_, rfl, Rd.nil _ _, Grew.refl _⟩
  · by_cases h2 : 128 < l.length
    · have e : opened l = (0, [], 13) := by unfold opened; rw [if_neg h1, if_pos h2]
      rw [e]
      have h1' : ¬ ((l.length : Int) < 128) := by omega
      have h2' : (128 : Int) < (l.length : Int) := by omega
      clear h h3 e
      go_enter Try.func57, Try.ntmps57
      go_wp2
      go_returns
      exact ⟨_, rfl, Rd.nil _ _, Grew.refl _⟩
    · have hl : l.length = 128 := by omega
      cases A with
      | none => have := h3 rfl; omega
      | some ad =>
        have := open_full S ad c l w h hl hlc
        rw [hl]
        exact this
end Go.Proofs.Ytbnicphegbdfnaa.SOpen
namespace Go.Proofs.Ytbnicphegbdfnaa.SOpen2
set_option maxRecDepth 100000
set_option maxRecDepth 100000
set_option maxRecDepth 100000
open Go Go.RowKit Go.Proofs.Ytbnicphegbdfnaa Go.Proofs.Ytbnicphegbdfnaa.Facts Go.Proofs.Ytbnicphegbdfnaa.Bytes Go.Proofs.Ytbnicphegbdfnaa.Puts Go.Proofs.Ytbnicphegbdfnaa.Scan Go.Proofs.Ytbnicphegbdfnaa.Take Go.Proofs.Ytbnicphegbdfnaa.Nums Go.Proofs.Ytbnicphegbdfnaa.Rscan Go.Proofs.Ytbnicphegbdfnaa.Rnums Go.Proofs.Ytbnicphegbdfnaa.SumPure Go.Proofs.Ytbnicphegbdfnaa.Sum Go.Proofs.Ytbnicphegbdfnaa.SPure Go.Proofs.Ytbnicphegbdfnaa.SSeal Go.Proofs.Ytbnicphegbdfnaa.SOpen

theorem rseal_eq (S : Nat → Prop) (v : Value) (load : List UInt8) (s : Nat) (x : List UInt8) (y : Int) (w : World) (h : Hid (Rd S w v load)) (hq : Hid (sealing s load = (x, y))) :
    Calls Try.prog 70 #[.int .u64 s, v] w fun e w' => ∃ v', e = .returned (.tuple #[v', .int .i64 y]) ∧ Rd (fun b => w.heap.size ≤ b) w' v' x ∧ Grew w w' := by
  have := rseal_any S v load s w h.out
  rwa [hq.out] at this

theorem far {S : Nat → Prop} {w w' : World} {g : Nat} {v : Value} {l : List UInt8} (h : Rd S w v l) (hc : Chg (ptr g) w w') (hS : ¬ S g) : Rd S w' v l :=
  h.keep fun b hb hs => hc.block b hb (fun e => hS (by cases e; exact hs))

set_option maxHeartbeats 4000000 in
theorem ropen_full (S : Nat → Prop) (A : Option Addr) (c : Nat) (l : List UInt8) (w : World) (h : Rd S w (.slice A l.length c) l) (hl : l.length = 128) :
    Calls Try.prog 114 #[.slice A 128 c] w fun e w' => ∃ v', e = .returned (.tuple #[.int .u64 ((opened l).1 : Int), v', .int .i64 (opened l).2.2]) ∧ Rd (fun b => b < w'.heap.size) w' v' (opened l).2.1 ∧ Grew w w' := by
  have HSTART : Hid (∀ W : World, W = w.alloc (.cells #[.slice A 128 c, .int .i64 0, .int .i64 0] 165) → RS (fun b => b < w.heap.size) W w.heap.size ⟨l, 0⟩) := Lib.hid fun W e => by
    subst e
    refine ⟨Nat.lt_irrefl _, by simp, _, l, 0, heap_alloc_new w _, ?_, Nat.zero_le _, rfl⟩
    have := (h.lt.grew ((Below.refl _ w).alloc (Nat.le_refl _) (.cells #[.slice A 128 c, .int .i64 0, .int .i64 0] 165)))
    rw [hl] at this
    exact this.mono fun b hb => hb.2
  have HB : Hid (Rd (fun b => b < w.heap.size) w (.slice A 128 c) l) := Lib.hid (by rw [hl] at h; exact h.lt.mono fun b hb => hb.2)
  obtain ⟨n, hn⟩ : ∃ n, n = stampOf l := ⟨_, rfl⟩
  obtain ⟨m, hm⟩ : ∃ m, m = againOf l := ⟨_, rfl⟩
  obtain ⟨L, hL⟩ : ∃ L, L = loadOf l := ⟨_, rfl⟩
  obtain ⟨⟨x, y⟩, hx⟩ : ∃ q, sealing n L = q := ⟨_, rfl⟩
  have N1 : Hid (Sc.num ⟨l, 0⟩ (width 8) = (n, ⟨l.drop 8, 0⟩)) := Lib.hid (by rw [width8, hn]; simp [Sc.num, Sc.take, hl, stampOf])
  have N2 : Hid (Sc.take ⟨l.drop 8, 0⟩ 108 = (L, ⟨l.drop 116, 0⟩)) := Lib.hid (by rw [hL]; simp [Sc.take, hl, loadOf])
  have N3 : Hid (Sc.take ⟨l.drop 116, 0⟩ 4 = ((l.drop 116).take 4, ⟨l.drop 120, 0⟩)) := Lib.hid (by simp [Sc.take, hl])
  have N4 : Hid (Sc.num ⟨l.drop 120, 0⟩ (width 8) = (m, ⟨l.drop 128, 0⟩)) := Lib.hid (by rw [width8, hm]; simp [Sc.num, Sc.take, hl, againOf])
  have HX := Lib.hid hx
  clear h
  by_cases e1 : n = m
  · have hop : (formed l = may n) := by unfold formed; rw [← hn, ← hm, decide_eq_true e1, Bool.true_and]
    cases hs : may n with
    | false =>
      have e : opened l = (0, [], 2) := by unfold opened; rw [if_neg (by omega), if_neg (by omega), hop, hs]; rfl
      rw [e]
      have hy : y = 1 := by
        unfold sealing at hx
        rw [hs, if_pos rfl] at hx
        injection hx with _ h2
        exact h2.symm
      subst hy
      clear e hop hs hn hm hL hx
      subst e1
      clear hl
      go_enter Try.func114, Try.ntmps114
      go_wp2_with fail
      refine (rnum_eq _ _ _ _ 8 _ _ (Lib.hid (HSTART.out _ rfl)) N1).mono ?_
      rintro e w1 ⟨rfl, r1, c1⟩
      have R1 := Lib.hid r1
      have g1 : Grew w w1 := grew_chg ((Below.refl _ w).alloc (Nat.le_refl _) _) c1 (Nat.le_refl _)
      clear r1 c1
      go_wp2_with fail
      refine (rtake_eq _ _ _ _ 108 _ _ R1 (by decide) N2).mono ?_
      rintro e w2 ⟨v2, rfl, d2, r2, c2⟩
      have R2 := Lib.hid r2
      have D2 := Lib.hid d2
      have g2 : Grew w w2 := grew_chg g1 c2 (Nat.le_refl _)
      clear r2 c2 d2 g1
      go_wp2_with fail
      refine (rtake_eq _ _ _ _ 4 _ _ R2 (by decide) N3).mono ?_
      rintro e w3 ⟨v3, rfl, _, r3, c3⟩
      have R3 := Lib.hid r3
      have D3 := Lib.hid (far D2.out c3 (Nat.lt_irrefl _))
      have g3 : Grew w w3 := grew_chg g2 c3 (Nat.le_refl _)
      clear r3 c3 g2
      go_wp2_with fail
      refine (rseal_eq _ _ _ _ _ _ w3 D3 HX).mono ?_
      rintro e w4 ⟨v4, rfl, d4, g4⟩
      have R4 := Lib.hid (R3.out.grew g4)
      have D4 := Lib.hid d4.lt
      have D34 := Lib.hid (D3.out.grew g4)
      have g4' := g3.trans g4
      clear d4
      go_wp2_with fail
      refine (rnum_eq _ _ _ _ 8 _ _ R4 N4).mono ?_
      rintro e w5 ⟨rfl, r5, c5⟩
      have hgs : w.heap.size < w3.heap.size := Nat.lt_of_lt_of_le R3.out.2.1 (Nat.le_refl _)
      have D5 := Lib.hid (far D4.out c5 (by intro hb; have := hb.1; omega))
      have D35 := Lib.hid (far D34.out c5 (Nat.lt_irrefl _))
      have g5 : Grew w w5 := grew_chg g4' c5 (Nat.le_refl _)
      clear r5 c5 hgs
      go_wp2
      go_returns
      exact ⟨_, rfl, Rd.nil _ _, g5⟩
    | true =>
      have hxy : x = sealed n L ∧ y = 0 := by
        unfold sealing at hx
        rw [hs, if_neg (by simp), if_neg (by rw [hL, loadOf_length l hl]; omega)] at hx
        injection hx with h1 h2
        exact ⟨h1.symm, h2.symm⟩
      have hre : (x = l) ↔ summed l = true := by
        rw [hxy.1, hn, hL]
        exact resealed l hl (by rw [← hn, ← hm]; exact e1)
      obtain ⟨hx0, rfl⟩ := hxy
      by_cases e2 : x = l
      · have e : opened l = (n, L, 0) := by
          unfold opened
          rw [if_neg (by omega), if_neg (by omega), hop, hs, if_neg (by simp), hre.1 e2, if_neg (by simp), hn, hL]
        rw [e]
        have E2 := Lib.hid e2
        clear e hop hs hn hm hL hx hre hx0 e2
        subst e1
        clear hl
        go_enter Try.func114, Try.ntmps114
        go_wp2_with fail
        refine (rnum_eq _ _ _ _ 8 _ _ (Lib.hid (HSTART.out _ rfl)) N1).mono ?_
        rintro e w1 ⟨rfl, r1, c1⟩
        have R1 := Lib.hid r1
        have g1 : Grew w w1 := grew_chg ((Below.refl _ w).alloc (Nat.le_refl _) _) c1 (Nat.le_refl _)
        clear r1 c1
        go_wp2_with fail
        refine (rtake_eq _ _ _ _ 108 _ _ R1 (by decide) N2).mono ?_
        rintro e w2 ⟨v2, rfl, d2, r2, c2⟩
        have R2 := Lib.hid r2
        have D2 := Lib.hid d2
        have g2 : Grew w w2 := grew_chg g1 c2 (Nat.le_refl _)
        clear r2 c2 d2 g1
        go_wp2_with fail
        refine (rtake_eq _ _ _ _ 4 _ _ R2 (by decide) N3).mono ?_
        rintro e w3 ⟨v3, rfl, _, r3, c3⟩
        have R3 := Lib.hid r3
        have D3 := Lib.hid (far D2.out c3 (Nat.lt_irrefl _))
        have g3 : Grew w w3 := grew_chg g2 c3 (Nat.le_refl _)
        clear r3 c3 g2
        go_wp2_with fail
        refine (rseal_eq _ _ _ _ _ _ w3 D3 HX).mono ?_
        rintro e w4 ⟨v4, rfl, d4, g4⟩
        have R4 := Lib.hid (R3.out.grew g4)
        have D4 := Lib.hid d4.lt
        have D34 := Lib.hid (D3.out.grew g4)
        have g4' := g3.trans g4
        clear d4
        go_wp2_with fail
        refine (rnum_eq _ _ _ _ 8 _ _ R4 N4).mono ?_
        rintro e w5 ⟨rfl, r5, c5⟩
        have hgs : w.heap.size < w3.heap.size := Nat.lt_of_lt_of_le R3.out.2.1 (Nat.le_refl _)
        have D5 := Lib.hid (far D4.out c5 (by intro hb; have := hb.1; omega))
        have D35 := Lib.hid (far D34.out c5 (Nat.lt_irrefl _))
        have g5 : Grew w w5 := grew_chg g4' c5 (Nat.le_refl _)
        clear r5 c5 hgs
        have q1 := conv22 D5.out
        rw [E2.out] at q1
        have q2 := conv22 (HB.out.grew g5)
        go_wp2
        go_returns
        exact ⟨_, rfl, D35.out.mono fun b hb => Nat.lt_of_lt_of_le hb g5.size, g5⟩
      · have e : opened l = (0, [], 14) := by
          have : summed l = false := by
            cases hq : summed l with
            | false => rfl
            | true => exact absurd (hre.2 hq) e2
          unfold opened
          rw [if_neg (by omega), if_neg (by omega), hop, hs, if_neg (by simp), this, if_pos rfl]
        rw [e]
        have E2 := Lib.hid e2
        clear e hop hs hn hm hL hx hre hx0 e2
        subst e1
        clear hl
        go_enter Try.func114, Try.ntmps114
        go_wp2_with fail
        refine (rnum_eq _ _ _ _ 8 _ _ (Lib.hid (HSTART.out _ rfl)) N1).mono ?_
        rintro e w1 ⟨rfl, r1, c1⟩
        have R1 := Lib.hid r1
        have g1 : Grew w w1 := grew_chg ((Below.refl _ w).alloc (Nat.le_refl _) _) c1 (Nat.le_refl _)
        clear r1 c1
        go_wp2_with fail
        refine (rtake_eq _ _ _ _ 108 _ _ R1 (by decide) N2).mono ?_
        rintro e w2 ⟨v2, rfl, d2, r2, c2⟩
        have R2 := Lib.hid r2
        have D2 := Lib.hid d2
        have g2 : Grew w w2 := grew_chg g1 c2 (Nat.le_refl _)
        clear r2 c2 d2 g1
        go_wp2_with fail
        refine (rtake_eq _ _ _ _ 4 _ _ R2 (by decide) N3).mono ?_
        rintro e w3 ⟨v3, rfl, _, r3, c3⟩
        have R3 := Lib.hid r3
        have D3 := Lib.hid (far D2.out c3 (Nat.lt_irrefl _))
        have g3 : Grew w w3 := grew_chg g2 c3 (Nat.le_refl _)
        clear r3 c3 g2
        go_wp2_with fail
        refine (rseal_eq _ _ _ _ _ _ w3 D3 HX).mono ?_
        rintro e w4 ⟨v4, rfl, d4, g4⟩
        have R4 := Lib.hid (R3.out.grew g4)
        have D4 := Lib.hid d4.lt
        have D34 := Lib.hid (D3.out.grew g4)
        have g4' := g3.trans g4
        clear d4
        go_wp2_with fail
        refine (rnum_eq _ _ _ _ 8 _ _ R4 N4).mono ?_
        rintro e w5 ⟨rfl, r5, c5⟩
        have hgs : w.heap.size < w3.heap.size := Nat.lt_of_lt_of_le R3.out.2.1 (Nat.le_refl _)
        have D5 := Lib.hid (far D4.out c5 (by intro hb; have := hb.1; omega))
        have D35 := Lib.hid (far D34.out c5 (Nat.lt_irrefl _))
        have g5 : Grew w w5 := grew_chg g4' c5 (Nat.le_refl _)
        clear r5 c5 hgs
        have q1 := conv22 D5.out
        have q2 := conv22 (HB.out.grew g5)
        have hne : (x == l) = false := by simpa using E2.out
        go_wp2
        go_returns
        exact ⟨_, rfl, Rd.nil _ _, g5⟩
  · have e : opened l = (0, [], 2) := by
      unfold opened formed
      rw [if_neg (by omega), if_neg (by omega), ← hn, ← hm, decide_eq_false e1, Bool.false_and]
      rfl
    rw [e]
    have e3 : ¬ ((m : Int) = (n : Int)) := by omega
    clear e hn hm hL hx e1
    clear hl
    go_enter Try.func114, Try.ntmps114
    go_wp2_with fail
    refine (rnum_eq _ _ _ _ 8 _ _ (Lib.hid (HSTART.out _ rfl)) N1).mono ?_
    rintro e w1 ⟨rfl, r1, c1⟩
    have R1 := Lib.hid r1
    have g1 : Grew w w1 := grew_chg ((Below.refl _ w).alloc (Nat.le_refl _) _) c1 (Nat.le_refl _)
    clear r1 c1
    go_wp2_with fail
    refine (rtake_eq _ _ _ _ 108 _ _ R1 (by decide) N2).mono ?_
    rintro e w2 ⟨v2, rfl, d2, r2, c2⟩
    have R2 := Lib.hid r2
    have D2 := Lib.hid d2
    have g2 : Grew w w2 := grew_chg g1 c2 (Nat.le_refl _)
    clear r2 c2 d2 g1
    go_wp2_with fail
    refine (rtake_eq _ _ _ _ 4 _ _ R2 (by decide) N3).mono ?_
    rintro e w3 ⟨v3, rfl, _, r3, c3⟩
    have R3 := Lib.hid r3
    have D3 := Lib.hid (far D2.out c3 (Nat.lt_irrefl _))
    have g3 : Grew w w3 := grew_chg g2 c3 (Nat.le_refl _)
    clear r3 c3 g2
    go_wp2_with fail
    refine (rseal_eq _ _ _ _ _ _ w3 D3 HX).mono ?_
    rintro e w4 ⟨v4, rfl, d4, g4⟩
    have R4 := Lib.hid (R3.out.grew g4)
    have D4 := Lib.hid d4.lt
    have D34 := Lib.hid (D3.out.grew g4)
    have g4' := g3.trans g4
    clear d4
    go_wp2_with fail
    refine (rnum_eq _ _ _ _ 8 _ _ R4 N4).mono ?_
    rintro e w5 ⟨rfl, r5, c5⟩
    have hgs : w.heap.size < w3.heap.size := Nat.lt_of_lt_of_le R3.out.2.1 (Nat.le_refl _)
    have D5 := Lib.hid (far D4.out c5 (by intro hb; have := hb.1; omega))
    have D35 := Lib.hid (far D34.out c5 (Nat.lt_irrefl _))
    have g5 : Grew w w5 := grew_chg g4' c5 (Nat.le_refl _)
    clear r5 c5 hgs
    go_wp2
    go_returns
    exact ⟨_, rfl, Rd.nil _ _, g5⟩

theorem ropen_any (S : Nat → Prop) (v : Value) (l : List UInt8) (w : World) (h : Rd S w v l) :
    Calls Try.prog 114 #[v] w fun e w' => ∃ v', e = .returned (.tuple #[.int .u64 ((opened l).1 : Int), v', .int .i64 (opened l).2.2]) ∧ Rd (fun b => b < w'.heap.size) w' v' (opened l).2.1 ∧ Grew w w' := by
  obtain ⟨A, c, rfl, hlc, hcm, h3, _⟩ := id h
  unfold maxLen at hcm
  by_cases h1 : l.length < 128
  · have e : opened l = (0, [], 12) := by unfold opened; rw [if_pos h1]
    rw [e]
    have h1' : (l.length : Int) < 128 := by omega
    clear h h3 e
    go_enter Try.func114, Try.ntmps114
    go_wp2
    go_returns
    exact ⟨_, rfl, Rd.nil _ _, Grew.refl _⟩
  · by_cases h2 : 128 < l.length
    · have e : opened l = (0, [], 13) := by unfold opened; rw [if_neg h1, if_pos h2]
      rw [e]
      have h1' : ¬ ((l.length : Int) < 128) := by omega
      have h2' : (128 : Int) < (l.length : Int) := by omega
      clear h h3 e
      go_enter Try.func114, Try.ntmps114
      go_wp2
      go_returns
      exact ⟨_, rfl, Rd.nil _ _, Grew.refl _⟩
    · have hl : l.length = 128 := by omega
      have := ropen_full S A c l w h hl
      rw [hl]
      exact this
end Go.Proofs.Ytbnicphegbdfnaa.SOpen2
