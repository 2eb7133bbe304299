/-
  Numbers, texts, rules and what is left, of the document's own scan, walked.
  Conditions: the bytes are at most 2 to the 47.
-/
import Derived.Test.YtmegdgeiikhflaaGreatRscan
namespace Go.Proofs.YtmegdgeiikhflaaGreat.Rnums
set_option maxRecDepth 100000
set_option maxRecDepth 100000
open Go Go.RowKit Go.Proofs.YtmegdgeiikhflaaGreat Go.Proofs.YtmegdgeiikhflaaGreat.Facts Go.Proofs.YtmegdgeiikhflaaGreat.Bytes Go.Proofs.YtmegdgeiikhflaaGreat.Puts Go.Proofs.YtmegdgeiikhflaaGreat.Refs Go.Proofs.YtmegdgeiikhflaaGreat.Scan Go.Proofs.YtmegdgeiikhflaaGreat.Take Go.Proofs.YtmegdgeiikhflaaGreat.Nums Go.Proofs.YtmegdgeiikhflaaGreat.Rscan

theorem rtake_any (S : Nat → Prop) (w : World) (g : Nat) (s : Sc) (n : Int) (hn : n ≤ 9223372036854775807) (h : RS S w g s) :
    Calls Tryz.prog 141 #[ptr g, .int .i64 n] w fun e w' => ∃ v, e = .returned v ∧ Rd S w' v (s.take (max n 0).toNat).1 ∧ RS S w' g (s.take (max n 0).toNat).2 ∧ Chg (ptr g) w w' :=
  rtake_core S w g s n (max n 0).toNat (by omega) (by omega) h

theorem rtake_eq (S : Nat → Prop) (w : World) (g : Nat) (s : Sc) (n : Nat) (t : List UInt8) (s1 : Sc) (h : Hid (RS S w g s)) (hn : n ≤ 9223372036854775807) (ht : Hid (s.take n = (t, s1))) :
    Calls Tryz.prog 141 #[.pointer (some ⟨g, 0, none⟩), .int .i64 n] w fun e w' => ∃ v, e = .returned v ∧ Rd S w' v t ∧ RS S w' g s1 ∧ Chg (ptr g) w w' := by
  have := rtake_core S w g s n n (by omega) hn h.out
  rwa [ht.out] at this

theorem rnum_any (S : Nat → Prop) (w : World) (g : Nat) (s : Sc) (size : Int) (h : RS S w g s) :
    Calls Tryz.prog 78 #[ptr g, .int .i64 size] w fun e w' => e = .returned (.int .u64 ((s.num (width size)).1 : Int)) ∧ RS S w' g (s.num (width size)).2 ∧ Chg (ptr g) w w' := by
  have hw := width_pos size
  generalize hK : width size = K at *
  have HK := Lib.hid hK
  have H := Lib.hid h
  have hlen := take_len s K
  obtain ⟨⟨t, s1⟩, ht⟩ : ∃ q, s.take K = q := ⟨_, rfl⟩
  rw [ht] at hlen
  have HT := Lib.hid ht
  clear hK h ht
  dsimp only at hlen
  unfold ptr
  go_enter Tryz.func78, Tryz.ntmps78
  go_wp2_with (go_at_call 142; refine (size_at _ _ HK _).mono ?_; rintro e w' ⟨rfl, rfl⟩)
  go_wp2_with fail
  refine (rtake_eq S _ g s K t s1 H (by omega) HT).mono ?_
  rintro e w1 ⟨v, rfl, hr, hs1, hc1⟩
  obtain ⟨A, c, rfl, r1, r2, r3, r4⟩ := id hr
  have HS := Lib.hid hs1
  have HC := Lib.hid hc1
  have HR := Lib.hid hr
  unfold maxLen at r2
  clear r4 r3 hs1 hc1 hr
  go_wp2
  go_loop [6, 7] (fun n i => ∃ k : Nat, k ≤ t.length ∧ i = .int .i64 k ∧ n = .int .u64 (Sc.val (t.take k) : Int)) (fun _ i => t.length - (intOf i).toNat)
  case atStart => exact ⟨0, Nat.zero_le _, rfl, by simp [Sc.val]⟩
  case round =>
    obtain ⟨k, hk, rfl, rfl⟩ := hrel
    by_cases hlt : k < t.length
    · obtain ⟨ad, c', e, hcc, hcell⟩ := HR.out.cell hlt
      injection e with e1 _ e3
      subst e1 e3
      have hN := val_small t k (by omega)
      generalize hNN : Sc.val (t.take k) = N at *
      have HN := Lib.hid hNN
      have hb256 : (t[k]?.getD 0).toNat < 256 := UInt8.toNat_lt _
      generalize hb : (t[k]?.getD 0).toNat = b at *
      have HB := Lib.hid hb
      clear hNN hb
      go_wp2
      go_round
      case rel =>
        refine ⟨k + 1, hlt, by go_num, ?_⟩
        rw [take_snoc t k hlt, val_snoc, HN.out, HB.out]
        go_num
      case measure => simp [intOf]; omega
    · have hkt : k = t.length := by omega
      have HKT := Lib.hid hkt
      clear hkt
      go_wp2
      go_ret
      have e : s.num K = (Sc.val t, s1) := by simp [Sc.num, HT.out]
      rw [e, HKT.out, List.take_length]
      exact ⟨rfl, HS.out, HC.out⟩

theorem rnum_eq (S : Nat → Prop) (w : World) (g : Nat) (s : Sc) (size : Int) (n : Nat) (s1 : Sc) (h : Hid (RS S w g s)) (hs : Hid (s.num (width size) = (n, s1))) :
    Calls Tryz.prog 78 #[.pointer (some ⟨g, 0, none⟩), .int .i64 size] w fun e w' => e = .returned (.int .u64 (n : Int)) ∧ RS S w' g s1 ∧ Chg (ptr g) w w' := by
  have := rnum_any S w g s size h.out
  rwa [hs.out] at this

theorem rend_any (S : Nat → Prop) (w : World) (g : Nat) (s : Sc) (h : RS S w g s) : Calls Tryz.prog 81 #[ptr g] w fun e w' => e = .returned (.int .i64 s.fin) ∧ ∃ n, w' = w.drewN n := by
  obtain ⟨h0, h1, v, full, a, hg, ⟨A, c, rfl, r1, r2, r3, r4⟩, ha, hl⟩ := h
  have c0 := cell_of_row _ _ 0 _ _ _ hg
  have c1 := cell_of_row _ _ 1 _ _ _ hg
  have c2 := cell_of_row _ _ 2 _ _ _ hg
  unfold ptr
  unfold maxLen at r2
  by_cases he : s.e = 0
  · have hb : (s.e == 0) = true := by simpa using he
    have hL : s.left = full.length - a := by simp only [Sc.left, he, if_true, hl, List.length_drop]
    by_cases hlt : a < full.length
    · have hF : Hid (s.fin = 13) := by show _ = _; simp only [Sc.fin, hL]; rw [if_pos (by omega)]
      have hd : decide (a < full.length) = true := by simpa using hlt
      clear h0 h1 hg hl r3 r4 he hL
      go_enter Tryz.func81, Tryz.ntmps81
      go_wp2
      go_quiet (fail)
      go_wp2
      go_ret
      exact ⟨ret_int hF.out.symm, _, rfl⟩
    · have hF : Hid (s.fin = s.e) := by show _ = _; simp only [Sc.fin, hL]; rw [if_neg (by omega)]
      have hd : decide (a < full.length) = false := by simpa using hlt
      clear h0 h1 hg hl r3 r4 he hL
      go_enter Tryz.func81, Tryz.ntmps81
      go_wp2
      go_quiet (fail)
      go_wp2
      go_ret
      exact ⟨ret_int hF.out.symm, _, rfl⟩
  · have hb : (s.e == 0) = false := by simpa using he
    have hF : Hid (s.fin = s.e) := by show _ = _; simp [Sc.fin, Sc.left, he]
    clear h0 h1 hg hl r3 r4 he
    go_enter Tryz.func81, Tryz.ntmps81
    go_wp2
    go_quiet (fail)
    go_wp2
    go_ret
    exact ⟨ret_int hF.out.symm, _, rfl⟩

theorem rrule_any (S : Nat → Prop) (w : World) (g : Nat) (s : Sc) (ok : Bool) (x : Int) (h : RS S w g s) : Calls Tryz.prog 80 #[ptr g, .bool ok, .int .i64 x] w fun e w' => e = .returned (.tuple #[]) ∧ RS S w' g (s.rule ok x) ∧ Chg (ptr g) w w' := by
  have H := Lib.hid h
  obtain ⟨h0, h1, v, full, a, hg, hr, ha, hl⟩ := h
  have c2 := cell_of_row _ _ 2 _ _ _ hg
  have f2 := frozen_of_row w g 2 _ _ hg
  unfold ptr
  cases ok with
  | true =>
    have HR : Hid (s.rule true x = s) := by show _ = _; simp [Sc.rule]
    clear h0 h1 hg hl hr
    go_enter Tryz.func80, Tryz.ntmps80
    go_wp2
    go_end0
    exact ⟨rfl, by rw [HR.out]; exact H.out, Chg.refl _ _⟩
  | false =>
    by_cases he : s.e = 0
    · have HR : Hid (s.rule false x = ⟨s.l, x⟩) := by show _ = _; simp [Sc.rule, he]
      have hb : (s.e == 0) = true := by simpa using he
      have HG := Lib.hid hg
      have HRd := Lib.hid hr
      have HL := Lib.hid hl
      have Hh0 := Lib.hid h0
      have Hh1 := Lib.hid h1
      clear h0 h1 hg hl hr he
      go_enter Tryz.func80, Tryz.ntmps80
      go_wp2
      go_end0
      refine ⟨rfl, ?_, Chg.set _ _ _ _⟩
      rw [HR.out]
      refine ⟨Hh0.out, by simpa [World.setCell] using Hh1.out, v, full, a, ?_, HRd.out.keep fun b _ hb => heap_setCell_other w ⟨g, 2, none⟩ b _ (fun e => Hh0.out (by have e' : b = g := e; rw [← e']; exact hb)), ha, HL.out⟩
      rw [heap_setCell_same _ _ _ _ _ _ HG.out]
      rfl
    · have HR : Hid (s.rule false x = s) := by show _ = _; simp [Sc.rule, he]
      have hb : (s.e == 0) = false := by simpa using he
      clear h0 h1 hg hl hr he
      go_enter Tryz.func80, Tryz.ntmps80
      go_wp2
      go_end0
      exact ⟨rfl, by rw [HR.out]; exact H.out, Chg.refl _ _⟩

theorem set_fault {S : Nat → Prop} {w : World} {g : Nat} {s : Sc} (x : Int) (h : RS S w g s) : RS S (w.setCell ⟨g, 2, none⟩ (.int .i64 x)) g ⟨s.l, x⟩ := by
  obtain ⟨h0, h1, v, full, a, hg, hr, ha, hl⟩ := h
  refine ⟨h0, by simpa [World.setCell] using h1, v, full, a, ?_, hr.keep fun b _ hb => heap_setCell_other w ⟨g, 2, none⟩ b _ (fun e => h0 (by have e' : b = g := e; rw [← e']; exact hb)), ha, hl⟩
  rw [heap_setCell_same _ _ _ _ _ _ hg]
  rfl

theorem num_lt (s : Sc) (n : Nat) (s1 : Sc) (hn : s.num (width 1) = (n, s1)) : n < 256 := by
  have e : n = Sc.val ((s.take (width 1)).1) := (congrArg Prod.fst hn).symm
  have h1 := take_len s (width 1)
  have h2 := val_lt (s.take (width 1)).1 1
  rw [List.take_of_length_le (by have : width 1 = 1 := by decide
                                 omega)] at h2
  omega

theorem rtext_any (S : Nat → Prop) (w : World) (g : Nat) (s : Sc) (most : Int) (h : RS S w g s) :
    Calls Tryz.prog 79 #[ptr g, .int .i64 most] w fun e w' => e = .returned (.string ⟨(s.text most).1.toArray⟩) ∧ RS S w' g (s.text most).2 ∧ Chg (ptr g) w w' := by
  unfold ptr
  have H := Lib.hid h
  obtain ⟨⟨n, s1⟩, hn⟩ : ∃ q, s.num (width 1) = q := ⟨_, rfl⟩
  obtain ⟨s2, hs2⟩ : ∃ q, s1.rule (decide ((n : Int) ≤ most)) 2 = q := ⟨_, rfl⟩
  obtain ⟨⟨t, s3⟩, ht⟩ : ∃ q, s2.take n = q := ⟨_, rfl⟩
  have hT : s.text most = (t, s3) := by
    have e1 : s.num 1 = (n, s1) := hn
    simp only [Sc.text, e1, hs2, ht]
  have hn8 := num_lt s n s1 hn
  have HN := Lib.hid hn
  have HT := Lib.hid ht
  have HTT := Lib.hid hT
  have HS2 := Lib.hid hs2
  clear h hn ht hT hs2
  by_cases he : s1.e = 0
  · have hb : (s1.e == 0) = true := by simpa using he
    by_cases hm : most < n
    · have hd : decide (most < (n : Int)) = true := by simpa using hm
      have e2 : Hid (s2 = ⟨s1.l, 2⟩) := by
        show _ = _
        have hd' : decide ((n : Int) ≤ most) = false := by simp; omega
        rw [← HS2.out, hd']
        simp [Sc.rule, he]
      clear he
      go_enter Tryz.func79, Tryz.ntmps79
      go_wp2_with fail
      refine (rnum_eq S _ g s 1 n s1 H HN).mono ?_
      rintro e w1 ⟨rfl, h1, c1⟩
      obtain ⟨_, _, _, _, _, hg, _⟩ := id h1
      have c2 := cell_of_row _ _ 2 _ _ _ hg
      have f2 := frozen_of_row w1 g 2 _ _ hg
      have H1 := Lib.hid h1
      have C1 := Lib.hid c1
      clear h1 c1 hg
      go_wp2_with fail
      have HA : Hid (RS S (w1.setCell ⟨g, 2, none⟩ (.int .i64 2)) g s2) := by
        rw [e2.out]
        exact set_fault 2 H1.out
      refine (rtake_eq S _ g s2 n t s3 HA (by omega) HT).mono ?_
      rintro e w3 ⟨v, rfl, hr, h3, c3⟩
      have hcv := conv22 hr
      have H3 := Lib.hid h3
      have C3 := Lib.hid c3
      clear h3 c3 hr
      go_wp2
      go_ret
      rw [HTT.out]
      exact ⟨rfl, H3.out, (C1.out.trans (Chg.set _ _ _ _)).trans C3.out⟩
    · have hd : decide (most < (n : Int)) = false := by simpa using hm
      have e2 : Hid (s2 = s1) := by
        show _ = _
        have hd' : decide ((n : Int) ≤ most) = true := by simp; omega
        rw [← HS2.out, hd']
        simp [Sc.rule]
      clear he hm
      go_enter Tryz.func79, Tryz.ntmps79
      go_wp2_with fail
      refine (rnum_eq S _ g s 1 n s1 H HN).mono ?_
      rintro e w1 ⟨rfl, h1, c1⟩
      obtain ⟨_, _, _, _, _, hg, _⟩ := id h1
      have c2 := cell_of_row _ _ 2 _ _ _ hg
      have HA : Hid (RS S w1 g s2) := by rw [e2.out]; exact h1
      have C1 := Lib.hid c1
      clear h1 c1 hg
      go_wp2_with fail
      refine (rtake_eq S _ g s2 n t s3 HA (by omega) HT).mono ?_
      rintro e w3 ⟨v, rfl, hr, h3, c3⟩
      have hcv := conv22 hr
      have H3 := Lib.hid h3
      have C3 := Lib.hid c3
      clear h3 c3 hr
      go_wp2
      go_ret
      rw [HTT.out]
      exact ⟨rfl, H3.out, C1.out.trans C3.out⟩
  · have hb : (s1.e == 0) = false := by simpa using he
    have e2 : Hid (s2 = s1) := by
      show _ = _
      rw [← HS2.out]
      simp [Sc.rule, he]
    clear he
    go_enter Tryz.func79, Tryz.ntmps79
    go_wp2_with fail
    refine (rnum_eq S _ g s 1 n s1 H HN).mono ?_
    rintro e w1 ⟨rfl, h1, c1⟩
    obtain ⟨_, _, _, _, _, hg, _⟩ := id h1
    have c2 := cell_of_row _ _ 2 _ _ _ hg
    have HA : Hid (RS S w1 g s2) := by rw [e2.out]; exact h1
    have C1 := Lib.hid c1
    clear h1 c1 hg
    go_wp2_with fail
    refine (rtake_eq S _ g s2 n t s3 HA (by omega) HT).mono ?_
    rintro e w3 ⟨v, rfl, hr, h3, c3⟩
    have hcv := conv22 hr
    have H3 := Lib.hid h3
    have C3 := Lib.hid c3
    clear h3 c3 hr
    go_wp2
    go_ret
    rw [HTT.out]
    exact ⟨rfl, H3.out, C1.out.trans C3.out⟩
end Go.Proofs.YtmegdgeiikhflaaGreat.Rnums
