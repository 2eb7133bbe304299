/-
  Numbers, texts, rules and what is left, of the document's own scan, walked.
  Conditions: the bytes are at most 2 to the 47.
-/
import Derived.Test.YtmnfajplfnfgpabRscan
namespace Go.Proofs.Ytmnfajplfnfgpab.Rnums
set_option maxRecDepth 100000
set_option maxRecDepth 100000
set_option maxRecDepth 100000
open Go Go.RowKit Go.Proofs.Ytmnfajplfnfgpab Go.Proofs.Ytmnfajplfnfgpab.Facts Go.Proofs.Ytmnfajplfnfgpab.Bytes Go.Proofs.Ytmnfajplfnfgpab.Puts Go.Proofs.Ytmnfajplfnfgpab.Refs Go.Proofs.Ytmnfajplfnfgpab.Scan Go.Proofs.Ytmnfajplfnfgpab.Take Go.Proofs.Ytmnfajplfnfgpab.Nums Go.Proofs.Ytmnfajplfnfgpab.Rscan

theorem rtake_any (S : Nat → Prop) (w : World) (g : Nat) (s : Sc) (n : Int) (hn : n ≤ 9223372036854775807) (h : RS S w g s) :
    Calls Try.prog 50 #[ptr g, .int .i64 n] w fun e w' => ∃ v, e = .returned v ∧ Rd S w' v (s.take (max n 0).toNat).1 ∧ RS S w' g (s.take (max n 0).toNat).2 ∧ Chg (ptr g) w w' :=
  rtake_core S w g s n (max n 0).toNat (by omega) (by omega) h

theorem rtake_eq (S : Nat → Prop) (w : World) (g : Nat) (s : Sc) (n : Nat) (t : List UInt8) (s1 : Sc) (h : Hid (RS S w g s)) (hn : n ≤ 9223372036854775807) (ht : Hid (s.take n = (t, s1))) :
    Calls Try.prog 50 #[.pointer (some ⟨g, 0, none⟩), .int .i64 n] w fun e w' => ∃ v, e = .returned v ∧ Rd S w' v t ∧ RS S w' g s1 ∧ Chg (ptr g) w w' := by
  have := rtake_core S w g s n n (by omega) hn h.out
  rwa [ht.out] at this

theorem rnum_any (S : Nat → Prop) (w : World) (g : Nat) (s : Sc) (size : Int) (h : RS S w g s) :
    Calls Try.prog 29 #[ptr g, .int .i64 size] w fun e w' => e = .returned (.int .u64 ((s.num (width size)).1 : Int)) ∧ RS S w' g (s.num (width size)).2 ∧ Chg (ptr g) w w' := by
  have hw := width_pos size
  generalize hK : width size = K at *
  have HK := Lib.hid hK
  have H := Lib.hid h
  have hlen := take_len s K
  obtain ⟨⟨t, s1⟩, ht⟩ : ∃ q, s.take K = q := ⟨_, rfl⟩
  rw [ht] at hlen
  have HT := Lib.hid ht
  clear hK h ht
  dsimp only at hlen
  unfold ptr
  go_enter Try.func29, Try.ntmps29
  go_wp2_with (go_at_call 51; refine (size_at _ _ HK _).mono ?_; rintro e w' ⟨rfl, rfl⟩)
  go_wp2_with fail
  refine (rtake_eq S _ g s K t s1 H (by omega) HT).mono ?_
  rintro e w1 ⟨v, rfl, hr, hs1, hc1⟩
  obtain ⟨A, c, rfl, r1, r2, r3, r4⟩ := id hr
  have HS := Lib.hid hs1
  have HC := Lib.hid hc1
  have HR := Lib.hid hr
  unfold maxLen at r2
  clear r4 r3 hs1 hc1 hr
  go_wp2
  go_loop [6, 7] (fun n i => ∃ k : Nat, k ≤ t.length ∧ i = .int .i64 k ∧ n = .int .u64 (Sc.val (t.take k) : Int)) (fun _ i => t.length - (intOf i).toNat)
  case atStart => exact ⟨0, Nat.zero_le _, rfl, by simp [Sc.val]⟩
  case round =>
    obtain ⟨k, hk, rfl, rfl⟩ := hrel
    by_cases hlt : k < t.length
    · obtain ⟨ad, c', e, hcc, hcell⟩ := HR.out.cell hlt
      injection e with e1 _ e3
      subst e1 e3
      have hN := val_small t k (by omega)
      generalize hNN : Sc.val (t.take k) = N at *
      have HN := Lib.hid hNN
      have hb256 : (t[k]?.getD 0).toNat < 256 := UInt8.toNat_lt _
      generalize hb : (t[k]?.getD 0).toNat = b at *
      have HB := Lib.hid hb
      clear hNN hb
      go_wp2
      go_round
      case rel =>
        refine ⟨k + 1, hlt, by go_num, ?_⟩
        rw [take_snoc t k hlt, val_snoc, HN.out, HB.out]
        go_num
      case measure => simp [intOf]; omega
    · have hkt : k = t.length := by omega
      have HKT := Lib.hid hkt
      clear hkt
      go_wp2
      go_ret
      have e : s.num K = (Sc.val t, s1) := by simp [Sc.num, HT.out]
      rw [e, HKT.out, List.take_length]
      exact ⟨rfl, HS.out, HC.out⟩

theorem rnum_eq (S : Nat → Prop) (w : World) (g : Nat) (s : Sc) (size : Int) (n : Nat) (s1 : Sc) (h : Hid (RS S w g s)) (hs : Hid (s.num (width size) = (n, s1))) :
    Calls Try.prog 29 #[.pointer (some ⟨g, 0, none⟩), .int .i64 size] w fun e w' => e = .returned (.int .u64 (n : Int)) ∧ RS S w' g s1 ∧ Chg (ptr g) w w' := by
  have := rnum_any S w g s size h.out
  rwa [hs.out] at this

theorem rend_any (S : Nat → Prop) (w : World) (g : Nat) (s : Sc) (h : RS S w g s) : Calls Try.prog 30 #[ptr g] w fun e w' => e = .returned (.int .i64 s.fin) ∧ ∃ n, w' = w.drewN n := by
  obtain ⟨h0, h1, v, full, a, hg, ⟨A, c, rfl, r1, r2, r3, r4⟩, ha, hl⟩ := h
  have c0 := cell_of_row _ _ 0 _ _ _ hg
  have c1 := cell_of_row _ _ 1 _ _ _ hg
  have c2 := cell_of_row _ _ 2 _ _ _ hg
  unfold ptr
  unfold maxLen at r2
  by_cases he : s.e = 0
  · have hb : (s.e == 0) = true := by simpa using he
    have hL : s.left = full.length - a := by simp only [Sc.left, he, if_true, hl, List.length_drop]
    by_cases hlt : a < full.length
    · have hF : Hid (s.fin = 13) := by show _ = _; simp only [Sc.fin, hL]; rw [if_pos (by omega)]
      have hd : decide (a < full.length) = true := by simpa using hlt
      clear h0 h1 hg hl r3 r4 he hL
      go_enter Try.func30, Try.ntmps30
      go_wp2
      go_quiet (fail)
      go_wp2
      go_ret
      exact ⟨ret_int hF.out.symm, _, rfl⟩
    · have hF : Hid (s.fin = s.e) := by show _ = _; simp only [Sc.fin, hL]; rw [if_neg (by omega)]
      have hd : decide (a < full.length) = false := by simpa using hlt
      clear h0 h1 hg hl r3 r4 he hL
      go_enter Try.func30, Try.ntmps30
      go_wp2
      go_quiet (fail)
      go_wp2
      go_ret
      exact ⟨ret_int hF.out.symm, _, rfl⟩
  · have hb : (s.e == 0) = false := by simpa using he
    have hF : Hid (s.fin = s.e) := by show _ = _; simp [Sc.fin, Sc.left, he]
    clear h0 h1 hg hl r3 r4 he
    go_enter Try.func30, Try.ntmps30
    go_wp2
    go_quiet (fail)
    go_wp2
    go_ret
    exact ⟨ret_int hF.out.symm, _, rfl⟩

theorem set_fault {S : Nat → Prop} {w : World} {g : Nat} {s : Sc} (x : Int) (h : RS S w g s) : RS S (w.setCell ⟨g, 2, none⟩ (.int .i64 x)) g ⟨s.l, x⟩ := by
  obtain ⟨h0, h1, v, full, a, hg, hr, ha, hl⟩ := h
  refine ⟨h0, by simpa [World.setCell] using h1, v, full, a, ?_, hr.keep fun b _ hb => heap_setCell_other w ⟨g, 2, none⟩ b _ (fun e => h0 (by have e' : b = g := e; rw [← e']; exact hb)), ha, hl⟩
  rw [heap_setCell_same _ _ _ _ _ _ hg]
  rfl

theorem num_lt (s : Sc) (n : Nat) (s1 : Sc) (hn : s.num (width 1) = (n, s1)) : n < 256 := by
  have e : n = Sc.val ((s.take (width 1)).1) := (congrArg Prod.fst hn).symm
  have h1 := take_len s (width 1)
  have h2 := val_lt (s.take (width 1)).1 1
  rw [List.take_of_length_le (by have : width 1 = 1 := by decide
                                 omega)] at h2
  omega

end Go.Proofs.Ytmnfajplfnfgpab.Rnums
