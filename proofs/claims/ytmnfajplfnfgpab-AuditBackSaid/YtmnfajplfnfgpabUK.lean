/-
  The bytes of an entry, by the program.
  Conditions: those that each lemma names.
-/
import Derived.Test.YtmnfajplfnfgpabUJ
namespace Go.Proofs.Ytmnfajplfnfgpab.UK
set_option maxRecDepth 100000
open Go Go.RowKit Go.Lib Go.Proofs.Ytmnfajplfnfgpab Go.Proofs.Ytmnfajplfnfgpab.Facts Go.Proofs.Ytmnfajplfnfgpab.Ints Go.Proofs.Ytmnfajplfnfgpab.PA Go.Proofs.Ytmnfajplfnfgpab.UA Go.Proofs.Ytmnfajplfnfgpab.UM Go.Proofs.Ytmnfajplfnfgpab.UB Go.Proofs.Ytmnfajplfnfgpab.UC Go.Proofs.Ytmnfajplfnfgpab.UD Go.Proofs.Ytmnfajplfnfgpab.UF Go.Proofs.Ytmnfajplfnfgpab.UH Go.Proofs.Ytmnfajplfnfgpab.UI Go.Proofs.Ytmnfajplfnfgpab.UJ Go.Proofs.Ytmnfajplfnfgpab.Bytes Go.Proofs.Ytmnfajplfnfgpab.Puts


/-- An entry's numbers, each with how many bytes it takes. -/
def fl (x : En) : List (Nat × Nat) := [(8, x.round), (1, x.line.toNat), (1, x.label.toNat), (1, x.who.toNat), (1, x.side.toNat), (1, x.base.toNat), (1, x.quote.toNat), (8, x.qty), (8, x.price), (1, x.slot.toNat)]
def encK (x : En) (k : Nat) : List UInt8 := ((fl x).take k).flatMap fun p => be p.1 p.2
def encE (x : En) : List UInt8 := (fl x).flatMap fun p => be p.1 p.2
def bytesP (x : En) : List UInt8 := if okE x = false then [] else encE x
theorem num_nat {n : Int} (h : num n = true) : ∃ m : Nat, n = m ∧ m < 128 := by
  rw [num_iff] at h
  exact ⟨n.toNat, by omega, by omega⟩
theorem coin_nat {n : Int} (h : coinB n = true) : ∃ m : Nat, n = m ∧ m < 128 := by
  have h := of_decide_eq_true h
  exact ⟨n.toNat, by omega, by omega⟩
theorem need_side {sd : Int} {q p : Nat} (h : (needP sd q p).2 = 0) : sd = 1 ∨ sd = 2 := by
  unfold needP at h
  split at h
  · rename_i h1; exact h1.1
  · cases h
/-- The numbers of an entry that may be. -/
theorem ok_nat {x : En} (h : okE x = true) : ∃ (r n1 n2 n3 n4 n5 n6 qn pr n9 : Nat), x = ⟨r, n1, n2, n3, n4, n5, n6, qn, pr, n9⟩ ∧ n1 < 128 ∧ n2 < 128 ∧ n3 < 128 ∧ n4 < 128 ∧ n5 < 128 ∧ n6 < 128 ∧ n9 < 128 := by
  obtain ⟨r, ln, lb, wh, sd, bs, qt, qn, pr, st⟩ := x
  unfold okE at h
  simp only [Bool.and_eq_true] at h
  obtain ⟨_, h1, h2, h3, h4⟩ := h
  obtain ⟨m1, rfl, l1⟩ := num_nat h1
  obtain ⟨m2, rfl, l2⟩ := num_nat h2
  obtain ⟨m3, rfl, l3⟩ := num_nat h3
  unfold restE at h4
  split at h4
  · rename_i hs
    subst hs
    simp only [Bool.and_eq_true, decide_eq_true_eq] at h4
    obtain ⟨h5, rfl, rfl, rfl, rfl⟩ := h4
    obtain ⟨m9, rfl, l9⟩ := num_nat h5
    exact ⟨r, m1, m2, m3, 3, 0, 0, 0, 0, m9, rfl, l1, l2, l3, by omega, by omega, by omega, l9⟩
  · simp only [Bool.and_eq_true, decide_eq_true_eq] at h4
    obtain ⟨h5, h6, h7, _, rfl⟩ := h4
    obtain ⟨m5, rfl, l5⟩ := coin_nat h6
    obtain ⟨m6, rfl, l6⟩ := coin_nat h7
    rcases need_side h5 with rfl | rfl
    · exact ⟨r, m1, m2, m3, 1, m5, m6, qn, pr, 0, rfl, l1, l2, l3, by omega, l5, l6, by omega⟩
    · exact ⟨r, m1, m2, m3, 2, m5, m6, qn, pr, 0, rfl, l1, l2, l3, by omega, l5, l6, by omega⟩
theorem enc_len (x : En) (k : Nat) : (encK x k).length ≤ 31 := by
  unfold encK fl
  match k with
  | 0 => simp
  | 1 => simp [be_length]
  | 2 => simp [be_length]
  | 3 => simp [be_length]
  | 4 => simp [be_length]
  | 5 => simp [be_length]
  | 6 => simp [be_length]
  | 7 => simp [be_length]
  | 8 => simp [be_length]
  | 9 => simp [be_length]
  | k + 10 => simp [be_length]
set_option maxHeartbeats 8000000 in
theorem bytes_any (x : En) (hx : SzE x) (w : World) : Calls Try.prog 16 #[env x] w fun e w' => ∃ v', e = .returned v' ∧ Ob w.heap.size w' v' (bytesP x) ∧ Grew w w' := by
  have HM := Lib.hid (may_any x hx)
  cases ho : okE x with
  | false =>
    rw [ho] at HM
    unfold bytesP
    rw [if_pos ho]
    obtain ⟨r, ln, lb, wh, sd, bs, qt, qn, pr, st⟩ := x
    unfold env at *
    simp only at HM ⊢
    have G0 : Hid (Grew w (w.alloc (.cells #[.int .u64 (r : Int), .int .i64 ln, .int .i64 lb, .int .i64 wh, .int .i64 sd, .int .i64 bs, .int .i64 qt, .int .u64 (qn : Int), .int .u64 (pr : Int), .int .i64 st] 25))) := Lib.hid (by unfold Grew; go_grown)
    clear ho hx
    go_enter Try.func16, Try.ntmps16
    go_wp2_with fail
    refine (HM.out _).mono ?_
    rintro e w1 ⟨rfl, hg⟩
    have G1 := Lib.hid (G0.out.trans hg)
    clear hg
    go_wp2
    go_returns
    exact ⟨_, rfl, Ob.nil _ _, G1.out⟩
  | true =>
    rw [ho] at HM
    unfold bytesP
    rw [if_neg (by rw [ho]; decide)]
    obtain ⟨r, n1, n2, n3, n4, n5, n6, qn, pr, n9, hxe, l1, l2, l3, l4, l5, l6, l9⟩ := ok_nat ho
    have HX : Hid ((⟨r, n1, n2, n3, n4, n5, n6, qn, pr, n9⟩ : En) = x) := Lib.hid hxe.symm
    have HEND : Hid (encE x = encK x 10) := Lib.hid (by simp [encE, encK, fl])
    rw [HEND.out]
    rw [hxe] at HM
    have henv : env x = .agg #[.int .u64 (r : Int), .int .i64 (n1 : Int), .int .i64 (n2 : Int), .int .i64 (n3 : Int), .int .i64 (n4 : Int), .int .i64 (n5 : Int), .int .i64 (n6 : Int), .int .u64 (qn : Int), .int .u64 (pr : Int), .int .i64 (n9 : Int)] := by rw [hxe]; rfl
    rw [henv]
    unfold env at HM
    simp only at HM
    obtain ⟨X, hX⟩ : ∃ X, x = X := ⟨_, rfl⟩
    rw [hX] at HX HEND ⊢
    have L1 := Lib.hid l1
    have L2 := Lib.hid l2
    have L3 := Lib.hid l3
    have L4 := Lib.hid l4
    have L5 := Lib.hid l5
    have L6 := Lib.hid l6
    have L9 := Lib.hid l9
    have BX := Lib.hid (blk_new w (.cells #[.int .u64 (r : Int), .int .i64 (n1 : Int), .int .i64 (n2 : Int), .int .i64 (n3 : Int), .int .i64 (n4 : Int), .int .i64 (n5 : Int), .int .i64 (n6 : Int), .int .u64 (qn : Int), .int .u64 (pr : Int), .int .i64 (n9 : Int)] 25))
    have G0 : Hid (Grew w (w.alloc (.cells #[.int .u64 (r : Int), .int .i64 (n1 : Int), .int .i64 (n2 : Int), .int .i64 (n3 : Int), .int .i64 (n4 : Int), .int .i64 (n5 : Int), .int .i64 (n6 : Int), .int .u64 (qn : Int), .int .u64 (pr : Int), .int .i64 (n9 : Int)] 25))) := Lib.hid (by unfold Grew; go_grown)
    have hst := fun W a m f x y => run_store_fn W a m f x y
    clear ho hx hxe henv hX l1 l2 l3 l4 l5 l6 l9
    go_enter Try.func16, Try.ntmps16
    go_wp2_with fail
    refine (HM.out _).mono ?_
    rintro e w1 ⟨rfl, hg⟩
    have G1 := Lib.hid (G0.out.trans hg)
    have BX1 := Lib.hid (keepB BX.out hg)
    clear hg
    go_wp2_with fail
    refine (fields_any _).mono ?_
    rintro e w2 ⟨g, FA, FB, rfl, hf, hg⟩
    have HF := Lib.hid hf
    have G2 := Lib.hid (G1.out.trans hg)
    have BX2 := Lib.hid (keepB BX1.out hg)
    have RN := Lib.hid (Ob.nil w2.heap.size w2)
    clear hf hg
    go_wp2
    go_loopg [3, 11] 10 (fun gg s3 s11 wx => ∃ (k : Nat) (v3 : Value), k + gg = 10 ∧ s11 = .int .i64 k ∧ v3 = s3 ∧ Hid (Ob w2.heap.size wx v3 (encK X k)) ∧ Hid (Grew w2 wx))
    case atStart => exact ⟨0, _, rfl, rfl, rfl, RN, Lib.hid (Grew.refl _)⟩
    case round =>
    obtain ⟨k, v3, hkg, rfl, rfl, KR, HG⟩ := hrel
    have KF := Lib.hid (HF.out.grew HG.out)
    obtain ⟨A3, c3, rfl, _⟩ := KR.out.rd
    have hk : k = 0 ∨ k = 1 ∨ k = 2 ∨ k = 3 ∨ k = 4 ∨ k = 5 ∨ k = 6 ∨ k = 7 ∨ k = 8 ∨ k = 9 ∨ k = 10 := by omega
    rcases hk with rfl | rfl | rfl | rfl | rfl | rfl | rfl | rfl | rfl | rfl | rfl
    · have HE : Hid (encK X 0 ++ be 8 r = encK X 1) := Lib.hid (by rw [← HX.out]; simp [encK, fl])
      have G3 : Hid (Grew wr (wr.alloc (.cells #[.func (.func 53) #[] #[.pointer (some ⟨FB 0, 0, none⟩), .pointer (some ⟨FA 0, 0, none⟩)], .func (.func 55) #[] #[.pointer (some ⟨FA 0, 0, none⟩), .pointer (some ⟨FB 0, 0, none⟩)]] 52))) := Lib.hid (by unfold Grew; go_grown)
      have KC := Lib.hid (put0 _ (encK X 0) r (n1 : Int) (n2 : Int) (n3 : Int) (n4 : Int) (n5 : Int) (n6 : Int) qn pr (n9 : Int) (FA 0) (FB 0) _ (KR.out.rd.grew G3.out) (by have := enc_len X 0; omega) (keepB KF.out.a0 G3.out) (keepB KF.out.b0 G3.out))
      have c0 : wr.cell? ⟨g, 0, none⟩ = some (.func (.func 53) #[] #[.pointer (some ⟨FB 0, 0, none⟩), .pointer (some ⟨FA 0, 0, none⟩)]) := by rw [cell_of_row _ _ _ _ _ _ KF.out.row]; rfl
      have c1 : wr.cell? ⟨g, 1, none⟩ = some (.func (.func 55) #[] #[.pointer (some ⟨FA 0, 0, none⟩), .pointer (some ⟨FB 0, 0, none⟩)]) := by rw [cell_of_row _ _ _ _ _ _ KF.out.row]; rfl
      obtain ⟨b0, b1, b2, b3, b4, b5, b6, b7, b8, b9⟩ := ten_c (keepB BX2.out (HG.out.trans G3.out))
      go_wp2_with fail
      refine KC.out.mono ?_
      rintro e w5 ⟨v5, rfl, hr, hg⟩
      have KR5 := Lib.hid (hr.base (Nat.le_trans HG.out.size G3.out.size))
      have G5 := Lib.hid (HG.out.trans (G3.out.trans hg))
      rw [HE.out] at KR5
      clear hr hg c0 c1 b0 b1 b2 b3 b4 b5 b6 b7 b8 b9
      go_wp2
      go_roundg 9
      case measure => omega
      case rel => exact ⟨1, _, by omega, by first | rfl | (simp; done), rfl, KR5, G5⟩
    · have HE : Hid (encK X 1 ++ be 1 n1 = encK X 2) := Lib.hid (by rw [← HX.out]; simp [encK, fl])
      have G3 : Hid (Grew wr (wr.alloc (.cells #[.func (.func 57) #[] #[.pointer (some ⟨FB 1, 0, none⟩), .pointer (some ⟨FA 1, 0, none⟩)], .func (.func 58) #[] #[.pointer (some ⟨FA 1, 0, none⟩), .pointer (some ⟨FB 1, 0, none⟩)]] 52))) := Lib.hid (by unfold Grew; go_grown)
      have KC := Lib.hid (put1 _ (encK X 1) r (n1 : Int) (n2 : Int) (n3 : Int) (n4 : Int) (n5 : Int) (n6 : Int) qn pr (n9 : Int) (FA 1) (FB 1) n1 rfl L1.out _ (KR.out.rd.grew G3.out) (by have := enc_len X 1; omega) (keepB KF.out.a1 G3.out) (keepB KF.out.b1 G3.out))
      have c0 : wr.cell? ⟨g, 2, none⟩ = some (.func (.func 57) #[] #[.pointer (some ⟨FB 1, 0, none⟩), .pointer (some ⟨FA 1, 0, none⟩)]) := by rw [cell_of_row _ _ _ _ _ _ KF.out.row]; rfl
      have c1 : wr.cell? ⟨g, 3, none⟩ = some (.func (.func 58) #[] #[.pointer (some ⟨FA 1, 0, none⟩), .pointer (some ⟨FB 1, 0, none⟩)]) := by rw [cell_of_row _ _ _ _ _ _ KF.out.row]; rfl
      obtain ⟨b0, b1, b2, b3, b4, b5, b6, b7, b8, b9⟩ := ten_c (keepB BX2.out (HG.out.trans G3.out))
      go_wp2_with fail
      refine KC.out.mono ?_
      rintro e w5 ⟨v5, rfl, hr, hg⟩
      have KR5 := Lib.hid (hr.base (Nat.le_trans HG.out.size G3.out.size))
      have G5 := Lib.hid (HG.out.trans (G3.out.trans hg))
      rw [HE.out] at KR5
      clear hr hg c0 c1 b0 b1 b2 b3 b4 b5 b6 b7 b8 b9
      go_wp2
      go_roundg 8
      case measure => omega
      case rel => exact ⟨2, _, by omega, by first | rfl | (simp; done), rfl, KR5, G5⟩
    · have HE : Hid (encK X 2 ++ be 1 n2 = encK X 3) := Lib.hid (by rw [← HX.out]; simp [encK, fl])
      have G3 : Hid (Grew wr (wr.alloc (.cells #[.func (.func 57) #[] #[.pointer (some ⟨FB 2, 0, none⟩), .pointer (some ⟨FA 2, 0, none⟩)], .func (.func 58) #[] #[.pointer (some ⟨FA 2, 0, none⟩), .pointer (some ⟨FB 2, 0, none⟩)]] 52))) := Lib.hid (by unfold Grew; go_grown)
      have KC := Lib.hid (put2 _ (encK X 2) r (n1 : Int) (n2 : Int) (n3 : Int) (n4 : Int) (n5 : Int) (n6 : Int) qn pr (n9 : Int) (FA 2) (FB 2) n2 rfl L2.out _ (KR.out.rd.grew G3.out) (by have := enc_len X 2; omega) (keepB KF.out.a2 G3.out) (keepB KF.out.b2 G3.out))
      have c0 : wr.cell? ⟨g, 4, none⟩ = some (.func (.func 57) #[] #[.pointer (some ⟨FB 2, 0, none⟩), .pointer (some ⟨FA 2, 0, none⟩)]) := by rw [cell_of_row _ _ _ _ _ _ KF.out.row]; rfl
      have c1 : wr.cell? ⟨g, 5, none⟩ = some (.func (.func 58) #[] #[.pointer (some ⟨FA 2, 0, none⟩), .pointer (some ⟨FB 2, 0, none⟩)]) := by rw [cell_of_row _ _ _ _ _ _ KF.out.row]; rfl
      obtain ⟨b0, b1, b2, b3, b4, b5, b6, b7, b8, b9⟩ := ten_c (keepB BX2.out (HG.out.trans G3.out))
      go_wp2_with fail
      refine KC.out.mono ?_
      rintro e w5 ⟨v5, rfl, hr, hg⟩
      have KR5 := Lib.hid (hr.base (Nat.le_trans HG.out.size G3.out.size))
      have G5 := Lib.hid (HG.out.trans (G3.out.trans hg))
      rw [HE.out] at KR5
      clear hr hg c0 c1 b0 b1 b2 b3 b4 b5 b6 b7 b8 b9
      go_wp2
      go_roundg 7
      case measure => omega
      case rel => exact ⟨3, _, by omega, by first | rfl | (simp; done), rfl, KR5, G5⟩
    · have HE : Hid (encK X 3 ++ be 1 n3 = encK X 4) := Lib.hid (by rw [← HX.out]; simp [encK, fl])
      have G3 : Hid (Grew wr (wr.alloc (.cells #[.func (.func 57) #[] #[.pointer (some ⟨FB 3, 0, none⟩), .pointer (some ⟨FA 3, 0, none⟩)], .func (.func 58) #[] #[.pointer (some ⟨FA 3, 0, none⟩), .pointer (some ⟨FB 3, 0, none⟩)]] 52))) := Lib.hid (by unfold Grew; go_grown)
      have KC := Lib.hid (put3 _ (encK X 3) r (n1 : Int) (n2 : Int) (n3 : Int) (n4 : Int) (n5 : Int) (n6 : Int) qn pr (n9 : Int) (FA 3) (FB 3) n3 rfl L3.out _ (KR.out.rd.grew G3.out) (by have := enc_len X 3; omega) (keepB KF.out.a3 G3.out) (keepB KF.out.b3 G3.out))
      have c0 : wr.cell? ⟨g, 6, none⟩ = some (.func (.func 57) #[] #[.pointer (some ⟨FB 3, 0, none⟩), .pointer (some ⟨FA 3, 0, none⟩)]) := by rw [cell_of_row _ _ _ _ _ _ KF.out.row]; rfl
      have c1 : wr.cell? ⟨g, 7, none⟩ = some (.func (.func 58) #[] #[.pointer (some ⟨FA 3, 0, none⟩), .pointer (some ⟨FB 3, 0, none⟩)]) := by rw [cell_of_row _ _ _ _ _ _ KF.out.row]; rfl
      obtain ⟨b0, b1, b2, b3, b4, b5, b6, b7, b8, b9⟩ := ten_c (keepB BX2.out (HG.out.trans G3.out))
      go_wp2_with fail
      refine KC.out.mono ?_
      rintro e w5 ⟨v5, rfl, hr, hg⟩
      have KR5 := Lib.hid (hr.base (Nat.le_trans HG.out.size G3.out.size))
      have G5 := Lib.hid (HG.out.trans (G3.out.trans hg))
      rw [HE.out] at KR5
      clear hr hg c0 c1 b0 b1 b2 b3 b4 b5 b6 b7 b8 b9
      go_wp2
      go_roundg 6
      case measure => omega
      case rel => exact ⟨4, _, by omega, by first | rfl | (simp; done), rfl, KR5, G5⟩
    · have HE : Hid (encK X 4 ++ be 1 n4 = encK X 5) := Lib.hid (by rw [← HX.out]; simp [encK, fl])
      have G3 : Hid (Grew wr (wr.alloc (.cells #[.func (.func 57) #[] #[.pointer (some ⟨FB 4, 0, none⟩), .pointer (some ⟨FA 4, 0, none⟩)], .func (.func 58) #[] #[.pointer (some ⟨FA 4, 0, none⟩), .pointer (some ⟨FB 4, 0, none⟩)]] 52))) := Lib.hid (by unfold Grew; go_grown)
      have KC := Lib.hid (put4 _ (encK X 4) r (n1 : Int) (n2 : Int) (n3 : Int) (n4 : Int) (n5 : Int) (n6 : Int) qn pr (n9 : Int) (FA 4) (FB 4) n4 rfl L4.out _ (KR.out.rd.grew G3.out) (by have := enc_len X 4; omega) (keepB KF.out.a4 G3.out) (keepB KF.out.b4 G3.out))
      have c0 : wr.cell? ⟨g, 8, none⟩ = some (.func (.func 57) #[] #[.pointer (some ⟨FB 4, 0, none⟩), .pointer (some ⟨FA 4, 0, none⟩)]) := by rw [cell_of_row _ _ _ _ _ _ KF.out.row]; rfl
      have c1 : wr.cell? ⟨g, 9, none⟩ = some (.func (.func 58) #[] #[.pointer (some ⟨FA 4, 0, none⟩), .pointer (some ⟨FB 4, 0, none⟩)]) := by rw [cell_of_row _ _ _ _ _ _ KF.out.row]; rfl
      obtain ⟨b0, b1, b2, b3, b4, b5, b6, b7, b8, b9⟩ := ten_c (keepB BX2.out (HG.out.trans G3.out))
      go_wp2_with fail
      refine KC.out.mono ?_
      rintro e w5 ⟨v5, rfl, hr, hg⟩
      have KR5 := Lib.hid (hr.base (Nat.le_trans HG.out.size G3.out.size))
      have G5 := Lib.hid (HG.out.trans (G3.out.trans hg))
      rw [HE.out] at KR5
      clear hr hg c0 c1 b0 b1 b2 b3 b4 b5 b6 b7 b8 b9
      go_wp2
      go_roundg 5
      case measure => omega
      case rel => exact ⟨5, _, by omega, by first | rfl | (simp; done), rfl, KR5, G5⟩
    · have HE : Hid (encK X 5 ++ be 1 n5 = encK X 6) := Lib.hid (by rw [← HX.out]; simp [encK, fl])
      have G3 : Hid (Grew wr (wr.alloc (.cells #[.func (.func 57) #[] #[.pointer (some ⟨FB 5, 0, none⟩), .pointer (some ⟨FA 5, 0, none⟩)], .func (.func 58) #[] #[.pointer (some ⟨FA 5, 0, none⟩), .pointer (some ⟨FB 5, 0, none⟩)]] 52))) := Lib.hid (by unfold Grew; go_grown)
      have KC := Lib.hid (put5 _ (encK X 5) r (n1 : Int) (n2 : Int) (n3 : Int) (n4 : Int) (n5 : Int) (n6 : Int) qn pr (n9 : Int) (FA 5) (FB 5) n5 rfl L5.out _ (KR.out.rd.grew G3.out) (by have := enc_len X 5; omega) (keepB KF.out.a5 G3.out) (keepB KF.out.b5 G3.out))
      have c0 : wr.cell? ⟨g, 10, none⟩ = some (.func (.func 57) #[] #[.pointer (some ⟨FB 5, 0, none⟩), .pointer (some ⟨FA 5, 0, none⟩)]) := by rw [cell_of_row _ _ _ _ _ _ KF.out.row]; rfl
      have c1 : wr.cell? ⟨g, 11, none⟩ = some (.func (.func 58) #[] #[.pointer (some ⟨FA 5, 0, none⟩), .pointer (some ⟨FB 5, 0, none⟩)]) := by rw [cell_of_row _ _ _ _ _ _ KF.out.row]; rfl
      obtain ⟨b0, b1, b2, b3, b4, b5, b6, b7, b8, b9⟩ := ten_c (keepB BX2.out (HG.out.trans G3.out))
      go_wp2_with fail
      refine KC.out.mono ?_
      rintro e w5 ⟨v5, rfl, hr, hg⟩
      have KR5 := Lib.hid (hr.base (Nat.le_trans HG.out.size G3.out.size))
      have G5 := Lib.hid (HG.out.trans (G3.out.trans hg))
      rw [HE.out] at KR5
      clear hr hg c0 c1 b0 b1 b2 b3 b4 b5 b6 b7 b8 b9
      go_wp2
      go_roundg 4
      case measure => omega
      case rel => exact ⟨6, _, by omega, by first | rfl | (simp; done), rfl, KR5, G5⟩
    · have HE : Hid (encK X 6 ++ be 1 n6 = encK X 7) := Lib.hid (by rw [← HX.out]; simp [encK, fl])
      have G3 : Hid (Grew wr (wr.alloc (.cells #[.func (.func 57) #[] #[.pointer (some ⟨FB 6, 0, none⟩), .pointer (some ⟨FA 6, 0, none⟩)], .func (.func 58) #[] #[.pointer (some ⟨FA 6, 0, none⟩), .pointer (some ⟨FB 6, 0, none⟩)]] 52))) := Lib.hid (by unfold Grew; go_grown)
      have KC := Lib.hid (put6 _ (encK X 6) r (n1 : Int) (n2 : Int) (n3 : Int) (n4 : Int) (n5 : Int) (n6 : Int) qn pr (n9 : Int) (FA 6) (FB 6) n6 rfl L6.out _ (KR.out.rd.grew G3.out) (by have := enc_len X 6; omega) (keepB KF.out.a6 G3.out) (keepB KF.out.b6 G3.out))
      have c0 : wr.cell? ⟨g, 12, none⟩ = some (.func (.func 57) #[] #[.pointer (some ⟨FB 6, 0, none⟩), .pointer (some ⟨FA 6, 0, none⟩)]) := by rw [cell_of_row _ _ _ _ _ _ KF.out.row]; rfl
      have c1 : wr.cell? ⟨g, 13, none⟩ = some (.func (.func 58) #[] #[.pointer (some ⟨FA 6, 0, none⟩), .pointer (some ⟨FB 6, 0, none⟩)]) := by rw [cell_of_row _ _ _ _ _ _ KF.out.row]; rfl
      obtain ⟨b0, b1, b2, b3, b4, b5, b6, b7, b8, b9⟩ := ten_c (keepB BX2.out (HG.out.trans G3.out))
      go_wp2_with fail
      refine KC.out.mono ?_
      rintro e w5 ⟨v5, rfl, hr, hg⟩
      have KR5 := Lib.hid (hr.base (Nat.le_trans HG.out.size G3.out.size))
      have G5 := Lib.hid (HG.out.trans (G3.out.trans hg))
      rw [HE.out] at KR5
      clear hr hg c0 c1 b0 b1 b2 b3 b4 b5 b6 b7 b8 b9
      go_wp2
      go_roundg 3
      case measure => omega
      case rel => exact ⟨7, _, by omega, by first | rfl | (simp; done), rfl, KR5, G5⟩
    · have HE : Hid (encK X 7 ++ be 8 qn = encK X 8) := Lib.hid (by rw [← HX.out]; simp [encK, fl])
      have G3 : Hid (Grew wr (wr.alloc (.cells #[.func (.func 53) #[] #[.pointer (some ⟨FB 7, 0, none⟩), .pointer (some ⟨FA 7, 0, none⟩)], .func (.func 55) #[] #[.pointer (some ⟨FA 7, 0, none⟩), .pointer (some ⟨FB 7, 0, none⟩)]] 52))) := Lib.hid (by unfold Grew; go_grown)
      have KC := Lib.hid (put7 _ (encK X 7) r (n1 : Int) (n2 : Int) (n3 : Int) (n4 : Int) (n5 : Int) (n6 : Int) qn pr (n9 : Int) (FA 7) (FB 7) _ (KR.out.rd.grew G3.out) (by have := enc_len X 7; omega) (keepB KF.out.a7 G3.out) (keepB KF.out.b7 G3.out))
      have c0 : wr.cell? ⟨g, 14, none⟩ = some (.func (.func 53) #[] #[.pointer (some ⟨FB 7, 0, none⟩), .pointer (some ⟨FA 7, 0, none⟩)]) := by rw [cell_of_row _ _ _ _ _ _ KF.out.row]; rfl
      have c1 : wr.cell? ⟨g, 15, none⟩ = some (.func (.func 55) #[] #[.pointer (some ⟨FA 7, 0, none⟩), .pointer (some ⟨FB 7, 0, none⟩)]) := by rw [cell_of_row _ _ _ _ _ _ KF.out.row]; rfl
      obtain ⟨b0, b1, b2, b3, b4, b5, b6, b7, b8, b9⟩ := ten_c (keepB BX2.out (HG.out.trans G3.out))
      go_wp2_with fail
      refine KC.out.mono ?_
      rintro e w5 ⟨v5, rfl, hr, hg⟩
      have KR5 := Lib.hid (hr.base (Nat.le_trans HG.out.size G3.out.size))
      have G5 := Lib.hid (HG.out.trans (G3.out.trans hg))
      rw [HE.out] at KR5
      clear hr hg c0 c1 b0 b1 b2 b3 b4 b5 b6 b7 b8 b9
      go_wp2
      go_roundg 2
      case measure => omega
      case rel => exact ⟨8, _, by omega, by first | rfl | (simp; done), rfl, KR5, G5⟩
    · have HE : Hid (encK X 8 ++ be 8 pr = encK X 9) := Lib.hid (by rw [← HX.out]; simp [encK, fl])
      have G3 : Hid (Grew wr (wr.alloc (.cells #[.func (.func 53) #[] #[.pointer (some ⟨FB 8, 0, none⟩), .pointer (some ⟨FA 8, 0, none⟩)], .func (.func 55) #[] #[.pointer (some ⟨FA 8, 0, none⟩), .pointer (some ⟨FB 8, 0, none⟩)]] 52))) := Lib.hid (by unfold Grew; go_grown)
      have KC := Lib.hid (put8 _ (encK X 8) r (n1 : Int) (n2 : Int) (n3 : Int) (n4 : Int) (n5 : Int) (n6 : Int) qn pr (n9 : Int) (FA 8) (FB 8) _ (KR.out.rd.grew G3.out) (by have := enc_len X 8; omega) (keepB KF.out.a8 G3.out) (keepB KF.out.b8 G3.out))
      have c0 : wr.cell? ⟨g, 16, none⟩ = some (.func (.func 53) #[] #[.pointer (some ⟨FB 8, 0, none⟩), .pointer (some ⟨FA 8, 0, none⟩)]) := by rw [cell_of_row _ _ _ _ _ _ KF.out.row]; rfl
      have c1 : wr.cell? ⟨g, 17, none⟩ = some (.func (.func 55) #[] #[.pointer (some ⟨FA 8, 0, none⟩), .pointer (some ⟨FB 8, 0, none⟩)]) := by rw [cell_of_row _ _ _ _ _ _ KF.out.row]; rfl
      obtain ⟨b0, b1, b2, b3, b4, b5, b6, b7, b8, b9⟩ := ten_c (keepB BX2.out (HG.out.trans G3.out))
      go_wp2_with fail
      refine KC.out.mono ?_
      rintro e w5 ⟨v5, rfl, hr, hg⟩
      have KR5 := Lib.hid (hr.base (Nat.le_trans HG.out.size G3.out.size))
      have G5 := Lib.hid (HG.out.trans (G3.out.trans hg))
      rw [HE.out] at KR5
      clear hr hg c0 c1 b0 b1 b2 b3 b4 b5 b6 b7 b8 b9
      go_wp2
      go_roundg 1
      case measure => omega
      case rel => exact ⟨9, _, by omega, by first | rfl | (simp; done), rfl, KR5, G5⟩
    · have HE : Hid (encK X 9 ++ be 1 n9 = encK X 10) := Lib.hid (by rw [← HX.out]; simp [encK, fl])
      have G3 : Hid (Grew wr (wr.alloc (.cells #[.func (.func 57) #[] #[.pointer (some ⟨FB 9, 0, none⟩), .pointer (some ⟨FA 9, 0, none⟩)], .func (.func 58) #[] #[.pointer (some ⟨FA 9, 0, none⟩), .pointer (some ⟨FB 9, 0, none⟩)]] 52))) := Lib.hid (by unfold Grew; go_grown)
      have KC := Lib.hid (put9 _ (encK X 9) r (n1 : Int) (n2 : Int) (n3 : Int) (n4 : Int) (n5 : Int) (n6 : Int) qn pr (n9 : Int) (FA 9) (FB 9) n9 rfl L9.out _ (KR.out.rd.grew G3.out) (by have := enc_len X 9; omega) (keepB KF.out.a9 G3.out) (keepB KF.out.b9 G3.out))
      have c0 : wr.cell? ⟨g, 18, none⟩ = some (.func (.func 57) #[] #[.pointer (some ⟨FB 9, 0, none⟩), .pointer (some ⟨FA 9, 0, none⟩)]) := by rw [cell_of_row _ _ _ _ _ _ KF.out.row]; rfl
      have c1 : wr.cell? ⟨g, 19, none⟩ = some (.func (.func 58) #[] #[.pointer (some ⟨FA 9, 0, none⟩), .pointer (some ⟨FB 9, 0, none⟩)]) := by rw [cell_of_row _ _ _ _ _ _ KF.out.row]; rfl
      obtain ⟨b0, b1, b2, b3, b4, b5, b6, b7, b8, b9⟩ := ten_c (keepB BX2.out (HG.out.trans G3.out))
      go_wp2_with fail
      refine KC.out.mono ?_
      rintro e w5 ⟨v5, rfl, hr, hg⟩
      have KR5 := Lib.hid (hr.base (Nat.le_trans HG.out.size G3.out.size))
      have G5 := Lib.hid (HG.out.trans (G3.out.trans hg))
      rw [HE.out] at KR5
      clear hr hg c0 c1 b0 b1 b2 b3 b4 b5 b6 b7 b8 b9
      go_wp2
      go_roundg 0
      case measure => omega
      case rel => exact ⟨10, _, by omega, by first | rfl | (simp; done), rfl, KR5, G5⟩
    · have GF := Lib.hid (G2.out.trans HG.out)
      go_wp2
      go_returns
      exact ⟨_, rfl, KR.out.base G2.out.size, GF.out⟩
end Go.Proofs.Ytmnfajplfnfgpab.UK
