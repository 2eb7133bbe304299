/-
  ReplySizes: how many bytes a message has.
  Conditions: those that each lemma names.
-/
import Derived.Test.YthgigkklefaeeaaRL
namespace Go.Proofs.Ythgigkklefaeeaa.RM
set_option maxRecDepth 100000
open Go Go.RowKit Go.Lib Go.Proofs.Ythgigkklefaeeaa Go.Proofs.Ythgigkklefaeeaa.Facts Go.Proofs.Ythgigkklefaeeaa.Bytes Go.Proofs.Ythgigkklefaeeaa.Puts Go.Proofs.Ythgigkklefaeeaa.Scan Go.Proofs.Ythgigkklefaeeaa.Take Go.Proofs.Ythgigkklefaeeaa.Nums Go.Proofs.Ythgigkklefaeeaa.SumPure Go.Proofs.Ythgigkklefaeeaa.Sum Go.Proofs.Ythgigkklefaeeaa.FP Go.Proofs.Ythgigkklefaeeaa.FW Go.Proofs.Ythgigkklefaeeaa.FX Go.Proofs.Ythgigkklefaeeaa.Ints Go.Proofs.Ythgigkklefaeeaa.PA Go.Proofs.Ythgigkklefaeeaa.RA Go.Proofs.Ythgigkklefaeeaa.RC Go.Proofs.Ythgigkklefaeeaa.RD Go.Proofs.Ythgigkklefaeeaa.RE Go.Proofs.Ythgigkklefaeeaa.RF Go.Proofs.Ythgigkklefaeeaa.RG Go.Proofs.Ythgigkklefaeeaa.RH Go.Proofs.Ythgigkklefaeeaa.RI Go.Proofs.Ythgigkklefaeeaa.RK Go.Proofs.Ythgigkklefaeeaa.RL Go.Proofs.Ythgigkklefaeeaa.FS Go.Proofs.Ythgigkklefaeeaa.FT Go.Proofs.Ythgigkklefaeeaa.FV

theorem okO_bounds {x : Ou} (h : okO x = true) : 1 ≤ x.k ∧ x.k ≤ 5 ∧ 0 ≤ x.o ∧ x.o ≤ 42 ∧ 0 ≤ x.e ∧ x.e ≤ 18 := by
  unfold okO mayP okI rl row at h
  simp only [Bool.and_eq_true, decide_eq_true_eq] at h
  obtain ⟨h1, h2, h3, h4, _⟩ := h
  by_cases k1 : x.k = 1
  · simp [k1] at h3 h4
    omega
  · by_cases k5 : x.k = 5
    · simp [k5] at h3 h4
      omega
    · simp [k1, k5] at h3 h4
      omega
theorem b8_nat (z : Int) (h : 0 ≤ z) (h2 : z ≤ 255) : ((b8 z).toNat : Int) = z := by
  unfold b8
  rw [IntKind.wrap_u64]
  simp
  omega
theorem read_pay {x : Ou} (h : okO x = true) : readP (pay x) = (x, 0) := by
  obtain ⟨h1, h2, h3, h4, h5, h6⟩ := okO_bounds h
  have hl := pay_len x
  have e0 : ((b1 (pay x) 0 : Nat) : Int) = x.k := b8_nat x.k (by omega) (by omega)
  have e1 : ((b1 (pay x) 1 : Nat) : Int) = x.o := b8_nat x.o (by omega) (by omega)
  have e2 : ((b1 (pay x) 2 : Nat) : Int) = x.e := b8_nat x.e (by omega) (by omega)
  have e3 : (pay x).drop 3 = x.d := rfl
  unfold readP
  rw [if_neg (by omega), e0, e1, e2, e3]
  have : (⟨x.k, x.o, x.e, x.d⟩ : Ou) = x := rfl
  rw [this, if_pos h]
theorem fr_mid (b : List UInt8) : ((fr b).drop 1).take b.length = b := by
  have : (fr b).drop 1 = b ++ be 2 (sh (hd b)) := by simp [fr, hd]
  rw [this, List.take_left' rfl]
theorem fr_first (b : List UInt8) (h : b.length ≤ 255) : (((fr b)[0]?.getD 0).toNat : Int) = (b.length : Int) := by
  have : (fr b)[0]?.getD 0 = UInt8.ofNat b.length := by simp [fr, hd]
  rw [this]
  exact ofNat_small _ h
set_option maxHeartbeats 8000000 in
theorem sizes_any (S : Nat → Prop) (x : Ou) (A : Option Addr) (c : Nat) (w : World) (h : Rd S w (.slice A x.d.length c) x.d) :
    Calls Try.prog 5 #[ov x A c] w fun e w' => e = .returned (.bool true) ∧ Grew w w' := by
  obtain ⟨Wa, hWa⟩ : ∃ Wa, w.alloc (.cells #[.int .i64 x.k, .int .i64 x.o, .int .i64 x.e, .slice A x.d.length c] 25) = Wa := ⟨_, rfl⟩
  have ga : Grew w Wa := by rw [← hWa]; exact box_cells w x A c
  have X0 := heap_alloc_new w (.cells #[.int .i64 x.k, .int .i64 x.o, .int .i64 x.e, .slice A x.d.length c] 25)
  rw [hWa] at X0
  have HX0 := Lib.hid X0
  have HWA := Lib.hid hWa
  have HGA := Lib.hid ga
  have HR := Lib.hid (h.grew ga)
  clear h ga hWa X0
  rw [show ov x A c = .agg #[.int .i64 x.k, .int .i64 x.o, .int .i64 x.e, .slice A x.d.length c] from rfl]
  obtain ⟨x0, x1, x2, x3⟩ := four_c HX0.out
  go_enter Try.func5, Try.ntmps5
  go_wp2_with fail
  rw [HWA.out]
  refine (wrap_eq S x A c Wa _ HR.out rfl).mono ?_
  rintro e w1 ⟨v1, rfl, r1, g1⟩
  have G1 := Lib.hid (HGA.out.trans g1)
  have R1 := Lib.hid r1
  have HR1 := Lib.hid (HR.out.grew g1)
  have HX1 := Lib.hid (FX.keepB HX0.out g1)
  clear r1 g1 x0 x1 x2 x3 HX0 HR HGA HWA
  obtain ⟨x0, x1, x2, x3⟩ := four_c HX1.out
  obtain ⟨A1, c1, rfl, _⟩ := id R1.out
  have HMAY := Lib.hid (may_any x.k x.o x.e A x.d.length c w1)
  obtain ⟨b, hb⟩ : ∃ b, okO x = b := ⟨_, rfl⟩
  have HB : Hid (mayP x.k x.o x.e x.d.length = b) := Lib.hid hb
  have HB2 := Lib.hid hb
  clear hb
  go_wp2_with fail
  refine HMAY.out.mono ?_
  rintro e w2 ⟨rfl, g2⟩
  rw [HB.out]
  have G2 := Lib.hid (G1.out.trans g2)
  have R2 := Lib.hid (R1.out.grew g2)
  have HR2 := Lib.hid (HR1.out.grew g2)
  have HX2 := Lib.hid (FX.keepB HX1.out g2)
  clear g2 x0 x1 x2 x3 HX1 HR1 G1 R1 HMAY HB
  cases b with
  | false =>
    have hz : wrapO x = [] := by unfold wrapO; rw [HB2.out]; rfl
    have HZ := Lib.hid hz
    have hn : (wrapO x).length = 0 := by rw [hz]; rfl
    clear hz
    go_wp2_with fail
    refine (alive_any w2).mono ?_
    rintro e w3 ⟨rfl, g3⟩
    have G3 := Lib.hid (G2.out.trans g3)
    clear g3
    have hn2 : (((wrapO x).length : Int) == 0) = true := by rw [hn]; rfl
    clear hn
    go_wp2
    go_returns
    exact ⟨rfl, G3.out⟩
  | true =>
    have hn := wrapO_len HB2.out
    have hw : wrapO x = fr (pay x) := by unfold wrapO; rw [HB2.out]; rfl
    have hle := okO_le HB2.out
    have hpl := pay_len x
    have HRP := Lib.hid (read_pay HB2.out)
    obtain ⟨x0, x1, x2, x3⟩ := four_c HX2.out
    have HMID : Hid (Rd (fun _ => True) w2 (.slice (A1.map (·.add 1)) (x.d.length + 3) (c1 - 1)) (pay x)) := Lib.hid (by
      have hc1 : (wrapO x).length ≤ c1 := by obtain ⟨_, _, e, q, _⟩ := R2.out; injection e with _ _ e3; subst e3; exact q
      have := cut_at R2.out 1 (pay x).length (by omega) (by omega) (c1 - 1) (by omega) (by omega)
      rw [hw, fr_mid, hpl] at this
      exact this.mono fun _ _ => trivial)
    have hr2 := R2.out
    rw [hw] at hr2
    have hfl : (fr (pay x)).length = x.d.length + 6 := by rw [fr_length, hpl]
    obtain ⟨ad, c2, e2, hc1, hc2⟩ := RL.shape hr2 (x.d.length + 6) hfl (by omega)
    rw [hfl] at e2
    injection e2 with e2 _ e3
    subst e2 e3
    have z0 : w2.cell? ad = some (.int .u8 ((x.d.length : Int) + 3)) := by
      obtain ⟨ad', c', e, _, q⟩ := hr2.cell (k := 0) (by omega)
      injection e with e1 _ _
      injection e1 with e1
      subst e1
      have hf := fr_first (pay x) (by omega)
      rw [hf, hpl] at q
      have e0 : ad.add 0 = ad := by unfold Addr.add; simp
      rw [e0] at q
      rw [q]
      simp
    have hwl : (wrapO x).length = x.d.length + 6 := by rw [hw, hfl]
    have HN := Lib.hid hle
    have HZ0 := Lib.hid z0
    have hn0 : x.d.length + 6 ≤ c1 := hc1
    rw [hwl]
    clear hr2 hfl hn hw hpl hwl z0 hc1
    have HM2 : Hid (Rd (fun _ => True) w2 (.slice (some ⟨ad.block, ad.off + 1, none⟩) (x.d.length + 3) (c1 - 1)) (pay x)) := Lib.hid (by
      have := HMID.out
      simpa [Addr.add] using this)
    clear HMID R2
    go_wp2_with fail
    refine (RK.read_eq _ _ (pay x) w2 x 0 HM2.out (by rw [pay_len]; have := HN.out; omega) HRP.out).mono ?_
    rintro e w3 ⟨A3, c3, rfl, r3, g3⟩
    rw [show ov x A3 c3 = .agg #[.int .i64 x.k, .int .i64 x.o, .int .i64 x.e, .slice A3 x.d.length c3] from rfl]
    have g4 := box_cells w3 x A3 c3
    have Y4 := Lib.hid (heap_alloc_new w3 (.cells #[.int .i64 x.k, .int .i64 x.o, .int .i64 x.e, .slice A3 x.d.length c3] 25))
    have R4 := Lib.hid (r3.grew g4)
    have X4 := Lib.hid (FX.keepB HX2.out (g3.trans g4))
    have Z4 := Lib.hid (RC.cellB (g3.trans g4) HZ0.out)
    have G4 := Lib.hid (G2.out.trans (g3.trans g4))
    have HR4 := Lib.hid (HR2.out.grew (g3.trans g4))
    clear r3 g3 g4 x0 x1 x2 x3 HX2 HZ0 G2 HR2 HM2
    go_wp2_with fail
    refine (alive_any _).mono ?_
    rintro e w5 ⟨rfl, g5⟩
    have Y5 := Lib.hid (FX.keepB Y4.out g5)
    have R5 := Lib.hid (R4.out.grew g5)
    have X5 := Lib.hid (FX.keepB X4.out g5)
    have z5 := RC.cellB g5 Z4.out
    have G5 := Lib.hid (G4.out.trans g5)
    have HR5 := Lib.hid (HR4.out.grew g5)
    obtain ⟨x0, x1, x2, x3⟩ := four_c X5.out
    obtain ⟨y0, y1, y2, y3⟩ := four_c Y5.out
    clear Y4 R4 X4 Z4 G4 HR4 g5
    have t1 : ((x.d.length : Int) + 6 ≤ 253) := by omega
    go_wp2_with fail
    refine (same_any x x A A3 c c3 _ _ w5 HR5.out R5.out).mono ?_
    rintro e w6 ⟨rfl, g6⟩
    rw [show decide (x = x) = true from decide_eq_true rfl]
    have G6 := Lib.hid (G5.out.trans g6)
    clear g6 G5 X5 Y5 R5 HR5
    go_wp2
    go_returns
    exact ⟨rfl, G6.out⟩
end Go.Proofs.Ythgigkklefaeeaa.RM
