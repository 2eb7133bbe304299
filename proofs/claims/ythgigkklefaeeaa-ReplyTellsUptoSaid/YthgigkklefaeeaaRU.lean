/-
  Wrap, by the document.
  Conditions: those that each lemma names.
-/
import Derived.Test.YthgigkklefaeeaaRS
import Derived.Test.YthgigkklefaeeaaRT
namespace Go.Proofs.Ythgigkklefaeeaa.RU
set_option maxRecDepth 100000
open Go Go.RowKit Go.Lib Go.Proofs.Ythgigkklefaeeaa Go.Proofs.Ythgigkklefaeeaa.Facts Go.Proofs.Ythgigkklefaeeaa.Bytes Go.Proofs.Ythgigkklefaeeaa.Puts Go.Proofs.Ythgigkklefaeeaa.Scan Go.Proofs.Ythgigkklefaeeaa.Take Go.Proofs.Ythgigkklefaeeaa.Nums Go.Proofs.Ythgigkklefaeeaa.SumPure Go.Proofs.Ythgigkklefaeeaa.Sum Go.Proofs.Ythgigkklefaeeaa.FP Go.Proofs.Ythgigkklefaeeaa.FW Go.Proofs.Ythgigkklefaeeaa.FX Go.Proofs.Ythgigkklefaeeaa.Ints Go.Proofs.Ythgigkklefaeeaa.PA Go.Proofs.Ythgigkklefaeeaa.RA Go.Proofs.Ythgigkklefaeeaa.RC Go.Proofs.Ythgigkklefaeeaa.RD Go.Proofs.Ythgigkklefaeeaa.RE Go.Proofs.Ythgigkklefaeeaa.RF Go.Proofs.Ythgigkklefaeeaa.RG Go.Proofs.Ythgigkklefaeeaa.RH Go.Proofs.Ythgigkklefaeeaa.RI Go.Proofs.Ythgigkklefaeeaa.RL Go.Proofs.Ythgigkklefaeeaa.RS Go.Proofs.Ythgigkklefaeeaa.RT

theorem frwrap_eq (S : Nat → Prop) (v : Value) (b : List UInt8) (most : Int) (w : World) (x : List UInt8) (y : Int) (h : Rd S w v b) (hq : wrapP b most = (x, y)) :
    Calls Try.prog 31 #[v, .int .i64 most] w fun e w' => ∃ v', e = .returned (.tuple #[v', .int .i64 y]) ∧ Rd (fun k => w.heap.size ≤ k) w' v' x ∧ Grew w w' := by
  have := FX.rwrap_any S v b most w h
  rwa [hq] at this
set_option maxHeartbeats 4000000 in
theorem rwrap_yes (S : Nat → Prop) (x : Ou) (A : Option Addr) (c : Nat) (w : World) (h : Rd S w (.slice A x.d.length c) x.d) (ho : okO x = true) :
    Calls Try.prog 14 #[ov x A c] w fun e w' => ∃ v', e = .returned v' ∧ Rd (fun k => w.heap.size ≤ k) w' v' (fr (pay x)) ∧ Grew w w' := by
  have hle := okO_le ho
  have HWP := Lib.hid (wrapP_pay ho)
  have hpay : pay x = [b8 x.k, b8 x.o, b8 x.e] ++ x.d := rfl
  have HP := Lib.hid hpay
  obtain ⟨k, o, e, d⟩ := x
  unfold ov
  simp only at h hle HP ⊢
  obtain ⟨Y, hY⟩ : ∃ Y, pay ⟨k, o, e, d⟩ = Y := ⟨_, rfl⟩
  rw [hY] at HWP HP
  rw [hY]
  have HLE := Lib.hid hle
  have hmay : mayP k o e d.length = true := ho
  have HMY := Lib.hid hmay
  have g0 : Grew w (w.alloc (.cells #[.int .i64 k, .int .i64 o, .int .i64 e, .slice A d.length c] 25)) := by unfold Grew; go_grown
  have G0 := Lib.hid g0
  have X0 := Lib.hid (heap_alloc_new w (.cells #[.int .i64 k, .int .i64 o, .int .i64 e, .slice A d.length c] 25))
  have R0 := Lib.hid (h.grew g0)
  have U1 := Lib.hid (u8_b8 k)
  have U2 := Lib.hid (u8_b8 o)
  have U3 := Lib.hid (u8_b8 e)
  clear h ho hle hpay hY hmay g0
  go_enter Try.func14, Try.ntmps14
  go_wp2_with fail
  refine (rmay_any k o e A d.length c _).mono ?_
  rintro e2 w1 ⟨rfl, g1⟩
  rw [HMY.out]
  have G1 := Lib.hid (G0.out.trans g1)
  have X1 := FX.keepB X0.out g1
  have R1 := Lib.hid (R0.out.grew g1)
  obtain ⟨x0, x1, x2, x3⟩ := four_c X1
  have ga : Grew w1 (w1.alloc (.cells (bv [b8 k, b8 o, b8 e]).toArray 5)) := (Below.refl _ _).alloc (Nat.le_refl _) _
  have x4 := RC.cellB ga x3
  simp only [bv, List.map_cons, List.map_nil] at x4
  obtain ⟨v4, w4, r4, o4, b4, _⟩ := run_app2 (w1.alloc (.cells (bv [b8 k, b8 o, b8 e]).toArray 5)) w1.heap.size (.slice (some ⟨w1.heap.size, 0, none⟩) 3 3) A c [b8 k, b8 o, b8 e] d _ (lit_own w1 w1.heap.size (Nat.le_refl _) [b8 k, b8 o, b8 e] (by simp)) (R1.out.grew ga) (by have := HLE.out; simp; omega) ga.size
  rw [← HP.out] at o4
  have R4 := Lib.hid r4
  have G4 : Hid (Grew w w4) := Lib.hid (G1.out.trans ((show Below w1.heap.size w1 _ from ga).trans b4))
  have RW := Lib.hid ((Rd.of_own o4 rfl).mono (S' := fun b => w.heap.size ≤ b) fun b hb => Nat.le_trans G1.out.size hb.1)
  obtain ⟨A4, c4, rfl⟩ := own_some o4
  have u1 := U1.out
  have u2 := U2.out
  have u3 := U3.out
  clear g1 G0 X0 R0 HMY X1 ga r4 o4 b4
  go_wp2_with (at_builtin; refine wpList_app' rfl (.tmp 19) (.tmp 21) 23 23 rfl _ _ rfl rfl _ w4 (by exact R4.out) ?_)
  refine (frwrap_eq _ _ Y 250 w4 _ _ RW.out HWP.out).mono ?_
  rintro e2 w9 ⟨v9, rfl, r9, g9⟩
  have R9 := Lib.hid (r9.mono (S' := fun b => w.heap.size ≤ b) fun b hb => Nat.le_trans G4.out.size hb)
  have G9 := Lib.hid (G4.out.trans g9)
  clear r9 g9 x0 x1 x2 x3 x4 u1 u2 u3
  go_wp2
  go_returns
  exact ⟨_, rfl, R9.out, G9.out⟩
theorem rwrap_no (x : Ou) (A : Option Addr) (c : Nat) (w : World) (ho : okO x = false) :
    Calls Try.prog 14 #[ov x A c] w fun e w' => e = .returned (.slice none 0 0) ∧ Grew w w' := by
  have hmay : mayP x.k x.o x.e x.d.length = false := ho
  obtain ⟨k, o, e, d⟩ := x
  unfold ov
  simp only at hmay ⊢
  have HMY := Lib.hid hmay
  have g0 : Grew w (w.alloc (.cells #[.int .i64 k, .int .i64 o, .int .i64 e, .slice A d.length c] 25)) := by unfold Grew; go_grown
  have G0 := Lib.hid g0
  clear ho hmay g0
  go_enter Try.func14, Try.ntmps14
  go_wp2_with fail
  refine (rmay_any k o e A d.length c _).mono ?_
  rintro e2 w1 ⟨rfl, g1⟩
  rw [HMY.out]
  have G1 := Lib.hid (G0.out.trans g1)
  clear g1 G0 HMY
  go_wp2
  go_returns
  exact ⟨rfl, G1.out⟩
theorem rwrap_any (S : Nat → Prop) (x : Ou) (A : Option Addr) (c : Nat) (w : World) (h : Rd S w (.slice A x.d.length c) x.d) :
    Calls Try.prog 14 #[ov x A c] w fun e w' => ∃ v', e = .returned v' ∧ Rd (fun k => w.heap.size ≤ k) w' v' (wrapO x) ∧ Grew w w' := by
  unfold wrapO
  cases ho : okO x with
  | true =>
    rw [if_pos rfl]
    exact rwrap_yes S x A c w h ho
  | false =>
    rw [if_neg (by decide)]
    refine (rwrap_no x A c w ho).mono ?_
    rintro e w' ⟨rfl, hg⟩
    exact ⟨_, rfl, Rd.nil _ _, hg⟩
end Go.Proofs.Ythgigkklefaeeaa.RU
