/-
  Numbers as bytes, by the program.
  Conditions: those that each lemma names.
-/
import Derived.Test.YthgigkklefaeeaaRC
import Derived.Test.YthgigkklefaeeaaPA
namespace Go.Proofs.Ythgigkklefaeeaa.RD
set_option maxRecDepth 100000
open Go Go.RowKit Go.Lib Go.Proofs.Ythgigkklefaeeaa Go.Proofs.Ythgigkklefaeeaa.Facts Go.Proofs.Ythgigkklefaeeaa.Bytes Go.Proofs.Ythgigkklefaeeaa.Puts Go.Proofs.Ythgigkklefaeeaa.Scan Go.Proofs.Ythgigkklefaeeaa.Take Go.Proofs.Ythgigkklefaeeaa.Nums Go.Proofs.Ythgigkklefaeeaa.SumPure Go.Proofs.Ythgigkklefaeeaa.Sum Go.Proofs.Ythgigkklefaeeaa.FP Go.Proofs.Ythgigkklefaeeaa.FW Go.Proofs.Ythgigkklefaeeaa.FX Go.Proofs.Ythgigkklefaeeaa.Ints Go.Proofs.Ythgigkklefaeeaa.PA Go.Proofs.Ythgigkklefaeeaa.RA Go.Proofs.Ythgigkklefaeeaa.RC

/-- A number as one byte. -/
def b8 (z : Int) : UInt8 := UInt8.ofNat (IntKind.u64.wrap z).toNat
theorem wrap_nat (z : Int) : IntKind.u64.wrap z = ((IntKind.u64.wrap z).toNat : Int) := by
  rw [IntKind.wrap_u64]
  omega
theorem be_one (n : Nat) : be 1 n = [UInt8.ofNat n] := by simp [be, byteAt]
theorem width1 : width 1 = 1 := by decide
theorem num1_any (z : Int) (w : World) : Calls Try.prog 33 #[.int .i64 z] w fun e w' => ∃ v', e = .returned v' ∧ Rd (fun k => w.heap.size ≤ k ∧ k < w'.heap.size) w' v' [b8 z] ∧ Grew w w' := by
  have HW := Lib.hid (wrap_nat z)
  have hb : be 1 (IntKind.u64.wrap z).toNat = [b8 z] := be_one _
  have HB := Lib.hid hb
  clear hb
  generalize (IntKind.u64.wrap z).toNat = nn at *
  have hw := HW.out
  go_enter Try.func33, Try.ntmps33
  go_wp2_with fail
  have := Puts.num_any (fun _ => True) (.slice none 0 0) [] nn 1 w (Rd.nil _ _) (by simp)
  rw [width1] at this
  refine this.mono ?_
  rintro e w1 ⟨v1, rfl, o1, g1⟩
  rw [List.nil_append, HB.out] at o1
  go_wp2
  go_returns
  exact ⟨_, rfl, Rd.of_own o1 rfl, g1⟩
theorem num8_any (n : Nat) (w : World) : Calls Try.prog 38 #[.int .u64 n] w fun e w' => ∃ v', e = .returned v' ∧ Rd (fun k => w.heap.size ≤ k ∧ k < w'.heap.size) w' v' (be 8 n) ∧ Grew w w' := by
  go_enter Try.func38, Try.ntmps38
  go_wp2_with fail
  have := Puts.num_any (fun _ => True) (.slice none 0 0) [] n 8 w (Rd.nil _ _) (by simp)
  rw [show width 8 = 8 by decide] at this
  refine this.mono ?_
  rintro e w1 ⟨v1, rfl, o1, g1⟩
  rw [List.nil_append] at o1
  go_wp2
  go_returns
  exact ⟨_, rfl, Rd.of_own (l := be 8 n) o1 (by rw [be_length]; rfl), g1⟩
def ob (l : List Int) : List UInt8 := l.map b8

set_option maxHeartbeats 2000000 in
theorem eachI (w : World) (A0 : Option Addr) (c0 : Nat) (l : List Int) (h : Is w (.slice A0 l.length c0) l) (hl : l.length ≤ 140737488355328) : Calls Try.prog 32 #[.slice A0 l.length c0, .func (Fn.func 33) #[] #[]] w fun e w' => ∃ v', e = .returned v' ∧ w'.ownsRow w.heap.size 5 1 v' (ob l).length (bv (ob l)) ∧ Grew w w' := by
  have H := Lib.hid h
  have HL := Lib.hid hl
  clear h hl
  go_enter Try.func32, Try.ntmps32
  go_wp2
  go_loopg [5, 10] l.length (fun g s5 s10 wx => ∃ (k n : Nat) (A : Option Addr) (c : Nat), k + g = l.length ∧ s10 = .int .i64 (k : Int) ∧ s5 = .slice A n c ∧ Hid (n = (ob (l.take k)).length) ∧ Hid (wx.ownsRow w.heap.size 5 1 (.slice A n c) (ob (l.take k)).length (bv (ob (l.take k)))) ∧ Hid (Grew w wx))
  case atStart => exact ⟨0, 0, none, 0, by omega, rfl, rfl, Lib.hid rfl, Lib.hid (World.ownsRow_nil _ _ _ _), Lib.hid (Grew.refl _)⟩
  case round =>
    obtain ⟨k, n, A, c, hkg, rfl, rfl, HN, HO, HG⟩ := hrel
    cases gk with
    | zero =>
      have hkz : ¬ ((k : Int) < (l.length : Int)) := by omega
      have HO2 : Hid (wr.ownsRow w.heap.size 5 1 (.slice A n c) (ob l).length (bv (ob l))) := Lib.hid (by have := HO.out; rwa [List.take_of_length_le (by omega)] at this)
      clear HO HN hkg
      go_wp2
      go_returns
      exact ⟨_, rfl, HO2.out, HG.out⟩
    | succ g =>
      have hkz : ((k : Int) < (l.length : Int)) := by omega
      obtain ⟨ad, c', e, _, hcell⟩ := (Is.grew H.out HG.out).cell (k := k) (by omega)
      injection e with e1 _ e3
      subst e1 e3
      have HT : Hid (ob (l.take (k + 1)) = ob (l.take k) ++ [b8 (l[k]?.getD 0)]) := Lib.hid (by
        unfold ob
        rw [List.take_succ_eq_append_getElem (by omega), List.map_append]
        simp [show k < l.length by omega])
      generalize l[k]?.getD 0 = x at *
      have hkz2 := hkz
      clear hkz
      have hkz := hkz2
      have HK := Lib.hid (show k + 1 ≤ l.length by omega)
      go_wp2_with fail
      refine (num1_any x wr).mono ?_
      rintro e w2 ⟨v2, rfl, r2, g2⟩
      obtain ⟨A2, c2, rfl, _⟩ := id r2
      have g2 : Grew wr w2 := Grew.trans (Grew.refl _) g2
      obtain ⟨v4, w4, r4, o4, b4, _⟩ := run_app2 w2 w.heap.size _ A2 c2 _ [b8 x] _ (own_grew HO.out g2) r2 (by have := HL.out; simp [ob]; omega) (Nat.le_trans HG.out.size g2.size)
      rw [← HT.out] at o4
      obtain ⟨A4, c4, rfl⟩ := own_some o4
      have HR4 := Lib.hid r4
      have HO4 := Lib.hid o4
      have HG4 : Hid (Grew w w4) := Lib.hid ((show Below w.heap.size _ _ from HG.out.trans g2).trans b4)
      obtain ⟨n4, hn4⟩ : ∃ n4, (ob (l.take (k + 1))).length = n4 := ⟨_, rfl⟩
      have HN4 := Lib.hid hn4
      rw [hn4] at HR4
      clear r4 o4 b4 g2 r2 hn4
      go_wp2_with (at_builtin; refine wpList_app' rfl (.tmp 14) (.tmp 17) 23 23 rfl _ _ rfl rfl _ w4 (by exact HR4.out) ?_)
      go_roundg g
      case measure => omega
      case rel => exact ⟨k + 1, n4, A4, c4, by omega, by first | rfl | (rw [PA.wr1b (n := l.length) (by omega) (by have := HL.out; omega)]), rfl, Lib.hid HN4.out.symm, Lib.hid (by have := HO4.out; rw [← HN4.out]; exact this), HG4⟩

theorem nums_any (w : World) (v : Value) (l : List Int) (h : Is w v l) (hl : l.length ≤ 140737488355328) : Calls Try.prog 17 #[v] w fun e w' => ∃ v', e = .returned v' ∧ w'.ownsRow w.heap.size 5 1 v' (ob l).length (bv (ob l)) ∧ Grew w w' := by
  obtain ⟨A, c, rfl, _⟩ := PA.Is.slice h
  have H := Lib.hid h
  have HL := Lib.hid hl
  clear h hl
  go_enter Try.func17, Try.ntmps17
  go_wp2_with fail
  refine (eachI w A c l H.out HL.out).mono ?_
  rintro e w1 ⟨v1, rfl, o1, g1⟩
  go_wp2
  go_returns
  exact ⟨_, rfl, o1, g1⟩
end Go.Proofs.Ythgigkklefaeeaa.RD
