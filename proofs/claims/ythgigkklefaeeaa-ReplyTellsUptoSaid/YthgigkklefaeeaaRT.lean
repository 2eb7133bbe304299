/-
  Numbers as bytes, by the document.
  Conditions: those that each lemma names.
-/
import Derived.Test.YthgigkklefaeeaaRL
import Derived.Test.YthgigkklefaeeaaRefs
namespace Go.Proofs.Ythgigkklefaeeaa.RT
set_option maxRecDepth 100000
open Go Go.RowKit Go.Lib Go.Proofs.Ythgigkklefaeeaa Go.Proofs.Ythgigkklefaeeaa.Facts Go.Proofs.Ythgigkklefaeeaa.Bytes Go.Proofs.Ythgigkklefaeeaa.Puts Go.Proofs.Ythgigkklefaeeaa.Scan Go.Proofs.Ythgigkklefaeeaa.Take Go.Proofs.Ythgigkklefaeeaa.Nums Go.Proofs.Ythgigkklefaeeaa.SumPure Go.Proofs.Ythgigkklefaeeaa.Sum Go.Proofs.Ythgigkklefaeeaa.FP Go.Proofs.Ythgigkklefaeeaa.FW Go.Proofs.Ythgigkklefaeeaa.FX Go.Proofs.Ythgigkklefaeeaa.Ints Go.Proofs.Ythgigkklefaeeaa.PA Go.Proofs.Ythgigkklefaeeaa.RA Go.Proofs.Ythgigkklefaeeaa.RC Go.Proofs.Ythgigkklefaeeaa.RD Go.Proofs.Ythgigkklefaeeaa.RE Go.Proofs.Ythgigkklefaeeaa.RF Go.Proofs.Ythgigkklefaeeaa.RG Go.Proofs.Ythgigkklefaeeaa.RH Go.Proofs.Ythgigkklefaeeaa.RI Go.Proofs.Ythgigkklefaeeaa.RL

theorem u8_b8 (z : Int) : IntKind.u8.wrap z = ((b8 z).toNat : Int) := by
  unfold b8
  rw [IntKind.wrap_u64, IntKind.wrap_u8]
  simp
  omega

set_option maxHeartbeats 2000000 in
theorem rnums_any (w : World) (A0 : Option Addr) (c0 : Nat) (l : List Int) (h : Is w (.slice A0 l.length c0) l) (hl : l.length ≤ 140737488355327) : Calls Try.prog 18 #[.slice A0 l.length c0] w fun e w' => ∃ v', e = .returned v' ∧ Rd (fun b => w.heap.size ≤ b ∧ b < w'.heap.size) w' v' (ob l) ∧ Grew w w' := by
  have H := Lib.hid h
  have HL := Lib.hid hl
  clear h hl
  go_enter Try.func18, Try.ntmps18
  go_wp2
  go_loopg [3, 4] l.length (fun g s5 s10 wx => ∃ (k n : Nat) (A : Option Addr) (c : Nat), k + g = l.length ∧ s10 = .int .i64 (k : Int) ∧ s5 = .slice A n c ∧ Hid (n = (ob (l.take k)).length) ∧ Hid (wx.ownsRow w.heap.size 5 1 (.slice A n c) (ob (l.take k)).length (bv (ob (l.take k)))) ∧ Hid (Grew w wx))
  case atStart => exact ⟨0, 0, none, 0, by omega, rfl, rfl, Lib.hid rfl, Lib.hid (World.ownsRow_nil _ _ _ _), Lib.hid (Grew.refl _)⟩
  case round =>
    obtain ⟨k, n, A, c, hkg, rfl, rfl, HN, HO, HG⟩ := hrel
    cases gk with
    | zero =>
      have hkz : ¬ ((k : Int) < (l.length : Int)) := by omega
      have HD : Hid (Rd (fun b => w.heap.size ≤ b ∧ b < wr.heap.size) wr (.slice A n c) (ob l)) := Lib.hid (by
        have := HO.out
        have hn := HN.out
        rw [List.take_of_length_le (by omega)] at this hn
        exact Rd.of_own (by rw [hn] at this ⊢; exact this) rfl)
      clear HO HN hkg
      go_wp2
      go_returns
      exact ⟨_, rfl, HD.out, HG.out⟩
    | succ g =>
      have hkz : ((k : Int) < (l.length : Int)) := by omega
      obtain ⟨x, hx⟩ : ∃ x, l[k]? = some x := ⟨_, List.getElem?_eq_getElem (by omega)⟩
      obtain ⟨ad, c', e, hlc, hc0⟩ := PA.Is_at (Is.grew H.out HG.out) hx
      injection e with e1 _ e3
      subst e1 e3
      have hxe : l[k] = x := by rw [List.getElem?_eq_getElem (by omega)] at hx; injection hx
      have HT : Hid (ob (l.take (k + 1)) = ob (l.take k) ++ [b8 x]) := Lib.hid (by
        unfold ob
        rw [List.take_succ_eq_append_getElem (by omega), List.map_append]
        simp [hxe])
      have hwi : wrap64 ((k : Int) + 1) = ((k + 1 : Nat) : Int) := by have := HL.out; unfold wrap64; omega
      have HWI := Lib.hid hwi
      have HKG := Lib.hid hkg
      have HLK : Hid ((ob (l.take k)).length ≤ k) := Lib.hid (by simp [ob]; omega)
      clear hx hxe hwi hkg
      have HU8 := Lib.hid (u8_b8 x)
      have hu8 := HU8.out
      have gb : Grew wr (wr.alloc (.cells #[.int .u8 ((b8 x).toNat : Int)] 5)) := (Below.refl _ _).alloc (Nat.le_refl _) _
      have y2 : Rd (fun _ => True) (wr.alloc (.cells #[.int .u8 ((b8 x).toNat : Int)] 5)) (.slice (some ⟨wr.heap.size, 0, none⟩) 1 1) [b8 x] := RL.lit_rd wr [b8 x] (0, 0) (by simp [maxLen])
      obtain ⟨v4, w4, r4, o4, b4, _⟩ := run_app2 (wr.alloc (.cells #[.int .u8 ((b8 x).toNat : Int)] 5)) w.heap.size (.slice A n c) (some ⟨wr.heap.size, 0, none⟩) 1 _ [b8 x] _ (own_grew HO.out gb) y2 (by have := HLK.out; have := HL.out; simp; omega) (Nat.le_trans HG.out.size gb.size)
      rw [← HT.out] at o4
      obtain ⟨A4, c4, rfl⟩ := own_some o4
      have HR4 := Lib.hid r4
      have HO4 := Lib.hid o4
      have HG4 : Hid (Grew w w4) := Lib.hid ((show Below w.heap.size _ _ from HG.out.trans gb).trans b4)
      obtain ⟨n4, hn4⟩ : ∃ n4, (ob (l.take (k + 1))).length = n4 := ⟨_, rfl⟩
      have HN4 := Lib.hid hn4
      rw [hn4] at HR4
      clear gb y2 r4 o4 b4 hn4
      have hwi := HWI.out
      go_wp2_with (at_builtin; refine wpList_app' rfl (.tmp 11) (.tmp 17) 23 23 rfl _ _ rfl rfl _ w4 (by exact HR4.out) ?_)
      go_roundg g
      case measure => have := HKG.out; omega
      case rel => exact ⟨k + 1, n4, A4, c4, by have := HKG.out; omega, by first | rfl | simp [hwi], rfl, Lib.hid HN4.out.symm, Lib.hid (by have := HO4.out; rw [← HN4.out]; exact this), HG4⟩

set_option maxHeartbeats 2000000 in
theorem ramounts_any (w : World) (A0 : Option Addr) (c0 : Nat) (l : List Nat) (h : Us w (.slice A0 l.length c0) l) (hz : ∀ z ∈ l, z < 18446744073709551616) (hl : l.length ≤ 17592186044415) : Calls Try.prog 21 #[.slice A0 l.length c0] w fun e w' => ∃ v', e = .returned v' ∧ Rd (fun b => w.heap.size ≤ b ∧ b < w'.heap.size) w' v' (ou l) ∧ Grew w w' := by
  have H := Lib.hid h
  have HL := Lib.hid hl
  clear h hl
  go_enter Try.func21, Try.ntmps21
  go_wp2
  go_loopg [3, 4] l.length (fun g s5 s10 wx => ∃ (k n : Nat) (A : Option Addr) (c : Nat), k + g = l.length ∧ s10 = .int .i64 (k : Int) ∧ s5 = .slice A n c ∧ Hid (n = (ou (l.take k)).length) ∧ Hid (wx.ownsRow w.heap.size 5 1 (.slice A n c) (ou (l.take k)).length (bv (ou (l.take k)))) ∧ Hid (Grew w wx))
  case atStart => exact ⟨0, 0, none, 0, by omega, rfl, rfl, Lib.hid rfl, Lib.hid (World.ownsRow_nil _ _ _ _), Lib.hid (Grew.refl _)⟩
  case round =>
    obtain ⟨k, n, A, c, hkg, rfl, rfl, HN, HO, HG⟩ := hrel
    cases gk with
    | zero =>
      have hkz : ¬ ((k : Int) < (l.length : Int)) := by omega
      have HD : Hid (Rd (fun b => w.heap.size ≤ b ∧ b < wr.heap.size) wr (.slice A n c) (ou l)) := Lib.hid (by
        have := HO.out
        have hn := HN.out
        rw [List.take_of_length_le (by omega)] at this hn
        exact Rd.of_own (by rw [hn] at this ⊢; exact this) rfl)
      clear HO HN hkg
      go_wp2
      go_returns
      exact ⟨_, rfl, HD.out, HG.out⟩
    | succ g =>
      have hkz : ((k : Int) < (l.length : Int)) := by omega
      obtain ⟨x, hx⟩ : ∃ x, l[k]? = some x := ⟨_, List.getElem?_eq_getElem (by omega)⟩
      obtain ⟨ad, c', e, hc0⟩ := Us_at (Rw.grew H.out HG.out) hx
      injection e with e1 _ e3
      subst e1 e3
      have hxe : l[k] = x := by rw [List.getElem?_eq_getElem (by omega)] at hx; injection hx
      have HXB := Lib.hid (hz x (List.mem_of_getElem? hx))
      have HT : Hid (ou (l.take (k + 1)) = ou (l.take k) ++ (be 8 x)) := Lib.hid (by
        unfold ou
        rw [List.take_succ_eq_append_getElem (by omega), List.map_append]
        simp [hxe])
      have hwi : wrap64 ((k : Int) + 1) = ((k + 1 : Nat) : Int) := by have := HL.out; unfold wrap64; omega
      have HWI := Lib.hid hwi
      have HKG := Lib.hid hkg
      have HLK : Hid ((ou (l.take k)).length ≤ 8 * k) := Lib.hid (by rw [ou_len, List.length_take]; omega)
      clear hx hxe hwi hkg
      have hn := HN.out
      subst hn
      have hNA := Refs.num_any _ (.slice A (ou (l.take k)).length c) (ou (l.take k)) x 8 wr (Rd.of_own HO.out rfl) (by have := HLK.out; have := HL.out; omega) HXB.out
      rw [show width 8 = 8 by decide] at hNA
      have HNA := Lib.hid hNA
      clear hNA
      go_wp2_with fail
      refine HNA.out.mono ?_
      rintro e w4 ⟨v4, rfl, o4, g4⟩
      have o4' : w4.ownsRow w.heap.size 5 1 v4 (ou (l.take (k + 1))).length (bv (ou (l.take (k + 1)))) := by
        rw [HT.out, List.length_append, be_length]
        exact ⟨o4.1, o4.2.imp id fun ⟨g, cap, cur, r1, r2, r⟩ => ⟨g, cap, cur, r1, Nat.le_trans HG.out.size r2, r⟩⟩
      obtain ⟨A4, c4, rfl⟩ := own_some o4'
      have HO4 := Lib.hid o4'
      have HG4 := Lib.hid (HG.out.trans g4)
      clear o4 o4' g4 HO HG HNA
      have hwi := HWI.out
      go_wp2
      go_roundg g
      case measure => have := HKG.out; omega
      case rel => exact ⟨k + 1, _, A4, c4, by have := HKG.out; omega, by first | rfl | simp [hwi], rfl, Lib.hid rfl, HO4, HG4⟩
end Go.Proofs.Ythgigkklefaeeaa.RT
