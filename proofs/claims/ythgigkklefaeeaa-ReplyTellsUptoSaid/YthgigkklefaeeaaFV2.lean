/-
  All frames, by the document.
  Conditions: those that each lemma names.
-/
import Derived.Test.YthgigkklefaeeaaFV
namespace Go.Proofs.Ythgigkklefaeeaa.FV2
set_option maxRecDepth 100000
set_option maxRecDepth 100000
open Go Go.RowKit Go.Lib Go.Proofs.Ythgigkklefaeeaa Go.Proofs.Ythgigkklefaeeaa.Facts Go.Proofs.Ythgigkklefaeeaa.Bytes Go.Proofs.Ythgigkklefaeeaa.Puts Go.Proofs.Ythgigkklefaeeaa.Scan Go.Proofs.Ythgigkklefaeeaa.Take Go.Proofs.Ythgigkklefaeeaa.Nums Go.Proofs.Ythgigkklefaeeaa.SumPure Go.Proofs.Ythgigkklefaeeaa.Sum Go.Proofs.Ythgigkklefaeeaa.FP Go.Proofs.Ythgigkklefaeeaa.FW Go.Proofs.Ythgigkklefaeeaa.FX Go.Proofs.Ythgigkklefaeeaa.FT Go.Proofs.Ythgigkklefaeeaa.FU Go.Proofs.Ythgigkklefaeeaa.FS Go.Proofs.Ythgigkklefaeeaa.FV

set_option maxHeartbeats 4000000 in
theorem rall_core (S : Nat → Prop) (v : Value) (l : List UInt8) (most : Int) (w : World) (hS : ∀ b, S b → b < w.heap.size) (h : Rd S w v l) (hl : l.length ≤ 1048576) :
    Calls Try.prog 28 #[v, .int .i64 most] w fun e w' => ∃ v', e = .returned (.tuple #[v', .int .i64 (allP l most).2]) ∧ BS w.heap.size w' v' (allP l most).1 ∧ Grew w w' := by
  obtain ⟨A, c, rfl, hlc, hcm, _, _⟩ := id h
  have HR := Lib.hid h
  have HL := Lib.hid hl
  have HLC := Lib.hid hlc
  have hSS := Lib.hid hS
  obtain ⟨R, hR⟩ : ∃ R, allP l most = R := ⟨_, rfl⟩
  rw [hR]
  unfold allP at hR
  have HRR := Lib.hid hR
  clear h hR hlc hcm hl hS
  go_enter Try.func28, Try.ntmps28
  go_wp2
  go_loopg [6, 7] l.length (fun g s6 s7 wx => ∃ (said : List (List UInt8)) (n5 : Nat) (A5 : Option Addr) (c5 : Nat) (i : Nat), s6 = .slice A5 n5 c5 ∧ s7 = .int .i64 (i : Int) ∧ Hid (goP most g said (l.drop i) = R) ∧ Hid (l.length ≤ g + i) ∧ Hid (said.length ≤ i) ∧ Hid (i ≤ l.length) ∧ Hid (Grew w wx) ∧ Hid (BS w.heap.size wx (.slice A5 n5 c5) said))
  case atStart => exact ⟨[], 0, none, 0, 0, rfl, rfl, Lib.hid (by rw [List.drop_zero]; exact HRR.out), Lib.hid (Nat.le_refl _), Lib.hid (Nat.le_refl _), Lib.hid (Nat.zero_le _), Lib.hid (Grew.refl _), Lib.hid (BS.nil _ _)⟩
  case round =>
    obtain ⟨said, n5, A5, c5, i, rfl, rfl, HX, HG7, HSR, HIL, HG, HB⟩ := hrel
    by_cases hz : i = l.length
    · have hz3 : ¬ ((i : Int) < (l.length : Int)) := by omega
      have HE : Hid (R = (said, 0)) := Lib.hid (by
        have hlen : (l.drop i).length = 0 := by rw [List.length_drop]; omega
        rw [← HX.out]
        cases gk with
        | zero => rfl
        | succ g => unfold goP; rw [if_pos hlen])
      clear hz
      go_wp2
      go_returns
      rw [HE.out]
      exact ⟨_, rfl, HB.out, HG.out⟩
    · have hil := HIL.out
      have hz3 : (i : Int) < (l.length : Int) := by omega
      cases gk with
      | zero => exact absurd HG7.out (by omega)
      | succ g =>
        have hz0 : ¬ (l.drop i).length = 0 := by rw [List.length_drop]; omega
        obtain ⟨⟨x, q, e0⟩, ht⟩ : ∃ y, takeP (l.drop i) most = y := ⟨_, rfl⟩
        have HT := Lib.hid ht
        have hx := HX.out
        unfold goP at hx
        rw [if_neg hz0, ht] at hx
        simp only at hx
        obtain ⟨A2, hA2, hr2⟩ := cut_from (HR.out.grew HG.out) i hil (by omega)
        have hci : ¬ c = i := by have := HLC.out; omega
        rw [if_neg hci] at hA2
        injection hA2 with hA2 hA3 _
        have HD := Lib.hid hr2
        have HX2 := Lib.hid hx
        have HDL : Hid ((l.drop i).length = l.length - i) := Lib.hid (by rw [List.length_drop])
        clear ht hz hz0 hx hr2
        obtain ⟨D, hD⟩ : ∃ D, l.drop i = D := ⟨_, rfl⟩
        have HDE := Lib.hid hD
        rw [hD] at HT HD HDL hA3
        obtain ⟨d7, hd7⟩ : ∃ d7, c - i = d7 := ⟨_, rfl⟩
        rw [hd7] at HD
        have hq0 : 0 ≤ (i : Int) ∧ (i : Int) ≤ (l.length : Int) := by omega
        clear hil
        go_wp2_with fail
        try rw [hA2, hA3, hd7]
        clear hA2 hA3 hd7 hD
        refine (rtake_any S _ D most wr HD.out).mono ?_
        rintro e w1 ⟨v1, rfl, r1, g1⟩
        rw [HT.out] at r1 ⊢
        simp only at r1 ⊢
        obtain ⟨A1, c1, rfl, _⟩ := id r1
        have R1 := Lib.hid r1
        have G1 := Lib.hid g1
        clear r1 g1
        by_cases he : e0 = 0
        · subst he
          have hx := HX2.out
          rw [if_pos rfl, HDE.out] at hx
          have hq := take_ok HT.out
          have HQ := Lib.hid hq
          have hwq : IntKind.i64.wrap ((i : Int) + (q : Int)) = ((i + q : Nat) : Int) := by have := HL.out; have := HDL.out; rw [IntWalk.i64_in _ (by omega)]; omega
          have HX3 : Hid (goP most g (said ++ [x]) (l.drop (i + q)) = R) := Lib.hid (by rw [← hx, ← HDE.out, List.drop_drop])
          have hnb : ∀ b, S b → (Value.slice A5 n5 c5).ownBlock ≠ some b := fun b hb e => by
            have := (bs_apart HB.out b e).1
            have := hSS.out b hb
            omega
          obtain ⟨A9, c9, W9, hr9, hb9, hg9⟩ := bs_app w1 w.heap.size (.slice A5 n5 c5) said _ (.slice A1 x.length c1) x (HB.out.grew G1.out) rfl R1.out hnb (by have := HSR.out; have := HIL.out; have := HL.out; omega) (Nat.le_trans HG.out.size G1.out.size)
          obtain ⟨n9, hn9⟩ : ∃ n9, (said ++ [x]).length = n9 := ⟨_, rfl⟩
          rw [hn9] at hr9 hb9
          have HR9 := Lib.hid hr9
          have HB9 := Lib.hid hb9
          have HG9 : Hid (Grew w W9) := Lib.hid ((show Below w.heap.size w w1 from HG.out.trans G1.out).trans hg9)
          have HLN : Hid ((said ++ [x]).length = said.length + 1) := Lib.hid (by simp)
          clear hnb hr9 hb9 hg9 hx hq hn9
          go_wp2_with (at_builtin; refine wpList_app' (by rfl) (.tmp 27) (.tmp 29) 52 52 (by with_reducible rfl) _ _ (by rfl) (by rfl) _ W9 (by exact HR9.out) ?_)
          go_roundg g
          case measure => omega
          case rel => exact ⟨said ++ [x], n9, A9, c9, i + q, rfl, by first | rfl | (rw [hwq]), HX3, Lib.hid (by have := HQ.out; have := HG7.out; omega), Lib.hid (by have := HQ.out; have := HSR.out; have := HLN.out; omega), Lib.hid (by have := HQ.out; have := HDL.out; have := HIL.out; omega), HG9, HB9⟩
        · have hx := HX2.out
          rw [if_neg he] at hx
          have he2 : (e0 != 0) = true := by simpa using he
          have HE := Lib.hid hx
          clear hx he
          go_wp2
          go_returns
          rw [← HE.out]
          exact ⟨_, rfl, BS.nil _ _, HG.out.trans G1.out⟩
theorem rall_any (S : Nat → Prop) (v : Value) (l : List UInt8) (most : Int) (w : World) (h : Rd S w v l) (hl : l.length ≤ 1048576) :
    Calls Try.prog 28 #[v, .int .i64 most] w fun e w' => ∃ v', e = .returned (.tuple #[v', .int .i64 (allP l most).2]) ∧ BS w.heap.size w' v' (allP l most).1 ∧ Grew w w' :=
  rall_core (fun b => S b ∧ b < w.heap.size) v l most w (fun _b hb => hb.2) h.lt hl
end Go.Proofs.Ythgigkklefaeeaa.FV2
