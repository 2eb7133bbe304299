/-
  All frames, by the program.
  Conditions: those that each lemma names.
-/
import Derived.Test.YthgigkklefaeeaaFS
import Derived.Deep.DeepCutAuto
namespace Go.Proofs.Ythgigkklefaeeaa.FV
set_option maxRecDepth 100000
set_option maxRecDepth 100000
open Go Go.RowKit Go.Lib Go.Proofs.Ythgigkklefaeeaa Go.Proofs.Ythgigkklefaeeaa.Facts Go.Proofs.Ythgigkklefaeeaa.Bytes Go.Proofs.Ythgigkklefaeeaa.Puts Go.Proofs.Ythgigkklefaeeaa.Scan Go.Proofs.Ythgigkklefaeeaa.Take Go.Proofs.Ythgigkklefaeeaa.Nums Go.Proofs.Ythgigkklefaeeaa.SumPure Go.Proofs.Ythgigkklefaeeaa.Sum Go.Proofs.Ythgigkklefaeeaa.FP Go.Proofs.Ythgigkklefaeeaa.FW Go.Proofs.Ythgigkklefaeeaa.FX Go.Proofs.Ythgigkklefaeeaa.FT Go.Proofs.Ythgigkklefaeeaa.FU Go.Proofs.Ythgigkklefaeeaa.FS

theorem take_ok {l : List UInt8} {most : Int} {x : List UInt8} {q : Nat} (h : takeP l most = (x, q, 0)) : 3 ≤ q ∧ q ≤ l.length := by
  unfold takeP at h
  split at h
  · injection h with _ h; injection h with _ h; cases h
  · split at h
    · injection h with _ h; injection h with _ h; cases h
    · split at h
      · injection h with _ h; injection h with _ h; cases h
      · split at h
        · injection h with _ h; injection h with h _; omega
        · injection h with _ h; injection h with _ h; cases h
theorem cut_from {S : Nat → Prop} {w : World} {A : Option Addr} {c : Nat} {l : List UInt8} (h : Rd S w (.slice A l.length c) l) (q : Nat) (hq : q ≤ l.length) (_h1 : 1 ≤ l.length) :
    ∃ A', (Value.slice (if c = q then A else A.map (·.add q)) (l.length - q) (c - q)) = .slice A' (l.drop q).length (c - q) ∧ Rd S w (.slice A' (l.drop q).length (c - q)) (l.drop q) := by
  have hc : l.length ≤ c := by obtain ⟨_, _, e, h1, _⟩ := id h; injection e with _ _ e3; subst e3; exact h1
  have e1 : l.length - q = (l.drop q).length := by rw [List.length_drop]
  obtain ⟨_, h2⟩ := cut_rd h hq
  rw [e1] at h2 ⊢
  exact ⟨_, rfl, h2⟩
theorem bs_len {base : Nat} {w : World} {v : Value} {l : List (List UInt8)} (h : BS base w v l) : ∃ A c, v = .slice A l.length c := by
  obtain ⟨ws, ho, _⟩ := h
  exact own_sl ho
theorem bs_apart {base : Nat} {w : World} {v : Value} {l : List (List UInt8)} (h : BS base w v l) : ∀ b, v.ownBlock = some b → base ≤ b ∧ b < w.heap.size := fun b e => by
  obtain ⟨ws, ho, _⟩ := h
  rcases ho.2 with ⟨e2, _⟩ | ⟨g2, cap, cur, e2, hb, hg2, _⟩
  · rw [e2] at e; cases e
  · rw [e2] at e
    simp [Value.ownBlock] at e
    subst e
    exact ⟨hb, (Array.getElem?_eq_some_iff.1 hg2).1⟩
set_option maxHeartbeats 4000000 in
theorem all_core (S : Nat → Prop) (v : Value) (l : List UInt8) (most : Int) (w : World) (hS : ∀ b, S b → b < w.heap.size) (h : Rd S w v l) (hl : l.length ≤ 1048576) :
    Calls Try.prog 27 #[v, .int .i64 most] w fun e w' => ∃ v', e = .returned (.tuple #[v', .int .i64 (allP l most).2]) ∧ BS w.heap.size w' v' (allP l most).1 ∧ Grew w w' := by
  obtain ⟨A, c, rfl, hlc, hcm, _, _⟩ := id h
  have HR := Lib.hid h
  have HL := Lib.hid hl
  have hSS := Lib.hid hS
  obtain ⟨R, hR⟩ : ∃ R, allP l most = R := ⟨_, rfl⟩
  rw [hR]
  unfold allP at hR
  have HRR := Lib.hid hR
  clear h hR hlc hcm hl hS
  go_enter Try.func27, Try.ntmps27
  go_wp2
  go_step3
  go_wp2
  go_step3
  go_wp2
  go_loopg [6, 7] l.length (fun g s6 s7 wx => ∃ (said : List (List UInt8)) (rest : List UInt8) (n5 : Nat) (A5 : Option Addr) (c5 : Nat) (A7 : Option Addr) (c7 : Nat), s6 = .slice A5 n5 c5 ∧ s7 = .slice A7 rest.length c7 ∧ Hid (goP most g said rest = R) ∧ Hid (rest.length ≤ g) ∧ Hid (said.length + rest.length ≤ 1048576) ∧ Hid (Grew w wx) ∧ Hid (BS w.heap.size wx (.slice A5 n5 c5) said) ∧ Hid (Rd S wx (.slice A7 rest.length c7) rest))
  case atStart => exact ⟨[], l, 0, none, 0, A, c, rfl, rfl, HRR, Lib.hid (Nat.le_refl _), Lib.hid (by have := HL.out; simp; omega), Lib.hid (Grew.refl _), Lib.hid (BS.nil _ _), HR⟩
  case round =>
    obtain ⟨said, rest, n5, A5, c5, A7, c7, rfl, rfl, HX, HG7, HSR, HG, HB, HD⟩ := hrel
    obtain ⟨⟨x, q, e0⟩, ht⟩ : ∃ y, takeP rest most = y := ⟨_, rfl⟩
    have HT := Lib.hid ht
    clear ht
    go_wp2_with fail
    refine (take_any S _ rest most wr HD.out).mono ?_
    rintro e w1 ⟨v1, rfl, r1, g1⟩
    rw [HT.out] at r1 ⊢
    simp only at r1 ⊢
    obtain ⟨A1, c1, rfl, _⟩ := id r1
    have R1 := Lib.hid r1
    have G1 := Lib.hid g1
    clear r1 g1
    by_cases hz : rest.length = 0
    · have hz2 : ((rest.length : Int) == 0) = true := by rw [hz]; rfl
      have hz3 : (rest.length : Int) = 0 := by omega
      have HE : Hid (R = (said, 0)) := Lib.hid (by
        rw [← HX.out]
        cases gk with
        | zero => rfl
        | succ g => unfold goP; rw [if_pos hz])
      clear hz
      go_wp2
      go_returns
      rw [HE.out]
      exact ⟨_, rfl, HB.out.grew G1.out, HG.out.trans G1.out⟩
    · have hz2 : ((rest.length : Int) == 0) = false := beq_false_of_ne (by omega)
      have hz3 : ¬ (rest.length : Int) = 0 := by omega
      cases gk with
      | zero => exact absurd (Nat.le_zero.1 HG7.out) hz
      | succ g =>
        have hx := HX.out
        unfold goP at hx
        rw [if_neg hz, HT.out] at hx
        simp only at hx
        by_cases he : e0 = 0
        · subst he
          rw [if_pos rfl] at hx
          have hq := take_ok HT.out
          have HQ := Lib.hid hq
          have hq1 : 0 ≤ (q : Int) ∧ (q : Int) ≤ (rest.length : Int) := by omega
          obtain ⟨A2, hA2, hr2⟩ := cut_from HD.out q hq.2 (by omega)
          have HX2 := Lib.hid hx
          have HR2 := Lib.hid hr2
          have hnb : ∀ b, wr.heap.size ≤ b → (Value.slice A5 n5 c5).ownBlock ≠ some b := fun b hb e => by
            have := (bs_apart HB.out b e).2
            omega
          have HD1 := Lib.hid (HR2.out.grew G1.out)
          obtain ⟨A9, c9, W9, hr9, hb9, hg9⟩ := bs_app w1 w.heap.size (.slice A5 n5 c5) said _ (.slice A1 x.length c1) x (HB.out.grew G1.out) rfl R1.out hnb (by have := HSR.out; omega) (Nat.le_trans HG.out.size G1.out.size)
          obtain ⟨n9, hn9⟩ : ∃ n9, (said ++ [x]).length = n9 := ⟨_, rfl⟩
          rw [hn9] at hr9 hb9
          have HR9 := Lib.hid hr9
          have HB9 := Lib.hid hb9
          have HG9 : Hid (Grew w W9) := Lib.hid ((show Below w.heap.size w w1 from HG.out.trans G1.out).trans hg9)
          have HLD : Hid ((rest.drop q).length + q = rest.length) := Lib.hid (by rw [List.length_drop]; omega)
          have HLN : Hid ((said ++ [x]).length = said.length + 1) := Lib.hid (by simp)
          have HDD : Hid (Rd S W9 (.slice A2 (rest.drop q).length (c7 - q)) (rest.drop q)) := Lib.hid (HD1.out.keep fun b _ hb => hg9.block b (hSS.out b hb))
          obtain ⟨D, hD⟩ : ∃ D, rest.drop q = D := ⟨_, rfl⟩
          rw [hD] at hA2 HDD HX2 HLD
          by_cases hcq : c7 = q
          · have hd0 : c7 - q = 0 := by omega
            rw [if_pos hcq, hd0] at hA2
            rw [hd0] at HDD
            clear hd0
            clear hnb hr9 hb9 hg9 hx hq hr2 hn9 HD1 HR2 hD
            go_wp2_with (at_builtin; refine wpList_app' (by rfl) (.tmp 27) (.tmp 29) 52 52 (by with_reducible rfl) _ _ (by rfl) (by rfl) _ W9 (by exact HR9.out) ?_)
            go_roundg g
            case measure => omega
            case rel => exact ⟨said ++ [x], D, n9, A9, c9, A2, 0, rfl, by first | rfl | exact hA2, HX2, Lib.hid (by have := HLD.out; have := HQ.out; have := HG7.out; omega), Lib.hid (by have := HLD.out; have := HQ.out; have := HSR.out; have := HLN.out; omega), HG9, HB9, HDD⟩
          · rw [if_neg hcq] at hA2
            clear hnb hr9 hb9 hg9 hx hq hr2 hn9 HD1 HR2 hD
            go_wp2_with (at_builtin; refine wpList_app' (by rfl) (.tmp 27) (.tmp 29) 52 52 (by with_reducible rfl) _ _ (by rfl) (by rfl) _ W9 (by exact HR9.out) ?_)
            go_roundg g
            case measure => omega
            case rel => exact ⟨said ++ [x], D, n9, A9, c9, A2, (c7 - q), rfl, by first | rfl | exact hA2, HX2, Lib.hid (by have := HLD.out; have := HQ.out; have := HG7.out; omega), Lib.hid (by have := HLD.out; have := HQ.out; have := HSR.out; have := HLN.out; omega), HG9, HB9, HDD⟩
        · rw [if_neg he] at hx
          have he2 : (e0 != 0) = true := by simpa using he
          have HE := Lib.hid hx
          clear hx he
          go_wp2
          go_returns
          rw [← HE.out]
          exact ⟨_, rfl, BS.nil _ _, HG.out.trans G1.out⟩
theorem all_any (S : Nat → Prop) (v : Value) (l : List UInt8) (most : Int) (w : World) (h : Rd S w v l) (hl : l.length ≤ 1048576) :
    Calls Try.prog 27 #[v, .int .i64 most] w fun e w' => ∃ v', e = .returned (.tuple #[v', .int .i64 (allP l most).2]) ∧ BS w.heap.size w' v' (allP l most).1 ∧ Grew w w' :=
  all_core (fun b => S b ∧ b < w.heap.size) v l most w (fun _b hb => hb.2) h.lt hl
end Go.Proofs.Ythgigkklefaeeaa.FV
