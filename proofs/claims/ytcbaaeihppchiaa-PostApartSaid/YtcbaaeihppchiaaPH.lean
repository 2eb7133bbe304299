/-
  PostApart: each letter is told to one account, and got by that one alone.
  Conditions: those that each lemma names.
-/
import Derived.Test.YtcbaaeihppchiaaPG
import Derived.Deep.DeepCutAuto
import Derived.Deep.CutBlock
import Derived.IntWalk
namespace Go.Proofs.Ytcbaaeihppchiaa.PH
set_option maxRecDepth 100000
open Go Go.RowKit Go.Lib Go.Proofs.Ytcbaaeihppchiaa Go.Proofs.Ytcbaaeihppchiaa.Facts Go.Proofs.Ytcbaaeihppchiaa.Ints Go.Proofs.Ytcbaaeihppchiaa.PA Go.Proofs.Ytcbaaeihppchiaa.PB Go.Proofs.Ytcbaaeihppchiaa.Chars Go.Proofs.Ytcbaaeihppchiaa.PD Go.Proofs.Ytcbaaeihppchiaa.PE Go.Proofs.Ytcbaaeihppchiaa.PF Go.Proofs.Ytcbaaeihppchiaa.PG Go.Proofs.Ytcbaaeihppchiaa.Bytes


theorem w60 {a b : Int} (h : 0 ≤ a ∧ a ≤ 60) (h2 : 0 ≤ b ∧ b ≤ 60) : wrap64 (a + b) = a + b := by unfold wrap64; omega
theorem d60 {a : Int} (h : 0 ≤ a ∧ a ≤ 60) : wrap64 (a - 1) = a - 1 := by unfold wrap64; omega
set_option maxHeartbeats 8000000 in
theorem law (v : Value) (l : List Ml) (w : World) (hl : Mls w v l) (hz : SzM l) : Calls Try.prog 4 #[v] w fun e w' => e = .returned (.bool true) ∧ Grew w w' := by
  have HAL := Lib.hid alive_any
  have HR := Lib.hid (mails_any v l w hl hz)
  have HX := Lib.hid hl
  cases ho : okMs l with
  | false =>
    rw [ho] at HR
    obtain ⟨A, c, rfl, _⟩ := hl.slice
    clear hl hz ho
    go_enter Try.func4, Try.ntmps4
    go_wp2_with fail
    refine HR.out.mono ?_
    rintro e w1 ⟨rfl, hg⟩
    have G1 := Lib.hid hg
    clear hg
    go_wp2_with fail
    refine (HAL.out _).mono ?_
    rintro e w2 ⟨rfl, hg⟩
    have G2 := Lib.hid (G1.out.trans hg)
    clear hg
    go_wp2
    go_returns
    exact ⟨rfl, G2.out⟩
  | true =>
    rw [ho] at HR
    have HOK := Lib.hid ho
    by_cases hn : l.length ≤ 60
    · have hn' : ¬ (60 : Int) < (l.length : Int) := by omega
      have HN := Lib.hid hn
      have HOF := Lib.hid (fun (n : Nat) W (hg : Grew w W) => of_any v l (n : Int) W (hl.grew hg) (by omega))
      have HGE := Lib.hid (fun (j n : Int) W (hg : Grew w W) => get_any v l j n W (hl.grew hg) (by omega))
      obtain ⟨A, c, rfl, _⟩ := hl.slice
      clear hl hz ho hn
      go_enter Try.func4, Try.ntmps4
      go_wp2_with fail
      refine HR.out.mono ?_
      rintro e w1 ⟨rfl, hg⟩
      have G1 := Lib.hid hg
      clear hg HR
      go_wp2
      clear hn'
      go_loopg [3, 4] 128 (fun g s3 s4 wx => ∃ (n : Nat) (y : Int), s3 = .int .i64 y ∧ s4 = .int .i64 n ∧ n + g = 128 ∧ Hid (y = cU l n) ∧ Hid (Grew w wx))
      case atStart => exact ⟨0, 0, rfl, rfl, rfl, Lib.hid (cU_zero l).symm, G1⟩
      case round =>
        clear G1
        obtain ⟨n, y, rfl, rfl, hng, HY, HG⟩ := hrel
        cases gk with
        | succ g =>
          have hnz : (n : Int) < 128 := by omega
          have HM : Hid (n + 1 + g = 128) := Lib.hid (by omega)
          have HNW := Lib.hid (wr1 (show n < 128 by omega) (by decide))
          have HNP : Hid (wrap64 ((n : Int) + 1) = (n : Int) + 1) := Lib.hid (by unfold wrap64; omega)
          have HS := Lib.hid (cU_step l n)
          have HAT := Lib.hid (of_at l n)
          have HRI := Lib.hid (of_rise l n)
          have hsl : ((ofP l n).length : Int) ≤ 60 := by
            have := ofP_len l n
            have h2 := List.countP_le_length (p := fun x : Ml => x.used && decide (x.to = (n : Int))) (l := l)
            have := HN.out
            omega
          have HSL := Lib.hid hsl
          have hyb := cU_le l n
          rw [← HY.out] at hyb
          have HYW : Hid (wrap64 (y + ((ofP l n).length : Int)) = y + ((ofP l n).length : Int)) := Lib.hid (w60 ⟨hyb.1, by have := HN.out; omega⟩ ⟨by omega, hsl⟩)
          have HC := Lib.hid (HOF.out n wr HG.out)
          generalize ofP l n = S at *
          clear hng hsl hyb
          go_wp2_with fail
          refine HC.out.mono ?_
          rintro e w2 ⟨VS, rfl, hi, hg⟩
          have HI := Lib.hid hi
          obtain ⟨AS, cS, rfl, _⟩ := Is.slice hi
          have G2 := Lib.hid (HG.out.trans hg)
          clear hi hg HC
          have hyw := HYW.out
          go_wp2
          go_loopg [6] S.length (fun g2 s6 wx => ∃ i : Nat, s6 = .int .i64 i ∧ i + g2 = S.length ∧ Hid (Grew w2 wx))
          case atStart => exact ⟨0, rfl, by omega, Lib.hid (Grew.refl _)⟩
          case round =>
            clear hyw hnz
            obtain ⟨i, rfl, hig, HGi⟩ := hrel
            cases gk with
            | zero =>
              have hiz : ¬ ((i : Int) < (S.length : Int)) := by omega
              have HY2 : Hid (y + (S.length : Int) = cU l (n + 1)) := Lib.hid (by rw [← HS.out, ← HY.out])
              have HG2 := Lib.hid (G2.out.trans HGi.out)
              clear hig
              go_wp2
              go_roundg g
              case measure => omega
              case rel => exact ⟨n + 1, y + (S.length : Int), by first | (simp; done) | rw [HYW.out], by first | (simp; done) | rw [HNW.out], HM.out, HY2, HG2⟩
            | succ g2 =>
              have hil : i < S.length := by omega
              have hiz : (i : Int) < (S.length : Int) := by omega
              have HIM : Hid (i + 1 + g2 = S.length) := Lib.hid (by omega)
              have HIW := Lib.hid (wr1 (show i < 61 by have := HSL.out; omega) (by decide))
              obtain ⟨j, hSj, hj, hju, hjt⟩ := HAT.out i hil
              have hxS : S[i]? = some (j : Int) := by rw [List.getElem?_eq_getElem hil, hSj]
              have HXS := Lib.hid hxS
              have hj0 : ¬ (j : Int) < 0 := by omega
              have hj1 : ¬ (l.length : Int) ≤ (j : Int) := by omega
              have hj2 : (j : Int) < (l.length : Int) := by omega
              have HG1 := Lib.hid (HGE.out j n)
              have HG2 := Lib.hid (HGE.out j ((n : Int) + 1))
              rw [getP_yes hj hju hjt] at HG1
              rw [getP_no hj (by rw [hjt]; omega)] at HG2
              have HXL := Lib.hid (em_get hj)
              have HPR : Hid (∀ h : 0 < i, ∃ q : Int, S[i - 1]? = some q ∧ q < j) := Lib.hid fun h => by
                have h1 : i - 1 + 1 < S.length := by omega
                have h2 := rise_at HRI.out (i - 1) h1
                refine ⟨S[i - 1], List.getElem?_eq_getElem (by omega), ?_⟩
                rw [← hSj]
                have e : i - 1 + 1 = i := by omega
                simpa [e] using h2
              generalize em l j = x at *
              obtain ⟨u, lab, frm, rc, s⟩ := x
              simp only at hju hjt
              subst hju
              unfold mlv at HG1 HG2
              unfold zml at HG2
              simp only at HG1 HG2
              have hne : ∀ W, (binOp .neq 23 (.agg #[.bool true, .int .i64 lab, .int .i64 frm, .int .i64 rc, .string s]) (.agg #[.bool true, .int .i64 lab, .int .i64 frm, .int .i64 rc, .string s])).run Try.prog W = .ok (.bool false) W := fun W => by
                have := neM ⟨true, lab, frm, rc, s⟩ ⟨true, lab, frm, rc, s⟩ W
                simpa [mlv] using this
              have HNE := Lib.hid hne
              clear hSj hxS hj hig hil hjt hne
              obtain ⟨adS, c9, e9, _, a0⟩ := Is_at (HI.out.grew HGi.out) HXS.out
              injection e9 with e1 e2 e3
              subst e1 e3
              clear e2
              go_wp2_with fail
              refine (HG1.out _ (G2.out.trans HGi.out)).mono ?_
              rintro e w3 ⟨rfl, hg⟩
              have HG3 := Lib.hid ((HGi.out.trans hg).trans (show Grew w3 (w3.alloc (.cells #[.bool true, .int .i64 lab, .int .i64 frm, .int .i64 rc, .string s] 23)) by unfold Grew; go_grown))
              have B3 := Lib.hid (blk_new w3 (.cells #[.bool true, .int .i64 lab, .int .i64 frm, .int .i64 rc, .string s] 23))
              clear hg a0
              obtain ⟨adS', c9', e9, _, a0⟩ := Is_at (HI.out.grew HG3.out) HXS.out
              injection e9 with e1 e2 e3
              injection e1 with e1
              subst e1
              clear e2 e3
              have hnp := HNP.out
              go_wp2_with fail
              refine (HG2.out _ (G2.out.trans HG3.out)).mono ?_
              rintro e w4 ⟨rfl, hg⟩
              have g5 : Grew w4 (w4.alloc (.cells #[.bool false, .int .i64 0, .int .i64 0, .int .i64 0, .string ⟨#[]⟩] 23)) := by unfold Grew; go_grown
              have HG5 := Lib.hid ((HG3.out.trans hg).trans g5)
              have B5 := Lib.hid (keepB (keepB B3.out hg) g5)
              clear hg g5 a0 hnp HG1 HG2
              obtain ⟨adS', c9', e9, _, a0⟩ := Is_at (HI.out.grew HG5.out) HXS.out
              injection e9 with e1 e2 e3
              injection e1 with e1
              subst e1
              clear e2 e3
              obtain ⟨b0, b1, b2, b3, b4⟩ := five_c B5.out
              obtain ⟨ad, c8, e8, _, d0, d1, d2, d3, d4⟩ := Mls_at (HX.out.grew (G2.out.trans HG5.out)) HXL.out
              injection e8 with e1 _ e3
              subst e1 e3
              by_cases hi0 : 0 < i
              · obtain ⟨q, hq, hqj⟩ := HPR.out hi0
                obtain ⟨adS', c9', e9, _, q0⟩ := Is_at (HI.out.grew HG5.out) hq
                injection e9 with e1 e2 e3
                injection e1 with e1
                subst e1
                have hip : (0 : Int) < (i : Int) := by omega
                have hcast : (i : Int) - 1 = ((i - 1 : Nat) : Int) := by omega
                have hwm : wrap64 ((i : Int) - 1) = ((i - 1 : Nat) : Int) := by have := HSL.out; unfold wrap64; omega
                have hwk : IntKind.i64.wrap ((i : Int) - 1) = ((i - 1 : Nat) : Int) := by rw [← hcast]; exact IntWalk.i64_in _ (by have := HSL.out; omega)
                have hpl : ((i - 1 : Nat) : Int) < (S.length : Int) := by omega
                have hqn : ¬ (j : Int) ≤ q := by omega
                clear hcast e2 e3 hq
                generalize i - 1 = ip at *
                have HWM := Lib.hid hwm
                clear hwm
                go_wp2
                refine Facts.wp_region_text (by kernel_rfl) (by kernel_rfl) ?_
                repeat
                  apply Facts.Lex.exact [] _ (by kernel_rfl)
                  · intro u W hC _
                    have hne := HNE.out
                    have j0 := cellG hC b0
                    have j1 := cellG hC b1
                    have j2 := cellG hC b2
                    have j3 := cellG hC b3
                    have j4 := cellG hC b4
                    have k0 := cellG hC d0
                    have k1 := cellG hC d1
                    have k2 := cellG hC d2
                    have k3 := cellG hC d3
                    have k4 := cellG hC d4
                    have m0 := cellG hC a0
                    have m1 := cellG hC q0
                    unfold Facts.one
                    go_simp
                    first | exact ⟨Grew.refl _, rfl⟩ | rfl
                  simp only [Act.put, List.setIfInBounds_toArray, List.set_cons_zero, List.set_cons_succ, Nat.zero_add, Nat.reduceAdd]

                refine Facts.Lex.done fun u W2 hC hL => ?_
                have HG6 := Lib.hid (HG5.out.trans hC)
                clear hC hL b0 b1 b2 b3 b4 d0 d1 d2 d3 d4 a0 q0 hwk
                go_wp2
                go_roundg g2
                case measure => omega
                case rel => exact ⟨i + 1, by first | (simp; done) | rw [HIW.out], HIM.out, HG6⟩
              · have hd1 : decide ((0 : Int) < (i : Int)) = false := decide_eq_false (by omega)
                have hd2 : decide (0 < i) = false := decide_eq_false hi0
                clear hi0
                go_wp2
                refine Facts.wp_region_text (by kernel_rfl) (by kernel_rfl) ?_
                repeat
                  apply Facts.Lex.exact [] _ (by kernel_rfl)
                  · intro u W hC _
                    have hne := HNE.out
                    have j0 := cellG hC b0
                    have j1 := cellG hC b1
                    have j2 := cellG hC b2
                    have j3 := cellG hC b3
                    have j4 := cellG hC b4
                    have k0 := cellG hC d0
                    have k1 := cellG hC d1
                    have k2 := cellG hC d2
                    have k3 := cellG hC d3
                    have k4 := cellG hC d4
                    have m0 := cellG hC a0
                    unfold Facts.one
                    go_simp
                    first | exact ⟨Grew.refl _, rfl⟩ | rfl
                  simp only [Act.put, List.setIfInBounds_toArray, List.set_cons_zero, List.set_cons_succ, Nat.zero_add, Nat.reduceAdd]

                refine Facts.Lex.done fun u W2 hC hL => ?_
                have HG6 := Lib.hid (HG5.out.trans hC)
                clear hC hL b0 b1 b2 b3 b4 d0 d1 d2 d3 d4 a0
                go_wp2
                go_roundg g2
                case measure => omega
                case rel => exact ⟨i + 1, by first | (simp; done) | rw [HIW.out], HIM.out, HG6⟩
        | zero =>
          have hnz : ¬ ((n : Int) < 128) := by omega
          have HY2 : Hid (y = up1 l 0) := Lib.hid (by rw [HY.out, show n = 128 by omega, up1_zero, cU_all HOK.out])
          clear HY hng
          go_wp2
          go_loopg [3, 11] l.length (fun g s3 s11 wx => ∃ (k : Nat) (y : Int), s3 = .int .i64 y ∧ s11 = .int .i64 k ∧ k + g = l.length ∧ Hid (y = up1 l k) ∧ Hid (Grew w wx))
          case atStart => exact ⟨0, y, rfl, rfl, by omega, HY2, HG⟩
          case round =>
            clear HY2 HG hnz
            obtain ⟨k, y, rfl, rfl, hkg, HY, HG⟩ := hrel
            cases gk with
            | zero =>
              have hkz : ¬ ((k : Int) < (l.length : Int)) := by omega
              have hy0 : y = 0 := by rw [HY.out, show k = l.length by omega, up1_all]
              subst hy0
              go_wp2_with fail
              refine (HAL.out _).mono ?_
              rintro e w2 ⟨rfl, hg⟩
              have G2 := Lib.hid (HG.out.trans hg)
              clear hg
              go_wp2
              go_returns
              exact ⟨by simp, G2.out⟩
            | succ g =>
              have hkz : (k : Int) < (l.length : Int) := by omega
              have hkl : k < l.length := by omega
              have HKM : Hid (k + 1 + g = l.length) := Lib.hid (by omega)
              have HKW := Lib.hid (wr1 (show k < 61 by have := HN.out; omega) (by decide))
              have HST := Lib.hid (up1_step l k hkl)
              have hb := up1_le l k
              rw [← HY.out] at hb
              have HDW := Lib.hid (d60 (a := y) ⟨hb.1, by have := HN.out; omega⟩)
              obtain ⟨ad, c8, e8, _, d0, _, _, _, _⟩ := Mls_at (HX.out.grew HG.out) (em_get hkl)
              injection e8 with e1 _ e3
              subst e1 e3
              clear hb hkg hkl
              generalize (em l k).used = u at *
              cases u with
              | false =>
                have HY2 : Hid (y = up1 l (k + 1)) := Lib.hid (by rw [HY.out, HST.out]; simp)
                go_wp2
                go_roundg g
                case measure => omega
                case rel => exact ⟨k + 1, y, rfl, by first | (simp; done) | rw [HKW.out], HKM.out, HY2, HG⟩
              | true =>
                have HY2 : Hid (y - 1 = up1 l (k + 1)) := Lib.hid (by rw [HY.out, HST.out]; simp)
                go_wp2
                go_roundg g
                case measure => omega
                case rel => exact ⟨k + 1, y - 1, by first | (simp; done) | rw [HDW.out], by first | (simp; done) | rw [HKW.out], HKM.out, HY2, HG⟩
    · have hn' : (60 : Int) < (l.length : Int) := by omega
      obtain ⟨A, c, rfl, _⟩ := hl.slice
      clear hl hz ho hn
      go_enter Try.func4, Try.ntmps4
      go_wp2_with fail
      refine HR.out.mono ?_
      rintro e w1 ⟨rfl, hg⟩
      have G1 := Lib.hid hg
      clear hg
      go_wp2_with fail
      refine (HAL.out _).mono ?_
      rintro e w2 ⟨rfl, hg⟩
      have G2 := Lib.hid (G1.out.trans hg)
      clear hg
      go_wp2
      go_returns
      exact ⟨rfl, G2.out⟩
end Go.Proofs.Ytcbaaeihppchiaa.PH
