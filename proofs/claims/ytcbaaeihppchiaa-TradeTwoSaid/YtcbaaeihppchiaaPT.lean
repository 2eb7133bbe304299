/-
  TradeTwo: each trade is told to its two accounts, and shut by either.
  Conditions: those that each lemma names.
-/
import Derived.Test.YtcbaaeihppchiaaPS
import Derived.Deep.DeepCutAuto
import Derived.Deep.CutBlock
import Derived.IntWalk
namespace Go.Proofs.Ytcbaaeihppchiaa.PT
set_option maxRecDepth 100000
open Go Go.RowKit Go.Lib Go.Proofs.Ytcbaaeihppchiaa Go.Proofs.Ytcbaaeihppchiaa.Facts Go.Proofs.Ytcbaaeihppchiaa.Ints Go.Proofs.Ytcbaaeihppchiaa.PA Go.Proofs.Ytcbaaeihppchiaa.PB Go.Proofs.Ytcbaaeihppchiaa.PC Go.Proofs.Ytcbaaeihppchiaa.PG Go.Proofs.Ytcbaaeihppchiaa.PM Go.Proofs.Ytcbaaeihppchiaa.PN Go.Proofs.Ytcbaaeihppchiaa.PP Go.Proofs.Ytcbaaeihppchiaa.PQ Go.Proofs.Ytcbaaeihppchiaa.PR Go.Proofs.Ytcbaaeihppchiaa.PS Go.Proofs.Ytcbaaeihppchiaa.Bytes


theorem ans2_sl {r : List Tr × Int} {w w' : World} {e : Ending} (n : Nat) (hn : r.1.length = n) (h : Ans2 r w e w') : ∃ A c, e = .returned (.tuple #[.slice A n c, .int .i64 r.2]) ∧ Hid (Trs w' (.slice A n c) r.1) ∧ Grew w w' := by
  obtain ⟨v', e1, hi, hg⟩ := h
  obtain ⟨A, c, rfl, _⟩ := hi.slice
  subst hn
  exact ⟨A, c, e1, Lib.hid hi, hg⟩
set_option maxHeartbeats 8000000 in
theorem law (v : Value) (l : List Tr) (w : World) (hl : Trs w v l) : Calls Try.prog 6 #[v] w fun e w' => e = .returned (.bool true) ∧ Grew w w' := by
  have HAL := Lib.hid alive_any
  have HR := Lib.hid (trades_any v l w hl)
  have HX := Lib.hid hl
  cases ho : okTs l with
  | false =>
    rw [ho] at HR
    obtain ⟨A, c, rfl, _⟩ := hl.slice
    clear hl ho
    go_enter Try.func6, Try.ntmps6
    go_wp2_with fail
    refine HR.out.mono ?_
    rintro e w1 ⟨rfl, hg⟩
    have G1 := Lib.hid hg
    clear hg
    go_wp2_with fail
    refine (HAL.out _).mono ?_
    rintro e w2 ⟨rfl, hg⟩
    have G2 := Lib.hid (G1.out.trans hg)
    clear hg
    go_wp2
    go_returns
    exact ⟨rfl, G2.out⟩
  | true =>
    rw [ho] at HR
    have HOK := Lib.hid ho
    by_cases hn : l.length ≤ 60
    · have hn' : ¬ (60 : Int) < (l.length : Int) := by omega
      have HN := Lib.hid hn
      have HOF := Lib.hid (fun (n : Nat) W (hg : Grew w W) => of_any v l (n : Int) W (hl.grew hg) (by omega))
      have HGE := Lib.hid (fun (j n : Int) W (hg : Grew w W) => get_any v l j n W (hl.grew hg) (by omega))
      have HSH := Lib.hid (fun (j n : Int) W (hg : Grew w W) => shut_any v l j n W (hl.grew hg) (by omega))
      obtain ⟨A, c, rfl, _⟩ := hl.slice
      clear hl ho hn
      go_enter Try.func6, Try.ntmps6
      go_wp2_with fail
      refine HR.out.mono ?_
      rintro e w1 ⟨rfl, hg⟩
      have G1 := Lib.hid hg
      clear hg HR
      go_wp2
      clear hn'
      go_loopg [3, 4] 128 (fun g s3 s4 wx => ∃ (n : Nat) (y : Int), s3 = .int .i64 y ∧ s4 = .int .i64 n ∧ n + g = 128 ∧ Hid (y = cW l n) ∧ Hid (Grew w wx))
      case atStart => exact ⟨0, 0, rfl, rfl, rfl, Lib.hid (cW_zero l).symm, G1⟩
      case round =>
        clear G1
        obtain ⟨n, y, rfl, rfl, hng, HY, HG⟩ := hrel
        cases gk with
        | succ g =>
          have hnz : (n : Int) < 128 := by omega
          have HM : Hid (n + 1 + g = 128) := Lib.hid (by omega)
          have HNW := Lib.hid (wr1 (show n < 128 by omega) (by decide))
          have HS := Lib.hid (cW_step HOK.out n)
          have HAT := Lib.hid (of_at l n)
          have hsl : ((ofP l n).length : Int) ≤ 60 := by
            have := ofP_len l n
            have h2 := List.countP_le_length (p := fun x : Tr => x.used && (decide (x.a = (n : Int)) || decide (x.b = (n : Int)))) (l := l)
            have := HN.out
            omega
          have HSL := Lib.hid hsl
          have hyb := cW_le l n
          rw [← HY.out] at hyb
          have HYW : Hid (wrap64 (y + ((ofP l n).length : Int)) = y + ((ofP l n).length : Int)) := Lib.hid (w120 ⟨hyb.1, by have := HN.out; omega⟩ ⟨by omega, hsl⟩)
          have HC := Lib.hid (HOF.out n wr HG.out)
          generalize ofP l n = S at *
          clear hng hsl hyb
          go_wp2_with fail
          refine HC.out.mono ?_
          rintro e w2 ⟨VS, rfl, hi, hg⟩
          have HI := Lib.hid hi
          obtain ⟨AS, cS, rfl, _⟩ := Is.slice hi
          have G2 := Lib.hid (HG.out.trans hg)
          clear hi hg HC
          have hyw := HYW.out
          go_wp2
          go_loopg [6] S.length (fun g2 s6 wx => ∃ i : Nat, s6 = .int .i64 i ∧ i + g2 = S.length ∧ Hid (Grew w2 wx))
          case atStart => exact ⟨0, rfl, by omega, Lib.hid (Grew.refl _)⟩
          case round =>
            clear hyw hnz
            obtain ⟨i, rfl, hig, HGi⟩ := hrel
            cases gk with
            | zero =>
              have hiz : ¬ ((i : Int) < (S.length : Int)) := by omega
              have HY2 : Hid (y + (S.length : Int) = cW l (n + 1)) := Lib.hid (by rw [← HS.out, ← HY.out])
              have HG2 := Lib.hid (G2.out.trans HGi.out)
              clear hig
              go_wp2
              go_roundg g
              case measure => omega
              case rel => exact ⟨n + 1, y + (S.length : Int), by first | (simp; done) | rw [HYW.out], by first | (simp; done) | rw [HNW.out], HM.out, HY2, HG2⟩
            | succ g2 =>
              have hil : i < S.length := by omega
              have hiz : (i : Int) < (S.length : Int) := by omega
              have HIM : Hid (i + 1 + g2 = S.length) := Lib.hid (by omega)
              have HIW := Lib.hid (wr1 (show i < 61 by have := HSL.out; omega) (by decide))
              obtain ⟨j, hSj, hj, hju, hjw⟩ := HAT.out i hil
              have hxS : S[i]? = some (j : Int) := by rw [List.getElem?_eq_getElem hil, hSj]
              have HXS := Lib.hid hxS
              have hj0 : ¬ (j : Int) < 0 := by omega
              have hj1 : ¬ (l.length : Int) ≤ (j : Int) := by omega
              have hj2 : (j : Int) < (l.length : Int) := by omega
              have hj3 : decide (l.length ≤ j) = false := decide_eq_false (by omega)
              have HG1 := Lib.hid (HGE.out j n)
              have HS1 := Lib.hid (HSH.out j n)
              rw [getP_yes hj hju hjw] at HG1
              rw [shutP_yes HOK.out hj hju hjw] at HS1
              have HXL := Lib.hid (et_get hj)
              have HNL : Hid ((l.set j ztr).length = l.length) := Lib.hid (by rw [List.length_set])
              have HNX : Hid ((l.set j ztr)[j]? = some ztr) := Lib.hid (by rw [List.getElem?_set_self hj])
              generalize l.set j ztr = R at *
              generalize et l j = x at *
              obtain ⟨u, a, b, gc, ga, gi, wc, wa, wi⟩ := x
              simp only at hju hjw
              subst hju
              unfold trv at HG1
              simp only at HG1
              have HW := Lib.hid hjw
              clear hSj hxS hj hig hil hjw
              obtain ⟨adS, c9, e9, _, a0⟩ := Is_at (HI.out.grew HGi.out) HXS.out
              injection e9 with e1 e2 e3
              subst e1 e3
              clear e2
              go_wp2_with fail
              refine (HG1.out _ (G2.out.trans HGi.out)).mono ?_
              rintro e w3 ⟨rfl, hg⟩
              have HG3 := Lib.hid ((HGi.out.trans hg).trans (show Grew w3 (w3.alloc (.cells #[.bool true, .int .i64 a, .int .i64 b, .int .i64 gc, .int .u64 ga, .int .i64 gi, .int .i64 wc, .int .u64 wa, .int .i64 wi] 42)) by unfold Grew; go_grown))
              have B3 := Lib.hid (blk_new w3 (.cells #[.bool true, .int .i64 a, .int .i64 b, .int .i64 gc, .int .u64 ga, .int .i64 gi, .int .i64 wc, .int .u64 wa, .int .i64 wi] 42))
              clear hg a0
              obtain ⟨adS', c9', e9, _, a0⟩ := Is_at (HI.out.grew HG3.out) HXS.out
              injection e9 with e1 e2 e3
              injection e1 with e1
              subst e1
              clear e2 e3
              go_wp2_with fail
              refine (HS1.out _ (G2.out.trans HG3.out)).mono ?_
              rintro e w4 ha
              obtain ⟨A4, c4', rfl, HI4, hg⟩ := ans2_sl l.length HNL.out ha
              have HG5 := Lib.hid (HG3.out.trans hg)
              have B5 := Lib.hid (keepB B3.out hg)
              clear ha hg a0 HG1 HS1
              obtain ⟨adS', c9', e9, _, a0⟩ := Is_at (HI.out.grew HG5.out) HXS.out
              injection e9 with e1 e2 e3
              injection e1 with e1
              subst e1
              clear e2 e3
              obtain ⟨c0, c1, c2, c3, c4, c5, c6, c7, c8⟩ := nine_c B5.out
              have HI5 : Hid (Trs w4 (.slice A4 R.length c4') R) := Lib.hid (by rw [HNL.out]; exact HI4.out)
              obtain ⟨adN, cN, eN, _, n0, _⟩ := Trs_at HI5.out HNX.out
              injection eN with eN1 eN2 eN3
              subst eN1 eN3
              clear eN2
              by_cases ha : a = (n : Int)
              · have ha1 : (a == (n : Int)) = true := by simpa using ha
                have ha2 : (a != (n : Int)) = false := by simp [ha]
                have ha3 : decide (a = (n : Int)) = true := decide_eq_true ha
                go_wp2
                clear a0 n0 c0 c1 c2 c3 c4 c5 c6 c7 c8
                go_roundg g2
                case measure => omega
                case rel => exact ⟨i + 1, by first | (simp; done) | rw [HIW.out], HIM.out, HG5⟩
              · have hb : b = (n : Int) := HW.out.resolve_left ha
                have ha1 : (a == (n : Int)) = false := by simpa using ha
                have ha2 : (a != (n : Int)) = true := by simp [ha]
                have ha3 : decide (a = (n : Int)) = false := decide_eq_false ha
                have hb1 : (b == (n : Int)) = true := by simpa using hb
                have hb2 : (b != (n : Int)) = false := by simp [hb]
                have hb3 : decide (b = (n : Int)) = true := decide_eq_true hb
                go_wp2
                clear a0 n0 c0 c1 c2 c3 c4 c5 c6 c7 c8
                go_roundg g2
                case measure => omega
                case rel => exact ⟨i + 1, by first | (simp; done) | rw [HIW.out], HIM.out, HG5⟩
        | zero =>
          have hnz : ¬ ((n : Int) < 128) := by omega
          have HY2 : Hid (y = up2 l 0) := Lib.hid (by rw [HY.out, show n = 128 by omega, up2_zero, cW_all HOK.out])
          clear HY hng
          go_wp2
          go_loopg [3, 11] l.length (fun g s3 s11 wx => ∃ (k : Nat) (y : Int), s3 = .int .i64 y ∧ s11 = .int .i64 k ∧ k + g = l.length ∧ Hid (y = up2 l k) ∧ Hid (Grew w wx))
          case atStart => exact ⟨0, y, rfl, rfl, by omega, HY2, HG⟩
          case round =>
            clear HY2 HG hnz
            obtain ⟨k, y, rfl, rfl, hkg, HY, HG⟩ := hrel
            cases gk with
            | zero =>
              have hkz : ¬ ((k : Int) < (l.length : Int)) := by omega
              have hy0 : y = 0 := by rw [HY.out, show k = l.length by omega, up2_all]
              subst hy0
              go_wp2_with fail
              refine (HAL.out _).mono ?_
              rintro e w2 ⟨rfl, hg⟩
              have G2 := Lib.hid (HG.out.trans hg)
              clear hg
              go_wp2
              go_returns
              exact ⟨by simp, G2.out⟩
            | succ g =>
              have hkz : (k : Int) < (l.length : Int) := by omega
              have hkl : k < l.length := by omega
              have HKM : Hid (k + 1 + g = l.length) := Lib.hid (by omega)
              have HKW := Lib.hid (wr1 (show k < 61 by have := HN.out; omega) (by decide))
              have HST := Lib.hid (up2_step l k hkl)
              have hb := up2_le l k
              rw [← HY.out] at hb
              have HDW := Lib.hid (d120 (a := y) ⟨hb.1, by have := HN.out; omega⟩)
              obtain ⟨ad, c8, e8, _, d0, _⟩ := Trs_at (HX.out.grew HG.out) (et_get hkl)
              injection e8 with e1 _ e3
              subst e1 e3
              clear hb hkg hkl
              generalize (et l k).used = u at *
              cases u with
              | false =>
                have HY2 : Hid (y = up2 l (k + 1)) := Lib.hid (by rw [HY.out, HST.out]; simp)
                go_wp2
                go_roundg g
                case measure => omega
                case rel => exact ⟨k + 1, y, rfl, by first | (simp; done) | rw [HKW.out], HKM.out, HY2, HG⟩
              | true =>
                have HY2 : Hid (y - 2 = up2 l (k + 1)) := Lib.hid (by rw [HY.out, HST.out]; simp)
                go_wp2
                go_roundg g
                case measure => omega
                case rel => exact ⟨k + 1, y - 2, by first | (simp; done) | rw [HDW.out], by first | (simp; done) | rw [HKW.out], HKM.out, HY2, HG⟩
    · have hn' : (60 : Int) < (l.length : Int) := by omega
      obtain ⟨A, c, rfl, _⟩ := hl.slice
      clear hl ho hn
      go_enter Try.func6, Try.ntmps6
      go_wp2_with fail
      refine HR.out.mono ?_
      rintro e w1 ⟨rfl, hg⟩
      have G1 := Lib.hid hg
      clear hg
      go_wp2_with fail
      refine (HAL.out _).mono ?_
      rintro e w2 ⟨rfl, hg⟩
      have G2 := Lib.hid (G1.out.trans hg)
      clear hg
      go_wp2
      go_returns
      exact ⟨rfl, G2.out⟩
end Go.Proofs.Ytcbaaeihppchiaa.PT
