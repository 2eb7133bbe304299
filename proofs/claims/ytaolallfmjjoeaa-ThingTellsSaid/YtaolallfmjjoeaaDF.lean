/-
  What is held and lies where, as the document answers.
  Conditions: those that each lemma names.
-/
import Derived.Test.YtaolallfmjjoeaaDE
namespace Go.Proofs.Ytaolallfmjjoeaa.DF
set_option maxRecDepth 100000
open Go Go.RowKit Go.Lib Go.Proofs.Ytaolallfmjjoeaa Go.Proofs.Ytaolallfmjjoeaa.Facts Go.Proofs.Ytaolallfmjjoeaa.Ints Go.Proofs.Ytaolallfmjjoeaa.TI Go.Proofs.Ytaolallfmjjoeaa.TP Go.Proofs.Ytaolallfmjjoeaa.TB Go.Proofs.Ytaolallfmjjoeaa.TC Go.Proofs.Ytaolallfmjjoeaa.TD Go.Proofs.Ytaolallfmjjoeaa.TE Go.Proofs.Ytaolallfmjjoeaa.TF Go.Proofs.Ytaolallfmjjoeaa.TG Go.Proofs.Ytaolallfmjjoeaa.TH Go.Proofs.Ytaolallfmjjoeaa.TJ Go.Proofs.Ytaolallfmjjoeaa.TK Go.Proofs.Ytaolallfmjjoeaa.TL Go.Proofs.Ytaolallfmjjoeaa.DA Go.Proofs.Ytaolallfmjjoeaa.DB Go.Proofs.Ytaolallfmjjoeaa.DC Go.Proofs.Ytaolallfmjjoeaa.DD Go.Proofs.Ytaolallfmjjoeaa.DE Go.Proofs.Ytaolallfmjjoeaa.Bytes


/-- The slots of what a holder has, among the first k. -/
def upH (l : List It) (h : Ho) (k : Nat) : List Int := ((List.range k).filter fun j => (el l j).used && decide (hol (el l j) = h)).map Int.ofNat
theorem upH_yes (l : List It) (h : Ho) (k : Nat) (hu : (el l k).used = true) (hh : hol (el l k) = h) : upH l h (k + 1) = upH l h k ++ [(k : Int)] := by
  unfold upH
  rw [List.range_succ, List.filter_append, List.map_append]
  simp [hu, hh]
theorem upH_no (l : List It) (h : Ho) (k : Nat) (hn : ¬ ((el l k).used = true ∧ hol (el l k) = h)) : upH l h (k + 1) = upH l h k := by
  unfold upH
  rw [List.range_succ, List.filter_append, List.map_append]
  have : ((el l k).used && decide (hol (el l k) = h)) = false := by
    rw [Bool.eq_false_iff]
    intro e
    rw [Bool.and_eq_true, decide_eq_true_iff] at e
    exact hn e
  simp [this]
theorem upH_len (l : List It) (h : Ho) (k : Nat) : (upH l h k).length ≤ k := by
  unfold upH
  rw [List.length_map]
  exact Nat.le_trans (List.length_filter_le _ _) (by simp)
theorem upH_all (l : List It) (h : Ho) : upH l h l.length = slotsOf l h := by
  unfold slotsOf upto upH
  rw [List.filter_map, List.filter_filter]
  congr 1
  apply List.filter_congr
  intro j _
  simp [isH, Bool.and_comm]

set_option maxHeartbeats 2000000 in
theorem rheld_any (v : Value) (l : List It) (n : Int) (w : World) (hl : Its w v l) (hn : l.length ≤ 1000) : Calls Try.prog 37 #[v, .int .i64 n] w fun e w' => ∃ v', e = .returned v' ∧ Is w' v' (slotsOf l (hand n)) ∧ Grew w w' := by
  have HX := Lib.hid hl
  have HNN := Lib.hid hn
  rw [← upH_all]
  have HIN := Lib.hid (fun W (hg : Grew w W) i => in_any v l i n W (hl.grew hg))
  generalize hh : hand n = h
  have HH := Lib.hid hh
  obtain ⟨A, c, rfl, _⟩ := hl.slice
  clear hl hn hh
  go_enter Try.func37, Try.ntmps37
  go_wp2
  go_loopg [5, 6] l.length (fun g s5 s6 wx => ∃ (k : Nat) (v5 : Value), k + g = l.length ∧ v5 = s5 ∧ s6 = .int .i64 k ∧ Hid (wx.ownsRow w.heap.size 3 1 s5 (upH l h k).length (iv (upH l h k))) ∧ Hid (Grew w wx))
  case atStart => exact ⟨0, _, by omega, rfl, rfl, Lib.hid (own_nil _ _), Lib.hid (Grew.refl _)⟩
  case round =>
    obtain ⟨k, v5, hkg, rfl, rfl, HI, HG⟩ := hrel
    cases gk with
    | zero =>
      have hkz : ¬ ((k : Int) < (l.length : Int)) := by omega
      have HE : Hid (Is wr v5 (upH l h l.length)) := Lib.hid (by
        have := Is.of_own HI.out rfl
        rw [show k = l.length by omega] at this
        exact this)
      go_wp2
      go_returns
      exact ⟨_, rfl, HE.out, HG.out⟩
    | succ g =>
      have hkz : (k : Int) < (l.length : Int) := by omega
      have hkl : k < l.length := by omega
      have hx : l[k]? = some (el l k) := by unfold el; rw [List.getElem?_eq_getElem hkl]; rfl
      obtain ⟨ad, c3, e, _, d0, _, d2, d3, d4, d5⟩ := Its_at (HX.out.grew HG.out) hx
      injection e with e1 e2 e3
      subst e1 e3
      clear e2
      have HKW := Lib.hid (wr1 hkl HNN.out)
      have HM : Hid (k + 1 + g = l.length) := Lib.hid (by omega)
      have HY := Lib.hid (upH_yes l h k)
      have HNO := Lib.hid (upH_no l h k)
      have HC := Lib.hid (HIN.out wr HG.out k)
      have hin : inH l k n = ((el l k).used && decide ((el l k).kind = 1) && decide ((el l k).who = n)) := by
        unfold inH
        rw [decide_eq_true (show (0 : Int) ≤ (k : Int) by omega), decide_eq_true (show (k : Int) < (l.length : Int) by omega), Int.toNat_natCast]
        simp
      rw [hin] at HC
      have hhol : hol (el l k) = ⟨(el l k).kind, (el l k).who, (el l k).lab, (el l k).slot⟩ := rfl
      have HHO := Lib.hid hhol
      clear hin hx hkg hkl hhol d0 d2 d3
      cases hb : ((el l k).used && decide ((el l k).kind = 1) && decide ((el l k).who = n)) with
      | false =>
        rw [hb] at HC
        have HE : Hid (upH l h (k + 1) = upH l h k) := Lib.hid (HNO.out (by
          rintro ⟨h1, h2⟩
          rw [HHO.out, ← HH.out] at h2
          unfold hand at h2
          injection h2 with z1 z2 z3 z4
          rw [h1, z1, z2] at hb
          simp at hb))
        clear hb HY HNO HHO d4 d5
        go_wp2_with fail
        refine HC.out.mono ?_
        rintro e w2 ⟨rfl, hg⟩
        have HG2 := Lib.hid (HG.out.trans hg)
        have HO := Lib.hid (own_grew HI.out hg)
        clear hg
        go_wp2
        go_roundg g
        case measure => omega
        case rel =>
          refine ⟨k + 1, _, HM.out, rfl, by first | (simp; done) | rw [HKW.out], ?_, HG2⟩
          rw [HE.out]
          exact HO
      | true =>
        rw [hb] at HC
        simp only [Bool.and_eq_true, decide_eq_true_eq] at hb
        obtain ⟨⟨hu, hk1⟩, hw1⟩ := hb
        rw [hk1, hw1] at HHO
        have HUU := Lib.hid hu
        clear hu hk1 hw1
        generalize hlb : (el l k).lab = lb at *
        generalize hsb : (el l k).slot = sb at *
        clear hlb hsb
        by_cases hz : lb = 0 ∧ sb = 0
        · obtain ⟨rfl, rfl⟩ := hz
          have HE : Hid (upH l h (k + 1) = upH l h k ++ [(k : Int)]) := Lib.hid (HY.out HUU.out (HHO.out.trans HH.out))
          clear HY HNO HHO
          go_wp2_with fail
          refine HC.out.mono ?_
          rintro e w2 ⟨rfl, hg⟩
          have HG2 := Lib.hid (HG.out.trans hg)
          have HO2 := Lib.hid (own_grew HI.out hg)
          have i4 := cellB hg d4
          have i5 := cellB hg d5
          clear hg d4 d5
          obtain ⟨v', w3, hr, hown, hb⟩ := app_one w2 w.heap.size v5 (upH l h k) (k : Int) HO2.out (by have := upH_len l h k; have := HNN.out; have := HM.out; omega) HG2.out.size
          have HAPP := Lib.hid hr
          have HO := Lib.hid hown
          have HG3 : Hid (Grew w w3) := Lib.hid ((show Below w.heap.size w w2 from HG2.out).trans hb)
          clear hr hown hb
          go_wp2_with (at_builtin; refine wpList_app_want (.tmp 26) (.tmp 28) 57 (by rfl) (by rfl) _ _ rfl rfl v' w3 (by exact HAPP.out) ?_)
          go_roundg g
          case measure => omega
          case rel =>
            refine ⟨k + 1, _, HM.out, rfl, by first | (simp; done) | rw [HKW.out], ?_, HG3⟩
            rw [HE.out]
            exact HO
        · have HE : Hid (upH l h (k + 1) = upH l h k) := Lib.hid (HNO.out (by
            rintro ⟨_, h2⟩
            rw [HHO.out, ← HH.out] at h2
            unfold hand at h2
            injection h2 with z1 z2 z3 z4
            exact hz ⟨z3, z4⟩))
          clear HY HNO HHO
          by_cases hz1 : lb = 0
          · have hz2 : (sb == 0) = false := by
              rw [beq_eq_false_iff_ne]
              exact fun h => hz ⟨hz1, h⟩
            subst hz1
            clear hz
            go_wp2_with fail
            refine HC.out.mono ?_
            rintro e w2 ⟨rfl, hg⟩
            have HG2 := Lib.hid (HG.out.trans hg)
            have HO := Lib.hid (own_grew HI.out hg)
            have i4 := cellB hg d4
            have i5 := cellB hg d5
            clear hg d4 d5
            go_wp2
            go_roundg g
            case measure => omega
            case rel =>
              refine ⟨k + 1, _, HM.out, rfl, by first | (simp; done) | rw [HKW.out], ?_, HG2⟩
              rw [HE.out]
              exact HO
          · have hz2 : (lb == 0) = false := by
              rw [beq_eq_false_iff_ne]
              exact hz1
            clear hz hz1
            go_wp2_with fail
            refine HC.out.mono ?_
            rintro e w2 ⟨rfl, hg⟩
            have HG2 := Lib.hid (HG.out.trans hg)
            have HO := Lib.hid (own_grew HI.out hg)
            have i4 := cellB hg d4
            have i5 := cellB hg d5
            clear hg d4 d5
            go_wp2
            go_roundg g
            case measure => omega
            case rel =>
              refine ⟨k + 1, _, HM.out, rfl, by first | (simp; done) | rw [HKW.out], ?_, HG2⟩
              rw [HE.out]
              exact HO

set_option maxHeartbeats 2000000 in
theorem rlying_any (v : Value) (l : List It) (a b : Int) (w : World) (hl : Its w v l) (hn : l.length ≤ 1000) : Calls Try.prog 39 #[v, .agg #[.int .i64 a, .int .i64 b]] w fun e w' => ∃ v', e = .returned v' ∧ Is w' v' (slotsOf l (floor a b)) ∧ Grew w w' := by
  have HX := Lib.hid hl
  have HNN := Lib.hid hn
  rw [← upH_all]
  generalize hh : floor a b = h
  have HH := Lib.hid hh
  have g0 : Grew w (w.alloc (.cells #[.int .i64 a, .int .i64 b] 33)) := by unfold Grew; go_grown
  have G0 := Lib.hid g0
  have B0 : Hid ((w.alloc (.cells #[.int .i64 a, .int .i64 b] 33)).heap[w.heap.size]? = some (.cells #[.int .i64 a, .int .i64 b] 33 (0, 0))) := Lib.hid (heap_alloc_new w _)
  obtain ⟨A, c, rfl, _⟩ := hl.slice
  clear hl hn hh g0
  go_enter Try.func39, Try.ntmps39
  go_wp2
  generalize w.alloc (.cells #[.int .i64 a, .int .i64 b] 33) = wb at G0 B0
  go_loopg [5, 6] l.length (fun g s5 s6 wx => ∃ (k : Nat) (v5 : Value), k + g = l.length ∧ v5 = s5 ∧ s6 = .int .i64 k ∧ Hid (wx.ownsRow wb.heap.size 3 1 s5 (upH l h k).length (iv (upH l h k))) ∧ Hid (Grew w wx) ∧ Hid (Grew wb wx))
  case atStart => exact ⟨0, _, by omega, rfl, rfl, Lib.hid (own_nil _ _), G0, Lib.hid (Grew.refl _)⟩
  case round =>
    obtain ⟨k, v5, hkg, rfl, rfl, HI, HG, HBX⟩ := hrel
    cases gk with
    | zero =>
      have hkz : ¬ ((k : Int) < (l.length : Int)) := by omega
      have HE : Hid (Is wr v5 (upH l h l.length)) := Lib.hid (by
        have := Is.of_own HI.out rfl
        rw [show k = l.length by omega] at this
        exact this)
      go_wp2
      go_returns
      exact ⟨_, rfl, HE.out, HG.out⟩
    | succ g =>
      have hkz : (k : Int) < (l.length : Int) := by omega
      have hkl : k < l.length := by omega
      have hx : l[k]? = some (el l k) := by unfold el; rw [List.getElem?_eq_getElem hkl]; rfl
      obtain ⟨ad, c3, e, _, d0, _, d2, d3, d4, d5⟩ := Its_at (HX.out.grew HG.out) hx
      injection e with e1 e2 e3
      subst e1 e3
      clear e2
      have HKW := Lib.hid (wr1 hkl HNN.out)
      have HM : Hid (k + 1 + g = l.length) := Lib.hid (by omega)
      have HY := Lib.hid (upH_yes l h k)
      have HNO := Lib.hid (upH_no l h k)
      obtain ⟨b0, b1⟩ := ref2 (keepB B0.out HBX.out)
      have hhol : hol (el l k) = ⟨(el l k).kind, (el l k).who, (el l k).lab, (el l k).slot⟩ := rfl
      have HHO := Lib.hid hhol
      clear hx hkg hkl hhol
      generalize (el l k).used = us at *
      generalize (el l k).kind = kd at *
      generalize (el l k).who = wh at *
      generalize (el l k).lab = lb at *
      generalize (el l k).slot = sb at *
      cases us with
      | false =>
        have HE : Hid (upH l h (k + 1) = upH l h k) := Lib.hid (HNO.out (by
          rintro ⟨h1, h2⟩
          rw [HHO.out, ← HH.out] at h2
          unfold floor at h2
          injection h2 with z1 z2 z3 z4
          exact by cases h1))
        clear HY HNO HHO
        go_wp2
        refine Facts.wp_region_text (by kernel_rfl) (by kernel_rfl) ?_
        repeat
          apply Facts.Lex.exact [] _ (by kernel_rfl)
          · intro u W hC _
            have j0 := cellB hC b0
            have j1 := cellB hC b1
            have i0 := cellB hC d0
            have i2 := cellB hC d2
            have i3 := cellB hC d3
            have i4 := cellB hC d4
            have i5 := cellB hC d5
            unfold Facts.one
            go_simp
            first | exact ⟨Grew.refl _, rfl⟩ | rfl
          simp only [Act.put, List.setIfInBounds_toArray, List.set_cons_zero, List.set_cons_succ, Nat.zero_add, Nat.reduceAdd]
        refine Facts.Lex.done fun u W2 hC hL => ?_
        have HG2 := Lib.hid (HG.out.trans hC)
        have HB2 := Lib.hid (HBX.out.trans hC)
        have HO2 := Lib.hid (own_grew HI.out hC)
        clear hC hL b0 b1 d0 d2 d3 d4 d5
        go_wp2
        go_roundg g
        case measure => omega
        case rel =>
          refine ⟨k + 1, _, HM.out, rfl, by first | (simp; done) | rw [HKW.out], ?_, HG2, HB2⟩
          rw [HE.out]
          exact HO2
      | true =>
        by_cases hk : kd = 2
        · subst hk
          by_cases hla : lb = a
          · subst hla
            by_cases hsb : sb = b
            · subst hsb
              by_cases hw : wh = 0
              · subst hw
                have HE : Hid (upH l h (k + 1) = upH l h k ++ [(k : Int)]) := Lib.hid (HY.out rfl (HHO.out.trans HH.out))
                clear HY HNO HHO
                go_wp2
                refine Facts.wp_region_text (by kernel_rfl) (by kernel_rfl) ?_
                repeat
                  apply Facts.Lex.exact [] _ (by kernel_rfl)
                  · intro u W hC _
                    have j0 := cellB hC b0
                    have j1 := cellB hC b1
                    have i0 := cellB hC d0
                    have i2 := cellB hC d2
                    have i3 := cellB hC d3
                    have i4 := cellB hC d4
                    have i5 := cellB hC d5
                    unfold Facts.one
                    go_simp
                    first | exact ⟨Grew.refl _, rfl⟩ | rfl
                  simp only [Act.put, List.setIfInBounds_toArray, List.set_cons_zero, List.set_cons_succ, Nat.zero_add, Nat.reduceAdd]
                refine Facts.Lex.done fun u W2 hC hL => ?_
                have HG2 := Lib.hid (HG.out.trans hC)
                have HB2 := Lib.hid (HBX.out.trans hC)
                have HO2 := Lib.hid (own_grew HI.out hC)
                clear hC hL b0 b1 d0 d2 d3 d4 d5
                obtain ⟨v', w3, hr, hown, hb⟩ := app_one W2 wb.heap.size v5 (upH l h k) (k : Int) HO2.out (by have := upH_len l h k; have := HNN.out; have := HM.out; omega) HB2.out.size
                have HAPP := Lib.hid hr
                have HO := Lib.hid hown
                have HB3 : Hid (Grew wb w3) := Lib.hid ((show Below wb.heap.size wb W2 from HB2.out).trans hb)
                have HG3 : Hid (Grew w w3) := Lib.hid (G0.out.trans HB3.out)
                clear hr hown hb
                go_wp2_with (at_builtin; refine wpList_app_want (.tmp 43) (.tmp 45) 57 (by rfl) (by rfl) _ _ rfl rfl v' w3 (by exact HAPP.out) ?_)
                go_roundg g
                case measure => omega
                case rel =>
                  refine ⟨k + 1, _, HM.out, rfl, by first | (simp; done) | rw [HKW.out], ?_, HG3, HB3⟩
                  rw [HE.out]
                  exact HO
              · have hw' : (wh == 0) = false := by simpa using hw
                have HE : Hid (upH l h (k + 1) = upH l h k) := Lib.hid (HNO.out (by
                  rintro ⟨h1, h2⟩
                  rw [HHO.out, ← HH.out] at h2
                  unfold floor at h2
                  injection h2 with z1 z2 z3 z4
                  exact hw z2))
                clear HY HNO HHO
                clear hw
                go_wp2
                refine Facts.wp_region_text (by kernel_rfl) (by kernel_rfl) ?_
                repeat
                  apply Facts.Lex.exact [] _ (by kernel_rfl)
                  · intro u W hC _
                    have j0 := cellB hC b0
                    have j1 := cellB hC b1
                    have i0 := cellB hC d0
                    have i2 := cellB hC d2
                    have i3 := cellB hC d3
                    have i4 := cellB hC d4
                    have i5 := cellB hC d5
                    unfold Facts.one
                    go_simp
                    first | exact ⟨Grew.refl _, rfl⟩ | rfl
                  simp only [Act.put, List.setIfInBounds_toArray, List.set_cons_zero, List.set_cons_succ, Nat.zero_add, Nat.reduceAdd]
                refine Facts.Lex.done fun u W2 hC hL => ?_
                have HG2 := Lib.hid (HG.out.trans hC)
                have HB2 := Lib.hid (HBX.out.trans hC)
                have HO2 := Lib.hid (own_grew HI.out hC)
                clear hC hL b0 b1 d0 d2 d3 d4 d5
                go_wp2
                go_roundg g
                case measure => omega
                case rel =>
                  refine ⟨k + 1, _, HM.out, rfl, by first | (simp; done) | rw [HKW.out], ?_, HG2, HB2⟩
                  rw [HE.out]
                  exact HO2
            · have hsb' : (sb == b) = false := by simpa using hsb
              have HE : Hid (upH l h (k + 1) = upH l h k) := Lib.hid (HNO.out (by
                rintro ⟨h1, h2⟩
                rw [HHO.out, ← HH.out] at h2
                unfold floor at h2
                injection h2 with z1 z2 z3 z4
                exact hsb z4))
              clear HY HNO HHO
              clear hsb
              go_wp2
              refine Facts.wp_region_text (by kernel_rfl) (by kernel_rfl) ?_
              repeat
                apply Facts.Lex.exact [] _ (by kernel_rfl)
                · intro u W hC _
                  have j0 := cellB hC b0
                  have j1 := cellB hC b1
                  have i0 := cellB hC d0
                  have i2 := cellB hC d2
                  have i3 := cellB hC d3
                  have i4 := cellB hC d4
                  have i5 := cellB hC d5
                  unfold Facts.one
                  go_simp
                  first | exact ⟨Grew.refl _, rfl⟩ | rfl
                simp only [Act.put, List.setIfInBounds_toArray, List.set_cons_zero, List.set_cons_succ, Nat.zero_add, Nat.reduceAdd]
              refine Facts.Lex.done fun u W2 hC hL => ?_
              have HG2 := Lib.hid (HG.out.trans hC)
              have HB2 := Lib.hid (HBX.out.trans hC)
              have HO2 := Lib.hid (own_grew HI.out hC)
              clear hC hL b0 b1 d0 d2 d3 d4 d5
              go_wp2
              go_roundg g
              case measure => omega
              case rel =>
                refine ⟨k + 1, _, HM.out, rfl, by first | (simp; done) | rw [HKW.out], ?_, HG2, HB2⟩
                rw [HE.out]
                exact HO2
          · have hla' : (lb == a) = false := by simpa using hla
            have HE : Hid (upH l h (k + 1) = upH l h k) := Lib.hid (HNO.out (by
              rintro ⟨h1, h2⟩
              rw [HHO.out, ← HH.out] at h2
              unfold floor at h2
              injection h2 with z1 z2 z3 z4
              exact hla z3))
            clear HY HNO HHO
            clear hla
            go_wp2
            refine Facts.wp_region_text (by kernel_rfl) (by kernel_rfl) ?_
            repeat
              apply Facts.Lex.exact [] _ (by kernel_rfl)
              · intro u W hC _
                have j0 := cellB hC b0
                have j1 := cellB hC b1
                have i0 := cellB hC d0
                have i2 := cellB hC d2
                have i3 := cellB hC d3
                have i4 := cellB hC d4
                have i5 := cellB hC d5
                unfold Facts.one
                go_simp
                first | exact ⟨Grew.refl _, rfl⟩ | rfl
              simp only [Act.put, List.setIfInBounds_toArray, List.set_cons_zero, List.set_cons_succ, Nat.zero_add, Nat.reduceAdd]
            refine Facts.Lex.done fun u W2 hC hL => ?_
            have HG2 := Lib.hid (HG.out.trans hC)
            have HB2 := Lib.hid (HBX.out.trans hC)
            have HO2 := Lib.hid (own_grew HI.out hC)
            clear hC hL b0 b1 d0 d2 d3 d4 d5
            go_wp2
            go_roundg g
            case measure => omega
            case rel =>
              refine ⟨k + 1, _, HM.out, rfl, by first | (simp; done) | rw [HKW.out], ?_, HG2, HB2⟩
              rw [HE.out]
              exact HO2
        · have hk' : (kd == 2) = false := by simpa using hk
          have HE : Hid (upH l h (k + 1) = upH l h k) := Lib.hid (HNO.out (by
            rintro ⟨h1, h2⟩
            rw [HHO.out, ← HH.out] at h2
            unfold floor at h2
            injection h2 with z1 z2 z3 z4
            exact hk z1))
          clear HY HNO HHO
          clear hk
          go_wp2
          refine Facts.wp_region_text (by kernel_rfl) (by kernel_rfl) ?_
          repeat
            apply Facts.Lex.exact [] _ (by kernel_rfl)
            · intro u W hC _
              have j0 := cellB hC b0
              have j1 := cellB hC b1
              have i0 := cellB hC d0
              have i2 := cellB hC d2
              have i3 := cellB hC d3
              have i4 := cellB hC d4
              have i5 := cellB hC d5
              unfold Facts.one
              go_simp
              first | exact ⟨Grew.refl _, rfl⟩ | rfl
            simp only [Act.put, List.setIfInBounds_toArray, List.set_cons_zero, List.set_cons_succ, Nat.zero_add, Nat.reduceAdd]
          refine Facts.Lex.done fun u W2 hC hL => ?_
          have HG2 := Lib.hid (HG.out.trans hC)
          have HB2 := Lib.hid (HBX.out.trans hC)
          have HO2 := Lib.hid (own_grew HI.out hC)
          clear hC hL b0 b1 d0 d2 d3 d4 d5
          go_wp2
          go_roundg g
          case measure => omega
          case rel =>
            refine ⟨k + 1, _, HM.out, rfl, by first | (simp; done) | rw [HKW.out], ?_, HG2, HB2⟩
            rw [HE.out]
            exact HO2

end Go.Proofs.Ytaolallfmjjoeaa.DF
