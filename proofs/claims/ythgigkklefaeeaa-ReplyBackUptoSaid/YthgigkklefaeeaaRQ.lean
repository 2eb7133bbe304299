/-
  ReplyBack: messages there and back.
  Conditions: those that each lemma names.
-/
import Derived.Test.YthgigkklefaeeaaRP
import Derived.Test.YthgigkklefaeeaaRN
import Derived.Test.YthgigkklefaeeaaRL
namespace Go.Proofs.Ythgigkklefaeeaa.RQ
set_option maxRecDepth 100000
open Go Go.RowKit Go.Lib Go.Proofs.Ythgigkklefaeeaa Go.Proofs.Ythgigkklefaeeaa.Facts Go.Proofs.Ythgigkklefaeeaa.Bytes Go.Proofs.Ythgigkklefaeeaa.Puts Go.Proofs.Ythgigkklefaeeaa.Scan Go.Proofs.Ythgigkklefaeeaa.Take Go.Proofs.Ythgigkklefaeeaa.Nums Go.Proofs.Ythgigkklefaeeaa.SumPure Go.Proofs.Ythgigkklefaeeaa.Sum Go.Proofs.Ythgigkklefaeeaa.FP Go.Proofs.Ythgigkklefaeeaa.FW Go.Proofs.Ythgigkklefaeeaa.FX Go.Proofs.Ythgigkklefaeeaa.Ints Go.Proofs.Ythgigkklefaeeaa.PA Go.Proofs.Ythgigkklefaeeaa.RA Go.Proofs.Ythgigkklefaeeaa.RC Go.Proofs.Ythgigkklefaeeaa.RD Go.Proofs.Ythgigkklefaeeaa.RE Go.Proofs.Ythgigkklefaeeaa.RF Go.Proofs.Ythgigkklefaeeaa.RG Go.Proofs.Ythgigkklefaeeaa.RH Go.Proofs.Ythgigkklefaeeaa.RI Go.Proofs.Ythgigkklefaeeaa.RK Go.Proofs.Ythgigkklefaeeaa.RL Go.Proofs.Ythgigkklefaeeaa.RM Go.Proofs.Ythgigkklefaeeaa.RN Go.Proofs.Ythgigkklefaeeaa.RP Go.Proofs.Ythgigkklefaeeaa.FS Go.Proofs.Ythgigkklefaeeaa.FT Go.Proofs.Ythgigkklefaeeaa.FB1

theorem msgs_take (l : List Ou) (i : Nat) (x : Ou) (h : l[i]? = some x) : msgs (l.take (i + 1)) = msgs (l.take i) ++ wrapO x := by
  rw [List.take_add_one, h]
  exact msgs_app _ _
theorem oks_take (l : List Ou) (i : Nat) (x : Ou) (h : l[i]? = some x) : oks (l.take (i + 1)) = if okO x = true then oks (l.take i) ++ [x] else oks (l.take i) := by
  rw [List.take_add_one, h]
  exact oks_app _ _
theorem os_le {base : Nat} {w : World} {v : Value} {l : List Ou} (h : OS base w v l) : l.length ≤ 9223372036854775807 := by
  obtain ⟨L, rfl, ho, _⟩ := h
  rw [List.length_map]
  rcases ho.2 with ⟨_, h0⟩ | ⟨g, cap, cur, _, _, _, hn, hm, _⟩
  · omega
  · unfold maxLen at hm
    omega
set_option maxHeartbeats 8000000 in
theorem back_any (w : World) (A : Option Addr) (c : Nat) (l : List Ou) (v2 : Value) (b : List UInt8) (S : Nat → Prop) (h : ORd w (.slice A l.length c) l) (h2 : Rd S w v2 b) (hb : b.length ≤ 1048576) :
    Calls Try.prog 4 #[.slice A l.length c, v2] w fun e w' => e = .returned (.bool true) ∧ Grew w w' := by
  have HE := Lib.hid (els_of h)
  have H2 := Lib.hid h2
  have HB := Lib.hid hb
  obtain ⟨A2, c2, rfl, _⟩ := id h2
  obtain ⟨M, hM⟩ : ∃ M, min l.length 20 = M := ⟨_, rfl⟩
  have HM := Lib.hid hM
  clear h h2 hb hM
  go_enter Try.func4, Try.ntmps4
  go_wp2
  go_loopg [5, 6, 7] M (fun g s5 s6 s7 wx => ∃ (i n5 c5 n6 c6 : Nat) (A5 A6 : Option Addr), i + g = M ∧ s7 = .int .i64 (i : Int) ∧ s5 = .slice A5 n5 c5 ∧ s6 = .slice A6 n6 c6 ∧ Hid (n5 = (msgs (l.take i)).length) ∧ Hid (wx.ownsRow w.heap.size 5 1 (.slice A5 n5 c5) (msgs (l.take i)).length (bv (msgs (l.take i)))) ∧ Hid (n6 = (oks (l.take i)).length) ∧ Hid (KS w.heap.size w.heap.size wx (.slice A6 n6 c6) (oks (l.take i))) ∧ Hid (Grew w wx))
  case atStart => exact ⟨0, 0, 0, 0, 0, none, none, by omega, rfl, rfl, rfl, Lib.hid rfl, Lib.hid (World.ownsRow_nil _ _ _ _), Lib.hid rfl, Lib.hid (KS.nil _ _ _), Lib.hid (Grew.refl _)⟩
  case round =>
    obtain ⟨i, n5, c5, n6, c6, A5, A6, hig, rfl, rfl, rfl, HN5, HO5, HN6, HK6, HG⟩ := hrel
    cases gk with
    | zero =>
      have hiM : l.take i = l.take 20 := by
        have := HM.out
        by_cases hl : l.length ≤ 20
        · rw [List.take_of_length_le (by omega), List.take_of_length_le hl]
        · rw [show i = 20 by omega]
      obtain ⟨L, hL⟩ : ∃ L, l.take i = L := ⟨_, rfl⟩
      rw [hL] at HN5 HO5 HN6 HK6
      have hLl : L.length ≤ 20 := by rw [← hL, List.length_take]; have := HM.out; omega
      have HLL := Lib.hid hLl
      have HRD := Lib.hid (Rd.of_own HO5.out rfl)
      have HML : Hid ((msgs L).length ≤ 1048576) := Lib.hid (by have := msgs_len L; omega)
      have HOK : Hid ((oks L).length ≤ 9223372036854775807) := Lib.hid (by have := oks_len L; omega)
      have hn5 := HN5.out
      subst hn5
      have hd : (i < l.length ∧ 20 ≤ i) ∨ l.length ≤ i := by have := HM.out; omega
      clear hiM hL hLl hig HM HN5
      obtain ⟨⟨K, f⟩, hK⟩ : ∃ p, allO b = p := ⟨_, rfl⟩
      have HKQ := Lib.hid hK
      have HKF : Hid (K = [] ∨ f = 0 ∧ msgs K = b) := Lib.hid (by
        by_cases hf : f = 0
        · refine .inr ⟨hf, ?_⟩
          have := all_inv b (by rw [hK]; exact hf)
          rw [hK] at this
          exact this
        · refine .inl ?_
          have := all_err b (by rw [hK]; exact hf)
          rw [hK] at this
          exact this)
      clear hK
      rcases hd with ⟨hd1, hd2⟩ | hd
      case' inl =>
        have d1 : ((i : Int) < (l.length : Int)) := by omega
        have d2 : ¬ ((i : Int) < 20) := by omega
        clear hd1 hd2
      case' inr =>
        have d1 : ¬ ((i : Int) < (l.length : Int)) := by omega
        have d2 : True := trivial
        clear hd
      all_goals
        go_wp2_with fail
        refine (RL.all_eq _ _ (msgs L) _ (oks L) 0 HRD.out HML.out (all_msgs L)).mono ?_
        rintro e w1 ⟨v1, rfl, os1, g1⟩
        obtain ⟨A9, c9, rfl⟩ := os1.len
        have ORA := Lib.hid (ORd.of_own os1)
        have G1 := Lib.hid (HG.out.trans g1)
        have ORB := Lib.hid ((HK6.out.grew g1).ord G1.out.size)
        clear os1 g1 d1 d2 HRD HK6 HO5 HG
        go_wp2_with fail
        refine (sames_any w1 _ _ (oks L) (oks L) ORA.out ORB.out HOK.out).mono ?_
        rintro e w2 ⟨rfl, g2⟩
        rw [show decide (oks L = oks L) = true from decide_eq_true rfl]
        have G2 := Lib.hid (G1.out.trans g2)
        clear g2 ORA ORB G1
        go_wp2_with fail
        refine (RL.all_eq _ _ b w2 K f (H2.out.grew G2.out) HB.out HKQ.out).mono ?_
        rintro e w3 ⟨v3, rfl, os3, g3⟩
        obtain ⟨A10, c10, rfl⟩ := os3.len
        have HKL := Lib.hid (os_le os3)
        have EL3 := Lib.hid (els_of (ORd.of_own os3))
        have G3 := Lib.hid (G2.out.trans g3)
        clear os3 g3 G2
        go_wp2
        go_loopg [13, 14] K.length (fun g s13 s14 wx => ∃ (j n c' : Nat) (A' : Option Addr), j + g = K.length ∧ s14 = .int .i64 (j : Int) ∧ s13 = .slice A' n c' ∧ Hid (n = (msgs (K.take j)).length) ∧ Hid (wx.ownsRow w3.heap.size 5 1 (.slice A' n c') (msgs (K.take j)).length (bv (msgs (K.take j)))) ∧ Hid (Grew w3 wx))
        case atStart => exact ⟨0, 0, 0, none, by omega, rfl, rfl, Lib.hid rfl, Lib.hid (World.ownsRow_nil _ _ _ _), Lib.hid (Grew.refl _)⟩
        case round =>
          obtain ⟨j, n, c', A', hjg, rfl, rfl, HN, HO, HG⟩ := hrel
          cases gk with
          | zero =>
            have hjz : ¬ ((j : Int) < (K.length : Int)) := by omega
            have HD : Hid (Rd (fun _ => True) wr (.slice A' n c') (msgs K)) := Lib.hid (by
              have := HO.out
              rw [List.take_of_length_le (by omega)] at this
              have hn := HN.out
              rw [List.take_of_length_le (by omega)] at hn
              exact (Rd.of_own (by rw [hn] at this ⊢; exact this) rfl).mono fun _ _ => trivial)
            clear HO HN hjg
            go_wp2_with fail
            refine (alive_any wr).mono ?_
            rintro e w4 ⟨rfl, g4⟩
            have G4 := Lib.hid ((G3.out.trans HG.out).trans g4)
            rcases HKF.out with hk | ⟨hf, hk⟩
            · by_cases hf : f = 0
              · have e1 : b = msgs K := by
                  have := all_inv b (by rw [HKQ.out]; exact hf)
                  rw [HKQ.out] at this
                  exact this.symm
                have k1 := conv22 (HD.out.grew g4)
                have k2 := conv22 (H2.out.grew G4.out)
                rw [← e1] at k1
                have d3 : (f != 0) = false := by simp [hf]
                have d4 : (f == 0) = true := by simp [hf]
                clear hf hk e1 g4
                go_wp2
                go_returns
                exact ⟨rfl, G4.out⟩
              · have d3 : (f != 0) = true := by simp [hf]
                have d4 : ((K.length : Int) == 0) = true := by simp [hk]
                have d5 : (K.length : Int) = 0 := by simp [hk]
                clear hf hk g4
                go_wp2
                go_returns
                exact ⟨rfl, G4.out⟩
            · have k1 := conv22 (HD.out.grew g4)
              have k2 := conv22 (H2.out.grew G4.out)
              rw [hk] at k1
              have d3 : (f != 0) = false := by simp [hf]
              have d4 : (f == 0) = true := by simp [hf]
              clear hf hk g4
              go_wp2
              go_returns
              exact ⟨rfl, G4.out⟩
          | succ g =>
            have hjl : ((j : Int) < (K.length : Int)) := by omega
            obtain ⟨x, hx⟩ : ∃ x, K[j]? = some x := ⟨_, List.getElem?_eq_getElem (by omega)⟩
            obtain ⟨ad, A3, c3, rfl, hel⟩ := EL3.out j x hx
            have HWT := Lib.hid (msgs_take K j x hx)
            have hlen : (msgs (K.take j)).length + (wrapO x).length ≤ 1048576 := by
              rcases HKF.out with hk | ⟨_, hk⟩
              · rw [hk] at hx; cases hx
              · have h1 := HWT.out
                have h2 : msgs K = msgs (K.take (j + 1)) ++ msgs (K.drop (j + 1)) := by
                  unfold msgs
                  rw [← List.flatten_append, ← List.map_append, List.take_append_drop]
                rw [hk, h1] at h2
                have h3 := congrArg List.length h2
                have := HB.out
                rw [List.length_append, List.length_append] at h3
                omega
            have HLEN := Lib.hid hlen
            have hwi : wrap64 ((j : Int) + 1) = ((j + 1 : Nat) : Int) := by
              have := HKL.out
              unfold wrap64
              omega
            have HWI := Lib.hid hwi
            have HJG := Lib.hid hjg
            obtain ⟨x0, x1, x2, x3, hrx⟩ := hel wr HG.out
            have HWM := Lib.hid (RH.wrap_any _ x A3 c3 wr hrx)
            clear hx hel hwi hjg hrx hlen
            go_wp2_with fail
            refine HWM.out.mono ?_
            rintro e w4 ⟨v4, rfl, r4, g4⟩
            obtain ⟨A4, c4, rfl, _⟩ := id r4
            obtain ⟨v5, w5, r5, o5, b5, _⟩ := run_app2 w4 w3.heap.size (.slice A' n c') A4 c4 (msgs (K.take j)) (wrapO x) _ (own_grew HO.out g4) r4 (by have := HLEN.out; omega) (Nat.le_trans HG.out.size g4.size)
            rw [← HWT.out] at o5
            obtain ⟨A5, c5, rfl⟩ := own_some o5
            have R5 := Lib.hid r5
            have O5 := Lib.hid o5
            have G5 : Hid (Grew w3 w5) := Lib.hid ((show Below w3.heap.size w3 w4 from HG.out.trans g4).trans b5)
            obtain ⟨n5, hn5⟩ : ∃ n5, (msgs (K.take (j + 1))).length = n5 := ⟨_, rfl⟩
            have HN5 := Lib.hid hn5
            rw [hn5] at R5
            clear r4 g4 r5 o5 b5 hn5 x0 x1 x2 x3 HO HG HWM
            have hwi := HWI.out
            go_wp2_with (at_builtin; refine wpList_app' rfl (.tmp 83) (.tmp 88) 23 23 rfl _ _ rfl rfl _ w5 (by exact R5.out) ?_)
            go_roundg g
            case measure => have := HJG.out; omega
            case rel => exact ⟨j + 1, n5, c5, A5, by have := HJG.out; omega, by first | rfl | simp [hwi], rfl, Lib.hid HN5.out.symm, Lib.hid (by have := O5.out; rw [← HN5.out]; exact this), G5⟩
    | succ g =>
      have hil : i < l.length ∧ i < 20 := by have := HM.out; omega
      obtain ⟨x, hx⟩ : ∃ x, l[i]? = some x := ⟨_, List.getElem?_eq_getElem hil.1⟩
      obtain ⟨ad, A3, c3, rfl, hel⟩ := HE.out i x hx
      have HEL := Lib.hid hel
      have HWT := Lib.hid (msgs_take l i x hx)
      have HOT := Lib.hid (oks_take l i x hx)
      have HWL : Hid ((msgs (l.take i)).length ≤ 5060) := Lib.hid (by have := msgs_len (l.take i); rw [List.length_take] at this; omega)
      have HOL : Hid ((oks (l.take i)).length ≤ 20) := Lib.hid (by have := oks_len (l.take i); rw [List.length_take] at this; omega)
      have d1 : ((i : Int) < (l.length : Int)) := by omega
      have d2 : ((i : Int) < 20) := by omega
      have hwi : wrap64 ((i : Int) + 1) = ((i + 1 : Nat) : Int) := by unfold wrap64; omega
      have HWI := Lib.hid hwi
      have HIG := Lib.hid hig
      obtain ⟨x0, x1, x2, x3, hrx⟩ := hel wr HG.out
      have HRX := Lib.hid hrx
      have HWM := Lib.hid (RH.wrap_any _ x A3 c3 wr hrx)
      clear hx hel hwi hig hil hrx
      go_wp2_with fail
      refine HWM.out.mono ?_
      rintro e w1 ⟨v1, rfl, r1, g1⟩
      obtain ⟨A1, c1, rfl, _⟩ := id r1
      have R1 := Lib.hid r1
      have G1 := Lib.hid (HG.out.trans g1)
      have HO51 := Lib.hid (own_grew HO5.out g1)
      have HK61 := Lib.hid (HK6.out.grew g1)
      clear r1 g1 x0 x1 x2 x3 HO5 HK6 HG HWM
      obtain ⟨x0, x1, x2, x3, _⟩ := HEL.out w1 G1.out
      have HMY := Lib.hid (may_any x.k x.o x.e A3 x.d.length c3 w1)
      obtain ⟨q, hq⟩ : ∃ q, okO x = q := ⟨_, rfl⟩
      have HQ : Hid (mayP x.k x.o x.e x.d.length = q) := Lib.hid hq
      have HQ2 := Lib.hid hq
      have t1 : decide (0 < (wrapO x).length) = q := by rw [wrapO_pos, hq]
      have t2 : ¬ ((253 : Int) < ((wrapO x).length : Int)) := by have := wrapO_le x; omega
      have t3 : (q != q) = false := by simp
      clear hq
      go_wp2_with fail
      refine HMY.out.mono ?_
      rintro e w2 ⟨rfl, g2⟩
      rw [HQ.out]
      have G2 := Lib.hid (G1.out.trans g2)
      have o2 := own_grew HO51.out g2
      have HK2 := Lib.hid (HK61.out.grew g2)
      obtain ⟨v3, w3, r3, o3, b3, k3⟩ := run_app2 w2 w.heap.size (.slice A5 n5 c5) A1 c1 (msgs (l.take i)) (wrapO x) _ o2 (R1.out.grew g2) (by have := HWL.out; have := wrapO_le x; omega) G2.out.size
      rw [← HWT.out] at o3
      obtain ⟨A7, c7, rfl⟩ := own_some o3
      have R3 := Lib.hid r3
      have O3 := Lib.hid o3
      have G3 : Hid (Grew w w3) := Lib.hid ((show Below w.heap.size w w2 from G2.out).trans b3)
      have HK3 := Lib.hid (HK2.out.kept k3 (fun k hk e => HK2.out.apart o2 k e hk) (fun k hk => (o2.lt k hk).1))
      have HMY3 := Lib.hid (may_any x.k x.o x.e A3 x.d.length c3 w3)
      obtain ⟨n7, hn7⟩ : ∃ n7, (msgs (l.take (i + 1))).length = n7 := ⟨_, rfl⟩
      have HN7 := Lib.hid hn7
      rw [hn7] at R3
      clear g2 o2 r3 o3 b3 k3 hn7 x0 x1 x2 x3 HO51 HK61 HMY R1 G1 HK2
      obtain ⟨x0, x1, x2, x3, _⟩ := HEL.out w3 G3.out
      go_wp2_with (at_builtin; refine wpList_app' rfl (.tmp 44) (.tmp 45) 23 23 rfl _ _ rfl rfl _ w3 (by exact R3.out) ?_)
      refine HMY3.out.mono ?_
      rintro e w4 ⟨rfl, g4⟩
      rw [HQ.out]
      have G4 := Lib.hid (G3.out.trans g4)
      have O4 := Lib.hid (own_grew O3.out g4)
      have HK4 := Lib.hid (HK3.out.grew g4)
      clear g4 x0 x1 x2 x3 O3 HK3 HMY3 R3 t1 t2 t3 G3
      obtain ⟨x0, x1, x2, x3, hrx⟩ := HEL.out w4 G4.out
      have HR4 := Lib.hid hrx
      clear hrx
      cases q with
      | false =>
        have hot := HOT.out
        rw [HQ2.out, if_neg (by decide)] at hot
        have HOT2 := Lib.hid hot
        clear hot
        have hwi := HWI.out
        go_wp2
        go_roundg g
        case measure => have := HIG.out; omega
        case rel => exact ⟨i + 1, n7, c7, n6, c6, A7, A6, by have := HIG.out; omega, by first | rfl | simp [hwi], rfl, rfl, Lib.hid HN7.out.symm, Lib.hid (by have := O4.out; rw [← HN7.out]; exact this), Lib.hid (by rw [HOT2.out]; exact HN6.out), Lib.hid (by rw [HOT2.out]; exact HK4.out), G4⟩
      | true =>
        have hot := HOT.out
        rw [HQ2.out, if_pos rfl] at hot
        have HOT2 := Lib.hid hot
        obtain ⟨A8, c8, w5, r5, hk5, b5, k5⟩ := ks_app w.heap.size w4 w.heap.size (.slice A6 n6 c6) (oks (l.take i)) x A3 c3 HK4.out (Nat.le_refl _) HR4.out (by have := HOL.out; omega) G4.out.size
        rw [← hot] at r5 hk5
        have R5 := Lib.hid r5
        have HK5 := Lib.hid hk5
        have G5 : Hid (Grew w w5) := Lib.hid ((show Below w.heap.size w w4 from G4.out).trans b5)
        have ga := box_cells w4 x A3 c3
        have o4a := own_grew O4.out ga
        have O5 := Lib.hid (own_kept o4a k5 (fun k hk e => HK4.out.apart O4.out k hk e))
        obtain ⟨n8, hn8⟩ : ∃ n8, (oks (l.take (i + 1))).length = n8 := ⟨_, rfl⟩
        have HN8 := Lib.hid hn8
        rw [hn8] at R5 HK5
        clear hot r5 hk5 b5 k5 ga o4a hn8
        have hwi := HWI.out
        go_wp2_with (at_builtin; refine wpList_app' rfl (.tmp 52) (.tmp 57) 31 31 rfl _ _ rfl rfl _ w5 (by exact R5.out) ?_)
        go_roundg g
        case measure => have := HIG.out; omega
        case rel => exact ⟨i + 1, n7, c7, n8, c8, A7, A8, by have := HIG.out; omega, by first | rfl | simp [hwi], rfl, rfl, Lib.hid HN7.out.symm, Lib.hid (by have := O5.out; rw [← HN7.out]; exact this), Lib.hid HN8.out.symm, HK5, G5⟩
end Go.Proofs.Ythgigkklefaeeaa.RQ
