/-
  FrameSkips: behind bytes that tell too much, each taken by itself, a frame is taken as it was.
  Conditions: those that each lemma names.
-/
import Derived.Test.YtbdlpmaigbbpaaaFA
import Derived.Test.YtbdlpmaigbbpaaaLaw
namespace Go.Proofs.Ytbdlpmaigbbpaaa.FK
set_option maxRecDepth 100000
open Go Go.RowKit Go.Lib Go.Proofs.Ytbdlpmaigbbpaaa Go.Proofs.Ytbdlpmaigbbpaaa.Facts Go.Proofs.Ytbdlpmaigbbpaaa.Bytes Go.Proofs.Ytbdlpmaigbbpaaa.Puts Go.Proofs.Ytbdlpmaigbbpaaa.Scan Go.Proofs.Ytbdlpmaigbbpaaa.Take Go.Proofs.Ytbdlpmaigbbpaaa.Nums Go.Proofs.Ytbdlpmaigbbpaaa.SumPure Go.Proofs.Ytbdlpmaigbbpaaa.Sum Go.Proofs.Ytbdlpmaigbbpaaa.FP Go.Proofs.Ytbdlpmaigbbpaaa.FW Go.Proofs.Ytbdlpmaigbbpaaa.FX Go.Proofs.Ytbdlpmaigbbpaaa.FT Go.Proofs.Ytbdlpmaigbbpaaa.FU Go.Proofs.Ytbdlpmaigbbpaaa.FS Go.Proofs.Ytbdlpmaigbbpaaa.FV Go.Proofs.Ytbdlpmaigbbpaaa.FV2 Go.Proofs.Ytbdlpmaigbbpaaa.FA

theorem fst_fr (b t : List UInt8) (h : b.length ≤ 255) : fst (fr b ++ t) = b.length := by
  unfold fst fr hd
  simp
  omega
/-- A frame is taken as it was wrapped, whatever stands behind it. -/
theorem take_fr (b t : List UInt8) (most : Int) (h : b.length ≤ lim most) : takeP (fr b ++ t) most = (b, b.length + 3, 0) := by
  have hl := lim_le most
  have hf := fst_fr b t (by omega)
  have hlen : (fr b ++ t).length = b.length + 3 + t.length := by rw [List.length_append, fr_length]
  unfold takeP
  rw [hf, if_neg (by omega), if_neg (by omega), if_neg (by omega)]
  have e1 : (fr b ++ t).take (b.length + 1) = hd b := by
    unfold fr
    rw [List.append_assoc, List.take_left' (by rw [hd_length])]
  have e2 : ((fr b ++ t).drop (b.length + 1)).take 2 = be 2 (sh (hd b)) := by
    unfold fr
    rw [List.append_assoc, List.drop_left' (by rw [hd_length]), List.take_left' (by rw [be_length])]
  have e3 : ((fr b ++ t).drop 1).take b.length = b := by
    have : (fr b ++ t).drop 1 = b ++ (be 2 (sh (hd b)) ++ t) := by simp [fr, hd]
    rw [this, List.take_left' rfl]
  rw [e1, e2, e3, val_be _ (sh_lt _), if_pos rfl]
theorem take_cut (b : List UInt8) (k : Nat) (h : b.length ≤ 255) (hk : k < b.length + 3) : takeP ((fr b).take k) 255 = ([], 0, 12) := by
  have hlen : ((fr b).take k).length = k := by rw [List.length_take, fr_length]; omega
  unfold takeP
  by_cases h0 : k = 0
  · rw [if_pos (by omega)]
  · have hf : fst ((fr b).take k) = b.length := by
      cases k with
      | zero => omega
      | succ k => unfold fst fr hd; simp; omega
    have hl : lim 255 = 255 := by decide
    rw [hf, if_neg (by omega), if_neg (by omega), if_pos (by omega)]

/-- A byte that tells more than 60. -/
def jb (b : UInt8) : UInt8 := UInt8.ofNat (61 + b.toNat % 195)
theorem jb_toNat (b : UInt8) : (jb b).toNat = 61 + b.toNat % 195 := by
  unfold jb
  simp
  omega
theorem take_junk (b : UInt8) (t : List UInt8) : takeP (jb b :: t) 60 = ([], 1, 13) := by
  unfold takeP
  have hf : fst (jb b :: t) = 61 + b.toNat % 195 := by unfold fst; simp [jb_toNat]
  have hl : lim 60 = 60 := by decide
  rw [hf, hl, if_neg (by simp), if_pos (by omega)]
set_option maxHeartbeats 4000000 in
theorem law_any (S1 S2 : Nat → Prop) (v1 v2 : Value) (b j : List UInt8) (w : World) (h1 : Rd S1 w v1 b) (h2 : Rd S2 w v2 j) :
    Calls Try.prog 5 #[v1, v2] w fun e w' => e = .returned (.bool true) ∧ Grew w w' := by
  have H1 := Lib.hid h1
  have H2 := Lib.hid h2
  obtain ⟨A2, c2, rfl, _, _⟩ := id h2
  clear h1 h2
  have hlim : lim 60 = 60 := by decide
  by_cases hb : 60 < b.length
  · have HX : Hid (wrapP b 60 = ([], 13)) := Lib.hid (by unfold wrapP; rw [hlim, if_pos hb])
    clear hb hlim
    go_enter Try.func5, Try.ntmps5
    go_wp2_with fail
    refine (wrap_any S1 v1 b 60 w H1.out).mono ?_
    rintro e w1 ⟨a1, rfl, r1, g1⟩
    rw [HX.out]
    simp only
    have G1 := Lib.hid g1
    clear r1 g1
    go_wp2_with fail
    refine (alive_any _).mono ?_
    rintro e w2 ⟨rfl, g2⟩
    go_wp2
    go_returns
    exact ⟨rfl, G1.out.trans g2⟩
  · have HX : Hid (wrapP b 60 = (fr b, 0)) := Lib.hid (by unfold wrapP; rw [hlim, if_neg hb])
    by_cases hj : 100 < j.length
    · have hj' : (100 : Int) < (j.length : Int) := by omega
      clear hb hlim hj
      go_enter Try.func5, Try.ntmps5
      go_wp2_with fail
      refine (wrap_any S1 v1 b 60 w H1.out).mono ?_
      rintro e w1 ⟨a1, rfl, r1, g1⟩
      rw [HX.out]
      simp only
      have G1 := Lib.hid g1
      clear r1 g1
      go_wp2_with fail
      refine (alive_any _).mono ?_
      rintro e w2 ⟨rfl, g2⟩
      go_wp2
      go_returns
      exact ⟨rfl, G1.out.trans g2⟩
    · have hj' : ¬ (100 : Int) < (j.length : Int) := by omega
      have HJ : Hid (j.length ≤ 100) := Lib.hid (by omega)
      have HBL : Hid (b.length ≤ 60) := Lib.hid (by omega)
      have HFL := Lib.hid (fr_length b)
      have HTF : Hid (takeP (fr b) 60 = (b, b.length + 3, 0)) := Lib.hid (by have := take_fr b [] 60 (by omega); rwa [List.append_nil] at this)
      clear hb hlim hj
      obtain ⟨F, hF⟩ : ∃ F, fr b = F := ⟨_, rfl⟩
      rw [hF] at HX HFL HTF
      clear hF
      go_enter Try.func5, Try.ntmps5
      go_wp2_with fail
      refine (wrap_any S1 v1 b 60 w H1.out).mono ?_
      rintro e w1 ⟨a1, rfl, r1, g1⟩
      rw [HX.out] at r1 ⊢
      simp only at r1 ⊢
      have R1 := Lib.hid r1
      have G1 := Lib.hid g1
      obtain ⟨A1, c1, rfl, _⟩ := id r1
      clear r1 g1
      go_wp2
      go_loopg [7, 8] j.length (fun g s7 s8 wx => ∃ (k n : Nat) (A : Option Addr) (c : Nat), k + g = j.length ∧ s8 = .int .i64 (k : Int) ∧ s7 = .slice A n c ∧ Hid (n = k) ∧ Hid (wx.ownsRow w1.heap.size 5 1 (.slice A n c) ((j.take k).map jb).length (bv ((j.take k).map jb))) ∧ Hid (Grew w1 wx))
      case atStart => exact ⟨0, 0, none, 0, by omega, rfl, rfl, Lib.hid rfl, Lib.hid (World.ownsRow_nil _ _ _ _), Lib.hid (Grew.refl _)⟩
      case round =>
        obtain ⟨k, n, A, c, hkg, rfl, rfl, HN, HO, HG⟩ := hrel
        cases gk with
        | zero =>
          have hkz : ¬ ((k : Int) < (j.length : Int)) := by omega
          have HO2 : Hid (wr.ownsRow w1.heap.size 5 1 (.slice A n c) (j.map jb).length (bv (j.map jb))) := Lib.hid (by have := HO.out; rwa [List.take_of_length_le (by omega)] at this)
          have HN2 : Hid (n = j.length) := Lib.hid (by have := HN.out; omega)
          obtain ⟨v3, w3, r3, o3, b3, _⟩ := run_app2 wr w1.heap.size _ A1 c1 _ F _ HO2.out (R1.out.grew HG.out) (by have := HJ.out; have := HFL.out; have := HBL.out; simp; omega) HG.out.size
          have HR3 := Lib.hid r3
          have G3 : Hid (Grew w1 w3) := Lib.hid ((show Below w1.heap.size _ _ from HG.out).trans b3)
          have D3 := Lib.hid (Rd.of_own o3 rfl)
          obtain ⟨A3, c3, rfl⟩ := own_some o3
          clear r3 o3 b3 HO HO2 HG HN hkg
          have hn := HN2.out
          subst hn
          clear HN2
          have hkz2 : ((j.map jb ++ F).length : Int) = ((j.map jb ++ F).length : Int) := rfl
          go_wp2_with (at_builtin; refine wpList_app' rfl (.tmp 47) (.tmp 48) 22 22 rfl _ _ rfl rfl _ w3 (by exact HR3.out) ?_)
          clear hkz hkz2
          obtain ⟨m0, hm0⟩ : ∃ m0, (j.map jb ++ F).length = m0 := ⟨_, rfl⟩
          have HM0 := Lib.hid hm0
          go_loopg [7, 10] j.length (fun g s7 s10 wx => ∃ (i m : Nat) (A : Option Addr) (c : Nat), i + g = j.length ∧ s10 = .int .i64 (i : Int) ∧ s7 = .slice A m c ∧ Hid (m = ((j.map jb).drop i ++ F).length) ∧ Hid (Rd (fun _ => True) wx (.slice A m c) ((j.map jb).drop i ++ F)) ∧ Hid (Grew w3 wx))
          case atStart => exact ⟨0, (j.map jb ++ F).length, A3, c3, by omega, rfl, by first | rfl | simp, Lib.hid (by simp), Lib.hid (by rw [List.drop_zero]; exact D3.out.mono fun _ _ => trivial), Lib.hid (Grew.refl _)⟩
          case round =>
            obtain ⟨i, m, A, c, hig, rfl, rfl, HM, HD, HG⟩ := hrel
            cases gk with
            | zero =>
              have hiz : ¬ ((i : Int) < (j.length : Int)) := by omega
              have HD2 : Hid (Rd (fun _ => True) wr (.slice A m c) F) := Lib.hid (by have := HD.out; rwa [List.drop_of_length_le (by simp; omega), List.nil_append] at this)
              clear hig HD HM hm0
              go_wp2_with fail
              refine (take_any _ _ F 60 wr HD2.out).mono ?_
              rintro e w4 ⟨a4, rfl, r4, g4⟩
              rw [HTF.out] at r4 ⊢
              simp only at r4 ⊢
              obtain ⟨A4, c4, rfl, _⟩ := id r4
              have R4 := Lib.hid r4
              have G4 := Lib.hid (((G1.out.trans G3.out).trans HG.out).trans g4)
              clear r4 g4
              go_wp2_with fail
              refine (alive_any _).mono ?_
              rintro e w5 ⟨rfl, g5⟩
              have k1 := conv22 (R4.out.grew g5)
              have k2 := conv22 (H1.out.grew (G4.out.trans g5))
              have G5 := Lib.hid (G4.out.trans g5)
              have q1 : ((b.length : Int) + 3 == (F.length : Int)) = true := by have := HFL.out; simp; omega
              have q2 : (((b.length + 3 : Nat) : Int) == (F.length : Int)) = true := by have := HFL.out; simp; omega
              clear g5
              go_wp2
              go_returns
              exact ⟨rfl, G5.out⟩
            | succ g =>
              have hiz : ((i : Int) < (j.length : Int)) := by omega
              have HI : Hid ((j.map jb).drop i = jb (j[i]?.getD 0) :: (j.map jb).drop (i + 1)) := Lib.hid (by
                rw [List.drop_eq_getElem_cons (by simp; omega)]
                simp [show i < j.length by omega])
              obtain ⟨x, hx⟩ : ∃ x, (j[i]?.getD 0) = x := ⟨_, rfl⟩
              rw [hx] at HI
              obtain ⟨D, hD⟩ : ∃ D, (j.map jb).drop (i + 1) ++ F = D := ⟨_, rfl⟩
              have HM2 : Hid (m = D.length + 1) := Lib.hid (by rw [HM.out, HI.out, List.cons_append, hD]; rfl)
              have HD2 : Hid (Rd (fun _ => True) wr (.slice A (jb x :: D).length c) (jb x :: D)) := Lib.hid (by have := HD.out; rw [HI.out, List.cons_append, hD] at this; rw [show (jb x :: D).length = m by rw [HM2.out]; rfl]; exact this)
              have hDl : 3 ≤ D.length := by have := HFL.out; rw [← hD]; simp; omega
              have hmD := HM2.out
              subst hmD
              have hc1 : ¬ c = 1 := by obtain ⟨_, _, e, q, _⟩ := HD2.out; injection e with _ _ e3; subst e3; simp at q; omega
              obtain ⟨A5, hA5, hr5⟩ := cut_from HD2.out 1 (by simp) (by simp)
              rw [if_neg hc1] at hA5
              have HR5 : Hid (Rd (fun _ => True) wr (.slice A5 D.length (c - 1)) D) := Lib.hid hr5
              have HA5 : Hid (Value.slice (A.map (·.add 1)) D.length (c - 1) = .slice A5 D.length (c - 1)) := Lib.hid hA5
              have HTJ : Hid (takeP (jb x :: D) 60 = ([], 1, 13)) := Lib.hid (take_junk x D)
              have HDE := Lib.hid hD
              clear hA5 hr5 hx hD HM HD HM2 hDl HI
              go_wp2_with fail
              refine (take_any _ _ (jb x :: D) 60 wr HD2.out).mono ?_
              rintro e w4 ⟨a4, rfl, r4, g4⟩
              rw [HTJ.out] at r4 ⊢
              simp only at r4 ⊢
              have HG4 := Lib.hid (HG.out.trans g4)
              have HR6 := Lib.hid (HR5.out.grew g4)
              clear r4 g4
              go_wp2
              go_roundg g
              case measure => omega
              case rel => exact ⟨i + 1, D.length, A5, c - 1, by omega, by first | rfl | simp, by first | rfl | exact HA5.out, Lib.hid (by rw [HDE.out]), Lib.hid (by rw [HDE.out]; exact HR6.out), HG4⟩
        | succ g =>
          have hkz : ((k : Int) < (j.length : Int)) := by omega
          obtain ⟨ad, c', e, _, hcell⟩ := ((H2.out.grew G1.out).grew HG.out).cell (k := k) (by omega)
          injection e with e1 _ e3
          subst e1 e3
          have HT : Hid ((j.take (k + 1)).map jb = (j.take k).map jb ++ [jb (j[k]?.getD 0)]) := Lib.hid (by
            rw [List.take_succ_eq_append_getElem (by omega), List.map_append]
            simp [show k < j.length by omega])
          generalize j[k]?.getD 0 = x at *
          have hx := x.toNat_lt
          have HJX := Lib.hid (jb_toNat x)
          have gb : Grew wr (wr.alloc (.cells #[.int .u8 ((jb x).toNat : Int)] 5)) := (Below.refl _ _).alloc (Nat.le_refl _) _
          have y2 : Rd (fun _ => True) (wr.alloc (.cells #[.int .u8 ((jb x).toNat : Int)] 5)) (.slice (some ⟨wr.heap.size, 0, none⟩) 1 1) [jb x] := lit_rd wr [jb x] (0, 0) (by simp [maxLen])
          obtain ⟨v4, w4, r4, o4, b4, _⟩ := run_app2 (wr.alloc (.cells #[.int .u8 ((jb x).toNat : Int)] 5)) w1.heap.size _ (some ⟨wr.heap.size, 0, none⟩) 1 _ [jb x] _ (own_grew HO.out gb) y2 (by simp; omega) (Nat.le_trans HG.out.size gb.size)
          rw [← HT.out] at o4
          obtain ⟨A4, c4, rfl⟩ := own_some o4
          have HR4 := Lib.hid r4
          have HO4 := Lib.hid o4
          have HG4 : Hid (Grew w1 w4) := Lib.hid ((show Below w1.heap.size _ _ from HG.out.trans gb).trans b4)
          have HL4 : Hid (((j.take (k + 1)).map jb).length = k + 1) := Lib.hid (by simp; omega)
          obtain ⟨n4, hn4⟩ : ∃ n4, ((j.take (k + 1)).map jb).length = n4 := ⟨_, rfl⟩
          have HN4 := Lib.hid hn4
          rw [hn4] at HR4
          have hj1 : (61 : Int) + (x.toNat : Int) % 195 = ((jb x).toNat : Int) := by have := HJX.out; omega
          clear gb y2 r4 o4 b4 hn4
          go_wp2_with (at_builtin; refine wpList_app' rfl (.tmp 36) (.tmp 43) 22 22 rfl _ _ rfl rfl _ w4 (by exact HR4.out) ?_)
          go_roundg g
          case measure => omega
          case rel => exact ⟨k + 1, n4, A4, c4, by omega, by first | rfl | simp, rfl, Lib.hid (by rw [← HN4.out, HL4.out]), Lib.hid (by have := HO4.out; rw [← HN4.out]; exact this), HG4⟩
end Go.Proofs.Ytbdlpmaigbbpaaa.FK
