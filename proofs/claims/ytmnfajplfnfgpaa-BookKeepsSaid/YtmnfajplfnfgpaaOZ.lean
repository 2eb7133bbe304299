/-
  Of each coin: what was held, with the order's own, is what is held then, what fills give out, and the surplus.
  Conditions: those that each lemma names.
-/
import Derived.Test.YtmnfajplfnfgpaaOV
import Derived.Test.YtmnfajplfnfgpaaOZB
import Derived.Test.YtmnfajplfnfgpaaOF
import Derived.Lib.Hide
import Derived.Deep.LoopGhost
namespace Go.Proofs.Ytmnfajplfnfgpaa.OZ
set_option maxRecDepth 100000
open Go Go.RowKit Go.Lib Go.Proofs.Ytmnfajplfnfgpaa Go.Proofs.Ytmnfajplfnfgpaa.Facts Go.Proofs.Ytmnfajplfnfgpaa.Ints Go.Proofs.Ytmnfajplfnfgpaa.PA Go.Proofs.Ytmnfajplfnfgpaa.UM Go.Proofs.Ytmnfajplfnfgpaa.UB Go.Proofs.Ytmnfajplfnfgpaa.OA Go.Proofs.Ytmnfajplfnfgpaa.OP Go.Proofs.Ytmnfajplfnfgpaa.BP Go.Proofs.Ytmnfajplfnfgpaa.BQ Go.Proofs.Ytmnfajplfnfgpaa.OB Go.Proofs.Ytmnfajplfnfgpaa.OC Go.Proofs.Ytmnfajplfnfgpaa.OD Go.Proofs.Ytmnfajplfnfgpaa.OE Go.Proofs.Ytmnfajplfnfgpaa.OF Go.Proofs.Ytmnfajplfnfgpaa.OG Go.Proofs.Ytmnfajplfnfgpaa.OK Go.Proofs.Ytmnfajplfnfgpaa.OQ Go.Proofs.Ytmnfajplfnfgpaa.OM Go.Proofs.Ytmnfajplfnfgpaa.ON Go.Proofs.Ytmnfajplfnfgpaa.OV Go.Proofs.Ytmnfajplfnfgpaa.OY Go.Proofs.Ytmnfajplfnfgpaa.OZA Go.Proofs.Ytmnfajplfnfgpaa.OZB Go.Proofs.Ytmnfajplfnfgpaa.Bytes


theorem fill_wf (l : List Or) : ∀ (S : List Nat) (now : List Or) (o : Or) (fs : List Fi), (∀ x ∈ l, WfO x) → (∀ x ∈ now, WfO x) → ∀ x ∈ (fillP l S now o fs).1, WfO x
  | [], _, _, _, _, h => h
  | i :: r, now, o, fs, hl, h => by
    rw [fillP]
    split
    · exact h
    · refine fill_wf l r _ _ _ hl fun x hx => ?_
      unfold nowP at hx
      rcases List.mem_or_eq_of_mem_set hx with h1 | h1
      · exact h x h1
      · rw [h1]
        have hz : WfO zor := by unfold WfO SzO zor; decide +kernel
        have he : WfO (eo l i) := by
          by_cases hi : i < l.length
          · exact hl _ (List.mem_of_getElem? (eo_get hi))
          · have : eo l i = zor := by unfold eo; rw [List.getElem?_eq_none (by omega)]; rfl
            rw [this]; exact hz
        split
        · exact ⟨⟨he.1.1, Nat.lt_of_le_of_lt (Nat.sub_le _ _) he.1.2.1, Nat.lt_of_le_of_lt (Nat.sub_le _ _) he.1.2.2⟩, he.2⟩
        · exact hz
theorem post_wf {l : List Or} {o : Or} {S : List Nat} (hs : ∀ x ∈ l, WfO x) (ho : WfO o) (he : (postP l o S).err = 0) (hS : Srt l o S) : (postP l o S).now.length = l.length ∧ ∀ x ∈ (postP l o S).now, WfO x := by
  obtain ⟨⟨hr, hm, ht⟩, hfr, hp⟩ := post_fine he
  have hFO := FO.of_may ((may_iff o).1 hm)
  have hfo := fill_ord l S l o [] (BQ.Srt.all hS hr) hFO
  have hln := fill_len l S l o []
  have hwf := fill_wf l S l o [] hs hs
  rw [hp]
  rcases hx : fillP l S l o [] with ⟨now, fs, r⟩
  rw [hx] at hfo hln hwf
  simp only at hfo hln hwf
  obtain ⟨h1, h2⟩ := hfo
  by_cases h0 : r.left = 0
  · have e : restP (now, fs, r) = ⟨now, fs, -1, r.res, 0⟩ := if_pos h0
    rw [e]
    exact ⟨hln, hwf⟩
  · have e : restP (now, fs, r) = ⟨now.set (ordfree now).toNat { r with used := true, res := (needP r.side r.left r.price).1 }, fs, ordfree now, r.res - (needP r.side r.left r.price).1, 0⟩ := if_neg h0
    rw [e]
    refine ⟨by simp only [List.length_set]; exact hln, fun x hx => ?_⟩
    rcases List.mem_or_eq_of_mem_set hx with h | h
    · exact hwf x h
    · rw [h]
      obtain ⟨_, hle, _⟩ := FO.need h1 h0
      have a1 := h1.le
      have a2 := h1.rl
      have a3 := ho.1.1
      unfold top at a1 a2
      refine ⟨⟨?_, ?_, ?_⟩, ?_⟩
      · show r.price < _; rw [h2.price]; exact a3
      · show r.left < _; omega
      · show (needP r.side r.left r.price).1 < _; omega
      · show (Lit.int .i64 r.seq).wf = true; rw [h2.seq]; exact ho.2

theorem wrap_le {a b : Nat} (h : a + b ≤ top) : IntKind.u64.wrap ((a : Int) + (b : Int)) = ((a + b : Nat) : Int) := by
  rw [IntKind.wrap_u64]
  unfold top at h
  omega
theorem wr63 {j n : Nat} (h : j < n) (hn : n ≤ 9223372036854775807) : wrap64 ((j : Int) + 1) = ((j + 1 : Nat) : Int) := by unfold wrap64; omega
theorem wrap_mul {a b : Nat} (h : a * b ≤ top) : IntKind.u64.wrap ((a : Int) * (b : Int)) = ((a * b : Nat) : Int) := by
  rw [IntKind.wrap_u64, ← Int.natCast_mul]
  unfold top at h
  omega
theorem out_take (c b q : Int) (fs : List Fi) (k : Nat) (hk : k < fs.length) : outF c b q (fs.take (k + 1)) = outF c b q (fs.take k) + out1 c b q (ef fs k) ∧ outF c b q (fs.take (k + 1)) ≤ outF c b q fs := by
  have e : fs.take (k + 1) = fs.take k ++ [ef fs k] := by
    rw [List.take_add_one, ef_get hk]
    rfl
  refine ⟨by rw [e, out_app], ?_⟩
  conv => rhs; rw [← List.take_append_drop (k + 1) fs]
  unfold outF
  rw [List.map_append, List.sum_append]
  exact Nat.le_add_right _ _
theorem giv_top {l : List Or} {o : Or} {S : List Nat} (c : Int) (he : (postP l o S).err = 0) : givR o c ≤ top := by
  have h := (FO.of_may ((may_iff o).1 (post_fine he).1.2.1)).rl
  unfold givR
  split
  · exact h
  · exact Nat.zero_le _
/-- The numbers of the law. -/
theorem kept {l : List Or} {o : Or} {S : List Nat} {c : Int} (hS : (postP l o S).err = 0 → Srt l o S) (he : (postP l o S).err = 0) (hh : (heldP l c).2 = 0) (hle : (heldP l c).1 + givR o c ≤ top) :
    (heldP (postP l o S).now c).2 = 0 ∧ (heldP (postP l o S).now c).1 + (outF c o.base o.quote (postP l o S).fills + (if givR o c = 0 then 0 else (postP l o S).sur)) = (heldP l c).1 + givR o c := by
  have hk := post_keeps he (hS he) c
  have hM := (may_iff o).1 (post_fine he).1.2.1
  have hp := own_pos hM c
  rw [held_is] at hh hle ⊢
  rw [held_is]
  by_cases hc : coinB c = false
  · rw [if_pos hc] at hh
    cases hh
  · rw [if_neg hc] at hh hle ⊢
    rw [if_neg hc]
    by_cases ht : heldN l c ≤ top
    · rw [if_pos ht] at hle ⊢
      simp only at hle ⊢
      have e : (if givC o = c then (postP l o S).sur else 0) = if givR o c = 0 then 0 else (postP l o S).sur := by
        by_cases h : givC o = c
        · rw [if_pos h, if_neg (fun h2 => (hp.1 h2) h)]
        · rw [if_neg h, if_pos (hp.2 h)]
      rw [e] at hk
      have ht2 : heldN (postP l o S).now c ≤ top := by omega
      rw [if_pos ht2]
      exact ⟨rfl, by simp only; omega⟩
    · rw [if_neg ht] at hh
      cases hh
set_option maxHeartbeats 8000000 in
theorem law (v : Value) (l : List Or) (o : Or) (c : Int) (w : World) (h : Ors w v l) (hs : ∀ x ∈ l, WfO x) (ho : WfO o) : Calls Try.prog 5 #[v, orv o, .int .i64 c] w fun e w' => e = .returned (.bool true) ∧ Grew w w' := by
  have HL := Lib.hid h
  have HAL := Lib.hid alive_any
  by_cases hlen : l.length ≤ 100
  · have HP := Lib.hid (fun W (hg : Grew w W) => post_any v l o W (h.grew hg) (by omega) hs ho)
    have HH := Lib.hid (fun W (hg : Grew w W) => held_any v l c W (h.grew hg) (by omega) hs)
    have HH2 : Hid (∀ W v' S, (postP l o S).err = 0 → Srt l o S → Ors W v' (postP l o S).now → Calls Try.prog 13 #[v', .int .i64 c] W fun e w' => e = .returned (two (heldP (postP l o S).now c)) ∧ Grew W w') := Lib.hid fun W v' S he hS hO => by
      obtain ⟨h1, h2⟩ := post_wf hs ho he hS
      exact held_any v' _ c W hO (by rw [h1]; omega) h2
    have HKP := Lib.hid (fun S => kept (l := l) (o := o) (S := S) (c := c))
    have HGT := Lib.hid (fun S => giv_top (l := l) (o := o) (S := S) c)
    have HHO := Lib.hid (fun W => holds_any { o with used := true } c W rfl)
    obtain ⟨A, ca, rfl, _⟩ := h.slice
    have hl1 : ¬ (100 : Int) < (l.length : Int) := by omega
    have HGR : Hid (givR { o with used := true } c = givR o c) := Lib.hid rfl
    rw [HGR.out] at HHO
    have HGL : Hid (givR o c < 18446744073709551616) := Lib.hid (by unfold givR; have := ho.1.2.2; split <;> omega)
    generalize hgc : givR o c = gc at *
    generalize hhp : heldP l c = hp at *
    obtain ⟨was, f⟩ := hp
    obtain ⟨us, lb, wh, sd, bs, qt, pr, lf, rs, sq⟩ := o
    unfold orv two at *
    simp only at HP HH HHO HKP HH2 HGT ⊢
    have g0 : Grew w (w.alloc (.cells #[.bool us, .int .i64 lb, .int .i64 wh, .int .i64 sd, .int .i64 bs, .int .i64 qt, .int .u64 (pr : Int), .int .u64 (lf : Int), .int .u64 (rs : Int), .int .i64 sq] 26)) := by unfold Grew; go_grown
    have G0 := Lib.hid g0
    have B0 := Lib.hid (blk_new w (.cells #[.bool us, .int .i64 lb, .int .i64 wh, .int .i64 sd, .int .i64 bs, .int .i64 qt, .int .u64 (pr : Int), .int .u64 (lf : Int), .int .u64 (rs : Int), .int .i64 sq] 26))
    obtain ⟨c0, c1, c2, c3, c4, c5, c6, c7, c8, c9⟩ := ten_c B0.out
    clear h hs ho g0 hlen hgc hhp HGR
    go_enter Try.func5, Try.ntmps5
    go_wp2_with fail
    refine (HP.out _ G0.out).mono ?_
    rintro e w1 ⟨S, v1, v2, hS, _, rfl, hO, hF, hg⟩
    have HK := Lib.hid (HKP.out S hS)
    have HN := Lib.hid (fun W v' he hO => HH2.out W v' S he (hS he) hO)
    have HT := Lib.hid (HGT.out S)
    clear hS HKP HH2 HGT
    generalize postP l ⟨us, lb, wh, sd, bs, qt, pr, lf, rs, sq⟩ S = P at *
    obtain ⟨now, fs, ak, sur, err⟩ := P
    simp only at hO hF HK HN HT ⊢
    obtain ⟨A1, k1, rfl, _⟩ := hO.slice
    obtain ⟨A2, k2, rfl, _⟩ := hF.slice
    have G1 := Lib.hid (G0.out.trans hg)
    have B1 := Lib.hid (keepB B0.out hg)
    have I1 := Lib.hid hO
    have F1 := Lib.hid hF
    clear hO hF hg c0 c1 c2 c3 c4 c5 c6 c7 c8 c9
    go_wp2_with fail
    refine (HH.out _ G1.out).mono ?_
    rintro e w2 ⟨rfl, hg⟩
    have G2 := Lib.hid (G1.out.trans hg)
    have B2 := Lib.hid (keepB B1.out hg)
    have I2 := Lib.hid (I1.out.grew hg)
    have F2 := Lib.hid (Rw.grew F1.out hg)
    clear hg I1 F1 B1
    by_cases he : err = 0
    · subst he
      by_cases hf : f = 0
      · subst hf
        have HK2 := Lib.hid (HK.out rfl rfl)
        have HN2 := Lib.hid (fun W v' hO => HN.out W v' rfl hO)
        have htt := HT.out rfl
        clear HK HN HT
        obtain ⟨c0, c1, c2, c3, c4, c5, c6, c7, c8, c9⟩ := ten_c B2.out
        have gz : Grew w2 (w2.alloc (.cells #[.bool true, .int .i64 lb, .int .i64 wh, .int .i64 sd, .int .i64 bs, .int .i64 qt, .int .u64 (pr : Int), .int .u64 (lf : Int), .int .u64 (rs : Int), .int .i64 sq] 26)) := by unfold Grew; go_grown
        have GZ := Lib.hid (G2.out.trans gz)
        have XZ := Lib.hid (blk_new w2 (.cells #[.bool true, .int .i64 lb, .int .i64 wh, .int .i64 sd, .int .i64 bs, .int .i64 qt, .int .u64 (pr : Int), .int .u64 (lf : Int), .int .u64 (rs : Int), .int .i64 sq] 26))
        have BZ := Lib.hid (keepB B2.out gz)
        have IZ := Lib.hid (I2.out.grew gz)
        have FZ := Lib.hid (Rw.grew F2.out gz)
        clear gz HP HH G0 B0 G1 G2 B2 I2 F2
        have hw : IntKind.u64.wrap (4611686018427387904 - (gc : Int)) = 4611686018427387904 - (gc : Int) := by
          rw [IntKind.wrap_u64]
          unfold top at htt
          omega
        go_wp2_with fail
        refine (HHO.out _).mono ?_
        rintro e w3 ⟨rfl, hg⟩
        have G3 := Lib.hid (GZ.out.trans hg)
        have X3 := Lib.hid (keepB XZ.out hg)
        have B3 := Lib.hid (keepB BZ.out hg)
        have I3 := Lib.hid (IZ.out.grew hg)
        have F3 := Lib.hid (Rw.grew FZ.out hg)
        clear hg GZ XZ BZ IZ FZ c0 c1 c2 c3 c4 c5 c6 c7 c8 c9
        by_cases hle : was + gc ≤ top
        · have hnl : ¬ (4611686018427387904 - (gc : Int) < (was : Int)) := by unfold top at hle; omega
          obtain ⟨hk1, hk2⟩ := HK2.out hle
          have HC := Lib.hid (HN2.out _ _ I3.out)
          generalize heldP now c = hn at *
          obtain ⟨nw, g⟩ := hn
          simp only at hk1 hk2 HC
          subst hk1
          have HKK := Lib.hid hk2
          have HLE := Lib.hid hle
          clear HK2 HN2 hk2 hle
          go_wp2_with fail
          refine HC.out.mono ?_
          rintro e w4 ⟨rfl, hg⟩
          have G4 := Lib.hid (G3.out.trans hg)
          have X4 := Lib.hid (keepB X3.out hg)
          have B4 := Lib.hid (keepB B3.out hg)
          have F4 := Lib.hid (Rw.grew F3.out hg)
          clear hg G3 X3 B3 F3 I3 HC hw hnl htt
          have HFL : Hid (fs.length ≤ 9223372036854775807) := Lib.hid (by
            obtain ⟨_, cc, e, h1, h2, _⟩ := F4.out
            unfold maxLen at h2
            omega)
          go_wp2
          go_loopg [17, 18] fs.length (fun g s17 s18 wx => ∃ k : Nat, k + g = fs.length ∧ s17 = .int .u64 ((outF c bs qt (fs.take k) : Nat) : Int) ∧ s18 = .int .i64 k ∧ Hid (Grew w4 wx))
          case atStart => exact ⟨0, by omega, rfl, rfl, Lib.hid (Grew.refl _)⟩
          case round =>
            obtain ⟨k, hkg, rfl, rfl, HG⟩ := hrel
            cases gk with
            | zero =>
              have hkz : ¬ ((k : Int) < (fs.length : Int)) := by omega
              rw [List.take_of_length_le (by omega : fs.length ≤ k)]
              have hkk := HKK.out
              have hle := HLE.out
              generalize outF c bs qt fs = out at *
              have G5 := Lib.hid (G4.out.trans HG.out)
              have X5 := Lib.hid (keepB X4.out HG.out)
              clear HKK HLE HG G4 X4 B4 F4
              obtain ⟨x0, x1, x2, x3, x4, x5, x6, x7, x8, x9⟩ := ten_c X5.out
              go_wp2_with fail
              refine (HHO.out _).mono ?_
              rintro e w5 ⟨rfl, hg⟩
              have G6 := Lib.hid (G5.out.trans hg)
              have X6 := Lib.hid (keepB X5.out hg)
              clear hg x0 x1 x2 x3 x4 x5 x6 x7 x8 x9 G5 X5
              by_cases h0 : gc = 0
              · subst h0
                rw [if_pos rfl] at hkk
                have hw2 : IntKind.u64.wrap ((nw : Int) + (out : Int)) = ((nw + out : Nat) : Int) := wrap_le (by omega)
                have e1 : nw + out = was := by omega
                rw [e1] at hw2
                have hw3 : IntKind.u64.wrap ((was : Int) + ((0 : Nat) : Int)) = (was : Int) := wrap_le (a := was) (b := 0) (by omega)
                have hw4 : IntKind.u64.wrap (was : Int) = (was : Int) := by simpa using hw3
                clear hkk e1 hle
                go_wp2_with fail
                refine (HAL.out _).mono ?_
                rintro e w6 ⟨rfl, hg⟩
                have G7 := Lib.hid (G6.out.trans hg)
                have X7 := Lib.hid (keepB X6.out hg)
                clear hg G6 X6
                obtain ⟨x0, x1, x2, x3, x4, x5, x6, x7, x8, x9⟩ := ten_c X7.out
                go_wp2_with fail
                refine (HHO.out _).mono ?_
                rintro e w7 ⟨rfl, hg⟩
                have G8 := Lib.hid (G7.out.trans hg)
                clear hg G7 X7 x0 x1 x2 x3 x4 x5 x6 x7 x8 x9
                go_wp2
                go_returns
                exact ⟨by first | rfl | simp, G8.out⟩
              · have hgp : (0 : Int) < (gc : Int) := by omega
                rw [if_neg h0] at hkk
                obtain ⟨o2, ho2⟩ : ∃ o2, out + sur = o2 := ⟨_, rfl⟩
                have hw1 : IntKind.u64.wrap ((out : Int) + (sur : Int)) = ((out + sur : Nat) : Int) := wrap_le (by omega)
                rw [ho2] at hkk hw1
                have hw2 : IntKind.u64.wrap ((nw : Int) + (o2 : Int)) = ((nw + o2 : Nat) : Int) := wrap_le (by omega)
                have hw3 : IntKind.u64.wrap ((was : Int) + (gc : Int)) = ((was + gc : Nat) : Int) := wrap_le hle
                rw [hkk] at hw2
                generalize was + gc = tot at *
                clear hkk ho2 hle h0
                go_wp2_with fail
                refine (HAL.out _).mono ?_
                rintro e w6 ⟨rfl, hg⟩
                have G7 := Lib.hid (G6.out.trans hg)
                have X7 := Lib.hid (keepB X6.out hg)
                clear hg G6 X6
                obtain ⟨x0, x1, x2, x3, x4, x5, x6, x7, x8, x9⟩ := ten_c X7.out
                go_wp2_with fail
                refine (HHO.out _).mono ?_
                rintro e w7 ⟨rfl, hg⟩
                have G8 := Lib.hid (G7.out.trans hg)
                clear hg G7 X7 x0 x1 x2 x3 x4 x5 x6 x7 x8 x9
                go_wp2
                go_returns
                exact ⟨by first | rfl | simp, G8.out⟩
            | succ g =>
              have hkz : (k : Int) < (fs.length : Int) := by omega
              have hkl : k < fs.length := by omega
              have HW := Lib.hid (wr63 hkl HFL.out)
              obtain ⟨ad, c9, e, _, d0, d1, d2⟩ := Fis_at (Rw.grew F4.out HG.out) (ef_get hkl)
              injection e with e1 e2 e3
              subst e1 e3
              clear e2
              obtain ⟨c0, c1, c2, c3, c4, c5, c6, c7, c8, c9⟩ := ten_c (keepB B4.out HG.out)
              obtain ⟨ht1, ht2⟩ := out_take c bs qt fs k hkl
              have hle : outF c bs qt (fs.take (k + 1)) ≤ top := by have := HKK.out; have := HLE.out; omega
              unfold out1 at ht1
              obtain ⟨a1, ha1⟩ : ∃ a1, outF c bs qt (fs.take (k + 1)) = a1 := ⟨_, rfl⟩
              rw [ha1] at ht1 hle
              have HA1 := Lib.hid ha1
              clear ha1
              generalize outF c bs qt (fs.take k) = a0 at *
              generalize ef fs k = x at *
              obtain ⟨st, qn, p⟩ := x
              simp only at d0 d1 d2 ht1
              have hkg2 : k + 1 + g = fs.length := by omega
              clear ht2 hkg
              by_cases hb : c = bs
              · have fb : (c == bs) = true := by simp [hb]
                rw [if_pos hb] at ht1
                have hw1 : IntKind.u64.wrap ((a0 : Int) + (qn : Int)) = ((a0 + qn : Nat) : Int) := wrap_le (by omega)
                obtain ⟨s1, hs1⟩ : ∃ s1, a0 + qn = s1 := ⟨_, rfl⟩
                rw [hs1] at hw1
                by_cases hq : c = qt
                · have fq : (c == qt) = true := by simp [hq]
                  rw [if_pos hq] at ht1
                  have hw2 : IntKind.u64.wrap ((qn : Int) * (p : Int)) = ((qn * p : Nat) : Int) := wrap_mul (by omega)
                  obtain ⟨m, hm⟩ : ∃ m, qn * p = m := ⟨_, rfl⟩
                  rw [hm] at hw2 ht1
                  have hw3 : IntKind.u64.wrap ((s1 : Int) + (m : Int)) = ((s1 + m : Nat) : Int) := wrap_le (by omega)
                  rw [show s1 + m = a1 by omega] at hw3
                  clear ht1 hle hb hq hs1 hm
                  go_wp2
                  refine Facts.wp_region_text (by kernel_rfl) (by kernel_rfl) ?_
                  repeat
                    apply Facts.Lex.exact [] _ (by kernel_rfl)
                    · intro u W hC _
                      have j0 := cellG hC d0
                      have j1 := cellG hC d1
                      have j2 := cellG hC d2
                      unfold Facts.one
                      go_simp
                      first | exact ⟨Grew.refl _, rfl⟩ | rfl
                    simp only [Act.put, List.setIfInBounds_toArray, List.set_cons_zero, List.set_cons_succ, Nat.zero_add, Nat.reduceAdd]
                  refine Facts.Lex.done fun u W2 hC hL => ?_
                  have G2x := Lib.hid hC
                  clear hC hL
                  go_wp2
                  go_roundg g
                  case measure => omega
                  case rel => exact ⟨k + 1, hkg2, by rw [HA1.out], by first | (simp; done) | simp [HW.out], Lib.hid (HG.out.trans G2x.out)⟩
                · have fq : (c == qt) = false := by simp [hq]
                  rw [if_neg hq] at ht1
                  obtain rfl : s1 = a1 := by omega
                  clear ht1 hle hb hq hs1
                  go_wp2
                  go_roundg g
                  case measure => omega
                  case rel => exact ⟨k + 1, hkg2, by rw [HA1.out], by first | (simp; done) | simp [HW.out], Lib.hid (HG.out.trans (Grew.refl _))⟩
              · have fb : (c == bs) = false := by simp [hb]
                rw [if_neg hb] at ht1
                by_cases hq : c = qt
                · have fq : (c == qt) = true := by simp [hq]
                  rw [if_pos hq] at ht1
                  have hw2 : IntKind.u64.wrap ((qn : Int) * (p : Int)) = ((qn * p : Nat) : Int) := wrap_mul (by omega)
                  obtain ⟨m, hm⟩ : ∃ m, qn * p = m := ⟨_, rfl⟩
                  rw [hm] at hw2 ht1
                  have hw3 : IntKind.u64.wrap ((a0 : Int) + (m : Int)) = ((a0 + m : Nat) : Int) := wrap_le (by omega)
                  rw [show a0 + m = a1 by omega] at hw3
                  clear ht1 hle hb hq hm
                  go_wp2
                  refine Facts.wp_region_text (by kernel_rfl) (by kernel_rfl) ?_
                  repeat
                    apply Facts.Lex.exact [] _ (by kernel_rfl)
                    · intro u W hC _
                      have j0 := cellG hC d0
                      have j1 := cellG hC d1
                      have j2 := cellG hC d2
                      unfold Facts.one
                      go_simp
                      first | exact ⟨Grew.refl _, rfl⟩ | rfl
                    simp only [Act.put, List.setIfInBounds_toArray, List.set_cons_zero, List.set_cons_succ, Nat.zero_add, Nat.reduceAdd]
                  refine Facts.Lex.done fun u W2 hC hL => ?_
                  have G2x := Lib.hid hC
                  clear hC hL
                  go_wp2
                  go_roundg g
                  case measure => omega
                  case rel => exact ⟨k + 1, hkg2, by rw [HA1.out], by first | (simp; done) | simp [HW.out], Lib.hid (HG.out.trans G2x.out)⟩
                · have fq : (c == qt) = false := by simp [hq]
                  rw [if_neg hq] at ht1
                  obtain rfl : a0 = a1 := by omega
                  clear ht1 hle hb hq
                  go_wp2
                  go_roundg g
                  case measure => omega
                  case rel => exact ⟨k + 1, hkg2, by rw [HA1.out], by first | (simp; done) | simp [HW.out], Lib.hid (HG.out.trans (Grew.refl _))⟩
        · have hnl : (4611686018427387904 - (gc : Int) < (was : Int)) := by unfold top at hle; omega
          clear HK2 HN2
          go_wp2_with fail
          refine (HAL.out _).mono ?_
          rintro e wa ⟨rfl, hg⟩
          have GA := Lib.hid (G3.out.trans hg)
          clear hg
          go_wp2
          go_returns
          exact ⟨rfl, GA.out⟩
      · have he1 : (f != 0) = true := by simp [hf]
        clear HK HN
        go_wp2_with fail
        refine (HAL.out _).mono ?_
        rintro e wa ⟨rfl, hg⟩
        have GA := Lib.hid (G2.out.trans hg)
        clear hg
        go_wp2
        go_returns
        exact ⟨rfl, GA.out⟩
    · have he1 : (err != 0) = true := by simp [he]
      clear HK HN
      go_wp2_with fail
      refine (HAL.out _).mono ?_
      rintro e wa ⟨rfl, hg⟩
      have GA := Lib.hid (G2.out.trans hg)
      clear hg
      go_wp2
      go_returns
      exact ⟨rfl, GA.out⟩
  · have hl1 : (100 : Int) < (l.length : Int) := by omega
    obtain ⟨A, ca, rfl, _⟩ := h.slice
    obtain ⟨us, lb, wh, sd, bs, qt, pr, lf, rs, sq⟩ := o
    unfold orv
    simp only
    have G0 : Hid (Grew w (w.alloc (.cells #[.bool us, .int .i64 lb, .int .i64 wh, .int .i64 sd, .int .i64 bs, .int .i64 qt, .int .u64 (pr : Int), .int .u64 (lf : Int), .int .u64 (rs : Int), .int .i64 sq] 26))) := Lib.hid (by unfold Grew; go_grown)
    clear h hs ho hlen HL
    go_enter Try.func5, Try.ntmps5
    go_wp2_with fail
    refine (HAL.out _).mono ?_
    rintro e wa ⟨rfl, hg⟩
    have GA := Lib.hid (G0.out.trans hg)
    clear hg
    go_wp2
    go_returns
    exact ⟨rfl, GA.out⟩
end Go.Proofs.Ytmnfajplfnfgpaa.OZ
