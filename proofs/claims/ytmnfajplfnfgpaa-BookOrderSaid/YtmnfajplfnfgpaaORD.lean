/-
  The best one that an order meets, by the document's reference.
  Conditions: those that each lemma names.
-/
import Derived.Test.YtmnfajplfnfgpaaORA
import Derived.Test.YtmnfajplfnfgpaaOC
import Derived.Lib.Hide
import Derived.Deep.LoopGhost
namespace Go.Proofs.Ytmnfajplfnfgpaa.ORD
set_option maxRecDepth 100000
open Go Go.RowKit Go.Lib Go.Proofs.Ytmnfajplfnfgpaa Go.Proofs.Ytmnfajplfnfgpaa.Facts Go.Proofs.Ytmnfajplfnfgpaa.Ints Go.Proofs.Ytmnfajplfnfgpaa.PA Go.Proofs.Ytmnfajplfnfgpaa.UM Go.Proofs.Ytmnfajplfnfgpaa.UB Go.Proofs.Ytmnfajplfnfgpaa.OA Go.Proofs.Ytmnfajplfnfgpaa.BP Go.Proofs.Ytmnfajplfnfgpaa.OC Go.Proofs.Ytmnfajplfnfgpaa.OD Go.Proofs.Ytmnfajplfnfgpaa.ORA Go.Proofs.Ytmnfajplfnfgpaa.Bytes


/-- The best one of the first slots that an order meets, by the document. -/
def bst (l : List Or) (o : Or) : Nat → Int
  | 0 => -1
  | k + 1 => if rmeets o (eo l k) = true ∧ (bst l o k < 0 ∨ betB o (eo l k) (eo l (bst l o k).toNat) = true) then (k : Int) else bst l o k
theorem bst_at (l : List Or) (o : Or) : ∀ k, bst l o k = -1 ∨ ∃ j : Nat, bst l o k = j ∧ j < k
  | 0 => .inl rfl
  | k + 1 => by
    rw [bst]
    split
    · exact .inr ⟨k, rfl, Nat.lt_succ_self _⟩
    · rcases bst_at l o k with h | ⟨j, h, hj⟩
      · exact .inl h
      · exact .inr ⟨j, h, by omega⟩
set_option maxHeartbeats 8000000 in
theorem rbest_any (v : Value) (l : List Or) (o : Or) (w : World) (h : Ors w v l) (hl : l.length ≤ 1000) :
    Calls Try.prog 49 #[v, orv o] w fun e w' => e = .returned (.int .i64 (bst l o l.length)) ∧ Grew w w' := by
  have HR := Lib.hid h
  have HLN := Lib.hid hl
  obtain ⟨A, ca, rfl, _⟩ := h.slice
  have HME := Lib.hid (fun x W => rmeets_any o x W)
  have HBE := Lib.hid (fun x y W => better_any o x y W)
  have HB1 := Lib.hid (fun k => show bst l o (k + 1) = if rmeets o (eo l k) = true ∧ (bst l o k < 0 ∨ betB o (eo l k) (eo l (bst l o k).toNat) = true) then (k : Int) else bst l o k from rfl)
  have HAT := Lib.hid (bst_at l o)
  have HB0 : Hid (bst l o 0 = -1) := Lib.hid rfl
  generalize bst l o = F at *
  generalize rmeets o = M at *
  generalize betB o = BB at *
  obtain ⟨us, lb, wh, sd, bs, qt, pr, lf, rs, sq⟩ := o
  have G0 : Hid (Grew w (w.alloc (.cells #[.bool us, .int .i64 lb, .int .i64 wh, .int .i64 sd, .int .i64 bs, .int .i64 qt, .int .u64 (pr : Int), .int .u64 (lf : Int), .int .u64 (rs : Int), .int .i64 sq] 26))) := Lib.hid (by unfold Grew; go_grown)
  have BX := Lib.hid (blk_new w (.cells #[.bool us, .int .i64 lb, .int .i64 wh, .int .i64 sd, .int .i64 bs, .int .i64 qt, .int .u64 (pr : Int), .int .u64 (lf : Int), .int .u64 (rs : Int), .int .i64 sq] 26))
  unfold orv at *
  simp only at HME HBE ⊢
  clear h hl
  go_enter Try.func49, Try.ntmps49
  go_wp2
  go_loopg [5, 6] l.length (fun g s5 s6 wx => ∃ k : Nat, k + g = l.length ∧ s5 = .int .i64 (F k) ∧ s6 = .int .i64 k ∧ Hid (Grew (w.alloc (.cells #[.bool us, .int .i64 lb, .int .i64 wh, .int .i64 sd, .int .i64 bs, .int .i64 qt, .int .u64 (pr : Int), .int .u64 (lf : Int), .int .u64 (rs : Int), .int .i64 sq] 26)) wx))
  case atStart => exact ⟨0, by omega, by rw [HB0.out], rfl, Lib.hid (Grew.refl _)⟩
  case round =>
    obtain ⟨k, hkg, rfl, rfl, HG⟩ := hrel
    cases gk with
    | zero =>
      have hkz : ¬ ((k : Int) < (l.length : Int)) := by omega
      have hk : k = l.length := by omega
      have GE := Lib.hid (G0.out.trans HG.out)
      rw [hk]
      rw [hk] at hkz
      go_wp2
      go_returns
      exact ⟨rfl, GE.out⟩
    | succ g =>
      have hkz : (k : Int) < (l.length : Int) := by omega
      have hkl : k < l.length := by omega
      have HW1 := Lib.hid (PA.wr1b hkl (by have := HLN.out; omega))
      have hb1 := HB1.out k
      have hat := HAT.out k
      obtain ⟨b0, b1, b2, b3, b4, b5, b6, b7, b8, b9⟩ := ten_c (keepB BX.out HG.out)
      obtain ⟨ad, c9, e, _, d0, d1, d2, d3, d4, d5, d6, d7, d8, d9⟩ := Ors_at (HR.out.grew (G0.out.trans HG.out)) (eo_get hkl)
      injection e with e1 e2 e3
      subst e1 e3
      clear e2
      have HM1 := Lib.hid (HME.out (eo l k))
      have HB2 := Lib.hid (HBE.out (eo l k))
      rcases hat with ha | ⟨j, ha, hj⟩
      · rw [ha] at hb1 ⊢
        cases hm : M (eo l k) with
        | false =>
          have HV : Hid (F (k + 1) = -1) := Lib.hid (by rw [hb1, hm]; exact if_neg (fun h => by cases h.1))
          rw [hm] at HM1
          clear hb1 hm HB2 hkl
          generalize eo l k = x at *
          obtain ⟨us2, lb2, wh2, sd2, bs2, qt2, pr2, lf2, rs2, sq2⟩ := x
          simp only at HM1 d0 d1 d2 d3 d4 d5 d6 d7 d8 d9
          go_wp2
          refine Facts.wp_region_text (by kernel_rfl) (by kernel_rfl) ?_
          iterate 5
            apply Facts.Lex.exact [] _ (by kernel_rfl)
            · intro u W hC _
              have jb0 := cellG hC b0
              have jb1 := cellG hC b1
              have jb2 := cellG hC b2
              have jb3 := cellG hC b3
              have jb4 := cellG hC b4
              have jb5 := cellG hC b5
              have jb6 := cellG hC b6
              have jb7 := cellG hC b7
              have jb8 := cellG hC b8
              have jb9 := cellG hC b9
              have jd0 := cellG hC d0
              have jd1 := cellG hC d1
              have jd2 := cellG hC d2
              have jd3 := cellG hC d3
              have jd4 := cellG hC d4
              have jd5 := cellG hC d5
              have jd6 := cellG hC d6
              have jd7 := cellG hC d7
              have jd8 := cellG hC d8
              have jd9 := cellG hC d9
              unfold Facts.one
              go_simp
              first | exact ⟨Grew.refl _, rfl⟩ | rfl
            simp only [Act.put, List.setIfInBounds_toArray, List.set_cons_zero, List.set_cons_succ, Nat.zero_add, Nat.reduceAdd]
          apply Facts.Lex.exact [] _ (by kernel_rfl)
          · intro u W hC _
            unfold Facts.one
            go_simp
            exact ((HM1.out W).mono fun e w' ⟨he, hg⟩ => ⟨_, he, hg, rfl⟩)
          simp only [Act.put, List.setIfInBounds_toArray, List.set_cons_zero, List.set_cons_succ, Nat.reduceAdd]
          repeat
            apply Facts.Lex.exact [] _ (by kernel_rfl)
            · intro u W hC _
              have jb0 := cellG hC b0
              have jb1 := cellG hC b1
              have jb2 := cellG hC b2
              have jb3 := cellG hC b3
              have jb4 := cellG hC b4
              have jb5 := cellG hC b5
              have jb6 := cellG hC b6
              have jb7 := cellG hC b7
              have jb8 := cellG hC b8
              have jb9 := cellG hC b9
              have jd0 := cellG hC d0
              have jd1 := cellG hC d1
              have jd2 := cellG hC d2
              have jd3 := cellG hC d3
              have jd4 := cellG hC d4
              have jd5 := cellG hC d5
              have jd6 := cellG hC d6
              have jd7 := cellG hC d7
              have jd8 := cellG hC d8
              have jd9 := cellG hC d9
              unfold Facts.one
              go_simp
              first | exact ⟨Grew.refl _, rfl⟩ | rfl
            simp only [Act.put, List.setIfInBounds_toArray, List.set_cons_zero, List.set_cons_succ, Nat.reduceAdd]
          refine Facts.Lex.done fun u W2 hC hL => ?_
          have G2 := Lib.hid (HG.out.trans hC)
          clear hC hL
          go_wp2
          go_roundg g
          case measure => omega
          case rel => exact ⟨k + 1, by omega, by rw [HV.out], by first | rfl | (simp; done) | rw [HW1.out], G2⟩
        | true =>
          have HV : Hid (F (k + 1) = k) := Lib.hid (by rw [hb1, hm]; exact if_pos ⟨rfl, .inl (by decide)⟩)
          rw [hm] at HM1
          clear hb1 hm HB2 hkl
          generalize eo l k = x at *
          obtain ⟨us2, lb2, wh2, sd2, bs2, qt2, pr2, lf2, rs2, sq2⟩ := x
          simp only at HM1 d0 d1 d2 d3 d4 d5 d6 d7 d8 d9
          go_wp2
          refine Facts.wp_region_text (by kernel_rfl) (by kernel_rfl) ?_
          iterate 5
            apply Facts.Lex.exact [] _ (by kernel_rfl)
            · intro u W hC _
              have jb0 := cellG hC b0
              have jb1 := cellG hC b1
              have jb2 := cellG hC b2
              have jb3 := cellG hC b3
              have jb4 := cellG hC b4
              have jb5 := cellG hC b5
              have jb6 := cellG hC b6
              have jb7 := cellG hC b7
              have jb8 := cellG hC b8
              have jb9 := cellG hC b9
              have jd0 := cellG hC d0
              have jd1 := cellG hC d1
              have jd2 := cellG hC d2
              have jd3 := cellG hC d3
              have jd4 := cellG hC d4
              have jd5 := cellG hC d5
              have jd6 := cellG hC d6
              have jd7 := cellG hC d7
              have jd8 := cellG hC d8
              have jd9 := cellG hC d9
              unfold Facts.one
              go_simp
              first | exact ⟨Grew.refl _, rfl⟩ | rfl
            simp only [Act.put, List.setIfInBounds_toArray, List.set_cons_zero, List.set_cons_succ, Nat.zero_add, Nat.reduceAdd]
          apply Facts.Lex.exact [] _ (by kernel_rfl)
          · intro u W hC _
            unfold Facts.one
            go_simp
            exact ((HM1.out W).mono fun e w' ⟨he, hg⟩ => ⟨_, he, hg, rfl⟩)
          simp only [Act.put, List.setIfInBounds_toArray, List.set_cons_zero, List.set_cons_succ, Nat.reduceAdd]
          repeat
            apply Facts.Lex.exact [] _ (by kernel_rfl)
            · intro u W hC _
              have jb0 := cellG hC b0
              have jb1 := cellG hC b1
              have jb2 := cellG hC b2
              have jb3 := cellG hC b3
              have jb4 := cellG hC b4
              have jb5 := cellG hC b5
              have jb6 := cellG hC b6
              have jb7 := cellG hC b7
              have jb8 := cellG hC b8
              have jb9 := cellG hC b9
              have jd0 := cellG hC d0
              have jd1 := cellG hC d1
              have jd2 := cellG hC d2
              have jd3 := cellG hC d3
              have jd4 := cellG hC d4
              have jd5 := cellG hC d5
              have jd6 := cellG hC d6
              have jd7 := cellG hC d7
              have jd8 := cellG hC d8
              have jd9 := cellG hC d9
              unfold Facts.one
              go_simp
              first | exact ⟨Grew.refl _, rfl⟩ | rfl
            simp only [Act.put, List.setIfInBounds_toArray, List.set_cons_zero, List.set_cons_succ, Nat.reduceAdd]
          refine Facts.Lex.done fun u W2 hC hL => ?_
          have G2 := Lib.hid (HG.out.trans hC)
          clear hC hL
          go_wp2
          go_roundg g
          case measure => omega
          case rel => exact ⟨k + 1, by omega, by rw [HV.out], by first | rfl | (simp; done) | rw [HW1.out], G2⟩
      · rw [ha] at hb1 ⊢
        rw [Int.toNat_natCast] at hb1
        have hjz : ¬ ((j : Int) < 0) := by omega
        cases hm : M (eo l k) with
        | false =>
          have HV : Hid (F (k + 1) = j) := Lib.hid (by rw [hb1, hm]; exact if_neg (fun h => by cases h.1))
          rw [hm] at HM1
          clear hb1 hm HB2 hkl
          generalize eo l k = x at *
          obtain ⟨us2, lb2, wh2, sd2, bs2, qt2, pr2, lf2, rs2, sq2⟩ := x
          simp only at HM1 d0 d1 d2 d3 d4 d5 d6 d7 d8 d9
          go_wp2
          refine Facts.wp_region_text (by kernel_rfl) (by kernel_rfl) ?_
          iterate 5
            apply Facts.Lex.exact [] _ (by kernel_rfl)
            · intro u W hC _
              have jb0 := cellG hC b0
              have jb1 := cellG hC b1
              have jb2 := cellG hC b2
              have jb3 := cellG hC b3
              have jb4 := cellG hC b4
              have jb5 := cellG hC b5
              have jb6 := cellG hC b6
              have jb7 := cellG hC b7
              have jb8 := cellG hC b8
              have jb9 := cellG hC b9
              have jd0 := cellG hC d0
              have jd1 := cellG hC d1
              have jd2 := cellG hC d2
              have jd3 := cellG hC d3
              have jd4 := cellG hC d4
              have jd5 := cellG hC d5
              have jd6 := cellG hC d6
              have jd7 := cellG hC d7
              have jd8 := cellG hC d8
              have jd9 := cellG hC d9
              unfold Facts.one
              go_simp
              first | exact ⟨Grew.refl _, rfl⟩ | rfl
            simp only [Act.put, List.setIfInBounds_toArray, List.set_cons_zero, List.set_cons_succ, Nat.zero_add, Nat.reduceAdd]
          apply Facts.Lex.exact [] _ (by kernel_rfl)
          · intro u W hC _
            unfold Facts.one
            go_simp
            exact ((HM1.out W).mono fun e w' ⟨he, hg⟩ => ⟨_, he, hg, rfl⟩)
          simp only [Act.put, List.setIfInBounds_toArray, List.set_cons_zero, List.set_cons_succ, Nat.reduceAdd]
          repeat
            apply Facts.Lex.exact [] _ (by kernel_rfl)
            · intro u W hC _
              have jb0 := cellG hC b0
              have jb1 := cellG hC b1
              have jb2 := cellG hC b2
              have jb3 := cellG hC b3
              have jb4 := cellG hC b4
              have jb5 := cellG hC b5
              have jb6 := cellG hC b6
              have jb7 := cellG hC b7
              have jb8 := cellG hC b8
              have jb9 := cellG hC b9
              have jd0 := cellG hC d0
              have jd1 := cellG hC d1
              have jd2 := cellG hC d2
              have jd3 := cellG hC d3
              have jd4 := cellG hC d4
              have jd5 := cellG hC d5
              have jd6 := cellG hC d6
              have jd7 := cellG hC d7
              have jd8 := cellG hC d8
              have jd9 := cellG hC d9
              unfold Facts.one
              go_simp
              first | exact ⟨Grew.refl _, rfl⟩ | rfl
            simp only [Act.put, List.setIfInBounds_toArray, List.set_cons_zero, List.set_cons_succ, Nat.reduceAdd]
          refine Facts.Lex.done fun u W2 hC hL => ?_
          have G2 := Lib.hid (HG.out.trans hC)
          clear hC hL
          go_wp2
          go_roundg g
          case measure => omega
          case rel => exact ⟨k + 1, by omega, by rw [HV.out], by first | rfl | (simp; done) | rw [HW1.out], G2⟩
        | true =>
          have hjl : (j : Int) < (l.length : Int) := by omega
          obtain ⟨ad2, c9, e, _, p0, p1, p2, p3, p4, p5, p6, p7, p8, p9⟩ := Ors_at (HR.out.grew (G0.out.trans HG.out)) (eo_get (show j < l.length by omega))
          injection e with e1 e2 e3
          cases e1
          clear e2 e3
          have HB3 := Lib.hid (HB2.out (eo l j))
          rw [hm] at HM1
          cases hbb : BB (eo l k) (eo l j) with
          | false =>
            have HV : Hid (F (k + 1) = j) := Lib.hid (by rw [hb1, hm, hbb]; exact if_neg (fun h => by rcases h.2 with h | h; exact hjz h; cases h))
            rw [hbb] at HB3
            clear hb1 hm HB2 hkl hbb
            generalize eo l k = x at *
            generalize eo l j = y at *
            obtain ⟨us2, lb2, wh2, sd2, bs2, qt2, pr2, lf2, rs2, sq2⟩ := x
            obtain ⟨us3, lb3, wh3, sd3, bs3, qt3, pr3, lf3, rs3, sq3⟩ := y
            simp only at HM1 HB3 d0 d1 d2 d3 d4 d5 d6 d7 d8 d9 p0 p1 p2 p3 p4 p5 p6 p7 p8 p9
            go_wp2
            refine Facts.wp_region_text (by kernel_rfl) (by kernel_rfl) ?_
            iterate 5
              apply Facts.Lex.exact [] _ (by kernel_rfl)
              · intro u W hC _
                have jb0 := cellG hC b0
                have jb1 := cellG hC b1
                have jb2 := cellG hC b2
                have jb3 := cellG hC b3
                have jb4 := cellG hC b4
                have jb5 := cellG hC b5
                have jb6 := cellG hC b6
                have jb7 := cellG hC b7
                have jb8 := cellG hC b8
                have jb9 := cellG hC b9
                have jd0 := cellG hC d0
                have jd1 := cellG hC d1
                have jd2 := cellG hC d2
                have jd3 := cellG hC d3
                have jd4 := cellG hC d4
                have jd5 := cellG hC d5
                have jd6 := cellG hC d6
                have jd7 := cellG hC d7
                have jd8 := cellG hC d8
                have jd9 := cellG hC d9
                unfold Facts.one
                go_simp
                first | exact ⟨Grew.refl _, rfl⟩ | rfl
              simp only [Act.put, List.setIfInBounds_toArray, List.set_cons_zero, List.set_cons_succ, Nat.zero_add, Nat.reduceAdd]
            apply Facts.Lex.exact [] _ (by kernel_rfl)
            · intro u W hC _
              unfold Facts.one
              go_simp
              exact ((HM1.out W).mono fun e w' ⟨he, hg⟩ => ⟨_, he, hg, rfl⟩)
            simp only [Act.put, List.setIfInBounds_toArray, List.set_cons_zero, List.set_cons_succ, Nat.reduceAdd]
            iterate 13
              apply Facts.Lex.exact [] _ (by kernel_rfl)
              · intro u W hC _
                have jb0 := cellG hC b0
                have jb1 := cellG hC b1
                have jb2 := cellG hC b2
                have jb3 := cellG hC b3
                have jb4 := cellG hC b4
                have jb5 := cellG hC b5
                have jb6 := cellG hC b6
                have jb7 := cellG hC b7
                have jb8 := cellG hC b8
                have jb9 := cellG hC b9
                have jd0 := cellG hC d0
                have jd1 := cellG hC d1
                have jd2 := cellG hC d2
                have jd3 := cellG hC d3
                have jd4 := cellG hC d4
                have jd5 := cellG hC d5
                have jd6 := cellG hC d6
                have jd7 := cellG hC d7
                have jd8 := cellG hC d8
                have jd9 := cellG hC d9
                have jp0 := cellG hC p0
                have jp1 := cellG hC p1
                have jp2 := cellG hC p2
                have jp3 := cellG hC p3
                have jp4 := cellG hC p4
                have jp5 := cellG hC p5
                have jp6 := cellG hC p6
                have jp7 := cellG hC p7
                have jp8 := cellG hC p8
                have jp9 := cellG hC p9
                unfold Facts.one
                go_simp
                first | exact ⟨Grew.refl _, rfl⟩ | rfl
              simp only [Act.put, List.setIfInBounds_toArray, List.set_cons_zero, List.set_cons_succ, Nat.reduceAdd]
            apply Facts.Lex.exact [] _ (by kernel_rfl)
            · intro u W hC _
              unfold Facts.one
              go_simp
              exact ((HB3.out W).mono fun e w' ⟨he, hg⟩ => ⟨_, he, hg, rfl⟩)
            simp only [Act.put, List.setIfInBounds_toArray, List.set_cons_zero, List.set_cons_succ, Nat.reduceAdd]
            repeat
              apply Facts.Lex.exact [] _ (by kernel_rfl)
              · intro u W hC _
                have jb0 := cellG hC b0
                have jb1 := cellG hC b1
                have jb2 := cellG hC b2
                have jb3 := cellG hC b3
                have jb4 := cellG hC b4
                have jb5 := cellG hC b5
                have jb6 := cellG hC b6
                have jb7 := cellG hC b7
                have jb8 := cellG hC b8
                have jb9 := cellG hC b9
                unfold Facts.one
                go_simp
                first | exact ⟨Grew.refl _, rfl⟩ | rfl
              simp only [Act.put, List.setIfInBounds_toArray, List.set_cons_zero, List.set_cons_succ, Nat.reduceAdd]
            refine Facts.Lex.done fun u W2 hC hL => ?_
            have G2 := Lib.hid (HG.out.trans hC)
            clear hC hL
            go_wp2
            go_roundg g
            case measure => omega
            case rel => exact ⟨k + 1, by omega, by rw [HV.out], by first | rfl | (simp; done) | rw [HW1.out], G2⟩
          | true =>
            have HV : Hid (F (k + 1) = k) := Lib.hid (by rw [hb1, hm, hbb]; exact if_pos ⟨rfl, .inr rfl⟩)
            rw [hbb] at HB3
            clear hb1 hm HB2 hkl hbb
            generalize eo l k = x at *
            generalize eo l j = y at *
            obtain ⟨us2, lb2, wh2, sd2, bs2, qt2, pr2, lf2, rs2, sq2⟩ := x
            obtain ⟨us3, lb3, wh3, sd3, bs3, qt3, pr3, lf3, rs3, sq3⟩ := y
            simp only at HM1 HB3 d0 d1 d2 d3 d4 d5 d6 d7 d8 d9 p0 p1 p2 p3 p4 p5 p6 p7 p8 p9
            go_wp2
            refine Facts.wp_region_text (by kernel_rfl) (by kernel_rfl) ?_
            iterate 5
              apply Facts.Lex.exact [] _ (by kernel_rfl)
              · intro u W hC _
                have jb0 := cellG hC b0
                have jb1 := cellG hC b1
                have jb2 := cellG hC b2
                have jb3 := cellG hC b3
                have jb4 := cellG hC b4
                have jb5 := cellG hC b5
                have jb6 := cellG hC b6
                have jb7 := cellG hC b7
                have jb8 := cellG hC b8
                have jb9 := cellG hC b9
                have jd0 := cellG hC d0
                have jd1 := cellG hC d1
                have jd2 := cellG hC d2
                have jd3 := cellG hC d3
                have jd4 := cellG hC d4
                have jd5 := cellG hC d5
                have jd6 := cellG hC d6
                have jd7 := cellG hC d7
                have jd8 := cellG hC d8
                have jd9 := cellG hC d9
                unfold Facts.one
                go_simp
                first | exact ⟨Grew.refl _, rfl⟩ | rfl
              simp only [Act.put, List.setIfInBounds_toArray, List.set_cons_zero, List.set_cons_succ, Nat.zero_add, Nat.reduceAdd]
            apply Facts.Lex.exact [] _ (by kernel_rfl)
            · intro u W hC _
              unfold Facts.one
              go_simp
              exact ((HM1.out W).mono fun e w' ⟨he, hg⟩ => ⟨_, he, hg, rfl⟩)
            simp only [Act.put, List.setIfInBounds_toArray, List.set_cons_zero, List.set_cons_succ, Nat.reduceAdd]
            iterate 13
              apply Facts.Lex.exact [] _ (by kernel_rfl)
              · intro u W hC _
                have jb0 := cellG hC b0
                have jb1 := cellG hC b1
                have jb2 := cellG hC b2
                have jb3 := cellG hC b3
                have jb4 := cellG hC b4
                have jb5 := cellG hC b5
                have jb6 := cellG hC b6
                have jb7 := cellG hC b7
                have jb8 := cellG hC b8
                have jb9 := cellG hC b9
                have jd0 := cellG hC d0
                have jd1 := cellG hC d1
                have jd2 := cellG hC d2
                have jd3 := cellG hC d3
                have jd4 := cellG hC d4
                have jd5 := cellG hC d5
                have jd6 := cellG hC d6
                have jd7 := cellG hC d7
                have jd8 := cellG hC d8
                have jd9 := cellG hC d9
                have jp0 := cellG hC p0
                have jp1 := cellG hC p1
                have jp2 := cellG hC p2
                have jp3 := cellG hC p3
                have jp4 := cellG hC p4
                have jp5 := cellG hC p5
                have jp6 := cellG hC p6
                have jp7 := cellG hC p7
                have jp8 := cellG hC p8
                have jp9 := cellG hC p9
                unfold Facts.one
                go_simp
                first | exact ⟨Grew.refl _, rfl⟩ | rfl
              simp only [Act.put, List.setIfInBounds_toArray, List.set_cons_zero, List.set_cons_succ, Nat.reduceAdd]
            apply Facts.Lex.exact [] _ (by kernel_rfl)
            · intro u W hC _
              unfold Facts.one
              go_simp
              exact ((HB3.out W).mono fun e w' ⟨he, hg⟩ => ⟨_, he, hg, rfl⟩)
            simp only [Act.put, List.setIfInBounds_toArray, List.set_cons_zero, List.set_cons_succ, Nat.reduceAdd]
            repeat
              apply Facts.Lex.exact [] _ (by kernel_rfl)
              · intro u W hC _
                have jb0 := cellG hC b0
                have jb1 := cellG hC b1
                have jb2 := cellG hC b2
                have jb3 := cellG hC b3
                have jb4 := cellG hC b4
                have jb5 := cellG hC b5
                have jb6 := cellG hC b6
                have jb7 := cellG hC b7
                have jb8 := cellG hC b8
                have jb9 := cellG hC b9
                unfold Facts.one
                go_simp
                first | exact ⟨Grew.refl _, rfl⟩ | rfl
              simp only [Act.put, List.setIfInBounds_toArray, List.set_cons_zero, List.set_cons_succ, Nat.reduceAdd]
            refine Facts.Lex.done fun u W2 hC hL => ?_
            have G2 := Lib.hid (HG.out.trans hC)
            clear hC hL
            go_wp2
            go_roundg g
            case measure => omega
            case rel => exact ⟨k + 1, by omega, by rw [HV.out], by first | rfl | (simp; done) | rw [HW1.out], G2⟩
end Go.Proofs.Ytmnfajplfnfgpaa.ORD
