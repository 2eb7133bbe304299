/-
  What is told of a list of orders.
  Conditions: those that each lemma names.
-/
import Derived.Test.YtmnfajplfnfgpaaOV
import Derived.Test.YtmnfajplfnfgpaaOU
import Derived.Test.YtmnfajplfnfgpaaOPR
import Derived.Test.YtmnfajplfnfgpaaOH
import Derived.Lib.Hide
namespace Go.Proofs.Ytmnfajplfnfgpaa.OTL
set_option maxRecDepth 100000
open Go Go.RowKit Go.Lib Go.Proofs.Ytmnfajplfnfgpaa Go.Proofs.Ytmnfajplfnfgpaa.Facts Go.Proofs.Ytmnfajplfnfgpaa.Ints Go.Proofs.Ytmnfajplfnfgpaa.PA Go.Proofs.Ytmnfajplfnfgpaa.UM Go.Proofs.Ytmnfajplfnfgpaa.UB Go.Proofs.Ytmnfajplfnfgpaa.OA Go.Proofs.Ytmnfajplfnfgpaa.OP Go.Proofs.Ytmnfajplfnfgpaa.BP Go.Proofs.Ytmnfajplfnfgpaa.OB Go.Proofs.Ytmnfajplfnfgpaa.OC Go.Proofs.Ytmnfajplfnfgpaa.OD Go.Proofs.Ytmnfajplfnfgpaa.OE Go.Proofs.Ytmnfajplfnfgpaa.OF Go.Proofs.Ytmnfajplfnfgpaa.OG Go.Proofs.Ytmnfajplfnfgpaa.OH Go.Proofs.Ytmnfajplfnfgpaa.OM Go.Proofs.Ytmnfajplfnfgpaa.OQ Go.Proofs.Ytmnfajplfnfgpaa.OS Go.Proofs.Ytmnfajplfnfgpaa.OT Go.Proofs.Ytmnfajplfnfgpaa.OU Go.Proofs.Ytmnfajplfnfgpaa.OV Go.Proofs.Ytmnfajplfnfgpaa.OPR Go.Proofs.Ytmnfajplfnfgpaa.Bytes


theorem pull_len (l : List Or) (i lab who : Int) : (pullP l i lab who).1.length ≤ l.length := by
  unfold pullP
  split
  · exact Nat.zero_le _
  · split
    · exact Nat.zero_le _
    · split
      · exact Nat.le_of_eq (List.length_set ..)
      · exact Nat.zero_le _
set_option maxHeartbeats 8000000 in
theorem law (v : Value) (l : List Or) (i lab who c : Int) (q p : Nat) (w : World) (h : Ors w v l) (hs : ∀ x ∈ l, WfO x) (hq : q < 18446744073709551616) (hp : p < 18446744073709551616) :
    Calls Try.prog 3 #[v, .int .i64 i, .int .i64 lab, .int .i64 who, .int .i64 c, .int .u64 (q : Int), .int .u64 (p : Int)] w fun e w' => e = .returned (.bool true) ∧ Grew w w' := by
  have HL := Lib.hid h
  have HAL := Lib.hid alive_any
  by_cases hlen : l.length ≤ 100
  · have HP := Lib.hid (pull_any v l i lab who w h (by omega) hs)
    have HQ := Lib.hid (fun W (hg : Grew w W) => rpull_any v l i lab who W (h.grew hg) (by omega) hs)
    have HN1 := Lib.hid (fun W => need_any c q p hq hp W)
    have HN2 := Lib.hid (fun W => rneed_any c q p hq hp W)
    have HH1 := Lib.hid (fun W (hg : Grew w W) => held_any v l c W (h.grew hg) (by omega) hs)
    have HH2 := Lib.hid (fun W (hg : Grew w W) => rheld_any v l c W (h.grew hg) (by omega) hs)
    have HR1 := Lib.hid (fun W (hg : Grew w W) => right_any v l W (h.grew hg) (by omega) hs)
    have HR2 := Lib.hid (fun W (hg : Grew w W) => rright_any v l W (h.grew hg) (by omega) hs)
    have HS1 := Lib.hid (fun W (hg : Grew w W) => slots_any v l W (h.grew hg) (by omega))
    have HS2 := Lib.hid (fun W (hg : Grew w W) => rslots_any v l W (h.grew hg) (by omega))
    have hpl := pull_len l i lab who
    have HSM := Lib.hid (fun W v1 v2 (h1 : Ors W v1 (pullP l i lab who).1) (h2 : Ors W v2 (pullP l i lab who).1) => same_any v1 v2 _ W h1 h2 (by omega))
    have HIN := Lib.hid (fun W v1 v2 (h1 : Is W v1 (usl l)) (h2 : Is W v2 (usl l)) => ints_any W v1 v2 _ _ h1 h2)
    rw [decide_eq_true rfl] at HIN
    have hl1 : ¬ (100 : Int) < (l.length : Int) := by omega
    obtain ⟨A, ca, rfl, _⟩ := h.slice
    generalize usl l = U at *
    generalize rightO l = br at *
    generalize heldP l c = hd at *
    generalize needP c q p = nd at *
    generalize pullP l i lab who = P at *
    obtain ⟨R, x, er⟩ := P
    obtain ⟨h1, h2⟩ := hd
    obtain ⟨n1, n2⟩ := nd
    have heq := fun W => eqO x W
    obtain ⟨us, lb, wh, sd, bs, qt, pr, lf, rs, sq⟩ := x
    unfold AnsP AnsQ orv two at *
    simp only at HP HQ HN1 HN2 HH1 HH2 HSM heq
    clear h hs hq hp hlen hpl
    go_enter Try.func3, Try.ntmps3
    go_wp2_with fail
    refine HP.out.mono ?_
    rintro e w1 ⟨v1, rfl, ⟨b1, _, ho1⟩, hg⟩
    have gz : Grew w1 (w1.alloc (.cells #[.bool us, .int .i64 lb, .int .i64 wh, .int .i64 sd, .int .i64 bs, .int .i64 qt, .int .u64 (pr : Int), .int .u64 (lf : Int), .int .u64 (rs : Int), .int .i64 sq] 26)) := by unfold Grew; go_grown
    have G1 := Lib.hid (hg.trans gz)
    have I1 := Lib.hid ((Ors.of_own ho1).grew gz)
    have X1 := Lib.hid (blk_new w1 (.cells #[.bool us, .int .i64 lb, .int .i64 wh, .int .i64 sd, .int .i64 bs, .int .i64 qt, .int .u64 (pr : Int), .int .u64 (lf : Int), .int .u64 (rs : Int), .int .i64 sq] 26))
    clear hg gz ho1 HP
    go_wp2_with fail
    refine (HQ.out _ G1.out).mono ?_
    rintro e w2 ⟨v2, rfl, ho2, hg⟩
    have gz : Grew w2 (w2.alloc (.cells #[.bool us, .int .i64 lb, .int .i64 wh, .int .i64 sd, .int .i64 bs, .int .i64 qt, .int .u64 (pr : Int), .int .u64 (lf : Int), .int .u64 (rs : Int), .int .i64 sq] 26)) := by unfold Grew; go_grown
    have G2 := Lib.hid (G1.out.trans (hg.trans gz))
    have I2 := Lib.hid (I1.out.grew (hg.trans gz))
    have J2 := Lib.hid (ho2.grew gz)
    have X2 := Lib.hid (keepB X1.out (hg.trans gz))
    have Y2 := Lib.hid (blk_new w2 (.cells #[.bool us, .int .i64 lb, .int .i64 wh, .int .i64 sd, .int .i64 bs, .int .i64 qt, .int .u64 (pr : Int), .int .u64 (lf : Int), .int .u64 (rs : Int), .int .i64 sq] 26))
    clear hg gz ho2 HQ G1 I1 X1
    go_wp2_with fail
    refine (HN1.out _).mono ?_
    rintro e w' ⟨rfl, rfl⟩
    go_wp2_with fail
    refine (HN2.out _).mono ?_
    rintro e w' ⟨rfl, rfl⟩
    go_wp2_with fail
    refine (HH1.out _ G2.out).mono ?_
    rintro e w3 ⟨rfl, hg⟩
    have G3 := Lib.hid (G2.out.trans hg)
    have I3 := Lib.hid (I2.out.grew hg)
    have J3 := Lib.hid (J2.out.grew hg)
    have X3 := Lib.hid (keepB X2.out hg)
    have Y3 := Lib.hid (keepB Y2.out hg)
    clear hg HN1 HN2 HH1 G2 I2 J2 X2 Y2
    go_wp2_with fail
    refine (HH2.out _ G3.out).mono ?_
    rintro e w4 ⟨rfl, hg⟩
    have G4 := Lib.hid (G3.out.trans hg)
    have I4 := Lib.hid (I3.out.grew hg)
    have J4 := Lib.hid (J3.out.grew hg)
    have X4 := Lib.hid (keepB X3.out hg)
    have Y4 := Lib.hid (keepB Y3.out hg)
    clear hg HH2 G3 I3 J3 X3 Y3
    go_wp2_with fail
    refine (HAL.out _).mono ?_
    rintro e w5 ⟨rfl, hg⟩
    have G5 := Lib.hid (G4.out.trans hg)
    have I5 := Lib.hid (I4.out.grew hg)
    have J5 := Lib.hid (J4.out.grew hg)
    have X5 := Lib.hid (keepB X4.out hg)
    have Y5 := Lib.hid (keepB Y4.out hg)
    clear hg HAL G4 I4 J4 X4 Y4
    go_wp2_with fail
    refine (HR1.out _ G5.out).mono ?_
    rintro e w6 ⟨rfl, hg⟩
    have G6 := Lib.hid (G5.out.trans hg)
    have I6 := Lib.hid (I5.out.grew hg)
    have J6 := Lib.hid (J5.out.grew hg)
    have X6 := Lib.hid (keepB X5.out hg)
    have Y6 := Lib.hid (keepB Y5.out hg)
    clear hg HR1 G5 I5 J5 X5 Y5
    go_wp2_with fail
    refine (HR2.out _ G6.out).mono ?_
    rintro e w7 ⟨rfl, hg⟩
    have G7 := Lib.hid (G6.out.trans hg)
    have I7 := Lib.hid (I6.out.grew hg)
    have J7 := Lib.hid (J6.out.grew hg)
    have X7 := Lib.hid (keepB X6.out hg)
    have Y7 := Lib.hid (keepB Y6.out hg)
    clear hg HR2 G6 I6 J6 X6 Y6
    have hbb : (br == br) = true := by cases br <;> rfl
    go_wp2_with fail
    refine (HSM.out _ _ _ I7.out J7.out).mono ?_
    rintro e w8 ⟨rfl, hg⟩
    have G8 := Lib.hid (G7.out.trans hg)
    obtain ⟨x0, x1, x2, x3, x4, x5, x6, x7, x8, x9⟩ := ten_c (keepB X7.out hg)
    obtain ⟨y0, y1, y2, y3, y4, y5, y6, y7, y8, y9⟩ := ten_c (keepB Y7.out hg)
    clear hg HSM G7 I7 J7 X7 Y7
    go_wp2_with fail
    refine (HS1.out _ G8.out).mono ?_
    rintro e w9 ⟨v9, b9, rfl, _, _, ho9, hg⟩
    have G9 := Lib.hid (G8.out.trans hg)
    have S9 := Lib.hid ((IsB.of_own ho9).is)
    clear hg ho9 HS1 G8 x0 x1 x2 x3 x4 x5 x6 x7 x8 x9 y0 y1 y2 y3 y4 y5 y6 y7 y8 y9
    go_wp2_with fail
    refine (HS2.out _ G9.out).mono ?_
    rintro e wa ⟨va, rfl, hoa, hg⟩
    have GA := Lib.hid (G9.out.trans hg)
    have SA := Lib.hid ((IsB.of_own hoa).is)
    have SB := Lib.hid (S9.out.grew hg)
    clear hg hoa HS2 G9 S9
    go_wp2_with fail
    refine (HIN.out _ _ _ SB.out SA.out).mono ?_
    rintro e wb ⟨rfl, hg⟩
    have GB := Lib.hid (GA.out.trans hg)
    clear hg
    go_wp2
    go_returns
    exact ⟨by first | rfl | simp, GB.out⟩
  · have hl1 : (100 : Int) < (l.length : Int) := by omega
    obtain ⟨A, ca, rfl, _⟩ := h.slice
    clear h hs hlen HL hq hp
    go_enter Try.func3, Try.ntmps3
    go_wp2_with fail
    refine (HAL.out _).mono ?_
    rintro e w1 ⟨rfl, hg⟩
    have G1 := Lib.hid hg
    clear hg
    go_wp2
    go_returns
    exact ⟨rfl, G1.out⟩
end Go.Proofs.Ytmnfajplfnfgpaa.OTL
