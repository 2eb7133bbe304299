/-
  An order that met nothing, pulled: the list is as it was.
  Conditions: those that each lemma names.
-/
import Derived.Test.YtmnfajplfnfgpaaOV
import Derived.Test.YtmnfajplfnfgpaaOY
import Derived.Test.YtmnfajplfnfgpaaOF
import Derived.Lib.Hide
namespace Go.Proofs.Ytmnfajplfnfgpaa.OX
set_option maxRecDepth 100000
open Go Go.RowKit Go.Lib Go.Proofs.Ytmnfajplfnfgpaa Go.Proofs.Ytmnfajplfnfgpaa.Facts Go.Proofs.Ytmnfajplfnfgpaa.Ints Go.Proofs.Ytmnfajplfnfgpaa.PA Go.Proofs.Ytmnfajplfnfgpaa.UM Go.Proofs.Ytmnfajplfnfgpaa.UB Go.Proofs.Ytmnfajplfnfgpaa.OA Go.Proofs.Ytmnfajplfnfgpaa.OP Go.Proofs.Ytmnfajplfnfgpaa.BP Go.Proofs.Ytmnfajplfnfgpaa.BQ Go.Proofs.Ytmnfajplfnfgpaa.OB Go.Proofs.Ytmnfajplfnfgpaa.OC Go.Proofs.Ytmnfajplfnfgpaa.OD Go.Proofs.Ytmnfajplfnfgpaa.OE Go.Proofs.Ytmnfajplfnfgpaa.OF Go.Proofs.Ytmnfajplfnfgpaa.OG Go.Proofs.Ytmnfajplfnfgpaa.OK Go.Proofs.Ytmnfajplfnfgpaa.OQ Go.Proofs.Ytmnfajplfnfgpaa.OM Go.Proofs.Ytmnfajplfnfgpaa.ON Go.Proofs.Ytmnfajplfnfgpaa.OV Go.Proofs.Ytmnfajplfnfgpaa.OY Go.Proofs.Ytmnfajplfnfgpaa.Bytes


theorem who_ne (x : Int) : wrap64 (x + 1) ≠ x := by unfold wrap64; omega
theorem hasG_set {l : List Or} {k : Nat} (hk : k < l.length) {x : Or} (hx : x.used = true) : hasG zor (fun x : Or => x.used) (l.set k x) k = true := by
  rw [hasG_in _ _ _ k (by rw [List.length_set]; exact hk)]
  have : ((l.set k x)[k]?.getD zor) = x := eo_set_same hk
  rw [this]
  exact hx
theorem pull_own {l : List Or} {k : Nat} {x : Or} (hk : k < l.length) (hz : eo l k = zor) (hx : x.used = true) (hr : rightO (l.set k x) = true) : pullP (l.set k x) k x.label x.who = (l, x, 0) := by
  unfold pullP
  rw [if_neg (by rw [hr]; decide), if_neg (by rw [hasG_set hk hx]; decide)]
  have : eo (l.set k x) ((k : Int).toNat) = x := by rw [Int.toNat_natCast]; exact eo_set_same hk
  rw [this, if_pos ⟨rfl, rfl⟩, Int.toNat_natCast, List.set_set]
  have h2 := set_same hk
  rw [hz] at h2
  rw [h2]
theorem pull_other {l : List Or} {k : Nat} {x : Or} (hk : k < l.length) (hx : x.used = true) (hr : rightO (l.set k x) = true) (lab who : Int) (hw : x.who ≠ who) : pullP (l.set k x) k lab who = ([], zor, 5) := by
  unfold pullP
  rw [if_neg (by rw [hr]; decide), if_neg (by rw [hasG_set hk hx]; decide)]
  have : eo (l.set k x) ((k : Int).toNat) = x := by rw [Int.toNat_natCast]; exact eo_set_same hk
  rw [this, if_neg (fun h => hw h.2)]
theorem wf_set {l : List Or} {k : Nat} {x : Or} (h : ∀ y ∈ l, WfO y) (hx : WfO x) : ∀ y ∈ l.set k x, WfO y := fun y hy => by
  rcases List.mem_or_eq_of_mem_set hy with h1 | h1
  · exact h y h1
  · rw [h1]; exact hx
set_option maxHeartbeats 8000000 in
theorem law (v : Value) (l : List Or) (o : Or) (w : World) (h : Ors w v l) (hs : ∀ x ∈ l, WfO x) (ho : WfO o) : Calls Try.prog 7 #[v, orv o] w fun e w' => e = .returned (.bool true) ∧ Grew w w' := by
  have HL := Lib.hid h
  have HAL := Lib.hid alive_any
  by_cases hlen : l.length ≤ 100
  · have HP := Lib.hid (fun W (hg : Grew w W) => post_any v l o W (h.grew hg) (by omega) hs ho)
    have HSM := Lib.hid (fun W v1 (h1 : Ors W v1 l) (hg : Grew w W) => same_any v1 v l W h1 (h.grew hg) (by omega))
    have HP1 := Lib.hid (fun W v1 k (hk : k < l.length) (hz : eo l k = zor) (hr : rightO (l.set k { o with used := true }) = true) (h1 : Ors W v1 (l.set k { o with used := true })) => by
      have h2 := pull_any v1 _ k o.label o.who W h1 (by rw [List.length_set]; omega) (wf_set hs (show WfO { o with used := true } from ho))
      rw [show o.label = ({ o with used := true } : Or).label from rfl, show o.who = ({ o with used := true } : Or).who from rfl, pull_own hk hz rfl hr] at h2
      exact h2)
    have HP2 := Lib.hid (fun W v1 k who (hk : k < l.length) (hw : o.who ≠ who) (hr : rightO (l.set k { o with used := true }) = true) (h1 : Ors W v1 (l.set k { o with used := true })) => by
      have h2 := pull_any v1 _ k o.label who W h1 (by rw [List.length_set]; omega) (wf_set hs (show WfO { o with used := true } from ho))
      rw [pull_other hk rfl hr o.label who hw] at h2
      exact h2)
    have HNO := Lib.hid (fun S => post_none (l := l) (o := o) (S := S))
    obtain ⟨A, c, rfl, _⟩ := h.slice
    have hl1 : ¬ (100 : Int) < (l.length : Int) := by omega
    have heq := fun W => eqO { o with used := true } W
    obtain ⟨us, lb, wh, sd, bs, qt, pr, lf, rs, sq⟩ := o
    unfold AnsP orv zor at *
    simp only at HP HP1 HP2 HNO heq ⊢
    have g0 : Grew w (w.alloc (.cells #[.bool us, .int .i64 lb, .int .i64 wh, .int .i64 sd, .int .i64 bs, .int .i64 qt, .int .u64 (pr : Int), .int .u64 (lf : Int), .int .u64 (rs : Int), .int .i64 sq] 26)) := by unfold Grew; go_grown
    have G0 := Lib.hid g0
    have B0 := Lib.hid (blk_new w (.cells #[.bool us, .int .i64 lb, .int .i64 wh, .int .i64 sd, .int .i64 bs, .int .i64 qt, .int .u64 (pr : Int), .int .u64 (lf : Int), .int .u64 (rs : Int), .int .i64 sq] 26))
    obtain ⟨c0, c1, c2, c3, c4, c5, c6, c7, c8, c9⟩ := ten_c B0.out
    clear h hs ho g0 hlen
    go_enter Try.func7, Try.ntmps7
    go_wp2_with fail
    refine (HP.out _ G0.out).mono ?_
    rintro e w1 ⟨S, v1, v2, _, _, rfl, hO, hF, hg⟩
    have HN := Lib.hid (HNO.out S)
    generalize postP l ⟨us, lb, wh, sd, bs, qt, pr, lf, rs, sq⟩ S = P at *
    obtain ⟨now, fs, ak, sur, err⟩ := P
    simp only at hO hF HN ⊢
    obtain ⟨A1, k1, rfl, _⟩ := hO.slice
    obtain ⟨A2, k2, rfl, _⟩ := hF.slice
    have G1 := Lib.hid (G0.out.trans hg)
    have B1 := Lib.hid (keepB B0.out hg)
    have I1 := Lib.hid hO
    clear hO hF hg c0 c1 c2 c3 c4 c5 c6 c7 c8 c9 HNO
    by_cases he : err = 0
    · subst he
      cases fs with
      | cons f fs =>
        have hf0 : (0 : Int) < (((f :: fs).length : Nat) : Int) := by rw [List.length_cons]; omega
        generalize (f :: fs).length = nn at *
        clear HN
        go_wp2_with fail
        refine (HAL.out _).mono ?_
        rintro e w2 ⟨rfl, hg⟩
        have G2 := Lib.hid (G1.out.trans hg)
        clear hg
        go_wp2
        go_returns
        exact ⟨rfl, G2.out⟩
      | nil =>
        obtain ⟨k, hk, hz, hP, hr⟩ := HN.out rfl rfl
        injection hP with h1 h2 h3 h4 h5
        subst h1 h3 h4
        clear h2 h5 HN
        have HQ1 := Lib.hid (fun W v1 h1 => HP1.out W v1 k hk hz hr h1)
        have HQ2 := Lib.hid (fun W v1 who hw h1 => HP2.out W v1 k who hk hw hr h1)
        clear HP1 HP2 HP hk hz hr
        obtain ⟨c0, c1, c2, c3, c4, c5, c6, c7, c8, c9⟩ := ten_c B1.out
        rw [List.length_set] at I1
        simp only [List.length_nil, List.length_set]
        go_wp2_with fail
        refine (HQ1.out _ _ I1.out).mono ?_
        rintro e w2 ⟨v3, rfl, ⟨base, hbs, hown⟩, hg⟩
        have gz : Grew w2 (w2.alloc (.cells #[.bool true, .int .i64 lb, .int .i64 wh, .int .i64 sd, .int .i64 bs, .int .i64 qt, .int .u64 (pr : Int), .int .u64 (lf : Int), .int .u64 (rs : Int), .int .i64 sq] 26)) := by unfold Grew; go_grown
        have G2 := Lib.hid (G1.out.trans (hg.trans gz))
        have B2 := Lib.hid (keepB B1.out (hg.trans gz))
        have I2 := Lib.hid (I1.out.grew (hg.trans gz))
        have X2 := Lib.hid (blk_new w2 (.cells #[.bool true, .int .i64 lb, .int .i64 wh, .int .i64 sd, .int .i64 bs, .int .i64 qt, .int .u64 (pr : Int), .int .u64 (lf : Int), .int .u64 (rs : Int), .int .i64 sq] 26))
        have O2 := Lib.hid (own_grew hown gz)
        have hlt : w.heap.size < w1.heap.size := (Array.getElem?_eq_some_iff.1 B1.out).1
        have HBS : Hid (w.heap.size < base) := Lib.hid (by omega)
        have HX : Hid (w.heap.size ≠ w2.heap.size) := Lib.hid (by have := hg.size; omega)
        clear hg gz hown hbs hlt c0 c1 c2 c3 c4 c5 c6 c7 c8 c9
        obtain ⟨c0, c1, c2, c3, c4, c5, c6, c7, c8, c9⟩ := ten_c B2.out
        go_wp2_with fail
        refine (HQ2.out _ _ _ (fun e => who_ne wh e.symm) I2.out).mono ?_
        rintro e w3 ⟨v4, rfl, _, hg⟩
        have gz : Grew w3 (w3.alloc (.cells #[.bool false, .int .i64 0, .int .i64 0, .int .i64 0, .int .i64 0, .int .i64 0, .int .u64 0, .int .u64 0, .int .u64 0, .int .i64 0] 26)) := by unfold Grew; go_grown
        have b3 := keepB B2.out (hg.trans gz)
        have fz := frz (k := 0) b3
        have y0 := (ten_c b3).1
        have x3 := keepB X2.out (hg.trans gz)
        have o3 := own_grew (own_grew O2.out hg) gz
        have b4 := bset (k := 0) (.bool true) b3
        rw [show (#[.bool us, .int .i64 lb, .int .i64 wh, .int .i64 sd, .int .i64 bs, .int .i64 qt, .int .u64 (pr : Int), .int .u64 (lf : Int), .int .u64 (rs : Int), .int .i64 sq] : Array Value).modify 0 (fun _ => .bool true) = #[.bool true, .int .i64 lb, .int .i64 wh, .int .i64 sd, .int .i64 bs, .int .i64 qt, .int .u64 (pr : Int), .int .u64 (lf : Int), .int .u64 (rs : Int), .int .i64 sq] from rfl] at b4
        have o4 := own_kept o3 (grown_set _ w.heap.size 0 (.bool true)) HBS.out
        have g4 := (show Below w.heap.size w _ from G2.out.trans (hg.trans gz)).setCell (p := ⟨w.heap.size, 0, none⟩) (Nat.le_refl _) (.bool true)
        have x4 := ((grown_set (w3.alloc (.cells #[.bool false, .int .i64 0, .int .i64 0, .int .i64 0, .int .i64 0, .int .i64 0, .int .u64 0, .int .u64 0, .int .u64 0, .int .i64 0] 26)) w.heap.size 0 (.bool true)).block w2.heap.size (Array.getElem?_eq_some_iff.1 x3).1 (by intro e; injection e with e; exact HX.out e.symm)).trans x3
        have B4 := Lib.hid b4
        have O4 := Lib.hid o4
        have G4 : Hid (Grew w _) := Lib.hid g4
        have X4 := Lib.hid x4
        clear hg gz b3 x3 o3 b4 o4 g4 x4 c0 c1 c2 c3 c4 c5 c6 c7 c8 c9 I1 I2 B1 B2 X2 O2 HX HBS G1 G2 B0 G0
        go_wp2_with fail
        refine (HAL.out _).mono ?_
        rintro e w5 ⟨rfl, hg⟩
        have G5 := Lib.hid (G4.out.trans hg)
        have O5 := Lib.hid (Ors.of_own (own_grew O4.out hg))
        obtain ⟨c0, c1, c2, c3, c4, c5, c6, c7, c8, c9⟩ := ten_c (keepB B4.out hg)
        obtain ⟨x0, x1, x2, x3, x4, x5, x6, x7, x8, x9⟩ := ten_c (keepB X4.out hg)
        clear hg fz y0
        go_wp2_with fail
        refine (HSM.out _ _ O5.out G5.out).mono ?_
        rintro e w6 ⟨rfl, hg⟩
        have G6 := Lib.hid (G5.out.trans hg)
        clear hg c0 c1 c2 c3 c4 c5 c6 c7 c8 c9 x0 x1 x2 x3 x4 x5 x6 x7 x8 x9
        go_wp2
        go_returns
        exact ⟨rfl, G6.out⟩
    · have he1 : (err != 0) = true := by simp [he]
      have he2 : (err == 0) = false := by simp [he]
      clear HN
      go_wp2_with fail
      refine (HAL.out _).mono ?_
      rintro e w2 ⟨rfl, hg⟩
      have G2 := Lib.hid (G1.out.trans hg)
      clear hg
      go_wp2
      go_returns
      exact ⟨rfl, G2.out⟩
  · have hl1 : (100 : Int) < (l.length : Int) := by omega
    obtain ⟨A, c, rfl, _⟩ := h.slice
    obtain ⟨us, lb, wh, sd, bs, qt, pr, lf, rs, sq⟩ := o
    unfold orv
    simp only
    have G0 : Hid (Grew w (w.alloc (.cells #[.bool us, .int .i64 lb, .int .i64 wh, .int .i64 sd, .int .i64 bs, .int .i64 qt, .int .u64 (pr : Int), .int .u64 (lf : Int), .int .u64 (rs : Int), .int .i64 sq] 26))) := Lib.hid (by unfold Grew; go_grown)
    clear h hs ho hlen HL
    go_enter Try.func7, Try.ntmps7
    go_wp2_with fail
    refine (HAL.out _).mono ?_
    rintro e w1 ⟨rfl, hg⟩
    have G1 := Lib.hid (G0.out.trans hg)
    clear hg
    go_wp2
    go_returns
    exact ⟨rfl, G1.out⟩
end Go.Proofs.Ytmnfajplfnfgpaa.OX
