/-
  For any number, any byte, any deeds and any choices: DiskKeeps answers true, where the remainder is below zero.
  Conditions: none beyond those that each lemma names.
-/
import Derived.Test.YtiajjkjdmcoodaaDKeepsH
namespace Go.Proofs.Ytiajjkjdmcoodaa.DKeepsN
set_option maxRecDepth 100000
open Go Go.RowKit Go.Proofs.Ytiajjkjdmcoodaa Go.Proofs.Ytiajjkjdmcoodaa.Facts Go.Proofs.Ytiajjkjdmcoodaa.Bytes Go.Proofs.Ytiajjkjdmcoodaa.DKeep Go.Proofs.Ytiajjkjdmcoodaa.DSmall Go.Proofs.Ytiajjkjdmcoodaa.DTurn Go.Proofs.Ytiajjkjdmcoodaa.DArm Go.Proofs.Ytiajjkjdmcoodaa.DRead Go.Proofs.Ytiajjkjdmcoodaa.DNew Go.Proofs.Ytiajjkjdmcoodaa.DBuild Go.Proofs.Ytiajjkjdmcoodaa.DWrite Go.Proofs.Ytiajjkjdmcoodaa.DOver Go.Proofs.Ytiajjkjdmcoodaa.DSettle Go.Proofs.Ytiajjkjdmcoodaa.DFlush Go.Proofs.Ytiajjkjdmcoodaa.DClone Go.Proofs.Ytiajjkjdmcoodaa.DAlive Go.Proofs.Ytiajjkjdmcoodaa.DOpens Go.Proofs.Ytiajjkjdmcoodaa.DKeepsP Go.Proofs.Ytiajjkjdmcoodaa.DKeepsH

set_option maxHeartbeats 8000000 in
theorem law_neg (n : Int) (_ : -9223372036854775808 ≤ n) (_ : n ≤ 9223372036854775807) (c : UInt8) (A : Option Addr) (cap : Nat) (L : List De) (vC : Value) (lC : List UInt8) (w : World) (hL : DE w A cap L) (hC : Rd (fun b => b < w.heap.size) w vC lC) (ht : n.tmod 6 < 0) :
    Calls Try.prog 5 #[.int .i64 n, .int .u8 (c.toNat : Int), .slice A L.length cap, vC] w fun e w' => e = .returned (.bool true) ∧ Grew w w' := by
  have hm1 : -6 < n.tmod 6 := by have := Int.lt_tmod_of_pos n (b := 6) (by omega); omega
  have hm2 : n.tmod 6 < 6 := Int.tmod_lt_of_pos n (by omega)
  have HDE := Lib.hid hL
  have HRC := Lib.hid hC
  have hL1 := hL.1
  have hL2 := hL.2.1
  clear hL hC
  go_enter Try.func5, Try.ntmps5
  go_wp2_with fail
  refine (new_eq 6 6 rfl w (by omega) (by omega)).mono ?_
  rintro e w1 ⟨g, rfl, hd, hg⟩
  have HA : Hid (Above (fun k => w.heap.size ≤ k ∧ k < w1.heap.size) w.heap.size) := Lib.hid fun k hk => hk.1
  have HG := Lib.hid hg
  have HD := Lib.hid hd
  generalize hDD : (fun k => w.heap.size ≤ k ∧ k < w1.heap.size) = D at *
  clear hDD hd hg
  obtain ⟨a, ha⟩ : ∃ a : Nat, n.tmod 6 + 6 = (a : Int) := ⟨(n.tmod 6 + 6).toNat, by omega⟩
  have ha6 : a < 6 := by omega
  obtain ⟨d1, d2, k1, k2, k3, k4⟩ := KS.start a c ha6
  have HK1 := Lib.hid k1
  have HK2 := Lib.hid k2
  have HK3 := Lib.hid k3
  have HKS := Lib.hid k4
  clear k1 k2 k3 k4
  go_wp2_with fail
  refine (fill_eq c _ rfl w1).mono ?_
  rintro e x1 ⟨y1, rfl, r1, g1⟩
  have HD1 := Lib.hid (HD.out.grew g1)
  have HG1 := Lib.hid (HG.out.trans g1)
  have HR1 := Lib.hid r1
  clear r1 g1 HD HG
  go_wp2_with fail
  refine (write_eq x1 g D (fresh 6) a y1 _ _ d1 0 HD1.out HR1.out (by show (0 : Nat) ≤ _; omega) HK1.out).mono ?_
  rintro e x2 ⟨rfl, D2, hd2, hs2, hk2⟩
  have HD2 := Lib.hid hd2
  have HG2 := Lib.hid (grew_kept HG1.out hk2 HA.out)
  have HA2 := Lib.hid (above_sub HA.out hs2 HG1.out.size)
  clear hd2 hs2 hk2 HD1 HR1 HG1 HK1 HA
  go_wp2_with fail
  refine (flush_eq x2 g D2 d1 d2 0 HD2.out (Nat.le_trans HK2.out (by omega)) HK3.out).mono ?_
  rintro e x3 ⟨rfl, hd3, hk3⟩
  have HD3 := Lib.hid hd3
  have HG3 := Lib.hid (grew_kept HG2.out hk3 HA2.out)
  clear hd3 hk3 HD2 HG2 HK2 HK3
  go_wp2
  go_loopg [12, 13, 14] 40 (fun q s12 s13 s14 wx => ∃ (i many : Nat) (last : Sec) (d : Pd) (D : Nat → Prop), i + q = 40 ∧ i ≤ L.length ∧ s14 = .int .i64 i ∧ s12 = .int .i64 many ∧ Hid (KS a c i d many last) ∧ Hid (Rd (fun b => b < w.heap.size) w s13 (if many = 0 then [] else last)) ∧ Hid (DK wx g D d) ∧ Hid (Grew w wx) ∧ Hid (Above D w.heap.size))
  case atStart => exact ⟨0, 0, [], d2, D2, by omega, Nat.zero_le _, rfl, rfl, HKS, Lib.hid (Rd.nil _ _), HD3, HG3, HA2⟩
  case round =>
    clear HD3 HG3 HA2 HKS
    obtain ⟨i, many, last, d, D, hiq, hiL, rfl, rfl, HKS, HRL, HD, HG, HA⟩ := hrel
    have HW : Hid (d.waits.length ≤ 1073741823) := Lib.hid (by have := HKS.out.wt; omega)
    have hmi := HKS.out.le
    by_cases hc : (i : Int) < (L.length : Int) ∧ (i : Int) < 40
    · obtain ⟨hc1, hc2⟩ := hc
      obtain ⟨q0, rfl⟩ : ∃ q0, gk = q0 + 1 := ⟨gk - 1, by omega⟩
      have hil : i < L.length := by omega
      obtain ⟨x, hx⟩ : ∃ x, L[i]? = some x := ⟨_, List.getElem?_eq_getElem hil⟩
      obtain ⟨ad, rfl⟩ : ∃ ad, A = some ad := by
        cases A with
        | none => have := HDE.out.2.2.1 rfl; omega
        | some ad => exact ⟨ad, rfl⟩
      obtain ⟨_, hc1', hxn, vB, hc2', hrb⟩ := HDE.out.2.2.2 ad rfl i x hx
      rw [← Go.Deep.add_add] at hc1' hc2'
      have HC1 : Hid (w.cell? ⟨(ad.add (i * 3)).block, (ad.add (i * 3)).off + 1, none⟩ = some (.int .i64 x.n)) := Lib.hid hc1'
      have HC2 : Hid (w.cell? ⟨(ad.add (i * 3)).block, (ad.add (i * 3)).off + 2, none⟩ = some vB) := Lib.hid hc2'
      have HRB := Lib.hid hrb
      clear hc1' hc2' hrb hx
      rcases HKS.out.deed x.n x.b with ⟨q, hq, hq0⟩ | ⟨hq, hne, hks⟩ | ⟨hq, hne, hks, hxl⟩
      · have hb1 : (q == 0) = false := by simpa using hq0
        go_wp2
        refine Marks.wp_region_text (JW wr g D d d) (fun _ _ => True) (by kernel_rfl) (by kernel_rfl) (JW.start wr) ?_
        apply Marks.Lex.exact [] _ (by kernel_rfl)
        · intro m u W hm hcl hJ _
          unfold Marks.one
          go_simp
          first | exact ⟨trivial, hJ.keep 0 _ (by omega), rfl⟩ | exact hJ.keep 0 _ (by omega) | exact ⟨hJ.keep 0 _ (by omega), rfl⟩
        simp only [Act.put, List.setIfInBounds_toArray, List.set_cons_zero, List.set_cons_succ, Nat.zero_add]
        apply Marks.Lex.exact [] _ (by kernel_rfl)
        · intro m u W hm hcl hJ _
          unfold Marks.one
          go_simp
          first | exact ⟨trivial, hJ.keep 1 _ (by omega), rfl⟩ | exact hJ.keep 1 _ (by omega) | exact ⟨hJ.keep 1 _ (by omega), rfl⟩
        simp only [Act.put, List.setIfInBounds_toArray, List.set_cons_zero, List.set_cons_succ, Nat.reduceAdd]
        apply Marks.Lex.exact [] _ (by kernel_rfl)
        · intro m u W hm hcl hJ _
          unfold Marks.one
          go_simp
          first | exact ⟨trivial, hJ.keep 2 _ (by omega), rfl⟩ | exact hJ.keep 2 _ (by omega) | exact ⟨hJ.keep 2 _ (by omega), rfl⟩
        simp only [Act.put, List.setIfInBounds_toArray, List.set_cons_zero, List.set_cons_succ, Nat.reduceAdd]
        apply Marks.Lex.exact [] _ (by kernel_rfl)
        · intro m u W hm hcl hJ _
          unfold Marks.one
          go_simp
          first | exact ⟨trivial, hJ.keep 3 _ (by omega), rfl⟩ | exact hJ.keep 3 _ (by omega) | exact ⟨hJ.keep 3 _ (by omega), rfl⟩
        simp only [Act.put, List.setIfInBounds_toArray, List.set_cons_zero, List.set_cons_succ, Nat.reduceAdd]
        apply Marks.Lex.exact [] _ (by kernel_rfl)
        · intro m u W hm hcl hJ _
          unfold Marks.one
          go_simp
          first | exact ⟨trivial, hJ.keep 4 _ (by omega), rfl⟩ | exact hJ.keep 4 _ (by omega) | exact ⟨hJ.keep 4 _ (by omega), rfl⟩
        simp only [Act.put, List.setIfInBounds_toArray, List.set_cons_zero, List.set_cons_succ, Nat.reduceAdd]
        apply Marks.Lex.exact [] (.int .i64 x.n) (by kernel_rfl)
        · intro m u W hm hcl hJ _
          have hgw := grew_kept HG.out hJ.kept HA.out
          have c1 : W.cell? ⟨(ad.add (i * 3)).block, (ad.add (i * 3)).off + 1, none⟩ = some (.int .i64 x.n) := cellB hgw HC1.out
          have c2 : W.cell? ⟨(ad.add (i * 3)).block, (ad.add (i * 3)).off + 2, none⟩ = some vB := cellB hgw HC2.out
          unfold Marks.one
          go_simp
          first | exact ⟨trivial, hJ.keep 5 _ (by omega), rfl⟩ | exact hJ.keep 5 _ (by omega) | exact ⟨hJ.keep 5 _ (by omega), rfl⟩
        simp only [Act.put, List.setIfInBounds_toArray, List.set_cons_zero, List.set_cons_succ, Nat.reduceAdd]
        apply Marks.Lex.exact [] _ (by kernel_rfl)
        · intro m u W hm hcl hJ _
          unfold Marks.one
          go_simp
          first | exact ⟨trivial, hJ.keep 6 _ (by omega), rfl⟩ | exact hJ.keep 6 _ (by omega) | exact ⟨hJ.keep 6 _ (by omega), rfl⟩
        simp only [Act.put, List.setIfInBounds_toArray, List.set_cons_zero, List.set_cons_succ, Nat.reduceAdd]
        apply Marks.Lex.exact [] _ (by kernel_rfl)
        · intro m u W hm hcl hJ _
          unfold Marks.one
          go_simp
          first | exact ⟨trivial, hJ.keep 7 _ (by omega), rfl⟩ | exact hJ.keep 7 _ (by omega) | exact ⟨hJ.keep 7 _ (by omega), rfl⟩
        simp only [Act.put, List.setIfInBounds_toArray, List.set_cons_zero, List.set_cons_succ, Nat.reduceAdd]
        apply Marks.Lex.exact [] _ (by kernel_rfl)
        · intro m u W hm hcl hJ _
          unfold Marks.one
          go_simp
          first | exact ⟨trivial, hJ.keep 8 _ (by omega), rfl⟩ | exact hJ.keep 8 _ (by omega) | exact ⟨hJ.keep 8 _ (by omega), rfl⟩
        simp only [Act.put, List.setIfInBounds_toArray, List.set_cons_zero, List.set_cons_succ, Nat.reduceAdd]
        apply Marks.Lex.exact [] _ (by kernel_rfl)
        · intro m u W hm hcl hJ _
          unfold Marks.one
          go_simp
          first | exact ⟨trivial, hJ.keep 9 _ (by omega), rfl⟩ | exact hJ.keep 9 _ (by omega) | exact ⟨hJ.keep 9 _ (by omega), rfl⟩
        simp only [Act.put, List.setIfInBounds_toArray, List.set_cons_zero, List.set_cons_succ, Nat.reduceAdd]
        apply Marks.Lex.exact [] vB (by kernel_rfl)
        · intro m u W hm hcl hJ _
          have hgw := grew_kept HG.out hJ.kept HA.out
          have c1 : W.cell? ⟨(ad.add (i * 3)).block, (ad.add (i * 3)).off + 1, none⟩ = some (.int .i64 x.n) := cellB hgw HC1.out
          have c2 : W.cell? ⟨(ad.add (i * 3)).block, (ad.add (i * 3)).off + 2, none⟩ = some vB := cellB hgw HC2.out
          unfold Marks.one
          go_simp
          first | exact ⟨trivial, hJ.keep 10 _ (by omega), rfl⟩ | exact hJ.keep 10 _ (by omega) | exact ⟨hJ.keep 10 _ (by omega), rfl⟩
        simp only [Act.put, List.setIfInBounds_toArray, List.set_cons_zero, List.set_cons_succ, Nat.reduceAdd]
        apply Marks.Lex.exact [] (.int .i64 q) (by kernel_rfl)
        · intro m u W hm hcl hJ _
          unfold Marks.one
          go_simp
          have hb := hJ.bef hm
          refine (write_eq W g D d x.n vB _ x.b d q (HD.out.grew hb) ((HRB.out.grew (HG.out.trans hb))) HW.out hq).mono ?_
          rintro e w' ⟨rfl, hx⟩
          exact ⟨_, rfl, trivial, hJ.put hm _ w' hx, rfl⟩
        simp only [Act.put, List.setIfInBounds_toArray, List.set_cons_zero, List.set_cons_succ, Nat.reduceAdd]
        apply Marks.Lex.exact [] _ (by kernel_rfl)
        · intro m u W hm hcl hJ _
          unfold Marks.one
          go_simp
          first | exact ⟨trivial, hJ.keep 12 _ (by omega), rfl⟩ | exact hJ.keep 12 _ (by omega) | exact ⟨hJ.keep 12 _ (by omega), rfl⟩
        simp only [Act.put, List.setIfInBounds_toArray, List.set_cons_zero, List.set_cons_succ, Nat.reduceAdd]
        apply Marks.Lex.exact [] _ (by kernel_rfl)
        · intro m u W hm hcl hJ _
          unfold Marks.one
          go_simp
          first | exact ⟨trivial, hJ.keep 13 _ (by omega), rfl⟩ | exact hJ.keep 13 _ (by omega) | exact ⟨hJ.keep 13 _ (by omega), rfl⟩
        simp only [Act.put, List.setIfInBounds_toArray, List.set_cons_zero, List.set_cons_succ, Nat.reduceAdd]
        apply Marks.Lex.exact [] undef (by kernel_rfl)
        · intro m u W hm hcl hJ _
          unfold Marks.one
          go_simp
          first | exact ⟨trivial, hJ.keep 14 _ (by omega), rfl⟩ | exact hJ.keep 14 _ (by omega) | exact ⟨hJ.keep 14 _ (by omega), rfl⟩
        simp only [Act.put, List.setIfInBounds_toArray, List.set_cons_zero, List.set_cons_succ, Nat.reduceAdd]
        apply Marks.Lex.exact [] undef (by kernel_rfl)
        · intro m u W hm hcl hJ _
          unfold Marks.one
          go_simp
          first | exact ⟨trivial, hJ.keep 15 _ (by omega), rfl⟩ | exact hJ.keep 15 _ (by omega) | exact ⟨hJ.keep 15 _ (by omega), rfl⟩
        simp only [Act.put, List.setIfInBounds_toArray, List.set_cons_zero, List.set_cons_succ, Nat.reduceAdd]
        apply Marks.Lex.exact [] undef (by kernel_rfl)
        · intro m u W hm hcl hJ _
          unfold Marks.one
          go_simp
          first | exact ⟨trivial, hJ.keep 16 _ (by omega), rfl⟩ | exact hJ.keep 16 _ (by omega) | exact ⟨hJ.keep 16 _ (by omega), rfl⟩
        simp only [Act.put, List.setIfInBounds_toArray, List.set_cons_zero, List.set_cons_succ, Nat.reduceAdd]
        apply Marks.Lex.exact [] undef (by kernel_rfl)
        · intro m u W hm hcl hJ _
          unfold Marks.one
          go_simp
          first | exact ⟨trivial, hJ.keep 17 _ (by omega), rfl⟩ | exact hJ.keep 17 _ (by omega) | exact ⟨hJ.keep 17 _ (by omega), rfl⟩
        simp only [Act.put, List.setIfInBounds_toArray, List.set_cons_zero, List.set_cons_succ, Nat.reduceAdd]
        apply Marks.Lex.exact [] undef (by kernel_rfl)
        · intro m u W hm hcl hJ _
          unfold Marks.one
          go_simp
          first | exact ⟨trivial, hJ.keep 18 _ (by omega), rfl⟩ | exact hJ.keep 18 _ (by omega) | exact ⟨hJ.keep 18 _ (by omega), rfl⟩
        simp only [Act.put, List.setIfInBounds_toArray, List.set_cons_zero, List.set_cons_succ, Nat.reduceAdd]
        apply Marks.Lex.exact [] undef (by kernel_rfl)
        · intro m u W hm hcl hJ _
          unfold Marks.one
          go_simp
          first | exact ⟨trivial, hJ.keep 19 _ (by omega), rfl⟩ | exact hJ.keep 19 _ (by omega) | exact ⟨hJ.keep 19 _ (by omega), rfl⟩
        simp only [Act.put, List.setIfInBounds_toArray, List.set_cons_zero, List.set_cons_succ, Nat.reduceAdd]
        apply Marks.Lex.exact [] undef (by kernel_rfl)
        · intro m u W hm hcl hJ _
          unfold Marks.one
          go_simp
          first | exact ⟨trivial, hJ.keep 20 _ (by omega), rfl⟩ | exact hJ.keep 20 _ (by omega) | exact ⟨hJ.keep 20 _ (by omega), rfl⟩
        simp only [Act.put, List.setIfInBounds_toArray, List.set_cons_zero, List.set_cons_succ, Nat.reduceAdd]
        apply Marks.Lex.exact [] _ (by kernel_rfl)
        · intro m u W hm hcl hJ _
          unfold Marks.one
          go_simp
          first | exact ⟨trivial, hJ.keep 21 _ (by omega), rfl⟩ | exact hJ.keep 21 _ (by omega) | exact ⟨hJ.keep 21 _ (by omega), rfl⟩
        simp only [Act.put, List.setIfInBounds_toArray, List.set_cons_zero, List.set_cons_succ, Nat.reduceAdd]
        refine Marks.Lex.done fun m u W3 hm hJ _ => ?_
        have HKP := hJ.kept
        obtain ⟨D3, hd3, hs3⟩ := hJ.aft (hm 11 (by omega))
        have HDD := Lib.hid hd3
        have HGG := Lib.hid (grew_kept HG.out HKP HA.out)
        have HAA := Lib.hid (above_sub HA.out hs3 HG.out.size)
        clear hJ hm HKP hd3 hs3
        have HST := Lib.hid (HKS.out.step)
        go_wp2
        go_roundg q0
        case measure => omega
        case rel => exact ⟨i + 1, many, last, d, D3, by omega, by omega, by first | rfl | simp, by first | rfl | simp | (simp; omega), HST, HRL, HDD, HGG, HAA⟩
      · have hb2 : (x.n == (a : Int)) = false := by simpa using hne
        have HK9 := Lib.hid hks
        have HQ9 := Lib.hid hq
        clear hne hks hq
        go_wp2
        refine Marks.wp_region_text (JW wr g D d (noted d x.n.toNat x.b)) (fun _ _ => True) (by kernel_rfl) (by kernel_rfl) (JW.start wr) ?_
        apply Marks.Lex.exact [] _ (by kernel_rfl)
        · intro m u W hm hcl hJ _
          unfold Marks.one
          go_simp
          first | exact ⟨trivial, hJ.keep 0 _ (by omega), rfl⟩ | exact hJ.keep 0 _ (by omega) | exact ⟨hJ.keep 0 _ (by omega), rfl⟩
        simp only [Act.put, List.setIfInBounds_toArray, List.set_cons_zero, List.set_cons_succ, Nat.zero_add]
        apply Marks.Lex.exact [] _ (by kernel_rfl)
        · intro m u W hm hcl hJ _
          unfold Marks.one
          go_simp
          first | exact ⟨trivial, hJ.keep 1 _ (by omega), rfl⟩ | exact hJ.keep 1 _ (by omega) | exact ⟨hJ.keep 1 _ (by omega), rfl⟩
        simp only [Act.put, List.setIfInBounds_toArray, List.set_cons_zero, List.set_cons_succ, Nat.reduceAdd]
        apply Marks.Lex.exact [] _ (by kernel_rfl)
        · intro m u W hm hcl hJ _
          unfold Marks.one
          go_simp
          first | exact ⟨trivial, hJ.keep 2 _ (by omega), rfl⟩ | exact hJ.keep 2 _ (by omega) | exact ⟨hJ.keep 2 _ (by omega), rfl⟩
        simp only [Act.put, List.setIfInBounds_toArray, List.set_cons_zero, List.set_cons_succ, Nat.reduceAdd]
        apply Marks.Lex.exact [] _ (by kernel_rfl)
        · intro m u W hm hcl hJ _
          unfold Marks.one
          go_simp
          first | exact ⟨trivial, hJ.keep 3 _ (by omega), rfl⟩ | exact hJ.keep 3 _ (by omega) | exact ⟨hJ.keep 3 _ (by omega), rfl⟩
        simp only [Act.put, List.setIfInBounds_toArray, List.set_cons_zero, List.set_cons_succ, Nat.reduceAdd]
        apply Marks.Lex.exact [] _ (by kernel_rfl)
        · intro m u W hm hcl hJ _
          unfold Marks.one
          go_simp
          first | exact ⟨trivial, hJ.keep 4 _ (by omega), rfl⟩ | exact hJ.keep 4 _ (by omega) | exact ⟨hJ.keep 4 _ (by omega), rfl⟩
        simp only [Act.put, List.setIfInBounds_toArray, List.set_cons_zero, List.set_cons_succ, Nat.reduceAdd]
        apply Marks.Lex.exact [] (.int .i64 x.n) (by kernel_rfl)
        · intro m u W hm hcl hJ _
          have hgw := grew_kept HG.out hJ.kept HA.out
          have c1 : W.cell? ⟨(ad.add (i * 3)).block, (ad.add (i * 3)).off + 1, none⟩ = some (.int .i64 x.n) := cellB hgw HC1.out
          have c2 : W.cell? ⟨(ad.add (i * 3)).block, (ad.add (i * 3)).off + 2, none⟩ = some vB := cellB hgw HC2.out
          unfold Marks.one
          go_simp
          first | exact ⟨trivial, hJ.keep 5 _ (by omega), rfl⟩ | exact hJ.keep 5 _ (by omega) | exact ⟨hJ.keep 5 _ (by omega), rfl⟩
        simp only [Act.put, List.setIfInBounds_toArray, List.set_cons_zero, List.set_cons_succ, Nat.reduceAdd]
        apply Marks.Lex.exact [] _ (by kernel_rfl)
        · intro m u W hm hcl hJ _
          unfold Marks.one
          go_simp
          first | exact ⟨trivial, hJ.keep 6 _ (by omega), rfl⟩ | exact hJ.keep 6 _ (by omega) | exact ⟨hJ.keep 6 _ (by omega), rfl⟩
        simp only [Act.put, List.setIfInBounds_toArray, List.set_cons_zero, List.set_cons_succ, Nat.reduceAdd]
        apply Marks.Lex.exact [] _ (by kernel_rfl)
        · intro m u W hm hcl hJ _
          unfold Marks.one
          go_simp
          first | exact ⟨trivial, hJ.keep 7 _ (by omega), rfl⟩ | exact hJ.keep 7 _ (by omega) | exact ⟨hJ.keep 7 _ (by omega), rfl⟩
        simp only [Act.put, List.setIfInBounds_toArray, List.set_cons_zero, List.set_cons_succ, Nat.reduceAdd]
        apply Marks.Lex.exact [] _ (by kernel_rfl)
        · intro m u W hm hcl hJ _
          unfold Marks.one
          go_simp
          first | exact ⟨trivial, hJ.keep 8 _ (by omega), rfl⟩ | exact hJ.keep 8 _ (by omega) | exact ⟨hJ.keep 8 _ (by omega), rfl⟩
        simp only [Act.put, List.setIfInBounds_toArray, List.set_cons_zero, List.set_cons_succ, Nat.reduceAdd]
        apply Marks.Lex.exact [] _ (by kernel_rfl)
        · intro m u W hm hcl hJ _
          unfold Marks.one
          go_simp
          first | exact ⟨trivial, hJ.keep 9 _ (by omega), rfl⟩ | exact hJ.keep 9 _ (by omega) | exact ⟨hJ.keep 9 _ (by omega), rfl⟩
        simp only [Act.put, List.setIfInBounds_toArray, List.set_cons_zero, List.set_cons_succ, Nat.reduceAdd]
        apply Marks.Lex.exact [] vB (by kernel_rfl)
        · intro m u W hm hcl hJ _
          have hgw := grew_kept HG.out hJ.kept HA.out
          have c1 : W.cell? ⟨(ad.add (i * 3)).block, (ad.add (i * 3)).off + 1, none⟩ = some (.int .i64 x.n) := cellB hgw HC1.out
          have c2 : W.cell? ⟨(ad.add (i * 3)).block, (ad.add (i * 3)).off + 2, none⟩ = some vB := cellB hgw HC2.out
          unfold Marks.one
          go_simp
          first | exact ⟨trivial, hJ.keep 10 _ (by omega), rfl⟩ | exact hJ.keep 10 _ (by omega) | exact ⟨hJ.keep 10 _ (by omega), rfl⟩
        simp only [Act.put, List.setIfInBounds_toArray, List.set_cons_zero, List.set_cons_succ, Nat.reduceAdd]
        apply Marks.Lex.exact [] (.int .i64 0) (by kernel_rfl)
        · intro m u W hm hcl hJ _
          unfold Marks.one
          go_simp
          have hb := hJ.bef hm
          refine (write_eq W g D d x.n vB _ x.b (noted d x.n.toNat x.b) 0 (HD.out.grew hb) ((HRB.out.grew (HG.out.trans hb))) HW.out HQ9.out).mono ?_
          rintro e w' ⟨rfl, hx⟩
          exact ⟨_, rfl, trivial, hJ.put hm _ w' hx, rfl⟩
        simp only [Act.put, List.setIfInBounds_toArray, List.set_cons_zero, List.set_cons_succ, Nat.reduceAdd]
        apply Marks.Lex.exact [] _ (by kernel_rfl)
        · intro m u W hm hcl hJ _
          unfold Marks.one
          go_simp
          first | exact ⟨trivial, hJ.keep 12 _ (by omega), rfl⟩ | exact hJ.keep 12 _ (by omega) | exact ⟨hJ.keep 12 _ (by omega), rfl⟩
        simp only [Act.put, List.setIfInBounds_toArray, List.set_cons_zero, List.set_cons_succ, Nat.reduceAdd]
        apply Marks.Lex.exact [] _ (by kernel_rfl)
        · intro m u W hm hcl hJ _
          unfold Marks.one
          go_simp
          first | exact ⟨trivial, hJ.keep 13 _ (by omega), rfl⟩ | exact hJ.keep 13 _ (by omega) | exact ⟨hJ.keep 13 _ (by omega), rfl⟩
        simp only [Act.put, List.setIfInBounds_toArray, List.set_cons_zero, List.set_cons_succ, Nat.reduceAdd]
        apply Marks.Lex.exact [] _ (by kernel_rfl)
        · intro m u W hm hcl hJ _
          unfold Marks.one
          go_simp
          first | exact ⟨trivial, hJ.keep 14 _ (by omega), rfl⟩ | exact hJ.keep 14 _ (by omega) | exact ⟨hJ.keep 14 _ (by omega), rfl⟩
        simp only [Act.put, List.setIfInBounds_toArray, List.set_cons_zero, List.set_cons_succ, Nat.reduceAdd]
        apply Marks.Lex.exact [] _ (by kernel_rfl)
        · intro m u W hm hcl hJ _
          unfold Marks.one
          go_simp
          first | exact ⟨trivial, hJ.keep 15 _ (by omega), rfl⟩ | exact hJ.keep 15 _ (by omega) | exact ⟨hJ.keep 15 _ (by omega), rfl⟩
        simp only [Act.put, List.setIfInBounds_toArray, List.set_cons_zero, List.set_cons_succ, Nat.reduceAdd]
        apply Marks.Lex.exact [] _ (by kernel_rfl)
        · intro m u W hm hcl hJ _
          unfold Marks.one
          go_simp
          first | exact ⟨trivial, hJ.keep 16 _ (by omega), rfl⟩ | exact hJ.keep 16 _ (by omega) | exact ⟨hJ.keep 16 _ (by omega), rfl⟩
        simp only [Act.put, List.setIfInBounds_toArray, List.set_cons_zero, List.set_cons_succ, Nat.reduceAdd]
        apply Marks.Lex.exact [] _ (by kernel_rfl)
        · intro m u W hm hcl hJ _
          unfold Marks.one
          go_simp
          first | exact ⟨trivial, hJ.keep 17 _ (by omega), rfl⟩ | exact hJ.keep 17 _ (by omega) | exact ⟨hJ.keep 17 _ (by omega), rfl⟩
        simp only [Act.put, List.setIfInBounds_toArray, List.set_cons_zero, List.set_cons_succ, Nat.reduceAdd]
        apply Marks.Lex.exact [] (.int .i64 x.n) (by kernel_rfl)
        · intro m u W hm hcl hJ _
          have hgw := grew_kept HG.out hJ.kept HA.out
          have c1 : W.cell? ⟨(ad.add (i * 3)).block, (ad.add (i * 3)).off + 1, none⟩ = some (.int .i64 x.n) := cellB hgw HC1.out
          have c2 : W.cell? ⟨(ad.add (i * 3)).block, (ad.add (i * 3)).off + 2, none⟩ = some vB := cellB hgw HC2.out
          unfold Marks.one
          go_simp
          first | exact ⟨trivial, hJ.keep 18 _ (by omega), rfl⟩ | exact hJ.keep 18 _ (by omega) | exact ⟨hJ.keep 18 _ (by omega), rfl⟩
        simp only [Act.put, List.setIfInBounds_toArray, List.set_cons_zero, List.set_cons_succ, Nat.reduceAdd]
        apply Marks.Lex.exact [] _ (by kernel_rfl)
        · intro m u W hm hcl hJ _
          unfold Marks.one
          go_simp
          first | exact ⟨trivial, hJ.keep 19 _ (by omega), rfl⟩ | exact hJ.keep 19 _ (by omega) | exact ⟨hJ.keep 19 _ (by omega), rfl⟩
        simp only [Act.put, List.setIfInBounds_toArray, List.set_cons_zero, List.set_cons_succ, Nat.reduceAdd]
        apply Marks.Lex.exact [] _ (by kernel_rfl)
        · intro m u W hm hcl hJ _
          unfold Marks.one
          go_simp
          first | exact ⟨trivial, hJ.keep 20 _ (by omega), rfl⟩ | exact hJ.keep 20 _ (by omega) | exact ⟨hJ.keep 20 _ (by omega), rfl⟩
        simp only [Act.put, List.setIfInBounds_toArray, List.set_cons_zero, List.set_cons_succ, Nat.reduceAdd]
        apply Marks.Lex.exact [] _ (by kernel_rfl)
        · intro m u W hm hcl hJ _
          unfold Marks.one
          go_simp
          first | exact ⟨trivial, hJ.keep 21 _ (by omega), rfl⟩ | exact hJ.keep 21 _ (by omega) | exact ⟨hJ.keep 21 _ (by omega), rfl⟩
        simp only [Act.put, List.setIfInBounds_toArray, List.set_cons_zero, List.set_cons_succ, Nat.reduceAdd]
        refine Marks.Lex.done fun m u W3 hm hJ _ => ?_
        have HKP := hJ.kept
        obtain ⟨D3, hd3, hs3⟩ := hJ.aft (hm 11 (by omega))
        have HDD := Lib.hid hd3
        have HGG := Lib.hid (grew_kept HG.out HKP HA.out)
        have HAA := Lib.hid (above_sub HA.out hs3 HG.out.size)
        clear hJ hm HKP hd3 hs3
        have HST := Lib.hid (HK9.out)
        go_wp2
        go_roundg q0
        case measure => omega
        case rel => exact ⟨i + 1, many, last, _, D3, by omega, by omega, by first | rfl | simp, by first | rfl | simp | (simp; omega), HST, HRL, HDD, HGG, HAA⟩
      · rw [hne] at hq hks HC1
        have HRL2 : Hid (Rd (fun b => b < w.heap.size) w vB (if many + 1 = 0 then [] else x.b)) := Lib.hid (by rw [if_neg (by omega)]; exact HRB.out)
        have HK9 := Lib.hid hks
        have HQ9 := Lib.hid hq
        clear hne hks hq hxl hxn
        go_wp2
        refine Marks.wp_region_text (JW wr g D d (noted d (a : Int).toNat x.b)) (fun _ _ => True) (by kernel_rfl) (by kernel_rfl) (JW.start wr) ?_
        apply Marks.Lex.exact [] _ (by kernel_rfl)
        · intro m u W hm hcl hJ _
          unfold Marks.one
          go_simp
          first | exact ⟨trivial, hJ.keep 0 _ (by omega), rfl⟩ | exact hJ.keep 0 _ (by omega) | exact ⟨hJ.keep 0 _ (by omega), rfl⟩
        simp only [Act.put, List.setIfInBounds_toArray, List.set_cons_zero, List.set_cons_succ, Nat.zero_add]
        apply Marks.Lex.exact [] _ (by kernel_rfl)
        · intro m u W hm hcl hJ _
          unfold Marks.one
          go_simp
          first | exact ⟨trivial, hJ.keep 1 _ (by omega), rfl⟩ | exact hJ.keep 1 _ (by omega) | exact ⟨hJ.keep 1 _ (by omega), rfl⟩
        simp only [Act.put, List.setIfInBounds_toArray, List.set_cons_zero, List.set_cons_succ, Nat.reduceAdd]
        apply Marks.Lex.exact [] _ (by kernel_rfl)
        · intro m u W hm hcl hJ _
          unfold Marks.one
          go_simp
          first | exact ⟨trivial, hJ.keep 2 _ (by omega), rfl⟩ | exact hJ.keep 2 _ (by omega) | exact ⟨hJ.keep 2 _ (by omega), rfl⟩
        simp only [Act.put, List.setIfInBounds_toArray, List.set_cons_zero, List.set_cons_succ, Nat.reduceAdd]
        apply Marks.Lex.exact [] _ (by kernel_rfl)
        · intro m u W hm hcl hJ _
          unfold Marks.one
          go_simp
          first | exact ⟨trivial, hJ.keep 3 _ (by omega), rfl⟩ | exact hJ.keep 3 _ (by omega) | exact ⟨hJ.keep 3 _ (by omega), rfl⟩
        simp only [Act.put, List.setIfInBounds_toArray, List.set_cons_zero, List.set_cons_succ, Nat.reduceAdd]
        apply Marks.Lex.exact [] _ (by kernel_rfl)
        · intro m u W hm hcl hJ _
          unfold Marks.one
          go_simp
          first | exact ⟨trivial, hJ.keep 4 _ (by omega), rfl⟩ | exact hJ.keep 4 _ (by omega) | exact ⟨hJ.keep 4 _ (by omega), rfl⟩
        simp only [Act.put, List.setIfInBounds_toArray, List.set_cons_zero, List.set_cons_succ, Nat.reduceAdd]
        apply Marks.Lex.exact [] (.int .i64 (a : Int)) (by kernel_rfl)
        · intro m u W hm hcl hJ _
          have hgw := grew_kept HG.out hJ.kept HA.out
          have c1 : W.cell? ⟨(ad.add (i * 3)).block, (ad.add (i * 3)).off + 1, none⟩ = some (.int .i64 (a : Int)) := cellB hgw HC1.out
          have c2 : W.cell? ⟨(ad.add (i * 3)).block, (ad.add (i * 3)).off + 2, none⟩ = some vB := cellB hgw HC2.out
          unfold Marks.one
          go_simp
          first | exact ⟨trivial, hJ.keep 5 _ (by omega), rfl⟩ | exact hJ.keep 5 _ (by omega) | exact ⟨hJ.keep 5 _ (by omega), rfl⟩
        simp only [Act.put, List.setIfInBounds_toArray, List.set_cons_zero, List.set_cons_succ, Nat.reduceAdd]
        apply Marks.Lex.exact [] _ (by kernel_rfl)
        · intro m u W hm hcl hJ _
          unfold Marks.one
          go_simp
          first | exact ⟨trivial, hJ.keep 6 _ (by omega), rfl⟩ | exact hJ.keep 6 _ (by omega) | exact ⟨hJ.keep 6 _ (by omega), rfl⟩
        simp only [Act.put, List.setIfInBounds_toArray, List.set_cons_zero, List.set_cons_succ, Nat.reduceAdd]
        apply Marks.Lex.exact [] _ (by kernel_rfl)
        · intro m u W hm hcl hJ _
          unfold Marks.one
          go_simp
          first | exact ⟨trivial, hJ.keep 7 _ (by omega), rfl⟩ | exact hJ.keep 7 _ (by omega) | exact ⟨hJ.keep 7 _ (by omega), rfl⟩
        simp only [Act.put, List.setIfInBounds_toArray, List.set_cons_zero, List.set_cons_succ, Nat.reduceAdd]
        apply Marks.Lex.exact [] _ (by kernel_rfl)
        · intro m u W hm hcl hJ _
          unfold Marks.one
          go_simp
          first | exact ⟨trivial, hJ.keep 8 _ (by omega), rfl⟩ | exact hJ.keep 8 _ (by omega) | exact ⟨hJ.keep 8 _ (by omega), rfl⟩
        simp only [Act.put, List.setIfInBounds_toArray, List.set_cons_zero, List.set_cons_succ, Nat.reduceAdd]
        apply Marks.Lex.exact [] _ (by kernel_rfl)
        · intro m u W hm hcl hJ _
          unfold Marks.one
          go_simp
          first | exact ⟨trivial, hJ.keep 9 _ (by omega), rfl⟩ | exact hJ.keep 9 _ (by omega) | exact ⟨hJ.keep 9 _ (by omega), rfl⟩
        simp only [Act.put, List.setIfInBounds_toArray, List.set_cons_zero, List.set_cons_succ, Nat.reduceAdd]
        apply Marks.Lex.exact [] vB (by kernel_rfl)
        · intro m u W hm hcl hJ _
          have hgw := grew_kept HG.out hJ.kept HA.out
          have c1 : W.cell? ⟨(ad.add (i * 3)).block, (ad.add (i * 3)).off + 1, none⟩ = some (.int .i64 (a : Int)) := cellB hgw HC1.out
          have c2 : W.cell? ⟨(ad.add (i * 3)).block, (ad.add (i * 3)).off + 2, none⟩ = some vB := cellB hgw HC2.out
          unfold Marks.one
          go_simp
          first | exact ⟨trivial, hJ.keep 10 _ (by omega), rfl⟩ | exact hJ.keep 10 _ (by omega) | exact ⟨hJ.keep 10 _ (by omega), rfl⟩
        simp only [Act.put, List.setIfInBounds_toArray, List.set_cons_zero, List.set_cons_succ, Nat.reduceAdd]
        apply Marks.Lex.exact [] (.int .i64 0) (by kernel_rfl)
        · intro m u W hm hcl hJ _
          unfold Marks.one
          go_simp
          have hb := hJ.bef hm
          refine (write_eq W g D d (a : Int) vB _ x.b (noted d (a : Int).toNat x.b) 0 (HD.out.grew hb) ((HRB.out.grew (HG.out.trans hb))) HW.out HQ9.out).mono ?_
          rintro e w' ⟨rfl, hx⟩
          exact ⟨_, rfl, trivial, hJ.put hm _ w' hx, rfl⟩
        simp only [Act.put, List.setIfInBounds_toArray, List.set_cons_zero, List.set_cons_succ, Nat.reduceAdd]
        apply Marks.Lex.exact [] _ (by kernel_rfl)
        · intro m u W hm hcl hJ _
          unfold Marks.one
          go_simp
          first | exact ⟨trivial, hJ.keep 12 _ (by omega), rfl⟩ | exact hJ.keep 12 _ (by omega) | exact ⟨hJ.keep 12 _ (by omega), rfl⟩
        simp only [Act.put, List.setIfInBounds_toArray, List.set_cons_zero, List.set_cons_succ, Nat.reduceAdd]
        apply Marks.Lex.exact [] _ (by kernel_rfl)
        · intro m u W hm hcl hJ _
          unfold Marks.one
          go_simp
          first | exact ⟨trivial, hJ.keep 13 _ (by omega), rfl⟩ | exact hJ.keep 13 _ (by omega) | exact ⟨hJ.keep 13 _ (by omega), rfl⟩
        simp only [Act.put, List.setIfInBounds_toArray, List.set_cons_zero, List.set_cons_succ, Nat.reduceAdd]
        apply Marks.Lex.exact [] _ (by kernel_rfl)
        · intro m u W hm hcl hJ _
          unfold Marks.one
          go_simp
          first | exact ⟨trivial, hJ.keep 14 _ (by omega), rfl⟩ | exact hJ.keep 14 _ (by omega) | exact ⟨hJ.keep 14 _ (by omega), rfl⟩
        simp only [Act.put, List.setIfInBounds_toArray, List.set_cons_zero, List.set_cons_succ, Nat.reduceAdd]
        apply Marks.Lex.exact [] _ (by kernel_rfl)
        · intro m u W hm hcl hJ _
          unfold Marks.one
          go_simp
          first | exact ⟨trivial, hJ.keep 15 _ (by omega), rfl⟩ | exact hJ.keep 15 _ (by omega) | exact ⟨hJ.keep 15 _ (by omega), rfl⟩
        simp only [Act.put, List.setIfInBounds_toArray, List.set_cons_zero, List.set_cons_succ, Nat.reduceAdd]
        apply Marks.Lex.exact [] _ (by kernel_rfl)
        · intro m u W hm hcl hJ _
          unfold Marks.one
          go_simp
          first | exact ⟨trivial, hJ.keep 16 _ (by omega), rfl⟩ | exact hJ.keep 16 _ (by omega) | exact ⟨hJ.keep 16 _ (by omega), rfl⟩
        simp only [Act.put, List.setIfInBounds_toArray, List.set_cons_zero, List.set_cons_succ, Nat.reduceAdd]
        apply Marks.Lex.exact [] _ (by kernel_rfl)
        · intro m u W hm hcl hJ _
          unfold Marks.one
          go_simp
          first | exact ⟨trivial, hJ.keep 17 _ (by omega), rfl⟩ | exact hJ.keep 17 _ (by omega) | exact ⟨hJ.keep 17 _ (by omega), rfl⟩
        simp only [Act.put, List.setIfInBounds_toArray, List.set_cons_zero, List.set_cons_succ, Nat.reduceAdd]
        apply Marks.Lex.exact [] (.int .i64 (a : Int)) (by kernel_rfl)
        · intro m u W hm hcl hJ _
          have hgw := grew_kept HG.out hJ.kept HA.out
          have c1 : W.cell? ⟨(ad.add (i * 3)).block, (ad.add (i * 3)).off + 1, none⟩ = some (.int .i64 (a : Int)) := cellB hgw HC1.out
          have c2 : W.cell? ⟨(ad.add (i * 3)).block, (ad.add (i * 3)).off + 2, none⟩ = some vB := cellB hgw HC2.out
          unfold Marks.one
          go_simp
          first | exact ⟨trivial, hJ.keep 18 _ (by omega), rfl⟩ | exact hJ.keep 18 _ (by omega) | exact ⟨hJ.keep 18 _ (by omega), rfl⟩
        simp only [Act.put, List.setIfInBounds_toArray, List.set_cons_zero, List.set_cons_succ, Nat.reduceAdd]
        apply Marks.Lex.exact [] _ (by kernel_rfl)
        · intro m u W hm hcl hJ _
          unfold Marks.one
          go_simp
          first | exact ⟨trivial, hJ.keep 19 _ (by omega), rfl⟩ | exact hJ.keep 19 _ (by omega) | exact ⟨hJ.keep 19 _ (by omega), rfl⟩
        simp only [Act.put, List.setIfInBounds_toArray, List.set_cons_zero, List.set_cons_succ, Nat.reduceAdd]
        apply Marks.Lex.exact [] _ (by kernel_rfl)
        · intro m u W hm hcl hJ _
          unfold Marks.one
          go_simp
          first | exact ⟨trivial, hJ.keep 20 _ (by omega), rfl⟩ | exact hJ.keep 20 _ (by omega) | exact ⟨hJ.keep 20 _ (by omega), rfl⟩
        simp only [Act.put, List.setIfInBounds_toArray, List.set_cons_zero, List.set_cons_succ, Nat.reduceAdd]
        apply Marks.Lex.exact [] _ (by kernel_rfl)
        · intro m u W hm hcl hJ _
          unfold Marks.one
          go_simp
          first | exact ⟨trivial, hJ.keep 21 _ (by omega), rfl⟩ | exact hJ.keep 21 _ (by omega) | exact ⟨hJ.keep 21 _ (by omega), rfl⟩
        simp only [Act.put, List.setIfInBounds_toArray, List.set_cons_zero, List.set_cons_succ, Nat.reduceAdd]
        refine Marks.Lex.done fun m u W3 hm hJ _ => ?_
        have HKP := hJ.kept
        obtain ⟨D3, hd3, hs3⟩ := hJ.aft (hm 11 (by omega))
        have HDD := Lib.hid hd3
        have HGG := Lib.hid (grew_kept HG.out HKP HA.out)
        have HAA := Lib.hid (above_sub HA.out hs3 HG.out.size)
        clear hJ hm HKP hd3 hs3
        have c2 : W3.cell? ⟨(ad.add (i * 3)).block, (ad.add (i * 3)).off + 2, none⟩ = some vB := cellB HGG.out HC2.out
        have HST := Lib.hid (HK9.out)
        go_wp2
        go_roundg q0
        case measure => omega
        case rel => exact ⟨i + 1, many + 1, x.b, _, D3, by omega, by omega, by first | rfl | simp, by first | rfl | simp | (simp; omega), HST, HRL2, HDD, HGG, HAA⟩
    · have hcr := crash_any wr g D d (fun b => b < w.heap.size) vC lC HD.out (HRC.out.grew HG.out) (fun b hb hd => by have := HA.out b hd; omega) (Nat.le_trans HW.out (by omega))
      unfold dptr at hcr
      rcases Nat.lt_or_ge i L.length with hlt | hge
      · have hx1 : (i : Int) < (L.length : Int) := by omega
        have hx2 : ¬ (i : Int) < 40 := by omega
        clear hc
        go_wp2_with fail
        refine hcr.mono ?_
        rintro e x1 ⟨rfl, hd1, hk1⟩
        have HD1 := Lib.hid hd1
        have HG1 := Lib.hid (grew_kept HG.out hk1 HA.out)
        clear hcr hd1 hk1 HD HG HW
        obtain ⟨b, k, hro, hbl, hpure⟩ := HKS.out.crash lC (last_even HD1.out)
        have HRO := Lib.hid hro
        have HBL := Lib.hid hbl
        have HPU := Lib.hid hpure
        clear hro hbl hpure
        go_wp2_with fail
        refine (read_eq x1 g D _ a b 0 HD1.out HRO.out).mono ?_
        rintro e x2 ⟨v2, rfl, r2, g2⟩
        obtain ⟨ad2, c2, rfl, hb1, hb2, hb3⟩ := DAlive.shape r2 128 HBL.out (by decide)
        have HG0 := Lib.hid (HG1.out.trans g2)
        have HR2 := Lib.hid r2
        have HC2 := Lib.hid hb3
        clear g2 r2 hb3 HG1 HD1 HRO
        by_cases hm : 1 < many
        · have hm' : (1 : Int) < (many : Int) := by omega
          go_wp2_with fail
          refine (alive_any x2).mono ?_
          rintro e x3 ⟨rfl, g3⟩
          have HG3 := Lib.hid (HG0.out.trans g3)
          clear g3
          go_wp2
          go_returns
          exact ⟨rfl, HG3.out⟩
        · have hm' : ¬ (1 : Int) < (many : Int) := by omega
          obtain ⟨hk16, hk0, hge2, hlt2⟩ := HPU.out (by omega)
          have HGE := Lib.hid hge2
          have HLT := Lib.hid hlt2
          clear hge2 hlt2 HPU
          go_wp2
          go_loopg [17] 16 (fun q s17 wx => ∃ t : Nat, t + q = 16 ∧ s17 = .int .i64 (8 * (t : Int)) ∧ Hid (Grew x2 wx))
          case atStart => exact ⟨0, by omega, by first | rfl | simp, Lib.hid (Grew.refl _)⟩
          case round =>
            obtain ⟨t, htq, rfl, HGW⟩ := hrel
            cases gk with
            | succ q =>
              have ht1 : 8 * (t : Int) < 128 := by omega
              by_cases hm1 : many = 1
              · subst hm1
                obtain ⟨hll, _⟩ := HKS.out.mine (by omega)
                have HLL := Lib.hid hll
                obtain ⟨adL, cL, rfl, hl1, hl2, _⟩ := DAlive.shape HRL.out 128 (by rw [if_neg (by omega)]; exact hll) (by decide)
                replace HRL : Hid (Rd (fun b => b < w.heap.size) w (.slice (some adL) 128 cL) last) := Lib.hid (by have h := HRL.out; rwa [if_neg (by omega)] at h)
                clear hll
                have hwr : IntKind.i64.wrap (8 * (t : Int) + 8) = 8 * (t : Int) + 8 := wrap8 t (by omega)
                by_cases he : (b.drop (8 * t)).take 8 = (last.drop (8 * t)).take 8
                · have hee : ((b.drop (8 * t)).take 8 == (last.drop (8 * t)).take 8) = true := by simpa using he
                  clear he
                  go_wp2
                  refine Facts.wp_region_text (by kernel_rfl) (by kernel_rfl) ?_
                  apply Facts.Lex.exact [] _ (by kernel_rfl)
                  · intro u W hC _
                    unfold Facts.one
                    go_simp
                    all_goals first | exact ⟨Grew.refl _, rfl⟩ | exact Grew.refl _ | rfl
                  simp only [Act.put, List.setIfInBounds_toArray, List.set_cons_zero, List.set_cons_succ, Nat.zero_add]
                  apply Facts.Lex.exact [] _ (by kernel_rfl)
                  · intro u W hC _
                    unfold Facts.one
                    go_simp
                    all_goals first | exact ⟨Grew.refl _, rfl⟩ | exact Grew.refl _ | rfl
                  simp only [Act.put, List.setIfInBounds_toArray, List.set_cons_zero, List.set_cons_succ, Nat.reduceAdd]
                  apply Facts.Lex.exact [] _ (by kernel_rfl)
                  · intro u W hC _
                    unfold Facts.one
                    go_simp
                    all_goals first | exact ⟨Grew.refl _, rfl⟩ | exact Grew.refl _ | rfl
                  simp only [Act.put, List.setIfInBounds_toArray, List.set_cons_zero, List.set_cons_succ, Nat.reduceAdd]
                  apply Facts.Lex.exact [] _ (by kernel_rfl)
                  · intro u W hC _
                    unfold Facts.one
                    go_simp
                    all_goals first | exact ⟨Grew.refl _, rfl⟩ | exact Grew.refl _ | rfl
                  simp only [Act.put, List.setIfInBounds_toArray, List.set_cons_zero, List.set_cons_succ, Nat.reduceAdd]
                  apply Facts.Lex.exact [] _ (by kernel_rfl)
                  · intro u W hC _
                    unfold Facts.one
                    go_simp
                    all_goals first | exact ⟨Grew.refl _, rfl⟩ | exact Grew.refl _ | rfl
                  simp only [Act.put, List.setIfInBounds_toArray, List.set_cons_zero, List.set_cons_succ, Nat.reduceAdd]
                  apply Facts.Lex.exact [] _ (by kernel_rfl)
                  · intro u W hC _
                    unfold Facts.one
                    go_simp
                    all_goals first | exact ⟨Grew.refl _, rfl⟩ | exact Grew.refl _ | rfl
                  simp only [Act.put, List.setIfInBounds_toArray, List.set_cons_zero, List.set_cons_succ, Nat.reduceAdd]
                  apply Facts.Lex.exact [] _ (by kernel_rfl)
                  · intro u W hC _
                    unfold Facts.one
                    go_simp
                    all_goals first | exact ⟨Grew.refl _, rfl⟩ | exact Grew.refl _ | rfl
                  simp only [Act.put, List.setIfInBounds_toArray, List.set_cons_zero, List.set_cons_succ, Nat.reduceAdd]
                  apply Facts.Lex.exact [] _ (by kernel_rfl)
                  · intro u W hC _
                    unfold Facts.one
                    go_simp
                    all_goals first | exact ⟨Grew.refl _, rfl⟩ | exact Grew.refl _ | rfl
                  simp only [Act.put, List.setIfInBounds_toArray, List.set_cons_zero, List.set_cons_succ, Nat.reduceAdd]
                  apply Facts.Lex.exact [] _ (by kernel_rfl)
                  · intro u W hC _
                    unfold Facts.one
                    go_simp
                    all_goals first | exact ⟨Grew.refl _, rfl⟩ | exact Grew.refl _ | rfl
                  simp only [Act.put, List.setIfInBounds_toArray, List.set_cons_zero, List.set_cons_succ, Nat.reduceAdd]
                  apply Facts.Lex.exact [] _ (by kernel_rfl)
                  · intro u W hC _
                    unfold Facts.one
                    go_simp
                    all_goals first | exact ⟨Grew.refl _, rfl⟩ | exact Grew.refl _ | rfl
                  simp only [Act.put, List.setIfInBounds_toArray, List.set_cons_zero, List.set_cons_succ, Nat.reduceAdd]
                  apply Facts.Lex.exact [] (.int .i64 (8 * (t : Int) + 8)) (by kernel_rfl)
                  · intro u W hC _
                    unfold Facts.one
                    go_simp
                    first | (rw [hwr]; exact ⟨Grew.refl _, rfl⟩) | exact ⟨Grew.refl _, by rw [hwr]⟩ | exact ⟨Grew.refl _, rfl⟩
                  simp only [Act.put, List.setIfInBounds_toArray, List.set_cons_zero, List.set_cons_succ, Nat.reduceAdd]
                  apply Facts.Lex.exact [] (.slice (some (ad2.add (8 * t))) 8 (c2 - 8 * t)) (by kernel_rfl)
                  · intro u W hC _
                    unfold Facts.one
                    go_simp
                    rw [if_pos ⟨by omega, by omega⟩, if_pos ⟨by omega, by omega⟩, if_neg (by omega), show (8 * (t : Int)).toNat = 8 * t by omega, show (8 * (t : Int) + 8).toNat - 8 * t = 8 by omega]
                    exact ⟨Grew.refl _, rfl⟩
                  simp only [Act.put, List.setIfInBounds_toArray, List.set_cons_zero, List.set_cons_succ, Nat.reduceAdd]
                  apply Facts.Lex.exact [] _ (by kernel_rfl)
                  · intro u W hC _
                    have s1 := conv34 (sub_rd (HR2.out.grew ((HGW.out.trans hC))) HBL.out (8 * t) 8 (c2 - 8 * t) (by omega) (by omega) (by omega))
                    unfold Facts.one
                    go_simp
                    all_goals first | exact ⟨Grew.refl _, rfl⟩ | exact Grew.refl _ | rfl
                  simp only [Act.put, List.setIfInBounds_toArray, List.set_cons_zero, List.set_cons_succ, Nat.reduceAdd]
                  apply Facts.Lex.exact [] _ (by kernel_rfl)
                  · intro u W hC _
                    unfold Facts.one
                    go_simp
                    all_goals first | exact ⟨Grew.refl _, rfl⟩ | exact Grew.refl _ | rfl
                  simp only [Act.put, List.setIfInBounds_toArray, List.set_cons_zero, List.set_cons_succ, Nat.reduceAdd]
                  apply Facts.Lex.exact [] _ (by kernel_rfl)
                  · intro u W hC _
                    unfold Facts.one
                    go_simp
                    all_goals first | exact ⟨Grew.refl _, rfl⟩ | exact Grew.refl _ | rfl
                  simp only [Act.put, List.setIfInBounds_toArray, List.set_cons_zero, List.set_cons_succ, Nat.reduceAdd]
                  apply Facts.Lex.exact [] _ (by kernel_rfl)
                  · intro u W hC _
                    unfold Facts.one
                    go_simp
                    all_goals first | exact ⟨Grew.refl _, rfl⟩ | exact Grew.refl _ | rfl
                  simp only [Act.put, List.setIfInBounds_toArray, List.set_cons_zero, List.set_cons_succ, Nat.reduceAdd]
                  apply Facts.Lex.exact [] (.int .i64 (8 * (t : Int) + 8)) (by kernel_rfl)
                  · intro u W hC _
                    unfold Facts.one
                    go_simp
                    first | (rw [hwr]; exact ⟨Grew.refl _, rfl⟩) | exact ⟨Grew.refl _, by rw [hwr]⟩ | exact ⟨Grew.refl _, rfl⟩
                  simp only [Act.put, List.setIfInBounds_toArray, List.set_cons_zero, List.set_cons_succ, Nat.reduceAdd]
                  apply Facts.Lex.exact [] (.slice (some (adL.add (8 * t))) 8 (cL - 8 * t)) (by kernel_rfl)
                  · intro u W hC _
                    unfold Facts.one
                    go_simp
                    rw [if_pos ⟨by omega, by omega⟩, if_pos ⟨by omega, by omega⟩, if_neg (by omega), show (8 * (t : Int)).toNat = 8 * t by omega, show (8 * (t : Int) + 8).toNat - 8 * t = 8 by omega]
                    exact ⟨Grew.refl _, rfl⟩
                  simp only [Act.put, List.setIfInBounds_toArray, List.set_cons_zero, List.set_cons_succ, Nat.reduceAdd]
                  apply Facts.Lex.exact [] _ (by kernel_rfl)
                  · intro u W hC _
                    have s1 := conv34 (sub_rd (HRL.out.grew (HG0.out.trans (HGW.out.trans hC))) HLL.out (8 * t) 8 (cL - 8 * t) (by omega) (by omega) (by omega))
                    unfold Facts.one
                    go_simp
                    all_goals first | exact ⟨Grew.refl _, rfl⟩ | exact Grew.refl _ | rfl
                  simp only [Act.put, List.setIfInBounds_toArray, List.set_cons_zero, List.set_cons_succ, Nat.reduceAdd]
                  apply Facts.Lex.exact [] _ (by kernel_rfl)
                  · intro u W hC _
                    unfold Facts.one
                    go_simp
                    all_goals first | exact ⟨Grew.refl _, rfl⟩ | exact Grew.refl _ | rfl
                  simp only [Act.put, List.setIfInBounds_toArray, List.set_cons_zero, List.set_cons_succ, Nat.reduceAdd]
                  apply Facts.Lex.exact [] _ (by kernel_rfl)
                  · intro u W hC _
                    unfold Facts.one
                    go_simp
                    all_goals first | exact ⟨Grew.refl _, rfl⟩ | exact Grew.refl _ | rfl
                  simp only [Act.put, List.setIfInBounds_toArray, List.set_cons_zero, List.set_cons_succ, Nat.reduceAdd]
                  refine Facts.Lex.done fun u W3 hC hL => ?_
                  have HGW3 := Lib.hid (HGW.out.trans hC)
                  clear hL hC
                  go_wp2
                  go_roundg q
                  case measure => omega
                  case rel => exact ⟨t + 1, by omega, by first | rfl | simp | (simp; omega), HGW3⟩
                · have hne := lists_ne he
                  have hkt : k ≤ t := by
                    rcases Nat.lt_or_ge t k with h | h
                    · exact absurd (wins HLT.out h) he
                    · exact h
                  have HPUR : Hid (∀ j, 8 * t ≤ j → j < 128 → b[j]?.getD 0 = c) := Lib.hid fun j h1 h2 => HGE.out j (by omega) h2
                  clear he
                  go_wp2
                  refine Facts.wp_region_text (by kernel_rfl) (by kernel_rfl) ?_
                  apply Facts.Lex.exact [] _ (by kernel_rfl)
                  · intro u W hC _
                    unfold Facts.one
                    go_simp
                    all_goals first | exact ⟨Grew.refl _, rfl⟩ | exact Grew.refl _ | rfl
                  simp only [Act.put, List.setIfInBounds_toArray, List.set_cons_zero, List.set_cons_succ, Nat.zero_add]
                  apply Facts.Lex.exact [] _ (by kernel_rfl)
                  · intro u W hC _
                    unfold Facts.one
                    go_simp
                    all_goals first | exact ⟨Grew.refl _, rfl⟩ | exact Grew.refl _ | rfl
                  simp only [Act.put, List.setIfInBounds_toArray, List.set_cons_zero, List.set_cons_succ, Nat.reduceAdd]
                  apply Facts.Lex.exact [] _ (by kernel_rfl)
                  · intro u W hC _
                    unfold Facts.one
                    go_simp
                    all_goals first | exact ⟨Grew.refl _, rfl⟩ | exact Grew.refl _ | rfl
                  simp only [Act.put, List.setIfInBounds_toArray, List.set_cons_zero, List.set_cons_succ, Nat.reduceAdd]
                  apply Facts.Lex.exact [] _ (by kernel_rfl)
                  · intro u W hC _
                    unfold Facts.one
                    go_simp
                    all_goals first | exact ⟨Grew.refl _, rfl⟩ | exact Grew.refl _ | rfl
                  simp only [Act.put, List.setIfInBounds_toArray, List.set_cons_zero, List.set_cons_succ, Nat.reduceAdd]
                  apply Facts.Lex.exact [] _ (by kernel_rfl)
                  · intro u W hC _
                    unfold Facts.one
                    go_simp
                    all_goals first | exact ⟨Grew.refl _, rfl⟩ | exact Grew.refl _ | rfl
                  simp only [Act.put, List.setIfInBounds_toArray, List.set_cons_zero, List.set_cons_succ, Nat.reduceAdd]
                  apply Facts.Lex.exact [] _ (by kernel_rfl)
                  · intro u W hC _
                    unfold Facts.one
                    go_simp
                    all_goals first | exact ⟨Grew.refl _, rfl⟩ | exact Grew.refl _ | rfl
                  simp only [Act.put, List.setIfInBounds_toArray, List.set_cons_zero, List.set_cons_succ, Nat.reduceAdd]
                  apply Facts.Lex.exact [] _ (by kernel_rfl)
                  · intro u W hC _
                    unfold Facts.one
                    go_simp
                    all_goals first | exact ⟨Grew.refl _, rfl⟩ | exact Grew.refl _ | rfl
                  simp only [Act.put, List.setIfInBounds_toArray, List.set_cons_zero, List.set_cons_succ, Nat.reduceAdd]
                  apply Facts.Lex.exact [] _ (by kernel_rfl)
                  · intro u W hC _
                    unfold Facts.one
                    go_simp
                    all_goals first | exact ⟨Grew.refl _, rfl⟩ | exact Grew.refl _ | rfl
                  simp only [Act.put, List.setIfInBounds_toArray, List.set_cons_zero, List.set_cons_succ, Nat.reduceAdd]
                  apply Facts.Lex.exact [] _ (by kernel_rfl)
                  · intro u W hC _
                    unfold Facts.one
                    go_simp
                    all_goals first | exact ⟨Grew.refl _, rfl⟩ | exact Grew.refl _ | rfl
                  simp only [Act.put, List.setIfInBounds_toArray, List.set_cons_zero, List.set_cons_succ, Nat.reduceAdd]
                  apply Facts.Lex.exact [] _ (by kernel_rfl)
                  · intro u W hC _
                    unfold Facts.one
                    go_simp
                    all_goals first | exact ⟨Grew.refl _, rfl⟩ | exact Grew.refl _ | rfl
                  simp only [Act.put, List.setIfInBounds_toArray, List.set_cons_zero, List.set_cons_succ, Nat.reduceAdd]
                  apply Facts.Lex.exact [] (.int .i64 (8 * (t : Int) + 8)) (by kernel_rfl)
                  · intro u W hC _
                    unfold Facts.one
                    go_simp
                    first | (rw [hwr]; exact ⟨Grew.refl _, rfl⟩) | exact ⟨Grew.refl _, by rw [hwr]⟩ | exact ⟨Grew.refl _, rfl⟩
                  simp only [Act.put, List.setIfInBounds_toArray, List.set_cons_zero, List.set_cons_succ, Nat.reduceAdd]
                  apply Facts.Lex.exact [] (.slice (some (ad2.add (8 * t))) 8 (c2 - 8 * t)) (by kernel_rfl)
                  · intro u W hC _
                    unfold Facts.one
                    go_simp
                    rw [if_pos ⟨by omega, by omega⟩, if_pos ⟨by omega, by omega⟩, if_neg (by omega), show (8 * (t : Int)).toNat = 8 * t by omega, show (8 * (t : Int) + 8).toNat - 8 * t = 8 by omega]
                    exact ⟨Grew.refl _, rfl⟩
                  simp only [Act.put, List.setIfInBounds_toArray, List.set_cons_zero, List.set_cons_succ, Nat.reduceAdd]
                  apply Facts.Lex.exact [] _ (by kernel_rfl)
                  · intro u W hC _
                    have s1 := conv34 (sub_rd (HR2.out.grew ((HGW.out.trans hC))) HBL.out (8 * t) 8 (c2 - 8 * t) (by omega) (by omega) (by omega))
                    unfold Facts.one
                    go_simp
                    all_goals first | exact ⟨Grew.refl _, rfl⟩ | exact Grew.refl _ | rfl
                  simp only [Act.put, List.setIfInBounds_toArray, List.set_cons_zero, List.set_cons_succ, Nat.reduceAdd]
                  apply Facts.Lex.exact [] _ (by kernel_rfl)
                  · intro u W hC _
                    unfold Facts.one
                    go_simp
                    all_goals first | exact ⟨Grew.refl _, rfl⟩ | exact Grew.refl _ | rfl
                  simp only [Act.put, List.setIfInBounds_toArray, List.set_cons_zero, List.set_cons_succ, Nat.reduceAdd]
                  apply Facts.Lex.exact [] _ (by kernel_rfl)
                  · intro u W hC _
                    unfold Facts.one
                    go_simp
                    all_goals first | exact ⟨Grew.refl _, rfl⟩ | exact Grew.refl _ | rfl
                  simp only [Act.put, List.setIfInBounds_toArray, List.set_cons_zero, List.set_cons_succ, Nat.reduceAdd]
                  apply Facts.Lex.exact [] _ (by kernel_rfl)
                  · intro u W hC _
                    unfold Facts.one
                    go_simp
                    all_goals first | exact ⟨Grew.refl _, rfl⟩ | exact Grew.refl _ | rfl
                  simp only [Act.put, List.setIfInBounds_toArray, List.set_cons_zero, List.set_cons_succ, Nat.reduceAdd]
                  apply Facts.Lex.exact [] (.int .i64 (8 * (t : Int) + 8)) (by kernel_rfl)
                  · intro u W hC _
                    unfold Facts.one
                    go_simp
                    first | (rw [hwr]; exact ⟨Grew.refl _, rfl⟩) | exact ⟨Grew.refl _, by rw [hwr]⟩ | exact ⟨Grew.refl _, rfl⟩
                  simp only [Act.put, List.setIfInBounds_toArray, List.set_cons_zero, List.set_cons_succ, Nat.reduceAdd]
                  apply Facts.Lex.exact [] (.slice (some (adL.add (8 * t))) 8 (cL - 8 * t)) (by kernel_rfl)
                  · intro u W hC _
                    unfold Facts.one
                    go_simp
                    rw [if_pos ⟨by omega, by omega⟩, if_pos ⟨by omega, by omega⟩, if_neg (by omega), show (8 * (t : Int)).toNat = 8 * t by omega, show (8 * (t : Int) + 8).toNat - 8 * t = 8 by omega]
                    exact ⟨Grew.refl _, rfl⟩
                  simp only [Act.put, List.setIfInBounds_toArray, List.set_cons_zero, List.set_cons_succ, Nat.reduceAdd]
                  apply Facts.Lex.exact [] _ (by kernel_rfl)
                  · intro u W hC _
                    have s1 := conv34 (sub_rd (HRL.out.grew (HG0.out.trans (HGW.out.trans hC))) HLL.out (8 * t) 8 (cL - 8 * t) (by omega) (by omega) (by omega))
                    unfold Facts.one
                    go_simp
                    all_goals first | exact ⟨Grew.refl _, rfl⟩ | exact Grew.refl _ | rfl
                  simp only [Act.put, List.setIfInBounds_toArray, List.set_cons_zero, List.set_cons_succ, Nat.reduceAdd]
                  apply Facts.Lex.exact [] _ (by kernel_rfl)
                  · intro u W hC _
                    unfold Facts.one
                    go_simp
                    all_goals first | exact ⟨Grew.refl _, rfl⟩ | exact Grew.refl _ | rfl
                  simp only [Act.put, List.setIfInBounds_toArray, List.set_cons_zero, List.set_cons_succ, Nat.reduceAdd]
                  apply Facts.Lex.exact [] _ (by kernel_rfl)
                  · intro u W hC _
                    unfold Facts.one
                    go_simp
                    all_goals first | exact ⟨Grew.refl _, rfl⟩ | exact Grew.refl _ | rfl
                  simp only [Act.put, List.setIfInBounds_toArray, List.set_cons_zero, List.set_cons_succ, Nat.reduceAdd]
                  refine Facts.Lex.done fun u W3 hC hL => ?_
                  have HGW3 := Lib.hid (HGW.out.trans hC)
                  clear hL hC
                  go_wp2
                  have HCELL : Hid (∀ j, j < 128 → ∀ b', b[j]?.getD 0 = b' → W3.cell? (ad2.add j) = some (.int .u8 (b'.toNat : Int))) := Lib.hid fun j hj b' hb' => cellB HGW3.out (HC2.out j hj b' hb')
                  go_loopg [18] (128 - 8 * t) (fun q s18 wx => ∃ j : Nat, j + q = 128 ∧ 8 * t ≤ j ∧ s18 = .int .i64 j ∧ W3 = wx)
                  case atStart => exact ⟨8 * t, by omega, Nat.le_refl _, by first | rfl | simp, rfl⟩
                  case round =>
                    obtain ⟨j, hjq, hjt, rfl, rfl⟩ := hrel
                    cases gk with
                    | succ q =>
                      have hj : (j : Int) < 128 := by omega
                      have hj2 : j < 128 := by omega
                      have hcell := HCELL.out j hj2 c (HPUR.out j (by omega) hj2)
                      go_wp2
                      go_roundg q
                      case measure => omega
                      case rel => exact ⟨j + 1, by omega, by omega, by first | rfl | simp | (simp; omega), rfl⟩
                    | zero =>
                      have hj : ¬ (j : Int) < 128 := by omega
                      go_wp2_with fail
                      refine (alive_any W3).mono ?_
                      rintro e W4 ⟨rfl, g4⟩
                      have HG5 := Lib.hid (HG0.out.trans (HGW3.out.trans g4))
                      clear g4
                      go_wp2
                      go_returns
                      exact ⟨rfl, HG5.out⟩
              · have hm0 : many = 0 := by omega
                subst hm0
                have hkt : k ≤ t := by have := hk0 rfl; omega
                have HPUR : Hid (∀ j, 8 * t ≤ j → j < 128 → b[j]?.getD 0 = c) := Lib.hid fun j h1 h2 => HGE.out j (by omega) h2
                go_wp2
                refine Facts.wp_region_text (by kernel_rfl) (by kernel_rfl) ?_
                apply Facts.Lex.exact [] _ (by kernel_rfl)
                · intro u W hC _
                  unfold Facts.one
                  go_simp
                  all_goals first | exact ⟨Grew.refl _, rfl⟩ | exact Grew.refl _ | rfl
                simp only [Act.put, List.setIfInBounds_toArray, List.set_cons_zero, List.set_cons_succ, Nat.zero_add]
                apply Facts.Lex.exact [] _ (by kernel_rfl)
                · intro u W hC _
                  unfold Facts.one
                  go_simp
                  all_goals first | exact ⟨Grew.refl _, rfl⟩ | exact Grew.refl _ | rfl
                simp only [Act.put, List.setIfInBounds_toArray, List.set_cons_zero, List.set_cons_succ, Nat.reduceAdd]
                apply Facts.Lex.exact [] _ (by kernel_rfl)
                · intro u W hC _
                  unfold Facts.one
                  go_simp
                  all_goals first | exact ⟨Grew.refl _, rfl⟩ | exact Grew.refl _ | rfl
                simp only [Act.put, List.setIfInBounds_toArray, List.set_cons_zero, List.set_cons_succ, Nat.reduceAdd]
                apply Facts.Lex.exact [] _ (by kernel_rfl)
                · intro u W hC _
                  unfold Facts.one
                  go_simp
                  all_goals first | exact ⟨Grew.refl _, rfl⟩ | exact Grew.refl _ | rfl
                simp only [Act.put, List.setIfInBounds_toArray, List.set_cons_zero, List.set_cons_succ, Nat.reduceAdd]
                apply Facts.Lex.exact [] _ (by kernel_rfl)
                · intro u W hC _
                  unfold Facts.one
                  go_simp
                  all_goals first | exact ⟨Grew.refl _, rfl⟩ | exact Grew.refl _ | rfl
                simp only [Act.put, List.setIfInBounds_toArray, List.set_cons_zero, List.set_cons_succ, Nat.reduceAdd]
                apply Facts.Lex.exact [] _ (by kernel_rfl)
                · intro u W hC _
                  unfold Facts.one
                  go_simp
                  all_goals first | exact ⟨Grew.refl _, rfl⟩ | exact Grew.refl _ | rfl
                simp only [Act.put, List.setIfInBounds_toArray, List.set_cons_zero, List.set_cons_succ, Nat.reduceAdd]
                apply Facts.Lex.exact [] _ (by kernel_rfl)
                · intro u W hC _
                  unfold Facts.one
                  go_simp
                  all_goals first | exact ⟨Grew.refl _, rfl⟩ | exact Grew.refl _ | rfl
                simp only [Act.put, List.setIfInBounds_toArray, List.set_cons_zero, List.set_cons_succ, Nat.reduceAdd]
                apply Facts.Lex.exact [] undef (by kernel_rfl)
                · intro u W hC _
                  unfold Facts.one
                  go_simp
                  all_goals first | exact ⟨Grew.refl _, rfl⟩ | exact Grew.refl _ | rfl
                simp only [Act.put, List.setIfInBounds_toArray, List.set_cons_zero, List.set_cons_succ, Nat.reduceAdd]
                apply Facts.Lex.exact [] undef (by kernel_rfl)
                · intro u W hC _
                  unfold Facts.one
                  go_simp
                  all_goals first | exact ⟨Grew.refl _, rfl⟩ | exact Grew.refl _ | rfl
                simp only [Act.put, List.setIfInBounds_toArray, List.set_cons_zero, List.set_cons_succ, Nat.reduceAdd]
                apply Facts.Lex.exact [] undef (by kernel_rfl)
                · intro u W hC _
                  unfold Facts.one
                  go_simp
                  all_goals first | exact ⟨Grew.refl _, rfl⟩ | exact Grew.refl _ | rfl
                simp only [Act.put, List.setIfInBounds_toArray, List.set_cons_zero, List.set_cons_succ, Nat.reduceAdd]
                apply Facts.Lex.exact [] undef (by kernel_rfl)
                · intro u W hC _
                  unfold Facts.one
                  go_simp
                  all_goals first | exact ⟨Grew.refl _, rfl⟩ | exact Grew.refl _ | rfl
                simp only [Act.put, List.setIfInBounds_toArray, List.set_cons_zero, List.set_cons_succ, Nat.reduceAdd]
                apply Facts.Lex.exact [] undef (by kernel_rfl)
                · intro u W hC _
                  unfold Facts.one
                  go_simp
                  all_goals first | exact ⟨Grew.refl _, rfl⟩ | exact Grew.refl _ | rfl
                simp only [Act.put, List.setIfInBounds_toArray, List.set_cons_zero, List.set_cons_succ, Nat.reduceAdd]
                apply Facts.Lex.exact [] undef (by kernel_rfl)
                · intro u W hC _
                  unfold Facts.one
                  go_simp
                  all_goals first | exact ⟨Grew.refl _, rfl⟩ | exact Grew.refl _ | rfl
                simp only [Act.put, List.setIfInBounds_toArray, List.set_cons_zero, List.set_cons_succ, Nat.reduceAdd]
                apply Facts.Lex.exact [] undef (by kernel_rfl)
                · intro u W hC _
                  unfold Facts.one
                  go_simp
                  all_goals first | exact ⟨Grew.refl _, rfl⟩ | exact Grew.refl _ | rfl
                simp only [Act.put, List.setIfInBounds_toArray, List.set_cons_zero, List.set_cons_succ, Nat.reduceAdd]
                apply Facts.Lex.exact [] undef (by kernel_rfl)
                · intro u W hC _
                  unfold Facts.one
                  go_simp
                  all_goals first | exact ⟨Grew.refl _, rfl⟩ | exact Grew.refl _ | rfl
                simp only [Act.put, List.setIfInBounds_toArray, List.set_cons_zero, List.set_cons_succ, Nat.reduceAdd]
                apply Facts.Lex.exact [] undef (by kernel_rfl)
                · intro u W hC _
                  unfold Facts.one
                  go_simp
                  all_goals first | exact ⟨Grew.refl _, rfl⟩ | exact Grew.refl _ | rfl
                simp only [Act.put, List.setIfInBounds_toArray, List.set_cons_zero, List.set_cons_succ, Nat.reduceAdd]
                apply Facts.Lex.exact [] undef (by kernel_rfl)
                · intro u W hC _
                  unfold Facts.one
                  go_simp
                  all_goals first | exact ⟨Grew.refl _, rfl⟩ | exact Grew.refl _ | rfl
                simp only [Act.put, List.setIfInBounds_toArray, List.set_cons_zero, List.set_cons_succ, Nat.reduceAdd]
                apply Facts.Lex.exact [] undef (by kernel_rfl)
                · intro u W hC _
                  unfold Facts.one
                  go_simp
                  all_goals first | exact ⟨Grew.refl _, rfl⟩ | exact Grew.refl _ | rfl
                simp only [Act.put, List.setIfInBounds_toArray, List.set_cons_zero, List.set_cons_succ, Nat.reduceAdd]
                apply Facts.Lex.exact [] undef (by kernel_rfl)
                · intro u W hC _
                  unfold Facts.one
                  go_simp
                  all_goals first | exact ⟨Grew.refl _, rfl⟩ | exact Grew.refl _ | rfl
                simp only [Act.put, List.setIfInBounds_toArray, List.set_cons_zero, List.set_cons_succ, Nat.reduceAdd]
                apply Facts.Lex.exact [] undef (by kernel_rfl)
                · intro u W hC _
                  unfold Facts.one
                  go_simp
                  all_goals first | exact ⟨Grew.refl _, rfl⟩ | exact Grew.refl _ | rfl
                simp only [Act.put, List.setIfInBounds_toArray, List.set_cons_zero, List.set_cons_succ, Nat.reduceAdd]
                apply Facts.Lex.exact [] _ (by kernel_rfl)
                · intro u W hC _
                  unfold Facts.one
                  go_simp
                  all_goals first | exact ⟨Grew.refl _, rfl⟩ | exact Grew.refl _ | rfl
                simp only [Act.put, List.setIfInBounds_toArray, List.set_cons_zero, List.set_cons_succ, Nat.reduceAdd]
                refine Facts.Lex.done fun u W3 hC hL => ?_
                have HGW3 := Lib.hid (HGW.out.trans hC)
                clear hL hC
                go_wp2
                have HCELL : Hid (∀ j, j < 128 → ∀ b', b[j]?.getD 0 = b' → W3.cell? (ad2.add j) = some (.int .u8 (b'.toNat : Int))) := Lib.hid fun j hj b' hb' => cellB HGW3.out (HC2.out j hj b' hb')
                go_loopg [18] (128 - 8 * t) (fun q s18 wx => ∃ j : Nat, j + q = 128 ∧ 8 * t ≤ j ∧ s18 = .int .i64 j ∧ W3 = wx)
                case atStart => exact ⟨8 * t, by omega, Nat.le_refl _, by first | rfl | simp, rfl⟩
                case round =>
                  obtain ⟨j, hjq, hjt, rfl, rfl⟩ := hrel
                  cases gk with
                  | succ q =>
                    have hj : (j : Int) < 128 := by omega
                    have hj2 : j < 128 := by omega
                    have hcell := HCELL.out j hj2 c (HPUR.out j (by omega) hj2)
                    go_wp2
                    go_roundg q
                    case measure => omega
                    case rel => exact ⟨j + 1, by omega, by omega, by first | rfl | simp | (simp; omega), rfl⟩
                  | zero =>
                    have hj : ¬ (j : Int) < 128 := by omega
                    go_wp2_with fail
                    refine (alive_any W3).mono ?_
                    rintro e W4 ⟨rfl, g4⟩
                    have HG5 := Lib.hid (HG0.out.trans (HGW3.out.trans g4))
                    clear g4
                    go_wp2
                    go_returns
                    exact ⟨rfl, HG5.out⟩
            | zero =>
              obtain rfl : t = 16 := by omega
              have HPUR : Hid (∀ j, 8 * 16 ≤ j → j < 128 → b[j]?.getD 0 = c) := Lib.hid fun j h1 h2 => by omega
              go_wp2
              refine Facts.wp_region_text (by kernel_rfl) (by kernel_rfl) ?_
              apply Facts.Lex.exact [] _ (by kernel_rfl)
              · intro u W hC _
                unfold Facts.one
                go_simp
                all_goals first | exact ⟨Grew.refl _, rfl⟩ | exact Grew.refl _ | rfl
              simp only [Act.put, List.setIfInBounds_toArray, List.set_cons_zero, List.set_cons_succ, Nat.zero_add]
              apply Facts.Lex.exact [] _ (by kernel_rfl)
              · intro u W hC _
                unfold Facts.one
                go_simp
                all_goals first | exact ⟨Grew.refl _, rfl⟩ | exact Grew.refl _ | rfl
              simp only [Act.put, List.setIfInBounds_toArray, List.set_cons_zero, List.set_cons_succ, Nat.reduceAdd]
              apply Facts.Lex.exact [] _ (by kernel_rfl)
              · intro u W hC _
                unfold Facts.one
                go_simp
                all_goals first | exact ⟨Grew.refl _, rfl⟩ | exact Grew.refl _ | rfl
              simp only [Act.put, List.setIfInBounds_toArray, List.set_cons_zero, List.set_cons_succ, Nat.reduceAdd]
              apply Facts.Lex.exact [] undef (by kernel_rfl)
              · intro u W hC _
                unfold Facts.one
                go_simp
                all_goals first | exact ⟨Grew.refl _, rfl⟩ | exact Grew.refl _ | rfl
              simp only [Act.put, List.setIfInBounds_toArray, List.set_cons_zero, List.set_cons_succ, Nat.reduceAdd]
              apply Facts.Lex.exact [] undef (by kernel_rfl)
              · intro u W hC _
                unfold Facts.one
                go_simp
                all_goals first | exact ⟨Grew.refl _, rfl⟩ | exact Grew.refl _ | rfl
              simp only [Act.put, List.setIfInBounds_toArray, List.set_cons_zero, List.set_cons_succ, Nat.reduceAdd]
              apply Facts.Lex.exact [] _ (by kernel_rfl)
              · intro u W hC _
                unfold Facts.one
                go_simp
                all_goals first | exact ⟨Grew.refl _, rfl⟩ | exact Grew.refl _ | rfl
              simp only [Act.put, List.setIfInBounds_toArray, List.set_cons_zero, List.set_cons_succ, Nat.reduceAdd]
              apply Facts.Lex.exact [] _ (by kernel_rfl)
              · intro u W hC _
                unfold Facts.one
                go_simp
                all_goals first | exact ⟨Grew.refl _, rfl⟩ | exact Grew.refl _ | rfl
              simp only [Act.put, List.setIfInBounds_toArray, List.set_cons_zero, List.set_cons_succ, Nat.reduceAdd]
              apply Facts.Lex.exact [] undef (by kernel_rfl)
              · intro u W hC _
                unfold Facts.one
                go_simp
                all_goals first | exact ⟨Grew.refl _, rfl⟩ | exact Grew.refl _ | rfl
              simp only [Act.put, List.setIfInBounds_toArray, List.set_cons_zero, List.set_cons_succ, Nat.reduceAdd]
              apply Facts.Lex.exact [] undef (by kernel_rfl)
              · intro u W hC _
                unfold Facts.one
                go_simp
                all_goals first | exact ⟨Grew.refl _, rfl⟩ | exact Grew.refl _ | rfl
              simp only [Act.put, List.setIfInBounds_toArray, List.set_cons_zero, List.set_cons_succ, Nat.reduceAdd]
              apply Facts.Lex.exact [] undef (by kernel_rfl)
              · intro u W hC _
                unfold Facts.one
                go_simp
                all_goals first | exact ⟨Grew.refl _, rfl⟩ | exact Grew.refl _ | rfl
              simp only [Act.put, List.setIfInBounds_toArray, List.set_cons_zero, List.set_cons_succ, Nat.reduceAdd]
              apply Facts.Lex.exact [] undef (by kernel_rfl)
              · intro u W hC _
                unfold Facts.one
                go_simp
                all_goals first | exact ⟨Grew.refl _, rfl⟩ | exact Grew.refl _ | rfl
              simp only [Act.put, List.setIfInBounds_toArray, List.set_cons_zero, List.set_cons_succ, Nat.reduceAdd]
              apply Facts.Lex.exact [] undef (by kernel_rfl)
              · intro u W hC _
                unfold Facts.one
                go_simp
                all_goals first | exact ⟨Grew.refl _, rfl⟩ | exact Grew.refl _ | rfl
              simp only [Act.put, List.setIfInBounds_toArray, List.set_cons_zero, List.set_cons_succ, Nat.reduceAdd]
              apply Facts.Lex.exact [] undef (by kernel_rfl)
              · intro u W hC _
                unfold Facts.one
                go_simp
                all_goals first | exact ⟨Grew.refl _, rfl⟩ | exact Grew.refl _ | rfl
              simp only [Act.put, List.setIfInBounds_toArray, List.set_cons_zero, List.set_cons_succ, Nat.reduceAdd]
              apply Facts.Lex.exact [] undef (by kernel_rfl)
              · intro u W hC _
                unfold Facts.one
                go_simp
                all_goals first | exact ⟨Grew.refl _, rfl⟩ | exact Grew.refl _ | rfl
              simp only [Act.put, List.setIfInBounds_toArray, List.set_cons_zero, List.set_cons_succ, Nat.reduceAdd]
              apply Facts.Lex.exact [] undef (by kernel_rfl)
              · intro u W hC _
                unfold Facts.one
                go_simp
                all_goals first | exact ⟨Grew.refl _, rfl⟩ | exact Grew.refl _ | rfl
              simp only [Act.put, List.setIfInBounds_toArray, List.set_cons_zero, List.set_cons_succ, Nat.reduceAdd]
              apply Facts.Lex.exact [] undef (by kernel_rfl)
              · intro u W hC _
                unfold Facts.one
                go_simp
                all_goals first | exact ⟨Grew.refl _, rfl⟩ | exact Grew.refl _ | rfl
              simp only [Act.put, List.setIfInBounds_toArray, List.set_cons_zero, List.set_cons_succ, Nat.reduceAdd]
              apply Facts.Lex.exact [] undef (by kernel_rfl)
              · intro u W hC _
                unfold Facts.one
                go_simp
                all_goals first | exact ⟨Grew.refl _, rfl⟩ | exact Grew.refl _ | rfl
              simp only [Act.put, List.setIfInBounds_toArray, List.set_cons_zero, List.set_cons_succ, Nat.reduceAdd]
              apply Facts.Lex.exact [] undef (by kernel_rfl)
              · intro u W hC _
                unfold Facts.one
                go_simp
                all_goals first | exact ⟨Grew.refl _, rfl⟩ | exact Grew.refl _ | rfl
              simp only [Act.put, List.setIfInBounds_toArray, List.set_cons_zero, List.set_cons_succ, Nat.reduceAdd]
              apply Facts.Lex.exact [] undef (by kernel_rfl)
              · intro u W hC _
                unfold Facts.one
                go_simp
                all_goals first | exact ⟨Grew.refl _, rfl⟩ | exact Grew.refl _ | rfl
              simp only [Act.put, List.setIfInBounds_toArray, List.set_cons_zero, List.set_cons_succ, Nat.reduceAdd]
              apply Facts.Lex.exact [] undef (by kernel_rfl)
              · intro u W hC _
                unfold Facts.one
                go_simp
                all_goals first | exact ⟨Grew.refl _, rfl⟩ | exact Grew.refl _ | rfl
              simp only [Act.put, List.setIfInBounds_toArray, List.set_cons_zero, List.set_cons_succ, Nat.reduceAdd]
              apply Facts.Lex.exact [] _ (by kernel_rfl)
              · intro u W hC _
                unfold Facts.one
                go_simp
                all_goals first | exact ⟨Grew.refl _, rfl⟩ | exact Grew.refl _ | rfl
              simp only [Act.put, List.setIfInBounds_toArray, List.set_cons_zero, List.set_cons_succ, Nat.reduceAdd]
              refine Facts.Lex.done fun u W3 hC hL => ?_
              have HGW3 := Lib.hid (HGW.out.trans hC)
              clear hL hC
              go_wp2
              have HCELL : Hid (∀ j, j < 128 → ∀ b', b[j]?.getD 0 = b' → W3.cell? (ad2.add j) = some (.int .u8 (b'.toNat : Int))) := Lib.hid fun j hj b' hb' => cellB HGW3.out (HC2.out j hj b' hb')
              go_loopg [18] (128 - 8 * 16) (fun q s18 wx => ∃ j : Nat, j + q = 128 ∧ 8 * 16 ≤ j ∧ s18 = .int .i64 j ∧ W3 = wx)
              case atStart => exact ⟨8 * 16, by omega, Nat.le_refl _, by first | rfl | simp, rfl⟩
              case round =>
                obtain ⟨j, hjq, hjt, rfl, rfl⟩ := hrel
                cases gk with
                | succ q =>
                  have hj : (j : Int) < 128 := by omega
                  have hj2 : j < 128 := by omega
                  have hcell := HCELL.out j hj2 c (HPUR.out j (by omega) hj2)
                  go_wp2
                  go_roundg q
                  case measure => omega
                  case rel => exact ⟨j + 1, by omega, by omega, by first | rfl | simp | (simp; omega), rfl⟩
                | zero =>
                  have hj : ¬ (j : Int) < 128 := by omega
                  go_wp2_with fail
                  refine (alive_any W3).mono ?_
                  rintro e W4 ⟨rfl, g4⟩
                  have HG5 := Lib.hid (HG0.out.trans (HGW3.out.trans g4))
                  clear g4
                  go_wp2
                  go_returns
                  exact ⟨rfl, HG5.out⟩
      · have hx1 : ¬ (i : Int) < (L.length : Int) := by omega
        clear hc
        go_wp2_with fail
        refine hcr.mono ?_
        rintro e x1 ⟨rfl, hd1, hk1⟩
        have HD1 := Lib.hid hd1
        have HG1 := Lib.hid (grew_kept HG.out hk1 HA.out)
        clear hcr hd1 hk1 HD HG HW
        obtain ⟨b, k, hro, hbl, hpure⟩ := HKS.out.crash lC (last_even HD1.out)
        have HRO := Lib.hid hro
        have HBL := Lib.hid hbl
        have HPU := Lib.hid hpure
        clear hro hbl hpure
        go_wp2_with fail
        refine (read_eq x1 g D _ a b 0 HD1.out HRO.out).mono ?_
        rintro e x2 ⟨v2, rfl, r2, g2⟩
        obtain ⟨ad2, c2, rfl, hb1, hb2, hb3⟩ := DAlive.shape r2 128 HBL.out (by decide)
        have HG0 := Lib.hid (HG1.out.trans g2)
        have HR2 := Lib.hid r2
        have HC2 := Lib.hid hb3
        clear g2 r2 hb3 HG1 HD1 HRO
        by_cases hm : 1 < many
        · have hm' : (1 : Int) < (many : Int) := by omega
          go_wp2_with fail
          refine (alive_any x2).mono ?_
          rintro e x3 ⟨rfl, g3⟩
          have HG3 := Lib.hid (HG0.out.trans g3)
          clear g3
          go_wp2
          go_returns
          exact ⟨rfl, HG3.out⟩
        · have hm' : ¬ (1 : Int) < (many : Int) := by omega
          obtain ⟨hk16, hk0, hge2, hlt2⟩ := HPU.out (by omega)
          have HGE := Lib.hid hge2
          have HLT := Lib.hid hlt2
          clear hge2 hlt2 HPU
          go_wp2
          go_loopg [17] 16 (fun q s17 wx => ∃ t : Nat, t + q = 16 ∧ s17 = .int .i64 (8 * (t : Int)) ∧ Hid (Grew x2 wx))
          case atStart => exact ⟨0, by omega, by first | rfl | simp, Lib.hid (Grew.refl _)⟩
          case round =>
            obtain ⟨t, htq, rfl, HGW⟩ := hrel
            cases gk with
            | succ q =>
              have ht1 : 8 * (t : Int) < 128 := by omega
              by_cases hm1 : many = 1
              · subst hm1
                obtain ⟨hll, _⟩ := HKS.out.mine (by omega)
                have HLL := Lib.hid hll
                obtain ⟨adL, cL, rfl, hl1, hl2, _⟩ := DAlive.shape HRL.out 128 (by rw [if_neg (by omega)]; exact hll) (by decide)
                replace HRL : Hid (Rd (fun b => b < w.heap.size) w (.slice (some adL) 128 cL) last) := Lib.hid (by have h := HRL.out; rwa [if_neg (by omega)] at h)
                clear hll
                have hwr : IntKind.i64.wrap (8 * (t : Int) + 8) = 8 * (t : Int) + 8 := wrap8 t (by omega)
                by_cases he : (b.drop (8 * t)).take 8 = (last.drop (8 * t)).take 8
                · have hee : ((b.drop (8 * t)).take 8 == (last.drop (8 * t)).take 8) = true := by simpa using he
                  clear he
                  go_wp2
                  refine Facts.wp_region_text (by kernel_rfl) (by kernel_rfl) ?_
                  apply Facts.Lex.exact [] _ (by kernel_rfl)
                  · intro u W hC _
                    unfold Facts.one
                    go_simp
                    all_goals first | exact ⟨Grew.refl _, rfl⟩ | exact Grew.refl _ | rfl
                  simp only [Act.put, List.setIfInBounds_toArray, List.set_cons_zero, List.set_cons_succ, Nat.zero_add]
                  apply Facts.Lex.exact [] _ (by kernel_rfl)
                  · intro u W hC _
                    unfold Facts.one
                    go_simp
                    all_goals first | exact ⟨Grew.refl _, rfl⟩ | exact Grew.refl _ | rfl
                  simp only [Act.put, List.setIfInBounds_toArray, List.set_cons_zero, List.set_cons_succ, Nat.reduceAdd]
                  apply Facts.Lex.exact [] _ (by kernel_rfl)
                  · intro u W hC _
                    unfold Facts.one
                    go_simp
                    all_goals first | exact ⟨Grew.refl _, rfl⟩ | exact Grew.refl _ | rfl
                  simp only [Act.put, List.setIfInBounds_toArray, List.set_cons_zero, List.set_cons_succ, Nat.reduceAdd]
                  apply Facts.Lex.exact [] _ (by kernel_rfl)
                  · intro u W hC _
                    unfold Facts.one
                    go_simp
                    all_goals first | exact ⟨Grew.refl _, rfl⟩ | exact Grew.refl _ | rfl
                  simp only [Act.put, List.setIfInBounds_toArray, List.set_cons_zero, List.set_cons_succ, Nat.reduceAdd]
                  apply Facts.Lex.exact [] _ (by kernel_rfl)
                  · intro u W hC _
                    unfold Facts.one
                    go_simp
                    all_goals first | exact ⟨Grew.refl _, rfl⟩ | exact Grew.refl _ | rfl
                  simp only [Act.put, List.setIfInBounds_toArray, List.set_cons_zero, List.set_cons_succ, Nat.reduceAdd]
                  apply Facts.Lex.exact [] _ (by kernel_rfl)
                  · intro u W hC _
                    unfold Facts.one
                    go_simp
                    all_goals first | exact ⟨Grew.refl _, rfl⟩ | exact Grew.refl _ | rfl
                  simp only [Act.put, List.setIfInBounds_toArray, List.set_cons_zero, List.set_cons_succ, Nat.reduceAdd]
                  apply Facts.Lex.exact [] _ (by kernel_rfl)
                  · intro u W hC _
                    unfold Facts.one
                    go_simp
                    all_goals first | exact ⟨Grew.refl _, rfl⟩ | exact Grew.refl _ | rfl
                  simp only [Act.put, List.setIfInBounds_toArray, List.set_cons_zero, List.set_cons_succ, Nat.reduceAdd]
                  apply Facts.Lex.exact [] _ (by kernel_rfl)
                  · intro u W hC _
                    unfold Facts.one
                    go_simp
                    all_goals first | exact ⟨Grew.refl _, rfl⟩ | exact Grew.refl _ | rfl
                  simp only [Act.put, List.setIfInBounds_toArray, List.set_cons_zero, List.set_cons_succ, Nat.reduceAdd]
                  apply Facts.Lex.exact [] _ (by kernel_rfl)
                  · intro u W hC _
                    unfold Facts.one
                    go_simp
                    all_goals first | exact ⟨Grew.refl _, rfl⟩ | exact Grew.refl _ | rfl
                  simp only [Act.put, List.setIfInBounds_toArray, List.set_cons_zero, List.set_cons_succ, Nat.reduceAdd]
                  apply Facts.Lex.exact [] _ (by kernel_rfl)
                  · intro u W hC _
                    unfold Facts.one
                    go_simp
                    all_goals first | exact ⟨Grew.refl _, rfl⟩ | exact Grew.refl _ | rfl
                  simp only [Act.put, List.setIfInBounds_toArray, List.set_cons_zero, List.set_cons_succ, Nat.reduceAdd]
                  apply Facts.Lex.exact [] (.int .i64 (8 * (t : Int) + 8)) (by kernel_rfl)
                  · intro u W hC _
                    unfold Facts.one
                    go_simp
                    first | (rw [hwr]; exact ⟨Grew.refl _, rfl⟩) | exact ⟨Grew.refl _, by rw [hwr]⟩ | exact ⟨Grew.refl _, rfl⟩
                  simp only [Act.put, List.setIfInBounds_toArray, List.set_cons_zero, List.set_cons_succ, Nat.reduceAdd]
                  apply Facts.Lex.exact [] (.slice (some (ad2.add (8 * t))) 8 (c2 - 8 * t)) (by kernel_rfl)
                  · intro u W hC _
                    unfold Facts.one
                    go_simp
                    rw [if_pos ⟨by omega, by omega⟩, if_pos ⟨by omega, by omega⟩, if_neg (by omega), show (8 * (t : Int)).toNat = 8 * t by omega, show (8 * (t : Int) + 8).toNat - 8 * t = 8 by omega]
                    exact ⟨Grew.refl _, rfl⟩
                  simp only [Act.put, List.setIfInBounds_toArray, List.set_cons_zero, List.set_cons_succ, Nat.reduceAdd]
                  apply Facts.Lex.exact [] _ (by kernel_rfl)
                  · intro u W hC _
                    have s1 := conv34 (sub_rd (HR2.out.grew ((HGW.out.trans hC))) HBL.out (8 * t) 8 (c2 - 8 * t) (by omega) (by omega) (by omega))
                    unfold Facts.one
                    go_simp
                    all_goals first | exact ⟨Grew.refl _, rfl⟩ | exact Grew.refl _ | rfl
                  simp only [Act.put, List.setIfInBounds_toArray, List.set_cons_zero, List.set_cons_succ, Nat.reduceAdd]
                  apply Facts.Lex.exact [] _ (by kernel_rfl)
                  · intro u W hC _
                    unfold Facts.one
                    go_simp
                    all_goals first | exact ⟨Grew.refl _, rfl⟩ | exact Grew.refl _ | rfl
                  simp only [Act.put, List.setIfInBounds_toArray, List.set_cons_zero, List.set_cons_succ, Nat.reduceAdd]
                  apply Facts.Lex.exact [] _ (by kernel_rfl)
                  · intro u W hC _
                    unfold Facts.one
                    go_simp
                    all_goals first | exact ⟨Grew.refl _, rfl⟩ | exact Grew.refl _ | rfl
                  simp only [Act.put, List.setIfInBounds_toArray, List.set_cons_zero, List.set_cons_succ, Nat.reduceAdd]
                  apply Facts.Lex.exact [] _ (by kernel_rfl)
                  · intro u W hC _
                    unfold Facts.one
                    go_simp
                    all_goals first | exact ⟨Grew.refl _, rfl⟩ | exact Grew.refl _ | rfl
                  simp only [Act.put, List.setIfInBounds_toArray, List.set_cons_zero, List.set_cons_succ, Nat.reduceAdd]
                  apply Facts.Lex.exact [] (.int .i64 (8 * (t : Int) + 8)) (by kernel_rfl)
                  · intro u W hC _
                    unfold Facts.one
                    go_simp
                    first | (rw [hwr]; exact ⟨Grew.refl _, rfl⟩) | exact ⟨Grew.refl _, by rw [hwr]⟩ | exact ⟨Grew.refl _, rfl⟩
                  simp only [Act.put, List.setIfInBounds_toArray, List.set_cons_zero, List.set_cons_succ, Nat.reduceAdd]
                  apply Facts.Lex.exact [] (.slice (some (adL.add (8 * t))) 8 (cL - 8 * t)) (by kernel_rfl)
                  · intro u W hC _
                    unfold Facts.one
                    go_simp
                    rw [if_pos ⟨by omega, by omega⟩, if_pos ⟨by omega, by omega⟩, if_neg (by omega), show (8 * (t : Int)).toNat = 8 * t by omega, show (8 * (t : Int) + 8).toNat - 8 * t = 8 by omega]
                    exact ⟨Grew.refl _, rfl⟩
                  simp only [Act.put, List.setIfInBounds_toArray, List.set_cons_zero, List.set_cons_succ, Nat.reduceAdd]
                  apply Facts.Lex.exact [] _ (by kernel_rfl)
                  · intro u W hC _
                    have s1 := conv34 (sub_rd (HRL.out.grew (HG0.out.trans (HGW.out.trans hC))) HLL.out (8 * t) 8 (cL - 8 * t) (by omega) (by omega) (by omega))
                    unfold Facts.one
                    go_simp
                    all_goals first | exact ⟨Grew.refl _, rfl⟩ | exact Grew.refl _ | rfl
                  simp only [Act.put, List.setIfInBounds_toArray, List.set_cons_zero, List.set_cons_succ, Nat.reduceAdd]
                  apply Facts.Lex.exact [] _ (by kernel_rfl)
                  · intro u W hC _
                    unfold Facts.one
                    go_simp
                    all_goals first | exact ⟨Grew.refl _, rfl⟩ | exact Grew.refl _ | rfl
                  simp only [Act.put, List.setIfInBounds_toArray, List.set_cons_zero, List.set_cons_succ, Nat.reduceAdd]
                  apply Facts.Lex.exact [] _ (by kernel_rfl)
                  · intro u W hC _
                    unfold Facts.one
                    go_simp
                    all_goals first | exact ⟨Grew.refl _, rfl⟩ | exact Grew.refl _ | rfl
                  simp only [Act.put, List.setIfInBounds_toArray, List.set_cons_zero, List.set_cons_succ, Nat.reduceAdd]
                  refine Facts.Lex.done fun u W3 hC hL => ?_
                  have HGW3 := Lib.hid (HGW.out.trans hC)
                  clear hL hC
                  go_wp2
                  go_roundg q
                  case measure => omega
                  case rel => exact ⟨t + 1, by omega, by first | rfl | simp | (simp; omega), HGW3⟩
                · have hne := lists_ne he
                  have hkt : k ≤ t := by
                    rcases Nat.lt_or_ge t k with h | h
                    · exact absurd (wins HLT.out h) he
                    · exact h
                  have HPUR : Hid (∀ j, 8 * t ≤ j → j < 128 → b[j]?.getD 0 = c) := Lib.hid fun j h1 h2 => HGE.out j (by omega) h2
                  clear he
                  go_wp2
                  refine Facts.wp_region_text (by kernel_rfl) (by kernel_rfl) ?_
                  apply Facts.Lex.exact [] _ (by kernel_rfl)
                  · intro u W hC _
                    unfold Facts.one
                    go_simp
                    all_goals first | exact ⟨Grew.refl _, rfl⟩ | exact Grew.refl _ | rfl
                  simp only [Act.put, List.setIfInBounds_toArray, List.set_cons_zero, List.set_cons_succ, Nat.zero_add]
                  apply Facts.Lex.exact [] _ (by kernel_rfl)
                  · intro u W hC _
                    unfold Facts.one
                    go_simp
                    all_goals first | exact ⟨Grew.refl _, rfl⟩ | exact Grew.refl _ | rfl
                  simp only [Act.put, List.setIfInBounds_toArray, List.set_cons_zero, List.set_cons_succ, Nat.reduceAdd]
                  apply Facts.Lex.exact [] _ (by kernel_rfl)
                  · intro u W hC _
                    unfold Facts.one
                    go_simp
                    all_goals first | exact ⟨Grew.refl _, rfl⟩ | exact Grew.refl _ | rfl
                  simp only [Act.put, List.setIfInBounds_toArray, List.set_cons_zero, List.set_cons_succ, Nat.reduceAdd]
                  apply Facts.Lex.exact [] _ (by kernel_rfl)
                  · intro u W hC _
                    unfold Facts.one
                    go_simp
                    all_goals first | exact ⟨Grew.refl _, rfl⟩ | exact Grew.refl _ | rfl
                  simp only [Act.put, List.setIfInBounds_toArray, List.set_cons_zero, List.set_cons_succ, Nat.reduceAdd]
                  apply Facts.Lex.exact [] _ (by kernel_rfl)
                  · intro u W hC _
                    unfold Facts.one
                    go_simp
                    all_goals first | exact ⟨Grew.refl _, rfl⟩ | exact Grew.refl _ | rfl
                  simp only [Act.put, List.setIfInBounds_toArray, List.set_cons_zero, List.set_cons_succ, Nat.reduceAdd]
                  apply Facts.Lex.exact [] _ (by kernel_rfl)
                  · intro u W hC _
                    unfold Facts.one
                    go_simp
                    all_goals first | exact ⟨Grew.refl _, rfl⟩ | exact Grew.refl _ | rfl
                  simp only [Act.put, List.setIfInBounds_toArray, List.set_cons_zero, List.set_cons_succ, Nat.reduceAdd]
                  apply Facts.Lex.exact [] _ (by kernel_rfl)
                  · intro u W hC _
                    unfold Facts.one
                    go_simp
                    all_goals first | exact ⟨Grew.refl _, rfl⟩ | exact Grew.refl _ | rfl
                  simp only [Act.put, List.setIfInBounds_toArray, List.set_cons_zero, List.set_cons_succ, Nat.reduceAdd]
                  apply Facts.Lex.exact [] _ (by kernel_rfl)
                  · intro u W hC _
                    unfold Facts.one
                    go_simp
                    all_goals first | exact ⟨Grew.refl _, rfl⟩ | exact Grew.refl _ | rfl
                  simp only [Act.put, List.setIfInBounds_toArray, List.set_cons_zero, List.set_cons_succ, Nat.reduceAdd]
                  apply Facts.Lex.exact [] _ (by kernel_rfl)
                  · intro u W hC _
                    unfold Facts.one
                    go_simp
                    all_goals first | exact ⟨Grew.refl _, rfl⟩ | exact Grew.refl _ | rfl
                  simp only [Act.put, List.setIfInBounds_toArray, List.set_cons_zero, List.set_cons_succ, Nat.reduceAdd]
                  apply Facts.Lex.exact [] _ (by kernel_rfl)
                  · intro u W hC _
                    unfold Facts.one
                    go_simp
                    all_goals first | exact ⟨Grew.refl _, rfl⟩ | exact Grew.refl _ | rfl
                  simp only [Act.put, List.setIfInBounds_toArray, List.set_cons_zero, List.set_cons_succ, Nat.reduceAdd]
                  apply Facts.Lex.exact [] (.int .i64 (8 * (t : Int) + 8)) (by kernel_rfl)
                  · intro u W hC _
                    unfold Facts.one
                    go_simp
                    first | (rw [hwr]; exact ⟨Grew.refl _, rfl⟩) | exact ⟨Grew.refl _, by rw [hwr]⟩ | exact ⟨Grew.refl _, rfl⟩
                  simp only [Act.put, List.setIfInBounds_toArray, List.set_cons_zero, List.set_cons_succ, Nat.reduceAdd]
                  apply Facts.Lex.exact [] (.slice (some (ad2.add (8 * t))) 8 (c2 - 8 * t)) (by kernel_rfl)
                  · intro u W hC _
                    unfold Facts.one
                    go_simp
                    rw [if_pos ⟨by omega, by omega⟩, if_pos ⟨by omega, by omega⟩, if_neg (by omega), show (8 * (t : Int)).toNat = 8 * t by omega, show (8 * (t : Int) + 8).toNat - 8 * t = 8 by omega]
                    exact ⟨Grew.refl _, rfl⟩
                  simp only [Act.put, List.setIfInBounds_toArray, List.set_cons_zero, List.set_cons_succ, Nat.reduceAdd]
                  apply Facts.Lex.exact [] _ (by kernel_rfl)
                  · intro u W hC _
                    have s1 := conv34 (sub_rd (HR2.out.grew ((HGW.out.trans hC))) HBL.out (8 * t) 8 (c2 - 8 * t) (by omega) (by omega) (by omega))
                    unfold Facts.one
                    go_simp
                    all_goals first | exact ⟨Grew.refl _, rfl⟩ | exact Grew.refl _ | rfl
                  simp only [Act.put, List.setIfInBounds_toArray, List.set_cons_zero, List.set_cons_succ, Nat.reduceAdd]
                  apply Facts.Lex.exact [] _ (by kernel_rfl)
                  · intro u W hC _
                    unfold Facts.one
                    go_simp
                    all_goals first | exact ⟨Grew.refl _, rfl⟩ | exact Grew.refl _ | rfl
                  simp only [Act.put, List.setIfInBounds_toArray, List.set_cons_zero, List.set_cons_succ, Nat.reduceAdd]
                  apply Facts.Lex.exact [] _ (by kernel_rfl)
                  · intro u W hC _
                    unfold Facts.one
                    go_simp
                    all_goals first | exact ⟨Grew.refl _, rfl⟩ | exact Grew.refl _ | rfl
                  simp only [Act.put, List.setIfInBounds_toArray, List.set_cons_zero, List.set_cons_succ, Nat.reduceAdd]
                  apply Facts.Lex.exact [] _ (by kernel_rfl)
                  · intro u W hC _
                    unfold Facts.one
                    go_simp
                    all_goals first | exact ⟨Grew.refl _, rfl⟩ | exact Grew.refl _ | rfl
                  simp only [Act.put, List.setIfInBounds_toArray, List.set_cons_zero, List.set_cons_succ, Nat.reduceAdd]
                  apply Facts.Lex.exact [] (.int .i64 (8 * (t : Int) + 8)) (by kernel_rfl)
                  · intro u W hC _
                    unfold Facts.one
                    go_simp
                    first | (rw [hwr]; exact ⟨Grew.refl _, rfl⟩) | exact ⟨Grew.refl _, by rw [hwr]⟩ | exact ⟨Grew.refl _, rfl⟩
                  simp only [Act.put, List.setIfInBounds_toArray, List.set_cons_zero, List.set_cons_succ, Nat.reduceAdd]
                  apply Facts.Lex.exact [] (.slice (some (adL.add (8 * t))) 8 (cL - 8 * t)) (by kernel_rfl)
                  · intro u W hC _
                    unfold Facts.one
                    go_simp
                    rw [if_pos ⟨by omega, by omega⟩, if_pos ⟨by omega, by omega⟩, if_neg (by omega), show (8 * (t : Int)).toNat = 8 * t by omega, show (8 * (t : Int) + 8).toNat - 8 * t = 8 by omega]
                    exact ⟨Grew.refl _, rfl⟩
                  simp only [Act.put, List.setIfInBounds_toArray, List.set_cons_zero, List.set_cons_succ, Nat.reduceAdd]
                  apply Facts.Lex.exact [] _ (by kernel_rfl)
                  · intro u W hC _
                    have s1 := conv34 (sub_rd (HRL.out.grew (HG0.out.trans (HGW.out.trans hC))) HLL.out (8 * t) 8 (cL - 8 * t) (by omega) (by omega) (by omega))
                    unfold Facts.one
                    go_simp
                    all_goals first | exact ⟨Grew.refl _, rfl⟩ | exact Grew.refl _ | rfl
                  simp only [Act.put, List.setIfInBounds_toArray, List.set_cons_zero, List.set_cons_succ, Nat.reduceAdd]
                  apply Facts.Lex.exact [] _ (by kernel_rfl)
                  · intro u W hC _
                    unfold Facts.one
                    go_simp
                    all_goals first | exact ⟨Grew.refl _, rfl⟩ | exact Grew.refl _ | rfl
                  simp only [Act.put, List.setIfInBounds_toArray, List.set_cons_zero, List.set_cons_succ, Nat.reduceAdd]
                  apply Facts.Lex.exact [] _ (by kernel_rfl)
                  · intro u W hC _
                    unfold Facts.one
                    go_simp
                    all_goals first | exact ⟨Grew.refl _, rfl⟩ | exact Grew.refl _ | rfl
                  simp only [Act.put, List.setIfInBounds_toArray, List.set_cons_zero, List.set_cons_succ, Nat.reduceAdd]
                  refine Facts.Lex.done fun u W3 hC hL => ?_
                  have HGW3 := Lib.hid (HGW.out.trans hC)
                  clear hL hC
                  go_wp2
                  have HCELL : Hid (∀ j, j < 128 → ∀ b', b[j]?.getD 0 = b' → W3.cell? (ad2.add j) = some (.int .u8 (b'.toNat : Int))) := Lib.hid fun j hj b' hb' => cellB HGW3.out (HC2.out j hj b' hb')
                  go_loopg [18] (128 - 8 * t) (fun q s18 wx => ∃ j : Nat, j + q = 128 ∧ 8 * t ≤ j ∧ s18 = .int .i64 j ∧ W3 = wx)
                  case atStart => exact ⟨8 * t, by omega, Nat.le_refl _, by first | rfl | simp, rfl⟩
                  case round =>
                    obtain ⟨j, hjq, hjt, rfl, rfl⟩ := hrel
                    cases gk with
                    | succ q =>
                      have hj : (j : Int) < 128 := by omega
                      have hj2 : j < 128 := by omega
                      have hcell := HCELL.out j hj2 c (HPUR.out j (by omega) hj2)
                      go_wp2
                      go_roundg q
                      case measure => omega
                      case rel => exact ⟨j + 1, by omega, by omega, by first | rfl | simp | (simp; omega), rfl⟩
                    | zero =>
                      have hj : ¬ (j : Int) < 128 := by omega
                      go_wp2_with fail
                      refine (alive_any W3).mono ?_
                      rintro e W4 ⟨rfl, g4⟩
                      have HG5 := Lib.hid (HG0.out.trans (HGW3.out.trans g4))
                      clear g4
                      go_wp2
                      go_returns
                      exact ⟨rfl, HG5.out⟩
              · have hm0 : many = 0 := by omega
                subst hm0
                have hkt : k ≤ t := by have := hk0 rfl; omega
                have HPUR : Hid (∀ j, 8 * t ≤ j → j < 128 → b[j]?.getD 0 = c) := Lib.hid fun j h1 h2 => HGE.out j (by omega) h2
                go_wp2
                refine Facts.wp_region_text (by kernel_rfl) (by kernel_rfl) ?_
                apply Facts.Lex.exact [] _ (by kernel_rfl)
                · intro u W hC _
                  unfold Facts.one
                  go_simp
                  all_goals first | exact ⟨Grew.refl _, rfl⟩ | exact Grew.refl _ | rfl
                simp only [Act.put, List.setIfInBounds_toArray, List.set_cons_zero, List.set_cons_succ, Nat.zero_add]
                apply Facts.Lex.exact [] _ (by kernel_rfl)
                · intro u W hC _
                  unfold Facts.one
                  go_simp
                  all_goals first | exact ⟨Grew.refl _, rfl⟩ | exact Grew.refl _ | rfl
                simp only [Act.put, List.setIfInBounds_toArray, List.set_cons_zero, List.set_cons_succ, Nat.reduceAdd]
                apply Facts.Lex.exact [] _ (by kernel_rfl)
                · intro u W hC _
                  unfold Facts.one
                  go_simp
                  all_goals first | exact ⟨Grew.refl _, rfl⟩ | exact Grew.refl _ | rfl
                simp only [Act.put, List.setIfInBounds_toArray, List.set_cons_zero, List.set_cons_succ, Nat.reduceAdd]
                apply Facts.Lex.exact [] _ (by kernel_rfl)
                · intro u W hC _
                  unfold Facts.one
                  go_simp
                  all_goals first | exact ⟨Grew.refl _, rfl⟩ | exact Grew.refl _ | rfl
                simp only [Act.put, List.setIfInBounds_toArray, List.set_cons_zero, List.set_cons_succ, Nat.reduceAdd]
                apply Facts.Lex.exact [] _ (by kernel_rfl)
                · intro u W hC _
                  unfold Facts.one
                  go_simp
                  all_goals first | exact ⟨Grew.refl _, rfl⟩ | exact Grew.refl _ | rfl
                simp only [Act.put, List.setIfInBounds_toArray, List.set_cons_zero, List.set_cons_succ, Nat.reduceAdd]
                apply Facts.Lex.exact [] _ (by kernel_rfl)
                · intro u W hC _
                  unfold Facts.one
                  go_simp
                  all_goals first | exact ⟨Grew.refl _, rfl⟩ | exact Grew.refl _ | rfl
                simp only [Act.put, List.setIfInBounds_toArray, List.set_cons_zero, List.set_cons_succ, Nat.reduceAdd]
                apply Facts.Lex.exact [] _ (by kernel_rfl)
                · intro u W hC _
                  unfold Facts.one
                  go_simp
                  all_goals first | exact ⟨Grew.refl _, rfl⟩ | exact Grew.refl _ | rfl
                simp only [Act.put, List.setIfInBounds_toArray, List.set_cons_zero, List.set_cons_succ, Nat.reduceAdd]
                apply Facts.Lex.exact [] undef (by kernel_rfl)
                · intro u W hC _
                  unfold Facts.one
                  go_simp
                  all_goals first | exact ⟨Grew.refl _, rfl⟩ | exact Grew.refl _ | rfl
                simp only [Act.put, List.setIfInBounds_toArray, List.set_cons_zero, List.set_cons_succ, Nat.reduceAdd]
                apply Facts.Lex.exact [] undef (by kernel_rfl)
                · intro u W hC _
                  unfold Facts.one
                  go_simp
                  all_goals first | exact ⟨Grew.refl _, rfl⟩ | exact Grew.refl _ | rfl
                simp only [Act.put, List.setIfInBounds_toArray, List.set_cons_zero, List.set_cons_succ, Nat.reduceAdd]
                apply Facts.Lex.exact [] undef (by kernel_rfl)
                · intro u W hC _
                  unfold Facts.one
                  go_simp
                  all_goals first | exact ⟨Grew.refl _, rfl⟩ | exact Grew.refl _ | rfl
                simp only [Act.put, List.setIfInBounds_toArray, List.set_cons_zero, List.set_cons_succ, Nat.reduceAdd]
                apply Facts.Lex.exact [] undef (by kernel_rfl)
                · intro u W hC _
                  unfold Facts.one
                  go_simp
                  all_goals first | exact ⟨Grew.refl _, rfl⟩ | exact Grew.refl _ | rfl
                simp only [Act.put, List.setIfInBounds_toArray, List.set_cons_zero, List.set_cons_succ, Nat.reduceAdd]
                apply Facts.Lex.exact [] undef (by kernel_rfl)
                · intro u W hC _
                  unfold Facts.one
                  go_simp
                  all_goals first | exact ⟨Grew.refl _, rfl⟩ | exact Grew.refl _ | rfl
                simp only [Act.put, List.setIfInBounds_toArray, List.set_cons_zero, List.set_cons_succ, Nat.reduceAdd]
                apply Facts.Lex.exact [] undef (by kernel_rfl)
                · intro u W hC _
                  unfold Facts.one
                  go_simp
                  all_goals first | exact ⟨Grew.refl _, rfl⟩ | exact Grew.refl _ | rfl
                simp only [Act.put, List.setIfInBounds_toArray, List.set_cons_zero, List.set_cons_succ, Nat.reduceAdd]
                apply Facts.Lex.exact [] undef (by kernel_rfl)
                · intro u W hC _
                  unfold Facts.one
                  go_simp
                  all_goals first | exact ⟨Grew.refl _, rfl⟩ | exact Grew.refl _ | rfl
                simp only [Act.put, List.setIfInBounds_toArray, List.set_cons_zero, List.set_cons_succ, Nat.reduceAdd]
                apply Facts.Lex.exact [] undef (by kernel_rfl)
                · intro u W hC _
                  unfold Facts.one
                  go_simp
                  all_goals first | exact ⟨Grew.refl _, rfl⟩ | exact Grew.refl _ | rfl
                simp only [Act.put, List.setIfInBounds_toArray, List.set_cons_zero, List.set_cons_succ, Nat.reduceAdd]
                apply Facts.Lex.exact [] undef (by kernel_rfl)
                · intro u W hC _
                  unfold Facts.one
                  go_simp
                  all_goals first | exact ⟨Grew.refl _, rfl⟩ | exact Grew.refl _ | rfl
                simp only [Act.put, List.setIfInBounds_toArray, List.set_cons_zero, List.set_cons_succ, Nat.reduceAdd]
                apply Facts.Lex.exact [] undef (by kernel_rfl)
                · intro u W hC _
                  unfold Facts.one
                  go_simp
                  all_goals first | exact ⟨Grew.refl _, rfl⟩ | exact Grew.refl _ | rfl
                simp only [Act.put, List.setIfInBounds_toArray, List.set_cons_zero, List.set_cons_succ, Nat.reduceAdd]
                apply Facts.Lex.exact [] undef (by kernel_rfl)
                · intro u W hC _
                  unfold Facts.one
                  go_simp
                  all_goals first | exact ⟨Grew.refl _, rfl⟩ | exact Grew.refl _ | rfl
                simp only [Act.put, List.setIfInBounds_toArray, List.set_cons_zero, List.set_cons_succ, Nat.reduceAdd]
                apply Facts.Lex.exact [] undef (by kernel_rfl)
                · intro u W hC _
                  unfold Facts.one
                  go_simp
                  all_goals first | exact ⟨Grew.refl _, rfl⟩ | exact Grew.refl _ | rfl
                simp only [Act.put, List.setIfInBounds_toArray, List.set_cons_zero, List.set_cons_succ, Nat.reduceAdd]
                apply Facts.Lex.exact [] undef (by kernel_rfl)
                · intro u W hC _
                  unfold Facts.one
                  go_simp
                  all_goals first | exact ⟨Grew.refl _, rfl⟩ | exact Grew.refl _ | rfl
                simp only [Act.put, List.setIfInBounds_toArray, List.set_cons_zero, List.set_cons_succ, Nat.reduceAdd]
                apply Facts.Lex.exact [] _ (by kernel_rfl)
                · intro u W hC _
                  unfold Facts.one
                  go_simp
                  all_goals first | exact ⟨Grew.refl _, rfl⟩ | exact Grew.refl _ | rfl
                simp only [Act.put, List.setIfInBounds_toArray, List.set_cons_zero, List.set_cons_succ, Nat.reduceAdd]
                refine Facts.Lex.done fun u W3 hC hL => ?_
                have HGW3 := Lib.hid (HGW.out.trans hC)
                clear hL hC
                go_wp2
                have HCELL : Hid (∀ j, j < 128 → ∀ b', b[j]?.getD 0 = b' → W3.cell? (ad2.add j) = some (.int .u8 (b'.toNat : Int))) := Lib.hid fun j hj b' hb' => cellB HGW3.out (HC2.out j hj b' hb')
                go_loopg [18] (128 - 8 * t) (fun q s18 wx => ∃ j : Nat, j + q = 128 ∧ 8 * t ≤ j ∧ s18 = .int .i64 j ∧ W3 = wx)
                case atStart => exact ⟨8 * t, by omega, Nat.le_refl _, by first | rfl | simp, rfl⟩
                case round =>
                  obtain ⟨j, hjq, hjt, rfl, rfl⟩ := hrel
                  cases gk with
                  | succ q =>
                    have hj : (j : Int) < 128 := by omega
                    have hj2 : j < 128 := by omega
                    have hcell := HCELL.out j hj2 c (HPUR.out j (by omega) hj2)
                    go_wp2
                    go_roundg q
                    case measure => omega
                    case rel => exact ⟨j + 1, by omega, by omega, by first | rfl | simp | (simp; omega), rfl⟩
                  | zero =>
                    have hj : ¬ (j : Int) < 128 := by omega
                    go_wp2_with fail
                    refine (alive_any W3).mono ?_
                    rintro e W4 ⟨rfl, g4⟩
                    have HG5 := Lib.hid (HG0.out.trans (HGW3.out.trans g4))
                    clear g4
                    go_wp2
                    go_returns
                    exact ⟨rfl, HG5.out⟩
            | zero =>
              obtain rfl : t = 16 := by omega
              have HPUR : Hid (∀ j, 8 * 16 ≤ j → j < 128 → b[j]?.getD 0 = c) := Lib.hid fun j h1 h2 => by omega
              go_wp2
              refine Facts.wp_region_text (by kernel_rfl) (by kernel_rfl) ?_
              apply Facts.Lex.exact [] _ (by kernel_rfl)
              · intro u W hC _
                unfold Facts.one
                go_simp
                all_goals first | exact ⟨Grew.refl _, rfl⟩ | exact Grew.refl _ | rfl
              simp only [Act.put, List.setIfInBounds_toArray, List.set_cons_zero, List.set_cons_succ, Nat.zero_add]
              apply Facts.Lex.exact [] _ (by kernel_rfl)
              · intro u W hC _
                unfold Facts.one
                go_simp
                all_goals first | exact ⟨Grew.refl _, rfl⟩ | exact Grew.refl _ | rfl
              simp only [Act.put, List.setIfInBounds_toArray, List.set_cons_zero, List.set_cons_succ, Nat.reduceAdd]
              apply Facts.Lex.exact [] _ (by kernel_rfl)
              · intro u W hC _
                unfold Facts.one
                go_simp
                all_goals first | exact ⟨Grew.refl _, rfl⟩ | exact Grew.refl _ | rfl
              simp only [Act.put, List.setIfInBounds_toArray, List.set_cons_zero, List.set_cons_succ, Nat.reduceAdd]
              apply Facts.Lex.exact [] undef (by kernel_rfl)
              · intro u W hC _
                unfold Facts.one
                go_simp
                all_goals first | exact ⟨Grew.refl _, rfl⟩ | exact Grew.refl _ | rfl
              simp only [Act.put, List.setIfInBounds_toArray, List.set_cons_zero, List.set_cons_succ, Nat.reduceAdd]
              apply Facts.Lex.exact [] undef (by kernel_rfl)
              · intro u W hC _
                unfold Facts.one
                go_simp
                all_goals first | exact ⟨Grew.refl _, rfl⟩ | exact Grew.refl _ | rfl
              simp only [Act.put, List.setIfInBounds_toArray, List.set_cons_zero, List.set_cons_succ, Nat.reduceAdd]
              apply Facts.Lex.exact [] _ (by kernel_rfl)
              · intro u W hC _
                unfold Facts.one
                go_simp
                all_goals first | exact ⟨Grew.refl _, rfl⟩ | exact Grew.refl _ | rfl
              simp only [Act.put, List.setIfInBounds_toArray, List.set_cons_zero, List.set_cons_succ, Nat.reduceAdd]
              apply Facts.Lex.exact [] _ (by kernel_rfl)
              · intro u W hC _
                unfold Facts.one
                go_simp
                all_goals first | exact ⟨Grew.refl _, rfl⟩ | exact Grew.refl _ | rfl
              simp only [Act.put, List.setIfInBounds_toArray, List.set_cons_zero, List.set_cons_succ, Nat.reduceAdd]
              apply Facts.Lex.exact [] undef (by kernel_rfl)
              · intro u W hC _
                unfold Facts.one
                go_simp
                all_goals first | exact ⟨Grew.refl _, rfl⟩ | exact Grew.refl _ | rfl
              simp only [Act.put, List.setIfInBounds_toArray, List.set_cons_zero, List.set_cons_succ, Nat.reduceAdd]
              apply Facts.Lex.exact [] undef (by kernel_rfl)
              · intro u W hC _
                unfold Facts.one
                go_simp
                all_goals first | exact ⟨Grew.refl _, rfl⟩ | exact Grew.refl _ | rfl
              simp only [Act.put, List.setIfInBounds_toArray, List.set_cons_zero, List.set_cons_succ, Nat.reduceAdd]
              apply Facts.Lex.exact [] undef (by kernel_rfl)
              · intro u W hC _
                unfold Facts.one
                go_simp
                all_goals first | exact ⟨Grew.refl _, rfl⟩ | exact Grew.refl _ | rfl
              simp only [Act.put, List.setIfInBounds_toArray, List.set_cons_zero, List.set_cons_succ, Nat.reduceAdd]
              apply Facts.Lex.exact [] undef (by kernel_rfl)
              · intro u W hC _
                unfold Facts.one
                go_simp
                all_goals first | exact ⟨Grew.refl _, rfl⟩ | exact Grew.refl _ | rfl
              simp only [Act.put, List.setIfInBounds_toArray, List.set_cons_zero, List.set_cons_succ, Nat.reduceAdd]
              apply Facts.Lex.exact [] undef (by kernel_rfl)
              · intro u W hC _
                unfold Facts.one
                go_simp
                all_goals first | exact ⟨Grew.refl _, rfl⟩ | exact Grew.refl _ | rfl
              simp only [Act.put, List.setIfInBounds_toArray, List.set_cons_zero, List.set_cons_succ, Nat.reduceAdd]
              apply Facts.Lex.exact [] undef (by kernel_rfl)
              · intro u W hC _
                unfold Facts.one
                go_simp
                all_goals first | exact ⟨Grew.refl _, rfl⟩ | exact Grew.refl _ | rfl
              simp only [Act.put, List.setIfInBounds_toArray, List.set_cons_zero, List.set_cons_succ, Nat.reduceAdd]
              apply Facts.Lex.exact [] undef (by kernel_rfl)
              · intro u W hC _
                unfold Facts.one
                go_simp
                all_goals first | exact ⟨Grew.refl _, rfl⟩ | exact Grew.refl _ | rfl
              simp only [Act.put, List.setIfInBounds_toArray, List.set_cons_zero, List.set_cons_succ, Nat.reduceAdd]
              apply Facts.Lex.exact [] undef (by kernel_rfl)
              · intro u W hC _
                unfold Facts.one
                go_simp
                all_goals first | exact ⟨Grew.refl _, rfl⟩ | exact Grew.refl _ | rfl
              simp only [Act.put, List.setIfInBounds_toArray, List.set_cons_zero, List.set_cons_succ, Nat.reduceAdd]
              apply Facts.Lex.exact [] undef (by kernel_rfl)
              · intro u W hC _
                unfold Facts.one
                go_simp
                all_goals first | exact ⟨Grew.refl _, rfl⟩ | exact Grew.refl _ | rfl
              simp only [Act.put, List.setIfInBounds_toArray, List.set_cons_zero, List.set_cons_succ, Nat.reduceAdd]
              apply Facts.Lex.exact [] undef (by kernel_rfl)
              · intro u W hC _
                unfold Facts.one
                go_simp
                all_goals first | exact ⟨Grew.refl _, rfl⟩ | exact Grew.refl _ | rfl
              simp only [Act.put, List.setIfInBounds_toArray, List.set_cons_zero, List.set_cons_succ, Nat.reduceAdd]
              apply Facts.Lex.exact [] undef (by kernel_rfl)
              · intro u W hC _
                unfold Facts.one
                go_simp
                all_goals first | exact ⟨Grew.refl _, rfl⟩ | exact Grew.refl _ | rfl
              simp only [Act.put, List.setIfInBounds_toArray, List.set_cons_zero, List.set_cons_succ, Nat.reduceAdd]
              apply Facts.Lex.exact [] undef (by kernel_rfl)
              · intro u W hC _
                unfold Facts.one
                go_simp
                all_goals first | exact ⟨Grew.refl _, rfl⟩ | exact Grew.refl _ | rfl
              simp only [Act.put, List.setIfInBounds_toArray, List.set_cons_zero, List.set_cons_succ, Nat.reduceAdd]
              apply Facts.Lex.exact [] undef (by kernel_rfl)
              · intro u W hC _
                unfold Facts.one
                go_simp
                all_goals first | exact ⟨Grew.refl _, rfl⟩ | exact Grew.refl _ | rfl
              simp only [Act.put, List.setIfInBounds_toArray, List.set_cons_zero, List.set_cons_succ, Nat.reduceAdd]
              apply Facts.Lex.exact [] _ (by kernel_rfl)
              · intro u W hC _
                unfold Facts.one
                go_simp
                all_goals first | exact ⟨Grew.refl _, rfl⟩ | exact Grew.refl _ | rfl
              simp only [Act.put, List.setIfInBounds_toArray, List.set_cons_zero, List.set_cons_succ, Nat.reduceAdd]
              refine Facts.Lex.done fun u W3 hC hL => ?_
              have HGW3 := Lib.hid (HGW.out.trans hC)
              clear hL hC
              go_wp2
              have HCELL : Hid (∀ j, j < 128 → ∀ b', b[j]?.getD 0 = b' → W3.cell? (ad2.add j) = some (.int .u8 (b'.toNat : Int))) := Lib.hid fun j hj b' hb' => cellB HGW3.out (HC2.out j hj b' hb')
              go_loopg [18] (128 - 8 * 16) (fun q s18 wx => ∃ j : Nat, j + q = 128 ∧ 8 * 16 ≤ j ∧ s18 = .int .i64 j ∧ W3 = wx)
              case atStart => exact ⟨8 * 16, by omega, Nat.le_refl _, by first | rfl | simp, rfl⟩
              case round =>
                obtain ⟨j, hjq, hjt, rfl, rfl⟩ := hrel
                cases gk with
                | succ q =>
                  have hj : (j : Int) < 128 := by omega
                  have hj2 : j < 128 := by omega
                  have hcell := HCELL.out j hj2 c (HPUR.out j (by omega) hj2)
                  go_wp2
                  go_roundg q
                  case measure => omega
                  case rel => exact ⟨j + 1, by omega, by omega, by first | rfl | simp | (simp; omega), rfl⟩
                | zero =>
                  have hj : ¬ (j : Int) < 128 := by omega
                  go_wp2_with fail
                  refine (alive_any W3).mono ?_
                  rintro e W4 ⟨rfl, g4⟩
                  have HG5 := Lib.hid (HG0.out.trans (HGW3.out.trans g4))
                  clear g4
                  go_wp2
                  go_returns
                  exact ⟨rfl, HG5.out⟩
end Go.Proofs.Ytiajjkjdmcoodaa.DKeepsN
