/-
  The document's Read: what fills an area.
  Conditions: those that each lemma names.
-/
import Derived.Test.YtbnicphegbdfnaaQN
import Derived.Test.YtbnicphegbdfnaaDKeepsH
namespace Go.Proofs.Ytbnicphegbdfnaa.QR
set_option maxRecDepth 100000
open Go Go.RowKit Go.Proofs.Ytbnicphegbdfnaa Go.Proofs.Ytbnicphegbdfnaa.Facts Go.Proofs.Ytbnicphegbdfnaa.Bytes Go.Proofs.Ytbnicphegbdfnaa.DKeep Go.Proofs.Ytbnicphegbdfnaa.DSmall Go.Proofs.Ytbnicphegbdfnaa.Puts Go.Proofs.Ytbnicphegbdfnaa.Scan Go.Proofs.Ytbnicphegbdfnaa.Rscan Go.Proofs.Ytbnicphegbdfnaa.Rnums Go.Proofs.Ytbnicphegbdfnaa.SPure Go.Proofs.Ytbnicphegbdfnaa.SSeal Go.Proofs.Ytbnicphegbdfnaa.SOpen Go.Proofs.Ytbnicphegbdfnaa.SOpen2 Go.Proofs.Ytbnicphegbdfnaa.JC Go.Proofs.Ytbnicphegbdfnaa.JF Go.Proofs.Ytbnicphegbdfnaa.DRefA Go.Proofs.Ytbnicphegbdfnaa.DRefB Go.Proofs.Ytbnicphegbdfnaa.DSim Go.Proofs.Ytbnicphegbdfnaa.DRefD Go.Proofs.Ytbnicphegbdfnaa.AP Go.Proofs.Ytbnicphegbdfnaa.AQ Go.Proofs.Ytbnicphegbdfnaa.AA Go.Proofs.Ytbnicphegbdfnaa.AV Go.Proofs.Ytbnicphegbdfnaa.AR Go.Proofs.Ytbnicphegbdfnaa.RC Go.Proofs.Ytbnicphegbdfnaa.RE Go.Proofs.Ytbnicphegbdfnaa.QA Go.Proofs.Ytbnicphegbdfnaa.QN
theorem told_plain (l : List UInt8) (h : 4 ≤ l.length) : toldS l = if Sc.val (l.take 4) ≤ l.length - 4 ∧ some0 ((l.drop 4).drop (Sc.val (l.take 4))) = false then ((l.drop 4).take (Sc.val (l.take 4)), true) else ([], false) := by
  have hn : Sc.num ⟨l, 0⟩ 4 = (Sc.val (l.take 4), ⟨l.drop 4, 0⟩) := by
    unfold Sc.num Sc.take
    rw [if_pos rfl, if_pos (by show 4 ≤ l.length; omega)]
  unfold toldS
  rw [hn]
  simp only
  obtain ⟨n, hnn⟩ : ∃ n, Sc.val (l.take 4) = n := ⟨_, rfl⟩
  rw [hnn]
  have hleft : Sc.left ⟨l.drop 4, 0⟩ = l.length - 4 := by unfold Sc.left; rw [if_pos rfl, List.length_drop]
  rw [hleft]
  by_cases h1 : n ≤ l.length - 4
  · have e1 : Sc.rule ⟨l.drop 4, 0⟩ (decide ((n : Int) ≤ ((l.length - 4 : Nat) : Int))) 2 = ⟨l.drop 4, 0⟩ := by
      rw [decide_eq_true (by omega)]
      rfl
    rw [e1]
    have e2 : Sc.take ⟨l.drop 4, 0⟩ n = ((l.drop 4).take n, ⟨(l.drop 4).drop n, 0⟩) := by
      unfold Sc.take
      rw [if_pos rfl, if_pos (by show n ≤ (l.drop 4).length; rw [List.length_drop]; exact h1)]
    rw [e2]
    simp only
    have e3 : Sc.left ⟨(l.drop 4).drop n, 0⟩ = ((l.drop 4).drop n).length := by unfold Sc.left; rw [if_pos rfl]
    have e4 : Sc.take ⟨(l.drop 4).drop n, 0⟩ (Sc.left ⟨(l.drop 4).drop n, 0⟩) = ((l.drop 4).drop n, ⟨[], 0⟩) := by
      rw [e3]
      unfold Sc.take
      rw [if_pos rfl, if_pos (Nat.le_refl _), List.take_length, List.drop_length]
    rw [e4]
    simp only
    cases hs : some0 ((l.drop 4).drop n) with
    | false =>
      have e5 : Sc.rule ⟨([] : List UInt8), 0⟩ (!false) 2 = ⟨[], 0⟩ := rfl
      rw [e5, if_pos rfl, if_pos ⟨h1, rfl⟩]
    | true =>
      have e5 : (Sc.rule ⟨([] : List UInt8), 0⟩ (!true) 2).e = 2 := rfl
      have n2 : ¬ (2 : Int) = 0 := by decide
      rw [e5, if_neg n2, if_neg (fun hh => absurd hh.2 (by decide))]
  · have n2 : ¬ (2 : Int) = 0 := by decide
    have e1 : Sc.rule ⟨l.drop 4, 0⟩ (decide ((n : Int) ≤ ((l.length - 4 : Nat) : Int))) 2 = ⟨l.drop 4, 2⟩ := by
      rw [decide_eq_false (by omega)]
      rfl
    rw [e1]
    have e3 : Sc.take ⟨l.drop 4, 2⟩ n = ([], ⟨l.drop 4, 2⟩) := by
      unfold Sc.take
      exact if_neg n2
    rw [e3]
    simp only
    rw [if_neg (show ¬ (n ≤ l.length - 4 ∧ _) from fun hh => h1 hh.1)]
    have e4 : Sc.left ⟨l.drop 4, 2⟩ = 0 := by unfold Sc.left; exact if_neg n2
    have e5 : Sc.take ⟨l.drop 4, 2⟩ 0 = ([], ⟨l.drop 4, 2⟩) := by
      unfold Sc.take
      exact if_neg n2
    rw [e4, e5]
    simp only
    rw [if_neg]
    unfold Sc.rule
    simp [some0]
/-- What Read answers. -/
def RDA (w : World) (R : Nat × List UInt8 × Int) (e : Ending) (y : World) : Prop := ∃ v, e = .returned (.tuple #[.int .u64 (R.1 : Int), v, .int .i64 R.2.2]) ∧ Rd (fun b => w.heap.size ≤ b) y v R.2.1 ∧ Grew w y
theorem RDA.bad {w : World} {e : Ending} {y : World} (he : e = .returned (.tuple #[.int .u64 0, .slice none 0 0, .int .i64 2])) (hg : Grew w y) : RDA w (0, [], 2) e y := ⟨_, he, Rd.nil _ _, hg⟩
theorem RDA.good {w : World} {e : Ending} {y : World} {s : Nat} {v : Value} {b : List UInt8} (he : e = .returned (.tuple #[.int .u64 (s : Int), v, .int .i64 0])) (hr : Rd (fun b => w.heap.size ≤ b) y v b) (hg : Grew w y) : RDA w (s, b, 0) e y := ⟨_, he, hr, hg⟩
theorem some0_at (l : List UInt8) (i : Nat) (b : UInt8) (h : l[i]? = some b) : some0 (l.drop i) = (b != 0 || some0 (l.drop (i + 1))) := by
  obtain ⟨h1, h2⟩ := List.getElem?_eq_some_iff.1 h
  rw [List.drop_eq_getElem_cons h1, h2]
  rfl
set_option maxHeartbeats 8000000 in
theorem read_any (A1 A2 A3 : Option Addr) (L : List Sec) (n2 n3 c1 c2 c3 : Nat) (f : Int) (o : Bool) (first m : Nat) (w : World) (hS : SR w (.slice A1 L.length c1) L) (hev : Even L) (hn : L.length ≤ 16384) (hq : aref L.length o (first : Int) (m : Int) = 0) :
    Calls Try.prog 82 #[dv A1 A2 A3 L.length n2 n3 c1 c2 c3 f o, .int .i64 (first : Int), .int .i64 (m : Int)] w fun e w' => RDA w (ard L first m) e w' := by
  have HAB : Hid (∀ W, Calls Try.prog 117 #[dv A1 A2 A3 L.length n2 n3 c1 c2 c3 f o, .int .i64 (first : Int), .int .i64 (m : Int)] W fun e w' => e = .returned (.int .i64 0) ∧ Grew W w') := Lib.hid fun W => by
    have h := aable_any A1 A2 A3 L.length n2 n3 c1 c2 c3 f o (first : Int) (m : Int) W hn
    rwa [hq] at h
  have hfit : first + m ≤ L.length ∧ 1 ≤ m := by
    unfold aref at hq
    split at hq
    · omega
    · omega
  have HS := Lib.hid hS
  have HEV := Lib.hid hev
  have HF := Lib.hid hfit
  have HN := Lib.hid hn
  obtain ⟨X, hX⟩ : ∃ X, aload L first m 0 0 [] = X := ⟨_, rfl⟩
  obtain ⟨Y, hY⟩ : ∃ Y, atell X = Y := ⟨_, rfl⟩
  have hYY : ard L first m = Y := by unfold ard; rw [hX, hY]
  rw [hYY]
  have HY := Lib.hid hY
  have HX0 := Lib.hid hX
  have hn3 : Hid (m ≤ 16384) := Lib.hid (by omega)
  clear hS hev hq hfit hn hX hY hYY
  unfold dv at HAB ⊢
  go_enter Try.func82, Try.ntmps82
  go_upto_region 1 with fail
  have HG0 : Hid (Grew w (w.alloc (.cells #[.slice A1 L.length c1, .slice A2 n2 c2, .slice A3 n3 c3, .int .i64 f, .bool o] 49))) := Lib.hid (grew_new _)
  have HB3 : Hid (RF.FX (w.alloc (.cells #[.slice A1 L.length c1, .slice A2 n2 c2, .slice A3 n3 c3, .int .i64 f, .bool o] 49)) w.heap.size (.slice A1 L.length c1) (.slice A2 n2 c2) (.slice A3 n3 c3) (.int .i64 f) (.bool o)) := Lib.hid (heap_alloc_new w _)
  generalize w.alloc (.cells #[.slice A1 L.length c1, .slice A2 n2 c2, .slice A3 n3 c3, .int .i64 f, .bool o] 49) = W1 at *
  obtain ⟨BP, hBP⟩ : ∃ BP, w.heap.size = BP := ⟨_, rfl⟩
  rw [hBP] at HB3 ⊢
  clear hBP
  obtain ⟨b0, b1, b2, b3, b4⟩ := HB3.out.cells
  go_wp2_with fail
  refine (HAB.out W1).mono ?_
  rintro e W0 ⟨rfl, hg1⟩
  have HG1 := Lib.hid (HG0.out.trans hg1)
  have HB1 := Lib.hid (HB3.out.grew hg1)
  clear b0 b1 b2 b3 b4 hg1 HG0 HB3 HAB
  have HOW0 : Hid (W0.ownsRow W0.heap.size 5 1 (.slice none 0 0) ([] : List UInt8).length (bv [])) := Lib.hid (World.ownsRow_nil _ _ _ _)
  go_wp2_with fail
  go_loopg [10, 11, 12, 13, 14, 15] m (fun q s10 s11 s12 s13 s14 s15 wx => ∃ (k s : Nat) (acc : List UInt8) (A8 : Option Addr) (n8 c8 : Nat), k + q = m ∧ s12 = .int .i64 (k : Int) ∧ s11 = .int .u64 (s : Int) ∧ s10 = .slice A8 n8 c8 ∧ Hid (n8 = acc.length) ∧ Hid (Grew W0 wx) ∧ Hid (wx.ownsRow W0.heap.size 5 1 (.slice A8 n8 c8) acc.length (bv acc)) ∧ Hid (aload L first q k s acc = X) ∧ Hid (acc.length = 108 * k))
  case atStart => exact ⟨0, 0, [], none, 0, 0, Nat.zero_add _, rfl, rfl, rfl, Lib.hid rfl, Lib.hid (Grew.refl _), HOW0, HX0, Lib.hid rfl⟩
  case round =>
    obtain ⟨k, s, acc, A8, n8, c8, hkq, rfl, rfl, rfl, HN8, HGX, HOW, HLX, HLA⟩ := hrel
    clear HX0 HOW0
    have HBW := Lib.hid (HB1.out.grew HGX.out)
    obtain ⟨b0, b1, b2, b3, b4⟩ := HBW.out.cells
    cases gk with
    | zero =>
      have hke : ¬ (k : Int) < (m : Int) := by omega
      have hX : X = some (s, acc) := by have := HLX.out; rw [aload] at this; exact this.symm
      subst hX
      have hk : k = m := by omega
      have HLA2 : Hid (acc.length = 108 * m) := Lib.hid (by rw [HLA.out, hk])
      go_upto_region 15 with fail
      have HRS : Hid (RS (fun b => W0.heap.size ≤ b ∧ b < wr.heap.size) (wr.alloc (.cells #[.slice A8 n8 c8, .int .i64 0, .int .i64 0] 165)) wr.heap.size ⟨acc, 0⟩) := Lib.hid (by
        refine ⟨fun hh => Nat.lt_irrefl _ hh.2, by simp, _, acc, 0, heap_alloc_new wr _, ?_, Nat.zero_le _, rfl⟩
        exact (Rd.of_own HOW.out rfl).grew (DRefA.grew_new _))
      have HRA0 : Hid (Rd (fun b => W0.heap.size ≤ b ∧ b < wr.heap.size) wr (.slice A8 n8 c8) acc) := Lib.hid (Rd.of_own HOW.out rfl)
      have HGW1 : Hid (Grew W0 (wr.alloc (.cells #[.slice A8 n8 c8, .int .i64 0, .int .i64 0] 165))) := Lib.hid (HGX.out.trans (DRefA.grew_new _))
      have HGS : Hid (W0.heap.size ≤ wr.heap.size) := Lib.hid HGX.out.size
      have HRA1 : Hid (Rd (fun b => W0.heap.size ≤ b ∧ b < wr.heap.size) (wr.alloc (.cells #[.slice A8 n8 c8, .int .i64 0, .int .i64 0] 165)) (.slice A8 n8 c8) acc) := Lib.hid (HRA0.out.grew (DRefA.grew_new _))
      generalize wr.alloc (.cells #[.slice A8 n8 c8, .int .i64 0, .int .i64 0] 165) = W2 at *
      obtain ⟨g, hg⟩ : ∃ g, wr.heap.size = g := ⟨_, rfl⟩
      rw [hg] at HRS HGS HRA1 ⊢
      clear hg HRA0 b0 b1 b2 b3 b4 HOW HGX HLX HLA hkq hk HBW
      obtain ⟨n, s1, hn⟩ : ∃ n s1, Sc.num ⟨acc, 0⟩ 4 = (n, s1) := ⟨_, _, rfl⟩
      have h4 : 4 ≤ acc.length := by have := HLA2.out; have := HF.out; omega
      have hnv : Sc.val (acc.take 4) = n := by
        have h := congrArg Prod.fst hn
        unfold Sc.num Sc.take at h
        rw [if_pos rfl, if_pos h4] at h
        exact h
      have hn32 : n < 4294967296 := by
        have := Nums.val_lt acc 4
        rw [hnv] at this
        exact this
      have htold := told_plain acc h4
      rw [hnv] at htold
      have hYY : Y = if (toldS acc).2 = true then (s, (toldS acc).1, 0) else (0, [], 2) := by rw [← HY.out]; rfl
      have HTO := Lib.hid htold
      have HYY := Lib.hid hYY
      have HNUM : Hid (Sc.num ⟨acc, 0⟩ (width 4) = (n, s1)) := Lib.hid (by rw [show width 4 = 4 from by decide]; exact hn)
      have hni : IntKind.i64.wrap (n : Int) = (n : Int) := IntWalk.i64_in _ (by omega)
      have HN32 := Lib.hid hn32
      have H4 := Lib.hid h4
      have hacc : n8 = acc.length := HN8.out
      have hal : acc.length ≤ 1769472 := by have := HLA2.out; have := hn3.out; omega
      have hw4 : IntKind.i64.wrap ((n8 : Int) - 4) = (n8 : Int) - 4 := IntWalk.i64_in _ (by omega)
      have HAL := Lib.hid hal
      have HACC := Lib.hid hacc
      clear htold hYY hn hnv hn32 h4 hal hacc HY HN8
      go_wp2_with fail
      refine (rnum_eq _ _ _ _ 4 _ _ HRS HNUM).mono ?_
      rintro e w1 ⟨rfl, r1, k1⟩
      have HG2 := Lib.hid (grew_chg HGW1.out k1 HGS.out)
      have HRA := Lib.hid (far HRA1.out k1 (fun h => Nat.lt_irrefl _ h.2))
      clear r1 k1 HRS HGW1 HRA1 HNUM
      have HGE := Lib.hid (HG1.out.trans HG2.out)
      by_cases hnl : (n8 : Int) - 4 < (n : Int)
      · have HYB : Hid (Y = (0, [], 2)) := Lib.hid (by
          have ht : toldS acc = ([], false) := by rw [HTO.out, if_neg (fun hh => by have := hh.1; have := HACC.out; have := H4.out; omega)]
          rw [HYY.out, ht]
          rfl)
        clear HTO HYY HRA
        go_wp2
        go_returns
        rw [HYB.out]
        exact RDA.bad rfl HGE.out
      · have hwn : IntKind.i64.wrap (4 + (n : Int)) = 4 + (n : Int) := IntWalk.i64_in _ (by have := HN32.out; omega)
        obtain ⟨n4, hn4⟩ : ∃ n4 : Nat, 4 + n = n4 := ⟨_, rfl⟩
        have hn4i : 4 + (n : Int) = (n4 : Int) := by omega
        have HN4 := Lib.hid hn4
        have hn4l : n4 ≤ acc.length := by have := HACC.out; omega
        have HN4L := Lib.hid hn4l
        have HTO2 : Hid (toldS acc = if some0 (acc.drop n4) = false then ((acc.drop 4).take n, true) else ([], false)) := Lib.hid (by
          rw [HTO.out, List.drop_drop, hn4]
          have : n ≤ acc.length - 4 := by have := HACC.out; omega
          by_cases hz : some0 (acc.drop n4) = false
          · rw [if_pos ⟨this, hz⟩, if_pos hz]
          · rw [if_neg (fun hh => hz hh.2), if_neg hz])
        rw [hn4i] at hwn
        clear HTO hn4 hn4l
        obtain ⟨ad8, rfl⟩ : ∃ ad, A8 = some ad := by
          obtain ⟨A', c', e', _, _, e3, _⟩ := HRA.out
          injection e' with e4 _ e5
          subst e4 e5
          cases A8 with
          | none => have := e3 rfl; have := H4.out; omega
          | some ad => exact ⟨ad, rfl⟩
        have hc8 : n8 ≤ c8 ∧ c8 ≤ 9223372036854775807 := by
          obtain ⟨A', c', e', e1, e2, _, _⟩ := HRA.out
          injection e' with _ e4 e5
          subst e5
          unfold maxLen at e2
          exact ⟨by omega, by omega⟩
        have HC8 := Lib.hid hc8
        clear hc8
        go_wp2_with fail
        go_loopg [18] (acc.length - n4) (fun q2 s18 wx => ∃ (i : Nat), i + q2 = acc.length ∧ n4 ≤ i ∧ s18 = .int .i64 (i : Int) ∧ wx = w1 ∧ Hid (some0 (acc.drop i) = some0 (acc.drop n4)))
        case atStart => exact ⟨n4, by have := HN4L.out; omega, Nat.le_refl _, by first | rfl | (rw [hn4i]), rfl, Lib.hid rfl⟩
        case round =>
          obtain ⟨i, hiq, hni4, rfl, hwe, HSO⟩ := hrel
          have hwe2 := hwe.symm
          subst hwe2
          clear hwe
          cases gk with
          | zero =>
            have hil : ¬ (i : Int) < (n8 : Int) := by have := HACC.out; omega
            have hso : some0 (acc.drop n4) = false := by
              rw [← HSO.out, List.drop_of_length_le (by omega)]
              rfl
            have HYB : Hid (Y = (s, (acc.drop 4).take n, 0)) := Lib.hid (by
              have ht : toldS acc = ((acc.drop 4).take n, true) := by rw [HTO2.out, if_pos hso]
              rw [HYY.out, ht]
              rfl)
            have HRV : Hid (Rd (fun b => w.heap.size ≤ b) w1 (.slice (some (ad8.add 4)) n (c8 - 4)) ((acc.drop 4).take n)) := Lib.hid ((DKeepsH.sub_rd HRA.out HACC.out.symm 4 n (c8 - 4) (by have := HN4L.out; have := HACC.out; have := HN4.out; omega) (by have := HC8.out; have := HN4L.out; have := HACC.out; have := HN4.out; omega) (by have := HC8.out; omega)).mono fun b hb => Nat.le_trans HG1.out.size hb.1)
            have s1' : (4 : Int) ≤ (n4 : Int) := by have := HN4.out; omega
            have s2' : (n4 : Int) ≤ (c8 : Int) := by have := HN4L.out; have := HC8.out; have := HACC.out; omega
            clear hso HSO HTO2 HYY
            go_upto_region 23 with fail
            refine Facts.wp_region_text (by kernel_rfl) (by kernel_rfl) ?_
            apply Facts.Lex.exact [] _ (by kernel_rfl)
            · intro u W hC _
              unfold Facts.one
              go_simp
              all_goals (first | exact ⟨Grew.refl _, rfl⟩ | rfl)
            simp only [Act.put, List.setIfInBounds_toArray, List.set_cons_zero, List.set_cons_succ, Nat.zero_add]
            apply Facts.Lex.exact [] _ (by kernel_rfl)
            · intro u W hC _
              unfold Facts.one
              go_simp
              all_goals (first | exact ⟨Grew.refl _, rfl⟩ | rfl)
            simp only [Act.put, List.setIfInBounds_toArray, List.set_cons_zero, List.set_cons_succ, Nat.reduceAdd]
            apply Facts.Lex.exact [] _ (by kernel_rfl)
            · intro u W hC _
              unfold Facts.one
              go_simp
              all_goals (first | exact ⟨Grew.refl _, rfl⟩ | rfl)
            simp only [Act.put, List.setIfInBounds_toArray, List.set_cons_zero, List.set_cons_succ, Nat.reduceAdd]
            apply Facts.Lex.exact [] (.int .i64 (n4 : Int)) (by kernel_rfl)
            · intro u W hC _
              unfold Facts.one
              go_simp
              all_goals (first | exact ⟨Grew.refl _, rfl⟩ | rfl)
            simp only [Act.put, List.setIfInBounds_toArray, List.set_cons_zero, List.set_cons_succ, Nat.reduceAdd]
            apply Facts.Lex.exact [] (.slice (some (ad8.add 4)) n (c8 - 4)) (by kernel_rfl)
            · intro u W hC _
              unfold Facts.one
              go_simp
              refine ⟨Grew.refl _, ?_⟩
              show Value.slice _ _ _ = _
              rw [if_neg (by have := HC8.out; have := HACC.out; have := HLA2.out; have := HF.out; omega), show n4 - 4 = n by have := HN4.out; omega]
            simp only [Act.put, List.setIfInBounds_toArray, List.set_cons_zero, List.set_cons_succ, Nat.reduceAdd]
            apply Facts.Lex.exact [] _ (by kernel_rfl)
            · intro u W hC _
              unfold Facts.one
              go_simp
              all_goals (first | exact ⟨Grew.refl _, rfl⟩ | rfl)
            simp only [Act.put, List.setIfInBounds_toArray, List.set_cons_zero, List.set_cons_succ, Nat.reduceAdd]
            apply Facts.Lex.exact [] _ (by kernel_rfl)
            · intro u W hC _
              unfold Facts.one
              go_simp
              all_goals (first | exact ⟨Grew.refl _, rfl⟩ | rfl)
            simp only [Act.put, List.setIfInBounds_toArray, List.set_cons_zero, List.set_cons_succ, Nat.reduceAdd]
            apply Facts.Lex.exact [] _ (by kernel_rfl)
            · intro u W hC _
              unfold Facts.one
              go_simp
              all_goals (first | exact ⟨Grew.refl _, rfl⟩ | rfl)
            simp only [Act.put, List.setIfInBounds_toArray, List.set_cons_zero, List.set_cons_succ, Nat.reduceAdd]
            refine Facts.Lex.done fun u W hC _ => ?_
            have HGF := Lib.hid (HGE.out.trans hC)
            have HRF := Lib.hid (HRV.out.grew hC)
            clear hC
            go_wp2
            go_returns
            rw [HYB.out]
            exact RDA.good rfl HRF.out HGF.out
          | succ q2 =>
            have hil : (i : Int) < (n8 : Int) := by have := HACC.out; omega
            obtain ⟨b, hb⟩ : ∃ b, acc[i]? = some b := ⟨_, List.getElem?_eq_getElem (by omega)⟩
            obtain ⟨ad', c', e', _, hcl⟩ := HRA.out.cell (k := i) (by omega)
            injection e' with e4 _ _
            injection e4 with e4
            subst e4
            rw [hb, Option.getD_some] at hcl
            have hso := some0_at acc i b hb
            have hwi : IntKind.i64.wrap ((i : Int) + 1) = (i : Int) + 1 := IntWalk.i64_in _ (by have := HAL.out; omega)
            by_cases hb0 : b = 0
            · have HSO2 : Hid (some0 (acc.drop (i + 1)) = some0 (acc.drop n4)) := Lib.hid (by rw [← HSO.out, hso, hb0]; rfl)
              have hbn : ((b.toNat : Int) != 0) = false := by rw [hb0]; rfl
              clear hso hb hb0
              go_wp2
              go_roundg q2
              case measure => omega
              case rel => exact ⟨i + 1, by omega, by omega, by first | rfl | simp, rfl, HSO2⟩
            · have hbn : ((b.toNat : Int) != 0) = true := by
                have : b.toNat ≠ 0 := fun h => hb0 (UInt8.toNat_inj.1 (by simpa using h))
                simp
                omega
              have hs1 : some0 (acc.drop n4) = true := by
                rw [← HSO.out, hso]
                simp [hb0]
              have HYB : Hid (Y = (0, [], 2)) := Lib.hid (by
                have ht : toldS acc = ([], false) := by rw [HTO2.out, if_neg (by rw [hs1]; decide)]
                rw [HYY.out, ht]
                rfl)
              clear hso hb hs1 HTO2 HYY
              go_wp2
              go_returns
              rw [HYB.out]
              exact RDA.bad rfl HGE.out
    | succ q =>
      have hke : (k : Int) < (m : Int) := by omega
      obtain ⟨ix, hix0⟩ : ∃ ix, first + k = ix := ⟨_, rfl⟩
      have hidx : ix < L.length := by have := HF.out; omega
      have e2 : IntKind.i64.wrap ((first : Int) + (k : Int)) = (ix : Int) := by rw [IntWalk.i64_in _ (by have := HN.out; omega)]; omega
      obtain ⟨B, hB⟩ : ∃ B, L[ix]? = some B := ⟨_, List.getElem?_eq_getElem hidx⟩
      have HB128 : Hid (B.length = 128) := Lib.hid (HEV.out B (List.mem_of_getElem? hB))
      obtain ⟨A1', c1', e', q1, q2, q3, q4⟩ := HS.out.grew (HG1.out.trans HGX.out)
      injection e' with e5 _ e6
      subst e5 e6
      obtain ⟨ad, rfl⟩ : ∃ ad, A1 = some ad := by
        cases A1 with
        | none => have := q3 rfl; omega
        | some ad => exact ⟨ad, rfl⟩
      have hcell := q4 ad rfl _ B hB
      unfold sv at hcell
      obtain ⟨vb, wb, hcv, hrb, hgb⟩ := run_toBytes (P := Try.prog) (w := wr) (src := 9) (dst := 23) (e := 5) ⟨B.toArray⟩ Try.underlying9 Try.underlying23 Try.underlying5 (by rw [DRefE.ba_size, HB128.out]; decide)
      have HGB := Lib.hid hgb
      have hlx := HLX.out
      rw [aload, hix0, hB, Option.getD_some] at hlx
      have HOP := Lib.hid (ropen_any _ vb B wb hrb)
      have HOL := Lib.hid (opened_load B)
      rcases hop : opened B with ⟨st, ld, er⟩
      rw [hop] at hlx HOP HOL
      have HLX2 := Lib.hid hlx
      have hix : (ix : Int) < (L.length : Int) := by omega
      clear hlx hop hrb hgb q4 q3 q2 q1 hB hidx HLX hix0
      go_wp2_with fail
      refine HOP.out.mono ?_
      rintro e w1 ⟨v1, rfl, hr1, hg1⟩
      obtain ⟨A12, c12, rfl, _⟩ := id hr1
      have HR1 := Lib.hid hr1
      have HG2 := Lib.hid (HGX.out.trans (HGB.out.trans hg1))
      have HOW1 := Lib.hid (JF.own_grew (JF.own_grew HOW.out HGB.out) hg1)
      clear hr1 hg1 HOW HGX HOP b0 b1 b2 b3 b4 hcell hcv e2 HBW
      by_cases h0 : er = 0
      · subst h0
        by_cases h1 : k = 0 ∨ st = s
        · have HLX3 : Hid (aload L first q (k + 1) st (acc ++ ld) = X) := Lib.hid (by have := HLX2.out; rw [if_pos ⟨rfl, h1⟩] at this; exact this)
          have hl108 : ld.length = 108 := HOL.out rfl
          clear HLX2 HOL
          obtain ⟨v3, w3, r3, o3, b3⟩ := run_app2 w1 W0.heap.size (.slice A8 n8 c8) A12 c12 acc ld _ HOW1.out HR1.out (by rw [HLA.out, hl108]; have := hn3.out; omega) HG2.out.size
          obtain ⟨_, A3', c3', rfl⟩ := own_len o3 (by rw [List.length_append]; omega)
          have HR3 := Lib.hid r3
          have HO3 := Lib.hid o3
          have HG3 : Hid (Grew W0 w3) := Lib.hid ((show Below W0.heap.size W0 w1 from HG2.out).trans b3)
          have HLA3 : Hid ((acc ++ ld).length = 108 * (k + 1)) := Lib.hid (by rw [List.length_append, HLA.out, hl108]; omega)
          have hw1 : IntKind.i64.wrap ((k : Int) + 1) = (k : Int) + 1 := IntWalk.i64_in _ (by have := hn3.out; omega)
          obtain ⟨n3', hnn3⟩ : ∃ n3', (acc ++ ld).length = n3' := ⟨_, rfl⟩
          have HN3 := Lib.hid hnn3
          rw [hnn3] at HR3
          have HO3' : Hid (w3.ownsRow W0.heap.size 5 1 (.slice A3' n3' c3') (acc ++ ld).length (bv (acc ++ ld))) := Lib.hid (by rw [← hnn3]; exact HO3.out)
          clear r3 o3 b3 hl108 HOW1 HR1 hnn3 HO3
          by_cases hk0 : k = 0
          · subst hk0
            have hk1 : ¬ (0 : Int) < ((0 : Nat) : Int) := by decide
            clear h1
            go_wp2_with (at_builtin; refine SSeal.wpList_app' (by rfl) (.tmp 56) (.tmp 57) 23 23 (by with_reducible rfl) _ _ (by rfl) (by rfl) _ w3 (by exact HR3.out) ?_)
            go_roundg q
            case measure => omega
            case rel => exact ⟨0 + 1, st, acc ++ ld, A3', n3', c3', by omega, by first | rfl | simp, rfl, rfl, Lib.hid HN3.out.symm, HG3, HO3', HLX3, HLA3⟩
          · obtain rfl : st = s := h1.resolve_left hk0
            have hk1 : (0 : Int) < (k : Int) := by omega
            have hss : ((st : Int) != (st : Int)) = false := by simp
            clear h1 hk0
            go_wp2_with (at_builtin; refine SSeal.wpList_app' (by rfl) (.tmp 56) (.tmp 57) 23 23 (by with_reducible rfl) _ _ (by rfl) (by rfl) _ w3 (by exact HR3.out) ?_)
            go_roundg q
            case measure => omega
            case rel => exact ⟨k + 1, st, acc ++ ld, A3', n3', c3', by omega, by first | rfl | simp, rfl, rfl, Lib.hid HN3.out.symm, HG3, HO3', HLX3, HLA3⟩
        · have hX : X = none := by have := HLX2.out; rw [if_neg (fun hh => h1 hh.2)] at this; exact this.symm
          have HYY : Hid (Y = (0, [], 2)) := Lib.hid (by rw [← HY.out, hX]; rfl)
          have hk1 : (0 : Int) < (k : Int) := by omega
          have d2 : ((st : Int) != (s : Int)) = true := by simp; omega
          have d3 : ¬ (st = s) := fun h => h1 (.inr h)
          have HGE := Lib.hid (HG1.out.trans HG2.out)
          clear HLX2 HOL h1 HOW1 HR1 hX
          go_wp2
          go_returns
          rw [HYY.out]
          exact RDA.bad rfl HGE.out
      · have hX : X = none := by have := HLX2.out; rw [if_neg (fun hh => h0 hh.1)] at this; exact this.symm
        have HYY : Hid (Y = (0, [], 2)) := Lib.hid (by rw [← HY.out, hX]; rfl)
        have d2 : (er != 0) = true := by simpa using h0
        have HGE := Lib.hid (HG1.out.trans HG2.out)
        clear HLX2 HOL h0 HOW1 HR1 hX
        go_wp2
        go_returns
        rw [HYY.out]
        exact RDA.bad rfl HGE.out
end Go.Proofs.Ytbnicphegbdfnaa.QR
