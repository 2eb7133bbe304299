/-
  Which entries are a log, by the program; equal logs.
  Conditions: those that each lemma names.
-/
import Derived.Test.YtmnfajplfnfgpabUC
import Derived.Lib.Hide
import Derived.Deep.LoopGhost
namespace Go.Proofs.Ytmnfajplfnfgpab.UD
set_option maxRecDepth 100000
open Go Go.RowKit Go.Lib Go.Proofs.Ytmnfajplfnfgpab Go.Proofs.Ytmnfajplfnfgpab.Facts Go.Proofs.Ytmnfajplfnfgpab.Ints Go.Proofs.Ytmnfajplfnfgpab.PA Go.Proofs.Ytmnfajplfnfgpab.UA Go.Proofs.Ytmnfajplfnfgpab.UM Go.Proofs.Ytmnfajplfnfgpab.UB Go.Proofs.Ytmnfajplfnfgpab.UC Go.Proofs.Ytmnfajplfnfgpab.Bytes


/-- Is the k-th one such, and behind the one ahead? -/
def stepB (l : List En) (k : Nat) : Bool := okE (ee l k) && (decide (k = 0) || behE (ee l (k - 1)) (ee l k))
def rightL (l : List En) : Bool := (List.range l.length).all (stepB l)
theorem rightL_no {l : List En} {k : Nat} (hk : k < l.length) (h : stepB l k = false) : rightL l = false := by
  unfold rightL
  rw [List.all_eq_false]
  exact ⟨k, List.mem_range.2 hk, by simp [h]⟩
theorem rightL_yes {l : List En} (h : ∀ j, j < l.length → stepB l j = true) : rightL l = true := by
  unfold rightL
  rw [List.all_eq_true]
  exact fun j hj => h j (List.mem_range.1 hj)
def SzL (l : List En) : Prop := ∀ x ∈ l, SzE x
theorem SzL.at {l : List En} (h : SzL l) {k : Nat} (hk : k < l.length) : SzE (ee l k) := by
  have e : ee l k = l[k] := by unfold ee; rw [List.getElem?_eq_getElem hk]; rfl
  rw [e]
  exact h _ (List.getElem_mem hk)
theorem lt_wrap {k n : Nat} (h : k < n) (hn : n ≤ 4611686018427387904) : wrap64 (((k + 1 : Nat) : Int) - 1) = (k : Int) := by unfold wrap64; omega
set_option maxHeartbeats 8000000 in
theorem right_any (v : Value) (l : List En) (w : World) (h : Ens w v l) (hz : SzL l) (hl : l.length * 80 ≤ 140737488355328) : Calls Try.prog 11 #[v] w fun e w' => e = .returned (.bool (rightL l)) ∧ Grew w w' := by
  have HL := Lib.hid h
  have HZ := Lib.hid hz
  obtain ⟨A, c, rfl, hlc, hcm, _⟩ := h
  have hlm : l.length ≤ 4611686018427387904 := by omega
  have HLM := Lib.hid hlm
  clear hz hlm hcm hl
  go_enter Try.func11, Try.ntmps11
  go_wp2
  go_loopg [7] l.length (fun g s7 wx => ∃ k : Nat, k + g = l.length ∧ s7 = .int .i64 k ∧ Hid (∀ j, j < k → stepB l j = true) ∧ Hid (Grew w wx))
  case atStart => exact ⟨0, by omega, rfl, Lib.hid (fun j h => absurd h (by omega)), Lib.hid (Grew.refl _)⟩
  case round =>
    obtain ⟨k, hkg, rfl, HJ, HG⟩ := hrel
    cases gk with
    | zero =>
      have hkz : ¬ ((k : Int) < (l.length : Int)) := by omega
      have HR : Hid (rightL l = true) := Lib.hid (rightL_yes fun j hj => HJ.out j (by omega))
      go_wp2
      go_returns
      refine ⟨?_, HG.out⟩
      rw [HR.out]
      rfl
    | succ g =>
      have hkz : (k : Int) < (l.length : Int) := by omega
      have hkl : k < l.length := by omega
      have HKL := Lib.hid hkl
      have hx := ee_get hkl
      have HMAY := Lib.hid (may_any (ee l k) (HZ.out.at hkl))
      have hok : stepB l k = (okE (ee l k) && (decide (k = 0) || behE (ee l (k - 1)) (ee l k))) := rfl
      have HW := Lib.hid (wr1b hkl HLM.out)
      have HBEHA := Lib.hid (fun m => behind_any (ee l m) (ee l k))
      obtain ⟨ad, c8, e8, _, d0, d1, d2, d3, d4, d5, d6, d7, d8, d9⟩ := Ens_at (HL.out.grew HG.out) hx
      injection e8 with e1 e2 e3
      subst e1 e3
      clear e2 hx
      obtain ⟨x, hxe⟩ : ∃ x, ee l k = x := ⟨_, rfl⟩
      rw [hxe] at HMAY hok HBEHA d0 d1 d2 d3 d4 d5 d6 d7 d8 d9
      have HXE := Lib.hid hxe
      clear hxe hkl
      obtain ⟨r, ln, lb, wh, sd, bs, qt, qn, pr, st⟩ := x
      unfold env at HMAY HBEHA
      simp only at HMAY HBEHA d0 d1 d2 d3 d4 d5 d6 d7 d8 d9
      have BX := Lib.hid (blk_new wr (.cells #[.int .u64 (r : Int), .int .i64 ln, .int .i64 lb, .int .i64 wh, .int .i64 sd, .int .i64 bs, .int .i64 qt, .int .u64 (qn : Int), .int .u64 (pr : Int), .int .i64 st] 25))
      have GA : Hid (Grew wr (wr.alloc (.cells #[.int .u64 (r : Int), .int .i64 ln, .int .i64 lb, .int .i64 wh, .int .i64 sd, .int .i64 bs, .int .i64 qt, .int .u64 (qn : Int), .int .u64 (pr : Int), .int .i64 st] 25))) := Lib.hid (by unfold Grew; go_grown)
      cases ho : okE ⟨r, ln, lb, wh, sd, bs, qt, qn, pr, st⟩ with
      | false =>
        have HR : Hid (rightL l = false) := Lib.hid (rightL_no HKL.out (by rw [hok, ho]; rfl))
        rw [ho] at HMAY
        clear hok ho HBEHA
        go_wp2
        refine Facts.wp_region_text (by kernel_rfl) (by kernel_rfl) ?_
        apply Facts.Lex.exact [] _ (by kernel_rfl)
        · intro u W hC _
          have hb := ten_c (blk_keep BX.out hC)
          obtain ⟨b0, b1, b2, b3, b4, b5, b6, b7, b8, b9⟩ := hb
          unfold Facts.one
          go_simp
          first | exact ⟨Grew.refl _, rfl⟩ | rfl
        simp only [Act.put, List.setIfInBounds_toArray, List.set_cons_zero, List.set_cons_succ, Nat.zero_add]
        apply Facts.Lex.exact [] _ (by kernel_rfl)
        · intro u W hC _
          unfold Facts.one
          go_simp
          exact ((HMAY.out W).mono fun e w' ⟨he, hg⟩ => ⟨_, he, hg, rfl⟩)
        simp only [Act.put, List.setIfInBounds_toArray, List.set_cons_zero, List.set_cons_succ, Nat.reduceAdd]
        repeat
          apply Facts.Lex.exact [] _ (by kernel_rfl)
          · intro u W hC _
            have hb := ten_c (blk_keep BX.out hC)
            obtain ⟨b0, b1, b2, b3, b4, b5, b6, b7, b8, b9⟩ := hb
            unfold Facts.one
            go_simp
            first | exact ⟨Grew.refl _, rfl⟩ | rfl
          simp only [Act.put, List.setIfInBounds_toArray, List.set_cons_zero, List.set_cons_succ, Nat.reduceAdd]

        refine Facts.Lex.done fun u W2 hC hL => ?_
        have G2 := Lib.hid (HG.out.trans (GA.out.trans hC))
        clear hC hL
        go_wp2
        go_returns
        refine ⟨?_, G2.out⟩
        rw [HR.out]
        rfl

      | true =>
        rw [ho, Bool.true_and] at hok
        rw [ho] at HMAY
        clear ho
        by_cases hk0 : k = 0
        · have HN : Hid (∀ j, j < k + 1 → stepB l j = true) := Lib.hid fun j hj => by
            have : j = k := by omega
            subst this
            rw [hok, hk0]; rfl
          have hgt : decide ((0 : Int) < (k : Int)) = false := decide_eq_false (by omega)
          have hgt2 : decide (0 < k) = false := decide_eq_false (by omega)
          clear hok HBEHA hk0
          go_wp2
          refine Facts.wp_region_text (by kernel_rfl) (by kernel_rfl) ?_
          apply Facts.Lex.exact [] _ (by kernel_rfl)
          · intro u W hC _
            have hb := ten_c (blk_keep BX.out hC)
            obtain ⟨b0, b1, b2, b3, b4, b5, b6, b7, b8, b9⟩ := hb
            unfold Facts.one
            go_simp
            first | exact ⟨Grew.refl _, rfl⟩ | rfl
          simp only [Act.put, List.setIfInBounds_toArray, List.set_cons_zero, List.set_cons_succ, Nat.zero_add]
          apply Facts.Lex.exact [] _ (by kernel_rfl)
          · intro u W hC _
            unfold Facts.one
            go_simp
            exact ((HMAY.out W).mono fun e w' ⟨he, hg⟩ => ⟨_, he, hg, rfl⟩)
          simp only [Act.put, List.setIfInBounds_toArray, List.set_cons_zero, List.set_cons_succ, Nat.reduceAdd]
          repeat
            apply Facts.Lex.exact [] _ (by kernel_rfl)
            · intro u W hC _
              have hb := ten_c (blk_keep BX.out hC)
              obtain ⟨b0, b1, b2, b3, b4, b5, b6, b7, b8, b9⟩ := hb
              unfold Facts.one
              go_simp
              first | exact ⟨Grew.refl _, rfl⟩ | rfl
            simp only [Act.put, List.setIfInBounds_toArray, List.set_cons_zero, List.set_cons_succ, Nat.reduceAdd]

          refine Facts.Lex.done fun u W2 hC hL => ?_
          have G2 := Lib.hid (HG.out.trans (GA.out.trans hC))
          clear hC hL
          go_wp2
          go_roundg g
          case measure => omega
          case rel => exact ⟨k + 1, by omega, by first | (simp; done) | simp [HW.out], HN.out, G2⟩

        · obtain ⟨m, hkm⟩ : ∃ m, k = m + 1 := ⟨k - 1, by omega⟩
          have hml : m < l.length := by have := HKL.out; omega
          have HNO : Hid (behE (ee l m) ⟨r, ln, lb, wh, sd, bs, qt, qn, pr, st⟩ = false → rightL l = false) := Lib.hid fun hb => rightL_no HKL.out (by rw [hok, show k - 1 = m by omega, hb, decide_eq_false hk0]; rfl)
          have HYES : Hid (behE (ee l m) ⟨r, ln, lb, wh, sd, bs, qt, qn, pr, st⟩ = true → ∀ j, j < k + 1 → stepB l j = true) := Lib.hid fun hb j hj => by
            by_cases hjk : j = k
            · subst hjk
              rw [hok, show j - 1 = m by omega, hb]; simp
            · exact HJ.out j (by omega)
          have HBEH := Lib.hid (HBEHA.out m)
          have hlm := HLM.out
          have hs1 : wrap64 ((k : Int) - 1) = (m : Int) := by unfold wrap64; omega
          have hs2 : IntKind.i64.wrap ((k : Int) - 1) = (m : Int) := by rw [IntKind.wrap_i64]; omega
          have hgt : decide ((0 : Int) < (k : Int)) = true := decide_eq_true (by omega)
          have hgt2 : decide (0 < k) = true := decide_eq_true (by omega)
          have hm0 : (m : Int) < (l.length : Int) := by omega
          clear hok HBEHA hk0 hkm hlm
          obtain ⟨ad2, c8, e8, _, p0, p1, p2, p3, p4, p5, p6, p7, p8, p9⟩ := Ens_at (HL.out.grew HG.out) (ee_get hml)
          injection e8 with e1 e2 e3
          injection e1 with e1
          subst e1
          clear e2 e3 hml
          generalize ee l m = y at *
          obtain ⟨r', ln', lb', wh', sd', bs', qt', qn', pr', st'⟩ := y
          simp only at HBEH p0 p1 p2 p3 p4 p5 p6 p7 p8 p9
          generalize behE _ _ = bb at *
          go_wp2
          refine Facts.wp_region_text (by kernel_rfl) (by kernel_rfl) ?_
          apply Facts.Lex.exact [] _ (by kernel_rfl)
          · intro u W hC _
            have hb := ten_c (blk_keep BX.out hC)
            obtain ⟨b0, b1, b2, b3, b4, b5, b6, b7, b8, b9⟩ := hb
            unfold Facts.one
            go_simp
            first | exact ⟨Grew.refl _, rfl⟩ | rfl
          simp only [Act.put, List.setIfInBounds_toArray, List.set_cons_zero, List.set_cons_succ, Nat.zero_add]
          apply Facts.Lex.exact [] _ (by kernel_rfl)
          · intro u W hC _
            unfold Facts.one
            go_simp
            exact ((HMAY.out W).mono fun e w' ⟨he, hg⟩ => ⟨_, he, hg, rfl⟩)
          simp only [Act.put, List.setIfInBounds_toArray, List.set_cons_zero, List.set_cons_succ, Nat.reduceAdd]
          repeat
            apply Facts.Lex.exact [] _ (by kernel_rfl)
            · intro u W hC _
              have hb := ten_c (blk_keep BX.out hC)
              obtain ⟨b0, b1, b2, b3, b4, b5, b6, b7, b8, b9⟩ := hb
              have q0 := cellG (GA.out.trans hC) p0
              have q1 := cellG (GA.out.trans hC) p1
              have q2 := cellG (GA.out.trans hC) p2
              have q3 := cellG (GA.out.trans hC) p3
              have q4 := cellG (GA.out.trans hC) p4
              have q5 := cellG (GA.out.trans hC) p5
              have q6 := cellG (GA.out.trans hC) p6
              have q7 := cellG (GA.out.trans hC) p7
              have q8 := cellG (GA.out.trans hC) p8
              have q9 := cellG (GA.out.trans hC) p9
              unfold Facts.one
              go_simp
              first | exact ⟨Grew.refl _, rfl⟩ | rfl
            simp only [Act.put, List.setIfInBounds_toArray, List.set_cons_zero, List.set_cons_succ, Nat.reduceAdd]

          apply Facts.Lex.exact [] _ (by kernel_rfl)
          · intro u W hC _
            unfold Facts.one
            go_simp
            exact ((HBEH.out W).mono fun e w' ⟨he, hg⟩ => ⟨_, he, hg, rfl⟩)
          simp only [Act.put, List.setIfInBounds_toArray, List.set_cons_zero, List.set_cons_succ, Nat.reduceAdd]
          repeat
            apply Facts.Lex.exact [] _ (by kernel_rfl)
            · intro u W hC _
              unfold Facts.one
              go_simp
              first | exact ⟨Grew.refl _, rfl⟩ | rfl
            simp only [Act.put, List.setIfInBounds_toArray, List.set_cons_zero, List.set_cons_succ, Nat.reduceAdd]

          refine Facts.Lex.done fun u W2 hC hL => ?_
          have G2 := Lib.hid (HG.out.trans (GA.out.trans hC))
          clear hC hL
          cases bb with
          | false =>
            have HR : Hid (rightL l = false) := Lib.hid (HNO.out rfl)
            go_wp2
            go_returns
            refine ⟨?_, G2.out⟩
            rw [HR.out]
            rfl
          | true =>
            have HN := Lib.hid (HYES.out rfl)
            go_wp2
            go_roundg g
            case measure => omega
            case rel => exact ⟨k + 1, by omega, by first | (simp; done) | simp [HW.out], HN.out, G2⟩



theorem same_any (v v' : Value) (l : List En) (w : World) (h : Ens w v l) (h' : Ens w v' l) (hl : l.length * 80 ≤ 140737488355328) : Calls Try.prog 13 #[v, v'] w fun e w' => e = .returned (.bool true) ∧ Grew w w' := by
  have HL := Lib.hid h
  have HL2 := Lib.hid h'
  obtain ⟨A, c, rfl, hlc, hcm, _⟩ := h
  obtain ⟨A', c', rfl, hlc', hcm', _⟩ := h'
  have hlm : l.length ≤ 4611686018427387904 := by omega
  have HLM := Lib.hid hlm
  clear hlm hcm hcm' hl
  go_enter Try.func13, Try.ntmps13
  go_wp2
  go_loopg [5] l.length (fun g s5 wx => ∃ k : Nat, k + g = l.length ∧ s5 = .int .i64 k ∧ Hid (Grew w wx))
  case atStart => exact ⟨0, by omega, rfl, Lib.hid (Grew.refl _)⟩
  case round =>
    obtain ⟨k, hkg, rfl, HG⟩ := hrel
    cases gk with
    | zero =>
      have hkz : ¬ ((k : Int) < (l.length : Int)) := by omega
      go_wp2
      go_returns
      exact ⟨rfl, HG.out⟩
    | succ g =>
      have hkz : (k : Int) < (l.length : Int) := by omega
      have hkl : k < l.length := by omega
      have hx := ee_get hkl
      have HW := Lib.hid (wr1b hkl HLM.out)
      obtain ⟨ad, c8, e8, _, d0, d1, d2, d3, d4, d5, d6, d7, d8, d9⟩ := Ens_at (HL.out.grew HG.out) hx
      injection e8 with e1 e2 e3
      subst e1 e3
      obtain ⟨ad2, c8, e8, _, p0, p1, p2, p3, p4, p5, p6, p7, p8, p9⟩ := Ens_at (HL2.out.grew HG.out) hx
      injection e8 with e1 e4 e3
      subst e1 e3
      clear e2 e4 hx hkl
      have hne := fun W => neE (ee l k) W
      unfold env at hne
      generalize ee l k = x at *
      obtain ⟨r, ln, lb, wh, sd, bs, qt, qn, pr, st⟩ := x
      simp only at hne d0 d1 d2 d3 d4 d5 d6 d7 d8 d9 p0 p1 p2 p3 p4 p5 p6 p7 p8 p9
      go_wp2
      refine Facts.wp_region_text (by kernel_rfl) (by kernel_rfl) ?_
      repeat
        apply Facts.Lex.exact [] _ (by kernel_rfl)
        · intro u W hC _
          have j0 := cellG hC d0
          have j1 := cellG hC d1
          have j2 := cellG hC d2
          have j3 := cellG hC d3
          have j4 := cellG hC d4
          have j5 := cellG hC d5
          have j6 := cellG hC d6
          have j7 := cellG hC d7
          have j8 := cellG hC d8
          have j9 := cellG hC d9
          have k0 := cellG hC p0
          have k1 := cellG hC p1
          have k2 := cellG hC p2
          have k3 := cellG hC p3
          have k4 := cellG hC p4
          have k5 := cellG hC p5
          have k6 := cellG hC p6
          have k7 := cellG hC p7
          have k8 := cellG hC p8
          have k9 := cellG hC p9
          unfold Facts.one
          go_simp
          first | exact ⟨Grew.refl _, rfl⟩ | rfl
        simp only [Act.put, List.setIfInBounds_toArray, List.set_cons_zero, List.set_cons_succ, Nat.zero_add, Nat.reduceAdd]
      refine Facts.Lex.done fun u W2 hC hL => ?_
      have G2 := Lib.hid (HG.out.trans hC)
      clear hC hL
      go_wp2
      go_roundg g
      case measure => omega
      case rel => exact ⟨k + 1, by omega, by first | (simp; done) | simp [HW.out], G2⟩
end Go.Proofs.Ytmnfajplfnfgpab.UD
