/-
  Does an order of a list meet another one of it?
  Conditions: those that each lemma names.
-/
import Derived.Test.YtmnfajplfnfgpaaORE
import Derived.Test.YtmnfajplfnfgpaaORB
import Derived.Lib.Hide
import Derived.Deep.LoopGhost
namespace Go.Proofs.Ytmnfajplfnfgpaa.ORF
set_option maxRecDepth 100000
open Go Go.RowKit Go.Lib Go.Proofs.Ytmnfajplfnfgpaa Go.Proofs.Ytmnfajplfnfgpaa.Facts Go.Proofs.Ytmnfajplfnfgpaa.Ints Go.Proofs.Ytmnfajplfnfgpaa.PA Go.Proofs.Ytmnfajplfnfgpaa.UM Go.Proofs.Ytmnfajplfnfgpaa.UB Go.Proofs.Ytmnfajplfnfgpaa.OA Go.Proofs.Ytmnfajplfnfgpaa.BP Go.Proofs.Ytmnfajplfnfgpaa.BQ Go.Proofs.Ytmnfajplfnfgpaa.OC Go.Proofs.Ytmnfajplfnfgpaa.OD Go.Proofs.Ytmnfajplfnfgpaa.ORA Go.Proofs.Ytmnfajplfnfgpaa.ORB Go.Proofs.Ytmnfajplfnfgpaa.ORE Go.Proofs.Ytmnfajplfnfgpaa.Bytes


/-- None of the first orders meets one; nor the next one one of the first ones. -/
def noneB (l : List Or) (i : Nat) : Prop := ∀ a b, a < i → b < l.length → (eo l a).used = true → rmeets (eo l a) (eo l b) = false
def rowB (l : List Or) (i k : Nat) : Prop := ∀ b, b < k → (eo l i).used = true → rmeets (eo l i) (eo l b) = false
theorem noneB.all {l : List Or} (h : noneB l l.length) : crossB l = false := cross_no.2 fun i k hi hk hu => h i k hi hk hu
theorem noneB.step {l : List Or} {i : Nat} (h : noneB l i) (k : rowB l i l.length) : noneB l (i + 1) := fun a b ha hb hu => by
  by_cases e : a = i
  · subst e; exact k b hb hu
  · exact h a b (by omega) hb hu
theorem rowB.step {l : List Or} {i k : Nat} (h : rowB l i k) (g : (eo l i).used = true → rmeets (eo l i) (eo l k) = false) : rowB l i (k + 1) := fun b hb hu => by
  by_cases e : b = k
  · subst e; exact g hu
  · exact h b (by omega) hu
theorem cross_hit {l : List Or} {i k : Nat} (hi : i < l.length) (hk : k < l.length) (hu : (eo l i).used = true) (hm : rmeets (eo l i) (eo l k) = true) : crossB l = true := by
  cases hc : crossB l with
  | true => rfl
  | false => rw [cross_no.1 hc i k hi hk hu] at hm; cases hm
set_option maxHeartbeats 8000000 in
theorem crossed_any (v : Value) (l : List Or) (w : World) (h : Ors w v l) (hl : l.length ≤ 1000) :
    Calls Try.prog 27 #[v] w fun e w' => e = .returned (.bool (crossB l)) ∧ Grew w w' := by
  have HR := Lib.hid h
  have HLN := Lib.hid hl
  obtain ⟨A, ca, rfl, _⟩ := h.slice
  clear h hl
  go_enter Try.func27, Try.ntmps27
  go_wp2
  go_loopg [3] l.length (fun g s3 wx => ∃ i : Nat, i + g = l.length ∧ s3 = .int .i64 i ∧ Hid (noneB l i) ∧ Hid (Grew w wx))
  case atStart => exact ⟨0, by omega, rfl, Lib.hid (fun a b ha => absurd ha (Nat.not_lt_zero _)), Lib.hid (Grew.refl _)⟩
  case round =>
    obtain ⟨i, hig, rfl, HN, HG⟩ := hrel
    cases gk with
    | zero =>
      have hkz : ¬ ((i : Int) < (l.length : Int)) := by omega
      have hi : i = l.length := by omega
      have HE : Hid (crossB l = false) := Lib.hid (by have h := HN.out; rw [hi] at h; exact h.all)
      clear hig HN hi
      go_wp2
      go_returns
      exact ⟨by rw [HE.out]; rfl, HG.out⟩
    | succ g =>
      have hiz : (i : Int) < (l.length : Int) := by omega
      have hil : i < l.length := by omega
      have HIL := Lib.hid hil
      have HIG := Lib.hid hig
      have hi0 : ¬ ((i : Int) < 0) := by omega
      have HW1 := Lib.hid (PA.wr1b hil (by have := HLN.out; omega))
      clear hig
      go_wp2
      go_loopg [4] l.length (fun g s4 wx => ∃ k : Nat, k + g = l.length ∧ s4 = .int .i64 k ∧ Hid (rowB l i k) ∧ Hid (Grew w wx))
      case atStart => exact ⟨0, by omega, rfl, Lib.hid (fun b hb => absurd hb (Nat.not_lt_zero _)), HG⟩
      case round =>
        clear HG
        obtain ⟨k, hkg, rfl, HRW, HG⟩ := hrel
        cases gk with
        | zero =>
          have hkz : ¬ ((k : Int) < (l.length : Int)) := by omega
          have hk : k = l.length := by omega
          have HN2 : Hid (noneB l (i + 1)) := Lib.hid (HN.out.step (by have h := HRW.out; rw [hk] at h; exact h))
          clear hkg hil HRW hk
          go_wp2
          go_roundg g
          case measure => omega
          case rel => exact ⟨i + 1, by have := HIG.out; omega, by first | rfl | (simp; done) | rw [HW1.out], HN2, HG⟩
        | succ g2 =>
          have hkz : (k : Int) < (l.length : Int) := by omega
          have hkl : k < l.length := by omega
          have hk0 : ¬ ((k : Int) < 0) := by omega
          have HKG := Lib.hid hkg
          have HW2 := Lib.hid (PA.wr1b hkl (by have := HLN.out; omega))
          have HHIT := Lib.hid (cross_hit HIL.out hkl)
          have HM0 := Lib.hid (fun W => rmeets_any (eo l i) (eo l k) W)
          have HRS := Lib.hid (HRW.out.step (k := k))
          obtain ⟨ad, c9, e, _, a0, a1, a2, a3, a4, a5, a6, a7, a8, a9⟩ := Ors_at (HR.out.grew HG.out) (eo_get HIL.out)
          injection e with e1 e2 e3
          subst e1 e3
          clear e2
          obtain ⟨ad2, c8, e, _, b0, b1, b2, b3, b4, b5, b6, b7, b8, b9⟩ := Ors_at (HR.out.grew HG.out) (eo_get hkl)
          injection e with e1 e2 e3
          cases e1
          clear e2 e3 hkl hil hkg HRW
          generalize rmeets (eo l i) (eo l k) = mt at *
          generalize eo l i = x at *
          generalize eo l k = y at *
          obtain ⟨us, lb, wh, sd, bs, qt, pr, lf, rs, sq⟩ := x
          obtain ⟨us2, lb2, wh2, sd2, bs2, qt2, pr2, lf2, rs2, sq2⟩ := y
          unfold orv at HM0
          simp only at a0 a1 a2 a3 a4 a5 a6 a7 a8 a9 b0 b1 b2 b3 b4 b5 b6 b7 b8 b9 HM0 HRS HHIT
          cases us with
          | false =>
            have HR2 := Lib.hid (HRS.out (fun h => by cases h))
            clear HHIT HM0 HRS
            go_wp2
            refine Facts.wp_region_text (by kernel_rfl) (by kernel_rfl) ?_
            apply Facts.Lex.exact [] _ (by kernel_rfl)
            · intro u W hC _
              unfold Facts.one
              go_simp
              first | exact ⟨Grew.refl _, rfl⟩ | rfl
            simp only [Act.put, List.setIfInBounds_toArray, List.set_cons_zero, List.set_cons_succ, Nat.zero_add]
            apply Facts.Lex.exact [] _ (by kernel_rfl)
            · intro u W hC _
              unfold Facts.one
              go_simp
              first | exact ⟨Grew.refl _, rfl⟩ | rfl
            simp only [Act.put, List.setIfInBounds_toArray, List.set_cons_zero, List.set_cons_succ, Nat.reduceAdd]
            apply Facts.Lex.exact [] _ (by kernel_rfl)
            · intro u W hC _
              unfold Facts.one
              go_simp
              first | exact ⟨Grew.refl _, rfl⟩ | rfl
            simp only [Act.put, List.setIfInBounds_toArray, List.set_cons_zero, List.set_cons_succ, Nat.reduceAdd]
            apply Facts.Lex.exact [] _ (by kernel_rfl)
            · intro u W hC _
              unfold Facts.one
              go_simp
              first | exact ⟨Grew.refl _, rfl⟩ | rfl
            simp only [Act.put, List.setIfInBounds_toArray, List.set_cons_zero, List.set_cons_succ, Nat.reduceAdd]
            apply Facts.Lex.exact [] _ (by kernel_rfl)
            · intro u W hC _
              have j0 := cellG hC a0
              unfold Facts.one
              go_simp
              first | exact ⟨Grew.refl _, rfl⟩ | rfl
            simp only [Act.put, List.setIfInBounds_toArray, List.set_cons_zero, List.set_cons_succ, Nat.reduceAdd]
            apply Facts.Lex.exact [] _ (by kernel_rfl)
            · intro u W hC _
              unfold Facts.one
              go_simp
              first | exact ⟨Grew.refl _, rfl⟩ | rfl
            simp only [Act.put, List.setIfInBounds_toArray, List.set_cons_zero, List.set_cons_succ, Nat.reduceAdd]
            apply Facts.Lex.exact [] _ (by kernel_rfl)
            · intro u W hC _
              unfold Facts.one
              go_simp
              first | exact ⟨Grew.refl _, rfl⟩ | rfl
            simp only [Act.put, List.setIfInBounds_toArray, List.set_cons_zero, List.set_cons_succ, Nat.reduceAdd]
            apply Facts.Lex.exact [] _ (by kernel_rfl)
            · intro u W hC _
              unfold Facts.one
              go_simp
              first | exact ⟨Grew.refl _, rfl⟩ | rfl
            simp only [Act.put, List.setIfInBounds_toArray, List.set_cons_zero, List.set_cons_succ, Nat.reduceAdd]
            apply Facts.Lex.exact [] _ (by kernel_rfl)
            · intro u W hC _
              unfold Facts.one
              go_simp
              first | exact ⟨Grew.refl _, rfl⟩ | rfl
            simp only [Act.put, List.setIfInBounds_toArray, List.set_cons_zero, List.set_cons_succ, Nat.reduceAdd]
            apply Facts.Lex.exact [] _ (by kernel_rfl)
            · intro u W hC _
              unfold Facts.one
              go_simp
              first | exact ⟨Grew.refl _, rfl⟩ | rfl
            simp only [Act.put, List.setIfInBounds_toArray, List.set_cons_zero, List.set_cons_succ, Nat.reduceAdd]
            apply Facts.Lex.exact [] _ (by kernel_rfl)
            · intro u W hC _
              unfold Facts.one
              go_simp
              first | exact ⟨Grew.refl _, rfl⟩ | rfl
            simp only [Act.put, List.setIfInBounds_toArray, List.set_cons_zero, List.set_cons_succ, Nat.reduceAdd]
            apply Facts.Lex.exact [] _ (by kernel_rfl)
            · intro u W hC _
              unfold Facts.one
              go_simp
              first | exact ⟨Grew.refl _, rfl⟩ | rfl
            simp only [Act.put, List.setIfInBounds_toArray, List.set_cons_zero, List.set_cons_succ, Nat.reduceAdd]
            apply Facts.Lex.exact [] _ (by kernel_rfl)
            · intro u W hC _
              unfold Facts.one
              go_simp
              first | exact ⟨Grew.refl _, rfl⟩ | rfl
            simp only [Act.put, List.setIfInBounds_toArray, List.set_cons_zero, List.set_cons_succ, Nat.reduceAdd]
            apply Facts.Lex.exact [] _ (by kernel_rfl)
            · intro u W hC _
              unfold Facts.one
              go_simp
              first | exact ⟨Grew.refl _, rfl⟩ | rfl
            simp only [Act.put, List.setIfInBounds_toArray, List.set_cons_zero, List.set_cons_succ, Nat.reduceAdd]
            apply Facts.Lex.exact [] _ (by kernel_rfl)
            · intro u W hC _
              unfold Facts.one
              go_simp
              first | exact ⟨Grew.refl _, rfl⟩ | rfl
            simp only [Act.put, List.setIfInBounds_toArray, List.set_cons_zero, List.set_cons_succ, Nat.reduceAdd]
            apply Facts.Lex.exact [] _ (by kernel_rfl)
            · intro u W hC _
              unfold Facts.one
              go_simp
              first | exact ⟨Grew.refl _, rfl⟩ | rfl
            simp only [Act.put, List.setIfInBounds_toArray, List.set_cons_zero, List.set_cons_succ, Nat.reduceAdd]
            refine Facts.Lex.done fun u W2 hC hL => ?_
            have G2 := Lib.hid (HG.out.trans hC)
            clear hC hL a0 a1 a2 a3 a4 a5 a6 a7 a8 a9 b0 b1 b2 b3 b4 b5 b6 b7 b8 b9
            go_wp2
            go_roundg g2
            case measure => omega
            case rel => exact ⟨k + 1, by have := HKG.out; omega, by first | rfl | (simp; done) | rw [HW2.out], HR2, G2⟩
          | true =>
            cases mt with
            | false =>
              have HR2 := Lib.hid (HRS.out (fun _ => rfl))
              have HM := Lib.hid HM0.out
              clear HHIT HM0 HRS
              go_wp2
              refine Facts.wp_region_text (by kernel_rfl) (by kernel_rfl) ?_
              apply Facts.Lex.exact [] _ (by kernel_rfl)
              · intro u W hC _
                unfold Facts.one
                go_simp
                first | exact ⟨Grew.refl _, rfl⟩ | rfl
              simp only [Act.put, List.setIfInBounds_toArray, List.set_cons_zero, List.set_cons_succ, Nat.zero_add]
              apply Facts.Lex.exact [] _ (by kernel_rfl)
              · intro u W hC _
                unfold Facts.one
                go_simp
                first | exact ⟨Grew.refl _, rfl⟩ | rfl
              simp only [Act.put, List.setIfInBounds_toArray, List.set_cons_zero, List.set_cons_succ, Nat.reduceAdd]
              apply Facts.Lex.exact [] _ (by kernel_rfl)
              · intro u W hC _
                unfold Facts.one
                go_simp
                first | exact ⟨Grew.refl _, rfl⟩ | rfl
              simp only [Act.put, List.setIfInBounds_toArray, List.set_cons_zero, List.set_cons_succ, Nat.reduceAdd]
              apply Facts.Lex.exact [] _ (by kernel_rfl)
              · intro u W hC _
                unfold Facts.one
                go_simp
                first | exact ⟨Grew.refl _, rfl⟩ | rfl
              simp only [Act.put, List.setIfInBounds_toArray, List.set_cons_zero, List.set_cons_succ, Nat.reduceAdd]
              apply Facts.Lex.exact [] _ (by kernel_rfl)
              · intro u W hC _
                have j0 := cellG hC a0
                unfold Facts.one
                go_simp
                first | exact ⟨Grew.refl _, rfl⟩ | rfl
              simp only [Act.put, List.setIfInBounds_toArray, List.set_cons_zero, List.set_cons_succ, Nat.reduceAdd]
              apply Facts.Lex.exact [] _ (by kernel_rfl)
              · intro u W hC _
                unfold Facts.one
                go_simp
                first | exact ⟨Grew.refl _, rfl⟩ | rfl
              simp only [Act.put, List.setIfInBounds_toArray, List.set_cons_zero, List.set_cons_succ, Nat.reduceAdd]
              apply Facts.Lex.exact [] _ (by kernel_rfl)
              · intro u W hC _
                unfold Facts.one
                go_simp
                first | exact ⟨Grew.refl _, rfl⟩ | rfl
              simp only [Act.put, List.setIfInBounds_toArray, List.set_cons_zero, List.set_cons_succ, Nat.reduceAdd]
              apply Facts.Lex.exact [] _ (by kernel_rfl)
              · intro u W hC _
                unfold Facts.one
                go_simp
                first | exact ⟨Grew.refl _, rfl⟩ | rfl
              simp only [Act.put, List.setIfInBounds_toArray, List.set_cons_zero, List.set_cons_succ, Nat.reduceAdd]
              apply Facts.Lex.exact [] _ (by kernel_rfl)
              · intro u W hC _
                unfold Facts.one
                go_simp
                first | exact ⟨Grew.refl _, rfl⟩ | rfl
              simp only [Act.put, List.setIfInBounds_toArray, List.set_cons_zero, List.set_cons_succ, Nat.reduceAdd]
              apply Facts.Lex.exact [] _ (by kernel_rfl)
              · intro u W hC _
                have j0 := cellG hC a0
                have j1 := cellG hC a1
                have j2 := cellG hC a2
                have j3 := cellG hC a3
                have j4 := cellG hC a4
                have j5 := cellG hC a5
                have j6 := cellG hC a6
                have j7 := cellG hC a7
                have j8 := cellG hC a8
                have j9 := cellG hC a9
                unfold Facts.one
                go_simp
                first | exact ⟨Grew.refl _, rfl⟩ | rfl
              simp only [Act.put, List.setIfInBounds_toArray, List.set_cons_zero, List.set_cons_succ, Nat.reduceAdd]
              apply Facts.Lex.exact [] _ (by kernel_rfl)
              · intro u W hC _
                unfold Facts.one
                go_simp
                first | exact ⟨Grew.refl _, rfl⟩ | rfl
              simp only [Act.put, List.setIfInBounds_toArray, List.set_cons_zero, List.set_cons_succ, Nat.reduceAdd]
              apply Facts.Lex.exact [] _ (by kernel_rfl)
              · intro u W hC _
                unfold Facts.one
                go_simp
                first | exact ⟨Grew.refl _, rfl⟩ | rfl
              simp only [Act.put, List.setIfInBounds_toArray, List.set_cons_zero, List.set_cons_succ, Nat.reduceAdd]
              apply Facts.Lex.exact [] _ (by kernel_rfl)
              · intro u W hC _
                unfold Facts.one
                go_simp
                first | exact ⟨Grew.refl _, rfl⟩ | rfl
              simp only [Act.put, List.setIfInBounds_toArray, List.set_cons_zero, List.set_cons_succ, Nat.reduceAdd]
              apply Facts.Lex.exact [] _ (by kernel_rfl)
              · intro u W hC _
                have j0 := cellG hC b0
                have j1 := cellG hC b1
                have j2 := cellG hC b2
                have j3 := cellG hC b3
                have j4 := cellG hC b4
                have j5 := cellG hC b5
                have j6 := cellG hC b6
                have j7 := cellG hC b7
                have j8 := cellG hC b8
                have j9 := cellG hC b9
                unfold Facts.one
                go_simp
                first | exact ⟨Grew.refl _, rfl⟩ | rfl
              simp only [Act.put, List.setIfInBounds_toArray, List.set_cons_zero, List.set_cons_succ, Nat.reduceAdd]
              apply Facts.Lex.exact [] _ (by kernel_rfl)
              · intro u W hC _
                unfold Facts.one
                go_simp
                exact ((HM.out W).mono fun e w' ⟨he, hg⟩ => ⟨_, he, hg, rfl⟩)
              simp only [Act.put, List.setIfInBounds_toArray, List.set_cons_zero, List.set_cons_succ, Nat.reduceAdd]
              apply Facts.Lex.exact [] _ (by kernel_rfl)
              · intro u W hC _
                unfold Facts.one
                go_simp
                first | exact ⟨Grew.refl _, rfl⟩ | rfl
              simp only [Act.put, List.setIfInBounds_toArray, List.set_cons_zero, List.set_cons_succ, Nat.reduceAdd]
              refine Facts.Lex.done fun u W2 hC hL => ?_
              have G2 := Lib.hid (HG.out.trans hC)
              clear hC hL a0 a1 a2 a3 a4 a5 a6 a7 a8 a9 b0 b1 b2 b3 b4 b5 b6 b7 b8 b9
              go_wp2
              go_roundg g2
              case measure => omega
              case rel => exact ⟨k + 1, by have := HKG.out; omega, by first | rfl | (simp; done) | rw [HW2.out], HR2, G2⟩
            | true =>
              have HH := Lib.hid (HHIT.out rfl rfl)
              have HM := Lib.hid HM0.out
              clear HHIT HM0 HRS
              go_wp2
              refine Facts.wp_region_text (by kernel_rfl) (by kernel_rfl) ?_
              apply Facts.Lex.exact [] _ (by kernel_rfl)
              · intro u W hC _
                unfold Facts.one
                go_simp
                first | exact ⟨Grew.refl _, rfl⟩ | rfl
              simp only [Act.put, List.setIfInBounds_toArray, List.set_cons_zero, List.set_cons_succ, Nat.zero_add]
              apply Facts.Lex.exact [] _ (by kernel_rfl)
              · intro u W hC _
                unfold Facts.one
                go_simp
                first | exact ⟨Grew.refl _, rfl⟩ | rfl
              simp only [Act.put, List.setIfInBounds_toArray, List.set_cons_zero, List.set_cons_succ, Nat.reduceAdd]
              apply Facts.Lex.exact [] _ (by kernel_rfl)
              · intro u W hC _
                unfold Facts.one
                go_simp
                first | exact ⟨Grew.refl _, rfl⟩ | rfl
              simp only [Act.put, List.setIfInBounds_toArray, List.set_cons_zero, List.set_cons_succ, Nat.reduceAdd]
              apply Facts.Lex.exact [] _ (by kernel_rfl)
              · intro u W hC _
                unfold Facts.one
                go_simp
                first | exact ⟨Grew.refl _, rfl⟩ | rfl
              simp only [Act.put, List.setIfInBounds_toArray, List.set_cons_zero, List.set_cons_succ, Nat.reduceAdd]
              apply Facts.Lex.exact [] _ (by kernel_rfl)
              · intro u W hC _
                have j0 := cellG hC a0
                unfold Facts.one
                go_simp
                first | exact ⟨Grew.refl _, rfl⟩ | rfl
              simp only [Act.put, List.setIfInBounds_toArray, List.set_cons_zero, List.set_cons_succ, Nat.reduceAdd]
              apply Facts.Lex.exact [] _ (by kernel_rfl)
              · intro u W hC _
                unfold Facts.one
                go_simp
                first | exact ⟨Grew.refl _, rfl⟩ | rfl
              simp only [Act.put, List.setIfInBounds_toArray, List.set_cons_zero, List.set_cons_succ, Nat.reduceAdd]
              apply Facts.Lex.exact [] _ (by kernel_rfl)
              · intro u W hC _
                unfold Facts.one
                go_simp
                first | exact ⟨Grew.refl _, rfl⟩ | rfl
              simp only [Act.put, List.setIfInBounds_toArray, List.set_cons_zero, List.set_cons_succ, Nat.reduceAdd]
              apply Facts.Lex.exact [] _ (by kernel_rfl)
              · intro u W hC _
                unfold Facts.one
                go_simp
                first | exact ⟨Grew.refl _, rfl⟩ | rfl
              simp only [Act.put, List.setIfInBounds_toArray, List.set_cons_zero, List.set_cons_succ, Nat.reduceAdd]
              apply Facts.Lex.exact [] _ (by kernel_rfl)
              · intro u W hC _
                unfold Facts.one
                go_simp
                first | exact ⟨Grew.refl _, rfl⟩ | rfl
              simp only [Act.put, List.setIfInBounds_toArray, List.set_cons_zero, List.set_cons_succ, Nat.reduceAdd]
              apply Facts.Lex.exact [] _ (by kernel_rfl)
              · intro u W hC _
                have j0 := cellG hC a0
                have j1 := cellG hC a1
                have j2 := cellG hC a2
                have j3 := cellG hC a3
                have j4 := cellG hC a4
                have j5 := cellG hC a5
                have j6 := cellG hC a6
                have j7 := cellG hC a7
                have j8 := cellG hC a8
                have j9 := cellG hC a9
                unfold Facts.one
                go_simp
                first | exact ⟨Grew.refl _, rfl⟩ | rfl
              simp only [Act.put, List.setIfInBounds_toArray, List.set_cons_zero, List.set_cons_succ, Nat.reduceAdd]
              apply Facts.Lex.exact [] _ (by kernel_rfl)
              · intro u W hC _
                unfold Facts.one
                go_simp
                first | exact ⟨Grew.refl _, rfl⟩ | rfl
              simp only [Act.put, List.setIfInBounds_toArray, List.set_cons_zero, List.set_cons_succ, Nat.reduceAdd]
              apply Facts.Lex.exact [] _ (by kernel_rfl)
              · intro u W hC _
                unfold Facts.one
                go_simp
                first | exact ⟨Grew.refl _, rfl⟩ | rfl
              simp only [Act.put, List.setIfInBounds_toArray, List.set_cons_zero, List.set_cons_succ, Nat.reduceAdd]
              apply Facts.Lex.exact [] _ (by kernel_rfl)
              · intro u W hC _
                unfold Facts.one
                go_simp
                first | exact ⟨Grew.refl _, rfl⟩ | rfl
              simp only [Act.put, List.setIfInBounds_toArray, List.set_cons_zero, List.set_cons_succ, Nat.reduceAdd]
              apply Facts.Lex.exact [] _ (by kernel_rfl)
              · intro u W hC _
                have j0 := cellG hC b0
                have j1 := cellG hC b1
                have j2 := cellG hC b2
                have j3 := cellG hC b3
                have j4 := cellG hC b4
                have j5 := cellG hC b5
                have j6 := cellG hC b6
                have j7 := cellG hC b7
                have j8 := cellG hC b8
                have j9 := cellG hC b9
                unfold Facts.one
                go_simp
                first | exact ⟨Grew.refl _, rfl⟩ | rfl
              simp only [Act.put, List.setIfInBounds_toArray, List.set_cons_zero, List.set_cons_succ, Nat.reduceAdd]
              apply Facts.Lex.exact [] _ (by kernel_rfl)
              · intro u W hC _
                unfold Facts.one
                go_simp
                exact ((HM.out W).mono fun e w' ⟨he, hg⟩ => ⟨_, he, hg, rfl⟩)
              simp only [Act.put, List.setIfInBounds_toArray, List.set_cons_zero, List.set_cons_succ, Nat.reduceAdd]
              apply Facts.Lex.exact [] _ (by kernel_rfl)
              · intro u W hC _
                unfold Facts.one
                go_simp
                first | exact ⟨Grew.refl _, rfl⟩ | rfl
              simp only [Act.put, List.setIfInBounds_toArray, List.set_cons_zero, List.set_cons_succ, Nat.reduceAdd]
              refine Facts.Lex.done fun u W2 hC hL => ?_
              have G2 := Lib.hid (HG.out.trans hC)
              clear hC hL a0 a1 a2 a3 a4 a5 a6 a7 a8 a9 b0 b1 b2 b3 b4 b5 b6 b7 b8 b9
              go_wp2
              go_returns
              exact ⟨by rw [HH.out]; rfl, G2.out⟩
end Go.Proofs.Ytmnfajplfnfgpaa.ORF
