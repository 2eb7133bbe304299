/-
  The document's ranks: whether two are the same; with one number changed.
  Conditions: those that each lemma names.
-/
import Derived.Test.YtmegdgeiikhflaaGreatHW
namespace Go.Proofs.YtmegdgeiikhflaaGreat.HR
open Go Go.RowKit Go.Lib Go.Proofs.YtmegdgeiikhflaaGreat Go.Proofs.YtmegdgeiikhflaaGreat.Facts Go.Proofs.YtmegdgeiikhflaaGreat.Plain Go.Proofs.YtmegdgeiikhflaaGreat.Ints Go.Proofs.YtmegdgeiikhflaaGreat.RRows Go.Proofs.YtmegdgeiikhflaaGreat.LBox Go.Proofs.YtmegdgeiikhflaaGreat.RSmall Go.Proofs.YtmegdgeiikhflaaGreat.RFind Go.Proofs.YtmegdgeiikhflaaGreat.RAll Go.Proofs.YtmegdgeiikhflaaGreat.RRules Go.Proofs.YtmegdgeiikhflaaGreat.RRule3 Go.Proofs.YtmegdgeiikhflaaGreat.RRight Go.Proofs.YtmegdgeiikhflaaGreat.HA Go.Proofs.YtmegdgeiikhflaaGreat.HB Go.Proofs.YtmegdgeiikhflaaGreat.HG Go.Proofs.YtmegdgeiikhflaaGreat.HC Go.Proofs.YtmegdgeiikhflaaGreat.HD Go.Proofs.YtmegdgeiikhflaaGreat.HN Go.Proofs.YtmegdgeiikhflaaGreat.HW

theorem ext_rows {A B : List (List Int)} (hl : A.length = B.length) (h : ∀ i, i < A.length → rk A i = rk B i) : A = B := by
  refine List.ext_getElem? fun i => ?_
  by_cases hi : i < A.length
  · rw [rk_get hi, rk_get (by omega), h i hi]
  · rw [List.getElem?_eq_none (by omega), List.getElem?_eq_none (by omega)]
theorem ext_row {A B : List Int} (hl : A.length = B.length) (h : ∀ i, i < A.length → cel A i = cel B i) : A = B := by
  refine List.ext_getElem? fun i => ?_
  by_cases hi : i < A.length
  · have := h i hi
    unfold cel at this
    rw [List.getElem?_eq_getElem hi, List.getElem?_eq_getElem (by omega)] at this ⊢
    simpa using this
  · rw [List.getElem?_eq_none (by omega), List.getElem?_eq_none (by omega)]
set_option maxRecDepth 100000 in
set_option maxHeartbeats 4000000 in
theorem same_any (w : World) (va vb : Value) (A B : List (List Int)) (ha : RK w va A) (hb : RK w vb B) :
    Calls Tryz.prog 38 #[va, vb] w fun e w' => e = .returned (.bool (decide (A = B))) ∧ Grew w w' := by
  have HA := Lib.hid ha
  have HB := Lib.hid hb
  obtain ⟨A0, c0, rfl, a1, a2, _⟩ := id ha
  obtain ⟨B0, d0, rfl, b1, b2, _⟩ := id hb
  have HML : Hid (A.length ≤ maxLen) := Lib.hid (Nat.le_trans a1 a2)
  clear ha hb a1 a2 b1 b2
  by_cases hl : A.length = B.length
  · have hlb : ((A.length : Int) != (B.length : Int)) = false := by simp [hl]
    have HL := Lib.hid hl
    have HYES : Hid ((∀ i, i < A.length → rk A i = rk B i) → decide (A = B) = true) := Lib.hid fun h => decide_eq_true (ext_rows hl h)
    have HNO : Hid (∀ i, ¬ rk A i = rk B i → decide (A = B) = false) := Lib.hid fun i h => decide_eq_false fun e => h (by rw [e])
    obtain ⟨res, hres⟩ : ∃ res, decide (A = B) = res := ⟨_, rfl⟩
    rw [hres] at HYES HNO ⊢
    clear hl hres
    go_enter Tryz.func38, Tryz.ntmps38
    go_wp2
    clear hlb
    go_loopg [5, 6] A.length (fun q s5 s6 wx => ∃ (k : Nat), k + q = A.length ∧ s5 = .int .i64 k ∧ Hid (∀ i, i < k → rk A i = rk B i) ∧ Hid (Grew w wx))
    case atStart => exact ⟨0, by omega, rfl, Lib.hid (fun i h => absurd h (by omega)), Lib.hid (Grew.refl _)⟩
    case round =>
      obtain ⟨k, hkg, rfl, HJ, HG⟩ := hrel
      cases gk with
      | zero =>
        have hkz : ¬ ((k : Int) < (A.length : Int)) := by omega
        have HR := Lib.hid (HYES.out fun i hi => HJ.out i (by omega))
        go_wp2
        go_returns
        refine ⟨?_, HG.out⟩
        rw [HR.out]
        try rfl
      | succ g =>
        have hkz : (k : Int) < (A.length : Int) := by omega
        have hkb : (k : Int) < (B.length : Int) := by have := HL.out; omega
        obtain ⟨ad, c2, A', c', e, hcl, hrow⟩ := (HA.out.grew HG.out).at (k := k) (by omega)
        injection e with e1 _ e3
        subst e1 e3
        obtain ⟨bd, c4, B', d', e, hcl2, hrow2⟩ := (HB.out.grew HG.out).at (k := k) (by have := HL.out; omega)
        injection e with e1 _ e3
        subst e1 e3
        have C0 := Lib.hid hcl
        have C1 := Lib.hid hcl2
        have HRA := Lib.hid hrow
        have HRB := Lib.hid hrow2
        have hma : (rk A k).length ≤ maxLen := by obtain ⟨_, _, _, h1, h2, _⟩ := id hrow; omega
        have HMA := Lib.hid hma
        have HKE : Hid (rk A k = rk B k → ∀ i, i < k + 1 → rk A i = rk B i) := Lib.hid fun h i hi => by
          by_cases hik : i = k
          · subst hik; exact h
          · exact HJ.out i (by omega)
        have HNK := Lib.hid (HNO.out k)
        have HXR := Lib.hid (@ext_row (rk A k) (rk B k))
        clear hcl hcl2 hrow hrow2 hma
        generalize rk A k = ra at *
        generalize rk B k = rb at *
        by_cases hll : ra.length = rb.length
        · have hbl : ((ra.length : Int) != (rb.length : Int)) = false := by simp [hll]
          have HLL := Lib.hid hll
          clear hll
          go_wp2
          refine Facts.wp_region_text (by kernel_rfl) (by kernel_rfl) ?_
          apply Facts.Lex.exact [] _ (by kernel_rfl)
          · intro u W hC _
            unfold Facts.one
            go_simp
            first | exact ⟨Grew.refl _, rfl⟩ | rfl
          simp only [Act.put, List.setIfInBounds_toArray, List.set_cons_zero, List.set_cons_succ, Nat.zero_add]
          apply Facts.Lex.exact [] _ (by kernel_rfl)
          · intro u W hC _
            unfold Facts.one
            go_simp
            first | exact ⟨Grew.refl _, rfl⟩ | rfl
          simp only [Act.put, List.setIfInBounds_toArray, List.set_cons_zero, List.set_cons_succ, Nat.reduceAdd]
          apply Facts.Lex.exact [] _ (by kernel_rfl)
          · intro u W hC _
            unfold Facts.one
            go_simp
            first | exact ⟨Grew.refl _, rfl⟩ | rfl
          simp only [Act.put, List.setIfInBounds_toArray, List.set_cons_zero, List.set_cons_succ, Nat.reduceAdd]
          apply Facts.Lex.exact [] _ (by kernel_rfl)
          · intro u W hC _
            have k0 := cellB hC C0.out
            unfold Facts.one
            go_simp
            first | exact ⟨Grew.refl _, rfl⟩ | rfl
          simp only [Act.put, List.setIfInBounds_toArray, List.set_cons_zero, List.set_cons_succ, Nat.reduceAdd]
          apply Facts.Lex.exact [] _ (by kernel_rfl)
          · intro u W hC _
            unfold Facts.one
            go_simp
            first | exact ⟨Grew.refl _, rfl⟩ | rfl
          simp only [Act.put, List.setIfInBounds_toArray, List.set_cons_zero, List.set_cons_succ, Nat.reduceAdd]
          apply Facts.Lex.exact [] _ (by kernel_rfl)
          · intro u W hC _
            unfold Facts.one
            go_simp
            first | exact ⟨Grew.refl _, rfl⟩ | rfl
          simp only [Act.put, List.setIfInBounds_toArray, List.set_cons_zero, List.set_cons_succ, Nat.reduceAdd]
          apply Facts.Lex.exact [] _ (by kernel_rfl)
          · intro u W hC _
            unfold Facts.one
            go_simp
            first | exact ⟨Grew.refl _, rfl⟩ | rfl
          simp only [Act.put, List.setIfInBounds_toArray, List.set_cons_zero, List.set_cons_succ, Nat.reduceAdd]
          apply Facts.Lex.exact [] _ (by kernel_rfl)
          · intro u W hC _
            unfold Facts.one
            go_simp
            first | exact ⟨Grew.refl _, rfl⟩ | rfl
          simp only [Act.put, List.setIfInBounds_toArray, List.set_cons_zero, List.set_cons_succ, Nat.reduceAdd]
          apply Facts.Lex.exact [] _ (by kernel_rfl)
          · intro u W hC _
            have k1 := cellB hC C1.out
            unfold Facts.one
            go_simp
            first | exact ⟨Grew.refl _, rfl⟩ | rfl
          simp only [Act.put, List.setIfInBounds_toArray, List.set_cons_zero, List.set_cons_succ, Nat.reduceAdd]
          apply Facts.Lex.exact [] _ (by kernel_rfl)
          · intro u W hC _
            unfold Facts.one
            go_simp
            first | exact ⟨Grew.refl _, rfl⟩ | rfl
          simp only [Act.put, List.setIfInBounds_toArray, List.set_cons_zero, List.set_cons_succ, Nat.reduceAdd]
          apply Facts.Lex.exact [] _ (by kernel_rfl)
          · intro u W hC _
            unfold Facts.one
            go_simp
            first | exact ⟨Grew.refl _, rfl⟩ | rfl
          simp only [Act.put, List.setIfInBounds_toArray, List.set_cons_zero, List.set_cons_succ, Nat.reduceAdd]
          refine Facts.Lex.done fun u W2 hC hL => ?_
          have G2 := Lib.hid hC
          clear hC hL hbl
          go_wp2
          go_loopg [6] ra.length (fun q s6 wx => ∃ (j : Nat), j + q = ra.length ∧ s6 = .int .i64 j ∧ Hid (∀ i, i < j → cel ra i = cel rb i) ∧ Hid (Grew W2 wx))
          case atStart => exact ⟨0, by omega, rfl, Lib.hid (fun i h => absurd h (by omega)), Lib.hid (Grew.refl _)⟩
          case round =>
            obtain ⟨j, hjg, rfl, HJ2, HG2⟩ := hrel
            have c0' := cellB (G2.out.trans HG2.out) C0.out
            have c1' := cellB (G2.out.trans HG2.out) C1.out
            cases gk with
            | zero =>
              have hjz : ¬ ((j : Int) < (ra.length : Int)) := by omega
              have HE := Lib.hid (HKE.out (HXR.out HLL.out fun i hi => HJ2.out i (by omega)))
              have HG3 := Lib.hid (HG.out.trans (G2.out.trans HG2.out))
              have hkw : wrap64 ((k : Int) + 1) = (k : Int) + 1 := by
                have := HML.out
                unfold maxLen at this
                unfold wrap64
                omega
              go_wp2
              go_roundg g
              case measure => omega
              case rel => exact ⟨k + 1, by omega, by first | rfl | simp [hkw], HE, HG3⟩
            | succ g2 =>
              have hjz : (j : Int) < (ra.length : Int) := by omega
              have hjb : (j : Int) < (rb.length : Int) := by have := HLL.out; omega
              obtain ⟨ar, rfl, hca⟩ := Is.at' (HRA.out.grew (G2.out.trans HG2.out)) (k := j) (by omega)
              obtain ⟨br, rfl, hcb⟩ := Is.at' (HRB.out.grew (G2.out.trans HG2.out)) (k := j) (by have := HLL.out; omega)
              have E0 := Lib.hid hca
              have E1 := Lib.hid hcb
              have HCE : Hid (cel ra j = cel rb j → ∀ i, i < j + 1 → cel ra i = cel rb i) := Lib.hid fun h i hi => by
                by_cases hij : i = j
                · subst hij; exact h
                · exact HJ2.out i (by omega)
              have HCN : Hid (¬ cel ra j = cel rb j → res = false) := Lib.hid fun h => HNK.out fun e => h (by rw [e])
              clear hca hcb
              generalize cel ra j = xa at *
              generalize cel rb j = xb at *
              have D0 := Lib.hid c0'
              have D1 := Lib.hid c1'
              by_cases hx : xa = xb
              · have hxb : (xa != xb) = false := by simp [hx]
                have HE := Lib.hid (HCE.out hx)
                have hjw : wrap64 ((j : Int) + 1) = (j : Int) + 1 := by
                  have := HMA.out
                  unfold maxLen at this
                  unfold wrap64
                  omega
                clear hx
                go_wp2
                refine Facts.wp_region_text (by kernel_rfl) (by kernel_rfl) ?_
                apply Facts.Lex.exact [] _ (by kernel_rfl)
                · intro u W hC _
                  unfold Facts.one
                  go_simp
                  first | exact ⟨Grew.refl _, rfl⟩ | rfl
                simp only [Act.put, List.setIfInBounds_toArray, List.set_cons_zero, List.set_cons_succ, Nat.zero_add]
                apply Facts.Lex.exact [] _ (by kernel_rfl)
                · intro u W hC _
                  unfold Facts.one
                  go_simp
                  first | exact ⟨Grew.refl _, rfl⟩ | rfl
                simp only [Act.put, List.setIfInBounds_toArray, List.set_cons_zero, List.set_cons_succ, Nat.reduceAdd]
                apply Facts.Lex.exact [] _ (by kernel_rfl)
                · intro u W hC _
                  unfold Facts.one
                  go_simp
                  first | exact ⟨Grew.refl _, rfl⟩ | rfl
                simp only [Act.put, List.setIfInBounds_toArray, List.set_cons_zero, List.set_cons_succ, Nat.reduceAdd]
                apply Facts.Lex.exact [] _ (by kernel_rfl)
                · intro u W hC _
                  have k0 := cellB hC D0.out
                  unfold Facts.one
                  go_simp
                  first | exact ⟨Grew.refl _, rfl⟩ | rfl
                simp only [Act.put, List.setIfInBounds_toArray, List.set_cons_zero, List.set_cons_succ, Nat.reduceAdd]
                apply Facts.Lex.exact [] _ (by kernel_rfl)
                · intro u W hC _
                  unfold Facts.one
                  go_simp
                  first | exact ⟨Grew.refl _, rfl⟩ | rfl
                simp only [Act.put, List.setIfInBounds_toArray, List.set_cons_zero, List.set_cons_succ, Nat.reduceAdd]
                apply Facts.Lex.exact [] _ (by kernel_rfl)
                · intro u W hC _
                  unfold Facts.one
                  go_simp
                  first | exact ⟨Grew.refl _, rfl⟩ | rfl
                simp only [Act.put, List.setIfInBounds_toArray, List.set_cons_zero, List.set_cons_succ, Nat.reduceAdd]
                apply Facts.Lex.exact [] _ (by kernel_rfl)
                · intro u W hC _
                  have k2 := cellB hC E0.out
                  unfold Facts.one
                  go_simp
                  first | exact ⟨Grew.refl _, rfl⟩ | rfl
                simp only [Act.put, List.setIfInBounds_toArray, List.set_cons_zero, List.set_cons_succ, Nat.reduceAdd]
                apply Facts.Lex.exact [] _ (by kernel_rfl)
                · intro u W hC _
                  unfold Facts.one
                  go_simp
                  first | exact ⟨Grew.refl _, rfl⟩ | rfl
                simp only [Act.put, List.setIfInBounds_toArray, List.set_cons_zero, List.set_cons_succ, Nat.reduceAdd]
                apply Facts.Lex.exact [] _ (by kernel_rfl)
                · intro u W hC _
                  unfold Facts.one
                  go_simp
                  first | exact ⟨Grew.refl _, rfl⟩ | rfl
                simp only [Act.put, List.setIfInBounds_toArray, List.set_cons_zero, List.set_cons_succ, Nat.reduceAdd]
                apply Facts.Lex.exact [] _ (by kernel_rfl)
                · intro u W hC _
                  unfold Facts.one
                  go_simp
                  first | exact ⟨Grew.refl _, rfl⟩ | rfl
                simp only [Act.put, List.setIfInBounds_toArray, List.set_cons_zero, List.set_cons_succ, Nat.reduceAdd]
                apply Facts.Lex.exact [] _ (by kernel_rfl)
                · intro u W hC _
                  have k1 := cellB hC D1.out
                  unfold Facts.one
                  go_simp
                  first | exact ⟨Grew.refl _, rfl⟩ | rfl
                simp only [Act.put, List.setIfInBounds_toArray, List.set_cons_zero, List.set_cons_succ, Nat.reduceAdd]
                apply Facts.Lex.exact [] _ (by kernel_rfl)
                · intro u W hC _
                  unfold Facts.one
                  go_simp
                  first | exact ⟨Grew.refl _, rfl⟩ | rfl
                simp only [Act.put, List.setIfInBounds_toArray, List.set_cons_zero, List.set_cons_succ, Nat.reduceAdd]
                apply Facts.Lex.exact [] _ (by kernel_rfl)
                · intro u W hC _
                  unfold Facts.one
                  go_simp
                  first | exact ⟨Grew.refl _, rfl⟩ | rfl
                simp only [Act.put, List.setIfInBounds_toArray, List.set_cons_zero, List.set_cons_succ, Nat.reduceAdd]
                apply Facts.Lex.exact [] _ (by kernel_rfl)
                · intro u W hC _
                  have k3 := cellB hC E1.out
                  unfold Facts.one
                  go_simp
                  first | exact ⟨Grew.refl _, rfl⟩ | rfl
                simp only [Act.put, List.setIfInBounds_toArray, List.set_cons_zero, List.set_cons_succ, Nat.reduceAdd]
                apply Facts.Lex.exact [] _ (by kernel_rfl)
                · intro u W hC _
                  unfold Facts.one
                  go_simp
                  first | exact ⟨Grew.refl _, rfl⟩ | rfl
                simp only [Act.put, List.setIfInBounds_toArray, List.set_cons_zero, List.set_cons_succ, Nat.reduceAdd]
                refine Facts.Lex.done fun u W3 hC hL => ?_
                have HG4 := Lib.hid (HG2.out.trans hC)
                clear hC hL hxb c0' c1'
                go_wp2
                go_roundg g2
                case measure => omega
                case rel => exact ⟨j + 1, by omega, by first | rfl | simp [hjw], HE, HG4⟩
              · have hxb : (xa != xb) = true := by simpa using hx
                have HE := Lib.hid (HCN.out hx)
                clear hx
                go_wp2
                refine Facts.wp_region_text (by kernel_rfl) (by kernel_rfl) ?_
                apply Facts.Lex.exact [] _ (by kernel_rfl)
                · intro u W hC _
                  unfold Facts.one
                  go_simp
                  first | exact ⟨Grew.refl _, rfl⟩ | rfl
                simp only [Act.put, List.setIfInBounds_toArray, List.set_cons_zero, List.set_cons_succ, Nat.zero_add]
                apply Facts.Lex.exact [] _ (by kernel_rfl)
                · intro u W hC _
                  unfold Facts.one
                  go_simp
                  first | exact ⟨Grew.refl _, rfl⟩ | rfl
                simp only [Act.put, List.setIfInBounds_toArray, List.set_cons_zero, List.set_cons_succ, Nat.reduceAdd]
                apply Facts.Lex.exact [] _ (by kernel_rfl)
                · intro u W hC _
                  unfold Facts.one
                  go_simp
                  first | exact ⟨Grew.refl _, rfl⟩ | rfl
                simp only [Act.put, List.setIfInBounds_toArray, List.set_cons_zero, List.set_cons_succ, Nat.reduceAdd]
                apply Facts.Lex.exact [] _ (by kernel_rfl)
                · intro u W hC _
                  have k0 := cellB hC D0.out
                  unfold Facts.one
                  go_simp
                  first | exact ⟨Grew.refl _, rfl⟩ | rfl
                simp only [Act.put, List.setIfInBounds_toArray, List.set_cons_zero, List.set_cons_succ, Nat.reduceAdd]
                apply Facts.Lex.exact [] _ (by kernel_rfl)
                · intro u W hC _
                  unfold Facts.one
                  go_simp
                  first | exact ⟨Grew.refl _, rfl⟩ | rfl
                simp only [Act.put, List.setIfInBounds_toArray, List.set_cons_zero, List.set_cons_succ, Nat.reduceAdd]
                apply Facts.Lex.exact [] _ (by kernel_rfl)
                · intro u W hC _
                  unfold Facts.one
                  go_simp
                  first | exact ⟨Grew.refl _, rfl⟩ | rfl
                simp only [Act.put, List.setIfInBounds_toArray, List.set_cons_zero, List.set_cons_succ, Nat.reduceAdd]
                apply Facts.Lex.exact [] _ (by kernel_rfl)
                · intro u W hC _
                  have k2 := cellB hC E0.out
                  unfold Facts.one
                  go_simp
                  first | exact ⟨Grew.refl _, rfl⟩ | rfl
                simp only [Act.put, List.setIfInBounds_toArray, List.set_cons_zero, List.set_cons_succ, Nat.reduceAdd]
                apply Facts.Lex.exact [] _ (by kernel_rfl)
                · intro u W hC _
                  unfold Facts.one
                  go_simp
                  first | exact ⟨Grew.refl _, rfl⟩ | rfl
                simp only [Act.put, List.setIfInBounds_toArray, List.set_cons_zero, List.set_cons_succ, Nat.reduceAdd]
                apply Facts.Lex.exact [] _ (by kernel_rfl)
                · intro u W hC _
                  unfold Facts.one
                  go_simp
                  first | exact ⟨Grew.refl _, rfl⟩ | rfl
                simp only [Act.put, List.setIfInBounds_toArray, List.set_cons_zero, List.set_cons_succ, Nat.reduceAdd]
                apply Facts.Lex.exact [] _ (by kernel_rfl)
                · intro u W hC _
                  unfold Facts.one
                  go_simp
                  first | exact ⟨Grew.refl _, rfl⟩ | rfl
                simp only [Act.put, List.setIfInBounds_toArray, List.set_cons_zero, List.set_cons_succ, Nat.reduceAdd]
                apply Facts.Lex.exact [] _ (by kernel_rfl)
                · intro u W hC _
                  have k1 := cellB hC D1.out
                  unfold Facts.one
                  go_simp
                  first | exact ⟨Grew.refl _, rfl⟩ | rfl
                simp only [Act.put, List.setIfInBounds_toArray, List.set_cons_zero, List.set_cons_succ, Nat.reduceAdd]
                apply Facts.Lex.exact [] _ (by kernel_rfl)
                · intro u W hC _
                  unfold Facts.one
                  go_simp
                  first | exact ⟨Grew.refl _, rfl⟩ | rfl
                simp only [Act.put, List.setIfInBounds_toArray, List.set_cons_zero, List.set_cons_succ, Nat.reduceAdd]
                apply Facts.Lex.exact [] _ (by kernel_rfl)
                · intro u W hC _
                  unfold Facts.one
                  go_simp
                  first | exact ⟨Grew.refl _, rfl⟩ | rfl
                simp only [Act.put, List.setIfInBounds_toArray, List.set_cons_zero, List.set_cons_succ, Nat.reduceAdd]
                apply Facts.Lex.exact [] _ (by kernel_rfl)
                · intro u W hC _
                  have k3 := cellB hC E1.out
                  unfold Facts.one
                  go_simp
                  first | exact ⟨Grew.refl _, rfl⟩ | rfl
                simp only [Act.put, List.setIfInBounds_toArray, List.set_cons_zero, List.set_cons_succ, Nat.reduceAdd]
                apply Facts.Lex.exact [] _ (by kernel_rfl)
                · intro u W hC _
                  unfold Facts.one
                  go_simp
                  first | exact ⟨Grew.refl _, rfl⟩ | rfl
                simp only [Act.put, List.setIfInBounds_toArray, List.set_cons_zero, List.set_cons_succ, Nat.reduceAdd]
                refine Facts.Lex.done fun u W3 hC hL => ?_
                have HG4 := Lib.hid (HG.out.trans (G2.out.trans (HG2.out.trans hC)))
                clear hC hL hxb c0' c1'
                go_wp2
                go_returns
                refine ⟨?_, HG4.out⟩
                rw [HE.out]
                try rfl
        · have hbl : ((ra.length : Int) != (rb.length : Int)) = true := by simp; omega
          have HE := Lib.hid (HNK.out fun e => hll (by rw [e]))
          clear hll
          go_wp2
          refine Facts.wp_region_text (by kernel_rfl) (by kernel_rfl) ?_
          apply Facts.Lex.exact [] _ (by kernel_rfl)
          · intro u W hC _
            unfold Facts.one
            go_simp
            first | exact ⟨Grew.refl _, rfl⟩ | rfl
          simp only [Act.put, List.setIfInBounds_toArray, List.set_cons_zero, List.set_cons_succ, Nat.zero_add]
          apply Facts.Lex.exact [] _ (by kernel_rfl)
          · intro u W hC _
            unfold Facts.one
            go_simp
            first | exact ⟨Grew.refl _, rfl⟩ | rfl
          simp only [Act.put, List.setIfInBounds_toArray, List.set_cons_zero, List.set_cons_succ, Nat.reduceAdd]
          apply Facts.Lex.exact [] _ (by kernel_rfl)
          · intro u W hC _
            unfold Facts.one
            go_simp
            first | exact ⟨Grew.refl _, rfl⟩ | rfl
          simp only [Act.put, List.setIfInBounds_toArray, List.set_cons_zero, List.set_cons_succ, Nat.reduceAdd]
          apply Facts.Lex.exact [] _ (by kernel_rfl)
          · intro u W hC _
            have k0 := cellB hC C0.out
            unfold Facts.one
            go_simp
            first | exact ⟨Grew.refl _, rfl⟩ | rfl
          simp only [Act.put, List.setIfInBounds_toArray, List.set_cons_zero, List.set_cons_succ, Nat.reduceAdd]
          apply Facts.Lex.exact [] _ (by kernel_rfl)
          · intro u W hC _
            unfold Facts.one
            go_simp
            first | exact ⟨Grew.refl _, rfl⟩ | rfl
          simp only [Act.put, List.setIfInBounds_toArray, List.set_cons_zero, List.set_cons_succ, Nat.reduceAdd]
          apply Facts.Lex.exact [] _ (by kernel_rfl)
          · intro u W hC _
            unfold Facts.one
            go_simp
            first | exact ⟨Grew.refl _, rfl⟩ | rfl
          simp only [Act.put, List.setIfInBounds_toArray, List.set_cons_zero, List.set_cons_succ, Nat.reduceAdd]
          apply Facts.Lex.exact [] _ (by kernel_rfl)
          · intro u W hC _
            unfold Facts.one
            go_simp
            first | exact ⟨Grew.refl _, rfl⟩ | rfl
          simp only [Act.put, List.setIfInBounds_toArray, List.set_cons_zero, List.set_cons_succ, Nat.reduceAdd]
          apply Facts.Lex.exact [] _ (by kernel_rfl)
          · intro u W hC _
            unfold Facts.one
            go_simp
            first | exact ⟨Grew.refl _, rfl⟩ | rfl
          simp only [Act.put, List.setIfInBounds_toArray, List.set_cons_zero, List.set_cons_succ, Nat.reduceAdd]
          apply Facts.Lex.exact [] _ (by kernel_rfl)
          · intro u W hC _
            have k1 := cellB hC C1.out
            unfold Facts.one
            go_simp
            first | exact ⟨Grew.refl _, rfl⟩ | rfl
          simp only [Act.put, List.setIfInBounds_toArray, List.set_cons_zero, List.set_cons_succ, Nat.reduceAdd]
          apply Facts.Lex.exact [] _ (by kernel_rfl)
          · intro u W hC _
            unfold Facts.one
            go_simp
            first | exact ⟨Grew.refl _, rfl⟩ | rfl
          simp only [Act.put, List.setIfInBounds_toArray, List.set_cons_zero, List.set_cons_succ, Nat.reduceAdd]
          apply Facts.Lex.exact [] _ (by kernel_rfl)
          · intro u W hC _
            unfold Facts.one
            go_simp
            first | exact ⟨Grew.refl _, rfl⟩ | rfl
          simp only [Act.put, List.setIfInBounds_toArray, List.set_cons_zero, List.set_cons_succ, Nat.reduceAdd]
          refine Facts.Lex.done fun u W2 hC hL => ?_
          have G2 := Lib.hid (HG.out.trans hC)
          clear hC hL hbl
          go_wp2
          go_returns
          refine ⟨?_, G2.out⟩
          rw [HE.out]
          try rfl
  · rw [decide_eq_false (fun e => hl (by rw [e]))]
    have hlb : ((A.length : Int) != (B.length : Int)) = true := by simp; omega
    clear hl
    go_enter Tryz.func38, Tryz.ntmps38
    go_wp2
    go_returns
    exact ⟨rfl, Grew.refl _⟩
end Go.Proofs.YtmegdgeiikhflaaGreat.HR
