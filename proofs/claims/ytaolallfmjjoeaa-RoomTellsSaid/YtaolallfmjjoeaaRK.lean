/-
  The document on rooms: equal lists.
  Conditions: those that each lemma names.
-/
import Derived.Test.YtaolallfmjjoeaaRJ
namespace Go.Proofs.Ytaolallfmjjoeaa.RK
set_option maxRecDepth 100000
open Go Go.RowKit Go.Lib Go.Proofs.Ytaolallfmjjoeaa Go.Proofs.Ytaolallfmjjoeaa.Facts Go.Proofs.Ytaolallfmjjoeaa.Ints Go.Proofs.Ytaolallfmjjoeaa.TI Go.Proofs.Ytaolallfmjjoeaa.TP Go.Proofs.Ytaolallfmjjoeaa.TB Go.Proofs.Ytaolallfmjjoeaa.TC Go.Proofs.Ytaolallfmjjoeaa.TD Go.Proofs.Ytaolallfmjjoeaa.TE Go.Proofs.Ytaolallfmjjoeaa.TF Go.Proofs.Ytaolallfmjjoeaa.TH Go.Proofs.Ytaolallfmjjoeaa.RA Go.Proofs.Ytaolallfmjjoeaa.RB Go.Proofs.Ytaolallfmjjoeaa.RC Go.Proofs.Ytaolallfmjjoeaa.RD Go.Proofs.Ytaolallfmjjoeaa.RE Go.Proofs.Ytaolallfmjjoeaa.RF Go.Proofs.Ytaolallfmjjoeaa.RG Go.Proofs.Ytaolallfmjjoeaa.RH Go.Proofs.Ytaolallfmjjoeaa.RI Go.Proofs.Ytaolallfmjjoeaa.RJ Go.Proofs.Ytaolallfmjjoeaa.Bytes

theorem sameR_any (v v2 : Value) (l m : List Rm) (w : World) (h : Rms w v l) (h2 : Rms w v2 m) : Calls Try.prog 13 #[v, v2] w fun e w' => e = .returned (.bool (decide (l = m))) ∧ Grew w w' := by
  have HL := Lib.hid h
  have HM := Lib.hid h2
  obtain ⟨A, c, rfl, a1, a2⟩ := h.slice
  obtain ⟨B, d, rfl, b1, b2⟩ := h2.slice
  clear h h2
  unfold maxLen at a2 b2
  by_cases hlen : l.length = m.length
  · rw [← hlen]
    have HLEN := Lib.hid hlen
    have HEQ : Hid ((∀ j, j < l.length → er l j = er m j) → l = m) := Lib.hid fun hh => by
      apply List.ext_getElem hlen
      intro j h1 h2
      have := hh j h1
      unfold er at this
      rw [List.getElem?_eq_getElem h1, List.getElem?_eq_getElem h2] at this
      exact this
    have HNE : Hid (∀ j, er l j ≠ er m j → decide (l = m) = false) := Lib.hid fun j hne => by
      rw [decide_eq_false_iff_not]
      intro e
      exact hne (by rw [e])
    have HA2 := Lib.hid a2
    clear hlen b1 b2 a2
    go_enter Try.func13, Try.ntmps13
    go_wp2
    go_loopg [5] l.length (fun g s5 wx => ∃ k : Nat, k + g = l.length ∧ s5 = .int .i64 k ∧ Hid (∀ j, j < k → er l j = er m j) ∧ Hid (Grew w wx))
    case atStart => exact ⟨0, by omega, rfl, Lib.hid (fun j hj => absurd hj (by omega)), Lib.hid (Grew.refl _)⟩
    case round =>
      obtain ⟨k, hkg, rfl, HI, HG⟩ := hrel
      cases gk with
      | zero =>
        have hkz : ¬ ((k : Int) < (l.length : Int)) := by omega
        have hres : decide (l = m) = true := by rw [decide_eq_true_iff]; exact HEQ.out fun j hj => HI.out j (by omega)
        have HRES := Lib.hid hres
        clear hres
        go_wp2
        go_returns
        refine ⟨?_, HG.out⟩
        rw [HRES.out]
        rfl
      | succ g =>
        have hkz : (k : Int) < (l.length : Int) := by omega
        have hkl : k < l.length := by omega
        have hkm : k < m.length := by rw [← HLEN.out]; exact hkl
        have hx : l[k]? = some (er l k) := by unfold er; rw [List.getElem?_eq_getElem hkl]; rfl
        have hy : m[k]? = some (er m k) := by unfold er; rw [List.getElem?_eq_getElem hkm]; rfl
        obtain ⟨ad, c3, e, _, x0, x1⟩ := Rms_at (HL.out.grew HG.out) hx
        injection e with e1 _ e3
        subst e1 e3
        obtain ⟨ad2, c4, e2, _, y0, y1⟩ := Rms_at (HM.out.grew HG.out) hy
        injection e2 with e1 e9 e3
        subst e1 e3
        clear e9
        have HN : Hid (er l k = er m k → ∀ j, j < k + 1 → er l j = er m j) := Lib.hid fun h j hj => by
          by_cases hjk : j = k
          · subst hjk; exact h
          · exact HI.out j (by omega)
        have HF := Lib.hid (HNE.out k)
        have hkw : wrap64 ((k : Int) + 1) = ((k + 1 : Nat) : Int) := by
          have := HA2.out
          unfold wrap64
          omega
        have HKW := Lib.hid hkw
        clear hx hy hkl hkm hkw
        generalize er l k = x at *
        generalize er m k = y at *
        by_cases hxy : x = y
        · have HT := Lib.hid (HN.out hxy)
          subst hxy
          go_wp2
          refine Facts.wp_region_text (by kernel_rfl) (by kernel_rfl) ?_
          repeat
            apply Facts.Lex.exact [] _ (by kernel_rfl)
            · intro u W hC _
              have i0 := cellG hC x0
              have i1 := cellG hC x1
              have j0 := cellG hC y0
              have j1 := cellG hC y1
              unfold Facts.one
              go_simp
              first | exact ⟨Grew.refl _, rfl⟩ | rfl
            simp only [Act.put, List.setIfInBounds_toArray, List.set_cons_zero, List.set_cons_succ, Nat.zero_add, Nat.reduceAdd]
          refine Facts.Lex.done fun u W2 hC hL => ?_
          have G2 := Lib.hid (HG.out.trans hC)
          clear hC hL x0 x1 y0 y1
          go_wp2
          go_roundg g
          case measure => omega
          case rel => exact ⟨k + 1, by omega, by first | (simp; done) | rw [HKW.out], HT, G2⟩
        · have HRES := Lib.hid (HF.out hxy)
          have hne : ¬ (x.used = y.used ∧ x.name = y.name) := by
            rintro ⟨h1, h2⟩
            apply hxy
            cases x
            cases y
            simp only at h1 h2
            subst h1 h2
            rfl
          have hs : x.name.toList = y.name.toList → x.name = y.name := fun h => (Lib.bytes_beq_iff x.name y.name).1 (by rw [h]; exact beq_self_eq_true _)
          have HNE2 := Lib.hid hne
          have HS := Lib.hid hs
          clear hne hs hxy HN HF
          go_wp2
          refine Facts.wp_region_text (by kernel_rfl) (by kernel_rfl) ?_
          iterate 8
            apply Facts.Lex.exact [] _ (by kernel_rfl)
            · intro u W hC _
              have i0 := cellG hC x0
              have i1 := cellG hC x1
              have j0 := cellG hC y0
              have j1 := cellG hC y1
              unfold Facts.one
              go_simp
              first | exact ⟨Grew.refl _, rfl⟩ | rfl
            simp only [Act.put, List.setIfInBounds_toArray, List.set_cons_zero, List.set_cons_succ, Nat.zero_add, Nat.reduceAdd]
          apply Facts.Lex.exact [] (.bool true) (by kernel_rfl)
          · intro u W hC _
            unfold Facts.one
            go_simp
            repeat' split
            all_goals first | exact ⟨Grew.refl _, rfl⟩ | exact absurd ⟨by assumption, HS.out (by assumption)⟩ HNE2.out
          simp only [Act.put, List.setIfInBounds_toArray, List.set_cons_zero, List.set_cons_succ, Nat.reduceAdd]
          refine Facts.Lex.done fun u W2 hC hL => ?_
          have G2 := Lib.hid (HG.out.trans hC)
          clear hC hL x0 x1 y0 y1
          go_wp2
          go_returns
          refine ⟨?_, G2.out⟩
          rw [HRES.out]
          rfl
  · have hlen' : ¬ (l.length : Int) = (m.length : Int) := by omega
    have hres : decide (l = m) = false := by rw [decide_eq_false_iff_not]; intro e; exact hlen (by rw [e])
    rw [hres]
    clear hres hlen a1 b1
    go_enter Try.func13, Try.ntmps13
    go_wp2
    go_returns
    exact ⟨rfl, Grew.refl _⟩

end Go.Proofs.Ytaolallfmjjoeaa.RK
