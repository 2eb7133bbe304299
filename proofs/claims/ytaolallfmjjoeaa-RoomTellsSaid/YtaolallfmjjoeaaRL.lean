/-
  The document on rooms: which may be.
  Conditions: those that each lemma names.
-/
import Derived.Test.YtaolallfmjjoeaaRK
import Derived.Test.YtaolallfmjjoeaaRefName
namespace Go.Proofs.Ytaolallfmjjoeaa.RL
set_option maxRecDepth 100000
open Go Go.RowKit Go.Lib Go.Proofs.Ytaolallfmjjoeaa Go.Proofs.Ytaolallfmjjoeaa.Facts Go.Proofs.Ytaolallfmjjoeaa.Ints Go.Proofs.Ytaolallfmjjoeaa.TI Go.Proofs.Ytaolallfmjjoeaa.TP Go.Proofs.Ytaolallfmjjoeaa.TB Go.Proofs.Ytaolallfmjjoeaa.TC Go.Proofs.Ytaolallfmjjoeaa.TD Go.Proofs.Ytaolallfmjjoeaa.TE Go.Proofs.Ytaolallfmjjoeaa.TF Go.Proofs.Ytaolallfmjjoeaa.TH Go.Proofs.Ytaolallfmjjoeaa.RA Go.Proofs.Ytaolallfmjjoeaa.RB Go.Proofs.Ytaolallfmjjoeaa.RC Go.Proofs.Ytaolallfmjjoeaa.RD Go.Proofs.Ytaolallfmjjoeaa.RE Go.Proofs.Ytaolallfmjjoeaa.RF Go.Proofs.Ytaolallfmjjoeaa.RG Go.Proofs.Ytaolallfmjjoeaa.RH Go.Proofs.Ytaolallfmjjoeaa.RI Go.Proofs.Ytaolallfmjjoeaa.RJ Go.Proofs.Ytaolallfmjjoeaa.RK Go.Proofs.Ytaolallfmjjoeaa.Bytes


theorem okR_el {l : List Rm} (h : okRs l = true) (k : Nat) : okR (er l k) = true := by
  unfold er
  cases hx : l[k]? with
  | none => kernel_rfl
  | some x => exact List.all_eq_true.1 h x (List.mem_of_getElem? hx)
theorem SzR_at {l : List Rm} (h : SzR l) (k : Nat) : (er l k).name.size ≤ 9223372036854775807 := by
  unfold er
  cases hx : l[k]? with
  | none => decide
  | some x => exact h x (List.mem_of_getElem? hx)
set_option maxHeartbeats 4000000 in
theorem rrooms_any (v : Value) (l : List Rm) (w : World) (h : Rms w v l) (hz : SzR l) (hn : l.length ≤ 4611686018427387904) : Calls Try.prog 12 #[v] w fun e w' => e = .returned (.bool (okRs l)) ∧ Grew w w' := by
  have HL := Lib.hid h
  have HZ := Lib.hid hz
  obtain ⟨A, c, rfl, _⟩ := h.slice
  have HNO : Hid (∀ k, okR (er l k) = false → okRs l = false) := Lib.hid fun k hk => by
    cases ho : okRs l with
    | false => rfl
    | true => rw [okR_el ho k] at hk; cases hk
  have HYES : Hid ((∀ j, j < l.length → okR (er l j) = true) → okRs l = true) := Lib.hid fun hh => by
    unfold okRs
    rw [List.all_eq_true]
    intro x hx
    obtain ⟨j, hj, rfl⟩ := List.getElem_of_mem hx
    have := hh j hj
    unfold er at this
    rw [List.getElem?_eq_getElem hj] at this
    exact this
  have HN := Lib.hid hn
  clear h hz hn
  go_enter Try.func12, Try.ntmps12
  go_wp2
  go_loopg [3] l.length (fun g s3 wx => ∃ k : Nat, k + g = l.length ∧ s3 = .int .i64 k ∧ Hid (∀ j, j < k → okR (er l j) = true) ∧ Hid (Grew w wx))
  case atStart => exact ⟨0, by omega, rfl, Lib.hid (fun j hj => absurd hj (by omega)), Lib.hid (Grew.refl _)⟩
  case round =>
    obtain ⟨k, hkg, rfl, HJ, HG⟩ := hrel
    cases gk with
    | zero =>
      have hkz : ¬ ((k : Int) < (l.length : Int)) := by omega
      have HRES : Hid (okRs l = true) := Lib.hid (HYES.out fun j hj => HJ.out j (by omega))
      go_wp2
      go_returns
      refine ⟨?_, HG.out⟩
      rw [HRES.out]
      try rfl
    | succ g =>
      have hkz : (k : Int) < (l.length : Int) := by omega
      have hkl : k < l.length := by omega
      have hx : l[k]? = some (er l k) := by unfold er; rw [List.getElem?_eq_getElem hkl]; rfl
      obtain ⟨ad, c3, e, _, d0, d1⟩ := Rms_at (HL.out.grew HG.out) hx
      injection e with e1 _ e3
      subst e1 e3
      have HKW := Lib.hid (wr1b hkl HN.out)
      have hsz := SzR_at HZ.out k
      clear hx hkl
      have HSTEP : Hid (okR (er l k) = true → ∀ j, j < k + 1 → okR (er l j) = true) := Lib.hid fun h j hj => by
        by_cases hjk : j = k
        · subst hjk; exact h
        · exact HJ.out j (by omega)
      have HF := Lib.hid (HNO.out k)
      generalize er l k = x at *
      obtain ⟨us, s⟩ := x
      simp only at d0 d1 hsz
      have HNM := Lib.hid (fun W => RefName.rright_any s hsz W)
      have HOK : Hid (okR ⟨us, s⟩ = if us then Chars.right s.data.toList else decide ((⟨us, s⟩ : Rm) = zrm)) := Lib.hid rfl
      clear hsz
      cases us with
      | true =>
        cases hr : Chars.right s.data.toList with
        | true =>
          rw [hr] at HNM
          have HT := Lib.hid (HSTEP.out (by rw [HOK.out, hr]; rfl))
          clear hr HOK HF HSTEP
          go_wp2
          refine Facts.wp_region_text (by kernel_rfl) (by kernel_rfl) ?_
          iterate 10
            apply Facts.Lex.exact [] _ (by kernel_rfl)
            · intro u W hC _
              have j0 := cellG hC d0
              have j1 := cellG hC d1
              unfold Facts.one
              go_simp
              first | exact ⟨Grew.refl _, rfl⟩ | rfl
            simp only [Act.put, List.setIfInBounds_toArray, List.set_cons_zero, List.set_cons_succ, Nat.zero_add, Nat.reduceAdd]
          apply Facts.Lex.exact [] _ (by kernel_rfl)
          · intro u W hC hK
            have HC9 := Lib.hid (HNM.out W)
            clear hK
            unfold Facts.one
            go_simp
            exact (HC9.out.mono fun e w' ⟨he, hw⟩ => ⟨_, he, (by rw [hw]; exact Grew.refl _), rfl⟩)
          simp only [Act.put, List.setIfInBounds_toArray, List.set_cons_zero, List.set_cons_succ, Nat.reduceAdd]
          iterate 17
            apply Facts.Lex.exact [] _ (by kernel_rfl)
            · intro u W hC _
              have j0 := cellG hC d0
              have j1 := cellG hC d1
              unfold Facts.one
              go_simp
              first | exact ⟨Grew.refl _, rfl⟩ | rfl
            simp only [Act.put, List.setIfInBounds_toArray, List.set_cons_zero, List.set_cons_succ, Nat.reduceAdd]
          refine Facts.Lex.done fun u W2 hC hL => ?_
          have G2 := Lib.hid (HG.out.trans hC)
          clear hC hL d0 d1
          go_wp2
          go_roundg g
          case measure => omega
          case rel => exact ⟨k + 1, by omega, by first | (simp; done) | rw [HKW.out], HT, G2⟩
        | false =>
          rw [hr] at HNM
          have HRES := Lib.hid (HF.out (by rw [HOK.out, hr]; rfl))
          clear hr HOK HF HSTEP
          go_wp2
          refine Facts.wp_region_text (by kernel_rfl) (by kernel_rfl) ?_
          iterate 10
            apply Facts.Lex.exact [] _ (by kernel_rfl)
            · intro u W hC _
              have j0 := cellG hC d0
              have j1 := cellG hC d1
              unfold Facts.one
              go_simp
              first | exact ⟨Grew.refl _, rfl⟩ | rfl
            simp only [Act.put, List.setIfInBounds_toArray, List.set_cons_zero, List.set_cons_succ, Nat.zero_add, Nat.reduceAdd]
          apply Facts.Lex.exact [] _ (by kernel_rfl)
          · intro u W hC hK
            have HC9 := Lib.hid (HNM.out W)
            clear hK
            unfold Facts.one
            go_simp
            exact (HC9.out.mono fun e w' ⟨he, hw⟩ => ⟨_, he, (by rw [hw]; exact Grew.refl _), rfl⟩)
          simp only [Act.put, List.setIfInBounds_toArray, List.set_cons_zero, List.set_cons_succ, Nat.reduceAdd]
          iterate 17
            apply Facts.Lex.exact [] _ (by kernel_rfl)
            · intro u W hC _
              have j0 := cellG hC d0
              have j1 := cellG hC d1
              unfold Facts.one
              go_simp
              first | exact ⟨Grew.refl _, rfl⟩ | rfl
            simp only [Act.put, List.setIfInBounds_toArray, List.set_cons_zero, List.set_cons_succ, Nat.reduceAdd]
          refine Facts.Lex.done fun u W2 hC hL => ?_
          have G2 := Lib.hid (HG.out.trans hC)
          clear hC hL d0 d1
          go_wp2
          go_returns
          refine ⟨?_, G2.out⟩
          rw [HRES.out]
          try rfl
      | false =>
        by_cases hz : s = ⟨#[]⟩
        · subst hz
          have hr : Chars.right (⟨#[]⟩ : ByteArray).data.toList = false := by kernel_rfl
          rw [hr] at HNM
          have HT := Lib.hid (HSTEP.out (by rw [HOK.out]; kernel_rfl))
          clear hr HOK HF HSTEP
          go_wp2
          refine Facts.wp_region_text (by kernel_rfl) (by kernel_rfl) ?_
          iterate 10
            apply Facts.Lex.exact [] _ (by kernel_rfl)
            · intro u W hC _
              have j0 := cellG hC d0
              have j1 := cellG hC d1
              unfold Facts.one
              go_simp
              first | exact ⟨Grew.refl _, rfl⟩ | rfl
            simp only [Act.put, List.setIfInBounds_toArray, List.set_cons_zero, List.set_cons_succ, Nat.zero_add, Nat.reduceAdd]
          apply Facts.Lex.exact [] _ (by kernel_rfl)
          · intro u W hC hK
            have HC9 := Lib.hid (HNM.out W)
            clear hK
            unfold Facts.one
            go_simp
            exact (HC9.out.mono fun e w' ⟨he, hw⟩ => ⟨_, he, (by rw [hw]; exact Grew.refl _), rfl⟩)
          simp only [Act.put, List.setIfInBounds_toArray, List.set_cons_zero, List.set_cons_succ, Nat.reduceAdd]
          iterate 17
            apply Facts.Lex.exact [] _ (by kernel_rfl)
            · intro u W hC _
              have j0 := cellG hC d0
              have j1 := cellG hC d1
              unfold Facts.one
              go_simp
              first | exact ⟨Grew.refl _, rfl⟩ | rfl
            simp only [Act.put, List.setIfInBounds_toArray, List.set_cons_zero, List.set_cons_succ, Nat.reduceAdd]
          refine Facts.Lex.done fun u W2 hC hL => ?_
          have G2 := Lib.hid (HG.out.trans hC)
          clear hC hL d0 d1
          go_wp2
          go_roundg g
          case measure => omega
          case rel => exact ⟨k + 1, by omega, by first | (simp; done) | rw [HKW.out], HT, G2⟩
        · have HRES := Lib.hid (HF.out (by rw [HOK.out]; simp only [Bool.false_eq_true, if_false, decide_eq_false_iff_not]; intro h; injection h with _ h1; exact hz h1))
          have hb0 : s.toList = [] → s = ⟨#[]⟩ := fun h => (Lib.bytes_beq_iff s ⟨#[]⟩).1 (by rw [h]; first | decide | simp | kernel_rfl)
          have hb : s.toList.isEmpty = false := by
            cases h : s.toList with
            | nil => exact absurd (hb0 h) hz
            | cons _ _ => rfl
          clear hb0
          clear hz HOK HF HSTEP
          cases hr : Chars.right s.data.toList with
          | true =>
            rw [hr] at HNM
            clear hr
            go_wp2
            refine Facts.wp_region_text (by kernel_rfl) (by kernel_rfl) ?_
            iterate 10
              apply Facts.Lex.exact [] _ (by kernel_rfl)
              · intro u W hC _
                have j0 := cellG hC d0
                have j1 := cellG hC d1
                unfold Facts.one
                go_simp
                first | exact ⟨Grew.refl _, rfl⟩ | rfl
              simp only [Act.put, List.setIfInBounds_toArray, List.set_cons_zero, List.set_cons_succ, Nat.zero_add, Nat.reduceAdd]
            apply Facts.Lex.exact [] _ (by kernel_rfl)
            · intro u W hC hK
              have HC9 := Lib.hid (HNM.out W)
              clear hK
              unfold Facts.one
              go_simp
              exact (HC9.out.mono fun e w' ⟨he, hw⟩ => ⟨_, he, (by rw [hw]; exact Grew.refl _), rfl⟩)
            simp only [Act.put, List.setIfInBounds_toArray, List.set_cons_zero, List.set_cons_succ, Nat.reduceAdd]
            iterate 17
              apply Facts.Lex.exact [] _ (by kernel_rfl)
              · intro u W hC _
                have j0 := cellG hC d0
                have j1 := cellG hC d1
                unfold Facts.one
                go_simp
                first | exact ⟨Grew.refl _, rfl⟩ | rfl
              simp only [Act.put, List.setIfInBounds_toArray, List.set_cons_zero, List.set_cons_succ, Nat.reduceAdd]
            refine Facts.Lex.done fun u W2 hC hL => ?_
            have G2 := Lib.hid (HG.out.trans hC)
            clear hC hL d0 d1
            go_wp2
            go_returns
            refine ⟨?_, G2.out⟩
            rw [HRES.out]
            try rfl
          | false =>
            rw [hr] at HNM
            clear hr
            go_wp2
            refine Facts.wp_region_text (by kernel_rfl) (by kernel_rfl) ?_
            iterate 10
              apply Facts.Lex.exact [] _ (by kernel_rfl)
              · intro u W hC _
                have j0 := cellG hC d0
                have j1 := cellG hC d1
                unfold Facts.one
                go_simp
                first | exact ⟨Grew.refl _, rfl⟩ | rfl
              simp only [Act.put, List.setIfInBounds_toArray, List.set_cons_zero, List.set_cons_succ, Nat.zero_add, Nat.reduceAdd]
            apply Facts.Lex.exact [] _ (by kernel_rfl)
            · intro u W hC hK
              have HC9 := Lib.hid (HNM.out W)
              clear hK
              unfold Facts.one
              go_simp
              exact (HC9.out.mono fun e w' ⟨he, hw⟩ => ⟨_, he, (by rw [hw]; exact Grew.refl _), rfl⟩)
            simp only [Act.put, List.setIfInBounds_toArray, List.set_cons_zero, List.set_cons_succ, Nat.reduceAdd]
            iterate 17
              apply Facts.Lex.exact [] _ (by kernel_rfl)
              · intro u W hC _
                have j0 := cellG hC d0
                have j1 := cellG hC d1
                unfold Facts.one
                go_simp
                first | exact ⟨Grew.refl _, rfl⟩ | rfl
              simp only [Act.put, List.setIfInBounds_toArray, List.set_cons_zero, List.set_cons_succ, Nat.reduceAdd]
            refine Facts.Lex.done fun u W2 hC hL => ?_
            have G2 := Lib.hid (HG.out.trans hC)
            clear hC hL d0 d1
            go_wp2
            go_returns
            refine ⟨?_, G2.out⟩
            rw [HRES.out]
            try rfl
end Go.Proofs.Ytaolallfmjjoeaa.RL
