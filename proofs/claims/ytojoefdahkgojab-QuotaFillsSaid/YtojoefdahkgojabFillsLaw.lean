/-
  Things that are added one behind the other take the free slots, the lowest one first, till none is free: QuotaFills answers true.
  Conditions: none beyond those that each lemma names.
-/
import Derived.Test.YtojoefdahkgojabAlive
namespace Go.Proofs.Ytojoefdahkgojab.FillsLaw
open Go Go.RowKit Go.Lib Go.Proofs.Ytojoefdahkgojab Go.Proofs.Ytojoefdahkgojab.Facts Go.Proofs.Ytojoefdahkgojab.Bytes Go.Proofs.Ytojoefdahkgojab.Ints Go.Proofs.Ytojoefdahkgojab.Slot Go.Proofs.Ytojoefdahkgojab.Row Go.Proofs.Ytojoefdahkgojab.Refs Go.Proofs.Ytojoefdahkgojab.Alive

theorem upto_count (l : List Int) : ∀ k, k ≤ l.length → (upto l k).length = (l.take k).countP (fun x => x != 0)
  | 0, _ => by simp [upto]
  | k + 1, h => by
    have ih := upto_count l k (by omega)
    have hk : k < l.length := by omega
    rw [List.take_add_one, List.getElem?_eq_getElem hk, List.countP_append, ← ih]
    have e : at_ l k = (l[k] != 0) := by unfold at_; rw [List.getElem?_eq_getElem hk]; rfl
    cases hb : at_ l k with
    | true =>
      rw [upto_yes l k hb, List.length_append]
      rw [e] at hb
      simp [hb]
    | false =>
      rw [upto_no l k hb]
      rw [e] at hb
      simp [hb]
theorem slots_count (l : List Int) : (slots l).length = l.countP (fun x => x != 0) := by
  unfold slots
  rw [upto_count l l.length (Nat.le_refl _), List.take_length]
theorem slots_full (l : List Int) (h : first l = none) : (slots l).length = l.length := by
  rw [slots_count, List.countP_eq_length]
  unfold first at h
  rw [List.findIdx?_eq_none_iff] at h
  intro x hx
  have := h x hx
  simpa using this
theorem slots_set (l : List Int) (k : Nat) (x : Int) (h : first l = some k) (hx : x ≠ 0) : (slots (l.set k x)).length = (slots l).length + 1 := by
  obtain ⟨h1, h2, _⟩ := first_lt h
  rw [slots_count, slots_count, List.countP_set h1]
  have e : l[k] = 0 := by simpa [h1] using h2
  rw [e]
  simp [hx]
/-- All slots up to this one are taken. -/
def Taken (m : List Int) (t : Int) : Prop := ∀ j : Nat, (j : Int) ≤ t → at_ m j = true
theorem taken_first {m : List Int} {t : Int} {k : Nat} (h : Taken m t) (hf : first m = some k) : t < (k : Int) := by
  obtain ⟨h1, h2, _⟩ := first_lt hf
  by_cases hk : (k : Int) ≤ t
  · have := h k hk
    unfold at_ at this
    rw [h2] at this
    cases this
  · omega
theorem taken_set {m : List Int} {k : Nat} {x : Int} (hf : first m = some k) (hx : x ≠ 0) : Taken (m.set k x) k := by
  obtain ⟨h1, h2, h3⟩ := first_lt hf
  intro j hj
  unfold at_
  by_cases e : j = k
  · subst e
    simp [h1, hx]
  · have := h3 j (by omega)
    unfold at_ at this
    rw [List.getElem?_set_ne (fun h => e h.symm)]
    exact this

set_option maxRecDepth 100000 in
set_option maxHeartbeats 4000000 in
theorem law_any (w : World) (v v2 : Value) (l more : List Int) (h : Is w v l) (h2 : Is w v2 more) :
    Calls Try.prog 4 #[v, v2] w fun e w' => e = .returned (.bool true) ∧ Grew w w' := by
  have HL := Lib.hid h
  have HM := Lib.hid h2
  obtain ⟨A0, c0, rfl, _⟩ := h
  obtain ⟨B, d, rfl, hmd, hdm, _⟩ := h2
  unfold maxLen at hdm
  by_cases h200 : 200 < l.length
  · have h200' : (200 : Int) < (l.length : Int) := by omega
    go_enter Try.func4, Try.ntmps4
    go_wp2_with fail
    refine (alive_any _).mono ?_
    rintro e w1 ⟨rfl, hg⟩
    have HG := Lib.hid hg
    clear hg
    go_wp2
    go_returns
    exact ⟨rfl, HG.out⟩
  have h200' : ¬ (200 : Int) < (l.length : Int) := by omega
  obtain ⟨M, hM⟩ : ∃ M, M = min more.length 300 := ⟨_, rfl⟩
  have hM1 : M ≤ more.length := by omega
  have hM2 : M ≤ 300 := by omega
  have hM3 : M = more.length ∨ M = 300 := by omega
  clear hM
  go_enter Try.func4, Try.ntmps4
  go_wp2
  go_loopg [5, 6, 7] M (fun g s5 s6 s7 wx => ∃ (k : Nat) (A : Option Addr) (c : Nat) (t : Int) (m : List Int), k + g = M ∧ s5 = .slice A l.length c ∧ s6 = .int .i64 t ∧ s7 = .int .i64 k ∧ -1 ≤ t ∧ t < l.length ∧ Hid (m.length = l.length ∧ Is wx (.slice A l.length c) m ∧ Taken m t) ∧ Hid (Grew w wx))
  case atStart => exact ⟨0, A0, c0, -1, l, by omega, rfl, rfl, rfl, by omega, by omega, Lib.hid ⟨rfl, HL.out, fun j hj => by omega⟩, Lib.hid (Grew.refl _)⟩
  case round =>
    obtain ⟨k, A, c, t, m, hkg, rfl, rfl, rfl, ht1, ht2, HI, HG⟩ := hrel
    cases gk with
    | zero =>
      by_cases hk : k < more.length
      · have hk1 : (k : Int) < (more.length : Int) := by omega
        have hk2 : decide ((k : Int) < 300) = false := decide_eq_false (by omega)
        go_wp2_with fail
        refine (alive_any _).mono ?_
        rintro e w1 ⟨rfl, hg⟩
        have HG2 := Lib.hid (HG.out.trans hg)
        clear hg
        go_wp2
        go_returns
        exact ⟨rfl, HG2.out⟩
      · have hk1 : decide ((k : Int) < (more.length : Int)) = false := decide_eq_false (by omega)
        go_wp2_with fail
        refine (alive_any _).mono ?_
        rintro e w1 ⟨rfl, hg⟩
        have HG2 := Lib.hid (HG.out.trans hg)
        clear hg
        go_wp2
        go_returns
        exact ⟨rfl, HG2.out⟩
    | succ g =>
      have hk1 : (k : Int) < (more.length : Int) := by omega
      have hk2 : (k : Int) < 300 := by omega
      obtain ⟨ad, cx, hv, _, hcell⟩ := (HM.out.grew HG.out).cell (k := k) (by omega)
      injection hv with e1 _ e3
      subst e1 e3
      generalize more[k]?.getD 0 = x at hcell
      by_cases hx : x = 0
      · subst hx
        go_wp2
        go_roundg g
        case measure => omega
        case rel => exact ⟨k + 1, A, c, t, m, by omega, rfl, rfl, by first | rfl | simp, ht1, ht2, HI, HG⟩
      · have hx' : (x == 0) = false := by simpa using hx
        obtain ⟨hml, hmi, hmt⟩ := HI.out
        have HOF := Lib.hid (of_any wr _ m hmi (by omega))
        have HCN : Hid (∀ W b, Row W b m → Calls Try.prog 17 #[.pointer (some ⟨b, 0, none⟩)] W fun e w' => e = .returned (.int .i64 ((slots m).length : Int)) ∧ Grew W w') := Lib.hid fun W b hr => count_any W b m hr (by omega)
        cases hf : first m with
        | none =>
          have HAD : Hid (∀ W b, Row W b m → Calls Try.prog 12 #[.pointer (some ⟨b, 0, none⟩), .int .i64 x] W fun e w' => e = .returned (.tuple #[.slice none 0 0, .int .i64 0, .int .i64 8]) ∧ Grew W w') := Lib.hid fun W b hr => add_full W b m x hr hf
          rw [slots_full m hf, hml] at HCN
          clear hml hmi hmt hf
          go_wp2_with fail
          refine (HOF.out).mono ?_
          rintro e w1 ⟨b, rfl, hr, hg⟩
          have HR := Lib.hid hr
          have G1 := Lib.hid hg
          have K1 := Lib.hid (Grew.refl w1)
          clear hr hg
          go_wp2_with fail
          refine (HCN.out _ _ HR.out).mono ?_
          rintro e w2 ⟨rfl, hg⟩
          have G2 := Lib.hid (G1.out.trans hg)
          have K2 := Lib.hid (K1.out.trans hg)
          clear hg
          go_wp2_with fail
          refine (HAD.out _ _ (HR.out.grew K2.out)).mono ?_
          rintro e w3 ⟨rfl, hg⟩
          have G3 := Lib.hid (G2.out.trans hg)
          clear hg
          go_wp2_with fail
          refine (alive_any _).mono ?_
          rintro e w4 ⟨rfl, hg⟩
          have G4 := Lib.hid (G3.out.trans hg)
          clear hg
          go_wp2
          go_returns
          exact ⟨rfl, HG.out.trans G4.out⟩
        | some j =>
          have HAD : Hid (∀ W b, Row W b m → Calls Try.prog 12 #[.pointer (some ⟨b, 0, none⟩), .int .i64 x] W (Own W (m.set j x) fun v' => .tuple #[v', .int .i64 j, .int .i64 0])) := Lib.hid fun W b hr => add_in W b m j x hr hf (by omega)
          have hset := slots_set m j x hf hx
          have hlt := (first_lt hf).1
          obtain ⟨ad2, cx2, hv2, _, hcell2⟩ := hmi.cell hlt
          rw [(first_lt hf).2.1] at hcell2
          have hv3 := hv2
          injection hv2 with e1 e2 e3
          subst e1 e3
          clear e2
          have htj := taken_first hmt hf
          have HTS := Lib.hid (taken_set (x := x) hf hx)
          have hsl : (m.set j x).length = l.length := by rw [List.length_set]; exact hml
          have hjl : (j : Int) < (l.length : Int) := by omega
          have hjl' : j < l.length := by omega
          have HOF2 : Hid (∀ W v', Is W v' (m.set j x) → Calls Try.prog 6 #[v', .func (.func 7) #[] #[]] W fun e w' => ∃ b, e = .returned (.pointer (some ⟨b, 0, none⟩)) ∧ Row w' b (m.set j x) ∧ Grew W w') := Lib.hid fun W v' hi => of_any W v' _ hi (by omega)
          have HCN2 : Hid (∀ W b, Row W b (m.set j x) → Calls Try.prog 17 #[.pointer (some ⟨b, 0, none⟩)] W fun e w' => e = .returned (.int .i64 (((slots m).length + 1 : Nat) : Int)) ∧ Grew W w') := Lib.hid fun W b hr => by
            have := count_any W b _ hr (by omega)
            rwa [hset] at this
          have hq : (slots m).length ≤ 200 := by
            have := upto_len m m.length
            unfold slots
            omega
          have HSL := Lib.hid hsl
          have HJX : Hid ((iv (m.set j x))[j]? = some (.int .i64 x)) := Lib.hid (by
            rw [iv_get _ _ (by omega)]
            simp [hlt])
          clear hset hsl hml hmi hmt hf hv3 hlt
          generalize (slots m).length = q at *
          generalize m.set j x = m2 at *
          go_wp2_with fail
          refine (HOF.out).mono ?_
          rintro e w1 ⟨b, rfl, hr, hg⟩
          have HR := Lib.hid hr
          have G1 := Lib.hid hg
          have K1 := Lib.hid (Grew.refl w1)
          clear hr hg
          go_wp2_with fail
          refine (HCN.out _ _ HR.out).mono ?_
          rintro e w2 ⟨rfl, hg⟩
          have G2 := Lib.hid (G1.out.trans hg)
          have K2 := Lib.hid (K1.out.trans hg)
          clear hg
          go_wp2_with fail
          refine (HAD.out _ _ (HR.out.grew K2.out)).mono ?_
          rintro e w3 ⟨v', rfl, hown, hg⟩
          have G3 := Lib.hid (G2.out.trans hg)
          have hI := Is.of_own hown rfl
          rw [HSL.out] at hown
          obtain ⟨g2, cap2, rfl, _⟩ := hown.form (by omega)
          have hc2 := hown.cellAt j (by omega)
          rw [HJX.out] at hc2
          have HC2 := Lib.hid hc2
          have J3 := Lib.hid hI
          clear hg hown hI hc2
          go_wp2_with fail
          refine (HOF2.out _ _ J3.out).mono ?_
          rintro e w4 ⟨b2, rfl, hr, hg⟩
          have HR2 := Lib.hid hr
          have G4 := Lib.hid (G3.out.trans hg)
          have L4 := Lib.hid hg
          clear hr hg
          go_wp2_with fail
          refine (HCN2.out _ _ HR2.out).mono ?_
          rintro e w5 ⟨rfl, hg⟩
          have G5 := Lib.hid (G4.out.trans hg)
          have L5 := Lib.hid (L4.out.trans hg)
          have J5 := Lib.hid (J3.out.grew L5.out)
          clear hg
          have hcA := cellG L5.out HC2.out
          have hcB := cellG G5.out hcell2
          clear hcell hcell2
          go_wp2
          go_roundg g
          case measure => omega
          case rel => exact ⟨k + 1, _, _, _, m2, by omega, rfl, rfl, by first | rfl | simp, by omega, by omega, Lib.hid ⟨HSL.out, J5.out, HTS.out⟩, Lib.hid (HG.out.trans G5.out)⟩
end Go.Proofs.Ytojoefdahkgojab.FillsLaw
