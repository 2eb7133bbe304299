/-
  What is done in a hall keeps ranks that may be.
  Conditions: none.
-/
import Derived.Test.YtmegdgeiikhflaaGreatHT
import Derived.Test.YtmegdgeiikhflaaGreatHX
namespace Go.Proofs.YtmegdgeiikhflaaGreat.HP
open Go Go.RowKit Go.Lib Go.Proofs.YtmegdgeiikhflaaGreat Go.Proofs.YtmegdgeiikhflaaGreat.Facts Go.Proofs.YtmegdgeiikhflaaGreat.Plain Go.Proofs.YtmegdgeiikhflaaGreat.Ints Go.Proofs.YtmegdgeiikhflaaGreat.RRows Go.Proofs.YtmegdgeiikhflaaGreat.LBox Go.Proofs.YtmegdgeiikhflaaGreat.RSmall Go.Proofs.YtmegdgeiikhflaaGreat.RFind Go.Proofs.YtmegdgeiikhflaaGreat.RAll Go.Proofs.YtmegdgeiikhflaaGreat.RRules Go.Proofs.YtmegdgeiikhflaaGreat.RRule3 Go.Proofs.YtmegdgeiikhflaaGreat.RRight Go.Proofs.YtmegdgeiikhflaaGreat.HA Go.Proofs.YtmegdgeiikhflaaGreat.HB Go.Proofs.YtmegdgeiikhflaaGreat.HG Go.Proofs.YtmegdgeiikhflaaGreat.HC Go.Proofs.YtmegdgeiikhflaaGreat.HD Go.Proofs.YtmegdgeiikhflaaGreat.HN Go.Proofs.YtmegdgeiikhflaaGreat.HW Go.Proofs.YtmegdgeiikhflaaGreat.HX Go.Proofs.YtmegdgeiikhflaaGreat.HR Go.Proofs.YtmegdgeiikhflaaGreat.HT

theorem rk_with (R : List (List Int)) (g who : Nat) (n : Int) (hg : g < R.length) (i : Nat) : rk (withR R g who n) i = if i = g then (rk R g).set who n else rk R i := by
  unfold withR rk
  rw [List.getElem?_set]
  by_cases h : g = i
  · subst h
    rw [if_pos rfl, if_pos hg, if_pos rfl]
    rfl
  · rw [if_neg h, if_neg (fun e => h e.symm)]
theorem cel_set (l : List Int) (k j : Nat) (n : Int) (hk : k < l.length) : cel (l.set k n) j = if j = k then n else cel l j := by
  unfold cel
  rw [List.getElem?_set]
  by_cases h : k = j
  · subst h
    rw [if_pos rfl, if_pos hk, if_pos rfl]
    rfl
  · rw [if_neg h, if_neg (fun e => h e.symm)]
theorem set_with (R : List (List Int)) (g who : Nat) (n : Int) (hg : g < R.length) (hw : who < (rk R g).length) : setAll R (g : Int) (who : Int) n = withR R g who n := by
  refine ext_rows (by unfold setAll withR; simp) fun i hi => ?_
  have hi' : i < R.length := by unfold setAll at hi; simpa using hi
  have e1 : rk (setAll R (g : Int) (who : Int) n) i = setRow R (g : Int) (who : Int) n i (rk R i).length := setAll_get _ _ _ _ i _ (rk_get hi)
  rw [e1, rk_with R g who n hg]
  by_cases h : i = g
  · subst h
    rw [if_pos rfl]
    refine ext_row (by rw [setRow_len, List.length_set]) fun j hj => ?_
    rw [setRow_len] at hj
    rw [cel_set _ _ _ _ hw]
    unfold setRow
    show ((List.map _ (List.range _))[j]?).getD 0 = _
    rw [List.getElem?_map, List.getElem?_range hj]
    simp only [Option.map_some, Option.getD_some, true_and]
    by_cases hjw : j = who
    · rw [if_pos (by omega), if_pos hjw]
    · rw [if_neg (by omega), if_neg hjw]
  · rw [if_neg h]
    refine ext_row (by rw [setRow_len]) fun j hj => ?_
    rw [setRow_len] at hj
    unfold setRow
    show ((List.map _ (List.range _))[j]?).getD 0 = _
    rw [List.getElem?_map, List.getElem?_range hj]
    simp only [Option.map_some, Option.getD_some]
    rw [if_neg (by omega)]
theorem right_of {r : Re} {R : List (List Int)} (h1 : mayBe r = true) (h2 : R.length = r.guilds.length) (h3 : ∀ k, k < R.length → (rk R k).length = r.accounts.length ∧ (rk R k).any noR = false ∧ cel (rk R k) (gu r k).founder.toNat = 2) : rightH r R = true := by
  unfold rightH
  rw [if_pos h1, if_pos h2, List.all_eq_true]
  intro k hk
  obtain ⟨a, b, c⟩ := h3 k (List.mem_range.1 hk)
  unfold rowOk
  rw [decide_eq_true a, b, decide_eq_true c]
  rfl
theorem any_set {l : List Int} {k : Nat} {n : Int} (h : l.any noR = false) (hn : noR n = false) : (l.set k n).any noR = false := by
  rw [List.any_eq_false] at h ⊢
  intro x hx
  rcases List.mem_or_eq_of_mem_set hx with h1 | rfl
  · exact h x h1
  · simp [hn]
/-- What a rule must be. -/
def Fine (r : Re) (who : Int) (rule : Nat → Int → Int × Int) : Prop := ∀ g n, (rule g n).2 = 0 → (0 ≤ (rule g n).1 ∧ (rule g n).1 ≤ 2) ∧ (rule g n).1 ≠ n ∧ (n = 2 → ¬ who = (gu r g).founder)
theorem fine_I (r : Re) (who : Int) : Fine r who rI := by
  intro g n h
  unfold rI ruleI at *
  by_cases h0 : n = 0
  · simp only [if_pos h0] at *
    omega
  · simp only [if_neg h0] at h
    omega
theorem fine_R (r : Re) (who : Int) : Fine r who rR := by
  intro g n h
  unfold rR ruleR at *
  by_cases h0 : n = 0
  · simp only [if_pos h0] at h
    omega
  · by_cases h2 : n = 2
    · simp only [if_neg h0, if_pos h2] at h
      omega
    · simp only [if_neg h0, if_neg h2] at *
      omega
theorem fine_E (r : Re) (who : Int) : Fine r who (rE r who) := by
  intro g n h
  unfold rE ruleE at *
  by_cases h0 : n = 0
  · simp only [if_pos h0] at h
    omega
  · by_cases h2 : who = (gu r g).founder
    · simp only [if_neg h0, if_pos h2] at h
      omega
    · simp only [if_neg h0, if_neg h2] at *
      exact ⟨by omega, by omega, fun _ => h2⟩
theorem act_ok {r : Re} {R : List (List Int)} {place by' who : Int} {rule : Nat → Int → Int × Int} (hr : rightH r R = true) (hf : Fine r who rule) (he : (actR r R place by' who rule).2 = 0) :
    ∃ (kg ko : Nat) (n : Int), guildOf r place = (kg : Int) ∧ who = (ko : Int) ∧ kg < R.length ∧ ko < (rk R kg).length ∧ (actR r R place by' who rule).1 = withR R kg ko n ∧ n ≠ cel (rk R kg) ko ∧ rightH r (withR R kg ko n) = true := by
  obtain ⟨h1, h2, h3⟩ := right_parts hr
  unfold actR at he ⊢
  rw [if_pos hr] at he ⊢
  split at he
  · rename_i k1
    rw [if_pos k1]
    split at he
    · rename_i k2
      rw [if_pos k2]
      split at he
      · rename_i k3
        rw [if_pos k3]
        split at he
        · rename_i k4
          rw [if_pos k4]
          split at he
          · rename_i k5
            rw [if_pos k5]
            split at he
            · rename_i k6
              rw [if_pos k6]
              obtain ⟨p0, p1⟩ := inn_iff k4
              obtain ⟨o0, o1⟩ := inn_iff k3
              obtain ⟨kg, hkg⟩ := Int.eq_ofNat_of_zero_le p0
              obtain ⟨ko, hko⟩ := Int.eq_ofNat_of_zero_le o0
              rw [hkg] at k6 ⊢ p1
              rw [hko] at k6 ⊢ o1 hf
              simp only [Int.toNat_natCast] at k6 ⊢
              have hkR : kg < R.length := by omega
              obtain ⟨q1, q2, q3⟩ := h3 kg hkR
              have hkl : ko < (rk R kg).length := by omega
              obtain ⟨f1, f2, f3⟩ := hf kg (cel (rk R kg) ko) k6
              refine ⟨kg, ko, _, rfl, rfl, hkR, hkl, rfl, f2, right_of h1 (by unfold withR; rw [List.length_set]; exact h2) fun k hk => ?_⟩
              have hk' : k < R.length := by unfold withR at hk; rwa [List.length_set] at hk
              rw [rk_with R kg ko _ hkR]
              by_cases hkk : k = kg
              · subst hkk
                rw [if_pos rfl]
                have hnr : noR (rule k (cel (rk R k) ko)).1 = false := by
                  unfold noR okRank
                  simp only [Bool.not_eq_false', Bool.and_eq_true, decide_eq_true_eq]
                  exact f1
                refine ⟨by rw [List.length_set]; exact q1, any_set q2 hnr, ?_⟩
                rw [cel_set _ _ _ _ hkl]
                obtain ⟨g0, g1⟩ := founder_in h1 (k := k) (by omega)
                by_cases hf2 : (gu r k).founder.toNat = ko
                · rw [hf2] at q3
                  exact absurd (show (ko : Int) = (gu r k).founder by omega) (f3 q3)
                · rw [if_neg hf2]
                  exact q3
              · rw [if_neg hkk]
                exact h3 k hk'
            · exact absurd he (by assumption)
          · cases he
        · cases he
      · cases he
    · cases he
  · cases he
theorem act_no {r : Re} {R : List (List Int)} {place by' who : Int} {rule : Nat → Int → Int × Int} (he : ¬ (actR r R place by' who rule).2 = 0) : (actR r R place by' who rule).1 = [] := by
  unfold actR at he ⊢
  repeat' (first | rfl | (split at he <;> rename_i hk <;> first | rw [if_pos hk] | rw [if_neg hk]))
  all_goals first | rfl | exact absurd rfl he
theorem rank_is {r : Re} {R : List (List Int)} {g who : Nat} (hr : rightH r R = true) (hg : g < R.length) (hw : who < (rk R g).length) : rankOf r R (g : Int) (who : Int) = cel (rk R g) who := by
  obtain ⟨h1, h2, h3⟩ := right_parts hr
  have := (h3 g hg).1
  unfold rankOf
  rw [if_pos hr, if_pos (by unfold inn; simp; omega), if_pos (by unfold inn; simp; omega)]
  rfl
theorem rank_with {r : Re} {R : List (List Int)} {g who : Nat} {n : Int} (hr : rightH r (withR R g who n) = true) (hg : g < R.length) (hw : who < (rk R g).length) : rankOf r (withR R g who n) (g : Int) (who : Int) = n := by
  have hl : rk (withR R g who n) g = (rk R g).set who n := (rk_with R g who n hg g).trans (if_pos rfl)
  rw [rank_is hr (by unfold withR; rw [List.length_set]; exact hg) (by rw [hl, List.length_set]; exact hw), hl, cel_set _ _ _ _ hw, if_pos rfl]
theorem rank_founder {r : Re} {R : List (List Int)} {g : Nat} (hr : rightH r R = true) (hg : g < R.length) : rankOf r R (g : Int) (gu r g).founder = 2 := by
  obtain ⟨h1, h2, h3⟩ := right_parts hr
  obtain ⟨q1, q2, q3⟩ := h3 g hg
  obtain ⟨g0, g1⟩ := founder_in h1 (k := g) (by omega)
  obtain ⟨kf, hkf⟩ := Int.eq_ofNat_of_zero_le g0
  rw [hkf] at q3 ⊢ g1
  rw [rank_is hr hg (by omega)]
  exact q3
theorem right_new {r : Re} (h : mayBe r = true) : rightH r (newR r) = true := by
  unfold newR
  rw [if_pos h]
  refine right_of h (by simp) fun k hk => ?_
  have hk' : k < r.guilds.length := by simpa using hk
  have e : rk ((List.range r.guilds.length).map (HN.newRow r)) k = HN.newRow r k := by
    unfold rk
    rw [newRows_get r hk']
    rfl
  rw [e]
  obtain ⟨g0, g1⟩ := founder_in h hk'
  unfold HN.newRow
  refine ⟨by simp, any_set ?_ (by decide), ?_⟩
  · rw [List.any_eq_false]
    intro x hx
    rw [(List.mem_replicate.1 hx).2]
    decide
  · rw [cel_set _ _ _ _ (by simp; omega), if_pos rfl]
end Go.Proofs.YtmegdgeiikhflaaGreat.HP
