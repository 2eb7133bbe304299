/-
  Which texts are names: the document's own answer, byte by byte.
  Conditions: a text's size.
-/
import Derived.Test.YtmegdgeiikhflaaGreatChars
namespace Go.Proofs.YtmegdgeiikhflaaGreat.RefName
set_option maxRecDepth 100000
open Go Go.RowKit Go.Proofs.YtmegdgeiikhflaaGreat Go.Proofs.YtmegdgeiikhflaaGreat.Facts Go.Proofs.YtmegdgeiikhflaaGreat.Chars

theorem right_iff (l : List UInt8) : right l = true ↔ 1 ≤ l.length ∧ l.length ≤ 12 ∧ ∀ j (hj : j < l.length), (if j = 0 then letter l[j] else word l[j]) = true := by
  unfold right
  simp only [Bool.and_eq_true, decide_eq_true_iff, List.all_eq_true]
  constructor
  · rintro ⟨⟨⟨h1, h2⟩, h3⟩, h4⟩
    refine ⟨h1, h2, fun j hj => ?_⟩
    split
    · rename_i h0
      subst h0
      rw [List.getD_eq_getElem?_getD, List.getElem?_eq_getElem hj] at h3
      exact h3
    · exact h4 _ (List.getElem_mem hj)
  · rintro ⟨h1, h2, h3⟩
    have h0 := h3 0 (by omega)
    rw [if_pos rfl] at h0
    refine ⟨⟨⟨h1, h2⟩, ?_⟩, fun x hx => ?_⟩
    · rw [List.getD_eq_getElem?_getD, List.getElem?_eq_getElem (by omega)]
      exact h0
    · obtain ⟨j, hj, rfl⟩ := List.getElem_of_mem hx
      by_cases hj0 : j = 0
      · subst hj0
        unfold word
        rw [h0]
        rfl
      · have := h3 j hj
        rwa [if_neg hj0] at this
theorem right_no (l : List UInt8) (j : Nat) (hj : j < l.length) (h : (if j = 0 then letter l[j] else word l[j]) = false) : right l = false := by
  cases hr : right l with
  | false => rfl
  | true =>
    have := ((right_iff l).1 hr).2.2 j hj
    rw [h] at this
    cases this

set_option maxRecDepth 100000 in
set_option maxHeartbeats 2000000 in
theorem rright_any (s : ByteArray) (hs : s.size ≤ 9223372036854775807) (w : World) : Calls Tryz.prog 129 #[.string s] w fun e w' => e = .returned (.bool (right s.data.toList)) ∧ w' = w := by
  have hsl := size_len s
  by_cases h0 : s.size = 0
  · have hr : right s.data.toList = false := by
      unfold right
      rw [decide_eq_false (by omega)]
      rfl
    rw [hr]
    have h0' : (s.size : Int) = 0 := by omega
    go_enter Tryz.func129, Tryz.ntmps129
    go_wp2
    go_returns
    exact ⟨rfl, rfl⟩
  by_cases h12 : 12 < s.size
  · have hr : right s.data.toList = false := by
      unfold right
      rw [decide_eq_false (show ¬ s.data.toList.length ≤ 12 by omega), Bool.and_false]
      rfl
    rw [hr]
    have h0' : ¬ (s.size : Int) = 0 := by omega
    have h1' : (12 : Int) < (s.size : Int) := by omega
    go_enter Tryz.func129, Tryz.ntmps129
    go_wp2
    go_returns
    exact ⟨rfl, rfl⟩
  have h0' : ¬ (s.size : Int) = 0 := by omega
  have h1' : ¬ (12 : Int) < (s.size : Int) := by omega
  go_enter Tryz.func129, Tryz.ntmps129
  go_wp2
  go_loopg [3] s.size (fun g s3 wx => ∃ k : Nat, k + g = s.size ∧ s3 = .int .i64 k ∧ Hid (∀ j (hj : j < k) (hk : j < s.data.toList.length), (if j = 0 then letter s.data.toList[j] else word s.data.toList[j]) = true) ∧ wx = w)
  case atStart => exact ⟨0, by omega, rfl, Lib.hid (fun j hj => absurd hj (by omega)), rfl⟩
  case round =>
    obtain ⟨k, hkg, rfl, HI, rfl⟩ := hrel
    cases gk with
    | zero =>
      have hkz : ¬ ((k : Int) < (s.size : Int)) := by omega
      go_wp2
      go_returns
      refine ⟨?_, rfl⟩
      rw [(right_iff s.data.toList).2 ⟨by omega, by omega, fun j hj => HI.out j (by omega) hj⟩]
      rfl
    | succ g =>
      have hkz : (k : Int) < (s.size : Int) := by omega
      have hb := byte_at s k (by omega)
      generalize hB : s[k]'(by omega) = b at *
      have HB := Lib.hid hb
      clear hb
      have hlt := b.toNat_lt
      have HF := Lib.hid (fun (h : (if k = 0 then letter b else word b) = false) => right_no s.data.toList k (by omega) (by rw [← HB.out]; exact h))
      have HN : Hid ((if k = 0 then letter b else word b) = true → ∀ j (hj : j < k + 1) (hk : j < s.data.toList.length), (if j = 0 then letter s.data.toList[j] else word s.data.toList[j]) = true) := Lib.hid fun h j hj hk => by
        by_cases hjk : j = k
        · subst hjk
          rw [← HB.out]
          exact h
        · exact HI.out j (by omega) hk
      by_cases ha : 97 ≤ b.toNat ∧ b.toNat ≤ 122
      · have e1 : (97 : Int) ≤ (b.toNat : Int) := by omega
        have e2 : (b.toNat : Int) ≤ 122 := by omega
        have hl : letter b = true := by unfold letter; simp; omega
        go_wp2
        go_roundg g
        case measure => omega
        case rel => exact ⟨k + 1, by omega, by first | rfl | simp, Lib.hid (HN.out (by split; exact hl; unfold word; rw [hl]; rfl)), rfl⟩
      · have hl : letter b = false := by
          unfold letter
          rw [Bool.and_eq_false_iff, decide_eq_false_iff_not, decide_eq_false_iff_not]
          omega
        by_cases hk0 : k = 0
        · have hres := HF.out (by rw [if_pos hk0]; exact hl)
          have HRES := Lib.hid hres
          clear hres
          subst hk0
          by_cases e1 : (97 : Int) ≤ (b.toNat : Int)
          · have e2 : ¬ (b.toNat : Int) ≤ 122 := by omega
            go_wp2
            go_returns
            refine ⟨?_, rfl⟩
            rw [HRES.out]
            rfl
          · go_wp2
            go_returns
            refine ⟨?_, rfl⟩
            rw [HRES.out]
            rfl
        · have hk0' : ¬ (k : Int) = 0 := by omega
          by_cases hd : 48 ≤ b.toNat ∧ b.toNat ≤ 57
          · have hw : word b = true := by unfold word digit; rw [hl]; simp; omega
            have d1 : ¬ (b.toNat : Int) < 48 := by omega
            have d2 : ¬ (57 : Int) < (b.toNat : Int) := by omega
            have e1 : ¬ (97 : Int) ≤ (b.toNat : Int) := by omega
            go_wp2
            go_roundg g
            case measure => omega
            case rel => exact ⟨k + 1, by omega, by first | rfl | simp, Lib.hid (HN.out (by rw [if_neg hk0]; exact hw)), rfl⟩
          · have hw : word b = false := by
              unfold word digit
              rw [hl, Bool.false_or, Bool.and_eq_false_iff, decide_eq_false_iff_not, decide_eq_false_iff_not]
              omega
            have HRES := Lib.hid (HF.out (by rw [if_neg hk0]; exact hw))
            by_cases e1 : (97 : Int) ≤ (b.toNat : Int)
            · have e2 : ¬ (b.toNat : Int) ≤ 122 := by omega
              have d1 : ¬ (b.toNat : Int) < 48 := by omega
              have d2 : (57 : Int) < (b.toNat : Int) := by omega
              go_wp2
              go_returns
              refine ⟨?_, rfl⟩
              rw [HRES.out]
              rfl
            · by_cases d1 : (b.toNat : Int) < 48
              · go_wp2
                go_returns
                refine ⟨?_, rfl⟩
                rw [HRES.out]
                rfl
              · have d2 : (57 : Int) < (b.toNat : Int) := by omega
                go_wp2
                go_returns
                refine ⟨?_, rfl⟩
                rw [HRES.out]
                rfl

end Go.Proofs.YtmegdgeiikhflaaGreat.RefName
