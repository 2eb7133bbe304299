/-
  All of a row of amounts together, by the program and by the document; a row of numbers that came in.
  Conditions: those that each lemma names.
-/
import Derived.Test.YtcgloenpliaioaaCA
namespace Go.Proofs.Ytcgloenpliaioaa.CS
set_option maxRecDepth 100000
open Go Go.ChangeShapes Go.WideShapes Go.ChangeAt Go.RowKit Go.Proofs.Ytcgloenpliaioaa Go.Proofs.Ytcgloenpliaioaa.Facts Go.Proofs.Ytcgloenpliaioaa.Bytes Go.Proofs.Ytcgloenpliaioaa.CA

/-- The slice v reads as the numbers l. -/
def Us (w : World) (A : Option Addr) (c : Nat) (l : List Nat) : Prop :=
  l.length ≤ 9223372036854775807 ∧ (∀ x ∈ l, x < 18446744073709551616) ∧ ∀ (j : Nat) (x : Nat), l[j]? = some x → ∃ ad, A = some ad ∧ l.length ≤ c ∧ w.cell? (ad.add j) = some (.int .u64 (x : Int))
theorem Us.grew {w w' : World} {A : Option Addr} {c : Nat} {l : List Nat} (h : Us w A c l) (hg : Grew w w') : Us w' A c l := by
  obtain ⟨h1, h2, h3⟩ := h
  refine ⟨h1, h2, fun j x hx => ?_⟩
  obtain ⟨ad, e, hc, k⟩ := h3 j x hx
  exact ⟨ad, e, hc, (hg.cell (World.block_lt_of_cell? _ _ k)).trans k⟩
def sumN : List Nat → Nat → Nat × Int
  | [], s => (s, 0)
  | n :: r, s => if (plusN s n).2 = 0 then sumN r (plusN s n).1 else (0, (plusN s n).2)
theorem plus_le (a b : Nat) (h : (plusN a b).2 = 0) : (plusN a b).1 ≤ top := by
  unfold plusN at h ⊢
  split
  · rename_i h1; exact h1.2
  · rename_i h1; rw [if_neg h1] at h; cases h
theorem sum_at (l : List Nat) (k s x : Nat) (h : l[k]? = some x) : sumN (l.drop k) s = if (plusN s x).2 = 0 then sumN (l.drop (k + 1)) (plusN s x).1 else (0, (plusN s x).2) := by
  have hk := (List.getElem?_eq_some_iff.1 h).1
  have he : l[k] = x := (List.getElem?_eq_some_iff.1 h).2
  rw [List.drop_eq_getElem_cons hk, he]
  rfl
set_option maxHeartbeats 1000000 in
theorem sum_any (A : Option Addr) (c : Nat) (l : List Nat) (w : World) (h : Us w A c l) :
    Calls Try.prog 12 #[.slice A l.length c] w fun e w' => e = .returned (two (sumN l 0)) ∧ w = w' := by
  have HU := Lib.hid h
  have hlen := h.1
  have HS0 : Hid (sumN (l.drop 0) 0 = sumN l 0) := Lib.hid (by rw [List.drop_zero])
  have HT0 : Hid (0 ≤ top) := Lib.hid (Nat.zero_le _)
  clear h
  obtain ⟨R, hR⟩ : ∃ R, sumN l 0 = R := ⟨_, rfl⟩
  rw [hR] at HS0 ⊢
  clear hR
  go_enter Try.func12, Try.ntmps12
  go_wp2
  go_loop [4, 11] (fun sa si => ∃ k s : Nat, k ≤ l.length ∧ sa = .int .u64 (s : Int) ∧ si = .int .i64 (k : Int) ∧ Hid (sumN (l.drop k) s = R) ∧ Hid (s ≤ top)) (fun sa si => l.length - (intOf si).toNat)
  case atStart => exact ⟨0, 0, Nat.zero_le _, rfl, rfl, HS0, HT0⟩
  case round =>
    obtain ⟨k, s, hk, rfl, rfl, HS, HT⟩ := hrel
    clear HS0 HT0
    by_cases hlt : k < l.length
    · obtain ⟨x, hx⟩ : ∃ x, l[k]? = some x := ⟨_, List.getElem?_eq_getElem hlt⟩
      obtain ⟨ad, hA, hcap, hc⟩ := HU.out.2.2 k x hx
      subst hA
      have hxl := HU.out.2.1 x (List.mem_of_getElem? hx)
      have hst := HT.out
      have HP := Lib.hid (plus_any s x (by unfold top at hst; omega) hxl)
      have HN := Lib.hid (sum_at l k s x hx)
      have HPL := Lib.hid (plus_le s x)
      clear hx hxl hst
      rcases hp : plusN s x with ⟨t, q⟩
      rw [hp] at HP HN HPL
      clear hp
      unfold two at HP
      have hkn : (k : Int) < (l.length : Int) := by omega
      by_cases h0 : q = 0
      · subst h0
        have HS2 : Hid (sumN (l.drop (k + 1)) t = R) := Lib.hid (by have := HN.out; rw [if_pos rfl, HS.out] at this; exact this.symm)
        have HT2 : Hid (t ≤ top) := Lib.hid (HPL.out rfl)
        clear HN HPL HS HT
        go_wp2_with fail
        refine (HP.out _).mono ?_
        rintro e w' ⟨rfl, rfl⟩
        go_wp2
        go_round
        case rel => exact ⟨k + 1, t, by omega, rfl, by first | rfl | go_num, HS2, HT2⟩
        case measure => simp [intOf]; omega
      · have d0 : (q == 0) = false := by simpa using h0
        have d1 : (q != 0) = true := by simpa using h0
        have HR : Hid (R = (0, q)) := Lib.hid (by have := HN.out; rw [if_neg (show ¬ (t, q).2 = 0 from h0), HS.out] at this; exact this)
        clear HN HPL HS HT h0
        go_wp2_with fail
        refine (HP.out _).mono ?_
        rintro e w' ⟨rfl, rfl⟩
        go_wp2
        rw [HR.out]
        unfold two
        go_ret2
        exact ⟨rfl, rfl⟩
    · have hkn : ¬ (k : Int) < (l.length : Int) := by omega
      have HR : Hid (R = (s, 0)) := Lib.hid (by rw [← HS.out, List.drop_of_length_le (by omega)]; rfl)
      clear hlt HS HT
      go_wp2
      rw [HR.out]
      unfold two
      go_ret2
      exact ⟨rfl, rfl⟩
set_option maxHeartbeats 1000000 in
theorem rsum_any (A : Option Addr) (c : Nat) (l : List Nat) (w : World) (h : Us w A c l) :
    Calls Try.prog 13 #[.slice A l.length c] w fun e w' => e = .returned (two (sumN l 0)) ∧ w = w' := by
  have HU := Lib.hid h
  have hlen := h.1
  have HS0 : Hid (sumN (l.drop 0) 0 = sumN l 0) := Lib.hid (by rw [List.drop_zero])
  have HT0 : Hid (0 ≤ top) := Lib.hid (Nat.zero_le _)
  clear h
  obtain ⟨R, hR⟩ : ∃ R, sumN l 0 = R := ⟨_, rfl⟩
  rw [hR] at HS0 ⊢
  clear hR
  go_enter Try.func13, Try.ntmps13
  go_wp2
  go_loop [4, 5] (fun sa si => ∃ k s : Nat, k ≤ l.length ∧ sa = .int .u64 (s : Int) ∧ si = .int .i64 (k : Int) ∧ Hid (sumN (l.drop k) s = R) ∧ Hid (s ≤ top)) (fun sa si => l.length - (intOf si).toNat)
  case atStart => exact ⟨0, 0, Nat.zero_le _, rfl, rfl, HS0, HT0⟩
  case round =>
    obtain ⟨k, s, hk, rfl, rfl, HS, HT⟩ := hrel
    clear HS0 HT0
    by_cases hlt : k < l.length
    · obtain ⟨x, hx⟩ : ∃ x, l[k]? = some x := ⟨_, List.getElem?_eq_getElem hlt⟩
      obtain ⟨ad, hA, hcap, hc⟩ := HU.out.2.2 k x hx
      subst hA
      have hxl := HU.out.2.1 x (List.mem_of_getElem? hx)
      have hst := HT.out
      have HP := Lib.hid (rplus_any s x (by unfold top at hst; omega) hxl)
      have HN := Lib.hid (sum_at l k s x hx)
      have HPL := Lib.hid (plus_le s x)
      clear hx hxl hst
      rcases hp : plusN s x with ⟨t, q⟩
      rw [hp] at HP HN HPL
      clear hp
      unfold two at HP
      have hkn : (k : Int) < (l.length : Int) := by omega
      by_cases h0 : q = 0
      · subst h0
        have HS2 : Hid (sumN (l.drop (k + 1)) t = R) := Lib.hid (by have := HN.out; rw [if_pos rfl, HS.out] at this; exact this.symm)
        have HT2 : Hid (t ≤ top) := Lib.hid (HPL.out rfl)
        clear HN HPL HS HT
        go_wp2_with fail
        refine (HP.out _).mono ?_
        rintro e w' ⟨rfl, rfl⟩
        go_wp2
        go_round
        case rel => exact ⟨k + 1, t, by omega, rfl, by first | rfl | go_num, HS2, HT2⟩
        case measure => simp [intOf]; omega
      · have d0 : (q == 0) = false := by simpa using h0
        have d1 : (q != 0) = true := by simpa using h0
        have HR : Hid (R = (0, q)) := Lib.hid (by have := HN.out; rw [if_neg (show ¬ (t, q).2 = 0 from h0), HS.out] at this; exact this)
        clear HN HPL HS HT h0
        go_wp2_with fail
        refine (HP.out _).mono ?_
        rintro e w' ⟨rfl, rfl⟩
        go_wp2
        rw [HR.out]
        unfold two
        go_ret2
        exact ⟨rfl, rfl⟩
    · have hkn : ¬ (k : Int) < (l.length : Int) := by omega
      have HR : Hid (R = (s, 0)) := Lib.hid (by rw [← HS.out, List.drop_of_length_le (by omega)]; rfl)
      clear hlt HS HT
      go_wp2
      rw [HR.out]
      unfold two
      go_ret2
      exact ⟨rfl, rfl⟩
end Go.Proofs.Ytcgloenpliaioaa.CS
