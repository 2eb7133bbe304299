/-
  The label of a text.
  Conditions: the library's two errors lie in their variables.
-/
import Derived.Test.YtekodmnhheejkaaDoorForm
namespace Go.Proofs.YtekodmnhheejkaaDoor.Parse
open Go Go.RowKit Go.Proofs.YtekodmnhheejkaaDoor Go.Proofs.YtekodmnhheejkaaDoor.Facts Go.Proofs.YtekodmnhheejkaaDoor.Plain Go.Proofs.YtekodmnhheejkaaDoor.Bytes Go.Proofs.YtekodmnhheejkaaDoor.Each

def okIs (e : Lib.NumEnd Int) (v : Int) : Bool := match e with | .ok u => u == v | _ => false
theorem okIs_eq {e : Lib.NumEnd Int} {v : Int} (h : okIs e v = true) : e = .ok v := by
  cases e <;> simp [okIs] at h
  rw [h]
theorem digits_atoi_fin : ∀ n : Fin 100, okIs (Lib.atoiAll (Lib.decDigits n.1)) (n.1 : Int) = true := by decide +kernel
theorem digits_atoi (n : Nat) (h : n < 100) : Lib.atoiAll (Lib.decDigits n) = .ok (n : Int) := okIs_eq (digits_atoi_fin ⟨n, h⟩)

/-- What number finds: the digits of a number below most, or not. -/
def Num (l : List UInt8) (most : Nat) (v : Int) (ok : Bool) : Prop :=
  (ok = true → ∃ n : Nat, n < most ∧ v = n ∧ Lib.decDigits n = l) ∧ (ok = false → ∀ n, n < most → Lib.decDigits n ≠ l)

def Found (l : List UInt8) (most : Nat) (e : Ending) : Prop := ∃ v ok, e = .returned (.tuple #[.int .i64 v, .bool ok]) ∧ Num l most v ok

theorem number_any (s : ByteArray) (hs : s.size ≤ 140737488355328) (most : Nat) (hm : most ≤ 100) (w : World) (hE : Env w) :
    Calls Tryd.prog 38 #[.string s, .int .i64 most] w fun e W' => Found s.data.toList most e ∧ Grew w W' := by
  have hmost : ∀ n, n < most → n < 100 := fun n h => by omega
  cases ha : Lib.atoiAll s.data.toList with
  | range =>
    obtain ⟨te, pe, hv⟩ := hE.rng
    have hno : ∀ n, n < most → Lib.decDigits n ≠ s.data.toList := fun n h e => by
      rw [← e, digits_atoi n (hmost n h)] at ha
      cases ha
    go_enter Tryd.func38, Tryd.ntmps38
    go_wp2_with fail
    refine (Tryd.strconv_Atoi_range s (by omega) ha _ w hv (.inr ⟨te, pe, rfl⟩)).mono ?_
    rintro e W1 ⟨N, rfl, hN, hrow, hg⟩
    have hG : Grew w W1 := hg
    clear hg hrow
    go_wp2
    go_returns
    exact ⟨⟨_, _, rfl, fun h => (by cases h), fun _ => hno⟩, hG⟩
  | ok v =>
    go_enter Tryd.func38, Tryd.ntmps38
    go_wp2_with fail
    refine (Tryd.strconv_Atoi_ok s (by omega) v ha w).mono ?_
    rintro e W1 ⟨rfl, hw⟩
    have hG : Grew w W1 := by
      rcases hw with rfl | ⟨t, rfl⟩
      · exact Grew.refl _
      · exact Lib.bytesWorld_below _ _ _
    clear hw
    by_cases h0 : v < 0
    · have hno : ∀ n, n < most → Lib.decDigits n ≠ s.data.toList := fun n h e => by
        rw [← e, digits_atoi n (hmost n h)] at ha
        injection ha with ha
        omega
      go_wp2
      go_returns
      exact ⟨⟨_, _, rfl, fun h => (by cases h), fun _ => hno⟩, hG⟩
    · obtain ⟨n, rfl⟩ := Int.eq_ofNat_of_zero_le (show 0 ≤ v by omega)
      by_cases h1 : n < most
      · have hb1 : decide (n < most) = true := by simpa using h1
        go_wp2_with fail
        refine (Tryd.strconv_Itoa_small n (hmost n h1) _).mono ?_
        rintro e W2 ⟨rfl, rfl⟩
        go_wp2
        go_returns
        refine ⟨⟨_, _, rfl, fun h => ⟨n, h1, rfl, ?_⟩, fun h k hk e => ?_⟩, hG⟩
        · have h2 : (Lib.decDigits n == s.toList) = true := h
          rw [ByteArray.toList_eq] at h2
          simpa using h2
        · have h2 : (Lib.decDigits n == s.toList) = false := h
          rw [ByteArray.toList_eq, ← e] at h2
          rw [← e, digits_atoi k (hmost k hk)] at ha
          injection ha with ha
          have hkn : k = n := by omega
          rw [hkn] at h2
          simp at h2
      · have hno : ∀ k, k < most → Lib.decDigits k ≠ s.data.toList := fun k h e => by
          rw [← e, digits_atoi k (hmost k h)] at ha
          injection ha with ha
          omega
        have hb1 : decide (n < most) = false := by simpa using h1
        go_wp2
        go_returns
        exact ⟨⟨_, _, rfl, fun h => (by cases h), fun _ => hno⟩, hG⟩
  | _ =>
    obtain ⟨te, pe, hv⟩ := hE.syn
    have hno : ∀ n, n < most → Lib.decDigits n ≠ s.data.toList := fun n h e => by
      rw [← e, digits_atoi n (hmost n h)] at ha
      cases ha
    go_enter Tryd.func38, Tryd.ntmps38
    go_wp2_with fail
    refine (Tryd.strconv_Atoi_syntax s (by omega) ha _ w hv (.inr ⟨te, pe, rfl⟩)).mono ?_
    rintro e W1 ⟨N, rfl, hN, hrow, hg⟩
    have hG : Grew w W1 := hg
    clear hg hrow
    go_wp2
    go_returns
    exact ⟨⟨_, _, rfl, fun h => (by cases h), fun _ => hno⟩, hG⟩

/-- What stands ahead of the first comma, what behind it, and whether there is one. -/
def cut1 (s : ByteArray) : ByteArray × ByteArray × Bool :=
  if 0 ≤ Lib.indexByte s.data.toList 44 then (s.extract 0 (Lib.indexByte s.data.toList 44).toNat, s.extract ((Lib.indexByte s.data.toList 44).toNat + 1) s.size, true) else (s, ⟨#[]⟩, false)

theorem index_lt : ∀ l : List UInt8, Lib.indexByte l 44 < l.length
  | [] => by simp [Lib.indexByte]
  | b :: l => by
    have := index_lt l
    unfold Lib.indexByte
    split
    · simp
    · split <;> simp <;> omega

theorem cut2_any (s : ByteArray) (hs : s.size ≤ 140737488355328) (w : World) : Calls Tryd.prog 46 #[.string s, .string ⟨#[44]⟩] w fun e W' => e = .returned (.tuple #[.string (cut1 s).1, .string (cut1 s).2.1, .bool (cut1 s).2.2]) ∧ Grew w W' := by
  have hlt := index_lt s.data.toList
  rw [Array.length_toList] at hlt
  have hz : s.data.size = s.size := rfl
  rw [hz] at hlt
  clear hz
  unfold cut1
  by_cases h0 : 0 ≤ Lib.indexByte s.data.toList 44
  · rw [if_pos h0]
    obtain ⟨j, hj⟩ := Int.eq_ofNat_of_zero_le h0
    rw [hj] at hlt ⊢
    have hj1 : j ≤ s.size := by omega
    have hj2 : (0 : Int) ≤ (j : Int) + 1 := by omega
    have hj3 : (j : Int) + 1 ≤ (s.size : Int) := by omega
    have hw : IntKind.i64.wrap ((j : Int) + 1) = (j : Int) + 1 := IntWalk.i64_in _ (by omega)
    have hb0 : decide (0 ≤ Lib.indexByte s.data.toList 44) = true := by simpa using h0
    go_enter Tryd.func46, Tryd.ntmps46
    go_wp2_with fail
    refine (Tryd.stringslite_Index_one s 44 w).mono ?_
    rintro e w' ⟨rfl, rfl⟩
    rw [hj]
    clear hj h0 hb0
    go_wp2
    refine Facts.wp_region_text (by kernel_rfl) (by kernel_rfl) ?_
    repeat
      apply Facts.Lex.exact [] _ (by kernel_rfl)
      · intro u W hC _
        unfold Facts.one
        go_simp
        first | exact ⟨Grew.refl _, rfl⟩ | rfl
      simp only [Act.put, List.setIfInBounds_toArray, List.set_cons_zero, List.set_cons_succ, Nat.zero_add, Nat.reduceAdd]
    refine Facts.Lex.done fun u W2 hC hL => ?_
    have G2 : Grew w' W2 := hC
    clear hC hL
    go_wp2
    go_returns
    exact ⟨by simp, G2⟩
  · rw [if_neg h0]
    have hb0 : decide (0 ≤ Lib.indexByte s.data.toList 44) = false := by simpa using h0
    go_enter Tryd.func46, Tryd.ntmps46
    go_wp2_with fail
    refine (Tryd.stringslite_Index_one s 44 w).mono ?_
    rintro e w' ⟨rfl, rfl⟩
    go_wp2
    go_returns
    exact ⟨rfl, Grew.refl _⟩

theorem cut_any (s : ByteArray) (hs : s.size ≤ 140737488355328) (w : World) : Calls Tryd.prog 37 #[.string s, .string ⟨#[44]⟩] w fun e W' => e = .returned (.tuple #[.string (cut1 s).1, .string (cut1 s).2.1, .bool (cut1 s).2.2]) ∧ Grew w W' := by
  go_enter Tryd.func37, Tryd.ntmps37
  go_wp2_with fail
  refine (cut2_any s hs w).mono ?_
  rintro e w' ⟨rfl, hg⟩
  go_wp2
  go_returns
  exact ⟨rfl, hg⟩
end Go.Proofs.YtekodmnhheejkaaDoor.Parse
