/-
  What comes of fixed calls on letters.
  Conditions: those that each lemma names.
-/
import Derived.Test.YtcbaaeihppchiaaPE
namespace Go.Proofs.Ytcbaaeihppchiaa.PF
set_option maxRecDepth 100000
open Go Go.RowKit Go.Lib Go.Proofs.Ytcbaaeihppchiaa Go.Proofs.Ytcbaaeihppchiaa.Facts Go.Proofs.Ytcbaaeihppchiaa.Ints Go.Proofs.Ytcbaaeihppchiaa.PA Go.Proofs.Ytcbaaeihppchiaa.PB Go.Proofs.Ytcbaaeihppchiaa.Chars Go.Proofs.Ytcbaaeihppchiaa.PD Go.Proofs.Ytcbaaeihppchiaa.PE Go.Proofs.Ytcbaaeihppchiaa.Bytes


theorem ml_made0 (n : Nat) : madeCells #[.bool false, .int .i64 0, .int .i64 0, .int .i64 0, .string ⟨#[]⟩] (n * 5) = ((List.replicate n zml).flatMap mcs).toArray := by
  apply Array.ext'
  apply List.ext_getElem?
  intro j
  by_cases hj : j < n * 5
  · have hn : j / 5 < n := by omega
    have h := flat_get mcs 5 (fun _ => rfl) (List.replicate n zml) (j / 5) (j % 5) zml (by rw [List.getElem?_replicate, if_pos hn]) (Nat.mod_lt _ (by decide))
    rw [Nat.div_add_mod' j 5] at h
    rw [show (((List.replicate n zml).flatMap mcs).toArray.toList)[j]? = _ from h]
    have h6 : j % 5 < 5 := Nat.mod_lt _ (by decide)
    simp only [madeCells, Array.toList_map, Array.toList_range, List.getElem?_map, List.getElem?_range hj, Option.map_some]
    generalize j % 5 = i at *
    match i, h6 with
    | 0, _ => rfl
    | 1, _ => rfl
    | 2, _ => rfl
    | 3, _ => rfl
    | 4, _ => rfl
  · rw [List.getElem?_eq_none (by simp [madeCells]; omega), List.getElem?_eq_none (by simp only [mcs_len, List.length_replicate]; omega)]
theorem mk_ml (n : Nat) (hn : n ≤ 1000) (u : World) : (Instr.makeSlice 24 (.int .i64 (n : Int)) (.int .i64 (n : Int))).run Try.prog u =
    .ok (.slice (some ⟨u.heap.size, 0, none⟩) n n) (u.alloc (.cells ((List.replicate n zml).flatMap mcs).toArray 23)) := by
  obtain ⟨i0, hi, hx⟩ := Option.map_eq_some_iff.1 info23
  simp only [Prod.mk.injEq] at hx
  obtain ⟨hz0, hz1, hz2⟩ := hx
  have h := run_make (P := Try.prog) u 24 23 i0 (.agg #[.bool false, .int .i64 0, .int .i64 0, .int .i64 0, .string ⟨#[]⟩]) Try.underlying24 hi hz0 .i64 .i64 n n (by omega) (Int.le_refl _) (by rw [hz2]; omega) (by omega)
  rw [hz1] at h
  rw [← ml_made0]
  simpa [Value.cells] using h
theorem ml_made1 (u : World) (l : List Ml) (hl : l.length ≤ 1000) : Mls (u.alloc (.cells (l.flatMap mcs).toArray 23)) (.slice (some ⟨u.heap.size, 0, none⟩) l.length l.length) l := by
  refine ⟨some ⟨u.heap.size, 0, none⟩, l.length, rfl, Nat.le_refl _, by unfold maxLen; omega, (fun h => by cases h), fun ad ha j x hx => ?_⟩
  cases ha
  rw [Addr.add_lit, Nat.zero_add, cell_of_row _ _ _ _ _ _ (heap_alloc_new u _), List.getElem?_toArray]
  exact hx

def hi : ByteArray := ⟨#[104, 105]⟩
def A0 : List Ml := [zml]
def A1 : List Ml := [⟨true, 0, 2, 1, hi⟩]
theorem p0 : putP A0 ⟨false, 0, 2, 1, hi⟩ = (A1, 0, 0) := by kernel_rfl
theorem p1 : putP A1 ⟨false, 0, 0, 1, hi⟩ = ([], 0, 8) := by kernel_rfl
theorem p2 : putP A1 ⟨false, 0, 0, 1, ⟨#[]⟩⟩ = ([], 0, 2) := by kernel_rfl
theorem p3 : tossP A1 0 0 = ([], 3) := by kernel_rfl
theorem p4 : getP A1 0 1 = (⟨true, 0, 2, 1, hi⟩, 0) := by kernel_rfl
theorem p5 : tossP A1 0 1 = (A0, 0) := by kernel_rfl
theorem p6 : ofP A1 1 = [0] := by kernel_rfl
theorem p7 : okMs A1 = true := by kernel_rfl
theorem ans3_at {R : List Ml} {k er : Int} {w w' : World} {e : Ending} (n : Nat) (hn : R.length = n) (h : Ans3 (R, k, er) w e w') : ∃ A c, e = .returned (.tuple #[.slice A n c, .int .i64 k, .int .i64 er]) ∧ Hid (Mls w' (.slice A n c) R) ∧ Grew w w' := by
  obtain ⟨v', e1, hi, hg⟩ := h
  obtain ⟨A, c, rfl, _⟩ := hi.slice
  subst hn
  exact ⟨A, c, e1, Lib.hid hi, hg⟩
theorem ans2_at {R : List Ml} {er : Int} {w w' : World} {e : Ending} (n : Nat) (hn : R.length = n) (h : Ans2 (R, er) w e w') : ∃ A c, e = .returned (.tuple #[.slice A n c, .int .i64 er]) ∧ Hid (Mls w' (.slice A n c) R) ∧ Grew w w' := by
  obtain ⟨v', e1, hi, hg⟩ := h
  obtain ⟨A, c, rfl, _⟩ := hi.slice
  subst hn
  exact ⟨A, c, e1, Lib.hid hi, hg⟩
theorem szA : SzM A0 ∧ SzM A1 := by
  constructor
  all_goals
    intro x hx
    simp only [A0, A1, List.mem_cons, List.not_mem_nil, or_false] at hx
    rcases hx with rfl <;> decide
theorem atA0 {W : World} {A : Option Addr} {c : Nat} (hi : Mls W (.slice A 1 c) A0) : ∃ ad, A = some ad ∧ W.cell? ad = some (.bool false) := by
  obtain ⟨ad, c9, e9', hc9, d0, _⟩ := Mls_at hi (k := 0) (x := zml) rfl
  injection e9' with e1' _ e3'
  exact ⟨ad, e1', by simpa [Addr.add, zml] using d0⟩
def ZM : Array Value := ((List.replicate 1 zml).flatMap mcs).toArray
set_option maxHeartbeats 2000000 in
theorem alive_any (w : World) : Calls Try.prog 8 #[] w fun e w' => e = .returned (.bool true) ∧ Grew w w' := by
  have hmk : ∀ u : World, (Instr.makeSlice 24 (.int .i64 1) (.int .i64 1)).run Try.prog u = .ok (.slice (some ⟨u.heap.size, 0, none⟩) 1 1) (u.alloc (.cells ZM 23)) := fun u => mk_ml 1 (by decide) u
  have gl : Grew w (w.alloc (.cells ZM 23)) := by unfold Grew; go_grown
  have G0 := Lib.hid gl
  have HP0 := Lib.hid (put_any (.slice (some ⟨w.heap.size, 0, none⟩) 1 1) A0 ⟨false, 0, 2, 1, hi⟩ (w.alloc (.cells ZM 23)) (ml_made1 w A0 (by decide)) szA.1 (by decide) (by decide))
  rw [p0] at HP0
  have HP1 := Lib.hid (fun W A c (h : Mls W (.slice A 1 c) A1) => put_any _ A1 ⟨false, 0, 0, 1, hi⟩ W h szA.2 (by decide) (by decide))
  rw [p1] at HP1
  have HP2 := Lib.hid (fun W A c (h : Mls W (.slice A 1 c) A1) => put_any _ A1 ⟨false, 0, 0, 1, ⟨#[]⟩⟩ W h szA.2 (by decide) (by decide))
  rw [p2] at HP2
  have HT3 := Lib.hid (fun W A c (h : Mls W (.slice A 1 c) A1) => toss_any _ A1 0 0 W h szA.2 (by decide))
  rw [p3] at HT3
  have HG4 := Lib.hid (fun W A c (h : Mls W (.slice A 1 c) A1) => get_any _ A1 0 1 W h (by decide))
  rw [p4] at HG4
  have HT5 := Lib.hid (fun W A c (h : Mls W (.slice A 1 c) A1) => toss_any _ A1 0 1 W h szA.2 (by decide))
  rw [p5] at HT5
  have HO6 := Lib.hid (fun W A c (h : Mls W (.slice A 1 c) A1) => of_any _ A1 1 W h (by decide))
  rw [p6] at HO6
  have HR7 := Lib.hid (fun W A c (h : Mls W (.slice A 1 c) A1) => mails_any _ A1 W h szA.2)
  rw [p7] at HR7
  unfold mlv at HP0 HP1 HP2 HG4
  unfold hi at HP0 HP1 HG4
  simp only at HP0 HP1 HP2 HG4
  clear gl
  go_enter Try.func8, Try.ntmps8
  go_wp2_with fail
  refine HP0.out.mono ?_
  rintro e w1 ha
  obtain ⟨A1', c1, rfl, HI1, hg⟩ := ans3_at 1 rfl ha
  have G1 := Lib.hid (G0.out.trans hg)
  clear ha hg hmk HP0 G0
  go_wp2_with fail
  refine (HP1.out _ _ _ HI1.out).mono ?_
  rintro e w2 ha
  obtain ⟨A2, c2, rfl, HI2, hg⟩ := ans3_at 0 rfl ha
  have G2 := Lib.hid (G1.out.trans hg)
  replace HI1 := Lib.hid (HI1.out.grew hg)
  clear ha hg HP1 G1 HI2
  go_wp2_with fail
  refine (HP2.out _ _ _ HI1.out).mono ?_
  rintro e w3 ha
  obtain ⟨A3, c3, rfl, HI3, hg⟩ := ans3_at 0 rfl ha
  have G3 := Lib.hid (G2.out.trans hg)
  replace HI1 := Lib.hid (HI1.out.grew hg)
  clear ha hg HP2 G2 HI3
  go_wp2_with fail
  refine (HT3.out _ _ _ HI1.out).mono ?_
  rintro e w4 ha
  obtain ⟨A4, c4, rfl, HI4, hg⟩ := ans2_at 0 rfl ha
  have G4 := Lib.hid (G3.out.trans hg)
  replace HI1 := Lib.hid (HI1.out.grew hg)
  clear ha hg HT3 G3 HI4
  go_wp2_with fail
  refine (HG4.out _ _ _ HI1.out).mono ?_
  rintro e w5 ⟨rfl, hg⟩
  have g6 : Grew w5 (w5.alloc (.cells #[.bool true, .int .i64 0, .int .i64 2, .int .i64 1, .string ⟨#[104, 105]⟩] 23)) := by unfold Grew; go_grown
  have G6 := Lib.hid ((G4.out.trans hg).trans g6)
  have HB6 := Lib.hid (blk_new w5 (.cells #[.bool true, .int .i64 0, .int .i64 2, .int .i64 1, .string ⟨#[104, 105]⟩] 23))
  replace HI1 := Lib.hid ((HI1.out.grew hg).grew g6)
  clear hg g6 HG4 G4
  go_wp2_with fail
  refine (HT5.out _ _ _ HI1.out).mono ?_
  rintro e w7 ha
  obtain ⟨A7, c7, rfl, HI7, hg⟩ := ans2_at 1 rfl ha
  have G7 := Lib.hid (G6.out.trans hg)
  have HB7 := Lib.hid (keepB HB6.out hg)
  replace HI1 := Lib.hid (HI1.out.grew hg)
  clear ha hg HT5 G6 HB6
  go_wp2_with fail
  refine (HO6.out _ _ _ HI1.out).mono ?_
  rintro e w8 ⟨V8, rfl, hi8, hg⟩
  obtain ⟨A8, c8, rfl, _⟩ := Is.slice hi8
  have hl8 : ([0] : List Int).length = 1 := rfl
  rw [hl8]
  have G8 := Lib.hid (G7.out.trans hg)
  have HB8 := Lib.hid (keepB HB7.out hg)
  replace HI1 := Lib.hid (HI1.out.grew hg)
  replace HI7 := Lib.hid (HI7.out.grew hg)
  clear hi8 hg HO6 G7 HB7 hl8
  obtain ⟨c0, c1', c2', c3', c4'⟩ := five_c HB8.out
  obtain ⟨ad7, rfl, x7⟩ := atA0 HI7.out
  go_wp2_with fail
  refine (HR7.out _ _ _ HI1.out).mono ?_
  rintro e w9 ⟨rfl, hg⟩
  have G9 := Lib.hid (G8.out.trans hg)
  clear hg c0 c1' c2' c3' c4' x7
  go_wp2
  go_returns
  exact ⟨rfl, G9.out⟩
end Go.Proofs.Ytcbaaeihppchiaa.PF
