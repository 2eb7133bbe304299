/-
  What comes of fixed calls.
  Conditions: those that each lemma names.
-/
import Derived.Test.YtaolallfmjjoeaaTL
namespace Go.Proofs.Ytaolallfmjjoeaa.TM
set_option maxRecDepth 100000
open Go Go.RowKit Go.Lib Go.Proofs.Ytaolallfmjjoeaa Go.Proofs.Ytaolallfmjjoeaa.Facts Go.Proofs.Ytaolallfmjjoeaa.Ints Go.Proofs.Ytaolallfmjjoeaa.TI Go.Proofs.Ytaolallfmjjoeaa.TP Go.Proofs.Ytaolallfmjjoeaa.TB Go.Proofs.Ytaolallfmjjoeaa.TC Go.Proofs.Ytaolallfmjjoeaa.TD Go.Proofs.Ytaolallfmjjoeaa.TE Go.Proofs.Ytaolallfmjjoeaa.TF Go.Proofs.Ytaolallfmjjoeaa.TG Go.Proofs.Ytaolallfmjjoeaa.TH Go.Proofs.Ytaolallfmjjoeaa.TJ Go.Proofs.Ytaolallfmjjoeaa.TK Go.Proofs.Ytaolallfmjjoeaa.TL Go.Proofs.Ytaolallfmjjoeaa.Bytes


theorem made_items (n : Nat) : madeCells #[.bool false, .string ⟨#[]⟩, .int .i64 0, .int .i64 0, .int .i64 0, .int .i64 0] (n * 6) = ((List.replicate n zit).flatMap ics).toArray := by
  apply Array.ext'
  apply List.ext_getElem?
  intro j
  by_cases hj : j < n * 6
  · have hn : j / 6 < n := by omega
    have h := flat_get ics 6 (fun _ => rfl) (List.replicate n zit) (j / 6) (j % 6) zit (by rw [List.getElem?_replicate, if_pos hn]) (Nat.mod_lt _ (by decide))
    rw [Nat.div_add_mod' j 6] at h
    rw [show (((List.replicate n zit).flatMap ics).toArray.toList)[j]? = _ from h]
    have h6 : j % 6 < 6 := Nat.mod_lt _ (by decide)
    simp only [madeCells, Array.toList_map, Array.toList_range, List.getElem?_map, List.getElem?_range hj, Option.map_some]
    generalize j % 6 = i at *
    match i, h6 with
    | 0, _ => rfl
    | 1, _ => rfl
    | 2, _ => rfl
    | 3, _ => rfl
    | 4, _ => rfl
    | 5, _ => rfl
  · rw [List.getElem?_eq_none (by simp [madeCells]; omega), List.getElem?_eq_none (by simp only [ics_len, List.length_replicate]; omega)]
theorem mk_items (n : Nat) (hn : n ≤ 1000) (u : World) : (Instr.makeSlice 46 (.int .i64 (n : Int)) (.int .i64 (n : Int))).run Try.prog u =
    .ok (.slice (some ⟨u.heap.size, 0, none⟩) n n) (u.alloc (.cells ((List.replicate n zit).flatMap ics).toArray 67)) := by
  obtain ⟨i0, hi, hx⟩ := Option.map_eq_some_iff.1 info67
  simp only [Prod.mk.injEq] at hx
  obtain ⟨hz0, hz1, hz2⟩ := hx
  have h := run_make (P := Try.prog) u 46 67 i0 (.agg #[.bool false, .string ⟨#[]⟩, .int .i64 0, .int .i64 0, .int .i64 0, .int .i64 0]) Try.underlying46 hi hz0 .i64 .i64 n n (by omega) (Int.le_refl _) (by rw [hz2]; omega) (by omega)
  rw [hz1] at h
  rw [← made_items]
  simpa [Value.cells] using h
theorem its_made (u : World) (l : List It) (hl : l.length ≤ 1000) : Its (u.alloc (.cells (l.flatMap ics).toArray 67)) (.slice (some ⟨u.heap.size, 0, none⟩) l.length l.length) l := by
  refine ⟨some ⟨u.heap.size, 0, none⟩, l.length, rfl, Nat.le_refl _, by unfold maxLen; omega, (fun h => by cases h), fun ad ha j x hx => ?_⟩
  cases ha
  rw [Addr.add_lit, Nat.zero_add, cell_of_row _ _ _ _ _ _ (heap_alloc_new u _), List.getElem?_toArray]
  exact hx

def Z2 : Array Value := ((List.replicate 2 zit).flatMap ics).toArray
def lamp : ByteArray := ⟨#[108, 97, 109, 112]⟩
def L0 : List It := [zit, zit]
def L1 : List It := [⟨true, lamp, 1, 0, 0, 0⟩, zit]
def L2 : List It := [⟨true, lamp, 2, 0, 0, 1⟩, zit]
def L3 : List It := [⟨true, lamp, 1, 2, 0, 0⟩, zit]
def L4 : List It := [⟨true, lamp, 3, 5, 0, 0⟩, zit]
def L5 : List It := [⟨true, lamp, 1, 1, 0, 0⟩, zit]
theorem e0 : makeP L0 lamp 0 = (L1, 0, 0) := by kernel_rfl
theorem e1 : moveP L1 0 (hand 0) (floor 0 1) = (L2, 0) := by kernel_rfl
theorem e2 : moveP L2 0 (floor 0 1) (hand 2) = (L3, 0) := by kernel_rfl
theorem e3 : moveP L2 0 (floor 0 0) (hand 2) = ([], 3) := by kernel_rfl
theorem e4 : moveP L3 0 (hand 2) (deal 5) = (L4, 0) := by kernel_rfl
theorem e5 : freeP L4 5 1 = (L5, 0) := by kernel_rfl
theorem e6 : scrapP L5 0 2 = ([], 3) := by kernel_rfl
theorem e7 : slotsOf L2 (floor 0 1) = [0] := by kernel_rfl
theorem e8 : slotsOf L3 (hand 2) = [0] := by kernel_rfl
theorem e9 : okL L4 = true := by kernel_rfl
theorem e10 : slotsOf L4 (hand 2) = [] := by kernel_rfl
theorem sz {l : List It} (h : ∀ x ∈ l, x.name.size ≤ 4) : Sz l := fun x hx => Nat.le_trans (h x hx) (by decide)
theorem lsz : lamp.size ≤ 4 := by decide
theorem s0 : Sz L0 := sz (by intro x hx; simp only [L0, List.mem_cons, List.not_mem_nil, or_false] at hx; rcases hx with rfl | rfl <;> decide)
theorem s1 : Sz L1 := sz (by intro x hx; simp only [L1, List.mem_cons, List.not_mem_nil, or_false] at hx; rcases hx with rfl | rfl <;> decide)
theorem s2 : Sz L2 := sz (by intro x hx; simp only [L2, List.mem_cons, List.not_mem_nil, or_false] at hx; rcases hx with rfl | rfl <;> decide)
theorem s3 : Sz L3 := sz (by intro x hx; simp only [L3, List.mem_cons, List.not_mem_nil, or_false] at hx; rcases hx with rfl | rfl <;> decide)
theorem s4 : Sz L4 := sz (by intro x hx; simp only [L4, List.mem_cons, List.not_mem_nil, or_false] at hx; rcases hx with rfl | rfl <;> decide)
theorem s5 : Sz L5 := sz (by intro x hx; simp only [L5, List.mem_cons, List.not_mem_nil, or_false] at hx; rcases hx with rfl | rfl <;> decide)

theorem at5 {W : World} {A : Option Addr} {c : Nat} (hi : Its W (.slice A 2 c) L5) : ∃ ad, A = some ad ∧ W.cell? ⟨ad.block, ad.off + 2, none⟩ = some (.int .i64 1) ∧ W.cell? ⟨ad.block, ad.off + 3, none⟩ = some (.int .i64 1) := by
  obtain ⟨ad, c9, e9', hc9, _, _, d2, d3, _⟩ := Its_at hi (k := 0) (x := ⟨true, lamp, 1, 1, 0, 0⟩) rfl
  injection e9' with e1' _ e3'
  exact ⟨ad, e1', by simpa [Addr.add] using d2, by simpa [Addr.add] using d3⟩
theorem ans_at {R : List It} {er : Int} {w w' : World} {e : Ending} (n : Nat) (hn : R.length = n) (h : Ans (R, er) w e w') : ∃ A c, e = .returned (.tuple #[.slice A n c, .int .i64 er]) ∧ Hid (Its w' (.slice A n c) R) ∧ Grew w w' := by
  obtain ⟨A, c, e1, hi, hg⟩ := ans_slice h
  subst hn
  exact ⟨A, c, e1, Lib.hid hi, hg⟩
theorem ref_cells {W : World} {B t : Nat} {a b : Value} (h : W.heap[B]? = some (.cells #[a, b] t (0, 0))) : W.cell? ⟨B, 0, none⟩ = some a ∧ W.cell? ⟨B, 1, none⟩ = some b := by
  refine ⟨?_, ?_⟩
  all_goals rw [cell_of_row _ _ _ _ _ _ h]; rfl
set_option maxHeartbeats 2000000 in
theorem alive_any (w : World) : Calls Try.prog 18 #[] w fun e w' => e = .returned (.bool true) ∧ Grew w w' := by
  have hmk : ∀ u : World, (Instr.makeSlice 46 (.int .i64 2) (.int .i64 2)).run Try.prog u = .ok (.slice (some ⟨u.heap.size, 0, none⟩) 2 2) (u.alloc (.cells Z2 67)) := fun u => mk_items 2 (by decide) u
  have gb : Grew w (w.alloc (.cells #[.int .i64 0, .int .i64 1] 33)) := by
    unfold Grew; go_grown
  have hb : (w.alloc (.cells #[.int .i64 0, .int .i64 1] 33)).heap[w.heap.size]? = some (.cells #[.int .i64 0, .int .i64 1] 33 (0, 0)) := heap_alloc_new w _
  have hz : (w.alloc (.cells #[.int .i64 0, .int .i64 1] 33)).heap.size = w.heap.size + 1 := by simp
  have hi0 := its_made (w.alloc (.cells #[.int .i64 0, .int .i64 1] 33)) L0 (by decide)
  rw [hz] at hi0
  have gl : Grew (w.alloc (.cells #[.int .i64 0, .int .i64 1] 33)) ((w.alloc (.cells #[.int .i64 0, .int .i64 1] 33)).alloc (.cells Z2 67)) := by unfold Grew; go_grown
  have HB := Lib.hid (keepB hb gl)
  have G0 := Lib.hid (gb.trans gl)
  have HMK := Lib.hid (make_any (.slice (some ⟨w.heap.size + 1, 0, none⟩) 2 2) L0 lamp 0 ((w.alloc (.cells #[.int .i64 0, .int .i64 1] 33)).alloc (.cells Z2 67)) hi0 s0 (by decide) (by decide))
  rw [e0] at HMK
  have HDR := Lib.hid (fun W A c (hi : Its W (.slice A 2 c) L1) => drop_any _ L1 0 0 0 1 W hi s1 (by decide))
  have HT2 := Lib.hid (fun W A c (hi : Its W (.slice A 2 c) L2) => take_any _ L2 0 2 0 1 W hi s2 (by decide))
  have HT3 := Lib.hid (fun W A c (hi : Its W (.slice A 2 c) L2) => take_any _ L2 0 2 0 0 W hi s2 (by decide))
  have HHO := Lib.hid (fun W A c (hi : Its W (.slice A 2 c) L3) => hold_any _ L3 0 2 5 W hi s3 (by decide))
  have HFR := Lib.hid (fun W A c (hi : Its W (.slice A 2 c) L4) => free_any _ L4 5 1 W hi s4 (by decide))
  have HSC := Lib.hid (fun W A c (hi : Its W (.slice A 2 c) L5) => scrap_any _ L5 0 2 W hi s5 (by decide))
  have HLY := Lib.hid (fun W A c (hi : Its W (.slice A 2 c) L2) => lying_any L2 0 1 _ W hi (by decide))
  have HH3 := Lib.hid (fun W A c (hi : Its W (.slice A 2 c) L3) => held_any L3 2 _ W hi (by decide))
  have HH4 := Lib.hid (fun W A c (hi : Its W (.slice A 2 c) L4) => held_any L4 2 _ W hi (by decide))
  have HR4 := Lib.hid (fun W A c (hi : Its W (.slice A 2 c) L4) => right_any _ L4 W hi s4)
  rw [e1] at HDR
  rw [e2] at HT2
  rw [e3] at HT3
  rw [e4] at HHO
  rw [e5] at HFR
  rw [e6] at HSC
  rw [e7] at HLY
  rw [e8] at HH3
  rw [e10] at HH4
  rw [e9] at HR4
  have HAT5 := Lib.hid (fun W A c (hi : Its W (.slice A 2 c) L5) => at5 hi)
  clear gb hb hz hi0 gl
  unfold lamp at HMK
  go_enter Try.func18, Try.ntmps18
  go_wp2_with fail
  refine HMK.out.mono ?_
  rintro e w1 ⟨V, rfl, hi, hg⟩
  have hi1 : Its w1 V L1 := hi
  obtain ⟨A1, c1, rfl, _⟩ := hi1.slice
  have HI1 : Hid (Its w1 (.slice A1 2 c1) L1) := Lib.hid hi1
  have hln : L1.length = 2 := rfl
  rw [hln]
  have G1 := Lib.hid (G0.out.trans hg)
  have HB1 := Lib.hid (keepB HB.out hg)
  clear hi hi1 hg HMK HB hln hmk
  obtain ⟨k0, k1⟩ := ref_cells HB1.out
  go_wp2_with fail
  refine (HDR.out _ _ _ HI1.out).mono ?_
  rintro e w2 ha
  obtain ⟨A2, c2, rfl, HI2, hg⟩ := ans_at 2 rfl ha
  have G2 := Lib.hid (G1.out.trans hg)
  have HB2 := Lib.hid (keepB HB1.out hg)
  clear ha hg k0 k1
  obtain ⟨k0, k1⟩ := ref_cells HB2.out
  go_wp2_with fail
  refine (HT2.out _ _ _ HI2.out).mono ?_
  rintro e w3 ha
  obtain ⟨A3, c3, rfl, HI3, hg⟩ := ans_at 2 rfl ha
  have G3 := Lib.hid (G2.out.trans hg)
  have HB3 := Lib.hid (keepB HB2.out hg)
  replace HI2 := Lib.hid (HI2.out.grew hg)
  clear ha hg k0 k1
  obtain ⟨k0, k1⟩ := ref_cells HB3.out
  go_wp2_with fail
  refine (HT3.out _ _ _ HI2.out).mono ?_
  rintro e w4 ha
  obtain ⟨A4, c4, rfl, HI9, hg⟩ := ans_at 0 rfl ha
  have G4 := Lib.hid (G3.out.trans hg)
  have HB4 := Lib.hid (keepB HB3.out hg)
  replace HI2 := Lib.hid (HI2.out.grew hg)
  replace HI3 := Lib.hid (HI3.out.grew hg)
  clear ha hg k0 k1
  obtain ⟨k0, k1⟩ := ref_cells HB4.out
  go_wp2_with fail
  refine (HHO.out _ _ _ HI3.out).mono ?_
  rintro e w5 ha
  obtain ⟨A5, c5, rfl, HI4, hg⟩ := ans_at 2 rfl ha
  have G5 := Lib.hid (G4.out.trans hg)
  have HB5 := Lib.hid (keepB HB4.out hg)
  replace HI2 := Lib.hid (HI2.out.grew hg)
  replace HI3 := Lib.hid (HI3.out.grew hg)
  clear ha hg k0 k1
  obtain ⟨k0, k1⟩ := ref_cells HB5.out
  go_wp2_with fail
  refine (HFR.out _ _ _ HI4.out).mono ?_
  rintro e w6 ha
  obtain ⟨A6, c6, rfl, HI5, hg⟩ := ans_at 2 rfl ha
  have G6 := Lib.hid (G5.out.trans hg)
  have HB6 := Lib.hid (keepB HB5.out hg)
  replace HI2 := Lib.hid (HI2.out.grew hg)
  replace HI3 := Lib.hid (HI3.out.grew hg)
  replace HI4 := Lib.hid (HI4.out.grew hg)
  clear ha hg k0 k1
  obtain ⟨k0, k1⟩ := ref_cells HB6.out
  go_wp2_with fail
  refine (HSC.out _ _ _ HI5.out).mono ?_
  rintro e w7 ha
  obtain ⟨A7, c7, rfl, HI8, hg⟩ := ans_at 0 rfl ha
  have G7 := Lib.hid (G6.out.trans hg)
  have HB7 := Lib.hid (keepB HB6.out hg)
  replace HI2 := Lib.hid (HI2.out.grew hg)
  replace HI3 := Lib.hid (HI3.out.grew hg)
  replace HI4 := Lib.hid (HI4.out.grew hg)
  replace HI5 := Lib.hid (HI5.out.grew hg)
  clear ha hg k0 k1
  obtain ⟨k0, k1⟩ := ref_cells HB7.out
  go_wp2_with fail
  refine (HLY.out _ _ _ HI2.out).mono ?_
  rintro e w8 ⟨V8, rfl, hi, hg⟩
  obtain ⟨A8, c8, rfl, _⟩ := Is.slice hi.is
  have G8 := Lib.hid (G7.out.trans hg)
  replace HI3 := Lib.hid (HI3.out.grew hg)
  replace HI4 := Lib.hid (HI4.out.grew hg)
  replace HI5 := Lib.hid (HI5.out.grew hg)
  clear hi hg k0 k1
  obtain ⟨ad, e9', d2, d3⟩ := HAT5.out _ _ _ HI5.out
  subst e9'
  have HX2 := Lib.hid d2
  have HX3 := Lib.hid d3
  clear d2 d3 HAT5
  have x2 := HX2.out
  have x3 := HX3.out
  go_wp2_with fail
  refine (HH3.out _ _ _ HI3.out).mono ?_
  rintro e w9 ⟨V9, rfl, hi, hg⟩
  obtain ⟨A9, c9', rfl, _⟩ := Is.slice hi.is
  have G9 := Lib.hid (G8.out.trans hg)
  replace HI4 := Lib.hid (HI4.out.grew hg)
  clear hi hg x2 x3
  go_wp2_with fail
  refine (HR4.out _ _ _ HI4.out).mono ?_
  rintro e w10 ⟨rfl, hg⟩
  have G10 := Lib.hid (G9.out.trans hg)
  replace HI4 := Lib.hid (HI4.out.grew hg)
  clear hg
  go_wp2_with fail
  refine (HH4.out _ _ _ HI4.out).mono ?_
  rintro e w11 ⟨V11, rfl, hi, hg⟩
  obtain ⟨A11, c11, rfl, _⟩ := Is.slice hi.is
  have G11 := Lib.hid (G10.out.trans hg)
  clear hi hg
  go_wp2
  go_returns
  exact ⟨rfl, G11.out⟩
end Go.Proofs.Ytaolallfmjjoeaa.TM
