/-
  Rooms and exits that are made anew; what comes of fixed calls, said purely.
  Conditions: those that each lemma names.
-/
import Derived.Test.YtaolallfmjjoeaaRH
namespace Go.Proofs.Ytaolallfmjjoeaa.RI
set_option maxRecDepth 100000
open Go Go.RowKit Go.Lib Go.Proofs.Ytaolallfmjjoeaa Go.Proofs.Ytaolallfmjjoeaa.Facts Go.Proofs.Ytaolallfmjjoeaa.Ints Go.Proofs.Ytaolallfmjjoeaa.TI Go.Proofs.Ytaolallfmjjoeaa.TP Go.Proofs.Ytaolallfmjjoeaa.TB Go.Proofs.Ytaolallfmjjoeaa.TC Go.Proofs.Ytaolallfmjjoeaa.TD Go.Proofs.Ytaolallfmjjoeaa.TE Go.Proofs.Ytaolallfmjjoeaa.TF Go.Proofs.Ytaolallfmjjoeaa.TH Go.Proofs.Ytaolallfmjjoeaa.RA Go.Proofs.Ytaolallfmjjoeaa.RB Go.Proofs.Ytaolallfmjjoeaa.RC Go.Proofs.Ytaolallfmjjoeaa.RD Go.Proofs.Ytaolallfmjjoeaa.RE Go.Proofs.Ytaolallfmjjoeaa.RF Go.Proofs.Ytaolallfmjjoeaa.RG Go.Proofs.Ytaolallfmjjoeaa.RH Go.Proofs.Ytaolallfmjjoeaa.Bytes

theorem made_rooms (n : Nat) : madeCells #[.bool false, .string ⟨#[]⟩] (n * 2) = ((List.replicate n zrm).flatMap rcs).toArray := by
  apply Array.ext'
  apply List.ext_getElem?
  intro j
  by_cases hj : j < n * 2
  · have hn : j / 2 < n := by omega
    have h := flat_get rcs 2 (fun _ => rfl) (List.replicate n zrm) (j / 2) (j % 2) zrm (by rw [List.getElem?_replicate, if_pos hn]) (Nat.mod_lt _ (by decide))
    rw [Nat.div_add_mod' j 2] at h
    rw [show (((List.replicate n zrm).flatMap rcs).toArray.toList)[j]? = _ from h]
    have h6 : j % 2 < 2 := Nat.mod_lt _ (by decide)
    simp only [madeCells, Array.toList_map, Array.toList_range, List.getElem?_map, List.getElem?_range hj, Option.map_some]
    generalize j % 2 = i at *
    match i, h6 with
    | 0, _ => rfl
    | 1, _ => rfl
  · rw [List.getElem?_eq_none (by simp [madeCells]; omega), List.getElem?_eq_none (by simp only [rcs_len, List.length_replicate]; omega)]
theorem mk_rooms (n : Nat) (hn : n ≤ 1000) (u : World) : (Instr.makeSlice 22 (.int .i64 (n : Int)) (.int .i64 (n : Int))).run Try.prog u =
    .ok (.slice (some ⟨u.heap.size, 0, none⟩) n n) (u.alloc (.cells ((List.replicate n zrm).flatMap rcs).toArray 74)) := by
  obtain ⟨i0, hi, hx⟩ := Option.map_eq_some_iff.1 info74
  simp only [Prod.mk.injEq] at hx
  obtain ⟨hz0, hz1, hz2⟩ := hx
  have h := run_make (P := Try.prog) u 22 74 i0 (.agg #[.bool false, .string ⟨#[]⟩]) Try.underlying22 hi hz0 .i64 .i64 n n (by omega) (Int.le_refl _) (by rw [hz2]; omega) (by omega)
  rw [hz1] at h
  rw [← made_rooms]
  simpa [Value.cells] using h
theorem rooms_made (u : World) (l : List Rm) (hl : l.length ≤ 1000) : Rms (u.alloc (.cells (l.flatMap rcs).toArray 74)) (.slice (some ⟨u.heap.size, 0, none⟩) l.length l.length) l := by
  refine ⟨some ⟨u.heap.size, 0, none⟩, l.length, rfl, Nat.le_refl _, by unfold maxLen; omega, (fun h => by cases h), fun ad ha j x hx => ?_⟩
  cases ha
  rw [Addr.add_lit, Nat.zero_add, cell_of_row _ _ _ _ _ _ (heap_alloc_new u _), List.getElem?_toArray]
  exact hx

theorem made_exits (n : Nat) : madeCells #[.bool false, .int .i64 0, .int .i64 0, .int .i64 0, .int .i64 0, .int .i64 0] (n * 6) = ((List.replicate n zex).flatMap ecs).toArray := by
  apply Array.ext'
  apply List.ext_getElem?
  intro j
  by_cases hj : j < n * 6
  · have hn : j / 6 < n := by omega
    have h := flat_get ecs 6 (fun _ => rfl) (List.replicate n zex) (j / 6) (j % 6) zex (by rw [List.getElem?_replicate, if_pos hn]) (Nat.mod_lt _ (by decide))
    rw [Nat.div_add_mod' j 6] at h
    rw [show (((List.replicate n zex).flatMap ecs).toArray.toList)[j]? = _ from h]
    have h6 : j % 6 < 6 := Nat.mod_lt _ (by decide)
    simp only [madeCells, Array.toList_map, Array.toList_range, List.getElem?_map, List.getElem?_range hj, Option.map_some]
    generalize j % 6 = i at *
    match i, h6 with
    | 0, _ => rfl
    | 1, _ => rfl
    | 2, _ => rfl
    | 3, _ => rfl
    | 4, _ => rfl
    | 5, _ => rfl
  · rw [List.getElem?_eq_none (by simp [madeCells]; omega), List.getElem?_eq_none (by simp only [ecs_len, List.length_replicate]; omega)]
theorem mk_exits (n : Nat) (hn : n ≤ 1000) (u : World) : (Instr.makeSlice 31 (.int .i64 (n : Int)) (.int .i64 (n : Int))).run Try.prog u =
    .ok (.slice (some ⟨u.heap.size, 0, none⟩) n n) (u.alloc (.cells ((List.replicate n zex).flatMap ecs).toArray 41)) := by
  obtain ⟨i0, hi, hx⟩ := Option.map_eq_some_iff.1 info41
  simp only [Prod.mk.injEq] at hx
  obtain ⟨hz0, hz1, hz2⟩ := hx
  have h := run_make (P := Try.prog) u 31 41 i0 (.agg #[.bool false, .int .i64 0, .int .i64 0, .int .i64 0, .int .i64 0, .int .i64 0]) Try.underlying31 hi hz0 .i64 .i64 n n (by omega) (Int.le_refl _) (by rw [hz2]; omega) (by omega)
  rw [hz1] at h
  rw [← made_exits]
  simpa [Value.cells] using h
theorem exits_made (u : World) (l : List Ex) (hl : l.length ≤ 1000) : Exs (u.alloc (.cells (l.flatMap ecs).toArray 41)) (.slice (some ⟨u.heap.size, 0, none⟩) l.length l.length) l := by
  refine ⟨some ⟨u.heap.size, 0, none⟩, l.length, rfl, Nat.le_refl _, by unfold maxLen; omega, (fun h => by cases h), fun ad ha j x hx => ?_⟩
  cases ha
  rw [Addr.add_lit, Nat.zero_add, cell_of_row _ _ _ _ _ _ (heap_alloc_new u _), List.getElem?_toArray]
  exact hx


def hut : ByteArray := ⟨#[104, 117, 116]⟩
def two : ByteArray := ⟨#[50]⟩
def A0 : List Rm := [zrm, zrm]
def A1 : List Rm := [⟨true, hut⟩, zrm]
def E0 : List Ex := [zex]
def E1 : List Ex := [⟨true, 0, 0, 0, 1, 2⟩]
theorem p0 : digP A0 hut = (A1, 0, 0) := by kernel_rfl
theorem p1 : digP A1 two = ([], 0, 2) := by kernel_rfl
theorem p2 : linkP E0 ⟨true, 0, 0, 0, 1, 2⟩ = (E1, 0, 0) := by kernel_rfl
theorem p3 : linkP E1 ⟨true, 0, 0, 0, 0, 2⟩ = ([], 0, 4) := by kernel_rfl
theorem p4 : linkP E1 ⟨true, 0, 0, 0, 0, 3⟩ = ([], 0, 8) := by kernel_rfl
theorem p5 : findP E1 0 0 2 = ((0, 1), true) := by kernel_rfl
theorem p6 : wys E1 0 0 6 = [2] := by kernel_rfl
theorem p7 : closeP E1 0 0 2 = (E0, 0) := by kernel_rfl
theorem p8 : okRs A1 = true := by kernel_rfl
theorem p9 : exq [] E1 = true := by kernel_rfl
end Go.Proofs.Ytaolallfmjjoeaa.RI
