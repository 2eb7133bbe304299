/-
  A new disk.
  Conditions: those that each lemma names.
-/
import Derived.Test.YtbnicphegbdfnaaDRead
import Derived.RegionTactic
import Derived.BigRegion
namespace Go.Proofs.Ytbnicphegbdfnaa.DNew
set_option maxRecDepth 100000
set_option maxRecDepth 100000
set_option maxRecDepth 100000
open Go Go.RowKit Go.Proofs.Ytbnicphegbdfnaa Go.Proofs.Ytbnicphegbdfnaa.Facts Go.Proofs.Ytbnicphegbdfnaa.Bytes Go.Proofs.Ytbnicphegbdfnaa.DKeep Go.Proofs.Ytbnicphegbdfnaa.DSmall Go.Proofs.Ytbnicphegbdfnaa.DTurn Go.Proofs.Ytbnicphegbdfnaa.DArm

def zsec : Sec := List.replicate 128 0
def blank (n : Nat) : List Sec := List.replicate n zsec
theorem blank_length (n : Nat) : (blank n).length = n := by simp [blank]
theorem blank_even (n : Nat) : Even (blank n) := fun B hB => by
  rw [List.eq_of_mem_replicate hB]
  simp [zsec]
theorem blank_cells (n : Nat) : scells (blank n) = List.replicate (n * 128) (.int .u8 0) := by
  induction n with
  | zero => rfl
  | succ n ih =>
    have e : scells (blank (n + 1)) = bv zsec ++ scells (blank n) := by unfold blank; rw [List.replicate_succ]; rfl
    have e2 : bv zsec = List.replicate 128 (.int .u8 0) := by
      unfold bv zsec
      rw [List.map_replicate]
      rfl
    rw [e, ih, e2, List.replicate_append_replicate]
    congr 1
    omega
theorem made_blank (n : Nat) : madeCells (bv zsec).toArray (n * 128) = (scells (blank n)).toArray := by
  rw [blank_cells]
  apply Array.ext (by simp [madeCells])
  intro i h1 h2
  have hz : (bv zsec).toArray.size = 128 := by simp [bv, zsec]
  have hm : i % 128 < (bv zsec).toArray.size := by omega
  simp only [madeCells, Array.getElem_map, Array.getElem_range, hz, List.getElem_toArray, List.getElem_replicate]
  rw [getElem!_pos (bv zsec).toArray (i % 128) hm]
  have hall : ∀ u ∈ bv zsec, u = .int .u8 0 := by
    intro u hu
    obtain ⟨b, hb, rfl⟩ := List.mem_map.1 hu
    rw [List.eq_of_mem_replicate hb]
    rfl
  exact hall _ (by rw [← List.mem_toArray]; exact Array.getElem_mem hm)
theorem zero65 : (Try.prog.info? 116).map (fun i => (i.zero.map (·.cells), i.size, i.bytes)) = some (some (bv zsec).toArray, 128, 128) := by kernel_rfl
theorem run_mk (n : Nat) (hn : n ≤ 16384) (u : World) : (Instr.makeSlice 101 (.int .i64 n) (.int .i64 n)).run Try.prog u = .ok (.slice (some ⟨u.heap.size, 0, none⟩) n n) (u.alloc (.cells (scells (blank n)).toArray 116)) := by
  cases hq : Try.prog.info? 116 with
  | none => have := zero65; simp [hq] at this
  | some i =>
    have h := zero65
    simp only [hq, Option.map_some, Option.some.injEq, Prod.mk.injEq] at h
    obtain ⟨h1, h2, h3⟩ := h
    cases hz : i.zero with
    | none => simp [hz] at h1
    | some z =>
      have hzc : z.cells = (bv zsec).toArray := by simpa [hz] using h1
      have hr := run_make (P := Try.prog) u 101 116 i z Try.underlying101 hq hz .i64 .i64 (n : Int) (n : Int) (by omega) (Int.le_refl _) (by rw [h3]; omega) (by omega)
      rw [hr, hzc, h2, Int.toNat_natCast, made_blank]

def fresh (n : Nat) : Pd := ⟨blank n, blank n, [], -1, false⟩
theorem fresh_dk (w : World) (n g a b : Nat) (hn : 1 ≤ n) (hn2 : n ≤ 16384) (hg : w.heap[g]? = some (.cells #[.slice (some ⟨a, 0, none⟩) n n, .slice (some ⟨b, 0, none⟩) n n, .slice none 0 0, .int .i64 (-1), .bool false] 104 (0, 0)))
    (ha : w.heap[a]? = some (.cells (scells (blank n)).toArray 116 (0, 0))) (hb : w.heap[b]? = some (.cells (scells (blank n)).toArray 116 (0, 0))) (hab : a ≠ b) (D : Nat → Prop) (hD : ∀ k, D k → k < w.heap.size) (h1 : D g) (h2 : D a) (h3 : D b) : DK w g D (fresh n) := by
  have row : ∀ k, w.heap[k]? = some (.cells (scells (blank n)).toArray 116 (0, 0)) → RowAt w k (blank n) := fun k hk => ⟨_, hk, by rw [List.toList_toArray, ← scells_length _ (blank_even n), List.take_length]⟩
  have ga : g ≠ a := fun e => by
    rw [e, ha] at hg
    injection hg with h
    injection h with _ h2
    exact absurd h2 (by decide)
  have gb : g ≠ b := fun e => by
    rw [e, hb] at hg
    injection hg with h
    injection h with _ h2
    exact absurd h2 (by decide)
  refine ⟨hD, a, b, n, n, .slice none 0 0, ⟨by rw [show (fresh n).safe = blank n from rfl, blank_length]; exact hg, row a ha, row b hb, World.ownsRow_nil _ _ _ _, ga, gb, hab, by simp [Value.ownBlock], by simp [Value.ownBlock], by simp [Value.ownBlock], ?_, ?_, by omega, ?_, by omega⟩, ⟨h1, h2, h3, fun k hk => by simp [Value.ownBlock] at hk⟩⟩
  · exact ⟨by rw [show (fresh n).safe = blank n from rfl, blank_length]; exact hn, by rw [show (fresh n).safe = blank n from rfl, blank_length]; exact hn2, rfl, blank_even n, blank_even n, (fun p hp => by cases hp), by show (-1 : Int) ≤ -1; omega, by show (-1 : Int) ≤ 9223372036854775807; omega⟩
  · rw [show (fresh n).safe = blank n from rfl, blank_length]
    exact Nat.le_refl _
  · rw [show (fresh n).safe = blank n from rfl, blank_length]
    exact Nat.le_refl _

theorem new_bad (n : Int) (w : World) (h : n < 1 ∨ 16384 < n) : Calls Try.prog 12 #[.int .i64 n] w fun e w' => e = .returned (.tuple #[.pointer none, .int .i64 1]) ∧ w = w' := by
  rcases h with h | h
  · go_enter Try.func12, Try.ntmps12
    go_wp2
    go_returns
    exact ⟨rfl, rfl⟩
  · by_cases h1 : n < 1
    · omega
    · go_enter Try.func12, Try.ntmps12
      go_wp2
      go_returns
      exact ⟨rfl, rfl⟩

theorem push0 (H : Array Obj) (x y z : Obj) : (((H.push x).push y).push z)[H.size]? = some x := by
  rw [Array.getElem?_push, if_neg (by simp; omega), Array.getElem?_push, if_neg (by simp), Array.getElem?_push, if_pos rfl]
theorem push1 (H : Array Obj) (x y z : Obj) : (((H.push x).push y).push z)[H.size + 1]? = some y := by
  rw [Array.getElem?_push, if_neg (by simp), Array.getElem?_push, if_pos (by simp)]
theorem push2 (H : Array Obj) (x y z : Obj) : (((H.push x).push y).push z)[H.size + 1 + 1]? = some z := by
  rw [Array.getElem?_push, if_pos (by simp)]

set_option maxHeartbeats 4000000 in
theorem new_any (n : Nat) (w : World) (h1 : 1 ≤ n) (h2 : n ≤ 16384) : Calls Try.prog 12 #[.int .i64 n] w fun e w' => ∃ g, e = .returned (.tuple #[dptr g, .int .i64 0]) ∧ DK w' g (fun k => w.heap.size ≤ k ∧ k < w'.heap.size) (fresh n) ∧ Grew w w' := by
  have hmk := run_mk n h2
  have HN1 := Lib.hid h1
  have HN2 := Lib.hid h2
  have hx : ¬ ((n : Int) < 1) := by omega
  have hy : ¬ ((16384 : Int) < (n : Int)) := by omega
  have HF := Lib.hid (fun w g a b => fresh_dk w n g a b h1 h2)
  generalize (scells (blank n)).toArray = Z at *
  clear h1 h2
  go_enter Try.func12, Try.ntmps12
  go_wp2
  go_region
  all_goals
    go_wp2
    go_returns
  · exact ⟨w.heap.size + 1 + 1, rfl, HF.out _ _ w.heap.size (w.heap.size + 1) (push2 w.heap _ _ _) (push0 w.heap _ _ _) (push1 w.heap _ _ _) (by omega) _ (fun k hk => hk.2) ⟨by omega, by simp⟩ ⟨by omega, by simp; omega⟩ ⟨by omega, by simp⟩, by unfold Grew; go_grown⟩
  · exact ⟨w.heap.size + 1 + 1, rfl, HF.out _ _ (w.heap.size + 1) w.heap.size (push2 w.heap _ _ _) (push1 w.heap _ _ _) (push0 w.heap _ _ _) (by omega) _ (fun k hk => hk.2) ⟨by omega, by simp⟩ ⟨by omega, by simp⟩ ⟨by omega, by simp; omega⟩, by unfold Grew; go_grown⟩
end Go.Proofs.Ytbnicphegbdfnaa.DNew
