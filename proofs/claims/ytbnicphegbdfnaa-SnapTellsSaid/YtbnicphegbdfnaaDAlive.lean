/-
  What is used of the disk by those above it.
  Conditions: none.
-/
import Derived.Test.YtbnicphegbdfnaaDFlush
namespace Go.Proofs.Ytbnicphegbdfnaa.DAlive
set_option maxRecDepth 100000
set_option maxRecDepth 100000
set_option maxRecDepth 100000
open Go Go.RowKit Go.Proofs.Ytbnicphegbdfnaa Go.Proofs.Ytbnicphegbdfnaa.Facts Go.Proofs.Ytbnicphegbdfnaa.Bytes Go.Proofs.Ytbnicphegbdfnaa.DKeep Go.Proofs.Ytbnicphegbdfnaa.DSmall Go.Proofs.Ytbnicphegbdfnaa.DTurn Go.Proofs.Ytbnicphegbdfnaa.DArm Go.Proofs.Ytbnicphegbdfnaa.DRead Go.Proofs.Ytbnicphegbdfnaa.DNew Go.Proofs.Ytbnicphegbdfnaa.DBuild Go.Proofs.Ytbnicphegbdfnaa.DWrite Go.Proofs.Ytbnicphegbdfnaa.DOver Go.Proofs.Ytbnicphegbdfnaa.DSettle Go.Proofs.Ytbnicphegbdfnaa.DFlush

theorem zero5 : (Try.prog.info? 5).map (fun i => (i.zero.map (·.cells), i.size, i.bytes)) = some (some #[.int .u8 0], 1, 1) := by kernel_rfl
theorem run_mk34 (u : World) : (Instr.makeSlice 23 (.int .i64 128) (.int .i64 128)).run Try.prog u = .ok (.slice (some ⟨u.heap.size, 0, none⟩) 128 128) (u.alloc (.cells (bv zsec).toArray 5)) := by
  cases hq : Try.prog.info? 5 with
  | none => have := zero5; simp [hq] at this
  | some i =>
    have h := zero5
    simp only [hq, Option.map_some, Option.some.injEq, Prod.mk.injEq] at h
    obtain ⟨h1, h2, h3⟩ := h
    cases hz : i.zero with
    | none => simp [hz] at h1
    | some z =>
      have hzc : z.cells = #[.int .u8 0] := by simpa [hz] using h1
      have hr := run_make (P := Try.prog) u 23 5 i z Try.underlying23 hq hz .i64 .i64 128 128 (by omega) (Int.le_refl _) (by rw [h3]; omega) (by omega)
      rw [hr, hzc, h2]
      have e : madeCells #[.int .u8 0] 128 = (bv zsec).toArray := by
        apply Array.ext'
        rw [toList_madeCells_one]
        unfold bv zsec
        rw [List.map_replicate]
        rfl
      rw [show (128 : Int).toNat * 1 = 128 from rfl, e]
      rfl

theorem grew_kept {w a b : World} {D : Nat → Prop} (h : Grew w a) (k : Kept D a b) (hd : ∀ j, D j → w.heap.size ≤ j) : Grew w b :=
  ⟨k.os.trans h.os, k.tape.trans h.tape, k.output.trans h.output, Nat.le_trans h.size k.size, fun j hj => (k.block j (Nat.lt_of_lt_of_le hj h.size) (fun hh => by have := hd j hh; omega)).trans (h.block j hj)⟩

theorem write_eq (w : World) (g : Nat) (D : Nat → Prop) (d : Pd) (n : Int) (v : Value) (S : Nat → Prop) (l : Sec) (d' : Pd) (q : Int) (h : DK w g D d) (hr : Rd S w v l) (hw : d.waits.length ≤ 1073741823) (he : DWrite.written d n l = (d', q)) :
    Calls Try.prog 32 #[.pointer (some ⟨g, 0, none⟩), .int .i64 n, v] w fun e w' => e = .returned (.int .i64 q) ∧ ∃ D', DK w' g D' d' ∧ (∀ k, D' k → D k ∨ w.heap.size ≤ k) ∧ Kept D w w' := by
  have := write_any w g D d n v S l h hr hw
  rwa [he] at this
theorem flush_eq (w : World) (g : Nat) (D : Nat → Prop) (d d' : Pd) (q : Int) (h : DK w g D d) (hw : d.waits.length ≤ 1073741824) (he : flushed d = (d', q)) :
    Calls Try.prog 20 #[.pointer (some ⟨g, 0, none⟩)] w fun e w' => e = .returned (.int .i64 q) ∧ DK w' g D d' ∧ Kept D w w' := by
  have := flush_any w g D d h hw
  rwa [he] at this
theorem read_eq (w : World) (g : Nat) (D : Nat → Prop) (d : Pd) (n : Int) (l : Sec) (q : Int) (h : DK w g D d) (he : readOf d n = (l, q)) :
    Calls Try.prog 19 #[.pointer (some ⟨g, 0, none⟩), .int .i64 n] w fun e w' => ∃ v', e = .returned (.tuple #[v', .int .i64 q]) ∧ Rd (fun b => w.heap.size ≤ b) w' v' l ∧ Grew w w' := by
  have := read_any w g D d n h
  rwa [he] at this
theorem new_eq (n : Nat) (x : Int) (hx : x = (n : Int)) (w : World) (h1 : 1 ≤ n) (h2 : n ≤ 16384) : Calls Try.prog 12 #[.int .i64 x] w fun e w' => ∃ g, e = .returned (.tuple #[.pointer (some ⟨g, 0, none⟩), .int .i64 0]) ∧ DK w' g (fun k => w.heap.size ≤ k ∧ k < w'.heap.size) (fresh n) ∧ Grew w w' := by
  subst hx
  exact new_any n w h1 h2
theorem lit_rd (w : World) (l : List UInt8) (hl : l.length ≤ maxLen) : Rd (fun b => b = w.heap.size) (w.alloc (.cells (bv l).toArray 5)) (.slice (some ⟨w.heap.size, 0, none⟩) l.length l.length) l := by
  refine ⟨some ⟨w.heap.size, 0, none⟩, l.length, rfl, Nat.le_refl _, hl, (fun h => by cases h), fun ad ha => ⟨fun _ => by cases ha; rfl, fun j u hu => ?_⟩⟩
  cases ha
  rw [Addr.add_mid, cell_of_row _ _ _ _ _ _ (heap_alloc_new w _), Nat.zero_add]
  simpa using hu
theorem shape {S : Nat → Prop} {w : World} {v : Value} {l : List UInt8} (h : Rd S w v l) (n : Nat) (hn : l.length = n) (hp : 0 < n) :
    ∃ ad c, v = .slice (some ad) n c ∧ n ≤ c ∧ c ≤ 9223372036854775807 ∧ ∀ k, k < n → ∀ b, l[k]?.getD 0 = b → w.cell? (ad.add k) = some (.int .u8 (b.toNat : Int)) := by
  subst hn
  obtain ⟨A, c, rfl, h1, h2, h3, h4⟩ := h
  unfold maxLen at h2
  cases A with
  | none => have := h3 rfl; omega
  | some ad => exact ⟨ad, c, rfl, h1, by omega, fun k hk b hb => by rw [← hb]; exact (h4 ad rfl).2 k _ (bv_get l k hk)⟩
/-- What is a disk's, is at or above b. -/
def Above (D : Nat → Prop) (b : Nat) : Prop := ∀ k, D k → b ≤ k
theorem above_sub {D D' : Nat → Prop} {b s : Nat} (h : Above D b) (hs : ∀ k, D' k → D k ∨ s ≤ k) (hb : b ≤ s) : Above D' b := fun k hk => by
  rcases hs k hk with h1 | h1
  · exact h k h1
  · exact Nat.le_trans hb h1

end Go.Proofs.Ytbnicphegbdfnaa.DAlive
