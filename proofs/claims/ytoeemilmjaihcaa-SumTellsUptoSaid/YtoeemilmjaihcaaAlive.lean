/-
  What must come of fixed calls of sums: it does.
  Conditions: none.
-/
import Derived.Test.YtoeemilmjaihcaaSum
import Derived.Lib.SlBytesConst
namespace Go.Proofs.Ytoeemilmjaihcaa.Alive
open Go Go.RowKit Go.Lib Go.Proofs.Ytoeemilmjaihcaa Go.Proofs.Ytoeemilmjaihcaa.Facts Go.Proofs.Ytoeemilmjaihcaa.Bytes Go.Proofs.Ytoeemilmjaihcaa.SumPure Go.Proofs.Ytoeemilmjaihcaa.Sum

theorem s1 : sumOf [49, 50, 51, 52, 53, 54, 55, 56, 57] = 3808858755#32 := by decide +kernel
theorem s2 : sumOn (sumOf [49, 50, 51, 52]) [53, 54, 55, 56, 57] = 3808858755#32 := by decide +kernel
theorem s3 : sumOf [] = 0#32 := by decide +kernel
theorem s4 : short (sumOf []) = 0 := by decide +kernel

theorem lit_rd (w : World) (l : List UInt8) (fr : Nat × Nat) (hl : l.length ≤ maxLen) : Rd (fun _ => True) (w.alloc (.cells (bv l).toArray 5 fr)) (.slice (some ⟨w.heap.size, 0, none⟩) l.length l.length) l := by
  refine ⟨some ⟨w.heap.size, 0, none⟩, l.length, rfl, Nat.le_refl _, hl, (fun h => by cases h), fun ad ha => ⟨fun _ => trivial, fun j u hu => ?_⟩⟩
  cases ha
  have e : (Addr.add ⟨w.heap.size, 0, none⟩ j) = ⟨w.heap.size, j, none⟩ := by
    unfold Addr.add
    split
    · rename_i h; subst h; rfl
    · simp
  rw [e, World.cell?_alloc_mark]
  simpa using hu

theorem of_lit (w : World) (l : List UInt8) (fr : Nat × Nat) (hl : l.length ≤ maxLen) (s : Int) (hs : ((sumOf l).toNat : Int) = s) :
    Calls Try.prog 8 #[.slice (some ⟨w.heap.size, 0, none⟩) l.length l.length] (w.alloc (.cells (bv l).toArray 5 fr)) fun e W' => e = .returned (.int .u32 s) ∧ Grew (w.alloc (.cells (bv l).toArray 5 fr)) W' := by
  subst hs
  exact of_any _ _ l _ (lit_rd w l fr hl)
theorem on_lit (r : BitVec 32) (w : World) (l : List UInt8) (fr : Nat × Nat) (hl : l.length ≤ maxLen) (s : Int) (hs : ((sumOn r l).toNat : Int) = s) :
    Calls Try.prog 12 #[.int .u32 (r.toNat : Int), .slice (some ⟨w.heap.size, 0, none⟩) l.length l.length] (w.alloc (.cells (bv l).toArray 5 fr)) fun e W' => e = .returned (.int .u32 s) ∧ Grew (w.alloc (.cells (bv l).toArray 5 fr)) W' := by
  subst hs
  exact on_any _ r _ l _ (lit_rd w l fr hl)

theorem a1 (w : World) : Calls Try.prog 8 #[.slice (some ⟨w.heap.size, 0, none⟩) 9 9] (w.alloc (.cells #[.int .u8 49, .int .u8 50, .int .u8 51, .int .u8 52, .int .u8 53, .int .u8 54, .int .u8 55, .int .u8 56, .int .u8 57] 5 (9, 10))) fun e W' => e = .returned (.int .u32 3808858755) ∧ Grew w W' := by
  refine (of_lit w [49, 50, 51, 52, 53, 54, 55, 56, 57] (9, 10) (by decide) 3808858755 (by rw [s1]; rfl)).mono fun e W' ⟨h, hg⟩ => ⟨h, Grew.trans (by unfold Grew; go_grown) hg⟩
theorem a2 (w : World) : Calls Try.prog 8 #[.slice (some ⟨w.heap.size, 0, none⟩) 4 4] (w.alloc (.cells #[.int .u8 49, .int .u8 50, .int .u8 51, .int .u8 52] 5 (4, 5))) fun e W' => e = .returned (.int .u32 ((sumOf [49, 50, 51, 52]).toNat : Int)) ∧ Grew w W' := by
  refine (of_lit w [49, 50, 51, 52] (4, 5) (by decide) _ rfl).mono fun e W' ⟨h, hg⟩ => ⟨h, Grew.trans (by unfold Grew; go_grown) hg⟩
theorem a3 (w : World) : Calls Try.prog 12 #[.int .u32 ((sumOf [49, 50, 51, 52]).toNat : Int), .slice (some ⟨w.heap.size, 0, none⟩) 5 5] (w.alloc (.cells #[.int .u8 53, .int .u8 54, .int .u8 55, .int .u8 56, .int .u8 57] 5 (5, 6))) fun e W' => e = .returned (.int .u32 3808858755) ∧ Grew w W' := by
  refine (on_lit (sumOf [49, 50, 51, 52]) w [53, 54, 55, 56, 57] (5, 6) (by decide) 3808858755 (by rw [s2]; rfl)).mono fun e W' ⟨h, hg⟩ => ⟨h, Grew.trans (by unfold Grew; go_grown) hg⟩
theorem a4 (w : World) : Calls Try.prog 8 #[.slice none 0 0] w fun e W' => e = .returned (.int .u32 0) ∧ Grew w W' := by
  have := of_any (fun _ => True) (.slice none 0 0) [] w (Rd.nil _ _)
  rw [s3] at this
  exact this
theorem a5 (w : World) : Calls Try.prog 10 #[.slice none 0 0] w fun e W' => e = .returned (.int .u16 0) ∧ Grew w W' := by
  have := short_any (fun _ => True) (.slice none 0 0) [] w (Rd.nil _ _)
  rw [s4] at this
  exact this

theorem alive_any (w : World) : Calls Try.prog 7 #[] w fun e W' => e = .returned (.bool true) ∧ Grew w W' := by
  have kc := fun (w : World) (C : Array Value) (n c : Nat) => Lib.run_convert_bytes_const (P := Try.prog) w 22 5 C n c Try.underlying22 Try.underlying5
  go_enter Try.func7, Try.ntmps7
  go_wp2_with fail
  refine (a1 _).mono ?_
  rintro e W1 ⟨rfl, g1⟩
  go_wp2_with fail
  generalize hx : ((sumOf [49, 50, 51, 52]).toNat : Int) = x
  have a2' := a2
  have a3' := a3
  rw [hx] at a2' a3'
  refine (a2' _).mono ?_
  rintro e W2 ⟨rfl, g2⟩
  go_wp2_with fail
  refine (a3' _).mono ?_
  rintro e W3 ⟨rfl, g3⟩
  go_wp2_with fail
  refine (a4 _).mono ?_
  rintro e W4 ⟨rfl, g4⟩
  go_wp2_with fail
  refine (a5 _).mono ?_
  rintro e W5 ⟨rfl, g5⟩
  go_wp2
  go_returns
  exact ⟨rfl, (((g1.trans g2).trans g3).trans g4).trans g5⟩
end Go.Proofs.Ytoeemilmjaihcaa.Alive
