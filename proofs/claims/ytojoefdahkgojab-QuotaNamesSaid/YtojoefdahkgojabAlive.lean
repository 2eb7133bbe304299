/-
  What must come of fixed calls on rows: it does. And the first of the laws: of any row all is told.
  Conditions: a row's size.
-/
import Derived.Test.YtojoefdahkgojabRefs
namespace Go.Proofs.Ytojoefdahkgojab.Alive
open Go Go.RowKit Go.Lib Go.Proofs.Ytojoefdahkgojab Go.Proofs.Ytojoefdahkgojab.Facts Go.Proofs.Ytojoefdahkgojab.Bytes Go.Proofs.Ytojoefdahkgojab.Ints Go.Proofs.Ytojoefdahkgojab.Slot Go.Proofs.Ytojoefdahkgojab.Row Go.Proofs.Ytojoefdahkgojab.Refs

theorem is_lit (w : World) (l : List Int) (hl : l.length ≤ maxLen) : Is (w.alloc (.cells (iv l).toArray 3)) (.slice (some ⟨w.heap.size, 0, none⟩) l.length l.length) l := by
  refine ⟨_, l.length, rfl, Nat.le_refl _, hl, (fun h => by cases h), fun ad ha j u hu => ?_⟩
  cases ha
  rw [WideShapes.add_plain, Nat.zero_add, World.cell?_alloc_mark]
  simpa using hu
theorem grew_lit (w : World) (l : List Int) : Grew w (w.alloc (.cells (iv l).toArray 3)) := by unfold Grew; go_grown
theorem o1 (w : World) : Calls Try.prog 6 #[.slice (some ⟨w.heap.size, 0, none⟩) 3 3, .func (.func 7) #[] #[]] (w.alloc (.cells #[.int .i64 5, .int .i64 0, .int .i64 7] 3)) fun e w' => ∃ b, e = .returned (.pointer (some ⟨b, 0, none⟩)) ∧ Row w' b [5, 0, 7] ∧ Grew w w' :=
  (of_any _ _ [5, 0, 7] (is_lit w [5, 0, 7] (by decide)) (by decide)).mono fun _ _ ⟨b, he, hr, hg⟩ => ⟨b, he, hr, (grew_lit w [5, 0, 7]).trans hg⟩
theorem o2 (w : World) : Calls Try.prog 6 #[.slice (some ⟨w.heap.size, 0, none⟩) 1 1, .func (.func 7) #[] #[]] (w.alloc (.cells #[.int .i64 1] 3)) fun e w' => ∃ b, e = .returned (.pointer (some ⟨b, 0, none⟩)) ∧ Row w' b [1] ∧ Grew w w' :=
  (of_any _ _ [1] (is_lit w [1] (by decide)) (by decide)).mono fun _ _ ⟨b, he, hr, hg⟩ => ⟨b, he, hr, (grew_lit w [1]).trans hg⟩
theorem f1 (w : World) (b : Nat) (h : Row w b [5, 0, 7]) : Calls Try.prog 8 #[.pointer (some ⟨b, 0, none⟩)] w fun e w' => e = .returned (.tuple #[.int .i64 1, .int .i64 0]) ∧ Grew w w' := first_any w b _ h
theorem d1 (w : World) (b : Nat) (h : Row w b [5, 0, 7]) : Calls Try.prog 12 #[.pointer (some ⟨b, 0, none⟩), .int .i64 9] w fun e w' => ∃ g c, e = .returned (.tuple #[.slice (some ⟨g, 0, none⟩) 3 c, .int .i64 1, .int .i64 0]) ∧ w'.cell? ⟨g, 1, none⟩ = some (.int .i64 9) ∧ Grew w w' := by
  refine (add_in w b [5, 0, 7] 1 9 h (by decide) (by decide)).mono ?_
  rintro e w' ⟨v', rfl, hown, hg⟩
  obtain ⟨g, cap, rfl, _⟩ := hown.form (by decide)
  exact ⟨g, cap, rfl, hown.cellAt 1 (by decide), hg⟩
theorem p1 (w : World) (b : Nat) (h : Row w b [5, 0, 7]) : Calls Try.prog 10 #[.pointer (some ⟨b, 0, none⟩), .int .i64 3, .int .i64 1] w fun e w' => e = .returned (.tuple #[.slice none 0 0, .int .i64 1]) ∧ w' = w := put_out w b _ 3 1 h (by decide)
theorem d2 (w : World) (b : Nat) (h : Row w b [1]) : Calls Try.prog 12 #[.pointer (some ⟨b, 0, none⟩), .int .i64 2] w fun e w' => e = .returned (.tuple #[.slice none 0 0, .int .i64 0, .int .i64 8]) ∧ Grew w w' := add_full w b _ 2 h (by decide)
theorem c1 (w : World) (b : Nat) (h : Row w b [5, 0, 7]) : Calls Try.prog 17 #[.pointer (some ⟨b, 0, none⟩)] w fun e w' => e = .returned (.int .i64 2) ∧ Grew w w' := count_any w b _ h (by decide)
theorem h2 (w : World) (b : Nat) (h : Row w b [5, 0, 7]) : Calls Try.prog 18 #[.pointer (some ⟨b, 0, none⟩), .int .i64 2] w fun e w' => e = .returned (.bool true) ∧ Grew w w' := has_in w b _ 2 h (by decide)
theorem h1 (w : World) (b : Nat) (h : Row w b [5, 0, 7]) : Calls Try.prog 18 #[.pointer (some ⟨b, 0, none⟩), .int .i64 1] w fun e w' => e = .returned (.bool false) ∧ Grew w w' := has_in w b _ 1 h (by decide)

set_option maxRecDepth 100000 in
set_option maxHeartbeats 2000000 in
theorem alive_any (w : World) : Calls Try.prog 14 #[] w fun e w' => e = .returned (.bool true) ∧ Grew w w' := by
  go_enter Try.func14, Try.ntmps14
  go_wp2_with fail
  refine (o1 _).mono ?_
  rintro e w1 ⟨b, rfl, hr, hg⟩
  have HR := Lib.hid hr
  have G0 := Lib.hid hg
  have G1 := Lib.hid (Grew.refl w1)
  clear hr hg
  go_wp2_with fail
  refine (f1 _ _ (HR.out.grew G1.out)).mono ?_
  rintro e w2 ⟨rfl, hg⟩
  have G2 := Lib.hid (G1.out.trans hg)
  clear hg
  go_wp2_with fail
  refine (d1 _ _ (HR.out.grew G2.out)).mono ?_
  rintro e w3 ⟨g, c, rfl, hcell, hg⟩
  have HC := Lib.hid hcell
  clear hcell
  have G3 := Lib.hid (G2.out.trans hg)
  clear hg
  go_wp2_with fail
  refine (p1 _ _ (HR.out.grew G3.out)).mono ?_
  rintro e w4 ⟨rfl, hw⟩
  subst hw
  have G4 := G3
  go_wp2_with fail
  refine (o2 _).mono ?_
  rintro e w5 ⟨b2, rfl, hr, hg⟩
  have HR2 := Lib.hid hr
  clear hr
  have G5 := Lib.hid (G4.out.trans hg)
  have K5 := Lib.hid hg
  clear hg
  go_wp2_with fail
  refine (d2 _ _ HR2.out).mono ?_
  rintro e w6 ⟨rfl, hg⟩
  have G6 := Lib.hid (G5.out.trans hg)
  have K6 := Lib.hid (K5.out.trans hg)
  clear hg
  go_wp2_with fail
  refine (first_nil _).mono ?_
  rintro e w7 ⟨rfl, hw⟩
  subst hw
  have G7 := G6
  have hcell := cellG K6.out HC.out
  go_wp2_with fail
  refine (c1 _ _ (HR.out.grew G7.out)).mono ?_
  rintro e w8 ⟨rfl, hg⟩
  clear hcell
  have G8 := Lib.hid (G7.out.trans hg)
  clear hg
  go_wp2_with fail
  refine (h2 _ _ (HR.out.grew G8.out)).mono ?_
  rintro e w9 ⟨rfl, hg⟩
  have G9 := Lib.hid (G8.out.trans hg)
  clear hg
  go_wp2_with fail
  refine (h1 _ _ (HR.out.grew G9.out)).mono ?_
  rintro e w10 ⟨rfl, hg⟩
  have G10 := Lib.hid (G9.out.trans hg)
  clear hg
  go_wp2_with fail
  refine (of_nil _ _).mono ?_
  rintro e w11 ⟨rfl, hw⟩
  subst hw
  have G11 := G10
  go_wp2_with fail
  refine (slots_nil _).mono ?_
  rintro e w12 ⟨rfl, hw⟩
  subst hw
  go_wp2
  go_returns
  exact ⟨rfl, G0.out.trans G11.out⟩
end Go.Proofs.Ytojoefdahkgojab.Alive
