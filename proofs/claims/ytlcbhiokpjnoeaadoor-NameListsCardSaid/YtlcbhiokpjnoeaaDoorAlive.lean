/-
  What must come of fixed calls on names and texts: it does.
  Conditions: none.
-/
import Derived.Test.YtlcbhiokpjnoeaaDoorApart
namespace Go.Proofs.YtlcbhiokpjnoeaaDoor.Alive
open Go Go.RowKit Go.Proofs.YtlcbhiokpjnoeaaDoor Go.Proofs.YtlcbhiokpjnoeaaDoor.Facts Go.Proofs.YtlcbhiokpjnoeaaDoor.Chars Go.Proofs.YtlcbhiokpjnoeaaDoor.Texts Go.Proofs.YtlcbhiokpjnoeaaDoor.Pure Go.Proofs.YtlcbhiokpjnoeaaDoor.Calls_ Go.Proofs.YtlcbhiokpjnoeaaDoor.Apart

theorem cellG {w w' : World} {a : Addr} {v : Value} (hg : Grew w w') (h : w.cell? a = some v) : w'.cell? a = some v :=
  (hg.cell (World.block_lt_of_cell? _ _ h)).trans h
theorem r1 (w : World) : Calls Tryd.prog 7 #[.string ⟨#[114, 105, 97, 108, 116, 111, 50]⟩] w fun e w' => e = .returned (.bool true) ∧ w' = w := by
  have h := right_any ⟨#[114, 105, 97, 108, 116, 111, 50]⟩ (by decide) w
  rw [show right (⟨#[114, 105, 97, 108, 116, 111, 50]⟩ : ByteArray).data.toList = true from by decide +kernel] at h
  exact h
theorem r2 (w : World) : Calls Tryd.prog 7 #[.string ⟨#[50, 114, 105, 97, 108, 116, 111]⟩] w fun e w' => e = .returned (.bool false) ∧ w' = w := by
  have h := right_any ⟨#[50, 114, 105, 97, 108, 116, 111]⟩ (by decide) w
  rw [show right (⟨#[50, 114, 105, 97, 108, 116, 111]⟩ : ByteArray).data.toList = false from by decide +kernel] at h
  exact h
theorem r3 (w : World) : Calls Tryd.prog 7 #[.string ⟨#[]⟩] w fun e w' => e = .returned (.bool false) ∧ w' = w := by
  have h := right_any ⟨#[]⟩ (by decide) w
  rw [show right (⟨#[]⟩ : ByteArray).data.toList = false from by decide +kernel] at h
  exact h
theorem t1 (w : World) : Calls Tryd.prog 9 #[.string ⟨#[97, 32, 98]⟩] w fun e w' => e = .returned (.bool true) ∧ w' = w := by
  have h := text_any ⟨#[97, 32, 98]⟩ (by decide) w
  rw [show text (⟨#[97, 32, 98]⟩ : ByteArray).data.toList = true from by decide +kernel] at h
  exact h
theorem t2 (w : World) : Calls Tryd.prog 9 #[.string ⟨#[97, 32]⟩] w fun e w' => e = .returned (.bool false) ∧ w' = w := by
  have h := text_any ⟨#[97, 32]⟩ (by decide) w
  rw [show text (⟨#[97, 32]⟩ : ByteArray).data.toList = false from by decide +kernel] at h
  exact h
theorem c1 (w : World) : Calls Tryd.prog 11 #[.string ⟨#[32, 32, 97, 10, 98, 32]⟩] w fun e w' => e = .returned (.string ⟨#[97, 98]⟩) ∧ Grew w w' := by
  have h := clean_any ⟨#[32, 32, 97, 10, 98, 32]⟩ (by decide) w
  rw [show clean (⟨#[32, 32, 97, 10, 98, 32]⟩ : ByteArray).data.toList = [97, 98] from by decide +kernel] at h
  exact h

/-- The list of three texts, as it lies. -/
def Three (w : World) (b : Nat) : Prop := w.cell? ⟨b, 0, none⟩ = some (.string ⟨#[97]⟩) ∧ w.cell? ⟨b, 1, none⟩ = some (.string ⟨#[98]⟩) ∧ w.cell? ⟨b, 2, none⟩ = some (.string ⟨#[97]⟩)
theorem Three.grow {w w' : World} {b : Nat} (h : Three w b) (hg : Grew w w') : Three w' b := ⟨cellG hg h.1, cellG hg h.2.1, cellG hg h.2.2⟩
theorem three_cells {w : World} {b : Nat} (h : Three w b) : ∀ j, j < ([⟨#[97]⟩, ⟨#[98]⟩, ⟨#[97]⟩] : List ByteArray).length → w.cell? ⟨b, 0 + j, none⟩ = some (.string (([⟨#[97]⟩, ⟨#[98]⟩, ⟨#[97]⟩] : List ByteArray).getD j ByteArray.empty)) := fun j hj => by
  have : j = 0 ∨ j = 1 ∨ j = 2 := by simp at hj; omega
  rcases this with rfl | rfl | rfl
  · exact h.1
  · exact h.2.1
  · exact h.2.2
theorem two_cells {w : World} {b : Nat} (h : Three w b) : ∀ j, j < ([⟨#[98]⟩, ⟨#[97]⟩] : List ByteArray).length → w.cell? ⟨b, 1 + j, none⟩ = some (.string (([⟨#[98]⟩, ⟨#[97]⟩] : List ByteArray).getD j ByteArray.empty)) := fun j hj => by
  have : j = 0 ∨ j = 1 := by simp at hj; omega
  rcases this with rfl | rfl
  · exact h.2.1
  · exact h.2.2
theorem i1 (w : World) (b : Nat) (h : Three w b) : Calls Tryd.prog 13 #[.slice (some ⟨b, 0, none⟩) 3 3, .string ⟨#[98]⟩] w fun e w' => e = .returned (.int .i64 1) ∧ w' = w := by
  have := index_any w b 0 3 3 [⟨#[97]⟩, ⟨#[98]⟩, ⟨#[97]⟩] ⟨#[98]⟩ rfl (by decide) (three_cells h)
  rw [ix1] at this
  exact this
theorem i2 (w : World) (b : Nat) (h : Three w b) : Calls Tryd.prog 13 #[.slice (some ⟨b, 0, none⟩) 3 3, .string ⟨#[99]⟩] w fun e w' => e = .returned (.int .i64 (-1)) ∧ w' = w := by
  have := index_any w b 0 3 3 [⟨#[97]⟩, ⟨#[98]⟩, ⟨#[97]⟩] ⟨#[99]⟩ rfl (by decide) (three_cells h)
  rw [ix2] at this
  exact this
theorem a1 (w : World) (b : Nat) (h : Three w b) : Calls Tryd.prog 15 #[.slice (some ⟨b, 0, none⟩) 3 3] w fun e w' => e = .returned (.bool false) ∧ Grew w w' := by
  have := apart_any w b 0 3 3 [⟨#[97]⟩, ⟨#[98]⟩, ⟨#[97]⟩] rfl (by decide) (by decide) (three_cells h)
  rw [ap3] at this
  exact this
theorem a2 (w : World) (b : Nat) (h : Three w b) : Calls Tryd.prog 15 #[.slice (some ⟨b, 1, none⟩) 2 2] w fun e w' => e = .returned (.bool true) ∧ Grew w w' := by
  have := apart_any w b 1 2 2 [⟨#[98]⟩, ⟨#[97]⟩] rfl (by decide) (by decide) (two_cells h)
  rw [ap2] at this
  exact this

set_option maxRecDepth 100000 in
theorem alive_any (w : World) : Calls Tryd.prog 6 #[] w fun e W' => e = .returned (.bool true) ∧ Grew w W' := by
  have HT : Hid (Three (w.alloc (.cells #[.string ⟨#[97]⟩, .string ⟨#[98]⟩, .string ⟨#[97]⟩] 9)) w.heap.size) := Lib.hid ⟨World.cell?_alloc_mark _ _ _ _ _, World.cell?_alloc_mark _ _ _ _ _, World.cell?_alloc_mark _ _ _ _ _⟩
  have HG : Hid (Grew w (w.alloc (.cells #[.string ⟨#[97]⟩, .string ⟨#[98]⟩, .string ⟨#[97]⟩] 9))) := Lib.hid (by unfold Grew; go_grown)
  go_enter Tryd.func6, Tryd.ntmps6
  go_wp2_with fail
  refine (r1 _).mono ?_
  rintro e w1 ⟨rfl, hw⟩
  subst hw
  go_wp2_with fail
  refine (r2 _).mono ?_
  rintro e w1 ⟨rfl, hw⟩
  subst hw
  go_wp2_with fail
  refine (r3 _).mono ?_
  rintro e w1 ⟨rfl, hw⟩
  subst hw
  go_wp2_with fail
  refine (t1 _).mono ?_
  rintro e w1 ⟨rfl, hw⟩
  subst hw
  go_wp2_with fail
  refine (t2 _).mono ?_
  rintro e w1 ⟨rfl, hw⟩
  subst hw
  go_wp2_with fail
  refine (i1 _ _ HT.out).mono ?_
  rintro e w1 ⟨rfl, hw⟩
  subst hw
  go_wp2_with fail
  refine (i2 _ _ HT.out).mono ?_
  rintro e w1 ⟨rfl, hw⟩
  subst hw
  go_wp2_with fail
  refine (a1 _ _ HT.out).mono ?_
  rintro e w2 ⟨rfl, h2⟩
  replace HT := Lib.hid (HT.out.grow h2)
  replace HG := Lib.hid (HG.out.trans h2)
  clear h2
  go_wp2_with fail
  refine (a2 _ _ HT.out).mono ?_
  rintro e w3 ⟨rfl, h3⟩
  replace HG := Lib.hid (HG.out.trans h3)
  clear h3
  go_wp2_with fail
  refine (c1 _).mono ?_
  rintro e w4 ⟨rfl, h4⟩
  go_wp2
  go_returns
  exact ⟨rfl, HG.out.trans h4⟩
end Go.Proofs.YtlcbhiokpjnoeaaDoor.Alive
