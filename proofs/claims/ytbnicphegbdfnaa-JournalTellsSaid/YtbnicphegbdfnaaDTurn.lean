/-
  What turns a disk's fuse and power, and what reads a sector: burn, Fuse, Read.
  Conditions: those that each lemma names.
-/
import Derived.Test.YtbnicphegbdfnaaDSmall
namespace Go.Proofs.Ytbnicphegbdfnaa.DTurn
set_option maxRecDepth 100000
set_option maxRecDepth 100000
set_option maxRecDepth 100000
open Go Go.RowKit Go.Proofs.Ytbnicphegbdfnaa Go.Proofs.Ytbnicphegbdfnaa.Facts Go.Proofs.Ytbnicphegbdfnaa.Bytes Go.Proofs.Ytbnicphegbdfnaa.DKeep Go.Proofs.Ytbnicphegbdfnaa.DSmall

/-- The disk's own block is turned. -/
theorem DKat.turned {w w' : World} {g a b ca cb : Nat} {vw vw' : Value} {d d' : Pd} (h : DKat w g a b ca cb vw d) (hk : ∀ k, k ≠ g → w'.heap[k]? = w.heap[k]?)
    (hg : w'.heap[g]? = some (.cells #[.slice (some ⟨a, 0, none⟩) d'.safe.length ca, .slice (some ⟨b, 0, none⟩) d'.safe.length cb, vw', .int .i64 d'.fuse, .bool d'.off] 104 (0, 0)))
    (h1 : d'.safe = d.safe) (h2 : d'.last = d.last) (h3 : (vw' = vw ∧ d'.waits = d.waits) ∨ (vw' = .slice none 0 0 ∧ d'.waits = [])) (hf : -1 ≤ d'.fuse ∧ d'.fuse ≤ 9223372036854775807) : DKat w' g a b ca cb vw' d' := by
  have hs : RowAt w' a d'.safe := by rw [h1]; exact h.safe.keep (hk a (Ne.symm h.ga))
  have hl : RowAt w' b d'.last := by rw [h2]; exact h.last.keep (hk b (Ne.symm h.gb))
  rcases h3 with ⟨rfl, h3⟩ | ⟨rfl, h3⟩
  · exact ⟨hg, hs, hl, by rw [h3]; exact own_keep h.waits fun k e => hk k (fun e2 => h.gw (by rw [e, e2])), h.ga, h.gb, h.ab, h.gw, h.aw, h.bw,
      ⟨by rw [h1]; exact h.ok.n1, by rw [h1]; exact h.ok.n2, by rw [h1, h2]; exact h.ok.same, by rw [h1]; exact h.ok.es, by rw [h2]; exact h.ok.el, by rw [h1, h3]; exact h.ok.fit, hf.1, hf.2⟩, by rw [h1]; exact h.ca1, h.ca2, by rw [h1]; exact h.cb1, h.cb2⟩
  · exact ⟨hg, hs, hl, by rw [h3]; exact World.ownsRow_nil _ _ _ _, h.ga, h.gb, h.ab, by simp [Value.ownBlock], by simp [Value.ownBlock], by simp [Value.ownBlock],
      ⟨by rw [h1]; exact h.ok.n1, by rw [h1]; exact h.ok.n2, by rw [h1, h2]; exact h.ok.same, by rw [h1]; exact h.ok.es, by rw [h2]; exact h.ok.el, by rw [h3]; exact fun p hp => by simp at hp, hf.1, hf.2⟩, by rw [h1]; exact h.ca1, h.ca2, by rw [h1]; exact h.cb1, h.cb2⟩

def blown (d : Pd) : Pd × Int := if d.fuse = -1 then (d, 0) else if d.fuse = 0 then ({ d with off := true }, 15) else ({ d with fuse := d.fuse - 1 }, 0)

theorem burn_any (w : World) (g : Nat) (D : Nat → Prop) (d : Pd) (h : DK w g D d) : Calls Try.prog 61 #[dptr g] w fun e w' => e = .returned (.int .i64 (blown d).2) ∧ DK w' g D (blown d).1 ∧ Kept D w w' := by
  have HD := Lib.hid h
  obtain ⟨hD, a, b, ca, cb, vw, h, hin⟩ := h
  obtain ⟨_, _, _, c3, _⟩ := h.cells
  have f3 := frozen_of_row w g 3 _ _ h.blk
  have f4 := frozen_of_row w g 4 _ _ h.blk
  have hf1 := h.ok.f1
  have hf2 := h.ok.f2
  have HA := Lib.hid h
  have HI := Lib.hid hin
  have HL := Lib.hid hD
  clear h hin hD
  unfold dptr blown
  by_cases e1 : d.fuse = -1
  · rw [if_pos e1]
    rw [e1] at c3
    clear e1 f3 f4 hf1 hf2
    go_enter Try.func61, Try.ntmps61
    go_wp2
    go_ret
    exact ⟨rfl, HD.out, Kept.refl _ _⟩
  · rw [if_neg e1]
    by_cases e2 : d.fuse = 0
    · rw [if_pos e2]
      have c4 := HA.out.cells.2.2.2.2
      rw [e2] at c3
      have E2 := Lib.hid e2
      clear e1 e2 hf1 hf2
      go_enter Try.func61, Try.ntmps61
      go_wp2
      go_ret
      refine ⟨rfl, ⟨fun k hk => by simpa [World.setCell] using HL.out k hk, a, b, ca, cb, vw, ?_, HI.out⟩, Kept.set _ _ HI.out.g⟩
      refine DKat.turned HA.out (fun k hk => heap_setCell_other w ⟨g, 4, none⟩ k _ hk) ?_ rfl rfl (.inl ⟨rfl, rfl⟩) ⟨HA.out.ok.f1, HA.out.ok.f2⟩
      rw [heap_setCell_same _ _ _ _ _ _ HA.out.blk]
      rfl
    · rw [if_neg e2]
      have hw : IntKind.i64.wrap (d.fuse - 1) = d.fuse - 1 := IntWalk.i64_in _ (by omega)
      have E1 := Lib.hid e1
      have E2 := Lib.hid e2
      go_enter Try.func61, Try.ntmps61
      go_wp2
      go_ret
      refine ⟨rfl, ⟨fun k hk => by simpa [World.setCell] using HL.out k hk, a, b, ca, cb, vw, ?_, HI.out⟩, Kept.set _ _ HI.out.g⟩
      refine DKat.turned HA.out (fun k hk => heap_setCell_other w ⟨g, 3, none⟩ k _ hk) ?_ rfl rfl (.inl ⟨rfl, rfl⟩) ⟨by show -1 ≤ d.fuse - 1; omega, by show d.fuse - 1 ≤ _; omega⟩
      rw [heap_setCell_same _ _ _ _ _ _ HA.out.blk]
      rfl

def fused (d : Pd) (n : Int) : Pd := { d with fuse := max n (-1) }
theorem fuse_any (w : World) (g : Nat) (D : Nat → Prop) (d : Pd) (n : Int) (hn : n ≤ 9223372036854775807) (h : DK w g D d) : Calls Try.prog 30 #[dptr g, .int .i64 n] w fun e w' => e = .returned (.tuple #[]) ∧ DK w' g D (fused d n) ∧ Kept D w w' := by
  have HD := Lib.hid h
  obtain ⟨hD, a, b, ca, cb, vw, h, hin⟩ := h
  obtain ⟨_, _, _, c3, _⟩ := h.cells
  have f3 := frozen_of_row w g 3 _ _ h.blk
  have HA := Lib.hid h
  have HI := Lib.hid hin
  have HL := Lib.hid hD
  have HM := Lib.hid (made_any w g D d HD.out)
  clear h hin hD
  unfold dptr at HM ⊢
  go_enter Try.func30, Try.ntmps30
  go_wp2_with fail
  refine HM.out.mono ?_
  rintro e w' ⟨rfl, rfl⟩
  go_wp2
  all_goals
    go_end0
    refine ⟨rfl, ⟨fun k hk => by simpa [World.setCell] using HL.out k hk, a, b, ca, cb, vw, ?_, HI.out⟩, Kept.set _ _ HI.out.g⟩
    refine DKat.turned HA.out (fun k hk => heap_setCell_other w ⟨g, 3, none⟩ k _ hk) ?_ rfl rfl (.inl ⟨rfl, rfl⟩) ⟨by show -1 ≤ max n (-1); omega, by show max n (-1) ≤ _; omega⟩
    rw [heap_setCell_same _ _ _ _ _ _ HA.out.blk]
    unfold fused
    first | rfl | (congr 2; simp; omega)
end Go.Proofs.Ytbnicphegbdfnaa.DTurn
