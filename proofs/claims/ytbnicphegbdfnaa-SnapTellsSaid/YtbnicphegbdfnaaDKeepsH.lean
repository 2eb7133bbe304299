/-
  What the law of the kept writes needs.
  Conditions: none beyond those that each lemma names.
-/
import Derived.Test.YtbnicphegbdfnaaDKeepsP
namespace Go.Proofs.Ytbnicphegbdfnaa.DKeepsH
set_option maxRecDepth 100000
set_option maxRecDepth 100000
open Go Go.RowKit Go.Proofs.Ytbnicphegbdfnaa Go.Proofs.Ytbnicphegbdfnaa.Facts Go.Proofs.Ytbnicphegbdfnaa.Bytes Go.Proofs.Ytbnicphegbdfnaa.DKeep Go.Proofs.Ytbnicphegbdfnaa.DSmall Go.Proofs.Ytbnicphegbdfnaa.DTurn Go.Proofs.Ytbnicphegbdfnaa.DArm Go.Proofs.Ytbnicphegbdfnaa.DRead Go.Proofs.Ytbnicphegbdfnaa.DNew Go.Proofs.Ytbnicphegbdfnaa.DBuild Go.Proofs.Ytbnicphegbdfnaa.DWrite Go.Proofs.Ytbnicphegbdfnaa.DOver Go.Proofs.Ytbnicphegbdfnaa.DSettle Go.Proofs.Ytbnicphegbdfnaa.DFlush Go.Proofs.Ytbnicphegbdfnaa.DAlive Go.Proofs.Ytbnicphegbdfnaa.DOpens Go.Proofs.Ytbnicphegbdfnaa.DKeepsP

theorem conv34 {S : Nat → Prop} {w : World} {v : Value} {l : List UInt8} (h : Rd S w v l) : (convert 23 9 v).run Try.prog w = .ok (.string ⟨l.toArray⟩) w :=
  run_toString w Try.underlying23 Try.underlying5 Try.underlying9 h
theorem sub_rd {S : Nat → Prop} {w : World} {ad : Addr} {n c : Nat} {l : List UInt8} (h : Rd S w (.slice (some ad) n c) l) (hl : l.length = n) (o m c' : Nat) (hom : o + m ≤ n) (h1 : m ≤ c') (h2 : c' ≤ 9223372036854775807) : Rd S w (.slice (some (ad.add o)) m c') ((l.drop o).take m) := by
  obtain ⟨A', c0, e, q1, q2, q3, q4⟩ := h
  injection e with e1 _ e3
  subst e1
  have hlen : ((l.drop o).take m).length = m := by rw [List.length_take, List.length_drop]; omega
  refine ⟨_, c', by rw [hlen], by rw [hlen]; exact h1, by unfold maxLen; omega, (fun h => by cases h), fun ad' hA => ?_⟩
  cases hA
  refine ⟨fun hne => ?_, fun j u hu => ?_⟩
  · have : l ≠ [] := fun e => hne (by rw [e]; simp)
    have hb := (q4 ad rfl).1 this
    unfold Addr.add
    split <;> exact hb
  · have hb : bv ((l.drop o).take m) = ((bv l).drop o).take m := by simp [bv, List.map_take, List.map_drop]
    rw [hb, List.getElem?_take] at hu
    split at hu
    · rw [List.getElem?_drop] at hu
      rw [Go.Deep.add_add]
      exact (q4 ad rfl).2 _ u hu
    · cases hu
theorem wrap8 (t : Nat) (h : t < 16) : IntKind.i64.wrap (8 * (t : Int) + 8) = 8 * (t : Int) + 8 := by
  have : ∀ t : Fin 16, IntKind.i64.wrap (8 * ((t : Nat) : Int) + 8) = 8 * ((t : Nat) : Int) + 8 := by decide
  exact this ⟨t, h⟩
theorem wins {b l : List UInt8} {k t : Nat} (h : ∀ j, j < 8 * k → b[j]? = l[j]?) (ht : t < k) : (b.drop (8 * t)).take 8 = (l.drop (8 * t)).take 8 := by
  refine List.ext_getElem? fun j => ?_
  rw [List.getElem?_take, List.getElem?_take]
  split
  · rw [List.getElem?_drop, List.getElem?_drop]
    exact h _ (by omega)
  · rfl
theorem lists_ne {C L : List UInt8} (h : ¬ C = L) : (C == L) = false := by simpa using h
theorem last_even {w : World} {g : Nat} {D : Nat → Prop} {d : Pd} (h : DK w g D d) : ∀ B ∈ d.last, B.length = 128 := by
  obtain ⟨_, _, _, _, _, _, h0, _⟩ := h
  exact fun B hB => h0.ok.el B hB

/-- The one write within a region. -/
structure JW (W0 : World) (g : Nat) (D : Nat → Prop) (d d' : Pd) (m : Nat → Bool) (_u : Nat → Value) (w : World) : Prop where
  kept : Kept D W0 w
  bef : m 11 = false → Grew W0 w
  aft : m 11 = true → ∃ D', DK w g D' d' ∧ (∀ k, D' k → D k ∨ W0.heap.size ≤ k)
section
variable {W0 : World} {g : Nat} {D : Nat → Prop} {d d' : Pd} {m : Nat → Bool} {u : Nat → Value} {w : World}
theorem JW.start (W0 : World) : JW W0 g D d d' (fun _ => false) (fun _ => undef) W0.drew :=
  ⟨(Kept.refl D W0).drew, fun _ => (Grew.refl W0).drew, fun h => by cases h⟩
theorem JW.keep (h : JW W0 g D d d' m u w) (k : Nat) (v : Value) (hk : k ≠ 11) : JW W0 g D d d' (Marks.upd m k) (Marks.updv u k v) w :=
  ⟨h.kept, fun hm => h.bef (by rwa [Marks.upd_other m (Ne.symm hk)] at hm), fun hm => h.aft (by rwa [Marks.upd_other m (Ne.symm hk)] at hm)⟩
theorem JW.put (h : JW W0 g D d d' m u w) (hm : m 11 = false) (v : Value) (w' : World) (hx : ∃ D', DK w' g D' d' ∧ (∀ k, D' k → D k ∨ w.heap.size ≤ k) ∧ Kept D w w') : JW W0 g D d d' (Marks.upd m 11) (Marks.updv u 11 v) w' := by
  obtain ⟨D', h1, h2, h3⟩ := hx
  refine ⟨h.kept.trans h3, (fun hh => by rw [Marks.upd_same] at hh; cases hh), fun _ => ⟨D', h1, fun k hk => ?_⟩⟩
  rcases h2 k hk with h4 | h4
  · exact .inl h4
  · exact .inr (Nat.le_trans h.kept.size h4)
end
end Go.Proofs.Ytbnicphegbdfnaa.DKeepsH
