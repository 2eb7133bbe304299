/-
  A disk of the program beside the document's: what the program's calls leave.
  Conditions: those that each lemma names.
-/
import Derived.Test.YtbnicphegbdfnaaQZ
namespace Go.Proofs.Ytbnicphegbdfnaa.QU
set_option maxRecDepth 100000
open Go Go.RowKit Go.Proofs.Ytbnicphegbdfnaa Go.Proofs.Ytbnicphegbdfnaa.Facts Go.Proofs.Ytbnicphegbdfnaa.Bytes Go.Proofs.Ytbnicphegbdfnaa.DKeep Go.Proofs.Ytbnicphegbdfnaa.DSmall Go.Proofs.Ytbnicphegbdfnaa.DRefA Go.Proofs.Ytbnicphegbdfnaa.DRefB Go.Proofs.Ytbnicphegbdfnaa.DRefC Go.Proofs.Ytbnicphegbdfnaa.DSim Go.Proofs.Ytbnicphegbdfnaa.DRefD Go.Proofs.Ytbnicphegbdfnaa.DLawA Go.Proofs.Ytbnicphegbdfnaa.RI Go.Proofs.Ytbnicphegbdfnaa.RG Go.Proofs.Ytbnicphegbdfnaa.DS

/-- Blocks that are none of a disk's. -/
def Ks (w : World) (y : World) (K : List (Nat × Obj)) : Prop := ∀ p ∈ K, y.heap[p.1]? = some p.2 ∧ w.heap.size ≤ p.1 ∧ ∃ (C : Array Value) (e : TypeId) (fz : Nat × Nat), p.2 = .cells C e fz ∧ e ≠ 104 ∧ e ≠ 116 ∧ e ≠ 129
def rowsOf (vB : Value) (b : List UInt8) (K : List (Nat × Obj)) : List (Value × Cont) := (vB, Cont.bytes b) :: K.map fun p => (.nilFunc, Cont.blk p.1 p.2)
theorem bl_rows {vB : Value} {b : List UInt8} {K : List (Nat × Obj)} {k : Nat} (h : BL (rowsOf vB b K) k) : ∃ o, (k, o) ∈ K := by
  obtain ⟨x, o, h⟩ := h
  unfold rowsOf at h
  rcases List.mem_cons.1 h with h | h
  · cases h
  · obtain ⟨p, hp, he⟩ := List.mem_map.1 h
    injection he with _ he
    injection he with e1 e2
    subst e1 e2
    exact ⟨p.2, hp⟩
theorem blk_rows {vB x : Value} {b : List UInt8} {K : List (Nat × Obj)} {k : Nat} {o : Obj} (h : (x, Cont.blk k o) ∈ rowsOf vB b K) : (k, o) ∈ K := by
  unfold rowsOf at h
  rcases List.mem_cons.1 h with h | h
  · cases h
  · obtain ⟨p, hp, he⟩ := List.mem_map.1 h
    injection he with _ he
    injection he with e1 e2
    subst e1 e2
    exact hp
theorem beside {w y : World} {g : Nat} {D : Nat → Prop} {d : Pd} (hD : DT y g D d) (hs : ∀ k, D k → w.heap.size ≤ k) (hg : Grew w y) {vB : Value} {b : List UInt8} (hr : Rd (fun b => b < w.heap.size) y vB b) {K : List (Nat × Obj)} (hK : Ks w y K) : DS w g d (rowsOf vB b K) y := by
  refine ⟨D, hD.1, hs, hg, fun v l hp => ?_, fun x k o hp => ?_⟩
  · unfold rowsOf at hp
    rcases List.mem_cons.1 hp with hp | hp
    · cases hp
      refine ⟨_, hr, fun k hk => ⟨Nat.lt_of_lt_of_le hk hg.size, fun hd => by have := hs k hd; omega, fun hb => ?_⟩⟩
      obtain ⟨o, ho⟩ := bl_rows hb
      have := (hK _ ho).2.1
      simp only at this
      omega
    · obtain ⟨p, _, he⟩ := List.mem_map.1 hp
      cases he
  · have hm := blk_rows hp
    obtain ⟨h1, h2, C, e, fz, h3, h4, h5, h6⟩ := hK _ hm
    simp only at h1 h2 h3
    refine ⟨h1, fun hd => ?_, h2⟩
    obtain ⟨C', e', fz', h7, h8⟩ := hD.2 k hd
    rw [h1, h3] at h7
    cases h7
    rcases h8 with h8 | h8 | h8
    · exact h4 h8
    · exact h5 h8
    · exact h6 h8
theorem beside_back {w z : World} {g : Nat} {d : Pd} {vB : Value} {b : List UInt8} {K : List (Nat × Obj)} (h : DS w g d (rowsOf vB b K) z) : (∃ D, DT z g D d ∧ ∀ k, D k → w.heap.size ≤ k) ∧ Grew w z ∧ ∀ p ∈ K, z.heap[p.1]? = some p.2 := by
  obtain ⟨D, h⟩ := h
  obtain ⟨D', h1, h2⟩ := DK.tight h.dk
  refine ⟨⟨D', h1, fun k hk => h.ab k (h2 k hk)⟩, h.gr, fun p hp => ?_⟩
  exact (h.blk .nilFunc p.1 p.2 (List.mem_cons_of_mem _ (List.mem_map.2 ⟨p, hp, rfl⟩))).1
/-- The blocks of a row that was made since. -/
def rowK (w y : World) (A : Option Addr) : List (Nat × Obj) := match A with
  | none => []
  | some ad => if w.heap.size ≤ ad.block then (match y.heap[ad.block]? with | some o => [(ad.block, o)] | none => []) else []
theorem rowK_ks {w y : World} {A : Option Addr} {n c : Nat} {t : TypeId} (ht : Tg y (.slice A n c) t) (h1 : t ≠ 104) (h2 : t ≠ 116) (h3 : t ≠ 129) : Ks w y (rowK w y A) := by
  intro p hp
  unfold rowK at hp
  cases A with
  | none => cases hp
  | some ad =>
    simp only at hp
    split at hp
    · rename_i hle
      obtain ⟨cur, fz, hh⟩ := ht ad.block rfl
      rw [hh] at hp
      simp only [List.mem_singleton] at hp
      subst hp
      exact ⟨hh, hle, cur, t, fz, rfl, h1, h2, h3⟩
    · cases hp
theorem rowK_keep {w y z : World} {A : Option Addr} {n c : Nat} {t : TypeId} (ht : Tg y (.slice A n c) t) (hy : Grew w y) (hz : Grew w z) (hk : ∀ p ∈ rowK w y A, z.heap[p.1]? = some p.2) : ∀ ad, A = some ad → z.heap[ad.block]? = y.heap[ad.block]? := by
  intro ad ha
  subst ha
  obtain ⟨cur, fz, hh⟩ := ht ad.block rfl
  by_cases hle : w.heap.size ≤ ad.block
  · have := hk (ad.block, .cells cur t fz) (by unfold rowK; simp only; rw [if_pos hle, hh]; exact List.mem_singleton.2 rfl)
    rw [hh]
    exact this
  · exact (hz.block _ (by omega)).trans (hy.block _ (by omega)).symm
theorem rd_same {y z : World} {r : Rp} {A1 A2 A3 : Option Addr} {c1 c2 c3 : Nat} (h : RD y (dv A1 A2 A3 r.now.length r.safe.length r.waits.length c1 c2 c3 r.fuse r.off) r) (h1 : ∀ ad, A1 = some ad → z.heap[ad.block]? = y.heap[ad.block]?) (h2 : ∀ ad, A2 = some ad → z.heap[ad.block]? = y.heap[ad.block]?) (h3 : ∀ ad, A3 = some ad → z.heap[ad.block]? = y.heap[ad.block]?) : RD z (dv A1 A2 A3 r.now.length r.safe.length r.waits.length c1 c2 c3 r.fuse r.off) r := by
  obtain ⟨⟨B1, B2, B3, e1, e2, e3, he, s1, s2, s3, t1, t2, t3⟩, f1, f2⟩ := h
  have hA : A1 = B1 ∧ c1 = e1 ∧ A2 = B2 ∧ c2 = e2 ∧ A3 = B3 ∧ c3 = e3 := by
    unfold dv at he
    simp only [Value.agg.injEq, Array.mk.injEq, List.cons.injEq, Value.slice.injEq] at he
    exact ⟨he.1.1, he.1.2.2, he.2.1.1, he.2.1.2.2, he.2.2.1.1, he.2.2.1.2.2⟩
  obtain ⟨rfl, rfl, rfl, rfl, rfl, rfl⟩ := hA
  have cell : ∀ {A : Option Addr} {ad : Addr} {j : Nat} {u : Value}, (∀ ad, A = some ad → z.heap[ad.block]? = y.heap[ad.block]?) → A = some ad → y.cell? (ad.add j) = some u → z.cell? (ad.add j) = some u := by
    intro A ad j u hb hA hc
    refine (World.cell?_of_block (w := y) ?_).trans hc
    rw [block_add']
    exact hb ad hA
  have tag : ∀ {A : Option Addr} {n c : Nat} {e : TypeId}, (∀ ad, A = some ad → z.heap[ad.block]? = y.heap[ad.block]?) → Tg y (.slice A n c) e → Tg z (.slice A n c) e := by
    intro A n c e hb ht k hk
    obtain ⟨cur, fz, hh⟩ := ht k hk
    cases A with
    | none => cases hk
    | some ad =>
      have : ad.block = k := by simpa [Value.ownBlock] using hk
      subst this
      exact ⟨cur, fz, (hb ad rfl).trans hh⟩
  refine ⟨⟨A1, A2, A3, c1, c2, c3, rfl, ?_, ?_, ?_, tag h1 t1, tag h2 t2, tag h3 t3⟩, f1, f2⟩
  · obtain ⟨A, c, e, q1, q2, q3, q4⟩ := s1
    injection e with e1 _ e2
    subst e1 e2
    exact ⟨A1, c1, rfl, q1, q2, q3, fun ad ha j B hB => cell h1 ha (q4 ad ha j B hB)⟩
  · obtain ⟨A, c, e, q1, q2, q3, q4⟩ := s2
    injection e with e1 _ e2
    subst e1 e2
    exact ⟨A2, c2, rfl, q1, q2, q3, fun ad ha j B hB => cell h2 ha (q4 ad ha j B hB)⟩
  · obtain ⟨A, c, e, q1, q2, q3, q4⟩ := s3
    injection e with e1 _ e2
    subst e1 e2
    exact ⟨A3, c3, rfl, q1, q2, q3, fun ad ha => ⟨(q4 ad ha).1, fun j u hu => cell h3 ha ((q4 ad ha).2 j u hu)⟩⟩
/-- Both disks, each where it lies. -/
structure US (w : World) (g gx : Nat) (d : Pd) (r : Rp) (y : World) : Prop where
  ex : ∃ D, DT y g D d ∧ ∀ k, D k → w.heap.size ≤ k
  bx : BX y gx r
  lx : w.heap.size ≤ gx
  gr : Grew w y
section
variable {w y z : World} {g gx : Nat} {d d' : Pd} {r r' : Rp}
theorem US.grew (h : US w g gx d r y) (hg : Grew y z) : US w g gx d r z := by
  obtain ⟨D, h1, h2⟩ := h.ex
  exact ⟨⟨D, DT_grew h1 hg, h2⟩, h.bx.grew hg, h.lx, h.gr.trans hg⟩
/-- A call of the program's. -/
theorem us_call (h : US w g gx d r y) {vB : Value} {b : List UInt8} (hr : Rd (fun b => b < w.heap.size) y vB b) {gd : Nat} {C : Array Value} (hd : y.heap[gd]? = some (.cells C 76 (0, 0))) (hgd : w.heap.size ≤ gd) {f : Nat} {args : Array Value} {R : Ending → World → Prop} (hc : ∀ V, (vB, Cont.bytes b) ∈ V → DS w g d V y → Calls Try.prog f args y fun e z => R e z ∧ DS w g d' V z) :
    Calls Try.prog f args y fun e z => R e z ∧ US w g gx d' r z ∧ z.heap[gd]? = some (.cells C 76 (0, 0)) := by
  obtain ⟨D, h1, h2⟩ := h.ex
  obtain ⟨A1, A2, A3, c1, c2, c3, q1, q2⟩ := h.bx
  obtain ⟨t1, t2, t3⟩ : Tg y (.slice A1 r.now.length c1) 9 ∧ Tg y (.slice A2 r.safe.length c2) 9 ∧ Tg y (.slice A3 r.waits.length c3) 126 := by
    obtain ⟨⟨B1, B2, B3, e1, e2, e3, he, _, _, _, t1, t2, t3⟩, _⟩ := q1
    unfold dv at he
    simp only [Value.agg.injEq, Array.mk.injEq, List.cons.injEq, Value.slice.injEq] at he
    obtain ⟨⟨rfl, _, rfl⟩, ⟨rfl, _, rfl⟩, ⟨rfl, _, rfl⟩, _⟩ := he
    exact ⟨t1, t2, t3⟩
  have hK : Ks w y ((gx, .cells (d5 A1 A2 A3 r.now.length r.safe.length r.waits.length c1 c2 c3 r.fuse r.off).toArray 49 (0, 0)) :: (gd, .cells C 76 (0, 0)) :: (rowK w y A1 ++ (rowK w y A2 ++ rowK w y A3))) := by
    intro p hp
    rcases List.mem_cons.1 hp with rfl | hp
    · exact ⟨q2, h.lx, _, _, _, rfl, by decide, by decide, by decide⟩
    rcases List.mem_cons.1 hp with rfl | hp
    · exact ⟨hd, hgd, _, _, _, rfl, by decide, by decide, by decide⟩
    rcases List.mem_append.1 hp with hp | hp
    · exact rowK_ks t1 (by decide) (by decide) (by decide) p hp
    rcases List.mem_append.1 hp with hp | hp
    · exact rowK_ks t2 (by decide) (by decide) (by decide) p hp
    · exact rowK_ks t3 (by decide) (by decide) (by decide) p hp
  refine (hc _ (List.mem_cons_self ..) (beside h1 h2 h.gr hr hK)).mono ?_
  rintro e z ⟨hR, hds⟩
  obtain ⟨hex, hgz, hkz⟩ := beside_back hds
  refine ⟨hR, ⟨hex, ⟨A1, A2, A3, c1, c2, c3, ?_, hkz _ (List.mem_cons_self ..)⟩, h.lx, hgz⟩, hkz _ (List.mem_cons_of_mem _ (List.mem_cons_self ..))⟩
  refine rd_same q1 (rowK_keep t1 h.gr hgz fun p hp => ?_) (rowK_keep t2 h.gr hgz fun p hp => ?_) (rowK_keep t3 h.gr hgz fun p hp => ?_)
  · exact hkz p (List.mem_cons_of_mem _ (List.mem_cons_of_mem _ (List.mem_append.2 (.inl hp))))
  · exact hkz p (List.mem_cons_of_mem _ (List.mem_cons_of_mem _ (List.mem_append.2 (.inr (List.mem_append.2 (.inl hp))))))
  · exact hkz p (List.mem_cons_of_mem _ (List.mem_cons_of_mem _ (List.mem_append.2 (.inr (List.mem_append.2 (.inr hp))))))
theorem us_put (h : US w g gx d r y) {v : Value} (hr : RD y v r') : ∃ z, (Instr.storeAt 49 (.pointer (some ⟨gx, 0, none⟩)) v).run Try.prog y = .ok () z ∧ US w g gx d r' z ∧ Kept (fun k => k = gx) y z := by
  obtain ⟨A1, A2, A3, c1, c2, c3, q1, q2⟩ := h.bx
  obtain ⟨z, hst, hbx, hk⟩ := box_store q2 rfl hr
  obtain ⟨D, h1, h2⟩ := h.ex
  have hne : ∀ k, D k → k ≠ gx := fun k hd hx => by
    subst hx
    obtain ⟨C, e, fz, h3, h4⟩ := h1.2 k hd
    rw [q2] at h3
    cases h3
    rcases h4 with h4 | h4 | h4 <;> exact absurd h4 (by decide)
  refine ⟨z, hst, ⟨⟨D, ⟨h1.1.keep hk fun k hd he => hne k hd he, fun k hd => ?_⟩, h2⟩, hbx, h.lx, DAlive.grew_kept h.gr hk fun k hk => by rw [hk]; exact h.lx⟩, hk⟩
  obtain ⟨C, e, fz, h3, h4⟩ := h1.2 k hd
  exact ⟨C, e, fz, other hk h3 (hne k hd), h4⟩
end
end Go.Proofs.Ytbnicphegbdfnaa.QU
