/-
  Both disks side by side: what a step of the one, or of the other one, leaves.
  Conditions: none beyond those that each lemma names.
-/
import Derived.Test.YtbnicphegbdfnaaDRefF
import Derived.Test.YtbnicphegbdfnaaDAlive
namespace Go.Proofs.Ytbnicphegbdfnaa.DLawA
set_option maxRecDepth 100000
set_option maxRecDepth 100000
open Go Go.RowKit Go.Proofs.Ytbnicphegbdfnaa Go.Proofs.Ytbnicphegbdfnaa.Facts Go.Proofs.Ytbnicphegbdfnaa.Bytes Go.Proofs.Ytbnicphegbdfnaa.DKeep Go.Proofs.Ytbnicphegbdfnaa.DSmall Go.Proofs.Ytbnicphegbdfnaa.DRefA Go.Proofs.Ytbnicphegbdfnaa.DRefB Go.Proofs.Ytbnicphegbdfnaa.DRefC Go.Proofs.Ytbnicphegbdfnaa.DSim Go.Proofs.Ytbnicphegbdfnaa.DKeepsH Go.Proofs.Ytbnicphegbdfnaa.DRefD Go.Proofs.Ytbnicphegbdfnaa.DRefE Go.Proofs.Ytbnicphegbdfnaa.DOpens

theorem rflush_any (r : Rp) (v : Value) (w : World) (h : RD w v r) :
    Calls Try.prog 71 #[v] w fun e w' => ∃ v', e = .returned (.tuple #[v', .int .i64 (rflushed r).2]) ∧ RD w' v' (rflushed r).1 ∧ Grew w w' := by
  obtain ⟨⟨A1, A2, A3, c1, c2, c3, rfl, h1, h2, h3, t1, t2, t3⟩, f1, f2⟩ := h
  unfold rflushed
  cases ho : r.off with
  | true =>
    rw [if_pos rfl]
    refine (rflush_off A1 A2 A3 _ _ _ c1 c2 c3 _ w).mono ?_
    rintro e w' ⟨rfl, hg⟩
    exact ⟨_, rfl, ⟨⟨A1, A2, A3, c1, c2, c3, by rw [ho], h1.grew hg, h2.grew hg, h3.grew hg, t1.grew hg, t2.grew hg, t3.grew hg⟩, f1, f2⟩, hg⟩
  | false =>
    rw [if_neg (show ¬ (false = true) by decide)]
    by_cases h0 : r.fuse = 0
    · rw [if_pos h0, h0]
      refine (rflush_out A1 A2 A3 _ _ _ c1 c2 c3 w).mono ?_
      rintro e w' ⟨rfl, hg⟩
      have e1 : (rburnt r).fuse = -1 := by simp [rburnt, h0]
      have e2 : (rburnt r).off = true := by simp [rburnt, h0]
      exact ⟨_, rfl, ⟨⟨A1, A2, A3, c1, c2, c3, by rw [e1, e2]; rfl, h1.grew hg, h2.grew hg, h3.grew hg, t1.grew hg, t2.grew hg, t3.grew hg⟩, by rw [e1]; omega, by rw [e1]; omega⟩, hg⟩
    · rw [if_neg h0]
      refine (rflush_on A1 A2 A3 _ _ _ c1 c2 c3 r.fuse w h0 f2 (by omega)).mono ?_
      rintro e w' ⟨rfl, hg⟩
      have e2 : (rburnt r).off = false := by simp [rburnt, h0, ho]
      refine ⟨_, rfl, ⟨⟨A1, A1, none, c1, c1, 0, ?_, h1.grew hg, h1.grew hg, WR.nil _, t1.grew hg, t1.grew hg, Tg.nil _ _ _ _⟩, ?_, ?_⟩, hg⟩
      · show _ = dv A1 A1 none _ _ 0 c1 c1 0 (rburnt r).fuse (rburnt r).off
        rw [e2]
        rfl
      · show -1 ≤ (rburnt r).fuse
        unfold rburnt
        simp only
        split <;> omega
      · show (rburnt r).fuse ≤ _
        unfold rburnt
        simp only
        split <;> omega
theorem rfuse_any (r : Rp) (v : Value) (n : Int) (w : World) (h : RD w v r) (hn : n ≤ 9223372036854775807) :
    Calls Try.prog 31 #[v, .int .i64 n] w fun e w' => ∃ v', e = .returned v' ∧ RD w' v' (rfus r n) ∧ Grew w w' := by
  obtain ⟨⟨A1, A2, A3, c1, c2, c3, rfl, h1, h2, h3, t1, t2, t3⟩, f1, f2⟩ := h
  refine (rfused_any A1 A2 A3 _ _ _ c1 c2 c3 _ _ n w).mono ?_
  rintro e w' ⟨rfl, hg⟩
  exact ⟨_, rfl, ⟨⟨A1, A2, A3, c1, c2, c3, rfl, h1.grew hg, h2.grew hg, h3.grew hg, t1.grew hg, t2.grew hg, t3.grew hg⟩, by show -1 ≤ max n (-1); omega, by show max n (-1) ≤ 9223372036854775807; omega⟩, hg⟩
theorem RD.kept {w w' : World} {v : Value} {r : Rp} {D : Nat → Prop} (h : RD w v r) (hk : Kept D w w') (hD : ∀ k cur e fz, D k → w.heap[k]? = some (.cells cur e fz) → e ≠ 9 ∧ e ≠ 126) : RD w' v r := by
  obtain ⟨⟨A1, A2, A3, c1, c2, c3, rfl, h1, h2, h3, t1, t2, t3⟩, f1, f2⟩ := h
  have cell : ∀ {A : Option Addr} {n c : Nat} {e : TypeId} {ad : Addr} {j : Nat} {u : Value}, Tg w (.slice A n c) e → (e = 9 ∨ e = 126) → A = some ad → w.cell? (ad.add j) = some u → w'.cell? (ad.add j) = some u := by
    intro A n c e ad j u ht he hA hc
    subst hA
    obtain ⟨cur, fz, hh⟩ := ht ad.block rfl
    refine (World.cell?_of_block (w := w) ?_).trans hc
    rw [block_add']
    exact hk.block _ (Array.getElem?_eq_some_iff.1 hh).1 (fun hd => by
      have := hD _ _ _ _ hd hh
      rcases he with he | he
      · exact this.1 he
      · exact this.2 he)
  have tag : ∀ {v : Value} {e : TypeId}, Tg w v e → (e = 9 ∨ e = 126) → Tg w' v e := fun {v e} ht he => ht.kept hk (fun k cur fz hd hh => by
    have := hD _ _ _ _ hd hh
    rcases he with he | he
    · exact this.1 he
    · exact this.2 he)
  refine ⟨⟨A1, A2, A3, c1, c2, c3, rfl, ?_, ?_, ?_, tag t1 (.inl rfl), tag t2 (.inl rfl), tag t3 (.inr rfl)⟩, f1, f2⟩
  · obtain ⟨A, c, e, q1, q2, q3, q4⟩ := h1
    exact ⟨A, c, e, q1, q2, q3, fun ad ha j B hB => by
      have hc := q4 ad ha j B hB
      injection e with e1 _ _
      exact cell t1 (.inl rfl) (by rw [e1]; exact ha) hc⟩
  · obtain ⟨A, c, e, q1, q2, q3, q4⟩ := h2
    exact ⟨A, c, e, q1, q2, q3, fun ad ha j B hB => by
      have hc := q4 ad ha j B hB
      injection e with e1 _ _
      exact cell t2 (.inl rfl) (by rw [e1]; exact ha) hc⟩
  · obtain ⟨A, c, e, q1, q2, q3, q4⟩ := h3
    exact ⟨A, c, e, q1, q2, q3, fun ad ha => ⟨(q4 ad ha).1, fun j u hu => by
      have hc := (q4 ad ha).2 j u hu
      injection e with e1 _ _
      exact cell t3 (.inr rfl) (by rw [e1]; exact ha) hc⟩⟩

/-- The disk's blocks are of its own kinds. -/
def DT (w : World) (g : Nat) (D : Nat → Prop) (d : Pd) : Prop := DK w g D d ∧ ∀ k, D k → ∃ cur e fz, w.heap[k]? = some (.cells cur e fz) ∧ (e = 104 ∨ e = 116 ∨ e = 129)
theorem DK.tight {w : World} {g : Nat} {D : Nat → Prop} {d : Pd} (h : DK w g D d) : ∃ D', DT w g D' d ∧ ∀ k, D' k → D k := by
  obtain ⟨hD, a, b, ca, cb, vw, h0, hin⟩ := h
  have hsub : ∀ k, (k = g ∨ k = a ∨ k = b ∨ vw.ownBlock = some k) → D k := by
    rintro k (rfl | rfl | rfl | hk)
    · exact hin.g
    · exact hin.a
    · exact hin.b
    · exact hin.w k hk
  refine ⟨fun k => k = g ∨ k = a ∨ k = b ∨ vw.ownBlock = some k, ⟨⟨fun k hk => hD k (hsub k hk), a, b, ca, cb, vw, h0, ⟨.inl rfl, .inr (.inl rfl), .inr (.inr (.inl rfl)), fun k hk => .inr (.inr (.inr hk))⟩⟩, ?_⟩, hsub⟩
  rintro k (rfl | rfl | rfl | hk)
  · exact ⟨_, _, _, h0.blk, .inl rfl⟩
  · obtain ⟨cur, h1, _⟩ := h0.safe
    exact ⟨_, _, _, h1, .inr (.inl rfl)⟩
  · obtain ⟨cur, h1, _⟩ := h0.last
    exact ⟨_, _, _, h1, .inr (.inl rfl)⟩
  · rcases h0.waits.2 with ⟨rfl, _⟩ | ⟨q, cap, cur, rfl, _, hq, _⟩
    · cases hk
    · simp [Value.ownBlock] at hk
      subst hk
      exact ⟨_, _, _, hq, .inr (.inr rfl)⟩
/-- A box that holds the document's disk r. -/
def BX (w : World) (gx : Nat) (r : Rp) : Prop := ∃ A1 A2 A3 c1 c2 c3, RD w (dv A1 A2 A3 r.now.length r.safe.length r.waits.length c1 c2 c3 r.fuse r.off) r ∧ w.heap[gx]? = some (.cells (d5 A1 A2 A3 r.now.length r.safe.length r.waits.length c1 c2 c3 r.fuse r.off).toArray 49 (0, 0))
theorem BX.grew {w w' : World} {gx : Nat} {r : Rp} (h : BX w gx r) (hg : Grew w w') : BX w' gx r := by
  obtain ⟨A1, A2, A3, c1, c2, c3, h1, h2⟩ := h
  exact ⟨A1, A2, A3, c1, c2, c3, h1.grew hg, DWrite.keepB h2 hg⟩
theorem BX.load {w : World} {gx : Nat} {r : Rp} (h : BX w gx r) : ∃ A1 A2 A3 c1 c2 c3, RD w (dv A1 A2 A3 r.now.length r.safe.length r.waits.length c1 c2 c3 r.fuse r.off) r ∧ (Instr.loadAt 49 (.pointer (some ⟨gx, 0, none⟩))).run Try.prog w = .ok (dv A1 A2 A3 r.now.length r.safe.length r.waits.length c1 c2 c3 r.fuse r.off) w ∧ w.heap[gx]? = some (.cells (d5 A1 A2 A3 r.now.length r.safe.length r.waits.length c1 c2 c3 r.fuse r.off).toArray 49 (0, 0)) := by
  obtain ⟨A1, A2, A3, c1, c2, c3, h1, h2⟩ := h
  exact ⟨A1, A2, A3, c1, c2, c3, h1, load5 w gx _ _ _ _ _ _ _ _ _ _ _ h2, h2⟩
theorem box_store {w : World} {gx : Nat} {C : Array Value} {v : Value} {r : Rp} (hB : w.heap[gx]? = some (.cells C 49 (0, 0))) (hC : C.size = 5) (h : RD w v r) :
    ∃ w', (Instr.storeAt 49 (.pointer (some ⟨gx, 0, none⟩)) v).run Try.prog w = .ok () w' ∧ BX w' gx r ∧ Kept (fun k => k = gx) w w' := by
  obtain ⟨⟨A1, A2, A3, c1, c2, c3, rfl, _⟩, _⟩ := id h
  have hk : Kept (fun k => k = gx) w (w.setRow gx (d5 A1 A2 A3 r.now.length r.safe.length r.waits.length c1 c2 c3 r.fuse r.off).toArray) := ⟨rfl, rfl, rfl, by simp, fun j _ hj => setRow_other w gx j _ (by omega)⟩
  refine ⟨_, store5 w gx C hB hC A1 A2 A3 _ _ _ c1 c2 c3 _ _, ⟨A1, A2, A3, c1, c2, c3, ?_, setRow_heap w gx _ _ _ _ hB⟩, hk⟩
  exact RD.kept h hk (fun k cur e fz hd hh => by
    subst hd
    rw [hB] at hh
    cases hh
    exact ⟨by decide, by decide⟩)

theorem kept_trans {D0 D : Nat → Prop} {a b c : World} (h : Kept D0 a b) (k : Kept D b c) (hd : ∀ j, D j → D0 j ∨ a.heap.size ≤ j) : Kept D0 a c := by
  refine ⟨k.os.trans h.os, k.tape.trans h.tape, k.output.trans h.output, Nat.le_trans h.size k.size, fun j hj hn => ?_⟩
  refine (k.block j (Nat.lt_of_lt_of_le hj h.size) (fun hD => ?_)).trans (h.block j hj hn)
  rcases hd j hD with h1 | h1
  · exact hn h1
  · omega
/-- Both disks: the program's at g, the document's in the box gx; of what was there in w0 only D0 has turned. -/
structure ST (D0 : Nat → Prop) (w0 : World) (g gx : Nat) (w : World) (d : Pd) (r : Rp) (n : Nat) : Prop where
  ex : ∃ D, DT w g D d ∧ ∀ k, D k → D0 k ∨ w0.heap.size ≤ k
  box : BX w gx r
  wt : d.waits.length ≤ n
  kept : Kept D0 w0 w
  new : w0.heap.size ≤ gx
section
variable {D0 : Nat → Prop} {w0 w w' : World} {g gx n : Nat} {d d' : Pd} {r r' : Rp}
theorem ST.grew (h : ST D0 w0 g gx w d r n) (hg : Grew w w') : ST D0 w0 g gx w' d r n := by
  obtain ⟨D, ⟨h1, h2⟩, h3⟩ := h.ex
  refine ⟨⟨D, ⟨h1.grew hg, fun k hk => ?_⟩, h3⟩, h.box.grew hg, h.wt, h.kept.trans (Kept.of_grew hg), h.new⟩
  obtain ⟨cur, e, fz, h4, h5⟩ := h2 k hk
  exact ⟨cur, e, fz, DWrite.keepB h4 hg, h5⟩
/-- The program's disk went on. -/
theorem ST.prog (h : ST D0 w0 g gx w d r n) {D : Nat → Prop} (hD : DT w g D d) (hs : ∀ k, D k → D0 k ∨ w0.heap.size ≤ k) {m : Nat} (hm : d'.waits.length ≤ m) (hx : ∃ D', DK w' g D' d' ∧ (∀ k, D' k → D k ∨ w.heap.size ≤ k) ∧ Kept D w w') : ST D0 w0 g gx w' d' r m := by
  obtain ⟨D', h1, h2, h3⟩ := hx
  obtain ⟨D'', h4, h5⟩ := DK.tight h1
  have hz := h.kept.size
  refine ⟨⟨D'', h4, fun k hk => ?_⟩, ?_, hm, ?_, h.new⟩
  · rcases h2 k (h5 k hk) with h6 | h6
    · exact hs k h6
    · exact .inr (Nat.le_trans hz h6)
  · obtain ⟨A1, A2, A3, c1, c2, c3, q1, q2⟩ := h.box
    refine ⟨A1, A2, A3, c1, c2, c3, RD.kept q1 h3 (fun k cur e fz hd hh => ?_), (h3.block gx (Array.getElem?_eq_some_iff.1 q2).1 (fun hd => ?_)).trans q2⟩
    · obtain ⟨cur', e', fz', h7, h8⟩ := hD.2 k hd
      rw [h7] at hh
      cases hh
      rcases h8 with rfl | rfl | rfl <;> exact ⟨by decide, by decide⟩
    · obtain ⟨cur', e', fz', h7, h8⟩ := hD.2 gx hd
      rw [q2] at h7
      cases h7
      rcases h8 with h8 | h8 | h8 <;> exact absurd h8 (by decide)
  · refine kept_trans h.kept h3 fun k hk => ?_
    exact hs k hk
theorem ST.stored (h : ST D0 w0 g gx w d r n) (hk : Kept (fun k => k = gx) w w') (hb : BX w' gx r') : ST D0 w0 g gx w' d r' n := by
  obtain ⟨D, ⟨h1, h2⟩, h3⟩ := h.ex
  obtain ⟨A1, A2, A3, c1, c2, c3, q1, q2⟩ := h.box
  have hne : ∀ k, D k → ¬ k = gx := fun k hd he => by
    subst he
    obtain ⟨cur', e', fz', h7, h8⟩ := h2 k hd
    rw [q2] at h7
    cases h7
    rcases h8 with h8 | h8 | h8 <;> exact absurd h8 (by decide)
  refine ⟨⟨D, ⟨h1.keep hk hne, fun k hd => ?_⟩, h3⟩, hb, h.wt, ?_, h.new⟩
  · obtain ⟨cur, e, fz, h4, h5⟩ := h2 k hd
    exact ⟨cur, e, fz, (hk.block k (Array.getElem?_eq_some_iff.1 h4).1 (hne k hd)).trans h4, h5⟩
  · exact kept_trans h.kept hk fun k hk => .inr (by rw [hk]; exact h.new)
end
end Go.Proofs.Ytbnicphegbdfnaa.DLawA
