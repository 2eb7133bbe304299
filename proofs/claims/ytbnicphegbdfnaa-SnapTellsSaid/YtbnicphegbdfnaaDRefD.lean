/-
  The document's own disk: a write.
  Conditions: none beyond those that each lemma names.
-/
import Derived.Test.YtbnicphegbdfnaaDSim
import Derived.Test.YtbnicphegbdfnaaDKeepsH
import Derived.Laws.AppendOwnNone
namespace Go.Proofs.Ytbnicphegbdfnaa.DRefD
set_option maxRecDepth 100000
set_option maxRecDepth 100000
open Go Go.RowKit Go.Proofs.Ytbnicphegbdfnaa Go.Proofs.Ytbnicphegbdfnaa.Facts Go.Proofs.Ytbnicphegbdfnaa.Bytes Go.Proofs.Ytbnicphegbdfnaa.DKeep Go.Proofs.Ytbnicphegbdfnaa.DRefA Go.Proofs.Ytbnicphegbdfnaa.DRefB Go.Proofs.Ytbnicphegbdfnaa.DRefC Go.Proofs.Ytbnicphegbdfnaa.DSim Go.Proofs.Ytbnicphegbdfnaa.DKeepsH

def wt (p : Nat × Sec) : List Value := [.int .i64 (p.1 : Int), sv p.2]
/-- The cells of writes that wait. -/
def wtc (l : List (Nat × Sec)) : List Value := l.flatMap wt
theorem wtc_length (l : List (Nat × Sec)) : (wtc l).length = l.length * 2 := by
  induction l with
  | nil => rfl
  | cons p l ih =>
    have e : wtc (p :: l) = wt p ++ wtc l := rfl
    rw [e, List.length_append, ih, List.length_cons, show (wt p).length = 2 from rfl]
    omega
theorem wtc_snoc (l : List (Nat × Sec)) (p : Nat × Sec) : wtc (l ++ [p]) = wtc l ++ wt p := by simp [wtc]
theorem wtc_one (l : List (Nat × Sec)) : ∀ u ∈ wtc l, u.oneCell' = true := by
  intro u hu
  obtain ⟨p, _, hp⟩ := List.mem_flatMap.1 hu
  simp [wt] at hp
  rcases hp with rfl | rfl <;> rfl
theorem wtc_at : ∀ (l : List (Nat × Sec)) k p, l[k]? = some p → (wtc l)[k * 2]? = some (.int .i64 (p.1 : Int)) ∧ (wtc l)[k * 2 + 1]? = some (sv p.2)
  | [], k, p, h => by simp at h
  | q :: l, 0, p, h => by
    simp at h
    subst h
    exact ⟨rfl, rfl⟩
  | q :: l, k + 1, p, h => by
    have ih := wtc_at l k p (by simpa using h)
    have e : wtc (q :: l) = wt q ++ wtc l := rfl
    rw [e, List.getElem?_append_right (by simp [wt]; omega), List.getElem?_append_right (by simp [wt]; omega), show (wt q).length = 2 from rfl, show (k + 1) * 2 - 2 = k * 2 by omega, show (k + 1) * 2 + 1 - 2 = k * 2 + 1 by omega]
    exact ih
/-- A row of writes. -/
def WR (w : World) (v : Value) (l : List (Nat × Sec)) : Prop := ∃ A c, v = .slice A l.length c ∧ l.length ≤ c ∧ c ≤ 9223372036854775807 ∧ (A = none → c = 0) ∧ ∀ ad, A = some ad → (∃ g, ad = ⟨g, 0, none⟩) ∧ ∀ (j : Nat) (u : Value), (wtc l)[j]? = some u → w.cell? (ad.add j) = some u
theorem WR.grew {w w' : World} {v : Value} {l : List (Nat × Sec)} (h : WR w v l) (hg : Grew w w') : WR w' v l := by
  obtain ⟨A, c, rfl, h1, h2, h3, h4⟩ := h
  exact ⟨A, c, rfl, h1, h2, h3, fun ad ha => ⟨(h4 ad ha).1, fun j u hu => DWrite.cellB hg ((h4 ad ha).2 j u hu)⟩⟩
theorem WR.nil (w : World) : WR w (.slice none 0 0) [] := ⟨none, 0, rfl, Nat.le_refl _, by omega, fun _ => rfl, fun ad ha => by cases ha⟩
theorem WR.of_own {w : World} {b : Nat} {v : Value} {l : List (Nat × Sec)} (h : w.ownsRow b 126 2 v l.length (wtc l)) : WR w v l := by
  rcases h.2 with ⟨rfl, hx⟩ | ⟨g, cap, cur, rfl, hb, hg, hc, hm, hs, ht⟩
  · have : l = [] := List.eq_nil_of_length_eq_zero hx
    subst this
    exact WR.nil w
  · refine ⟨some ⟨g, 0, none⟩, cap, rfl, hc, hm, (fun h => by cases h), fun ad ha => ⟨⟨g, by cases ha; rfl⟩, fun j u hu => ?_⟩⟩
    cases ha
    have hj : j < l.length * 2 := by rw [← wtc_length]; exact (List.getElem?_eq_some_iff.1 hu).1
    rw [Addr.add_mid, Nat.zero_add, cell_of_row _ _ _ _ _ _ hg]
    rw [← ht, List.getElem?_take_of_lt hj] at hu
    simpa using hu
/-- The row of a slice lies in a block of this kind. -/
def Tg (w : World) (v : Value) (e : TypeId) : Prop := ∀ k, v.ownBlock = some k → ∃ cur fz, w.heap[k]? = some (.cells cur e fz)
theorem Tg.grew {w w' : World} {v : Value} {e : TypeId} (h : Tg w v e) (hg : Grew w w') : Tg w' v e := fun k hk => by
  obtain ⟨cur, fz, h1⟩ := h k hk
  exact ⟨cur, fz, DWrite.keepB h1 hg⟩
theorem Tg.kept {w w' : World} {v : Value} {e : TypeId} {D : Nat → Prop} (h : Tg w v e) (hk : DSmall.Kept D w w') (hD : ∀ k cur fz, D k → w.heap[k]? = some (.cells cur e fz) → False) : Tg w' v e := fun k hv => by
  obtain ⟨cur, fz, h1⟩ := h k hv
  exact ⟨cur, fz, (hk.block k (Array.getElem?_eq_some_iff.1 h1).1 (fun hd => hD k cur fz hd h1)).trans h1⟩
theorem Tg.of_own {w : World} {b e m n : Nat} {v : Value} {xs : List Value} (h : w.ownsRow b e m v n xs) : Tg w v e := fun k hk => by
  rcases h.2 with ⟨rfl, _⟩ | ⟨g, cap, cur, rfl, _, hg, _⟩
  · cases hk
  · simp [Value.ownBlock] at hk
    subst hk
    exact ⟨cur, _, hg⟩
theorem Tg.nil (w : World) (n c : Nat) (e : TypeId) : Tg w (.slice none n c) e := fun k hk => by cases hk
/-- A value that reads as the document's disk r. -/
structure RD (w : World) (v : Value) (r : Rp) : Prop where
  ex : ∃ A1 A2 A3 c1 c2 c3, v = dv A1 A2 A3 r.now.length r.safe.length r.waits.length c1 c2 c3 r.fuse r.off ∧ SR w (.slice A1 r.now.length c1) r.now ∧ SR w (.slice A2 r.safe.length c2) r.safe ∧ WR w (.slice A3 r.waits.length c3) r.waits ∧ Tg w (.slice A1 r.now.length c1) 9 ∧ Tg w (.slice A2 r.safe.length c2) 9 ∧ Tg w (.slice A3 r.waits.length c3) 126
  f1 : -1 ≤ r.fuse
  f2 : r.fuse ≤ 9223372036854775807
theorem RD.grew {w w' : World} {v : Value} {r : Rp} (h : RD w v r) (hg : Grew w w') : RD w' v r := by
  obtain ⟨⟨A1, A2, A3, c1, c2, c3, rfl, h1, h2, h3, t1, t2, t3⟩, f1, f2⟩ := h
  exact ⟨⟨A1, A2, A3, c1, c2, c3, rfl, h1.grew hg, h2.grew hg, h3.grew hg, t1.grew hg, t2.grew hg, t3.grew hg⟩, f1, f2⟩

theorem zero70 : (Try.prog.info? 126).map (fun i => (i.zero.map (·.cells.size), i.size, i.bytes)) = some (some 2, 2, 24) := by kernel_rfl
theorem parts70 : ∃ i z, Try.prog.info? 126 = some i ∧ i.zero = some z ∧ i.size = 2 ∧ i.bytes = 24 ∧ z.cells.size = 2 := by
  have h := zero70
  cases hq : Try.prog.info? 126 with
  | none => simp [hq] at h
  | some i =>
    cases hz : i.zero with
    | none => simp [hq, hz] at h
    | some z => simp [hq, hz] at h; exact ⟨i, z, rfl, hz, h.2.1, h.2.2, h.1⟩
theorem rwritten_off (r : Rp) (n : Int) (l : Sec) (h : r.off = true) : rwritten r n l = (r, 15) := by unfold rwritten; rw [if_pos h]

theorem own_kept {w w' : World} {D : Nat → Prop} {b e m n : Nat} {v : Value} {xs : List Value} (h : w.ownsRow b e m v n xs) (hk : DSmall.Kept D w w') (hD : ∀ k, D k → k < b) : w'.ownsRow b e m v n xs := by
  refine ⟨h.1, ?_⟩
  rcases h.2 with h2 | ⟨g, cap, cur, rfl, hb, hgg, h3⟩
  · exact .inl h2
  · exact .inr ⟨g, cap, cur, rfl, hb, (hk.block g (Array.getElem?_eq_some_iff.1 hgg).1 (fun hd => by have := hD g hd; omega)).trans hgg, h3⟩
theorem z2 (c : Nat) (A : Option Addr) (n : Nat) (h : A = none → c = 0) (hn : n ≤ c) (hA : A = none) : Value.slice A n c = .slice none 0 0 := by
  have := h hA
  have : n = 0 := by omega
  subst hA
  subst this
  rw [h rfl]
theorem app_waits (W : World) (A : Option Addr) (c : Nat) (l : List (Nat × Sec)) (h : WR W (.slice A l.length c) l) (hl : l.length ≤ 1073741824) :
    ∃ v' W', (Builtin.append_ #[47, 47] 47 #[.slice none 0 0, .slice A l.length c]).run Try.prog W = .ok v' W' ∧ W'.ownsRow W.heap.size 126 2 v' l.length (wtc l) ∧ Grew W W' := by
  obtain ⟨i, z, hi, hz, hs, hb, hzs⟩ := parts70
  obtain ⟨A', c', e, q1, q2, q3, q4⟩ := h
  injection e with e1 _ e3
  subst e1 e3
  cases A with
  | none =>
    have h0 := q3 rfl
    have : l = [] := List.eq_nil_of_length_eq_zero (by omega)
    subst this
    subst h0
    exact ⟨_, W, run_append_owned_none (P := Try.prog) (w := W) W.heap.size 47 47 126 i 2 Try.underlying47 hi _ 0 [] (World.ownsRow_nil _ _ _ _), World.ownsRow_nil _ _ _ _, Grew.refl _⟩
  | some ad =>
    obtain ⟨v', W', hr, h2, h3, _⟩ := run_append_own (P := Try.prog) W W.heap.size 47 47 126 i z 2 24 Try.underlying47 hi hz hs hb hzs (by omega) (.slice none 0 0) 0 [] (World.ownsRow_nil _ _ _ _) ad l.length c (wtc l) (wtc_length l) (q4 ad rfl).2 (wtc_one l) (by unfold maxLen; omega) (by omega) (Nat.le_refl _)
    exact ⟨v', W', hr, by simpa using h2, below_of_grown W h3 (Nat.le_refl _) fun k hk => by simp [Value.ownBlock] at hk⟩
theorem app_one (W : World) (base : Nat) (v : Value) (l : List (Nat × Sec)) (p : Nat × Sec) (kk : Nat) (hown : W.ownsRow base 126 2 v l.length (wtc l)) (hk : ∀ j u, (wt p)[j]? = some u → W.cell? ((⟨kk, 0, none⟩ : Addr).add j) = some u) (hl : l.length ≤ 1073741824) (hb : base ≤ W.heap.size) :
    ∃ v' W', (Builtin.append_ #[47, 47] 47 #[v, .slice (some ⟨kk, 0, none⟩) 1 1]).run Try.prog W = .ok v' W' ∧ W'.ownsRow base 126 2 v' (l ++ [p]).length (wtc (l ++ [p])) ∧ Below base W W' := by
  obtain ⟨i, z, hi, hz, hs, hby, hzs⟩ := parts70
  obtain ⟨v', W', hr, h2, h3, _⟩ := run_append_own (P := Try.prog) W base 47 47 126 i z 2 24 Try.underlying47 hi hz hs hby hzs (by omega) v l.length (wtc l) hown ⟨kk, 0, none⟩ 1 1 (wt p) rfl hk (by intro u hu; simp [wt] at hu; rcases hu with rfl | rfl <;> rfl) (by unfold maxLen; omega) (by omega) hb
  exact ⟨v', W', hr, by rw [List.length_append, List.length_singleton, wtc_snoc]; exact h2, below_of_grown W h3 hb fun k hk => (hown.lt k hk).1⟩
theorem wpList_app {P : Program} {ops : Array Oper} {rest : List Oper} {o : Oper} {a : Act} {w : World} {Q : Exit → Act → World → Prop} (hgd : o.guard = none) (s x : Operand) (t tn : TypeId)
    (ho : o.op = .call { callee := .builtin .append, args := #[s, x], argTypes := #[t, tn] }) (vs vx : Value) (hs : a.eval s = vs) (hx : a.eval x = vx) (v' : Value) (w' : World)
    (hr : (Builtin.append_ #[t, tn] o.type #[vs, vx]).run P w = .ok v' w') (h : wpList P ops Q rest (a.put o.dst v') w') : wpList P ops Q (o :: rest) a w := by
  refine wpList_plain hgd fun K hK => ?_
  unfold Oper.wp execOp
  simp only [ho, resolve, invoke, builtin, Sem.run_bind, Sem.run_pure, Result.andThen_ok, List.map_toArray, List.map_cons, List.map_nil, hs, hx, hr]
  exact hK _ _ h

set_option maxHeartbeats 4000000 in
theorem rwrite_good (r : Rp) (v vb : Value) (n : Nat) (S : Nat → Prop) (l : Sec) (w : World) (h : RD w v r) (hr : Rd S w vb l) (ho : r.off = false) (hn : n < r.now.length) (hn2 : r.now.length ≤ 16384) (hl : l.length = 128) (hw : r.waits.length ≤ 1073741823) :
    Calls Try.prog 33 #[v, .int .i64 (n : Int), vb] w fun e w' => ∃ v', e = .returned (.tuple #[v', .int .i64 (if (rburnt (rnoted r n l)).off then 15 else 0)]) ∧ RD w' v' (rburnt (rnoted r n l)) ∧ Grew w w' := by
  obtain ⟨⟨A1, A2, A3, c1, c2, c3, rfl, h1, h2, h3, t1, t2, t3⟩, f1, f2⟩ := h
  have HT2 := Lib.hid t2
  clear t1 t2 t3
  obtain ⟨Ab, cb, rfl, hb1, hb2, hb3, hb4⟩ := id hr
  have HRB := Lib.hid hr
  have hoff := ho
  rw [hl] at hr HRB hb1 ⊢
  rw [ho]
  have HCV : Hid (∀ W, Grew w W → (convert 23 9 (.slice Ab 128 cb)).run Try.prog W = .ok (.string ⟨l.toArray⟩) W) := Lib.hid fun W hg => conv34 (hr.grew hg)
  have HS1 := Lib.hid h1
  have HS2 := Lib.hid h2
  have HS3 := Lib.hid h3
  clear h1 h2 h3 hr hb4 hb3
  have hcv := HCV.out _ ((grew_new (w := w) (.cells #[.slice A1 r.now.length c1, .slice A2 r.safe.length c2, .slice A3 r.waits.length c3, .int .i64 r.fuse, .bool false] 49)).trans (grew_new (.cells #[.slice none 0 0, .slice none 0 0, .slice none 0 0, .int .i64 0, .bool false] 49)))
  obtain ⟨f', hf'⟩ : ∃ f', (if 0 ≤ r.fuse then r.fuse - 1 else r.fuse) = f' := ⟨_, rfl⟩
  obtain ⟨o', ho'⟩ : ∃ o', (false || r.fuse == 0) = o' := ⟨_, rfl⟩
  have eR : rburnt (rnoted r n l) = ⟨r.now.set n l, r.safe, r.waits ++ [(n, l)], f', o'⟩ := by
    unfold rburnt rnoted
    rw [← hf', ← ho', ← hoff]
  rw [eR]
  have hf1' : -1 ≤ f' := by rw [← hf']; split <;> omega
  have hf2' : f' ≤ 9223372036854775807 := by rw [← hf']; split <;> omega
  unfold dv
  go_enter Try.func33, Try.ntmps33
  go_wp2_with fail
  refine (with_any n l _ r.now _ (HS1.out.grew ((grew_new (w := w) _).trans (grew_new _))) hn2 (by omega)).mono ?_
  rintro e w1 ⟨v1, rfl, hown1, hg1⟩
  rw [show (w.alloc _).alloc _ = (w.alloc (.cells #[.slice A1 r.now.length c1, .slice A2 r.safe.length c2, .slice A3 r.waits.length c3, .int .i64 r.fuse, .bool false] 49)).alloc (.cells #[.slice none 0 0, .slice none 0 0, .slice none 0 0, .int .i64 0, .bool false] 49) from rfl] at hg1
  have B1 := DWrite.keepB (heapA w _ _) hg1
  have B2 := DWrite.keepB (heapB w _ _) hg1
  have GW : Grew w w1 := ((grew_new (w := w) _).trans (grew_new _)).trans hg1
  have hl1 : (r.now.set n l).length = r.now.length := by simp
  have SR1 : SR w1 v1 (r.now.set n l) := SR.of_own (by rw [hl1]; exact hown1)
  obtain ⟨A1', c1', e1, q1, q2, q3, q4⟩ := id SR1
  rw [hl1] at e1 q1
  subst e1
  have S1 := stores 46 (by kernel_rfl) 0 w1 _ _ B1 A1' c1' r.now.length (by simp)
  have R1 := Go.heap_setCell_same w1 w.heap.size 0 _ 49 (.slice A1' r.now.length c1') B1
  have K1 : DSmall.Kept (fun k => k = w.heap.size) w1 (w1.setCell ⟨w.heap.size, 0, none⟩ (.slice A1' r.now.length c1')) := DSmall.Kept.set _ _ rfl
  generalize (w1.setCell ⟨w.heap.size, 0, none⟩ (.slice A1' r.now.length c1')) = w2 at *
  have G2 : Grew w w2 := DAlive.grew_kept GW K1 (fun k hk => by rw [hk]; exact Nat.le_refl _)
  have B2' := (K1.block (w.heap.size + 1) (Array.getElem?_eq_some_iff.1 B2).1 (by omega)).trans B2
  have O2 : w2.ownsRow (w.heap.size + 2) 9 1 (.slice A1' r.now.length c1') r.now.length (svs (r.now.set n l)) := own_kept (by simpa using hown1) K1 (fun k hk => by omega)
  have C2 : w2.cell? ⟨w.heap.size, 2, none⟩ = some (.slice A3 r.waits.length c3) := cell_of_row _ _ _ _ _ _ R1
  obtain ⟨v8, w3, hr3, hown3, hg3⟩ := app_waits w2 A3 c3 r.waits (HS3.out.grew G2) (by omega)
  have G3 : Grew w w3 := G2.trans hg3
  have R3 := DWrite.keepB R1 hg3
  have B3 := DWrite.keepB B2' hg3
  have O3 := own_gen O2 hg3
  have hcv3 := HCV.out w3 G3
  have hgn : Grew w3 (w3.alloc (.cells #[.int .i64 (n : Int), .string ⟨l.toArray⟩] 126)) := grew_new _
  have hnew : ∀ j u, (wt (n, l))[j]? = some u → (w3.alloc (.cells #[.int .i64 (n : Int), .string ⟨l.toArray⟩] 126)).cell? ((⟨w3.heap.size, 0, none⟩ : Addr).add j) = some u := fun j u hu => by
    rw [Addr.add_mid, cell_of_row _ _ _ _ _ _ (heap_alloc_new w3 _), Nat.zero_add]
    simpa [wt, sv] using hu
  have hsz23 : w.heap.size + 2 ≤ w2.heap.size := by have := (Array.getElem?_eq_some_iff.1 B2').1; omega
  obtain ⟨v9, w4, hr4, hown4, hb4⟩ := app_one (w3.alloc (.cells #[.int .i64 (n : Int), .string ⟨l.toArray⟩] 126)) w2.heap.size v8 r.waits (n, l) w3.heap.size (own_gen hown3 hgn) hnew (by omega) (Nat.le_trans hg3.size hgn.size)
  have K4 : ∀ k, k < w2.heap.size → w4.heap[k]? = w3.heap[k]? := fun k hk => (hb4.block k hk).trans (hgn.block k (Nat.lt_of_lt_of_le hk hg3.size))
  have hw2 : w.heap.size + 1 < w2.heap.size := (Array.getElem?_eq_some_iff.1 B2').1
  have R4 := (K4 w.heap.size (by omega)).trans R3
  have B4 := (K4 (w.heap.size + 1) hw2).trans B3
  have G4 : Grew w w4 := Gr (G3.trans hgn) ⟨hb4.os, hb4.tape, hb4.output, hb4.size, fun k hk => hb4.block k (by omega)⟩
  have O4 : w4.ownsRow (w.heap.size + 2) 9 1 (.slice A1' r.now.length c1') r.now.length (svs (r.now.set n l)) := by
    refine ⟨O3.1, ?_⟩
    rcases O2.2 with h2 | ⟨g, cap, cur, e, hb, hgg, h3⟩
    · exact .inl h2
    · exact .inr ⟨g, cap, cur, e, hb, (K4 g (Array.getElem?_eq_some_iff.1 hgg).1).trans ((hg3.block g (Array.getElem?_eq_some_iff.1 hgg).1).trans hgg), h3⟩
  rw [show (r.waits ++ [(n, l)]).length = r.waits.length + 1 by simp] at hown4
  obtain ⟨A9, c9, rfl⟩ := DBuild.own_block hown4
  have S5 := stores 47 (by kernel_rfl) 2 w4 _ _ R4 A9 c9 (r.waits.length + 1) (by simp)
  have R5 := Go.heap_setCell_same w4 w.heap.size 2 _ 49 (.slice A9 (r.waits.length + 1) c9) R4
  have K5 : DSmall.Kept (fun k => k = w.heap.size) w4 (w4.setCell ⟨w.heap.size, 2, none⟩ (.slice A9 (r.waits.length + 1) c9)) := DSmall.Kept.set _ _ rfl
  generalize (w4.setCell ⟨w.heap.size, 2, none⟩ (.slice A9 (r.waits.length + 1) c9)) = w5 at *
  have G5 : Grew w w5 := DAlive.grew_kept G4 K5 (fun k hk => by rw [hk]; exact Nat.le_refl _)
  have B5 := (K5.block (w.heap.size + 1) (Array.getElem?_eq_some_iff.1 B4).1 (by omega)).trans B4
  have O5 := own_kept O4 K5 (fun k hk => by omega)
  have W5 := own_kept hown4 K5 (fun k hk => by omega)
  have hset : (r.now.set n l).length = r.now.length := by simp
  have L5 := load5 w5 w.heap.size A1' A2 A9 r.now.length r.safe.length (r.waits.length + 1) c1' c2 c9 r.fuse false R5
  have hbn := (fun W => burns_any A1' A2 A9 r.now.length r.safe.length (r.waits.length + 1) c1' c2 c9 r.fuse false W f2 (by omega))
  rw [hf', ho'] at hbn
  have HB := Lib.hid hbn
  clear hbn
  have HS1' := Lib.hid S1
  have HR3 := Lib.hid hr3
  have HCV3 := Lib.hid hcv3
  have HR4 := Lib.hid hr4
  have HS5 := Lib.hid S5
  have HL5 := Lib.hid L5
  have HG5 := Lib.hid G5
  have HB5 := Lib.hid B5
  have HR5 := Lib.hid R5
  have HO5 := Lib.hid O5
  have HW5 := Lib.hid W5
  have hcv3' := HCV3.out
  clear eR hf' ho' hoff hcv B1 B2 R1 K1 B2' O2 R3 B3 O3 hg3 G3 hgn hnew R4 B4 G4 O4 K5 G5 B5 O5 W5 L5 S5 hr4 hr3 S1 K4 SR1 q4 q3 hown1 hown3 hown4 hb4 hg1 GW G2 R5
  go_wp2_with (first
    | refine DArm.wpList_store (by rfl) 46 (.tmp 32) (.tmp 31) (by with_reducible rfl) _ _ (by rfl) (by rfl) _ HS1'.out ?_
    | refine wpList_app (by rfl) (.tmp 33) (.tmp 35) 47 47 (by with_reducible rfl) _ _ (by rfl) (by rfl) _ _ HR3.out ?_
    | refine wpList_app (by rfl) (.tmp 37) (.tmp 42) 47 47 (by with_reducible rfl) _ _ (by rfl) (by rfl) _ _ HR4.out ?_
    | refine DArm.wpList_store (by rfl) 47 (.tmp 45) (.tmp 44) (by with_reducible rfl) _ _ (by rfl) (by rfl) _ HS5.out ?_
    | refine DArm.wpList_load (by rfl) 49 (.tmp 3) (by with_reducible rfl) _ _ (by rfl) HL5.out ?_)
  refine (HB.out _).mono ?_
  rintro e w6 ⟨rfl, g6⟩
  have R6 := DWrite.keepB HR5.out g6
  have B6 := DWrite.keepB HB5.out g6
  have G6 : Grew w w6 := HG5.out.trans g6
  have O6 := own_gen HO5.out g6
  have W6 := own_gen HW5.out g6
  have S7 := store5 w6 _ _ R6 (by simp) A1' A2 A9 r.now.length r.safe.length (r.waits.length + 1) c1' c2 c9 f' o'
  have R7 := setRow_heap w6 _ _ (d5 A1' A2 A9 r.now.length r.safe.length (r.waits.length + 1) c1' c2 c9 f' o').toArray _ _ R6
  have B7 := (setRow_other w6 w.heap.size (w.heap.size + 1) (d5 A1' A2 A9 r.now.length r.safe.length (r.waits.length + 1) c1' c2 c9 f' o').toArray (by omega)).trans B6
  have K7 : ∀ k, w.heap.size < k → (w6.setRow w.heap.size (d5 A1' A2 A9 r.now.length r.safe.length (r.waits.length + 1) c1' c2 c9 f' o').toArray).heap[k]? = w6.heap[k]? := fun k hk => setRow_other w6 w.heap.size k _ (by omega)
  have G7 : Grew w (w6.setRow w.heap.size (d5 A1' A2 A9 r.now.length r.safe.length (r.waits.length + 1) c1' c2 c9 f' o').toArray) := below_setRow G6 (Nat.le_refl _) _
  generalize (w6.setRow w.heap.size (d5 A1' A2 A9 r.now.length r.safe.length (r.waits.length + 1) c1' c2 c9 f' o').toArray) = w7 at *
  have C7 : w7.cell? ⟨w.heap.size, 4, none⟩ = some (.bool o') := cell_of_row _ _ _ _ _ _ R7
  have L7 := load5 w7 w.heap.size A1' A2 A9 r.now.length r.safe.length (r.waits.length + 1) c1' c2 c9 f' o' R7
  have S8 := store5 w7 _ _ B7 (by simp) A1' A2 A9 r.now.length r.safe.length (r.waits.length + 1) c1' c2 c9 f' o'
  have B8 := setRow_heap w7 _ _ (d5 A1' A2 A9 r.now.length r.safe.length (r.waits.length + 1) c1' c2 c9 f' o').toArray _ _ B7
  have K8 : ∀ k, w.heap.size + 1 < k → (w7.setRow (w.heap.size + 1) (d5 A1' A2 A9 r.now.length r.safe.length (r.waits.length + 1) c1' c2 c9 f' o').toArray).heap[k]? = w7.heap[k]? := fun k hk => setRow_other w7 (w.heap.size + 1) k _ (by omega)
  have G8 : Grew w (w7.setRow (w.heap.size + 1) (d5 A1' A2 A9 r.now.length r.safe.length (r.waits.length + 1) c1' c2 c9 f' o').toArray) := below_setRow G7 (by omega) _
  have L8 := run_loadVar_mid (P := Try.prog) _ (w.heap.size + 1) 0 49 (d5 A1' A2 A9 r.now.length r.safe.length (r.waits.length + 1) c1' c2 c9 f' o') _ (fun j v hv => by rw [cell_of_row _ _ _ _ _ _ B8, Nat.zero_add]; simpa using hv) Try.underlying49 rfl size32
  generalize (w7.setRow (w.heap.size + 1) (d5 A1' A2 A9 r.now.length r.safe.length (r.waits.length + 1) c1' c2 c9 f' o').toArray) = w8 at *
  have own8 : ∀ {b e m k : Nat} {v : Value} {xs : List Value}, w6.ownsRow b e m v k xs → w.heap.size + 2 ≤ b → w8.ownsRow b e m v k xs := fun {b e m k v xs} h hb => by
    refine ⟨h.1, ?_⟩
    rcases h.2 with h2 | ⟨g, cap, cur, rfl, hbg, hgg, h3⟩
    · exact .inl h2
    · exact .inr ⟨g, cap, cur, rfl, hbg, (K8 g (by omega)).trans ((K7 g (by omega)).trans hgg), h3⟩
  have HRD : Hid (RD w8 (dv A1' A2 A9 r.now.length r.safe.length (r.waits.length + 1) c1' c2 c9 f' o') ⟨r.now.set n l, r.safe, r.waits ++ [(n, l)], f', o'⟩) := Lib.hid (by
    have e1 : (r.now.set n l).length = r.now.length := by simp
    have e2 : (r.waits ++ [(n, l)]).length = r.waits.length + 1 := by simp
    refine ⟨⟨A1', A2, A9, c1', c2, c9, by show _ = dv _ _ _ (r.now.set n l).length _ (r.waits ++ [(n, l)]).length _ _ _ _ _; rw [e1, e2], ?_, HS2.out.grew G8, ?_, ?_, HT2.out.grew G8, ?_⟩, hf1', hf2'⟩
    · have := own8 O6 (Nat.le_refl _)
      rw [← e1] at this
      exact SR.of_own this
    · have := own8 W6 (by omega)
      rw [← e2] at this
      exact WR.of_own this
    · show Tg w8 (.slice A1' (r.now.set n l).length c1') 9
      rw [e1]
      exact Tg.of_own (own8 O6 (Nat.le_refl _))
    · show Tg w8 (.slice A9 (r.waits ++ [(n, l)]).length c9) 126
      rw [e2]
      exact Tg.of_own (own8 W6 (by omega)))
  have HS7 := Lib.hid S7
  have HL7 := Lib.hid L7
  have HS8 := Lib.hid S8
  have HL8 := Lib.hid L8
  have HG8 := Lib.hid G8
  clear R6 B6 G6 O6 W6 S7 R7 B7 K7 G7 L7 S8 B8 K8 G8 L8 own8 HL5 HS5 HR4 HCV3 HR3 HS1' HB HB5 HR5 HO5 HW5 HG5 g6 hf1' hf2' hcv3 hcv3' C2
  cases o'
  all_goals
    go_wp2_with (first
      | refine DArm.wpList_store (by rfl) 49 (.tmp 3) (.tmp 47) (by with_reducible rfl) _ _ (by rfl) (by rfl) _ HS7.out ?_
      | refine DArm.wpList_load (by rfl) 49 (.tmp 3) (by with_reducible rfl) _ _ (by rfl) HL7.out ?_
      | refine DArm.wpList_store (by rfl) 49 (.tmp 6) (.tmp 50) (by with_reducible rfl) _ _ (by rfl) (by rfl) _ HS8.out ?_
      | refine DArm.wpList_store (by rfl) 49 (.tmp 6) (.tmp 51) (by with_reducible rfl) _ _ (by rfl) (by rfl) _ HS8.out ?_)
  · refine bodyPost_ret (v := .tuple #[dv A1' A2 A9 r.now.length r.safe.length (r.waits.length + 1) c1' c2 c9 f' false, .int .i64 0]) ?_ rfl ⟨_, rfl, HRD.out, HG8.out⟩
    have hld := HL8.out
    simp [results, Try.results33]
    simp [asAddr, hld, d5, dv]
  · refine bodyPost_ret (v := .tuple #[dv A1' A2 A9 r.now.length r.safe.length (r.waits.length + 1) c1' c2 c9 f' true, .int .i64 15]) ?_ rfl ⟨_, rfl, HRD.out, HG8.out⟩
    have hld := HL8.out
    simp [results, Try.results33]
    simp [asAddr, hld, d5, dv]
end Go.Proofs.Ytbnicphegbdfnaa.DRefD
