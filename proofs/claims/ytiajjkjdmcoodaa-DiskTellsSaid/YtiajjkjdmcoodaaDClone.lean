/-
  A disk like another one.
  Conditions: those that each lemma names.
-/
import Derived.Test.YtiajjkjdmcoodaaDFlush
namespace Go.Proofs.Ytiajjkjdmcoodaa.DClone
set_option maxRecDepth 100000
open Go Go.RowKit Go.Proofs.Ytiajjkjdmcoodaa Go.Proofs.Ytiajjkjdmcoodaa.Facts Go.Proofs.Ytiajjkjdmcoodaa.Bytes Go.Proofs.Ytiajjkjdmcoodaa.DKeep Go.Proofs.Ytiajjkjdmcoodaa.DSmall Go.Proofs.Ytiajjkjdmcoodaa.DTurn Go.Proofs.Ytiajjkjdmcoodaa.DArm Go.Proofs.Ytiajjkjdmcoodaa.DRead Go.Proofs.Ytiajjkjdmcoodaa.DNew Go.Proofs.Ytiajjkjdmcoodaa.DBuild Go.Proofs.Ytiajjkjdmcoodaa.DWrite Go.Proofs.Ytiajjkjdmcoodaa.DOver Go.Proofs.Ytiajjkjdmcoodaa.DSettle Go.Proofs.Ytiajjkjdmcoodaa.DFlush

theorem eqlNil59 (w : World) (a : Option Addr) (n c n' c' : Nat) : (binOp .eql 59 (.slice a n c) (.slice none n' c')).run Try.prog w = .ok (.bool a.isNone) w :=
  Lib.run_eql_slice_nil w _ _ a n c n' c' Try.underlying59
theorem eqlNil60 (w : World) (a : Option Addr) (n c n' c' : Nat) : (binOp .eql 60 (.slice a n c) (.slice none n' c')).run Try.prog w = .ok (.bool a.isNone) w :=
  Lib.run_eql_slice_nil w _ _ a n c n' c' Try.underlying60
theorem scells_one (l : List Sec) : ∀ u ∈ scells l, u.oneCell' = true := by
  intro u hu
  obtain ⟨B, _, hB⟩ := List.mem_flatMap.1 hu
  exact bv_one B u hB
theorem wcells_one (l : List (Nat × Sec)) : ∀ u ∈ wcells l, u.oneCell' = true := by
  intro u hu
  obtain ⟨p, _, hp⟩ := List.mem_flatMap.1 hu
  exact wr_one p.1 p.2 u hp

/-- A row of sectors that is new since w0. -/
def QR (w0 w : World) (v : Value) (l : List Sec) : Prop := ∃ a c, v = .slice (some ⟨a, 0, none⟩) l.length c ∧ w0.heap.size ≤ a ∧ RowAt w a l ∧ l.length ≤ c ∧ c ≤ 9223372036854775807
theorem QR.grew {w0 w w' : World} {v : Value} {l : List Sec} (h : QR w0 w v l) (hg : Grew w w') : QR w0 w' v l := by
  obtain ⟨a, c, h1, h2, h3, h4⟩ := h
  exact ⟨a, c, h1, h2, row_grew h3 hg, h4⟩
theorem z65f : (Try.prog.info? 65).map (fun i => (i.zero.map (·.cells.size), i.size, i.bytes)) = some (some 128, 128, 128) := by kernel_rfl
theorem z67f : (Try.prog.info? 67).map (fun i => (i.zero.map (·.cells.size), i.size, i.bytes)) = some (some 129, 129, 136) := by kernel_rfl
theorem parts65 : ∃ i z, Try.prog.info? 65 = some i ∧ i.zero = some z ∧ i.size = 128 ∧ i.bytes = 128 ∧ z.cells.size = 128 := by
  cases hq : Try.prog.info? 65 with
  | none => have := z65f; simp [hq] at this
  | some i =>
    have h := z65f
    simp only [hq, Option.map_some, Option.some.injEq, Prod.mk.injEq] at h
    cases hz : i.zero with
    | none => simp [hz] at h
    | some z => exact ⟨i, z, rfl, hz, h.2.1, h.2.2, by simpa [hz] using h.1⟩
theorem parts67 : ∃ i z, Try.prog.info? 67 = some i ∧ i.zero = some z ∧ i.size = 129 ∧ i.bytes = 136 ∧ z.cells.size = 129 := by
  cases hq : Try.prog.info? 67 with
  | none => have := z67f; simp [hq] at this
  | some i =>
    have h := z67f
    simp only [hq, Option.map_some, Option.some.injEq, Prod.mk.injEq] at h
    cases hz : i.zero with
    | none => simp [hz] at h
    | some z => exact ⟨i, z, rfl, hz, h.2.1, h.2.2, by simpa [hz] using h.1⟩

set_option maxHeartbeats 2000000 in
theorem clone_rows (w : World) (a c : Nat) (l : List Sec) (h : RowAt w a l) (he : Even l) (hl : l.length ≤ 16384) (hc : l.length ≤ c) (hc2 : c ≤ 9223372036854775807) (h1 : 1 ≤ l.length) :
    Calls Try.prog 35 #[.slice (some ⟨a, 0, none⟩) l.length c] w fun e w' => ∃ v', e = .returned v' ∧ QR w w' v' l ∧ Grew w w' := by
  have qn := eqlNil59
  obtain ⟨i, z, hi, hz, hs, hb, hzs⟩ := parts65
  obtain ⟨cur, hg, ht⟩ := h
  have hsl := scells_length l he
  have hcell : Hid (∀ j u, (scells l)[j]? = some u → (w.alloc (.cells #[] 65)).cell? ((⟨a, 0, none⟩ : Addr).add j) = some u) := Lib.hid fun j u hu => by
    refine Lib.cell?_alloc_some _ ?_
    rw [Addr.add_mid, cell_of_row _ _ _ _ _ _ hg, Nat.zero_add, ← Array.getElem?_toList]
    rw [← ht, List.getElem?_take] at hu
    split at hu
    · exact hu
    · cases hu
  have HSL := Lib.hid hsl
  have H1 := Lib.hid h1
  have HLL := Lib.hid hl
  clear hg ht hsl h1
  go_enter Try.func35, Try.ntmps35
  go_wp2_with (at_builtin; refine wpList_append_own _ rfl _ _ 59 rfl w.heap.size 65 i z 128 128 Try.underlying59 hi hz hs hb hzs (by decide) _ _ _ rfl (World.ownsRow_made w #[] 0 (Nat.le_refl _) (Nat.zero_le _) rfl) ⟨a, 0, none⟩ l.length c (scells l) rfl ?qc1 ?qc2 ?qc3 ?qc4 ?qc5 ?qc6 ?_)
  case qc1 => exact HSL.out
  case qc2 => exact hcell.out
  case qc3 => exact scells_one l
  case qc4 => unfold maxLen; omega
  case qc5 => omega
  case qc6 => simp
  intro v' w1 hown hgrow _
  go_wp2
  go_ret
  refine ⟨v', rfl, ?_, ((Below.refl _ w).alloc (Nat.le_refl _) _).grown hgrow (by simp) (by intro k hk; simp [Value.ownBlock] at hk; omega)⟩
  have h1 := H1.out
  rcases hown.2 with ⟨_, h0⟩ | ⟨q, cap, cu, rfl, hbq, hq, hnc, hcm, _, htk⟩
  · omega
  · exact ⟨q, cap, rfl, hbq, ⟨cu, hq, htk⟩, hnc, by unfold maxLen at hcm; omega⟩

set_option maxHeartbeats 2000000 in
theorem clone_writes (w : World) (v : Value) (m : Nat) (l : List (Nat × Sec)) (h : w.ownsRow 0 67 129 v l.length (wcells l)) (hf : Fit m l) (hl : l.length ≤ 1073741824) :
    Calls Try.prog 36 #[v] w fun e w' => ∃ v', e = .returned v' ∧ w'.ownsRow w.heap.size 67 129 v' l.length (wcells l) ∧ Grew w w' := by
  have qn := eqlNil60
  have HH := Lib.hid h
  rcases h.2 with ⟨rfl, h0⟩ | ⟨q, c, cur, rfl, _, hg, hnc, hcm, _, _⟩
  · have hx : l = [] := List.eq_nil_of_length_eq_zero h0
    subst hx
    clear h
    go_enter Try.func36, Try.ntmps36
    go_wp2
    go_ret
    exact ⟨_, rfl, World.ownsRow_nil _ _ _ _, Grew.refl _⟩
  · obtain ⟨i, z, hi, hz, hs, hb, hzs⟩ := parts67
    have hcell : Hid (∀ j u, (wcells l)[j]? = some u → (w.alloc (.cells #[] 67)).cell? ((⟨q, 0, none⟩ : Addr).add j) = some u) := Lib.hid fun j u hu => Lib.cell?_alloc_some _ (HH.out.cells (g := q) rfl j u hu)
    have HSL := Lib.hid (wcells_length m l hf)
    have HLL := Lib.hid hl
    clear h hg hcm hnc
    go_enter Try.func36, Try.ntmps36
    go_wp2_with (at_builtin; refine wpList_append_own _ rfl _ _ 60 rfl w.heap.size 67 i z 129 136 Try.underlying60 hi hz hs hb hzs (by decide) _ _ _ rfl (World.ownsRow_made w #[] 0 (Nat.le_refl _) (Nat.zero_le _) rfl) ⟨q, 0, none⟩ l.length c (wcells l) rfl ?qc1 ?qc2 ?qc3 ?qc4 ?qc5 ?qc6 ?_)
    case qc1 => exact HSL.out
    case qc2 => exact hcell.out
    case qc3 => exact wcells_one l
    case qc4 => unfold maxLen; omega
    case qc5 => omega
    case qc6 => simp
    intro v' w1 hown hgrow _
    go_wp2
    go_ret
    refine ⟨v', rfl, by simpa using hown, ((Below.refl _ w).alloc (Nat.le_refl _) _).grown hgrow (by simp) (by intro k hk; simp [Value.ownBlock] at hk; omega)⟩

structure JC (w0 : World) (d : Pd) (m : Nat → Bool) (u : Nat → Value) (w : World) : Prop where
  grew : Grew w0 w
  s4 : m 4 = true → QR w0 w (u 4) d.safe
  s9 : m 9 = true → QR w0 w (u 9) d.last
  s14 : m 14 = true → w.ownsRow w0.heap.size 67 129 (u 14) d.waits.length (wcells d.waits)
  ne : m 4 = true → m 9 = true → (u 4).ownBlock ≠ (u 9).ownBlock
  d23 : m 23 = true → m 4 = true ∧ m 9 = true ∧ m 14 = true
  s23 : m 23 = true → u 23 = .agg #[u 4, u 9, u 14, .int .i64 d.fuse, .bool d.off]
  d24 : m 24 = true → m 23 = true
  s24 : m 24 = true → ∃ g', u 24 = dptr g' ∧ w0.heap.size ≤ g' ∧ w.heap[g']? = some (.cells #[u 4, u 9, u 14, .int .i64 d.fuse, .bool d.off] 62 (0, 0))
  d25 : m 25 = true → m 24 = true
  s25 : m 25 = true → u 25 = u 24
section
variable {w0 : World} {d : Pd} {m : Nat → Bool} {u : Nat → Value} {w : World}
theorem JC.start (w : World) (d : Pd) : JC w d (fun _ => false) (fun _ => undef) w.drew :=
  ⟨(Grew.refl w).drew, (fun h => by cases h), (fun h => by cases h), (fun h => by cases h), (fun h => by cases h), (fun h => by cases h), (fun h => by cases h), (fun h => by cases h), (fun h => by cases h), (fun h => by cases h), (fun h => by cases h)⟩
theorem own_grew {w w' : World} {b n : Nat} {v : Value} {xs : List Value} (h : w.ownsRow b 67 129 v n xs) (hg : Grew w w') : w'.ownsRow b 67 129 v n xs := by
  refine ⟨h.1, ?_⟩
  rcases h.2 with h2 | ⟨g, cap, cur, rfl, hb, hgg, h3⟩
  · exact .inl h2
  · exact .inr ⟨g, cap, cur, rfl, hb, keepB hgg hg, h3⟩
theorem JC.step (h : JC w0 d m u w) (k : Nat) (v : Value) (w' : World) (hm : m k = false) (hg : Grew w w')
    (h4 : k = 4 → QR w0 w' v d.safe ∧ (m 9 = true → v.ownBlock ≠ (u 9).ownBlock)) (h9 : k = 9 → QR w0 w' v d.last ∧ (m 4 = true → (u 4).ownBlock ≠ v.ownBlock)) (h14 : k = 14 → w'.ownsRow w0.heap.size 67 129 v d.waits.length (wcells d.waits))
    (h23 : k = 23 → (m 4 = true ∧ m 9 = true ∧ m 14 = true) ∧ v = .agg #[u 4, u 9, u 14, .int .i64 d.fuse, .bool d.off]) (h24 : k = 24 → m 23 = true ∧ ∃ g', v = dptr g' ∧ w0.heap.size ≤ g' ∧ w'.heap[g']? = some (.cells #[u 4, u 9, u 14, .int .i64 d.fuse, .bool d.off] 62 (0, 0)))
    (h25 : k = 25 → m 24 = true ∧ v = u 24) : JC w0 d (Marks.upd m k) (Marks.updv u k v) w' := by
  have up : ∀ j, j ≠ k → Marks.upd m k j = m j := fun j hj => Marks.upd_other m hj
  have uv : ∀ j, j ≠ k → Marks.updv u k v j = u j := fun j hj => Marks.updv_other u v hj
  have nek : ∀ j, m j = true → j ≠ k := fun j hj e => by rw [e, hm] at hj; cases hj
  have mono : ∀ j, m j = true → Marks.upd m k j = true := fun j hj => by rw [up j (nek j hj)]; exact hj
  have old : ∀ j, j ≠ k → Marks.upd m k j = true → m j = true := fun j hj hh => by rwa [up j hj] at hh
  refine ⟨h.grew.trans hg, ?_, ?_, ?_, ?_, ?_, ?_, ?_, ?_, ?_, ?_⟩
  · intro hh
    by_cases e : (4 : Nat) = k
    · subst e; rw [Marks.updv_same]; exact (h4 rfl).1
    · rw [uv 4 e]; exact (h.s4 (old 4 e hh)).grew hg
  · intro hh
    by_cases e : (9 : Nat) = k
    · subst e; rw [Marks.updv_same]; exact (h9 rfl).1
    · rw [uv 9 e]; exact (h.s9 (old 9 e hh)).grew hg
  · intro hh
    by_cases e : (14 : Nat) = k
    · subst e; rw [Marks.updv_same]; exact h14 rfl
    · rw [uv 14 e]; exact own_grew (h.s14 (old 14 e hh)) hg
  · intro hh1 hh2
    by_cases e : (4 : Nat) = k
    · subst e; rw [Marks.updv_same, uv 9 (by omega)]; exact (h4 rfl).2 (old 9 (by omega) hh2)
    · by_cases e2 : (9 : Nat) = k
      · subst e2; rw [Marks.updv_same, uv 4 (by omega)]; exact (h9 rfl).2 (old 4 (by omega) hh1)
      · rw [uv 4 e, uv 9 e2]; exact h.ne (old 4 e hh1) (old 9 e2 hh2)
  · intro hh
    by_cases e : (23 : Nat) = k
    · subst e; obtain ⟨q1, q2, q3⟩ := (h23 rfl).1; exact ⟨mono 4 q1, mono 9 q2, mono 14 q3⟩
    · obtain ⟨q1, q2, q3⟩ := h.d23 (old 23 e hh); exact ⟨mono 4 q1, mono 9 q2, mono 14 q3⟩
  · intro hh
    by_cases e : (23 : Nat) = k
    · subst e
      rw [Marks.updv_same, uv 4 (by omega), uv 9 (by omega), uv 14 (by omega)]
      exact (h23 rfl).2
    · obtain ⟨q1, q2, q3⟩ := h.d23 (old 23 e hh)
      rw [uv 23 e, uv 4 (nek 4 q1), uv 9 (nek 9 q2), uv 14 (nek 14 q3)]
      exact h.s23 (old 23 e hh)
  · intro hh
    by_cases e : (24 : Nat) = k
    · subst e; exact mono 23 (h24 rfl).1
    · exact mono 23 (h.d24 (old 24 e hh))
  · intro hh
    by_cases e : (24 : Nat) = k
    · subst e
      obtain ⟨q1, q2, q3⟩ := h.d23 (h24 rfl).1
      rw [Marks.updv_same, uv 4 (by omega), uv 9 (by omega), uv 14 (by omega)]
      exact (h24 rfl).2
    · obtain ⟨q1, q2, q3⟩ := h.d23 (h.d24 (old 24 e hh))
      rw [uv 24 e, uv 4 (nek 4 q1), uv 9 (nek 9 q2), uv 14 (nek 14 q3)]
      obtain ⟨g', r1, r2, r3⟩ := h.s24 (old 24 e hh)
      exact ⟨g', r1, r2, keepB r3 hg⟩
  · intro hh
    by_cases e : (25 : Nat) = k
    · subst e; exact mono 24 (h25 rfl).1
    · exact mono 24 (h.d25 (old 25 e hh))
  · intro hh
    by_cases e : (25 : Nat) = k
    · subst e; rw [Marks.updv_same, uv 24 (by omega)]; exact (h25 rfl).2
    · rw [uv 25 e, uv 24 (nek 24 (h.d25 (old 25 e hh)))]
      exact h.s25 (old 25 e hh)
end
theorem run_build62 (A1 A2 A3 : Option Addr) (n1 n2 n3 c1 c2 c3 : Nat) (f : Int) (o : Bool) (u : World) : (Instr.build 62 #[(0, .slice A1 n1 c1), (1, .slice A2 n2 c2), (2, .slice A3 n3 c3), (3, .int .i64 f), (4, .bool o)]).run Try.prog u = .ok (.agg #[.slice A1 n1 c1, .slice A2 n2 c2, .slice A3 n3 c3, .int .i64 f, .bool o]) u := by
  kernel_rfl
section
variable {P : Program} {ops : Array Oper} {o : Oper} {ac : Act} {w : World} {R : World → World → Prop} {J' : Value → World → Prop} {g : Value → World → Prop}
theorem one_build (hgd : o.guard = none) (t : TypeId) (parts : Array (Nat × Operand)) (ho : o.op = .build t parts) (vs : Array (Nat × Value)) (hx : (parts.map fun (i, x) => (i, ac.eval x)) = vs) (v : Value) (hr : (Instr.build t vs).run P w = .ok v w) (h : R w w ∧ J' v w ∧ g v w) : Marks.one P ops o ac w R J' g := by
  unfold Marks.one
  rw [if_pos (by unfold Region.wanted; rw [hgd])]
  unfold execOp
  simp only [ho, hx, Sem.run_bind, Sem.run_pure, Result.andThen_ok, hr]
  exact h
theorem one_box (hgd : o.guard = none) (t : TypeId) (x : Operand) (ho : o.op = .box t x) (cs : Array Value) (hx : ac.eval x = .agg cs) (h : R w (w.alloc (.cells cs t)) ∧ J' (.pointer (some ⟨w.heap.size, 0, none⟩)) (w.alloc (.cells cs t)) ∧ g (.pointer (some ⟨w.heap.size, 0, none⟩)) (w.alloc (.cells cs t))) : Marks.one P ops o ac w R J' g := by
  unfold Marks.one
  rw [if_pos (by unfold Region.wanted; rw [hgd])]
  unfold execOp
  simp only [ho, hx, Instr.box, newVar, newRow, Value.cells, Sem.run_bind, Sem.run_pure, Result.andThen_ok]
  simp
  exact h
end

theorem new_qr {w0 W w' : World} {v : Value} {l : List Sec} (h : QR W w' v l) (hg : Grew w0 W) : QR w0 w' v l := by
  obtain ⟨a, c, h1, h2, h3⟩ := h
  exact ⟨a, c, h1, Nat.le_trans hg.size h2, h3⟩
theorem old_qr {w0 W w' : World} {v v' : Value} {l l' : List Sec} (h : QR W w' v l) (h' : QR w0 W v' l') (e : v.ownBlock = v'.ownBlock) : False := by
  obtain ⟨a, c, rfl, h2, _⟩ := h
  obtain ⟨a', c', rfl, _, h3, _⟩ := h'
  have := h3.lt
  simp [Value.ownBlock] at e
  omega
theorem own_base {w : World} {b b' n : Nat} {v : Value} {xs : List Value} (h : w.ownsRow b 67 129 v n xs) (hb : b' ≤ b) : w.ownsRow b' 67 129 v n xs := by
  refine ⟨h.1, ?_⟩
  rcases h.2 with h2 | ⟨g, cap, cur, rfl, hh, h3⟩
  · exact .inl h2
  · exact .inr ⟨g, cap, cur, rfl, Nat.le_trans hb hh, h3⟩
theorem clone_last {w : World} (W : World) (b cb : Nat) (d : Pd) (h : RowAt w b d.last) (hg : Grew w W) (hok : POk d) (h1 : d.safe.length ≤ cb) (h2 : cb ≤ 9223372036854775807) :
    Calls Try.prog 35 #[.slice (some ⟨b, 0, none⟩) d.safe.length cb] W fun e w' => ∃ v', e = .returned v' ∧ QR W w' v' d.last ∧ Grew W w' := by
  rw [← hok.same]
  exact clone_rows W b cb d.last (row_grew h hg) hok.el (by rw [hok.same]; exact hok.n2) (by rw [hok.same]; exact h1) h2 (by rw [hok.same]; exact hok.n1)
theorem clone_dk (w W : World) (d : Pd) (g' : Nat) (v4 v9 v14 : Value) (hok : POk d) (h1 : w.heap.size ≤ g') (h2 : W.heap[g']? = some (.cells #[v4, v9, v14, .int .i64 d.fuse, .bool d.off] 62 (0, 0))) (q4 : QR w W v4 d.safe) (q9 : QR w W v9 d.last)
    (q14 : W.ownsRow w.heap.size 67 129 v14 d.waits.length (wcells d.waits)) (hne : v4.ownBlock ≠ v9.ownBlock) : DK W g' (fun k => w.heap.size ≤ k ∧ k < W.heap.size) d := by
  obtain ⟨a, ca, rfl, a1, a2, a3, a4⟩ := q4
  obtain ⟨b, cb, rfl, b1, b2, b3, b4⟩ := q9
  have hty : ∀ (k : Nat) (t t' : TypeId) (c c' : Array Value), W.heap[k]? = some (Obj.cells c t (0, 0)) → W.heap[k]? = some (Obj.cells c' t' (0, 0)) → t = t' := fun k t t' c c' x y => by
    rw [x] at y
    injection y with y
    injection y
  obtain ⟨cu, ha, _⟩ := id a2
  obtain ⟨cv, hb, _⟩ := id b2
  have hw : ∀ k, v14.ownBlock = some k → ∃ cw, W.heap[k]? = some (.cells cw 67 (0, 0)) ∧ w.heap.size ≤ k := fun k hk => by
    rcases q14.2 with ⟨rfl, _⟩ | ⟨q, cap, cw, rfl, hb, hg, _⟩
    · cases hk
    · simp [Value.ownBlock] at hk
      subst hk
      exact ⟨cw, hg, hb⟩
  have gl : g' < W.heap.size := (Array.getElem?_eq_some_iff.1 h2).1
  rw [hok.same] at h2
  refine ⟨fun k hk => hk.2, a, b, ca, cb, v14, ⟨h2, a2, b2, own_base q14 (Nat.zero_le _), ?_, ?_, ?_, ?_, ?_, ?_, hok, a3, a4, by rw [← hok.same]; exact b3, b4⟩, ⟨⟨h1, gl⟩, ⟨a1, a2.lt⟩, ⟨b1, b2.lt⟩, fun k hk => ?_⟩⟩
  · intro e; subst e; exact absurd (hty _ _ _ _ _ h2 ha) (by decide)
  · intro e; subst e; exact absurd (hty _ _ _ _ _ h2 hb) (by decide)
  · intro e; subst e; exact hne rfl
  · intro e; obtain ⟨cw, hx, _⟩ := hw g' e; exact absurd (hty _ _ _ _ _ h2 hx) (by decide)
  · intro e; obtain ⟨cw, hx, _⟩ := hw a e; exact absurd (hty _ _ _ _ _ ha hx) (by decide)
  · intro e; obtain ⟨cw, hx, _⟩ := hw b e; exact absurd (hty _ _ _ _ _ hb hx) (by decide)
  · obtain ⟨cw, hx, hy⟩ := hw k hk
    exact ⟨hy, (Array.getElem?_eq_some_iff.1 hx).1⟩

set_option maxHeartbeats 4000000 in
theorem clone_any (w : World) (g : Nat) (D : Nat → Prop) (d : Pd) (h : DK w g D d) (hw : d.waits.length ≤ 1073741824) :
    Calls Try.prog 23 #[dptr g] w fun e w' => ∃ g', e = .returned (dptr g') ∧ DK w' g' (fun k => w.heap.size ≤ k ∧ k < w'.heap.size) d ∧ Grew w w' := by
  have HM := Lib.hid (made_any w g D d h)
  have HW := Lib.hid hw
  obtain ⟨_, a, b, ca, cb, vw, h0, _⟩ := h
  obtain ⟨AW, cW, rfl⟩ := own_block h0.waits
  obtain ⟨c0, c1, c2, c3, c4⟩ := h0.cells
  have C0 := Lib.hid c0
  have C1 := Lib.hid c1
  have C2 := Lib.hid c2
  have C3 := Lib.hid c3
  have C4 := Lib.hid c4
  have HS := Lib.hid h0.safe
  have HLST := Lib.hid h0.last
  have HWT := Lib.hid h0.waits
  have HOK := Lib.hid h0.ok
  have HCA := Lib.hid h0.ca1
  have HCA2 := Lib.hid h0.ca2
  have HCB := Lib.hid h0.cb1
  have HCB2 := Lib.hid h0.cb2
  clear h0 hw c0 c1 c2 c3 c4
  unfold dptr at *
  go_enter Try.func23, Try.ntmps23
  go_wp2_with fail
  refine HM.out.mono ?_
  rintro e w' ⟨rfl, rfl⟩
  go_wp2
  refine Marks.wp_region_text (JC w d) (fun _ _ => True) (by kernel_rfl) (by kernel_rfl) (JC.start w d) ?_
  apply Marks.Lex.exact [] _ (by kernel_rfl)
  · intro m u W hm hcl hJ _
    unfold Marks.one
    go_simp
    exact ⟨trivial, hJ.step 0 _ _ hm (Grew.refl _) (fun e => by omega) (fun e => by omega) (fun e => by omega) (fun e => by omega) (fun e => by omega) (fun e => by omega), rfl⟩
  simp only [Act.put, List.setIfInBounds_toArray, List.set_cons_zero, List.set_cons_succ, Nat.zero_add, Nat.reduceAdd]
  apply Marks.Lex.exact [] _ (by kernel_rfl)
  · intro m u W hm hcl hJ _
    unfold Marks.one
    go_simp
    exact ⟨trivial, hJ.step 1 _ _ hm (Grew.refl _) (fun e => by omega) (fun e => by omega) (fun e => by omega) (fun e => by omega) (fun e => by omega) (fun e => by omega), rfl⟩
  simp only [Act.put, List.setIfInBounds_toArray, List.set_cons_zero, List.set_cons_succ, Nat.zero_add, Nat.reduceAdd]
  apply Marks.Lex.exact [] _ (by kernel_rfl)
  · intro m u W hm hcl hJ _
    unfold Marks.one
    go_simp
    exact ⟨trivial, hJ.step 2 _ _ hm (Grew.refl _) (fun e => by omega) (fun e => by omega) (fun e => by omega) (fun e => by omega) (fun e => by omega) (fun e => by omega), rfl⟩
  simp only [Act.put, List.setIfInBounds_toArray, List.set_cons_zero, List.set_cons_succ, Nat.zero_add, Nat.reduceAdd]
  apply Marks.Lex.exact [] _ (by kernel_rfl)
  · intro m u W hm hcl hJ _
    have cc := cellB hJ.grew C0.out
    unfold Marks.one
    go_simp
    exact ⟨trivial, hJ.step 3 _ _ hm (Grew.refl _) (fun e => by omega) (fun e => by omega) (fun e => by omega) (fun e => by omega) (fun e => by omega) (fun e => by omega), rfl⟩
  simp only [Act.put, List.setIfInBounds_toArray, List.set_cons_zero, List.set_cons_succ, Nat.zero_add, Nat.reduceAdd]
  apply Marks.Lex.know [] (fun _ _ => True) (by kernel_rfl) (fun _ _ _ _ _ => trivial)
  · intro m u W hm hcl hJ _
    unfold Marks.one
    go_simp
    refine (clone_rows W a ca d.safe (row_grew HS.out hJ.grew) HOK.out.es HOK.out.n2 HCA.out HCA2.out HOK.out.n1).mono ?_
    rintro e w' ⟨v', rfl, hq, hg⟩
    exact ⟨_, rfl, trivial, hJ.step 4 v' w' hm hg (fun _ => ⟨new_qr hq hJ.grew, fun h9 e => old_qr hq (hJ.s9 h9) e⟩) (fun e => by omega) (fun e => by omega) (fun e => by omega) (fun e => by omega) (fun e => by omega), trivial⟩
  simp only [Act.put, List.setIfInBounds_toArray, List.set_cons_zero, List.set_cons_succ, Nat.zero_add, Nat.reduceAdd]
  apply Marks.Lex.exact [] _ (by kernel_rfl)
  · intro m u W hm hcl hJ _
    unfold Marks.one
    go_simp
    exact ⟨trivial, hJ.step 5 _ _ hm (Grew.refl _) (fun e => by omega) (fun e => by omega) (fun e => by omega) (fun e => by omega) (fun e => by omega) (fun e => by omega), rfl⟩
  simp only [Act.put, List.setIfInBounds_toArray, List.set_cons_zero, List.set_cons_succ, Nat.zero_add, Nat.reduceAdd]
  apply Marks.Lex.exact [] _ (by kernel_rfl)
  · intro m u W hm hcl hJ _
    unfold Marks.one
    go_simp
    exact ⟨trivial, hJ.step 6 _ _ hm (Grew.refl _) (fun e => by omega) (fun e => by omega) (fun e => by omega) (fun e => by omega) (fun e => by omega) (fun e => by omega), rfl⟩
  simp only [Act.put, List.setIfInBounds_toArray, List.set_cons_zero, List.set_cons_succ, Nat.zero_add, Nat.reduceAdd]
  apply Marks.Lex.exact [] _ (by kernel_rfl)
  · intro m u W hm hcl hJ _
    unfold Marks.one
    go_simp
    exact ⟨trivial, hJ.step 7 _ _ hm (Grew.refl _) (fun e => by omega) (fun e => by omega) (fun e => by omega) (fun e => by omega) (fun e => by omega) (fun e => by omega), rfl⟩
  simp only [Act.put, List.setIfInBounds_toArray, List.set_cons_zero, List.set_cons_succ, Nat.zero_add, Nat.reduceAdd]
  apply Marks.Lex.exact [] _ (by kernel_rfl)
  · intro m u W hm hcl hJ _
    have cc := cellB hJ.grew C1.out
    unfold Marks.one
    go_simp
    exact ⟨trivial, hJ.step 8 _ _ hm (Grew.refl _) (fun e => by omega) (fun e => by omega) (fun e => by omega) (fun e => by omega) (fun e => by omega) (fun e => by omega), rfl⟩
  simp only [Act.put, List.setIfInBounds_toArray, List.set_cons_zero, List.set_cons_succ, Nat.zero_add, Nat.reduceAdd]
  apply Marks.Lex.know [] (fun _ _ => True) (by kernel_rfl) (fun _ _ _ _ _ => trivial)
  · intro m u W hm hcl hJ _
    unfold Marks.one
    go_simp
    refine (clone_last W b cb d HLST.out hJ.grew HOK.out HCB.out HCB2.out).mono ?_
    rintro e w' ⟨v', rfl, hq, hg⟩
    exact ⟨_, rfl, trivial, hJ.step 9 v' w' hm hg (fun e => by omega) (fun _ => ⟨new_qr hq hJ.grew, fun h4 e => old_qr hq (hJ.s4 h4) e.symm⟩) (fun e => by omega) (fun e => by omega) (fun e => by omega) (fun e => by omega), trivial⟩
  simp only [Act.put, List.setIfInBounds_toArray, List.set_cons_zero, List.set_cons_succ, Nat.zero_add, Nat.reduceAdd]
  apply Marks.Lex.exact [] _ (by kernel_rfl)
  · intro m u W hm hcl hJ _
    unfold Marks.one
    go_simp
    exact ⟨trivial, hJ.step 10 _ _ hm (Grew.refl _) (fun e => by omega) (fun e => by omega) (fun e => by omega) (fun e => by omega) (fun e => by omega) (fun e => by omega), rfl⟩
  simp only [Act.put, List.setIfInBounds_toArray, List.set_cons_zero, List.set_cons_succ, Nat.zero_add, Nat.reduceAdd]
  apply Marks.Lex.exact [] _ (by kernel_rfl)
  · intro m u W hm hcl hJ _
    unfold Marks.one
    go_simp
    exact ⟨trivial, hJ.step 11 _ _ hm (Grew.refl _) (fun e => by omega) (fun e => by omega) (fun e => by omega) (fun e => by omega) (fun e => by omega) (fun e => by omega), rfl⟩
  simp only [Act.put, List.setIfInBounds_toArray, List.set_cons_zero, List.set_cons_succ, Nat.zero_add, Nat.reduceAdd]
  apply Marks.Lex.exact [] _ (by kernel_rfl)
  · intro m u W hm hcl hJ _
    unfold Marks.one
    go_simp
    exact ⟨trivial, hJ.step 12 _ _ hm (Grew.refl _) (fun e => by omega) (fun e => by omega) (fun e => by omega) (fun e => by omega) (fun e => by omega) (fun e => by omega), rfl⟩
  simp only [Act.put, List.setIfInBounds_toArray, List.set_cons_zero, List.set_cons_succ, Nat.zero_add, Nat.reduceAdd]
  apply Marks.Lex.exact [] _ (by kernel_rfl)
  · intro m u W hm hcl hJ _
    have cc := cellB hJ.grew C2.out
    unfold Marks.one
    go_simp
    exact ⟨trivial, hJ.step 13 _ _ hm (Grew.refl _) (fun e => by omega) (fun e => by omega) (fun e => by omega) (fun e => by omega) (fun e => by omega) (fun e => by omega), rfl⟩
  simp only [Act.put, List.setIfInBounds_toArray, List.set_cons_zero, List.set_cons_succ, Nat.zero_add, Nat.reduceAdd]
  apply Marks.Lex.know [] (fun _ _ => True) (by kernel_rfl) (fun _ _ _ _ _ => trivial)
  · intro m u W hm hcl hJ _
    unfold Marks.one
    go_simp
    refine (clone_writes W (.slice AW d.waits.length cW) _ d.waits (own_grew HWT.out hJ.grew) HOK.out.fit HW.out).mono ?_
    rintro e w' ⟨v', rfl, hq, hg⟩
    exact ⟨_, rfl, trivial, hJ.step 14 v' w' hm hg (fun e => by omega) (fun e => by omega) (fun _ => own_base hq hJ.grew.size) (fun e => by omega) (fun e => by omega) (fun e => by omega), trivial⟩
  simp only [Act.put, List.setIfInBounds_toArray, List.set_cons_zero, List.set_cons_succ, Nat.zero_add, Nat.reduceAdd]
  apply Marks.Lex.exact [] _ (by kernel_rfl)
  · intro m u W hm hcl hJ _
    unfold Marks.one
    go_simp
    exact ⟨trivial, hJ.step 15 _ _ hm (Grew.refl _) (fun e => by omega) (fun e => by omega) (fun e => by omega) (fun e => by omega) (fun e => by omega) (fun e => by omega), rfl⟩
  simp only [Act.put, List.setIfInBounds_toArray, List.set_cons_zero, List.set_cons_succ, Nat.zero_add, Nat.reduceAdd]
  apply Marks.Lex.exact [] _ (by kernel_rfl)
  · intro m u W hm hcl hJ _
    unfold Marks.one
    go_simp
    exact ⟨trivial, hJ.step 16 _ _ hm (Grew.refl _) (fun e => by omega) (fun e => by omega) (fun e => by omega) (fun e => by omega) (fun e => by omega) (fun e => by omega), rfl⟩
  simp only [Act.put, List.setIfInBounds_toArray, List.set_cons_zero, List.set_cons_succ, Nat.zero_add, Nat.reduceAdd]
  apply Marks.Lex.exact [] _ (by kernel_rfl)
  · intro m u W hm hcl hJ _
    unfold Marks.one
    go_simp
    exact ⟨trivial, hJ.step 17 _ _ hm (Grew.refl _) (fun e => by omega) (fun e => by omega) (fun e => by omega) (fun e => by omega) (fun e => by omega) (fun e => by omega), rfl⟩
  simp only [Act.put, List.setIfInBounds_toArray, List.set_cons_zero, List.set_cons_succ, Nat.zero_add, Nat.reduceAdd]
  apply Marks.Lex.exact [] _ (by kernel_rfl)
  · intro m u W hm hcl hJ _
    have cc := cellB hJ.grew C3.out
    unfold Marks.one
    go_simp
    exact ⟨trivial, hJ.step 18 _ _ hm (Grew.refl _) (fun e => by omega) (fun e => by omega) (fun e => by omega) (fun e => by omega) (fun e => by omega) (fun e => by omega), rfl⟩
  simp only [Act.put, List.setIfInBounds_toArray, List.set_cons_zero, List.set_cons_succ, Nat.zero_add, Nat.reduceAdd]
  apply Marks.Lex.exact [] _ (by kernel_rfl)
  · intro m u W hm hcl hJ _
    unfold Marks.one
    go_simp
    exact ⟨trivial, hJ.step 19 _ _ hm (Grew.refl _) (fun e => by omega) (fun e => by omega) (fun e => by omega) (fun e => by omega) (fun e => by omega) (fun e => by omega), rfl⟩
  simp only [Act.put, List.setIfInBounds_toArray, List.set_cons_zero, List.set_cons_succ, Nat.zero_add, Nat.reduceAdd]
  apply Marks.Lex.exact [] _ (by kernel_rfl)
  · intro m u W hm hcl hJ _
    unfold Marks.one
    go_simp
    exact ⟨trivial, hJ.step 20 _ _ hm (Grew.refl _) (fun e => by omega) (fun e => by omega) (fun e => by omega) (fun e => by omega) (fun e => by omega) (fun e => by omega), rfl⟩
  simp only [Act.put, List.setIfInBounds_toArray, List.set_cons_zero, List.set_cons_succ, Nat.zero_add, Nat.reduceAdd]
  apply Marks.Lex.exact [] _ (by kernel_rfl)
  · intro m u W hm hcl hJ _
    unfold Marks.one
    go_simp
    exact ⟨trivial, hJ.step 21 _ _ hm (Grew.refl _) (fun e => by omega) (fun e => by omega) (fun e => by omega) (fun e => by omega) (fun e => by omega) (fun e => by omega), rfl⟩
  simp only [Act.put, List.setIfInBounds_toArray, List.set_cons_zero, List.set_cons_succ, Nat.zero_add, Nat.reduceAdd]
  apply Marks.Lex.exact [] _ (by kernel_rfl)
  · intro m u W hm hcl hJ _
    have cc := cellB hJ.grew C4.out
    unfold Marks.one
    go_simp
    exact ⟨trivial, hJ.step 22 _ _ hm (Grew.refl _) (fun e => by omega) (fun e => by omega) (fun e => by omega) (fun e => by omega) (fun e => by omega) (fun e => by omega), rfl⟩
  simp only [Act.put, List.setIfInBounds_toArray, List.set_cons_zero, List.set_cons_succ, Nat.zero_add, Nat.reduceAdd]
  apply Marks.Lex.know [] (fun _ _ => True) (by kernel_rfl) (fun _ _ _ _ _ => trivial)
  · intro m u W hm hcl hJ _
    have h4 : m 4 = true := hcl 4 (by decide)
    have h9 : m 9 = true := hcl 9 (by decide)
    have h14 : m 14 = true := hcl 14 (by decide)
    obtain ⟨a4, k4, e4, _⟩ := hJ.s4 h4
    obtain ⟨a9, k9, e9, _⟩ := hJ.s9 h9
    obtain ⟨A14, k14, e14⟩ := own_block (hJ.s14 h14)
    refine one_build rfl 62 #[(0, .tmp 10), (1, .tmp 15), (2, .tmp 20), (3, .tmp 24), (4, .tmp 28)] rfl #[(0, .slice (some ⟨a4, 0, none⟩) d.safe.length k4), (1, .slice (some ⟨a9, 0, none⟩) d.last.length k9), (2, .slice A14 d.waits.length k14), (3, .int .i64 d.fuse), (4, .bool d.off)] (by simp [Act.eval, e4, e9, e14]) _ (run_build62 _ _ _ _ _ _ _ _ _ _ _ W) ⟨trivial, hJ.step 23 _ W hm (Grew.refl _) (fun e => by omega) (fun e => by omega) (fun e => by omega) (fun _ => ⟨⟨h4, h9, h14⟩, by rw [e4, e9, e14]⟩) (fun e => by omega) (fun e => by omega), trivial⟩
  simp only [Act.put, List.setIfInBounds_toArray, List.set_cons_zero, List.set_cons_succ, Nat.zero_add, Nat.reduceAdd]
  apply Marks.Lex.know [] (fun _ _ => True) (by kernel_rfl) (fun _ _ _ _ _ => trivial)
  · intro m u W hm hcl hJ _
    have h23 : m 23 = true := hcl 23 (by decide)
    have e := hJ.s23 h23
    exact one_box rfl 62 (.tmp 29) rfl _ e ⟨trivial, hJ.step 24 _ _ hm ((Below.refl _ W).alloc (Nat.le_refl _) _) (fun e => by omega) (fun e => by omega) (fun e => by omega) (fun e => by omega) (fun _ => ⟨h23, W.heap.size, rfl, hJ.grew.size, heap_alloc_new W _⟩) (fun e => by omega), trivial⟩
  simp only [Act.put, List.setIfInBounds_toArray, List.set_cons_zero, List.set_cons_succ, Nat.zero_add, Nat.reduceAdd]
  apply Marks.Lex.know [] (fun _ _ => True) (by kernel_rfl) (fun _ _ _ _ _ => trivial)
  · intro m u W hm hcl hJ _
    have h24 : m 24 = true := hcl 24 (by decide)
    unfold Marks.one
    go_simp
    exact ⟨trivial, hJ.step 25 _ _ hm (Grew.refl _) (fun e => by omega) (fun e => by omega) (fun e => by omega) (fun e => by omega) (fun e => by omega) (fun _ => ⟨h24, rfl⟩), trivial⟩
  simp only [Act.put, List.setIfInBounds_toArray, List.set_cons_zero, List.set_cons_succ, Nat.zero_add, Nat.reduceAdd]
  refine Marks.Lex.done fun m u W2 hm hJ _ => ?_
  have e25 := hJ.s25 (hm 25 (by omega))
  obtain ⟨g', e24, hg1, hg2⟩ := hJ.s24 (hm 24 (by omega))
  have q4 := hJ.s4 (hm 4 (by omega))
  have q9 := hJ.s9 (hm 9 (by omega))
  have q14 := hJ.s14 (hm 14 (by omega))
  have hne := hJ.ne (hm 4 (by omega)) (hm 9 (by omega))
  have hgr := hJ.grew
  clear hJ hm
  rw [e25, e24]
  have HFIN := Lib.hid (clone_dk w W2 d g' _ _ _ HOK.out hg1 hg2 q4 q9 q14 hne)
  have HGR := Lib.hid hgr
  clear e25 e24 hg1 hg2 q4 q9 q14 hne hgr
  unfold dptr
  go_wp2
  go_ret
  exact ⟨g', rfl, HFIN.out, HGR.out⟩
theorem clone_none (w : World) : Calls Try.prog 23 #[.pointer none] w fun e w' => e = .returned (.pointer none) ∧ w = w' := by
  go_enter Try.func23, Try.ntmps23
  go_wp2_with fail
  refine (made_none w).mono ?_
  rintro e w' ⟨rfl, rfl⟩
  go_wp2
  go_ret
  exact ⟨rfl, rfl⟩
end Go.Proofs.Ytiajjkjdmcoodaa.DClone
