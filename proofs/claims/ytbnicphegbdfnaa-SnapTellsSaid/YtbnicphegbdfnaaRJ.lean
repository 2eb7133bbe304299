/-
  A journal and the document's journal, side by side: what each step of the one, or of the other one, leaves.
  Conditions: those that each lemma names.
-/
import Derived.Test.YtbnicphegbdfnaaRH
import Derived.Test.YtbnicphegbdfnaaJG
import Derived.Test.YtbnicphegbdfnaaJS
import Derived.Test.YtbnicphegbdfnaaDOpens
import Derived.Deep.DeepCutAuto
import Derived.Deep.CutBlock
namespace Go.Proofs.Ytbnicphegbdfnaa.RI
set_option maxRecDepth 100000
open Go Go.RowKit Go.Proofs.Ytbnicphegbdfnaa Go.Proofs.Ytbnicphegbdfnaa.Facts Go.Proofs.Ytbnicphegbdfnaa.Bytes Go.Proofs.Ytbnicphegbdfnaa.DKeep Go.Proofs.Ytbnicphegbdfnaa.DSmall Go.Proofs.Ytbnicphegbdfnaa.SPure Go.Proofs.Ytbnicphegbdfnaa.JA Go.Proofs.Ytbnicphegbdfnaa.JB Go.Proofs.Ytbnicphegbdfnaa.JC Go.Proofs.Ytbnicphegbdfnaa.JD Go.Proofs.Ytbnicphegbdfnaa.JE Go.Proofs.Ytbnicphegbdfnaa.JF Go.Proofs.Ytbnicphegbdfnaa.DRefA Go.Proofs.Ytbnicphegbdfnaa.DRefB Go.Proofs.Ytbnicphegbdfnaa.DRefC Go.Proofs.Ytbnicphegbdfnaa.DSim Go.Proofs.Ytbnicphegbdfnaa.DRefD Go.Proofs.Ytbnicphegbdfnaa.DLawA Go.Proofs.Ytbnicphegbdfnaa.RA Go.Proofs.Ytbnicphegbdfnaa.RE Go.Proofs.Ytbnicphegbdfnaa.RF Go.Proofs.Ytbnicphegbdfnaa.RG Go.Proofs.Ytbnicphegbdfnaa.RH

/- How many sectors there are, and how many writes wait. -/
theorem blown_len (d : Pd) : (DTurn.blown d).1.safe.length = d.safe.length := by
  unfold DTurn.blown
  split
  · rfl
  · split <;> rfl
theorem ended_len (ks : Nat → Nat) (d : Pd) : (DFlush.ended ks d).safe.length = d.safe.length := by
  unfold DFlush.ended
  exact DSettle.settled_length ..
theorem written_len (d : Pd) (n : Int) (l : Sec) : (DWrite.written d n l).1.safe.length = d.safe.length := by
  unfold DWrite.written
  split
  · split
    · rw [blown_len]; rfl
    · rfl
  · rfl
theorem flushed_len (d : Pd) : (DFlush.flushed d).1.safe.length = d.safe.length := by
  unfold DFlush.flushed
  split
  · rfl
  · split
    · exact (ended_len _ _).trans (blown_len d)
    · exact blown_len d
theorem crashed_len (d : Pd) (l : List UInt8) : (DFlush.crashed d l).safe.length = d.safe.length := by
  unfold DFlush.crashed
  exact ended_len _ _
theorem jw_len (first base : Nat) : ∀ (m a : Nat) (l : List UInt8) (d : Pd), (jw first base m a l d).1.safe.length = d.safe.length
  | 0, a, l, d => rfl
  | m + 1, a, l, d => by
    unfold jw
    have h1 := written_len d ((first + a : Nat) : Int) (sealed (base + a) (l.take 108))
    simp only
    split
    · rw [jw_len first base m (a + 1) (l.drop 108), h1]
    · exact h1
theorem japp_len (j : Jr) (d : Pd) (b : List UInt8) : (japp j d b).2.1.safe.length = d.safe.length := by
  unfold japp
  split
  · rfl
  · split
    · rfl
    · simp only
      split
      · split
        · exact (flushed_len _).trans (jw_len ..)
        · exact (flushed_len _).trans (jw_len ..)
      · exact jw_len ..
theorem japp_waits (j : Jr) (d : Pd) (b : List UInt8) : (japp j d b).2.1.waits.length ≤ d.waits.length + j.each := by
  unfold japp
  split
  · exact Nat.le_add_right _ _
  · split
    · exact Nat.le_add_right _ _
    · simp only
      split
      · split
        · exact Nat.le_trans (flushed_waits _) (jw_waits ..)
        · exact Nat.le_trans (flushed_waits _) (jw_waits ..)
      · exact jw_waits ..
theorem japp_jr (j : Jr) (d : Pd) (b : List UInt8) : (japp j d b).1 = j ∨ ((japp j d b).1 = { j with used := j.used + 1 } ∧ j.used ≠ j.places) := by
  unfold japp
  split
  · exact .inl rfl
  · split
    · exact .inl rfl
    · rename_i h2
      simp only
      split
      · split
        · exact .inr ⟨rfl, h2⟩
        · exact .inl rfl
      · exact .inl rfl

/-- What is of none of the disk's and the journal's kinds stays. -/
def Stay (y z : World) : Prop := ∀ (k : Nat) (C : Array Value) (e : TypeId) (fz : Nat × Nat), y.heap[k]? = some (.cells C e fz) → e ≠ 104 → e ≠ 116 → e ≠ 129 → e ≠ 120 → z.heap[k]? = some (.cells C e fz)
theorem stay_of {D : Nat → Prop} {y z : World} {g gj : Nat} {d : Pd} {j : Jr} (hD : DT y g D d) (hj : JL y gj g j) (hk : Kept (fun k => D k ∨ k = gj) y z) : Stay y z := by
  intro k C e fz h h1 h2 h3 h4
  refine (hk.block k (Array.getElem?_eq_some_iff.1 h).1 ?_).trans h
  rintro (hd | rfl)
  · obtain ⟨C', e', fz', h5, h6⟩ := hD.2 k hd
    rw [h] at h5
    cases h5
    rcases h6 with h6 | h6 | h6
    · exact h1 h6
    · exact h2 h6
    · exact h3 h6
  · unfold JL at hj
    rw [h] at hj
    cases hj
    exact h4 rfl
/-- The program's disk and journal, and the document's, each where it lies. -/
structure TS (w : World) (g gj gx gs : Nat) (jp : Jr) (d : Pd) (js : Jr) (r : Rp) (y : World) : Prop where
  ex : ∃ D, DT y g D d ∧ ∀ k, D k → w.heap.size ≤ k
  jl : JL y gj g jp
  bx : BX y gx r
  sx : SX y gs js.first js.places js.each js.base js.used
  lj : w.heap.size ≤ gj
  lx : w.heap.size ≤ gx
  ls : w.heap.size ≤ gs
  gr : Grew w y
theorem DT_grew {w w' : World} {g : Nat} {D : Nat → Prop} {d : Pd} (h : DT w g D d) (hg : Grew w w') : DT w' g D d :=
  ⟨h.1.grew hg, fun k hk => by
    obtain ⟨cur, e, fz, h4, h5⟩ := h.2 k hk
    exact ⟨cur, e, fz, DWrite.keepB h4 hg, h5⟩⟩
section
variable {w y z : World} {g gj gx gs : Nat} {jp js j' : Jr} {d d' : Pd} {r r' : Rp}
theorem TS.grew (h : TS w g gj gx gs jp d js r y) (hg : Grew y z) : TS w g gj gx gs jp d js r z := by
  obtain ⟨D, h1, h2⟩ := h.ex
  exact ⟨⟨D, DT_grew h1 hg, h2⟩, h.jl.grew hg, h.bx.grew hg, h.sx.grew hg, h.lj, h.lx, h.ls, h.gr.trans hg⟩
theorem TS.prog (h : TS w g gj gx gs jp d js r y) {D : Nat → Prop} (hD : DT y g D d) (hs : ∀ k, D k → w.heap.size ≤ k) (hx : AP y g gj D j' d' z) : TS w g gj gx gs j' d' js r z ∧ Stay y z := by
  obtain ⟨D', h1, h2, h3, h4⟩ := hx
  obtain ⟨D'', h5, h6⟩ := DK.tight h1
  have hst := stay_of hD h.jl h4
  have hz := h.gr.size
  refine ⟨⟨⟨D'', h5, fun k hk => ?_⟩, h3, ?_, hst _ _ _ _ h.sx (by decide) (by decide) (by decide) (by decide), h.lj, h.lx, h.ls, ?_⟩, hst⟩
  · rcases h2 k (h6 k hk) with h7 | h7
    · exact hs k h7
    · exact Nat.le_trans hz h7
  · obtain ⟨A1, A2, A3, c1, c2, c3, q1, q2⟩ := h.bx
    refine ⟨A1, A2, A3, c1, c2, c3, RD.kept q1 h4 (fun k cur e fz hd hh => ?_), hst _ _ _ _ q2 (by decide) (by decide) (by decide) (by decide)⟩
    rcases hd with hd | rfl
    · obtain ⟨cur', e', fz', h7, h8⟩ := hD.2 k hd
      rw [h7] at hh
      cases hh
      rcases h8 with rfl | rfl | rfl <;> exact ⟨by decide, by decide⟩
    · have hj := h.jl
      unfold JL at hj
      rw [hj] at hh
      cases hh
      exact ⟨by decide, by decide⟩
  · refine DAlive.grew_kept h.gr h4 fun k hk => ?_
    rcases hk with hk | rfl
    · exact hs k hk
    · exact h.lj
theorem TS.apart (h : TS w g gj gx gs jp d js r y) {D : Nat → Prop} (hD : DT y g D d) : ¬ D gj := fun hd => by
  obtain ⟨C, e, fz, h1, h2⟩ := hD.2 gj hd
  have hj := h.jl
  unfold JL at hj
  rw [hj] at h1
  cases h1
  rcases h2 with h2 | h2 | h2 <;> exact absurd h2 (by decide)
/-- The disk alone went on. -/
theorem TS.disk (h : TS w g gj gx gs jp d js r y) {D D' : Nat → Prop} (hD : DT y g D d) (hs : ∀ k, D k → w.heap.size ≤ k) (h1 : DK z g D' d') (h2 : ∀ k, D' k → D k ∨ y.heap.size ≤ k) (hk : Kept D y z) : TS w g gj gx gs jp d' js r z ∧ Stay y z :=
  h.prog hD hs ⟨D', h1, h2, (hk.block gj (Array.getElem?_eq_some_iff.1 h.jl).1 (h.apart hD)).trans h.jl, DSettle.Kept.mono hk fun _ hk => .inl hk⟩
theorem ts_app (h : TS w g gj gx gs jp d js r y) (hk : JK jp) (hb : 1 ≤ jp.base) (hw : d.waits.length ≤ 1000000000) (S : Nat → Prop) (v : Value) (b : List UInt8) (hr : Rd S y v b) (q : Int) (he : japp jp d b = (j', d', q)) :
    Calls Try.prog 27 #[.pointer (some ⟨gj, 0, none⟩), v] y fun e z => e = .returned (.int .i64 q) ∧ TS w g gj gx gs j' d' js r z ∧ Stay y z := by
  obtain ⟨D, h1, h2⟩ := h.ex
  have hc := japp_any y gj g jp D d S v b h.jl hk hb h1.1 (h.apart h1) hr hw
  rw [he] at hc
  refine hc.mono ?_
  rintro e z ⟨rfl, hx⟩
  exact ⟨rfl, h.prog h1 h2 hx⟩
theorem ts_crash (h : TS w g gj gx gs jp d js r y) (hw : d.waits.length ≤ 1000000000) (S : Nat → Prop) (v : Value) (b : List UInt8) (hr : Rd S y v b) (hS : ∀ k, S k → k < w.heap.size) :
    Calls Try.prog 21 #[.pointer (some ⟨g, 0, none⟩), v] y fun e z => e = .returned (.int .i64 0) ∧ TS w g gj gx gs jp (DFlush.crashed d b) js r z ∧ Stay y z := by
  obtain ⟨D, h1, h2⟩ := h.ex
  refine (DFlush.crash_any y g D d S v b h1.1 hr (fun k hk hd => by have := h2 k hd; have := hS k hk; omega) (by omega)).mono ?_
  rintro e z ⟨rfl, hd, hk⟩
  exact ⟨rfl, h.disk h1 h2 hd (fun k hk => .inl hk) hk⟩
theorem ts_fuse (h : TS w g gj gx gs jp d js r y) (n : Int) (hn : n ≤ 9223372036854775807) :
    Calls Try.prog 30 #[.pointer (some ⟨g, 0, none⟩), .int .i64 n] y fun e z => e = .returned (.tuple #[]) ∧ TS w g gj gx gs jp (DTurn.fused d n) js r z ∧ Stay y z := by
  obtain ⟨D, h1, h2⟩ := h.ex
  refine (DTurn.fuse_any y g D d n hn h1.1).mono ?_
  rintro e z ⟨rfl, hd, hk⟩
  exact ⟨rfl, h.disk h1 h2 hd (fun k hk => .inl hk) hk⟩
theorem ts_write (h : TS w g gj gx gs jp d js r y) (hw : d.waits.length ≤ 1000000000) (n : Int) (S : Nat → Prop) (v : Value) (b : List UInt8) (hr : Rd S y v b) (q : Int) (he : DWrite.written d n b = (d', q)) :
    Calls Try.prog 32 #[.pointer (some ⟨g, 0, none⟩), .int .i64 n, v] y fun e z => e = .returned (.int .i64 q) ∧ TS w g gj gx gs jp d' js r z ∧ Stay y z := by
  obtain ⟨D, h1, h2⟩ := h.ex
  refine (DAlive.write_eq y g D d n v S b d' q h1.1 hr (by omega) he).mono ?_
  rintro e z ⟨rfl, D', hd, hs, hk⟩
  exact ⟨rfl, h.disk h1 h2 hd hs hk⟩
/-- The document's disk is put into its box. -/
theorem ts_put (h : TS w g gj gx gs jp d js r y) {v : Value} (hr : RD y v r') : ∃ z, (Instr.storeAt 49 (.pointer (some ⟨gx, 0, none⟩)) v).run Try.prog y = .ok () z ∧ TS w g gj gx gs jp d js r' z ∧ Kept (fun k => k = gx) y z := by
  obtain ⟨A1, A2, A3, c1, c2, c3, q1, q2⟩ := h.bx
  obtain ⟨z, hst, hbx, hk⟩ := box_store q2 rfl hr
  obtain ⟨D, h1, h2⟩ := h.ex
  have hne : ∀ (k : Nat) (C : Array Value) (e : TypeId) (fz : Nat × Nat), y.heap[k]? = some (.cells C e fz) → e ≠ 49 → k ≠ gx := fun k C e fz hh he hx => by
    subst hx
    rw [q2] at hh
    cases hh
    exact he rfl
  refine ⟨z, hst, ⟨⟨D, ⟨h1.1.keep hk fun k hd he => ?_, fun k hd => ?_⟩, h2⟩, ?_, hbx, ?_, h.lj, h.lx, h.ls, DAlive.grew_kept h.gr hk fun k hk => by rw [hk]; exact h.lx⟩, hk⟩
  · obtain ⟨C, e, fz, h3, h4⟩ := h1.2 k hd
    exact hne k C e fz h3 (by rcases h4 with rfl | rfl | rfl <;> decide) he
  · obtain ⟨C, e, fz, h3, h4⟩ := h1.2 k hd
    exact ⟨C, e, fz, other hk h3 (hne k C e fz h3 (by rcases h4 with rfl | rfl | rfl <;> decide)), h4⟩
  · exact other hk h.jl (hne _ _ _ _ h.jl (by decide))
  · exact other hk h.sx (hne _ _ _ _ h.sx (by decide))
/-- A place is put into its box. -/
theorem ts_shape (h : TS w g gj gx gs jp d js r y) (j' : Jr) : ∃ z, (Instr.storeAt 52 (.pointer (some ⟨gs, 0, none⟩)) (sh (j'.first : Int) (j'.places : Int) (j'.each : Int) j'.base (j'.used : Int))).run Try.prog y = .ok () z ∧ TS w g gj gx gs jp d j' r z ∧ Kept (fun k => k = gs) y z := by
  have hsx := h.sx
  unfold SX at hsx
  have hst := DArm.run_store_row 52 5 size52 y gs 0 52 _ hsx [.int .i64 (j'.first : Int), .int .i64 (j'.places : Int), .int .i64 (j'.each : Int), .int .u64 (j'.base : Int), .int .i64 (j'.used : Int)] rfl (by simp [Value.oneCell']) (by simp)
  have hk : Kept (fun k => k = gs) y (y.setRow gs [.int .i64 (j'.first : Int), .int .i64 (j'.places : Int), .int .i64 (j'.each : Int), .int .u64 (j'.base : Int), .int .i64 (j'.used : Int)].toArray) := ⟨rfl, rfl, rfl, by simp, fun j _ hj => setRow_other y gs j _ (by omega)⟩
  obtain ⟨D, h1, h2⟩ := h.ex
  have hne : ∀ (k : Nat) (C : Array Value) (e : TypeId) (fz : Nat × Nat), y.heap[k]? = some (.cells C e fz) → e ≠ 52 → k ≠ gs := fun k C e fz hh he hx => by
    subst hx
    rw [hsx] at hh
    cases hh
    exact he rfl
  refine ⟨_, hst, ⟨⟨D, ⟨h1.1.keep hk fun k hd he => ?_, fun k hd => ?_⟩, h2⟩, ?_, ?_, ?_, h.lj, h.lx, h.ls, DAlive.grew_kept h.gr hk fun k hk => by rw [hk]; exact h.ls⟩, hk⟩
  · obtain ⟨C, e, fz, h3, h4⟩ := h1.2 k hd
    exact hne k C e fz h3 (by rcases h4 with rfl | rfl | rfl <;> decide) he
  · obtain ⟨C, e, fz, h3, h4⟩ := h1.2 k hd
    exact ⟨C, e, fz, other hk h3 (hne k C e fz h3 (by rcases h4 with rfl | rfl | rfl <;> decide)), h4⟩
  · exact other hk h.jl (hne _ _ _ _ h.jl (by decide))
  · obtain ⟨A1, A2, A3, c1, c2, c3, q1, q2⟩ := h.bx
    exact ⟨A1, A2, A3, c1, c2, c3, RD.kept q1 hk (fun k cur e fz hd hh => by
      subst hd
      rw [hsx] at hh
      cases hh
      exact ⟨by decide, by decide⟩), other hk q2 (hne _ _ _ _ q2 (by decide))⟩
  · exact setRow_heap y gs _ _ _ _ hsx
end
theorem load52 {y : World} {b first places each base used : Nat} (h : SX y b first places each base used) : (Instr.loadAt 52 (.pointer (some ⟨b, 0, none⟩))).run Try.prog y = .ok (sh (first : Int) (places : Int) (each : Int) base (used : Int)) y :=
  run_loadVar_mid (P := Try.prog) y b 0 52 [.int .i64 (first : Int), .int .i64 (places : Int), .int .i64 (each : Int), .int .u64 (base : Int), .int .i64 (used : Int)] _ (fun j v hv => by rw [cell_of_row _ _ _ _ _ _ h, Nat.zero_add]; simpa using hv) Try.underlying52 rfl size52
end Go.Proofs.Ytbnicphegbdfnaa.RI
namespace Go.Proofs.Ytbnicphegbdfnaa.RJ
set_option maxRecDepth 100000
open Go Go.RowKit Go.Proofs.Ytbnicphegbdfnaa Go.Proofs.Ytbnicphegbdfnaa.Facts Go.Proofs.Ytbnicphegbdfnaa.Bytes Go.Proofs.Ytbnicphegbdfnaa.DKeep Go.Proofs.Ytbnicphegbdfnaa.DSmall Go.Proofs.Ytbnicphegbdfnaa.SPure Go.Proofs.Ytbnicphegbdfnaa.JA Go.Proofs.Ytbnicphegbdfnaa.JB Go.Proofs.Ytbnicphegbdfnaa.JC Go.Proofs.Ytbnicphegbdfnaa.JD Go.Proofs.Ytbnicphegbdfnaa.JE Go.Proofs.Ytbnicphegbdfnaa.JF Go.Proofs.Ytbnicphegbdfnaa.DRefA Go.Proofs.Ytbnicphegbdfnaa.DRefB Go.Proofs.Ytbnicphegbdfnaa.DRefC Go.Proofs.Ytbnicphegbdfnaa.DSim Go.Proofs.Ytbnicphegbdfnaa.DRefD Go.Proofs.Ytbnicphegbdfnaa.DRefF Go.Proofs.Ytbnicphegbdfnaa.DLawA Go.Proofs.Ytbnicphegbdfnaa.RA Go.Proofs.Ytbnicphegbdfnaa.RC Go.Proofs.Ytbnicphegbdfnaa.RE Go.Proofs.Ytbnicphegbdfnaa.RF Go.Proofs.Ytbnicphegbdfnaa.RG Go.Proofs.Ytbnicphegbdfnaa.RH Go.Proofs.Ytbnicphegbdfnaa.RI Go.Proofs.Ytbnicphegbdfnaa.DOpens

theorem wload {ops : Array Oper} {rest : List Oper} {op : Oper} {a : Act} {w : World} {Q : Exit → Act → World → Prop} (hgd : Region.wanted op (yielded ops a.tmps) = true) (t : TypeId) (x : Operand) (ho : op.op = .load t x) (px v : Value) (hx : a.eval x = px)
    (hr : (Instr.loadAt t px).run Try.prog w = .ok v w) (h : wpList Try.prog ops Q rest (a.put op.dst v) w) : wpList Try.prog ops Q (op :: rest) a w := by
  refine BigFrame.wpList_want hgd fun _ hK => ?_
  unfold Oper.wp execOp
  simp only [ho, hx, Sem.run_bind, Sem.run_pure, Result.andThen_ok, hr]
  exact hK _ _ h
theorem box_new {w : World} {v : Value} {r : Rp} (h : RD w v r) : ∃ w', (Instr.storeAt 49 (.pointer (some ⟨w.heap.size, 0, none⟩)) v).run Try.prog (w.alloc (.cells #[.slice none 0 0, .slice none 0 0, .slice none 0 0, .int .i64 0, .bool false] 49)) = .ok () w' ∧ BX w' w.heap.size r ∧ Grew w w' := by
  have hga : Grew w (w.alloc (.cells #[.slice none 0 0, .slice none 0 0, .slice none 0 0, .int .i64 0, .bool false] 49)) := grew_new _
  obtain ⟨w3, hst, hbx, hk3⟩ := box_store (heap_alloc_new w (.cells #[.slice none 0 0, .slice none 0 0, .slice none 0 0, .int .i64 0, .bool false] 49)) rfl (h.grew hga)
  exact ⟨w3, hst, hbx, DAlive.grew_kept hga hk3 (fun k hk => by rw [hk]; exact Nat.le_refl _)⟩
/-- Where a journal lies, as it comes in. -/
def SI (w : World) (b : Nat) (first places each : Int) (base : Nat) (used : Int) : Prop := w.heap[b]? = some (.cells #[.int .i64 first, .int .i64 places, .int .i64 each, .int .u64 (base : Int), .int .i64 used] 52)
theorem SI.load {y : World} {b base : Nat} {first places each used : Int} (h : SI y b first places each base used) : (Instr.loadAt 52 (.pointer (some ⟨b, 0, none⟩))).run Try.prog y = .ok (sh first places each base used) y :=
  run_loadVar_mid (P := Try.prog) y b 0 52 [.int .i64 first, .int .i64 places, .int .i64 each, .int .u64 (base : Int), .int .i64 used] _ (fun j v hv => by rw [cell_of_row _ _ _ _ _ _ h, Nat.zero_add]; simpa using hv) Try.underlying52 rfl size52
theorem place_new (w : World) (first places each : Int) (base : Nat) (used : Int) : ∃ w', (Instr.storeAt 52 (.pointer (some ⟨w.heap.size, 0, none⟩)) (.agg #[.int .i64 first, .int .i64 places, .int .i64 each, .int .u64 (base : Int), .int .i64 used])).run Try.prog (w.alloc (.cells #[.int .i64 0, .int .i64 0, .int .i64 0, .int .u64 0, .int .i64 0] 52)) = .ok () w' ∧ SI w' w.heap.size first places each base used ∧ Grew w w' :=
  ⟨_, DArm.run_store_new 52 5 size52 w _ rfl [.int .i64 first, .int .i64 places, .int .i64 each, .int .u64 (base : Int), .int .i64 used] rfl (by simp [Value.oneCell']), heap_alloc_new w _, grew_new _⟩
theorem jscan_bad (w : World) (g : Nat) (D : Nat → Prop) (d : Pd) (first places each : Int) (base : Nat) (q : Int) (h : DK w g D d) (hb : base < 18446744073709551616) (hf1 : -9223372036854775808 ≤ first) (hf2 : first ≤ 9223372036854775807) (hq : jrefus d first places each base = q) (h0 : ¬ q = 0) :
    Calls Try.prog 25 #[.pointer (some ⟨g, 0, none⟩), .int .i64 first, .int .i64 places, .int .i64 each, .int .u64 (base : Int)] w fun e w' => e = .returned (.tuple #[.slice none 0 0, .int .i64 q]) ∧ w = w' := by
  have hr := jrefuses_any w g D d first places each base h hb hf1 hf2
  rw [hq] at hr
  have HR := Lib.hid hr
  clear hr hq h
  go_enter Try.func25, Try.ntmps25
  go_wp2_with fail
  try go_step3
  go_wp2_with fail
  refine HR.out.mono ?_
  rintro e w' ⟨rfl, rfl⟩
  go_wp2
  try rw [Exit.noGoto_ret]
  go_returns
  exact ⟨rfl, rfl⟩
set_option maxHeartbeats 4000000 in
theorem law_bad (w : World) (first places each : Int) (base : Nat) (v : Value) (ov : Value) (hb : base < 18446744073709551616) (hf1 : -9223372036854775808 ≤ first) (hf2 : first ≤ 9223372036854775807) (q : Int) (hq : jrefus (DNew.fresh 8) first places each base = q) (h0 : ¬ q = 0) :
    Calls Try.prog 5 #[.int .i64 first, .int .i64 places, .int .i64 each, .int .u64 (base : Int), v, ov] w fun e w' => e = .returned (.bool true) ∧ Grew w w' := by
  have HB := Lib.hid hb
  have HF1 := Lib.hid hf1
  have HF2 := Lib.hid hf2
  have HQ := Lib.hid hq
  have hq0 : (q != 0) = true := by simpa using h0
  have hqq : (q == q) = true := by simp
  have HQ0 := Lib.hid h0
  clear hb hf1 hf2 hq h0
  go_enter Try.func5, Try.ntmps5
  go_wp2_with fail
  refine (DAlive.new_eq 8 8 rfl w (by omega) (by omega)).mono ?_
  rintro e w1 ⟨g, rfl, hd, hg⟩
  have HD1 := Lib.hid hd
  have HG1 := Lib.hid hg
  clear hd hg
  generalize hDD : (fun k => w.heap.size ≤ k ∧ k < w1.heap.size) = D at *
  clear hDD
  go_wp2_with fail
  have hrn : Calls Try.prog 22 #[.int .i64 8] w1 fun e w' => ∃ v', e = .returned v' ∧ RD w' v' (rfresh 8) ∧ Grew w1 w' := rnew_any 8 w1 (by omega)
  refine hrn.mono ?_
  rintro e w2 ⟨v2, rfl, hrd, hg⟩
  obtain ⟨w3, hst3, hbx3, hg3⟩ := box_new hrd
  obtain ⟨w4, hst4, hsi4, hg4⟩ := place_new w3 first places each base 0
  have HD4 := Lib.hid (((HD1.out.grew hg).grew hg3).grew hg4)
  have HG4 := Lib.hid (((HG1.out.trans hg).trans hg3).trans hg4)
  have HBX4 := Lib.hid (hbx3.grew hg4)
  have HST3 := Lib.hid hst3
  have HST4 := Lib.hid hst4
  have HSI4 := Lib.hid hsi4
  clear hrn hrd hg hst3 hbx3 hg3 hst4 hsi4 hg4 HD1 HG1
  go_wp2_with (first
    | refine DArm.wpList_store (by rfl) 49 (.tmp 15) (.tmp 37) (by with_reducible rfl) _ _ (by rfl) (by rfl) _ HST3.out ?_
    | refine DArm.wpList_store (by rfl) 52 (.tmp 16) (.tmp 42) (by with_reducible rfl) _ _ (by rfl) (by rfl) _ HST4.out ?_)
  refine (jnew_bad w4 g D (DNew.fresh 8) first places each base q HD4.out HB.out HF1.out HF2.out HQ.out HQ0.out).mono ?_
  rintro e w' ⟨rfl, rfl⟩
  obtain ⟨A1, A2, A3, c1, c2, c3, hrd, hld, _⟩ := HBX4.out.load
  have HL1 := Lib.hid hld
  have HL2 := Lib.hid HSI4.out.load
  have hab := rable_any A1 A2 A3 (rfresh 8).now.length (rfresh 8).safe.length (rfresh 8).waits.length c1 c2 c3 (rfresh 8).fuse (rfresh 8).off first places each base 0 w4 (by simp [rfresh, DNew.blank]) HB.out HF1.out HF2.out
  rw [show jref (rfresh 8).now.length (rfresh 8).off first places each base = q from HQ.out] at hab
  have HAB := Lib.hid hab
  clear hrd hld hab HST3 HST4
  go_wp2_with (first
    | refine wload (by rfl) 49 (.tmp 15) (by with_reducible rfl) _ _ (by rfl) HL1.out ?_
    | refine wload (by rfl) 52 (.tmp 16) (by with_reducible rfl) _ _ (by rfl) HL2.out ?_)
  refine HAB.out.mono ?_
  rintro e w5 ⟨rfl, hg5⟩
  have HD5 := Lib.hid (HD4.out.grew hg5)
  have HG5 := Lib.hid (HG4.out.trans hg5)
  clear hg5 HAB HL1 HL2 HD4 HG4 HBX4 HSI4
  go_wp2_with fail
  refine (jscan_bad w5 g D (DNew.fresh 8) first places each base q HD5.out HB.out HF1.out HF2.out HQ.out HQ0.out).mono ?_
  rintro e w' ⟨rfl, rfl⟩
  go_wp2_with fail
  refine (JG.alive_any _).mono ?_
  rintro e w6 ⟨rfl, hg6⟩
  have HG6 := Lib.hid (HG5.out.trans hg6)
  clear hg6
  go_wp2
  go_ret
  exact ⟨rfl, HG6.out⟩
end Go.Proofs.Ytbnicphegbdfnaa.RJ
