/-
  Deeds done to both disks: what one deed does.
  Conditions: none beyond those that each lemma names.
-/
import Derived.Test.YtiajjkjdmcoodaaDLawB
namespace Go.Proofs.Ytiajjkjdmcoodaa.DLawC
set_option maxRecDepth 100000
open Go Go.RowKit Go.Proofs.Ytiajjkjdmcoodaa Go.Proofs.Ytiajjkjdmcoodaa.Facts Go.Proofs.Ytiajjkjdmcoodaa.Bytes Go.Proofs.Ytiajjkjdmcoodaa.DKeep Go.Proofs.Ytiajjkjdmcoodaa.DSmall Go.Proofs.Ytiajjkjdmcoodaa.DRead Go.Proofs.Ytiajjkjdmcoodaa.DRefA Go.Proofs.Ytiajjkjdmcoodaa.DRefB Go.Proofs.Ytiajjkjdmcoodaa.DRefC Go.Proofs.Ytiajjkjdmcoodaa.DSim Go.Proofs.Ytiajjkjdmcoodaa.DKeepsH Go.Proofs.Ytiajjkjdmcoodaa.DRefD Go.Proofs.Ytiajjkjdmcoodaa.DRefE Go.Proofs.Ytiajjkjdmcoodaa.DOpens Go.Proofs.Ytiajjkjdmcoodaa.DLawA

/-- Deeds as they lie, in blocks below N. -/
def DEn (N : Nat) (w : World) (A : Option Addr) (c : Nat) (L : List De) : Prop := L.length ≤ c ∧ c ≤ 9223372036854775807 ∧ (A = none → c = 0) ∧ ∀ ad, A = some ad → ∀ i x, L[i]? = some x →
  w.cell? (ad.add (i * 3)) = some (.int .i64 x.kind) ∧ w.cell? (ad.add (i * 3 + 1)) = some (.int .i64 x.n) ∧ (-9223372036854775808 ≤ x.n ∧ x.n ≤ 9223372036854775807) ∧ (ad.block < N ∧ N ≤ w.heap.size) ∧ ∃ vB, w.cell? (ad.add (i * 3 + 2)) = some vB ∧ Rd (fun b => b < N) w vB x.b
theorem DEn.of {w : World} {A : Option Addr} {c : Nat} {L : List De} (h : DE w A c L) : DEn w.heap.size w A c L := by
  refine ⟨h.1, h.2.1, h.2.2.1, fun ad ha i x hx => ?_⟩
  obtain ⟨h1, h2, h3, vB, h4, h5⟩ := h.2.2.2 ad ha i x hx
  have hb := World.block_lt_of_cell? w _ h1
  rw [block_add'] at hb
  exact ⟨h1, h2, h3, ⟨hb, Nat.le_refl _⟩, vB, h4, h5⟩
theorem DEn.keep {N : Nat} {w w' : World} {A : Option Addr} {c : Nat} {L : List De} (h : DEn N w A c L) (hk : ∀ k, k < N → w'.heap[k]? = w.heap[k]?) (hs : w.heap.size ≤ w'.heap.size) : DEn N w' A c L := by
  refine ⟨h.1, h.2.1, h.2.2.1, fun ad ha i x hx => ?_⟩
  obtain ⟨h1, h2, h3, ⟨h6, h7⟩, vB, h4, h5⟩ := h.2.2.2 ad ha i x hx
  have cell : ∀ j u, w.cell? (ad.add j) = some u → w'.cell? (ad.add j) = some u := fun j u hc => (World.cell?_of_block (w := w) (by rw [block_add']; exact hk _ h6)).trans hc
  exact ⟨cell _ _ h1, cell _ _ h2, h3, ⟨h6, Nat.le_trans h7 hs⟩, vB, cell _ _ h4, h5.keep fun b hb hS => hk b hS⟩

def pstep (d : Pd) (x : De) : Pd × Int :=
  if x.kind = 0 then DWrite.written d x.n x.b else if x.kind = 1 then DFlush.flushed d else if x.kind = 2 then (DTurn.fused d x.n, 0) else if x.kind = 3 then (DFlush.crashed d x.b, 0) else (d, 0)
def rstep (r : Rp) (x : De) : Rp × Int :=
  if x.kind = 0 then rwritten r x.n x.b else if x.kind = 1 then rflushed r else if x.kind = 2 then (rfus r x.n, 0) else if x.kind = 3 then (rcrash r x.b, 0) else (r, 0)
theorem Sim.step {d : Pd} {r : Rp} (h : Sim d r) (x : De) (hx : x.n ≤ 9223372036854775807) : (pstep d x).2 = (rstep r x).2 ∧ Sim (pstep d x).1 (rstep r x).1 := by
  unfold pstep rstep
  by_cases h0 : x.kind = 0
  · rw [if_pos h0, if_pos h0]; exact h.written _ _
  · rw [if_neg h0, if_neg h0]
    by_cases h1 : x.kind = 1
    · rw [if_pos h1, if_pos h1]; exact h.flushed
    · rw [if_neg h1, if_neg h1]
      by_cases h2 : x.kind = 2
      · rw [if_pos h2, if_pos h2]; exact ⟨rfl, h.fused _ hx⟩
      · rw [if_neg h2, if_neg h2]
        by_cases h3 : x.kind = 3
        · rw [if_pos h3, if_pos h3]; exact ⟨rfl, h.crashed _⟩
        · rw [if_neg h3, if_neg h3]; exact ⟨rfl, h⟩
theorem pstep_waits (d : Pd) (x : De) : (pstep d x).1.waits.length ≤ d.waits.length + 1 := by
  unfold pstep
  split
  · exact written_waits _ _ _
  · split
    · exact Nat.le_trans (flushed_waits d) (Nat.le_succ _)
    · split
      · exact Nat.le_succ _
      · split
        · exact Nat.zero_le _
        · exact Nat.le_succ _

/-- A box that nobody looks at. -/
def RB (gr : Nat) (w : World) : Prop := w.heap[gr]? = some (.cells #[.slice none 0 0, .slice none 0 0, .slice none 0 0, .int .i64 0, .bool false] 32 (0, 0))
theorem RB.grew {gr : Nat} {w w' : World} (h : RB gr w) (hg : Grew w w') : RB gr w' := DWrite.keepB h hg
theorem RB.prog {gr g : Nat} {D : Nat → Prop} {d d' : Pd} {w w' : World} (hd : DT w g D d) (h : RB gr w) (hx : ∃ D', DK w' g D' d' ∧ (∀ k, D' k → D k ∨ w.heap.size ≤ k) ∧ Kept D w w') : RB gr w' := by
  obtain ⟨_, _, _, hk⟩ := hx
  refine (hk.block gr (Array.getElem?_eq_some_iff.1 h).1 (fun hD => ?_)).trans h
  obtain ⟨cur', e', fz', h7, h8⟩ := hd.2 gr hD
  have h9 := h.symm.trans h7
  cases h9
  rcases h8 with h8 | h8 | h8 <;> exact absurd h8 (by decide)
theorem RB.stored {gr gx : Nat} {w w' : World} (hne : gr ≠ gx) (h : RB gr w) (hk : Kept (fun k => k = gx) w w') : RB gr w' :=
  (hk.block gr (Array.getElem?_eq_some_iff.1 h).1 hne).trans h
theorem DT_grew {w w' : World} {g : Nat} {D : Nat → Prop} {d : Pd} (h : DT w g D d) (hg : Grew w w') : DT w' g D d :=
  ⟨h.1.grew hg, fun k hk => by
    obtain ⟨cur, e, fz, h4, h5⟩ := h.2 k hk
    exact ⟨cur, e, fz, DWrite.keepB h4 hg, h5⟩⟩
theorem rwrite_eq (r : Rp) (v vb : Value) (n : Int) (S : Nat → Prop) (l : Sec) (w : World) (r' : Rp) (q : Int) (h : RD w v r) (hr : Rd S w vb l) (hn2 : r.now.length ≤ 16384) (hw : r.waits.length ≤ 1073741823) (he : rwritten r n l = (r', q)) :
    Calls Try.prog 12 #[v, .int .i64 n, vb] w fun e w' => ∃ v', e = .returned (.tuple #[v', .int .i64 q]) ∧ RD w' v' r' ∧ Grew w w' := by
  have := DRefF.rwrite_any r v vb n S l w h hr hn2 hw
  rwa [he] at this
theorem rflush_eq (r : Rp) (v : Value) (w : World) (r' : Rp) (q : Int) (h : RD w v r) (he : rflushed r = (r', q)) :
    Calls Try.prog 14 #[v] w fun e w' => ∃ v', e = .returned (.tuple #[v', .int .i64 q]) ∧ RD w' v' r' ∧ Grew w w' := by
  have := rflush_any r v w h
  rwa [he] at this
theorem rfuse_eq (r : Rp) (v : Value) (n : Int) (w : World) (r' : Rp) (h : RD w v r) (hn : n ≤ 9223372036854775807) (he : rfus r n = r') :
    Calls Try.prog 16 #[v, .int .i64 n] w fun e w' => ∃ v', e = .returned v' ∧ RD w' v' r' ∧ Grew w w' := by
  have := rfuse_any r v n w h hn
  rwa [he] at this
theorem rcrash_eq (r : Rp) (v vb : Value) (S : Nat → Prop) (l : List UInt8) (w : World) (r' : Rp) {d : Pd} (h : RD w v r) (hr : Rd S w vb l) (hs : Sim d r) (h1 : 1 ≤ d.safe.length) (h2 : d.safe.length ≤ 16384) (hw : r.waits.length ≤ 1073741823) (he : rcrash r l = r') :
    Calls Try.prog 18 #[v, vb] w fun e w' => ∃ v', e = .returned v' ∧ RD w' v' r' ∧ Grew w w' := by
  have := rcrash_any r v vb S l w h hr (by rw [hs.safe]; exact hs.even) (by rw [hs.safe, hs.waits]; exact hs.fit) (by rw [hs.safe]; omega) (by rw [hs.safe]; exact h2) hw
  rwa [he] at this
/-- A region whose one call turns the disk. -/
def S6 (W0 : World) (Q : World → Prop) : Nat → Value → World → Prop
  | 0, _, y => Grew W0 y
  | _, _, y => Q y
/-- A region that calls, and stores what it got. -/
def S7 (W0 : World) (r' : Rp) (Q : World → Prop) : Nat → Value → World → Prop
  | 0, _, y => Grew W0 y
  | 1, x, y => Grew W0 y ∧ RD y x r'
  | _, _, y => Q y
/-- A region that calls, takes what it got apart, and stores the first part. -/
def T7 (W0 : World) (r' : Rp) (e : Int) (Q : World → Prop) : Nat → Value → Value → Value → World → Prop
  | 0, _, _, _, y => Grew W0 y
  | 1, a, _, _, y => Grew W0 y ∧ ∃ v', a = .tuple #[v', .int .i64 e] ∧ RD y v' r'
  | 2, _, b, _, y => Grew W0 y ∧ ∃ v', b = .tuple #[v', .int .i64 e] ∧ RD y v' r'
  | 3, _, b, c, y => Grew W0 y ∧ b = .tuple #[c, .int .i64 e] ∧ RD y c r'
  | _, _, b, c, y => b = .tuple #[c, .int .i64 e] ∧ Q y
def P7 (a b c : Nat) (W0 : World) (r' : Rp) (e : Int) (Q : World → Prop) (i : Nat) (u : Nat → Value) (y : World) : Prop := T7 W0 r' e Q i (u a) (u b) (u c) y
theorem P7.upd {a b c : Nat} {W0 : World} {r' : Rp} {e : Int} {Q : World → Prop} {i j : Nat} {u : Nat → Value} {x : Value} {w : World} (hj : (j == a || j == b || j == c) = false) (h : P7 a b c W0 r' e Q i u w) : P7 a b c W0 r' e Q i (Marks.updv u j x) w := by
  have e2 : Marks.updv u j x a = u a := Marks.updv_other u x (fun e => by subst e; simp at hj)
  have e4 : Marks.updv u j x b = u b := Marks.updv_other u x (fun e => by subst e; simp at hj)
  have e5 : Marks.updv u j x c = u c := Marks.updv_other u x (fun e => by subst e; simp at hj)
  unfold P7 at h ⊢
  rw [e2, e4, e5]
  exact h
theorem P7.tup {a b c : Nat} {W0 : World} {r' : Rp} {e : Int} {Q : World → Prop} {i : Nat} {u : Nat → Value} {w : World} (hi : 1 < i) (h : P7 a b c W0 r' e Q i u w) : ∃ v', u b = .tuple #[v', .int .i64 e] := by
  unfold P7 at h
  match i, hi with
  | 2, _ => obtain ⟨_, v', h1, _⟩ := h; exact ⟨v', h1⟩
  | 3, _ => obtain ⟨_, h1, _⟩ := h; exact ⟨_, h1⟩
  | n + 4, _ => exact ⟨_, h.1⟩
section
variable {P : Program} {ops : Array Oper} {o : Oper} {ac : Act} {w : World} {R : World → World → Prop} {J' : Value → World → Prop} {g : Value → World → Prop}
theorem one_extract (hgd : o.guard = none) (x : Operand) (k : Nat) (ho : o.op = .extract x k) (vs : Array Value) (hx : ac.eval x = .tuple vs) {v : Value} (hv : vs[k]? = some v) (h : R w w ∧ J' v w ∧ g v w) : Marks.one P ops o ac w R J' g := by
  unfold Marks.one
  rw [if_pos (by unfold Region.wanted; rw [hgd])]
  unfold execOp
  simp only [ho, hx, Sem.run_bind, Sem.run_pure, Result.andThen_ok]
  simp [Instr.extract, hv]
  exact h
theorem one_move (hgd : o.guard = none) (x : Operand) (ho : o.op = .move x) {v : Value} (hx : ac.eval x = v) (h : R w w ∧ J' v w ∧ g v w) : Marks.one P ops o ac w R J' g := by
  unfold Marks.one
  rw [if_pos (by unfold Region.wanted; rw [hgd])]
  unfold execOp
  simp only [ho, hx, Sem.run_bind, Sem.run_pure, Result.andThen_ok]
  exact h
end
end Go.Proofs.Ytiajjkjdmcoodaa.DLawC
