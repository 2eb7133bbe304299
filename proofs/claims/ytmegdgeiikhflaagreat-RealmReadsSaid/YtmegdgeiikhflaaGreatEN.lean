/-
  A realm's bytes, by the document's reference.
  Conditions: those that each lemma names.
-/
import Derived.Test.YtmegdgeiikhflaaGreatEQ
import Derived.Test.YtmegdgeiikhflaaGreatRefs
import Derived.Test.YtmegdgeiikhflaaGreatLBytes
import Derived.Test.YtmegdgeiikhflaaGreatDR
import Derived.Test.YtmegdgeiikhflaaGreatMarks
import Derived.Deep.LoopGhost
import Derived.Lib.Hide
namespace Go.Proofs.YtmegdgeiikhflaaGreat.EN
set_option maxRecDepth 100000
open Go Go.RowKit Go.Lib Go.Proofs.YtmegdgeiikhflaaGreat Go.Proofs.YtmegdgeiikhflaaGreat.Facts Go.Proofs.YtmegdgeiikhflaaGreat.Bytes Go.Proofs.YtmegdgeiikhflaaGreat.Plain Go.Proofs.YtmegdgeiikhflaaGreat.Ints Go.Proofs.YtmegdgeiikhflaaGreat.LBox Go.Proofs.YtmegdgeiikhflaaGreat.RRows Go.Proofs.YtmegdgeiikhflaaGreat.RSmall Go.Proofs.YtmegdgeiikhflaaGreat.RRules Go.Proofs.YtmegdgeiikhflaaGreat.RRule3 Go.Proofs.YtmegdgeiikhflaaGreat.RRule5 Go.Proofs.YtmegdgeiikhflaaGreat.RCaps Go.Proofs.YtmegdgeiikhflaaGreat.RRight Go.Proofs.YtmegdgeiikhflaaGreat.Puts Go.Proofs.YtmegdgeiikhflaaGreat.BA Go.Proofs.YtmegdgeiikhflaaGreat.BB Go.Proofs.YtmegdgeiikhflaaGreat.BC Go.Proofs.YtmegdgeiikhflaaGreat.BD Go.Proofs.YtmegdgeiikhflaaGreat.Refs Go.Proofs.YtmegdgeiikhflaaGreat.LBytes Go.Proofs.YtmegdgeiikhflaaGreat.DR Go.Proofs.YtmegdgeiikhflaaGreat.LForm Go.Proofs.YtmegdgeiikhflaaGreat.BE Go.Proofs.YtmegdgeiikhflaaGreat.LRefs


theorem row_at {W : World} {t : Nat} {xs : List Value} {ys : Array Value} (hxs : ys.toList = xs) : ∀ j u, xs[j]? = some u → (W.alloc (.cells ys t)).cell? ((⟨W.heap.size, 0, none⟩ : Addr).add j) = some u := by
  intro j u hu
  rw [Addr.add_lit, Nat.zero_add, cell_of_row _ _ _ _ _ _ (heap_alloc_new W _), ← Array.getElem?_toList, hxs]
  exact hu
theorem u8_pb (n : Int) : ∃ b : UInt8, pb n = [b] ∧ IntKind.u8.wrap n = (b.toNat : Int) := by
  obtain ⟨m, h1, h2⟩ := wrapU n
  refine ⟨UInt8.ofNat m, ?_, ?_⟩
  · rw [h2]; simp [Puts.be, Puts.byteAt]
  · rw [IntKind.wrap_u64] at h1
    rw [IntKind.wrap_u8]
    simp
    omega
/-- The bytes on the way, and the realm's box. -/
structure LB (w : World) (v0 v1 v2 v3 v4 : Value) (r : Re) (v : Value) (X : List UInt8) (W : World) : Prop where
  o : OwnB W (w.heap.size + 1) v X
  b : W.heap[w.heap.size]? = some (.cells #[v0, v1, v2, v3, v4, .int .i64 r.orders, .int .i64 r.audits, .int .i64 r.rate, .int .i64 r.rounds] 28 (0, 0))
  g : Grew w W
section
variable {w W W' : World} {v0 v1 v2 v3 v4 v : Value} {r : Re} {X : List UInt8}
theorem LB.grew (h : LB w v0 v1 v2 v3 v4 r v X W) (hg : Grew W W') : LB w v0 v1 v2 v3 v4 r v X W' := ⟨own_bgrew h.o hg, keepB h.b hg, h.g.trans hg⟩
theorem LB.lt (h : LB w v0 v1 v2 v3 v4 r v X W) : w.heap.size + 1 ≤ W.heap.size := (Array.getElem?_eq_some_iff.1 h.b).1
theorem LB.below (h : LB w v0 v1 v2 v3 v4 r v X W) {v' : Value} {Y : List UInt8} (ho : OwnB W' (w.heap.size + 1) v' Y) (hb : Below (w.heap.size + 1) W W') : LB w v0 v1 v2 v3 v4 r v' Y W' :=
  ⟨ho, (hb.block _ (Nat.lt_succ_self _)).trans h.b, (show Below w.heap.size w W from h.g).trans ⟨hb.os, hb.tape, hb.output, hb.size, fun j hj => hb.block j (by omega)⟩⟩
/-- Bytes behind them. -/
theorem LB.app (h : LB w v0 v1 v2 v3 v4 r v X W) (Y : List UInt8) (vb : Value) (hr : Rd (fun _ => True) W vb Y) (hne : Y ≠ []) (hl : X.length + Y.length ≤ 100000) :
    ∃ v' W', (Builtin.append_ #[41, 41] 41 #[v, vb]).run Tryz.prog W = .ok v' W' ∧ LB w v0 v1 v2 v3 v4 r v' (X ++ Y) W' := by
  obtain ⟨v', W', h1, h2, h3⟩ := app_bytes W (w.heap.size + 1) v X Y _ vb h.o hr hne (by omega) h.lt
  exact ⟨v', W', h1, h.below h2 h3⟩
theorem rd_new (W : World) (Y : List UInt8) (hl : Y.length ≤ 1000) : Rd (fun _ => True) (W.alloc (.cells (bv Y).toArray 5)) (.slice (some ⟨W.heap.size, 0, none⟩) Y.length Y.length) Y := by
  refine ⟨some ⟨W.heap.size, 0, none⟩, Y.length, rfl, Nat.le_refl _, by unfold maxLen; omega, (fun h => by cases h), fun ad ha => ⟨fun _ => trivial, ?_⟩⟩
  cases ha
  exact row_at rfl
theorem LB.new (h : LB w v0 v1 v2 v3 v4 r v X W) (Y : List UInt8) (hne : Y ≠ []) (hY : Y.length ≤ 1000) (hl : X.length + Y.length ≤ 100000) :
    ∃ v' W', (Builtin.append_ #[41, 41] 41 #[v, .slice (some ⟨W.heap.size, 0, none⟩) Y.length Y.length]).run Tryz.prog (W.alloc (.cells (bv Y).toArray 5)) = .ok v' W' ∧ LB w v0 v1 v2 v3 v4 r v' (X ++ Y) W' :=
  (h.grew (W' := W.alloc (.cells (bv Y).toArray 5)) (by unfold Grew; exact (Below.refl _ _).alloc (Nat.le_refl _) _)).app Y _ (rd_new W Y hY) hne hl
theorem LB.slice (h : LB w v0 v1 v2 v3 v4 r v X W) : ∃ A c, v = .slice A X.length c := by
  obtain ⟨A, c, e, _⟩ := h.o.rd
  exact ⟨A, c, e⟩
end

theorem start1 {w W : World} {v0 v1 v2 v3 v4 : Value} {r : Re} (h : W.heap[w.heap.size]? = some (.cells #[v0, v1, v2, v3, v4, .int .i64 r.orders, .int .i64 r.audits, .int .i64 r.rate, .int .i64 r.rounds] 28 (0, 0))) (hg : Grew w W) (q : UInt8) :
    LB w v0 v1 v2 v3 v4 r (.slice (some ⟨W.heap.size, 0, none⟩) 1 1) [q] (W.alloc (.cells #[.int .u8 (q.toNat : Int)] 5)) := by
  have ga : Grew W (W.alloc (.cells #[.int .u8 (q.toNat : Int)] 5)) := by unfold Grew; exact (Below.refl _ _).alloc (Nat.le_refl _) _
  refine ⟨?_, keepB h ga, hg.trans ga⟩
  refine ⟨rfl, .inr ⟨W.heap.size, 1, _, rfl, ?_, heap_alloc_new _ _, Nat.le_refl _, by decide, rfl, rfl⟩⟩
  exact (Array.getElem?_eq_some_iff.1 h).1
theorem one_app {P : Program} {ops : Array Oper} {o : Oper} {ac : Act} {w : World} {R : World → World → Prop} {J' : Value → World → Prop} {g : Value → World → Prop}
    (hgd : o.guard = none) (s x : Operand) (t : TypeId) (ho : o.op = .call { callee := .builtin .append, args := #[s, x], argTypes := #[t, t] }) (vs vx : Value) (hs : ac.eval s = vs) (hx : ac.eval x = vx) (v' : Value) (w' : World)
    (hr : (Builtin.append_ #[t, t] o.type #[vs, vx]).run P w = .ok v' w') (h : R w w' ∧ J' v' w' ∧ g v' w') : Marks.one P ops o ac w R J' g := by
  unfold Marks.one
  rw [if_pos (by unfold Region.wanted; rw [hgd])]
  unfold execOp
  simp only [ho, resolve, invoke, builtin, Sem.run_bind, Sem.run_pure, Result.andThen_ok, List.map_toArray, List.map_cons, List.map_nil, hs, hx, hr]
  exact h

theorem pb0 : pb 0 = [0] := by decide
theorem pb1 : pb 1 = [1] := by decide
theorem isat {w : World} {v : Value} {l : List Int} (h : Is w v l) {k : Nat} {x : Int} (hk : l[k]? = some x) : ∃ ad c, v = .slice (some ad) l.length c ∧ l.length ≤ c ∧ w.cell? (ad.add k) = some (.int .i64 x) := by
  have hlt := (List.getElem?_eq_some_iff.1 hk).1
  obtain ⟨ad, c, e, hc, hcell⟩ := h.cell hlt
  rw [hk] at hcell
  exact ⟨ad, c, e, hc, hcell⟩
theorem four_c {W : World} {B t : Nat} {a b c d : Value} (h : W.heap[B]? = some (.cells #[a, b, c, d] t (0, 0))) :
    W.cell? ⟨B, 0, none⟩ = some a ∧ W.cell? ⟨B, 1, none⟩ = some b ∧ W.cell? ⟨B, 2, none⟩ = some c ∧ W.cell? ⟨B, 3, none⟩ = some d := by
  refine ⟨?_, ?_, ?_, ?_⟩
  all_goals rw [cell_of_row _ _ _ _ _ _ h]; rfl
theorem LB.own {w W W' : World} {v0 v1 v2 v3 v4 v v' : Value} {r : Re} {X Y : List UInt8} (h : LB w v0 v1 v2 v3 v4 r v X W) {n : Nat} (ho : W'.ownsRow W.heap.size 5 1 v' n (bv Y)) (hn : n = Y.length) (hg : Grew W W') : LB w v0 v1 v2 v3 v4 r v' Y W' :=
  ⟨OwnB.mono (OwnB.of ho hn) h.lt, keepB h.b hg, h.g.trans hg⟩
/-- Bytes made behind them, and a box that stays. -/
theorem LB.newk {w W : World} {v0 v1 v2 v3 v4 v : Value} {r : Re} {X : List UInt8} (h : LB w v0 v1 v2 v3 v4 r v X W) (Y : List UInt8) (_hne : Y ≠ []) (_hY : Y.length ≤ 1000) (hl : X.length + Y.length ≤ 100000) {b : Nat} {o : Array Value} (hb : W.heap[b]? = some (.cells o 100 (0, 0))) :
    ∃ v' W', (Builtin.append_ #[41, 41] 41 #[v, .slice (some ⟨W.heap.size, 0, none⟩) Y.length Y.length]).run Tryz.prog (W.alloc (.cells (bv Y).toArray 5)) = .ok v' W' ∧ LB w v0 v1 v2 v3 v4 r v' (X ++ Y) W' ∧ W'.heap[b]? = some (.cells o 100 (0, 0)) := by
  have hga : Grew W (W.alloc (.cells (bv Y).toArray 5)) := by unfold Grew; exact (Below.refl _ _).alloc (Nat.le_refl _) _
  have h1 := h.grew hga
  have hb1 := keepB hb hga
  obtain ⟨i0, hi, hx⟩ := Option.map_eq_some_iff.1 infoU8
  simp only [Prod.mk.injEq] at hx
  obtain ⟨hz0, hz1, hz2⟩ := hx
  have hown : (W.alloc (.cells (bv Y).toArray 5)).ownsRow (w.heap.size + 1) 5 1 v X.length (bv X) := h1.o
  obtain ⟨v', w', hr, h5, h6, _⟩ := run_append_own (P := Tryz.prog) _ (w.heap.size + 1) 41 41 5 i0 (.int .u8 0) 1 1 Tryz.underlying41 hi hz0 hz1 hz2 rfl Nat.one_pos v X.length (bv X) hown ⟨W.heap.size, 0, none⟩ Y.length Y.length (bv Y) (by rw [bv_length]; omega) (row_at rfl) (bv_one Y) (by unfold maxLen; omega) (by omega) h1.lt
  refine ⟨v', w', hr, h1.below (OwnB.of (n := X.length + Y.length) (by rw [bv_append]; exact h5) (by rw [List.length_append])) (below_of_grown _ h6 h1.lt fun k hk => ?_), ?_⟩
  · rcases hown.2 with ⟨rfl, _⟩ | ⟨g, cap, cur, rfl, hg, _⟩
    · simp [Value.ownBlock] at hk
    · simp [Value.ownBlock] at hk
      omega
  · refine (h6.block b (Array.getElem?_eq_some_iff.1 hb1).1 ?_).trans hb1
    rcases hown.2 with ⟨rfl, _⟩ | ⟨g, cap, cur, rfl, hg, h3, _⟩
    · simp [Value.ownBlock]
    · intro e
      simp [Value.ownBlock] at e
      subst e
      rw [hb1] at h3
      injection h3 with h3
      injection h3 with _ h3
      cases h3
/-- A row of bytes that is made, and its append, within a region. -/
structure J5 (w : World) (v0 v1 v2 v3 v4 : Value) (r : Re) (v : Value) (X zz : List UInt8) (m : Nat → Bool) (u : Nat → Value) (W : World) : Prop where
  bef : m 16 = false → LB w v0 v1 v2 v3 v4 r v X W
  row : m 15 = true → m 16 = false → Rd (fun _ => True) W (u 15) zz
  aft : m 16 = true → LB w v0 v1 v2 v3 v4 r (u 16) (X ++ zz) W
  dep : m 16 = true → m 15 = true
  asn : m 17 = true → u 17 = u 16 ∧ m 16 = true
section
variable {w W W' : World} {v0 v1 v2 v3 v4 v : Value} {r : Re} {X zz : List UInt8} {m : Nat → Bool} {u : Nat → Value}
theorem J5.start (h : LB w v0 v1 v2 v3 v4 r v X W) : J5 w v0 v1 v2 v3 v4 r v X zz (fun _ => false) (fun _ => undef) W.drew :=
  ⟨fun _ => h.grew (Grew.refl W).drew, (fun h => by cases h), (fun h => by cases h), (fun h => by cases h), (fun h => by cases h)⟩
theorem J5.keep (h : J5 w v0 v1 v2 v3 v4 r v X zz m u W) (k : Nat) (x : Value) (h1 : k < 15) : J5 w v0 v1 v2 v3 v4 r v X zz (Marks.upd m k) (Marks.updv u k x) W := by
  refine ⟨?_, ?_, ?_, ?_, ?_⟩
  · rw [Marks.upd_other m (by omega)]; exact h.bef
  · rw [Marks.upd_other m (by omega), Marks.upd_other m (by omega), Marks.updv_other u x (by omega)]; exact h.row
  · rw [Marks.upd_other m (by omega), Marks.updv_other u x (by omega)]; exact h.aft
  · rw [Marks.upd_other m (by omega), Marks.upd_other m (by omega)]; exact h.dep
  · rw [Marks.upd_other m (by omega), Marks.upd_other m (by omega), Marks.updv_other u x (by omega), Marks.updv_other u x (by omega)]; exact h.asn
theorem J5.no17 (h : J5 w v0 v1 v2 v3 v4 r v X zz m u W) (hm : m 16 = false) : m 17 = false := by
  cases hc : m 17 with
  | false => rfl
  | true => have := (h.asn hc).2; rw [hm] at this; cases this
theorem J5.asg (h : J5 w v0 v1 v2 v3 v4 r v X zz m u W) (hm : m 16 = true) : J5 w v0 v1 v2 v3 v4 r v X zz (Marks.upd m 17) (Marks.updv u 17 (u 16)) W := by
  refine ⟨?_, ?_, ?_, ?_, ?_⟩
  · rw [Marks.upd_other m (by omega)]; exact h.bef
  · rw [Marks.upd_other m (by omega), Marks.upd_other m (by omega), Marks.updv_other u _ (by omega)]; exact h.row
  · rw [Marks.upd_other m (by omega), Marks.updv_other u _ (by omega)]; exact h.aft
  · rw [Marks.upd_other m (by omega), Marks.upd_other m (by omega)]; exact h.dep
  · intro _; rw [Marks.updv_same, Marks.updv_other u _ (by omega), Marks.upd_other m (by omega)]; exact ⟨rfl, hm⟩
theorem J5.made {Z : List UInt8} (h : J5 w v0 v1 v2 v3 v4 r v X Z m u W) (hm : m 15 = false) (hz : Z.length ≤ 1000) : J5 w v0 v1 v2 v3 v4 r v X Z (Marks.upd m 15) (Marks.updv u 15 (.slice (some ⟨W.heap.size, 0, none⟩) Z.length Z.length)) (W.alloc (.cells (bv Z).toArray 5)) := by
  have hq : m 16 = false := by
    cases hc : m 16 with
    | false => rfl
    | true => have := h.dep hc; rw [hm] at this; cases this
  have hs := h.no17 hq
  refine ⟨?_, ?_, ?_, ?_, ?_⟩
  · rw [Marks.upd_other m (by omega)]; exact fun q => (h.bef q).grew (by unfold Grew; exact (Below.refl _ _).alloc (Nat.le_refl _) _)
  · intro _ _; rw [Marks.updv_same]; exact rd_new W Z hz
  · rw [Marks.upd_other m (by omega), hq]; exact fun h => by cases h
  · rw [Marks.upd_same]; exact fun _ => rfl
  · rw [Marks.upd_other m (by omega), hs]; exact fun h => by cases h
theorem J5.call (h : J5 w v0 v1 v2 v3 v4 r v X zz m u W) (hm : m 16 = false) (h15 : m 15 = true) {x : Value} (hq : LB w v0 v1 v2 v3 v4 r x (X ++ zz) W') : J5 w v0 v1 v2 v3 v4 r v X zz (Marks.upd m 16) (Marks.updv u 16 x) W' := by
  have hs := h.no17 hm
  refine ⟨?_, ?_, fun _ => by rw [Marks.updv_same]; exact hq, ?_, ?_⟩
  · rw [Marks.upd_same]; exact fun h => by cases h
  · rw [Marks.upd_same]; exact fun _ h => by cases h
  · intro _; rw [Marks.upd_other m (by omega)]; exact h15
  · rw [Marks.upd_other m (by omega), hs]; exact fun h => by cases h
theorem J5.lb (h : J5 w v0 v1 v2 v3 v4 r v X zz m u W) : ∃ x Y, LB w v0 v1 v2 v3 v4 r x Y W := by
  cases hc : m 16 with
  | false => exact ⟨_, _, h.bef hc⟩
  | true => exact ⟨_, _, h.aft hc⟩
theorem J5.box (h : J5 w v0 v1 v2 v3 v4 r v X zz m u W) : W.heap[w.heap.size]? = some (.cells #[v0, v1, v2, v3, v4, .int .i64 r.orders, .int .i64 r.audits, .int .i64 r.rate, .int .i64 r.rounds] 28 (0, 0)) := by
  obtain ⟨_, _, h⟩ := h.lb
  exact h.b
theorem J5.g (h : J5 w v0 v1 v2 v3 v4 r v X zz m u W) : Grew w W := by
  obtain ⟨_, _, h⟩ := h.lb
  exact h.g
end
set_option maxHeartbeats 16000000 in
theorem rbytes_any (v : Value) (r : Re) (w : World) (h : ReIs w v r) (hs : Sized r) :
    Calls Tryz.prog 30 #[v] w fun e w' => ∃ v' base, e = .returned v' ∧ w.heap.size ≤ base ∧ OwnB w' base v' (bytesP r) ∧ Grew w w' := by
  have HRI := Lib.hid (fun W hg => DR.rright_any v r W (h.grew (w' := W) hg) hs)
  obtain ⟨v0, v1, v2, v3, v4, rfl, h0, h1, h2, h3, h4⟩ := h
  have H0 := Lib.hid h0
  have H1 := Lib.hid h1
  have H2 := Lib.hid h2
  have H3 := Lib.hid h3
  have H4 := Lib.hid h4
  have HSZD : Hid (∀ x ∈ r.accounts, x.name.size ≤ maxLen ∧ x.secret.size ≤ maxLen) := Lib.hid hs
  obtain ⟨A0, c0', rfl, _⟩ := h0.slice
  obtain ⟨A1, c1', rfl, _⟩ := Rw.slice h1
  obtain ⟨A2, c2', rfl, _⟩ := h2.slice
  obtain ⟨A3, c3', rfl, _⟩ := h3.slice
  obtain ⟨A4, c4', rfl, _⟩ := h4.slice
  clear h0 h1 h2 h3 h4 hs
  have gz : Grew w (w.alloc (.cells #[.slice A0 r.labels.length c0', .slice A1 r.lines.length c1', .slice A2 r.accounts.length c2', .slice A3 r.guilds.length c3', .slice A4 r.quotas.length c4', .int .i64 r.orders, .int .i64 r.audits, .int .i64 r.rate, .int .i64 r.rounds] 28)) := by unfold Grew; go_grown
  have G0 := Lib.hid gz
  have R0 := Lib.hid (heap_alloc_new w (.cells #[.slice A0 r.labels.length c0', .slice A1 r.lines.length c1', .slice A2 r.accounts.length c2', .slice A3 r.guilds.length c3', .slice A4 r.quotas.length c4', .int .i64 r.orders, .int .i64 r.audits, .int .i64 r.rate, .int .i64 r.rounds] 28))
  clear gz
  obtain ⟨c0, c1, c2, c3, c4, c5, c6, c7, c8⟩ := nine_c R0.out
  by_cases hm : mayBe r = true
  · have hp : bytesP r = bytesR r := by unfold bytesP; rw [if_pos hm]
    rw [hp]
    rw [hm] at HRI
    have HB := Lib.hid (may_bounds hm)
    have HRT : Hid (mayBe r = true) := Lib.hid hm
    clear hp hm
    go_enter Tryz.func30, Tryz.ntmps30
    go_wp2_with fail
    refine (HRI.out _ G0.out).mono ?_
    rintro e w1 ⟨rfl, hg⟩
    obtain ⟨q, hq1, hq2⟩ := u8_pb r.labels.length
    have R1 := keepB R0.out hg
    have L1 : Hid (LB w (.slice A0 r.labels.length c0') (.slice A1 r.lines.length c1') (.slice A2 r.accounts.length c2') (.slice A3 r.guilds.length c3') (.slice A4 r.quotas.length c4') r (.slice (some ⟨w1.heap.size, 0, none⟩) 1 1) (pb r.labels.length) (w1.alloc (.cells #[.int .u8 (q.toNat : Int)] 5))) := Lib.hid (by
      rw [hq1]
      exact start1 R1 (G0.out.trans hg) q)
    clear hg HRI c0 c1 c2 c3 c4 c5 c6 c7 c8 G0 R0
    obtain ⟨c0, c1, c2, c3, c4, c5, c6, c7, c8⟩ := nine_c R1
    obtain ⟨X0, e0⟩ : ∃ Y, pb r.labels.length = Y := ⟨_, rfl⟩
    have EX0 := Lib.hid e0
    have LX0 : Hid (X0.length ≤ 1) := Lib.hid (by rw [← e0, pb_len]; omega)
    rw [e0] at L1
    clear e0 hq1
    go_wp2
    clear hq2 R1 c0 c1 c2 c3 c4 c5 c6 c7 c8
    go_loopg [3, 4] r.labels.length (fun g s3 s4 wx => ∃ (k : Nat) (vv : Value), k + g = r.labels.length ∧ vv = s3 ∧ s4 = .int .i64 k ∧ Hid (LB w (.slice A0 r.labels.length c0') (.slice A1 r.lines.length c1') (.slice A2 r.accounts.length c2') (.slice A3 r.guilds.length c3') (.slice A4 r.quotas.length c4') r s3 (X0 ++ (r.labels.take k).flatMap encL) wx))
    case atStart => exact ⟨0, _, by omega, rfl, rfl, Lib.hid (by rw [List.take_zero, List.flatMap_nil, List.append_nil]; exact L1.out)⟩
    case round =>
      clear L1
      obtain ⟨k, u, hkg, rfl, rfl, HL⟩ := hrel
      cases gk with
      | zero =>
        have hkz : ¬ ((k : Int) < (r.labels.length : Int)) := by omega
        obtain ⟨c0, c1, c2, c3, c4, c5, c6, c7, c8⟩ := nine_c HL.out.b
        obtain ⟨Y0, hY0⟩ : ∃ Y, X0 ++ r.labels.flatMap encL = Y := ⟨_, rfl⟩
        have HE : Hid (LB w (.slice A0 r.labels.length c0') (.slice A1 r.lines.length c1') (.slice A2 r.accounts.length c2') (.slice A3 r.guilds.length c3') (.slice A4 r.quotas.length c4') r u Y0 wr) := Lib.hid (by
          have := HL.out
          rw [show k = r.labels.length by omega, List.take_length, hY0] at this
          exact this)
        have LY0 : Hid (Y0.length ≤ 5000) := Lib.hid (by
          have := flat_le encL r.labels fun x _ => encL_le x
          have hb := HB.out
          have := LX0.out
          rw [← hY0, List.length_append]
          omega)
        have EY0 := Lib.hid hY0
        clear hY0 hkg HL
        obtain ⟨q, hq1, hq2⟩ := u8_pb r.lines.length
        obtain ⟨v', w2, happ, hlb⟩ := HE.out.new [q] (by simp) (by simp) (by have := LY0.out; simp; omega)
        rw [← hq1] at hlb
        obtain ⟨X1, hX1⟩ : ∃ Y, Y0 ++ pb r.lines.length = Y := ⟨_, rfl⟩
        rw [hX1] at hlb
        have LX1 : Hid (X1.length ≤ 5001) := Lib.hid (by
          have := LY0.out
          rw [← hX1, List.length_append, pb_len]
          omega)
        have EX1 := Lib.hid hX1
        have HAPP := Lib.hid happ
        have HN := Lib.hid hlb
        clear hq1 happ hlb hX1
        go_wp2_with (at_builtin; refine wpList_app_want (.tmp 35) (.tmp 40) 41 (by rfl) (by rfl) _ _ rfl rfl v' w2 (by exact HAPP.out) ?_)
        clear hkz hq2 HAPP HE c0 c1 c2 c3 c4 c5 c6 c7 c8
        go_loopg [3, 5] r.lines.length (fun g s3 s4 wx => ∃ (k : Nat) (vv : Value), k + g = r.lines.length ∧ vv = s3 ∧ s4 = .int .i64 k ∧ Hid (LB w (.slice A0 r.labels.length c0') (.slice A1 r.lines.length c1') (.slice A2 r.accounts.length c2') (.slice A3 r.guilds.length c3') (.slice A4 r.quotas.length c4') r s3 (X1 ++ (r.lines.take k).flatMap pb) wx))
        case atStart => exact ⟨0, _, by omega, rfl, rfl, Lib.hid (by rw [List.take_zero, List.flatMap_nil, List.append_nil]; exact HN.out)⟩
        case round =>
          clear HN
          obtain ⟨k, u, hkg, rfl, rfl, HL⟩ := hrel
          cases gk with
          | zero =>
            have hkz : ¬ ((k : Int) < (r.lines.length : Int)) := by omega
            obtain ⟨c0, c1, c2, c3, c4, c5, c6, c7, c8⟩ := nine_c HL.out.b
            obtain ⟨Y1, hY1⟩ : ∃ Y, X1 ++ r.lines.flatMap pb = Y := ⟨_, rfl⟩
            have HE : Hid (LB w (.slice A0 r.labels.length c0') (.slice A1 r.lines.length c1') (.slice A2 r.accounts.length c2') (.slice A3 r.guilds.length c3') (.slice A4 r.quotas.length c4') r u Y1 wr) := Lib.hid (by
              have := HL.out
              rw [show k = r.lines.length by omega, List.take_length, hY1] at this
              exact this)
            have LY1 : Hid (Y1.length ≤ 10000) := Lib.hid (by
              have := flat_le pb r.lines fun x _ => (by rw [pb_len]; omega : (pb x).length ≤ 600)
              have hb := HB.out
              have := LX1.out
              rw [← hY1, List.length_append]
              omega)
            have EY1 := Lib.hid hY1
            clear hY1 hkg HL
            obtain ⟨q, hq1, hq2⟩ := u8_pb r.accounts.length
            obtain ⟨v', w2, happ, hlb⟩ := HE.out.new [q] (by simp) (by simp) (by have := LY1.out; simp; omega)
            rw [← hq1] at hlb
            obtain ⟨X2, hX2⟩ : ∃ Y, Y1 ++ pb r.accounts.length = Y := ⟨_, rfl⟩
            rw [hX2] at hlb
            have LX2 : Hid (X2.length ≤ 10001) := Lib.hid (by
              have := LY1.out
              rw [← hX2, List.length_append, pb_len]
              omega)
            have EX2 := Lib.hid hX2
            have HAPP := Lib.hid happ
            have HN := Lib.hid hlb
            clear hq1 happ hlb hX2
            go_wp2_with (at_builtin; refine wpList_app_want (.tmp 58) (.tmp 63) 41 (by rfl) (by rfl) _ _ rfl rfl v' w2 (by exact HAPP.out) ?_)
            clear hkz hq2 HAPP HE c0 c1 c2 c3 c4 c5 c6 c7 c8
            go_loopg [3, 6] r.accounts.length (fun g s3 s4 wx => ∃ (k : Nat) (vv : Value), k + g = r.accounts.length ∧ vv = s3 ∧ s4 = .int .i64 k ∧ Hid (LB w (.slice A0 r.labels.length c0') (.slice A1 r.lines.length c1') (.slice A2 r.accounts.length c2') (.slice A3 r.guilds.length c3') (.slice A4 r.quotas.length c4') r s3 (X2 ++ (r.accounts.take k).flatMap encA) wx))
            case atStart => exact ⟨0, _, by omega, rfl, rfl, Lib.hid (by rw [List.take_zero, List.flatMap_nil, List.append_nil]; exact HN.out)⟩
            case round =>
              clear HN
              obtain ⟨k, u, hkg, rfl, rfl, HL⟩ := hrel
              cases gk with
              | zero =>
                have hkz : ¬ ((k : Int) < (r.accounts.length : Int)) := by omega
                obtain ⟨c0, c1, c2, c3, c4, c5, c6, c7, c8⟩ := nine_c HL.out.b
                obtain ⟨Y2, hY2⟩ : ∃ Y, X2 ++ r.accounts.flatMap encA = Y := ⟨_, rfl⟩
                have HE : Hid (LB w (.slice A0 r.labels.length c0') (.slice A1 r.lines.length c1') (.slice A2 r.accounts.length c2') (.slice A3 r.guilds.length c3') (.slice A4 r.quotas.length c4') r u Y2 wr) := Lib.hid (by
                  have := HL.out
                  rw [show k = r.accounts.length by omega, List.take_length, hY2] at this
                  exact this)
                have LY2 : Hid (Y2.length ≤ 15000) := Lib.hid (by
                  have := flat_le encA r.accounts fun x _ => encA_le x
                  have hb := HB.out
                  have := LX2.out
                  rw [← hY2, List.length_append]
                  omega)
                have EY2 := Lib.hid hY2
                clear hY2 hkg HL
                obtain ⟨q, hq1, hq2⟩ := u8_pb r.guilds.length
                obtain ⟨v', w2, happ, hlb⟩ := HE.out.new [q] (by simp) (by simp) (by have := LY2.out; simp; omega)
                rw [← hq1] at hlb
                obtain ⟨X3, hX3⟩ : ∃ Y, Y2 ++ pb r.guilds.length = Y := ⟨_, rfl⟩
                rw [hX3] at hlb
                have LX3 : Hid (X3.length ≤ 15001) := Lib.hid (by
                  have := LY2.out
                  rw [← hX3, List.length_append, pb_len]
                  omega)
                have EX3 := Lib.hid hX3
                have HAPP := Lib.hid happ
                have HN := Lib.hid hlb
                clear hq1 happ hlb hX3
                go_wp2_with (at_builtin; refine wpList_app_want (.tmp 94) (.tmp 99) 41 (by rfl) (by rfl) _ _ rfl rfl v' w2 (by exact HAPP.out) ?_)
                clear hkz hq2 HAPP HE c0 c1 c2 c3 c4 c5 c6 c7 c8
                go_loopg [3, 9] r.guilds.length (fun g s3 s4 wx => ∃ (k : Nat) (vv : Value), k + g = r.guilds.length ∧ vv = s3 ∧ s4 = .int .i64 k ∧ Hid (LB w (.slice A0 r.labels.length c0') (.slice A1 r.lines.length c1') (.slice A2 r.accounts.length c2') (.slice A3 r.guilds.length c3') (.slice A4 r.quotas.length c4') r s3 (X3 ++ (r.guilds.take k).flatMap encG) wx))
                case atStart => exact ⟨0, _, by omega, rfl, rfl, Lib.hid (by rw [List.take_zero, List.flatMap_nil, List.append_nil]; exact HN.out)⟩
                case round =>
                  clear HN
                  obtain ⟨k, u, hkg, rfl, rfl, HL⟩ := hrel
                  cases gk with
                  | zero =>
                    have hkz : ¬ ((k : Int) < (r.guilds.length : Int)) := by omega
                    obtain ⟨c0, c1, c2, c3, c4, c5, c6, c7, c8⟩ := nine_c HL.out.b
                    obtain ⟨Y3, hY3⟩ : ∃ Y, X3 ++ r.guilds.flatMap encG = Y := ⟨_, rfl⟩
                    have HE : Hid (LB w (.slice A0 r.labels.length c0') (.slice A1 r.lines.length c1') (.slice A2 r.accounts.length c2') (.slice A3 r.guilds.length c3') (.slice A4 r.quotas.length c4') r u Y3 wr) := Lib.hid (by
                      have := HL.out
                      rw [show k = r.guilds.length by omega, List.take_length, hY3] at this
                      exact this)
                    have LY3 : Hid (Y3.length ≤ 20000) := Lib.hid (by
                      have := flat_le encG r.guilds fun x _ => encG_le x
                      have hb := HB.out
                      have := LX3.out
                      rw [← hY3, List.length_append]
                      omega)
                    have EY3 := Lib.hid hY3
                    clear hY3 hkg HL
                    have HN := HE
                    go_wp2
                    clear hkz HE c0 c1 c2 c3 c4 c5 c6 c7 c8
                    go_loopg [3, 10] r.quotas.length (fun g s3 s4 wx => ∃ (k : Nat) (vv : Value), k + g = r.quotas.length ∧ vv = s3 ∧ s4 = .int .i64 k ∧ Hid (LB w (.slice A0 r.labels.length c0') (.slice A1 r.lines.length c1') (.slice A2 r.accounts.length c2') (.slice A3 r.guilds.length c3') (.slice A4 r.quotas.length c4') r s3 (Y3 ++ (r.quotas.take k).flatMap encQ) wx))
                    case atStart => exact ⟨0, _, by omega, rfl, rfl, Lib.hid (by rw [List.take_zero, List.flatMap_nil, List.append_nil]; exact HN.out)⟩
                    case round =>
                      clear HN
                      obtain ⟨k, u, hkg, rfl, rfl, HL⟩ := hrel
                      cases gk with
                      | zero =>
                        have hkz : ¬ ((k : Int) < (r.quotas.length : Int)) := by omega
                        obtain ⟨c0, c1, c2, c3, c4, c5, c6, c7, c8⟩ := nine_c HL.out.b
                        obtain ⟨Y4, hY4⟩ : ∃ Y, Y3 ++ r.quotas.flatMap encQ = Y := ⟨_, rfl⟩
                        have HE : Hid (LB w (.slice A0 r.labels.length c0') (.slice A1 r.lines.length c1') (.slice A2 r.accounts.length c2') (.slice A3 r.guilds.length c3') (.slice A4 r.quotas.length c4') r u Y4 wr) := Lib.hid (by
                          have := HL.out
                          rw [show k = r.quotas.length by omega, List.take_length, hY4] at this
                          exact this)
                        have LY4 : Hid (Y4.length ≤ 25000) := Lib.hid (by
                          have := flat_le encQ r.quotas fun x _ => encQ_le x
                          have hb := HB.out
                          have := LY3.out
                          rw [← hY4, List.length_append]
                          omega)
                        have EY4 := Lib.hid hY4
                        clear hY4 hkg HL
                        obtain ⟨q1, p1, t1⟩ := u8_pb r.orders
                        obtain ⟨q2, p2, t2⟩ := u8_pb r.audits
                        obtain ⟨q3, p3, t3⟩ := u8_pb r.rate
                        obtain ⟨q4, p4, t4⟩ := u8_pb r.rounds
                        have hp : putP [r.orders, r.audits, r.rate, r.rounds] = [q1, q2, q3, q4] := by unfold putP; simp [p1, p2, p3, p4]
                        obtain ⟨v', w3, happ, hlb⟩ := HE.out.new [q1, q2, q3, q4] (by simp) (by simp) (by have := LY4.out; simp at this ⊢; omega)
                        rw [← hp] at hlb
                        have HAPP := Lib.hid happ
                        have HO2 := Lib.hid hlb
                        clear happ hlb p1 p2 p3 p4 hp HE
                        go_wp2_with (at_builtin; refine wpList_app_want (.tmp 159) (.tmp 172) 41 (by rfl) (by rfl) _ _ rfl rfl v' w3 (by exact HAPP.out) ?_)
                        go_returns
                        refine ⟨_, rfl, w.heap.size + 1, Nat.le_succ _, ?_, HO2.out.g⟩
                        have e : bytesR r = Y4 ++ putP [r.orders, r.audits, r.rate, r.rounds] := by
                          unfold bytesR
                          rw [← EY4.out, ← EY3.out, ← EX3.out, ← EY2.out, ← EX2.out, ← EY1.out, ← EX1.out, ← EY0.out, ← EX0.out]
                          simp only [List.append_assoc]
                        rw [e]
                        exact HO2.out.o

                      | succ g =>
                        have hkl : k < r.quotas.length := by omega
                        have hkz : (k : Int) < (r.quotas.length : Int) := by omega
                        have hx : r.quotas[k]? = some r.quotas[k] := List.getElem?_eq_getElem hkl
                        obtain ⟨ad, c9, e9, _, d0, d1, d2, d3, d4, d5⟩ := Qs_at (H4.out.grew HL.out.g) hx
                        injection e9 with e1 e2 e3
                        subst e1 e3
                        clear e2
                        have hts : (r.quotas.take (k + 1)).flatMap encQ = (r.quotas.take k).flatMap encQ ++ encQ r.quotas[k] := by
                          rw [List.take_add_one, hx, List.flatMap_append]
                          simp
                        have HLEN : Hid ((Y3 ++ (r.quotas.take k).flatMap encQ).length ≤ 45000) := Lib.hid (by
                          have h1 := flat_le encQ (r.quotas.take k) fun x _ => encQ_le x
                          rw [List.length_append]
                          rw [List.length_take] at h1
                          have := HB.out
                          have := LY3.out
                          omega)
                        have HKW : Hid (wrap64 ((k : Int) + 1) = ((k + 1 : Nat) : Int)) := Lib.hid (by have := HB.out; unfold wrap64; omega)
                        have HM : Hid (k + 1 + g = r.quotas.length) := Lib.hid (by omega)
                        generalize r.quotas[k] = x at *
                        have HTS := Lib.hid hts
                        obtain ⟨rm, ex, it, ma, tr, cp⟩ := x
                        simp only at d0 d1 d2 d3 d4 d5
                        have ga : Grew wr (wr.alloc (.cells #[.int .i64 rm, .int .i64 ex, .int .i64 it, .int .i64 ma, .int .i64 tr, .int .u64 (cp.toNat : Int)] 100)) := by unfold Grew; go_grown
                        have HLB := Lib.hid (HL.out.grew ga)
                        have BA := Lib.hid (heap_alloc_new wr (.cells #[.int .i64 rm, .int .i64 ex, .int .i64 it, .int .i64 ma, .int .i64 tr, .int .u64 (cp.toNat : Int)] 100))
                        obtain ⟨c0, c1, c2, c3, c4, c5, c6, c7, c8⟩ := nine_c HL.out.b
                        obtain ⟨Y, hy⟩ : ∃ Y, Y3 ++ (r.quotas.take k).flatMap encQ = Y := ⟨_, rfl⟩
                        rw [hy] at HLEN HLB
                        have HY := Lib.hid hy
                        have HYL := HLEN
                        clear hx hts hkl hkg ga HL HLEN hy
                        go_upto_region 33 with fail
                        clear d0 d1 d2 d3 d4 d5 c0 c1 c2 c3 c4 c5 c6 c7 c8
                        generalize wr.alloc (.cells #[.int .i64 rm, .int .i64 ex, .int .i64 it, .int .i64 ma, .int .i64 tr, .int .u64 (cp.toNat : Int)] 100) = wb at *
                        generalize wr.heap.size = ab at *
                        obtain ⟨c0, c1, c2, c3, c4, c5, c6, c7, c8⟩ := nine_c HLB.out.b
                        obtain ⟨b0, b1, b2, b3, b4, b5⟩ := six_c BA.out
                        obtain ⟨q1, p1, t1⟩ := u8_pb rm
                        obtain ⟨q2, p2, t2⟩ := u8_pb ex
                        obtain ⟨q3, p3, t3⟩ := u8_pb it
                        obtain ⟨q4, p4, t4⟩ := u8_pb ma
                        obtain ⟨q5, p5, t5⟩ := u8_pb tr
                        have hp : putP [rm, ex, it, ma, tr] = [q1, q2, q3, q4, q5] := by unfold putP; simp [p1, p2, p3, p4, p5]
                        obtain ⟨v', w3, happ, hlb, hbk⟩ := HLB.out.newk [q1, q2, q3, q4, q5] (by simp) (by simp) (by have := HYL.out; simp at this ⊢; omega) BA.out
                        rw [← hp] at hlb
                        have HAPP := Lib.hid happ
                        have H3' := Lib.hid hlb
                        have BA3 := Lib.hid hbk
                        clear happ hlb hbk p1 p2 p3 p4 p5 hp
                        obtain ⟨y0, y1, y2, y3, y4, y5⟩ := six_c BA3.out
                        go_wp2_with (at_builtin; refine wpList_app_want (.tmp 137) (.tmp 153) 41 (by rfl) (by rfl) _ _ rfl rfl v' w3 (by exact HAPP.out) ?_)
                        clear y0 y1 y2 y3 y4 y5 c0 c1 c2 c3 c4 c5 c6 c7 c8 b0 b1 b2 b3 b4 b5 t1 t2 t3 t4 t5 HAPP HLB BA
                        refine (Refs.num_any _ v' _ cp.toNat 8 w3 H3'.out.o.rd (by have := HYL.out; rw [List.length_append, putP_len]; simp; omega) cp.isLt).mono ?_
                        rintro e w4 ⟨v4', rfl, ho, hg⟩
                        rw [width8] at ho
                        have H4 := Lib.hid (H3'.out.own (Y := Y ++ putP [rm, ex, it, ma, tr] ++ Puts.be 8 cp.toNat) ho (by simp only [List.length_append, Puts.be_length]) hg)
                        have hts2 : Y ++ putP [rm, ex, it, ma, tr] ++ Puts.be 8 cp.toNat = Y3 ++ (r.quotas.take (k + 1)).flatMap encQ := by
                          rw [HTS.out, ← List.append_assoc, HY.out]
                          unfold encQ
                          rw [List.append_assoc]
                        rw [hts2] at H4
                        have HO2 := H4
                        clear ho hg hts2 H4 H3' BA3 HTS
                        go_wp2
                        go_roundg g
                        case measure => omega
                        case rel => exact ⟨k + 1, _, HM.out, rfl, by first | rfl | (simp; done) | rw [HKW.out], HO2⟩

                  | succ g =>
                    have hkl : k < r.guilds.length := by omega
                    have hkz : (k : Int) < (r.guilds.length : Int) := by omega
                    have hx : r.guilds[k]? = some r.guilds[k] := List.getElem?_eq_getElem hkl
                    obtain ⟨ad, c9, e9, _, d0, d1⟩ := Gs_at (H3.out.grew HL.out.g) hx
                    injection e9 with e1 e2 e3
                    subst e1 e3
                    clear e2
                    have hts : (r.guilds.take (k + 1)).flatMap encG = (r.guilds.take k).flatMap encG ++ encG r.guilds[k] := by
                      rw [List.take_add_one, hx, List.flatMap_append]
                      simp
                    have HLEN : Hid ((X3 ++ (r.guilds.take k).flatMap encG).length ≤ 45000) := Lib.hid (by
                      have h1 := flat_le encG (r.guilds.take k) fun x _ => encG_le x
                      rw [List.length_append]
                      rw [List.length_take] at h1
                      have := HB.out
                      have := LX3.out
                      omega)
                    have HKW : Hid (wrap64 ((k : Int) + 1) = ((k + 1 : Nat) : Int)) := Lib.hid (by have := HB.out; unfold wrap64; omega)
                    have HM : Hid (k + 1 + g = r.guilds.length) := Lib.hid (by omega)
                    generalize hxx : r.guilds[k] = x at *
                    have HXK : Hid (r.guilds[k]? = some x) := Lib.hid hx
                    have HTS := Lib.hid hts
                    obtain ⟨bt, fo⟩ := x
                    simp only at d0 d1
                    obtain ⟨q1, hq1, hq2⟩ := u8_pb bt
                    obtain ⟨q2, hq3, hq4⟩ := u8_pb fo
                    have hen : encG ⟨bt, fo⟩ = [q1, q2] := by unfold encG; rw [hq1, hq3]; rfl
                    rw [hen] at HTS
                    have Q1 := Lib.hid hq2
                    have Q2 := Lib.hid hq4
                    have hk0 : ¬ ((k : Int) < 0) := by omega
                    clear hx hts hkl hkg hxx hq1 hq2 hq3 hq4 hen d0 d1
                    obtain ⟨c0, c1, c2, c3, c4, c5, c6, c7, c8⟩ := nine_c HL.out.b
                    go_wp2
                    clear c0 c1 c2 c3 c4 c5 c6 c7 c8
                    refine Marks.wp_region_text (J5 w (.slice A0 r.labels.length c0') (.slice A1 r.lines.length c1') (.slice A2 r.accounts.length c2') (.slice (some ad) r.guilds.length c3') (.slice A4 r.quotas.length c4') r u (X3 ++ (r.guilds.take k).flatMap encG) [q1, q2]) (fun _ _ => True) (by kernel_rfl) (by kernel_rfl) (J5.start HL.out) ?_
                    apply Marks.Lex.exact [] _ (by kernel_rfl)
                    · intro m u W hm hcl hJ _
                      unfold Marks.one
                      go_simp
                      exact ⟨trivial, hJ.keep 0 _ (by decide), rfl⟩
                    simp only [Act.put, List.setIfInBounds_toArray, List.set_cons_zero, List.set_cons_succ, Nat.zero_add]
                    apply Marks.Lex.exact [] _ (by kernel_rfl)
                    · intro m u W hm hcl hJ _
                      unfold Marks.one
                      go_simp
                      exact ⟨trivial, hJ.keep 1 _ (by decide), rfl⟩
                    simp only [Act.put, List.setIfInBounds_toArray, List.set_cons_zero, List.set_cons_succ, Nat.reduceAdd]
                    apply Marks.Lex.exact [] _ (by kernel_rfl)
                    · intro m u W hm hcl hJ _
                      have hx := nine_c hJ.box
                      obtain ⟨c0, c1, c2, c3, c4, c5, c6, c7, c8⟩ := hx
                      unfold Marks.one
                      go_simp
                      exact ⟨trivial, hJ.keep 2 _ (by decide), rfl⟩
                    simp only [Act.put, List.setIfInBounds_toArray, List.set_cons_zero, List.set_cons_succ, Nat.reduceAdd]
                    apply Marks.Lex.exact [] _ (by kernel_rfl)
                    · intro m u W hm hcl hJ _
                      unfold Marks.one
                      go_simp
                      exact ⟨trivial, hJ.keep 3 _ (by decide), rfl⟩
                    simp only [Act.put, List.setIfInBounds_toArray, List.set_cons_zero, List.set_cons_succ, Nat.reduceAdd]
                    apply Marks.Lex.exact [] _ (by kernel_rfl)
                    · intro m u W hm hcl hJ _
                      obtain ⟨ad2, c8, e8, _, d0, d1⟩ := Gs_at (H3.out.grew hJ.g) HXK.out
                      injection e8 with e1 e2 e3
                      cases e1
                      clear e2 e3
                      unfold Marks.one
                      go_simp
                      exact ⟨trivial, hJ.keep 4 _ (by decide), rfl⟩
                    simp only [Act.put, List.setIfInBounds_toArray, List.set_cons_zero, List.set_cons_succ, Nat.reduceAdd]
                    apply Marks.Lex.exact [] _ (by kernel_rfl)
                    · intro m u W hm hcl hJ _
                      unfold Marks.one
                      go_simp
                      exact ⟨trivial, hJ.keep 5 _ (by decide), rfl⟩
                    simp only [Act.put, List.setIfInBounds_toArray, List.set_cons_zero, List.set_cons_succ, Nat.reduceAdd]
                    apply Marks.Lex.exact [] _ (by kernel_rfl)
                    · intro m u W hm hcl hJ _
                      obtain ⟨ad2, c8, e8, _, d0, d1⟩ := Gs_at (H3.out.grew hJ.g) HXK.out
                      injection e8 with e1 e2 e3
                      cases e1
                      clear e2 e3
                      unfold Marks.one
                      go_simp
                      exact ⟨trivial, hJ.keep 6 _ (by decide), rfl⟩
                    simp only [Act.put, List.setIfInBounds_toArray, List.set_cons_zero, List.set_cons_succ, Nat.reduceAdd]
                    apply Marks.Lex.exact [] _ (by kernel_rfl)
                    · intro m u W hm hcl hJ _
                      have hq2 := Q1.out
                      unfold Marks.one
                      go_simp
                      exact ⟨trivial, hJ.keep 7 _ (by decide), rfl⟩
                    simp only [Act.put, List.setIfInBounds_toArray, List.set_cons_zero, List.set_cons_succ, Nat.reduceAdd]
                    apply Marks.Lex.exact [] _ (by kernel_rfl)
                    · intro m u W hm hcl hJ _
                      unfold Marks.one
                      go_simp
                      exact ⟨trivial, hJ.keep 8 _ (by decide), rfl⟩
                    simp only [Act.put, List.setIfInBounds_toArray, List.set_cons_zero, List.set_cons_succ, Nat.reduceAdd]
                    apply Marks.Lex.exact [] _ (by kernel_rfl)
                    · intro m u W hm hcl hJ _
                      have hx := nine_c hJ.box
                      obtain ⟨c0, c1, c2, c3, c4, c5, c6, c7, c8⟩ := hx
                      unfold Marks.one
                      go_simp
                      exact ⟨trivial, hJ.keep 9 _ (by decide), rfl⟩
                    simp only [Act.put, List.setIfInBounds_toArray, List.set_cons_zero, List.set_cons_succ, Nat.reduceAdd]
                    apply Marks.Lex.exact [] _ (by kernel_rfl)
                    · intro m u W hm hcl hJ _
                      unfold Marks.one
                      go_simp
                      exact ⟨trivial, hJ.keep 10 _ (by decide), rfl⟩
                    simp only [Act.put, List.setIfInBounds_toArray, List.set_cons_zero, List.set_cons_succ, Nat.reduceAdd]
                    apply Marks.Lex.exact [] _ (by kernel_rfl)
                    · intro m u W hm hcl hJ _
                      obtain ⟨ad2, c8, e8, _, d0, d1⟩ := Gs_at (H3.out.grew hJ.g) HXK.out
                      injection e8 with e1 e2 e3
                      cases e1
                      clear e2 e3
                      unfold Marks.one
                      go_simp
                      exact ⟨trivial, hJ.keep 11 _ (by decide), rfl⟩
                    simp only [Act.put, List.setIfInBounds_toArray, List.set_cons_zero, List.set_cons_succ, Nat.reduceAdd]
                    apply Marks.Lex.exact [] _ (by kernel_rfl)
                    · intro m u W hm hcl hJ _
                      unfold Marks.one
                      go_simp
                      exact ⟨trivial, hJ.keep 12 _ (by decide), rfl⟩
                    simp only [Act.put, List.setIfInBounds_toArray, List.set_cons_zero, List.set_cons_succ, Nat.reduceAdd]
                    apply Marks.Lex.exact [] _ (by kernel_rfl)
                    · intro m u W hm hcl hJ _
                      obtain ⟨ad2, c8, e8, _, d0, d1⟩ := Gs_at (H3.out.grew hJ.g) HXK.out
                      injection e8 with e1 e2 e3
                      cases e1
                      clear e2 e3
                      unfold Marks.one
                      go_simp
                      exact ⟨trivial, hJ.keep 13 _ (by decide), rfl⟩
                    simp only [Act.put, List.setIfInBounds_toArray, List.set_cons_zero, List.set_cons_succ, Nat.reduceAdd]
                    apply Marks.Lex.exact [] _ (by kernel_rfl)
                    · intro m u W hm hcl hJ _
                      have hq2 := Q2.out
                      unfold Marks.one
                      go_simp
                      exact ⟨trivial, hJ.keep 14 _ (by decide), rfl⟩
                    simp only [Act.put, List.setIfInBounds_toArray, List.set_cons_zero, List.set_cons_succ, Nat.reduceAdd]
                    apply Marks.Lex.know [] (fun _ _ => True) (by kernel_rfl) (fun _ _ _ _ _ => trivial)
                    · intro m u W hm hcl hJ _
                      unfold Marks.one
                      go_simp
                      exact ⟨trivial, hJ.made hm (by simp), trivial⟩
                    simp only [Act.put, List.setIfInBounds_toArray, List.set_cons_zero, List.set_cons_succ, Nat.reduceAdd]
                    apply Marks.Lex.know [] (fun _ _ => True) (by kernel_rfl) (fun _ _ _ _ _ => trivial)
                    · intro m u W hm hcl hJ _
                      have h15 : m 15 = true := hcl 15 (by decide)
                      obtain ⟨v', W', happ, hlb⟩ := (hJ.bef hm).app _ (u 15) (hJ.row h15 hm) (by simp) (by have := HLEN.out; simp at this ⊢; omega)
                      exact one_app rfl (.tmp 108) (.tmp 123) 41 rfl _ _ rfl rfl v' W' happ ⟨trivial, hJ.call hm h15 hlb, trivial⟩
                    simp only [Act.put, List.setIfInBounds_toArray, List.set_cons_zero, List.set_cons_succ, Nat.reduceAdd]
                    apply Marks.Lex.know [] (fun _ _ => True) (by kernel_rfl) (fun _ _ _ _ _ => trivial)
                    · intro m u W hm hcl hJ _
                      have h16 : m 16 = true := hcl 16 (by decide)
                      unfold Marks.one
                      go_simp
                      exact ⟨trivial, hJ.asg h16, trivial⟩
                    simp only [Act.put, List.setIfInBounds_toArray, List.set_cons_zero, List.set_cons_succ, Nat.reduceAdd]
                    refine Marks.Lex.done fun m u W3 hm hJ _ => ?_
                    have HO2 := Lib.hid (hJ.aft (hm 16 (by decide)))
                    have hu := (hJ.asn (hm 17 (by decide))).1
                    rw [List.append_assoc, ← HTS.out] at HO2
                    simp only [hu]
                    generalize u 16 = v16 at *
                    clear hm hJ hu
                    clear HTS HL HLEN HXK
                    go_wp2
                    go_roundg g
                    case measure => omega
                    case rel => exact ⟨k + 1, _, HM.out, rfl, by first | rfl | (simp; done) | rw [HKW.out], HO2⟩

              | succ g =>
                have hkl : k < r.accounts.length := by omega
                have hkz : (k : Int) < (r.accounts.length : Int) := by omega
                have hx : r.accounts[k]? = some r.accounts[k] := List.getElem?_eq_getElem hkl
                obtain ⟨ad, c9, e9, _, d0, d1, d2, d3⟩ := As_at (H2.out.grew HL.out.g) hx
                injection e9 with e1 e2 e3
                subst e1 e3
                clear e2
                have hts : (r.accounts.take (k + 1)).flatMap encA = (r.accounts.take k).flatMap encA ++ encA r.accounts[k] := by
                  rw [List.take_add_one, hx, List.flatMap_append]
                  simp
                have HLEN : Hid ((X2 ++ (r.accounts.take k).flatMap encA).length ≤ 45000) := Lib.hid (by
                  have h1 := flat_le encA (r.accounts.take k) fun x _ => encA_le x
                  rw [List.length_append]
                  rw [List.length_take] at h1
                  have := HB.out
                  have := LX2.out
                  omega)
                have HKW : Hid (wrap64 ((k : Int) + 1) = ((k + 1 : Nat) : Int)) := Lib.hid (by have := HB.out; unfold wrap64; omega)
                have HM : Hid (k + 1 + g = r.accounts.length) := Lib.hid (by omega)
                have hsz := HSZD.out _ (List.getElem_mem hkl)
                generalize r.accounts[k] = x at *
                have HTS := Lib.hid hts
                obtain ⟨nm, sc, lv, mt⟩ := x
                simp only at d0 d1 d2 d3 hsz
                have HS1 := Lib.hid hsz.1
                have HS2 := Lib.hid hsz.2
                have ga : Grew wr (wr.alloc (.cells #[.string nm, .string sc, .int .i64 lv, .bool mt] 88)) := by unfold Grew; go_grown
                have HLB := Lib.hid (HL.out.grew ga)
                have BA := Lib.hid (heap_alloc_new wr (.cells #[.string nm, .string sc, .int .i64 lv, .bool mt] 88))
                obtain ⟨c0, c1, c2, c3, c4, c5, c6, c7, c8⟩ := nine_c HL.out.b
                obtain ⟨Y, hy⟩ : ∃ Y, X2 ++ (r.accounts.take k).flatMap encA = Y := ⟨_, rfl⟩
                rw [hy] at HLEN HLB
                have HY := Lib.hid hy
                have HYL := HLEN
                clear hx hts hkl hkg hsz ga HL HLEN hy
                go_upto_region 18 with fail
                clear d0 d1 d2 d3 c0 c1 c2 c3 c4 c5 c6 c7 c8
                generalize wr.alloc (.cells #[.string nm, .string sc, .int .i64 lv, .bool mt] 88) = wb at *
                generalize wr.heap.size = ab at *
                obtain ⟨c0, c1, c2, c3, c4, c5, c6, c7, c8⟩ := nine_c HLB.out.b
                obtain ⟨b0, b1, b2, b3⟩ := four_c BA.out
                rcases mt with _ | _
                · go_wp2_with fail
                  refine (Refs.text_any _ u Y nm wb HLB.out.o.rd (by have := HYL.out; omega) HS1.out).mono ?_
                  rintro e w4 ⟨v4', rfl, ho, hg⟩
                  have H4 := Lib.hid (HLB.out.own (Y := Y ++ tx nm.data.toList) ho List.length_append.symm hg)
                  have BA2 := Lib.hid (keepB BA.out hg)
                  clear ho hg c0 c1 c2 c3 c4 c5 c6 c7 c8 b0 b1 b2 b3 HLB BA
                  obtain ⟨c0, c1, c2, c3, c4, c5, c6, c7, c8⟩ := nine_c H4.out.b
                  obtain ⟨b0, b1, b2, b3⟩ := four_c BA2.out
                  go_wp2_with fail
                  refine (Refs.text_any _ v4' _ sc w4 H4.out.o.rd (by have := HYL.out; rw [List.length_append, tx_length]; omega) HS2.out).mono ?_
                  rintro e w5 ⟨v5', rfl, ho, hg⟩
                  have H5 := Lib.hid (H4.out.own (Y := Y ++ tx nm.data.toList ++ tx sc.data.toList) ho List.length_append.symm hg)
                  have BA3 := Lib.hid (keepB BA2.out hg)
                  clear ho hg c0 c1 c2 c3 c4 c5 c6 c7 c8 b0 b1 b2 b3 H4 BA2
                  obtain ⟨c0, c1, c2, c3, c4, c5, c6, c7, c8⟩ := nine_c H5.out.b
                  obtain ⟨b0, b1, b2, b3⟩ := four_c BA3.out
                  obtain ⟨q, hq1, hq2⟩ := u8_pb lv
                  obtain ⟨v6, w6, happ, hlb⟩ := H5.out.new [q, 0] (by simp) (by simp) (by have := HYL.out; simp [tx_length] at this ⊢; omega)
                  have hts2 : Y ++ tx nm.data.toList ++ tx sc.data.toList ++ [q, 0] = X2 ++ (r.accounts.take (k + 1)).flatMap encA := by
                    rw [HTS.out, ← List.append_assoc, HY.out]
                    unfold encA
                    rw [hq1]
                    simp [pb0]
                  rw [hts2] at hlb
                  have HAPP := Lib.hid happ
                  have HO2 := Lib.hid hlb
                  clear happ hlb hts2 hq1 H5 BA3
                  go_wp2_with (at_builtin; refine wpList_app_want (.tmp 87) (.tmp 92) 41 (by rfl) (by rfl) _ _ rfl rfl v6 w6 (by exact HAPP.out) ?_)
                  go_roundg g
                  case measure => omega
                  case rel => exact ⟨k + 1, _, HM.out, rfl, by first | rfl | (simp; done) | rw [HKW.out], HO2⟩
                · go_wp2_with fail
                  refine (Refs.text_any _ u Y nm wb HLB.out.o.rd (by have := HYL.out; omega) HS1.out).mono ?_
                  rintro e w4 ⟨v4', rfl, ho, hg⟩
                  have H4 := Lib.hid (HLB.out.own (Y := Y ++ tx nm.data.toList) ho List.length_append.symm hg)
                  have BA2 := Lib.hid (keepB BA.out hg)
                  clear ho hg c0 c1 c2 c3 c4 c5 c6 c7 c8 b0 b1 b2 b3 HLB BA
                  obtain ⟨c0, c1, c2, c3, c4, c5, c6, c7, c8⟩ := nine_c H4.out.b
                  obtain ⟨b0, b1, b2, b3⟩ := four_c BA2.out
                  go_wp2_with fail
                  refine (Refs.text_any _ v4' _ sc w4 H4.out.o.rd (by have := HYL.out; rw [List.length_append, tx_length]; omega) HS2.out).mono ?_
                  rintro e w5 ⟨v5', rfl, ho, hg⟩
                  have H5 := Lib.hid (H4.out.own (Y := Y ++ tx nm.data.toList ++ tx sc.data.toList) ho List.length_append.symm hg)
                  have BA3 := Lib.hid (keepB BA2.out hg)
                  clear ho hg c0 c1 c2 c3 c4 c5 c6 c7 c8 b0 b1 b2 b3 H4 BA2
                  obtain ⟨c0, c1, c2, c3, c4, c5, c6, c7, c8⟩ := nine_c H5.out.b
                  obtain ⟨b0, b1, b2, b3⟩ := four_c BA3.out
                  obtain ⟨q, hq1, hq2⟩ := u8_pb lv
                  obtain ⟨v6, w6, happ, hlb⟩ := H5.out.new [q, 1] (by simp) (by simp) (by have := HYL.out; simp [tx_length] at this ⊢; omega)
                  have hts2 : Y ++ tx nm.data.toList ++ tx sc.data.toList ++ [q, 1] = X2 ++ (r.accounts.take (k + 1)).flatMap encA := by
                    rw [HTS.out, ← List.append_assoc, HY.out]
                    unfold encA
                    rw [hq1]
                    simp [pb1]
                  rw [hts2] at hlb
                  have HAPP := Lib.hid happ
                  have HO2 := Lib.hid hlb
                  clear happ hlb hts2 hq1 H5 BA3
                  go_wp2_with (at_builtin; refine wpList_app_want (.tmp 87) (.tmp 92) 41 (by rfl) (by rfl) _ _ rfl rfl v6 w6 (by exact HAPP.out) ?_)
                  go_roundg g
                  case measure => omega
                  case rel => exact ⟨k + 1, _, HM.out, rfl, by first | rfl | (simp; done) | rw [HKW.out], HO2⟩

          | succ g =>
            have hkl : k < r.lines.length := by omega
            have hkz : (k : Int) < (r.lines.length : Int) := by omega
            have hx : r.lines[k]? = some r.lines[k] := List.getElem?_eq_getElem hkl
            obtain ⟨ad, c9, e9, _, d0⟩ := isat (H1.out.grew HL.out.g) hx
            injection e9 with e1 e2 e3
            subst e1 e3
            clear e2
            have hts : (r.lines.take (k + 1)).flatMap pb = (r.lines.take k).flatMap pb ++ pb r.lines[k] := by
              rw [List.take_add_one, hx, List.flatMap_append]
              simp
            have HLEN : Hid ((X1 ++ (r.lines.take k).flatMap pb).length ≤ 45000) := Lib.hid (by
              have h1 := flat_le pb (r.lines.take k) fun x _ => (by rw [pb_len]; omega)
              rw [List.length_append]
              rw [List.length_take] at h1
              have := HB.out
              have := LX1.out
              omega)
            have HKW : Hid (wrap64 ((k : Int) + 1) = ((k + 1 : Nat) : Int)) := Lib.hid (by have := HB.out; unfold wrap64; omega)
            have HM : Hid (k + 1 + g = r.lines.length) := Lib.hid (by omega)
            generalize r.lines[k] = x at *
            have HTS := Lib.hid hts
            obtain ⟨q, hq1, hq2⟩ := u8_pb x
            obtain ⟨v', w3, happ, hlb⟩ := HL.out.new [q] (by simp) (by simp) (by have := HLEN.out; simp at this ⊢; omega)
            rw [← hq1] at hlb
            have HAPP := Lib.hid happ
            have HO2 : Hid (LB w (.slice A0 r.labels.length c0') (.slice (some ad) r.lines.length c1') (.slice A2 r.accounts.length c2') (.slice A3 r.guilds.length c3') (.slice A4 r.quotas.length c4') r v' (X1 ++ (r.lines.take (k + 1)).flatMap pb) w3) := Lib.hid (by rw [HTS.out, ← List.append_assoc]; exact hlb)
            obtain ⟨c0, c1, c2, c3, c4, c5, c6, c7, c8⟩ := nine_c HL.out.b
            clear hx hts hkl hkg hq1 happ hlb HTS HL HLEN
            go_wp2_with (at_builtin; refine wpList_app_want (.tmp 49) (.tmp 56) 41 (by rfl) (by rfl) _ _ rfl rfl v' w3 (by exact HAPP.out) ?_)
            go_roundg g
            case measure => omega
            case rel => exact ⟨k + 1, _, HM.out, rfl, by first | rfl | (simp; done) | rw [HKW.out], HO2⟩

      | succ g =>
        have hkl : k < r.labels.length := by omega
        have hkz : (k : Int) < (r.labels.length : Int) := by omega
        have hx : r.labels[k]? = some r.labels[k] := List.getElem?_eq_getElem hkl
        obtain ⟨ad, c9, e9, _, d0, d1⟩ := Ls_at (H0.out.grew HL.out.g) hx
        injection e9 with e1 e2 e3
        subst e1 e3
        clear e2
        have hts : (r.labels.take (k + 1)).flatMap encL = (r.labels.take k).flatMap encL ++ encL r.labels[k] := by
          rw [List.take_add_one, hx, List.flatMap_append]
          simp
        have HLEN : Hid ((X0 ++ (r.labels.take k).flatMap encL).length ≤ 45000) := Lib.hid (by
          have h1 := flat_le encL (r.labels.take k) fun x _ => encL_le x
          rw [List.length_append]
          rw [List.length_take] at h1
          have := HB.out
          have := LX0.out
          omega)
        have HKW : Hid (wrap64 ((k : Int) + 1) = ((k + 1 : Nat) : Int)) := Lib.hid (by have := HB.out; unfold wrap64; omega)
        have HM : Hid (k + 1 + g = r.labels.length) := Lib.hid (by omega)
        have hxok := HB.out.2.2.2.2.2 _ (List.getElem_mem hkl)
        generalize r.labels[k] = x at *
        have HTS := Lib.hid hts
        have HC := Lib.hid (LBytes.rbytes_any x.lev x.set wr)
        have hne : encL x ≠ [] := fun e => by
          have hlen : (encL x).length = 9 := by unfold encL LForm.form; rw [if_pos hxok]; simp [LForm.be_length]
          rw [e] at hlen; cases hlen
        have HNE := Lib.hid hne
        obtain ⟨c0, c1, c2, c3, c4, c5, c6, c7, c8⟩ := nine_c HL.out.b
        clear hx hts hkl hkg hxok hne
        go_wp2_with fail
        refine HC.out.mono ?_
        rintro e w2 ⟨v1, rfl, hrd, hg⟩
        obtain ⟨v', w3, happ, hlb⟩ := (HL.out.grew hg).app (encL x) v1 hrd HNE.out (by have := HLEN.out; have := encL_le x; omega)
        have HAPP := Lib.hid happ
        have HO2 : Hid (LB w (.slice (some ad) r.labels.length c0') (.slice A1 r.lines.length c1') (.slice A2 r.accounts.length c2') (.slice A3 r.guilds.length c3') (.slice A4 r.quotas.length c4') r v' (X0 ++ (r.labels.take (k + 1)).flatMap encL) w3) := Lib.hid (by rw [HTS.out, ← List.append_assoc]; exact hlb)
        clear hrd hg happ hlb HC HTS HL HLEN HNE c0 c1 c2 c3 c4 c5 c6 c7 c8 d0 d1
        go_wp2_with (at_builtin; refine wpList_app_want (.tmp 27) (.tmp 33) 41 (by rfl) (by rfl) _ _ rfl rfl v' w3 (by exact HAPP.out) ?_)
        go_roundg g
        case measure => omega
        case rel => exact ⟨k + 1, _, HM.out, rfl, by first | rfl | (simp; done) | rw [HKW.out], HO2⟩

  · have hp : bytesP r = [] := by unfold bytesP; rw [if_neg hm]
    have hm2 : mayBe r = false := by simpa using hm
    rw [hp]
    rw [hm2] at HRI
    clear hp hm hm2
    go_enter Tryz.func30, Tryz.ntmps30
    go_wp2_with fail
    refine (HRI.out _ G0.out).mono ?_
    rintro e w1 ⟨rfl, hg⟩
    have G1 := Lib.hid (G0.out.trans hg)
    clear hg
    go_wp2
    go_returns
    exact ⟨_, w.heap.size, rfl, Nat.le_refl _, own_none _ _, G1.out⟩
end Go.Proofs.YtmegdgeiikhflaaGreat.EN
