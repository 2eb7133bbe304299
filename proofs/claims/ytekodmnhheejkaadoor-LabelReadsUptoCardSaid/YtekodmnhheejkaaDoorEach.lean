/-
  The compartments of a set one by one, rising.
  Conditions: the table of the library's counting of noughts lies as the program's text lays it.
-/
import Derived.Test.YtekodmnhheejkaaDoorPlain
import Derived.Shelf.Spec.TrailingZeros
import Derived.RangeFuncNested
import Derived.RangeFuncBound
import Derived.RangeFuncCalls
import Derived.RangeFuncLeaves
import Derived.Shelf.Abstract
import Derived.Shelf.RegionOpen
import Derived.OwnWalkIn
import Derived.TacticsInMore
import Derived.LoopNIn
import Derived.LoopIn
import Derived.Maps.AppendAt
import Derived.RangeFuncBox
import Derived.Test.YtekodmnhheejkaaDoorComps
namespace Go.Proofs.YtekodmnhheejkaaDoor.Each
open Go Go.RowKit Go.Shelf Go.Proofs.YtekodmnhheejkaaDoor Go.Proofs.YtekodmnhheejkaaDoor.Facts Go.Proofs.YtekodmnhheejkaaDoor.Plain Go.Proofs.YtekodmnhheejkaaDoor.Comps

attribute [local go_sem] Oper.semAt_some

/-- What the program's variables hold. -/
structure Env (w : World) : Prop where
  tab : TabAt 0 Lib.deBruijn64tab w
  syn : ∃ te pe, w.cell? ⟨2, 0, none⟩ = some (.iface te pe)
  rng : ∃ te pe, w.cell? ⟨3, 0, none⟩ = some (.iface te pe)
theorem Env.grow {w w' : World} (h : Env w) (hg : Grew w w') : Env w' := by
  obtain ⟨h1, ⟨t, p, h2⟩, t', p', h3⟩ := h
  exact ⟨fun j hj => cellG hg (h1 j hj), ⟨t, p, cellG hg h2⟩, t', p', cellG hg h3⟩

theorem tz_core (x k idx : Nat) (w : World) (hx0 : ((x : Int) == 0) = false)
    (key : IntKind.u64.wrap (bits BinOp.and IntKind.u64 (x : Int) (IntKind.u64.wrap (-(x : Int))) * 285870213051353865) / 288230376151711744 = (idx : Int))
    (hi : idx < 64) (hk : k < 64) (hcell : w.cell? ⟨0, idx, none⟩ = some (.int .u8 k)) :
    Calls Tryd.prog 43 #[.int .u64 x] w fun e w' => e = .returned (.int .i64 k) ∧ w' = w := by
  go_enter Tryd.func43, Tryd.ntmps43
  go_wp2_with (simp only [key])
  go_ret
  exact ⟨rfl, rfl⟩

theorem tz_any (x : Nat) (hx : x < 18446744073709551616) (hx0 : x ≠ 0) (w : World) (hT : TabAt 0 Lib.deBruijn64tab w) :
    Calls Tryd.prog 43 #[.int .u64 (x : Int)] w fun e w' => e = .returned (.int .i64 (Lib.ctz 64 x)) ∧ w' = w := by
  obtain ⟨hlow, hk⟩ := Lib.lowest_bit 64 x hx0 hx
  obtain ⟨hi, htab⟩ := Lib.deBruijn64_at _ hk
  have hcell := hT _ hi
  rw [htab] at hcell
  exact tz_core x _ _ w (by simp; omega) (tz64_key x _ hx hx0 hlow) hi hk hcell

/-- The closure that an iterator is. -/
theorem each_any (c : BitVec 64) (w : World) : Calls Tryd.prog 31 #[.int .u64 (c.toNat : Int)] w fun e w' => e = .returned (.func (.func 42) #[] #[.pointer (some ⟨w.heap.size, 0, none⟩)]) ∧ w' = w.alloc (Obj.cells #[Value.int IntKind.u64 (c.toNat : Int)] 22) := by
  go_enter Tryd.func31, Tryd.ntmps31
  go_wp2
  go_returns
  exact ⟨rfl, rfl⟩

theorem wrap_pred (r : BitVec 64) (h : r ≠ 0#64) : IntKind.u64.wrap (((r.toNat : Nat) : Int) - 1) = (((r - 1#64).toNat : Nat) : Int) := by
  have h0 : r.toNat ≠ 0 := fun e => h (BitVec.eq_of_toNat_eq (by simpa using e))
  have hl := r.isLt
  rw [IntKind.wrap_u64, BitVec.toNat_sub]
  simp
  omega

set_option maxRecDepth 100000 in
set_option maxHeartbeats 1000000 in
/-- The iterator, for every loop body that keeps what lay below n₀. -/
theorem go_in (n : Nat) (hn : 1 ≤ n) (l Bn n₀ : Nat) (h0n : 0 < n₀) (c : BitVec 64) (J Jx : List (Fin 64) → World → Prop)
    (hY : ∀ pre (x : Fin 64) W, J pre W → pre.length < (comps c).length → YieldAt Fence.wide (n - 1) Tryd.prog l #[.int .i64 ((x.1 : Nat) : Int)] W fun e W' =>
      (e = .returned (.bool true) ∧ J (pre ++ [x]) W' ∧ Below n₀ W W') ∨ (e = .returned (.bool false) ∧ Jx (pre ++ [x]) W'))
    (W : World) (hBn : W.cell? ⟨Bn, 0, none⟩ = some (.int .u64 (c.toNat : Int))) (hT : TabAt 0 Lib.deBruijn64tab W) (h0 : J [] W) :
    CallsIn Fence.wide n Tryd.prog 42 #[.func (.yield l) #[] #[], .pointer (some ⟨Bn, 0, none⟩)] W fun e W' => (∃ v, e = .returned v) ∧
      ((∃ ys, ys = comps c ∧ J ys W') ∨ (∃ pre, pre <+: comps c ∧ Jx pre W')) := by
  refine callsIn_of_wp Tryd.func42 rfl trivial ?_ rfl
  simp only [Tryd.ntmps42, List.size_toArray, List.length_cons, List.length_nil, Nat.reduceAdd, Nat.reduceSub, Array.replicate_succ, Array.replicate_zero, List.push_toArray, List.append_toArray, List.nil_append, List.cons_append]
  gi_wp2
  gi_loopw [3] (fun p wr => ∃ (pre : List (Fin 64)) (r : BitVec 64), p = .int .u64 ((r.toNat : Nat) : Int) ∧ comps c = pre ++ comps r ∧ TabAt 0 Lib.deBruijn64tab wr ∧ J pre wr)
    (fun p _ => (comps (BitVec.ofInt 64 (intOf p))).length)
  case atStart =>
    exact ⟨[], c, rfl, rfl, hT, h0⟩
  case round =>
    obtain ⟨pre, r, rfl, hx, hTr, hJs⟩ := hrel
    by_cases hr : r = 0#64
    · subst hr
      gi_wp2
      go_end0
      exact ⟨⟨_, rfl⟩, .inl ⟨pre, by rw [hx, comps_zero, List.append_nil], hJs⟩⟩
    · have hr0 : r.toNat ≠ 0 := fun e => hr (BitVec.eq_of_toNat_eq (by simpa using e))
      have hrb : (((r.toNat : Nat) : Int) != 0) = true := by simp; exact hr0
      obtain ⟨hk, hstep⟩ := comps_step r hr
      obtain ⟨fn, tmps, assign, body, hy, hR⟩ := hY pre ⟨Lib.ctz 64 r.toNat, hk⟩ wr hJs (by rw [hx, hstep]; simp)
      dsimp only at hy
      have E1 : Hid (((r.toNat : Nat) : Int) - 1 = (((r - 1#64).toNat : Nat) : Int)) := by
        show _ = _
        rw [← wrap_pred r hr, IntKind.wrap_u64]
        have hlt := r.isLt
        omega
      have hlt := r.isLt
      gi_wp2_with (refine ⟨trivial, (callsIn_wide.2 (tz_any _ hlt hr0 wr hTr)).mono ?_⟩; rintro e w' ⟨rfl, rfl⟩)
      refine hR.mono ?_
      rintro e W3 (⟨rfl, hJ3, hk3⟩ | ⟨rfl, hJx3⟩)
      · have hT3 : TabAt 0 Lib.deBruijn64tab W3 := fun j hj => (hk3.cell (p := ⟨0, j, none⟩) h0n).trans (hTr j hj)
        gi_wp2
        go_roundw
        case rel => exact ⟨pre ++ [⟨Lib.ctz 64 r.toNat, hk⟩], less r, by rw [E1.out, bits_and]; rfl, by rw [hx, hstep]; simp, hT3, hJ3⟩
        case measure =>
          simp only [intOf]
          rw [E1.out, bits_and, of_toNat, of_toNat, hstep]
          simp [less]
      · gi_wp2
        refine bodyPost_ret (results_none rfl _ _ _) rfl ?_
        exact ⟨⟨_, rfl⟩, .inr ⟨pre ++ [⟨Lib.ctz 64 r.toNat, hk⟩], ⟨comps (less r), by rw [hx, hstep]; simp⟩, hJx3⟩⟩

theorem each_stops (n : Nat) (hn : 1 ≤ n) (Bn n₀ : Nat) (h0n : 0 < n₀) (c : BitVec 64) (w : World) (hBn : Bn < w.heap.size) (hn₀ : n₀ ≤ w.heap.size)
    (hc : w.cell? ⟨Bn, 0, none⟩ = some (.int .u64 (c.toNat : Int))) (hT : TabAt 0 Lib.deBruijn64tab w) :
    SeqStopsK Fence.wide n Tryd.prog 42 #[.pointer (some ⟨Bn, 0, none⟩)] (fun x : Fin 64 => #[Value.int .i64 ((x.1 : Nat) : Int)]) (Below n₀) (fun ys => ys = comps c) (fun pre => pre <+: comps c) (comps c).length w := fun l J Jx W hW _ _ hY h0 =>
  go_in n hn l Bn n₀ h0n c J Jx hY W ((hW.cell (p := ⟨Bn, 0, none⟩) hBn).trans hc) (fun j hj => (hW.cell (p := ⟨0, j, none⟩) (by show 0 < w.heap.size; omega)).trans (hT j hj)) h0

theorem info3 : (Tryd.prog.info? 3).map (fun i => (i.zero, i.size, i.bytes)) = some (some (.int .i64 0), 1, 8) := by kernel_rfl

set_option maxRecDepth 100000 in
set_option maxHeartbeats 2000000 in
/-- A label's compartments as numbers. -/
theorem bits_in (v : Int) (c : BitVec 64) (w : World) (hs : 0 < w.heap.size) (hT : TabAt 0 Lib.deBruijn64tab w) :
    CallsIn Fence.wide 3 Tryd.prog 10 #[.agg #[.int .i64 v, .int .u64 (c.toNat : Int)]] w fun e W' => ∃ v, e = .returned v ∧ W'.ownsRow w.heap.size 3 1 v (comps c).length ((comps c).map fun x => Value.int .i64 ((x.1 : Nat) : Int)) ∧ Below w.heap.size w W' := by
  obtain ⟨i0, hi, hz0, hz1, hz2⟩ := info_parts info3
  refine callsIn_of_wp_marks Tryd.func10 rfl trivial ?_ rfl
  simp only [Tryd.ntmps10, List.size_toArray, List.length_cons, List.length_nil, Nat.reduceAdd, Nat.reduceSub, Array.replicate_succ, Array.replicate_zero, List.push_toArray, List.append_toArray, List.nil_append, List.cons_append]
  gi_wp2_with (refine ⟨trivial, (callsIn_wide.2 (each_any c _)).mono ?_⟩; rintro e w' ⟨rfl, rfl⟩)
  have hsz : ((w.alloc (Obj.cells #[Value.int IntKind.i64 v, Value.int IntKind.u64 (c.toNat : Int)] 24)).alloc (Obj.cells #[Value.slice none 0 0] 29)).heap.size = w.heap.size + 1 + 1 := by simp
  have hB0 : Below w.heap.size w (((w.alloc (Obj.cells #[Value.int IntKind.i64 v, Value.int IntKind.u64 (c.toNat : Int)] 24)).alloc (Obj.cells #[Value.slice none 0 0] 29)).alloc (Obj.cells #[Value.int IntKind.u64 (c.toNat : Int)] 22)) := by go_grown
  have bO := Boxed.new (w.alloc (Obj.cells #[Value.int IntKind.i64 v, Value.int IntKind.u64 (c.toNat : Int)] 24)) 29 (.slice none 0 0)
  have bN := Boxed.new ((w.alloc (Obj.cells #[Value.int IntKind.i64 v, Value.int IntKind.u64 (c.toNat : Int)] 24)).alloc (Obj.cells #[Value.slice none 0 0] 29)) 22 (.int .u64 (c.toNat : Int))
  rw [World.size_alloc] at bO
  rw [hsz] at bN
  have hTW : TabAt 0 Lib.deBruijn64tab (((w.alloc (Obj.cells #[Value.int IntKind.i64 v, Value.int IntKind.u64 (c.toNat : Int)] 24)).alloc (Obj.cells #[Value.slice none 0 0] 29)).alloc (Obj.cells #[Value.int IntKind.u64 (c.toNat : Int)] 22)) := fun j hj => (hB0.cell (p := ⟨0, j, none⟩) (by show 0 < w.heap.size; omega)).trans (hT j hj)
  refine wpIn_rangeFunc_ownG rfl (by decide) (gf := 42) (lb := #[.pointer (some ⟨w.heap.size + 1 + 1, 0, none⟩)]) rfl trivial (enters_of Tryd.func42 (by kernel_rfl) rfl)
    (each_stops 2 (by decide) (w.heap.size + 1 + 1) w.heap.size hs c _ (by simp) (by simp; omega) bN.cell hTW) belowK_t (belowK_b (by simp; omega)) (Below.refl _ _) (fun _ => rfl)
    (fun (pre : List (Fin 64)) W => (∃ v, Boxed W (w.heap.size + 1) 29 v ∧ W.ownsRow w.heap.size 3 1 v pre.length (pre.map fun x => Value.int .i64 ((x.1 : Nat) : Int)) ∧ True) ∧ Below w.heap.size w W)
    (fun _ _ _ => False)
    (OwnFrom.and (Own.from (holdsRow_own w.heap.size (w.heap.size + 1) 29 3 1 (fun (pre : List (Fin 64)) => pre.length) (fun (pre : List (Fin 64)) => pre.map fun x => Value.int .i64 ((x.1 : Nat) : Int)) (fun _ _ => True)) _) (ownFrom_below (Nat.le_refl _) (by simp; omega)))
    (fun _ _ _ _ _ hs _ _ => hs)
    ⟨⟨_, bO.alloc _, World.ownsRow_nil _ _ _ _, trivial⟩, hB0⟩
    (fun x => { tmps := #[.agg #[.int .i64 v, .int .u64 (c.toNat : Int)], .pointer (some ⟨w.heap.size, 0, none⟩), .slice none 0 0, .pointer (some ⟨w.heap.size + 1, 0, none⟩), .int .i64 ((x.1 : Nat) : Int), .pointer (some ⟨w.heap.size, 1, none⟩), .int .u64 (c.toNat : Int), .func (.func 42) #[] #[.pointer (some ⟨w.heap.size + 1 + 1, 0, none⟩)], .int .i64 ((x.1 : Nat) : Int), undef, undef, undef, undef, undef], defers := [] }) ?assign ?body ?done ?stop
  case assign =>
    intro l x W K hK
    gi_wp2
    exact hK
  case body =>
    rintro l pre x W ⟨⟨v', hv, hrow, _⟩, hB⟩ hlt
    have hc := hv.cell
    have hpl : pre.length < 64 := by
      have h2 : (comps c).length ≤ 64 := by
        have := List.length_filter_le (fun i : Fin 64 => c.getLsbD i) (List.finRange 64)
        simpa [comps] using this
      omega
    gi_wp2_with (gi_at_builtin; refine wpListIn_append_own _ rfl _ _ 29 rfl w.heap.size 3 i0 (.int .i64 0) 1 8 Tryd.underlying29 hi hz0 hz1 hz2 rfl (by decide) _ _ _ rfl (hrow.alloc _) ⟨W.heap.size, 0, none⟩ 1 1 [.int .i64 ((x.1 : Nat) : Int)] rfl rfl (cell_one_new _ _ _) (by simp [Value.oneCell']) (by unfold maxLen; omega) (by omega) (by have := hB.size; simp; omega) ?_; intro v'' w1 hown' hgrow _; obtain ⟨g', cap', rfl⟩ := ownsRow_succ hown'; obtain ⟨hv1, hv2, hr2, hk2, hb2⟩ := hv.appended (by decide) hrow hB.size (by omega) hown' hgrow; have hc1 := hv1.cell; have hf1 := hv1.frozen)
    exact ⟨hk2.from _, hb2, ⟨_, hv2, by simpa using hr2, trivial⟩, hB.trans hb2⟩
  case done =>
    rintro D ys W hD rfl ⟨⟨v', hv, hrow, _⟩, hB⟩ hK
    have hc := hv.cell
    gi_wp2
    refine ⟨by simp, .inl ⟨_, _, rfl, run_takeDeferred hK, ?_⟩⟩
    exact ⟨_, results_tmp rfl _ _ _, v', rfl, ownsRow_putObj hrow _ hK rfl, hB.trans (belowK_b (w := w) (Nat.le_refl _) W D _ _ (by simp at hD; omega) hK rfl rfl)⟩
  case stop =>
    rintro D c pre W _ _ h _
    exact h.elim
end Go.Proofs.YtekodmnhheejkaaDoor.Each
