/-
  The orders that one meets, the best one first.
  Conditions: those that each lemma names.
-/
import Derived.Test.YtmnfajplfnfgpaaOI
import Derived.Lib.Hide
import Derived.RangeFuncNested
import Derived.RangeFuncBound
import Derived.RangeFuncCalls
import Derived.RangeFuncLeaves
import Derived.RangeFuncBox
import Derived.Shelf.Abstract
import Derived.Shelf.RegionOpen
import Derived.OwnWalkIn
import Derived.TacticsInMore
import Derived.LoopNIn
import Derived.LoopIn
namespace Go.Proofs.Ytmnfajplfnfgpaa.OJ
set_option maxRecDepth 100000
open Go Go.RowKit Go.Lib Go.Proofs.Ytmnfajplfnfgpaa Go.Proofs.Ytmnfajplfnfgpaa.Facts Go.Proofs.Ytmnfajplfnfgpaa.Ints Go.Proofs.Ytmnfajplfnfgpaa.PA Go.Proofs.Ytmnfajplfnfgpaa.UM Go.Proofs.Ytmnfajplfnfgpaa.UB Go.Proofs.Ytmnfajplfnfgpaa.OA Go.Proofs.Ytmnfajplfnfgpaa.BP Go.Proofs.Ytmnfajplfnfgpaa.OB Go.Proofs.Ytmnfajplfnfgpaa.OC Go.Proofs.Ytmnfajplfnfgpaa.OD Go.Proofs.Ytmnfajplfnfgpaa.OE Go.Proofs.Ytmnfajplfnfgpaa.OF Go.Proofs.Ytmnfajplfnfgpaa.OG Go.Proofs.Ytmnfajplfnfgpaa.OH Go.Proofs.Ytmnfajplfnfgpaa.OI Go.Proofs.Ytmnfajplfnfgpaa.Bytes


attribute [local go_sem] Oper.semAt_some

/-- What a round of fill keeps: all that lay ahead of it, and all other cells but the rows of fills and four blocks. -/
structure KpF (n₀ oB nB fB gN : Nat) (W W' : World) : Prop where
  below : Below n₀ W W'
  cells : ∀ (k : Nat) (C : Array Value) (t : TypeId) (fr : Nat × Nat), W.heap[k]? = some (.cells C t fr) → t ≠ 47 → k ≠ oB → k ≠ nB → k ≠ fB → k ≠ gN → W'.heap[k]? = some (.cells C t fr)
theorem KpF.trans {n₀ oB nB fB gN : Nat} {A B C : World} (h : KpF n₀ oB nB fB gN A B) (k : KpF n₀ oB nB fB gN B C) : KpF n₀ oB nB fB gN A C :=
  ⟨h.below.trans k.below, fun i D t fr h1 h2 h3 h4 h5 h6 => k.cells i D t fr (h.cells i D t fr h1 h2 h3 h4 h5 h6) h2 h3 h4 h5 h6⟩
theorem KpF.refl (n₀ oB nB fB gN : Nat) (A : World) : KpF n₀ oB nB fB gN A A := ⟨Below.refl _ _, fun _ _ _ _ h _ _ _ _ _ => h⟩
theorem meas (n k : Nat) (p : Int) (hp : p = ((k + 1 : Nat) : Int)) (h : k < n) : n - (intOf (.int .i64 p)).toNat < n - (intOf (.int .i64 (k : Int))).toNat := by
  subst hp
  simp [intOf]
  omega
theorem filter_map_nat (L : List Nat) (p : Int → Bool) : (L.map Int.ofNat).filter p = (L.filter fun i : Nat => p (i : Int)).map Int.ofNat := by
  rw [List.filter_map]
  rfl
theorem met_usl (l : List Or) (o : Or) : ((usl l).filter fun x => !(!meetsP o (eo l x.toNat))) = (metL l o).map Int.ofNat := by
  rw [usl_nat, filter_map_nat, List.filter_filter]
  unfold metL
  congr 1
  refine List.filter_congr fun i _ => ?_
  simp [Bool.and_comm]
theorem usl_at (l : List Or) (x : Int) (h : x ∈ usl l) : ∃ j : Nat, x = j ∧ j < l.length := by
  rw [usl_nat, List.mem_map] at h
  obtain ⟨j, hj, rfl⟩ := h
  rw [List.mem_filter] at hj
  exact ⟨j, rfl, List.mem_range.1 hj.1⟩
theorem grown_of_below {W W' : World} (h : Below W.heap.size W W') : W.grownBy W' none := ⟨h.os, h.tape, h.output, h.size, fun k hk _ => h.block k hk⟩
/-- The slots that are met. -/
abbrev Met (l : List Or) (o : Or) := {i : Nat // i ∈ metL l o}
set_option maxHeartbeats 4000000 in
theorem go_in (n : Nat) (hn : 1 ≤ n) (lp : Nat) (l : List Or) (o : Or) (hlen : l.length ≤ 1000) (hright : rightO l = true) (hsd : o.side = 1 ∨ o.side = 2) (vl : Value) (L O n₀ oB nB fB gN : Nat) (hL1 : L ≠ oB) (hL2 : L ≠ nB) (hL3 : L ≠ fB) (hL4 : L ≠ gN)
    (w00 W : World) (h00 : Below n₀ w00 W) (hn0 : w00.heap.size ≤ n₀) (hl0 : Ors w00 vl l) (hb1 : oB < W.heap.size) (hb2 : nB < W.heap.size) (hb3 : fB < W.heap.size) (hb4 : gN < W.heap.size) (hn0W : n₀ ≤ W.heap.size)
    (hLb : W.heap[L]? = some (.cells #[vl] 22 (0, 0))) (hOb : Bx W O o) (J Jx : List (Met l o) → World → Prop) (hJ : AbidesFrom W.heap.size J)
    (hY : ∀ pre (x : Met l o) W1, J pre W1 → pre.length < l.length → YieldAt Fence.wide (n - 1) Try.prog lp #[.int .i64 ((x.1 : Nat) : Int), orv (eo l x.1)] W1 fun e W' =>
      (e = .returned (.bool true) ∧ J (pre ++ [x]) W' ∧ KpF n₀ oB nB fB gN W1 W') ∨ (e = .returned (.bool false) ∧ Jx (pre ++ [x]) W'))
    (h0 : J [] W) :
    CallsIn Fence.wide n Try.prog 63 #[.func (.yield lp) #[] #[], .pointer (some ⟨L, 0, none⟩), .pointer (some ⟨O, 0, none⟩)] W fun e W' => (∃ v, e = .returned v) ∧
      ((∃ ys, Srt l o (ys.map (·.1)) ∧ J ys W') ∨ (∃ pre, (∃ S, Srt l o (S.map (·.1)) ∧ pre <+: S) ∧ Jx pre W')) := by
  have hlW : Ors W vl l := hl0.grew (Below.mono h00 hn0)
  have HSL := Lib.hid (slots_any vl l W hlW hlen)
  have HDEL : Hid (∀ (w1 : World) (vS : Value) (b : Nat), Grew W w1 → W.heap.size ≤ b → b ≤ w1.heap.size → w1.ownsRow b 3 1 vS (usl l).length (iv (usl l)) →
      Calls Try.prog 64 #[vS, .func (.func 65) #[] #[.pointer (some ⟨O, 0, none⟩), .pointer (some ⟨L, 0, none⟩)]] w1 fun e w' => ∃ v', e = .returned v' ∧ IsO b w' v' ((metL l o).map Int.ofNat) ∧ Below b w1 w') := Lib.hid fun w1 vS b hg hb1 hb2 hown => by
    rw [← met_usl]
    refine delO_any vS (usl l) (fun x => !meetsP o (eo l x.toNat)) O L b w1 hown hb2 (Nat.le_trans (usl_len l) hlen) fun x hx W4 hW4 => ?_
    obtain ⟨j, rfl, hj⟩ := usl_at l x hx
    have hg4 : Grew W W4 := Below.trans hg (Below.mono hW4 hb1)
    rw [Int.toNat_natCast]
    exact keep_any l o vl L O j W4 (hlW.grew hg4) (keepB hLb hg4) (hOb.grew hg4) hj
  have HSORT : Hid (∀ (w2 : World) (v : Value) (b : Nat), Grew W w2 → W.heap.size ≤ b → b ≤ w2.heap.size → IsO b w2 v ((metL l o).map Int.ofNat) →
      Calls Try.prog 67 #[v, .func (.func 68) #[] #[.pointer (some ⟨L, 0, none⟩)]] w2 fun e w' => e = .returned (.tuple #[]) ∧ ∃ S' : List Nat, S'.Perm (metL l o) ∧ (S'.Pairwise fun i j => betB o (eo l i) (eo l j) = true) ∧ IsO b w' v (S'.map Int.ofNat) ∧ Below b w2 w') := Lib.hid fun w2 v b hB hb1 hb2 hv => by
    have hml : (metL l o).length ≤ 1000 := by
      unfold metL
      have := List.length_filter_le (fun i => (eo l i).used && meetsP o (eo l i)) (List.range l.length)
      rw [List.length_range] at this
      omega
    exact sort_any l o (metL l o) hright hsd (fun i hi => (met_mem l o i).1 hi) (List.Nodup.sublist List.filter_sublist List.nodup_range) vl L b v W w2 hB hb1 hb2 hlW hLb hv hml
  have HLW := Lib.hid hLb
  have HL0 := Lib.hid hl0
  have H00 := Lib.hid h00
  obtain ⟨A, c, rfl, _⟩ := hl0.slice
  have c0 := PA.one_cell hLb
  have HN := Lib.hid hn
  have HY := Lib.hid hY
  have HJ := Lib.hid hJ
  have H0 := Lib.hid h0
  have HNE : Hid (L ≠ oB ∧ L ≠ nB ∧ L ≠ fB ∧ L ≠ gN) := Lib.hid ⟨hL1, hL2, hL3, hL4⟩
  have HBS : Hid (w00.heap.size ≤ n₀ ∧ oB < W.heap.size ∧ nB < W.heap.size ∧ fB < W.heap.size ∧ gN < W.heap.size ∧ n₀ ≤ W.heap.size) := Lib.hid ⟨hn0, hb1, hb2, hb3, hb4, hn0W⟩
  have HLN : Hid (l.length ≤ 1000) := Lib.hid hlen
  clear hY hJ h0 hL1 hL2 hL3 hL4 hn0 hb1 hb2 hb3 hb4 hn0W hlen hright hsd hn
  refine callsIn_of_wp Try.func63 rfl trivial ?_ rfl
  simp only [Try.ntmps63, List.size_toArray, List.length_cons, List.length_nil, Nat.reduceAdd, Nat.reduceSub, Array.replicate_succ, Array.replicate_zero, List.push_toArray, List.append_toArray, List.nil_append, List.cons_append]
  clear hlW hLb hOb hl0 h00
  gi_wp2_with fail
  refine ⟨trivial, fun _ => HN.out, (callsIn_wide.2 HSL.out).mono ?_⟩
  rintro e w1 ⟨vS, b, rfl, hb1', hb2', hown, hg⟩
  have HD := Lib.hid (HDEL.out w1 vS b hg hb1' hb2' hown)
  have G1 := Lib.hid hg
  have HB1 := Lib.hid hb1'
  have HB2 := Lib.hid hb2'
  obtain ⟨AS, cS, rfl, _⟩ := Is.slice (Is.of_own hown rfl)
  clear hg hb1' hb2' hown HSL HDEL c0
  gi_wp2_with fail
  refine ⟨trivial, fun _ => HN.out, (callsIn_wide.2 HD.out).mono ?_⟩
  rintro e w2 ⟨v', rfl, hi, hb⟩
  have hs := HSORT.out w2 v' b (Below.trans G1.out (Below.mono hb HB1.out)) HB1.out (Nat.le_trans HB2.out hb.size) hi
  have G2 : Hid (Grew W w2) := Lib.hid (Below.trans G1.out (Below.mono hb HB1.out))
  have hsl := Is.slice hi.is
  rw [List.length_map] at hsl
  obtain ⟨A2, c2, rfl, _⟩ := hsl
  obtain ⟨m2, hm2⟩ : ∃ m2, (metL l o).length = m2 := ⟨_, rfl⟩
  rw [hm2] at hs ⊢
  have HM2 := Lib.hid hm2
  have HS := Lib.hid hs
  clear hi hb HD HSORT hs hm2
  gi_wp2_with fail
  refine ⟨trivial, fun _ => HN.out, (callsIn_wide.2 HS.out).mono ?_⟩
  rintro e w3 ⟨rfl, S', hpm, hsb, hi, hb⟩
  have G3 : Hid (Grew W w3) := Lib.hid (Below.trans G2.out (Below.mono hb HB1.out))
  have HSRT : Hid (Srt l o S') := Lib.hid ⟨hpm, hsb⟩
  obtain ⟨SA, hSA⟩ : ∃ SA : List (Met l o), SA.map (·.1) = S' := ⟨S'.pmap Subtype.mk (fun i hi => hpm.mem_iff.1 hi), by rw [List.map_pmap]; simp⟩
  have HSA := Lib.hid hSA
  have HXA : Hid (∀ k x, S'[k]? = some x → ∃ xa, xa.1 = x ∧ SA.take (k + 1) = SA.take k ++ [xa]) := Lib.hid fun k x hx => by
    rw [← hSA, List.getElem?_map, Option.map_eq_some_iff] at hx
    obtain ⟨xa, h1, h2⟩ := hx
    exact ⟨xa, h2, by rw [List.take_add_one, h1]; rfl⟩
  have HSL2 : Hid (SA.length = S'.length) := Lib.hid (by rw [← hSA, List.length_map])
  have HSX : Hid (Srt l o (SA.map (·.1))) := Lib.hid (by rw [hSA]; exact HSRT.out)
  clear hSA
  have hml : (metL l o).length = S'.length := hpm.length_eq.symm
  have hm3 : m2 = S'.length := HM2.out.symm.trans hml
  subst hm3
  obtain ⟨A3, c3, e3, hcc, _, hA3, hrow⟩ := hi
  rw [List.length_map] at e3 hcc
  injection e3 with e4 _ e5
  subst e4 e5
  have HCC := Lib.hid hcc
  have HROW := Lib.hid hrow
  have HA3 := Lib.hid hA3
  have HJ0 : Hid (J [] w3) := Lib.hid (HJ.out [] W w3 none H0.out (grown_of_below G3.out) (fun r e => by cases e))
  have HLB : Hid (S'.length ≤ 1000) := Lib.hid (by rw [← hml]; exact (by
    unfold metL
    have := List.length_filter_le (fun i => (eo l i).used && meetsP o (eo l i)) (List.range l.length)
    rw [List.length_range] at this
    have := HLN.out
    omega))
  clear hpm hsb hb HS hml hrow hA3 H0 HJ hcc
  have HJI := Lib.hid (fun i (h : i ∈ S') => (HSRT.out.mem i).1 h)
  have HML : Hid (S'.length ≤ l.length) := Lib.hid (by
    rw [← HM2.out]
    unfold metL
    have := List.length_filter_le (fun i => (eo l i).used && meetsP o (eo l i)) (List.range l.length)
    rwa [List.length_range] at this)
  have HLC : Hid (∀ wr, KpF n₀ oB nB fB gN w3 wr → wr.cell? ⟨L, 0, none⟩ = some (.slice A l.length c)) := Lib.hid fun wr hk => by
    obtain ⟨e1, e2, e3, e4⟩ := HNE.out
    exact PA.one_cell (hk.cells L _ 22 _ (keepB HLW.out G3.out) (by decide) e1 e2 e3 e4)
  have HLR : Hid (∀ wr, KpF n₀ oB nB fB gN w3 wr → Ors wr (.slice A l.length c) l) := Lib.hid fun wr hk => by
    obtain ⟨e1, _, _, _, _, e6⟩ := HBS.out
    exact HL0.out.grew (Below.mono ((H00.out.trans (Below.mono G3.out e6)).trans hk.below) e1)
  have HMR : Hid (∀ wr, KpF n₀ oB nB fB gN w3 wr → ∀ k x, S'[k]? = some x → ∃ ad, A2 = some ad ∧ wr.cell? (ad.add k) = some (.int .i64 ((x : Nat) : Int))) := Lib.hid fun wr hk k x hx => by
    cases hA : A2 with
    | none =>
      have h1 := HA3.out hA
      have h2 := (List.getElem?_eq_some_iff.1 hx).1
      have h3 := HCC.out
      omega
    | some ad =>
      obtain ⟨g, rfl, hbg, hgs, ⟨C, hC⟩, hcell⟩ := HROW.out ad hA
      obtain ⟨_, e2, e3, e4, e5, _⟩ := HBS.out
      have hb1 := HB1.out
      have h1 := hk.cells g C 3 (0, 0) hC (by decide) (by omega) (by omega) (by omega) (by omega)
      have h2 := (hcell k (x : Int) (by rw [List.getElem?_map, hx]; rfl)).1
      refine ⟨_, rfl, ?_⟩
      rw [Addr.add_lit, Nat.zero_add, World.cell?_of_block (w := w3) (h1.trans hC.symm)]
      exact h2
  gi_wp2
  gi_loopw [16] (fun p wr => ∃ k : Nat, p = .int .i64 k ∧ k ≤ S'.length ∧ Hid (J (SA.take k) wr) ∧ Hid (KpF n₀ oB nB fB gN w3 wr)) (fun p _ => S'.length - (intOf p).toNat)
  case atStart => exact ⟨0, rfl, Nat.zero_le _, HJ0, Lib.hid (KpF.refl _ _ _ _ _ _)⟩
  case round =>
    obtain ⟨k, rfl, hk, HJk, HK⟩ := hrel
    by_cases hlt : k < S'.length
    · have hkz : (k : Int) < (S'.length : Int) := by omega
      obtain ⟨x, hx⟩ : ∃ x, S'[k]? = some x := ⟨_, List.getElem?_eq_getElem hlt⟩
      obtain ⟨hxl, _, _⟩ := HJI.out x (List.mem_of_getElem? hx)
      obtain ⟨ad3, hA, a0⟩ := HMR.out wr HK.out k x hx
      subst hA
      have cL := HLC.out wr HK.out
      obtain ⟨ad, cc, e, hcc, d0, d1, d2, d3, d4, d5, d6, d7, d8, d9⟩ := Ors_at (HLR.out wr HK.out) (eo_get hxl)
      injection e with e1 e2 e3
      subst e1 e3
      obtain ⟨xa, hxa, htk⟩ := HXA.out k x hx
      obtain ⟨fn, tmps, assign, body, hy, hR⟩ := HY.out (SA.take k) xa wr HJk.out (by rw [List.length_take]; have := HML.out; have := HSL2.out; omega)
      rw [hxa] at hy
      have HTK := Lib.hid htk
      have HXW := Lib.hid (wr1b hlt (by have := HLB.out; omega))
      have HPF : Hid ((SA.take k ++ [xa]) <+: SA) := Lib.hid (by rw [← HTK.out]; exact List.take_prefix _ _)
      have hxz : (x : Int) < (l.length : Int) := by omega
      have hx0 : ¬ (x : Int) < 0 := by omega
      have HR := Lib.hid hR
      have HLT := Lib.hid hlt
      clear hx hR hlt hk hxa htk
      generalize eo l x = y at *
      obtain ⟨us, lb, wh, sd, bs, qt, pr, lf, rs, sq⟩ := y
      unfold orv at hy
      simp only at hy d0 d1 d2 d3 d4 d5 d6 d7 d8 d9
      gi_wp2
      refine ⟨fun _ => HN.out, HR.out.mono ?_⟩
      rintro e W3 (⟨rfl, hJ3, hk3⟩ | ⟨rfl, hJx3⟩)
      · have HJ3 : Hid (J (SA.take (k + 1)) W3) := Lib.hid (by rw [HTK.out]; exact hJ3)
        have HK3 := Lib.hid (HK.out.trans hk3)
        clear hJ3 hk3 a0 cL d0 d1 d2 d3 d4 d5 d6 d7 d8 d9 hy
        gi_wp2
        go_roundw
        case rel => exact ⟨k + 1, by first | rfl | (simp; done) | rw [HXW.out], HLT.out, HJ3, HK3⟩
        case measure =>
          exact meas _ _ _ HXW.out HLT.out
      · have HJx3 := Lib.hid hJx3
        clear hJx3 a0 cL d0 d1 d2 d3 d4 d5 d6 d7 d8 d9 hy
        gi_wp2
        refine bodyPost_ret (results_none rfl _ _ _) rfl ?_
        exact ⟨⟨_, rfl⟩, .inr ⟨_, ⟨SA, HSX.out, HPF.out⟩, HJx3.out⟩⟩
    · have hke : k = S'.length := by omega
      subst hke
      have hkz : ¬ ((S'.length : Nat) : Int) < (S'.length : Int) := by omega
      have HJE : Hid (J SA wr) := Lib.hid (by have := HJk.out; rwa [← HSL2.out, List.take_length] at this)
      clear hlt hk HJk
      gi_wp2
      go_end0
      exact ⟨⟨_, rfl⟩, .inl ⟨SA, HSX.out, HJE.out⟩⟩
theorem best_any (vl : Value) (o : Or) (w : World) (hv : ∃ A n c, vl = .slice A n c) : Calls Try.prog 60 #[vl, orv o] w fun e w' => e = .returned (.func (.func 63) #[] #[.pointer (some ⟨w.heap.size, 0, none⟩), .pointer (some ⟨w.heap.size + 1, 0, none⟩)]) ∧ w' = (w.alloc (.cells #[vl] 22)).alloc (.cells (ocs o).toArray 26) := by
  obtain ⟨A, n, c, rfl⟩ := hv
  obtain ⟨us, lb, wh, sd, bs, qt, pr, lf, rs, sq⟩ := o
  unfold orv ocs
  simp only
  go_enter Try.func60, Try.ntmps60
  go_wp2
  go_returns
  exact ⟨rfl, rfl⟩
theorem best_stops (n : Nat) (hn : 1 ≤ n) (l : List Or) (o : Or) (hlen : l.length ≤ 1000) (hright : rightO l = true) (hsd : o.side = 1 ∨ o.side = 2) (vl : Value) (L O n₀ oB nB fB gN : Nat) (hL1 : L ≠ oB) (hL2 : L ≠ nB) (hL3 : L ≠ fB) (hL4 : L ≠ gN)
    (w00 w : World) (h00 : Below n₀ w00 w) (hn0 : w00.heap.size ≤ n₀) (hl0 : Ors w00 vl l) (hb1 : oB < w.heap.size) (hb2 : nB < w.heap.size) (hb3 : fB < w.heap.size) (hb4 : gN < w.heap.size) (hn0W : n₀ ≤ w.heap.size)
    (hLb : w.heap[L]? = some (.cells #[vl] 22 (0, 0))) (hOb : Bx w O o) :
    SeqStopsK Fence.wide n Try.prog 63 #[.pointer (some ⟨L, 0, none⟩), .pointer (some ⟨O, 0, none⟩)] (fun x : Met l o => #[Value.int .i64 (x.1 : Int), orv (eo l x.1)]) (KpF n₀ oB nB fB gN) (fun ys => Srt l o (ys.map (·.1))) (fun pre => ∃ S, Srt l o (S.map (·.1)) ∧ pre <+: S) l.length w := fun lp J Jx W hW hJ _ hY h0 =>
  go_in n hn lp l o hlen hright hsd vl L O n₀ oB nB fB gN hL1 hL2 hL3 hL4 w00 W (h00.trans (hW.mono hn0W)) hn0 hl0 (Nat.lt_of_lt_of_le hb1 hW.size) (Nat.lt_of_lt_of_le hb2 hW.size) (Nat.lt_of_lt_of_le hb3 hW.size) (Nat.lt_of_lt_of_le hb4 hW.size) (Nat.le_trans hn0W hW.size) (keepB hLb hW) (hOb.grew hW) J Jx hJ hY h0
end Go.Proofs.Ytmnfajplfnfgpaa.OJ
