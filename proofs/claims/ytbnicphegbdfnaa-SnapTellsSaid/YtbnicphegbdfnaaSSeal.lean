/-
  What is sealed, the program's own and the document's, for every stamp and load.
  Conditions: those that each lemma names.
-/
import Derived.Test.YtbnicphegbdfnaaSPure
import Derived.Test.YtbnicphegbdfnaaRscan
import Derived.Test.YtbnicphegbdfnaaSum
import Derived.BigFrame
namespace Go.Proofs.Ytbnicphegbdfnaa.SSeal
set_option maxRecDepth 100000
set_option maxRecDepth 100000
set_option maxRecDepth 100000
open Go Go.RowKit Go.Proofs.Ytbnicphegbdfnaa Go.Proofs.Ytbnicphegbdfnaa.Facts Go.Proofs.Ytbnicphegbdfnaa.Bytes Go.Proofs.Ytbnicphegbdfnaa.Puts Go.Proofs.Ytbnicphegbdfnaa.SumPure Go.Proofs.Ytbnicphegbdfnaa.Sum Go.Proofs.Ytbnicphegbdfnaa.SPure Go.Proofs.Ytbnicphegbdfnaa.Zeros

theorem run_app2 (W : World) (base : Nat) (v : Value) (A : Option Addr) (c : Nat) (l0 l : List UInt8) (S : Nat → Prop) (hown : W.ownsRow base 5 1 v l0.length (bv l0)) (hr : Rd S W (.slice A l.length c) l) (hl : l0.length + l.length ≤ 140737488355328) (hb : base ≤ W.heap.size) :
    ∃ v' w', (Builtin.append_ #[23, 23] 23 #[v, .slice A l.length c]).run Try.prog W = .ok v' w' ∧ w'.ownsRow base 5 1 v' (l0 ++ l).length (bv (l0 ++ l)) ∧ Below base W w' := by
  obtain ⟨i0, hi, hx⟩ := Option.map_eq_some_iff.1 info5
  simp only [Prod.mk.injEq] at hx
  obtain ⟨hz0, hz1, hz2⟩ := hx
  obtain ⟨A', c', e, h1, h2, h3, h4⟩ := hr
  injection e with e1 _ e3
  subst e1 e3
  cases A with
  | none =>
    have h0 := h3 rfl
    have : l = [] := List.eq_nil_of_length_eq_zero (by omega)
    subst this
    subst h0
    rw [List.append_nil]
    exact ⟨v, W, run_append_owned_none W base 23 23 5 i0 1 Try.underlying23 hi v _ _ hown, hown, Below.refl _ _⟩
  | some ad =>
    obtain ⟨v', w', hr, h5, h6, _⟩ := run_append_own (P := Try.prog) W base 23 23 5 i0 (.int .u8 0) 1 1 Try.underlying23 hi hz0 hz1 hz2 rfl Nat.one_pos v l0.length (bv l0) hown ad l.length c (bv l) (by rw [bv_length]; omega) (h4 ad rfl).2 (bv_one l) (by unfold maxLen; omega) (by omega) hb
    refine ⟨v', w', hr, by rw [List.length_append, bv_append]; exact h5, below_of_grown W h6 hb fun k hk => ?_⟩
    rcases hown.2 with ⟨rfl, _⟩ | ⟨g, cap, cur, rfl, hg, _⟩
    · simp [Value.ownBlock] at hk
    · simp [Value.ownBlock] at hk
      omega
theorem run_appz (W : World) (base : Nat) (v : Value) (l : List UInt8) (hown : W.ownsRow base 5 1 v l.length (bv l)) (hv : v ≠ .slice none 0 0) (k : Nat) (hl : l.length + k ≤ 140737488355328) (hb : base ≤ W.heap.size) :
    ∃ v' w', (Builtin.append_ #[23, 3] 23 #[v, .int .i64 k]).run Try.prog W = .ok v' w' ∧ w'.ownsRow base 5 1 v' (l ++ zeros k).length (bv (l ++ zeros k)) ∧ Below base W w' := by
  obtain ⟨i0, hi, hx⟩ := Option.map_eq_some_iff.1 info5
  simp only [Prod.mk.injEq] at hx
  obtain ⟨hz0, hz1, hz2⟩ := hx
  exact run_append_zeros W base 23 3 23 5 i0 .i64 Try.underlying23 Try.underlying3 hi hz0 hz1 hz2 v l hown hv k hl hb .i64

theorem wpList_app' {P : Program} {w : World} {ops : Array Oper} {rest : List Oper} {o : Oper} {ac : Act} {Q : Exit → Act → World → Prop} (hgd : o.guard = none) (s x : Operand) (t tn : TypeId)
    (ho : o.op = .call { callee := .builtin .append, args := #[s, x], argTypes := #[t, tn] }) (vs vx : Value) (hs : ac.eval s = vs) (hx : ac.eval x = vx) (v' : Value) (w' : World)
    (hr : (Builtin.append_ #[t, tn] o.type #[vs, vx]).run P w = .ok v' w') (hK : wpList P ops Q rest (ac.put o.dst v') w') : wpList P ops Q (o :: rest) ac w := by
  refine wpList_plain hgd fun _ hK' => ?_
  unfold Oper.wp execOp
  simp only [ho, resolve, invoke, builtin, Sem.run_bind, Sem.run_pure, Result.andThen_ok, List.map_toArray, List.map_cons, List.map_nil, hs, hx, hr]
  exact hK' _ _ hK

theorem own_len {W : World} {base : Nat} {v : Value} {l : List UInt8} (h : W.ownsRow base 5 1 v l.length (bv l)) (hp : 0 < l.length) : v ≠ .slice none 0 0 ∧ ∃ A c, v = .slice A l.length c := by
  rcases h.2 with ⟨rfl, h0⟩ | ⟨g, cap, cur, rfl, _⟩
  · omega
  · exact ⟨by simp, _, _, rfl⟩

theorem width8 : width 8 = 8 := by decide
theorem width4 : width 4 = 4 := by decide

theorem num8 (S : Nat → Prop) (v : Value) (l : List UInt8) (n : Nat) (w : World) (h : Rd S w v l) (hl : l.length + 8 ≤ 140737488355328) :
    Calls Try.prog 54 #[v, .int .u64 n, .int .i64 8] w fun e w' => ∃ v', e = .returned v' ∧ w'.ownsRow w.heap.size 5 1 v' (l ++ be 8 n).length (bv (l ++ be 8 n)) ∧ Grew w w' := by
  have := num_any S v l n 8 w h hl
  rw [width8] at this
  rw [List.length_append, be_length]
  exact this
theorem num4 (S : Nat → Prop) (v : Value) (l : List UInt8) (n : Nat) (w : World) (h : Rd S w v l) (hl : l.length + 8 ≤ 140737488355328) :
    Calls Try.prog 54 #[v, .int .u64 n, .int .i64 4] w fun e w' => ∃ v', e = .returned v' ∧ w'.ownsRow w.heap.size 5 1 v' (l ++ be 4 n).length (bv (l ++ be 4 n)) ∧ Grew w w' := by
  have := num_any S v l n 4 w h hl
  rw [width4] at this
  rw [List.length_append, be_length]
  exact this
theorem rnum8 (S : Nat → Prop) (v : Value) (l : List UInt8) (n : Nat) (w : World) (h : Rd S w v l) (hl : l.length + 8 ≤ 140737488355328) (hn : n < 18446744073709551616) :
    Calls Try.prog 112 #[v, .int .u64 n, .int .i64 8] w fun e w' => ∃ v', e = .returned v' ∧ w'.ownsRow w.heap.size 5 1 v' (l ++ be 8 n).length (bv (l ++ be 8 n)) ∧ Grew w w' := by
  have := Refs.num_any S v l n 8 w h hl hn
  rw [width8] at this
  rw [List.length_append, be_length]
  exact this
theorem rnum4 (S : Nat → Prop) (v : Value) (l : List UInt8) (n : Nat) (w : World) (h : Rd S w v l) (hl : l.length + 8 ≤ 140737488355328) (hn : n < 18446744073709551616) :
    Calls Try.prog 112 #[v, .int .u64 n, .int .i64 4] w fun e w' => ∃ v', e = .returned v' ∧ w'.ownsRow w.heap.size 5 1 v' (l ++ be 4 n).length (bv (l ++ be 4 n)) ∧ Grew w w' := by
  have := Refs.num_any S v l n 4 w h hl hn
  rw [width4] at this
  rw [List.length_append, be_length]
  exact this

theorem right_any (s : Nat) (w : World) : Calls Try.prog 101 #[.int .u64 s] w fun e w' => e = .returned (.bool (may s)) ∧ w = w' := by
  by_cases h1 : 1 ≤ s
  · have hm : may s = decide ((s : Int) ≤ 4611686018427387904) := by
      simp only [may, h1, decide_true, Bool.true_and]
      exact decide_eq_decide.2 (by omega)
    rw [hm]
    go_enter Try.func101, Try.ntmps101
    go_wp2
    go_ret
    exact ⟨rfl, rfl⟩
  · have hm : may s = false := by simp [may, h1]
    rw [hm]
    go_enter Try.func101, Try.ntmps101
    go_wp2
    go_ret
    exact ⟨rfl, rfl⟩
theorem right_eq (s : Nat) (q : Bool) (h : Hid (may s = q)) (w : World) : Calls Try.prog 101 #[.int .u64 s] w fun e w' => e = .returned (.bool q) ∧ w = w' := by
  have := right_any s w
  rwa [h.out] at this

theorem u64_of_sum (x : BitVec 32) : IntKind.u64.wrap (x.toNat : Int) = (x.toNat : Int) := by
  have := x.isLt
  exact IntWalk.u64_in _ (by omega)

set_option maxHeartbeats 2000000 in
theorem seal_main (S : Nat → Prop) (A : Option Addr) (c : Nat) (load : List UInt8) (s : Nat) (w : World) (h : Rd S w (.slice A load.length c) load) (hs : may s = true) (hl : load.length ≤ 108) :
    Calls Try.prog 53 #[.int .u64 s, .slice A load.length c] w fun e w' => ∃ v', e = .returned (.tuple #[v', .int .i64 0]) ∧ Rd (fun b => w.heap.size ≤ b) w' v' (sealed s load) ∧ Grew w w' := by
  have HR := Lib.hid h
  have HS := Lib.hid hs
  have hgt : ¬ ((108 : Int) < (load.length : Int)) := by omega
  obtain ⟨B, hB⟩ : ∃ B, B = body s load := ⟨_, rfl⟩
  obtain ⟨X, hX⟩ : ∃ X, X = sumOf B := ⟨_, rfl⟩
  have hfin : sealed s load = (B ++ be 4 X.toNat) ++ be 8 s := by rw [hX, hB]; rfl
  rw [hfin]
  have HXX := Lib.hid hX
  have HLB := Lib.hid (show B.length = 116 by rw [hB]; exact body_length s load hl)
  have E3 := Lib.hid (show (be 8 s ++ load) ++ zeros (108 - load.length) = B by rw [hB]; unfold body; rw [List.append_assoc])
  clear h hs hX hfin hB
  go_enter Try.func53, Try.ntmps53
  go_wp2_with (go_at_call 101; refine (right_eq s true HS _).mono ?_; rintro e w' ⟨rfl, rfl⟩)
  go_wp2_with fail
  refine (num8 (fun _ => True) _ [] s _ (Rd.nil _ _) (by simp)).mono ?_
  rintro e w1 ⟨v1, rfl, o1, g1⟩
  rw [List.nil_append] at o1
  obtain ⟨v2, w2, r2, o2, b2⟩ := run_app2 w1 w.heap.size v1 A c (be 8 s) load S o1 (HR.out.grew g1) (by rw [be_length]; omega) g1.size
  have e3 := E3.out
  have hl2 : (be 8 s ++ load).length = 8 + load.length := by rw [List.length_append, be_length]
  generalize be 8 s ++ load = L2 at *
  obtain ⟨hv2, A2, c2, rfl⟩ := own_len o2 (by omega)
  obtain ⟨v3, w3, r3, o3, b3⟩ := run_appz w2 w.heap.size _ _ o2 hv2 (108 - load.length) (by omega) (Nat.le_trans g1.size b2.size)
  rw [hl2, show ((108 - load.length : Nat) : Int) = 116 - (8 + (load.length : Int)) by omega] at r3
  have H2 := Lib.hid r2
  have H3 := Lib.hid r3
  have g3 : Grew w w3 := ((show Below w.heap.size w w1 from g1).trans b2).trans b3
  have HG := Lib.hid g3
  rw [e3] at o3
  have HO := Lib.hid o3
  obtain ⟨_, A3, c3, rfl⟩ := own_len o3 (by have := HLB.out; omega)
  have H4 : Hid (∀ W, Grew w3 W → Calls Try.prog 102 #[.slice A3 B.length c3] W fun e w' => e = .returned (.int .u32 (X.toNat : Int)) ∧ Grew W w') := Lib.hid fun W hg => by
    have := of_any _ _ _ W ((Rd.of_own HO.out rfl).grew hg)
    rw [HXX.out]
    exact this
  have HX := Lib.hid (u64_of_sum X)
  clear o2 o3 hv2 b2 b3 r2 r3 g3 HXX e3 E3 o1 g1
  go_wp2_with (at_builtin; first
    | refine wpList_app' rfl (.tmp 14) (.tmp 15) 23 23 rfl _ _ rfl rfl _ w2 (by exact H2.out) ?_
    | refine wpList_app' rfl (.tmp 17) (.tmp 20) 23 3 rfl _ _ rfl rfl _ w3 (by exact H3.out) ?_)
  refine (H4.out _ (Grew.refl _)).mono ?_
  rintro e w4 ⟨rfl, g4⟩
  have hX := HX.out
  go_wp2_with fail
  refine (num4 _ _ B _ w4 ((Rd.of_own HO.out rfl).grew g4) (by have := HLB.out; omega)).mono ?_
  rintro e w5 ⟨v5, rfl, o5, g5⟩
  go_wp2_with fail
  refine (num8 _ _ _ _ w5 (Rd.of_own o5 rfl) (by have := HLB.out; simp [be_length]; omega)).mono ?_
  rintro e w6 ⟨v6, rfl, o6, g6⟩
  go_wp2
  go_returns
  refine ⟨v6, rfl, (Rd.of_own o6 rfl).mono fun b hb => ?_, ((HG.out.trans g4).trans g5).trans g6⟩
  exact Nat.le_trans (((HG.out.trans g4).trans g5).size) hb.1

theorem seal_any (S : Nat → Prop) (v : Value) (load : List UInt8) (s : Nat) (w : World) (h : Rd S w v load) :
    Calls Try.prog 53 #[.int .u64 s, v] w fun e w' => ∃ v', e = .returned (.tuple #[v', .int .i64 (sealing s load).2]) ∧ Rd (fun b => w.heap.size ≤ b) w' v' (sealing s load).1 ∧ Grew w w' := by
  obtain ⟨A, c, rfl, hlc, hcm, _⟩ := id h
  unfold maxLen at hcm
  unfold sealing
  cases hs : may s with
  | false =>
    have HS := Lib.hid hs
    clear h hs
    rw [if_pos rfl]
    go_enter Try.func53, Try.ntmps53
    go_wp2_with (go_at_call 101; refine (right_eq s false HS _).mono ?_; rintro e w' ⟨rfl, rfl⟩)
    go_returns
    exact ⟨_, rfl, Rd.nil _ _, Grew.refl _⟩
  | true =>
    rw [if_neg (by simp)]
    by_cases hl : 108 < load.length
    · have HS := Lib.hid hs
      have hgt : (108 : Int) < (load.length : Int) := by omega
      clear h hs
      rw [if_pos hl]
      go_enter Try.func53, Try.ntmps53
      go_wp2_with (go_at_call 101; refine (right_eq s true HS _).mono ?_; rintro e w' ⟨rfl, rfl⟩)
      go_returns
      exact ⟨_, rfl, Rd.nil _ _, Grew.refl _⟩
    · rw [if_neg hl]
      exact seal_main S A c load s w h hs (by omega)

theorem made_at (w : World) (n : Nat) : (w.alloc (Obj.cells (madeCells #[.int .u8 0] n) 5)).heap[w.heap.size]? = some (.cells (bv (zeros n)).toArray 5 (0, 0)) := by
  rw [heap_alloc_new, Refs.made_cells]
  rfl

theorem splice_load (n : Nat) (load : List UInt8) (h : load.length ≤ n) : splice (bv (zeros n)) 0 (bv load) = bv (load ++ zeros (n - load.length)) := by
  rw [bv_append]
  simp [splice, bv, zeros]

set_option maxHeartbeats 2000000 in
theorem rseal_main (S : Nat → Prop) (A : Option Addr) (c : Nat) (load : List UInt8) (s : Nat) (w : World) (h : Rd S w (.slice A load.length c) load) (hs : may s = true) (hl : load.length ≤ 108) :
    Calls Try.prog 70 #[.int .u64 s, .slice A load.length c] w fun e w' => ∃ v', e = .returned (.tuple #[v', .int .i64 0]) ∧ Rd (fun b => w.heap.size ≤ b) w' v' (sealed s load) ∧ Grew w w' := by
  obtain ⟨A', c', e', q1, q2, q3, q4⟩ := id h
  injection e' with e1 _ e2
  subst e1 e2
  have HR := Lib.hid h
  have HQ := Lib.hid q4
  unfold maxLen at q2
  have hsm := (may_iff s).1 hs
  have h1 : ¬ ((s : Int) < 1) := by omega
  have h2 : ¬ ((4611686018427387904 : Int) < (s : Int)) := by omega
  have hgt : ¬ ((108 : Int) < (load.length : Int)) := by omega
  obtain ⟨B, hB⟩ : ∃ B, B = body s load := ⟨_, rfl⟩
  obtain ⟨X, hX⟩ : ∃ X, X = sumOf B := ⟨_, rfl⟩
  have hfin : sealed s load = (B ++ be 4 X.toNat) ++ be 8 s := by rw [hX, hB]; rfl
  rw [hfin]
  have HXX := Lib.hid hX
  have HSM : Hid (s < 18446744073709551616) := Lib.hid (by omega)
  have HL3 := Lib.hid q3
  have e3 : Hid (be 8 s ++ (load ++ zeros (108 - load.length)) = B) := Lib.hid hB.symm
  have HLB := Lib.hid (show B.length = 116 by rw [hB]; exact body_length s load hl)
  obtain ⟨i0, hi, hz0, hz1, hz2⟩ := info_parts info5
  have hmk : ∀ u : World, (Instr.makeSlice 23 (.int .i64 108) (.int .i64 108)).run Try.prog u =
      .ok (.slice (some ⟨u.heap.size, 0, none⟩) 108 108) (u.alloc (.cells (madeCells #[.int .u8 0] 108) 5)) := fun u => by
    have h := run_make (P := Try.prog) u 23 5 i0 (.int .u8 0) Try.underlying23 hi hz0 .i64 .i64 108 108 (by omega) (Int.le_refl _) (by rw [hz2]; omega) (by omega)
    simpa [hz1, Value.cells] using h
  clear h hs hX hfin hB q4 q3 hsm
  go_enter Try.func70, Try.ntmps70
  go_wp2_with (with_reducible refine wpList_copy_splice rfl (.tmp 18) (.tmp 19) 23 23 rfl 5 Try.underlying23 Refs.size5 (some ⟨w.heap.size, 0, none⟩) A 108 108 load.length c rfl rfl w.heap.size 0 (bv (zeros 108)) 5 ?c0 (bv load) ?c1 ?c2 ?c3 (bv_one load) w.heap.size w ?c4 (Nat.le_refl _) ?_)
  case c0 => exact Option.some.inj ((Array.getElem?_eq_getElem _).symm.trans (made_at w 108))
  case c1 =>
    rw [bv_length]
    first | done | exact (Nat.min_eq_left (by omega)).symm
  case c2 =>
    intro hp
    rw [bv_length] at hp
    cases A with
    | none => have := HL3.out rfl; omega
    | some ad => exact ⟨ad, rfl, cells_alloc (HQ.out ad rfl).2 _⟩
  case c3 => simp [bv_length, zeros_length, hl]
  case c4 => exact (Below.refl _ w).alloc (Nat.le_refl _) _
  intro w1 hw1 hb1
  rw [splice_load 108 load hl] at hw1
  have hfull : (load ++ zeros (108 - load.length)).length = 108 := by simp [zeros_length]; omega
  have HF : Hid (Rd (fun _ => True) w1 (.slice (some ⟨w.heap.size, 0, none⟩) 108 108) (load ++ zeros (108 - load.length))) := Lib.hid (by
    have : w1.ownsRow w.heap.size 5 1 (.slice (some ⟨w.heap.size, 0, none⟩) 108 108) 108 (bv (load ++ zeros (108 - load.length))) :=
      ⟨by rw [bv_length, hfull], .inr ⟨w.heap.size, 108, _, rfl, Nat.le_refl _, hw1, Nat.le_refl _, by decide, by simp [bv_length, hfull], by rw [List.take_of_length_le (by simp [bv_length, hfull])]⟩⟩
    exact (Rd.of_own this hfull.symm).mono fun _ _ => trivial)
  have HG1 := Lib.hid hb1
  have HFL := Lib.hid hfull
  clear hw1 hb1 hfull
  generalize load ++ zeros (108 - load.length) = full at *
  go_wp2_with fail
  refine (rnum8 (fun _ => True) _ [] s w1 (Rd.nil _ _) (by simp) HSM.out).mono ?_
  rintro e w2 ⟨v2, rfl, o2, g2⟩
  rw [List.nil_append] at o2
  obtain ⟨v3, w3, r3, o3, b3⟩ := run_app2 w2 w1.heap.size v2 (some ⟨w.heap.size, 0, none⟩) 108 (be 8 s) full (fun _ => True) o2 (by rw [HFL.out]; exact HF.out.grew g2) (by rw [be_length, HFL.out]; omega) g2.size
  rw [e3.out] at o3
  rw [HFL.out] at r3
  have g3 : Grew w1 w3 := (show Below w1.heap.size w1 w2 from g2).trans b3
  obtain ⟨_, A3, c3, rfl⟩ := own_len o3 (by rw [HLB.out]; omega)
  have HO := Lib.hid o3
  have H3 := Lib.hid r3
  have HG := Lib.hid (Grew.trans HG1.out g3)
  have H4 : Hid (∀ W, Grew w3 W → Calls Try.prog 113 #[.slice A3 B.length c3] W fun e w' => e = .returned (.int .u32 (X.toNat : Int)) ∧ Grew W w') := Lib.hid fun W hg => by
    have := rof_any _ _ _ W (by rw [HLB.out]; omega) ((Rd.of_own HO.out rfl).grew hg)
    rw [HXX.out]
    exact this
  have HX := Lib.hid (u64_of_sum X)
  have HXL : Hid (X.toNat < 18446744073709551616) := Lib.hid (by have := X.isLt; omega)
  clear o3 r3 o2 g2 b3 g3 HXX e3
  go_wp2_with (at_builtin; refine wpList_app' rfl (.tmp 23) (.tmp 24) 23 23 rfl _ _ rfl rfl _ w3 (by exact H3.out) ?_)
  refine (H4.out _ (Grew.refl _)).mono ?_
  rintro e w4 ⟨rfl, g4⟩
  have hX := HX.out
  go_wp2_with fail
  refine (rnum4 _ _ B _ w4 ((Rd.of_own HO.out rfl).grew g4) (by have := HLB.out; omega) HXL.out).mono ?_
  rintro e w5 ⟨v5, rfl, o5, g5⟩
  go_wp2_with fail
  refine (rnum8 _ _ _ _ w5 (Rd.of_own o5 rfl) (by have := HLB.out; simp [be_length]; omega) HSM.out).mono ?_
  rintro e w6 ⟨v6, rfl, o6, g6⟩
  go_wp2
  go_returns
  refine ⟨v6, rfl, (Rd.of_own o6 rfl).mono fun b hb => ?_, ((HG.out.trans g4).trans g5).trans g6⟩
  exact Nat.le_trans (((HG.out.trans g4).trans g5).size) hb.1

theorem rseal_any (S : Nat → Prop) (v : Value) (load : List UInt8) (s : Nat) (w : World) (h : Rd S w v load) :
    Calls Try.prog 70 #[.int .u64 s, v] w fun e w' => ∃ v', e = .returned (.tuple #[v', .int .i64 (sealing s load).2]) ∧ Rd (fun b => w.heap.size ≤ b) w' v' (sealing s load).1 ∧ Grew w w' := by
  obtain ⟨A, c, rfl, hlc, hcm, _⟩ := id h
  unfold maxLen at hcm
  unfold sealing
  cases hs : may s with
  | false =>
    clear h
    rw [if_pos rfl]
    by_cases h1 : (s : Int) < 1
    · clear hs
      go_enter Try.func70, Try.ntmps70
      go_wp2
      go_returns
      exact ⟨_, rfl, Rd.nil _ _, Grew.refl _⟩
    · have h2 : (4611686018427387904 : Int) < (s : Int) := by
        have : ¬ (may s = true) := by simp [hs]
        rw [may_iff] at this
        omega
      clear hs
      go_enter Try.func70, Try.ntmps70
      go_wp2
      go_returns
      exact ⟨_, rfl, Rd.nil _ _, Grew.refl _⟩
  | true =>
    rw [if_neg (by simp)]
    by_cases hl : 108 < load.length
    · have hsm := (may_iff s).1 hs
      have h1 : ¬ ((s : Int) < 1) := by omega
      have h2 : ¬ ((4611686018427387904 : Int) < (s : Int)) := by omega
      have hgt : (108 : Int) < (load.length : Int) := by omega
      clear h hs hsm
      rw [if_pos hl]
      go_enter Try.func70, Try.ntmps70
      go_wp2
      go_returns
      exact ⟨_, rfl, Rd.nil _ _, Grew.refl _⟩
    · rw [if_neg hl]
      exact rseal_main S A c load s w h hs (by omega)
end Go.Proofs.Ytbnicphegbdfnaa.SSeal
