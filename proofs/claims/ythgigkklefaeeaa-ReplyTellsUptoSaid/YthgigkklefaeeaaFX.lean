/-
  What wraps, by the document.
  Conditions: those that each lemma names.
-/
import Derived.Test.YthgigkklefaeeaaFW
namespace Go.Proofs.Ythgigkklefaeeaa.FX
set_option maxRecDepth 100000
set_option maxRecDepth 100000
open Go Go.RowKit Go.Lib Go.Proofs.Ythgigkklefaeeaa Go.Proofs.Ythgigkklefaeeaa.Facts Go.Proofs.Ythgigkklefaeeaa.Bytes Go.Proofs.Ythgigkklefaeeaa.Puts Go.Proofs.Ythgigkklefaeeaa.Scan Go.Proofs.Ythgigkklefaeeaa.Take Go.Proofs.Ythgigkklefaeeaa.Nums Go.Proofs.Ythgigkklefaeeaa.SumPure Go.Proofs.Ythgigkklefaeeaa.Sum Go.Proofs.Ythgigkklefaeeaa.FP Go.Proofs.Ythgigkklefaeeaa.FW

theorem run_app2 (W : World) (base : Nat) (v : Value) (A : Option Addr) (c : Nat) (l0 l : List UInt8) (S : Nat → Prop) (hown : W.ownsRow base 5 1 v l0.length (bv l0)) (hr : Rd S W (.slice A l.length c) l) (hl : l0.length + l.length ≤ 140737488355328) (hb : base ≤ W.heap.size) :
    ∃ v' w', (Builtin.append_ #[23, 23] 23 #[v, .slice A l.length c]).run Try.prog W = .ok v' w' ∧ w'.ownsRow base 5 1 v' (l0 ++ l).length (bv (l0 ++ l)) ∧ Below base W w' ∧ W.grownBy w' v.ownBlock := by
  obtain ⟨i0, hi, hz0, hz1, hz2⟩ := info_parts info5
  obtain ⟨A', c', e, h1, h2, h3, h4⟩ := hr
  injection e with e1 _ e3
  subst e1 e3
  cases A with
  | none =>
    have h0 := h3 rfl
    have : l = [] := List.eq_nil_of_length_eq_zero (by omega)
    subst this
    subst h0
    rw [List.append_nil]
    exact ⟨v, W, run_append_owned_none W base 23 23 5 i0 1 Try.underlying23 hi v _ _ hown, hown, Below.refl _ _, ⟨rfl, rfl, rfl, Nat.le_refl _, fun _ _ _ => rfl⟩⟩
  | some ad =>
    obtain ⟨v', w', hr, h5, h6, _⟩ := run_append_own (P := Try.prog) W base 23 23 5 i0 (.int .u8 0) 1 1 Try.underlying23 hi hz0 hz1 hz2 rfl Nat.one_pos v l0.length (bv l0) hown ad l.length c (bv l) (by rw [bv_length]; omega) (h4 ad rfl).2 (bv_one l) (by unfold maxLen; omega) (by omega) hb
    refine ⟨v', w', hr, by rw [List.length_append, bv_append]; exact h5, below_of_grown W h6 hb fun k hk => ?_, h6⟩
    rcases hown.2 with ⟨rfl, _⟩ | ⟨g, cap, cur, rfl, hg, _⟩
    · simp [Value.ownBlock] at hk
    · simp [Value.ownBlock] at hk
      omega
theorem wpList_app' {P : Program} {w : World} {ops : Array Oper} {rest : List Oper} {o : Oper} {ac : Act} {Q : Exit → Act → World → Prop} (hgd : o.guard = none) (s x : Operand) (t tn : TypeId)
    (ho : o.op = .call { callee := .builtin .append, args := #[s, x], argTypes := #[t, tn] }) (vs vx : Value) (hs : ac.eval s = vs) (hx : ac.eval x = vx) (v' : Value) (w' : World)
    (hr : (Builtin.append_ #[t, tn] o.type #[vs, vx]).run P w = .ok v' w') (hK : wpList P ops Q rest (ac.put o.dst v') w') : wpList P ops Q (o :: rest) ac w := by
  refine wpList_plain hgd fun _ hK' => ?_
  unfold Oper.wp execOp
  simp only [ho, resolve, invoke, builtin, Sem.run_bind, Sem.run_pure, Result.andThen_ok, List.map_toArray, List.map_cons, List.map_nil, hs, hx, hr]
  exact hK' _ _ hK
/-- A row of bytes that was just laid. -/
theorem lit_own (w : World) (base : Nat) (hb : base ≤ w.heap.size) (l : List UInt8) (hl : l.length ≤ 255) : (w.alloc (.cells (bv l).toArray 5)).ownsRow base 5 1 (.slice (some ⟨w.heap.size, 0, none⟩) l.length l.length) l.length (bv l) :=
  ⟨by rw [bv_length, Nat.mul_one], .inr ⟨w.heap.size, l.length, (bv l).toArray, rfl, hb, heap_alloc_new w _, Nat.le_refl _, by unfold maxLen; omega, by simp [bv_length], by rw [Nat.mul_one, ← bv_length l]; simp⟩⟩
theorem u8_len (n : Nat) (h : n ≤ 255) : IntKind.u8.wrap (n : Int) = ((UInt8.ofNat n).toNat : Int) := by
  rw [ofNat_small n h]
  exact IntWalk.u8_in _ (by omega)
theorem own_some {W : World} {base : Nat} {v : Value} {l : List UInt8} (h : W.ownsRow base 5 1 v l.length (bv l)) : ∃ A c, v = .slice A l.length c := by
  rcases h.2 with ⟨rfl, h0⟩ | ⟨g, cap, cur, rfl, _⟩
  · rw [h0]; exact ⟨_, _, rfl⟩
  · exact ⟨_, _, rfl⟩
theorem keepB {w w' : World} {q : Nat} {o : Obj} (h : w.heap[q]? = some o) (hg : Grew w w') : w'.heap[q]? = some o :=
  (hg.block q (Array.getElem?_eq_some_iff.1 h).1).trans h
theorem own_grew {w w' : World} {b e m n : Nat} {v : Value} {xs : List Value} (h : w.ownsRow b e m v n xs) (hg : Grew w w') : w'.ownsRow b e m v n xs := by
  refine ⟨h.1, ?_⟩
  rcases h.2 with h2 | ⟨g, cap, cur, rfl, hb, hgg, h3⟩
  · exact .inl h2
  · exact .inr ⟨g, cap, cur, rfl, hb, keepB hgg hg, h3⟩
theorem be2 (n : Nat) (h : n < 65536) : bv (be 2 n) = [.int .u8 ((n : Int) / 256), .int .u8 ((n : Int) % 256)] := by
  rw [be_two]
  have e1 : (((byteAt n 1).toNat : Nat) : Int) = (n : Int) / 256 := by rw [byteAt_lt]; simp only [Nat.mul_one]; omega
  have e0 : (((byteAt n 0).toNat : Nat) : Int) = (n : Int) % 256 := by rw [byteAt_lt]; simp only [Nat.mul_zero, Nat.pow_zero, Nat.div_one]; omega
  simp only [bv, List.map_cons, List.map_nil, e1, e0]
set_option maxHeartbeats 2000000 in
theorem rwrap_any (S : Nat → Prop) (v : Value) (b : List UInt8) (most : Int) (w : World) (h : Rd S w v b) :
    Calls Try.prog 31 #[v, .int .i64 most] w fun e w' => ∃ v', e = .returned (.tuple #[v', .int .i64 (wrapP b most).2]) ∧ Rd (fun k => w.heap.size ≤ k) w' v' (wrapP b most).1 ∧ Grew w w' := by
  obtain ⟨A, c, rfl, _⟩ := id h
  have HR := Lib.hid h
  have hk := lim_le most
  obtain ⟨k, hlk⟩ : ∃ k, lim most = k := ⟨_, rfl⟩
  rw [hlk] at hk
  have HK := Lib.hid hlk
  unfold wrapP
  rw [hlk]
  clear h hlk
  by_cases hl : k < b.length
  · have hgt : (k : Int) < (b.length : Int) := by omega
    rw [if_pos hl]
    go_enter Try.func31, Try.ntmps31
    go_wp2_with (go_at_call 49; refine (limit_eq most k HK _).mono ?_; rintro e w' ⟨rfl, rfl⟩)
    go_returns
    exact ⟨_, rfl, Rd.nil _ _, Grew.refl _⟩
  · have hgt : ¬ (k : Int) < (b.length : Int) := by omega
    rw [if_neg hl]
    have hb : b.length ≤ 255 := by omega
    have HL := Lib.hid hb
    have HF : Hid (hd b ++ be 2 (sh (hd b)) = fr b) := Lib.hid rfl
    obtain ⟨n, hn⟩ : ∃ n, sh (hd b) = n := ⟨_, rfl⟩
    have hn5 : n < 65536 := by rw [← hn]; exact sh_lt _
    have HN : Hid (short (sumOf (hd b)) = (n : Int)) := Lib.hid (by rw [sh_eq, hn])
    rw [hn] at HF
    have HB2 := Lib.hid (be2 n hn5)
    have hu := u8_len b.length hb
    have q1 : 0 ≤ (n : Int) / 256 ∧ (n : Int) / 256 ≤ 255 := by omega
    have q2 : 0 ≤ (n : Int) % 256 ∧ (n : Int) % 256 ≤ 255 := by omega
    have gl : Grew w (w.alloc (.cells #[.int .u8 ((UInt8.ofNat b.length).toNat : Int)] 5)) := (Below.refl _ _).alloc (Nat.le_refl _) _
    obtain ⟨v2, w2, hr2, o2, b2, _⟩ := run_app2 (w.alloc (.cells #[.int .u8 ((UInt8.ofNat b.length).toNat : Int)] 5)) w.heap.size (.slice (some ⟨w.heap.size, 0, none⟩) 1 1) A c [UInt8.ofNat b.length] b S (lit_own w w.heap.size (Nat.le_refl _) [UInt8.ofNat b.length] (by simp)) (HR.out.grew gl) (by simp; omega) (by simp)
    have HR2 := Lib.hid hr2
    have o2' : w2.ownsRow w.heap.size 5 1 v2 (hd b).length (bv (hd b)) := o2
    obtain ⟨A2, c2, rfl⟩ := own_some o2'
    have O2 := Lib.hid o2'
    have G2 : Hid (Grew w w2) := Lib.hid ((show Below w.heap.size _ _ from gl).trans b2)
    clear hl hn o2 o2' gl b2 hr2
    go_enter Try.func31, Try.ntmps31
    go_wp2_with (first | (go_at_call 49; refine (limit_eq most k HK _).mono ?_; rintro e w' ⟨rfl, rfl⟩) | (at_builtin; refine wpList_app' rfl (.tmp 17) (.tmp 18) 23 23 rfl _ _ rfl rfl _ w2 (by exact HR2.out) ?_))
    go_wp2_with fail
    refine (rshort_any _ _ (hd b) w2 (by have := HL.out; rw [hd_length]; omega) (Rd.of_own O2.out rfl)).mono ?_
    rintro e w3 ⟨rfl, g3⟩
    rw [HN.out]
    have G3 := Lib.hid (G2.out.trans g3)
    have gl : Grew w3 (w3.alloc (.cells #[.int .u8 ((n : Int) / 256), .int .u8 ((n : Int) % 256)] 5)) := (Below.refl _ _).alloc (Nat.le_refl _) _
    have lr := lit_own w3 w3.heap.size (Nat.le_refl _) (be 2 n) (by rw [be_length]; omega)
    rw [HB2.out, be_length] at lr
    have y1 := own_grew O2.out (g3.trans gl)
    have y2 : Rd (fun _ => True) (w3.alloc (.cells #[.int .u8 ((n : Int) / 256), .int .u8 ((n : Int) % 256)] 5)) (.slice (some ⟨w3.heap.size, 0, none⟩) (be 2 n).length 2) (be 2 n) := by
      have := (Rd.of_own (l := be 2 n) (n := 2) (by rw [HB2.out]; exact lr) (by rw [be_length])).mono (S' := fun _ => True) fun _ _ => trivial
      rw [be_length]
      exact this
    obtain ⟨v4, w4, hr4, o4, b4, _⟩ := run_app2 _ w.heap.size _ (some ⟨w3.heap.size, 0, none⟩) 2 (hd b) (be 2 n) (fun _ => True) y1 y2 (by have := HL.out; rw [hd_length, be_length]; omega) (Nat.le_trans G3.out.size gl.size)
    clear y1 y2
    rw [be_length] at hr4
    rw [HF.out] at o4
    have HR4 := Lib.hid hr4
    have O4 := Lib.hid o4
    have G4 : Hid (Grew w w4) := Lib.hid ((show Below w.heap.size _ _ from G3.out.trans gl).trans b4)
    clear lr gl hr4 o4 b4 g3 hu
    go_wp2_with (at_builtin; refine wpList_app' rfl (.tmp 22) (.tmp 29) 23 23 rfl _ _ rfl rfl _ w4 (by exact HR4.out) ?_)
    go_returns
    exact ⟨_, rfl, (Rd.of_own O4.out rfl).mono fun q hq => hq.1, G4.out⟩
end Go.Proofs.Ythgigkklefaeeaa.FX
