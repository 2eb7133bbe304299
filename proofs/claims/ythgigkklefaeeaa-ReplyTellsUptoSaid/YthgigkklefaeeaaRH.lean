/-
  Wrap, by the program.
  Conditions: those that each lemma names.
-/
import Derived.Test.YthgigkklefaeeaaRG
namespace Go.Proofs.Ythgigkklefaeeaa.RH
set_option maxRecDepth 100000
open Go Go.RowKit Go.Lib Go.Proofs.Ythgigkklefaeeaa Go.Proofs.Ythgigkklefaeeaa.Facts Go.Proofs.Ythgigkklefaeeaa.Bytes Go.Proofs.Ythgigkklefaeeaa.Puts Go.Proofs.Ythgigkklefaeeaa.Scan Go.Proofs.Ythgigkklefaeeaa.Take Go.Proofs.Ythgigkklefaeeaa.Nums Go.Proofs.Ythgigkklefaeeaa.SumPure Go.Proofs.Ythgigkklefaeeaa.Sum Go.Proofs.Ythgigkklefaeeaa.FP Go.Proofs.Ythgigkklefaeeaa.FW Go.Proofs.Ythgigkklefaeeaa.FX Go.Proofs.Ythgigkklefaeeaa.Ints Go.Proofs.Ythgigkklefaeeaa.PA Go.Proofs.Ythgigkklefaeeaa.RA Go.Proofs.Ythgigkklefaeeaa.RC Go.Proofs.Ythgigkklefaeeaa.RD Go.Proofs.Ythgigkklefaeeaa.RE Go.Proofs.Ythgigkklefaeeaa.RF Go.Proofs.Ythgigkklefaeeaa.RG

section
variable {P : Program} {ops : Array Oper} {o : Oper} {ac : Act} {w : World} {R : World → World → Prop} {J' : Value → World → Prop} {g : Value → World → Prop}
theorem one_app (hgd : o.guard = none) (s x : Operand) (t tn : TypeId)
    (ho : o.op = .call { callee := .builtin .append, args := #[s, x], argTypes := #[t, tn] }) (vs vx : Value) (hs : ac.eval s = vs) (hx : ac.eval x = vx) (v' : Value) (w' : World)
    (hr : (Builtin.append_ #[t, tn] o.type #[vs, vx]).run P w = .ok v' w') (h : R w w' ∧ J' v' w' ∧ g v' w') : Marks.one P ops o ac w R J' g := by
  unfold Marks.one
  rw [if_pos (by unfold Region.wanted; rw [hgd])]
  unfold execOp
  simp only [ho, resolve, invoke, builtin, Sem.run_bind, Sem.run_pure, Result.andThen_ok, List.map_toArray, List.map_cons, List.map_nil, hs, hx, hr]
  exact h
end
/-- What is wrapped. -/
def pay (x : Ou) : List UInt8 := b8 x.k :: b8 x.o :: b8 x.e :: x.d
theorem pay_len (x : Ou) : (pay x).length = x.d.length + 3 := by simp [pay]
def wrapO (x : Ou) : List UInt8 := if okO x = true then fr (pay x) else []
theorem okO_le {x : Ou} (h : okO x = true) : x.d.length ≤ 247 := by
  unfold okO mayP okI rl row at h
  simp only [Bool.and_eq_true, decide_eq_true_eq] at h
  obtain ⟨h1, h2, _, _, h5, _⟩ := h
  have h6 := h5.2
  split at h6
  · simp at h6; omega
  · split at h6 <;> (simp at h6; omega)
theorem pay_le {x : Ou} (h : okO x = true) : (pay x).length ≤ 250 := by
  have := okO_le h
  rw [pay_len]
  omega
theorem wrapP_pay {x : Ou} (h : okO x = true) : wrapP (pay x) 250 = (fr (pay x), 0) := by
  have h1 := pay_le h
  have h2 : lim 250 = 250 := by decide
  unfold wrapP
  rw [h2, if_neg (by omega)]
theorem wrapO_len {x : Ou} (h : okO x = true) : (wrapO x).length = x.d.length + 6 := by
  unfold wrapO
  rw [if_pos h, fr_length, pay_len]

/-- All of it but the append only lays new memory. -/
structure JW (W0 : World) (L : List Int) (X Y : List UInt8) (m : Nat → Bool) (u : Nat → Value) (w : World) : Prop where
  a : m 10 = false → Grew W0 w ∧ (m 6 = true → Is w (u 6) L) ∧ (m 7 = true → w.ownsRow W0.heap.size 5 1 (u 7) X.length (bv X))
  b : m 10 = true → (∀ j, j < 10 → m j = true) ∧ Grew W0 w ∧ w.ownsRow W0.heap.size 5 1 (u 10) Y.length (bv Y)
  c : m 11 = true → m 10 = true ∧ u 11 = u 10
section
variable {W0 w w' : World} {L : List Int} {X Y : List UInt8} {m : Nat → Bool} {u : Nat → Value}
theorem JW.start (w : World) (L : List Int) (X Y : List UInt8) : JW w L X Y (fun _ => false) (fun _ => undef) w.drew := ⟨fun _ => ⟨(Grew.refl w).drew, (fun h => by cases h), (fun h => by cases h)⟩, (fun h => by cases h), fun h => by cases h⟩
theorem JW.off (h : JW W0 L X Y m u w) {k : Nat} (hk : k < 10) (hm : m k = false) : m 10 = false := by
  cases hq : m 10 with
  | false => rfl
  | true => rw [(h.b hq).1 k hk] at hm; cases hm
theorem JW.grew (h : JW W0 L X Y m u w) {k : Nat} (hk : k < 10) (hm : m k = false) : Grew W0 w := (h.a (h.off hk hm)).1
theorem JW.move (h : JW W0 L X Y m u w) (hg : Grew w w') (k : Nat) (v : Value) (hk : k < 10) (hm : m k = false) (h6 : k = 6 → Is w' v L) (h7 : k = 7 → w'.ownsRow W0.heap.size 5 1 v X.length (bv X)) : JW W0 L X Y (Marks.upd m k) (Marks.updv u k v) w' := by
  obtain ⟨q1, q2, q3⟩ := h.a (h.off hk hm)
  refine ⟨fun _ => ⟨q1.trans hg, fun hh => ?_, fun hh => ?_⟩, fun hh => ?_, fun hh => ?_⟩
  · by_cases e : k = 6
    · subst e; rw [Marks.updv_same]; exact h6 rfl
    · rw [Marks.upd_other m (Ne.symm e)] at hh
      rw [Marks.updv_other u v (Ne.symm e)]
      exact Is.grew (q2 hh) hg
  · by_cases e : k = 7
    · subst e; rw [Marks.updv_same]; exact h7 rfl
    · rw [Marks.upd_other m (Ne.symm e)] at hh
      rw [Marks.updv_other u v (Ne.symm e)]
      exact own_grew (q3 hh) hg
  · rw [Marks.upd_other m (by omega), h.off hk hm] at hh
    cases hh
  · rw [Marks.upd_other m (by omega)] at hh
    have := (h.c hh).1
    rw [h.off hk hm] at this
    cases this
theorem JW.keep (h : JW W0 L X Y m u w) (k : Nat) (v : Value) (hk : k < 10) (hm : m k = false) (h6 : k ≠ 6) (h7 : k ≠ 7) : JW W0 L X Y (Marks.upd m k) (Marks.updv u k v) w := h.move (Grew.refl _) k v hk hm (fun e => absurd e h6) (fun e => absurd e h7)
theorem JW.put (h : JW W0 L X Y m u w) (hm : m 10 = false) (hall : ∀ j, j < 10 → m j = true) (v : Value) (hg : Grew W0 w') (hr : w'.ownsRow W0.heap.size 5 1 v Y.length (bv Y)) : JW W0 L X Y (Marks.upd m 10) (Marks.updv u 10 v) w' :=
  ⟨fun hh => (by rw [Marks.upd_same] at hh; cases hh), fun _ => ⟨fun j hj => by rw [Marks.upd_other m (by omega)]; exact hall j hj, hg, by rw [Marks.updv_same]; exact hr⟩, fun hh => by rw [Marks.upd_other m (by omega)] at hh; have := (h.c hh).1; rw [hm] at this; cases this⟩
theorem JW.idle (h : JW W0 L X Y m u w) (hT : m 10 = true) : JW W0 L X Y (Marks.upd m 11) (Marks.updv u 11 (u 10)) w := by
  obtain ⟨q1, q2, q3⟩ := h.b hT
  refine ⟨fun hh => ?_, fun _ => ⟨fun j hj => by rw [Marks.upd_other m (by omega)]; exact q1 j hj, q2, by rw [Marks.updv_other u _ (by omega)]; exact q3⟩, fun _ => ⟨by rw [Marks.upd_other m (by omega)]; exact hT, by rw [Marks.updv_same, Marks.updv_other u _ (by omega)]⟩⟩
  rw [Marks.upd_other m (by omega), hT] at hh
  cases hh
end
theorem fwrap_eq (S : Nat → Prop) (v : Value) (b : List UInt8) (most : Int) (w : World) (x : List UInt8) (y : Int) (h : Rd S w v b) (hq : wrapP b most = (x, y)) :
    Calls Try.prog 30 #[v, .int .i64 most] w fun e w' => ∃ v', e = .returned (.tuple #[v', .int .i64 y]) ∧ Rd (fun k => w.heap.size ≤ k) w' v' x ∧ Grew w w' := by
  have := FW.wrap_any S v b most w h
  rwa [hq] at this
set_option maxHeartbeats 4000000 in
theorem wrap_yes (S : Nat → Prop) (x : Ou) (A : Option Addr) (c : Nat) (w : World) (h : Rd S w (.slice A x.d.length c) x.d) (ho : okO x = true) :
    Calls Try.prog 13 #[ov x A c] w fun e w' => ∃ v', e = .returned v' ∧ Rd (fun k => w.heap.size ≤ k) w' v' (fr (pay x)) ∧ Grew w w' := by
  have hle := okO_le ho
  have HWP := Lib.hid (wrapP_pay ho)
  have hpay : pay x = ob [x.k, x.o, x.e] ++ x.d := rfl
  have HP := Lib.hid hpay
  obtain ⟨k, o, e, d⟩ := x
  unfold ov
  simp only at h hle HP ⊢
  obtain ⟨Y, hY⟩ : ∃ Y, pay ⟨k, o, e, d⟩ = Y := ⟨_, rfl⟩
  rw [hY] at HWP HP
  rw [hY]
  have HLE := Lib.hid hle
  have hmay : mayP k o e d.length = true := ho
  have HMY := Lib.hid hmay
  have g0 : Grew w (w.alloc (.cells #[.int .i64 k, .int .i64 o, .int .i64 e, .slice A d.length c] 25)) := by unfold Grew; go_grown
  have G0 := Lib.hid g0
  have X0 := Lib.hid (heap_alloc_new w (.cells #[.int .i64 k, .int .i64 o, .int .i64 e, .slice A d.length c] 25))
  have R0 := Lib.hid (h.grew g0)
  clear h ho hle hpay hY hmay g0
  go_enter Try.func13, Try.ntmps13
  go_wp2_with fail
  refine (may_any k o e A d.length c _).mono ?_
  rintro e2 w1 ⟨rfl, g1⟩
  rw [HMY.out]
  have G1 := Lib.hid (G0.out.trans g1)
  have X1 := Lib.hid (keepB X0.out g1)
  have R1 := Lib.hid (R0.out.grew g1)
  clear g1 G0 X0 R0 HMY
  go_wp2_with fail
  refine Marks.wp_region_text (JW w1 [k, o, e] (ob [k, o, e]) Y) (fun _ _ => True) (by kernel_rfl) (by kernel_rfl) (JW.start _ _ _ _) ?_
  apply Marks.Lex.exact [] _ (by kernel_rfl)
  · intro m u W hm hcl hJ _
    unfold Marks.one
    go_simp
    exact ⟨trivial, hJ.keep 0 _ (by omega) hm (by omega) (by omega), rfl⟩
  simp only [Act.put, List.setIfInBounds_toArray, List.set_cons_zero, List.set_cons_succ, Nat.zero_add]
  apply Marks.Lex.exact [] _ (by kernel_rfl)
  · intro m u W hm hcl hJ _
    obtain ⟨x0, x1, x2, x3⟩ := four_c (keepB X1.out (hJ.grew (by decide) hm))
    unfold Marks.one
    go_simp
    exact ⟨trivial, hJ.keep 1 _ (by omega) hm (by omega) (by omega), rfl⟩
  simp only [Act.put, List.setIfInBounds_toArray, List.set_cons_zero, List.set_cons_succ, Nat.reduceAdd]
  apply Marks.Lex.exact [] _ (by kernel_rfl)
  · intro m u W hm hcl hJ _
    unfold Marks.one
    go_simp
    exact ⟨trivial, hJ.keep 2 _ (by omega) hm (by omega) (by omega), rfl⟩
  simp only [Act.put, List.setIfInBounds_toArray, List.set_cons_zero, List.set_cons_succ, Nat.reduceAdd]
  apply Marks.Lex.exact [] _ (by kernel_rfl)
  · intro m u W hm hcl hJ _
    obtain ⟨x0, x1, x2, x3⟩ := four_c (keepB X1.out (hJ.grew (by decide) hm))
    unfold Marks.one
    go_simp
    exact ⟨trivial, hJ.keep 3 _ (by omega) hm (by omega) (by omega), rfl⟩
  simp only [Act.put, List.setIfInBounds_toArray, List.set_cons_zero, List.set_cons_succ, Nat.reduceAdd]
  apply Marks.Lex.exact [] _ (by kernel_rfl)
  · intro m u W hm hcl hJ _
    unfold Marks.one
    go_simp
    exact ⟨trivial, hJ.keep 4 _ (by omega) hm (by omega) (by omega), rfl⟩
  simp only [Act.put, List.setIfInBounds_toArray, List.set_cons_zero, List.set_cons_succ, Nat.reduceAdd]
  apply Marks.Lex.exact [] _ (by kernel_rfl)
  · intro m u W hm hcl hJ _
    obtain ⟨x0, x1, x2, x3⟩ := four_c (keepB X1.out (hJ.grew (by decide) hm))
    unfold Marks.one
    go_simp
    exact ⟨trivial, hJ.keep 5 _ (by omega) hm (by omega) (by omega), rfl⟩
  simp only [Act.put, List.setIfInBounds_toArray, List.set_cons_zero, List.set_cons_succ, Nat.reduceAdd]
  apply Marks.Lex.know [] (fun _ _ => True) (by kernel_rfl) (fun _ _ _ _ _ => trivial)
  · intro m u W hm hcl hJ _
    have hI := lit_is W [k, o, e] (by simp [maxLen])
    have hgn : Grew W (W.alloc (.cells (iv [k, o, e]).toArray 3)) := (Below.refl _ _).alloc (Nat.le_refl _) _
    unfold Marks.one
    go_simp
    exact ⟨trivial, hJ.move hgn 6 _ (by omega) hm (fun _ => hI) (fun e => by cases e), trivial⟩
  simp only [Act.put, List.setIfInBounds_toArray, List.set_cons_zero, List.set_cons_succ, Nat.reduceAdd]
  apply Marks.Lex.know [] (fun _ _ => True) (by kernel_rfl) (fun _ _ _ _ _ => trivial)
  · intro m u W hm hcl hJ _
    have h6 : m 6 = true := hcl 6 (by decide)
    have hI := (hJ.a (hJ.off (by decide) hm)).2.1 h6
    have hN := nums_any W (u 6) [k, o, e] hI (by simp)
    unfold Marks.one
    go_simp
    refine hN.mono ?_
    rintro e2 w' ⟨v', rfl, o1, g1⟩
    exact ⟨_, rfl, trivial, hJ.move g1 7 _ (by omega) hm (fun e => by cases e) (fun _ => ⟨o1.1, o1.2.imp id fun ⟨g, cap, cur, r1, r2, r⟩ => ⟨g, cap, cur, r1, Nat.le_trans (hJ.grew (by decide) hm).size r2, r⟩⟩), trivial⟩
  simp only [Act.put, List.setIfInBounds_toArray, List.set_cons_zero, List.set_cons_succ, Nat.reduceAdd]
  apply Marks.Lex.exact [] _ (by kernel_rfl)
  · intro m u W hm hcl hJ _
    unfold Marks.one
    go_simp
    exact ⟨trivial, hJ.keep 8 _ (by omega) hm (by omega) (by omega), rfl⟩
  simp only [Act.put, List.setIfInBounds_toArray, List.set_cons_zero, List.set_cons_succ, Nat.reduceAdd]
  apply Marks.Lex.exact [] _ (by kernel_rfl)
  · intro m u W hm hcl hJ _
    obtain ⟨x0, x1, x2, x3⟩ := four_c (keepB X1.out (hJ.grew (by decide) hm))
    unfold Marks.one
    go_simp
    exact ⟨trivial, hJ.keep 9 _ (by omega) hm (by omega) (by omega), rfl⟩
  simp only [Act.put, List.setIfInBounds_toArray, List.set_cons_zero, List.set_cons_succ, Nat.reduceAdd]
  apply Marks.Lex.know [] (fun _ _ => True) (by kernel_rfl) (fun _ _ _ _ _ => trivial)
  · intro m u W hm hcl hJ _
    have hall : ∀ j, j < 10 → m j = true := fun j hj => hcl j (by
      rcases (show j = 0 ∨ j = 1 ∨ j = 2 ∨ j = 3 ∨ j = 4 ∨ j = 5 ∨ j = 6 ∨ j = 7 ∨ j = 8 ∨ j = 9 by omega) with rfl | rfl | rfl | rfl | rfl | rfl | rfl | rfl | rfl | rfl <;> decide)
    obtain ⟨gW, _, oW⟩ := hJ.a hm
    obtain ⟨v', w', hr, o2, b2, _⟩ := run_app2 W w1.heap.size (u 7) A c (ob [k, o, e]) d _ (oW (hall 7 (by omega))) (R1.out.grew gW) (by have := HLE.out; simp [ob]; omega) gW.size
    rw [← HP.out] at o2
    exact one_app (by rfl) (.tmp 16) (.tmp 18) 23 23 (by with_reducible rfl) _ _ (by rfl) (by rfl) v' w' hr ⟨trivial, hJ.put hm hall _ (Below.trans gW b2) o2, trivial⟩
  simp only [Act.put, List.setIfInBounds_toArray, List.set_cons_zero, List.set_cons_succ, Nat.reduceAdd]
  apply Marks.Lex.know [] (fun _ _ => True) (by kernel_rfl) (fun _ _ _ _ _ => trivial)
  · intro m u W hm hcl hJ _
    have hT : m 10 = true := hcl 10 (by decide)
    unfold Marks.one
    go_simp
    exact ⟨trivial, hJ.idle hT, trivial⟩
  simp only [Act.put, List.setIfInBounds_toArray, List.set_cons_zero, List.set_cons_succ, Nat.reduceAdd]
  refine Marks.Lex.done fun m u W hm hJ hx => ?_
  obtain ⟨_, gW, oW⟩ := hJ.b (hm 10 (by decide))
  have hr := Rd.of_own oW rfl
  have RW := Lib.hid (hr.mono (S' := fun b => w.heap.size ≤ b) fun b hb => Nat.le_trans G1.out.size hb.1)
  have GW := Lib.hid (G1.out.trans gW)
  obtain ⟨vv, hvv⟩ : ∃ vv, u 10 = vv := ⟨_, rfl⟩
  have h11 : u 11 = vv := (hJ.c (hm 11 (by decide))).2.trans hvv
  rw [hvv] at RW ⊢
  rw [h11]
  obtain ⟨A9, c9, rfl, _⟩ := id RW.out
  clear hJ oW gW hr hm hx hvv h11
  go_wp2_with fail
  refine (fwrap_eq _ _ Y 250 W _ _ RW.out HWP.out).mono ?_
  rintro e2 w9 ⟨v9, rfl, r9, g9⟩
  have R9 := Lib.hid (r9.mono (S' := fun b => w.heap.size ≤ b) fun b hb => Nat.le_trans GW.out.size hb)
  have G9 := Lib.hid (GW.out.trans g9)
  clear r9 g9
  go_wp2
  go_returns
  exact ⟨_, rfl, R9.out, G9.out⟩
theorem wrap_no (x : Ou) (A : Option Addr) (c : Nat) (w : World) (ho : okO x = false) :
    Calls Try.prog 13 #[ov x A c] w fun e w' => e = .returned (.slice none 0 0) ∧ Grew w w' := by
  have hmay : mayP x.k x.o x.e x.d.length = false := ho
  obtain ⟨k, o, e, d⟩ := x
  unfold ov
  simp only at hmay ⊢
  have HMY := Lib.hid hmay
  have g0 : Grew w (w.alloc (.cells #[.int .i64 k, .int .i64 o, .int .i64 e, .slice A d.length c] 25)) := by unfold Grew; go_grown
  have G0 := Lib.hid g0
  clear ho hmay g0
  go_enter Try.func13, Try.ntmps13
  go_wp2_with fail
  refine (may_any k o e A d.length c _).mono ?_
  rintro e2 w1 ⟨rfl, g1⟩
  rw [HMY.out]
  have G1 := Lib.hid (G0.out.trans g1)
  clear g1 G0 HMY
  go_wp2
  go_returns
  exact ⟨rfl, G1.out⟩
theorem wrap_any (S : Nat → Prop) (x : Ou) (A : Option Addr) (c : Nat) (w : World) (h : Rd S w (.slice A x.d.length c) x.d) :
    Calls Try.prog 13 #[ov x A c] w fun e w' => ∃ v', e = .returned v' ∧ Rd (fun k => w.heap.size ≤ k) w' v' (wrapO x) ∧ Grew w w' := by
  unfold wrapO
  cases ho : okO x with
  | true =>
    rw [if_pos rfl]
    exact wrap_yes S x A c w h ho
  | false =>
    rw [if_neg (by decide)]
    refine (wrap_no x A c w ho).mono ?_
    rintro e w' ⟨rfl, hg⟩
    exact ⟨_, rfl, Rd.nil _ _, hg⟩
end Go.Proofs.Ythgigkklefaeeaa.RH
