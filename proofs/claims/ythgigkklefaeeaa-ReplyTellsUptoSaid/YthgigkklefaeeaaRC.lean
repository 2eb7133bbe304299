/-
  What a line may be told, by the program.
  Conditions: those that each lemma names.
-/
import Derived.Test.YthgigkklefaeeaaRB
import Derived.Test.YthgigkklefaeeaaMarks
namespace Go.Proofs.Ythgigkklefaeeaa.RC
set_option maxRecDepth 100000
open Go Go.RowKit Go.Lib Go.Proofs.Ythgigkklefaeeaa Go.Proofs.Ythgigkklefaeeaa.Facts Go.Proofs.Ythgigkklefaeeaa.Bytes Go.Proofs.Ythgigkklefaeeaa.Puts Go.Proofs.Ythgigkklefaeeaa.Scan Go.Proofs.Ythgigkklefaeeaa.Take Go.Proofs.Ythgigkklefaeeaa.Nums Go.Proofs.Ythgigkklefaeeaa.SumPure Go.Proofs.Ythgigkklefaeeaa.Sum Go.Proofs.Ythgigkklefaeeaa.FP Go.Proofs.Ythgigkklefaeeaa.FW Go.Proofs.Ythgigkklefaeeaa.FX Go.Proofs.Ythgigkklefaeeaa.RA Go.Proofs.Ythgigkklefaeeaa.RB

section
variable {P : Program} {ops : Array Oper} {o : Oper} {ac : Act} {w : World} {R : World → World → Prop} {J' : Value → World → Prop} {g : Value → World → Prop}
theorem one_store (hgd : o.guard = none) (t : TypeId) (x y : Operand) (ho : o.op = .store t x y) (px vy : Value) (hx : ac.eval x = px) (hy : ac.eval y = vy) (w' : World) (hr : (Instr.storeAt t px vy).run P w = .ok () w') (h : R w w' ∧ J' undef w' ∧ g undef w') : Marks.one P ops o ac w R J' g := by
  unfold Marks.one
  rw [if_pos (by unfold Region.wanted; rw [hgd])]
  unfold execOp
  simp only [ho, hx, hy, Sem.run_bind, Sem.run_pure, Result.andThen_ok, hr]
  exact h
theorem one_index (hgd : o.guard = none) (t : TypeId) (x y : Operand) (ho : o.op = .index t x y) (px vy v : Value) (hx : ac.eval x = px) (hy : ac.eval y = vy) (hr : (Instr.index t px vy).run P w = .ok v w) (h : R w w ∧ J' v w ∧ g v w) : Marks.one P ops o ac w R J' g := by
  unfold Marks.one
  rw [if_pos (by unfold Region.wanted; rw [hgd])]
  unfold execOp
  simp only [ho, hx, hy, Sem.run_bind, Sem.run_pure, Result.andThen_ok, hr]
  exact h
end
theorem cellB {w w' : World} {a : Addr} {u : Value} (hg : Grew w w') (h : w.cell? a = some u) : w'.cell? a = some u := by
  rw [World.cell?_of_block (w := w) (hg.block _ (World.block_lt_of_cell? w _ h))]
  exact h
def rl (k : Int) (i : Nat) : Int := (row k)[i]?.getD 0
theorem row_is (k : Int) : row k = [rl k 0, rl k 1, rl k 2, rl k 3, rl k 4, rl k 5] := by
  unfold rl row
  split
  · rfl
  · split <;> rfl
def okI (h l m : Int) : Bool := decide (l ≤ h) && decide (h ≤ m)
/-- May a line be told that? -/
def mayP (k o e : Int) (n : Nat) : Bool :=
  decide (1 ≤ k) && (decide (k ≤ 5) && (okI o (rl k 0) (rl k 1) && (okI e (rl k 2) (rl k 3) && (okI n (rl k 4) (rl k 5) && (decide (e = 0) || decide (n = 0))))))

/-- The table's row is laid apart. -/
structure J4 (W0 : World) (Z Rv : Array Value) (m : Nat → Bool) (u : Nat → Value) (w : World) : Prop where
  a : Grew W0 w
  b : m 5 = true → m 4 = true
  c : m 4 = true → ∃ g, u 4 = .pointer (some ⟨g, 0, none⟩) ∧ W0.heap.size ≤ g ∧ (m 5 = false → w.heap[g]? = some (.cells Z 59 (0, 0))) ∧ (m 5 = true → w.heap[g]? = some (.cells Rv 59 (0, 0)))
section
variable {W0 w w' : World} {Z Rv : Array Value} {m : Nat → Bool} {u : Nat → Value}
theorem J4.start (w : World) (Z Rv : Array Value) : J4 w Z Rv (fun _ => false) (fun _ => undef) w.drew := ⟨(Grew.refl w).drew, (fun h => by cases h), (fun h => by cases h)⟩
theorem J4.move (h : J4 W0 Z Rv m u w) (hg : Grew w w') (k : Nat) (v : Value) (h4 : k ≠ 4) (h5 : k ≠ 5) : J4 W0 Z Rv (Marks.upd m k) (Marks.updv u k v) w' := by
  have e4 := Marks.upd_other m (Ne.symm h4)
  have e5 := Marks.upd_other m (Ne.symm h5)
  have f4 := Marks.updv_other u v (Ne.symm h4)
  refine ⟨h.a.trans hg, by rw [e4, e5]; exact h.b, fun h1 => ?_⟩
  rw [e4] at h1
  rw [e5, f4]
  obtain ⟨g, q1, q2, q3, q4⟩ := h.c h1
  refine ⟨g, q1, q2, fun h2 => ?_, fun h2 => ?_⟩
  · have := q3 h2
    rw [hg.block g (Array.getElem?_eq_some_iff.1 this).1, this]
  · have := q4 h2
    rw [hg.block g (Array.getElem?_eq_some_iff.1 this).1, this]
theorem J4.keep (h : J4 W0 Z Rv m u w) (k : Nat) (v : Value) (h4 : k ≠ 4) (h5 : k ≠ 5) : J4 W0 Z Rv (Marks.upd m k) (Marks.updv u k v) w := h.move (Grew.refl _) k v h4 h5
theorem J4.put4 (h : J4 W0 Z Rv m u w) (hm : m 4 = false) : J4 W0 Z Rv (Marks.upd m 4) (Marks.updv u 4 (.pointer (some ⟨w.heap.size, 0, none⟩))) (w.alloc (.cells Z 59)) := by
  have h5 : m 5 = false := by
    cases hq : m 5 with
    | false => rfl
    | true => rw [h.b hq] at hm; cases hm
  refine ⟨h.a.trans ((Below.refl _ _).alloc (Nat.le_refl _) _), fun _ => Marks.upd_same m 4, fun _ => ⟨w.heap.size, Marks.updv_same _ _ _, h.a.size, fun _ => heap_alloc_new w _, fun h2 => ?_⟩⟩
  rw [Marks.upd_other m (by omega), h5] at h2
  cases h2
theorem J4.put5 (h : J4 W0 Z Rv m u w) (h4 : m 4 = true) {g : Nat} (hu : u 4 = .pointer (some ⟨g, 0, none⟩)) (hg0 : W0.heap.size ≤ g) (hr : w'.heap[g]? = some (.cells Rv 59 (0, 0))) (hgb : w.grownBy w' (some g)) (v : Value) : J4 W0 Z Rv (Marks.upd m 5) (Marks.updv u 5 v) w' := by
  refine ⟨Below.grown (show Below W0.heap.size W0 w from h.a) hgb h.a.size (fun k hk => by cases hk; exact hg0), fun _ => by rw [Marks.upd_other m (by omega)]; exact h4, fun _ => ⟨g, by rw [Marks.updv_other u v (by omega)]; exact hu, hg0, fun h2 => ?_, fun _ => hr⟩⟩
  rw [Marks.upd_same] at h2
  cases h2
end
theorem four_c {W : World} {B t : Nat} {a b c d : Value} (hb : W.heap[B]? = some (.cells #[a, b, c, d] t (0, 0))) :
    W.cell? ⟨B, 0, none⟩ = some a ∧ W.cell? ⟨B, 1, none⟩ = some b ∧ W.cell? ⟨B, 2, none⟩ = some c ∧ W.cell? ⟨B, 3, none⟩ = some d := by
  refine ⟨?_, ?_, ?_, ?_⟩
  all_goals rw [cell_of_row _ _ _ _ _ _ hb]; rfl
theorem three_c {W : World} {B t : Nat} {a b c : Value} (hb : W.heap[B]? = some (.cells #[a, b, c] t (0, 0))) :
    W.cell? ⟨B, 0, none⟩ = some a ∧ W.cell? ⟨B, 1, none⟩ = some b ∧ W.cell? ⟨B, 2, none⟩ = some c := by
  refine ⟨?_, ?_, ?_⟩
  all_goals rw [cell_of_row _ _ _ _ _ _ hb]; rfl
theorem six_c {W : World} {B t : Nat} {a b c d e f : Value} (hb : W.heap[B]? = some (.cells #[a, b, c, d, e, f] t (0, 0))) :
    W.cell? ⟨B, 0, none⟩ = some a ∧ W.cell? ⟨B, 1, none⟩ = some b ∧ W.cell? ⟨B, 2, none⟩ = some c ∧ W.cell? ⟨B, 3, none⟩ = some d ∧ W.cell? ⟨B, 4, none⟩ = some e ∧ W.cell? ⟨B, 5, none⟩ = some f := by
  refine ⟨?_, ?_, ?_, ?_, ?_, ?_⟩
  all_goals rw [cell_of_row _ _ _ _ _ _ hb]; rfl

def Z6 : Array Value := #[.int .i64 0, .int .i64 0, .int .i64 0, .int .i64 0, .int .i64 0, .int .i64 0]
set_option maxHeartbeats 4000000 in
theorem may_in (k o e : Int) (A : Option Addr) (n c : Nat) (w : World) (h1 : 1 ≤ k) (h2 : k ≤ 5) :
    Calls Try.prog 11 #[.agg #[.int .i64 k, .int .i64 o, .int .i64 e, .slice A n c]] w fun x w' => x = .returned (.bool (mayP k o e n)) ∧ Grew w w' := by
  have hmay : mayP k o e n = (okI o (rl k 0) (rl k 1) && (okI e (rl k 2) (rl k 3) && (okI n (rl k 4) (rl k 5) && (decide (e = 0) || decide (n = 0))))) := by
    unfold mayP
    rw [decide_eq_true h1, decide_eq_true h2]
    rfl
  have HIX := Lib.hid (fun W => idx60 k h1 h2 W)
  rw [row_is k] at HIX
  rw [hmay]
  have d1 : decide (k < 1) = false := decide_eq_false (by omega)
  have d2 : decide (5 < k) = false := decide_eq_false (by omega)
  generalize rl k 0 = l0 at *
  generalize rl k 1 = m0 at *
  generalize rl k 2 = l1 at *
  generalize rl k 3 = m1 at *
  generalize rl k 4 = l2 at *
  generalize rl k 5 = m2 at *
  obtain ⟨Bv, hBv⟩ : ∃ Bv, (okI o l0 m0 && (okI e l1 m1 && (okI n l2 m2 && (decide (e = 0) || decide (n = 0))))) = Bv := ⟨_, rfl⟩
  rw [hBv]
  have HB := Lib.hid hBv
  clear hmay h1 h2 hBv
  obtain ⟨W0, hW0⟩ : ∃ W0, (w.alloc (.cells #[.int .i64 k, .int .i64 o, .int .i64 e, .slice A n c] 25)).alloc (.cells #[.int .i64 o, .int .i64 e, .int .i64 n] 56) = W0 := ⟨_, rfl⟩
  have G0 : Hid (Grew w W0) := Lib.hid (by rw [← hW0]; unfold Grew; go_grown)
  have X0 : Hid (W0.heap[w.heap.size]? = some (.cells #[.int .i64 k, .int .i64 o, .int .i64 e, .slice A n c] 25 (0, 0))) := Lib.hid (by
    rw [← hW0, heap_alloc_old _ _ (by simp)]
    exact heap_alloc_new w _)
  have Y0 : Hid (W0.heap[w.heap.size + 1]? = some (.cells #[.int .i64 o, .int .i64 e, .int .i64 n] 56 (0, 0))) := Lib.hid (by
    rw [← hW0]
    have := heap_alloc_new (w.alloc (.cells #[.int .i64 k, .int .i64 o, .int .i64 e, .slice A n c] 25)) (.cells #[.int .i64 o, .int .i64 e, .int .i64 n] 56)
    simpa using this)
  have HW0 := Lib.hid hW0
  clear hW0
  go_enter Try.func11, Try.ntmps11
  go_wp2_with fail
  rw [HW0.out]
  clear d1 d2
  refine Marks.wp_region_text (J4 W0 Z6 #[.int .i64 l0, .int .i64 m0, .int .i64 l1, .int .i64 m1, .int .i64 l2, .int .i64 m2]) (fun _ _ => True) (by kernel_rfl) (by kernel_rfl) (J4.start _ _ _) ?_
  apply Marks.Lex.exact [] (.agg K36.toArray) (by kernel_rfl)
  · intro m u W hm hcl hJ _
    unfold Marks.one
    go_simp
    refine (kinds_any _).mono ?_
    rintro e w2 ⟨rfl, hg⟩
    exact ⟨_, rfl, trivial, hJ.move hg 0 _ (by omega) (by omega), rfl⟩
  simp only [Act.put, List.setIfInBounds_toArray, List.set_cons_zero, List.set_cons_succ, Nat.zero_add]
  apply Marks.Lex.exact [] _ (by kernel_rfl)
  · intro m u W hm hcl hJ _
    unfold Marks.one
    go_simp
    exact ⟨trivial, hJ.keep 1 _ (by omega) (by omega), rfl⟩
  simp only [Act.put, List.setIfInBounds_toArray, List.set_cons_zero, List.set_cons_succ, Nat.reduceAdd]
  apply Marks.Lex.exact [] _ (by kernel_rfl)
  · intro m u W hm hcl hJ _
    obtain ⟨x0, x1, x2, x3⟩ := four_c ((hJ.a.block _ (Array.getElem?_eq_some_iff.1 X0.out).1).trans X0.out)
    unfold Marks.one
    go_simp
    exact ⟨trivial, hJ.keep 2 _ (by omega) (by omega), rfl⟩
  simp only [Act.put, List.setIfInBounds_toArray, List.set_cons_zero, List.set_cons_succ, Nat.reduceAdd]
  apply Marks.Lex.exact [] (.agg #[.int .i64 l0, .int .i64 m0, .int .i64 l1, .int .i64 m1, .int .i64 l2, .int .i64 m2]) (by kernel_rfl)
  · intro m u W hm hcl hJ _
    exact one_index (by rfl) 60 (.tmp 22) (.tmp 24) (by with_reducible rfl) _ _ _ (by rfl) (by rfl) (HIX.out W) ⟨trivial, hJ.keep 3 _ (by omega) (by omega), rfl⟩
    
  simp only [Act.put, List.setIfInBounds_toArray, List.set_cons_zero, List.set_cons_succ, Nat.reduceAdd]
  apply Marks.Lex.know [] (fun _ _ => True) (by kernel_rfl) (fun _ _ _ _ _ => trivial)
  · intro m u W hm hcl hJ _
    unfold Marks.one
    go_simp
    exact ⟨trivial, hJ.put4 hm, trivial⟩
  simp only [Act.put, List.setIfInBounds_toArray, List.set_cons_zero, List.set_cons_succ, Nat.reduceAdd]
  apply Marks.Lex.exact [] undef (by kernel_rfl)
  · intro m u W hm hcl hJ _
    have h4 : m 4 = true := hcl 4 (by decide)
    obtain ⟨g, hu, hg0, hz, _⟩ := hJ.c h4
    obtain ⟨W', hst, hr, hgb⟩ := store_all size59 (hz hm) rfl [.int .i64 l0, .int .i64 m0, .int .i64 l1, .int .i64 m1, .int .i64 l2, .int .i64 m2] rfl (by simp [Value.oneCell'])
    exact one_store (by rfl) 59 (.tmp 4) (.tmp 25) (by with_reducible rfl) _ _ hu (by rfl) W' hst ⟨trivial, hJ.put5 h4 hu hg0 hr hgb _, rfl⟩
    
  simp only [Act.put, Nat.reduceAdd]
  refine Marks.Lex.done fun m u W hm hJ hx => ?_
  obtain ⟨g, hu, hg0, hzz, hrow⟩ := hJ.c (hm 4 (by decide))
  have HR := Lib.hid (hrow (hm 5 (by decide)))
  have HG := Lib.hid (G0.out.trans hJ.a)
  obtain ⟨x0, x1, x2, x3⟩ := four_c ((hJ.a.block _ (Array.getElem?_eq_some_iff.1 X0.out).1).trans X0.out)
  obtain ⟨y0, y1, y2⟩ := three_c ((hJ.a.block _ (Array.getElem?_eq_some_iff.1 Y0.out).1).trans Y0.out)
  obtain ⟨z0, z1, z2, z3, z4, z5⟩ := six_c HR.out
  rw [hu]
  clear hrow hg0 hu hJ hm X0 Y0 HR G0 HIX hzz hx HW0
  go_wp2_with fail

  go_loopg [5] 3 (fun g s5 wx => ∃ p : Nat, p + g = 3 ∧ s5 = .int .i64 (p : Int) ∧ Hid (Grew W wx) ∧ Hid ((1 ≤ p → okI o l0 m0 = true) ∧ (2 ≤ p → okI e l1 m1 = true) ∧ (3 ≤ p → okI n l2 m2 = true)))
  case atStart => exact ⟨0, by omega, rfl, Lib.hid (Grew.refl _), Lib.hid ⟨fun h => by omega, fun h => by omega, fun h => by omega⟩⟩
  case round =>
    obtain ⟨p, hpg, rfl, HGX, HP⟩ := hrel
    cases gk with
    | zero =>
      have hp : p = 3 := by omega
      subst hp
      have e1 := HP.out.1 (by omega)
      have e2 := HP.out.2.1 (by omega)
      have e3 := HP.out.2.2 (by omega)
      have HB2 : Hid ((decide (e = 0) || decide (n = 0)) = Bv) := Lib.hid (by rw [← HB.out, e1, e2, e3]; rfl)
      have x2b := cellB HGX.out x2
      have x3b := cellB HGX.out x3
      have HGW := Lib.hid (HG.out.trans HGX.out)
      clear x0 x1 x2 x3 HP hpg e1 e2 e3 y0 y1 y2 z0 z1 z2 z3 z4 z5 HB
      by_cases he : e = 0
      · have d1 : (e == 0) = true := by simp [he]
        have hb : Bv = true := by rw [← HB2.out, decide_eq_true he]; rfl
        subst hb
        clear he
        go_wp2
        go_returns
        exact ⟨rfl, HGW.out⟩
      · have d1 : (e == 0) = false := by simp [he]
        have hb : Bv = decide (n = 0) := by rw [← HB2.out, decide_eq_false he]; rfl
        by_cases hn : n = 0
        · have hb2 : Bv = true := by rw [hb]; exact decide_eq_true hn
          have d2 : ((n : Int) == 0) = true := by simp [hn]
          subst hb2
          clear he hb hn
          go_wp2
          go_returns
          exact ⟨rfl, HGW.out⟩
        · have hb2 : Bv = false := by rw [hb]; exact decide_eq_false hn
          have d2 : ((n : Int) == 0) = false := by simp [hn]
          subst hb2
          clear he hb hn
          go_wp2
          go_returns
          exact ⟨rfl, HGW.out⟩
    | succ g' =>
      rcases (show p = 0 ∨ p = 1 ∨ p = 2 by omega) with rfl | rfl | rfl
      · by_cases h1 : o < l0
        · have d1 : decide (o < l0) = true := decide_eq_true h1
          have hb : Bv = false := by rw [← HB.out, show okI o l0 m0 = false from by unfold okI; rw [decide_eq_false (by omega)]; rfl]; simp
          subst hb
          clear h1 HP hpg
          go_wp2_with fail
          refine Facts.wp_region_text (by kernel_rfl) (by kernel_rfl) ?_
          repeat
            apply Facts.Lex.exact [] _ (by kernel_rfl)
            · intro u W' hC _
              have q0 := cellB (HGX.out.trans hC) y0
              have q1 := cellB (HGX.out.trans hC) z0
              have q2 := cellB (HGX.out.trans hC) z1
              unfold Facts.one
              go_simp
              first | exact ⟨Grew.refl _, rfl⟩ | rfl
            simp only [Act.put, List.setIfInBounds_toArray, List.set_cons_zero, List.set_cons_succ, Nat.zero_add, Nat.reduceAdd]
          refine Facts.Lex.done fun u W' hg hx => ?_
          have HG2 := Lib.hid (HG.out.trans (HGX.out.trans hg))
          clear hg hx
          go_wp2
          go_returns
          exact ⟨rfl, HG2.out⟩
        · have d1 : decide (o < l0) = false := decide_eq_false h1
          by_cases h2 : m0 < o
          · have d2 : decide (m0 < o) = true := decide_eq_true h2
            have hb : Bv = false := by rw [← HB.out, show okI o l0 m0 = false from by unfold okI; rw [decide_eq_false (show ¬ o ≤ m0 by omega)]; simp]; simp
            subst hb
            clear h1 h2 HP hpg
            go_wp2_with fail
            refine Facts.wp_region_text (by kernel_rfl) (by kernel_rfl) ?_
            repeat
              apply Facts.Lex.exact [] _ (by kernel_rfl)
              · intro u W' hC _
                have q0 := cellB (HGX.out.trans hC) y0
                have q1 := cellB (HGX.out.trans hC) z0
                have q2 := cellB (HGX.out.trans hC) z1
                unfold Facts.one
                go_simp
                first | exact ⟨Grew.refl _, rfl⟩ | rfl
              simp only [Act.put, List.setIfInBounds_toArray, List.set_cons_zero, List.set_cons_succ, Nat.zero_add, Nat.reduceAdd]
            refine Facts.Lex.done fun u W' hg hx => ?_
            have HG2 := Lib.hid (HG.out.trans (HGX.out.trans hg))
            clear hg hx
            go_wp2
            go_returns
            exact ⟨rfl, HG2.out⟩
          · have d2 : decide (m0 < o) = false := decide_eq_false h2
            have HOK : Hid (okI o l0 m0 = true) := Lib.hid (by unfold okI; rw [decide_eq_true (show l0 ≤ o by omega), decide_eq_true (show o ≤ m0 by omega)]; rfl)
            have HPG := Lib.hid hpg
            clear h1 h2 hpg
            go_wp2_with fail
            refine Facts.wp_region_text (by kernel_rfl) (by kernel_rfl) ?_
            repeat
              apply Facts.Lex.exact [] _ (by kernel_rfl)
              · intro u W' hC _
                have q0 := cellB (HGX.out.trans hC) y0
                have q1 := cellB (HGX.out.trans hC) z0
                have q2 := cellB (HGX.out.trans hC) z1
                unfold Facts.one
                go_simp
                first | exact ⟨Grew.refl _, rfl⟩ | rfl
              simp only [Act.put, List.setIfInBounds_toArray, List.set_cons_zero, List.set_cons_succ, Nat.zero_add, Nat.reduceAdd]
            refine Facts.Lex.done fun u W' hg hx => ?_
            have HG2 := Lib.hid (HGX.out.trans hg)
            clear hg hx HGX
            go_wp2
            go_roundg g'
            case measure => have := HPG.out; omega
            case rel => exact ⟨1, by have := HPG.out; omega, by first | rfl | simp, HG2, Lib.hid (by refine ⟨?_, ?_, ?_⟩ <;> first | exact fun _ => HOK.out | exact fun h => by omega | exact fun _ => HP.out.1 (by omega) | exact fun _ => HP.out.2.1 (by omega))⟩
      · have e1 := HP.out.1 (by omega)
        by_cases h1 : e < l1
        · have d1 : decide (e < l1) = true := decide_eq_true h1
          have hb : Bv = false := by rw [← HB.out, e1, show okI e l1 m1 = false from by unfold okI; rw [decide_eq_false (by omega)]; rfl]; simp
          subst hb
          clear h1 HP hpg e1
          go_wp2_with fail
          refine Facts.wp_region_text (by kernel_rfl) (by kernel_rfl) ?_
          repeat
            apply Facts.Lex.exact [] _ (by kernel_rfl)
            · intro u W' hC _
              have q0 := cellB (HGX.out.trans hC) y1
              have q1 := cellB (HGX.out.trans hC) z2
              have q2 := cellB (HGX.out.trans hC) z3
              unfold Facts.one
              go_simp
              first | exact ⟨Grew.refl _, rfl⟩ | rfl
            simp only [Act.put, List.setIfInBounds_toArray, List.set_cons_zero, List.set_cons_succ, Nat.zero_add, Nat.reduceAdd]
          refine Facts.Lex.done fun u W' hg hx => ?_
          have HG2 := Lib.hid (HG.out.trans (HGX.out.trans hg))
          clear hg hx
          go_wp2
          go_returns
          exact ⟨rfl, HG2.out⟩
        · have d1 : decide (e < l1) = false := decide_eq_false h1
          by_cases h2 : m1 < e
          · have d2 : decide (m1 < e) = true := decide_eq_true h2
            have hb : Bv = false := by rw [← HB.out, e1, show okI e l1 m1 = false from by unfold okI; rw [decide_eq_false (show ¬ e ≤ m1 by omega)]; simp]; simp
            subst hb
            clear h1 h2 HP hpg e1
            go_wp2_with fail
            refine Facts.wp_region_text (by kernel_rfl) (by kernel_rfl) ?_
            repeat
              apply Facts.Lex.exact [] _ (by kernel_rfl)
              · intro u W' hC _
                have q0 := cellB (HGX.out.trans hC) y1
                have q1 := cellB (HGX.out.trans hC) z2
                have q2 := cellB (HGX.out.trans hC) z3
                unfold Facts.one
                go_simp
                first | exact ⟨Grew.refl _, rfl⟩ | rfl
              simp only [Act.put, List.setIfInBounds_toArray, List.set_cons_zero, List.set_cons_succ, Nat.zero_add, Nat.reduceAdd]
            refine Facts.Lex.done fun u W' hg hx => ?_
            have HG2 := Lib.hid (HG.out.trans (HGX.out.trans hg))
            clear hg hx
            go_wp2
            go_returns
            exact ⟨rfl, HG2.out⟩
          · have d2 : decide (m1 < e) = false := decide_eq_false h2
            have HOK : Hid (okI e l1 m1 = true) := Lib.hid (by unfold okI; rw [decide_eq_true (show l1 ≤ e by omega), decide_eq_true (show e ≤ m1 by omega)]; rfl)
            have HPG := Lib.hid hpg
            clear h1 h2 hpg e1
            go_wp2_with fail
            refine Facts.wp_region_text (by kernel_rfl) (by kernel_rfl) ?_
            repeat
              apply Facts.Lex.exact [] _ (by kernel_rfl)
              · intro u W' hC _
                have q0 := cellB (HGX.out.trans hC) y1
                have q1 := cellB (HGX.out.trans hC) z2
                have q2 := cellB (HGX.out.trans hC) z3
                unfold Facts.one
                go_simp
                first | exact ⟨Grew.refl _, rfl⟩ | rfl
              simp only [Act.put, List.setIfInBounds_toArray, List.set_cons_zero, List.set_cons_succ, Nat.zero_add, Nat.reduceAdd]
            refine Facts.Lex.done fun u W' hg hx => ?_
            have HG2 := Lib.hid (HGX.out.trans hg)
            clear hg hx HGX
            go_wp2
            go_roundg g'
            case measure => have := HPG.out; omega
            case rel => exact ⟨2, by have := HPG.out; omega, by first | rfl | simp, HG2, Lib.hid (by refine ⟨?_, ?_, ?_⟩ <;> first | exact fun _ => HOK.out | exact fun h => by omega | exact fun _ => HP.out.1 (by omega) | exact fun _ => HP.out.2.1 (by omega))⟩
      · have e1 := HP.out.1 (by omega)
        have e2 := HP.out.2.1 (by omega)
        by_cases h1 : (n : Int) < l2
        · have d1 : decide ((n : Int) < l2) = true := decide_eq_true h1
          have hb : Bv = false := by rw [← HB.out, e1, e2, show okI (n : Int) l2 m2 = false from by unfold okI; rw [decide_eq_false (by omega)]; rfl]; simp
          subst hb
          clear h1 HP hpg e1 e2
          go_wp2_with fail
          refine Facts.wp_region_text (by kernel_rfl) (by kernel_rfl) ?_
          repeat
            apply Facts.Lex.exact [] _ (by kernel_rfl)
            · intro u W' hC _
              have q0 := cellB (HGX.out.trans hC) y2
              have q1 := cellB (HGX.out.trans hC) z4
              have q2 := cellB (HGX.out.trans hC) z5
              unfold Facts.one
              go_simp
              first | exact ⟨Grew.refl _, rfl⟩ | rfl
            simp only [Act.put, List.setIfInBounds_toArray, List.set_cons_zero, List.set_cons_succ, Nat.zero_add, Nat.reduceAdd]
          refine Facts.Lex.done fun u W' hg hx => ?_
          have HG2 := Lib.hid (HG.out.trans (HGX.out.trans hg))
          clear hg hx
          go_wp2
          go_returns
          exact ⟨rfl, HG2.out⟩
        · have d1 : decide ((n : Int) < l2) = false := decide_eq_false h1
          by_cases h2 : m2 < (n : Int)
          · have d2 : decide (m2 < (n : Int)) = true := decide_eq_true h2
            have hb : Bv = false := by rw [← HB.out, e1, e2, show okI (n : Int) l2 m2 = false from by unfold okI; rw [decide_eq_false (show ¬ (n : Int) ≤ m2 by omega)]; simp]; simp
            subst hb
            clear h1 h2 HP hpg e1 e2
            go_wp2_with fail
            refine Facts.wp_region_text (by kernel_rfl) (by kernel_rfl) ?_
            repeat
              apply Facts.Lex.exact [] _ (by kernel_rfl)
              · intro u W' hC _
                have q0 := cellB (HGX.out.trans hC) y2
                have q1 := cellB (HGX.out.trans hC) z4
                have q2 := cellB (HGX.out.trans hC) z5
                unfold Facts.one
                go_simp
                first | exact ⟨Grew.refl _, rfl⟩ | rfl
              simp only [Act.put, List.setIfInBounds_toArray, List.set_cons_zero, List.set_cons_succ, Nat.zero_add, Nat.reduceAdd]
            refine Facts.Lex.done fun u W' hg hx => ?_
            have HG2 := Lib.hid (HG.out.trans (HGX.out.trans hg))
            clear hg hx
            go_wp2
            go_returns
            exact ⟨rfl, HG2.out⟩
          · have d2 : decide (m2 < (n : Int)) = false := decide_eq_false h2
            have HOK : Hid (okI (n : Int) l2 m2 = true) := Lib.hid (by unfold okI; rw [decide_eq_true (show l2 ≤ (n : Int) by omega), decide_eq_true (show (n : Int) ≤ m2 by omega)]; rfl)
            have HPG := Lib.hid hpg
            clear h1 h2 hpg e1 e2
            go_wp2_with fail
            refine Facts.wp_region_text (by kernel_rfl) (by kernel_rfl) ?_
            repeat
              apply Facts.Lex.exact [] _ (by kernel_rfl)
              · intro u W' hC _
                have q0 := cellB (HGX.out.trans hC) y2
                have q1 := cellB (HGX.out.trans hC) z4
                have q2 := cellB (HGX.out.trans hC) z5
                unfold Facts.one
                go_simp
                first | exact ⟨Grew.refl _, rfl⟩ | rfl
              simp only [Act.put, List.setIfInBounds_toArray, List.set_cons_zero, List.set_cons_succ, Nat.zero_add, Nat.reduceAdd]
            refine Facts.Lex.done fun u W' hg hx => ?_
            have HG2 := Lib.hid (HGX.out.trans hg)
            clear hg hx HGX
            go_wp2
            go_roundg g'
            case measure => have := HPG.out; omega
            case rel => exact ⟨3, by have := HPG.out; omega, by first | rfl | simp, HG2, Lib.hid (by refine ⟨?_, ?_, ?_⟩ <;> first | exact fun _ => HOK.out | exact fun h => by omega | exact fun _ => HP.out.1 (by omega) | exact fun _ => HP.out.2.1 (by omega))⟩
theorem may_out (k o e : Int) (A : Option Addr) (n c : Nat) (w : World) (h : ¬ (1 ≤ k ∧ k ≤ 5)) :
    Calls Try.prog 11 #[.agg #[.int .i64 k, .int .i64 o, .int .i64 e, .slice A n c]] w fun x w' => x = .returned (.bool (mayP k o e n)) ∧ Grew w w' := by
  have hmay : mayP k o e n = false := by
    unfold mayP
    by_cases h1 : 1 ≤ k
    · rw [decide_eq_false (show ¬ k ≤ 5 by omega)]
      simp
    · rw [decide_eq_false h1]
      rfl
  rw [hmay]
  have G0 : Hid (Grew w (w.alloc (.cells #[.int .i64 k, .int .i64 o, .int .i64 e, .slice A n c] 25))) := Lib.hid (by unfold Grew; go_grown)
  by_cases h1 : 1 ≤ k
  · have d1 : decide (k < 1) = false := decide_eq_false (by omega)
    have d2 : decide (5 < k) = true := decide_eq_true (by omega)
    clear h hmay h1
    go_enter Try.func11, Try.ntmps11
    go_wp2
    go_returns
    exact ⟨rfl, G0.out⟩
  · have d1 : decide (k < 1) = true := decide_eq_true (by omega)
    clear h hmay h1
    go_enter Try.func11, Try.ntmps11
    go_wp2
    go_returns
    exact ⟨rfl, G0.out⟩
theorem may_any (k o e : Int) (A : Option Addr) (n c : Nat) (w : World) :
    Calls Try.prog 11 #[.agg #[.int .i64 k, .int .i64 o, .int .i64 e, .slice A n c]] w fun x w' => x = .returned (.bool (mayP k o e n)) ∧ Grew w w' := by
  by_cases h : 1 ≤ k ∧ k ≤ 5
  · exact may_in k o e A n c w h.1 h.2
  · exact may_out k o e A n c w h
end Go.Proofs.Ythgigkklefaeeaa.RC
