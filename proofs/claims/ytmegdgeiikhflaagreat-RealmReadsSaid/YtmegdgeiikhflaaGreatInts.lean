/-
  Rows of numbers, as they are read; whether two are the same.
  Conditions: a row's size.
-/
import Derived.Test.YtmegdgeiikhflaaGreatBytes
import Derived.Handy
import Derived.Deep.LoopGhost
import Derived.WalkMore
import Derived.BigFrame
import Derived.Lib.SliceRun
import Derived.Test.YtmegdgeiikhflaaGreatProg
namespace Go.Proofs.YtmegdgeiikhflaaGreat.Ints
set_option maxRecDepth 100000
set_option maxRecDepth 100000
open Go Go.RowKit Go.Lib Go.Proofs.YtmegdgeiikhflaaGreat Go.Proofs.YtmegdgeiikhflaaGreat.Facts Go.Proofs.YtmegdgeiikhflaaGreat.Bytes

def iv (l : List Int) : List Value := l.map (Value.int .i64)
theorem iv_length (l : List Int) : (iv l).length = l.length := by simp [iv]
theorem iv_append (l m : List Int) : iv (l ++ m) = iv l ++ iv m := by simp [iv]
theorem iv_one (l : List Int) : ∀ u ∈ iv l, u.oneCell' = true := by
  intro u hu
  obtain ⟨b, _, rfl⟩ := List.mem_map.1 hu
  rfl
theorem iv_get (l : List Int) (j : Nat) (h : j < l.length) : (iv l)[j]? = some (.int .i64 (l[j]?.getD 0)) := by
  simp [iv, h]

/-- The slice v reads as the numbers l. -/
def Is (w : World) (v : Value) (l : List Int) : Prop :=
  ∃ (A : Option Addr) (c : Nat), v = .slice A l.length c ∧ l.length ≤ c ∧ c ≤ maxLen ∧ (A = none → c = 0) ∧
    ∀ ad, A = some ad → ∀ j u, (iv l)[j]? = some u → w.cell? (ad.add j) = some u
theorem cellG {w w' : World} {a : Addr} {v : Value} (hg : Grew w w') (h : w.cell? a = some v) : w'.cell? a = some v :=
  (hg.cell (World.block_lt_of_cell? _ _ h)).trans h
theorem Is.grew {w w' : World} {v : Value} {l : List Int} (h : Is w v l) (hg : Grew w w') : Is w' v l := by
  obtain ⟨A, c, e, h1, h2, h3, h4⟩ := h
  exact ⟨A, c, e, h1, h2, h3, fun ad ha j u hu => cellG hg (h4 ad ha j u hu)⟩
theorem Is.of_own {w : World} {v : Value} {l : List Int} {base n : Nat} (h : w.ownsRow base 3 1 v n (iv l)) (hn : n = l.length) : Is w v l := by
  subst hn
  rcases h.2 with ⟨rfl, h0⟩ | ⟨g, cap, cur, rfl, hb, hg, hnc, hcm, _, _⟩
  · have : l = [] := List.eq_nil_of_length_eq_zero h0
    subst this
    exact ⟨none, 0, rfl, Nat.le_refl _, Nat.zero_le _, fun _ => rfl, fun ad ha => by cases ha⟩
  · exact ⟨_, cap, rfl, hnc, hcm, (fun h => by cases h), fun ad ha => by cases ha; exact h.cells (g := g) rfl⟩
theorem Is.cell {w : World} {v : Value} {l : List Int} (h : Is w v l) {k : Nat} (hk : k < l.length) : ∃ ad c, v = .slice (some ad) l.length c ∧ l.length ≤ c ∧ w.cell? (ad.add k) = some (.int .i64 (l[k]?.getD 0)) := by
  obtain ⟨A, c, rfl, h1, h2, h3, h4⟩ := h
  cases A with
  | none => have := h3 rfl; omega
  | some ad => exact ⟨ad, c, rfl, h1, h4 ad rfl k _ (iv_get l k hk)⟩

theorem info3 : (Tryz.prog.info? 3).map (fun i => (i.zero, i.size, i.bytes)) = some (some (.int .i64 0), 1, 8) := by kernel_rfl

theorem wpList_app_want {P : Program} {w : World} {ops : Array Oper} {rest : List Oper} {o : Oper} {ac : Act} {Q : Exit → Act → World → Prop} (s x : Operand) (t : TypeId)
    (ho : o.op = .call { callee := .builtin .append, args := #[s, x], argTypes := #[t, t] }) (hgd : Region.wanted o (yielded ops ac.tmps) = true) (vs vx : Value) (hs : ac.eval s = vs) (hx : ac.eval x = vx) (v' : Value) (w' : World)
    (hr : (Builtin.append_ #[t, t] o.type #[vs, vx]).run P w = .ok v' w') (hK : wpList P ops Q rest (ac.put o.dst v') w') : wpList P ops Q (o :: rest) ac w := by
  refine BigFrame.wpList_want hgd fun _ hK' => ?_
  unfold Oper.wp execOp
  simp only [ho, resolve, invoke, builtin, Sem.run_bind, Sem.run_pure, Result.andThen_ok, List.map_toArray, List.map_cons, List.map_nil, hs, hx, hr]
  exact hK' _ _ hK

theorem grown_below {W w' : World} {base : Nat} {v : Value} {n : Nat} {xs : List Value} (hown : W.ownsRow base 3 1 v n xs) (h6 : W.grownBy w' v.ownBlock) (hb : base ≤ W.heap.size) : Below base W w' :=
  below_of_grown W h6 hb fun k hk => by
    rcases hown.2 with ⟨rfl, _⟩ | ⟨g, cap, cur, rfl, hg, _⟩
    · simp [Value.ownBlock] at hk
    · simp [Value.ownBlock] at hk
      omega

theorem app_row (W : World) (base : Nat) (v : Value) (l m : List Int) (ad : Addr) (c : Nat) (hown : W.ownsRow base 3 1 v l.length (iv l)) (hm : ∀ j u, (iv m)[j]? = some u → W.cell? (ad.add j) = some u) (hl : (l.length + m.length) * 8 ≤ 140737488355328) (hb : base ≤ W.heap.size) :
    ∃ v' w', (Builtin.append_ #[23, 23] 23 #[v, .slice (some ad) m.length c]).run Tryz.prog W = .ok v' w' ∧ w'.ownsRow base 3 1 v' (l ++ m).length (iv (l ++ m)) ∧ Below base W w' := by
  obtain ⟨i0, hi, hx⟩ := Option.map_eq_some_iff.1 info3
  simp only [Prod.mk.injEq] at hx
  obtain ⟨hz0, hz1, hz2⟩ := hx
  obtain ⟨v', w', hr, h5, h6, _⟩ := run_append_own (P := Tryz.prog) W base 23 23 3 i0 (.int .i64 0) 1 8 Tryz.underlying23 hi hz0 hz1 hz2 rfl Nat.one_pos v l.length (iv l) hown ad m.length c (iv m) (by rw [iv_length]; omega) hm (iv_one m) (by unfold maxLen; omega) (by omega) hb
  exact ⟨v', w', hr, by rw [List.length_append, iv_append]; exact h5, grown_below hown h6 hb⟩

theorem app_one (W : World) (base : Nat) (v : Value) (l : List Int) (x : Int) (hown : W.ownsRow base 3 1 v l.length (iv l)) (hl : (l.length + 1) * 8 ≤ 140737488355328) (hb : base ≤ W.heap.size) :
    ∃ v' w', (Builtin.append_ #[23, 23] 23 #[v, .slice (some ⟨W.heap.size, 0, none⟩) 1 1]).run Tryz.prog (W.alloc (.cells #[.int .i64 x] 3)) = .ok v' w' ∧ w'.ownsRow base 3 1 v' (l ++ [x]).length (iv (l ++ [x])) ∧ Below base W w' := by
  have ha : Below base W (W.alloc (.cells #[.int .i64 x] 3)) := (Below.refl _ _).alloc hb _
  obtain ⟨v', w', hr, h5, h6⟩ := app_row (W.alloc (.cells #[.int .i64 x] 3)) base v l [x] ⟨W.heap.size, 0, none⟩ 1 (hown.alloc _) (fun j u hu => by
    have hj : j = 0 := by
      have := (List.getElem?_eq_some_iff.1 hu).1
      simp [iv] at this
      exact this
    subst hj
    simp only [iv, List.map_cons, List.map_nil, List.getElem?_cons_zero, Option.some.injEq] at hu
    subst hu
    exact World.cell?_alloc_mark _ _ _ _ _) (by simpa using hl) (Nat.le_trans hb (by simp))
  exact ⟨v', w', hr, h5, ha.trans h6⟩

theorem own_nil (w : World) (base : Nat) : w.ownsRow base 3 1 (.slice none 0 0) 0 (iv []) := World.ownsRow_nil w base 3 1

/-- Are two rows the same? -/
theorem ints_any (w : World) (v v2 : Value) (l m : List Int) (h : Is w v l) (h2 : Is w v2 m) :
    Calls Tryz.prog 24 #[v, v2] w fun e w' => e = .returned (.bool (decide (l = m))) ∧ Grew w w' := by
  have HL := Lib.hid h
  have HM := Lib.hid h2
  obtain ⟨A, c, rfl, a1, a2, a3, a4⟩ := h
  obtain ⟨B, d, rfl, b1, b2, b3, b4⟩ := h2
  clear a4 b4 a3 b3
  unfold maxLen at a2 b2
  by_cases hlen : l.length = m.length
  · rw [← hlen]
    have HLEN := Lib.hid hlen
    have HEQ : Hid ((∀ j, j < l.length → l[j]?.getD 0 = m[j]?.getD 0) → l = m) := Lib.hid fun hh => by
      apply List.ext_getElem hlen
      intro j h1 h2
      have := hh j h1
      simpa [h1, h2] using this
    have HNE : Hid (∀ j, j < l.length → l[j]?.getD 0 ≠ m[j]?.getD 0 → decide (l = m) = false) := Lib.hid fun j hj hne => by
      rw [decide_eq_false_iff_not]
      intro e
      exact hne (by rw [e])
    clear hlen b1
    go_enter Tryz.func24, Tryz.ntmps24
    go_wp2
    go_loopg [5] l.length (fun g s5 wx => ∃ k : Nat, k + g = l.length ∧ s5 = .int .i64 k ∧ Hid (∀ j, j < k → l[j]?.getD 0 = m[j]?.getD 0) ∧ Grew w wx)
    case atStart => exact ⟨0, by omega, rfl, Lib.hid (fun j hj => absurd hj (by omega)), Grew.refl _⟩
    case round =>
      obtain ⟨k, hkg, rfl, HI, hbx⟩ := hrel
      cases gk with
      | zero =>
        have hkz : ¬ ((k : Int) < (l.length : Int)) := by omega
        have hres : decide (l = m) = true := by rw [decide_eq_true_iff]; exact HEQ.out fun j hj => HI.out j (by omega)
        have HRES := Lib.hid hres
        clear hres
        go_wp2
        go_returns
        refine ⟨?_, hbx⟩
        rw [HRES.out]
        rfl
      | succ g =>
        have hkz : (k : Int) < (l.length : Int) := by omega
        obtain ⟨ad, c', e, hcc, hcell⟩ := (HL.out.grew hbx).cell (k := k) (by omega)
        obtain ⟨ad2, c2', e2, hcc2, hcell2⟩ := (HM.out.grew hbx).cell (k := k) (by have := HLEN.out; omega)
        injection e with e1 _ e3
        subst e1 e3
        injection e2 with e1 _ e3
        subst e1 e3
        have HN : Hid (l[k]?.getD 0 = m[k]?.getD 0 → ∀ j, j < k + 1 → l[j]?.getD 0 = m[j]?.getD 0) := Lib.hid fun h j hj => by
          by_cases hjk : j = k
          · subst hjk; exact h
          · exact HI.out j (by omega)
        have HF := Lib.hid (HNE.out k (by omega))
        generalize l[k]?.getD 0 = x at hcell HN HF
        generalize m[k]?.getD 0 = y at hcell2 HN HF
        by_cases hxy : x = y
        · have HT := Lib.hid (HN.out hxy)
          subst hxy
          go_wp2
          refine Facts.wp_region_text (by kernel_rfl) (by kernel_rfl) ?_
          repeat
            apply Facts.Lex.exact [] _ (by kernel_rfl)
            · intro u W hC _
              have j0 := cellG hC hcell
              have j1 := cellG hC hcell2
              unfold Facts.one
              go_simp
              first | exact ⟨Grew.refl _, rfl⟩ | rfl
            simp only [Act.put, List.setIfInBounds_toArray, List.set_cons_zero, List.set_cons_succ, Nat.zero_add, Nat.reduceAdd]
          refine Facts.Lex.done fun u W2 hC hL => ?_
          have G2 := Lib.hid (hbx.trans hC)
          clear hC hL hcell hcell2 hbx
          go_wp2
          go_roundg g
          case measure => omega
          case rel => exact ⟨k + 1, by omega, by first | rfl | simp, HT, G2.out⟩
        · have HRES := Lib.hid (HF.out hxy)
          have hxy' : ¬ (x == y) = true := by simpa using hxy
          go_wp2
          refine Facts.wp_region_text (by kernel_rfl) (by kernel_rfl) ?_
          repeat
            apply Facts.Lex.exact [] _ (by kernel_rfl)
            · intro u W hC _
              have j0 := cellG hC hcell
              have j1 := cellG hC hcell2
              unfold Facts.one
              go_simp
              first | exact ⟨Grew.refl _, rfl⟩ | rfl
            simp only [Act.put, List.setIfInBounds_toArray, List.set_cons_zero, List.set_cons_succ, Nat.zero_add, Nat.reduceAdd]
          refine Facts.Lex.done fun u W2 hC hL => ?_
          have G2 := Lib.hid (hbx.trans hC)
          clear hC hL hcell hcell2 hbx
          go_wp2
          go_returns
          refine ⟨?_, G2.out⟩
          rw [HRES.out]
          rfl
  · have hlen' : ¬ (l.length : Int) = (m.length : Int) := by omega
    have hres : decide (l = m) = false := by rw [decide_eq_false_iff_not]; intro e; exact hlen (by rw [e])
    rw [hres]
    go_enter Tryz.func24, Tryz.ntmps24
    go_wp2
    go_returns
    exact ⟨rfl, Grew.refl _⟩
end Go.Proofs.YtmegdgeiikhflaaGreat.Ints
