/-
  The first place of a label; the first place where a test holds; whether it holds of all.
  Conditions: a test's own contract.
-/
import Derived.Test.YtmegdgeiikhflaaGreatRSmall
namespace Go.Proofs.YtmegdgeiikhflaaGreat.RFind
set_option maxRecDepth 100000
open Go Go.RowKit Go.Lib Go.Proofs.YtmegdgeiikhflaaGreat Go.Proofs.YtmegdgeiikhflaaGreat.Facts Go.Proofs.YtmegdgeiikhflaaGreat.Plain Go.Proofs.YtmegdgeiikhflaaGreat.RRows Go.Proofs.YtmegdgeiikhflaaGreat.LBox Go.Proofs.YtmegdgeiikhflaaGreat.RSmall

def fidx {α : Type} (l : List α) (p : α → Bool) : Int := match l.findIdx? p with | some k => (k : Int) | none => -1
theorem fidx_hit {α : Type} {l : List α} {p : α → Bool} {k : Nat} {x : α} (hk : l[k]? = some x) (hx : p x = true) (hj : ∀ j y, j < k → l[j]? = some y → p y = false) : fidx l p = k := by
  have h : l.findIdx? p = some k := by
    rw [List.findIdx?_eq_some_iff_getElem]
    have hl := (List.getElem?_eq_some_iff.1 hk).1
    refine ⟨hl, ?_, fun j hjk => ?_⟩
    · rw [(List.getElem?_eq_some_iff.1 hk).2]; exact hx
    · have := hj j _ hjk (List.getElem?_eq_getElem (by omega))
      simp [this]
  unfold fidx
  rw [h]
theorem fidx_miss {α : Type} {l : List α} {p : α → Bool} (hj : ∀ (j : Nat) (y : α), l[j]? = some y → p y = false) : fidx l p = -1 := by
  have h : l.findIdx? p = none := by
    rw [List.findIdx?_eq_none_iff]
    intro y hy
    obtain ⟨j, hj2⟩ := List.getElem?_of_mem hy
    exact hj j y hj2
  unfold fidx
  rw [h]

set_option maxRecDepth 100000 in
theorem indexL_any (v : Value) (l : List La) (a : La) (w : World) (h : Ls w v l) : Calls Tryz.prog 55 #[v, .agg #[.int .i64 a.lev, .int .u64 (a.set.toNat : Int)]] w fun e w' => e = .returned (.int .i64 (fidx l fun x => decide (a = x))) ∧ Grew w w' := by
  have g0 : Grew w (w.alloc (Obj.cells #[Value.int IntKind.i64 a.lev, Value.int IntKind.u64 (a.set.toNat : Int)] 31)) := by unfold Grew; go_grown
  have HL : Hid (Ls (w.alloc (Obj.cells #[Value.int IntKind.i64 a.lev, Value.int IntKind.u64 (a.set.toNat : Int)] 31)) v l) := Lib.hid (Rw.grew h g0)
  have G0 := Lib.hid g0
  have A0 : Hid ((w.alloc (Obj.cells #[Value.int IntKind.i64 a.lev, Value.int IntKind.u64 (a.set.toNat : Int)] 31)).heap[w.heap.size]? = some (.cells #[.int .i64 a.lev, .int .u64 (a.set.toNat : Int)] 31 (0, 0))) := Lib.hid (heap_alloc_new w _)
  obtain ⟨A, cp, rfl, hc1, hc2⟩ := h.slice
  clear h g0
  have HH := Lib.hid (fun k x => @fidx_hit La l (fun x => decide (a = x)) k x)
  have HM := Lib.hid (@fidx_miss La l (fun x => decide (a = x)))
  generalize fidx l (fun x => decide (a = x)) = res at *
  go_enter Tryz.func55, Tryz.ntmps55
  go_wp2
  go_loopg [8] l.length (fun g s8 wx => ∃ k : Nat, k + g = l.length ∧ s8 = .int .i64 k ∧ Hid (∀ j y, j < k → l[j]? = some y → decide (a = y) = false) ∧ Hid (Grew (w.alloc (Obj.cells #[Value.int IntKind.i64 a.lev, Value.int IntKind.u64 (a.set.toNat : Int)] 31)) wx))
  case atStart => exact ⟨0, by omega, rfl, Lib.hid (fun j y h => absurd h (by omega)), Lib.hid (Grew.refl _)⟩
  case round =>
    obtain ⟨k, hkg, rfl, HJ, HG⟩ := hrel
    cases gk with
    | zero =>
      have hkz : ¬ ((k : Int) < (l.length : Int)) := by omega
      have HR : Hid (res = -1) := Lib.hid (HM.out fun j y hy => HJ.out j y (by have := (List.getElem?_eq_some_iff.1 hy).1; omega) hy)
      go_wp2
      go_returns
      refine ⟨?_, G0.out.trans HG.out⟩
      rw [HR.out]
      try rfl
    | succ g =>
      have hkz : (k : Int) < (l.length : Int) := by omega
      have hkl : k < l.length := by omega
      have hx : l[k]? = some l[k] := List.getElem?_eq_getElem hkl
      obtain ⟨ad, c2, e, hc, c0, c1⟩ := Ls_at (HL.out.grew HG.out) hx
      injection e with e1 _ e3
      subst e1 e3
      obtain ⟨b0, b1, _, _⟩ := lab_cells (keepB A0.out HG.out)
      have HX := Lib.hid hx
      generalize l[k] = x at c0 c1 HX
      clear hx hkl
      by_cases ha : a = x
      · subst ha
        have HR : Hid (res = k) := Lib.hid (HH.out _ _ HX.out (by simp) HJ.out)
        clear HX
        go_wp2
        refine Facts.wp_region_text (by kernel_rfl) (by kernel_rfl) ?_
        repeat
          apply Facts.Lex.exact [] _ (by kernel_rfl)
          · intro u W hC _
            have j0 := cellB hC c0
            have j1 := cellB hC c1
            have j2 := cellB hC b0
            have j3 := cellB hC b1
            unfold Facts.one
            go_simp
            first | exact ⟨Grew.refl _, rfl⟩ | rfl
          simp only [Act.put, List.setIfInBounds_toArray, List.set_cons_zero, List.set_cons_succ, Nat.zero_add, Nat.reduceAdd]
        refine Facts.Lex.done fun u W2 hC hL => ?_
        have G2 := Lib.hid ((G0.out.trans HG.out).trans hC)
        clear hC hL c0 c1 b0 b1
        go_wp2
        go_returns
        refine ⟨?_, G2.out⟩
        rw [HR.out]
        try rfl
      · have HN : Hid (∀ j y, j < k + 1 → l[j]? = some y → decide (a = y) = false) := Lib.hid fun j y hj hy => by
          by_cases hjk : j = k
          · subst hjk
            rw [HX.out] at hy
            cases hy
            exact decide_eq_false ha
          · exact HJ.out j y (by omega) hy
        have hb : ((a.lev == x.lev) && ((a.set.toNat : Int) == (x.set.toNat : Int))) = false := by
          rw [Bool.and_eq_false_iff, beq_eq_false_iff_ne, beq_eq_false_iff_ne]
          by_cases h1 : a.lev = x.lev
          · refine .inr fun h2 => ha ?_
            have h3 : a.set = x.set := BitVec.eq_of_toNat_eq (by omega)
            cases a
            cases x
            simp only at h1 h3
            rw [h1, h3]
          · exact .inl h1
        have HBB := Lib.hid hb
        clear HX ha
        go_wp2
        refine Facts.wp_region_text (by kernel_rfl) (by kernel_rfl) ?_
        iterate 5
          apply Facts.Lex.exact [] _ (by kernel_rfl)
          · intro u W hC _
            have j0 := cellB hC c0
            have j1 := cellB hC c1
            have j2 := cellB hC b0
            have j3 := cellB hC b1
            unfold Facts.one
            go_simp
            first | exact ⟨Grew.refl _, rfl⟩ | rfl
          simp only [Act.put, List.setIfInBounds_toArray, List.set_cons_zero, List.set_cons_succ, Nat.zero_add, Nat.reduceAdd]
        apply Facts.Lex.exact [] (.bool false) (by kernel_rfl)
        · intro u W hC _
          unfold Facts.one
          go_simp
          have hbb := HBB.out
          rw [Bool.and_eq_false_iff, beq_eq_false_iff_ne, beq_eq_false_iff_ne] at hbb
          by_cases h1 : a.lev = x.lev
          · rw [if_pos h1, if_neg (hbb.resolve_left fun h => h h1)]
            exact ⟨Grew.refl _, rfl⟩
          · rw [if_neg h1]
            exact ⟨Grew.refl _, rfl⟩
        simp only [Act.put, List.setIfInBounds_toArray, List.set_cons_zero, List.set_cons_succ, Nat.reduceAdd]
        refine Facts.Lex.done fun u W2 hC hL => ?_
        have G2 := Lib.hid (HG.out.trans hC)
        clear hC hL c0 c1 b0 b1 hb
        have hkw : wrap64 ((k : Int) + 1) = (k : Int) + 1 := by
          unfold maxLen at hc2
          unfold wrap64
          omega
        go_wp2
        go_roundg g
        case measure => omega
        case rel => exact ⟨k + 1, by omega, by first | rfl | simp [hkw] | simp, HN, G2⟩

set_option maxRecDepth 100000 in
theorem placeL_any (v : Value) (l : List La) (a : La) (w : World) (h : Ls w v l) : Calls Tryz.prog 63 #[v, .agg #[.int .i64 a.lev, .int .u64 (a.set.toNat : Int)]] w fun e w' => e = .returned (.int .i64 (fidx l fun x => decide (x = a))) ∧ Grew w w' := by
  have g0 : Grew w (w.alloc (Obj.cells #[Value.int IntKind.i64 a.lev, Value.int IntKind.u64 (a.set.toNat : Int)] 31)) := by unfold Grew; go_grown
  have HL : Hid (Ls (w.alloc (Obj.cells #[Value.int IntKind.i64 a.lev, Value.int IntKind.u64 (a.set.toNat : Int)] 31)) v l) := Lib.hid (Rw.grew h g0)
  have G0 := Lib.hid g0
  have A0 : Hid ((w.alloc (Obj.cells #[Value.int IntKind.i64 a.lev, Value.int IntKind.u64 (a.set.toNat : Int)] 31)).heap[w.heap.size]? = some (.cells #[.int .i64 a.lev, .int .u64 (a.set.toNat : Int)] 31 (0, 0))) := Lib.hid (heap_alloc_new w _)
  obtain ⟨A, cp, rfl, hc1, hc2⟩ := h.slice
  clear h g0
  have HH := Lib.hid (fun k x => @fidx_hit La l (fun x => decide (x = a)) k x)
  have HM := Lib.hid (@fidx_miss La l (fun x => decide (x = a)))
  generalize fidx l (fun x => decide (x = a)) = res at *
  go_enter Tryz.func63, Tryz.ntmps63
  go_wp2
  go_loopg [5] l.length (fun g s8 wx => ∃ k : Nat, k + g = l.length ∧ s8 = .int .i64 k ∧ Hid (∀ j y, j < k → l[j]? = some y → decide (y = a) = false) ∧ Hid (Grew (w.alloc (Obj.cells #[Value.int IntKind.i64 a.lev, Value.int IntKind.u64 (a.set.toNat : Int)] 31)) wx))
  case atStart => exact ⟨0, by omega, rfl, Lib.hid (fun j y h => absurd h (by omega)), Lib.hid (Grew.refl _)⟩
  case round =>
    obtain ⟨k, hkg, rfl, HJ, HG⟩ := hrel
    cases gk with
    | zero =>
      have hkz : ¬ ((k : Int) < (l.length : Int)) := by omega
      have HR : Hid (res = -1) := Lib.hid (HM.out fun j y hy => HJ.out j y (by have := (List.getElem?_eq_some_iff.1 hy).1; omega) hy)
      go_wp2
      go_returns
      refine ⟨?_, G0.out.trans HG.out⟩
      rw [HR.out]
      try rfl
    | succ g =>
      have hkz : (k : Int) < (l.length : Int) := by omega
      have hkl : k < l.length := by omega
      have hx : l[k]? = some l[k] := List.getElem?_eq_getElem hkl
      obtain ⟨ad, c2, e, hc, c0, c1⟩ := Ls_at (HL.out.grew HG.out) hx
      injection e with e1 _ e3
      subst e1 e3
      obtain ⟨b0, b1, _, _⟩ := lab_cells (keepB A0.out HG.out)
      have HX := Lib.hid hx
      generalize l[k] = x at c0 c1 HX
      clear hx hkl
      by_cases ha : x = a
      · subst ha
        have HR : Hid (res = k) := Lib.hid (HH.out _ _ HX.out (by simp) HJ.out)
        clear HX
        go_wp2
        refine Facts.wp_region_text (by kernel_rfl) (by kernel_rfl) ?_
        repeat
          apply Facts.Lex.exact [] _ (by kernel_rfl)
          · intro u W hC _
            have j0 := cellB hC c0
            have j1 := cellB hC c1
            have j2 := cellB hC b0
            have j3 := cellB hC b1
            unfold Facts.one
            go_simp
            first | exact ⟨Grew.refl _, rfl⟩ | rfl
          simp only [Act.put, List.setIfInBounds_toArray, List.set_cons_zero, List.set_cons_succ, Nat.zero_add, Nat.reduceAdd]
        refine Facts.Lex.done fun u W2 hC hL => ?_
        have G2 := Lib.hid ((G0.out.trans HG.out).trans hC)
        clear hC hL c0 c1 b0 b1
        go_wp2
        go_returns
        refine ⟨?_, G2.out⟩
        rw [HR.out]
        try rfl
      · have HN : Hid (∀ j y, j < k + 1 → l[j]? = some y → decide (y = a) = false) := Lib.hid fun j y hj hy => by
          by_cases hjk : j = k
          · subst hjk
            rw [HX.out] at hy
            cases hy
            exact decide_eq_false ha
          · exact HJ.out j y (by omega) hy
        have hb : ((x.lev == a.lev) && ((x.set.toNat : Int) == (a.set.toNat : Int))) = false := by
          rw [Bool.and_eq_false_iff, beq_eq_false_iff_ne, beq_eq_false_iff_ne]
          by_cases h1 : x.lev = a.lev
          · refine .inr fun h2 => ha ?_
            have h3 : x.set = a.set := BitVec.eq_of_toNat_eq (by omega)
            cases a
            cases x
            simp only at h1 h3
            rw [h1, h3]
          · exact .inl h1
        have HBB := Lib.hid hb
        clear HX ha
        go_wp2
        refine Facts.wp_region_text (by kernel_rfl) (by kernel_rfl) ?_
        iterate 5
          apply Facts.Lex.exact [] _ (by kernel_rfl)
          · intro u W hC _
            have j0 := cellB hC c0
            have j1 := cellB hC c1
            have j2 := cellB hC b0
            have j3 := cellB hC b1
            unfold Facts.one
            go_simp
            first | exact ⟨Grew.refl _, rfl⟩ | rfl
          simp only [Act.put, List.setIfInBounds_toArray, List.set_cons_zero, List.set_cons_succ, Nat.zero_add, Nat.reduceAdd]
        apply Facts.Lex.exact [] (.bool false) (by kernel_rfl)
        · intro u W hC _
          unfold Facts.one
          go_simp
          have hbb := HBB.out
          rw [Bool.and_eq_false_iff, beq_eq_false_iff_ne, beq_eq_false_iff_ne] at hbb
          by_cases h1 : x.lev = a.lev
          · rw [if_pos h1, if_neg (hbb.resolve_left fun h => h h1)]
            exact ⟨Grew.refl _, rfl⟩
          · rw [if_neg h1]
            exact ⟨Grew.refl _, rfl⟩
        simp only [Act.put, List.setIfInBounds_toArray, List.set_cons_zero, List.set_cons_succ, Nat.reduceAdd]
        refine Facts.Lex.done fun u W2 hC hL => ?_
        have G2 := Lib.hid (HG.out.trans hC)
        clear hC hL c0 c1 b0 b1 hb
        have hkw : wrap64 ((k : Int) + 1) = (k : Int) + 1 := by
          unfold maxLen at hc2
          unfold wrap64
          omega
        go_wp2
        go_roundg g
        case measure => omega
        case rel => exact ⟨k + 1, by omega, by first | rfl | simp [hkw] | simp, HN, G2⟩

end Go.Proofs.YtmegdgeiikhflaaGreat.RFind
