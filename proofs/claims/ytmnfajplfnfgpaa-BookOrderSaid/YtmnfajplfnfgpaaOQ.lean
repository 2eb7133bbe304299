/-
  Lists of orders and of fills that are the same.
  Conditions: those that each lemma names.
-/
import Derived.Test.YtmnfajplfnfgpaaOK
import Derived.Lib.Hide
import Derived.Deep.LoopGhost
namespace Go.Proofs.Ytmnfajplfnfgpaa.OQ
set_option maxRecDepth 100000
open Go Go.RowKit Go.Lib Go.Proofs.Ytmnfajplfnfgpaa Go.Proofs.Ytmnfajplfnfgpaa.Facts Go.Proofs.Ytmnfajplfnfgpaa.Ints Go.Proofs.Ytmnfajplfnfgpaa.PA Go.Proofs.Ytmnfajplfnfgpaa.UM Go.Proofs.Ytmnfajplfnfgpaa.UB Go.Proofs.Ytmnfajplfnfgpaa.OA Go.Proofs.Ytmnfajplfnfgpaa.BP Go.Proofs.Ytmnfajplfnfgpaa.OK Go.Proofs.Ytmnfajplfnfgpaa.Bytes

theorem wr1b {j n : Nat} (h : j < n) (hn : n ≤ 4611686018427387904) : wrap64 ((j : Int) + 1) = ((j + 1 : Nat) : Int) := by unfold wrap64; omega
theorem eqO (x : Or) (W : World) : (binOp .eql 26 (orv x) (orv x)).run Try.prog W = .ok (.bool true) W := by
  unfold orv
  go_simp
  try simp
theorem neO (x : Or) (W : World) : (binOp .neq 26 (orv x) (orv x)).run Try.prog W = .ok (.bool false) W := by
  unfold orv
  go_simp
  try simp
theorem eqF (x : Fi) (W : World) : (binOp .eql 47 (fiv x) (fiv x)).run Try.prog W = .ok (.bool true) W := by
  unfold fiv
  go_simp
  try simp
theorem neF (x : Fi) (W : World) : (binOp .neq 47 (fiv x) (fiv x)).run Try.prog W = .ok (.bool false) W := by
  unfold fiv
  go_simp
  try simp
set_option maxHeartbeats 4000000 in
theorem same_any (v v' : Value) (l : List Or) (w : World) (h : Ors w v l) (h' : Ors w v' l) (hl : l.length * 80 ≤ 140737488355328) : Calls Try.prog 17 #[v, v'] w fun e w' => e = .returned (.bool true) ∧ Grew w w' := by
  have HL := Lib.hid h
  have HL2 := Lib.hid h'
  obtain ⟨A, c, rfl, hlc, hcm, _⟩ := h
  obtain ⟨A', c', rfl, hlc', hcm', _⟩ := h'
  have hlm : l.length ≤ 4611686018427387904 := by omega
  have HLM := Lib.hid hlm
  clear hlm hcm hcm' hl
  go_enter Try.func17, Try.ntmps17
  go_wp2
  go_loopg [5] l.length (fun g s5 wx => ∃ k : Nat, k + g = l.length ∧ s5 = .int .i64 k ∧ Hid (Grew w wx))
  case atStart => exact ⟨0, by omega, rfl, Lib.hid (Grew.refl _)⟩
  case round =>
    obtain ⟨k, hkg, rfl, HG⟩ := hrel
    cases gk with
    | zero =>
      have hkz : ¬ ((k : Int) < (l.length : Int)) := by omega
      go_wp2
      go_returns
      exact ⟨rfl, HG.out⟩
    | succ g =>
      have hkz : (k : Int) < (l.length : Int) := by omega
      have hkl : k < l.length := by omega
      have hx := eo_get hkl
      have HW := Lib.hid (wr1b hkl HLM.out)
      obtain ⟨ad, c8, e8, _, d0, d1, d2, d3, d4, d5, d6, d7, d8, d9⟩ := Ors_at (HL.out.grew HG.out) hx
      injection e8 with e1 e2 e3
      subst e1 e3
      obtain ⟨ad2, c8, e8, _, p0, p1, p2, p3, p4, p5, p6, p7, p8, p9⟩ := Ors_at (HL2.out.grew HG.out) hx
      injection e8 with e1 e4 e3
      subst e1 e3
      clear e2 e4 hx hkl
      have hne := fun W => neO (eo l k) W
      unfold orv at hne
      generalize eo l k = x at *
      obtain ⟨us, lb, wh, sd, bs, qt, pr, lf, rs, sq⟩ := x
      simp only at hne d0 d1 d2 d3 d4 d5 d6 d7 d8 d9 p0 p1 p2 p3 p4 p5 p6 p7 p8 p9
      go_wp2
      refine Facts.wp_region_text (by kernel_rfl) (by kernel_rfl) ?_
      repeat
        apply Facts.Lex.exact [] _ (by kernel_rfl)
        · intro u W hC _
          have j0 := cellG hC d0
          have j1 := cellG hC d1
          have j2 := cellG hC d2
          have j3 := cellG hC d3
          have j4 := cellG hC d4
          have j5 := cellG hC d5
          have j6 := cellG hC d6
          have j7 := cellG hC d7
          have j8 := cellG hC d8
          have j9 := cellG hC d9
          have k0 := cellG hC p0
          have k1 := cellG hC p1
          have k2 := cellG hC p2
          have k3 := cellG hC p3
          have k4 := cellG hC p4
          have k5 := cellG hC p5
          have k6 := cellG hC p6
          have k7 := cellG hC p7
          have k8 := cellG hC p8
          have k9 := cellG hC p9
          unfold Facts.one
          go_simp
          first | exact ⟨Grew.refl _, rfl⟩ | rfl
        simp only [Act.put, List.setIfInBounds_toArray, List.set_cons_zero, List.set_cons_succ, Nat.zero_add, Nat.reduceAdd]
      refine Facts.Lex.done fun u W2 hC hL => ?_
      have G2 := Lib.hid (HG.out.trans hC)
      clear hC hL
      go_wp2
      go_roundg g
      case measure => omega
      case rel => exact ⟨k + 1, by omega, by first | (simp; done) | simp [HW.out], G2⟩
set_option maxHeartbeats 4000000 in
theorem sameF_any (v v' : Value) (l : List Fi) (w : World) (h : Fis w v l) (h' : Fis w v' l) (hl : l.length * 24 ≤ 140737488355328) : Calls Try.prog 25 #[v, v'] w fun e w' => e = .returned (.bool true) ∧ Grew w w' := by
  have HL := Lib.hid h
  have HL2 := Lib.hid h'
  obtain ⟨A, c, rfl, hlc, hcm, _⟩ := h
  obtain ⟨A', c', rfl, hlc', hcm', _⟩ := h'
  have hlm : l.length ≤ 4611686018427387904 := by omega
  have HLM := Lib.hid hlm
  clear hlm hcm hcm' hl
  go_enter Try.func25, Try.ntmps25
  go_wp2
  go_loopg [5] l.length (fun g s5 wx => ∃ k : Nat, k + g = l.length ∧ s5 = .int .i64 k ∧ Hid (Grew w wx))
  case atStart => exact ⟨0, by omega, rfl, Lib.hid (Grew.refl _)⟩
  case round =>
    obtain ⟨k, hkg, rfl, HG⟩ := hrel
    cases gk with
    | zero =>
      have hkz : ¬ ((k : Int) < (l.length : Int)) := by omega
      go_wp2
      go_returns
      exact ⟨rfl, HG.out⟩
    | succ g =>
      have hkz : (k : Int) < (l.length : Int) := by omega
      have hkl : k < l.length := by omega
      have hx := ef_get hkl
      have HW := Lib.hid (wr1b hkl HLM.out)
      obtain ⟨ad, c8, e8, _, d0, d1, d2⟩ := Fis_at (HL.out.grew HG.out) hx
      injection e8 with e1 e2 e3
      subst e1 e3
      obtain ⟨ad2, c8, e8, _, p0, p1, p2⟩ := Fis_at (HL2.out.grew HG.out) hx
      injection e8 with e1 e4 e3
      subst e1 e3
      clear e2 e4 hx hkl
      have hne := fun W => neF (ef l k) W
      unfold fiv at hne
      generalize ef l k = x at *
      obtain ⟨st, qn, pr⟩ := x
      simp only at hne d0 d1 d2 p0 p1 p2
      go_wp2
      refine Facts.wp_region_text (by kernel_rfl) (by kernel_rfl) ?_
      repeat
        apply Facts.Lex.exact [] _ (by kernel_rfl)
        · intro u W hC _
          have j0 := cellG hC d0
          have j1 := cellG hC d1
          have j2 := cellG hC d2
          have k0 := cellG hC p0
          have k1 := cellG hC p1
          have k2 := cellG hC p2
          unfold Facts.one
          go_simp
          first | exact ⟨Grew.refl _, rfl⟩ | rfl
        simp only [Act.put, List.setIfInBounds_toArray, List.set_cons_zero, List.set_cons_succ, Nat.zero_add, Nat.reduceAdd]
      refine Facts.Lex.done fun u W2 hC hL => ?_
      have G2 := Lib.hid (HG.out.trans hC)
      clear hC hL
      go_wp2
      go_roundg g
      case measure => omega
      case rel => exact ⟨k + 1, by omega, by first | (simp; done) | simp [HW.out], G2⟩
end Go.Proofs.Ytmnfajplfnfgpaa.OQ
