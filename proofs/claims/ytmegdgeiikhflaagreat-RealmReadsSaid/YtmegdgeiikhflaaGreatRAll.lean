/-
  The first place where a test holds; whether it holds of all: of labels, numbers, accounts and quotas.
  Conditions: a test's own contract.
-/
import Derived.Test.YtmegdgeiikhflaaGreatRFind
namespace Go.Proofs.YtmegdgeiikhflaaGreat.RAll
set_option maxRecDepth 100000
open Go Go.RowKit Go.Lib Go.Proofs.YtmegdgeiikhflaaGreat Go.Proofs.YtmegdgeiikhflaaGreat.Facts Go.Proofs.YtmegdgeiikhflaaGreat.Plain Go.Proofs.YtmegdgeiikhflaaGreat.Ints Go.Proofs.YtmegdgeiikhflaaGreat.RRows Go.Proofs.YtmegdgeiikhflaaGreat.LBox Go.Proofs.YtmegdgeiikhflaaGreat.RSmall Go.Proofs.YtmegdgeiikhflaaGreat.RFind

theorem fidx_neg {α : Type} (l : List α) (p : α → Bool) : decide (0 ≤ fidx l p) = l.any p := by
  unfold fidx
  cases h : l.findIdx? p with
  | none =>
    rw [List.findIdx?_eq_none_iff] at h
    have : l.any p = false := by
      rw [List.any_eq_false]
      intro x hx
      simp [h x hx]
    rw [this]
    rfl
  | some k =>
    obtain ⟨hk, h1, _⟩ := List.findIdx?_eq_some_iff_getElem.1 h
    have : l.any p = true := List.any_eq_true.2 ⟨_, List.getElem_mem hk, h1⟩
    rw [this]
    simp
theorem any_not {α : Type} (l : List α) (p : α → Bool) : (!l.any fun x => !p x) = l.all p := by
  rw [List.not_any_eq_all_not]
  congr 1
  funext x
  simp
/-- A block of one function, kept. -/
theorem fbox {W W' : World} {B : Nat} {f : Value} {t : Nat} (h : W.heap[B]? = some (.cells #[f] t (0, 0))) (hg : Grew W W') : W'.heap[B]? = some (.cells #[f] t (0, 0)) := keepB h hg

set_option maxRecDepth 100000 in
theorem idxfL_any (v : Value) (l : List La) (p : La → Bool) (B : Nat) (w : World) (h : Ls w v l)
    (hp : ∀ x, x ∈ l → ∀ W, Grew w W → Calls Tryz.prog 148 #[.agg #[.int .i64 x.lev, .int .u64 (x.set.toNat : Int)], .pointer (some ⟨B, 0, none⟩)] W fun e w' => e = .returned (.bool (p x)) ∧ Grew W w') :
    Calls Tryz.prog 166 #[v, .func (.func 148) #[] #[.pointer (some ⟨B, 0, none⟩)]] w fun e w' => e = .returned (.int .i64 (fidx l p)) ∧ Grew w w' := by
  have HL := Lib.hid h
  have HP := Lib.hid hp
  obtain ⟨A, cp, rfl, hc1, hc2⟩ := h.slice
  have HC2 := Lib.hid hc2
  clear h hp hc2
  have HH := Lib.hid (fun k x => @fidx_hit La l p k x)
  have HM := Lib.hid (@fidx_miss La l p)
  generalize fidx l p = res at *
  go_enter Tryz.func166, Tryz.ntmps166
  go_wp2
  go_loopg [8] l.length (fun g s8 wx => ∃ k : Nat, k + g = l.length ∧ s8 = .int .i64 k ∧ Hid (∀ j y, j < k → l[j]? = some y → p y = false) ∧ Hid (Grew w wx))
  case atStart => exact ⟨0, by omega, rfl, Lib.hid (fun j y h => absurd h (by omega)), Lib.hid (Grew.refl _)⟩
  case round =>
    obtain ⟨k, hkg, rfl, HJ, HG⟩ := hrel
    cases gk with
    | zero =>
      have hkz : ¬ ((k : Int) < (l.length : Int)) := by omega
      have HR : Hid (res = -1) := Lib.hid (HM.out fun j y hy => HJ.out j y (by have := (List.getElem?_eq_some_iff.1 hy).1; omega) hy)
      go_wp2
      go_returns
      refine ⟨?_, HG.out⟩
      rw [HR.out]
      try rfl
    | succ g =>
      have hkz : (k : Int) < (l.length : Int) := by omega
      have hkl : k < l.length := by omega
      have hx : l[k]? = some l[k] := List.getElem?_eq_getElem hkl
      obtain ⟨ad, c2, e, hc, c0, c1⟩ := Ls_at (HL.out.grew HG.out) hx
      injection e with e1 _ e3
      subst e1 e3
      have HX := Lib.hid hx
      have HF := Lib.hid (HP.out l[k] (List.getElem_mem hkl))
      have hkw : wrap64 ((k : Int) + 1) = (k : Int) + 1 := by
        have hc2 := HC2.out
        unfold maxLen at hc2
        unfold wrap64
        omega
      generalize l[k] = x at c0 c1 HX HF
      clear hx hkl
      cases hpx : p x with
      | true =>
        rw [hpx] at HF
        have HR : Hid (res = k) := Lib.hid (HH.out _ _ HX.out hpx HJ.out)
        clear HX hpx
        go_wp2_with fail
        refine (HF.out _ HG.out).mono ?_
        rintro e w2 ⟨rfl, hg⟩
        have G2 := Lib.hid (HG.out.trans hg)
        clear hg c0 c1
        go_wp2
        go_returns
        refine ⟨?_, G2.out⟩
        rw [HR.out]
        try rfl
      | false =>
        have HN : Hid (∀ j y, j < k + 1 → l[j]? = some y → p y = false) := Lib.hid fun j y hj hy => by
          by_cases hjk : j = k
          · subst hjk
            rw [HX.out] at hy
            cases hy
            exact hpx
          · exact HJ.out j y (by omega) hy
        rw [hpx] at HF
        clear HX hpx
        go_wp2_with fail
        refine (HF.out _ HG.out).mono ?_
        rintro e w2 ⟨rfl, hg⟩
        have G2 := Lib.hid (HG.out.trans hg)
        clear hg c0 c1
        go_wp2
        go_roundg g
        case measure => omega
        case rel => exact ⟨k + 1, by omega, by first | rfl | simp [hkw] | simp, HN, G2⟩

theorem contL_any (v : Value) (l : List La) (p : La → Bool) (B : Nat) (w : World) (h : Ls w v l)
    (hp : ∀ x, x ∈ l → ∀ W, Grew w W → Calls Tryz.prog 148 #[.agg #[.int .i64 x.lev, .int .u64 (x.set.toNat : Int)], .pointer (some ⟨B, 0, none⟩)] W fun e w' => e = .returned (.bool (p x)) ∧ Grew W w') :
    Calls Tryz.prog 147 #[v, .func (.func 148) #[] #[.pointer (some ⟨B, 0, none⟩)]] w fun e w' => e = .returned (.bool (l.any p)) ∧ Grew w w' := by
  have HI := Lib.hid (idxfL_any v l p B w h hp)
  rw [← fidx_neg]
  generalize fidx l p = res at *
  clear h hp
  by_cases hr : 0 ≤ res
  all_goals
    go_enter Tryz.func147, Tryz.ntmps147
    go_wp2_with fail
    refine HI.out.mono ?_
    rintro e w2 ⟨rfl, hg⟩
    have G2 := Lib.hid hg
    clear hg
    go_wp2
    go_returns
    exact ⟨by simp [hr], G2.out⟩

theorem allL_any (v : Value) (f0 : Fn) (f1 f2 : Array Value) (l : List La) (p : La → Bool) (w : World) (h : Ls w v l)
    (hp : ∀ x, x ∈ l → ∀ W B, Grew w W → W.cell? ⟨B, 0, none⟩ = some (.func f0 f1 f2) → Calls Tryz.prog 148 #[.agg #[.int .i64 x.lev, .int .u64 (x.set.toNat : Int)], .pointer (some ⟨B, 0, none⟩)] W fun e w' => e = .returned (.bool (!p x)) ∧ Grew W w') :
    Calls Tryz.prog 108 #[v, .func f0 f1 f2] w fun e w' => e = .returned (.bool (l.all p)) ∧ Grew w w' := by
  have g0 : Grew w (w.alloc (.cells #[.func f0 f1 f2] 129)) := by unfold Grew; go_grown
  have A0 : (w.alloc (.cells #[.func f0 f1 f2] 129)).heap[w.heap.size]? = some (.cells #[.func f0 f1 f2] 129 (0, 0)) := heap_alloc_new w _
  have HC := Lib.hid (contL_any v l (fun x => !p x) w.heap.size _ (h.grew g0) fun x hx W hW => hp x hx W w.heap.size (g0.trans hW) (by rw [cell_of_row _ _ _ _ _ _ (keepB A0 hW)]; rfl))
  have G0 := Lib.hid g0
  rw [← any_not]
  generalize (l.any fun x => !p x) = b at *
  clear h hp g0 A0
  cases b
  all_goals
    go_enter Tryz.func108, Tryz.ntmps108
    go_wp2_with fail
    refine HC.out.mono ?_
    rintro e w2 ⟨rfl, hg⟩
    have G2 := Lib.hid (G0.out.trans hg)
    clear hg
    go_wp2
    go_returns
    exact ⟨rfl, G2.out⟩

set_option maxRecDepth 100000 in
theorem idxfA_any (v : Value) (l : List Ac) (p : Ac → Bool) (B : Nat) (w : World) (h : As w v l)
    (hp : ∀ x, x ∈ l → ∀ W, Grew w W → Calls Tryz.prog 152 #[.agg #[.string x.name, .string x.secret, .int .i64 x.lev, .bool x.mints], .pointer (some ⟨B, 0, none⟩)] W fun e w' => e = .returned (.bool (p x)) ∧ Grew W w') :
    Calls Tryz.prog 170 #[v, .func (.func 152) #[] #[.pointer (some ⟨B, 0, none⟩)]] w fun e w' => e = .returned (.int .i64 (fidx l p)) ∧ Grew w w' := by
  have HL := Lib.hid h
  have HP := Lib.hid hp
  obtain ⟨A, cp, rfl, hc1, hc2⟩ := h.slice
  have HC2 := Lib.hid hc2
  clear h hp hc2
  have HH := Lib.hid (fun k x => @fidx_hit Ac l p k x)
  have HM := Lib.hid (@fidx_miss Ac l p)
  generalize fidx l p = res at *
  go_enter Tryz.func170, Tryz.ntmps170
  go_wp2
  go_loopg [8] l.length (fun g s8 wx => ∃ k : Nat, k + g = l.length ∧ s8 = .int .i64 k ∧ Hid (∀ j y, j < k → l[j]? = some y → p y = false) ∧ Hid (Grew w wx))
  case atStart => exact ⟨0, by omega, rfl, Lib.hid (fun j y h => absurd h (by omega)), Lib.hid (Grew.refl _)⟩
  case round =>
    obtain ⟨k, hkg, rfl, HJ, HG⟩ := hrel
    cases gk with
    | zero =>
      have hkz : ¬ ((k : Int) < (l.length : Int)) := by omega
      have HR : Hid (res = -1) := Lib.hid (HM.out fun j y hy => HJ.out j y (by have := (List.getElem?_eq_some_iff.1 hy).1; omega) hy)
      go_wp2
      go_returns
      refine ⟨?_, HG.out⟩
      rw [HR.out]
      try rfl
    | succ g =>
      have hkz : (k : Int) < (l.length : Int) := by omega
      have hkl : k < l.length := by omega
      have hx : l[k]? = some l[k] := List.getElem?_eq_getElem hkl
      obtain ⟨ad, c2, e, hc, c0, c1, c2, c3⟩ := As_at (HL.out.grew HG.out) hx
      injection e with e1 _ e3
      subst e1 e3
      have HX := Lib.hid hx
      have HF := Lib.hid (HP.out l[k] (List.getElem_mem hkl))
      have hkw : wrap64 ((k : Int) + 1) = (k : Int) + 1 := by
        have hc2 := HC2.out
        unfold maxLen at hc2
        unfold wrap64
        omega
      generalize l[k] = x at c0 c1 c2 c3 HX HF
      clear hx hkl
      cases hpx : p x with
      | true =>
        rw [hpx] at HF
        have HR : Hid (res = k) := Lib.hid (HH.out _ _ HX.out hpx HJ.out)
        clear HX hpx
        go_wp2_with fail
        refine (HF.out _ HG.out).mono ?_
        rintro e w2 ⟨rfl, hg⟩
        have G2 := Lib.hid (HG.out.trans hg)
        clear hg c0 c1 c2 c3
        go_wp2
        go_returns
        refine ⟨?_, G2.out⟩
        rw [HR.out]
        try rfl
      | false =>
        have HN : Hid (∀ j y, j < k + 1 → l[j]? = some y → p y = false) := Lib.hid fun j y hj hy => by
          by_cases hjk : j = k
          · subst hjk
            rw [HX.out] at hy
            cases hy
            exact hpx
          · exact HJ.out j y (by omega) hy
        rw [hpx] at HF
        clear HX hpx
        go_wp2_with fail
        refine (HF.out _ HG.out).mono ?_
        rintro e w2 ⟨rfl, hg⟩
        have G2 := Lib.hid (HG.out.trans hg)
        clear hg c0 c1 c2 c3
        go_wp2
        go_roundg g
        case measure => omega
        case rel => exact ⟨k + 1, by omega, by first | rfl | simp [hkw] | simp, HN, G2⟩

theorem contA_any (v : Value) (l : List Ac) (p : Ac → Bool) (B : Nat) (w : World) (h : As w v l)
    (hp : ∀ x, x ∈ l → ∀ W, Grew w W → Calls Tryz.prog 152 #[.agg #[.string x.name, .string x.secret, .int .i64 x.lev, .bool x.mints], .pointer (some ⟨B, 0, none⟩)] W fun e w' => e = .returned (.bool (p x)) ∧ Grew W w') :
    Calls Tryz.prog 151 #[v, .func (.func 152) #[] #[.pointer (some ⟨B, 0, none⟩)]] w fun e w' => e = .returned (.bool (l.any p)) ∧ Grew w w' := by
  have HI := Lib.hid (idxfA_any v l p B w h hp)
  rw [← fidx_neg]
  generalize fidx l p = res at *
  clear h hp
  by_cases hr : 0 ≤ res
  all_goals
    go_enter Tryz.func151, Tryz.ntmps151
    go_wp2_with fail
    refine HI.out.mono ?_
    rintro e w2 ⟨rfl, hg⟩
    have G2 := Lib.hid hg
    clear hg
    go_wp2
    go_returns
    exact ⟨by simp [hr], G2.out⟩

theorem allA_any (v : Value) (f0 : Fn) (f1 f2 : Array Value) (l : List Ac) (p : Ac → Bool) (w : World) (h : As w v l)
    (hp : ∀ x, x ∈ l → ∀ W B, Grew w W → W.cell? ⟨B, 0, none⟩ = some (.func f0 f1 f2) → Calls Tryz.prog 152 #[.agg #[.string x.name, .string x.secret, .int .i64 x.lev, .bool x.mints], .pointer (some ⟨B, 0, none⟩)] W fun e w' => e = .returned (.bool (!p x)) ∧ Grew W w') :
    Calls Tryz.prog 115 #[v, .func f0 f1 f2] w fun e w' => e = .returned (.bool (l.all p)) ∧ Grew w w' := by
  have g0 : Grew w (w.alloc (.cells #[.func f0 f1 f2] 131)) := by unfold Grew; go_grown
  have A0 : (w.alloc (.cells #[.func f0 f1 f2] 131)).heap[w.heap.size]? = some (.cells #[.func f0 f1 f2] 131 (0, 0)) := heap_alloc_new w _
  have HC := Lib.hid (contA_any v l (fun x => !p x) w.heap.size _ (h.grew g0) fun x hx W hW => hp x hx W w.heap.size (g0.trans hW) (by rw [cell_of_row _ _ _ _ _ _ (keepB A0 hW)]; rfl))
  have G0 := Lib.hid g0
  rw [← any_not]
  generalize (l.any fun x => !p x) = b at *
  clear h hp g0 A0
  cases b
  all_goals
    go_enter Tryz.func115, Tryz.ntmps115
    go_wp2_with fail
    refine HC.out.mono ?_
    rintro e w2 ⟨rfl, hg⟩
    have G2 := Lib.hid (G0.out.trans hg)
    clear hg
    go_wp2
    go_returns
    exact ⟨rfl, G2.out⟩

set_option maxRecDepth 100000 in
theorem idxfQ_any (v : Value) (l : List Qu) (p : Qu → Bool) (B : Nat) (w : World) (h : Qs w v l)
    (hp : ∀ x, x ∈ l → ∀ W, Grew w W → Calls Tryz.prog 162 #[.agg #[.int .i64 x.rooms, .int .i64 x.exits, .int .i64 x.items, .int .i64 x.mails, .int .i64 x.trades, .int .u64 (x.cap.toNat : Int)], .pointer (some ⟨B, 0, none⟩)] W fun e w' => e = .returned (.bool (p x)) ∧ Grew W w') :
    Calls Tryz.prog 178 #[v, .func (.func 162) #[] #[.pointer (some ⟨B, 0, none⟩)]] w fun e w' => e = .returned (.int .i64 (fidx l p)) ∧ Grew w w' := by
  have HL := Lib.hid h
  have HP := Lib.hid hp
  obtain ⟨A, cp, rfl, hc1, hc2⟩ := h.slice
  have HC2 := Lib.hid hc2
  clear h hp hc2
  have HH := Lib.hid (fun k x => @fidx_hit Qu l p k x)
  have HM := Lib.hid (@fidx_miss Qu l p)
  generalize fidx l p = res at *
  go_enter Tryz.func178, Tryz.ntmps178
  go_wp2
  go_loopg [8] l.length (fun g s8 wx => ∃ k : Nat, k + g = l.length ∧ s8 = .int .i64 k ∧ Hid (∀ j y, j < k → l[j]? = some y → p y = false) ∧ Hid (Grew w wx))
  case atStart => exact ⟨0, by omega, rfl, Lib.hid (fun j y h => absurd h (by omega)), Lib.hid (Grew.refl _)⟩
  case round =>
    obtain ⟨k, hkg, rfl, HJ, HG⟩ := hrel
    cases gk with
    | zero =>
      have hkz : ¬ ((k : Int) < (l.length : Int)) := by omega
      have HR : Hid (res = -1) := Lib.hid (HM.out fun j y hy => HJ.out j y (by have := (List.getElem?_eq_some_iff.1 hy).1; omega) hy)
      go_wp2
      go_returns
      refine ⟨?_, HG.out⟩
      rw [HR.out]
      try rfl
    | succ g =>
      have hkz : (k : Int) < (l.length : Int) := by omega
      have hkl : k < l.length := by omega
      have hx : l[k]? = some l[k] := List.getElem?_eq_getElem hkl
      obtain ⟨ad, c2, e, hc, c0, c1, c2, c3, c4, c5⟩ := Qs_at (HL.out.grew HG.out) hx
      injection e with e1 _ e3
      subst e1 e3
      have HX := Lib.hid hx
      have HF := Lib.hid (HP.out l[k] (List.getElem_mem hkl))
      have hkw : wrap64 ((k : Int) + 1) = (k : Int) + 1 := by
        have hc2 := HC2.out
        unfold maxLen at hc2
        unfold wrap64
        omega
      generalize l[k] = x at c0 c1 c2 c3 c4 c5 HX HF
      clear hx hkl
      cases hpx : p x with
      | true =>
        rw [hpx] at HF
        have HR : Hid (res = k) := Lib.hid (HH.out _ _ HX.out hpx HJ.out)
        clear HX hpx
        go_wp2_with fail
        refine (HF.out _ HG.out).mono ?_
        rintro e w2 ⟨rfl, hg⟩
        have G2 := Lib.hid (HG.out.trans hg)
        clear hg c0 c1 c2 c3 c4 c5
        go_wp2
        go_returns
        refine ⟨?_, G2.out⟩
        rw [HR.out]
        try rfl
      | false =>
        have HN : Hid (∀ j y, j < k + 1 → l[j]? = some y → p y = false) := Lib.hid fun j y hj hy => by
          by_cases hjk : j = k
          · subst hjk
            rw [HX.out] at hy
            cases hy
            exact hpx
          · exact HJ.out j y (by omega) hy
        rw [hpx] at HF
        clear HX hpx
        go_wp2_with fail
        refine (HF.out _ HG.out).mono ?_
        rintro e w2 ⟨rfl, hg⟩
        have G2 := Lib.hid (HG.out.trans hg)
        clear hg c0 c1 c2 c3 c4 c5
        go_wp2
        go_roundg g
        case measure => omega
        case rel => exact ⟨k + 1, by omega, by first | rfl | simp [hkw] | simp, HN, G2⟩

theorem contQ_any (v : Value) (l : List Qu) (p : Qu → Bool) (B : Nat) (w : World) (h : Qs w v l)
    (hp : ∀ x, x ∈ l → ∀ W, Grew w W → Calls Tryz.prog 162 #[.agg #[.int .i64 x.rooms, .int .i64 x.exits, .int .i64 x.items, .int .i64 x.mails, .int .i64 x.trades, .int .u64 (x.cap.toNat : Int)], .pointer (some ⟨B, 0, none⟩)] W fun e w' => e = .returned (.bool (p x)) ∧ Grew W w') :
    Calls Tryz.prog 161 #[v, .func (.func 162) #[] #[.pointer (some ⟨B, 0, none⟩)]] w fun e w' => e = .returned (.bool (l.any p)) ∧ Grew w w' := by
  have HI := Lib.hid (idxfQ_any v l p B w h hp)
  rw [← fidx_neg]
  generalize fidx l p = res at *
  clear h hp
  by_cases hr : 0 ≤ res
  all_goals
    go_enter Tryz.func161, Tryz.ntmps161
    go_wp2_with fail
    refine HI.out.mono ?_
    rintro e w2 ⟨rfl, hg⟩
    have G2 := Lib.hid hg
    clear hg
    go_wp2
    go_returns
    exact ⟨by simp [hr], G2.out⟩

theorem allQ_any (v : Value) (f0 : Fn) (f1 f2 : Array Value) (l : List Qu) (p : Qu → Bool) (w : World) (h : Qs w v l)
    (hp : ∀ x, x ∈ l → ∀ W B, Grew w W → W.cell? ⟨B, 0, none⟩ = some (.func f0 f1 f2) → Calls Tryz.prog 162 #[.agg #[.int .i64 x.rooms, .int .i64 x.exits, .int .i64 x.items, .int .i64 x.mails, .int .i64 x.trades, .int .u64 (x.cap.toNat : Int)], .pointer (some ⟨B, 0, none⟩)] W fun e w' => e = .returned (.bool (!p x)) ∧ Grew W w') :
    Calls Tryz.prog 121 #[v, .func f0 f1 f2] w fun e w' => e = .returned (.bool (l.all p)) ∧ Grew w w' := by
  have g0 : Grew w (w.alloc (.cells #[.func f0 f1 f2] 134)) := by unfold Grew; go_grown
  have A0 : (w.alloc (.cells #[.func f0 f1 f2] 134)).heap[w.heap.size]? = some (.cells #[.func f0 f1 f2] 134 (0, 0)) := heap_alloc_new w _
  have HC := Lib.hid (contQ_any v l (fun x => !p x) w.heap.size _ (h.grew g0) fun x hx W hW => hp x hx W w.heap.size (g0.trans hW) (by rw [cell_of_row _ _ _ _ _ _ (keepB A0 hW)]; rfl))
  have G0 := Lib.hid g0
  rw [← any_not]
  generalize (l.any fun x => !p x) = b at *
  clear h hp g0 A0
  cases b
  all_goals
    go_enter Tryz.func121, Tryz.ntmps121
    go_wp2_with fail
    refine HC.out.mono ?_
    rintro e w2 ⟨rfl, hg⟩
    have G2 := Lib.hid (G0.out.trans hg)
    clear hg
    go_wp2
    go_returns
    exact ⟨rfl, G2.out⟩

set_option maxRecDepth 100000 in
theorem idxfI_any (v : Value) (l : List Int) (p : Int → Bool) (B : Nat) (w : World) (h : Is w v l)
    (hp : ∀ x, x ∈ l → ∀ W, Grew w W → Calls Tryz.prog 150 #[.int .i64 x, .pointer (some ⟨B, 0, none⟩)] W fun e w' => e = .returned (.bool (p x)) ∧ Grew W w') :
    Calls Tryz.prog 145 #[v, .func (.func 150) #[] #[.pointer (some ⟨B, 0, none⟩)]] w fun e w' => e = .returned (.int .i64 (fidx l p)) ∧ Grew w w' := by
  have HL := Lib.hid h
  have HP := Lib.hid hp
  obtain ⟨A, cp, rfl, hc1, hc2, _⟩ := id h
  have HC2 := Lib.hid hc2
  clear h hp hc2
  have HH := Lib.hid (fun k x => @fidx_hit Int l p k x)
  have HM := Lib.hid (@fidx_miss Int l p)
  generalize fidx l p = res at *
  go_enter Tryz.func145, Tryz.ntmps145
  go_wp2
  go_loopg [8] l.length (fun g s8 wx => ∃ k : Nat, k + g = l.length ∧ s8 = .int .i64 k ∧ Hid (∀ j y, j < k → l[j]? = some y → p y = false) ∧ Hid (Grew w wx))
  case atStart => exact ⟨0, by omega, rfl, Lib.hid (fun j y h => absurd h (by omega)), Lib.hid (Grew.refl _)⟩
  case round =>
    obtain ⟨k, hkg, rfl, HJ, HG⟩ := hrel
    cases gk with
    | zero =>
      have hkz : ¬ ((k : Int) < (l.length : Int)) := by omega
      have HR : Hid (res = -1) := Lib.hid (HM.out fun j y hy => HJ.out j y (by have := (List.getElem?_eq_some_iff.1 hy).1; omega) hy)
      go_wp2
      go_returns
      refine ⟨?_, HG.out⟩
      rw [HR.out]
      try rfl
    | succ g =>
      have hkz : (k : Int) < (l.length : Int) := by omega
      have hkl : k < l.length := by omega
      have hx : l[k]? = some l[k] := List.getElem?_eq_getElem hkl
      obtain ⟨ad, c2, e, hc, c0⟩ := (HL.out.grew HG.out).cell (k := k) hkl
      rw [List.getElem?_eq_getElem hkl, Option.getD_some] at c0
      injection e with e1 _ e3
      subst e1 e3
      have HX := Lib.hid hx
      have HF := Lib.hid (HP.out l[k] (List.getElem_mem hkl))
      have hkw : wrap64 ((k : Int) + 1) = (k : Int) + 1 := by
        have hc2 := HC2.out
        unfold maxLen at hc2
        unfold wrap64
        omega
      generalize l[k] = x at c0 HX HF
      clear hx hkl
      cases hpx : p x with
      | true =>
        rw [hpx] at HF
        have HR : Hid (res = k) := Lib.hid (HH.out _ _ HX.out hpx HJ.out)
        clear HX hpx
        go_wp2_with fail
        refine (HF.out _ HG.out).mono ?_
        rintro e w2 ⟨rfl, hg⟩
        have G2 := Lib.hid (HG.out.trans hg)
        clear hg c0
        go_wp2
        go_returns
        refine ⟨?_, G2.out⟩
        rw [HR.out]
        try rfl
      | false =>
        have HN : Hid (∀ j y, j < k + 1 → l[j]? = some y → p y = false) := Lib.hid fun j y hj hy => by
          by_cases hjk : j = k
          · subst hjk
            rw [HX.out] at hy
            cases hy
            exact hpx
          · exact HJ.out j y (by omega) hy
        rw [hpx] at HF
        clear HX hpx
        go_wp2_with fail
        refine (HF.out _ HG.out).mono ?_
        rintro e w2 ⟨rfl, hg⟩
        have G2 := Lib.hid (HG.out.trans hg)
        clear hg c0
        go_wp2
        go_roundg g
        case measure => omega
        case rel => exact ⟨k + 1, by omega, by first | rfl | simp [hkw] | simp, HN, G2⟩

theorem contI_any (v : Value) (l : List Int) (p : Int → Bool) (B : Nat) (w : World) (h : Is w v l)
    (hp : ∀ x, x ∈ l → ∀ W, Grew w W → Calls Tryz.prog 150 #[.int .i64 x, .pointer (some ⟨B, 0, none⟩)] W fun e w' => e = .returned (.bool (p x)) ∧ Grew W w') :
    Calls Tryz.prog 96 #[v, .func (.func 150) #[] #[.pointer (some ⟨B, 0, none⟩)]] w fun e w' => e = .returned (.bool (l.any p)) ∧ Grew w w' := by
  have HI := Lib.hid (idxfI_any v l p B w h hp)
  rw [← fidx_neg]
  generalize fidx l p = res at *
  clear h hp
  by_cases hr : 0 ≤ res
  all_goals
    go_enter Tryz.func96, Tryz.ntmps96
    go_wp2_with fail
    refine HI.out.mono ?_
    rintro e w2 ⟨rfl, hg⟩
    have G2 := Lib.hid hg
    clear hg
    go_wp2
    go_returns
    exact ⟨by simp [hr], G2.out⟩

theorem allI_any (v : Value) (f0 : Fn) (f1 f2 : Array Value) (l : List Int) (p : Int → Bool) (w : World) (h : Is w v l)
    (hp : ∀ x, x ∈ l → ∀ W B, Grew w W → W.cell? ⟨B, 0, none⟩ = some (.func f0 f1 f2) → Calls Tryz.prog 150 #[.int .i64 x, .pointer (some ⟨B, 0, none⟩)] W fun e w' => e = .returned (.bool (!p x)) ∧ Grew W w') :
    Calls Tryz.prog 112 #[v, .func f0 f1 f2] w fun e w' => e = .returned (.bool (l.all p)) ∧ Grew w w' := by
  have g0 : Grew w (w.alloc (.cells #[.func f0 f1 f2] 123)) := by unfold Grew; go_grown
  have A0 : (w.alloc (.cells #[.func f0 f1 f2] 123)).heap[w.heap.size]? = some (.cells #[.func f0 f1 f2] 123 (0, 0)) := heap_alloc_new w _
  have HC := Lib.hid (contI_any v l (fun x => !p x) w.heap.size _ (h.grew g0) fun x hx W hW => hp x hx W w.heap.size (g0.trans hW) (by rw [cell_of_row _ _ _ _ _ _ (keepB A0 hW)]; rfl))
  have G0 := Lib.hid g0
  rw [← any_not]
  generalize (l.any fun x => !p x) = b at *
  clear h hp g0 A0
  cases b
  all_goals
    go_enter Tryz.func112, Tryz.ntmps112
    go_wp2_with fail
    refine HC.out.mono ?_
    rintro e w2 ⟨rfl, hg⟩
    have G2 := Lib.hid (G0.out.trans hg)
    clear hg
    go_wp2
    go_returns
    exact ⟨rfl, G2.out⟩
end Go.Proofs.YtmegdgeiikhflaaGreat.RAll
