/-
  Whether there may be a list and holders; whether an item is held by one; what is put.
  Conditions: those that each lemma names.
-/
import Derived.Test.YtaolallfmjjoeaaTF
namespace Go.Proofs.Ytaolallfmjjoeaa.TG
set_option maxRecDepth 100000
open Go Go.RowKit Go.Lib Go.Proofs.Ytaolallfmjjoeaa Go.Proofs.Ytaolallfmjjoeaa.Facts Go.Proofs.Ytaolallfmjjoeaa.Ints Go.Proofs.Ytaolallfmjjoeaa.TI Go.Proofs.Ytaolallfmjjoeaa.TP Go.Proofs.Ytaolallfmjjoeaa.TB Go.Proofs.Ytaolallfmjjoeaa.TC Go.Proofs.Ytaolallfmjjoeaa.TD Go.Proofs.Ytaolallfmjjoeaa.TE Go.Proofs.Ytaolallfmjjoeaa.TF Go.Proofs.Ytaolallfmjjoeaa.Bytes


def hcs (h : Ho) : List Value := [.int .i64 h.kind, .int .i64 h.who, .int .i64 h.lab, .int .i64 h.slot]
abbrev Hs (w : World) (v : Value) (l : List Ho) : Prop := Rw w v l.length (l.flatMap hcs)
theorem Hs_at {w : World} {v : Value} {l : List Ho} (h : Hs w v l) {k : Nat} {x : Ho} (hk : l[k]? = some x) :
    ∃ ad c, v = .slice (some ad) l.length c ∧ l.length ≤ c ∧ w.cell? (ad.add (k * 4)) = some (.int .i64 x.kind) ∧ w.cell? ⟨(ad.add (k * 4)).block, (ad.add (k * 4)).off + 1, none⟩ = some (.int .i64 x.who) ∧
      w.cell? ⟨(ad.add (k * 4)).block, (ad.add (k * 4)).off + 2, none⟩ = some (.int .i64 x.lab) ∧ w.cell? ⟨(ad.add (k * 4)).block, (ad.add (k * 4)).off + 3, none⟩ = some (.int .i64 x.slot) := by
  obtain ⟨ad, c, e, hc, h0, h1⟩ := Rw.at (f := hcs) (n := 4) (fun _ => rfl) h hk (by decide)
  exact ⟨ad, c, e, hc, h0 _ rfl, h1 1 _ (by decide) rfl, h1 2 _ (by decide) rfl, h1 3 _ (by decide) rfl⟩
theorem notH_any (h : Ho) (w : World) : Calls Try.prog 93 #[hv h] w fun e w' => e = .returned (.bool (!okH h)) ∧ Grew w w' := by
  have HO := Lib.hid (fun W => okH_any h W)
  generalize okH h = p at *
  unfold hv at *
  obtain ⟨k, n, a, b⟩ := h
  simp only at HO
  have G0 : Hid (Grew w (w.alloc (.cells #[.int .i64 k, .int .i64 n, .int .i64 a, .int .i64 b] 89))) := Lib.hid (by unfold Grew; go_grown)
  go_enter Try.func93, Try.ntmps93
  go_wp2_with fail
  refine (HO.out _).mono ?_
  rintro e w1 ⟨rfl, hg⟩
  have G1 := Lib.hid (G0.out.trans hg)
  clear hg
  go_wp2
  go_returns
  exact ⟨by simp, G1.out⟩

theorem idxH (v : Value) (l : List Ho) (p : Ho → Bool) (w : World) (h : Hs w v l)
    (hp : ∀ x, x ∈ l → ∀ W, Grew w W → Calls Try.prog 93 #[hv x] W fun e w' => e = .returned (.bool (p x)) ∧ Grew W w') :
    Calls Try.prog 110 #[v, .func (.func 93) #[] #[]] w fun e w' => e = .returned (.int .i64 (fidx l p)) ∧ Grew w w' := by
  have HL := Lib.hid h
  have HP := Lib.hid hp
  obtain ⟨A, cp, rfl, hc1, hc2⟩ := h.slice
  have HC2 := Lib.hid hc2
  clear h hp hc2
  have HH := Lib.hid (fun k x => @fidx_hit Ho l p k x)
  have HM := Lib.hid (@fidx_miss Ho l p)
  generalize fidx l p = res at *
  go_enter Try.func110, Try.ntmps110
  go_wp2
  go_loopg [8] l.length (fun g s8 wx => ∃ k : Nat, k + g = l.length ∧ s8 = .int .i64 k ∧ Hid (∀ j y, j < k → l[j]? = some y → p y = false) ∧ Hid (Grew w wx))
  case atStart => exact ⟨0, by omega, rfl, Lib.hid (fun j y h => absurd h (by omega)), Lib.hid (Grew.refl _)⟩
  case round =>
    obtain ⟨k, hkg, rfl, HJ, HG⟩ := hrel
    cases gk with
    | zero =>
      have hkz : ¬ ((k : Int) < (l.length : Int)) := by omega
      have HR : Hid (res = -1) := Lib.hid (HM.out fun j y hy => HJ.out j y (by have := (List.getElem?_eq_some_iff.1 hy).1; omega) hy)
      go_wp2
      go_returns
      refine ⟨?_, HG.out⟩
      rw [HR.out]
      try rfl
    | succ g =>
      have hkz : (k : Int) < (l.length : Int) := by omega
      have hkl : k < l.length := by omega
      have hx : l[k]? = some l[k] := List.getElem?_eq_getElem hkl
      obtain ⟨ad, c9, e, hc, c0, c1, c2, c3⟩ := Hs_at (HL.out.grew HG.out) hx
      injection e with e1 _ e3
      subst e1 e3
      have HX := Lib.hid hx
      have HF := Lib.hid (HP.out l[k] (List.getElem_mem hkl))
      have hkw : wrap64 ((k : Int) + 1) = (k : Int) + 1 := by
        have hc2 := HC2.out
        unfold maxLen at hc2
        unfold wrap64
        omega
      generalize l[k] = x at c0 c1 c2 c3 HX HF
      clear hx hkl
      cases hpx : p x with
      | true =>
        rw [hpx] at HF
        have HR : Hid (res = k) := Lib.hid (HH.out _ _ HX.out hpx HJ.out)
        clear HX hpx
        go_wp2_with fail
        refine (HF.out _ HG.out).mono ?_
        rintro e w2 ⟨rfl, hg⟩
        have G2 := Lib.hid (HG.out.trans hg)
        clear hg c0 c1 c2 c3
        go_wp2
        go_returns
        refine ⟨?_, G2.out⟩
        rw [HR.out]
        try rfl
      | false =>
        have HN : Hid (∀ j y, j < k + 1 → l[j]? = some y → p y = false) := Lib.hid fun j y hj hy => by
          by_cases hjk : j = k
          · subst hjk
            rw [HX.out] at hy
            cases hy
            exact hpx
          · exact HJ.out j y (by omega) hy
        rw [hpx] at HF
        clear HX hpx
        go_wp2_with fail
        refine (HF.out _ HG.out).mono ?_
        rintro e w2 ⟨rfl, hg⟩
        have G2 := Lib.hid (HG.out.trans hg)
        clear hg c0 c1 c2 c3
        go_wp2
        go_roundg g
        case measure => omega
        case rel => exact ⟨k + 1, by omega, by first | rfl | simp [hkw] | simp, HN, G2⟩

theorem contH (v : Value) (l : List Ho) (p : Ho → Bool) (w : World) (h : Hs w v l)
    (hp : ∀ x, x ∈ l → ∀ W, Grew w W → Calls Try.prog 93 #[hv x] W fun e w' => e = .returned (.bool (p x)) ∧ Grew W w') :
    Calls Try.prog 92 #[v, .func (.func 93) #[] #[]] w fun e w' => e = .returned (.bool (l.any p)) ∧ Grew w w' := by
  have HI := Lib.hid (idxH v l p w h hp)
  rw [← fidx_neg]
  generalize fidx l p = res at *
  obtain ⟨A, cp, rfl, _⟩ := h.slice
  clear h hp
  by_cases hr : 0 ≤ res
  all_goals
    go_enter Try.func92, Try.ntmps92
    go_wp2_with fail
    refine HI.out.mono ?_
    rintro e w2 ⟨rfl, hg⟩
    have G2 := Lib.hid hg
    clear hg
    go_wp2
    go_returns
    exact ⟨by simp [hr], G2.out⟩

theorem may_any (v v2 : Value) (l : List It) (hs : List Ho) (w : World) (h : Its w v l) (hz : Sz l) (h2 : Hs w v2 hs) : Calls Try.prog 55 #[v, v2] w fun e w' => e = .returned (.bool (okL l && hs.all okH)) ∧ Grew w w' := by
  have HR := Lib.hid (right_any v l w h hz)
  have HC := Lib.hid (fun W (hg : Grew w W) => contH v2 hs (fun x => !okH x) W (h2.grew hg) fun x _ W2 _ => notH_any x W2)
  rw [← any_not hs okH]
  generalize okL l = p at *
  generalize (hs.any fun x => !okH x) = q at *
  obtain ⟨A, c, rfl, _⟩ := h.slice
  obtain ⟨A2, c2, rfl, _⟩ := h2.slice
  clear h h2 hz
  cases p with
  | false =>
    go_enter Try.func55, Try.ntmps55
    go_wp2_with fail
    refine HR.out.mono ?_
    rintro e w1 ⟨rfl, hg⟩
    have G1 := Lib.hid hg
    clear hg
    go_wp2
    go_returns
    exact ⟨by simp, G1.out⟩
  | true =>
    go_enter Try.func55, Try.ntmps55
    go_wp2_with fail
    refine HR.out.mono ?_
    rintro e w1 ⟨rfl, hg⟩
    have G1 := Lib.hid hg
    clear hg
    go_wp2_with fail
    refine (HC.out _ G1.out).mono ?_
    rintro e w2 ⟨rfl, hg⟩
    have G2 := Lib.hid (G1.out.trans hg)
    clear hg
    go_wp2
    go_returns
    exact ⟨by simp, G2.out⟩

theorem index_any (v : Value) (l : List Int) (i : Int) (w : World) (h : Is w v l) : Calls Try.prog 113 #[v, .int .i64 i] w fun e w' => e = .returned (.int .i64 (fidx l fun x => decide (i = x))) ∧ Grew w w' := by
  have HL := Lib.hid h
  obtain ⟨A, cp, rfl, hc1, hc2⟩ := Is.slice h
  have HC2 := Lib.hid hc2
  clear h hc2
  have HH := Lib.hid (fun k x => @fidx_hit Int l (fun x => decide (i = x)) k x)
  have HM := Lib.hid (@fidx_miss Int l (fun x => decide (i = x)))
  generalize fidx l (fun x => decide (i = x)) = res at *
  go_enter Try.func113, Try.ntmps113
  go_wp2
  go_loopg [8] l.length (fun g s8 wx => ∃ k : Nat, k + g = l.length ∧ s8 = .int .i64 k ∧ Hid (∀ j y, j < k → l[j]? = some y → decide (i = y) = false) ∧ Hid (Grew w wx))
  case atStart => exact ⟨0, by omega, rfl, Lib.hid (fun j y h => absurd h (by omega)), Lib.hid (Grew.refl _)⟩
  case round =>
    obtain ⟨k, hkg, rfl, HJ, HG⟩ := hrel
    cases gk with
    | zero =>
      have hkz : ¬ ((k : Int) < (l.length : Int)) := by omega
      have HR : Hid (res = -1) := Lib.hid (HM.out fun j y hy => HJ.out j y (by have := (List.getElem?_eq_some_iff.1 hy).1; omega) hy)
      go_wp2
      go_returns
      refine ⟨?_, HG.out⟩
      rw [HR.out]
      try rfl
    | succ g =>
      have hkz : (k : Int) < (l.length : Int) := by omega
      have hkl : k < l.length := by omega
      have hx : l[k]? = some l[k] := List.getElem?_eq_getElem hkl
      obtain ⟨ad, c9, e, hc, c0⟩ := Is_at (HL.out.grew HG.out) hx
      injection e with e1 _ e3
      subst e1 e3
      have HX := Lib.hid hx
      have hkw : wrap64 ((k : Int) + 1) = (k : Int) + 1 := by
        have hc2 := HC2.out
        unfold maxLen at hc2
        unfold wrap64
        omega
      generalize l[k] = x at c0 HX
      clear hx hkl
      by_cases hpx : i = x
      · subst hpx
        have HR : Hid (res = k) := Lib.hid (HH.out _ _ HX.out (by simp) HJ.out)
        clear HX
        go_wp2
        go_returns
        refine ⟨?_, HG.out⟩
        rw [HR.out]
        try rfl
      · have HN : Hid (∀ j y, j < k + 1 → l[j]? = some y → decide (i = y) = false) := Lib.hid fun j y hj hy => by
          by_cases hjk : j = k
          · subst hjk
            rw [HX.out] at hy
            cases hy
            exact decide_eq_false hpx
          · exact HJ.out j y (by omega) hy
        have hne : (i == x) = false := by simpa using hpx
        clear HX hpx
        go_wp2
        go_roundg g
        case measure => omega
        case rel => exact ⟨k + 1, by omega, by first | rfl | simp [hkw] | simp, HN, HG⟩
theorem cont_any (v : Value) (l : List Int) (i : Int) (w : World) (h : Is w v l) : Calls Try.prog 100 #[v, .int .i64 i] w fun e w' => e = .returned (.bool (decide (i ∈ l))) ∧ Grew w w' := by
  have HI := Lib.hid (index_any v l i w h)
  have e : decide (i ∈ l) = decide (0 ≤ fidx l fun x => decide (i = x)) := by
    rw [fidx_neg, Bool.eq_iff_iff]
    simp
  rw [e]
  clear e
  generalize fidx l (fun x => decide (i = x)) = res at *
  obtain ⟨A, cp, rfl, _⟩ := Is.slice h
  clear h
  by_cases hr : 0 ≤ res
  all_goals
    go_enter Try.func100, Try.ntmps100
    go_wp2_with fail
    refine HI.out.mono ?_
    rintro e w2 ⟨rfl, hg⟩
    have G2 := Lib.hid hg
    clear hg
    go_wp2
    go_returns
    exact ⟨by simp [hr], G2.out⟩
theorem hasi_any (v : Value) (l : List It) (i : Int) (h : Ho) (w : World) (hl : Its w v l) (hn : l.length ≤ 1000) : Calls Try.prog 66 #[v, .int .i64 i, hv h] w fun e w' => e = .returned (.bool (decide (i ∈ slotsOf l h))) ∧ Grew w w' := by
  have hh : hv h = .agg #[.int .i64 h.kind, .int .i64 h.who, .int .i64 h.lab, .int .i64 h.slot] := rfl
  have g0 : Grew w (w.alloc (.cells #[.int .i64 h.kind, .int .i64 h.who, .int .i64 h.lab, .int .i64 h.slot] 89)) := by unfold Grew; go_grown
  have HS := Lib.hid (slots_h h l v _ (hl.grew g0) hn)
  have HC := Lib.hid (fun W V r hr => cont_any V r i W hr)
  have G0 := Lib.hid g0
  rw [hh] at HS
  rw [hh]
  generalize slotsOf l h = R at *
  obtain ⟨A, c, rfl, _⟩ := hl.slice
  clear hl g0 hh
  go_enter Try.func66, Try.ntmps66
  go_wp2_with fail
  refine HS.out.mono ?_
  rintro e w1 ⟨V, rfl, hi, hg⟩
  have G1 := Lib.hid (G0.out.trans hg)
  have HC1 := Lib.hid (HC.out w1 V R hi.is)
  obtain ⟨A1, c1, rfl, _⟩ := Is.slice hi.is
  clear hi hg
  go_wp2_with fail
  refine HC1.out.mono ?_
  rintro e w2 ⟨rfl, hg⟩
  have G2 := Lib.hid (G1.out.trans hg)
  clear hg
  go_wp2
  go_returns
  exact ⟨by simp, G2.out⟩
end Go.Proofs.Ytaolallfmjjoeaa.TG
