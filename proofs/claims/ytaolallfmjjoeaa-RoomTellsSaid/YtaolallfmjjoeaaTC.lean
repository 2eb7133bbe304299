/-
  Which lists of items may be, as the program answers.
  Conditions: those that each lemma names.
-/
import Derived.Test.YtaolallfmjjoeaaTB
namespace Go.Proofs.Ytaolallfmjjoeaa.TC
set_option maxRecDepth 100000
open Go Go.RowKit Go.Lib Go.Proofs.Ytaolallfmjjoeaa Go.Proofs.Ytaolallfmjjoeaa.Facts Go.Proofs.Ytaolallfmjjoeaa.Ints Go.Proofs.Ytaolallfmjjoeaa.TI Go.Proofs.Ytaolallfmjjoeaa.TP Go.Proofs.Ytaolallfmjjoeaa.TB

def fidx {α : Type} (l : List α) (p : α → Bool) : Int := match l.findIdx? p with | some k => (k : Int) | none => -1
theorem fidx_hit {α : Type} {l : List α} {p : α → Bool} {k : Nat} {x : α} (hk : l[k]? = some x) (hx : p x = true) (hj : ∀ j y, j < k → l[j]? = some y → p y = false) : fidx l p = k := by
  have h : l.findIdx? p = some k := by
    rw [List.findIdx?_eq_some_iff_getElem]
    have hl := (List.getElem?_eq_some_iff.1 hk).1
    refine ⟨hl, ?_, fun j hjk => ?_⟩
    · rw [(List.getElem?_eq_some_iff.1 hk).2]; exact hx
    · have := hj j _ hjk (List.getElem?_eq_getElem (by omega))
      simp [this]
  unfold fidx
  rw [h]
theorem fidx_miss {α : Type} {l : List α} {p : α → Bool} (hj : ∀ (j : Nat) (y : α), l[j]? = some y → p y = false) : fidx l p = -1 := by
  have h : l.findIdx? p = none := by
    rw [List.findIdx?_eq_none_iff]
    intro y hy
    obtain ⟨j, hj2⟩ := List.getElem?_of_mem hy
    exact hj j y hj2
  unfold fidx
  rw [h]

theorem fidx_neg {α : Type} (l : List α) (p : α → Bool) : decide (0 ≤ fidx l p) = l.any p := by
  unfold fidx
  cases h : l.findIdx? p with
  | none =>
    rw [List.findIdx?_eq_none_iff] at h
    have : l.any p = false := by
      rw [List.any_eq_false]
      intro x hx
      simp [h x hx]
    rw [this]
    rfl
  | some k =>
    obtain ⟨hk, h1, _⟩ := List.findIdx?_eq_some_iff_getElem.1 h
    have : l.any p = true := List.any_eq_true.2 ⟨_, List.getElem_mem hk, h1⟩
    rw [this]
    simp
theorem any_not {α : Type} (l : List α) (p : α → Bool) : (!l.any fun x => !p x) = l.all p := by
  rw [List.not_any_eq_all_not]
  congr 1
  funext x
  simp

theorem okI_any (x : It) (hs : x.name.size ≤ 9223372036854775807) (w : World) : Calls Try.prog 64 #[iv6 x] w fun e w' => e = .returned (.bool (okI x)) ∧ Grew w w' := by
  cases hu : x.used with
  | false =>
    by_cases hz : x = zit
    · subst hz
      unfold iv6 zit
      go_enter Try.func64, Try.ntmps64
      go_wp2
      go_returns
      exact ⟨rfl, by unfold Grew; go_grown⟩
    · have e : okI x = false := by unfold okI; rw [hu]; simp [hz]
      rw [e]
      obtain ⟨u, s, k, n, a, b⟩ := x
      simp only at hu
      subst hu
      have hz' : ¬ (s = ⟨#[]⟩ ∧ k = 0 ∧ n = 0 ∧ a = 0 ∧ b = 0) := by
        rintro ⟨rfl, rfl, rfl, rfl, rfl⟩
        exact hz rfl
      have hb : s.toList = [] → s = ⟨#[]⟩ := fun h => (Lib.bytes_beq_iff s ⟨#[]⟩).1 (by rw [h]; first | decide | simp | kernel_rfl)
      have HZ := Lib.hid hz'
      have HB := Lib.hid hb
      clear hz hz' hb e hs
      unfold iv6
      go_enter Try.func64, Try.ntmps64
      go_wp2
      all_goals go_returns
      all_goals refine ⟨?_, by unfold Grew; go_grown⟩
      all_goals first | rfl | exact absurd ⟨HB.out (by assumption), by assumption, by assumption, by assumption, by assumption⟩ HZ.out
  | true =>
    have e : okI x = (Chars.right x.name.data.toList && okH (hol x)) := by unfold okI; rw [hu]; rfl
    rw [e]
    clear e
    have HR := Lib.hid (fun W => Chars.right_any x.name hs W)
    have HL := Lib.hid (fun W => hol_any x W)
    have HO := Lib.hid (fun W => okH_any (hol x) W)
    unfold hv at HL HO
    unfold iv6 at HL
    rw [hu] at HL
    generalize Chars.right x.name.data.toList = p at *
    generalize okH (hol x) = q at *
    generalize hol x = ho at *
    obtain ⟨u, s, k, n, a, b⟩ := x
    obtain ⟨k2, n2, a2, b2⟩ := ho
    simp only at hu HL HR hs
    subst hu
    have G0 : Hid (Grew w (w.alloc (.cells #[.bool true, .string s, .int .i64 k, .int .i64 n, .int .i64 a, .int .i64 b] 67))) := Lib.hid (by unfold Grew; go_grown)
    clear hs
    unfold iv6
    simp only
    cases p with
    | false =>
      go_enter Try.func64, Try.ntmps64
      go_wp2_with fail
      refine (HR.out _).mono ?_
      rintro e w1 ⟨rfl, hw⟩
      subst hw
      go_wp2
      go_returns
      exact ⟨rfl, G0.out⟩
    | true =>
      go_enter Try.func64, Try.ntmps64
      go_wp2_with fail
      refine (HR.out _).mono ?_
      rintro e w1 ⟨rfl, hw⟩
      subst hw
      go_wp2_with fail
      refine (HL.out _).mono ?_
      rintro e w2 ⟨rfl, hg⟩
      have G1 := Lib.hid (G0.out.trans hg)
      clear hg
      go_wp2_with fail
      refine (HO.out _).mono ?_
      rintro e w3 ⟨rfl, hg⟩
      have G2 := Lib.hid (G1.out.trans hg)
      clear hg
      go_wp2
      go_returns
      exact ⟨by simp, G2.out⟩
theorem notI_any (x : It) (hs : x.name.size ≤ 9223372036854775807) (w : World) : Calls Try.prog 63 #[iv6 x] w fun e w' => e = .returned (.bool (!okI x)) ∧ Grew w w' := by
  have HO := Lib.hid (fun W => okI_any x hs W)
  generalize okI x = p at *
  unfold iv6 at *
  obtain ⟨u, s, k, n, a, b⟩ := x
  simp only at hs HO
  have G0 : Hid (Grew w (w.alloc (.cells #[.bool u, .string s, .int .i64 k, .int .i64 n, .int .i64 a, .int .i64 b] 67))) := Lib.hid (by unfold Grew; go_grown)
  clear hs
  go_enter Try.func63, Try.ntmps63
  go_wp2_with fail
  refine (HO.out _).mono ?_
  rintro e w1 ⟨rfl, hg⟩
  have G1 := Lib.hid (G0.out.trans hg)
  clear hg
  go_wp2
  go_returns
  exact ⟨by simp, G1.out⟩

theorem idxI (v : Value) (l : List It) (p : It → Bool) (w : World) (h : Its w v l)
    (hp : ∀ x, x ∈ l → ∀ W, Grew w W → Calls Try.prog 63 #[iv6 x] W fun e w' => e = .returned (.bool (p x)) ∧ Grew W w') :
    Calls Try.prog 98 #[v, .func (.func 63) #[] #[]] w fun e w' => e = .returned (.int .i64 (fidx l p)) ∧ Grew w w' := by
  have HL := Lib.hid h
  have HP := Lib.hid hp
  obtain ⟨A, cp, rfl, hc1, hc2⟩ := h.slice
  have HC2 := Lib.hid hc2
  clear h hp hc2
  have HH := Lib.hid (fun k x => @fidx_hit It l p k x)
  have HM := Lib.hid (@fidx_miss It l p)
  generalize fidx l p = res at *
  go_enter Try.func98, Try.ntmps98
  go_wp2
  go_loopg [8] l.length (fun g s8 wx => ∃ k : Nat, k + g = l.length ∧ s8 = .int .i64 k ∧ Hid (∀ j y, j < k → l[j]? = some y → p y = false) ∧ Hid (Grew w wx))
  case atStart => exact ⟨0, by omega, rfl, Lib.hid (fun j y h => absurd h (by omega)), Lib.hid (Grew.refl _)⟩
  case round =>
    obtain ⟨k, hkg, rfl, HJ, HG⟩ := hrel
    cases gk with
    | zero =>
      have hkz : ¬ ((k : Int) < (l.length : Int)) := by omega
      have HR : Hid (res = -1) := Lib.hid (HM.out fun j y hy => HJ.out j y (by have := (List.getElem?_eq_some_iff.1 hy).1; omega) hy)
      go_wp2
      go_returns
      refine ⟨?_, HG.out⟩
      rw [HR.out]
      try rfl
    | succ g =>
      have hkz : (k : Int) < (l.length : Int) := by omega
      have hkl : k < l.length := by omega
      have hx : l[k]? = some l[k] := List.getElem?_eq_getElem hkl
      obtain ⟨ad, c9, e, hc, c0, c1, c2, c3, c4, c5⟩ := Its_at (HL.out.grew HG.out) hx
      injection e with e1 _ e3
      subst e1 e3
      have HX := Lib.hid hx
      have HF := Lib.hid (HP.out l[k] (List.getElem_mem hkl))
      have hkw : wrap64 ((k : Int) + 1) = (k : Int) + 1 := by
        have hc2 := HC2.out
        unfold maxLen at hc2
        unfold wrap64
        omega
      generalize l[k] = x at c0 c1 c2 c3 c4 c5 HX HF
      clear hx hkl
      cases hpx : p x with
      | true =>
        rw [hpx] at HF
        have HR : Hid (res = k) := Lib.hid (HH.out _ _ HX.out hpx HJ.out)
        clear HX hpx
        go_wp2_with fail
        refine (HF.out _ HG.out).mono ?_
        rintro e w2 ⟨rfl, hg⟩
        have G2 := Lib.hid (HG.out.trans hg)
        clear hg c0 c1 c2 c3 c4 c5
        go_wp2
        go_returns
        refine ⟨?_, G2.out⟩
        rw [HR.out]
        try rfl
      | false =>
        have HN : Hid (∀ j y, j < k + 1 → l[j]? = some y → p y = false) := Lib.hid fun j y hj hy => by
          by_cases hjk : j = k
          · subst hjk
            rw [HX.out] at hy
            cases hy
            exact hpx
          · exact HJ.out j y (by omega) hy
        rw [hpx] at HF
        clear HX hpx
        go_wp2_with fail
        refine (HF.out _ HG.out).mono ?_
        rintro e w2 ⟨rfl, hg⟩
        have G2 := Lib.hid (HG.out.trans hg)
        clear hg c0 c1 c2 c3 c4 c5
        go_wp2
        go_roundg g
        case measure => omega
        case rel => exact ⟨k + 1, by omega, by first | rfl | simp [hkw] | simp, HN, G2⟩

theorem contI (v : Value) (l : List It) (p : It → Bool) (w : World) (h : Its w v l)
    (hp : ∀ x, x ∈ l → ∀ W, Grew w W → Calls Try.prog 63 #[iv6 x] W fun e w' => e = .returned (.bool (p x)) ∧ Grew W w') :
    Calls Try.prog 62 #[v, .func (.func 63) #[] #[]] w fun e w' => e = .returned (.bool (l.any p)) ∧ Grew w w' := by
  have HI := Lib.hid (idxI v l p w h hp)
  rw [← fidx_neg]
  generalize fidx l p = res at *
  obtain ⟨A, cp, rfl, _⟩ := h.slice
  clear h hp
  by_cases hr : 0 ≤ res
  all_goals
    go_enter Try.func62, Try.ntmps62
    go_wp2_with fail
    refine HI.out.mono ?_
    rintro e w2 ⟨rfl, hg⟩
    have G2 := Lib.hid hg
    clear hg
    go_wp2
    go_returns
    exact ⟨by simp [hr], G2.out⟩

/-- Texts that a machine holds. -/
def Sz (l : List It) : Prop := ∀ x ∈ l, x.name.size ≤ 9223372036854775807
theorem right_any (v : Value) (l : List It) (w : World) (h : Its w v l) (hs : Sz l) : Calls Try.prog 22 #[v] w fun e w' => e = .returned (.bool (okL l)) ∧ Grew w w' := by
  have HC := Lib.hid (contI v l (fun x => !okI x) w h fun x hx W _ => notI_any x (hs x hx) W)
  have e : okL l = !(l.any fun x => !okI x) := (any_not l okI).symm
  rw [e]
  clear e
  generalize (l.any fun x => !okI x) = p at *
  obtain ⟨A, cp, rfl, _⟩ := h.slice
  clear h hs
  go_enter Try.func22, Try.ntmps22
  go_wp2_with fail
  refine HC.out.mono ?_
  rintro e w1 ⟨rfl, hg⟩
  have G1 := Lib.hid hg
  clear hg
  go_wp2
  go_returns
  exact ⟨by simp, G1.out⟩
end Go.Proofs.Ytaolallfmjjoeaa.TC
