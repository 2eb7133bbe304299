/-
  Which letters may be.
  Conditions: those that each lemma names.
-/
import Derived.Test.YtcbaaeihppchiaaPB
import Derived.Test.YtcbaaeihppchiaaChars
namespace Go.Proofs.Ytcbaaeihppchiaa.PD
set_option maxRecDepth 100000
open Go Go.RowKit Go.Lib Go.Proofs.Ytcbaaeihppchiaa Go.Proofs.Ytcbaaeihppchiaa.Facts Go.Proofs.Ytcbaaeihppchiaa.Ints Go.Proofs.Ytcbaaeihppchiaa.PA Go.Proofs.Ytcbaaeihppchiaa.PB Go.Proofs.Ytcbaaeihppchiaa.Chars Go.Proofs.Ytcbaaeihppchiaa.Bytes


theorem num_any (n : Int) (w : World) : Calls Try.prog 43 #[.int .i64 n] w fun e w' => e = .returned (.bool (num n)) ∧ Grew w w' := by
  rcases num_cases n with ⟨h, h2, e⟩ | ⟨h, e⟩ | ⟨h, h2, e⟩
  all_goals
    rw [e]
    clear e
    go_enter Try.func43, Try.ntmps43
    go_wp2
    go_returns
    exact ⟨rfl, Grew.refl _⟩
theorem five_c {W : World} {B t : Nat} {a b c d x : Value} (h : W.heap[B]? = some (.cells #[a, b, c, d, x] t (0, 0))) :
    W.cell? ⟨B, 0, none⟩ = some a ∧ W.cell? ⟨B, 1, none⟩ = some b ∧ W.cell? ⟨B, 2, none⟩ = some c ∧ W.cell? ⟨B, 3, none⟩ = some d ∧ W.cell? ⟨B, 4, none⟩ = some x := by
  refine ⟨?_, ?_, ?_, ?_, ?_⟩
  all_goals rw [cell_of_row _ _ _ _ _ _ h]; rfl
theorem dec5 (x y : Ml) : decide (x = y) = (decide (x.used = y.used) && (decide (x.lab = y.lab) && (decide (x.frm = y.frm) && (decide (x.to = y.to) && decide (x.text = y.text))))) := by
  cases x
  cases y
  rw [Bool.eq_iff_iff]
  simp [Ml.mk.injEq]
theorem eqM (x y : Ml) (W : World) : (binOp .eql 23 (mlv x) (mlv y)).run Try.prog W = .ok (.bool (decide (x = y))) W := by
  rw [dec5]
  unfold mlv
  obtain ⟨u, k, n, a, s⟩ := x
  obtain ⟨u2, k2, n2, a2, s2⟩ := y
  have hs : s.toList = s2.toList ↔ s = s2 := by simpa using Lib.bytes_beq_iff s s2
  go_simp
  by_cases h0 : u = u2 <;> by_cases h9 : s = s2 <;> by_cases h1 : k = k2 <;> by_cases h2 : n = n2 <;> by_cases h3 : a = a2 <;> simp [h0, h1, h2, h3, h9]
theorem neM (x y : Ml) (W : World) : (binOp .neq 23 (mlv x) (mlv y)).run Try.prog W = .ok (.bool (!decide (x = y))) W := by
  rw [dec5]
  unfold mlv
  obtain ⟨u, k, n, a, s⟩ := x
  obtain ⟨u2, k2, n2, a2, s2⟩ := y
  have hs : s.toList = s2.toList ↔ s = s2 := by simpa using Lib.bytes_beq_iff s s2
  go_simp
  by_cases h0 : u = u2 <;> by_cases h9 : s = s2 <;> by_cases h1 : k = k2 <;> by_cases h2 : n = n2 <;> by_cases h3 : a = a2 <;> simp [h0, h1, h2, h3, h9, hs]
def numM (x : Ml) : Bool := num x.lab && num x.frm && num x.to
theorem numM_any (x : Ml) (w : World) : Calls Try.prog 20 #[mlv x] w fun e w' => e = .returned (.bool (numM x)) ∧ Grew w w' := by
  obtain ⟨u, lab, frm, to, s⟩ := x
  have H1 := Lib.hid (fun W => num_any lab W)
  have H2 := Lib.hid (fun W => num_any frm W)
  have H3 := Lib.hid (fun W => num_any to W)
  unfold numM mlv
  simp only
  have G0 : Hid (Grew w (w.alloc (.cells #[.bool u, .int .i64 lab, .int .i64 frm, .int .i64 to, .string s] 23))) := Lib.hid (by unfold Grew; go_grown)
  have A0 := Lib.hid (blk_new w (.cells #[.bool u, .int .i64 lab, .int .i64 frm, .int .i64 to, .string s] 23))
  generalize num lab = p at *
  generalize num frm = q at *
  generalize num to = r at *
  cases p with
  | false =>
    go_enter Try.func20, Try.ntmps20
    go_wp2_with fail
    refine (H1.out _).mono ?_
    rintro e w1 ⟨rfl, hg⟩
    have G1 := Lib.hid (G0.out.trans hg)
    clear hg
    go_wp2
    go_returns
    exact ⟨by simp, G1.out⟩
  | true =>
    cases q with
    | false =>
      go_enter Try.func20, Try.ntmps20
      go_wp2_with fail
      refine (H1.out _).mono ?_
      rintro e w1 ⟨rfl, hg⟩
      have G1 := Lib.hid (G0.out.trans hg)
      have A1 := Lib.hid (keepB A0.out hg)
      clear hg
      obtain ⟨c0, c1, c2, c3, c4⟩ := five_c A1.out
      go_wp2_with fail
      refine (H2.out _).mono ?_
      rintro e w2 ⟨rfl, hg⟩
      have G2 := Lib.hid (G1.out.trans hg)
      clear hg c0 c1 c2 c3 c4
      go_wp2
      go_returns
      exact ⟨by simp, G2.out⟩
    | true =>
      go_enter Try.func20, Try.ntmps20
      go_wp2_with fail
      refine (H1.out _).mono ?_
      rintro e w1 ⟨rfl, hg⟩
      have G1 := Lib.hid (G0.out.trans hg)
      have A1 := Lib.hid (keepB A0.out hg)
      clear hg
      obtain ⟨c0, c1, c2, c3, c4⟩ := five_c A1.out
      go_wp2_with fail
      refine (H2.out _).mono ?_
      rintro e w2 ⟨rfl, hg⟩
      have G2 := Lib.hid (G1.out.trans hg)
      have A2 := Lib.hid (keepB A1.out hg)
      clear hg c0 c1 c2 c3 c4
      obtain ⟨c0, c1, c2, c3, c4⟩ := five_c A2.out
      go_wp2_with fail
      refine (H3.out _).mono ?_
      rintro e w3 ⟨rfl, hg⟩
      have G3 := Lib.hid (G2.out.trans hg)
      clear hg c0 c1 c2 c3 c4
      go_wp2
      go_returns
      exact ⟨by simp, G3.out⟩
def okM (x : Ml) : Bool := if x.used then numM x && Chars.text x.text.data.toList else decide (x = zml)
theorem rm_any (x : Ml) (hs : x.text.size ≤ 9223372036854775807) (w : World) : Calls Try.prog 29 #[mlv x] w fun e w' => e = .returned (.bool (okM x)) ∧ Grew w w' := by
  cases hu : x.used with
  | false =>
    have e : okM x = decide (x = zml) := by unfold okM; rw [hu]; rfl
    rw [e]
    have heq := fun W => eqM x zml W
    generalize decide (x = zml) = b at *
    clear e
    obtain ⟨u, lab, frm, to, s⟩ := x
    simp only at hu
    subst hu
    unfold mlv zml at heq
    simp only at heq
    have G0 : Hid (Grew w (w.alloc (.cells #[.bool false, .int .i64 lab, .int .i64 frm, .int .i64 to, .string s] 23))) := Lib.hid (by unfold Grew; go_grown)
    clear hs
    unfold mlv
    simp only
    go_enter Try.func29, Try.ntmps29
    go_wp2
    go_returns
    exact ⟨rfl, G0.out⟩
  | true =>
    have e : okM x = (numM x && Chars.text x.text.data.toList) := by unfold okM; rw [hu]; rfl
    rw [e]
    clear e
    have HNM := Lib.hid (fun W => numM_any x W)
    have HT := Lib.hid (fun W => Chars.text_any x.text hs W)
    generalize numM x = p at *
    generalize Chars.text x.text.data.toList = q at *
    obtain ⟨u, lab, frm, to, s⟩ := x
    simp only at hu HT
    subst hu
    have G0 : Hid (Grew w (w.alloc (.cells #[.bool true, .int .i64 lab, .int .i64 frm, .int .i64 to, .string s] 23))) := Lib.hid (by unfold Grew; go_grown)
    have A0 := Lib.hid (blk_new w (.cells #[.bool true, .int .i64 lab, .int .i64 frm, .int .i64 to, .string s] 23))
    clear hs
    unfold mlv at HNM ⊢
    simp only at HNM ⊢
    cases p with
    | false =>
      go_enter Try.func29, Try.ntmps29
      go_wp2_with fail
      refine (HNM.out _).mono ?_
      rintro e w1 ⟨rfl, hg⟩
      have G1 := Lib.hid (G0.out.trans hg)
      clear hg
      go_wp2
      go_returns
      exact ⟨by simp, G1.out⟩
    | true =>
      go_enter Try.func29, Try.ntmps29
      go_wp2_with fail
      refine (HNM.out _).mono ?_
      rintro e w1 ⟨rfl, hg⟩
      have G1 := Lib.hid (G0.out.trans hg)
      have A1 := Lib.hid (keepB A0.out hg)
      clear hg
      obtain ⟨c0, c1, c2, c3, c4⟩ := five_c A1.out
      go_wp2_with fail
      refine (HT.out _).mono ?_
      rintro e w2 ⟨rfl, hw⟩
      subst hw
      go_wp2
      go_returns
      exact ⟨by simp, G1.out⟩
theorem notM_any (x : Ml) (hs : x.text.size ≤ 9223372036854775807) (w : World) : Calls Try.prog 28 #[mlv x] w fun e w' => e = .returned (.bool (!okM x)) ∧ Grew w w' := by
  have HO := Lib.hid (fun W => rm_any x hs W)
  generalize okM x = p at *
  unfold mlv at *
  obtain ⟨u, lab, frm, to, s⟩ := x
  simp only at hs HO
  have G0 : Hid (Grew w (w.alloc (.cells #[.bool u, .int .i64 lab, .int .i64 frm, .int .i64 to, .string s] 23))) := Lib.hid (by unfold Grew; go_grown)
  clear hs
  go_enter Try.func28, Try.ntmps28
  go_wp2_with fail
  refine (HO.out _).mono ?_
  rintro e w1 ⟨rfl, hg⟩
  have G1 := Lib.hid (G0.out.trans hg)
  clear hg
  go_wp2
  go_returns
  exact ⟨by simp, G1.out⟩

theorem idxM (v : Value) (l : List Ml) (p : Ml → Bool) (w : World) (h : Mls w v l)
    (hp : ∀ x, x ∈ l → ∀ W, Grew w W → Calls Try.prog 28 #[mlv x] W fun e w' => e = .returned (.bool (p x)) ∧ Grew W w') :
    Calls Try.prog 53 #[v, .func (.func 28) #[] #[]] w fun e w' => e = .returned (.int .i64 (fidx l p)) ∧ Grew w w' := by
  have HL := Lib.hid h
  have HP := Lib.hid hp
  obtain ⟨A, cp, rfl, hc1, hc2⟩ := h.slice
  have HC2 := Lib.hid hc2
  clear h hp hc2
  have HH := Lib.hid (fun k x => @fidx_hit Ml l p k x)
  have HM := Lib.hid (@fidx_miss Ml l p)
  generalize fidx l p = res at *
  go_enter Try.func53, Try.ntmps53
  go_wp2
  go_loopg [8] l.length (fun g s8 wx => ∃ k : Nat, k + g = l.length ∧ s8 = .int .i64 k ∧ Hid (∀ j y, j < k → l[j]? = some y → p y = false) ∧ Hid (Grew w wx))
  case atStart => exact ⟨0, by omega, rfl, Lib.hid (fun j y h => absurd h (by omega)), Lib.hid (Grew.refl _)⟩
  case round =>
    obtain ⟨k, hkg, rfl, HJ, HG⟩ := hrel
    cases gk with
    | zero =>
      have hkz : ¬ ((k : Int) < (l.length : Int)) := by omega
      have HR : Hid (res = -1) := Lib.hid (HM.out fun j y hy => HJ.out j y (by have := (List.getElem?_eq_some_iff.1 hy).1; omega) hy)
      go_wp2
      go_returns
      refine ⟨?_, HG.out⟩
      rw [HR.out]
      try rfl
    | succ g =>
      have hkz : (k : Int) < (l.length : Int) := by omega
      have hkl : k < l.length := by omega
      have hx : l[k]? = some l[k] := List.getElem?_eq_getElem hkl
      obtain ⟨ad, c9, e, hc, c0, c1, c2, c3, c4⟩ := Mls_at (HL.out.grew HG.out) hx
      injection e with e1 _ e3
      subst e1 e3
      have HX := Lib.hid hx
      have HF := Lib.hid (HP.out l[k] (List.getElem_mem hkl))
      have hkw : wrap64 ((k : Int) + 1) = (k : Int) + 1 := by
        have hc2 := HC2.out
        unfold maxLen at hc2
        unfold wrap64
        omega
      generalize l[k] = x at c0 c1 c2 c3 c4 HX HF
      clear hx hkl
      cases hpx : p x with
      | true =>
        rw [hpx] at HF
        have HR : Hid (res = k) := Lib.hid (HH.out _ _ HX.out hpx HJ.out)
        clear HX hpx
        go_wp2_with fail
        refine (HF.out _ HG.out).mono ?_
        rintro e w2 ⟨rfl, hg⟩
        have G2 := Lib.hid (HG.out.trans hg)
        clear hg c0 c1 c2 c3 c4
        go_wp2
        go_returns
        refine ⟨?_, G2.out⟩
        rw [HR.out]
        try rfl
      | false =>
        have HN : Hid (∀ j y, j < k + 1 → l[j]? = some y → p y = false) := Lib.hid fun j y hj hy => by
          by_cases hjk : j = k
          · subst hjk
            rw [HX.out] at hy
            cases hy
            exact hpx
          · exact HJ.out j y (by omega) hy
        rw [hpx] at HF
        clear HX hpx
        go_wp2_with fail
        refine (HF.out _ HG.out).mono ?_
        rintro e w2 ⟨rfl, hg⟩
        have G2 := Lib.hid (HG.out.trans hg)
        clear hg c0 c1 c2 c3 c4
        go_wp2
        go_roundg g
        case measure => omega
        case rel => exact ⟨k + 1, by omega, by first | rfl | simp [hkw] | simp, HN, G2⟩

theorem contM (v : Value) (l : List Ml) (p : Ml → Bool) (w : World) (h : Mls w v l)
    (hp : ∀ x, x ∈ l → ∀ W, Grew w W → Calls Try.prog 28 #[mlv x] W fun e w' => e = .returned (.bool (p x)) ∧ Grew W w') :
    Calls Try.prog 27 #[v, .func (.func 28) #[] #[]] w fun e w' => e = .returned (.bool (l.any p)) ∧ Grew w w' := by
  have HI := Lib.hid (idxM v l p w h hp)
  rw [← fidx_neg]
  generalize fidx l p = res at *
  obtain ⟨A, cp, rfl, _⟩ := h.slice
  clear h hp
  by_cases hr : 0 ≤ res
  all_goals
    go_enter Try.func27, Try.ntmps27
    go_wp2_with fail
    refine HI.out.mono ?_
    rintro e w2 ⟨rfl, hg⟩
    have G2 := Lib.hid hg
    clear hg
    go_wp2
    go_returns
    exact ⟨by simp [hr], G2.out⟩

def SzM (l : List Ml) : Prop := ∀ x ∈ l, x.text.size ≤ 9223372036854775807
def okMs (l : List Ml) : Bool := l.all okM
theorem mails_any (v : Value) (l : List Ml) (w : World) (h : Mls w v l) (hs : SzM l) : Calls Try.prog 10 #[v] w fun e w' => e = .returned (.bool (okMs l)) ∧ Grew w w' := by
  have HC := Lib.hid (contM v l (fun x => !okM x) w h fun x hx W _ => notM_any x (hs x hx) W)
  have e : okMs l = !(l.any fun x => !okM x) := (any_not l okM).symm
  rw [e]
  clear e
  generalize (l.any fun x => !okM x) = p at *
  obtain ⟨A, cp, rfl, _⟩ := h.slice
  clear h hs
  go_enter Try.func10, Try.ntmps10
  go_wp2_with fail
  refine HC.out.mono ?_
  rintro e w1 ⟨rfl, hg⟩
  have G1 := Lib.hid hg
  clear hg
  go_wp2
  go_returns
  exact ⟨by simp, G1.out⟩
end Go.Proofs.Ytcbaaeihppchiaa.PD
