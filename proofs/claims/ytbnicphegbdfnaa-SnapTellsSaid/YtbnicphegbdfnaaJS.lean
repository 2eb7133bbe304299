/-
  Whether two rows of rows of bytes are the same.
  Conditions: those that each lemma names.
-/
import Derived.Test.YtbnicphegbdfnaaJF
namespace Go.Proofs.Ytbnicphegbdfnaa.JS
set_option maxRecDepth 100000
set_option maxRecDepth 100000
open Go Go.RowKit Go.Proofs.Ytbnicphegbdfnaa Go.Proofs.Ytbnicphegbdfnaa.Facts Go.Proofs.Ytbnicphegbdfnaa.Bytes Go.Proofs.Ytbnicphegbdfnaa.DKeep Go.Proofs.Ytbnicphegbdfnaa.DSmall Go.Proofs.Ytbnicphegbdfnaa.Puts Go.Proofs.Ytbnicphegbdfnaa.JF

/-- A row of rows of bytes, as it is read. -/
def RR (w : World) (v : Value) (l : List (List UInt8)) : Prop := ∃ A c, v = .slice A l.length c ∧ ∀ (i : Nat) (x : List UInt8), l[i]? = some x → ∃ ad A2 c2, A = some ad ∧ w.cell? (ad.add i) = some (.slice A2 x.length c2) ∧ Rd (fun b => b < w.heap.size) w (.slice A2 x.length c2) x
theorem RR.of_bs {base : Nat} {w : World} {v : Value} {l : List (List UInt8)} (h : BS base w v l) : RR w v l := by
  obtain ⟨ws, ho, he⟩ := h
  obtain ⟨A, c, rfl⟩ := own_sl ho
  refine ⟨A, c, rfl, fun i x hx => ?_⟩
  obtain ⟨u, hu, hr⟩ := he i x hx
  rcases ho.2 with ⟨_, h0⟩ | ⟨g, cap, cur, hsl, _⟩
  · have := (List.getElem?_eq_some_iff.1 hx).1; omega
  injection hsl with hs1 _ _
  obtain ⟨A2, c2, rfl, _⟩ := id hr
  exact ⟨⟨g, 0, none⟩, A2, c2, hs1, ho.cells (g := g) (by rw [hs1]; rfl) i _ hu, hr.mono fun b hb => hb.1⟩
theorem take_same (a b : List (List UInt8)) (i : Nat) (h : a.take i = b.take i) (x y : List UInt8) (hx : a[i]? = some x) (hy : b[i]? = some y) : (a.take (i + 1) = b.take (i + 1)) ↔ x = y := by
  rw [List.take_add_one, List.take_add_one, hx, hy, h]
  simp
set_option maxHeartbeats 2000000 in
theorem same_any (w : World) (va vb : Value) (a b : List (List UInt8)) (ha : RR w va a) (hb : RR w vb b) (hl : a.length ≤ 9223372036854775807) (hl2 : b.length ≤ 9223372036854775807) :
    Calls Try.prog 36 #[va, vb] w fun e w' => e = .returned (.bool (decide (a = b))) ∧ Grew w w' := by
  obtain ⟨A, ca, rfl, qa⟩ := ha
  obtain ⟨B, cb, rfl, qb⟩ := hb
  have HQA := Lib.hid qa
  have HQB := Lib.hid qb
  clear qa qb
  by_cases hn : a.length = b.length
  · have hn' : ¬ ((a.length : Int) ≠ (b.length : Int)) := by omega
    have HN := Lib.hid hn
    have hd : ∃ r, decide (a = b) = r := ⟨_, rfl⟩
    obtain ⟨r, hr⟩ := hd
    rw [hr]
    have HRR := Lib.hid hr
    have hne : ((a.length : Int) != (b.length : Int)) = false := by simp; omega
    clear hr hn'
    go_enter Try.func36, Try.ntmps36
    go_wp2
    go_loopg [5] a.length (fun q s2 wx => ∃ (i : Nat), i + q = a.length ∧ s2 = .int .i64 (i : Int) ∧ Hid (Grew w wx) ∧ Hid (a.take i = b.take i))
    case atStart => exact ⟨0, Nat.zero_add _, rfl, Lib.hid (Grew.refl _), Lib.hid rfl⟩
    case round =>
      obtain ⟨i, hiq, rfl, HG, HT⟩ := hrel
      cases gk with
      | zero =>
        have hlt : ¬ ((i : Int) < (a.length : Int)) := by omega
        have he : a = b := by
          have := HT.out
          have h2 := HN.out
          rwa [List.take_of_length_le (by omega), List.take_of_length_le (by omega)] at this
        have hrt : r = true := by rw [← HRR.out]; exact decide_eq_true he
        subst hrt
        have HE := Lib.hid he
        clear he
        go_wp2
        go_ret
        exact ⟨rfl, HG.out⟩
      | succ q =>
        have hlt : (i : Int) < (a.length : Int) := by omega
        have hltb : (i : Int) < (b.length : Int) := by have := HN.out; omega
        obtain ⟨x, hx⟩ : ∃ x, a[i]? = some x := ⟨_, List.getElem?_eq_getElem (by omega)⟩
        obtain ⟨y, hy⟩ : ∃ y, b[i]? = some y := ⟨_, List.getElem?_eq_getElem (by have := HN.out; omega)⟩
        obtain ⟨ad, A2, c2, rfl, hcx0, hrx⟩ := HQA.out i x hx
        obtain ⟨bd, B2, d2, rfl, hcy0, hry⟩ := HQB.out i y hy
        have hcx : wr.cell? (ad.add i) = some (.slice A2 x.length c2) := DWrite.cellB HG.out hcx0
        have hcy : wr.cell? (bd.add i) = some (.slice B2 y.length d2) := DWrite.cellB HG.out hcy0
        have kx := Nums.conv22 ((hrx.grew HG.out).drew)
        have ky := Nums.conv22 ((hry.grew HG.out).drew)
        clear hcx0 hcy0
        have hts := take_same a b i HT.out x y hx hy
        have HTS := Lib.hid hts
        have hwi : IntKind.i64.wrap ((i : Int) + 1) = (i : Int) + 1 := IntWalk.i64_in _ (by omega)
        have HXA := Lib.hid hx
        have HYA := Lib.hid hy
        clear hts hrx hry hx hy
        by_cases hxy : x = y
        · have HT2 : Hid (a.take (i + 1) = b.take (i + 1)) := Lib.hid (HTS.out.2 hxy)
          have hbb : (x == y) = true := by simpa using hxy
          clear hxy
          go_wp2
          go_region
          go_wp2
          go_roundg q
          case measure => omega
          case rel => exact ⟨i + 1, by omega, by first | rfl | simp, Lib.hid HG.out.drew, HT2⟩
        · have hbb : (x == y) = false := by simpa using hxy
          have hrf : r = false := by
            rw [← HRR.out]
            refine decide_eq_false fun h => ?_
            have h1 := HXA.out
            rw [h, HYA.out] at h1
            injection h1 with h1
            exact hxy h1.symm
          subst hrf
          have HXY := Lib.hid hxy
          clear hxy
          go_wp2
          go_region
          go_wp2
          go_ret
          exact ⟨rfl, HG.out.drew⟩
  · have hne : ((a.length : Int) != (b.length : Int)) = true := by simp; omega
    have hd : decide (a = b) = false := decide_eq_false fun h => hn (by rw [h])
    rw [hd]
    clear hn hd
    go_enter Try.func36, Try.ntmps36
    go_wp2
    go_ret
    exact ⟨rfl, Grew.refl _⟩
end Go.Proofs.Ytbnicphegbdfnaa.JS
