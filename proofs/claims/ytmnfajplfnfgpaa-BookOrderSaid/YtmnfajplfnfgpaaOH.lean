/-
  Which one of two orders is the better one; the closures of best; DeleteFunc.
  Conditions: those that each lemma names.
-/
import Derived.Test.YtmnfajplfnfgpaaOG
import Derived.Lib.Hide
import Derived.Sort.Grow
namespace Go.Proofs.Ytmnfajplfnfgpaa.OH
set_option maxRecDepth 100000
open Go Go.RowKit Go.Lib Go.Proofs.Ytmnfajplfnfgpaa Go.Proofs.Ytmnfajplfnfgpaa.Facts Go.Proofs.Ytmnfajplfnfgpaa.Ints Go.Proofs.Ytmnfajplfnfgpaa.PA Go.Proofs.Ytmnfajplfnfgpaa.UM Go.Proofs.Ytmnfajplfnfgpaa.UB Go.Proofs.Ytmnfajplfnfgpaa.OA Go.Proofs.Ytmnfajplfnfgpaa.BP Go.Proofs.Ytmnfajplfnfgpaa.OB Go.Proofs.Ytmnfajplfnfgpaa.OC Go.Proofs.Ytmnfajplfnfgpaa.OD Go.Proofs.Ytmnfajplfnfgpaa.OE Go.Proofs.Ytmnfajplfnfgpaa.OF Go.Proofs.Ytmnfajplfnfgpaa.OG Go.Proofs.Ytmnfajplfnfgpaa.Bytes

/-- What is kept of the first j numbers lies at the row's head. -/
structure Kept (p : Int → Bool) (a : List Int) (i j : Nat) (d : List Int) : Prop where
  len : d.length = a.length
  lt : i < j
  le : j ≤ a.length
  low : d.take i = (a.take j).filter fun x => !p x
  high : ∀ m, j ≤ m → d[m]? = a[m]?
theorem Kept.start {p : Int → Bool} {a : List Int} {k : Nat} (hk : k < a.length) (h : (a.take k).filter (fun x => !p x) = a.take k) (h1 : p a[k] = true) : Kept p a k (k + 1) a where
  len := rfl
  lt := by omega
  le := by omega
  low := by rw [List.take_succ_eq_append_getElem hk, List.filter_append, h]; simp [h1]
  high := fun _ _ => rfl
theorem Kept.skip {p : Int → Bool} {a d : List Int} {i j : Nat} (h : Kept p a i j d) (hj : j < a.length) (h1 : p a[j] = true) : Kept p a i (j + 1) d where
  len := h.len
  lt := by have := h.lt; omega
  le := by omega
  low := by rw [h.low, List.take_succ_eq_append_getElem hj, List.filter_append]; simp [h1]
  high := fun m hm => h.high m (by omega)
theorem Kept.keep {p : Int → Bool} {a d : List Int} {i j : Nat} (h : Kept p a i j d) (hj : j < a.length) (h1 : p a[j] = false) : Kept p a (i + 1) (j + 1) (d.set i a[j]) where
  len := by rw [List.length_set, h.len]
  lt := by have := h.lt; omega
  le := by omega
  low := by
    have := h.lt
    have := h.len
    rw [List.take_succ_eq_append_getElem (by rw [List.length_set]; omega), List.getElem_set_self, List.take_set_of_le (Nat.le_refl _), h.low, List.take_succ_eq_append_getElem hj, List.filter_append]
    simp [h1]
  high := fun m hm => by
    have := h.lt
    rw [List.getElem?_set_ne (by omega)]
    exact h.high m (by omega)
theorem Kept.done {p : Int → Bool} {a d : List Int} {i : Nat} (h : Kept p a i a.length d) : d.take i = a.filter fun x => !p x := by
  have := h.low
  rwa [List.take_length] at this

theorem idxN (v : Value) (l : List Int) (p : Int → Bool) (L B : Nat) (w : World) (h : Is w v l)
    (hp : ∀ x, x ∈ l → ∀ W, Grew w W → Calls Try.prog 65 #[.int .i64 x, .pointer (some ⟨L, 0, none⟩), .pointer (some ⟨B, 0, none⟩)] W fun e w' => e = .returned (.bool (p x)) ∧ Grew W w') :
    Calls Try.prog 70 #[v, .func (.func 65) #[] #[.pointer (some ⟨L, 0, none⟩), .pointer (some ⟨B, 0, none⟩)]] w fun e w' => e = .returned (.int .i64 (fidx l p)) ∧ Grew w w' := by
  have HL := Lib.hid h
  have HP := Lib.hid hp
  obtain ⟨A, cp, rfl, hc1, hc2⟩ := Is.slice h
  have HC2 := Lib.hid hc2
  clear h hp hc2
  have HH := Lib.hid (fun k x => @fidx_hit Int l p k x)
  have HM := Lib.hid (@fidx_miss Int l p)
  generalize fidx l p = res at *
  go_enter Try.func70, Try.ntmps70
  go_wp2
  go_loopg [8] l.length (fun g s8 wx => ∃ k : Nat, k + g = l.length ∧ s8 = .int .i64 k ∧ Hid (∀ j y, j < k → l[j]? = some y → p y = false) ∧ Hid (Grew w wx))
  case atStart => exact ⟨0, by omega, rfl, Lib.hid (fun j y h => absurd h (by omega)), Lib.hid (Grew.refl _)⟩
  case round =>
    obtain ⟨k, hkg, rfl, HJ, HG⟩ := hrel
    cases gk with
    | zero =>
      have hkz : ¬ ((k : Int) < (l.length : Int)) := by omega
      have HR : Hid (res = -1) := Lib.hid (HM.out fun j y hy => HJ.out j y (by have := (List.getElem?_eq_some_iff.1 hy).1; omega) hy)
      go_wp2
      go_returns
      refine ⟨?_, HG.out⟩
      rw [HR.out]
      try rfl
    | succ g =>
      have hkz : (k : Int) < (l.length : Int) := by omega
      have hkl : k < l.length := by omega
      have hx : l[k]? = some l[k] := List.getElem?_eq_getElem hkl
      obtain ⟨ad, c9, e, hc, c0⟩ := Is_at (HL.out.grew HG.out) hx
      injection e with e1 _ e3
      subst e1 e3
      have HX := Lib.hid hx
      have HF := Lib.hid (HP.out l[k] (List.getElem_mem hkl))
      have hkw : wrap64 ((k : Int) + 1) = (k : Int) + 1 := by
        have hc2 := HC2.out
        unfold maxLen at hc2
        unfold wrap64
        omega
      generalize l[k] = x at c0 HX HF
      clear hx hkl
      cases hpx : p x with
      | true =>
        rw [hpx] at HF
        have HR : Hid (res = k) := Lib.hid (HH.out _ _ HX.out hpx HJ.out)
        clear HX hpx
        go_wp2_with fail
        refine (HF.out _ HG.out).mono ?_
        rintro e w2 ⟨rfl, hg⟩
        have G2 := Lib.hid (HG.out.trans hg)
        clear hg c0
        go_wp2
        go_returns
        refine ⟨?_, G2.out⟩
        rw [HR.out]
        try rfl
      | false =>
        have HN : Hid (∀ j y, j < k + 1 → l[j]? = some y → p y = false) := Lib.hid fun j y hj hy => by
          by_cases hjk : j = k
          · subst hjk
            rw [HX.out] at hy
            cases hy
            exact hpx
          · exact HJ.out j y (by omega) hy
        rw [hpx] at HF
        clear HX hpx
        go_wp2_with fail
        refine (HF.out _ HG.out).mono ?_
        rintro e w2 ⟨rfl, hg⟩
        have G2 := Lib.hid (HG.out.trans hg)
        clear hg c0
        go_wp2
        go_roundg g
        case measure => omega
        case rel => exact ⟨k + 1, by omega, by first | rfl | simp [hkw] | simp, HN, G2⟩

/-- A row of numbers that lies from block b on. -/
def IsB (b : Nat) (w : World) (v : Value) (l : List Int) : Prop :=
  ∃ (A : Option Addr) (c : Nat), v = .slice A l.length c ∧ l.length ≤ c ∧ c ≤ maxLen ∧ (A = none → c = 0) ∧
    ∀ ad, A = some ad → b ≤ ad.block ∧ ∀ j u, (iv l)[j]? = some u → w.cell? (ad.add j) = some u
theorem IsB.is {b : Nat} {w : World} {v : Value} {l : List Int} (h : IsB b w v l) : Is w v l := by
  obtain ⟨A, c, e, h1, h2, h3, h4⟩ := h
  exact ⟨A, c, e, h1, h2, h3, fun ad ha => (h4 ad ha).2⟩
theorem IsB.grew {b : Nat} {w w' : World} {v : Value} {l : List Int} (h : IsB b w v l) (hg : Grew w w') : IsB b w' v l := by
  obtain ⟨A, c, e, h1, h2, h3, h4⟩ := h
  exact ⟨A, c, e, h1, h2, h3, fun ad ha => ⟨(h4 ad ha).1, fun j u hu => cellG hg ((h4 ad ha).2 j u hu)⟩⟩
theorem IsB.mono {b b' : Nat} {w : World} {v : Value} {l : List Int} (h : IsB b w v l) (hb : b' ≤ b) : IsB b' w v l := by
  obtain ⟨A, c, e, h1, h2, h3, h4⟩ := h
  exact ⟨A, c, e, h1, h2, h3, fun ad ha => ⟨Nat.le_trans hb (h4 ad ha).1, (h4 ad ha).2⟩⟩
theorem IsB.set {b g i : Nat} {w : World} {v u : Value} {l : List Int} (h : IsB b w v l) (hg : g < b) : IsB b (w.setCell ⟨g, i, none⟩ u) v l := by
  obtain ⟨A, c, e, h1, h2, h3, h4⟩ := h
  refine ⟨A, c, e, h1, h2, h3, fun ad ha => ⟨(h4 ad ha).1, fun j u' hu => ?_⟩⟩
  rw [World.cell?_setCell_other _ _ _ _ (fun e => ?_)]
  · exact (h4 ad ha).2 j u' hu
  · have h5 := congrArg Addr.block e
    rw [block_add'] at h5
    have := (h4 ad ha).1
    simp only at h5
    omega
theorem IsB.of_own {w : World} {v : Value} {l : List Int} {base : Nat} (h : w.ownsRow base 3 1 v l.length (iv l)) : IsB base w v l := by
  have hi := Is.of_own h rfl
  obtain ⟨A, c, e, h1, h2, h3, h4⟩ := hi
  refine ⟨A, c, e, h1, h2, h3, fun ad ha => ⟨?_, h4 ad ha⟩⟩
  rcases h.2 with ⟨e2, _⟩ | ⟨g, cap, cur, e2, hb, _⟩
  · rw [e, ha] at e2; cases e2
  · rw [e, ha] at e2
    injection e2 with e3 _ _
    injection e3 with e3
    rw [e3]
    exact hb
theorem setCells_own {W : World} {base g n cap i : Nat} {d : List Int} {z : Value} (h : W.ownsRow base 3 1 (.slice (some ⟨g, 0, none⟩) n cap) n (iv d)) (hd : d.length = n) (hi : i ≤ n) (m : Nat) (hbg : base ≤ g) : IsB base (W.setCells g i (List.replicate m z)) (.slice (some ⟨g, 0, none⟩) i cap) (d.take i) := by
  have hl : (d.take i).length = i := by rw [List.length_take]; omega
  have hc := Rw.of_own h (fun h0 => by rw [List.eq_nil_of_length_eq_zero (hd.trans h0)]; rfl)
  obtain ⟨A, c, e, h1, h2, _⟩ := hc
  injection e with _ _ e3
  subst e3
  refine ⟨some ⟨g, 0, none⟩, cap, by rw [hl], by rw [hl]; omega, h2, (fun h => by cases h), fun ad ha => ⟨by cases ha; exact hbg, fun j u hu => ?_⟩⟩
  cases ha
  have hj : j < i := by
    have := (List.getElem?_eq_some_iff.1 hu).1
    rw [iv_length, hl] at this
    exact this
  rw [Addr.add_lit, World.cell?_setCells_out _ _ _ _ _ (fun _ _ => .inl (by simp; omega)), Nat.zero_add, h.cellAt j (by omega), ← hu]
  unfold iv
  rw [List.map_take, List.getElem?_take, if_pos hj]
theorem below_cells {B : Nat} {a : World} (b : Nat) (hb : B ≤ b) : ∀ (vs : List Value) (o : Nat) {w : World}, Below B a w → Below B a (w.setCells b o vs)
  | [], _, _, h => h
  | v :: r, o, _, h => below_cells b hb r (o + 1) (h.setCell (p := ⟨b, o, none⟩) hb v)
set_option maxHeartbeats 1000000 in
theorem del_any (v : Value) (a : List Int) (p : Int → Bool) (L B base : Nat) (w : World) (h : w.ownsRow base 3 1 v a.length (iv a)) (hb : base ≤ w.heap.size) (hlen : a.length ≤ 1000)
    (hp : ∀ x, x ∈ a → ∀ W, Below base w W → Calls Try.prog 65 #[.int .i64 x, .pointer (some ⟨L, 0, none⟩), .pointer (some ⟨B, 0, none⟩)] W fun e w' => e = .returned (.bool (p x)) ∧ Grew W w') :
    Calls Try.prog 64 #[v, .func (.func 65) #[] #[.pointer (some ⟨L, 0, none⟩), .pointer (some ⟨B, 0, none⟩)]] w fun e w' => ∃ v', e = .returned v' ∧ IsB base w' v' (a.filter fun x => !p x) ∧ Below base w w' := by
  have hIS := Is.of_own h rfl
  have hISB := IsB.of_own h
  have HI := Lib.hid (idxN v a p L B w hIS fun x hx W hW => hp x hx W (Below.mono hW hb))
  have HP := Lib.hid hp
  rcases fidx_cases a p with ⟨e1, e2⟩ | ⟨k0, hk0, e1, e2, e3⟩
  · rw [e1] at HI
    rw [e2]
    clear e1 e2 h hp HP
    have HS := Lib.hid hISB
    obtain ⟨A, c, rfl, _⟩ := Is.slice hIS
    clear hIS hISB
    go_enter Try.func64, Try.ntmps64
    go_wp2_with fail
    refine HI.out.mono ?_
    rintro e w1 ⟨rfl, hg⟩
    have HG := Lib.hid hg
    clear hg
    go_wp2
    go_returns
    exact ⟨_, rfl, HS.out.grew HG.out, Below.mono HG.out hb⟩
  · rw [e1] at HI
    have HK0 := Lib.hid (Kept.start hk0 e3 e2)
    have hpos : 0 < a.length := by omega
    obtain ⟨g, cap, rfl, hbg, hgl⟩ := h.form hpos
    have HO := Lib.hid h
    have HB : Hid (base ≤ g) := Lib.hid hbg
    have hcap : a.length ≤ cap := by
      obtain ⟨A, c, e, h1, _⟩ := Is.slice hIS
      injection e with _ _ e
      omega
    have v3 : ∀ w, (zeroValue 3).run Try.prog w = .ok (.int .i64 0) w := fun w => by kernel_rfl
    clear h hp hIS hISB e1 e2 e3 hbg hgl
    have hne1 : ((k0 : Int) == -1) = false := beq_eq_false_iff_ne.2 (by omega)
    have hw1 : wrap64 ((k0 : Int) + 1) = ((k0 + 1 : Nat) : Int) := wr1 hk0 hlen
    go_enter Try.func64, Try.ntmps64
    go_wp2_with fail
    refine HI.out.mono ?_
    rintro e w1 ⟨rfl, hg⟩
    have HG1 : Hid (Below base w w1) := Lib.hid (Below.mono hg hb)
    have HO1 := Lib.hid (own_grew HO.out hg)
    clear hg
    go_wp2
    clear hne1
    go_loopg [5, 6, 7] a.length (fun gg s5 s6 s7 wx => ∃ (i j : Nat) (d : List Int), s5 = .int .i64 i ∧ s6 = .int .i64 j ∧ a.length - j ≤ gg ∧ Hid (Kept p a i j d) ∧ Hid (wx.ownsRow base 3 1 (.slice (some ⟨g, 0, none⟩) a.length cap) a.length (iv d)) ∧ Hid (Below base w wx))
    case atStart => exact ⟨k0, k0 + 1, a, rfl, by simp, Nat.sub_le _ _, HK0, HO1, HG1⟩
    case round =>
      obtain ⟨i, j, d, rfl, rfl, hgg, HK, HO2, HG2⟩ := hrel
      have hij := HK.out.lt
      have hja := HK.out.le
      have hdl := HK.out.len
      by_cases hlt : j < a.length
      · have hltz : (j : Int) < (a.length : Int) := by omega
        have cj := HO2.out.cellAt j (by omega)
        have hdj := HK.out.high j (Nat.le_refl _)
        rw [List.getElem?_eq_getElem hlt] at hdj
        have hj1 : (iv d)[j]? = some (.int .i64 a[j]) := by unfold iv; rw [List.getElem?_map, hdj]; rfl
        rw [hj1] at cj
        have HM : Hid (a.length - (j + 1) < gk) := Lib.hid (by omega)
        have hwj : wrap64 ((j : Int) + 1) = ((j + 1 : Nat) : Int) := wr1 hlt hlen
        have hwi : wrap64 ((i : Int) + 1) = ((i + 1 : Nat) : Int) := wr1 (Nat.lt_trans hij hlt) hlen
        have HWJ := Lib.hid hwj
        have HWI := Lib.hid hwi
        have HSK := Lib.hid (HK.out.skip hlt)
        have HKE := Lib.hid (HK.out.keep hlt)
        have HC := Lib.hid (HP.out a[j] (List.getElem_mem hlt) _ HG2.out)
        clear hdj hj1 hwj hwi
        generalize a[j] = x at cj HSK HKE HC
        have hil : i < a.length := by omega
        clear hdl hja
        cases hq : p x with
        | true =>
          rw [hq] at HC
          have HK2 := Lib.hid (HSK.out hq)
          clear HSK HKE hq
          go_wp2_with fail
          refine HC.out.mono ?_
          rintro e w2 ⟨rfl, hg⟩
          have HO3 := Lib.hid (own_grew HO2.out hg)
          have HG3 : Hid (Below base w w2) := Lib.hid (HG2.out.trans (Below.mono hg (Nat.le_trans hb HG2.out.size)))
          clear hg cj
          go_wp2
          go_roundg (a.length - (j + 1))
          case measure => exact HM.out
          case rel => exact ⟨i, j + 1, d, rfl, by first | (simp; done) | rw [HWJ.out], Nat.le_refl _, HK2, HO3, HG3⟩
        | false =>
          rw [hq] at HC
          have HK2 := Lib.hid (HKE.out hq)
          clear HSK HKE hq
          have hgi : (decide (g = g)) = true := by simp
          clear hgi
          go_wp2_with fail
          refine HC.out.mono ?_
          rintro e w2 ⟨rfl, hg⟩
          have hown := own_grew HO2.out hg
          have ci := hown.cellAt i (by omega)
          have fi := hown.frozenAt i
          obtain ⟨u, hu⟩ : ∃ u, (iv d)[i]? = some u := ⟨_, List.getElem?_eq_getElem (by rw [iv_length, HK.out.len]; omega)⟩
          rw [hu] at ci
          obtain ⟨hs, _⟩ := hown.stored i (.int .i64 x)
          have hset : (iv d).set i (.int .i64 x) = iv (d.set i x) := by simp [iv, List.map_set]
          rw [hset] at hs
          have HO3 := Lib.hid hs
          have HG3 : Hid (Below base w (w2.setCell ⟨g, i, none⟩ (.int .i64 x))) := Lib.hid ((HG2.out.trans (Below.mono hg (Nat.le_trans hb HG2.out.size))).setCell (p := ⟨g, i, none⟩) HB.out _)
          have hiz : (i : Int) < (a.length : Int) := by omega
          clear hg cj hown hu hs hset
          go_wp2
          go_roundg (a.length - (j + 1))
          case measure => exact HM.out
          case rel => exact ⟨i + 1, j + 1, d.set i x, by first | (simp; done) | rw [HWI.out], by first | (simp; done) | rw [HWJ.out], Nat.le_refl _, HK2, HO3, HG3⟩
      · have hje : j = a.length := by omega
        subst hje
        have hltz : ¬ ((a.length : Nat) : Int) < (a.length : Int) := by omega
        have hcl : ∀ ty, (Builtin.clear_ #[36] ty #[.slice (some ⟨g, i, none⟩) (a.length - i) (cap - i)]).run Try.prog wr = .ok (.tuple #[]) (wr.setCells g i (List.replicate (a.length - i) (.int .i64 0))) :=
          fun ty => Lib.run_clear_slice wr _ _ ty _ Try.underlying36 v3 rfl rfl g i _ _ (by omega) (fun t ht => by
            rw [HO2.out.cellAt (i + t) (by omega), List.getElem?_eq_getElem (by rw [iv_length, hdl]; omega)]
            rfl) (fun t ht => HO2.out.frozenAt (i + t))
        have HE : Hid (IsB base (wr.setCells g i (List.replicate (a.length - i) (.int .i64 0))) (.slice (some ⟨g, 0, none⟩) i cap) (a.filter fun x => !p x)) := Lib.hid (by
          rw [← HK.out.done]
          exact setCells_own HO2.out hdl (by omega) _ HB.out)
        have HG3 : Hid (Below base w (wr.setCells g i (List.replicate (a.length - i) (.int .i64 0)))) := Lib.hid (below_cells g HB.out _ _ HG2.out)
        clear hdl hja HP
        go_wp2
        go_returns
        exact ⟨_, rfl, HE.out, HG3.out⟩

theorem wneg (p : Int) (h1 : -1 ≤ p) (h2 : p ≤ 1) : wrap64 (-p) = -p := by unfold wrap64; omega
set_option maxHeartbeats 2000000 in
theorem compare_any (x y : Or) (w : World) : Calls Try.prog 69 #[orv x, orv y] w fun e w' => e = .returned (.int .i64 (cmpO x y)) ∧ ∃ os, w' = Go.Sort.grow w os := by
  obtain ⟨us, lb, wh, sd, bs, qt, pr, lf, rs, sq⟩ := x
  obtain ⟨us', lb', wh', sd', bs', qt', pr', lf', rs', sq'⟩ := y
  unfold orv cmpO
  simp only
  have HP := Lib.hid (cmpu_any pr pr')
  have HQ := Lib.hid (cmpi_any sq sq')
  have hp0 : cmpN pr pr' = 0 ↔ pr = pr' := by
    unfold cmpN
    constructor
    · intro h
      split at h
      · cases h
      · split at h
        · cases h
        · omega
    · intro h; rw [if_neg (by omega), if_neg (by omega)]
  have hp1 : -1 ≤ cmpN pr pr' ∧ cmpN pr pr' ≤ 1 := by
    unfold cmpN
    split
    · omega
    · split <;> omega
  generalize cmpN pr pr' = p at *
  generalize cmpZ sq sq' = q at *
  have HOR := Lib.hid or_any
  have HW := Lib.hid (wneg p hp1.1 hp1.2)
  clear hp1
  have HA : Hid ((if pr = pr' then q else if sd = 1 then -p else p) = if sd = 1 then (if -p = 0 then q else -p) else (if p = 0 then q else p)) := Lib.hid (by
    by_cases h1 : sd = 1
    · rw [if_pos h1, if_pos h1]
      by_cases h2 : pr = pr'
      · rw [if_pos h2, if_pos (by have := hp0.2 h2; omega)]
      · rw [if_neg h2, if_neg (by intro h3; exact h2 (hp0.1 (by omega)))]
    · rw [if_neg h1, if_neg h1]
      by_cases h2 : pr = pr'
      · rw [if_pos h2, if_pos (hp0.2 h2)]
      · rw [if_neg h2, if_neg (by intro h3; exact h2 (hp0.1 h3))])
  rw [HA.out]
  clear HA hp0
  by_cases h1 : sd = 1
  · have e1 : (sd == 1) = true := by simp [h1]
    rw [if_pos h1]
    clear h1
    rw [← HW.out]
    clear HW
    have hb : (((w.alloc (.cells #[.bool us, .int .i64 lb, .int .i64 wh, .int .i64 sd, .int .i64 bs, .int .i64 qt, .int .u64 (pr : Int), .int .u64 (lf : Int), .int .u64 (rs : Int), .int .i64 sq] 26)).alloc (.cells #[.bool us', .int .i64 lb', .int .i64 wh', .int .i64 sd', .int .i64 bs', .int .i64 qt', .int .u64 (pr' : Int), .int .u64 (lf' : Int), .int .u64 (rs' : Int), .int .i64 sq'] 26)).alloc (.cells #[.int .i64 (wrap64 (-p)), .int .i64 q] 3)).heap[w.heap.size + 1 + 1]? = some (.cells #[.int .i64 (wrap64 (-p)), .int .i64 q] 3 (0, 0)) := by
      have := heap_alloc_new ((w.alloc (.cells #[.bool us, .int .i64 lb, .int .i64 wh, .int .i64 sd, .int .i64 bs, .int .i64 qt, .int .u64 (pr : Int), .int .u64 (lf : Int), .int .u64 (rs : Int), .int .i64 sq] 26)).alloc (.cells #[.bool us', .int .i64 lb', .int .i64 wh', .int .i64 sd', .int .i64 bs', .int .i64 qt', .int .u64 (pr' : Int), .int .u64 (lf' : Int), .int .u64 (rs' : Int), .int .i64 sq'] 26)) (.cells #[.int .i64 (wrap64 (-p)), .int .i64 q] 3)
      rwa [World.size_alloc, World.size_alloc] at this
    have hc := or_any _ _ _ _ hb
    clear hb HOR
    generalize (if wrap64 (-p) = 0 then q else wrap64 (-p)) = r at *
    have HC := Lib.hid hc
    clear hc
    go_enter Try.func69, Try.ntmps69
    go_wp2_with fail
    refine (HP.out _).mono ?_
    rintro e w' ⟨rfl, rfl⟩
    go_wp2_with fail
    refine (HQ.out _).mono ?_
    rintro e w' ⟨rfl, rfl⟩
    go_wp2_with fail
    refine HC.out.mono ?_
    rintro e w' ⟨rfl, rfl⟩
    go_wp2
    go_returns
    exact ⟨rfl, _, by rw [Go.Sort.alloc_eq_grow, Go.Sort.alloc_eq_grow, Go.Sort.alloc_eq_grow, Go.Sort.grow_grow, Go.Sort.grow_grow]⟩
  · have e1 : (sd == 1) = false := by simp [h1]
    rw [if_neg h1]
    clear h1 HW
    have hb : (((w.alloc (.cells #[.bool us, .int .i64 lb, .int .i64 wh, .int .i64 sd, .int .i64 bs, .int .i64 qt, .int .u64 (pr : Int), .int .u64 (lf : Int), .int .u64 (rs : Int), .int .i64 sq] 26)).alloc (.cells #[.bool us', .int .i64 lb', .int .i64 wh', .int .i64 sd', .int .i64 bs', .int .i64 qt', .int .u64 (pr' : Int), .int .u64 (lf' : Int), .int .u64 (rs' : Int), .int .i64 sq'] 26)).alloc (.cells #[.int .i64 p, .int .i64 q] 3)).heap[w.heap.size + 1 + 1]? = some (.cells #[.int .i64 p, .int .i64 q] 3 (0, 0)) := by
      have := heap_alloc_new ((w.alloc (.cells #[.bool us, .int .i64 lb, .int .i64 wh, .int .i64 sd, .int .i64 bs, .int .i64 qt, .int .u64 (pr : Int), .int .u64 (lf : Int), .int .u64 (rs : Int), .int .i64 sq] 26)).alloc (.cells #[.bool us', .int .i64 lb', .int .i64 wh', .int .i64 sd', .int .i64 bs', .int .i64 qt', .int .u64 (pr' : Int), .int .u64 (lf' : Int), .int .u64 (rs' : Int), .int .i64 sq'] 26)) (.cells #[.int .i64 p, .int .i64 q] 3)
      rwa [World.size_alloc, World.size_alloc] at this
    have hc := or_any _ _ _ _ hb
    clear hb HOR
    generalize (if p = 0 then q else p) = r at *
    have HC := Lib.hid hc
    clear hc
    go_enter Try.func69, Try.ntmps69
    go_wp2_with fail
    refine (HP.out _).mono ?_
    rintro e w' ⟨rfl, rfl⟩
    go_wp2_with fail
    refine (HQ.out _).mono ?_
    rintro e w' ⟨rfl, rfl⟩
    go_wp2_with fail
    refine HC.out.mono ?_
    rintro e w' ⟨rfl, rfl⟩
    go_wp2
    go_returns
    exact ⟨rfl, _, by rw [Go.Sort.alloc_eq_grow, Go.Sort.alloc_eq_grow, Go.Sort.alloc_eq_grow, Go.Sort.grow_grow, Go.Sort.grow_grow]⟩
/-- New blocks and draws alone. -/
def Gn (w w' : World) : Prop := ∃ q os, w' = Go.Sort.grow (w.drewN q) os
theorem Gn.drew (w : World) : Gn w w.drew := ⟨1, #[], by rw [Go.Sort.grow_empty]; rfl⟩
theorem Gn.grow {w w' : World} (h : Gn w w') (os : Array Obj) : Gn w (Go.Sort.grow w' os) := by
  obtain ⟨q, os', rfl⟩ := h
  exact ⟨q, os' ++ os, by rw [Go.Sort.grow_grow]⟩
theorem Gn.grew {w w' : World} (h : Gn w w') : Grew w w' := by
  obtain ⟨q, os, rfl⟩ := h
  refine ⟨rfl, rfl, rfl, ?_, fun k hk => ?_⟩
  · show w.heap.size ≤ (w.heap ++ os).size
    rw [Array.size_append]; omega
  · show (w.heap ++ os)[k]? = _
    rw [Array.getElem?_append_left hk]
/-- The closure: does the order not meet the one at a slot? -/
theorem keep_any (l : List Or) (o : Or) (v : Value) (L B k : Nat) (w : World) (hl : Ors w v l) (hL : w.heap[L]? = some (.cells #[v] 22 (0, 0))) (hB : Bx w B o) (hk : k < l.length) :
    Calls Try.prog 65 #[.int .i64 k, .pointer (some ⟨B, 0, none⟩), .pointer (some ⟨L, 0, none⟩)] w fun e w' => e = .returned (.bool (!meetsP o (eo l k))) ∧ Grew w w' := by
  obtain ⟨ad, c, rfl, hc, d0, d1, d2, d3, d4, d5, d6, d7, d8, d9⟩ := Ors_at hl (eo_get hk)
  have c0 := one_cell hL
  obtain ⟨b0, b1, b2, b3, b4, b5, b6, b7, b8, b9⟩ := hB.cells
  have hk' : (k : Int) < (l.length : Int) := by omega
  clear hl hL hB hk
  generalize eo l k = x at *
  have HM := Lib.hid (meets_any o x)
  generalize meetsP o x = q at *
  obtain ⟨us, lb, wh, sd, bs, qt, pr, lf, rs, sq⟩ := o
  obtain ⟨us', lb', wh', sd', bs', qt', pr', lf', rs', sq'⟩ := x
  unfold orv at HM
  simp only at *
  go_enter Try.func65, Try.ntmps65
  go_wp2
  refine Facts.wp_region_text (by kernel_rfl) (by kernel_rfl) ?_
  apply Facts.Lex.exact [] _ (by kernel_rfl)
  · intro u W hC _
    have jb0 := cellB hC b0
    have jb1 := cellB hC b1
    have jb2 := cellB hC b2
    have jb3 := cellB hC b3
    have jb4 := cellB hC b4
    have jb5 := cellB hC b5
    have jb6 := cellB hC b6
    have jb7 := cellB hC b7
    have jb8 := cellB hC b8
    have jb9 := cellB hC b9
    unfold Facts.one
    go_simp
    first | exact ⟨Grew.refl _, rfl⟩ | rfl
  simp only [Act.put, List.setIfInBounds_toArray, List.set_cons_zero, List.set_cons_succ, Nat.zero_add]
  apply Facts.Lex.exact [] _ (by kernel_rfl)
  · intro u W hC _
    have jc0 := cellB hC c0
    unfold Facts.one
    go_simp
    first | exact ⟨Grew.refl _, rfl⟩ | rfl
  simp only [Act.put, List.setIfInBounds_toArray, List.set_cons_zero, List.set_cons_succ, Nat.reduceAdd]
  apply Facts.Lex.exact [] _ (by kernel_rfl)
  · intro u W hC _
    skip
    unfold Facts.one
    go_simp
    first | exact ⟨Grew.refl _, rfl⟩ | rfl
  simp only [Act.put, List.setIfInBounds_toArray, List.set_cons_zero, List.set_cons_succ, Nat.reduceAdd]
  apply Facts.Lex.exact [] _ (by kernel_rfl)
  · intro u W hC _
    skip
    unfold Facts.one
    go_simp
    first | exact ⟨Grew.refl _, rfl⟩ | rfl
  simp only [Act.put, List.setIfInBounds_toArray, List.set_cons_zero, List.set_cons_succ, Nat.reduceAdd]
  apply Facts.Lex.exact [] _ (by kernel_rfl)
  · intro u W hC _
    have jd0 := cellB hC d0
    have jd1 := cellB hC d1
    have jd2 := cellB hC d2
    have jd3 := cellB hC d3
    have jd4 := cellB hC d4
    have jd5 := cellB hC d5
    have jd6 := cellB hC d6
    have jd7 := cellB hC d7
    have jd8 := cellB hC d8
    have jd9 := cellB hC d9
    unfold Facts.one
    go_simp
    first | exact ⟨Grew.refl _, rfl⟩ | rfl
  simp only [Act.put, List.setIfInBounds_toArray, List.set_cons_zero, List.set_cons_succ, Nat.reduceAdd]
  apply Facts.Lex.exact [] _ (by kernel_rfl)
  · intro u W hC _
    unfold Facts.one
    go_simp
    exact ((HM.out W).mono fun e w' ⟨he, hg⟩ => ⟨_, he, hg, rfl⟩)
  simp only [Act.put, List.setIfInBounds_toArray, List.set_cons_zero, List.set_cons_succ, Nat.reduceAdd]
  apply Facts.Lex.exact [] _ (by kernel_rfl)
  · intro u W hC _
    skip
    unfold Facts.one
    go_simp
    first | exact ⟨Grew.refl _, rfl⟩ | rfl
  simp only [Act.put, List.setIfInBounds_toArray, List.set_cons_zero, List.set_cons_succ, Nat.reduceAdd]
  apply Facts.Lex.exact [] _ (by kernel_rfl)
  · intro u W hC _
    skip
    unfold Facts.one
    go_simp
    first | exact ⟨Grew.refl _, rfl⟩ | rfl
  simp only [Act.put, List.setIfInBounds_toArray, List.set_cons_zero, List.set_cons_succ, Nat.reduceAdd]
  refine Facts.Lex.done fun u W2 hC hL => ?_
  have G2 := Lib.hid hC
  clear hC hL
  go_wp2
  go_returns
  exact ⟨by simp, G2.out⟩
/-- The closure: which one of two slots' orders is the better one? -/
theorem cmpc_any (l : List Or) (v : Value) (L i j : Nat) (w : World) (hl : Ors w v l) (hL : w.heap[L]? = some (.cells #[v] 22 (0, 0))) (hi : i < l.length) (hj : j < l.length) :
    Calls Try.prog 68 #[.int .i64 i, .int .i64 j, .pointer (some ⟨L, 0, none⟩)] w fun e w' => e = .returned (.int .i64 (cmpO (eo l i) (eo l j))) ∧ Gn w w' := by
  obtain ⟨ad, c, rfl, hc, d0, d1, d2, d3, d4, d5, d6, d7, d8, d9⟩ := Ors_at hl (eo_get hi)
  obtain ⟨ad', c', e, _, g0, g1, g2, g3, g4, g5, g6, g7, g8, g9⟩ := Ors_at hl (eo_get hj)
  injection e with e1 e2 e3
  cases e1
  clear e2 e3
  have c0 := one_cell hL
  have hi' : (i : Int) < (l.length : Int) := by omega
  have hj' : (j : Int) < (l.length : Int) := by omega
  have HM := Lib.hid (compare_any (eo l i) (eo l j))
  clear hl hL hi hj
  generalize cmpO (eo l i) (eo l j) = q at *
  generalize eo l i = x at *
  generalize eo l j = y at *
  obtain ⟨us, lb, wh, sd, bs, qt, pr, lf, rs, sq⟩ := x
  obtain ⟨us', lb', wh', sd', bs', qt', pr', lf', rs', sq'⟩ := y
  unfold orv at HM
  simp only at *
  go_enter Try.func68, Try.ntmps68
  go_wp2
  refine Marks.wp_region_text (fun _ _ W => Gn w W) (fun _ _ => True) (by kernel_rfl) (by kernel_rfl) (Gn.drew w) ?_
  apply Marks.Lex.exact [] _ (by kernel_rfl)
  · intro m u W hm hcl hC _
    have jc0 := cellB hC.grew c0
    unfold Marks.one
    go_simp
    exact ⟨trivial, hC, rfl⟩
  simp only [Act.put, List.setIfInBounds_toArray, List.set_cons_zero, List.set_cons_succ, Nat.zero_add]
  apply Marks.Lex.exact [] _ (by kernel_rfl)
  · intro m u W hm hcl hC _
    skip
    unfold Marks.one
    go_simp
    exact ⟨trivial, hC, rfl⟩
  simp only [Act.put, List.setIfInBounds_toArray, List.set_cons_zero, List.set_cons_succ, Nat.reduceAdd]
  apply Marks.Lex.exact [] _ (by kernel_rfl)
  · intro m u W hm hcl hC _
    skip
    unfold Marks.one
    go_simp
    exact ⟨trivial, hC, rfl⟩
  simp only [Act.put, List.setIfInBounds_toArray, List.set_cons_zero, List.set_cons_succ, Nat.reduceAdd]
  apply Marks.Lex.exact [] _ (by kernel_rfl)
  · intro m u W hm hcl hC _
    have jd0 := cellB hC.grew d0
    have jd1 := cellB hC.grew d1
    have jd2 := cellB hC.grew d2
    have jd3 := cellB hC.grew d3
    have jd4 := cellB hC.grew d4
    have jd5 := cellB hC.grew d5
    have jd6 := cellB hC.grew d6
    have jd7 := cellB hC.grew d7
    have jd8 := cellB hC.grew d8
    have jd9 := cellB hC.grew d9
    unfold Marks.one
    go_simp
    exact ⟨trivial, hC, rfl⟩
  simp only [Act.put, List.setIfInBounds_toArray, List.set_cons_zero, List.set_cons_succ, Nat.reduceAdd]
  apply Marks.Lex.exact [] _ (by kernel_rfl)
  · intro m u W hm hcl hC _
    have jc0 := cellB hC.grew c0
    unfold Marks.one
    go_simp
    exact ⟨trivial, hC, rfl⟩
  simp only [Act.put, List.setIfInBounds_toArray, List.set_cons_zero, List.set_cons_succ, Nat.reduceAdd]
  apply Marks.Lex.exact [] _ (by kernel_rfl)
  · intro m u W hm hcl hC _
    skip
    unfold Marks.one
    go_simp
    exact ⟨trivial, hC, rfl⟩
  simp only [Act.put, List.setIfInBounds_toArray, List.set_cons_zero, List.set_cons_succ, Nat.reduceAdd]
  apply Marks.Lex.exact [] _ (by kernel_rfl)
  · intro m u W hm hcl hC _
    skip
    unfold Marks.one
    go_simp
    exact ⟨trivial, hC, rfl⟩
  simp only [Act.put, List.setIfInBounds_toArray, List.set_cons_zero, List.set_cons_succ, Nat.reduceAdd]
  apply Marks.Lex.exact [] _ (by kernel_rfl)
  · intro m u W hm hcl hC _
    have jg0 := cellB hC.grew g0
    have jg1 := cellB hC.grew g1
    have jg2 := cellB hC.grew g2
    have jg3 := cellB hC.grew g3
    have jg4 := cellB hC.grew g4
    have jg5 := cellB hC.grew g5
    have jg6 := cellB hC.grew g6
    have jg7 := cellB hC.grew g7
    have jg8 := cellB hC.grew g8
    have jg9 := cellB hC.grew g9
    unfold Marks.one
    go_simp
    exact ⟨trivial, hC, rfl⟩
  simp only [Act.put, List.setIfInBounds_toArray, List.set_cons_zero, List.set_cons_succ, Nat.reduceAdd]
  apply Marks.Lex.exact [] _ (by kernel_rfl)
  · intro m u W hm hcl hC _
    unfold Marks.one
    go_simp
    exact ((HM.out W).mono fun e w' ⟨he, os, hw⟩ => ⟨_, he, trivial, by rw [hw]; exact hC.grow os, rfl⟩)
  simp only [Act.put, List.setIfInBounds_toArray, List.set_cons_zero, List.set_cons_succ, Nat.reduceAdd]
  apply Marks.Lex.exact [] _ (by kernel_rfl)
  · intro m u W hm hcl hC _
    skip
    unfold Marks.one
    go_simp
    exact ⟨trivial, hC, rfl⟩
  simp only [Act.put, List.setIfInBounds_toArray, List.set_cons_zero, List.set_cons_succ, Nat.reduceAdd]
  refine Marks.Lex.done fun m u W2 hm hC hL => ?_
  have G2 := Lib.hid hC
  clear hC hL hm
  go_wp2
  go_returns
  exact ⟨rfl, G2.out⟩
end Go.Proofs.Ytmnfajplfnfgpaa.OH
