/-
  The document on items, its small functions: numbers, equal lists, a list with one slot changed, who has an item in hand.
  Conditions: those that each lemma names.
-/
import Derived.Test.YtaolallfmjjoeaaTL
namespace Go.Proofs.Ytaolallfmjjoeaa.DA
set_option maxRecDepth 100000
open Go Go.RowKit Go.Lib Go.Proofs.Ytaolallfmjjoeaa Go.Proofs.Ytaolallfmjjoeaa.Facts Go.Proofs.Ytaolallfmjjoeaa.Ints Go.Proofs.Ytaolallfmjjoeaa.TI Go.Proofs.Ytaolallfmjjoeaa.TP Go.Proofs.Ytaolallfmjjoeaa.TB Go.Proofs.Ytaolallfmjjoeaa.TC Go.Proofs.Ytaolallfmjjoeaa.TD Go.Proofs.Ytaolallfmjjoeaa.TE Go.Proofs.Ytaolallfmjjoeaa.TF Go.Proofs.Ytaolallfmjjoeaa.TG Go.Proofs.Ytaolallfmjjoeaa.TH Go.Proofs.Ytaolallfmjjoeaa.TJ Go.Proofs.Ytaolallfmjjoeaa.TK Go.Proofs.Ytaolallfmjjoeaa.TL Go.Proofs.Ytaolallfmjjoeaa.Bytes


theorem rnum_any (n : Int) (w : World) : Calls Try.prog 60 #[.int .i64 n] w fun e w' => e = .returned (.bool (num n)) ∧ Grew w w' := by
  rcases num_cases n with ⟨h, h2, e⟩ | ⟨h, e⟩ | ⟨h, h2, e⟩
  · rw [e]
    have h3 : n < 128 := by omega
    clear e h2
    go_enter Try.func60, Try.ntmps60
    go_wp2
    go_returns
    exact ⟨rfl, Grew.refl _⟩
  · rw [e]
    clear e
    go_enter Try.func60, Try.ntmps60
    go_wp2
    go_returns
    exact ⟨rfl, Grew.refl _⟩
  · rw [e]
    have h3 : ¬ n < 128 := by omega
    clear e h2
    go_enter Try.func60, Try.ntmps60
    go_wp2
    go_returns
    exact ⟨rfl, Grew.refl _⟩
theorem isref_any (a b : Int) (w : World) : Calls Try.prog 65 #[.agg #[.int .i64 a, .int .i64 b]] w fun e w' => e = .returned (.bool (num a && num b)) ∧ Grew w w' := by
  rcases num_cases a with ⟨h, h2, e⟩ | ⟨h, e⟩ | ⟨h, h2, e⟩
  · rw [e]
    have h3 : a < 128 := by omega
    rcases num_cases b with ⟨k, k2, e2⟩ | ⟨k, e2⟩ | ⟨k, k2, e2⟩
    · rw [e2]
      have k3 : b < 128 := by omega
      clear e h2 e2 k2
      go_enter Try.func65, Try.ntmps65
      go_wp2
      go_returns
      exact ⟨rfl, by unfold Grew; go_grown⟩
    · rw [e2]
      clear e h2 e2
      go_enter Try.func65, Try.ntmps65
      go_wp2
      go_returns
      exact ⟨rfl, by unfold Grew; go_grown⟩
    · rw [e2]
      have k3 : ¬ b < 128 := by omega
      clear e h2 e2 k2
      go_enter Try.func65, Try.ntmps65
      go_wp2
      go_returns
      exact ⟨rfl, by unfold Grew; go_grown⟩
  · rw [e, Bool.false_and]
    clear e
    go_enter Try.func65, Try.ntmps65
    go_wp2
    go_returns
    exact ⟨rfl, by unfold Grew; go_grown⟩
  · rw [e, Bool.false_and]
    have h3 : ¬ a < 128 := by omega
    clear e h2
    go_enter Try.func65, Try.ntmps65
    go_wp2
    go_returns
    exact ⟨rfl, by unfold Grew; go_grown⟩

theorem same_any (v v2 : Value) (l m : List It) (w : World) (h : Its w v l) (h2 : Its w v2 m) : Calls Try.prog 21 #[v, v2] w fun e w' => e = .returned (.bool (decide (l = m))) ∧ Grew w w' := by
  have HL := Lib.hid h
  have HM := Lib.hid h2
  obtain ⟨A, c, rfl, a1, a2⟩ := h.slice
  obtain ⟨B, d, rfl, b1, b2⟩ := h2.slice
  clear h h2
  unfold maxLen at a2 b2
  by_cases hlen : l.length = m.length
  · rw [← hlen]
    have HLEN := Lib.hid hlen
    have HEQ : Hid ((∀ j, j < l.length → el l j = el m j) → l = m) := Lib.hid fun hh => by
      apply List.ext_getElem hlen
      intro j h1 h2
      have := hh j h1
      unfold el at this
      rw [List.getElem?_eq_getElem h1, List.getElem?_eq_getElem h2] at this
      exact this
    have HNE : Hid (∀ j, el l j ≠ el m j → decide (l = m) = false) := Lib.hid fun j hne => by
      rw [decide_eq_false_iff_not]
      intro e
      exact hne (by rw [e])
    have HA2 := Lib.hid a2
    clear hlen b1 b2 a2
    go_enter Try.func21, Try.ntmps21
    go_wp2
    go_loopg [5] l.length (fun g s5 wx => ∃ k : Nat, k + g = l.length ∧ s5 = .int .i64 k ∧ Hid (∀ j, j < k → el l j = el m j) ∧ Hid (Grew w wx))
    case atStart => exact ⟨0, by omega, rfl, Lib.hid (fun j hj => absurd hj (by omega)), Lib.hid (Grew.refl _)⟩
    case round =>
      obtain ⟨k, hkg, rfl, HI, HG⟩ := hrel
      cases gk with
      | zero =>
        have hkz : ¬ ((k : Int) < (l.length : Int)) := by omega
        have hres : decide (l = m) = true := by rw [decide_eq_true_iff]; exact HEQ.out fun j hj => HI.out j (by omega)
        have HRES := Lib.hid hres
        clear hres
        go_wp2
        go_returns
        refine ⟨?_, HG.out⟩
        rw [HRES.out]
        rfl
      | succ g =>
        have hkz : (k : Int) < (l.length : Int) := by omega
        have hkl : k < l.length := by omega
        have hkm : k < m.length := by rw [← HLEN.out]; exact hkl
        have hx : l[k]? = some (el l k) := by unfold el; rw [List.getElem?_eq_getElem hkl]; rfl
        have hy : m[k]? = some (el m k) := by unfold el; rw [List.getElem?_eq_getElem hkm]; rfl
        obtain ⟨ad, c3, e, _, x0, x1, x2, x3, x4, x5⟩ := Its_at (HL.out.grew HG.out) hx
        injection e with e1 _ e3
        subst e1 e3
        obtain ⟨ad2, c4, e2, _, y0, y1, y2, y3, y4, y5⟩ := Its_at (HM.out.grew HG.out) hy
        injection e2 with e1 e9 e3
        subst e1 e3
        clear e9
        have HN : Hid (el l k = el m k → ∀ j, j < k + 1 → el l j = el m j) := Lib.hid fun h j hj => by
          by_cases hjk : j = k
          · subst hjk; exact h
          · exact HI.out j (by omega)
        have HF := Lib.hid (HNE.out k)
        have hkw : wrap64 ((k : Int) + 1) = ((k + 1 : Nat) : Int) := by
          have := HA2.out
          unfold wrap64
          omega
        have HKW := Lib.hid hkw
        clear hx hy hkl hkm hkw
        generalize el l k = x at *
        generalize el m k = y at *
        by_cases hxy : x = y
        · have HT := Lib.hid (HN.out hxy)
          subst hxy
          go_wp2
          refine Facts.wp_region_text (by kernel_rfl) (by kernel_rfl) ?_
          repeat
            apply Facts.Lex.exact [] _ (by kernel_rfl)
            · intro u W hC _
              have i0 := cellG hC x0
              have i1 := cellG hC x1
              have i2 := cellG hC x2
              have i3 := cellG hC x3
              have i4 := cellG hC x4
              have i5 := cellG hC x5
              have j0 := cellG hC y0
              have j1 := cellG hC y1
              have j2 := cellG hC y2
              have j3 := cellG hC y3
              have j4 := cellG hC y4
              have j5 := cellG hC y5
              unfold Facts.one
              go_simp
              first | exact ⟨Grew.refl _, rfl⟩ | rfl
            simp only [Act.put, List.setIfInBounds_toArray, List.set_cons_zero, List.set_cons_succ, Nat.zero_add, Nat.reduceAdd]
          refine Facts.Lex.done fun u W2 hC hL => ?_
          have G2 := Lib.hid (HG.out.trans hC)
          clear hC hL x0 x1 x2 x3 x4 x5 y0 y1 y2 y3 y4 y5
          go_wp2
          go_roundg g
          case measure => omega
          case rel => exact ⟨k + 1, by omega, by first | (simp; done) | rw [HKW.out], HT, G2⟩
        · have HRES := Lib.hid (HF.out hxy)
          have hne : ¬ (x.used = y.used ∧ x.name = y.name ∧ x.kind = y.kind ∧ x.who = y.who ∧ x.lab = y.lab ∧ x.slot = y.slot) := by
            rintro ⟨h1, h2, h3, h4, h5, h6⟩
            apply hxy
            cases x
            cases y
            simp only at h1 h2 h3 h4 h5 h6
            subst h1 h2 h3 h4 h5 h6
            rfl
          have hs : x.name.toList = y.name.toList → x.name = y.name := fun h => (Lib.bytes_beq_iff x.name y.name).1 (by rw [h]; exact beq_self_eq_true _)
          have HNE2 := Lib.hid hne
          have HS := Lib.hid hs
          clear hne hs hxy HN HF
          go_wp2
          refine Facts.wp_region_text (by kernel_rfl) (by kernel_rfl) ?_
          iterate 8
            apply Facts.Lex.exact [] _ (by kernel_rfl)
            · intro u W hC _
              have i0 := cellG hC x0
              have i1 := cellG hC x1
              have i2 := cellG hC x2
              have i3 := cellG hC x3
              have i4 := cellG hC x4
              have i5 := cellG hC x5
              have j0 := cellG hC y0
              have j1 := cellG hC y1
              have j2 := cellG hC y2
              have j3 := cellG hC y3
              have j4 := cellG hC y4
              have j5 := cellG hC y5
              unfold Facts.one
              go_simp
              first | exact ⟨Grew.refl _, rfl⟩ | rfl
            simp only [Act.put, List.setIfInBounds_toArray, List.set_cons_zero, List.set_cons_succ, Nat.zero_add, Nat.reduceAdd]
          apply Facts.Lex.exact [] (.bool true) (by kernel_rfl)
          · intro u W hC _
            unfold Facts.one
            go_simp
            repeat' split
            all_goals first | exact ⟨Grew.refl _, rfl⟩ | exact absurd ⟨by assumption, HS.out (by assumption), by assumption, by assumption, by assumption, by assumption⟩ HNE2.out
          simp only [Act.put, List.setIfInBounds_toArray, List.set_cons_zero, List.set_cons_succ, Nat.reduceAdd]
          refine Facts.Lex.done fun u W2 hC hL => ?_
          have G2 := Lib.hid (HG.out.trans hC)
          clear hC hL x0 x1 x2 x3 x4 x5 y0 y1 y2 y3 y4 y5
          go_wp2
          go_returns
          refine ⟨?_, G2.out⟩
          rw [HRES.out]
          rfl
  · have hlen' : ¬ (l.length : Int) = (m.length : Int) := by omega
    have hres : decide (l = m) = false := by rw [decide_eq_false_iff_not]; intro e; exact hlen (by rw [e])
    rw [hres]
    clear hres hlen a1 b1
    go_enter Try.func21, Try.ntmps21
    go_wp2
    go_returns
    exact ⟨rfl, Grew.refl _⟩

theorem set_any (v : Value) (T : List It) (k : Nat) (x : It) (w : World) (h : Its w v T) (hk : k < T.length) (hl : T.length ≤ 1000) :
    Calls Try.prog 61 #[v, .int .i64 k, iv6 x] w fun e w' => ∃ v', e = .returned v' ∧ Its w' v' (T.set k x) ∧ Grew w w' := by
  have hi6 : iv6 x = .agg #[.bool x.used, .string x.name, .int .i64 x.kind, .int .i64 x.who, .int .i64 x.lab, .int .i64 x.slot] := rfl
  rw [hi6]
  clear hi6
  have ga : Grew w (w.alloc (.cells #[.bool x.used, .string x.name, .int .i64 x.kind, .int .i64 x.who, .int .i64 x.lab, .int .i64 x.slot] 67)) := by unfold Grew; go_grown
  have hbx : (w.alloc (.cells #[.bool x.used, .string x.name, .int .i64 x.kind, .int .i64 x.who, .int .i64 x.lab, .int .i64 x.slot] 67)).heap[w.heap.size]? = some (.cells #[.bool x.used, .string x.name, .int .i64 x.kind, .int .i64 x.who, .int .i64 x.lab, .int .i64 x.slot] 67 (0, 0)) := blk_new w _
  have hz : (w.alloc (.cells #[.bool x.used, .string x.name, .int .i64 x.kind, .int .i64 x.who, .int .i64 x.lab, .int .i64 x.slot] 67)).heap.size = w.heap.size + 1 := by simp
  obtain ⟨A, c, rfl, h1, h2, h3, h4⟩ := h.grew ga
  cases A with
  | none => exact absurd hk (by have := h3 rfl; omega)
  | some ad =>
    obtain ⟨v', w1, hr, hown, hb⟩ := app_row (w.alloc (.cells #[.bool x.used, .string x.name, .int .i64 x.kind, .int .i64 x.who, .int .i64 x.lab, .int .i64 x.slot] 67)) (w.heap.size + 1) _ [] T ad c (World.ownsRow_nil _ _ 67 6) (h4 ad rfl) (by simp; omega) (by rw [hz]; exact Nat.le_refl _)
    rw [List.nil_append] at hown
    have hg : Grew (w.alloc (.cells #[.bool x.used, .string x.name, .int .i64 x.kind, .int .i64 x.who, .int .i64 x.lab, .int .i64 x.slot] 67)) w1 := by unfold Grew; rw [hz]; exact hb
    obtain ⟨x0, x1, x2, x3, x4, x5⟩ := it_kept (blk_keep hbx hg)
    obtain ⟨g, cap, rfl, hbg, hgl⟩ := hown.form (by omega)
    have HR := Lib.hid hr
    have hk0 : (k : Int) < (T.length : Int) := by omega
    have r0 := hown.cellAt (k * 6 + 0) (by omega)
    rw [flat_get ics 6 (fun _ => rfl) T k 0 (el T k) (by unfold el; rw [List.getElem?_eq_getElem hk]; rfl) (by decide)] at r0
    have f0 := hown.frozenAt (k * 6 + 0)
    have r1 := hown.cellAt (k * 6 + 1) (by omega)
    rw [flat_get ics 6 (fun _ => rfl) T k 1 (el T k) (by unfold el; rw [List.getElem?_eq_getElem hk]; rfl) (by decide)] at r1
    have f1 := hown.frozenAt (k * 6 + 1)
    have r2 := hown.cellAt (k * 6 + 2) (by omega)
    rw [flat_get ics 6 (fun _ => rfl) T k 2 (el T k) (by unfold el; rw [List.getElem?_eq_getElem hk]; rfl) (by decide)] at r2
    have f2 := hown.frozenAt (k * 6 + 2)
    have r3 := hown.cellAt (k * 6 + 3) (by omega)
    rw [flat_get ics 6 (fun _ => rfl) T k 3 (el T k) (by unfold el; rw [List.getElem?_eq_getElem hk]; rfl) (by decide)] at r3
    have f3 := hown.frozenAt (k * 6 + 3)
    have r4 := hown.cellAt (k * 6 + 4) (by omega)
    rw [flat_get ics 6 (fun _ => rfl) T k 4 (el T k) (by unfold el; rw [List.getElem?_eq_getElem hk]; rfl) (by decide)] at r4
    have f4 := hown.frozenAt (k * 6 + 4)
    have r5 := hown.cellAt (k * 6 + 5) (by omega)
    rw [flat_get ics 6 (fun _ => rfl) T k 5 (el T k) (by unfold el; rw [List.getElem?_eq_getElem hk]; rfl) (by decide)] at r5
    have f5 := hown.frozenAt (k * 6 + 5)
    obtain ⟨s0, _⟩ := hown.stored (k * 6) (.bool x.used)
    obtain ⟨s1, _⟩ := s0.stored (k * 6 + 1) (.string x.name)
    obtain ⟨s2, _⟩ := s1.stored (k * 6 + 2) (.int .i64 x.kind)
    obtain ⟨s3, _⟩ := s2.stored (k * 6 + 3) (.int .i64 x.who)
    obtain ⟨s4, _⟩ := s3.stored (k * 6 + 4) (.int .i64 x.lab)
    obtain ⟨s5, _⟩ := s4.stored (k * 6 + 5) (.int .i64 x.slot)
    rw [ics_set] at s5
    have HS := Lib.hid s5
    have hgw : w.heap.size ≤ g := by omega
    have HG : Hid (Below w.heap.size w ((((((w1.setCell ⟨g, k * 6, none⟩ (.bool x.used)).setCell ⟨g, k * 6 + 1, none⟩ (.string x.name)).setCell ⟨g, k * 6 + 2, none⟩ (.int .i64 x.kind)).setCell ⟨g, k * 6 + 3, none⟩ (.int .i64 x.who)).setCell ⟨g, k * 6 + 4, none⟩ (.int .i64 x.lab)).setCell ⟨g, k * 6 + 5, none⟩ (.int .i64 x.slot))) := Lib.hid (by
      exact (((((((show Below w.heap.size w w1 from ga.trans hg).setCell (p := ⟨g, k * 6, none⟩) hgw _).setCell (p := ⟨g, k * 6 + 1, none⟩) hgw _).setCell (p := ⟨g, k * 6 + 2, none⟩) hgw _).setCell (p := ⟨g, k * 6 + 3, none⟩) hgw _).setCell (p := ⟨g, k * 6 + 4, none⟩) hgw _).setCell (p := ⟨g, k * 6 + 5, none⟩) hgw _))
    clear hown s0 s1 s2 s3 s4 s5 hg hgw ga hbx hr h1 h2 h3 h4 hb hz h hbg hgl
    simp only [ics, List.getElem?_cons_zero, List.getElem?_cons_succ, Nat.add_zero] at r0 r1 r2 r3 r4 r5 f0
    generalize el T k = y at *
    go_enter Try.func61, Try.ntmps61
    go_wp2_with (at_builtin; refine wpList_app_want (.tmp 8) (.tmp 9) 46 (by rfl) (by rfl) _ _ rfl rfl (.slice (some ⟨g, 0, none⟩) T.length cap) w1 (by exact HR.out) ?_)
    go_returns
    refine ⟨_, rfl, ?_, HG.out⟩
    show Rw _ _ (T.set k x).length _
    rw [List.length_set]
    exact Rw.of_own HS.out (fun h0 => absurd hk (by omega))

def inH (l : List It) (i n : Int) : Bool := decide (0 ≤ i) && decide (i < l.length) && (el l i.toNat).used && decide ((el l i.toNat).kind = 1) && decide ((el l i.toNat).who = n)
theorem in_any (v : Value) (l : List It) (i n : Int) (w : World) (h : Its w v l) : Calls Try.prog 68 #[v, .int .i64 i, .int .i64 n] w fun e w' => e = .returned (.bool (inH l i n)) ∧ Grew w w' := by
  unfold inH
  have HL := Lib.hid h
  obtain ⟨A, c, rfl, _⟩ := h.slice
  clear h
  by_cases h0 : 0 ≤ i
  · by_cases h1 : i < l.length
    · obtain ⟨k, rfl⟩ := Int.eq_ofNat_of_zero_le h0
      have hkl : k < l.length := by omega
      rw [decide_eq_true h0, decide_eq_true h1, Int.toNat_natCast]
      have hx : l[k]? = some (el l k) := by unfold el; rw [List.getElem?_eq_getElem hkl]; rfl
      obtain ⟨ad, c2, e, _, d0, _, d2, d3, _⟩ := Its_at HL.out hx
      injection e with e1 _ e3
      subst e1 e3
      clear hx
      generalize (el l k).used = us at *
      generalize (el l k).kind = kd at *
      generalize (el l k).who = wh at *
      cases us with
      | false =>
        go_enter Try.func68, Try.ntmps68
        go_wp2
        go_returns
        exact ⟨by simp, Grew.refl _⟩
      | true =>
        by_cases hk : kd = 1
        · subst hk
          by_cases hw : wh = n
          · subst hw
            go_enter Try.func68, Try.ntmps68
            go_wp2
            go_returns
            exact ⟨by simp, Grew.refl _⟩
          · have hw' : (wh == n) = false := by simpa using hw
            rw [decide_eq_false hw]
            clear hw
            go_enter Try.func68, Try.ntmps68
            go_wp2
            go_returns
            exact ⟨by simp, Grew.refl _⟩
        · have hk' : (kd == 1) = false := by simpa using hk
          rw [decide_eq_false hk]
          clear hk
          go_enter Try.func68, Try.ntmps68
          go_wp2
          go_returns
          exact ⟨by simp, Grew.refl _⟩
    · rw [decide_eq_false h1]
      go_enter Try.func68, Try.ntmps68
      go_wp2
      go_returns
      exact ⟨by simp, Grew.refl _⟩
  · rw [decide_eq_false h0]
    go_enter Try.func68, Try.ntmps68
    go_wp2
    go_returns
    exact ⟨by simp, Grew.refl _⟩
end Go.Proofs.Ytaolallfmjjoeaa.DA
