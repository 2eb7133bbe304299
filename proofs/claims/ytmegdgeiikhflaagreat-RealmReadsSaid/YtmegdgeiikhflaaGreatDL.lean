/-
  Which labels and quotas a realm may have, as the document tells it.
  Conditions: none.
-/
import Derived.Test.YtmegdgeiikhflaaGreatRCaps
import Derived.Test.YtmegdgeiikhflaaGreatLRefs
namespace Go.Proofs.YtmegdgeiikhflaaGreat.DL
set_option maxRecDepth 100000
open Go Go.RowKit Go.Lib Go.Proofs.YtmegdgeiikhflaaGreat Go.Proofs.YtmegdgeiikhflaaGreat.Facts Go.Proofs.YtmegdgeiikhflaaGreat.Plain Go.Proofs.YtmegdgeiikhflaaGreat.Ints Go.Proofs.YtmegdgeiikhflaaGreat.RRows Go.Proofs.YtmegdgeiikhflaaGreat.LBox Go.Proofs.YtmegdgeiikhflaaGreat.RSmall Go.Proofs.YtmegdgeiikhflaaGreat.RFind Go.Proofs.YtmegdgeiikhflaaGreat.RAll Go.Proofs.YtmegdgeiikhflaaGreat.RRule1 Go.Proofs.YtmegdgeiikhflaaGreat.RRules Go.Proofs.YtmegdgeiikhflaaGreat.RRule5 Go.Proofs.YtmegdgeiikhflaaGreat.RCaps Go.Proofs.YtmegdgeiikhflaaGreat.LRefs

def okL (l : List La) : Bool := wit l.length 1 8 && (l.all (fun x => may x.lev) && rising l)
theorem lat_all {l : List La} {p : La → Bool} : l.all p = true ↔ ∀ i, i < l.length → p (lat l i) = true := by
  rw [List.all_eq_true]
  constructor
  · intro h i hi
    exact h _ (List.mem_of_getElem? (lat_get hi))
  · intro h x hx
    obtain ⟨i, hi⟩ := List.getElem?_of_mem hx
    have hl := (List.getElem?_eq_some_iff.1 hi).1
    rw [lat_get hl] at hi
    cases hi
    exact h i hl
theorem okL_yes {l : List La} (h1 : 1 ≤ l.length) (h2 : l.length ≤ 8) (h3 : (lat l 0).lev = 0 ∧ (lat l 0).set = 0#64) (h4 : ∀ i, i + 1 < l.length → may (lat l (i + 1)).lev = true ∧ rok l (i + 1) = true) : okL l = true := by
  unfold okL wit
  rw [decide_eq_true (by omega), decide_eq_true (by omega)]
  simp only [Bool.true_and, Bool.and_eq_true]
  refine ⟨lat_all.2 fun i hi => ?_, rising_yes fun i hi => ?_⟩
  · cases i with
    | zero => rw [h3.1]; decide
    | succ i => exact (h4 i hi).1
  · cases i with
    | zero => rw [rok_zero, h3.1, h3.2]; decide
    | succ i => exact (h4 i hi).2
theorem okL_len {l : List La} (h : ¬ (1 ≤ l.length ∧ l.length ≤ 8)) : okL l = false := by
  unfold okL wit
  by_cases h1 : 1 ≤ l.length
  · rw [decide_eq_false (show ¬ ((l.length : Nat) : Int) ≤ 8 by omega)]; simp
  · rw [decide_eq_false (show ¬ (1 : Int) ≤ ((l.length : Nat) : Int) by omega)]; simp
theorem okL_may {l : List La} {i : Nat} (hi : i < l.length) (h : may (lat l i).lev = false) : okL l = false := by
  unfold okL
  have : l.all (fun x => may x.lev) = false := by
    rw [Bool.eq_false_iff]
    intro h2
    rw [lat_all.1 h2 i hi] at h
    cases h
  rw [this]
  simp
theorem okL_rok {l : List La} {i : Nat} (hi : i < l.length) (h : rok l i = false) : okL l = false := by
  unfold okL
  rw [rising_no hi h]
  simp
set_option maxHeartbeats 4000000 in
theorem labels_any (v : Value) (l : List La) (w : World) (h : Ls w v l) : Calls Tryz.prog 48 #[v] w fun e w' => e = .returned (.bool (okL l)) ∧ Grew w w' := by
  have HL := Lib.hid h
  obtain ⟨A, cp, rfl, hc1, hc2⟩ := h.slice
  have HC2 := Lib.hid (Nat.le_trans hc1 hc2)
  have HLEN := Lib.hid (@okL_len l)
  have HMAY := Lib.hid (fun i => @okL_may l i)
  have HROK := Lib.hid (fun i => @okL_rok l i)
  have HYES := Lib.hid (@okL_yes l)
  generalize okL l = res at *
  clear h hc2 hc1
  by_cases h1 : 1 ≤ l.length
  · by_cases h8 : l.length ≤ 8
    · have h1' : ¬ (l.length : Int) < 1 := by omega
      have h8' : ¬ (8 : Int) < (l.length : Int) := by omega
      have hpos : (0 : Int) < (l.length : Int) := by omega
      obtain ⟨ad, c2, e, hc, c0, c1⟩ := Ls_at HL.out (lat_get (i := 0) (by omega))
      injection e with e1 _ e3
      subst e1 e3
      have c0' : w.cell? ad = some (.int .i64 (lat l 0).lev) := by simpa [Addr.add] using c0
      have c1' : w.cell? ⟨ad.block, ad.off + 1, none⟩ = some (.int .u64 ((lat l 0).set.toNat : Int)) := by simpa [Addr.add] using c1
      have hz := rok_zero l
      have H1 := Lib.hid h1
      have H8 := Lib.hid h8
      clear c0 c1 h1 h8
      by_cases x1 : (lat l 0).lev = 0
      · by_cases x2 : (lat l 0).set = 0#64
        · have HB := Lib.hid (show (lat l 0).lev = 0 ∧ (lat l 0).set = 0#64 from ⟨x1, x2⟩)
          rw [x1] at c0'
          rw [x2] at c1'
          clear x1 x2 hz
          go_enter Tryz.func48, Tryz.ntmps48
          go_wp2
          clear c0' c1'
          go_loopg [3] (l.length - 1) (fun g s3 wx => ∃ k : Nat, k + 1 + g = l.length ∧ s3 = .int .i64 ((k : Int) + 1) ∧ Hid (∀ j, j < k → may (lat l (j + 1)).lev = true ∧ rok l (j + 1) = true) ∧ Hid (Grew w wx))
          case atStart => exact ⟨0, by omega, by first | rfl | simp, Lib.hid (fun j h => absurd h (by omega)), Lib.hid (Grew.refl _)⟩
          case round =>
            obtain ⟨k, hkg, rfl, HJ, HG⟩ := hrel
            cases gk with
            | zero =>
              have hkz : ¬ ((k : Int) + 1 < (l.length : Int)) := by omega
              have HR := Lib.hid (HYES.out H1.out H8.out HB.out fun i hi => HJ.out i (by omega))
              go_wp2
              go_returns
              refine ⟨?_, HG.out⟩
              rw [HR.out]
              try rfl
            | succ g =>
              have hkz : (k : Int) + 1 < (l.length : Int) := by omega
              obtain ⟨ad3, c4, e, hc, c0, c1⟩ := Ls_at (HL.out.grew HG.out) (lat_get (i := k + 1) (by omega))
              injection e with e1 _ e3
              injection e1 with e1
              subst e1 e3
              obtain ⟨ad4, c5, e, hc', p0, p1⟩ := Ls_at (HL.out.grew HG.out) (lat_get (i := k) (by omega))
              injection e with e1 _ e3
              injection e1 with e1
              subst e1 e3
              have C0 := Lib.hid c0
              have C1 := Lib.hid c1
              have P0 := Lib.hid p0
              have P1 := Lib.hid p1
              have hkl : (k : Int) < (l.length : Int) := by omega
              have hb8 : (l.length : Int) ≤ 8 := by have := H8.out; omega
              have hkw : wrap64 ((k : Int) + 1 + 1) = (k : Int) + 1 + 1 := by unfold wrap64; omega
              have hkw2 : IntKind.i64.wrap (k : Int) = (k : Int) := by rw [IntKind.wrap_i64]; omega
              have HMA := Lib.hid (HMAY.out (k + 1) (by omega))
              have HRO := Lib.hid (HROK.out (k + 1) (by omega))
              have hrk := rok_succ l k
              have HST : Hid (may (lat l (k + 1)).lev = true → rok l (k + 1) = true → ∀ j, j < k + 1 → may (lat l (j + 1)).lev = true ∧ rok l (j + 1) = true) := Lib.hid fun q1 q2 j hj => by
                by_cases hjk : j = k
                · subst hjk; exact ⟨q1, q2⟩
                · exact HJ.out j (by omega)
              have HRM := Lib.hid (fun W => rright_any (lat l (k + 1)).lev (lat l (k + 1)).set W)
              have HCM := Lib.hid (fun W => rcmp_any (lat l k).lev (lat l k).set (lat l (k + 1)).lev (lat l (k + 1)).set W)
              clear c0 c1 p0 p1 hb8
              rw [hrk] at HST HRO
              clear hrk
              generalize may (lat l (k + 1)).lev = bm at *
              generalize order (lat l k).lev (lat l k).set (lat l (k + 1)).lev (lat l (k + 1)).set = o at *
              generalize (lat l k).lev = pl at *
              generalize (lat l k).set = ps at *
              generalize (lat l (k + 1)).lev = xl at *
              generalize (lat l (k + 1)).set = xs at *
              cases bm with
              | false =>
                have HR := Lib.hid (HMA.out (by first | rfl | trivial))
                go_wp2
                refine Facts.wp_region_text (by kernel_rfl) (by kernel_rfl) ?_
                apply Facts.Lex.exact [] _ (by kernel_rfl)
                · intro u W hC _
                  unfold Facts.one
                  go_simp
                  first | exact ⟨Grew.refl _, rfl⟩ | rfl
                simp only [Act.put, List.setIfInBounds_toArray, List.set_cons_zero, List.set_cons_succ, Nat.zero_add]
                apply Facts.Lex.exact [] _ (by kernel_rfl)
                · intro u W hC _
                  unfold Facts.one
                  go_simp
                  first | exact ⟨Grew.refl _, rfl⟩ | rfl
                simp only [Act.put, List.setIfInBounds_toArray, List.set_cons_zero, List.set_cons_succ, Nat.reduceAdd]
                apply Facts.Lex.exact [] _ (by kernel_rfl)
                · intro u W hC _
                  unfold Facts.one
                  go_simp
                  first | exact ⟨Grew.refl _, rfl⟩ | rfl
                simp only [Act.put, List.setIfInBounds_toArray, List.set_cons_zero, List.set_cons_succ, Nat.reduceAdd]
                apply Facts.Lex.exact [] _ (by kernel_rfl)
                · intro u W hC _
                  have c0 := cellB hC C0.out
                  have c1 := cellB hC C1.out
                  unfold Facts.one
                  go_simp
                  first | exact ⟨Grew.refl _, rfl⟩ | rfl
                simp only [Act.put, List.setIfInBounds_toArray, List.set_cons_zero, List.set_cons_succ, Nat.reduceAdd]
                apply Facts.Lex.exact [] _ (by kernel_rfl)
                · intro u W hC _
                  unfold Facts.one
                  go_simp
                  first | exact ⟨Grew.refl _, rfl⟩ | rfl | (refine (HRM.out W).mono ?_; rintro e w' ⟨rfl, hg⟩; exact ⟨_, rfl, hg, rfl⟩)
                simp only [Act.put, List.setIfInBounds_toArray, List.set_cons_zero, List.set_cons_succ, Nat.reduceAdd]
                apply Facts.Lex.exact [] _ (by kernel_rfl)
                · intro u W hC _
                  unfold Facts.one
                  go_simp
                  first | exact ⟨Grew.refl _, rfl⟩ | rfl
                simp only [Act.put, List.setIfInBounds_toArray, List.set_cons_zero, List.set_cons_succ, Nat.reduceAdd]
                apply Facts.Lex.exact [] _ (by kernel_rfl)
                · intro u W hC _
                  unfold Facts.one
                  go_simp
                  first | exact ⟨Grew.refl _, rfl⟩ | rfl
                simp only [Act.put, List.setIfInBounds_toArray, List.set_cons_zero, List.set_cons_succ, Nat.reduceAdd]
                apply Facts.Lex.exact [] _ (by kernel_rfl)
                · intro u W hC _
                  unfold Facts.one
                  go_simp
                  first | exact ⟨Grew.refl _, rfl⟩ | rfl
                simp only [Act.put, List.setIfInBounds_toArray, List.set_cons_zero, List.set_cons_succ, Nat.reduceAdd]
                apply Facts.Lex.exact [] _ (by kernel_rfl)
                · intro u W hC _
                  unfold Facts.one
                  go_simp
                  first | exact ⟨Grew.refl _, rfl⟩ | rfl
                simp only [Act.put, List.setIfInBounds_toArray, List.set_cons_zero, List.set_cons_succ, Nat.reduceAdd]
                apply Facts.Lex.exact [] _ (by kernel_rfl)
                · intro u W hC _
                  unfold Facts.one
                  go_simp
                  first | exact ⟨Grew.refl _, rfl⟩ | rfl
                simp only [Act.put, List.setIfInBounds_toArray, List.set_cons_zero, List.set_cons_succ, Nat.reduceAdd]
                apply Facts.Lex.exact [] _ (by kernel_rfl)
                · intro u W hC _
                  unfold Facts.one
                  go_simp
                  first | exact ⟨Grew.refl _, rfl⟩ | rfl
                simp only [Act.put, List.setIfInBounds_toArray, List.set_cons_zero, List.set_cons_succ, Nat.reduceAdd]
                apply Facts.Lex.exact [] _ (by kernel_rfl)
                · intro u W hC _
                  unfold Facts.one
                  go_simp
                  first | exact ⟨Grew.refl _, rfl⟩ | rfl
                simp only [Act.put, List.setIfInBounds_toArray, List.set_cons_zero, List.set_cons_succ, Nat.reduceAdd]
                apply Facts.Lex.exact [] _ (by kernel_rfl)
                · intro u W hC _
                  unfold Facts.one
                  go_simp
                  first | exact ⟨Grew.refl _, rfl⟩ | rfl
                simp only [Act.put, List.setIfInBounds_toArray, List.set_cons_zero, List.set_cons_succ, Nat.reduceAdd]
                apply Facts.Lex.exact [] _ (by kernel_rfl)
                · intro u W hC _
                  unfold Facts.one
                  go_simp
                  first | exact ⟨Grew.refl _, rfl⟩ | rfl
                simp only [Act.put, List.setIfInBounds_toArray, List.set_cons_zero, List.set_cons_succ, Nat.reduceAdd]
                apply Facts.Lex.exact [] _ (by kernel_rfl)
                · intro u W hC _
                  unfold Facts.one
                  go_simp
                  first | exact ⟨Grew.refl _, rfl⟩ | rfl
                simp only [Act.put, List.setIfInBounds_toArray, List.set_cons_zero, List.set_cons_succ, Nat.reduceAdd]
                apply Facts.Lex.exact [] _ (by kernel_rfl)
                · intro u W hC _
                  unfold Facts.one
                  go_simp
                  first | exact ⟨Grew.refl _, rfl⟩ | rfl
                simp only [Act.put, List.setIfInBounds_toArray, List.set_cons_zero, List.set_cons_succ, Nat.reduceAdd]
                apply Facts.Lex.exact [] _ (by kernel_rfl)
                · intro u W hC _
                  unfold Facts.one
                  go_simp
                  first | exact ⟨Grew.refl _, rfl⟩ | rfl
                simp only [Act.put, List.setIfInBounds_toArray, List.set_cons_zero, List.set_cons_succ, Nat.reduceAdd]
                apply Facts.Lex.exact [] _ (by kernel_rfl)
                · intro u W hC _
                  unfold Facts.one
                  go_simp
                  first | exact ⟨Grew.refl _, rfl⟩ | rfl
                simp only [Act.put, List.setIfInBounds_toArray, List.set_cons_zero, List.set_cons_succ, Nat.reduceAdd]
                apply Facts.Lex.exact [] _ (by kernel_rfl)
                · intro u W hC _
                  unfold Facts.one
                  go_simp
                  first | exact ⟨Grew.refl _, rfl⟩ | rfl
                simp only [Act.put, List.setIfInBounds_toArray, List.set_cons_zero, List.set_cons_succ, Nat.reduceAdd]
                refine Facts.Lex.done fun u W2 hC hL => ?_
                have G2 := Lib.hid (HG.out.trans hC)
                clear hC hL
                go_wp2
                go_returns
                refine ⟨?_, G2.out⟩
                rw [HR.out]
                try rfl
              | true =>
                by_cases ho : 0 ≤ o
                · have HR := Lib.hid (HRO.out (decide_eq_false (by omega)))
                  go_wp2
                  refine Facts.wp_region_text (by kernel_rfl) (by kernel_rfl) ?_
                  apply Facts.Lex.exact [] _ (by kernel_rfl)
                  · intro u W hC _
                    unfold Facts.one
                    go_simp
                    first | exact ⟨Grew.refl _, rfl⟩ | rfl
                  simp only [Act.put, List.setIfInBounds_toArray, List.set_cons_zero, List.set_cons_succ, Nat.zero_add]
                  apply Facts.Lex.exact [] _ (by kernel_rfl)
                  · intro u W hC _
                    unfold Facts.one
                    go_simp
                    first | exact ⟨Grew.refl _, rfl⟩ | rfl
                  simp only [Act.put, List.setIfInBounds_toArray, List.set_cons_zero, List.set_cons_succ, Nat.reduceAdd]
                  apply Facts.Lex.exact [] _ (by kernel_rfl)
                  · intro u W hC _
                    unfold Facts.one
                    go_simp
                    first | exact ⟨Grew.refl _, rfl⟩ | rfl
                  simp only [Act.put, List.setIfInBounds_toArray, List.set_cons_zero, List.set_cons_succ, Nat.reduceAdd]
                  apply Facts.Lex.exact [] _ (by kernel_rfl)
                  · intro u W hC _
                    have c0 := cellB hC C0.out
                    have c1 := cellB hC C1.out
                    unfold Facts.one
                    go_simp
                    first | exact ⟨Grew.refl _, rfl⟩ | rfl
                  simp only [Act.put, List.setIfInBounds_toArray, List.set_cons_zero, List.set_cons_succ, Nat.reduceAdd]
                  apply Facts.Lex.exact [] _ (by kernel_rfl)
                  · intro u W hC _
                    unfold Facts.one
                    go_simp
                    first | exact ⟨Grew.refl _, rfl⟩ | rfl | (refine (HRM.out W).mono ?_; rintro e w' ⟨rfl, hg⟩; exact ⟨_, rfl, hg, rfl⟩)
                  simp only [Act.put, List.setIfInBounds_toArray, List.set_cons_zero, List.set_cons_succ, Nat.reduceAdd]
                  apply Facts.Lex.exact [] _ (by kernel_rfl)
                  · intro u W hC _
                    unfold Facts.one
                    go_simp
                    first | exact ⟨Grew.refl _, rfl⟩ | rfl
                  simp only [Act.put, List.setIfInBounds_toArray, List.set_cons_zero, List.set_cons_succ, Nat.reduceAdd]
                  apply Facts.Lex.exact [] _ (by kernel_rfl)
                  · intro u W hC _
                    unfold Facts.one
                    go_simp
                    first | exact ⟨Grew.refl _, rfl⟩ | rfl
                  simp only [Act.put, List.setIfInBounds_toArray, List.set_cons_zero, List.set_cons_succ, Nat.reduceAdd]
                  apply Facts.Lex.exact [] _ (by kernel_rfl)
                  · intro u W hC _
                    unfold Facts.one
                    go_simp
                    first | exact ⟨Grew.refl _, rfl⟩ | rfl
                  simp only [Act.put, List.setIfInBounds_toArray, List.set_cons_zero, List.set_cons_succ, Nat.reduceAdd]
                  apply Facts.Lex.exact [] _ (by kernel_rfl)
                  · intro u W hC _
                    unfold Facts.one
                    go_simp
                    first | exact ⟨Grew.refl _, rfl⟩ | rfl
                  simp only [Act.put, List.setIfInBounds_toArray, List.set_cons_zero, List.set_cons_succ, Nat.reduceAdd]
                  apply Facts.Lex.exact [] _ (by kernel_rfl)
                  · intro u W hC _
                    unfold Facts.one
                    go_simp
                    first | exact ⟨Grew.refl _, rfl⟩ | rfl
                  simp only [Act.put, List.setIfInBounds_toArray, List.set_cons_zero, List.set_cons_succ, Nat.reduceAdd]
                  apply Facts.Lex.exact [] _ (by kernel_rfl)
                  · intro u W hC _
                    unfold Facts.one
                    go_simp
                    first | exact ⟨Grew.refl _, rfl⟩ | rfl
                  simp only [Act.put, List.setIfInBounds_toArray, List.set_cons_zero, List.set_cons_succ, Nat.reduceAdd]
                  apply Facts.Lex.exact [] _ (by kernel_rfl)
                  · intro u W hC _
                    have p0 := cellB hC P0.out
                    have p1 := cellB hC P1.out
                    unfold Facts.one
                    go_simp
                    first | exact ⟨Grew.refl _, rfl⟩ | rfl
                  simp only [Act.put, List.setIfInBounds_toArray, List.set_cons_zero, List.set_cons_succ, Nat.reduceAdd]
                  apply Facts.Lex.exact [] _ (by kernel_rfl)
                  · intro u W hC _
                    unfold Facts.one
                    go_simp
                    first | exact ⟨Grew.refl _, rfl⟩ | rfl
                  simp only [Act.put, List.setIfInBounds_toArray, List.set_cons_zero, List.set_cons_succ, Nat.reduceAdd]
                  apply Facts.Lex.exact [] _ (by kernel_rfl)
                  · intro u W hC _
                    unfold Facts.one
                    go_simp
                    first | exact ⟨Grew.refl _, rfl⟩ | rfl
                  simp only [Act.put, List.setIfInBounds_toArray, List.set_cons_zero, List.set_cons_succ, Nat.reduceAdd]
                  apply Facts.Lex.exact [] _ (by kernel_rfl)
                  · intro u W hC _
                    unfold Facts.one
                    go_simp
                    first | exact ⟨Grew.refl _, rfl⟩ | rfl
                  simp only [Act.put, List.setIfInBounds_toArray, List.set_cons_zero, List.set_cons_succ, Nat.reduceAdd]
                  apply Facts.Lex.exact [] _ (by kernel_rfl)
                  · intro u W hC _
                    have c0 := cellB hC C0.out
                    have c1 := cellB hC C1.out
                    unfold Facts.one
                    go_simp
                    first | exact ⟨Grew.refl _, rfl⟩ | rfl
                  simp only [Act.put, List.setIfInBounds_toArray, List.set_cons_zero, List.set_cons_succ, Nat.reduceAdd]
                  apply Facts.Lex.exact [] _ (by kernel_rfl)
                  · intro u W hC _
                    unfold Facts.one
                    go_simp
                    first | exact ⟨Grew.refl _, rfl⟩ | rfl | (refine (HCM.out W).mono ?_; rintro e w' ⟨rfl, hg⟩; exact ⟨_, rfl, hg, rfl⟩)
                  simp only [Act.put, List.setIfInBounds_toArray, List.set_cons_zero, List.set_cons_succ, Nat.reduceAdd]
                  apply Facts.Lex.exact [] _ (by kernel_rfl)
                  · intro u W hC _
                    unfold Facts.one
                    go_simp
                    first | exact ⟨Grew.refl _, rfl⟩ | rfl
                  simp only [Act.put, List.setIfInBounds_toArray, List.set_cons_zero, List.set_cons_succ, Nat.reduceAdd]
                  apply Facts.Lex.exact [] _ (by kernel_rfl)
                  · intro u W hC _
                    unfold Facts.one
                    go_simp
                    first | exact ⟨Grew.refl _, rfl⟩ | rfl
                  simp only [Act.put, List.setIfInBounds_toArray, List.set_cons_zero, List.set_cons_succ, Nat.reduceAdd]
                  refine Facts.Lex.done fun u W2 hC hL => ?_
                  have G2 := Lib.hid (HG.out.trans hC)
                  clear hC hL
                  go_wp2
                  go_returns
                  refine ⟨?_, G2.out⟩
                  rw [HR.out]
                  try rfl
                · have HS2 := Lib.hid (HST.out (by first | rfl | trivial) (decide_eq_true (by omega)))
                  have hd : decide (0 ≤ o) = false := decide_eq_false ho
                  clear ho
                  go_wp2
                  refine Facts.wp_region_text (by kernel_rfl) (by kernel_rfl) ?_
                  apply Facts.Lex.exact [] _ (by kernel_rfl)
                  · intro u W hC _
                    unfold Facts.one
                    go_simp
                    first | exact ⟨Grew.refl _, rfl⟩ | rfl
                  simp only [Act.put, List.setIfInBounds_toArray, List.set_cons_zero, List.set_cons_succ, Nat.zero_add]
                  apply Facts.Lex.exact [] _ (by kernel_rfl)
                  · intro u W hC _
                    unfold Facts.one
                    go_simp
                    first | exact ⟨Grew.refl _, rfl⟩ | rfl
                  simp only [Act.put, List.setIfInBounds_toArray, List.set_cons_zero, List.set_cons_succ, Nat.reduceAdd]
                  apply Facts.Lex.exact [] _ (by kernel_rfl)
                  · intro u W hC _
                    unfold Facts.one
                    go_simp
                    first | exact ⟨Grew.refl _, rfl⟩ | rfl
                  simp only [Act.put, List.setIfInBounds_toArray, List.set_cons_zero, List.set_cons_succ, Nat.reduceAdd]
                  apply Facts.Lex.exact [] _ (by kernel_rfl)
                  · intro u W hC _
                    have c0 := cellB hC C0.out
                    have c1 := cellB hC C1.out
                    unfold Facts.one
                    go_simp
                    first | exact ⟨Grew.refl _, rfl⟩ | rfl
                  simp only [Act.put, List.setIfInBounds_toArray, List.set_cons_zero, List.set_cons_succ, Nat.reduceAdd]
                  apply Facts.Lex.exact [] _ (by kernel_rfl)
                  · intro u W hC _
                    unfold Facts.one
                    go_simp
                    first | exact ⟨Grew.refl _, rfl⟩ | rfl | (refine (HRM.out W).mono ?_; rintro e w' ⟨rfl, hg⟩; exact ⟨_, rfl, hg, rfl⟩)
                  simp only [Act.put, List.setIfInBounds_toArray, List.set_cons_zero, List.set_cons_succ, Nat.reduceAdd]
                  apply Facts.Lex.exact [] _ (by kernel_rfl)
                  · intro u W hC _
                    unfold Facts.one
                    go_simp
                    first | exact ⟨Grew.refl _, rfl⟩ | rfl
                  simp only [Act.put, List.setIfInBounds_toArray, List.set_cons_zero, List.set_cons_succ, Nat.reduceAdd]
                  apply Facts.Lex.exact [] _ (by kernel_rfl)
                  · intro u W hC _
                    unfold Facts.one
                    go_simp
                    first | exact ⟨Grew.refl _, rfl⟩ | rfl
                  simp only [Act.put, List.setIfInBounds_toArray, List.set_cons_zero, List.set_cons_succ, Nat.reduceAdd]
                  apply Facts.Lex.exact [] _ (by kernel_rfl)
                  · intro u W hC _
                    unfold Facts.one
                    go_simp
                    first | exact ⟨Grew.refl _, rfl⟩ | rfl
                  simp only [Act.put, List.setIfInBounds_toArray, List.set_cons_zero, List.set_cons_succ, Nat.reduceAdd]
                  apply Facts.Lex.exact [] _ (by kernel_rfl)
                  · intro u W hC _
                    unfold Facts.one
                    go_simp
                    first | exact ⟨Grew.refl _, rfl⟩ | rfl
                  simp only [Act.put, List.setIfInBounds_toArray, List.set_cons_zero, List.set_cons_succ, Nat.reduceAdd]
                  apply Facts.Lex.exact [] _ (by kernel_rfl)
                  · intro u W hC _
                    unfold Facts.one
                    go_simp
                    first | exact ⟨Grew.refl _, rfl⟩ | rfl
                  simp only [Act.put, List.setIfInBounds_toArray, List.set_cons_zero, List.set_cons_succ, Nat.reduceAdd]
                  apply Facts.Lex.exact [] _ (by kernel_rfl)
                  · intro u W hC _
                    unfold Facts.one
                    go_simp
                    first | exact ⟨Grew.refl _, rfl⟩ | rfl
                  simp only [Act.put, List.setIfInBounds_toArray, List.set_cons_zero, List.set_cons_succ, Nat.reduceAdd]
                  apply Facts.Lex.exact [] _ (by kernel_rfl)
                  · intro u W hC _
                    have p0 := cellB hC P0.out
                    have p1 := cellB hC P1.out
                    unfold Facts.one
                    go_simp
                    first | exact ⟨Grew.refl _, rfl⟩ | rfl
                  simp only [Act.put, List.setIfInBounds_toArray, List.set_cons_zero, List.set_cons_succ, Nat.reduceAdd]
                  apply Facts.Lex.exact [] _ (by kernel_rfl)
                  · intro u W hC _
                    unfold Facts.one
                    go_simp
                    first | exact ⟨Grew.refl _, rfl⟩ | rfl
                  simp only [Act.put, List.setIfInBounds_toArray, List.set_cons_zero, List.set_cons_succ, Nat.reduceAdd]
                  apply Facts.Lex.exact [] _ (by kernel_rfl)
                  · intro u W hC _
                    unfold Facts.one
                    go_simp
                    first | exact ⟨Grew.refl _, rfl⟩ | rfl
                  simp only [Act.put, List.setIfInBounds_toArray, List.set_cons_zero, List.set_cons_succ, Nat.reduceAdd]
                  apply Facts.Lex.exact [] _ (by kernel_rfl)
                  · intro u W hC _
                    unfold Facts.one
                    go_simp
                    first | exact ⟨Grew.refl _, rfl⟩ | rfl
                  simp only [Act.put, List.setIfInBounds_toArray, List.set_cons_zero, List.set_cons_succ, Nat.reduceAdd]
                  apply Facts.Lex.exact [] _ (by kernel_rfl)
                  · intro u W hC _
                    have c0 := cellB hC C0.out
                    have c1 := cellB hC C1.out
                    unfold Facts.one
                    go_simp
                    first | exact ⟨Grew.refl _, rfl⟩ | rfl
                  simp only [Act.put, List.setIfInBounds_toArray, List.set_cons_zero, List.set_cons_succ, Nat.reduceAdd]
                  apply Facts.Lex.exact [] _ (by kernel_rfl)
                  · intro u W hC _
                    unfold Facts.one
                    go_simp
                    first | exact ⟨Grew.refl _, rfl⟩ | rfl | (refine (HCM.out W).mono ?_; rintro e w' ⟨rfl, hg⟩; exact ⟨_, rfl, hg, rfl⟩)
                  simp only [Act.put, List.setIfInBounds_toArray, List.set_cons_zero, List.set_cons_succ, Nat.reduceAdd]
                  apply Facts.Lex.exact [] _ (by kernel_rfl)
                  · intro u W hC _
                    unfold Facts.one
                    go_simp
                    first | exact ⟨Grew.refl _, rfl⟩ | rfl
                  simp only [Act.put, List.setIfInBounds_toArray, List.set_cons_zero, List.set_cons_succ, Nat.reduceAdd]
                  apply Facts.Lex.exact [] _ (by kernel_rfl)
                  · intro u W hC _
                    unfold Facts.one
                    go_simp
                    first | exact ⟨Grew.refl _, rfl⟩ | rfl
                  simp only [Act.put, List.setIfInBounds_toArray, List.set_cons_zero, List.set_cons_succ, Nat.reduceAdd]
                  refine Facts.Lex.done fun u W2 hC hL => ?_
                  have G2 := Lib.hid (HG.out.trans hC)
                  clear hC hL
                  go_wp2
                  go_roundg g
                  case measure => omega
                  case rel => exact ⟨k + 1, by omega, by first | rfl | simp [hkw] | simp, HS2, G2⟩
        · have HR := Lib.hid (HROK.out 0 (by have := H1.out; omega) (by rw [hz, x1, decide_eq_false x2]; rfl))
          have h3 : ¬ ((lat l 0).set.toNat : Int) = 0 := fun h => x2 (BitVec.eq_of_toNat_eq (by simp; omega))
          rw [x1] at c0'
          clear x1 x2 hz
          go_enter Tryz.func48, Tryz.ntmps48
          go_wp2
          go_returns
          refine ⟨?_, Grew.refl _⟩
          rw [HR.out]
          try rfl
      · have HR := Lib.hid (HROK.out 0 (by have := H1.out; omega) (by rw [hz, decide_eq_false x1]; rfl))
        clear hz
        go_enter Tryz.func48, Tryz.ntmps48
        go_wp2
        go_returns
        refine ⟨?_, Grew.refl _⟩
        rw [HR.out]
        try rfl
    · have HR := Lib.hid (HLEN.out (fun h => h8 h.2))
      have h1' : ¬ (l.length : Int) < 1 := by omega
      have h8' : (8 : Int) < (l.length : Int) := by omega
      clear h1 h8
      go_enter Tryz.func48, Tryz.ntmps48
      go_wp2
      go_returns
      refine ⟨?_, Grew.refl _⟩
      rw [HR.out]
      try rfl
  · have HR := Lib.hid (HLEN.out (fun h => h1 h.1))
    have h1' : (l.length : Int) < 1 := by omega
    clear h1
    go_enter Tryz.func48, Tryz.ntmps48
    go_wp2
    go_returns
    refine ⟨?_, Grew.refl _⟩
    rw [HR.out]
    try rfl

def hasB (l : List Gu) (b : Int) : Bool := l.any fun g => decide (g.bit = b)
theorem has_any' (v : Value) (l : List Gu) (b : Int) (w : World) (h : Gs w v l) : Calls Tryz.prog 130 #[v, .int .i64 b] w fun e w' => e = .returned (.bool (hasB l b)) ∧ Grew w w' := by
  have HL := Lib.hid h
  obtain ⟨A, cp, rfl, hc1, hc2⟩ := h.slice
  have HC2 := Lib.hid (Nat.le_trans hc1 hc2)
  clear h hc1 hc2
  have HNO : Hid ((∀ (j : Nat) x, l[j]? = some x → ¬ x.bit = b) → hasB l b = false) := Lib.hid fun h => by
    unfold hasB
    rw [List.any_eq_false]
    intro x hx
    obtain ⟨j, hj⟩ := List.getElem?_of_mem hx
    simp [h j x hj]
  have HYES : Hid (∀ (j : Nat) x, l[j]? = some x → x.bit = b → hasB l b = true) := Lib.hid fun j x hj hb => by
    unfold hasB
    rw [List.any_eq_true]
    exact ⟨x, List.mem_of_getElem? hj, by simp [hb]⟩
  generalize hasB l b = res at *
  go_enter Tryz.func130, Tryz.ntmps130
  go_wp2
  go_loopg [5] l.length (fun g s5 wx => ∃ k : Nat, k + g = l.length ∧ s5 = .int .i64 k ∧ Hid (∀ (j : Nat) x, j < k → l[j]? = some x → ¬ x.bit = b) ∧ wx = w)
  case atStart => exact ⟨0, by omega, rfl, Lib.hid (fun j x h => absurd h (by omega)), rfl⟩
  case round =>
    obtain ⟨k, hkg, rfl, HJ, rfl⟩ := hrel
    cases gk with
    | zero =>
      have hkz : ¬ ((k : Int) < (l.length : Int)) := by omega
      have HR := Lib.hid (HNO.out fun j x hx => HJ.out j x (by have := (List.getElem?_eq_some_iff.1 hx).1; omega) hx)
      go_wp2
      go_returns
      refine ⟨?_, Grew.refl _⟩
      rw [HR.out]
      try rfl
    | succ g =>
      have hkz : (k : Int) < (l.length : Int) := by omega
      have hx : l[k]? = some l[k] := List.getElem?_eq_getElem (by omega)
      obtain ⟨ad, c2, e, hc, c0, c1⟩ := Gs_at HL.out hx
      injection e with e1 _ e3
      subst e1 e3
      have HX := Lib.hid hx
      have hkw : wrap64 ((k : Int) + 1) = (k : Int) + 1 := by
        have := HC2.out
        unfold maxLen at this
        unfold wrap64
        omega
      generalize l[k] = x at *
      by_cases hb : x.bit = b
      · have HR := Lib.hid (HYES.out k x HX.out hb)
        have hbb : (x.bit == b) = true := by simpa using hb
        clear hb hx
        go_wp2
        go_returns
        refine ⟨?_, Grew.refl _⟩
        rw [HR.out]
        try rfl
      · have HS : Hid (∀ (j : Nat) y, j < k + 1 → l[j]? = some y → ¬ y.bit = b) := Lib.hid fun j y hj hy => by
          by_cases hjk : j = k
          · subst hjk
            rw [HX.out] at hy
            cases hy
            exact hb
          · exact HJ.out j y (by omega) hy
        have hbb : (x.bit == b) = false := by simpa using hb
        clear hb hx
        go_wp2
        go_roundg g
        case measure => omega
        case rel => exact ⟨k + 1, by omega, by first | rfl | simp [hkw] | simp, HS, rfl⟩
end Go.Proofs.YtmegdgeiikhflaaGreat.DL
