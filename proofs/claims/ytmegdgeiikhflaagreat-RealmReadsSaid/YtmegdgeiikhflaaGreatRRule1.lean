/-
  Labels that rise from the bottom: the program's and the document's own answers.
  Conditions: none.
-/
import Derived.Test.YtmegdgeiikhflaaGreatRAll
import Derived.Test.YtmegdgeiikhflaaGreatLRefs
namespace Go.Proofs.YtmegdgeiikhflaaGreat.RRule1
set_option maxRecDepth 100000
open Go Go.RowKit Go.Lib Go.Proofs.YtmegdgeiikhflaaGreat Go.Proofs.YtmegdgeiikhflaaGreat.Facts Go.Proofs.YtmegdgeiikhflaaGreat.Plain Go.Proofs.YtmegdgeiikhflaaGreat.RRows Go.Proofs.YtmegdgeiikhflaaGreat.LBox Go.Proofs.YtmegdgeiikhflaaGreat.RSmall Go.Proofs.YtmegdgeiikhflaaGreat.RFind Go.Proofs.YtmegdgeiikhflaaGreat.RAll

def bot : La := ⟨0, 0#64⟩
def lat (l : List La) (i : Nat) : La := l[i]?.getD bot
/-- Does it stand right behind the one ahead of it? -/
def rok (l : List La) (i : Nat) : Bool := if i = 0 then decide (lat l 0 = bot) else decide (order (lat l (i - 1)).lev (lat l (i - 1)).set (lat l i).lev (lat l i).set < 0)
def rising (l : List La) : Bool := (List.range l.length).all (rok l)
theorem rising_no {l : List La} {i : Nat} (hi : i < l.length) (h : rok l i = false) : rising l = false := by
  unfold rising
  rw [List.all_eq_false]
  exact ⟨i, List.mem_range.2 hi, by simp [h]⟩
theorem rising_yes {l : List La} (h : ∀ i, i < l.length → rok l i = true) : rising l = true := by
  unfold rising
  rw [List.all_eq_true]
  exact fun i hi => h i (List.mem_range.1 hi)
theorem lat_get {l : List La} {i : Nat} (h : i < l.length) : l[i]? = some (lat l i) := by
  unfold lat
  rw [List.getElem?_eq_getElem h, Option.getD_some]
theorem rok_zero (l : List La) : rok l 0 = (decide ((lat l 0).lev = 0) && decide ((lat l 0).set = 0#64)) := by
  unfold rok
  rw [if_pos rfl, ← Bool.decide_and]
  congr 1
  unfold bot
  cases lat l 0
  simp
theorem rok_succ (l : List La) (k : Nat) : rok l (k + 1) = decide (order (lat l k).lev (lat l k).set (lat l (k + 1)).lev (lat l (k + 1)).set < 0) := by
  unfold rok
  rw [if_neg (by omega), Nat.add_sub_cancel]

set_option maxRecDepth 100000 in
set_option maxHeartbeats 4000000 in
theorem rising_any (v : Value) (l : List La) (w : World) (h : Ls w v l) : Calls Tryz.prog 110 #[v] w fun e w' => e = .returned (.bool (rising l)) ∧ Grew w w' := by
  have HL := Lib.hid h
  obtain ⟨A, cp, rfl, hc1, hc2⟩ := h.slice
  have HC2 := Lib.hid hc2
  have HNO := Lib.hid (fun i => @rising_no l i)
  have HYES := Lib.hid (@rising_yes l)
  generalize rising l = res at *
  clear h hc2
  go_enter Tryz.func110, Tryz.ntmps110
  go_wp2
  go_loopg [7] l.length (fun g s7 wx => ∃ k : Nat, k + g = l.length ∧ s7 = .int .i64 k ∧ Hid (∀ j, j < k → rok l j = true) ∧ Hid (Grew w wx))
  case atStart => exact ⟨0, by omega, rfl, Lib.hid (fun j h => absurd h (by omega)), Lib.hid (Grew.refl _)⟩
  case round =>
    obtain ⟨k, hkg, rfl, HJ, HG⟩ := hrel
    cases gk with
    | zero =>
      have hkz : ¬ ((k : Int) < (l.length : Int)) := by omega
      have HR : Hid (res = true) := Lib.hid (HYES.out fun i hi => HJ.out i (by omega))
      go_wp2
      go_returns
      refine ⟨?_, HG.out⟩
      rw [HR.out]
      try rfl
    | succ g =>
      have hkz : (k : Int) < (l.length : Int) := by omega
      have hkw : wrap64 ((k : Int) + 1) = (k : Int) + 1 := by
        have hc2 := HC2.out
        unfold maxLen at hc2
        unfold wrap64
        omega
      obtain ⟨ad, c2, e, hc, c0, c1⟩ := Ls_at (HL.out.grew HG.out) (lat_get (i := k) (by omega))
      injection e with e1 _ e3
      subst e1 e3
      have GA : Hid (Grew wr (wr.alloc (.cells #[.int .i64 (lat l k).lev, .int .u64 ((lat l k).set.toNat : Int)] 31))) := Lib.hid (by unfold Grew; go_grown)
      obtain ⟨b0, b1, _, _⟩ := lab_cells (heap_alloc_new wr (.cells #[.int .i64 (lat l k).lev, .int .u64 ((lat l k).set.toNat : Int)] 31))
      have HN : rok l k = true → Hid (∀ j, j < k + 1 → rok l j = true) := fun h => Lib.hid fun j hj => by
        by_cases hjk : j = k
        · rw [hjk]; exact h
        · exact HJ.out j (by omega)
      have HX : rok l k = false → Hid (res = false) := fun h => Lib.hid (HNO.out _ (by omega) h)
      cases k with
      | zero =>
        have c0' : wr.cell? ad = some (.int .i64 (lat l 0).lev) := by simpa [Addr.add] using c0
        have c1' : wr.cell? ⟨ad.block, ad.off + 1, none⟩ = some (.int .u64 ((lat l 0).set.toNat : Int)) := by simpa [Addr.add] using c1
        have hz := rok_zero l
        clear c0 c1
        generalize (lat l 0).lev = xl at *
        generalize (lat l 0).set = xs at *
        by_cases h1 : xl = 0
        · by_cases h2 : xs = 0#64
          · have HN := HN (by rw [hz, h1, h2]; rfl)
            subst h1 h2
            clear HX hz
            go_wp2
            refine Facts.wp_region_text (by kernel_rfl) (by kernel_rfl) ?_
            repeat
              apply Facts.Lex.exact [] _ (by kernel_rfl)
              · intro u W hC _
                have j0 := cellB hC b0
                have j1 := cellB hC b1
                unfold Facts.one
                go_simp
                all_goals first | exact ⟨Grew.refl _, rfl⟩ | rfl
              simp only [Act.put, List.setIfInBounds_toArray, List.set_cons_zero, List.set_cons_succ, Nat.zero_add, Nat.reduceAdd]
            refine Facts.Lex.done fun u W2 hC hL => ?_
            have G2 := Lib.hid ((HG.out.trans GA.out).trans hC)
            clear hC hL c0' c1' b0 b1
            go_wp2
            go_roundg g
            case measure => omega
            case rel => exact ⟨0 + 1, by omega, by first | rfl | simp [hkw] | simp, HN, G2⟩
          · have HR := HX (by rw [hz, h1, decide_eq_false h2]; rfl)
            have h3 : ¬ xs.toNat = 0 := fun h => h2 (BitVec.eq_of_toNat_eq (by simp; omega))
            subst h1
            clear HN hz
            go_wp2
            refine Facts.wp_region_text (by kernel_rfl) (by kernel_rfl) ?_
            repeat
              apply Facts.Lex.exact [] _ (by kernel_rfl)
              · intro u W hC _
                have j0 := cellB hC b0
                have j1 := cellB hC b1
                unfold Facts.one
                go_simp
                all_goals first | exact ⟨Grew.refl _, rfl⟩ | rfl
              simp only [Act.put, List.setIfInBounds_toArray, List.set_cons_zero, List.set_cons_succ, Nat.zero_add, Nat.reduceAdd]
            refine Facts.Lex.done fun u W2 hC hL => ?_
            have G2 := Lib.hid ((HG.out.trans GA.out).trans hC)
            clear hC hL c0' c1' b0 b1
            go_wp2
            go_returns
            refine ⟨?_, G2.out⟩
            rw [HR.out]
            try rfl
        · have HR := HX (by rw [hz, decide_eq_false h1]; rfl)
          clear HN hz
          go_wp2
          refine Facts.wp_region_text (by kernel_rfl) (by kernel_rfl) ?_
          repeat
            apply Facts.Lex.exact [] _ (by kernel_rfl)
            · intro u W hC _
              have j0 := cellB hC b0
              have j1 := cellB hC b1
              unfold Facts.one
              go_simp
              all_goals first | exact ⟨Grew.refl _, rfl⟩ | rfl
            simp only [Act.put, List.setIfInBounds_toArray, List.set_cons_zero, List.set_cons_succ, Nat.zero_add, Nat.reduceAdd]
          refine Facts.Lex.done fun u W2 hC hL => ?_
          have G2 := Lib.hid ((HG.out.trans GA.out).trans hC)
          clear hC hL c0' c1' b0 b1
          go_wp2
          go_returns
          refine ⟨?_, G2.out⟩
          rw [HR.out]
          try rfl
      | succ k =>
        obtain ⟨ad2, c3, e, hc', p0, p1⟩ := Ls_at (HL.out.grew HG.out) (lat_get (i := k) (by omega))
        injection e with e1 _ e3
        injection e1 with e1
        subst e1 e3
        have hz := rok_succ l k
        have HCM := Lib.hid (fun W => cmp_any (lat l k).lev (lat l k).set (lat l (k + 1)).lev (lat l (k + 1)).set W)
        generalize (lat l k).lev = pl at *
        generalize (lat l k).set = ps at *
        generalize (lat l (k + 1)).lev = xl at *
        generalize (lat l (k + 1)).set = xs at *
        generalize order pl ps xl xs = o at *
        have hkw2 : IntKind.i64.wrap (k : Int) = (k : Int) := by
          have hc2 := HC2.out
          unfold maxLen at hc2
          rw [IntKind.wrap_i64]
          omega
        have hkl : (k : Int) < (l.length : Int) := by omega
        have hkw3 : wrap64 ((k : Int) + 1 + 1) = (k : Int) + 1 + 1 := by
          have hc2 := HC2.out
          unfold maxLen at hc2
          unfold wrap64
          omega
        have q0 := cellB GA.out p0
        have q1 := cellB GA.out p1
        by_cases ho : 0 ≤ o
        · have HR := HX (by rw [hz]; exact decide_eq_false (by omega))
          clear HN hz
          go_wp2
          refine Facts.wp_region_text (by kernel_rfl) (by kernel_rfl) ?_
          repeat
            apply Facts.Lex.exact [] _ (by kernel_rfl)
            · intro u W hC _
              have j0 := cellB hC b0
              have j1 := cellB hC b1
              have j2 := cellB hC q0
              have j3 := cellB hC q1
              unfold Facts.one
              go_simp
              all_goals first | exact ⟨Grew.refl _, rfl⟩ | rfl | (refine (HCM.out W).mono ?_; rintro e w' ⟨rfl, hg⟩; exact ⟨_, rfl, hg, rfl⟩)
            simp only [Act.put, List.setIfInBounds_toArray, List.set_cons_zero, List.set_cons_succ, Nat.zero_add, Nat.reduceAdd]
          refine Facts.Lex.done fun u W2 hC hL => ?_
          have G2 := Lib.hid ((HG.out.trans GA.out).trans hC)
          clear hC hL c0 c1 b0 b1 p0 p1 q0 q1
          go_wp2
          go_returns
          refine ⟨?_, G2.out⟩
          rw [HR.out]
          try rfl
        · have HN := HN (by rw [hz]; exact decide_eq_true (by omega))
          have hd : decide (0 ≤ o) = false := decide_eq_false ho
          clear HX hz ho
          go_wp2
          refine Facts.wp_region_text (by kernel_rfl) (by kernel_rfl) ?_
          repeat
            apply Facts.Lex.exact [] _ (by kernel_rfl)
            · intro u W hC _
              have j0 := cellB hC b0
              have j1 := cellB hC b1
              have j2 := cellB hC q0
              have j3 := cellB hC q1
              unfold Facts.one
              go_simp
              all_goals first | exact ⟨Grew.refl _, rfl⟩ | rfl | (refine (HCM.out W).mono ?_; rintro e w' ⟨rfl, hg⟩; exact ⟨_, rfl, hg, rfl⟩)
            simp only [Act.put, List.setIfInBounds_toArray, List.set_cons_zero, List.set_cons_succ, Nat.zero_add, Nat.reduceAdd]
          refine Facts.Lex.done fun u W2 hC hL => ?_
          have G2 := Lib.hid ((HG.out.trans GA.out).trans hC)
          clear hC hL c0 c1 b0 b1 p0 p1 q0 q1
          go_wp2
          go_roundg g
          case measure => omega
          case rel => exact ⟨(k + 1) + 1, by omega, by first | rfl | simp [hkw3] | simp, HN, G2⟩
end Go.Proofs.YtmegdgeiikhflaaGreat.RRule1
