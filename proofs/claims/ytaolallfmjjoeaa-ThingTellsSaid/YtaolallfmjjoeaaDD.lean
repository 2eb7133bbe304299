/-
  What is done with an item, as the document answers: laid in a room, and taken there.
  Conditions: those that each lemma names.
-/
import Derived.Test.YtaolallfmjjoeaaDC
namespace Go.Proofs.Ytaolallfmjjoeaa.DD
set_option maxRecDepth 100000
open Go Go.RowKit Go.Lib Go.Proofs.Ytaolallfmjjoeaa Go.Proofs.Ytaolallfmjjoeaa.Facts Go.Proofs.Ytaolallfmjjoeaa.Ints Go.Proofs.Ytaolallfmjjoeaa.TI Go.Proofs.Ytaolallfmjjoeaa.TP Go.Proofs.Ytaolallfmjjoeaa.TB Go.Proofs.Ytaolallfmjjoeaa.TC Go.Proofs.Ytaolallfmjjoeaa.TD Go.Proofs.Ytaolallfmjjoeaa.TE Go.Proofs.Ytaolallfmjjoeaa.TF Go.Proofs.Ytaolallfmjjoeaa.TG Go.Proofs.Ytaolallfmjjoeaa.TH Go.Proofs.Ytaolallfmjjoeaa.TJ Go.Proofs.Ytaolallfmjjoeaa.TK Go.Proofs.Ytaolallfmjjoeaa.TL Go.Proofs.Ytaolallfmjjoeaa.DA Go.Proofs.Ytaolallfmjjoeaa.DB Go.Proofs.Ytaolallfmjjoeaa.DC Go.Proofs.Ytaolallfmjjoeaa.Bytes


theorem ref2 {W : World} {B t : Nat} {a b : Value} (h : W.heap[B]? = some (.cells #[a, b] t (0, 0))) : W.cell? ⟨B, 0, none⟩ = some a ∧ W.cell? ⟨B, 1, none⟩ = some b := by
  refine ⟨?_, ?_⟩
  all_goals rw [cell_of_row _ _ _ _ _ _ h]; rfl
theorem inF_lt {l : List It} {i a b : Int} (h : inF l i a b = true) : ∃ k : Nat, i = k ∧ k < l.length ∧ (el l k).used = true ∧ (el l k).kind = 2 ∧ (el l k).lab = a ∧ (el l k).slot = b := by
  unfold inF at h
  simp only [Bool.and_eq_true, decide_eq_true_eq] at h
  obtain ⟨⟨⟨⟨h0, h1⟩, h2⟩, h3⟩, h4, h5⟩ := h
  obtain ⟨j, rfl⟩ := Int.eq_ofNat_of_zero_le h0
  rw [Int.toNat_natCast] at h2 h3 h4 h5
  exact ⟨j, rfl, by omega, h2, h3, h4, h5⟩

set_option maxHeartbeats 1000000 in
theorem rdrop_any (v : Value) (l : List It) (i n a b : Int) (w : World) (hl : Its w v l) (hz : Sz l) (hn : l.length ≤ 1000) : Calls Try.prog 27 #[v, .int .i64 i, .int .i64 n, .agg #[.int .i64 a, .int .i64 b]] w (Ans (moveP l i (hand n) (floor a b)) w) := by
  have g0 : Grew w (w.alloc (.cells #[.int .i64 a, .int .i64 b] 33)) := by unfold Grew; go_grown
  have G0 := Lib.hid g0
  have B0 : Hid ((w.alloc (.cells #[.int .i64 a, .int .i64 b] 33)).heap[w.heap.size]? = some (.cells #[.int .i64 a, .int .i64 b] 33 (0, 0))) := Lib.hid (heap_alloc_new w _)
  have HR := Lib.hid (fun W (hg : Grew w W) => rright_any v l W (hl.grew hg) hz hn)
  have HN := Lib.hid (fun W (_ : Grew w W) => rnum_any n W)
  have HF := Lib.hid (fun W (_ : Grew w W) => isref_any a b W)
  have HI := Lib.hid (fun W (hg : Grew w W) => in_any v l i n W (hl.grew hg))
  have HSET := Lib.hid (fun W (hg : Grew w W) k hk => set_any v l k (giv (floor a b) (el l k).name) W (hl.grew hg) hk hn)
  have hgv : ∀ s, iv6 (giv (floor a b) s) = .agg #[.bool true, .string s, .int .i64 2, .int .i64 0, .int .i64 a, .int .i64 b] := fun s => rfl
  simp only [hgv] at HSET
  have HIN := Lib.hid (fun h => @in_is l h i n)
  have HLT := Lib.hid (fun h => @inH_lt l i n h)
  have HX := Lib.hid hl
  unfold moveP
  rw [may2, okH_hand, okH_floor]
  generalize okL l = p at *
  generalize num n = q at *
  generalize (num a && num b) = r at *
  obtain ⟨A, c, rfl, _⟩ := hl.slice
  clear hl hz hn hgv g0
  cases p with
  | false =>
    simp only [Bool.false_and, if_true]
    go_enter Try.func27, Try.ntmps27
    go_wp2_with fail
    refine (HR.out _ G0.out).mono ?_
    rintro e w1 ⟨rfl, hg⟩
    have G1 := Lib.hid (G0.out.trans hg)
    have B1 := Lib.hid (keepB B0.out hg)
    clear hg
    go_wp2
    go_returns
    exact ⟨_, rfl, rw_none _, G1.out⟩
  | true =>
    cases q with
    | false =>
      simp only [Bool.false_and, Bool.and_false, if_true]
      go_enter Try.func27, Try.ntmps27
      go_wp2_with fail
      refine (HR.out _ G0.out).mono ?_
      rintro e w1 ⟨rfl, hg⟩
      have G1 := Lib.hid (G0.out.trans hg)
      have B1 := Lib.hid (keepB B0.out hg)
      clear hg
      go_wp2_with fail
      refine (HN.out _ G1.out).mono ?_
      rintro e w2 ⟨rfl, hg⟩
      have G2 := Lib.hid (G1.out.trans hg)
      have B2 := Lib.hid (keepB B1.out hg)
      clear hg
      go_wp2
      go_returns
      exact ⟨_, rfl, rw_none _, G2.out⟩
    | true =>
      cases r with
      | false =>
        simp only [Bool.true_and, Bool.and_false, if_true]
        go_enter Try.func27, Try.ntmps27
        go_wp2_with fail
        refine (HR.out _ G0.out).mono ?_
        rintro e w1 ⟨rfl, hg⟩
        have G1 := Lib.hid (G0.out.trans hg)
        have B1 := Lib.hid (keepB B0.out hg)
        clear hg
        go_wp2_with fail
        refine (HN.out _ G1.out).mono ?_
        rintro e w2 ⟨rfl, hg⟩
        have G2 := Lib.hid (G1.out.trans hg)
        have B2 := Lib.hid (keepB B1.out hg)
        clear hg
        obtain ⟨b0, b1⟩ := ref2 B2.out
        go_wp2_with fail
        refine (HF.out _ G2.out).mono ?_
        rintro e w3 ⟨rfl, hg⟩
        have G3 := Lib.hid (G2.out.trans hg)
        have B3 := Lib.hid (keepB B2.out hg)
        clear hg
        clear b0 b1
        go_wp2
        go_returns
        exact ⟨_, rfl, rw_none _, G3.out⟩
      | true =>
        simp only [Bool.and_true, Bool.true_eq_false, if_false]
        rw [HIN.out rfl]
        cases hin : inH l i n with
        | false =>
          rw [hin] at HI
          simp only [if_true]
          clear hin
          go_enter Try.func27, Try.ntmps27
          go_wp2_with fail
          refine (HR.out _ G0.out).mono ?_
          rintro e w1 ⟨rfl, hg⟩
          have G1 := Lib.hid (G0.out.trans hg)
          have B1 := Lib.hid (keepB B0.out hg)
          clear hg
          go_wp2_with fail
          refine (HN.out _ G1.out).mono ?_
          rintro e w2 ⟨rfl, hg⟩
          have G2 := Lib.hid (G1.out.trans hg)
          have B2 := Lib.hid (keepB B1.out hg)
          clear hg
          obtain ⟨b0, b1⟩ := ref2 B2.out
          go_wp2_with fail
          refine (HF.out _ G2.out).mono ?_
          rintro e w3 ⟨rfl, hg⟩
          have G3 := Lib.hid (G2.out.trans hg)
          have B3 := Lib.hid (keepB B2.out hg)
          clear hg
          clear b0 b1
          go_wp2_with fail
          refine (HI.out _ G3.out).mono ?_
          rintro e w4 ⟨rfl, hg⟩
          have G4 := Lib.hid (G3.out.trans hg)
          have B4 := Lib.hid (keepB B3.out hg)
          clear hg
          go_wp2
          go_returns
          exact ⟨_, rfl, rw_none _, G4.out⟩
        | true =>
          rw [hin] at HI
          obtain ⟨k, rfl, hk⟩ := HLT.out hin
          simp only [Bool.true_eq_false, if_false, Int.toNat_natCast]
          have HS2 := Lib.hid (fun W hg => HSET.out W hg k hk)
          have hx : l[k]? = some (el l k) := by unfold el; rw [List.getElem?_eq_getElem hk]; rfl
          obtain ⟨ad, c9, e9, _, _, d1, _⟩ := Its_at HX.out hx
          injection e9 with e1 _ e3
          subst e1 e3
          have hk0 : (k : Int) < (l.length : Int) := by omega
          generalize l.set k (giv (floor a b) (el l k).name) = R at *
          generalize (el l k).name = s at *
          clear hin hk HSET HLT HIN hx
          go_enter Try.func27, Try.ntmps27
          go_wp2_with fail
          refine (HR.out _ G0.out).mono ?_
          rintro e w1 ⟨rfl, hg⟩
          have G1 := Lib.hid (G0.out.trans hg)
          have B1 := Lib.hid (keepB B0.out hg)
          clear hg
          go_wp2_with fail
          refine (HN.out _ G1.out).mono ?_
          rintro e w2 ⟨rfl, hg⟩
          have G2 := Lib.hid (G1.out.trans hg)
          have B2 := Lib.hid (keepB B1.out hg)
          clear hg
          obtain ⟨b0, b1⟩ := ref2 B2.out
          go_wp2_with fail
          refine (HF.out _ G2.out).mono ?_
          rintro e w3 ⟨rfl, hg⟩
          have G3 := Lib.hid (G2.out.trans hg)
          have B3 := Lib.hid (keepB B2.out hg)
          clear hg
          clear b0 b1
          go_wp2_with fail
          refine (HI.out _ G3.out).mono ?_
          rintro e w4 ⟨rfl, hg⟩
          have G4 := Lib.hid (G3.out.trans hg)
          have B4 := Lib.hid (keepB B3.out hg)
          clear hg
          obtain ⟨b0, b1⟩ := ref2 B4.out
          have d1' := cellB G4.out d1
          go_wp2
          refine Facts.wp_region_text (by kernel_rfl) (by kernel_rfl) ?_
          iterate 9
            apply Facts.Lex.exact [] _ (by kernel_rfl)
            · intro u W hC _
              have j0 := cellB hC b0
              have j1 := cellB hC b1
              have j2 := cellB hC d1'
              unfold Facts.one
              go_simp
              first | exact ⟨Grew.refl _, rfl⟩ | rfl
            simp only [Act.put, List.setIfInBounds_toArray, List.set_cons_zero, List.set_cons_succ, Nat.zero_add, Nat.reduceAdd]
          refine Facts.Lex.know [] (fun v w => Its w v R) (by kernel_rfl) (fun _ _ _ h hg => h.grew hg) ?_ ?_
          · intro u W hC hK
            have HS3 := Lib.hid (HS2.out W (G4.out.trans hC))
            clear hK
            unfold Facts.one
            go_simp
            refine HS3.out.mono ?_
            rintro e w' ⟨v', rfl, hi, hg⟩
            exact ⟨_, rfl, hg, hi⟩
          simp only [Act.put, List.setIfInBounds_toArray, List.set_cons_zero, List.set_cons_succ, Nat.reduceAdd]
          refine Facts.Lex.know [9] (fun v w => Its w v R) (by kernel_rfl) (fun _ _ _ h hg => h.grew hg) ?_ ?_
          · intro u W hC hK
            have HY : Hid (Its W (u 9) R) := Lib.hid hK.1
            clear hK
            unfold Facts.one
            go_simp
            exact ⟨Grew.refl _, HY.out⟩
          simp only [Act.put, List.setIfInBounds_toArray, List.set_cons_zero, List.set_cons_succ, Nat.reduceAdd]
          apply Facts.Lex.exact [] _ (by kernel_rfl)
          · intro u W hC _
            unfold Facts.one
            go_simp
            first | exact ⟨Grew.refl _, rfl⟩ | rfl
          simp only [Act.put, List.setIfInBounds_toArray, List.set_cons_zero, List.set_cons_succ, Nat.reduceAdd]
          refine Facts.Lex.done fun u W2 hC hL => ?_
          have HY : Hid (Its W2 (u 10) R) := Lib.hid (hL _ (List.mem_cons_self ..))
          have G5 := Lib.hid (G4.out.trans hC)
          clear hC hL b0 b1 d1 d1'
          generalize u 10 = v10 at *
          go_wp2
          go_returns
          exact ⟨_, rfl, HY.out, G5.out⟩


set_option maxHeartbeats 2000000 in
theorem rtake_any (v : Value) (l : List It) (i n a b : Int) (w : World) (hl : Its w v l) (hz : Sz l) (hn : l.length ≤ 1000) : Calls Try.prog 29 #[v, .int .i64 i, .int .i64 n, .agg #[.int .i64 a, .int .i64 b]] w (Ans (moveP l i (floor a b) (hand n)) w) := by
  have g0 : Grew w (w.alloc (.cells #[.int .i64 a, .int .i64 b] 33)) := by unfold Grew; go_grown
  have G0 := Lib.hid g0
  have B0 : Hid ((w.alloc (.cells #[.int .i64 a, .int .i64 b] 33)).heap[w.heap.size]? = some (.cells #[.int .i64 a, .int .i64 b] 33 (0, 0))) := Lib.hid (heap_alloc_new w _)
  have HR := Lib.hid (fun W (hg : Grew w W) => rright_any v l W (hl.grew hg) hz hn)
  have HN := Lib.hid (fun W (_ : Grew w W) => rnum_any n W)
  have HF := Lib.hid (fun W (_ : Grew w W) => isref_any a b W)
  have HSET := Lib.hid (fun W (hg : Grew w W) k hk => set_any v l k (giv (hand n) (el l k).name) W (hl.grew hg) hk hn)
  have hgv : ∀ s, iv6 (giv (hand n) s) = .agg #[.bool true, .string s, .int .i64 1, .int .i64 n, .int .i64 0, .int .i64 0] := fun s => rfl
  simp only [hgv] at HSET
  have HIN := Lib.hid (fun h => @in_floor l h i a b)
  have HX := Lib.hid hl
  unfold moveP
  rw [may2, okH_hand, okH_floor, Bool.and_assoc, Bool.and_comm (num a && num b), ← Bool.and_assoc]
  generalize okL l = p at *
  generalize num n = q at *
  generalize (num a && num b) = r at *
  obtain ⟨A, c, rfl, _⟩ := hl.slice
  clear hl hz hn hgv g0
  cases p with
  | false =>
    simp only [Bool.false_and, if_true]
    go_enter Try.func29, Try.ntmps29
    go_wp2_with fail
    refine (HR.out _ G0.out).mono ?_
    rintro e w1 ⟨rfl, hg⟩
    have G1 := Lib.hid (G0.out.trans hg)
    have B1 := Lib.hid (keepB B0.out hg)
    clear hg
    go_wp2
    go_returns
    exact ⟨_, rfl, rw_none _, G1.out⟩
  | true =>
    cases q with
    | false =>
      simp only [Bool.false_and, Bool.and_false, if_true]
      go_enter Try.func29, Try.ntmps29
      go_wp2_with fail
      refine (HR.out _ G0.out).mono ?_
      rintro e w1 ⟨rfl, hg⟩
      have G1 := Lib.hid (G0.out.trans hg)
      have B1 := Lib.hid (keepB B0.out hg)
      clear hg
      go_wp2_with fail
      refine (HN.out _ G1.out).mono ?_
      rintro e w2 ⟨rfl, hg⟩
      have G2 := Lib.hid (G1.out.trans hg)
      have B2 := Lib.hid (keepB B1.out hg)
      clear hg
      go_wp2
      go_returns
      exact ⟨_, rfl, rw_none _, G2.out⟩
    | true =>
      cases r with
      | false =>
        simp only [Bool.true_and, Bool.and_false, if_true]
        go_enter Try.func29, Try.ntmps29
        go_wp2_with fail
        refine (HR.out _ G0.out).mono ?_
        rintro e w1 ⟨rfl, hg⟩
        have G1 := Lib.hid (G0.out.trans hg)
        have B1 := Lib.hid (keepB B0.out hg)
        clear hg
        go_wp2_with fail
        refine (HN.out _ G1.out).mono ?_
        rintro e w2 ⟨rfl, hg⟩
        have G2 := Lib.hid (G1.out.trans hg)
        have B2 := Lib.hid (keepB B1.out hg)
        clear hg
        obtain ⟨b0, b1⟩ := ref2 B2.out
        go_wp2_with fail
        refine (HF.out _ G2.out).mono ?_
        rintro e w3 ⟨rfl, hg⟩
        have G3 := Lib.hid (G2.out.trans hg)
        have B3 := Lib.hid (keepB B2.out hg)
        clear hg
        clear b0 b1
        go_wp2
        go_returns
        exact ⟨_, rfl, rw_none _, G3.out⟩
      | true =>
        simp only [Bool.and_true, Bool.true_eq_false, if_false]
        rw [HIN.out rfl]
        clear HIN
        by_cases h0 : 0 ≤ i
        · by_cases h1 : i < l.length
          · obtain ⟨k, rfl⟩ := Int.eq_ofNat_of_zero_le h0
            have hk : k < l.length := by omega
            have HS2 := Lib.hid (fun W hg => HSET.out W hg k hk)
            have hx : l[k]? = some (el l k) := by unfold el; rw [List.getElem?_eq_getElem hk]; rfl
            obtain ⟨ad, c9, e9, _, d0, d1, d2, _, d4, d5⟩ := Its_at HX.out hx
            injection e9 with e1 _ e3
            subst e1 e3
            have hk0 : (k : Int) < (l.length : Int) := by omega
            have hk1 : decide ((k : Int) < 0) = false := decide_eq_false (by omega)
            have hk2 : decide (l.length ≤ k) = false := decide_eq_false (by omega)
            have hin : inF l k a b = ((el l k).used && decide ((el l k).kind = 2) && (decide ((el l k).lab = a) && decide ((el l k).slot = b))) := by
              unfold inF
              rw [decide_eq_true h0, decide_eq_true h1, Int.toNat_natCast]
              simp
            rw [hin, Int.toNat_natCast]
            generalize l.set k (giv (hand n) (el l k).name) = R at *
            generalize (el l k).used = us at *
            generalize (el l k).kind = kd at *
            generalize (el l k).name = s at *
            generalize (el l k).lab = lb at *
            generalize (el l k).slot = sb at *
            clear hin hk HSET hx h0 h1
            cases us with
            | false =>
              simp only [Bool.false_and, if_true]
              go_enter Try.func29, Try.ntmps29
              go_wp2_with fail
              refine (HR.out _ G0.out).mono ?_
              rintro e w1 ⟨rfl, hg⟩
              have G1 := Lib.hid (G0.out.trans hg)
              have B1 := Lib.hid (keepB B0.out hg)
              clear hg
              go_wp2_with fail
              refine (HN.out _ G1.out).mono ?_
              rintro e w2 ⟨rfl, hg⟩
              have G2 := Lib.hid (G1.out.trans hg)
              have B2 := Lib.hid (keepB B1.out hg)
              clear hg
              obtain ⟨b0, b1⟩ := ref2 B2.out
              go_wp2_with fail
              refine (HF.out _ G2.out).mono ?_
              rintro e w3 ⟨rfl, hg⟩
              have G3 := Lib.hid (G2.out.trans hg)
              have B3 := Lib.hid (keepB B2.out hg)
              clear hg
              clear b0 b1
              obtain ⟨b0, b1⟩ := ref2 B3.out
              have d0' := cellB G3.out d0
              have d2' := cellB G3.out d2
              have d4' := cellB G3.out d4
              have d5' := cellB G3.out d5
              go_wp2
              refine Facts.wp_region_text (by kernel_rfl) (by kernel_rfl) ?_
              repeat
                apply Facts.Lex.exact [] _ (by kernel_rfl)
                · intro u W hC _
                  have j0 := cellB hC b0
                  have j1 := cellB hC b1
                  have i0 := cellB hC d0'
                  have i2 := cellB hC d2'
                  have i4 := cellB hC d4'
                  have i5 := cellB hC d5'
                  unfold Facts.one
                  go_simp
                  first | exact ⟨Grew.refl _, rfl⟩ | rfl
                simp only [Act.put, List.setIfInBounds_toArray, List.set_cons_zero, List.set_cons_succ, Nat.zero_add, Nat.reduceAdd]
              refine Facts.Lex.done fun u W2 hC hL => ?_
              have G5 := Lib.hid (G3.out.trans hC)
              clear hC hL b0 b1
              go_wp2
              go_returns
              exact ⟨_, rfl, rw_none _, G5.out⟩
            | true =>
              by_cases hkd : kd = 2
              · subst hkd
                by_cases hla : lb = a
                · by_cases hsb : sb = b
                  · subst hla hsb
                    simp only [decide_true, Bool.and_true, Bool.true_eq_false, if_false]
                    go_enter Try.func29, Try.ntmps29
                    go_wp2_with fail
                    refine (HR.out _ G0.out).mono ?_
                    rintro e w1 ⟨rfl, hg⟩
                    have G1 := Lib.hid (G0.out.trans hg)
                    have B1 := Lib.hid (keepB B0.out hg)
                    clear hg
                    go_wp2_with fail
                    refine (HN.out _ G1.out).mono ?_
                    rintro e w2 ⟨rfl, hg⟩
                    have G2 := Lib.hid (G1.out.trans hg)
                    have B2 := Lib.hid (keepB B1.out hg)
                    clear hg
                    obtain ⟨b0, b1⟩ := ref2 B2.out
                    go_wp2_with fail
                    refine (HF.out _ G2.out).mono ?_
                    rintro e w3 ⟨rfl, hg⟩
                    have G3 := Lib.hid (G2.out.trans hg)
                    have B3 := Lib.hid (keepB B2.out hg)
                    clear hg
                    clear b0 b1
                    obtain ⟨b0, b1⟩ := ref2 B3.out
                    have d0' := cellB G3.out d0
                    have d2' := cellB G3.out d2
                    have d4' := cellB G3.out d4
                    have d5' := cellB G3.out d5
                    go_wp2
                    refine Facts.wp_region_text (by kernel_rfl) (by kernel_rfl) ?_
                    repeat
                      apply Facts.Lex.exact [] _ (by kernel_rfl)
                      · intro u W hC _
                        have j0 := cellB hC b0
                        have j1 := cellB hC b1
                        have i0 := cellB hC d0'
                        have i2 := cellB hC d2'
                        have i4 := cellB hC d4'
                        have i5 := cellB hC d5'
                        unfold Facts.one
                        go_simp
                        first | exact ⟨Grew.refl _, rfl⟩ | rfl
                      simp only [Act.put, List.setIfInBounds_toArray, List.set_cons_zero, List.set_cons_succ, Nat.zero_add, Nat.reduceAdd]
                    refine Facts.Lex.done fun u W2 hC hL => ?_
                    have G5 := Lib.hid (G3.out.trans hC)
                    clear hC hL b0 b1
                    have d1' := cellB G5.out d1
                    go_wp2_with fail
                    refine (HS2.out _ G5.out).mono ?_
                    rintro e w6 ⟨v', rfl, hi, hg⟩
                    have G6 := Lib.hid (G5.out.trans hg)
                    have HY := Lib.hid hi
                    obtain ⟨A2, c2, rfl, _⟩ := hi.slice
                    clear hi hg d1 d1'
                    go_wp2
                    go_returns
                    exact ⟨_, rfl, HY.out, G6.out⟩
                  · subst hla
                    rw [decide_eq_false hsb]
                    simp only [Bool.and_false, if_true]
                    have hsb' : (sb == b) = false := by simpa using hsb
                    go_enter Try.func29, Try.ntmps29
                    go_wp2_with fail
                    refine (HR.out _ G0.out).mono ?_
                    rintro e w1 ⟨rfl, hg⟩
                    have G1 := Lib.hid (G0.out.trans hg)
                    have B1 := Lib.hid (keepB B0.out hg)
                    clear hg
                    go_wp2_with fail
                    refine (HN.out _ G1.out).mono ?_
                    rintro e w2 ⟨rfl, hg⟩
                    have G2 := Lib.hid (G1.out.trans hg)
                    have B2 := Lib.hid (keepB B1.out hg)
                    clear hg
                    obtain ⟨b0, b1⟩ := ref2 B2.out
                    go_wp2_with fail
                    refine (HF.out _ G2.out).mono ?_
                    rintro e w3 ⟨rfl, hg⟩
                    have G3 := Lib.hid (G2.out.trans hg)
                    have B3 := Lib.hid (keepB B2.out hg)
                    clear hg
                    clear b0 b1
                    obtain ⟨b0, b1⟩ := ref2 B3.out
                    have d0' := cellB G3.out d0
                    have d2' := cellB G3.out d2
                    have d4' := cellB G3.out d4
                    have d5' := cellB G3.out d5
                    go_wp2
                    refine Facts.wp_region_text (by kernel_rfl) (by kernel_rfl) ?_
                    repeat
                      apply Facts.Lex.exact [] _ (by kernel_rfl)
                      · intro u W hC _
                        have j0 := cellB hC b0
                        have j1 := cellB hC b1
                        have i0 := cellB hC d0'
                        have i2 := cellB hC d2'
                        have i4 := cellB hC d4'
                        have i5 := cellB hC d5'
                        unfold Facts.one
                        go_simp
                        first | exact ⟨Grew.refl _, rfl⟩ | rfl
                      simp only [Act.put, List.setIfInBounds_toArray, List.set_cons_zero, List.set_cons_succ, Nat.zero_add, Nat.reduceAdd]
                    refine Facts.Lex.done fun u W2 hC hL => ?_
                    have G5 := Lib.hid (G3.out.trans hC)
                    clear hC hL b0 b1
                    go_wp2
                    go_returns
                    exact ⟨_, rfl, rw_none _, G5.out⟩
                · rw [decide_eq_false hla]
                  simp only [Bool.false_and, Bool.and_false, if_true]
                  have hla' : (lb == a) = false := by simpa using hla
                  go_enter Try.func29, Try.ntmps29
                  go_wp2_with fail
                  refine (HR.out _ G0.out).mono ?_
                  rintro e w1 ⟨rfl, hg⟩
                  have G1 := Lib.hid (G0.out.trans hg)
                  have B1 := Lib.hid (keepB B0.out hg)
                  clear hg
                  go_wp2_with fail
                  refine (HN.out _ G1.out).mono ?_
                  rintro e w2 ⟨rfl, hg⟩
                  have G2 := Lib.hid (G1.out.trans hg)
                  have B2 := Lib.hid (keepB B1.out hg)
                  clear hg
                  obtain ⟨b0, b1⟩ := ref2 B2.out
                  go_wp2_with fail
                  refine (HF.out _ G2.out).mono ?_
                  rintro e w3 ⟨rfl, hg⟩
                  have G3 := Lib.hid (G2.out.trans hg)
                  have B3 := Lib.hid (keepB B2.out hg)
                  clear hg
                  clear b0 b1
                  obtain ⟨b0, b1⟩ := ref2 B3.out
                  have d0' := cellB G3.out d0
                  have d2' := cellB G3.out d2
                  have d4' := cellB G3.out d4
                  have d5' := cellB G3.out d5
                  go_wp2
                  refine Facts.wp_region_text (by kernel_rfl) (by kernel_rfl) ?_
                  repeat
                    apply Facts.Lex.exact [] _ (by kernel_rfl)
                    · intro u W hC _
                      have j0 := cellB hC b0
                      have j1 := cellB hC b1
                      have i0 := cellB hC d0'
                      have i2 := cellB hC d2'
                      have i4 := cellB hC d4'
                      have i5 := cellB hC d5'
                      unfold Facts.one
                      go_simp
                      first | exact ⟨Grew.refl _, rfl⟩ | rfl
                    simp only [Act.put, List.setIfInBounds_toArray, List.set_cons_zero, List.set_cons_succ, Nat.zero_add, Nat.reduceAdd]
                  refine Facts.Lex.done fun u W2 hC hL => ?_
                  have G5 := Lib.hid (G3.out.trans hC)
                  clear hC hL b0 b1
                  go_wp2
                  go_returns
                  exact ⟨_, rfl, rw_none _, G5.out⟩
              · rw [decide_eq_false hkd]
                simp only [Bool.false_and, Bool.and_false, if_true]
                have hkd' : (kd == 2) = false := by simpa using hkd
                go_enter Try.func29, Try.ntmps29
                go_wp2_with fail
                refine (HR.out _ G0.out).mono ?_
                rintro e w1 ⟨rfl, hg⟩
                have G1 := Lib.hid (G0.out.trans hg)
                have B1 := Lib.hid (keepB B0.out hg)
                clear hg
                go_wp2_with fail
                refine (HN.out _ G1.out).mono ?_
                rintro e w2 ⟨rfl, hg⟩
                have G2 := Lib.hid (G1.out.trans hg)
                have B2 := Lib.hid (keepB B1.out hg)
                clear hg
                obtain ⟨b0, b1⟩ := ref2 B2.out
                go_wp2_with fail
                refine (HF.out _ G2.out).mono ?_
                rintro e w3 ⟨rfl, hg⟩
                have G3 := Lib.hid (G2.out.trans hg)
                have B3 := Lib.hid (keepB B2.out hg)
                clear hg
                clear b0 b1
                obtain ⟨b0, b1⟩ := ref2 B3.out
                have d0' := cellB G3.out d0
                have d2' := cellB G3.out d2
                have d4' := cellB G3.out d4
                have d5' := cellB G3.out d5
                go_wp2
                refine Facts.wp_region_text (by kernel_rfl) (by kernel_rfl) ?_
                repeat
                  apply Facts.Lex.exact [] _ (by kernel_rfl)
                  · intro u W hC _
                    have j0 := cellB hC b0
                    have j1 := cellB hC b1
                    have i0 := cellB hC d0'
                    have i2 := cellB hC d2'
                    have i4 := cellB hC d4'
                    have i5 := cellB hC d5'
                    unfold Facts.one
                    go_simp
                    first | exact ⟨Grew.refl _, rfl⟩ | rfl
                  simp only [Act.put, List.setIfInBounds_toArray, List.set_cons_zero, List.set_cons_succ, Nat.zero_add, Nat.reduceAdd]
                refine Facts.Lex.done fun u W2 hC hL => ?_
                have G5 := Lib.hid (G3.out.trans hC)
                clear hC hL b0 b1
                go_wp2
                go_returns
                exact ⟨_, rfl, rw_none _, G5.out⟩
          · have hin : inF l i a b = false := by unfold inF; rw [decide_eq_false h1]; simp
            have hi1 : decide ((l.length : Int) ≤ i) = true := decide_eq_true (by omega)
            have hi0 : decide (i < 0) = false := decide_eq_false (by omega)
            rw [hin]
            simp only [if_true]
            clear hin h0 h1
            go_enter Try.func29, Try.ntmps29
            go_wp2_with fail
            refine (HR.out _ G0.out).mono ?_
            rintro e w1 ⟨rfl, hg⟩
            have G1 := Lib.hid (G0.out.trans hg)
            have B1 := Lib.hid (keepB B0.out hg)
            clear hg
            go_wp2_with fail
            refine (HN.out _ G1.out).mono ?_
            rintro e w2 ⟨rfl, hg⟩
            have G2 := Lib.hid (G1.out.trans hg)
            have B2 := Lib.hid (keepB B1.out hg)
            clear hg
            obtain ⟨b0, b1⟩ := ref2 B2.out
            go_wp2_with fail
            refine (HF.out _ G2.out).mono ?_
            rintro e w3 ⟨rfl, hg⟩
            have G3 := Lib.hid (G2.out.trans hg)
            have B3 := Lib.hid (keepB B2.out hg)
            clear hg
            clear b0 b1
            obtain ⟨b0, b1⟩ := ref2 B3.out
            go_wp2
            refine Facts.wp_region_text (by kernel_rfl) (by kernel_rfl) ?_
            repeat
              apply Facts.Lex.exact [] _ (by kernel_rfl)
              · intro u W hC _
                have j0 := cellB hC b0
                have j1 := cellB hC b1
                unfold Facts.one
                go_simp
                first | exact ⟨Grew.refl _, rfl⟩ | rfl
              simp only [Act.put, List.setIfInBounds_toArray, List.set_cons_zero, List.set_cons_succ, Nat.zero_add, Nat.reduceAdd]
            refine Facts.Lex.done fun u W2 hC hL => ?_
            have G5 := Lib.hid (G3.out.trans hC)
            clear hC hL b0 b1
            go_wp2
            go_returns
            exact ⟨_, rfl, rw_none _, G5.out⟩
        · have hin : inF l i a b = false := by unfold inF; rw [decide_eq_false h0]; simp
          have hi0 : decide (i < 0) = true := decide_eq_true (by omega)
          rw [hin]
          simp only [if_true]
          clear hin h0
          go_enter Try.func29, Try.ntmps29
          go_wp2_with fail
          refine (HR.out _ G0.out).mono ?_
          rintro e w1 ⟨rfl, hg⟩
          have G1 := Lib.hid (G0.out.trans hg)
          have B1 := Lib.hid (keepB B0.out hg)
          clear hg
          go_wp2_with fail
          refine (HN.out _ G1.out).mono ?_
          rintro e w2 ⟨rfl, hg⟩
          have G2 := Lib.hid (G1.out.trans hg)
          have B2 := Lib.hid (keepB B1.out hg)
          clear hg
          obtain ⟨b0, b1⟩ := ref2 B2.out
          go_wp2_with fail
          refine (HF.out _ G2.out).mono ?_
          rintro e w3 ⟨rfl, hg⟩
          have G3 := Lib.hid (G2.out.trans hg)
          have B3 := Lib.hid (keepB B2.out hg)
          clear hg
          clear b0 b1
          obtain ⟨b0, b1⟩ := ref2 B3.out
          go_wp2
          refine Facts.wp_region_text (by kernel_rfl) (by kernel_rfl) ?_
          repeat
            apply Facts.Lex.exact [] _ (by kernel_rfl)
            · intro u W hC _
              have j0 := cellB hC b0
              have j1 := cellB hC b1
              unfold Facts.one
              go_simp
              first | exact ⟨Grew.refl _, rfl⟩ | rfl
            simp only [Act.put, List.setIfInBounds_toArray, List.set_cons_zero, List.set_cons_succ, Nat.zero_add, Nat.reduceAdd]
          refine Facts.Lex.done fun u W2 hC hL => ?_
          have G5 := Lib.hid (G3.out.trans hC)
          clear hC hL b0 b1
          go_wp2
          go_returns
          exact ⟨_, rfl, rw_none _, G5.out⟩

end Go.Proofs.Ytaolallfmjjoeaa.DD
