/-
  For any stamp, any load and whatever is turned: SectorBack answers true.
  Conditions: none beyond those that each lemma names.
-/
import Derived.Test.YtiajjkjdmcoodabSBits
namespace Go.Proofs.Ytiajjkjdmcoodab.SBack
set_option maxRecDepth 100000
open Go Go.RowKit Go.Proofs.Ytiajjkjdmcoodab Go.Proofs.Ytiajjkjdmcoodab.Facts Go.Proofs.Ytiajjkjdmcoodab.Bytes Go.Proofs.Ytiajjkjdmcoodab.Nums Go.Proofs.Ytiajjkjdmcoodab.SumPure Go.Proofs.Ytiajjkjdmcoodab.Sum Go.Proofs.Ytiajjkjdmcoodab.SPure Go.Proofs.Ytiajjkjdmcoodab.SSeal Go.Proofs.Ytiajjkjdmcoodab.SOpen Go.Proofs.Ytiajjkjdmcoodab.SAlive Go.Proofs.Ytiajjkjdmcoodab.SBits

theorem pre_rd {S : Nat → Prop} {w : World} {A : Option Addr} {c n : Nat} {l : List UInt8} (h : Rd S w (.slice A l.length c) l) (hn : n ≤ l.length) : Rd S w (.slice A n c) (l.take n) := by
  obtain ⟨A', c', e, h1, h2, h3, h4⟩ := h
  injection e with e1 _ e3
  subst e1 e3
  have hlen : (l.take n).length = n := by rw [List.length_take]; omega
  refine ⟨A, c, by rw [hlen], by omega, h2, h3, fun ad hA => ⟨fun hl => (h4 ad hA).1 (fun e => hl (by rw [e, List.take_nil])), fun j u hu => (h4 ad hA).2 j u ?_⟩⟩
  have hb : bv (l.take n) = (bv l).take n := by simp [bv, List.map_take]
  rw [hb, List.getElem?_take] at hu
  split at hu
  · exact hu
  · cases hu

theorem run_app0 (W : World) (A : Option Addr) (c : Nat) (l : List UInt8) (S : Nat → Prop) (hr : Rd S W (.slice A l.length c) l) (hl : l.length ≤ 140737488355328) :
    ∃ v' w', (Builtin.append_ #[23, 23] 23 #[.slice (some ⟨W.heap.size, 0, none⟩) 0 0, .slice A l.length c]).run Try.prog (W.alloc (.cells #[] 5)) = .ok v' w' ∧ w'.ownsRow W.heap.size 5 1 v' l.length (bv l) ∧ Grew W w' := by
  have hown : (W.alloc (.cells #[] 5)).ownsRow W.heap.size 5 1 (.slice (some ⟨W.heap.size, 0, none⟩) 0 0) ([] : List UInt8).length (bv []) :=
    ⟨rfl, .inr ⟨W.heap.size, 0, #[], rfl, Nat.le_refl _, heap_alloc_new W _, Nat.le_refl _, Nat.zero_le _, rfl, rfl⟩⟩
  obtain ⟨v', w', h1, h2, h3⟩ := run_app2 _ W.heap.size _ A c [] l S hown (hr.grew (show Grew W (W.alloc (.cells #[] 5)) by unfold Grew; go_grown)) (by simpa using hl) (by simp)
  rw [List.nil_append] at h2
  exact ⟨v', w', h1, h2, (show Below W.heap.size W (W.alloc (.cells #[] 5)) by go_grown).trans h3⟩

set_option maxHeartbeats 8000000 in
theorem law_ok (S : Nat → Prop) (A : Option Addr) (cA : Nat) (load : List UInt8) (s : Nat) (a : Int) (t : BitVec 32) (w : World) (ha : Rd S w (.slice A load.length cA) load) (hac : load.length ≤ cA) (hcm : cA ≤ 9223372036854775807) (hs : may s = true) (hl : load.length ≤ 108) (hal : -9223372036854775808 ≤ a) (hau : a ≤ 9223372036854775807) :
    Calls Try.prog 4 #[.int .u64 s, .slice A load.length cA, .int .i64 a, .int .u32 (t.toNat : Int)] w fun e w' => e = .returned (.bool true) ∧ Grew w w' := by
  have HA := Lib.hid ha
  have HQ : Hid (sealing s load = (sealed s load, 0)) := Lib.hid (by unfold sealing; rw [if_neg (by simp [hs]), if_neg (by omega)])
  have HO : Hid (opened (sealed s load) = (s, load ++ zeros (108 - load.length), 0)) := Lib.hid (opened_sealed s load hl hs)
  have HPURE : Hid (a ≤ 896 ∨ 928 ≤ a → (((opened (turns (sealed s load) a t 32)).2.2 = 0) ↔ turns (sealed s load) a t 32 = sealed s load)) := Lib.hid (back_pure s load a t hl hs)
  have HBL := Lib.hid (sealed_length s load hl)
  generalize sealed s load = B at *
  have HLL : Hid ((load ++ zeros (108 - load.length)).length = 108) := Lib.hid (by simp [zeros_length]; omega)
  have HTK : Hid ((load ++ zeros (108 - load.length)).take load.length = load) := Lib.hid (List.take_left)
  have HZ : Hid (∀ k, load.length ≤ k → k < 108 → (load ++ zeros (108 - load.length))[k]?.getD 0 = 0) := Lib.hid fun k h1 h2 => by
    rw [List.getElem?_append_right h1]
    simp only [zeros, List.getElem?_replicate]
    split <;> rfl
  generalize load ++ zeros (108 - load.length) = L at *
  clear hs ha
  go_enter Try.func4, Try.ntmps4
  go_wp2_with fail
  refine (seal_eq _ _ load s _ _ w HA.out HQ.out).mono ?_
  rintro e w1 ⟨v1, rfl, d1, g1⟩
  obtain ⟨adB, cB, rfl, hB1, hB2, _⟩ := SAlive.shape d1 128 HBL.out (by decide)
  have D1 := Lib.hid d1.lt
  have HG1 := Lib.hid g1
  clear d1 g1
  go_wp2_with fail
  refine (open_eq _ _ B _ _ _ w1 D1.out HO.out).mono ?_
  rintro e w2 ⟨v2, rfl, d2, g2⟩
  obtain ⟨adL, cL, rfl, hL1, hL2, hL3⟩ := SAlive.shape d2 108 HLL.out (by decide)
  have D1' := Lib.hid (D1.out.grew g2)
  have HPRE : Hid (Rd (fun b => w1.heap.size ≤ b) w2 (.slice (some adL) load.length cL) load) := Lib.hid (by
    have h := pre_rd (n := load.length) (by rw [HLL.out]; exact d2) (by rw [HLL.out]; omega)
    rw [HTK.out] at h
    exact h)
  have HG2 := Lib.hid (HG1.out.trans g2)
  have HCELL : Hid (∀ k, load.length ≤ k → k < 108 → w2.cell? (adL.add k) = some (.int .u8 0)) := Lib.hid fun k h1 h2 => hL3 k h2 0 (HZ.out k h1 h2)
  have hLc : load.length ≤ cL := by omega
  clear d2 g2 D1 HG1 hL3
  go_wp2
  refine Facts.wp_region_text (by kernel_rfl) (by kernel_rfl) ?_
  apply Facts.Lex.exact [] _ (by kernel_rfl)
  · intro u W hC _
    unfold Facts.one
    go_simp
    first | exact ⟨Grew.refl _, rfl⟩ | rfl
  simp only [Act.put, List.setIfInBounds_toArray, List.set_cons_zero, List.set_cons_succ, Nat.zero_add, Nat.reduceAdd]
  apply Facts.Lex.exact [] _ (by kernel_rfl)
  · intro u W hC _
    unfold Facts.one
    go_simp
    first | exact ⟨Grew.refl _, rfl⟩ | rfl
  simp only [Act.put, List.setIfInBounds_toArray, List.set_cons_zero, List.set_cons_succ, Nat.zero_add, Nat.reduceAdd]
  apply Facts.Lex.exact [] _ (by kernel_rfl)
  · intro u W hC _
    unfold Facts.one
    go_simp
    first | exact ⟨Grew.refl _, rfl⟩ | rfl
  simp only [Act.put, List.setIfInBounds_toArray, List.set_cons_zero, List.set_cons_succ, Nat.zero_add, Nat.reduceAdd]
  apply Facts.Lex.exact [] _ (by kernel_rfl)
  · intro u W hC _
    unfold Facts.one
    go_simp
    first | exact ⟨Grew.refl _, rfl⟩ | rfl
  simp only [Act.put, List.setIfInBounds_toArray, List.set_cons_zero, List.set_cons_succ, Nat.zero_add, Nat.reduceAdd]
  apply Facts.Lex.exact [] _ (by kernel_rfl)
  · intro u W hC _
    unfold Facts.one
    go_simp
    first | exact ⟨Grew.refl _, rfl⟩ | rfl
  simp only [Act.put, List.setIfInBounds_toArray, List.set_cons_zero, List.set_cons_succ, Nat.zero_add, Nat.reduceAdd]
  apply Facts.Lex.exact [] _ (by kernel_rfl)
  · intro u W hC _
    unfold Facts.one
    go_simp
    first | exact ⟨Grew.refl _, rfl⟩ | rfl
  simp only [Act.put, List.setIfInBounds_toArray, List.set_cons_zero, List.set_cons_succ, Nat.zero_add, Nat.reduceAdd]
  apply Facts.Lex.exact [] _ (by kernel_rfl)
  · intro u W hC _
    unfold Facts.one
    go_simp
    first | exact ⟨Grew.refl _, rfl⟩ | rfl
  simp only [Act.put, List.setIfInBounds_toArray, List.set_cons_zero, List.set_cons_succ, Nat.zero_add, Nat.reduceAdd]
  apply Facts.Lex.exact [] _ (by kernel_rfl)
  · intro u W hC _
    unfold Facts.one
    go_simp
    first | exact ⟨Grew.refl _, rfl⟩ | rfl
  simp only [Act.put, List.setIfInBounds_toArray, List.set_cons_zero, List.set_cons_succ, Nat.zero_add, Nat.reduceAdd]
  apply Facts.Lex.exact [] _ (by kernel_rfl)
  · intro u W hC _
    unfold Facts.one
    go_simp
    first | exact ⟨Grew.refl _, rfl⟩ | rfl
  simp only [Act.put, List.setIfInBounds_toArray, List.set_cons_zero, List.set_cons_succ, Nat.zero_add, Nat.reduceAdd]
  apply Facts.Lex.exact [] _ (by kernel_rfl)
  · intro u W hC _
    unfold Facts.one
    go_simp
    first | exact ⟨Grew.refl _, rfl⟩ | rfl
  simp only [Act.put, List.setIfInBounds_toArray, List.set_cons_zero, List.set_cons_succ, Nat.zero_add, Nat.reduceAdd]
  apply Facts.Lex.exact [] _ (by kernel_rfl)
  · intro u W hC _
    unfold Facts.one
    go_simp
    first | exact ⟨Grew.refl _, rfl⟩ | rfl
  simp only [Act.put, List.setIfInBounds_toArray, List.set_cons_zero, List.set_cons_succ, Nat.zero_add, Nat.reduceAdd]
  apply Facts.Lex.exact [] _ (by kernel_rfl)
  · intro u W hC _
    unfold Facts.one
    go_simp
    first | exact ⟨Grew.refl _, rfl⟩ | rfl
  simp only [Act.put, List.setIfInBounds_toArray, List.set_cons_zero, List.set_cons_succ, Nat.zero_add, Nat.reduceAdd]
  apply Facts.Lex.exact [] _ (by kernel_rfl)
  · intro u W hC _
    unfold Facts.one
    go_simp
    first | exact ⟨Grew.refl _, rfl⟩ | rfl
  simp only [Act.put, List.setIfInBounds_toArray, List.set_cons_zero, List.set_cons_succ, Nat.zero_add, Nat.reduceAdd]
  apply Facts.Lex.exact [] _ (by kernel_rfl)
  · intro u W hC _
    unfold Facts.one
    go_simp
    first | exact ⟨Grew.refl _, rfl⟩ | rfl
  simp only [Act.put, List.setIfInBounds_toArray, List.set_cons_zero, List.set_cons_succ, Nat.zero_add, Nat.reduceAdd]
  apply Facts.Lex.exact [] _ (by kernel_rfl)
  · intro u W hC _
    unfold Facts.one
    go_simp
    first | exact ⟨Grew.refl _, rfl⟩ | rfl
  simp only [Act.put, List.setIfInBounds_toArray, List.set_cons_zero, List.set_cons_succ, Nat.zero_add, Nat.reduceAdd]
  apply Facts.Lex.exact [] _ (by kernel_rfl)
  · intro u W hC _
    unfold Facts.one
    go_simp
    first | exact ⟨Grew.refl _, rfl⟩ | rfl
  simp only [Act.put, List.setIfInBounds_toArray, List.set_cons_zero, List.set_cons_succ, Nat.zero_add, Nat.reduceAdd]
  apply Facts.Lex.exact [] _ (by kernel_rfl)
  · intro u W hC _
    unfold Facts.one
    go_simp
    first | exact ⟨Grew.refl _, rfl⟩ | rfl
  simp only [Act.put, List.setIfInBounds_toArray, List.set_cons_zero, List.set_cons_succ, Nat.zero_add, Nat.reduceAdd]
  apply Facts.Lex.exact [] (.string ⟨load.toArray⟩) (by kernel_rfl)
  · intro u W hC _
    have hcv := conv22 (HPRE.out.grew hC)
    unfold Facts.one
    go_simp
    first | exact ⟨Grew.refl _, rfl⟩ | rfl
  simp only [Act.put, List.setIfInBounds_toArray, List.set_cons_zero, List.set_cons_succ, Nat.zero_add, Nat.reduceAdd]
  apply Facts.Lex.exact [] _ (by kernel_rfl)
  · intro u W hC _
    unfold Facts.one
    go_simp
    first | exact ⟨Grew.refl _, rfl⟩ | rfl
  simp only [Act.put, List.setIfInBounds_toArray, List.set_cons_zero, List.set_cons_succ, Nat.zero_add, Nat.reduceAdd]
  apply Facts.Lex.exact [] (.string ⟨load.toArray⟩) (by kernel_rfl)
  · intro u W hC _
    have hcv := conv22 (HA.out.grew (HG2.out.trans hC))
    unfold Facts.one
    go_simp
    first | exact ⟨Grew.refl _, rfl⟩ | rfl
  simp only [Act.put, List.setIfInBounds_toArray, List.set_cons_zero, List.set_cons_succ, Nat.zero_add, Nat.reduceAdd]
  apply Facts.Lex.exact [] (.bool false) (by kernel_rfl)
  · intro u W hC _
    unfold Facts.one
    go_simp
    first | exact ⟨Grew.refl _, rfl⟩ | rfl
  simp only [Act.put, List.setIfInBounds_toArray, List.set_cons_zero, List.set_cons_succ, Nat.zero_add, Nat.reduceAdd]
  apply Facts.Lex.exact [] (.bool false) (by kernel_rfl)
  · intro u W hC _
    unfold Facts.one
    go_simp
    first | exact ⟨Grew.refl _, rfl⟩ | rfl
  simp only [Act.put, List.setIfInBounds_toArray, List.set_cons_zero, List.set_cons_succ, Nat.zero_add, Nat.reduceAdd]
  refine Facts.Lex.done fun u W3 hC hL => ?_
  replace HG2 := Lib.hid (HG2.out.trans hC)
  replace D1' := Lib.hid (D1'.out.grew hC)
  replace HCELL : Hid (∀ k, load.length ≤ k → k < 108 → W3.cell? (adL.add k) = some (.int .u8 0)) := Lib.hid fun k h1 h2 => by
    have h := HCELL.out k h1 h2
    exact (World.cell?_of_block (w := w2) (hC.block _ (World.block_lt_of_cell? w2 _ h))).trans h
  clear hL hC HPRE
  go_wp2
  go_loopg [14] (108 - load.length) (fun g s14 wx => ∃ k : Nat, k + g = 108 ∧ load.length ≤ k ∧ s14 = .int .i64 k ∧ W3 = wx)
  case atStart => exact ⟨load.length, by omega, Nat.le_refl _, rfl, rfl⟩
  case round =>
    obtain ⟨k, hkg, hlk, rfl, rfl⟩ := hrel
    cases gk with
    | succ g =>
      have hk1 : (k : Int) < 108 := by omega
      have hk2 : k < 108 := by omega
      have hcell := HCELL.out k hlk hk2
      go_wp2
      go_roundg g
      case measure => omega
      case rel => exact ⟨k + 1, by omega, by omega, by first | rfl | simp, rfl⟩
    | zero =>
      have hk1 : ¬ ((k : Int) < 108) := by omega
      clear hkg hlk HCELL HZ HTK HLL HO HQ HA
      by_cases r1 : (896 : Int) < a
      · by_cases r2 : a < 928
        · go_wp2_with fail
          refine (alive_any _).mono ?_
          rintro e w4 ⟨rfl, g4⟩
          go_wp2
          go_returns
          exact ⟨rfl, HG2.out.trans g4⟩
        · have HP := Lib.hid (HPURE.out (.inr (by omega)))
          clear HPURE
          obtain ⟨vC, w4, happ, hown, g4⟩ := run_app0 W3 (some adB) cB B _ (by rw [HBL.out]; exact D1'.out) (by rw [HBL.out]; omega)
          obtain ⟨_, AC, cC, rfl⟩ := own_len hown (by rw [HBL.out]; omega)
          rw [HBL.out] at happ hown
          have HAPP := Lib.hid happ
          have HO1 := Lib.hid hown
          have HG1 := Lib.hid g4
          clear happ hown g4
          go_wp2_with (at_builtin; refine wpList_app' rfl (.tmp 80) (.tmp 81) 23 23 rfl _ _ rfl rfl _ w4 (by exact HAPP.out) ?_)
          clear HAPP
          go_loopg [16] 32 (fun g s16 wx => ∃ k : Nat, k + g = 32 ∧ s16 = .int .i64 k ∧ Hid (wx.ownsRow W3.heap.size 5 1 (.slice AC 128 cC) 128 (bv (turns B a t k))) ∧ Hid (Grew W3 wx))
          case atStart => exact ⟨0, rfl, rfl, HO1, HG1⟩
          case round =>
            obtain ⟨k, hkg, rfl, HB, HG⟩ := hrel
            clear HO1 HG1
            cases gk with
            | zero =>
              have hkz : ¬ ((k : Int) < 32) := by omega
              obtain rfl : k = 32 := by omega
              obtain ⟨C, hC⟩ : ∃ C, C = turns B a t 32 := ⟨_, rfl⟩
              have HM : Hid (Rd (fun _ => True) wr (.slice AC 128 cC) C) := Lib.hid (by
                have hb := HB.out
                rw [← hC] at hb
                exact (Rd.of_own hb (by rw [hC, turns_length, HBL.out])).mono fun _ _ => trivial)
              obtain ⟨⟨n, x, z⟩, hz⟩ : ∃ q, opened C = q := ⟨_, rfl⟩
              have HP2 := Lib.hid HP.out
              have key : z = 0 ↔ C = B := by
                have h := HP.out
                rw [← hC, hz] at h
                exact h
              have HZ := Lib.hid hz
              clear hC hz HP2 HP HB
              by_cases e : C = B
              · obtain rfl := key.2 e
                have E := Lib.hid e
                clear key e
                go_wp2_with fail
                with_reducible refine (open_eq _ _ C _ _ _ wr HM.out HZ.out).mono ?_
                rintro e w5 ⟨v5, rfl, _, g5⟩
                go_wp2_with fail
                with_reducible refine (alive_any _).mono ?_
                rintro e w6 ⟨rfl, g6⟩
                have c1 := conv22 (HM.out.grew (g5.trans g6))
                have c2 := conv22 (D1'.out.grew ((HG.out.trans g5).trans g6))
                have GE := Lib.hid (((HG2.out.trans HG.out).trans g5).trans g6)
                clear g5 g6
                rw [E.out] at c1
                go_wp2
                go_returns
                exact ⟨rfl, GE.out⟩
              · have hz0 : (z == 0) = false := by
                  have : ¬ z = 0 := fun h => e (key.1 h)
                  simpa using this
                have E := Lib.hid e
                clear key e
                go_wp2_with fail
                with_reducible refine (open_eq _ _ C _ _ _ wr HM.out HZ.out).mono ?_
                rintro e w5 ⟨v5, rfl, _, g5⟩
                go_wp2_with fail
                with_reducible refine (alive_any _).mono ?_
                rintro e w6 ⟨rfl, g6⟩
                have c1 := conv22 (HM.out.grew (g5.trans g6))
                have c2 := conv22 (D1'.out.grew ((HG.out.trans g5).trans g6))
                have GE := Lib.hid (((HG2.out.trans HG.out).trans g5).trans g6)
                clear g5 g6
                have hne : (C == B) = false := by simpa using E.out
                go_wp2
                go_returns
                exact ⟨rfl, GE.out⟩
            | succ g =>
              have hkz : (k : Int) < 32 := by omega
              have hbit := bit_at t k
              by_cases h1 : a < 0
              · have hst : turns B a t (k + 1) = turns B a t k := turns_neg B a t k h1
                go_wp2
                go_roundg g
                case measure => omega
                case rel => exact ⟨k + 1, by omega, by first | rfl | simp, by rw [hst]; exact HB, HG⟩
              · by_cases h2 : 1023 - (k : Int) < a
                · have hst : turns B a t (k + 1) = turns B a t k := turns_far B a t k (by rw [HBL.out]; omega)
                  go_wp2
                  go_roundg g
                  case measure => omega
                  case rel => exact ⟨k + 1, by omega, by first | rfl | simp, by rw [hst]; exact HB, HG⟩
                · cases h3 : t.getLsbD k with
                  | false =>
                    rw [h3, Bool.not_false] at hbit
                    have hst : turns B a t (k + 1) = turns B a t k := turns_off B a t k h3
                    go_wp2
                    go_roundg g
                    case measure => omega
                    case rel => exact ⟨k + 1, by omega, by first | rfl | simp, by rw [hst]; exact HB, HG⟩
                  | true =>
                    rw [h3, Bool.not_true] at hbit
                    obtain ⟨b, rfl⟩ := Int.eq_ofNat_of_zero_le (show 0 ≤ a by omega)
                    have hst : turns B (b : Int) t (k + 1) = turnAt (turns B (b : Int) t k) (b + k) := turns_on B b t k (by rw [HBL.out]; omega) h3
                    have HST := Lib.hid hst
                    clear hst
                    have hq : (b + k) / 8 < 128 := by omega
                    rcases HB.out.2 with ⟨_, h0⟩ | ⟨gB, cap, cur, esl, hge, hrow, hnc, hcm2, hsz, htk⟩
                    · omega
                    · injection esl with e1 _ e3
                      subst e1 e3
                      have hml : (turns B (b : Int) t k).length = 128 := by rw [turns_length, HBL.out]
                      have hcur : cur[(b + k) / 8]? = some (.int .u8 ((((turns B (b : Int) t k)[(b + k) / 8]?).getD 0).toNat : Int)) := by
                        have e := congrArg (·[(b + k) / 8]?) htk
                        simp only [Nat.mul_one, List.getElem?_take, if_pos hq, Array.getElem?_toList] at e
                        rw [e]
                        exact bv_get _ _ (by omega)
                      have hcell : wr.cell? ⟨gB, (b + k) / 8, none⟩ = some (.int .u8 ((((turns B (b : Int) t k)[(b + k) / 8]?).getD 0).toNat : Int)) := by
                        rw [cell_of_row _ _ _ _ _ _ hrow]
                        exact hcur
                      have hfro : wr.frozen? ⟨gB, (b + k) / 8, none⟩ = false := frozen_of_row _ _ _ _ _ hrow
                      have HN : Hid (∀ x : UInt8, (wr.setCell ⟨gB, (b + k) / 8, none⟩ (.int .u8 (x.toNat : Int))).ownsRow W3.heap.size 5 1 (.slice (some ⟨gB, 0, none⟩) 128 cC) 128 (bv ((turns B (b : Int) t k).set ((b + k) / 8) x))) :=
                        Lib.hid fun x => own_set x hge hrow hnc hcm2 hsz htk hml hq
                      clear hcur hrow hsz htk hcm2
                      generalize hy : ((turns B (b : Int) t k)[(b + k) / 8]?).getD 0 = y at *
                      have HY := Lib.hid hy
                      clear hy
                      have hyb := y.toNat_lt
                      go_wp2
                      go_region
                      go_wp2
                      go_roundg g
                      case measure => omega
                      case rel =>
                        refine ⟨k + 1, by omega, by first | rfl | simp, ?_, Lib.hid ?_⟩
                        · have hfin := HN.out (y ^^^ UInt8.ofNat (2 ^ ((b + k) % 8)))
                          rw [HST.out]
                          unfold turnAt
                          rw [HY.out]
                          rw [← bits8, ← shl8 _ (Nat.mod_lt _ (by omega))] at hfin
                          exact hfin
                        · have hg := HG.out
                          exact (Below.setCell (p := ⟨gB, (b + k) / 8, none⟩) hg hge _).drew
      · have HP := Lib.hid (HPURE.out (.inl (by omega)))
        clear HPURE
        obtain ⟨vC, w4, happ, hown, g4⟩ := run_app0 W3 (some adB) cB B _ (by rw [HBL.out]; exact D1'.out) (by rw [HBL.out]; omega)
        obtain ⟨_, AC, cC, rfl⟩ := own_len hown (by rw [HBL.out]; omega)
        rw [HBL.out] at happ hown
        have HAPP := Lib.hid happ
        have HO1 := Lib.hid hown
        have HG1 := Lib.hid g4
        clear happ hown g4
        go_wp2_with (at_builtin; refine wpList_app' rfl (.tmp 80) (.tmp 81) 23 23 rfl _ _ rfl rfl _ w4 (by exact HAPP.out) ?_)
        clear HAPP
        go_loopg [16] 32 (fun g s16 wx => ∃ k : Nat, k + g = 32 ∧ s16 = .int .i64 k ∧ Hid (wx.ownsRow W3.heap.size 5 1 (.slice AC 128 cC) 128 (bv (turns B a t k))) ∧ Hid (Grew W3 wx))
        case atStart => exact ⟨0, rfl, rfl, HO1, HG1⟩
        case round =>
          obtain ⟨k, hkg, rfl, HB, HG⟩ := hrel
          clear HO1 HG1
          cases gk with
          | zero =>
            have hkz : ¬ ((k : Int) < 32) := by omega
            obtain rfl : k = 32 := by omega
            obtain ⟨C, hC⟩ : ∃ C, C = turns B a t 32 := ⟨_, rfl⟩
            have HM : Hid (Rd (fun _ => True) wr (.slice AC 128 cC) C) := Lib.hid (by
              have hb := HB.out
              rw [← hC] at hb
              exact (Rd.of_own hb (by rw [hC, turns_length, HBL.out])).mono fun _ _ => trivial)
            obtain ⟨⟨n, x, z⟩, hz⟩ : ∃ q, opened C = q := ⟨_, rfl⟩
            have HP2 := Lib.hid HP.out
            have key : z = 0 ↔ C = B := by
              have h := HP.out
              rw [← hC, hz] at h
              exact h
            have HZ := Lib.hid hz
            clear hC hz HP2 HP HB
            by_cases e : C = B
            · obtain rfl := key.2 e
              have E := Lib.hid e
              clear key e
              go_wp2_with fail
              with_reducible refine (open_eq _ _ C _ _ _ wr HM.out HZ.out).mono ?_
              rintro e w5 ⟨v5, rfl, _, g5⟩
              go_wp2_with fail
              with_reducible refine (alive_any _).mono ?_
              rintro e w6 ⟨rfl, g6⟩
              have c1 := conv22 (HM.out.grew (g5.trans g6))
              have c2 := conv22 (D1'.out.grew ((HG.out.trans g5).trans g6))
              have GE := Lib.hid (((HG2.out.trans HG.out).trans g5).trans g6)
              clear g5 g6
              rw [E.out] at c1
              go_wp2
              go_returns
              exact ⟨rfl, GE.out⟩
            · have hz0 : (z == 0) = false := by
                have : ¬ z = 0 := fun h => e (key.1 h)
                simpa using this
              have E := Lib.hid e
              clear key e
              go_wp2_with fail
              with_reducible refine (open_eq _ _ C _ _ _ wr HM.out HZ.out).mono ?_
              rintro e w5 ⟨v5, rfl, _, g5⟩
              go_wp2_with fail
              with_reducible refine (alive_any _).mono ?_
              rintro e w6 ⟨rfl, g6⟩
              have c1 := conv22 (HM.out.grew (g5.trans g6))
              have c2 := conv22 (D1'.out.grew ((HG.out.trans g5).trans g6))
              have GE := Lib.hid (((HG2.out.trans HG.out).trans g5).trans g6)
              clear g5 g6
              have hne : (C == B) = false := by simpa using E.out
              go_wp2
              go_returns
              exact ⟨rfl, GE.out⟩
          | succ g =>
            have hkz : (k : Int) < 32 := by omega
            have hbit := bit_at t k
            by_cases h1 : a < 0
            · have hst : turns B a t (k + 1) = turns B a t k := turns_neg B a t k h1
              go_wp2
              go_roundg g
              case measure => omega
              case rel => exact ⟨k + 1, by omega, by first | rfl | simp, by rw [hst]; exact HB, HG⟩
            · by_cases h2 : 1023 - (k : Int) < a
              · have hst : turns B a t (k + 1) = turns B a t k := turns_far B a t k (by rw [HBL.out]; omega)
                go_wp2
                go_roundg g
                case measure => omega
                case rel => exact ⟨k + 1, by omega, by first | rfl | simp, by rw [hst]; exact HB, HG⟩
              · cases h3 : t.getLsbD k with
                | false =>
                  rw [h3, Bool.not_false] at hbit
                  have hst : turns B a t (k + 1) = turns B a t k := turns_off B a t k h3
                  go_wp2
                  go_roundg g
                  case measure => omega
                  case rel => exact ⟨k + 1, by omega, by first | rfl | simp, by rw [hst]; exact HB, HG⟩
                | true =>
                  rw [h3, Bool.not_true] at hbit
                  obtain ⟨b, rfl⟩ := Int.eq_ofNat_of_zero_le (show 0 ≤ a by omega)
                  have hst : turns B (b : Int) t (k + 1) = turnAt (turns B (b : Int) t k) (b + k) := turns_on B b t k (by rw [HBL.out]; omega) h3
                  have HST := Lib.hid hst
                  clear hst
                  have hq : (b + k) / 8 < 128 := by omega
                  rcases HB.out.2 with ⟨_, h0⟩ | ⟨gB, cap, cur, esl, hge, hrow, hnc, hcm2, hsz, htk⟩
                  · omega
                  · injection esl with e1 _ e3
                    subst e1 e3
                    have hml : (turns B (b : Int) t k).length = 128 := by rw [turns_length, HBL.out]
                    have hcur : cur[(b + k) / 8]? = some (.int .u8 ((((turns B (b : Int) t k)[(b + k) / 8]?).getD 0).toNat : Int)) := by
                      have e := congrArg (·[(b + k) / 8]?) htk
                      simp only [Nat.mul_one, List.getElem?_take, if_pos hq, Array.getElem?_toList] at e
                      rw [e]
                      exact bv_get _ _ (by omega)
                    have hcell : wr.cell? ⟨gB, (b + k) / 8, none⟩ = some (.int .u8 ((((turns B (b : Int) t k)[(b + k) / 8]?).getD 0).toNat : Int)) := by
                      rw [cell_of_row _ _ _ _ _ _ hrow]
                      exact hcur
                    have hfro : wr.frozen? ⟨gB, (b + k) / 8, none⟩ = false := frozen_of_row _ _ _ _ _ hrow
                    have HN : Hid (∀ x : UInt8, (wr.setCell ⟨gB, (b + k) / 8, none⟩ (.int .u8 (x.toNat : Int))).ownsRow W3.heap.size 5 1 (.slice (some ⟨gB, 0, none⟩) 128 cC) 128 (bv ((turns B (b : Int) t k).set ((b + k) / 8) x))) :=
                      Lib.hid fun x => own_set x hge hrow hnc hcm2 hsz htk hml hq
                    clear hcur hrow hsz htk hcm2
                    generalize hy : ((turns B (b : Int) t k)[(b + k) / 8]?).getD 0 = y at *
                    have HY := Lib.hid hy
                    clear hy
                    have hyb := y.toNat_lt
                    go_wp2
                    go_region
                    go_wp2
                    go_roundg g
                    case measure => omega
                    case rel =>
                      refine ⟨k + 1, by omega, by first | rfl | simp, ?_, Lib.hid ?_⟩
                      · have hfin := HN.out (y ^^^ UInt8.ofNat (2 ^ ((b + k) % 8)))
                        rw [HST.out]
                        unfold turnAt
                        rw [HY.out]
                        rw [← bits8, ← shl8 _ (Nat.mod_lt _ (by omega))] at hfin
                        exact hfin
                      · have hg := HG.out
                        exact (Below.setCell (p := ⟨gB, (b + k) / 8, none⟩) hg hge _).drew

theorem sealing_cases (s : Nat) (load : List UInt8) : (may s = true ∧ load.length ≤ 108 ∧ sealing s load = (sealed s load, 0)) ∨ ∃ y : Int, (y == 0) = false ∧ sealing s load = ([], y) := by
  unfold sealing
  cases hs : may s with
  | false => exact .inr ⟨1, by decide, by rw [if_pos rfl]⟩
  | true =>
    rw [if_neg (by simp)]
    by_cases hl : 108 < load.length
    · exact .inr ⟨13, by decide, by rw [if_pos hl]⟩
    · exact .inl ⟨rfl, by omega, by rw [if_neg hl]⟩
theorem empty_shape {S : Nat → Prop} {w : World} {v : Value} (h : Rd S w v []) : ∃ A c, v = .slice A 0 c := by
  obtain ⟨A, c, e, _⟩ := h
  exact ⟨A, c, e⟩

theorem law_any (S : Nat → Prop) (v : Value) (load : List UInt8) (s : Nat) (a : Int) (t : BitVec 32) (w : World) (ha : Rd S w v load) (hal : -9223372036854775808 ≤ a) (hau : a ≤ 9223372036854775807) :
    Calls Try.prog 4 #[.int .u64 s, v, .int .i64 a, .int .u32 (t.toNat : Int)] w fun e w' => e = .returned (.bool true) ∧ Grew w w' := by
  obtain ⟨A, cA, rfl, hac, hcm, _⟩ := id ha
  rcases sealing_cases s load with ⟨hs, hl, _⟩ | ⟨y, hy, hq⟩
  · exact law_ok S A cA load s a t w ha hac (by unfold maxLen at hcm; omega) hs hl hal hau
  · have HA := Lib.hid ha
    have HQ := Lib.hid hq
    clear ha hq hcm
    go_enter Try.func4, Try.ntmps4
    go_wp2_with fail
    refine (seal_eq _ _ load s _ _ w HA.out HQ.out).mono ?_
    rintro e w1 ⟨v1, rfl, d1, g1⟩
    obtain ⟨A1, c1, rfl⟩ := empty_shape d1
    clear d1
    go_wp2_with fail
    refine (alive_any _).mono ?_
    rintro e w2 ⟨rfl, g2⟩
    go_wp2
    go_returns
    exact ⟨rfl, g1.trans g2⟩
end Go.Proofs.Ytiajjkjdmcoodab.SBack
