/-
  FrameBack: what was wrapped one behind the other is taken as it was; cut anywhere, all whole frames ahead are, and then something is missing.
  Conditions: those that each lemma names.
-/
import Derived.Test.YtbdlpmaigbbpaaaFB2
import Derived.Test.YtbdlpmaigbbpaaaFL
namespace Go.Proofs.Ytbdlpmaigbbpaaa.FB3
set_option maxRecDepth 100000
open Go Go.RowKit Go.Lib Go.Proofs.Ytbdlpmaigbbpaaa Go.Proofs.Ytbdlpmaigbbpaaa.Facts Go.Proofs.Ytbdlpmaigbbpaaa.Bytes Go.Proofs.Ytbdlpmaigbbpaaa.Puts Go.Proofs.Ytbdlpmaigbbpaaa.Scan Go.Proofs.Ytbdlpmaigbbpaaa.Take Go.Proofs.Ytbdlpmaigbbpaaa.Nums Go.Proofs.Ytbdlpmaigbbpaaa.SumPure Go.Proofs.Ytbdlpmaigbbpaaa.Sum Go.Proofs.Ytbdlpmaigbbpaaa.FP Go.Proofs.Ytbdlpmaigbbpaaa.FW Go.Proofs.Ytbdlpmaigbbpaaa.FX Go.Proofs.Ytbdlpmaigbbpaaa.FT Go.Proofs.Ytbdlpmaigbbpaaa.FU Go.Proofs.Ytbdlpmaigbbpaaa.FS Go.Proofs.Ytbdlpmaigbbpaaa.FV Go.Proofs.Ytbdlpmaigbbpaaa.FV2 Go.Proofs.Ytbdlpmaigbbpaaa.FA Go.Proofs.Ytbdlpmaigbbpaaa.FK Go.Proofs.Ytbdlpmaigbbpaaa.FB1 Go.Proofs.Ytbdlpmaigbbpaaa.FB2

theorem lb_at {w wx : World} {A : Option Addr} {c : Nat} {L : List (List UInt8)} (h : LB w A c L) (hg : Grew w wx) {i : Nat} {x : List UInt8} (hx : L[i]? = some x) : ∃ ad vB, A = some ad ∧ wx.cell? (ad.add i) = some vB ∧ Rd (fun b => b < w.heap.size) wx vB x := by
  obtain ⟨h1, h2, h3, h4⟩ := h
  cases A with
  | none =>
    have := h3 rfl
    have := (List.getElem?_eq_some_iff.1 hx).1
    omega
  | some ad =>
    obtain ⟨vB, q1, q2⟩ := h4 ad rfl i x hx
    exact ⟨ad, vB, rfl, cellB hg q1, q2.grew hg⟩
theorem fits_take (L : List (List UInt8)) (i : Nat) (x : List UInt8) (h : L[i]? = some x) : fits (L.take (i + 1)) = if x.length ≤ 255 then fits (L.take i) ++ [x] else fits (L.take i) := by
  rw [List.take_add_one, h]
  exact fits_app _ _
set_option maxHeartbeats 4000000 in
theorem law_any (w : World) (A0 : Option Addr) (c0 : Nat) (L : List (List UInt8)) (cut : Int) (h : LB w A0 c0 L) :
    Calls Try.prog 4 #[.slice A0 L.length c0, .int .i64 cut] w fun e w' => e = .returned (.bool true) ∧ Grew w w' := by
  have H := Lib.hid h
  have hlc := h.1
  have hcm := h.2.1
  clear h
  go_enter Try.func4, Try.ntmps4
  go_wp2
  go_loopg [5, 6, 7, 8] (min L.length 20) (fun g s5 s6 s7 s8 wx => ∃ (i : Nat) (A5 : Option Addr) (n5 c5 : Nat) (A6 : Option Addr) (n6 c6 : Nat) (A7 : Option Addr) (n7 c7 : Nat), i + g = min L.length 20 ∧ s8 = .int .i64 (i : Int) ∧ s5 = .slice A5 n5 c5 ∧ s6 = .slice A6 n6 c6 ∧ s7 = .slice A7 n7 c7 ∧ Hid (Z w.heap.size (fits (L.take i)) A5 n5 c5 A6 n6 c6 A7 n7 c7 wx) ∧ Hid (Grew w wx))
  case atStart => exact ⟨0, none, 0, 0, none, 0, 0, none, 0, 0, by omega, rfl, rfl, rfl, rfl, Lib.hid (Z.nil _ _), Lib.hid (Grew.refl _)⟩
  case round =>
    obtain ⟨i, A5, n5, c5, A6, n6, c6, A7, n7, c7, hig, rfl, rfl, rfl, rfl, HZ, HG⟩ := hrel
    cases gk with
    | zero =>
      have hlast : ¬ ((i : Int) < (L.length : Int)) ∨ ¬ ((i : Int) < 20) := by omega
      have HKL : Hid ((fits (L.take i)).length ≤ 20) := Lib.hid (Nat.le_trans (fits_len _) (by rw [List.length_take]; omega))
      have HKF := Lib.hid (fits_le (L.take i))
      obtain ⟨K, hK⟩ : ∃ K, fits (L.take i) = K := ⟨_, rfl⟩
      rw [hK] at HZ HKL HKF
      clear hK H hig hlc hcm
      have HC := Lib.hid (cat_len K HKF.out)
      have HAL := Lib.hid (allP_cat K HKF.out)
      obtain ⟨z5, z6, z7, hn5, hn6, hn7⟩ := HZ.out
      subst hn5 hn6 hn7
      have D5 := Lib.hid (Rd.of_own z5 rfl)
      have O6 := Lib.hid z6
      have S7 := Lib.hid z7
      clear z5 z6 z7 HZ
      rcases (show (¬ ((i : Int) < (L.length : Int))) ∨ ((i : Int) < (L.length : Int) ∧ ¬ ((i : Int) < 20)) by omega) with hil | ⟨hil, h20⟩
      all_goals
        clear hlast
        go_wp2_with fail
        refine (all_any _ _ (cat K) 255 wr D5.out (by have := HC.out; have := HKL.out; omega)).mono ?_
        rintro e w1 ⟨a1, rfl, r1, g1⟩
        rw [HAL.out] at r1 ⊢
        simp only at r1 ⊢
        obtain ⟨A1, c1, rfl⟩ := bs_len r1
        have R1 := Lib.hid r1
        have D5b := Lib.hid (D5.out.grew g1)
        have O6b := Lib.hid (own_grew O6.out g1)
        have S7b := Lib.hid (S7.out.grew g1)
        have G1 := Lib.hid (HG.out.trans g1)
        clear r1 g1 D5 O6 S7 HG
        go_wp2_with fail
        refine (FL.same_yes w1 _ _ K (RR.of_bs R1.out) S7b.out.rr (by have := HKL.out; omega)).mono ?_
        rintro e w2 ⟨rfl, g2⟩
        have D5 := Lib.hid (D5b.out.grew g2)
        have O6 := Lib.hid (own_grew O6b.out g2)
        have S7 := Lib.hid (S7b.out.grew g2)
        have G2 := Lib.hid (G1.out.trans g2)
        clear g2 D5b O6b S7b G1 R1
        by_cases hcut : cut < 0 ∨ (cat K).length ≤ cut
        · rcases (show cut < 0 ∨ (¬ cut < 0 ∧ (cat K).length ≤ cut) by omega) with hc | ⟨hc, hc2⟩
          all_goals
            clear hcut
            go_wp2_with fail
            refine (alive_any w2).mono ?_
            rintro e w3 ⟨rfl, g3⟩
            go_wp2
            go_returns
            exact ⟨rfl, G2.out.trans g3⟩
        · obtain ⟨k, rfl⟩ := Int.eq_ofNat_of_zero_le (show 0 ≤ cut by omega)
          have hk0 : ¬ (k : Int) < 0 := by omega
          have hkl : ¬ (((cat K).length : Nat) : Int) ≤ (k : Int) := by omega
          have hdk : decide ((cat K).length ≤ k) = false := by simp; omega
          have HK0 : Hid (k < (cat K).length) := Lib.hid (by omega)
          clear hcut hil
          try clear h20
          go_wp2
          go_loopg [13, 14] K.length (fun g s13 s14 wx => ∃ (i p : Nat), i + g = K.length ∧ s14 = .int .i64 (i : Int) ∧ s13 = .int .i64 (p : Int) ∧ Hid ((cat (K.take i)).length = p) ∧ Hid (p ≤ k) ∧ Hid (Grew w2 wx))
          case atStart => exact ⟨0, 0, by omega, rfl, rfl, Lib.hid (by simp [cat]), Lib.hid (Nat.zero_le _), Lib.hid (Grew.refl _)⟩
          case round =>
            obtain ⟨i, p, hig, rfl, rfl, HP, HPK, HG⟩ := hrel
            cases gk with
            | zero =>
              have h1 := HP.out
              rw [List.take_of_length_le (by omega)] at h1
              have h2 := HPK.out
              have h3 := HK0.out
              omega
            | succ g =>
              have hiK : (i : Int) < (K.length : Int) := by omega
              obtain ⟨x, hx⟩ : ∃ x, K[i]? = some x := ⟨_, List.getElem?_eq_getElem (by omega)⟩
              have HX := Lib.hid hx
              have hxl := HKF.out x (List.mem_of_getElem? hx)
              have hsp := spot K i x hx
              rw [HP.out] at hsp
              have HSP := Lib.hid hsp
              obtain ⟨e2, he2⟩ : ∃ e2, (cat (K.take (i + 1))).length = e2 := ⟨_, rfl⟩
              have HE2 := Lib.hid he2
              have he3 : e2 = p + (x.length + 3) := by rw [← he2]; exact hsp.p.2.1
              have h6 : ∃ ad6, A6 = some ad6 ∧ ∀ W, Grew w2 W → W.cell? (ad6.add i) = some (.int .i64 (e2 : Int)) := by
                rcases O6.out.2 with ⟨hq, h0⟩ | ⟨q6, cap6, cur6, hq, _, hg6, _⟩
                · rw [ends_length] at h0; omega
                · injection hq with hq1 _ _
                  refine ⟨_, hq1, fun W hg => cellB hg ?_⟩
                  have := O6.out.cells (g := q6) (by rw [hq1]; rfl) i (.int .i64 (e2 : Int)) (by simp [iv, ends_get K i (by omega), he2])
                  exact this
              obtain ⟨ad6, hA6, hC6⟩ := h6
              subst hA6
              have C6 := Lib.hid (fun W (hg : Grew wr W) => hC6 W (HG.out.trans hg))
              have h7 : ∃ ad7 AX cX, A7 = some ad7 ∧ (∀ W, Grew w2 W → W.cell? (ad7.add i) = some (.slice AX x.length cX)) ∧ ∀ W, Grew w2 W → (convert 22 9 (.slice AX x.length cX)).run Try.prog W = .ok (.string ⟨x.toArray⟩) W := by
                obtain ⟨A', c', e, hq⟩ := S7.out.rr
                injection e with e1 _ _
                obtain ⟨ad7, AX, cX, r1, r2, r3⟩ := hq i x hx
                exact ⟨ad7, AX, cX, by rw [e1, r1], fun W hg => cellB hg r2, fun W hg => conv22 (r3.grew hg)⟩
              obtain ⟨ad7, AX, cX, hA7, hC7, hKB⟩ := h7
              subst hA7
              have C7 := Lib.hid (fun W (hg : Grew wr W) => hC7 W (HG.out.trans hg))
              have KB := Lib.hid (fun W (hg : Grew wr W) => hKB W (HG.out.trans hg))
              have h5 : ∃ ad5, A5 = some ad5 ∧ (cat K).length ≤ c5 := by
                obtain ⟨A', c', e, q1, _, q3, _⟩ := D5.out
                injection e with e1 _ e3
                subst e3
                cases A5 with
                | some ad5 => exact ⟨ad5, rfl, q1⟩
                | none => have := q3 e1.symm; have := HK0.out; omega
              obtain ⟨ad5, hA5, hc5⟩ := h5
              subst hA5
              have hpk := HPK.out
              have hkl2 := HK0.out
              have hqc : ¬ c5 = p := by omega
              have hq1 : 0 ≤ (k : Int) ∧ (k : Int) ≤ (c5 : Int) := by omega
              have hq2 : 0 ≤ (p : Int) ∧ (p : Int) ≤ (k : Int) := by omega
              have hcw2 := hC6 wr HG.out
              have DB : Hid (Rd (fun _ => True) wr (.slice (some (ad5.add p)) (k - p) (c5 - p)) (((cat K).drop p).take (k - p))) := Lib.hid (by
                have := cut_at (D5.out.grew HG.out) p (k - p) (by omega) (by omega) (c5 - p) (by omega) (by omega)
                exact this.mono fun _ _ => trivial)
              have HQ2 := Lib.hid he3
              clear hx hsp he2 hC6 hC7 hKB hpk hkl2
              by_cases hle : e2 ≤ k
              · have hle2 : (e2 : Int) ≤ (k : Int) := by omega
                have HT : Hid (takeP (((cat K).drop p).take (k - p)) 255 = (x, x.length + 3, 0)) := Lib.hid (spot_full HSP.out hxl k (by omega))
                have HIG := Lib.hid hig
                have hwr : IntKind.i64.wrap ((p : Int) + ((x.length : Int) + 3)) = (e2 : Int) := by have := HC.out; have := HKL.out; have := HK0.out; rw [IntWalk.i64_in _ (by omega)]; omega
                clear he3 hig
                go_wp2_with fail
                refine (take_any _ _ _ 255 wr DB.out).mono ?_
                rintro e w3 ⟨a3, rfl, r3, g3⟩
                rw [HT.out] at r3 ⊢
                simp only at r3 ⊢
                obtain ⟨A3, c3, rfl, _⟩ := id r3
                have KX := Lib.hid (fun W (hg : Grew w3 W) => conv22 (r3.grew hg))
                have C6b := Lib.hid (fun W (hg : Grew w3 W) => C6.out W (g3.trans hg))
                have C7b := Lib.hid (fun W (hg : Grew w3 W) => C7.out W (g3.trans hg))
                have KBb := Lib.hid (fun W (hg : Grew w3 W) => KB.out W (g3.trans hg))
                have HG3 := Lib.hid (HG.out.trans g3)
                have HLE : Hid (e2 ≤ k) := Lib.hid hle
                have hiK2 := hiK
                clear r3 g3 hle hle2 hcw2 C6 C7 KB HG
                go_wp2
                refine Facts.wp_region_text (by kernel_rfl) (by kernel_rfl) ?_
                apply Facts.Lex.exact [] _ (by kernel_rfl)
                · intro u W hC _
                  unfold Facts.one
                  go_simp
                  exact ⟨Grew.refl _, rfl⟩
                simp only [Act.put, List.setIfInBounds_toArray, List.set_cons_zero, List.set_cons_succ, Nat.zero_add]
                apply Facts.Lex.exact [] _ (by kernel_rfl)
                · intro u W hC _
                  unfold Facts.one
                  go_simp
                  exact ⟨Grew.refl _, rfl⟩
                simp only [Act.put, List.setIfInBounds_toArray, List.set_cons_zero, List.set_cons_succ, Nat.reduceAdd]
                apply Facts.Lex.exact [] _ (by kernel_rfl)
                · intro u W hC _
                  unfold Facts.one
                  go_simp
                  exact ⟨Grew.refl _, rfl⟩
                simp only [Act.put, List.setIfInBounds_toArray, List.set_cons_zero, List.set_cons_succ, Nat.reduceAdd]
                apply Facts.Lex.exact [] _ (by kernel_rfl)
                · intro u W hC _
                  unfold Facts.one
                  go_simp
                  exact ⟨Grew.refl _, rfl⟩
                simp only [Act.put, List.setIfInBounds_toArray, List.set_cons_zero, List.set_cons_succ, Nat.reduceAdd]
                apply Facts.Lex.exact [] _ (by kernel_rfl)
                · intro u W hC _
                  have q := KX.out W hC
                  unfold Facts.one
                  go_simp
                  exact ⟨Grew.refl _, rfl⟩
                simp only [Act.put, List.setIfInBounds_toArray, List.set_cons_zero, List.set_cons_succ, Nat.reduceAdd]
                apply Facts.Lex.exact [] _ (by kernel_rfl)
                · intro u W hC _
                  unfold Facts.one
                  go_simp
                  exact ⟨Grew.refl _, rfl⟩
                simp only [Act.put, List.setIfInBounds_toArray, List.set_cons_zero, List.set_cons_succ, Nat.reduceAdd]
                apply Facts.Lex.exact [] _ (by kernel_rfl)
                · intro u W hC _
                  unfold Facts.one
                  go_simp
                  exact ⟨Grew.refl _, rfl⟩
                simp only [Act.put, List.setIfInBounds_toArray, List.set_cons_zero, List.set_cons_succ, Nat.reduceAdd]
                apply Facts.Lex.exact [] _ (by kernel_rfl)
                · intro u W hC _
                  unfold Facts.one
                  go_simp
                  exact ⟨Grew.refl _, rfl⟩
                simp only [Act.put, List.setIfInBounds_toArray, List.set_cons_zero, List.set_cons_succ, Nat.reduceAdd]
                apply Facts.Lex.exact [] _ (by kernel_rfl)
                · intro u W hC _
                  have q := C7b.out W hC
                  unfold Facts.one
                  go_simp
                  exact ⟨Grew.refl _, rfl⟩
                simp only [Act.put, List.setIfInBounds_toArray, List.set_cons_zero, List.set_cons_succ, Nat.reduceAdd]
                apply Facts.Lex.exact [] _ (by kernel_rfl)
                · intro u W hC _
                  have q := KBb.out W hC
                  unfold Facts.one
                  go_simp
                  exact ⟨Grew.refl _, rfl⟩
                simp only [Act.put, List.setIfInBounds_toArray, List.set_cons_zero, List.set_cons_succ, Nat.reduceAdd]
                apply Facts.Lex.exact [] (.bool false) (by kernel_rfl)
                · intro u W hC _
                  unfold Facts.one
                  go_simp
                  exact ⟨Grew.refl _, rfl⟩
                simp only [Act.put, List.setIfInBounds_toArray, List.set_cons_zero, List.set_cons_succ, Nat.reduceAdd]
                apply Facts.Lex.exact [] _ (by kernel_rfl)
                · intro u W hC _
                  unfold Facts.one
                  go_simp
                  exact ⟨Grew.refl _, rfl⟩
                simp only [Act.put, List.setIfInBounds_toArray, List.set_cons_zero, List.set_cons_succ, Nat.reduceAdd]
                apply Facts.Lex.exact [] _ (by kernel_rfl)
                · intro u W hC _
                  unfold Facts.one
                  go_simp
                  exact ⟨Grew.refl _, rfl⟩
                simp only [Act.put, List.setIfInBounds_toArray, List.set_cons_zero, List.set_cons_succ, Nat.reduceAdd]
                apply Facts.Lex.exact [] _ (by kernel_rfl)
                · intro u W hC _
                  unfold Facts.one
                  go_simp
                  exact ⟨Grew.refl _, rfl⟩
                simp only [Act.put, List.setIfInBounds_toArray, List.set_cons_zero, List.set_cons_succ, Nat.reduceAdd]
                apply Facts.Lex.exact [] _ (by kernel_rfl)
                · intro u W hC _
                  unfold Facts.one
                  go_simp
                  exact ⟨Grew.refl _, rfl⟩
                simp only [Act.put, List.setIfInBounds_toArray, List.set_cons_zero, List.set_cons_succ, Nat.reduceAdd]
                apply Facts.Lex.exact [] (.int .i64 (e2 : Int)) (by kernel_rfl)
                · intro u W hC _
                  unfold Facts.one
                  go_simp
                  exact ⟨Grew.refl _, rfl⟩
                simp only [Act.put, List.setIfInBounds_toArray, List.set_cons_zero, List.set_cons_succ, Nat.reduceAdd]
                apply Facts.Lex.exact [] _ (by kernel_rfl)
                · intro u W hC _
                  unfold Facts.one
                  go_simp
                  exact ⟨Grew.refl _, rfl⟩
                simp only [Act.put, List.setIfInBounds_toArray, List.set_cons_zero, List.set_cons_succ, Nat.reduceAdd]
                apply Facts.Lex.exact [] _ (by kernel_rfl)
                · intro u W hC _
                  unfold Facts.one
                  go_simp
                  exact ⟨Grew.refl _, rfl⟩
                simp only [Act.put, List.setIfInBounds_toArray, List.set_cons_zero, List.set_cons_succ, Nat.reduceAdd]
                apply Facts.Lex.exact [] _ (by kernel_rfl)
                · intro u W hC _
                  unfold Facts.one
                  go_simp
                  exact ⟨Grew.refl _, rfl⟩
                simp only [Act.put, List.setIfInBounds_toArray, List.set_cons_zero, List.set_cons_succ, Nat.reduceAdd]
                apply Facts.Lex.exact [] _ (by kernel_rfl)
                · intro u W hC _
                  have q := C6b.out W hC
                  unfold Facts.one
                  go_simp
                  exact ⟨Grew.refl _, rfl⟩
                simp only [Act.put, List.setIfInBounds_toArray, List.set_cons_zero, List.set_cons_succ, Nat.reduceAdd]
                apply Facts.Lex.exact [] (.bool false) (by kernel_rfl)
                · intro u W hC _
                  unfold Facts.one
                  go_simp
                  exact ⟨Grew.refl _, rfl⟩
                simp only [Act.put, List.setIfInBounds_toArray, List.set_cons_zero, List.set_cons_succ, Nat.reduceAdd]
                apply Facts.Lex.exact [] _ (by kernel_rfl)
                · intro u W hC _
                  unfold Facts.one
                  go_simp
                  exact ⟨Grew.refl _, rfl⟩
                simp only [Act.put, List.setIfInBounds_toArray, List.set_cons_zero, List.set_cons_succ, Nat.reduceAdd]
                refine Facts.Lex.done fun u W hg _ => ?_
                have hcw := C6b.out W hg
                have hi20b : i < 20 := by have := HKL.out; omega
                have HGW := Lib.hid (HG3.out.trans hg)
                clear hg
                go_wp2
                go_roundg g
                case measure => omega
                case rel => exact ⟨i + 1, e2, by have := HIG.out; omega, by first | rfl | simp, rfl, HE2, HLE, HGW⟩
              · have hle2 : ¬ (e2 : Int) ≤ (k : Int) := by omega
                have HT : Hid (takeP (((cat K).drop p).take (k - p)) 255 = ([], 0, 12)) := Lib.hid (spot_cut HSP.out hxl k (by omega) HPK.out)
                clear he3 hig
                go_wp2_with fail
                refine (take_any _ _ _ 255 wr DB.out).mono ?_
                rintro e w3 ⟨a3, rfl, r3, g3⟩
                rw [HT.out] at r3 ⊢
                simp only at r3 ⊢
                have HG3 := Lib.hid ((G2.out.trans HG.out).trans g3)
                clear r3 g3 hle hle2
                go_wp2_with fail
                refine (alive_any w3).mono ?_
                rintro e w4 ⟨rfl, g4⟩
                go_wp2
                go_returns
                exact ⟨rfl, HG3.out.trans g4⟩
    | succ g =>
      have hil : (i : Int) < (L.length : Int) := by omega
      have hi20 : (i : Int) < 20 := by omega
      obtain ⟨x, hx⟩ : ∃ x, L[i]? = some x := ⟨_, List.getElem?_eq_getElem (by omega)⟩
      obtain ⟨ad, vB, rfl, hcell, hrB⟩ := lb_at H.out HG.out hx
      have HRB := Lib.hid hrB
      have HFT := Lib.hid (fits_take L i x hx)
      have hcell0 := Lib.hid (lb_at H.out (Grew.refl _) hx)
      obtain ⟨AB, cB, rfl, _⟩ := id hrB
      have HX := Lib.hid hx
      have HKL : Hid ((fits (L.take i)).length ≤ 20) := Lib.hid (Nat.le_trans (fits_len _) (by rw [List.length_take]; omega))
      have hlim : lim 255 = 255 := by decide
      clear hx hrB
      by_cases hxl : x.length ≤ 255
      · have HW : Hid (wrapP x 255 = (fr x, 0)) := Lib.hid (by unfold wrapP; rw [hlim, if_neg (by omega)])
        have HXL := Lib.hid hxl
        have hxl2 : (x.length : Int) ≤ 255 := by omega
        clear hlim
        go_wp2_with fail
        refine (wrap_any _ _ x 255 wr HRB.out).mono ?_
        rintro e w1 ⟨a1, rfl, r1, g1⟩
        rw [HW.out] at r1 ⊢
        simp only at r1 ⊢
        obtain ⟨A1, c1, rfl, _⟩ := id r1
        have HG1 := Lib.hid (HG.out.trans g1)
        obtain ⟨A5', n5', c5', A6', n6', c6', A7', n7', c7', w2, w3, w4, q5, q6, q7, hz', b3, b4⟩ := (HZ.out.grew g1).push (Nat.le_trans HG.out.size g1.size) x A1 c1 _ r1 _ (HRB.out.grew g1) HKL.out (fits_le _) HXL.out
        have hc3 : w3.cell? (ad.add i) = some (.slice AB x.length cB) := by
          obtain ⟨ad', vB', e1, e2, _⟩ := hcell0.out
          injection e1 with e1
          subst e1
          have g3 : Grew w w3 := (show Below w.heap.size _ _ from HG1.out).trans b3
          have := cellB HG.out e2
          rw [hcell] at this
          injection this with this
          rw [this]
          exact cellB g3 e2
        have Q5 := Lib.hid q5
        have Q6 := Lib.hid q6
        have Q7 := Lib.hid q7
        have HZ2 : Hid (Z w.heap.size (fits (L.take (i + 1))) A5' n5' c5' A6' n6' c6' A7' n7' c7' w4) := Lib.hid (by rw [HFT.out, if_pos HXL.out]; exact hz')
        have HG4 : Hid (Grew w w4) := Lib.hid ((show Below w.heap.size _ _ from HG1.out).trans b4)
        clear q5 q6 q7 hz' b3 b4 r1 g1 hxl
        go_wp2_with (at_builtin; first | refine wpList_app' rfl (.tmp 47) (.tmp 48) 22 22 rfl _ _ rfl rfl _ w2 (by exact Q5.out) ?_ | refine wpList_app' rfl (.tmp 50) (.tmp 53) 34 34 rfl _ _ rfl rfl _ w3 (by exact Q6.out) ?_ | refine wpList_app' rfl (.tmp 55) (.tmp 60) 28 28 rfl _ _ rfl rfl _ w4 (by exact Q7.out) ?_)
        go_roundg g
        case measure => omega
        case rel => exact ⟨i + 1, A5', n5', c5', A6', n6', c6', A7', n7', c7', by omega, by first | rfl | simp, rfl, rfl, rfl, HZ2, HG4⟩
      · have HW : Hid (wrapP x 255 = ([], 13)) := Lib.hid (by unfold wrapP; rw [hlim, if_pos (by omega)])
        have HXL := Lib.hid hxl
        have hxl2 : ¬ (x.length : Int) ≤ 255 := by omega
        clear hlim
        go_wp2_with fail
        refine (wrap_any _ _ x 255 wr HRB.out).mono ?_
        rintro e w1 ⟨a1, rfl, r1, g1⟩
        rw [HW.out] at r1 ⊢
        simp only at r1 ⊢
        have hc1 := cellB g1 hcell
        have HG1 := Lib.hid (HG.out.trans g1)
        have HZ2 : Hid (Z w.heap.size (fits (L.take (i + 1))) A5 n5 c5 A6 n6 c6 A7 n7 c7 w1) := Lib.hid (by rw [HFT.out, if_neg HXL.out]; exact HZ.out.grew g1)
        clear r1 g1 hxl
        go_wp2
        go_roundg g
        case measure => omega
        case rel => exact ⟨i + 1, A5, n5, c5, A6, n6, c6, A7, n7, c7, by omega, by first | rfl | simp, rfl, rfl, rfl, HZ2, HG1⟩
end Go.Proofs.Ytbdlpmaigbbpaaa.FB3
