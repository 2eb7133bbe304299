/-
  What comes of posting any order to any list is told.
  Conditions: those that each lemma names.
-/
import Derived.Test.YtmnfajplfnfgpaaOPO
import Derived.Test.YtmnfajplfnfgpaaOQ
import Derived.Test.YtmnfajplfnfgpaaOV
import Derived.Lib.Hide
import Derived.Deep.AppendLies
namespace Go.Proofs.Ytmnfajplfnfgpaa.OPL
set_option maxRecDepth 100000
open Go Go.RowKit Go.Lib Go.Proofs.Ytmnfajplfnfgpaa Go.Proofs.Ytmnfajplfnfgpaa.Facts Go.Proofs.Ytmnfajplfnfgpaa.Ints Go.Proofs.Ytmnfajplfnfgpaa.PA Go.Proofs.Ytmnfajplfnfgpaa.UM Go.Proofs.Ytmnfajplfnfgpaa.UB Go.Proofs.Ytmnfajplfnfgpaa.OA Go.Proofs.Ytmnfajplfnfgpaa.OP Go.Proofs.Ytmnfajplfnfgpaa.BP Go.Proofs.Ytmnfajplfnfgpaa.BQ Go.Proofs.Ytmnfajplfnfgpaa.OB Go.Proofs.Ytmnfajplfnfgpaa.OC Go.Proofs.Ytmnfajplfnfgpaa.OD Go.Proofs.Ytmnfajplfnfgpaa.OE Go.Proofs.Ytmnfajplfnfgpaa.OF Go.Proofs.Ytmnfajplfnfgpaa.OG Go.Proofs.Ytmnfajplfnfgpaa.OK Go.Proofs.Ytmnfajplfnfgpaa.OQ Go.Proofs.Ytmnfajplfnfgpaa.OLA Go.Proofs.Ytmnfajplfnfgpaa.OPB Go.Proofs.Ytmnfajplfnfgpaa.OPO Go.Proofs.Ytmnfajplfnfgpaa.ON Go.Proofs.Ytmnfajplfnfgpaa.OV Go.Proofs.Ytmnfajplfnfgpaa.Bytes


theorem ord_appv (W : World) (base : Nat) (v v2 : Value) (l m : List Or) (hown : OwnO W base v l) (h : Ors W v2 m) (hl : (l.length + m.length) * 80 ≤ 140737488355328) (hb : base ≤ W.heap.size) :
    ∃ v' w', (Builtin.append_ #[22, 22] 22 #[v, v2]).run Try.prog W = .ok v' w' ∧ OwnO w' base v' (l ++ m) ∧ Below base W w' := by
  obtain ⟨A, c, rfl, h1, h2, h3, h4⟩ := h
  cases A with
  | none =>
    have h0 := h3 rfl
    have hn : m = [] := List.eq_nil_of_length_eq_zero (by omega)
    subst hn
    subst h0
    obtain ⟨i0, hi, hx⟩ := Option.map_eq_some_iff.1 info26
    exact ⟨v, W, run_append_owned_none W base 22 22 26 i0 10 Try.underlying22 hi v _ _ hown, by rw [List.append_nil]; exact hown, Below.refl _ _⟩
  | some ad => exact ord_app W base v l m ad c hown (fun j u hu => h4 ad rfl j u hu) hl hb
theorem fill_fl (l : List Or) : ∀ (S : List Nat) (now : List Or) (o : Or) (fs : List Fi), (fillP l S now o fs).2.1.length ≤ fs.length + S.length
  | [], _, _, _ => Nat.le_refl _
  | i :: r, now, o, fs => by
    rw [fillP]
    split
    · exact Nat.le_add_right _ _
    · refine Nat.le_trans (fill_fl l r _ _ _) ?_
      rw [List.length_append, List.length_cons, List.length_cons, List.length_nil]
      omega
theorem post_sizes {l : List Or} {o : Or} {S : List Nat} (hS : (postP l o S).err = 0 → Srt l o S) : (postP l o S).now.length ≤ l.length ∧ (postP l o S).fills.length ≤ l.length := by
  by_cases h : rightO l = true ∧ mayO o = true ∧ takenB l o = false
  · by_cases hf : ordfree l = -1
    · rw [post_full l o S h hf]; exact ⟨Nat.zero_le _, Nat.zero_le _⟩
    · have he := post_ok l o S h hf
      have h0 : (postP l o S).err = 0 := by rw [he]; unfold restP; split <;> rfl
      have hs := (hS h0).perm.length_eq
      have hm : (metL l o).length ≤ l.length := Nat.le_trans (List.length_filter_le _ _) (by rw [List.length_range]; exact Nat.le_refl _)
      have h1 := fill_fl l S l o []
      have h2 := fill_len l S l o []
      rw [he]
      unfold restP
      rw [List.length_nil] at h1
      split
      · exact ⟨by simp only; omega, by simp only; omega⟩
      · exact ⟨by simp only [List.length_set]; omega, by simp only; omega⟩
  · rw [post_arg l o S h]; exact ⟨Nat.zero_le _, Nat.zero_le _⟩
set_option maxHeartbeats 8000000 in
theorem law (v : Value) (l : List Or) (o : Or) (w : World) (h : Ors w v l) (hs : ∀ x ∈ l, WfO x) (ho : WfO o) : Calls Try.prog 4 #[v, orv o] w fun e w' => e = .returned (.bool true) ∧ Grew w w' := by
  have HL := Lib.hid h
  have HAL := Lib.hid alive_any
  by_cases hlen : l.length ≤ 100
  · have HP := Lib.hid (fun W (hg : Grew w W) => post_any v l o W (h.grew hg) (by omega) hs ho)
    have HQ := Lib.hid (fun W S (hS : (postP l o S).err = 0 → Srt l o S) (hg : Grew w W) => rpost_any v l o S W (h.grew hg) (by omega) hs ho hS)
    have HM := Lib.hid (fun W => may_any o ho.1 W)
    have HRM := Lib.hid (fun W => rmay_any o ho.1 W)
    have HSZ := Lib.hid (fun S hS => post_sizes (l := l) (o := o) (S := S) hS)
    have HS1 := Lib.hid (fun W v1 (hg : Grew w W) (h1 : Ors W v1 l) => same_any v v1 l W (h.grew hg) h1 (by omega))
    have HLN := Lib.hid hlen
    obtain ⟨A, c, rfl, _⟩ := h.slice
    have hl1 : ¬ (100 : Int) < (l.length : Int) := by omega
    have G0 : Hid (Grew w (w.alloc (.cells (ocs o).toArray 26))) := Lib.hid (by unfold Grew; go_grown)
    have B0 := Lib.hid (blk_new w (.cells (ocs o).toArray 26))
    obtain ⟨vw, w1, hr, hown, hb⟩ := ord_appv (w.alloc (.cells (ocs o).toArray 26)) (w.alloc (.cells (ocs o).toArray 26)).heap.size (.slice none 0 0) _ [] l (World.ownsRow_nil _ _ 26 10) (h.grew G0.out) (by simp only [List.length_nil]; omega) (Nat.le_refl _)
    rw [List.nil_append] at hown
    have HW := Lib.hid (Ors.of_own hown)
    obtain ⟨A1, c1, rfl, _⟩ := (Ors.of_own hown).slice
    have HAPP := Lib.hid hr
    have G1 := Lib.hid (G0.out.trans (show Grew _ w1 from hb))
    have B1 := Lib.hid (keepB B0.out (show Grew _ w1 from hb))
    clear h hs ho hlen hr hown hb
    generalize mayO o = my at *
    have hbb : (my == my) = true := by cases my <;> rfl
    obtain ⟨us, lb, wh, sd, bs, qt, pr, lf, rs, sq⟩ := o
    unfold orv ocs at *
    simp only at *
    go_enter Try.func4, Try.ntmps4
    obtain ⟨c0, c1', c2, c3, c4, c5, c6, c7, c8, c9⟩ := ten_c B1.out
    go_wp2_with (at_builtin; refine wpList_app_want (.tmp 20) (.tmp 21) 22 (by rfl) (by rfl) _ _ rfl rfl _ w1 (by exact HAPP.out) ?_)
    refine (HP.out _ G1.out).mono ?_
    rintro e w2 ⟨S, v1, v2, hS, _, rfl, hO, hF, hg⟩
    have HSS := Lib.hid (HSZ.out S hS)
    have HQ2 := Lib.hid (fun W hg => HQ.out W S hS hg)
    clear hS HSZ HQ HP HAPP
    generalize postP l ⟨us, lb, wh, sd, bs, qt, pr, lf, rs, sq⟩ S = PP at *
    obtain ⟨now, fs, ak, sur, err⟩ := PP
    simp only at hO hF HSS ⊢
    obtain ⟨A2, k2, rfl, _⟩ := hO.slice
    obtain ⟨A3, k3, rfl, _⟩ := hF.slice
    have G2 := Lib.hid (G1.out.trans hg)
    have B2 := Lib.hid (keepB B1.out hg)
    have W2 := Lib.hid (HW.out.grew hg)
    have O2 := Lib.hid hO
    have F2 := Lib.hid hF
    clear hO hF hg c0 c1' c2 c3 c4 c5 c6 c7 c8 c9 G0 G1 B0 B1 HW
    obtain ⟨c0, c1', c2, c3, c4, c5, c6, c7, c8, c9⟩ := ten_c B2.out
    unfold AnsR at HQ2
    simp only at HQ2
    go_wp2_with fail
    refine (HQ2.out _ G2.out).mono ?_
    rintro e w3 ⟨v3, v4, rfl, hO, hF, hg⟩
    obtain ⟨A4, k4, rfl, _⟩ := hO.slice
    obtain ⟨A5, k5, rfl, _⟩ := hF.slice
    have G3 := Lib.hid (G2.out.trans hg)
    have B3 := Lib.hid (keepB B2.out hg)
    have W3 := Lib.hid (W2.out.grew hg)
    have O3 := Lib.hid (O2.out.grew hg)
    have F3 := Lib.hid (Rw.grew F2.out hg)
    have P3 := Lib.hid hO
    have R3 := Lib.hid hF
    clear hO hF hg c0 c1' c2 c3 c4 c5 c6 c7 c8 c9 G2 B2 W2 O2 F2 HQ2
    have HC := Lib.hid (fun W (hg : Grew w3 W) => same_any _ _ now W (O3.out.grew hg) (P3.out.grew hg) (by have := HSS.out.1; have := HLN.out; omega))
    have HD := Lib.hid (fun W (hg : Grew w3 W) => sameF_any _ _ fs W (Rw.grew F3.out hg) (Rw.grew R3.out hg) (by have := HSS.out.2; have := HLN.out; omega))
    have HE := Lib.hid (fun W (hg : Grew w3 W) => HS1.out W _ (G3.out.trans hg) (W3.out.grew hg))
    obtain ⟨c0, c1', c2, c3, c4, c5, c6, c7, c8, c9⟩ := ten_c B3.out
    clear W3 O3 F3 P3 R3 HS1 HSS HLN
    go_wp2
    refine Facts.wp_region_text (by kernel_rfl) (by kernel_rfl) ?_
    apply Facts.Lex.exact [] _ (by kernel_rfl)
    · intro u W hC _
      unfold Facts.one
      go_simp
      exact ((HAL.out W).mono fun e w' ⟨he, hg⟩ => ⟨_, he, hg, rfl⟩)
    simp only [Act.put, List.setIfInBounds_toArray, List.set_cons_zero, List.set_cons_succ, Nat.zero_add]
    apply Facts.Lex.exact [] _ (by kernel_rfl)
    · intro u W hC _
      unfold Facts.one
      go_simp
      first | exact ⟨Grew.refl _, rfl⟩ | rfl
    simp only [Act.put, List.setIfInBounds_toArray, List.set_cons_zero, List.set_cons_succ, Nat.reduceAdd]
    apply Facts.Lex.exact [] _ (by kernel_rfl)
    · intro u W hC _
      have j0 := cellG hC c0
      have j1 := cellG hC c1'
      have j2 := cellG hC c2
      have j3 := cellG hC c3
      have j4 := cellG hC c4
      have j5 := cellG hC c5
      have j6 := cellG hC c6
      have j7 := cellG hC c7
      have j8 := cellG hC c8
      have j9 := cellG hC c9
      unfold Facts.one
      go_simp
      first | exact ⟨Grew.refl _, rfl⟩ | rfl
    simp only [Act.put, List.setIfInBounds_toArray, List.set_cons_zero, List.set_cons_succ, Nat.reduceAdd]
    apply Facts.Lex.exact [] _ (by kernel_rfl)
    · intro u W hC _
      unfold Facts.one
      go_simp
      exact ((HM.out W).mono fun e w' ⟨he, hg⟩ => ⟨_, he, hg, rfl⟩)
    simp only [Act.put, List.setIfInBounds_toArray, List.set_cons_zero, List.set_cons_succ, Nat.reduceAdd]
    apply Facts.Lex.exact [] _ (by kernel_rfl)
    · intro u W hC _
      have j0 := cellG hC c0
      have j1 := cellG hC c1'
      have j2 := cellG hC c2
      have j3 := cellG hC c3
      have j4 := cellG hC c4
      have j5 := cellG hC c5
      have j6 := cellG hC c6
      have j7 := cellG hC c7
      have j8 := cellG hC c8
      have j9 := cellG hC c9
      unfold Facts.one
      go_simp
      first | exact ⟨Grew.refl _, rfl⟩ | rfl
    simp only [Act.put, List.setIfInBounds_toArray, List.set_cons_zero, List.set_cons_succ, Nat.reduceAdd]
    apply Facts.Lex.exact [] _ (by kernel_rfl)
    · intro u W hC _
      unfold Facts.one
      go_simp
      exact ((HRM.out W).mono fun e w' ⟨he, hg⟩ => ⟨_, he, hg, rfl⟩)
    simp only [Act.put, List.setIfInBounds_toArray, List.set_cons_zero, List.set_cons_succ, Nat.reduceAdd]
    apply Facts.Lex.exact [] _ (by kernel_rfl)
    · intro u W hC _
      unfold Facts.one
      go_simp
      first | exact ⟨Grew.refl _, rfl⟩ | rfl
    simp only [Act.put, List.setIfInBounds_toArray, List.set_cons_zero, List.set_cons_succ, Nat.reduceAdd]
    apply Facts.Lex.exact [] _ (by kernel_rfl)
    · intro u W hC _
      unfold Facts.one
      go_simp
      first | exact ⟨Grew.refl _, rfl⟩ | rfl
    simp only [Act.put, List.setIfInBounds_toArray, List.set_cons_zero, List.set_cons_succ, Nat.reduceAdd]
    apply Facts.Lex.exact [] _ (by kernel_rfl)
    · intro u W hC _
      unfold Facts.one
      go_simp
      first | exact ⟨Grew.refl _, rfl⟩ | rfl
    simp only [Act.put, List.setIfInBounds_toArray, List.set_cons_zero, List.set_cons_succ, Nat.reduceAdd]
    apply Facts.Lex.exact [] _ (by kernel_rfl)
    · intro u W hC _
      unfold Facts.one
      go_simp
      first | exact ⟨Grew.refl _, rfl⟩ | rfl
    simp only [Act.put, List.setIfInBounds_toArray, List.set_cons_zero, List.set_cons_succ, Nat.reduceAdd]
    apply Facts.Lex.exact [] _ (by kernel_rfl)
    · intro u W hC _
      unfold Facts.one
      go_simp
      first | exact ⟨Grew.refl _, rfl⟩ | rfl
    simp only [Act.put, List.setIfInBounds_toArray, List.set_cons_zero, List.set_cons_succ, Nat.reduceAdd]
    apply Facts.Lex.exact [] _ (by kernel_rfl)
    · intro u W hC _
      unfold Facts.one
      go_simp
      exact ((HC.out W hC).mono fun e w' ⟨he, hg⟩ => ⟨_, he, hg, rfl⟩)
    simp only [Act.put, List.setIfInBounds_toArray, List.set_cons_zero, List.set_cons_succ, Nat.reduceAdd]
    apply Facts.Lex.exact [] _ (by kernel_rfl)
    · intro u W hC _
      unfold Facts.one
      go_simp
      first | exact ⟨Grew.refl _, rfl⟩ | rfl
    simp only [Act.put, List.setIfInBounds_toArray, List.set_cons_zero, List.set_cons_succ, Nat.reduceAdd]
    apply Facts.Lex.exact [] _ (by kernel_rfl)
    · intro u W hC _
      unfold Facts.one
      go_simp
      first | exact ⟨Grew.refl _, rfl⟩ | rfl
    simp only [Act.put, List.setIfInBounds_toArray, List.set_cons_zero, List.set_cons_succ, Nat.reduceAdd]
    apply Facts.Lex.exact [] _ (by kernel_rfl)
    · intro u W hC _
      unfold Facts.one
      go_simp
      first | exact ⟨Grew.refl _, rfl⟩ | rfl
    simp only [Act.put, List.setIfInBounds_toArray, List.set_cons_zero, List.set_cons_succ, Nat.reduceAdd]
    apply Facts.Lex.exact [] _ (by kernel_rfl)
    · intro u W hC _
      unfold Facts.one
      go_simp
      first | exact ⟨Grew.refl _, rfl⟩ | rfl
    simp only [Act.put, List.setIfInBounds_toArray, List.set_cons_zero, List.set_cons_succ, Nat.reduceAdd]
    apply Facts.Lex.exact [] _ (by kernel_rfl)
    · intro u W hC _
      unfold Facts.one
      go_simp
      exact ((HD.out W hC).mono fun e w' ⟨he, hg⟩ => ⟨_, he, hg, rfl⟩)
    simp only [Act.put, List.setIfInBounds_toArray, List.set_cons_zero, List.set_cons_succ, Nat.reduceAdd]
    apply Facts.Lex.exact [] _ (by kernel_rfl)
    · intro u W hC _
      unfold Facts.one
      go_simp
      first | exact ⟨Grew.refl _, rfl⟩ | rfl
    simp only [Act.put, List.setIfInBounds_toArray, List.set_cons_zero, List.set_cons_succ, Nat.reduceAdd]
    apply Facts.Lex.exact [] _ (by kernel_rfl)
    · intro u W hC _
      unfold Facts.one
      go_simp
      first | exact ⟨Grew.refl _, rfl⟩ | rfl
    simp only [Act.put, List.setIfInBounds_toArray, List.set_cons_zero, List.set_cons_succ, Nat.reduceAdd]
    apply Facts.Lex.exact [] _ (by kernel_rfl)
    · intro u W hC _
      unfold Facts.one
      go_simp
      first | exact ⟨Grew.refl _, rfl⟩ | rfl
    simp only [Act.put, List.setIfInBounds_toArray, List.set_cons_zero, List.set_cons_succ, Nat.reduceAdd]
    apply Facts.Lex.exact [] _ (by kernel_rfl)
    · intro u W hC _
      unfold Facts.one
      go_simp
      first | exact ⟨Grew.refl _, rfl⟩ | rfl
    simp only [Act.put, List.setIfInBounds_toArray, List.set_cons_zero, List.set_cons_succ, Nat.reduceAdd]
    apply Facts.Lex.exact [] _ (by kernel_rfl)
    · intro u W hC _
      unfold Facts.one
      go_simp
      first | exact ⟨Grew.refl _, rfl⟩ | rfl
    simp only [Act.put, List.setIfInBounds_toArray, List.set_cons_zero, List.set_cons_succ, Nat.reduceAdd]
    apply Facts.Lex.exact [] _ (by kernel_rfl)
    · intro u W hC _
      unfold Facts.one
      go_simp
      first | exact ⟨Grew.refl _, rfl⟩ | rfl
    simp only [Act.put, List.setIfInBounds_toArray, List.set_cons_zero, List.set_cons_succ, Nat.reduceAdd]
    apply Facts.Lex.exact [] _ (by kernel_rfl)
    · intro u W hC _
      unfold Facts.one
      go_simp
      first | exact ⟨Grew.refl _, rfl⟩ | rfl
    simp only [Act.put, List.setIfInBounds_toArray, List.set_cons_zero, List.set_cons_succ, Nat.reduceAdd]
    apply Facts.Lex.exact [] _ (by kernel_rfl)
    · intro u W hC _
      unfold Facts.one
      go_simp
      first | exact ⟨Grew.refl _, rfl⟩ | rfl
    simp only [Act.put, List.setIfInBounds_toArray, List.set_cons_zero, List.set_cons_succ, Nat.reduceAdd]
    apply Facts.Lex.exact [] _ (by kernel_rfl)
    · intro u W hC _
      unfold Facts.one
      go_simp
      first | exact ⟨Grew.refl _, rfl⟩ | rfl
    simp only [Act.put, List.setIfInBounds_toArray, List.set_cons_zero, List.set_cons_succ, Nat.reduceAdd]
    apply Facts.Lex.exact [] _ (by kernel_rfl)
    · intro u W hC _
      unfold Facts.one
      go_simp
      first | exact ⟨Grew.refl _, rfl⟩ | rfl
    simp only [Act.put, List.setIfInBounds_toArray, List.set_cons_zero, List.set_cons_succ, Nat.reduceAdd]
    apply Facts.Lex.exact [] _ (by kernel_rfl)
    · intro u W hC _
      unfold Facts.one
      go_simp
      first | exact ⟨Grew.refl _, rfl⟩ | rfl
    simp only [Act.put, List.setIfInBounds_toArray, List.set_cons_zero, List.set_cons_succ, Nat.reduceAdd]
    apply Facts.Lex.exact [] _ (by kernel_rfl)
    · intro u W hC _
      unfold Facts.one
      go_simp
      first | exact ⟨Grew.refl _, rfl⟩ | rfl
    simp only [Act.put, List.setIfInBounds_toArray, List.set_cons_zero, List.set_cons_succ, Nat.reduceAdd]
    apply Facts.Lex.exact [] _ (by kernel_rfl)
    · intro u W hC _
      unfold Facts.one
      go_simp
      first | exact ⟨Grew.refl _, rfl⟩ | rfl
    simp only [Act.put, List.setIfInBounds_toArray, List.set_cons_zero, List.set_cons_succ, Nat.reduceAdd]
    apply Facts.Lex.exact [] _ (by kernel_rfl)
    · intro u W hC _
      unfold Facts.one
      go_simp
      first | exact ⟨Grew.refl _, rfl⟩ | rfl
    simp only [Act.put, List.setIfInBounds_toArray, List.set_cons_zero, List.set_cons_succ, Nat.reduceAdd]
    apply Facts.Lex.exact [] _ (by kernel_rfl)
    · intro u W hC _
      unfold Facts.one
      go_simp
      first | exact ⟨Grew.refl _, rfl⟩ | rfl
    simp only [Act.put, List.setIfInBounds_toArray, List.set_cons_zero, List.set_cons_succ, Nat.reduceAdd]
    apply Facts.Lex.exact [] _ (by kernel_rfl)
    · intro u W hC _
      unfold Facts.one
      go_simp
      first | exact ⟨Grew.refl _, rfl⟩ | rfl
    simp only [Act.put, List.setIfInBounds_toArray, List.set_cons_zero, List.set_cons_succ, Nat.reduceAdd]
    apply Facts.Lex.exact [] _ (by kernel_rfl)
    · intro u W hC _
      unfold Facts.one
      go_simp
      first | exact ⟨Grew.refl _, rfl⟩ | rfl
    simp only [Act.put, List.setIfInBounds_toArray, List.set_cons_zero, List.set_cons_succ, Nat.reduceAdd]
    apply Facts.Lex.exact [] _ (by kernel_rfl)
    · intro u W hC _
      unfold Facts.one
      go_simp
      first | exact ⟨Grew.refl _, rfl⟩ | rfl
    simp only [Act.put, List.setIfInBounds_toArray, List.set_cons_zero, List.set_cons_succ, Nat.reduceAdd]
    apply Facts.Lex.exact [] _ (by kernel_rfl)
    · intro u W hC _
      unfold Facts.one
      go_simp
      first | exact ⟨Grew.refl _, rfl⟩ | rfl
    simp only [Act.put, List.setIfInBounds_toArray, List.set_cons_zero, List.set_cons_succ, Nat.reduceAdd]
    apply Facts.Lex.exact [] _ (by kernel_rfl)
    · intro u W hC _
      unfold Facts.one
      go_simp
      exact ((HE.out W hC).mono fun e w' ⟨he, hg⟩ => ⟨_, he, hg, rfl⟩)
    simp only [Act.put, List.setIfInBounds_toArray, List.set_cons_zero, List.set_cons_succ, Nat.reduceAdd]
    apply Facts.Lex.exact [] _ (by kernel_rfl)
    · intro u W hC _
      unfold Facts.one
      go_simp
      first | exact ⟨Grew.refl _, rfl⟩ | rfl
    simp only [Act.put, List.setIfInBounds_toArray, List.set_cons_zero, List.set_cons_succ, Nat.reduceAdd]
    apply Facts.Lex.exact [] _ (by kernel_rfl)
    · intro u W hC _
      unfold Facts.one
      go_simp
      first | exact ⟨Grew.refl _, rfl⟩ | rfl
    simp only [Act.put, List.setIfInBounds_toArray, List.set_cons_zero, List.set_cons_succ, Nat.reduceAdd]
    refine Facts.Lex.done fun u W2 hC hL => ?_
    have G9 := Lib.hid (G3.out.trans hC)
    clear hC hL
    go_wp2
    go_returns
    exact ⟨by first | rfl | simp, G9.out⟩
  · have hl1 : (100 : Int) < (l.length : Int) := by omega
    obtain ⟨A, c, rfl, _⟩ := h.slice
    obtain ⟨us, lb, wh, sd, bs, qt, pr, lf, rs, sq⟩ := o
    unfold orv
    simp only
    have G0 : Hid (Grew w (w.alloc (.cells #[.bool us, .int .i64 lb, .int .i64 wh, .int .i64 sd, .int .i64 bs, .int .i64 qt, .int .u64 (pr : Int), .int .u64 (lf : Int), .int .u64 (rs : Int), .int .i64 sq] 26))) := Lib.hid (by unfold Grew; go_grown)
    clear h hs ho hlen HL
    go_enter Try.func4, Try.ntmps4
    go_wp2_with fail
    refine (HAL.out _).mono ?_
    rintro e w1 ⟨rfl, hg⟩
    have G1 := Lib.hid (G0.out.trans hg)
    clear hg
    go_wp2
    go_returns
    exact ⟨rfl, G1.out⟩
end Go.Proofs.Ytmnfajplfnfgpaa.OPL
