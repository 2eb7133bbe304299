/-
  PostKeeps: a letter that was put stays.
  Conditions: those that each lemma names.
-/
import Derived.Test.YtcbaaeihppchiaaPJ
import Derived.Deep.DeepCutAuto
import Derived.Deep.CutBlock
import Derived.IntWalk
namespace Go.Proofs.Ytcbaaeihppchiaa.PK
set_option maxRecDepth 100000
open Go Go.RowKit Go.Lib Go.Proofs.Ytcbaaeihppchiaa Go.Proofs.Ytcbaaeihppchiaa.Facts Go.Proofs.Ytcbaaeihppchiaa.Ints Go.Proofs.Ytcbaaeihppchiaa.PA Go.Proofs.Ytcbaaeihppchiaa.PB Go.Proofs.Ytcbaaeihppchiaa.Chars Go.Proofs.Ytcbaaeihppchiaa.PD Go.Proofs.Ytcbaaeihppchiaa.PE Go.Proofs.Ytcbaaeihppchiaa.PF Go.Proofs.Ytcbaaeihppchiaa.PG Go.Proofs.Ytcbaaeihppchiaa.PJ Go.Proofs.Ytcbaaeihppchiaa.Bytes


def MkM (m : Nat) (v : Value) (w : World) : Prop := ∃ A, v = .slice A m m ∧ Mls w (.slice A m m) (List.replicate m zml)
theorem MkM.grew {m : Nat} {v : Value} {w w' : World} (h : MkM m v w) (hg : Grew w w') : MkM m v w' := by
  obtain ⟨A, e, h⟩ := h
  exact ⟨A, e, h.grew hg⟩
theorem ans3_sl {r : List Ml × Int × Int} {w w' : World} {e : Ending} (h : Ans3 r w e w') : ∃ A c, e = .returned (.tuple #[.slice A r.1.length c, .int .i64 r.2.1, .int .i64 r.2.2]) ∧ Mls w' (.slice A r.1.length c) r.1 ∧ Grew w w' := by
  obtain ⟨v', e1, hi, hg⟩ := h
  obtain ⟨A, c, e2, _⟩ := hi.slice
  subst e2
  exact ⟨A, c, e1, hi, hg⟩
theorem stays_row {W : World} {A : Option Addr} {c m B k : Nat} {u0 : Bool} {b1 b2 b3 b4 : Value} {R : List Ml} (h : Mls W (.slice A m c) R) (hb : W.heap[B]? = some (.cells #[.bool u0, b1, b2, b3, b4] 23 (0, 0))) (hk : k < R.length) (hu : (em R k).used = true) : Mls (W.setCell ⟨B, 0, none⟩ (.bool true)) (.slice A m c) R := by
  obtain ⟨A', c', e, h1, h2, h3, h4⟩ := h
  refine ⟨A', c', e, h1, h2, h3, fun ad ha j u hj => ?_⟩
  by_cases hne : ad.add j = ⟨B, 0, none⟩
  · have hold := h4 ad ha j u hj
    rw [hne] at hold ⊢
    rw [World.cell?_setCell_same _ _ _ (five_c hb).1]
    rw [(five_c hb).1] at hold
    have hj0 : j = 0 := by
      by_cases h0 : j = 0
      · exact h0
      · have := congrArg Addr.off hne
        simp only [Addr.add, if_neg h0] at this
        omega
    subst hj0
    have hk0 : k = 0 := by
      by_cases hk0 : k = 0
      · exact hk0
      · exfalso
        have h5 := h4 ad ha (1 * 5 + 0) _ (flat_get mcs 5 (fun _ => rfl) R 1 0 (em R 1) (em_get (by omega)) (by decide))
        rw [show ad.add (1 * 5 + 0) = ⟨B, 5, none⟩ by
          have : ad.add 0 = ad := by simp [Addr.add]
          rw [this] at hne
          rw [hne]
          simp [Addr.add]] at h5
        rw [cell_of_row _ _ _ _ _ _ hb] at h5
        simp at h5
    subst hk0
    have h0 := flat_get mcs 5 (fun _ => rfl) R 0 0 (em R 0) (em_get hk) (by decide)
    rw [Nat.zero_mul, Nat.zero_add] at h0
    rw [h0] at hj
    simp only [mcs, List.getElem?_cons_zero, hu, Option.some.injEq] at hj
    rw [hj]
  · rw [World.cell?_setCell_other]
    · exact h4 ad ha j u hj
    · first | exact hne | exact fun e => hne e.symm
def Tup2 (er : Int) (R : List Ml) (v : Value) (w : World) : Prop := ∃ v', v = .tuple #[v', .int .i64 er] ∧ Mls w v' R
set_option maxHeartbeats 8000000 in
theorem law (k0 : Nat) (h255 : k0 ≤ 255) (ml : Ml) (vl : Value) (L : List Ml) (vs : Value) (S : List Int) (w : World) (hms : ml.text.size ≤ 9223372036854775807) (hL : Mls w vl L) (hzL : SzM L) (hS : Is w vs S) :
    Calls Try.prog 3 #[.int .u8 (k0 : Int), mlv ml, vl, vs] w fun e w' => e = .returned (.bool true) ∧ Grew w w' := by
  have HA := Lib.hid alive_any
  have HL := Lib.hid hL
  have HZL := Lib.hid hzL
  have HS := Lib.hid hS
  obtain ⟨AL, cL, rfl, hcL, hcM⟩ := hL.slice
  obtain ⟨AS, cS, rfl, hcS, hcN⟩ := Is.slice hS
  obtain ⟨m, hm⟩ : ∃ m, m = k0 % 13 := ⟨_, rfl⟩
  have hm12 : m ≤ 12 := by omega
  have HREM : Hid (Int.tmod (k0 : Int) 13 = (m : Int)) := Lib.hid (by rw [hm]; rfl)
  have HWC : Hid (IntKind.i64.wrap (k0 : Int) = (k0 : Int)) := Lib.hid (IntWalk.i64_in _ (by omega))
  have HMK := Lib.hid (fun W => mk_ml m (by omega) W)
  have HM12 := Lib.hid hm12
  have HPUT := Lib.hid (fun W v (h : Mls W v (List.replicate m zml)) => put_any v _ ml W h (SzM_zero m) (by rw [List.length_replicate]; omega) hms)
  have HPC := Lib.hid (put_cases (List.replicate m zml) ml (okMs_zero m))
  have HMS := Lib.hid hms
  obtain ⟨u0, lab, frm, rc, s⟩ := ml
  unfold mlv at HPUT ⊢
  simp only at HPUT HMS ⊢
  have g0 : Grew w (w.alloc (.cells #[.bool u0, .int .i64 lab, .int .i64 frm, .int .i64 rc, .string s] 23)) := by unfold Grew; go_grown
  have B0 := blk_new w (.cells #[.bool u0, .int .i64 lab, .int .i64 frm, .int .i64 rc, .string s] 23)
  obtain ⟨e0, e1, e2, e3, e4⟩ := five_c B0
  have E0 := Lib.hid e0
  have E1 := Lib.hid e1
  have E2 := Lib.hid e2
  have E3 := Lib.hid e3
  have E4 := Lib.hid e4
  have HB0 := Lib.hid B0
  have G0 := Lib.hid g0
  have hm0 : 13 ≠ (0 : Int) := by decide
  clear hm hm12 hcL hcM hcS hcN hL hzL hS hms g0 B0 e0 e1 e2 e3 e4 hm0
  rcases HPC.out with ⟨er, her, hp⟩ | ⟨k, hk, hku, hnm, hp, hok⟩
  · rw [hp] at HPUT
    unfold Ans3 at HPUT
    simp only at HPUT
    obtain ⟨R, hR⟩ : ∃ R : List Ml, R = [] := ⟨_, rfl⟩
    obtain ⟨ki, hki⟩ : ∃ ki : Int, ki = 0 := ⟨_, rfl⟩
    rw [← hR, ← hki] at HPUT
    have HR := Lib.hid hR
    have hne : (er == 0) = false := by simpa using her
    have hne2 : (er != 0) = true := by simp [her]
    have HE1 := Lib.hid hne
    have HE2 := Lib.hid hne2
    have hne3 : ¬ er = 0 := her
    have HE3 := Lib.hid hne3
    clear hp hR hki hne hne2 hne3 her HPC
    go_enter Try.func3, Try.ntmps3
    go_wp2
    refine Facts.wp_region_text (by kernel_rfl) (by kernel_rfl) ?_
    apply Facts.Lex.exact [] _ (by kernel_rfl)
    · intro u W hC hK
      clear hK
      unfold Facts.one
      go_simp
      first | exact ⟨Grew.refl _, rfl⟩ | rfl
    simp only [Act.put, List.setIfInBounds_toArray, List.set_cons_zero, List.set_cons_succ, Nat.zero_add, Nat.reduceAdd]
    apply Facts.Lex.exact [] (.int .i64 k0) (by kernel_rfl)
    · intro u W hC hK
      clear hK
      have hwc := HWC.out
      unfold Facts.one
      go_simp
      first | exact ⟨Grew.refl _, rfl⟩ | rfl
    simp only [Act.put, List.setIfInBounds_toArray, List.set_cons_zero, List.set_cons_succ, Nat.zero_add, Nat.reduceAdd]
    apply Facts.Lex.exact [] (.int .i64 m) (by kernel_rfl)
    · intro u W hC hK
      clear hK
      have hrem := HREM.out
      unfold Facts.one
      go_simp
      first | exact ⟨Grew.refl _, rfl⟩ | rfl
    simp only [Act.put, List.setIfInBounds_toArray, List.set_cons_zero, List.set_cons_succ, Nat.zero_add, Nat.reduceAdd]
    refine Facts.Lex.know [] (MkM m) (by kernel_rfl) (fun _ _ _ h hg => h.grew hg) ?_ ?_
    · intro u W hC hK
      clear hK
      have hmk := HMK.out W
      unfold Facts.one
      go_simp
      exact ⟨by unfold Grew; go_grown, ⟨_, rfl, (by have h := ml_made1 W (List.replicate m zml) (by rw [List.length_replicate]; have := HM12.out; omega); rw [List.length_replicate] at h; exact h)⟩⟩
    simp only [Act.put, List.setIfInBounds_toArray, List.set_cons_zero, List.set_cons_succ, Nat.zero_add, Nat.reduceAdd]
    apply Facts.Lex.exact [] (.agg #[.bool u0, .int .i64 lab, .int .i64 frm, .int .i64 rc, .string s]) (by kernel_rfl)
    · intro u W hC hK
      clear hK
      have j0 := cellG hC E0.out
      have j1 := cellG hC E1.out
      have j2 := cellG hC E2.out
      have j3 := cellG hC E3.out
      have j4 := cellG hC E4.out
      unfold Facts.one
      go_simp
      first | exact ⟨Grew.refl _, rfl⟩ | rfl
    simp only [Act.put, List.setIfInBounds_toArray, List.set_cons_zero, List.set_cons_succ, Nat.zero_add, Nat.reduceAdd]
    refine Facts.Lex.know [3] (TupM ki er R) (by kernel_rfl) (fun _ _ _ ⟨r, e, h⟩ hg => ⟨r, e, h.grew hg⟩) ?_ ?_
    · intro u W hC hK
      obtain ⟨A3, hA3, hi⟩ : MkM m (u 3) W := hK.1
      have HC9 := Lib.hid (HPUT.out W _ hi)
      clear hK hi
      unfold Facts.one
      go_simp
      try simp only [hA3]
      refine HC9.out.mono ?_
      rintro e w' ⟨v', rfl, hi, hg⟩
      exact ⟨_, rfl, hg, ⟨v', rfl, hi⟩⟩
    simp only [Act.put, List.setIfInBounds_toArray, List.set_cons_zero, List.set_cons_succ, Nat.zero_add, Nat.reduceAdd]
    refine Facts.Lex.know [5] (TupM ki er R) (by kernel_rfl) (fun _ _ _ ⟨r, e, h⟩ hg => ⟨r, e, h.grew hg⟩) ?_ ?_
    · intro u W hC hK
      have HY : Hid (TupM ki er R (u 5) W) := Lib.hid hK.1
      clear hK
      unfold Facts.one
      go_simp
      exact ⟨Grew.refl _, HY.out⟩
    simp only [Act.put, List.setIfInBounds_toArray, List.set_cons_zero, List.set_cons_succ, Nat.zero_add, Nat.reduceAdd]
    refine Facts.Lex.know [6] (fun v w => Mls w v R) (by kernel_rfl) (fun _ _ _ h hg => h.grew hg) ?_ ?_
    · intro u W hC hK
      obtain ⟨v', hv', hi⟩ : TupM ki er R (u 6) W := hK.1
      have HI := Lib.hid hi
      clear hK hi
      unfold Facts.one
      simp only [hv']
      go_simp
      exact ⟨Grew.refl _, HI.out⟩
    simp only [Act.put, List.setIfInBounds_toArray, List.set_cons_zero, List.set_cons_succ, Nat.zero_add, Nat.reduceAdd]
    apply Facts.Lex.exact [6] (.int .i64 ki) (by kernel_rfl)
    · intro u W hC hK
      obtain ⟨v', hv', hi⟩ : TupM ki er R (u 6) W := hK.1
      have HI := Lib.hid hi
      clear hK hi
      unfold Facts.one
      simp only [hv']
      go_simp
      first | exact ⟨Grew.refl _, rfl⟩ | rfl
    simp only [Act.put, List.setIfInBounds_toArray, List.set_cons_zero, List.set_cons_succ, Nat.zero_add, Nat.reduceAdd]
    apply Facts.Lex.exact [6] (.int .i64 er) (by kernel_rfl)
    · intro u W hC hK
      obtain ⟨v', hv', hi⟩ : TupM ki er R (u 6) W := hK.1
      have HI := Lib.hid hi
      clear hK hi
      unfold Facts.one
      simp only [hv']
      go_simp
      first | exact ⟨Grew.refl _, rfl⟩ | rfl
    simp only [Act.put, List.setIfInBounds_toArray, List.set_cons_zero, List.set_cons_succ, Nat.zero_add, Nat.reduceAdd]
    refine Facts.Lex.know [7] (fun v w => Mls w v R) (by kernel_rfl) (fun _ _ _ h hg => h.grew hg) ?_ ?_
    · intro u W hC hK
      have HY : Hid (Mls W (u 7) R) := Lib.hid hK.1
      clear hK
      unfold Facts.one
      go_simp
      exact ⟨Grew.refl _, HY.out⟩
    simp only [Act.put, List.setIfInBounds_toArray, List.set_cons_zero, List.set_cons_succ, Nat.zero_add, Nat.reduceAdd]
    apply Facts.Lex.exact [] _ (by kernel_rfl)
    · intro u W hC hK
      clear hK
      unfold Facts.one
      go_simp
      first | exact ⟨Grew.refl _, rfl⟩ | rfl
    simp only [Act.put, List.setIfInBounds_toArray, List.set_cons_zero, List.set_cons_succ, Nat.zero_add, Nat.reduceAdd]
    apply Facts.Lex.exact [] _ (by kernel_rfl)
    · intro u W hC hK
      clear hK
      unfold Facts.one
      go_simp
      first | exact ⟨Grew.refl _, rfl⟩ | rfl
    simp only [Act.put, List.setIfInBounds_toArray, List.set_cons_zero, List.set_cons_succ, Nat.zero_add, Nat.reduceAdd]
    refine Facts.Lex.done fun u W2 hC hL => ?_
    have HY : Hid (Mls W2 (u 10) R) := Lib.hid (hL _ (List.mem_cons_self ..))
    have G5 := Lib.hid (G0.out.trans hC)
    clear hC hL
    generalize u 10 = v7 at *
    rw [HR.out] at HY
    obtain ⟨A7, c7, rfl, _⟩ := HY.out.slice
    have hl0 : (([] : List Ml).length) = 0 := rfl
    rw [hl0]
    clear hl0
    have he3 := HE3.out
    go_wp2_with fail
    refine (HA.out _).mono ?_
    rintro e w2 ⟨rfl, hg⟩
    have G6 := Lib.hid (G5.out.trans hg)
    clear hg he3
    go_wp2
    go_returns
    exact ⟨by simp, G6.out⟩
  · rw [hp] at HPUT
    unfold Ans3 at HPUT
    simp only at HPUT
    have hk' : k < m := by rw [List.length_replicate] at hk; exact hk
    have HKP : Hid (Kp ((List.replicate m zml).set k ⟨true, lab, frm, rc, s⟩) m k ⟨true, lab, frm, rc, s⟩) := Lib.hid ⟨hok, SzM_set (SzM_zero m) k _ HMS.out, by rw [List.length_set, List.length_replicate], by rw [em_set _ _ _ _ hk, if_pos rfl]⟩
    have HRC : Hid (0 ≤ rc ∧ rc ≤ 127) := Lib.hid (by
      unfold numM num at hnm
      simp only [Bool.and_eq_true, decide_eq_true_iff] at hnm
      omega)
    clear hp hok hku hnm hk HPC
    generalize (List.replicate m zml).set k ⟨true, lab, frm, rc, s⟩ = R at *
    have hkm : (k : Int) < (m : Int) := by omega
    have hk0 : ¬ (k : Int) < 0 := by omega
    have hkn : ¬ (m : Int) ≤ (k : Int) := by omega
    have hkd : decide (m ≤ k) = false := decide_eq_false (by omega)
    have hkd0 : decide ((k : Int) < 0) = false := decide_eq_false (by omega)
    have HKL := Lib.hid hk'
    clear hk'
    obtain ⟨er, her⟩ : ∃ er : Int, er = 0 := ⟨_, rfl⟩
    rw [← her] at HPUT
    obtain ⟨ki, hki⟩ : ∃ ki : Int, ki = (k : Int) := ⟨_, rfl⟩
    rw [← hki] at HPUT
    have HER := Lib.hid her
    have HKI := Lib.hid hki
    have HEQ : Hid (∀ W, (binOp .eql 23 (.agg #[.bool true, .int .i64 lab, .int .i64 frm, .int .i64 rc, .string s]) (.agg #[.bool true, .int .i64 lab, .int .i64 frm, .int .i64 rc, .string s])).run Try.prog W = .ok (.bool true) W) := Lib.hid fun W => by
      have := eqM ⟨true, lab, frm, rc, s⟩ ⟨true, lab, frm, rc, s⟩ W
      simpa [mlv] using this
    have HNE : Hid (∀ W, (binOp .neq 23 (.agg #[.bool true, .int .i64 lab, .int .i64 frm, .int .i64 rc, .string s]) (.agg #[.bool true, .int .i64 lab, .int .i64 frm, .int .i64 rc, .string s])).run Try.prog W = .ok (.bool false) W) := Lib.hid fun W => by
      have := neM ⟨true, lab, frm, rc, s⟩ ⟨true, lab, frm, rc, s⟩ W
      simpa [mlv] using this
    obtain ⟨M, hM⟩ : ∃ M : Ml, M = ⟨true, lab, frm, rc, s⟩ := ⟨_, rfl⟩
    rw [← hM] at HKP
    have HM := Lib.hid hM
    clear her hki hM
    go_enter Try.func3, Try.ntmps3
    go_wp2
    refine Facts.wp_region_text (by kernel_rfl) (by kernel_rfl) ?_
    apply Facts.Lex.exact [] _ (by kernel_rfl)
    · intro u W hC hK
      clear hK
      unfold Facts.one
      go_simp
      first | exact ⟨Grew.refl _, rfl⟩ | rfl
    simp only [Act.put, List.setIfInBounds_toArray, List.set_cons_zero, List.set_cons_succ, Nat.zero_add, Nat.reduceAdd]
    apply Facts.Lex.exact [] (.int .i64 k0) (by kernel_rfl)
    · intro u W hC hK
      clear hK
      have hwc := HWC.out
      unfold Facts.one
      go_simp
      first | exact ⟨Grew.refl _, rfl⟩ | rfl
    simp only [Act.put, List.setIfInBounds_toArray, List.set_cons_zero, List.set_cons_succ, Nat.zero_add, Nat.reduceAdd]
    apply Facts.Lex.exact [] (.int .i64 m) (by kernel_rfl)
    · intro u W hC hK
      clear hK
      have hrem := HREM.out
      unfold Facts.one
      go_simp
      first | exact ⟨Grew.refl _, rfl⟩ | rfl
    simp only [Act.put, List.setIfInBounds_toArray, List.set_cons_zero, List.set_cons_succ, Nat.zero_add, Nat.reduceAdd]
    refine Facts.Lex.know [] (MkM m) (by kernel_rfl) (fun _ _ _ h hg => h.grew hg) ?_ ?_
    · intro u W hC hK
      clear hK
      have hmk := HMK.out W
      unfold Facts.one
      go_simp
      exact ⟨by unfold Grew; go_grown, ⟨_, rfl, (by have h := ml_made1 W (List.replicate m zml) (by rw [List.length_replicate]; have := HM12.out; omega); rw [List.length_replicate] at h; exact h)⟩⟩
    simp only [Act.put, List.setIfInBounds_toArray, List.set_cons_zero, List.set_cons_succ, Nat.zero_add, Nat.reduceAdd]
    apply Facts.Lex.exact [] (.agg #[.bool u0, .int .i64 lab, .int .i64 frm, .int .i64 rc, .string s]) (by kernel_rfl)
    · intro u W hC hK
      clear hK
      have j0 := cellG hC E0.out
      have j1 := cellG hC E1.out
      have j2 := cellG hC E2.out
      have j3 := cellG hC E3.out
      have j4 := cellG hC E4.out
      unfold Facts.one
      go_simp
      first | exact ⟨Grew.refl _, rfl⟩ | rfl
    simp only [Act.put, List.setIfInBounds_toArray, List.set_cons_zero, List.set_cons_succ, Nat.zero_add, Nat.reduceAdd]
    refine Facts.Lex.know [3] (TupM ki er R) (by kernel_rfl) (fun _ _ _ ⟨r, e, h⟩ hg => ⟨r, e, h.grew hg⟩) ?_ ?_
    · intro u W hC hK
      obtain ⟨A3, hA3, hi⟩ : MkM m (u 3) W := hK.1
      have HC9 := Lib.hid (HPUT.out W _ hi)
      clear hK hi
      unfold Facts.one
      go_simp
      try simp only [hA3]
      refine HC9.out.mono ?_
      rintro e w' ⟨v', rfl, hi, hg⟩
      exact ⟨_, rfl, hg, ⟨v', rfl, hi⟩⟩
    simp only [Act.put, List.setIfInBounds_toArray, List.set_cons_zero, List.set_cons_succ, Nat.zero_add, Nat.reduceAdd]
    refine Facts.Lex.know [5] (TupM ki er R) (by kernel_rfl) (fun _ _ _ ⟨r, e, h⟩ hg => ⟨r, e, h.grew hg⟩) ?_ ?_
    · intro u W hC hK
      have HY : Hid (TupM ki er R (u 5) W) := Lib.hid hK.1
      clear hK
      unfold Facts.one
      go_simp
      exact ⟨Grew.refl _, HY.out⟩
    simp only [Act.put, List.setIfInBounds_toArray, List.set_cons_zero, List.set_cons_succ, Nat.zero_add, Nat.reduceAdd]
    refine Facts.Lex.know [6] (fun v w => Mls w v R) (by kernel_rfl) (fun _ _ _ h hg => h.grew hg) ?_ ?_
    · intro u W hC hK
      obtain ⟨v', hv', hi⟩ : TupM ki er R (u 6) W := hK.1
      have HI := Lib.hid hi
      clear hK hi
      unfold Facts.one
      simp only [hv']
      go_simp
      exact ⟨Grew.refl _, HI.out⟩
    simp only [Act.put, List.setIfInBounds_toArray, List.set_cons_zero, List.set_cons_succ, Nat.zero_add, Nat.reduceAdd]
    apply Facts.Lex.exact [6] (.int .i64 ki) (by kernel_rfl)
    · intro u W hC hK
      obtain ⟨v', hv', hi⟩ : TupM ki er R (u 6) W := hK.1
      have HI := Lib.hid hi
      clear hK hi
      unfold Facts.one
      simp only [hv']
      go_simp
      first | exact ⟨Grew.refl _, rfl⟩ | rfl
    simp only [Act.put, List.setIfInBounds_toArray, List.set_cons_zero, List.set_cons_succ, Nat.zero_add, Nat.reduceAdd]
    apply Facts.Lex.exact [6] (.int .i64 er) (by kernel_rfl)
    · intro u W hC hK
      obtain ⟨v', hv', hi⟩ : TupM ki er R (u 6) W := hK.1
      have HI := Lib.hid hi
      clear hK hi
      unfold Facts.one
      simp only [hv']
      go_simp
      first | exact ⟨Grew.refl _, rfl⟩ | rfl
    simp only [Act.put, List.setIfInBounds_toArray, List.set_cons_zero, List.set_cons_succ, Nat.zero_add, Nat.reduceAdd]
    refine Facts.Lex.know [7] (fun v w => Mls w v R) (by kernel_rfl) (fun _ _ _ h hg => h.grew hg) ?_ ?_
    · intro u W hC hK
      have HY : Hid (Mls W (u 7) R) := Lib.hid hK.1
      clear hK
      unfold Facts.one
      go_simp
      exact ⟨Grew.refl _, HY.out⟩
    simp only [Act.put, List.setIfInBounds_toArray, List.set_cons_zero, List.set_cons_succ, Nat.zero_add, Nat.reduceAdd]
    apply Facts.Lex.exact [] _ (by kernel_rfl)
    · intro u W hC hK
      clear hK
      unfold Facts.one
      go_simp
      first | exact ⟨Grew.refl _, rfl⟩ | rfl
    simp only [Act.put, List.setIfInBounds_toArray, List.set_cons_zero, List.set_cons_succ, Nat.zero_add, Nat.reduceAdd]
    apply Facts.Lex.exact [] _ (by kernel_rfl)
    · intro u W hC hK
      clear hK
      unfold Facts.one
      go_simp
      first | exact ⟨Grew.refl _, rfl⟩ | rfl
    simp only [Act.put, List.setIfInBounds_toArray, List.set_cons_zero, List.set_cons_succ, Nat.zero_add, Nat.reduceAdd]
    refine Facts.Lex.done fun u W2 hC hL => ?_
    have HY : Hid (Mls W2 (u 10) R) := Lib.hid (hL _ (List.mem_cons_self ..))
    have G5 := Lib.hid (G0.out.trans hC)
    have HB5 := Lib.hid (keepB HB0.out hC)
    clear hC hL
    generalize u 10 = v7 at *
    obtain ⟨A7, c7, rfl, _⟩ := HY.out.slice
    rw [HKP.out.len] at HY ⊢
    have eer := HER.out
    subst eer
    have eki := HKI.out
    subst eki
    obtain ⟨c0, c1, c2, c3, c4⟩ := five_c HB5.out
    have f0 := frz (k := 0) HB5.out
    have gst : Grew w (W2.setCell ⟨w.heap.size, 0, none⟩ (.bool true)) := Below.setCell G5.out (Nat.le_refl _) _
    have HIs : Hid (Mls (W2.setCell ⟨w.heap.size, 0, none⟩ (.bool true)) (.slice A7 m c7) R) := Lib.hid (stays_row HY.out HB5.out (k := k) (by rw [HKP.out.len]; exact HKL.out) (by rw [HKP.out.has, HM.out]))
    have HGs := Lib.hid gst
    have E0' : Hid ((W2.setCell ⟨w.heap.size, 0, none⟩ (.bool true)).cell? ⟨w.heap.size, 0, none⟩ = some (.bool true)) := Lib.hid (World.cell?_setCell_same _ _ _ c0)
    have E1' : Hid ((W2.setCell ⟨w.heap.size, 0, none⟩ (.bool true)).cell? ⟨w.heap.size, 1, none⟩ = some (.int .i64 lab)) := Lib.hid (by rw [World.cell?_setCell_other]; exact c1; simp)
    have E2' : Hid ((W2.setCell ⟨w.heap.size, 0, none⟩ (.bool true)).cell? ⟨w.heap.size, 2, none⟩ = some (.int .i64 frm)) := Lib.hid (by rw [World.cell?_setCell_other]; exact c2; simp)
    have E3' : Hid ((W2.setCell ⟨w.heap.size, 0, none⟩ (.bool true)).cell? ⟨w.heap.size, 3, none⟩ = some (.int .i64 rc)) := Lib.hid (by rw [World.cell?_setCell_other]; exact c3; simp)
    have E4' : Hid ((W2.setCell ⟨w.heap.size, 0, none⟩ (.bool true)).cell? ⟨w.heap.size, 4, none⟩ = some (.string s)) := Lib.hid (by rw [World.cell?_setCell_other]; exact c4; simp)
    clear gst
    clear HPUT HMK HREM HWC
    clear E0 E1 E2 E3 E4
    go_upto_block 0 with fail
    clear c0 c1 c2 c3 c4 f0
    generalize W2.setCell ⟨w.heap.size, 0, none⟩ (.bool true) = w5 at HIs HGs E0' E1' E2' E3' E4'
    have HLEN : Hid (∀ now : List Ml, Kp now m k M → now.length * 48 ≤ 140737488355328) := Lib.hid fun now h => by rw [h.len]; have := HM12.out; omega
    have HMU : Hid (M.used = true) := Lib.hid (by rw [HM.out])
    have HMR : Hid (M.to = rc) := Lib.hid (by rw [HM.out])
    clear hk0 HY G5 HB5 HER HKI HB0 G0
    go_cut [9] (fun s9 wx => ∃ (now : List Ml) (A : Option Addr) (c : Nat), s9 = .slice A m c ∧ Hid (Mls wx (.slice A m c) now) ∧ Hid (Kp now m k M) ∧ Hid (Grew w5 wx))
    case first =>
      go_wp2_with fail
      go_loopg [9, 12] L.length (fun g s9 s12 wx => ∃ (i : Nat) (now : List Ml) (A : Option Addr) (c : Nat), s9 = .slice A m c ∧ s12 = .int .i64 i ∧ L.length - i ≤ g ∧ Hid (Mls wx (.slice A m c) now) ∧ Hid (Kp now m k M) ∧ Hid (Grew w5 wx))
      case atStart => exact ⟨0, R, A7, c7, rfl, rfl, by omega, HIs, HKP, Lib.hid (Grew.refl _)⟩
      case round =>
        clear HIs HKP
        obtain ⟨i, now, A, c, rfl, rfl, hgg, HI, HP, HG⟩ := hrel
        by_cases hgo : i < L.length ∧ i < 40
        · obtain ⟨hiD, hi40⟩ := hgo
          have hiz : (i : Int) < (L.length : Int) := by omega
          have hi4 : (i : Int) < 40 := by omega
          have HGG : Hid (L.length - (i + 1) < gk) := Lib.hid (by omega)
          have HWI := Lib.hid (wr1b hi40 (by decide))
          have HX := Lib.hid (em_get hiD)
          have hsz := HZL.out _ (List.mem_of_getElem? HX.out)
          have HSZ := Lib.hid hsz
          generalize em L i = x at *
          have HPX := Lib.hid (put_any (.slice A m c) now x wr HI.out HP.out.sz (HLEN.out _ HP.out) hsz)
          have HRES : Hid (((putP now x).2.2 ≠ 0 ∧ (putP now x).1 = []) ∨ ((putP now x).2.2 = 0 ∧ Kp (putP now x).1 m k M)) := Lib.hid (by
            rcases put_cases now x HP.out.ok with ⟨er, h1, h2⟩ | ⟨j, h1, h2, _, h3, h4⟩
            · rw [h2]; exact .inl ⟨h1, rfl⟩
            · rw [h3]; exact .inr ⟨rfl, HP.out.put HMU.out h1 h2 h4 HSZ.out⟩)
          obtain ⟨xu, xl, xf, xr, xs⟩ := x
          unfold mlv at HPX
          simp only at HPX
          have HXC := Lib.hid (fun W (hg : Grew w5 W) => Mls_at (HL.out.grew (HGs.out.trans hg)) HX.out)
          obtain ⟨adL, cL', eL, _, d0, d1, d2, d3, d4⟩ := HXC.out _ HG.out
          injection eL with eL1 _ eL3
          subst eL1 eL3
          have HX3 : Hid (∀ W, Grew w5 W → W.cell? ⟨(adL.add (i * 5)).block, (adL.add (i * 5)).off + 3, none⟩ = some (.int .i64 xr)) := Lib.hid fun W hg => by
            obtain ⟨ad, c9, e9, _, _, _, _, h3, _⟩ := HXC.out W hg
            injection e9 with e1 _ _
            injection e1 with e1
            subst e1
            exact h3
          generalize putP now ⟨xu, xl, xf, xr, xs⟩ = r at *
          obtain ⟨R2, k2, er2⟩ := r
          simp only at HRES
          clear hsz hgg hiD hi40 HXC HX HSZ
          go_wp2_with fail
          refine HPX.out.mono ?_
          rintro e w3 ha
          obtain ⟨A2, c2, rfl, hi, hg⟩ := ans3_sl ha
          have HI2 := Lib.hid hi
          have HG3 := Lib.hid (HG.out.trans hg)
          have HI3 := Lib.hid (HI.out.grew hg)
          simp only at HI2
          obtain ⟨n2, hn2⟩ : ∃ n2, R2.length = n2 := ⟨_, rfl⟩
          simp only [hn2] at HI2 ⊢
          have HN2 := Lib.hid hn2
          clear ha hi hg d0 d1 d2 d3 d4 HPX HI HG hn2
          go_upto_if 68 with fail
          go_cut [9] (fun s9 wx => ∃ (now1 : List Ml) (A : Option Addr) (c : Nat), s9 = .slice A m c ∧ Hid (Mls wx (.slice A m c) now1) ∧ Hid (Kp now1 m k M) ∧ wx = w3)
          case first =>
            rcases HRES.out with ⟨h1, h2⟩ | ⟨h1, h2⟩
            · have h1' : (er2 == 0) = false := by simpa using h1
              clear h1 h2 HRES
              go_wp2_with fail
              go_meet
              case rel => exact ⟨now, A, c, rfl, HI3, HP, rfl⟩
            · have HK2 := Lib.hid h2
              have hlen2 : m = n2 := h2.len.symm.trans HN2.out
              subst hlen2
              subst h1
              clear h2 HRES
              go_wp2_with fail
              go_meet
              case rel => exact ⟨R2, A2, c2, rfl, HI2, HK2, rfl⟩
          case rest =>
            clear HRES HI2 HI3 HP
            obtain ⟨now1, A1, c1, rfl, HI1, HP1, hw⟩ := hcut
            subst hw
            have f3 := HX3.out _ HG3.out
            have e3 := cellG HG3.out E3'.out
            by_cases hs : i < S.length
            · have hsz : ¬ (S.length : Int) ≤ (i : Int) := by omega
              obtain ⟨si, hsi⟩ : ∃ si, S[i]? = some si := ⟨_, List.getElem?_eq_getElem hs⟩
              have HSI := Lib.hid hsi
              have HSC := Lib.hid (fun W (hg : Grew w5 W) => Is_at (HS.out.grew (HGs.out.trans hg)) HSI.out)
              obtain ⟨adS, cS', eS, _, a0⟩ := HSC.out _ HG3.out
              injection eS with eS1 _ eS3
              subst eS1 eS3
              have HS0 : Hid (∀ W, Grew w5 W → W.cell? (adS.add i) = some (.int .i64 si)) := Lib.hid fun W hg => by
                obtain ⟨ad, c9, e9, _, h0⟩ := HSC.out W hg
                injection e9 with e1 _ _
                injection e1 with e1
                subst e1
                exact h0
              have hsd : decide (S.length ≤ i) = false := decide_eq_false (by omega)
              clear hsi HSC HSI
              by_cases hsk : si = (k : Int)
              · subst hsk
                by_cases hxr : xr = rc
                · subst hxr
                  go_wp2
                  refine Facts.wp_region_text (by kernel_rfl) (by kernel_rfl) ?_
                  repeat
                    apply Facts.Lex.exact [] _ (by kernel_rfl)
                    · intro u W hC _
                      have j3 := cellG hC f3
                      have k3 := cellG hC e3
                      have m0 := cellG hC a0
                      unfold Facts.one
                      go_simp
                      first | exact ⟨Grew.refl _, rfl⟩ | rfl
                    simp only [Act.put, List.setIfInBounds_toArray, List.set_cons_zero, List.set_cons_succ, Nat.zero_add, Nat.reduceAdd]
                  refine Facts.Lex.done fun u W2 hC hL => ?_
                  have HG5 := Lib.hid (HG3.out.trans hC)
                  have HI5 := Lib.hid (HI1.out.grew hC)
                  clear hC hL a0 f3 e3
                  go_wp2
                  go_roundg (L.length - (i + 1))
                  case measure => exact HGG.out
                  case rel => exact ⟨i + 1, now1, A1, c1, rfl, by first | (simp; done) | rw [HWI.out], Nat.le_refl _, HI5, HP1, HG5⟩
                · have hxr1 : (xr == rc) = false := by simpa using hxr
                  have hxr2 : decide (xr = rc) = false := decide_eq_false hxr
                  have HT := Lib.hid (toss_any (.slice A1 m c1) now1 (k : Int) xr)
                  have HTC : Hid ((tossP now1 k xr).2 ≠ 0 ∧ (tossP now1 k xr).1 = [] ∨ (tossP now1 k xr).2 = 0 ∧ Kp (tossP now1 k xr).1 m k M) := Lib.hid (by
                    rcases toss_cases now1 k xr HP1.out.ok with h | ⟨j, h1, h2, h3, h4, h5⟩
                    · rw [h]; exact .inl ⟨by decide, rfl⟩
                    · rw [h4]; exact .inr ⟨rfl, HP1.out.toss h2 h3 h5 (fun _ => by rw [HMR.out]; exact fun e => hxr e.symm)⟩)
                  have HTR := Lib.hid (fun W (h : Mls W (.slice A1 m c1) now1) => HT.out W h HP1.out.sz (HLEN.out _ HP1.out))
                  generalize tossP now1 k xr = t at *
                  obtain ⟨R3, er3⟩ := t
                  simp only at HTC
                  clear hxr HT
                  go_wp2
                  refine Facts.wp_region_text (by kernel_rfl) (by kernel_rfl) ?_
                  repeat
                    apply Facts.Lex.exact [] _ (by kernel_rfl)
                    · intro u W hC _
                      have j3 := cellG hC f3
                      have k3 := cellG hC e3
                      have m0 := cellG hC a0
                      unfold Facts.one
                      go_simp
                      first | exact ⟨Grew.refl _, rfl⟩ | rfl
                    simp only [Act.put, List.setIfInBounds_toArray, List.set_cons_zero, List.set_cons_succ, Nat.zero_add, Nat.reduceAdd]
                  refine Facts.Lex.done fun u W2 hC hL => ?_
                  have HG4 := Lib.hid (HG3.out.trans hC)
                  have HI4 := Lib.hid (HI1.out.grew hC)
                  clear hC hL a0 f3 e3
                  have f3 := HX3.out _ HG4.out
                  have a0 := HS0.out _ HG4.out
                  go_wp2
                  refine Facts.wp_region_text (by kernel_rfl) (by kernel_rfl) ?_
                  apply Facts.Lex.exact [] _ (by kernel_rfl)
                  · intro u W hC hK
                    clear hK
                    have j3 := cellG hC f3
                    have m0 := cellG hC a0
                    unfold Facts.one
                    go_simp
                    first | exact ⟨Grew.refl _, rfl⟩ | rfl
                  simp only [Act.put, List.setIfInBounds_toArray, List.set_cons_zero, List.set_cons_succ, Nat.zero_add, Nat.reduceAdd]
                  apply Facts.Lex.exact [] _ (by kernel_rfl)
                  · intro u W hC hK
                    clear hK
                    have j3 := cellG hC f3
                    have m0 := cellG hC a0
                    unfold Facts.one
                    go_simp
                    first | exact ⟨Grew.refl _, rfl⟩ | rfl
                  simp only [Act.put, List.setIfInBounds_toArray, List.set_cons_zero, List.set_cons_succ, Nat.zero_add, Nat.reduceAdd]
                  apply Facts.Lex.exact [] _ (by kernel_rfl)
                  · intro u W hC hK
                    clear hK
                    have j3 := cellG hC f3
                    have m0 := cellG hC a0
                    unfold Facts.one
                    go_simp
                    first | exact ⟨Grew.refl _, rfl⟩ | rfl
                  simp only [Act.put, List.setIfInBounds_toArray, List.set_cons_zero, List.set_cons_succ, Nat.zero_add, Nat.reduceAdd]
                  apply Facts.Lex.exact [] _ (by kernel_rfl)
                  · intro u W hC hK
                    clear hK
                    have j3 := cellG hC f3
                    have m0 := cellG hC a0
                    unfold Facts.one
                    go_simp
                    first | exact ⟨Grew.refl _, rfl⟩ | rfl
                  simp only [Act.put, List.setIfInBounds_toArray, List.set_cons_zero, List.set_cons_succ, Nat.zero_add, Nat.reduceAdd]
                  apply Facts.Lex.exact [] _ (by kernel_rfl)
                  · intro u W hC hK
                    clear hK
                    have j3 := cellG hC f3
                    have m0 := cellG hC a0
                    unfold Facts.one
                    go_simp
                    first | exact ⟨Grew.refl _, rfl⟩ | rfl
                  simp only [Act.put, List.setIfInBounds_toArray, List.set_cons_zero, List.set_cons_succ, Nat.zero_add, Nat.reduceAdd]
                  apply Facts.Lex.exact [] _ (by kernel_rfl)
                  · intro u W hC hK
                    clear hK
                    have j3 := cellG hC f3
                    have m0 := cellG hC a0
                    unfold Facts.one
                    go_simp
                    first | exact ⟨Grew.refl _, rfl⟩ | rfl
                  simp only [Act.put, List.setIfInBounds_toArray, List.set_cons_zero, List.set_cons_succ, Nat.zero_add, Nat.reduceAdd]
                  apply Facts.Lex.exact [] _ (by kernel_rfl)
                  · intro u W hC hK
                    clear hK
                    have j3 := cellG hC f3
                    have m0 := cellG hC a0
                    unfold Facts.one
                    go_simp
                    first | exact ⟨Grew.refl _, rfl⟩ | rfl
                  simp only [Act.put, List.setIfInBounds_toArray, List.set_cons_zero, List.set_cons_succ, Nat.zero_add, Nat.reduceAdd]
                  apply Facts.Lex.exact [] _ (by kernel_rfl)
                  · intro u W hC hK
                    clear hK
                    have j3 := cellG hC f3
                    have m0 := cellG hC a0
                    unfold Facts.one
                    go_simp
                    first | exact ⟨Grew.refl _, rfl⟩ | rfl
                  simp only [Act.put, List.setIfInBounds_toArray, List.set_cons_zero, List.set_cons_succ, Nat.zero_add, Nat.reduceAdd]
                  apply Facts.Lex.exact [] _ (by kernel_rfl)
                  · intro u W hC hK
                    clear hK
                    have j3 := cellG hC f3
                    have m0 := cellG hC a0
                    unfold Facts.one
                    go_simp
                    first | exact ⟨Grew.refl _, rfl⟩ | rfl
                  simp only [Act.put, List.setIfInBounds_toArray, List.set_cons_zero, List.set_cons_succ, Nat.zero_add, Nat.reduceAdd]
                  apply Facts.Lex.exact [] _ (by kernel_rfl)
                  · intro u W hC hK
                    clear hK
                    have j3 := cellG hC f3
                    have m0 := cellG hC a0
                    unfold Facts.one
                    go_simp
                    first | exact ⟨Grew.refl _, rfl⟩ | rfl
                  simp only [Act.put, List.setIfInBounds_toArray, List.set_cons_zero, List.set_cons_succ, Nat.zero_add, Nat.reduceAdd]
                  refine Facts.Lex.know [] (Tup2 er3 R3) (by kernel_rfl) (fun _ _ _ ⟨r, e, h⟩ hg => ⟨r, e, h.grew hg⟩) ?_ ?_
                  · intro u W hC hK
                    have HC9 := Lib.hid (HTR.out W (HI4.out.grew hC))
                    clear hK
                    unfold Facts.one
                    go_simp
                    refine HC9.out.mono ?_
                    rintro e w' ⟨v', rfl, hi, hg⟩
                    exact ⟨_, rfl, hg, ⟨v', rfl, hi⟩⟩
                  simp only [Act.put, List.setIfInBounds_toArray, List.set_cons_zero, List.set_cons_succ, Nat.zero_add, Nat.reduceAdd]
                  refine Facts.Lex.know [10] (Tup2 er3 R3) (by kernel_rfl) (fun _ _ _ ⟨r, e, h⟩ hg => ⟨r, e, h.grew hg⟩) ?_ ?_
                  · intro u W hC hK
                    have HY : Hid (Tup2 er3 R3 (u 10) W) := Lib.hid hK.1
                    clear hK
                    unfold Facts.one
                    go_simp
                    exact ⟨Grew.refl _, HY.out⟩
                  simp only [Act.put, List.setIfInBounds_toArray, List.set_cons_zero, List.set_cons_succ, Nat.zero_add, Nat.reduceAdd]
                  refine Facts.Lex.know [11] (fun v w => Mls w v R3) (by kernel_rfl) (fun _ _ _ h hg => h.grew hg) ?_ ?_
                  · intro u W hC hK
                    obtain ⟨v', hv', hi⟩ : Tup2 er3 R3 (u 11) W := hK.1
                    have HI := Lib.hid hi
                    clear hK hi
                    unfold Facts.one
                    simp only [hv']
                    go_simp
                    exact ⟨Grew.refl _, HI.out⟩
                  simp only [Act.put, List.setIfInBounds_toArray, List.set_cons_zero, List.set_cons_succ, Nat.zero_add, Nat.reduceAdd]
                  apply Facts.Lex.exact [11] (.int .i64 er3) (by kernel_rfl)
                  · intro u W hC hK
                    obtain ⟨v', hv', hi⟩ : Tup2 er3 R3 (u 11) W := hK.1
                    have HI := Lib.hid hi
                    clear hK hi
                    unfold Facts.one
                    simp only [hv']
                    go_simp
                    first | exact ⟨Grew.refl _, rfl⟩ | rfl
                  simp only [Act.put, List.setIfInBounds_toArray, List.set_cons_zero, List.set_cons_succ, Nat.zero_add, Nat.reduceAdd]
                  refine Facts.Lex.know [12] (fun v w => Mls w v R3) (by kernel_rfl) (fun _ _ _ h hg => h.grew hg) ?_ ?_
                  · intro u W hC hK
                    have HY : Hid (Mls W (u 12) R3) := Lib.hid hK.1
                    clear hK
                    unfold Facts.one
                    go_simp
                    exact ⟨Grew.refl _, HY.out⟩
                  simp only [Act.put, List.setIfInBounds_toArray, List.set_cons_zero, List.set_cons_succ, Nat.zero_add, Nat.reduceAdd]
                  apply Facts.Lex.exact [] _ (by kernel_rfl)
                  · intro u W hC hK
                    clear hK
                    have j3 := cellG hC f3
                    have m0 := cellG hC a0
                    unfold Facts.one
                    go_simp
                    first | exact ⟨Grew.refl _, rfl⟩ | rfl
                  simp only [Act.put, List.setIfInBounds_toArray, List.set_cons_zero, List.set_cons_succ, Nat.zero_add, Nat.reduceAdd]
                  refine Facts.Lex.done fun u W3 hC hL => ?_
                  have HY3 : Hid (Mls W3 (u 14) R3) := Lib.hid (hL _ (List.mem_cons_self ..))
                  have HG5 := Lib.hid (HG4.out.trans hC)
                  have HI5 := Lib.hid (HI4.out.grew hC)
                  clear hC hL a0 f3 HG4 HI4
                  generalize u 14 = v3 at *
                  obtain ⟨A3, c3, rfl, _⟩ := HY3.out.slice
                  obtain ⟨n3, hn3⟩ : ∃ n3, R3.length = n3 := ⟨_, rfl⟩
                  rw [hn3] at HY3 ⊢
                  have HN3 := Lib.hid hn3
                  clear hn3
                  go_upto_if 107 with fail
                  go_cut [9] (fun s9 wx => ∃ (now2 : List Ml) (A : Option Addr) (c : Nat), s9 = .slice A m c ∧ Hid (Mls wx (.slice A m c) now2) ∧ Hid (Kp now2 m k M) ∧ wx = W3)
                  case first =>
                    rcases HTC.out with ⟨h1, h2⟩ | ⟨h1, h2⟩
                    · have h1' : (er3 == 0) = false := by simpa using h1
                      clear h1 h2 HTC
                      go_wp2_with fail
                      go_meet
                      case rel => exact ⟨now1, A1, c1, rfl, HI5, HP1, rfl⟩
                    · have HK2 := Lib.hid h2
                      have hlen2 : m = n3 := h2.len.symm.trans HN3.out
                      subst hlen2
                      subst h1
                      clear h2 HTC
                      go_wp2_with fail
                      go_meet
                      case rel => exact ⟨R3, A3, c3, rfl, HY3, HK2, rfl⟩
                  case rest =>
                    clear HTC HY3 HI5 HP1 HTR
                    obtain ⟨now2, A2, c2, rfl, HI2, HP2, hw⟩ := hcut
                    subst hw
                    have HRI := Lib.hid (fun W (h : Mls W (.slice A2 m c2) now2) => mails_any _ now2 W h HP2.out.sz)
                    rw [HP2.out.ok] at HRI
                    obtain ⟨adN, c9, e9, _, n0, n1, n2, n3, n4⟩ := Mls_at HI2.out (em_get (show k < now2.length by rw [HP2.out.len]; exact HKL.out))
                    injection e9 with e1 e2 e3
                    subst e1 e3
                    clear e2
                    rw [HP2.out.has, HM.out] at n0 n1 n2 n3 n4
                    simp only at n0 n1 n2 n3 n4
                    have q0 := cellG HG5.out E0'.out
                    have q1 := cellG HG5.out E1'.out
                    have q2 := cellG HG5.out E2'.out
                    have q3 := cellG HG5.out E3'.out
                    have q4 := cellG HG5.out E4'.out
                    go_wp2
                    refine Facts.wp_region_text (by kernel_rfl) (by kernel_rfl) ?_
                    iterate 14
                      apply Facts.Lex.exact [] _ (by kernel_rfl)
                      · intro u W hC hK
                        clear hK
                        have j0 := cellG hC n0
                        have j1 := cellG hC n1
                        have j2 := cellG hC n2
                        have j3 := cellG hC n3
                        have j4 := cellG hC n4
                        have k0 := cellG hC q0
                        have k1 := cellG hC q1
                        have k2 := cellG hC q2
                        have k3 := cellG hC q3
                        have k4 := cellG hC q4
                        have hne := HNE.out
                        unfold Facts.one
                        go_simp
                        first | exact ⟨Grew.refl _, rfl⟩ | rfl
                      simp only [Act.put, List.setIfInBounds_toArray, List.set_cons_zero, List.set_cons_succ, Nat.zero_add, Nat.reduceAdd]
                    apply Facts.Lex.exact [] (.bool true) (by kernel_rfl)
                    · intro u W hC hK
                      have HC9 := Lib.hid (HRI.out W (HI2.out.grew hC))
                      clear hK
                      unfold Facts.one
                      go_simp
                      exact (HC9.out.mono fun e w' ⟨he, hg⟩ => ⟨_, he, hg, rfl⟩)
                    simp only [Act.put, List.setIfInBounds_toArray, List.set_cons_zero, List.set_cons_succ, Nat.zero_add, Nat.reduceAdd]
                    iterate 2
                      apply Facts.Lex.exact [] _ (by kernel_rfl)
                      · intro u W hC hK
                        clear hK
                        have j0 := cellG hC n0
                        have j1 := cellG hC n1
                        have j2 := cellG hC n2
                        have j3 := cellG hC n3
                        have j4 := cellG hC n4
                        have k0 := cellG hC q0
                        have k1 := cellG hC q1
                        have k2 := cellG hC q2
                        have k3 := cellG hC q3
                        have k4 := cellG hC q4
                        have hne := HNE.out
                        unfold Facts.one
                        go_simp
                        first | exact ⟨Grew.refl _, rfl⟩ | rfl
                      simp only [Act.put, List.setIfInBounds_toArray, List.set_cons_zero, List.set_cons_succ, Nat.zero_add, Nat.reduceAdd]
                    refine Facts.Lex.done fun u W4 hC hL => ?_
                    have HG6 := Lib.hid (HG5.out.trans hC)
                    have HI6 := Lib.hid (HI2.out.grew hC)
                    clear hC hL q0 q1 q2 q3 q4 n0 n1 n2 n3 n4
                    go_wp2
                    go_roundg (L.length - (i + 1))
                    case measure => exact HGG.out
                    case rel => exact ⟨i + 1, now2, some adN, c2, rfl, by first | (simp; done) | rw [HWI.out], Nat.le_refl _, HI6, HP2, HG6⟩
              · have hsk1 : (si == (k : Int)) = false := by simpa using hsk
                have HT := Lib.hid (toss_any (.slice A1 m c1) now1 si xr)
                have HTC : Hid ((tossP now1 si xr).2 ≠ 0 ∧ (tossP now1 si xr).1 = [] ∨ (tossP now1 si xr).2 = 0 ∧ Kp (tossP now1 si xr).1 m k M) := Lib.hid (by
                  rcases toss_cases now1 si xr HP1.out.ok with h | ⟨j, h1, h2, h3, h4, h5⟩
                  · rw [h]; exact .inl ⟨by decide, rfl⟩
                  · rw [h4]; exact .inr ⟨rfl, HP1.out.toss h2 h3 h5 (fun e => absurd (by rw [h1, e]) hsk)⟩)
                have HTR := Lib.hid (fun W (h : Mls W (.slice A1 m c1) now1) => HT.out W h HP1.out.sz (HLEN.out _ HP1.out))
                generalize tossP now1 si xr = t at *
                obtain ⟨R3, er3⟩ := t
                simp only at HTC
                clear hsk HT
                go_wp2
                refine Facts.wp_region_text (by kernel_rfl) (by kernel_rfl) ?_
                repeat
                  apply Facts.Lex.exact [] _ (by kernel_rfl)
                  · intro u W hC _
                    have j3 := cellG hC f3
                    have k3 := cellG hC e3
                    have m0 := cellG hC a0
                    unfold Facts.one
                    go_simp
                    first | exact ⟨Grew.refl _, rfl⟩ | rfl
                  simp only [Act.put, List.setIfInBounds_toArray, List.set_cons_zero, List.set_cons_succ, Nat.zero_add, Nat.reduceAdd]
                refine Facts.Lex.done fun u W2 hC hL => ?_
                have HG4 := Lib.hid (HG3.out.trans hC)
                have HI4 := Lib.hid (HI1.out.grew hC)
                clear hC hL a0 f3 e3
                have f3 := HX3.out _ HG4.out
                have a0 := HS0.out _ HG4.out
                go_wp2
                refine Facts.wp_region_text (by kernel_rfl) (by kernel_rfl) ?_
                apply Facts.Lex.exact [] _ (by kernel_rfl)
                · intro u W hC hK
                  clear hK
                  have j3 := cellG hC f3
                  have m0 := cellG hC a0
                  unfold Facts.one
                  go_simp
                  first | exact ⟨Grew.refl _, rfl⟩ | rfl
                simp only [Act.put, List.setIfInBounds_toArray, List.set_cons_zero, List.set_cons_succ, Nat.zero_add, Nat.reduceAdd]
                apply Facts.Lex.exact [] _ (by kernel_rfl)
                · intro u W hC hK
                  clear hK
                  have j3 := cellG hC f3
                  have m0 := cellG hC a0
                  unfold Facts.one
                  go_simp
                  first | exact ⟨Grew.refl _, rfl⟩ | rfl
                simp only [Act.put, List.setIfInBounds_toArray, List.set_cons_zero, List.set_cons_succ, Nat.zero_add, Nat.reduceAdd]
                apply Facts.Lex.exact [] _ (by kernel_rfl)
                · intro u W hC hK
                  clear hK
                  have j3 := cellG hC f3
                  have m0 := cellG hC a0
                  unfold Facts.one
                  go_simp
                  first | exact ⟨Grew.refl _, rfl⟩ | rfl
                simp only [Act.put, List.setIfInBounds_toArray, List.set_cons_zero, List.set_cons_succ, Nat.zero_add, Nat.reduceAdd]
                apply Facts.Lex.exact [] _ (by kernel_rfl)
                · intro u W hC hK
                  clear hK
                  have j3 := cellG hC f3
                  have m0 := cellG hC a0
                  unfold Facts.one
                  go_simp
                  first | exact ⟨Grew.refl _, rfl⟩ | rfl
                simp only [Act.put, List.setIfInBounds_toArray, List.set_cons_zero, List.set_cons_succ, Nat.zero_add, Nat.reduceAdd]
                apply Facts.Lex.exact [] _ (by kernel_rfl)
                · intro u W hC hK
                  clear hK
                  have j3 := cellG hC f3
                  have m0 := cellG hC a0
                  unfold Facts.one
                  go_simp
                  first | exact ⟨Grew.refl _, rfl⟩ | rfl
                simp only [Act.put, List.setIfInBounds_toArray, List.set_cons_zero, List.set_cons_succ, Nat.zero_add, Nat.reduceAdd]
                apply Facts.Lex.exact [] _ (by kernel_rfl)
                · intro u W hC hK
                  clear hK
                  have j3 := cellG hC f3
                  have m0 := cellG hC a0
                  unfold Facts.one
                  go_simp
                  first | exact ⟨Grew.refl _, rfl⟩ | rfl
                simp only [Act.put, List.setIfInBounds_toArray, List.set_cons_zero, List.set_cons_succ, Nat.zero_add, Nat.reduceAdd]
                apply Facts.Lex.exact [] _ (by kernel_rfl)
                · intro u W hC hK
                  clear hK
                  have j3 := cellG hC f3
                  have m0 := cellG hC a0
                  unfold Facts.one
                  go_simp
                  first | exact ⟨Grew.refl _, rfl⟩ | rfl
                simp only [Act.put, List.setIfInBounds_toArray, List.set_cons_zero, List.set_cons_succ, Nat.zero_add, Nat.reduceAdd]
                apply Facts.Lex.exact [] _ (by kernel_rfl)
                · intro u W hC hK
                  clear hK
                  have j3 := cellG hC f3
                  have m0 := cellG hC a0
                  unfold Facts.one
                  go_simp
                  first | exact ⟨Grew.refl _, rfl⟩ | rfl
                simp only [Act.put, List.setIfInBounds_toArray, List.set_cons_zero, List.set_cons_succ, Nat.zero_add, Nat.reduceAdd]
                apply Facts.Lex.exact [] _ (by kernel_rfl)
                · intro u W hC hK
                  clear hK
                  have j3 := cellG hC f3
                  have m0 := cellG hC a0
                  unfold Facts.one
                  go_simp
                  first | exact ⟨Grew.refl _, rfl⟩ | rfl
                simp only [Act.put, List.setIfInBounds_toArray, List.set_cons_zero, List.set_cons_succ, Nat.zero_add, Nat.reduceAdd]
                apply Facts.Lex.exact [] _ (by kernel_rfl)
                · intro u W hC hK
                  clear hK
                  have j3 := cellG hC f3
                  have m0 := cellG hC a0
                  unfold Facts.one
                  go_simp
                  first | exact ⟨Grew.refl _, rfl⟩ | rfl
                simp only [Act.put, List.setIfInBounds_toArray, List.set_cons_zero, List.set_cons_succ, Nat.zero_add, Nat.reduceAdd]
                refine Facts.Lex.know [] (Tup2 er3 R3) (by kernel_rfl) (fun _ _ _ ⟨r, e, h⟩ hg => ⟨r, e, h.grew hg⟩) ?_ ?_
                · intro u W hC hK
                  have HC9 := Lib.hid (HTR.out W (HI4.out.grew hC))
                  clear hK
                  unfold Facts.one
                  go_simp
                  refine HC9.out.mono ?_
                  rintro e w' ⟨v', rfl, hi, hg⟩
                  exact ⟨_, rfl, hg, ⟨v', rfl, hi⟩⟩
                simp only [Act.put, List.setIfInBounds_toArray, List.set_cons_zero, List.set_cons_succ, Nat.zero_add, Nat.reduceAdd]
                refine Facts.Lex.know [10] (Tup2 er3 R3) (by kernel_rfl) (fun _ _ _ ⟨r, e, h⟩ hg => ⟨r, e, h.grew hg⟩) ?_ ?_
                · intro u W hC hK
                  have HY : Hid (Tup2 er3 R3 (u 10) W) := Lib.hid hK.1
                  clear hK
                  unfold Facts.one
                  go_simp
                  exact ⟨Grew.refl _, HY.out⟩
                simp only [Act.put, List.setIfInBounds_toArray, List.set_cons_zero, List.set_cons_succ, Nat.zero_add, Nat.reduceAdd]
                refine Facts.Lex.know [11] (fun v w => Mls w v R3) (by kernel_rfl) (fun _ _ _ h hg => h.grew hg) ?_ ?_
                · intro u W hC hK
                  obtain ⟨v', hv', hi⟩ : Tup2 er3 R3 (u 11) W := hK.1
                  have HI := Lib.hid hi
                  clear hK hi
                  unfold Facts.one
                  simp only [hv']
                  go_simp
                  exact ⟨Grew.refl _, HI.out⟩
                simp only [Act.put, List.setIfInBounds_toArray, List.set_cons_zero, List.set_cons_succ, Nat.zero_add, Nat.reduceAdd]
                apply Facts.Lex.exact [11] (.int .i64 er3) (by kernel_rfl)
                · intro u W hC hK
                  obtain ⟨v', hv', hi⟩ : Tup2 er3 R3 (u 11) W := hK.1
                  have HI := Lib.hid hi
                  clear hK hi
                  unfold Facts.one
                  simp only [hv']
                  go_simp
                  first | exact ⟨Grew.refl _, rfl⟩ | rfl
                simp only [Act.put, List.setIfInBounds_toArray, List.set_cons_zero, List.set_cons_succ, Nat.zero_add, Nat.reduceAdd]
                refine Facts.Lex.know [12] (fun v w => Mls w v R3) (by kernel_rfl) (fun _ _ _ h hg => h.grew hg) ?_ ?_
                · intro u W hC hK
                  have HY : Hid (Mls W (u 12) R3) := Lib.hid hK.1
                  clear hK
                  unfold Facts.one
                  go_simp
                  exact ⟨Grew.refl _, HY.out⟩
                simp only [Act.put, List.setIfInBounds_toArray, List.set_cons_zero, List.set_cons_succ, Nat.zero_add, Nat.reduceAdd]
                apply Facts.Lex.exact [] _ (by kernel_rfl)
                · intro u W hC hK
                  clear hK
                  have j3 := cellG hC f3
                  have m0 := cellG hC a0
                  unfold Facts.one
                  go_simp
                  first | exact ⟨Grew.refl _, rfl⟩ | rfl
                simp only [Act.put, List.setIfInBounds_toArray, List.set_cons_zero, List.set_cons_succ, Nat.zero_add, Nat.reduceAdd]
                refine Facts.Lex.done fun u W3 hC hL => ?_
                have HY3 : Hid (Mls W3 (u 14) R3) := Lib.hid (hL _ (List.mem_cons_self ..))
                have HG5 := Lib.hid (HG4.out.trans hC)
                have HI5 := Lib.hid (HI4.out.grew hC)
                clear hC hL a0 f3 HG4 HI4
                generalize u 14 = v3 at *
                obtain ⟨A3, c3, rfl, _⟩ := HY3.out.slice
                obtain ⟨n3, hn3⟩ : ∃ n3, R3.length = n3 := ⟨_, rfl⟩
                rw [hn3] at HY3 ⊢
                have HN3 := Lib.hid hn3
                clear hn3
                go_upto_if 107 with fail
                go_cut [9] (fun s9 wx => ∃ (now2 : List Ml) (A : Option Addr) (c : Nat), s9 = .slice A m c ∧ Hid (Mls wx (.slice A m c) now2) ∧ Hid (Kp now2 m k M) ∧ wx = W3)
                case first =>
                  rcases HTC.out with ⟨h1, h2⟩ | ⟨h1, h2⟩
                  · have h1' : (er3 == 0) = false := by simpa using h1
                    clear h1 h2 HTC
                    go_wp2_with fail
                    go_meet
                    case rel => exact ⟨now1, A1, c1, rfl, HI5, HP1, rfl⟩
                  · have HK2 := Lib.hid h2
                    have hlen2 : m = n3 := h2.len.symm.trans HN3.out
                    subst hlen2
                    subst h1
                    clear h2 HTC
                    go_wp2_with fail
                    go_meet
                    case rel => exact ⟨R3, A3, c3, rfl, HY3, HK2, rfl⟩
                case rest =>
                  clear HTC HY3 HI5 HP1 HTR
                  obtain ⟨now2, A2, c2, rfl, HI2, HP2, hw⟩ := hcut
                  subst hw
                  have HRI := Lib.hid (fun W (h : Mls W (.slice A2 m c2) now2) => mails_any _ now2 W h HP2.out.sz)
                  rw [HP2.out.ok] at HRI
                  obtain ⟨adN, c9, e9, _, n0, n1, n2, n3, n4⟩ := Mls_at HI2.out (em_get (show k < now2.length by rw [HP2.out.len]; exact HKL.out))
                  injection e9 with e1 e2 e3
                  subst e1 e3
                  clear e2
                  rw [HP2.out.has, HM.out] at n0 n1 n2 n3 n4
                  simp only at n0 n1 n2 n3 n4
                  have q0 := cellG HG5.out E0'.out
                  have q1 := cellG HG5.out E1'.out
                  have q2 := cellG HG5.out E2'.out
                  have q3 := cellG HG5.out E3'.out
                  have q4 := cellG HG5.out E4'.out
                  go_wp2
                  refine Facts.wp_region_text (by kernel_rfl) (by kernel_rfl) ?_
                  iterate 14
                    apply Facts.Lex.exact [] _ (by kernel_rfl)
                    · intro u W hC hK
                      clear hK
                      have j0 := cellG hC n0
                      have j1 := cellG hC n1
                      have j2 := cellG hC n2
                      have j3 := cellG hC n3
                      have j4 := cellG hC n4
                      have k0 := cellG hC q0
                      have k1 := cellG hC q1
                      have k2 := cellG hC q2
                      have k3 := cellG hC q3
                      have k4 := cellG hC q4
                      have hne := HNE.out
                      unfold Facts.one
                      go_simp
                      first | exact ⟨Grew.refl _, rfl⟩ | rfl
                    simp only [Act.put, List.setIfInBounds_toArray, List.set_cons_zero, List.set_cons_succ, Nat.zero_add, Nat.reduceAdd]
                  apply Facts.Lex.exact [] (.bool true) (by kernel_rfl)
                  · intro u W hC hK
                    have HC9 := Lib.hid (HRI.out W (HI2.out.grew hC))
                    clear hK
                    unfold Facts.one
                    go_simp
                    exact (HC9.out.mono fun e w' ⟨he, hg⟩ => ⟨_, he, hg, rfl⟩)
                  simp only [Act.put, List.setIfInBounds_toArray, List.set_cons_zero, List.set_cons_succ, Nat.zero_add, Nat.reduceAdd]
                  iterate 2
                    apply Facts.Lex.exact [] _ (by kernel_rfl)
                    · intro u W hC hK
                      clear hK
                      have j0 := cellG hC n0
                      have j1 := cellG hC n1
                      have j2 := cellG hC n2
                      have j3 := cellG hC n3
                      have j4 := cellG hC n4
                      have k0 := cellG hC q0
                      have k1 := cellG hC q1
                      have k2 := cellG hC q2
                      have k3 := cellG hC q3
                      have k4 := cellG hC q4
                      have hne := HNE.out
                      unfold Facts.one
                      go_simp
                      first | exact ⟨Grew.refl _, rfl⟩ | rfl
                    simp only [Act.put, List.setIfInBounds_toArray, List.set_cons_zero, List.set_cons_succ, Nat.zero_add, Nat.reduceAdd]
                  refine Facts.Lex.done fun u W4 hC hL => ?_
                  have HG6 := Lib.hid (HG5.out.trans hC)
                  have HI6 := Lib.hid (HI2.out.grew hC)
                  clear hC hL q0 q1 q2 q3 q4 n0 n1 n2 n3 n4
                  go_wp2
                  go_roundg (L.length - (i + 1))
                  case measure => exact HGG.out
                  case rel => exact ⟨i + 1, now2, some adN, c2, rfl, by first | (simp; done) | rw [HWI.out], Nat.le_refl _, HI6, HP2, HG6⟩
            · have hsz : (S.length : Int) ≤ (i : Int) := by omega
              have hsd : decide (S.length ≤ i) = true := decide_eq_true (by omega)
              go_wp2
              refine Facts.wp_region_text (by kernel_rfl) (by kernel_rfl) ?_
              repeat
                apply Facts.Lex.exact [] _ (by kernel_rfl)
                · intro u W hC _
                  have j3 := cellG hC f3
                  have k3 := cellG hC e3
                  unfold Facts.one
                  go_simp
                  first | exact ⟨Grew.refl _, rfl⟩ | rfl
                simp only [Act.put, List.setIfInBounds_toArray, List.set_cons_zero, List.set_cons_succ, Nat.zero_add, Nat.reduceAdd]
              refine Facts.Lex.done fun u W2 hC hL => ?_
              have HG5 := Lib.hid (HG3.out.trans hC)
              have HI5 := Lib.hid (HI1.out.grew hC)
              clear hC hL f3 e3
              go_wp2
              go_roundg (L.length - (i + 1))
              case measure => exact HGG.out
              case rel => exact ⟨i + 1, now1, A1, c1, rfl, by first | (simp; done) | rw [HWI.out], Nat.le_refl _, HI5, HP1, HG5⟩
        · by_cases hiD : i < L.length
          · have hiz : (i : Int) < (L.length : Int) := by omega
            have hi4 : ¬ (i : Int) < 40 := by omega
            clear hgo hiD hgg
            go_wp2_with fail
            go_meet
            case rel => exact ⟨now, A, c, rfl, HI, HP, HG⟩
          · have hiz : ¬ (i : Int) < (L.length : Int) := by omega
            clear hgo hiD hgg
            go_wp2_with fail
            go_meet
            case rel => exact ⟨now, A, c, rfl, HI, HP, HG⟩
    case rest =>
      clear HIs HKP
      obtain ⟨now, A, c, rfl, HI, HP, HG⟩ := hcut
      have HGE := Lib.hid (get_any (.slice A m c) now (k : Int) rc wc HI.out (HLEN.out _ HP.out))
      rw [getP_yes (show k < now.length by rw [HP.out.len]; exact HKL.out) (by rw [HP.out.has]; exact HMU.out) (by rw [HP.out.has]; exact HMR.out), HP.out.has, HM.out] at HGE
      unfold mlv at HGE
      simp only at HGE
      have HTS := Lib.hid (fun W (h : Mls W (.slice A m c) now) => toss_any (.slice A m c) now (k : Int) (rc + 1) W h HP.out.sz (HLEN.out _ HP.out))
      rw [toss_no HP.out.ok (show k < now.length by rw [HP.out.len]; exact HKL.out) (by rw [HP.out.has, HMR.out]; omega)] at HTS
      have HWR : Hid (wrap64 (rc + 1) = rc + 1) := Lib.hid (by have := HRC.out; unfold wrap64; omega)
      have q3 := cellG HG.out E3'.out
      go_wp2_with fail
      refine HGE.out.mono ?_
      rintro e w6 ⟨rfl, hg⟩
      have g7 : Grew w6 (w6.alloc (.cells #[.bool true, .int .i64 lab, .int .i64 frm, .int .i64 rc, .string s] 23)) := by unfold Grew; go_grown
      have HG7 := Lib.hid ((HG.out.trans hg).trans g7)
      have HB7 := Lib.hid (blk_new w6 (.cells #[.bool true, .int .i64 lab, .int .i64 frm, .int .i64 rc, .string s] 23))
      have HI7 := Lib.hid ((HI.out.grew hg).grew g7)
      clear hg g7 q3 HGE
      have q3 := cellG HG7.out E3'.out
      have hwr := HWR.out
      go_wp2_with fail
      refine (HTS.out _ HI7.out).mono ?_
      rintro e w8 ha
      obtain ⟨v8, rfl, hi8, hg⟩ := ha
      obtain ⟨A8, c8, rfl, _⟩ := hi8.slice
      have HG8 := Lib.hid (HG7.out.trans hg)
      have HB8 := Lib.hid (keepB HB7.out hg)
      clear hi8 hg q3 hwr HTS
      go_wp2_with fail
      refine (HA.out _).mono ?_
      rintro e w9 ⟨rfl, hg⟩
      have HG9 := Lib.hid (HG8.out.trans hg)
      obtain ⟨j0, j1, j2, j3, j4⟩ := five_c (keepB HB8.out hg)
      have q0 := cellG HG9.out E0'.out
      have q1 := cellG HG9.out E1'.out
      have q2 := cellG HG9.out E2'.out
      have q3 := cellG HG9.out E3'.out
      have q4 := cellG HG9.out E4'.out
      have heq := HEQ.out
      have HGF := Lib.hid (HGs.out.trans HG9.out)
      clear hg
      go_wp2
      go_returns
      exact ⟨by simp, HGF.out⟩
end Go.Proofs.Ytcbaaeihppchiaa.PK
