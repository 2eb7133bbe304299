/-
  By price, and then by time.
  Conditions: those that each lemma names.
-/
import Derived.Test.YtmnfajplfnfgpaaORF
import Derived.Test.YtmnfajplfnfgpaaORG
import Derived.Test.YtmnfajplfnfgpaaOV
import Derived.Test.YtmnfajplfnfgpaaOQ
import Derived.Test.YtmnfajplfnfgpaaOF
import Derived.Lib.Hide
import Derived.Deep.LoopGhost
import Derived.Deep.DeepCutAuto
import Derived.Deep.CutBlock
import Derived.Deep.CutRange
namespace Go.Proofs.Ytmnfajplfnfgpaa.OR
set_option maxRecDepth 100000
open Go Go.RowKit Go.Lib Go.Proofs.Ytmnfajplfnfgpaa Go.Proofs.Ytmnfajplfnfgpaa.Facts Go.Proofs.Ytmnfajplfnfgpaa.Ints Go.Proofs.Ytmnfajplfnfgpaa.PA Go.Proofs.Ytmnfajplfnfgpaa.UM Go.Proofs.Ytmnfajplfnfgpaa.UB Go.Proofs.Ytmnfajplfnfgpaa.OA Go.Proofs.Ytmnfajplfnfgpaa.OP Go.Proofs.Ytmnfajplfnfgpaa.BP Go.Proofs.Ytmnfajplfnfgpaa.BQ Go.Proofs.Ytmnfajplfnfgpaa.OB Go.Proofs.Ytmnfajplfnfgpaa.OC Go.Proofs.Ytmnfajplfnfgpaa.OD Go.Proofs.Ytmnfajplfnfgpaa.OE Go.Proofs.Ytmnfajplfnfgpaa.OF Go.Proofs.Ytmnfajplfnfgpaa.OG Go.Proofs.Ytmnfajplfnfgpaa.OK Go.Proofs.Ytmnfajplfnfgpaa.OQ Go.Proofs.Ytmnfajplfnfgpaa.OLA Go.Proofs.Ytmnfajplfnfgpaa.ORA Go.Proofs.Ytmnfajplfnfgpaa.ORE Go.Proofs.Ytmnfajplfnfgpaa.ORF Go.Proofs.Ytmnfajplfnfgpaa.ORG Go.Proofs.Ytmnfajplfnfgpaa.ON Go.Proofs.Ytmnfajplfnfgpaa.OY Go.Proofs.Ytmnfajplfnfgpaa.OV Go.Proofs.Ytmnfajplfnfgpaa.Bytes


theorem fill_wf (l : List Or) : ∀ (S : List Nat) (now : List Or) (o : Or) (fs : List Fi), (∀ x ∈ l, WfO x) → (∀ x ∈ now, WfO x) → ∀ x ∈ (fillP l S now o fs).1, WfO x
  | [], _, _, _, _, h => h
  | i :: r, now, o, fs, hl, h => by
    rw [fillP]
    split
    · exact h
    · refine fill_wf l r _ _ _ hl fun x hx => ?_
      unfold nowP at hx
      rcases List.mem_or_eq_of_mem_set hx with h1 | h1
      · exact h x h1
      · rw [h1]
        have hz : WfO zor := by unfold WfO SzO zor; decide +kernel
        have he : WfO (eo l i) := by
          by_cases hi : i < l.length
          · exact hl _ (List.mem_of_getElem? (eo_get hi))
          · have : eo l i = zor := by unfold eo; rw [List.getElem?_eq_none (by omega)]; rfl
            rw [this]; exact hz
        split
        · exact ⟨⟨he.1.1, Nat.lt_of_le_of_lt (Nat.sub_le _ _) he.1.2.1, Nat.lt_of_le_of_lt (Nat.sub_le _ _) he.1.2.2⟩, he.2⟩
        · exact hz
theorem post_wf {l : List Or} {o : Or} {S : List Nat} (hs : ∀ x ∈ l, WfO x) (ho : WfO o) (he : (postP l o S).err = 0) (hS : Srt l o S) : (postP l o S).now.length = l.length ∧ ∀ x ∈ (postP l o S).now, WfO x := by
  obtain ⟨⟨hr, hm, ht⟩, hfr, hp⟩ := post_fine he
  have hFO := FO.of_may ((may_iff o).1 hm)
  have hfo := fill_ord l S l o [] (BQ.Srt.all hS hr) hFO
  have hln := fill_len l S l o []
  have hwf := fill_wf l S l o [] hs hs
  rw [hp]
  rcases hx : fillP l S l o [] with ⟨now, fs, r⟩
  rw [hx] at hfo hln hwf
  simp only at hfo hln hwf
  obtain ⟨h1, h2⟩ := hfo
  by_cases h0 : r.left = 0
  · have e : restP (now, fs, r) = ⟨now, fs, -1, r.res, 0⟩ := if_pos h0
    rw [e]
    exact ⟨hln, hwf⟩
  · have e : restP (now, fs, r) = ⟨now.set (ordfree now).toNat { r with used := true, res := (needP r.side r.left r.price).1 }, fs, ordfree now, r.res - (needP r.side r.left r.price).1, 0⟩ := if_neg h0
    rw [e]
    refine ⟨by simp only [List.length_set]; exact hln, fun x hx => ?_⟩
    rcases List.mem_or_eq_of_mem_set hx with h | h
    · exact hwf x h
    · rw [h]
      obtain ⟨_, hle, _⟩ := FO.need h1 h0
      have a1 := h1.le
      have a2 := h1.rl
      have a3 := ho.1.1
      unfold top at a1 a2
      refine ⟨⟨?_, ?_, ?_⟩, ?_⟩
      · show r.price < _; rw [h2.price]; exact a3
      · show r.left < _; omega
      · show (needP r.side r.left r.price).1 < _; omega
      · show (Lit.int .i64 r.seq).wf = true; rw [h2.seq]; exact ho.2


/-- Two boxes that are made, and two orders that are stored into them, in any order. -/
structure J2 (w0 : World) (A B : Or) (m : Nat → Bool) (u : Nat → Value) (w : World) : Prop where
  g : Grew w0 w
  a : m 14 = true → ∃ b, u 14 = .pointer (some ⟨b, 0, none⟩) ∧ w0.heap.size ≤ b ∧ Bx w b (if m 16 then A else zor)
  c : m 15 = true → ∃ b, u 15 = .pointer (some ⟨b, 0, none⟩) ∧ w0.heap.size ≤ b ∧ Bx w b (if m 17 then B else zor)
  d : m 14 = true → m 15 = true → u 14 ≠ u 15
  e : m 16 = true → m 14 = true
  f : m 17 = true → m 15 = true
theorem J2.start (w : World) (A B : Or) : J2 w A B (fun _ => false) (fun _ => undef) w.drew :=
  ⟨(Grew.refl w).drew, (fun h => by cases h), (fun h => by cases h), (fun h => by cases h), (fun h => by cases h), (fun h => by cases h)⟩
section
variable {w0 w w' : World} {A B : Or} {m : Nat → Bool} {u : Nat → Value}
theorem J2.keep (h : J2 w0 A B m u w) (k : Nat) (v : Value) (hk : k < 14) (hg : Grew w w') : J2 w0 A B (Marks.upd m k) (Marks.updv u k v) w' := by
  refine ⟨h.g.trans hg, ?_, ?_, ?_, ?_, ?_⟩
  · rw [Marks.upd_other m (by omega), Marks.upd_other m (by omega), Marks.updv_other u v (by omega)]
    intro h4
    obtain ⟨b, e1, e2, e3⟩ := h.a h4
    exact ⟨b, e1, e2, keepB e3 hg⟩
  · rw [Marks.upd_other m (by omega), Marks.upd_other m (by omega), Marks.updv_other u v (by omega)]
    intro h4
    obtain ⟨b, e1, e2, e3⟩ := h.c h4
    exact ⟨b, e1, e2, keepB e3 hg⟩
  · rw [Marks.upd_other m (by omega), Marks.upd_other m (by omega), Marks.updv_other u v (by omega), Marks.updv_other u v (by omega)]
    exact h.d
  · rw [Marks.upd_other m (by omega), Marks.upd_other m (by omega)]
    exact h.e
  · rw [Marks.upd_other m (by omega), Marks.upd_other m (by omega)]
    exact h.f
theorem J2.new14 (h : J2 w0 A B m u w) (h4 : m 14 = false) : J2 w0 A B (Marks.upd m 14) (Marks.updv u 14 (.pointer (some ⟨w.heap.size, 0, none⟩))) (w.alloc (.cells #[.bool false, .int .i64 0, .int .i64 0, .int .i64 0, .int .i64 0, .int .i64 0, .int .u64 0, .int .u64 0, .int .u64 0, .int .i64 0] 26)) := by
  have hg : Grew w (w.alloc (.cells #[.bool false, .int .i64 0, .int .i64 0, .int .i64 0, .int .i64 0, .int .i64 0, .int .u64 0, .int .u64 0, .int .u64 0, .int .i64 0] 26)) := by unfold Grew; exact (Below.refl _ _).alloc (Nat.le_refl _) _
  have h6 : m 16 = false := by
    cases hm : m 16 with
    | false => rfl
    | true => have := h.e hm; rw [h4] at this; cases this
  refine ⟨h.g.trans hg, ?_, ?_, ?_, ?_, ?_⟩
  · intro _
    rw [Marks.upd_other m (by omega), Marks.updv_same, h6]
    exact ⟨_, rfl, h.g.size, blk_new w _⟩
  · rw [Marks.upd_other m (by omega), Marks.upd_other m (by omega), Marks.updv_other u _ (by omega)]
    intro h5
    obtain ⟨b, e1, e2, e3⟩ := h.c h5
    exact ⟨b, e1, e2, keepB e3 hg⟩
  · rw [Marks.upd_other m (show 15 ≠ 14 by omega), Marks.updv_same, Marks.updv_other u _ (by omega)]
    intro _ h5
    obtain ⟨b, e1, e2, e3⟩ := h.c h5
    have := e3.lt
    rw [e1]
    intro e
    injection e with e
    injection e with e
    injection e with e
    omega
  · rw [Marks.upd_same]
    exact fun _ => rfl
  · rw [Marks.upd_other m (by omega), Marks.upd_other m (by omega)]
    exact h.f
theorem J2.new15 (h : J2 w0 A B m u w) (h5 : m 15 = false) : J2 w0 A B (Marks.upd m 15) (Marks.updv u 15 (.pointer (some ⟨w.heap.size, 0, none⟩))) (w.alloc (.cells #[.bool false, .int .i64 0, .int .i64 0, .int .i64 0, .int .i64 0, .int .i64 0, .int .u64 0, .int .u64 0, .int .u64 0, .int .i64 0] 26)) := by
  have hg : Grew w (w.alloc (.cells #[.bool false, .int .i64 0, .int .i64 0, .int .i64 0, .int .i64 0, .int .i64 0, .int .u64 0, .int .u64 0, .int .u64 0, .int .i64 0] 26)) := by unfold Grew; exact (Below.refl _ _).alloc (Nat.le_refl _) _
  have h7 : m 17 = false := by
    cases hm : m 17 with
    | false => rfl
    | true => have := h.f hm; rw [h5] at this; cases this
  refine ⟨h.g.trans hg, ?_, ?_, ?_, ?_, ?_⟩
  · rw [Marks.upd_other m (by omega), Marks.upd_other m (by omega), Marks.updv_other u _ (by omega)]
    intro h4
    obtain ⟨b, e1, e2, e3⟩ := h.a h4
    exact ⟨b, e1, e2, keepB e3 hg⟩
  · intro _
    rw [Marks.upd_other m (by omega), Marks.updv_same, h7]
    exact ⟨_, rfl, h.g.size, blk_new w _⟩
  · rw [Marks.upd_other m (show 14 ≠ 15 by omega), Marks.updv_same, Marks.updv_other u _ (by omega)]
    intro h4 _
    obtain ⟨b, e1, e2, e3⟩ := h.a h4
    have := e3.lt
    rw [e1]
    intro e
    injection e with e
    injection e with e
    injection e with e
    omega
  · rw [Marks.upd_other m (by omega), Marks.upd_other m (by omega)]
    exact h.e
  · rw [Marks.upd_same]
    exact fun _ => rfl
theorem ptr_ne {v1 v2 : Value} {b c : Nat} (h : v1 ≠ v2) (h1 : v1 = .pointer (some ⟨b, 0, none⟩)) (h2 : v2 = .pointer (some ⟨c, 0, none⟩)) : b ≠ c := fun e => h (by rw [h1, h2, e])
theorem J2.put16 (h : J2 w0 A B m u w) {b : Nat} (hb : u 14 = .pointer (some ⟨b, 0, none⟩)) (h4 : m 14 = true) (v : Value) (hx : Bx w' b A) (hg : w.grownBy w' (some b)) : J2 w0 A B (Marks.upd m 16) (Marks.updv u 16 v) w' := by
  obtain ⟨b', e1, e2, e3⟩ := h.a h4
  rw [hb] at e1
  injection e1 with e1
  injection e1 with e1
  injection e1 with e1
  subst e1
  refine ⟨?_, ?_, ?_, ?_, ?_, ?_⟩
  · exact below_at (show Below w0.heap.size w0 w from h.g) hg e2 h.g.size
  · intro _
    rw [Marks.upd_same, Marks.updv_other u _ (by omega)]
    exact ⟨b, hb, e2, hx⟩
  · rw [Marks.upd_other m (by omega), Marks.upd_other m (by omega), Marks.updv_other u _ (by omega)]
    intro h5
    obtain ⟨c, c1, c2, c3⟩ := h.c h5
    exact ⟨c, c1, c2, box_kept c3 hg (fun e => ptr_ne (h.d h4 h5) hb c1 e.symm)⟩
  · rw [Marks.upd_other m (by omega), Marks.upd_other m (by omega), Marks.updv_other u _ (by omega), Marks.updv_other u _ (by omega)]
    exact h.d
  · rw [Marks.upd_other m (show 14 ≠ 16 by omega)]
    exact fun _ => h4
  · rw [Marks.upd_other m (by omega), Marks.upd_other m (by omega)]
    exact h.f
theorem J2.put17 (h : J2 w0 A B m u w) {b : Nat} (hb : u 15 = .pointer (some ⟨b, 0, none⟩)) (h5 : m 15 = true) (v : Value) (hx : Bx w' b B) (hg : w.grownBy w' (some b)) : J2 w0 A B (Marks.upd m 17) (Marks.updv u 17 v) w' := by
  obtain ⟨b', e1, e2, e3⟩ := h.c h5
  rw [hb] at e1
  injection e1 with e1
  injection e1 with e1
  injection e1 with e1
  subst e1
  refine ⟨?_, ?_, ?_, ?_, ?_, ?_⟩
  · exact below_at (show Below w0.heap.size w0 w from h.g) hg e2 h.g.size
  · rw [Marks.upd_other m (by omega), Marks.upd_other m (by omega), Marks.updv_other u _ (by omega)]
    intro h4
    obtain ⟨c, c1, c2, c3⟩ := h.a h4
    exact ⟨c, c1, c2, box_kept c3 hg (fun e => ptr_ne (h.d h4 h5) c1 hb e)⟩
  · intro _
    rw [Marks.upd_same, Marks.updv_other u _ (by omega)]
    exact ⟨b, hb, e2, hx⟩
  · rw [Marks.upd_other m (by omega), Marks.upd_other m (by omega), Marks.updv_other u _ (by omega), Marks.updv_other u _ (by omega)]
    exact h.d
  · rw [Marks.upd_other m (by omega), Marks.upd_other m (by omega)]
    exact h.e
  · rw [Marks.upd_other m (show 15 ≠ 17 by omega)]
    exact fun _ => h5
end
def PtrV (v : Value) (_ : World) : Prop := ∃ b, v = .pointer (some ⟨b, 0, none⟩)
/-- How much the first fills take. -/
def got (fs : List Fi) (i : Nat) : Nat := ((fs.take i).map (·.qty)).sum
theorem got_step {fs : List Fi} {i : Nat} {x : Fi} (h : fs[i]? = some x) : got fs (i + 1) = got fs i + x.qty := by
  unfold got
  rw [List.take_add_one, h]
  simp
theorem got_le (fs : List Fi) (i : Nat) : got fs i ≤ (fs.map (·.qty)).sum := by
  have h : (fs.map (·.qty)).sum = got fs i + ((fs.drop i).map (·.qty)).sum := by
    unfold got
    rw [← List.sum_append, ← List.map_append, List.take_append_drop]
  omega
theorem got_all (fs : List Fi) : got fs fs.length = (fs.map (·.qty)).sum := by unfold got; rw [List.take_length]
set_option maxHeartbeats 16000000 in
theorem law (v : Value) (l : List Or) (o : Or) (w : World) (h : Ors w v l) (hs : ∀ x ∈ l, WfO x) (ho : WfO o) : Calls Try.prog 6 #[v, orv o] w fun e w' => e = .returned (.bool true) ∧ Grew w w' := by
  have HL := Lib.hid h
  have HAL := Lib.hid alive_any
  by_cases hlen : l.length ≤ 100
  · have HP := Lib.hid (fun W (hg : Grew w W) => post_any v l o W (h.grew hg) (by omega) hs ho)
    have HERR := Lib.hid (fun S => err_of (l := l) (o := o) (S := S))
    have HRES := Lib.hid (fun S (hS : Srt l o S) => res_of hS)
    have HWF := Lib.hid (fun S (hS : Srt l o S) he => post_wf hs ho he hS)
    have HSD := Lib.hid (fun S (he : (postP l o S).err = 0) => ((may_iff o).1 (post_fine he).1.2.1).sd)
    have HCR := Lib.hid (fun W (hg : Grew w W) => crossed_any v l W (h.grew hg) (by omega))
    have HME := Lib.hid (fun k W => rmeets_any o (eo l k) W)
    have HLT : Hid (o.left < 18446744073709551616) := Lib.hid ho.1.2.1
    have HLN := Lib.hid hlen
    obtain ⟨A, c, rfl, _⟩ := h.slice
    have hl1 : ¬ (100 : Int) < (l.length : Int) := by omega
    have g0 : Grew w (w.alloc (.cells (ocs o).toArray 26)) := by unfold Grew; go_grown
    have G0 := Lib.hid g0
    have B0 := Lib.hid (blk_new w (.cells (ocs o).toArray 26))
    obtain ⟨us, lb, wh, sd, bs, qt, pr, lf, rs, sq⟩ := o
    unfold orv ocs at *
    simp only at HP HME HLT HSD B0 G0 ⊢
    obtain ⟨o0, o1, o2, o3, o4, o5, o6, o7, o8, o9⟩ := ten_c B0.out
    clear h hs ho g0 hlen
    go_enter Try.func6, Try.ntmps6
    go_wp2_with fail
    refine (HP.out _ G0.out).mono ?_
    rintro e w1 ⟨S, v1, v2, hS, _, rfl, hO, hF, hg⟩
    have G1 := Lib.hid (G0.out.trans hg)
    have B1 := Lib.hid (keepB B0.out hg)
    have HE2 := Lib.hid (HERR.out S)
    have HR2 := Lib.hid (fun he => HRES.out S (hS he) he)
    have HW2 := Lib.hid (fun he => HWF.out S (hS he) he)
    have HS2 := Lib.hid (HSD.out S)
    clear HERR HRES HWF HSD HP o0 o1 o2 o3 o4 o5 o6 o7 o8 o9 G0 B0 hS hg
    generalize postP l ⟨us, lb, wh, sd, bs, qt, pr, lf, rs, sq⟩ S = P at *
    obtain ⟨now, fs, ak, sur, err⟩ := P
    simp only at hO hF HE2 HR2 HW2 HS2 ⊢
    by_cases he : err = 0
    · subst he
      have RES := Lib.hid (HR2.out rfl)
      have SD := Lib.hid (HS2.out rfl)
      obtain ⟨hnl, hnw⟩ := HW2.out rfl
      have HRT := Lib.hid (right_any v1 now w1 hO (by have := HLN.out; omega) hnw)
      rw [show rightO now = true from RES.out.rt] at HRT
      have HCN := Lib.hid (fun W (hg : Grew w1 W) => crossed_any v1 now W (hO.grew hg) (by have := HLN.out; omega))
      have HNL : Hid (now.length = l.length) := Lib.hid hnl
      have hnl2 : ((now.length : Int) != (l.length : Int)) = false := by simp [hnl]
      have FLN : Hid (fs.length ≤ 1000) := Lib.hid (by have h1 := RES.out.fn; have h2 := HLN.out; simp only at h1; omega)
      obtain ⟨A1, k1, rfl, _⟩ := hO.slice
      obtain ⟨A2, k2, rfl, _⟩ := hF.slice
      have N1 := Lib.hid hO
      have F1 := Lib.hid hF
      clear HE2 HR2 HW2 HS2 hO hF hnl hnw
      have hcr := RES.out.cr
      go_upto_region 6 with fail
      go_cut [5, 6, 7, 59] (fun s5 s6 s7 s59 wx => s5 = .slice A1 now.length k1 ∧ s6 = .slice A2 fs.length k2 ∧ s7 = .int .i64 ak ∧ s59 = .bool false ∧ Hid (Grew w1 wx))
      case first =>
        go_wp2_with fail
        refine HRT.out.mono ?_
        rintro e w2 ⟨rfl, hg⟩
        have G2 := Lib.hid (G1.out.trans hg)
        have H12 := Lib.hid hg
        clear hg HRT
        go_wp2_with fail
        refine (HCR.out _ G2.out).mono ?_
        rintro e w3 ⟨rfl, hg⟩
        have H13 := Lib.hid (H12.out.trans hg)
        clear hg H12 G2 HCR
        rcases hcb : crossB l with _ | _
        · rw [show crossB now = false from hcr hcb] at HCN
          clear hcr hcb
          go_wp2_with fail
          refine (HCN.out _ H13.out).mono ?_
          rintro e w4 ⟨rfl, hg⟩
          have H14 := Lib.hid (H13.out.trans hg)
          clear hg H13 HCN
          go_wp2
          go_meet
          case rel => exact ⟨rfl, rfl, rfl, rfl, H14⟩
        · clear hcr hcb HCN
          go_wp2
          go_meet
          case rel => exact ⟨rfl, rfl, rfl, rfl, H13⟩
      case rest =>
        obtain ⟨rfl, rfl, rfl, rfl, H14⟩ := hcut
        clear hcr HCR HCN HRT
        have G4 := Lib.hid (G1.out.trans H14.out)
        have B4 := Lib.hid (keepB B1.out H14.out)
        have N4 := Lib.hid (N1.out.grew H14.out)
        have F4 := Lib.hid (Rw.grew F1.out H14.out)
        clear H14 G1 B1 N1 F1
        go_wp2
        go_loopg [10, 11] fs.length (fun g s10 s11 wx => ∃ i : Nat, i + g = fs.length ∧ s10 = .int .u64 (got fs i : Int) ∧ s11 = .int .i64 i ∧ Hid (Grew _ wx))
        case atStart => exact ⟨0, by omega, rfl, rfl, Lib.hid (Grew.refl _)⟩
        case round =>
          obtain ⟨i, hkg, rfl, rfl, HG⟩ := hrel
          cases gk with
          | zero =>
            have hkz : ¬ ((i : Int) < (fs.length : Int)) := by omega
            have hgot : got fs i = (fs.map (·.qty)).sum := by rw [show i = fs.length by omega]; exact got_all fs
            have GE := Lib.hid (G4.out.trans HG.out)
            have B5 := Lib.hid (keepB B4.out HG.out)
            have N5 := Lib.hid (N4.out.grew HG.out)
            obtain ⟨o0, o1, o2, o3, o4, o5, o6, o7, o8, o9⟩ := ten_c B5.out
            have hen := RES.out.en
            simp only at hen
            rw [← hgot] at hen
            have hgsm : got fs i ≤ lf := by have h2 := RES.out.sm; simp only at h2; rw [hgot]; exact h2
            generalize got fs i = gi at *
            clear hkg hgot
            rcases hen with ⟨rfl, hsum⟩ | ⟨k, rfl, hk, hu, hq, hl⟩
            · have hgl : ((gi : Int) == (lf : Int)) = true := by simp [hsum]
              clear hsum
              go_wp2_with fail
              refine (HAL.out _).mono ?_
              rintro e w6 ⟨rfl, hg⟩
              have G6 := Lib.hid (GE.out.trans hg)
              clear o0 o1 o2 o3 o4 o5 o6 o7 o8 o9
              obtain ⟨o0, o1, o2, o3, o4, o5, o6, o7, o8, o9⟩ := ten_c (keepB B5.out hg)
              clear hg
              go_wp2
              go_returns
              exact ⟨rfl, G6.out⟩
            · as_aux_lemma =>
                have hk0 : ¬ ((k : Int) < 0) := by omega
                have hk1 : (k : Int) < (now.length : Int) := by omega
                have hgo : gi ≤ lf := hgsm
                have HWS0 := wsub lf gi hgo (by have := HLT.out; simpa using this)
                obtain ⟨m, hm⟩ : ∃ m, lf - gi = m := ⟨_, rfl⟩
                rw [hm] at HWS0 hl
                have HWS := Lib.hid HWS0
                clear HWS0
                obtain ⟨ad, c9, e, _, z0, z1, z2, z3, z4, z5, z6, z7, z8, z9⟩ := Ors_at N5.out (eo_get hk)
                injection e with e1 e2 e3
                subst e1 e3
                clear e2
                rw [hu] at z0
                rw [hq] at z9
                rw [hl] at z7
                clear hu hq hl hm hk
                go_wp2
                refine Facts.wp_region_text (by kernel_rfl) (by kernel_rfl) ?_
                apply Facts.Lex.exact [] _ (by kernel_rfl)
                · intro u W hC _
                  unfold Facts.one
                  go_simp
                  exact ((HAL.out W).mono fun e w' ⟨he, hg⟩ => ⟨_, he, hg, rfl⟩)
                simp only [Act.put, List.setIfInBounds_toArray, List.set_cons_zero, List.set_cons_succ, Nat.zero_add]
                apply Facts.Lex.exact [] _ (by kernel_rfl)
                · intro u W hC _
                  unfold Facts.one
                  go_simp
                  first | exact ⟨Grew.refl _, rfl⟩ | rfl
                simp only [Act.put, List.setIfInBounds_toArray, List.set_cons_zero, List.set_cons_succ, Nat.reduceAdd]
                apply Facts.Lex.exact [] _ (by kernel_rfl)
                · intro u W hC _
                  unfold Facts.one
                  go_simp
                  first | exact ⟨Grew.refl _, rfl⟩ | rfl
                simp only [Act.put, List.setIfInBounds_toArray, List.set_cons_zero, List.set_cons_succ, Nat.reduceAdd]
                apply Facts.Lex.exact [] _ (by kernel_rfl)
                · intro u W hC _
                  unfold Facts.one
                  go_simp
                  first | exact ⟨Grew.refl _, rfl⟩ | rfl
                simp only [Act.put, List.setIfInBounds_toArray, List.set_cons_zero, List.set_cons_succ, Nat.reduceAdd]
                apply Facts.Lex.exact [] _ (by kernel_rfl)
                · intro u W hC _
                  unfold Facts.one
                  go_simp
                  first | exact ⟨Grew.refl _, rfl⟩ | rfl
                simp only [Act.put, List.setIfInBounds_toArray, List.set_cons_zero, List.set_cons_succ, Nat.reduceAdd]
                apply Facts.Lex.exact [] _ (by kernel_rfl)
                · intro u W hC _
                  unfold Facts.one
                  go_simp
                  first | exact ⟨Grew.refl _, rfl⟩ | rfl
                simp only [Act.put, List.setIfInBounds_toArray, List.set_cons_zero, List.set_cons_succ, Nat.reduceAdd]
                apply Facts.Lex.exact [] _ (by kernel_rfl)
                · intro u W hC _
                  unfold Facts.one
                  go_simp
                  first | exact ⟨Grew.refl _, rfl⟩ | rfl
                simp only [Act.put, List.setIfInBounds_toArray, List.set_cons_zero, List.set_cons_succ, Nat.reduceAdd]
                apply Facts.Lex.exact [] _ (by kernel_rfl)
                · intro u W hC _
                  unfold Facts.one
                  go_simp
                  first | exact ⟨Grew.refl _, rfl⟩ | rfl
                simp only [Act.put, List.setIfInBounds_toArray, List.set_cons_zero, List.set_cons_succ, Nat.reduceAdd]
                apply Facts.Lex.exact [] _ (by kernel_rfl)
                · intro u W hC _
                  unfold Facts.one
                  go_simp
                  first | exact ⟨Grew.refl _, rfl⟩ | rfl
                simp only [Act.put, List.setIfInBounds_toArray, List.set_cons_zero, List.set_cons_succ, Nat.reduceAdd]
                apply Facts.Lex.exact [] _ (by kernel_rfl)
                · intro u W hC _
                  unfold Facts.one
                  go_simp
                  first | exact ⟨Grew.refl _, rfl⟩ | rfl
                simp only [Act.put, List.setIfInBounds_toArray, List.set_cons_zero, List.set_cons_succ, Nat.reduceAdd]
                apply Facts.Lex.exact [] _ (by kernel_rfl)
                · intro u W hC _
                  unfold Facts.one
                  go_simp
                  first | exact ⟨Grew.refl _, rfl⟩ | rfl
                simp only [Act.put, List.setIfInBounds_toArray, List.set_cons_zero, List.set_cons_succ, Nat.reduceAdd]
                apply Facts.Lex.exact [] _ (by kernel_rfl)
                · intro u W hC _
                  unfold Facts.one
                  go_simp
                  first | exact ⟨Grew.refl _, rfl⟩ | rfl
                simp only [Act.put, List.setIfInBounds_toArray, List.set_cons_zero, List.set_cons_succ, Nat.reduceAdd]
                apply Facts.Lex.exact [] _ (by kernel_rfl)
                · intro u W hC _
                  have jz0 := cellG hC z0
                  unfold Facts.one
                  go_simp
                  first | exact ⟨Grew.refl _, rfl⟩ | rfl
                simp only [Act.put, List.setIfInBounds_toArray, List.set_cons_zero, List.set_cons_succ, Nat.reduceAdd]
                apply Facts.Lex.exact [] _ (by kernel_rfl)
                · intro u W hC _
                  unfold Facts.one
                  go_simp
                  first | exact ⟨Grew.refl _, rfl⟩ | rfl
                simp only [Act.put, List.setIfInBounds_toArray, List.set_cons_zero, List.set_cons_succ, Nat.reduceAdd]
                apply Facts.Lex.exact [] _ (by kernel_rfl)
                · intro u W hC _
                  unfold Facts.one
                  go_simp
                  first | exact ⟨Grew.refl _, rfl⟩ | rfl
                simp only [Act.put, List.setIfInBounds_toArray, List.set_cons_zero, List.set_cons_succ, Nat.reduceAdd]
                apply Facts.Lex.exact [] _ (by kernel_rfl)
                · intro u W hC _
                  unfold Facts.one
                  go_simp
                  first | exact ⟨Grew.refl _, rfl⟩ | rfl
                simp only [Act.put, List.setIfInBounds_toArray, List.set_cons_zero, List.set_cons_succ, Nat.reduceAdd]
                apply Facts.Lex.exact [] _ (by kernel_rfl)
                · intro u W hC _
                  unfold Facts.one
                  go_simp
                  first | exact ⟨Grew.refl _, rfl⟩ | rfl
                simp only [Act.put, List.setIfInBounds_toArray, List.set_cons_zero, List.set_cons_succ, Nat.reduceAdd]
                apply Facts.Lex.exact [] _ (by kernel_rfl)
                · intro u W hC _
                  unfold Facts.one
                  go_simp
                  first | exact ⟨Grew.refl _, rfl⟩ | rfl
                simp only [Act.put, List.setIfInBounds_toArray, List.set_cons_zero, List.set_cons_succ, Nat.reduceAdd]
                apply Facts.Lex.exact [] _ (by kernel_rfl)
                · intro u W hC _
                  unfold Facts.one
                  go_simp
                  first | exact ⟨Grew.refl _, rfl⟩ | rfl
                simp only [Act.put, List.setIfInBounds_toArray, List.set_cons_zero, List.set_cons_succ, Nat.reduceAdd]
                apply Facts.Lex.exact [] _ (by kernel_rfl)
                · intro u W hC _
                  have jz9 := cellG hC z9
                  unfold Facts.one
                  go_simp
                  first | exact ⟨Grew.refl _, rfl⟩ | rfl
                simp only [Act.put, List.setIfInBounds_toArray, List.set_cons_zero, List.set_cons_succ, Nat.reduceAdd]
                apply Facts.Lex.exact [] _ (by kernel_rfl)
                · intro u W hC _
                  unfold Facts.one
                  go_simp
                  first | exact ⟨Grew.refl _, rfl⟩ | rfl
                simp only [Act.put, List.setIfInBounds_toArray, List.set_cons_zero, List.set_cons_succ, Nat.reduceAdd]
                apply Facts.Lex.exact [] _ (by kernel_rfl)
                · intro u W hC _
                  have jo9 := cellG hC o9
                  unfold Facts.one
                  go_simp
                  first | exact ⟨Grew.refl _, rfl⟩ | rfl
                simp only [Act.put, List.setIfInBounds_toArray, List.set_cons_zero, List.set_cons_succ, Nat.reduceAdd]
                apply Facts.Lex.exact [] _ (by kernel_rfl)
                · intro u W hC _
                  unfold Facts.one
                  go_simp
                  first | exact ⟨Grew.refl _, rfl⟩ | rfl
                simp only [Act.put, List.setIfInBounds_toArray, List.set_cons_zero, List.set_cons_succ, Nat.reduceAdd]
                apply Facts.Lex.exact [] _ (by kernel_rfl)
                · intro u W hC _
                  unfold Facts.one
                  go_simp
                  first | exact ⟨Grew.refl _, rfl⟩ | rfl
                simp only [Act.put, List.setIfInBounds_toArray, List.set_cons_zero, List.set_cons_succ, Nat.reduceAdd]
                apply Facts.Lex.exact [] _ (by kernel_rfl)
                · intro u W hC _
                  unfold Facts.one
                  go_simp
                  first | exact ⟨Grew.refl _, rfl⟩ | rfl
                simp only [Act.put, List.setIfInBounds_toArray, List.set_cons_zero, List.set_cons_succ, Nat.reduceAdd]
                apply Facts.Lex.exact [] _ (by kernel_rfl)
                · intro u W hC _
                  unfold Facts.one
                  go_simp
                  first | exact ⟨Grew.refl _, rfl⟩ | rfl
                simp only [Act.put, List.setIfInBounds_toArray, List.set_cons_zero, List.set_cons_succ, Nat.reduceAdd]
                apply Facts.Lex.exact [] _ (by kernel_rfl)
                · intro u W hC _
                  unfold Facts.one
                  go_simp
                  first | exact ⟨Grew.refl _, rfl⟩ | rfl
                simp only [Act.put, List.setIfInBounds_toArray, List.set_cons_zero, List.set_cons_succ, Nat.reduceAdd]
                apply Facts.Lex.exact [] _ (by kernel_rfl)
                · intro u W hC _
                  unfold Facts.one
                  go_simp
                  first | exact ⟨Grew.refl _, rfl⟩ | rfl
                simp only [Act.put, List.setIfInBounds_toArray, List.set_cons_zero, List.set_cons_succ, Nat.reduceAdd]
                apply Facts.Lex.exact [] _ (by kernel_rfl)
                · intro u W hC _
                  unfold Facts.one
                  go_simp
                  first | exact ⟨Grew.refl _, rfl⟩ | rfl
                simp only [Act.put, List.setIfInBounds_toArray, List.set_cons_zero, List.set_cons_succ, Nat.reduceAdd]
                apply Facts.Lex.exact [] _ (by kernel_rfl)
                · intro u W hC _
                  have jz7 := cellG hC z7
                  unfold Facts.one
                  go_simp
                  first | exact ⟨Grew.refl _, rfl⟩ | rfl
                simp only [Act.put, List.setIfInBounds_toArray, List.set_cons_zero, List.set_cons_succ, Nat.reduceAdd]
                apply Facts.Lex.exact [] _ (by kernel_rfl)
                · intro u W hC _
                  unfold Facts.one
                  go_simp
                  first | exact ⟨Grew.refl _, rfl⟩ | rfl
                simp only [Act.put, List.setIfInBounds_toArray, List.set_cons_zero, List.set_cons_succ, Nat.reduceAdd]
                apply Facts.Lex.exact [] _ (by kernel_rfl)
                · intro u W hC _
                  have jo7 := cellG hC o7
                  unfold Facts.one
                  go_simp
                  first | exact ⟨Grew.refl _, rfl⟩ | rfl
                simp only [Act.put, List.setIfInBounds_toArray, List.set_cons_zero, List.set_cons_succ, Nat.reduceAdd]
                apply Facts.Lex.exact [] _ (by kernel_rfl)
                · intro u W hC _
                  unfold Facts.one
                  go_simp
                  first | exact ⟨Grew.refl _, rfl⟩ | rfl
                simp only [Act.put, List.setIfInBounds_toArray, List.set_cons_zero, List.set_cons_succ, Nat.reduceAdd]
                apply Facts.Lex.exact [] _ (by kernel_rfl)
                · intro u W hC _
                  have d := HWS.out
                  unfold Facts.one
                  go_simp
                  first | exact ⟨Grew.refl _, rfl⟩ | rfl
                simp only [Act.put, List.setIfInBounds_toArray, List.set_cons_zero, List.set_cons_succ, Nat.reduceAdd]
                apply Facts.Lex.exact [] _ (by kernel_rfl)
                · intro u W hC _
                  unfold Facts.one
                  go_simp
                  first | exact ⟨Grew.refl _, rfl⟩ | rfl
                simp only [Act.put, List.setIfInBounds_toArray, List.set_cons_zero, List.set_cons_succ, Nat.reduceAdd]
                apply Facts.Lex.exact [] _ (by kernel_rfl)
                · intro u W hC _
                  unfold Facts.one
                  go_simp
                  first | exact ⟨Grew.refl _, rfl⟩ | rfl
                simp only [Act.put, List.setIfInBounds_toArray, List.set_cons_zero, List.set_cons_succ, Nat.reduceAdd]
                apply Facts.Lex.exact [] _ (by kernel_rfl)
                · intro u W hC _
                  unfold Facts.one
                  go_simp
                  first | exact ⟨Grew.refl _, rfl⟩ | rfl
                simp only [Act.put, List.setIfInBounds_toArray, List.set_cons_zero, List.set_cons_succ, Nat.reduceAdd]
                refine Facts.Lex.done fun u W6 hC hL => ?_
                have G6 := Lib.hid (GE.out.trans hC)
                clear hC hL o0 o1 o2 o3 o4 o5 o6 o7 o8 o9 z0 z1 z2 z3 z4 z5 z6 z7 z8 z9
                go_wp2
                go_returns
                exact ⟨rfl, G6.out⟩

          | succ g =>
            as_aux_lemma =>
              have hil : i < fs.length := by omega
              have hiz : (i : Int) < (fs.length : Int) := by omega
              have hi0 : ¬ ((i : Int) < 0) := by omega
              obtain ⟨x, hx⟩ : ∃ x, fs[i]? = some x := ⟨_, List.getElem?_eq_getElem hil⟩
              obtain ⟨k, k1, k2, k3, k4, k5, k6⟩ := RES.out.fl i x hx
              have GS := Lib.hid (got_step hx)
              have hgl := got_le fs (i + 1)
              have hsm := RES.out.sm
              have HLQ := Lib.hid HLT.out
              have hgw : IntKind.u64.wrap ((got fs i : Int) + (x.qty : Int)) = ((got fs i + x.qty : Nat) : Int) := by
                rw [IntKind.wrap_u64, ← got_step hx]
                have h1 := HLQ.out
                have h2 := got_step hx
                simp only at h1 hsm
                omega
              obtain ⟨gi2, hgi2⟩ : ∃ q, got fs i + x.qty = q := ⟨_, rfl⟩
              rw [hgi2] at hgw GS
              generalize hgi : got fs i = gi at *
              clear hgi hgi2 hgl hsm HLQ
              have HNX := Lib.hid (fun j p (hp : fs[j]? = some p) (hj : i = j + 1) => RES.out.nx j p x hp (by rw [← hj]; exact hx))
              have HM := Lib.hid (HME.out k)
              rw [k3] at HM
              obtain ⟨ad, c9, e, _, x0, x1, x2⟩ := Fis_at (Rw.grew F4.out HG.out) hx
              injection e with e1 e2 e3
              subst e1 e3
              clear e2
              obtain ⟨ad2, c8, e, _, y0, y1, y2, y3, y4, y5, y6, y7, y8, y9⟩ := Ors_at (HL.out.grew (G4.out.trans HG.out)) (eo_get k2)
              injection e with e1 e2 e3
              subst e1 e3
              clear e2
              have HXI := Lib.hid hx
              have HW1 : Hid (wrap64 ((i : Int) + 1) = ((i + 1 : Nat) : Int)) := Lib.hid (by have := FLN.out; unfold wrap64; omega)
              have HIG : Hid (i + 1 + g = fs.length) := Lib.hid (by omega)
              have HMG : Hid (g < g + 1) := Lib.hid (Nat.lt_succ_self _)
              have HK2 := Lib.hid k2
              have HKX : Hid (x.slot = (k : Int)) := Lib.hid k1
              have HHY : Hid (∃ z, z = eo l k) := Lib.hid ⟨_, rfl⟩
              generalize hy : eo l k = y at *
              have HY := Lib.hid hy
              clear hy
              obtain ⟨xs, xq, xp⟩ := x
              simp only at k1 k4 k5 k6 x0 x1 x2 hgw HNX HKX
              subst k1 k4
              obtain ⟨yus, ylb, ywh, ysd, ybs, yqt, ypr, ylf, yrs, ysq⟩ := y
              simp only at k5 k6 x2 HM y0 y1 y2 y3 y4 y5 y6 y7 y8 y9 HY HNX
              have hq0 : ((xq : Int) == 0) = false := by simp; omega
              have hql : ¬ ((ylf : Int) < (xq : Int)) := by omega
              have hk0 : ¬ ((k : Int) < 0) := by omega
              have hk1 : ¬ ((l.length : Int) ≤ (k : Int)) := by omega
              have hkl : (k : Int) < (l.length : Int) := by omega
              clear k2 k3 k5 k6 hil hx hkg
              obtain ⟨o0, o1, o2, o3, o4, o5, o6, o7, o8, o9⟩ := ten_c (keepB B4.out HG.out)
              have gz : Grew wr (wr.alloc (.cells #[.int .i64 (k : Int), .int .u64 (xq : Int), .int .u64 (ypr : Int)] 47)) := by unfold Grew; exact (Below.refl _ _).alloc (Nat.le_refl _) _
              have X1 := Lib.hid (blk_new wr (.cells #[.int .i64 (k : Int), .int .u64 (xq : Int), .int .u64 (ypr : Int)] 47))
              have GX := Lib.hid (HG.out.trans gz)
              clear gz
              go_upto_region 13 with fail
              clear x0 x1 x2 y0 y1 y2 y3 y4 y5 y6 y7 y8 y9 o0 o1 o2 o3 o4 o5 o6 o7 o8 o9 HG
              generalize wr.alloc (.cells #[.int .i64 (k : Int), .int .u64 (xq : Int), .int .u64 (ypr : Int)] 47) = W1 at *
              generalize wr.heap.size = XB at *
              have hx3 := X1.out
              have x0 : W1.cell? ⟨XB, 0, none⟩ = some (.int .i64 (k : Int)) := by rw [cell_of_row _ _ _ _ _ _ hx3]; rfl
              have x1 : W1.cell? ⟨XB, 1, none⟩ = some (.int .u64 (xq : Int)) := by rw [cell_of_row _ _ _ _ _ _ hx3]; rfl
              have x2 : W1.cell? ⟨XB, 2, none⟩ = some (.int .u64 (ypr : Int)) := by rw [cell_of_row _ _ _ _ _ _ hx3]; rfl
              clear hx3
              obtain ⟨o0, o1, o2, o3, o4, o5, o6, o7, o8, o9⟩ := ten_c (keepB B4.out GX.out)
              obtain ⟨ad3, c8, e, _, y0, y1, y2, y3, y4, y5, y6, y7, y8, y9⟩ := Ors_at (HL.out.grew (G4.out.trans GX.out)) (eo_get HK2.out)
              injection e with e1 e2 e3
              cases e1
              clear e2 e3
              rw [HY.out] at y0 y1 y2 y3 y4 y5 y6 y7 y8 y9
              simp only at y0 y1 y2 y3 y4 y5 y6 y7 y8 y9
              refine Facts.wp_region_text (by kernel_rfl) (by kernel_rfl) ?_
              apply Facts.Lex.exact [] _ (by kernel_rfl)
              · intro u W hC _
                unfold Facts.one
                go_simp
                first | exact ⟨Grew.refl _, rfl⟩ | rfl
              simp only [Act.put, List.setIfInBounds_toArray, List.set_cons_zero, List.set_cons_succ, Nat.zero_add]
              apply Facts.Lex.exact [] _ (by kernel_rfl)
              · intro u W hC _
                have jx0 := cellG hC x0
                have jx1 := cellG hC x1
                have jx2 := cellG hC x2
                unfold Facts.one
                go_simp
                first | exact ⟨Grew.refl _, rfl⟩ | rfl
              simp only [Act.put, List.setIfInBounds_toArray, List.set_cons_zero, List.set_cons_succ, Nat.reduceAdd]
              apply Facts.Lex.exact [] _ (by kernel_rfl)
              · intro u W hC _
                unfold Facts.one
                go_simp
                first | exact ⟨Grew.refl _, rfl⟩ | rfl
              simp only [Act.put, List.setIfInBounds_toArray, List.set_cons_zero, List.set_cons_succ, Nat.reduceAdd]
              apply Facts.Lex.exact [] _ (by kernel_rfl)
              · intro u W hC _
                unfold Facts.one
                go_simp
                first | exact ⟨Grew.refl _, rfl⟩ | rfl
              simp only [Act.put, List.setIfInBounds_toArray, List.set_cons_zero, List.set_cons_succ, Nat.reduceAdd]
              apply Facts.Lex.exact [] _ (by kernel_rfl)
              · intro u W hC _
                unfold Facts.one
                go_simp
                first | exact ⟨Grew.refl _, rfl⟩ | rfl
              simp only [Act.put, List.setIfInBounds_toArray, List.set_cons_zero, List.set_cons_succ, Nat.reduceAdd]
              apply Facts.Lex.exact [] _ (by kernel_rfl)
              · intro u W hC _
                have jx0 := cellG hC x0
                have jx1 := cellG hC x1
                have jx2 := cellG hC x2
                unfold Facts.one
                go_simp
                first | exact ⟨Grew.refl _, rfl⟩ | rfl
              simp only [Act.put, List.setIfInBounds_toArray, List.set_cons_zero, List.set_cons_succ, Nat.reduceAdd]
              apply Facts.Lex.exact [] _ (by kernel_rfl)
              · intro u W hC _
                unfold Facts.one
                go_simp
                first | exact ⟨Grew.refl _, rfl⟩ | rfl
              simp only [Act.put, List.setIfInBounds_toArray, List.set_cons_zero, List.set_cons_succ, Nat.reduceAdd]
              apply Facts.Lex.exact [] _ (by kernel_rfl)
              · intro u W hC _
                unfold Facts.one
                go_simp
                first | exact ⟨Grew.refl _, rfl⟩ | rfl
              simp only [Act.put, List.setIfInBounds_toArray, List.set_cons_zero, List.set_cons_succ, Nat.reduceAdd]
              apply Facts.Lex.exact [] _ (by kernel_rfl)
              · intro u W hC _
                unfold Facts.one
                go_simp
                first | exact ⟨Grew.refl _, rfl⟩ | rfl
              simp only [Act.put, List.setIfInBounds_toArray, List.set_cons_zero, List.set_cons_succ, Nat.reduceAdd]
              apply Facts.Lex.exact [] _ (by kernel_rfl)
              · intro u W hC _
                unfold Facts.one
                go_simp
                first | exact ⟨Grew.refl _, rfl⟩ | rfl
              simp only [Act.put, List.setIfInBounds_toArray, List.set_cons_zero, List.set_cons_succ, Nat.reduceAdd]
              apply Facts.Lex.exact [] _ (by kernel_rfl)
              · intro u W hC _
                unfold Facts.one
                go_simp
                first | exact ⟨Grew.refl _, rfl⟩ | rfl
              simp only [Act.put, List.setIfInBounds_toArray, List.set_cons_zero, List.set_cons_succ, Nat.reduceAdd]
              apply Facts.Lex.exact [] _ (by kernel_rfl)
              · intro u W hC _
                have jo0 := cellG hC o0
                have jo1 := cellG hC o1
                have jo2 := cellG hC o2
                have jo3 := cellG hC o3
                have jo4 := cellG hC o4
                have jo5 := cellG hC o5
                have jo6 := cellG hC o6
                have jo7 := cellG hC o7
                have jo8 := cellG hC o8
                have jo9 := cellG hC o9
                unfold Facts.one
                go_simp
                first | exact ⟨Grew.refl _, rfl⟩ | rfl
              simp only [Act.put, List.setIfInBounds_toArray, List.set_cons_zero, List.set_cons_succ, Nat.reduceAdd]
              apply Facts.Lex.exact [] _ (by kernel_rfl)
              · intro u W hC _
                unfold Facts.one
                go_simp
                first | exact ⟨Grew.refl _, rfl⟩ | rfl
              simp only [Act.put, List.setIfInBounds_toArray, List.set_cons_zero, List.set_cons_succ, Nat.reduceAdd]
              apply Facts.Lex.exact [] _ (by kernel_rfl)
              · intro u W hC _
                unfold Facts.one
                go_simp
                first | exact ⟨Grew.refl _, rfl⟩ | rfl
              simp only [Act.put, List.setIfInBounds_toArray, List.set_cons_zero, List.set_cons_succ, Nat.reduceAdd]
              apply Facts.Lex.exact [] _ (by kernel_rfl)
              · intro u W hC _
                have jx0 := cellG hC x0
                have jx1 := cellG hC x1
                have jx2 := cellG hC x2
                unfold Facts.one
                go_simp
                first | exact ⟨Grew.refl _, rfl⟩ | rfl
              simp only [Act.put, List.setIfInBounds_toArray, List.set_cons_zero, List.set_cons_succ, Nat.reduceAdd]
              apply Facts.Lex.exact [] _ (by kernel_rfl)
              · intro u W hC _
                unfold Facts.one
                go_simp
                first | exact ⟨Grew.refl _, rfl⟩ | rfl
              simp only [Act.put, List.setIfInBounds_toArray, List.set_cons_zero, List.set_cons_succ, Nat.reduceAdd]
              apply Facts.Lex.exact [] _ (by kernel_rfl)
              · intro u W hC _
                have jy0 := cellG hC y0
                have jy1 := cellG hC y1
                have jy2 := cellG hC y2
                have jy3 := cellG hC y3
                have jy4 := cellG hC y4
                have jy5 := cellG hC y5
                have jy6 := cellG hC y6
                have jy7 := cellG hC y7
                have jy8 := cellG hC y8
                have jy9 := cellG hC y9
                unfold Facts.one
                go_simp
                first | exact ⟨Grew.refl _, rfl⟩ | rfl
              simp only [Act.put, List.setIfInBounds_toArray, List.set_cons_zero, List.set_cons_succ, Nat.reduceAdd]
              apply Facts.Lex.exact [] _ (by kernel_rfl)
              · intro u W hC _
                unfold Facts.one
                go_simp
                exact ((HM.out W).mono fun e w' ⟨he, hg⟩ => ⟨_, he, hg, rfl⟩)
              simp only [Act.put, List.setIfInBounds_toArray, List.set_cons_zero, List.set_cons_succ, Nat.reduceAdd]
              apply Facts.Lex.exact [] _ (by kernel_rfl)
              · intro u W hC _
                unfold Facts.one
                go_simp
                first | exact ⟨Grew.refl _, rfl⟩ | rfl
              simp only [Act.put, List.setIfInBounds_toArray, List.set_cons_zero, List.set_cons_succ, Nat.reduceAdd]
              apply Facts.Lex.exact [] _ (by kernel_rfl)
              · intro u W hC _
                unfold Facts.one
                go_simp
                first | exact ⟨Grew.refl _, rfl⟩ | rfl
              simp only [Act.put, List.setIfInBounds_toArray, List.set_cons_zero, List.set_cons_succ, Nat.reduceAdd]
              apply Facts.Lex.exact [] _ (by kernel_rfl)
              · intro u W hC _
                unfold Facts.one
                go_simp
                first | exact ⟨Grew.refl _, rfl⟩ | rfl
              simp only [Act.put, List.setIfInBounds_toArray, List.set_cons_zero, List.set_cons_succ, Nat.reduceAdd]
              apply Facts.Lex.exact [] _ (by kernel_rfl)
              · intro u W hC _
                unfold Facts.one
                go_simp
                first | exact ⟨Grew.refl _, rfl⟩ | rfl
              simp only [Act.put, List.setIfInBounds_toArray, List.set_cons_zero, List.set_cons_succ, Nat.reduceAdd]
              apply Facts.Lex.exact [] _ (by kernel_rfl)
              · intro u W hC _
                have jx0 := cellG hC x0
                have jx1 := cellG hC x1
                have jx2 := cellG hC x2
                unfold Facts.one
                go_simp
                first | exact ⟨Grew.refl _, rfl⟩ | rfl
              simp only [Act.put, List.setIfInBounds_toArray, List.set_cons_zero, List.set_cons_succ, Nat.reduceAdd]
              apply Facts.Lex.exact [] _ (by kernel_rfl)
              · intro u W hC _
                unfold Facts.one
                go_simp
                first | exact ⟨Grew.refl _, rfl⟩ | rfl
              simp only [Act.put, List.setIfInBounds_toArray, List.set_cons_zero, List.set_cons_succ, Nat.reduceAdd]
              apply Facts.Lex.exact [] _ (by kernel_rfl)
              · intro u W hC _
                unfold Facts.one
                go_simp
                first | exact ⟨Grew.refl _, rfl⟩ | rfl
              simp only [Act.put, List.setIfInBounds_toArray, List.set_cons_zero, List.set_cons_succ, Nat.reduceAdd]
              apply Facts.Lex.exact [] _ (by kernel_rfl)
              · intro u W hC _
                have jx0 := cellG hC x0
                have jx1 := cellG hC x1
                have jx2 := cellG hC x2
                unfold Facts.one
                go_simp
                first | exact ⟨Grew.refl _, rfl⟩ | rfl
              simp only [Act.put, List.setIfInBounds_toArray, List.set_cons_zero, List.set_cons_succ, Nat.reduceAdd]
              apply Facts.Lex.exact [] _ (by kernel_rfl)
              · intro u W hC _
                unfold Facts.one
                go_simp
                first | exact ⟨Grew.refl _, rfl⟩ | rfl
              simp only [Act.put, List.setIfInBounds_toArray, List.set_cons_zero, List.set_cons_succ, Nat.reduceAdd]
              apply Facts.Lex.exact [] _ (by kernel_rfl)
              · intro u W hC _
                unfold Facts.one
                go_simp
                first | exact ⟨Grew.refl _, rfl⟩ | rfl
              simp only [Act.put, List.setIfInBounds_toArray, List.set_cons_zero, List.set_cons_succ, Nat.reduceAdd]
              apply Facts.Lex.exact [] _ (by kernel_rfl)
              · intro u W hC _
                have jy6 := cellG hC y6
                unfold Facts.one
                go_simp
                first | exact ⟨Grew.refl _, rfl⟩ | rfl
              simp only [Act.put, List.setIfInBounds_toArray, List.set_cons_zero, List.set_cons_succ, Nat.reduceAdd]
              apply Facts.Lex.exact [] _ (by kernel_rfl)
              · intro u W hC _
                unfold Facts.one
                go_simp
                first | exact ⟨Grew.refl _, rfl⟩ | rfl
              simp only [Act.put, List.setIfInBounds_toArray, List.set_cons_zero, List.set_cons_succ, Nat.reduceAdd]
              apply Facts.Lex.exact [] _ (by kernel_rfl)
              · intro u W hC _
                unfold Facts.one
                go_simp
                first | exact ⟨Grew.refl _, rfl⟩ | rfl
              simp only [Act.put, List.setIfInBounds_toArray, List.set_cons_zero, List.set_cons_succ, Nat.reduceAdd]
              apply Facts.Lex.exact [] _ (by kernel_rfl)
              · intro u W hC _
                unfold Facts.one
                go_simp
                first | exact ⟨Grew.refl _, rfl⟩ | rfl
              simp only [Act.put, List.setIfInBounds_toArray, List.set_cons_zero, List.set_cons_succ, Nat.reduceAdd]
              apply Facts.Lex.exact [] _ (by kernel_rfl)
              · intro u W hC _
                unfold Facts.one
                go_simp
                first | exact ⟨Grew.refl _, rfl⟩ | rfl
              simp only [Act.put, List.setIfInBounds_toArray, List.set_cons_zero, List.set_cons_succ, Nat.reduceAdd]
              apply Facts.Lex.exact [] _ (by kernel_rfl)
              · intro u W hC _
                have jx0 := cellG hC x0
                have jx1 := cellG hC x1
                have jx2 := cellG hC x2
                unfold Facts.one
                go_simp
                first | exact ⟨Grew.refl _, rfl⟩ | rfl
              simp only [Act.put, List.setIfInBounds_toArray, List.set_cons_zero, List.set_cons_succ, Nat.reduceAdd]
              apply Facts.Lex.exact [] _ (by kernel_rfl)
              · intro u W hC _
                unfold Facts.one
                go_simp
                first | exact ⟨Grew.refl _, rfl⟩ | rfl
              simp only [Act.put, List.setIfInBounds_toArray, List.set_cons_zero, List.set_cons_succ, Nat.reduceAdd]
              apply Facts.Lex.exact [] _ (by kernel_rfl)
              · intro u W hC _
                unfold Facts.one
                go_simp
                first | exact ⟨Grew.refl _, rfl⟩ | rfl
              simp only [Act.put, List.setIfInBounds_toArray, List.set_cons_zero, List.set_cons_succ, Nat.reduceAdd]
              apply Facts.Lex.exact [] _ (by kernel_rfl)
              · intro u W hC _
                unfold Facts.one
                go_simp
                first | exact ⟨Grew.refl _, rfl⟩ | rfl
              simp only [Act.put, List.setIfInBounds_toArray, List.set_cons_zero, List.set_cons_succ, Nat.reduceAdd]
              apply Facts.Lex.exact [] _ (by kernel_rfl)
              · intro u W hC _
                unfold Facts.one
                go_simp
                first | exact ⟨Grew.refl _, rfl⟩ | rfl
              simp only [Act.put, List.setIfInBounds_toArray, List.set_cons_zero, List.set_cons_succ, Nat.reduceAdd]
              apply Facts.Lex.exact [] _ (by kernel_rfl)
              · intro u W hC _
                have jx0 := cellG hC x0
                have jx1 := cellG hC x1
                have jx2 := cellG hC x2
                unfold Facts.one
                go_simp
                first | exact ⟨Grew.refl _, rfl⟩ | rfl
              simp only [Act.put, List.setIfInBounds_toArray, List.set_cons_zero, List.set_cons_succ, Nat.reduceAdd]
              apply Facts.Lex.exact [] _ (by kernel_rfl)
              · intro u W hC _
                unfold Facts.one
                go_simp
                first | exact ⟨Grew.refl _, rfl⟩ | rfl
              simp only [Act.put, List.setIfInBounds_toArray, List.set_cons_zero, List.set_cons_succ, Nat.reduceAdd]
              apply Facts.Lex.exact [] _ (by kernel_rfl)
              · intro u W hC _
                unfold Facts.one
                go_simp
                first | exact ⟨Grew.refl _, rfl⟩ | rfl
              simp only [Act.put, List.setIfInBounds_toArray, List.set_cons_zero, List.set_cons_succ, Nat.reduceAdd]
              apply Facts.Lex.exact [] _ (by kernel_rfl)
              · intro u W hC _
                have jx0 := cellG hC x0
                have jx1 := cellG hC x1
                have jx2 := cellG hC x2
                unfold Facts.one
                go_simp
                first | exact ⟨Grew.refl _, rfl⟩ | rfl
              simp only [Act.put, List.setIfInBounds_toArray, List.set_cons_zero, List.set_cons_succ, Nat.reduceAdd]
              apply Facts.Lex.exact [] _ (by kernel_rfl)
              · intro u W hC _
                unfold Facts.one
                go_simp
                first | exact ⟨Grew.refl _, rfl⟩ | rfl
              simp only [Act.put, List.setIfInBounds_toArray, List.set_cons_zero, List.set_cons_succ, Nat.reduceAdd]
              apply Facts.Lex.exact [] _ (by kernel_rfl)
              · intro u W hC _
                unfold Facts.one
                go_simp
                first | exact ⟨Grew.refl _, rfl⟩ | rfl
              simp only [Act.put, List.setIfInBounds_toArray, List.set_cons_zero, List.set_cons_succ, Nat.reduceAdd]
              apply Facts.Lex.exact [] _ (by kernel_rfl)
              · intro u W hC _
                have jy7 := cellG hC y7
                unfold Facts.one
                go_simp
                first | exact ⟨Grew.refl _, rfl⟩ | rfl
              simp only [Act.put, List.setIfInBounds_toArray, List.set_cons_zero, List.set_cons_succ, Nat.reduceAdd]
              apply Facts.Lex.exact [] _ (by kernel_rfl)
              · intro u W hC _
                unfold Facts.one
                go_simp
                first | exact ⟨Grew.refl _, rfl⟩ | rfl
              simp only [Act.put, List.setIfInBounds_toArray, List.set_cons_zero, List.set_cons_succ, Nat.reduceAdd]
              apply Facts.Lex.exact [] _ (by kernel_rfl)
              · intro u W hC _
                unfold Facts.one
                go_simp
                first | exact ⟨Grew.refl _, rfl⟩ | rfl
              simp only [Act.put, List.setIfInBounds_toArray, List.set_cons_zero, List.set_cons_succ, Nat.reduceAdd]
              refine Facts.Lex.done fun u W2 hC hL => ?_
              have G2 := Lib.hid (GX.out.trans hC)
              have hx3 := keepB X1.out hC
              clear x0 x1 x2 y0 y1 y2 y3 y4 y5 y6 y7 y8 y9 o0 o1 o2 o3 o4 o5 o6 o7 o8 o9 X1 GX HM hq0 hql hk1
              have x0 : W2.cell? ⟨XB, 0, none⟩ = some (.int .i64 (k : Int)) := by rw [cell_of_row _ _ _ _ _ _ hx3]; rfl
              have x1 : W2.cell? ⟨XB, 1, none⟩ = some (.int .u64 (xq : Int)) := by rw [cell_of_row _ _ _ _ _ _ hx3]; rfl
              have x2 : W2.cell? ⟨XB, 2, none⟩ = some (.int .u64 (ypr : Int)) := by rw [cell_of_row _ _ _ _ _ _ hx3]; rfl
              clear hx3 hC hL
              by_cases hi1 : i = 0
              · have hie : ((i : Int) == 0) = true := by simp [hi1]
                clear hi1 HNX
                go_wp2
                go_roundg g
                case measure => exact HMG.out
                case rel => exact ⟨i + 1, HIG.out, by rw [GS.out], by first | rfl | (simp; done) | rw [HW1.out], G2⟩
              · as_aux_lemma =>
                  have hie : ((i : Int) == 0) = false := by simp [hi1]
                  obtain ⟨j, hj⟩ : ∃ j, i = j + 1 := ⟨i - 1, by omega⟩
                  have hjl : j < fs.length := by omega
                  obtain ⟨p, hp⟩ : ∃ p, fs[j]? = some p := ⟨_, List.getElem?_eq_getElem hjl⟩
                  obtain ⟨a, b, q1, q2, q3, q4, q5, q6⟩ := HNX.out j p hp hj
                  have hbk : b = k := by omega
                  subst hbk
                  rw [HY.out] at q5
                  have SUB : Hid (IntKind.i64.wrap ((i : Int) - 1) = (j : Int)) := Lib.hid (by rw [IntWalk.i64_in _ (by have := FLN.out; omega)]; omega)
                  have HPJ := Lib.hid hp
                  have HQ3 := Lib.hid q3
                  have hj0 : ¬ ((j : Int) < 0) := by omega
                  have hj1 : (j : Int) < (fs.length : Int) := by omega
                  have ha0 : ¬ ((a : Int) < 0) := by omega
                  have ha1 : (a : Int) < (l.length : Int) := by omega
                  have B2 := Lib.hid (keepB B4.out G2.out)
                  have F2 := Lib.hid (Rw.grew F4.out G2.out)
                  clear HNX hi1 hj hjl q2 q4
                  generalize haa : eo l a = A9 at *
                  have HA9 := Lib.hid haa
                  clear haa
                  obtain ⟨ps, pq, pp⟩ := p
                  obtain ⟨aus, alb, awh, asd, abs, aqt, apr, alf, ars, asq⟩ := A9
                  simp only at q1 q6 q5
                  subst q1 q6
                  obtain ⟨ad3, c9, e, _, p0, p1, p2⟩ := Fis_at F2.out HPJ.out
                  injection e with e1 e2 e3
                  cases e1
                  clear e2 e3
                  simp only at p0 p1 p2
                  obtain ⟨ad4, c7, e, _, a0, a1, a2, a3, a4, a5, a6, a7, a8, a9⟩ := Ors_at (HL.out.grew (G4.out.trans G2.out)) (eo_get HQ3.out)
                  injection e with e1 e2 e3
                  cases e1
                  clear e2 e3
                  rw [HA9.out] at a0 a1 a2 a3 a4 a5 a6 a7 a8 a9
                  simp only at a0 a1 a2 a3 a4 a5 a6 a7 a8 a9
                  obtain ⟨ad5, c6, e, _, y0, y1, y2, y3, y4, y5, y6, y7, y8, y9⟩ := Ors_at (HL.out.grew (G4.out.trans G2.out)) (eo_get HK2.out)
                  injection e with e1 e2 e3
                  cases e1
                  clear e2 e3
                  rw [HY.out] at y0 y1 y2 y3 y4 y5 y6 y7 y8 y9
                  simp only at y0 y1 y2 y3 y4 y5 y6 y7 y8 y9
                  have hbet : (apr = ypr ∧ asq < ysq) ∨ (apr ≠ ypr ∧ (decide (apr < ypr) == decide (sd = 1)) = true) := by
                    unfold betB at q5
                    by_cases hp : apr = ypr
                    · simp only at q5
                      rw [if_pos hp] at q5
                      exact .inl ⟨hp, of_decide_eq_true q5⟩
                    · simp only at q5
                      rw [if_neg hp] at q5
                      exact .inr ⟨hp, q5⟩
                  clear q5 q3 hp
                  have HBET := Lib.hid hbet
                  clear hbet
                  go_wp2
                  refine Marks.wp_region_text (J2 W2 ⟨aus, alb, awh, asd, abs, aqt, apr, pq, ars, asq⟩ ⟨yus, ylb, ywh, ysd, ybs, yqt, ypr, ylf, yrs, ysq⟩) (fun _ _ => True) (by kernel_rfl) (by kernel_rfl) (J2.start _ _ _) ?_
                  apply Marks.Lex.exact [] _ (by kernel_rfl)
                  · intro m u W hm hcl hJ _
                    unfold Marks.one
                    go_simp
                    exact ⟨trivial, hJ.keep 0 _ (by decide) (Grew.refl _), rfl⟩
                  simp only [Act.put, List.setIfInBounds_toArray, List.set_cons_zero, List.set_cons_succ, Nat.zero_add]
                  apply Marks.Lex.exact [] _ (by kernel_rfl)
                  · intro m u W hm hcl hJ _
                    unfold Marks.one
                    go_simp
                    exact ⟨trivial, hJ.keep 1 _ (by decide) (Grew.refl _), rfl⟩
                  simp only [Act.put, List.setIfInBounds_toArray, List.set_cons_zero, List.set_cons_succ, Nat.reduceAdd]
                  apply Marks.Lex.exact [] _ (by kernel_rfl)
                  · intro m u W hm hcl hJ _
                    unfold Marks.one
                    go_simp
                    exact ⟨trivial, hJ.keep 2 _ (by decide) (Grew.refl _), rfl⟩
                  simp only [Act.put, List.setIfInBounds_toArray, List.set_cons_zero, List.set_cons_succ, Nat.reduceAdd]
                  apply Marks.Lex.exact [] _ (by kernel_rfl)
                  · intro m u W hm hcl hJ _
                    have d := SUB.out
                    unfold Marks.one
                    go_simp
                    exact ⟨trivial, hJ.keep 3 _ (by decide) (Grew.refl _), rfl⟩
                  simp only [Act.put, List.setIfInBounds_toArray, List.set_cons_zero, List.set_cons_succ, Nat.reduceAdd]
                  apply Marks.Lex.exact [] _ (by kernel_rfl)
                  · intro m u W hm hcl hJ _
                    unfold Marks.one
                    go_simp
                    exact ⟨trivial, hJ.keep 4 _ (by decide) (Grew.refl _), rfl⟩
                  simp only [Act.put, List.setIfInBounds_toArray, List.set_cons_zero, List.set_cons_succ, Nat.reduceAdd]
                  apply Marks.Lex.exact [] _ (by kernel_rfl)
                  · intro m u W hm hcl hJ _
                    unfold Marks.one
                    go_simp
                    exact ⟨trivial, hJ.keep 5 _ (by decide) (Grew.refl _), rfl⟩
                  simp only [Act.put, List.setIfInBounds_toArray, List.set_cons_zero, List.set_cons_succ, Nat.reduceAdd]
                  apply Marks.Lex.exact [] _ (by kernel_rfl)
                  · intro m u W hm hcl hJ _
                    have hC := hJ.g
                    have jp0 := cellG hC p0
                    unfold Marks.one
                    go_simp
                    exact ⟨trivial, hJ.keep 6 _ (by decide) (Grew.refl _), rfl⟩
                  simp only [Act.put, List.setIfInBounds_toArray, List.set_cons_zero, List.set_cons_succ, Nat.reduceAdd]
                  apply Marks.Lex.exact [] _ (by kernel_rfl)
                  · intro m u W hm hcl hJ _
                    unfold Marks.one
                    go_simp
                    exact ⟨trivial, hJ.keep 7 _ (by decide) (Grew.refl _), rfl⟩
                  simp only [Act.put, List.setIfInBounds_toArray, List.set_cons_zero, List.set_cons_succ, Nat.reduceAdd]
                  apply Marks.Lex.exact [] _ (by kernel_rfl)
                  · intro m u W hm hcl hJ _
                    have hC := hJ.g
                    have ja0 := cellG hC a0
                    have ja1 := cellG hC a1
                    have ja2 := cellG hC a2
                    have ja3 := cellG hC a3
                    have ja4 := cellG hC a4
                    have ja5 := cellG hC a5
                    have ja6 := cellG hC a6
                    have ja7 := cellG hC a7
                    have ja8 := cellG hC a8
                    have ja9 := cellG hC a9
                    unfold Marks.one
                    go_simp
                    exact ⟨trivial, hJ.keep 8 _ (by decide) (Grew.refl _), rfl⟩
                  simp only [Act.put, List.setIfInBounds_toArray, List.set_cons_zero, List.set_cons_succ, Nat.reduceAdd]
                  apply Marks.Lex.exact [] _ (by kernel_rfl)
                  · intro m u W hm hcl hJ _
                    unfold Marks.one
                    go_simp
                    exact ⟨trivial, hJ.keep 9 _ (by decide) (Grew.refl _), rfl⟩
                  simp only [Act.put, List.setIfInBounds_toArray, List.set_cons_zero, List.set_cons_succ, Nat.reduceAdd]
                  apply Marks.Lex.exact [] _ (by kernel_rfl)
                  · intro m u W hm hcl hJ _
                    unfold Marks.one
                    go_simp
                    exact ⟨trivial, hJ.keep 10 _ (by decide) (Grew.refl _), rfl⟩
                  simp only [Act.put, List.setIfInBounds_toArray, List.set_cons_zero, List.set_cons_succ, Nat.reduceAdd]
                  apply Marks.Lex.exact [] _ (by kernel_rfl)
                  · intro m u W hm hcl hJ _
                    have hC := hJ.g
                    have jx0 := cellG hC x0
                    unfold Marks.one
                    go_simp
                    exact ⟨trivial, hJ.keep 11 _ (by decide) (Grew.refl _), rfl⟩
                  simp only [Act.put, List.setIfInBounds_toArray, List.set_cons_zero, List.set_cons_succ, Nat.reduceAdd]
                  apply Marks.Lex.exact [] _ (by kernel_rfl)
                  · intro m u W hm hcl hJ _
                    unfold Marks.one
                    go_simp
                    exact ⟨trivial, hJ.keep 12 _ (by decide) (Grew.refl _), rfl⟩
                  simp only [Act.put, List.setIfInBounds_toArray, List.set_cons_zero, List.set_cons_succ, Nat.reduceAdd]
                  apply Marks.Lex.exact [] _ (by kernel_rfl)
                  · intro m u W hm hcl hJ _
                    have hC := hJ.g
                    have jy0 := cellG hC y0
                    have jy1 := cellG hC y1
                    have jy2 := cellG hC y2
                    have jy3 := cellG hC y3
                    have jy4 := cellG hC y4
                    have jy5 := cellG hC y5
                    have jy6 := cellG hC y6
                    have jy7 := cellG hC y7
                    have jy8 := cellG hC y8
                    have jy9 := cellG hC y9
                    unfold Marks.one
                    go_simp
                    exact ⟨trivial, hJ.keep 13 _ (by decide) (Grew.refl _), rfl⟩
                  simp only [Act.put, List.setIfInBounds_toArray, List.set_cons_zero, List.set_cons_succ, Nat.reduceAdd]
                  refine Marks.Lex.know [] PtrV (by kernel_rfl) (fun _ _ _ h _ => h) ?_ ?_
                  · intro m u W hm hcl hJ _
                    unfold Marks.one
                    go_simp
                    exact ⟨trivial, hJ.new14 hm, _, rfl⟩
                  simp only [Act.put, List.setIfInBounds_toArray, List.set_cons_zero, List.set_cons_succ, Nat.reduceAdd]
                  refine Marks.Lex.know [] PtrV (by kernel_rfl) (fun _ _ _ h _ => h) ?_ ?_
                  · intro m u W hm hcl hJ _
                    unfold Marks.one
                    go_simp
                    exact ⟨trivial, hJ.new15 hm, _, rfl⟩
                  simp only [Act.put, List.setIfInBounds_toArray, List.set_cons_zero, List.set_cons_succ, Nat.reduceAdd]
                  apply Marks.Lex.exact [] undef (by kernel_rfl)
                  · intro m u W hm hcl hJ _
                    have h4 : m 14 = true := hcl 14 (by decide)
                    obtain ⟨b, e4, _, hb⟩ := hJ.a h4
                    obtain ⟨W', hst, hbx, hgr⟩ := hb.store ⟨aus, alb, awh, asd, abs, aqt, apr, pq, ars, asq⟩
                    unfold orv at hst
                    rw [← e4] at hst
                    exact one_store rfl 26 (.tmp 13) (.tmp 131) rfl _ _ rfl rfl W' hst ⟨trivial, hJ.put16 e4 h4 _ hbx hgr, rfl⟩
                  simp only [Act.put, Nat.reduceAdd]
                  apply Marks.Lex.exact [] undef (by kernel_rfl)
                  · intro m u W hm hcl hJ _
                    have h4 : m 15 = true := hcl 15 (by decide)
                    obtain ⟨b, e4, _, hb⟩ := hJ.c h4
                    obtain ⟨W', hst, hbx, hgr⟩ := hb.store ⟨yus, ylb, ywh, ysd, ybs, yqt, ypr, ylf, yrs, ysq⟩
                    unfold orv at hst
                    rw [← e4] at hst
                    exact one_store rfl 26 (.tmp 14) (.tmp 136) rfl _ _ rfl rfl W' hst ⟨trivial, hJ.put17 e4 h4 _ hbx hgr, rfl⟩
                  simp only [Act.put, Nat.reduceAdd]
                  refine Marks.Lex.done fun m u W3 hm hJ _ => ?_
                  obtain ⟨b13, e13, _, hb13⟩ := hJ.a (hm 14 (by decide))
                  obtain ⟨b14, e14, _, hb14⟩ := hJ.c (hm 15 (by decide))
                  rw [hm 16 (by decide), if_pos rfl] at hb13
                  rw [hm 17 (by decide), if_pos rfl] at hb14
                  have G3 := Lib.hid hJ.g
                  have P13 := Lib.hid hb13
                  have P14 := Lib.hid hb14
                  simp only [e13, e14]
                  clear hm hJ e13 e14 hb13 hb14 a0 a1 a2 a3 a4 a5 a6 a7 a8 a9 y0 y1 y2 y3 y4 y5 y6 y7 y8 y9 x0 x1 x2 p0 p1 p2
                  obtain ⟨a0, a1, a2, a3, a4, a5, a6, a7, a8, a9⟩ := P13.out.cells
                  obtain ⟨y0, y1, y2, y3, y4, y5, y6, y7, y8, y9⟩ := P14.out.cells
                  simp only at a0 a1 a2 a3 a4 a5 a6 a7 a8 a9 y0 y1 y2 y3 y4 y5 y6 y7 y8 y9
                  obtain ⟨o0, o1, o2, o3, o4, o5, o6, o7, o8, o9⟩ := ten_c (keepB B2.out G3.out)
                  obtain ⟨ad3, c9, e, _, p0, p1, p2⟩ := Fis_at (Rw.grew F2.out G3.out) HPJ.out
                  injection e with e1 e2 e3
                  cases e1
                  clear e2 e3
                  simp only at p0 p1 p2
                  go_upto_region 18 with fail
                  go_cut [183] from 60 to 183 (fun s183 wx => s183 = .bool false ∧ Hid (Grew W3 wx))
                  case first =>
                    rcases SD.out with hsd | hsd
                    · try simp only at hsd
                      subst hsd
                      rcases HBET.out with ⟨hpp, hb⟩ | ⟨hne, hb⟩
                      · subst hpp
                        have f1 : ¬ (ysq ≤ asq) := by omega
                        as_aux_lemma =>
                          refine Facts.wp_region_text (by kernel_rfl) (by kernel_rfl) ?_
                          apply Facts.Lex.exact [] _ (by kernel_rfl)
                          · intro u W hC _
                            unfold Facts.one
                            go_simp
                            first | exact ⟨Grew.refl _, rfl⟩ | rfl
                          simp only [Act.put, List.setIfInBounds_toArray, List.set_cons_zero, List.set_cons_succ, Nat.zero_add]
                          apply Facts.Lex.exact [] _ (by kernel_rfl)
                          · intro u W hC _
                            have ja6 := cellG hC a6
                            have ja9 := cellG hC a9
                            have ja7 := cellG hC a7
                            have jy6 := cellG hC y6
                            have jy9 := cellG hC y9
                            unfold Facts.one
                            go_simp
                            first | exact ⟨Grew.refl _, rfl⟩ | rfl
                          simp only [Act.put, List.setIfInBounds_toArray, List.set_cons_zero, List.set_cons_succ, Nat.reduceAdd]
                          apply Facts.Lex.exact [] _ (by kernel_rfl)
                          · intro u W hC _
                            unfold Facts.one
                            go_simp
                            first | exact ⟨Grew.refl _, rfl⟩ | rfl
                          simp only [Act.put, List.setIfInBounds_toArray, List.set_cons_zero, List.set_cons_succ, Nat.reduceAdd]
                          apply Facts.Lex.exact [] _ (by kernel_rfl)
                          · intro u W hC _
                            have ja6 := cellG hC a6
                            have ja9 := cellG hC a9
                            have ja7 := cellG hC a7
                            have jy6 := cellG hC y6
                            have jy9 := cellG hC y9
                            unfold Facts.one
                            go_simp
                            first | exact ⟨Grew.refl _, rfl⟩ | rfl
                          simp only [Act.put, List.setIfInBounds_toArray, List.set_cons_zero, List.set_cons_succ, Nat.reduceAdd]
                          apply Facts.Lex.exact [] _ (by kernel_rfl)
                          · intro u W hC _
                            unfold Facts.one
                            go_simp
                            first | exact ⟨Grew.refl _, rfl⟩ | rfl
                          simp only [Act.put, List.setIfInBounds_toArray, List.set_cons_zero, List.set_cons_succ, Nat.reduceAdd]
                          apply Facts.Lex.exact [] _ (by kernel_rfl)
                          · intro u W hC _
                            unfold Facts.one
                            go_simp
                            first | exact ⟨Grew.refl _, rfl⟩ | rfl
                          simp only [Act.put, List.setIfInBounds_toArray, List.set_cons_zero, List.set_cons_succ, Nat.reduceAdd]
                          apply Facts.Lex.exact [] _ (by kernel_rfl)
                          · intro u W hC _
                            unfold Facts.one
                            go_simp
                            first | exact ⟨Grew.refl _, rfl⟩ | rfl
                          simp only [Act.put, List.setIfInBounds_toArray, List.set_cons_zero, List.set_cons_succ, Nat.reduceAdd]
                          apply Facts.Lex.exact [] _ (by kernel_rfl)
                          · intro u W hC _
                            have ja6 := cellG hC a6
                            have ja9 := cellG hC a9
                            have ja7 := cellG hC a7
                            have jy6 := cellG hC y6
                            have jy9 := cellG hC y9
                            unfold Facts.one
                            go_simp
                            first | exact ⟨Grew.refl _, rfl⟩ | rfl
                          simp only [Act.put, List.setIfInBounds_toArray, List.set_cons_zero, List.set_cons_succ, Nat.reduceAdd]
                          apply Facts.Lex.exact [] _ (by kernel_rfl)
                          · intro u W hC _
                            unfold Facts.one
                            go_simp
                            first | exact ⟨Grew.refl _, rfl⟩ | rfl
                          simp only [Act.put, List.setIfInBounds_toArray, List.set_cons_zero, List.set_cons_succ, Nat.reduceAdd]
                          apply Facts.Lex.exact [] _ (by kernel_rfl)
                          · intro u W hC _
                            have ja6 := cellG hC a6
                            have ja9 := cellG hC a9
                            have ja7 := cellG hC a7
                            have jy6 := cellG hC y6
                            have jy9 := cellG hC y9
                            unfold Facts.one
                            go_simp
                            first | exact ⟨Grew.refl _, rfl⟩ | rfl
                          simp only [Act.put, List.setIfInBounds_toArray, List.set_cons_zero, List.set_cons_succ, Nat.reduceAdd]
                          apply Facts.Lex.exact [] _ (by kernel_rfl)
                          · intro u W hC _
                            unfold Facts.one
                            go_simp
                            first | exact ⟨Grew.refl _, rfl⟩ | rfl
                          simp only [Act.put, List.setIfInBounds_toArray, List.set_cons_zero, List.set_cons_succ, Nat.reduceAdd]
                          apply Facts.Lex.exact [] _ (by kernel_rfl)
                          · intro u W hC _
                            unfold Facts.one
                            go_simp
                            first | exact ⟨Grew.refl _, rfl⟩ | rfl
                          simp only [Act.put, List.setIfInBounds_toArray, List.set_cons_zero, List.set_cons_succ, Nat.reduceAdd]
                          apply Facts.Lex.exact [] _ (by kernel_rfl)
                          · intro u W hC _
                            unfold Facts.one
                            go_simp
                            first | exact ⟨Grew.refl _, rfl⟩ | rfl
                          simp only [Act.put, List.setIfInBounds_toArray, List.set_cons_zero, List.set_cons_succ, Nat.reduceAdd]
                          apply Facts.Lex.exact [] _ (by kernel_rfl)
                          · intro u W hC _
                            unfold Facts.one
                            go_simp
                            first | exact ⟨Grew.refl _, rfl⟩ | rfl
                          simp only [Act.put, List.setIfInBounds_toArray, List.set_cons_zero, List.set_cons_succ, Nat.reduceAdd]
                          apply Facts.Lex.exact [] _ (by kernel_rfl)
                          · intro u W hC _
                            have jo3 := cellG hC o3
                            unfold Facts.one
                            go_simp
                            first | exact ⟨Grew.refl _, rfl⟩ | rfl
                          simp only [Act.put, List.setIfInBounds_toArray, List.set_cons_zero, List.set_cons_succ, Nat.reduceAdd]
                          apply Facts.Lex.exact [] _ (by kernel_rfl)
                          · intro u W hC _
                            unfold Facts.one
                            go_simp
                            first | exact ⟨Grew.refl _, rfl⟩ | rfl
                          simp only [Act.put, List.setIfInBounds_toArray, List.set_cons_zero, List.set_cons_succ, Nat.reduceAdd]
                          apply Facts.Lex.exact [] _ (by kernel_rfl)
                          · intro u W hC _
                            unfold Facts.one
                            go_simp
                            first | exact ⟨Grew.refl _, rfl⟩ | rfl
                          simp only [Act.put, List.setIfInBounds_toArray, List.set_cons_zero, List.set_cons_succ, Nat.reduceAdd]
                          apply Facts.Lex.exact [] _ (by kernel_rfl)
                          · intro u W hC _
                            unfold Facts.one
                            go_simp
                            first | exact ⟨Grew.refl _, rfl⟩ | rfl
                          simp only [Act.put, List.setIfInBounds_toArray, List.set_cons_zero, List.set_cons_succ, Nat.reduceAdd]
                          apply Facts.Lex.exact [] _ (by kernel_rfl)
                          · intro u W hC _
                            have ja6 := cellG hC a6
                            have ja9 := cellG hC a9
                            have ja7 := cellG hC a7
                            have jy6 := cellG hC y6
                            have jy9 := cellG hC y9
                            unfold Facts.one
                            go_simp
                            first | exact ⟨Grew.refl _, rfl⟩ | rfl
                          simp only [Act.put, List.setIfInBounds_toArray, List.set_cons_zero, List.set_cons_succ, Nat.reduceAdd]
                          apply Facts.Lex.exact [] _ (by kernel_rfl)
                          · intro u W hC _
                            unfold Facts.one
                            go_simp
                            first | exact ⟨Grew.refl _, rfl⟩ | rfl
                          simp only [Act.put, List.setIfInBounds_toArray, List.set_cons_zero, List.set_cons_succ, Nat.reduceAdd]
                          apply Facts.Lex.exact [] _ (by kernel_rfl)
                          · intro u W hC _
                            have ja6 := cellG hC a6
                            have ja9 := cellG hC a9
                            have ja7 := cellG hC a7
                            have jy6 := cellG hC y6
                            have jy9 := cellG hC y9
                            unfold Facts.one
                            go_simp
                            first | exact ⟨Grew.refl _, rfl⟩ | rfl
                          simp only [Act.put, List.setIfInBounds_toArray, List.set_cons_zero, List.set_cons_succ, Nat.reduceAdd]
                          apply Facts.Lex.exact [] _ (by kernel_rfl)
                          · intro u W hC _
                            unfold Facts.one
                            go_simp
                            first | exact ⟨Grew.refl _, rfl⟩ | rfl
                          simp only [Act.put, List.setIfInBounds_toArray, List.set_cons_zero, List.set_cons_succ, Nat.reduceAdd]
                          apply Facts.Lex.exact [] _ (by kernel_rfl)
                          · intro u W hC _
                            unfold Facts.one
                            go_simp
                            first | exact ⟨Grew.refl _, rfl⟩ | rfl
                          simp only [Act.put, List.setIfInBounds_toArray, List.set_cons_zero, List.set_cons_succ, Nat.reduceAdd]
                          apply Facts.Lex.exact [] _ (by kernel_rfl)
                          · intro u W hC _
                            unfold Facts.one
                            go_simp
                            first | exact ⟨Grew.refl _, rfl⟩ | rfl
                          simp only [Act.put, List.setIfInBounds_toArray, List.set_cons_zero, List.set_cons_succ, Nat.reduceAdd]
                          apply Facts.Lex.exact [] _ (by kernel_rfl)
                          · intro u W hC _
                            unfold Facts.one
                            go_simp
                            first | exact ⟨Grew.refl _, rfl⟩ | rfl
                          simp only [Act.put, List.setIfInBounds_toArray, List.set_cons_zero, List.set_cons_succ, Nat.reduceAdd]
                          apply Facts.Lex.exact [] _ (by kernel_rfl)
                          · intro u W hC _
                            unfold Facts.one
                            go_simp
                            first | exact ⟨Grew.refl _, rfl⟩ | rfl
                          simp only [Act.put, List.setIfInBounds_toArray, List.set_cons_zero, List.set_cons_succ, Nat.reduceAdd]
                          apply Facts.Lex.exact [] _ (by kernel_rfl)
                          · intro u W hC _
                            have jo3 := cellG hC o3
                            unfold Facts.one
                            go_simp
                            first | exact ⟨Grew.refl _, rfl⟩ | rfl
                          simp only [Act.put, List.setIfInBounds_toArray, List.set_cons_zero, List.set_cons_succ, Nat.reduceAdd]
                          apply Facts.Lex.exact [] _ (by kernel_rfl)
                          · intro u W hC _
                            unfold Facts.one
                            go_simp
                            first | exact ⟨Grew.refl _, rfl⟩ | rfl
                          simp only [Act.put, List.setIfInBounds_toArray, List.set_cons_zero, List.set_cons_succ, Nat.reduceAdd]
                          apply Facts.Lex.exact [] _ (by kernel_rfl)
                          · intro u W hC _
                            unfold Facts.one
                            go_simp
                            first | exact ⟨Grew.refl _, rfl⟩ | rfl
                          simp only [Act.put, List.setIfInBounds_toArray, List.set_cons_zero, List.set_cons_succ, Nat.reduceAdd]
                          apply Facts.Lex.exact [] _ (by kernel_rfl)
                          · intro u W hC _
                            unfold Facts.one
                            go_simp
                            first | exact ⟨Grew.refl _, rfl⟩ | rfl
                          simp only [Act.put, List.setIfInBounds_toArray, List.set_cons_zero, List.set_cons_succ, Nat.reduceAdd]
                          apply Facts.Lex.exact [] _ (by kernel_rfl)
                          · intro u W hC _
                            have ja6 := cellG hC a6
                            have ja9 := cellG hC a9
                            have ja7 := cellG hC a7
                            have jy6 := cellG hC y6
                            have jy9 := cellG hC y9
                            unfold Facts.one
                            go_simp
                            first | exact ⟨Grew.refl _, rfl⟩ | rfl
                          simp only [Act.put, List.setIfInBounds_toArray, List.set_cons_zero, List.set_cons_succ, Nat.reduceAdd]
                          apply Facts.Lex.exact [] _ (by kernel_rfl)
                          · intro u W hC _
                            unfold Facts.one
                            go_simp
                            first | exact ⟨Grew.refl _, rfl⟩ | rfl
                          simp only [Act.put, List.setIfInBounds_toArray, List.set_cons_zero, List.set_cons_succ, Nat.reduceAdd]
                          apply Facts.Lex.exact [] _ (by kernel_rfl)
                          · intro u W hC _
                            have ja6 := cellG hC a6
                            have ja9 := cellG hC a9
                            have ja7 := cellG hC a7
                            have jy6 := cellG hC y6
                            have jy9 := cellG hC y9
                            unfold Facts.one
                            go_simp
                            first | exact ⟨Grew.refl _, rfl⟩ | rfl
                          simp only [Act.put, List.setIfInBounds_toArray, List.set_cons_zero, List.set_cons_succ, Nat.reduceAdd]
                          apply Facts.Lex.exact [] _ (by kernel_rfl)
                          · intro u W hC _
                            unfold Facts.one
                            go_simp
                            first | exact ⟨Grew.refl _, rfl⟩ | rfl
                          simp only [Act.put, List.setIfInBounds_toArray, List.set_cons_zero, List.set_cons_succ, Nat.reduceAdd]
                          apply Facts.Lex.exact [] _ (by kernel_rfl)
                          · intro u W hC _
                            unfold Facts.one
                            go_simp
                            first | exact ⟨Grew.refl _, rfl⟩ | rfl
                          simp only [Act.put, List.setIfInBounds_toArray, List.set_cons_zero, List.set_cons_succ, Nat.reduceAdd]
                          apply Facts.Lex.exact [] _ (by kernel_rfl)
                          · intro u W hC _
                            unfold Facts.one
                            go_simp
                            first | exact ⟨Grew.refl _, rfl⟩ | rfl
                          simp only [Act.put, List.setIfInBounds_toArray, List.set_cons_zero, List.set_cons_succ, Nat.reduceAdd]
                          apply Facts.Lex.exact [] _ (by kernel_rfl)
                          · intro u W hC _
                            unfold Facts.one
                            go_simp
                            first | exact ⟨Grew.refl _, rfl⟩ | rfl
                          simp only [Act.put, List.setIfInBounds_toArray, List.set_cons_zero, List.set_cons_succ, Nat.reduceAdd]
                          apply Facts.Lex.exact [] _ (by kernel_rfl)
                          · intro u W hC _
                            unfold Facts.one
                            go_simp
                            first | exact ⟨Grew.refl _, rfl⟩ | rfl
                          simp only [Act.put, List.setIfInBounds_toArray, List.set_cons_zero, List.set_cons_succ, Nat.reduceAdd]
                          apply Facts.Lex.exact [] _ (by kernel_rfl)
                          · intro u W hC _
                            unfold Facts.one
                            go_simp
                            first | exact ⟨Grew.refl _, rfl⟩ | rfl
                          simp only [Act.put, List.setIfInBounds_toArray, List.set_cons_zero, List.set_cons_succ, Nat.reduceAdd]
                          apply Facts.Lex.exact [] _ (by kernel_rfl)
                          · intro u W hC _
                            have d := SUB.out
                            unfold Facts.one
                            go_simp
                            first | exact ⟨Grew.refl _, rfl⟩ | rfl
                          simp only [Act.put, List.setIfInBounds_toArray, List.set_cons_zero, List.set_cons_succ, Nat.reduceAdd]
                          apply Facts.Lex.exact [] _ (by kernel_rfl)
                          · intro u W hC _
                            unfold Facts.one
                            go_simp
                            first | exact ⟨Grew.refl _, rfl⟩ | rfl
                          simp only [Act.put, List.setIfInBounds_toArray, List.set_cons_zero, List.set_cons_succ, Nat.reduceAdd]
                          apply Facts.Lex.exact [] _ (by kernel_rfl)
                          · intro u W hC _
                            unfold Facts.one
                            go_simp
                            first | exact ⟨Grew.refl _, rfl⟩ | rfl
                          simp only [Act.put, List.setIfInBounds_toArray, List.set_cons_zero, List.set_cons_succ, Nat.reduceAdd]
                          apply Facts.Lex.exact [] _ (by kernel_rfl)
                          · intro u W hC _
                            have jp1 := cellG hC p1
                            unfold Facts.one
                            go_simp
                            first | exact ⟨Grew.refl _, rfl⟩ | rfl
                          simp only [Act.put, List.setIfInBounds_toArray, List.set_cons_zero, List.set_cons_succ, Nat.reduceAdd]
                          apply Facts.Lex.exact [] _ (by kernel_rfl)
                          · intro u W hC _
                            unfold Facts.one
                            go_simp
                            first | exact ⟨Grew.refl _, rfl⟩ | rfl
                          simp only [Act.put, List.setIfInBounds_toArray, List.set_cons_zero, List.set_cons_succ, Nat.reduceAdd]
                          apply Facts.Lex.exact [] _ (by kernel_rfl)
                          · intro u W hC _
                            have ja6 := cellG hC a6
                            have ja9 := cellG hC a9
                            have ja7 := cellG hC a7
                            have jy6 := cellG hC y6
                            have jy9 := cellG hC y9
                            unfold Facts.one
                            go_simp
                            first | exact ⟨Grew.refl _, rfl⟩ | rfl
                          simp only [Act.put, List.setIfInBounds_toArray, List.set_cons_zero, List.set_cons_succ, Nat.reduceAdd]
                          apply Facts.Lex.exact [] _ (by kernel_rfl)
                          · intro u W hC _
                            unfold Facts.one
                            go_simp
                            first | exact ⟨Grew.refl _, rfl⟩ | rfl
                          simp only [Act.put, List.setIfInBounds_toArray, List.set_cons_zero, List.set_cons_succ, Nat.reduceAdd]
                          apply Facts.Lex.exact [] _ (by kernel_rfl)
                          · intro u W hC _
                            unfold Facts.one
                            go_simp
                            first | exact ⟨Grew.refl _, rfl⟩ | rfl
                          simp only [Act.put, List.setIfInBounds_toArray, List.set_cons_zero, List.set_cons_succ, Nat.reduceAdd]
                          refine Facts.Lex.done fun u W4 hC hL => ?_
                          have H5 := Lib.hid hC
                          clear hC hL
                          go_wp2
                          go_meet
                          case rel => exact ⟨rfl, H5⟩
                      · have f1 : ((apr : Int) == (ypr : Int)) = false := by simp; omega
                        have f2 : ¬ ((ypr : Int) < (apr : Int)) := by simp at hb; omega
                        as_aux_lemma =>
                          refine Facts.wp_region_text (by kernel_rfl) (by kernel_rfl) ?_
                          apply Facts.Lex.exact [] _ (by kernel_rfl)
                          · intro u W hC _
                            unfold Facts.one
                            go_simp
                            first | exact ⟨Grew.refl _, rfl⟩ | rfl
                          simp only [Act.put, List.setIfInBounds_toArray, List.set_cons_zero, List.set_cons_succ, Nat.zero_add]
                          apply Facts.Lex.exact [] _ (by kernel_rfl)
                          · intro u W hC _
                            have ja6 := cellG hC a6
                            have ja9 := cellG hC a9
                            have ja7 := cellG hC a7
                            have jy6 := cellG hC y6
                            have jy9 := cellG hC y9
                            unfold Facts.one
                            go_simp
                            first | exact ⟨Grew.refl _, rfl⟩ | rfl
                          simp only [Act.put, List.setIfInBounds_toArray, List.set_cons_zero, List.set_cons_succ, Nat.reduceAdd]
                          apply Facts.Lex.exact [] _ (by kernel_rfl)
                          · intro u W hC _
                            unfold Facts.one
                            go_simp
                            first | exact ⟨Grew.refl _, rfl⟩ | rfl
                          simp only [Act.put, List.setIfInBounds_toArray, List.set_cons_zero, List.set_cons_succ, Nat.reduceAdd]
                          apply Facts.Lex.exact [] _ (by kernel_rfl)
                          · intro u W hC _
                            have ja6 := cellG hC a6
                            have ja9 := cellG hC a9
                            have ja7 := cellG hC a7
                            have jy6 := cellG hC y6
                            have jy9 := cellG hC y9
                            unfold Facts.one
                            go_simp
                            first | exact ⟨Grew.refl _, rfl⟩ | rfl
                          simp only [Act.put, List.setIfInBounds_toArray, List.set_cons_zero, List.set_cons_succ, Nat.reduceAdd]
                          apply Facts.Lex.exact [] _ (by kernel_rfl)
                          · intro u W hC _
                            unfold Facts.one
                            go_simp
                            first | exact ⟨Grew.refl _, rfl⟩ | rfl
                          simp only [Act.put, List.setIfInBounds_toArray, List.set_cons_zero, List.set_cons_succ, Nat.reduceAdd]
                          apply Facts.Lex.exact [] _ (by kernel_rfl)
                          · intro u W hC _
                            unfold Facts.one
                            go_simp
                            first | exact ⟨Grew.refl _, rfl⟩ | rfl
                          simp only [Act.put, List.setIfInBounds_toArray, List.set_cons_zero, List.set_cons_succ, Nat.reduceAdd]
                          apply Facts.Lex.exact [] _ (by kernel_rfl)
                          · intro u W hC _
                            unfold Facts.one
                            go_simp
                            first | exact ⟨Grew.refl _, rfl⟩ | rfl
                          simp only [Act.put, List.setIfInBounds_toArray, List.set_cons_zero, List.set_cons_succ, Nat.reduceAdd]
                          apply Facts.Lex.exact [] _ (by kernel_rfl)
                          · intro u W hC _
                            have ja6 := cellG hC a6
                            have ja9 := cellG hC a9
                            have ja7 := cellG hC a7
                            have jy6 := cellG hC y6
                            have jy9 := cellG hC y9
                            unfold Facts.one
                            go_simp
                            first | exact ⟨Grew.refl _, rfl⟩ | rfl
                          simp only [Act.put, List.setIfInBounds_toArray, List.set_cons_zero, List.set_cons_succ, Nat.reduceAdd]
                          apply Facts.Lex.exact [] _ (by kernel_rfl)
                          · intro u W hC _
                            unfold Facts.one
                            go_simp
                            first | exact ⟨Grew.refl _, rfl⟩ | rfl
                          simp only [Act.put, List.setIfInBounds_toArray, List.set_cons_zero, List.set_cons_succ, Nat.reduceAdd]
                          apply Facts.Lex.exact [] _ (by kernel_rfl)
                          · intro u W hC _
                            have ja6 := cellG hC a6
                            have ja9 := cellG hC a9
                            have ja7 := cellG hC a7
                            have jy6 := cellG hC y6
                            have jy9 := cellG hC y9
                            unfold Facts.one
                            go_simp
                            first | exact ⟨Grew.refl _, rfl⟩ | rfl
                          simp only [Act.put, List.setIfInBounds_toArray, List.set_cons_zero, List.set_cons_succ, Nat.reduceAdd]
                          apply Facts.Lex.exact [] _ (by kernel_rfl)
                          · intro u W hC _
                            unfold Facts.one
                            go_simp
                            first | exact ⟨Grew.refl _, rfl⟩ | rfl
                          simp only [Act.put, List.setIfInBounds_toArray, List.set_cons_zero, List.set_cons_succ, Nat.reduceAdd]
                          apply Facts.Lex.exact [] _ (by kernel_rfl)
                          · intro u W hC _
                            unfold Facts.one
                            go_simp
                            first | exact ⟨Grew.refl _, rfl⟩ | rfl
                          simp only [Act.put, List.setIfInBounds_toArray, List.set_cons_zero, List.set_cons_succ, Nat.reduceAdd]
                          apply Facts.Lex.exact [] _ (by kernel_rfl)
                          · intro u W hC _
                            unfold Facts.one
                            go_simp
                            first | exact ⟨Grew.refl _, rfl⟩ | rfl
                          simp only [Act.put, List.setIfInBounds_toArray, List.set_cons_zero, List.set_cons_succ, Nat.reduceAdd]
                          apply Facts.Lex.exact [] _ (by kernel_rfl)
                          · intro u W hC _
                            unfold Facts.one
                            go_simp
                            first | exact ⟨Grew.refl _, rfl⟩ | rfl
                          simp only [Act.put, List.setIfInBounds_toArray, List.set_cons_zero, List.set_cons_succ, Nat.reduceAdd]
                          apply Facts.Lex.exact [] _ (by kernel_rfl)
                          · intro u W hC _
                            have jo3 := cellG hC o3
                            unfold Facts.one
                            go_simp
                            first | exact ⟨Grew.refl _, rfl⟩ | rfl
                          simp only [Act.put, List.setIfInBounds_toArray, List.set_cons_zero, List.set_cons_succ, Nat.reduceAdd]
                          apply Facts.Lex.exact [] _ (by kernel_rfl)
                          · intro u W hC _
                            unfold Facts.one
                            go_simp
                            first | exact ⟨Grew.refl _, rfl⟩ | rfl
                          simp only [Act.put, List.setIfInBounds_toArray, List.set_cons_zero, List.set_cons_succ, Nat.reduceAdd]
                          apply Facts.Lex.exact [] _ (by kernel_rfl)
                          · intro u W hC _
                            unfold Facts.one
                            go_simp
                            first | exact ⟨Grew.refl _, rfl⟩ | rfl
                          simp only [Act.put, List.setIfInBounds_toArray, List.set_cons_zero, List.set_cons_succ, Nat.reduceAdd]
                          apply Facts.Lex.exact [] _ (by kernel_rfl)
                          · intro u W hC _
                            unfold Facts.one
                            go_simp
                            first | exact ⟨Grew.refl _, rfl⟩ | rfl
                          simp only [Act.put, List.setIfInBounds_toArray, List.set_cons_zero, List.set_cons_succ, Nat.reduceAdd]
                          apply Facts.Lex.exact [] _ (by kernel_rfl)
                          · intro u W hC _
                            have ja6 := cellG hC a6
                            have ja9 := cellG hC a9
                            have ja7 := cellG hC a7
                            have jy6 := cellG hC y6
                            have jy9 := cellG hC y9
                            unfold Facts.one
                            go_simp
                            first | exact ⟨Grew.refl _, rfl⟩ | rfl
                          simp only [Act.put, List.setIfInBounds_toArray, List.set_cons_zero, List.set_cons_succ, Nat.reduceAdd]
                          apply Facts.Lex.exact [] _ (by kernel_rfl)
                          · intro u W hC _
                            unfold Facts.one
                            go_simp
                            first | exact ⟨Grew.refl _, rfl⟩ | rfl
                          simp only [Act.put, List.setIfInBounds_toArray, List.set_cons_zero, List.set_cons_succ, Nat.reduceAdd]
                          apply Facts.Lex.exact [] _ (by kernel_rfl)
                          · intro u W hC _
                            have ja6 := cellG hC a6
                            have ja9 := cellG hC a9
                            have ja7 := cellG hC a7
                            have jy6 := cellG hC y6
                            have jy9 := cellG hC y9
                            unfold Facts.one
                            go_simp
                            first | exact ⟨Grew.refl _, rfl⟩ | rfl
                          simp only [Act.put, List.setIfInBounds_toArray, List.set_cons_zero, List.set_cons_succ, Nat.reduceAdd]
                          apply Facts.Lex.exact [] _ (by kernel_rfl)
                          · intro u W hC _
                            unfold Facts.one
                            go_simp
                            first | exact ⟨Grew.refl _, rfl⟩ | rfl
                          simp only [Act.put, List.setIfInBounds_toArray, List.set_cons_zero, List.set_cons_succ, Nat.reduceAdd]
                          apply Facts.Lex.exact [] _ (by kernel_rfl)
                          · intro u W hC _
                            unfold Facts.one
                            go_simp
                            first | exact ⟨Grew.refl _, rfl⟩ | rfl
                          simp only [Act.put, List.setIfInBounds_toArray, List.set_cons_zero, List.set_cons_succ, Nat.reduceAdd]
                          apply Facts.Lex.exact [] _ (by kernel_rfl)
                          · intro u W hC _
                            unfold Facts.one
                            go_simp
                            first | exact ⟨Grew.refl _, rfl⟩ | rfl
                          simp only [Act.put, List.setIfInBounds_toArray, List.set_cons_zero, List.set_cons_succ, Nat.reduceAdd]
                          apply Facts.Lex.exact [] _ (by kernel_rfl)
                          · intro u W hC _
                            unfold Facts.one
                            go_simp
                            first | exact ⟨Grew.refl _, rfl⟩ | rfl
                          simp only [Act.put, List.setIfInBounds_toArray, List.set_cons_zero, List.set_cons_succ, Nat.reduceAdd]
                          apply Facts.Lex.exact [] _ (by kernel_rfl)
                          · intro u W hC _
                            unfold Facts.one
                            go_simp
                            first | exact ⟨Grew.refl _, rfl⟩ | rfl
                          simp only [Act.put, List.setIfInBounds_toArray, List.set_cons_zero, List.set_cons_succ, Nat.reduceAdd]
                          apply Facts.Lex.exact [] _ (by kernel_rfl)
                          · intro u W hC _
                            have jo3 := cellG hC o3
                            unfold Facts.one
                            go_simp
                            first | exact ⟨Grew.refl _, rfl⟩ | rfl
                          simp only [Act.put, List.setIfInBounds_toArray, List.set_cons_zero, List.set_cons_succ, Nat.reduceAdd]
                          apply Facts.Lex.exact [] _ (by kernel_rfl)
                          · intro u W hC _
                            unfold Facts.one
                            go_simp
                            first | exact ⟨Grew.refl _, rfl⟩ | rfl
                          simp only [Act.put, List.setIfInBounds_toArray, List.set_cons_zero, List.set_cons_succ, Nat.reduceAdd]
                          apply Facts.Lex.exact [] _ (by kernel_rfl)
                          · intro u W hC _
                            unfold Facts.one
                            go_simp
                            first | exact ⟨Grew.refl _, rfl⟩ | rfl
                          simp only [Act.put, List.setIfInBounds_toArray, List.set_cons_zero, List.set_cons_succ, Nat.reduceAdd]
                          apply Facts.Lex.exact [] _ (by kernel_rfl)
                          · intro u W hC _
                            unfold Facts.one
                            go_simp
                            first | exact ⟨Grew.refl _, rfl⟩ | rfl
                          simp only [Act.put, List.setIfInBounds_toArray, List.set_cons_zero, List.set_cons_succ, Nat.reduceAdd]
                          apply Facts.Lex.exact [] _ (by kernel_rfl)
                          · intro u W hC _
                            have ja6 := cellG hC a6
                            have ja9 := cellG hC a9
                            have ja7 := cellG hC a7
                            have jy6 := cellG hC y6
                            have jy9 := cellG hC y9
                            unfold Facts.one
                            go_simp
                            first | exact ⟨Grew.refl _, rfl⟩ | rfl
                          simp only [Act.put, List.setIfInBounds_toArray, List.set_cons_zero, List.set_cons_succ, Nat.reduceAdd]
                          apply Facts.Lex.exact [] _ (by kernel_rfl)
                          · intro u W hC _
                            unfold Facts.one
                            go_simp
                            first | exact ⟨Grew.refl _, rfl⟩ | rfl
                          simp only [Act.put, List.setIfInBounds_toArray, List.set_cons_zero, List.set_cons_succ, Nat.reduceAdd]
                          apply Facts.Lex.exact [] _ (by kernel_rfl)
                          · intro u W hC _
                            have ja6 := cellG hC a6
                            have ja9 := cellG hC a9
                            have ja7 := cellG hC a7
                            have jy6 := cellG hC y6
                            have jy9 := cellG hC y9
                            unfold Facts.one
                            go_simp
                            first | exact ⟨Grew.refl _, rfl⟩ | rfl
                          simp only [Act.put, List.setIfInBounds_toArray, List.set_cons_zero, List.set_cons_succ, Nat.reduceAdd]
                          apply Facts.Lex.exact [] _ (by kernel_rfl)
                          · intro u W hC _
                            unfold Facts.one
                            go_simp
                            first | exact ⟨Grew.refl _, rfl⟩ | rfl
                          simp only [Act.put, List.setIfInBounds_toArray, List.set_cons_zero, List.set_cons_succ, Nat.reduceAdd]
                          apply Facts.Lex.exact [] _ (by kernel_rfl)
                          · intro u W hC _
                            unfold Facts.one
                            go_simp
                            first | exact ⟨Grew.refl _, rfl⟩ | rfl
                          simp only [Act.put, List.setIfInBounds_toArray, List.set_cons_zero, List.set_cons_succ, Nat.reduceAdd]
                          apply Facts.Lex.exact [] _ (by kernel_rfl)
                          · intro u W hC _
                            unfold Facts.one
                            go_simp
                            first | exact ⟨Grew.refl _, rfl⟩ | rfl
                          simp only [Act.put, List.setIfInBounds_toArray, List.set_cons_zero, List.set_cons_succ, Nat.reduceAdd]
                          apply Facts.Lex.exact [] _ (by kernel_rfl)
                          · intro u W hC _
                            unfold Facts.one
                            go_simp
                            first | exact ⟨Grew.refl _, rfl⟩ | rfl
                          simp only [Act.put, List.setIfInBounds_toArray, List.set_cons_zero, List.set_cons_succ, Nat.reduceAdd]
                          apply Facts.Lex.exact [] _ (by kernel_rfl)
                          · intro u W hC _
                            unfold Facts.one
                            go_simp
                            first | exact ⟨Grew.refl _, rfl⟩ | rfl
                          simp only [Act.put, List.setIfInBounds_toArray, List.set_cons_zero, List.set_cons_succ, Nat.reduceAdd]
                          apply Facts.Lex.exact [] _ (by kernel_rfl)
                          · intro u W hC _
                            unfold Facts.one
                            go_simp
                            first | exact ⟨Grew.refl _, rfl⟩ | rfl
                          simp only [Act.put, List.setIfInBounds_toArray, List.set_cons_zero, List.set_cons_succ, Nat.reduceAdd]
                          apply Facts.Lex.exact [] _ (by kernel_rfl)
                          · intro u W hC _
                            have d := SUB.out
                            unfold Facts.one
                            go_simp
                            first | exact ⟨Grew.refl _, rfl⟩ | rfl
                          simp only [Act.put, List.setIfInBounds_toArray, List.set_cons_zero, List.set_cons_succ, Nat.reduceAdd]
                          apply Facts.Lex.exact [] _ (by kernel_rfl)
                          · intro u W hC _
                            unfold Facts.one
                            go_simp
                            first | exact ⟨Grew.refl _, rfl⟩ | rfl
                          simp only [Act.put, List.setIfInBounds_toArray, List.set_cons_zero, List.set_cons_succ, Nat.reduceAdd]
                          apply Facts.Lex.exact [] _ (by kernel_rfl)
                          · intro u W hC _
                            unfold Facts.one
                            go_simp
                            first | exact ⟨Grew.refl _, rfl⟩ | rfl
                          simp only [Act.put, List.setIfInBounds_toArray, List.set_cons_zero, List.set_cons_succ, Nat.reduceAdd]
                          apply Facts.Lex.exact [] _ (by kernel_rfl)
                          · intro u W hC _
                            have jp1 := cellG hC p1
                            unfold Facts.one
                            go_simp
                            first | exact ⟨Grew.refl _, rfl⟩ | rfl
                          simp only [Act.put, List.setIfInBounds_toArray, List.set_cons_zero, List.set_cons_succ, Nat.reduceAdd]
                          apply Facts.Lex.exact [] _ (by kernel_rfl)
                          · intro u W hC _
                            unfold Facts.one
                            go_simp
                            first | exact ⟨Grew.refl _, rfl⟩ | rfl
                          simp only [Act.put, List.setIfInBounds_toArray, List.set_cons_zero, List.set_cons_succ, Nat.reduceAdd]
                          apply Facts.Lex.exact [] _ (by kernel_rfl)
                          · intro u W hC _
                            have ja6 := cellG hC a6
                            have ja9 := cellG hC a9
                            have ja7 := cellG hC a7
                            have jy6 := cellG hC y6
                            have jy9 := cellG hC y9
                            unfold Facts.one
                            go_simp
                            first | exact ⟨Grew.refl _, rfl⟩ | rfl
                          simp only [Act.put, List.setIfInBounds_toArray, List.set_cons_zero, List.set_cons_succ, Nat.reduceAdd]
                          apply Facts.Lex.exact [] _ (by kernel_rfl)
                          · intro u W hC _
                            unfold Facts.one
                            go_simp
                            first | exact ⟨Grew.refl _, rfl⟩ | rfl
                          simp only [Act.put, List.setIfInBounds_toArray, List.set_cons_zero, List.set_cons_succ, Nat.reduceAdd]
                          apply Facts.Lex.exact [] _ (by kernel_rfl)
                          · intro u W hC _
                            unfold Facts.one
                            go_simp
                            first | exact ⟨Grew.refl _, rfl⟩ | rfl
                          simp only [Act.put, List.setIfInBounds_toArray, List.set_cons_zero, List.set_cons_succ, Nat.reduceAdd]
                          refine Facts.Lex.done fun u W4 hC hL => ?_
                          have H5 := Lib.hid hC
                          clear hC hL
                          go_wp2
                          go_meet
                          case rel => exact ⟨rfl, H5⟩
                    · try simp only at hsd
                      subst hsd
                      rcases HBET.out with ⟨hpp, hb⟩ | ⟨hne, hb⟩
                      · subst hpp
                        have f1 : ¬ (ysq ≤ asq) := by omega
                        as_aux_lemma =>
                          refine Facts.wp_region_text (by kernel_rfl) (by kernel_rfl) ?_
                          apply Facts.Lex.exact [] _ (by kernel_rfl)
                          · intro u W hC _
                            unfold Facts.one
                            go_simp
                            first | exact ⟨Grew.refl _, rfl⟩ | rfl
                          simp only [Act.put, List.setIfInBounds_toArray, List.set_cons_zero, List.set_cons_succ, Nat.zero_add]
                          apply Facts.Lex.exact [] _ (by kernel_rfl)
                          · intro u W hC _
                            have ja6 := cellG hC a6
                            have ja9 := cellG hC a9
                            have ja7 := cellG hC a7
                            have jy6 := cellG hC y6
                            have jy9 := cellG hC y9
                            unfold Facts.one
                            go_simp
                            first | exact ⟨Grew.refl _, rfl⟩ | rfl
                          simp only [Act.put, List.setIfInBounds_toArray, List.set_cons_zero, List.set_cons_succ, Nat.reduceAdd]
                          apply Facts.Lex.exact [] _ (by kernel_rfl)
                          · intro u W hC _
                            unfold Facts.one
                            go_simp
                            first | exact ⟨Grew.refl _, rfl⟩ | rfl
                          simp only [Act.put, List.setIfInBounds_toArray, List.set_cons_zero, List.set_cons_succ, Nat.reduceAdd]
                          apply Facts.Lex.exact [] _ (by kernel_rfl)
                          · intro u W hC _
                            have ja6 := cellG hC a6
                            have ja9 := cellG hC a9
                            have ja7 := cellG hC a7
                            have jy6 := cellG hC y6
                            have jy9 := cellG hC y9
                            unfold Facts.one
                            go_simp
                            first | exact ⟨Grew.refl _, rfl⟩ | rfl
                          simp only [Act.put, List.setIfInBounds_toArray, List.set_cons_zero, List.set_cons_succ, Nat.reduceAdd]
                          apply Facts.Lex.exact [] _ (by kernel_rfl)
                          · intro u W hC _
                            unfold Facts.one
                            go_simp
                            first | exact ⟨Grew.refl _, rfl⟩ | rfl
                          simp only [Act.put, List.setIfInBounds_toArray, List.set_cons_zero, List.set_cons_succ, Nat.reduceAdd]
                          apply Facts.Lex.exact [] _ (by kernel_rfl)
                          · intro u W hC _
                            unfold Facts.one
                            go_simp
                            first | exact ⟨Grew.refl _, rfl⟩ | rfl
                          simp only [Act.put, List.setIfInBounds_toArray, List.set_cons_zero, List.set_cons_succ, Nat.reduceAdd]
                          apply Facts.Lex.exact [] _ (by kernel_rfl)
                          · intro u W hC _
                            unfold Facts.one
                            go_simp
                            first | exact ⟨Grew.refl _, rfl⟩ | rfl
                          simp only [Act.put, List.setIfInBounds_toArray, List.set_cons_zero, List.set_cons_succ, Nat.reduceAdd]
                          apply Facts.Lex.exact [] _ (by kernel_rfl)
                          · intro u W hC _
                            have ja6 := cellG hC a6
                            have ja9 := cellG hC a9
                            have ja7 := cellG hC a7
                            have jy6 := cellG hC y6
                            have jy9 := cellG hC y9
                            unfold Facts.one
                            go_simp
                            first | exact ⟨Grew.refl _, rfl⟩ | rfl
                          simp only [Act.put, List.setIfInBounds_toArray, List.set_cons_zero, List.set_cons_succ, Nat.reduceAdd]
                          apply Facts.Lex.exact [] _ (by kernel_rfl)
                          · intro u W hC _
                            unfold Facts.one
                            go_simp
                            first | exact ⟨Grew.refl _, rfl⟩ | rfl
                          simp only [Act.put, List.setIfInBounds_toArray, List.set_cons_zero, List.set_cons_succ, Nat.reduceAdd]
                          apply Facts.Lex.exact [] _ (by kernel_rfl)
                          · intro u W hC _
                            have ja6 := cellG hC a6
                            have ja9 := cellG hC a9
                            have ja7 := cellG hC a7
                            have jy6 := cellG hC y6
                            have jy9 := cellG hC y9
                            unfold Facts.one
                            go_simp
                            first | exact ⟨Grew.refl _, rfl⟩ | rfl
                          simp only [Act.put, List.setIfInBounds_toArray, List.set_cons_zero, List.set_cons_succ, Nat.reduceAdd]
                          apply Facts.Lex.exact [] _ (by kernel_rfl)
                          · intro u W hC _
                            unfold Facts.one
                            go_simp
                            first | exact ⟨Grew.refl _, rfl⟩ | rfl
                          simp only [Act.put, List.setIfInBounds_toArray, List.set_cons_zero, List.set_cons_succ, Nat.reduceAdd]
                          apply Facts.Lex.exact [] _ (by kernel_rfl)
                          · intro u W hC _
                            unfold Facts.one
                            go_simp
                            first | exact ⟨Grew.refl _, rfl⟩ | rfl
                          simp only [Act.put, List.setIfInBounds_toArray, List.set_cons_zero, List.set_cons_succ, Nat.reduceAdd]
                          apply Facts.Lex.exact [] _ (by kernel_rfl)
                          · intro u W hC _
                            unfold Facts.one
                            go_simp
                            first | exact ⟨Grew.refl _, rfl⟩ | rfl
                          simp only [Act.put, List.setIfInBounds_toArray, List.set_cons_zero, List.set_cons_succ, Nat.reduceAdd]
                          apply Facts.Lex.exact [] _ (by kernel_rfl)
                          · intro u W hC _
                            unfold Facts.one
                            go_simp
                            first | exact ⟨Grew.refl _, rfl⟩ | rfl
                          simp only [Act.put, List.setIfInBounds_toArray, List.set_cons_zero, List.set_cons_succ, Nat.reduceAdd]
                          apply Facts.Lex.exact [] _ (by kernel_rfl)
                          · intro u W hC _
                            have jo3 := cellG hC o3
                            unfold Facts.one
                            go_simp
                            first | exact ⟨Grew.refl _, rfl⟩ | rfl
                          simp only [Act.put, List.setIfInBounds_toArray, List.set_cons_zero, List.set_cons_succ, Nat.reduceAdd]
                          apply Facts.Lex.exact [] _ (by kernel_rfl)
                          · intro u W hC _
                            unfold Facts.one
                            go_simp
                            first | exact ⟨Grew.refl _, rfl⟩ | rfl
                          simp only [Act.put, List.setIfInBounds_toArray, List.set_cons_zero, List.set_cons_succ, Nat.reduceAdd]
                          apply Facts.Lex.exact [] _ (by kernel_rfl)
                          · intro u W hC _
                            unfold Facts.one
                            go_simp
                            first | exact ⟨Grew.refl _, rfl⟩ | rfl
                          simp only [Act.put, List.setIfInBounds_toArray, List.set_cons_zero, List.set_cons_succ, Nat.reduceAdd]
                          apply Facts.Lex.exact [] _ (by kernel_rfl)
                          · intro u W hC _
                            unfold Facts.one
                            go_simp
                            first | exact ⟨Grew.refl _, rfl⟩ | rfl
                          simp only [Act.put, List.setIfInBounds_toArray, List.set_cons_zero, List.set_cons_succ, Nat.reduceAdd]
                          apply Facts.Lex.exact [] _ (by kernel_rfl)
                          · intro u W hC _
                            have ja6 := cellG hC a6
                            have ja9 := cellG hC a9
                            have ja7 := cellG hC a7
                            have jy6 := cellG hC y6
                            have jy9 := cellG hC y9
                            unfold Facts.one
                            go_simp
                            first | exact ⟨Grew.refl _, rfl⟩ | rfl
                          simp only [Act.put, List.setIfInBounds_toArray, List.set_cons_zero, List.set_cons_succ, Nat.reduceAdd]
                          apply Facts.Lex.exact [] _ (by kernel_rfl)
                          · intro u W hC _
                            unfold Facts.one
                            go_simp
                            first | exact ⟨Grew.refl _, rfl⟩ | rfl
                          simp only [Act.put, List.setIfInBounds_toArray, List.set_cons_zero, List.set_cons_succ, Nat.reduceAdd]
                          apply Facts.Lex.exact [] _ (by kernel_rfl)
                          · intro u W hC _
                            have ja6 := cellG hC a6
                            have ja9 := cellG hC a9
                            have ja7 := cellG hC a7
                            have jy6 := cellG hC y6
                            have jy9 := cellG hC y9
                            unfold Facts.one
                            go_simp
                            first | exact ⟨Grew.refl _, rfl⟩ | rfl
                          simp only [Act.put, List.setIfInBounds_toArray, List.set_cons_zero, List.set_cons_succ, Nat.reduceAdd]
                          apply Facts.Lex.exact [] _ (by kernel_rfl)
                          · intro u W hC _
                            unfold Facts.one
                            go_simp
                            first | exact ⟨Grew.refl _, rfl⟩ | rfl
                          simp only [Act.put, List.setIfInBounds_toArray, List.set_cons_zero, List.set_cons_succ, Nat.reduceAdd]
                          apply Facts.Lex.exact [] _ (by kernel_rfl)
                          · intro u W hC _
                            unfold Facts.one
                            go_simp
                            first | exact ⟨Grew.refl _, rfl⟩ | rfl
                          simp only [Act.put, List.setIfInBounds_toArray, List.set_cons_zero, List.set_cons_succ, Nat.reduceAdd]
                          apply Facts.Lex.exact [] _ (by kernel_rfl)
                          · intro u W hC _
                            unfold Facts.one
                            go_simp
                            first | exact ⟨Grew.refl _, rfl⟩ | rfl
                          simp only [Act.put, List.setIfInBounds_toArray, List.set_cons_zero, List.set_cons_succ, Nat.reduceAdd]
                          apply Facts.Lex.exact [] _ (by kernel_rfl)
                          · intro u W hC _
                            unfold Facts.one
                            go_simp
                            first | exact ⟨Grew.refl _, rfl⟩ | rfl
                          simp only [Act.put, List.setIfInBounds_toArray, List.set_cons_zero, List.set_cons_succ, Nat.reduceAdd]
                          apply Facts.Lex.exact [] _ (by kernel_rfl)
                          · intro u W hC _
                            unfold Facts.one
                            go_simp
                            first | exact ⟨Grew.refl _, rfl⟩ | rfl
                          simp only [Act.put, List.setIfInBounds_toArray, List.set_cons_zero, List.set_cons_succ, Nat.reduceAdd]
                          apply Facts.Lex.exact [] _ (by kernel_rfl)
                          · intro u W hC _
                            have jo3 := cellG hC o3
                            unfold Facts.one
                            go_simp
                            first | exact ⟨Grew.refl _, rfl⟩ | rfl
                          simp only [Act.put, List.setIfInBounds_toArray, List.set_cons_zero, List.set_cons_succ, Nat.reduceAdd]
                          apply Facts.Lex.exact [] _ (by kernel_rfl)
                          · intro u W hC _
                            unfold Facts.one
                            go_simp
                            first | exact ⟨Grew.refl _, rfl⟩ | rfl
                          simp only [Act.put, List.setIfInBounds_toArray, List.set_cons_zero, List.set_cons_succ, Nat.reduceAdd]
                          apply Facts.Lex.exact [] _ (by kernel_rfl)
                          · intro u W hC _
                            unfold Facts.one
                            go_simp
                            first | exact ⟨Grew.refl _, rfl⟩ | rfl
                          simp only [Act.put, List.setIfInBounds_toArray, List.set_cons_zero, List.set_cons_succ, Nat.reduceAdd]
                          apply Facts.Lex.exact [] _ (by kernel_rfl)
                          · intro u W hC _
                            unfold Facts.one
                            go_simp
                            first | exact ⟨Grew.refl _, rfl⟩ | rfl
                          simp only [Act.put, List.setIfInBounds_toArray, List.set_cons_zero, List.set_cons_succ, Nat.reduceAdd]
                          apply Facts.Lex.exact [] _ (by kernel_rfl)
                          · intro u W hC _
                            have ja6 := cellG hC a6
                            have ja9 := cellG hC a9
                            have ja7 := cellG hC a7
                            have jy6 := cellG hC y6
                            have jy9 := cellG hC y9
                            unfold Facts.one
                            go_simp
                            first | exact ⟨Grew.refl _, rfl⟩ | rfl
                          simp only [Act.put, List.setIfInBounds_toArray, List.set_cons_zero, List.set_cons_succ, Nat.reduceAdd]
                          apply Facts.Lex.exact [] _ (by kernel_rfl)
                          · intro u W hC _
                            unfold Facts.one
                            go_simp
                            first | exact ⟨Grew.refl _, rfl⟩ | rfl
                          simp only [Act.put, List.setIfInBounds_toArray, List.set_cons_zero, List.set_cons_succ, Nat.reduceAdd]
                          apply Facts.Lex.exact [] _ (by kernel_rfl)
                          · intro u W hC _
                            have ja6 := cellG hC a6
                            have ja9 := cellG hC a9
                            have ja7 := cellG hC a7
                            have jy6 := cellG hC y6
                            have jy9 := cellG hC y9
                            unfold Facts.one
                            go_simp
                            first | exact ⟨Grew.refl _, rfl⟩ | rfl
                          simp only [Act.put, List.setIfInBounds_toArray, List.set_cons_zero, List.set_cons_succ, Nat.reduceAdd]
                          apply Facts.Lex.exact [] _ (by kernel_rfl)
                          · intro u W hC _
                            unfold Facts.one
                            go_simp
                            first | exact ⟨Grew.refl _, rfl⟩ | rfl
                          simp only [Act.put, List.setIfInBounds_toArray, List.set_cons_zero, List.set_cons_succ, Nat.reduceAdd]
                          apply Facts.Lex.exact [] _ (by kernel_rfl)
                          · intro u W hC _
                            unfold Facts.one
                            go_simp
                            first | exact ⟨Grew.refl _, rfl⟩ | rfl
                          simp only [Act.put, List.setIfInBounds_toArray, List.set_cons_zero, List.set_cons_succ, Nat.reduceAdd]
                          apply Facts.Lex.exact [] _ (by kernel_rfl)
                          · intro u W hC _
                            unfold Facts.one
                            go_simp
                            first | exact ⟨Grew.refl _, rfl⟩ | rfl
                          simp only [Act.put, List.setIfInBounds_toArray, List.set_cons_zero, List.set_cons_succ, Nat.reduceAdd]
                          apply Facts.Lex.exact [] _ (by kernel_rfl)
                          · intro u W hC _
                            unfold Facts.one
                            go_simp
                            first | exact ⟨Grew.refl _, rfl⟩ | rfl
                          simp only [Act.put, List.setIfInBounds_toArray, List.set_cons_zero, List.set_cons_succ, Nat.reduceAdd]
                          apply Facts.Lex.exact [] _ (by kernel_rfl)
                          · intro u W hC _
                            unfold Facts.one
                            go_simp
                            first | exact ⟨Grew.refl _, rfl⟩ | rfl
                          simp only [Act.put, List.setIfInBounds_toArray, List.set_cons_zero, List.set_cons_succ, Nat.reduceAdd]
                          apply Facts.Lex.exact [] _ (by kernel_rfl)
                          · intro u W hC _
                            unfold Facts.one
                            go_simp
                            first | exact ⟨Grew.refl _, rfl⟩ | rfl
                          simp only [Act.put, List.setIfInBounds_toArray, List.set_cons_zero, List.set_cons_succ, Nat.reduceAdd]
                          apply Facts.Lex.exact [] _ (by kernel_rfl)
                          · intro u W hC _
                            have d := SUB.out
                            unfold Facts.one
                            go_simp
                            first | exact ⟨Grew.refl _, rfl⟩ | rfl
                          simp only [Act.put, List.setIfInBounds_toArray, List.set_cons_zero, List.set_cons_succ, Nat.reduceAdd]
                          apply Facts.Lex.exact [] _ (by kernel_rfl)
                          · intro u W hC _
                            unfold Facts.one
                            go_simp
                            first | exact ⟨Grew.refl _, rfl⟩ | rfl
                          simp only [Act.put, List.setIfInBounds_toArray, List.set_cons_zero, List.set_cons_succ, Nat.reduceAdd]
                          apply Facts.Lex.exact [] _ (by kernel_rfl)
                          · intro u W hC _
                            unfold Facts.one
                            go_simp
                            first | exact ⟨Grew.refl _, rfl⟩ | rfl
                          simp only [Act.put, List.setIfInBounds_toArray, List.set_cons_zero, List.set_cons_succ, Nat.reduceAdd]
                          apply Facts.Lex.exact [] _ (by kernel_rfl)
                          · intro u W hC _
                            have jp1 := cellG hC p1
                            unfold Facts.one
                            go_simp
                            first | exact ⟨Grew.refl _, rfl⟩ | rfl
                          simp only [Act.put, List.setIfInBounds_toArray, List.set_cons_zero, List.set_cons_succ, Nat.reduceAdd]
                          apply Facts.Lex.exact [] _ (by kernel_rfl)
                          · intro u W hC _
                            unfold Facts.one
                            go_simp
                            first | exact ⟨Grew.refl _, rfl⟩ | rfl
                          simp only [Act.put, List.setIfInBounds_toArray, List.set_cons_zero, List.set_cons_succ, Nat.reduceAdd]
                          apply Facts.Lex.exact [] _ (by kernel_rfl)
                          · intro u W hC _
                            have ja6 := cellG hC a6
                            have ja9 := cellG hC a9
                            have ja7 := cellG hC a7
                            have jy6 := cellG hC y6
                            have jy9 := cellG hC y9
                            unfold Facts.one
                            go_simp
                            first | exact ⟨Grew.refl _, rfl⟩ | rfl
                          simp only [Act.put, List.setIfInBounds_toArray, List.set_cons_zero, List.set_cons_succ, Nat.reduceAdd]
                          apply Facts.Lex.exact [] _ (by kernel_rfl)
                          · intro u W hC _
                            unfold Facts.one
                            go_simp
                            first | exact ⟨Grew.refl _, rfl⟩ | rfl
                          simp only [Act.put, List.setIfInBounds_toArray, List.set_cons_zero, List.set_cons_succ, Nat.reduceAdd]
                          apply Facts.Lex.exact [] _ (by kernel_rfl)
                          · intro u W hC _
                            unfold Facts.one
                            go_simp
                            first | exact ⟨Grew.refl _, rfl⟩ | rfl
                          simp only [Act.put, List.setIfInBounds_toArray, List.set_cons_zero, List.set_cons_succ, Nat.reduceAdd]
                          refine Facts.Lex.done fun u W4 hC hL => ?_
                          have H5 := Lib.hid hC
                          clear hC hL
                          go_wp2
                          go_meet
                          case rel => exact ⟨rfl, H5⟩
                      · have f1 : ((apr : Int) == (ypr : Int)) = false := by simp; omega
                        have f2 : ¬ ((apr : Int) < (ypr : Int)) := by simp at hb; omega
                        as_aux_lemma =>
                          refine Facts.wp_region_text (by kernel_rfl) (by kernel_rfl) ?_
                          apply Facts.Lex.exact [] _ (by kernel_rfl)
                          · intro u W hC _
                            unfold Facts.one
                            go_simp
                            first | exact ⟨Grew.refl _, rfl⟩ | rfl
                          simp only [Act.put, List.setIfInBounds_toArray, List.set_cons_zero, List.set_cons_succ, Nat.zero_add]
                          apply Facts.Lex.exact [] _ (by kernel_rfl)
                          · intro u W hC _
                            have ja6 := cellG hC a6
                            have ja9 := cellG hC a9
                            have ja7 := cellG hC a7
                            have jy6 := cellG hC y6
                            have jy9 := cellG hC y9
                            unfold Facts.one
                            go_simp
                            first | exact ⟨Grew.refl _, rfl⟩ | rfl
                          simp only [Act.put, List.setIfInBounds_toArray, List.set_cons_zero, List.set_cons_succ, Nat.reduceAdd]
                          apply Facts.Lex.exact [] _ (by kernel_rfl)
                          · intro u W hC _
                            unfold Facts.one
                            go_simp
                            first | exact ⟨Grew.refl _, rfl⟩ | rfl
                          simp only [Act.put, List.setIfInBounds_toArray, List.set_cons_zero, List.set_cons_succ, Nat.reduceAdd]
                          apply Facts.Lex.exact [] _ (by kernel_rfl)
                          · intro u W hC _
                            have ja6 := cellG hC a6
                            have ja9 := cellG hC a9
                            have ja7 := cellG hC a7
                            have jy6 := cellG hC y6
                            have jy9 := cellG hC y9
                            unfold Facts.one
                            go_simp
                            first | exact ⟨Grew.refl _, rfl⟩ | rfl
                          simp only [Act.put, List.setIfInBounds_toArray, List.set_cons_zero, List.set_cons_succ, Nat.reduceAdd]
                          apply Facts.Lex.exact [] _ (by kernel_rfl)
                          · intro u W hC _
                            unfold Facts.one
                            go_simp
                            first | exact ⟨Grew.refl _, rfl⟩ | rfl
                          simp only [Act.put, List.setIfInBounds_toArray, List.set_cons_zero, List.set_cons_succ, Nat.reduceAdd]
                          apply Facts.Lex.exact [] _ (by kernel_rfl)
                          · intro u W hC _
                            unfold Facts.one
                            go_simp
                            first | exact ⟨Grew.refl _, rfl⟩ | rfl
                          simp only [Act.put, List.setIfInBounds_toArray, List.set_cons_zero, List.set_cons_succ, Nat.reduceAdd]
                          apply Facts.Lex.exact [] _ (by kernel_rfl)
                          · intro u W hC _
                            unfold Facts.one
                            go_simp
                            first | exact ⟨Grew.refl _, rfl⟩ | rfl
                          simp only [Act.put, List.setIfInBounds_toArray, List.set_cons_zero, List.set_cons_succ, Nat.reduceAdd]
                          apply Facts.Lex.exact [] _ (by kernel_rfl)
                          · intro u W hC _
                            have ja6 := cellG hC a6
                            have ja9 := cellG hC a9
                            have ja7 := cellG hC a7
                            have jy6 := cellG hC y6
                            have jy9 := cellG hC y9
                            unfold Facts.one
                            go_simp
                            first | exact ⟨Grew.refl _, rfl⟩ | rfl
                          simp only [Act.put, List.setIfInBounds_toArray, List.set_cons_zero, List.set_cons_succ, Nat.reduceAdd]
                          apply Facts.Lex.exact [] _ (by kernel_rfl)
                          · intro u W hC _
                            unfold Facts.one
                            go_simp
                            first | exact ⟨Grew.refl _, rfl⟩ | rfl
                          simp only [Act.put, List.setIfInBounds_toArray, List.set_cons_zero, List.set_cons_succ, Nat.reduceAdd]
                          apply Facts.Lex.exact [] _ (by kernel_rfl)
                          · intro u W hC _
                            have ja6 := cellG hC a6
                            have ja9 := cellG hC a9
                            have ja7 := cellG hC a7
                            have jy6 := cellG hC y6
                            have jy9 := cellG hC y9
                            unfold Facts.one
                            go_simp
                            first | exact ⟨Grew.refl _, rfl⟩ | rfl
                          simp only [Act.put, List.setIfInBounds_toArray, List.set_cons_zero, List.set_cons_succ, Nat.reduceAdd]
                          apply Facts.Lex.exact [] _ (by kernel_rfl)
                          · intro u W hC _
                            unfold Facts.one
                            go_simp
                            first | exact ⟨Grew.refl _, rfl⟩ | rfl
                          simp only [Act.put, List.setIfInBounds_toArray, List.set_cons_zero, List.set_cons_succ, Nat.reduceAdd]
                          apply Facts.Lex.exact [] _ (by kernel_rfl)
                          · intro u W hC _
                            unfold Facts.one
                            go_simp
                            first | exact ⟨Grew.refl _, rfl⟩ | rfl
                          simp only [Act.put, List.setIfInBounds_toArray, List.set_cons_zero, List.set_cons_succ, Nat.reduceAdd]
                          apply Facts.Lex.exact [] _ (by kernel_rfl)
                          · intro u W hC _
                            unfold Facts.one
                            go_simp
                            first | exact ⟨Grew.refl _, rfl⟩ | rfl
                          simp only [Act.put, List.setIfInBounds_toArray, List.set_cons_zero, List.set_cons_succ, Nat.reduceAdd]
                          apply Facts.Lex.exact [] _ (by kernel_rfl)
                          · intro u W hC _
                            unfold Facts.one
                            go_simp
                            first | exact ⟨Grew.refl _, rfl⟩ | rfl
                          simp only [Act.put, List.setIfInBounds_toArray, List.set_cons_zero, List.set_cons_succ, Nat.reduceAdd]
                          apply Facts.Lex.exact [] _ (by kernel_rfl)
                          · intro u W hC _
                            have jo3 := cellG hC o3
                            unfold Facts.one
                            go_simp
                            first | exact ⟨Grew.refl _, rfl⟩ | rfl
                          simp only [Act.put, List.setIfInBounds_toArray, List.set_cons_zero, List.set_cons_succ, Nat.reduceAdd]
                          apply Facts.Lex.exact [] _ (by kernel_rfl)
                          · intro u W hC _
                            unfold Facts.one
                            go_simp
                            first | exact ⟨Grew.refl _, rfl⟩ | rfl
                          simp only [Act.put, List.setIfInBounds_toArray, List.set_cons_zero, List.set_cons_succ, Nat.reduceAdd]
                          apply Facts.Lex.exact [] _ (by kernel_rfl)
                          · intro u W hC _
                            unfold Facts.one
                            go_simp
                            first | exact ⟨Grew.refl _, rfl⟩ | rfl
                          simp only [Act.put, List.setIfInBounds_toArray, List.set_cons_zero, List.set_cons_succ, Nat.reduceAdd]
                          apply Facts.Lex.exact [] _ (by kernel_rfl)
                          · intro u W hC _
                            unfold Facts.one
                            go_simp
                            first | exact ⟨Grew.refl _, rfl⟩ | rfl
                          simp only [Act.put, List.setIfInBounds_toArray, List.set_cons_zero, List.set_cons_succ, Nat.reduceAdd]
                          apply Facts.Lex.exact [] _ (by kernel_rfl)
                          · intro u W hC _
                            have ja6 := cellG hC a6
                            have ja9 := cellG hC a9
                            have ja7 := cellG hC a7
                            have jy6 := cellG hC y6
                            have jy9 := cellG hC y9
                            unfold Facts.one
                            go_simp
                            first | exact ⟨Grew.refl _, rfl⟩ | rfl
                          simp only [Act.put, List.setIfInBounds_toArray, List.set_cons_zero, List.set_cons_succ, Nat.reduceAdd]
                          apply Facts.Lex.exact [] _ (by kernel_rfl)
                          · intro u W hC _
                            unfold Facts.one
                            go_simp
                            first | exact ⟨Grew.refl _, rfl⟩ | rfl
                          simp only [Act.put, List.setIfInBounds_toArray, List.set_cons_zero, List.set_cons_succ, Nat.reduceAdd]
                          apply Facts.Lex.exact [] _ (by kernel_rfl)
                          · intro u W hC _
                            have ja6 := cellG hC a6
                            have ja9 := cellG hC a9
                            have ja7 := cellG hC a7
                            have jy6 := cellG hC y6
                            have jy9 := cellG hC y9
                            unfold Facts.one
                            go_simp
                            first | exact ⟨Grew.refl _, rfl⟩ | rfl
                          simp only [Act.put, List.setIfInBounds_toArray, List.set_cons_zero, List.set_cons_succ, Nat.reduceAdd]
                          apply Facts.Lex.exact [] _ (by kernel_rfl)
                          · intro u W hC _
                            unfold Facts.one
                            go_simp
                            first | exact ⟨Grew.refl _, rfl⟩ | rfl
                          simp only [Act.put, List.setIfInBounds_toArray, List.set_cons_zero, List.set_cons_succ, Nat.reduceAdd]
                          apply Facts.Lex.exact [] _ (by kernel_rfl)
                          · intro u W hC _
                            unfold Facts.one
                            go_simp
                            first | exact ⟨Grew.refl _, rfl⟩ | rfl
                          simp only [Act.put, List.setIfInBounds_toArray, List.set_cons_zero, List.set_cons_succ, Nat.reduceAdd]
                          apply Facts.Lex.exact [] _ (by kernel_rfl)
                          · intro u W hC _
                            unfold Facts.one
                            go_simp
                            first | exact ⟨Grew.refl _, rfl⟩ | rfl
                          simp only [Act.put, List.setIfInBounds_toArray, List.set_cons_zero, List.set_cons_succ, Nat.reduceAdd]
                          apply Facts.Lex.exact [] _ (by kernel_rfl)
                          · intro u W hC _
                            unfold Facts.one
                            go_simp
                            first | exact ⟨Grew.refl _, rfl⟩ | rfl
                          simp only [Act.put, List.setIfInBounds_toArray, List.set_cons_zero, List.set_cons_succ, Nat.reduceAdd]
                          apply Facts.Lex.exact [] _ (by kernel_rfl)
                          · intro u W hC _
                            unfold Facts.one
                            go_simp
                            first | exact ⟨Grew.refl _, rfl⟩ | rfl
                          simp only [Act.put, List.setIfInBounds_toArray, List.set_cons_zero, List.set_cons_succ, Nat.reduceAdd]
                          apply Facts.Lex.exact [] _ (by kernel_rfl)
                          · intro u W hC _
                            have jo3 := cellG hC o3
                            unfold Facts.one
                            go_simp
                            first | exact ⟨Grew.refl _, rfl⟩ | rfl
                          simp only [Act.put, List.setIfInBounds_toArray, List.set_cons_zero, List.set_cons_succ, Nat.reduceAdd]
                          apply Facts.Lex.exact [] _ (by kernel_rfl)
                          · intro u W hC _
                            unfold Facts.one
                            go_simp
                            first | exact ⟨Grew.refl _, rfl⟩ | rfl
                          simp only [Act.put, List.setIfInBounds_toArray, List.set_cons_zero, List.set_cons_succ, Nat.reduceAdd]
                          apply Facts.Lex.exact [] _ (by kernel_rfl)
                          · intro u W hC _
                            unfold Facts.one
                            go_simp
                            first | exact ⟨Grew.refl _, rfl⟩ | rfl
                          simp only [Act.put, List.setIfInBounds_toArray, List.set_cons_zero, List.set_cons_succ, Nat.reduceAdd]
                          apply Facts.Lex.exact [] _ (by kernel_rfl)
                          · intro u W hC _
                            unfold Facts.one
                            go_simp
                            first | exact ⟨Grew.refl _, rfl⟩ | rfl
                          simp only [Act.put, List.setIfInBounds_toArray, List.set_cons_zero, List.set_cons_succ, Nat.reduceAdd]
                          apply Facts.Lex.exact [] _ (by kernel_rfl)
                          · intro u W hC _
                            have ja6 := cellG hC a6
                            have ja9 := cellG hC a9
                            have ja7 := cellG hC a7
                            have jy6 := cellG hC y6
                            have jy9 := cellG hC y9
                            unfold Facts.one
                            go_simp
                            first | exact ⟨Grew.refl _, rfl⟩ | rfl
                          simp only [Act.put, List.setIfInBounds_toArray, List.set_cons_zero, List.set_cons_succ, Nat.reduceAdd]
                          apply Facts.Lex.exact [] _ (by kernel_rfl)
                          · intro u W hC _
                            unfold Facts.one
                            go_simp
                            first | exact ⟨Grew.refl _, rfl⟩ | rfl
                          simp only [Act.put, List.setIfInBounds_toArray, List.set_cons_zero, List.set_cons_succ, Nat.reduceAdd]
                          apply Facts.Lex.exact [] _ (by kernel_rfl)
                          · intro u W hC _
                            have ja6 := cellG hC a6
                            have ja9 := cellG hC a9
                            have ja7 := cellG hC a7
                            have jy6 := cellG hC y6
                            have jy9 := cellG hC y9
                            unfold Facts.one
                            go_simp
                            first | exact ⟨Grew.refl _, rfl⟩ | rfl
                          simp only [Act.put, List.setIfInBounds_toArray, List.set_cons_zero, List.set_cons_succ, Nat.reduceAdd]
                          apply Facts.Lex.exact [] _ (by kernel_rfl)
                          · intro u W hC _
                            unfold Facts.one
                            go_simp
                            first | exact ⟨Grew.refl _, rfl⟩ | rfl
                          simp only [Act.put, List.setIfInBounds_toArray, List.set_cons_zero, List.set_cons_succ, Nat.reduceAdd]
                          apply Facts.Lex.exact [] _ (by kernel_rfl)
                          · intro u W hC _
                            unfold Facts.one
                            go_simp
                            first | exact ⟨Grew.refl _, rfl⟩ | rfl
                          simp only [Act.put, List.setIfInBounds_toArray, List.set_cons_zero, List.set_cons_succ, Nat.reduceAdd]
                          apply Facts.Lex.exact [] _ (by kernel_rfl)
                          · intro u W hC _
                            unfold Facts.one
                            go_simp
                            first | exact ⟨Grew.refl _, rfl⟩ | rfl
                          simp only [Act.put, List.setIfInBounds_toArray, List.set_cons_zero, List.set_cons_succ, Nat.reduceAdd]
                          apply Facts.Lex.exact [] _ (by kernel_rfl)
                          · intro u W hC _
                            unfold Facts.one
                            go_simp
                            first | exact ⟨Grew.refl _, rfl⟩ | rfl
                          simp only [Act.put, List.setIfInBounds_toArray, List.set_cons_zero, List.set_cons_succ, Nat.reduceAdd]
                          apply Facts.Lex.exact [] _ (by kernel_rfl)
                          · intro u W hC _
                            unfold Facts.one
                            go_simp
                            first | exact ⟨Grew.refl _, rfl⟩ | rfl
                          simp only [Act.put, List.setIfInBounds_toArray, List.set_cons_zero, List.set_cons_succ, Nat.reduceAdd]
                          apply Facts.Lex.exact [] _ (by kernel_rfl)
                          · intro u W hC _
                            unfold Facts.one
                            go_simp
                            first | exact ⟨Grew.refl _, rfl⟩ | rfl
                          simp only [Act.put, List.setIfInBounds_toArray, List.set_cons_zero, List.set_cons_succ, Nat.reduceAdd]
                          apply Facts.Lex.exact [] _ (by kernel_rfl)
                          · intro u W hC _
                            have d := SUB.out
                            unfold Facts.one
                            go_simp
                            first | exact ⟨Grew.refl _, rfl⟩ | rfl
                          simp only [Act.put, List.setIfInBounds_toArray, List.set_cons_zero, List.set_cons_succ, Nat.reduceAdd]
                          apply Facts.Lex.exact [] _ (by kernel_rfl)
                          · intro u W hC _
                            unfold Facts.one
                            go_simp
                            first | exact ⟨Grew.refl _, rfl⟩ | rfl
                          simp only [Act.put, List.setIfInBounds_toArray, List.set_cons_zero, List.set_cons_succ, Nat.reduceAdd]
                          apply Facts.Lex.exact [] _ (by kernel_rfl)
                          · intro u W hC _
                            unfold Facts.one
                            go_simp
                            first | exact ⟨Grew.refl _, rfl⟩ | rfl
                          simp only [Act.put, List.setIfInBounds_toArray, List.set_cons_zero, List.set_cons_succ, Nat.reduceAdd]
                          apply Facts.Lex.exact [] _ (by kernel_rfl)
                          · intro u W hC _
                            have jp1 := cellG hC p1
                            unfold Facts.one
                            go_simp
                            first | exact ⟨Grew.refl _, rfl⟩ | rfl
                          simp only [Act.put, List.setIfInBounds_toArray, List.set_cons_zero, List.set_cons_succ, Nat.reduceAdd]
                          apply Facts.Lex.exact [] _ (by kernel_rfl)
                          · intro u W hC _
                            unfold Facts.one
                            go_simp
                            first | exact ⟨Grew.refl _, rfl⟩ | rfl
                          simp only [Act.put, List.setIfInBounds_toArray, List.set_cons_zero, List.set_cons_succ, Nat.reduceAdd]
                          apply Facts.Lex.exact [] _ (by kernel_rfl)
                          · intro u W hC _
                            have ja6 := cellG hC a6
                            have ja9 := cellG hC a9
                            have ja7 := cellG hC a7
                            have jy6 := cellG hC y6
                            have jy9 := cellG hC y9
                            unfold Facts.one
                            go_simp
                            first | exact ⟨Grew.refl _, rfl⟩ | rfl
                          simp only [Act.put, List.setIfInBounds_toArray, List.set_cons_zero, List.set_cons_succ, Nat.reduceAdd]
                          apply Facts.Lex.exact [] _ (by kernel_rfl)
                          · intro u W hC _
                            unfold Facts.one
                            go_simp
                            first | exact ⟨Grew.refl _, rfl⟩ | rfl
                          simp only [Act.put, List.setIfInBounds_toArray, List.set_cons_zero, List.set_cons_succ, Nat.reduceAdd]
                          apply Facts.Lex.exact [] _ (by kernel_rfl)
                          · intro u W hC _
                            unfold Facts.one
                            go_simp
                            first | exact ⟨Grew.refl _, rfl⟩ | rfl
                          simp only [Act.put, List.setIfInBounds_toArray, List.set_cons_zero, List.set_cons_succ, Nat.reduceAdd]
                          refine Facts.Lex.done fun u W4 hC hL => ?_
                          have H5 := Lib.hid hC
                          clear hC hL
                          go_wp2
                          go_meet
                          case rel => exact ⟨rfl, H5⟩

                  case rest =>
                    obtain ⟨rfl, H5⟩ := hcut
                    have G5 := Lib.hid (G2.out.trans (G3.out.trans H5.out))
                    clear H5
                    go_wp2
                    go_roundg g
                    case measure => exact HMG.out
                    case rel => exact ⟨i + 1, HIG.out, by rw [GS.out], by first | rfl | (simp; done) | rw [HW1.out], G5⟩

    · have he1 : (err != 0) = true := by simp [he]
      obtain ⟨hn, hf⟩ := HE2.out he
      subst hn hf
      clear HR2 HW2 HS2 HE2
      obtain ⟨A1, k1, rfl, _⟩ := hO.slice
      obtain ⟨A2, k2, rfl, _⟩ := hF.slice
      clear hO hF
      go_wp2_with fail
      refine (HAL.out _).mono ?_
      rintro e w2 ⟨rfl, hg⟩
      have G2 := Lib.hid (G1.out.trans hg)
      clear hg
      go_wp2
      go_returns
      exact ⟨rfl, G2.out⟩
  · have hl1 : (100 : Int) < (l.length : Int) := by omega
    obtain ⟨A, c, rfl, _⟩ := h.slice
    obtain ⟨us, lb, wh, sd, bs, qt, pr, lf, rs, sq⟩ := o
    unfold orv
    simp only
    have G0 : Hid (Grew w (w.alloc (.cells #[.bool us, .int .i64 lb, .int .i64 wh, .int .i64 sd, .int .i64 bs, .int .i64 qt, .int .u64 (pr : Int), .int .u64 (lf : Int), .int .u64 (rs : Int), .int .i64 sq] 26))) := Lib.hid (by unfold Grew; go_grown)
    clear h hs ho hlen HL
    go_enter Try.func6, Try.ntmps6
    go_wp2_with fail
    refine (HAL.out _).mono ?_
    rintro e w1 ⟨rfl, hg⟩
    have G1 := Lib.hid (G0.out.trans hg)
    clear hg
    go_wp2
    go_returns
    exact ⟨rfl, G1.out⟩
end Go.Proofs.Ytmnfajplfnfgpaa.OR
