/-
  May the list be, by the document's reference.
  Conditions: those that each lemma names.
-/
import Derived.Test.YtmnfajplfnfgpaaOT
import Derived.Test.YtmnfajplfnfgpaaOB
import Derived.Lib.Hide
import Derived.Deep.LoopGhost
namespace Go.Proofs.Ytmnfajplfnfgpaa.OS
set_option maxRecDepth 100000
open Go Go.RowKit Go.Lib Go.Proofs.Ytmnfajplfnfgpaa Go.Proofs.Ytmnfajplfnfgpaa.Facts Go.Proofs.Ytmnfajplfnfgpaa.Ints Go.Proofs.Ytmnfajplfnfgpaa.PA Go.Proofs.Ytmnfajplfnfgpaa.UM Go.Proofs.Ytmnfajplfnfgpaa.UB Go.Proofs.Ytmnfajplfnfgpaa.OA Go.Proofs.Ytmnfajplfnfgpaa.BP Go.Proofs.Ytmnfajplfnfgpaa.OB Go.Proofs.Ytmnfajplfnfgpaa.OD Go.Proofs.Ytmnfajplfnfgpaa.OT Go.Proofs.Ytmnfajplfnfgpaa.Bytes


/-- Is the k-th order one that may be there, behind those ahead? -/
def stepR (l : List Or) (k : Nat) : Bool := okO (eo l k) && !((eo l k).used && (l.take k).any fun x => x.used && decide (x.seq = (eo l k).seq))
theorem right_step {l : List Or} {k : Nat} (hk : k < l.length) : rightO (l.take (k + 1)) = (rightO (l.take k) && stepR l k) := by
  have ha : apartP (l.take k ++ [eo l k]) = (apartP (l.take k) && !((eo l k).used && (l.take k).any fun x => x.used && decide (x.seq = (eo l k).seq))) := by
    generalize l.take k = a
    generalize eo l k = x
    unfold apartP seqs
    rw [List.filter_append]
    cases hu : x.used with
    | false => simp [hu]
    | true =>
      rw [Bool.eq_iff_iff]
      simp only [List.filter_cons, hu, if_true, List.filter_nil, List.map_append, List.map_cons, List.map_nil, decide_eq_true_iff, Bool.true_and, Bool.and_eq_true, Bool.not_eq_true', List.any_eq_false]
      rw [List.nodup_append]
      constructor
      · rintro ⟨h1, _, h3⟩
        refine ⟨h1, fun y hy hyy => ?_⟩
        exact h3 y.seq (List.mem_map.2 ⟨y, List.mem_filter.2 ⟨hy, hyy.1⟩, rfl⟩) x.seq (List.mem_singleton.2 rfl) hyy.2
      · rintro ⟨h1, h2⟩
        refine ⟨h1, by simp, fun s hs s' hs' e => ?_⟩
        obtain ⟨y, hy, rfl⟩ := List.mem_map.1 hs
        obtain ⟨hy1, hy2⟩ := List.mem_filter.1 hy
        rw [List.mem_singleton.1 hs'] at e
        exact h2 y hy1 (by simp [hy2, e])
  have e : l.take (k + 1) = l.take k ++ [eo l k] := by rw [List.take_add_one, eo_get hk]; rfl
  rw [e]
  unfold rightO
  rw [ha, List.all_append]
  unfold stepR
  have e1 : [eo l k].all okO = okO (eo l k) := by simp
  rw [e1]
  generalize (l.take k).all okO = p1
  generalize okO (eo l k) = p2
  generalize apartP (l.take k) = p3
  cases p1 <;> cases p2 <;> cases p3 <;> simp
theorem right_take {l : List Or} (h : rightO l = true) (m : Nat) : rightO (l.take m) = true := by
  unfold rightO at h ⊢
  rw [Bool.and_eq_true] at h ⊢
  refine ⟨List.all_eq_true.2 fun y hy => List.all_eq_true.1 h.1 y (List.mem_of_mem_take hy), ?_⟩
  have h2 := h.2
  unfold apartP at h2 ⊢
  rw [decide_eq_true_iff] at h2 ⊢
  unfold seqs at h2 ⊢
  exact List.Nodup.sublist (((List.take_sublist m l).filter _).map _) h2
theorem right_no {l : List Or} {k : Nat} (hk : k < l.length) (h : stepR l k = false) : rightO l = false := by
  cases hr : rightO l with
  | false => rfl
  | true =>
    have h1 := right_take hr (k + 1)
    rw [right_step hk, h, Bool.and_false] at h1
    cases h1
set_option maxHeartbeats 8000000 in
theorem rright_any (v : Value) (l : List Or) (w : World) (h : Ors w v l) (hl : l.length ≤ 1000) (hs : ∀ x ∈ l, WfO x) :
    Calls Try.prog 16 #[v] w fun e w' => e = .returned (.bool (rightO l)) ∧ Grew w w' := by
  have HR := Lib.hid h
  have HSS := Lib.hid hs
  have HLN := Lib.hid hl
  obtain ⟨A, ca, rfl, _⟩ := h.slice
  clear h hs hl
  go_enter Try.func16, Try.ntmps16
  go_wp2
  go_loopg [3] l.length (fun g s3 wx => ∃ k : Nat, k + g = l.length ∧ s3 = .int .i64 k ∧ Hid (rightO (l.take k) = true) ∧ Hid (Grew w wx))
  case atStart => exact ⟨0, by omega, rfl, Lib.hid rfl, Lib.hid (Grew.refl _)⟩
  case round =>
    obtain ⟨k, hkg, rfl, HI, HG⟩ := hrel
    cases gk with
    | zero =>
      have hkz : ¬ ((k : Int) < (l.length : Int)) := by omega
      have HE : Hid (rightO l = true) := Lib.hid (by have := HI.out; rwa [List.take_of_length_le (by omega)] at this)
      go_wp2
      go_returns
      refine ⟨?_, HG.out⟩
      rw [HE.out]
      rfl
    | succ g =>
      have hkz : (k : Int) < (l.length : Int) := by omega
      have hkl : k < l.length := by omega
      have HW1 := Lib.hid (PA.wr1b hkl (by have := HLN.out; omega))
      have HNO := Lib.hid (right_no hkl)
      have HYE := Lib.hid (right_step hkl)
      have hst : stepR l k = (okO (eo l k) && !((eo l k).used && (l.take k).any fun x => x.used && decide (x.seq = (eo l k).seq))) := rfl
      have hwx := HSS.out _ (List.mem_of_getElem? (eo_get hkl))
      have HMAY := Lib.hid (fun W => rmay_any (eo l k) hwx.1 W)
      have HHAS := Lib.hid (fun W (hg : Grew w W) => has_any (.slice A l.length ca) l k (eo l k).seq W (HR.out.grew hg) HLN.out (Nat.le_of_lt hkl))
      have hne := True.intro
      obtain ⟨ad, c9, e, _, d0, d1, d2, d3, d4, d5, d6, d7, d8, d9⟩ := Ors_at (HR.out.grew HG.out) (eo_get hkl)
      injection e with e1 e2 e3
      subst e1 e3
      clear e2 hkl hwx
      have hok : okO (eo l k) = if (eo l k).used then mayO (eo l k) else decide (eo l k = zor) := rfl
      obtain ⟨bz, hz⟩ : ∃ bz, decide (eo l k = zor) = bz := ⟨_, rfl⟩
      rw [hz] at hok
      generalize hm : mayO (eo l k) = bm at *
      generalize hh : ((l.take k).any fun x => x.used && decide (x.seq = (eo l k).seq)) = bh at *
      rw [hok] at hst
      clear hm hh hok hne
      generalize eo l k = x at *
      obtain ⟨us, lb, wh, sd, bs, qt, pr, lf, rs, sq⟩ := x
      unfold orv at HMAY
      simp only at HMAY HHAS hst d0 d1 d2 d3 d4 d5 d6 d7 d8 d9
      have HST := Lib.hid hst
      clear hst
      cases us with
      | false =>
        cases bz with
        | true =>
          have HI2 : Hid (rightO (l.take (k + 1)) = true) := Lib.hid (by rw [HYE.out, HI.out, HST.out]; rfl)
          have hx := of_decide_eq_true hz
          unfold zor at hx
          injection hx with _ x1 x2 x3 x4 x5 x6 x7 x8 x9
          subst x1 x2 x3 x4 x5 x6 x7 x8 x9
          clear HNO HYE HST HI hz
          go_wp2
          go_roundg g
          case measure => omega
          case rel => exact ⟨k + 1, by omega, by first | rfl | (simp; done) | rw [HW1.out], HI2, HG⟩
        | false =>
          have HE : Hid (rightO l = false) := Lib.hid (HNO.out (by rw [HST.out]; rfl))
          have HZ : Hid (¬ (lb = 0 ∧ wh = 0 ∧ sd = 0 ∧ bs = 0 ∧ qt = 0 ∧ pr = 0 ∧ lf = 0 ∧ rs = 0 ∧ sq = 0)) := Lib.hid (by
            rintro ⟨rfl, rfl, rfl, rfl, rfl, rfl, rfl, rfl, rfl⟩
            exact of_decide_eq_false hz rfl)
          clear HNO HYE HST HI hz
          go_wp2
          all_goals first
            | (go_returns
               refine ⟨?_, HG.out⟩
               rw [HE.out]
               rfl)
            | (exfalso
               have := HZ.out
               omega)
      | true =>
        clear hz
        cases bm with
        | false =>
          have HE : Hid (rightO l = false) := Lib.hid (HNO.out (by rw [HST.out]; rfl))
          clear HNO HYE HST HI
          go_wp2_with fail
          refine (HMAY.out _).mono ?_
          rintro e w1 ⟨rfl, hg⟩
          have G1 := Lib.hid (HG.out.trans hg)
          clear hg d0 d1 d2 d3 d4 d5 d6 d7 d8 d9
          go_wp2
          go_returns
          refine ⟨?_, G1.out⟩
          rw [HE.out]
          rfl
        | true =>
          go_wp2_with fail
          refine (HMAY.out _).mono ?_
          rintro e w1 ⟨rfl, hg⟩
          have G1 := Lib.hid (HG.out.trans hg)
          have j9 := cellB hg d9
          clear hg d0 d1 d2 d3 d4 d5 d6 d7 d8 d9
          go_wp2_with fail
          refine (HHAS.out _ G1.out).mono ?_
          rintro e w2 ⟨rfl, hg⟩
          have G2 := Lib.hid (G1.out.trans hg)
          clear hg j9
          cases bh with
          | true =>
            have HE : Hid (rightO l = false) := Lib.hid (HNO.out (by rw [HST.out]; rfl))
            clear HNO HYE HST HI
            go_wp2
            go_returns
            refine ⟨?_, G2.out⟩
            rw [HE.out]
            rfl
          | false =>
            have HI2 : Hid (rightO (l.take (k + 1)) = true) := Lib.hid (by rw [HYE.out, HI.out, HST.out]; rfl)
            clear HNO HYE HST HI
            go_wp2
            go_roundg g
            case measure => omega
            case rel => exact ⟨k + 1, by omega, by first | rfl | (simp; done) | rw [HW1.out], HI2, G2⟩
end Go.Proofs.Ytmnfajplfnfgpaa.OS
