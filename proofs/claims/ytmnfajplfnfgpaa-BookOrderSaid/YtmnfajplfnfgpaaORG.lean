/-
  What comes of posting, told at once.
  Conditions: those that each lemma names.
-/
import Derived.Test.YtmnfajplfnfgpaaORE
namespace Go.Proofs.Ytmnfajplfnfgpaa.ORG
set_option maxRecDepth 100000
open Go Go.RowKit Go.Lib Go.Proofs.Ytmnfajplfnfgpaa Go.Proofs.Ytmnfajplfnfgpaa.Facts Go.Proofs.Ytmnfajplfnfgpaa.Ints Go.Proofs.Ytmnfajplfnfgpaa.PA Go.Proofs.Ytmnfajplfnfgpaa.UM Go.Proofs.Ytmnfajplfnfgpaa.UB Go.Proofs.Ytmnfajplfnfgpaa.OA Go.Proofs.Ytmnfajplfnfgpaa.BP Go.Proofs.Ytmnfajplfnfgpaa.BQ Go.Proofs.Ytmnfajplfnfgpaa.ORA Go.Proofs.Ytmnfajplfnfgpaa.ORC Go.Proofs.Ytmnfajplfnfgpaa.ORD Go.Proofs.Ytmnfajplfnfgpaa.OY Go.Proofs.Ytmnfajplfnfgpaa.OPA Go.Proofs.Ytmnfajplfnfgpaa.ORE


structure Res (l : List Or) (o : Or) (P : Po) : Prop where
  rt : rightO P.now = true
  len : P.now.length = l.length
  cr : crossB l = false → crossB P.now = false
  fl : ∀ (i : Nat) (x : Fi), P.fills[i]? = some x → ∃ k : Nat, x.slot = (k : Int) ∧ k < l.length ∧ rmeets o (eo l k) = true ∧ x.price = (eo l k).price ∧ x.qty ≠ 0 ∧ x.qty ≤ (eo l k).left
  nx : ∀ (i : Nat) (x y : Fi), P.fills[i]? = some x → P.fills[i + 1]? = some y → ∃ a b : Nat, x.slot = (a : Int) ∧ y.slot = (b : Int) ∧ a < l.length ∧ b < l.length ∧ betB o (eo l a) (eo l b) = true ∧ x.qty = (eo l a).left
  fn : P.fills.length ≤ l.length
  sm : (P.fills.map (·.qty)).sum ≤ o.left
  en : (P.at_ = -1 ∧ (P.fills.map (·.qty)).sum = o.left) ∨ ∃ k : Nat, P.at_ = (k : Int) ∧ k < P.now.length ∧ (eo P.now k).used = true ∧ (eo P.now k).seq = o.seq ∧ (eo P.now k).left = o.left - (P.fills.map (·.qty)).sum
theorem Fx.fl {l : List Or} {o : Or} {S pre rest : List Nat} {now : List Or} {o' : Or} {fs : List Fi} (hr : rightO l = true) (hm : MayF o) (hS : Srt l o S) (h : Fx l o S pre rest now o' fs) (i : Nat) (x : Fi) (hx : fs[i]? = some x) : ∃ k : Nat, x.slot = (k : Int) ∧ k < l.length ∧ rmeets o (eo l k) = true ∧ x.price = (eo l k).price ∧ x.qty ≠ 0 ∧ x.qty ≤ (eo l k).left := by
  obtain ⟨k, k1, k2, k3, k4, k5, _⟩ := h.at_ i x hx
  have hk : k ∈ S := by rw [h.piv.all]; exact List.mem_append_left _ (List.mem_of_getElem? k1)
  obtain ⟨h1, h2, h3⟩ := (hS.mem k).1 hk
  refine ⟨k, k2, h1, ?_, k3, k4, k5⟩
  rw [rmeets_is hm.sd (right_at hr k h2).sd, h2, h3]
  rfl
theorem Fx.nx {l : List Or} {o : Or} {S pre rest : List Nat} {now : List Or} {o' : Or} {fs : List Fi} (hS : Srt l o S) (h : Fx l o S pre rest now o' fs) (i : Nat) (x y : Fi) (hx : fs[i]? = some x) (hy : fs[i + 1]? = some y) : ∃ a b : Nat, x.slot = (a : Int) ∧ y.slot = (b : Int) ∧ a < l.length ∧ b < l.length ∧ betB o (eo l a) (eo l b) = true ∧ x.qty = (eo l a).left := by
  obtain ⟨a, a1, a2, _, _, _, a6⟩ := h.at_ i x hx
  obtain ⟨b, b1, b2, _⟩ := h.at_ (i + 1) y hy
  have ha : a ∈ S := by rw [h.piv.all]; exact List.mem_append_left _ (List.mem_of_getElem? a1)
  have hb : b ∈ S := by rw [h.piv.all]; exact List.mem_append_left _ (List.mem_of_getElem? b1)
  have hso := hS.sort
  rw [h.piv.all] at hso
  have hp := (List.pairwise_append.1 hso).1
  have hlt := (List.getElem?_eq_some_iff.1 hy).1
  refine ⟨a, b, a2, b2, ((hS.mem a).1 ha).1, ((hS.mem b).1 hb).1, ?_, a6 (.inl hlt)⟩
  obtain ⟨i1, j1⟩ := List.getElem?_eq_some_iff.1 a1
  obtain ⟨i2, j2⟩ := List.getElem?_eq_some_iff.1 b1
  have := List.pairwise_iff_getElem.1 hp i (i + 1) i1 i2 (Nat.lt_succ_self _)
  rw [j1, j2] at this
  exact this
theorem _root_.Go.Proofs.Ytmnfajplfnfgpaa.ORE.Fx.many {l : List Or} {o : Or} {S pre rest : List Nat} {now : List Or} {o' : Or} {fs : List Fi} (h : Fx l o S pre rest now o' fs) (hS : Srt l o S) : fs.length ≤ l.length := by
  have h1 := h.piv.fl
  have h2 : S.length = (metL l o).length := hS.perm.length_eq
  have h3 : (metL l o).length ≤ l.length := Nat.le_trans (List.length_filter_le _ _) (by rw [List.length_range]; exact Nat.le_refl _)
  have h4 : S.length = pre.length + rest.length := by rw [h.piv.all, List.length_append]
  omega
theorem res_of {l : List Or} {o : Or} {S : List Nat} (hS : Srt l o S) (he : (postP l o S).err = 0) : Res l o (postP l o S) := by
  obtain ⟨⟨hr, hmm, ht⟩, hfr, hp⟩ := post_fine he
  have hm := (may_iff o).1 hmm
  obtain ⟨pre, rest, now, o2, fs, hx, hf, hend⟩ := fill_all hr hS hm S [] l o [] (Fx.start hr hm ht)
  have hfree := fill_free hS hfr []
  rw [hp]
  rw [hf] at hfree ⊢
  unfold restP
  simp only at hfree ⊢
  by_cases h0 : o2.left = 0
  · rw [if_pos h0]
    refine ⟨hx.rt, hx.piv.len, hx.cross, Fx.fl hr hm hS hx, Fx.nx hS hx, hx.many hS, ?_, .inl ⟨rfl, ?_⟩⟩
    · have := hx.sum
      show (fs.map (·.qty)).sum ≤ o.left
      omega
    · have := hx.sum
      show (fs.map (·.qty)).sum = o.left
      omega
  · rw [if_neg h0]
    have hre : rest = [] := by rcases hend with h | h; exact absurd h h0; exact h
    subst hre
    obtain ⟨k, hk⟩ : ∃ k : Nat, ordfree now = k := by
      rcases ord_freec now with h | ⟨k, h, _⟩
      · exact absurd h hfree
      · exact ⟨k, h⟩
    obtain ⟨hkl, hu⟩ := free_at hk
    obtain ⟨n1, _, n3⟩ := FO.need hx.piv.fo h0
    have hsm := hx.piv.sm
    have hfo := hx.piv.fo
    rw [hk, Int.toNat_natCast]
    have hy : MayF { o2 with used := true, res := (needP o2.side o2.left o2.price).1 } := by
      refine ⟨hfo.sd, h0, hfo.p0, hfo.tp, n3, ?_, ?_, ?_, ?_, ?_, ?_⟩
      · show num o2.label = true; rw [hsm.label]; exact hm.lb
      · show num o2.who = true; rw [hsm.who]; exact hm.wh
      · show coinB o2.base = true; rw [hsm.base]; exact hm.bs
      · show coinB o2.quote = true; rw [hsm.quote]; exact hm.qt
      · show o2.base ≠ o2.quote; rw [hsm.base, hsm.quote]; exact hm.ne
      · show 0 ≤ o2.seq; rw [hsm.seq]; exact hm.sq
    obtain ⟨y, hyy⟩ : ∃ y : Or, ({ o2 with used := true, res := (needP o2.side o2.left o2.price).1 } : Or) = y := ⟨_, rfl⟩
    have y1 : y.used = true := by rw [← hyy]
    have y2 : y.seq = o.seq := by rw [← hyy]; exact hsm.seq
    have y3 : y.left = o2.left := by rw [← hyy]
    have y4 : Lk o y := by rw [← hyy]; exact ⟨hsm.side, hsm.base, hsm.quote, hsm.price⟩
    rw [hyy] at hy ⊢
    have hns := hx.sum
    have hey : eo (now.set k y) k = y := eo_set_same hkl
    refine ⟨right_set hkl hx.rt hu (may_ok hy y1) (fun _ => ?_), ?_, fun hc => ?_, Fx.fl hr hm hS hx, Fx.nx hS hx, hx.many hS, ?_, .inr ⟨k, rfl, ?_, ?_, ?_, ?_⟩⟩
    · have := hx.tk
      unfold takenB at this ⊢
      rw [y2]
      exact this
    · rw [List.length_set]; exact hx.piv.len
    · have hcn := cross_no.1 (hx.cross hc)
      have hno := fun i hi => hx.none hr hS h0 hm i hi
      refine cross_no.2 fun i j hi hj hiu => ?_
      rw [List.length_set] at hi hj
      by_cases ei : i = k
      · subst ei
        rw [hey]
        by_cases ej : j = i
        · subst ej
          rw [hey]
          exact rm_self y
        · rw [eo_set ej, rm_same y4]
          exact hno j (by rw [← hx.piv.len]; exact hj)
      · rw [eo_set ei] at hiu ⊢
        by_cases ej : j = k
        · subst ej
          rw [hey, rm_swap y1 hiu, rm_same y4]
          exact hno i (by rw [← hx.piv.len]; exact hi)
        · rw [eo_set ej]
          exact hcn i j hi hj hiu
    · show (fs.map (·.qty)).sum ≤ o.left
      omega
    · show k < (now.set k y).length
      rw [List.length_set]; exact hkl
    · show (eo (now.set k y) k).used = true
      rw [hey]; exact y1
    · show (eo (now.set k y) k).seq = o.seq
      rw [hey]; exact y2
    · show (eo (now.set k y) k).left = o.left - (fs.map (·.qty)).sum
      rw [hey, y3]
      omega
theorem err_of {l : List Or} {o : Or} {S : List Nat} (he : (postP l o S).err ≠ 0) : (postP l o S).now = [] ∧ (postP l o S).fills = [] := by
  by_cases h : rightO l = true ∧ mayO o = true ∧ takenB l o = false
  · by_cases hf : ordfree l = -1
    · have e : postP l o S = ⟨[], [], 0, 0, 8⟩ := by unfold postP; rw [if_pos h, if_pos hf]
      rw [e]; exact ⟨rfl, rfl⟩
    · have e : postP l o S = restP (fillP l S l o []) := by unfold postP; rw [if_pos h, if_neg hf]
      exact absurd (by rw [e]; unfold restP; split <;> rfl) he
  · have e : postP l o S = ⟨[], [], 0, 0, 1⟩ := if_neg h
    rw [e]; exact ⟨rfl, rfl⟩
end Go.Proofs.Ytmnfajplfnfgpaa.ORG
