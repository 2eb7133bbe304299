/-
  The slots of a list of orders; whether no two of them have one Seq; which lists may be.
  Conditions: those that each lemma names.
-/
import Derived.Test.YtmnfajplfnfgpaaOC
import Derived.Lib.Hide
import Derived.Maps.Own
import Derived.Maps.OwnSet
import Derived.WalkKit
namespace Go.Proofs.Ytmnfajplfnfgpaa.OD
set_option maxRecDepth 100000
open Go Go.RowKit Go.Lib Go.Proofs.Ytmnfajplfnfgpaa Go.Proofs.Ytmnfajplfnfgpaa.Facts Go.Proofs.Ytmnfajplfnfgpaa.Ints Go.Proofs.Ytmnfajplfnfgpaa.PA Go.Proofs.Ytmnfajplfnfgpaa.UM Go.Proofs.Ytmnfajplfnfgpaa.UB Go.Proofs.Ytmnfajplfnfgpaa.OA Go.Proofs.Ytmnfajplfnfgpaa.BP Go.Proofs.Ytmnfajplfnfgpaa.OB Go.Proofs.Ytmnfajplfnfgpaa.OC Go.Proofs.Ytmnfajplfnfgpaa.Bytes


theorem uptoG_at {α : Type} (z : α) (p : α → Bool) (l : List α) (k i : Nat) (hi : i < (uptoG z p l k).length) : ∃ j : Nat, (uptoG z p l k)[i] = j ∧ j < k ∧ p (l[j]?.getD z) = true := by
  have hm := List.getElem_mem hi
  unfold uptoG at hm
  obtain ⟨j, hj, he⟩ := List.mem_map.1 hm
  rw [List.mem_filter, List.mem_range] at hj
  exact ⟨j, he.symm, hj.1, hj.2⟩

def usl (l : List Or) : List Int := uptoG zor (fun x : Or => x.used) l l.length
theorem usl_len (l : List Or) : (usl l).length ≤ l.length := uptoG_len _ _ _ _
theorem upto_map {β : Type} (g : Or → β) (l : List Or) : ∀ k, k ≤ l.length → (uptoG zor (fun x : Or => x.used) l k).map (fun i => g (eo l i.toNat)) = ((l.take k).filter fun x => x.used).map g
  | 0, _ => rfl
  | k + 1, h => by
    have ih := upto_map g l k (by omega)
    have hx : l[k]? = some l[k] := List.getElem?_eq_getElem (by omega)
    have he : eo l k = l[k] := by unfold eo; rw [hx]; rfl
    rw [List.take_add_one, hx, List.filter_append, List.map_append, ← ih]
    cases hu : l[k].used with
    | false =>
      rw [uptoG_no _ _ _ _ (by rw [hx]; exact hu)]
      simp [hu]
    | true =>
      rw [uptoG_yes _ _ _ _ (by rw [hx]; exact hu), List.map_append]
      simp [hu, he]
theorem usl_map {β : Type} (g : Or → β) (l : List Or) : (usl l).map (fun i => g (eo l i.toNat)) = (l.filter fun x => x.used).map g := by
  unfold usl
  rw [upto_map g l _ (Nat.le_refl _), List.take_length]
theorem take_snoc' (S : List Int) (i : Nat) (hi : i < S.length) : S.take (i + 1) = S.take i ++ [S[i]] := by
  rw [List.take_add_one, List.getElem?_eq_getElem hi]
  rfl
theorem slots_any (v : Value) (l : List Or) (w : World) (h : Ors w v l) (hl : l.length ≤ 1000) :
    Calls Try.prog 19 #[v] w fun e w' => ∃ v' b, e = .returned v' ∧ w.heap.size ≤ b ∧ b ≤ w'.heap.size ∧ w'.ownsRow b 3 1 v' (usl l).length (iv (usl l)) ∧ Grew w w' := by
  have HR := Lib.hid (ord_row w v l h (by omega))
  have HS := Lib.hid (fun W b hr => ord_slots W b l hr (by omega))
  obtain ⟨A, c, rfl, _⟩ := h.slice
  clear h hl
  unfold usl
  go_enter Try.func19, Try.ntmps19
  go_wp2_with fail
  refine HR.out.mono ?_
  rintro e w1 ⟨b, rfl, hr, hg⟩
  have HS1 := Lib.hid (HS.out w1 b hr)
  have HG := Lib.hid hg
  clear hr hg
  go_wp2_with fail
  refine HS1.out.mono ?_
  rintro e w2 ⟨V, rfl, hown, hg⟩
  have HO := Lib.hid hown
  have HG2 := Lib.hid hg
  obtain ⟨A2, c2, rfl, _⟩ := Is.slice (Is.of_own hown rfl)
  clear hown hg
  go_wp2
  go_returns
  exact ⟨_, w1.heap.size, rfl, HG.out.size, HG2.out.size, HO.out, HG.out.trans HG2.out⟩

/-- A map as the list of its keys. -/
structure MapOf (D : DataW Unit) (L : List Int) : Prop where
  tidy : Maps.Tidy D
  le : Maps.size D ≤ L.length
  full : Maps.size D = L.length ↔ L.Nodup
  has : ∀ s : Int, Maps.has D (.int .i64 s) = decide (s ∈ L)
theorem MapOf.nil : MapOf (.map []) [] := ⟨Maps.tidy_empty, Nat.le_refl _, ⟨fun _ => List.nodup_nil, fun _ => rfl⟩, fun _ => rfl⟩
theorem nodup_snoc (L : List Int) (x : Int) : (L ++ [x]).Nodup ↔ L.Nodup ∧ x ∉ L := by
  rw [List.nodup_append]
  constructor
  · rintro ⟨h1, _, h3⟩
    exact ⟨h1, fun hx => h3 x hx x (List.mem_singleton.2 rfl) rfl⟩
  · rintro ⟨h1, h2⟩
    refine ⟨h1, by simp, fun a ha b hb e => ?_⟩
    rw [List.mem_singleton] at hb
    subst hb e
    exact h2 ha
theorem MapOf.step {D : DataW Unit} {L : List Int} (h : MapOf D L) (x : Int) (d : DataW Unit) : MapOf (D.put (.int .i64 x) d) (L ++ [x]) := by
  have hz := Maps.size_put (k := .int .i64 x) h.tidy d
  have hx := h.has x
  have hk : WideAt.IsKeyLit (.int .i64 x) := by trivial
  refine ⟨h.tidy.put hk d, ?_, ?_, fun s => ?_⟩
  · rw [hz, List.length_append]
    have := h.le
    split
    · simp; omega
    · simp; omega
  · rw [hz, nodup_snoc, List.length_append]
    have h1 := h.le
    have h2 := h.full
    by_cases hm : x ∈ L
    · rw [hx, decide_eq_true hm]
      simp only [if_true, List.length_singleton]
      constructor
      · intro h3; omega
      · intro h3; exact absurd hm h3.2
    · rw [hx, decide_eq_false hm]
      simp only [Bool.false_eq_true, if_false, List.length_singleton]
      constructor
      · intro h3; exact ⟨h2.1 (by omega), hm⟩
      · intro h3; have := h2.2 h3.1; omega
  · by_cases e : s = x
    · subst e
      rw [Maps.has_put_same h.tidy.isMap hk]
      simp
    · rw [Maps.has_put_other (by intro e2; injection e2 with _ e3; exact e e3), h.has s]
      simp [e]
def WfO (x : Or) : Prop := SzO x ∧ (Lit.int .i64 x.seq).wf = true
theorem law3 : Maps.Keyed Try.prog 3 := Maps.int_keyed Try.underlying3
theorem wf_nat {j : Nat} (h : j ≤ 1000) : (Lit.int .i64 (j : Int)).wf = true := WalkArith.wf_i64 (by omega)
theorem mem_set_at {l : List Or} (h : ∀ x ∈ l, WfO x) (j : Nat) : (Lit.int .i64 (eo l j).seq).wf = true := by
  unfold eo
  cases hx : l[j]? with
  | none => decide
  | some x => exact (h x (List.mem_of_getElem? hx)).2
set_option maxHeartbeats 2000000 in
theorem apart_any (v : Value) (l : List Or) (w : World) (h : Ors w v l) (hl : l.length ≤ 1000) (hs : ∀ x ∈ l, WfO x) :
    Calls Try.prog 41 #[v] w fun e w' => e = .returned (.bool (apartP l)) ∧ Grew w w' := by
  have HL := Lib.hid h
  have HSL := Lib.hid (slots_any v l w h hl)
  have HAT := Lib.hid (fun i hi => uptoG_at zor (fun x : Or => x.used) l l.length i hi)
  have hul := usl_len l
  have e : apartP l = decide (((usl l).map fun i => (eo l i.toNat).seq).Nodup) := by unfold apartP seqs; rw [usl_map]
  rw [e]
  unfold usl at *
  generalize uptoG zor (fun x : Or => x.used) l l.length = S at *
  have HSB : Hid (S.length ≤ 1000) := Lib.hid (by omega)
  have HSU : Hid (∀ i (hi : i < S.length), ∃ j : Nat, S[i] = j ∧ j < l.length) := Lib.hid fun i hi => by
    obtain ⟨j, h1, h2, _⟩ := HAT.out i hi
    exact ⟨j, h1, h2⟩
  have HLB : Hid (l.length ≤ 1000) := Lib.hid hl
  have HWF := Lib.hid (mem_set_at hs)
  obtain ⟨A, cp, rfl, _⟩ := h.slice
  clear h hl hs hul HAT e
  obtain ⟨RES, hRES⟩ : ∃ RES, decide ((S.map fun i => (eo l i.toNat).seq).Nodup) = RES := ⟨_, rfl⟩
  rw [hRES]
  have HRES := Lib.hid hRES
  clear hRES
  have hmm := @run_makeMap Try.prog
  go_enter Try.func41, Try.ntmps41
  go_wp2_with fail
  refine HSL.out.mono ?_
  rintro e w1 ⟨vS, b, rfl, hb1, hb2, hown, hg⟩
  have G1 := Lib.hid hg
  have hIs := Is.of_own hown rfl
  have HIS := Lib.hid hIs
  obtain ⟨AS, cS, rfl, _⟩ := Is.slice hIs
  clear hown hg hIs HSL hb1 hb2
  go_wp2
  go_loopg [12] S.length (fun g s12 wx => ∃ (i : Nat) (D : DataW Unit), i + g = S.length ∧ s12 = .int .i64 i ∧ Hid (wx.ownsMap Try.prog 3 (plainElem Try.prog 3) w1.heap.size i D) ∧ Hid (MapOf D ((S.take i).map fun i => (eo l i.toNat).seq)) ∧ Hid (Grew w1 wx))
  case atStart => exact ⟨0, .map [], by omega, rfl, Lib.hid (World.ownsMap_made _ _ _ _), Lib.hid MapOf.nil, Lib.hid (by unfold Grew; exact (Below.refl _ _).alloc (Nat.le_refl _) _)⟩
  case round =>
    obtain ⟨i, D, hig, rfl, HO, HM, HG⟩ := hrel
    cases gk with
    | zero =>
      have hiz : ¬ ((i : Int) < (S.length : Int)) := by omega
      have HF : Hid ((Maps.size D : Int) = (S.length : Int) ↔ RES = true) := Lib.hid (by
        have h1 := HM.out.full
        rw [show i = S.length by omega, List.take_length, List.length_map] at h1
        rw [← HRES.out]
        simp only [decide_eq_true_eq]
        rw [← h1]
        omega)
      have GF := Lib.hid (G1.out.trans HG.out)
      clear HM hig HRES
      have hown := HO.out
      cases RES with
      | true =>
        have hq : (((Maps.size D : Nat) : Int) == (S.length : Int)) = true := by simpa using HF.out.2 rfl
        have hq2 : Maps.size D = S.length := by have := HF.out.2 rfl; omega
        clear HF
        go_wp2_with (first | (at_len; refine wpList_len_own _ rfl _ 78 rfl 3 3 Try.underlying78 _ w1.heap.size i D rfl hown ?_) | go_in)
        go_returns
        exact ⟨by simp, GF.out⟩
      | false =>
        have hq : (((Maps.size D : Nat) : Int) == (S.length : Int)) = false := by
          rw [beq_eq_false_iff_ne]
          intro h
          have := HF.out.1 h
          cases this
        have hq2 : ¬ Maps.size D = S.length := by
          intro h
          have := HF.out.1 (by omega)
          cases this
        clear HF
        go_wp2_with (first | (at_len; refine wpList_len_own _ rfl _ 78 rfl 3 3 Try.underlying78 _ w1.heap.size i D rfl hown ?_) | go_in)
        go_returns
        exact ⟨by simp, GF.out⟩
    | succ g =>
      have hil : i < S.length := by omega
      have hiz : (i : Int) < (S.length : Int) := by omega
      have HIM : Hid (i + 1 + g = S.length) := Lib.hid (by omega)
      have HIW := Lib.hid (wr1 hil HSB.out)
      obtain ⟨j, hSj, hj⟩ := HSU.out i hil
      have hts := take_snoc' S i hil
      rw [hSj] at hts
      have HXS : Hid (S[i]? = some (j : Int)) := Lib.hid (by rw [List.getElem?_eq_getElem hil, hSj])
      have HM2 : Hid (∀ d, MapOf (D.put (.int .i64 (eo l j).seq) d) ((S.take (i + 1)).map fun i => (eo l i.toNat).seq)) := Lib.hid fun d => by
        rw [hts, List.map_append]
        exact HM.out.step _ d
      have HXL := Lib.hid (eo_get hj)
      have HJW := Lib.hid (wf_nat (show j ≤ 1000 by have := HLB.out; omega))
      have HSW := Lib.hid (HWF.out j)
      have hj0 : ¬ (j : Int) < 0 := by omega
      have hj2 : (j : Int) < (l.length : Int) := by omega
      have HIB : Hid (i < maxLen) := Lib.hid (by have := HSB.out; unfold maxLen; omega)
      generalize eo l j = x at *
      obtain ⟨adS, c9, e9, _, a0⟩ := Is_at (HIS.out.grew HG.out) HXS.out
      injection e9 with e1 e2 e3
      subst e1 e3
      clear e2
      obtain ⟨ad, c8, e8, _, d0, d1, d2, d3, d4, d5, d6, d7, d8, d9⟩ := Ors_at (HL.out.grew (G1.out.trans HG.out)) HXL.out
      injection e8 with e1 e2 e3
      subst e1 e3
      clear e2 hts hSj hj hil hig HSU HXL HXS HM
      have hown := HO.out
      go_wp2_with (first
        | (at_mapUpdate; refine wpList_mapUpdate_own _ rfl _ _ _ 78 rfl 3 3 law3 Try.underlying78 _ w1.heap.size i _ rfl hown HIB.out _ _ _ rfl rfl (Maps.keyOf_int_mk Try.underlying3 HSW.out) _ [] (plainElem_int Try.underlying3 HJW.out) ?_; intro w4 hown1 hgrow1)
        | go_in)
      have HO2 := Lib.hid hown1
      have HG2 : Hid (Grew w1 w4) := Lib.hid ((show Below w1.heap.size w1 wr from HG.out).grown hgrow1 HG.out.size (fun j hj => by cases hj; exact Nat.le_refl _))
      clear hown hown1 hgrow1
      go_roundg g
      case measure => omega
      case rel => exact ⟨i + 1, _, HIM.out, by first | rfl | (simp; done) | rw [HIW.out], HO2, Lib.hid (HM2.out _), HG2⟩

theorem right_any (v : Value) (l : List Or) (w : World) (h : Ors w v l) (hl : l.length ≤ 1000) (hs : ∀ x ∈ l, WfO x) :
    Calls Try.prog 15 #[v] w fun e w' => e = .returned (.bool (rightO l)) ∧ Grew w w' := by
  have HC := Lib.hid (contO v l (fun x => !okO x) w h fun x hx W _ => notO_any x (hs x hx).1 W)
  have HA := Lib.hid (fun W (hg : Grew w W) => apart_any v l W (h.grew hg) hl hs)
  have e : rightO l = (!(l.any fun x => !okO x) && apartP l) := by unfold rightO; rw [any_not l okO]
  rw [e]
  clear e
  generalize (l.any fun x => !okO x) = p at *
  generalize apartP l = q at *
  obtain ⟨A, cp, rfl, _⟩ := h.slice
  clear h hs hl
  cases p with
  | true =>
    go_enter Try.func15, Try.ntmps15
    go_wp2_with fail
    refine HC.out.mono ?_
    rintro e w1 ⟨rfl, hg⟩
    have G1 := Lib.hid hg
    clear hg
    go_wp2
    go_returns
    exact ⟨by simp, G1.out⟩
  | false =>
    go_enter Try.func15, Try.ntmps15
    go_wp2_with fail
    refine HC.out.mono ?_
    rintro e w1 ⟨rfl, hg⟩
    have G1 := Lib.hid hg
    clear hg
    go_wp2_with fail
    refine (HA.out _ G1.out).mono ?_
    rintro e w2 ⟨rfl, hg⟩
    have G2 := Lib.hid (G1.out.trans hg)
    clear hg
    go_wp2
    go_returns
    exact ⟨by simp, G2.out⟩
end Go.Proofs.Ytmnfajplfnfgpaa.OD
