/-
  For any list of texts and any text: the place of the one among the others, and whether no two are the same, is told as the document tells it: NameLists answers true.
  Conditions: none beyond those that each lemma names.
-/
import Derived.Test.YtlcbhiokpjnoeaaDoorAlive
import Derived.Test.YtlcbhiokpjnoeaaDoorListsPure
namespace Go.Proofs.YtlcbhiokpjnoeaaDoor.ListsLaw
open Go Go.RowKit Go.Shelf Go.Sort Go.Proofs.YtlcbhiokpjnoeaaDoor Go.Proofs.YtlcbhiokpjnoeaaDoor.Facts Go.Proofs.YtlcbhiokpjnoeaaDoor.Chars Go.Proofs.YtlcbhiokpjnoeaaDoor.Apart Go.Proofs.YtlcbhiokpjnoeaaDoor.Alive

theorem firsts (zs : List ByteArray) : (∀ j, j < zs.length → Lib.idxOfS zs (zs.getD j ByteArray.empty) = j) ↔ zs.Nodup := by
  rw [List.nodup_iff_pairwise_ne, List.pairwise_iff_getElem]
  constructor
  · intro h i j hi hj hij e
    have h1 := h i hi
    have h2 := h j hj
    rw [List.getD_eq_getElem?_getD, List.getElem?_eq_getElem hi, Option.getD_some] at h1
    rw [List.getD_eq_getElem?_getD, List.getElem?_eq_getElem hj, Option.getD_some, ← e, h1] at h2
    omega
  · intro h j hj
    have := Lib.idxOfS_hit zs zs.length j (zs.getD j ByteArray.empty) hj (Nat.le_refl _) rfl fun i hi e => by
      rw [List.getD_eq_getElem?_getD, List.getElem?_eq_getElem (by omega), List.getD_eq_getElem?_getD, List.getElem?_eq_getElem hj] at e
      exact h i j (by omega) hj hi e
    rwa [List.take_length] at this
theorem lists_nodup (zs : List ByteArray) : (lists zs).Nodup ↔ zs.Nodup := by
  rw [List.nodup_iff_pairwise_ne, List.nodup_iff_pairwise_ne]
  unfold lists
  rw [List.pairwise_map]
  constructor
  · exact fun h => h.imp fun hn e => hn (by rw [e])
  · exact fun h => h.imp fun hn e => hn (ByteArray.ext (Array.toList_inj.mp e))
theorem apart_iff (zs : List ByteArray) : apart (lists zs) = true ↔ zs.Nodup := by
  unfold apart sorted
  rw [decide_eq_true_iff, ListsPure.apart_iff, lists_nodup]
theorem apart_nil : apart (lists []) = true := (apart_iff []).2 List.nodup_nil
theorem firsts_yes (zs : List ByteArray) (h : ∀ j, j < zs.length → Lib.idxOfS zs (zs.getD j ByteArray.empty) = j) : apart (lists zs) = true :=
  (apart_iff zs).2 ((firsts zs).1 h)
theorem firsts_no (zs : List ByteArray) (j : Nat) (hj : j < zs.length) (h : Lib.idxOfS zs (zs.getD j ByteArray.empty) ≠ j) : apart (lists zs) = false := by
  rw [← Bool.not_eq_true]
  exact fun ha => h ((firsts zs).2 ((apart_iff zs).1 ha) j hj)

/-- The slice v reads as the texts zs. -/
def Ts (w : World) (v : Value) (zs : List ByteArray) : Prop :=
  ∃ (A : Option Addr) (c : Nat), v = .slice A zs.length c ∧ (A = none → zs = []) ∧ ∀ ad, A = some ad → ∀ j, j < zs.length → w.cell? (ad.add j) = some (.string (zs.getD j ByteArray.empty))
theorem Ts.grew {w w' : World} {v : Value} {zs : List ByteArray} (h : Ts w v zs) (hg : Grew w w') : Ts w' v zs := by
  obtain ⟨A, c, rfl, hA, hc⟩ := h
  exact ⟨A, c, rfl, hA, fun ad ha j hj => cellG hg (hc ad ha j hj)⟩

theorem index_all (w : World) (v : Value) (zs : List ByteArray) (x : ByteArray) (hl : zs.length ≤ 100) (h : Ts w v zs) :
    Calls Tryd.prog 13 #[v, .string x] w fun e w' => e = .returned (.int .i64 (Lib.idxOfS zs x)) ∧ w' = w := by
  obtain ⟨A, c, rfl, hA, hc⟩ := h
  by_cases h0 : zs.length = 0
  · have hz := List.eq_nil_of_length_eq_zero h0
    subst hz
    clear hc hA h0 hl
    have H := Lib.hid (Tryd.slices_Index_string_empty A c x w)
    simp only [List.length_nil]
    go_enter Tryd.func13, Tryd.ntmps13
    go_wp2_with fail
    refine H.out.mono ?_
    rintro e w1 ⟨rfl, hw⟩
    subst hw
    go_wp2
    go_returns
    exact ⟨rfl, rfl⟩
  · cases A with
    | none => rw [hA rfl] at h0; exact absurd rfl h0
    | some ad =>
      obtain ⟨b, off, spot⟩ := ad
      have hspot : spot = none := by simpa [Addr.add] using World.cell?_spot (hc _ rfl 0 (by omega))
      subst hspot
      exact index_any w b off zs.length c zs x rfl (by omega) (fun j hj => by have := hc _ rfl j hj; rwa [WideShapes.add_plain] at this)

set_option maxRecDepth 100000 in
theorem rindex_all (w : World) (v : Value) (zs : List ByteArray) (x : ByteArray) (hl : zs.length ≤ 100) (h : Ts w v zs) :
    Calls Tryd.prog 14 #[v, .string x] w fun e w' => e = .returned (.int .i64 (Lib.idxOfS zs x)) ∧ w' = w := by
  obtain ⟨A, c, rfl, hA, hc⟩ := h
  have HC := Lib.hid hc
  have HA := Lib.hid hA
  have HH : Hid (∀ k, k < zs.length → zs.getD k ByteArray.empty = x → (∀ j, j < k → zs.getD j ByteArray.empty ≠ x) → Lib.idxOfS zs x = k) := Lib.hid fun k hk a b => by
    have := Lib.idxOfS_hit zs zs.length k x hk (Nat.le_refl _) a b
    rwa [List.take_length] at this
  have HM : Hid ((∀ j, j < zs.length → zs.getD j ByteArray.empty ≠ x) → Lib.idxOfS zs x = -1) := Lib.hid fun a => by
    have := Lib.idxOfS_miss zs zs.length x a
    rwa [List.take_length] at this
  clear hc hA
  generalize Lib.idxOfS zs x = r at *
  go_enter Tryd.func14, Tryd.ntmps14
  go_wp2
  go_loopg [5] zs.length (fun g s wx => ∃ k : Nat, k + g = zs.length ∧ s = .int .i64 k ∧ Hid (∀ j, j < k → zs.getD j ByteArray.empty ≠ x) ∧ wx = w)
  case atStart => exact ⟨0, by omega, rfl, Lib.hid (fun j hj => absurd hj (by omega)), rfl⟩
  case round =>
    obtain ⟨k, hkg, rfl, HI, rfl⟩ := hrel
    cases gk with
    | zero =>
      have hkz : ¬ ((k : Int) < (zs.length : Int)) := by omega
      have HR := Lib.hid (HM.out fun j hj => HI.out j (by omega))
      go_wp2
      go_returns
      refine ⟨?_, rfl⟩
      rw [HR.out]
      rfl
    | succ g =>
      have hkz : (k : Int) < (zs.length : Int) := by omega
      cases A with
      | none => have := HA.out rfl; rw [this] at hkg; simp at hkg
      | some ad =>
        have hcell := HC.out ad rfl k (by omega)
        by_cases he : zs.getD k ByteArray.empty = x
        · have HR := Lib.hid (HH.out k (by omega) he HI.out)
          rw [he] at hcell
          clear he
          have hb : (x.toList == x.toList) = true := by simp
          go_wp2
          go_returns
          refine ⟨?_, rfl⟩
          rw [HR.out]
          try rfl
        · have HN : Hid (∀ j, j < k + 1 → zs.getD j ByteArray.empty ≠ x) := Lib.hid fun j hj => by
            by_cases e : j = k
            · subst e; exact he
            · exact HI.out j (by omega)
          generalize zs.getD k ByteArray.empty = z at hcell he
          have hb : (z.toList == x.toList) = false := (Lib.bytes_beq_false_iff _ _).2 he
          clear he
          go_wp2
          go_roundg g
          case measure => omega
          case rel => exact ⟨k + 1, by omega, by first | rfl | simp, HN, rfl⟩

set_option maxRecDepth 100000 in
theorem rapart_all (w : World) (v : Value) (zs : List ByteArray) (hl : zs.length ≤ 100) (h : Ts w v zs) :
    Calls Tryd.prog 16 #[v] w fun e w' => e = .returned (.bool (apart (lists zs))) ∧ w' = w := by
  have HX := Lib.hid (fun x => rindex_all w v zs x hl h)
  obtain ⟨A, c, rfl, hA, hc⟩ := h
  have HC := Lib.hid hc
  have HA := Lib.hid hA
  have HY := Lib.hid (firsts_yes zs)
  have HN := Lib.hid (firsts_no zs)
  clear hc hA
  generalize apart (lists zs) = r at *
  go_enter Tryd.func16, Tryd.ntmps16
  go_wp2
  go_loopg [3] zs.length (fun g s wx => ∃ k : Nat, k + g = zs.length ∧ s = .int .i64 k ∧ Hid (∀ j, j < k → Lib.idxOfS zs (zs.getD j ByteArray.empty) = j) ∧ wx = w)
  case atStart => exact ⟨0, by omega, rfl, Lib.hid (fun j hj => absurd hj (by omega)), rfl⟩
  case round =>
    obtain ⟨k, hkg, rfl, HI, rfl⟩ := hrel
    cases gk with
    | zero =>
      have hkz : ¬ ((k : Int) < (zs.length : Int)) := by omega
      have HR := Lib.hid (HY.out fun j hj => HI.out j (by omega))
      go_wp2
      go_returns
      refine ⟨?_, rfl⟩
      rw [HR.out]
      try rfl
    | succ g =>
      have hkz : (k : Int) < (zs.length : Int) := by omega
      cases A with
      | none => have := HA.out rfl; rw [this] at hkg; simp at hkg
      | some ad =>
        have hcell := HC.out ad rfl k (by omega)
        have HZ := Lib.hid (HX.out (zs.getD k ByteArray.empty))
        have HS : Hid (Lib.idxOfS zs (zs.getD k ByteArray.empty) = k → ∀ j, j < k + 1 → Lib.idxOfS zs (zs.getD j ByteArray.empty) = j) := Lib.hid fun h j hj => by
          by_cases e : j = k
          · subst e; exact h
          · exact HI.out j (by omega)
        have HF := Lib.hid (HN.out k (by omega))
        generalize zs.getD k ByteArray.empty = z at hcell HZ HS HF
        by_cases he : Lib.idxOfS zs z = (k : Int)
        · have HT := Lib.hid (HS.out he)
          rw [he] at HZ
          clear he
          go_wp2_with fail
          refine HZ.out.mono ?_
          rintro e w1 ⟨rfl, hw⟩
          subst hw
          go_wp2
          go_roundg g
          case measure => omega
          case rel => exact ⟨k + 1, by omega, by first | rfl | simp, HT, rfl⟩
        · have HR := Lib.hid (HF.out he)
          generalize Lib.idxOfS zs z = i at *
          go_wp2_with fail
          refine HZ.out.mono ?_
          rintro e w1 ⟨rfl, hw⟩
          subst hw
          go_wp2
          go_returns
          refine ⟨?_, rfl⟩
          rw [HR.out]
          try rfl

set_option maxRecDepth 100000 in
theorem apart_all (w : World) (v : Value) (zs : List ByteArray) (hl : zs.length ≤ 100) (h : Ts w v zs) :
    Calls Tryd.prog 15 #[v] w fun e w' => e = .returned (.bool (apart (lists zs))) ∧ Grew w w' := by
  obtain ⟨A, c, rfl, hA, hc⟩ := h
  by_cases h0 : zs.length = 0
  · have hz := List.eq_nil_of_length_eq_zero h0
    subst hz
    rw [apart_nil]
    clear hc hA h0 hl
    simp only [List.length_nil]
    cases A with
    | none =>
      have H1 := Lib.hid (Tryd.slices_Clone_string_nil 0 c w)
      have H2 := Lib.hid (fun W => Tryd.slices_Sort_string_none none 0 W)
      have H3 := Lib.hid (fun W => Tryd.slices_Compact_string_empty none 0 W)
      go_enter Tryd.func15, Tryd.ntmps15
      go_wp2_with fail
      refine H1.out.mono ?_
      rintro e w1 ⟨rfl, hw⟩
      subst hw
      go_wp2_with fail
      refine (H2.out _).mono ?_
      rintro e w1 ⟨rfl, hw⟩
      subst hw
      go_wp2_with fail
      refine (H3.out _).mono ?_
      rintro e w1 ⟨rfl, hw⟩
      subst hw
      go_wp2
      go_returns
      exact ⟨rfl, Grew.refl _⟩
    | some a =>
      have H1 := Lib.hid (Tryd.slices_Clone_string_zero a c w)
      have H2 := Lib.hid (fun p cap W => Tryd.slices_Sort_string_none p cap W)
      have H3 := Lib.hid (fun p cap W => Tryd.slices_Compact_string_empty p cap W)
      go_enter Tryd.func15, Tryd.ntmps15
      go_wp2_with fail
      refine H1.out.mono ?_
      rintro e w1 ⟨v', rfl, hown, hne, hg⟩
      have HG : Hid (Grew w w1) := Lib.hid hg
      obtain ⟨p, cap, rfl⟩ : ∃ p cap, v' = .slice p 0 cap := by
        rcases hown.2 with ⟨rfl, _⟩ | ⟨g, cap, cur, rfl, _⟩
        · exact ⟨_, _, rfl⟩
        · exact ⟨_, _, rfl⟩
      clear hown hne hg
      go_wp2_with fail
      refine (H2.out _ _ _).mono ?_
      rintro e w2 ⟨rfl, hw⟩
      subst hw
      go_wp2_with fail
      refine (H3.out _ _ _).mono ?_
      rintro e w2 ⟨rfl, hw⟩
      subst hw
      go_wp2
      go_returns
      exact ⟨rfl, HG.out⟩
  · cases A with
    | none => rw [hA rfl] at h0; exact absurd rfl h0
    | some ad =>
      obtain ⟨b, off, spot⟩ := ad
      have hspot : spot = none := by simpa [Addr.add] using World.cell?_spot (hc _ rfl 0 (by omega))
      subst hspot
      exact apart_any w b off zs.length c zs rfl (by omega) (by omega) (fun j hj => by have := hc _ rfl j hj; rwa [WideShapes.add_plain] at this)

set_option maxRecDepth 100000 in
theorem law_any (w : World) (v : Value) (zs : List ByteArray) (x : ByteArray) (h : Ts w v zs) :
    Calls Tryd.prog 4 #[v, .string x] w fun e w' => e = .returned (.bool true) ∧ Grew w w' := by
  by_cases hl : zs.length ≤ 100
  · have H1 : Hid (∀ W, Grew w W → _) := Lib.hid fun W hg => index_all W v zs x hl (h.grew hg)
    have H2 : Hid (∀ W, Grew w W → _) := Lib.hid fun W hg => rindex_all W v zs x hl (h.grew hg)
    have H3 : Hid (∀ W, Grew w W → _) := Lib.hid fun W hg => apart_all W v zs hl (h.grew hg)
    have H4 : Hid (∀ W, Grew w W → _) := Lib.hid fun W hg => rapart_all W v zs hl (h.grew hg)
    obtain ⟨A, c, rfl, _⟩ := h
    have hl' : ¬ (100 : Int) < (zs.length : Int) := by omega
    generalize Lib.idxOfS zs x = r at *
    generalize apart (lists zs) = t at *
    go_enter Tryd.func4, Tryd.ntmps4
    go_wp2_with fail
    refine (alive_any _).mono ?_
    rintro e w1 ⟨rfl, g1⟩
    have G1 := Lib.hid g1
    clear g1
    go_wp2_with fail
    refine (H1.out _ G1.out).mono ?_
    rintro e w2 ⟨rfl, hw⟩
    subst hw
    go_wp2_with fail
    refine (H2.out _ G1.out).mono ?_
    rintro e w2 ⟨rfl, hw⟩
    subst hw
    go_wp2_with fail
    refine (H3.out _ G1.out).mono ?_
    rintro e w2 ⟨rfl, g2⟩
    have G2 := Lib.hid (G1.out.trans g2)
    clear g2
    go_wp2_with fail
    refine (H4.out _ G2.out).mono ?_
    rintro e w3 ⟨rfl, hw⟩
    subst hw
    go_wp2
    go_returns
    exact ⟨rfl, G2.out⟩
  · have hl' : (100 : Int) < (zs.length : Int) := by omega
    obtain ⟨A, c, rfl, _⟩ := h
    go_enter Tryd.func4, Tryd.ntmps4
    go_wp2_with fail
    refine (alive_any _).mono ?_
    rintro e w1 ⟨rfl, g1⟩
    have G1 := Lib.hid g1
    clear g1
    go_wp2
    go_returns
    exact ⟨rfl, G1.out⟩
end Go.Proofs.YtlcbhiokpjnoeaaDoor.ListsLaw
