/-
  Which accounts a realm may have, as the document tells it.
  Conditions: the texts' sizes.
-/
import Derived.Test.YtmegdgeiikhflaaGreatDL
import Derived.Test.YtmegdgeiikhflaaGreatRefName
import Derived.Test.YtmegdgeiikhflaaGreatListsPure
import Derived.Test.YtmegdgeiikhflaaGreatRRule3
import Derived.Lib.SlicesS
namespace Go.Proofs.YtmegdgeiikhflaaGreat.DA
set_option maxRecDepth 100000
open Go Go.RowKit Go.Lib Go.Proofs.YtmegdgeiikhflaaGreat Go.Proofs.YtmegdgeiikhflaaGreat.Facts Go.Proofs.YtmegdgeiikhflaaGreat.Plain Go.Proofs.YtmegdgeiikhflaaGreat.Ints Go.Proofs.YtmegdgeiikhflaaGreat.RRows Go.Proofs.YtmegdgeiikhflaaGreat.LBox Go.Proofs.YtmegdgeiikhflaaGreat.RSmall Go.Proofs.YtmegdgeiikhflaaGreat.RFind Go.Proofs.YtmegdgeiikhflaaGreat.RAll Go.Proofs.YtmegdgeiikhflaaGreat.RRule1 Go.Proofs.YtmegdgeiikhflaaGreat.RRules Go.Proofs.YtmegdgeiikhflaaGreat.RRule5 Go.Proofs.YtmegdgeiikhflaaGreat.RCaps Go.Proofs.YtmegdgeiikhflaaGreat.LRefs Go.Proofs.YtmegdgeiikhflaaGreat.RRule3

def okA (l : List Ac) : Bool := wit l.length 1 8 && (l.all accOk && Names.apart (Names.lists (l.map (·.name))))
def acc (l : List Ac) (k : Nat) : Ac := (l[k]?).getD ⟨⟨#[]⟩, ⟨#[]⟩, 0, false⟩
theorem acc_get {l : List Ac} {k : Nat} (h : k < l.length) : l[k]? = some (acc l k) := by
  unfold acc
  rw [List.getElem?_eq_getElem h, Option.getD_some]
theorem apart_nodup (l : List Ac) : Names.apart (Names.lists (l.map (·.name))) = true ↔ (l.map (·.name)).Nodup := by
  unfold Names.apart Names.sorted Names.lists
  rw [decide_eq_true_eq]
  refine (ListsPure.apart_iff _).trans ?_
  constructor
  · intro h
    exact List.Pairwise.imp (fun h e => h (by rw [e])) (List.pairwise_map.1 h)
  · intro h
    refine List.pairwise_map.2 (List.Pairwise.imp (fun {a b} h e => h ?_) h)
    cases a
    cases b
    simpa using e
theorem okA_len {l : List Ac} (h : ¬ (1 ≤ l.length ∧ l.length ≤ 8)) : okA l = false := by
  unfold okA wit
  by_cases h1 : 1 ≤ l.length
  · rw [decide_eq_false (show ¬ ((l.length : Nat) : Int) ≤ 8 by omega)]; simp
  · rw [decide_eq_false (show ¬ (1 : Int) ≤ ((l.length : Nat) : Int) by omega)]; simp
theorem okA_one {l : List Ac} {k : Nat} (hk : k < l.length) (h : accOk (acc l k) = false) : okA l = false := by
  unfold okA
  have : l.all accOk = false := by
    rw [List.all_eq_false]
    exact ⟨_, List.mem_of_getElem? (acc_get hk), by simp [h]⟩
  rw [this]
  simp
theorem okA_two {l : List Ac} {j k : Nat} (hjk : j < k) (hk : k < l.length) (h : (acc l j).name = (acc l k).name) : okA l = false := by
  unfold okA
  have : Names.apart (Names.lists (l.map (·.name))) = false := by
    rw [Bool.eq_false_iff]
    intro ha
    have hn := (apart_nodup l).1 ha
    have hp := List.pairwise_iff_getElem.1 hn j k (by rw [List.length_map]; omega) (by rw [List.length_map]; omega) hjk
    rw [List.getElem_map, List.getElem_map] at hp
    have e1 := acc_get (l := l) (k := j) (by omega)
    have e2 := acc_get hk
    rw [List.getElem?_eq_getElem (by omega)] at e1 e2
    injection e1 with e1
    injection e2 with e2
    rw [e1, e2] at hp
    exact hp h
  rw [this]
  simp
theorem okA_yes {l : List Ac} (h1 : 1 ≤ l.length) (h2 : l.length ≤ 8) (h3 : ∀ k, k < l.length → accOk (acc l k) = true ∧ ∀ j, j < k → ¬ (acc l j).name = (acc l k).name) : okA l = true := by
  unfold okA wit
  rw [decide_eq_true (by omega), decide_eq_true (by omega)]
  simp only [Bool.true_and, Bool.and_eq_true]
  constructor
  · rw [List.all_eq_true]
    intro x hx
    obtain ⟨k, hk⟩ := List.getElem?_of_mem hx
    have hkl := (List.getElem?_eq_some_iff.1 hk).1
    rw [acc_get hkl] at hk
    cases hk
    exact (h3 k hkl).1
  · rw [apart_nodup, List.nodup_iff_pairwise_ne, List.pairwise_iff_getElem]
    intro j k hj hk hjk
    rw [List.length_map] at hj hk
    rw [List.getElem_map, List.getElem_map]
    have := (h3 k hk).2 j hjk
    have e1 := acc_get hj
    have e2 := acc_get hk
    rw [List.getElem?_eq_getElem (by omega)] at e1 e2
    injection e1 with e1
    injection e2 with e2
    rw [e1, e2]
    exact this
set_option maxHeartbeats 8000000 in
theorem accounts_any (v : Value) (l : List Ac) (hs : ∀ x ∈ l, x.name.size ≤ 9223372036854775807 ∧ x.secret.size ≤ 9223372036854775807) (w : World) (h : As w v l) : Calls Tryz.prog 49 #[v] w fun e w' => e = .returned (.bool (okA l)) ∧ Grew w w' := by
  have HL := Lib.hid h
  obtain ⟨A, cp, rfl, hc1, hc2⟩ := h.slice
  have HSZ := Lib.hid hs
  have HLEN := Lib.hid (@okA_len l)
  have HONE := Lib.hid (fun k => @okA_one l k)
  have HTWO := Lib.hid (fun j k => @okA_two l j k)
  have HYES := Lib.hid (@okA_yes l)
  generalize okA l = res at *
  clear h hc2 hc1 hs
  by_cases h1 : 1 ≤ l.length
  · by_cases h8 : l.length ≤ 8
    · have h1' : ¬ (l.length : Int) < 1 := by omega
      have h8' : ¬ (8 : Int) < (l.length : Int) := by omega
      have H1 := Lib.hid h1
      have H8 := Lib.hid h8
      clear h1 h8
      go_enter Tryz.func49, Tryz.ntmps49
      go_wp2
      go_loopg [3, 4] l.length (fun g s3 s4 wx => ∃ k : Nat, k + g = l.length ∧ s3 = .int .i64 k ∧ Hid (∀ i, i < k → accOk (acc l i) = true ∧ ∀ j, j < i → ¬ (acc l j).name = (acc l i).name) ∧ Hid (Grew w wx))
      case atStart => exact ⟨0, by omega, rfl, Lib.hid (fun i h => absurd h (by omega)), Lib.hid (Grew.refl _)⟩
      case round =>
        obtain ⟨k, hkg, rfl, HJ, HG⟩ := hrel
        cases gk with
        | zero =>
          have hkz : ¬ ((k : Int) < (l.length : Int)) := by omega
          have HR := Lib.hid (HYES.out H1.out H8.out fun i hi => HJ.out i (by omega))
          go_wp2
          go_returns
          refine ⟨?_, HG.out⟩
          rw [HR.out]
          try rfl
        | succ g =>
          have hkz : (k : Int) < (l.length : Int) := by omega
          have hkl : k < l.length := by omega
          have hsz := HSZ.out _ (List.mem_of_getElem? (acc_get hkl))
          obtain ⟨ad, c2, e, hc, c0, c1, c2', c3⟩ := As_at (HL.out.grew HG.out) (acc_get hkl)
          injection e with e1 _ e3
          subst e1 e3
          have C0 := Lib.hid c0
          have HKL := Lib.hid hkl
          have hb8 : (l.length : Int) ≤ 8 := by have := H8.out; omega
          have hkw : wrap64 ((k : Int) + 1) = (k : Int) + 1 := by unfold wrap64; omega
          have HN1 := Lib.hid (fun W => RefName.rright_any (acc l k).name hsz.1 W)
          have HN2 := Lib.hid (fun W => RefName.rright_any (acc l k).secret hsz.2 W)
          have HAC : Hid (accOk (acc l k) = (Chars.right (acc l k).name.data.toList && (Chars.right (acc l k).secret.data.toList && wit (acc l k).lev 0 3))) := Lib.hid rfl
          have HO := Lib.hid (HONE.out k hkl)
          have HT := Lib.hid (fun j hj => HTWO.out j k hj hkl)
          have HSS : Hid (accOk (acc l k) = true → (∀ j, j < k → ¬ (acc l j).name = (acc l k).name) → ∀ i, i < k + 1 → accOk (acc l i) = true ∧ ∀ j, j < i → ¬ (acc l j).name = (acc l i).name) := Lib.hid fun q1 q2 i hi => by
            by_cases hik : i = k
            · subst hik; exact ⟨q1, q2⟩
            · exact HJ.out i (by omega)
          clear hkl hsz hb8
          generalize accOk (acc l k) = ba at *
          generalize acc l k = x at *
          generalize Chars.right x.name.data.toList = b1 at *
          generalize Chars.right x.secret.data.toList = b2 at *
          go_wp2_with fail
          refine (HN1.out _).mono ?_
          rintro e w1 ⟨rfl, rfl⟩
          cases b1 with
          | false =>
            have HR := Lib.hid (HO.out (HAC.out.trans (by simp)))
            go_wp2
            go_returns
            refine ⟨?_, HG.out⟩
            rw [HR.out]
            try rfl
          | true =>
            go_wp2_with fail
            refine (HN2.out _).mono ?_
            rintro e w2 ⟨rfl, rfl⟩
            cases b2 with
            | false =>
              have HR := Lib.hid (HO.out (HAC.out.trans (by simp)))
              go_wp2
              go_returns
              refine ⟨?_, HG.out⟩
              rw [HR.out]
              try rfl
            | true =>
              by_cases l0 : x.lev < 0
              · have HR := Lib.hid (HO.out (HAC.out.trans (by unfold wit; rw [decide_eq_false (by omega)]; simp)))
                go_wp2
                go_returns
                refine ⟨?_, HG.out⟩
                rw [HR.out]
                try rfl
              · by_cases l3 : 3 < x.lev
                · have HR := Lib.hid (HO.out (HAC.out.trans (by unfold wit; rw [decide_eq_false (show ¬ x.lev ≤ 3 by omega)]; simp)))
                  go_wp2
                  go_returns
                  refine ⟨?_, HG.out⟩
                  rw [HR.out]
                  try rfl
                · have HA : Hid (ba = true) := Lib.hid (HAC.out.trans (by unfold wit; rw [decide_eq_true (by omega), decide_eq_true (by omega)]; rfl))
                  go_wp2
                  clear l0 l3 c0 c1 c2' c3
                  go_loopg [4] k (fun g s4 wx => ∃ j : Nat, j + g = k ∧ s4 = .int .i64 j ∧ Hid (∀ i, i < j → ¬ (acc l i).name = x.name) ∧ Hid (Grew w2 wx))
                  case atStart => exact ⟨0, by omega, rfl, Lib.hid (fun i h => absurd h (by omega)), Lib.hid (Grew.refl _)⟩
                  case round =>
                    obtain ⟨j, hjg, rfl, HJ2, HG2⟩ := hrel
                    cases gk with
                    | zero =>
                      have hjz : ¬ ((j : Int) < (k : Int)) := by omega
                      have HS3 := Lib.hid (HSS.out HA.out fun i hi => HJ2.out i (by omega))
                      have HG3 := Lib.hid (HG.out.trans HG2.out)
                      go_wp2
                      go_roundg g
                      case measure => omega
                      case rel => exact ⟨k + 1, by omega, by first | rfl | simp [hkw], HS3, HG3⟩
                    | succ g2 =>
                      have hjz : (j : Int) < (k : Int) := by omega
                      have hjl : (j : Int) < (l.length : Int) := by omega
                      have hjw : wrap64 ((j : Int) + 1) = (j : Int) + 1 := by have := H8.out; unfold wrap64; omega
                      obtain ⟨ad3, c4, e, hc', p0, _⟩ := As_at (HL.out.grew (HG.out.trans HG2.out)) (acc_get (k := j) (by omega))
                      injection e with e1 _ e3
                      injection e1 with e1
                      subst e1 e3
                      have P0 := Lib.hid p0
                      have C9 := Lib.hid (cellB HG2.out C0.out)
                      have HTJ := Lib.hid (HT.out j (by omega))
                      have HSN : Hid (¬ (acc l j).name = x.name → ∀ i, i < j + 1 → ¬ (acc l i).name = x.name) := Lib.hid fun h i hi => by
                        by_cases hij : i = j
                        · subst hij; exact h
                        · exact HJ2.out i (by omega)
                      clear p0
                      generalize (acc l j).name = nj at *
                      obtain ⟨nx, hnx⟩ : ∃ nx, x.name = nx := ⟨_, rfl⟩
                      rw [hnx] at HTJ C9
                      have HNX := Lib.hid hnx
                      clear hnx
                      by_cases hn : nj = nx
                      · have HR := Lib.hid (HTJ.out hn)
                        subst hn
                        have hb1 : (nj.toList == nj.toList) = true := by simp
                        go_wp2
                        refine Facts.wp_region_text (by kernel_rfl) (by kernel_rfl) ?_
                        apply Facts.Lex.exact [] _ (by kernel_rfl)
                        · intro u W hC _
                          unfold Facts.one
                          go_simp
                          first | exact ⟨Grew.refl _, rfl⟩ | rfl
                        simp only [Act.put, List.setIfInBounds_toArray, List.set_cons_zero, List.set_cons_succ, Nat.zero_add]
                        apply Facts.Lex.exact [] _ (by kernel_rfl)
                        · intro u W hC _
                          unfold Facts.one
                          go_simp
                          first | exact ⟨Grew.refl _, rfl⟩ | rfl
                        simp only [Act.put, List.setIfInBounds_toArray, List.set_cons_zero, List.set_cons_succ, Nat.reduceAdd]
                        apply Facts.Lex.exact [] _ (by kernel_rfl)
                        · intro u W hC _
                          unfold Facts.one
                          go_simp
                          first | exact ⟨Grew.refl _, rfl⟩ | rfl
                        simp only [Act.put, List.setIfInBounds_toArray, List.set_cons_zero, List.set_cons_succ, Nat.reduceAdd]
                        apply Facts.Lex.exact [] _ (by kernel_rfl)
                        · intro u W hC _
                          unfold Facts.one
                          go_simp
                          first | exact ⟨Grew.refl _, rfl⟩ | rfl
                        simp only [Act.put, List.setIfInBounds_toArray, List.set_cons_zero, List.set_cons_succ, Nat.reduceAdd]
                        apply Facts.Lex.exact [] _ (by kernel_rfl)
                        · intro u W hC _
                          have p0 := cellB hC P0.out
                          unfold Facts.one
                          go_simp
                          first | exact ⟨Grew.refl _, rfl⟩ | rfl
                        simp only [Act.put, List.setIfInBounds_toArray, List.set_cons_zero, List.set_cons_succ, Nat.reduceAdd]
                        apply Facts.Lex.exact [] _ (by kernel_rfl)
                        · intro u W hC _
                          unfold Facts.one
                          go_simp
                          first | exact ⟨Grew.refl _, rfl⟩ | rfl
                        simp only [Act.put, List.setIfInBounds_toArray, List.set_cons_zero, List.set_cons_succ, Nat.reduceAdd]
                        apply Facts.Lex.exact [] _ (by kernel_rfl)
                        · intro u W hC _
                          unfold Facts.one
                          go_simp
                          first | exact ⟨Grew.refl _, rfl⟩ | rfl
                        simp only [Act.put, List.setIfInBounds_toArray, List.set_cons_zero, List.set_cons_succ, Nat.reduceAdd]
                        apply Facts.Lex.exact [] _ (by kernel_rfl)
                        · intro u W hC _
                          unfold Facts.one
                          go_simp
                          first | exact ⟨Grew.refl _, rfl⟩ | rfl
                        simp only [Act.put, List.setIfInBounds_toArray, List.set_cons_zero, List.set_cons_succ, Nat.reduceAdd]
                        apply Facts.Lex.exact [] _ (by kernel_rfl)
                        · intro u W hC _
                          unfold Facts.one
                          go_simp
                          first | exact ⟨Grew.refl _, rfl⟩ | rfl
                        simp only [Act.put, List.setIfInBounds_toArray, List.set_cons_zero, List.set_cons_succ, Nat.reduceAdd]
                        apply Facts.Lex.exact [] _ (by kernel_rfl)
                        · intro u W hC _
                          have c0 := cellB hC C9.out
                          unfold Facts.one
                          go_simp
                          first | exact ⟨Grew.refl _, rfl⟩ | rfl
                        simp only [Act.put, List.setIfInBounds_toArray, List.set_cons_zero, List.set_cons_succ, Nat.reduceAdd]
                        apply Facts.Lex.exact [] _ (by kernel_rfl)
                        · intro u W hC _
                          unfold Facts.one
                          go_simp
                          first | exact ⟨Grew.refl _, rfl⟩ | rfl
                        simp only [Act.put, List.setIfInBounds_toArray, List.set_cons_zero, List.set_cons_succ, Nat.reduceAdd]
                        refine Facts.Lex.done fun u W2 hC hL => ?_
                        have G2 := Lib.hid ((HG.out.trans HG2.out).trans hC)
                        clear hC hL
                        go_wp2
                        go_returns
                        refine ⟨?_, G2.out⟩
                        rw [HR.out]
                        try rfl
                      · have HS4 := Lib.hid (HSN.out (by rw [HNX.out]; exact hn))
                        have hb1 : (nj.toList == nx.toList) = false := (Lib.bytes_beq_false_iff _ _).2 hn
                        clear hn
                        go_wp2
                        refine Facts.wp_region_text (by kernel_rfl) (by kernel_rfl) ?_
                        apply Facts.Lex.exact [] _ (by kernel_rfl)
                        · intro u W hC _
                          unfold Facts.one
                          go_simp
                          first | exact ⟨Grew.refl _, rfl⟩ | rfl
                        simp only [Act.put, List.setIfInBounds_toArray, List.set_cons_zero, List.set_cons_succ, Nat.zero_add]
                        apply Facts.Lex.exact [] _ (by kernel_rfl)
                        · intro u W hC _
                          unfold Facts.one
                          go_simp
                          first | exact ⟨Grew.refl _, rfl⟩ | rfl
                        simp only [Act.put, List.setIfInBounds_toArray, List.set_cons_zero, List.set_cons_succ, Nat.reduceAdd]
                        apply Facts.Lex.exact [] _ (by kernel_rfl)
                        · intro u W hC _
                          unfold Facts.one
                          go_simp
                          first | exact ⟨Grew.refl _, rfl⟩ | rfl
                        simp only [Act.put, List.setIfInBounds_toArray, List.set_cons_zero, List.set_cons_succ, Nat.reduceAdd]
                        apply Facts.Lex.exact [] _ (by kernel_rfl)
                        · intro u W hC _
                          unfold Facts.one
                          go_simp
                          first | exact ⟨Grew.refl _, rfl⟩ | rfl
                        simp only [Act.put, List.setIfInBounds_toArray, List.set_cons_zero, List.set_cons_succ, Nat.reduceAdd]
                        apply Facts.Lex.exact [] _ (by kernel_rfl)
                        · intro u W hC _
                          have p0 := cellB hC P0.out
                          unfold Facts.one
                          go_simp
                          first | exact ⟨Grew.refl _, rfl⟩ | rfl
                        simp only [Act.put, List.setIfInBounds_toArray, List.set_cons_zero, List.set_cons_succ, Nat.reduceAdd]
                        apply Facts.Lex.exact [] _ (by kernel_rfl)
                        · intro u W hC _
                          unfold Facts.one
                          go_simp
                          first | exact ⟨Grew.refl _, rfl⟩ | rfl
                        simp only [Act.put, List.setIfInBounds_toArray, List.set_cons_zero, List.set_cons_succ, Nat.reduceAdd]
                        apply Facts.Lex.exact [] _ (by kernel_rfl)
                        · intro u W hC _
                          unfold Facts.one
                          go_simp
                          first | exact ⟨Grew.refl _, rfl⟩ | rfl
                        simp only [Act.put, List.setIfInBounds_toArray, List.set_cons_zero, List.set_cons_succ, Nat.reduceAdd]
                        apply Facts.Lex.exact [] _ (by kernel_rfl)
                        · intro u W hC _
                          unfold Facts.one
                          go_simp
                          first | exact ⟨Grew.refl _, rfl⟩ | rfl
                        simp only [Act.put, List.setIfInBounds_toArray, List.set_cons_zero, List.set_cons_succ, Nat.reduceAdd]
                        apply Facts.Lex.exact [] _ (by kernel_rfl)
                        · intro u W hC _
                          unfold Facts.one
                          go_simp
                          first | exact ⟨Grew.refl _, rfl⟩ | rfl
                        simp only [Act.put, List.setIfInBounds_toArray, List.set_cons_zero, List.set_cons_succ, Nat.reduceAdd]
                        apply Facts.Lex.exact [] _ (by kernel_rfl)
                        · intro u W hC _
                          have c0 := cellB hC C9.out
                          unfold Facts.one
                          go_simp
                          first | exact ⟨Grew.refl _, rfl⟩ | rfl
                        simp only [Act.put, List.setIfInBounds_toArray, List.set_cons_zero, List.set_cons_succ, Nat.reduceAdd]
                        apply Facts.Lex.exact [] _ (by kernel_rfl)
                        · intro u W hC _
                          unfold Facts.one
                          go_simp
                          first | exact ⟨Grew.refl _, rfl⟩ | rfl
                        simp only [Act.put, List.setIfInBounds_toArray, List.set_cons_zero, List.set_cons_succ, Nat.reduceAdd]
                        refine Facts.Lex.done fun u W2 hC hL => ?_
                        have G2 := Lib.hid (HG2.out.trans hC)
                        clear hC hL
                        go_wp2
                        go_roundg g2
                        case measure => omega
                        case rel => exact ⟨j + 1, by omega, by first | rfl | simp [hjw], HS4, G2⟩
    · have HR := Lib.hid (HLEN.out (fun h => h8 h.2))
      have h1' : ¬ (l.length : Int) < 1 := by omega
      have h8' : (8 : Int) < (l.length : Int) := by omega
      clear h1 h8
      go_enter Tryz.func49, Tryz.ntmps49
      go_wp2
      go_returns
      refine ⟨?_, Grew.refl _⟩
      rw [HR.out]
      try rfl
  · have HR := Lib.hid (HLEN.out (fun h => h1 h.1))
    have h1' : (l.length : Int) < 1 := by omega
    clear h1
    go_enter Tryz.func49, Tryz.ntmps49
    go_wp2
    go_returns
    refine ⟨?_, Grew.refl _⟩
    rw [HR.out]
    try rfl
end Go.Proofs.YtmegdgeiikhflaaGreat.DA
