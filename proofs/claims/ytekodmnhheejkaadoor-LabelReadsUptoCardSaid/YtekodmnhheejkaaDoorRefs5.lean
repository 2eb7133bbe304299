/-
  The document's own text of a label, its bytes, and the label of bytes.
  Conditions: none beyond those that each lemma names.
-/
import Derived.Test.YtekodmnhheejkaaDoorRefs4
import Derived.Test.YtekodmnhheejkaaDoorBackLaw
namespace Go.Proofs.YtekodmnhheejkaaDoor.Refs5
open Go Go.RowKit Go.Lib Go.Proofs.YtekodmnhheejkaaDoor Go.Proofs.YtekodmnhheejkaaDoor.Facts Go.Proofs.YtekodmnhheejkaaDoor.Plain Go.Proofs.YtekodmnhheejkaaDoor.Comps Go.Proofs.YtekodmnhheejkaaDoor.Bytes Go.Proofs.YtekodmnhheejkaaDoor.Print Go.Proofs.YtekodmnhheejkaaDoor.Parse Go.Proofs.YtekodmnhheejkaaDoor.Form Go.Proofs.YtekodmnhheejkaaDoor.Text Go.Proofs.YtekodmnhheejkaaDoor.Refs Go.Proofs.YtekodmnhheejkaaDoor.TextPure Go.Proofs.YtekodmnhheejkaaDoor.Refs4 Go.Proofs.YtekodmnhheejkaaDoor.BackLaw

/-- The compartments below k. -/
def preK (c : BitVec 64) (k : Nat) : List (Fin 64) := (comps c).filter fun x => decide (x.1 < k)
theorem pw_comps (c : BitVec 64) : (comps c).Pairwise (· < ·) := by
  unfold comps
  exact List.Pairwise.filter _ (List.pairwise_lt_finRange 64)
theorem mem_pre (c : BitVec 64) (k : Nat) (x : Fin 64) : x ∈ preK c k ↔ c.getLsbD x.1 = true ∧ x.1 < k := by
  unfold preK
  rw [List.mem_filter, mem_comps, decide_eq_true_iff]
theorem rise_pre (c : BitVec 64) (k : Nat) : Rise (-1) (preK c k) :=
  rise_pairwise (fun x _ => by omega) (List.Pairwise.filter _ (pw_comps c))
theorem pre_zero (c : BitVec 64) : preK c 0 = [] := by
  unfold preK
  rw [List.filter_eq_nil_iff]
  intro x _
  simp
theorem pre_all (c : BitVec 64) : preK c 64 = comps c := by
  unfold preK
  rw [List.filter_eq_self]
  intro x _
  simp
theorem pre_no (c : BitVec 64) (k : Nat) (h : c.getLsbD k = false) : preK c (k + 1) = preK c k := by
  refine rise_ext (rise_pre c _) (rise_pre c _) fun x => ?_
  rw [mem_pre, mem_pre]
  constructor
  · rintro ⟨h1, h2⟩
    refine ⟨h1, ?_⟩
    by_cases e : x.1 = k
    · rw [e, h] at h1; cases h1
    · omega
  · rintro ⟨h1, h2⟩
    exact ⟨h1, by omega⟩
theorem pre_yes (c : BitVec 64) (k : Nat) (hk : k < 64) (h : c.getLsbD k = true) : preK c (k + 1) = preK c k ++ [⟨k, hk⟩] := by
  have hp : (preK c k ++ [(⟨k, hk⟩ : Fin 64)]).Pairwise (· < ·) := by
    refine List.pairwise_append.2 ⟨List.Pairwise.filter _ (pw_comps c), List.pairwise_singleton _ _, fun a ha b hb => ?_⟩
    have := ((mem_pre c k a).1 ha).2
    rw [List.mem_singleton] at hb
    subst hb
    exact this
  refine rise_ext (rise_pre c _) (rise_pairwise (last := -1) (fun x _ => by omega) hp) fun x => ?_
  rw [List.mem_append, mem_pre, mem_pre, List.mem_singleton]
  constructor
  · rintro ⟨h1, h2⟩
    by_cases e : x.1 = k
    · exact .inr (Fin.ext e)
    · exact .inl ⟨h1, by omega⟩
  · rintro (⟨h1, h2⟩ | rfl)
    · exact ⟨h1, by omega⟩
    · exact ⟨h, Nat.lt_succ_self k⟩
theorem pre_size (m : Nat) (hm : m < 4) (c : BitVec 64) (k : Nat) : (text m (preK c k)).size ≤ 200 := by
  rw [text_size]
  have h1 := digits_fin ⟨m, by omega⟩
  have h2 := tail_le (preK c k)
  have h3 := comps_le c
  have h4 : (preK c k).length ≤ (comps c).length := List.length_filter_le _ _
  simp only at h1
  omega
theorem text_app (m : Nat) (pre : List (Fin 64)) (x : Fin 64) : text m pre ++ (⟨#[44]⟩ : ByteArray) ++ ⟨(Lib.decDigits x.1).toArray⟩ = text m (pre ++ [x]) := by
  rw [ByteArray.append_assoc]
  exact text_snoc m pre x

set_option maxRecDepth 100000 in
theorem rprint_any (v : Int) (c : BitVec 64) (w : World) : Calls Tryd.prog 30 #[.agg #[.int .i64 v, .int .u64 (c.toNat : Int)]] w fun e w' => e = .returned (.string (print v c)) ∧ Grew w w' := by
  have A0 : Hid ((w.alloc (.cells #[.int .i64 v, .int .u64 (c.toNat : Int)] 24)).heap[w.heap.size]? = some (.cells #[.int .i64 v, .int .u64 (c.toNat : Int)] 24 (0, 0))) := Lib.hid (heap_alloc_new w _)
  have G0 : Hid (Grew w (w.alloc (.cells #[.int .i64 v, .int .u64 (c.toNat : Int)] 24))) := Lib.hid (by unfold Grew; go_grown)
  have HRR := Lib.hid (fun W => rright_any v c W)
  cases hv : may v with
  | false =>
    have hp : print v c = ⟨#[]⟩ := by unfold print; rw [if_neg (by simp [hv])]
    rw [hp]
    rw [hv] at HRR
    clear hv hp
    go_enter Tryd.func30, Tryd.ntmps30
    go_wp2_with fail
    refine (HRR.out _).mono ?_
    rintro e w1 ⟨rfl, hg⟩
    have G1 := Lib.hid (G0.out.trans hg)
    clear hg
    go_wp2
    go_returns
    exact ⟨rfl, G1.out⟩
  | true =>
    have hb : 0 ≤ v ∧ v < 4 := by unfold may at hv; simpa using hv
    obtain ⟨m, rfl⟩ := Int.eq_ofNat_of_zero_le hb.1
    have hm : m < 4 := by omega
    have hp : print (m : Int) c = text m (comps c) := by unfold print; rw [if_pos hv, Int.toNat_natCast]
    rw [hp]
    rw [hv] at HRR
    have HD : Hid (∀ W, Calls Tryd.prog 41 #[.int .i64 (m : Nat)] W fun e w' => e = .returned (.string (text m (preK c 0))) ∧ Grew W w') := Lib.hid fun W => by
      have := digits_any m (by omega) W
      have e : text m (preK c 0) = ⟨(Lib.decDigits m).toArray⟩ := by rw [pre_zero]; simp [text, tail]
      rwa [e]
    have HS := Lib.hid (pre_size m hm c)
    have HAP := Lib.hid (text_app m)
    clear hv hp hb hm
    go_enter Tryd.func30, Tryd.ntmps30
    go_wp2_with fail
    refine (HRR.out _).mono ?_
    rintro e w1 ⟨rfl, hg⟩
    have G1 := Lib.hid (G0.out.trans hg)
    have A1 := Lib.hid (keepB A0.out hg)
    clear hg
    obtain ⟨a0, a1, _, _⟩ := lab_cells A1.out
    go_wp2_with fail
    refine (HD.out _).mono ?_
    rintro e w2 ⟨rfl, hg⟩
    have G2 := Lib.hid (G1.out.trans hg)
    have A2 := Lib.hid (keepB A1.out hg)
    clear hg a0 a1
    go_wp2
    go_loopg [3, 4] 64 (fun g s3 s4 wx => ∃ k : Nat, k + g = 64 ∧ s4 = .int .i64 k ∧ s3 = .string (text m (preK c k)) ∧ Hid (Grew w2 wx))
    case atStart => exact ⟨0, by omega, rfl, rfl, Lib.hid (Grew.refl _)⟩
    case round =>
      obtain ⟨k, hkg, rfl, rfl, HG⟩ := hrel
      cases gk with
      | zero =>
        have hkz : ¬ ((k : Int) < 64) := by omega
        have HE : Hid (preK c k = comps c) := Lib.hid (by rw [show k = 64 by omega, pre_all])
        go_wp2
        go_returns
        refine ⟨?_, G2.out.trans HG.out⟩
        rw [← HE.out]
        try rfl
      | succ g =>
        have hkz : (k : Int) < 64 := by omega
        have hk64 : k < 64 := by omega
        obtain ⟨a0, a1, _, _⟩ := lab_cells (keepB A2.out HG.out)
        have HC := Lib.hid (has_any (m : Int) c k hk64)
        have HY := Lib.hid (pre_yes c k hk64)
        have HN := Lib.hid (pre_no c k)
        have hsz := HS.out k
        have HAPK := Lib.hid (HAP.out (preK c k) ⟨k, hk64⟩)
        generalize c.getLsbD k = t at HC HY HN
        cases t with
        | true =>
          have HE := Lib.hid (HY.out rfl)
          have hdl := digits_le ⟨k, hk64⟩
          have HDG := Lib.hid (digits_any k (by omega))
          have hdz : (⟨(Lib.decDigits k).toArray⟩ : ByteArray).size ≤ 2 := by
            show (Lib.decDigits k).toArray.size ≤ 2
            rw [List.size_toArray]
            exact hdl
          clear hdl
          have hX : text m (preK c k) ++ (⟨#[44]⟩ : ByteArray) ++ ⟨(Lib.decDigits k).toArray⟩ = text m (preK c (k + 1)) := by rw [HE.out]; exact HAPK.out
          have HX := Lib.hid hX
          clear hX
          generalize (⟨(Lib.decDigits k).toArray⟩ : ByteArray) = d at *
          generalize text m (preK c k) = T at *
          have h44 : (⟨#[44]⟩ : ByteArray).size = 1 := rfl
          go_wp2_with fail
          with_reducible refine (HC.out _).mono ?_
          rintro e w3 ⟨rfl, hg⟩
          have HG2 := Lib.hid (HG.out.trans hg)
          clear hg a0 a1
          go_wp2_with fail
          refine (HDG.out _).mono ?_
          rintro e w4 ⟨rfl, hg⟩
          have HG3 := Lib.hid (HG2.out.trans hg)
          clear hg
          go_wp2
          go_roundg g
          case measure => omega
          case rel => exact ⟨k + 1, by omega, by first | rfl | simp, by rw [← HX.out], HG3⟩
        | false =>
          have HE := Lib.hid (HN.out rfl)
          go_wp2_with fail
          with_reducible refine (HC.out _).mono ?_
          rintro e w3 ⟨rfl, hg⟩
          have HG2 := Lib.hid (HG.out.trans hg)
          clear hg a0 a1
          go_wp2
          go_roundg g
          case measure => omega
          case rel => exact ⟨k + 1, by omega, by first | rfl | simp, by rw [HE.out], HG2⟩
end Go.Proofs.YtekodmnhheejkaaDoor.Refs5
