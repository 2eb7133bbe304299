/-
  The document's own order of labels, and a label's compartments, one by one.
  Conditions: none beyond those that each lemma names.
-/
import Derived.Test.YtekodmnhheejkaaDoorRefs2
namespace Go.Proofs.YtekodmnhheejkaaDoor.Refs3
open Go Go.RowKit Go.Lib Go.Proofs.YtekodmnhheejkaaDoor Go.Proofs.YtekodmnhheejkaaDoor.Facts Go.Proofs.YtekodmnhheejkaaDoor.Plain Go.Proofs.YtekodmnhheejkaaDoor.Comps Go.Proofs.YtekodmnhheejkaaDoor.Text Go.Proofs.YtekodmnhheejkaaDoor.Lat Go.Proofs.YtekodmnhheejkaaDoor.Nums Go.Proofs.YtekodmnhheejkaaDoor.Refs

theorem order_cases (v v2 : Int) (c c2 : BitVec 64) : (v < v2 ∧ order v c v2 c2 = -1) ∨ (v = v2 ∧ c.toNat < c2.toNat ∧ order v c v2 c2 = -1) ∨ (v = v2 ∧ c = c2 ∧ order v c v2 c2 = 0) ∨ (v = v2 ∧ c2.toNat < c.toNat ∧ order v c v2 c2 = 1) ∨ (v2 < v ∧ order v c v2 c2 = 1) := by
  have e : c = c2 ↔ c.toNat = c2.toNat := BitVec.toNat_inj.symm
  rw [e]
  unfold order pick compareInt
  repeat' split
  all_goals omega

set_option maxRecDepth 100000 in
theorem rcmp_any (v : Int) (c : BitVec 64) (v2 : Int) (c2 : BitVec 64) (w : World) : Calls Tryd.prog 21 #[.agg #[.int .i64 v, .int .u64 (c.toNat : Int)], .agg #[.int .i64 v2, .int .u64 (c2.toNat : Int)]] w fun e w' => e = .returned (.int .i64 (order v c v2 c2)) ∧ Grew w w' := by
  rcases order_cases v v2 c c2 with ⟨h, e⟩ | ⟨rfl, h, e⟩ | ⟨rfl, rfl, e⟩ | ⟨rfl, h, e⟩ | ⟨h, e⟩
  · rw [e]
    clear e
    go_enter Tryd.func21, Tryd.ntmps21
    go_wp2
    go_returns
    exact ⟨rfl, by unfold Grew; go_grown⟩
  · rw [e]
    clear e
    have h1 : (c.toNat : Int) < (c2.toNat : Int) := by omega
    have h2 : ¬ v < v := by omega
    go_enter Tryd.func21, Tryd.ntmps21
    go_wp2
    go_returns
    exact ⟨rfl, by unfold Grew; go_grown⟩
  · rw [e]
    clear e
    have h2 : ¬ v < v := by omega
    go_enter Tryd.func21, Tryd.ntmps21
    go_wp2
    go_returns
    exact ⟨rfl, by unfold Grew; go_grown⟩
  · rw [e]
    clear e
    have h1 : decide (c.toNat < c2.toNat) = false := decide_eq_false (by omega)
    have h3 : (c == c2) = false := by rw [beq_eq_false_iff_ne]; intro e; rw [e] at h; omega
    have h4 : ¬ c.toNat = c2.toNat := by omega
    have h5 : ((c.toNat : Int) == (c2.toNat : Int)) = false := by rw [beq_eq_false_iff_ne]; omega
    go_enter Tryd.func21, Tryd.ntmps21
    go_wp2
    go_returns
    exact ⟨rfl, by unfold Grew; go_grown⟩
  · rw [e]
    clear e
    have h1 : decide (v < v2) = false := decide_eq_false (by omega)
    have h4 : ¬ v = v2 := by omega
    have h5 : (v == v2) = false := by rw [beq_eq_false_iff_ne]; omega
    go_enter Tryd.func21, Tryd.ntmps21
    go_wp2
    go_returns
    exact ⟨rfl, by unfold Grew; go_grown⟩

/-- The compartments below k, as numbers. -/
def upto (c : BitVec 64) (k : Nat) : List Int := ((List.range k).filter c.getLsbD).map Int.ofNat
theorem upto_yes (c : BitVec 64) (k : Nat) (h : c.getLsbD k = true) : upto c (k + 1) = upto c k ++ [(k : Int)] := by
  unfold upto
  rw [List.range_succ, List.filter_append, List.map_append]
  simp [h]
theorem upto_no (c : BitVec 64) (k : Nat) (h : c.getLsbD k = false) : upto c (k + 1) = upto c k := by
  unfold upto
  rw [List.range_succ, List.filter_append, List.map_append]
  simp [h]
theorem upto_len (c : BitVec 64) (k : Nat) : (upto c k).length ≤ k := by
  unfold upto
  rw [List.length_map]
  exact Nat.le_trans (List.length_filter_le _ _) (by simp)
/-- A label's compartments as numbers. -/
def nums (c : BitVec 64) : List Int := (comps c).map fun x => ((x.1 : Nat) : Int)
theorem upto_all (c : BitVec 64) : upto c 64 = nums c := by
  unfold upto nums comps
  have h : List.range 64 = (List.finRange 64).map Fin.val := by decide
  rw [h, List.filter_map, List.map_map]
  rfl

theorem own_grew {W W' : World} {base : Nat} {v : Value} {n : Nat} {xs : List Value} (h : W.ownsRow base 3 1 v n xs) (hg : Grew W W') : W'.ownsRow base 3 1 v n xs := by
  refine ⟨h.1, h.2.imp id fun ⟨g, cap, cur, h1, h2, h3, h4⟩ => ⟨g, cap, cur, h1, h2, ?_, h4⟩⟩
  exact keepB h3 hg

set_option maxRecDepth 100000 in
theorem rbits_any (v : Int) (c : BitVec 64) (w : World) : Calls Tryd.prog 22 #[.agg #[.int .i64 v, .int .u64 (c.toNat : Int)]] w fun e w' => ∃ v', e = .returned v' ∧ Is w' v' (nums c) ∧ Grew w w' := by
  have A0 : (w.alloc (Obj.cells #[Value.int IntKind.i64 v, Value.int IntKind.u64 (c.toNat : Int)] 24)).heap[w.heap.size]? = some (.cells #[.int .i64 v, .int .u64 (c.toNat : Int)] 24 (0, 0)) := heap_alloc_new w _
  have HA := Lib.hid A0
  have HG0 : Hid (Grew w (w.alloc (Obj.cells #[Value.int IntKind.i64 v, Value.int IntKind.u64 (c.toNat : Int)] 24))) := Lib.hid (by unfold Grew; go_grown)
  clear A0
  go_enter Tryd.func22, Tryd.ntmps22
  go_wp2
  go_loopg [3, 4] 64 (fun g s3 s4 wx => ∃ (k : Nat) (v3 : Value), k + g = 64 ∧ v3 = s3 ∧ s4 = .int .i64 k ∧ Hid (wx.ownsRow (w.heap.size + 1) 3 1 s3 (upto c k).length (iv (upto c k))) ∧ Hid (Grew (w.alloc (Obj.cells #[Value.int IntKind.i64 v, Value.int IntKind.u64 (c.toNat : Int)] 24)) wx))
  case atStart => exact ⟨0, _, by omega, rfl, rfl, Lib.hid (own_nil _ _), Lib.hid (Grew.refl _)⟩
  case round =>
    obtain ⟨k, v3, hkg, rfl, rfl, HI, HG⟩ := hrel
    cases gk with
    | zero =>
      have hkz : ¬ ((k : Int) < 64) := by omega
      have HE : Hid (Is wr v3 (nums c)) := Lib.hid (by
        have := Is.of_own HI.out rfl
        rw [show k = 64 by omega, upto_all] at this
        exact this)
      go_wp2
      go_returns
      exact ⟨_, rfl, HE.out, HG0.out.trans HG.out⟩
    | succ g =>
      have hkz : (k : Int) < 64 := by omega
      obtain ⟨a0, a1, _, _⟩ := lab_cells (keepB HA.out HG.out)
      have HC := Lib.hid (has_any v c k (by omega))
      have HY := Lib.hid (upto_yes c k)
      have HN := Lib.hid (upto_no c k)
      have hul := upto_len c k
      generalize c.getLsbD k = t at HC HY HN
      cases t with
      | true =>
        have HE := Lib.hid (HY.out rfl)
        go_wp2_with fail
        with_reducible refine (HC.out _).mono ?_
        rintro e w2 ⟨rfl, hg⟩
        have HG2 := Lib.hid (HG.out.trans hg)
        obtain ⟨v', w3, hr, hown, hb⟩ := app_one w2 (w.heap.size + 1) v3 (upto c k) (k : Int) (own_grew HI.out hg) (by omega) (by have := HG2.out.size; rwa [World.size_alloc] at this)
        have HAPP := Lib.hid hr
        have HO := Lib.hid hown
        have HG3 : Hid (Grew (w.alloc (Obj.cells #[Value.int IntKind.i64 v, Value.int IntKind.u64 (c.toNat : Int)] 24)) w3) := Lib.hid (by
          have h1 := HG2.out
          unfold Grew at h1 ⊢
          rw [World.size_alloc] at h1 ⊢
          exact h1.trans hb)
        clear hg hr hown hb a0 a1
        go_wp2_with (at_builtin; refine wpList_app_want (.tmp 12) (.tmp 14) 29 (by rfl) (by rfl) _ _ rfl rfl v' w3 (by exact HAPP.out) ?_)
        go_roundg g
        case measure => omega
        case rel =>
          refine ⟨k + 1, _, by omega, rfl, by first | rfl | simp, ?_, HG3⟩
          rw [HE.out]
          exact HO
      | false =>
        have HE := Lib.hid (HN.out rfl)
        go_wp2_with fail
        with_reducible refine (HC.out _).mono ?_
        rintro e w2 ⟨rfl, hg⟩
        have HG2 := Lib.hid (HG.out.trans hg)
        have HO := Lib.hid (own_grew HI.out hg)
        clear hg a0 a1
        go_wp2
        go_roundg g
        case measure => omega
        case rel =>
          refine ⟨k + 1, _, by omega, rfl, by first | rfl | simp, ?_, HG2⟩
          rw [HE.out]
          exact HO
end Go.Proofs.YtekodmnhheejkaaDoor.Refs3
