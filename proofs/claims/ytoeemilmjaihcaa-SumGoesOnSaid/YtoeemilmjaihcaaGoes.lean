/-
  For every bytes and every cut: SumGoesOn answers true, and each argument reads afterwards as it read before.
  Conditions: none beyond the row's own (the form's reach: each argument takes at most 2 to the 47 less 4096 bytes).
-/
import Derived.Test.YtoeemilmjaihcaaAlive
import Derived.Test.YtoeemilmjaihcaaLaw
import Derived.Test.YtoeemilmjaihcaaCuts
import Derived.Test.YtoeemilmjaihcaaRows
namespace Go.Proofs.Ytoeemilmjaihcaa.Goes
open Go Go.ChangeShapes Go.WideShapes Go.ChangeAt Go.RowKit Go.Proofs.Ytoeemilmjaihcaa Go.Proofs.Ytoeemilmjaihcaa.Facts Go.Proofs.Ytoeemilmjaihcaa.Bytes Go.Proofs.Ytoeemilmjaihcaa.SumPure Go.Proofs.Ytoeemilmjaihcaa.Sum Go.Proofs.Ytoeemilmjaihcaa.Alive Go.Proofs.Ytoeemilmjaihcaa.Law Go.Proofs.Ytoeemilmjaihcaa.Cuts

theorem law_out (S : Nat → Prop) (v : Value) (l : List UInt8) (n : Int) (w : World) (h : Rd S w v l) (hn : n < 0 ∨ (l.length : Int) < n) :
    Calls Try.prog 4 #[v, .int .i64 n] w fun e w' => e = .returned (.bool true) ∧ Grew w w' := by
  obtain ⟨A, c, rfl, _⟩ := id h
  clear h
  go_enter Try.func4, Try.ntmps4
  by_cases h0 : n < 0
  · go_wp2_with fail
    refine (alive_any _).mono ?_
    rintro e W ⟨rfl, hg⟩
    go_wp2
    go_returns
    exact ⟨rfl, hg⟩
  · have h1 : (l.length : Int) < n := by omega
    go_wp2_with fail
    refine (alive_any _).mono ?_
    rintro e W ⟨rfl, hg⟩
    go_wp2
    go_returns
    exact ⟨rfl, hg⟩

set_option maxRecDepth 100000 in
set_option maxHeartbeats 4000000 in
theorem law_in (S : Nat → Prop) (v : Value) (l : List UInt8) (m : Nat) (w : World) (h : Rd S w v l) (hm : m ≤ l.length) :
    Calls Try.prog 4 #[v, .int .i64 m] w fun e w' => e = .returned (.bool true) ∧ Grew w w' := by
  obtain ⟨A, c, rfl, hlc, hcm, _⟩ := id h
  unfold maxLen at hcm
  obtain ⟨x1, hx1⟩ : ∃ x1, x1 = ((sumOf (l.take m)).toNat : Int) := ⟨_, rfl⟩
  obtain ⟨x, hx⟩ : ∃ x, x = ((sumOf l).toNat : Int) := ⟨_, rfl⟩
  have H1 : Hid (∀ W, Grew w W → Calls Try.prog 8 #[.slice A m c] W fun e w' => e = .returned (.int .u32 x1) ∧ Grew W w') := Lib.hid fun W hg => by
    have := of_any S _ _ W ((cut_first h hm).grew hg)
    rw [← hx1] at this
    exact this
  have H2 : Hid (∀ W, Grew w W → Calls Try.prog 12 #[.int .u32 x1, .slice (if c = m then A else A.map (·.add m)) (l.length - m) (c - m)] W fun e w' => e = .returned (.int .u32 x) ∧ Grew W w') := Lib.hid fun W hg => by
    have := on_any S (sumOf (l.take m)) _ _ W ((cut_rd h hm).2.grew hg)
    rw [← hx1, goes_on, List.take_append_drop, ← hx] at this
    exact this
  have H3 : Hid (∀ W, Grew w W → Calls Try.prog 8 #[.slice A l.length c] W fun e w' => e = .returned (.int .u32 x) ∧ Grew W w') := Lib.hid fun W hg => by
    have := of_any S _ _ W (h.grew hg)
    rw [← hx] at this
    exact this
  clear hx hx1 h
  go_enter Try.func4, Try.ntmps4
  have hmi : ¬ ((l.length : Int) < (m : Int)) := by omega
  have hm0 : ¬ ((m : Int) < 0) := by omega
  have hmc : m ≤ c := by omega
  go_wp2
  refine Facts.wp_region_text (by kernel_rfl) (by kernel_rfl) ?_
  apply Facts.Lex.exact [] (.bool true) (by kernel_rfl)
  · intro u W hC _
    unfold Facts.one
    go_simp
    first | exact ⟨Grew.refl _, rfl⟩ | rfl | (refine (alive_any W).mono ?_; rintro e w' ⟨rfl, hg⟩; exact ⟨_, rfl, hg, rfl⟩)
  simp only [Act.put, List.setIfInBounds_toArray, List.set_cons_zero, List.set_cons_succ, Nat.zero_add, Nat.reduceAdd]
  apply Facts.Lex.exact [] _ (by kernel_rfl)
  · intro u W hC _
    unfold Facts.one
    go_simp
    first | exact ⟨Grew.refl _, rfl⟩ | rfl
  simp only [Act.put, List.setIfInBounds_toArray, List.set_cons_zero, List.set_cons_succ, Nat.zero_add, Nat.reduceAdd]
  apply Facts.Lex.exact [] _ (by kernel_rfl)
  · intro u W hC _
    unfold Facts.one
    go_simp
    first | exact ⟨Grew.refl _, rfl⟩ | rfl
  simp only [Act.put, List.setIfInBounds_toArray, List.set_cons_zero, List.set_cons_succ, Nat.zero_add, Nat.reduceAdd]
  apply Facts.Lex.exact [] _ (by kernel_rfl)
  · intro u W hC _
    unfold Facts.one
    go_simp
    first | exact ⟨Grew.refl _, rfl⟩ | rfl
  simp only [Act.put, List.setIfInBounds_toArray, List.set_cons_zero, List.set_cons_succ, Nat.zero_add, Nat.reduceAdd]
  apply Facts.Lex.exact [] (.slice A m c) (by kernel_rfl)
  · intro u W hC _
    unfold Facts.one
    go_simp
    first | exact ⟨Grew.refl _, rfl⟩ | rfl | (rw [if_pos hmc]; exact ⟨Grew.refl _, rfl⟩)
  simp only [Act.put, List.setIfInBounds_toArray, List.set_cons_zero, List.set_cons_succ, Nat.zero_add, Nat.reduceAdd]
  apply Facts.Lex.exact [] (.int .u32 x1) (by kernel_rfl)
  · intro u W hC _
    unfold Facts.one
    go_simp
    first | exact ⟨Grew.refl _, rfl⟩ | rfl | (refine (H1.out W hC).mono ?_; rintro e w' ⟨rfl, hg⟩; exact ⟨_, rfl, hg, rfl⟩)
  simp only [Act.put, List.setIfInBounds_toArray, List.set_cons_zero, List.set_cons_succ, Nat.zero_add, Nat.reduceAdd]
  apply Facts.Lex.exact [] _ (by kernel_rfl)
  · intro u W hC _
    unfold Facts.one
    go_simp
    first | exact ⟨Grew.refl _, rfl⟩ | rfl
  simp only [Act.put, List.setIfInBounds_toArray, List.set_cons_zero, List.set_cons_succ, Nat.zero_add, Nat.reduceAdd]
  apply Facts.Lex.exact [] _ (by kernel_rfl)
  · intro u W hC _
    unfold Facts.one
    go_simp
    first | exact ⟨Grew.refl _, rfl⟩ | rfl
  simp only [Act.put, List.setIfInBounds_toArray, List.set_cons_zero, List.set_cons_succ, Nat.zero_add, Nat.reduceAdd]
  apply Facts.Lex.exact [] (.slice (if c = m then A else A.map (·.add m)) (l.length - m) (c - m)) (by kernel_rfl)
  · intro u W hC _
    unfold Facts.one
    go_simp
    first | exact ⟨Grew.refl _, rfl⟩ | rfl
  simp only [Act.put, List.setIfInBounds_toArray, List.set_cons_zero, List.set_cons_succ, Nat.zero_add, Nat.reduceAdd]
  apply Facts.Lex.exact [] (.int .u32 x) (by kernel_rfl)
  · intro u W hC _
    unfold Facts.one
    go_simp
    first | exact ⟨Grew.refl _, rfl⟩ | rfl | (refine (H2.out W hC).mono ?_; rintro e w' ⟨rfl, hg⟩; exact ⟨_, rfl, hg, rfl⟩)
  simp only [Act.put, List.setIfInBounds_toArray, List.set_cons_zero, List.set_cons_succ, Nat.zero_add, Nat.reduceAdd]
  apply Facts.Lex.exact [] _ (by kernel_rfl)
  · intro u W hC _
    unfold Facts.one
    go_simp
    first | exact ⟨Grew.refl _, rfl⟩ | rfl
  simp only [Act.put, List.setIfInBounds_toArray, List.set_cons_zero, List.set_cons_succ, Nat.zero_add, Nat.reduceAdd]
  apply Facts.Lex.exact [] (.int .u32 x) (by kernel_rfl)
  · intro u W hC _
    unfold Facts.one
    go_simp
    first | exact ⟨Grew.refl _, rfl⟩ | rfl | (refine (H3.out W hC).mono ?_; rintro e w' ⟨rfl, hg⟩; exact ⟨_, rfl, hg, rfl⟩)
  simp only [Act.put, List.setIfInBounds_toArray, List.set_cons_zero, List.set_cons_succ, Nat.zero_add, Nat.reduceAdd]
  apply Facts.Lex.exact [] (.bool true) (by kernel_rfl)
  · intro u W hC _
    unfold Facts.one
    go_simp
    first | exact ⟨Grew.refl _, rfl⟩ | rfl | exact ⟨Grew.refl _, by simp⟩
  simp only [Act.put, List.setIfInBounds_toArray, List.set_cons_zero, List.set_cons_succ, Nat.zero_add, Nat.reduceAdd]
  apply Facts.Lex.exact [] _ (by kernel_rfl)
  · intro u W hC _
    unfold Facts.one
    go_simp
    first | exact ⟨Grew.refl _, rfl⟩ | rfl
  simp only [Act.put, List.setIfInBounds_toArray, List.set_cons_zero, List.set_cons_succ, Nat.zero_add, Nat.reduceAdd]
  apply Facts.Lex.exact [] _ (by kernel_rfl)
  · intro u W hC _
    unfold Facts.one
    go_simp
    first | exact ⟨Grew.refl _, rfl⟩ | rfl
  simp only [Act.put, List.setIfInBounds_toArray, List.set_cons_zero, List.set_cons_succ, Nat.zero_add, Nat.reduceAdd]
  refine Facts.Lex.done fun u W3 hC hL => ?_
  clear hL
  go_wp2
  all_goals go_returns
  all_goals exact ⟨rfl, hC⟩

theorem law_any (S : Nat → Prop) (v : Value) (l : List UInt8) (n : Int) (w : World) (h : Rd S w v l) :
    Calls Try.prog 4 #[v, .int .i64 n] w fun e w' => e = .returned (.bool true) ∧ Grew w w' := by
  by_cases hn : n < 0 ∨ (l.length : Int) < n
  · exact law_out S v l n w h hn
  · obtain ⟨m, rfl⟩ := Int.eq_ofNat_of_zero_le (show 0 ≤ n by omega)
    exact law_in S v l m w h (by omega)

theorem own : ownKnob Try.prog.godebug = none := by kernel_rfl
theorem laidOut : laidOutB Try.prog = true := by kernel_rfl
theorem cells5 : Try.prog.cellsOf 5 = 1 := by kernel_rfl

set_option maxRecDepth 100000 in
theorem lifted (os : Os) (started : os.Started) (H : Type) (enc : TypeId × Value → H) :
    ReturnsInHanded {} Try.checked os 4 .any (Rows.sumGoesOnSpec.pre6 enc Try.prog Try.f4 Rows.sumGoesOnRow.domain false) (Rows.sumGoesOnSpec.post enc Try.prog Try.f4 false true false false) := by
  refine returnsInHanded_of_change_sized (C := Try.checked) own started (by kernel_rfl) Try.func4
    (ChangeSpec.witness6 (enc := enc) (C := Try.checked) false ⟨#[], #[.slice none 0 0, .int .i64 0], []⟩ 8 (by kernel_rfl) (by kernel_rfl) (by kernel_rfl) (by kernel_rfl)) ?_
  intro W base args ds gs before hval0 hW _ hsz _
  have hval : ∀ (j : Nat) t v, Try.f4.params[j]? = some t → args[j]? = some v → Value.okWide Try.prog W .any base t v := hval0
  have hW' := hW
  obtain ⟨p, q, hA0, hV, rfl, hfz, hnd⟩ := hW
  have hA : DataW.TrodAll enc Try.prog W 0 (fun _ => true) true Try.f4.params.toList args.toList ds p := hA0
  rw [Try.params4] at hA hval
  obtain ⟨v0, v1, d0, d1, p0, p1, rfl, rfl, rfl, h0, h1⟩ := trodAll_two hA
  obtain ⟨rfl, rfl⟩ := trodVars_none hV
  obtain ⟨l, hr, hl⟩ := open_bytes Try.underlying22 Try.underlying5 cells5 (hval 0 22 v0 rfl rfl) h0
  obtain ⟨n, rfl, rfl, rfl, _⟩ := open_int Try.underlying3 (hval 1 3 v1 rfl rfl) h1
  refine (law_any _ v0 l n W hr).mono fun e W' ⟨he, hg⟩ => ?_
  subst he
  exact ⟨_, rfl, law_post laidOut (by kernel_rfl) Try.underlying4 rfl (by kernel_rfl) hW' rfl hg⟩

theorem proved : Rows.SumGoesOnSaid :=
  OpenClaim.holds_of_wide 4 Try.f4 rfl rfl rfl rfl rfl rfl rfl ⟨rfl, rfl, rfl, rfl, rfl⟩ rfl rfl rfl rfl rfl (by kernel_rfl) Try.func4 (by kernel_rfl)
    (of_decide_eq_true (by kernel_rfl)) (by unfold Func.isWrapper; first | (rw [if_pos (by decide +kernel)]; kernel_rfl) | (rw [if_neg (by decide +kernel)]; exact ⟨rfl, rfl⟩))
    (fun os started H enc _ => lifted os started H enc)
end Go.Proofs.Ytoeemilmjaihcaa.Goes

namespace Go.Proofs.Ytoeemilmjaihcaa
theorem sumGoesOn_holds : Rows.SumGoesOnSaid := Goes.proved
#print axioms sumGoesOn_holds
end Go.Proofs.Ytoeemilmjaihcaa
