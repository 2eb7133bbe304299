/-
  Rows of letters, as the program keeps them.
  Conditions: those that each lemma names.
-/
import Derived.Test.YtcbaaeihppchiaaPA
namespace Go.Proofs.Ytcbaaeihppchiaa.PB
set_option maxRecDepth 100000
open Go Go.RowKit Go.Lib Go.Proofs.Ytcbaaeihppchiaa Go.Proofs.Ytcbaaeihppchiaa.Facts Go.Proofs.Ytcbaaeihppchiaa.Ints Go.Proofs.Ytcbaaeihppchiaa.PA Go.Proofs.Ytcbaaeihppchiaa.Bytes


/-- What First answers. -/
def fv (z : Int) : Value := if z = -1 then .tuple #[.int .i64 0, .int .i64 8] else .tuple #[.int .i64 z, .int .i64 0]
theorem fv_no : fv (-1) = .tuple #[.int .i64 0, .int .i64 8] := rfl
theorem fv_at (k : Nat) : fv k = .tuple #[.int .i64 k, .int .i64 0] := if_neg (by omega)

structure Ml where
  used : Bool
  lab : Int
  frm : Int
  to : Int
  text : ByteArray
deriving DecidableEq
def mcs (x : Ml) : List Value := [.bool x.used, .int .i64 x.lab, .int .i64 x.frm, .int .i64 x.to, .string x.text]
def mlv (x : Ml) : Value := .agg #[.bool x.used, .int .i64 x.lab, .int .i64 x.frm, .int .i64 x.to, .string x.text]
abbrev Mls (w : World) (v : Value) (l : List Ml) : Prop := Rw w v l.length (l.flatMap mcs)
theorem Mls_at {w : World} {v : Value} {l : List Ml} (h : Mls w v l) {k : Nat} {x : Ml} (hk : l[k]? = some x) :
    ∃ ad c, v = .slice (some ad) l.length c ∧ l.length ≤ c ∧ w.cell? (ad.add (k * 5)) = some (.bool x.used) ∧ w.cell? ⟨(ad.add (k * 5)).block, (ad.add (k * 5)).off + 1, none⟩ = some (.int .i64 x.lab) ∧ w.cell? ⟨(ad.add (k * 5)).block, (ad.add (k * 5)).off + 2, none⟩ = some (.int .i64 x.frm) ∧ w.cell? ⟨(ad.add (k * 5)).block, (ad.add (k * 5)).off + 3, none⟩ = some (.int .i64 x.to) ∧ w.cell? ⟨(ad.add (k * 5)).block, (ad.add (k * 5)).off + 4, none⟩ = some (.string x.text) := by
  obtain ⟨ad, c, e, hc, h0, h1⟩ := Rw.at (f := mcs) (n := 5) (fun _ => rfl) h hk (by decide)
  exact ⟨ad, c, e, hc, h0 _ rfl, h1 1 _ (by decide) rfl, h1 2 _ (by decide) rfl, h1 3 _ (by decide) rfl, h1 4 _ (by decide) rfl⟩
def zml : Ml := ⟨false, 0, 0, 0, ⟨#[]⟩⟩
def em (l : List Ml) (k : Nat) : Ml := l[k]?.getD zml
theorem em_get {l : List Ml} {k : Nat} (hk : k < l.length) : l[k]? = some (em l k) := by unfold em; rw [List.getElem?_eq_getElem hk]; rfl
theorem mcs_len (l : List Ml) : (l.flatMap mcs).length = l.length * 5 := flat_len mcs 5 (fun _ => rfl) l
theorem mcs_one (l : List Ml) : ∀ u ∈ l.flatMap mcs, u.oneCell' = true := flat_one mcs (fun x u hu => by
  simp only [mcs, List.mem_cons, List.not_mem_nil, or_false] at hu
  rcases hu with rfl | rfl | rfl | rfl | rfl <;> rfl) l
theorem info23 : (Try.prog.info? 23).map (fun i => (i.zero, i.size, i.bytes)) = some (some (.agg #[.bool false, .int .i64 0, .int .i64 0, .int .i64 0, .string ⟨#[]⟩]), 5, 48) := by kernel_rfl
abbrev OwnM (w : World) (base : Nat) (v : Value) (l : List Ml) : Prop := w.ownsRow base 23 5 v l.length (l.flatMap mcs)
theorem Mls.of_own {w : World} {v : Value} {l : List Ml} {base : Nat} (h : OwnM w base v l) : Mls w v l := Rw.of_own h fun h => by rw [List.eq_nil_of_length_eq_zero h]; rfl
theorem ml_app (W : World) (base : Nat) (v : Value) (l m : List Ml) (ad : Addr) (c : Nat) (hown : OwnM W base v l) (hm : ∀ j u, (m.flatMap mcs)[j]? = some u → W.cell? (ad.add j) = some u) (hl : (l.length + m.length) * 48 ≤ 140737488355328) (hb : base ≤ W.heap.size) :
    ∃ v' w', (Builtin.append_ #[24, 24] 24 #[v, .slice (some ad) m.length c]).run Try.prog W = .ok v' w' ∧ OwnM w' base v' (l ++ m) ∧ Below base W w' := by
  obtain ⟨i0, hi, hx⟩ := Option.map_eq_some_iff.1 info23
  simp only [Prod.mk.injEq] at hx
  obtain ⟨hz0, hz1, hz2⟩ := hx
  obtain ⟨v', w', hr, h5, h6, _⟩ := run_append_own (P := Try.prog) W base 24 24 23 i0 (.agg #[.bool false, .int .i64 0, .int .i64 0, .int .i64 0, .string ⟨#[]⟩]) 5 48 Try.underlying24 hi hz0 hz1 hz2 rfl (by decide) v l.length (l.flatMap mcs) hown ad m.length c (m.flatMap mcs) (mcs_len m) hm (mcs_one m) (by unfold maxLen; omega) (by omega) hb
  refine ⟨v', w', hr, by unfold OwnM; rw [List.length_append, List.flatMap_append]; exact h5, ?_⟩
  exact below_of_grown W h6 hb fun k hk => by
    rcases hown.2 with ⟨rfl, _⟩ | ⟨g, cap, cur, rfl, hg, _⟩
    · simp [Value.ownBlock] at hk
    · simp [Value.ownBlock] at hk
      omega
theorem ml_clone (w : World) (v : Value) (T : List Ml) (h : Mls w v T) (hl : T.length * 48 ≤ 140737488355328) :
    Calls Try.prog 52 #[v] w fun e w' => ∃ v', e = .returned v' ∧ OwnM w' w.heap.size v' T ∧ Grew w w' := by
  obtain ⟨A, c, rfl, h1, h2, h3, h4⟩ := h
  have q46 : ∀ (w : World) (a : Option Addr) (n c n' c' : Nat), (binOp .eql 24 (.slice a n c) (.slice none n' c')).run Try.prog w = .ok (.bool a.isNone) w := fun w a n c n' c' => Lib.run_eql_slice_nil w _ _ a n c n' c' Try.underlying24
  cases A with
  | none =>
    have h0 := h3 rfl
    have hn : T = [] := List.eq_nil_of_length_eq_zero (by omega)
    subst hn
    have HO : Hid (OwnM w w.heap.size (.slice none 0 0) []) := Lib.hid (World.ownsRow_nil w w.heap.size 23 5)
    clear h4 h3 h1 h2 h0
    go_enter Try.func52, Try.ntmps52
    go_wp2
    go_returns
    exact ⟨_, rfl, HO.out, Grew.refl _⟩
  | some ad =>
    have hown : OwnM (w.alloc (.cells #[] 23)) w.heap.size (.slice (some ⟨w.heap.size, 0, none⟩) 0 0) [] :=
      ⟨rfl, .inr ⟨w.heap.size, 0, #[], rfl, Nat.le_refl _, heap_alloc_new w _, Nat.le_refl _, Nat.zero_le _, rfl, rfl⟩⟩
    have ga : Grew w (w.alloc (.cells #[] 23)) := by unfold Grew; go_grown
    obtain ⟨v', w', hr, h5, h6⟩ := ml_app (w.alloc (.cells #[] 23)) w.heap.size _ [] T ad c hown (fun j u hu => cellG ga (h4 ad rfl j u hu)) (by simpa using hl) (by simp)
    rw [List.nil_append] at h5
    have HR := Lib.hid hr
    have HO := Lib.hid h5
    have HG : Hid (Grew w w') := Lib.hid ((show Below w.heap.size w _ from ga).trans h6)
    clear hown ga hr h5 h6 h4 h3
    go_enter Try.func52, Try.ntmps52
    go_wp2_with (at_builtin; refine wpList_app_want (.tmp 5) (.tmp 6) 24 (by rfl) (by rfl) _ _ rfl rfl v' w' (by exact HR.out) ?_)
    go_returns
    exact ⟨_, rfl, HO.out, HG.out⟩

theorem mcs_set (x : Ml) : ∀ (T : List Ml) (k : Nat), ((((((T.flatMap mcs).set (k * 5) (.bool x.used)).set (k * 5 + 1) (.int .i64 x.lab)).set (k * 5 + 2) (.int .i64 x.frm)).set (k * 5 + 3) (.int .i64 x.to)).set (k * 5 + 4) (.string x.text)) = (T.set k x).flatMap mcs
  | [], k => by simp
  | y :: T, 0 => by
    simp only [List.flatMap_cons, List.set_cons_zero]
    rfl
  | y :: T, k + 1 => by
    have ih := mcs_set x T k
    have e : (y :: T).flatMap mcs = .bool y.used :: .int .i64 y.lab :: .int .i64 y.frm :: .int .i64 y.to :: .string y.text :: T.flatMap mcs := rfl
    rw [e, show (k + 1) * 5 = k * 5 + 1 + 1 + 1 + 1 + 1 by omega]
    simp only [show ∀ j : Nat, k * 5 + 1 + 1 + 1 + 1 + 1 + j = (k * 5 + j) + 1 + 1 + 1 + 1 + 1 from fun j => by omega, List.set_cons_succ]
    rw [ih]
    rfl
theorem ml_cells {W : World} {B : Nat} {x : Ml} (h : W.heap[B]? = some (.cells #[.bool x.used, .int .i64 x.lab, .int .i64 x.frm, .int .i64 x.to, .string x.text] 23 (0, 0))) :
    W.cell? ⟨B, 0, none⟩ = some (.bool x.used) ∧ W.cell? ⟨B, 1, none⟩ = some (.int .i64 x.lab) ∧ W.cell? ⟨B, 2, none⟩ = some (.int .i64 x.frm) ∧ W.cell? ⟨B, 3, none⟩ = some (.int .i64 x.to) ∧ W.cell? ⟨B, 4, none⟩ = some (.string x.text) := by
  refine ⟨?_, ?_, ?_, ?_, ?_⟩
  all_goals rw [cell_of_row _ _ _ _ _ _ h]; rfl

theorem ml_used (x : Ml) (w : World) : Calls Try.prog 48 #[mlv x] w fun e w' => e = .returned (.bool ((fun x : Ml => x.used) x)) ∧ Grew w w' := by
  unfold mlv
  go_enter Try.func48, Try.ntmps48
  go_wp2
  go_returns
  exact ⟨rfl, by unfold Grew; go_grown⟩

def RowM (w : World) (b : Nat) (T : List Ml) : Prop := ∃ sv, w.heap[b]? = some (.cells #[sv, .func (.func 48) #[] #[]] 81 (0, 0)) ∧ Mls w sv T
theorem RowM.grew {w w' : World} {b : Nat} {T : List Ml} (h : RowM w b T) (hg : Grew w w') : RowM w' b T := by
  obtain ⟨sv, h1, h2⟩ := h
  exact ⟨sv, blk_keep h1 hg, h2.grew hg⟩
theorem ml_made (w : World) (b : Nat) (sv : Value) (h : w.heap[b]? = some (.cells #[sv, .func (.func 48) #[] #[]] 81 (0, 0))) :
    Calls Try.prog 51 #[.pointer (some ⟨b, 0, none⟩)] w fun e w' => e = .returned (.bool true) ∧ w' = w := by
  obtain ⟨c0, c1⟩ := two_c h
  clear h
  have hrun : ∀ w : World, (binOp BinOp.neq 54 (.func (.func 48) #[] #[]) .nilFunc).run Try.prog w = .ok (.bool true) w := fun _ => by kernel_rfl
  go_enter Try.func51, Try.ntmps51
  go_wp2
  go_returns
  exact ⟨rfl, rfl⟩
theorem ml_of (w : World) (v : Value) (T : List Ml) (h : Mls w v T) (hl : T.length * 48 ≤ 140737488355328) :
    Calls Try.prog 47 #[v, .func (.func 48) #[] #[]] w fun e w' => ∃ b, e = .returned (.pointer (some ⟨b, 0, none⟩)) ∧ RowM w' b T ∧ Grew w w' := by
  have HC := Lib.hid (ml_clone w v T h hl)
  obtain ⟨A, c, rfl, _⟩ := h
  clear hl
  have hrun : ∀ w : World, (binOp BinOp.eql 54 (.func (.func 48) #[] #[]) .nilFunc).run Try.prog w = .ok (.bool false) w := fun _ => by kernel_rfl
  go_enter Try.func47, Try.ntmps47
  go_wp2_with fail
  refine HC.out.mono ?_
  rintro e w1 ⟨v', rfl, hown, hg⟩
  have HI := Lib.hid (Mls.of_own hown)
  have HG := Lib.hid hg
  obtain ⟨A', c', rfl, _⟩ := id HI.out
  clear hown hg
  have HR : Hid (RowM (w1.alloc (.cells #[.slice A' T.length c', .func (.func 48) #[] #[]] 81)) w1.heap.size T ∧ Grew w (w1.alloc (.cells #[.slice A' T.length c', .func (.func 48) #[] #[]] 81))) := by
    have ga : Grew w1 (w1.alloc (.cells #[.slice A' T.length c', .func (.func 48) #[] #[]] 81)) := by unfold Grew; go_grown
    exact Lib.hid ⟨⟨_, blk_new w1 _, HI.out.grew ga⟩, HG.out.trans ga⟩
  go_wp2
  go_returns
  exact ⟨_, rfl, HR.out.1, HR.out.2⟩
theorem ml_row (w : World) (v : Value) (T : List Ml) (h : Mls w v T) (hl : T.length * 48 ≤ 140737488355328) :
    Calls Try.prog 22 #[v] w fun e w' => ∃ b, e = .returned (.pointer (some ⟨b, 0, none⟩)) ∧ RowM w' b T ∧ Grew w w' := by
  have HC := Lib.hid (ml_of w v T h hl)
  obtain ⟨A, c, rfl, _⟩ := h
  clear hl
  go_enter Try.func22, Try.ntmps22
  go_wp2_with fail
  refine HC.out.mono ?_
  rintro e w1 ⟨b, rfl, hr, hg⟩
  have HR := Lib.hid hr
  have HG := Lib.hid hg
  clear hr hg
  go_wp2
  go_returns
  exact ⟨_, rfl, HR.out, HG.out⟩

theorem ml_in (w : World) (b : Nat) (T : List Ml) (k : Nat) (h : RowM w b T) (hk : k < T.length) :
    Calls Try.prog 25 #[.pointer (some ⟨b, 0, none⟩), .int .i64 k] w fun e w' => e = .returned (.bool ((fun x : Ml => x.used) (em T k))) ∧ Grew w w' := by
  obtain ⟨sv, h1, h2⟩ := h
  have HB := Lib.hid h1
  obtain ⟨c0, c1⟩ := two_c h1
  have hx := em_get hk
  obtain ⟨ad, c, rfl, hc, d0, d1, d2, d3, d4⟩ := Mls_at h2 hx
  have HU := Lib.hid (fun W (_ : Grew w W) => ml_used (em T k) W)
  clear h1 h2 hx
  have hk' : (k : Int) < (T.length : Int) := by omega
  unfold mlv at HU
  generalize em T k = x at *
  generalize hp : (fun x : Ml => x.used) x = p at *
  clear hp
  go_enter Try.func25, Try.ntmps25
  go_wp2
  refine Facts.wp_region_text (by kernel_rfl) (by kernel_rfl) ?_
  apply Facts.Lex.exact [] _ (by kernel_rfl)
  · intro u W hC _
    have j0 := cellG hC c0
    have j1 := cellG hC c1
    unfold Facts.one
    go_simp
    first | exact ⟨Grew.refl _, rfl⟩ | rfl
  simp only [Act.put, List.setIfInBounds_toArray, List.set_cons_zero, List.set_cons_succ, Nat.zero_add, Nat.reduceAdd]
  apply Facts.Lex.exact [] _ (by kernel_rfl)
  · intro u W hC _
    have j0 := cellG hC c0
    have j1 := cellG hC c1
    unfold Facts.one
    go_simp
    exact ((ml_made W b _ (blk_keep HB.out hC)).mono fun e w' ⟨he, hw⟩ => ⟨_, he, by rw [hw]; exact Grew.refl _, rfl⟩)
  simp only [Act.put, List.setIfInBounds_toArray, List.set_cons_zero, List.set_cons_succ, Nat.zero_add, Nat.reduceAdd]
  repeat
    apply Facts.Lex.exact [] _ (by kernel_rfl)
    · intro u W hC _
      have j0 := cellG hC c0
      have j1 := cellG hC c1
      have e0 := cellG hC d0
      have e1 := cellG hC d1
      have e2 := cellG hC d2
      have e3 := cellG hC d3
      have e4 := cellG hC d4
      unfold Facts.one
      go_simp
      first | exact ⟨Grew.refl _, rfl⟩ | rfl
    simp only [Act.put, List.setIfInBounds_toArray, List.set_cons_zero, List.set_cons_succ, Nat.zero_add, Nat.reduceAdd]

  apply Facts.Lex.exact [] _ (by kernel_rfl)
  · intro u W hC _
    have j0 := cellG hC c0
    have j1 := cellG hC c1
    unfold Facts.one
    go_simp
    exact ((HU.out W hC).mono fun e w' ⟨he, hg⟩ => ⟨_, he, hg, rfl⟩)
  simp only [Act.put, List.setIfInBounds_toArray, List.set_cons_zero, List.set_cons_succ, Nat.zero_add, Nat.reduceAdd]
  repeat
    apply Facts.Lex.exact [] _ (by kernel_rfl)
    · intro u W hC _
      have j0 := cellG hC c0
      have j1 := cellG hC c1
      unfold Facts.one
      go_simp
      first | exact ⟨Grew.refl _, rfl⟩ | rfl
    simp only [Act.put, List.setIfInBounds_toArray, List.set_cons_zero, List.set_cons_succ, Nat.zero_add, Nat.reduceAdd]

  refine Facts.Lex.done fun u W2 hC hL => ?_
  have G2 := Lib.hid hC
  clear hC hL
  go_wp2
  go_returns
  exact ⟨rfl, G2.out⟩

theorem ml_out (w : World) (b : Nat) (T : List Ml) (i : Int) (h : RowM w b T) (hi : ¬ (0 ≤ i ∧ i < T.length)) :
    Calls Try.prog 25 #[.pointer (some ⟨b, 0, none⟩), .int .i64 i] w fun e w' => e = .returned (.bool false) ∧ Grew w w' := by
  obtain ⟨sv, h1, h2⟩ := h
  have HB := Lib.hid h1
  obtain ⟨c0, c1⟩ := two_c h1
  obtain ⟨A, c, rfl, _⟩ := h2
  clear h1
  by_cases h0 : 0 ≤ i
  · have hi' : decide (i < (T.length : Int)) = false := decide_eq_false (by omega)
    go_enter Try.func25, Try.ntmps25
    go_wp2
    refine Facts.wp_region_text (by kernel_rfl) (by kernel_rfl) ?_
    apply Facts.Lex.exact [] _ (by kernel_rfl)
    · intro u W hC _
      have j0 := cellG hC c0
      have j1 := cellG hC c1
      unfold Facts.one
      go_simp
      first | exact ⟨Grew.refl _, rfl⟩ | rfl
    simp only [Act.put, List.setIfInBounds_toArray, List.set_cons_zero, List.set_cons_succ, Nat.zero_add, Nat.reduceAdd]
    apply Facts.Lex.exact [] _ (by kernel_rfl)
    · intro u W hC _
      have j0 := cellG hC c0
      have j1 := cellG hC c1
      unfold Facts.one
      go_simp
      exact ((ml_made W b _ (blk_keep HB.out hC)).mono fun e w' ⟨he, hw⟩ => ⟨_, he, by rw [hw]; exact Grew.refl _, rfl⟩)
    simp only [Act.put, List.setIfInBounds_toArray, List.set_cons_zero, List.set_cons_succ, Nat.zero_add, Nat.reduceAdd]
    repeat
      apply Facts.Lex.exact [] _ (by kernel_rfl)
      · intro u W hC _
        have j0 := cellG hC c0
        have j1 := cellG hC c1
        unfold Facts.one
        go_simp
        first | exact ⟨Grew.refl _, rfl⟩ | rfl
      simp only [Act.put, List.setIfInBounds_toArray, List.set_cons_zero, List.set_cons_succ, Nat.zero_add, Nat.reduceAdd]

    refine Facts.Lex.done fun u W2 hC hL => ?_
    have G2 := Lib.hid hC
    clear hC hL
    go_wp2
    go_returns
    exact ⟨rfl, G2.out⟩

  · have h0' : decide (0 ≤ i) = false := decide_eq_false h0
    go_enter Try.func25, Try.ntmps25
    go_wp2
    refine Facts.wp_region_text (by kernel_rfl) (by kernel_rfl) ?_
    apply Facts.Lex.exact [] _ (by kernel_rfl)
    · intro u W hC _
      have j0 := cellG hC c0
      have j1 := cellG hC c1
      unfold Facts.one
      go_simp
      first | exact ⟨Grew.refl _, rfl⟩ | rfl
    simp only [Act.put, List.setIfInBounds_toArray, List.set_cons_zero, List.set_cons_succ, Nat.zero_add, Nat.reduceAdd]
    apply Facts.Lex.exact [] _ (by kernel_rfl)
    · intro u W hC _
      have j0 := cellG hC c0
      have j1 := cellG hC c1
      unfold Facts.one
      go_simp
      exact ((ml_made W b _ (blk_keep HB.out hC)).mono fun e w' ⟨he, hw⟩ => ⟨_, he, by rw [hw]; exact Grew.refl _, rfl⟩)
    simp only [Act.put, List.setIfInBounds_toArray, List.set_cons_zero, List.set_cons_succ, Nat.zero_add, Nat.reduceAdd]
    repeat
      apply Facts.Lex.exact [] _ (by kernel_rfl)
      · intro u W hC _
        have j0 := cellG hC c0
        have j1 := cellG hC c1
        unfold Facts.one
        go_simp
        first | exact ⟨Grew.refl _, rfl⟩ | rfl
      simp only [Act.put, List.setIfInBounds_toArray, List.set_cons_zero, List.set_cons_succ, Nat.zero_add, Nat.reduceAdd]

    refine Facts.Lex.done fun u W2 hC hL => ?_
    have G2 := Lib.hid hC
    clear hC hL
    go_wp2
    go_returns
    exact ⟨rfl, G2.out⟩

theorem ml_has (w : World) (b : Nat) (T : List Ml) (i : Int) (h : RowM w b T) :
    Calls Try.prog 25 #[.pointer (some ⟨b, 0, none⟩), .int .i64 i] w fun e w' => e = .returned (.bool (hasG zml (fun x : Ml => x.used) T i)) ∧ Grew w w' := by
  by_cases hi : 0 ≤ i ∧ i < T.length
  · obtain ⟨k, rfl⟩ := Int.eq_ofNat_of_zero_le hi.1
    rw [hasG_in _ _ _ _ (by omega)]
    exact ml_in w b T k h (by omega)
  · rw [hasG_out _ _ _ _ hi]
    exact ml_out w b T i h hi

theorem ml_slots (w : World) (b : Nat) (T : List Ml) (h : RowM w b T) (hl : T.length * 48 ≤ 140737488355328) :
    Calls Try.prog 30 #[.pointer (some ⟨b, 0, none⟩)] w fun e w' => ∃ v', e = .returned v' ∧ w'.ownsRow w.heap.size 3 1 v' (uptoG zml (fun x : Ml => x.used) T T.length).length (iv (uptoG zml (fun x : Ml => x.used) T T.length)) ∧ Grew w w' := by
  have HR := Lib.hid h
  obtain ⟨sv, h1, h2⟩ := h
  have HM := Lib.hid (ml_made w b sv h1)
  obtain ⟨c0, c1⟩ := two_c h1
  obtain ⟨A, c, rfl, hlc, hcm, _⟩ := h2
  have HL := Lib.hid hl
  clear h1 hl
  unfold maxLen at hcm
  go_enter Try.func30, Try.ntmps30
  go_wp2_with fail
  refine HM.out.mono ?_
  rintro e w' ⟨rfl, hw⟩
  subst hw
  go_wp2
  clear c0 c1
  go_loopg [3, 13] T.length (fun g s3 s13 wx => ∃ (k : Nat) (v3 : Value), k + g = T.length ∧ v3 = s3 ∧ s13 = .int .i64 k ∧ Hid (wx.ownsRow w'.heap.size 3 1 s3 (uptoG zml (fun x : Ml => x.used) T k).length (iv (uptoG zml (fun x : Ml => x.used) T k))) ∧ Hid (Grew w' wx))
  case atStart => exact ⟨0, _, by omega, rfl, rfl, Lib.hid (own_nil _ _), Lib.hid (Grew.refl _)⟩
  case round =>
    obtain ⟨k, v3, hkg, rfl, rfl, HI, HG⟩ := hrel
    cases gk with
    | zero =>
      have hkz : ¬ ((k : Int) < (T.length : Int)) := by omega
      have HE := HI
      rw [show k = T.length by omega] at HE
      go_wp2
      go_returns
      exact ⟨_, rfl, HE.out, HG.out⟩
    | succ g =>
      have hkz : (k : Int) < (T.length : Int) := by omega
      have HC := Lib.hid (ml_in wr b T k (HR.out.grew HG.out) (by omega))
      have HY := Lib.hid (uptoG_yes zml (fun x : Ml => x.used) T k)
      have HN := Lib.hid (uptoG_no zml (fun x : Ml => x.used) T k)
      rw [show T[k]?.getD zml = em T k from rfl] at HY HN
      have hul := uptoG_len zml (fun x : Ml => x.used) T k
      have hw1 := wr1b (show k < T.length by omega) (by have := HL.out; omega)
      have HW1 := Lib.hid hw1
      have HSZ : Hid (((uptoG zml (fun x : Ml => x.used) T k).length + 1) * 8 ≤ 140737488355328) := Lib.hid (by have := HL.out; omega)
      clear hw1 hul
      obtain ⟨t, ht⟩ : ∃ t, (fun x : Ml => x.used) (em T k) = t := ⟨_, rfl⟩
      try simp only at ht
      try simp only at HC
      rw [ht] at HC
      have HT := Lib.hid ht
      clear ht
      cases t with
      | true =>
        have HE := Lib.hid (HY.out HT.out)
        go_wp2_with fail
        refine HC.out.mono ?_
        rintro e w2 ⟨rfl, hg⟩
        have HG2 := Lib.hid (HG.out.trans hg)
        obtain ⟨v', w3, hr, hown, hb⟩ := app_one w2 w'.heap.size v3 (uptoG zml (fun x : Ml => x.used) T k) (k : Int) (own_grew HI.out hg) HSZ.out HG2.out.size
        have HAPP := Lib.hid hr
        have HO := Lib.hid hown
        have HG3 : Hid (Grew w' w3) := Lib.hid ((show Below w'.heap.size w' w2 from HG2.out).trans hb)
        clear hg hr hown hb
        go_wp2_with (at_builtin; refine wpList_app_want (.tmp 19) (.tmp 21) 25 (by rfl) (by rfl) _ _ rfl rfl v' w3 (by exact HAPP.out) ?_)
        go_roundg g
        case measure => omega
        case rel =>
          refine ⟨k + 1, _, by omega, rfl, by first | rfl | (simp; done) | rw [HW1.out], ?_, HG3⟩
          rw [HE.out]
          exact HO
      | false =>
        have HE := Lib.hid (HN.out HT.out)
        go_wp2_with fail
        refine HC.out.mono ?_
        rintro e w2 ⟨rfl, hg⟩
        have HG2 := Lib.hid (HG.out.trans hg)
        have HO := Lib.hid (own_grew HI.out hg)
        clear hg
        go_wp2
        go_roundg g
        case measure => omega
        case rel =>
          refine ⟨k + 1, _, by omega, rfl, by first | rfl | (simp; done) | rw [HW1.out], ?_, HG2⟩
          rw [HE.out]
          exact HO
set_option maxHeartbeats 1000000 in
theorem ml_put (w : World) (b : Nat) (T : List Ml) (k : Nat) (x : Ml) (h : RowM w b T) (hk : k < T.length) (hl : T.length * 48 ≤ 140737488355328) :
    Calls Try.prog 26 #[.pointer (some ⟨b, 0, none⟩), .int .i64 k, mlv x] w fun e w' => ∃ v', e = .returned (.tuple #[v', .int .i64 0]) ∧ Mls w' v' (T.set k x) ∧ Grew w w' := by
  have hi6 : mlv x = .agg #[.bool x.used, .int .i64 x.lab, .int .i64 x.frm, .int .i64 x.to, .string x.text] := rfl
  rw [hi6]
  clear hi6
  have ga : Grew w (w.alloc (.cells #[.bool x.used, .int .i64 x.lab, .int .i64 x.frm, .int .i64 x.to, .string x.text] 23)) := by unfold Grew; go_grown
  have hbx : (w.alloc (.cells #[.bool x.used, .int .i64 x.lab, .int .i64 x.frm, .int .i64 x.to, .string x.text] 23)).heap[w.heap.size]? = some (.cells #[.bool x.used, .int .i64 x.lab, .int .i64 x.frm, .int .i64 x.to, .string x.text] 23 (0, 0)) := blk_new w _
  obtain ⟨sv, h1, h2⟩ := h.grew ga
  have HM := Lib.hid (ml_made _ b sv h1)
  have HC := Lib.hid (ml_clone _ sv T h2 hl)
  obtain ⟨c0, c1⟩ := two_c h1
  obtain ⟨A, c, rfl, hlc, hcm, _⟩ := h2
  have HGA := Lib.hid ga
  have HBX := Lib.hid hbx
  clear h1 h ga hbx
  unfold maxLen at hcm
  have hk0 : ¬ ((k : Int) < 0) := by omega
  have hk1 : ¬ ((T.length : Int) ≤ k) := by omega
  go_enter Try.func26, Try.ntmps26
  go_wp2_with fail
  refine HM.out.mono ?_
  rintro e w' ⟨rfl, hw⟩
  subst hw
  go_wp2_with fail
  refine HC.out.mono ?_
  rintro e w1 ⟨v', rfl, hown, hg⟩
  obtain ⟨x0, x1, x2, x3, x4⟩ := ml_cells (blk_keep HBX.out hg)
  obtain ⟨g, cap, rfl, hbg, hgl⟩ := hown.form (by omega)
  have r0 := hown.cellAt (k * 5 + 0) (by omega)
  rw [flat_get mcs 5 (fun _ => rfl) T k 0 (em T k) (em_get hk) (by decide)] at r0
  have f0 := hown.frozenAt (k * 5 + 0)
  have r1 := hown.cellAt (k * 5 + 1) (by omega)
  rw [flat_get mcs 5 (fun _ => rfl) T k 1 (em T k) (em_get hk) (by decide)] at r1
  have f1 := hown.frozenAt (k * 5 + 1)
  have r2 := hown.cellAt (k * 5 + 2) (by omega)
  rw [flat_get mcs 5 (fun _ => rfl) T k 2 (em T k) (em_get hk) (by decide)] at r2
  have f2 := hown.frozenAt (k * 5 + 2)
  have r3 := hown.cellAt (k * 5 + 3) (by omega)
  rw [flat_get mcs 5 (fun _ => rfl) T k 3 (em T k) (em_get hk) (by decide)] at r3
  have f3 := hown.frozenAt (k * 5 + 3)
  have r4 := hown.cellAt (k * 5 + 4) (by omega)
  rw [flat_get mcs 5 (fun _ => rfl) T k 4 (em T k) (em_get hk) (by decide)] at r4
  have f4 := hown.frozenAt (k * 5 + 4)
  obtain ⟨s0, _⟩ := hown.stored (k * 5) (.bool x.used)
  obtain ⟨s1, _⟩ := s0.stored (k * 5 + 1) (.int .i64 x.lab)
  obtain ⟨s2, _⟩ := s1.stored (k * 5 + 2) (.int .i64 x.frm)
  obtain ⟨s3, _⟩ := s2.stored (k * 5 + 3) (.int .i64 x.to)
  obtain ⟨s4, _⟩ := s3.stored (k * 5 + 4) (.string x.text)
  rw [mcs_set] at s4
  have HS := Lib.hid s4
  have hgw : w.heap.size ≤ g := by rw [World.size_alloc] at hbg; omega
  have HG : Hid (Below w.heap.size w (((((w1.setCell ⟨g, k * 5, none⟩ (.bool x.used)).setCell ⟨g, k * 5 + 1, none⟩ (.int .i64 x.lab)).setCell ⟨g, k * 5 + 2, none⟩ (.int .i64 x.frm)).setCell ⟨g, k * 5 + 3, none⟩ (.int .i64 x.to)).setCell ⟨g, k * 5 + 4, none⟩ (.string x.text))) := Lib.hid (by
    exact ((((((show Below w.heap.size w w1 from HGA.out.trans hg).setCell (p := ⟨g, k * 5, none⟩) hgw _).setCell (p := ⟨g, k * 5 + 1, none⟩) hgw _).setCell (p := ⟨g, k * 5 + 2, none⟩) hgw _).setCell (p := ⟨g, k * 5 + 3, none⟩) hgw _).setCell (p := ⟨g, k * 5 + 4, none⟩) hgw _))
  clear hown s0 s1 s2 s3 s4 hg c0 c1 hgw
  simp only [mcs, List.getElem?_cons_zero, List.getElem?_cons_succ, Nat.add_zero] at r0 r1 r2 r3 r4 f0
  generalize em T k = y at *
  go_wp2
  go_returns
  refine ⟨_, rfl, ?_, HG.out⟩
  show Rw _ _ (T.set k x).length _
  rw [List.length_set]
  exact Rw.of_own HS.out (fun h0 => absurd hk (by omega))
/-- The first slot that is free. -/
def mlfree (l : List Ml) : Int := fidx l fun x => !x.used
theorem ml_freec (l : List Ml) : mlfree l = -1 ∨ ∃ k : Nat, mlfree l = k ∧ k < l.length := by
  rcases fidx_cases l (fun x => !x.used) with ⟨h, _⟩ | ⟨k, hk, h, _⟩
  · exact .inl h
  · exact .inr ⟨k, h, hk⟩
theorem ml_first (w : World) (b : Nat) (T : List Ml) (h : RowM w b T) (hl : T.length * 48 ≤ 140737488355328) :
    Calls Try.prog 49 #[.pointer (some ⟨b, 0, none⟩)] w fun e w' => e = .returned (fv (mlfree T)) ∧ Grew w w' := by
  have HR := Lib.hid h
  obtain ⟨sv, h1, h2⟩ := h
  have HM := Lib.hid (ml_made w b sv h1)
  obtain ⟨c0, c1⟩ := two_c h1
  obtain ⟨A, c, rfl, hlc, hcm, _⟩ := h2
  clear h1
  have HH := Lib.hid (fun k x => @fidx_hit Ml T (fun x => !x.used) k x)
  have HN := Lib.hid (@fidx_miss Ml T (fun x => !x.used))
  unfold mlfree
  generalize fidx T (fun x => !x.used) = res at *
  unfold maxLen at hcm
  go_enter Try.func49, Try.ntmps49
  go_wp2_with fail
  refine HM.out.mono ?_
  rintro e w' ⟨rfl, hw⟩
  subst hw
  go_wp2
  clear c0 c1
  go_loopg [13] T.length (fun g s13 wx => ∃ k : Nat, k + g = T.length ∧ s13 = .int .i64 k ∧ Hid (∀ j y, j < k → T[j]? = some y → (!y.used) = false) ∧ Hid (Grew w' wx))
  case atStart => exact ⟨0, by omega, rfl, Lib.hid (fun j y h => absurd h (by omega)), Lib.hid (Grew.refl _)⟩
  case round =>
    obtain ⟨k, hkg, rfl, HJ, HG⟩ := hrel
    cases gk with
    | zero =>
      have hkz : ¬ ((k : Int) < (T.length : Int)) := by omega
      have HE : Hid (res = -1) := Lib.hid (HN.out fun j y hy => HJ.out j y (by have := (List.getElem?_eq_some_iff.1 hy).1; omega) hy)
      go_wp2
      go_returns
      refine ⟨?_, HG.out⟩
      rw [HE.out, fv_no]
      rfl
    | succ g =>
      have hkz : (k : Int) < (T.length : Int) := by omega
      have hkl : k < T.length := by omega
      have hx := em_get hkl
      have HX := Lib.hid hx
      have HC := Lib.hid (ml_in wr b T k (HR.out.grew HG.out) hkl)
      have hkw := wr1b hkl (by omega : T.length ≤ 4611686018427387904)
      generalize em T k = x at HX HC
      clear hx
      simp only at HC
      cases hu : x.used with
      | false =>
        rw [hu] at HC
        have HE : Hid (res = k) := Lib.hid (HH.out _ _ HX.out (by rw [hu]; rfl) HJ.out)
        clear HX hu
        go_wp2_with fail
        refine HC.out.mono ?_
        rintro e w2 ⟨rfl, hg⟩
        have G2 := Lib.hid (HG.out.trans hg)
        clear hg
        go_wp2
        go_returns
        refine ⟨?_, G2.out⟩
        rw [HE.out, fv_at]
        rfl
      | true =>
        rw [hu] at HC
        have HN2 : Hid (∀ j y, j < k + 1 → T[j]? = some y → (!y.used) = false) := Lib.hid fun j y hj hy => by
          by_cases hjk : j = k
          · subst hjk
            rw [HX.out] at hy
            cases hy
            rw [hu]
            rfl
          · exact HJ.out j y (by omega) hy
        clear HX hu
        go_wp2_with fail
        refine HC.out.mono ?_
        rintro e w2 ⟨rfl, hg⟩
        have G2 := Lib.hid (HG.out.trans hg)
        clear hg
        go_wp2
        go_roundg g
        case measure => omega
        case rel => exact ⟨k + 1, by omega, by simp [hkw], HN2, G2⟩
theorem ml_add (w : World) (b : Nat) (T : List Ml) (x : Ml) (h : RowM w b T) (hl : T.length * 48 ≤ 140737488355328) :
    Calls Try.prog 23 #[.pointer (some ⟨b, 0, none⟩), mlv x] w fun e w' => ∃ v', e = .returned (.tuple #[v', .int .i64 (if mlfree T = -1 then 0 else mlfree T), .int .i64 (if mlfree T = -1 then 8 else 0)]) ∧ Mls w' v' (if mlfree T = -1 then [] else T.set (mlfree T).toNat x) ∧ Grew w w' := by
  have hi6 : mlv x = .agg #[.bool x.used, .int .i64 x.lab, .int .i64 x.frm, .int .i64 x.to, .string x.text] := rfl
  have HPUT := Lib.hid (fun W k (hr : RowM W b T) hk => ml_put W b T k x hr hk hl)
  rw [hi6] at HPUT
  rw [hi6]
  clear hi6
  have ga : Grew w (w.alloc (.cells #[.bool x.used, .int .i64 x.lab, .int .i64 x.frm, .int .i64 x.to, .string x.text] 23)) := by unfold Grew; go_grown
  have hbx : (w.alloc (.cells #[.bool x.used, .int .i64 x.lab, .int .i64 x.frm, .int .i64 x.to, .string x.text] 23)).heap[w.heap.size]? = some (.cells #[.bool x.used, .int .i64 x.lab, .int .i64 x.frm, .int .i64 x.to, .string x.text] 23 (0, 0)) := blk_new w _
  have HF := Lib.hid (ml_first _ b T (h.grew ga) hl)
  have HR := Lib.hid (h.grew ga)
  have GA := Lib.hid ga
  have BX := Lib.hid hbx
  clear h ga hbx
  rcases ml_freec T with e | ⟨k, e, hk⟩
  · rw [e, fv_no] at HF
    rw [e]
    simp only [if_true]
    clear e HPUT
    go_enter Try.func23, Try.ntmps23
    go_wp2_with fail
    refine HF.out.mono ?_
    rintro e w1 ⟨rfl, hg⟩
    have G1 := Lib.hid (GA.out.trans hg)
    clear hg
    go_wp2
    go_returns
    exact ⟨_, rfl, rw_none _, G1.out⟩
  · have hkn : ¬ (k : Int) = -1 := by omega
    rw [e, fv_at] at HF
    rw [e]
    rw [if_neg hkn, if_neg hkn, if_neg hkn, Int.toNat_natCast]
    have HPK := Lib.hid (fun W hr => HPUT.out W k hr hk)
    clear e hkn hk HPUT
    generalize T.set k x = R at *
    go_enter Try.func23, Try.ntmps23
    go_wp2_with fail
    refine HF.out.mono ?_
    rintro e w1 ⟨rfl, hg⟩
    have G1 := Lib.hid (GA.out.trans hg)
    have HP := Lib.hid (HPK.out w1 (HR.out.grew hg))
    obtain ⟨x0, x1, x2, x3, x4⟩ := ml_cells (blk_keep BX.out hg)
    clear hg
    go_wp2_with fail
    refine HP.out.mono ?_
    rintro e w2 ⟨v', rfl, hi, hg⟩
    have G2 := Lib.hid (G1.out.trans hg)
    have HI := Lib.hid hi
    obtain ⟨A, c, rfl, _⟩ := hi.slice
    clear hi hg x0 x1 x2 x3 x4
    go_wp2
    go_returns
    exact ⟨_, rfl, HI.out, G2.out⟩

theorem mlt_used (x : Ml) (C : Nat) (n : Int) (w : World) (hC : w.heap[C]? = some (.cells #[.int .i64 n] 3 (0, 0))) : Calls Try.prog 50 #[mlv x, .pointer (some ⟨C, 0, none⟩)] w fun e w' => e = .returned (.bool ((fun x : Ml => x.used && decide (x.to = n)) x)) ∧ Grew w w' := by
  obtain ⟨u, lab, frm, to, text⟩ := x
  unfold mlv
  simp only
  have g0 : Grew w (w.alloc (.cells #[.bool u, .int .i64 lab, .int .i64 frm, .int .i64 to, .string text] 23)) := by unfold Grew; go_grown
  have c0 := cellG g0 (one_cell hC)
  have G0 := Lib.hid g0
  clear hC g0
  cases u with
  | false =>
    go_enter Try.func50, Try.ntmps50
    go_wp2
    go_returns
    exact ⟨by simp, G0.out⟩
  | true =>
    by_cases h : to = n
    · subst h
      go_enter Try.func50, Try.ntmps50
      go_wp2
      go_returns
      exact ⟨by simp, G0.out⟩
    · have h' : (to == n) = false := by simpa using h
      rw [decide_eq_false h]
      clear h
      go_enter Try.func50, Try.ntmps50
      go_wp2
      go_returns
      exact ⟨by simp, G0.out⟩

def RowMt (w : World) (b : Nat) (C : Nat) (n : Int) (T : List Ml) : Prop := ∃ sv, w.heap[b]? = some (.cells #[sv, .func (.func 50) #[] #[.pointer (some ⟨C, 0, none⟩)]] 81 (0, 0)) ∧ Mls w sv T ∧ w.heap[C]? = some (.cells #[.int .i64 n] 3 (0, 0))
theorem RowMt.grew {w w' : World} {b : Nat} {C : Nat} {n : Int} {T : List Ml} (h : RowMt w b C n T) (hg : Grew w w') : RowMt w' b C n T := by
  obtain ⟨sv, h1, h2, h3⟩ := h
  exact ⟨sv, blk_keep h1 hg, h2.grew hg, blk_keep h3 hg⟩
theorem mlt_made (w : World) (b : Nat) (C : Nat) (n : Int) (sv : Value) (h : w.heap[b]? = some (.cells #[sv, .func (.func 50) #[] #[.pointer (some ⟨C, 0, none⟩)]] 81 (0, 0))) :
    Calls Try.prog 51 #[.pointer (some ⟨b, 0, none⟩)] w fun e w' => e = .returned (.bool true) ∧ w' = w := by
  obtain ⟨c0, c1⟩ := two_c h
  clear h
  have hrun : ∀ w : World, (binOp BinOp.neq 54 (.func (.func 50) #[] #[.pointer (some ⟨C, 0, none⟩)]) .nilFunc).run Try.prog w = .ok (.bool true) w := fun _ => by kernel_rfl
  go_enter Try.func51, Try.ntmps51
  go_wp2
  go_returns
  exact ⟨rfl, rfl⟩
theorem mlt_of (w : World) (v : Value) (C : Nat) (n : Int) (T : List Ml) (h : Mls w v T) (hC : w.heap[C]? = some (.cells #[.int .i64 n] 3 (0, 0))) (hl : T.length * 48 ≤ 140737488355328) :
    Calls Try.prog 47 #[v, .func (.func 50) #[] #[.pointer (some ⟨C, 0, none⟩)]] w fun e w' => ∃ b, e = .returned (.pointer (some ⟨b, 0, none⟩)) ∧ RowMt w' b C n T ∧ Grew w w' := by
  have HC := Lib.hid (ml_clone w v T h hl)
  obtain ⟨A, c, rfl, _⟩ := h
  clear hl
  have HCAP := Lib.hid hC
  clear hC
  have hrun : ∀ w : World, (binOp BinOp.eql 54 (.func (.func 50) #[] #[.pointer (some ⟨C, 0, none⟩)]) .nilFunc).run Try.prog w = .ok (.bool false) w := fun _ => by kernel_rfl
  go_enter Try.func47, Try.ntmps47
  go_wp2_with fail
  refine HC.out.mono ?_
  rintro e w1 ⟨v', rfl, hown, hg⟩
  have HI := Lib.hid (Mls.of_own hown)
  have HG := Lib.hid hg
  obtain ⟨A', c', rfl, _⟩ := id HI.out
  clear hown hg
  have HR : Hid (RowMt (w1.alloc (.cells #[.slice A' T.length c', .func (.func 50) #[] #[.pointer (some ⟨C, 0, none⟩)]] 81)) w1.heap.size C n T ∧ Grew w (w1.alloc (.cells #[.slice A' T.length c', .func (.func 50) #[] #[.pointer (some ⟨C, 0, none⟩)]] 81))) := by
    have ga : Grew w1 (w1.alloc (.cells #[.slice A' T.length c', .func (.func 50) #[] #[.pointer (some ⟨C, 0, none⟩)]] 81)) := by unfold Grew; go_grown
    exact Lib.hid ⟨⟨_, blk_new w1 _, HI.out.grew ga, blk_keep HCAP.out (HG.out.trans ga)⟩, HG.out.trans ga⟩
  go_wp2
  go_returns
  exact ⟨_, rfl, HR.out.1, HR.out.2⟩
theorem mlt_row (w : World) (v : Value) (n : Int) (T : List Ml) (h : Mls w v T) (hl : T.length * 48 ≤ 140737488355328) :
    Calls Try.prog 24 #[v, .int .i64 n] w fun e w' => ∃ b C, e = .returned (.pointer (some ⟨b, 0, none⟩)) ∧ RowMt w' b C n T ∧ Grew w w' := by
  have g0 : Grew w (w.alloc (.cells #[.int .i64 n] 3)) := by unfold Grew; go_grown
  have HC := Lib.hid (mlt_of (w.alloc (.cells #[.int .i64 n] 3)) v w.heap.size n T (h.grew g0) (blk_new w _) hl)
  have G0 := Lib.hid g0
  obtain ⟨A, c, rfl, _⟩ := h
  clear hl g0
  go_enter Try.func24, Try.ntmps24
  go_wp2_with fail
  refine HC.out.mono ?_
  rintro e w1 ⟨b, rfl, hr, hg⟩
  have HR := Lib.hid hr
  have HG := Lib.hid (G0.out.trans hg)
  clear hr hg
  go_wp2
  go_returns
  exact ⟨_, _, rfl, HR.out, HG.out⟩

theorem mlt_in (w : World) (b : Nat) (C : Nat) (n : Int) (T : List Ml) (k : Nat) (h : RowMt w b C n T) (hk : k < T.length) :
    Calls Try.prog 25 #[.pointer (some ⟨b, 0, none⟩), .int .i64 k] w fun e w' => e = .returned (.bool ((fun x : Ml => x.used && decide (x.to = n)) (em T k))) ∧ Grew w w' := by
  obtain ⟨sv, h1, h2, h3⟩ := h
  have HB := Lib.hid h1
  obtain ⟨c0, c1⟩ := two_c h1
  have hx := em_get hk
  obtain ⟨ad, c, rfl, hc, d0, d1, d2, d3, d4⟩ := Mls_at h2 hx
  have HU := Lib.hid (fun W (hg : Grew w W) => mlt_used (em T k) C n W (blk_keep h3 hg))
  clear h1 h2 hx h3
  have hk' : (k : Int) < (T.length : Int) := by omega
  unfold mlv at HU
  generalize em T k = x at *
  generalize hp : (fun x : Ml => x.used && decide (x.to = n)) x = p at *
  clear hp
  go_enter Try.func25, Try.ntmps25
  go_wp2
  refine Facts.wp_region_text (by kernel_rfl) (by kernel_rfl) ?_
  apply Facts.Lex.exact [] _ (by kernel_rfl)
  · intro u W hC _
    have j0 := cellG hC c0
    have j1 := cellG hC c1
    unfold Facts.one
    go_simp
    first | exact ⟨Grew.refl _, rfl⟩ | rfl
  simp only [Act.put, List.setIfInBounds_toArray, List.set_cons_zero, List.set_cons_succ, Nat.zero_add, Nat.reduceAdd]
  apply Facts.Lex.exact [] _ (by kernel_rfl)
  · intro u W hC _
    have j0 := cellG hC c0
    have j1 := cellG hC c1
    unfold Facts.one
    go_simp
    exact ((mlt_made W b C n _ (blk_keep HB.out hC)).mono fun e w' ⟨he, hw⟩ => ⟨_, he, by rw [hw]; exact Grew.refl _, rfl⟩)
  simp only [Act.put, List.setIfInBounds_toArray, List.set_cons_zero, List.set_cons_succ, Nat.zero_add, Nat.reduceAdd]
  repeat
    apply Facts.Lex.exact [] _ (by kernel_rfl)
    · intro u W hC _
      have j0 := cellG hC c0
      have j1 := cellG hC c1
      have e0 := cellG hC d0
      have e1 := cellG hC d1
      have e2 := cellG hC d2
      have e3 := cellG hC d3
      have e4 := cellG hC d4
      unfold Facts.one
      go_simp
      first | exact ⟨Grew.refl _, rfl⟩ | rfl
    simp only [Act.put, List.setIfInBounds_toArray, List.set_cons_zero, List.set_cons_succ, Nat.zero_add, Nat.reduceAdd]

  apply Facts.Lex.exact [] _ (by kernel_rfl)
  · intro u W hC _
    have j0 := cellG hC c0
    have j1 := cellG hC c1
    unfold Facts.one
    go_simp
    exact ((HU.out W hC).mono fun e w' ⟨he, hg⟩ => ⟨_, he, hg, rfl⟩)
  simp only [Act.put, List.setIfInBounds_toArray, List.set_cons_zero, List.set_cons_succ, Nat.zero_add, Nat.reduceAdd]
  repeat
    apply Facts.Lex.exact [] _ (by kernel_rfl)
    · intro u W hC _
      have j0 := cellG hC c0
      have j1 := cellG hC c1
      unfold Facts.one
      go_simp
      first | exact ⟨Grew.refl _, rfl⟩ | rfl
    simp only [Act.put, List.setIfInBounds_toArray, List.set_cons_zero, List.set_cons_succ, Nat.zero_add, Nat.reduceAdd]

  refine Facts.Lex.done fun u W2 hC hL => ?_
  have G2 := Lib.hid hC
  clear hC hL
  go_wp2
  go_returns
  exact ⟨rfl, G2.out⟩

theorem mlt_out (w : World) (b : Nat) (C : Nat) (n : Int) (T : List Ml) (i : Int) (h : RowMt w b C n T) (hi : ¬ (0 ≤ i ∧ i < T.length)) :
    Calls Try.prog 25 #[.pointer (some ⟨b, 0, none⟩), .int .i64 i] w fun e w' => e = .returned (.bool false) ∧ Grew w w' := by
  obtain ⟨sv, h1, h2, h3⟩ := h
  have HB := Lib.hid h1
  obtain ⟨c0, c1⟩ := two_c h1
  obtain ⟨A, c, rfl, _⟩ := h2
  clear h1 h3
  by_cases h0 : 0 ≤ i
  · have hi' : decide (i < (T.length : Int)) = false := decide_eq_false (by omega)
    go_enter Try.func25, Try.ntmps25
    go_wp2
    refine Facts.wp_region_text (by kernel_rfl) (by kernel_rfl) ?_
    apply Facts.Lex.exact [] _ (by kernel_rfl)
    · intro u W hC _
      have j0 := cellG hC c0
      have j1 := cellG hC c1
      unfold Facts.one
      go_simp
      first | exact ⟨Grew.refl _, rfl⟩ | rfl
    simp only [Act.put, List.setIfInBounds_toArray, List.set_cons_zero, List.set_cons_succ, Nat.zero_add, Nat.reduceAdd]
    apply Facts.Lex.exact [] _ (by kernel_rfl)
    · intro u W hC _
      have j0 := cellG hC c0
      have j1 := cellG hC c1
      unfold Facts.one
      go_simp
      exact ((mlt_made W b C n _ (blk_keep HB.out hC)).mono fun e w' ⟨he, hw⟩ => ⟨_, he, by rw [hw]; exact Grew.refl _, rfl⟩)
    simp only [Act.put, List.setIfInBounds_toArray, List.set_cons_zero, List.set_cons_succ, Nat.zero_add, Nat.reduceAdd]
    repeat
      apply Facts.Lex.exact [] _ (by kernel_rfl)
      · intro u W hC _
        have j0 := cellG hC c0
        have j1 := cellG hC c1
        unfold Facts.one
        go_simp
        first | exact ⟨Grew.refl _, rfl⟩ | rfl
      simp only [Act.put, List.setIfInBounds_toArray, List.set_cons_zero, List.set_cons_succ, Nat.zero_add, Nat.reduceAdd]

    refine Facts.Lex.done fun u W2 hC hL => ?_
    have G2 := Lib.hid hC
    clear hC hL
    go_wp2
    go_returns
    exact ⟨rfl, G2.out⟩

  · have h0' : decide (0 ≤ i) = false := decide_eq_false h0
    go_enter Try.func25, Try.ntmps25
    go_wp2
    refine Facts.wp_region_text (by kernel_rfl) (by kernel_rfl) ?_
    apply Facts.Lex.exact [] _ (by kernel_rfl)
    · intro u W hC _
      have j0 := cellG hC c0
      have j1 := cellG hC c1
      unfold Facts.one
      go_simp
      first | exact ⟨Grew.refl _, rfl⟩ | rfl
    simp only [Act.put, List.setIfInBounds_toArray, List.set_cons_zero, List.set_cons_succ, Nat.zero_add, Nat.reduceAdd]
    apply Facts.Lex.exact [] _ (by kernel_rfl)
    · intro u W hC _
      have j0 := cellG hC c0
      have j1 := cellG hC c1
      unfold Facts.one
      go_simp
      exact ((mlt_made W b C n _ (blk_keep HB.out hC)).mono fun e w' ⟨he, hw⟩ => ⟨_, he, by rw [hw]; exact Grew.refl _, rfl⟩)
    simp only [Act.put, List.setIfInBounds_toArray, List.set_cons_zero, List.set_cons_succ, Nat.zero_add, Nat.reduceAdd]
    repeat
      apply Facts.Lex.exact [] _ (by kernel_rfl)
      · intro u W hC _
        have j0 := cellG hC c0
        have j1 := cellG hC c1
        unfold Facts.one
        go_simp
        first | exact ⟨Grew.refl _, rfl⟩ | rfl
      simp only [Act.put, List.setIfInBounds_toArray, List.set_cons_zero, List.set_cons_succ, Nat.zero_add, Nat.reduceAdd]

    refine Facts.Lex.done fun u W2 hC hL => ?_
    have G2 := Lib.hid hC
    clear hC hL
    go_wp2
    go_returns
    exact ⟨rfl, G2.out⟩

theorem mlt_has (w : World) (b : Nat) (C : Nat) (n : Int) (T : List Ml) (i : Int) (h : RowMt w b C n T) :
    Calls Try.prog 25 #[.pointer (some ⟨b, 0, none⟩), .int .i64 i] w fun e w' => e = .returned (.bool (hasG zml (fun x : Ml => x.used && decide (x.to = n)) T i)) ∧ Grew w w' := by
  by_cases hi : 0 ≤ i ∧ i < T.length
  · obtain ⟨k, rfl⟩ := Int.eq_ofNat_of_zero_le hi.1
    rw [hasG_in _ _ _ _ (by omega)]
    exact mlt_in w b C n T k h (by omega)
  · rw [hasG_out _ _ _ _ hi]
    exact mlt_out w b C n T i h hi

theorem mlt_slots (w : World) (b : Nat) (C : Nat) (n : Int) (T : List Ml) (h : RowMt w b C n T) (hl : T.length * 48 ≤ 140737488355328) :
    Calls Try.prog 30 #[.pointer (some ⟨b, 0, none⟩)] w fun e w' => ∃ v', e = .returned v' ∧ w'.ownsRow w.heap.size 3 1 v' (uptoG zml (fun x : Ml => x.used && decide (x.to = n)) T T.length).length (iv (uptoG zml (fun x : Ml => x.used && decide (x.to = n)) T T.length)) ∧ Grew w w' := by
  have HR := Lib.hid h
  obtain ⟨sv, h1, h2, h3⟩ := h
  have HM := Lib.hid (mlt_made w b C n sv h1)
  obtain ⟨c0, c1⟩ := two_c h1
  obtain ⟨A, c, rfl, hlc, hcm, _⟩ := h2
  have HL := Lib.hid hl
  clear h1 h3 hl
  unfold maxLen at hcm
  go_enter Try.func30, Try.ntmps30
  go_wp2_with fail
  refine HM.out.mono ?_
  rintro e w' ⟨rfl, hw⟩
  subst hw
  go_wp2
  clear c0 c1
  go_loopg [3, 13] T.length (fun g s3 s13 wx => ∃ (k : Nat) (v3 : Value), k + g = T.length ∧ v3 = s3 ∧ s13 = .int .i64 k ∧ Hid (wx.ownsRow w'.heap.size 3 1 s3 (uptoG zml (fun x : Ml => x.used && decide (x.to = n)) T k).length (iv (uptoG zml (fun x : Ml => x.used && decide (x.to = n)) T k))) ∧ Hid (Grew w' wx))
  case atStart => exact ⟨0, _, by omega, rfl, rfl, Lib.hid (own_nil _ _), Lib.hid (Grew.refl _)⟩
  case round =>
    obtain ⟨k, v3, hkg, rfl, rfl, HI, HG⟩ := hrel
    cases gk with
    | zero =>
      have hkz : ¬ ((k : Int) < (T.length : Int)) := by omega
      have HE := HI
      rw [show k = T.length by omega] at HE
      go_wp2
      go_returns
      exact ⟨_, rfl, HE.out, HG.out⟩
    | succ g =>
      have hkz : (k : Int) < (T.length : Int) := by omega
      have HC := Lib.hid (mlt_in wr b C n T k (HR.out.grew HG.out) (by omega))
      have HY := Lib.hid (uptoG_yes zml (fun x : Ml => x.used && decide (x.to = n)) T k)
      have HN := Lib.hid (uptoG_no zml (fun x : Ml => x.used && decide (x.to = n)) T k)
      rw [show T[k]?.getD zml = em T k from rfl] at HY HN
      have hul := uptoG_len zml (fun x : Ml => x.used && decide (x.to = n)) T k
      have hw1 := wr1b (show k < T.length by omega) (by have := HL.out; omega)
      have HW1 := Lib.hid hw1
      have HSZ : Hid (((uptoG zml (fun x : Ml => x.used && decide (x.to = n)) T k).length + 1) * 8 ≤ 140737488355328) := Lib.hid (by have := HL.out; omega)
      clear hw1 hul
      obtain ⟨t, ht⟩ : ∃ t, (fun x : Ml => x.used && decide (x.to = n)) (em T k) = t := ⟨_, rfl⟩
      try simp only at ht
      try simp only at HC
      rw [ht] at HC
      have HT := Lib.hid ht
      clear ht
      cases t with
      | true =>
        have HE := Lib.hid (HY.out HT.out)
        go_wp2_with fail
        refine HC.out.mono ?_
        rintro e w2 ⟨rfl, hg⟩
        have HG2 := Lib.hid (HG.out.trans hg)
        obtain ⟨v', w3, hr, hown, hb⟩ := app_one w2 w'.heap.size v3 (uptoG zml (fun x : Ml => x.used && decide (x.to = n)) T k) (k : Int) (own_grew HI.out hg) HSZ.out HG2.out.size
        have HAPP := Lib.hid hr
        have HO := Lib.hid hown
        have HG3 : Hid (Grew w' w3) := Lib.hid ((show Below w'.heap.size w' w2 from HG2.out).trans hb)
        clear hg hr hown hb
        go_wp2_with (at_builtin; refine wpList_app_want (.tmp 19) (.tmp 21) 25 (by rfl) (by rfl) _ _ rfl rfl v' w3 (by exact HAPP.out) ?_)
        go_roundg g
        case measure => omega
        case rel =>
          refine ⟨k + 1, _, by omega, rfl, by first | rfl | (simp; done) | rw [HW1.out], ?_, HG3⟩
          rw [HE.out]
          exact HO
      | false =>
        have HE := Lib.hid (HN.out HT.out)
        go_wp2_with fail
        refine HC.out.mono ?_
        rintro e w2 ⟨rfl, hg⟩
        have HG2 := Lib.hid (HG.out.trans hg)
        have HO := Lib.hid (own_grew HI.out hg)
        clear hg
        go_wp2
        go_roundg g
        case measure => omega
        case rel =>
          refine ⟨k + 1, _, by omega, rfl, by first | rfl | (simp; done) | rw [HW1.out], ?_, HG2⟩
          rw [HE.out]
          exact HO
end Go.Proofs.Ytcbaaeihppchiaa.PB
