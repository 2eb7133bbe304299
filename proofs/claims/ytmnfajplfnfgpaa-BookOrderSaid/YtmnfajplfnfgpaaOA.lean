/-
  Rows of orders, as the program keeps them.
  Conditions: those that each lemma names.
-/
import Derived.Test.YtmnfajplfnfgpaaPA
import Derived.Lib.Hide
namespace Go.Proofs.Ytmnfajplfnfgpaa.OA
set_option maxRecDepth 100000
open Go Go.RowKit Go.Lib Go.Proofs.Ytmnfajplfnfgpaa Go.Proofs.Ytmnfajplfnfgpaa.Facts Go.Proofs.Ytmnfajplfnfgpaa.Ints Go.Proofs.Ytmnfajplfnfgpaa.PA Go.Proofs.Ytmnfajplfnfgpaa.Bytes


/-- What First answers. -/
def fv (z : Int) : Value := if z = -1 then .tuple #[.int .i64 0, .int .i64 8] else .tuple #[.int .i64 z, .int .i64 0]
theorem fv_no : fv (-1) = .tuple #[.int .i64 0, .int .i64 8] := rfl
theorem fv_at (k : Nat) : fv k = .tuple #[.int .i64 k, .int .i64 0] := if_neg (by omega)

structure Or where
  used : Bool
  label : Int
  who : Int
  side : Int
  base : Int
  quote : Int
  price : Nat
  left : Nat
  res : Nat
  seq : Int
deriving DecidableEq
def ocs (x : Or) : List Value := [.bool x.used, .int .i64 x.label, .int .i64 x.who, .int .i64 x.side, .int .i64 x.base, .int .i64 x.quote, .int .u64 x.price, .int .u64 x.left, .int .u64 x.res, .int .i64 x.seq]
def orv (x : Or) : Value := .agg #[.bool x.used, .int .i64 x.label, .int .i64 x.who, .int .i64 x.side, .int .i64 x.base, .int .i64 x.quote, .int .u64 x.price, .int .u64 x.left, .int .u64 x.res, .int .i64 x.seq]
abbrev Ors (w : World) (v : Value) (l : List Or) : Prop := Rw w v l.length (l.flatMap ocs)
theorem Ors_at {w : World} {v : Value} {l : List Or} (h : Ors w v l) {k : Nat} {x : Or} (hk : l[k]? = some x) :
    ∃ ad c, v = .slice (some ad) l.length c ∧ l.length ≤ c ∧ w.cell? (ad.add (k * 10)) = some (.bool x.used) ∧ w.cell? ⟨(ad.add (k * 10)).block, (ad.add (k * 10)).off + 1, none⟩ = some (.int .i64 x.label) ∧ w.cell? ⟨(ad.add (k * 10)).block, (ad.add (k * 10)).off + 2, none⟩ = some (.int .i64 x.who) ∧ w.cell? ⟨(ad.add (k * 10)).block, (ad.add (k * 10)).off + 3, none⟩ = some (.int .i64 x.side) ∧ w.cell? ⟨(ad.add (k * 10)).block, (ad.add (k * 10)).off + 4, none⟩ = some (.int .i64 x.base) ∧ w.cell? ⟨(ad.add (k * 10)).block, (ad.add (k * 10)).off + 5, none⟩ = some (.int .i64 x.quote) ∧ w.cell? ⟨(ad.add (k * 10)).block, (ad.add (k * 10)).off + 6, none⟩ = some (.int .u64 x.price) ∧ w.cell? ⟨(ad.add (k * 10)).block, (ad.add (k * 10)).off + 7, none⟩ = some (.int .u64 x.left) ∧ w.cell? ⟨(ad.add (k * 10)).block, (ad.add (k * 10)).off + 8, none⟩ = some (.int .u64 x.res) ∧ w.cell? ⟨(ad.add (k * 10)).block, (ad.add (k * 10)).off + 9, none⟩ = some (.int .i64 x.seq) := by
  obtain ⟨ad, c, e, hc, h0, h1⟩ := Rw.at (f := ocs) (n := 10) (fun _ => rfl) h hk (by decide)
  exact ⟨ad, c, e, hc, h0 _ rfl, h1 1 _ (by decide) rfl, h1 2 _ (by decide) rfl, h1 3 _ (by decide) rfl, h1 4 _ (by decide) rfl, h1 5 _ (by decide) rfl, h1 6 _ (by decide) rfl, h1 7 _ (by decide) rfl, h1 8 _ (by decide) rfl, h1 9 _ (by decide) rfl⟩
def zor : Or := ⟨false, 0, 0, 0, 0, 0, 0, 0, 0, 0⟩
def eo (l : List Or) (k : Nat) : Or := l[k]?.getD zor
theorem eo_get {l : List Or} {k : Nat} (hk : k < l.length) : l[k]? = some (eo l k) := by unfold eo; rw [List.getElem?_eq_getElem hk]; rfl
theorem ocs_len (l : List Or) : (l.flatMap ocs).length = l.length * 10 := flat_len ocs 10 (fun _ => rfl) l
theorem ocs_one (l : List Or) : ∀ u ∈ l.flatMap ocs, u.oneCell' = true := flat_one ocs (fun x u hu => by
  simp only [ocs, List.mem_cons, List.not_mem_nil, or_false] at hu
  rcases hu with rfl | rfl | rfl | rfl | rfl | rfl | rfl | rfl | rfl | rfl <;> rfl) l
theorem info26 : (Try.prog.info? 26).map (fun i => (i.zero, i.size, i.bytes)) = some (some (.agg #[.bool false, .int .i64 0, .int .i64 0, .int .i64 0, .int .i64 0, .int .i64 0, .int .u64 0, .int .u64 0, .int .u64 0, .int .i64 0]), 10, 80) := by kernel_rfl
abbrev OwnO (w : World) (base : Nat) (v : Value) (l : List Or) : Prop := w.ownsRow base 26 10 v l.length (l.flatMap ocs)
theorem Ors.of_own {w : World} {v : Value} {l : List Or} {base : Nat} (h : OwnO w base v l) : Ors w v l := Rw.of_own h fun h => by rw [List.eq_nil_of_length_eq_zero h]; rfl
theorem ord_app (W : World) (base : Nat) (v : Value) (l m : List Or) (ad : Addr) (c : Nat) (hown : OwnO W base v l) (hm : ∀ j u, (m.flatMap ocs)[j]? = some u → W.cell? (ad.add j) = some u) (hl : (l.length + m.length) * 80 ≤ 140737488355328) (hb : base ≤ W.heap.size) :
    ∃ v' w', (Builtin.append_ #[22, 22] 22 #[v, .slice (some ad) m.length c]).run Try.prog W = .ok v' w' ∧ OwnO w' base v' (l ++ m) ∧ Below base W w' := by
  obtain ⟨i0, hi, hx⟩ := Option.map_eq_some_iff.1 info26
  simp only [Prod.mk.injEq] at hx
  obtain ⟨hz0, hz1, hz2⟩ := hx
  obtain ⟨v', w', hr, h5, h6, _⟩ := run_append_own (P := Try.prog) W base 22 22 26 i0 (.agg #[.bool false, .int .i64 0, .int .i64 0, .int .i64 0, .int .i64 0, .int .i64 0, .int .u64 0, .int .u64 0, .int .u64 0, .int .i64 0]) 10 80 Try.underlying22 hi hz0 hz1 hz2 rfl (by decide) v l.length (l.flatMap ocs) hown ad m.length c (m.flatMap ocs) (ocs_len m) hm (ocs_one m) (by unfold maxLen; omega) (by omega) hb
  refine ⟨v', w', hr, by unfold OwnO; rw [List.length_append, List.flatMap_append]; exact h5, ?_⟩
  exact below_of_grown W h6 hb fun k hk => by
    rcases hown.2 with ⟨rfl, _⟩ | ⟨g, cap, cur, rfl, hg, _⟩
    · simp [Value.ownBlock] at hk
    · simp [Value.ownBlock] at hk
      omega
theorem ord_clone (w : World) (v : Value) (T : List Or) (h : Ors w v T) (hl : T.length * 80 ≤ 140737488355328) :
    Calls Try.prog 56 #[v] w fun e w' => ∃ v', e = .returned v' ∧ OwnO w' w.heap.size v' T ∧ Grew w w' := by
  obtain ⟨A, c, rfl, h1, h2, h3, h4⟩ := h
  have q46 : ∀ (w : World) (a : Option Addr) (n c n' c' : Nat), (binOp .eql 22 (.slice a n c) (.slice none n' c')).run Try.prog w = .ok (.bool a.isNone) w := fun w a n c n' c' => Lib.run_eql_slice_nil w _ _ a n c n' c' Try.underlying22
  cases A with
  | none =>
    have h0 := h3 rfl
    have hn : T = [] := List.eq_nil_of_length_eq_zero (by omega)
    subst hn
    have HO : Hid (OwnO w w.heap.size (.slice none 0 0) []) := Lib.hid (World.ownsRow_nil w w.heap.size 26 10)
    clear h4 h3 h1 h2 h0
    go_enter Try.func56, Try.ntmps56
    go_wp2
    go_returns
    exact ⟨_, rfl, HO.out, Grew.refl _⟩
  | some ad =>
    have hown : OwnO (w.alloc (.cells #[] 26)) w.heap.size (.slice (some ⟨w.heap.size, 0, none⟩) 0 0) [] :=
      ⟨rfl, .inr ⟨w.heap.size, 0, #[], rfl, Nat.le_refl _, heap_alloc_new w _, Nat.le_refl _, Nat.zero_le _, rfl, rfl⟩⟩
    have ga : Grew w (w.alloc (.cells #[] 26)) := by unfold Grew; go_grown
    obtain ⟨v', w', hr, h5, h6⟩ := ord_app (w.alloc (.cells #[] 26)) w.heap.size _ [] T ad c hown (fun j u hu => cellG ga (h4 ad rfl j u hu)) (by simpa using hl) (by simp)
    rw [List.nil_append] at h5
    have HR := Lib.hid hr
    have HO := Lib.hid h5
    have HG : Hid (Grew w w') := Lib.hid ((show Below w.heap.size w _ from ga).trans h6)
    clear hown ga hr h5 h6 h4 h3
    go_enter Try.func56, Try.ntmps56
    go_wp2_with (at_builtin; refine wpList_app_want (.tmp 5) (.tmp 6) 22 (by rfl) (by rfl) _ _ rfl rfl v' w' (by exact HR.out) ?_)
    go_returns
    exact ⟨_, rfl, HO.out, HG.out⟩

theorem ocs_set (x : Or) : ∀ (T : List Or) (k : Nat), (((((((((((T.flatMap ocs).set (k * 10) (.bool x.used)).set (k * 10 + 1) (.int .i64 x.label)).set (k * 10 + 2) (.int .i64 x.who)).set (k * 10 + 3) (.int .i64 x.side)).set (k * 10 + 4) (.int .i64 x.base)).set (k * 10 + 5) (.int .i64 x.quote)).set (k * 10 + 6) (.int .u64 x.price)).set (k * 10 + 7) (.int .u64 x.left)).set (k * 10 + 8) (.int .u64 x.res)).set (k * 10 + 9) (.int .i64 x.seq)) = (T.set k x).flatMap ocs
  | [], k => by simp
  | y :: T, 0 => by
    simp only [List.flatMap_cons, List.set_cons_zero]
    rfl
  | y :: T, k + 1 => by
    have ih := ocs_set x T k
    have e : (y :: T).flatMap ocs = .bool y.used :: .int .i64 y.label :: .int .i64 y.who :: .int .i64 y.side :: .int .i64 y.base :: .int .i64 y.quote :: .int .u64 y.price :: .int .u64 y.left :: .int .u64 y.res :: .int .i64 y.seq :: T.flatMap ocs := rfl
    rw [e, show (k + 1) * 10 = k * 10 + 1 + 1 + 1 + 1 + 1 + 1 + 1 + 1 + 1 + 1 by omega]
    simp only [show ∀ j : Nat, k * 10 + 1 + 1 + 1 + 1 + 1 + 1 + 1 + 1 + 1 + 1 + j = (k * 10 + j) + 1 + 1 + 1 + 1 + 1 + 1 + 1 + 1 + 1 + 1 from fun j => by omega, List.set_cons_succ]
    rw [ih]
    rfl
theorem ord_cells {W : World} {B : Nat} {x : Or} (h : W.heap[B]? = some (.cells #[.bool x.used, .int .i64 x.label, .int .i64 x.who, .int .i64 x.side, .int .i64 x.base, .int .i64 x.quote, .int .u64 x.price, .int .u64 x.left, .int .u64 x.res, .int .i64 x.seq] 26 (0, 0))) :
    W.cell? ⟨B, 0, none⟩ = some (.bool x.used) ∧ W.cell? ⟨B, 1, none⟩ = some (.int .i64 x.label) ∧ W.cell? ⟨B, 2, none⟩ = some (.int .i64 x.who) ∧ W.cell? ⟨B, 3, none⟩ = some (.int .i64 x.side) ∧ W.cell? ⟨B, 4, none⟩ = some (.int .i64 x.base) ∧ W.cell? ⟨B, 5, none⟩ = some (.int .i64 x.quote) ∧ W.cell? ⟨B, 6, none⟩ = some (.int .u64 x.price) ∧ W.cell? ⟨B, 7, none⟩ = some (.int .u64 x.left) ∧ W.cell? ⟨B, 8, none⟩ = some (.int .u64 x.res) ∧ W.cell? ⟨B, 9, none⟩ = some (.int .i64 x.seq) := by
  refine ⟨?_, ?_, ?_, ?_, ?_, ?_, ?_, ?_, ?_, ?_⟩
  all_goals rw [cell_of_row _ _ _ _ _ _ h]; rfl

theorem ord_made0 (n : Nat) : madeCells #[.bool false, .int .i64 0, .int .i64 0, .int .i64 0, .int .i64 0, .int .i64 0, .int .u64 0, .int .u64 0, .int .u64 0, .int .i64 0] (n * 10) = ((List.replicate n zor).flatMap ocs).toArray := by
  apply Array.ext'
  apply List.ext_getElem?
  intro j
  by_cases hj : j < n * 10
  · have hn : j / 10 < n := by omega
    have h := flat_get ocs 10 (fun _ => rfl) (List.replicate n zor) (j / 10) (j % 10) zor (by rw [List.getElem?_replicate, if_pos hn]) (Nat.mod_lt _ (by decide))
    rw [Nat.div_add_mod' j 10] at h
    rw [show (((List.replicate n zor).flatMap ocs).toArray.toList)[j]? = _ from h]
    have h6 : j % 10 < 10 := Nat.mod_lt _ (by decide)
    simp only [madeCells, Array.toList_map, Array.toList_range, List.getElem?_map, List.getElem?_range hj, Option.map_some]
    generalize j % 10 = i at *
    match i, h6 with
    | 0, _ => rfl
    | 1, _ => rfl
    | 2, _ => rfl
    | 3, _ => rfl
    | 4, _ => rfl
    | 5, _ => rfl
    | 6, _ => rfl
    | 7, _ => rfl
    | 8, _ => rfl
    | 9, _ => rfl
  · rw [List.getElem?_eq_none (by simp [madeCells]; omega), List.getElem?_eq_none (by simp only [ocs_len, List.length_replicate]; omega)]
theorem mk_ord (n : Nat) (hn : n ≤ 1000) (u : World) : (Instr.makeSlice 22 (.int .i64 (n : Int)) (.int .i64 (n : Int))).run Try.prog u =
    .ok (.slice (some ⟨u.heap.size, 0, none⟩) n n) (u.alloc (.cells ((List.replicate n zor).flatMap ocs).toArray 26)) := by
  obtain ⟨i0, hi, hx⟩ := Option.map_eq_some_iff.1 info26
  simp only [Prod.mk.injEq] at hx
  obtain ⟨hz0, hz1, hz2⟩ := hx
  have h := run_make (P := Try.prog) u 22 26 i0 (.agg #[.bool false, .int .i64 0, .int .i64 0, .int .i64 0, .int .i64 0, .int .i64 0, .int .u64 0, .int .u64 0, .int .u64 0, .int .i64 0]) Try.underlying22 hi hz0 .i64 .i64 n n (by omega) (Int.le_refl _) (by rw [hz2]; omega) (by omega)
  rw [hz1] at h
  rw [← ord_made0]
  simpa [Value.cells] using h
theorem ord_made1 (u : World) (l : List Or) (hl : l.length ≤ 1000) : Ors (u.alloc (.cells (l.flatMap ocs).toArray 26)) (.slice (some ⟨u.heap.size, 0, none⟩) l.length l.length) l := by
  refine ⟨some ⟨u.heap.size, 0, none⟩, l.length, rfl, Nat.le_refl _, by unfold maxLen; omega, (fun h => by cases h), fun ad ha j x hx => ?_⟩
  cases ha
  rw [Addr.add_lit, Nat.zero_add, cell_of_row _ _ _ _ _ _ (heap_alloc_new u _), List.getElem?_toArray]
  exact hx

theorem ord_used (x : Or) (w : World) : Calls Try.prog 54 #[orv x] w fun e w' => e = .returned (.bool ((fun x : Or => x.used) x)) ∧ Grew w w' := by
  unfold orv
  go_enter Try.func54, Try.ntmps54
  go_wp2
  go_returns
  exact ⟨rfl, by unfold Grew; go_grown⟩

def RowO (w : World) (b : Nat) (T : List Or) : Prop := ∃ sv, w.heap[b]? = some (.cells #[sv, .func (.func 54) #[] #[]] 73 (0, 0)) ∧ Ors w sv T
theorem RowO.grew {w w' : World} {b : Nat} {T : List Or} (h : RowO w b T) (hg : Grew w w') : RowO w' b T := by
  obtain ⟨sv, h1, h2⟩ := h
  exact ⟨sv, blk_keep h1 hg, h2.grew hg⟩
theorem ord_made (w : World) (b : Nat) (sv : Value) (h : w.heap[b]? = some (.cells #[sv, .func (.func 54) #[] #[]] 73 (0, 0))) :
    Calls Try.prog 55 #[.pointer (some ⟨b, 0, none⟩)] w fun e w' => e = .returned (.bool true) ∧ w' = w := by
  obtain ⟨c0, c1⟩ := two_c h
  clear h
  have hrun : ∀ w : World, (binOp BinOp.neq 42 (.func (.func 54) #[] #[]) .nilFunc).run Try.prog w = .ok (.bool true) w := fun _ => by kernel_rfl
  go_enter Try.func55, Try.ntmps55
  go_wp2
  go_returns
  exact ⟨rfl, rfl⟩
theorem ord_of (w : World) (v : Value) (T : List Or) (h : Ors w v T) (hl : T.length * 80 ≤ 140737488355328) :
    Calls Try.prog 53 #[v, .func (.func 54) #[] #[]] w fun e w' => ∃ b, e = .returned (.pointer (some ⟨b, 0, none⟩)) ∧ RowO w' b T ∧ Grew w w' := by
  have HC := Lib.hid (ord_clone w v T h hl)
  obtain ⟨A, c, rfl, _⟩ := h
  clear hl
  have hrun : ∀ w : World, (binOp BinOp.eql 42 (.func (.func 54) #[] #[]) .nilFunc).run Try.prog w = .ok (.bool false) w := fun _ => by kernel_rfl
  go_enter Try.func53, Try.ntmps53
  go_wp2_with fail
  refine HC.out.mono ?_
  rintro e w1 ⟨v', rfl, hown, hg⟩
  have HI := Lib.hid (Ors.of_own hown)
  have HG := Lib.hid hg
  obtain ⟨A', c', rfl, _⟩ := id HI.out
  clear hown hg
  have HR : Hid (RowO (w1.alloc (.cells #[.slice A' T.length c', .func (.func 54) #[] #[]] 73)) w1.heap.size T ∧ Grew w (w1.alloc (.cells #[.slice A' T.length c', .func (.func 54) #[] #[]] 73))) := by
    have ga : Grew w1 (w1.alloc (.cells #[.slice A' T.length c', .func (.func 54) #[] #[]] 73)) := by unfold Grew; go_grown
    exact Lib.hid ⟨⟨_, blk_new w1 _, HI.out.grew ga⟩, HG.out.trans ga⟩
  go_wp2
  go_returns
  exact ⟨_, rfl, HR.out.1, HR.out.2⟩
theorem ord_row (w : World) (v : Value) (T : List Or) (h : Ors w v T) (hl : T.length * 80 ≤ 140737488355328) :
    Calls Try.prog 29 #[v] w fun e w' => ∃ b, e = .returned (.pointer (some ⟨b, 0, none⟩)) ∧ RowO w' b T ∧ Grew w w' := by
  have HC := Lib.hid (ord_of w v T h hl)
  obtain ⟨A, c, rfl, _⟩ := h
  clear hl
  go_enter Try.func29, Try.ntmps29
  go_wp2_with fail
  refine HC.out.mono ?_
  rintro e w1 ⟨b, rfl, hr, hg⟩
  have HR := Lib.hid hr
  have HG := Lib.hid hg
  clear hr hg
  go_wp2
  go_returns
  exact ⟨_, rfl, HR.out, HG.out⟩

theorem ord_in (w : World) (b : Nat) (T : List Or) (k : Nat) (h : RowO w b T) (hk : k < T.length) :
    Calls Try.prog 30 #[.pointer (some ⟨b, 0, none⟩), .int .i64 k] w fun e w' => e = .returned (.bool ((fun x : Or => x.used) (eo T k))) ∧ Grew w w' := by
  obtain ⟨sv, h1, h2⟩ := h
  have HB := Lib.hid h1
  obtain ⟨c0, c1⟩ := two_c h1
  have hx := eo_get hk
  obtain ⟨ad, c, rfl, hc, d0, d1, d2, d3, d4, d5, d6, d7, d8, d9⟩ := Ors_at h2 hx
  have HU := Lib.hid (fun W (_ : Grew w W) => ord_used (eo T k) W)
  clear h1 h2 hx
  have hk' : (k : Int) < (T.length : Int) := by omega
  unfold orv at HU
  generalize eo T k = x at *
  generalize hp : (fun x : Or => x.used) x = p at *
  clear hp
  go_enter Try.func30, Try.ntmps30
  go_wp2
  refine Facts.wp_region_text (by kernel_rfl) (by kernel_rfl) ?_
  apply Facts.Lex.exact [] _ (by kernel_rfl)
  · intro u W hC _
    have j0 := cellG hC c0
    have j1 := cellG hC c1
    unfold Facts.one
    go_simp
    first | exact ⟨Grew.refl _, rfl⟩ | rfl
  simp only [Act.put, List.setIfInBounds_toArray, List.set_cons_zero, List.set_cons_succ, Nat.zero_add]
  apply Facts.Lex.exact [] _ (by kernel_rfl)
  · intro u W hC _
    have j0 := cellG hC c0
    have j1 := cellG hC c1
    unfold Facts.one
    go_simp
    exact ((ord_made W b _ (blk_keep HB.out hC)).mono fun e w' ⟨he, hw⟩ => ⟨_, he, by rw [hw]; exact Grew.refl _, rfl⟩)
  simp only [Act.put, List.setIfInBounds_toArray, List.set_cons_zero, List.set_cons_succ, Nat.reduceAdd]
  repeat
    apply Facts.Lex.exact [] _ (by kernel_rfl)
    · intro u W hC _
      have j0 := cellG hC c0
      have j1 := cellG hC c1
      have e0 := cellG hC d0
      have e1 := cellG hC d1
      have e2 := cellG hC d2
      have e3 := cellG hC d3
      have e4 := cellG hC d4
      have e5 := cellG hC d5
      have e6 := cellG hC d6
      have e7 := cellG hC d7
      have e8 := cellG hC d8
      have e9 := cellG hC d9
      unfold Facts.one
      go_simp
      first | exact ⟨Grew.refl _, rfl⟩ | rfl
    simp only [Act.put, List.setIfInBounds_toArray, List.set_cons_zero, List.set_cons_succ, Nat.reduceAdd]

  apply Facts.Lex.exact [] _ (by kernel_rfl)
  · intro u W hC _
    have j0 := cellG hC c0
    have j1 := cellG hC c1
    unfold Facts.one
    go_simp
    exact ((HU.out W hC).mono fun e w' ⟨he, hg⟩ => ⟨_, he, hg, rfl⟩)
  simp only [Act.put, List.setIfInBounds_toArray, List.set_cons_zero, List.set_cons_succ, Nat.reduceAdd]
  repeat
    apply Facts.Lex.exact [] _ (by kernel_rfl)
    · intro u W hC _
      have j0 := cellG hC c0
      have j1 := cellG hC c1
      unfold Facts.one
      go_simp
      first | exact ⟨Grew.refl _, rfl⟩ | rfl
    simp only [Act.put, List.setIfInBounds_toArray, List.set_cons_zero, List.set_cons_succ, Nat.reduceAdd]

  refine Facts.Lex.done fun u W2 hC hL => ?_
  have G2 := Lib.hid hC
  clear hC hL
  go_wp2
  go_returns
  exact ⟨rfl, G2.out⟩

theorem ord_out (w : World) (b : Nat) (T : List Or) (i : Int) (h : RowO w b T) (hi : ¬ (0 ≤ i ∧ i < T.length)) :
    Calls Try.prog 30 #[.pointer (some ⟨b, 0, none⟩), .int .i64 i] w fun e w' => e = .returned (.bool false) ∧ Grew w w' := by
  obtain ⟨sv, h1, h2⟩ := h
  have HB := Lib.hid h1
  obtain ⟨c0, c1⟩ := two_c h1
  obtain ⟨A, c, rfl, _⟩ := h2
  clear h1
  by_cases h0 : 0 ≤ i
  · have hi' : decide (i < (T.length : Int)) = false := decide_eq_false (by omega)
    go_enter Try.func30, Try.ntmps30
    go_wp2
    refine Facts.wp_region_text (by kernel_rfl) (by kernel_rfl) ?_
    apply Facts.Lex.exact [] _ (by kernel_rfl)
    · intro u W hC _
      have j0 := cellG hC c0
      have j1 := cellG hC c1
      unfold Facts.one
      go_simp
      first | exact ⟨Grew.refl _, rfl⟩ | rfl
    simp only [Act.put, List.setIfInBounds_toArray, List.set_cons_zero, List.set_cons_succ, Nat.zero_add]
    apply Facts.Lex.exact [] _ (by kernel_rfl)
    · intro u W hC _
      have j0 := cellG hC c0
      have j1 := cellG hC c1
      unfold Facts.one
      go_simp
      exact ((ord_made W b _ (blk_keep HB.out hC)).mono fun e w' ⟨he, hw⟩ => ⟨_, he, by rw [hw]; exact Grew.refl _, rfl⟩)
    simp only [Act.put, List.setIfInBounds_toArray, List.set_cons_zero, List.set_cons_succ, Nat.reduceAdd]
    repeat
      apply Facts.Lex.exact [] _ (by kernel_rfl)
      · intro u W hC _
        have j0 := cellG hC c0
        have j1 := cellG hC c1
        unfold Facts.one
        go_simp
        first | exact ⟨Grew.refl _, rfl⟩ | rfl
      simp only [Act.put, List.setIfInBounds_toArray, List.set_cons_zero, List.set_cons_succ, Nat.reduceAdd]

    refine Facts.Lex.done fun u W2 hC hL => ?_
    have G2 := Lib.hid hC
    clear hC hL
    go_wp2
    go_returns
    exact ⟨rfl, G2.out⟩

  · have h0' : decide (0 ≤ i) = false := decide_eq_false h0
    go_enter Try.func30, Try.ntmps30
    go_wp2
    refine Facts.wp_region_text (by kernel_rfl) (by kernel_rfl) ?_
    apply Facts.Lex.exact [] _ (by kernel_rfl)
    · intro u W hC _
      have j0 := cellG hC c0
      have j1 := cellG hC c1
      unfold Facts.one
      go_simp
      first | exact ⟨Grew.refl _, rfl⟩ | rfl
    simp only [Act.put, List.setIfInBounds_toArray, List.set_cons_zero, List.set_cons_succ, Nat.zero_add]
    apply Facts.Lex.exact [] _ (by kernel_rfl)
    · intro u W hC _
      have j0 := cellG hC c0
      have j1 := cellG hC c1
      unfold Facts.one
      go_simp
      exact ((ord_made W b _ (blk_keep HB.out hC)).mono fun e w' ⟨he, hw⟩ => ⟨_, he, by rw [hw]; exact Grew.refl _, rfl⟩)
    simp only [Act.put, List.setIfInBounds_toArray, List.set_cons_zero, List.set_cons_succ, Nat.reduceAdd]
    repeat
      apply Facts.Lex.exact [] _ (by kernel_rfl)
      · intro u W hC _
        have j0 := cellG hC c0
        have j1 := cellG hC c1
        unfold Facts.one
        go_simp
        first | exact ⟨Grew.refl _, rfl⟩ | rfl
      simp only [Act.put, List.setIfInBounds_toArray, List.set_cons_zero, List.set_cons_succ, Nat.reduceAdd]

    refine Facts.Lex.done fun u W2 hC hL => ?_
    have G2 := Lib.hid hC
    clear hC hL
    go_wp2
    go_returns
    exact ⟨rfl, G2.out⟩

theorem ord_has (w : World) (b : Nat) (T : List Or) (i : Int) (h : RowO w b T) :
    Calls Try.prog 30 #[.pointer (some ⟨b, 0, none⟩), .int .i64 i] w fun e w' => e = .returned (.bool (hasG zor (fun x : Or => x.used) T i)) ∧ Grew w w' := by
  by_cases hi : 0 ≤ i ∧ i < T.length
  · obtain ⟨k, rfl⟩ := Int.eq_ofNat_of_zero_le hi.1
    rw [hasG_in _ _ _ _ (by omega)]
    exact ord_in w b T k h (by omega)
  · rw [hasG_out _ _ _ _ hi]
    exact ord_out w b T i h hi

theorem ord_slots (w : World) (b : Nat) (T : List Or) (h : RowO w b T) (hl : T.length * 80 ≤ 140737488355328) :
    Calls Try.prog 43 #[.pointer (some ⟨b, 0, none⟩)] w fun e w' => ∃ v', e = .returned v' ∧ w'.ownsRow w.heap.size 3 1 v' (uptoG zor (fun x : Or => x.used) T T.length).length (iv (uptoG zor (fun x : Or => x.used) T T.length)) ∧ Grew w w' := by
  have HR := Lib.hid h
  obtain ⟨sv, h1, h2⟩ := h
  have HM := Lib.hid (ord_made w b sv h1)
  obtain ⟨c0, c1⟩ := two_c h1
  obtain ⟨A, c, rfl, hlc, hcm, _⟩ := h2
  have HL := Lib.hid hl
  clear h1 hl
  unfold maxLen at hcm
  go_enter Try.func43, Try.ntmps43
  go_wp2_with fail
  refine HM.out.mono ?_
  rintro e w' ⟨rfl, hw⟩
  subst hw
  go_wp2
  clear c0 c1
  go_loopg [3, 13] T.length (fun g s3 s13 wx => ∃ (k : Nat) (v3 : Value), k + g = T.length ∧ v3 = s3 ∧ s13 = .int .i64 k ∧ Hid (wx.ownsRow w'.heap.size 3 1 s3 (uptoG zor (fun x : Or => x.used) T k).length (iv (uptoG zor (fun x : Or => x.used) T k))) ∧ Hid (Grew w' wx))
  case atStart => exact ⟨0, _, by omega, rfl, rfl, Lib.hid (own_nil _ _), Lib.hid (Grew.refl _)⟩
  case round =>
    obtain ⟨k, v3, hkg, rfl, rfl, HI, HG⟩ := hrel
    cases gk with
    | zero =>
      have hkz : ¬ ((k : Int) < (T.length : Int)) := by omega
      have HE := HI
      rw [show k = T.length by omega] at HE
      go_wp2
      go_returns
      exact ⟨_, rfl, HE.out, HG.out⟩
    | succ g =>
      have hkz : (k : Int) < (T.length : Int) := by omega
      have HC := Lib.hid (ord_in wr b T k (HR.out.grew HG.out) (by omega))
      have HY := Lib.hid (uptoG_yes zor (fun x : Or => x.used) T k)
      have HN := Lib.hid (uptoG_no zor (fun x : Or => x.used) T k)
      rw [show T[k]?.getD zor = eo T k from rfl] at HY HN
      have hul := uptoG_len zor (fun x : Or => x.used) T k
      have hw1 := wr1b (show k < T.length by omega) (by have := HL.out; omega)
      have HW1 := Lib.hid hw1
      have HSZ : Hid (((uptoG zor (fun x : Or => x.used) T k).length + 1) * 8 ≤ 140737488355328) := Lib.hid (by have := HL.out; omega)
      clear hw1 hul
      obtain ⟨t, ht⟩ : ∃ t, (fun x : Or => x.used) (eo T k) = t := ⟨_, rfl⟩
      try simp only at ht
      try simp only at HC
      rw [ht] at HC
      have HT := Lib.hid ht
      clear ht
      cases t with
      | true =>
        have HE := Lib.hid (HY.out HT.out)
        go_wp2_with fail
        refine HC.out.mono ?_
        rintro e w2 ⟨rfl, hg⟩
        have HG2 := Lib.hid (HG.out.trans hg)
        obtain ⟨v', w3, hr, hown, hb⟩ := app_one w2 w'.heap.size v3 (uptoG zor (fun x : Or => x.used) T k) (k : Int) (own_grew HI.out hg) HSZ.out HG2.out.size
        have HAPP := Lib.hid hr
        have HO := Lib.hid hown
        have HG3 : Hid (Grew w' w3) := Lib.hid ((show Below w'.heap.size w' w2 from HG2.out).trans hb)
        clear hg hr hown hb
        go_wp2_with (at_builtin; refine wpList_app_want (.tmp 19) (.tmp 21) 36 (by rfl) (by rfl) _ _ rfl rfl v' w3 (by exact HAPP.out) ?_)
        go_roundg g
        case measure => omega
        case rel =>
          refine ⟨k + 1, _, by omega, rfl, by first | rfl | (simp; done) | rw [HW1.out], ?_, HG3⟩
          rw [HE.out]
          exact HO
      | false =>
        have HE := Lib.hid (HN.out HT.out)
        go_wp2_with fail
        refine HC.out.mono ?_
        rintro e w2 ⟨rfl, hg⟩
        have HG2 := Lib.hid (HG.out.trans hg)
        have HO := Lib.hid (own_grew HI.out hg)
        clear hg
        go_wp2
        go_roundg g
        case measure => omega
        case rel =>
          refine ⟨k + 1, _, by omega, rfl, by first | rfl | (simp; done) | rw [HW1.out], ?_, HG2⟩
          rw [HE.out]
          exact HO
set_option maxHeartbeats 1000000 in
theorem ord_put (w : World) (b : Nat) (T : List Or) (k : Nat) (x : Or) (h : RowO w b T) (hk : k < T.length) (hl : T.length * 80 ≤ 140737488355328) :
    Calls Try.prog 31 #[.pointer (some ⟨b, 0, none⟩), .int .i64 k, orv x] w fun e w' => ∃ v', e = .returned (.tuple #[v', .int .i64 0]) ∧ Ors w' v' (T.set k x) ∧ Grew w w' := by
  have hi6 : orv x = .agg #[.bool x.used, .int .i64 x.label, .int .i64 x.who, .int .i64 x.side, .int .i64 x.base, .int .i64 x.quote, .int .u64 x.price, .int .u64 x.left, .int .u64 x.res, .int .i64 x.seq] := rfl
  rw [hi6]
  clear hi6
  have ga : Grew w (w.alloc (.cells #[.bool x.used, .int .i64 x.label, .int .i64 x.who, .int .i64 x.side, .int .i64 x.base, .int .i64 x.quote, .int .u64 x.price, .int .u64 x.left, .int .u64 x.res, .int .i64 x.seq] 26)) := by unfold Grew; go_grown
  have hbx : (w.alloc (.cells #[.bool x.used, .int .i64 x.label, .int .i64 x.who, .int .i64 x.side, .int .i64 x.base, .int .i64 x.quote, .int .u64 x.price, .int .u64 x.left, .int .u64 x.res, .int .i64 x.seq] 26)).heap[w.heap.size]? = some (.cells #[.bool x.used, .int .i64 x.label, .int .i64 x.who, .int .i64 x.side, .int .i64 x.base, .int .i64 x.quote, .int .u64 x.price, .int .u64 x.left, .int .u64 x.res, .int .i64 x.seq] 26 (0, 0)) := blk_new w _
  obtain ⟨sv, h1, h2⟩ := h.grew ga
  have HM := Lib.hid (ord_made _ b sv h1)
  have HC := Lib.hid (ord_clone _ sv T h2 hl)
  obtain ⟨c0, c1⟩ := two_c h1
  obtain ⟨A, c, rfl, hlc, hcm, _⟩ := h2
  have HGA := Lib.hid ga
  have HBX := Lib.hid hbx
  clear h1 h ga hbx
  unfold maxLen at hcm
  have hk0 : ¬ ((k : Int) < 0) := by omega
  have hk1 : ¬ ((T.length : Int) ≤ k) := by omega
  go_enter Try.func31, Try.ntmps31
  go_wp2_with fail
  refine HM.out.mono ?_
  rintro e w' ⟨rfl, hw⟩
  subst hw
  go_wp2_with fail
  refine HC.out.mono ?_
  rintro e w1 ⟨v', rfl, hown, hg⟩
  obtain ⟨x0, x1, x2, x3, x4, x5, x6, x7, x8, x9⟩ := ord_cells (blk_keep HBX.out hg)
  obtain ⟨g, cap, rfl, hbg, hgl⟩ := hown.form (by omega)
  have r0 := hown.cellAt (k * 10 + 0) (by omega)
  rw [flat_get ocs 10 (fun _ => rfl) T k 0 (eo T k) (eo_get hk) (by decide)] at r0
  have f0 := hown.frozenAt (k * 10 + 0)
  have r1 := hown.cellAt (k * 10 + 1) (by omega)
  rw [flat_get ocs 10 (fun _ => rfl) T k 1 (eo T k) (eo_get hk) (by decide)] at r1
  have f1 := hown.frozenAt (k * 10 + 1)
  have r2 := hown.cellAt (k * 10 + 2) (by omega)
  rw [flat_get ocs 10 (fun _ => rfl) T k 2 (eo T k) (eo_get hk) (by decide)] at r2
  have f2 := hown.frozenAt (k * 10 + 2)
  have r3 := hown.cellAt (k * 10 + 3) (by omega)
  rw [flat_get ocs 10 (fun _ => rfl) T k 3 (eo T k) (eo_get hk) (by decide)] at r3
  have f3 := hown.frozenAt (k * 10 + 3)
  have r4 := hown.cellAt (k * 10 + 4) (by omega)
  rw [flat_get ocs 10 (fun _ => rfl) T k 4 (eo T k) (eo_get hk) (by decide)] at r4
  have f4 := hown.frozenAt (k * 10 + 4)
  have r5 := hown.cellAt (k * 10 + 5) (by omega)
  rw [flat_get ocs 10 (fun _ => rfl) T k 5 (eo T k) (eo_get hk) (by decide)] at r5
  have f5 := hown.frozenAt (k * 10 + 5)
  have r6 := hown.cellAt (k * 10 + 6) (by omega)
  rw [flat_get ocs 10 (fun _ => rfl) T k 6 (eo T k) (eo_get hk) (by decide)] at r6
  have f6 := hown.frozenAt (k * 10 + 6)
  have r7 := hown.cellAt (k * 10 + 7) (by omega)
  rw [flat_get ocs 10 (fun _ => rfl) T k 7 (eo T k) (eo_get hk) (by decide)] at r7
  have f7 := hown.frozenAt (k * 10 + 7)
  have r8 := hown.cellAt (k * 10 + 8) (by omega)
  rw [flat_get ocs 10 (fun _ => rfl) T k 8 (eo T k) (eo_get hk) (by decide)] at r8
  have f8 := hown.frozenAt (k * 10 + 8)
  have r9 := hown.cellAt (k * 10 + 9) (by omega)
  rw [flat_get ocs 10 (fun _ => rfl) T k 9 (eo T k) (eo_get hk) (by decide)] at r9
  have f9 := hown.frozenAt (k * 10 + 9)
  obtain ⟨s0, _⟩ := hown.stored (k * 10) (.bool x.used)
  obtain ⟨s1, _⟩ := s0.stored (k * 10 + 1) (.int .i64 x.label)
  obtain ⟨s2, _⟩ := s1.stored (k * 10 + 2) (.int .i64 x.who)
  obtain ⟨s3, _⟩ := s2.stored (k * 10 + 3) (.int .i64 x.side)
  obtain ⟨s4, _⟩ := s3.stored (k * 10 + 4) (.int .i64 x.base)
  obtain ⟨s5, _⟩ := s4.stored (k * 10 + 5) (.int .i64 x.quote)
  obtain ⟨s6, _⟩ := s5.stored (k * 10 + 6) (.int .u64 x.price)
  obtain ⟨s7, _⟩ := s6.stored (k * 10 + 7) (.int .u64 x.left)
  obtain ⟨s8, _⟩ := s7.stored (k * 10 + 8) (.int .u64 x.res)
  obtain ⟨s9, _⟩ := s8.stored (k * 10 + 9) (.int .i64 x.seq)
  rw [ocs_set] at s9
  have HS := Lib.hid s9
  have hgw : w.heap.size ≤ g := by rw [World.size_alloc] at hbg; omega
  have HG : Hid (Below w.heap.size w ((((((((((w1.setCell ⟨g, k * 10, none⟩ (.bool x.used)).setCell ⟨g, k * 10 + 1, none⟩ (.int .i64 x.label)).setCell ⟨g, k * 10 + 2, none⟩ (.int .i64 x.who)).setCell ⟨g, k * 10 + 3, none⟩ (.int .i64 x.side)).setCell ⟨g, k * 10 + 4, none⟩ (.int .i64 x.base)).setCell ⟨g, k * 10 + 5, none⟩ (.int .i64 x.quote)).setCell ⟨g, k * 10 + 6, none⟩ (.int .u64 x.price)).setCell ⟨g, k * 10 + 7, none⟩ (.int .u64 x.left)).setCell ⟨g, k * 10 + 8, none⟩ (.int .u64 x.res)).setCell ⟨g, k * 10 + 9, none⟩ (.int .i64 x.seq))) := Lib.hid (by
    exact (((((((((((show Below w.heap.size w w1 from HGA.out.trans hg).setCell (p := ⟨g, k * 10, none⟩) hgw _).setCell (p := ⟨g, k * 10 + 1, none⟩) hgw _).setCell (p := ⟨g, k * 10 + 2, none⟩) hgw _).setCell (p := ⟨g, k * 10 + 3, none⟩) hgw _).setCell (p := ⟨g, k * 10 + 4, none⟩) hgw _).setCell (p := ⟨g, k * 10 + 5, none⟩) hgw _).setCell (p := ⟨g, k * 10 + 6, none⟩) hgw _).setCell (p := ⟨g, k * 10 + 7, none⟩) hgw _).setCell (p := ⟨g, k * 10 + 8, none⟩) hgw _).setCell (p := ⟨g, k * 10 + 9, none⟩) hgw _))
  clear hown s0 s1 s2 s3 s4 s5 s6 s7 s8 s9 hg c0 c1 hgw
  simp only [ocs, List.getElem?_cons_zero, List.getElem?_cons_succ, Nat.add_zero] at r0 r1 r2 r3 r4 r5 r6 r7 r8 r9 f0
  generalize eo T k = y at *
  go_wp2
  go_returns
  refine ⟨_, rfl, ?_, HG.out⟩
  show Rw _ _ (T.set k x).length _
  rw [List.length_set]
  exact Rw.of_own HS.out (fun h0 => absurd hk (by omega))
/-- The first slot that is free. -/
def ordfree (l : List Or) : Int := fidx l fun x => !x.used
theorem ord_freec (l : List Or) : ordfree l = -1 ∨ ∃ k : Nat, ordfree l = k ∧ k < l.length := by
  rcases fidx_cases l (fun x => !x.used) with ⟨h, _⟩ | ⟨k, hk, h, _⟩
  · exact .inl h
  · exact .inr ⟨k, h, hk⟩
theorem ord_first (w : World) (b : Nat) (T : List Or) (h : RowO w b T) (hl : T.length * 80 ≤ 140737488355328) :
    Calls Try.prog 45 #[.pointer (some ⟨b, 0, none⟩)] w fun e w' => e = .returned (fv (ordfree T)) ∧ Grew w w' := by
  have HR := Lib.hid h
  obtain ⟨sv, h1, h2⟩ := h
  have HM := Lib.hid (ord_made w b sv h1)
  obtain ⟨c0, c1⟩ := two_c h1
  obtain ⟨A, c, rfl, hlc, hcm, _⟩ := h2
  clear h1
  have HH := Lib.hid (fun k x => @fidx_hit Or T (fun x => !x.used) k x)
  have HN := Lib.hid (@fidx_miss Or T (fun x => !x.used))
  unfold ordfree
  generalize fidx T (fun x => !x.used) = res at *
  unfold maxLen at hcm
  go_enter Try.func45, Try.ntmps45
  go_wp2_with fail
  refine HM.out.mono ?_
  rintro e w' ⟨rfl, hw⟩
  subst hw
  go_wp2
  clear c0 c1
  go_loopg [13] T.length (fun g s13 wx => ∃ k : Nat, k + g = T.length ∧ s13 = .int .i64 k ∧ Hid (∀ j y, j < k → T[j]? = some y → (!y.used) = false) ∧ Hid (Grew w' wx))
  case atStart => exact ⟨0, by omega, rfl, Lib.hid (fun j y h => absurd h (by omega)), Lib.hid (Grew.refl _)⟩
  case round =>
    obtain ⟨k, hkg, rfl, HJ, HG⟩ := hrel
    cases gk with
    | zero =>
      have hkz : ¬ ((k : Int) < (T.length : Int)) := by omega
      have HE : Hid (res = -1) := Lib.hid (HN.out fun j y hy => HJ.out j y (by have := (List.getElem?_eq_some_iff.1 hy).1; omega) hy)
      go_wp2
      go_returns
      refine ⟨?_, HG.out⟩
      rw [HE.out, fv_no]
      rfl
    | succ g =>
      have hkz : (k : Int) < (T.length : Int) := by omega
      have hkl : k < T.length := by omega
      have hx := eo_get hkl
      have HX := Lib.hid hx
      have HC := Lib.hid (ord_in wr b T k (HR.out.grew HG.out) hkl)
      have hkw := wr1b hkl (by omega : T.length ≤ 4611686018427387904)
      generalize eo T k = x at HX HC
      clear hx
      simp only at HC
      cases hu : x.used with
      | false =>
        rw [hu] at HC
        have HE : Hid (res = k) := Lib.hid (HH.out _ _ HX.out (by rw [hu]; rfl) HJ.out)
        clear HX hu
        go_wp2_with fail
        refine HC.out.mono ?_
        rintro e w2 ⟨rfl, hg⟩
        have G2 := Lib.hid (HG.out.trans hg)
        clear hg
        go_wp2
        go_returns
        refine ⟨?_, G2.out⟩
        rw [HE.out, fv_at]
        rfl
      | true =>
        rw [hu] at HC
        have HN2 : Hid (∀ j y, j < k + 1 → T[j]? = some y → (!y.used) = false) := Lib.hid fun j y hj hy => by
          by_cases hjk : j = k
          · subst hjk
            rw [HX.out] at hy
            cases hy
            rw [hu]
            rfl
          · exact HJ.out j y (by omega) hy
        clear HX hu
        go_wp2_with fail
        refine HC.out.mono ?_
        rintro e w2 ⟨rfl, hg⟩
        have G2 := Lib.hid (HG.out.trans hg)
        clear hg
        go_wp2
        go_roundg g
        case measure => omega
        case rel => exact ⟨k + 1, by omega, by simp, HN2, G2⟩
theorem ord_add (w : World) (b : Nat) (T : List Or) (x : Or) (h : RowO w b T) (hl : T.length * 80 ≤ 140737488355328) :
    Calls Try.prog 47 #[.pointer (some ⟨b, 0, none⟩), orv x] w fun e w' => ∃ v', e = .returned (.tuple #[v', .int .i64 (if ordfree T = -1 then 0 else ordfree T), .int .i64 (if ordfree T = -1 then 8 else 0)]) ∧ Ors w' v' (if ordfree T = -1 then [] else T.set (ordfree T).toNat x) ∧ Grew w w' := by
  have hi6 : orv x = .agg #[.bool x.used, .int .i64 x.label, .int .i64 x.who, .int .i64 x.side, .int .i64 x.base, .int .i64 x.quote, .int .u64 x.price, .int .u64 x.left, .int .u64 x.res, .int .i64 x.seq] := rfl
  have HPUT := Lib.hid (fun W k (hr : RowO W b T) hk => ord_put W b T k x hr hk hl)
  rw [hi6] at HPUT
  rw [hi6]
  clear hi6
  have ga : Grew w (w.alloc (.cells #[.bool x.used, .int .i64 x.label, .int .i64 x.who, .int .i64 x.side, .int .i64 x.base, .int .i64 x.quote, .int .u64 x.price, .int .u64 x.left, .int .u64 x.res, .int .i64 x.seq] 26)) := by unfold Grew; go_grown
  have hbx : (w.alloc (.cells #[.bool x.used, .int .i64 x.label, .int .i64 x.who, .int .i64 x.side, .int .i64 x.base, .int .i64 x.quote, .int .u64 x.price, .int .u64 x.left, .int .u64 x.res, .int .i64 x.seq] 26)).heap[w.heap.size]? = some (.cells #[.bool x.used, .int .i64 x.label, .int .i64 x.who, .int .i64 x.side, .int .i64 x.base, .int .i64 x.quote, .int .u64 x.price, .int .u64 x.left, .int .u64 x.res, .int .i64 x.seq] 26 (0, 0)) := blk_new w _
  have HF := Lib.hid (ord_first _ b T (h.grew ga) hl)
  have HR := Lib.hid (h.grew ga)
  have GA := Lib.hid ga
  have BX := Lib.hid hbx
  clear h ga hbx
  rcases ord_freec T with e | ⟨k, e, hk⟩
  · rw [e, fv_no] at HF
    rw [e]
    simp only [if_true]
    clear e HPUT
    go_enter Try.func47, Try.ntmps47
    go_wp2_with fail
    refine HF.out.mono ?_
    rintro e w1 ⟨rfl, hg⟩
    have G1 := Lib.hid (GA.out.trans hg)
    clear hg
    go_wp2
    go_returns
    exact ⟨_, rfl, rw_none _, G1.out⟩
  · have hkn : ¬ (k : Int) = -1 := by omega
    rw [e, fv_at] at HF
    rw [e]
    rw [if_neg hkn, if_neg hkn, if_neg hkn, Int.toNat_natCast]
    have HPK := Lib.hid (fun W hr => HPUT.out W k hr hk)
    clear e hkn hk HPUT
    generalize T.set k x = R at *
    go_enter Try.func47, Try.ntmps47
    go_wp2_with fail
    refine HF.out.mono ?_
    rintro e w1 ⟨rfl, hg⟩
    have G1 := Lib.hid (GA.out.trans hg)
    have HP := Lib.hid (HPK.out w1 (HR.out.grew hg))
    obtain ⟨x0, x1, x2, x3, x4, x5, x6, x7, x8, x9⟩ := ord_cells (blk_keep BX.out hg)
    clear hg
    go_wp2_with fail
    refine HP.out.mono ?_
    rintro e w2 ⟨v', rfl, hi, hg⟩
    have G2 := Lib.hid (G1.out.trans hg)
    have HI := Lib.hid hi
    obtain ⟨A, c, rfl, _⟩ := hi.slice
    clear hi hg x0 x1 x2 x3 x4 x5 x6 x7 x8 x9
    go_wp2
    go_returns
    exact ⟨_, rfl, HI.out, G2.out⟩
end Go.Proofs.Ytmnfajplfnfgpaa.OA
