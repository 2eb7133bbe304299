/-
  What puts a field of an entry behind bytes.
  Conditions: those that each lemma names.
-/
import Derived.Test.YtmnfajplfnfgpabUH
import Derived.Test.YtmnfajplfnfgpabRefs
import Derived.IntWalk
namespace Go.Proofs.Ytmnfajplfnfgpab.UI
set_option maxRecDepth 100000
open Go Go.RowKit Go.Lib Go.Proofs.Ytmnfajplfnfgpab Go.Proofs.Ytmnfajplfnfgpab.Facts Go.Proofs.Ytmnfajplfnfgpab.Ints Go.Proofs.Ytmnfajplfnfgpab.PA Go.Proofs.Ytmnfajplfnfgpab.UA Go.Proofs.Ytmnfajplfnfgpab.UM Go.Proofs.Ytmnfajplfnfgpab.UB Go.Proofs.Ytmnfajplfnfgpab.UC Go.Proofs.Ytmnfajplfnfgpab.UD Go.Proofs.Ytmnfajplfnfgpab.UF Go.Proofs.Ytmnfajplfnfgpab.UH Go.Proofs.Ytmnfajplfnfgpab.Bytes Go.Proofs.Ytmnfajplfnfgpab.Puts


abbrev Al : Nat → Prop := fun _ => True
theorem own_al {w : World} {base n : Nat} {v : Value} {l : List UInt8} (h : w.ownsRow base 5 1 v n (bv l)) (hn : n = l.length) : Rd Al w v l := (Rd.of_own h hn).mono fun _ _ => trivial
/-- A row of bytes of one's own. -/
def Ob (base : Nat) (w : World) (v : Value) (l : List UInt8) : Prop := w.ownsRow base 5 1 v l.length (bv l)
theorem Ob.rd {base : Nat} {w : World} {v : Value} {l : List UInt8} (h : Ob base w v l) : Rd Al w v l := own_al h rfl
theorem Ob.grew {base : Nat} {w w' : World} {v : Value} {l : List UInt8} (h : Ob base w v l) (hg : Grew w w') : Ob base w' v l := by
  refine ⟨h.1, h.2.imp id fun ⟨g, cap, cur, h1, h2, h3, h4⟩ => ⟨g, cap, cur, h1, h2, ?_, h4⟩⟩
  exact keepB h3 hg
theorem Ob.base {base b0 : Nat} {w : World} {v : Value} {l : List UInt8} (h : Ob base w v l) (hb : b0 ≤ base) : Ob b0 w v l :=
  ⟨h.1, h.2.imp id fun ⟨g, cap, cur, h1, h2, h3, h4⟩ => ⟨g, cap, cur, h1, Nat.le_trans hb h2, h3, h4⟩⟩
theorem Ob.nil (base : Nat) (w : World) : Ob base w (.slice none 0 0) [] := World.ownsRow_nil w base 5 1
theorem Ob.of {base : Nat} {w : World} {v : Value} {l : List UInt8} {n : Nat} (h : w.ownsRow base 5 1 v n (bv l)) (hn : n = l.length) : Ob base w v l := by
  subst hn
  exact h
theorem conv_in (n : Nat) (h : n < 128) (W : World) : (convert 3 23 (.int .i64 (n : Int))).run Try.prog W = .ok (.int .u64 (n : Int)) W := by
  go_simp
  try (rw [IntWalk.u64_in _ (by omega)])
set_option maxHeartbeats 1000000 in
theorem put0 (v : Value) (l : List UInt8) (r : Nat) (ln : Int) (lb : Int) (wh : Int) (sd : Int) (bs : Int) (qt : Int) (qn : Nat) (pr : Nat) (st : Int) (a b : Nat) (w : World) (h : Rd Al w v l) (hl : l.length + 8 ≤ 140737488355328) (ha : w.heap[a]? = some (.cells #[.int .i64 8] 3 (0, 0))) (hb : w.heap[b]? = some (.cells #[.func (.func 37) #[] #[]] 67 (0, 0))) :
    Calls Try.prog 53 #[v, .agg #[.int .u64 (r : Int), .int .i64 ln, .int .i64 lb, .int .i64 wh, .int .i64 sd, .int .i64 bs, .int .i64 qt, .int .u64 (qn : Int), .int .u64 (pr : Int), .int .i64 st], .pointer (some ⟨b, 0, none⟩), .pointer (some ⟨a, 0, none⟩)] w fun e w' => ∃ v', e = .returned v' ∧ Ob w.heap.size w' v' (l ++ be 8 r) ∧ Grew w w' := by
  obtain ⟨A, c, rfl, _⟩ := id h
  have HR := Lib.hid h
  have HL := Lib.hid hl
  have BX := Lib.hid (blk_new w (.cells #[.int .u64 (r : Int), .int .i64 ln, .int .i64 lb, .int .i64 wh, .int .i64 sd, .int .i64 bs, .int .i64 qt, .int .u64 (qn : Int), .int .u64 (pr : Int), .int .i64 st] 25))
  have GA : Hid (Grew w (w.alloc (.cells #[.int .u64 (r : Int), .int .i64 ln, .int .i64 lb, .int .i64 wh, .int .i64 sd, .int .i64 bs, .int .i64 qt, .int .u64 (qn : Int), .int .u64 (pr : Int), .int .i64 st] 25))) := Lib.hid (by unfold Grew; go_grown)
  have CA := Lib.hid (one_cell ha)
  have CB := Lib.hid (one_cell hb)
  have HNUM := Lib.hid (fun W (hg : Grew w W) => Puts.num_any Al _ l r 8 W (h.grew hg) hl)
  clear h hl ha hb
  go_enter Try.func53, Try.ntmps53
  go_wp2
  refine Facts.wp_region_text (by kernel_rfl) (by kernel_rfl) ?_
  apply Facts.Lex.exact [] _ (by kernel_rfl)
  · intro u W hC _
    unfold Facts.one
    go_simp
    first | exact ⟨Grew.refl _, rfl⟩ | rfl
  simp only [Act.put, List.setIfInBounds_toArray, List.set_cons_zero, List.set_cons_succ, Nat.zero_add]
  apply Facts.Lex.exact [] _ (by kernel_rfl)
  · intro u W hC _
    have j0 := cellG (GA.out.trans hC) CB.out
    unfold Facts.one
    go_simp
    first | exact ⟨Grew.refl _, rfl⟩ | rfl
  simp only [Act.put, List.setIfInBounds_toArray, List.set_cons_zero, List.set_cons_succ, Nat.reduceAdd]
  apply Facts.Lex.exact [] (.pointer (some ⟨w.heap.size, 0, none⟩)) (by kernel_rfl)
  · intro u W hC _
    unfold Facts.one
    go_simp
    exact ((at0 w.heap.size W).mono fun e w' ⟨he, hw⟩ => ⟨_, he, by rw [← hw]; exact Grew.refl _, rfl⟩)
  simp only [Act.put, List.setIfInBounds_toArray, List.set_cons_zero, List.set_cons_succ, Nat.reduceAdd]
  iterate 2
    apply Facts.Lex.exact [] _ (by kernel_rfl)
    · intro u W hC _
      obtain ⟨b0, b1, b2, b3, b4, b5, b6, b7, b8, b9⟩ := ten_c (blk_keep BX.out hC)
      unfold Facts.one
      go_simp
      first | exact ⟨Grew.refl _, rfl⟩ | rfl
    simp only [Act.put, List.setIfInBounds_toArray, List.set_cons_zero, List.set_cons_succ, Nat.reduceAdd]
  apply Facts.Lex.exact [] _ (by kernel_rfl)
  · intro u W hC _
    have j0 := cellG (GA.out.trans hC) CA.out
    unfold Facts.one
    go_simp
    first | exact ⟨Grew.refl _, rfl⟩ | rfl
  simp only [Act.put, List.setIfInBounds_toArray, List.set_cons_zero, List.set_cons_succ, Nat.reduceAdd]
  refine Facts.Lex.know [] (fun v w' => Ob w.heap.size w' v (l ++ be 8 r)) (by kernel_rfl) (fun _ _ _ h hg => h.grew hg) ?_ ?_
  · intro u W hC hK
    clear hK
    have hN := HNUM.out W (GA.out.trans hC)
    unfold Facts.one
    go_simp
    refine hN.mono ?_
    rintro e w' ⟨v', rfl, hown, hg⟩
    exact ⟨_, rfl, hg, (Ob.of hown (by rw [List.length_append, be_length])).base (GA.out.trans hC).size⟩
  simp only [Act.put, List.setIfInBounds_toArray, List.set_cons_zero, List.set_cons_succ, Nat.reduceAdd]
  refine Facts.Lex.know [6] (fun v w' => Ob w.heap.size w' v (l ++ be 8 r)) (by kernel_rfl) (fun _ _ _ h hg => h.grew hg) ?_ ?_
  · intro u W hC hK
    have HY : Hid (Ob w.heap.size W (u 6) (l ++ be 8 r)) := Lib.hid hK.1
    clear hK
    unfold Facts.one
    go_simp
    exact ⟨Grew.refl _, HY.out⟩
  simp only [Act.put, List.setIfInBounds_toArray, List.set_cons_zero, List.set_cons_succ, Nat.reduceAdd]
  refine Facts.Lex.done fun u W2 hC hL => ?_
  have HY : Hid (Ob w.heap.size W2 (u 7) (l ++ be 8 r)) := Lib.hid (hL _ (List.mem_cons_self ..))
  have G2 := Lib.hid (GA.out.trans hC)
  clear hC hL
  generalize u 7 = v2 at *
  obtain ⟨A2, c2, rfl, _⟩ := HY.out.rd
  go_wp2
  go_returns
  exact ⟨_, rfl, HY.out, G2.out⟩

set_option maxHeartbeats 1000000 in
theorem put1 (v : Value) (l : List UInt8) (r : Nat) (ln : Int) (lb : Int) (wh : Int) (sd : Int) (bs : Int) (qt : Int) (qn : Nat) (pr : Nat) (st : Int) (a b : Nat) (m : Nat) (hm : ln = (m : Int)) (hm8 : m < 128) (w : World) (h : Rd Al w v l) (hl : l.length + 8 ≤ 140737488355328) (ha : w.heap[a]? = some (.cells #[.int .i64 1] 3 (0, 0))) (hb : w.heap[b]? = some (.cells #[.func (.func 39) #[] #[]] 70 (0, 0))) :
    Calls Try.prog 57 #[v, .agg #[.int .u64 (r : Int), .int .i64 ln, .int .i64 lb, .int .i64 wh, .int .i64 sd, .int .i64 bs, .int .i64 qt, .int .u64 (qn : Int), .int .u64 (pr : Int), .int .i64 st], .pointer (some ⟨b, 0, none⟩), .pointer (some ⟨a, 0, none⟩)] w fun e w' => ∃ v', e = .returned v' ∧ Ob w.heap.size w' v' (l ++ be 1 m) ∧ Grew w w' := by
  subst hm
  obtain ⟨A, c, rfl, _⟩ := id h
  have HR := Lib.hid h
  have HL := Lib.hid hl
  have BX := Lib.hid (blk_new w (.cells #[.int .u64 (r : Int), .int .i64 (m : Int), .int .i64 lb, .int .i64 wh, .int .i64 sd, .int .i64 bs, .int .i64 qt, .int .u64 (qn : Int), .int .u64 (pr : Int), .int .i64 st] 25))
  have GA : Hid (Grew w (w.alloc (.cells #[.int .u64 (r : Int), .int .i64 (m : Int), .int .i64 lb, .int .i64 wh, .int .i64 sd, .int .i64 bs, .int .i64 qt, .int .u64 (qn : Int), .int .u64 (pr : Int), .int .i64 st] 25))) := Lib.hid (by unfold Grew; go_grown)
  have CA := Lib.hid (one_cell ha)
  have CB := Lib.hid (one_cell hb)
  have HNUM := Lib.hid (fun W (hg : Grew w W) => Puts.num_any Al _ l m 1 W (h.grew hg) hl)
  have HCV := Lib.hid (fun W => conv_in m hm8 W)
  clear hm8
  clear h hl ha hb
  go_enter Try.func57, Try.ntmps57
  go_wp2
  refine Facts.wp_region_text (by kernel_rfl) (by kernel_rfl) ?_
  apply Facts.Lex.exact [] _ (by kernel_rfl)
  · intro u W hC _
    unfold Facts.one
    go_simp
    first | exact ⟨Grew.refl _, rfl⟩ | rfl
  simp only [Act.put, List.setIfInBounds_toArray, List.set_cons_zero, List.set_cons_succ, Nat.zero_add]
  apply Facts.Lex.exact [] _ (by kernel_rfl)
  · intro u W hC _
    have j0 := cellG (GA.out.trans hC) CB.out
    unfold Facts.one
    go_simp
    first | exact ⟨Grew.refl _, rfl⟩ | rfl
  simp only [Act.put, List.setIfInBounds_toArray, List.set_cons_zero, List.set_cons_succ, Nat.reduceAdd]
  apply Facts.Lex.exact [] (.pointer (some ⟨w.heap.size, 1, none⟩)) (by kernel_rfl)
  · intro u W hC _
    unfold Facts.one
    go_simp
    exact ((at1 w.heap.size W).mono fun e w' ⟨he, hw⟩ => ⟨_, he, by rw [← hw]; exact Grew.refl _, rfl⟩)
  simp only [Act.put, List.setIfInBounds_toArray, List.set_cons_zero, List.set_cons_succ, Nat.reduceAdd]
  iterate 2
    apply Facts.Lex.exact [] _ (by kernel_rfl)
    · intro u W hC _
      obtain ⟨b0, b1, b2, b3, b4, b5, b6, b7, b8, b9⟩ := ten_c (blk_keep BX.out hC)
      unfold Facts.one
      go_simp
      first | exact ⟨Grew.refl _, rfl⟩ | rfl
    simp only [Act.put, List.setIfInBounds_toArray, List.set_cons_zero, List.set_cons_succ, Nat.reduceAdd]
  apply Facts.Lex.exact [] (.int .u64 (m : Int)) (by kernel_rfl)
  · intro u W hC _
    have hcv := HCV.out W
    unfold Facts.one
    go_simp
    first | exact ⟨Grew.refl _, rfl⟩ | rfl
  simp only [Act.put, List.setIfInBounds_toArray, List.set_cons_zero, List.set_cons_succ, Nat.reduceAdd]
  apply Facts.Lex.exact [] _ (by kernel_rfl)
  · intro u W hC _
    have j0 := cellG (GA.out.trans hC) CA.out
    unfold Facts.one
    go_simp
    first | exact ⟨Grew.refl _, rfl⟩ | rfl
  simp only [Act.put, List.setIfInBounds_toArray, List.set_cons_zero, List.set_cons_succ, Nat.reduceAdd]
  refine Facts.Lex.know [] (fun v w' => Ob w.heap.size w' v (l ++ be 1 m)) (by kernel_rfl) (fun _ _ _ h hg => h.grew hg) ?_ ?_
  · intro u W hC hK
    clear hK
    have hN := HNUM.out W (GA.out.trans hC)
    unfold Facts.one
    go_simp
    refine hN.mono ?_
    rintro e w' ⟨v', rfl, hown, hg⟩
    exact ⟨_, rfl, hg, (Ob.of hown (by rw [List.length_append, be_length])).base (GA.out.trans hC).size⟩
  simp only [Act.put, List.setIfInBounds_toArray, List.set_cons_zero, List.set_cons_succ, Nat.reduceAdd]
  refine Facts.Lex.know [7] (fun v w' => Ob w.heap.size w' v (l ++ be 1 m)) (by kernel_rfl) (fun _ _ _ h hg => h.grew hg) ?_ ?_
  · intro u W hC hK
    have HY : Hid (Ob w.heap.size W (u 7) (l ++ be 1 m)) := Lib.hid hK.1
    clear hK
    unfold Facts.one
    go_simp
    exact ⟨Grew.refl _, HY.out⟩
  simp only [Act.put, List.setIfInBounds_toArray, List.set_cons_zero, List.set_cons_succ, Nat.reduceAdd]
  refine Facts.Lex.done fun u W2 hC hL => ?_
  have HY : Hid (Ob w.heap.size W2 (u 8) (l ++ be 1 m)) := Lib.hid (hL _ (List.mem_cons_self ..))
  have G2 := Lib.hid (GA.out.trans hC)
  clear hC hL
  generalize u 8 = v2 at *
  obtain ⟨A2, c2, rfl, _⟩ := HY.out.rd
  go_wp2
  go_returns
  exact ⟨_, rfl, HY.out, G2.out⟩

set_option maxHeartbeats 1000000 in
theorem put2 (v : Value) (l : List UInt8) (r : Nat) (ln : Int) (lb : Int) (wh : Int) (sd : Int) (bs : Int) (qt : Int) (qn : Nat) (pr : Nat) (st : Int) (a b : Nat) (m : Nat) (hm : lb = (m : Int)) (hm8 : m < 128) (w : World) (h : Rd Al w v l) (hl : l.length + 8 ≤ 140737488355328) (ha : w.heap[a]? = some (.cells #[.int .i64 1] 3 (0, 0))) (hb : w.heap[b]? = some (.cells #[.func (.func 40) #[] #[]] 70 (0, 0))) :
    Calls Try.prog 57 #[v, .agg #[.int .u64 (r : Int), .int .i64 ln, .int .i64 lb, .int .i64 wh, .int .i64 sd, .int .i64 bs, .int .i64 qt, .int .u64 (qn : Int), .int .u64 (pr : Int), .int .i64 st], .pointer (some ⟨b, 0, none⟩), .pointer (some ⟨a, 0, none⟩)] w fun e w' => ∃ v', e = .returned v' ∧ Ob w.heap.size w' v' (l ++ be 1 m) ∧ Grew w w' := by
  subst hm
  obtain ⟨A, c, rfl, _⟩ := id h
  have HR := Lib.hid h
  have HL := Lib.hid hl
  have BX := Lib.hid (blk_new w (.cells #[.int .u64 (r : Int), .int .i64 ln, .int .i64 (m : Int), .int .i64 wh, .int .i64 sd, .int .i64 bs, .int .i64 qt, .int .u64 (qn : Int), .int .u64 (pr : Int), .int .i64 st] 25))
  have GA : Hid (Grew w (w.alloc (.cells #[.int .u64 (r : Int), .int .i64 ln, .int .i64 (m : Int), .int .i64 wh, .int .i64 sd, .int .i64 bs, .int .i64 qt, .int .u64 (qn : Int), .int .u64 (pr : Int), .int .i64 st] 25))) := Lib.hid (by unfold Grew; go_grown)
  have CA := Lib.hid (one_cell ha)
  have CB := Lib.hid (one_cell hb)
  have HNUM := Lib.hid (fun W (hg : Grew w W) => Puts.num_any Al _ l m 1 W (h.grew hg) hl)
  have HCV := Lib.hid (fun W => conv_in m hm8 W)
  clear hm8
  clear h hl ha hb
  go_enter Try.func57, Try.ntmps57
  go_wp2
  refine Facts.wp_region_text (by kernel_rfl) (by kernel_rfl) ?_
  apply Facts.Lex.exact [] _ (by kernel_rfl)
  · intro u W hC _
    unfold Facts.one
    go_simp
    first | exact ⟨Grew.refl _, rfl⟩ | rfl
  simp only [Act.put, List.setIfInBounds_toArray, List.set_cons_zero, List.set_cons_succ, Nat.zero_add]
  apply Facts.Lex.exact [] _ (by kernel_rfl)
  · intro u W hC _
    have j0 := cellG (GA.out.trans hC) CB.out
    unfold Facts.one
    go_simp
    first | exact ⟨Grew.refl _, rfl⟩ | rfl
  simp only [Act.put, List.setIfInBounds_toArray, List.set_cons_zero, List.set_cons_succ, Nat.reduceAdd]
  apply Facts.Lex.exact [] (.pointer (some ⟨w.heap.size, 2, none⟩)) (by kernel_rfl)
  · intro u W hC _
    unfold Facts.one
    go_simp
    exact ((at2 w.heap.size W).mono fun e w' ⟨he, hw⟩ => ⟨_, he, by rw [← hw]; exact Grew.refl _, rfl⟩)
  simp only [Act.put, List.setIfInBounds_toArray, List.set_cons_zero, List.set_cons_succ, Nat.reduceAdd]
  iterate 2
    apply Facts.Lex.exact [] _ (by kernel_rfl)
    · intro u W hC _
      obtain ⟨b0, b1, b2, b3, b4, b5, b6, b7, b8, b9⟩ := ten_c (blk_keep BX.out hC)
      unfold Facts.one
      go_simp
      first | exact ⟨Grew.refl _, rfl⟩ | rfl
    simp only [Act.put, List.setIfInBounds_toArray, List.set_cons_zero, List.set_cons_succ, Nat.reduceAdd]
  apply Facts.Lex.exact [] (.int .u64 (m : Int)) (by kernel_rfl)
  · intro u W hC _
    have hcv := HCV.out W
    unfold Facts.one
    go_simp
    first | exact ⟨Grew.refl _, rfl⟩ | rfl
  simp only [Act.put, List.setIfInBounds_toArray, List.set_cons_zero, List.set_cons_succ, Nat.reduceAdd]
  apply Facts.Lex.exact [] _ (by kernel_rfl)
  · intro u W hC _
    have j0 := cellG (GA.out.trans hC) CA.out
    unfold Facts.one
    go_simp
    first | exact ⟨Grew.refl _, rfl⟩ | rfl
  simp only [Act.put, List.setIfInBounds_toArray, List.set_cons_zero, List.set_cons_succ, Nat.reduceAdd]
  refine Facts.Lex.know [] (fun v w' => Ob w.heap.size w' v (l ++ be 1 m)) (by kernel_rfl) (fun _ _ _ h hg => h.grew hg) ?_ ?_
  · intro u W hC hK
    clear hK
    have hN := HNUM.out W (GA.out.trans hC)
    unfold Facts.one
    go_simp
    refine hN.mono ?_
    rintro e w' ⟨v', rfl, hown, hg⟩
    exact ⟨_, rfl, hg, (Ob.of hown (by rw [List.length_append, be_length])).base (GA.out.trans hC).size⟩
  simp only [Act.put, List.setIfInBounds_toArray, List.set_cons_zero, List.set_cons_succ, Nat.reduceAdd]
  refine Facts.Lex.know [7] (fun v w' => Ob w.heap.size w' v (l ++ be 1 m)) (by kernel_rfl) (fun _ _ _ h hg => h.grew hg) ?_ ?_
  · intro u W hC hK
    have HY : Hid (Ob w.heap.size W (u 7) (l ++ be 1 m)) := Lib.hid hK.1
    clear hK
    unfold Facts.one
    go_simp
    exact ⟨Grew.refl _, HY.out⟩
  simp only [Act.put, List.setIfInBounds_toArray, List.set_cons_zero, List.set_cons_succ, Nat.reduceAdd]
  refine Facts.Lex.done fun u W2 hC hL => ?_
  have HY : Hid (Ob w.heap.size W2 (u 8) (l ++ be 1 m)) := Lib.hid (hL _ (List.mem_cons_self ..))
  have G2 := Lib.hid (GA.out.trans hC)
  clear hC hL
  generalize u 8 = v2 at *
  obtain ⟨A2, c2, rfl, _⟩ := HY.out.rd
  go_wp2
  go_returns
  exact ⟨_, rfl, HY.out, G2.out⟩

set_option maxHeartbeats 1000000 in
theorem put3 (v : Value) (l : List UInt8) (r : Nat) (ln : Int) (lb : Int) (wh : Int) (sd : Int) (bs : Int) (qt : Int) (qn : Nat) (pr : Nat) (st : Int) (a b : Nat) (m : Nat) (hm : wh = (m : Int)) (hm8 : m < 128) (w : World) (h : Rd Al w v l) (hl : l.length + 8 ≤ 140737488355328) (ha : w.heap[a]? = some (.cells #[.int .i64 1] 3 (0, 0))) (hb : w.heap[b]? = some (.cells #[.func (.func 41) #[] #[]] 70 (0, 0))) :
    Calls Try.prog 57 #[v, .agg #[.int .u64 (r : Int), .int .i64 ln, .int .i64 lb, .int .i64 wh, .int .i64 sd, .int .i64 bs, .int .i64 qt, .int .u64 (qn : Int), .int .u64 (pr : Int), .int .i64 st], .pointer (some ⟨b, 0, none⟩), .pointer (some ⟨a, 0, none⟩)] w fun e w' => ∃ v', e = .returned v' ∧ Ob w.heap.size w' v' (l ++ be 1 m) ∧ Grew w w' := by
  subst hm
  obtain ⟨A, c, rfl, _⟩ := id h
  have HR := Lib.hid h
  have HL := Lib.hid hl
  have BX := Lib.hid (blk_new w (.cells #[.int .u64 (r : Int), .int .i64 ln, .int .i64 lb, .int .i64 (m : Int), .int .i64 sd, .int .i64 bs, .int .i64 qt, .int .u64 (qn : Int), .int .u64 (pr : Int), .int .i64 st] 25))
  have GA : Hid (Grew w (w.alloc (.cells #[.int .u64 (r : Int), .int .i64 ln, .int .i64 lb, .int .i64 (m : Int), .int .i64 sd, .int .i64 bs, .int .i64 qt, .int .u64 (qn : Int), .int .u64 (pr : Int), .int .i64 st] 25))) := Lib.hid (by unfold Grew; go_grown)
  have CA := Lib.hid (one_cell ha)
  have CB := Lib.hid (one_cell hb)
  have HNUM := Lib.hid (fun W (hg : Grew w W) => Puts.num_any Al _ l m 1 W (h.grew hg) hl)
  have HCV := Lib.hid (fun W => conv_in m hm8 W)
  clear hm8
  clear h hl ha hb
  go_enter Try.func57, Try.ntmps57
  go_wp2
  refine Facts.wp_region_text (by kernel_rfl) (by kernel_rfl) ?_
  apply Facts.Lex.exact [] _ (by kernel_rfl)
  · intro u W hC _
    unfold Facts.one
    go_simp
    first | exact ⟨Grew.refl _, rfl⟩ | rfl
  simp only [Act.put, List.setIfInBounds_toArray, List.set_cons_zero, List.set_cons_succ, Nat.zero_add]
  apply Facts.Lex.exact [] _ (by kernel_rfl)
  · intro u W hC _
    have j0 := cellG (GA.out.trans hC) CB.out
    unfold Facts.one
    go_simp
    first | exact ⟨Grew.refl _, rfl⟩ | rfl
  simp only [Act.put, List.setIfInBounds_toArray, List.set_cons_zero, List.set_cons_succ, Nat.reduceAdd]
  apply Facts.Lex.exact [] (.pointer (some ⟨w.heap.size, 3, none⟩)) (by kernel_rfl)
  · intro u W hC _
    unfold Facts.one
    go_simp
    exact ((at3 w.heap.size W).mono fun e w' ⟨he, hw⟩ => ⟨_, he, by rw [← hw]; exact Grew.refl _, rfl⟩)
  simp only [Act.put, List.setIfInBounds_toArray, List.set_cons_zero, List.set_cons_succ, Nat.reduceAdd]
  iterate 2
    apply Facts.Lex.exact [] _ (by kernel_rfl)
    · intro u W hC _
      obtain ⟨b0, b1, b2, b3, b4, b5, b6, b7, b8, b9⟩ := ten_c (blk_keep BX.out hC)
      unfold Facts.one
      go_simp
      first | exact ⟨Grew.refl _, rfl⟩ | rfl
    simp only [Act.put, List.setIfInBounds_toArray, List.set_cons_zero, List.set_cons_succ, Nat.reduceAdd]
  apply Facts.Lex.exact [] (.int .u64 (m : Int)) (by kernel_rfl)
  · intro u W hC _
    have hcv := HCV.out W
    unfold Facts.one
    go_simp
    first | exact ⟨Grew.refl _, rfl⟩ | rfl
  simp only [Act.put, List.setIfInBounds_toArray, List.set_cons_zero, List.set_cons_succ, Nat.reduceAdd]
  apply Facts.Lex.exact [] _ (by kernel_rfl)
  · intro u W hC _
    have j0 := cellG (GA.out.trans hC) CA.out
    unfold Facts.one
    go_simp
    first | exact ⟨Grew.refl _, rfl⟩ | rfl
  simp only [Act.put, List.setIfInBounds_toArray, List.set_cons_zero, List.set_cons_succ, Nat.reduceAdd]
  refine Facts.Lex.know [] (fun v w' => Ob w.heap.size w' v (l ++ be 1 m)) (by kernel_rfl) (fun _ _ _ h hg => h.grew hg) ?_ ?_
  · intro u W hC hK
    clear hK
    have hN := HNUM.out W (GA.out.trans hC)
    unfold Facts.one
    go_simp
    refine hN.mono ?_
    rintro e w' ⟨v', rfl, hown, hg⟩
    exact ⟨_, rfl, hg, (Ob.of hown (by rw [List.length_append, be_length])).base (GA.out.trans hC).size⟩
  simp only [Act.put, List.setIfInBounds_toArray, List.set_cons_zero, List.set_cons_succ, Nat.reduceAdd]
  refine Facts.Lex.know [7] (fun v w' => Ob w.heap.size w' v (l ++ be 1 m)) (by kernel_rfl) (fun _ _ _ h hg => h.grew hg) ?_ ?_
  · intro u W hC hK
    have HY : Hid (Ob w.heap.size W (u 7) (l ++ be 1 m)) := Lib.hid hK.1
    clear hK
    unfold Facts.one
    go_simp
    exact ⟨Grew.refl _, HY.out⟩
  simp only [Act.put, List.setIfInBounds_toArray, List.set_cons_zero, List.set_cons_succ, Nat.reduceAdd]
  refine Facts.Lex.done fun u W2 hC hL => ?_
  have HY : Hid (Ob w.heap.size W2 (u 8) (l ++ be 1 m)) := Lib.hid (hL _ (List.mem_cons_self ..))
  have G2 := Lib.hid (GA.out.trans hC)
  clear hC hL
  generalize u 8 = v2 at *
  obtain ⟨A2, c2, rfl, _⟩ := HY.out.rd
  go_wp2
  go_returns
  exact ⟨_, rfl, HY.out, G2.out⟩

set_option maxHeartbeats 1000000 in
theorem put4 (v : Value) (l : List UInt8) (r : Nat) (ln : Int) (lb : Int) (wh : Int) (sd : Int) (bs : Int) (qt : Int) (qn : Nat) (pr : Nat) (st : Int) (a b : Nat) (m : Nat) (hm : sd = (m : Int)) (hm8 : m < 128) (w : World) (h : Rd Al w v l) (hl : l.length + 8 ≤ 140737488355328) (ha : w.heap[a]? = some (.cells #[.int .i64 1] 3 (0, 0))) (hb : w.heap[b]? = some (.cells #[.func (.func 42) #[] #[]] 70 (0, 0))) :
    Calls Try.prog 57 #[v, .agg #[.int .u64 (r : Int), .int .i64 ln, .int .i64 lb, .int .i64 wh, .int .i64 sd, .int .i64 bs, .int .i64 qt, .int .u64 (qn : Int), .int .u64 (pr : Int), .int .i64 st], .pointer (some ⟨b, 0, none⟩), .pointer (some ⟨a, 0, none⟩)] w fun e w' => ∃ v', e = .returned v' ∧ Ob w.heap.size w' v' (l ++ be 1 m) ∧ Grew w w' := by
  subst hm
  obtain ⟨A, c, rfl, _⟩ := id h
  have HR := Lib.hid h
  have HL := Lib.hid hl
  have BX := Lib.hid (blk_new w (.cells #[.int .u64 (r : Int), .int .i64 ln, .int .i64 lb, .int .i64 wh, .int .i64 (m : Int), .int .i64 bs, .int .i64 qt, .int .u64 (qn : Int), .int .u64 (pr : Int), .int .i64 st] 25))
  have GA : Hid (Grew w (w.alloc (.cells #[.int .u64 (r : Int), .int .i64 ln, .int .i64 lb, .int .i64 wh, .int .i64 (m : Int), .int .i64 bs, .int .i64 qt, .int .u64 (qn : Int), .int .u64 (pr : Int), .int .i64 st] 25))) := Lib.hid (by unfold Grew; go_grown)
  have CA := Lib.hid (one_cell ha)
  have CB := Lib.hid (one_cell hb)
  have HNUM := Lib.hid (fun W (hg : Grew w W) => Puts.num_any Al _ l m 1 W (h.grew hg) hl)
  have HCV := Lib.hid (fun W => conv_in m hm8 W)
  clear hm8
  clear h hl ha hb
  go_enter Try.func57, Try.ntmps57
  go_wp2
  refine Facts.wp_region_text (by kernel_rfl) (by kernel_rfl) ?_
  apply Facts.Lex.exact [] _ (by kernel_rfl)
  · intro u W hC _
    unfold Facts.one
    go_simp
    first | exact ⟨Grew.refl _, rfl⟩ | rfl
  simp only [Act.put, List.setIfInBounds_toArray, List.set_cons_zero, List.set_cons_succ, Nat.zero_add]
  apply Facts.Lex.exact [] _ (by kernel_rfl)
  · intro u W hC _
    have j0 := cellG (GA.out.trans hC) CB.out
    unfold Facts.one
    go_simp
    first | exact ⟨Grew.refl _, rfl⟩ | rfl
  simp only [Act.put, List.setIfInBounds_toArray, List.set_cons_zero, List.set_cons_succ, Nat.reduceAdd]
  apply Facts.Lex.exact [] (.pointer (some ⟨w.heap.size, 4, none⟩)) (by kernel_rfl)
  · intro u W hC _
    unfold Facts.one
    go_simp
    exact ((at4 w.heap.size W).mono fun e w' ⟨he, hw⟩ => ⟨_, he, by rw [← hw]; exact Grew.refl _, rfl⟩)
  simp only [Act.put, List.setIfInBounds_toArray, List.set_cons_zero, List.set_cons_succ, Nat.reduceAdd]
  iterate 2
    apply Facts.Lex.exact [] _ (by kernel_rfl)
    · intro u W hC _
      obtain ⟨b0, b1, b2, b3, b4, b5, b6, b7, b8, b9⟩ := ten_c (blk_keep BX.out hC)
      unfold Facts.one
      go_simp
      first | exact ⟨Grew.refl _, rfl⟩ | rfl
    simp only [Act.put, List.setIfInBounds_toArray, List.set_cons_zero, List.set_cons_succ, Nat.reduceAdd]
  apply Facts.Lex.exact [] (.int .u64 (m : Int)) (by kernel_rfl)
  · intro u W hC _
    have hcv := HCV.out W
    unfold Facts.one
    go_simp
    first | exact ⟨Grew.refl _, rfl⟩ | rfl
  simp only [Act.put, List.setIfInBounds_toArray, List.set_cons_zero, List.set_cons_succ, Nat.reduceAdd]
  apply Facts.Lex.exact [] _ (by kernel_rfl)
  · intro u W hC _
    have j0 := cellG (GA.out.trans hC) CA.out
    unfold Facts.one
    go_simp
    first | exact ⟨Grew.refl _, rfl⟩ | rfl
  simp only [Act.put, List.setIfInBounds_toArray, List.set_cons_zero, List.set_cons_succ, Nat.reduceAdd]
  refine Facts.Lex.know [] (fun v w' => Ob w.heap.size w' v (l ++ be 1 m)) (by kernel_rfl) (fun _ _ _ h hg => h.grew hg) ?_ ?_
  · intro u W hC hK
    clear hK
    have hN := HNUM.out W (GA.out.trans hC)
    unfold Facts.one
    go_simp
    refine hN.mono ?_
    rintro e w' ⟨v', rfl, hown, hg⟩
    exact ⟨_, rfl, hg, (Ob.of hown (by rw [List.length_append, be_length])).base (GA.out.trans hC).size⟩
  simp only [Act.put, List.setIfInBounds_toArray, List.set_cons_zero, List.set_cons_succ, Nat.reduceAdd]
  refine Facts.Lex.know [7] (fun v w' => Ob w.heap.size w' v (l ++ be 1 m)) (by kernel_rfl) (fun _ _ _ h hg => h.grew hg) ?_ ?_
  · intro u W hC hK
    have HY : Hid (Ob w.heap.size W (u 7) (l ++ be 1 m)) := Lib.hid hK.1
    clear hK
    unfold Facts.one
    go_simp
    exact ⟨Grew.refl _, HY.out⟩
  simp only [Act.put, List.setIfInBounds_toArray, List.set_cons_zero, List.set_cons_succ, Nat.reduceAdd]
  refine Facts.Lex.done fun u W2 hC hL => ?_
  have HY : Hid (Ob w.heap.size W2 (u 8) (l ++ be 1 m)) := Lib.hid (hL _ (List.mem_cons_self ..))
  have G2 := Lib.hid (GA.out.trans hC)
  clear hC hL
  generalize u 8 = v2 at *
  obtain ⟨A2, c2, rfl, _⟩ := HY.out.rd
  go_wp2
  go_returns
  exact ⟨_, rfl, HY.out, G2.out⟩

set_option maxHeartbeats 1000000 in
theorem put5 (v : Value) (l : List UInt8) (r : Nat) (ln : Int) (lb : Int) (wh : Int) (sd : Int) (bs : Int) (qt : Int) (qn : Nat) (pr : Nat) (st : Int) (a b : Nat) (m : Nat) (hm : bs = (m : Int)) (hm8 : m < 128) (w : World) (h : Rd Al w v l) (hl : l.length + 8 ≤ 140737488355328) (ha : w.heap[a]? = some (.cells #[.int .i64 1] 3 (0, 0))) (hb : w.heap[b]? = some (.cells #[.func (.func 43) #[] #[]] 70 (0, 0))) :
    Calls Try.prog 57 #[v, .agg #[.int .u64 (r : Int), .int .i64 ln, .int .i64 lb, .int .i64 wh, .int .i64 sd, .int .i64 bs, .int .i64 qt, .int .u64 (qn : Int), .int .u64 (pr : Int), .int .i64 st], .pointer (some ⟨b, 0, none⟩), .pointer (some ⟨a, 0, none⟩)] w fun e w' => ∃ v', e = .returned v' ∧ Ob w.heap.size w' v' (l ++ be 1 m) ∧ Grew w w' := by
  subst hm
  obtain ⟨A, c, rfl, _⟩ := id h
  have HR := Lib.hid h
  have HL := Lib.hid hl
  have BX := Lib.hid (blk_new w (.cells #[.int .u64 (r : Int), .int .i64 ln, .int .i64 lb, .int .i64 wh, .int .i64 sd, .int .i64 (m : Int), .int .i64 qt, .int .u64 (qn : Int), .int .u64 (pr : Int), .int .i64 st] 25))
  have GA : Hid (Grew w (w.alloc (.cells #[.int .u64 (r : Int), .int .i64 ln, .int .i64 lb, .int .i64 wh, .int .i64 sd, .int .i64 (m : Int), .int .i64 qt, .int .u64 (qn : Int), .int .u64 (pr : Int), .int .i64 st] 25))) := Lib.hid (by unfold Grew; go_grown)
  have CA := Lib.hid (one_cell ha)
  have CB := Lib.hid (one_cell hb)
  have HNUM := Lib.hid (fun W (hg : Grew w W) => Puts.num_any Al _ l m 1 W (h.grew hg) hl)
  have HCV := Lib.hid (fun W => conv_in m hm8 W)
  clear hm8
  clear h hl ha hb
  go_enter Try.func57, Try.ntmps57
  go_wp2
  refine Facts.wp_region_text (by kernel_rfl) (by kernel_rfl) ?_
  apply Facts.Lex.exact [] _ (by kernel_rfl)
  · intro u W hC _
    unfold Facts.one
    go_simp
    first | exact ⟨Grew.refl _, rfl⟩ | rfl
  simp only [Act.put, List.setIfInBounds_toArray, List.set_cons_zero, List.set_cons_succ, Nat.zero_add]
  apply Facts.Lex.exact [] _ (by kernel_rfl)
  · intro u W hC _
    have j0 := cellG (GA.out.trans hC) CB.out
    unfold Facts.one
    go_simp
    first | exact ⟨Grew.refl _, rfl⟩ | rfl
  simp only [Act.put, List.setIfInBounds_toArray, List.set_cons_zero, List.set_cons_succ, Nat.reduceAdd]
  apply Facts.Lex.exact [] (.pointer (some ⟨w.heap.size, 5, none⟩)) (by kernel_rfl)
  · intro u W hC _
    unfold Facts.one
    go_simp
    exact ((at5 w.heap.size W).mono fun e w' ⟨he, hw⟩ => ⟨_, he, by rw [← hw]; exact Grew.refl _, rfl⟩)
  simp only [Act.put, List.setIfInBounds_toArray, List.set_cons_zero, List.set_cons_succ, Nat.reduceAdd]
  iterate 2
    apply Facts.Lex.exact [] _ (by kernel_rfl)
    · intro u W hC _
      obtain ⟨b0, b1, b2, b3, b4, b5, b6, b7, b8, b9⟩ := ten_c (blk_keep BX.out hC)
      unfold Facts.one
      go_simp
      first | exact ⟨Grew.refl _, rfl⟩ | rfl
    simp only [Act.put, List.setIfInBounds_toArray, List.set_cons_zero, List.set_cons_succ, Nat.reduceAdd]
  apply Facts.Lex.exact [] (.int .u64 (m : Int)) (by kernel_rfl)
  · intro u W hC _
    have hcv := HCV.out W
    unfold Facts.one
    go_simp
    first | exact ⟨Grew.refl _, rfl⟩ | rfl
  simp only [Act.put, List.setIfInBounds_toArray, List.set_cons_zero, List.set_cons_succ, Nat.reduceAdd]
  apply Facts.Lex.exact [] _ (by kernel_rfl)
  · intro u W hC _
    have j0 := cellG (GA.out.trans hC) CA.out
    unfold Facts.one
    go_simp
    first | exact ⟨Grew.refl _, rfl⟩ | rfl
  simp only [Act.put, List.setIfInBounds_toArray, List.set_cons_zero, List.set_cons_succ, Nat.reduceAdd]
  refine Facts.Lex.know [] (fun v w' => Ob w.heap.size w' v (l ++ be 1 m)) (by kernel_rfl) (fun _ _ _ h hg => h.grew hg) ?_ ?_
  · intro u W hC hK
    clear hK
    have hN := HNUM.out W (GA.out.trans hC)
    unfold Facts.one
    go_simp
    refine hN.mono ?_
    rintro e w' ⟨v', rfl, hown, hg⟩
    exact ⟨_, rfl, hg, (Ob.of hown (by rw [List.length_append, be_length])).base (GA.out.trans hC).size⟩
  simp only [Act.put, List.setIfInBounds_toArray, List.set_cons_zero, List.set_cons_succ, Nat.reduceAdd]
  refine Facts.Lex.know [7] (fun v w' => Ob w.heap.size w' v (l ++ be 1 m)) (by kernel_rfl) (fun _ _ _ h hg => h.grew hg) ?_ ?_
  · intro u W hC hK
    have HY : Hid (Ob w.heap.size W (u 7) (l ++ be 1 m)) := Lib.hid hK.1
    clear hK
    unfold Facts.one
    go_simp
    exact ⟨Grew.refl _, HY.out⟩
  simp only [Act.put, List.setIfInBounds_toArray, List.set_cons_zero, List.set_cons_succ, Nat.reduceAdd]
  refine Facts.Lex.done fun u W2 hC hL => ?_
  have HY : Hid (Ob w.heap.size W2 (u 8) (l ++ be 1 m)) := Lib.hid (hL _ (List.mem_cons_self ..))
  have G2 := Lib.hid (GA.out.trans hC)
  clear hC hL
  generalize u 8 = v2 at *
  obtain ⟨A2, c2, rfl, _⟩ := HY.out.rd
  go_wp2
  go_returns
  exact ⟨_, rfl, HY.out, G2.out⟩

set_option maxHeartbeats 1000000 in
theorem put6 (v : Value) (l : List UInt8) (r : Nat) (ln : Int) (lb : Int) (wh : Int) (sd : Int) (bs : Int) (qt : Int) (qn : Nat) (pr : Nat) (st : Int) (a b : Nat) (m : Nat) (hm : qt = (m : Int)) (hm8 : m < 128) (w : World) (h : Rd Al w v l) (hl : l.length + 8 ≤ 140737488355328) (ha : w.heap[a]? = some (.cells #[.int .i64 1] 3 (0, 0))) (hb : w.heap[b]? = some (.cells #[.func (.func 44) #[] #[]] 70 (0, 0))) :
    Calls Try.prog 57 #[v, .agg #[.int .u64 (r : Int), .int .i64 ln, .int .i64 lb, .int .i64 wh, .int .i64 sd, .int .i64 bs, .int .i64 qt, .int .u64 (qn : Int), .int .u64 (pr : Int), .int .i64 st], .pointer (some ⟨b, 0, none⟩), .pointer (some ⟨a, 0, none⟩)] w fun e w' => ∃ v', e = .returned v' ∧ Ob w.heap.size w' v' (l ++ be 1 m) ∧ Grew w w' := by
  subst hm
  obtain ⟨A, c, rfl, _⟩ := id h
  have HR := Lib.hid h
  have HL := Lib.hid hl
  have BX := Lib.hid (blk_new w (.cells #[.int .u64 (r : Int), .int .i64 ln, .int .i64 lb, .int .i64 wh, .int .i64 sd, .int .i64 bs, .int .i64 (m : Int), .int .u64 (qn : Int), .int .u64 (pr : Int), .int .i64 st] 25))
  have GA : Hid (Grew w (w.alloc (.cells #[.int .u64 (r : Int), .int .i64 ln, .int .i64 lb, .int .i64 wh, .int .i64 sd, .int .i64 bs, .int .i64 (m : Int), .int .u64 (qn : Int), .int .u64 (pr : Int), .int .i64 st] 25))) := Lib.hid (by unfold Grew; go_grown)
  have CA := Lib.hid (one_cell ha)
  have CB := Lib.hid (one_cell hb)
  have HNUM := Lib.hid (fun W (hg : Grew w W) => Puts.num_any Al _ l m 1 W (h.grew hg) hl)
  have HCV := Lib.hid (fun W => conv_in m hm8 W)
  clear hm8
  clear h hl ha hb
  go_enter Try.func57, Try.ntmps57
  go_wp2
  refine Facts.wp_region_text (by kernel_rfl) (by kernel_rfl) ?_
  apply Facts.Lex.exact [] _ (by kernel_rfl)
  · intro u W hC _
    unfold Facts.one
    go_simp
    first | exact ⟨Grew.refl _, rfl⟩ | rfl
  simp only [Act.put, List.setIfInBounds_toArray, List.set_cons_zero, List.set_cons_succ, Nat.zero_add]
  apply Facts.Lex.exact [] _ (by kernel_rfl)
  · intro u W hC _
    have j0 := cellG (GA.out.trans hC) CB.out
    unfold Facts.one
    go_simp
    first | exact ⟨Grew.refl _, rfl⟩ | rfl
  simp only [Act.put, List.setIfInBounds_toArray, List.set_cons_zero, List.set_cons_succ, Nat.reduceAdd]
  apply Facts.Lex.exact [] (.pointer (some ⟨w.heap.size, 6, none⟩)) (by kernel_rfl)
  · intro u W hC _
    unfold Facts.one
    go_simp
    exact ((at6 w.heap.size W).mono fun e w' ⟨he, hw⟩ => ⟨_, he, by rw [← hw]; exact Grew.refl _, rfl⟩)
  simp only [Act.put, List.setIfInBounds_toArray, List.set_cons_zero, List.set_cons_succ, Nat.reduceAdd]
  iterate 2
    apply Facts.Lex.exact [] _ (by kernel_rfl)
    · intro u W hC _
      obtain ⟨b0, b1, b2, b3, b4, b5, b6, b7, b8, b9⟩ := ten_c (blk_keep BX.out hC)
      unfold Facts.one
      go_simp
      first | exact ⟨Grew.refl _, rfl⟩ | rfl
    simp only [Act.put, List.setIfInBounds_toArray, List.set_cons_zero, List.set_cons_succ, Nat.reduceAdd]
  apply Facts.Lex.exact [] (.int .u64 (m : Int)) (by kernel_rfl)
  · intro u W hC _
    have hcv := HCV.out W
    unfold Facts.one
    go_simp
    first | exact ⟨Grew.refl _, rfl⟩ | rfl
  simp only [Act.put, List.setIfInBounds_toArray, List.set_cons_zero, List.set_cons_succ, Nat.reduceAdd]
  apply Facts.Lex.exact [] _ (by kernel_rfl)
  · intro u W hC _
    have j0 := cellG (GA.out.trans hC) CA.out
    unfold Facts.one
    go_simp
    first | exact ⟨Grew.refl _, rfl⟩ | rfl
  simp only [Act.put, List.setIfInBounds_toArray, List.set_cons_zero, List.set_cons_succ, Nat.reduceAdd]
  refine Facts.Lex.know [] (fun v w' => Ob w.heap.size w' v (l ++ be 1 m)) (by kernel_rfl) (fun _ _ _ h hg => h.grew hg) ?_ ?_
  · intro u W hC hK
    clear hK
    have hN := HNUM.out W (GA.out.trans hC)
    unfold Facts.one
    go_simp
    refine hN.mono ?_
    rintro e w' ⟨v', rfl, hown, hg⟩
    exact ⟨_, rfl, hg, (Ob.of hown (by rw [List.length_append, be_length])).base (GA.out.trans hC).size⟩
  simp only [Act.put, List.setIfInBounds_toArray, List.set_cons_zero, List.set_cons_succ, Nat.reduceAdd]
  refine Facts.Lex.know [7] (fun v w' => Ob w.heap.size w' v (l ++ be 1 m)) (by kernel_rfl) (fun _ _ _ h hg => h.grew hg) ?_ ?_
  · intro u W hC hK
    have HY : Hid (Ob w.heap.size W (u 7) (l ++ be 1 m)) := Lib.hid hK.1
    clear hK
    unfold Facts.one
    go_simp
    exact ⟨Grew.refl _, HY.out⟩
  simp only [Act.put, List.setIfInBounds_toArray, List.set_cons_zero, List.set_cons_succ, Nat.reduceAdd]
  refine Facts.Lex.done fun u W2 hC hL => ?_
  have HY : Hid (Ob w.heap.size W2 (u 8) (l ++ be 1 m)) := Lib.hid (hL _ (List.mem_cons_self ..))
  have G2 := Lib.hid (GA.out.trans hC)
  clear hC hL
  generalize u 8 = v2 at *
  obtain ⟨A2, c2, rfl, _⟩ := HY.out.rd
  go_wp2
  go_returns
  exact ⟨_, rfl, HY.out, G2.out⟩

set_option maxHeartbeats 1000000 in
theorem put7 (v : Value) (l : List UInt8) (r : Nat) (ln : Int) (lb : Int) (wh : Int) (sd : Int) (bs : Int) (qt : Int) (qn : Nat) (pr : Nat) (st : Int) (a b : Nat) (w : World) (h : Rd Al w v l) (hl : l.length + 8 ≤ 140737488355328) (ha : w.heap[a]? = some (.cells #[.int .i64 8] 3 (0, 0))) (hb : w.heap[b]? = some (.cells #[.func (.func 45) #[] #[]] 67 (0, 0))) :
    Calls Try.prog 53 #[v, .agg #[.int .u64 (r : Int), .int .i64 ln, .int .i64 lb, .int .i64 wh, .int .i64 sd, .int .i64 bs, .int .i64 qt, .int .u64 (qn : Int), .int .u64 (pr : Int), .int .i64 st], .pointer (some ⟨b, 0, none⟩), .pointer (some ⟨a, 0, none⟩)] w fun e w' => ∃ v', e = .returned v' ∧ Ob w.heap.size w' v' (l ++ be 8 qn) ∧ Grew w w' := by
  obtain ⟨A, c, rfl, _⟩ := id h
  have HR := Lib.hid h
  have HL := Lib.hid hl
  have BX := Lib.hid (blk_new w (.cells #[.int .u64 (r : Int), .int .i64 ln, .int .i64 lb, .int .i64 wh, .int .i64 sd, .int .i64 bs, .int .i64 qt, .int .u64 (qn : Int), .int .u64 (pr : Int), .int .i64 st] 25))
  have GA : Hid (Grew w (w.alloc (.cells #[.int .u64 (r : Int), .int .i64 ln, .int .i64 lb, .int .i64 wh, .int .i64 sd, .int .i64 bs, .int .i64 qt, .int .u64 (qn : Int), .int .u64 (pr : Int), .int .i64 st] 25))) := Lib.hid (by unfold Grew; go_grown)
  have CA := Lib.hid (one_cell ha)
  have CB := Lib.hid (one_cell hb)
  have HNUM := Lib.hid (fun W (hg : Grew w W) => Puts.num_any Al _ l qn 8 W (h.grew hg) hl)
  clear h hl ha hb
  go_enter Try.func53, Try.ntmps53
  go_wp2
  refine Facts.wp_region_text (by kernel_rfl) (by kernel_rfl) ?_
  apply Facts.Lex.exact [] _ (by kernel_rfl)
  · intro u W hC _
    unfold Facts.one
    go_simp
    first | exact ⟨Grew.refl _, rfl⟩ | rfl
  simp only [Act.put, List.setIfInBounds_toArray, List.set_cons_zero, List.set_cons_succ, Nat.zero_add]
  apply Facts.Lex.exact [] _ (by kernel_rfl)
  · intro u W hC _
    have j0 := cellG (GA.out.trans hC) CB.out
    unfold Facts.one
    go_simp
    first | exact ⟨Grew.refl _, rfl⟩ | rfl
  simp only [Act.put, List.setIfInBounds_toArray, List.set_cons_zero, List.set_cons_succ, Nat.reduceAdd]
  apply Facts.Lex.exact [] (.pointer (some ⟨w.heap.size, 7, none⟩)) (by kernel_rfl)
  · intro u W hC _
    unfold Facts.one
    go_simp
    exact ((at7 w.heap.size W).mono fun e w' ⟨he, hw⟩ => ⟨_, he, by rw [← hw]; exact Grew.refl _, rfl⟩)
  simp only [Act.put, List.setIfInBounds_toArray, List.set_cons_zero, List.set_cons_succ, Nat.reduceAdd]
  iterate 2
    apply Facts.Lex.exact [] _ (by kernel_rfl)
    · intro u W hC _
      obtain ⟨b0, b1, b2, b3, b4, b5, b6, b7, b8, b9⟩ := ten_c (blk_keep BX.out hC)
      unfold Facts.one
      go_simp
      first | exact ⟨Grew.refl _, rfl⟩ | rfl
    simp only [Act.put, List.setIfInBounds_toArray, List.set_cons_zero, List.set_cons_succ, Nat.reduceAdd]
  apply Facts.Lex.exact [] _ (by kernel_rfl)
  · intro u W hC _
    have j0 := cellG (GA.out.trans hC) CA.out
    unfold Facts.one
    go_simp
    first | exact ⟨Grew.refl _, rfl⟩ | rfl
  simp only [Act.put, List.setIfInBounds_toArray, List.set_cons_zero, List.set_cons_succ, Nat.reduceAdd]
  refine Facts.Lex.know [] (fun v w' => Ob w.heap.size w' v (l ++ be 8 qn)) (by kernel_rfl) (fun _ _ _ h hg => h.grew hg) ?_ ?_
  · intro u W hC hK
    clear hK
    have hN := HNUM.out W (GA.out.trans hC)
    unfold Facts.one
    go_simp
    refine hN.mono ?_
    rintro e w' ⟨v', rfl, hown, hg⟩
    exact ⟨_, rfl, hg, (Ob.of hown (by rw [List.length_append, be_length])).base (GA.out.trans hC).size⟩
  simp only [Act.put, List.setIfInBounds_toArray, List.set_cons_zero, List.set_cons_succ, Nat.reduceAdd]
  refine Facts.Lex.know [6] (fun v w' => Ob w.heap.size w' v (l ++ be 8 qn)) (by kernel_rfl) (fun _ _ _ h hg => h.grew hg) ?_ ?_
  · intro u W hC hK
    have HY : Hid (Ob w.heap.size W (u 6) (l ++ be 8 qn)) := Lib.hid hK.1
    clear hK
    unfold Facts.one
    go_simp
    exact ⟨Grew.refl _, HY.out⟩
  simp only [Act.put, List.setIfInBounds_toArray, List.set_cons_zero, List.set_cons_succ, Nat.reduceAdd]
  refine Facts.Lex.done fun u W2 hC hL => ?_
  have HY : Hid (Ob w.heap.size W2 (u 7) (l ++ be 8 qn)) := Lib.hid (hL _ (List.mem_cons_self ..))
  have G2 := Lib.hid (GA.out.trans hC)
  clear hC hL
  generalize u 7 = v2 at *
  obtain ⟨A2, c2, rfl, _⟩ := HY.out.rd
  go_wp2
  go_returns
  exact ⟨_, rfl, HY.out, G2.out⟩

set_option maxHeartbeats 1000000 in
theorem put8 (v : Value) (l : List UInt8) (r : Nat) (ln : Int) (lb : Int) (wh : Int) (sd : Int) (bs : Int) (qt : Int) (qn : Nat) (pr : Nat) (st : Int) (a b : Nat) (w : World) (h : Rd Al w v l) (hl : l.length + 8 ≤ 140737488355328) (ha : w.heap[a]? = some (.cells #[.int .i64 8] 3 (0, 0))) (hb : w.heap[b]? = some (.cells #[.func (.func 46) #[] #[]] 67 (0, 0))) :
    Calls Try.prog 53 #[v, .agg #[.int .u64 (r : Int), .int .i64 ln, .int .i64 lb, .int .i64 wh, .int .i64 sd, .int .i64 bs, .int .i64 qt, .int .u64 (qn : Int), .int .u64 (pr : Int), .int .i64 st], .pointer (some ⟨b, 0, none⟩), .pointer (some ⟨a, 0, none⟩)] w fun e w' => ∃ v', e = .returned v' ∧ Ob w.heap.size w' v' (l ++ be 8 pr) ∧ Grew w w' := by
  obtain ⟨A, c, rfl, _⟩ := id h
  have HR := Lib.hid h
  have HL := Lib.hid hl
  have BX := Lib.hid (blk_new w (.cells #[.int .u64 (r : Int), .int .i64 ln, .int .i64 lb, .int .i64 wh, .int .i64 sd, .int .i64 bs, .int .i64 qt, .int .u64 (qn : Int), .int .u64 (pr : Int), .int .i64 st] 25))
  have GA : Hid (Grew w (w.alloc (.cells #[.int .u64 (r : Int), .int .i64 ln, .int .i64 lb, .int .i64 wh, .int .i64 sd, .int .i64 bs, .int .i64 qt, .int .u64 (qn : Int), .int .u64 (pr : Int), .int .i64 st] 25))) := Lib.hid (by unfold Grew; go_grown)
  have CA := Lib.hid (one_cell ha)
  have CB := Lib.hid (one_cell hb)
  have HNUM := Lib.hid (fun W (hg : Grew w W) => Puts.num_any Al _ l pr 8 W (h.grew hg) hl)
  clear h hl ha hb
  go_enter Try.func53, Try.ntmps53
  go_wp2
  refine Facts.wp_region_text (by kernel_rfl) (by kernel_rfl) ?_
  apply Facts.Lex.exact [] _ (by kernel_rfl)
  · intro u W hC _
    unfold Facts.one
    go_simp
    first | exact ⟨Grew.refl _, rfl⟩ | rfl
  simp only [Act.put, List.setIfInBounds_toArray, List.set_cons_zero, List.set_cons_succ, Nat.zero_add]
  apply Facts.Lex.exact [] _ (by kernel_rfl)
  · intro u W hC _
    have j0 := cellG (GA.out.trans hC) CB.out
    unfold Facts.one
    go_simp
    first | exact ⟨Grew.refl _, rfl⟩ | rfl
  simp only [Act.put, List.setIfInBounds_toArray, List.set_cons_zero, List.set_cons_succ, Nat.reduceAdd]
  apply Facts.Lex.exact [] (.pointer (some ⟨w.heap.size, 8, none⟩)) (by kernel_rfl)
  · intro u W hC _
    unfold Facts.one
    go_simp
    exact ((at8 w.heap.size W).mono fun e w' ⟨he, hw⟩ => ⟨_, he, by rw [← hw]; exact Grew.refl _, rfl⟩)
  simp only [Act.put, List.setIfInBounds_toArray, List.set_cons_zero, List.set_cons_succ, Nat.reduceAdd]
  iterate 2
    apply Facts.Lex.exact [] _ (by kernel_rfl)
    · intro u W hC _
      obtain ⟨b0, b1, b2, b3, b4, b5, b6, b7, b8, b9⟩ := ten_c (blk_keep BX.out hC)
      unfold Facts.one
      go_simp
      first | exact ⟨Grew.refl _, rfl⟩ | rfl
    simp only [Act.put, List.setIfInBounds_toArray, List.set_cons_zero, List.set_cons_succ, Nat.reduceAdd]
  apply Facts.Lex.exact [] _ (by kernel_rfl)
  · intro u W hC _
    have j0 := cellG (GA.out.trans hC) CA.out
    unfold Facts.one
    go_simp
    first | exact ⟨Grew.refl _, rfl⟩ | rfl
  simp only [Act.put, List.setIfInBounds_toArray, List.set_cons_zero, List.set_cons_succ, Nat.reduceAdd]
  refine Facts.Lex.know [] (fun v w' => Ob w.heap.size w' v (l ++ be 8 pr)) (by kernel_rfl) (fun _ _ _ h hg => h.grew hg) ?_ ?_
  · intro u W hC hK
    clear hK
    have hN := HNUM.out W (GA.out.trans hC)
    unfold Facts.one
    go_simp
    refine hN.mono ?_
    rintro e w' ⟨v', rfl, hown, hg⟩
    exact ⟨_, rfl, hg, (Ob.of hown (by rw [List.length_append, be_length])).base (GA.out.trans hC).size⟩
  simp only [Act.put, List.setIfInBounds_toArray, List.set_cons_zero, List.set_cons_succ, Nat.reduceAdd]
  refine Facts.Lex.know [6] (fun v w' => Ob w.heap.size w' v (l ++ be 8 pr)) (by kernel_rfl) (fun _ _ _ h hg => h.grew hg) ?_ ?_
  · intro u W hC hK
    have HY : Hid (Ob w.heap.size W (u 6) (l ++ be 8 pr)) := Lib.hid hK.1
    clear hK
    unfold Facts.one
    go_simp
    exact ⟨Grew.refl _, HY.out⟩
  simp only [Act.put, List.setIfInBounds_toArray, List.set_cons_zero, List.set_cons_succ, Nat.reduceAdd]
  refine Facts.Lex.done fun u W2 hC hL => ?_
  have HY : Hid (Ob w.heap.size W2 (u 7) (l ++ be 8 pr)) := Lib.hid (hL _ (List.mem_cons_self ..))
  have G2 := Lib.hid (GA.out.trans hC)
  clear hC hL
  generalize u 7 = v2 at *
  obtain ⟨A2, c2, rfl, _⟩ := HY.out.rd
  go_wp2
  go_returns
  exact ⟨_, rfl, HY.out, G2.out⟩

set_option maxHeartbeats 1000000 in
theorem put9 (v : Value) (l : List UInt8) (r : Nat) (ln : Int) (lb : Int) (wh : Int) (sd : Int) (bs : Int) (qt : Int) (qn : Nat) (pr : Nat) (st : Int) (a b : Nat) (m : Nat) (hm : st = (m : Int)) (hm8 : m < 128) (w : World) (h : Rd Al w v l) (hl : l.length + 8 ≤ 140737488355328) (ha : w.heap[a]? = some (.cells #[.int .i64 1] 3 (0, 0))) (hb : w.heap[b]? = some (.cells #[.func (.func 47) #[] #[]] 70 (0, 0))) :
    Calls Try.prog 57 #[v, .agg #[.int .u64 (r : Int), .int .i64 ln, .int .i64 lb, .int .i64 wh, .int .i64 sd, .int .i64 bs, .int .i64 qt, .int .u64 (qn : Int), .int .u64 (pr : Int), .int .i64 st], .pointer (some ⟨b, 0, none⟩), .pointer (some ⟨a, 0, none⟩)] w fun e w' => ∃ v', e = .returned v' ∧ Ob w.heap.size w' v' (l ++ be 1 m) ∧ Grew w w' := by
  subst hm
  obtain ⟨A, c, rfl, _⟩ := id h
  have HR := Lib.hid h
  have HL := Lib.hid hl
  have BX := Lib.hid (blk_new w (.cells #[.int .u64 (r : Int), .int .i64 ln, .int .i64 lb, .int .i64 wh, .int .i64 sd, .int .i64 bs, .int .i64 qt, .int .u64 (qn : Int), .int .u64 (pr : Int), .int .i64 (m : Int)] 25))
  have GA : Hid (Grew w (w.alloc (.cells #[.int .u64 (r : Int), .int .i64 ln, .int .i64 lb, .int .i64 wh, .int .i64 sd, .int .i64 bs, .int .i64 qt, .int .u64 (qn : Int), .int .u64 (pr : Int), .int .i64 (m : Int)] 25))) := Lib.hid (by unfold Grew; go_grown)
  have CA := Lib.hid (one_cell ha)
  have CB := Lib.hid (one_cell hb)
  have HNUM := Lib.hid (fun W (hg : Grew w W) => Puts.num_any Al _ l m 1 W (h.grew hg) hl)
  have HCV := Lib.hid (fun W => conv_in m hm8 W)
  clear hm8
  clear h hl ha hb
  go_enter Try.func57, Try.ntmps57
  go_wp2
  refine Facts.wp_region_text (by kernel_rfl) (by kernel_rfl) ?_
  apply Facts.Lex.exact [] _ (by kernel_rfl)
  · intro u W hC _
    unfold Facts.one
    go_simp
    first | exact ⟨Grew.refl _, rfl⟩ | rfl
  simp only [Act.put, List.setIfInBounds_toArray, List.set_cons_zero, List.set_cons_succ, Nat.zero_add]
  apply Facts.Lex.exact [] _ (by kernel_rfl)
  · intro u W hC _
    have j0 := cellG (GA.out.trans hC) CB.out
    unfold Facts.one
    go_simp
    first | exact ⟨Grew.refl _, rfl⟩ | rfl
  simp only [Act.put, List.setIfInBounds_toArray, List.set_cons_zero, List.set_cons_succ, Nat.reduceAdd]
  apply Facts.Lex.exact [] (.pointer (some ⟨w.heap.size, 9, none⟩)) (by kernel_rfl)
  · intro u W hC _
    unfold Facts.one
    go_simp
    exact ((at9 w.heap.size W).mono fun e w' ⟨he, hw⟩ => ⟨_, he, by rw [← hw]; exact Grew.refl _, rfl⟩)
  simp only [Act.put, List.setIfInBounds_toArray, List.set_cons_zero, List.set_cons_succ, Nat.reduceAdd]
  iterate 2
    apply Facts.Lex.exact [] _ (by kernel_rfl)
    · intro u W hC _
      obtain ⟨b0, b1, b2, b3, b4, b5, b6, b7, b8, b9⟩ := ten_c (blk_keep BX.out hC)
      unfold Facts.one
      go_simp
      first | exact ⟨Grew.refl _, rfl⟩ | rfl
    simp only [Act.put, List.setIfInBounds_toArray, List.set_cons_zero, List.set_cons_succ, Nat.reduceAdd]
  apply Facts.Lex.exact [] (.int .u64 (m : Int)) (by kernel_rfl)
  · intro u W hC _
    have hcv := HCV.out W
    unfold Facts.one
    go_simp
    first | exact ⟨Grew.refl _, rfl⟩ | rfl
  simp only [Act.put, List.setIfInBounds_toArray, List.set_cons_zero, List.set_cons_succ, Nat.reduceAdd]
  apply Facts.Lex.exact [] _ (by kernel_rfl)
  · intro u W hC _
    have j0 := cellG (GA.out.trans hC) CA.out
    unfold Facts.one
    go_simp
    first | exact ⟨Grew.refl _, rfl⟩ | rfl
  simp only [Act.put, List.setIfInBounds_toArray, List.set_cons_zero, List.set_cons_succ, Nat.reduceAdd]
  refine Facts.Lex.know [] (fun v w' => Ob w.heap.size w' v (l ++ be 1 m)) (by kernel_rfl) (fun _ _ _ h hg => h.grew hg) ?_ ?_
  · intro u W hC hK
    clear hK
    have hN := HNUM.out W (GA.out.trans hC)
    unfold Facts.one
    go_simp
    refine hN.mono ?_
    rintro e w' ⟨v', rfl, hown, hg⟩
    exact ⟨_, rfl, hg, (Ob.of hown (by rw [List.length_append, be_length])).base (GA.out.trans hC).size⟩
  simp only [Act.put, List.setIfInBounds_toArray, List.set_cons_zero, List.set_cons_succ, Nat.reduceAdd]
  refine Facts.Lex.know [7] (fun v w' => Ob w.heap.size w' v (l ++ be 1 m)) (by kernel_rfl) (fun _ _ _ h hg => h.grew hg) ?_ ?_
  · intro u W hC hK
    have HY : Hid (Ob w.heap.size W (u 7) (l ++ be 1 m)) := Lib.hid hK.1
    clear hK
    unfold Facts.one
    go_simp
    exact ⟨Grew.refl _, HY.out⟩
  simp only [Act.put, List.setIfInBounds_toArray, List.set_cons_zero, List.set_cons_succ, Nat.reduceAdd]
  refine Facts.Lex.done fun u W2 hC hL => ?_
  have HY : Hid (Ob w.heap.size W2 (u 8) (l ++ be 1 m)) := Lib.hid (hL _ (List.mem_cons_self ..))
  have G2 := Lib.hid (GA.out.trans hC)
  clear hC hL
  generalize u 8 = v2 at *
  obtain ⟨A2, c2, rfl, _⟩ := HY.out.rd
  go_wp2
  go_returns
  exact ⟨_, rfl, HY.out, G2.out⟩

end Go.Proofs.Ytmnfajplfnfgpab.UI
