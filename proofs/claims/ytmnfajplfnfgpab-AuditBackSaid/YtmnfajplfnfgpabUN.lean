/-
  What reads a field of an entry.
  Conditions: those that each lemma names.
-/
import Derived.Test.YtmnfajplfnfgpabUK
import Derived.Test.YtmnfajplfnfgpabRnums
import Derived.Test.YtmnfajplfnfgpabChain
namespace Go.Proofs.Ytmnfajplfnfgpab.UN
set_option maxRecDepth 100000
open Go Go.RowKit Go.Lib Go.Proofs.Ytmnfajplfnfgpab Go.Proofs.Ytmnfajplfnfgpab.Facts Go.Proofs.Ytmnfajplfnfgpab.Ints Go.Proofs.Ytmnfajplfnfgpab.PA Go.Proofs.Ytmnfajplfnfgpab.UA Go.Proofs.Ytmnfajplfnfgpab.UM Go.Proofs.Ytmnfajplfnfgpab.UB Go.Proofs.Ytmnfajplfnfgpab.UC Go.Proofs.Ytmnfajplfnfgpab.UD Go.Proofs.Ytmnfajplfnfgpab.UF Go.Proofs.Ytmnfajplfnfgpab.UH Go.Proofs.Ytmnfajplfnfgpab.UI Go.Proofs.Ytmnfajplfnfgpab.UJ Go.Proofs.Ytmnfajplfnfgpab.Bytes Go.Proofs.Ytmnfajplfnfgpab.Puts Go.Proofs.Ytmnfajplfnfgpab.Scan Go.Proofs.Ytmnfajplfnfgpab.Take Go.Proofs.Ytmnfajplfnfgpab.Nums

theorem from_any (S : Nat → Prop) (v : Value) (l : List UInt8) (w : World) (h : Rd S w v l) (hl : l.length ≤ 140737488355328) :
    Calls Try.prog 26 #[v] w fun e w' => ∃ p, e = .returned p ∧ SC w' w.heap.size w'.heap.size p ⟨l, 0⟩ ∧ Grew w w' := by
  have H := Lib.hid h
  clear h
  go_enter Try.func26, Try.ntmps26
  go_wp2_with fail
  refine (clone_any S v l _ H.out hl).mono ?_
  rintro e w1 ⟨v1, rfl, hr, hg⟩
  obtain ⟨A, c, rfl, q⟩ := id hr
  have HR := Lib.hid hr
  have HG := Lib.hid hg
  clear hr hg q
  go_wp2
  go_ret
  refine ⟨_, rfl, .inl ⟨w1.heap.size, rfl, HG.out.size, by simp, Nat.le_refl _, _, heap_alloc_new _ _, ?_⟩, HG.out.trans ((Below.refl _ _).alloc (Nat.le_refl _) _)⟩
  refine (HR.out.lt.grew ((Below.refl _ _).alloc (Nat.le_refl _) _)).mono fun b hb => ⟨hb.1, ?_, by omega⟩
  have := hb.2
  simp
  omega

/-- Nothing below b5 changes but the scan and block D. -/
structure Kp (b5 : Nat) (p : Value) (D : Nat) (a b : World) : Prop where
  os : b.os = a.os
  tape : b.tape = a.tape
  output : b.output = a.output
  size : a.heap.size ≤ b.heap.size
  block : ∀ k, k < b5 → k ≠ D → blk p ≠ some k → b.heap[k]? = a.heap[k]?
theorem Kp.refl (b5 : Nat) (p : Value) (D : Nat) (a : World) : Kp b5 p D a a := ⟨rfl, rfl, rfl, Nat.le_refl _, fun _ _ _ _ => rfl⟩
theorem Kp.trans {b5 : Nat} {p : Value} {D : Nat} {a b c : World} (h : Kp b5 p D a b) (k : Kp b5 p D b c) : Kp b5 p D a c :=
  ⟨k.os.trans h.os, k.tape.trans h.tape, k.output.trans h.output, Nat.le_trans h.size k.size, fun i h1 h2 h3 => (k.block i h1 h2 h3).trans (h.block i h1 h2 h3)⟩
theorem Kp.chg {b5 : Nat} {p : Value} {D : Nat} {a b : World} (h : Chg p a b) (hb : b5 ≤ a.heap.size) : Kp b5 p D a b :=
  ⟨h.os, h.tape, h.output, h.size, fun k h1 _ h3 => h.block k (by omega) (Ne.symm h3)⟩
theorem Kp.below {b5 : Nat} {p : Value} {D : Nat} {a b : World} (h : Below b5 a b) : Kp b5 p D a b :=
  ⟨h.os, h.tape, h.output, h.size, fun k h1 _ _ => h.block k h1⟩
theorem Kp.set {b5 : Nat} {p : Value} {D : Nat} (a : World) (i : Nat) (x : Value) : Kp b5 p D a (a.setCell ⟨D, i, none⟩ x) :=
  ⟨rfl, rfl, rfl, by simp [World.setCell], fun k _ h2 _ => heap_setCell_other a ⟨D, i, none⟩ k x (by intro e; simp only at e; omega)⟩
theorem Kp.grew {b5 D : Nat} {p : Value} {w a b : World} (h : Kp b5 p D a b) (hg : Grew w a) (h5 : w.heap.size ≤ b5) (hD : w.heap.size ≤ D) (hp : ∀ k, blk p = some k → w.heap.size ≤ k) : Grew w b :=
  ⟨h.os.trans hg.os, h.tape.trans hg.tape, h.output.trans hg.output, Nat.le_trans hg.size h.size, fun k hk => (h.block k (by omega) (by omega) (fun e => by have := hp k e; omega)).trans (hg.block k hk)⟩

abbrev pt (B : Nat) : Value := .pointer (some ⟨B, 0, none⟩)
/-- Where a field's reading stands: ahead of the number, behind it, behind the store. -/
def RP (w : World) (lo hi sg E : Nat) (s1 : Sc) (xs : Array Value) : Nat → Value → World → Prop := fun i _ W =>
  match i with
  | 0 => Grew w W
  | 1 => SC W lo hi (pt sg) s1 ∧ Chg (pt sg) w W
  | _ => SC W lo hi (pt sg) s1 ∧ W.heap[E]? = some (.cells xs 25 (0, 0)) ∧ Kp w.heap.size (pt sg) E w W
theorem RP.fin {w W : World} {lo hi sg E i : Nat} {s1 : Sc} {xs ys : Array Value} {x : Value} (h : RP w lo hi sg E s1 ys 1 x W) (hE : w.heap[E]? = some (.cells xs 25 (0, 0))) (hEd : E < lo ∨ hi ≤ E) (hsg : E ≠ sg) (v : Value) (hys : xs.setIfInBounds i v = ys) :
    RP w lo hi sg E s1 ys 2 x (W.setCell ⟨E, i, none⟩ v) := by
  obtain ⟨h1, h2⟩ := h
  have hlt := (Array.getElem?_eq_some_iff.1 hE).1
  have hWE : W.heap[E]? = some (.cells xs 25 (0, 0)) := (h2.block E hlt (by intro e; exact hsg (by simpa [blk] using e))).trans hE
  refine ⟨h1.keep (by simp [World.setCell]) fun b hb1 hb2 => heap_setCell_other W _ b v (by intro e; simp only at e; omega), ?_, (Kp.chg h2 (Nat.le_refl _)).trans (Kp.set W i v)⟩
  rw [heap_setCell_same W E i xs 25 v hWE, hys]
theorem conv_u (n : Nat) (h : n < 256) (W : World) : (convert 23 3 (.int .u64 (n : Int))).run Try.prog W = .ok (.int .i64 (n : Int)) W := by
  have h2 : IntKind.i64.wrap (n : Int) = (n : Int) := by rw [IntKind.wrap_i64]; omega
  go_simp
  try rw [h2]
set_option maxHeartbeats 2000000 in
theorem read0 (w : World) (lo hi sg E a b : Nat) (s s1 : Sc) (n : Nat) (x0 x1 x2 x3 x4 x5 x6 x7 x8 x9 : Value) (hsc : SC w lo hi (pt sg) s) (hE : w.heap[E]? = some (.cells #[x0, x1, x2, x3, x4, x5, x6, x7, x8, x9] 25 (0, 0))) (hEd : E < lo ∨ hi ≤ E) (hsg : E ≠ sg) (ha : w.heap[a]? = some (.cells #[.int .i64 8] 3 (0, 0))) (hb : w.heap[b]? = some (.cells #[.func (.func 37) #[] #[]] 67 (0, 0))) (hn : s.num 8 = (n, s1)) :
    Calls Try.prog 55 #[pt sg, pt E, pt a, pt b] w fun e w' => e = .returned (.tuple #[]) ∧ SC w' lo hi (pt sg) s1 ∧ w'.heap[E]? = some (.cells #[.int .u64 (n : Int), x1, x2, x3, x4, x5, x6, x7, x8, x9] 25 (0, 0)) ∧ Kp w.heap.size (pt sg) E w w' := by
  have HSC := Lib.hid hsc
  have HE := Lib.hid hE
  have HEL := Lib.hid (Array.getElem?_eq_some_iff.1 hE).1
  have HED := Lib.hid hEd
  have HSG := Lib.hid hsg
  have CA := Lib.hid (one_cell ha)
  have CB := Lib.hid (one_cell hb)
  have HNM := Lib.hid hn
  clear hsc hE hEd hsg ha hb hn
  go_enter Try.func55, Try.ntmps55
  go_wp2
  refine Chain.wp_chain [5, 7] (Chain.on 99 (RP w lo hi sg E s1 #[.int .u64 (n : Int), x1, x2, x3, x4, x5, x6, x7, x8, x9])) (by kernel_rfl) (by kernel_rfl) ((Grew.refl w).drew) ?_
  apply Marks.Lex.exact [] _ (by kernel_rfl)
  · intro m u W hm hcl hJ _
    have hC := hJ.first hm 5 rfl (by decide)
    have hC' : Grew w W := hC
    have j0 := cellG hC' CB.out
    unfold Marks.one
    go_simp
    exact ⟨trivial, hJ.same 0 _ (by rfl), rfl⟩
  simp only [Act.put, List.setIfInBounds_toArray, List.set_cons_zero, List.set_cons_succ, Nat.zero_add]
  apply Marks.Lex.exact [] _ (by kernel_rfl)
  · intro m u W hm hcl hJ _
    unfold Marks.one
    go_simp
    exact ⟨trivial, hJ.same 1 _ (by rfl), rfl⟩
  simp only [Act.put, List.setIfInBounds_toArray, List.set_cons_zero, List.set_cons_succ, Nat.reduceAdd]
  apply Marks.Lex.exact [] (.pointer (some ⟨E, 0, none⟩)) (by kernel_rfl)
  · intro m u W hm hcl hJ _
    unfold Marks.one
    go_simp
    exact ((at0 E W).mono fun e w' ⟨he, hw⟩ => ⟨_, he, ⟨trivial, by rw [← hw]; exact hJ.same 2 _ (by rfl), rfl⟩⟩)
  simp only [Act.put, List.setIfInBounds_toArray, List.set_cons_zero, List.set_cons_succ, Nat.reduceAdd]
  apply Marks.Lex.exact [] _ (by kernel_rfl)
  · intro m u W hm hcl hJ _
    unfold Marks.one
    go_simp
    exact ⟨trivial, hJ.same 3 _ (by rfl), rfl⟩
  simp only [Act.put, List.setIfInBounds_toArray, List.set_cons_zero, List.set_cons_succ, Nat.reduceAdd]
  apply Marks.Lex.exact [] _ (by kernel_rfl)
  · intro m u W hm hcl hJ _
    have hC := hJ.first hm 5 rfl (by decide)
    have hC' : Grew w W := hC
    have j0 := cellG hC' CA.out
    unfold Marks.one
    go_simp
    exact ⟨trivial, hJ.same 4 _ (by rfl), rfl⟩
  simp only [Act.put, List.setIfInBounds_toArray, List.set_cons_zero, List.set_cons_succ, Nat.reduceAdd]
  apply Marks.Lex.exact [] (.int .u64 (n : Int)) (by kernel_rfl)
  · intro m u W hm hcl hJ _
    obtain ⟨hP, hput⟩ := hJ.put 0 rfl hm hcl (by decide) (by decide)
    have hg : Grew w W := hP
    have hN := Nums.num_any W lo hi (pt sg) s 8 (HSC.out.grew hg)
    rw [show width 8 = 8 from rfl, HNM.out] at hN
    unfold Marks.one
    go_simp
    refine hN.mono ?_
    rintro e w' ⟨rfl, hsc, hch⟩
    exact ⟨_, rfl, ⟨trivial, hput _ _ fun _ => ⟨hsc, (Chg.of_grew hg).trans hch⟩, rfl⟩⟩
  simp only [Act.put, List.setIfInBounds_toArray, List.set_cons_zero, List.set_cons_succ, Nat.reduceAdd]
  apply Marks.Lex.exact [] _ (by kernel_rfl)
  · intro m u W hm hcl hJ _
    unfold Marks.one
    go_simp
    exact ⟨trivial, hJ.same 6 _ (by rfl), rfl⟩
  simp only [Act.put, List.setIfInBounds_toArray, List.set_cons_zero, List.set_cons_succ, Nat.reduceAdd]
  apply Marks.Lex.know [] (fun _ _ => True) (by kernel_rfl) (fun _ _ _ _ _ => trivial)
  · intro m u W hm hcl hJ _
    obtain ⟨hP, hput⟩ := hJ.put 1 rfl hm hcl (by decide) (by decide)
    have h1 : RP w lo hi sg E s1 #[.int .u64 (n : Int), x1, x2, x3, x4, x5, x6, x7, x8, x9] 1 (u 99) W := hP
    have hWE := h1.2.block E HEL.out (by intro e; exact HSG.out (by simpa [blk] using e))
    have c0 : W.cell? ⟨E, 0, none⟩ = some x0 := by rw [cell_of_row _ _ _ _ _ _ (hWE.trans HE.out)]; rfl
    have f0 := frz (k := 0) (hWE.trans HE.out)
    have HFIN := Lib.hid (h1.fin HE.out HED.out HSG.out (.int .u64 (n : Int)) (i := 0) (by rfl))
    clear h1 hWE hP
    unfold Marks.one
    go_simp
    exact ⟨trivial, hput _ _ fun _ => HFIN.out, trivial⟩
  simp only [Act.put, Nat.reduceAdd]
  refine Marks.Lex.done fun m u W' hm hJ _ => ?_
  have hE := hJ.done (by intro k hk; exact hm k (by simp at hk; omega))
  have hF : RP w lo hi sg E s1 #[.int .u64 (n : Int), x1, x2, x3, x4, x5, x6, x7, x8, x9] 2 (u 99) W' := hE
  have HF := Lib.hid hF
  clear hF hE hJ
  go_wp2
  go_end0
  exact ⟨rfl, HF.out.1, HF.out.2.1, HF.out.2.2⟩

set_option maxHeartbeats 2000000 in
theorem read1 (w : World) (lo hi sg E a b : Nat) (s s1 : Sc) (n : Nat) (x0 x1 x2 x3 x4 x5 x6 x7 x8 x9 : Value) (hsc : SC w lo hi (pt sg) s) (hE : w.heap[E]? = some (.cells #[x0, x1, x2, x3, x4, x5, x6, x7, x8, x9] 25 (0, 0))) (hEd : E < lo ∨ hi ≤ E) (hsg : E ≠ sg) (ha : w.heap[a]? = some (.cells #[.int .i64 1] 3 (0, 0))) (hb : w.heap[b]? = some (.cells #[.func (.func 39) #[] #[]] 70 (0, 0))) (hn : s.num 1 = (n, s1)) (hs : n < 256) :
    Calls Try.prog 58 #[pt sg, pt E, pt a, pt b] w fun e w' => e = .returned (.tuple #[]) ∧ SC w' lo hi (pt sg) s1 ∧ w'.heap[E]? = some (.cells #[x0, .int .i64 (n : Int), x2, x3, x4, x5, x6, x7, x8, x9] 25 (0, 0)) ∧ Kp w.heap.size (pt sg) E w w' := by
  have HSC := Lib.hid hsc
  have HE := Lib.hid hE
  have HEL := Lib.hid (Array.getElem?_eq_some_iff.1 hE).1
  have HED := Lib.hid hEd
  have HSG := Lib.hid hsg
  have CA := Lib.hid (one_cell ha)
  have CB := Lib.hid (one_cell hb)
  have HNM := Lib.hid hn
  have HCV := Lib.hid (fun W => conv_u n hs W)
  clear hs
  clear hsc hE hEd hsg ha hb hn
  go_enter Try.func58, Try.ntmps58
  go_wp2
  refine Chain.wp_chain [5, 8] (Chain.on 99 (RP w lo hi sg E s1 #[x0, .int .i64 (n : Int), x2, x3, x4, x5, x6, x7, x8, x9])) (by kernel_rfl) (by kernel_rfl) ((Grew.refl w).drew) ?_
  apply Marks.Lex.exact [] _ (by kernel_rfl)
  · intro m u W hm hcl hJ _
    have hC := hJ.first hm 5 rfl (by decide)
    have hC' : Grew w W := hC
    have j0 := cellG hC' CB.out
    unfold Marks.one
    go_simp
    exact ⟨trivial, hJ.same 0 _ (by rfl), rfl⟩
  simp only [Act.put, List.setIfInBounds_toArray, List.set_cons_zero, List.set_cons_succ, Nat.zero_add]
  apply Marks.Lex.exact [] _ (by kernel_rfl)
  · intro m u W hm hcl hJ _
    unfold Marks.one
    go_simp
    exact ⟨trivial, hJ.same 1 _ (by rfl), rfl⟩
  simp only [Act.put, List.setIfInBounds_toArray, List.set_cons_zero, List.set_cons_succ, Nat.reduceAdd]
  apply Marks.Lex.exact [] (.pointer (some ⟨E, 1, none⟩)) (by kernel_rfl)
  · intro m u W hm hcl hJ _
    unfold Marks.one
    go_simp
    exact ((at1 E W).mono fun e w' ⟨he, hw⟩ => ⟨_, he, ⟨trivial, by rw [← hw]; exact hJ.same 2 _ (by rfl), rfl⟩⟩)
  simp only [Act.put, List.setIfInBounds_toArray, List.set_cons_zero, List.set_cons_succ, Nat.reduceAdd]
  apply Marks.Lex.exact [] _ (by kernel_rfl)
  · intro m u W hm hcl hJ _
    unfold Marks.one
    go_simp
    exact ⟨trivial, hJ.same 3 _ (by rfl), rfl⟩
  simp only [Act.put, List.setIfInBounds_toArray, List.set_cons_zero, List.set_cons_succ, Nat.reduceAdd]
  apply Marks.Lex.exact [] _ (by kernel_rfl)
  · intro m u W hm hcl hJ _
    have hC := hJ.first hm 5 rfl (by decide)
    have hC' : Grew w W := hC
    have j0 := cellG hC' CA.out
    unfold Marks.one
    go_simp
    exact ⟨trivial, hJ.same 4 _ (by rfl), rfl⟩
  simp only [Act.put, List.setIfInBounds_toArray, List.set_cons_zero, List.set_cons_succ, Nat.reduceAdd]
  apply Marks.Lex.exact [] (.int .u64 (n : Int)) (by kernel_rfl)
  · intro m u W hm hcl hJ _
    obtain ⟨hP, hput⟩ := hJ.put 0 rfl hm hcl (by decide) (by decide)
    have hg : Grew w W := hP
    have hN := Nums.num_any W lo hi (pt sg) s 1 (HSC.out.grew hg)
    rw [show width 1 = 1 from rfl, HNM.out] at hN
    unfold Marks.one
    go_simp
    refine hN.mono ?_
    rintro e w' ⟨rfl, hsc, hch⟩
    exact ⟨_, rfl, ⟨trivial, hput _ _ fun _ => ⟨hsc, (Chg.of_grew hg).trans hch⟩, rfl⟩⟩
  simp only [Act.put, List.setIfInBounds_toArray, List.set_cons_zero, List.set_cons_succ, Nat.reduceAdd]
  apply Marks.Lex.exact [] (.int .i64 (n : Int)) (by kernel_rfl)
  · intro m u W hm hcl hJ _
    have hcv := HCV.out W
    unfold Marks.one
    go_simp
    exact ⟨trivial, hJ.same 6 _ (by rfl), rfl⟩
  simp only [Act.put, List.setIfInBounds_toArray, List.set_cons_zero, List.set_cons_succ, Nat.reduceAdd]
  apply Marks.Lex.exact [] _ (by kernel_rfl)
  · intro m u W hm hcl hJ _
    unfold Marks.one
    go_simp
    exact ⟨trivial, hJ.same 7 _ (by rfl), rfl⟩
  simp only [Act.put, List.setIfInBounds_toArray, List.set_cons_zero, List.set_cons_succ, Nat.reduceAdd]
  apply Marks.Lex.know [] (fun _ _ => True) (by kernel_rfl) (fun _ _ _ _ _ => trivial)
  · intro m u W hm hcl hJ _
    obtain ⟨hP, hput⟩ := hJ.put 1 rfl hm hcl (by decide) (by decide)
    have h1 : RP w lo hi sg E s1 #[x0, .int .i64 (n : Int), x2, x3, x4, x5, x6, x7, x8, x9] 1 (u 99) W := hP
    have hWE := h1.2.block E HEL.out (by intro e; exact HSG.out (by simpa [blk] using e))
    have c0 : W.cell? ⟨E, 1, none⟩ = some x1 := by rw [cell_of_row _ _ _ _ _ _ (hWE.trans HE.out)]; rfl
    have f0 := frz (k := 1) (hWE.trans HE.out)
    have HFIN := Lib.hid (h1.fin HE.out HED.out HSG.out (.int .i64 (n : Int)) (i := 1) (by rfl))
    clear h1 hWE hP
    unfold Marks.one
    go_simp
    exact ⟨trivial, hput _ _ fun _ => HFIN.out, trivial⟩
  simp only [Act.put, Nat.reduceAdd]
  refine Marks.Lex.done fun m u W' hm hJ _ => ?_
  have hE := hJ.done (by intro k hk; exact hm k (by simp at hk; omega))
  have hF : RP w lo hi sg E s1 #[x0, .int .i64 (n : Int), x2, x3, x4, x5, x6, x7, x8, x9] 2 (u 99) W' := hE
  have HF := Lib.hid hF
  clear hF hE hJ
  go_wp2
  go_end0
  exact ⟨rfl, HF.out.1, HF.out.2.1, HF.out.2.2⟩

set_option maxHeartbeats 2000000 in
theorem read2 (w : World) (lo hi sg E a b : Nat) (s s1 : Sc) (n : Nat) (x0 x1 x2 x3 x4 x5 x6 x7 x8 x9 : Value) (hsc : SC w lo hi (pt sg) s) (hE : w.heap[E]? = some (.cells #[x0, x1, x2, x3, x4, x5, x6, x7, x8, x9] 25 (0, 0))) (hEd : E < lo ∨ hi ≤ E) (hsg : E ≠ sg) (ha : w.heap[a]? = some (.cells #[.int .i64 1] 3 (0, 0))) (hb : w.heap[b]? = some (.cells #[.func (.func 40) #[] #[]] 70 (0, 0))) (hn : s.num 1 = (n, s1)) (hs : n < 256) :
    Calls Try.prog 58 #[pt sg, pt E, pt a, pt b] w fun e w' => e = .returned (.tuple #[]) ∧ SC w' lo hi (pt sg) s1 ∧ w'.heap[E]? = some (.cells #[x0, x1, .int .i64 (n : Int), x3, x4, x5, x6, x7, x8, x9] 25 (0, 0)) ∧ Kp w.heap.size (pt sg) E w w' := by
  have HSC := Lib.hid hsc
  have HE := Lib.hid hE
  have HEL := Lib.hid (Array.getElem?_eq_some_iff.1 hE).1
  have HED := Lib.hid hEd
  have HSG := Lib.hid hsg
  have CA := Lib.hid (one_cell ha)
  have CB := Lib.hid (one_cell hb)
  have HNM := Lib.hid hn
  have HCV := Lib.hid (fun W => conv_u n hs W)
  clear hs
  clear hsc hE hEd hsg ha hb hn
  go_enter Try.func58, Try.ntmps58
  go_wp2
  refine Chain.wp_chain [5, 8] (Chain.on 99 (RP w lo hi sg E s1 #[x0, x1, .int .i64 (n : Int), x3, x4, x5, x6, x7, x8, x9])) (by kernel_rfl) (by kernel_rfl) ((Grew.refl w).drew) ?_
  apply Marks.Lex.exact [] _ (by kernel_rfl)
  · intro m u W hm hcl hJ _
    have hC := hJ.first hm 5 rfl (by decide)
    have hC' : Grew w W := hC
    have j0 := cellG hC' CB.out
    unfold Marks.one
    go_simp
    exact ⟨trivial, hJ.same 0 _ (by rfl), rfl⟩
  simp only [Act.put, List.setIfInBounds_toArray, List.set_cons_zero, List.set_cons_succ, Nat.zero_add]
  apply Marks.Lex.exact [] _ (by kernel_rfl)
  · intro m u W hm hcl hJ _
    unfold Marks.one
    go_simp
    exact ⟨trivial, hJ.same 1 _ (by rfl), rfl⟩
  simp only [Act.put, List.setIfInBounds_toArray, List.set_cons_zero, List.set_cons_succ, Nat.reduceAdd]
  apply Marks.Lex.exact [] (.pointer (some ⟨E, 2, none⟩)) (by kernel_rfl)
  · intro m u W hm hcl hJ _
    unfold Marks.one
    go_simp
    exact ((at2 E W).mono fun e w' ⟨he, hw⟩ => ⟨_, he, ⟨trivial, by rw [← hw]; exact hJ.same 2 _ (by rfl), rfl⟩⟩)
  simp only [Act.put, List.setIfInBounds_toArray, List.set_cons_zero, List.set_cons_succ, Nat.reduceAdd]
  apply Marks.Lex.exact [] _ (by kernel_rfl)
  · intro m u W hm hcl hJ _
    unfold Marks.one
    go_simp
    exact ⟨trivial, hJ.same 3 _ (by rfl), rfl⟩
  simp only [Act.put, List.setIfInBounds_toArray, List.set_cons_zero, List.set_cons_succ, Nat.reduceAdd]
  apply Marks.Lex.exact [] _ (by kernel_rfl)
  · intro m u W hm hcl hJ _
    have hC := hJ.first hm 5 rfl (by decide)
    have hC' : Grew w W := hC
    have j0 := cellG hC' CA.out
    unfold Marks.one
    go_simp
    exact ⟨trivial, hJ.same 4 _ (by rfl), rfl⟩
  simp only [Act.put, List.setIfInBounds_toArray, List.set_cons_zero, List.set_cons_succ, Nat.reduceAdd]
  apply Marks.Lex.exact [] (.int .u64 (n : Int)) (by kernel_rfl)
  · intro m u W hm hcl hJ _
    obtain ⟨hP, hput⟩ := hJ.put 0 rfl hm hcl (by decide) (by decide)
    have hg : Grew w W := hP
    have hN := Nums.num_any W lo hi (pt sg) s 1 (HSC.out.grew hg)
    rw [show width 1 = 1 from rfl, HNM.out] at hN
    unfold Marks.one
    go_simp
    refine hN.mono ?_
    rintro e w' ⟨rfl, hsc, hch⟩
    exact ⟨_, rfl, ⟨trivial, hput _ _ fun _ => ⟨hsc, (Chg.of_grew hg).trans hch⟩, rfl⟩⟩
  simp only [Act.put, List.setIfInBounds_toArray, List.set_cons_zero, List.set_cons_succ, Nat.reduceAdd]
  apply Marks.Lex.exact [] (.int .i64 (n : Int)) (by kernel_rfl)
  · intro m u W hm hcl hJ _
    have hcv := HCV.out W
    unfold Marks.one
    go_simp
    exact ⟨trivial, hJ.same 6 _ (by rfl), rfl⟩
  simp only [Act.put, List.setIfInBounds_toArray, List.set_cons_zero, List.set_cons_succ, Nat.reduceAdd]
  apply Marks.Lex.exact [] _ (by kernel_rfl)
  · intro m u W hm hcl hJ _
    unfold Marks.one
    go_simp
    exact ⟨trivial, hJ.same 7 _ (by rfl), rfl⟩
  simp only [Act.put, List.setIfInBounds_toArray, List.set_cons_zero, List.set_cons_succ, Nat.reduceAdd]
  apply Marks.Lex.know [] (fun _ _ => True) (by kernel_rfl) (fun _ _ _ _ _ => trivial)
  · intro m u W hm hcl hJ _
    obtain ⟨hP, hput⟩ := hJ.put 1 rfl hm hcl (by decide) (by decide)
    have h1 : RP w lo hi sg E s1 #[x0, x1, .int .i64 (n : Int), x3, x4, x5, x6, x7, x8, x9] 1 (u 99) W := hP
    have hWE := h1.2.block E HEL.out (by intro e; exact HSG.out (by simpa [blk] using e))
    have c0 : W.cell? ⟨E, 2, none⟩ = some x2 := by rw [cell_of_row _ _ _ _ _ _ (hWE.trans HE.out)]; rfl
    have f0 := frz (k := 2) (hWE.trans HE.out)
    have HFIN := Lib.hid (h1.fin HE.out HED.out HSG.out (.int .i64 (n : Int)) (i := 2) (by rfl))
    clear h1 hWE hP
    unfold Marks.one
    go_simp
    exact ⟨trivial, hput _ _ fun _ => HFIN.out, trivial⟩
  simp only [Act.put, Nat.reduceAdd]
  refine Marks.Lex.done fun m u W' hm hJ _ => ?_
  have hE := hJ.done (by intro k hk; exact hm k (by simp at hk; omega))
  have hF : RP w lo hi sg E s1 #[x0, x1, .int .i64 (n : Int), x3, x4, x5, x6, x7, x8, x9] 2 (u 99) W' := hE
  have HF := Lib.hid hF
  clear hF hE hJ
  go_wp2
  go_end0
  exact ⟨rfl, HF.out.1, HF.out.2.1, HF.out.2.2⟩

set_option maxHeartbeats 2000000 in
theorem read3 (w : World) (lo hi sg E a b : Nat) (s s1 : Sc) (n : Nat) (x0 x1 x2 x3 x4 x5 x6 x7 x8 x9 : Value) (hsc : SC w lo hi (pt sg) s) (hE : w.heap[E]? = some (.cells #[x0, x1, x2, x3, x4, x5, x6, x7, x8, x9] 25 (0, 0))) (hEd : E < lo ∨ hi ≤ E) (hsg : E ≠ sg) (ha : w.heap[a]? = some (.cells #[.int .i64 1] 3 (0, 0))) (hb : w.heap[b]? = some (.cells #[.func (.func 41) #[] #[]] 70 (0, 0))) (hn : s.num 1 = (n, s1)) (hs : n < 256) :
    Calls Try.prog 58 #[pt sg, pt E, pt a, pt b] w fun e w' => e = .returned (.tuple #[]) ∧ SC w' lo hi (pt sg) s1 ∧ w'.heap[E]? = some (.cells #[x0, x1, x2, .int .i64 (n : Int), x4, x5, x6, x7, x8, x9] 25 (0, 0)) ∧ Kp w.heap.size (pt sg) E w w' := by
  have HSC := Lib.hid hsc
  have HE := Lib.hid hE
  have HEL := Lib.hid (Array.getElem?_eq_some_iff.1 hE).1
  have HED := Lib.hid hEd
  have HSG := Lib.hid hsg
  have CA := Lib.hid (one_cell ha)
  have CB := Lib.hid (one_cell hb)
  have HNM := Lib.hid hn
  have HCV := Lib.hid (fun W => conv_u n hs W)
  clear hs
  clear hsc hE hEd hsg ha hb hn
  go_enter Try.func58, Try.ntmps58
  go_wp2
  refine Chain.wp_chain [5, 8] (Chain.on 99 (RP w lo hi sg E s1 #[x0, x1, x2, .int .i64 (n : Int), x4, x5, x6, x7, x8, x9])) (by kernel_rfl) (by kernel_rfl) ((Grew.refl w).drew) ?_
  apply Marks.Lex.exact [] _ (by kernel_rfl)
  · intro m u W hm hcl hJ _
    have hC := hJ.first hm 5 rfl (by decide)
    have hC' : Grew w W := hC
    have j0 := cellG hC' CB.out
    unfold Marks.one
    go_simp
    exact ⟨trivial, hJ.same 0 _ (by rfl), rfl⟩
  simp only [Act.put, List.setIfInBounds_toArray, List.set_cons_zero, List.set_cons_succ, Nat.zero_add]
  apply Marks.Lex.exact [] _ (by kernel_rfl)
  · intro m u W hm hcl hJ _
    unfold Marks.one
    go_simp
    exact ⟨trivial, hJ.same 1 _ (by rfl), rfl⟩
  simp only [Act.put, List.setIfInBounds_toArray, List.set_cons_zero, List.set_cons_succ, Nat.reduceAdd]
  apply Marks.Lex.exact [] (.pointer (some ⟨E, 3, none⟩)) (by kernel_rfl)
  · intro m u W hm hcl hJ _
    unfold Marks.one
    go_simp
    exact ((at3 E W).mono fun e w' ⟨he, hw⟩ => ⟨_, he, ⟨trivial, by rw [← hw]; exact hJ.same 2 _ (by rfl), rfl⟩⟩)
  simp only [Act.put, List.setIfInBounds_toArray, List.set_cons_zero, List.set_cons_succ, Nat.reduceAdd]
  apply Marks.Lex.exact [] _ (by kernel_rfl)
  · intro m u W hm hcl hJ _
    unfold Marks.one
    go_simp
    exact ⟨trivial, hJ.same 3 _ (by rfl), rfl⟩
  simp only [Act.put, List.setIfInBounds_toArray, List.set_cons_zero, List.set_cons_succ, Nat.reduceAdd]
  apply Marks.Lex.exact [] _ (by kernel_rfl)
  · intro m u W hm hcl hJ _
    have hC := hJ.first hm 5 rfl (by decide)
    have hC' : Grew w W := hC
    have j0 := cellG hC' CA.out
    unfold Marks.one
    go_simp
    exact ⟨trivial, hJ.same 4 _ (by rfl), rfl⟩
  simp only [Act.put, List.setIfInBounds_toArray, List.set_cons_zero, List.set_cons_succ, Nat.reduceAdd]
  apply Marks.Lex.exact [] (.int .u64 (n : Int)) (by kernel_rfl)
  · intro m u W hm hcl hJ _
    obtain ⟨hP, hput⟩ := hJ.put 0 rfl hm hcl (by decide) (by decide)
    have hg : Grew w W := hP
    have hN := Nums.num_any W lo hi (pt sg) s 1 (HSC.out.grew hg)
    rw [show width 1 = 1 from rfl, HNM.out] at hN
    unfold Marks.one
    go_simp
    refine hN.mono ?_
    rintro e w' ⟨rfl, hsc, hch⟩
    exact ⟨_, rfl, ⟨trivial, hput _ _ fun _ => ⟨hsc, (Chg.of_grew hg).trans hch⟩, rfl⟩⟩
  simp only [Act.put, List.setIfInBounds_toArray, List.set_cons_zero, List.set_cons_succ, Nat.reduceAdd]
  apply Marks.Lex.exact [] (.int .i64 (n : Int)) (by kernel_rfl)
  · intro m u W hm hcl hJ _
    have hcv := HCV.out W
    unfold Marks.one
    go_simp
    exact ⟨trivial, hJ.same 6 _ (by rfl), rfl⟩
  simp only [Act.put, List.setIfInBounds_toArray, List.set_cons_zero, List.set_cons_succ, Nat.reduceAdd]
  apply Marks.Lex.exact [] _ (by kernel_rfl)
  · intro m u W hm hcl hJ _
    unfold Marks.one
    go_simp
    exact ⟨trivial, hJ.same 7 _ (by rfl), rfl⟩
  simp only [Act.put, List.setIfInBounds_toArray, List.set_cons_zero, List.set_cons_succ, Nat.reduceAdd]
  apply Marks.Lex.know [] (fun _ _ => True) (by kernel_rfl) (fun _ _ _ _ _ => trivial)
  · intro m u W hm hcl hJ _
    obtain ⟨hP, hput⟩ := hJ.put 1 rfl hm hcl (by decide) (by decide)
    have h1 : RP w lo hi sg E s1 #[x0, x1, x2, .int .i64 (n : Int), x4, x5, x6, x7, x8, x9] 1 (u 99) W := hP
    have hWE := h1.2.block E HEL.out (by intro e; exact HSG.out (by simpa [blk] using e))
    have c0 : W.cell? ⟨E, 3, none⟩ = some x3 := by rw [cell_of_row _ _ _ _ _ _ (hWE.trans HE.out)]; rfl
    have f0 := frz (k := 3) (hWE.trans HE.out)
    have HFIN := Lib.hid (h1.fin HE.out HED.out HSG.out (.int .i64 (n : Int)) (i := 3) (by rfl))
    clear h1 hWE hP
    unfold Marks.one
    go_simp
    exact ⟨trivial, hput _ _ fun _ => HFIN.out, trivial⟩
  simp only [Act.put, Nat.reduceAdd]
  refine Marks.Lex.done fun m u W' hm hJ _ => ?_
  have hE := hJ.done (by intro k hk; exact hm k (by simp at hk; omega))
  have hF : RP w lo hi sg E s1 #[x0, x1, x2, .int .i64 (n : Int), x4, x5, x6, x7, x8, x9] 2 (u 99) W' := hE
  have HF := Lib.hid hF
  clear hF hE hJ
  go_wp2
  go_end0
  exact ⟨rfl, HF.out.1, HF.out.2.1, HF.out.2.2⟩

set_option maxHeartbeats 2000000 in
theorem read4 (w : World) (lo hi sg E a b : Nat) (s s1 : Sc) (n : Nat) (x0 x1 x2 x3 x4 x5 x6 x7 x8 x9 : Value) (hsc : SC w lo hi (pt sg) s) (hE : w.heap[E]? = some (.cells #[x0, x1, x2, x3, x4, x5, x6, x7, x8, x9] 25 (0, 0))) (hEd : E < lo ∨ hi ≤ E) (hsg : E ≠ sg) (ha : w.heap[a]? = some (.cells #[.int .i64 1] 3 (0, 0))) (hb : w.heap[b]? = some (.cells #[.func (.func 42) #[] #[]] 70 (0, 0))) (hn : s.num 1 = (n, s1)) (hs : n < 256) :
    Calls Try.prog 58 #[pt sg, pt E, pt a, pt b] w fun e w' => e = .returned (.tuple #[]) ∧ SC w' lo hi (pt sg) s1 ∧ w'.heap[E]? = some (.cells #[x0, x1, x2, x3, .int .i64 (n : Int), x5, x6, x7, x8, x9] 25 (0, 0)) ∧ Kp w.heap.size (pt sg) E w w' := by
  have HSC := Lib.hid hsc
  have HE := Lib.hid hE
  have HEL := Lib.hid (Array.getElem?_eq_some_iff.1 hE).1
  have HED := Lib.hid hEd
  have HSG := Lib.hid hsg
  have CA := Lib.hid (one_cell ha)
  have CB := Lib.hid (one_cell hb)
  have HNM := Lib.hid hn
  have HCV := Lib.hid (fun W => conv_u n hs W)
  clear hs
  clear hsc hE hEd hsg ha hb hn
  go_enter Try.func58, Try.ntmps58
  go_wp2
  refine Chain.wp_chain [5, 8] (Chain.on 99 (RP w lo hi sg E s1 #[x0, x1, x2, x3, .int .i64 (n : Int), x5, x6, x7, x8, x9])) (by kernel_rfl) (by kernel_rfl) ((Grew.refl w).drew) ?_
  apply Marks.Lex.exact [] _ (by kernel_rfl)
  · intro m u W hm hcl hJ _
    have hC := hJ.first hm 5 rfl (by decide)
    have hC' : Grew w W := hC
    have j0 := cellG hC' CB.out
    unfold Marks.one
    go_simp
    exact ⟨trivial, hJ.same 0 _ (by rfl), rfl⟩
  simp only [Act.put, List.setIfInBounds_toArray, List.set_cons_zero, List.set_cons_succ, Nat.zero_add]
  apply Marks.Lex.exact [] _ (by kernel_rfl)
  · intro m u W hm hcl hJ _
    unfold Marks.one
    go_simp
    exact ⟨trivial, hJ.same 1 _ (by rfl), rfl⟩
  simp only [Act.put, List.setIfInBounds_toArray, List.set_cons_zero, List.set_cons_succ, Nat.reduceAdd]
  apply Marks.Lex.exact [] (.pointer (some ⟨E, 4, none⟩)) (by kernel_rfl)
  · intro m u W hm hcl hJ _
    unfold Marks.one
    go_simp
    exact ((at4 E W).mono fun e w' ⟨he, hw⟩ => ⟨_, he, ⟨trivial, by rw [← hw]; exact hJ.same 2 _ (by rfl), rfl⟩⟩)
  simp only [Act.put, List.setIfInBounds_toArray, List.set_cons_zero, List.set_cons_succ, Nat.reduceAdd]
  apply Marks.Lex.exact [] _ (by kernel_rfl)
  · intro m u W hm hcl hJ _
    unfold Marks.one
    go_simp
    exact ⟨trivial, hJ.same 3 _ (by rfl), rfl⟩
  simp only [Act.put, List.setIfInBounds_toArray, List.set_cons_zero, List.set_cons_succ, Nat.reduceAdd]
  apply Marks.Lex.exact [] _ (by kernel_rfl)
  · intro m u W hm hcl hJ _
    have hC := hJ.first hm 5 rfl (by decide)
    have hC' : Grew w W := hC
    have j0 := cellG hC' CA.out
    unfold Marks.one
    go_simp
    exact ⟨trivial, hJ.same 4 _ (by rfl), rfl⟩
  simp only [Act.put, List.setIfInBounds_toArray, List.set_cons_zero, List.set_cons_succ, Nat.reduceAdd]
  apply Marks.Lex.exact [] (.int .u64 (n : Int)) (by kernel_rfl)
  · intro m u W hm hcl hJ _
    obtain ⟨hP, hput⟩ := hJ.put 0 rfl hm hcl (by decide) (by decide)
    have hg : Grew w W := hP
    have hN := Nums.num_any W lo hi (pt sg) s 1 (HSC.out.grew hg)
    rw [show width 1 = 1 from rfl, HNM.out] at hN
    unfold Marks.one
    go_simp
    refine hN.mono ?_
    rintro e w' ⟨rfl, hsc, hch⟩
    exact ⟨_, rfl, ⟨trivial, hput _ _ fun _ => ⟨hsc, (Chg.of_grew hg).trans hch⟩, rfl⟩⟩
  simp only [Act.put, List.setIfInBounds_toArray, List.set_cons_zero, List.set_cons_succ, Nat.reduceAdd]
  apply Marks.Lex.exact [] (.int .i64 (n : Int)) (by kernel_rfl)
  · intro m u W hm hcl hJ _
    have hcv := HCV.out W
    unfold Marks.one
    go_simp
    exact ⟨trivial, hJ.same 6 _ (by rfl), rfl⟩
  simp only [Act.put, List.setIfInBounds_toArray, List.set_cons_zero, List.set_cons_succ, Nat.reduceAdd]
  apply Marks.Lex.exact [] _ (by kernel_rfl)
  · intro m u W hm hcl hJ _
    unfold Marks.one
    go_simp
    exact ⟨trivial, hJ.same 7 _ (by rfl), rfl⟩
  simp only [Act.put, List.setIfInBounds_toArray, List.set_cons_zero, List.set_cons_succ, Nat.reduceAdd]
  apply Marks.Lex.know [] (fun _ _ => True) (by kernel_rfl) (fun _ _ _ _ _ => trivial)
  · intro m u W hm hcl hJ _
    obtain ⟨hP, hput⟩ := hJ.put 1 rfl hm hcl (by decide) (by decide)
    have h1 : RP w lo hi sg E s1 #[x0, x1, x2, x3, .int .i64 (n : Int), x5, x6, x7, x8, x9] 1 (u 99) W := hP
    have hWE := h1.2.block E HEL.out (by intro e; exact HSG.out (by simpa [blk] using e))
    have c0 : W.cell? ⟨E, 4, none⟩ = some x4 := by rw [cell_of_row _ _ _ _ _ _ (hWE.trans HE.out)]; rfl
    have f0 := frz (k := 4) (hWE.trans HE.out)
    have HFIN := Lib.hid (h1.fin HE.out HED.out HSG.out (.int .i64 (n : Int)) (i := 4) (by rfl))
    clear h1 hWE hP
    unfold Marks.one
    go_simp
    exact ⟨trivial, hput _ _ fun _ => HFIN.out, trivial⟩
  simp only [Act.put, Nat.reduceAdd]
  refine Marks.Lex.done fun m u W' hm hJ _ => ?_
  have hE := hJ.done (by intro k hk; exact hm k (by simp at hk; omega))
  have hF : RP w lo hi sg E s1 #[x0, x1, x2, x3, .int .i64 (n : Int), x5, x6, x7, x8, x9] 2 (u 99) W' := hE
  have HF := Lib.hid hF
  clear hF hE hJ
  go_wp2
  go_end0
  exact ⟨rfl, HF.out.1, HF.out.2.1, HF.out.2.2⟩

set_option maxHeartbeats 2000000 in
theorem read5 (w : World) (lo hi sg E a b : Nat) (s s1 : Sc) (n : Nat) (x0 x1 x2 x3 x4 x5 x6 x7 x8 x9 : Value) (hsc : SC w lo hi (pt sg) s) (hE : w.heap[E]? = some (.cells #[x0, x1, x2, x3, x4, x5, x6, x7, x8, x9] 25 (0, 0))) (hEd : E < lo ∨ hi ≤ E) (hsg : E ≠ sg) (ha : w.heap[a]? = some (.cells #[.int .i64 1] 3 (0, 0))) (hb : w.heap[b]? = some (.cells #[.func (.func 43) #[] #[]] 70 (0, 0))) (hn : s.num 1 = (n, s1)) (hs : n < 256) :
    Calls Try.prog 58 #[pt sg, pt E, pt a, pt b] w fun e w' => e = .returned (.tuple #[]) ∧ SC w' lo hi (pt sg) s1 ∧ w'.heap[E]? = some (.cells #[x0, x1, x2, x3, x4, .int .i64 (n : Int), x6, x7, x8, x9] 25 (0, 0)) ∧ Kp w.heap.size (pt sg) E w w' := by
  have HSC := Lib.hid hsc
  have HE := Lib.hid hE
  have HEL := Lib.hid (Array.getElem?_eq_some_iff.1 hE).1
  have HED := Lib.hid hEd
  have HSG := Lib.hid hsg
  have CA := Lib.hid (one_cell ha)
  have CB := Lib.hid (one_cell hb)
  have HNM := Lib.hid hn
  have HCV := Lib.hid (fun W => conv_u n hs W)
  clear hs
  clear hsc hE hEd hsg ha hb hn
  go_enter Try.func58, Try.ntmps58
  go_wp2
  refine Chain.wp_chain [5, 8] (Chain.on 99 (RP w lo hi sg E s1 #[x0, x1, x2, x3, x4, .int .i64 (n : Int), x6, x7, x8, x9])) (by kernel_rfl) (by kernel_rfl) ((Grew.refl w).drew) ?_
  apply Marks.Lex.exact [] _ (by kernel_rfl)
  · intro m u W hm hcl hJ _
    have hC := hJ.first hm 5 rfl (by decide)
    have hC' : Grew w W := hC
    have j0 := cellG hC' CB.out
    unfold Marks.one
    go_simp
    exact ⟨trivial, hJ.same 0 _ (by rfl), rfl⟩
  simp only [Act.put, List.setIfInBounds_toArray, List.set_cons_zero, List.set_cons_succ, Nat.zero_add]
  apply Marks.Lex.exact [] _ (by kernel_rfl)
  · intro m u W hm hcl hJ _
    unfold Marks.one
    go_simp
    exact ⟨trivial, hJ.same 1 _ (by rfl), rfl⟩
  simp only [Act.put, List.setIfInBounds_toArray, List.set_cons_zero, List.set_cons_succ, Nat.reduceAdd]
  apply Marks.Lex.exact [] (.pointer (some ⟨E, 5, none⟩)) (by kernel_rfl)
  · intro m u W hm hcl hJ _
    unfold Marks.one
    go_simp
    exact ((at5 E W).mono fun e w' ⟨he, hw⟩ => ⟨_, he, ⟨trivial, by rw [← hw]; exact hJ.same 2 _ (by rfl), rfl⟩⟩)
  simp only [Act.put, List.setIfInBounds_toArray, List.set_cons_zero, List.set_cons_succ, Nat.reduceAdd]
  apply Marks.Lex.exact [] _ (by kernel_rfl)
  · intro m u W hm hcl hJ _
    unfold Marks.one
    go_simp
    exact ⟨trivial, hJ.same 3 _ (by rfl), rfl⟩
  simp only [Act.put, List.setIfInBounds_toArray, List.set_cons_zero, List.set_cons_succ, Nat.reduceAdd]
  apply Marks.Lex.exact [] _ (by kernel_rfl)
  · intro m u W hm hcl hJ _
    have hC := hJ.first hm 5 rfl (by decide)
    have hC' : Grew w W := hC
    have j0 := cellG hC' CA.out
    unfold Marks.one
    go_simp
    exact ⟨trivial, hJ.same 4 _ (by rfl), rfl⟩
  simp only [Act.put, List.setIfInBounds_toArray, List.set_cons_zero, List.set_cons_succ, Nat.reduceAdd]
  apply Marks.Lex.exact [] (.int .u64 (n : Int)) (by kernel_rfl)
  · intro m u W hm hcl hJ _
    obtain ⟨hP, hput⟩ := hJ.put 0 rfl hm hcl (by decide) (by decide)
    have hg : Grew w W := hP
    have hN := Nums.num_any W lo hi (pt sg) s 1 (HSC.out.grew hg)
    rw [show width 1 = 1 from rfl, HNM.out] at hN
    unfold Marks.one
    go_simp
    refine hN.mono ?_
    rintro e w' ⟨rfl, hsc, hch⟩
    exact ⟨_, rfl, ⟨trivial, hput _ _ fun _ => ⟨hsc, (Chg.of_grew hg).trans hch⟩, rfl⟩⟩
  simp only [Act.put, List.setIfInBounds_toArray, List.set_cons_zero, List.set_cons_succ, Nat.reduceAdd]
  apply Marks.Lex.exact [] (.int .i64 (n : Int)) (by kernel_rfl)
  · intro m u W hm hcl hJ _
    have hcv := HCV.out W
    unfold Marks.one
    go_simp
    exact ⟨trivial, hJ.same 6 _ (by rfl), rfl⟩
  simp only [Act.put, List.setIfInBounds_toArray, List.set_cons_zero, List.set_cons_succ, Nat.reduceAdd]
  apply Marks.Lex.exact [] _ (by kernel_rfl)
  · intro m u W hm hcl hJ _
    unfold Marks.one
    go_simp
    exact ⟨trivial, hJ.same 7 _ (by rfl), rfl⟩
  simp only [Act.put, List.setIfInBounds_toArray, List.set_cons_zero, List.set_cons_succ, Nat.reduceAdd]
  apply Marks.Lex.know [] (fun _ _ => True) (by kernel_rfl) (fun _ _ _ _ _ => trivial)
  · intro m u W hm hcl hJ _
    obtain ⟨hP, hput⟩ := hJ.put 1 rfl hm hcl (by decide) (by decide)
    have h1 : RP w lo hi sg E s1 #[x0, x1, x2, x3, x4, .int .i64 (n : Int), x6, x7, x8, x9] 1 (u 99) W := hP
    have hWE := h1.2.block E HEL.out (by intro e; exact HSG.out (by simpa [blk] using e))
    have c0 : W.cell? ⟨E, 5, none⟩ = some x5 := by rw [cell_of_row _ _ _ _ _ _ (hWE.trans HE.out)]; rfl
    have f0 := frz (k := 5) (hWE.trans HE.out)
    have HFIN := Lib.hid (h1.fin HE.out HED.out HSG.out (.int .i64 (n : Int)) (i := 5) (by rfl))
    clear h1 hWE hP
    unfold Marks.one
    go_simp
    exact ⟨trivial, hput _ _ fun _ => HFIN.out, trivial⟩
  simp only [Act.put, Nat.reduceAdd]
  refine Marks.Lex.done fun m u W' hm hJ _ => ?_
  have hE := hJ.done (by intro k hk; exact hm k (by simp at hk; omega))
  have hF : RP w lo hi sg E s1 #[x0, x1, x2, x3, x4, .int .i64 (n : Int), x6, x7, x8, x9] 2 (u 99) W' := hE
  have HF := Lib.hid hF
  clear hF hE hJ
  go_wp2
  go_end0
  exact ⟨rfl, HF.out.1, HF.out.2.1, HF.out.2.2⟩

set_option maxHeartbeats 2000000 in
theorem read6 (w : World) (lo hi sg E a b : Nat) (s s1 : Sc) (n : Nat) (x0 x1 x2 x3 x4 x5 x6 x7 x8 x9 : Value) (hsc : SC w lo hi (pt sg) s) (hE : w.heap[E]? = some (.cells #[x0, x1, x2, x3, x4, x5, x6, x7, x8, x9] 25 (0, 0))) (hEd : E < lo ∨ hi ≤ E) (hsg : E ≠ sg) (ha : w.heap[a]? = some (.cells #[.int .i64 1] 3 (0, 0))) (hb : w.heap[b]? = some (.cells #[.func (.func 44) #[] #[]] 70 (0, 0))) (hn : s.num 1 = (n, s1)) (hs : n < 256) :
    Calls Try.prog 58 #[pt sg, pt E, pt a, pt b] w fun e w' => e = .returned (.tuple #[]) ∧ SC w' lo hi (pt sg) s1 ∧ w'.heap[E]? = some (.cells #[x0, x1, x2, x3, x4, x5, .int .i64 (n : Int), x7, x8, x9] 25 (0, 0)) ∧ Kp w.heap.size (pt sg) E w w' := by
  have HSC := Lib.hid hsc
  have HE := Lib.hid hE
  have HEL := Lib.hid (Array.getElem?_eq_some_iff.1 hE).1
  have HED := Lib.hid hEd
  have HSG := Lib.hid hsg
  have CA := Lib.hid (one_cell ha)
  have CB := Lib.hid (one_cell hb)
  have HNM := Lib.hid hn
  have HCV := Lib.hid (fun W => conv_u n hs W)
  clear hs
  clear hsc hE hEd hsg ha hb hn
  go_enter Try.func58, Try.ntmps58
  go_wp2
  refine Chain.wp_chain [5, 8] (Chain.on 99 (RP w lo hi sg E s1 #[x0, x1, x2, x3, x4, x5, .int .i64 (n : Int), x7, x8, x9])) (by kernel_rfl) (by kernel_rfl) ((Grew.refl w).drew) ?_
  apply Marks.Lex.exact [] _ (by kernel_rfl)
  · intro m u W hm hcl hJ _
    have hC := hJ.first hm 5 rfl (by decide)
    have hC' : Grew w W := hC
    have j0 := cellG hC' CB.out
    unfold Marks.one
    go_simp
    exact ⟨trivial, hJ.same 0 _ (by rfl), rfl⟩
  simp only [Act.put, List.setIfInBounds_toArray, List.set_cons_zero, List.set_cons_succ, Nat.zero_add]
  apply Marks.Lex.exact [] _ (by kernel_rfl)
  · intro m u W hm hcl hJ _
    unfold Marks.one
    go_simp
    exact ⟨trivial, hJ.same 1 _ (by rfl), rfl⟩
  simp only [Act.put, List.setIfInBounds_toArray, List.set_cons_zero, List.set_cons_succ, Nat.reduceAdd]
  apply Marks.Lex.exact [] (.pointer (some ⟨E, 6, none⟩)) (by kernel_rfl)
  · intro m u W hm hcl hJ _
    unfold Marks.one
    go_simp
    exact ((at6 E W).mono fun e w' ⟨he, hw⟩ => ⟨_, he, ⟨trivial, by rw [← hw]; exact hJ.same 2 _ (by rfl), rfl⟩⟩)
  simp only [Act.put, List.setIfInBounds_toArray, List.set_cons_zero, List.set_cons_succ, Nat.reduceAdd]
  apply Marks.Lex.exact [] _ (by kernel_rfl)
  · intro m u W hm hcl hJ _
    unfold Marks.one
    go_simp
    exact ⟨trivial, hJ.same 3 _ (by rfl), rfl⟩
  simp only [Act.put, List.setIfInBounds_toArray, List.set_cons_zero, List.set_cons_succ, Nat.reduceAdd]
  apply Marks.Lex.exact [] _ (by kernel_rfl)
  · intro m u W hm hcl hJ _
    have hC := hJ.first hm 5 rfl (by decide)
    have hC' : Grew w W := hC
    have j0 := cellG hC' CA.out
    unfold Marks.one
    go_simp
    exact ⟨trivial, hJ.same 4 _ (by rfl), rfl⟩
  simp only [Act.put, List.setIfInBounds_toArray, List.set_cons_zero, List.set_cons_succ, Nat.reduceAdd]
  apply Marks.Lex.exact [] (.int .u64 (n : Int)) (by kernel_rfl)
  · intro m u W hm hcl hJ _
    obtain ⟨hP, hput⟩ := hJ.put 0 rfl hm hcl (by decide) (by decide)
    have hg : Grew w W := hP
    have hN := Nums.num_any W lo hi (pt sg) s 1 (HSC.out.grew hg)
    rw [show width 1 = 1 from rfl, HNM.out] at hN
    unfold Marks.one
    go_simp
    refine hN.mono ?_
    rintro e w' ⟨rfl, hsc, hch⟩
    exact ⟨_, rfl, ⟨trivial, hput _ _ fun _ => ⟨hsc, (Chg.of_grew hg).trans hch⟩, rfl⟩⟩
  simp only [Act.put, List.setIfInBounds_toArray, List.set_cons_zero, List.set_cons_succ, Nat.reduceAdd]
  apply Marks.Lex.exact [] (.int .i64 (n : Int)) (by kernel_rfl)
  · intro m u W hm hcl hJ _
    have hcv := HCV.out W
    unfold Marks.one
    go_simp
    exact ⟨trivial, hJ.same 6 _ (by rfl), rfl⟩
  simp only [Act.put, List.setIfInBounds_toArray, List.set_cons_zero, List.set_cons_succ, Nat.reduceAdd]
  apply Marks.Lex.exact [] _ (by kernel_rfl)
  · intro m u W hm hcl hJ _
    unfold Marks.one
    go_simp
    exact ⟨trivial, hJ.same 7 _ (by rfl), rfl⟩
  simp only [Act.put, List.setIfInBounds_toArray, List.set_cons_zero, List.set_cons_succ, Nat.reduceAdd]
  apply Marks.Lex.know [] (fun _ _ => True) (by kernel_rfl) (fun _ _ _ _ _ => trivial)
  · intro m u W hm hcl hJ _
    obtain ⟨hP, hput⟩ := hJ.put 1 rfl hm hcl (by decide) (by decide)
    have h1 : RP w lo hi sg E s1 #[x0, x1, x2, x3, x4, x5, .int .i64 (n : Int), x7, x8, x9] 1 (u 99) W := hP
    have hWE := h1.2.block E HEL.out (by intro e; exact HSG.out (by simpa [blk] using e))
    have c0 : W.cell? ⟨E, 6, none⟩ = some x6 := by rw [cell_of_row _ _ _ _ _ _ (hWE.trans HE.out)]; rfl
    have f0 := frz (k := 6) (hWE.trans HE.out)
    have HFIN := Lib.hid (h1.fin HE.out HED.out HSG.out (.int .i64 (n : Int)) (i := 6) (by rfl))
    clear h1 hWE hP
    unfold Marks.one
    go_simp
    exact ⟨trivial, hput _ _ fun _ => HFIN.out, trivial⟩
  simp only [Act.put, Nat.reduceAdd]
  refine Marks.Lex.done fun m u W' hm hJ _ => ?_
  have hE := hJ.done (by intro k hk; exact hm k (by simp at hk; omega))
  have hF : RP w lo hi sg E s1 #[x0, x1, x2, x3, x4, x5, .int .i64 (n : Int), x7, x8, x9] 2 (u 99) W' := hE
  have HF := Lib.hid hF
  clear hF hE hJ
  go_wp2
  go_end0
  exact ⟨rfl, HF.out.1, HF.out.2.1, HF.out.2.2⟩

set_option maxHeartbeats 2000000 in
theorem read7 (w : World) (lo hi sg E a b : Nat) (s s1 : Sc) (n : Nat) (x0 x1 x2 x3 x4 x5 x6 x7 x8 x9 : Value) (hsc : SC w lo hi (pt sg) s) (hE : w.heap[E]? = some (.cells #[x0, x1, x2, x3, x4, x5, x6, x7, x8, x9] 25 (0, 0))) (hEd : E < lo ∨ hi ≤ E) (hsg : E ≠ sg) (ha : w.heap[a]? = some (.cells #[.int .i64 8] 3 (0, 0))) (hb : w.heap[b]? = some (.cells #[.func (.func 45) #[] #[]] 67 (0, 0))) (hn : s.num 8 = (n, s1)) :
    Calls Try.prog 55 #[pt sg, pt E, pt a, pt b] w fun e w' => e = .returned (.tuple #[]) ∧ SC w' lo hi (pt sg) s1 ∧ w'.heap[E]? = some (.cells #[x0, x1, x2, x3, x4, x5, x6, .int .u64 (n : Int), x8, x9] 25 (0, 0)) ∧ Kp w.heap.size (pt sg) E w w' := by
  have HSC := Lib.hid hsc
  have HE := Lib.hid hE
  have HEL := Lib.hid (Array.getElem?_eq_some_iff.1 hE).1
  have HED := Lib.hid hEd
  have HSG := Lib.hid hsg
  have CA := Lib.hid (one_cell ha)
  have CB := Lib.hid (one_cell hb)
  have HNM := Lib.hid hn
  clear hsc hE hEd hsg ha hb hn
  go_enter Try.func55, Try.ntmps55
  go_wp2
  refine Chain.wp_chain [5, 7] (Chain.on 99 (RP w lo hi sg E s1 #[x0, x1, x2, x3, x4, x5, x6, .int .u64 (n : Int), x8, x9])) (by kernel_rfl) (by kernel_rfl) ((Grew.refl w).drew) ?_
  apply Marks.Lex.exact [] _ (by kernel_rfl)
  · intro m u W hm hcl hJ _
    have hC := hJ.first hm 5 rfl (by decide)
    have hC' : Grew w W := hC
    have j0 := cellG hC' CB.out
    unfold Marks.one
    go_simp
    exact ⟨trivial, hJ.same 0 _ (by rfl), rfl⟩
  simp only [Act.put, List.setIfInBounds_toArray, List.set_cons_zero, List.set_cons_succ, Nat.zero_add]
  apply Marks.Lex.exact [] _ (by kernel_rfl)
  · intro m u W hm hcl hJ _
    unfold Marks.one
    go_simp
    exact ⟨trivial, hJ.same 1 _ (by rfl), rfl⟩
  simp only [Act.put, List.setIfInBounds_toArray, List.set_cons_zero, List.set_cons_succ, Nat.reduceAdd]
  apply Marks.Lex.exact [] (.pointer (some ⟨E, 7, none⟩)) (by kernel_rfl)
  · intro m u W hm hcl hJ _
    unfold Marks.one
    go_simp
    exact ((at7 E W).mono fun e w' ⟨he, hw⟩ => ⟨_, he, ⟨trivial, by rw [← hw]; exact hJ.same 2 _ (by rfl), rfl⟩⟩)
  simp only [Act.put, List.setIfInBounds_toArray, List.set_cons_zero, List.set_cons_succ, Nat.reduceAdd]
  apply Marks.Lex.exact [] _ (by kernel_rfl)
  · intro m u W hm hcl hJ _
    unfold Marks.one
    go_simp
    exact ⟨trivial, hJ.same 3 _ (by rfl), rfl⟩
  simp only [Act.put, List.setIfInBounds_toArray, List.set_cons_zero, List.set_cons_succ, Nat.reduceAdd]
  apply Marks.Lex.exact [] _ (by kernel_rfl)
  · intro m u W hm hcl hJ _
    have hC := hJ.first hm 5 rfl (by decide)
    have hC' : Grew w W := hC
    have j0 := cellG hC' CA.out
    unfold Marks.one
    go_simp
    exact ⟨trivial, hJ.same 4 _ (by rfl), rfl⟩
  simp only [Act.put, List.setIfInBounds_toArray, List.set_cons_zero, List.set_cons_succ, Nat.reduceAdd]
  apply Marks.Lex.exact [] (.int .u64 (n : Int)) (by kernel_rfl)
  · intro m u W hm hcl hJ _
    obtain ⟨hP, hput⟩ := hJ.put 0 rfl hm hcl (by decide) (by decide)
    have hg : Grew w W := hP
    have hN := Nums.num_any W lo hi (pt sg) s 8 (HSC.out.grew hg)
    rw [show width 8 = 8 from rfl, HNM.out] at hN
    unfold Marks.one
    go_simp
    refine hN.mono ?_
    rintro e w' ⟨rfl, hsc, hch⟩
    exact ⟨_, rfl, ⟨trivial, hput _ _ fun _ => ⟨hsc, (Chg.of_grew hg).trans hch⟩, rfl⟩⟩
  simp only [Act.put, List.setIfInBounds_toArray, List.set_cons_zero, List.set_cons_succ, Nat.reduceAdd]
  apply Marks.Lex.exact [] _ (by kernel_rfl)
  · intro m u W hm hcl hJ _
    unfold Marks.one
    go_simp
    exact ⟨trivial, hJ.same 6 _ (by rfl), rfl⟩
  simp only [Act.put, List.setIfInBounds_toArray, List.set_cons_zero, List.set_cons_succ, Nat.reduceAdd]
  apply Marks.Lex.know [] (fun _ _ => True) (by kernel_rfl) (fun _ _ _ _ _ => trivial)
  · intro m u W hm hcl hJ _
    obtain ⟨hP, hput⟩ := hJ.put 1 rfl hm hcl (by decide) (by decide)
    have h1 : RP w lo hi sg E s1 #[x0, x1, x2, x3, x4, x5, x6, .int .u64 (n : Int), x8, x9] 1 (u 99) W := hP
    have hWE := h1.2.block E HEL.out (by intro e; exact HSG.out (by simpa [blk] using e))
    have c0 : W.cell? ⟨E, 7, none⟩ = some x7 := by rw [cell_of_row _ _ _ _ _ _ (hWE.trans HE.out)]; rfl
    have f0 := frz (k := 7) (hWE.trans HE.out)
    have HFIN := Lib.hid (h1.fin HE.out HED.out HSG.out (.int .u64 (n : Int)) (i := 7) (by rfl))
    clear h1 hWE hP
    unfold Marks.one
    go_simp
    exact ⟨trivial, hput _ _ fun _ => HFIN.out, trivial⟩
  simp only [Act.put, Nat.reduceAdd]
  refine Marks.Lex.done fun m u W' hm hJ _ => ?_
  have hE := hJ.done (by intro k hk; exact hm k (by simp at hk; omega))
  have hF : RP w lo hi sg E s1 #[x0, x1, x2, x3, x4, x5, x6, .int .u64 (n : Int), x8, x9] 2 (u 99) W' := hE
  have HF := Lib.hid hF
  clear hF hE hJ
  go_wp2
  go_end0
  exact ⟨rfl, HF.out.1, HF.out.2.1, HF.out.2.2⟩

set_option maxHeartbeats 2000000 in
theorem read8 (w : World) (lo hi sg E a b : Nat) (s s1 : Sc) (n : Nat) (x0 x1 x2 x3 x4 x5 x6 x7 x8 x9 : Value) (hsc : SC w lo hi (pt sg) s) (hE : w.heap[E]? = some (.cells #[x0, x1, x2, x3, x4, x5, x6, x7, x8, x9] 25 (0, 0))) (hEd : E < lo ∨ hi ≤ E) (hsg : E ≠ sg) (ha : w.heap[a]? = some (.cells #[.int .i64 8] 3 (0, 0))) (hb : w.heap[b]? = some (.cells #[.func (.func 46) #[] #[]] 67 (0, 0))) (hn : s.num 8 = (n, s1)) :
    Calls Try.prog 55 #[pt sg, pt E, pt a, pt b] w fun e w' => e = .returned (.tuple #[]) ∧ SC w' lo hi (pt sg) s1 ∧ w'.heap[E]? = some (.cells #[x0, x1, x2, x3, x4, x5, x6, x7, .int .u64 (n : Int), x9] 25 (0, 0)) ∧ Kp w.heap.size (pt sg) E w w' := by
  have HSC := Lib.hid hsc
  have HE := Lib.hid hE
  have HEL := Lib.hid (Array.getElem?_eq_some_iff.1 hE).1
  have HED := Lib.hid hEd
  have HSG := Lib.hid hsg
  have CA := Lib.hid (one_cell ha)
  have CB := Lib.hid (one_cell hb)
  have HNM := Lib.hid hn
  clear hsc hE hEd hsg ha hb hn
  go_enter Try.func55, Try.ntmps55
  go_wp2
  refine Chain.wp_chain [5, 7] (Chain.on 99 (RP w lo hi sg E s1 #[x0, x1, x2, x3, x4, x5, x6, x7, .int .u64 (n : Int), x9])) (by kernel_rfl) (by kernel_rfl) ((Grew.refl w).drew) ?_
  apply Marks.Lex.exact [] _ (by kernel_rfl)
  · intro m u W hm hcl hJ _
    have hC := hJ.first hm 5 rfl (by decide)
    have hC' : Grew w W := hC
    have j0 := cellG hC' CB.out
    unfold Marks.one
    go_simp
    exact ⟨trivial, hJ.same 0 _ (by rfl), rfl⟩
  simp only [Act.put, List.setIfInBounds_toArray, List.set_cons_zero, List.set_cons_succ, Nat.zero_add]
  apply Marks.Lex.exact [] _ (by kernel_rfl)
  · intro m u W hm hcl hJ _
    unfold Marks.one
    go_simp
    exact ⟨trivial, hJ.same 1 _ (by rfl), rfl⟩
  simp only [Act.put, List.setIfInBounds_toArray, List.set_cons_zero, List.set_cons_succ, Nat.reduceAdd]
  apply Marks.Lex.exact [] (.pointer (some ⟨E, 8, none⟩)) (by kernel_rfl)
  · intro m u W hm hcl hJ _
    unfold Marks.one
    go_simp
    exact ((at8 E W).mono fun e w' ⟨he, hw⟩ => ⟨_, he, ⟨trivial, by rw [← hw]; exact hJ.same 2 _ (by rfl), rfl⟩⟩)
  simp only [Act.put, List.setIfInBounds_toArray, List.set_cons_zero, List.set_cons_succ, Nat.reduceAdd]
  apply Marks.Lex.exact [] _ (by kernel_rfl)
  · intro m u W hm hcl hJ _
    unfold Marks.one
    go_simp
    exact ⟨trivial, hJ.same 3 _ (by rfl), rfl⟩
  simp only [Act.put, List.setIfInBounds_toArray, List.set_cons_zero, List.set_cons_succ, Nat.reduceAdd]
  apply Marks.Lex.exact [] _ (by kernel_rfl)
  · intro m u W hm hcl hJ _
    have hC := hJ.first hm 5 rfl (by decide)
    have hC' : Grew w W := hC
    have j0 := cellG hC' CA.out
    unfold Marks.one
    go_simp
    exact ⟨trivial, hJ.same 4 _ (by rfl), rfl⟩
  simp only [Act.put, List.setIfInBounds_toArray, List.set_cons_zero, List.set_cons_succ, Nat.reduceAdd]
  apply Marks.Lex.exact [] (.int .u64 (n : Int)) (by kernel_rfl)
  · intro m u W hm hcl hJ _
    obtain ⟨hP, hput⟩ := hJ.put 0 rfl hm hcl (by decide) (by decide)
    have hg : Grew w W := hP
    have hN := Nums.num_any W lo hi (pt sg) s 8 (HSC.out.grew hg)
    rw [show width 8 = 8 from rfl, HNM.out] at hN
    unfold Marks.one
    go_simp
    refine hN.mono ?_
    rintro e w' ⟨rfl, hsc, hch⟩
    exact ⟨_, rfl, ⟨trivial, hput _ _ fun _ => ⟨hsc, (Chg.of_grew hg).trans hch⟩, rfl⟩⟩
  simp only [Act.put, List.setIfInBounds_toArray, List.set_cons_zero, List.set_cons_succ, Nat.reduceAdd]
  apply Marks.Lex.exact [] _ (by kernel_rfl)
  · intro m u W hm hcl hJ _
    unfold Marks.one
    go_simp
    exact ⟨trivial, hJ.same 6 _ (by rfl), rfl⟩
  simp only [Act.put, List.setIfInBounds_toArray, List.set_cons_zero, List.set_cons_succ, Nat.reduceAdd]
  apply Marks.Lex.know [] (fun _ _ => True) (by kernel_rfl) (fun _ _ _ _ _ => trivial)
  · intro m u W hm hcl hJ _
    obtain ⟨hP, hput⟩ := hJ.put 1 rfl hm hcl (by decide) (by decide)
    have h1 : RP w lo hi sg E s1 #[x0, x1, x2, x3, x4, x5, x6, x7, .int .u64 (n : Int), x9] 1 (u 99) W := hP
    have hWE := h1.2.block E HEL.out (by intro e; exact HSG.out (by simpa [blk] using e))
    have c0 : W.cell? ⟨E, 8, none⟩ = some x8 := by rw [cell_of_row _ _ _ _ _ _ (hWE.trans HE.out)]; rfl
    have f0 := frz (k := 8) (hWE.trans HE.out)
    have HFIN := Lib.hid (h1.fin HE.out HED.out HSG.out (.int .u64 (n : Int)) (i := 8) (by rfl))
    clear h1 hWE hP
    unfold Marks.one
    go_simp
    exact ⟨trivial, hput _ _ fun _ => HFIN.out, trivial⟩
  simp only [Act.put, Nat.reduceAdd]
  refine Marks.Lex.done fun m u W' hm hJ _ => ?_
  have hE := hJ.done (by intro k hk; exact hm k (by simp at hk; omega))
  have hF : RP w lo hi sg E s1 #[x0, x1, x2, x3, x4, x5, x6, x7, .int .u64 (n : Int), x9] 2 (u 99) W' := hE
  have HF := Lib.hid hF
  clear hF hE hJ
  go_wp2
  go_end0
  exact ⟨rfl, HF.out.1, HF.out.2.1, HF.out.2.2⟩

set_option maxHeartbeats 2000000 in
theorem read9 (w : World) (lo hi sg E a b : Nat) (s s1 : Sc) (n : Nat) (x0 x1 x2 x3 x4 x5 x6 x7 x8 x9 : Value) (hsc : SC w lo hi (pt sg) s) (hE : w.heap[E]? = some (.cells #[x0, x1, x2, x3, x4, x5, x6, x7, x8, x9] 25 (0, 0))) (hEd : E < lo ∨ hi ≤ E) (hsg : E ≠ sg) (ha : w.heap[a]? = some (.cells #[.int .i64 1] 3 (0, 0))) (hb : w.heap[b]? = some (.cells #[.func (.func 47) #[] #[]] 70 (0, 0))) (hn : s.num 1 = (n, s1)) (hs : n < 256) :
    Calls Try.prog 58 #[pt sg, pt E, pt a, pt b] w fun e w' => e = .returned (.tuple #[]) ∧ SC w' lo hi (pt sg) s1 ∧ w'.heap[E]? = some (.cells #[x0, x1, x2, x3, x4, x5, x6, x7, x8, .int .i64 (n : Int)] 25 (0, 0)) ∧ Kp w.heap.size (pt sg) E w w' := by
  have HSC := Lib.hid hsc
  have HE := Lib.hid hE
  have HEL := Lib.hid (Array.getElem?_eq_some_iff.1 hE).1
  have HED := Lib.hid hEd
  have HSG := Lib.hid hsg
  have CA := Lib.hid (one_cell ha)
  have CB := Lib.hid (one_cell hb)
  have HNM := Lib.hid hn
  have HCV := Lib.hid (fun W => conv_u n hs W)
  clear hs
  clear hsc hE hEd hsg ha hb hn
  go_enter Try.func58, Try.ntmps58
  go_wp2
  refine Chain.wp_chain [5, 8] (Chain.on 99 (RP w lo hi sg E s1 #[x0, x1, x2, x3, x4, x5, x6, x7, x8, .int .i64 (n : Int)])) (by kernel_rfl) (by kernel_rfl) ((Grew.refl w).drew) ?_
  apply Marks.Lex.exact [] _ (by kernel_rfl)
  · intro m u W hm hcl hJ _
    have hC := hJ.first hm 5 rfl (by decide)
    have hC' : Grew w W := hC
    have j0 := cellG hC' CB.out
    unfold Marks.one
    go_simp
    exact ⟨trivial, hJ.same 0 _ (by rfl), rfl⟩
  simp only [Act.put, List.setIfInBounds_toArray, List.set_cons_zero, List.set_cons_succ, Nat.zero_add]
  apply Marks.Lex.exact [] _ (by kernel_rfl)
  · intro m u W hm hcl hJ _
    unfold Marks.one
    go_simp
    exact ⟨trivial, hJ.same 1 _ (by rfl), rfl⟩
  simp only [Act.put, List.setIfInBounds_toArray, List.set_cons_zero, List.set_cons_succ, Nat.reduceAdd]
  apply Marks.Lex.exact [] (.pointer (some ⟨E, 9, none⟩)) (by kernel_rfl)
  · intro m u W hm hcl hJ _
    unfold Marks.one
    go_simp
    exact ((at9 E W).mono fun e w' ⟨he, hw⟩ => ⟨_, he, ⟨trivial, by rw [← hw]; exact hJ.same 2 _ (by rfl), rfl⟩⟩)
  simp only [Act.put, List.setIfInBounds_toArray, List.set_cons_zero, List.set_cons_succ, Nat.reduceAdd]
  apply Marks.Lex.exact [] _ (by kernel_rfl)
  · intro m u W hm hcl hJ _
    unfold Marks.one
    go_simp
    exact ⟨trivial, hJ.same 3 _ (by rfl), rfl⟩
  simp only [Act.put, List.setIfInBounds_toArray, List.set_cons_zero, List.set_cons_succ, Nat.reduceAdd]
  apply Marks.Lex.exact [] _ (by kernel_rfl)
  · intro m u W hm hcl hJ _
    have hC := hJ.first hm 5 rfl (by decide)
    have hC' : Grew w W := hC
    have j0 := cellG hC' CA.out
    unfold Marks.one
    go_simp
    exact ⟨trivial, hJ.same 4 _ (by rfl), rfl⟩
  simp only [Act.put, List.setIfInBounds_toArray, List.set_cons_zero, List.set_cons_succ, Nat.reduceAdd]
  apply Marks.Lex.exact [] (.int .u64 (n : Int)) (by kernel_rfl)
  · intro m u W hm hcl hJ _
    obtain ⟨hP, hput⟩ := hJ.put 0 rfl hm hcl (by decide) (by decide)
    have hg : Grew w W := hP
    have hN := Nums.num_any W lo hi (pt sg) s 1 (HSC.out.grew hg)
    rw [show width 1 = 1 from rfl, HNM.out] at hN
    unfold Marks.one
    go_simp
    refine hN.mono ?_
    rintro e w' ⟨rfl, hsc, hch⟩
    exact ⟨_, rfl, ⟨trivial, hput _ _ fun _ => ⟨hsc, (Chg.of_grew hg).trans hch⟩, rfl⟩⟩
  simp only [Act.put, List.setIfInBounds_toArray, List.set_cons_zero, List.set_cons_succ, Nat.reduceAdd]
  apply Marks.Lex.exact [] (.int .i64 (n : Int)) (by kernel_rfl)
  · intro m u W hm hcl hJ _
    have hcv := HCV.out W
    unfold Marks.one
    go_simp
    exact ⟨trivial, hJ.same 6 _ (by rfl), rfl⟩
  simp only [Act.put, List.setIfInBounds_toArray, List.set_cons_zero, List.set_cons_succ, Nat.reduceAdd]
  apply Marks.Lex.exact [] _ (by kernel_rfl)
  · intro m u W hm hcl hJ _
    unfold Marks.one
    go_simp
    exact ⟨trivial, hJ.same 7 _ (by rfl), rfl⟩
  simp only [Act.put, List.setIfInBounds_toArray, List.set_cons_zero, List.set_cons_succ, Nat.reduceAdd]
  apply Marks.Lex.know [] (fun _ _ => True) (by kernel_rfl) (fun _ _ _ _ _ => trivial)
  · intro m u W hm hcl hJ _
    obtain ⟨hP, hput⟩ := hJ.put 1 rfl hm hcl (by decide) (by decide)
    have h1 : RP w lo hi sg E s1 #[x0, x1, x2, x3, x4, x5, x6, x7, x8, .int .i64 (n : Int)] 1 (u 99) W := hP
    have hWE := h1.2.block E HEL.out (by intro e; exact HSG.out (by simpa [blk] using e))
    have c0 : W.cell? ⟨E, 9, none⟩ = some x9 := by rw [cell_of_row _ _ _ _ _ _ (hWE.trans HE.out)]; rfl
    have f0 := frz (k := 9) (hWE.trans HE.out)
    have HFIN := Lib.hid (h1.fin HE.out HED.out HSG.out (.int .i64 (n : Int)) (i := 9) (by rfl))
    clear h1 hWE hP
    unfold Marks.one
    go_simp
    exact ⟨trivial, hput _ _ fun _ => HFIN.out, trivial⟩
  simp only [Act.put, Nat.reduceAdd]
  refine Marks.Lex.done fun m u W' hm hJ _ => ?_
  have hE := hJ.done (by intro k hk; exact hm k (by simp at hk; omega))
  have hF : RP w lo hi sg E s1 #[x0, x1, x2, x3, x4, x5, x6, x7, x8, .int .i64 (n : Int)] 2 (u 99) W' := hE
  have HF := Lib.hid hF
  clear hF hE hJ
  go_wp2
  go_end0
  exact ⟨rfl, HF.out.1, HF.out.2.1, HF.out.2.2⟩

end Go.Proofs.Ytmnfajplfnfgpab.UN
