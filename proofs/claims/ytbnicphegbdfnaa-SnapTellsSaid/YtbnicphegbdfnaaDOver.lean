/-
  A sector of which some first words were written over.
  Conditions: those that each lemma names.
-/
import Derived.Test.YtbnicphegbdfnaaDWrite
namespace Go.Proofs.Ytbnicphegbdfnaa.DOver
set_option maxRecDepth 100000
set_option maxRecDepth 100000
set_option maxRecDepth 100000
open Go Go.RowKit Go.Proofs.Ytbnicphegbdfnaa Go.Proofs.Ytbnicphegbdfnaa.Facts Go.Proofs.Ytbnicphegbdfnaa.Bytes Go.Proofs.Ytbnicphegbdfnaa.DKeep Go.Proofs.Ytbnicphegbdfnaa.DSmall Go.Proofs.Ytbnicphegbdfnaa.DTurn Go.Proofs.Ytbnicphegbdfnaa.DArm Go.Proofs.Ytbnicphegbdfnaa.DRead Go.Proofs.Ytbnicphegbdfnaa.DNew Go.Proofs.Ytbnicphegbdfnaa.DBuild Go.Proofs.Ytbnicphegbdfnaa.DWrite

/-- B's first k words over A. -/
def cutw (A B : Sec) (k : Nat) : Sec := B.take (8 * k) ++ A.drop (8 * k)
theorem cutw_length (A B : Sec) (k : Nat) (hA : A.length = 128) (hB : B.length = 128) (hk : k ≤ 16) : (cutw A B k).length = 128 := by
  simp [cutw]; omega
theorem splice_cutw (A B : Sec) (k : Nat) (hA : A.length = 128) (hB : B.length = 128) (hk : k ≤ 16) : splice (bv A) 0 (bv (B.take (8 * k))) = bv (cutw A B k) := by
  have hl : (bv (B.take (8 * k))).length = 8 * k := by rw [bv_length, List.length_take]; omega
  unfold splice cutw
  rw [List.take_zero, List.nil_append, Nat.zero_add, hl, bv_append]
  congr 1
  simp [bv, List.map_drop]

section
variable {P : Program} {ops : Array Oper} {o : Oper} {ac : Act} {w : World} {R : World → World → Prop} {J' : Value → World → Prop} {g : Value → World → Prop}
theorem one_copy (hgd : o.guard = none) (d s : Operand) (dT sT : TypeId) (ho : o.op = .call { callee := .builtin .copy, args := #[d, s], argTypes := #[dT, sT] }) (vd vs : Value) (hd : ac.eval d = vd) (hs : ac.eval s = vs) (v : Value) (w' : World)
    (hr : (Builtin.copy_ #[dT, sT] o.type #[vd, vs]).run P w = .ok v w') (h : R w w' ∧ J' v w' ∧ g v w') : Marks.one P ops o ac w R J' g := by
  unfold Marks.one
  rw [if_pos (by unfold Region.wanted; rw [hgd])]
  unfold execOp
  simp only [ho, resolve, invoke, builtin, Sem.run_bind, Sem.run_pure, Result.andThen_ok, List.map_toArray, List.map_cons, List.map_nil, hd, hs, hr]
  exact h
end
theorem run_cp (W : World) (k1 k2 : Nat) (A B : Sec) (m c1 : Nat) (k : Nat) (hm : m = 8 * k) (hA : A.length = 128) (hB : B.length = 128) (hk : k ≤ 16) (h1 : W.heap[k1]? = some (.cells (bv A).toArray 116 (0, 0))) (h2 : W.heap[k2]? = some (.cells (bv B).toArray 116 (0, 0))) :
    ∃ v W', (Builtin.copy_ #[23, 23] 3 #[.slice (some ⟨k1, 0, none⟩) m c1, .slice (some ⟨k2, 0, none⟩) 128 128]).run Try.prog W = .ok v W' ∧ W'.heap[k1]? = some (.cells (bv (cutw A B k)).toArray 116 (0, 0)) ∧ W.grownBy W' (some k1) := by
  subst hm
  have hl : (bv (B.take (8 * k))).length = 8 * k := by rw [bv_length, List.length_take]; omega
  have hr := run_copy_row (P := Try.prog) W 23 23 3 5 k1 0 (8 * k) c1 ⟨k2, 0, none⟩ 128 128 (bv A).toArray 116 (bv (B.take (8 * k))) Try.underlying23 size5 h1 (by rw [hl]; exact (Nat.min_eq_right (by omega)).symm) (fun j v hv => by
    rw [Addr.add_mid, cell_of_row W k2 (0 + j) _ _ _ h2, Nat.zero_add]
    have hb : bv (B.take (8 * k)) = (bv B).take (8 * k) := by simp [bv, List.map_take]
    rw [hb, List.getElem?_take] at hv
    split at hv
    · simpa using hv
    · cases hv) (by rw [hl]; simp [bv_length, hA]; omega) (bv_one _)
  refine ⟨_, _, hr, ?_, ⟨rfl, rfl, rfl, by simp, fun j _ hne => setRow_other W k1 j _ (fun e => hne (by rw [e]))⟩⟩
  rw [setRow_heap W k1 _ _ 116 _ h1, ← splice_cutw A B k hA hB hk]
  simp [splice]

theorem arr65 : Try.prog.arrayLen 116 = 128 := by kernel_rfl
theorem slice_h (W : World) (g k : Nat) (hk : k ≤ 16) : (Instr.sliceAt 116 (.pointer (some ⟨g, 0, none⟩)) none (some (.int .i64 ((k : Int) * 8))) none).run Try.prog W = .ok (.slice (some ⟨g, 0, none⟩) (k * 8) 128) W := by
  have h := run_sliceAt_array_h (P := Try.prog) W 116 ⟨g, 0, none⟩ Try.underlying116 .i64 ((k : Int) * 8) (by omega) (by rw [arr65]; omega)
  have e : ((k : Int) * 8).toNat = k * 8 := by omega
  have hs : (Try.prog.info? 5).map (·.size) = some 1 := size5
  rw [h, arr65, e]
  cases hq : Try.prog.info? (Try.prog.elem 116) with
  | none => have h5 : (Try.prog.info? (Try.prog.elem 116)).map (·.size) = some 1 := by kernel_rfl
            simp [hq] at h5
  | some i => simp [sizeOf, typeInfo, hq, slicedAt]; rfl

set_option maxHeartbeats 4000000 in
theorem over_any (A B : Sec) (k : Nat) (w : World) (hA : A.length = 128) (hB : B.length = 128) (hk : k ≤ 16) :
    Calls Try.prog 110 #[.agg (bv A).toArray, .agg (bv B).toArray, .int .i64 k] w fun e w' => e = .returned (.agg (bv (cutw A B k)).toArray) ∧ Grew w w' := by
  obtain ⟨Z, hZ, hz⟩ := z65
  have HZ := Lib.hid hz
  have HZS := Lib.hid hZ
  have HA := Lib.hid hA
  have HB := Lib.hid hB
  clear hA hB hz hZ
  go_enter Try.func110, Try.ntmps110
  go_wp2_with (refine DArm.wpList_alloc (by rfl) 116 (by with_reducible rfl) _ HZ.out ?_)
  have hk1 : (((w.alloc (.cells (bv A).toArray 116)).alloc (.cells (bv B).toArray 116)).alloc (.cells Z 116)).heap[w.heap.size]? = some (.cells (bv A).toArray 116 (0, 0)) := push0 w.heap _ _ _
  have hk2 : (((w.alloc (.cells (bv A).toArray 116)).alloc (.cells (bv B).toArray 116)).alloc (.cells Z 116)).heap[w.heap.size + 1]? = some (.cells (bv B).toArray 116 (0, 0)) := push1 w.heap _ _ _
  have hk3 : (((w.alloc (.cells (bv A).toArray 116)).alloc (.cells (bv B).toArray 116)).alloc (.cells Z 116)).heap[w.heap.size + 1 + 1]? = some (.cells Z 116 (0, 0)) := push2 w.heap _ _ _
  have hg : Grew w (((w.alloc (.cells (bv A).toArray 116)).alloc (.cells (bv B).toArray 116)).alloc (.cells Z 116)) := by unfold Grew; go_grown
  have hsz : ((w.alloc (.cells (bv A).toArray 116)).alloc (.cells (bv B).toArray 116)).heap.size = w.heap.size + 1 + 1 := by simp
  rw [hsz]
  have hw8 : IntKind.i64.wrap ((k : Int) * 8) = (k : Int) * 8 := IntWalk.i64_in _ (by omega)
  have hk8 : (k : Int) * 8 ≤ 128 := by omega
  have H1 := Lib.hid hk1
  have H2 := Lib.hid hk2
  have H3 := Lib.hid hk3
  have HG := Lib.hid hg
  clear hk1 hk2 hk3 hg hsz
  generalize (((w.alloc (.cells (bv A).toArray 116)).alloc (.cells (bv B).toArray 116)).alloc (.cells Z 116)) = W0 at *
  simp only [Act.put, List.setIfInBounds_toArray, List.set_cons_zero, List.set_cons_succ, Nat.zero_add, Nat.reduceAdd]
  refine Marks.wp_region_text (JS W0 4 (fun W => W.heap[w.heap.size]? = some (.cells (bv (cutw A B k)).toArray 116 (0, 0)) ∧ W0.grownBy W (some w.heap.size))) (fun _ _ => True) (by kernel_rfl) (by kernel_rfl) (JS.start W0 4 _) ?_
  apply Marks.Lex.exact [] _ (by kernel_rfl)
  · intro m u W hm hcl hJ _
    obtain ⟨hC, _⟩ := hJ.get 0 (by omega) hm
    unfold Marks.one
    go_simp
    exact ⟨trivial, hJ.keep 0 (by omega) hm _ (Grew.refl _), rfl⟩
  simp only [Act.put, List.setIfInBounds_toArray, List.set_cons_zero, List.set_cons_succ, Nat.zero_add, Nat.reduceAdd]
  apply Marks.Lex.exact [] (.int .i64 ((k : Int) * 8)) (by kernel_rfl)
  · intro m u W hm hcl hJ _
    obtain ⟨hC, _⟩ := hJ.get 1 (by omega) hm
    unfold Marks.one
    go_simp
    exact ⟨trivial, hJ.keep 1 (by omega) hm _ (Grew.refl _), rfl⟩
  simp only [Act.put, List.setIfInBounds_toArray, List.set_cons_zero, List.set_cons_succ, Nat.zero_add, Nat.reduceAdd]
  apply Marks.Lex.exact [] (.slice (some ⟨w.heap.size, 0, none⟩) (k * 8) 128) (by kernel_rfl)
  · intro m u W hm hcl hJ _
    obtain ⟨hC, _⟩ := hJ.get 2 (by omega) hm
    unfold Marks.one
    have hsl := slice_h W w.heap.size k hk
    go_simp
    exact ⟨trivial, hJ.keep 2 (by omega) hm _ (Grew.refl _), rfl⟩
  simp only [Act.put, List.setIfInBounds_toArray, List.set_cons_zero, List.set_cons_succ, Nat.zero_add, Nat.reduceAdd]
  apply Marks.Lex.exact [] _ (by kernel_rfl)
  · intro m u W hm hcl hJ _
    obtain ⟨hC, _⟩ := hJ.get 3 (by omega) hm
    unfold Marks.one
    go_simp
    exact ⟨trivial, hJ.keep 3 (by omega) hm _ (Grew.refl _), rfl⟩
  simp only [Act.put, List.setIfInBounds_toArray, List.set_cons_zero, List.set_cons_succ, Nat.zero_add, Nat.reduceAdd]
  apply Marks.Lex.know [] (fun _ _ => True) (by kernel_rfl) (fun _ _ _ _ _ => trivial)
  · intro m u W hm hcl hJ _
    have hC := hJ.a hm
    obtain ⟨v, W', hr, hrow, hgr⟩ := run_cp W w.heap.size (w.heap.size + 1) A B (k * 8) 128 k (Nat.mul_comm _ _) HA.out HB.out hk (keepB H1.out hC) (keepB H2.out hC)
    exact one_copy rfl (.tmp 9) (.tmp 10) 23 23 rfl _ _ rfl rfl v W' hr ⟨trivial, hJ.last v (fun j hj => hcl j (by have : j ∈ List.range 4 := List.mem_range.2 hj; revert this; revert j; decide)) ⟨hrow, grown_of hC hgr⟩, trivial⟩
  simp only [Act.put, List.setIfInBounds_toArray, List.set_cons_zero, List.set_cons_succ, Nat.zero_add, Nat.reduceAdd]
  refine Marks.Lex.done fun m u W2 hm hJ _ => ?_
  obtain ⟨_, HR2, HG2⟩ := hJ.b (hm 4 (by omega))
  clear hJ hm
  have HLD := Lib.hid (run_load_sec W2 w.heap.size 0 (cutw A B k) (fun j v hv => by rw [cell_of_row _ _ _ _ _ _ HR2, Nat.zero_add]; simpa using hv) (cutw_length A B k HA.out HB.out hk))
  have hz3 : W2.heap[w.heap.size + 1 + 1]? = some (.cells Z 116 (0, 0)) := (HG2.block _ (Array.getElem?_eq_some_iff.1 H3.out).1 (by intro e; simp at e; omega)).trans H3.out
  have hcl := cutw_length A B k HA.out HB.out hk
  have HST := Lib.hid (run_store_row 116 128 size65 W2 (w.heap.size + 1 + 1) 0 116 Z hz3 (bv (cutw A B k)) (by rw [bv_length, hcl]) (bv_one _) (by rw [HZS.out]; omega))
  have HGG : Hid (Grew w W2) := Lib.hid (Below.grown HG.out HG2 HG.out.size fun j e => by cases e; exact Nat.le_refl _)
  have HZ3 := Lib.hid hz3
  have HCL := Lib.hid hcl
  clear HR2 HG2 hz3 hcl
  go_wp2_with (first
    | refine wpList_load (by rfl) 116 (.tmp 3) (by with_reducible rfl) _ _ (by rfl) HLD.out ?_
    | refine DArm.wpList_store (by rfl) 116 (.tmp 6) (.tmp 12) (by with_reducible rfl) _ _ (by rfl) (by rfl) _ HST.out ?_)
  simp only [Act.put, List.setIfInBounds_toArray, List.set_cons_zero, List.set_cons_succ, Nat.zero_add, Nat.reduceAdd]
  have hfin : (W2.setRow (w.heap.size + 1 + 1) (List.take 0 Z.toList ++ bv (cutw A B k) ++ List.drop (0 + 128) Z.toList).toArray).heap[w.heap.size + 1 + 1]? = some (.cells (bv (cutw A B k)).toArray 116 (0, 0)) := by
    rw [setRow_heap W2 _ _ _ 116 _ HZ3.out]
    have : Z.toList.length = 128 := by rw [Array.length_toList]; exact HZS.out
    rw [List.take_zero, List.nil_append, List.drop_of_length_le (by omega), List.append_nil]
  have hld := run_loadVar_mid (P := Try.prog) (W2.setRow (w.heap.size + 1 + 1) (List.take 0 Z.toList ++ bv (cutw A B k) ++ List.drop (0 + 128) Z.toList).toArray) (w.heap.size + 1 + 1) 0 116 (bv (cutw A B k)) _ (fun j v hv => by rw [cell_of_row _ _ _ _ _ _ hfin, Nat.zero_add]; simpa using hv) Try.underlying116 rfl (by rw [bv_length, HCL.out]; exact size65)
  have hgr : Grew w (W2.setRow (w.heap.size + 1 + 1) (List.take 0 Z.toList ++ bv (cutw A B k) ++ List.drop (0 + 128) Z.toList).toArray) := below_setRow HGG.out (by omega) _
  refine bodyPost_ret (v := .agg (bv (cutw A B k)).toArray) ?_ rfl ⟨rfl, hgr⟩
  rw [List.take_zero, List.nil_append, Nat.zero_add] at hld
  simp [results, Try.results110]
  simp [asAddr, hld]
end Go.Proofs.Ytbnicphegbdfnaa.DOver
