/-
  All that waits is settled.
  Conditions: those that each lemma names.
-/
import Derived.Test.YtbnicphegbdfnaaDOver
namespace Go.Proofs.Ytbnicphegbdfnaa.DSettle
set_option maxRecDepth 100000
set_option maxRecDepth 100000
set_option maxRecDepth 100000
open Go Go.RowKit Go.Proofs.Ytbnicphegbdfnaa Go.Proofs.Ytbnicphegbdfnaa.Facts Go.Proofs.Ytbnicphegbdfnaa.Bytes Go.Proofs.Ytbnicphegbdfnaa.DKeep Go.Proofs.Ytbnicphegbdfnaa.DSmall Go.Proofs.Ytbnicphegbdfnaa.DTurn Go.Proofs.Ytbnicphegbdfnaa.DArm Go.Proofs.Ytbnicphegbdfnaa.DRead Go.Proofs.Ytbnicphegbdfnaa.DNew Go.Proofs.Ytbnicphegbdfnaa.DBuild Go.Proofs.Ytbnicphegbdfnaa.DWrite Go.Proofs.Ytbnicphegbdfnaa.DOver

/-- What is safe behind i writes. -/
def settled (ks : Nat → Nat) (safe : List Sec) (l : List (Nat × Sec)) : Nat → List Sec
  | 0 => safe
  | i + 1 => match l[i]? with
    | some p => (settled ks safe l i).set p.1 (cutw ((settled ks safe l i)[p.1]?.getD []) p.2 (ks i))
    | none => settled ks safe l i
/-- What is read behind i writes. -/
def relast (safe last : List Sec) (l : List (Nat × Sec)) : Nat → List Sec
  | 0 => last
  | i + 1 => match l[i]? with
    | some p => (relast safe last l i).set p.1 (safe[p.1]?.getD [])
    | none => relast safe last l i
theorem settled_length (ks : Nat → Nat) (safe : List Sec) (l : List (Nat × Sec)) : ∀ i, (settled ks safe l i).length = safe.length
  | 0 => rfl
  | i + 1 => by
    unfold settled
    split
    · rw [List.length_set]; exact settled_length ks safe l i
    · exact settled_length ks safe l i
theorem relast_length (safe last : List Sec) (l : List (Nat × Sec)) : ∀ i, (relast safe last l i).length = last.length
  | 0 => rfl
  | i + 1 => by
    unfold relast
    split
    · rw [List.length_set]; exact relast_length safe last l i
    · exact relast_length safe last l i
theorem even_set {l : List Sec} (h : Even l) (k : Nat) (B : Sec) (hB : B.length = 128) : Even (l.set k B) := fun C hC => by
  rcases List.mem_or_eq_of_mem_set hC with h1 | rfl
  · exact h C h1
  · exact hB
theorem even_get {l : List Sec} (h : Even l) (k : Nat) (hk : k < l.length) : (l[k]?.getD []).length = 128 := by
  rw [List.getElem?_eq_getElem hk]
  exact h _ (List.getElem_mem hk)
theorem settled_even (ks : Nat → Nat) (safe : List Sec) (l : List (Nat × Sec)) (he : Even safe) (hf : Fit safe.length l) (hk : ∀ i, ks i ≤ 16) : ∀ i, Even (settled ks safe l i)
  | 0 => he
  | i + 1 => by
    unfold settled
    split
    · rename_i p hp
      have h1 := hf p (List.mem_of_getElem? hp)
      have ih := settled_even ks safe l he hf hk i
      exact even_set ih _ _ (cutw_length _ _ _ (even_get ih _ (by rw [settled_length]; exact h1.1)) h1.2 (hk i))
    · exact settled_even ks safe l he hf hk i
theorem relast_even (safe last : List Sec) (l : List (Nat × Sec)) (he : Even last) (hs : Even safe) (hf : Fit safe.length l) : ∀ i, Even (relast safe last l i)
  | 0 => he
  | i + 1 => by
    unfold relast
    split
    · rename_i p hp
      exact even_set (relast_even safe last l he hs hf i) _ _ (even_get hs _ (hf p (List.mem_of_getElem? hp)).1)
    · exact relast_even safe last l he hs hf i
theorem settled_succ (ks : Nat → Nat) (safe : List Sec) (l : List (Nat × Sec)) (i : Nat) (p : Nat × Sec) (hp : l[i]? = some p) : settled ks safe l (i + 1) = (settled ks safe l i).set p.1 (cutw ((settled ks safe l i)[p.1]?.getD []) p.2 (ks i)) := by
  rw [settled, hp]
theorem relast_succ (safe last : List Sec) (l : List (Nat × Sec)) (i : Nat) (p : Nat × Sec) (hp : l[i]? = some p) : relast safe last l (i + 1) = (relast safe last l i).set p.1 (safe[p.1]?.getD []) := by
  rw [relast, hp]

theorem own_range {W : World} {v : Value} {l : List (Nat × Sec)} {m i : Nat} {p : Nat × Sec} (h : W.ownsRow 0 129 129 v l.length (wcells l)) (hf : Fit m l) (hi : l[i]? = some p) (gw cap : Nat) (hv : v = .slice (some ⟨gw, 0, none⟩) l.length cap) : W.rangeAt gw (i * 129) (wr p.1 p.2) := by
  have hil := (List.getElem?_eq_some_iff.1 hi).1
  have hp := (hf p (List.mem_of_getElem? hi)).2
  rcases h.2 with ⟨rfl, h0⟩ | ⟨q, c, cur, e, _, hg, _, _, _, ht⟩
  · omega
  · subst hv
    injection e with e1 _ _
    injection e1 with e1
    injection e1 with e1
    subst e1
    intro j u hu
    have hj : j < 129 := by
      have := (List.getElem?_eq_some_iff.1 hu).1
      rw [wr_length _ _ hp] at this
      exact this
    rw [cell_of_row _ _ _ _ _ _ hg, ← Array.getElem?_toList]
    have h3 := wcells_at m l hf i p hi j hj
    rw [← ht, List.getElem?_take, if_pos (by omega), Nat.mul_comm] at h3
    rw [h3]
    exact hu
theorem run_load_wr (W : World) (gw o : Nat) (n : Int) (B : Sec) (h : W.rangeAt gw o (wr n B)) (hB : B.length = 128) : (Instr.loadAt 129 (.pointer (some ⟨gw, o, none⟩))).run Try.prog W = .ok (.agg (wr n B).toArray) W :=
  run_loadAt_mid W gw o 129 (wr n B) _ h Try.underlying129 rfl (by rw [wr_length _ _ hB]; exact size67)
theorem wr_cell0 {W : World} {K : Nat} {n : Int} {l : Sec} (h : W.heap[K]? = some (.cells (wr n l).toArray 129 (0, 0))) : W.cell? ⟨K, 0, none⟩ = some (.int .i64 n) := by
  rw [cell_of_row _ _ _ _ _ _ h]
  rfl
theorem range_grew {w W : World} {b o : Nat} {cs : List Value} (h : w.rangeAt b o cs) (hC : Grew w W) : W.rangeAt b o cs := fun j v hv => cellB hC (h j v hv)
theorem Kept.mono {D D' : Nat → Prop} {w W : World} (h : Kept D w W) (hd : ∀ k, D k → D' k) : Kept D' w W := ⟨h.os, h.tape, h.output, h.size, fun k hk hn => h.block k hk (fun hh => hn (hd k hh))⟩
theorem row_grew {w W : World} {a : Nat} {l : List Sec} (h : RowAt w a l) (hC : Grew w W) : RowAt W a l := h.keep (hC.block a h.lt)
theorem set_get {l : List Sec} {k : Nat} (hk : k < l.length) : l[k]? = some (l[k]?.getD []) := by
  rw [List.getElem?_eq_getElem hk]
  rfl
theorem row_range {w : World} {g : Nat} {l : List Sec} (h : RowAt w g l) (he : Even l) {k : Nat} (hk : k < l.length) : w.rangeAt g (k * 128) (bv (l[k]?.getD [])) := by
  have := h.range he (set_get hk)
  rwa [Nat.mul_comm] at this
theorem kept_alloc {D : Nat → Prop} {w W : World} (h : Kept D w W) (o : Obj) : Kept D w (W.alloc o) := h.trans (Kept.of_grew ((Below.refl _ W).alloc (Nat.le_refl _) o))

set_option maxHeartbeats 8000000 in
theorem settle33_any (w : World) (g : Nat) (D : Nat → Prop) (d : Pd) (ks : Nat → Nat) (h : DK w g D d) (hk : ∀ i, ks i ≤ 16) (hw : d.waits.length ≤ 1073741824) (HW : Hid (∀ W i, Kept D w W → Calls Try.prog 63 #[.int .i64 (i : Nat)] W fun e w' => e = .returned (.int .i64 (ks i : Int)) ∧ Grew W w')) :
    Calls Try.prog 62 #[dptr g, .func (.func 63) #[] #[]] w fun e w' => e = .returned (.tuple #[]) ∧ DK w' g D { d with safe := settled ks d.safe d.waits d.waits.length, last := relast (settled ks d.safe d.waits d.waits.length) d.last d.waits d.waits.length, waits := [] } ∧ Kept D w w' := by
  obtain ⟨hD, a, b, ca, cb, vw, h0, hin⟩ := h
  have HA := Lib.hid h0
  have HIN := Lib.hid hin
  have HDD := Lib.hid hD
  have HK16 := Lib.hid hk
  obtain ⟨AW, cW, rfl⟩ := own_block h0.waits
  obtain ⟨c0, c1, c2, _, _⟩ := h0.cells
  have hca := h0.ca1
  have hca2 := h0.ca2
  have hcb := h0.cb1
  have hcb2 := h0.cb2
  have C0 := Lib.hid c0
  have C1 := Lib.hid c1
  have C2 := Lib.hid c2
  have HN0 : Hid (∀ i, i < d.waits.length → ∃ gw cap, (Value.slice AW d.waits.length cW) = .slice (some ⟨gw, 0, none⟩) d.waits.length cap) := Lib.hid fun i hi => by
    rcases h0.waits.2 with ⟨e, h00⟩ | ⟨q, c, cur, e, _⟩
    · omega
    · exact ⟨q, c, e⟩
  obtain ⟨Z, hZ, hz⟩ := z67
  have HZ := Lib.hid hz
  have HZS := Lib.hid hZ
  have hcw : d.waits.length ≤ 9223372036854775807 := by omega
  clear h0 hin hD hk hZ hz c1
  unfold dptr
  go_enter Try.func62, Try.ntmps62
  go_wp2
  go_loopg [13] d.waits.length (fun q s13 wx => ∃ i : Nat, i + q = d.waits.length ∧ s13 = .int .i64 i ∧ Hid (RowAt wx a (settled ks d.safe d.waits i)) ∧ Hid (Kept (fun j => j = a) w wx))
  case atStart => exact ⟨0, Nat.zero_add _, rfl, Lib.hid HA.out.safe, Lib.hid (Kept.refl _ _)⟩
  case round =>
    obtain ⟨i, hiq, rfl, HRA0, HKA⟩ := hrel
    generalize wr = wi at *
    have HKG : Hid (wi.heap[g]? = w.heap[g]?) := Lib.hid (HKA.out.block g (HDD.out g HIN.out.g) HA.out.ga)
    cases gk with
    | succ q =>
      have hil : (i : Int) < (d.waits.length : Int) := by omega
      have hil2 : i < d.waits.length := by omega
      obtain ⟨p, hp⟩ : ∃ p, d.waits[i]? = some p := ⟨_, List.getElem?_eq_getElem hil2⟩
      obtain ⟨gw, cap, hv⟩ := HN0.out i hil2
      injection hv with hv1 _ hv2
      subst hv1 hv2
      have hpm := HA.out.ok.fit p (List.mem_of_getElem? hp)
      have hp1 := hpm.1
      have HP1 := Lib.hid hpm.1
      have HPL := Lib.hid hpm.2
      have HPP := Lib.hid hp
      have hwi := own_keep HA.out.waits (w' := wi) fun k e => HKA.out.block k (HDD.out k (HIN.out.w k e)) (fun e2 => HA.out.aw (by rw [e, e2]))
      have HLD := Lib.hid (run_load_wr wi gw (i * 129) p.1 p.2 (own_range hwi HA.out.ok.fit hp gw _ rfl) hpm.2)
      have HST := Lib.hid (run_store_new 129 129 size67 wi Z HZS.out (DBuild.wr p.1 p.2) (wr_length _ _ hpm.2) (wr_one _ _))
      obtain ⟨S, hS⟩ : ∃ S, S = settled ks d.safe d.waits i := ⟨_, rfl⟩
      have hse := settled_even ks d.safe d.waits HA.out.ok.es HA.out.ok.fit HK16.out i
      have hsn := settled_length ks d.safe d.waits i
      rw [← hS] at HRA0 hse hsn
      have HSE := Lib.hid hse
      have HSN := Lib.hid hsn
      have HSL := Lib.hid (even_get hse p.1 (by omega))
      have HSS := Lib.hid hS
      have hcap : d.waits.length ≤ cW := by
        rcases HA.out.waits.2 with ⟨e, _⟩ | ⟨_, _, _, e, _, _, h1, _⟩
        · cases e
        · injection e with _ _ e3
          omega
      have hcap2 : cW ≤ 9223372036854775807 := by
        rcases HA.out.waits.2 with ⟨e, _⟩ | ⟨_, _, _, e, _, _, _, h2, _⟩
        · cases e
        · injection e with _ _ e3
          unfold maxLen at h2
          omega
      clear hwi hpm hS hse hsn hp
      go_wp2_with (first
        | refine wpList_load (by rfl) 129 (.tmp 16) (by with_reducible rfl) _ _ (by rfl) HLD.out ?_
        | refine DArm.wpList_alloc (by rfl) 129 (by with_reducible rfl) _ HZ.out ?_
        | refine DArm.wpList_store (by rfl) 129 (.tmp 5) (.tmp 17) (by with_reducible rfl) _ _ (by rfl) (by rfl) _ HST.out ?_)
      have hga : Grew wi (wi.alloc (.cells (DBuild.wr p.1 p.2).toArray 129)) := (Below.refl _ wi).alloc (Nat.le_refl _) _
      have HKB : Hid ((wi.alloc (.cells (DBuild.wr p.1 p.2).toArray 129)).heap[wi.heap.size]? = some (.cells (DBuild.wr p.1 p.2).toArray 129 (0, 0))) := Lib.hid (heap_alloc_new wi _)
      have HRA := Lib.hid (row_grew HRA0.out hga)
      have hc0 : (wi.alloc (.cells (DBuild.wr p.1 p.2).toArray 129)).cell? ⟨g, 0, none⟩ = some (.slice (some ⟨a, 0, none⟩) d.safe.length ca) := cellB hga ((World.cell?_of_block (w := w) HKG.out).trans C0.out)
      have hkc : (wi.alloc (.cells (DBuild.wr p.1 p.2).toArray 129)).cell? ⟨wi.heap.size, 0, none⟩ = some (.int .i64 (p.1 : Int)) := wr_cell0 HKB.out
      have HKA1 := Lib.hid (HKA.out.trans (Kept.of_grew hga))
      clear c0 hga HST HLD
      generalize hW1 : wi.alloc (.cells (DBuild.wr p.1 p.2).toArray 129) = W1 at *
      clear hW1
      generalize wi.heap.size = K at *
      have c0 := hc0
      have kc0 := hkc
      clear hc0 hkc
      have HRS := Lib.hid (row_range HRA.out HSE.out (k := p.1) (by rw [HSN.out]; exact HP1.out))
      have HAL : Hid (a < W1.heap.size) := Lib.hid HRA.out.lt
      have HKW : Hid (Kept D w W1) := Lib.hid (Kept.mono HKA1.out fun k e => by rw [e]; exact HIN.out.a)
      clear HRA0 HKA HKG c2
      refine Marks.wp_region_text (JS W1 21 (fun W => RowAt W a (S.set p.1 (cutw (S[p.1]?.getD []) p.2 (ks i))) ∧ W1.grownBy W (some a))) (fun _ _ => True) (by kernel_rfl) (by kernel_rfl) (JS.start W1 21 _) ?_
      apply Marks.Lex.exact [] _ (by kernel_rfl)
      · intro m u W hm hcl hJ _
        obtain ⟨hC, _⟩ := hJ.get 0 (by omega) hm
        unfold Marks.one
        go_simp
        exact ⟨trivial, hJ.keep 0 (by omega) hm _ (Grew.refl _), rfl⟩
      simp only [Act.put, List.setIfInBounds_toArray, List.set_cons_zero, List.set_cons_succ, Nat.zero_add, Nat.reduceAdd]
      apply Marks.Lex.exact [] _ (by kernel_rfl)
      · intro m u W hm hcl hJ _
        obtain ⟨hC, _⟩ := hJ.get 1 (by omega) hm
        unfold Marks.one
        go_simp
        exact ⟨trivial, hJ.keep 1 (by omega) hm _ (Grew.refl _), rfl⟩
      simp only [Act.put, List.setIfInBounds_toArray, List.set_cons_zero, List.set_cons_succ, Nat.zero_add, Nat.reduceAdd]
      apply Marks.Lex.exact [] _ (by kernel_rfl)
      · intro m u W hm hcl hJ _
        obtain ⟨hC, _⟩ := hJ.get 2 (by omega) hm
        unfold Marks.one
        go_simp
        exact ⟨trivial, hJ.keep 2 (by omega) hm _ (Grew.refl _), rfl⟩
      simp only [Act.put, List.setIfInBounds_toArray, List.set_cons_zero, List.set_cons_succ, Nat.zero_add, Nat.reduceAdd]
      apply Marks.Lex.exact [] _ (by kernel_rfl)
      · intro m u W hm hcl hJ _
        obtain ⟨hC, _⟩ := hJ.get 3 (by omega) hm
        have c0' := cellB hC c0
        unfold Marks.one
        go_simp
        exact ⟨trivial, hJ.keep 3 (by omega) hm _ (Grew.refl _), rfl⟩
      simp only [Act.put, List.setIfInBounds_toArray, List.set_cons_zero, List.set_cons_succ, Nat.zero_add, Nat.reduceAdd]
      apply Marks.Lex.exact [] _ (by kernel_rfl)
      · intro m u W hm hcl hJ _
        obtain ⟨hC, _⟩ := hJ.get 4 (by omega) hm
        unfold Marks.one
        go_simp
        exact ⟨trivial, hJ.keep 4 (by omega) hm _ (Grew.refl _), rfl⟩
      simp only [Act.put, List.setIfInBounds_toArray, List.set_cons_zero, List.set_cons_succ, Nat.zero_add, Nat.reduceAdd]
      apply Marks.Lex.exact [] _ (by kernel_rfl)
      · intro m u W hm hcl hJ _
        obtain ⟨hC, _⟩ := hJ.get 5 (by omega) hm
        have k0' := cellB hC kc0
        unfold Marks.one
        go_simp
        exact ⟨trivial, hJ.keep 5 (by omega) hm _ (Grew.refl _), rfl⟩
      simp only [Act.put, List.setIfInBounds_toArray, List.set_cons_zero, List.set_cons_succ, Nat.zero_add, Nat.reduceAdd]
      apply Marks.Lex.exact [] _ (by kernel_rfl)
      · intro m u W hm hcl hJ _
        obtain ⟨hC, _⟩ := hJ.get 6 (by omega) hm
        unfold Marks.one
        go_simp
        exact ⟨trivial, hJ.keep 6 (by omega) hm _ (Grew.refl _), rfl⟩
      simp only [Act.put, List.setIfInBounds_toArray, List.set_cons_zero, List.set_cons_succ, Nat.zero_add, Nat.reduceAdd]
      apply Marks.Lex.exact [] _ (by kernel_rfl)
      · intro m u W hm hcl hJ _
        obtain ⟨hC, _⟩ := hJ.get 7 (by omega) hm
        unfold Marks.one
        go_simp
        exact ⟨trivial, hJ.keep 7 (by omega) hm _ (Grew.refl _), rfl⟩
      simp only [Act.put, List.setIfInBounds_toArray, List.set_cons_zero, List.set_cons_succ, Nat.zero_add, Nat.reduceAdd]
      apply Marks.Lex.exact [] _ (by kernel_rfl)
      · intro m u W hm hcl hJ _
        obtain ⟨hC, _⟩ := hJ.get 8 (by omega) hm
        unfold Marks.one
        go_simp
        exact ⟨trivial, hJ.keep 8 (by omega) hm _ (Grew.refl _), rfl⟩
      simp only [Act.put, List.setIfInBounds_toArray, List.set_cons_zero, List.set_cons_succ, Nat.zero_add, Nat.reduceAdd]
      apply Marks.Lex.exact [] _ (by kernel_rfl)
      · intro m u W hm hcl hJ _
        obtain ⟨hC, _⟩ := hJ.get 9 (by omega) hm
        have c0' := cellB hC c0
        unfold Marks.one
        go_simp
        exact ⟨trivial, hJ.keep 9 (by omega) hm _ (Grew.refl _), rfl⟩
      simp only [Act.put, List.setIfInBounds_toArray, List.set_cons_zero, List.set_cons_succ, Nat.zero_add, Nat.reduceAdd]
      apply Marks.Lex.exact [] _ (by kernel_rfl)
      · intro m u W hm hcl hJ _
        obtain ⟨hC, _⟩ := hJ.get 10 (by omega) hm
        unfold Marks.one
        go_simp
        exact ⟨trivial, hJ.keep 10 (by omega) hm _ (Grew.refl _), rfl⟩
      simp only [Act.put, List.setIfInBounds_toArray, List.set_cons_zero, List.set_cons_succ, Nat.zero_add, Nat.reduceAdd]
      apply Marks.Lex.exact [] _ (by kernel_rfl)
      · intro m u W hm hcl hJ _
        obtain ⟨hC, _⟩ := hJ.get 11 (by omega) hm
        have k0' := cellB hC kc0
        unfold Marks.one
        go_simp
        exact ⟨trivial, hJ.keep 11 (by omega) hm _ (Grew.refl _), rfl⟩
      simp only [Act.put, List.setIfInBounds_toArray, List.set_cons_zero, List.set_cons_succ, Nat.zero_add, Nat.reduceAdd]
      apply Marks.Lex.exact [] _ (by kernel_rfl)
      · intro m u W hm hcl hJ _
        obtain ⟨hC, _⟩ := hJ.get 12 (by omega) hm
        unfold Marks.one
        go_simp
        exact ⟨trivial, hJ.keep 12 (by omega) hm _ (Grew.refl _), rfl⟩
      simp only [Act.put, List.setIfInBounds_toArray, List.set_cons_zero, List.set_cons_succ, Nat.zero_add, Nat.reduceAdd]
      apply Marks.Lex.exact [] (.agg (bv (S[p.1]?.getD [])).toArray) (by kernel_rfl)
      · intro m u W hm hcl hJ _
        obtain ⟨hC, _⟩ := hJ.get 13 (by omega) hm
        exact one_load rfl 116 (.tmp 30) rfl _ _ rfl (run_load_sec W a (p.1 * 128) _ (range_grew HRS.out hC) HSL.out) ⟨trivial, hJ.keep 13 (by omega) hm _ (Grew.refl _), rfl⟩
      simp only [Act.put, List.setIfInBounds_toArray, List.set_cons_zero, List.set_cons_succ, Nat.zero_add, Nat.reduceAdd]
      apply Marks.Lex.exact [] _ (by kernel_rfl)
      · intro m u W hm hcl hJ _
        obtain ⟨hC, _⟩ := hJ.get 14 (by omega) hm
        unfold Marks.one
        go_simp
        exact ⟨trivial, hJ.keep 14 (by omega) hm _ (Grew.refl _), rfl⟩
      simp only [Act.put, List.setIfInBounds_toArray, List.set_cons_zero, List.set_cons_succ, Nat.zero_add, Nat.reduceAdd]
      apply Marks.Lex.exact [] (.agg (bv p.2).toArray) (by kernel_rfl)
      · intro m u W hm hcl hJ _
        obtain ⟨hC, _⟩ := hJ.get 15 (by omega) hm
        exact one_load rfl 116 (.tmp 32) rfl _ _ rfl (run_load_sec W K 1 p.2 (wr_range (keepB HKB.out hC)) HPL.out) ⟨trivial, hJ.keep 15 (by omega) hm _ (Grew.refl _), rfl⟩
      simp only [Act.put, List.setIfInBounds_toArray, List.set_cons_zero, List.set_cons_succ, Nat.zero_add, Nat.reduceAdd]
      apply Marks.Lex.exact [] _ (by kernel_rfl)
      · intro m u W hm hcl hJ _
        obtain ⟨hC, _⟩ := hJ.get 16 (by omega) hm
        unfold Marks.one
        go_simp
        exact ⟨trivial, hJ.keep 16 (by omega) hm _ (Grew.refl _), rfl⟩
      simp only [Act.put, List.setIfInBounds_toArray, List.set_cons_zero, List.set_cons_succ, Nat.zero_add, Nat.reduceAdd]
      apply Marks.Lex.exact [] _ (by kernel_rfl)
      · intro m u W hm hcl hJ _
        obtain ⟨hC, _⟩ := hJ.get 17 (by omega) hm
        unfold Marks.one
        go_simp
        exact ⟨trivial, hJ.keep 17 (by omega) hm _ (Grew.refl _), rfl⟩
      simp only [Act.put, List.setIfInBounds_toArray, List.set_cons_zero, List.set_cons_succ, Nat.zero_add, Nat.reduceAdd]
      apply Marks.Lex.exact [] (.int .i64 (ks i : Int)) (by kernel_rfl)
      · intro m u W hm hcl hJ _
        obtain ⟨hC, _⟩ := hJ.get 18 (by omega) hm
        unfold Marks.one
        go_simp
        refine (HW.out W i (HKW.out.trans (Kept.of_grew hC))).mono ?_
        rintro e w' ⟨rfl, hg⟩
        exact ⟨_, rfl, trivial, hJ.keep 18 (by omega) hm _ hg, rfl⟩
      simp only [Act.put, List.setIfInBounds_toArray, List.set_cons_zero, List.set_cons_succ, Nat.zero_add, Nat.reduceAdd]
      apply Marks.Lex.exact [] (.agg (bv (cutw (S[p.1]?.getD []) p.2 (ks i))).toArray) (by kernel_rfl)
      · intro m u W hm hcl hJ _
        obtain ⟨hC, _⟩ := hJ.get 19 (by omega) hm
        unfold Marks.one
        go_simp
        refine (over_any _ _ (ks i) W HSL.out HPL.out (HK16.out i)).mono ?_
        rintro e w' ⟨rfl, hg⟩
        exact ⟨_, rfl, trivial, hJ.keep 19 (by omega) hm _ hg, rfl⟩
      simp only [Act.put, List.setIfInBounds_toArray, List.set_cons_zero, List.set_cons_succ, Nat.zero_add, Nat.reduceAdd]
      apply Marks.Lex.exact [] _ (by kernel_rfl)
      · intro m u W hm hcl hJ _
        obtain ⟨hC, _⟩ := hJ.get 20 (by omega) hm
        unfold Marks.one
        go_simp
        exact ⟨trivial, hJ.keep 20 (by omega) hm _ (Grew.refl _), rfl⟩
      simp only [Act.put, List.setIfInBounds_toArray, List.set_cons_zero, List.set_cons_succ, Nat.zero_add, Nat.reduceAdd]
      apply Marks.Lex.exact [] undef (by kernel_rfl)
      · intro m u W hm hcl hJ _
        have hC := hJ.a hm
        obtain ⟨W', hr, hrow, hgr⟩ := row_set (w' := W) (HRA.out.keep (hC.block a HAL.out)) HSE.out (by rw [HSN.out]; exact HP1.out) (cutw_length _ _ _ HSL.out HPL.out (HK16.out i))
        exact one_store rfl 116 (.tmp 38) (.tmp 37) rfl _ _ rfl rfl W' hr ⟨trivial, hJ.last undef (fun j hj => hcl j (by have : j ∈ List.range 21 := List.mem_range.2 hj; revert this; revert j; decide)) ⟨hrow, grown_of hC hgr⟩, rfl⟩
      simp only [Act.put, List.setIfInBounds_toArray, List.set_cons_zero, List.set_cons_succ, Nat.zero_add, Nat.reduceAdd]
      refine Marks.Lex.done fun m u W2 hm hJ _ => ?_
      obtain ⟨_, HR2, HG2⟩ := hJ.b (hm 21 (by omega))
      clear hJ hm
      have HR2' := Lib.hid HR2
      have HK2 := Lib.hid (HKA1.out.trans (Kept.of_grown HG2 fun k e => by cases e; rfl))
      clear HR2 HG2 c0 kc0
      go_wp2
      go_roundg q
      case measure => omega
      case rel =>
        refine ⟨i + 1, by omega, by first | rfl | simp, ?_, HK2⟩
        rw [settled_succ ks d.safe d.waits i p HPP.out, ← HSS.out]
        exact HR2'
    | zero =>
      have hil : ¬ ((i : Int) < (d.waits.length : Int)) := by omega
      obtain rfl : i = d.waits.length := by omega
      have C0' := Lib.hid ((World.cell?_of_block (w := w) HKG.out).trans C0.out)
      have C1' := Lib.hid ((World.cell?_of_block (w := w) HKG.out).trans C1.out)
      have c2' := (World.cell?_of_block (w := w) HKG.out).trans C2.out
      have C2' := Lib.hid c2'
      have HBLK := Lib.hid (HKG.out.trans HA.out.blk)
      obtain ⟨S, hS⟩ : ∃ S, S = settled ks d.safe d.waits d.waits.length := ⟨_, rfl⟩
      have hse := settled_even ks d.safe d.waits HA.out.ok.es HA.out.ok.fit HK16.out d.waits.length
      have hsn := settled_length ks d.safe d.waits d.waits.length
      rw [← hS] at HRA0 hse hsn
      have HSE := Lib.hid hse
      have HSN := Lib.hid hsn
      have HSS := Lib.hid hS
      have HLK : Hid (wi.heap[b]? = w.heap[b]?) := Lib.hid (HKA.out.block b (HDD.out b HIN.out.b) (Ne.symm HA.out.ab))
      have HWO := Lib.hid (own_keep HA.out.waits (w' := wi) fun k e => HKA.out.block k (HDD.out k (HIN.out.w k e)) (fun e2 => HA.out.aw (by rw [e, e2])))
      clear c0 c2 HKG hS hse hsn
      go_wp2
      go_loopg [45] d.waits.length (fun q s45 wx => ∃ i : Nat, i + q = d.waits.length ∧ s45 = .int .i64 i ∧ Hid (RowAt wx b (relast S d.last d.waits i)) ∧ Hid (Kept (fun j => j = b) wi wx))
      case atStart => exact ⟨0, Nat.zero_add _, rfl, Lib.hid (HA.out.last.keep HLK.out), Lib.hid (Kept.refl _ _)⟩
      case round =>
        obtain ⟨i, hiq2, rfl, HRB0, HKB2⟩ := hrel
        generalize wr = wj at *
        have hgl : g < wi.heap.size := (Array.getElem?_eq_some_iff.1 HBLK.out).1
        have HKG : Hid (wj.heap[g]? = wi.heap[g]?) := Lib.hid (HKB2.out.block g hgl HA.out.gb)
        have HRA := Lib.hid (HRA0.out.keep (HKB2.out.block a HRA0.out.lt HA.out.ab))
        have HWO2 := Lib.hid (own_keep HWO.out (w' := wj) fun k e => HKB2.out.block k (own_lt HWO.out e) (fun e2 => HA.out.bw (by rw [e, e2])))
        clear hgl
        cases gk with
        | zero =>
          have hil3 : ¬ ((i : Int) < (d.waits.length : Int)) := by omega
          obtain rfl : i = d.waits.length := by omega
          have HB3 := Lib.hid (HKG.out.trans HBLK.out)
          have c2j := (World.cell?_of_block (w := wi) HKG.out).trans C2'.out
          have f2j := frozen_of_row wj g 2 _ _ HB3.out
          go_wp2
          go_end0
          refine ⟨rfl, ⟨fun k hkk => ?_, a, b, ca, cb, .slice none 0 0, ?_, ⟨HIN.out.g, HIN.out.a, HIN.out.b, fun k e => by simp [Value.ownBlock] at e⟩⟩, ?_⟩
          · have h1 := HDD.out k hkk
            have h2 := HKA.out.size
            have h3 := HKB2.out.size
            simp [World.setCell]
            omega
          · have hne : ∀ k, k ≠ g → (wj.setCell ⟨g, 2, none⟩ (.slice none 0 0)).heap[k]? = wj.heap[k]? := fun k hkk => heap_setCell_other wj ⟨g, 2, none⟩ k _ hkk
            have hA := HA.out
            rw [← HSS.out]
            refine ⟨?_, HRA.out.keep (hne a (Ne.symm hA.ga)), HRB0.out.keep (hne b (Ne.symm hA.gb)), World.ownsRow_nil _ _ _ _, hA.ga, hA.gb, hA.ab, by simp [Value.ownBlock], by simp [Value.ownBlock], by simp [Value.ownBlock], ⟨?_, ?_, ?_, HSE.out, relast_even S d.last d.waits hA.ok.el HSE.out (by rw [HSN.out]; exact hA.ok.fit) _, (fun p hp => by simp at hp), hA.ok.f1, hA.ok.f2⟩, ?_, hA.ca2, ?_, hA.cb2⟩
            · rw [heap_setCell_same _ _ _ _ _ _ HB3.out]
              show some (Obj.cells #[.slice (some ⟨a, 0, none⟩) d.safe.length ca, .slice (some ⟨b, 0, none⟩) d.safe.length cb, .slice none 0 0, .int .i64 d.fuse, .bool d.off] 104 (0, 0)) = some (Obj.cells #[.slice (some ⟨a, 0, none⟩) S.length ca, .slice (some ⟨b, 0, none⟩) S.length cb, .slice none 0 0, .int .i64 d.fuse, .bool d.off] 104 (0, 0))
              rw [HSN.out]
            · show 1 ≤ S.length
              rw [HSN.out]; exact hA.ok.n1
            · show S.length ≤ 16384
              rw [HSN.out]; exact hA.ok.n2
            · show (relast S d.last d.waits d.waits.length).length = S.length
              rw [relast_length, HSN.out]; exact hA.ok.same
            · show S.length ≤ ca
              rw [HSN.out]; exact hA.ca1
            · show S.length ≤ cb
              rw [HSN.out]; exact hA.cb1
          · exact ((Kept.mono HKA.out fun k e => by rw [e]; exact HIN.out.a).trans (Kept.mono HKB2.out fun k e => by rw [e]; exact HIN.out.b)).trans (Kept.set _ _ HIN.out.g)
        | succ q =>
          have hil3 : (i : Int) < (d.waits.length : Int) := by omega
          have hil2 : i < d.waits.length := by omega
          obtain ⟨p, hp⟩ : ∃ p, d.waits[i]? = some p := ⟨_, List.getElem?_eq_getElem hil2⟩
          obtain ⟨gw, cap, hv⟩ := HN0.out i hil2
          injection hv with hv1 _ hv2
          subst hv1 hv2
          have hpm := HA.out.ok.fit p (List.mem_of_getElem? hp)
          have hp1 := hpm.1
          have HP1 := Lib.hid hpm.1
          have HPL := Lib.hid hpm.2
          have HPP := Lib.hid hp
          have HLD := Lib.hid (run_load_wr wj gw (i * 129) p.1 p.2 (own_range HWO2.out HA.out.ok.fit hp gw _ rfl) hpm.2)
          have HST := Lib.hid (run_store_new 129 129 size67 wj Z HZS.out (DBuild.wr p.1 p.2) (wr_length _ _ hpm.2) (wr_one _ _))
          obtain ⟨L, hL⟩ : ∃ L, L = relast S d.last d.waits i := ⟨_, rfl⟩
          have hle := relast_even S d.last d.waits HA.out.ok.el HSE.out (by rw [HSN.out]; exact HA.out.ok.fit) i
          have hln := relast_length S d.last d.waits i
          rw [HA.out.ok.same] at hln
          rw [← hL] at HRB0 hle hln
          have HLE := Lib.hid hle
          have HLN := Lib.hid hln
          have HSL := Lib.hid (even_get HSE.out p.1 (by rw [HSN.out]; exact HP1.out))
          have HLL := Lib.hid hL
          have hcap : d.waits.length ≤ cW := by
            rcases HA.out.waits.2 with ⟨e, _⟩ | ⟨_, _, _, e, _, _, h1, _⟩
            · cases e
            · injection e with _ _ e3
              omega
          have hcap2 : cW ≤ 9223372036854775807 := by
            rcases HA.out.waits.2 with ⟨e, _⟩ | ⟨_, _, _, e, _, _, _, h2, _⟩
            · cases e
            · injection e with _ _ e3
              unfold maxLen at h2
              omega
          clear hpm hL hle hln hp
          go_wp2_with (first
            | refine wpList_load (by rfl) 129 (.tmp 47) (by with_reducible rfl) _ _ (by rfl) HLD.out ?_
            | refine DArm.wpList_alloc (by rfl) 129 (by with_reducible rfl) _ HZ.out ?_
            | refine DArm.wpList_store (by rfl) 129 (.tmp 7) (.tmp 48) (by with_reducible rfl) _ _ (by rfl) (by rfl) _ HST.out ?_)
          have hga : Grew wj (wj.alloc (.cells (DBuild.wr p.1 p.2).toArray 129)) := (Below.refl _ wj).alloc (Nat.le_refl _) _
          have HKB : Hid ((wj.alloc (.cells (DBuild.wr p.1 p.2).toArray 129)).heap[wj.heap.size]? = some (.cells (DBuild.wr p.1 p.2).toArray 129 (0, 0))) := Lib.hid (heap_alloc_new wj _)
          have HRB := Lib.hid (row_grew HRB0.out hga)
          have HRA1 := Lib.hid (row_grew HRA.out hga)
          have hc0 : (wj.alloc (.cells (DBuild.wr p.1 p.2).toArray 129)).cell? ⟨g, 0, none⟩ = some (.slice (some ⟨a, 0, none⟩) d.safe.length ca) := cellB hga ((World.cell?_of_block (w := wi) HKG.out).trans C0'.out)
          have hc1 : (wj.alloc (.cells (DBuild.wr p.1 p.2).toArray 129)).cell? ⟨g, 1, none⟩ = some (.slice (some ⟨b, 0, none⟩) d.safe.length cb) := cellB hga ((World.cell?_of_block (w := wi) HKG.out).trans C1'.out)
          have hkc : (wj.alloc (.cells (DBuild.wr p.1 p.2).toArray 129)).cell? ⟨wj.heap.size, 0, none⟩ = some (.int .i64 (p.1 : Int)) := wr_cell0 HKB.out
          have HKB3 := Lib.hid (HKB2.out.trans (Kept.of_grew hga))
          clear c2' hga HST HLD
          generalize hW1 : wj.alloc (.cells (DBuild.wr p.1 p.2).toArray 129) = W1 at *
          clear hW1
          generalize wj.heap.size = K at *
          have c0 := hc0
          have c1 := hc1
          have kc0 := hkc
          clear hc0 hc1 hkc
          have HRS := Lib.hid (row_range HRA1.out HSE.out (k := p.1) (by rw [HSN.out]; exact HP1.out))
          have HBL : Hid (b < W1.heap.size) := Lib.hid HRB.out.lt
          clear HRB0 HKG HRA HWO2
          refine Marks.wp_region_text (JS W1 15 (fun W => RowAt W b (L.set p.1 (S[p.1]?.getD [])) ∧ W1.grownBy W (some b))) (fun _ _ => True) (by kernel_rfl) (by kernel_rfl) (JS.start W1 15 _) ?_
          apply Marks.Lex.exact [] _ (by kernel_rfl)
          · intro m u W hm hcl hJ _
            obtain ⟨hC, _⟩ := hJ.get 0 (by omega) hm
            unfold Marks.one
            go_simp
            exact ⟨trivial, hJ.keep 0 (by omega) hm _ (Grew.refl _), rfl⟩
          simp only [Act.put, List.setIfInBounds_toArray, List.set_cons_zero, List.set_cons_succ, Nat.zero_add, Nat.reduceAdd]
          apply Marks.Lex.exact [] _ (by kernel_rfl)
          · intro m u W hm hcl hJ _
            obtain ⟨hC, _⟩ := hJ.get 1 (by omega) hm
            unfold Marks.one
            go_simp
            exact ⟨trivial, hJ.keep 1 (by omega) hm _ (Grew.refl _), rfl⟩
          simp only [Act.put, List.setIfInBounds_toArray, List.set_cons_zero, List.set_cons_succ, Nat.zero_add, Nat.reduceAdd]
          apply Marks.Lex.exact [] _ (by kernel_rfl)
          · intro m u W hm hcl hJ _
            obtain ⟨hC, _⟩ := hJ.get 2 (by omega) hm
            unfold Marks.one
            go_simp
            exact ⟨trivial, hJ.keep 2 (by omega) hm _ (Grew.refl _), rfl⟩
          simp only [Act.put, List.setIfInBounds_toArray, List.set_cons_zero, List.set_cons_succ, Nat.zero_add, Nat.reduceAdd]
          apply Marks.Lex.exact [] _ (by kernel_rfl)
          · intro m u W hm hcl hJ _
            obtain ⟨hC, _⟩ := hJ.get 3 (by omega) hm
            have c1' := cellB hC c1
            unfold Marks.one
            go_simp
            exact ⟨trivial, hJ.keep 3 (by omega) hm _ (Grew.refl _), rfl⟩
          simp only [Act.put, List.setIfInBounds_toArray, List.set_cons_zero, List.set_cons_succ, Nat.zero_add, Nat.reduceAdd]
          apply Marks.Lex.exact [] _ (by kernel_rfl)
          · intro m u W hm hcl hJ _
            obtain ⟨hC, _⟩ := hJ.get 4 (by omega) hm
            unfold Marks.one
            go_simp
            exact ⟨trivial, hJ.keep 4 (by omega) hm _ (Grew.refl _), rfl⟩
          simp only [Act.put, List.setIfInBounds_toArray, List.set_cons_zero, List.set_cons_succ, Nat.zero_add, Nat.reduceAdd]
          apply Marks.Lex.exact [] _ (by kernel_rfl)
          · intro m u W hm hcl hJ _
            obtain ⟨hC, _⟩ := hJ.get 5 (by omega) hm
            have k0' := cellB hC kc0
            unfold Marks.one
            go_simp
            exact ⟨trivial, hJ.keep 5 (by omega) hm _ (Grew.refl _), rfl⟩
          simp only [Act.put, List.setIfInBounds_toArray, List.set_cons_zero, List.set_cons_succ, Nat.zero_add, Nat.reduceAdd]
          apply Marks.Lex.exact [] _ (by kernel_rfl)
          · intro m u W hm hcl hJ _
            obtain ⟨hC, _⟩ := hJ.get 6 (by omega) hm
            unfold Marks.one
            go_simp
            exact ⟨trivial, hJ.keep 6 (by omega) hm _ (Grew.refl _), rfl⟩
          simp only [Act.put, List.setIfInBounds_toArray, List.set_cons_zero, List.set_cons_succ, Nat.zero_add, Nat.reduceAdd]
          apply Marks.Lex.exact [] _ (by kernel_rfl)
          · intro m u W hm hcl hJ _
            obtain ⟨hC, _⟩ := hJ.get 7 (by omega) hm
            unfold Marks.one
            go_simp
            exact ⟨trivial, hJ.keep 7 (by omega) hm _ (Grew.refl _), rfl⟩
          simp only [Act.put, List.setIfInBounds_toArray, List.set_cons_zero, List.set_cons_succ, Nat.zero_add, Nat.reduceAdd]
          apply Marks.Lex.exact [] _ (by kernel_rfl)
          · intro m u W hm hcl hJ _
            obtain ⟨hC, _⟩ := hJ.get 8 (by omega) hm
            unfold Marks.one
            go_simp
            exact ⟨trivial, hJ.keep 8 (by omega) hm _ (Grew.refl _), rfl⟩
          simp only [Act.put, List.setIfInBounds_toArray, List.set_cons_zero, List.set_cons_succ, Nat.zero_add, Nat.reduceAdd]
          apply Marks.Lex.exact [] _ (by kernel_rfl)
          · intro m u W hm hcl hJ _
            obtain ⟨hC, _⟩ := hJ.get 9 (by omega) hm
            have c0' := cellB hC c0
            unfold Marks.one
            go_simp
            exact ⟨trivial, hJ.keep 9 (by omega) hm _ (Grew.refl _), rfl⟩
          simp only [Act.put, List.setIfInBounds_toArray, List.set_cons_zero, List.set_cons_succ, Nat.zero_add, Nat.reduceAdd]
          apply Marks.Lex.exact [] _ (by kernel_rfl)
          · intro m u W hm hcl hJ _
            obtain ⟨hC, _⟩ := hJ.get 10 (by omega) hm
            unfold Marks.one
            go_simp
            exact ⟨trivial, hJ.keep 10 (by omega) hm _ (Grew.refl _), rfl⟩
          simp only [Act.put, List.setIfInBounds_toArray, List.set_cons_zero, List.set_cons_succ, Nat.zero_add, Nat.reduceAdd]
          apply Marks.Lex.exact [] _ (by kernel_rfl)
          · intro m u W hm hcl hJ _
            obtain ⟨hC, _⟩ := hJ.get 11 (by omega) hm
            have k0' := cellB hC kc0
            unfold Marks.one
            go_simp
            exact ⟨trivial, hJ.keep 11 (by omega) hm _ (Grew.refl _), rfl⟩
          simp only [Act.put, List.setIfInBounds_toArray, List.set_cons_zero, List.set_cons_succ, Nat.zero_add, Nat.reduceAdd]
          apply Marks.Lex.exact [] _ (by kernel_rfl)
          · intro m u W hm hcl hJ _
            obtain ⟨hC, _⟩ := hJ.get 12 (by omega) hm
            unfold Marks.one
            go_simp
            exact ⟨trivial, hJ.keep 12 (by omega) hm _ (Grew.refl _), rfl⟩
          simp only [Act.put, List.setIfInBounds_toArray, List.set_cons_zero, List.set_cons_succ, Nat.zero_add, Nat.reduceAdd]
          apply Marks.Lex.exact [] (.agg (bv (S[p.1]?.getD [])).toArray) (by kernel_rfl)
          · intro m u W hm hcl hJ _
            obtain ⟨hC, _⟩ := hJ.get 13 (by omega) hm
            exact one_load rfl 116 (.tmp 61) rfl _ _ rfl (run_load_sec W a (p.1 * 128) _ (range_grew HRS.out hC) HSL.out) ⟨trivial, hJ.keep 13 (by omega) hm _ (Grew.refl _), rfl⟩
          simp only [Act.put, List.setIfInBounds_toArray, List.set_cons_zero, List.set_cons_succ, Nat.zero_add, Nat.reduceAdd]
          apply Marks.Lex.exact [] _ (by kernel_rfl)
          · intro m u W hm hcl hJ _
            obtain ⟨hC, _⟩ := hJ.get 14 (by omega) hm
            unfold Marks.one
            go_simp
            exact ⟨trivial, hJ.keep 14 (by omega) hm _ (Grew.refl _), rfl⟩
          simp only [Act.put, List.setIfInBounds_toArray, List.set_cons_zero, List.set_cons_succ, Nat.zero_add, Nat.reduceAdd]
          apply Marks.Lex.exact [] undef (by kernel_rfl)
          · intro m u W hm hcl hJ _
            have hC := hJ.a hm
            obtain ⟨W', hr, hrow, hgr⟩ := row_set (w' := W) (HRB.out.keep (hC.block b HBL.out)) HLE.out (by rw [HLN.out]; exact HP1.out) HSL.out
            exact one_store rfl 116 (.tmp 63) (.tmp 62) rfl _ _ rfl rfl W' hr ⟨trivial, hJ.last undef (fun j hj => hcl j (by have : j ∈ List.range 15 := List.mem_range.2 hj; revert this; revert j; decide)) ⟨hrow, grown_of hC hgr⟩, rfl⟩
          simp only [Act.put, List.setIfInBounds_toArray, List.set_cons_zero, List.set_cons_succ, Nat.zero_add, Nat.reduceAdd]
          refine Marks.Lex.done fun m u W2 hm hJ _ => ?_
          obtain ⟨_, HR2, HG2⟩ := hJ.b (hm 15 (by omega))
          clear hJ hm
          have HR2' := Lib.hid HR2
          have HK2 := Lib.hid (HKB3.out.trans (Kept.of_grown HG2 fun k e => by cases e; rfl))
          clear HR2 HG2 c0 c1 kc0
          go_wp2
          go_roundg q
          case measure => omega
          case rel =>
            refine ⟨i + 1, by omega, by first | rfl | simp, ?_, HK2⟩
            rw [relast_succ S d.last d.waits i p HPP.out, ← HLL.out]
            exact HR2'

set_option maxHeartbeats 8000000 in
theorem settle34_any (w : World) (g : Nat) (D : Nat → Prop) (d : Pd) (ks : Nat → Nat) (q : Nat) (pc : Value) (hpc : Hid (pc = .pointer (some ⟨q, 0, none⟩))) (h : DK w g D d) (hk : ∀ i, ks i ≤ 16) (hw : d.waits.length ≤ 1073741824) (HW : Hid (∀ W i, Kept D w W → Calls Try.prog 64 #[.int .i64 (i : Nat), pc] W fun e w' => e = .returned (.int .i64 (ks i : Int)) ∧ Grew W w')) :
    Calls Try.prog 62 #[dptr g, .func (.func 64) #[] #[pc]] w fun e w' => e = .returned (.tuple #[]) ∧ DK w' g D { d with safe := settled ks d.safe d.waits d.waits.length, last := relast (settled ks d.safe d.waits d.waits.length) d.last d.waits d.waits.length, waits := [] } ∧ Kept D w w' := by
  have hpc' := hpc.out
  subst hpc'
  obtain ⟨hD, a, b, ca, cb, vw, h0, hin⟩ := h
  have HA := Lib.hid h0
  have HIN := Lib.hid hin
  have HDD := Lib.hid hD
  have HK16 := Lib.hid hk
  obtain ⟨AW, cW, rfl⟩ := own_block h0.waits
  obtain ⟨c0, c1, c2, _, _⟩ := h0.cells
  have hca := h0.ca1
  have hca2 := h0.ca2
  have hcb := h0.cb1
  have hcb2 := h0.cb2
  have C0 := Lib.hid c0
  have C1 := Lib.hid c1
  have C2 := Lib.hid c2
  have HN0 : Hid (∀ i, i < d.waits.length → ∃ gw cap, (Value.slice AW d.waits.length cW) = .slice (some ⟨gw, 0, none⟩) d.waits.length cap) := Lib.hid fun i hi => by
    rcases h0.waits.2 with ⟨e, h00⟩ | ⟨q, c, cur, e, _⟩
    · omega
    · exact ⟨q, c, e⟩
  obtain ⟨Z, hZ, hz⟩ := z67
  have HZ := Lib.hid hz
  have HZS := Lib.hid hZ
  have hcw : d.waits.length ≤ 9223372036854775807 := by omega
  clear h0 hin hD hk hZ hz c1
  unfold dptr
  go_enter Try.func62, Try.ntmps62
  go_wp2
  go_loopg [13] d.waits.length (fun q s13 wx => ∃ i : Nat, i + q = d.waits.length ∧ s13 = .int .i64 i ∧ Hid (RowAt wx a (settled ks d.safe d.waits i)) ∧ Hid (Kept (fun j => j = a) w wx))
  case atStart => exact ⟨0, Nat.zero_add _, rfl, Lib.hid HA.out.safe, Lib.hid (Kept.refl _ _)⟩
  case round =>
    obtain ⟨i, hiq, rfl, HRA0, HKA⟩ := hrel
    generalize wr = wi at *
    have HKG : Hid (wi.heap[g]? = w.heap[g]?) := Lib.hid (HKA.out.block g (HDD.out g HIN.out.g) HA.out.ga)
    cases gk with
    | succ q =>
      have hil : (i : Int) < (d.waits.length : Int) := by omega
      have hil2 : i < d.waits.length := by omega
      obtain ⟨p, hp⟩ : ∃ p, d.waits[i]? = some p := ⟨_, List.getElem?_eq_getElem hil2⟩
      obtain ⟨gw, cap, hv⟩ := HN0.out i hil2
      injection hv with hv1 _ hv2
      subst hv1 hv2
      have hpm := HA.out.ok.fit p (List.mem_of_getElem? hp)
      have hp1 := hpm.1
      have HP1 := Lib.hid hpm.1
      have HPL := Lib.hid hpm.2
      have HPP := Lib.hid hp
      have hwi := own_keep HA.out.waits (w' := wi) fun k e => HKA.out.block k (HDD.out k (HIN.out.w k e)) (fun e2 => HA.out.aw (by rw [e, e2]))
      have HLD := Lib.hid (run_load_wr wi gw (i * 129) p.1 p.2 (own_range hwi HA.out.ok.fit hp gw _ rfl) hpm.2)
      have HST := Lib.hid (run_store_new 129 129 size67 wi Z HZS.out (DBuild.wr p.1 p.2) (wr_length _ _ hpm.2) (wr_one _ _))
      obtain ⟨S, hS⟩ : ∃ S, S = settled ks d.safe d.waits i := ⟨_, rfl⟩
      have hse := settled_even ks d.safe d.waits HA.out.ok.es HA.out.ok.fit HK16.out i
      have hsn := settled_length ks d.safe d.waits i
      rw [← hS] at HRA0 hse hsn
      have HSE := Lib.hid hse
      have HSN := Lib.hid hsn
      have HSL := Lib.hid (even_get hse p.1 (by omega))
      have HSS := Lib.hid hS
      have hcap : d.waits.length ≤ cW := by
        rcases HA.out.waits.2 with ⟨e, _⟩ | ⟨_, _, _, e, _, _, h1, _⟩
        · cases e
        · injection e with _ _ e3
          omega
      have hcap2 : cW ≤ 9223372036854775807 := by
        rcases HA.out.waits.2 with ⟨e, _⟩ | ⟨_, _, _, e, _, _, _, h2, _⟩
        · cases e
        · injection e with _ _ e3
          unfold maxLen at h2
          omega
      clear hwi hpm hS hse hsn hp
      go_wp2_with (first
        | refine wpList_load (by rfl) 129 (.tmp 16) (by with_reducible rfl) _ _ (by rfl) HLD.out ?_
        | refine DArm.wpList_alloc (by rfl) 129 (by with_reducible rfl) _ HZ.out ?_
        | refine DArm.wpList_store (by rfl) 129 (.tmp 5) (.tmp 17) (by with_reducible rfl) _ _ (by rfl) (by rfl) _ HST.out ?_)
      have hga : Grew wi (wi.alloc (.cells (DBuild.wr p.1 p.2).toArray 129)) := (Below.refl _ wi).alloc (Nat.le_refl _) _
      have HKB : Hid ((wi.alloc (.cells (DBuild.wr p.1 p.2).toArray 129)).heap[wi.heap.size]? = some (.cells (DBuild.wr p.1 p.2).toArray 129 (0, 0))) := Lib.hid (heap_alloc_new wi _)
      have HRA := Lib.hid (row_grew HRA0.out hga)
      have hc0 : (wi.alloc (.cells (DBuild.wr p.1 p.2).toArray 129)).cell? ⟨g, 0, none⟩ = some (.slice (some ⟨a, 0, none⟩) d.safe.length ca) := cellB hga ((World.cell?_of_block (w := w) HKG.out).trans C0.out)
      have hkc : (wi.alloc (.cells (DBuild.wr p.1 p.2).toArray 129)).cell? ⟨wi.heap.size, 0, none⟩ = some (.int .i64 (p.1 : Int)) := wr_cell0 HKB.out
      have HKA1 := Lib.hid (HKA.out.trans (Kept.of_grew hga))
      clear c0 hga HST HLD
      generalize hW1 : wi.alloc (.cells (DBuild.wr p.1 p.2).toArray 129) = W1 at *
      clear hW1
      generalize wi.heap.size = K at *
      have c0 := hc0
      have kc0 := hkc
      clear hc0 hkc
      have HRS := Lib.hid (row_range HRA.out HSE.out (k := p.1) (by rw [HSN.out]; exact HP1.out))
      have HAL : Hid (a < W1.heap.size) := Lib.hid HRA.out.lt
      have HKW : Hid (Kept D w W1) := Lib.hid (Kept.mono HKA1.out fun k e => by rw [e]; exact HIN.out.a)
      clear HRA0 HKA HKG c2
      refine Marks.wp_region_text (JS W1 21 (fun W => RowAt W a (S.set p.1 (cutw (S[p.1]?.getD []) p.2 (ks i))) ∧ W1.grownBy W (some a))) (fun _ _ => True) (by kernel_rfl) (by kernel_rfl) (JS.start W1 21 _) ?_
      apply Marks.Lex.exact [] _ (by kernel_rfl)
      · intro m u W hm hcl hJ _
        obtain ⟨hC, _⟩ := hJ.get 0 (by omega) hm
        unfold Marks.one
        go_simp
        exact ⟨trivial, hJ.keep 0 (by omega) hm _ (Grew.refl _), rfl⟩
      simp only [Act.put, List.setIfInBounds_toArray, List.set_cons_zero, List.set_cons_succ, Nat.zero_add, Nat.reduceAdd]
      apply Marks.Lex.exact [] _ (by kernel_rfl)
      · intro m u W hm hcl hJ _
        obtain ⟨hC, _⟩ := hJ.get 1 (by omega) hm
        unfold Marks.one
        go_simp
        exact ⟨trivial, hJ.keep 1 (by omega) hm _ (Grew.refl _), rfl⟩
      simp only [Act.put, List.setIfInBounds_toArray, List.set_cons_zero, List.set_cons_succ, Nat.zero_add, Nat.reduceAdd]
      apply Marks.Lex.exact [] _ (by kernel_rfl)
      · intro m u W hm hcl hJ _
        obtain ⟨hC, _⟩ := hJ.get 2 (by omega) hm
        unfold Marks.one
        go_simp
        exact ⟨trivial, hJ.keep 2 (by omega) hm _ (Grew.refl _), rfl⟩
      simp only [Act.put, List.setIfInBounds_toArray, List.set_cons_zero, List.set_cons_succ, Nat.zero_add, Nat.reduceAdd]
      apply Marks.Lex.exact [] _ (by kernel_rfl)
      · intro m u W hm hcl hJ _
        obtain ⟨hC, _⟩ := hJ.get 3 (by omega) hm
        have c0' := cellB hC c0
        unfold Marks.one
        go_simp
        exact ⟨trivial, hJ.keep 3 (by omega) hm _ (Grew.refl _), rfl⟩
      simp only [Act.put, List.setIfInBounds_toArray, List.set_cons_zero, List.set_cons_succ, Nat.zero_add, Nat.reduceAdd]
      apply Marks.Lex.exact [] _ (by kernel_rfl)
      · intro m u W hm hcl hJ _
        obtain ⟨hC, _⟩ := hJ.get 4 (by omega) hm
        unfold Marks.one
        go_simp
        exact ⟨trivial, hJ.keep 4 (by omega) hm _ (Grew.refl _), rfl⟩
      simp only [Act.put, List.setIfInBounds_toArray, List.set_cons_zero, List.set_cons_succ, Nat.zero_add, Nat.reduceAdd]
      apply Marks.Lex.exact [] _ (by kernel_rfl)
      · intro m u W hm hcl hJ _
        obtain ⟨hC, _⟩ := hJ.get 5 (by omega) hm
        have k0' := cellB hC kc0
        unfold Marks.one
        go_simp
        exact ⟨trivial, hJ.keep 5 (by omega) hm _ (Grew.refl _), rfl⟩
      simp only [Act.put, List.setIfInBounds_toArray, List.set_cons_zero, List.set_cons_succ, Nat.zero_add, Nat.reduceAdd]
      apply Marks.Lex.exact [] _ (by kernel_rfl)
      · intro m u W hm hcl hJ _
        obtain ⟨hC, _⟩ := hJ.get 6 (by omega) hm
        unfold Marks.one
        go_simp
        exact ⟨trivial, hJ.keep 6 (by omega) hm _ (Grew.refl _), rfl⟩
      simp only [Act.put, List.setIfInBounds_toArray, List.set_cons_zero, List.set_cons_succ, Nat.zero_add, Nat.reduceAdd]
      apply Marks.Lex.exact [] _ (by kernel_rfl)
      · intro m u W hm hcl hJ _
        obtain ⟨hC, _⟩ := hJ.get 7 (by omega) hm
        unfold Marks.one
        go_simp
        exact ⟨trivial, hJ.keep 7 (by omega) hm _ (Grew.refl _), rfl⟩
      simp only [Act.put, List.setIfInBounds_toArray, List.set_cons_zero, List.set_cons_succ, Nat.zero_add, Nat.reduceAdd]
      apply Marks.Lex.exact [] _ (by kernel_rfl)
      · intro m u W hm hcl hJ _
        obtain ⟨hC, _⟩ := hJ.get 8 (by omega) hm
        unfold Marks.one
        go_simp
        exact ⟨trivial, hJ.keep 8 (by omega) hm _ (Grew.refl _), rfl⟩
      simp only [Act.put, List.setIfInBounds_toArray, List.set_cons_zero, List.set_cons_succ, Nat.zero_add, Nat.reduceAdd]
      apply Marks.Lex.exact [] _ (by kernel_rfl)
      · intro m u W hm hcl hJ _
        obtain ⟨hC, _⟩ := hJ.get 9 (by omega) hm
        have c0' := cellB hC c0
        unfold Marks.one
        go_simp
        exact ⟨trivial, hJ.keep 9 (by omega) hm _ (Grew.refl _), rfl⟩
      simp only [Act.put, List.setIfInBounds_toArray, List.set_cons_zero, List.set_cons_succ, Nat.zero_add, Nat.reduceAdd]
      apply Marks.Lex.exact [] _ (by kernel_rfl)
      · intro m u W hm hcl hJ _
        obtain ⟨hC, _⟩ := hJ.get 10 (by omega) hm
        unfold Marks.one
        go_simp
        exact ⟨trivial, hJ.keep 10 (by omega) hm _ (Grew.refl _), rfl⟩
      simp only [Act.put, List.setIfInBounds_toArray, List.set_cons_zero, List.set_cons_succ, Nat.zero_add, Nat.reduceAdd]
      apply Marks.Lex.exact [] _ (by kernel_rfl)
      · intro m u W hm hcl hJ _
        obtain ⟨hC, _⟩ := hJ.get 11 (by omega) hm
        have k0' := cellB hC kc0
        unfold Marks.one
        go_simp
        exact ⟨trivial, hJ.keep 11 (by omega) hm _ (Grew.refl _), rfl⟩
      simp only [Act.put, List.setIfInBounds_toArray, List.set_cons_zero, List.set_cons_succ, Nat.zero_add, Nat.reduceAdd]
      apply Marks.Lex.exact [] _ (by kernel_rfl)
      · intro m u W hm hcl hJ _
        obtain ⟨hC, _⟩ := hJ.get 12 (by omega) hm
        unfold Marks.one
        go_simp
        exact ⟨trivial, hJ.keep 12 (by omega) hm _ (Grew.refl _), rfl⟩
      simp only [Act.put, List.setIfInBounds_toArray, List.set_cons_zero, List.set_cons_succ, Nat.zero_add, Nat.reduceAdd]
      apply Marks.Lex.exact [] (.agg (bv (S[p.1]?.getD [])).toArray) (by kernel_rfl)
      · intro m u W hm hcl hJ _
        obtain ⟨hC, _⟩ := hJ.get 13 (by omega) hm
        exact one_load rfl 116 (.tmp 30) rfl _ _ rfl (run_load_sec W a (p.1 * 128) _ (range_grew HRS.out hC) HSL.out) ⟨trivial, hJ.keep 13 (by omega) hm _ (Grew.refl _), rfl⟩
      simp only [Act.put, List.setIfInBounds_toArray, List.set_cons_zero, List.set_cons_succ, Nat.zero_add, Nat.reduceAdd]
      apply Marks.Lex.exact [] _ (by kernel_rfl)
      · intro m u W hm hcl hJ _
        obtain ⟨hC, _⟩ := hJ.get 14 (by omega) hm
        unfold Marks.one
        go_simp
        exact ⟨trivial, hJ.keep 14 (by omega) hm _ (Grew.refl _), rfl⟩
      simp only [Act.put, List.setIfInBounds_toArray, List.set_cons_zero, List.set_cons_succ, Nat.zero_add, Nat.reduceAdd]
      apply Marks.Lex.exact [] (.agg (bv p.2).toArray) (by kernel_rfl)
      · intro m u W hm hcl hJ _
        obtain ⟨hC, _⟩ := hJ.get 15 (by omega) hm
        exact one_load rfl 116 (.tmp 32) rfl _ _ rfl (run_load_sec W K 1 p.2 (wr_range (keepB HKB.out hC)) HPL.out) ⟨trivial, hJ.keep 15 (by omega) hm _ (Grew.refl _), rfl⟩
      simp only [Act.put, List.setIfInBounds_toArray, List.set_cons_zero, List.set_cons_succ, Nat.zero_add, Nat.reduceAdd]
      apply Marks.Lex.exact [] _ (by kernel_rfl)
      · intro m u W hm hcl hJ _
        obtain ⟨hC, _⟩ := hJ.get 16 (by omega) hm
        unfold Marks.one
        go_simp
        exact ⟨trivial, hJ.keep 16 (by omega) hm _ (Grew.refl _), rfl⟩
      simp only [Act.put, List.setIfInBounds_toArray, List.set_cons_zero, List.set_cons_succ, Nat.zero_add, Nat.reduceAdd]
      apply Marks.Lex.exact [] _ (by kernel_rfl)
      · intro m u W hm hcl hJ _
        obtain ⟨hC, _⟩ := hJ.get 17 (by omega) hm
        unfold Marks.one
        go_simp
        exact ⟨trivial, hJ.keep 17 (by omega) hm _ (Grew.refl _), rfl⟩
      simp only [Act.put, List.setIfInBounds_toArray, List.set_cons_zero, List.set_cons_succ, Nat.zero_add, Nat.reduceAdd]
      apply Marks.Lex.exact [] (.int .i64 (ks i : Int)) (by kernel_rfl)
      · intro m u W hm hcl hJ _
        obtain ⟨hC, _⟩ := hJ.get 18 (by omega) hm
        unfold Marks.one
        go_simp
        refine (HW.out W i (HKW.out.trans (Kept.of_grew hC))).mono ?_
        rintro e w' ⟨rfl, hg⟩
        exact ⟨_, rfl, trivial, hJ.keep 18 (by omega) hm _ hg, rfl⟩
      simp only [Act.put, List.setIfInBounds_toArray, List.set_cons_zero, List.set_cons_succ, Nat.zero_add, Nat.reduceAdd]
      apply Marks.Lex.exact [] (.agg (bv (cutw (S[p.1]?.getD []) p.2 (ks i))).toArray) (by kernel_rfl)
      · intro m u W hm hcl hJ _
        obtain ⟨hC, _⟩ := hJ.get 19 (by omega) hm
        unfold Marks.one
        go_simp
        refine (over_any _ _ (ks i) W HSL.out HPL.out (HK16.out i)).mono ?_
        rintro e w' ⟨rfl, hg⟩
        exact ⟨_, rfl, trivial, hJ.keep 19 (by omega) hm _ hg, rfl⟩
      simp only [Act.put, List.setIfInBounds_toArray, List.set_cons_zero, List.set_cons_succ, Nat.zero_add, Nat.reduceAdd]
      apply Marks.Lex.exact [] _ (by kernel_rfl)
      · intro m u W hm hcl hJ _
        obtain ⟨hC, _⟩ := hJ.get 20 (by omega) hm
        unfold Marks.one
        go_simp
        exact ⟨trivial, hJ.keep 20 (by omega) hm _ (Grew.refl _), rfl⟩
      simp only [Act.put, List.setIfInBounds_toArray, List.set_cons_zero, List.set_cons_succ, Nat.zero_add, Nat.reduceAdd]
      apply Marks.Lex.exact [] undef (by kernel_rfl)
      · intro m u W hm hcl hJ _
        have hC := hJ.a hm
        obtain ⟨W', hr, hrow, hgr⟩ := row_set (w' := W) (HRA.out.keep (hC.block a HAL.out)) HSE.out (by rw [HSN.out]; exact HP1.out) (cutw_length _ _ _ HSL.out HPL.out (HK16.out i))
        exact one_store rfl 116 (.tmp 38) (.tmp 37) rfl _ _ rfl rfl W' hr ⟨trivial, hJ.last undef (fun j hj => hcl j (by have : j ∈ List.range 21 := List.mem_range.2 hj; revert this; revert j; decide)) ⟨hrow, grown_of hC hgr⟩, rfl⟩
      simp only [Act.put, List.setIfInBounds_toArray, List.set_cons_zero, List.set_cons_succ, Nat.zero_add, Nat.reduceAdd]
      refine Marks.Lex.done fun m u W2 hm hJ _ => ?_
      obtain ⟨_, HR2, HG2⟩ := hJ.b (hm 21 (by omega))
      clear hJ hm
      have HR2' := Lib.hid HR2
      have HK2 := Lib.hid (HKA1.out.trans (Kept.of_grown HG2 fun k e => by cases e; rfl))
      clear HR2 HG2 c0 kc0
      go_wp2
      go_roundg q
      case measure => omega
      case rel =>
        refine ⟨i + 1, by omega, by first | rfl | simp, ?_, HK2⟩
        rw [settled_succ ks d.safe d.waits i p HPP.out, ← HSS.out]
        exact HR2'
    | zero =>
      have hil : ¬ ((i : Int) < (d.waits.length : Int)) := by omega
      obtain rfl : i = d.waits.length := by omega
      have C0' := Lib.hid ((World.cell?_of_block (w := w) HKG.out).trans C0.out)
      have C1' := Lib.hid ((World.cell?_of_block (w := w) HKG.out).trans C1.out)
      have c2' := (World.cell?_of_block (w := w) HKG.out).trans C2.out
      have C2' := Lib.hid c2'
      have HBLK := Lib.hid (HKG.out.trans HA.out.blk)
      obtain ⟨S, hS⟩ : ∃ S, S = settled ks d.safe d.waits d.waits.length := ⟨_, rfl⟩
      have hse := settled_even ks d.safe d.waits HA.out.ok.es HA.out.ok.fit HK16.out d.waits.length
      have hsn := settled_length ks d.safe d.waits d.waits.length
      rw [← hS] at HRA0 hse hsn
      have HSE := Lib.hid hse
      have HSN := Lib.hid hsn
      have HSS := Lib.hid hS
      have HLK : Hid (wi.heap[b]? = w.heap[b]?) := Lib.hid (HKA.out.block b (HDD.out b HIN.out.b) (Ne.symm HA.out.ab))
      have HWO := Lib.hid (own_keep HA.out.waits (w' := wi) fun k e => HKA.out.block k (HDD.out k (HIN.out.w k e)) (fun e2 => HA.out.aw (by rw [e, e2])))
      clear c0 c2 HKG hS hse hsn
      go_wp2
      go_loopg [45] d.waits.length (fun q s45 wx => ∃ i : Nat, i + q = d.waits.length ∧ s45 = .int .i64 i ∧ Hid (RowAt wx b (relast S d.last d.waits i)) ∧ Hid (Kept (fun j => j = b) wi wx))
      case atStart => exact ⟨0, Nat.zero_add _, rfl, Lib.hid (HA.out.last.keep HLK.out), Lib.hid (Kept.refl _ _)⟩
      case round =>
        obtain ⟨i, hiq2, rfl, HRB0, HKB2⟩ := hrel
        generalize wr = wj at *
        have hgl : g < wi.heap.size := (Array.getElem?_eq_some_iff.1 HBLK.out).1
        have HKG : Hid (wj.heap[g]? = wi.heap[g]?) := Lib.hid (HKB2.out.block g hgl HA.out.gb)
        have HRA := Lib.hid (HRA0.out.keep (HKB2.out.block a HRA0.out.lt HA.out.ab))
        have HWO2 := Lib.hid (own_keep HWO.out (w' := wj) fun k e => HKB2.out.block k (own_lt HWO.out e) (fun e2 => HA.out.bw (by rw [e, e2])))
        clear hgl
        cases gk with
        | zero =>
          have hil3 : ¬ ((i : Int) < (d.waits.length : Int)) := by omega
          obtain rfl : i = d.waits.length := by omega
          have HB3 := Lib.hid (HKG.out.trans HBLK.out)
          have c2j := (World.cell?_of_block (w := wi) HKG.out).trans C2'.out
          have f2j := frozen_of_row wj g 2 _ _ HB3.out
          go_wp2
          go_end0
          refine ⟨rfl, ⟨fun k hkk => ?_, a, b, ca, cb, .slice none 0 0, ?_, ⟨HIN.out.g, HIN.out.a, HIN.out.b, fun k e => by simp [Value.ownBlock] at e⟩⟩, ?_⟩
          · have h1 := HDD.out k hkk
            have h2 := HKA.out.size
            have h3 := HKB2.out.size
            simp [World.setCell]
            omega
          · have hne : ∀ k, k ≠ g → (wj.setCell ⟨g, 2, none⟩ (.slice none 0 0)).heap[k]? = wj.heap[k]? := fun k hkk => heap_setCell_other wj ⟨g, 2, none⟩ k _ hkk
            have hA := HA.out
            rw [← HSS.out]
            refine ⟨?_, HRA.out.keep (hne a (Ne.symm hA.ga)), HRB0.out.keep (hne b (Ne.symm hA.gb)), World.ownsRow_nil _ _ _ _, hA.ga, hA.gb, hA.ab, by simp [Value.ownBlock], by simp [Value.ownBlock], by simp [Value.ownBlock], ⟨?_, ?_, ?_, HSE.out, relast_even S d.last d.waits hA.ok.el HSE.out (by rw [HSN.out]; exact hA.ok.fit) _, (fun p hp => by simp at hp), hA.ok.f1, hA.ok.f2⟩, ?_, hA.ca2, ?_, hA.cb2⟩
            · rw [heap_setCell_same _ _ _ _ _ _ HB3.out]
              show some (Obj.cells #[.slice (some ⟨a, 0, none⟩) d.safe.length ca, .slice (some ⟨b, 0, none⟩) d.safe.length cb, .slice none 0 0, .int .i64 d.fuse, .bool d.off] 104 (0, 0)) = some (Obj.cells #[.slice (some ⟨a, 0, none⟩) S.length ca, .slice (some ⟨b, 0, none⟩) S.length cb, .slice none 0 0, .int .i64 d.fuse, .bool d.off] 104 (0, 0))
              rw [HSN.out]
            · show 1 ≤ S.length
              rw [HSN.out]; exact hA.ok.n1
            · show S.length ≤ 16384
              rw [HSN.out]; exact hA.ok.n2
            · show (relast S d.last d.waits d.waits.length).length = S.length
              rw [relast_length, HSN.out]; exact hA.ok.same
            · show S.length ≤ ca
              rw [HSN.out]; exact hA.ca1
            · show S.length ≤ cb
              rw [HSN.out]; exact hA.cb1
          · exact ((Kept.mono HKA.out fun k e => by rw [e]; exact HIN.out.a).trans (Kept.mono HKB2.out fun k e => by rw [e]; exact HIN.out.b)).trans (Kept.set _ _ HIN.out.g)
        | succ q =>
          have hil3 : (i : Int) < (d.waits.length : Int) := by omega
          have hil2 : i < d.waits.length := by omega
          obtain ⟨p, hp⟩ : ∃ p, d.waits[i]? = some p := ⟨_, List.getElem?_eq_getElem hil2⟩
          obtain ⟨gw, cap, hv⟩ := HN0.out i hil2
          injection hv with hv1 _ hv2
          subst hv1 hv2
          have hpm := HA.out.ok.fit p (List.mem_of_getElem? hp)
          have hp1 := hpm.1
          have HP1 := Lib.hid hpm.1
          have HPL := Lib.hid hpm.2
          have HPP := Lib.hid hp
          have HLD := Lib.hid (run_load_wr wj gw (i * 129) p.1 p.2 (own_range HWO2.out HA.out.ok.fit hp gw _ rfl) hpm.2)
          have HST := Lib.hid (run_store_new 129 129 size67 wj Z HZS.out (DBuild.wr p.1 p.2) (wr_length _ _ hpm.2) (wr_one _ _))
          obtain ⟨L, hL⟩ : ∃ L, L = relast S d.last d.waits i := ⟨_, rfl⟩
          have hle := relast_even S d.last d.waits HA.out.ok.el HSE.out (by rw [HSN.out]; exact HA.out.ok.fit) i
          have hln := relast_length S d.last d.waits i
          rw [HA.out.ok.same] at hln
          rw [← hL] at HRB0 hle hln
          have HLE := Lib.hid hle
          have HLN := Lib.hid hln
          have HSL := Lib.hid (even_get HSE.out p.1 (by rw [HSN.out]; exact HP1.out))
          have HLL := Lib.hid hL
          have hcap : d.waits.length ≤ cW := by
            rcases HA.out.waits.2 with ⟨e, _⟩ | ⟨_, _, _, e, _, _, h1, _⟩
            · cases e
            · injection e with _ _ e3
              omega
          have hcap2 : cW ≤ 9223372036854775807 := by
            rcases HA.out.waits.2 with ⟨e, _⟩ | ⟨_, _, _, e, _, _, _, h2, _⟩
            · cases e
            · injection e with _ _ e3
              unfold maxLen at h2
              omega
          clear hpm hL hle hln hp
          go_wp2_with (first
            | refine wpList_load (by rfl) 129 (.tmp 47) (by with_reducible rfl) _ _ (by rfl) HLD.out ?_
            | refine DArm.wpList_alloc (by rfl) 129 (by with_reducible rfl) _ HZ.out ?_
            | refine DArm.wpList_store (by rfl) 129 (.tmp 7) (.tmp 48) (by with_reducible rfl) _ _ (by rfl) (by rfl) _ HST.out ?_)
          have hga : Grew wj (wj.alloc (.cells (DBuild.wr p.1 p.2).toArray 129)) := (Below.refl _ wj).alloc (Nat.le_refl _) _
          have HKB : Hid ((wj.alloc (.cells (DBuild.wr p.1 p.2).toArray 129)).heap[wj.heap.size]? = some (.cells (DBuild.wr p.1 p.2).toArray 129 (0, 0))) := Lib.hid (heap_alloc_new wj _)
          have HRB := Lib.hid (row_grew HRB0.out hga)
          have HRA1 := Lib.hid (row_grew HRA.out hga)
          have hc0 : (wj.alloc (.cells (DBuild.wr p.1 p.2).toArray 129)).cell? ⟨g, 0, none⟩ = some (.slice (some ⟨a, 0, none⟩) d.safe.length ca) := cellB hga ((World.cell?_of_block (w := wi) HKG.out).trans C0'.out)
          have hc1 : (wj.alloc (.cells (DBuild.wr p.1 p.2).toArray 129)).cell? ⟨g, 1, none⟩ = some (.slice (some ⟨b, 0, none⟩) d.safe.length cb) := cellB hga ((World.cell?_of_block (w := wi) HKG.out).trans C1'.out)
          have hkc : (wj.alloc (.cells (DBuild.wr p.1 p.2).toArray 129)).cell? ⟨wj.heap.size, 0, none⟩ = some (.int .i64 (p.1 : Int)) := wr_cell0 HKB.out
          have HKB3 := Lib.hid (HKB2.out.trans (Kept.of_grew hga))
          clear c2' hga HST HLD
          generalize hW1 : wj.alloc (.cells (DBuild.wr p.1 p.2).toArray 129) = W1 at *
          clear hW1
          generalize wj.heap.size = K at *
          have c0 := hc0
          have c1 := hc1
          have kc0 := hkc
          clear hc0 hc1 hkc
          have HRS := Lib.hid (row_range HRA1.out HSE.out (k := p.1) (by rw [HSN.out]; exact HP1.out))
          have HBL : Hid (b < W1.heap.size) := Lib.hid HRB.out.lt
          clear HRB0 HKG HRA HWO2
          refine Marks.wp_region_text (JS W1 15 (fun W => RowAt W b (L.set p.1 (S[p.1]?.getD [])) ∧ W1.grownBy W (some b))) (fun _ _ => True) (by kernel_rfl) (by kernel_rfl) (JS.start W1 15 _) ?_
          apply Marks.Lex.exact [] _ (by kernel_rfl)
          · intro m u W hm hcl hJ _
            obtain ⟨hC, _⟩ := hJ.get 0 (by omega) hm
            unfold Marks.one
            go_simp
            exact ⟨trivial, hJ.keep 0 (by omega) hm _ (Grew.refl _), rfl⟩
          simp only [Act.put, List.setIfInBounds_toArray, List.set_cons_zero, List.set_cons_succ, Nat.zero_add, Nat.reduceAdd]
          apply Marks.Lex.exact [] _ (by kernel_rfl)
          · intro m u W hm hcl hJ _
            obtain ⟨hC, _⟩ := hJ.get 1 (by omega) hm
            unfold Marks.one
            go_simp
            exact ⟨trivial, hJ.keep 1 (by omega) hm _ (Grew.refl _), rfl⟩
          simp only [Act.put, List.setIfInBounds_toArray, List.set_cons_zero, List.set_cons_succ, Nat.zero_add, Nat.reduceAdd]
          apply Marks.Lex.exact [] _ (by kernel_rfl)
          · intro m u W hm hcl hJ _
            obtain ⟨hC, _⟩ := hJ.get 2 (by omega) hm
            unfold Marks.one
            go_simp
            exact ⟨trivial, hJ.keep 2 (by omega) hm _ (Grew.refl _), rfl⟩
          simp only [Act.put, List.setIfInBounds_toArray, List.set_cons_zero, List.set_cons_succ, Nat.zero_add, Nat.reduceAdd]
          apply Marks.Lex.exact [] _ (by kernel_rfl)
          · intro m u W hm hcl hJ _
            obtain ⟨hC, _⟩ := hJ.get 3 (by omega) hm
            have c1' := cellB hC c1
            unfold Marks.one
            go_simp
            exact ⟨trivial, hJ.keep 3 (by omega) hm _ (Grew.refl _), rfl⟩
          simp only [Act.put, List.setIfInBounds_toArray, List.set_cons_zero, List.set_cons_succ, Nat.zero_add, Nat.reduceAdd]
          apply Marks.Lex.exact [] _ (by kernel_rfl)
          · intro m u W hm hcl hJ _
            obtain ⟨hC, _⟩ := hJ.get 4 (by omega) hm
            unfold Marks.one
            go_simp
            exact ⟨trivial, hJ.keep 4 (by omega) hm _ (Grew.refl _), rfl⟩
          simp only [Act.put, List.setIfInBounds_toArray, List.set_cons_zero, List.set_cons_succ, Nat.zero_add, Nat.reduceAdd]
          apply Marks.Lex.exact [] _ (by kernel_rfl)
          · intro m u W hm hcl hJ _
            obtain ⟨hC, _⟩ := hJ.get 5 (by omega) hm
            have k0' := cellB hC kc0
            unfold Marks.one
            go_simp
            exact ⟨trivial, hJ.keep 5 (by omega) hm _ (Grew.refl _), rfl⟩
          simp only [Act.put, List.setIfInBounds_toArray, List.set_cons_zero, List.set_cons_succ, Nat.zero_add, Nat.reduceAdd]
          apply Marks.Lex.exact [] _ (by kernel_rfl)
          · intro m u W hm hcl hJ _
            obtain ⟨hC, _⟩ := hJ.get 6 (by omega) hm
            unfold Marks.one
            go_simp
            exact ⟨trivial, hJ.keep 6 (by omega) hm _ (Grew.refl _), rfl⟩
          simp only [Act.put, List.setIfInBounds_toArray, List.set_cons_zero, List.set_cons_succ, Nat.zero_add, Nat.reduceAdd]
          apply Marks.Lex.exact [] _ (by kernel_rfl)
          · intro m u W hm hcl hJ _
            obtain ⟨hC, _⟩ := hJ.get 7 (by omega) hm
            unfold Marks.one
            go_simp
            exact ⟨trivial, hJ.keep 7 (by omega) hm _ (Grew.refl _), rfl⟩
          simp only [Act.put, List.setIfInBounds_toArray, List.set_cons_zero, List.set_cons_succ, Nat.zero_add, Nat.reduceAdd]
          apply Marks.Lex.exact [] _ (by kernel_rfl)
          · intro m u W hm hcl hJ _
            obtain ⟨hC, _⟩ := hJ.get 8 (by omega) hm
            unfold Marks.one
            go_simp
            exact ⟨trivial, hJ.keep 8 (by omega) hm _ (Grew.refl _), rfl⟩
          simp only [Act.put, List.setIfInBounds_toArray, List.set_cons_zero, List.set_cons_succ, Nat.zero_add, Nat.reduceAdd]
          apply Marks.Lex.exact [] _ (by kernel_rfl)
          · intro m u W hm hcl hJ _
            obtain ⟨hC, _⟩ := hJ.get 9 (by omega) hm
            have c0' := cellB hC c0
            unfold Marks.one
            go_simp
            exact ⟨trivial, hJ.keep 9 (by omega) hm _ (Grew.refl _), rfl⟩
          simp only [Act.put, List.setIfInBounds_toArray, List.set_cons_zero, List.set_cons_succ, Nat.zero_add, Nat.reduceAdd]
          apply Marks.Lex.exact [] _ (by kernel_rfl)
          · intro m u W hm hcl hJ _
            obtain ⟨hC, _⟩ := hJ.get 10 (by omega) hm
            unfold Marks.one
            go_simp
            exact ⟨trivial, hJ.keep 10 (by omega) hm _ (Grew.refl _), rfl⟩
          simp only [Act.put, List.setIfInBounds_toArray, List.set_cons_zero, List.set_cons_succ, Nat.zero_add, Nat.reduceAdd]
          apply Marks.Lex.exact [] _ (by kernel_rfl)
          · intro m u W hm hcl hJ _
            obtain ⟨hC, _⟩ := hJ.get 11 (by omega) hm
            have k0' := cellB hC kc0
            unfold Marks.one
            go_simp
            exact ⟨trivial, hJ.keep 11 (by omega) hm _ (Grew.refl _), rfl⟩
          simp only [Act.put, List.setIfInBounds_toArray, List.set_cons_zero, List.set_cons_succ, Nat.zero_add, Nat.reduceAdd]
          apply Marks.Lex.exact [] _ (by kernel_rfl)
          · intro m u W hm hcl hJ _
            obtain ⟨hC, _⟩ := hJ.get 12 (by omega) hm
            unfold Marks.one
            go_simp
            exact ⟨trivial, hJ.keep 12 (by omega) hm _ (Grew.refl _), rfl⟩
          simp only [Act.put, List.setIfInBounds_toArray, List.set_cons_zero, List.set_cons_succ, Nat.zero_add, Nat.reduceAdd]
          apply Marks.Lex.exact [] (.agg (bv (S[p.1]?.getD [])).toArray) (by kernel_rfl)
          · intro m u W hm hcl hJ _
            obtain ⟨hC, _⟩ := hJ.get 13 (by omega) hm
            exact one_load rfl 116 (.tmp 61) rfl _ _ rfl (run_load_sec W a (p.1 * 128) _ (range_grew HRS.out hC) HSL.out) ⟨trivial, hJ.keep 13 (by omega) hm _ (Grew.refl _), rfl⟩
          simp only [Act.put, List.setIfInBounds_toArray, List.set_cons_zero, List.set_cons_succ, Nat.zero_add, Nat.reduceAdd]
          apply Marks.Lex.exact [] _ (by kernel_rfl)
          · intro m u W hm hcl hJ _
            obtain ⟨hC, _⟩ := hJ.get 14 (by omega) hm
            unfold Marks.one
            go_simp
            exact ⟨trivial, hJ.keep 14 (by omega) hm _ (Grew.refl _), rfl⟩
          simp only [Act.put, List.setIfInBounds_toArray, List.set_cons_zero, List.set_cons_succ, Nat.zero_add, Nat.reduceAdd]
          apply Marks.Lex.exact [] undef (by kernel_rfl)
          · intro m u W hm hcl hJ _
            have hC := hJ.a hm
            obtain ⟨W', hr, hrow, hgr⟩ := row_set (w' := W) (HRB.out.keep (hC.block b HBL.out)) HLE.out (by rw [HLN.out]; exact HP1.out) HSL.out
            exact one_store rfl 116 (.tmp 63) (.tmp 62) rfl _ _ rfl rfl W' hr ⟨trivial, hJ.last undef (fun j hj => hcl j (by have : j ∈ List.range 15 := List.mem_range.2 hj; revert this; revert j; decide)) ⟨hrow, grown_of hC hgr⟩, rfl⟩
          simp only [Act.put, List.setIfInBounds_toArray, List.set_cons_zero, List.set_cons_succ, Nat.zero_add, Nat.reduceAdd]
          refine Marks.Lex.done fun m u W2 hm hJ _ => ?_
          obtain ⟨_, HR2, HG2⟩ := hJ.b (hm 15 (by omega))
          clear hJ hm
          have HR2' := Lib.hid HR2
          have HK2 := Lib.hid (HKB3.out.trans (Kept.of_grown HG2 fun k e => by cases e; rfl))
          clear HR2 HG2 c0 c1 kc0
          go_wp2
          go_roundg q
          case measure => omega
          case rel =>
            refine ⟨i + 1, by omega, by first | rfl | simp, ?_, HK2⟩
            rw [relast_succ S d.last d.waits i p HPP.out, ← HLL.out]
            exact HR2'
end Go.Proofs.Ytbnicphegbdfnaa.DSettle
