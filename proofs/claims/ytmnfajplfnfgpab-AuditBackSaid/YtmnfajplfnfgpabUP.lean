/-
  Read, by the document.
  Conditions: those that each lemma names.
-/
import Derived.Test.YtmnfajplfnfgpabUO
import Derived.Test.YtmnfajplfnfgpabRnums
namespace Go.Proofs.Ytmnfajplfnfgpab.UP
set_option maxRecDepth 100000
open Go Go.RowKit Go.Lib Go.Proofs.Ytmnfajplfnfgpab Go.Proofs.Ytmnfajplfnfgpab.Facts Go.Proofs.Ytmnfajplfnfgpab.Ints Go.Proofs.Ytmnfajplfnfgpab.PA Go.Proofs.Ytmnfajplfnfgpab.UA Go.Proofs.Ytmnfajplfnfgpab.UM Go.Proofs.Ytmnfajplfnfgpab.UB Go.Proofs.Ytmnfajplfnfgpab.UC Go.Proofs.Ytmnfajplfnfgpab.UD Go.Proofs.Ytmnfajplfnfgpab.UF Go.Proofs.Ytmnfajplfnfgpab.UH Go.Proofs.Ytmnfajplfnfgpab.UI Go.Proofs.Ytmnfajplfnfgpab.UJ Go.Proofs.Ytmnfajplfnfgpab.UK Go.Proofs.Ytmnfajplfnfgpab.UN Go.Proofs.Ytmnfajplfnfgpab.UO Go.Proofs.Ytmnfajplfnfgpab.Bytes Go.Proofs.Ytmnfajplfnfgpab.Puts Go.Proofs.Ytmnfajplfnfgpab.Scan Go.Proofs.Ytmnfajplfnfgpab.Take Go.Proofs.Ytmnfajplfnfgpab.Nums Go.Proofs.Ytmnfajplfnfgpab.Rscan Go.Proofs.Ytmnfajplfnfgpab.Rnums

theorem rnK8 (S : Nat → Prop) (W : World) (g : Nat) (l : List UInt8) (k : Nat) (hk : sz k = 8) (h : RS S W g (sK l k)) :
    Calls Try.prog 29 #[ptr g, .int .i64 8] W fun e w' => e = .returned (.int .u64 (vK l k : Int)) ∧ RS S w' g (sK l (k + 1)) ∧ Chg (ptr g) W w' := by
  have h1 := rnum_any S W g (sK l k) 8 h
  rw [show width 8 = sz k from hk.symm] at h1
  exact h1
theorem rnK1 (S : Nat → Prop) (W : World) (g : Nat) (l : List UInt8) (k : Nat) (hk : sz k = 1) (h : RS S W g (sK l k)) :
    Calls Try.prog 29 #[ptr g, .int .i64 1] W fun e w' => e = .returned (.int .u64 (vK l k : Int)) ∧ RS S w' g (sK l (k + 1)) ∧ Chg (ptr g) W w' := by
  have h1 := rnum_any S W g (sK l k) 1 h
  rw [show width 1 = sz k from hk.symm] at h1
  exact h1
set_option maxHeartbeats 16000000 in
theorem rread_any (v : Value) (l : List UInt8) (w : World) (h : Rd Al w v l) : Calls Try.prog 15 #[v] w (AnsR (readP l) w) := by
  have HMAY := Lib.hid (rmay_any (decE l) (sz_dec l))
  have hrd : Rd (fun b => b < w.heap.size) w v l := h.lt.mono fun b hb => hb.2
  have G0 : Grew w ((w.alloc (.cells #[.int .u64 0, .int .i64 0, .int .i64 0, .int .i64 0, .int .i64 0, .int .i64 0, .int .i64 0, .int .u64 0, .int .u64 0, .int .i64 0] 25)).alloc (.cells #[v, .int .i64 0, .int .i64 0] 56)) := by unfold Grew; go_grown
  have BR0 : ((w.alloc (.cells #[.int .u64 0, .int .i64 0, .int .i64 0, .int .i64 0, .int .i64 0, .int .i64 0, .int .i64 0, .int .u64 0, .int .u64 0, .int .i64 0] 25)).alloc (.cells #[v, .int .i64 0, .int .i64 0] 56)).heap[w.heap.size]? = some (.cells #[.int .u64 0, .int .i64 0, .int .i64 0, .int .i64 0, .int .i64 0, .int .i64 0, .int .i64 0, .int .u64 0, .int .u64 0, .int .i64 0] 25 (0, 0)) := PA.keepB (blk_new w (.cells #[.int .u64 0, .int .i64 0, .int .i64 0, .int .i64 0, .int .i64 0, .int .i64 0, .int .i64 0, .int .u64 0, .int .u64 0, .int .i64 0] 25)) (by unfold Grew; go_grown)
  have BC0 : ((w.alloc (.cells #[.int .u64 0, .int .i64 0, .int .i64 0, .int .i64 0, .int .i64 0, .int .i64 0, .int .i64 0, .int .u64 0, .int .u64 0, .int .i64 0] 25)).alloc (.cells #[v, .int .i64 0, .int .i64 0] 56)).heap[w.heap.size + 1]? = some (.cells #[v, .int .i64 0, .int .i64 0] 56 (0, 0)) := by
    have h1 := blk_new (w.alloc (.cells #[.int .u64 0, .int .i64 0, .int .i64 0, .int .i64 0, .int .i64 0, .int .i64 0, .int .i64 0, .int .u64 0, .int .u64 0, .int .i64 0] 25)) (.cells #[v, .int .i64 0, .int .i64 0] 56)
    rw [show (w.alloc (.cells #[.int .u64 0, .int .i64 0, .int .i64 0, .int .i64 0, .int .i64 0, .int .i64 0, .int .i64 0, .int .u64 0, .int .u64 0, .int .i64 0] 25)).heap.size = w.heap.size + 1 by simp] at h1
    exact h1
  have hrs0 : RS (fun b => b < w.heap.size) ((w.alloc (.cells #[.int .u64 0, .int .i64 0, .int .i64 0, .int .i64 0, .int .i64 0, .int .i64 0, .int .i64 0, .int .u64 0, .int .u64 0, .int .i64 0] 25)).alloc (.cells #[v, .int .i64 0, .int .i64 0] 56)) (w.heap.size + 1) (sK l 0) :=
    ⟨by omega, by simp, v, l, 0, BC0, hrd.grew G0, Nat.zero_le _, rfl⟩
  have HN0 := Lib.hid (rnK8 _ _ (w.heap.size + 1) l 0 rfl hrs0)
  have BR := Lib.hid BR0
  have GG := Lib.hid G0
  obtain ⟨RES, hRES⟩ : ∃ RES, readP l = RES := ⟨_, rfl⟩
  rw [hRES]
  have HRES := Lib.hid hRES
  obtain ⟨A, c, rfl, _⟩ := id h
  unfold decE env at HMAY
  simp only at HMAY
  unfold AnsR
  clear hRES G0 BR0 BC0 hrs0 hrd h
  go_enter Try.func15, Try.ntmps15
  go_wp2_with fail
  refine HN0.out.mono ?_
  rintro e w2 ⟨rfl, hrs, hch⟩
  have hC2 := hrs.2.1
  have hg2 : Grew w w2 := ⟨hch.os.trans GG.out.os, hch.tape.trans GG.out.tape, hch.output.trans GG.out.output, Nat.le_trans GG.out.size hch.size, fun k hk => (hch.block k (by simp; omega) (by intro e; simp [blk, ptr] at e; omega)).trans (GG.out.block k hk)⟩
  have GE : Grew w2 (w2.alloc (.cells #[.int .u64 (vK l 0 : Int), .int .i64 0, .int .i64 0, .int .i64 0, .int .i64 0, .int .i64 0, .int .i64 0, .int .u64 0, .int .u64 0, .int .i64 0] 25)) := by unfold Grew; go_grown
  have hRB : w2.heap[w.heap.size]? = some (.cells #[.int .u64 0, .int .i64 0, .int .i64 0, .int .i64 0, .int .i64 0, .int .i64 0, .int .i64 0, .int .u64 0, .int .u64 0, .int .i64 0] 25 (0, 0)) := (hch.block w.heap.size (by simp; omega) (by intro e; simp [blk, ptr] at e)).trans BR.out
  have hE2 := blk_new w2 (.cells #[.int .u64 (vK l 0 : Int), .int .i64 0, .int .i64 0, .int .i64 0, .int .i64 0, .int .i64 0, .int .i64 0, .int .u64 0, .int .u64 0, .int .i64 0] 25)
  obtain ⟨w3, hw3⟩ : ∃ W, w2.alloc (.cells #[.int .u64 (vK l 0 : Int), .int .i64 0, .int .i64 0, .int .i64 0, .int .i64 0, .int .i64 0, .int .i64 0, .int .u64 0, .int .u64 0, .int .i64 0] 25) = W := ⟨_, rfl⟩
  rw [hw3] at GE hE2
  have KE0 : Hid (w3.heap[w2.heap.size]? = some (.cells (cK l 1) 25 (0, 0))) := Lib.hid hE2
  have KS0 : Hid (RS (fun b => b < w.heap.size) w3 (w.heap.size + 1) (sK l 1)) := Lib.hid (hrs.grew GE)
  have RB3 := Lib.hid (PA.keepB hRB GE)
  have G3 := Lib.hid (hg2.trans GE)
  have HCE : Hid (w.heap.size + 1 ≠ w2.heap.size) := Lib.hid (by omega)
  have HEW : Hid (w.heap.size < w2.heap.size) := Lib.hid (by omega)
  have HB5 : Hid (w2.heap.size ≤ w3.heap.size) := Lib.hid GE.size
  have KK0 : Hid (Kp w2.heap.size (ptr (w.heap.size + 1)) w2.heap.size w3 w3) := Lib.hid (Kp.refl _ _ _ _)
  have HCW : Hid (w.heap.size < w.heap.size + 1) := Lib.hid (Nat.lt_succ_self _)
  have HW0 := Lib.hid hw3
  clear hw3 hrs hch hC2 hg2 GE hRB hE2 HN0 GG BR
  generalize w.heap.size + 1 = C at *
  obtain ⟨E, hEE⟩ : ∃ E, w2.heap.size = E := ⟨_, rfl⟩
  rw [hEE] at HCE HEW HB5 KK0 KE0
  have HEE := Lib.hid hEE
  clear hEE
  have HN := Lib.hid (rnK1 _ w3 C l 1 rfl KS0.out)
  go_wp2_with fail
  rw [HW0.out, HEE.out]
  clear HW0 HEE
  refine HN.out.mono ?_
  rintro e V1 ⟨rfl, hrs, hch⟩
  have hE := (hch.block E (Array.getElem?_eq_some_iff.1 KE0.out).1 (by intro e; exact HCE.out (by simpa [blk, ptr] using e.symm))).trans KE0.out
  obtain ⟨W1, hW1⟩ : ∃ W, V1.setCell ⟨E, 1, none⟩ (.int .i64 (vK l 1 : Int)) = W := ⟨_, rfl⟩
  have KK1 : Hid (Kp E (ptr C) E w3 W1) := Lib.hid (by rw [← hW1]; exact ((KK0.out.trans (Kp.chg hch (Nat.le_trans HB5.out KK0.out.size))).trans (Kp.set _ 1 _)))
  have KE1 : Hid (W1.heap[E]? = some (.cells (cK l 2) 25 (0, 0))) := Lib.hid (by rw [← hW1, heap_setCell_same _ E 1 _ 25 _ hE]; rfl)
  have KS1 : Hid (RS (fun b => b < w.heap.size) W1 C (sK l 2)) := Lib.hid (by
    rw [← hW1]
    refine RS.keep hrs (by simp [World.setCell]) (heap_setCell_other _ _ _ _ (fun e => HCE.out e)) fun b _ hb => heap_setCell_other _ _ _ _ (by intro e; simp only at e; have := HEW.out; omega))
  have z1 : V1.cell? ⟨E, 1, none⟩ = some (.int .i64 0) := by rw [cell_of_row _ _ _ _ _ _ hE]; rfl
  have f1 := frz (k := 1) hE
  have hcv1 := conv_u (vK l 1) (v1 l 1 rfl) V1
  have HW1 := Lib.hid hW1
  clear HN hrs hch hE hW1 KK0 KE0 KS0
  have HN := Lib.hid (rnK1 _ W1 C l 2 rfl KS1.out)
  go_wp2_with fail
  rw [HW1.out]
  clear HW1 z1 f1 hcv1
  refine HN.out.mono ?_
  rintro e V2 ⟨rfl, hrs, hch⟩
  have hE := (hch.block E (Array.getElem?_eq_some_iff.1 KE1.out).1 (by intro e; exact HCE.out (by simpa [blk, ptr] using e.symm))).trans KE1.out
  obtain ⟨W2, hW2⟩ : ∃ W, V2.setCell ⟨E, 2, none⟩ (.int .i64 (vK l 2 : Int)) = W := ⟨_, rfl⟩
  have KK2 : Hid (Kp E (ptr C) E w3 W2) := Lib.hid (by rw [← hW2]; exact ((KK1.out.trans (Kp.chg hch (Nat.le_trans HB5.out KK1.out.size))).trans (Kp.set _ 2 _)))
  have KE2 : Hid (W2.heap[E]? = some (.cells (cK l 3) 25 (0, 0))) := Lib.hid (by rw [← hW2, heap_setCell_same _ E 2 _ 25 _ hE]; rfl)
  have KS2 : Hid (RS (fun b => b < w.heap.size) W2 C (sK l 3)) := Lib.hid (by
    rw [← hW2]
    refine RS.keep hrs (by simp [World.setCell]) (heap_setCell_other _ _ _ _ (fun e => HCE.out e)) fun b _ hb => heap_setCell_other _ _ _ _ (by intro e; simp only at e; have := HEW.out; omega))
  have z2 : V2.cell? ⟨E, 2, none⟩ = some (.int .i64 0) := by rw [cell_of_row _ _ _ _ _ _ hE]; rfl
  have f2 := frz (k := 2) hE
  have hcv2 := conv_u (vK l 2) (v1 l 2 rfl) V2
  have HW2 := Lib.hid hW2
  clear HN hrs hch hE hW2 KK1 KE1 KS1
  have HN := Lib.hid (rnK1 _ W2 C l 3 rfl KS2.out)
  go_wp2_with fail
  rw [HW2.out]
  clear HW2 z2 f2 hcv2
  refine HN.out.mono ?_
  rintro e V3 ⟨rfl, hrs, hch⟩
  have hE := (hch.block E (Array.getElem?_eq_some_iff.1 KE2.out).1 (by intro e; exact HCE.out (by simpa [blk, ptr] using e.symm))).trans KE2.out
  obtain ⟨W3, hW3⟩ : ∃ W, V3.setCell ⟨E, 3, none⟩ (.int .i64 (vK l 3 : Int)) = W := ⟨_, rfl⟩
  have KK3 : Hid (Kp E (ptr C) E w3 W3) := Lib.hid (by rw [← hW3]; exact ((KK2.out.trans (Kp.chg hch (Nat.le_trans HB5.out KK2.out.size))).trans (Kp.set _ 3 _)))
  have KE3 : Hid (W3.heap[E]? = some (.cells (cK l 4) 25 (0, 0))) := Lib.hid (by rw [← hW3, heap_setCell_same _ E 3 _ 25 _ hE]; rfl)
  have KS3 : Hid (RS (fun b => b < w.heap.size) W3 C (sK l 4)) := Lib.hid (by
    rw [← hW3]
    refine RS.keep hrs (by simp [World.setCell]) (heap_setCell_other _ _ _ _ (fun e => HCE.out e)) fun b _ hb => heap_setCell_other _ _ _ _ (by intro e; simp only at e; have := HEW.out; omega))
  have z3 : V3.cell? ⟨E, 3, none⟩ = some (.int .i64 0) := by rw [cell_of_row _ _ _ _ _ _ hE]; rfl
  have f3 := frz (k := 3) hE
  have hcv3 := conv_u (vK l 3) (v1 l 3 rfl) V3
  have HW3 := Lib.hid hW3
  clear HN hrs hch hE hW3 KK2 KE2 KS2
  have HN := Lib.hid (rnK1 _ W3 C l 4 rfl KS3.out)
  go_wp2_with fail
  rw [HW3.out]
  clear HW3 z3 f3 hcv3
  refine HN.out.mono ?_
  rintro e V4 ⟨rfl, hrs, hch⟩
  have hE := (hch.block E (Array.getElem?_eq_some_iff.1 KE3.out).1 (by intro e; exact HCE.out (by simpa [blk, ptr] using e.symm))).trans KE3.out
  obtain ⟨W4, hW4⟩ : ∃ W, V4.setCell ⟨E, 4, none⟩ (.int .i64 (vK l 4 : Int)) = W := ⟨_, rfl⟩
  have KK4 : Hid (Kp E (ptr C) E w3 W4) := Lib.hid (by rw [← hW4]; exact ((KK3.out.trans (Kp.chg hch (Nat.le_trans HB5.out KK3.out.size))).trans (Kp.set _ 4 _)))
  have KE4 : Hid (W4.heap[E]? = some (.cells (cK l 5) 25 (0, 0))) := Lib.hid (by rw [← hW4, heap_setCell_same _ E 4 _ 25 _ hE]; rfl)
  have KS4 : Hid (RS (fun b => b < w.heap.size) W4 C (sK l 5)) := Lib.hid (by
    rw [← hW4]
    refine RS.keep hrs (by simp [World.setCell]) (heap_setCell_other _ _ _ _ (fun e => HCE.out e)) fun b _ hb => heap_setCell_other _ _ _ _ (by intro e; simp only at e; have := HEW.out; omega))
  have z4 : V4.cell? ⟨E, 4, none⟩ = some (.int .i64 0) := by rw [cell_of_row _ _ _ _ _ _ hE]; rfl
  have f4 := frz (k := 4) hE
  have hcv4 := conv_u (vK l 4) (v1 l 4 rfl) V4
  have HW4 := Lib.hid hW4
  clear HN hrs hch hE hW4 KK3 KE3 KS3
  have HN := Lib.hid (rnK1 _ W4 C l 5 rfl KS4.out)
  go_wp2_with fail
  rw [HW4.out]
  clear HW4 z4 f4 hcv4
  refine HN.out.mono ?_
  rintro e V5 ⟨rfl, hrs, hch⟩
  have hE := (hch.block E (Array.getElem?_eq_some_iff.1 KE4.out).1 (by intro e; exact HCE.out (by simpa [blk, ptr] using e.symm))).trans KE4.out
  obtain ⟨W5, hW5⟩ : ∃ W, V5.setCell ⟨E, 5, none⟩ (.int .i64 (vK l 5 : Int)) = W := ⟨_, rfl⟩
  have KK5 : Hid (Kp E (ptr C) E w3 W5) := Lib.hid (by rw [← hW5]; exact ((KK4.out.trans (Kp.chg hch (Nat.le_trans HB5.out KK4.out.size))).trans (Kp.set _ 5 _)))
  have KE5 : Hid (W5.heap[E]? = some (.cells (cK l 6) 25 (0, 0))) := Lib.hid (by rw [← hW5, heap_setCell_same _ E 5 _ 25 _ hE]; rfl)
  have KS5 : Hid (RS (fun b => b < w.heap.size) W5 C (sK l 6)) := Lib.hid (by
    rw [← hW5]
    refine RS.keep hrs (by simp [World.setCell]) (heap_setCell_other _ _ _ _ (fun e => HCE.out e)) fun b _ hb => heap_setCell_other _ _ _ _ (by intro e; simp only at e; have := HEW.out; omega))
  have z5 : V5.cell? ⟨E, 5, none⟩ = some (.int .i64 0) := by rw [cell_of_row _ _ _ _ _ _ hE]; rfl
  have f5 := frz (k := 5) hE
  have hcv5 := conv_u (vK l 5) (v1 l 5 rfl) V5
  have HW5 := Lib.hid hW5
  clear HN hrs hch hE hW5 KK4 KE4 KS4
  have HN := Lib.hid (rnK1 _ W5 C l 6 rfl KS5.out)
  go_wp2_with fail
  rw [HW5.out]
  clear HW5 z5 f5 hcv5
  refine HN.out.mono ?_
  rintro e V6 ⟨rfl, hrs, hch⟩
  have hE := (hch.block E (Array.getElem?_eq_some_iff.1 KE5.out).1 (by intro e; exact HCE.out (by simpa [blk, ptr] using e.symm))).trans KE5.out
  obtain ⟨W6, hW6⟩ : ∃ W, V6.setCell ⟨E, 6, none⟩ (.int .i64 (vK l 6 : Int)) = W := ⟨_, rfl⟩
  have KK6 : Hid (Kp E (ptr C) E w3 W6) := Lib.hid (by rw [← hW6]; exact ((KK5.out.trans (Kp.chg hch (Nat.le_trans HB5.out KK5.out.size))).trans (Kp.set _ 6 _)))
  have KE6 : Hid (W6.heap[E]? = some (.cells (cK l 7) 25 (0, 0))) := Lib.hid (by rw [← hW6, heap_setCell_same _ E 6 _ 25 _ hE]; rfl)
  have KS6 : Hid (RS (fun b => b < w.heap.size) W6 C (sK l 7)) := Lib.hid (by
    rw [← hW6]
    refine RS.keep hrs (by simp [World.setCell]) (heap_setCell_other _ _ _ _ (fun e => HCE.out e)) fun b _ hb => heap_setCell_other _ _ _ _ (by intro e; simp only at e; have := HEW.out; omega))
  have z6 : V6.cell? ⟨E, 6, none⟩ = some (.int .i64 0) := by rw [cell_of_row _ _ _ _ _ _ hE]; rfl
  have f6 := frz (k := 6) hE
  have hcv6 := conv_u (vK l 6) (v1 l 6 rfl) V6
  have HW6 := Lib.hid hW6
  clear HN hrs hch hE hW6 KK5 KE5 KS5
  have HN := Lib.hid (rnK8 _ W6 C l 7 rfl KS6.out)
  go_wp2_with fail
  rw [HW6.out]
  clear HW6 z6 f6 hcv6
  refine HN.out.mono ?_
  rintro e V7 ⟨rfl, hrs, hch⟩
  have hE := (hch.block E (Array.getElem?_eq_some_iff.1 KE6.out).1 (by intro e; exact HCE.out (by simpa [blk, ptr] using e.symm))).trans KE6.out
  obtain ⟨W7, hW7⟩ : ∃ W, V7.setCell ⟨E, 7, none⟩ (.int .u64 (vK l 7 : Int)) = W := ⟨_, rfl⟩
  have KK7 : Hid (Kp E (ptr C) E w3 W7) := Lib.hid (by rw [← hW7]; exact ((KK6.out.trans (Kp.chg hch (Nat.le_trans HB5.out KK6.out.size))).trans (Kp.set _ 7 _)))
  have KE7 : Hid (W7.heap[E]? = some (.cells (cK l 8) 25 (0, 0))) := Lib.hid (by rw [← hW7, heap_setCell_same _ E 7 _ 25 _ hE]; rfl)
  have KS7 : Hid (RS (fun b => b < w.heap.size) W7 C (sK l 8)) := Lib.hid (by
    rw [← hW7]
    refine RS.keep hrs (by simp [World.setCell]) (heap_setCell_other _ _ _ _ (fun e => HCE.out e)) fun b _ hb => heap_setCell_other _ _ _ _ (by intro e; simp only at e; have := HEW.out; omega))
  have z7 : V7.cell? ⟨E, 7, none⟩ = some (.int .u64 0) := by rw [cell_of_row _ _ _ _ _ _ hE]; rfl
  have f7 := frz (k := 7) hE
  have HW7 := Lib.hid hW7
  clear HN hrs hch hE hW7 KK6 KE6 KS6
  have HN := Lib.hid (rnK8 _ W7 C l 8 rfl KS7.out)
  go_wp2_with fail
  rw [HW7.out]
  clear HW7 z7 f7
  refine HN.out.mono ?_
  rintro e V8 ⟨rfl, hrs, hch⟩
  have hE := (hch.block E (Array.getElem?_eq_some_iff.1 KE7.out).1 (by intro e; exact HCE.out (by simpa [blk, ptr] using e.symm))).trans KE7.out
  obtain ⟨W8, hW8⟩ : ∃ W, V8.setCell ⟨E, 8, none⟩ (.int .u64 (vK l 8 : Int)) = W := ⟨_, rfl⟩
  have KK8 : Hid (Kp E (ptr C) E w3 W8) := Lib.hid (by rw [← hW8]; exact ((KK7.out.trans (Kp.chg hch (Nat.le_trans HB5.out KK7.out.size))).trans (Kp.set _ 8 _)))
  have KE8 : Hid (W8.heap[E]? = some (.cells (cK l 9) 25 (0, 0))) := Lib.hid (by rw [← hW8, heap_setCell_same _ E 8 _ 25 _ hE]; rfl)
  have KS8 : Hid (RS (fun b => b < w.heap.size) W8 C (sK l 9)) := Lib.hid (by
    rw [← hW8]
    refine RS.keep hrs (by simp [World.setCell]) (heap_setCell_other _ _ _ _ (fun e => HCE.out e)) fun b _ hb => heap_setCell_other _ _ _ _ (by intro e; simp only at e; have := HEW.out; omega))
  have z8 : V8.cell? ⟨E, 8, none⟩ = some (.int .u64 0) := by rw [cell_of_row _ _ _ _ _ _ hE]; rfl
  have f8 := frz (k := 8) hE
  have HW8 := Lib.hid hW8
  clear HN hrs hch hE hW8 KK7 KE7 KS7
  have HN := Lib.hid (rnK1 _ W8 C l 9 rfl KS8.out)
  go_wp2_with fail
  rw [HW8.out]
  clear HW8 z8 f8
  refine HN.out.mono ?_
  rintro e V9 ⟨rfl, hrs, hch⟩
  have hE := (hch.block E (Array.getElem?_eq_some_iff.1 KE8.out).1 (by intro e; exact HCE.out (by simpa [blk, ptr] using e.symm))).trans KE8.out
  obtain ⟨W9, hW9⟩ : ∃ W, V9.setCell ⟨E, 9, none⟩ (.int .i64 (vK l 9 : Int)) = W := ⟨_, rfl⟩
  have KK9 : Hid (Kp E (ptr C) E w3 W9) := Lib.hid (by rw [← hW9]; exact ((KK8.out.trans (Kp.chg hch (Nat.le_trans HB5.out KK8.out.size))).trans (Kp.set _ 9 _)))
  have KE9 : Hid (W9.heap[E]? = some (.cells (cK l 10) 25 (0, 0))) := Lib.hid (by rw [← hW9, heap_setCell_same _ E 9 _ 25 _ hE]; rfl)
  have KS9 : Hid (RS (fun b => b < w.heap.size) W9 C (sK l 10)) := Lib.hid (by
    rw [← hW9]
    refine RS.keep hrs (by simp [World.setCell]) (heap_setCell_other _ _ _ _ (fun e => HCE.out e)) fun b _ hb => heap_setCell_other _ _ _ _ (by intro e; simp only at e; have := HEW.out; omega))
  have z9 : V9.cell? ⟨E, 9, none⟩ = some (.int .i64 0) := by rw [cell_of_row _ _ _ _ _ _ hE]; rfl
  have f9 := frz (k := 9) hE
  have hcv9 := conv_u (vK l 9) (v1 l 9 rfl) V9
  have HW9 := Lib.hid hW9
  clear HN hrs hch hE hW9 KK8 KE8 KS8

  have GF : Hid (Grew w W9) := Lib.hid (KK9.out.grew G3.out (Nat.le_of_lt HEW.out) (Nat.le_of_lt HEW.out) (fun k hk => by have := HCW.out; simp [blk, ptr] at hk; omega))
  have RB : Hid (W9.heap[w.heap.size]? = some (.cells #[.int .u64 0, .int .i64 0, .int .i64 0, .int .i64 0, .int .i64 0, .int .i64 0, .int .i64 0, .int .u64 0, .int .u64 0, .int .i64 0] 25 (0, 0))) := Lib.hid ((KK9.out.block w.heap.size HEW.out (Nat.ne_of_lt HEW.out) (by intro e; have := HCW.out; simp [blk, ptr] at e; omega)).trans RB3.out)
  have hEC0 : W9.heap[E]? = some (.cells #[.int .u64 (vK l 0 : Int), .int .i64 (vK l 1 : Int), .int .i64 (vK l 2 : Int), .int .i64 (vK l 3 : Int), .int .i64 (vK l 4 : Int), .int .i64 (vK l 5 : Int), .int .i64 (vK l 6 : Int), .int .u64 (vK l 7 : Int), .int .u64 (vK l 8 : Int), .int .i64 (vK l 9 : Int)] 25 (0, 0)) := KE9.out
  have HEC := Lib.hid hEC0
  have HEND := Lib.hid (fun W (hg : Grew W9 W) => rend_any _ W C (sK l 10) (KS9.out.grew hg))
  clear hEC0 KE9 KS9 KK9 RB3 G3
  by_cases hfin : (sK l 10).fin = 0
  · rw [hfin] at HEND
    cases hok : okE (decE l) with
    | true =>
      have hr : ((decE l, 0) : En × Int) = RES := by rw [← HRES.out]; unfold readP; rw [if_pos hfin, if_pos hok]
      rw [show okE (⟨vK l 0, vK l 1, vK l 2, vK l 3, vK l 4, vK l 5, vK l 6, vK l 7, vK l 8, vK l 9⟩ : En) = true from hok] at HMAY
      clear HRES
      subst hr
      clear hfin hok
      go_wp2_with fail
      rw [HW9.out]
      clear HW9 z9 f9 hcv9
      refine (HEND.out _ (Grew.refl _)).mono ?_
      rintro e W5 ⟨rfl, nd, hw⟩
      have hg5 : Grew W9 W5 := by rw [hw]; exact grew_drewN _ _
      have RB5 := Lib.hid (PA.keepB RB.out hg5)
      have GF5 := Lib.hid (GF.out.trans hg5)
      have HEC5 := Lib.hid (PA.keepB HEC.out hg5)
      clear hw hg5
      obtain ⟨c0, c1, c2, c3, c4, c5, c6, c7, c8, c9⟩ := ten_c HEC5.out
      go_wp2_with fail
      refine (HMAY.out _).mono ?_
      rintro e w6 ⟨rfl, hg⟩
      have RB6 := Lib.hid (PA.keepB RB5.out hg)
      have GF6 := Lib.hid (GF5.out.trans hg)
      clear c0 c1 c2 c3 c4 c5 c6 c7 c8 c9
      obtain ⟨c0, c1, c2, c3, c4, c5, c6, c7, c8, c9⟩ := ten_c (PA.keepB HEC5.out hg)
      clear hg RB GF
      obtain ⟨W7, hst7, hb7, hg7⟩ := store10 RB6.out (.int .u64 (vK l 0 : Int)) (.int .i64 (vK l 1 : Int)) (.int .i64 (vK l 2 : Int)) (.int .i64 (vK l 3 : Int)) (.int .i64 (vK l 4 : Int)) (.int .i64 (vK l 5 : Int)) (.int .i64 (vK l 6 : Int)) (.int .u64 (vK l 7 : Int)) (.int .u64 (vK l 8 : Int)) (.int .i64 (vK l 9 : Int)) (by intro u hu; simp only [List.mem_cons, List.not_mem_nil, or_false] at hu; rcases hu with rfl | rfl | rfl | rfl | rfl | rfl | rfl | rfl | rfl | rfl <;> rfl)
      have HST := Lib.hid hst7
      have GW := Lib.hid (hg7 w GF6.out (Nat.le_refl _))
      obtain ⟨e0, e1, e2, e3, e4, e5, e6, e7, e8, e9⟩ := ten_c hb7
      clear hst7 hb7 hg7
      go_wp2_with (first | refine wpList_store (by rfl) 25 (.tmp 2) (.tmp 43) (by with_reducible rfl) _ _ (by rfl) (by rfl) _ HST.out ?_)
      refine bodyPost_ret (by simp [results, Try.results15, go_sem, e0, e1, e2, e3, e4, e5, e6, e7, e8, e9]; try rfl) rfl ?_
      exact ⟨rfl, GW.out⟩

    | false =>
      have hr : ((zen, 2) : En × Int) = RES := by rw [← HRES.out]; unfold readP; rw [if_pos hfin, if_neg (by rw [hok]; decide)]
      rw [show okE (⟨vK l 0, vK l 1, vK l 2, vK l 3, vK l 4, vK l 5, vK l 6, vK l 7, vK l 8, vK l 9⟩ : En) = false from hok] at HMAY
      clear HRES
      subst hr
      clear hfin hok
      go_wp2_with fail
      rw [HW9.out]
      clear HW9 z9 f9 hcv9
      refine (HEND.out _ (Grew.refl _)).mono ?_
      rintro e W5 ⟨rfl, nd, hw⟩
      have hg5 : Grew W9 W5 := by rw [hw]; exact grew_drewN _ _
      have RB5 := Lib.hid (PA.keepB RB.out hg5)
      have GF5 := Lib.hid (GF.out.trans hg5)
      have HEC5 := Lib.hid (PA.keepB HEC.out hg5)
      clear hw hg5
      obtain ⟨c0, c1, c2, c3, c4, c5, c6, c7, c8, c9⟩ := ten_c HEC5.out
      go_wp2_with fail
      refine (HMAY.out _).mono ?_
      rintro e w6 ⟨rfl, hg⟩
      have RB6 := Lib.hid (PA.keepB RB5.out hg)
      have GF6 := Lib.hid (GF5.out.trans hg)
      clear hg RB GF c0 c1 c2 c3 c4 c5 c6 c7 c8 c9
      obtain ⟨W7, hst7, hb7, hg7⟩ := store10 RB6.out (.int .u64 0) (.int .i64 0) (.int .i64 0) (.int .i64 0) (.int .i64 0) (.int .i64 0) (.int .i64 0) (.int .u64 0) (.int .u64 0) (.int .i64 0) (by intro u hu; simp only [List.mem_cons, List.not_mem_nil, or_false] at hu; rcases hu with rfl | rfl | rfl | rfl | rfl | rfl | rfl | rfl | rfl | rfl <;> rfl)
      have HST := Lib.hid hst7
      have GW := Lib.hid (hg7 w GF6.out (Nat.le_refl _))
      obtain ⟨e0, e1, e2, e3, e4, e5, e6, e7, e8, e9⟩ := ten_c hb7
      clear hst7 hb7 hg7
      go_wp2_with (first | refine wpList_store (by rfl) 25 (.tmp 2) (.tmp 42) (by with_reducible rfl) _ _ (by rfl) (by rfl) _ HST.out ?_)
      refine bodyPost_ret (by simp [results, Try.results15, go_sem, e0, e1, e2, e3, e4, e5, e6, e7, e8, e9]; try rfl) rfl ?_
      exact ⟨rfl, GW.out⟩

  · obtain ⟨f, hff⟩ : ∃ f, (sK l 10).fin = f := ⟨_, rfl⟩
    have hr : ((zen, f) : En × Int) = RES := by rw [← HRES.out]; unfold readP; rw [if_neg hfin, hff]
    rw [hff] at HEND hfin
    clear HRES hff
    subst hr
    have hf1 : (f == 0) = false := by simp; exact hfin
    have hf2 : (f != 0) = true := by simp; exact hfin
    clear hfin
    go_wp2_with fail
    rw [HW9.out]
    clear HW9 z9 f9 hcv9
    refine (HEND.out _ (Grew.refl _)).mono ?_
    rintro e W5 ⟨rfl, nd, hw⟩
    have hg5 : Grew W9 W5 := by rw [hw]; exact grew_drewN _ _
    have RB5 := Lib.hid (PA.keepB RB.out hg5)
    have GF5 := Lib.hid (GF.out.trans hg5)
    have HE2 := Lib.hid (HEND.out _ hg5)
    clear hw hg5
    go_wp2_with fail
    refine HE2.out.mono ?_
    rintro e W6 ⟨rfl, nd2, hw⟩
    have hg6 : Grew W5 W6 := by rw [hw]; exact grew_drewN _ _
    have RB6 := Lib.hid (PA.keepB RB5.out hg6)
    have GF6 := Lib.hid (GF5.out.trans hg6)
    clear hw hg6 RB GF
    obtain ⟨W7, hst7, hb7, hg7⟩ := store10 RB6.out (.int .u64 0) (.int .i64 0) (.int .i64 0) (.int .i64 0) (.int .i64 0) (.int .i64 0) (.int .i64 0) (.int .u64 0) (.int .u64 0) (.int .i64 0) (by intro u hu; simp only [List.mem_cons, List.not_mem_nil, or_false] at hu; rcases hu with rfl | rfl | rfl | rfl | rfl | rfl | rfl | rfl | rfl | rfl <;> rfl)
    have HST := Lib.hid hst7
    have GW := Lib.hid (hg7 w GF6.out (Nat.le_refl _))
    obtain ⟨e0, e1, e2, e3, e4, e5, e6, e7, e8, e9⟩ := ten_c hb7
    clear hst7 hb7 hg7
    go_wp2_with (first | refine wpList_store (by rfl) 25 (.tmp 2) (.tmp 37) (by with_reducible rfl) _ _ (by rfl) (by rfl) _ HST.out ?_)
    refine bodyPost_ret (by simp [results, Try.results15, go_sem, e0, e1, e2, e3, e4, e5, e6, e7, e8, e9]; try rfl) rfl ?_
    exact ⟨rfl, GW.out⟩

end Go.Proofs.Ytmnfajplfnfgpab.UP
