/-
  A sector is read.
  Conditions: those that each lemma names.
-/
import Derived.Test.YtbnicphegbdfnaaDArm
namespace Go.Proofs.Ytbnicphegbdfnaa.DRead
set_option maxRecDepth 100000
set_option maxRecDepth 100000
set_option maxRecDepth 100000
open Go Go.RowKit Go.Proofs.Ytbnicphegbdfnaa Go.Proofs.Ytbnicphegbdfnaa.Facts Go.Proofs.Ytbnicphegbdfnaa.Bytes Go.Proofs.Ytbnicphegbdfnaa.DKeep Go.Proofs.Ytbnicphegbdfnaa.DSmall Go.Proofs.Ytbnicphegbdfnaa.DTurn Go.Proofs.Ytbnicphegbdfnaa.DArm

theorem refuses_eq (w : World) (g : Nat) (D : Nat → Prop) (d : Pd) (n q : Int) (h : Hid (DK w g D d)) (hq : Hid (refus d n = q)) : Calls Try.prog 60 #[.pointer (some ⟨g, 0, none⟩), .int .i64 n] w fun e w' => e = .returned (.int .i64 q) ∧ w = w' := by
  have := refuses_any w g D d n h.out
  rwa [hq.out] at this
def readOf (d : Pd) (n : Int) : Sec × Int := if refus d n = 0 then (d.last[n.toNat]?.getD [], 0) else ([], refus d n)
theorem someZ (t n : Nat) (Z : Array Value) (h : (Try.prog.info? t).map (fun i => i.zero.map (·.cells)) = some (some Z)) (hn : Z.size = n) : ∃ Z : Array Value, Z.size = n ∧ (Try.prog.info? t).map (fun i => i.zero.map (·.cells)) = some (some Z) := ⟨Z, hn, h⟩
theorem z65 : ∃ Z : Array Value, Z.size = 128 ∧ (Try.prog.info? 116).map (fun i => i.zero.map (·.cells)) = some (some Z) := ⟨_, by simp [bv], zcells65⟩
theorem z67 : ∃ Z : Array Value, Z.size = 129 ∧ (Try.prog.info? 129).map (fun i => i.zero.map (·.cells)) = some (some Z) := ⟨_, by simp [bv], zcells67⟩

set_option maxHeartbeats 2000000 in
theorem read_full (w : World) (g : Nat) (D : Nat → Prop) (d : Pd) (n : Nat) (B : Sec) (h : DK w g D d) (hoff : d.off = false) (hn : n < d.safe.length) (hB : d.last[n]? = some B) :
    Calls Try.prog 19 #[dptr g, .int .i64 n] w fun e w' => ∃ v', e = .returned (.tuple #[v', .int .i64 0]) ∧ Rd (fun b => w.heap.size ≤ b) w' v' B ∧ Grew w w' := by
  have HD := Lib.hid h
  obtain ⟨hD, a, b, ca, cb, vw, h, hin⟩ := h
  obtain ⟨_, c1, _, _, _⟩ := h.cells
  have hcb := h.cb1
  have hcb2 := h.cb2
  have hr := h.last.range h.ok.el hB
  rw [Nat.mul_comm] at hr
  have hb := h.ok.el B (List.mem_of_getElem? hB)
  have HB := Lib.hid hb
  have HLD := Lib.hid (run_load_sec w b (n * 128) B hr hb)
  obtain ⟨Z, hZ, hz⟩ := z65
  have HST := Lib.hid (run_store_new 116 128 size65 w Z hZ (bv B) (by rw [bv_length, hb]) (bv_one _))
  have HZ := Lib.hid hz
  have HQ : Hid (refus d (n : Int) = 0) := Lib.hid (by unfold refus; rw [if_neg (by simp [hoff]), if_neg (by omega)])
  clear h hin hD hoff hB hr hb hZ hz
  unfold dptr
  go_enter Try.func19, Try.ntmps19
  go_wp2_with (first
    | (go_at_call 60; refine (refuses_eq _ _ _ _ _ 0 HD HQ).mono ?_; rintro e w' ⟨rfl, rfl⟩)
    | refine wpList_load (by rfl) 116 (.tmp 19) (by with_reducible rfl) _ _ (by rfl) HLD.out ?_
    | refine wpList_alloc (by rfl) 116 (by with_reducible rfl) _ HZ.out ?_
    | refine wpList_store (by rfl) 116 (.tmp 7) (.tmp 20) (by with_reducible rfl) _ _ (by rfl) (by rfl) _ HST.out ?_)
  go_returns
  refine ⟨.slice (some ⟨w.heap.size, 0, none⟩) 128 128, rfl, ?_, (Below.refl _ _).alloc (Nat.le_refl _) _⟩
  have hown : (w.alloc (.cells (bv B).toArray 116)).heap[w.heap.size]? = some (.cells (bv B).toArray 116 (0, 0)) := heap_alloc_new w _
  refine ⟨some ⟨w.heap.size, 0, none⟩, 128, by rw [HB.out], by rw [HB.out]; exact Nat.le_refl _, by decide, (fun h => by cases h), fun ad ha => ⟨fun _ => by cases ha; exact Nat.le_refl _, fun j u hu => ?_⟩⟩
  cases ha
  rw [Addr.add_mid, cell_of_row _ _ _ _ _ _ hown]
  simpa using hu

theorem read_any (w : World) (g : Nat) (D : Nat → Prop) (d : Pd) (n : Int) (h : DK w g D d) :
    Calls Try.prog 19 #[dptr g, .int .i64 n] w fun e w' => ∃ v', e = .returned (.tuple #[v', .int .i64 (readOf d n).2]) ∧ Rd (fun b => w.heap.size ≤ b) w' v' (readOf d n).1 ∧ Grew w w' := by
  by_cases h0 : refus d n = 0
  · have hh : d.off = false ∧ 0 ≤ n ∧ n < d.safe.length := by
      unfold refus at h0
      cases hoff : d.off with
      | true => rw [hoff, if_pos rfl] at h0; omega
      | false =>
        rw [hoff, if_neg (by simp)] at h0
        refine ⟨rfl, ?_⟩
        by_cases h1 : n < 0 ∨ (d.safe.length : Int) ≤ n
        · rw [if_pos h1] at h0; omega
        · omega
    obtain ⟨hoff, h1, h2⟩ := hh
    obtain ⟨k, rfl⟩ := Int.eq_ofNat_of_zero_le h1
    have hk : k < d.last.length := by
      obtain ⟨_, a, b, ca, cb, vw, hx, _⟩ := h
      rw [hx.ok.same]
      omega
    have e : readOf d (k : Int) = (d.last[k], 0) := by
      unfold readOf
      rw [if_pos h0]
      simp [hk]
    rw [e]
    exact read_full w g D d k d.last[k] h hoff (by omega) (List.getElem?_eq_getElem hk)
  · have e : readOf d n = ([], refus d n) := by unfold readOf; rw [if_neg h0]
    rw [e]
    have HD := Lib.hid h
    obtain ⟨q, hq⟩ : ∃ q, refus d n = q := ⟨_, rfl⟩
    have HQ := Lib.hid hq
    rw [hq] at h0 ⊢
    clear h e hq
    unfold dptr
    go_enter Try.func19, Try.ntmps19
    go_wp2_with (go_at_call 60; refine (refuses_eq _ _ _ _ _ q HD HQ).mono ?_; rintro e w' ⟨rfl, rfl⟩)
    go_returns
    exact ⟨_, rfl, Rd.nil _ _, Grew.refl _⟩
end Go.Proofs.Ytbnicphegbdfnaa.DRead
