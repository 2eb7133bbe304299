/-
  'append(b, make([]byte, k)...)' on a row of bytes of one's own: k bytes 0 behind it.
  Conditions: those that each lemma names.
-/
import Derived.Test.YtbnicphegbdfnaaProg
import Derived.Test.YtbnicphegbdfnaaBytes
import Derived.Lib.AppendZerosOnto
namespace Go.Proofs.Ytbnicphegbdfnaa.Zeros
set_option maxRecDepth 100000
set_option maxRecDepth 100000
set_option maxRecDepth 100000
open Go Go.RowKit Go.Lib Go.Proofs.Ytbnicphegbdfnaa Go.Proofs.Ytbnicphegbdfnaa.Facts Go.Proofs.Ytbnicphegbdfnaa.Bytes

theorem zero_cells (k : Nat) : Builtin.zeroCells #[.int .u8 0] k = (bv (List.replicate k 0)).toArray := by
  apply Array.ext'
  apply List.ext_getElem (by simp [Builtin.zeroCells, bv_length])
  intro j h1 h2
  simp only [Builtin.zeroCells, List.size_toArray, List.length_cons, List.length_nil, Nat.zero_add, Nat.mul_one, Array.toList_map, List.getElem_map, bv, Nat.mod_one, List.getElem_toArray, Array.toList_range, List.map_replicate, List.getElem_replicate]
  rfl

theorem run_append_zeros {P : Program} (w : World) (base : Nat) (t tn ty e : TypeId) (i : TypeInfo) (kn : IntKind) (ht : P.underlying t = some (.slice e)) (htn : P.underlying tn = some (.int kn)) (hi : P.info? e = some i) (hz : i.zero = some (.int .u8 0)) (hs : i.size = 1) (hb : i.bytes = 1)
    (v : Value) (l : List UInt8) (hown : w.ownsRow base e 1 v l.length (bv l)) (hv : v ≠ .slice none 0 0) (k : Nat) (hl : l.length + k ≤ 140737488355328) (hbase : base ≤ w.heap.size) (kq : IntKind) :
    ∃ v' w', (Builtin.append_ #[t, tn] ty #[v, .int kq k]).run P w = .ok v' w' ∧ w'.ownsRow base e 1 v' (l ++ List.replicate k 0).length (bv (l ++ List.replicate k 0)) ∧ Below base w w' := by
  rcases hown.2 with ⟨rfl, h0⟩ | ⟨g, cap, cur, rfl, hbg, hg, hnc, hcm, hcs, htake⟩
  · exact absurd rfl hv
  have hlen : (l ++ List.replicate k (0 : UInt8)).length = l.length + k := by simp
  have hw : IntKind.i64.wrap (k : Int) = k := by rw [IntKind.wrap_i64]; omega
  have hneg : ¬ ((k : Int) < 0) := by omega
  have h48i : ¬ (281474976710656 < (k : Int)) := by omega
  by_cases hroom : l.length + k ≤ cap
  · have hst := run_storeCells_at P g l.length e (bv (List.replicate k 0)) 0 cur w hg (by simp [bv_length]; omega) (bv_one _)
    simp only [Nat.add_zero] at hst
    have hr : (Builtin.append_ #[t, tn] ty #[.slice (some ⟨g, 0, none⟩) l.length cap, .int kq k]).run P w =
        .ok (.slice (some ⟨g, 0, none⟩) (l.length + k) cap) (w.setRow g (cur.toList.take l.length ++ bv (List.replicate k 0) ++ cur.toList.drop (l.length + (bv (List.replicate k 0)).length)).toArray) := by
      by_cases hk : k = 0
      · subst hk
        have hw0 : IntKind.i64.wrap 0 = 0 := by rfl
        simp [Builtin.append_, run_underlying ht, run_underlying htn, sizeOf, typeInfo, hi, asInt, asIntOf, hw0, hs, hnc, bv, Addr.add_lit] at hst ⊢
        rw [hst]; rfl
      · simp [Builtin.append_, run_underlying ht, run_underlying htn, sizeOf, typeInfo, zeroValue, hi, hz, hb, hs, asInt, asIntOf, hw, hneg, h48i, hk, hroom, Value.cells, zero_cells, Addr.add_lit, hst]
    refine ⟨_, _, hr, ?_, ?_⟩
    · rw [hlen]
      refine ⟨by simp [bv_length], .inr ⟨g, cap, _, rfl, hbg, setRow_heap w g cur _ e _ hg, hroom, hcm, ?_, ?_⟩⟩
      · simp only [List.size_toArray, List.length_append, List.length_take, List.length_drop, Array.length_toList, bv_length, List.length_replicate]
        omega
      · simp only [Nat.mul_one] at htake
        rw [htake, ← bv_append, Nat.mul_one, ← hlen, ← bv_length]
        exact List.take_left
    · exact (Below.refl base w).grown (row := some g) ⟨rfl, rfl, rfl, by simp, fun k _ hk => setRow_other w g k _ (fun e => hk (by rw [e]))⟩ hbase (fun k hk => by cases hk; exact hbg)
  · have h0 : 0 < k := by omega
    have holds : ∀ j u, (bv l)[j]? = some u → w.cell? ((⟨g, 0, none⟩ : Addr).add j) = some u := hown.cells (g := g) rfl
    have hf := run_firstCells_some (P := P) w.drew i.size l.length ⟨g, 0, none⟩ l.length cap (bv l) (by rw [bv_length, hs, Nat.mul_one]) (fun j u hu => by rw [World.cell?_drew]; exact holds j u hu)
    have hr := run_append_grow_zeros (P := P) w t tn ty e i (.int .u8 0) kq kn ht htn hi hz (some ⟨g, 0, none⟩) l.length cap (bv l) hf k h0 (by omega) (by omega) (by omega) (by rw [hb]; omega) (by rw [hb]; exact growslice_fits (by omega) (by omega))
    refine ⟨_, _, hr, ?_, ?_⟩
    · have hge := grownCap_ge w (l.length + k) cap e
      have hcm' : grownCap w (l.length + k) cap e ≤ maxLen := grownCap_le_maxLen w (l.length + k) cap e (by unfold maxLen; omega)
      rw [hlen]
      refine ⟨by simp [bv_length], .inr ⟨w.heap.size, _, _, rfl, hbase, heap_alloc_new w.drew _, hge, hcm', ?_, ?_⟩⟩
      · simp only [Array.size_append, List.size_toArray, Value.cells, zero_cells, bv_length, List.length_replicate]
        omega
      · simp only [Array.toList_append, Value.cells, zero_cells]
        rw [← bv_append, Nat.mul_one, ← hlen, ← bv_length]
        exact List.take_left
    · exact (Below.refl base w).grown (row := none) ⟨rfl, rfl, rfl, by simp, fun k hk _ => heap_alloc_old w.drew _ hk⟩ hbase (fun k hk => by cases hk)
end Go.Proofs.Ytbnicphegbdfnaa.Zeros
