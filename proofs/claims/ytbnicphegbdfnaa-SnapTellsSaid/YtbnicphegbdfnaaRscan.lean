/-
  'append(b, make([]byte, k)...)' on a row of bytes of one's own: k bytes 0 behind it.
  Conditions: those that each lemma names.
-/
import Derived.Test.YtbnicphegbdfnaaProg
import Derived.Test.YtbnicphegbdfnaaBytes
import Derived.Lib.AppendZerosOnto
import Derived.Test.YtbnicphegbdfnaaPure
import Derived.Deep.QuietTactic
import Derived.BigQuiet
namespace Go.Proofs.Ytbnicphegbdfnaa.Zeros
set_option maxRecDepth 100000
set_option maxRecDepth 100000
set_option maxRecDepth 100000
open Go Go.RowKit Go.Lib Go.Proofs.Ytbnicphegbdfnaa Go.Proofs.Ytbnicphegbdfnaa.Facts Go.Proofs.Ytbnicphegbdfnaa.Bytes

theorem zero_cells (k : Nat) : Builtin.zeroCells #[.int .u8 0] k = (bv (List.replicate k 0)).toArray := by
  apply Array.ext'
  apply List.ext_getElem (by simp [Builtin.zeroCells, bv_length])
  intro j h1 h2
  simp only [Builtin.zeroCells, List.size_toArray, List.length_cons, List.length_nil, Nat.zero_add, Nat.mul_one, Array.toList_map, List.getElem_map, bv, Nat.mod_one, List.getElem_toArray, Array.toList_range, List.map_replicate, List.getElem_replicate]
  rfl

theorem run_append_zeros {P : Program} (w : World) (base : Nat) (t tn ty e : TypeId) (i : TypeInfo) (kn : IntKind) (ht : P.underlying t = some (.slice e)) (htn : P.underlying tn = some (.int kn)) (hi : P.info? e = some i) (hz : i.zero = some (.int .u8 0)) (hs : i.size = 1) (hb : i.bytes = 1)
    (v : Value) (l : List UInt8) (hown : w.ownsRow base e 1 v l.length (bv l)) (hv : v ≠ .slice none 0 0) (k : Nat) (hl : l.length + k ≤ 140737488355328) (hbase : base ≤ w.heap.size) (kq : IntKind) :
    ∃ v' w', (Builtin.append_ #[t, tn] ty #[v, .int kq k]).run P w = .ok v' w' ∧ w'.ownsRow base e 1 v' (l ++ List.replicate k 0).length (bv (l ++ List.replicate k 0)) ∧ Below base w w' := by
  rcases hown.2 with ⟨rfl, h0⟩ | ⟨g, cap, cur, rfl, hbg, hg, hnc, hcm, hcs, htake⟩
  · exact absurd rfl hv
  have hlen : (l ++ List.replicate k (0 : UInt8)).length = l.length + k := by simp
  have hw : IntKind.i64.wrap (k : Int) = k := by rw [IntKind.wrap_i64]; omega
  have hneg : ¬ ((k : Int) < 0) := by omega
  have h48i : ¬ (281474976710656 < (k : Int)) := by omega
  by_cases hroom : l.length + k ≤ cap
  · have hst := run_storeCells_at P g l.length e (bv (List.replicate k 0)) 0 cur w hg (by simp [bv_length]; omega) (bv_one _)
    simp only [Nat.add_zero] at hst
    have hr : (Builtin.append_ #[t, tn] ty #[.slice (some ⟨g, 0, none⟩) l.length cap, .int kq k]).run P w =
        .ok (.slice (some ⟨g, 0, none⟩) (l.length + k) cap) (w.setRow g (cur.toList.take l.length ++ bv (List.replicate k 0) ++ cur.toList.drop (l.length + (bv (List.replicate k 0)).length)).toArray) := by
      by_cases hk : k = 0
      · subst hk
        have hw0 : IntKind.i64.wrap 0 = 0 := by rfl
        simp [Builtin.append_, run_underlying ht, run_underlying htn, sizeOf, typeInfo, hi, asInt, asIntOf, hw0, hs, hnc, bv, Addr.add_lit] at hst ⊢
        rw [hst]; rfl
      · simp [Builtin.append_, run_underlying ht, run_underlying htn, sizeOf, typeInfo, zeroValue, hi, hz, hb, hs, asInt, asIntOf, hw, hneg, h48i, hk, hroom, Value.cells, zero_cells, Addr.add_lit, hst]
    refine ⟨_, _, hr, ?_, ?_⟩
    · rw [hlen]
      refine ⟨by simp [bv_length], .inr ⟨g, cap, _, rfl, hbg, setRow_heap w g cur _ e _ hg, hroom, hcm, ?_, ?_⟩⟩
      · simp only [List.size_toArray, List.length_append, List.length_take, List.length_drop, Array.length_toList, bv_length, List.length_replicate]
        omega
      · simp only [Nat.mul_one] at htake
        rw [htake, ← bv_append, Nat.mul_one, ← hlen, ← bv_length]
        exact List.take_left
    · exact (Below.refl base w).grown (row := some g) ⟨rfl, rfl, rfl, by simp, fun k _ hk => setRow_other w g k _ (fun e => hk (by rw [e]))⟩ hbase (fun k hk => by cases hk; exact hbg)
  · have h0 : 0 < k := by omega
    have holds : ∀ j u, (bv l)[j]? = some u → w.cell? ((⟨g, 0, none⟩ : Addr).add j) = some u := hown.cells (g := g) rfl
    have hf := run_firstCells_some (P := P) w.drew i.size l.length ⟨g, 0, none⟩ l.length cap (bv l) (by rw [bv_length, hs, Nat.mul_one]) (fun j u hu => by rw [World.cell?_drew]; exact holds j u hu)
    have hr := run_append_grow_zeros (P := P) w t tn ty e i (.int .u8 0) kq kn ht htn hi hz (some ⟨g, 0, none⟩) l.length cap (bv l) hf k h0 (by omega) (by omega) (by omega) (by rw [hb]; omega) (by rw [hb]; exact growslice_fits (by omega) (by omega))
    refine ⟨_, _, hr, ?_, ?_⟩
    · have hge := grownCap_ge w (l.length + k) cap e
      have hcm' : grownCap w (l.length + k) cap e ≤ maxLen := grownCap_le_maxLen w (l.length + k) cap e (by unfold maxLen; omega)
      rw [hlen]
      refine ⟨by simp [bv_length], .inr ⟨w.heap.size, _, _, rfl, hbase, heap_alloc_new w.drew _, hge, hcm', ?_, ?_⟩⟩
      · simp only [Array.size_append, List.size_toArray, Value.cells, zero_cells, bv_length, List.length_replicate]
        omega
      · simp only [Array.toList_append, Value.cells, zero_cells]
        rw [← bv_append, Nat.mul_one, ← hlen, ← bv_length]
        exact List.take_left
    · exact (Below.refl base w).grown (row := none) ⟨rfl, rfl, rfl, by simp, fun k hk _ => heap_alloc_old w.drew _ hk⟩ hbase (fun k hk => by cases hk)
end Go.Proofs.Ytbnicphegbdfnaa.Zeros
namespace Go.Proofs.Ytbnicphegbdfnaa.Rscan
set_option maxRecDepth 100000
set_option maxRecDepth 100000
set_option maxRecDepth 100000
set_option maxRecDepth 100000
open Go Go.RowKit Go.Proofs.Ytbnicphegbdfnaa Go.Proofs.Ytbnicphegbdfnaa.Facts Go.Proofs.Ytbnicphegbdfnaa.Bytes Go.Proofs.Ytbnicphegbdfnaa.Puts Go.Proofs.Ytbnicphegbdfnaa.Scan Go.Proofs.Ytbnicphegbdfnaa.Take Go.Proofs.Ytbnicphegbdfnaa.Nums

/-- Block g is the document's scan, at s; its bytes lie in S. -/
def RS (S : Nat → Prop) (w : World) (g : Nat) (s : Sc) : Prop :=
  ¬ S g ∧ g < w.heap.size ∧ ∃ (v : Value) (full : List UInt8) (at_ : Nat), w.heap[g]? = some (.cells #[v, .int .i64 (at_ : Int), .int .i64 s.e] 165 (0, 0)) ∧ Rd S w v full ∧ at_ ≤ full.length ∧ s.l = full.drop at_

def ptr (g : Nat) : Value := .pointer (some ⟨g, 0, none⟩)

theorem grew_drewN (w : World) (n : Nat) : Grew w (w.drewN n) := ⟨rfl, rfl, rfl, Nat.le_refl _, fun _ _ => rfl⟩

theorem RS.keep {S : Nat → Prop} {w w' : World} {g : Nat} {s : Sc} (h : RS S w g s) (hs : w.heap.size ≤ w'.heap.size) (hg : w'.heap[g]? = w.heap[g]?) (hk : ∀ b, b < w.heap.size → S b → w'.heap[b]? = w.heap[b]?) : RS S w' g s := by
  obtain ⟨h0, h1, v, full, a, h2, h3, h4, h5⟩ := h
  exact ⟨h0, Nat.lt_of_lt_of_le h1 hs, v, full, a, hg.trans h2, h3.keep hk, h4, h5⟩
theorem RS.grew {S : Nat → Prop} {w w' : World} {g : Nat} {s : Sc} (h : RS S w g s) (hg : Grew w w') : RS S w' g s :=
  h.keep hg.size (hg.block g h.2.1) fun b hb _ => hg.block b hb

structure Alike (w w' : World) : Prop where
  heap : w'.heap = w.heap
  os : w'.os = w.os
  tape : w'.tape = w.tape
  output : w'.output = w.output

theorem Alike.grew {w w' : World} (h : Alike w w') : Grew w w' := ⟨h.os, h.tape, h.output, by rw [h.heap]; exact Nat.le_refl _, fun k _ => by rw [h.heap]⟩

/-- The cut from a on, m of them. -/
theorem mid_rd {S : Nat → Prop} {w : World} {A : Option Addr} {c a m : Nat} {l : List UInt8} (h : Rd S w (.slice A l.length c) l) (hm : a + m ≤ l.length) :
    Rd S w (.slice (if c = a then A else A.map (·.add a)) m (c - a)) ((l.drop a).take m) := by
  have h1 := (cut_rd h (Nat.le_trans (Nat.le_add_right a m) hm)).2
  obtain ⟨A', c', e, q1, q2, q3, q4⟩ := h1
  injection e with e1 _ e3
  have hml : m ≤ (l.drop a).length := by rw [List.length_drop]; omega
  have hle : ((l.drop a).take m).length = m := by rw [List.length_take, Nat.min_eq_left hml]
  refine ⟨A', c', by rw [hle, e1, e3], by omega, q2, q3, fun ad hA => ⟨fun hl => (q4 ad hA).1 (fun e => hl (by rw [e, List.take_nil])), fun j u hu => (q4 ad hA).2 j u ?_⟩⟩
  have hb : bv ((l.drop a).take m) = (bv (l.drop a)).take m := by simp [bv, List.map_take]
  rw [hb, List.getElem?_take] at hu
  split at hu
  · exact hu
  · cases hu

theorem rtaken {S : Nat → Prop} {w W : World} {g : Nat} {s : Sc} {A : Option Addr} {c a m : Nat} {full : List UInt8} {v : Value} {x : Int} (h0 : ¬ S g) (h1 : g < w.heap.size)
    (hg : w.heap[g]? = some (.cells #[.slice A full.length c, .int .i64 (a : Int), .int .i64 s.e] 165 (0, 0))) (hr : Rd S w (.slice A full.length c) full) (ha : a ≤ full.length) (hl : s.l = full.drop a) (he : s.e = 0)
    (hm : m ≤ full.length - a) (hv : v = .slice (if c = a then A else A.map (·.add a)) m (c - a)) (hx : x = ((a + m : Nat) : Int)) (hW : Alike (w.setCell ⟨g, 1, none⟩ (.int .i64 x)) W) :
    Rd S W v (s.take m).1 ∧ RS S W g (s.take m).2 ∧ Chg (ptr g) w W := by
  have hlen : m ≤ s.l.length := by rw [hl, List.length_drop]; exact hm
  have hT : s.take m = (s.l.take m, ⟨s.l.drop m, 0⟩) := by simp [Sc.take, he, hlen]
  rw [hT]
  subst hv hx
  have hother : ∀ b, b ≠ g → W.heap[b]? = w.heap[b]? := fun b hb => by rw [hW.heap]; exact heap_setCell_other w ⟨g, 1, none⟩ b _ hb
  have hsz : W.heap.size = w.heap.size := by rw [hW.heap]; simp [World.setCell]
  have hSg : ∀ b, S b → b ≠ g := fun b hb e => h0 (e ▸ hb)
  refine ⟨?_, ⟨h0, by omega, _, full, a + m, ?_, hr.keep fun b _ hb => hother b (hSg b hb), by omega, ?_⟩, ⟨?_, ?_, ?_, by omega, fun k _ hk => hother k (fun e => hk (by rw [e]; rfl))⟩⟩
  · rw [hl]
    exact (mid_rd hr (by omega)).keep fun b _ hb => hother b (hSg b hb)
  · rw [hW.heap, heap_setCell_same _ _ _ _ _ _ hg, he]
    rfl
  · show s.l.drop m = _
    rw [hl, List.drop_drop]
  · exact hW.os
  · exact hW.tape
  · exact hW.output

theorem rtake_core (S : Nat → Prop) (w : World) (g : Nat) (s : Sc) (n : Int) (m : Nat) (hn : (n < 0 ∧ m = 0) ∨ (0 ≤ n ∧ n = (m : Int))) (hm : m ≤ 9223372036854775807) (h : RS S w g s) :
    Calls Try.prog 116 #[ptr g, .int .i64 n] w fun e w' => ∃ v, e = .returned v ∧ Rd S w' v (s.take m).1 ∧ RS S w' g (s.take m).2 ∧ Chg (ptr g) w w' := by
  unfold ptr
  have H := Lib.hid h
  obtain ⟨h0, h1, v, full, a, hg, hr, ha, hl⟩ := h
  have c0 := cell_of_row _ _ 0 _ _ _ hg
  have c1 := cell_of_row _ _ 1 _ _ _ hg
  have c2 := cell_of_row _ _ 2 _ _ _ hg
  have f1 := frozen_of_row w g 1 _ _ hg
  have f2 := frozen_of_row w g 2 _ _ hg
  have HG := Lib.hid hg
  have HR := Lib.hid hr
  have HL := Lib.hid hl
  by_cases he : s.e = 0
  · have hel : s.l.length = full.length - a := by rw [hl, List.length_drop]
    obtain ⟨A, c, rfl, r1, r2, r3, r4⟩ := hr
    unfold maxLen at r2
    have HE := Lib.hid he
    by_cases hm2 : m ≤ s.l.length
    · have hT : Hid (s.take m = (s.l.take m, ⟨s.l.drop m, 0⟩)) := by show _ = _; simp [Sc.take, he, hm2]
      have hb : (s.e == 0) = true := by simpa using he
      have hb' : (s.e != 0) = false := by simpa using he
      rw [hel] at hm2
      have Hh0 := Lib.hid h0
      have Hh1 := Lib.hid h1
      clear h0 h1 hg hl he hel r3 r4
      by_cases hca : c = a
      · subst hca
        have hm0 : m = 0 := by omega
        subst hm0
        have hfc : full.length = c := by omega
        have HF := Lib.hid hfc
        clear hfc
        rcases hn with ⟨hn, _⟩ | ⟨hn, rfl⟩
        · go_enter Try.func116, Try.ntmps116
          go_wp2
          go_quiet (fail)
          go_wp2
          go_quiet (fail)
          go_wp2
          go_ret
          refine ⟨_, rfl, rtaken Hh0.out Hh1.out HG.out HR.out ha HL.out HE.out (m := 0) (x := (c : Int)) (Nat.zero_le _) ?_ ?_ ?_⟩
          · simp
          · simp
          · exact ⟨rfl, rfl, rfl, rfl⟩
        · go_enter Try.func116, Try.ntmps116
          go_wp2
          go_quiet (fail)
          go_wp2
          go_quiet (fail)
          go_wp2
          go_ret
          refine ⟨_, rfl, rtaken Hh0.out Hh1.out HG.out HR.out ha HL.out HE.out (m := 0) (x := (c : Int)) (Nat.zero_le _) ?_ ?_ ?_⟩
          · simp
          · simp
          · exact ⟨rfl, rfl, rfl, rfl⟩
      · rcases hn with ⟨hn, rfl⟩ | ⟨hn, rfl⟩
        · go_enter Try.func116, Try.ntmps116
          go_wp2
          go_quiet (fail)
          go_wp2
          go_quiet (fail)
          go_wp2
          go_ret
          refine ⟨_, rfl, rtaken Hh0.out Hh1.out HG.out HR.out ha HL.out HE.out (m := 0) (x := (a : Int)) (Nat.zero_le _) ?_ ?_ ?_⟩
          · simp [hca]
          · simp
          · exact ⟨rfl, rfl, rfl, rfl⟩
        · have w1 : IntKind.i64.wrap ((a : Int) + (m : Int)) = (a : Int) + m := IntWalk.i64_in _ (by omega)
          have w2 : (0 : Int) ≤ (a : Int) + m := by omega
          have w3 : ((a : Int) + (m : Int)).toNat = a + m := by omega
          go_enter Try.func116, Try.ntmps116
          go_wp2
          go_quiet (fail)
          go_wp2
          go_quiet (fail)
          go_wp2
          go_ret
          refine ⟨_, rfl, rtaken Hh0.out Hh1.out HG.out HR.out ha HL.out HE.out (x := (a : Int) + m) hm2 ?_ ?_ ?_⟩
          · simp [hca]
          · simp
          · exact ⟨rfl, rfl, rfl, rfl⟩
    · have hT : Hid (s.take m = ([], ⟨s.l, 12⟩)) := by show _ = _; simp [Sc.take, he, hm2]
      have hb : (s.e == 0) = true := by simpa using he
      have hb' : (s.e != 0) = false := by simpa using he
      rw [hel] at hm2
      have Hh0 := Lib.hid h0
      have Hh1 := Lib.hid h1
      clear h0 h1 hg hl he hel r3 r4
      rcases hn with ⟨hn, rfl⟩ | ⟨hn, rfl⟩
      · omega
      · have hd : (full.length : Int) - a < m := by omega
        go_enter Try.func116, Try.ntmps116
        go_wp2
        go_quiet (fail)
        go_wp2
        go_ret
        rw [hT.out]
        refine ⟨_, rfl, Rd.nil _ _, ⟨Hh0.out, ?_, _, full, a, ?_, HR.out.keep fun b _ hb => ?_, ha, HL.out⟩, ?_⟩
        · simpa [World.setCell, World.drewN] using Hh1.out
        · show (w.setCell ⟨g, 2, none⟩ _).heap[g]? = _
          rw [heap_setCell_same _ _ _ _ _ _ HG.out]
          rfl
        · exact heap_setCell_other w ⟨g, 2, none⟩ b _ (fun e => Hh0.out (by have e' : b = g := e; rw [← e']; exact hb))
        · exact (Chg.of_grew (grew_drewN w _)).trans (Chg.set _ _ _ _)
  · have hT : Hid (s.take m = ([], s)) := by show _ = _; simp [Sc.take, he]
    have hb : (s.e == 0) = false := by simpa using he
    have hb' : (s.e != 0) = true := by simpa using he
    clear h0 h1 hg hl he hr
    rcases hn with ⟨hn, rfl⟩ | ⟨hn, rfl⟩
    all_goals
      go_enter Try.func116, Try.ntmps116
      go_wp2
      go_ret
      rw [hT.out]
      exact ⟨_, rfl, Rd.nil _ _, H.out, Chg.refl _ _⟩
end Go.Proofs.Ytbnicphegbdfnaa.Rscan
namespace Go.Proofs.Ytbnicphegbdfnaa.Rnums
set_option maxRecDepth 100000
set_option maxRecDepth 100000
set_option maxRecDepth 100000
set_option maxRecDepth 100000
open Go Go.RowKit Go.Proofs.Ytbnicphegbdfnaa Go.Proofs.Ytbnicphegbdfnaa.Facts Go.Proofs.Ytbnicphegbdfnaa.Bytes Go.Proofs.Ytbnicphegbdfnaa.Puts Go.Proofs.Ytbnicphegbdfnaa.Refs Go.Proofs.Ytbnicphegbdfnaa.Scan Go.Proofs.Ytbnicphegbdfnaa.Take Go.Proofs.Ytbnicphegbdfnaa.Nums Go.Proofs.Ytbnicphegbdfnaa.Rscan

theorem rtake_any (S : Nat → Prop) (w : World) (g : Nat) (s : Sc) (n : Int) (hn : n ≤ 9223372036854775807) (h : RS S w g s) :
    Calls Try.prog 116 #[ptr g, .int .i64 n] w fun e w' => ∃ v, e = .returned v ∧ Rd S w' v (s.take (max n 0).toNat).1 ∧ RS S w' g (s.take (max n 0).toNat).2 ∧ Chg (ptr g) w w' :=
  rtake_core S w g s n (max n 0).toNat (by omega) (by omega) h

theorem rtake_eq (S : Nat → Prop) (w : World) (g : Nat) (s : Sc) (n : Nat) (t : List UInt8) (s1 : Sc) (h : Hid (RS S w g s)) (hn : n ≤ 9223372036854775807) (ht : Hid (s.take n = (t, s1))) :
    Calls Try.prog 116 #[.pointer (some ⟨g, 0, none⟩), .int .i64 n] w fun e w' => ∃ v, e = .returned v ∧ Rd S w' v t ∧ RS S w' g s1 ∧ Chg (ptr g) w w' := by
  have := rtake_core S w g s n n (by omega) hn h.out
  rwa [ht.out] at this

theorem rnum_any (S : Nat → Prop) (w : World) (g : Nat) (s : Sc) (size : Int) (h : RS S w g s) :
    Calls Try.prog 115 #[ptr g, .int .i64 size] w fun e w' => e = .returned (.int .u64 ((s.num (width size)).1 : Int)) ∧ RS S w' g (s.num (width size)).2 ∧ Chg (ptr g) w w' := by
  have hw := width_pos size
  generalize hK : width size = K at *
  have HK := Lib.hid hK
  have H := Lib.hid h
  have hlen := take_len s K
  obtain ⟨⟨t, s1⟩, ht⟩ : ∃ q, s.take K = q := ⟨_, rfl⟩
  rw [ht] at hlen
  have HT := Lib.hid ht
  clear hK h ht
  dsimp only at hlen
  unfold ptr
  go_enter Try.func115, Try.ntmps115
  go_wp2_with (go_at_call 121; refine (size_at _ _ HK _).mono ?_; rintro e w' ⟨rfl, rfl⟩)
  go_wp2_with fail
  refine (rtake_eq S _ g s K t s1 H (by omega) HT).mono ?_
  rintro e w1 ⟨v, rfl, hr, hs1, hc1⟩
  obtain ⟨A, c, rfl, r1, r2, r3, r4⟩ := id hr
  have HS := Lib.hid hs1
  have HC := Lib.hid hc1
  have HR := Lib.hid hr
  unfold maxLen at r2
  clear r4 r3 hs1 hc1 hr
  go_wp2
  go_loop [6, 7] (fun n i => ∃ k : Nat, k ≤ t.length ∧ i = .int .i64 k ∧ n = .int .u64 (Sc.val (t.take k) : Int)) (fun _ i => t.length - (intOf i).toNat)
  case atStart => exact ⟨0, Nat.zero_le _, rfl, by simp [Sc.val]⟩
  case round =>
    obtain ⟨k, hk, rfl, rfl⟩ := hrel
    by_cases hlt : k < t.length
    · obtain ⟨ad, c', e, hcc, hcell⟩ := HR.out.cell hlt
      injection e with e1 _ e3
      subst e1 e3
      have hN := val_small t k (by omega)
      generalize hNN : Sc.val (t.take k) = N at *
      have HN := Lib.hid hNN
      have hb256 : (t[k]?.getD 0).toNat < 256 := UInt8.toNat_lt _
      generalize hb : (t[k]?.getD 0).toNat = b at *
      have HB := Lib.hid hb
      clear hNN hb
      go_wp2
      go_round
      case rel =>
        refine ⟨k + 1, hlt, by go_num, ?_⟩
        rw [take_snoc t k hlt, val_snoc, HN.out, HB.out]
        go_num
      case measure => simp [intOf]; omega
    · have hkt : k = t.length := by omega
      have HKT := Lib.hid hkt
      clear hkt
      go_wp2
      go_ret
      have e : s.num K = (Sc.val t, s1) := by simp [Sc.num, HT.out]
      rw [e, HKT.out, List.take_length]
      exact ⟨rfl, HS.out, HC.out⟩

theorem rnum_eq (S : Nat → Prop) (w : World) (g : Nat) (s : Sc) (size : Int) (n : Nat) (s1 : Sc) (h : Hid (RS S w g s)) (hs : Hid (s.num (width size) = (n, s1))) :
    Calls Try.prog 115 #[.pointer (some ⟨g, 0, none⟩), .int .i64 size] w fun e w' => e = .returned (.int .u64 (n : Int)) ∧ RS S w' g s1 ∧ Chg (ptr g) w w' := by
  have := rnum_any S w g s size h.out
  rwa [hs.out] at this

theorem set_fault {S : Nat → Prop} {w : World} {g : Nat} {s : Sc} (x : Int) (h : RS S w g s) : RS S (w.setCell ⟨g, 2, none⟩ (.int .i64 x)) g ⟨s.l, x⟩ := by
  obtain ⟨h0, h1, v, full, a, hg, hr, ha, hl⟩ := h
  refine ⟨h0, by simpa [World.setCell] using h1, v, full, a, ?_, hr.keep fun b _ hb => heap_setCell_other w ⟨g, 2, none⟩ b _ (fun e => h0 (by have e' : b = g := e; rw [← e']; exact hb)), ha, hl⟩
  rw [heap_setCell_same _ _ _ _ _ _ hg]
  rfl

theorem num_lt (s : Sc) (n : Nat) (s1 : Sc) (hn : s.num (width 1) = (n, s1)) : n < 256 := by
  have e : n = Sc.val ((s.take (width 1)).1) := (congrArg Prod.fst hn).symm
  have h1 := take_len s (width 1)
  have h2 := val_lt (s.take (width 1)).1 1
  rw [List.take_of_length_le (by have : width 1 = 1 := by decide
                                 omega)] at h2
  omega

end Go.Proofs.Ytbnicphegbdfnaa.Rnums
