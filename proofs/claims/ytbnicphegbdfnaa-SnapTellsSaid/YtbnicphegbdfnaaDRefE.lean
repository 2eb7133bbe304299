/-
  The document's own disk: a crash.
  Conditions: none beyond those that each lemma names.
-/
import Derived.Test.YtbnicphegbdfnaaDRefD
import Derived.Test.YtbnicphegbdfnaaChain
import Derived.Laws.DeepStrings4
import Derived.Deep.CutRange
import Derived.Deep.DeepCutAuto
namespace Go.Proofs.Ytbnicphegbdfnaa.DRefE
set_option maxRecDepth 100000
set_option maxRecDepth 100000
open Go Go.RowKit Go.Proofs.Ytbnicphegbdfnaa Go.Proofs.Ytbnicphegbdfnaa.Facts Go.Proofs.Ytbnicphegbdfnaa.Bytes Go.Proofs.Ytbnicphegbdfnaa.DKeep Go.Proofs.Ytbnicphegbdfnaa.DOver Go.Proofs.Ytbnicphegbdfnaa.DSettle Go.Proofs.Ytbnicphegbdfnaa.DFlush Go.Proofs.Ytbnicphegbdfnaa.DRefA Go.Proofs.Ytbnicphegbdfnaa.DRefB Go.Proofs.Ytbnicphegbdfnaa.DRefC Go.Proofs.Ytbnicphegbdfnaa.DSim Go.Proofs.Ytbnicphegbdfnaa.DKeepsH Go.Proofs.Ytbnicphegbdfnaa.DRefD

/-- A row of texts that lies in none of the blocks D. -/
def SRx (D : Nat → Prop) (w : World) (v : Value) (l : List Sec) : Prop := SR w v l ∧ ∀ k, v.ownBlock = some k → ¬ D k
theorem SRx.kept {D : Nat → Prop} {w w' : World} {v : Value} {l : List Sec} (h : SRx D w v l) (hk : DSmall.Kept D w w') : SRx D w' v l := by
  obtain ⟨⟨A, c, rfl, h1, h2, h3, h4⟩, hd⟩ := h
  refine ⟨⟨A, c, rfl, h1, h2, h3, fun ad ha j B hB => ?_⟩, hd⟩
  have hc := h4 ad ha j B hB
  have hb := World.block_lt_of_cell? w _ hc
  subst ha
  have hn := hd ad.block rfl
  refine (World.cell?_of_block (w := w) (hk.block _ hb ?_)).trans hc
  rw [block_add']
  exact hn

theorem with_any' (n : Nat) (B : Sec) (v : Value) (l : List Sec) (w : World) (h : SR w v l) (hl : l.length ≤ 16384) (hn : n ≤ 16384) :
    Calls Try.prog 72 #[v, .int .i64 (n : Int), .string ⟨B.toArray⟩] w fun e w' => ∃ v', e = .returned v' ∧ w'.ownsRow w.heap.size 9 1 v' l.length (svs (l.set n B)) ∧ Grew w w' := with_any n B v l w h hl hn
/-- What is safe behind i writes, as the round leaves it. -/
def Cr (Wc : World) (g : Nat) (base n : Nat) (L : List Sec) (A1 A3 : Option Addr) (n1 n3 c1 c3 : Nat) (v2 : Value) (f : Int) (o : Bool) : Nat → Value → World → Prop
  | 0, _, w => Grew Wc w
  | 1, u, w => Grew Wc w ∧ w.ownsRow base 9 1 u n (svs L)
  | _, u, w => DSmall.Kept (fun k => k = g) Wc w ∧ w.ownsRow base 9 1 u n (svs L) ∧ w.heap[g]? = some (.cells #[.slice A1 n1 c1, u, .slice A3 n3 c3, .int .i64 f, .bool o] 49 (0, 0))
theorem store1 (t : TypeId) (ht : (Try.prog.info? t).map (·.size) = some 1) (k : Nat) (W : World) (g : Nat) (C : Array Value) (hg : W.heap[g]? = some (.cells C 49 (0, 0))) (v : Value) (hv : v.cells = #[v]) (h1 : v.oneCell' = true) (hC : k < C.size) :
    (Instr.storeAt t (.pointer (some ⟨g, k, none⟩)) v).run Try.prog W = .ok () (W.setCell ⟨g, k, none⟩ v) := by
  have h2 : W.cell? ⟨g, k, none⟩ = some C[k] := by rw [cell_of_row _ _ _ _ _ _ hg]; simp [hC]
  have f2 := frozen_of_row W g k _ _ hg
  have hst := run_storeCells_cells (P := Try.prog) g k [v] 0 W (fun j hj => by simp at hj; subst hj; simpa using congrArg Option.isSome h2) (fun j hj => by simp at hj; subst hj; exact f2) (fun u hu => by simp at hu; subst hu; exact h1)
  cases hq : Try.prog.info? t with
  | none => simp [hq] at ht
  | some i =>
    have hsz : i.size = 1 := by simpa [hq] using ht
    simp only [Instr.storeAt, Instr.sureAddr, storeVar, sizeOf, typeInfo, Sem.run_bind, Sem.run_pure, Result.andThen_ok, hv]
    simp [hq, hsz]
    exact hst
theorem size70 : (Try.prog.info? 126).map (·.size) = some 2 := by kernel_rfl
theorem z70 : ∃ Z : Array Value, Z.size = 2 ∧ (Try.prog.info? 126).map (fun i => i.zero.map (·.cells)) = some (some Z) := ⟨#[.int .i64 0, .string ⟨#[]⟩], rfl, by kernel_rfl⟩
theorem ba_size (B : Sec) : (⟨B.toArray⟩ : ByteArray).size = B.length := by simp [ByteArray.size]
theorem ba_ext {a b : ByteArray} (h : a.data.toList = b.data.toList) : a = b := by
  cases a; cases b; congr; exact Array.toList_inj.1 h
theorem run_sl_to (B : Sec) (k : Nat) (K : Int) (hK : K = (k : Int)) (hk : 8 * k ≤ B.length) (w : World) : (Instr.sliceAt 9 (.string ⟨B.toArray⟩) none (some (.int .i64 (8 * K))) none).run Try.prog w = .ok (.string ⟨(B.take (8 * k)).toArray⟩) w := by
  subst hK
  rw [show (Instr.sliceAt 9 (.string ⟨B.toArray⟩) none (some (.int .i64 (8 * (k : Int)))) none).run Try.prog w = (Instr.slice 9 (.string ⟨B.toArray⟩) none (some (.int .i64 (8 * (k : Int)))) none).run Try.prog w by simp [Instr.sliceAt, run_underlying Try.underlying9], run_slice_string_to_if w 9 _ .i64 _ Try.underlying9, ba_size, if_pos ⟨by omega, by omega⟩]
  congr 2
  apply ba_ext
  rw [ByteArray.data_extract]
  simp
  omega
theorem run_sl_from (B : Sec) (k : Nat) (K : Int) (hK : K = (k : Int)) (hk : 8 * k ≤ B.length) (w : World) : (Instr.sliceAt 9 (.string ⟨B.toArray⟩) (some (.int .i64 (8 * K))) none none).run Try.prog w = .ok (.string ⟨(B.drop (8 * k)).toArray⟩) w := by
  subst hK
  rw [show (Instr.sliceAt 9 (.string ⟨B.toArray⟩) (some (.int .i64 (8 * (k : Int)))) none none).run Try.prog w = (Instr.slice 9 (.string ⟨B.toArray⟩) (some (.int .i64 (8 * (k : Int)))) none none).run Try.prog w by simp [Instr.sliceAt, run_underlying Try.underlying9], run_slice_string_from_if w 9 _ .i64 _ Try.underlying9, ba_size, if_pos ⟨by omega, by omega⟩]
  congr 2
  apply ba_ext
  rw [ByteArray.data_extract]
  simp
  rw [show (8 * (k : Int)).toNat = 8 * k by omega, List.take_of_length_le (by rw [List.length_drop]; omega)]
theorem cut_add (A B : Sec) (k : Nat) : (⟨(B.take (8 * k)).toArray⟩ : ByteArray) ++ ⟨(A.drop (8 * k)).toArray⟩ = ⟨(cutw A B k).toArray⟩ := by
  apply ba_ext
  simp [cutw]
theorem own_mono {w : World} {b b' e m n : Nat} {v : Value} {xs : List Value} (h : w.ownsRow b e m v n xs) (hb : b' ≤ b) : w.ownsRow b' e m v n xs := by
  refine ⟨h.1, ?_⟩
  rcases h.2 with h2 | ⟨g, cap, cur, rfl, hbg, h3⟩
  · exact .inl h2
  · exact .inr ⟨g, cap, cur, rfl, Nat.le_trans hb hbg, h3⟩
theorem run_str_add (A B : Sec) (k : Nat) (hA : A.length = 128) (hB : B.length = 128) (w : World) : (binOp .add 9 (.string ⟨(B.take (8 * k)).toArray⟩) (.string ⟨(A.drop (8 * k)).toArray⟩)).run Try.prog w = .ok (.string ⟨(cutw A B k).toArray⟩) w := by
  rw [binOp_string_add, run_string_add w _ _ (by rw [ba_size, List.length_take]; omega) (by rw [ba_size, List.length_drop]; omega), cut_add]
set_option maxHeartbeats 4000000 in
theorem rcrash_any (r : Rp) (v vb : Value) (S : Nat → Prop) (l : List UInt8) (w : World) (h : RD w v r) (hr : Rd S w vb l) (he : Even r.safe) (hf : Fit r.safe.length r.waits) (hn1 : 0 < r.safe.length) (hn : r.safe.length ≤ 16384) (hw : r.waits.length ≤ 1073741823) :
    Calls Try.prog 29 #[v, vb] w fun e w' => ∃ v', e = .returned v' ∧ RD w' v' (rcrash r l) ∧ Grew w w' := by
  obtain ⟨⟨A1, A2, A3, c1, c2, c3, rfl, h1, h2, h3, t1, t2, t3⟩, f1, f2⟩ := h
  have HT2 := Lib.hid t2
  clear t1 t2 t3
  obtain ⟨Ab, cb, rfl, hb1, hb2, hb3, hb4⟩ := id hr
  have HR := Lib.hid hr
  have HS1 := Lib.hid h1
  have HS2 := Lib.hid h2
  have HS3 := Lib.hid h3
  have HE := Lib.hid he
  have HF := Lib.hid hf
  have HNN := Lib.hid hn
  have HN1 := Lib.hid hn1
  clear h1 h2 h3 hr hb4 hb3 he hf hn1
  unfold dv
  go_enter Try.func29, Try.ntmps29
  go_wp2
  have B0 := heapA w (.cells #[.slice A1 r.now.length c1, .slice A2 r.safe.length c2, .slice A3 r.waits.length c3, .int .i64 r.fuse, .bool r.off] 49) (.cells #[.slice none 0 0, .slice none 0 0, .slice none 0 0, .int .i64 0, .bool false] 49)
  have B1 := heapB w (.cells #[.slice A1 r.now.length c1, .slice A2 r.safe.length c2, .slice A3 r.waits.length c3, .int .i64 r.fuse, .bool r.off] 49) (.cells #[.slice none 0 0, .slice none 0 0, .slice none 0 0, .int .i64 0, .bool false] 49)
  have G0 : Grew w ((w.alloc (.cells #[.slice A1 r.now.length c1, .slice A2 r.safe.length c2, .slice A3 r.waits.length c3, .int .i64 r.fuse, .bool r.off] 49)).alloc (.cells #[.slice none 0 0, .slice none 0 0, .slice none 0 0, .int .i64 0, .bool false] 49)) := (grew_new (w := w) _).trans (grew_new _)
  have HB0 := Lib.hid B0
  have HB1 := Lib.hid B1
  have HG0 := Lib.hid G0
  have hAb : ∀ k, (Value.slice A2 r.safe.length c2).ownBlock = some k → k < w.heap.size := fun k hk => by
    obtain ⟨A, c, e, q1, q2, q3, q4⟩ := HS2.out
    injection e with e1 _ e3
    subst e1 e3
    cases A2 with
    | none => cases hk
    | some ad =>
      have hk' : ad.block = k := by simpa [Value.ownBlock] using hk
      have hc := q4 ad rfl 0 (r.safe[0]'HN1.out) (List.getElem?_eq_getElem HN1.out)
      have hb := World.block_lt_of_cell? w _ hc
      rw [block_add'] at hb
      omega
  have HX10 : Hid (∀ k, (Value.slice A2 r.safe.length c2).ownBlock = some k → ¬ k = w.heap.size + 1) := Lib.hid fun k hk he => by have := hAb k hk; omega
  have HX0 : Hid (SRx (fun k => k = w.heap.size) ((w.alloc (.cells #[.slice A1 r.now.length c1, .slice A2 r.safe.length c2, .slice A3 r.waits.length c3, .int .i64 r.fuse, .bool r.off] 49)).alloc (.cells #[.slice none 0 0, .slice none 0 0, .slice none 0 0, .int .i64 0, .bool false] 49)) (.slice A2 r.safe.length c2) r.safe) := Lib.hid ⟨HS2.out.grew G0, fun k hk he => by have := hAb k hk; omega⟩
  have HT0 := Lib.hid (HT2.out.grew G0)
  clear B0 B1 G0 hAb
  go_loopg [5] r.waits.length (fun q s5 wx => ∃ (i : Nat) (A2' : Option Addr) (c2' : Nat), i + q = r.waits.length ∧ s5 = .int .i64 i ∧ Hid (wx.heap[w.heap.size]? = some (.cells #[.slice A1 r.now.length c1, .slice A2' r.safe.length c2', .slice A3 r.waits.length c3, .int .i64 r.fuse, .bool r.off] 49 (0, 0))) ∧ Hid (wx.heap[w.heap.size + 1]? = some (.cells #[.slice none 0 0, .slice none 0 0, .slice none 0 0, .int .i64 0, .bool false] 49 (0, 0))) ∧ Hid (Grew w wx) ∧ Hid (SRx (fun k => k = w.heap.size) wx (.slice A2' r.safe.length c2') (settled (kept l) r.safe r.waits i)) ∧ Hid (∀ k, (Value.slice A2' r.safe.length c2').ownBlock = some k → ¬ k = w.heap.size + 1) ∧ Hid (Tg wx (.slice A2' r.safe.length c2') 9))
  case atStart => exact ⟨0, A2, c2, Nat.zero_add _, rfl, HB0, HB1, HG0, HX0, HX10, HT0⟩
  case round =>
    obtain ⟨i, A2', c2', hiq, rfl, HB, HB', HG, HX, HX1, HT⟩ := hrel
    generalize wr = wi at *
    have C2 : wi.cell? ⟨w.heap.size, 2, none⟩ = some (.slice A3 r.waits.length c3) := cell_of_row _ _ _ _ _ _ HB.out
    cases gk with
    | succ q =>
      have hil : (i : Int) < (r.waits.length : Int) := by omega
      have hil2 : i < r.waits.length := by omega
      obtain ⟨p, hp⟩ : ∃ p, r.waits[i]? = some p := ⟨_, List.getElem?_eq_getElem hil2⟩
      obtain ⟨hp1, hp2⟩ := HF.out p (List.mem_of_getElem? hp)
      have hkl := kept_le l i
      obtain ⟨A3', c3', e3, w1, w2, w3, w4⟩ := HS3.out
      injection e3 with e31 _ e33
      subst e31 e33
      obtain ⟨gw, rfl⟩ : ∃ gw, A3 = some ⟨gw, 0, none⟩ := by
        cases A3 with
        | none => have := w3 rfl; omega
        | some ad => obtain ⟨⟨gw, h⟩, _⟩ := w4 ad rfl; exact ⟨gw, by rw [h]⟩
      have hwc := (w4 _ rfl).2
      obtain ⟨a1, a2⟩ := wtc_at r.waits i p hp
      have hb0 : wi.cell? ⟨gw, i * 2, none⟩ = some (.int .i64 (p.1 : Int)) := DWrite.cellB HG.out (by have := hwc _ _ a1; rwa [Addr.add_mid, Nat.zero_add] at this)
      have hb1' : wi.cell? ⟨gw, i * 2 + 1, none⟩ = some (sv p.2) := DWrite.cellB HG.out (by have := hwc _ _ a2; rwa [Addr.add_mid, Nat.zero_add] at this)
      have HLD : Hid ((Instr.loadAt 126 (.pointer (some ⟨gw, i * 2, none⟩))).run Try.prog wi = .ok (.agg #[.int .i64 (p.1 : Int), .string ⟨p.2.toArray⟩]) wi) := Lib.hid (run_loadAt_mid wi gw (i * 2) 126 (wt p) _ (fun j u hu => by
        match j, hu with
        | 0, hu => simp [wt] at hu; subst hu; exact hb0
        | 1, hu => simp [wt] at hu; subst hu; exact hb1') Try.underlying126 rfl size70)
      obtain ⟨Z, hZ, hz⟩ := z70
      have HZ := Lib.hid hz
      have HST := Lib.hid (DArm.run_store_new 126 2 size70 wi Z hZ (wt p) rfl (by intro u hu; simp [wt] at hu; rcases hu with rfl | rfl <;> rfl))
      have HK : Hid (kept l i ≤ 16) := Lib.hid hkl
      have HRl := Lib.hid (HR.out.grew HG.out)
      clear hwc a1 a2 hb0 hb1' hz hZ w4 hkl
      obtain ⟨k, hk⟩ : ∃ k, kept l i = k := ⟨_, rfl⟩
      rw [hk] at HK
      have HC3 : Hid ((∃ adb, ∃ x : UInt8, i < l.length ∧ Ab = some adb ∧ wi.cell? (adb.add i) = some (.int .u8 (x.toNat : Int)) ∧ x.toNat ≤ 16 ∧ k = x.toNat) ∨ (∃ adb, ∃ x : UInt8, i < l.length ∧ Ab = some adb ∧ wi.cell? (adb.add i) = some (.int .u8 (x.toNat : Int)) ∧ 16 < x.toNat ∧ k = 16) ∨ (¬ i < l.length ∧ k = 0)) := Lib.hid (by
        by_cases hlt : i < l.length
        · obtain ⟨adb, cb', e5, _, hcb⟩ := HRl.out.cell hlt
          injection e5 with e51 _ e53
          unfold kept at hk
          rw [if_pos hlt] at hk
          by_cases hx : (l[i]?.getD 0).toNat ≤ 16
          · exact .inl ⟨adb, _, hlt, e51, hcb, hx, by omega⟩
          · exact .inr (.inl ⟨adb, _, hlt, e51, hcb, by omega, by omega⟩)
        · unfold kept at hk
          rw [if_neg hlt] at hk
          exact .inr (.inr ⟨hlt, hk.symm⟩))
      have HKE := Lib.hid hk
      have HB1 := Lib.hid hb1
      have hcb2 : cb ≤ 9223372036854775807 := by unfold maxLen at hb2; omega
      clear hk hb1 hb2
      rcases HC3.out with ⟨adb, x, hlt, rfl, hcx, hx, hkx⟩ | ⟨adb, x, hlt, rfl, hcx, hx, hkx⟩ | ⟨hlt, hkx⟩
      · have hlt' : (i : Int) < (l.length : Int) := by omega
        have hnb : i < cb := by have := HB1.out; omega
        have hx' : ¬ (16 : Int) < (x.toNat : Int) := by omega
        have hx2 := x.toNat_lt
        obtain ⟨K, hK⟩ : ∃ K : Int, K = (x.toNat : Int) := ⟨_, rfl⟩
        have hKK : K = (k : Int) := by rw [hK, hkx]
        have HKX := Lib.hid hkx
        clear HC3 hkx
        go_upto_region 9 with fail
        rw [← hK] at *
        clear hK hx hx' hlt hlt' hcx

        have HKK := Lib.hid hKK
        clear hKK
        go_wp2_with (first
          | refine DArm.wpList_load (by rfl) 126 (.tmp 29) (by with_reducible rfl) _ _ (by rfl) HLD.out ?_
          | refine DArm.wpList_alloc (by rfl) 126 (by with_reducible rfl) _ HZ.out ?_
          | refine DArm.wpList_store (by rfl) 126 (.tmp 7) (.tmp 30) (by with_reducible rfl) _ _ (by rfl) (by rfl) _ HST.out ?_)
        have g7 : Grew wi (wi.alloc (.cells (wt p).toArray 126)) := grew_new _
        have hb7 : (wi.alloc (.cells (wt p).toArray 126)).heap[wi.heap.size]? = some (.cells (wt p).toArray 126 (0, 0)) := heap_alloc_new wi _
        generalize (wi.alloc (.cells (wt p).toArray 126)) = W7 at *
        have HG7 := Lib.hid g7
        have HB7 := Lib.hid (DWrite.keepB HB.out g7)
        have HB7' := Lib.hid (DWrite.keepB HB'.out g7)
        have HCG1 : Hid (W7.cell? ⟨w.heap.size, 1, none⟩ = some (.slice A2' r.safe.length c2')) := Lib.hid (cell_of_row _ _ _ _ _ _ HB7.out)
        have HCW0 : Hid (W7.cell? ⟨wi.heap.size, 0, none⟩ = some (.int .i64 (p.1 : Int))) := Lib.hid (cell_of_row _ _ _ _ _ _ hb7)
        have HCW1 : Hid (W7.cell? ⟨wi.heap.size, 1, none⟩ = some (.string ⟨p.2.toArray⟩)) := Lib.hid (cell_of_row _ _ _ _ _ _ hb7)
        have HX7 := Lib.hid (HX.out.kept (DSmall.Kept.of_grew (D := fun k => k = w.heap.size) g7))
        obtain ⟨LS7, hLS7⟩ : ∃ LS7, settled (kept l) r.safe r.waits i = LS7 := ⟨_, rfl⟩
        have hls := settled_length (kept l) r.safe r.waits i
        have hle := settled_even (kept l) r.safe r.waits HE.out HF.out (kept_le l) i
        rw [hLS7] at hls hle HX7
        obtain ⟨x7, hx7⟩ : ∃ x7, LS7[p.1]? = some x7 := ⟨_, List.getElem?_eq_getElem (by rw [hls]; exact hp1)⟩
        have hx7l : x7.length = 128 := hle x7 (List.mem_of_getElem? hx7)
        have hnext : settled (kept l) r.safe r.waits (i + 1) = LS7.set p.1 (cutw x7 p.2 k) := by
          rw [settled_succ _ _ _ _ _ hp, hLS7, hx7, HKE.out]
          rfl
        have HNEXT := Lib.hid hnext
        have hsr := HX7.out.1
        rw [← hls] at hsr
        obtain ⟨A9, c9, e9, y1, y2, y3, y4⟩ := id hsr
        injection e9 with e91 _ e93
        subst e91 e93
        obtain ⟨ad7, rfl⟩ : ∃ ad7, A2' = some ad7 := by
          cases A2' with
          | none => have := y3 rfl; omega
          | some ad7 => exact ⟨ad7, rfl⟩
        have HCS : Hid (W7.cell? (ad7.add p.1) = some (.string ⟨x7.toArray⟩)) := Lib.hid (y4 ad7 rfl p.1 x7 hx7)
        have HSR := Lib.hid HX7.out.1
        have HLEN : Hid (LS7.length = r.safe.length) := Lib.hid hls
        have HLS : Hid (LS7.length ≤ 16384) := Lib.hid (by rw [hls]; exact HNN.out)
        have HP1 := Lib.hid hp1
        have HI1 : Hid ((p.1 : Int) < (r.safe.length : Int)) := Lib.hid (by omega)
        have HI2 : Hid (r.safe.length ≤ c2') := Lib.hid (by rw [← hls]; exact y1)
        have hk16 := HK.out
        have HW8 : Hid (IntKind.i64.wrap (8 * K) = 8 * K) := Lib.hid (IntWalk.i64_in _ (by have := HKK.out; omega))
        have HSL1 := Lib.hid (run_sl_to p.2 k K HKK.out (by omega))
        have HSL2 := Lib.hid (run_sl_from x7 k K HKK.out (by omega))
        have HADD := Lib.hid (run_str_add x7 p.2 k hx7l hp2)
        have HW0 : Hid (w.heap.size < W7.heap.size) := Lib.hid (Array.getElem?_eq_some_iff.1 HB7.out).1
        clear hls hle hx7 hx7l hnext hsr y1 y2 y3 y4 hb7 g7 hk16 HX hLS7 C2 hp1 hp2
        refine Chain.wp_chain [19, 21] (Chain.on 19 (fun ii vv yy => Cr W7 w.heap.size W7.heap.size r.safe.length (LS7.set p.1 (cutw x7 p.2 k)) A1 (some ⟨gw, 0, none⟩) r.now.length r.waits.length c1 c3 (.slice none 0 0) r.fuse r.off ii vv yy)) (by kernel_rfl) (by kernel_rfl) ((Grew.refl W7).drew) ?_
        apply Marks.Lex.exact [] _ (by kernel_rfl)
        · intro m u W hm hcl hJ _
          unfold Marks.one
          go_simp
          exact ⟨trivial, hJ.same 0 _ (by rfl), rfl⟩
        simp only [Act.put, List.setIfInBounds_toArray, List.set_cons_zero, List.set_cons_succ, Nat.zero_add]
        apply Marks.Lex.exact [] _ (by kernel_rfl)
        · intro m u W hm hcl hJ _
          have hC := hJ.first hm 19 rfl (by decide)
          have d1 := DWrite.cellB hC HCG1.out
          unfold Marks.one
          go_simp
          exact ⟨trivial, hJ.same 1 _ (by rfl), rfl⟩
        simp only [Act.put, List.setIfInBounds_toArray, List.set_cons_zero, List.set_cons_succ, Nat.reduceAdd]
        apply Marks.Lex.exact [] _ (by kernel_rfl)
        · intro m u W hm hcl hJ _
          unfold Marks.one
          go_simp
          exact ⟨trivial, hJ.same 2 _ (by rfl), rfl⟩
        simp only [Act.put, List.setIfInBounds_toArray, List.set_cons_zero, List.set_cons_succ, Nat.reduceAdd]
        apply Marks.Lex.exact [] _ (by kernel_rfl)
        · intro m u W hm hcl hJ _
          have hC := hJ.first hm 19 rfl (by decide)
          have d1 := DWrite.cellB hC HCW0.out
          unfold Marks.one
          go_simp
          exact ⟨trivial, hJ.same 3 _ (by rfl), rfl⟩
        simp only [Act.put, List.setIfInBounds_toArray, List.set_cons_zero, List.set_cons_succ, Nat.reduceAdd]
        apply Marks.Lex.exact [] _ (by kernel_rfl)
        · intro m u W hm hcl hJ _
          unfold Marks.one
          go_simp
          exact ⟨trivial, hJ.same 4 _ (by rfl), rfl⟩
        simp only [Act.put, List.setIfInBounds_toArray, List.set_cons_zero, List.set_cons_succ, Nat.reduceAdd]
        apply Marks.Lex.exact [] _ (by kernel_rfl)
        · intro m u W hm hcl hJ _
          have hC := hJ.first hm 19 rfl (by decide)
          have d1 := DWrite.cellB hC HCW1.out
          unfold Marks.one
          go_simp
          exact ⟨trivial, hJ.same 5 _ (by rfl), rfl⟩
        simp only [Act.put, List.setIfInBounds_toArray, List.set_cons_zero, List.set_cons_succ, Nat.reduceAdd]
        apply Marks.Lex.exact [] _ (by kernel_rfl)
        · intro m u W hm hcl hJ _
          unfold Marks.one
          go_simp
          exact ⟨trivial, hJ.same 6 _ (by rfl), rfl⟩
        simp only [Act.put, List.setIfInBounds_toArray, List.set_cons_zero, List.set_cons_succ, Nat.reduceAdd]
        apply Marks.Lex.exact [] _ (by kernel_rfl)
        · intro m u W hm hcl hJ _
          have d1 := HW8.out
          unfold Marks.one
          go_simp
          exact ⟨trivial, hJ.same 7 _ (by rfl), rfl⟩
        simp only [Act.put, List.setIfInBounds_toArray, List.set_cons_zero, List.set_cons_succ, Nat.reduceAdd]
        apply Marks.Lex.exact [] (.string ⟨(p.2.take (8 * k)).toArray⟩) (by kernel_rfl)
        · intro m u W hm hcl hJ _
          exact Chain.one_slice rfl 9 (.tmp 36) none (some (.tmp 38)) rfl _ _ _ rfl rfl rfl (HSL1.out W) ⟨trivial, hJ.same 8 _ (by rfl), rfl⟩
        simp only [Act.put, List.setIfInBounds_toArray, List.set_cons_zero, List.set_cons_succ, Nat.reduceAdd]
        apply Marks.Lex.exact [] _ (by kernel_rfl)
        · intro m u W hm hcl hJ _
          unfold Marks.one
          go_simp
          exact ⟨trivial, hJ.same 9 _ (by rfl), rfl⟩
        simp only [Act.put, List.setIfInBounds_toArray, List.set_cons_zero, List.set_cons_succ, Nat.reduceAdd]
        apply Marks.Lex.exact [] _ (by kernel_rfl)
        · intro m u W hm hcl hJ _
          have hC := hJ.first hm 19 rfl (by decide)
          have d1 := DWrite.cellB hC HCG1.out
          unfold Marks.one
          go_simp
          exact ⟨trivial, hJ.same 10 _ (by rfl), rfl⟩
        simp only [Act.put, List.setIfInBounds_toArray, List.set_cons_zero, List.set_cons_succ, Nat.reduceAdd]
        apply Marks.Lex.exact [] _ (by kernel_rfl)
        · intro m u W hm hcl hJ _
          unfold Marks.one
          go_simp
          exact ⟨trivial, hJ.same 11 _ (by rfl), rfl⟩
        simp only [Act.put, List.setIfInBounds_toArray, List.set_cons_zero, List.set_cons_succ, Nat.reduceAdd]
        apply Marks.Lex.exact [] _ (by kernel_rfl)
        · intro m u W hm hcl hJ _
          have hC := hJ.first hm 19 rfl (by decide)
          have d1 := DWrite.cellB hC HCW0.out
          unfold Marks.one
          go_simp
          exact ⟨trivial, hJ.same 12 _ (by rfl), rfl⟩
        simp only [Act.put, List.setIfInBounds_toArray, List.set_cons_zero, List.set_cons_succ, Nat.reduceAdd]
        apply Marks.Lex.exact [] _ (by kernel_rfl)
        · intro m u W hm hcl hJ _
          have d1 := HI1.out
          have d2 := HI2.out
          unfold Marks.one
          go_simp
          exact ⟨trivial, hJ.same 13 _ (by rfl), rfl⟩
        simp only [Act.put, List.setIfInBounds_toArray, List.set_cons_zero, List.set_cons_succ, Nat.reduceAdd]
        apply Marks.Lex.exact [] _ (by kernel_rfl)
        · intro m u W hm hcl hJ _
          have hC := hJ.first hm 19 rfl (by decide)
          have d1 := DWrite.cellB hC HCS.out
          unfold Marks.one
          go_simp
          exact ⟨trivial, hJ.same 14 _ (by rfl), rfl⟩
        simp only [Act.put, List.setIfInBounds_toArray, List.set_cons_zero, List.set_cons_succ, Nat.reduceAdd]
        apply Marks.Lex.exact [] _ (by kernel_rfl)
        · intro m u W hm hcl hJ _
          unfold Marks.one
          go_simp
          exact ⟨trivial, hJ.same 15 _ (by rfl), rfl⟩
        simp only [Act.put, List.setIfInBounds_toArray, List.set_cons_zero, List.set_cons_succ, Nat.reduceAdd]
        apply Marks.Lex.exact [] _ (by kernel_rfl)
        · intro m u W hm hcl hJ _
          have d1 := HW8.out
          unfold Marks.one
          go_simp
          exact ⟨trivial, hJ.same 16 _ (by rfl), rfl⟩
        simp only [Act.put, List.setIfInBounds_toArray, List.set_cons_zero, List.set_cons_succ, Nat.reduceAdd]
        apply Marks.Lex.exact [] (.string ⟨(x7.drop (8 * k)).toArray⟩) (by kernel_rfl)
        · intro m u W hm hcl hJ _
          exact Chain.one_slice rfl 9 (.tmp 45) (some (.tmp 47)) none rfl _ _ _ rfl rfl rfl (HSL2.out W) ⟨trivial, hJ.same 17 _ (by rfl), rfl⟩
        simp only [Act.put, List.setIfInBounds_toArray, List.set_cons_zero, List.set_cons_succ, Nat.reduceAdd]
        apply Marks.Lex.exact [] (.string ⟨(cutw x7 p.2 k).toArray⟩) (by kernel_rfl)
        · intro m u W hm hcl hJ _
          exact Chain.one_add rfl 9 (.tmp 39) (.tmp 48) rfl _ _ rfl rfl _ (HADD.out W) ⟨trivial, hJ.same 18 _ (by rfl), rfl⟩
        simp only [Act.put, List.setIfInBounds_toArray, List.set_cons_zero, List.set_cons_succ, Nat.reduceAdd]
        apply Marks.Lex.know [] (fun _ _ => True) (by kernel_rfl) (fun _ _ _ _ _ => trivial)
        · intro m u W hm hcl hJ _
          obtain ⟨hP, hput⟩ := hJ.put 0 rfl hm hcl (by decide) (by decide)
          have hC : Grew W7 W := hP
          unfold Marks.one
          go_simp
          refine Chain.come_enter ?_
          with_reducible refine (with_any' p.1 (cutw x7 p.2 k) _ LS7 W (HSR.out.grew hC) HLS.out (by have := HP1.out; have := HNN.out; omega)).mono ?_
          rintro e w' ⟨v', rfl, hown, hg⟩
          exact ⟨v', rfl, trivial, hput v' w' (fun _ => Chain.on_put ⟨hC.trans hg, own_mono (by rw [← HLEN.out]; exact hown) hC.size⟩), trivial⟩
        simp only [Act.put, List.setIfInBounds_toArray, List.set_cons_zero, List.set_cons_succ, Nat.reduceAdd]
        apply Marks.Lex.exact [] _ (by kernel_rfl)
        · intro m u W hm hcl hJ _
          unfold Marks.one
          go_simp
          exact ⟨trivial, hJ.same 20 _ (by rfl), rfl⟩
        simp only [Act.put, List.setIfInBounds_toArray, List.set_cons_zero, List.set_cons_succ, Nat.reduceAdd]
        apply Marks.Lex.exact [] (undef) (by kernel_rfl)
        · intro m u W hm hcl hJ _
          obtain ⟨hP, hput⟩ := hJ.put 1 rfl hm hcl (by decide) (by decide)
          obtain ⟨hC, hown⟩ := hP
          obtain ⟨A8, c8, e8⟩ := DBuild.own_block hown
          have hgg := DWrite.keepB HB7.out hC
          have hst := store1 46 (by kernel_rfl) 1 W _ _ hgg (.slice A8 r.safe.length c8) rfl rfl (by simp)
          refine DWrite.one_store rfl 46 (.tmp 51) (.tmp 50) rfl _ _ rfl e8 _ hst ⟨trivial, hput undef _ (fun _ => ?_), rfl⟩
          refine Chain.on_keep (by rfl) ?_
          have hk : DSmall.Kept (fun k => k = w.heap.size) W (W.setCell ⟨w.heap.size, 1, none⟩ (.slice A8 r.safe.length c8)) := DSmall.Kept.set _ _ rfl
          refine ⟨(DSmall.Kept.of_grew hC).trans hk, own_kept hown hk (fun j hj => by have := HW0.out; omega), ?_⟩
          rw [Go.heap_setCell_same _ _ _ _ _ _ hgg, e8]
          rfl
        simp only [Act.put, List.setIfInBounds_toArray, List.set_cons_zero, List.set_cons_succ, Nat.reduceAdd]
        refine Marks.Lex.done fun m u W' hm hJ _ => ?_
        have hE := hJ.done (by intro k hk; exact hm k (by simp at hk; omega))
        obtain ⟨hk8, ho8, hh8⟩ := hE
        clear hJ hm
        generalize u 19 = v19 at *
        have HG8 := Lib.hid (DAlive.grew_kept (HG.out.trans HG7.out) hk8 (fun k hk => by rw [hk]; exact Nat.le_refl _))
        have HH8' := Lib.hid ((hk8.block (w.heap.size + 1) (Array.getElem?_eq_some_iff.1 HB7'.out).1 (by omega)).trans HB7'.out)
        obtain ⟨A8, c8, e8⟩ := DBuild.own_block ho8
        subst e8
        have HH8 := Lib.hid hh8
        have hset : (LS7.set p.1 (cutw x7 p.2 k)).length = r.safe.length := by rw [List.length_set]; exact HLEN.out
        have HX8 : Hid (SRx (fun k => k = w.heap.size) W' (.slice A8 r.safe.length c8) (settled (kept l) r.safe r.waits (i + 1))) := Lib.hid ⟨by rw [HNEXT.out]; exact SR.of_own (by rw [hset]; exact ho8), fun k hk he => by
          have := (ho8.lt k hk).1
          have := HW0.out
          omega⟩
        have HX18 : Hid (∀ k, (Value.slice A8 r.safe.length c8).ownBlock = some k → ¬ k = w.heap.size + 1) := Lib.hid fun k hk he => by
          have := (ho8.lt k hk).1
          have := (Array.getElem?_eq_some_iff.1 HB7'.out).1
          omega
        have HT8 := Lib.hid (Tg.of_own ho8)
        clear hk8 ho8 hh8 hset HADD HSL2 HSL1 HCS HSR HCW1 HCW0 HCG1
        go_wp2
        go_roundg q
        case measure => omega
        case rel => exact ⟨i + 1, A8, c8, by omega, by first | rfl | simp | (simp; omega), HH8, HH8', HG8, HX8, HX18, HT8⟩

      · have hlt' : (i : Int) < (l.length : Int) := by omega
        have hx' : (16 : Int) < (x.toNat : Int) := by omega
        have hx2 := x.toNat_lt
        have HKX := Lib.hid hkx
        clear HC3 hkx
        go_upto_region 9 with fail
        obtain ⟨K, hK⟩ : ∃ K : Int, (16 : Int) = K := ⟨_, rfl⟩
        have hKK : K = (k : Int) := by rw [← hK, HKX.out]; rfl
        rw [hK]
        clear hK hx hx' hlt hlt' hcx

        have HKK := Lib.hid hKK
        clear hKK
        go_wp2_with (first
          | refine DArm.wpList_load (by rfl) 126 (.tmp 29) (by with_reducible rfl) _ _ (by rfl) HLD.out ?_
          | refine DArm.wpList_alloc (by rfl) 126 (by with_reducible rfl) _ HZ.out ?_
          | refine DArm.wpList_store (by rfl) 126 (.tmp 7) (.tmp 30) (by with_reducible rfl) _ _ (by rfl) (by rfl) _ HST.out ?_)
        have g7 : Grew wi (wi.alloc (.cells (wt p).toArray 126)) := grew_new _
        have hb7 : (wi.alloc (.cells (wt p).toArray 126)).heap[wi.heap.size]? = some (.cells (wt p).toArray 126 (0, 0)) := heap_alloc_new wi _
        generalize (wi.alloc (.cells (wt p).toArray 126)) = W7 at *
        have HG7 := Lib.hid g7
        have HB7 := Lib.hid (DWrite.keepB HB.out g7)
        have HB7' := Lib.hid (DWrite.keepB HB'.out g7)
        have HCG1 : Hid (W7.cell? ⟨w.heap.size, 1, none⟩ = some (.slice A2' r.safe.length c2')) := Lib.hid (cell_of_row _ _ _ _ _ _ HB7.out)
        have HCW0 : Hid (W7.cell? ⟨wi.heap.size, 0, none⟩ = some (.int .i64 (p.1 : Int))) := Lib.hid (cell_of_row _ _ _ _ _ _ hb7)
        have HCW1 : Hid (W7.cell? ⟨wi.heap.size, 1, none⟩ = some (.string ⟨p.2.toArray⟩)) := Lib.hid (cell_of_row _ _ _ _ _ _ hb7)
        have HX7 := Lib.hid (HX.out.kept (DSmall.Kept.of_grew (D := fun k => k = w.heap.size) g7))
        obtain ⟨LS7, hLS7⟩ : ∃ LS7, settled (kept l) r.safe r.waits i = LS7 := ⟨_, rfl⟩
        have hls := settled_length (kept l) r.safe r.waits i
        have hle := settled_even (kept l) r.safe r.waits HE.out HF.out (kept_le l) i
        rw [hLS7] at hls hle HX7
        obtain ⟨x7, hx7⟩ : ∃ x7, LS7[p.1]? = some x7 := ⟨_, List.getElem?_eq_getElem (by rw [hls]; exact hp1)⟩
        have hx7l : x7.length = 128 := hle x7 (List.mem_of_getElem? hx7)
        have hnext : settled (kept l) r.safe r.waits (i + 1) = LS7.set p.1 (cutw x7 p.2 k) := by
          rw [settled_succ _ _ _ _ _ hp, hLS7, hx7, HKE.out]
          rfl
        have HNEXT := Lib.hid hnext
        have hsr := HX7.out.1
        rw [← hls] at hsr
        obtain ⟨A9, c9, e9, y1, y2, y3, y4⟩ := id hsr
        injection e9 with e91 _ e93
        subst e91 e93
        obtain ⟨ad7, rfl⟩ : ∃ ad7, A2' = some ad7 := by
          cases A2' with
          | none => have := y3 rfl; omega
          | some ad7 => exact ⟨ad7, rfl⟩
        have HCS : Hid (W7.cell? (ad7.add p.1) = some (.string ⟨x7.toArray⟩)) := Lib.hid (y4 ad7 rfl p.1 x7 hx7)
        have HSR := Lib.hid HX7.out.1
        have HLEN : Hid (LS7.length = r.safe.length) := Lib.hid hls
        have HLS : Hid (LS7.length ≤ 16384) := Lib.hid (by rw [hls]; exact HNN.out)
        have HP1 := Lib.hid hp1
        have HI1 : Hid ((p.1 : Int) < (r.safe.length : Int)) := Lib.hid (by omega)
        have HI2 : Hid (r.safe.length ≤ c2') := Lib.hid (by rw [← hls]; exact y1)
        have hk16 := HK.out
        have HW8 : Hid (IntKind.i64.wrap (8 * K) = 8 * K) := Lib.hid (IntWalk.i64_in _ (by have := HKK.out; omega))
        have HSL1 := Lib.hid (run_sl_to p.2 k K HKK.out (by omega))
        have HSL2 := Lib.hid (run_sl_from x7 k K HKK.out (by omega))
        have HADD := Lib.hid (run_str_add x7 p.2 k hx7l hp2)
        have HW0 : Hid (w.heap.size < W7.heap.size) := Lib.hid (Array.getElem?_eq_some_iff.1 HB7.out).1
        clear hls hle hx7 hx7l hnext hsr y1 y2 y3 y4 hb7 g7 hk16 HX hLS7 C2 hp1 hp2
        refine Chain.wp_chain [19, 21] (Chain.on 19 (fun ii vv yy => Cr W7 w.heap.size W7.heap.size r.safe.length (LS7.set p.1 (cutw x7 p.2 k)) A1 (some ⟨gw, 0, none⟩) r.now.length r.waits.length c1 c3 (.slice none 0 0) r.fuse r.off ii vv yy)) (by kernel_rfl) (by kernel_rfl) ((Grew.refl W7).drew) ?_
        apply Marks.Lex.exact [] _ (by kernel_rfl)
        · intro m u W hm hcl hJ _
          unfold Marks.one
          go_simp
          exact ⟨trivial, hJ.same 0 _ (by rfl), rfl⟩
        simp only [Act.put, List.setIfInBounds_toArray, List.set_cons_zero, List.set_cons_succ, Nat.zero_add]
        apply Marks.Lex.exact [] _ (by kernel_rfl)
        · intro m u W hm hcl hJ _
          have hC := hJ.first hm 19 rfl (by decide)
          have d1 := DWrite.cellB hC HCG1.out
          unfold Marks.one
          go_simp
          exact ⟨trivial, hJ.same 1 _ (by rfl), rfl⟩
        simp only [Act.put, List.setIfInBounds_toArray, List.set_cons_zero, List.set_cons_succ, Nat.reduceAdd]
        apply Marks.Lex.exact [] _ (by kernel_rfl)
        · intro m u W hm hcl hJ _
          unfold Marks.one
          go_simp
          exact ⟨trivial, hJ.same 2 _ (by rfl), rfl⟩
        simp only [Act.put, List.setIfInBounds_toArray, List.set_cons_zero, List.set_cons_succ, Nat.reduceAdd]
        apply Marks.Lex.exact [] _ (by kernel_rfl)
        · intro m u W hm hcl hJ _
          have hC := hJ.first hm 19 rfl (by decide)
          have d1 := DWrite.cellB hC HCW0.out
          unfold Marks.one
          go_simp
          exact ⟨trivial, hJ.same 3 _ (by rfl), rfl⟩
        simp only [Act.put, List.setIfInBounds_toArray, List.set_cons_zero, List.set_cons_succ, Nat.reduceAdd]
        apply Marks.Lex.exact [] _ (by kernel_rfl)
        · intro m u W hm hcl hJ _
          unfold Marks.one
          go_simp
          exact ⟨trivial, hJ.same 4 _ (by rfl), rfl⟩
        simp only [Act.put, List.setIfInBounds_toArray, List.set_cons_zero, List.set_cons_succ, Nat.reduceAdd]
        apply Marks.Lex.exact [] _ (by kernel_rfl)
        · intro m u W hm hcl hJ _
          have hC := hJ.first hm 19 rfl (by decide)
          have d1 := DWrite.cellB hC HCW1.out
          unfold Marks.one
          go_simp
          exact ⟨trivial, hJ.same 5 _ (by rfl), rfl⟩
        simp only [Act.put, List.setIfInBounds_toArray, List.set_cons_zero, List.set_cons_succ, Nat.reduceAdd]
        apply Marks.Lex.exact [] _ (by kernel_rfl)
        · intro m u W hm hcl hJ _
          unfold Marks.one
          go_simp
          exact ⟨trivial, hJ.same 6 _ (by rfl), rfl⟩
        simp only [Act.put, List.setIfInBounds_toArray, List.set_cons_zero, List.set_cons_succ, Nat.reduceAdd]
        apply Marks.Lex.exact [] _ (by kernel_rfl)
        · intro m u W hm hcl hJ _
          have d1 := HW8.out
          unfold Marks.one
          go_simp
          exact ⟨trivial, hJ.same 7 _ (by rfl), rfl⟩
        simp only [Act.put, List.setIfInBounds_toArray, List.set_cons_zero, List.set_cons_succ, Nat.reduceAdd]
        apply Marks.Lex.exact [] (.string ⟨(p.2.take (8 * k)).toArray⟩) (by kernel_rfl)
        · intro m u W hm hcl hJ _
          exact Chain.one_slice rfl 9 (.tmp 36) none (some (.tmp 38)) rfl _ _ _ rfl rfl rfl (HSL1.out W) ⟨trivial, hJ.same 8 _ (by rfl), rfl⟩
        simp only [Act.put, List.setIfInBounds_toArray, List.set_cons_zero, List.set_cons_succ, Nat.reduceAdd]
        apply Marks.Lex.exact [] _ (by kernel_rfl)
        · intro m u W hm hcl hJ _
          unfold Marks.one
          go_simp
          exact ⟨trivial, hJ.same 9 _ (by rfl), rfl⟩
        simp only [Act.put, List.setIfInBounds_toArray, List.set_cons_zero, List.set_cons_succ, Nat.reduceAdd]
        apply Marks.Lex.exact [] _ (by kernel_rfl)
        · intro m u W hm hcl hJ _
          have hC := hJ.first hm 19 rfl (by decide)
          have d1 := DWrite.cellB hC HCG1.out
          unfold Marks.one
          go_simp
          exact ⟨trivial, hJ.same 10 _ (by rfl), rfl⟩
        simp only [Act.put, List.setIfInBounds_toArray, List.set_cons_zero, List.set_cons_succ, Nat.reduceAdd]
        apply Marks.Lex.exact [] _ (by kernel_rfl)
        · intro m u W hm hcl hJ _
          unfold Marks.one
          go_simp
          exact ⟨trivial, hJ.same 11 _ (by rfl), rfl⟩
        simp only [Act.put, List.setIfInBounds_toArray, List.set_cons_zero, List.set_cons_succ, Nat.reduceAdd]
        apply Marks.Lex.exact [] _ (by kernel_rfl)
        · intro m u W hm hcl hJ _
          have hC := hJ.first hm 19 rfl (by decide)
          have d1 := DWrite.cellB hC HCW0.out
          unfold Marks.one
          go_simp
          exact ⟨trivial, hJ.same 12 _ (by rfl), rfl⟩
        simp only [Act.put, List.setIfInBounds_toArray, List.set_cons_zero, List.set_cons_succ, Nat.reduceAdd]
        apply Marks.Lex.exact [] _ (by kernel_rfl)
        · intro m u W hm hcl hJ _
          have d1 := HI1.out
          have d2 := HI2.out
          unfold Marks.one
          go_simp
          exact ⟨trivial, hJ.same 13 _ (by rfl), rfl⟩
        simp only [Act.put, List.setIfInBounds_toArray, List.set_cons_zero, List.set_cons_succ, Nat.reduceAdd]
        apply Marks.Lex.exact [] _ (by kernel_rfl)
        · intro m u W hm hcl hJ _
          have hC := hJ.first hm 19 rfl (by decide)
          have d1 := DWrite.cellB hC HCS.out
          unfold Marks.one
          go_simp
          exact ⟨trivial, hJ.same 14 _ (by rfl), rfl⟩
        simp only [Act.put, List.setIfInBounds_toArray, List.set_cons_zero, List.set_cons_succ, Nat.reduceAdd]
        apply Marks.Lex.exact [] _ (by kernel_rfl)
        · intro m u W hm hcl hJ _
          unfold Marks.one
          go_simp
          exact ⟨trivial, hJ.same 15 _ (by rfl), rfl⟩
        simp only [Act.put, List.setIfInBounds_toArray, List.set_cons_zero, List.set_cons_succ, Nat.reduceAdd]
        apply Marks.Lex.exact [] _ (by kernel_rfl)
        · intro m u W hm hcl hJ _
          have d1 := HW8.out
          unfold Marks.one
          go_simp
          exact ⟨trivial, hJ.same 16 _ (by rfl), rfl⟩
        simp only [Act.put, List.setIfInBounds_toArray, List.set_cons_zero, List.set_cons_succ, Nat.reduceAdd]
        apply Marks.Lex.exact [] (.string ⟨(x7.drop (8 * k)).toArray⟩) (by kernel_rfl)
        · intro m u W hm hcl hJ _
          exact Chain.one_slice rfl 9 (.tmp 45) (some (.tmp 47)) none rfl _ _ _ rfl rfl rfl (HSL2.out W) ⟨trivial, hJ.same 17 _ (by rfl), rfl⟩
        simp only [Act.put, List.setIfInBounds_toArray, List.set_cons_zero, List.set_cons_succ, Nat.reduceAdd]
        apply Marks.Lex.exact [] (.string ⟨(cutw x7 p.2 k).toArray⟩) (by kernel_rfl)
        · intro m u W hm hcl hJ _
          exact Chain.one_add rfl 9 (.tmp 39) (.tmp 48) rfl _ _ rfl rfl _ (HADD.out W) ⟨trivial, hJ.same 18 _ (by rfl), rfl⟩
        simp only [Act.put, List.setIfInBounds_toArray, List.set_cons_zero, List.set_cons_succ, Nat.reduceAdd]
        apply Marks.Lex.know [] (fun _ _ => True) (by kernel_rfl) (fun _ _ _ _ _ => trivial)
        · intro m u W hm hcl hJ _
          obtain ⟨hP, hput⟩ := hJ.put 0 rfl hm hcl (by decide) (by decide)
          have hC : Grew W7 W := hP
          unfold Marks.one
          go_simp
          refine Chain.come_enter ?_
          with_reducible refine (with_any' p.1 (cutw x7 p.2 k) _ LS7 W (HSR.out.grew hC) HLS.out (by have := HP1.out; have := HNN.out; omega)).mono ?_
          rintro e w' ⟨v', rfl, hown, hg⟩
          exact ⟨v', rfl, trivial, hput v' w' (fun _ => Chain.on_put ⟨hC.trans hg, own_mono (by rw [← HLEN.out]; exact hown) hC.size⟩), trivial⟩
        simp only [Act.put, List.setIfInBounds_toArray, List.set_cons_zero, List.set_cons_succ, Nat.reduceAdd]
        apply Marks.Lex.exact [] _ (by kernel_rfl)
        · intro m u W hm hcl hJ _
          unfold Marks.one
          go_simp
          exact ⟨trivial, hJ.same 20 _ (by rfl), rfl⟩
        simp only [Act.put, List.setIfInBounds_toArray, List.set_cons_zero, List.set_cons_succ, Nat.reduceAdd]
        apply Marks.Lex.exact [] (undef) (by kernel_rfl)
        · intro m u W hm hcl hJ _
          obtain ⟨hP, hput⟩ := hJ.put 1 rfl hm hcl (by decide) (by decide)
          obtain ⟨hC, hown⟩ := hP
          obtain ⟨A8, c8, e8⟩ := DBuild.own_block hown
          have hgg := DWrite.keepB HB7.out hC
          have hst := store1 46 (by kernel_rfl) 1 W _ _ hgg (.slice A8 r.safe.length c8) rfl rfl (by simp)
          refine DWrite.one_store rfl 46 (.tmp 51) (.tmp 50) rfl _ _ rfl e8 _ hst ⟨trivial, hput undef _ (fun _ => ?_), rfl⟩
          refine Chain.on_keep (by rfl) ?_
          have hk : DSmall.Kept (fun k => k = w.heap.size) W (W.setCell ⟨w.heap.size, 1, none⟩ (.slice A8 r.safe.length c8)) := DSmall.Kept.set _ _ rfl
          refine ⟨(DSmall.Kept.of_grew hC).trans hk, own_kept hown hk (fun j hj => by have := HW0.out; omega), ?_⟩
          rw [Go.heap_setCell_same _ _ _ _ _ _ hgg, e8]
          rfl
        simp only [Act.put, List.setIfInBounds_toArray, List.set_cons_zero, List.set_cons_succ, Nat.reduceAdd]
        refine Marks.Lex.done fun m u W' hm hJ _ => ?_
        have hE := hJ.done (by intro k hk; exact hm k (by simp at hk; omega))
        obtain ⟨hk8, ho8, hh8⟩ := hE
        clear hJ hm
        generalize u 19 = v19 at *
        have HG8 := Lib.hid (DAlive.grew_kept (HG.out.trans HG7.out) hk8 (fun k hk => by rw [hk]; exact Nat.le_refl _))
        have HH8' := Lib.hid ((hk8.block (w.heap.size + 1) (Array.getElem?_eq_some_iff.1 HB7'.out).1 (by omega)).trans HB7'.out)
        obtain ⟨A8, c8, e8⟩ := DBuild.own_block ho8
        subst e8
        have HH8 := Lib.hid hh8
        have hset : (LS7.set p.1 (cutw x7 p.2 k)).length = r.safe.length := by rw [List.length_set]; exact HLEN.out
        have HX8 : Hid (SRx (fun k => k = w.heap.size) W' (.slice A8 r.safe.length c8) (settled (kept l) r.safe r.waits (i + 1))) := Lib.hid ⟨by rw [HNEXT.out]; exact SR.of_own (by rw [hset]; exact ho8), fun k hk he => by
          have := (ho8.lt k hk).1
          have := HW0.out
          omega⟩
        have HX18 : Hid (∀ k, (Value.slice A8 r.safe.length c8).ownBlock = some k → ¬ k = w.heap.size + 1) := Lib.hid fun k hk he => by
          have := (ho8.lt k hk).1
          have := (Array.getElem?_eq_some_iff.1 HB7'.out).1
          omega
        have HT8 := Lib.hid (Tg.of_own ho8)
        clear hk8 ho8 hh8 hset HADD HSL2 HSL1 HCS HSR HCW1 HCW0 HCG1
        go_wp2
        go_roundg q
        case measure => omega
        case rel => exact ⟨i + 1, A8, c8, by omega, by first | rfl | simp | (simp; omega), HH8, HH8', HG8, HX8, HX18, HT8⟩

      · have hlt' : ¬ (i : Int) < (l.length : Int) := by omega
        have HKX := Lib.hid hkx
        clear HC3 hkx
        go_upto_region 9 with fail
        obtain ⟨K, hK⟩ : ∃ K : Int, (0 : Int) = K := ⟨_, rfl⟩
        have hKK : K = (k : Int) := by rw [← hK, HKX.out]; rfl
        rw [hK]
        clear hK hlt hlt'

        have HKK := Lib.hid hKK
        clear hKK
        go_wp2_with (first
          | refine DArm.wpList_load (by rfl) 126 (.tmp 29) (by with_reducible rfl) _ _ (by rfl) HLD.out ?_
          | refine DArm.wpList_alloc (by rfl) 126 (by with_reducible rfl) _ HZ.out ?_
          | refine DArm.wpList_store (by rfl) 126 (.tmp 7) (.tmp 30) (by with_reducible rfl) _ _ (by rfl) (by rfl) _ HST.out ?_)
        have g7 : Grew wi (wi.alloc (.cells (wt p).toArray 126)) := grew_new _
        have hb7 : (wi.alloc (.cells (wt p).toArray 126)).heap[wi.heap.size]? = some (.cells (wt p).toArray 126 (0, 0)) := heap_alloc_new wi _
        generalize (wi.alloc (.cells (wt p).toArray 126)) = W7 at *
        have HG7 := Lib.hid g7
        have HB7 := Lib.hid (DWrite.keepB HB.out g7)
        have HB7' := Lib.hid (DWrite.keepB HB'.out g7)
        have HCG1 : Hid (W7.cell? ⟨w.heap.size, 1, none⟩ = some (.slice A2' r.safe.length c2')) := Lib.hid (cell_of_row _ _ _ _ _ _ HB7.out)
        have HCW0 : Hid (W7.cell? ⟨wi.heap.size, 0, none⟩ = some (.int .i64 (p.1 : Int))) := Lib.hid (cell_of_row _ _ _ _ _ _ hb7)
        have HCW1 : Hid (W7.cell? ⟨wi.heap.size, 1, none⟩ = some (.string ⟨p.2.toArray⟩)) := Lib.hid (cell_of_row _ _ _ _ _ _ hb7)
        have HX7 := Lib.hid (HX.out.kept (DSmall.Kept.of_grew (D := fun k => k = w.heap.size) g7))
        obtain ⟨LS7, hLS7⟩ : ∃ LS7, settled (kept l) r.safe r.waits i = LS7 := ⟨_, rfl⟩
        have hls := settled_length (kept l) r.safe r.waits i
        have hle := settled_even (kept l) r.safe r.waits HE.out HF.out (kept_le l) i
        rw [hLS7] at hls hle HX7
        obtain ⟨x7, hx7⟩ : ∃ x7, LS7[p.1]? = some x7 := ⟨_, List.getElem?_eq_getElem (by rw [hls]; exact hp1)⟩
        have hx7l : x7.length = 128 := hle x7 (List.mem_of_getElem? hx7)
        have hnext : settled (kept l) r.safe r.waits (i + 1) = LS7.set p.1 (cutw x7 p.2 k) := by
          rw [settled_succ _ _ _ _ _ hp, hLS7, hx7, HKE.out]
          rfl
        have HNEXT := Lib.hid hnext
        have hsr := HX7.out.1
        rw [← hls] at hsr
        obtain ⟨A9, c9, e9, y1, y2, y3, y4⟩ := id hsr
        injection e9 with e91 _ e93
        subst e91 e93
        obtain ⟨ad7, rfl⟩ : ∃ ad7, A2' = some ad7 := by
          cases A2' with
          | none => have := y3 rfl; omega
          | some ad7 => exact ⟨ad7, rfl⟩
        have HCS : Hid (W7.cell? (ad7.add p.1) = some (.string ⟨x7.toArray⟩)) := Lib.hid (y4 ad7 rfl p.1 x7 hx7)
        have HSR := Lib.hid HX7.out.1
        have HLEN : Hid (LS7.length = r.safe.length) := Lib.hid hls
        have HLS : Hid (LS7.length ≤ 16384) := Lib.hid (by rw [hls]; exact HNN.out)
        have HP1 := Lib.hid hp1
        have HI1 : Hid ((p.1 : Int) < (r.safe.length : Int)) := Lib.hid (by omega)
        have HI2 : Hid (r.safe.length ≤ c2') := Lib.hid (by rw [← hls]; exact y1)
        have hk16 := HK.out
        have HW8 : Hid (IntKind.i64.wrap (8 * K) = 8 * K) := Lib.hid (IntWalk.i64_in _ (by have := HKK.out; omega))
        have HSL1 := Lib.hid (run_sl_to p.2 k K HKK.out (by omega))
        have HSL2 := Lib.hid (run_sl_from x7 k K HKK.out (by omega))
        have HADD := Lib.hid (run_str_add x7 p.2 k hx7l hp2)
        have HW0 : Hid (w.heap.size < W7.heap.size) := Lib.hid (Array.getElem?_eq_some_iff.1 HB7.out).1
        clear hls hle hx7 hx7l hnext hsr y1 y2 y3 y4 hb7 g7 hk16 HX hLS7 C2 hp1 hp2
        refine Chain.wp_chain [19, 21] (Chain.on 19 (fun ii vv yy => Cr W7 w.heap.size W7.heap.size r.safe.length (LS7.set p.1 (cutw x7 p.2 k)) A1 (some ⟨gw, 0, none⟩) r.now.length r.waits.length c1 c3 (.slice none 0 0) r.fuse r.off ii vv yy)) (by kernel_rfl) (by kernel_rfl) ((Grew.refl W7).drew) ?_
        apply Marks.Lex.exact [] _ (by kernel_rfl)
        · intro m u W hm hcl hJ _
          unfold Marks.one
          go_simp
          exact ⟨trivial, hJ.same 0 _ (by rfl), rfl⟩
        simp only [Act.put, List.setIfInBounds_toArray, List.set_cons_zero, List.set_cons_succ, Nat.zero_add]
        apply Marks.Lex.exact [] _ (by kernel_rfl)
        · intro m u W hm hcl hJ _
          have hC := hJ.first hm 19 rfl (by decide)
          have d1 := DWrite.cellB hC HCG1.out
          unfold Marks.one
          go_simp
          exact ⟨trivial, hJ.same 1 _ (by rfl), rfl⟩
        simp only [Act.put, List.setIfInBounds_toArray, List.set_cons_zero, List.set_cons_succ, Nat.reduceAdd]
        apply Marks.Lex.exact [] _ (by kernel_rfl)
        · intro m u W hm hcl hJ _
          unfold Marks.one
          go_simp
          exact ⟨trivial, hJ.same 2 _ (by rfl), rfl⟩
        simp only [Act.put, List.setIfInBounds_toArray, List.set_cons_zero, List.set_cons_succ, Nat.reduceAdd]
        apply Marks.Lex.exact [] _ (by kernel_rfl)
        · intro m u W hm hcl hJ _
          have hC := hJ.first hm 19 rfl (by decide)
          have d1 := DWrite.cellB hC HCW0.out
          unfold Marks.one
          go_simp
          exact ⟨trivial, hJ.same 3 _ (by rfl), rfl⟩
        simp only [Act.put, List.setIfInBounds_toArray, List.set_cons_zero, List.set_cons_succ, Nat.reduceAdd]
        apply Marks.Lex.exact [] _ (by kernel_rfl)
        · intro m u W hm hcl hJ _
          unfold Marks.one
          go_simp
          exact ⟨trivial, hJ.same 4 _ (by rfl), rfl⟩
        simp only [Act.put, List.setIfInBounds_toArray, List.set_cons_zero, List.set_cons_succ, Nat.reduceAdd]
        apply Marks.Lex.exact [] _ (by kernel_rfl)
        · intro m u W hm hcl hJ _
          have hC := hJ.first hm 19 rfl (by decide)
          have d1 := DWrite.cellB hC HCW1.out
          unfold Marks.one
          go_simp
          exact ⟨trivial, hJ.same 5 _ (by rfl), rfl⟩
        simp only [Act.put, List.setIfInBounds_toArray, List.set_cons_zero, List.set_cons_succ, Nat.reduceAdd]
        apply Marks.Lex.exact [] _ (by kernel_rfl)
        · intro m u W hm hcl hJ _
          unfold Marks.one
          go_simp
          exact ⟨trivial, hJ.same 6 _ (by rfl), rfl⟩
        simp only [Act.put, List.setIfInBounds_toArray, List.set_cons_zero, List.set_cons_succ, Nat.reduceAdd]
        apply Marks.Lex.exact [] _ (by kernel_rfl)
        · intro m u W hm hcl hJ _
          have d1 := HW8.out
          unfold Marks.one
          go_simp
          exact ⟨trivial, hJ.same 7 _ (by rfl), rfl⟩
        simp only [Act.put, List.setIfInBounds_toArray, List.set_cons_zero, List.set_cons_succ, Nat.reduceAdd]
        apply Marks.Lex.exact [] (.string ⟨(p.2.take (8 * k)).toArray⟩) (by kernel_rfl)
        · intro m u W hm hcl hJ _
          exact Chain.one_slice rfl 9 (.tmp 36) none (some (.tmp 38)) rfl _ _ _ rfl rfl rfl (HSL1.out W) ⟨trivial, hJ.same 8 _ (by rfl), rfl⟩
        simp only [Act.put, List.setIfInBounds_toArray, List.set_cons_zero, List.set_cons_succ, Nat.reduceAdd]
        apply Marks.Lex.exact [] _ (by kernel_rfl)
        · intro m u W hm hcl hJ _
          unfold Marks.one
          go_simp
          exact ⟨trivial, hJ.same 9 _ (by rfl), rfl⟩
        simp only [Act.put, List.setIfInBounds_toArray, List.set_cons_zero, List.set_cons_succ, Nat.reduceAdd]
        apply Marks.Lex.exact [] _ (by kernel_rfl)
        · intro m u W hm hcl hJ _
          have hC := hJ.first hm 19 rfl (by decide)
          have d1 := DWrite.cellB hC HCG1.out
          unfold Marks.one
          go_simp
          exact ⟨trivial, hJ.same 10 _ (by rfl), rfl⟩
        simp only [Act.put, List.setIfInBounds_toArray, List.set_cons_zero, List.set_cons_succ, Nat.reduceAdd]
        apply Marks.Lex.exact [] _ (by kernel_rfl)
        · intro m u W hm hcl hJ _
          unfold Marks.one
          go_simp
          exact ⟨trivial, hJ.same 11 _ (by rfl), rfl⟩
        simp only [Act.put, List.setIfInBounds_toArray, List.set_cons_zero, List.set_cons_succ, Nat.reduceAdd]
        apply Marks.Lex.exact [] _ (by kernel_rfl)
        · intro m u W hm hcl hJ _
          have hC := hJ.first hm 19 rfl (by decide)
          have d1 := DWrite.cellB hC HCW0.out
          unfold Marks.one
          go_simp
          exact ⟨trivial, hJ.same 12 _ (by rfl), rfl⟩
        simp only [Act.put, List.setIfInBounds_toArray, List.set_cons_zero, List.set_cons_succ, Nat.reduceAdd]
        apply Marks.Lex.exact [] _ (by kernel_rfl)
        · intro m u W hm hcl hJ _
          have d1 := HI1.out
          have d2 := HI2.out
          unfold Marks.one
          go_simp
          exact ⟨trivial, hJ.same 13 _ (by rfl), rfl⟩
        simp only [Act.put, List.setIfInBounds_toArray, List.set_cons_zero, List.set_cons_succ, Nat.reduceAdd]
        apply Marks.Lex.exact [] _ (by kernel_rfl)
        · intro m u W hm hcl hJ _
          have hC := hJ.first hm 19 rfl (by decide)
          have d1 := DWrite.cellB hC HCS.out
          unfold Marks.one
          go_simp
          exact ⟨trivial, hJ.same 14 _ (by rfl), rfl⟩
        simp only [Act.put, List.setIfInBounds_toArray, List.set_cons_zero, List.set_cons_succ, Nat.reduceAdd]
        apply Marks.Lex.exact [] _ (by kernel_rfl)
        · intro m u W hm hcl hJ _
          unfold Marks.one
          go_simp
          exact ⟨trivial, hJ.same 15 _ (by rfl), rfl⟩
        simp only [Act.put, List.setIfInBounds_toArray, List.set_cons_zero, List.set_cons_succ, Nat.reduceAdd]
        apply Marks.Lex.exact [] _ (by kernel_rfl)
        · intro m u W hm hcl hJ _
          have d1 := HW8.out
          unfold Marks.one
          go_simp
          exact ⟨trivial, hJ.same 16 _ (by rfl), rfl⟩
        simp only [Act.put, List.setIfInBounds_toArray, List.set_cons_zero, List.set_cons_succ, Nat.reduceAdd]
        apply Marks.Lex.exact [] (.string ⟨(x7.drop (8 * k)).toArray⟩) (by kernel_rfl)
        · intro m u W hm hcl hJ _
          exact Chain.one_slice rfl 9 (.tmp 45) (some (.tmp 47)) none rfl _ _ _ rfl rfl rfl (HSL2.out W) ⟨trivial, hJ.same 17 _ (by rfl), rfl⟩
        simp only [Act.put, List.setIfInBounds_toArray, List.set_cons_zero, List.set_cons_succ, Nat.reduceAdd]
        apply Marks.Lex.exact [] (.string ⟨(cutw x7 p.2 k).toArray⟩) (by kernel_rfl)
        · intro m u W hm hcl hJ _
          exact Chain.one_add rfl 9 (.tmp 39) (.tmp 48) rfl _ _ rfl rfl _ (HADD.out W) ⟨trivial, hJ.same 18 _ (by rfl), rfl⟩
        simp only [Act.put, List.setIfInBounds_toArray, List.set_cons_zero, List.set_cons_succ, Nat.reduceAdd]
        apply Marks.Lex.know [] (fun _ _ => True) (by kernel_rfl) (fun _ _ _ _ _ => trivial)
        · intro m u W hm hcl hJ _
          obtain ⟨hP, hput⟩ := hJ.put 0 rfl hm hcl (by decide) (by decide)
          have hC : Grew W7 W := hP
          unfold Marks.one
          go_simp
          refine Chain.come_enter ?_
          with_reducible refine (with_any' p.1 (cutw x7 p.2 k) _ LS7 W (HSR.out.grew hC) HLS.out (by have := HP1.out; have := HNN.out; omega)).mono ?_
          rintro e w' ⟨v', rfl, hown, hg⟩
          exact ⟨v', rfl, trivial, hput v' w' (fun _ => Chain.on_put ⟨hC.trans hg, own_mono (by rw [← HLEN.out]; exact hown) hC.size⟩), trivial⟩
        simp only [Act.put, List.setIfInBounds_toArray, List.set_cons_zero, List.set_cons_succ, Nat.reduceAdd]
        apply Marks.Lex.exact [] _ (by kernel_rfl)
        · intro m u W hm hcl hJ _
          unfold Marks.one
          go_simp
          exact ⟨trivial, hJ.same 20 _ (by rfl), rfl⟩
        simp only [Act.put, List.setIfInBounds_toArray, List.set_cons_zero, List.set_cons_succ, Nat.reduceAdd]
        apply Marks.Lex.exact [] (undef) (by kernel_rfl)
        · intro m u W hm hcl hJ _
          obtain ⟨hP, hput⟩ := hJ.put 1 rfl hm hcl (by decide) (by decide)
          obtain ⟨hC, hown⟩ := hP
          obtain ⟨A8, c8, e8⟩ := DBuild.own_block hown
          have hgg := DWrite.keepB HB7.out hC
          have hst := store1 46 (by kernel_rfl) 1 W _ _ hgg (.slice A8 r.safe.length c8) rfl rfl (by simp)
          refine DWrite.one_store rfl 46 (.tmp 51) (.tmp 50) rfl _ _ rfl e8 _ hst ⟨trivial, hput undef _ (fun _ => ?_), rfl⟩
          refine Chain.on_keep (by rfl) ?_
          have hk : DSmall.Kept (fun k => k = w.heap.size) W (W.setCell ⟨w.heap.size, 1, none⟩ (.slice A8 r.safe.length c8)) := DSmall.Kept.set _ _ rfl
          refine ⟨(DSmall.Kept.of_grew hC).trans hk, own_kept hown hk (fun j hj => by have := HW0.out; omega), ?_⟩
          rw [Go.heap_setCell_same _ _ _ _ _ _ hgg, e8]
          rfl
        simp only [Act.put, List.setIfInBounds_toArray, List.set_cons_zero, List.set_cons_succ, Nat.reduceAdd]
        refine Marks.Lex.done fun m u W' hm hJ _ => ?_
        have hE := hJ.done (by intro k hk; exact hm k (by simp at hk; omega))
        obtain ⟨hk8, ho8, hh8⟩ := hE
        clear hJ hm
        generalize u 19 = v19 at *
        have HG8 := Lib.hid (DAlive.grew_kept (HG.out.trans HG7.out) hk8 (fun k hk => by rw [hk]; exact Nat.le_refl _))
        have HH8' := Lib.hid ((hk8.block (w.heap.size + 1) (Array.getElem?_eq_some_iff.1 HB7'.out).1 (by omega)).trans HB7'.out)
        obtain ⟨A8, c8, e8⟩ := DBuild.own_block ho8
        subst e8
        have HH8 := Lib.hid hh8
        have hset : (LS7.set p.1 (cutw x7 p.2 k)).length = r.safe.length := by rw [List.length_set]; exact HLEN.out
        have HX8 : Hid (SRx (fun k => k = w.heap.size) W' (.slice A8 r.safe.length c8) (settled (kept l) r.safe r.waits (i + 1))) := Lib.hid ⟨by rw [HNEXT.out]; exact SR.of_own (by rw [hset]; exact ho8), fun k hk he => by
          have := (ho8.lt k hk).1
          have := HW0.out
          omega⟩
        have HX18 : Hid (∀ k, (Value.slice A8 r.safe.length c8).ownBlock = some k → ¬ k = w.heap.size + 1) := Lib.hid fun k hk he => by
          have := (ho8.lt k hk).1
          have := (Array.getElem?_eq_some_iff.1 HB7'.out).1
          omega
        have HT8 := Lib.hid (Tg.of_own ho8)
        clear hk8 ho8 hh8 hset HADD HSL2 HSL1 HCS HSR HCW1 HCW0 HCG1
        go_wp2
        go_roundg q
        case measure => omega
        case rel => exact ⟨i + 1, A8, c8, by omega, by first | rfl | simp | (simp; omega), HH8, HH8', HG8, HX8, HX18, HT8⟩
    | zero =>
      obtain rfl : i = r.waits.length := by omega
      have hil : ¬ (r.waits.length : Int) < (r.waits.length : Int) := by omega
      have C1 : wi.cell? ⟨w.heap.size, 1, none⟩ = some (.slice A2' r.safe.length c2') := cell_of_row _ _ _ _ _ _ HB.out
      have S1 := store1 46 (by kernel_rfl) 0 wi _ _ HB.out (.slice A2' r.safe.length c2') rfl rfl (by simp)
      have R1 := Go.heap_setCell_same wi w.heap.size 0 _ 49 (.slice A2' r.safe.length c2') HB.out
      have K1 : DSmall.Kept (fun k => k = w.heap.size) wi (wi.setCell ⟨w.heap.size, 0, none⟩ (.slice A2' r.safe.length c2')) := DSmall.Kept.set _ _ rfl
      generalize (wi.setCell ⟨w.heap.size, 0, none⟩ (.slice A2' r.safe.length c2')) = w1 at *
      have S2 := store1 47 (by kernel_rfl) 2 w1 _ _ R1 (.slice none 0 0) rfl rfl (by simp)
      have R2 := Go.heap_setCell_same w1 w.heap.size 2 _ 49 (.slice none 0 0) R1
      have K2 : DSmall.Kept (fun k => k = w.heap.size) w1 (w1.setCell ⟨w.heap.size, 2, none⟩ (.slice none 0 0)) := DSmall.Kept.set _ _ rfl
      generalize (w1.setCell ⟨w.heap.size, 2, none⟩ (.slice none 0 0)) = w2 at *
      have S3 := store1 3 (by kernel_rfl) 3 w2 _ _ R2 (.int .i64 (-1)) rfl rfl (by simp)
      have R3 := Go.heap_setCell_same w2 w.heap.size 3 _ 49 (.int .i64 (-1)) R2
      have K3 : DSmall.Kept (fun k => k = w.heap.size) w2 (w2.setCell ⟨w.heap.size, 3, none⟩ (.int .i64 (-1))) := DSmall.Kept.set _ _ rfl
      generalize (w2.setCell ⟨w.heap.size, 3, none⟩ (.int .i64 (-1))) = w3 at *
      have S4 := store1 4 (by kernel_rfl) 4 w3 _ _ R3 (.bool false) rfl rfl (by simp)
      have R4 := Go.heap_setCell_same w3 w.heap.size 4 _ 49 (.bool false) R3
      have K4 : DSmall.Kept (fun k => k = w.heap.size) w3 (w3.setCell ⟨w.heap.size, 4, none⟩ (.bool false)) := DSmall.Kept.set _ _ rfl
      generalize (w3.setCell ⟨w.heap.size, 4, none⟩ (.bool false)) = w4 at *
      have KK := ((K1.trans K2).trans K3).trans K4
      have B4 := (KK.block (w.heap.size + 1) (Array.getElem?_eq_some_iff.1 HB'.out).1 (by omega)).trans HB'.out
      have G4 : Grew w w4 := DAlive.grew_kept HG.out KK (fun k hk => by rw [hk]; exact Nat.le_refl _)
      have X4 := HX.out.kept KK
      have T4 := Tg.kept HT.out KK (fun k cur fz hk hh => by subst hk; rw [HB.out] at hh; cases hh)
      have L4 := load5 w4 w.heap.size A2' A2' none r.safe.length r.safe.length 0 c2' c2' 0 (-1) false R4
      have S5 := store5 w4 _ _ B4 (by simp) A2' A2' none r.safe.length r.safe.length 0 c2' c2' 0 (-1) false
      have B5 := setRow_heap w4 _ _ (d5 A2' A2' none r.safe.length r.safe.length 0 c2' c2' 0 (-1) false).toArray _ _ B4
      have K5 : DSmall.Kept (fun k => k = w.heap.size + 1) w4 (w4.setRow (w.heap.size + 1) (d5 A2' A2' none r.safe.length r.safe.length 0 c2' c2' 0 (-1) false).toArray) := ⟨rfl, rfl, rfl, by simp, fun k _ hk => setRow_other w4 (w.heap.size + 1) k _ (by omega)⟩
      have L5 := run_loadVar_mid (P := Try.prog) _ (w.heap.size + 1) 0 49 (d5 A2' A2' none r.safe.length r.safe.length 0 c2' c2' 0 (-1) false) _ (fun j v hv => by rw [cell_of_row _ _ _ _ _ _ B5, Nat.zero_add]; simpa using hv) Try.underlying49 rfl size32
      have T5 := Tg.kept T4 K5 (fun k cur fz hk hh => by subst hk; rw [B4] at hh; cases hh)
      generalize (w4.setRow (w.heap.size + 1) (d5 A2' A2' none r.safe.length r.safe.length 0 c2' c2' 0 (-1) false).toArray) = w5 at *
      have G5 : Grew w w5 := DAlive.grew_kept G4 K5 (fun k hk => by omega)
      have HRD : Hid (RD w5 (dv A2' A2' none r.safe.length r.safe.length 0 c2' c2' 0 (-1) false) (rcrash r l)) := Lib.hid (by
        have hX5 : SR w5 (.slice A2' r.safe.length c2') (settled (kept l) r.safe r.waits r.waits.length) := by
          have h9 := X4.1
          have h8 := HX.out.2
          exact (SRx.kept (D := fun k => k = w.heap.size + 1) ⟨h9, fun k hk he => HX1.out k hk he⟩ K5).1
        have e := settled_length (kept l) r.safe r.waits r.waits.length
        refine ⟨⟨A2', A2', none, c2', c2', 0, ?_, by unfold rcrash; rw [e]; exact hX5, by unfold rcrash; rw [e]; exact hX5, WR.nil _, by unfold rcrash; rw [e]; exact T5, by unfold rcrash; rw [e]; exact T5, Tg.nil _ _ _ _⟩, by show (-1 : Int) ≤ -1; omega, by show (-1 : Int) ≤ 9223372036854775807; omega⟩
        unfold rcrash
        simp only [e]
        rfl)
      have HS1' := Lib.hid S1
      have HS2' := Lib.hid S2
      have HS3' := Lib.hid S3
      have HS4' := Lib.hid S4
      have HS5' := Lib.hid S5
      have HL4 := Lib.hid L4
      have HL5 := Lib.hid L5
      have HG5 := Lib.hid G5
      clear S1 S2 S3 S4 S5 L4 L5 G5 R1 R2 R3 R4 K1 K2 K3 K4 KK B4 G4 X4 T4 T5 B5 K5
      go_wp2_with (first
        | refine DArm.wpList_store (by rfl) 46 (.tmp 54) (.tmp 53) (by with_reducible rfl) _ _ (by rfl) (by rfl) _ HS1'.out ?_
        | refine DArm.wpList_store (by rfl) 47 (.tmp 55) _ (by with_reducible rfl) _ _ (by rfl) (by rfl) _ HS2'.out ?_
        | refine DArm.wpList_store (by rfl) 3 (.tmp 56) _ (by with_reducible rfl) _ _ (by rfl) (by rfl) _ HS3'.out ?_
        | refine DArm.wpList_store (by rfl) 4 (.tmp 57) _ (by with_reducible rfl) _ _ (by rfl) (by rfl) _ HS4'.out ?_
        | refine DArm.wpList_load (by rfl) 49 (.tmp 2) (by with_reducible rfl) _ _ (by rfl) HL4.out ?_
        | refine DArm.wpList_store (by rfl) 49 (.tmp 4) (.tmp 58) (by with_reducible rfl) _ _ (by rfl) (by rfl) _ HS5'.out ?_)
      refine bodyPost_ret (v := dv A2' A2' none r.safe.length r.safe.length 0 c2' c2' 0 (-1) false) ?_ rfl ⟨_, rfl, HRD.out, HG5.out⟩
      have hld := HL5.out
      simp [results, Try.results29]
      simp [asAddr, hld, d5, dv]
end Go.Proofs.Ytbnicphegbdfnaa.DRefE
