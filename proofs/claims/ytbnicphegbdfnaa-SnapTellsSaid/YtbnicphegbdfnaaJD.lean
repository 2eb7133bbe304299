/-
  A record is written to the sectors of the next place.
  Conditions: those that each lemma names.
-/
import Derived.Test.YtbnicphegbdfnaaJB
import Derived.Test.YtbnicphegbdfnaaJC
namespace Go.Proofs.Ytbnicphegbdfnaa.JD
set_option maxRecDepth 100000
set_option maxRecDepth 100000
open Go Go.RowKit Go.Proofs.Ytbnicphegbdfnaa Go.Proofs.Ytbnicphegbdfnaa.Facts Go.Proofs.Ytbnicphegbdfnaa.Bytes Go.Proofs.Ytbnicphegbdfnaa.DKeep Go.Proofs.Ytbnicphegbdfnaa.DSmall Go.Proofs.Ytbnicphegbdfnaa.Puts Go.Proofs.Ytbnicphegbdfnaa.SPure Go.Proofs.Ytbnicphegbdfnaa.JA Go.Proofs.Ytbnicphegbdfnaa.JB

/-- A region whose one call turns the disk. -/
def S6 (W0 : World) (Q : World → Prop) : Nat → Value → World → Prop
  | 0, _, y => Grew W0 y
  | _, _, y => Q y
/-- What the write of one sector leaves. -/
def QW (w w2 : World) (g gj : Nat) (j : Jr) (D : Nat → Prop) (d' : Pd) (v : Value) (l : List UInt8) (y : World) : Prop := ∃ D', DK y g D' d' ∧ (∀ z, D' z → D z ∨ w2.heap.size ≤ z) ∧ Kept D w y ∧ w2.heap.size ≤ y.heap.size ∧ Rd (fun z => w.heap.size ≤ z ∧ z < w2.heap.size) y v l ∧ JL y gj g j
/-- Loads are written, m sectors, from the sector at on. -/
def jw (first base : Nat) : Nat → Nat → List UInt8 → Pd → Pd × Int
  | 0, _, _, d => (d, 0)
  | m + 1, at_, left, d =>
    let r := DWrite.written d ((first + at_ : Nat) : Int) (sealed (base + at_) (left.take 108))
    if r.2 = 0 then jw first base m (at_ + 1) (left.drop 108) r.1 else r
/-- All bytes of a record. -/
def recB (b : List UInt8) : List UInt8 := be 4 b.length ++ b
theorem recB_length (b : List UInt8) : (recB b).length = b.length + 4 := by simp [recB, be_length]; omega
theorem written_waits (d : Pd) (n : Int) (l : Sec) : (DWrite.written d n l).1.waits.length ≤ d.waits.length + 1 := by
  unfold DWrite.written
  split
  · split
    · rw [DFlush.blown_waits]
      show (d.waits ++ _).length ≤ _
      simp
    · exact Nat.le_succ _
  · exact Nat.le_succ _
theorem kept_trans {D0 D : Nat → Prop} {a b c : World} (h : Kept D0 a b) (k : Kept D b c) (hd : ∀ j, D j → D0 j ∨ a.heap.size ≤ j) : Kept D0 a c := by
  refine ⟨k.os.trans h.os, k.tape.trans h.tape, k.output.trans h.output, Nat.le_trans h.size k.size, fun j hj hn => ?_⟩
  refine (k.block j (Nat.lt_of_lt_of_le hj h.size) (fun hD => ?_)).trans (h.block j hj hn)
  rcases hd j hD with h1 | h1
  · exact hn h1
  · omega
/-- The first m, and the rest, of a slice. -/
theorem rd_take {S : Nat → Prop} {w : World} {A : Option Addr} {c n m : Nat} {l : List UInt8} (h : Rd S w (.slice A n c) l) (hn : l.length = n) (hm : m ≤ n) : Rd S w (.slice A m c) (l.take m) := by
  subst hn
  obtain ⟨A', c', e, h1, h2, h3, h4⟩ := h
  injection e with e1 _ e3
  subst e1 e3
  have hl : (l.take m).length = m := by simp; omega
  refine ⟨A, c, by rw [hl], by rw [hl]; omega, h2, h3, fun ad ha => ⟨fun hne => (h4 ad ha).1 (fun e => hne (by rw [e]; simp)), fun j u hu => (h4 ad ha).2 j u ?_⟩⟩
  have : bv (l.take m) = (bv l).take m := by simp [bv, List.map_take]
  rw [this, List.getElem?_take] at hu
  split at hu
  · exact hu
  · cases hu
theorem rd_drop {S : Nat → Prop} {w : World} {A : Option Addr} {c n m : Nat} {l : List UInt8} (h : Rd S w (.slice A n c) l) (hn : l.length = n) (hm : m ≤ n) : Rd S w (.slice (if c = m then A else A.map (·.add m)) (n - m) (c - m)) (l.drop m) := by
  subst hn
  exact (Take.cut_rd h hm).2

theorem seal_ok (S : Nat → Prop) (v : Value) (load : List UInt8) (s : Nat) (x : Int) (hx : x = (s : Int)) (w : World) (h : Rd S w v load) (hs : may s = true) (hl : load.length ≤ 108) :
    Calls Try.prog 53 #[.int .u64 x, v] w fun e w' => ∃ v', e = .returned (.tuple #[v', .int .i64 0]) ∧ Rd (fun b => w.heap.size ≤ b) w' v' (sealed s load) ∧ Grew w w' := by
  subst hx
  have := SSeal.seal_any S v load s w h
  have e : sealing s load = (sealed s load, 0) := by unfold sealing; rw [hs, if_neg (by decide), if_neg (by omega)]
  rwa [e] at this
set_option maxHeartbeats 4000000 in
theorem jwrite_any (w : World) (gj g : Nat) (j : Jr) (D : Nat → Prop) (d : Pd) (S : Nat → Prop) (v : Value) (b : List UInt8) (hj : JL w gj g j) (hk : JK j) (hb1 : 1 ≤ j.base) (hu : j.used < j.places) (hd : DK w g D d) (hgj : ¬ D gj) (hr : Rd S w v b) (hb : b.length + 4 ≤ 108 * j.each) (hw : d.waits.length ≤ 1000000000) :
    Calls Try.prog 68 #[.pointer (some ⟨gj, 0, none⟩), v] w fun e w' => e = .returned (.int .i64 (jw j.first j.base j.each (j.used * j.each) (recB b) d).2) ∧ ∃ D', DK w' g D' (jw j.first j.base j.each (j.used * j.each) (recB b) d).1 ∧ (∀ k, D' k → D k ∨ w.heap.size ≤ k) ∧ Kept D w w' := by
  have HJ := Lib.hid hj
  have HK := Lib.hid hk
  have HD := Lib.hid hd
  have HR := Lib.hid hr
  obtain ⟨A, c, rfl, q1, q2, q3, _⟩ := id hr
  unfold maxLen at q2
  have he2 := hk.e2
  have hu64 : IntKind.u64.wrap (b.length : Int) = (b.length : Int) := by rw [IntKind.wrap_u64]; omega
  have hbl : b.length ≤ 1769472 := by omega
  have HBL := Lib.hid hbl
  obtain ⟨fr, hfr⟩ : ∃ fr, j.used * j.each = fr := ⟨_, rfl⟩
  have hfr2 : fr + j.each ≤ j.places * j.each := by
    rw [← hfr]
    have : (j.used + 1) * j.each ≤ j.places * j.each := Nat.mul_le_mul_right _ (by omega)
    rw [Nat.add_mul, Nat.one_mul] at this
    exact this
  have hpe : j.places * j.each ≤ 262144 := by
    have h1 : j.places * j.each ≤ 16 * j.each := Nat.mul_le_mul_right _ hk.p2
    omega
  have hfi : IntKind.i64.wrap ((j.used : Int) * (j.each : Int)) = (fr : Int) := by
    have e : (j.used : Int) * (j.each : Int) = (fr : Int) := by rw [← hfr]; simp
    rw [e]
    exact IntWalk.i64_in _ (by omega)
  rw [hfr]
  obtain ⟨c0, c1, c2, c3, c4, c5⟩ := hj.cells
  have HFE : Hid (fr + j.each ≤ 262144) := Lib.hid (by omega)
  have HBS : Hid (1 ≤ j.base ∧ j.base + (fr + j.each) ≤ 4611686018427387904) := Lib.hid ⟨hb1, by have := hk.b; omega⟩
  have HGJ := Lib.hid hgj
  have HW := Lib.hid hw
  have HB := Lib.hid hb
  have HE1 := Lib.hid hk.e1
  have HF2 := Lib.hid hk.f2
  clear hj hk hd hr hb1 hu hgj hw hb hfr hfr2 hpe q3
  go_enter Try.func68, Try.ntmps68
  go_wp2_with fail
  refine (SSeal.num4 (fun _ => True) (.slice none 0 0) [] b.length w (Rd.nil _ _) (by simp)).mono ?_
  rintro e w1 ⟨v1, rfl, hown, hg⟩
  rw [List.nil_append] at hown
  obtain ⟨hv1, A1, cc1, rfl⟩ := SSeal.own_len hown (by rw [be_length]; omega)
  have hz1 := hown
  obtain ⟨v2, w2, hrun, hown2, hb2⟩ := SSeal.run_app2 w1 w.heap.size _ A c (be 4 b.length) b S hown (HR.out.grew hg) (by rw [be_length]; omega) hg.size
  have hlen2 : (be 4 b.length ++ b).length = b.length + 4 := recB_length b
  obtain ⟨A2, cc2, e2⟩ : ∃ A2 cc2, v2 = .slice A2 (b.length + 4) cc2 := by
    obtain ⟨_, A2, cc2, e⟩ := SSeal.own_len hown2 (by rw [hlen2]; omega)
    rw [hlen2] at e
    exact ⟨A2, cc2, e⟩
  subst e2
  have HR2 := Lib.hid ((Rd.of_own hown2 rfl : Rd (fun k => w.heap.size ≤ k ∧ k < w2.heap.size) w2 _ (recB b)))
  have hg2 : Grew w w2 := ⟨hb2.os.trans hg.os, hb2.tape.trans hg.tape, hb2.output.trans hg.output, Nat.le_trans hg.size hb2.size, fun k hk => (hb2.block k hk).trans (hg.block k hk)⟩
  have HG2 := Lib.hid hg2
  have HRUN := Lib.hid hrun
  have c3a : w2.cell? ⟨gj, 3, none⟩ = some (.int .i64 (j.each : Int)) := DWrite.cellB hg2 c3
  have c4a : w2.cell? ⟨gj, 4, none⟩ = some (.int .i64 (j.used : Int)) := DWrite.cellB hg2 c4
  clear hown hv1 hz1 hrun hown2 hb2 hg hg2 hlen2 c0 c1 c2 c3 c4 c5
  go_wp2_with (refine SSeal.wpList_app' (by rfl) (.tmp 15) (.tmp 16) 23 23 (by with_reducible rfl) _ _ (by rfl) (by rfl) _ _ HRUN.out ?_)
  go_region
  have HDL : Hid (∀ z, D z → z < w.heap.size) := Lib.hid HD.out.1
  have HKP0 : Hid (Kept D w w2.drew) := Lib.hid (Kept.of_grew HG2.out).drew
  have HDK0 : Hid (DK w2.drew g D d) := Lib.hid (HD.out.grew HG2.out.drew)
  have HJ0 : Hid (JL w2.drew gj g j) := Lib.hid (HJ.out.grew HG2.out.drew)
  have HRR0 : Hid (Rd (fun z => w.heap.size ≤ z ∧ z < w2.heap.size) w2.drew (.slice A2 (b.length + 4) cc2) (recB b)) := Lib.hid HR2.out.drew
  have HW2S : Hid (w.heap.size ≤ w2.heap.size) := Lib.hid HG2.out.size
  have HGJ2 : Hid (gj < w.heap.size) := Lib.hid (Array.getElem?_eq_some_iff.1 HJ.out).1
  obtain ⟨RES, hRES⟩ : ∃ RES, jw j.first j.base j.each fr (recB b) d = RES := ⟨_, rfl⟩
  have HLB := Lib.hid (recB_length b)
  have HQ := Lib.hid hRES
  clear c3a c4a HRUN HR2 hRES
  go_wp2
  go_loopg [5, 7] j.each (fun q s5 s7 wx => ∃ (k : Nat) (left : List UInt8) (A5 : Option Addr) (c5 : Nat) (Dk : Nat → Prop) (dk : Pd), k + q = j.each ∧ s5 = .slice A5 left.length c5 ∧ s7 = .int .i64 ((fr : Int) + (k : Int)) ∧ Hid (DK wx g Dk dk) ∧ Hid (∀ z, Dk z → D z ∨ w2.heap.size ≤ z) ∧ Hid (Kept D w wx) ∧ Hid (w2.heap.size ≤ wx.heap.size) ∧ Hid (Rd (fun z => w.heap.size ≤ z ∧ z < w2.heap.size) wx (.slice A5 left.length c5) left) ∧ Hid (JL wx gj g j) ∧ Hid (jw j.first j.base q (fr + k) left dk = jw j.first j.base j.each fr (recB b) d) ∧ Hid (dk.waits.length ≤ d.waits.length + k) ∧ Hid (left.length ≤ b.length + 4))
  case atStart => exact ⟨0, recB b, A2, cc2, D, d, Nat.zero_add _, by rw [HLB.out], by simp, HDK0, Lib.hid (fun z hz => .inl hz), HKP0, Lib.hid (Nat.le_refl _), Lib.hid (by rw [HLB.out]; exact HRR0.out), HJ0, Lib.hid rfl, Lib.hid (Nat.le_refl _), Lib.hid (by rw [HLB.out]; exact Nat.le_refl _)⟩
  case round =>
    obtain ⟨k, left, A5, c5, Dk, dk, hkq, rfl, rfl, HDK, HDS, HKP, HZ, HRL, HJX, HJW, HWX, HLL⟩ := hrel
    clear HDK0 HKP0 HJ0 HRR0
    generalize wr = wi at *
    obtain ⟨c0, c1, c2, c3, c4, c5'⟩ := HJX.out.cells
    have HC0 := Lib.hid c0
    have HC1 := Lib.hid c1
    have HC5 := Lib.hid c5'
    have hwe : IntKind.i64.wrap ((fr : Int) + (j.each : Int)) = (fr : Int) + (j.each : Int) := IntWalk.i64_in _ (by have := HFE.out; omega)
    clear c0 c1 c2 c4 c5'
    cases gk with
    | zero =>
      have hlt : ¬ ((fr : Int) + (k : Int) < (fr : Int) + (j.each : Int)) := by omega
      have hjw := HJW.out
      rw [show jw j.first j.base 0 (fr + k) left dk = (dk, 0) from rfl] at hjw
      have HJ9 := Lib.hid hjw
      clear hjw
      go_wp2
      go_ret
      rw [← HJ9.out]
      exact ⟨rfl, Dk, HDK.out, fun z hz => (HDS.out z hz).imp id (fun h => Nat.le_trans HW2S.out h), HKP.out⟩
    | succ q =>
      have hlt : (fr : Int) + (k : Int) < (fr : Int) + (j.each : Int) := by omega
      obtain ⟨mm, hmm⟩ : ∃ mm, mm = min left.length 108 := ⟨_, rfl⟩
      have hmi : min (left.length : Int) 108 = (mm : Int) := by rw [hmm]; omega
      have hml : mm ≤ left.length := by omega
      have hm108 : mm ≤ 108 := by omega
      obtain ⟨AX, cX, eX, x1, x2, x3, x4⟩ := id HRL.out
      injection eX with eX1 _ eX3
      subst eX1 eX3
      unfold maxLen at x2
      have hmc : mm ≤ c5 := by omega
      have hu1 : IntKind.u64.wrap ((fr : Int) + (k : Int)) = (fr : Int) + (k : Int) := by rw [IntKind.wrap_u64]; have := HFE.out; omega
      have hu2 : IntKind.u64.wrap ((j.base : Int) + ((fr : Int) + (k : Int))) = (j.base : Int) + ((fr : Int) + (k : Int)) := by rw [IntKind.wrap_u64]; have := HBS.out; have := HFE.out; omega
      have HMM := Lib.hid hmm
      have c5c := HC5.out
      have HTK : Hid (left.take mm = left.take 108) := Lib.hid (by
        by_cases h : left.length ≤ 108
        · rw [List.take_of_length_le (by omega), List.take_of_length_le (by omega)]
        · rw [show mm = 108 by omega])
      have HDK2 : Hid (left.drop mm = left.drop 108) := Lib.hid (by
        by_cases h : left.length ≤ 108
        · rw [List.drop_of_length_le (by omega), List.drop_of_length_le (by omega)]
        · rw [show mm = 108 by omega])
      have HMAY : Hid (may (j.base + (fr + k)) = true) := Lib.hid (by rw [may_iff]; have := HBS.out; omega)
      have HT8 : Hid ((left.take 108).length ≤ 108) := Lib.hid (by simp; omega)
      have HNC : Hid (((j.base + (fr + k) : Nat) : Int) = (j.base : Int) + ((fr : Int) + (k : Int))) := Lib.hid (by omega)
      obtain ⟨⟨d', ed⟩, hwq⟩ : ∃ y, DWrite.written dk ((j.first : Int) + ((fr : Int) + (k : Int))) (sealed (j.base + (fr + k)) (left.take 108)) = y := ⟨_, rfl⟩
      have HWQ := Lib.hid hwq
      have hjw := HJW.out
      rw [jw] at hjw
      rw [show ((j.first + (fr + k) : Nat) : Int) = (j.first : Int) + ((fr : Int) + (k : Int)) by omega, hwq] at hjw
      have HJ9 := Lib.hid hjw
      have HWN := Lib.hid (written_waits dk ((j.first : Int) + ((fr : Int) + (k : Int))) (sealed (j.base + (fr + k)) (left.take 108)))
      rw [hwq] at HWN
      have HWF : Hid (IntKind.i64.wrap ((j.first : Int) + ((fr : Int) + (k : Int))) = (j.first : Int) + ((fr : Int) + (k : Int))) := Lib.hid (IntWalk.i64_in _ (by have := HFE.out; have := HF2.out; omega))
      have hr6 := rd_drop HRL.out rfl hml
      rw [HDK2.out] at hr6
      clear x3 x4 hmm hwq hjw
      by_cases hcm : c5 = mm
      · subst hcm
        rw [if_pos rfl] at hr6
        rw [Nat.sub_self] at hr6
        obtain ⟨V6, hV6⟩ : ∃ V6, V6 = Value.slice A5 (left.length - c5) 0 := ⟨_, rfl⟩
        obtain ⟨LD, hLD⟩ : ∃ LD, LD = left.drop 108 := ⟨_, rfl⟩
        rw [← hV6, ← hLD] at hr6
        have HV6 := Lib.hid hV6
        have HLD := Lib.hid hLD
        clear hV6 hLD
        have HR6 := Lib.hid hr6
        have HRM := Lib.hid (rd_take HRL.out rfl hml)
        rw [HTK.out] at HRM
        clear hr6
        go_wp2_with fail
        with_reducible refine (seal_ok _ _ _ (j.base + (fr + k)) ((j.base : Int) + ((fr : Int) + (k : Int))) HNC.out.symm wi HRM.out HMAY.out HT8.out).mono ?_
        rintro e w3 ⟨v9, rfl, hr9, hg3⟩
        have HR9 := Lib.hid hr9
        have HG3 := Lib.hid hg3
        have HKP3 := Lib.hid (HKP.out.trans (Kept.of_grew hg3))
        have HZ2 := Lib.hid (Nat.le_trans HZ.out hg3.size)
        have HJ3 := Lib.hid (HJX.out.grew hg3)
        have HR6b := Lib.hid (HR6.out.grew hg3)
        have HC0b := Lib.hid (DWrite.cellB hg3 HC0.out)
        have HC1b := Lib.hid (DWrite.cellB hg3 HC1.out)
        have HWT : Hid (dk.waits.length ≤ 1073741823) := Lib.hid (by have := HWX.out; have := HW.out; have := HFE.out; omega)
        clear hr9 hg3
        go_wp2
        refine Chain.wp_chain [11] (Chain.on 11 (S6 w3 (QW w w2 g gj j D d' V6 LD))) (by kernel_rfl) (by kernel_rfl) ((Grew.refl _).drew) ?_
        apply Marks.Lex.exact [] _ (by kernel_rfl)
        · intro m u W hm hcl hJ _
          unfold Marks.one
          go_simp
          exact ⟨trivial, hJ.same 0 _ (by rfl), rfl⟩
        simp only [Act.put, List.setIfInBounds_toArray, List.set_cons_zero, List.set_cons_succ, Nat.zero_add, Nat.reduceAdd]
        apply Marks.Lex.exact [] _ (by kernel_rfl)
        · intro m u W hm hcl hJ _
          unfold Marks.one
          go_simp
          exact ⟨trivial, hJ.same 1 _ (by rfl), rfl⟩
        simp only [Act.put, List.setIfInBounds_toArray, List.set_cons_zero, List.set_cons_succ, Nat.zero_add, Nat.reduceAdd]
        apply Marks.Lex.exact [] _ (by kernel_rfl)
        · intro m u W hm hcl hJ _
          unfold Marks.one
          go_simp
          exact ⟨trivial, hJ.same 2 _ (by rfl), rfl⟩
        simp only [Act.put, List.setIfInBounds_toArray, List.set_cons_zero, List.set_cons_succ, Nat.zero_add, Nat.reduceAdd]
        apply Marks.Lex.exact [] _ (by kernel_rfl)
        · intro m u W hm hcl hJ _
          have hC := hJ.first hm 11 rfl (by decide)
          have d1 := DWrite.cellB hC HC0b.out
          unfold Marks.one
          go_simp
          exact ⟨trivial, hJ.same 3 _ (by rfl), rfl⟩
        simp only [Act.put, List.setIfInBounds_toArray, List.set_cons_zero, List.set_cons_succ, Nat.zero_add, Nat.reduceAdd]
        apply Marks.Lex.exact [] _ (by kernel_rfl)
        · intro m u W hm hcl hJ _
          unfold Marks.one
          go_simp
          exact ⟨trivial, hJ.same 4 _ (by rfl), rfl⟩
        simp only [Act.put, List.setIfInBounds_toArray, List.set_cons_zero, List.set_cons_succ, Nat.zero_add, Nat.reduceAdd]
        apply Marks.Lex.exact [] _ (by kernel_rfl)
        · intro m u W hm hcl hJ _
          unfold Marks.one
          go_simp
          exact ⟨trivial, hJ.same 5 _ (by rfl), rfl⟩
        simp only [Act.put, List.setIfInBounds_toArray, List.set_cons_zero, List.set_cons_succ, Nat.zero_add, Nat.reduceAdd]
        apply Marks.Lex.exact [] _ (by kernel_rfl)
        · intro m u W hm hcl hJ _
          unfold Marks.one
          go_simp
          exact ⟨trivial, hJ.same 6 _ (by rfl), rfl⟩
        simp only [Act.put, List.setIfInBounds_toArray, List.set_cons_zero, List.set_cons_succ, Nat.zero_add, Nat.reduceAdd]
        apply Marks.Lex.exact [] _ (by kernel_rfl)
        · intro m u W hm hcl hJ _
          have hC := hJ.first hm 11 rfl (by decide)
          have d1 := DWrite.cellB hC HC1b.out
          unfold Marks.one
          go_simp
          exact ⟨trivial, hJ.same 7 _ (by rfl), rfl⟩
        simp only [Act.put, List.setIfInBounds_toArray, List.set_cons_zero, List.set_cons_succ, Nat.zero_add, Nat.reduceAdd]
        apply Marks.Lex.exact [] _ (by kernel_rfl)
        · intro m u W hm hcl hJ _
          unfold Marks.one
          go_simp
          exact ⟨trivial, hJ.same 8 _ (by rfl), rfl⟩
        simp only [Act.put, List.setIfInBounds_toArray, List.set_cons_zero, List.set_cons_succ, Nat.zero_add, Nat.reduceAdd]
        apply Marks.Lex.exact [] _ (by kernel_rfl)
        · intro m u W hm hcl hJ _
          have d1 := HWF.out
          unfold Marks.one
          go_simp
          exact ⟨trivial, hJ.same 9 _ (by rfl), rfl⟩
        simp only [Act.put, List.setIfInBounds_toArray, List.set_cons_zero, List.set_cons_succ, Nat.zero_add, Nat.reduceAdd]
        apply Marks.Lex.exact [] _ (by kernel_rfl)
        · intro m u W hm hcl hJ _
          unfold Marks.one
          go_simp
          exact ⟨trivial, hJ.same 10 _ (by rfl), rfl⟩
        simp only [Act.put, List.setIfInBounds_toArray, List.set_cons_zero, List.set_cons_succ, Nat.zero_add, Nat.reduceAdd]
        apply Marks.Lex.exact [] (.int .i64 ed) (by kernel_rfl)
        · intro m u W hm hcl hJ _
          obtain ⟨hP, hput⟩ := hJ.put 0 rfl hm hcl (by decide) (by decide)
          have hC : Grew w3 W := hP
          unfold Marks.one
          go_simp
          refine Chain.come_enter ?_
          with_reducible refine (DAlive.write_eq W g Dk dk ((j.first : Int) + ((fr : Int) + (k : Int))) v9 _ (sealed (j.base + (fr + k)) (left.take 108)) d' ed (HDK.out.grew (HG3.out.trans hC)) (HR9.out.grew hC) HWT.out HWQ.out).mono ?_
          rintro e w' ⟨rfl, D', hd', hs', hk'⟩
          refine ⟨_, rfl, trivial, hput _ w' (fun _ => Chain.on_put (show S6 _ _ 1 _ _ from ?_)), rfl⟩
          have hz2 := HZ2.out
          have hz3 := hC.size
          have hDz : ∀ z, Dk z → D z ∨ w2.heap.size ≤ z := HDS.out
          refine ⟨D', hd', fun z hz => ?_, ?_, ?_, ?_, ?_⟩
          · rcases hs' z hz with h | h
            · exact hDz z h
            · exact .inr (by omega)
          · exact kept_trans (HKP3.out.trans (Kept.of_grew hC)) hk' (fun z hz => (hDz z hz).imp id (fun h => by have := HW2S.out; omega))
          · have := hk'.size; omega
          · exact (HR6b.out.grew hC).keep (fun z hz hS => hk'.block z hz (fun hd => by
              rcases hDz z hd with h | h
              · have := HDL.out z h; omega
              · omega))
          · have hjl := HJ3.out.grew hC
            exact (hk'.block gj (Array.getElem?_eq_some_iff.1 hjl).1 (fun hd => by
              rcases hDz gj hd with h | h
              · exact HGJ.out h
              · have := HGJ2.out; have := HW2S.out; omega)).trans hjl
        simp only [Act.put, List.setIfInBounds_toArray, List.set_cons_zero, List.set_cons_succ, Nat.zero_add, Nat.reduceAdd]
        apply Marks.Lex.exact [] _ (by kernel_rfl)
        · intro m u W hm hcl hJ _
          unfold Marks.one
          go_simp
          exact ⟨trivial, hJ.same 12 _ (by rfl), rfl⟩
        simp only [Act.put, List.setIfInBounds_toArray, List.set_cons_zero, List.set_cons_succ, Nat.zero_add, Nat.reduceAdd]
        refine Marks.Lex.done fun m0 u W' hm hJ _ => ?_
        have hE : S6 _ _ 1 (u 11) W' := hJ.done (by intro k hk; exact hm k (by simp at hk; omega))
        clear hJ hm
        obtain ⟨D', hd', hs', hk', hz', hr', hj'⟩ := hE
        have HZN := Lib.hid hz'
        have HDKn := Lib.hid hd'
        have HDSn := Lib.hid hs'
        have HKPn := Lib.hid hk'
        have HRLn := Lib.hid hr'
        have HJXn := Lib.hid hj'
        have HW1 : Hid (IntKind.i64.wrap ((fr : Int) + (k : Int) + 1) = (fr : Int) + (k : Int) + 1) := Lib.hid (IntWalk.i64_in _ (by have := HFE.out; omega))
        by_cases h0 : ed = 0
        · have hjw := HJ9.out
          rw [if_pos h0] at hjw
          have HJ9b := Lib.hid hjw
          have b0 : (ed != 0) = false := by simpa using h0
          have hw1 := HW1.out
          clear hjw hd' hs' hk' hz' hr' hj'
          go_wp2
          go_roundg q
          case measure => omega
          case rel =>
            have hv6 := HV6.out
            have hld := HLD.out
            have hll : LD.length = left.length - c5 := by rw [hld, ← HDK2.out, List.length_drop]
            refine ⟨k + 1, LD, A5, 0, D', d', by omega, ?_, ?_, HDKn, HDSn, HKPn, Lib.hid HZN.out, ?_, HJXn, ?_, ?_, ?_⟩
            · rw [hll]
              all_goals (congr 1; omega)
            · first | rfl | exact congrArg (Value.int .i64) (by omega) | (simp; omega)
            · rw [hll, ← hv6]; exact HRLn
            · rw [hld]; exact HJ9b
            · exact Lib.hid (by have h1 : d'.waits.length ≤ dk.waits.length + 1 := HWN.out; have := HWX.out; omega)
            · exact Lib.hid (by have := HLL.out; omega)
        · have hjw := HJ9.out
          rw [if_neg h0] at hjw
          have HJ9b := Lib.hid hjw
          have b0 : (ed != 0) = true := by simpa using h0
          clear hjw hd' hs' hk' hz' hr' hj'
          go_wp2
          go_ret
          rw [← HJ9b.out]
          exact ⟨rfl, D', HDKn.out, fun z hz => (HDSn.out z hz).imp id (fun h => Nat.le_trans HW2S.out h), HKPn.out⟩

      · rw [if_neg hcm] at hr6
        obtain ⟨V6, hV6⟩ : ∃ V6, V6 = Value.slice (Option.map (fun x => x.add mm) A5) (left.length - mm) (c5 - mm) := ⟨_, rfl⟩
        obtain ⟨LD, hLD⟩ : ∃ LD, LD = left.drop 108 := ⟨_, rfl⟩
        rw [← hV6, ← hLD] at hr6
        have HV6 := Lib.hid hV6
        have HLD := Lib.hid hLD
        clear hV6 hLD
        have HR6 := Lib.hid hr6
        have HRM := Lib.hid (rd_take HRL.out rfl hml)
        rw [HTK.out] at HRM
        clear hr6
        go_wp2_with fail
        with_reducible refine (seal_ok _ _ _ (j.base + (fr + k)) ((j.base : Int) + ((fr : Int) + (k : Int))) HNC.out.symm wi HRM.out HMAY.out HT8.out).mono ?_
        rintro e w3 ⟨v9, rfl, hr9, hg3⟩
        have HR9 := Lib.hid hr9
        have HG3 := Lib.hid hg3
        have HKP3 := Lib.hid (HKP.out.trans (Kept.of_grew hg3))
        have HZ2 := Lib.hid (Nat.le_trans HZ.out hg3.size)
        have HJ3 := Lib.hid (HJX.out.grew hg3)
        have HR6b := Lib.hid (HR6.out.grew hg3)
        have HC0b := Lib.hid (DWrite.cellB hg3 HC0.out)
        have HC1b := Lib.hid (DWrite.cellB hg3 HC1.out)
        have HWT : Hid (dk.waits.length ≤ 1073741823) := Lib.hid (by have := HWX.out; have := HW.out; have := HFE.out; omega)
        clear hr9 hg3
        go_wp2
        refine Chain.wp_chain [11] (Chain.on 11 (S6 w3 (QW w w2 g gj j D d' V6 LD))) (by kernel_rfl) (by kernel_rfl) ((Grew.refl _).drew) ?_
        apply Marks.Lex.exact [] _ (by kernel_rfl)
        · intro m u W hm hcl hJ _
          unfold Marks.one
          go_simp
          exact ⟨trivial, hJ.same 0 _ (by rfl), rfl⟩
        simp only [Act.put, List.setIfInBounds_toArray, List.set_cons_zero, List.set_cons_succ, Nat.zero_add, Nat.reduceAdd]
        apply Marks.Lex.exact [] _ (by kernel_rfl)
        · intro m u W hm hcl hJ _
          unfold Marks.one
          go_simp
          exact ⟨trivial, hJ.same 1 _ (by rfl), rfl⟩
        simp only [Act.put, List.setIfInBounds_toArray, List.set_cons_zero, List.set_cons_succ, Nat.zero_add, Nat.reduceAdd]
        apply Marks.Lex.exact [] _ (by kernel_rfl)
        · intro m u W hm hcl hJ _
          unfold Marks.one
          go_simp
          exact ⟨trivial, hJ.same 2 _ (by rfl), rfl⟩
        simp only [Act.put, List.setIfInBounds_toArray, List.set_cons_zero, List.set_cons_succ, Nat.zero_add, Nat.reduceAdd]
        apply Marks.Lex.exact [] _ (by kernel_rfl)
        · intro m u W hm hcl hJ _
          have hC := hJ.first hm 11 rfl (by decide)
          have d1 := DWrite.cellB hC HC0b.out
          unfold Marks.one
          go_simp
          exact ⟨trivial, hJ.same 3 _ (by rfl), rfl⟩
        simp only [Act.put, List.setIfInBounds_toArray, List.set_cons_zero, List.set_cons_succ, Nat.zero_add, Nat.reduceAdd]
        apply Marks.Lex.exact [] _ (by kernel_rfl)
        · intro m u W hm hcl hJ _
          unfold Marks.one
          go_simp
          exact ⟨trivial, hJ.same 4 _ (by rfl), rfl⟩
        simp only [Act.put, List.setIfInBounds_toArray, List.set_cons_zero, List.set_cons_succ, Nat.zero_add, Nat.reduceAdd]
        apply Marks.Lex.exact [] _ (by kernel_rfl)
        · intro m u W hm hcl hJ _
          unfold Marks.one
          go_simp
          exact ⟨trivial, hJ.same 5 _ (by rfl), rfl⟩
        simp only [Act.put, List.setIfInBounds_toArray, List.set_cons_zero, List.set_cons_succ, Nat.zero_add, Nat.reduceAdd]
        apply Marks.Lex.exact [] _ (by kernel_rfl)
        · intro m u W hm hcl hJ _
          unfold Marks.one
          go_simp
          exact ⟨trivial, hJ.same 6 _ (by rfl), rfl⟩
        simp only [Act.put, List.setIfInBounds_toArray, List.set_cons_zero, List.set_cons_succ, Nat.zero_add, Nat.reduceAdd]
        apply Marks.Lex.exact [] _ (by kernel_rfl)
        · intro m u W hm hcl hJ _
          have hC := hJ.first hm 11 rfl (by decide)
          have d1 := DWrite.cellB hC HC1b.out
          unfold Marks.one
          go_simp
          exact ⟨trivial, hJ.same 7 _ (by rfl), rfl⟩
        simp only [Act.put, List.setIfInBounds_toArray, List.set_cons_zero, List.set_cons_succ, Nat.zero_add, Nat.reduceAdd]
        apply Marks.Lex.exact [] _ (by kernel_rfl)
        · intro m u W hm hcl hJ _
          unfold Marks.one
          go_simp
          exact ⟨trivial, hJ.same 8 _ (by rfl), rfl⟩
        simp only [Act.put, List.setIfInBounds_toArray, List.set_cons_zero, List.set_cons_succ, Nat.zero_add, Nat.reduceAdd]
        apply Marks.Lex.exact [] _ (by kernel_rfl)
        · intro m u W hm hcl hJ _
          have d1 := HWF.out
          unfold Marks.one
          go_simp
          exact ⟨trivial, hJ.same 9 _ (by rfl), rfl⟩
        simp only [Act.put, List.setIfInBounds_toArray, List.set_cons_zero, List.set_cons_succ, Nat.zero_add, Nat.reduceAdd]
        apply Marks.Lex.exact [] _ (by kernel_rfl)
        · intro m u W hm hcl hJ _
          unfold Marks.one
          go_simp
          exact ⟨trivial, hJ.same 10 _ (by rfl), rfl⟩
        simp only [Act.put, List.setIfInBounds_toArray, List.set_cons_zero, List.set_cons_succ, Nat.zero_add, Nat.reduceAdd]
        apply Marks.Lex.exact [] (.int .i64 ed) (by kernel_rfl)
        · intro m u W hm hcl hJ _
          obtain ⟨hP, hput⟩ := hJ.put 0 rfl hm hcl (by decide) (by decide)
          have hC : Grew w3 W := hP
          unfold Marks.one
          go_simp
          refine Chain.come_enter ?_
          with_reducible refine (DAlive.write_eq W g Dk dk ((j.first : Int) + ((fr : Int) + (k : Int))) v9 _ (sealed (j.base + (fr + k)) (left.take 108)) d' ed (HDK.out.grew (HG3.out.trans hC)) (HR9.out.grew hC) HWT.out HWQ.out).mono ?_
          rintro e w' ⟨rfl, D', hd', hs', hk'⟩
          refine ⟨_, rfl, trivial, hput _ w' (fun _ => Chain.on_put (show S6 _ _ 1 _ _ from ?_)), rfl⟩
          have hz2 := HZ2.out
          have hz3 := hC.size
          have hDz : ∀ z, Dk z → D z ∨ w2.heap.size ≤ z := HDS.out
          refine ⟨D', hd', fun z hz => ?_, ?_, ?_, ?_, ?_⟩
          · rcases hs' z hz with h | h
            · exact hDz z h
            · exact .inr (by omega)
          · exact kept_trans (HKP3.out.trans (Kept.of_grew hC)) hk' (fun z hz => (hDz z hz).imp id (fun h => by have := HW2S.out; omega))
          · have := hk'.size; omega
          · exact (HR6b.out.grew hC).keep (fun z hz hS => hk'.block z hz (fun hd => by
              rcases hDz z hd with h | h
              · have := HDL.out z h; omega
              · omega))
          · have hjl := HJ3.out.grew hC
            exact (hk'.block gj (Array.getElem?_eq_some_iff.1 hjl).1 (fun hd => by
              rcases hDz gj hd with h | h
              · exact HGJ.out h
              · have := HGJ2.out; have := HW2S.out; omega)).trans hjl
        simp only [Act.put, List.setIfInBounds_toArray, List.set_cons_zero, List.set_cons_succ, Nat.zero_add, Nat.reduceAdd]
        apply Marks.Lex.exact [] _ (by kernel_rfl)
        · intro m u W hm hcl hJ _
          unfold Marks.one
          go_simp
          exact ⟨trivial, hJ.same 12 _ (by rfl), rfl⟩
        simp only [Act.put, List.setIfInBounds_toArray, List.set_cons_zero, List.set_cons_succ, Nat.zero_add, Nat.reduceAdd]
        refine Marks.Lex.done fun m0 u W' hm hJ _ => ?_
        have hE : S6 _ _ 1 (u 11) W' := hJ.done (by intro k hk; exact hm k (by simp at hk; omega))
        clear hJ hm
        obtain ⟨D', hd', hs', hk', hz', hr', hj'⟩ := hE
        have HZN := Lib.hid hz'
        have HDKn := Lib.hid hd'
        have HDSn := Lib.hid hs'
        have HKPn := Lib.hid hk'
        have HRLn := Lib.hid hr'
        have HJXn := Lib.hid hj'
        have HW1 : Hid (IntKind.i64.wrap ((fr : Int) + (k : Int) + 1) = (fr : Int) + (k : Int) + 1) := Lib.hid (IntWalk.i64_in _ (by have := HFE.out; omega))
        by_cases h0 : ed = 0
        · have hjw := HJ9.out
          rw [if_pos h0] at hjw
          have HJ9b := Lib.hid hjw
          have b0 : (ed != 0) = false := by simpa using h0
          have hw1 := HW1.out
          clear hjw hd' hs' hk' hz' hr' hj'
          go_wp2
          go_roundg q
          case measure => omega
          case rel =>
            have hv6 := HV6.out
            have hld := HLD.out
            have hll : LD.length = left.length - mm := by rw [hld, ← HDK2.out, List.length_drop]
            refine ⟨k + 1, LD, (Option.map (fun x => x.add mm) A5), (c5 - mm), D', d', by omega, ?_, ?_, HDKn, HDSn, HKPn, Lib.hid HZN.out, ?_, HJXn, ?_, ?_, ?_⟩
            · rw [hll]
              all_goals (congr 1; omega)
            · first | rfl | exact congrArg (Value.int .i64) (by omega) | (simp; omega)
            · rw [hll, ← hv6]; exact HRLn
            · rw [hld]; exact HJ9b
            · exact Lib.hid (by have h1 : d'.waits.length ≤ dk.waits.length + 1 := HWN.out; have := HWX.out; omega)
            · exact Lib.hid (by have := HLL.out; omega)
        · have hjw := HJ9.out
          rw [if_neg h0] at hjw
          have HJ9b := Lib.hid hjw
          have b0 : (ed != 0) = true := by simpa using h0
          clear hjw hd' hs' hk' hz' hr' hj'
          go_wp2
          go_ret
          rw [← HJ9b.out]
          exact ⟨rfl, D', HDKn.out, fun z hz => (HDSn.out z hz).imp id (fun h => Nat.le_trans HW2S.out h), HKPn.out⟩

end Go.Proofs.Ytbnicphegbdfnaa.JD
