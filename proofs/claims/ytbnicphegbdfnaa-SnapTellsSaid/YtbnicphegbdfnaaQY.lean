/-
  The document's Begin: a first snapshot.
  Conditions: those that each lemma names.
-/
import Derived.Test.YtbnicphegbdfnaaQX
namespace Go.Proofs.Ytbnicphegbdfnaa.QY
set_option maxRecDepth 100000
open Go Go.RowKit Go.Proofs.Ytbnicphegbdfnaa Go.Proofs.Ytbnicphegbdfnaa.Facts Go.Proofs.Ytbnicphegbdfnaa.Bytes Go.Proofs.Ytbnicphegbdfnaa.DKeep Go.Proofs.Ytbnicphegbdfnaa.DSmall Go.Proofs.Ytbnicphegbdfnaa.SPure Go.Proofs.Ytbnicphegbdfnaa.DRefA Go.Proofs.Ytbnicphegbdfnaa.DRefB Go.Proofs.Ytbnicphegbdfnaa.DRefC Go.Proofs.Ytbnicphegbdfnaa.DSim Go.Proofs.Ytbnicphegbdfnaa.DRefD Go.Proofs.Ytbnicphegbdfnaa.DLawA Go.Proofs.Ytbnicphegbdfnaa.AP Go.Proofs.Ytbnicphegbdfnaa.AQ Go.Proofs.Ytbnicphegbdfnaa.AV Go.Proofs.Ytbnicphegbdfnaa.RA Go.Proofs.Ytbnicphegbdfnaa.RG Go.Proofs.Ytbnicphegbdfnaa.RH Go.Proofs.Ytbnicphegbdfnaa.QA Go.Proofs.Ytbnicphegbdfnaa.QN Go.Proofs.Ytbnicphegbdfnaa.QR Go.Proofs.Ytbnicphegbdfnaa.QW Go.Proofs.Ytbnicphegbdfnaa.QL Go.Proofs.Ytbnicphegbdfnaa.SP Go.Proofs.Ytbnicphegbdfnaa.SN Go.Proofs.Ytbnicphegbdfnaa.SB Go.Proofs.Ytbnicphegbdfnaa.SSeal Go.Proofs.Ytbnicphegbdfnaa.QX

/-- Sectors of zeros are written, rising. -/
def zrw (first : Nat) : Nat → Rp → Rp × Int
  | 0, r => (r, 0)
  | i + 1, r => if (zrw first i r).2 = 0 then rwritten (zrw first i r).1 ((first + i : Nat) : Int) (zeros 128) else zrw first i r
theorem zrw_stop (first i : Nat) (r : Rp) (h : ¬ (zrw first i r).2 = 0) : ∀ k, zrw first (i + k) r = zrw first i r
  | 0 => rfl
  | k + 1 => by
    have := zrw_stop first i r h k
    show (if (zrw first (i + k) r).2 = 0 then _ else _) = _
    rw [this, if_neg h]
    exact this
theorem zw_sim {d : Pd} {r : Rp} (h : Sim d r) (first : Nat) : ∀ i, (zw first i d).2 = (zrw first i r).2 ∧ Sim (zw first i d).1 (zrw first i r).1
  | 0 => ⟨rfl, h⟩
  | i + 1 => by
    obtain ⟨h1, h2⟩ := zw_sim h first i
    show (if (zw first i d).2 = 0 then _ else _ : Pd × Int).2 = (if (zrw first i r).2 = 0 then _ else _ : Rp × Int).2 ∧ Sim (if (zw first i d).2 = 0 then _ else _ : Pd × Int).1 (if (zrw first i r).2 = 0 then _ else _ : Rp × Int).1
    rw [h1]
    split
    · exact h2.written _ _
    · exact ⟨h1, h2⟩
def beginR (r : Rp) (f m : Nat) (b : List UInt8) : Rp × Int :=
  if (zrw (f + m) m r).2 = 0 then (if (rflushed (zrw (f + m) m r).1).2 = 0 then keepR (rflushed (zrw (f + m) m r).1).1 f 1 m b else rflushed (zrw (f + m) m r).1) else zrw (f + m) m r
theorem begin_sim {d : Pd} {r : Rp} (h : Sim d r) (f m : Nat) (b : List UInt8) (hb : b.length + 4 ≤ 108 * m) : (beginP d f m b).2 = (beginR r f m b).2 ∧ Sim (beginP d f m b).1 (beginR r f m b).1 := by
  obtain ⟨h1, h2⟩ := zw_sim h (f + m) m
  obtain ⟨h3, h4⟩ := h2.flushed
  unfold beginP beginR
  rw [h1, h3]
  split
  · split
    · exact keep_sim h4 _ _ _ _ hb
    · exact ⟨h3, h4⟩
  · exact ⟨h1, h2⟩
theorem rflushed_ok (r : Rp) (h : (rflushed r).2 = 0) : (rflushed r).1.off = false := by
  unfold rflushed at h ⊢
  by_cases ho : r.off = true
  · rw [if_pos ho] at h
    have h : (15 : Int) = 0 := h
    omega
  · rw [if_neg ho] at h ⊢
    by_cases hf : r.fuse = 0
    · rw [if_pos hf] at h
      have h : (15 : Int) = 0 := h
      omega
    · rw [if_neg hf]
      show (rburnt r).off = false
      simp [rburnt, hf, ho]
theorem rflushed_now (r : Rp) : (rflushed r).1.now.length = r.now.length ∧ (rflushed r).1.waits.length ≤ r.waits.length := by
  unfold rflushed
  split
  · exact ⟨rfl, Nat.le_refl _⟩
  · split
    · exact ⟨rfl, Nat.le_refl _⟩
    · exact ⟨rfl, Nat.zero_le _⟩
theorem zrw_now (first : Nat) (r : Rp) : ∀ i, (zrw first i r).1.now.length = r.now.length ∧ (zrw first i r).1.waits.length ≤ r.waits.length + i
  | 0 => ⟨rfl, Nat.le_refl _⟩
  | i + 1 => by
    obtain ⟨h1, h2⟩ := zrw_now first r i
    show (if (zrw first i r).2 = 0 then _ else _ : Rp × Int).1.now.length = _ ∧ (if (zrw first i r).2 = 0 then _ else _ : Rp × Int).1.waits.length ≤ _
    split
    · have h3 := rwritten_now (zrw first i r).1 ((first + i : Nat) : Int) (zeros 128)
      have h4 := rwritten_waits (zrw first i r).1 ((first + i : Nat) : Int) (zeros 128)
      exact ⟨h3.trans h1, by omega⟩
    · exact ⟨h1, by omega⟩
/-- A region that makes a sector of zeros, writes it, and stores the disk that it got. -/
def T9 (W0 : World) (r' : Rp) (e : Int) (Q : World → Prop) : Nat → Value → Value → Value → Value → World → Prop
  | 0, _, _, _, _, y => Grew W0 y
  | 1, z, _, _, _, y => Grew W0 y ∧ Rd (fun _ => True) y z (zeros 128)
  | 2, _, a, _, _, y => Grew W0 y ∧ ∃ v', a = .tuple #[v', .int .i64 e] ∧ RD y v' r'
  | 3, _, _, b, _, y => Grew W0 y ∧ ∃ v', b = .tuple #[v', .int .i64 e] ∧ RD y v' r'
  | 4, _, _, b, c, y => Grew W0 y ∧ b = .tuple #[c, .int .i64 e] ∧ RD y c r'
  | _, _, _, b, c, y => b = .tuple #[c, .int .i64 e] ∧ Q y
def P9 (z a b c : Nat) (W0 : World) (r' : Rp) (e : Int) (Q : World → Prop) (i : Nat) (u : Nat → Value) (y : World) : Prop := T9 W0 r' e Q i (u z) (u a) (u b) (u c) y
theorem P9.upd {z a b c : Nat} {W0 : World} {r' : Rp} {e : Int} {Q : World → Prop} {i j : Nat} {u : Nat → Value} {x : Value} {w : World} (hj : (j == z || j == a || j == b || j == c) = false) (h : P9 z a b c W0 r' e Q i u w) : P9 z a b c W0 r' e Q i (Marks.updv u j x) w := by
  have e1 : Marks.updv u j x z = u z := Marks.updv_other u x (fun e => by subst e; simp at hj)
  have e2 : Marks.updv u j x a = u a := Marks.updv_other u x (fun e => by subst e; simp at hj)
  have e4 : Marks.updv u j x b = u b := Marks.updv_other u x (fun e => by subst e; simp at hj)
  have e5 : Marks.updv u j x c = u c := Marks.updv_other u x (fun e => by subst e; simp at hj)
  unfold P9 at h ⊢
  rw [e1, e2, e4, e5]
  exact h
theorem P9.early {z a b c : Nat} {W0 : World} {r' : Rp} {e : Int} {Q : World → Prop} {i : Nat} {u : Nat → Value} {w : World} (hi : i ≤ 2) (h : P9 z a b c W0 r' e Q i u w) : Grew W0 w := by
  unfold P9 at h
  match i, hi with
  | 0, _ => exact h
  | 1, _ => exact h.1
  | 2, _ => exact h.1
theorem P9.tup {z a b c : Nat} {W0 : World} {r' : Rp} {e : Int} {Q : World → Prop} {i : Nat} {u : Nat → Value} {w : World} (hi : 2 < i) (h : P9 z a b c W0 r' e Q i u w) : ∃ v', u b = .tuple #[v', .int .i64 e] := by
  unfold P9 at h
  match i, hi with
  | 3, _ => obtain ⟨_, v', h1, _⟩ := h; exact ⟨v', h1⟩
  | 4, _ => obtain ⟨_, h1, _⟩ := h; exact ⟨_, h1⟩
  | n + 5, _ => exact ⟨_, h.1⟩
section
variable {P : Program} {ops : Array Oper} {o : Oper} {ac : Act} {w : World} {R : World → World → Prop} {J' : Value → World → Prop} {g : Value → World → Prop}
theorem one_extract (hgd : o.guard = none) (x : Operand) (k : Nat) (ho : o.op = .extract x k) (vs : Array Value) (hx : ac.eval x = .tuple vs) {v : Value} (hv : vs[k]? = some v) (h : R w w ∧ J' v w ∧ g v w) : Marks.one P ops o ac w R J' g := by
  unfold Marks.one
  rw [if_pos (by unfold Region.wanted; rw [hgd])]
  unfold execOp
  simp only [ho, hx, Sem.run_bind, Sem.run_pure, Result.andThen_ok]
  simp [Instr.extract, hv]
  exact h
theorem one_move (hgd : o.guard = none) (x : Operand) (ho : o.op = .move x) {v : Value} (hx : ac.eval x = v) (h : R w w ∧ J' v w ∧ g v w) : Marks.one P ops o ac w R J' g := by
  unfold Marks.one
  rw [if_pos (by unfold Region.wanted; rw [hgd])]
  unfold execOp
  simp only [ho, hx, Sem.run_bind, Sem.run_pure, Result.andThen_ok]
  exact h
theorem one_make (hgd : o.guard = none) (t : TypeId) (x y : Operand) (ho : o.op = .makeSlice t x y) (vx vy : Value) (hx : ac.eval x = vx) (hy : ac.eval y = vy) {v : Value} {w' : World} (hr : (Instr.makeSlice t vx vy).run P w = .ok v w') (h : R w w' ∧ J' v w' ∧ g v w') : Marks.one P ops o ac w R J' g := by
  unfold Marks.one
  rw [if_pos (by unfold Region.wanted; rw [hgd])]
  unfold execOp
  simp only [ho, hx, hy, Sem.run_bind, Sem.run_pure, Result.andThen_ok, hr]
  exact h
end
theorem made_zeros (W : World) : Rd (fun _ => True) (W.alloc (.cells (madeCells #[.int .u8 0] 128) 5)) (.slice (some ⟨W.heap.size, 0, none⟩) 128 128) (zeros 128) := by
  have h := made_at W 128
  have h2 : (W.alloc (.cells (madeCells #[.int .u8 0] 128) 5)).ownsRow W.heap.size 5 1 (.slice (some ⟨W.heap.size, 0, none⟩) 128 128) 128 (bv (zeros 128)) :=
    ⟨by rw [bv_length, zeros_length, Nat.mul_one], .inr ⟨W.heap.size, 128, _, rfl, Nat.le_refl _, h, Nat.le_refl _, by decide, by simp [bv_length, zeros_length], by rw [List.take_of_length_le (by simp [bv_length, zeros_length])]⟩⟩
  exact (Rd.of_own h2 (zeros_length 128).symm).mono fun _ _ => trivial
set_option maxHeartbeats 8000000 in
theorem begin_no (r : Rp) (v : Value) (w : World) (hrd : RD w v r) (first many : Int) (vb : Value) (q : Int) (hn : r.now.length ≤ 16384) (hq : sref r.now.length r.off first many = q) (h0 : ¬ q = 0) :
    Calls Try.prog 41 #[v, .int .i64 first, .int .i64 many, vb] w fun e y => ANS w r q e y := by
  obtain ⟨⟨A1, A2, A3, c1, c2, c3, rfl, _⟩, _⟩ := id hrd
  have HWQ := Lib.hid (WQ.start hrd)
  have HAB : Hid (∀ A1 A2 A3 c1 c2 c3 W, Calls Try.prog 78 #[dv A1 A2 A3 r.now.length r.safe.length r.waits.length c1 c2 c3 r.fuse r.off, .int .i64 first, .int .i64 many] W fun e w' => e = .returned (.int .i64 q) ∧ Grew W w') := Lib.hid fun A1 A2 A3 c1 c2 c3 W => by
    have h := sable_any A1 A2 A3 r.now.length r.safe.length r.waits.length c1 c2 c3 r.fuse r.off first many W hn
    rwa [hq] at h
  have hq0 : (q != 0) = true := by simpa using h0
  clear hrd hn hq
  unfold dv
  go_enter Try.func41, Try.ntmps41
  go_upto_region 1 with fail
  unfold d5 at HWQ
  have HWQ0 : Hid (WQ w w.heap.size (w.heap.size + 1) r ((w.alloc (.cells #[.slice A1 r.now.length c1, .slice A2 r.safe.length c2, .slice A3 r.waits.length c3, .int .i64 r.fuse, .bool r.off] 49)).alloc (.cells #[.slice none 0 0, .slice none 0 0, .slice none 0 0, .int .i64 0, .bool false] 49))) := HWQ
  clear HWQ
  generalize (w.alloc (.cells #[.slice A1 r.now.length c1, .slice A2 r.safe.length c2, .slice A3 r.waits.length c3, .int .i64 r.fuse, .bool r.off] 49)).alloc (.cells #[.slice none 0 0, .slice none 0 0, .slice none 0 0, .int .i64 0, .bool false] 49) = W0 at *
  obtain ⟨BP, hBP⟩ : ∃ BP, w.heap.size = BP := ⟨_, rfl⟩
  rw [hBP] at HWQ0 ⊢
  obtain ⟨BR, hBR⟩ : ∃ BR, BP + 1 = BR := ⟨_, rfl⟩
  rw [hBR] at HWQ0 ⊢
  have HBP := Lib.hid hBP
  clear hBP hBR
  obtain ⟨B1, B2, B3, d1, d2, d3, hrd0, hld0, _⟩ := HWQ0.out.bx.load
  have HL1 := Lib.hid hld0
  clear hrd0 hld0
  go_wp2_with (refine DArm.wpList_load (by rfl) 49 (.tmp 4) (by with_reducible rfl) _ _ (by rfl) HL1.out ?_)
  refine (HAB.out B1 B2 B3 d1 d2 d3 W0).mono ?_
  rintro e W1 ⟨rfl, hg1⟩
  have HWQ1 := Lib.hid (HWQ0.out.grew hg1)
  clear hg1 HL1 HAB HWQ0
  obtain ⟨B1, B2, B3, d1, d2, d3, zz, hfq⟩ := HWQ1.out.fin
  have HFQ := Lib.hid hfq
  have l6 := hfq.res
  clear hfq
  go_wp2_with (first
    | refine DArm.wpList_load (by rfl) 49 (.tmp 4) (by with_reducible rfl) _ _ (by rfl) HFQ.out.ld ?_
    | refine DArm.wpList_store (by rfl) 49 (.tmp 8) (.tmp 18) (by with_reducible rfl) _ _ (by rfl) (by rfl) _ HFQ.out.st ?_)
  refine bodyPost_ret (v := .tuple #[dv B1 B2 B3 (r).now.length (r).safe.length (r).waits.length d1 d2 d3 (r).fuse (r).off, .int .i64 q]) ?_ rfl (⟨_, rfl, HFQ.out.rd, HFQ.out.gr⟩)
  simp [results, Try.results41]
  simp [asAddr, l6, d5, dv]
set_option maxHeartbeats 8000000 in
theorem begin_long (r : Rp) (v : Value) (w : World) (hrd : RD w v r) (f m : Nat) (A : Option Addr) (n c : Nat) (hn : r.now.length ≤ 16384) (hq : sref r.now.length r.off (f : Int) (m : Int) = 0) (hl : 108 * m < n + 4) :
    Calls Try.prog 41 #[v, .int .i64 (f : Int), .int .i64 (m : Int), .slice A n c] w fun e y => ANS w r 13 e y := by
  obtain ⟨⟨A1, A2, A3, c1, c2, c3, rfl, _⟩, _⟩ := id hrd
  obtain ⟨k1, k2, _⟩ := sref_fit hq
  have HWQ := Lib.hid (WQ.start hrd)
  have HAB : Hid (∀ A1 A2 A3 c1 c2 c3 W, Calls Try.prog 78 #[dv A1 A2 A3 r.now.length r.safe.length r.waits.length c1 c2 c3 r.fuse r.off, .int .i64 (f : Int), .int .i64 (m : Int)] W fun e w' => e = .returned (.int .i64 0) ∧ Grew W w') := Lib.hid fun A1 A2 A3 c1 c2 c3 W => by
    have h := sable_any A1 A2 A3 r.now.length r.safe.length r.waits.length c1 c2 c3 r.fuse r.off (f : Int) (m : Int) W hn
    rwa [hq] at h
  obtain ⟨M, hM⟩ : ∃ M, 108 * m = M := ⟨_, rfl⟩
  have hmi : IntKind.i64.wrap (108 * (m : Int)) = (M : Int) := by rw [IntWalk.i64_in _ (by omega)]; omega
  have hm4 : IntKind.i64.wrap ((M : Int) - 4) = (M : Int) - 4 := IntWalk.i64_in _ (by omega)
  have hlong : (M : Int) - 4 < (n : Int) := by omega
  rename_i hoff
  clear hrd hn hq hl k1 k2 hM hoff
  unfold dv
  go_enter Try.func41, Try.ntmps41
  go_upto_region 1 with fail
  unfold d5 at HWQ
  have HWQ0 : Hid (WQ w w.heap.size (w.heap.size + 1) r ((w.alloc (.cells #[.slice A1 r.now.length c1, .slice A2 r.safe.length c2, .slice A3 r.waits.length c3, .int .i64 r.fuse, .bool r.off] 49)).alloc (.cells #[.slice none 0 0, .slice none 0 0, .slice none 0 0, .int .i64 0, .bool false] 49))) := HWQ
  clear HWQ
  generalize (w.alloc (.cells #[.slice A1 r.now.length c1, .slice A2 r.safe.length c2, .slice A3 r.waits.length c3, .int .i64 r.fuse, .bool r.off] 49)).alloc (.cells #[.slice none 0 0, .slice none 0 0, .slice none 0 0, .int .i64 0, .bool false] 49) = W0 at *
  obtain ⟨BP, hBP⟩ : ∃ BP, w.heap.size = BP := ⟨_, rfl⟩
  rw [hBP] at HWQ0 ⊢
  obtain ⟨BR, hBR⟩ : ∃ BR, BP + 1 = BR := ⟨_, rfl⟩
  rw [hBR] at HWQ0 ⊢
  have HBP := Lib.hid hBP
  clear hBP hBR
  obtain ⟨B1, B2, B3, d1, d2, d3, hrd0, hld0, _⟩ := HWQ0.out.bx.load
  have HL1 := Lib.hid hld0
  clear hrd0 hld0
  go_wp2_with (refine DArm.wpList_load (by rfl) 49 (.tmp 4) (by with_reducible rfl) _ _ (by rfl) HL1.out ?_)
  refine (HAB.out B1 B2 B3 d1 d2 d3 W0).mono ?_
  rintro e W1 ⟨rfl, hg1⟩
  have HWQ1 := Lib.hid (HWQ0.out.grew hg1)
  clear hg1 HL1 HAB HWQ0
  obtain ⟨B1, B2, B3, d1, d2, d3, zz, hfq⟩ := HWQ1.out.fin
  have HFQ := Lib.hid hfq
  have l6 := hfq.res
  clear hfq
  go_wp2_with (first
    | refine DArm.wpList_load (by rfl) 49 (.tmp 4) (by with_reducible rfl) _ _ (by rfl) HFQ.out.ld ?_
    | refine DArm.wpList_store (by rfl) 49 (.tmp 8) (.tmp 26) (by with_reducible rfl) _ _ (by rfl) (by rfl) _ HFQ.out.st ?_)
  refine bodyPost_ret (v := .tuple #[dv B1 B2 B3 (r).now.length (r).safe.length (r).waits.length d1 d2 d3 (r).fuse (r).off, .int .i64 13]) ?_ rfl (⟨_, rfl, HFQ.out.rd, HFQ.out.gr⟩)
  simp [results, Try.results41]
  simp [asAddr, l6, d5, dv]
set_option maxHeartbeats 16000000 in
theorem begin_any (r : Rp) (v : Value) (w : World) (hrd : RD w v r) (f m : Nat) (A : Option Addr) (c : Nat) (b : List UInt8) (hn : r.now.length ≤ 16384) (hq : sref r.now.length r.off (f : Int) (m : Int) = 0) (S : Nat → Prop) (hb : Rd S w (.slice A b.length c) b) (hl : b.length + 4 ≤ 108 * m) (hw : r.waits.length ≤ 900000000) :
    Calls Try.prog 41 #[v, .int .i64 (f : Int), .int .i64 (m : Int), .slice A b.length c] w fun e y => ANS w (beginR r f m b).1 (beginR r f m b).2 e y := by
  obtain ⟨⟨A1, A2, A3, c1, c2, c3, rfl, _⟩, _⟩ := id hrd
  obtain ⟨k1, k2, k3⟩ := sref_fit hq
  have HWQ := Lib.hid (WQ.start hrd)
  have HAB : Hid (∀ A1 A2 A3 c1 c2 c3 W, Calls Try.prog 78 #[dv A1 A2 A3 r.now.length r.safe.length r.waits.length c1 c2 c3 r.fuse r.off, .int .i64 (f : Int), .int .i64 (m : Int)] W fun e w' => e = .returned (.int .i64 0) ∧ Grew W w') := Lib.hid fun A1 A2 A3 c1 c2 c3 W => by
    have h := sable_any A1 A2 A3 r.now.length r.safe.length r.waits.length c1 c2 c3 r.fuse r.off (f : Int) (m : Int) W hn
    rwa [hq] at h
  have HWRT : Hid (∀ (r9 : Rp) (A1 A2 A3 : Option Addr) (c1 c2 c3 : Nat) W, Grew w W → r9.now.length = r.now.length → r9.off = false → r9.waits.length ≤ 1000000000 → RD W (dv A1 A2 A3 r9.now.length r9.safe.length r9.waits.length c1 c2 c3 r9.fuse r9.off) r9 → Calls Try.prog 80 #[dv A1 A2 A3 r9.now.length r9.safe.length r9.waits.length c1 c2 c3 r9.fuse r9.off, .int .i64 (f : Int), .int .i64 (m : Int), .int .u64 1, .slice A b.length c] W fun e y => ANS W (rgw f 1 (place m b) m 0 r9).1 (rgw f 1 (place m b) m 0 r9).2 e y) := Lib.hid fun r9 A1 A2 A3 c1 c2 c3 W hW he ho hww hr => write_any r9 _ W hr f m 1 _ _ rfl rfl A c b S (hb.grew hW) (by omega) (aref_of (by omega) k2 ho) (by decide) hl hww
  obtain ⟨M, hM⟩ : ∃ M, 108 * m = M := ⟨_, rfl⟩
  have hmi : IntKind.i64.wrap (108 * (m : Int)) = (M : Int) := by rw [IntWalk.i64_in _ (by omega)]; omega
  have hm4 : IntKind.i64.wrap ((M : Int) - 4) = (M : Int) - 4 := IntWalk.i64_in _ (by omega)
  have hlong : ¬ (M : Int) - 4 < (b.length : Int) := by omega
  obtain ⟨fm, hfm⟩ : ∃ fm, f + m = fm := ⟨_, rfl⟩
  have hwf : IntKind.i64.wrap ((f : Int) + (m : Int)) = (fm : Int) := by rw [IntWalk.i64_in _ (by omega)]; omega
  have HK1 : Hid (fm + m ≤ r.now.length ∧ r.now.length ≤ 16384) := Lib.hid (by omega)
  have HW := Lib.hid hw
  obtain ⟨Y, hY⟩ : ∃ Y, beginR r f m b = Y := ⟨_, rfl⟩
  rw [hY]
  unfold beginR at hY
  rw [hfm] at hY
  have HY := Lib.hid hY
  obtain ⟨n0, hn0⟩ : ∃ n0, r.now.length = n0 := ⟨_, rfl⟩
  have HN0 := Lib.hid hn0
  clear hrd hn hq hl k1 k3 hM hb hw hY hfm hn0
  unfold dv
  go_enter Try.func41, Try.ntmps41
  go_upto_region 1 with fail
  unfold d5 at HWQ
  have HWQ0 : Hid (WQ w w.heap.size (w.heap.size + 1) r ((w.alloc (.cells #[.slice A1 r.now.length c1, .slice A2 r.safe.length c2, .slice A3 r.waits.length c3, .int .i64 r.fuse, .bool r.off] 49)).alloc (.cells #[.slice none 0 0, .slice none 0 0, .slice none 0 0, .int .i64 0, .bool false] 49))) := HWQ
  clear HWQ
  generalize (w.alloc (.cells #[.slice A1 r.now.length c1, .slice A2 r.safe.length c2, .slice A3 r.waits.length c3, .int .i64 r.fuse, .bool r.off] 49)).alloc (.cells #[.slice none 0 0, .slice none 0 0, .slice none 0 0, .int .i64 0, .bool false] 49) = W0 at *
  obtain ⟨BP, hBP⟩ : ∃ BP, w.heap.size = BP := ⟨_, rfl⟩
  rw [hBP] at HWQ0 ⊢
  obtain ⟨BR, hBR⟩ : ∃ BR, BP + 1 = BR := ⟨_, rfl⟩
  rw [hBR] at HWQ0 ⊢
  have HBP := Lib.hid hBP
  clear hBP hBR
  obtain ⟨B1, B2, B3, d1, d2, d3, hrd0, hld0, _⟩ := HWQ0.out.bx.load
  have HL1 := Lib.hid hld0
  clear hrd0 hld0
  go_wp2_with (refine DArm.wpList_load (by rfl) 49 (.tmp 4) (by with_reducible rfl) _ _ (by rfl) HL1.out ?_)
  refine (HAB.out B1 B2 B3 d1 d2 d3 W0).mono ?_
  rintro e W1 ⟨rfl, hg1⟩
  have HWQ1 := Lib.hid (HWQ0.out.grew hg1)
  clear hg1 HL1 HAB HWQ0
  go_wp2_with fail
  go_loopg [10, 11] m (fun q s10 s11 wx => ∃ (k : Nat) (r1 : Rp), k + q = m ∧ s11 = .int .i64 (k : Int) ∧ s10 = .int .i64 0 ∧ Hid (zrw fm k r = (r1, 0)) ∧ Hid (WQ w BP BR r1 wx))
  case atStart => exact ⟨0, r, Nat.zero_add _, rfl, rfl, Lib.hid rfl, HWQ1⟩
  case round =>
    obtain ⟨k, r1, hkq, rfl, rfl, HZ, HWQ⟩ := hrel
    clear HWQ1
    have HNX : Hid (r1.now.length = r.now.length ∧ r1.waits.length ≤ r.waits.length + k) := Lib.hid (by have h := zrw_now fm r k; rw [HZ.out] at h; exact h)
    cases gk with
    | zero =>
      have hke : ¬ (k : Int) < (m : Int) := by omega
      obtain rfl : k = m := by omega
      have hz := HZ.out
      have hyy := HY.out
      rw [hz, if_pos rfl] at hyy
      have HY2 := Lib.hid hyy
      clear HY hyy HZ hz
      obtain ⟨B1, B2, B3, d1, d2, d3, hrd0, hld0, _⟩ := HWQ.out.bx.load
      have HL1 := Lib.hid hld0
      rcases hfl : rflushed r1 with ⟨r2, q2⟩
      have HC1 := Lib.hid (rflush_eq r1 _ wr r2 q2 hrd0 hfl)
      have hyy := HY2.out
      rw [hfl] at hyy
      have HY3 := Lib.hid hyy
      have HR2 : Hid ((q2 = 0 → r2.off = false) ∧ r2.now.length = r.now.length ∧ r2.waits.length ≤ 1000000000) := Lib.hid (by
        have h1 := rflushed_ok r1
        have h2 := rflushed_now r1
        rw [hfl] at h1 h2
        have h3 := HNX.out
        have h4 := HW.out
        have h5 := HK1.out
        exact ⟨h1, h2.1.trans h3.1, by have := h2.2; simp only at this; omega⟩)
      clear hrd0 hld0 hfl hyy HY2 HNX
      go_wp2_with (refine DArm.wpList_load (by rfl) 49 (.tmp 4) (by with_reducible rfl) _ _ (by rfl) HL1.out ?_)
      refine HC1.out.mono ?_
      rintro e W2 ⟨v2, rfl, hr2, hg2⟩
      obtain ⟨z, hst, hwq, _⟩ := (HWQ.out.grew hg2).put hr2
      have HSTO := Lib.hid hst
      have HWZ := Lib.hid hwq
      clear hr2 hg2 hst hwq HC1 HL1 HWQ
      by_cases hq2 : q2 = 0
      · subst hq2
        have hyy := HY3.out
        rw [if_pos rfl] at hyy
        have HY4 := Lib.hid hyy
        clear hyy HY3
        obtain ⟨B1, B2, B3, d1, d2, d3, hrd0, hld0, _⟩ := HWZ.out.bx.load
        have HL1 := Lib.hid hld0
        have HC1 := Lib.hid (HWRT.out r2 B1 B2 B3 d1 d2 d3 z HWZ.out.gr HR2.out.2.1 (HR2.out.1 rfl) HR2.out.2.2 hrd0)
        clear hrd0 hld0 HWRT
        go_wp2_with (first
          | refine DArm.wpList_store (by rfl) 49 (.tmp 4) (.tmp 50) (by with_reducible rfl) _ _ (by rfl) (by rfl) _ HSTO.out ?_
          | refine DArm.wpList_load (by rfl) 49 (.tmp 4) (by with_reducible rfl) _ _ (by rfl) HL1.out ?_)
        refine HC1.out.mono ?_
        rcases hgw : rgw f 1 (place k b) k 0 r2 with ⟨r3, q3⟩
        have hyy := HY4.out
        unfold keepR at hyy
        rw [hgw] at hyy
        have HYZ := Lib.hid hyy
        rintro e W4 ⟨v4, rfl, hr4, hg4⟩
        obtain ⟨z4, hst4, hwq4, _⟩ := (HWZ.out.grew hg4).put hr4
        have HSTO4 := Lib.hid hst4
        have HWZ4 := Lib.hid hwq4
        clear hr4 hg4 hst4 hwq4 HC1 HL1 hgw hyy HY4 HSTO HWZ
        simp only
        by_cases hq3 : q3 = 0
        · subst hq3
          have hyz := HYZ.out
          rw [if_pos rfl] at hyz
          have HYF := Lib.hid hyz
          clear hyz HYZ
          obtain ⟨B1, B2, B3, d1, d2, d3, hrd0, hld0, _⟩ := HWZ4.out.bx.load
          have HL1 := Lib.hid hld0
          rcases hfl : rflushed r3 with ⟨r5, q5⟩
          have HC1 := Lib.hid (rflush_eq r3 _ z4 r5 q5 hrd0 hfl)
          have HYG : Hid (Y = (r5, q5)) := Lib.hid (by rw [← HYF.out, hfl])
          clear hrd0 hld0 hfl HYF
          go_wp2_with (first
            | refine DArm.wpList_store (by rfl) 49 (.tmp 4) (.tmp 62) (by with_reducible rfl) _ _ (by rfl) (by rfl) _ HSTO4.out ?_
            | refine DArm.wpList_load (by rfl) 49 (.tmp 4) (by with_reducible rfl) _ _ (by rfl) HL1.out ?_)
          refine HC1.out.mono ?_
          rintro e W5 ⟨v5, rfl, hr5, hg5⟩
          obtain ⟨B1, B2, B3, d1, d2, d3, rfl, _⟩ := id hr5.ex
          obtain ⟨zz, hst5, hbl5, hrd5, hgr5⟩ := (HWZ4.out.grew hg5).give hr5
          have HST5 := Lib.hid hst5
          have HBL5 := Lib.hid hbl5
          have HRD5 := Lib.hid hrd5
          have HGR5 := Lib.hid hgr5
          have l6 := run_loadVar_mid (P := Try.prog) zz BR 0 49 (d5 B1 B2 B3 r5.now.length r5.safe.length r5.waits.length d1 d2 d3 r5.fuse r5.off) _ (fun j v hv => by rw [cell_of_row _ _ _ _ _ _ HBL5.out, Nat.zero_add]; first | exact hv | simpa [d5] using hv) Try.underlying49 rfl size32
          clear hr5 hg5 hst5 hbl5 hrd5 hgr5 HC1 HL1
          go_wp2_with (refine DArm.wpList_store (by rfl) 49 (.tmp 8) (.tmp 70) (by with_reducible rfl) _ _ (by rfl) (by rfl) _ HST5.out ?_)
          refine bodyPost_ret (v := .tuple #[dv B1 B2 B3 r5.now.length r5.safe.length r5.waits.length d1 d2 d3 r5.fuse r5.off, .int .i64 q5]) ?_ rfl (by show ANS w Y.1 Y.2 _ _; rw [HYG.out]; exact ⟨_, rfl, HRD5.out, HGR5.out⟩)
          simp [results, Try.results41]
          simp [asAddr, l6, d5, dv]
        · have hqb : (q3 != 0) = true := by simpa using hq3
          have HYF : Hid (Y = (r3, q3)) := Lib.hid (by rw [← HYZ.out, if_neg hq3])
          clear hq3 HYZ
          obtain ⟨B1, B2, B3, d1, d2, d3, zz, hfq⟩ := HWZ4.out.fin
          have HFQ := Lib.hid hfq
          have l6 := hfq.res
          clear hfq
          go_wp2_with (first
            | refine DArm.wpList_store (by rfl) 49 (.tmp 4) (.tmp 62) (by with_reducible rfl) _ _ (by rfl) (by rfl) _ HSTO4.out ?_
            | refine DArm.wpList_load (by rfl) 49 (.tmp 4) (by with_reducible rfl) _ _ (by rfl) HFQ.out.ld ?_
            | refine DArm.wpList_store (by rfl) 49 (.tmp 8) (.tmp 66) (by with_reducible rfl) _ _ (by rfl) (by rfl) _ HFQ.out.st ?_)
          refine bodyPost_ret (v := .tuple #[dv B1 B2 B3 (r3).now.length (r3).safe.length (r3).waits.length d1 d2 d3 (r3).fuse (r3).off, .int .i64 q3]) ?_ rfl (by show ANS w Y.1 Y.2 _ _; rw [HYF.out]; exact ⟨_, rfl, HFQ.out.rd, HFQ.out.gr⟩)
          simp [results, Try.results41]
          simp [asAddr, l6, d5, dv]
      · have hqb : (q2 != 0) = true := by simpa using hq2
        have HYF : Hid (Y = (r2, q2)) := Lib.hid (by rw [← HY3.out, if_neg hq2])
        clear hq2 HY3
        obtain ⟨B1, B2, B3, d1, d2, d3, zz, hfq⟩ := HWZ.out.fin
        have HFQ := Lib.hid hfq
        have l6 := hfq.res
        clear hfq
        go_wp2_with (first
          | refine DArm.wpList_store (by rfl) 49 (.tmp 4) (.tmp 50) (by with_reducible rfl) _ _ (by rfl) (by rfl) _ HSTO.out ?_
          | refine DArm.wpList_load (by rfl) 49 (.tmp 4) (by with_reducible rfl) _ _ (by rfl) HFQ.out.ld ?_
          | refine DArm.wpList_store (by rfl) 49 (.tmp 8) (.tmp 54) (by with_reducible rfl) _ _ (by rfl) (by rfl) _ HFQ.out.st ?_)
        refine bodyPost_ret (v := .tuple #[dv B1 B2 B3 (r2).now.length (r2).safe.length (r2).waits.length d1 d2 d3 (r2).fuse (r2).off, .int .i64 q2]) ?_ rfl (by show ANS w Y.1 Y.2 _ _; rw [HYF.out]; exact ⟨_, rfl, HFQ.out.rd, HFQ.out.gr⟩)
        simp [results, Try.results41]
        simp [asAddr, l6, d5, dv]
    | succ q =>
      have hke : (k : Int) < (m : Int) := by omega
      obtain ⟨ix, hix⟩ : ∃ ix, fm + k = ix := ⟨_, rfl⟩
      have e2 : IntKind.i64.wrap ((fm : Int) + (k : Int)) = (ix : Int) := by rw [IntWalk.i64_in _ (by have := HK1.out; omega)]; omega
      have hk1 : IntKind.i64.wrap ((k : Int) + 1) = (k : Int) + 1 := IntWalk.i64_in _ (by have := HK1.out; omega)
      rcases hwr : rwritten r1 (ix : Int) (zeros 128) with ⟨r2, q2⟩
      have HZ2 : Hid (zrw fm (k + 1) r = (r2, q2)) := Lib.hid (by
        show (if (zrw fm k r).2 = 0 then rwritten (zrw fm k r).1 ((fm + k : Nat) : Int) (zeros 128) else zrw fm k r) = _
        rw [HZ.out, if_pos rfl, hix, hwr])
      have HWR := Lib.hid hwr
      have HRN : Hid (r1.now.length ≤ 16384) := Lib.hid (by have := HNX.out.1; have := HK1.out.2; omega)
      have HRW : Hid (r1.waits.length ≤ 1073741823) := Lib.hid (by have := HNX.out.2; have := HW.out; have := HK1.out; omega)
      clear hwr hix HZ HNX
      obtain ⟨B1, B2, B3, d1, d2, d3, hrd1, hld1, hbx1⟩ := HWQ.out.bx.load
      have HRD1 := Lib.hid hrd1
      have HBX1 := Lib.hid hbx1
      clear hrd1 hld1 hbx1
      go_upto_region 9 with fail
      refine Chain.wp_chain [6, 7, 8, 9, 11] (P9 6 7 8 9 wr r2 q2 (fun y => WQ w BP BR r2 y)) (by kernel_rfl) (by kernel_rfl) ((Grew.refl _).drew) ?_
      apply Marks.Lex.exact [] (dv B1 B2 B3 r1.now.length r1.safe.length r1.waits.length d1 d2 d3 r1.fuse r1.off) (by kernel_rfl)
      · intro m u W hm hcl hJ _
        obtain ⟨ii, hii, hP⟩ := hJ.get hm 1 7 rfl (by decide)
        have hC : Grew wr W := P9.early (by omega) hP
        exact DWrite.one_load rfl 49 (.tmp 4) rfl _ _ rfl (load5 W BP _ _ _ _ _ _ _ _ _ _ _ (DWrite.keepB HBX1.out hC)) ⟨trivial, hJ.quiet (k := 0) _ (by rfl) (fun ii hh => P9.upd (by rfl) hh), rfl⟩
      simp only [Act.put, List.setIfInBounds_toArray, List.set_cons_zero, List.set_cons_succ, Nat.zero_add]
      apply Marks.Lex.exact [] _ (by kernel_rfl)
      · intro m u W hm hcl hJ _
        unfold Marks.one
        go_simp
        exact ⟨trivial, hJ.quiet (k := 1) _ (by rfl) (fun ii hh => P9.upd (by rfl) hh), rfl⟩
      simp only [Act.put, List.setIfInBounds_toArray, List.set_cons_zero, List.set_cons_succ, Nat.reduceAdd]
      apply Marks.Lex.exact [] _ (by kernel_rfl)
      · intro m u W hm hcl hJ _
        unfold Marks.one
        go_simp
        exact ⟨trivial, hJ.quiet (k := 2) _ (by rfl) (fun ii hh => P9.upd (by rfl) hh), rfl⟩
      simp only [Act.put, List.setIfInBounds_toArray, List.set_cons_zero, List.set_cons_succ, Nat.reduceAdd]
      apply Marks.Lex.exact [] _ (by kernel_rfl)
      · intro m u W hm hcl hJ _
        unfold Marks.one
        go_simp
        exact ⟨trivial, hJ.quiet (k := 3) _ (by rfl) (fun ii hh => P9.upd (by rfl) hh), rfl⟩
      simp only [Act.put, List.setIfInBounds_toArray, List.set_cons_zero, List.set_cons_succ, Nat.reduceAdd]
      apply Marks.Lex.exact [] _ (by kernel_rfl)
      · intro m u W hm hcl hJ _
        unfold Marks.one
        go_simp
        exact ⟨trivial, hJ.quiet (k := 4) _ (by rfl) (fun ii hh => P9.upd (by rfl) hh), rfl⟩
      simp only [Act.put, List.setIfInBounds_toArray, List.set_cons_zero, List.set_cons_succ, Nat.reduceAdd]
      apply Marks.Lex.exact [] _ (by kernel_rfl)
      · intro m u W hm hcl hJ _
        unfold Marks.one
        go_simp
        exact ⟨trivial, hJ.quiet (k := 5) _ (by rfl) (fun ii hh => P9.upd (by rfl) hh), rfl⟩
      simp only [Act.put, List.setIfInBounds_toArray, List.set_cons_zero, List.set_cons_succ, Nat.reduceAdd]
      apply Marks.Lex.know [] (fun _ _ => True) (by kernel_rfl) (fun _ _ _ _ _ => trivial)
      · intro m u W hm hcl hJ _
        obtain ⟨hP, hput⟩ := hJ.put 0 rfl hm hcl (by decide) (by decide)
        have hC : Grew wr W := hP
        exact one_make rfl 23 (.const (.int .i64 128)) (.const (.int .i64 128)) rfl _ _ rfl rfl (mk128 W) ⟨trivial, hput _ _ (fun _ => (show T9 _ _ _ _ 1 _ _ _ _ _ from by rw [Marks.updv_same]; exact ⟨hC.trans (grew_new _), made_zeros W⟩)), trivial⟩
      simp only [Act.put, List.setIfInBounds_toArray, List.set_cons_zero, List.set_cons_succ, Nat.reduceAdd]
      apply Marks.Lex.know [] (fun _ _ => True) (by kernel_rfl) (fun _ _ _ _ _ => trivial)
      · intro m u W hm hcl hJ _
        obtain ⟨hP, hput⟩ := hJ.put 1 rfl hm hcl (by decide) (by decide)
        obtain ⟨hC, hz⟩ := hP
        unfold Marks.one
        go_simp
        refine Chain.come_enter ?_
        refine (rwrite_eq r1 _ (u 6) (ix : Int) _ _ W r2 q2 (HRD1.out.grew hC) hz HRN.out HRW.out HWR.out).mono ?_
        rintro e w' ⟨v', rfl, hrd, hg⟩
        exact ⟨_, rfl, trivial, hput _ w' (fun _ => (show T9 _ _ _ _ 2 _ _ _ _ _ from by rw [Marks.updv_same]; exact ⟨hC.trans hg, v', rfl, hrd⟩)), trivial⟩
      simp only [Act.put, List.setIfInBounds_toArray, List.set_cons_zero, List.set_cons_succ, Nat.reduceAdd]
      apply Marks.Lex.know [] (fun _ _ => True) (by kernel_rfl) (fun _ _ _ _ _ => trivial)
      · intro m u W hm hcl hJ _
        obtain ⟨hP, hput⟩ := hJ.put 2 rfl hm hcl (by decide) (by decide)
        obtain ⟨hC, v', e11, hrd⟩ := hP
        exact one_move rfl (.tmp 40) rfl rfl ⟨trivial, hput _ W (fun _ => (show T9 _ _ _ _ 3 _ _ _ _ _ from by rw [Marks.updv_same]; exact ⟨hC, v', e11, hrd⟩)), trivial⟩
      simp only [Act.put, List.setIfInBounds_toArray, List.set_cons_zero, List.set_cons_succ, Nat.reduceAdd]
      apply Marks.Lex.know [] (fun _ _ => True) (by kernel_rfl) (fun _ _ _ _ _ => trivial)
      · intro m u W hm hcl hJ _
        obtain ⟨hP, hput⟩ := hJ.put 3 rfl hm hcl (by decide) (by decide)
        obtain ⟨hC, v', e12, hrd⟩ := hP
        exact one_extract rfl (.tmp 32) 0 rfl _ e12 (v := v') rfl ⟨trivial, hput v' W (fun _ => (show T9 _ _ _ _ 4 _ _ _ _ _ from by rw [Marks.updv_same, Marks.updv_other _ _ (by omega)]; exact ⟨hC, e12, hrd⟩)), trivial⟩
      simp only [Act.put, List.setIfInBounds_toArray, List.set_cons_zero, List.set_cons_succ, Nat.reduceAdd]
      apply Marks.Lex.exact [] (.int .i64 q2) (by kernel_rfl)
      · intro m u W hm hcl hJ _
        have h12 : m 8 = true := hcl 8 (by decide)
        obtain ⟨ii, hi1, hP⟩ := hJ.least 2 8 rfl h12
        obtain ⟨v', e12⟩ := P9.tup hi1 hP
        exact one_extract rfl (.tmp 32) 1 rfl _ e12 (v := .int .i64 q2) rfl ⟨trivial, hJ.quiet (k := 10) _ (by rfl) (fun ii hh => P9.upd (by rfl) hh), rfl⟩
      simp only [Act.put, List.setIfInBounds_toArray, List.set_cons_zero, List.set_cons_succ, Nat.reduceAdd]
      apply Marks.Lex.exact [] (undef) (by kernel_rfl)
      · intro m u W hm hcl hJ _
        obtain ⟨hP, hput⟩ := hJ.put 4 rfl hm hcl (by decide) (by decide)
        obtain ⟨hC, e12, hrd⟩ := hP
        obtain ⟨w', hst, hwq, hk⟩ := (HWQ.out.grew hC).put hrd
        refine DWrite.one_store rfl 49 (.tmp 4) (.tmp 41) rfl _ _ rfl rfl w' hst ⟨trivial, hput undef w' (fun _ => ?_), rfl⟩
        exact P9.upd (by rfl) (i := 5) (show T9 _ _ _ _ 5 _ _ _ _ _ from ⟨e12, hwq⟩)
      simp only [Act.put, List.setIfInBounds_toArray, List.set_cons_zero, List.set_cons_succ, Nat.reduceAdd]
      apply Marks.Lex.exact [] _ (by kernel_rfl)
      · intro m u W hm hcl hJ _
        unfold Marks.one
        go_simp
        exact ⟨trivial, hJ.quiet (k := 12) _ (by rfl) (fun ii hh => P9.upd (by rfl) hh), rfl⟩
      simp only [Act.put, List.setIfInBounds_toArray, List.set_cons_zero, List.set_cons_succ, Nat.reduceAdd]
      refine Marks.Lex.done fun m0 u W' hm hJ _ => ?_
      have hE : T9 _ _ _ _ 5 _ _ _ _ W' := hJ.done (by intro k hk; exact hm k (by simp at hk; omega))
      have HWZ := Lib.hid hE.2
      clear hJ hm hE HWQ HRD1 HBX1 e2
      by_cases hq0 : q2 = 0
      · subst hq0
        go_wp2
        go_roundg q
        case measure => omega
        case rel => exact ⟨k + 1, r2, by omega, by first | rfl | simp, rfl, HZ2, HWZ⟩
      · have hqb : (q2 != 0) = true := by simpa using hq0
        have hstop : zrw fm m r = (r2, q2) := by
          have h := zrw_stop fm (k + 1) r (by rw [HZ2.out]; exact hq0) q
          rw [show k + 1 + q = m by omega, HZ2.out] at h
          exact h
        have HYF : Hid (Y = (r2, q2)) := Lib.hid (by rw [← HY.out, hstop]; exact if_neg hq0)
        clear hstop hq0 HZ2 HY
        obtain ⟨B1, B2, B3, d1, d2, d3, zz, hfq⟩ := HWZ.out.fin
        have HFQ := Lib.hid hfq
        have l6 := hfq.res
        clear hfq
        go_wp2_with (first
          | refine DArm.wpList_load (by rfl) 49 (.tmp 4) (by with_reducible rfl) _ _ (by rfl) HFQ.out.ld ?_
          | refine DArm.wpList_store (by rfl) 49 (.tmp 8) (.tmp 45) (by with_reducible rfl) _ _ (by rfl) (by rfl) _ HFQ.out.st ?_)
        refine bodyPost_ret (v := .tuple #[dv B1 B2 B3 (r2).now.length (r2).safe.length (r2).waits.length d1 d2 d3 (r2).fuse (r2).off, .int .i64 q2]) ?_ rfl (by show ANS w Y.1 Y.2 _ _; rw [HYF.out]; exact ⟨_, rfl, HFQ.out.rd, HFQ.out.gr⟩)
        simp [results, Try.results41]
        simp [asAddr, l6, d5, dv]
end Go.Proofs.Ytbnicphegbdfnaa.QY
