/-
  The document's journal: a record is appended.
  Conditions: those that each lemma names.
-/
import Derived.Test.YtbnicphegbdfnaaRG
import Derived.Deep.DeepCutAuto
import Derived.Deep.CutBlock
namespace Go.Proofs.Ytbnicphegbdfnaa.RH
set_option maxRecDepth 100000
open Go Go.RowKit Go.Proofs.Ytbnicphegbdfnaa Go.Proofs.Ytbnicphegbdfnaa.Facts Go.Proofs.Ytbnicphegbdfnaa.Bytes Go.Proofs.Ytbnicphegbdfnaa.DKeep Go.Proofs.Ytbnicphegbdfnaa.DSmall Go.Proofs.Ytbnicphegbdfnaa.Puts Go.Proofs.Ytbnicphegbdfnaa.Refs Go.Proofs.Ytbnicphegbdfnaa.Scan Go.Proofs.Ytbnicphegbdfnaa.SPure Go.Proofs.Ytbnicphegbdfnaa.SSeal Go.Proofs.Ytbnicphegbdfnaa.JA Go.Proofs.Ytbnicphegbdfnaa.JB Go.Proofs.Ytbnicphegbdfnaa.JC Go.Proofs.Ytbnicphegbdfnaa.JD Go.Proofs.Ytbnicphegbdfnaa.JE Go.Proofs.Ytbnicphegbdfnaa.JF Go.Proofs.Ytbnicphegbdfnaa.DRefA Go.Proofs.Ytbnicphegbdfnaa.DRefB Go.Proofs.Ytbnicphegbdfnaa.DRefC Go.Proofs.Ytbnicphegbdfnaa.DSim Go.Proofs.Ytbnicphegbdfnaa.DRefD Go.Proofs.Ytbnicphegbdfnaa.DLawA Go.Proofs.Ytbnicphegbdfnaa.RA Go.Proofs.Ytbnicphegbdfnaa.RB Go.Proofs.Ytbnicphegbdfnaa.RC Go.Proofs.Ytbnicphegbdfnaa.RE Go.Proofs.Ytbnicphegbdfnaa.RF Go.Proofs.Ytbnicphegbdfnaa.RG
theorem rwrite_eq (r : Rp) (v vb : Value) (n : Int) (S : Nat → Prop) (l : Sec) (w : World) (r' : Rp) (q : Int) (h : RD w v r) (hr : Rd S w vb l) (hn2 : r.now.length ≤ 16384) (hw : r.waits.length ≤ 1073741823) (he : rwritten r n l = (r', q)) :
    Calls Try.prog 33 #[v, .int .i64 n, vb] w fun e w' => ∃ v', e = .returned (.tuple #[v', .int .i64 q]) ∧ RD w' v' r' ∧ Grew w w' := by
  have := DRefF.rwrite_any r v vb n S l w h hr hn2 hw
  rwa [he] at this
theorem rflush_eq (r : Rp) (v : Value) (w : World) (r' : Rp) (q : Int) (h : RD w v r) (he : rflushed r = (r', q)) :
    Calls Try.prog 71 #[v] w fun e w' => ∃ v', e = .returned (.tuple #[v', .int .i64 q]) ∧ RD w' v' r' ∧ Grew w w' := by
  have := rflush_any r v w h
  rwa [he] at this
/-- What comes of an append. -/
def APP (w : World) (j : Jr) (r : Rp) (q : Int) (e : Ending) (y : World) : Prop := ∃ v', e = .returned (.tuple #[v', sh (j.first : Int) (j.places : Int) (j.each : Int) j.base (j.used : Int), .int .i64 q]) ∧ RD y v' r ∧ Grew w y
section
variable {w : World} {B3 B4 B6 B7 : Nat} {A1 A2 A3 : Option Addr} {n1 n2 n3 c1 c2 c3 : Nat} {f : Int} {o : Bool} {r : Rp} {first places each base used : Nat} {y z : World} {i : Nat}
theorem _root_.Go.Proofs.Ytbnicphegbdfnaa.RG.PQ.start (h : RD w (dv A1 A2 A3 n1 n2 n3 c1 c2 c3 f o) r) (y : World) (hy : y = (((w.alloc (.cells #[.slice A1 n1 c1, .slice A2 n2 c2, .slice A3 n3 c3, .int .i64 f, .bool o] 49)).alloc (.cells #[.int .i64 (first : Int), .int .i64 (places : Int), .int .i64 (each : Int), .int .u64 (base : Int), .int .i64 (used : Int)] 52)).alloc (.cells #[.slice none 0 0, .slice none 0 0, .slice none 0 0, .int .i64 0, .bool false] 49)).alloc (.cells #[.int .i64 0, .int .i64 0, .int .i64 0, .int .u64 0, .int .i64 0] 52)) :
    PQ w w.heap.size (w.heap.size + 1) (w.heap.size + 1 + 1) (w.heap.size + 1 + 1 + 1) A1 A2 A3 n1 n2 n3 c1 c2 c3 f o r first places each base used 0 y := by
  subst hy
  have g1 := DRefA.grew_new (w := w) (.cells #[.slice A1 n1 c1, .slice A2 n2 c2, .slice A3 n3 c3, .int .i64 f, .bool o] 49)
  generalize hw1 : w.alloc (.cells #[.slice A1 n1 c1, .slice A2 n2 c2, .slice A3 n3 c3, .int .i64 f, .bool o] 49) = w1 at *
  have a1 : w1.heap[w.heap.size]? = some (.cells #[.slice A1 n1 c1, .slice A2 n2 c2, .slice A3 n3 c3, .int .i64 f, .bool o] 49) := by rw [← hw1]; exact heap_alloc_new w _
  have s1 : w1.heap.size = w.heap.size + 1 := by rw [← hw1]; simp
  have g2 := DRefA.grew_new (w := w1) (.cells #[.int .i64 (first : Int), .int .i64 (places : Int), .int .i64 (each : Int), .int .u64 (base : Int), .int .i64 (used : Int)] 52)
  generalize hw2 : w1.alloc (.cells #[.int .i64 (first : Int), .int .i64 (places : Int), .int .i64 (each : Int), .int .u64 (base : Int), .int .i64 (used : Int)] 52) = w2 at *
  have a2 : w2.heap[w1.heap.size]? = some (.cells #[.int .i64 (first : Int), .int .i64 (places : Int), .int .i64 (each : Int), .int .u64 (base : Int), .int .i64 (used : Int)] 52) := by rw [← hw2]; exact heap_alloc_new w1 _
  have s2 : w2.heap.size = w1.heap.size + 1 := by rw [← hw2]; simp
  have g3 := DRefA.grew_new (w := w2) (.cells #[.slice none 0 0, .slice none 0 0, .slice none 0 0, .int .i64 0, .bool false] 49)
  generalize hw3 : w2.alloc (.cells #[.slice none 0 0, .slice none 0 0, .slice none 0 0, .int .i64 0, .bool false] 49) = w3 at *
  have a3 : w3.heap[w2.heap.size]? = some (.cells #[.slice none 0 0, .slice none 0 0, .slice none 0 0, .int .i64 0, .bool false] 49) := by rw [← hw3]; exact heap_alloc_new w2 _
  have s3 : w3.heap.size = w2.heap.size + 1 := by rw [← hw3]; simp
  have g4 := DRefA.grew_new (w := w3) (.cells #[.int .i64 0, .int .i64 0, .int .i64 0, .int .u64 0, .int .i64 0] 52)
  generalize hw4 : w3.alloc (.cells #[.int .i64 0, .int .i64 0, .int .i64 0, .int .u64 0, .int .i64 0] 52) = w4 at *
  have a4 : w4.heap[w3.heap.size]? = some (.cells #[.int .i64 0, .int .i64 0, .int .i64 0, .int .u64 0, .int .i64 0] 52) := by rw [← hw4]; exact heap_alloc_new w3 _
  rw [s1] at a2
  rw [s2, s1] at a3
  rw [s3, s2, s1] at a4
  exact ⟨((g1.trans g2).trans g3).trans g4, DWrite.keepB (DWrite.keepB (DWrite.keepB a1 g2) g3) g4, DWrite.keepB (DWrite.keepB a2 g3) g4, ⟨_, DWrite.keepB a3 g4, rfl⟩, ⟨_, a4, rfl⟩, (fun h => by omega), (fun h => by omega), h.grew (((g1.trans g2).trans g3).trans g4), by omega⟩
theorem _root_.Go.Proofs.Ytbnicphegbdfnaa.RG.PQ.grew (h : PQ w B3 B4 B6 B7 A1 A2 A3 n1 n2 n3 c1 c2 c3 f o r first places each base used i y) (hg : Grew y z) : PQ w B3 B4 B6 B7 A1 A2 A3 n1 n2 n3 c1 c2 c3 f o r first places each base used i z := by
  obtain ⟨C6, h6, k6⟩ := h.six
  obtain ⟨C7, h7, k7⟩ := h.seven
  exact ⟨h.gr.trans hg, h.fx.grew hg, h.sx.grew hg, ⟨C6, DWrite.keepB h6 hg, k6⟩, ⟨C7, DWrite.keepB h7 hg, k7⟩, fun hi => (h.six1 hi).grew hg, fun hi => (h.seven1 hi).grew hg, h.rd.grew hg, h.lo⟩
end
theorem rjapp_long (j : Jr) (r : Rp) (b : List UInt8) (h : 108 * j.each - 4 < b.length) : rjapp j r b = (j, r, 13) := by unfold rjapp; rw [if_pos h]
theorem rjapp_full (j : Jr) (r : Rp) (b : List UInt8) (h : ¬ 108 * j.each - 4 < b.length) (h2 : j.used = j.places) : rjapp j r b = (j, r, 8) := by unfold rjapp; rw [if_neg h, if_pos h2]
theorem rjapp_bad (j : Jr) (r : Rp) (b : List UInt8) (h : ¬ 108 * j.each - 4 < b.length) (h2 : ¬ j.used = j.places) (rF : Rp) (qF : Int) (h3 : rjw j.first j.base (j.used * j.each) (place j.each b) j.each 0 r = (rF, qF)) (h4 : ¬ qF = 0) : rjapp j r b = (j, rF, qF) := by
  unfold rjapp
  rw [if_neg h, if_neg h2, h3]
  simp only
  rw [if_neg h4]
theorem rjapp_ok (j : Jr) (r : Rp) (b : List UInt8) (h : ¬ 108 * j.each - 4 < b.length) (h2 : ¬ j.used = j.places) (rF : Rp) (h3 : rjw j.first j.base (j.used * j.each) (place j.each b) j.each 0 r = (rF, 0)) : rjapp j r b = if (rflushed rF).2 = 0 then ({ j with used := j.used + 1 }, (rflushed rF).1, 0) else (j, (rflushed rF).1, (rflushed rF).2) := by
  unfold rjapp
  rw [if_neg h, if_neg h2, h3]
  simp only
  rw [if_pos trivial]
theorem rburnt_now (r : Rp) : (rburnt r).now = r.now := rfl
theorem rwritten_now (r : Rp) (n : Int) (l : Sec) : (rwritten r n l).1.now.length = r.now.length := by
  unfold rwritten
  split
  · rfl
  split
  · rfl
  split
  · rfl
  · show (r.now.set _ _).length = _
    simp
theorem rwritten_waits (r : Rp) (n : Int) (l : Sec) : (rwritten r n l).1.waits.length ≤ r.waits.length + 1 := by
  unfold rwritten
  split
  · exact Nat.le_succ _
  split
  · exact Nat.le_succ _
  split
  · exact Nat.le_succ _
  · show (r.waits ++ _).length ≤ _
    simp
/-- What Seal hands back. -/
def SP (l : List UInt8) (v : Value) (y : World) : Prop := ∃ v', v = .tuple #[v', .int .i64 0] ∧ Rd (fun _ => True) y v' l
theorem SP.mk' {l : List UInt8} {v' : Value} {y : World} (h : Rd (fun _ => True) y v' l) : SP l (.tuple #[v', .int .i64 0]) y := ⟨v', rfl, h⟩
theorem SP.grew {l : List UInt8} {v : Value} {y z : World} (h : SP l v y) (hg : Grew y z) : SP l v z := by
  obtain ⟨v', e, h⟩ := h
  exact ⟨v', e, h.grew hg⟩
def RX (l : List UInt8) (v : Value) (y : World) : Prop := Rd (fun _ => True) y v l
theorem RX.grew {l : List UInt8} {v : Value} {y z : World} (h : RX l v y) (hg : Grew y z) : RX l v z := Rd.grew h hg
section
variable {w : World} {B3 B4 B6 B7 : Nat} {A1 A2 A3 : Option Addr} {n1 n2 n3 c1 c2 c3 : Nat} {f : Int} {o : Bool} {r r' : Rp} {first places each base used : Nat} {y y' : World}
theorem put3 {v' : Value} (h : PQ w B3 B4 B6 B7 A1 A2 A3 n1 n2 n3 c1 c2 c3 f o r first places each base used 0 y) (hr : RD y' v' r') (hg : Grew y y') (hlo : w.heap.size ≤ B3) (h34 : B3 ≠ B4) :
    ∃ A1' A2' A3' n1' n2' n3' c1' c2' c3' f' o' z, v' = dv A1' A2' A3' n1' n2' n3' c1' c2' c3' f' o' ∧ (Instr.storeAt 49 (.pointer (some ⟨B3, 0, none⟩)) (.agg #[.slice A1' n1' c1', .slice A2' n2' c2', .slice A3' n3' c3', .int .i64 f', .bool o'])).run Try.prog y' = .ok () z ∧ Kept (fun k => k = B3) y' z ∧ PQ w B3 B4 B6 B7 A1' A2' A3' n1' n2' n3' c1' c2' c3' f' o' r' first places each base used 0 z := by
  have h' := h.grew hg
  obtain ⟨⟨A1', A2', A3', c1', c2', c3', rfl, _⟩, _⟩ := id hr
  obtain ⟨k1, k2, k3, k4, k5, k6, k7⟩ := h.lo
  have hk : Kept (fun k => k = B3) y' (y'.setRow B3 (d5 A1' A2' A3' r'.now.length r'.safe.length r'.waits.length c1' c2' c3' r'.fuse r'.off).toArray) := ⟨rfl, rfl, rfl, by simp, fun j _ hj => setRow_other y' B3 j _ (by omega)⟩
  obtain ⟨C6, hC6, hs6⟩ := h'.six
  obtain ⟨C7, hC7, hs7⟩ := h'.seven
  refine ⟨A1', A2', A3', _, _, _, c1', c2', c3', _, _, _, rfl, store5 y' B3 _ h'.fx rfl A1' A2' A3' _ _ _ c1' c2' c3' _ _, hk, ⟨DAlive.grew_kept h'.gr hk (fun j hj => by rw [hj]; exact hlo), setRow_heap y' B3 _ _ _ _ h'.fx, other hk h'.sx (Ne.symm h34), ⟨C6, other hk hC6 (Ne.symm k3), hs6⟩, ⟨C7, other hk hC7 (Ne.symm k4), hs7⟩, (fun h1 => by omega), (fun h1 => by omega), ?_, h.lo⟩⟩
  exact RD.kept hr hk (fun k cur e fz hd hh => by
    subst hd
    have hx := h'.fx
    unfold FX at hx
    rw [hx] at hh
    cases hh
    exact ⟨by decide, by decide⟩)
theorem put4 (h : PQ w B3 B4 B6 B7 A1 A2 A3 n1 n2 n3 c1 c2 c3 f o r first places each base used 0 y) (hlo : w.heap.size ≤ B4) (h34 : B3 ≠ B4) (u1 : Nat) (hu : used + 1 = u1) :
    PQ w B3 B4 B6 B7 A1 A2 A3 n1 n2 n3 c1 c2 c3 f o r first places each base u1 0 (y.setCell ⟨B4, 4, none⟩ (.int .i64 ((used : Int) + 1))) := by
  subst hu
  obtain ⟨k1, k2, k3, k4, k5, k6, k7⟩ := h.lo
  have hk : Kept (fun k => k = B4) y (y.setCell ⟨B4, 4, none⟩ (.int .i64 ((used : Int) + 1))) := Kept.set (D := fun k => k = B4) _ _ rfl
  obtain ⟨C6, hC6, hs6⟩ := h.six
  obtain ⟨C7, hC7, hs7⟩ := h.seven
  refine ⟨DAlive.grew_kept h.gr hk (fun j hj => by rw [hj]; exact hlo), other hk h.fx h34, ?_, ⟨C6, other hk hC6 (Ne.symm k5), hs6⟩, ⟨C7, other hk hC7 (Ne.symm k6), hs7⟩, (fun h1 => by omega), (fun h1 => by omega), ?_, h.lo⟩
  · show _ = _
    rw [Go.heap_setCell_same _ _ _ _ _ _ h.sx]
    simp
  · exact RD.kept h.rd hk (fun k cur e fz hd hh => by
      subst hd
      have hx := h.sx
      unfold SX at hx
      rw [hx] at hh
      cases hh
      exact ⟨by decide, by decide⟩)
end
set_option maxHeartbeats 8000000 in
theorem rapp_any (A1 A2 A3 : Option Addr) (c1 c2 c3 n1 n2 n3 : Nat) (f : Int) (o : Bool) (r : Rp) (w : World) (hrd : RD w (dv A1 A2 A3 n1 n2 n3 c1 c2 c3 f o) r) (first places each base used : Nat) (hsh : Sh r.now.length first places each base used) (hwt : r.waits.length ≤ 1000000000) (A : Option Addr) (c : Nat) (b : List UInt8) (S : Nat → Prop) (hb : Rd S w (.slice A b.length c) b) :
    Calls Try.prog 28 #[dv A1 A2 A3 n1 n2 n3 c1 c2 c3 f o, sh (first : Int) (places : Int) (each : Int) base (used : Int), .slice A b.length c] w fun e y => APP w (rjapp ⟨first, places, each, used, base⟩ r b).1 (rjapp ⟨first, places, each, used, base⟩ r b).2.1 (rjapp ⟨first, places, each, used, base⟩ r b).2.2 e y := by
  have HSH := Lib.hid hsh
  have HRD := Lib.hid hrd
  have HB := Lib.hid hb
  have HWT := Lib.hid hwt
  have hbl : b.length ≤ 9223372036854775807 := by
    obtain ⟨_, _, e, q1, q2, _⟩ := hb
    unfold maxLen at q2
    injection e with _ _ e
    omega
  obtain ⟨m, hm⟩ : ∃ m, 108 * each = m := ⟨_, rfl⟩
  have hm1 : m ≤ 1769472 := by have := hsh.e2; omega
  have hm2 : 108 ≤ m := by have := hsh.e1; omega
  have e1 : IntKind.i64.wrap (108 * (each : Int)) = (m : Int) := by rw [IntWalk.i64_in _ (by omega)]; omega
  obtain ⟨m4, hm4⟩ : ∃ m4, m - 4 = m4 := ⟨_, rfl⟩
  have e2 : IntKind.i64.wrap ((m : Int) - 4) = (m4 : Int) := by rw [IntWalk.i64_in _ (by omega)]; omega
  have HM := Lib.hid hm
  have HM1 := Lib.hid hm1
  have HM2 := Lib.hid hm2
  have HM4 : Hid (108 * each - 4 = m4) := Lib.hid (by omega)
  obtain ⟨J, hJ⟩ : ∃ J, rjapp ⟨first, places, each, used, base⟩ r b = J := ⟨_, rfl⟩
  rw [hJ]
  have HJ := Lib.hid hJ
  clear hsh hrd hb hwt hm hm4 hm1 hm2 hJ
  have HST : Hid (∀ y, y = (((w.alloc (.cells #[.slice A1 n1 c1, .slice A2 n2 c2, .slice A3 n3 c3, .int .i64 f, .bool o] 49)).alloc (.cells #[.int .i64 (first : Int), .int .i64 (places : Int), .int .i64 (each : Int), .int .u64 (base : Int), .int .i64 (used : Int)] 52)).alloc (.cells #[.slice none 0 0, .slice none 0 0, .slice none 0 0, .int .i64 0, .bool false] 49)).alloc (.cells #[.int .i64 0, .int .i64 0, .int .i64 0, .int .u64 0, .int .i64 0] 52) → PQ w w.heap.size (w.heap.size + 1) (w.heap.size + 1 + 1) (w.heap.size + 1 + 1 + 1) A1 A2 A3 n1 n2 n3 c1 c2 c3 f o r first places each base used 0 y) := Lib.hid fun y hy => PQ.start HRD.out y hy
  have HSZ : Hid (∀ y, y = (((w.alloc (.cells #[.slice A1 n1 c1, .slice A2 n2 c2, .slice A3 n3 c3, .int .i64 f, .bool o] 49)).alloc (.cells #[.int .i64 (first : Int), .int .i64 (places : Int), .int .i64 (each : Int), .int .u64 (base : Int), .int .i64 (used : Int)] 52)).alloc (.cells #[.slice none 0 0, .slice none 0 0, .slice none 0 0, .int .i64 0, .bool false] 49)).alloc (.cells #[.int .i64 0, .int .i64 0, .int .i64 0, .int .u64 0, .int .i64 0] 52) → y.heap.size = w.heap.size + 4) := Lib.hid fun y hy => by subst hy; simp
  unfold dv sh
  go_enter Try.func28, Try.ntmps28
  go_upto_region 1 with fail
  have HPQ := Lib.hid (HST.out _ rfl)
  have HW4 := Lib.hid (HSZ.out _ rfl)
  generalize (((w.alloc (.cells #[.slice A1 n1 c1, .slice A2 n2 c2, .slice A3 n3 c3, .int .i64 f, .bool o] 49)).alloc (.cells #[.int .i64 (first : Int), .int .i64 (places : Int), .int .i64 (each : Int), .int .u64 (base : Int), .int .i64 (used : Int)] 52)).alloc (.cells #[.slice none 0 0, .slice none 0 0, .slice none 0 0, .int .i64 0, .bool false] 49)).alloc (.cells #[.int .i64 0, .int .i64 0, .int .i64 0, .int .u64 0, .int .i64 0] 52) = W0 at *
  obtain ⟨BP, hBP⟩ : ∃ BP, w.heap.size = BP := ⟨_, rfl⟩
  obtain ⟨BQ, hBQ⟩ : ∃ BQ, BP + 1 = BQ := ⟨_, rfl⟩
  obtain ⟨BR, hBR⟩ : ∃ BR, BQ + 1 = BR := ⟨_, rfl⟩
  obtain ⟨BS0, hBS⟩ : ∃ BS0, BR + 1 = BS0 := ⟨_, rfl⟩
  have HBP := Lib.hid hBP
  have HBQ := Lib.hid hBQ
  rw [hBP] at HPQ HW4 ⊢
  rw [hBQ] at HPQ ⊢
  rw [hBR] at HPQ ⊢
  rw [hBS] at HPQ ⊢
  clear hBP hBQ hBR hBS HST HSZ
  obtain ⟨t0, t1, t2, t3, t4⟩ := HPQ.out.sx.cells
  by_cases k1 : m4 < b.length
  · have HJA : Hid (J = (⟨first, places, each, used, base⟩, r, 13)) := Lib.hid (by rw [← HJ.out]; exact rjapp_long _ _ _ (by have := HM4.out; show 108 * each - 4 < b.length; omega))
    have k1' : (m4 : Int) < (b.length : Int) := by omega
    clear k1
    go_wp2
    clear t0 t1 t2 t3 t4
    refine Chain.wp_chain [2, 3] (fun i _ y => PQ w BP BQ BR BS0 A1 A2 A3 n1 n2 n3 c1 c2 c3 f o r first places each base used i y) (by kernel_rfl) (by kernel_rfl) (HPQ.out.grew ((Grew.refl _).drew)) ?_
    apply Marks.Lex.exact [] _ (by kernel_rfl)
    · intro m u W hm hcl hJ _
      obtain ⟨ii, _, hP⟩ := hJ.any
      obtain ⟨b0, b1, b2, b3, b4⟩ := hP.fx.cells
      unfold Marks.one
      go_simp
      exact ⟨trivial, hJ.quiet (k := 0) _ (by rfl) (fun ii hh => hh), rfl⟩
    simp only [Act.put, List.setIfInBounds_toArray, List.set_cons_zero, List.set_cons_succ, Nat.zero_add]
    apply Marks.Lex.exact [] _ (by kernel_rfl)
    · intro m u W hm hcl hJ _
      obtain ⟨ii, _, hP⟩ := hJ.any
      obtain ⟨b0, b1, b2, b3, b4⟩ := hP.sx.cells
      unfold Marks.one
      go_simp
      exact ⟨trivial, hJ.quiet (k := 1) _ (by rfl) (fun ii hh => hh), rfl⟩
    simp only [Act.put, List.setIfInBounds_toArray, List.set_cons_zero, List.set_cons_succ, Nat.reduceAdd]
    apply Marks.Lex.exact [] undef (by kernel_rfl)
    · intro m u W hm hcl hJ _
      obtain ⟨hP, hput⟩ := hJ.put 0 rfl hm hcl (by decide) (by decide)
      obtain ⟨w', hst, hq⟩ := hP.put6
      exact DWrite.one_store rfl 49 (.tmp 6) (.tmp 22) rfl _ _ rfl rfl w' hst ⟨trivial, hput undef w' (fun _ => hq), rfl⟩
    simp only [Act.put, List.setIfInBounds_toArray, List.set_cons_zero, List.set_cons_succ, Nat.reduceAdd]
    apply Marks.Lex.exact [] undef (by kernel_rfl)
    · intro m u W hm hcl hJ _
      obtain ⟨hP, hput⟩ := hJ.put 1 rfl hm hcl (by decide) (by decide)
      obtain ⟨w', hst, hq⟩ := hP.put7
      exact DWrite.one_store rfl 52 (.tmp 7) (.tmp 23) rfl _ _ rfl rfl w' hst ⟨trivial, hput undef w' (fun _ => hq), rfl⟩
    simp only [Act.put, List.setIfInBounds_toArray, List.set_cons_zero, List.set_cons_succ, Nat.reduceAdd]
    apply Marks.Lex.exact [] _ (by kernel_rfl)
    · intro m u W hm hcl hJ _
      unfold Marks.one
      go_simp
      exact ⟨trivial, hJ.quiet (k := 4) _ (by rfl) (fun ii hh => hh), rfl⟩
    simp only [Act.put, List.setIfInBounds_toArray, List.set_cons_zero, List.set_cons_succ, Nat.reduceAdd]
    refine Marks.Lex.done fun m0 u W' hm hJ _ => ?_
    have hE : PQ w BP BQ BR BS0 A1 A2 A3 n1 n2 n3 c1 c2 c3 f o r first places each base used 2 W' := hJ.done (by intro k hk; exact hm k (by simp at hk; omega))
    have HE := Lib.hid hE
    clear hJ hm hE
    go_wp2
    have l6 := run_loadVar_mid (P := Try.prog) W' BR 0 49 (d5 A1 A2 A3 n1 n2 n3 c1 c2 c3 f o) _ (fun j v hv => by rw [cell_of_row _ _ _ _ _ _ (HE.out.six1 (by omega)), Nat.zero_add]; first | exact hv | simpa [d5] using hv) Try.underlying49 rfl size32
    have l7 := run_loadVar_mid (P := Try.prog) W' BS0 0 52 [.int .i64 (first : Int), .int .i64 (places : Int), .int .i64 (each : Int), .int .u64 (base : Int), .int .i64 (used : Int)] _ (fun j v hv => by rw [cell_of_row _ _ _ _ _ _ (HE.out.seven1 (by omega)), Nat.zero_add]; simpa using hv) Try.underlying52 rfl size52
    refine bodyPost_ret (v := .tuple #[dv A1 A2 A3 n1 n2 n3 c1 c2 c3 f o, sh (first : Int) (places : Int) (each : Int) base (used : Int), .int .i64 13]) ?_ rfl (by show APP w J.1 J.2.1 J.2.2 _ _; rw [HJA.out]; exact ⟨_, rfl, HE.out.rd, HE.out.gr⟩)
    simp [results, Try.results28]
    simp [asAddr, l6, l7, d5, dv, sh]
  have k1' : ¬ (m4 : Int) < (b.length : Int) := by omega
  have HK1 : Hid (¬ 108 * each - 4 < b.length) := Lib.hid (by have := HM4.out; omega)
  by_cases k2 : used = places
  · have HJA : Hid (J = (⟨first, places, each, used, base⟩, r, 8)) := Lib.hid (by rw [← HJ.out]; exact rjapp_full _ _ _ HK1.out k2)
    subst k2
    clear k1
    go_wp2
    clear t0 t1 t2 t3 t4
    refine Chain.wp_chain [2, 3] (fun i _ y => PQ w BP BQ BR BS0 A1 A2 A3 n1 n2 n3 c1 c2 c3 f o r first used each base used i y) (by kernel_rfl) (by kernel_rfl) (HPQ.out.grew ((Grew.refl _).drew)) ?_
    apply Marks.Lex.exact [] _ (by kernel_rfl)
    · intro m u W hm hcl hJ _
      obtain ⟨ii, _, hP⟩ := hJ.any
      obtain ⟨b0, b1, b2, b3, b4⟩ := hP.fx.cells
      unfold Marks.one
      go_simp
      exact ⟨trivial, hJ.quiet (k := 0) _ (by rfl) (fun ii hh => hh), rfl⟩
    simp only [Act.put, List.setIfInBounds_toArray, List.set_cons_zero, List.set_cons_succ, Nat.zero_add]
    apply Marks.Lex.exact [] _ (by kernel_rfl)
    · intro m u W hm hcl hJ _
      obtain ⟨ii, _, hP⟩ := hJ.any
      obtain ⟨b0, b1, b2, b3, b4⟩ := hP.sx.cells
      unfold Marks.one
      go_simp
      exact ⟨trivial, hJ.quiet (k := 1) _ (by rfl) (fun ii hh => hh), rfl⟩
    simp only [Act.put, List.setIfInBounds_toArray, List.set_cons_zero, List.set_cons_succ, Nat.reduceAdd]
    apply Marks.Lex.exact [] undef (by kernel_rfl)
    · intro m u W hm hcl hJ _
      obtain ⟨hP, hput⟩ := hJ.put 0 rfl hm hcl (by decide) (by decide)
      obtain ⟨w', hst, hq⟩ := hP.put6
      exact DWrite.one_store rfl 49 (.tmp 6) (.tmp 29) rfl _ _ rfl rfl w' hst ⟨trivial, hput undef w' (fun _ => hq), rfl⟩
    simp only [Act.put, List.setIfInBounds_toArray, List.set_cons_zero, List.set_cons_succ, Nat.reduceAdd]
    apply Marks.Lex.exact [] undef (by kernel_rfl)
    · intro m u W hm hcl hJ _
      obtain ⟨hP, hput⟩ := hJ.put 1 rfl hm hcl (by decide) (by decide)
      obtain ⟨w', hst, hq⟩ := hP.put7
      exact DWrite.one_store rfl 52 (.tmp 7) (.tmp 30) rfl _ _ rfl rfl w' hst ⟨trivial, hput undef w' (fun _ => hq), rfl⟩
    simp only [Act.put, List.setIfInBounds_toArray, List.set_cons_zero, List.set_cons_succ, Nat.reduceAdd]
    apply Marks.Lex.exact [] _ (by kernel_rfl)
    · intro m u W hm hcl hJ _
      unfold Marks.one
      go_simp
      exact ⟨trivial, hJ.quiet (k := 4) _ (by rfl) (fun ii hh => hh), rfl⟩
    simp only [Act.put, List.setIfInBounds_toArray, List.set_cons_zero, List.set_cons_succ, Nat.reduceAdd]
    refine Marks.Lex.done fun m0 u W' hm hJ _ => ?_
    have hE : PQ w BP BQ BR BS0 A1 A2 A3 n1 n2 n3 c1 c2 c3 f o r first used each base used 2 W' := hJ.done (by intro k hk; exact hm k (by simp at hk; omega))
    have HE := Lib.hid hE
    clear hJ hm hE
    go_wp2
    have l6 := run_loadVar_mid (P := Try.prog) W' BR 0 49 (d5 A1 A2 A3 n1 n2 n3 c1 c2 c3 f o) _ (fun j v hv => by rw [cell_of_row _ _ _ _ _ _ (HE.out.six1 (by omega)), Nat.zero_add]; first | exact hv | simpa [d5] using hv) Try.underlying49 rfl size32
    have l7 := run_loadVar_mid (P := Try.prog) W' BS0 0 52 [.int .i64 (first : Int), .int .i64 (used : Int), .int .i64 (each : Int), .int .u64 (base : Int), .int .i64 (used : Int)] _ (fun j v hv => by rw [cell_of_row _ _ _ _ _ _ (HE.out.seven1 (by omega)), Nat.zero_add]; simpa using hv) Try.underlying52 rfl size52
    refine bodyPost_ret (v := .tuple #[dv A1 A2 A3 n1 n2 n3 c1 c2 c3 f o, sh (first : Int) (used : Int) (each : Int) base (used : Int), .int .i64 8]) ?_ rfl (by show APP w J.1 J.2.1 J.2.2 _ _; rw [HJA.out]; exact ⟨_, rfl, HE.out.rd, HE.out.gr⟩)
    simp [results, Try.results28]
    simp [asAddr, l6, l7, d5, dv, sh]
  have k2b : ((used : Int) == (places : Int)) = false := by simp; omega
  have HK2 : Hid (¬ used = places) := Lib.hid k2
  have HPL : Hid (used < places) := Lib.hid (by have := HSH.out.u; omega)
  have HRC : Hid (Calls Try.prog 69 #[.int .i64 (each : Int), .slice A b.length c] W0 fun e w' => ∃ A' c', e = .returned (.slice A' (108 * each) c') ∧ Rd (fun k => W0.heap.size ≤ k) w' (.slice A' (108 * each) c') (place each b) ∧ Grew W0 w') := Lib.hid (record_any each A c b S W0 (HB.out.grew HPQ.out.gr) HSH.out.e1 HSH.out.e2 (by have := HK1.out; have := HSH.out.e1; omega))
  rw [HM.out] at HRC
  have k2' : ¬ (used : Int) = (places : Int) := by omega
  clear k1 k2
  go_wp2_with fail
  refine HRC.out.mono ?_
  rintro e w1 ⟨A9, c9, rfl, hr9, hg9⟩
  have HR9 := Lib.hid (hr9.mono fun b hb => (⟨hb⟩ : Nonempty (W0.heap.size ≤ b)))
  have HR9' : Hid (Rd (fun k => BP + 4 ≤ k) w1 (.slice A9 m c9) (place each b)) := Lib.hid (hr9.mono fun k hk => by have := HW4.out; omega)
  have HPQ1 := Lib.hid (HPQ.out.grew hg9)
  clear hr9 hg9 HRC HR9 HPQ t0 t1 t2 t3 t4 k1' k2' k2b e1 e2
  obtain ⟨fr, hfr⟩ : ∃ fr, used * each = fr := ⟨_, rfl⟩
  have HFR := Lib.hid hfr
  have HFM : Hid (fr + each ≤ 262144) := Lib.hid (by
    have h1 : (used + 1) * each ≤ places * each := Nat.mul_le_mul_right _ HPL.out
    have h2 : places * each ≤ 16 * each := Nat.mul_le_mul_right _ HSH.out.p2
    have := HSH.out.e2
    rw [Nat.add_mul, Nat.one_mul] at h1
    omega)
  have HFP : Hid (fr + each ≤ places * each) := Lib.hid (by
    have h1 : (used + 1) * each ≤ places * each := Nat.mul_le_mul_right _ HPL.out
    rw [Nat.add_mul, Nat.one_mul] at h1
    omega)
  obtain ⟨ad, rfl⟩ : ∃ ad, A9 = some ad := by
    cases A9 with
    | none => obtain ⟨_, _, e, _, _, q3, _⟩ := HR9'.out; injection e with e0 e1 e2; have := q3 e0.symm; have := HM2.out; omega
    | some ad => exact ⟨ad, rfl⟩
  obtain ⟨⟨rF, qF⟩, hX⟩ : ∃ X, rjw first base fr (place each b) each 0 r = X := ⟨_, rfl⟩
  have HX0 := Lib.hid hX
  have HX1 : Hid (rjw first base (used * each) (place each b) each 0 r = (rF, qF)) := Lib.hid (by rw [hfr]; exact hX)
  have hfi : IntKind.i64.wrap ((used : Int) * (each : Int)) = (fr : Int) := by
    have e : (used : Int) * (each : Int) = (fr : Int) := by rw [← hfr]; simp
    rw [e]
    exact IntWalk.i64_in _ (by have := HFM.out; omega)
  have HN0 := Lib.hid (rfl : r.now.length = r.now.length)
  obtain ⟨n0, hn0⟩ : ∃ n0, r.now.length = n0 := ⟨_, rfl⟩
  rw [hn0] at HSH
  have HNN := Lib.hid hn0
  have HPLL : Hid ((place each b).length = m) := Lib.hid (by
    obtain ⟨_, _, e, _⟩ := HR9'.out
    injection e with _ e _
    exact e.symm)
  clear hfr hX hn0 HN0
  go_wp2
  go_loopg [10, 11, 12, 13, 14] each (fun q s10 s11 s12 s13 s14 wx => ∃ (k : Nat) (A1 A2 A3 : Option Addr) (n1 n2 n3 c1 c2 c3 : Nat) (f : Int) (o : Bool) (r : Rp), k + q = each ∧ s11 = .int .i64 (k : Int) ∧ s10 = .int .i64 0 ∧ Hid (PQ w BP BQ BR BS0 A1 A2 A3 n1 n2 n3 c1 c2 c3 f o r first places each base used 0 wx) ∧ Hid (Rd (fun k => BP + 4 ≤ k) wx (.slice (some ad) m c9) (place each b)) ∧ Hid (rjw first base fr (place each b) q k r = (rF, qF)) ∧ Hid (r.now.length = n0) ∧ Hid (r.waits.length ≤ 1000000000 + k))
  case atStart => exact ⟨0, A1, A2, A3, n1, n2, n3, c1, c2, c3, f, o, r, Nat.zero_add _, rfl, rfl, HPQ1, HR9', HX0, HNN, HWT⟩
  case round =>
    obtain ⟨k, A1, A2, A3, n1, n2, n3, c1, c2, c3, f, o, r, hkq, rfl, rfl, HPX, HRX, HXX, HNX, HWX⟩ := hrel
    clear HPQ1 HR9' HX0 HNN HWT HRD
    obtain ⟨t0, t1, t2, t3, t4⟩ := HPX.out.sx.cells
    cases gk with
    | zero =>
      have hke : ¬ (k : Int) < (each : Int) := by omega
      have hXF : r = rF ∧ (0 : Int) = qF := by
        have := HXX.out
        rw [rjw] at this
        injection this with a b
        exact ⟨a, b⟩
      obtain ⟨rfl, rfl⟩ := hXF
      obtain ⟨b0, b1, b2, b3, b4⟩ := HPX.out.fx.cells
      rcases hfl : rflushed r with ⟨rG, qG⟩
      have HJO : Hid (J = if qG = 0 then (⟨first, places, each, used + 1, base⟩, rG, 0) else (⟨first, places, each, used, base⟩, rG, qG)) := Lib.hid (by
        have := rjapp_ok ⟨first, places, each, used, base⟩ _ b HK1.out HK2.out r HX1.out
        rw [hfl, HJ.out] at this
        exact this)
      have HFL := Lib.hid (rflush_eq r (dv A1 A2 A3 n1 n2 n3 c1 c2 c3 f o) wr rG qG HPX.out.rd hfl)
      unfold dv at HFL
      clear hfl hkq
      go_wp2_with fail
      refine HFL.out.mono ?_
      rintro e w2 ⟨v2, rfl, hr2, hg2⟩
      obtain ⟨A1, A2, A3, n1, n2, n3, c1, c2, c3, f, o, z, rfl, hst, hk, hpq⟩ := put3 HPX.out hr2 hg2 (by have := HBP.out; omega) (by have := HBQ.out; omega)
      have HPZ := Lib.hid hpq
      have HSTO := Lib.hid hst
      clear hst hr2 hg2 hk hpq HFL t0 t1 t2 t3 t4 b0 b1 b2 b3 b4
      unfold dv
      by_cases hq : qG = 0
      · subst hq
        have hJ2 := HJO.out
        rw [if_pos rfl] at hJ2
        obtain ⟨u2, hu2⟩ : ∃ u2, used + 1 = u2 := ⟨_, rfl⟩
        rw [hu2] at hJ2
        have HJA := Lib.hid hJ2
        have HP4 := Lib.hid (put4 HPZ.out (by have := HBP.out; have := HBQ.out; omega) (by have := HBQ.out; omega) u2 hu2)
        have f4 := frozen_of_row z BQ 4 _ _ HPZ.out.sx
        have hus : IntKind.i64.wrap ((used : Int) + 1) = (used : Int) + 1 := IntWalk.i64_in _ (by have := HPL.out; have := HSH.out.p2; omega)
        obtain ⟨t0, t1, t2, t3, t4⟩ := HPZ.out.sx.cells
        clear hJ2 hu2 HJO
        go_wp2_with (refine DArm.wpList_store (by rfl) 49 (.tmp 3) (.tmp 82) (by with_reducible rfl) _ _ (by rfl) (by rfl) _ HSTO.out ?_)
        go_wp2
        clear t0 t1 t2 t3 t4 f4 HSTO
        generalize z.setCell ⟨BQ, 4, none⟩ (.int .i64 ((used : Int) + 1)) = z4 at *
        refine Chain.wp_chain [2, 3] (fun i _ y => PQ w BP BQ BR BS0 A1 A2 A3 n1 n2 n3 c1 c2 c3 f o rG first places each base u2 i y) (by kernel_rfl) (by kernel_rfl) (HP4.out.grew ((Grew.refl _).drew)) ?_
        apply Marks.Lex.exact [] _ (by kernel_rfl)
        · intro m u W hm hcl hJ _
          obtain ⟨ii, _, hP⟩ := hJ.any
          obtain ⟨b0, b1, b2, b3, b4⟩ := hP.fx.cells
          unfold Marks.one
          go_simp
          exact ⟨trivial, hJ.quiet (k := 0) _ (by rfl) (fun ii hh => hh), rfl⟩
        simp only [Act.put, List.setIfInBounds_toArray, List.set_cons_zero, List.set_cons_succ, Nat.zero_add]
        apply Marks.Lex.exact [] _ (by kernel_rfl)
        · intro m u W hm hcl hJ _
          obtain ⟨ii, _, hP⟩ := hJ.any
          obtain ⟨b0, b1, b2, b3, b4⟩ := hP.sx.cells
          unfold Marks.one
          go_simp
          exact ⟨trivial, hJ.quiet (k := 1) _ (by rfl) (fun ii hh => hh), rfl⟩
        simp only [Act.put, List.setIfInBounds_toArray, List.set_cons_zero, List.set_cons_succ, Nat.reduceAdd]
        apply Marks.Lex.exact [] undef (by kernel_rfl)
        · intro m u W hm hcl hJ _
          obtain ⟨hP, hput⟩ := hJ.put 0 rfl hm hcl (by decide) (by decide)
          obtain ⟨w', hst, hq⟩ := hP.put6
          exact DWrite.one_store rfl 49 (.tmp 6) (.tmp 93) rfl _ _ rfl rfl w' hst ⟨trivial, hput undef w' (fun _ => hq), rfl⟩
        simp only [Act.put, List.setIfInBounds_toArray, List.set_cons_zero, List.set_cons_succ, Nat.reduceAdd]
        apply Marks.Lex.exact [] undef (by kernel_rfl)
        · intro m u W hm hcl hJ _
          obtain ⟨hP, hput⟩ := hJ.put 1 rfl hm hcl (by decide) (by decide)
          obtain ⟨w', hst, hq⟩ := hP.put7
          exact DWrite.one_store rfl 52 (.tmp 7) (.tmp 94) rfl _ _ rfl rfl w' hst ⟨trivial, hput undef w' (fun _ => hq), rfl⟩
        simp only [Act.put, List.setIfInBounds_toArray, List.set_cons_zero, List.set_cons_succ, Nat.reduceAdd]
        apply Marks.Lex.exact [] _ (by kernel_rfl)
        · intro m u W hm hcl hJ _
          unfold Marks.one
          go_simp
          exact ⟨trivial, hJ.quiet (k := 4) _ (by rfl) (fun ii hh => hh), rfl⟩
        simp only [Act.put, List.setIfInBounds_toArray, List.set_cons_zero, List.set_cons_succ, Nat.reduceAdd]
        refine Marks.Lex.done fun m0 u W' hm hJ _ => ?_
        have hE : PQ w BP BQ BR BS0 A1 A2 A3 n1 n2 n3 c1 c2 c3 f o rG first places each base u2 2 W' := hJ.done (by intro k hk; exact hm k (by simp at hk; omega))
        have HE := Lib.hid hE
        clear hJ hm hE
        go_wp2
        have l6 := run_loadVar_mid (P := Try.prog) W' BR 0 49 (d5 A1 A2 A3 n1 n2 n3 c1 c2 c3 f o) _ (fun j v hv => by rw [cell_of_row _ _ _ _ _ _ (HE.out.six1 (by omega)), Nat.zero_add]; first | exact hv | simpa [d5] using hv) Try.underlying49 rfl size32
        have l7 := run_loadVar_mid (P := Try.prog) W' BS0 0 52 [.int .i64 (first : Int), .int .i64 (places : Int), .int .i64 (each : Int), .int .u64 (base : Int), .int .i64 (u2 : Int)] _ (fun j v hv => by rw [cell_of_row _ _ _ _ _ _ (HE.out.seven1 (by omega)), Nat.zero_add]; simpa using hv) Try.underlying52 rfl size52
        refine bodyPost_ret (v := .tuple #[dv A1 A2 A3 n1 n2 n3 c1 c2 c3 f o, sh (first : Int) (places : Int) (each : Int) base (u2 : Int), .int .i64 0]) ?_ rfl (by show APP w J.1 J.2.1 J.2.2 _ _; rw [HJA.out]; exact ⟨_, rfl, HE.out.rd, HE.out.gr⟩)
        simp [results, Try.results28]
        simp [asAddr, l6, l7, d5, dv, sh]
      · have hJ2 := HJO.out
        rw [if_neg hq] at hJ2
        have HJA := Lib.hid hJ2
        have b1 : (qG == 0) = false := by simpa using hq
        have b2 : (qG != 0) = true := by simpa using hq
        clear hJ2 HJO hq
        go_wp2_with (refine DArm.wpList_store (by rfl) 49 (.tmp 3) (.tmp 82) (by with_reducible rfl) _ _ (by rfl) (by rfl) _ HSTO.out ?_)
        go_wp2
        clear HSTO
        refine Chain.wp_chain [3, 4] (fun i _ y => PQ w BP BQ BR BS0 A1 A2 A3 n1 n2 n3 c1 c2 c3 f o rG first places each base used i y) (by kernel_rfl) (by kernel_rfl) (HPZ.out.grew ((Grew.refl _).drew)) ?_
        apply Marks.Lex.exact [] _ (by kernel_rfl)
        · intro m u W hm hcl hJ _
          obtain ⟨ii, _, hP⟩ := hJ.any
          obtain ⟨b0, b1, b2, b3, b4⟩ := hP.fx.cells
          unfold Marks.one
          go_simp
          exact ⟨trivial, hJ.quiet (k := 0) _ (by rfl) (fun ii hh => hh), rfl⟩
        simp only [Act.put, List.setIfInBounds_toArray, List.set_cons_zero, List.set_cons_succ, Nat.zero_add]
        apply Marks.Lex.exact [] _ (by kernel_rfl)
        · intro m u W hm hcl hJ _
          obtain ⟨ii, _, hP⟩ := hJ.any
          obtain ⟨b0, b1, b2, b3, b4⟩ := hP.sx.cells
          unfold Marks.one
          go_simp
          exact ⟨trivial, hJ.quiet (k := 1) _ (by rfl) (fun ii hh => hh), rfl⟩
        simp only [Act.put, List.setIfInBounds_toArray, List.set_cons_zero, List.set_cons_succ, Nat.reduceAdd]
        apply Marks.Lex.exact [] _ (by kernel_rfl)
        · intro m u W hm hcl hJ _
          unfold Marks.one
          go_simp
          exact ⟨trivial, hJ.quiet (k := 2) _ (by rfl) (fun ii hh => hh), rfl⟩
        simp only [Act.put, List.setIfInBounds_toArray, List.set_cons_zero, List.set_cons_succ, Nat.reduceAdd]
        apply Marks.Lex.exact [] undef (by kernel_rfl)
        · intro m u W hm hcl hJ _
          obtain ⟨hP, hput⟩ := hJ.put 0 rfl hm hcl (by decide) (by decide)
          obtain ⟨w', hst, hq⟩ := hP.put6
          exact DWrite.one_store rfl 49 (.tmp 6) (.tmp 86) rfl _ _ rfl rfl w' hst ⟨trivial, hput undef w' (fun _ => hq), rfl⟩
        simp only [Act.put, List.setIfInBounds_toArray, List.set_cons_zero, List.set_cons_succ, Nat.reduceAdd]
        apply Marks.Lex.exact [] undef (by kernel_rfl)
        · intro m u W hm hcl hJ _
          obtain ⟨hP, hput⟩ := hJ.put 1 rfl hm hcl (by decide) (by decide)
          obtain ⟨w', hst, hq⟩ := hP.put7
          exact DWrite.one_store rfl 52 (.tmp 7) (.tmp 87) rfl _ _ rfl rfl w' hst ⟨trivial, hput undef w' (fun _ => hq), rfl⟩
        simp only [Act.put, List.setIfInBounds_toArray, List.set_cons_zero, List.set_cons_succ, Nat.reduceAdd]
        apply Marks.Lex.exact [] _ (by kernel_rfl)
        · intro m u W hm hcl hJ _
          unfold Marks.one
          go_simp
          exact ⟨trivial, hJ.quiet (k := 5) _ (by rfl) (fun ii hh => hh), rfl⟩
        simp only [Act.put, List.setIfInBounds_toArray, List.set_cons_zero, List.set_cons_succ, Nat.reduceAdd]
        refine Marks.Lex.done fun m0 u W' hm hJ _ => ?_
        have hE : PQ w BP BQ BR BS0 A1 A2 A3 n1 n2 n3 c1 c2 c3 f o rG first places each base used 2 W' := hJ.done (by intro k hk; exact hm k (by simp at hk; omega))
        have HE := Lib.hid hE
        clear hJ hm hE
        go_wp2
        have l6 := run_loadVar_mid (P := Try.prog) W' BR 0 49 (d5 A1 A2 A3 n1 n2 n3 c1 c2 c3 f o) _ (fun j v hv => by rw [cell_of_row _ _ _ _ _ _ (HE.out.six1 (by omega)), Nat.zero_add]; first | exact hv | simpa [d5] using hv) Try.underlying49 rfl size32
        have l7 := run_loadVar_mid (P := Try.prog) W' BS0 0 52 [.int .i64 (first : Int), .int .i64 (places : Int), .int .i64 (each : Int), .int .u64 (base : Int), .int .i64 (used : Int)] _ (fun j v hv => by rw [cell_of_row _ _ _ _ _ _ (HE.out.seven1 (by omega)), Nat.zero_add]; simpa using hv) Try.underlying52 rfl size52
        refine bodyPost_ret (v := .tuple #[dv A1 A2 A3 n1 n2 n3 c1 c2 c3 f o, sh (first : Int) (places : Int) (each : Int) base (used : Int), .int .i64 qG]) ?_ rfl (by show APP w J.1 J.2.1 J.2.2 _ _; rw [HJA.out]; exact ⟨_, rfl, HE.out.rd, HE.out.gr⟩)
        simp [results, Try.results28]
        simp [asAddr, l6, l7, d5, dv, sh]
    | succ q =>
      have hke : (k : Int) < (each : Int) := by omega
      have hkn : k < each := by omega
      obtain ⟨pk, hpk⟩ : ∃ pk, fr + k = pk := ⟨_, rfl⟩
      obtain ⟨ix, hix⟩ : ∃ ix, first + pk = ix := ⟨_, rfl⟩
      obtain ⟨bq, hbq⟩ : ∃ bq, base + pk = bq := ⟨_, rfl⟩
      obtain ⟨kk, hkk⟩ : ∃ kk, 108 * k = kk := ⟨_, rfl⟩
      obtain ⟨kl, hkl⟩ : ∃ kl, kk + 108 = kl := ⟨_, rfl⟩
      have hklm : kl ≤ m := by have := HM.out; omega
      have e1 : IntKind.i64.wrap ((fr : Int) + (k : Int)) = (pk : Int) := by rw [IntWalk.i64_in _ (by have := HFM.out; omega)]; omega
      have e2 : IntKind.i64.wrap ((first : Int) + (pk : Int)) = (ix : Int) := by rw [IntWalk.i64_in _ (by have := HFM.out; have := HSH.out.fit; have := HSH.out.n2; omega)]; omega
      have e3 : IntKind.u64.wrap (pk : Int) = (pk : Int) := IntWalk.u64_in _ (by have := HFM.out; omega)
      have e4 : IntKind.u64.wrap ((base : Int) + (pk : Int)) = (bq : Int) := by rw [IntWalk.u64_in _ (by have := HSH.out.b2; have := HFP.out; omega)]; omega
      have e5 : IntKind.i64.wrap (108 * (k : Int)) = (kk : Int) := by rw [IntWalk.i64_in _ (by have := HFM.out; omega)]; omega
      have e6 : IntKind.i64.wrap ((kk : Int) + 108) = (kl : Int) := by rw [IntWalk.i64_in _ (by have := HFM.out; omega)]; omega
      obtain ⟨L1, hL1⟩ : ∃ L1, ((place each b).drop kk).take 108 = L1 := ⟨_, rfl⟩
      have hL2 : L1.length = 108 := by rw [← hL1, List.length_take, List.length_drop, HPLL.out]; omega
      have HSEAL : Hid (∀ W, Grew wr W → Calls Try.prog 70 #[.int .u64 (bq : Int), .slice (some (ad.add kk)) 108 (c9 - kk)] W fun e w' => ∃ v', e = .returned (.tuple #[v', .int .i64 0]) ∧ Rd (fun _ => True) w' v' (sealed bq L1) ∧ Grew W w') := Lib.hid (by
        intro W hg
        have h1 := HRX.out.grew hg
        rw [← HPLL.out] at h1
        have hc9 : m ≤ c9 ∧ c9 ≤ 9223372036854775807 := by
          obtain ⟨_, _, e, q1, q2, _⟩ := HRX.out
          unfold maxLen at q2
          injection e with _ e0 e1
          rw [HPLL.out] at q1
          omega
        have h2 := SOpen.cut_at h1 kk 108 (by rw [HPLL.out]; omega) (by omega) (c9 - kk) (by omega) (by omega)
        rw [hL1] at h2
        have h3 : Rd (fun k => BP + 4 ≤ k) W (.slice (some (ad.add kk)) L1.length (c9 - kk)) L1 := by rw [hL2]; exact h2
        have := rseal_main _ _ _ L1 bq W h3 ((may_iff bq).2 (by have := HSH.out.b1; have := HSH.out.b2; have := HFP.out; omega)) (by omega)
        rw [hL2] at this
        exact this.mono fun e y ⟨v', h1, h2, h3⟩ => ⟨v', h1, h2.mono fun _ _ => trivial, h3⟩)
      rcases hwr : rwritten r (ix : Int) (sealed bq L1) with ⟨r1, q1⟩
      have hxx := HXX.out
      rw [rjw] at hxx
      simp only [hpk, hix, hbq, hkk, hL1, hwr] at hxx
      have HXX2 := Lib.hid hxx
      have HLN : Hid (r1.now.length = n0) := Lib.hid (by have := rwritten_now r (ix : Int) (sealed bq L1); rw [hwr] at this; exact this.trans HNX.out)
      have HLW : Hid (r1.waits.length ≤ 1000000000 + (k + 1)) := Lib.hid (by have hh := rwritten_waits r (ix : Int) (sealed bq L1); rw [hwr] at hh; have := HWX.out; simp only at hh; omega)
      have HKL : Hid (kk + 108 = kl) := Lib.hid hkl
      have HKLM : Hid (kl ≤ m) := Lib.hid hklm
      have hcut1 : (kk : Int) ≤ (kl : Int) := by omega
      have hcut2 : (kl : Int) ≤ (c9 : Int) := by
        obtain ⟨_, _, e, q1, q2, _⟩ := HRX.out
        injection e with _ e0 e1
        rw [HPLL.out] at q1
        omega
      have HWR : Hid (∀ vx W, Grew wr W → Rd (fun _ => True) W vx (sealed bq L1) → Calls Try.prog 33 #[.agg #[.slice A1 n1 c1, .slice A2 n2 c2, .slice A3 n3 c3, .int .i64 f, .bool o], .int .i64 (ix : Int), vx] W fun e w' => ∃ v', e = .returned (.tuple #[v', .int .i64 q1]) ∧ RD w' v' r1 ∧ Grew W w') := Lib.hid fun vx W hg hr => rwrite_eq r _ vx (ix : Int) _ _ W r1 q1 (HPX.out.rd.grew hg) hr (by rw [HNX.out]; exact HSH.out.n2) (by have := HWX.out; have := HSH.out.e2; omega) hwr
      clear hwr hxx HXX hL1 hL2 hkl hklm hkk hbq hix hpk HNX HWX
      go_upto_region 11 with fail
      refine Facts.wp_region_text (by kernel_rfl) (by kernel_rfl) ?_
      apply Facts.Lex.exact [] _ (by kernel_rfl)
      · intro u W hC hK
        unfold Facts.one
        go_simp
        all_goals (first | exact ⟨Grew.refl _, rfl⟩ | rfl)
      simp only [Act.put, List.setIfInBounds_toArray, List.set_cons_zero, List.set_cons_succ, Nat.zero_add]
      apply Facts.Lex.exact [] _ (by kernel_rfl)
      · intro u W hC hK
        obtain ⟨t0, t1, t2, t3, t4⟩ := (HPX.out.sx.grew hC).cells
        unfold Facts.one
        go_simp
        all_goals (first | exact ⟨Grew.refl _, rfl⟩ | rfl)
      simp only [Act.put, List.setIfInBounds_toArray, List.set_cons_zero, List.set_cons_succ, Nat.reduceAdd]
      apply Facts.Lex.exact [] _ (by kernel_rfl)
      · intro u W hC hK
        unfold Facts.one
        go_simp
        all_goals (first | exact ⟨Grew.refl _, rfl⟩ | rfl)
      simp only [Act.put, List.setIfInBounds_toArray, List.set_cons_zero, List.set_cons_succ, Nat.reduceAdd]
      apply Facts.Lex.exact [] _ (by kernel_rfl)
      · intro u W hC hK
        unfold Facts.one
        go_simp
        all_goals (first | exact ⟨Grew.refl _, rfl⟩ | rfl)
      simp only [Act.put, List.setIfInBounds_toArray, List.set_cons_zero, List.set_cons_succ, Nat.reduceAdd]
      apply Facts.Lex.exact [] _ (by kernel_rfl)
      · intro u W hC hK
        unfold Facts.one
        go_simp
        all_goals (first | exact ⟨Grew.refl _, rfl⟩ | rfl)
      simp only [Act.put, List.setIfInBounds_toArray, List.set_cons_zero, List.set_cons_succ, Nat.reduceAdd]
      apply Facts.Lex.exact [] _ (by kernel_rfl)
      · intro u W hC hK
        unfold Facts.one
        go_simp
        all_goals (first | exact ⟨Grew.refl _, rfl⟩ | rfl)
      simp only [Act.put, List.setIfInBounds_toArray, List.set_cons_zero, List.set_cons_succ, Nat.reduceAdd]
      apply Facts.Lex.exact [] _ (by kernel_rfl)
      · intro u W hC hK
        unfold Facts.one
        go_simp
        all_goals (first | exact ⟨Grew.refl _, rfl⟩ | rfl)
      simp only [Act.put, List.setIfInBounds_toArray, List.set_cons_zero, List.set_cons_succ, Nat.reduceAdd]
      apply Facts.Lex.exact [] _ (by kernel_rfl)
      · intro u W hC hK
        unfold Facts.one
        go_simp
        all_goals (first | exact ⟨Grew.refl _, rfl⟩ | rfl)
      simp only [Act.put, List.setIfInBounds_toArray, List.set_cons_zero, List.set_cons_succ, Nat.reduceAdd]
      apply Facts.Lex.exact [] _ (by kernel_rfl)
      · intro u W hC hK
        unfold Facts.one
        go_simp
        all_goals (first | exact ⟨Grew.refl _, rfl⟩ | rfl)
      simp only [Act.put, List.setIfInBounds_toArray, List.set_cons_zero, List.set_cons_succ, Nat.reduceAdd]
      apply Facts.Lex.exact [] _ (by kernel_rfl)
      · intro u W hC hK
        unfold Facts.one
        go_simp
        all_goals (first | exact ⟨Grew.refl _, rfl⟩ | rfl)
      simp only [Act.put, List.setIfInBounds_toArray, List.set_cons_zero, List.set_cons_succ, Nat.reduceAdd]
      apply Facts.Lex.exact [] _ (by kernel_rfl)
      · intro u W hC hK
        unfold Facts.one
        go_simp
        all_goals (first | exact ⟨Grew.refl _, rfl⟩ | rfl)
      simp only [Act.put, List.setIfInBounds_toArray, List.set_cons_zero, List.set_cons_succ, Nat.reduceAdd]
      apply Facts.Lex.exact [] (.slice (some (ad.add kk)) 108 (c9 - kk)) (by kernel_rfl)
      · intro u W hC hK
        unfold Facts.one
        go_simp
        refine ⟨Grew.refl _, ?_⟩
        rw [if_neg (by have := HKL.out; omega), show kl - kk = 108 by have := HKL.out; omega]
      simp only [Act.put, List.setIfInBounds_toArray, List.set_cons_zero, List.set_cons_succ, Nat.reduceAdd]
      apply Facts.Lex.know [] (SP (sealed bq L1)) (by kernel_rfl) (fun v y z hv hg => hv.grew hg)
      · intro u W hC hK
        unfold Facts.one
        go_simp
        refine (HSEAL.out W hC).mono ?_
        rintro e w' ⟨v', rfl, h1, h2⟩
        exact ⟨_, rfl, h2, SP.mk' h1⟩
      simp only [Act.put, List.setIfInBounds_toArray, List.set_cons_zero, List.set_cons_succ, Nat.reduceAdd]
      apply Facts.Lex.know [12] (SP (sealed bq L1)) (by kernel_rfl) (fun v y z hv hg => hv.grew hg)
      · intro u W hC hK
        have h9 := hK.1
        unfold Facts.one
        go_simp
        exact ⟨Grew.refl _, h9⟩
      simp only [Act.put, List.setIfInBounds_toArray, List.set_cons_zero, List.set_cons_succ, Nat.reduceAdd]
      apply Facts.Lex.know [13] (RX (sealed bq L1)) (by kernel_rfl) (fun v y z hv hg => hv.grew hg)
      · intro u W hC hK
        obtain ⟨v9, e9, h9⟩ := hK.1
        unfold Facts.one
        go_simp
        exact ⟨Grew.refl _, h9⟩
      simp only [Act.put, List.setIfInBounds_toArray, List.set_cons_zero, List.set_cons_succ, Nat.reduceAdd]
      apply Facts.Lex.exact [13] (.int .i64 0) (by kernel_rfl)
      · intro u W hC hK
        obtain ⟨v9, e9, h9⟩ := hK.1
        unfold Facts.one
        go_simp
        all_goals (first | exact ⟨Grew.refl _, rfl⟩ | rfl)
      simp only [Act.put, List.setIfInBounds_toArray, List.set_cons_zero, List.set_cons_succ, Nat.reduceAdd]
      apply Facts.Lex.know [14] (RX (sealed bq L1)) (by kernel_rfl) (fun v y z hv hg => hv.grew hg)
      · intro u W hC hK
        have h9 := hK.1
        unfold Facts.one
        go_simp
        exact ⟨Grew.refl _, h9⟩
      simp only [Act.put, List.setIfInBounds_toArray, List.set_cons_zero, List.set_cons_succ, Nat.reduceAdd]
      apply Facts.Lex.exact [] _ (by kernel_rfl)
      · intro u W hC hK
        unfold Facts.one
        go_simp
        all_goals (first | exact ⟨Grew.refl _, rfl⟩ | rfl)
      simp only [Act.put, List.setIfInBounds_toArray, List.set_cons_zero, List.set_cons_succ, Nat.reduceAdd]
      refine Facts.Lex.done fun u W hC hK => ?_
      have h16 := hK (16, RX (sealed bq L1)) (by simp)
      simp only at h16
      have HR16 := Lib.hid h16
      have HC := Lib.hid hC
      clear hK h16 hC HSEAL
      generalize u 16 = vx at *
      clear t0 t1 t2 t3 t4 e1 e3 e4 e5 e6
      obtain ⟨t0, t1, t2, t3, t4⟩ := (HPX.out.sx.grew HC.out).cells
      obtain ⟨b0, b1, b2, b3, b4⟩ := (HPX.out.fx.grew HC.out).cells
      have HWR2 := Lib.hid (HWR.out vx W HC.out HR16.out)
      go_wp2_with fail
      refine HWR2.out.mono ?_
      rintro e w2 ⟨v2, rfl, hr2, hg2⟩
      have hgg := HC.out.trans hg2
      obtain ⟨A1, A2, A3, n1, n2, n3, c1, c2, c3, f, o, z, rfl, hst, hk, hpq⟩ := put3 HPX.out hr2 hgg (by have := HBP.out; omega) (by have := HBQ.out; omega)
      have HPZ := Lib.hid hpq
      have HSTO := Lib.hid hst
      have HRZ : Hid (Rd (fun k => BP + 4 ≤ k) z (.slice (some ad) m c9) (place each b)) := Lib.hid ((HRX.out.grew hgg).keep fun k hk1 hk2 => hk.block k hk1 (by omega))
      clear hst hr2 hg2 hgg hk hpq HWR HWR2 HR16 HRX t0 t1 t2 t3 t4 b0 b1 b2 b3 b4 e2
      unfold dv
      by_cases hq : q1 = 0
      · subst hq
        have hxx := HXX2.out
        rw [if_pos rfl] at hxx
        have HX3 := Lib.hid hxx
        have hk1 : IntKind.i64.wrap ((k : Int) + 1) = (k : Int) + 1 := IntWalk.i64_in _ (by have := HSH.out.e2; omega)
        clear hxx HXX2
        go_wp2_with (refine DArm.wpList_store (by rfl) 49 (.tmp 3) (.tmp 72) (by with_reducible rfl) _ _ (by rfl) (by rfl) _ HSTO.out ?_)
        go_wp2
        go_roundg q
        case measure => omega
        case rel => exact ⟨k + 1, A1, A2, A3, n1, n2, n3, c1, c2, c3, f, o, r1, by omega, by first | rfl | simp, rfl, HPZ, HRZ, HX3, HLN, HLW⟩
      · have hxx := HXX2.out
        rw [if_neg hq] at hxx
        injection hxx with hx1 hx2
        subst hx1 hx2
        have HJA : Hid (J = (⟨first, places, each, used, base⟩, r1, q1)) := Lib.hid (by rw [← HJ.out]; exact rjapp_bad _ _ _ HK1.out HK2.out _ _ HX1.out hq)
        have b1 : (q1 == 0) = false := by simpa using hq
        have b2 : (q1 != 0) = true := by simpa using hq
        clear hq HXX2
        go_wp2_with (refine DArm.wpList_store (by rfl) 49 (.tmp 3) (.tmp 72) (by with_reducible rfl) _ _ (by rfl) (by rfl) _ HSTO.out ?_)
        go_wp2
        clear HSTO
        refine Chain.wp_chain [3, 4] (fun i _ y => PQ w BP BQ BR BS0 A1 A2 A3 n1 n2 n3 c1 c2 c3 f o r1 first places each base used i y) (by kernel_rfl) (by kernel_rfl) (HPZ.out.grew ((Grew.refl _).drew)) ?_
        apply Marks.Lex.exact [] _ (by kernel_rfl)
        · intro m u W hm hcl hJ _
          obtain ⟨ii, _, hP⟩ := hJ.any
          obtain ⟨b0, b1, b2, b3, b4⟩ := hP.fx.cells
          unfold Marks.one
          go_simp
          exact ⟨trivial, hJ.quiet (k := 0) _ (by rfl) (fun ii hh => hh), rfl⟩
        simp only [Act.put, List.setIfInBounds_toArray, List.set_cons_zero, List.set_cons_succ, Nat.zero_add]
        apply Marks.Lex.exact [] _ (by kernel_rfl)
        · intro m u W hm hcl hJ _
          obtain ⟨ii, _, hP⟩ := hJ.any
          obtain ⟨b0, b1, b2, b3, b4⟩ := hP.sx.cells
          unfold Marks.one
          go_simp
          exact ⟨trivial, hJ.quiet (k := 1) _ (by rfl) (fun ii hh => hh), rfl⟩
        simp only [Act.put, List.setIfInBounds_toArray, List.set_cons_zero, List.set_cons_succ, Nat.reduceAdd]
        apply Marks.Lex.exact [] _ (by kernel_rfl)
        · intro m u W hm hcl hJ _
          unfold Marks.one
          go_simp
          exact ⟨trivial, hJ.quiet (k := 2) _ (by rfl) (fun ii hh => hh), rfl⟩
        simp only [Act.put, List.setIfInBounds_toArray, List.set_cons_zero, List.set_cons_succ, Nat.reduceAdd]
        apply Marks.Lex.exact [] undef (by kernel_rfl)
        · intro m u W hm hcl hJ _
          obtain ⟨hP, hput⟩ := hJ.put 0 rfl hm hcl (by decide) (by decide)
          obtain ⟨w', hst, hq⟩ := hP.put6
          exact DWrite.one_store rfl 49 (.tmp 6) (.tmp 76) rfl _ _ rfl rfl w' hst ⟨trivial, hput undef w' (fun _ => hq), rfl⟩
        simp only [Act.put, List.setIfInBounds_toArray, List.set_cons_zero, List.set_cons_succ, Nat.reduceAdd]
        apply Marks.Lex.exact [] undef (by kernel_rfl)
        · intro m u W hm hcl hJ _
          obtain ⟨hP, hput⟩ := hJ.put 1 rfl hm hcl (by decide) (by decide)
          obtain ⟨w', hst, hq⟩ := hP.put7
          exact DWrite.one_store rfl 52 (.tmp 7) (.tmp 77) rfl _ _ rfl rfl w' hst ⟨trivial, hput undef w' (fun _ => hq), rfl⟩
        simp only [Act.put, List.setIfInBounds_toArray, List.set_cons_zero, List.set_cons_succ, Nat.reduceAdd]
        apply Marks.Lex.exact [] _ (by kernel_rfl)
        · intro m u W hm hcl hJ _
          unfold Marks.one
          go_simp
          exact ⟨trivial, hJ.quiet (k := 5) _ (by rfl) (fun ii hh => hh), rfl⟩
        simp only [Act.put, List.setIfInBounds_toArray, List.set_cons_zero, List.set_cons_succ, Nat.reduceAdd]
        refine Marks.Lex.done fun m0 u W' hm hJ _ => ?_
        have hE : PQ w BP BQ BR BS0 A1 A2 A3 n1 n2 n3 c1 c2 c3 f o r1 first places each base used 2 W' := hJ.done (by intro k hk; exact hm k (by simp at hk; omega))
        have HE := Lib.hid hE
        clear hJ hm hE
        go_wp2
        have l6 := run_loadVar_mid (P := Try.prog) W' BR 0 49 (d5 A1 A2 A3 n1 n2 n3 c1 c2 c3 f o) _ (fun j v hv => by rw [cell_of_row _ _ _ _ _ _ (HE.out.six1 (by omega)), Nat.zero_add]; first | exact hv | simpa [d5] using hv) Try.underlying49 rfl size32
        have l7 := run_loadVar_mid (P := Try.prog) W' BS0 0 52 [.int .i64 (first : Int), .int .i64 (places : Int), .int .i64 (each : Int), .int .u64 (base : Int), .int .i64 (used : Int)] _ (fun j v hv => by rw [cell_of_row _ _ _ _ _ _ (HE.out.seven1 (by omega)), Nat.zero_add]; simpa using hv) Try.underlying52 rfl size52
        refine bodyPost_ret (v := .tuple #[dv A1 A2 A3 n1 n2 n3 c1 c2 c3 f o, sh (first : Int) (places : Int) (each : Int) base (used : Int), .int .i64 q1]) ?_ rfl (by show APP w J.1 J.2.1 J.2.2 _ _; rw [HJA.out]; exact ⟨_, rfl, HE.out.rd, HE.out.gr⟩)
        simp [results, Try.results28]
        simp [asAddr, l6, l7, d5, dv, sh]
end Go.Proofs.Ytbnicphegbdfnaa.RH
