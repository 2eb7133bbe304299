/-
  What must come of fixed calls of disks: it does.
  Conditions: none.
-/
import Derived.Test.YtiajjkjdmcoodaaDClone
namespace Go.Proofs.Ytiajjkjdmcoodaa.DAlive
set_option maxRecDepth 100000
open Go Go.RowKit Go.Proofs.Ytiajjkjdmcoodaa Go.Proofs.Ytiajjkjdmcoodaa.Facts Go.Proofs.Ytiajjkjdmcoodaa.Bytes Go.Proofs.Ytiajjkjdmcoodaa.DKeep Go.Proofs.Ytiajjkjdmcoodaa.DSmall Go.Proofs.Ytiajjkjdmcoodaa.DTurn Go.Proofs.Ytiajjkjdmcoodaa.DArm Go.Proofs.Ytiajjkjdmcoodaa.DRead Go.Proofs.Ytiajjkjdmcoodaa.DNew Go.Proofs.Ytiajjkjdmcoodaa.DBuild Go.Proofs.Ytiajjkjdmcoodaa.DWrite Go.Proofs.Ytiajjkjdmcoodaa.DOver Go.Proofs.Ytiajjkjdmcoodaa.DSettle Go.Proofs.Ytiajjkjdmcoodaa.DFlush Go.Proofs.Ytiajjkjdmcoodaa.DClone

def filled (c : UInt8) : Sec := List.replicate 128 c
theorem filled_length (c : UInt8) : (filled c).length = 128 := by simp [filled]
/-- Filled up to k. -/
def fillp (c : UInt8) (k : Nat) : Sec := List.replicate k c ++ List.replicate (128 - k) 0
theorem fillp_length (c : UInt8) (k : Nat) (h : k ≤ 128) : (fillp c k).length = 128 := by simp [fillp]; omega
theorem fillp_set (c : UInt8) (k : Nat) (h : k < 128) : (fillp c k).set k c = fillp c (k + 1) := by
  unfold fillp
  rw [List.set_append_right _ _ (by simp), List.length_replicate, Nat.sub_self, show 128 - k = (128 - (k + 1)) + 1 by omega, List.replicate_succ, List.set_cons_zero, List.replicate_succ', List.append_assoc]
  rfl
theorem fillp_full (c : UInt8) : fillp c 128 = filled c := by simp [fillp, filled]
theorem fillp_zero (c : UInt8) : fillp c 0 = zsec := by simp [fillp, zsec]
theorem zero5 : (Try.prog.info? 5).map (fun i => (i.zero.map (·.cells), i.size, i.bytes)) = some (some #[.int .u8 0], 1, 1) := by kernel_rfl
theorem run_mk34 (u : World) : (Instr.makeSlice 34 (.int .i64 128) (.int .i64 128)).run Try.prog u = .ok (.slice (some ⟨u.heap.size, 0, none⟩) 128 128) (u.alloc (.cells (bv zsec).toArray 5)) := by
  cases hq : Try.prog.info? 5 with
  | none => have := zero5; simp [hq] at this
  | some i =>
    have h := zero5
    simp only [hq, Option.map_some, Option.some.injEq, Prod.mk.injEq] at h
    obtain ⟨h1, h2, h3⟩ := h
    cases hz : i.zero with
    | none => simp [hz] at h1
    | some z =>
      have hzc : z.cells = #[.int .u8 0] := by simpa [hz] using h1
      have hr := run_make (P := Try.prog) u 34 5 i z Try.underlying34 hq hz .i64 .i64 128 128 (by omega) (Int.le_refl _) (by rw [h3]; omega) (by omega)
      rw [hr, hzc, h2]
      have e : madeCells #[.int .u8 0] 128 = (bv zsec).toArray := by
        apply Array.ext'
        rw [toList_madeCells_one]
        unfold bv zsec
        rw [List.map_replicate]
        rfl
      rw [show (128 : Int).toNat * 1 = 128 from rfl, e]
      rfl

set_option maxHeartbeats 2000000 in
theorem fill_any (c : UInt8) (w : World) : Calls Try.prog 24 #[.int .u8 (c.toNat : Int)] w fun e w' => ∃ v', e = .returned v' ∧ Rd (fun b => w.heap.size ≤ b ∧ b < w'.heap.size) w' v' (filled c) ∧ Grew w w' := by
  have hmk := run_mk34
  have HC := Lib.hid c.toNat_lt
  go_enter Try.func24, Try.ntmps24
  go_wp2
  clear hmk
  have hb0 : (w.alloc (.cells (bv zsec).toArray 5)).heap[w.heap.size]? = some (.cells (bv (fillp c 0)).toArray 5 (0, 0)) := by rw [fillp_zero]; exact heap_alloc_new w _
  have HB0 := Lib.hid hb0
  have HG0 : Hid (Grew w (w.alloc (.cells (bv zsec).toArray 5))) := Lib.hid ((Below.refl _ w).alloc (Nat.le_refl _) _)
  clear hb0
  go_loopg [4] 128 (fun q s4 wx => ∃ k : Nat, k + q = 128 ∧ s4 = .int .i64 k ∧ Hid (wx.heap[w.heap.size]? = some (.cells (bv (fillp c k)).toArray 5 (0, 0))) ∧ Hid (Grew w wx))
  case atStart => exact ⟨0, rfl, rfl, HB0, HG0⟩
  case round =>
    obtain ⟨k, hkq, rfl, HB, HG⟩ := hrel
    clear HB0 HG0
    cases gk with
    | zero =>
      have hk : ¬ ((k : Int) < 128) := by omega
      obtain rfl : k = 128 := by omega
      go_wp2
      go_ret
      have hb := HB.out
      rw [fillp_full] at hb
      refine ⟨.slice (some ⟨w.heap.size, 0, none⟩) 128 128, rfl, ?_, HG.out⟩
      have hl := filled_length c
      refine ⟨some ⟨w.heap.size, 0, none⟩, 128, by rw [hl], by rw [hl]; exact Nat.le_refl _, by decide, (fun h => by cases h), fun ad ha => ⟨fun _ => ?_, fun j u hu => ?_⟩⟩
      · cases ha
        exact ⟨Nat.le_refl _, (Array.getElem?_eq_some_iff.1 hb).1⟩
      · cases ha
        rw [Addr.add_mid, cell_of_row _ _ _ _ _ _ hb, Nat.zero_add]
        simpa using hu
    | succ q =>
      have hk : (k : Int) < 128 := by omega
      have hk2 : k < 128 := by omega
      have hcell : wr.cell? ⟨w.heap.size, k, none⟩ = some (.int .u8 (((fillp c k)[k]?.getD 0).toNat : Int)) := by
        rw [cell_of_row _ _ _ _ _ _ HB.out, List.getElem?_toArray]
        exact bv_get _ _ (by rw [fillp_length c k (by omega)]; exact hk2)
      have hfro : wr.frozen? ⟨w.heap.size, k, none⟩ = false := frozen_of_row _ _ _ _ _ HB.out
      go_wp2
      go_roundg q
      case measure => omega
      case rel =>
        refine ⟨k + 1, by omega, by first | rfl | simp, ?_, Lib.hid (Below.setCell (p := ⟨w.heap.size, k, none⟩) HG.out (Nat.le_refl _) _)⟩
        show _ = _
        rw [heap_setCell_same _ _ _ _ _ _ HB.out, List.setIfInBounds_toArray]
        have e : (bv (fillp c k)).set k (.int .u8 (c.toNat : Int)) = bv ((fillp c k).set k c) := by simp [bv, List.map_set]
        rw [e, fillp_set c k hk2]

theorem grew_kept {w a b : World} {D : Nat → Prop} (h : Grew w a) (k : Kept D a b) (hd : ∀ j, D j → w.heap.size ≤ j) : Grew w b :=
  ⟨k.os.trans h.os, k.tape.trans h.tape, k.output.trans h.output, Nat.le_trans h.size k.size, fun j hj => (k.block j (Nat.lt_of_lt_of_le hj h.size) (fun hh => by have := hd j hh; omega)).trans (h.block j hj)⟩

def d0 : Pd := fresh 2
def d1 : Pd := noted (fresh 2) 1 (filled 5)
def dC : Pd := crashed d1 [3]
def dF : Pd := ended (fun _ => 16) d1
def dZ : Pd := fused dC 0
def dX : Pd := { dZ with off := true }
def R1 : Sec := cutw zsec (filled 5) 3
def R2 : Sec := cutw zsec (filled 5) 16
theorem E1 : DWrite.written d0 1 (filled 5) = (d1, 0) := by kernel_rfl
theorem E2 : DWrite.written d1 2 (filled 5) = (d1, 16) := by kernel_rfl
theorem E3 : DWrite.written d1 1 [] = (d1, 1) := by kernel_rfl
theorem E4 : flushed d1 = (dF, 0) := by kernel_rfl
theorem E5 : readOf dC 1 = (R1, 0) := by kernel_rfl
theorem E6 : readOf dF 1 = (R2, 0) := by kernel_rfl
theorem E7 : flushed dZ = (dX, 15) := by kernel_rfl
theorem E8 : dX.off = true := rfl
theorem E9 : dX.safe.length = 2 := by kernel_rfl
theorem E10 : d1.waits.length = 1 := by kernel_rfl
theorem F1 : R1.length = 128 := by kernel_rfl
theorem F2 : R2.length = 128 := by kernel_rfl
theorem F3 : R1[23]?.getD 0 = 5 := by kernel_rfl
theorem F4 : R1[24]?.getD 0 = 0 := by kernel_rfl
theorem F5 : R2[24]?.getD 0 = 5 := by kernel_rfl

theorem write_eq (w : World) (g : Nat) (D : Nat → Prop) (d : Pd) (n : Int) (v : Value) (S : Nat → Prop) (l : Sec) (d' : Pd) (q : Int) (h : DK w g D d) (hr : Rd S w v l) (hw : d.waits.length ≤ 1073741823) (he : DWrite.written d n l = (d', q)) :
    Calls Try.prog 11 #[.pointer (some ⟨g, 0, none⟩), .int .i64 n, v] w fun e w' => e = .returned (.int .i64 q) ∧ ∃ D', DK w' g D' d' ∧ (∀ k, D' k → D k ∨ w.heap.size ≤ k) ∧ Kept D w w' := by
  have := write_any w g D d n v S l h hr hw
  rwa [he] at this
theorem flush_eq (w : World) (g : Nat) (D : Nat → Prop) (d d' : Pd) (q : Int) (h : DK w g D d) (hw : d.waits.length ≤ 1073741824) (he : flushed d = (d', q)) :
    Calls Try.prog 13 #[.pointer (some ⟨g, 0, none⟩)] w fun e w' => e = .returned (.int .i64 q) ∧ DK w' g D d' ∧ Kept D w w' := by
  have := flush_any w g D d h hw
  rwa [he] at this
theorem read_eq (w : World) (g : Nat) (D : Nat → Prop) (d : Pd) (n : Int) (l : Sec) (q : Int) (h : DK w g D d) (he : readOf d n = (l, q)) :
    Calls Try.prog 19 #[.pointer (some ⟨g, 0, none⟩), .int .i64 n] w fun e w' => ∃ v', e = .returned (.tuple #[v', .int .i64 q]) ∧ Rd (fun b => w.heap.size ≤ b) w' v' l ∧ Grew w w' := by
  have := read_any w g D d n h
  rwa [he] at this
theorem new_eq (n : Nat) (x : Int) (hx : x = (n : Int)) (w : World) (h1 : 1 ≤ n) (h2 : n ≤ 16384) : Calls Try.prog 7 #[.int .i64 x] w fun e w' => ∃ g, e = .returned (.tuple #[.pointer (some ⟨g, 0, none⟩), .int .i64 0]) ∧ DK w' g (fun k => w.heap.size ≤ k ∧ k < w'.heap.size) (fresh n) ∧ Grew w w' := by
  subst hx
  exact new_any n w h1 h2
theorem fill_eq (c : UInt8) (x : Int) (hx : x = (c.toNat : Int)) (w : World) : Calls Try.prog 24 #[.int .u8 x] w fun e w' => ∃ v', e = .returned v' ∧ Rd (fun b => w.heap.size ≤ b ∧ b < w'.heap.size) w' v' (filled c) ∧ Grew w w' := by
  subst hx
  exact fill_any c w
theorem lit_rd (w : World) (l : List UInt8) (hl : l.length ≤ maxLen) : Rd (fun b => b = w.heap.size) (w.alloc (.cells (bv l).toArray 5)) (.slice (some ⟨w.heap.size, 0, none⟩) l.length l.length) l := by
  refine ⟨some ⟨w.heap.size, 0, none⟩, l.length, rfl, Nat.le_refl _, hl, (fun h => by cases h), fun ad ha => ⟨fun _ => by cases ha; rfl, fun j u hu => ?_⟩⟩
  cases ha
  rw [Addr.add_mid, cell_of_row _ _ _ _ _ _ (heap_alloc_new w _), Nat.zero_add]
  simpa using hu
theorem shape {S : Nat → Prop} {w : World} {v : Value} {l : List UInt8} (h : Rd S w v l) (n : Nat) (hn : l.length = n) (hp : 0 < n) :
    ∃ ad c, v = .slice (some ad) n c ∧ n ≤ c ∧ c ≤ 9223372036854775807 ∧ ∀ k, k < n → ∀ b, l[k]?.getD 0 = b → w.cell? (ad.add k) = some (.int .u8 (b.toNat : Int)) := by
  subst hn
  obtain ⟨A, c, rfl, h1, h2, h3, h4⟩ := h
  unfold maxLen at h2
  cases A with
  | none => have := h3 rfl; omega
  | some ad => exact ⟨ad, c, rfl, h1, by omega, fun k hk b hb => by rw [← hb]; exact (h4 ad rfl).2 k _ (bv_get l k hk)⟩
/-- What is a disk's, is at or above b. -/
def Above (D : Nat → Prop) (b : Nat) : Prop := ∀ k, D k → b ≤ k
theorem above_sub {D D' : Nat → Prop} {b s : Nat} (h : Above D b) (hs : ∀ k, D' k → D k ∨ s ≤ k) (hb : b ≤ s) : Above D' b := fun k hk => by
  rcases hs k hk with h1 | h1
  · exact h k h1
  · exact Nat.le_trans hb h1

set_option maxHeartbeats 4000000 in
theorem alive_any (w : World) : Calls Try.prog 8 #[] w fun e w' => e = .returned (.bool true) ∧ Grew w w' := by
  have hb := new_bad 0
  have HB := Lib.hid (fun w => new_bad 0 w (.inl (by omega)))
  clear hb
  go_enter Try.func8, Try.ntmps8
  go_wp2_with fail
  refine (new_eq 2 2 rfl w (by omega) (by omega)).mono ?_
  rintro e w1 ⟨g, rfl, hd, hg⟩
  have HD := Lib.hid hd
  have HG := Lib.hid hg
  have HA : Hid (Above (fun k => w.heap.size ≤ k ∧ k < w1.heap.size) w.heap.size) := Lib.hid fun k hk => hk.1
  clear hd hg
  generalize hDD : (fun k => w.heap.size ≤ k ∧ k < w1.heap.size) = D at *
  clear hDD
  go_wp2_with fail
  refine (HB.out _).mono ?_
  rintro e w' ⟨rfl, rfl⟩
  clear HB
  go_wp2_with fail
  refine (fill_eq 5 5 rfl w1).mono ?_
  rintro e w2 ⟨v2, rfl, hr2, hg2⟩
  have HD2 := Lib.hid (HD.out.grew hg2)
  have HG2 := Lib.hid (HG.out.trans hg2)
  have HR2 := Lib.hid hr2
  clear hr2 hg2 HD HG
  go_wp2_with fail
  refine (write_eq w2 g D d0 1 v2 _ _ d1 0 HD2.out HR2.out (by decide) E1).mono ?_
  rintro e w3 ⟨rfl, D3, hd3, hs3, hk3⟩
  have HD3 := Lib.hid hd3
  have HG3 := Lib.hid (grew_kept HG2.out hk3 HA.out)
  have HA3 := Lib.hid (above_sub HA.out hs3 HG2.out.size)
  clear hd3 hs3 hk3 HD2 HR2 HA HG2
  go_wp2_with fail
  have hwt := waits_any w3 g D3 d1 HD3.out
  rw [E10] at hwt
  refine hwt.mono ?_
  rintro e w' ⟨rfl, rfl⟩
  clear hwt
  go_wp2_with fail
  refine (fill_eq 5 5 rfl w3).mono ?_
  rintro e w4 ⟨v4, rfl, hr4, hg4⟩
  have HD4 := Lib.hid (HD3.out.grew hg4)
  have HG4 := Lib.hid (HG3.out.trans hg4)
  have HR4 := Lib.hid hr4
  clear hr4 hg4 HD3 HG3
  go_wp2_with fail
  refine (write_eq w4 g D3 d1 2 v4 _ _ d1 16 HD4.out HR4.out (by decide) E2).mono ?_
  rintro e w5 ⟨rfl, D5, hd5, hs5, hk5⟩
  have HD5 := Lib.hid hd5
  have HG5 := Lib.hid (grew_kept HG4.out hk5 HA3.out)
  have HA5 := Lib.hid (above_sub HA3.out hs5 HG4.out.size)
  clear hd5 hs5 hk5 HD4 HR4 HA3 HG4
  go_wp2_with fail
  refine (write_eq w5 g D5 d1 1 _ (fun _ => True) [] d1 1 HD5.out (Rd.nil _ _) (by decide) E3).mono ?_
  rintro e w6 ⟨rfl, D6, hd6, hs6, hk6⟩
  have HD6 := Lib.hid hd6
  have HG6 := Lib.hid (grew_kept HG5.out hk6 HA5.out)
  have HA6 := Lib.hid (above_sub HA5.out hs6 HG5.out.size)
  clear hd6 hs6 hk6 HD5 HA5 HG5
  go_wp2_with fail
  refine (clone_any w6 g D6 d1 HD6.out (by decide)).mono ?_
  rintro e w7 ⟨g7, rfl, hd7, hg7⟩
  have HD7 := Lib.hid (HD6.out.grew hg7)
  have HC7 := Lib.hid hd7
  have HG7 := Lib.hid (HG6.out.trans hg7)
  have HAC : Hid (Above (fun k => w6.heap.size ≤ k ∧ k < w7.heap.size) w6.heap.size) := Lib.hid fun k hk => hk.1
  have HDL : Hid (∀ k, D6 k → k < w6.heap.size) := Lib.hid HD6.out.1
  have HS6 := Lib.hid HG6.out.size
  have HZ7 := Lib.hid hg7.size
  generalize hDD : (fun k => w6.heap.size ≤ k ∧ k < w7.heap.size) = DC at *
  clear hDD hd7 hg7 HD6 HG6
  unfold dptr
  go_wp2_with fail
  have hg8 : Grew w7 (w7.alloc (.cells #[.int .u8 3] 5)) := (Below.refl _ w7).alloc (Nat.le_refl _) _
  refine (crash_any _ g D6 d1 (fun b => b = w7.heap.size) _ [3] (HD7.out.grew hg8) (lit_rd w7 [3] (by decide)) (fun b hb hd => by have := HDL.out b hd; have := HC7.out.1; subst hb; have := HD7.out.1 _ hd; omega) (by decide)).mono ?_
  rintro e w8 ⟨rfl, hd8, hk8⟩
  have HD8 : Hid (DK w8 g D6 dC) := Lib.hid hd8
  have HG8 := Lib.hid (grew_kept (HG7.out.trans hg8) hk8 HA6.out)
  have HC8 := Lib.hid ((HC7.out.grew hg8).keep hk8 fun k hk hd => by have h1 := HAC.out k hk; have h2 := HDL.out k hd; omega)
  have HZ8 := Lib.hid (Nat.le_trans HZ7.out (Nat.le_trans hg8.size hk8.size))
  clear hd8 hk8 hg8 HD7 HC7 HG7
  go_wp2_with fail
  refine (flush_eq w8 g7 DC d1 dF 0 HC8.out (by decide) E4).mono ?_
  rintro e w9 ⟨rfl, hc9, hk9⟩
  have HC9 := Lib.hid hc9
  have HD9 := Lib.hid (HD8.out.keep hk9 fun k hk hd => by have h1 := HAC.out k hd; have h2 := HDL.out k hk; omega)
  have HG9 := Lib.hid (grew_kept HG8.out hk9 fun j hj => Nat.le_trans HS6.out (HAC.out j hj))
  have HZ9 := Lib.hid (Nat.le_trans HZ8.out hk9.size)
  clear hc9 hk9 HD8 HC8 HG8
  go_wp2_with fail
  refine (flush_none w9).mono ?_
  rintro e w' ⟨rfl, rfl⟩
  go_wp2_with fail
  refine (clone_none w9).mono ?_
  rintro e w' ⟨rfl, rfl⟩
  go_wp2_with fail
  refine (read_eq w9 g D6 dC 1 R1 0 HD9.out E5).mono ?_
  rintro e wa ⟨va, rfl, hra, hga⟩
  obtain ⟨ada, ca, rfl, ha1, ha2, _⟩ := shape hra 128 F1 (by decide)
  have HDa := Lib.hid (HD9.out.grew hga)
  have HCa := Lib.hid (HC9.out.grew hga)
  have HGa := Lib.hid (HG9.out.trans hga)
  have HRa := Lib.hid hra.lt
  have HSa9 := Lib.hid hga.size
  clear hra hga HD9 HC9 HG9
  go_wp2_with fail
  refine (read_eq wa g7 DC dF 1 R2 0 HCa.out E6).mono ?_
  rintro e wb ⟨vb, rfl, hrb, hgb⟩
  obtain ⟨adb, cb, rfl, hb1, hb2, _⟩ := shape hrb 128 F2 (by decide)
  have HDb := Lib.hid (HDa.out.grew hgb)
  have HGb := Lib.hid (HGa.out.trans hgb)
  have HRb := Lib.hid hrb.lt
  have HRab := Lib.hid (HRa.out.grew hgb)
  have HSab := Lib.hid HSa9.out
  have HZw := Lib.hid HRb.out
  clear hrb hgb HDa HGa HRa HCa
  have hfz := fuse_any wb g D6 dC 0 (by omega) HDb.out
  unfold dptr at hfz
  go_wp2_with fail
  refine hfz.mono ?_
  rintro e wc ⟨rfl, hdc, hkc⟩
  have HDc : Hid (DK wc g D6 dZ) := Lib.hid hdc
  have HGc := Lib.hid (grew_kept HGb.out hkc HA6.out)
  have hRa := HRab.out.keep (w' := wc) fun b hb hs => hkc.block b hb (fun hd => by have h1 := HDL.out b hd; have h2 := HZ9.out; have h3 := hs.1; omega)
  have hRb := HRb.out.keep (w' := wc) fun b hb hs => hkc.block b hb (fun hd => by have h1 := HDL.out b hd; have h2 := HZ9.out; have h3 := hs.1; have h4 := HSab.out; omega)
  obtain ⟨_, _, e1, _, _, r1⟩ := shape hRa 128 F1 (by decide)
  injection e1 with f1 _ _
  injection f1 with f1
  subst f1
  obtain ⟨_, _, e2, _, _, r2⟩ := shape hRb 128 F2 (by decide)
  injection e2 with f2 _ _
  injection f2 with f2
  subst f2
  have m1 : wc.cell? { block := ada.block, off := ada.off + 23 } = some (.int .u8 5) := r1 23 (by decide) 5 F3
  have m2 : wc.cell? { block := ada.block, off := ada.off + 24 } = some (.int .u8 0) := r1 24 (by decide) 0 F4
  have m3 : wc.cell? { block := adb.block, off := adb.off + 24 } = some (.int .u8 5) := r2 24 (by decide) 5 F5
  clear hfz hdc hkc hRa hRb r1 r2 HDb HGb HRab HRb HZw
  go_wp2_with fail
  refine (flush_eq wc g D6 dZ dX 15 HDc.out (by decide) E7).mono ?_
  rintro e wd ⟨rfl, hdd, hkd⟩
  have HDd := Lib.hid hdd
  have HGd := Lib.hid (grew_kept HGc.out hkd HA6.out)
  clear hdd hkd HDc HGc
  have hof := off_any wd g D6 dX HDd.out
  rw [E8] at hof
  have hsz := size_any wd g D6 dX HDd.out
  rw [E9] at hsz
  unfold dptr at hof hsz
  go_wp2_with fail
  refine hof.mono ?_
  rintro e w' ⟨rfl, rfl⟩
  go_wp2_with fail
  refine hsz.mono ?_
  rintro e w' ⟨rfl, rfl⟩
  go_wp2
  go_returns
  exact ⟨rfl, HGd.out⟩
end Go.Proofs.Ytiajjkjdmcoodaa.DAlive
