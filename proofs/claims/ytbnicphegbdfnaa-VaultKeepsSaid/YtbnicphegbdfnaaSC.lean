/-
  Rows of structs that came in, as they are read.
  Conditions: none beyond those that each lemma names.
-/
import Derived.Test.YtbnicphegbdfnaaJOpens
import Derived.Test.YtbnicphegbdfnaaSN
namespace Go.Proofs.Ytbnicphegbdfnaa.AOpens
set_option maxRecDepth 100000
open Go Go.ChangeShapes Go.WideShapes Go.ChangeAt Go.RowKit Go.Deep Go.Joins Go.Lib Go.Proofs.Ytbnicphegbdfnaa Go.Proofs.Ytbnicphegbdfnaa.Facts Go.Proofs.Ytbnicphegbdfnaa.Bytes
structure Tu where
  b : List UInt8
  keep : List UInt8
  fl : Bool
deriving Inhabited
/-- A row of them, as it lies. -/
def TU (w : World) (A : Option Addr) (c : Nat) (L : List Tu) : Prop := L.length ≤ c ∧ c ≤ 9223372036854775807 ∧ (A = none → c = 0) ∧ ∀ ad, A = some ad → ∀ i x, L[i]? = some x → ∃ v0 v1, w.cell? (ad.add (i * 3)) = some v0 ∧ w.cell? ⟨(ad.add (i * 3)).block, (ad.add (i * 3)).off + 1, none⟩ = some v1 ∧ w.cell? ⟨(ad.add (i * 3)).block, (ad.add (i * 3)).off + 2, none⟩ = some (.bool x.fl) ∧ Rd (fun b => b < w.heap.size) w v0 x.b ∧ Rd (fun b => b < w.heap.size) w v1 x.keep
theorem cells41 : Try.prog.cellsOf 41 = 3 := by kernel_rfl
theorem struct41 : ∃ f0 f1 f2, Try.prog.underlying 41 = some (.struct #[f0, f1, f2]) ∧ oneCellFields Try.prog #[f0, f1, f2] = true ∧ f0.type = 23 ∧ f1.type = 23 ∧ f2.type = 4 :=
  ⟨_, _, _, Try.underlying41, by kernel_rfl, rfl, rfl, rfl⟩
theorem open_turns {H : Type} {enc : TypeId × Value → H} {w : World} {r : Reach} {b0 : Nat} {v : Value} {d : DataW H} {p : List MemPlace} (hval : Value.okWide Try.prog w r b0 39 v) (h : DataW.Trod enc Try.prog w 0 (fun _ => true) true 39 v d p) :
    ∃ A c L, v = .slice A (List.length L) c ∧ TU w A c L := by
  obtain ⟨f0, f1, f2, hs, hone, t0, t1, t2⟩ := struct41
  obtain ⟨fuel, hf⟩ := h
  obtain ⟨A0, n0, k0, rfl⟩ := okWide_slice Try.underlying39 hval
  rcases Go.Deep.open_slice Try.underlying39 hf with ⟨hcs, hx⟩ | ⟨a, len, cap, m, n, D, Pl, hcs, _, hlc, hm, hmm, hx, hi⟩
  · simp [Value.cells] at hcs
    obtain ⟨rfl, rfl, rfl⟩ := hcs
    exact ⟨none, 0, [], rfl, Nat.le_refl _, Nat.zero_le _, fun _ => rfl, fun ad ha => by cases ha⟩
  · simp [Value.cells] at hcs
    obtain ⟨rfl, rfl, rfl⟩ := hcs
    simp only [if_true] at hmm
    have each : ∀ i, i < n0 → ∃ q : Tu, ∃ v0 v1, w.cell? (a.add (i * 3)) = some v0 ∧ w.cell? ⟨(a.add (i * 3)).block, (a.add (i * 3)).off + 1, none⟩ = some v1 ∧ w.cell? ⟨(a.add (i * 3)).block, (a.add (i * 3)).off + 2, none⟩ = some (.bool q.fl) ∧ Rd (fun b => b < w.heap.size) w v0 q.b ∧ Rd (fun b => b < w.heap.size) w v1 q.keep := fun i hil => by
      obtain ⟨cs', hc, ht'⟩ := hi i (by omega)
      rw [cells41] at hc
      obtain ⟨_, hcl, hat⟩ := World.cells?_some hc
      obtain ⟨xs, n', _, _, _, hxl, hg⟩ := DataW.trod_struct hs ht'
      obtain ⟨o0, q0⟩ := hone_of hone 0 f0 rfl
      obtain ⟨o1, q1⟩ := hone_of hone 1 f1 rfl
      obtain ⟨o2, q2⟩ := hone_of hone 2 f2 rfl
      match cs', xs, hcl, hxl, hat, hg with
      | [c0, c1, c2], [y0, y1, y2], _, _, hat, hg =>
        have a0 := hat 0 (by omega)
        have g0 := hg 0 f0 rfl
        rw [o0, q0, t0] at g0
        have a1 := hat 1 (by omega)
        have g1 := hg 1 f1 rfl
        rw [o1, q1, t1] at g1
        have a2 := hat 2 (by omega)
        have g2 := hg 2 f2 rfl
        rw [o2, q2, t2] at g2
        obtain ⟨l0, h0⟩ := JOpens.open_cell (show DataW.trod enc Try.prog w 0 (fun _ => true) true n' 23 [c0] = some y0 from g0)
        obtain ⟨l1, h1⟩ := JOpens.open_cell (show DataW.trod enc Try.prog w 0 (fun _ => true) true n' 23 [c1] = some y1 from g1)
        obtain ⟨z2, e2, _⟩ := DataW.trod_bool Try.underlying4 (show DataW.trod enc Try.prog w 0 (fun _ => true) true n' 4 [c2] = some y2 from g2)
        cases e2
        exact ⟨⟨l0, l1, z2⟩, c0, c1, a0, a1, a2, h0, h1⟩
    obtain ⟨f, hfx⟩ := choose_lt each
    have hlen : ((List.range n0).map f).length = n0 := by simp
    refine ⟨some a, k0, (List.range n0).map f, by rw [hlen], by rw [hlen]; exact hlc, by unfold maxLen at hm; omega, (fun h => by cases h), fun ad ha i x hx' => ?_⟩
    cases ha
    have hil : i < n0 := by
      have := (List.getElem?_eq_some_iff.1 hx').1
      rwa [hlen] at this
    simp [hil] at hx'
    subst hx'
    exact hfx i hil
structure Sn where
  b : List UInt8
  fu : Int
  keep : List UInt8
deriving Inhabited
/-- A row of them, as it lies. -/
def SN (w : World) (A : Option Addr) (c : Nat) (L : List Sn) : Prop := L.length ≤ c ∧ c ≤ 9223372036854775807 ∧ (A = none → c = 0) ∧ ∀ ad, A = some ad → ∀ i x, L[i]? = some x → ∃ v0 v2, w.cell? (ad.add (i * 3)) = some v0 ∧ w.cell? ⟨(ad.add (i * 3)).block, (ad.add (i * 3)).off + 1, none⟩ = some (.int .i64 x.fu) ∧ w.cell? ⟨(ad.add (i * 3)).block, (ad.add (i * 3)).off + 2, none⟩ = some v2 ∧ Rd (fun b => b < w.heap.size) w v0 x.b ∧ -9223372036854775808 ≤ x.fu ∧ x.fu ≤ 9223372036854775807 ∧ Rd (fun b => b < w.heap.size) w v2 x.keep
theorem cells85 : Try.prog.cellsOf 85 = 3 := by kernel_rfl
theorem struct85 : ∃ f0 f1 f2, Try.prog.underlying 85 = some (.struct #[f0, f1, f2]) ∧ oneCellFields Try.prog #[f0, f1, f2] = true ∧ f0.type = 23 ∧ f1.type = 3 ∧ f2.type = 23 :=
  ⟨_, _, _, Try.underlying85, by kernel_rfl, rfl, rfl, rfl⟩
theorem open_snaps {H : Type} {enc : TypeId × Value → H} {w : World} {r : Reach} {b0 : Nat} {v : Value} {d : DataW H} {p : List MemPlace} (hval : Value.okWide Try.prog w r b0 83 v) (h : DataW.Trod enc Try.prog w 0 (fun _ => true) true 83 v d p) :
    ∃ A c L, v = .slice A (List.length L) c ∧ SN w A c L := by
  obtain ⟨f0, f1, f2, hs, hone, t0, t1, t2⟩ := struct85
  obtain ⟨fuel, hf⟩ := h
  obtain ⟨A0, n0, k0, rfl⟩ := okWide_slice Try.underlying83 hval
  rcases Go.Deep.open_slice Try.underlying83 hf with ⟨hcs, hx⟩ | ⟨a, len, cap, m, n, D, Pl, hcs, _, hlc, hm, hmm, hx, hi⟩
  · simp [Value.cells] at hcs
    obtain ⟨rfl, rfl, rfl⟩ := hcs
    exact ⟨none, 0, [], rfl, Nat.le_refl _, Nat.zero_le _, fun _ => rfl, fun ad ha => by cases ha⟩
  · simp [Value.cells] at hcs
    obtain ⟨rfl, rfl, rfl⟩ := hcs
    simp only [if_true] at hmm
    have each : ∀ i, i < n0 → ∃ q : Sn, ∃ v0 v2, w.cell? (a.add (i * 3)) = some v0 ∧ w.cell? ⟨(a.add (i * 3)).block, (a.add (i * 3)).off + 1, none⟩ = some (.int .i64 q.fu) ∧ w.cell? ⟨(a.add (i * 3)).block, (a.add (i * 3)).off + 2, none⟩ = some v2 ∧ Rd (fun b => b < w.heap.size) w v0 q.b ∧ -9223372036854775808 ≤ q.fu ∧ q.fu ≤ 9223372036854775807 ∧ Rd (fun b => b < w.heap.size) w v2 q.keep := fun i hil => by
      obtain ⟨cs', hc, ht'⟩ := hi i (by omega)
      rw [cells85] at hc
      obtain ⟨_, hcl, hat⟩ := World.cells?_some hc
      obtain ⟨xs, n', _, _, _, hxl, hg⟩ := DataW.trod_struct hs ht'
      obtain ⟨o0, q0⟩ := hone_of hone 0 f0 rfl
      obtain ⟨o1, q1⟩ := hone_of hone 1 f1 rfl
      obtain ⟨o2, q2⟩ := hone_of hone 2 f2 rfl
      match cs', xs, hcl, hxl, hat, hg with
      | [c0, c1, c2], [y0, y1, y2], _, _, hat, hg =>
        have a0 := hat 0 (by omega)
        have g0 := hg 0 f0 rfl
        rw [o0, q0, t0] at g0
        have a1 := hat 1 (by omega)
        have g1 := hg 1 f1 rfl
        rw [o1, q1, t1] at g1
        have a2 := hat 2 (by omega)
        have g2 := hg 2 f2 rfl
        rw [o2, q2, t2] at g2
        obtain ⟨l0, h0⟩ := JOpens.open_cell (show DataW.trod enc Try.prog w 0 (fun _ => true) true n' 23 [c0] = some y0 from g0)
        obtain ⟨z1, e1, _, wf1⟩ := DataW.trod_int Try.underlying3 (show DataW.trod enc Try.prog w 0 (fun _ => true) true n' 3 [c1] = some y1 from g1)
        cases e1
        have b1 : -9223372036854775808 ≤ z1 ∧ z1 ≤ 9223372036854775807 := by simpa [Lit.wf, IntKind.min, IntKind.max, IntKind.signed, IntKind.bits] using wf1
        obtain ⟨l2, h2⟩ := JOpens.open_cell (show DataW.trod enc Try.prog w 0 (fun _ => true) true n' 23 [c2] = some y2 from g2)
        exact ⟨⟨l0, z1, l2⟩, c0, c2, a0, a1, a2, h0, b1.1, b1.2, h2⟩
    obtain ⟨f, hfx⟩ := choose_lt each
    have hlen : ((List.range n0).map f).length = n0 := by simp
    refine ⟨some a, k0, (List.range n0).map f, by rw [hlen], by rw [hlen]; exact hlc, by unfold maxLen at hm; omega, (fun h => by cases h), fun ad ha i x hx' => ?_⟩
    cases ha
    have hil : i < n0 := by
      have := (List.getElem?_eq_some_iff.1 hx').1
      rwa [hlen] at this
    simp [hil] at hx'
    subst hx'
    exact hfx i hil
end Go.Proofs.Ytbnicphegbdfnaa.AOpens
namespace Go.Proofs.Ytbnicphegbdfnaa.SC
set_option maxRecDepth 100000
open Go Go.RowKit Go.Proofs.Ytbnicphegbdfnaa Go.Proofs.Ytbnicphegbdfnaa.Facts Go.Proofs.Ytbnicphegbdfnaa.Bytes Go.Proofs.Ytbnicphegbdfnaa.DKeep Go.Proofs.Ytbnicphegbdfnaa.DSmall Go.Proofs.Ytbnicphegbdfnaa.Puts Go.Proofs.Ytbnicphegbdfnaa.SPure Go.Proofs.Ytbnicphegbdfnaa.JA Go.Proofs.Ytbnicphegbdfnaa.JD Go.Proofs.Ytbnicphegbdfnaa.JH Go.Proofs.Ytbnicphegbdfnaa.JQ Go.Proofs.Ytbnicphegbdfnaa.AP Go.Proofs.Ytbnicphegbdfnaa.AQ Go.Proofs.Ytbnicphegbdfnaa.AA Go.Proofs.Ytbnicphegbdfnaa.AW Go.Proofs.Ytbnicphegbdfnaa.AV Go.Proofs.Ytbnicphegbdfnaa.AC Go.Proofs.Ytbnicphegbdfnaa.DS Go.Proofs.Ytbnicphegbdfnaa.AU Go.Proofs.Ytbnicphegbdfnaa.SP Go.Proofs.Ytbnicphegbdfnaa.SN Go.Proofs.Ytbnicphegbdfnaa.SB Go.Proofs.Ytbnicphegbdfnaa.AOpens

/-- The newest number, wrapped. -/
structure Nwst (L : List Sec) (f m n : Nat) : Prop where
  is : anw L f m = n
/-- What stands on six sectors behind a first snapshot. -/
def LB6 (b : List UInt8) : List Sec := sets (DNew.blank 6) (ws 0 (fun _ => 1) 3 0 (recB b))
theorem zsix : zw (0 + 3) 3 (calm (DNew.blank 6)) = ((zw (0 + 3) 3 (calm (DNew.blank 6))).1, 0) := by kernel_rfl
theorem fsix : DFlush.flushed (zw (0 + 3) 3 (calm (DNew.blank 6))).1 = (calm (DNew.blank 6), 0) := by kernel_rfl
theorem asix : ard (DNew.blank 6) (0 + 3) 3 = (0, [], 2) := by kernel_rfl
theorem begin6 (b : List UInt8) (hb : b.length ≤ 300) : beginP (calm (DNew.blank 6)) 0 3 b = (calm (LB6 b), 0) ∧ SK (LB6 b) 0 3 1 0 1 b :=
  begin_blank 6 0 3 b (by omega) (by omega) zsix fsix asix (by omega) (by omega)
theorem lb6_length (b : List UInt8) : (LB6 b).length = 6 := by unfold LB6; rw [sets_length, DNew.blank_length]
theorem six_refus (L : List Sec) (fu : Int) (h : L.length = 6) : srefus (calmF L fu) ((0 : Nat) : Int) ((3 : Nat) : Int) = 0 := by
  unfold srefus calmF
  simp only [h]
  rfl
theorem six_arefus (L : List Sec) (fu : Int) (h : L.length = 6) : arefus (calmF L fu) ((0 : Nat) : Int) ((3 : Nat) : Int) = 0 := by
  unfold arefus calmF
  simp only [h]
  rfl
theorem fused_calm (L : List Sec) (n : Int) (fu : Int) (h : max n (-1) = fu) : DTurn.fused (calm L) n = calmF L fu := by
  unfold DTurn.fused
  rw [h]
  rfl
theorem crash_calm (L : List Sec) (fu : Int) (keep : List UInt8) : DFlush.crashed (calmF L fu) keep = calm L := crashed_none L _ _ keep
theorem steps_longA (w : World) (A B : Option Addr) (cA cB : Nat) (a b : List UInt8) (fuse : Nat) (h : 300 < a.length) :
    Calls Try.prog 9 #[.slice A a.length cA, .slice B b.length cB, .int .u8 (fuse : Int)] w fun e w' => e = .returned (.bool true) ∧ Grew w w' := by
  have h' : (300 : Int) < (a.length : Int) := by omega
  clear h
  go_enter Try.func9, Try.ntmps9
  go_wp2_with fail
  refine (ds_new w 6 6 rfl (by omega) (by omega)).mono ?_
  rintro e w1 ⟨g, rfl, hd⟩
  have HD : Hid (DS w g (calm (DNew.blank 6)) [] w1) := Lib.hid hd
  clear hd
  go_wp2_with fail
  refine (SB.alive_any _).mono ?_
  rintro e w2 ⟨rfl, hg⟩
  have HG2 := Lib.hid (HD.out.gr.trans hg)
  clear hg HD
  go_wp2
  go_ret
  exact ⟨rfl, HG2.out⟩
theorem steps_longB (w : World) (A B : Option Addr) (cA cB : Nat) (a b : List UInt8) (fuse : Nat) (h0 : a.length ≤ 300) (h : 300 < b.length) :
    Calls Try.prog 9 #[.slice A a.length cA, .slice B b.length cB, .int .u8 (fuse : Int)] w fun e w' => e = .returned (.bool true) ∧ Grew w w' := by
  have h' : (300 : Int) < (b.length : Int) := by omega
  have h0' : ¬ (300 : Int) < (a.length : Int) := by omega
  clear h h0
  go_enter Try.func9, Try.ntmps9
  go_wp2_with fail
  refine (ds_new w 6 6 rfl (by omega) (by omega)).mono ?_
  rintro e w1 ⟨g, rfl, hd⟩
  have HD : Hid (DS w g (calm (DNew.blank 6)) [] w1) := Lib.hid hd
  clear hd
  go_wp2_with fail
  refine (SB.alive_any _).mono ?_
  rintro e w2 ⟨rfl, hg⟩
  have HG2 := Lib.hid (HD.out.gr.trans hg)
  clear hg HD
  go_wp2
  go_ret
  exact ⟨rfl, HG2.out⟩
set_option maxHeartbeats 4000000 in
theorem steps_ok (w : World) (A B : Option Addr) (cA cB : Nat) (a b : List UInt8) (fuse : Nat) (h4 : 4 ≤ fuse) (hf : fuse ≤ 255) (hla : a.length ≤ 300) (hlb : b.length ≤ 300) (hra : Rd (fun b => b < w.heap.size) w (.slice A a.length cA) a) (hrb : Rd (fun b => b < w.heap.size) w (.slice B b.length cB) b) :
    Calls Try.prog 9 #[.slice A a.length cA, .slice B b.length cB, .int .u8 (fuse : Int)] w fun e w' => e = .returned (.bool true) ∧ Grew w w' := by
  have ha' : ¬ (300 : Int) < (a.length : Int) := by omega
  have hb' : ¬ (300 : Int) < (b.length : Int) := by omega
  have HLA := Lib.hid hla
  have HLB := Lib.hid hlb
  have HRA := Lib.hid hra
  have HRB := Lib.hid hrb
  have hwf : IntKind.i64.wrap (fuse : Int) = (fuse : Int) := IntWalk.i64_in _ (by omega)
  have hk := (begin6 a hla).2
  have hn1 : anw (LB6 a) 0 (2 * 3) = 1 := by
    have h1 := hk.newest.stamp_le
    have h2 := hk.newest_le
    omega
  obtain ⟨n1, hnn1⟩ : ∃ n1 : Nat, n1 = 1 := ⟨_, rfl⟩
  have hk1 : SK (LB6 a) 0 3 n1 0 1 a := by rw [hnn1]; exact hk
  have HK := Lib.hid hk1
  have HN1 : Hid (Nwst (LB6 a) 0 (2 * 3) n1) := Lib.hid ⟨by rw [hnn1]; exact hn1⟩
  have HMY : Hid (may (n1 + 1) = true) := Lib.hid (by rw [hnn1]; decide)
  have HFU : Hid ((fuse : Int) ≤ 9223372036854775807) := Lib.hid (by omega)
  have HMX : Hid (max (fuse : Int) (-1) = (fuse : Int)) := Lib.hid (by omega)
  have hnx := next_any (LB6 a) 0 3 n1 0 1 a b (fuse : Int) hk1 HMY.out (by omega) (by omega) (by omega)
  have hnx2 : ∃ L', nextP (LB6 a) 0 3 0 n1 b (fuse : Int) = (calmF L' ((fuse : Int) - 4), 0) ∧ SK L' 0 3 2 1 2 b ∧ L'.length = 6 := by
    rcases hnx with ⟨_, L', h1, h2, _, h3⟩ | ⟨_, h, _⟩
    · have e : (if (fuse : Int) = -1 then (-1 : Int) else (fuse : Int) - ((3 : Nat) : Int) - 1) = (fuse : Int) - 4 := by
        rw [if_neg (show ¬ (fuse : Int) = -1 by omega)]
        omega
      rw [e] at h1
      exact ⟨L', h1, (by have h2' := h2; rw [hnn1] at h2'; exact h2'), by rw [h3, lb6_length]⟩
    · omega
  obtain ⟨L', hx1, hx2, hx3⟩ := hnx2
  have HX1 := Lib.hid hx1
  have HX2 := Lib.hid hx2
  have HX3 := Lib.hid hx3
  have k1 : (4 : Int) ≤ (fuse : Int) := by omega
  have k2 : decide ((4 : Int) ≤ (fuse : Int)) = true := decide_eq_true k1
  have k3 : decide ((fuse : Int) < 4) = false := decide_eq_false (by omega)
  have k4 : ¬ (fuse : Int) < 4 := by omega
  clear hnx hx1 hx2 hx3 hk hk1 hn1 hnn1 h4 hf hla hlb hra hrb
  go_enter Try.func9, Try.ntmps9
  go_wp2_with fail
  refine (ds_new w 6 6 rfl (by omega) (by omega)).mono ?_
  rintro e w1 ⟨g, rfl, hd⟩
  have HD : Hid (DS w g (calm (DNew.blank 6)) [] w1) := Lib.hid hd
  clear hd
  go_wp2_with fail
  refine (ds_begin ((HD.out.arg HRB.out).arg HRA.out) 0 3 0 3 rfl rfl (six_refus _ (-1) (DNew.blank_length 6)) (.slice A a.length cA) a (List.mem_cons_self ..) (by have := HLA.out; omega) (Nat.zero_le _) (fun _ _ => by rw [fsix]; exact ⟨six_arefus _ (-1) (DNew.blank_length 6), Nat.zero_le _⟩) (calm (LB6 a)) 0 (begin6 a HLA.out).1).mono ?_
  rintro e w2 ⟨rfl, hd⟩
  have HD2 := Lib.hid hd
  clear hd HD
  have HL6 := Lib.hid (lb6_length a)
  generalize LB6 a = S0 at *
  go_wp2_with fail
  refine (ds_fuse w w2 g _ _ HD2.out (fuse : Int) (calmF S0 (fuse : Int)) HFU.out (fused_calm _ _ _ HMX.out)).mono ?_
  rintro e w3 ⟨rfl, hd⟩
  have HD3 := Lib.hid hd
  clear hd HD2 hwf
  go_wp2_with fail
  refine (ds_next HD3.out 0 3 n1 0 1 0 3 rfl rfl a HK.out HN1.out.is (by rw [HL6.out]; omega) HMY.out (.slice B b.length cB) b (by simp) (by have := HLB.out; omega) (calmF L' ((fuse : Int) - 4)) 0 HX1.out).mono ?_
  rintro e w4 ⟨rfl, hd⟩
  have HD4 := Lib.hid hd
  clear hd HD3
  go_wp2_with fail
  refine (ds_off w w4 g _ _ HD4.out false rfl).mono ?_
  rintro e w' ⟨rfl, rfl⟩
  go_wp2_with fail
  refine (ds_crash w w4 g _ _ HD4.out (fun _ => False) (.slice none 0 0) [] (calm L') (Nat.zero_le _) (Rd.nil _ _) (fun b hb => hb.elim) (crash_calm _ _ _)).mono ?_
  rintro e w5 ⟨rfl, hd⟩
  have HD5 := Lib.hid hd
  clear hd HD4
  go_wp2_with fail
  refine (ds_last_some HD5.out 0 3 0 3 rfl rfl (six_refus _ (-1) HX3.out) 1 2 b HX2.out.pick).mono ?_
  rintro e w6 ⟨v6, rfl, hd⟩
  obtain ⟨A6, c6, rfl, _⟩ := id (hd.rd (List.mem_cons_self ..))
  have HD6 := Lib.hid hd
  clear hd HD5
  go_wp2_with fail
  refine (SB.alive_any _).mono ?_
  rintro e w7 ⟨rfl, hg⟩
  have HD7 := Lib.hid (HD6.out.grew hg)
  clear hg HD6
  have ka := Nums.conv22 (HD7.out.rd (v := .slice A6 b.length c6) (l := b) (by simp))
  have kb := Nums.conv22 (HD7.out.rd (v := .slice B b.length cB) (l := b) (by simp))
  have kc : (b == b) = true := by simp
  go_wp2
  go_ret
  exact ⟨rfl, HD7.out.gr⟩
set_option maxHeartbeats 4000000 in
theorem steps_no (w : World) (A B : Option Addr) (cA cB : Nat) (a b : List UInt8) (fuse : Nat) (h4 : fuse < 4) (hf : fuse ≤ 255) (hla : a.length ≤ 300) (hlb : b.length ≤ 300) (hra : Rd (fun b => b < w.heap.size) w (.slice A a.length cA) a) (hrb : Rd (fun b => b < w.heap.size) w (.slice B b.length cB) b) :
    Calls Try.prog 9 #[.slice A a.length cA, .slice B b.length cB, .int .u8 (fuse : Int)] w fun e w' => e = .returned (.bool true) ∧ Grew w w' := by
  have ha' : ¬ (300 : Int) < (a.length : Int) := by omega
  have hb' : ¬ (300 : Int) < (b.length : Int) := by omega
  have HLA := Lib.hid hla
  have HLB := Lib.hid hlb
  have HRA := Lib.hid hra
  have HRB := Lib.hid hrb
  have hwf : IntKind.i64.wrap (fuse : Int) = (fuse : Int) := IntWalk.i64_in _ (by omega)
  have hk := (begin6 a hla).2
  have hn1 : anw (LB6 a) 0 (2 * 3) = 1 := by
    have h1 := hk.newest.stamp_le
    have h2 := hk.newest_le
    omega
  obtain ⟨n1, hnn1⟩ : ∃ n1 : Nat, n1 = 1 := ⟨_, rfl⟩
  have hk1 : SK (LB6 a) 0 3 n1 0 1 a := by rw [hnn1]; exact hk
  have HK := Lib.hid hk1
  have HN1 : Hid (Nwst (LB6 a) 0 (2 * 3) n1) := Lib.hid ⟨by rw [hnn1]; exact hn1⟩
  have HMY : Hid (may (n1 + 1) = true) := Lib.hid (by rw [hnn1]; decide)
  have HFU : Hid ((fuse : Int) ≤ 9223372036854775807) := Lib.hid (by omega)
  have HMX : Hid (max (fuse : Int) (-1) = (fuse : Int)) := Lib.hid (by omega)
  have hnx := next_any (LB6 a) 0 3 n1 0 1 a b (fuse : Int) hk1 HMY.out (by omega) (by omega) (by omega)
  have hnx2 : ∃ d', nextP (LB6 a) 0 3 0 n1 b (fuse : Int) = (d', 15) ∧ d'.off = true ∧ d'.waits.length ≤ 3 ∧ DFlush.crashed d' [] = calm (LB6 a) := by
    rcases hnx with ⟨h, _⟩ | ⟨_, _, d', h1, h2, h3, _, h4, _⟩
    · omega
    · exact ⟨d', h1, h2, h3, h4⟩
  obtain ⟨d', hx1, hx2, hx3, hx4⟩ := hnx2
  have HX1 := Lib.hid hx1
  have HX2 := Lib.hid hx2
  have HX3 := Lib.hid hx3
  have HX4 := Lib.hid hx4
  have k1 : ¬ (4 : Int) ≤ (fuse : Int) := by omega
  have k2 : decide ((4 : Int) ≤ (fuse : Int)) = false := decide_eq_false k1
  have k4 : (fuse : Int) < 4 := by omega
  have k3 : decide ((fuse : Int) < 4) = true := decide_eq_true k4
  clear hnx hx1 hx2 hx3 hx4 hk hk1 hn1 hnn1 h4 hf hla hlb hra hrb
  go_enter Try.func9, Try.ntmps9
  go_wp2_with fail
  refine (ds_new w 6 6 rfl (by omega) (by omega)).mono ?_
  rintro e w1 ⟨g, rfl, hd⟩
  have HD : Hid (DS w g (calm (DNew.blank 6)) [] w1) := Lib.hid hd
  clear hd
  go_wp2_with fail
  refine (ds_begin ((HD.out.arg HRB.out).arg HRA.out) 0 3 0 3 rfl rfl (six_refus _ (-1) (DNew.blank_length 6)) (.slice A a.length cA) a (List.mem_cons_self ..) (by have := HLA.out; omega) (Nat.zero_le _) (fun _ _ => by rw [fsix]; exact ⟨six_arefus _ (-1) (DNew.blank_length 6), Nat.zero_le _⟩) (calm (LB6 a)) 0 (begin6 a HLA.out).1).mono ?_
  rintro e w2 ⟨rfl, hd⟩
  have HD2 := Lib.hid hd
  clear hd HD
  have HL6 := Lib.hid (lb6_length a)
  generalize LB6 a = S0 at *
  go_wp2_with fail
  refine (ds_fuse w w2 g _ _ HD2.out (fuse : Int) (calmF S0 (fuse : Int)) HFU.out (fused_calm _ _ _ HMX.out)).mono ?_
  rintro e w3 ⟨rfl, hd⟩
  have HD3 := Lib.hid hd
  clear hd HD2 hwf
  go_wp2_with fail
  refine (ds_next HD3.out 0 3 n1 0 1 0 3 rfl rfl a HK.out HN1.out.is (by rw [HL6.out]; omega) HMY.out (.slice B b.length cB) b (by simp) (by have := HLB.out; omega) d' 15 HX1.out).mono ?_
  rintro e w4 ⟨rfl, hd⟩
  have HD4 := Lib.hid hd
  clear hd HD3
  go_wp2_with fail
  refine (ds_off w w4 g _ _ HD4.out true HX2.out).mono ?_
  rintro e w' ⟨rfl, rfl⟩
  go_wp2_with fail
  refine (ds_crash w w4 g _ _ HD4.out (fun _ => False) (.slice none 0 0) [] (calm S0) (by have := HX3.out; omega) (Rd.nil _ _) (fun b hb => hb.elim) HX4.out).mono ?_
  rintro e w5 ⟨rfl, hd⟩
  have HD5 := Lib.hid hd
  clear hd HD4
  go_wp2_with fail
  refine (ds_last_some HD5.out 0 3 0 3 rfl rfl (six_refus _ (-1) HL6.out) 0 1 a HK.out.pick).mono ?_
  rintro e w6 ⟨v6, rfl, hd⟩
  obtain ⟨A6, c6, rfl, _⟩ := id (hd.rd (List.mem_cons_self ..))
  have HD6 := Lib.hid hd
  clear hd HD5
  go_wp2_with fail
  refine (SB.alive_any _).mono ?_
  rintro e w7 ⟨rfl, hg⟩
  have HD7 := Lib.hid (HD6.out.grew hg)
  clear hg HD6
  have ka := Nums.conv22 (HD7.out.rd (v := .slice A6 a.length c6) (l := a) (by simp))
  have kb := Nums.conv22 (HD7.out.rd (v := .slice A a.length cA) (l := a) (by simp))
  have kc : (a == a) = true := by simp
  go_wp2
  go_ret
  exact ⟨rfl, HD7.out.gr⟩
theorem steps_any (w : World) (A B : Option Addr) (cA cB : Nat) (a b : List UInt8) (fuse : Nat) (hf : fuse ≤ 255) (hra : Rd (fun b => b < w.heap.size) w (.slice A a.length cA) a) (hrb : Rd (fun b => b < w.heap.size) w (.slice B b.length cB) b) :
    Calls Try.prog 9 #[.slice A a.length cA, .slice B b.length cB, .int .u8 (fuse : Int)] w fun e w' => e = .returned (.bool true) ∧ Grew w w' := by
  by_cases h1 : 300 < a.length
  · exact steps_longA w A B cA cB a b fuse h1
  · by_cases h2 : 300 < b.length
    · exact steps_longB w A B cA cB a b fuse (by omega) h2
    · by_cases h4 : 4 ≤ fuse
      · exact steps_ok w A B cA cB a b fuse h4 hf (by omega) (by omega) hra hrb
      · exact steps_no w A B cA cB a b fuse (by omega) hf (by omega) (by omega) hra hrb
end Go.Proofs.Ytbnicphegbdfnaa.SC
