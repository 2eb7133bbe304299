/-
  The document's Last and Next: the snapshot that counts, and the next one.
  Conditions: those that each lemma names.
-/
import Derived.Test.YtbnicphegbdfnaaQW
namespace Go.Proofs.Ytbnicphegbdfnaa.QL
set_option maxRecDepth 100000
open Go Go.RowKit Go.Proofs.Ytbnicphegbdfnaa Go.Proofs.Ytbnicphegbdfnaa.Facts Go.Proofs.Ytbnicphegbdfnaa.Bytes Go.Proofs.Ytbnicphegbdfnaa.DKeep Go.Proofs.Ytbnicphegbdfnaa.DSmall Go.Proofs.Ytbnicphegbdfnaa.SPure Go.Proofs.Ytbnicphegbdfnaa.DRefA Go.Proofs.Ytbnicphegbdfnaa.DRefB Go.Proofs.Ytbnicphegbdfnaa.DRefC Go.Proofs.Ytbnicphegbdfnaa.DSim Go.Proofs.Ytbnicphegbdfnaa.DRefD Go.Proofs.Ytbnicphegbdfnaa.DLawA Go.Proofs.Ytbnicphegbdfnaa.AP Go.Proofs.Ytbnicphegbdfnaa.AQ Go.Proofs.Ytbnicphegbdfnaa.AV Go.Proofs.Ytbnicphegbdfnaa.RA Go.Proofs.Ytbnicphegbdfnaa.RG Go.Proofs.Ytbnicphegbdfnaa.RH Go.Proofs.Ytbnicphegbdfnaa.QA Go.Proofs.Ytbnicphegbdfnaa.QN Go.Proofs.Ytbnicphegbdfnaa.QR Go.Proofs.Ytbnicphegbdfnaa.QW Go.Proofs.Ytbnicphegbdfnaa.SP

theorem rd_now {y : World} {r : Rp} {A1 A2 A3 : Option Addr} {c1 c2 c3 : Nat} (h : RD y (dv A1 A2 A3 r.now.length r.safe.length r.waits.length c1 c2 c3 r.fuse r.off) r) : SR y (.slice A1 r.now.length c1) r.now := by
  obtain ⟨⟨B1, B2, B3, e1, e2, e3, he, h1, _⟩, _⟩ := h
  have hA : A1 = B1 ∧ c1 = e1 := by
    unfold dv at he
    simp only [Value.agg.injEq, Array.mk.injEq, List.cons.injEq, Value.slice.injEq] at he
    exact ⟨he.1.1, he.1.2.2⟩
  obtain ⟨rfl, rfl⟩ := hA
  exact h1
/-- What Last answers. -/
def LST (w : World) (p : Option (Nat × Nat × List UInt8)) (e : Ending) (y : World) : Prop := match p with
  | none => e = .returned (.tuple #[.int .i64 0, .int .u64 0, .slice none 0 0, .int .i64 2]) ∧ Grew w y
  | some x => ∃ v, e = .returned (.tuple #[.int .i64 (x.1 : Int), .int .u64 (x.2.1 : Int), v, .int .i64 0]) ∧ Rd (fun b => w.heap.size ≤ b) y v x.2.2 ∧ Grew w y
theorem LST.no {w y : World} {e : Ending} (h1 : e = .returned (.tuple #[.int .i64 0, .int .u64 0, .slice none 0 0, .int .i64 2])) (h2 : Grew w y) : LST w none e y := ⟨h1, h2⟩
theorem LST.yes {w y : World} {e : Ending} {c s : Nat} {b : List UInt8} {v : Value} (h1 : e = .returned (.tuple #[.int .i64 (c : Int), .int .u64 (s : Int), v, .int .i64 0])) (h2 : Rd (fun b => w.heap.size ≤ b) y v b) (h3 : Grew w y) : LST w (some (c, s, b)) e y := ⟨v, h1, h2, h3⟩
theorem box_start {w : World} {r : Rp} {A1 A2 A3 : Option Addr} {c1 c2 c3 : Nat} (h : RD w (dv A1 A2 A3 r.now.length r.safe.length r.waits.length c1 c2 c3 r.fuse r.off) r) : BX (w.alloc (.cells (d5 A1 A2 A3 r.now.length r.safe.length r.waits.length c1 c2 c3 r.fuse r.off).toArray 49)) w.heap.size r :=
  ⟨A1, A2, A3, c1, c2, c3, h.grew (grew_new _), heap_alloc_new w _⟩
theorem last_bad (r : Rp) (v : Value) (w : World) (hrd : RD w v r) (first many : Int) (q : Int) (hn : r.now.length ≤ 16384) (hq : sref r.now.length r.off first many = q) (h0 : ¬ q = 0) :
    Calls Try.prog 43 #[v, .int .i64 first, .int .i64 many] w fun e y => e = .returned (.tuple #[.int .i64 0, .int .u64 0, .slice none 0 0, .int .i64 q]) ∧ Grew w y := by
  obtain ⟨⟨A1, A2, A3, c1, c2, c3, rfl, _⟩, _⟩ := id hrd
  have HBX := Lib.hid (box_start hrd)
  have HAB : Hid (∀ A1 A2 A3 c1 c2 c3 W, Calls Try.prog 78 #[dv A1 A2 A3 r.now.length r.safe.length r.waits.length c1 c2 c3 r.fuse r.off, .int .i64 first, .int .i64 many] W fun e w' => e = .returned (.int .i64 q) ∧ Grew W w') := Lib.hid fun A1 A2 A3 c1 c2 c3 W => by
    have h := sable_any A1 A2 A3 r.now.length r.safe.length r.waits.length c1 c2 c3 r.fuse r.off first many W hn
    rwa [hq] at h
  have hq0 : (q != 0) = true := by simpa using h0
  have HG0 : Hid (Grew w (w.alloc (.cells (d5 A1 A2 A3 r.now.length r.safe.length r.waits.length c1 c2 c3 r.fuse r.off).toArray 49))) := Lib.hid (grew_new _)
  clear hrd hn hq
  unfold d5 at HBX HG0
  unfold dv
  go_enter Try.func43, Try.ntmps43
  go_upto_region 1 with fail
  have HBX0 : Hid (BX (w.alloc (.cells #[.slice A1 r.now.length c1, .slice A2 r.safe.length c2, .slice A3 r.waits.length c3, .int .i64 r.fuse, .bool r.off] 49)) w.heap.size r) := HBX
  have HG00 : Hid (Grew w (w.alloc (.cells #[.slice A1 r.now.length c1, .slice A2 r.safe.length c2, .slice A3 r.waits.length c3, .int .i64 r.fuse, .bool r.off] 49))) := HG0
  clear HBX HG0
  generalize w.alloc (.cells #[.slice A1 r.now.length c1, .slice A2 r.safe.length c2, .slice A3 r.waits.length c3, .int .i64 r.fuse, .bool r.off] 49) = W0 at *
  rename Hid (BX W0 _ r) => HBX
  rename Hid (Grew w W0) => HG0
  generalize w.heap.size = BP at *
  obtain ⟨B1, B2, B3, d1, d2, d3, hrd0, hld0, _⟩ := HBX.out.load
  have HL1 := Lib.hid hld0
  clear hrd0 hld0
  go_wp2_with (refine DArm.wpList_load (by rfl) 49 (.tmp 3) (by with_reducible rfl) _ _ (by rfl) HL1.out ?_)
  refine (HAB.out B1 B2 B3 d1 d2 d3 W0).mono ?_
  rintro e W1 ⟨rfl, hg1⟩
  have HG1 := Lib.hid (HG0.out.trans hg1)
  clear hg1 HL1
  go_wp2
  go_returns
  exact ⟨rfl, HG1.out⟩
theorem sref_fit {n first m : Nat} {off : Bool} (h : sref n off (first : Int) (m : Int) = 0) : first + 2 * m ≤ n ∧ 1 ≤ m ∧ off = false := by
  unfold sref at h
  split at h
  · omega
  · split at h
    · omega
    · split at h
      · omega
      · rename_i h1 h2 h3
        exact ⟨by omega, by omega, by simpa using h3⟩
theorem aref_of {n first m : Nat} {off : Bool} (h1 : first + m ≤ n) (h2 : 1 ≤ m) (h3 : off = false) : aref n off (first : Int) (m : Int) = 0 := by
  subst h3
  unfold aref
  rw [if_neg (by omega)]
  rfl
/-- What counts, of what two areas say. -/
theorem pick_is (R1 R2 : Nat × List UInt8 × Int) (h1 : R1.2.2 = 0 → 0 < R1.1) (h2 : R2.2.2 = 0 → 0 < R2.1) : pick2 (pick1 R1) R2 = if R2.2.2 = 0 ∧ (¬ R1.2.2 = 0 ∨ R1.1 < R2.1) then some (1, R2.1, R2.2.1) else if R1.2.2 = 0 then some (0, R1.1, R1.2.1) else none := by
  by_cases e1 : R1.2.2 = 0
  · have p1 : pick1 R1 = some (0, R1.1, R1.2.1) := if_pos ⟨e1, h1 e1⟩
    rw [p1]
    show (if R2.2.2 = 0 ∧ R1.1 < R2.1 then some (1, R2.1, R2.2.1) else some (0, R1.1, R1.2.1)) = _
    by_cases e2 : R2.2.2 = 0
    · by_cases e3 : R1.1 < R2.1
      · rw [if_pos ⟨e2, e3⟩, if_pos ⟨e2, .inr e3⟩]
      · rw [if_neg (fun h => e3 h.2), if_neg (fun h => h.2.elim (fun h => h e1) e3), if_pos e1]
    · rw [if_neg (fun h => e2 h.1), if_neg (fun h => e2 h.1), if_pos e1]
  · have p1 : pick1 R1 = none := if_neg fun h => e1 h.1
    rw [p1]
    show (if R2.2.2 = 0 ∧ 0 < R2.1 then some (1, R2.1, R2.2.1) else none) = _
    by_cases e2 : R2.2.2 = 0
    · rw [if_pos ⟨e2, h2 e2⟩, if_pos ⟨e2, .inl e1⟩]
    · rw [if_neg (fun h => e2 h.1), if_neg (fun h => e2 h.1), if_neg e1]
theorem ard_pos (L : List Sec) (f m : Nat) (hm : 1 ≤ m) (h : (ard L f m).2.2 = 0) : 0 < (ard L f m).1 := by
  rcases hr : ard L f m with ⟨s, b, e⟩
  rw [hr] at h
  simp only at h
  subst h
  have h2 := (ard_ok hm hr).1
  have h3 := (may_iff s).1 h2
  show 0 < s
  omega
set_option maxHeartbeats 8000000 in
theorem last_any (r : Rp) (v : Value) (w : World) (hrd : RD w v r) (f m : Nat) (hev : Even r.now) (hn : r.now.length ≤ 16384) (hq : sref r.now.length r.off (f : Int) (m : Int) = 0) :
    Calls Try.prog 43 #[v, .int .i64 (f : Int), .int .i64 (m : Int)] w fun e y => LST w (pick r.now f m) e y := by
  obtain ⟨⟨A1, A2, A3, c1, c2, c3, rfl, _⟩, _⟩ := id hrd
  obtain ⟨h1, h2, h3⟩ := sref_fit hq
  have HBX := Lib.hid (box_start hrd)
  have HAB : Hid (∀ A1 A2 A3 c1 c2 c3 W, Calls Try.prog 78 #[dv A1 A2 A3 r.now.length r.safe.length r.waits.length c1 c2 c3 r.fuse r.off, .int .i64 (f : Int), .int .i64 (m : Int)] W fun e w' => e = .returned (.int .i64 0) ∧ Grew W w') := Lib.hid fun A1 A2 A3 c1 c2 c3 W => by
    have h := sable_any A1 A2 A3 r.now.length r.safe.length r.waits.length c1 c2 c3 r.fuse r.off (f : Int) (m : Int) W hn
    rwa [hq] at h
  obtain ⟨fm, hfm⟩ : ∃ fm, f + m = fm := ⟨_, rfl⟩
  have HR1 : Hid (∀ A1 A2 A3 c1 c2 c3 W, RD W (dv A1 A2 A3 r.now.length r.safe.length r.waits.length c1 c2 c3 r.fuse r.off) r → Calls Try.prog 82 #[dv A1 A2 A3 r.now.length r.safe.length r.waits.length c1 c2 c3 r.fuse r.off, .int .i64 (f : Int), .int .i64 (m : Int)] W fun e w' => RDA W (ard r.now f m) e w') := Lib.hid fun A1 A2 A3 c1 c2 c3 W hr => read_any A1 A2 A3 r.now r.safe.length r.waits.length c1 c2 c3 r.fuse r.off f m W (rd_now hr) hev hn (aref_of (by omega) h2 h3)
  have HR2 : Hid (∀ A1 A2 A3 c1 c2 c3 W, RD W (dv A1 A2 A3 r.now.length r.safe.length r.waits.length c1 c2 c3 r.fuse r.off) r → Calls Try.prog 82 #[dv A1 A2 A3 r.now.length r.safe.length r.waits.length c1 c2 c3 r.fuse r.off, .int .i64 (fm : Int), .int .i64 (m : Int)] W fun e w' => RDA W (ard r.now fm m) e w') := Lib.hid fun A1 A2 A3 c1 c2 c3 W hr => read_any A1 A2 A3 r.now r.safe.length r.waits.length c1 c2 c3 r.fuse r.off fm m W (rd_now hr) hev hn (aref_of (by omega) h2 h3)
  have hpk := pick_is (ard r.now f m) (ard r.now fm m) (ard_pos _ _ _ h2) (ard_pos _ _ _ h2)
  have hpp : pick r.now f m = pick2 (pick1 (ard r.now f m)) (ard r.now fm m) := by unfold pick; rw [hfm]
  rw [hpp, hpk]
  have hfi : IntKind.i64.wrap ((f : Int) + (m : Int)) = (fm : Int) := by rw [IntWalk.i64_in _ (by omega)]; omega
  rcases hx : ard r.now f m with ⟨s1, b1, q1⟩
  rcases hy : ard r.now fm m with ⟨s2, b2, q2⟩
  rw [hx] at HR1
  rw [hy] at HR2
  have HG0 : Hid (Grew w (w.alloc (.cells (d5 A1 A2 A3 r.now.length r.safe.length r.waits.length c1 c2 c3 r.fuse r.off).toArray 49))) := Lib.hid (grew_new _)
  simp only
  obtain ⟨Y, hY⟩ : ∃ Y, (if q2 = 0 ∧ (¬ q1 = 0 ∨ s1 < s2) then some (1, s2, b2) else if q1 = 0 then some (0, s1, b1) else none) = Y := ⟨_, rfl⟩
  rw [hY]
  have HY := Lib.hid hY
  clear hrd hn hq hpk hpp hx hy hev hY h1 h3 hfm
  unfold d5 at HBX HG0
  unfold dv
  go_enter Try.func43, Try.ntmps43
  go_upto_region 1 with fail
  have HBX0 : Hid (BX (w.alloc (.cells #[.slice A1 r.now.length c1, .slice A2 r.safe.length c2, .slice A3 r.waits.length c3, .int .i64 r.fuse, .bool r.off] 49)) w.heap.size r) := HBX
  have HG00 : Hid (Grew w (w.alloc (.cells #[.slice A1 r.now.length c1, .slice A2 r.safe.length c2, .slice A3 r.waits.length c3, .int .i64 r.fuse, .bool r.off] 49))) := HG0
  clear HBX HG0
  generalize w.alloc (.cells #[.slice A1 r.now.length c1, .slice A2 r.safe.length c2, .slice A3 r.waits.length c3, .int .i64 r.fuse, .bool r.off] 49) = W0 at *
  rename Hid (BX W0 _ r) => HBX
  rename Hid (Grew w W0) => HG0
  obtain ⟨BP, hBP⟩ : ∃ BP, w.heap.size = BP := ⟨_, rfl⟩
  rw [hBP] at HBX ⊢
  have HBP := Lib.hid hBP
  clear hBP
  obtain ⟨B1, B2, B3, d1, d2, d3, hrd0, hld0, _⟩ := HBX.out.load
  have HL1 := Lib.hid hld0
  clear hrd0 hld0
  go_wp2_with (refine DArm.wpList_load (by rfl) 49 (.tmp 3) (by with_reducible rfl) _ _ (by rfl) HL1.out ?_)
  refine (HAB.out B1 B2 B3 d1 d2 d3 W0).mono ?_
  rintro e W1 ⟨rfl, hg1⟩
  have HG1 := Lib.hid (HG0.out.trans hg1)
  have HBX1 := Lib.hid (HBX.out.grew hg1)
  clear hg1 HL1 HAB HBX HG0
  obtain ⟨B1, B2, B3, d1, d2, d3, hrd0, hld0, _⟩ := HBX1.out.load
  have HL1 := Lib.hid hld0
  have HC1 := Lib.hid (HR1.out B1 B2 B3 d1 d2 d3 W1 hrd0)
  clear hrd0 hld0 HR1
  go_wp2_with (refine DArm.wpList_load (by rfl) 49 (.tmp 3) (by with_reducible rfl) _ _ (by rfl) HL1.out ?_)
  refine HC1.out.mono ?_
  rintro e W2 ⟨v1, rfl, hr1, hg2⟩
  have HG2 := Lib.hid (HG1.out.trans hg2)
  have HBX2 := Lib.hid (HBX1.out.grew hg2)
  have HV1 : Hid (Rd (fun b => w.heap.size ≤ b) W2 v1 b1) := Lib.hid (hr1.mono fun b hb => Nat.le_trans HG1.out.size hb)
  clear hr1 hg2 HL1 HC1 HBX1 HG1
  obtain ⟨B1, B2, B3, d1, d2, d3, hrd0, hld0, _⟩ := HBX2.out.load
  have HL1 := Lib.hid hld0
  have HC1 := Lib.hid (HR2.out B1 B2 B3 d1 d2 d3 W2 hrd0)
  clear hrd0 hld0 HR2
  simp only
  go_wp2_with (refine DArm.wpList_load (by rfl) 49 (.tmp 3) (by with_reducible rfl) _ _ (by rfl) HL1.out ?_)
  refine HC1.out.mono ?_
  rintro e W3 ⟨v2, rfl, hr2, hg3⟩
  have HG3 := Lib.hid (HG2.out.trans hg3)
  have HV1' := Lib.hid (HV1.out.grew hg3)
  have HV2 : Hid (Rd (fun b => w.heap.size ≤ b) W3 v2 b2) := Lib.hid (hr2.mono fun b hb => Nat.le_trans HG2.out.size hb)
  clear hr2 hg3 HL1 HC1 HBX2 HG2 HV1
  simp only
  by_cases e2 : q2 = 0
  · subst e2
    by_cases e1 : q1 = 0
    · subst e1
      by_cases e3 : s1 < s2
      · have e3' : (s1 : Int) < (s2 : Int) := by omega
        have HYY : Hid (Y = some (1, s2, b2)) := Lib.hid (by rw [← HY.out, if_pos ⟨rfl, .inr e3⟩])
        clear e3
        go_wp2
        go_returns
        rw [HYY.out]
        exact LST.yes rfl HV2.out HG3.out
      · have e3' : ¬ (s1 : Int) < (s2 : Int) := by omega
        have HYY : Hid (Y = some (0, s1, b1)) := Lib.hid (by rw [← HY.out, if_neg (fun h => h.2.elim (fun h => h rfl) e3), if_pos rfl])
        clear e3
        go_wp2
        go_returns
        rw [HYY.out]
        exact LST.yes rfl HV1'.out HG3.out
    · have b1' : (q1 != 0) = true := by simpa using e1
      have HYY : Hid (Y = some (1, s2, b2)) := Lib.hid (by rw [← HY.out, if_pos ⟨rfl, .inl e1⟩])
      clear e1
      go_wp2
      go_returns
      rw [HYY.out]
      exact LST.yes rfl HV2.out HG3.out
  · have b2' : (q2 == 0) = false := by simpa using e2
    by_cases e1 : q1 = 0
    · subst e1
      have HYY : Hid (Y = some (0, s1, b1)) := Lib.hid (by rw [← HY.out, if_neg (fun h => e2 h.1), if_pos rfl])
      clear e2
      go_wp2
      go_returns
      rw [HYY.out]
      exact LST.yes rfl HV1'.out HG3.out
    · have b1' : (q1 == 0) = false := by simpa using e1
      have HYY : Hid (Y = none) := Lib.hid (by rw [← HY.out, if_neg (fun h => e2 h.1), if_neg e1])
      clear e1 e2
      go_wp2
      go_returns
      rw [HYY.out]
      exact LST.no rfl HG3.out
end Go.Proofs.Ytbnicphegbdfnaa.QL
