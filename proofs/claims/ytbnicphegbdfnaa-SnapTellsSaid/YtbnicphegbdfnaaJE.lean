/-
  A record is appended.
  Conditions: those that each lemma names.
-/
import Derived.Test.YtbnicphegbdfnaaJD
namespace Go.Proofs.Ytbnicphegbdfnaa.JE
set_option maxRecDepth 100000
set_option maxRecDepth 100000
open Go Go.RowKit Go.Proofs.Ytbnicphegbdfnaa Go.Proofs.Ytbnicphegbdfnaa.Facts Go.Proofs.Ytbnicphegbdfnaa.Bytes Go.Proofs.Ytbnicphegbdfnaa.DKeep Go.Proofs.Ytbnicphegbdfnaa.DSmall Go.Proofs.Ytbnicphegbdfnaa.Puts Go.Proofs.Ytbnicphegbdfnaa.SPure Go.Proofs.Ytbnicphegbdfnaa.JA Go.Proofs.Ytbnicphegbdfnaa.JB Go.Proofs.Ytbnicphegbdfnaa.JD

def japp (j : Jr) (d : Pd) (b : List UInt8) : Jr × Pd × Int :=
  if 108 * j.each - 4 < b.length then (j, d, 13) else if j.used = j.places then (j, d, 8) else
  let r := jw j.first j.base j.each (j.used * j.each) (recB b) d
  if r.2 = 0 then (if (DFlush.flushed r.1).2 = 0 then ({ j with used := j.used + 1 }, (DFlush.flushed r.1).1, 0) else (j, (DFlush.flushed r.1).1, (DFlush.flushed r.1).2)) else (j, r.1, r.2)
theorem jw_waits (first base : Nat) : ∀ (m a : Nat) (l : List UInt8) (d : Pd), (jw first base m a l d).1.waits.length ≤ d.waits.length + m
  | 0, a, l, d => Nat.le_refl _
  | m + 1, a, l, d => by
    unfold jw
    have h1 := written_waits d ((first + a : Nat) : Int) (sealed (base + a) (l.take 108))
    simp only
    split
    · have := jw_waits first base m (a + 1) (l.drop 108) (DWrite.written d ((first + a : Nat) : Int) (sealed (base + a) (l.take 108))).1
      omega
    · omega
/-- What an append leaves. -/
def AP (w : World) (g gj : Nat) (D : Nat → Prop) (j' : Jr) (d' : Pd) (w' : World) : Prop := ∃ D', DK w' g D' d' ∧ (∀ k, D' k → D k ∨ w.heap.size ≤ k) ∧ JL w' gj g j' ∧ Kept (fun k => D k ∨ k = gj) w w'
set_option maxHeartbeats 2000000 in
theorem japp_any (w : World) (gj g : Nat) (j : Jr) (D : Nat → Prop) (d : Pd) (S : Nat → Prop) (v : Value) (b : List UInt8) (hj : JL w gj g j) (hk : JK j) (hb1 : 1 ≤ j.base) (hd : DK w g D d) (hgj : ¬ D gj) (hr : Rd S w v b) (hw : d.waits.length ≤ 1000000000) :
    Calls Try.prog 27 #[.pointer (some ⟨gj, 0, none⟩), v] w fun e w' => e = .returned (.int .i64 (japp j d b).2.2) ∧ AP w g gj D (japp j d b).1 (japp j d b).2.1 w' := by
  obtain ⟨A, c, rfl, q1, q2, q3, _⟩ := id hr
  unfold maxLen at q2
  have HM := Lib.hid (jmade_any w gj g j hj)
  have HLF := Lib.hid (jleft_any w gj g j hj hk)
  have HRM := Lib.hid (room_any (j.each : Int) w)
  have hroom : room (j.each : Int) = (j.each : Int) * 108 - 4 := by unfold room; rw [if_neg (by have := hk.e1; omega), if_neg (by have := hk.e2; omega)]
  rw [hroom] at HRM
  have HSTAY : Hid (AP w g gj D j d w) := Lib.hid ⟨D, hd, fun k h => .inl h, hj, Kept.refl _ _⟩
  obtain ⟨c0, c1, c2, c3, c4, c5⟩ := hj.cells
  unfold japp
  by_cases h1 : 108 * j.each - 4 < b.length
  · rw [if_pos h1]
    have h1' : (j.each : Int) * 108 - 4 < (b.length : Int) := by have := hk.e1; omega
    clear hj hk hd hr h1 q3 hroom
    go_enter Try.func27, Try.ntmps27
    go_wp2_with fail
    refine HM.out.mono ?_
    rintro e w' ⟨rfl, rfl⟩
    go_wp2_with fail
    refine HRM.out.mono ?_
    rintro e w' ⟨rfl, rfl⟩
    go_wp2
    go_ret
    exact ⟨rfl, HSTAY.out⟩
  · rw [if_neg h1]
    have h1' : ¬ (j.each : Int) * 108 - 4 < (b.length : Int) := by have := hk.e1; omega
    by_cases h2 : j.used = j.places
    · rw [if_pos h2]
      have h2' : (j.places : Int) - (j.used : Int) = 0 := by omega
      rw [h2'] at HLF
      have HDD := Lib.hid hd
      have HJJ := Lib.hid hj
      clear hj hk hd hr h1 h2 h2' q3 hroom
      go_enter Try.func27, Try.ntmps27
      go_wp2_with fail
      refine HM.out.mono ?_
      rintro e w' ⟨rfl, rfl⟩
      go_wp2_with fail
      refine HRM.out.mono ?_
      rintro e w' ⟨rfl, rfl⟩
      go_wp2_with fail
      refine HLF.out.mono ?_
      rintro e w1 ⟨rfl, hg⟩
      have HX : Hid (AP w g gj D j d w1) := Lib.hid ⟨D, HDD.out.grew hg, fun k h => .inl h, HJJ.out.grew hg, Kept.of_grew hg⟩
      clear hg
      go_wp2
      go_ret
      exact ⟨rfl, HX.out⟩
    · rw [if_neg h2]
      have h2' : ¬ (j.places : Int) - (j.used : Int) = 0 := by omega
      have b2 : ((j.places : Int) - (j.used : Int) == 0) = false := by simpa using h2'
      have hu : j.used < j.places := by have := hk.u; omega
      obtain ⟨⟨d1, qa⟩, hr1⟩ : ∃ y, jw j.first j.base j.each (j.used * j.each) (recB b) d = y := ⟨_, rfl⟩
      have hww := jw_waits j.first j.base j.each (j.used * j.each) (recB b) d
      rw [hr1] at hww
      simp only [hr1]
      have HWR := Lib.hid (fun W (hg : Grew w W) => by
        have := jwrite_any W gj g j D d S _ b (hj.grew hg) hk hb1 hu (hd.grew hg) hgj (hr.grew hg) (by have := hk.e1; omega) hw
        rw [hr1] at this
        exact this)
      have HWW : Hid (d1.waits.length ≤ 1073741824) := Lib.hid (by have := hk.e2; simp only at hww; omega)
      have HGJ := Lib.hid hgj
      have HJJ := Lib.hid hj
      have HDL := Lib.hid hd.1
      have hw4 : IntKind.i64.wrap ((j.used : Int) + 1) = (j.used : Int) + 1 := IntWalk.i64_in _ (by have := hk.p2; omega)
      have HW4 := Lib.hid hw4
      have HGL : Hid (gj < w.heap.size) := Lib.hid (Array.getElem?_eq_some_iff.1 hj).1
      clear hj hk hd hr h1 h2 q3 hroom hww hr1 hw4 hgj hu hw hb1
      obtain ⟨⟨d2, qb⟩, hfl⟩ : ∃ y, DFlush.flushed d1 = y := ⟨_, rfl⟩
      rw [hfl]
      have HFL := Lib.hid hfl
      obtain ⟨ans, hans⟩ : ∃ ans, (if qa = 0 then (if qb = 0 then ({ j with used := j.used + 1 }, d2, 0) else (j, d2, qb)) else (j, d1, qa)) = ans := ⟨_, rfl⟩
      simp only
      rw [hans]
      have HANS := Lib.hid hans
      clear hfl hans
      go_enter Try.func27, Try.ntmps27
      go_wp2_with fail
      refine HM.out.mono ?_
      rintro e w' ⟨rfl, rfl⟩
      go_wp2_with fail
      refine HRM.out.mono ?_
      rintro e w' ⟨rfl, rfl⟩
      go_wp2_with fail
      refine HLF.out.mono ?_
      rintro e w1 ⟨rfl, hg⟩
      have HWR1 := Lib.hid (HWR.out w1 hg)
      have HG1 := Lib.hid hg
      clear hg HWR
      go_wp2_with fail
      refine HWR1.out.mono ?_
      rintro e w2 ⟨rfl, D', hd', hs', hk'⟩
      have HD2 := Lib.hid hd'
      have HK2 := Lib.hid ((Kept.of_grew (D := D) HG1.out).trans hk')
      have HS2 : Hid (∀ k, D' k → D k ∨ w.heap.size ≤ k) := Lib.hid fun k hk => (hs' k hk).imp id (fun h => Nat.le_trans HG1.out.size h)
      have HJ2 : Hid (JL w2 gj g j) := Lib.hid ((HK2.out.block gj HGL.out HGJ.out).trans HJJ.out)
      clear hd' hs' hk' HWR1
      by_cases h0 : qa = 0
      · have b0 : (qa != 0) = false := by simpa using h0
        have HQA := Lib.hid h0
        have hc0 := HJ2.out.cells.1
        clear h0
        go_wp2_with fail
        refine (DAlive.flush_eq w2 g D' d1 d2 qb HD2.out HWW.out HFL.out).mono ?_
        rintro e w3 ⟨rfl, hd3, hk3⟩
        have HD3 := Lib.hid hd3
        have HGJ' : Hid (¬ D' gj) := Lib.hid fun h => by
          rcases HS2.out gj h with h | h
          · exact HGJ.out h
          · have := HGL.out; omega
        have HJ3 : Hid (JL w3 gj g j) := Lib.hid ((hk3.block gj (Array.getElem?_eq_some_iff.1 HJ2.out).1 HGJ'.out).trans HJ2.out)
        have HK3 := Lib.hid (kept_trans HK2.out hk3 HS2.out)
        clear hd3 hk3 hc0
        by_cases h3 : qb = 0
        · have b3 : (qb != 0) = false := by simpa using h3
          have hans := HANS.out
          rw [if_pos HQA.out, if_pos h3] at hans
          subst hans
          clear h3
          have c4' := HJ3.out.cells.2.2.2.2.1
          have f4 := frozen_of_row w3 gj 4 _ _ HJ3.out
          have hw4 := HW4.out
          go_wp2
          go_ret
          refine ⟨rfl, D', HD3.out.keep (Kept.set (D := fun k => k = gj) _ _ rfl) (fun k h1 h2 => HGJ'.out (h2 ▸ h1)), HS2.out, ?_, ?_⟩
          · show _ = _
            rw [Go.heap_setCell_same _ _ _ _ _ _ HJ3.out]
            simp
          · exact (DSettle.Kept.mono HK3.out fun k h => .inl h).trans (Kept.set (D := fun k => D k ∨ k = gj) _ _ (.inr rfl))
        · have b3 : (qb != 0) = true := by simpa using h3
          have hans := HANS.out
          rw [if_pos HQA.out, if_neg h3] at hans
          subst hans
          clear h3
          go_wp2
          go_ret
          exact ⟨rfl, D', HD3.out, HS2.out, HJ3.out, DSettle.Kept.mono HK3.out fun k h => .inl h⟩
      · have b0 : (qa != 0) = true := by simpa using h0
        have hans := HANS.out
        rw [if_neg h0] at hans
        subst hans
        clear h0
        go_wp2
        go_ret
        exact ⟨rfl, D', HD2.out, HS2.out, HJ2.out, DSettle.Kept.mono HK2.out fun k h => .inl h⟩
end Go.Proofs.Ytbnicphegbdfnaa.JE
