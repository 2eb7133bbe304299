/-
  What a deed of the law does; how many there are.
  Conditions: those that each lemma names.
-/
import Derived.Test.YtaolallfmjjoeaaTQ
namespace Go.Proofs.Ytaolallfmjjoeaa.TS
set_option maxRecDepth 100000
open Go Go.RowKit Go.Lib Go.Proofs.Ytaolallfmjjoeaa Go.Proofs.Ytaolallfmjjoeaa.Facts Go.Proofs.Ytaolallfmjjoeaa.Ints Go.Proofs.Ytaolallfmjjoeaa.TI Go.Proofs.Ytaolallfmjjoeaa.TP Go.Proofs.Ytaolallfmjjoeaa.TB Go.Proofs.Ytaolallfmjjoeaa.TC Go.Proofs.Ytaolallfmjjoeaa.TD Go.Proofs.Ytaolallfmjjoeaa.TE Go.Proofs.Ytaolallfmjjoeaa.TF Go.Proofs.Ytaolallfmjjoeaa.TG Go.Proofs.Ytaolallfmjjoeaa.TH Go.Proofs.Ytaolallfmjjoeaa.TJ Go.Proofs.Ytaolallfmjjoeaa.TK Go.Proofs.Ytaolallfmjjoeaa.TL Go.Proofs.Ytaolallfmjjoeaa.TQ Go.Proofs.Ytaolallfmjjoeaa.Bytes


theorem ans_slice3 {r : List It × Int × Int} {w w' : World} {e : Ending} (h : Ans3 r w e w') : ∃ A c, e = .returned (.tuple #[.slice A r.1.length c, .int .i64 r.2.1, .int .i64 r.2.2]) ∧ Its w' (.slice A r.1.length c) r.1 ∧ Grew w w' := by
  obtain ⟨v', e1, hi, hg⟩ := h
  obtain ⟨A, c, e2, _⟩ := hi.slice
  subst e2
  exact ⟨A, c, e1, hi, hg⟩
set_option maxHeartbeats 1000000 in
theorem do_any (v : Value) (l : List It) (x : De) (w : World) (hl : Its w v l) (hz : Sz l) (hn : l.length ≤ 1000) (hs : x.name.size ≤ 9223372036854775807) : Calls Try.prog 40 #[v, dv x] w (Ans (doP l x) w) := by
  obtain ⟨kd, i, n, m, a, b, s⟩ := x
  unfold dv doP
  simp only at hs ⊢
  have g0 : Grew w (w.alloc (.cells #[.int .i64 kd, .int .i64 i, .int .i64 n, .int .i64 m, .int .i64 a, .int .i64 b, .string s] 64)) := by unfold Grew; go_grown
  have G0 := Lib.hid g0
  have hl0 := hl.grew g0
  obtain ⟨A, c, rfl, _⟩ := id hl.slice
  by_cases h0 : kd = 0
  · subst h0
    rw [if_pos rfl]
    have HC := Lib.hid (make_any _ l s n _ hl0 hz hn hs)
    generalize makeP l s n = r at *
    obtain ⟨R, ki, er⟩ := r
    clear hl hz hn hs g0 hl0
    go_enter Try.func40, Try.ntmps40
    go_wp2_with fail
    refine (HC.out).mono ?_
    rintro e w1 ha
    obtain ⟨A1, c1, rfl, hi, hg⟩ := ans_slice3 ha
    have HI := Lib.hid hi
    have G1 := Lib.hid (G0.out.trans hg)
    clear ha hi hg
    go_wp2
    go_returns
    exact ⟨_, rfl, HI.out, G1.out⟩
  rw [if_neg h0]
  by_cases h1 : kd = 1
  · subst h1
    rw [if_pos rfl]
    have HC := Lib.hid (scrap_any _ l i n _ hl0 hz hn)
    generalize scrapP l i n = r at *
    obtain ⟨R, er⟩ := r
    clear hl hz hn hs g0 hl0
    go_enter Try.func40, Try.ntmps40
    go_wp2_with fail
    refine (HC.out).mono ?_
    rintro e w1 ha
    obtain ⟨A1, c1, rfl, hi, hg⟩ := ans_slice ha
    have HI := Lib.hid hi
    have G1 := Lib.hid (G0.out.trans hg)
    clear ha hi hg
    go_wp2
    go_returns
    exact ⟨_, rfl, HI.out, G1.out⟩
  rw [if_neg h1]
  by_cases h2 : kd = 2
  · subst h2
    rw [if_pos rfl]
    have HC := Lib.hid (drop_any _ l i n a b _ hl0 hz hn)
    generalize moveP l i (hand n) (floor a b) = r at *
    obtain ⟨R, er⟩ := r
    clear hl hz hn hs g0 hl0
    go_enter Try.func40, Try.ntmps40
    go_wp2_with fail
    refine (HC.out).mono ?_
    rintro e w1 ha
    obtain ⟨A1, c1, rfl, hi, hg⟩ := ans_slice ha
    have HI := Lib.hid hi
    have G1 := Lib.hid (G0.out.trans hg)
    clear ha hi hg
    go_wp2
    go_returns
    exact ⟨_, rfl, HI.out, G1.out⟩
  rw [if_neg h2]
  by_cases h3 : kd = 3
  · subst h3
    rw [if_pos rfl]
    have HC := Lib.hid (take_any _ l i n a b _ hl0 hz hn)
    generalize moveP l i (floor a b) (hand n) = r at *
    obtain ⟨R, er⟩ := r
    clear hl hz hn hs g0 hl0
    go_enter Try.func40, Try.ntmps40
    go_wp2_with fail
    refine (HC.out).mono ?_
    rintro e w1 ha
    obtain ⟨A1, c1, rfl, hi, hg⟩ := ans_slice ha
    have HI := Lib.hid hi
    have G1 := Lib.hid (G0.out.trans hg)
    clear ha hi hg
    go_wp2
    go_returns
    exact ⟨_, rfl, HI.out, G1.out⟩
  rw [if_neg h3]
  by_cases h4 : kd = 4
  · subst h4
    rw [if_pos rfl]
    have HC := Lib.hid (pass_any _ l i n m _ hl0 hz hn)
    generalize moveP l i (hand n) (hand m) = r at *
    obtain ⟨R, er⟩ := r
    clear hl hz hn hs g0 hl0
    go_enter Try.func40, Try.ntmps40
    go_wp2_with fail
    refine (HC.out).mono ?_
    rintro e w1 ha
    obtain ⟨A1, c1, rfl, hi, hg⟩ := ans_slice ha
    have HI := Lib.hid hi
    have G1 := Lib.hid (G0.out.trans hg)
    clear ha hi hg
    go_wp2
    go_returns
    exact ⟨_, rfl, HI.out, G1.out⟩
  rw [if_neg h4]
  by_cases h5 : kd = 5
  · subst h5
    rw [if_pos rfl]
    have HC := Lib.hid (hold_any _ l i n m _ hl0 hz hn)
    generalize moveP l i (hand n) (deal m) = r at *
    obtain ⟨R, er⟩ := r
    clear hl hz hn hs g0 hl0
    go_enter Try.func40, Try.ntmps40
    go_wp2_with fail
    refine (HC.out).mono ?_
    rintro e w1 ha
    obtain ⟨A1, c1, rfl, hi, hg⟩ := ans_slice ha
    have HI := Lib.hid hi
    have G1 := Lib.hid (G0.out.trans hg)
    clear ha hi hg
    go_wp2
    go_returns
    exact ⟨_, rfl, HI.out, G1.out⟩
  rw [if_neg h5]
  have HC := Lib.hid (free_any _ l m n _ hl0 hz hn)
  generalize freeP l m n = r at *
  obtain ⟨R, er⟩ := r
  clear hl hz hn hs g0 hl0
  go_enter Try.func40, Try.ntmps40
  go_wp2_with fail
  refine (HC.out).mono ?_
  rintro e w1 ha
  obtain ⟨A1, c1, rfl, hi, hg⟩ := ans_slice ha
  have HI := Lib.hid hi
  have G1 := Lib.hid (G0.out.trans hg)
  clear ha hi hg
  go_wp2
  go_returns
  exact ⟨_, rfl, HI.out, G1.out⟩

theorem used_n (v : Value) (l : List It) (w : World) (hl : Its w v l) (hn : l.length ≤ 1000) : Calls Try.prog 41 #[v] w fun e w' => e = .returned (.int .i64 (cU l)) ∧ Grew w w' := by
  have HL := Lib.hid hl
  obtain ⟨A, c, rfl, _⟩ := hl.slice
  have HN := Lib.hid hn
  clear hl hn
  go_enter Try.func41, Try.ntmps41
  go_wp2
  go_loopg [3, 4] l.length (fun g s3 s4 wx => ∃ (k : Nat) (z : Int), s3 = .int .i64 z ∧ s4 = .int .i64 k ∧ k + g = l.length ∧ Hid (z = sumN k fun j => b01 (el l j).used) ∧ Hid (Grew w wx))
  case atStart => exact ⟨0, 0, rfl, rfl, by omega, Lib.hid rfl, Lib.hid (Grew.refl _)⟩
  case round =>
    obtain ⟨k, z, rfl, rfl, hkg, HZ, HG⟩ := hrel
    cases gk with
    | zero =>
      have hkz : ¬ ((k : Int) < (l.length : Int)) := by omega
      have HE : Hid (cU l = z) := Lib.hid (by unfold cU; rw [HZ.out, show k = l.length by omega])
      go_wp2
      go_returns
      refine ⟨?_, HG.out⟩
      rw [HE.out]
      try rfl
    | succ g =>
      have hkl : k < l.length := by omega
      have hkz : (k : Int) < (l.length : Int) := by omega
      have hx : l[k]? = some (el l k) := by unfold el; rw [List.getElem?_eq_getElem hkl]; rfl
      obtain ⟨ad, c2, e, hc, d0, _⟩ := Its_at (HL.out.grew HG.out) hx
      injection e with e1 _ e3
      subst e1 e3
      have hwk : wrap64 ((k : Int) + 1) = ((k + 1 : Nat) : Int) := wr1 hkl HN.out
      have HWK := Lib.hid hwk
      have hb := sum_bound k (fun j => b01 (el l j).used) (fun j => b01_le _)
      have hzb : 0 ≤ z ∧ z ≤ k := by rw [HZ.out]; exact hb
      have hk1 : (k : Int) ≤ 1000 := by have := HN.out; omega
      have hwz : wrap64 (z + 1) = z + 1 := by unfold wrap64; omega
      have HWZ := Lib.hid hwz
      have HS := Lib.hid (sum_succ k fun j => b01 (el l j).used)
      have HM : Hid (k + 1 + g = l.length) := Lib.hid (by omega)
      clear hwk hb hzb hk1 hx hc hkg
      cases hu : (el l k).used with
      | false =>
        rw [hu] at d0
        have HZ2 : Hid (z = sumN (k + 1) fun j => b01 (el l j).used) := Lib.hid (by rw [HS.out, ← HZ.out, hu]; unfold b01; simp)
        clear hu
        go_wp2
        go_roundg g
        case measure => omega
        case rel => exact ⟨k + 1, z, rfl, by first | (simp; done) | rw [HWK.out], HM.out, HZ2, HG⟩
      | true =>
        rw [hu] at d0
        have HZ2 : Hid (z + 1 = sumN (k + 1) fun j => b01 (el l j).used) := Lib.hid (by rw [HS.out, ← HZ.out, hu]; rfl)
        clear hu
        go_wp2
        go_roundg g
        case measure => omega
        case rel => exact ⟨k + 1, z + 1, by first | (simp; done) | rw [HWZ.out], by first | (simp; done) | rw [HWK.out], HM.out, HZ2, HG⟩
end Go.Proofs.Ytaolallfmjjoeaa.TS
