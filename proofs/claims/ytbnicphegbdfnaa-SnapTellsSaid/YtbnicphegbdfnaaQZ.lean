/-
  Snapshots of the program, at any disk: one answer for all places and all bytes.
  Conditions: those that each lemma names.
-/
import Derived.Test.YtbnicphegbdfnaaQY
namespace Go.Proofs.Ytbnicphegbdfnaa.QZ
set_option maxRecDepth 100000
open Go Go.RowKit Go.Proofs.Ytbnicphegbdfnaa Go.Proofs.Ytbnicphegbdfnaa.Facts Go.Proofs.Ytbnicphegbdfnaa.Bytes Go.Proofs.Ytbnicphegbdfnaa.DKeep Go.Proofs.Ytbnicphegbdfnaa.DSmall Go.Proofs.Ytbnicphegbdfnaa.SPure Go.Proofs.Ytbnicphegbdfnaa.DRefA Go.Proofs.Ytbnicphegbdfnaa.DRefB Go.Proofs.Ytbnicphegbdfnaa.DRefC Go.Proofs.Ytbnicphegbdfnaa.DSim Go.Proofs.Ytbnicphegbdfnaa.DRefD Go.Proofs.Ytbnicphegbdfnaa.DLawA Go.Proofs.Ytbnicphegbdfnaa.AP Go.Proofs.Ytbnicphegbdfnaa.AQ Go.Proofs.Ytbnicphegbdfnaa.AA Go.Proofs.Ytbnicphegbdfnaa.AW Go.Proofs.Ytbnicphegbdfnaa.AV Go.Proofs.Ytbnicphegbdfnaa.AC Go.Proofs.Ytbnicphegbdfnaa.AU Go.Proofs.Ytbnicphegbdfnaa.RA Go.Proofs.Ytbnicphegbdfnaa.RG Go.Proofs.Ytbnicphegbdfnaa.RH Go.Proofs.Ytbnicphegbdfnaa.RI Go.Proofs.Ytbnicphegbdfnaa.QA Go.Proofs.Ytbnicphegbdfnaa.QN Go.Proofs.Ytbnicphegbdfnaa.QR Go.Proofs.Ytbnicphegbdfnaa.QW Go.Proofs.Ytbnicphegbdfnaa.QL Go.Proofs.Ytbnicphegbdfnaa.SP Go.Proofs.Ytbnicphegbdfnaa.SN Go.Proofs.Ytbnicphegbdfnaa.SB Go.Proofs.Ytbnicphegbdfnaa.DS Go.Proofs.Ytbnicphegbdfnaa.QX Go.Proofs.Ytbnicphegbdfnaa.QY

theorem ds_pok {w y : World} {g : Nat} {d : Pd} {V : List (Value × Cont)} (h : DS w g d V y) : POk d := by
  obtain ⟨D, hdk⟩ := h.dk
  obtain ⟨_, a, b, ca, cb, vw, h0, _⟩ := id hdk
  exact h0.ok
theorem ev_of {L : List Sec} (h : Even L) : Ev L := fun a s hs => h s (List.mem_of_getElem? hs)
theorem srefus_fit {d : Pd} {f m : Nat} (h : srefus d (f : Int) (m : Int) = 0) : f + 2 * m ≤ d.safe.length ∧ 1 ≤ m ∧ d.off = false := sref_fit (n := d.safe.length) (off := d.off) h
theorem room_is (m : Nat) (h1 : 1 ≤ m) (h2 : m ≤ 16384) : JA.room (m : Int) = (m : Int) * 108 - 4 := by unfold JA.room; rw [if_neg (by omega), if_neg (by omega)]
set_option maxHeartbeats 4000000 in
/-- The next snapshot, of two areas that can be gone to. -/
theorem ds_next_any {w y : World} {g : Nat} {d : Pd} {V : List (Value × Cont)} (h : DS w g d V y) (f m : Nat) (hsq : srefus d (f : Int) (m : Int) = 0) (v : Value) (b : List UInt8) (hin : (v, Cont.bytes b) ∈ V) (hb : b.length + 4 ≤ 108 * m) (hw : d.waits.length ≤ 900000000) (d' : Pd) (q : Int) (he : nextD d f m b = (d', q)) :
    Calls Try.prog 38 #[.pointer (some ⟨g, 0, none⟩), .int .i64 (f : Int), .int .i64 (m : Int), v] y fun e z => e = .returned (.int .i64 q) ∧ DS w g d' V z := by
  obtain ⟨A, cp, rfl, _⟩ := id (h.rd hin)
  have hpok := ds_pok h
  obtain ⟨k1, k2, k3⟩ := srefus_fit hsq
  have hn2 := hpok.n2
  have hlen : f + 2 * m ≤ d.last.length := by rw [hpok.same]; exact k1
  have hroom : ¬ JA.room (m : Int) < (b.length : Int) := by rw [room_is m k2 (by omega)]; omega
  rcases hp : pick d.last f m with _ | ⟨c, s, b0⟩
  · unfold nextD at he
    rw [hp] at he
    cases he
    exact ds_nextform h f m _ _ rfl rfl A b.length cp hsq hroom hp
  obtain ⟨n, hn⟩ : ∃ n, anw d.last f (2 * m) = n := ⟨_, rfl⟩
  have hc2 := pick_c _ _ _ k2 hp
  simp only at hc2
  have he' : (if 4611686018427387904 ≤ n then (d, 7) else keepP d (f + (1 - c) * m) (n + 1) m b) = (d', q) := by
    rw [← he]
    unfold nextD
    rw [hp, hn]
    rfl
  have HSB := Lib.hid (ds_sbytes h (f : Int) (m : Int) A b.length cp 0 hsq)
  rw [if_pos rfl, if_neg hroom] at HSB
  have HLA := Lib.hid (ds_last_some h f m _ _ rfl rfl hsq c s b0 hp)
  have HQ : Hid (∀ k : Nat, k < 2 → arefus d ((f + k * m : Nat) : Int) (m : Int) = 0) := Lib.hid fun k hk => aref_of (n := d.safe.length) (off := d.off) (by rcases (show k = 0 ∨ k = 1 by omega) with rfl | rfl <;> omega) k2 k3
  have HQ2 : Hid (arefus d (f : Int) ((2 * m : Nat) : Int) = 0) := Lib.hid (aref_of (n := d.safe.length) (off := d.off) k1 (by omega) k3)
  have HEV := Lib.hid (ev_at (ev_of hpok.el) f (2 * m) hlen)
  have HNN := Lib.hid hn
  have HB := Lib.hid hb
  have HIN := Lib.hid hin
  have HW := Lib.hid hw
  have HBO := Lib.hid (fun w => both_any (f : Int) (m : Int) w (by omega) (by omega))
  have HM := Lib.hid (show m ≤ 16384 by omega)
  have hw2 : IntKind.i64.wrap (2 * (m : Int)) = 2 * (m : Int) := IntWalk.i64_in _ (by omega)
  have HDY := Lib.hid h
  by_cases h62 : 4611686018427387904 ≤ n
  · rw [if_pos h62] at he'
    cases he'
    have k62 : decide ((4611686018427387904 : Int) ≤ (n : Int)) = true := decide_eq_true (by omega)
    clear h hn hb hin he hsq hlen h62 hw hpok k1 k2 k3 hn2 hroom hp hc2
    go_enter Try.func38, Try.ntmps38
    go_wp2_with fail
    refine HSB.out.mono ?_
    rintro e w' ⟨rfl, rfl⟩
    clear HSB
    go_wp2_with fail
    refine HLA.out.mono ?_
    rintro e w1 ⟨v1, rfl, hd⟩
    obtain ⟨A1, c1, rfl, _⟩ := id (hd.rd (List.mem_cons_self ..))
    have HD1 := Lib.hid hd
    clear hd HLA
    go_wp2_with fail
    refine (ds_anewest w w1 g _ _ HD1.out f (2 * m) _ _ rfl (by omega) n HQ2.out HEV.out HNN.out).mono ?_
    rintro e w2 ⟨rfl, hd⟩
    have HD2 := Lib.hid hd
    clear hd HD1
    go_wp2
    go_ret
    exact ⟨rfl, HD2.out.sub fun p hp => List.mem_cons_of_mem _ hp⟩
  rw [if_neg h62] at he'
  have HE := Lib.hid he'
  have HS : Hid (may (n + 1) = true) := Lib.hid ((may_iff _).2 (by omega))
  have HN62 : Hid (¬ (4611686018427387904 : Int) ≤ (n : Int)) := Lib.hid (by omega)
  have hwn : IntKind.u64.wrap ((n : Int) + 1) = ((n + 1 : Nat) : Int) := by rw [IntWalk.u64_in _ (by omega)]; simp
  clear h hn hb hin he he' hsq hlen h62 hw hpok k1 k2 k3 hn2 hroom hp
  rcases (show c = 0 ∨ c = 1 by omega) with rfl | rfl
  · have hwc : IntKind.i64.wrap (1 - ((0 : Nat) : Int)) = 1 := by decide
    go_enter Try.func38, Try.ntmps38
    go_wp2_with fail
    refine HSB.out.mono ?_
    rintro e w' ⟨rfl, rfl⟩
    clear HSB
    go_wp2_with fail
    refine HLA.out.mono ?_
    rintro e w1 ⟨v1, rfl, hd⟩
    obtain ⟨A1, c1, rfl, _⟩ := id (hd.rd (List.mem_cons_self ..))
    have HD1 := Lib.hid hd
    clear hd HLA
    go_wp2_with fail
    refine (ds_anewest w w1 g _ _ HD1.out f (2 * m) _ _ rfl (by omega) n HQ2.out HEV.out HNN.out).mono ?_
    rintro e w2 ⟨rfl, hd⟩
    have HD2 := Lib.hid hd
    clear hd HD1
    have k62 : decide ((4611686018427387904 : Int) ≤ (n : Int)) = false := decide_eq_false (by have := HN62.out; omega)
    go_wp2_with fail
    refine (HBO.out _).mono ?_
    rintro e w3 ⟨rfl, hg⟩
    have HD3 := Lib.hid (HD2.out.grew hg)
    clear hg HD2
    have kix := run_ix1 (.int .i64 (f : Int)) (.int .i64 ((f : Int) + (m : Int)))
    go_wp2_with fail
    refine (ds_keep HD3.out (f + (1 - 0) * m) m (n + 1) _ _ _ (by simp) rfl (by first | rfl | simp) _ _ b d' q (HD3.out.rd (v := .slice A b.length cp) (l := b) (List.mem_cons_of_mem _ HIN.out)) (HQ.out 1 (by omega)) HS.out HB.out (by have := HM.out; have := HW.out; omega) HE.out).mono ?_
    rintro e w4 ⟨rfl, hd⟩
    have HD4 := Lib.hid hd
    clear hd HD3
    go_wp2
    go_ret
    exact ⟨rfl, HD4.out.sub fun p hp => List.mem_cons_of_mem _ hp⟩
  · have hwc : IntKind.i64.wrap (1 - ((1 : Nat) : Int)) = 0 := by decide
    go_enter Try.func38, Try.ntmps38
    go_wp2_with fail
    refine HSB.out.mono ?_
    rintro e w' ⟨rfl, rfl⟩
    clear HSB
    go_wp2_with fail
    refine HLA.out.mono ?_
    rintro e w1 ⟨v1, rfl, hd⟩
    obtain ⟨A1, c1, rfl, _⟩ := id (hd.rd (List.mem_cons_self ..))
    have HD1 := Lib.hid hd
    clear hd HLA
    go_wp2_with fail
    refine (ds_anewest w w1 g _ _ HD1.out f (2 * m) _ _ rfl (by omega) n HQ2.out HEV.out HNN.out).mono ?_
    rintro e w2 ⟨rfl, hd⟩
    have HD2 := Lib.hid hd
    clear hd HD1
    have k62 : decide ((4611686018427387904 : Int) ≤ (n : Int)) = false := decide_eq_false (by have := HN62.out; omega)
    go_wp2_with fail
    refine (HBO.out _).mono ?_
    rintro e w3 ⟨rfl, hg⟩
    have HD3 := Lib.hid (HD2.out.grew hg)
    clear hg HD2
    have kix := run_ix0 (.int .i64 (f : Int)) (.int .i64 ((f : Int) + (m : Int)))
    go_wp2_with fail
    refine (ds_keep HD3.out (f + (1 - 1) * m) m (n + 1) _ _ _ (by simp) rfl (by first | rfl | simp) _ _ b d' q (HD3.out.rd (v := .slice A b.length cp) (l := b) (List.mem_cons_of_mem _ HIN.out)) (HQ.out 0 (by omega)) HS.out HB.out (by have := HM.out; have := HW.out; omega) HE.out).mono ?_
    rintro e w4 ⟨rfl, hd⟩
    have HD4 := Lib.hid hd
    clear hd HD3
    go_wp2
    go_ret
    exact ⟨rfl, HD4.out.sub fun p hp => List.mem_cons_of_mem _ hp⟩
theorem ds_beginno {w y : World} {g : Nat} {d : Pd} {V : List (Value × Cont)} (h : DS w g d V y) (first many : Int) (A : Option Addr) (n c : Nat) (q : Int) (hq : (if srefus d first many = 0 then (if JA.room many < (n : Int) then 13 else 0) else srefus d first many) = q) (h0 : ¬ q = 0) :
    Calls Try.prog 40 #[.pointer (some ⟨g, 0, none⟩), .int .i64 first, .int .i64 many, .slice A n c] y fun e z => e = .returned (.int .i64 q) ∧ DS w g d V z := by
  have HSB := Lib.hid (ds_sbytes h first many A n c _ rfl)
  rw [hq] at HSB
  have hb : (q != 0) = true := by simpa using h0
  have HD := Lib.hid h
  clear h hq h0
  go_enter Try.func40, Try.ntmps40
  go_wp2_with fail
  refine HSB.out.mono ?_
  rintro e w' ⟨rfl, rfl⟩
  go_wp2
  go_ret
  exact ⟨rfl, HD.out⟩
theorem ds_lastno {w y : World} {g : Nat} {d : Pd} {V : List (Value × Cont)} (h : DS w g d V y) (first many : Int) (q : Int) (hq : srefus d first many = q) (h0 : ¬ q = 0) :
    Calls Try.prog 42 #[.pointer (some ⟨g, 0, none⟩), .int .i64 first, .int .i64 many] y fun e z => e = .returned (.tuple #[.int .i64 0, .int .u64 0, .slice none 0 0, .int .i64 q]) ∧ DS w g d V z := by
  have HSB := Lib.hid (ds_srefuses h first many q hq)
  have hb : (q != 0) = true := by simpa using h0
  have HD := Lib.hid h
  clear h hq h0
  go_enter Try.func42, Try.ntmps42
  go_wp2_with fail
  refine HSB.out.mono ?_
  rintro e w' ⟨rfl, rfl⟩
  go_wp2
  go_returns
  exact ⟨rfl, HD.out⟩
/- One answer for all places and all bytes. -/
def nextA (d : Pd) (first many : Int) (b : List UInt8) : Pd × Int := if srefus d first many = 0 then (if 108 * many.toNat < b.length + 4 then (d, 13) else nextD d first.toNat many.toNat b) else (d, srefus d first many)
def beginA (d : Pd) (first many : Int) (b : List UInt8) : Pd × Int := if srefus d first many = 0 then (if 108 * many.toNat < b.length + 4 then (d, 13) else beginP d first.toNat many.toNat b) else (d, srefus d first many)
def ptell (p : Option (Nat × Nat × List UInt8)) : Nat × Nat × List UInt8 × Int := match p with
  | none => (0, 0, [], 2)
  | some x => (x.1, x.2.1, x.2.2, 0)
def lastA (d : Pd) (first many : Int) : Nat × Nat × List UInt8 × Int := if srefus d first many = 0 then ptell (pick d.last first.toNat many.toNat) else (0, 0, [], srefus d first many)
theorem srefus_nat {d : Pd} {first many : Int} (h : srefus d first many = 0) : ∃ f m : Nat, first = (f : Int) ∧ many = (m : Int) := by
  unfold srefus at h
  split at h
  · omega
  · split at h
    · omega
    · exact ⟨first.toNat, many.toNat, by omega, by omega⟩
theorem ds_nextA {w y : World} {g : Nat} {d : Pd} {V : List (Value × Cont)} (h : DS w g d V y) (first many : Int) (v : Value) (b : List UInt8) (hin : (v, Cont.bytes b) ∈ V) (hw : d.waits.length ≤ 900000000) (d' : Pd) (q : Int) (he : nextA d first many b = (d', q)) :
    Calls Try.prog 38 #[.pointer (some ⟨g, 0, none⟩), .int .i64 first, .int .i64 many, v] y fun e z => e = .returned (.int .i64 q) ∧ DS w g d' V z := by
  obtain ⟨A, cp, rfl, _⟩ := id (h.rd hin)
  unfold nextA at he
  by_cases hq : srefus d first many = 0
  · rw [if_pos hq] at he
    obtain ⟨f, m, rfl, rfl⟩ := srefus_nat hq
    obtain ⟨k1, k2, k3⟩ := srefus_fit hq
    have hn2 := (ds_pok h).n2
    simp only [Int.toNat_natCast] at he
    by_cases hl : 108 * m < b.length + 4
    · rw [if_pos hl] at he
      cases he
      exact ds_nextno h _ _ A b.length cp 13 (by rw [if_pos hq, if_pos (by rw [room_is m k2 (by omega)]; omega)]) (by decide)
    · rw [if_neg hl] at he
      exact ds_next_any h f m hq _ b hin (by omega) hw d' q he
  · rw [if_neg hq] at he
    cases he
    exact ds_nextno h _ _ A b.length cp _ (if_neg hq) hq
theorem flushed_off {d : Pd} (h : (DFlush.flushed d).2 = 0) (h0 : d.off = false) : (DFlush.flushed d).1.off = false := by
  unfold DFlush.flushed at h ⊢
  rw [h0, if_neg (by decide)] at h ⊢
  by_cases hb : (DTurn.blown d).2 = 0
  · rw [if_pos hb]
    unfold DTurn.blown at hb ⊢
    unfold DFlush.ended
    split
    · exact h0
    · split
      · rename_i k1 k2
        rw [if_neg k1, if_pos k2] at hb
        have hb : (15 : Int) = 0 := hb
        omega
      · exact h0
  · rw [if_neg hb] at h
    exact absurd h hb
theorem flushed_off2 {d : Pd} (h : (DFlush.flushed d).2 = 0) : d.off = false := by
  unfold DFlush.flushed at h
  cases ho : d.off with
  | false => rfl
  | true =>
    rw [ho, if_pos rfl] at h
    have h : (15 : Int) = 0 := h
    omega
theorem zw_len (first : Nat) (d : Pd) : ∀ i, (zw first i d).1.safe.length = d.safe.length
  | 0 => rfl
  | i + 1 => by
    have h := zw_len first d i
    show (if (zw first i d).2 = 0 then _ else _ : Pd × Int).1.safe.length = _
    split
    · exact (written_len _ _ _).trans h
    · exact h
theorem ds_beginA {w y : World} {g : Nat} {d : Pd} {V : List (Value × Cont)} (h : DS w g d V y) (first many : Int) (v : Value) (b : List UInt8) (hin : (v, Cont.bytes b) ∈ V) (hw : d.waits.length ≤ 10000) (d' : Pd) (q : Int) (he : beginA d first many b = (d', q)) :
    Calls Try.prog 40 #[.pointer (some ⟨g, 0, none⟩), .int .i64 first, .int .i64 many, v] y fun e z => e = .returned (.int .i64 q) ∧ DS w g d' V z := by
  obtain ⟨A, cp, rfl, _⟩ := id (h.rd hin)
  unfold beginA at he
  by_cases hq : srefus d first many = 0
  · rw [if_pos hq] at he
    obtain ⟨f, m, rfl, rfl⟩ := srefus_nat hq
    obtain ⟨k1, k2, k3⟩ := srefus_fit hq
    have hn2 := (ds_pok h).n2
    simp only [Int.toNat_natCast] at he
    by_cases hl : 108 * m < b.length + 4
    · rw [if_pos hl] at he
      cases he
      exact ds_beginno h _ _ A b.length cp 13 (by rw [if_pos hq, if_pos (by rw [room_is m k2 (by omega)]; omega)]) (by decide)
    · rw [if_neg hl] at he
      refine ds_begin h f m _ _ rfl rfl hq _ b hin (by omega) (by omega) (fun h1 h2 => ⟨?_, ?_⟩) d' q he
      · exact aref_of (n := _) (off := _) (by rw [flushed_len, zw_len]; omega) k2 (flushed_off h2 (flushed_off2 h2))
      · have h3 := flushed_waits (zw (f + m) m d).1
        have h4 := zw_waits (f + m) d m
        omega
  · rw [if_neg hq] at he
    cases he
    exact ds_beginno h _ _ A b.length cp _ (if_neg hq) hq
theorem ds_lastA {w y : World} {g : Nat} {d : Pd} {V : List (Value × Cont)} (h : DS w g d V y) (first many : Int) (i s : Nat) (b : List UInt8) (q : Int) (he : lastA d first many = (i, s, b, q)) :
    Calls Try.prog 42 #[.pointer (some ⟨g, 0, none⟩), .int .i64 first, .int .i64 many] y fun e z => (∃ v, e = .returned (.tuple #[.int .i64 (i : Int), .int .u64 (s : Int), v, .int .i64 q]) ∧ Rd (fun _ => True) z v b) ∧ DS w g d V z := by
  unfold lastA at he
  by_cases hq : srefus d first many = 0
  · rw [if_pos hq] at he
    obtain ⟨f, m, rfl, rfl⟩ := srefus_nat hq
    simp only [Int.toNat_natCast] at he
    rcases hp : pick d.last f m with _ | ⟨c, s2, b2⟩
    · rw [hp] at he
      cases he
      refine (ds_last_none h f m _ _ rfl rfl hq hp).mono ?_
      rintro e z ⟨rfl, hd⟩
      exact ⟨⟨_, rfl, Rd.nil _ _⟩, hd⟩
    · rw [hp] at he
      cases he
      refine (ds_last_some h f m _ _ rfl rfl hq _ _ _ hp).mono ?_
      rintro e z ⟨v, rfl, hd⟩
      exact ⟨⟨v, rfl, hd.rd (List.mem_cons_self ..)⟩, hd.sub fun p hp => List.mem_cons_of_mem _ hp⟩
  · rw [if_neg hq] at he
    cases he
    refine (ds_lastno h first many _ rfl hq).mono ?_
    rintro e z ⟨rfl, hd⟩
    exact ⟨⟨_, rfl, Rd.nil _ _⟩, hd⟩
/- The document's. -/
def nextB (r : Rp) (first many : Int) (b : List UInt8) : Rp × Int := if sref r.now.length r.off first many = 0 then (if 108 * many.toNat < b.length + 4 then (r, 13) else nextR r first.toNat many.toNat b) else (r, sref r.now.length r.off first many)
def beginB (r : Rp) (first many : Int) (b : List UInt8) : Rp × Int := if sref r.now.length r.off first many = 0 then (if 108 * many.toNat < b.length + 4 then (r, 13) else beginR r first.toNat many.toNat b) else (r, sref r.now.length r.off first many)
def lastB (r : Rp) (first many : Int) : Nat × Nat × List UInt8 × Int := if sref r.now.length r.off first many = 0 then ptell (pick r.now first.toNat many.toNat) else (0, 0, [], sref r.now.length r.off first many)
section
variable {d : Pd} {r : Rp}
theorem sref_sim (h : Sim d r) (first many : Int) : srefus d first many = sref r.now.length r.off first many := by rw [sref_is, h.len, h.off]
theorem nextA_sim (h : Sim d r) (first many : Int) (b : List UInt8) : (nextA d first many b).2 = (nextB r first many b).2 ∧ Sim (nextA d first many b).1 (nextB r first many b).1 := by
  unfold nextA nextB
  rw [sref_sim h]
  split
  · split
    · exact ⟨rfl, h⟩
    · exact next_sim h _ _ _ (by omega)
  · exact ⟨rfl, h⟩
theorem beginA_sim (h : Sim d r) (first many : Int) (b : List UInt8) : (beginA d first many b).2 = (beginB r first many b).2 ∧ Sim (beginA d first many b).1 (beginB r first many b).1 := by
  unfold beginA beginB
  rw [sref_sim h]
  split
  · split
    · exact ⟨rfl, h⟩
    · exact begin_sim h _ _ _ (by omega)
  · exact ⟨rfl, h⟩
theorem lastA_sim (h : Sim d r) (first many : Int) : lastA d first many = lastB r first many := by
  unfold lastA lastB
  rw [sref_sim h, h.now]
end
theorem sref_nat {n : Nat} {off : Bool} {first many : Int} (h : sref n off first many = 0) : ∃ f m : Nat, first = (f : Int) ∧ many = (m : Int) := by
  unfold sref at h
  split at h
  · omega
  · split at h
    · omega
    · exact ⟨first.toNat, many.toNat, by omega, by omega⟩
theorem keepR_now (r : Rp) (f st m : Nat) (b : List UInt8) : (keepR r f st m b).1.now.length = r.now.length ∧ (keepR r f st m b).1.waits.length ≤ r.waits.length + m := by
  have h1 := rgw_now f st (place m b) m 0 r
  have h2 := rgw_waits f st (place m b) m 0 r
  have h3 := rflushed_now (rgw f st (place m b) m 0 r).1
  unfold keepR
  split
  · exact ⟨h3.1.trans h1, Nat.le_trans h3.2 h2⟩
  · exact ⟨h1, h2⟩
theorem nextB_now (r : Rp) (first many : Int) (b : List UInt8) : (nextB r first many b).1.now.length = r.now.length ∧ (nextB r first many b).1.waits.length ≤ r.waits.length + r.now.length := by
  unfold nextB
  split
  · rename_i h
    obtain ⟨f, m, rfl, rfl⟩ := sref_nat h
    obtain ⟨k1, _, _⟩ := sref_fit h
    split
    · exact ⟨rfl, Nat.le_add_right _ _⟩
    · simp only [Int.toNat_natCast]
      unfold nextR
      cases pick r.now f m with
      | none => exact ⟨rfl, Nat.le_add_right _ _⟩
      | some x =>
        unfold nxR
        simp only
        split
        · exact ⟨rfl, Nat.le_add_right _ _⟩
        · have h4 := keepR_now r (f + (1 - x.1) * m) (anw r.now f (2 * m) + 1) m b
          exact ⟨h4.1, by have := h4.2; omega⟩
  · exact ⟨rfl, Nat.le_add_right _ _⟩
theorem beginB_now (r : Rp) (first many : Int) (b : List UInt8) : (beginB r first many b).1.now.length = r.now.length ∧ (beginB r first many b).1.waits.length ≤ r.waits.length + r.now.length := by
  unfold beginB
  split
  · rename_i h
    obtain ⟨f, m, rfl, rfl⟩ := sref_nat h
    obtain ⟨k1, _, _⟩ := sref_fit h
    split
    · exact ⟨rfl, Nat.le_add_right _ _⟩
    · simp only [Int.toNat_natCast]
      unfold beginR
      have h1 := zrw_now (f + m) r m
      have h2 := rflushed_now (zrw (f + m) m r).1
      have h3 := keepR_now (rflushed (zrw (f + m) m r).1).1 f 1 m b
      split
      · split
        · exact ⟨h3.1.trans (h2.1.trans h1.1), by omega⟩
        · exact ⟨h2.1.trans h1.1, by omega⟩
      · exact ⟨h1.1, by omega⟩
  · exact ⟨rfl, Nat.le_add_right _ _⟩
theorem rnextB (r : Rp) (v : Value) (w : World) (hrd : RD w v r) (first many : Int) (A : Option Addr) (c : Nat) (b : List UInt8) (hev : Even r.now) (hn : r.now.length ≤ 16384) (S : Nat → Prop) (hb : Rd S w (.slice A b.length c) b) (hw : r.waits.length ≤ 1000000000) (r' : Rp) (q : Int) (he : nextB r first many b = (r', q)) :
    Calls Try.prog 39 #[v, .int .i64 first, .int .i64 many, .slice A b.length c] w fun e y => ANS w r' q e y := by
  unfold nextB at he
  by_cases hq : sref r.now.length r.off first many = 0
  · rw [if_pos hq] at he
    obtain ⟨f, m, rfl, rfl⟩ := sref_nat hq
    simp only [Int.toNat_natCast] at he
    by_cases hl : 108 * m < b.length + 4
    · rw [if_pos hl] at he
      cases he
      exact QX.next_long r v w hrd f m A b.length c hn hq hl
    · rw [if_neg hl] at he
      have h := QX.next_any r v w hrd f m A c b hev hn hq S hb (by omega) hw
      rwa [he] at h
  · rw [if_neg hq] at he
    cases he
    exact QX.next_no r v w hrd first many _ _ hn rfl hq
theorem rbeginB (r : Rp) (v : Value) (w : World) (hrd : RD w v r) (first many : Int) (A : Option Addr) (c : Nat) (b : List UInt8) (hn : r.now.length ≤ 16384) (S : Nat → Prop) (hb : Rd S w (.slice A b.length c) b) (hw : r.waits.length ≤ 900000000) (r' : Rp) (q : Int) (he : beginB r first many b = (r', q)) :
    Calls Try.prog 41 #[v, .int .i64 first, .int .i64 many, .slice A b.length c] w fun e y => ANS w r' q e y := by
  unfold beginB at he
  by_cases hq : sref r.now.length r.off first many = 0
  · rw [if_pos hq] at he
    obtain ⟨f, m, rfl, rfl⟩ := sref_nat hq
    simp only [Int.toNat_natCast] at he
    by_cases hl : 108 * m < b.length + 4
    · rw [if_pos hl] at he
      cases he
      exact QY.begin_long r v w hrd f m A b.length c hn hq hl
    · rw [if_neg hl] at he
      have h := QY.begin_any r v w hrd f m A c b hn hq S hb (by omega) hw
      rwa [he] at h
  · rw [if_neg hq] at he
    cases he
    exact QY.begin_no r v w hrd first many _ _ hn rfl hq
theorem rlastB (r : Rp) (v : Value) (w : World) (hrd : RD w v r) (first many : Int) (hev : Even r.now) (hn : r.now.length ≤ 16384) (i s : Nat) (b : List UInt8) (q : Int) (he : lastB r first many = (i, s, b, q)) :
    Calls Try.prog 43 #[v, .int .i64 first, .int .i64 many] w fun e y => ∃ v, e = .returned (.tuple #[.int .i64 (i : Int), .int .u64 (s : Int), v, .int .i64 q]) ∧ Rd (fun _ => True) y v b ∧ Grew w y := by
  unfold lastB at he
  by_cases hq : sref r.now.length r.off first many = 0
  · rw [if_pos hq] at he
    obtain ⟨f, m, rfl, rfl⟩ := sref_nat hq
    simp only [Int.toNat_natCast] at he
    have h := QL.last_any r v w hrd f m hev hn hq
    rcases hp : pick r.now f m with _ | ⟨c, s2, b2⟩
    · rw [hp] at he h
      cases he
      refine h.mono ?_
      rintro e z ⟨rfl, hd⟩
      exact ⟨_, rfl, Rd.nil _ _, hd⟩
    · rw [hp] at he h
      cases he
      refine h.mono ?_
      rintro e z ⟨v, rfl, hr, hd⟩
      exact ⟨v, rfl, hr.mono fun _ _ => trivial, hd⟩
  · rw [if_neg hq] at he
    cases he
    refine (QL.last_bad r v w hrd first many _ hn rfl hq).mono ?_
    rintro e z ⟨rfl, hd⟩
    exact ⟨_, rfl, Rd.nil _ _, hd⟩
end Go.Proofs.Ytbnicphegbdfnaa.QZ
