/-
  For any number and any bools: DiskFuse answers true.
  Conditions: none beyond those that each lemma names.
-/
import Derived.Test.YtiajjkjdmcoodaaDAlive
namespace Go.Proofs.Ytiajjkjdmcoodaa.DFuse
set_option maxRecDepth 100000
open Go Go.RowKit Go.Proofs.Ytiajjkjdmcoodaa Go.Proofs.Ytiajjkjdmcoodaa.Facts Go.Proofs.Ytiajjkjdmcoodaa.Bytes Go.Proofs.Ytiajjkjdmcoodaa.DKeep Go.Proofs.Ytiajjkjdmcoodaa.DSmall Go.Proofs.Ytiajjkjdmcoodaa.DTurn Go.Proofs.Ytiajjkjdmcoodaa.DArm Go.Proofs.Ytiajjkjdmcoodaa.DRead Go.Proofs.Ytiajjkjdmcoodaa.DNew Go.Proofs.Ytiajjkjdmcoodaa.DBuild Go.Proofs.Ytiajjkjdmcoodaa.DWrite Go.Proofs.Ytiajjkjdmcoodaa.DOver Go.Proofs.Ytiajjkjdmcoodaa.DSettle Go.Proofs.Ytiajjkjdmcoodaa.DFlush Go.Proofs.Ytiajjkjdmcoodaa.DClone Go.Proofs.Ytiajjkjdmcoodaa.DAlive

/-- Bools as they lie. -/
def RB (w : World) (A : Option Addr) (c : Nat) (l : List Bool) : Prop := l.length ≤ c ∧ c ≤ 9223372036854775807 ∧ (A = none → c = 0) ∧ ∀ ad, A = some ad → ∀ j b, l[j]? = some b → w.cell? (ad.add j) = some (.bool b)
theorem RB.grew {w w' : World} {A : Option Addr} {c : Nat} {l : List Bool} (h : RB w A c l) (hg : Grew w w') : RB w' A c l :=
  ⟨h.1, h.2.1, h.2.2.1, fun ad ha j b hb => cellB hg (h.2.2.2 ad ha j b hb)⟩

structure St (n i : Nat) (d : Pd) (done : Nat) : Prop where
  sz : d.safe.length = 3
  wt : d.waits.length ≤ i
  ph : (i ≤ n ∧ d.off = false ∧ d.fuse = (n : Int) - i ∧ done = i) ∨ (n < i ∧ d.off = true ∧ done = n)
theorem St.refus0 {n i : Nat} {d : Pd} {done : Nat} (h : St n i d done) : refus d 0 = if d.off then 15 else 0 := by
  unfold refus
  cases d.off
  · rw [if_neg (by simp), if_neg (by have := h.sz; omega), if_neg (by simp)]
  · rfl
theorem St.bad3 {n i : Nat} {d : Pd} {done : Nat} (h : St n i d done) (l : Sec) : ∃ x, DWrite.written d 3 l = (d, x) ∧ ¬ x = 0 := by
  have hr : ¬ refus d 3 = 0 := by
    unfold refus
    cases d.off
    · rw [if_neg (by simp), if_pos (by have := h.sz; omega)]; omega
    · rw [if_pos rfl]; omega
  exact ⟨refus d 3, by unfold DWrite.written; rw [if_neg hr], hr⟩
theorem St.bad0 {n i : Nat} {d : Pd} {done : Nat} (h : St n i d done) : ∃ x, DWrite.written d 0 [] = (d, x) ∧ ¬ x = 0 := by
  unfold DWrite.written
  by_cases h0 : refus d 0 = 0
  · exact ⟨1, by rw [if_pos h0, if_neg (by simp)], by omega⟩
  · exact ⟨refus d 0, by rw [if_neg h0], h0⟩
def Goes (n i done : Nat) (d' : Pd) (q : Int) : Prop := ∃ done', St n (i + 1) d' done' ∧ ((q = 0 ∧ done' = done + 1) ∨ (q = 15 ∧ d'.off = true ∧ done' = done))
theorem St.blow {n i : Nat} {d : Pd} {done : Nat} (h : St n i d done) (e : Pd) (h1 : e.safe.length = 3) (h2 : e.waits.length ≤ i + 1) (h3 : e.fuse = d.fuse) (h4 : e.off = d.off) (hoff : d.off = false) :
    ((blown e).2 = 15 ∧ Goes n i done (blown e).1 15) ∨ ((blown e).2 = 0 ∧ ∀ f : Pd, f.safe.length = 3 → f.waits.length ≤ i + 1 → f.fuse = (blown e).1.fuse → f.off = (blown e).1.off → Goes n i done f 0) := by
  rcases h.ph with ⟨p1, p2, p3, p4⟩ | ⟨p1, p2, p3⟩
  · unfold blown
    rw [if_neg (by rw [h3, p3]; omega)]
    by_cases hz : e.fuse = 0
    · rw [if_pos hz]
      refine .inl ⟨rfl, n, ⟨h1, h2, .inr ⟨by omega, rfl, rfl⟩⟩, .inr ⟨rfl, rfl, by omega⟩⟩
    · rw [if_neg hz]
      refine .inr ⟨rfl, fun f f1 f2 f3 f4 => ⟨i + 1, ⟨f1, f2, .inl ⟨by omega, by rw [f4]; show e.off = false; rw [h4, hoff], by rw [f3]; show e.fuse - 1 = _; rw [h3, p3]; omega, rfl⟩⟩, .inl ⟨rfl, by omega⟩⟩⟩
  · rw [hoff] at p2; cases p2
theorem St.stay {n i : Nat} {d : Pd} {done : Nat} (h : St n i d done) (hoff : d.off = true) : Goes n i done d 15 := by
  rcases h.ph with ⟨p1, p2, _⟩ | ⟨p1, p2, p3⟩
  · rw [hoff] at p2; cases p2
  · exact ⟨done, ⟨h.sz, by have := h.wt; omega, .inr ⟨by omega, p2, p3⟩⟩, .inr ⟨rfl, p2, rfl⟩⟩
theorem St.flush {n i : Nat} {d : Pd} {done : Nat} (h : St n i d done) : ∃ d' q, flushed d = (d', q) ∧ Goes n i done d' q := by
  unfold flushed
  cases hoff : d.off with
  | true => exact ⟨d, 15, rfl, h.stay hoff⟩
  | false =>
    rw [if_neg (by simp)]
    rcases h.blow d h.sz (by have := h.wt; omega) rfl rfl hoff with ⟨h1, h2⟩ | ⟨h1, h2⟩
    · rw [if_neg (by omega)]
      exact ⟨(blown d).1, 15, Prod.ext rfl h1, h2⟩
    · rw [if_pos h1]
      refine ⟨_, _, rfl, h2 _ ?_ (Nat.zero_le _) rfl rfl⟩
      show (settled _ (blown d).1.safe _ _).length = 3
      rw [settled_length]
      have : (blown d).1.safe = d.safe := by unfold blown; split <;> (try split) <;> rfl
      rw [this]
      exact h.sz
theorem St.write {n i : Nat} {d : Pd} {done : Nat} (h : St n i d done) (b : UInt8) : ∃ d' q, DWrite.written d 0 (filled b) = (d', q) ∧ Goes n i done d' q := by
  unfold DWrite.written
  rw [h.refus0]
  cases hoff : d.off with
  | true => exact ⟨d, 15, by simp, h.stay hoff⟩
  | false =>
    simp only [Bool.false_eq_true, if_false]
    rw [if_pos trivial, if_pos (filled_length b)]
    have hn : (noted d (0 : Int).toNat (filled b)).waits.length ≤ i + 1 := by
      show (d.waits ++ [_]).length ≤ i + 1
      rw [List.length_append, List.length_singleton]
      have := h.wt
      omega
    rcases h.blow (noted d (0 : Int).toNat (filled b)) h.sz hn rfl rfl hoff with ⟨h1, h2⟩ | ⟨h1, h2⟩
    · exact ⟨(blown (noted d (0 : Int).toNat (filled b))).1, 15, Prod.ext rfl h1, h2⟩
    · refine ⟨(blown (noted d (0 : Int).toNat (filled b))).1, 0, Prod.ext rfl h1, h2 _ ?_ ?_ rfl rfl⟩
      · have : (blown (noted d (0 : Int).toNat (filled b))).1.safe = d.safe := by unfold blown; split <;> (try split) <;> rfl
        rw [this]
        exact h.sz
      · rw [blown_waits]
        exact hn
theorem St.start (n : Nat) : St n 0 (DTurn.fused (DNew.fresh 3) (n : Int)) 0 :=
  ⟨by show (DNew.blank 3).length = 3; rw [DNew.blank_length], Nat.le_refl _, .inl ⟨Nat.zero_le _, rfl, by show max (n : Int) (-1) = _; omega, rfl⟩⟩
theorem St.last {n : Nat} {d : Pd} {done : Nat} (h : St n (n + 3) d done) : done = n ∧ flushed d = (d, 15) ∧ (crashed d []).off = false ∧ (crashed d []).waits.length = 0 ∧ DWrite.written (crashed d []) 0 (filled 1) = (noted (crashed d []) 0 (filled 1), 0) ∧ (flushed (noted (crashed d []) 0 (filled 1))).2 = 0 := by
  rcases h.ph with ⟨p1, _⟩ | ⟨p1, p2, p3⟩
  · omega
  · have hs : (crashed d []).safe.length = 3 := by
      show (settled _ _ _ _).length = 3
      rw [settled_length]
      exact h.sz
    have hr : refus (crashed d []) 0 = 0 := by
      unfold refus
      rw [show (crashed d []).off = false from rfl, if_neg (by simp), if_neg (by omega)]
    refine ⟨p3, by unfold flushed; rw [p2]; rfl, rfl, rfl, ?_, ?_⟩
    · unfold DWrite.written
      rw [if_pos hr, if_pos (filled_length 1)]
      rfl
    · rfl

set_option maxHeartbeats 8000000 in
theorem law_any (n : Nat) (A : Option Addr) (c : Nat) (l : List Bool) (w : World) (hn : n ≤ 255) (hr : RB w A c l) :
    Calls Try.prog 6 #[.int .u8 (n : Int), .slice A l.length c] w fun e w' => e = .returned (.bool true) ∧ Grew w w' := by
  have HRB := Lib.hid hr
  have hc1 := hr.1
  have hc2 := hr.2.1
  clear hr
  go_enter Try.func6, Try.ntmps6
  go_wp2_with fail
  refine (new_eq 3 3 rfl w (by omega) (by omega)).mono ?_
  rintro e w1 ⟨g, rfl, hd, hg⟩
  have hfz := fuse_any w1 g _ (DNew.fresh 3) n (by omega) hd
  have HA : Hid (Above (fun k => w.heap.size ≤ k ∧ k < w1.heap.size) w.heap.size) := Lib.hid fun k hk => hk.1
  have HG := Lib.hid hg
  generalize hDD : (fun k => w.heap.size ≤ k ∧ k < w1.heap.size) = D at *
  clear hDD hd hg
  unfold dptr at hfz
  go_wp2_with fail
  refine hfz.mono ?_
  rintro e w2 ⟨rfl, hd2, hk2⟩
  have HD2 := Lib.hid hd2
  have HG2 := Lib.hid (grew_kept HG.out hk2 HA.out)
  clear hfz hd2 hk2 HG
  go_wp2
  go_loopg [7, 8] (n + 3) (fun q s7 s8 wx => ∃ (i done : Nat) (d : Pd) (D : Nat → Prop), i + q = n + 3 ∧ s8 = .int .i64 i ∧ s7 = .int .i64 done ∧ Hid (St n i d done) ∧ Hid (DK wx g D d) ∧ Hid (Grew w wx) ∧ Hid (Above D w.heap.size))
  case atStart => exact ⟨0, 0, _, D, by omega, rfl, rfl, Lib.hid (St.start n), HD2, HG2, HA⟩
  case round =>
    obtain ⟨i, done, d, D, hiq, rfl, rfl, HS, HD, HG, HA⟩ := hrel
    have HW : Hid (d.waits.length ≤ 1073741823) := Lib.hid (by have := HS.out.wt; omega)
    clear HD2 HG2
    have hdn : done ≤ 258 := by
      rcases HS.out.ph with ⟨p1, _, _, p4⟩ | ⟨_, _, p3⟩ <;> omega
    cases gk with
    | succ q =>
      have hil : (i : Int) < (n : Int) + 3 := by omega
      go_wp2_with fail
      refine (fill_eq 1 1 rfl wr).mono ?_
      rintro e x1 ⟨y1, rfl, r1, g1⟩
      have HD1 := Lib.hid (HD.out.grew g1)
      have HG1 := Lib.hid (HG.out.trans g1)
      have HR1 := Lib.hid r1
      clear r1 g1
      obtain ⟨q1, hq1, hn1⟩ := HS.out.bad3 (filled 1)
      go_wp2_with fail
      refine (write_eq x1 g D d 3 y1 _ _ d q1 HD1.out HR1.out HW.out hq1).mono ?_
      rintro e x2 ⟨rfl, D2, hd2, hs2, hk2⟩
      have HD2 := Lib.hid hd2
      have HG2 := Lib.hid (grew_kept HG1.out hk2 HA.out)
      have HA2 := Lib.hid (above_sub HA.out hs2 HG1.out.size)
      clear hd2 hs2 hk2 HD1 HR1 HG1 hq1
      obtain ⟨q2, hq2, hn2⟩ := HS.out.bad0
      have hb1 : (q1 == 0) = false := by simpa using hn1
      have hb2 : (q2 == 0) = false := by simpa using hn2
      go_wp2_with fail
      refine (write_eq x2 g D2 d 0 _ (fun _ => True) [] d q2 HD2.out (Rd.nil _ _) HW.out hq2).mono ?_
      rintro e x3 ⟨rfl, D3, hd3, hs3, hk3⟩
      have HD3 := Lib.hid hd3
      have HG3 := Lib.hid (grew_kept HG2.out hk3 HA2.out)
      have HA3 := Lib.hid (above_sub HA2.out hs3 HG2.out.size)
      clear hd3 hs3 hk3 HD2 HG2 HA2 hq2
      by_cases hf : (i : Int) < (l.length : Int)
      · have hil2 : i < l.length := by omega
        obtain ⟨bb, hbb⟩ : ∃ bb, l[i]? = some bb := ⟨_, List.getElem?_eq_getElem hil2⟩
        obtain ⟨ad, rfl⟩ : ∃ ad, A = some ad := by
          cases A with
          | none => have := HRB.out.2.2.1 rfl; omega
          | some ad => exact ⟨ad, rfl⟩
        have hcell := (HRB.out.grew HG3.out).2.2.2 ad rfl i bb hbb
        cases bb with
        | true =>
          obtain ⟨d', q', hq', hgo⟩ := HS.out.flush
          go_wp2_with fail
          refine (flush_eq x3 g D3 d d' q' HD3.out (Nat.le_trans HW.out (by omega)) hq').mono ?_
          rintro e x4 ⟨rfl, hd4, hk4⟩
          have HDD := Lib.hid hd4
          have HGG := Lib.hid (grew_kept HG3.out hk4 HA3.out)
          have HAA := HA3
          clear hd4 hk4 hq'
          obtain ⟨done', hst2, hqq⟩ := hgo
          have HST2 := Lib.hid hst2
          clear hst2
          rcases hqq with ⟨rfl, rfl⟩ | ⟨rfl, hoff, rfl⟩
          · clear HD3 HG3 HA3
            go_wp2
            go_roundg q
            case measure => omega
            case rel => exact ⟨i + 1, _, d', D3, by omega, by first | rfl | simp, by first | rfl | simp | (simp; omega), HST2, HDD, HGG, HAA⟩
          · have hof := off_any _ g D3 d' HDD.out
            rw [hoff] at hof
            unfold dptr at hof
            clear HD3 HG3 HA3
            go_wp2_with fail
            refine hof.mono ?_
            rintro e w' ⟨rfl, rfl⟩
            go_wp2
            go_roundg q
            case measure => omega
            case rel => exact ⟨i + 1, _, d', D3, by omega, by first | rfl | simp, by first | rfl | simp | (simp; omega), HST2, HDD, HGG, HAA⟩
        | false =>
          go_wp2_with fail
          refine (fill_eq (UInt8.ofNat i) _ (by rw [UInt8.toNat_ofNat']; first | (simp [IntKind.wrap_u8]; omega) | simp [IntKind.wrap_u8]) x3).mono ?_
          rintro e x4 ⟨y4, rfl, r4, g4⟩
          have HD4 := Lib.hid (HD3.out.grew g4)
          have HG4 := Lib.hid (HG3.out.trans g4)
          have HR4 := Lib.hid r4
          clear r4 g4
          obtain ⟨d', q', hq', hgo⟩ := HS.out.write (UInt8.ofNat i)
          go_wp2_with fail
          refine (write_eq x4 g D3 d 0 y4 _ _ d' q' HD4.out HR4.out HW.out hq').mono ?_
          rintro e x5 ⟨rfl, D5, hd5, hs5, hk5⟩
          have HDD := Lib.hid hd5
          have HGG := Lib.hid (grew_kept HG4.out hk5 HA3.out)
          have HAA := Lib.hid (above_sub HA3.out hs5 HG4.out.size)
          clear hd5 hs5 hk5 hq' HD4 HG4 HR4
          obtain ⟨done', hst2, hqq⟩ := hgo
          have HST2 := Lib.hid hst2
          clear hst2
          rcases hqq with ⟨rfl, rfl⟩ | ⟨rfl, hoff, rfl⟩
          · clear HD3 HG3 HA3
            go_wp2
            go_roundg q
            case measure => omega
            case rel => exact ⟨i + 1, _, d', D5, by omega, by first | rfl | simp, by first | rfl | simp | (simp; omega), HST2, HDD, HGG, HAA⟩
          · have hof := off_any _ g D5 d' HDD.out
            rw [hoff] at hof
            unfold dptr at hof
            clear HD3 HG3 HA3
            go_wp2_with fail
            refine hof.mono ?_
            rintro e w' ⟨rfl, rfl⟩
            go_wp2
            go_roundg q
            case measure => omega
            case rel => exact ⟨i + 1, _, d', D5, by omega, by first | rfl | simp, by first | rfl | simp | (simp; omega), HST2, HDD, HGG, HAA⟩
      · go_wp2_with fail
        refine (fill_eq (UInt8.ofNat i) _ (by rw [UInt8.toNat_ofNat']; first | (simp [IntKind.wrap_u8]; omega) | simp [IntKind.wrap_u8]) x3).mono ?_
        rintro e x4 ⟨y4, rfl, r4, g4⟩
        have HD4 := Lib.hid (HD3.out.grew g4)
        have HG4 := Lib.hid (HG3.out.trans g4)
        have HR4 := Lib.hid r4
        clear r4 g4
        obtain ⟨d', q', hq', hgo⟩ := HS.out.write (UInt8.ofNat i)
        go_wp2_with fail
        refine (write_eq x4 g D3 d 0 y4 _ _ d' q' HD4.out HR4.out HW.out hq').mono ?_
        rintro e x5 ⟨rfl, D5, hd5, hs5, hk5⟩
        have HDD := Lib.hid hd5
        have HGG := Lib.hid (grew_kept HG4.out hk5 HA3.out)
        have HAA := Lib.hid (above_sub HA3.out hs5 HG4.out.size)
        clear hd5 hs5 hk5 hq' HD4 HG4 HR4
        obtain ⟨done', hst2, hqq⟩ := hgo
        have HST2 := Lib.hid hst2
        clear hst2
        rcases hqq with ⟨rfl, rfl⟩ | ⟨rfl, hoff, rfl⟩
        · clear HD3 HG3 HA3
          go_wp2
          go_roundg q
          case measure => omega
          case rel => exact ⟨i + 1, _, d', D5, by omega, by first | rfl | simp, by first | rfl | simp | (simp; omega), HST2, HDD, HGG, HAA⟩
        · have hof := off_any _ g D5 d' HDD.out
          rw [hoff] at hof
          unfold dptr at hof
          clear HD3 HG3 HA3
          go_wp2_with fail
          refine hof.mono ?_
          rintro e w' ⟨rfl, rfl⟩
          go_wp2
          go_roundg q
          case measure => omega
          case rel => exact ⟨i + 1, _, d', D5, by omega, by first | rfl | simp, by first | rfl | simp | (simp; omega), HST2, HDD, HGG, HAA⟩
    | zero =>
      have hil : ¬ ((i : Int) < (n : Int) + 3) := by omega
      obtain rfl : i = n + 3 := by omega
      obtain ⟨rfl, l2, l3, l4, l5, l6⟩ := HS.out.last
      go_wp2_with fail
      refine (flush_eq wr g D d d 15 HD.out (Nat.le_trans HW.out (by omega)) l2).mono ?_
      rintro e x1 ⟨rfl, hd1, hk1⟩
      have HD1 := Lib.hid hd1
      have HG1 := Lib.hid (grew_kept HG.out hk1 HA.out)
      clear hd1 hk1 HD HG
      go_wp2_with fail
      refine (alive_any x1).mono ?_
      rintro e x2 ⟨rfl, g2⟩
      have HD2 := Lib.hid (HD1.out.grew g2)
      have HG2 := Lib.hid (HG1.out.trans g2)
      clear g2 HD1 HG1
      have hcr := crash_any x2 g D d (fun _ => False) (.slice none 0 0) [] HD2.out (Rd.nil _ _) (fun _ h => h.elim) (Nat.le_trans HW.out (by omega))
      unfold dptr at hcr
      go_wp2_with fail
      refine hcr.mono ?_
      rintro e x3 ⟨rfl, hd3, hk3⟩
      have HD3 := Lib.hid hd3
      have HG3 := Lib.hid (grew_kept HG2.out hk3 HA.out)
      clear hcr hd3 hk3 HD2 HG2
      have hof := off_any x3 g D _ HD3.out
      rw [l3] at hof
      have hwt := waits_any x3 g D _ HD3.out
      rw [l4] at hwt
      unfold dptr at hof hwt
      go_wp2_with fail
      refine hof.mono ?_
      rintro e w' ⟨rfl, rfl⟩
      go_wp2_with fail
      refine hwt.mono ?_
      rintro e w' ⟨rfl, rfl⟩
      clear hof hwt
      go_wp2_with fail
      refine (fill_eq 1 1 rfl x3).mono ?_
      rintro e x4 ⟨y4, rfl, r4, g4⟩
      have HD4 := Lib.hid (HD3.out.grew g4)
      have HG4 := Lib.hid (HG3.out.trans g4)
      have HR4 := Lib.hid r4
      clear r4 g4 HD3 HG3
      go_wp2_with fail
      refine (write_eq x4 g D _ 0 y4 _ _ _ 0 HD4.out HR4.out (by rw [l4]; omega) l5).mono ?_
      rintro e x5 ⟨rfl, D5, hd5, hs5, hk5⟩
      have HD5 := Lib.hid hd5
      have HG5 := Lib.hid (grew_kept HG4.out hk5 HA.out)
      have HA5 := Lib.hid (above_sub HA.out hs5 HG4.out.size)
      clear hd5 hs5 hk5 HD4 HG4 HR4
      go_wp2_with fail
      refine (flush_eq x5 g D5 _ _ 0 HD5.out (by show ((crashed d []).waits ++ [_]).length ≤ _; rw [List.length_append, l4]; decide) (Prod.ext rfl l6)).mono ?_
      rintro e x6 ⟨rfl, hd6, hk6⟩
      have HG6 := Lib.hid (grew_kept HG5.out hk6 HA5.out)
      clear hd6 hk6 HD5 HG5
      go_wp2
      go_returns
      exact ⟨rfl, HG6.out⟩
end Go.Proofs.Ytiajjkjdmcoodaa.DFuse
