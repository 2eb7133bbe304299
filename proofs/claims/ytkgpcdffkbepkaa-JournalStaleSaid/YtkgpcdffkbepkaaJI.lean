/-
  JournalStale: any records and any number.
  Conditions: none beyond what is read of the arguments.
-/
import Derived.Test.YtkgpcdffkbepkaaJG
import Derived.Test.YtkgpcdffkbepkaaJH
namespace Go.Proofs.Ytkgpcdffkbepkaa.JI
set_option maxRecDepth 100000
open Go Go.RowKit Go.Proofs.Ytkgpcdffkbepkaa Go.Proofs.Ytkgpcdffkbepkaa.Facts Go.Proofs.Ytkgpcdffkbepkaa.Bytes Go.Proofs.Ytkgpcdffkbepkaa.DKeep Go.Proofs.Ytkgpcdffkbepkaa.DSmall Go.Proofs.Ytkgpcdffkbepkaa.Puts Go.Proofs.Ytkgpcdffkbepkaa.Scan Go.Proofs.Ytkgpcdffkbepkaa.SPure Go.Proofs.Ytkgpcdffkbepkaa.JA Go.Proofs.Ytkgpcdffkbepkaa.JB Go.Proofs.Ytkgpcdffkbepkaa.JC Go.Proofs.Ytkgpcdffkbepkaa.JD Go.Proofs.Ytkgpcdffkbepkaa.JE Go.Proofs.Ytkgpcdffkbepkaa.JF Go.Proofs.Ytkgpcdffkbepkaa.JG Go.Proofs.Ytkgpcdffkbepkaa.JH

/-- Rows of bytes that came in. -/
def LB (w : World) (A : Option Addr) (c : Nat) (L : List (List UInt8)) : Prop := L.length ≤ c ∧ c ≤ 9223372036854775807 ∧ (A = none → c = 0) ∧ ∀ ad, A = some ad → ∀ (i : Nat) (x : List UInt8), L[i]? = some x → ∃ vB, w.cell? (ad.add i) = some vB ∧ Rd (fun b => b < w.heap.size) w vB x
theorem refus12 (L : List Sec) (base : Nat) (hl : L.length = 12) (h1 : 1 ≤ base) (h2 : base + 10 ≤ 4611686018427387904) : jrefus (calm L) ((2 : Nat) : Int) ((5 : Nat) : Int) ((2 : Nat) : Int) base = 0 := by
  unfold jrefus calm
  simp only [hl]
  rw [if_neg (by decide), if_neg (by decide), if_neg (by omega)]
  rfl
theorem calm_fresh : DNew.fresh 12 = calm (DNew.blank 12) := rfl
/-- The state behind some records. -/
def ST (w : World) (g gj : Nat) (bs : List (List UInt8)) (y : World) : Prop := ∃ D L, DK y g D (calm L) ∧ JL y gj g ⟨2, 5, 2, bs.length, 3⟩ ∧ JGd 3 L bs ∧ DAlive.Above D w.heap.size ∧ (∀ k, D k → k < y.heap.size) ∧ ¬ D gj ∧ Grew w y
theorem ST.grew {w y z : World} {g gj : Nat} {bs : List (List UInt8)} (h : ST w g gj bs y) (hg : Grew y z) : ST w g gj bs z := by
  obtain ⟨D, L, h1, h2, h3, h4, h5, h6, h7⟩ := h
  exact ⟨D, L, h1.grew hg, h2.grew hg, h3, h4, fun k hk => Nat.lt_of_lt_of_le (h5 k hk) hg.size, h6, h7.trans hg⟩
theorem ST.g {w y : World} {g gj : Nat} {bs : List (List UInt8)} (h : ST w g gj bs y) : Grew w y := by
  obtain ⟨_, _, _, _, _, _, _, _, h⟩ := h
  exact h
theorem jk3 (m : Nat) (h : m ≤ 5) : JK ⟨2, 5, 2, m, 3⟩ := ⟨by show 1 ≤ 5; omega, by show 5 ≤ 16; omega, by show 1 ≤ 2; omega, by show 2 ≤ 16384; omega, by show 2 ≤ 16384; omega, h, by show 3 + 5 * 2 ≤ 4611686018427387904; omega⟩
/-- Which record is taken. -/
def took (b : List UInt8) (bs : List (List UInt8)) : List (List UInt8) := if b.length ≤ 212 then bs ++ [b] else bs
theorem app_st (w y : World) (g gj : Nat) (bs : List (List UInt8)) (S : Nat → Prop) (v : Value) (b : List UInt8) (h : ST w g gj bs y) (hgj : w.heap.size ≤ gj) (hm : bs.length < 5) (hr : Rd S y v b) :
    Calls Try.prog 23 #[.pointer (some ⟨gj, 0, none⟩), v] y fun e z => e = .returned (.int .i64 (if b.length ≤ 212 then 0 else 13)) ∧ ST w g gj (took b bs) z := by
  obtain ⟨D, L, h1, h2, h3, h4, h5, h6, h7⟩ := h
  have hc := japp_any y gj g ⟨2, 5, 2, bs.length, 3⟩ D (calm L) S v b h2 (jk3 _ (by omega)) (by show 1 ≤ 3; omega) h1 h6 hr (by show (0 : Nat) ≤ _; omega)
  have hlt : gj < y.heap.size := (Array.getElem?_eq_some_iff.1 h2).1
  by_cases hb : b.length ≤ 212
  · rw [japp_calm 3 bs.length L b h3.len h3.ev hb hm] at hc
    unfold took
    rw [if_pos hb, if_pos hb]
    refine hc.mono ?_
    rintro e z ⟨rfl, D', hd, hs, hj, hk⟩
    refine ⟨rfl, D', _, hd, ?_, h3.put b hb hm, DAlive.above_sub h4 hs h7.size, hd.1, fun hx => ?_, DAlive.grew_kept h7 hk fun k hk => by rcases hk with hk | rfl; exact h4 k hk; exact hgj⟩
    · rw [List.length_append]; exact hj
    · rcases hs gj hx with h | h
      · exact h6 h
      · omega
  · rw [japp_long _ _ b rfl (by omega)] at hc
    unfold took
    rw [if_neg hb, if_neg hb]
    refine hc.mono ?_
    rintro e z ⟨rfl, D', hd, hs, hj, hk⟩
    refine ⟨rfl, D', L, hd, hj, h3, DAlive.above_sub h4 hs h7.size, hd.1, fun hx => ?_, DAlive.grew_kept h7 hk fun k hk => by rcases hk with hk | rfl; exact h4 k hk; exact hgj⟩
    rcases hs gj hx with h | h
    · exact h6 h
    · omega
theorem scan_st (w y : World) (g gj : Nat) (bs : List (List UInt8)) (h : ST w g gj bs y) :
    Calls Try.prog 21 #[.pointer (some ⟨g, 0, none⟩), .int .i64 2, .int .i64 5, .int .i64 2, .int .u64 3] y fun e z => ∃ v, e = .returned (.tuple #[v, .int .i64 0]) ∧ BS y.heap.size z v bs ∧ Grew y z := by
  obtain ⟨D, L, h1, h2, h3, h4, h5, h6, h7⟩ := h
  have hc := jscan_any y g D (calm L) 2 5 2 3 h1 (refus12 L 3 h3.len (by omega) (by omega))
  have hp := h3.scan 5 0 rfl (Nat.zero_le _)
  rw [Nat.zero_mul, List.take_zero] at hp
  rw [show (calm L).last = L from rfl, hp] at hc
  exact hc
theorem scan_old (w y : World) (g gj : Nat) (bs : List (List UInt8)) (base : Nat) (x : Int) (hx : x = (base : Int)) (h : ST w g gj bs y) (h1 : 3 < base) (h2 : base + 10 ≤ 4611686018427387904) :
    Calls Try.prog 21 #[.pointer (some ⟨g, 0, none⟩), .int .i64 2, .int .i64 5, .int .i64 2, .int .u64 x] y fun e z => ∃ v, e = .returned (.tuple #[v, .int .i64 0]) ∧ BS y.heap.size z v [] ∧ Grew y z := by
  subst hx
  obtain ⟨D, L, q1, _, q3, _⟩ := h
  have hc := jscan_any y g D (calm L) 2 5 2 base q1 (refus12 L base q3.len (by omega) h2)
  rw [show (calm L).last = L from rfl, q3.stale base h1] at hc
  exact hc
theorem next_st (w y : World) (g gj : Nat) (bs : List (List UInt8)) (h : ST w g gj bs y) : Calls Try.prog 31 #[.pointer (some ⟨gj, 0, none⟩)] y fun e z => e = .returned (.int .u64 13) ∧ Grew y z := by
  obtain ⟨D, L, _, h2, h3, _⟩ := h
  exact jnext_any y gj g ⟨2, 5, 2, bs.length, 3⟩ h2 (jk3 _ h3.few)
set_option maxHeartbeats 4000000 in
theorem law_any (w : World) (A : Option Addr) (cap : Nat) (l : List (List UInt8)) (more : Nat) (hL : LB w A cap l) (hm : more ≤ 65535) :
    Calls Try.prog 7 #[.slice A l.length cap, .int .u16 (more : Int)] w fun e w' => e = .returned (.bool true) ∧ Grew w w' := by
  have HL := Lib.hid hL
  have hcap := hL.2.1
  have hlc := hL.1
  have HM := Lib.hid hm
  clear hL hm
  go_enter Try.func7, Try.ntmps7
  go_wp2_with fail
  refine (DAlive.new_eq 12 12 rfl w (by omega) (by omega)).mono ?_
  rintro e w1 ⟨g, rfl, hd, hg⟩
  have HD := Lib.hid hd
  have HG := Lib.hid hg
  have HA : Hid (DAlive.Above (fun k => w.heap.size ≤ k ∧ k < w1.heap.size) w.heap.size) := Lib.hid fun k hk => hk.1
  have HDL : Hid (∀ k, (fun k => w.heap.size ≤ k ∧ k < w1.heap.size) k → k < w1.heap.size) := Lib.hid fun k hk => hk.2
  clear hd hg
  generalize hDD : (fun k => w.heap.size ≤ k ∧ k < w1.heap.size) = D at *
  clear hDD
  go_wp2_with fail
  refine (jnew_any w1 g D (calm (DNew.blank 12)) 2 5 2 3 HD.out (by omega) (by omega) (refus12 _ 3 (DNew.blank_length 12) (by omega) (by omega))).mono ?_
  rintro e w2 ⟨gj, rfl, hj, hgj, hg⟩
  have HGJ : Hid (w.heap.size ≤ gj) := Lib.hid (Nat.le_trans HG.out.size hgj)
  have HST : Hid (ST w g gj [] w2) := Lib.hid ⟨D, _, HD.out.grew hg, hj, JGd.fresh, HA.out, fun k hk => Nat.lt_of_lt_of_le (HDL.out k hk) hg.size, fun h => by have := HDL.out _ h; omega, HG.out.trans hg⟩
  clear hj hgj hg HD HG HDL HA
  go_wp2
  go_loopg [9, 10] 5 (fun q s9 s10 wx => ∃ (i : Nat) (bs : List (List UInt8)), i + q = 5 ∧ s9 = .int .i64 (bs.length : Int) ∧ s10 = .int .i64 (i : Int) ∧ Hid (bs.length ≤ i) ∧ Hid (ST w g gj bs wx))
  case atStart => exact ⟨0, [], rfl, by first | rfl | simp, by first | rfl | simp, Lib.hid (Nat.le_refl _), HST⟩
  case round =>
    obtain ⟨i, bs, hiq, rfl, rfl, HBI, HSX⟩ := hrel
    clear HST
    by_cases hin : i < l.length
    · have hin' : (i : Int) < (l.length : Int) := by omega
      cases gk with
      | zero =>
        have h5 : ¬ ((i : Int) < 5) := by omega
        clear hin
        go_wp2_with fail
        refine (next_st w _ g gj bs HSX.out).mono ?_
        rintro e w3 ⟨rfl, hg3⟩
        have HS3 := Lib.hid (HSX.out.grew hg3)
        have hcv : IntKind.u64.wrap (more : Int) = (more : Int) := by rw [IntKind.wrap_u64]; have := HM.out; omega
        have had : IntKind.u64.wrap (13 + (more : Int)) = 13 + (more : Int) := by rw [IntKind.wrap_u64]; have := HM.out; omega
        clear hg3 HSX
        go_wp2_with fail
        refine (scan_old w _ g gj bs (13 + more) _ (by omega) HS3.out (by omega) (by have := HM.out; omega)).mono ?_
        rintro e w4 ⟨v4, rfl, ⟨ws4, ho4, _⟩, hg4⟩
        obtain ⟨A4, c4, rfl⟩ := own_sl ho4
        have HS4 := Lib.hid (HS3.out.grew hg4)
        clear ho4 hg4 HS3 hcv had
        go_wp2_with fail
        refine (scan_st w _ g gj bs HS4.out).mono ?_
        rintro e w5 ⟨v5, rfl, ⟨ws5, ho5, _⟩, hg5⟩
        obtain ⟨A5, c5, rfl⟩ := own_sl ho5
        have HG5 := Lib.hid (HS4.out.g.trans hg5)
        clear ho5 hg5 HS4
        go_wp2_with fail
        refine (alive_any _).mono ?_
        rintro e w6 ⟨rfl, hg6⟩
        have HG6 := Lib.hid (HG5.out.trans hg6)
        clear hg6 HG5
        go_wp2
        go_returns
        exact ⟨rfl, HG6.out⟩
      | succ q =>
        have h5 : (i : Int) < 5 := by omega
        obtain ⟨x, hx⟩ : ∃ x, l[i]? = some x := ⟨_, List.getElem?_eq_getElem hin⟩
        cases A with
        | none => have := HL.out.2.2.1 rfl; omega
        | some ad =>
          obtain ⟨vB, hc0, hr0⟩ := HL.out.2.2.2 ad rfl i x hx
          obtain ⟨A6, c6, rfl, _⟩ := id hr0
          have hc1 : wr.cell? (ad.add i) = some (.slice A6 x.length c6) := DWrite.cellB HSX.out.g hc0
          have HR := Lib.hid (hr0.grew HSX.out.g)
          have hw9 : IntKind.i64.wrap ((bs.length : Int) + 1) = (bs.length : Int) + 1 := IntWalk.i64_in _ (by have := HBI.out; omega)
          have hwi : IntKind.i64.wrap ((i : Int) + 1) = (i : Int) + 1 := IntWalk.i64_in _ (by omega)
          have HLT : Hid (bs.length < 5) := Lib.hid (by have := HBI.out; omega)
          clear hc0 hr0 hx hin
          by_cases hb : x.length ≤ 212
          · have hap := app_st w wr g gj bs _ (.slice A6 x.length c6) x HSX.out HGJ.out HLT.out HR.out
            unfold took at hap
            rw [if_pos hb, if_pos hb] at hap
            have HAP := Lib.hid hap
            clear hap hb HR
            go_wp2_with fail
            refine HAP.out.mono ?_
            rintro e w3 ⟨rfl, hst⟩
            have HS3 := Lib.hid hst
            clear hst HAP
            go_wp2
            go_roundg q
            case measure => omega
            case rel => exact ⟨i + 1, bs ++ [x], by omega, by first | rfl | (rw [List.length_append]; rfl) | simp, by first | rfl | simp, Lib.hid (by have := HBI.out; simp; omega), HS3⟩
          · have hap := app_st w wr g gj bs _ (.slice A6 x.length c6) x HSX.out HGJ.out HLT.out HR.out
            unfold took at hap
            rw [if_neg hb, if_neg hb] at hap
            have HAP := Lib.hid hap
            clear hap hb HR
            go_wp2_with fail
            refine HAP.out.mono ?_
            rintro e w3 ⟨rfl, hst⟩
            have HS3 := Lib.hid hst
            clear hst HAP
            go_wp2
            go_roundg q
            case measure => omega
            case rel => exact ⟨i + 1, bs, by omega, rfl, by first | rfl | simp, Lib.hid (by have := HBI.out; omega), HS3⟩
    · have hin' : ¬ ((i : Int) < (l.length : Int)) := by omega
      clear hin
      go_wp2_with fail
      refine (next_st w _ g gj bs HSX.out).mono ?_
      rintro e w3 ⟨rfl, hg3⟩
      have HS3 := Lib.hid (HSX.out.grew hg3)
      have hcv : IntKind.u64.wrap (more : Int) = (more : Int) := by rw [IntKind.wrap_u64]; have := HM.out; omega
      have had : IntKind.u64.wrap (13 + (more : Int)) = 13 + (more : Int) := by rw [IntKind.wrap_u64]; have := HM.out; omega
      clear hg3 HSX
      go_wp2_with fail
      refine (scan_old w _ g gj bs (13 + more) _ (by omega) HS3.out (by omega) (by have := HM.out; omega)).mono ?_
      rintro e w4 ⟨v4, rfl, ⟨ws4, ho4, _⟩, hg4⟩
      obtain ⟨A4, c4, rfl⟩ := own_sl ho4
      have HS4 := Lib.hid (HS3.out.grew hg4)
      clear ho4 hg4 HS3 hcv had
      go_wp2_with fail
      refine (scan_st w _ g gj bs HS4.out).mono ?_
      rintro e w5 ⟨v5, rfl, ⟨ws5, ho5, _⟩, hg5⟩
      obtain ⟨A5, c5, rfl⟩ := own_sl ho5
      have HG5 := Lib.hid (HS4.out.g.trans hg5)
      clear ho5 hg5 HS4
      go_wp2_with fail
      refine (alive_any _).mono ?_
      rintro e w6 ⟨rfl, hg6⟩
      have HG6 := Lib.hid (HG5.out.trans hg6)
      clear hg6 HG5
      go_wp2
      go_returns
      exact ⟨rfl, HG6.out⟩
end Go.Proofs.Ytkgpcdffkbepkaa.JI
