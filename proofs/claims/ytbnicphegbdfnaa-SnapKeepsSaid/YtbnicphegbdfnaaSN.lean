/-
  The program's snapshots: what is refused, which one counts, an area that is filled and flushed, the next one.
  Conditions: those that each lemma names.
-/
import Derived.Test.YtbnicphegbdfnaaDS
import Derived.Test.YtbnicphegbdfnaaSP
import Derived.Deep.DeepCutAuto
namespace Go.Proofs.Ytbnicphegbdfnaa.SN
set_option maxRecDepth 100000
open Go Go.RowKit Go.Proofs.Ytbnicphegbdfnaa Go.Proofs.Ytbnicphegbdfnaa.Facts Go.Proofs.Ytbnicphegbdfnaa.Bytes Go.Proofs.Ytbnicphegbdfnaa.DKeep Go.Proofs.Ytbnicphegbdfnaa.DSmall Go.Proofs.Ytbnicphegbdfnaa.Puts Go.Proofs.Ytbnicphegbdfnaa.SPure Go.Proofs.Ytbnicphegbdfnaa.JA Go.Proofs.Ytbnicphegbdfnaa.JD Go.Proofs.Ytbnicphegbdfnaa.JH Go.Proofs.Ytbnicphegbdfnaa.JQ Go.Proofs.Ytbnicphegbdfnaa.AP Go.Proofs.Ytbnicphegbdfnaa.AQ Go.Proofs.Ytbnicphegbdfnaa.AA Go.Proofs.Ytbnicphegbdfnaa.AW Go.Proofs.Ytbnicphegbdfnaa.AV Go.Proofs.Ytbnicphegbdfnaa.AC Go.Proofs.Ytbnicphegbdfnaa.DS Go.Proofs.Ytbnicphegbdfnaa.AU Go.Proofs.Ytbnicphegbdfnaa.SP

def srefus (d : Pd) (first many : Int) : Int := if many < 1 ∨ (d.safe.length : Int) < many then 1 else if first < 0 ∨ (d.safe.length : Int) - 2 * many < first then 1 else if d.off then 15 else 0
theorem ds_nil {w y : World} {g : Nat} {d : Pd} {V : List (Value × List UInt8)} (h : DS w g d V y) : DS w g d ((.slice none 0 0, []) :: V) y := by
  obtain ⟨D, h1, h2, h3, h4⟩ := h
  refine ⟨D, h1, h2, h3, fun p hp => ?_⟩
  rcases List.mem_cons.1 hp with rfl | hp
  · exact ⟨fun _ => False, Rd.nil _ _, fun _ h => h.elim⟩
  · exact h4 p hp
set_option maxHeartbeats 2000000 in
theorem srefuses_dk (w : World) (g : Nat) (D : Nat → Prop) (d : Pd) (first many : Int) (h : DK w g D d) :
    Calls Try.prog 81 #[.pointer (some ⟨g, 0, none⟩), .int .i64 first, .int .i64 many] w fun e w' => e = .returned (.int .i64 (srefus d first many)) ∧ w = w' := by
  have HSZ := Lib.hid (DSmall.size_any w g D d h)
  have HOF := Lib.hid (off_any w g D d h)
  unfold dptr at HSZ HOF
  obtain ⟨_, a, b, ca, cb, vw, h0, _⟩ := h
  have n1 := h0.ok.n1
  have n2 := h0.ok.n2
  clear h0
  obtain ⟨n, hn⟩ : ∃ n, n = d.safe.length := ⟨_, rfl⟩
  unfold srefus
  rw [← hn] at HSZ n1 n2 ⊢
  have hn0 : ¬ ((n : Int) = 0) := by omega
  clear hn
  by_cases a1 : many < 1
  · rw [if_pos (.inl a1)]
    go_enter Try.func81, Try.ntmps81
    go_wp2_with fail
    refine HSZ.out.mono ?_
    rintro e w' ⟨rfl, rfl⟩
    go_wp2
    go_ret
    exact ⟨rfl, rfl⟩
  by_cases a2 : (n : Int) < many
  · rw [if_pos (.inr a2)]
    go_enter Try.func81, Try.ntmps81
    go_wp2_with fail
    refine HSZ.out.mono ?_
    rintro e w' ⟨rfl, rfl⟩
    go_wp2
    go_ret
    exact ⟨rfl, rfl⟩
  rw [if_neg (by omega)]
  by_cases a3 : first < 0
  · rw [if_pos (.inl a3)]
    go_enter Try.func81, Try.ntmps81
    go_wp2_with fail
    refine HSZ.out.mono ?_
    rintro e w' ⟨rfl, rfl⟩
    go_wp2
    go_ret
    exact ⟨rfl, rfl⟩
  have e0 : IntKind.i64.wrap (2 * many) = 2 * many := IntWalk.i64_in _ (by omega)
  have e1 : IntKind.i64.wrap ((n : Int) - 2 * many) = (n : Int) - 2 * many := IntWalk.i64_in _ (by omega)
  by_cases a4 : (n : Int) - 2 * many < first
  · rw [if_pos (.inr a4)]
    go_enter Try.func81, Try.ntmps81
    go_wp2_with fail
    refine HSZ.out.mono ?_
    rintro e w' ⟨rfl, rfl⟩
    go_wp2
    go_ret
    exact ⟨rfl, rfl⟩
  rw [if_neg (by omega)]
  cases ho : d.off with
  | true =>
    rw [ho] at HOF
    clear ho
    rw [if_pos rfl]
    go_enter Try.func81, Try.ntmps81
    go_wp2_with fail
    refine HSZ.out.mono ?_
    rintro e w' ⟨rfl, rfl⟩
    go_wp2_with fail
    refine HOF.out.mono ?_
    rintro e w' ⟨rfl, rfl⟩
    go_wp2
    go_ret
    exact ⟨rfl, rfl⟩
  | false =>
    rw [ho] at HOF
    clear ho
    rw [if_neg (by decide)]
    go_enter Try.func81, Try.ntmps81
    go_wp2_with fail
    refine HSZ.out.mono ?_
    rintro e w' ⟨rfl, rfl⟩
    go_wp2_with fail
    refine HOF.out.mono ?_
    rintro e w' ⟨rfl, rfl⟩
    go_wp2
    go_ret
    exact ⟨rfl, rfl⟩
theorem srefuses_nil (w : World) (first many : Int) : Calls Try.prog 81 #[.pointer none, .int .i64 first, .int .i64 many] w fun e w' => e = .returned (.int .i64 11) ∧ w = w' := by
  go_enter Try.func81, Try.ntmps81
  go_wp2_with fail
  refine (size_nil w).mono ?_
  rintro e w' ⟨rfl, rfl⟩
  go_wp2
  go_ret
  exact ⟨rfl, rfl⟩
theorem ds_srefuses {w y : World} {g : Nat} {d : Pd} {V : List (Value × List UInt8)} (h : DS w g d V y) (first many q : Int) (hq : srefus d first many = q) :
    Calls Try.prog 81 #[.pointer (some ⟨g, 0, none⟩), .int .i64 first, .int .i64 many] y fun e z => e = .returned (.int .i64 q) ∧ y = z := by
  subst hq
  obtain ⟨D, h1, h2⟩ := h
  exact srefuses_dk y g D d first many h1
theorem ds_sbytes {w y : World} {g : Nat} {d : Pd} {V : List (Value × List UInt8)} (h : DS w g d V y) (first many : Int) (A : Option Addr) (n c : Nat) (q : Int) (hq : srefus d first many = q) :
    Calls Try.prog 75 #[.pointer (some ⟨g, 0, none⟩), .int .i64 first, .int .i64 many, .slice A n c] y fun e z => e = .returned (.int .i64 (if q = 0 then (if JA.room many < (n : Int) then 13 else 0) else q)) ∧ y = z := by
  have HR := Lib.hid (ds_srefuses h first many q hq)
  have HRM := Lib.hid (fun w => JA.room_any many w)
  obtain ⟨RM, hRM⟩ : ∃ RM, JA.room many = RM := ⟨_, rfl⟩
  rw [hRM] at HRM ⊢
  clear hq h hRM
  by_cases h0 : q = 0
  · subst h0
    rw [if_pos rfl]
    by_cases hl : RM < (n : Int)
    · rw [if_pos hl]
      go_enter Try.func75, Try.ntmps75
      go_wp2_with fail
      refine HR.out.mono ?_
      rintro e w' ⟨rfl, rfl⟩
      go_wp2_with fail
      refine (HRM.out _).mono ?_
      rintro e w' ⟨rfl, rfl⟩
      go_wp2
      go_ret
      exact ⟨rfl, rfl⟩
    · rw [if_neg hl]
      go_enter Try.func75, Try.ntmps75
      go_wp2_with fail
      refine HR.out.mono ?_
      rintro e w' ⟨rfl, rfl⟩
      go_wp2_with fail
      refine (HRM.out _).mono ?_
      rintro e w' ⟨rfl, rfl⟩
      go_wp2
      go_ret
      exact ⟨rfl, rfl⟩
  · rw [if_neg h0]
    have hb : (q != 0) = true := by simpa using h0
    go_enter Try.func75, Try.ntmps75
    go_wp2_with fail
    refine HR.out.mono ?_
    rintro e w' ⟨rfl, rfl⟩
    go_wp2
    go_ret
    exact ⟨rfl, rfl⟩
theorem sbytes_nil (w : World) (first many : Int) (v : Value) : Calls Try.prog 75 #[.pointer none, .int .i64 first, .int .i64 many, v] w fun e w' => e = .returned (.int .i64 11) ∧ w = w' := by
  go_enter Try.func75, Try.ntmps75
  go_wp2_with fail
  refine (srefuses_nil w first many).mono ?_
  rintro e w' ⟨rfl, rfl⟩
  go_wp2
  go_ret
  exact ⟨rfl, rfl⟩
theorem both_any (first many : Int) (w : World) (h1 : -9223372036854775808 ≤ first + many) (h2 : first + many ≤ 9223372036854775807) : Calls Try.prog 77 #[.int .i64 first, .int .i64 many] w fun e w' => e = .returned (.agg #[.int .i64 first, .int .i64 (first + many)]) ∧ Grew w w' := by
  have e1 : IntKind.i64.wrap (first + many) = first + many := IntWalk.i64_in _ (by omega)
  go_enter Try.func77, Try.ntmps77
  go_wp2
  go_returns
  exact ⟨rfl, by unfold Grew; go_grown⟩
/-- An area is filled, and all is flushed. -/
def keepP (d : Pd) (from_ st m : Nat) (b : List UInt8) : Pd × Int := if (gw from_ (fun _ => st) m 0 (recB b) d).2 = 0 then DFlush.flushed (gw from_ (fun _ => st) m 0 (recB b) d).1 else gw from_ (fun _ => st) m 0 (recB b) d
theorem ds_keep {w y : World} {g : Nat} {d : Pd} {V : List (Value × List UInt8)} (h : DS w g d V y) (first m st : Nat) (x0 x1 x2 : Int) (hx0 : x0 = (first : Int)) (hx1 : x1 = (m : Int)) (hx2 : x2 = (st : Int)) (S : Nat → Prop) (v : Value) (b : List UInt8) (d' : Pd) (q : Int) (hr : Rd S y v b) (hq : arefus d (first : Int) (m : Int) = 0) (hs : may st = true) (hb : b.length + 4 ≤ 108 * m) (hw : d.waits.length + m ≤ 1000000000) (he : keepP d first st m b = (d', q)) :
    Calls Try.prog 76 #[.pointer (some ⟨g, 0, none⟩), .int .i64 x0, .int .i64 x1, .int .u64 x2, v] y fun e z => e = .returned (.int .i64 q) ∧ DS w g d' V z := by
  obtain ⟨A, c, rfl, _⟩ := id hr
  obtain ⟨d1, q1, h1⟩ : ∃ d1 q1, gw first (fun _ => st) m 0 (recB b) d = (d1, q1) := ⟨_, _, rfl⟩
  have hw1 : d1.waits.length ≤ 1073741824 := by
    have := gl_waits first st (List.range' 0 m) (recB b) d
    rw [gl_gw, h1, List.length_range'] at this
    have h2 : d1.waits.length ≤ d.waits.length + m := this
    omega
  unfold keepP at he
  rw [h1] at he
  have HW := Lib.hid (ds_awrite w y g d V h first m st x0 x1 x2 hx0 hx1 hx2 S _ b d1 q1 hr hq hs hb (by omega) h1)
  have HW1 := Lib.hid hw1
  clear h h1 hw1 hr hq hs hb hw hx0 hx1 hx2
  by_cases h0 : q1 = 0
  · rw [if_pos h0] at he
    have HE := Lib.hid he
    subst h0
    clear he
    go_enter Try.func76, Try.ntmps76
    go_wp2_with fail
    refine HW.out.mono ?_
    rintro e w1 ⟨rfl, hd⟩
    have HD := Lib.hid hd
    clear hd HW
    go_wp2_with fail
    refine (ds_flush w w1 g d1 V HD.out d' q HW1.out HE.out).mono ?_
    rintro e w2 ⟨rfl, hd⟩
    have HD2 := Lib.hid hd
    clear hd HD HE
    go_wp2
    go_ret
    exact ⟨rfl, HD2.out⟩
  · rw [if_neg h0] at he
    injection he with he1 he2
    subst he1 he2
    have hb : (q1 != 0) = true := by simpa using h0
    go_enter Try.func76, Try.ntmps76
    go_wp2_with fail
    refine HW.out.mono ?_
    rintro e w1 ⟨rfl, hd⟩
    have HD := Lib.hid hd
    clear hd HW
    go_wp2
    go_ret
    exact ⟨rfl, HD.out⟩
theorem run_ix0 (a b : Value) (W : World) : (Instr.index 132 (.agg #[a, b]) (.int .i64 0)).run Try.prog W = .ok a W := by kernel_rfl
theorem run_ix1 (a b : Value) (W : World) : (Instr.index 132 (.agg #[a, b]) (.int .i64 1)).run Try.prog W = .ok b W := by kernel_rfl
/-- What is answered of the snapshot that counts. -/
def LAST (w : World) (g : Nat) (d : Pd) (V : List (Value × List UInt8)) (a : Option (Nat × Nat × List UInt8)) (e : Ending) (z : World) : Prop :=
  match a with
  | none => e = .returned (.tuple #[.int .i64 0, .int .u64 0, .slice none 0 0, .int .i64 2]) ∧ DS w g d V z
  | some x => ∃ v, e = .returned (.tuple #[.int .i64 (x.1 : Int), .int .u64 (x.2.1 : Int), v, .int .i64 0]) ∧ DS w g d ((v, x.2.2) :: V) z
theorem LAST.no {w : World} {g : Nat} {d : Pd} {V : List (Value × List UInt8)} {e : Ending} {z : World} (h1 : e = .returned (.tuple #[.int .i64 0, .int .u64 0, .slice none 0 0, .int .i64 2])) (h2 : DS w g d V z) : LAST w g d V none e z := ⟨h1, h2⟩
theorem LAST.yes {w : World} {g : Nat} {d : Pd} {V : List (Value × List UInt8)} {e : Ending} {z : World} {x : Nat × Nat × List UInt8} (v : Value) (h1 : e = .returned (.tuple #[.int .i64 (x.1 : Int), .int .u64 (x.2.1 : Int), v, .int .i64 0])) (h2 : DS w g d ((v, x.2.2) :: V) z) : LAST w g d V (some x) e z := ⟨v, h1, h2⟩
/-- What stands behind a step of the search. -/
def wh (a : Option (Nat × Nat × List UInt8)) : Int := match a with | none => -1 | some x => (x.1 : Int)
def sp (a : Option (Nat × Nat × List UInt8)) : Nat := match a with | none => 0 | some x => x.2.1
def by_ (a : Option (Nat × Nat × List UInt8)) : List UInt8 := match a with | none => [] | some x => x.2.2
def acc (L : List Sec) (f m : Nat) : Nat → Option (Nat × Nat × List UInt8)
  | 0 => none
  | 1 => pick1 (ard L f m)
  | _ => pick L f m
def at_ (f m : Nat) : Nat → Nat
  | 0 => f
  | _ => f + m
def stepP (a : Option (Nat × Nat × List UInt8)) (i : Nat) (r : Nat × List UInt8 × Int) : Option (Nat × Nat × List UInt8) := if r.2.2 = 0 ∧ sp a < r.1 then some (i, r.1, r.2.1) else a
theorem acc_next (L : List Sec) (f m i : Nat) (hi : i < 2) : acc L f m (i + 1) = stepP (acc L f m i) i (ard L (at_ f m i) m) := by
  match i, hi with
  | 0, _ => rfl
  | 1, _ => rfl
set_option maxHeartbeats 2000000 in
theorem ds_last {w y : World} {g : Nat} {d : Pd} {V : List (Value × List UInt8)} (h : DS w g d V y) (f m : Nat) (x0 x1 : Int) (hx0 : x0 = (f : Int)) (hx1 : x1 = (m : Int)) (hq : srefus d (f : Int) (m : Int) = 0) :
    Calls Try.prog 42 #[.pointer (some ⟨g, 0, none⟩), .int .i64 x0, .int .i64 x1] y fun e z => LAST w g d V (pick d.last f m) e z := by
  subst hx0 hx1
  have hfm : 1 ≤ m ∧ f + 2 * m ≤ 16384 ∧ f + 2 * m ≤ d.safe.length ∧ d.off = false := by
    unfold srefus at hq
    obtain ⟨D, hdk, _⟩ := id h
    obtain ⟨_, a, b, ca, cb, vw, h0, _⟩ := id hdk
    have n2 := h0.ok.n2
    split at hq
    · cases hq
    · split at hq
      · cases hq
      · split at hq
        · cases hq
        · rename_i h1 h2 h3
          exact ⟨by omega, by omega, by omega, by simpa using h3⟩
  obtain ⟨pk, hpk⟩ : ∃ pk, pick d.last f m = pk := ⟨_, rfl⟩
  rw [hpk]
  have HPK := Lib.hid hpk
  have HFM := Lib.hid hfm
  have HAR : Hid (∀ i, i < 2 → arefus d ((at_ f m i : Nat) : Int) (m : Int) = 0) := Lib.hid fun i hi => by
    unfold arefus
    have : at_ f m i ≤ f + m := by
      match i, hi with
      | 0, _ => show f ≤ f + m; omega
      | 1, _ => exact Nat.le_refl _
    rw [if_neg (by omega), if_neg (by simp [hfm.2.2.2])]
  have HR := Lib.hid (ds_srefuses h (f : Int) (m : Int) 0 hq)
  have HB := Lib.hid (fun w => both_any (f : Int) (m : Int) w (by omega) (by omega))
  have HD := Lib.hid h
  clear h hq hfm hpk
  go_enter Try.func42, Try.ntmps42
  go_wp2_with fail
  refine HR.out.mono ?_
  rintro e w' ⟨rfl, rfl⟩
  clear HR
  go_wp2_with fail
  refine (HB.out _).mono ?_
  rintro e w1 ⟨rfl, hg⟩
  have HD1 : Hid (DS w g d ((.slice none 0 0, []) :: V) w1) := Lib.hid (ds_nil (HD.out.grew hg))
  clear hg HD HB
  go_wp2
  go_loopg [11, 12, 13, 14, 15, 16, 17, 18, 29] 2 (fun q s11 s12 s13 s14 s15 s16 s17 s18 s29 wx => ∃ (i : Nat) (a : Option (Nat × Nat × List UInt8)) (A : Option Addr) (c : Nat), i + q = 2 ∧ s29 = .int .i64 (i : Int) ∧ s11 = .int .i64 (wh a) ∧ s12 = .int .u64 (sp a : Int) ∧ s13 = .slice A (by_ a).length c ∧ Hid (acc d.last f m i = a) ∧ Hid (DS w g d ((.slice A (by_ a).length c, by_ a) :: V) wx))
  case atStart => exact ⟨0, none, none, 0, rfl, rfl, rfl, rfl, rfl, Lib.hid rfl, HD1⟩
  case round =>
    obtain ⟨i, a, A, c, hiq, rfl, rfl, rfl, rfl, HAC, HDX⟩ := hrel
    clear HD1
    cases gk with
    | zero =>
      obtain rfl : i = 2 := by omega
      obtain rfl : pk = a := by rw [← HPK.out]; exact HAC.out
      clear HPK HAC
      cases pk with
      | none =>
        simp only [wh, sp, by_]
        go_wp2
        go_returns
        exact LAST.no rfl (HDX.out.sub fun p hp => List.mem_cons_of_mem _ hp)
      | some x =>
        have hx : ¬ ((x.1 : Int) = -1) := by omega
        simp only [wh, sp, by_]
        go_wp2
        go_returns
        exact LAST.yes _ rfl HDX.out
    | succ q =>
      have hi2 : i < 2 := by omega
      have hlt : (i : Int) < 2 := by omega
      obtain ⟨s, b, qe, hrd⟩ : ∃ s b qe, ard d.last (at_ f m i) m = (s, b, qe) := ⟨_, _, _, rfl⟩
      have hnx := acc_next d.last f m i hi2
      rw [HAC.out, hrd] at hnx
      have HNX := Lib.hid hnx
      have HRD := Lib.hid hrd
      have HQ := Lib.hid (HAR.out i hi2)
      have hwi : IntKind.i64.wrap ((i : Int) + 1) = (i : Int) + 1 := IntWalk.i64_in _ (by omega)
      clear hnx hrd HAC
      match i, hi2 with
      | 0, _ =>
        have kix := run_ix0 (.int .i64 (f : Int)) (.int .i64 ((f : Int) + (m : Int)))
        go_wp2_with fail
        refine (ds_aread w wr g d _ HDX.out (at_ f m 0) m _ _ (by first | rfl | (show (f : Int) + (m : Int) = ((f + m : Nat) : Int); omega)) rfl s b qe HQ.out HRD.out).mono ?_
        rintro e w2 ⟨v, rfl, hd⟩
        obtain ⟨A2, c2, rfl, _⟩ := id (hd.rd (List.mem_cons_self ..))
        have HD2 := Lib.hid hd
        clear hd HDX
        clear kix
        by_cases h0 : qe = 0
        · subst h0
          by_cases hs : sp a < s
          · have hs' : ((sp a : Nat) : Int) < (s : Int) := by omega
            have HST : Hid (acc d.last f m (0 + 1) = some (0, s, b)) := Lib.hid (by rw [HNX.out]; exact if_pos ⟨rfl, hs⟩)
            clear hs
            go_wp2
            go_roundg q
            case measure => omega
            case rel => exact ⟨0 + 1, some (0, s, b), A2, c2, by omega, by first | rfl | simp, by first | rfl | simp [wh], rfl, rfl, HST, Lib.hid (HD2.out.sub fun p hp => by rcases List.mem_cons.1 hp with h | h; exact h ▸ List.mem_cons_self ..; exact List.mem_cons_of_mem _ (List.mem_cons_of_mem _ h))⟩
          · have hs' : ¬ ((sp a : Nat) : Int) < (s : Int) := by omega
            have HST : Hid (acc d.last f m (0 + 1) = a) := Lib.hid (by rw [HNX.out]; exact if_neg fun h => hs h.2)
            clear hs
            go_wp2
            go_roundg q
            case measure => omega
            case rel => exact ⟨0 + 1, a, A, c, by omega, by first | rfl | simp, rfl, rfl, rfl, HST, Lib.hid (HD2.out.sub fun p hp => List.mem_cons_of_mem _ hp)⟩
        · have HST : Hid (acc d.last f m (0 + 1) = a) := Lib.hid (by rw [HNX.out]; exact if_neg fun h => h0 h.1)
          have hb : (qe == 0) = false := by simpa using h0
          clear h0
          go_wp2
          go_roundg q
          case measure => omega
          case rel => exact ⟨0 + 1, a, A, c, by omega, by first | rfl | simp, rfl, rfl, rfl, HST, Lib.hid (HD2.out.sub fun p hp => List.mem_cons_of_mem _ hp)⟩
      | 1, _ =>
        have kix := run_ix1 (.int .i64 (f : Int)) (.int .i64 ((f : Int) + (m : Int)))
        go_wp2_with fail
        refine (ds_aread w wr g d _ HDX.out (at_ f m 1) m _ _ (by first | rfl | (show (f : Int) + (m : Int) = ((f + m : Nat) : Int); omega)) rfl s b qe HQ.out HRD.out).mono ?_
        rintro e w2 ⟨v, rfl, hd⟩
        obtain ⟨A2, c2, rfl, _⟩ := id (hd.rd (List.mem_cons_self ..))
        have HD2 := Lib.hid hd
        clear hd HDX
        clear kix
        by_cases h0 : qe = 0
        · subst h0
          by_cases hs : sp a < s
          · have hs' : ((sp a : Nat) : Int) < (s : Int) := by omega
            have HST : Hid (acc d.last f m (1 + 1) = some (1, s, b)) := Lib.hid (by rw [HNX.out]; exact if_pos ⟨rfl, hs⟩)
            clear hs
            go_wp2
            go_roundg q
            case measure => omega
            case rel => exact ⟨1 + 1, some (1, s, b), A2, c2, by omega, by first | rfl | simp, by first | rfl | simp [wh], rfl, rfl, HST, Lib.hid (HD2.out.sub fun p hp => by rcases List.mem_cons.1 hp with h | h; exact h ▸ List.mem_cons_self ..; exact List.mem_cons_of_mem _ (List.mem_cons_of_mem _ h))⟩
          · have hs' : ¬ ((sp a : Nat) : Int) < (s : Int) := by omega
            have HST : Hid (acc d.last f m (1 + 1) = a) := Lib.hid (by rw [HNX.out]; exact if_neg fun h => hs h.2)
            clear hs
            go_wp2
            go_roundg q
            case measure => omega
            case rel => exact ⟨1 + 1, a, A, c, by omega, by first | rfl | simp, rfl, rfl, rfl, HST, Lib.hid (HD2.out.sub fun p hp => List.mem_cons_of_mem _ hp)⟩
        · have HST : Hid (acc d.last f m (1 + 1) = a) := Lib.hid (by rw [HNX.out]; exact if_neg fun h => h0 h.1)
          have hb : (qe == 0) = false := by simpa using h0
          clear h0
          go_wp2
          go_roundg q
          case measure => omega
          case rel => exact ⟨1 + 1, a, A, c, by omega, by first | rfl | simp, rfl, rfl, rfl, HST, Lib.hid (HD2.out.sub fun p hp => List.mem_cons_of_mem _ hp)⟩
theorem ds_last_some {w y : World} {g : Nat} {d : Pd} {V : List (Value × List UInt8)} (h : DS w g d V y) (f m : Nat) (x0 x1 : Int) (hx0 : x0 = (f : Int)) (hx1 : x1 = (m : Int)) (hq : srefus d (f : Int) (m : Int) = 0) (c s : Nat) (b : List UInt8) (hp : pick d.last f m = some (c, s, b)) :
    Calls Try.prog 42 #[.pointer (some ⟨g, 0, none⟩), .int .i64 x0, .int .i64 x1] y fun e z => ∃ v, e = .returned (.tuple #[.int .i64 (c : Int), .int .u64 (s : Int), v, .int .i64 0]) ∧ DS w g d ((v, b) :: V) z := by
  have := ds_last h f m x0 x1 hx0 hx1 hq
  rw [hp] at this
  exact this
theorem ds_last_none {w y : World} {g : Nat} {d : Pd} {V : List (Value × List UInt8)} (h : DS w g d V y) (f m : Nat) (x0 x1 : Int) (hx0 : x0 = (f : Int)) (hx1 : x1 = (m : Int)) (hq : srefus d (f : Int) (m : Int) = 0) (hp : pick d.last f m = none) :
    Calls Try.prog 42 #[.pointer (some ⟨g, 0, none⟩), .int .i64 x0, .int .i64 x1] y fun e z => e = .returned (.tuple #[.int .i64 0, .int .u64 0, .slice none 0 0, .int .i64 2]) ∧ DS w g d V z := by
  have := ds_last h f m x0 x1 hx0 hx1 hq
  rw [hp] at this
  exact this
set_option maxHeartbeats 2000000 in
/-- The next snapshot, where one counts and there is room for the next stamp. -/
theorem ds_next {w y : World} {g : Nat} {L : List Sec} {fu : Int} {V : List (Value × List UInt8)} (h : DS w g (calmF L fu) V y) (f m n c s : Nat) (x0 x1 : Int) (hx0 : x0 = (f : Int)) (hx1 : x1 = (m : Int)) (b0 : List UInt8) (hk : SK L f m n c s b0) (hn : anw L f (2 * m) = n) (hl : L.length ≤ 16384) (hs : may (n + 1) = true) (v : Value) (b : List UInt8) (hin : (v, b) ∈ V) (hb : b.length + 4 ≤ 108 * m) (d' : Pd) (q : Int) (he : nextP L f m c n b fu = (d', q)) :
    Calls Try.prog 38 #[.pointer (some ⟨g, 0, none⟩), .int .i64 x0, .int .i64 x1, v] y fun e z => e = .returned (.int .i64 q) ∧ DS w g d' V z := by
  subst hx0 hx1
  obtain ⟨A, cp, rfl, _⟩ := id (h.rd hin)
  have hlen := hk.len
  have hone := hk.one
  have hc2 := hk.c2
  have hsq : srefus (calmF L fu) (f : Int) (m : Int) = 0 := by
    unfold srefus calmF
    simp only
    rw [if_neg (by omega), if_neg (by omega)]
    rfl
  have HSB := Lib.hid (ds_sbytes h (f : Int) (m : Int) A b.length cp 0 hsq)
  rw [if_pos rfl, if_neg (by unfold JA.room; rw [if_neg (by omega), if_neg (by omega)]; omega)] at HSB
  have HLA := Lib.hid (ds_last_some h f m _ _ rfl rfl hsq c s b0 hk.pick)
  have HQ : Hid (∀ k : Nat, k < 2 → arefus (calmF L fu) ((f + k * m : Nat) : Int) (m : Int) = 0) := Lib.hid fun k hk => by
    unfold arefus calmF
    simp only
    rcases (show k = 0 ∨ k = 1 by omega) with rfl | rfl
    · rw [if_neg (by simp; omega)]; rfl
    · rw [if_neg (by simp; omega)]; rfl
  have HQ2 : Hid (arefus (calmF L fu) (f : Int) ((2 * m : Nat) : Int) = 0) := Lib.hid (by
    unfold arefus calmF
    simp only
    rw [if_neg (by omega)]
    rfl)
  have HEV := Lib.hid (ev_at hk.ev f (2 * m) hlen)
  have HNN := Lib.hid hn
  have HS := Lib.hid hs
  have HB := Lib.hid hb
  have HIN := Lib.hid hin
  have HE : Hid (keepP (calmF L fu) (f + (1 - c) * m) (n + 1) m b = (d', q)) := Lib.hid (by rw [← he]; rfl)
  have HBO := Lib.hid (fun w => both_any (f : Int) (m : Int) w (by omega) (by omega))
  have hn62 : ¬ (4611686018427387904 : Int) ≤ (n : Int) := by have h62 := (may_iff (n + 1)).1 hs; omega
  have HN62 := Lib.hid hn62
  have hwn : IntKind.u64.wrap ((n : Int) + 1) = ((n + 1 : Nat) : Int) := by rw [IntWalk.u64_in _ (by omega)]; simp
  have hw2 : IntKind.i64.wrap (2 * (m : Int)) = 2 * (m : Int) := IntWalk.i64_in _ (by omega)
  have HM := Lib.hid (show m ≤ 16384 by omega)
  have HG := Lib.hid h.gr
  have HDY := Lib.hid h
  clear h hk hn hs hb hin he hsq hlen hn62
  rcases (show c = 0 ∨ c = 1 by omega) with rfl | rfl
  · have hwc : IntKind.i64.wrap (1 - ((0 : Nat) : Int)) = 1 := by decide
    go_enter Try.func38, Try.ntmps38
    go_wp2_with fail
    refine HSB.out.mono ?_
    rintro e w' ⟨rfl, rfl⟩
    clear HSB
    go_wp2_with fail
    refine HLA.out.mono ?_
    rintro e w1 ⟨v1, rfl, hd⟩
    obtain ⟨A1, c1, rfl, _⟩ := id (hd.rd (List.mem_cons_self ..))
    have HD1 := Lib.hid hd
    clear hd HLA
    go_wp2_with fail
    refine (ds_anewest w w1 g _ _ HD1.out f (2 * m) _ _ rfl (by omega) n HQ2.out HEV.out HNN.out).mono ?_
    rintro e w2 ⟨rfl, hd⟩
    have HD2 := Lib.hid hd
    clear hd HD1
    have k62 : decide ((4611686018427387904 : Int) ≤ (n : Int)) = false := decide_eq_false (by have := HN62.out; omega)
    go_wp2_with fail
    refine (HBO.out _).mono ?_
    rintro e w3 ⟨rfl, hg⟩
    have HD3 := Lib.hid (HD2.out.grew hg)
    clear hg HD2
    have kix := run_ix1 (.int .i64 (f : Int)) (.int .i64 ((f : Int) + (m : Int)))
    go_wp2_with fail
    refine (ds_keep HD3.out (f + (1 - 0) * m) m (n + 1) _ _ _ (by simp) rfl (by first | rfl | simp) _ _ b d' q (HD3.out.rd (v := .slice A b.length cp) (l := b) (List.mem_cons_of_mem _ HIN.out)) (HQ.out 1 (by omega)) HS.out HB.out (by have := HM.out; show 0 + m ≤ _; omega) HE.out).mono ?_
    rintro e w4 ⟨rfl, hd⟩
    have HD4 := Lib.hid hd
    clear hd HD3
    go_wp2
    go_ret
    exact ⟨rfl, HD4.out.sub fun p hp => List.mem_cons_of_mem _ hp⟩
  · have hwc : IntKind.i64.wrap (1 - ((1 : Nat) : Int)) = 0 := by decide
    go_enter Try.func38, Try.ntmps38
    go_wp2_with fail
    refine HSB.out.mono ?_
    rintro e w' ⟨rfl, rfl⟩
    clear HSB
    go_wp2_with fail
    refine HLA.out.mono ?_
    rintro e w1 ⟨v1, rfl, hd⟩
    obtain ⟨A1, c1, rfl, _⟩ := id (hd.rd (List.mem_cons_self ..))
    have HD1 := Lib.hid hd
    clear hd HLA
    go_wp2_with fail
    refine (ds_anewest w w1 g _ _ HD1.out f (2 * m) _ _ rfl (by omega) n HQ2.out HEV.out HNN.out).mono ?_
    rintro e w2 ⟨rfl, hd⟩
    have HD2 := Lib.hid hd
    clear hd HD1
    have k62 : decide ((4611686018427387904 : Int) ≤ (n : Int)) = false := decide_eq_false (by have := HN62.out; omega)
    go_wp2_with fail
    refine (HBO.out _).mono ?_
    rintro e w3 ⟨rfl, hg⟩
    have HD3 := Lib.hid (HD2.out.grew hg)
    clear hg HD2
    have kix := run_ix0 (.int .i64 (f : Int)) (.int .i64 ((f : Int) + (m : Int)))
    go_wp2_with fail
    refine (ds_keep HD3.out (f + (1 - 1) * m) m (n + 1) _ _ _ (by simp) rfl (by first | rfl | simp) _ _ b d' q (HD3.out.rd (v := .slice A b.length cp) (l := b) (List.mem_cons_of_mem _ HIN.out)) (HQ.out 0 (by omega)) HS.out HB.out (by have := HM.out; show 0 + m ≤ _; omega) HE.out).mono ?_
    rintro e w4 ⟨rfl, hd⟩
    have HD4 := Lib.hid hd
    clear hd HD3
    go_wp2
    go_ret
    exact ⟨rfl, HD4.out.sub fun p hp => List.mem_cons_of_mem _ hp⟩
end Go.Proofs.Ytbnicphegbdfnaa.SN
