/-
  What loads tell: how many bytes, these, and noughts.
  Conditions: those that each lemma names.
-/
import Derived.Test.YtbnicphegbdfnaaSOpen
import Derived.Deep.LoopGhost
namespace Go.Proofs.Ytbnicphegbdfnaa.JC
set_option maxRecDepth 100000
set_option maxRecDepth 100000
open Go Go.RowKit Go.Proofs.Ytbnicphegbdfnaa Go.Proofs.Ytbnicphegbdfnaa.Facts Go.Proofs.Ytbnicphegbdfnaa.Bytes Go.Proofs.Ytbnicphegbdfnaa.Puts Go.Proofs.Ytbnicphegbdfnaa.Scan Go.Proofs.Ytbnicphegbdfnaa.Take Go.Proofs.Ytbnicphegbdfnaa.Nums Go.Proofs.Ytbnicphegbdfnaa.Rscan Go.Proofs.Ytbnicphegbdfnaa.Rnums Go.Proofs.Ytbnicphegbdfnaa.SPure Go.Proofs.Ytbnicphegbdfnaa.SSeal Go.Proofs.Ytbnicphegbdfnaa.SOpen

def some0 (l : List UInt8) : Bool := l.any fun x => x != 0
theorem isnt74 (x : UInt8) (w : World) : Calls Try.prog 111 #[.int .u8 (x.toNat : Int)] w fun e w' => e = .returned (.bool (x != 0)) ∧ w = w' := by
  have hx : (x != 0) = ((x.toNat : Int) != 0) := by
    by_cases h : x = 0
    · subst h; rfl
    · have h1 : (x != 0) = true := by simpa using h
      have h2 : ¬ x.toNat = 0 := fun e => h (UInt8.toNat_inj.1 (by simpa using e))
      rw [h1]
      simp
      omega
  rw [hx]
  go_enter Try.func111, Try.ntmps111
  go_wp2
  go_ret
  exact ⟨rfl, rfl⟩
theorem isnt74_eq (x : UInt8) (q : Bool) (h : Hid ((x != 0) = q)) (w : World) : Calls Try.prog 111 #[.int .u8 (x.toNat : Int)] w fun e w' => e = .returned (.bool q) ∧ w = w' := by
  have := isnt74 x w
  rwa [h.out] at this
theorem index74 (S : Nat → Prop) (v : Value) (l : List UInt8) (w : World) (h : Rd S w v l) : Calls Try.prog 120 #[v, .func (.func 111) #[] #[]] w fun e w' => ∃ r : Int, e = .returned (.int .i64 r) ∧ decide (0 ≤ r) = some0 l ∧ w = w' := by
  obtain ⟨A, c, rfl, h1, h2, h3, _⟩ := id h
  have HR := Lib.hid h
  unfold maxLen at h2
  have hc2 : c ≤ 9223372036854775807 := by omega
  clear h h2
  go_enter Try.func120, Try.ntmps120
  go_wp2
  go_loopg [8] l.length (fun q s8 wx => ∃ (i : Nat), i + q = l.length ∧ s8 = .int .i64 i ∧ wx = w ∧ Hid (some0 (l.take i) = false))
  case atStart => exact ⟨0, Nat.zero_add _, rfl, rfl, Lib.hid rfl⟩
  case round =>
    obtain ⟨i, hiq, rfl, rfl, HZ⟩ := hrel
    cases gk with
    | succ q =>
      have hil : (i : Int) < (l.length : Int) := by omega
      have hil2 : i < l.length := by omega
      obtain ⟨ad, c', e, _, hcell⟩ := HR.out.cell hil2
      injection e with e1 _ e3
      subst e1 e3
      obtain ⟨x, hx⟩ : ∃ x, l[i]?.getD 0 = x := ⟨_, rfl⟩
      rw [hx] at hcell
      have hw1 : IntKind.i64.wrap ((i : Int) + 1) = (i : Int) + 1 := IntWalk.i64_in _ (by omega)
      have HTK : Hid (some0 (l.take (i + 1)) = (x != 0)) := Lib.hid (by
        rw [take_snoc l i hil2, hx]
        have := HZ.out
        unfold some0 at this ⊢
        rw [List.any_append, this]
        simp)
      have HL : Hid (some0 l = true ∨ some0 (l.take (i + 1)) = false) := Lib.hid (by
        cases hh : some0 (l.take (i + 1)) with
        | false => exact .inr rfl
        | true =>
          left
          unfold some0 at hh ⊢
          obtain ⟨y, hy, hy2⟩ := List.any_eq_true.1 hh
          exact List.any_eq_true.2 ⟨y, List.mem_of_mem_take hy, hy2⟩)
      clear hx
      cases hq : (x != 0) with
      | true =>
        have HQ := Lib.hid hq
        clear hq
        go_wp2_with fail
        refine (isnt74_eq x true HQ _).mono ?_
        rintro e w' ⟨rfl, rfl⟩
        go_wp2
        go_ret
        refine ⟨(i : Int), rfl, ?_, rfl⟩
        rcases HL.out with h | h
        · rw [h]; exact decide_eq_true (by omega)
        · rw [HTK.out, HQ.out] at h; cases h
      | false =>
        have HQ := Lib.hid hq
        clear hq
        go_wp2_with fail
        refine (isnt74_eq x false HQ _).mono ?_
        rintro e w' ⟨rfl, rfl⟩
        have HT2 : Hid (some0 (l.take (i + 1)) = false) := Lib.hid (HTK.out.trans HQ.out)
        go_wp2
        go_roundg q
        case measure => omega
        case rel => exact ⟨i + 1, by omega, by first | rfl | (simp; omega), rfl, HT2⟩
    | zero =>
      obtain rfl : i = l.length := by omega
      have hil : ¬ (l.length : Int) < (l.length : Int) := by omega
      have hz := HZ.out
      rw [List.take_length] at hz
      have HZ2 := Lib.hid hz
      clear hz
      go_wp2
      go_ret
      exact ⟨-1, rfl, by rw [HZ2.out]; rfl, rfl⟩
theorem contains74 (S : Nat → Prop) (v : Value) (l : List UInt8) (w : World) (h : Rd S w v l) : Calls Try.prog 108 #[v, .func (.func 111) #[] #[]] w fun e w' => e = .returned (.bool (some0 l)) ∧ w = w' := by
  obtain ⟨A, c, rfl, _⟩ := id h
  have HI := Lib.hid (index74 S _ l w h)
  clear h
  go_enter Try.func108, Try.ntmps108
  go_wp2_with fail
  refine HI.out.mono ?_
  rintro e w' ⟨r, rfl, hr, rfl⟩
  have HRR := Lib.hid hr
  clear hr
  go_wp2
  go_ret
  exact ⟨by rw [← HRR.out]; first | rfl | simp, rfl⟩

theorem takeC (w : World) (lo hi : Nat) (p : Value) (s : Sc) (n : Nat) (t : List UInt8) (s1 : Sc) (h : Hid (SC w lo hi p s)) (hn : n ≤ 9223372036854775807) (ht : Hid (s.take n = (t, s1))) (hl : t.length ≤ 140737488355328) :
    Calls Try.prog 98 #[p, .int .i64 n] w fun e w' => ∃ v, e = .returned v ∧ Rd (fun b => w.heap.size ≤ b) w' v t ∧ SC w' lo hi p s1 ∧ Chg p w w' := by
  have hm : max (n : Int) 0 = (n : Int) := by omega
  have hm2 : ¬ (n : Int) < 0 := by omega
  go_enter Try.func98, Try.ntmps98
  go_wp2_with fail
  refine (take_eq w lo hi p s n t s1 h hn ht).mono ?_
  rintro e w1 ⟨v, rfl, hr, hs, hc⟩
  obtain ⟨A, c, rfl, _⟩ := id hr
  have HC := Lib.hid hc
  have HS := Lib.hid hs
  have HR := Lib.hid hr
  clear hr hs hc
  go_wp2_with fail
  refine (clone_any _ _ t w1 HR.out hl).mono ?_
  rintro e w2 ⟨v2, rfl, hr2, hg⟩
  have HS2 : Hid (SC w2 lo hi p s1) := Lib.hid (HS.out.grew hg)
  have HC2 := Lib.hid (HC.out.trans (Chg.of_grew (p := p) hg))
  have HR2 := Lib.hid (hr2.mono fun b hb => Nat.le_trans HC.out.size hb)
  clear hr2 hg
  obtain ⟨A2, c2, rfl, _⟩ := id HR2.out
  go_wp2
  go_ret
  exact ⟨_, rfl, HR2.out, HS2.out, HC2.out⟩

/-- What loads tell. -/
def toldS (l : List UInt8) : List UInt8 × Bool :=
  let s1 := (Sc.num ⟨l, 0⟩ 4)
  let s2 := s1.2.rule (decide ((s1.1 : Int) ≤ (s1.2.left : Int))) 2
  let s3 := s2.take s1.1
  let s4 := s3.2.take s3.2.left
  let s5 := s4.2.rule (!some0 s4.1) 2
  if s5.e = 0 then (s3.1, true) else ([], false)
theorem left_le (s : Sc) (n : Nat) (h : s.l.length ≤ n) : s.left ≤ n := by
  unfold Sc.left
  split <;> omega
theorem take_l (s : Sc) (n k : Nat) (h : s.l.length ≤ k) : (s.take n).1.length ≤ k ∧ (s.take n).2.l.length ≤ k := by
  unfold Sc.take
  split
  · split
    · simp; omega
    · simp; omega
  · simp; omega
theorem rule_l (s : Sc) (b : Bool) (x : Int) : (s.rule b x).l = s.l := by
  unfold Sc.rule
  split <;> rfl
set_option maxHeartbeats 2000000 in
theorem told_any (S : Nat → Prop) (v : Value) (l : List UInt8) (w : World) (h : Rd S w v l) (hl : l.length ≤ 140737488355328) :
    Calls Try.prog 66 #[v] w fun e w' => ∃ v', e = .returned (.tuple #[v', .bool (toldS l).2]) ∧ Rd (fun b => w.heap.size ≤ b) w' v' (toldS l).1 ∧ Grew w w' := by
  unfold toldS
  have e4 : width 4 = 4 := by decide
  obtain ⟨⟨n, s1⟩, h1⟩ : ∃ y, Sc.num ⟨l, 0⟩ 4 = y := ⟨_, rfl⟩
  have l1 : s1.l.length ≤ 140737488355328 := by
    have := (take_l ⟨l, 0⟩ 4 140737488355328 hl).2
    have e : s1 = (Sc.take ⟨l, 0⟩ 4).2 := by have := congrArg Prod.snd h1; exact this.symm
    rw [e]; exact this
  have n1 : n < 4294967296 := by
    have e : n = Sc.val (Sc.take ⟨l, 0⟩ 4).1 := by have := congrArg Prod.fst h1; exact this.symm
    rw [e]
    have hh := take_len ⟨l, 0⟩ 4
    have := val_lt (Sc.take ⟨l, 0⟩ 4).1 4
    rw [List.take_of_length_le hh] at this
    omega
  obtain ⟨s2, h2⟩ : ∃ y, s1.rule (decide ((n : Int) ≤ (s1.left : Int))) 2 = y := ⟨_, rfl⟩
  have l2 : s2.l.length ≤ 140737488355328 := by rw [← h2, rule_l]; exact l1
  obtain ⟨⟨b, s3⟩, h3⟩ : ∃ y, s2.take n = y := ⟨_, rfl⟩
  have l3 : b.length ≤ 140737488355328 ∧ s3.l.length ≤ 140737488355328 := by have := take_l s2 n _ l2; rw [h3] at this; exact this
  obtain ⟨⟨z, s4⟩, h4⟩ : ∃ y, s3.take s3.left = y := ⟨_, rfl⟩
  have l4 : z.length ≤ 140737488355328 := by have := (take_l s3 s3.left _ l3.2).1; rw [h4] at this; exact this
  obtain ⟨s5, h5⟩ : ∃ y, s4.rule (!some0 z) 2 = y := ⟨_, rfl⟩
  have ll1 := left_le s1 _ l1
  have ll3 := left_le s3 _ l3.2
  simp only [h1, h2, h3, h4, h5]
  obtain ⟨ans, hans⟩ : ∃ ans : List UInt8 × Bool, (if s5.e = 0 then (b, true) else ([], false)) = ans := ⟨_, rfl⟩
  rw [hans]
  have HANS := Lib.hid hans
  clear hans
  have H1 : Hid (Sc.num ⟨l, 0⟩ (width 4) = (n, s1)) := Lib.hid (by rw [e4]; exact h1)
  have H2 := Lib.hid h2
  have H3 := Lib.hid h3
  have H4 := Lib.hid h4
  have H5 := Lib.hid h5
  obtain ⟨L1, hL1⟩ : ∃ y, s1.left = y := ⟨_, rfl⟩
  obtain ⟨L3, hL3⟩ : ∃ y, s3.left = y := ⟨_, rfl⟩
  rw [hL1] at H2 ll1
  rw [hL3] at H4 ll3
  obtain ⟨q1, hq1⟩ : ∃ q1, decide ((n : Int) ≤ (L1 : Int)) = q1 := ⟨_, rfl⟩
  have hq1b : decide (n ≤ L1) = q1 := by rw [← hq1]; simp
  rw [hq1] at H2
  obtain ⟨q2, hq2⟩ : ∃ q2, (!some0 z) = q2 := ⟨_, rfl⟩
  rw [hq2] at H5
  have HL1 := Lib.hid hL1
  have HL3 := Lib.hid hL3
  have HB := Lib.hid l3.1
  have HZ := Lib.hid l4
  have HN : Hid (n ≤ 9223372036854775807) := Lib.hid (by omega)
  have HM : Hid (L3 ≤ 9223372036854775807) := Lib.hid (by omega)
  have w1 : IntKind.u64.wrap (L1 : Int) = (L1 : Int) := by rw [IntKind.wrap_u64]; omega
  have w2 : IntKind.i64.wrap (n : Int) = (n : Int) := IntWalk.i64_in _ (by omega)
  have HR := Lib.hid h
  obtain ⟨A, c, rfl, _⟩ := id h
  have HLL := Lib.hid hl
  clear h h1 h2 h3 h4 h5 l1 l2 l3 l4 n1 ll1 ll3 hL1 hL3 e4 hl
  go_enter Try.func66, Try.ntmps66
  go_wp2_with fail
  refine (from_any S _ l _ HR.out HLL.out).mono ?_
  rintro e w1' ⟨g, rfl, hs, hg⟩
  have HSA := Lib.hid hs
  have HG := Lib.hid hg
  have HSZ := Lib.hid hs.size.1
  obtain ⟨hi, hhi⟩ : ∃ hi, w1'.heap.size = hi := ⟨_, rfl⟩
  rw [hhi] at HSA
  clear hs hg hhi
  unfold ptr at *
  go_wp2_with fail
  refine (num_eq _ _ _ _ _ _ _ _ HSA H1).mono ?_
  rintro e wA ⟨rfl, hs, hc⟩
  have HSB := Lib.hid hs
  have HGA := Lib.hid (grew_chg HG.out hc HSZ.out)
  clear hs hc HSA HG
  go_wp2_with fail
  refine (left_eq _ _ _ _ _ _ HSB HL1).mono ?_
  rintro e w' ⟨rfl, rfl⟩
  go_wp2_with fail
  with_reducible refine (rule_eq _ _ _ _ _ s2 q1 _ HSB H2).mono ?_
  rintro e wB ⟨rfl, hs, hc⟩
  have HSC := Lib.hid hs
  have HGB := Lib.hid (grew_chg HGA.out hc HSZ.out)
  clear hs hc HSB HGA
  go_wp2_with fail
  with_reducible refine (takeC _ _ _ _ _ n b s3 HSC HN.out H3 HB.out).mono ?_
  rintro e wC ⟨vb, rfl, hr, hs, hc⟩
  have HSD := Lib.hid hs
  have HGC := Lib.hid (grew_chg HGB.out hc HSZ.out)
  have HZB : Hid (g < wB.heap.size) := Lib.hid (by have := HSC.out.size; omega)
  have HRB := Lib.hid hr.lt
  have HZC := Lib.hid hc.size
  obtain ⟨Ab, cb, rfl, _⟩ := id hr
  clear hs hc hr HSC
  go_wp2_with fail
  refine (left_eq _ _ _ _ _ _ HSD HL3).mono ?_
  rintro e w' ⟨rfl, rfl⟩
  go_wp2_with fail
  with_reducible refine (takeC _ _ _ _ _ L3 z s4 HSD HM.out H4 HZ.out).mono ?_
  rintro e wD ⟨vz, rfl, hr, hs, hc⟩
  have HSE := Lib.hid hs
  have HGD := Lib.hid (grew_chg HGC.out hc HSZ.out)
  have HRB2 := Lib.hid (HRB.out.keep fun q hq hS => hc.block q hq (fun e => by have e2 : q = g := Option.some.inj e; have := hS.1; have := HZB.out; omega))
  obtain ⟨Az, cz, rfl, _⟩ := id hr
  have HCT := Lib.hid (contains74 _ _ z wD hr)
  clear hs hc hr HSD HRB
  go_wp2_with fail
  refine HCT.out.mono ?_
  rintro e w' ⟨rfl, rfl⟩
  go_wp2_with fail
  with_reducible refine (rule_eq _ _ _ _ _ s5 q2 _ HSE H5).mono ?_
  rintro e wE ⟨rfl, hs, hc⟩
  have HSF := Lib.hid hs
  have HGE := Lib.hid (grew_chg HGD.out hc HSZ.out)
  have HRB3 := Lib.hid (HRB2.out.keep fun q hq hS => hc.block q hq (fun e => by have e2 : q = g := Option.some.inj e; have := hS.1; have := HZB.out; omega))
  clear hs hc HSE HCT HRB2
  go_wp2_with fail
  refine (fault_eq _ _ _ _ _ s5.e HSF (Lib.hid rfl)).mono ?_
  rintro e w' ⟨rfl, rfl⟩
  by_cases h0 : s5.e = 0
  · have b0 : (s5.e != 0) = false := by simpa using h0
    have hans := HANS.out
    rw [if_pos h0] at hans
    subst hans
    go_wp2
    go_returns
    exact ⟨_, rfl, HRB3.out.mono fun q hq => by have := HGB.out.size; have := hq.1; omega, HGE.out⟩
  · have b0 : (s5.e != 0) = true := by simpa using h0
    have hans := HANS.out
    rw [if_neg h0] at hans
    subst hans
    go_wp2
    go_returns
    exact ⟨_, rfl, Rd.nil _ _, HGE.out⟩
end Go.Proofs.Ytbnicphegbdfnaa.JC
