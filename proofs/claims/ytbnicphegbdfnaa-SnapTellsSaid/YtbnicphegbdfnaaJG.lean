/-
  What must come of fixed calls of a journal.
  Conditions: none.
-/
import Derived.Test.YtbnicphegbdfnaaJF
import Derived.Test.YtbnicphegbdfnaaDAlive
import Derived.Lib.SlBytesConst
namespace Go.Proofs.Ytbnicphegbdfnaa.JG
set_option maxRecDepth 100000
set_option maxRecDepth 100000
open Go Go.RowKit Go.Proofs.Ytbnicphegbdfnaa Go.Proofs.Ytbnicphegbdfnaa.Facts Go.Proofs.Ytbnicphegbdfnaa.Bytes Go.Proofs.Ytbnicphegbdfnaa.DKeep Go.Proofs.Ytbnicphegbdfnaa.DSmall Go.Proofs.Ytbnicphegbdfnaa.Puts Go.Proofs.Ytbnicphegbdfnaa.SPure Go.Proofs.Ytbnicphegbdfnaa.JA Go.Proofs.Ytbnicphegbdfnaa.JB Go.Proofs.Ytbnicphegbdfnaa.JC Go.Proofs.Ytbnicphegbdfnaa.JD Go.Proofs.Ytbnicphegbdfnaa.JE Go.Proofs.Ytbnicphegbdfnaa.JF

def j0 : Jr := ⟨1, 2, 2, 0, 9⟩
def j1 : Jr := ⟨1, 2, 2, 1, 9⟩
def j2 : Jr := ⟨1, 2, 2, 2, 9⟩
def d0 : Pd := DNew.fresh 5
def d1 : Pd := (japp j0 d0 [97, 98]).2.1
def d2 : Pd := (japp j1 d1 []).2.1
theorem R0 : jrefus d0 1 2 2 9 = 0 := by kernel_rfl
theorem R1 : jrefus d0 2 2 2 9 = 1 := by kernel_rfl
theorem K0 : JK j0 := ⟨by decide, by decide, by decide, by decide, by decide, by decide, by decide⟩
theorem K1 : JK j1 := ⟨by decide, by decide, by decide, by decide, by decide, by decide, by decide⟩
theorem K2 : JK j2 := ⟨by decide, by decide, by decide, by decide, by decide, by decide, by decide⟩
theorem A1 : japp j0 d0 [97, 98] = (j1, d1, 0) := by kernel_rfl
theorem A2 : japp j1 d1 (zeros 213) = (j1, d1, 13) := by kernel_rfl
theorem A3 : japp j1 d1 [] = (j2, d2, 0) := by kernel_rfl
theorem A4 : japp j2 d2 [] = (j2, d2, 8) := by kernel_rfl
theorem R2 : jrefus d2 1 2 2 9 = 0 := by kernel_rfl
theorem R3 : jrefus d2 1 2 2 10 = 0 := by kernel_rfl
theorem S1 : jscan d2.last 1 9 2 2 0 [] = [[97, 98], []] := by kernel_rfl
theorem S2 : jscan d2.last 1 10 2 2 0 [] = [] := by kernel_rfl
theorem W0 : d0.waits.length ≤ 1000000000 := by
  have h : d0.waits.length = 0 := by kernel_rfl
  omega
theorem W1 : d1.waits.length ≤ 1000000000 := by
  have h : d1.waits.length = 0 := by kernel_rfl
  omega
theorem W2 : d2.waits.length ≤ 1000000000 := by
  have h : d2.waits.length = 0 := by kernel_rfl
  omega

theorem lit_rd (w : World) (l : List UInt8) (fr : Nat × Nat) (hl : l.length ≤ maxLen) : Rd (fun b => b = w.heap.size) (w.alloc (.cells (bv l).toArray 5 fr)) (.slice (some ⟨w.heap.size, 0, none⟩) l.length l.length) l := by
  refine ⟨some ⟨w.heap.size, 0, none⟩, l.length, rfl, Nat.le_refl _, hl, (fun h => by cases h), fun ad ha => ⟨fun _ => by cases ha; rfl, fun j u hu => ?_⟩⟩
  cases ha
  have e : (Addr.add ⟨w.heap.size, 0, none⟩ j) = ⟨w.heap.size, j, none⟩ := by
    unfold Addr.add
    split
    · rename_i h; subst h; rfl
    · simp
  rw [e, World.cell?_alloc_mark]
  simpa using hu
theorem made_rd (w : World) (n : Nat) (hn : n ≤ maxLen) : Rd (fun b => b = w.heap.size) (w.alloc (.cells (madeCells #[.int .u8 0] n) 5)) (.slice (some ⟨w.heap.size, 0, none⟩) n n) (zeros n) := by
  rw [Refs.made_cells]
  have := lit_rd w (zeros n) (0, 0) (by rw [zeros_length]; exact hn)
  rw [zeros_length] at this
  exact this
theorem app_eq (w : World) (gj g : Nat) (j : Jr) (D : Nat → Prop) (d : Pd) (S : Nat → Prop) (v : Value) (b : List UInt8) (j' : Jr) (d' : Pd) (q : Int) (hj : JL w gj g j) (hk : JK j) (hb1 : 1 ≤ j.base) (hd : DK w g D d) (hgj : ¬ D gj) (hr : Rd S w v b) (hw : d.waits.length ≤ 1000000000) (he : japp j d b = (j', d', q)) :
    Calls Try.prog 27 #[.pointer (some ⟨gj, 0, none⟩), v] w fun e w' => e = .returned (.int .i64 q) ∧ AP w g gj D j' d' w' := by
  have := japp_any w gj g j D d S v b hj hk hb1 hd hgj hr hw
  rwa [he] at this
theorem scan_eq (w : World) (g : Nat) (D : Nat → Prop) (d : Pd) (first places each base : Nat) (l : List (List UInt8)) (h : DK w g D d) (hq : jrefus d (first : Int) (places : Int) (each : Int) base = 0) (hl : jscan d.last first base each places 0 [] = l) :
    Calls Try.prog 25 #[.pointer (some ⟨g, 0, none⟩), .int .i64 (first : Int), .int .i64 (places : Int), .int .i64 (each : Int), .int .u64 (base : Int)] w fun e w' => ∃ v, e = .returned (.tuple #[v, .int .i64 0]) ∧ BS w.heap.size w' v l ∧ Grew w w' := by
  have := jscan_any w g D d first places each base h hq
  rwa [hl] at this
theorem japp_none (w : World) (v : Value) : Calls Try.prog 27 #[.pointer none, v] w fun e w' => e = .returned (.int .i64 11) ∧ w = w' := by
  go_enter Try.func27, Try.ntmps27
  go_wp2_with fail
  refine (jmade_none w).mono ?_
  rintro e w' ⟨rfl, rfl⟩
  go_wp2
  go_ret
  exact ⟨rfl, rfl⟩
set_option maxHeartbeats 4000000 in
theorem alive_any (w : World) : Calls Try.prog 26 #[] w fun e w' => e = .returned (.bool true) ∧ Grew w w' := by
  go_enter Try.func26, Try.ntmps26
  go_wp2_with fail
  refine (DAlive.new_eq 5 5 rfl w (by omega) (by omega)).mono ?_
  rintro e w1 ⟨g, rfl, hd, hg⟩
  have HD := Lib.hid hd
  have HG := Lib.hid hg
  have HA : Hid (DAlive.Above (fun k => w.heap.size ≤ k ∧ k < w1.heap.size) w.heap.size) := Lib.hid fun k hk => hk.1
  have HDL : Hid (∀ k, (fun k => w.heap.size ≤ k ∧ k < w1.heap.size) k → k < w1.heap.size) := Lib.hid fun k hk => hk.2
  clear hd hg
  generalize hDD : (fun k => w.heap.size ≤ k ∧ k < w1.heap.size) = D at *
  clear hDD
  go_wp2_with fail
  refine (jnew_any w1 g D d0 1 2 2 9 HD.out (by omega) (by omega) R0).mono ?_
  rintro e w2 ⟨gj, rfl, hj, hgj, hg⟩
  have HJ : Hid (JL w2 gj g j0) := Lib.hid hj
  have HND : Hid (¬ D gj) := Lib.hid fun h => by have := HDL.out _ h; omega
  have HD2 := Lib.hid (HD.out.grew hg)
  have HG2 := Lib.hid (HG.out.trans hg)
  have HGJ : Hid (w.heap.size ≤ gj) := Lib.hid (Nat.le_trans HG.out.size hgj)
  clear hj hgj hg HD HG HDL
  go_wp2_with fail
  refine (jnew_bad w2 g D d0 2 2 2 9 1 HD2.out (by omega) (by omega) (by omega) R1 (by omega)).mono ?_
  rintro e w' ⟨rfl, rfl⟩
  have kc := fun (w : World) (C : Array Value) (n c : Nat) => Lib.run_convert_bytes_const (P := Try.prog) w 23 5 C n c Try.underlying23 Try.underlying5
  go_wp2_with fail
  have hg8 : Grew w2 (w2.alloc (.cells #[.int .u8 97, .int .u8 98] 5 (2, 3))) := (Below.refl _ w2).alloc (Nat.le_refl _) _
  have HAD : Hid (∀ k, D k → k < w2.heap.size) := Lib.hid HD2.out.1
  refine (app_eq _ gj g j0 D d0 (fun b => b = w2.heap.size) _ [97, 98] j1 d1 0 (HJ.out.grew hg8) K0 (by decide) (HD2.out.grew hg8) HND.out (lit_rd w2 [97, 98] (2, 3) (by decide)) W0 A1).mono ?_
  rintro e w3 ⟨rfl, hap⟩
  obtain ⟨D3, hd3, hs3, hj3, hk3⟩ := hap
  have HD3 : Hid (DK w3 g D3 d1) := Lib.hid hd3
  have HJ3 : Hid (JL w3 gj g j1) := Lib.hid hj3
  have HA3 := Lib.hid (DAlive.above_sub HA.out hs3 (Nat.le_trans HG2.out.size hg8.size))
  have HG3 := Lib.hid (DAlive.grew_kept (HG2.out.trans hg8) hk3 (fun k hk => by rcases hk with hk | rfl; exact HA.out k hk; exact HGJ.out))
  have HND3 : Hid (¬ D3 gj) := Lib.hid fun h => by
    rcases hs3 gj h with h | h
    · exact HND.out h
    · have := (Array.getElem?_eq_some_iff.1 HJ.out).1; have := hg8.size; omega
  clear hd3 hs3 hj3 hk3 hg8 kc HAD HJ HD2 HND HA HG2
  go_wp2_with fail
  have hlf := jleft_any w3 gj g j1 HJ3.out K1
  rw [show (j1.places : Int) - (j1.used : Int) = 1 from rfl] at hlf
  refine hlf.mono ?_
  clear hlf
  rintro e w4 ⟨rfl, hg4⟩
  have HD4 := Lib.hid (HD3.out.grew hg4)
  have HJ4 := Lib.hid (HJ3.out.grew hg4)
  have HG4 := Lib.hid (HG3.out.trans hg4)
  clear hg4 HD3 HJ3 HG3
  go_wp2_with fail
  have hnx := jnext_any w4 gj g j1 HJ4.out K1
  rw [show ((j1.base + j1.places * j1.each : Nat) : Int) = 13 from rfl] at hnx
  refine hnx.mono ?_
  clear hnx
  rintro e w5 ⟨rfl, hg5⟩
  have HD5 := Lib.hid (HD4.out.grew hg5)
  have HJ5 := Lib.hid (HJ4.out.grew hg5)
  have HG5 := Lib.hid (HG4.out.trans hg5)
  clear hg5 HD4 HJ4 HG4
  have HA5 := HA3
  have HND5 := HND3
  clear HA3 HND3
  obtain ⟨i0, hi, hx⟩ := Option.map_eq_some_iff.1 Puts.info5
  simp only [Prod.mk.injEq] at hx
  obtain ⟨hz0, hz1, hz2⟩ := hx
  have hmk1 : ∀ u : World, (Instr.makeSlice 23 (.int .i64 213) (.int .i64 213)).run Try.prog u =
      .ok (.slice (some ⟨u.heap.size, 0, none⟩) 213 213) (u.alloc (.cells (madeCells #[.int .u8 0] 213) 5)) := fun u => by
    have h := run_make (P := Try.prog) u 23 5 i0 (.int .u8 0) Try.underlying23 hi hz0 .i64 .i64 213 213 (by omega) (Int.le_refl _) (by rw [hz2]; omega) (by omega)
    simpa [hz1, Value.cells] using h
  clear hi hz0 hz1 hz2
  go_wp2_with fail
  have hg6 : Grew w5 (w5.alloc (.cells (madeCells #[.int .u8 0] 213) 5)) := (Below.refl _ w5).alloc (Nat.le_refl _) _
  refine (app_eq _ gj g j1 _ d1 (fun b => b = w5.heap.size) _ (zeros 213) j1 d1 13 (HJ5.out.grew hg6) K1 (by decide) (HD5.out.grew hg6) HND5.out (made_rd w5 213 (by decide)) W1 A2).mono ?_
  rintro e w6 ⟨rfl, hap⟩
  obtain ⟨D6, hd6, hs6, hj6, hk6⟩ := hap
  have HD6 : Hid (DK w6 g D6 d1) := Lib.hid hd6
  have HJ6 : Hid (JL w6 gj g j1) := Lib.hid hj6
  have HA6 := Lib.hid (DAlive.above_sub HA5.out hs6 (Nat.le_trans HG5.out.size (hg6.size)))
  have HG6 := Lib.hid (DAlive.grew_kept (HG5.out.trans hg6) hk6 (fun k hk => by rcases hk with hk | rfl; exact HA5.out k hk; exact HGJ.out))
  have HND6 : Hid (¬ D6 gj) := Lib.hid fun h => by
    rcases hs6 gj h with h | h
    · exact HND5.out h
    · have := (Array.getElem?_eq_some_iff.1 HJ5.out).1; have := hg6.size; omega
  clear hg6 hmk1 hd6 hs6 hj6 hk6 HJ5 HD5 HND5 HA5 HG5
  go_wp2_with fail
  refine (app_eq w6 gj g j1 _ d1 (fun _ => True) _ [] j2 d2 0 (HJ6.out.grew (Grew.refl w6)) K1 (by decide) (HD6.out.grew (Grew.refl w6)) HND6.out (Rd.nil _ _) W1 A3).mono ?_
  rintro e w7 ⟨rfl, hap⟩
  obtain ⟨D7, hd7, hs7, hj7, hk7⟩ := hap
  have HD7 : Hid (DK w7 g D7 d2) := Lib.hid hd7
  have HJ7 : Hid (JL w7 gj g j2) := Lib.hid hj7
  have HA7 := Lib.hid (DAlive.above_sub HA6.out hs7 (Nat.le_trans HG6.out.size ((Grew.refl w6).size)))
  have HG7 := Lib.hid (DAlive.grew_kept (HG6.out.trans (Grew.refl w6)) hk7 (fun k hk => by rcases hk with hk | rfl; exact HA6.out k hk; exact HGJ.out))
  have HND7 : Hid (¬ D7 gj) := Lib.hid fun h => by
    rcases hs7 gj h with h | h
    · exact HND6.out h
    · have := (Array.getElem?_eq_some_iff.1 HJ6.out).1; have := (Grew.refl w6).size; omega
  clear hd7 hs7 hj7 hk7 HJ6 HD6 HND6 HA6 HG6
  go_wp2_with fail
  refine (app_eq w7 gj g j2 _ d2 (fun _ => True) _ [] j2 d2 8 (HJ7.out.grew (Grew.refl w7)) K2 (by decide) (HD7.out.grew (Grew.refl w7)) HND7.out (Rd.nil _ _) W2 A4).mono ?_
  rintro e w8 ⟨rfl, hap⟩
  obtain ⟨D8, hd8, hs8, hj8, hk8⟩ := hap
  have HD8 : Hid (DK w8 g D8 d2) := Lib.hid hd8
  have HJ8 : Hid (JL w8 gj g j2) := Lib.hid hj8
  have HA8 := Lib.hid (DAlive.above_sub HA7.out hs8 (Nat.le_trans HG7.out.size ((Grew.refl w7).size)))
  have HG8 := Lib.hid (DAlive.grew_kept (HG7.out.trans (Grew.refl w7)) hk8 (fun k hk => by rcases hk with hk | rfl; exact HA7.out k hk; exact HGJ.out))
  have HND8 : Hid (¬ D8 gj) := Lib.hid fun h => by
    rcases hs8 gj h with h | h
    · exact HND7.out h
    · have := (Array.getElem?_eq_some_iff.1 HJ7.out).1; have := (Grew.refl w7).size; omega
  clear hd8 hs8 hj8 hk8 HJ7 HD7 HND7 HA7 HG7
  go_wp2_with fail
  refine (scan_eq w8 g D8 d2 1 2 2 9 _ HD8.out R2 S1).mono ?_
  rintro e w9 ⟨v9, rfl, hb9, hg9⟩
  obtain ⟨ws, how, hel⟩ := hb9
  obtain ⟨A9, c9, rfl⟩ := own_sl how
  have HOW := Lib.hid how
  have HEL := Lib.hid hel
  have HD9 := Lib.hid (HD8.out.grew hg9)
  have HG9 := Lib.hid (HG8.out.trans hg9)
  clear how hel hg9 HD8 HG8
  go_wp2_with fail
  refine (scan_eq w9 g D8 d2 1 2 2 10 _ HD9.out R3 S2).mono ?_
  rintro e w10 ⟨v10, rfl, hb10, hg10⟩
  obtain ⟨ws2, how2, _⟩ := hb10
  obtain ⟨B9, b9, rfl⟩ := own_sl how2
  have HG10 := Lib.hid (HG9.out.trans hg10)
  have how := own_grew HOW.out hg10
  obtain ⟨u0, hu0, hr0⟩ := HEL.out 0 [97, 98] rfl
  obtain ⟨u1, hu1, hr1⟩ := HEL.out 1 [] rfl
  have hr0 := hr0.grew hg10
  have hr1 := hr1.grew hg10
  obtain ⟨a0, e0, rfl, x0, y0, _⟩ := id hr0
  obtain ⟨a1, e1, rfl, _⟩ := id hr1
  have hl0 : ([97, 98] : List UInt8).length = 2 := rfl
  have hl1 : ([] : List UInt8).length = 0 := rfl
  have HCV : Hid ((convert 23 9 (.slice a0 2 e0)).run Try.prog w10 = .ok (.string ⟨#[97, 98]⟩) w10) := Lib.hid (Nums.conv22 hr0)
  rw [hl0] at hu0
  rw [hl1] at hu1
  rcases how.2 with ⟨_, h0⟩ | ⟨ga, cap, cur, hsl, _⟩
  · exact absurd h0 (by decide)
  injection hsl with hs1 _ _
  subst hs1
  have hc0 : w10.cell? ⟨ga, 0, none⟩ = some (.slice a0 2 e0) := by have := how.cells (g := ga) rfl 0 _ hu0; rwa [Addr.add_mid] at this
  have hc1 : w10.cell? ⟨ga, 1, none⟩ = some (.slice a1 0 e1) := by have := how.cells (g := ga) rfl 1 _ hu1; rwa [Addr.add_mid] at this
  have HN1 := Lib.hid (japp_none)
  have HN2 := Lib.hid (jleft_none)
  clear how how2 hr0 hr1 hu0 hu1 hg10 HOW HEL HD9 HG9 x0 y0
  have hcv := HCV.out
  go_wp2_with (go_at_call 27; refine (HN1.out _ _).mono ?_; rintro e w' ⟨rfl, rfl⟩)
  refine (HN2.out _).mono ?_
  rintro e w' ⟨rfl, rfl⟩
  go_wp2
  go_returns
  exact ⟨rfl, HG10.out⟩
end Go.Proofs.Ytbnicphegbdfnaa.JG
