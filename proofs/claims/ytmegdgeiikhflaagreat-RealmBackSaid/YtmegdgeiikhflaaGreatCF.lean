/-
  A realm read out of bytes: Read.
  Conditions: those that each lemma names.
-/
import Derived.Test.YtmegdgeiikhflaaGreatCE
namespace Go.Proofs.YtmegdgeiikhflaaGreat.CF
set_option maxRecDepth 100000
open Go Go.RowKit Go.Lib Go.Proofs.YtmegdgeiikhflaaGreat Go.Proofs.YtmegdgeiikhflaaGreat.Facts Go.Proofs.YtmegdgeiikhflaaGreat.Bytes Go.Proofs.YtmegdgeiikhflaaGreat.Plain Go.Proofs.YtmegdgeiikhflaaGreat.Ints Go.Proofs.YtmegdgeiikhflaaGreat.LBox Go.Proofs.YtmegdgeiikhflaaGreat.RRows Go.Proofs.YtmegdgeiikhflaaGreat.Puts Go.Proofs.YtmegdgeiikhflaaGreat.Scan Go.Proofs.YtmegdgeiikhflaaGreat.Take Go.Proofs.YtmegdgeiikhflaaGreat.Nums Go.Proofs.YtmegdgeiikhflaaGreat.BA Go.Proofs.YtmegdgeiikhflaaGreat.BB Go.Proofs.YtmegdgeiikhflaaGreat.BC Go.Proofs.YtmegdgeiikhflaaGreat.BD Go.Proofs.YtmegdgeiikhflaaGreat.CA Go.Proofs.YtmegdgeiikhflaaGreat.CB Go.Proofs.YtmegdgeiikhflaaGreat.CC Go.Proofs.YtmegdgeiikhflaaGreat.CD Go.Proofs.YtmegdgeiikhflaaGreat.CE Go.Proofs.YtmegdgeiikhflaaGreat.RSmall Go.Proofs.YtmegdgeiikhflaaGreat.RRules Go.Proofs.YtmegdgeiikhflaaGreat.RRule3 Go.Proofs.YtmegdgeiikhflaaGreat.RRight


theorem Tall.eq {T : Type} {f g : FuncId} {own : World → Nat → Value → List T → Prop} {one : Sc → T × Sc} (h : Tall f g own one) (w : World) (lo hi : Nat) (p : Value) (s : Sc) (X : List T) (s1 : Sc)
    (hs : SC w lo hi p s) (hh : hi ≤ w.heap.size) (hl : s.l.length ≤ 140737488355328) (ho : allP one s = (X, s1)) :
    Calls Tryz.prog f #[p, .int .i64 8, .func (.func g) #[] #[]] w fun e w' => ∃ v, e = .returned v ∧ own w' w.heap.size v X ∧ SC w' lo hi p s1 ∧ Chg p w w' := by
  have := h w lo hi p s hs hh hl
  rwa [ho] at this
theorem own_grewx {W W' : World} {base t n c : Nat} {v : Value} {xs : List Value} (ho : W.ownsRow base t n v c xs) (hg : Grew W W') : W'.ownsRow base t n v c xs :=
  own_chg ho (Chg.of_grew (p := .pointer none) hg) fun b hb => by cases hb
theorem own_sl {W : World} {base t n c : Nat} {v : Value} {xs : List Value} (ho : W.ownsRow base t n v c xs) : ∃ A cap, v = .slice A c cap := by
  rcases ho.2 with ⟨rfl, h, _⟩ | ⟨g, cap, cur, rfl, _⟩
  · exact ⟨_, _, rfl⟩
  · exact ⟨_, _, rfl⟩

theorem own_keepK {W W' : World} {lo base t n c : Nat} {v : Value} {xs : List Value} (ho : W.ownsRow base t n v c xs) (hb : lo ≤ base) (hk : ∀ b, lo ≤ b → b < W.heap.size → W'.heap[b]? = W.heap[b]?) : W'.ownsRow base t n v c xs := by
  refine ⟨ho.1, ho.2.imp id fun ⟨g, cap, cur, h1, h2, h3, h4⟩ => ⟨g, cap, cur, h1, h2, ?_, h4⟩⟩
  exact (hk g (by omega) (Array.getElem?_eq_some_iff.1 h3).1).trans h3
theorem zero_is (W : World) : ReIs W (.agg #[.slice none 0 0, .slice none 0 0, .slice none 0 0, .slice none 0 0, .slice none 0 0, .int .i64 0, .int .i64 0, .int .i64 0, .int .i64 0]) re0 :=
  ⟨_, _, _, _, _, rfl, rw_none _, ⟨none, 0, rfl, Nat.le_refl _, by decide, fun _ => rfl, fun ad ha => by cases ha⟩, rw_none _, rw_none _, rw_none _⟩
theorem re_is {W : World} {b1 b2 b3 b4 b5 : Nat} {v0 v1 v2 v3 v4 : Value} {A : List La} {B : List Int} {C : List Ac} {G : List Gu} {Q : List Qu} (h0 : OwnL W b1 v0 A) (h1 : OwnI W b2 v1 B) (h2 : OwnA W b3 v2 C) (h3 : OwnG W b4 v3 G) (h4 : OwnQ W b5 v4 Q) (o u t n : Int) :
    ReIs W (.agg #[v0, v1, v2, v3, v4, .int .i64 o, .int .i64 u, .int .i64 t, .int .i64 n]) ⟨A, B, C, G, Q, o, u, t, n⟩ :=
  ⟨_, _, _, _, _, rfl, Rw.of_own h0 fun h => by rw [List.eq_nil_of_length_eq_zero h]; rfl, Is.of_own h1 rfl, Rw.of_own h2 fun h => by rw [List.eq_nil_of_length_eq_zero h]; rfl,
    Rw.of_own h3 fun h => by rw [List.eq_nil_of_length_eq_zero h]; rfl, Rw.of_own h4 fun h => by rw [List.eq_nil_of_length_eq_zero h]; rfl⟩

set_option maxHeartbeats 4000000 in
/-- A realm out of bytes. -/
theorem read_any (S : Nat → Prop) (v : Value) (l : List UInt8) (w : World) (h : Rd S w v l) (hl : l.length ≤ 140737488355328) :
    Calls Tryz.prog 27 #[v] w fun e w' => ∃ v', e = .returned (.tuple #[v', .int .i64 (readP l).2]) ∧ ReIs w' v' (readP l).1 ∧ Grew w w' ∧ ∀ W', (∀ b, w.heap.size ≤ b → b < w'.heap.size → W'.heap[b]? = w'.heap[b]?) → ReIs W' v' (readP l).1 := by
  obtain ⟨⟨A, s1⟩, ha1⟩ : ∃ q, allP oneL ⟨l, 0⟩ = q := ⟨_, rfl⟩
  have lx1 := allP_le oneL oneL_le ⟨l, 0⟩
  rw [ha1] at lx1
  have ly1 := Nat.le_trans lx1 hl
  obtain ⟨⟨B, s2⟩, ha2⟩ : ∃ q, allP takeP s1 = q := ⟨_, rfl⟩
  have lx2 := allP_le takeP takeP_le s1
  rw [ha2] at lx2
  have ly2 := Nat.le_trans lx2 ly1
  obtain ⟨⟨C, s3⟩, ha3⟩ : ∃ q, allP oneA s2 = q := ⟨_, rfl⟩
  have lx3 := allP_le oneA oneA_le s2
  rw [ha3] at lx3
  have ly3 := Nat.le_trans lx3 ly2
  obtain ⟨⟨G, s4⟩, ha4⟩ : ∃ q, allP oneG s3 = q := ⟨_, rfl⟩
  have lx4 := allP_le oneG oneG_le s3
  rw [ha4] at lx4
  have ly4 := Nat.le_trans lx4 ly3
  obtain ⟨⟨Q, s5⟩, ha5⟩ : ∃ q, goN A.length [] s4 = q := ⟨_, rfl⟩
  have lx5 := goN_le A.length [] s4
  rw [ha5] at lx5
  have ly5 := Nat.le_trans lx5 ly4
  obtain ⟨⟨o, s6⟩, ha6⟩ : ∃ q, takeP s5 = q := ⟨_, rfl⟩
  have lx6 := takeP_le s5
  rw [ha6] at lx6
  have ly6 := Nat.le_trans lx6 ly5
  obtain ⟨⟨u, s7⟩, ha7⟩ : ∃ q, takeP s6 = q := ⟨_, rfl⟩
  have lx7 := takeP_le s6
  rw [ha7] at lx7
  have ly7 := Nat.le_trans lx7 ly6
  obtain ⟨⟨t, s8⟩, ha8⟩ : ∃ q, takeP s7 = q := ⟨_, rfl⟩
  have lx8 := takeP_le s7
  rw [ha8] at lx8
  have ly8 := Nat.le_trans lx8 ly7
  obtain ⟨⟨n, s9⟩, ha9⟩ : ∃ q, takeP s8 = q := ⟨_, rfl⟩
  have lx9 := takeP_le s8
  rw [ha9] at lx9
  have ly9 := Nat.le_trans lx9 ly8
  have hR : partsP l = (⟨A, B, C, G, Q, o, u, t, n⟩, s9) := by simp only [partsP, ha1, ha2, ha3, ha4, ha5, ha6, ha7, ha8, ha9]
  have hsz := parts_sized l hl
  rw [hR] at hsz
  have hAl := allP_len oneL ⟨l, 0⟩
  rw [ha1] at hAl
  have HSZ := Lib.hid hsz
  have HAL := Lib.hid hAl
  have HRD := Lib.hid hR
  have HV := Lib.hid h
  have HL := Lib.hid hl
  have HA1 := Lib.hid ha1
  have HL1 := Lib.hid ly1
  have HA2 := Lib.hid ha2
  have HL2 := Lib.hid ly2
  have HA3 := Lib.hid ha3
  have HL3 := Lib.hid ly3
  have HA4 := Lib.hid ha4
  have HL4 := Lib.hid ly4
  have HA5 := Lib.hid ha5
  have HL5 := Lib.hid ly5
  have HA6 := Lib.hid ha6
  have HL6 := Lib.hid ly6
  have HA7 := Lib.hid ha7
  have HL7 := Lib.hid ly7
  have HA8 := Lib.hid ha8
  have HL8 := Lib.hid ly8
  have HA9 := Lib.hid ha9
  have HL9 := Lib.hid ly9
  clear h hl hR hsz hAl ha1 lx1 ly1 ha2 lx2 ly2 ha3 lx3 ly3 ha4 lx4 ly4 ha5 lx5 ly5 ha6 lx6 ly6 ha7 lx7 ly7 ha8 lx8 ly8 ha9 lx9 ly9
  have g0 : Grew w (w.alloc (.cells #[.slice none 0 0, .slice none 0 0, .slice none 0 0, .slice none 0 0, .slice none 0 0, .int .i64 0, .int .i64 0, .int .i64 0, .int .i64 0] 28)) := by unfold Grew; go_grown
  have G0 := Lib.hid g0
  have B0 := Lib.hid (heap_alloc_new w (.cells #[.slice none 0 0, .slice none 0 0, .slice none 0 0, .slice none 0 0, .slice none 0 0, .int .i64 0, .int .i64 0, .int .i64 0, .int .i64 0] 28))
  clear g0
  go_enter Tryz.func27, Tryz.ntmps27
  go_wp2_with fail
  refine (from_any S v l _ (HV.out.grew G0.out) HL.out).mono ?_
  rintro e9 w1 ⟨p, rfl, q1, g1⟩
  have hz : (w.alloc (.cells #[.slice none 0 0, .slice none 0 0, .slice none 0 0, .slice none 0 0, .slice none 0 0, .int .i64 0, .int .i64 0, .int .i64 0, .int .i64 0] 28)).heap.size = w.heap.size + 1 := by simp
  rw [hz] at q1
  have hD : w.heap.size < w1.heap.size := by have := g1.size; omega
  have HD := Lib.hid hD
  have ga : Grew w1 (w1.alloc (.cells #[.slice none 0 0, .slice none 0 0, .slice none 0 0, .slice none 0 0, .slice none 0 0, .int .i64 0, .int .i64 0, .int .i64 0, .int .i64 0] 28)) := by unfold Grew; go_grown
  have HST0 : Hid (St w p w1.heap.size ⟨l, 0⟩ #[.slice none 0 0, .slice none 0 0, .slice none 0 0, .slice none 0 0, .slice none 0 0, .int .i64 0, .int .i64 0, .int .i64 0, .int .i64 0] (w1.alloc (.cells #[.slice none 0 0, .slice none 0 0, .slice none 0 0, .slice none 0 0, .slice none 0 0, .int .i64 0, .int .i64 0, .int .i64 0, .int .i64 0] 28))) := Lib.hid ⟨(G0.out.trans g1).trans ga, keepB (keepB B0.out g1) ga, heap_alloc_new w1 _, q1.grew ga⟩
  have HP : Hid (∀ k, blk p = some k → k < w1.heap.size + 1) := Lib.hid fun k hk => Nat.lt_succ_of_lt (blk_lt q1 k hk)
  clear hz hD ga q1 g1
  go_wp2_with fail
  refine (Tall.eq all_L _ (w.heap.size + 1) w1.heap.size p ⟨l, 0⟩ A s1 HST0.out.scan (Nat.le_of_lt HST0.out.ltD) HL.out HA1.out).mono ?_
  rintro e9 w2 ⟨v0, rfl, hown, q1, c1⟩
  have st := HST0.out.chg c1 HD.out q1
  obtain ⟨A0', cp0', rfl⟩ := own_sl hown
  have HST1 : Hid (St w p w1.heap.size s1 #[(.slice A0' A.length cp0'), .slice none 0 0, .slice none 0 0, .slice none 0 0, .slice none 0 0, .int .i64 0, .int .i64 0, .int .i64 0, .int .i64 0] (w2.setCell ⟨w1.heap.size, 0, none⟩ (.slice A0' A.length cp0'))) := Lib.hid (st.set HD.out 0 (.slice A0' A.length cp0'))
  have HO0_1 : Hid (OwnL (w2.setCell ⟨w1.heap.size, 0, none⟩ (.slice A0' A.length cp0')) (w1.heap.size + 1) (.slice A0' A.length cp0') A) := Lib.hid (own_set (World.ownsRow.mono hown HST0.out.ltD) (Nat.lt_succ_self _))
  have HX0 := Lib.hid st.box
  clear st hown q1 c1 
  obtain ⟨c0, c1, c2, c3, c4, c5, c6, c7, c8⟩ := nine_c HX0.out
  have fz := frz (k := 0) HX0.out
  go_wp2_with fail
  refine (Tall.eq all_I _ (w.heap.size + 1) w1.heap.size p s1 B s2 HST1.out.scan (Nat.le_of_lt HST1.out.ltD) HL1.out HA2.out).mono ?_
  rintro e9 w3 ⟨v1, rfl, hown, q1, c1⟩
  have st := HST1.out.chg c1 HD.out q1
  obtain ⟨A1', cp1', rfl⟩ := own_sl hown
  have HST2 : Hid (St w p w1.heap.size s2 #[(.slice A0' A.length cp0'), (.slice A1' B.length cp1'), .slice none 0 0, .slice none 0 0, .slice none 0 0, .int .i64 0, .int .i64 0, .int .i64 0, .int .i64 0] (w3.setCell ⟨w1.heap.size, 1, none⟩ (.slice A1' B.length cp1'))) := Lib.hid (st.set HD.out 1 (.slice A1' B.length cp1'))
  have HO1_2 : Hid (OwnI (w3.setCell ⟨w1.heap.size, 1, none⟩ (.slice A1' B.length cp1')) (w1.heap.size + 1) (.slice A1' B.length cp1') B) := Lib.hid (own_set (World.ownsRow.mono hown HST1.out.ltD) (Nat.lt_succ_self _))
  have HO0_2 : Hid (OwnL (w3.setCell ⟨w1.heap.size, 1, none⟩ (.slice A1' B.length cp1')) (w1.heap.size + 1) (.slice A0' A.length cp0') A) := Lib.hid (own_set (own_chg HO0_1.out c1 HP.out) (Nat.lt_succ_self _))
  have HX1 := Lib.hid st.box
  clear st hown q1 c1 HO0_1
  obtain ⟨c0, c1, c2, c3, c4, c5, c6, c7, c8⟩ := nine_c HX1.out
  have fz := frz (k := 1) HX1.out
  go_wp2_with fail
  refine (Tall.eq all_A _ (w.heap.size + 1) w1.heap.size p s2 C s3 HST2.out.scan (Nat.le_of_lt HST2.out.ltD) HL2.out HA3.out).mono ?_
  rintro e9 w4 ⟨v2, rfl, hown, q1, c1⟩
  have st := HST2.out.chg c1 HD.out q1
  obtain ⟨A2', cp2', rfl⟩ := own_sl hown
  have HST3 : Hid (St w p w1.heap.size s3 #[(.slice A0' A.length cp0'), (.slice A1' B.length cp1'), (.slice A2' C.length cp2'), .slice none 0 0, .slice none 0 0, .int .i64 0, .int .i64 0, .int .i64 0, .int .i64 0] (w4.setCell ⟨w1.heap.size, 2, none⟩ (.slice A2' C.length cp2'))) := Lib.hid (st.set HD.out 2 (.slice A2' C.length cp2'))
  have HO2_3 : Hid (OwnA (w4.setCell ⟨w1.heap.size, 2, none⟩ (.slice A2' C.length cp2')) (w1.heap.size + 1) (.slice A2' C.length cp2') C) := Lib.hid (own_set (World.ownsRow.mono hown HST2.out.ltD) (Nat.lt_succ_self _))
  have HO0_3 : Hid (OwnL (w4.setCell ⟨w1.heap.size, 2, none⟩ (.slice A2' C.length cp2')) (w1.heap.size + 1) (.slice A0' A.length cp0') A) := Lib.hid (own_set (own_chg HO0_2.out c1 HP.out) (Nat.lt_succ_self _))
  have HO1_3 : Hid (OwnI (w4.setCell ⟨w1.heap.size, 2, none⟩ (.slice A2' C.length cp2')) (w1.heap.size + 1) (.slice A1' B.length cp1') B) := Lib.hid (own_set (own_chg HO1_2.out c1 HP.out) (Nat.lt_succ_self _))
  have HX2 := Lib.hid st.box
  clear st hown q1 c1 HO0_2 HO1_2
  obtain ⟨c0, c1, c2, c3, c4, c5, c6, c7, c8⟩ := nine_c HX2.out
  have fz := frz (k := 2) HX2.out
  go_wp2_with fail
  refine (Tall.eq all_G _ (w.heap.size + 1) w1.heap.size p s3 G s4 HST3.out.scan (Nat.le_of_lt HST3.out.ltD) HL3.out HA4.out).mono ?_
  rintro e9 w5 ⟨v3, rfl, hown, q1, c1⟩
  have st := HST3.out.chg c1 HD.out q1
  obtain ⟨A3', cp3', rfl⟩ := own_sl hown
  have HST4 : Hid (St w p w1.heap.size s4 #[(.slice A0' A.length cp0'), (.slice A1' B.length cp1'), (.slice A2' C.length cp2'), (.slice A3' G.length cp3'), .slice none 0 0, .int .i64 0, .int .i64 0, .int .i64 0, .int .i64 0] (w5.setCell ⟨w1.heap.size, 3, none⟩ (.slice A3' G.length cp3'))) := Lib.hid (st.set HD.out 3 (.slice A3' G.length cp3'))
  have HO3_4 : Hid (OwnG (w5.setCell ⟨w1.heap.size, 3, none⟩ (.slice A3' G.length cp3')) (w1.heap.size + 1) (.slice A3' G.length cp3') G) := Lib.hid (own_set (World.ownsRow.mono hown HST3.out.ltD) (Nat.lt_succ_self _))
  have HO0_4 : Hid (OwnL (w5.setCell ⟨w1.heap.size, 3, none⟩ (.slice A3' G.length cp3')) (w1.heap.size + 1) (.slice A0' A.length cp0') A) := Lib.hid (own_set (own_chg HO0_3.out c1 HP.out) (Nat.lt_succ_self _))
  have HO1_4 : Hid (OwnI (w5.setCell ⟨w1.heap.size, 3, none⟩ (.slice A3' G.length cp3')) (w1.heap.size + 1) (.slice A1' B.length cp1') B) := Lib.hid (own_set (own_chg HO1_3.out c1 HP.out) (Nat.lt_succ_self _))
  have HO2_4 : Hid (OwnA (w5.setCell ⟨w1.heap.size, 3, none⟩ (.slice A3' G.length cp3')) (w1.heap.size + 1) (.slice A2' C.length cp2') C) := Lib.hid (own_set (own_chg HO2_3.out c1 HP.out) (Nat.lt_succ_self _))
  have HX3 := Lib.hid st.box
  clear st hown q1 c1 HO0_3 HO1_3 HO2_3
  obtain ⟨c0, c1, c2, c3, c4, c5, c6, c7, c8⟩ := nine_c HX3.out
  have fz := frz (k := 3) HX3.out
  obtain ⟨d0, d1, d2, d3, d4, d5, d6, d7, d8⟩ := nine_c HST4.out.box
  go_wp2
  clear c0 c1 c2 c3 c4 c5 c6 c7 c8 d0 d1 d2 d3 d4 d5 d6 d7 d8 fz
  have HD4 : Hid (w1.heap.size < (w5.setCell ⟨w1.heap.size, 3, none⟩ (.slice A3' G.length cp3')).heap.size) := Lib.hid HST4.out.ltD
  have HP4 : Hid (∀ k, blk p = some k → k < (w5.setCell ⟨w1.heap.size, 3, none⟩ (.slice A3' G.length cp3')).heap.size) := Lib.hid fun k hk => by have := HP.out k hk; have := HD4.out; omega
  go_loopg [24] A.length (fun g s24 wx => ∃ (k : Nat) (acc : List Qu) (sx : Sc) (v4 : Value), k + g = A.length ∧ s24 = .int .i64 k ∧ Hid (acc.length = k) ∧ Hid (OwnQ wx (w5.setCell ⟨w1.heap.size, 3, none⟩ (.slice A3' G.length cp3')).heap.size v4 acc) ∧ Hid (St w p w1.heap.size sx #[(.slice A0' A.length cp0'), (.slice A1' B.length cp1'), (.slice A2' C.length cp2'), (.slice A3' G.length cp3'), v4, .int .i64 0, .int .i64 0, .int .i64 0, .int .i64 0] wx) ∧ Hid (Kp (w5.setCell ⟨w1.heap.size, 3, none⟩ (.slice A3' G.length cp3')).heap.size p w1.heap.size (w5.setCell ⟨w1.heap.size, 3, none⟩ (.slice A3' G.length cp3')) wx) ∧ Hid (sx.l.length ≤ 140737488355328) ∧ Hid (goN g acc sx = (Q, s5)))
  case atStart => exact ⟨0, [], s4, .slice none 0 0, by omega, rfl, Lib.hid rfl, Lib.hid (World.ownsRow_nil _ _ _ _), HST4, Lib.hid (Kp.refl _ _ _ _), HL4, HA5⟩
  case round =>
    clear HST0 HST1 HST2 HST3 HST4
    obtain ⟨k, acc, sx, v4, hkg, rfl, HA, HO, HST, HK, HLx, HG⟩ := hrel
    cases gk with
    | zero =>
      have hkz : ¬ ((k : Int) < (A.length : Int)) := by omega
      have hg := HG.out
      rw [show (0 : Nat) = 0 from rfl] at hg
      unfold goN at hg
      simp only [Prod.mk.injEq] at hg
      obtain ⟨i1, i2⟩ := hg
      have hoq := HO.out
      rw [i1] at hoq
      have hst := HST.out
      rw [i2] at hst
      obtain ⟨A4', cp4', rfl⟩ := own_sl hoq
      have HOQ := Lib.hid hoq
      have HT0 := Lib.hid hst
      have K0 := HK
      clear hoq hst i1 i2 hkg HO HST HG HLx HA
      have HS_ := Lib.hid HT0.out.scan
      have HH_ := Lib.hid (Nat.le_of_lt HT0.out.ltD)
      go_wp2_with fail
      refine (take_one.eq _ (w.heap.size + 1) w1.heap.size p s5 o s6 HS_ HH_ HL5 HA6).mono ?_
      rintro e9 y1 ⟨rfl, q1, c1⟩
      have HT1 := Lib.hid (HT0.out.chg c1 HD.out q1)
      have HOQ1 := Lib.hid (own_chg HOQ.out c1 HP4.out)
      have K1 := Lib.hid (K0.out.trans (Kp.chg c1 K0.out.size))
      clear q1 c1 HS_ HH_
      have HS_ := Lib.hid HT1.out.scan
      have HH_ := Lib.hid (Nat.le_of_lt HT1.out.ltD)
      go_wp2_with fail
      refine (take_one.eq _ (w.heap.size + 1) w1.heap.size p s6 u s7 HS_ HH_ HL6 HA7).mono ?_
      rintro e9 y2 ⟨rfl, q1, c1⟩
      have HT2 := Lib.hid (HT1.out.chg c1 HD.out q1)
      have HOQ2 := Lib.hid (own_chg HOQ1.out c1 HP4.out)
      have K2 := Lib.hid (K1.out.trans (Kp.chg c1 K1.out.size))
      clear q1 c1 HS_ HH_
      have HS_ := Lib.hid HT2.out.scan
      have HH_ := Lib.hid (Nat.le_of_lt HT2.out.ltD)
      go_wp2_with fail
      refine (take_one.eq _ (w.heap.size + 1) w1.heap.size p s7 t s8 HS_ HH_ HL7 HA8).mono ?_
      rintro e9 y3 ⟨rfl, q1, c1⟩
      have HT3 := Lib.hid (HT2.out.chg c1 HD.out q1)
      have HOQ3 := Lib.hid (own_chg HOQ2.out c1 HP4.out)
      have K3 := Lib.hid (K2.out.trans (Kp.chg c1 K2.out.size))
      clear q1 c1 HS_ HH_
      have HS_ := Lib.hid HT3.out.scan
      have HH_ := Lib.hid (Nat.le_of_lt HT3.out.ltD)
      go_wp2_with fail
      refine (take_one.eq _ (w.heap.size + 1) w1.heap.size p s8 n s9 HS_ HH_ HL8 HA9).mono ?_
      rintro e9 y4 ⟨rfl, q1, c1⟩
      have HT4 := Lib.hid (HT3.out.chg c1 HD.out q1)
      have HOQ4 := Lib.hid (own_chg HOQ3.out c1 HP4.out)
      have K4 := Lib.hid (K3.out.trans (Kp.chg c1 K3.out.size))
      clear q1 c1 HS_ HH_
      have HTY : Hid (St w p w1.heap.size s9 #[(.slice A0' A.length cp0'), (.slice A1' B.length cp1'), (.slice A2' C.length cp2'), (.slice A3' G.length cp3'), (.slice A4' Q.length cp4'), .int .i64 o, .int .i64 u, .int .i64 t, .int .i64 n] ((((y4.setCell ⟨w1.heap.size, 5, none⟩ (.int .i64 o)).setCell ⟨w1.heap.size, 6, none⟩ (.int .i64 u)).setCell ⟨w1.heap.size, 7, none⟩ (.int .i64 t)).setCell ⟨w1.heap.size, 8, none⟩ (.int .i64 n))) := Lib.hid ((((HT4.out.set HD.out 5 (.int .i64 o)).set HD.out 6 (.int .i64 u)).set HD.out 7 (.int .i64 t)).set HD.out 8 (.int .i64 n))
      have HQY : Hid (OwnQ ((((y4.setCell ⟨w1.heap.size, 5, none⟩ (.int .i64 o)).setCell ⟨w1.heap.size, 6, none⟩ (.int .i64 u)).setCell ⟨w1.heap.size, 7, none⟩ (.int .i64 t)).setCell ⟨w1.heap.size, 8, none⟩ (.int .i64 n)) (w5.setCell ⟨w1.heap.size, 3, none⟩ (.slice A3' G.length cp3')).heap.size (.slice A4' Q.length cp4') Q) := Lib.hid (own_set (own_set (own_set (own_set HOQ4.out HD4.out) HD4.out) HD4.out) HD4.out)
      have HKY : Hid (Kp (w5.setCell ⟨w1.heap.size, 3, none⟩ (.slice A3' G.length cp3')).heap.size p w1.heap.size (w5.setCell ⟨w1.heap.size, 3, none⟩ (.slice A3' G.length cp3')) ((((y4.setCell ⟨w1.heap.size, 5, none⟩ (.int .i64 o)).setCell ⟨w1.heap.size, 6, none⟩ (.int .i64 u)).setCell ⟨w1.heap.size, 7, none⟩ (.int .i64 t)).setCell ⟨w1.heap.size, 8, none⟩ (.int .i64 n))) := Lib.hid (Kp.trans (Kp.trans (Kp.trans (Kp.trans K4.out (Kp.set _ 5 _)) (Kp.set _ 6 _)) (Kp.set _ 7 _)) (Kp.set _ 8 _))
      have HY0 : Hid (OwnL ((((y4.setCell ⟨w1.heap.size, 5, none⟩ (.int .i64 o)).setCell ⟨w1.heap.size, 6, none⟩ (.int .i64 u)).setCell ⟨w1.heap.size, 7, none⟩ (.int .i64 t)).setCell ⟨w1.heap.size, 8, none⟩ (.int .i64 n)) (w1.heap.size + 1) (.slice A0' A.length cp0') A) := Lib.hid (Kp.row HKY.out HO0_4.out (Nat.le_refl _) (Nat.lt_succ_self _) HP.out)
      have HY1 : Hid (OwnI ((((y4.setCell ⟨w1.heap.size, 5, none⟩ (.int .i64 o)).setCell ⟨w1.heap.size, 6, none⟩ (.int .i64 u)).setCell ⟨w1.heap.size, 7, none⟩ (.int .i64 t)).setCell ⟨w1.heap.size, 8, none⟩ (.int .i64 n)) (w1.heap.size + 1) (.slice A1' B.length cp1') B) := Lib.hid (Kp.row HKY.out HO1_4.out (Nat.le_refl _) (Nat.lt_succ_self _) HP.out)
      have HY2 : Hid (OwnA ((((y4.setCell ⟨w1.heap.size, 5, none⟩ (.int .i64 o)).setCell ⟨w1.heap.size, 6, none⟩ (.int .i64 u)).setCell ⟨w1.heap.size, 7, none⟩ (.int .i64 t)).setCell ⟨w1.heap.size, 8, none⟩ (.int .i64 n)) (w1.heap.size + 1) (.slice A2' C.length cp2') C) := Lib.hid (Kp.row HKY.out HO2_4.out (Nat.le_refl _) (Nat.lt_succ_self _) HP.out)
      have HY3 : Hid (OwnG ((((y4.setCell ⟨w1.heap.size, 5, none⟩ (.int .i64 o)).setCell ⟨w1.heap.size, 6, none⟩ (.int .i64 u)).setCell ⟨w1.heap.size, 7, none⟩ (.int .i64 t)).setCell ⟨w1.heap.size, 8, none⟩ (.int .i64 n)) (w1.heap.size + 1) (.slice A3' G.length cp3') G) := Lib.hid (Kp.row HKY.out HO3_4.out (Nat.le_refl _) (Nat.lt_succ_self _) HP.out)
      obtain ⟨c0, c1, c2, c3, c4, c5, c6, c7, c8⟩ := nine_c HT4.out.box
      have f5 := frz (k := 5) HT4.out.box
      have f6 := frz (k := 6) HT4.out.box
      have f7 := frz (k := 7) HT4.out.box
      have f8 := frz (k := 8) HT4.out.box
      go_wp2_with fail
      refine (end_any _ (w.heap.size + 1) w1.heap.size p s9 HTY.out.scan).mono ?_
      rintro e9 y5 ⟨rfl, rfl⟩
      clear c0 c1 c2 c3 c4 c5 c6 c7 c8 f5 f6 f7 f8
      obtain ⟨x, hx⟩ : ∃ x, s9.fin = x := ⟨_, rfl⟩
      rw [hx]
      obtain ⟨Y, hY⟩ : ∃ Y, ((((y4.setCell ⟨w1.heap.size, 5, none⟩ (.int .i64 o)).setCell ⟨w1.heap.size, 6, none⟩ (.int .i64 u)).setCell ⟨w1.heap.size, 7, none⟩ (.int .i64 t)).setCell ⟨w1.heap.size, 8, none⟩ (.int .i64 n)) = Y := ⟨_, rfl⟩
      rw [hY] at HTY HQY HKY HY0 HY1 HY2 HY3 ⊢
      clear hY HT0 HT1 HT2 HT3 HT4 HOQ HOQ1 HOQ2 HOQ3 HOQ4 K0 K1 K2 K3 K4
      by_cases hf : x = 0
      · subst hf
        have HX0 := Lib.hid hx
        clear hx
        have HRE : Hid (∀ W, Grew Y W → ReIs W (.agg #[(.slice A0' A.length cp0'), (.slice A1' B.length cp1'), (.slice A2' C.length cp2'), (.slice A3' G.length cp3'), (.slice A4' Q.length cp4'), .int .i64 o, .int .i64 u, .int .i64 t, .int .i64 n]) ⟨A, B, C, G, Q, o, u, t, n⟩) := Lib.hid fun W hg => re_is (own_grewx HY0.out hg) (own_grewx HY1.out hg) (own_grewx HY2.out hg) (own_grewx HY3.out hg) (own_grewx HQY.out hg) o u t n
        have HRR := Lib.hid (right_re _ _ Y (HRE.out Y (Grew.refl _)) HSZ.out)
        obtain ⟨c0, c1, c2, c3, c4, c5, c6, c7, c8⟩ := nine_c HTY.out.box
        go_wp2_with fail
        refine HRR.out.mono ?_
        rintro e9 y6 ⟨rfl, hg⟩
        have G6 := Lib.hid hg
        have B6 := Lib.hid (keepB HTY.out.res hg)
        have D6 := Lib.hid (keepB HTY.out.box hg)
        clear hg c0 c1 c2 c3 c4 c5 c6 c7 c8 HRR
        cases hm : mayBe ⟨A, B, C, G, Q, o, u, t, n⟩ with
        | false =>
          have hrd : readP l = (re0, 2) := by unfold readP; rw [HRD.out]; simp only [HX0.out, hm]; rfl
          have HR := Lib.hid hrd
          clear hrd hm
          obtain ⟨c0, c1, c2, c3, c4, c5, c6, c7, c8⟩ := nine_c B6.out
          have f0 := frz (k := 0) B6.out
          have f1 := frz (k := 1) B6.out
          have f2 := frz (k := 2) B6.out
          have f3 := frz (k := 3) B6.out
          have f4 := frz (k := 4) B6.out
          have f5 := frz (k := 5) B6.out
          have f6 := frz (k := 6) B6.out
          have f7 := frz (k := 7) B6.out
          have f8 := frz (k := 8) B6.out
          have e0 : ∀ x0, (y6.setCell ⟨w.heap.size, 0, none⟩ x0).cell? ⟨w.heap.size, 0, none⟩ = some x0 := fun x0 => World.cell?_setCell_same _ _ _ (by exact c0)
          have e1 : ∀ x0 x1, ((y6.setCell ⟨w.heap.size, 0, none⟩ x0).setCell ⟨w.heap.size, 1, none⟩ x1).cell? ⟨w.heap.size, 1, none⟩ = some x1 := fun x0 x1 => World.cell?_setCell_same _ _ _ (by (iterate 1 rw [World.cell?_setCell_other]); exact c1; all_goals simp)
          have e2 : ∀ x0 x1 x2, (((y6.setCell ⟨w.heap.size, 0, none⟩ x0).setCell ⟨w.heap.size, 1, none⟩ x1).setCell ⟨w.heap.size, 2, none⟩ x2).cell? ⟨w.heap.size, 2, none⟩ = some x2 := fun x0 x1 x2 => World.cell?_setCell_same _ _ _ (by (iterate 2 rw [World.cell?_setCell_other]); exact c2; all_goals simp)
          have e3 : ∀ x0 x1 x2 x3, ((((y6.setCell ⟨w.heap.size, 0, none⟩ x0).setCell ⟨w.heap.size, 1, none⟩ x1).setCell ⟨w.heap.size, 2, none⟩ x2).setCell ⟨w.heap.size, 3, none⟩ x3).cell? ⟨w.heap.size, 3, none⟩ = some x3 := fun x0 x1 x2 x3 => World.cell?_setCell_same _ _ _ (by (iterate 3 rw [World.cell?_setCell_other]); exact c3; all_goals simp)
          have e4 : ∀ x0 x1 x2 x3 x4, (((((y6.setCell ⟨w.heap.size, 0, none⟩ x0).setCell ⟨w.heap.size, 1, none⟩ x1).setCell ⟨w.heap.size, 2, none⟩ x2).setCell ⟨w.heap.size, 3, none⟩ x3).setCell ⟨w.heap.size, 4, none⟩ x4).cell? ⟨w.heap.size, 4, none⟩ = some x4 := fun x0 x1 x2 x3 x4 => World.cell?_setCell_same _ _ _ (by (iterate 4 rw [World.cell?_setCell_other]); exact c4; all_goals simp)
          have e5 : ∀ x0 x1 x2 x3 x4 x5, ((((((y6.setCell ⟨w.heap.size, 0, none⟩ x0).setCell ⟨w.heap.size, 1, none⟩ x1).setCell ⟨w.heap.size, 2, none⟩ x2).setCell ⟨w.heap.size, 3, none⟩ x3).setCell ⟨w.heap.size, 4, none⟩ x4).setCell ⟨w.heap.size, 5, none⟩ x5).cell? ⟨w.heap.size, 5, none⟩ = some x5 := fun x0 x1 x2 x3 x4 x5 => World.cell?_setCell_same _ _ _ (by (iterate 5 rw [World.cell?_setCell_other]); exact c5; all_goals simp)
          have e6 : ∀ x0 x1 x2 x3 x4 x5 x6, (((((((y6.setCell ⟨w.heap.size, 0, none⟩ x0).setCell ⟨w.heap.size, 1, none⟩ x1).setCell ⟨w.heap.size, 2, none⟩ x2).setCell ⟨w.heap.size, 3, none⟩ x3).setCell ⟨w.heap.size, 4, none⟩ x4).setCell ⟨w.heap.size, 5, none⟩ x5).setCell ⟨w.heap.size, 6, none⟩ x6).cell? ⟨w.heap.size, 6, none⟩ = some x6 := fun x0 x1 x2 x3 x4 x5 x6 => World.cell?_setCell_same _ _ _ (by (iterate 6 rw [World.cell?_setCell_other]); exact c6; all_goals simp)
          have e7 : ∀ x0 x1 x2 x3 x4 x5 x6 x7, ((((((((y6.setCell ⟨w.heap.size, 0, none⟩ x0).setCell ⟨w.heap.size, 1, none⟩ x1).setCell ⟨w.heap.size, 2, none⟩ x2).setCell ⟨w.heap.size, 3, none⟩ x3).setCell ⟨w.heap.size, 4, none⟩ x4).setCell ⟨w.heap.size, 5, none⟩ x5).setCell ⟨w.heap.size, 6, none⟩ x6).setCell ⟨w.heap.size, 7, none⟩ x7).cell? ⟨w.heap.size, 7, none⟩ = some x7 := fun x0 x1 x2 x3 x4 x5 x6 x7 => World.cell?_setCell_same _ _ _ (by (iterate 7 rw [World.cell?_setCell_other]); exact c7; all_goals simp)
          have e8 : ∀ x0 x1 x2 x3 x4 x5 x6 x7 x8, (((((((((y6.setCell ⟨w.heap.size, 0, none⟩ x0).setCell ⟨w.heap.size, 1, none⟩ x1).setCell ⟨w.heap.size, 2, none⟩ x2).setCell ⟨w.heap.size, 3, none⟩ x3).setCell ⟨w.heap.size, 4, none⟩ x4).setCell ⟨w.heap.size, 5, none⟩ x5).setCell ⟨w.heap.size, 6, none⟩ x6).setCell ⟨w.heap.size, 7, none⟩ x7).setCell ⟨w.heap.size, 8, none⟩ x8).cell? ⟨w.heap.size, 8, none⟩ = some x8 := fun x0 x1 x2 x3 x4 x5 x6 x7 x8 => World.cell?_setCell_same _ _ _ (by (iterate 8 rw [World.cell?_setCell_other]); exact c8; all_goals simp)
          go_wp2
          refine bodyPost_ret (by simp [results, Tryz.results27, go_sem, e0, e1, e2, e3, e4, e5, e6, e7, e8]; try rfl) rfl ?_
          rw [HR.out]
          exact ⟨_, rfl, zero_is _, Below.setCell (Below.setCell (Below.setCell (Below.setCell (Below.setCell (Below.setCell (Below.setCell (Below.setCell (Below.setCell (HTY.out.grew.trans G6.out) (Nat.le_refl _) _) (Nat.le_refl _) _) (Nat.le_refl _) _) (Nat.le_refl _) _) (Nat.le_refl _) _) (Nat.le_refl _) _) (Nat.le_refl _) _) (Nat.le_refl _) _) (Nat.le_refl _) _, fun W2 _ => zero_is W2⟩
        | true =>
          have hrd : readP l = (⟨A, B, C, G, Q, o, u, t, n⟩, 0) := by unfold readP; rw [HRD.out]; simp only [HX0.out, hm]; rfl
          have HR := Lib.hid hrd
          clear hrd hm
          obtain ⟨d0, d1, d2, d3, d4, d5, d6, d7, d8⟩ := nine_c D6.out
          have hne : ¬ w.heap.size = w1.heap.size := by have := HD.out; omega
          have hne' : ¬ w1.heap.size = w.heap.size := by have := HD.out; omega
          have HB1 : Hid (w.heap.size < w1.heap.size + 1) := Lib.hid (by have := HD.out; omega)
          have HB5 : Hid (w.heap.size < (w5.setCell ⟨w1.heap.size, 3, none⟩ (.slice A3' G.length cp3')).heap.size) := Lib.hid (Nat.lt_trans HD.out HD4.out)
          obtain ⟨c0, c1, c2, c3, c4, c5, c6, c7, c8⟩ := nine_c B6.out
          have f0 := frz (k := 0) B6.out
          have f1 := frz (k := 1) B6.out
          have f2 := frz (k := 2) B6.out
          have f3 := frz (k := 3) B6.out
          have f4 := frz (k := 4) B6.out
          have f5 := frz (k := 5) B6.out
          have f6 := frz (k := 6) B6.out
          have f7 := frz (k := 7) B6.out
          have f8 := frz (k := 8) B6.out
          have e0 : ∀ x0, (y6.setCell ⟨w.heap.size, 0, none⟩ x0).cell? ⟨w.heap.size, 0, none⟩ = some x0 := fun x0 => World.cell?_setCell_same _ _ _ (by exact c0)
          have e1 : ∀ x0 x1, ((y6.setCell ⟨w.heap.size, 0, none⟩ x0).setCell ⟨w.heap.size, 1, none⟩ x1).cell? ⟨w.heap.size, 1, none⟩ = some x1 := fun x0 x1 => World.cell?_setCell_same _ _ _ (by (iterate 1 rw [World.cell?_setCell_other]); exact c1; all_goals simp)
          have e2 : ∀ x0 x1 x2, (((y6.setCell ⟨w.heap.size, 0, none⟩ x0).setCell ⟨w.heap.size, 1, none⟩ x1).setCell ⟨w.heap.size, 2, none⟩ x2).cell? ⟨w.heap.size, 2, none⟩ = some x2 := fun x0 x1 x2 => World.cell?_setCell_same _ _ _ (by (iterate 2 rw [World.cell?_setCell_other]); exact c2; all_goals simp)
          have e3 : ∀ x0 x1 x2 x3, ((((y6.setCell ⟨w.heap.size, 0, none⟩ x0).setCell ⟨w.heap.size, 1, none⟩ x1).setCell ⟨w.heap.size, 2, none⟩ x2).setCell ⟨w.heap.size, 3, none⟩ x3).cell? ⟨w.heap.size, 3, none⟩ = some x3 := fun x0 x1 x2 x3 => World.cell?_setCell_same _ _ _ (by (iterate 3 rw [World.cell?_setCell_other]); exact c3; all_goals simp)
          have e4 : ∀ x0 x1 x2 x3 x4, (((((y6.setCell ⟨w.heap.size, 0, none⟩ x0).setCell ⟨w.heap.size, 1, none⟩ x1).setCell ⟨w.heap.size, 2, none⟩ x2).setCell ⟨w.heap.size, 3, none⟩ x3).setCell ⟨w.heap.size, 4, none⟩ x4).cell? ⟨w.heap.size, 4, none⟩ = some x4 := fun x0 x1 x2 x3 x4 => World.cell?_setCell_same _ _ _ (by (iterate 4 rw [World.cell?_setCell_other]); exact c4; all_goals simp)
          have e5 : ∀ x0 x1 x2 x3 x4 x5, ((((((y6.setCell ⟨w.heap.size, 0, none⟩ x0).setCell ⟨w.heap.size, 1, none⟩ x1).setCell ⟨w.heap.size, 2, none⟩ x2).setCell ⟨w.heap.size, 3, none⟩ x3).setCell ⟨w.heap.size, 4, none⟩ x4).setCell ⟨w.heap.size, 5, none⟩ x5).cell? ⟨w.heap.size, 5, none⟩ = some x5 := fun x0 x1 x2 x3 x4 x5 => World.cell?_setCell_same _ _ _ (by (iterate 5 rw [World.cell?_setCell_other]); exact c5; all_goals simp)
          have e6 : ∀ x0 x1 x2 x3 x4 x5 x6, (((((((y6.setCell ⟨w.heap.size, 0, none⟩ x0).setCell ⟨w.heap.size, 1, none⟩ x1).setCell ⟨w.heap.size, 2, none⟩ x2).setCell ⟨w.heap.size, 3, none⟩ x3).setCell ⟨w.heap.size, 4, none⟩ x4).setCell ⟨w.heap.size, 5, none⟩ x5).setCell ⟨w.heap.size, 6, none⟩ x6).cell? ⟨w.heap.size, 6, none⟩ = some x6 := fun x0 x1 x2 x3 x4 x5 x6 => World.cell?_setCell_same _ _ _ (by (iterate 6 rw [World.cell?_setCell_other]); exact c6; all_goals simp)
          have e7 : ∀ x0 x1 x2 x3 x4 x5 x6 x7, ((((((((y6.setCell ⟨w.heap.size, 0, none⟩ x0).setCell ⟨w.heap.size, 1, none⟩ x1).setCell ⟨w.heap.size, 2, none⟩ x2).setCell ⟨w.heap.size, 3, none⟩ x3).setCell ⟨w.heap.size, 4, none⟩ x4).setCell ⟨w.heap.size, 5, none⟩ x5).setCell ⟨w.heap.size, 6, none⟩ x6).setCell ⟨w.heap.size, 7, none⟩ x7).cell? ⟨w.heap.size, 7, none⟩ = some x7 := fun x0 x1 x2 x3 x4 x5 x6 x7 => World.cell?_setCell_same _ _ _ (by (iterate 7 rw [World.cell?_setCell_other]); exact c7; all_goals simp)
          have e8 : ∀ x0 x1 x2 x3 x4 x5 x6 x7 x8, (((((((((y6.setCell ⟨w.heap.size, 0, none⟩ x0).setCell ⟨w.heap.size, 1, none⟩ x1).setCell ⟨w.heap.size, 2, none⟩ x2).setCell ⟨w.heap.size, 3, none⟩ x3).setCell ⟨w.heap.size, 4, none⟩ x4).setCell ⟨w.heap.size, 5, none⟩ x5).setCell ⟨w.heap.size, 6, none⟩ x6).setCell ⟨w.heap.size, 7, none⟩ x7).setCell ⟨w.heap.size, 8, none⟩ x8).cell? ⟨w.heap.size, 8, none⟩ = some x8 := fun x0 x1 x2 x3 x4 x5 x6 x7 x8 => World.cell?_setCell_same _ _ _ (by (iterate 8 rw [World.cell?_setCell_other]); exact c8; all_goals simp)
          go_wp2
          refine bodyPost_ret (by simp [results, Tryz.results27, go_sem, e0, e1, e2, e3, e4, e5, e6, e7, e8]; try rfl) rfl ?_
          rw [HR.out]
          exact ⟨_, rfl, re_is (own_set (own_set (own_set (own_set (own_set (own_set (own_set (own_set (own_set (own_grewx HY0.out G6.out) HB1.out) HB1.out) HB1.out) HB1.out) HB1.out) HB1.out) HB1.out) HB1.out) HB1.out) (own_set (own_set (own_set (own_set (own_set (own_set (own_set (own_set (own_set (own_grewx HY1.out G6.out) HB1.out) HB1.out) HB1.out) HB1.out) HB1.out) HB1.out) HB1.out) HB1.out) HB1.out) (own_set (own_set (own_set (own_set (own_set (own_set (own_set (own_set (own_set (own_grewx HY2.out G6.out) HB1.out) HB1.out) HB1.out) HB1.out) HB1.out) HB1.out) HB1.out) HB1.out) HB1.out) (own_set (own_set (own_set (own_set (own_set (own_set (own_set (own_set (own_set (own_grewx HY3.out G6.out) HB1.out) HB1.out) HB1.out) HB1.out) HB1.out) HB1.out) HB1.out) HB1.out) HB1.out) (own_set (own_set (own_set (own_set (own_set (own_set (own_set (own_set (own_set (own_grewx HQY.out G6.out) HB5.out) HB5.out) HB5.out) HB5.out) HB5.out) HB5.out) HB5.out) HB5.out) HB5.out) o u t n, Below.setCell (Below.setCell (Below.setCell (Below.setCell (Below.setCell (Below.setCell (Below.setCell (Below.setCell (Below.setCell (HTY.out.grew.trans G6.out) (Nat.le_refl _) _) (Nat.le_refl _) _) (Nat.le_refl _) _) (Nat.le_refl _) _) (Nat.le_refl _) _) (Nat.le_refl _) _) (Nat.le_refl _) _) (Nat.le_refl _) _) (Nat.le_refl _) _, fun W2 hk => re_is (own_keepK (own_set (own_set (own_set (own_set (own_set (own_set (own_set (own_set (own_set (own_grewx HY0.out G6.out) HB1.out) HB1.out) HB1.out) HB1.out) HB1.out) HB1.out) HB1.out) HB1.out) HB1.out) (Nat.le_of_lt HB1.out) hk) (own_keepK (own_set (own_set (own_set (own_set (own_set (own_set (own_set (own_set (own_set (own_grewx HY1.out G6.out) HB1.out) HB1.out) HB1.out) HB1.out) HB1.out) HB1.out) HB1.out) HB1.out) HB1.out) (Nat.le_of_lt HB1.out) hk) (own_keepK (own_set (own_set (own_set (own_set (own_set (own_set (own_set (own_set (own_set (own_grewx HY2.out G6.out) HB1.out) HB1.out) HB1.out) HB1.out) HB1.out) HB1.out) HB1.out) HB1.out) HB1.out) (Nat.le_of_lt HB1.out) hk) (own_keepK (own_set (own_set (own_set (own_set (own_set (own_set (own_set (own_set (own_set (own_grewx HY3.out G6.out) HB1.out) HB1.out) HB1.out) HB1.out) HB1.out) HB1.out) HB1.out) HB1.out) HB1.out) (Nat.le_of_lt HB1.out) hk) (own_keepK (own_set (own_set (own_set (own_set (own_set (own_set (own_set (own_set (own_set (own_grewx HQY.out G6.out) HB5.out) HB5.out) HB5.out) HB5.out) HB5.out) HB5.out) HB5.out) HB5.out) HB5.out) (Nat.le_of_lt HB5.out) hk) o u t n⟩
      · have hrd : readP l = (re0, x) := by unfold readP; rw [HRD.out]; simp only [hx, if_neg hf]
        have HR := Lib.hid hrd
        clear hrd hx
        obtain ⟨c0, c1, c2, c3, c4, c5, c6, c7, c8⟩ := nine_c HTY.out.res
        have f0 := frz (k := 0) HTY.out.res
        have f1 := frz (k := 1) HTY.out.res
        have f2 := frz (k := 2) HTY.out.res
        have f3 := frz (k := 3) HTY.out.res
        have f4 := frz (k := 4) HTY.out.res
        have f5 := frz (k := 5) HTY.out.res
        have f6 := frz (k := 6) HTY.out.res
        have f7 := frz (k := 7) HTY.out.res
        have f8 := frz (k := 8) HTY.out.res
        have e0 : ∀ x0, (Y.setCell ⟨w.heap.size, 0, none⟩ x0).cell? ⟨w.heap.size, 0, none⟩ = some x0 := fun x0 => World.cell?_setCell_same _ _ _ (by exact c0)
        have e1 : ∀ x0 x1, ((Y.setCell ⟨w.heap.size, 0, none⟩ x0).setCell ⟨w.heap.size, 1, none⟩ x1).cell? ⟨w.heap.size, 1, none⟩ = some x1 := fun x0 x1 => World.cell?_setCell_same _ _ _ (by (iterate 1 rw [World.cell?_setCell_other]); exact c1; all_goals simp)
        have e2 : ∀ x0 x1 x2, (((Y.setCell ⟨w.heap.size, 0, none⟩ x0).setCell ⟨w.heap.size, 1, none⟩ x1).setCell ⟨w.heap.size, 2, none⟩ x2).cell? ⟨w.heap.size, 2, none⟩ = some x2 := fun x0 x1 x2 => World.cell?_setCell_same _ _ _ (by (iterate 2 rw [World.cell?_setCell_other]); exact c2; all_goals simp)
        have e3 : ∀ x0 x1 x2 x3, ((((Y.setCell ⟨w.heap.size, 0, none⟩ x0).setCell ⟨w.heap.size, 1, none⟩ x1).setCell ⟨w.heap.size, 2, none⟩ x2).setCell ⟨w.heap.size, 3, none⟩ x3).cell? ⟨w.heap.size, 3, none⟩ = some x3 := fun x0 x1 x2 x3 => World.cell?_setCell_same _ _ _ (by (iterate 3 rw [World.cell?_setCell_other]); exact c3; all_goals simp)
        have e4 : ∀ x0 x1 x2 x3 x4, (((((Y.setCell ⟨w.heap.size, 0, none⟩ x0).setCell ⟨w.heap.size, 1, none⟩ x1).setCell ⟨w.heap.size, 2, none⟩ x2).setCell ⟨w.heap.size, 3, none⟩ x3).setCell ⟨w.heap.size, 4, none⟩ x4).cell? ⟨w.heap.size, 4, none⟩ = some x4 := fun x0 x1 x2 x3 x4 => World.cell?_setCell_same _ _ _ (by (iterate 4 rw [World.cell?_setCell_other]); exact c4; all_goals simp)
        have e5 : ∀ x0 x1 x2 x3 x4 x5, ((((((Y.setCell ⟨w.heap.size, 0, none⟩ x0).setCell ⟨w.heap.size, 1, none⟩ x1).setCell ⟨w.heap.size, 2, none⟩ x2).setCell ⟨w.heap.size, 3, none⟩ x3).setCell ⟨w.heap.size, 4, none⟩ x4).setCell ⟨w.heap.size, 5, none⟩ x5).cell? ⟨w.heap.size, 5, none⟩ = some x5 := fun x0 x1 x2 x3 x4 x5 => World.cell?_setCell_same _ _ _ (by (iterate 5 rw [World.cell?_setCell_other]); exact c5; all_goals simp)
        have e6 : ∀ x0 x1 x2 x3 x4 x5 x6, (((((((Y.setCell ⟨w.heap.size, 0, none⟩ x0).setCell ⟨w.heap.size, 1, none⟩ x1).setCell ⟨w.heap.size, 2, none⟩ x2).setCell ⟨w.heap.size, 3, none⟩ x3).setCell ⟨w.heap.size, 4, none⟩ x4).setCell ⟨w.heap.size, 5, none⟩ x5).setCell ⟨w.heap.size, 6, none⟩ x6).cell? ⟨w.heap.size, 6, none⟩ = some x6 := fun x0 x1 x2 x3 x4 x5 x6 => World.cell?_setCell_same _ _ _ (by (iterate 6 rw [World.cell?_setCell_other]); exact c6; all_goals simp)
        have e7 : ∀ x0 x1 x2 x3 x4 x5 x6 x7, ((((((((Y.setCell ⟨w.heap.size, 0, none⟩ x0).setCell ⟨w.heap.size, 1, none⟩ x1).setCell ⟨w.heap.size, 2, none⟩ x2).setCell ⟨w.heap.size, 3, none⟩ x3).setCell ⟨w.heap.size, 4, none⟩ x4).setCell ⟨w.heap.size, 5, none⟩ x5).setCell ⟨w.heap.size, 6, none⟩ x6).setCell ⟨w.heap.size, 7, none⟩ x7).cell? ⟨w.heap.size, 7, none⟩ = some x7 := fun x0 x1 x2 x3 x4 x5 x6 x7 => World.cell?_setCell_same _ _ _ (by (iterate 7 rw [World.cell?_setCell_other]); exact c7; all_goals simp)
        have e8 : ∀ x0 x1 x2 x3 x4 x5 x6 x7 x8, (((((((((Y.setCell ⟨w.heap.size, 0, none⟩ x0).setCell ⟨w.heap.size, 1, none⟩ x1).setCell ⟨w.heap.size, 2, none⟩ x2).setCell ⟨w.heap.size, 3, none⟩ x3).setCell ⟨w.heap.size, 4, none⟩ x4).setCell ⟨w.heap.size, 5, none⟩ x5).setCell ⟨w.heap.size, 6, none⟩ x6).setCell ⟨w.heap.size, 7, none⟩ x7).setCell ⟨w.heap.size, 8, none⟩ x8).cell? ⟨w.heap.size, 8, none⟩ = some x8 := fun x0 x1 x2 x3 x4 x5 x6 x7 x8 => World.cell?_setCell_same _ _ _ (by (iterate 8 rw [World.cell?_setCell_other]); exact c8; all_goals simp)
        go_wp2
        refine bodyPost_ret (by simp [results, Tryz.results27, go_sem, e0, e1, e2, e3, e4, e5, e6, e7, e8]; try rfl) rfl ?_
        rw [HR.out]
        exact ⟨_, rfl, zero_is _, Below.setCell (Below.setCell (Below.setCell (Below.setCell (Below.setCell (Below.setCell (Below.setCell (Below.setCell (Below.setCell (HTY.out.grew) (Nat.le_refl _) _) (Nat.le_refl _) _) (Nat.le_refl _) _) (Nat.le_refl _) _) (Nat.le_refl _) _) (Nat.le_refl _) _) (Nat.le_refl _) _) (Nat.le_refl _) _) (Nat.le_refl _) _, fun W2 _ => zero_is W2⟩
    | succ g =>
      have hkz : (k : Int) < (A.length : Int) := by omega
      have hg := HG.out
      unfold goN at hg
      obtain ⟨⟨x, sy⟩, hx⟩ : ∃ q, oneQ sx = q := ⟨_, rfl⟩
      rw [hx] at hg
      have HX := Lib.hid hx
      have HGG := Lib.hid hg
      have HLy := Lib.hid (Nat.le_trans (oneQ_le sx) HLx.out)
      rw [hx] at HLy
      have HKW : Hid (wrap64 ((k : Int) + 1) = ((k + 1 : Nat) : Int)) := Lib.hid (by have := HAL.out; unfold wrap64; omega)
      have HM : Hid (k + 1 + g = A.length) := Lib.hid (by omega)
      have HAC : Hid (acc.length ≤ 1000) := Lib.hid (by rw [HA.out]; have := HAL.out; omega)
      have HA1 : Hid ((acc ++ [x]).length = k + 1) := Lib.hid (by rw [List.length_append, HA.out]; rfl)
      clear hg hx hkg HG
      go_wp2
      obtain ⟨P0, i0⟩ : ∃ P : World → Prop, ∀ W, P W ↔ (St w p w1.heap.size sx #[(.slice A0' A.length cp0'), (.slice A1' B.length cp1'), (.slice A2' C.length cp2'), (.slice A3' G.length cp3'), v4, .int .i64 0, .int .i64 0, .int .i64 0, .int .i64 0] W ∧ OwnQ W (w5.setCell ⟨w1.heap.size, 3, none⟩ (.slice A3' G.length cp3')).heap.size v4 acc ∧ Kp (w5.setCell ⟨w1.heap.size, 3, none⟩ (.slice A3' G.length cp3')).heap.size p w1.heap.size (w5.setCell ⟨w1.heap.size, 3, none⟩ (.slice A3' G.length cp3')) W) := ⟨_, fun _ => Iff.rfl⟩
      obtain ⟨P1, i1⟩ : ∃ P : World → Prop, ∀ W, P W ↔ (St w p w1.heap.size sy #[(.slice A0' A.length cp0'), (.slice A1' B.length cp1'), (.slice A2' C.length cp2'), (.slice A3' G.length cp3'), v4, .int .i64 0, .int .i64 0, .int .i64 0, .int .i64 0] W ∧ OwnQ W (w5.setCell ⟨w1.heap.size, 3, none⟩ (.slice A3' G.length cp3')).heap.size v4 acc ∧ Kp (w5.setCell ⟨w1.heap.size, 3, none⟩ (.slice A3' G.length cp3')).heap.size p w1.heap.size (w5.setCell ⟨w1.heap.size, 3, none⟩ (.slice A3' G.length cp3')) W) := ⟨_, fun _ => Iff.rfl⟩
      obtain ⟨P2, i2⟩ : ∃ P : World → Value → Prop, ∀ W v', P W v' ↔ (St w p w1.heap.size sy #[(.slice A0' A.length cp0'), (.slice A1' B.length cp1'), (.slice A2' C.length cp2'), (.slice A3' G.length cp3'), v4, .int .i64 0, .int .i64 0, .int .i64 0, .int .i64 0] W ∧ OwnQ W (w5.setCell ⟨w1.heap.size, 3, none⟩ (.slice A3' G.length cp3')).heap.size v' (acc ++ [x]) ∧ Kp (w5.setCell ⟨w1.heap.size, 3, none⟩ (.slice A3' G.length cp3')).heap.size p w1.heap.size (w5.setCell ⟨w1.heap.size, 3, none⟩ (.slice A3' G.length cp3')) W) := ⟨_, fun _ _ => Iff.rfl⟩
      obtain ⟨P3, i3⟩ : ∃ P : World → Prop, ∀ W, P W ↔ ∃ v', St w p w1.heap.size sy #[(.slice A0' A.length cp0'), (.slice A1' B.length cp1'), (.slice A2' C.length cp2'), (.slice A3' G.length cp3'), v', .int .i64 0, .int .i64 0, .int .i64 0, .int .i64 0] W ∧ OwnQ W (w5.setCell ⟨w1.heap.size, 3, none⟩ (.slice A3' G.length cp3')).heap.size v' (acc ++ [x]) ∧ Kp (w5.setCell ⟨w1.heap.size, 3, none⟩ (.slice A3' G.length cp3')).heap.size p w1.heap.size (w5.setCell ⟨w1.heap.size, 3, none⟩ (.slice A3' G.length cp3')) W := ⟨_, fun _ => Iff.rfl⟩
      have I0 := Lib.hid i0
      have I1 := Lib.hid i1
      have I2 := Lib.hid i2
      have I3 := Lib.hid i3
      clear i0 i1 i2 i3
      refine Marks.wp_region_text (JQ P0 P1 #[.int .i64 x.rooms, .int .i64 x.exits, .int .i64 x.items, .int .i64 x.mails, .int .i64 x.trades, .int .u64 (x.cap.toNat : Int)] P2 P3) (fun _ _ => True) (by kernel_rfl) (by kernel_rfl)
        (JQ.start ((I0.out _).2 ⟨St.below HST.out (Below.refl _ _).drew HD4.out HD.out, own_grewx HO.out (Grew.refl _).drew, HK.out.trans (Kp.below (Below.refl _ _).drew)⟩)) ?_
      apply Marks.Lex.exact [] (.pointer (some ⟨w1.heap.size, 4, none⟩)) (by kernel_rfl)
      · intro m u W hm hcl hJ _
        unfold Marks.one
        go_simp
        exact ⟨trivial, hJ.keep (k := 0) (by decide) _, rfl⟩
      simp only [Act.put, List.setIfInBounds_toArray, List.set_cons_zero, List.set_cons_succ, Nat.zero_add]
      apply Marks.Lex.exact [] v4 (by kernel_rfl)
      · intro m u W hm hcl hJ _
        have hrow := hJ.row hm (fun W => W.heap[w1.heap.size]? = some (.cells #[(.slice A0' A.length cp0'), (.slice A1' B.length cp1'), (.slice A2' C.length cp2'), (.slice A3' G.length cp3'), v4, .int .i64 0, .int .i64 0, .int .i64 0, .int .i64 0] 28 (0, 0))) (fun _ h => ((I0.out _).1 h).1.box) (fun _ h => ((I1.out _).1 h).1.box) (fun _ h => keepB ((I1.out _).1 h).1.box (by unfold Grew; go_grown)) (fun _ _ h => ((I2.out _ _).1 h).1.box)
        obtain ⟨c0, c1, c2, c3, c4, c5, c6, c7, c8⟩ := nine_c hrow
        unfold Marks.one
        go_simp
        exact ⟨trivial, hJ.keep (k := 1) (by decide) _, rfl⟩
      simp only [Act.put, List.setIfInBounds_toArray, List.set_cons_zero, List.set_cons_succ, Nat.reduceAdd]
      apply Marks.Lex.exact [] p (by kernel_rfl)
      · intro m u W hm hcl hJ _
        unfold Marks.one
        go_simp
        exact ⟨trivial, hJ.keep (k := 2) (by decide) _, rfl⟩
      simp only [Act.put, List.setIfInBounds_toArray, List.set_cons_zero, List.set_cons_succ, Nat.reduceAdd]
      apply Marks.Lex.exact [] (.agg #[.int .i64 x.rooms, .int .i64 x.exits, .int .i64 x.items, .int .i64 x.mails, .int .i64 x.trades, .int .u64 (x.cap.toNat : Int)]) (by kernel_rfl)
      · intro m u W hm hcl hJ _
        have hA := (I0.out _).1 (hJ.at3 hm).1
        have HC9 := take_quota.eq W (w.heap.size + 1) w1.heap.size p sx x sy (Lib.hid hA.1.scan) (Lib.hid (Nat.le_of_lt hA.1.ltD)) HLx HX
        unfold qval at HC9
        have HH := Lib.hid HC9
        have HAA := Lib.hid hA
        clear HC9 hA
        unfold Marks.one
        go_simp
        refine HH.out.mono ?_
        rintro e w' ⟨rfl, q1, c1⟩
        exact ⟨_, rfl, trivial, hJ.put3 hm _ ((I1.out _).2 ⟨HAA.out.1.chg c1 HD.out q1, own_chg HAA.out.2.1 c1 HP4.out, HAA.out.2.2.trans (Kp.chg c1 HAA.out.2.2.size)⟩), rfl⟩
      simp only [Act.put, List.setIfInBounds_toArray, List.set_cons_zero, List.set_cons_succ, Nat.reduceAdd]
      refine Marks.Lex.know [] (fun _ _ => True) (by kernel_rfl) (fun _ _ _ _ _ => trivial) ?_ ?_
      · intro m u W hm hcl hJ _
        have h3 : m 3 = true := hcl 3 (by decide)
        unfold Marks.one
        go_simp
        exact ⟨trivial, hJ.put4 h3 hm, trivial⟩
      simp only [Act.put, List.setIfInBounds_toArray, List.set_cons_zero, List.set_cons_succ, Nat.reduceAdd]
      refine Marks.Lex.know [] (fun _ _ => True) (by kernel_rfl) (fun _ _ _ _ _ => trivial) ?_ ?_
      · intro m u W hm hcl hJ _
        have h4 : m 4 = true := hcl 4 (by decide)
        obtain ⟨_, _, W1, hA, rfl, hu4⟩ := hJ.at5 h4 hm
        replace hA := (I1.out _).1 hA
        obtain ⟨v', w', hr, hown, hbel⟩ := appQ W1 (w5.setCell ⟨w1.heap.size, 3, none⟩ (.slice A3' G.length cp3')).heap.size v4 acc x hA.2.1 HAC.out hA.2.2.size
        refine one_app rfl (.tmp 27) (.tmp 30) 26 rfl v4 (.slice (some ⟨W1.heap.size, 0, none⟩) 1 1) (by rfl) (by exact hu4) v' w' hr ?_
        exact ⟨trivial, hJ.put5 h4 hm v' ((I2.out _ _).2 ⟨St.below hA.1 hbel HD4.out HD.out, hown, hA.2.2.trans (Kp.below hbel)⟩), trivial⟩
      simp only [Act.put, List.setIfInBounds_toArray, List.set_cons_zero, List.set_cons_succ, Nat.reduceAdd]
      apply Marks.Lex.exact [] (.pointer (some ⟨w1.heap.size, 4, none⟩)) (by kernel_rfl)
      · intro m u W hm hcl hJ _
        unfold Marks.one
        go_simp
        exact ⟨trivial, hJ.keep (k := 6) (by decide) _, rfl⟩
      simp only [Act.put, List.setIfInBounds_toArray, List.set_cons_zero, List.set_cons_succ, Nat.reduceAdd]
      apply Marks.Lex.exact [] undef (by kernel_rfl)
      · intro m u W hm hcl hJ _
        have h5 : m 5 = true := hcl 5 (by decide)
        have h1 : m 1 = true := hcl 1 (by decide)
        obtain ⟨_, _, hB⟩ := hJ.at7 h5 hm
        replace hB := (I2.out _ _).1 hB
        obtain ⟨A4', cp4', e4⟩ := own_sl hB.2.1
        rw [List.length_append, List.length_singleton] at e4
        have hq := hB.2.1
        rw [e4] at hq
        have HQ := Lib.hid hq
        clear hq
        obtain ⟨c0, c1, c2, c3, c4, c5, c6, c7, c8⟩ := nine_c hB.1.box
        have fz := frz (k := 4) hB.1.box
        have HB := Lib.hid hB
        clear hB
        unfold Marks.one
        go_simp
        exact ⟨trivial, hJ.put7 h5 hm h1 _ ((I3.out _).2 ⟨_, HB.out.1.set HD.out 4 _, own_set HQ.out HD4.out, HB.out.2.2.trans (Kp.set _ 4 _)⟩), rfl⟩
      simp only [Act.put, Nat.reduceAdd]
      refine Marks.Lex.done fun m u W3 hm hJ _ => ?_
      obtain ⟨v', hst, hown, hk⟩ := (I3.out _).1 (hJ.fin (hm 7 (by omega)))
      have HST' := Lib.hid hst
      have HO' := Lib.hid hown
      have HK' := Lib.hid hk
      clear hst hown hk hJ hm
      generalize u 4 = z4 at *
      generalize u 5 = z5 at *
      go_wp2
      go_roundg g
      case measure => omega
      case rel => exact ⟨k + 1, acc ++ [x], sy, v', HM.out, by first | rfl | (simp; done) | rw [HKW.out], HA1, HO', HST', HK', HLy, HGG⟩
end Go.Proofs.YtmegdgeiikhflaaGreat.CF
