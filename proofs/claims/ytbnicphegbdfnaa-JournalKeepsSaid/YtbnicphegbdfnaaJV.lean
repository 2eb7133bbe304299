/-
  JournalKeeps: any records, any fuse, any choices.
  Conditions: none beyond what is read of the arguments.
-/
import Derived.Test.YtbnicphegbdfnaaJY
import Derived.Deep.DeepCutAuto
import Derived.Deep.CutBlock
namespace Go.Proofs.Ytbnicphegbdfnaa.JV
set_option maxRecDepth 100000
open Go Go.RowKit Go.Proofs.Ytbnicphegbdfnaa Go.Proofs.Ytbnicphegbdfnaa.Facts Go.Proofs.Ytbnicphegbdfnaa.Bytes Go.Proofs.Ytbnicphegbdfnaa.DKeep Go.Proofs.Ytbnicphegbdfnaa.DSmall Go.Proofs.Ytbnicphegbdfnaa.Puts Go.Proofs.Ytbnicphegbdfnaa.Scan Go.Proofs.Ytbnicphegbdfnaa.SPure Go.Proofs.Ytbnicphegbdfnaa.JA Go.Proofs.Ytbnicphegbdfnaa.JB Go.Proofs.Ytbnicphegbdfnaa.JC Go.Proofs.Ytbnicphegbdfnaa.JD Go.Proofs.Ytbnicphegbdfnaa.JE Go.Proofs.Ytbnicphegbdfnaa.JF Go.Proofs.Ytbnicphegbdfnaa.JG Go.Proofs.Ytbnicphegbdfnaa.JH Go.Proofs.Ytbnicphegbdfnaa.JP Go.Proofs.Ytbnicphegbdfnaa.JQ Go.Proofs.Ytbnicphegbdfnaa.JI Go.Proofs.Ytbnicphegbdfnaa.JT Go.Proofs.Ytbnicphegbdfnaa.JU Go.Proofs.Ytbnicphegbdfnaa.JX
theorem run_bs0 (u : World) : (Instr.buildSlice 57 0 #[]).run Try.prog u = .ok (.slice (some ⟨u.heap.size, 0, none⟩) 0 0) (u.alloc (.cells #[] 23)) := by kernel_rfl
theorem run_bs1 (A : Option Addr) (n c : Nat) (u : World) : (Instr.buildSlice 57 1 #[(0, .slice A n c)]).run Try.prog u = .ok (.slice (some ⟨u.heap.size, 0, none⟩) 1 1) (u.alloc (.cells #[.slice A n c] 23)) := by kernel_rfl

/-- How a loop of appends ends, and what a crash leaves then. -/
def OUT (w : World) (g gj : Nat) (keep : List UInt8) (bs und : List (List UInt8)) (A13 A14 : Option Addr) (c13 c14 : Nat) (wx : World) : Prop :=
  ∃ d L, AS w g gj ⟨2, 5, 2, bs.length, 3⟩ d [(.slice A14 und.length c14, und), (.slice A13 bs.length c13, bs)] wx ∧ DFlush.crashed d keep = calm L ∧ d.waits.length ≤ 1000000000 ∧ (JGo 3 L bs ∨ (JGo 3 L und ∧ decide (und = bs) = false ∧ 0 < und.length)) ∧ bs.length ≤ 5 ∧ und.length ≤ 6
set_option maxHeartbeats 8000000 in
theorem law_any (w : World) (A : Option Addr) (cap : Nat) (l : List (List UInt8)) (fuse : Nat) (vK : Value) (keep : List UInt8) (vM : Value) (more : List UInt8) (hL : LB w A cap l) (hf : fuse ≤ 255) (hK : Rd (fun b => b < w.heap.size) w vK keep) (hM : Rd (fun b => b < w.heap.size) w vM more) :
    Calls Try.prog 6 #[.slice A l.length cap, .int .u8 (fuse : Int), vK, vM] w fun e w' => e = .returned (.bool true) ∧ Grew w w' := by
  have HL := Lib.hid hL
  have hcap := hL.2.1
  have hlc := hL.1
  have HF := Lib.hid hf
  obtain ⟨AK, cK, rfl, _⟩ := id hK
  obtain ⟨AM, cM, rfl, _⟩ := id hM
  have HK := Lib.hid hK
  have HM := Lib.hid hM
  clear hL hf hK hM
  by_cases hmo : 200 < more.length
  · have hmo' : (200 : Int) < (more.length : Int) := by omega
    clear hmo
    go_enter Try.func6, Try.ntmps6
    go_wp2_with fail
    refine (DAlive.new_eq 12 12 rfl w (by omega) (by omega)).mono ?_
    rintro e w1 ⟨g, rfl, hd, hg⟩
    have HD := Lib.hid hd
    have HG := Lib.hid hg
    clear hd hg
    generalize (fun k => w.heap.size ≤ k ∧ k < w1.heap.size) = D at *
    go_wp2_with fail
    refine (jnew_any w1 g D (calm (DNew.blank 12)) 2 5 2 3 HD.out (by omega) (by omega) (refus12 _ 3 (DNew.blank_length 12) (by omega) (by omega))).mono ?_
    rintro e w2 ⟨gj, rfl, hj, hgj, hg⟩
    have HG2 := Lib.hid (HG.out.trans hg)
    clear hj hgj hg HD HG
    go_wp2_with fail
    refine (alive_any _).mono ?_
    rintro e w3 ⟨rfl, hg3⟩
    have HG3 := Lib.hid (HG2.out.trans hg3)
    clear hg3 HG2
    go_wp2
    go_returns
    exact ⟨rfl, HG3.out⟩
  · have hmo' : ¬ (200 : Int) < (more.length : Int) := by omega
    have HMO := Lib.hid hmo
    clear hmo
    go_enter Try.func6, Try.ntmps6
    go_wp2_with fail
    refine (DAlive.new_eq 12 12 rfl w (by omega) (by omega)).mono ?_
    rintro e w1 ⟨g, rfl, hd, hg⟩
    have HD := Lib.hid hd
    have HG := Lib.hid hg
    have HA : Hid (DAlive.Above (fun k => w.heap.size ≤ k ∧ k < w1.heap.size) w.heap.size) := Lib.hid fun k hk => hk.1
    have HDL : Hid (∀ k, (fun k => w.heap.size ≤ k ∧ k < w1.heap.size) k → k < w1.heap.size) := Lib.hid fun k hk => hk.2
    clear hd hg
    generalize hDD : (fun k => w.heap.size ≤ k ∧ k < w1.heap.size) = D at *
    clear hDD
    go_wp2_with fail
    refine (jnew_any w1 g D (calm (DNew.blank 12)) 2 5 2 3 HD.out (by omega) (by omega) (refus12 _ 3 (DNew.blank_length 12) (by omega) (by omega))).mono ?_
    rintro e w2 ⟨gj, rfl, hj, hgj, hg⟩
    have HGJ : Hid (w.heap.size ≤ gj) := Lib.hid (Nat.le_trans HG.out.size hgj)
    have HAT : Hid (AT w g gj ⟨2, 5, 2, 0, 3⟩ (calm (DNew.blank 12)) w2) := Lib.hid ⟨D, HD.out.grew hg, hj, HA.out, fun k hk => Nat.lt_of_lt_of_le (HDL.out k hk) hg.size, fun h => by have := HDL.out _ h; omega, HG.out.trans hg⟩
    clear hj hgj hg HD HG HDL HA
    have hwf : IntKind.i64.wrap (fuse : Int) = (fuse : Int) := IntWalk.i64_in _ (by have := HF.out; omega)
    go_wp2_with fail
    refine (fuse_at w w2 g gj _ _ fuse HAT.out HF.out).mono ?_
    rintro e w3 ⟨rfl, hat⟩
    have HAS3 : Hid (AS w g gj ⟨2, 5, 2, ([] : List (List UInt8)).length, 3⟩ (calmF (DNew.blank 12) (fuse : Int)) [(.slice none 0 0, [])] w3) := Lib.hid (AS.of_at hat).nil
    have HON : Hid (ON [] fuse (calmF (DNew.blank 12) (fuse : Int))) := Lib.hid ⟨_, rfl, JGd.fresh, Bl.fresh⟩
    clear hat HAT hwf
    go_upto_block 0 with fail
    go_cut [13, 14] (fun s13 s14 wx => ∃ (bs und : List (List UInt8)) (A13 A14 : Option Addr) (c13 c14 : Nat), s13 = .slice A13 bs.length c13 ∧ s14 = .slice A14 und.length c14 ∧ Hid (OUT w g gj keep bs und A13 A14 c13 c14 wx))
    case first =>
      go_wp2_with fail
      go_loopg [13, 14, 15, 16] 10 (fun q s13 s14 s15 s16 wx => ∃ (i : Nat) (bs : List (List UInt8)) (d : Pd) (f : Nat) (A13 : Option Addr) (c13 : Nat), i + q = 10 ∧ s13 = .slice A13 bs.length c13 ∧ s14 = .slice none 0 0 ∧ s15 = .int .i64 (i : Int) ∧ Hid (bs.length ≤ 5) ∧ Hid (AS w g gj ⟨2, 5, 2, bs.length, 3⟩ d [(.slice A13 bs.length c13, bs)] wx) ∧ Hid (ON bs f d))
      case atStart => exact ⟨0, [], _, fuse, none, 0, rfl, rfl, rfl, rfl, Lib.hid (Nat.zero_le _), HAS3, HON⟩
      case round =>
        obtain ⟨i, bs, d, f, A13, c13, hiq, rfl, rfl, rfl, HSL, HASX, HONX⟩ := hrel
        clear HAS3 HON
        by_cases hin : i < l.length
        · have hin' : (i : Int) < (l.length : Int) := by omega
          cases gk with
          | zero =>
            have h5 : ¬ ((i : Int) < 10) := by omega
            clear hin
            obtain ⟨L, hcl, hgo⟩ := (HONX.out.crash bs).2 keep
            have hout : OUT w g gj keep bs [] A13 none c13 0 wr := ⟨d, L, HASX.out.nil, hcl, by rw [HONX.out.waits]; omega, .inl (hgo.elim id id), HSL.out, by simp⟩
            have HOUT := Lib.hid hout
            clear hcl hgo hout HASX HONX
            go_wp2_with fail
            go_meet
            case rel => exact ⟨bs, [], A13, none, c13, 0, rfl, rfl, HOUT⟩

          | succ q =>
            have h5 : (i : Int) < 10 := by omega
            obtain ⟨x, hx⟩ : ∃ x, l[i]? = some x := ⟨_, List.getElem?_eq_getElem hin⟩
            cases A with
            | none => have := HL.out.2.2.1 rfl; omega
            | some ad =>
              obtain ⟨vB, hc0, hr0⟩ := HL.out.2.2.2 ad rfl i x hx
              obtain ⟨A6, c6, rfl, _⟩ := id hr0
              have HC0 := Lib.hid hc0
              have HR0 := Lib.hid hr0
              have hc1 : wr.cell? (ad.add i) = some (.slice A6 x.length c6) := DWrite.cellB HASX.out.gr hc0
              have HR := Lib.hid (hr0.grew HASX.out.gr)
              have hwi : IntKind.i64.wrap ((i : Int) + 1) = (i : Int) + 1 := IntWalk.i64_in _ (by omega)
              clear hc0 hr0 hx hin
              by_cases hxl : 200 < x.length
              · have hxl' : (200 : Int) < (x.length : Int) := by omega
                clear hxl
                go_wp2
                go_roundg q
                case measure => omega
                case rel => exact ⟨i + 1, bs, d, f, A13, c13, by omega, rfl, rfl, by first | rfl | simp, HSL, HASX, HONX⟩
              · have hxl' : ¬ (200 : Int) < (x.length : Int) := by omega
                have HXL : Hid (x.length ≤ 212) := Lib.hid (by omega)
                clear hxl
                by_cases hful : bs.length = 5
                · have HAPP := Lib.hid (as_app w wr g gj _ _ d d 8 _ _ (.slice A6 x.length c6) x HASX.out HGJ.out (jk3 _ HSL.out) (by show 1 ≤ 3; omega) (by rw [HONX.out.waits]; omega) HR.out (on_full bs d x HXL.out hful))
                  have hb5 : ((bs.length : Int) != 5) = false := by simp; omega
                  clear hful
                  go_wp2_with fail
                  refine HAPP.out.mono ?_
                  rintro e w5 ⟨rfl, has⟩
                  have HAS5 := Lib.hid has
                  clear has HAPP
                  go_wp2
                  go_roundg q
                  case measure => omega
                  case rel => exact ⟨i + 1, bs, d, f, A13, c13, by omega, rfl, rfl, by first | rfl | simp, HSL, HAS5, HONX⟩
                · have HM5 : Hid (bs.length < 5) := Lib.hid (by have := HSL.out; omega)
                  clear hful
                  rcases on_app bs f d x HONX.out HXL.out HM5.out with ⟨d', he, hgone⟩ | ⟨d', f', he, hon⟩
                  · have HAPP := Lib.hid (as_app w wr g gj _ _ d d' 15 _ _ (.slice A6 x.length c6) x HASX.out HGJ.out (jk3 _ HSL.out) (by show 1 ≤ 3; omega) (by rw [HONX.out.waits]; omega) HR.out he)
                    have HGN := Lib.hid hgone
                    clear he hgone
                    go_wp2_with fail
                    refine HAPP.out.mono ?_
                    rintro e w5 ⟨rfl, has⟩
                    have HAS5 := Lib.hid has
                    have HR5 := Lib.hid (HR0.out.grew has.gr)
                    clear has HAPP hc1 HASX HONX
                    go_wp2
                    refine Marks.wp_region_text (JX w.heap.size w5.drew bs x (.slice A6 x.length c6)) (fun _ _ => True) (by kernel_rfl) (by kernel_rfl) (JX.start w5) ?_
                    apply Marks.Lex.know [] (fun _ _ => True) (by kernel_rfl) (fun _ _ _ _ _ => trivial)
                    · intro m u W hm hcl hJ _
                      exact DWrite.one_bs rfl 57 0 #[] rfl #[] (by simp) _ _ (run_bs0 W) ⟨trivial, hJ.put0 hm ((Below.refl _ W).alloc (Nat.le_refl _) _) _ ((sl_lit w.heap.size W).base hJ.gr.size) rfl, trivial⟩
                    simp only [Act.put, List.setIfInBounds_toArray, List.set_cons_zero, List.set_cons_succ, Nat.zero_add, Nat.reduceAdd]
                    apply Marks.Lex.exact [] _ (by kernel_rfl)
                    · intro m u W hm hcl hJ _
                      unfold Marks.one
                      go_simp
                      exact ⟨trivial, hJ.keep 1 _ (by omega) (by omega) (by omega) (by omega) (by omega), rfl⟩
                    simp only [Act.put, List.setIfInBounds_toArray, List.set_cons_zero, List.set_cons_succ, Nat.zero_add, Nat.reduceAdd]
                    apply Marks.Lex.know [] (fun _ _ => True) (by kernel_rfl) (fun _ _ _ _ _ => trivial)
                    · intro m u W hm hcl hJ _
                      have h0 : m 0 = true := hcl 0 (by decide)
                      have hs0 := hJ.u0 h0 hm
                      obtain ⟨A2, c2, e2⟩ := hs0.slice
                      have hrow := (HAS5.out.row (p := (Value.slice A13 bs.length c13, bs)) (by simp)).grew ((Grew.refl w5).drew.trans hJ.gr)
                      obtain ⟨A3, c3, W3, hr3, hs3, hg3, _⟩ := sl_app_all w.heap.size W w.heap.size w5.drew.heap.size (u 0) (.slice A13 bs.length c13) bs hs0 HAS5.out.gr.size hrow hJ.gr.size (by have := HSL.out; omega)
                      exact DWrite.one_app rfl (.tmp 91) (.tmp 92) 57 57 rfl _ _ rfl rfl _ W3 hr3 ⟨trivial, hJ.put2 hm h0 _ hg3 hs3, trivial⟩
                    simp only [Act.put, List.setIfInBounds_toArray, List.set_cons_zero, List.set_cons_succ, Nat.zero_add, Nat.reduceAdd]
                    apply Marks.Lex.exact [] _ (by kernel_rfl)
                    · intro m u W hm hcl hJ _
                      unfold Marks.one
                      go_simp
                      exact ⟨trivial, hJ.keep 3 _ (by omega) (by omega) (by omega) (by omega) (by omega), rfl⟩
                    simp only [Act.put, List.setIfInBounds_toArray, List.set_cons_zero, List.set_cons_succ, Nat.zero_add, Nat.reduceAdd]
                    apply Marks.Lex.exact [] _ (by kernel_rfl)
                    · intro m u W hm hcl hJ _
                      unfold Marks.one
                      go_simp
                      exact ⟨trivial, hJ.keep 4 _ (by omega) (by omega) (by omega) (by omega) (by omega), rfl⟩
                    simp only [Act.put, List.setIfInBounds_toArray, List.set_cons_zero, List.set_cons_succ, Nat.zero_add, Nat.reduceAdd]
                    apply Marks.Lex.exact [] _ (by kernel_rfl)
                    · intro m u W hm hcl hJ _
                      unfold Marks.one
                      go_simp
                      exact ⟨trivial, hJ.keep 5 _ (by omega) (by omega) (by omega) (by omega) (by omega), rfl⟩
                    simp only [Act.put, List.setIfInBounds_toArray, List.set_cons_zero, List.set_cons_succ, Nat.zero_add, Nat.reduceAdd]
                    apply Marks.Lex.exact [] _ (by kernel_rfl)
                    · intro m u W hm hcl hJ _
                      have d1 : W.cell? (ad.add i) = some (.slice A6 x.length c6) := DWrite.cellB (HAS5.out.gr.trans ((Grew.refl w5).drew.trans hJ.gr)) HC0.out
                      unfold Marks.one
                      go_simp
                      exact ⟨trivial, hJ.keep 6 _ (by omega) (by omega) (by omega) (by omega) (by omega), rfl⟩
                    simp only [Act.put, List.setIfInBounds_toArray, List.set_cons_zero, List.set_cons_succ, Nat.zero_add, Nat.reduceAdd]
                    apply Marks.Lex.know [] (fun _ _ => True) (by kernel_rfl) (fun _ _ _ _ _ => trivial)
                    · intro m u W hm hcl hJ _
                      exact DWrite.one_bs rfl 57 1 #[(0, Operand.tmp 97)] rfl #[(0, .slice A6 x.length c6)] (by simp [Act.eval]) _ _ (run_bs1 _ _ _ W) ⟨trivial, hJ.put7 hm ((Below.refl _ W).alloc (Nat.le_refl _) _) W.heap.size (Nat.le_refl _) (by simp) (by
                        have h : (W.alloc (.cells #[.slice A6 x.length c6] 23)).heap[W.heap.size]? = _ := heap_alloc_new W _
                        unfold World.cell?
                        simp only [h]
                        rfl), trivial⟩
                    simp only [Act.put, List.setIfInBounds_toArray, List.set_cons_zero, List.set_cons_succ, Nat.zero_add, Nat.reduceAdd]
                    apply Marks.Lex.know [] (fun _ _ => True) (by kernel_rfl) (fun _ _ _ _ _ => trivial)
                    · intro m u W hm hcl hJ _
                      have h2 : m 2 = true := hcl 2 (by decide)
                      have h7 : m 7 = true := hcl 7 (by decide)
                      have hs2 := hJ.u2 h2 hm
                      obtain ⟨q7, e7, _, hc7, _⟩ := hJ.u7 h7 hm
                      obtain ⟨A3, c3, W3, hr3, hs3, hg3, _⟩ := sl_app_at w.heap.size W w5.drew.heap.size (u 2) bs [x] ⟨q7, 0, none⟩ 1 [.slice A6 x.length c6] hs2 HAS5.out.gr.size rfl (fun j z hz => by
                        match j, hz with
                        | 0, hz => simp at hz; subst hz; rw [Addr.add_mid]; exact hc7) (fun i z hz => by
                        match i, hz with
                        | 0, hz => simp at hz; subst hz; exact ⟨_, rfl, HR5.out.grew ((Grew.refl w5).drew.trans hJ.gr)⟩) (by have := HSL.out; simp; omega) hJ.gr.size
                      exact DWrite.one_app rfl (.tmp 93) (.tmp 98) 57 57 rfl _ _ rfl e7 _ W3 hr3 ⟨trivial, hJ.put8 hm h2 h7 _ hg3 hs3, trivial⟩
                    simp only [Act.put, List.setIfInBounds_toArray, List.set_cons_zero, List.set_cons_succ, Nat.zero_add, Nat.reduceAdd]
                    apply Marks.Lex.know [] (fun _ _ => True) (by kernel_rfl) (fun _ _ _ _ _ => trivial)
                    · intro m u W hm hcl hJ _
                      have h8 : m 8 = true := hcl 8 (by decide)
                      unfold Marks.one
                      go_simp
                      exact ⟨trivial, hJ.put9 hm h8, trivial⟩
                    simp only [Act.put, List.setIfInBounds_toArray, List.set_cons_zero, List.set_cons_succ, Nat.zero_add, Nat.reduceAdd]
                    refine Marks.Lex.done fun m u W hm hJ _ => ?_
                    have hs9 := hJ.u9 (hm 9 (by omega))
                    have hgw : Grew w5 W := (Grew.refl w5).drew.trans hJ.gr
                    have has9 : AS w g gj ⟨2, 5, 2, bs.length, 3⟩ d' [(u 9, bs ++ [x]), (.slice A13 bs.length c13, bs)] W := HAS5.out.add hgw hs9
                    obtain ⟨A14, c14, e14⟩ := hs9.slice
                    rw [e14] at has9 ⊢
                    have HAS := Lib.hid has9
                    clear hJ hm hs9 hgw has9 HAS5 HR5 HC0

                    obtain ⟨L, hcl, hgo⟩ := HGN.out.2 keep
                    have hout : OUT w g gj keep bs (bs ++ [x]) A13 A14 c13 c14 W := ⟨d', L, HAS.out, hcl, by have := HGN.out.1; omega, hgo.imp id fun h => ⟨h, decide_eq_false (by intro h; have := congrArg List.length h; simp at this), by simp⟩, HSL.out, by have := HSL.out; simp; omega⟩
                    have HOUT := Lib.hid hout
                    clear hcl hgo hout HAS HGN
                    go_wp2_with fail
                    go_meet
                    case rel => exact ⟨bs, bs ++ [x], A13, A14, c13, c14, rfl, rfl, HOUT⟩
                  · have HAPP := Lib.hid (as_app w wr g gj _ _ d d' 0 _ _ (.slice A6 x.length c6) x HASX.out HGJ.out (jk3 _ HSL.out) (by show 1 ≤ 3; omega) (by rw [HONX.out.waits]; omega) HR.out he)
                    have HON5 := Lib.hid hon
                    clear he hon
                    go_wp2_with fail
                    refine HAPP.out.mono ?_
                    rintro e w5 ⟨rfl, has⟩
                    have HAS5 := Lib.hid has
                    have hc5 : w5.cell? (ad.add i) = some (.slice A6 x.length c6) := DWrite.cellB has.gr HC0.out
                    obtain ⟨A7, c7, W7, hr7, has7⟩ := as_put w w5 g gj _ d' [] (.slice A13 bs.length c13) (.slice A6 x.length c6) bs x has (HR0.out.grew has.gr) (by have := HSL.out; omega)
                    have HR7 := Lib.hid hr7
                    have HAS7 := Lib.hid has7
                    clear has HAPP hc1 HASX HONX hr7 has7
                    go_wp2_with (at_builtin; refine SSeal.wpList_app' (by rfl) (.tmp 82) (.tmp 87) 57 57 (by with_reducible rfl) _ _ (by rfl) (by rfl) _ W7 (by exact HR7.out) ?_)
                    go_roundg q
                    case measure => omega
                    case rel => exact ⟨i + 1, bs ++ [x], d', f', A7, c7, by omega, by first | rfl | simp, rfl, by first | rfl | simp, Lib.hid (by have := HM5.out; simp; omega), HAS7, HON5⟩
        · have hin' : ¬ ((i : Int) < (l.length : Int)) := by omega
          clear hin
          obtain ⟨L, hcl, hgo⟩ := (HONX.out.crash bs).2 keep
          have hout : OUT w g gj keep bs [] A13 none c13 0 wr := ⟨d, L, HASX.out.nil, hcl, by rw [HONX.out.waits]; omega, .inl (hgo.elim id id), HSL.out, by simp⟩
          have HOUT := Lib.hid hout
          clear hcl hgo hout HASX HONX
          go_wp2_with fail
          go_meet
          case rel => exact ⟨bs, [], A13, none, c13, 0, rfl, rfl, HOUT⟩
    case rest =>
      obtain ⟨bs, und, A13, A14, c13, c14, rfl, rfl, HOUT⟩ := hcut
      obtain ⟨d, L, has, hcl, hwt, hgo, hsl, hu6⟩ := HOUT.out
      have HAS := Lib.hid has
      have HLL := Lib.hid hcl
      have HWT := Lib.hid hwt
      have HSL := Lib.hid hsl
      have HU6 := Lib.hid hu6
      clear has hcl hwt hsl hu6 HOUT HAS3 HON
      rcases hgo with hgo | ⟨hgo, hne, hu0⟩
      · have HGO := Lib.hid hgo
        clear hgo
        go_wp2_with fail
        refine (as_crash w wc g gj _ d _ _ (.slice AK keep.length cK) keep HAS.out HGJ.out HWT.out (HK.out.grew HAS.out.gr) (fun b hb => hb)).mono ?_
        rintro e w4 ⟨rfl, has4⟩
        rw [HLL.out] at has4
        have HAS4 := Lib.hid has4
        clear has4 HAS HLL HWT
        go_wp2_with fail
        refine (scan_go w w4 g gj _ L bs HAS4.out.at' HGO.out).mono ?_
        rintro e w5 ⟨v5, rfl, hb5, hg5⟩
        have HRR5 := Lib.hid (JS.RR.of_bs hb5)
        obtain ⟨A5, c5, rfl, _⟩ := id HRR5.out
        have HAS5 := Lib.hid (HAS4.out.grew hg5)
        have HNX := Lib.hid (HGO.out.next (by omega))
        have HLN : Hid (L.length = 12) := Lib.hid HGO.out.len
        clear hb5 hg5 HAS4
        have HSM := Lib.hid (JS.same_any w5 _ _ bs bs HRR5.out (HAS5.out.row (p := (Value.slice A13 bs.length c13, bs)) (by simp)).rr (by have := HSL.out; omega) (by have := HSL.out; omega))
        have hde : decide (bs = bs) = true := decide_eq_true rfl
        rw [hde] at HSM
        clear hde HRR5 HGO
        go_wp2_with fail
        refine HSM.out.mono ?_
        rintro e w6 ⟨rfl, hg6⟩
        have HAT6 := Lib.hid (HAS5.out.at'.grew hg6)
        clear hg6 HSM HAS5
        go_wp2_with fail
        refine (next_at w w6 g gj _ _ HAT6.out HSL.out).mono ?_
        rintro e w7 ⟨rfl, hg7⟩
        have HAT7 := Lib.hid (HAT6.out.grew hg7)
        clear hg7 HAT6
        go_wp2_with fail
        refine (scan_13 w w7 g gj _ L [] HAT7.out HNX.out).mono ?_
        rintro e w8 ⟨v8, rfl, hb8, hg8⟩
        obtain ⟨ws8, ho8, _⟩ := id hb8
        obtain ⟨A8, c8, rfl⟩ := own_sl ho8
        have HAT8 := Lib.hid (HAT7.out.grew hg8)
        clear hg8 HAT7 hb8 ho8
        go_wp2_with fail
        refine (next_at w w8 g gj _ _ HAT8.out HSL.out).mono ?_
        rintro e w9 ⟨rfl, hg9⟩
        have HAT9 := Lib.hid (HAT8.out.grew hg9)
        clear hg9 HAT8
        go_wp2_with fail
        refine (JY.new_ab w w9 g gj _ L HAT9.out HLN.out).mono ?_
        rintro e w10 ⟨gk, rfl, hab⟩
        have HAB := Lib.hid hab
        clear hab HAT9
        go_wp2_with fail
        refine (JY.app_ab w w10 g gk gj _ L _ (.slice AM more.length cM) more HAB.out HNX.out (by have := HMO.out; omega) (HM.out.grew HAB.out.at'.g)).mono ?_
        rintro e w11 ⟨rfl, hab, hgd⟩
        have HAB11 := Lib.hid hab
        have HGD := Lib.hid hgd
        clear hab hgd HAB HNX
        go_wp2_with fail
        refine (JY.crash_ab w w11 g gk gj _ _ _ (fun _ => False) (.slice none 0 0) [] HAB11.out (Rd.nil _ _) (fun b hb => hb.elim)).mono ?_
        rintro e w12 ⟨rfl, hab⟩
        have HAB12 := Lib.hid hab
        clear hab HAB11
        go_wp2_with fail
        refine (jnext_any w12 gj g ⟨2, 5, 2, bs.length, 3⟩ HAB12.out.jl (jk3 _ HSL.out)).mono ?_
        rintro e w13 ⟨rfl, hg13⟩
        have HAB13 := Lib.hid (HAB12.out.grew hg13)
        clear hg13 HAB12
        go_wp2_with fail
        refine (scan_13 w w13 g gk _ _ [more] HAB13.out.at' HGD.out).mono ?_
        rintro e w14 ⟨v14, rfl, hb14, hg14⟩
        obtain ⟨A14r, c14r, rfl, he14⟩ := JS.RR.of_bs hb14
        obtain ⟨adc, A12, c12, rfl, hc12, hr12⟩ := he14 0 more rfl
        have HC12 := Lib.hid hc12
        have HR12 := Lib.hid hr12
        have HG14 := Lib.hid (HAB13.out.at'.g.trans hg14)
        have HM12 := Lib.hid (HM.out.grew HG14.out)
        clear hg14 HAB13 hb14 he14 hc12 hr12 HGD
        go_wp2
        refine Facts.wp_region_text (by kernel_rfl) (by kernel_rfl) ?_
        apply Facts.Lex.exact [] (.bool true) (by kernel_rfl)
        · intro u W hC _
          unfold Facts.one
          go_simp
          refine (alive_any W).mono ?_
          rintro e w' ⟨rfl, hg⟩
          exact ⟨_, rfl, hg, rfl⟩
        simp only [Act.put, List.setIfInBounds_toArray, List.set_cons_zero, List.set_cons_succ, Nat.zero_add, Nat.reduceAdd]
        apply Facts.Lex.exact [] _ (by kernel_rfl)
        · intro u W hC _
          unfold Facts.one
          go_simp
          first | exact ⟨Grew.refl _, rfl⟩ | rfl
        simp only [Act.put, List.setIfInBounds_toArray, List.set_cons_zero, List.set_cons_succ, Nat.zero_add, Nat.reduceAdd]
        apply Facts.Lex.exact [] _ (by kernel_rfl)
        · intro u W hC _
          unfold Facts.one
          go_simp
          first | exact ⟨Grew.refl _, rfl⟩ | rfl
        simp only [Act.put, List.setIfInBounds_toArray, List.set_cons_zero, List.set_cons_succ, Nat.zero_add, Nat.reduceAdd]
        apply Facts.Lex.exact [] _ (by kernel_rfl)
        · intro u W hC _
          unfold Facts.one
          go_simp
          first | exact ⟨Grew.refl _, rfl⟩ | rfl
        simp only [Act.put, List.setIfInBounds_toArray, List.set_cons_zero, List.set_cons_succ, Nat.zero_add, Nat.reduceAdd]
        apply Facts.Lex.exact [] _ (by kernel_rfl)
        · intro u W hC _
          unfold Facts.one
          go_simp
          first | exact ⟨Grew.refl _, rfl⟩ | rfl
        simp only [Act.put, List.setIfInBounds_toArray, List.set_cons_zero, List.set_cons_succ, Nat.zero_add, Nat.reduceAdd]
        apply Facts.Lex.exact [] _ (by kernel_rfl)
        · intro u W hC _
          unfold Facts.one
          go_simp
          first | exact ⟨Grew.refl _, rfl⟩ | rfl
        simp only [Act.put, List.setIfInBounds_toArray, List.set_cons_zero, List.set_cons_succ, Nat.zero_add, Nat.reduceAdd]
        apply Facts.Lex.exact [] _ (by kernel_rfl)
        · intro u W hC _
          unfold Facts.one
          go_simp
          first | exact ⟨Grew.refl _, rfl⟩ | rfl
        simp only [Act.put, List.setIfInBounds_toArray, List.set_cons_zero, List.set_cons_succ, Nat.zero_add, Nat.reduceAdd]
        apply Facts.Lex.exact [] _ (by kernel_rfl)
        · intro u W hC _
          unfold Facts.one
          go_simp
          first | exact ⟨Grew.refl _, rfl⟩ | rfl
        simp only [Act.put, List.setIfInBounds_toArray, List.set_cons_zero, List.set_cons_succ, Nat.zero_add, Nat.reduceAdd]
        apply Facts.Lex.exact [] _ (by kernel_rfl)
        · intro u W hC _
          unfold Facts.one
          go_simp
          first | exact ⟨Grew.refl _, rfl⟩ | rfl
        simp only [Act.put, List.setIfInBounds_toArray, List.set_cons_zero, List.set_cons_succ, Nat.zero_add, Nat.reduceAdd]
        apply Facts.Lex.exact [] _ (by kernel_rfl)
        · intro u W hC _
          unfold Facts.one
          go_simp
          first | exact ⟨Grew.refl _, rfl⟩ | rfl
        simp only [Act.put, List.setIfInBounds_toArray, List.set_cons_zero, List.set_cons_succ, Nat.zero_add, Nat.reduceAdd]
        apply Facts.Lex.exact [] _ (by kernel_rfl)
        · intro u W hC _
          unfold Facts.one
          go_simp
          first | exact ⟨Grew.refl _, rfl⟩ | rfl
        simp only [Act.put, List.setIfInBounds_toArray, List.set_cons_zero, List.set_cons_succ, Nat.zero_add, Nat.reduceAdd]
        apply Facts.Lex.exact [] _ (by kernel_rfl)
        · intro u W hC _
          unfold Facts.one
          go_simp
          first | exact ⟨Grew.refl _, rfl⟩ | rfl
        simp only [Act.put, List.setIfInBounds_toArray, List.set_cons_zero, List.set_cons_succ, Nat.zero_add, Nat.reduceAdd]
        apply Facts.Lex.exact [] _ (by kernel_rfl)
        · intro u W hC _
          unfold Facts.one
          go_simp
          first | exact ⟨Grew.refl _, rfl⟩ | rfl
        simp only [Act.put, List.setIfInBounds_toArray, List.set_cons_zero, List.set_cons_succ, Nat.zero_add, Nat.reduceAdd]
        apply Facts.Lex.exact [] _ (by kernel_rfl)
        · intro u W hC _
          have d1 : W.cell? adc = some (.slice A12 more.length c12) := DWrite.cellB hC HC12.out
          unfold Facts.one
          go_simp
          first | exact ⟨Grew.refl _, rfl⟩ | rfl
        simp only [Act.put, List.setIfInBounds_toArray, List.set_cons_zero, List.set_cons_succ, Nat.zero_add, Nat.reduceAdd]
        apply Facts.Lex.exact [] _ (by kernel_rfl)
        · intro u W hC _
          have d1 := Nums.conv22 (HR12.out.grew hC)
          unfold Facts.one
          go_simp
          first | exact ⟨Grew.refl _, rfl⟩ | rfl
        simp only [Act.put, List.setIfInBounds_toArray, List.set_cons_zero, List.set_cons_succ, Nat.zero_add, Nat.reduceAdd]
        apply Facts.Lex.exact [] _ (by kernel_rfl)
        · intro u W hC _
          unfold Facts.one
          go_simp
          first | exact ⟨Grew.refl _, rfl⟩ | rfl
        simp only [Act.put, List.setIfInBounds_toArray, List.set_cons_zero, List.set_cons_succ, Nat.zero_add, Nat.reduceAdd]
        apply Facts.Lex.exact [] _ (by kernel_rfl)
        · intro u W hC _
          have d1 := Nums.conv22 (HM12.out.grew hC)
          unfold Facts.one
          go_simp
          first | exact ⟨Grew.refl _, rfl⟩ | rfl
        simp only [Act.put, List.setIfInBounds_toArray, List.set_cons_zero, List.set_cons_succ, Nat.zero_add, Nat.reduceAdd]
        apply Facts.Lex.exact [] _ (by kernel_rfl)
        · intro u W hC _
          have d1 : (more == more) = true := by simp
          unfold Facts.one
          go_simp
          first | exact ⟨Grew.refl _, rfl⟩ | rfl
        simp only [Act.put, List.setIfInBounds_toArray, List.set_cons_zero, List.set_cons_succ, Nat.zero_add, Nat.reduceAdd]
        apply Facts.Lex.exact [] _ (by kernel_rfl)
        · intro u W hC _
          unfold Facts.one
          go_simp
          first | exact ⟨Grew.refl _, rfl⟩ | rfl
        simp only [Act.put, List.setIfInBounds_toArray, List.set_cons_zero, List.set_cons_succ, Nat.zero_add, Nat.reduceAdd]
        apply Facts.Lex.exact [] _ (by kernel_rfl)
        · intro u W hC _
          unfold Facts.one
          go_simp
          first | exact ⟨Grew.refl _, rfl⟩ | rfl
        simp only [Act.put, List.setIfInBounds_toArray, List.set_cons_zero, List.set_cons_succ, Nat.zero_add, Nat.reduceAdd]
        refine Facts.Lex.done fun u W hC _ => ?_
        have HGE := Lib.hid (HG14.out.trans hC)
        go_wp2
        go_returns
        exact ⟨rfl, HGE.out⟩
      · have HGO := Lib.hid hgo
        have HNE := Lib.hid hne
        have HU0 := Lib.hid hu0
        clear hgo hne hu0
        go_wp2_with fail
        refine (as_crash w wc g gj _ d _ _ (.slice AK keep.length cK) keep HAS.out HGJ.out HWT.out (HK.out.grew HAS.out.gr) (fun b hb => hb)).mono ?_
        rintro e w4 ⟨rfl, has4⟩
        rw [HLL.out] at has4
        have HAS4 := Lib.hid has4
        clear has4 HAS HLL HWT
        go_wp2_with fail
        refine (scan_go w w4 g gj _ L und HAS4.out.at' HGO.out).mono ?_
        rintro e w5 ⟨v5, rfl, hb5, hg5⟩
        have HRR5 := Lib.hid (JS.RR.of_bs hb5)
        obtain ⟨A5, c5, rfl, _⟩ := id HRR5.out
        have HAS5 := Lib.hid (HAS4.out.grew hg5)
        have HNX := Lib.hid (HGO.out.next (by omega))
        have HLN : Hid (L.length = 12) := Lib.hid HGO.out.len
        clear hb5 hg5 HAS4
        have HSM := Lib.hid (JS.same_any w5 _ _ und bs HRR5.out (HAS5.out.row (p := (Value.slice A13 bs.length c13, bs)) (by simp)).rr (by have := HU6.out; omega) (by have := HSL.out; omega))
        have hde : decide (und = bs) = false := HNE.out
        rw [hde] at HSM
        have hun : ¬ (((und).length : Int) = 0) := by have := HU0.out; omega
        have hun2 : (((und).length : Int) == 0) = false := by simpa using hun
        clear hde HGO
        go_wp2_with fail
        refine HSM.out.mono ?_
        rintro e w5b ⟨rfl, hg6⟩
        have HAS5b := Lib.hid (HAS5.out.grew hg6)
        have HSM2 := Lib.hid (JS.same_any w5b _ _ und (und) (by
          obtain ⟨A5', c5', e5, h5⟩ := HRR5.out
          refine ⟨A5', c5', e5, fun i x hx => ?_⟩
          obtain ⟨ad, A2, c2, h1, h2, h3⟩ := h5 i x hx
          exact ⟨ad, A2, c2, h1, DWrite.cellB hg6 h2, (h3.grew hg6).mono fun b hb => Nat.lt_of_lt_of_le hb hg6.size⟩) (HAS5b.out.row (p := (Value.slice A14 (und).length c14, und)) (by simp)).rr (by have := HU6.out; omega) (by have := HU6.out; omega))
        have hde : decide (und = und) = true := decide_eq_true rfl
        rw [hde] at HSM2
        clear hde HRR5 HSM hg6 HAS5
        go_wp2_with fail
        refine HSM2.out.mono ?_
        rintro e w6 ⟨rfl, hg6⟩
        have HAT6 := Lib.hid (HAS5b.out.at'.grew hg6)
        clear hg6 HSM2 HAS5b
        go_wp2_with fail
        refine (next_at w w6 g gj _ _ HAT6.out HSL.out).mono ?_
        rintro e w7 ⟨rfl, hg7⟩
        have HAT7 := Lib.hid (HAT6.out.grew hg7)
        clear hg7 HAT6
        go_wp2_with fail
        refine (scan_13 w w7 g gj _ L [] HAT7.out HNX.out).mono ?_
        rintro e w8 ⟨v8, rfl, hb8, hg8⟩
        obtain ⟨ws8, ho8, _⟩ := id hb8
        obtain ⟨A8, c8, rfl⟩ := own_sl ho8
        have HAT8 := Lib.hid (HAT7.out.grew hg8)
        clear hg8 HAT7 hb8 ho8
        go_wp2_with fail
        refine (next_at w w8 g gj _ _ HAT8.out HSL.out).mono ?_
        rintro e w9 ⟨rfl, hg9⟩
        have HAT9 := Lib.hid (HAT8.out.grew hg9)
        clear hg9 HAT8
        go_wp2_with fail
        refine (JY.new_ab w w9 g gj _ L HAT9.out HLN.out).mono ?_
        rintro e w10 ⟨gk, rfl, hab⟩
        have HAB := Lib.hid hab
        clear hab HAT9
        go_wp2_with fail
        refine (JY.app_ab w w10 g gk gj _ L _ (.slice AM more.length cM) more HAB.out HNX.out (by have := HMO.out; omega) (HM.out.grew HAB.out.at'.g)).mono ?_
        rintro e w11 ⟨rfl, hab, hgd⟩
        have HAB11 := Lib.hid hab
        have HGD := Lib.hid hgd
        clear hab hgd HAB HNX
        go_wp2_with fail
        refine (JY.crash_ab w w11 g gk gj _ _ _ (fun _ => False) (.slice none 0 0) [] HAB11.out (Rd.nil _ _) (fun b hb => hb.elim)).mono ?_
        rintro e w12 ⟨rfl, hab⟩
        have HAB12 := Lib.hid hab
        clear hab HAB11
        go_wp2_with fail
        refine (jnext_any w12 gj g ⟨2, 5, 2, bs.length, 3⟩ HAB12.out.jl (jk3 _ HSL.out)).mono ?_
        rintro e w13 ⟨rfl, hg13⟩
        have HAB13 := Lib.hid (HAB12.out.grew hg13)
        clear hg13 HAB12
        go_wp2_with fail
        refine (scan_13 w w13 g gk _ _ [more] HAB13.out.at' HGD.out).mono ?_
        rintro e w14 ⟨v14, rfl, hb14, hg14⟩
        obtain ⟨A14r, c14r, rfl, he14⟩ := JS.RR.of_bs hb14
        obtain ⟨adc, A12, c12, rfl, hc12, hr12⟩ := he14 0 more rfl
        have HC12 := Lib.hid hc12
        have HR12 := Lib.hid hr12
        have HG14 := Lib.hid (HAB13.out.at'.g.trans hg14)
        have HM12 := Lib.hid (HM.out.grew HG14.out)
        clear hg14 HAB13 hb14 he14 hc12 hr12 HGD
        go_wp2
        refine Facts.wp_region_text (by kernel_rfl) (by kernel_rfl) ?_
        apply Facts.Lex.exact [] (.bool true) (by kernel_rfl)
        · intro u W hC _
          unfold Facts.one
          go_simp
          refine (alive_any W).mono ?_
          rintro e w' ⟨rfl, hg⟩
          exact ⟨_, rfl, hg, rfl⟩
        simp only [Act.put, List.setIfInBounds_toArray, List.set_cons_zero, List.set_cons_succ, Nat.zero_add, Nat.reduceAdd]
        apply Facts.Lex.exact [] _ (by kernel_rfl)
        · intro u W hC _
          unfold Facts.one
          go_simp
          first | exact ⟨Grew.refl _, rfl⟩ | rfl
        simp only [Act.put, List.setIfInBounds_toArray, List.set_cons_zero, List.set_cons_succ, Nat.zero_add, Nat.reduceAdd]
        apply Facts.Lex.exact [] _ (by kernel_rfl)
        · intro u W hC _
          unfold Facts.one
          go_simp
          first | exact ⟨Grew.refl _, rfl⟩ | rfl
        simp only [Act.put, List.setIfInBounds_toArray, List.set_cons_zero, List.set_cons_succ, Nat.zero_add, Nat.reduceAdd]
        apply Facts.Lex.exact [] _ (by kernel_rfl)
        · intro u W hC _
          unfold Facts.one
          go_simp
          first | exact ⟨Grew.refl _, rfl⟩ | rfl
        simp only [Act.put, List.setIfInBounds_toArray, List.set_cons_zero, List.set_cons_succ, Nat.zero_add, Nat.reduceAdd]
        apply Facts.Lex.exact [] _ (by kernel_rfl)
        · intro u W hC _
          unfold Facts.one
          go_simp
          first | exact ⟨Grew.refl _, rfl⟩ | rfl
        simp only [Act.put, List.setIfInBounds_toArray, List.set_cons_zero, List.set_cons_succ, Nat.zero_add, Nat.reduceAdd]
        apply Facts.Lex.exact [] _ (by kernel_rfl)
        · intro u W hC _
          unfold Facts.one
          go_simp
          first | exact ⟨Grew.refl _, rfl⟩ | rfl
        simp only [Act.put, List.setIfInBounds_toArray, List.set_cons_zero, List.set_cons_succ, Nat.zero_add, Nat.reduceAdd]
        apply Facts.Lex.exact [] _ (by kernel_rfl)
        · intro u W hC _
          unfold Facts.one
          go_simp
          first | exact ⟨Grew.refl _, rfl⟩ | rfl
        simp only [Act.put, List.setIfInBounds_toArray, List.set_cons_zero, List.set_cons_succ, Nat.zero_add, Nat.reduceAdd]
        apply Facts.Lex.exact [] _ (by kernel_rfl)
        · intro u W hC _
          unfold Facts.one
          go_simp
          first | exact ⟨Grew.refl _, rfl⟩ | rfl
        simp only [Act.put, List.setIfInBounds_toArray, List.set_cons_zero, List.set_cons_succ, Nat.zero_add, Nat.reduceAdd]
        apply Facts.Lex.exact [] _ (by kernel_rfl)
        · intro u W hC _
          unfold Facts.one
          go_simp
          first | exact ⟨Grew.refl _, rfl⟩ | rfl
        simp only [Act.put, List.setIfInBounds_toArray, List.set_cons_zero, List.set_cons_succ, Nat.zero_add, Nat.reduceAdd]
        apply Facts.Lex.exact [] _ (by kernel_rfl)
        · intro u W hC _
          unfold Facts.one
          go_simp
          first | exact ⟨Grew.refl _, rfl⟩ | rfl
        simp only [Act.put, List.setIfInBounds_toArray, List.set_cons_zero, List.set_cons_succ, Nat.zero_add, Nat.reduceAdd]
        apply Facts.Lex.exact [] _ (by kernel_rfl)
        · intro u W hC _
          unfold Facts.one
          go_simp
          first | exact ⟨Grew.refl _, rfl⟩ | rfl
        simp only [Act.put, List.setIfInBounds_toArray, List.set_cons_zero, List.set_cons_succ, Nat.zero_add, Nat.reduceAdd]
        apply Facts.Lex.exact [] _ (by kernel_rfl)
        · intro u W hC _
          unfold Facts.one
          go_simp
          first | exact ⟨Grew.refl _, rfl⟩ | rfl
        simp only [Act.put, List.setIfInBounds_toArray, List.set_cons_zero, List.set_cons_succ, Nat.zero_add, Nat.reduceAdd]
        apply Facts.Lex.exact [] _ (by kernel_rfl)
        · intro u W hC _
          unfold Facts.one
          go_simp
          first | exact ⟨Grew.refl _, rfl⟩ | rfl
        simp only [Act.put, List.setIfInBounds_toArray, List.set_cons_zero, List.set_cons_succ, Nat.zero_add, Nat.reduceAdd]
        apply Facts.Lex.exact [] _ (by kernel_rfl)
        · intro u W hC _
          have d1 : W.cell? adc = some (.slice A12 more.length c12) := DWrite.cellB hC HC12.out
          unfold Facts.one
          go_simp
          first | exact ⟨Grew.refl _, rfl⟩ | rfl
        simp only [Act.put, List.setIfInBounds_toArray, List.set_cons_zero, List.set_cons_succ, Nat.zero_add, Nat.reduceAdd]
        apply Facts.Lex.exact [] _ (by kernel_rfl)
        · intro u W hC _
          have d1 := Nums.conv22 (HR12.out.grew hC)
          unfold Facts.one
          go_simp
          first | exact ⟨Grew.refl _, rfl⟩ | rfl
        simp only [Act.put, List.setIfInBounds_toArray, List.set_cons_zero, List.set_cons_succ, Nat.zero_add, Nat.reduceAdd]
        apply Facts.Lex.exact [] _ (by kernel_rfl)
        · intro u W hC _
          unfold Facts.one
          go_simp
          first | exact ⟨Grew.refl _, rfl⟩ | rfl
        simp only [Act.put, List.setIfInBounds_toArray, List.set_cons_zero, List.set_cons_succ, Nat.zero_add, Nat.reduceAdd]
        apply Facts.Lex.exact [] _ (by kernel_rfl)
        · intro u W hC _
          have d1 := Nums.conv22 (HM12.out.grew hC)
          unfold Facts.one
          go_simp
          first | exact ⟨Grew.refl _, rfl⟩ | rfl
        simp only [Act.put, List.setIfInBounds_toArray, List.set_cons_zero, List.set_cons_succ, Nat.zero_add, Nat.reduceAdd]
        apply Facts.Lex.exact [] _ (by kernel_rfl)
        · intro u W hC _
          have d1 : (more == more) = true := by simp
          unfold Facts.one
          go_simp
          first | exact ⟨Grew.refl _, rfl⟩ | rfl
        simp only [Act.put, List.setIfInBounds_toArray, List.set_cons_zero, List.set_cons_succ, Nat.zero_add, Nat.reduceAdd]
        apply Facts.Lex.exact [] _ (by kernel_rfl)
        · intro u W hC _
          unfold Facts.one
          go_simp
          first | exact ⟨Grew.refl _, rfl⟩ | rfl
        simp only [Act.put, List.setIfInBounds_toArray, List.set_cons_zero, List.set_cons_succ, Nat.zero_add, Nat.reduceAdd]
        apply Facts.Lex.exact [] _ (by kernel_rfl)
        · intro u W hC _
          unfold Facts.one
          go_simp
          first | exact ⟨Grew.refl _, rfl⟩ | rfl
        simp only [Act.put, List.setIfInBounds_toArray, List.set_cons_zero, List.set_cons_succ, Nat.zero_add, Nat.reduceAdd]
        refine Facts.Lex.done fun u W hC _ => ?_
        have HGE := Lib.hid (HG14.out.trans hC)
        go_wp2
        go_returns
        exact ⟨rfl, HGE.out⟩
end Go.Proofs.Ytbnicphegbdfnaa.JV
