/-
  HallMay, walked: any acts, one behind the other.
  Conditions: the accounts' texts' sizes.
-/
import Derived.Test.YtmegdgeiikhflaaGreatHP
import Derived.Test.YtmegdgeiikhflaaGreatHO
import Derived.Test.YtmegdgeiikhflaaGreatHV
import Derived.Deep.DeepCutAuto
import Derived.Deep.CutBlock
namespace Go.Proofs.YtmegdgeiikhflaaGreat.HM
set_option maxRecDepth 100000
open Go.ChangeShapes Go.WideShapes Go.ChangeAt Go.Deep Go.Joins
open Go Go.RowKit Go.Lib Go.Proofs.YtmegdgeiikhflaaGreat Go.Proofs.YtmegdgeiikhflaaGreat.Facts Go.Proofs.YtmegdgeiikhflaaGreat.Plain Go.Proofs.YtmegdgeiikhflaaGreat.Ints Go.Proofs.YtmegdgeiikhflaaGreat.RRows Go.Proofs.YtmegdgeiikhflaaGreat.LBox Go.Proofs.YtmegdgeiikhflaaGreat.RSmall Go.Proofs.YtmegdgeiikhflaaGreat.RFind Go.Proofs.YtmegdgeiikhflaaGreat.RAll Go.Proofs.YtmegdgeiikhflaaGreat.RRules Go.Proofs.YtmegdgeiikhflaaGreat.RRule3 Go.Proofs.YtmegdgeiikhflaaGreat.RRight Go.Proofs.YtmegdgeiikhflaaGreat.HA Go.Proofs.YtmegdgeiikhflaaGreat.HB Go.Proofs.YtmegdgeiikhflaaGreat.HG Go.Proofs.YtmegdgeiikhflaaGreat.HC Go.Proofs.YtmegdgeiikhflaaGreat.HD Go.Proofs.YtmegdgeiikhflaaGreat.HN Go.Proofs.YtmegdgeiikhflaaGreat.HW Go.Proofs.YtmegdgeiikhflaaGreat.HX Go.Proofs.YtmegdgeiikhflaaGreat.HY Go.Proofs.YtmegdgeiikhflaaGreat.HR Go.Proofs.YtmegdgeiikhflaaGreat.HT Go.Proofs.YtmegdgeiikhflaaGreat.HP Go.Proofs.YtmegdgeiikhflaaGreat.HO

structure At where
  kind : Int
  place : Int
  by' : Int
  who : Int
def ats (x : At) : List Value := [.int .i64 x.kind, .int .i64 x.place, .int .i64 x.by', .int .i64 x.who]
abbrev Ats (w : World) (v : Value) (l : List At) : Prop := Rw w v l.length (l.flatMap ats)
theorem Ats_at {w : World} {v : Value} {l : List At} (h : Ats w v l) {k : Nat} {x : At} (hk : l[k]? = some x) :
    ∃ ad c, v = .slice (some ad) l.length c ∧ l.length ≤ c ∧ w.cell? (ad.add (k * 4)) = some (.int .i64 x.kind) ∧ w.cell? ⟨(ad.add (k * 4)).block, (ad.add (k * 4)).off + 1, none⟩ = some (.int .i64 x.place) ∧
      w.cell? ⟨(ad.add (k * 4)).block, (ad.add (k * 4)).off + 2, none⟩ = some (.int .i64 x.by') ∧ w.cell? ⟨(ad.add (k * 4)).block, (ad.add (k * 4)).off + 3, none⟩ = some (.int .i64 x.who) := by
  obtain ⟨ad, c, e, hc, h0, h1⟩ := Rw.at (f := ats) (n := 4) (fun _ => rfl) h hk (by decide)
  exact ⟨ad, c, e, hc, h0 _ rfl, h1 1 _ (by decide) rfl, h1 2 _ (by decide) rfl, h1 3 _ (by decide) rfl⟩
theorem open_acts {H : Type} {enc : TypeId × Value → H} {w : World} {r : Reach} {b0 : Nat} {v : Value} {d : DataW H} {p : List MemPlace} (hv : Value.okWide Tryz.prog w r b0 64 v) (h : DataW.Trod enc Tryz.prog w 0 (fun _ => true) true 64 v d p) : ∃ l, Ats w v l := by
  obtain ⟨A, n, c, rfl⟩ := okWide_slice Tryz.underlying64 hv
  obtain ⟨fuel, hf⟩ := h
  haveI : Inhabited At := ⟨⟨0, 0, 0, 0⟩⟩
  obtain ⟨l, hr, _⟩ := open_row (α := At) (f := ats) (n := 4) (e := 66) (P := fun _ => True) (fun _ => rfl) Tryz.underlying64 (by kernel_rfl) (fun n' cs' y h => by
    obtain ⟨hl, hf⟩ := fields Tryz.underlying66 (by kernel_rfl) (by kernel_rfl) h
    obtain ⟨a, b, c, d, rfl⟩ := list4 hl
    obtain ⟨_, _, g0⟩ := hf 0 (by decide) a rfl
    obtain ⟨_, _, g1⟩ := hf 1 (by decide) b rfl
    obtain ⟨_, _, g2⟩ := hf 2 (by decide) c rfl
    obtain ⟨_, _, g3⟩ := hf 3 (by decide) d rfl
    obtain ⟨z0, rfl, _⟩ := el_int g0
    obtain ⟨z1, rfl, _⟩ := el_int g1
    obtain ⟨z2, rfl, _⟩ := el_int g2
    obtain ⟨z3, rfl, _⟩ := el_int g3
    exact ⟨⟨z0, z1, z2, z3⟩, rfl, trivial⟩) hf
  exact ⟨l, hr⟩
theorem x_cells {W : World} {B : Nat} {a b c d : Int} (h : W.heap[B]? = some (.cells #[.int .i64 a, .int .i64 b, .int .i64 c, .int .i64 d] 66 (0, 0))) : W.cell? ⟨B, 0, none⟩ = some (.int .i64 a) ∧ W.cell? ⟨B, 1, none⟩ = some (.int .i64 b) ∧ W.cell? ⟨B, 2, none⟩ = some (.int .i64 c) ∧ W.cell? ⟨B, 3, none⟩ = some (.int .i64 d) := by
  refine ⟨?_, ?_, ?_, ?_⟩ <;> (rw [cell_of_row _ _ _ _ _ _ h]; rfl)
theorem fine_all (r : Re) (xw xk : Int) : Fine r xw (if xk = 2 then rE r xw else (if xk = 1 then rR else rI)) := by
  by_cases h2 : xk = 2
  · rw [if_pos h2]
    exact fine_E r xw
  · rw [if_neg h2]
    by_cases h1 : xk = 1
    · rw [if_pos h1]
      exact fine_R r xw
    · rw [if_neg h1]
      exact fine_I r xw
theorem rk_small {r : Re} {R : List (List Int)} (h : rightH r R = true) (i : Nat) : (rk R i).length ≤ 100 := by
  by_cases hi : i < R.length
  · exact ((rows_fine h).1 _ (List.mem_of_getElem? (rk_get hi))).2
  · unfold rk
    rw [List.getElem?_eq_none (by omega)]
    simp
theorem new_nil {r : Re} (h : ¬ mayBe r = true) : newR r = [] := if_neg h
/-- The acts go on: ranks that may be. -/
structure LM (w1 : World) (r : Re) (B : Nat) (o : Obj) (v : Value) (R : List (List Int)) (y : World) : Prop where
  rk : RK y v R
  rt : rightH r R = true
  gr : Grew w1 y
  bx : y.heap[B]? = some o
theorem LM.grew {w1 y z : World} {r : Re} {B : Nat} {o : Obj} {v : Value} {R : List (List Int)} (h : LM w1 r B o v R y) (hg : Grew y z) : LM w1 r B o v R z := ⟨h.rk.grew hg, h.rt, h.gr.trans hg, keepB h.bx hg⟩
set_option maxHeartbeats 16000000 in
theorem law_any (v vl : Value) (r : Re) (L : List At) (w : World) (h : ReIs w v r) (hs : Sized r) (hL : Ats w vl L) : Calls Tryz.prog 9 #[v, vl] w fun e w' => e = .returned (.bool true) ∧ Grew w w' := by
  have HRE := Lib.hid h
  have HSZ := Lib.hid hs
  have HLA := Lib.hid hL
  obtain ⟨v0, v1, v2, v3, v4, rfl, h0, h1, h2, h3, h4⟩ := h
  have HL3 := Lib.hid h3
  obtain ⟨A0', cp0, rfl, _⟩ := h0.slice
  obtain ⟨A1', cp1, rfl, _⟩ := id h1
  obtain ⟨A2', cp2, rfl, _⟩ := h2.slice
  obtain ⟨A3', cp3, rfl, _⟩ := h3.slice
  obtain ⟨A4', cp4, rfl, _⟩ := h4.slice
  obtain ⟨AA, ca, rfl, hl1, hl2⟩ := hL.slice
  have HLN : Hid (L.length ≤ maxLen) := Lib.hid (Nat.le_trans hl1 hl2)
  clear h0 h1 h2 h3 h4 hs hL hl1 hl2
  have HAL := Lib.hid (fun W => HV.alive_any W)
  have HRI := Lib.hid (fun W hg => right_re _ r W (HRE.out.grew (w' := W) hg) HSZ.out)
  have HNW := Lib.hid (fun W hg => new_any _ r W (HRE.out.grew (w' := W) hg) HSZ.out)
  have HMB := Lib.hid (@new_nil r)
  have HRN := Lib.hid (@right_new r)
  have HS8 := Lib.hid (@sizes r)
  have G0 : Hid (Grew w (w.alloc (Obj.cells #[.slice A0' r.labels.length cp0, .slice A1' r.lines.length cp1, .slice A2' r.accounts.length cp2, .slice A3' r.guilds.length cp3, .slice A4' r.quotas.length cp4, .int .i64 r.orders, .int .i64 r.audits, .int .i64 r.rate, .int .i64 r.rounds] 28))) := Lib.hid (by unfold Grew; go_grown)
  have R0 : Hid ((w.alloc (Obj.cells #[.slice A0' r.labels.length cp0, .slice A1' r.lines.length cp1, .slice A2' r.accounts.length cp2, .slice A3' r.guilds.length cp3, .slice A4' r.quotas.length cp4, .int .i64 r.orders, .int .i64 r.audits, .int .i64 r.rate, .int .i64 r.rounds] 28)).heap[w.heap.size]? = some (rcell (.slice A0' r.labels.length cp0) (.slice A1' r.lines.length cp1) (.slice A2' r.accounts.length cp2) (.slice A3' r.guilds.length cp3) (.slice A4' r.quotas.length cp4) r.orders r.audits r.rate r.rounds)) := Lib.hid (heap_alloc_new w _)
  obtain ⟨r0, r1, r2, r3, r4, r5, r6, r7, r8⟩ := re_cells R0.out
  generalize mayBe r = b at *
  go_enter Tryz.func9, Tryz.ntmps9
  go_wp2_with fail
  with_reducible refine (HNW.out _ G0.out).mono ?_
  rintro e w1 ⟨vn, rfl, hrk, hg⟩
  obtain ⟨AN, cn, rfl, _⟩ := id hrk
  have HRK := Lib.hid hrk
  have G1 := Lib.hid (G0.out.trans hg)
  have R1 := Lib.hid (keepB R0.out hg)
  clear hg hrk r0 r1 r2 r3 r4 r5 r6 r7 r8
  obtain ⟨r0, r1, r2, r3, r4, r5, r6, r7, r8⟩ := re_cells R1.out
  go_wp2_with fail
  with_reducible refine (HRI.out _ G1.out).mono ?_
  rintro e w2 ⟨rfl, hg⟩
  have G2 := Lib.hid (G1.out.trans hg)
  have R2 := Lib.hid (keepB R1.out hg)
  have HRK2 := Lib.hid (HRK.out.grew hg)
  clear hg HRK r0 r1 r2 r3 r4 r5 r6 r7 r8
  cases b with
  | false =>
    have hn := HMB.out (by simp)
    rw [hn] at *
    go_wp2_with fail
    with_reducible refine (HAL.out _).mono ?_
    rintro e w3 ⟨rfl, hg⟩
    have G3 := Lib.hid (G2.out.trans hg)
    clear hg
    go_wp2
    go_returns
    exact ⟨rfl, G3.out⟩
  | true =>
    obtain ⟨ha8, hg8, _⟩ := HS8.out (by first | rfl | trivial)
    have HLM0 := Lib.hid (show LM w r w.heap.size (rcell (.slice A0' r.labels.length cp0) (.slice A1' r.lines.length cp1) (.slice A2' r.accounts.length cp2) (.slice A3' r.guilds.length cp3) (.slice A4' r.quotas.length cp4) r.orders r.audits r.rate r.rounds) _ _ w2 from ⟨HRK2.out, HRN.out (by first | rfl | trivial), G2.out, R2.out⟩)
    have HG8 := Lib.hid hg8
    clear HRK2 HRN HMB HS8 HRI HNW ha8 hg8 G0 R0 G1 R1 G2 R2
    go_upto_block 0 with fail
    go_cut [5] (fun s5 wx => ∃ (A : Option Addr) (c : Nat) (R : List (List Int)), s5 = .slice A R.length c ∧ Hid (LM w r w.heap.size (rcell (.slice A0' r.labels.length cp0) (.slice A1' r.lines.length cp1) (.slice A2' r.accounts.length cp2) (.slice A3' r.guilds.length cp3) (.slice A4' r.quotas.length cp4) r.orders r.audits r.rate r.rounds) (.slice A R.length c) R wx))
    case rest =>
      as_aux_lemma =>
        obtain ⟨A, c, R, rfl, HLM⟩ := hcut
        clear HLM0
        have HRGT := Lib.hid (fun W hg => hright_any _ _ r R W (HRE.out.grew (HLM.out.gr.trans hg)) HSZ.out (HLM.out.rk.grew (w' := W) hg))
        rw [HLM.out.rt] at HRGT
        have HLEN : Hid (R.length = r.guilds.length) := Lib.hid (right_parts HLM.out.rt).2.1
        go_wp2_with fail
        go_loopg [11] r.guilds.length (fun q s11 wx => ∃ (k : Nat), k + q = r.guilds.length ∧ s11 = .int .i64 k ∧ Hid (Grew wc wx))
        case atStart => exact ⟨0, Nat.zero_add _, rfl, Lib.hid (Grew.refl _)⟩
        case round =>
          obtain ⟨k, hkq, rfl, HG⟩ := hrel
          have HLX := Lib.hid (HLM.out.grew HG.out)
          obtain ⟨r0, r1, r2, r3, r4, r5, r6, r7, r8⟩ := re_cells HLX.out.bx
          cases gk with
          | zero =>
            have hkz : ¬ ((k : Int) < (r.guilds.length : Int)) := by omega
            go_wp2_with fail
            with_reducible refine (HAL.out _).mono ?_
            rintro e w3 ⟨rfl, hg⟩
            have HLY := Lib.hid (HLX.out.grew hg)
            have G3 := Lib.hid (HG.out.trans hg)
            clear hg r0 r1 r2 r3 r4 r5 r6 r7 r8
            obtain ⟨r0, r1, r2, r3, r4, r5, r6, r7, r8⟩ := re_cells HLY.out.bx
            go_wp2_with fail
            with_reducible refine (HRGT.out _ G3.out).mono ?_
            rintro e w4 ⟨rfl, hg⟩
            have G4 := Lib.hid (HLY.out.gr.trans hg)
            clear hg r0 r1 r2 r3 r4 r5 r6 r7 r8
            go_wp2
            go_returns
            exact ⟨rfl, G4.out⟩
          | succ q =>
            have hkz : (k : Int) < (r.guilds.length : Int) := by omega
            obtain ⟨ad, c2, e, hc2, c0, c1⟩ := Gs_at (HL3.out.grew HLX.out.gr) (gu_get (k := k) (by omega))
            injection e with e1 _ e3
            subst e1 e3
            have C1 := Lib.hid c1
            have HRF := Lib.hid (fun W hg => rankOf_any _ _ r R (k : Int) (gu r k).founder W (HRE.out.grew (HLX.out.gr.trans hg)) HSZ.out (HLX.out.rk.grew (w' := W) hg))
            rw [rank_founder HLM.out.rt (by have := HLEN.out; omega)] at HRF
            have hkw : wrap64 ((k : Int) + 1) = (k : Int) + 1 := by
              have := HG8.out
              unfold wrap64
              omega
            generalize gu r k = x at *
            obtain ⟨bit, fo⟩ := x
            simp only at C1 HRF
            clear c0 c1
            go_wp2
            refine Facts.wp_region_text (by kernel_rfl) (by kernel_rfl) ?_
            apply Facts.Lex.exact [] _ (by kernel_rfl)
            · intro u W hC _
              obtain ⟨r0, r1, r2, r3, r4, r5, r6, r7, r8⟩ := re_cells (keepB HLX.out.bx hC)
              unfold Facts.one
              go_simp
              first | exact ⟨Grew.refl _, rfl⟩ | rfl
            simp only [Act.put, List.setIfInBounds_toArray, List.set_cons_zero, List.set_cons_succ, Nat.zero_add]
            apply Facts.Lex.exact [] _ (by kernel_rfl)
            · intro u W hC _
              unfold Facts.one
              go_simp
              first | exact ⟨Grew.refl _, rfl⟩ | rfl
            simp only [Act.put, List.setIfInBounds_toArray, List.set_cons_zero, List.set_cons_succ, Nat.reduceAdd]
            apply Facts.Lex.exact [] _ (by kernel_rfl)
            · intro u W hC _
              unfold Facts.one
              go_simp
              first | exact ⟨Grew.refl _, rfl⟩ | rfl
            simp only [Act.put, List.setIfInBounds_toArray, List.set_cons_zero, List.set_cons_succ, Nat.reduceAdd]
            apply Facts.Lex.exact [] _ (by kernel_rfl)
            · intro u W hC _
              unfold Facts.one
              go_simp
              first | exact ⟨Grew.refl _, rfl⟩ | rfl
            simp only [Act.put, List.setIfInBounds_toArray, List.set_cons_zero, List.set_cons_succ, Nat.reduceAdd]
            apply Facts.Lex.exact [] _ (by kernel_rfl)
            · intro u W hC _
              obtain ⟨r0, r1, r2, r3, r4, r5, r6, r7, r8⟩ := re_cells (keepB HLX.out.bx hC)
              unfold Facts.one
              go_simp
              first | exact ⟨Grew.refl _, rfl⟩ | rfl
            simp only [Act.put, List.setIfInBounds_toArray, List.set_cons_zero, List.set_cons_succ, Nat.reduceAdd]
            apply Facts.Lex.exact [] _ (by kernel_rfl)
            · intro u W hC _
              unfold Facts.one
              go_simp
              first | exact ⟨Grew.refl _, rfl⟩ | rfl
            simp only [Act.put, List.setIfInBounds_toArray, List.set_cons_zero, List.set_cons_succ, Nat.reduceAdd]
            apply Facts.Lex.exact [] _ (by kernel_rfl)
            · intro u W hC _
              unfold Facts.one
              go_simp
              first | exact ⟨Grew.refl _, rfl⟩ | rfl
            simp only [Act.put, List.setIfInBounds_toArray, List.set_cons_zero, List.set_cons_succ, Nat.reduceAdd]
            apply Facts.Lex.exact [] _ (by kernel_rfl)
            · intro u W hC _
              unfold Facts.one
              go_simp
              first | exact ⟨Grew.refl _, rfl⟩ | rfl
            simp only [Act.put, List.setIfInBounds_toArray, List.set_cons_zero, List.set_cons_succ, Nat.reduceAdd]
            apply Facts.Lex.exact [] _ (by kernel_rfl)
            · intro u W hC _
              have c1 := cellB hC C1.out
              unfold Facts.one
              go_simp
              first | exact ⟨Grew.refl _, rfl⟩ | rfl
            simp only [Act.put, List.setIfInBounds_toArray, List.set_cons_zero, List.set_cons_succ, Nat.reduceAdd]
            apply Facts.Lex.exact [] _ (by kernel_rfl)
            · intro u W hC _
              unfold Facts.one
              go_simp
              first | exact ⟨Grew.refl _, rfl⟩ | rfl | (refine (HRF.out W hC).mono ?_; rintro e w' ⟨rfl, hg⟩; exact ⟨_, rfl, hg, rfl⟩)
            simp only [Act.put, List.setIfInBounds_toArray, List.set_cons_zero, List.set_cons_succ, Nat.reduceAdd]
            apply Facts.Lex.exact [] _ (by kernel_rfl)
            · intro u W hC _
              unfold Facts.one
              go_simp
              first | exact ⟨Grew.refl _, rfl⟩ | rfl
            simp only [Act.put, List.setIfInBounds_toArray, List.set_cons_zero, List.set_cons_succ, Nat.reduceAdd]
            refine Facts.Lex.done fun u W2 hC hL => ?_
            have HG2 := Lib.hid (HG.out.trans hC)
            clear hC hL r0 r1 r2 r3 r4 r5 r6 r7 r8
            go_wp2
            go_roundg q
            case measure => omega
            case rel => exact ⟨k + 1, by omega, by first | rfl | simp [hkw], HG2⟩
    case first =>
      go_wp2_with fail
      go_loopg [5, 6] 40 (fun q s5 s6 wx => ∃ (i : Nat) (A : Option Addr) (c : Nat) (R : List (List Int)), i + q = 40 ∧ s5 = .slice A R.length c ∧ s6 = .int .i64 (i : Int) ∧ Hid (LM w r w.heap.size (rcell (.slice A0' r.labels.length cp0) (.slice A1' r.lines.length cp1) (.slice A2' r.accounts.length cp2) (.slice A3' r.guilds.length cp3) (.slice A4' r.quotas.length cp4) r.orders r.audits r.rate r.rounds) (.slice A R.length c) R wx))
      case atStart => exact ⟨0, _, _, _, Nat.zero_add _, rfl, rfl, HLM0⟩
      case round =>
        obtain ⟨i, A, c, R, hiq, rfl, rfl, HLM⟩ := hrel
        clear HLM0
        by_cases hin : i < L.length ∧ i < 40
        · obtain ⟨hil, hi40⟩ := hin
          obtain ⟨q0, rfl⟩ : ∃ q0, gk = q0 + 1 := ⟨gk - 1, by omega⟩
          have hil' : (i : Int) < (L.length : Int) := by omega
          have hi40' : (i : Int) < 40 := by omega
          obtain ⟨x, hx⟩ : ∃ x, L[i]? = some x := ⟨_, List.getElem?_eq_getElem hil⟩
          obtain ⟨ad, c2, e, hc2, k0, k1, k2, k3⟩ := Ats_at (HLA.out.grew HLM.out.gr) hx
          injection e with e1 _ e3
          subst e1 e3
          obtain ⟨xk, xp, xb, xw⟩ := x
          simp only at k0 k1 k2 k3
          have hiw : wrap64 ((i : Int) + 1) = (i : Int) + 1 := by
            unfold wrap64
            omega
          have A0 : Hid (Grew wr (wr.alloc (.cells #[.int .i64 xk, .int .i64 xp, .int .i64 xb, .int .i64 xw] 66))) := Lib.hid (by unfold Grew; go_grown)
          have X0 : Hid ((wr.alloc (.cells #[.int .i64 xk, .int .i64 xp, .int .i64 xb, .int .i64 xw] 66)).heap[wr.heap.size]? = some (.cells #[.int .i64 xk, .int .i64 xp, .int .i64 xb, .int .i64 xw] 66 (0, 0))) := Lib.hid (heap_alloc_new wr _)
          have HLM1 := Lib.hid (HLM.out.grew A0.out)
          obtain ⟨r0, r1, r2, r3, r4, r5, r6, r7, r8⟩ := re_cells HLM1.out.bx
          rcases hactI : actR r R xp xb xw rI with ⟨Ri, ei⟩
          have HINV := Lib.hid (invite_any _ _ r R xp xb xw _ (HRE.out.grew HLM1.out.gr) HSZ.out HLM1.out.rk)
          rw [hactI] at HINV
          clear hx hil hi40
          obtain ⟨x0, x1, x2, x3⟩ := x_cells X0.out
          go_wp2_with fail
          with_reducible refine HINV.out.mono ?_
          rintro e w5 ⟨v8, rfl, hrk, hg⟩
          obtain ⟨A8, c8, rfl, _⟩ := id hrk
          have HN5 := Lib.hid hrk
          have HLM5 := Lib.hid (HLM1.out.grew hg)
          have X5 := Lib.hid (keepB X0.out hg)
          clear hrk hg HINV HLM1 k0 k1 k2 k3 x0 x1 x2 x3 r0 r1 r2 r3 r4 r5 r6 r7 r8
          have HACT := Lib.hid hactI
          have HFW := Lib.hid (show Fine r xw (if xk = 2 then rE r xw else (if xk = 1 then rR else rI)) from fine_all r xw xk)
          clear hactI
          obtain ⟨x0, x1, x2, x3⟩ := x_cells X5.out
          obtain ⟨r0, r1, r2, r3, r4, r5, r6, r7, r8⟩ := re_cells HLM5.out.bx
          go_upto_if 51 with fail
          clear x0 x1 x2 x3 r0 r1 r2 r3 r4 r5 r6 r7 r8
          go_cut [8, 9] (fun s8 s9 wx => ∃ (A8 : Option Addr) (c8 : Nat) (Rn : List (List Int)) (en : Int), s8 = .slice A8 Rn.length c8 ∧ s9 = .int .i64 en ∧ Hid (actR r R xp xb xw (if xk = 1 then rR else rI) = (Rn, en)) ∧ Hid (RK wx (.slice A8 Rn.length c8) Rn) ∧ Hid (LM w r w.heap.size (rcell (.slice A0' r.labels.length cp0) (.slice A1' r.lines.length cp1) (.slice A2' r.accounts.length cp2) (.slice A3' r.guilds.length cp3) (.slice A4' r.quotas.length cp4) r.orders r.audits r.rate r.rounds) (.slice A R.length c) R wx) ∧ Hid (wx.heap[wr.heap.size]? = some (.cells #[.int .i64 xk, .int .i64 xp, .int .i64 xb, .int .i64 xw] 66 (0, 0))))
          case first =>
            obtain ⟨x0, x1, x2, x3⟩ := x_cells X5.out
            obtain ⟨r0, r1, r2, r3, r4, r5, r6, r7, r8⟩ := re_cells HLM5.out.bx
            by_cases kk1 : xk = 1
            · have hk1 : (xk == 1) = true := by simpa using kk1
              rcases hact : actR r R xp xb xw rR with ⟨Rn, en⟩
              have HA2 : Hid (actR r R xp xb xw (if xk = 1 then rR else rI) = (Rn, en)) := Lib.hid (by rw [if_pos kk1]; exact hact)
              clear kk1
              have HDEED : Hid (∀ W, LM w r w.heap.size (rcell (.slice A0' r.labels.length cp0) (.slice A1' r.lines.length cp1) (.slice A2' r.accounts.length cp2) (.slice A3' r.guilds.length cp3) (.slice A4' r.quotas.length cp4) r.orders r.audits r.rate r.rounds) (.slice A R.length c) R W → Calls Tryz.prog 44 #[.agg #[.slice A0' r.labels.length cp0, .slice A1' r.lines.length cp1, .slice A2' r.accounts.length cp2, .slice A3' r.guilds.length cp3, .slice A4' r.quotas.length cp4, .int .i64 r.orders, .int .i64 r.audits, .int .i64 r.rate, .int .i64 r.rounds], .slice A R.length c, .int .i64 xp, .int .i64 xb, .int .i64 xw] W fun e w' => ∃ v', e = .returned (.tuple #[v', .int .i64 en]) ∧ RK w' v' Rn ∧ Grew W w') := Lib.hid (fun W hlm => by
                have := raise_any _ _ r R xp xb xw W (HRE.out.grew hlm.gr) HSZ.out hlm.rk
                rw [hact] at this
                exact this)
              clear hact
              go_wp2_with fail
              with_reducible refine (HDEED.out _ HLM5.out).mono ?_
              rintro e w6 ⟨v9, rfl, hrk, hg⟩
              obtain ⟨A9, c9, rfl, _⟩ := id hrk
              have HN6 := Lib.hid hrk
              have HLM6 := Lib.hid (HLM5.out.grew hg)
              have X6 := Lib.hid (keepB X5.out hg)
              clear hrk hg HDEED x0 x1 x2 x3 r0 r1 r2 r3 r4 r5 r6 r7 r8
              go_wp2_with fail
              go_meet
              case rel => exact ⟨_, _, Rn, en, rfl, rfl, HA2, HN6, HLM6, X6⟩
            · have hk1 : (xk == 1) = false := by simpa using kk1
              have HA2 : Hid (actR r R xp xb xw (if xk = 1 then rR else rI) = (Ri, ei)) := Lib.hid (by rw [if_neg kk1]; exact HACT.out)
              clear kk1
              go_wp2_with fail
              go_meet
              case rel => exact ⟨_, _, Ri, ei, rfl, rfl, HA2, HN5, HLM5, X5⟩
          case rest =>
            clear HACT HN5 HLM5 X5
            obtain ⟨A8', c8', Ri', ei', rfl, rfl, HACT, HN5, HLM5, X5⟩ := hcut
            obtain ⟨x0, x1, x2, x3⟩ := x_cells X5.out
            obtain ⟨r0, r1, r2, r3, r4, r5, r6, r7, r8⟩ := re_cells HLM5.out.bx
            go_upto_if 66 with fail
            clear x0 x1 x2 x3 r0 r1 r2 r3 r4 r5 r6 r7 r8
            go_cut [8, 9] (fun s8 s9 wx => ∃ (A8 : Option Addr) (c8 : Nat) (Rn : List (List Int)) (en : Int), s8 = .slice A8 Rn.length c8 ∧ s9 = .int .i64 en ∧ Hid (actR r R xp xb xw (if xk = 2 then rE r xw else (if xk = 1 then rR else rI)) = (Rn, en)) ∧ Hid (RK wx (.slice A8 Rn.length c8) Rn) ∧ Hid (LM w r w.heap.size (rcell (.slice A0' r.labels.length cp0) (.slice A1' r.lines.length cp1) (.slice A2' r.accounts.length cp2) (.slice A3' r.guilds.length cp3) (.slice A4' r.quotas.length cp4) r.orders r.audits r.rate r.rounds) (.slice A R.length c) R wx) ∧ Hid (wx.heap[wr.heap.size]? = some (.cells #[.int .i64 xk, .int .i64 xp, .int .i64 xb, .int .i64 xw] 66 (0, 0))))
            case first =>
              obtain ⟨x0, x1, x2, x3⟩ := x_cells X5.out
              obtain ⟨r0, r1, r2, r3, r4, r5, r6, r7, r8⟩ := re_cells HLM5.out.bx
              by_cases kk1 : xk = 2
              · have hk1 : (xk == 2) = true := by simpa using kk1
                rcases hact : actR r R xp xb xw (rE r xw) with ⟨Rn, en⟩
                have HA2 : Hid (actR r R xp xb xw (if xk = 2 then rE r xw else (if xk = 1 then rR else rI)) = (Rn, en)) := Lib.hid (by rw [if_pos kk1]; exact hact)
                clear kk1
                have HDEED : Hid (∀ W, LM w r w.heap.size (rcell (.slice A0' r.labels.length cp0) (.slice A1' r.lines.length cp1) (.slice A2' r.accounts.length cp2) (.slice A3' r.guilds.length cp3) (.slice A4' r.quotas.length cp4) r.orders r.audits r.rate r.rounds) (.slice A R.length c) R W → Calls Tryz.prog 45 #[.agg #[.slice A0' r.labels.length cp0, .slice A1' r.lines.length cp1, .slice A2' r.accounts.length cp2, .slice A3' r.guilds.length cp3, .slice A4' r.quotas.length cp4, .int .i64 r.orders, .int .i64 r.audits, .int .i64 r.rate, .int .i64 r.rounds], .slice A R.length c, .int .i64 xp, .int .i64 xb, .int .i64 xw] W fun e w' => ∃ v', e = .returned (.tuple #[v', .int .i64 en]) ∧ RK w' v' Rn ∧ Grew W w') := Lib.hid (fun W hlm => by
                  have := expel_any _ _ r R xp xb xw W (HRE.out.grew hlm.gr) HSZ.out hlm.rk
                  rw [hact] at this
                  exact this)
                clear hact
                go_wp2_with fail
                with_reducible refine (HDEED.out _ HLM5.out).mono ?_
                rintro e w6 ⟨v9, rfl, hrk, hg⟩
                obtain ⟨A9, c9, rfl, _⟩ := id hrk
                have HN6 := Lib.hid hrk
                have HLM6 := Lib.hid (HLM5.out.grew hg)
                have X6 := Lib.hid (keepB X5.out hg)
                clear hrk hg HDEED x0 x1 x2 x3 r0 r1 r2 r3 r4 r5 r6 r7 r8
                go_wp2_with fail
                go_meet
                case rel => exact ⟨_, _, Rn, en, rfl, rfl, HA2, HN6, HLM6, X6⟩
              · have hk1 : (xk == 2) = false := by simpa using kk1
                have HA2 : Hid (actR r R xp xb xw (if xk = 2 then rE r xw else (if xk = 1 then rR else rI)) = (Ri', ei')) := Lib.hid (by rw [if_neg kk1]; exact HACT.out)
                clear kk1
                go_wp2_with fail
                go_meet
                case rel => exact ⟨_, _, Ri', ei', rfl, rfl, HA2, HN5, HLM5, X5⟩
            case rest =>
              as_aux_lemma =>
                clear HACT HN5 HLM5 X5
                obtain ⟨A8, c8, Rn, en, rfl, rfl, HACT, HN5, HLM5, X5⟩ := hcut
                have HF := HFW
                obtain ⟨rule, hrule⟩ : ∃ rule, rule = (if xk = 2 then rE r xw else (if xk = 1 then rR else rI)) := ⟨_, rfl⟩
                rw [← hrule] at HACT HF
                clear hrule HFW
                obtain ⟨x0, x1, x2, x3⟩ := x_cells X5.out
                obtain ⟨r0, r1, r2, r3, r4, r5, r6, r7, r8⟩ := re_cells HLM5.out.bx
                by_cases hen : en = 0
                · subst hen
                  obtain ⟨kg, ko, nv, hgu, hwho, hkR, hko, hres, hne, hrt⟩ := act_ok HLM5.out.rt HF.out (by rw [HACT.out])
                  rw [HACT.out] at hres
                  simp only at hres
                  subst hwho
                  have HGO : Hid (∀ W, Grew wc W → Calls Tryz.prog 17 #[.agg #[.slice A0' r.labels.length cp0, .slice A1' r.lines.length cp1, .slice A2' r.accounts.length cp2, .slice A3' r.guilds.length cp3, .slice A4' r.quotas.length cp4, .int .i64 r.orders, .int .i64 r.audits, .int .i64 r.rate, .int .i64 r.rounds], .int .i64 xp] W fun e w' => e = .returned (.int .i64 (kg : Int)) ∧ Grew W w') := Lib.hid fun W hg => by
                    have := guildOf_any _ r xp W (HRE.out.grew (HLM5.out.gr.trans hg)) HSZ.out
                    rw [hgu] at this
                    exact this
                  have HRK1 : Hid (∀ W, Grew wc W → Calls Tryz.prog 37 #[.agg #[.slice A0' r.labels.length cp0, .slice A1' r.lines.length cp1, .slice A2' r.accounts.length cp2, .slice A3' r.guilds.length cp3, .slice A4' r.quotas.length cp4, .int .i64 r.orders, .int .i64 r.audits, .int .i64 r.rate, .int .i64 r.rounds], .slice A8 Rn.length c8, .int .i64 (kg : Int), .int .i64 (ko : Int)] W fun e w' => e = .returned (.int .i64 nv) ∧ Grew W w') := Lib.hid fun W hg => by
                    have := rankOf_any _ _ r Rn (kg : Int) (ko : Int) W (HRE.out.grew (HLM5.out.gr.trans hg)) HSZ.out (HN5.out.grew hg)
                    rw [show rankOf r Rn (kg : Int) (ko : Int) = nv from by rw [hres]; exact rank_with hrt hkR hko] at this
                    exact this
                  obtain ⟨ov, hov⟩ : ∃ ov, cel (rk R kg) ko = ov := ⟨_, rfl⟩
                  have HRK2 : Hid (∀ W, Grew wc W → Calls Tryz.prog 37 #[.agg #[.slice A0' r.labels.length cp0, .slice A1' r.lines.length cp1, .slice A2' r.accounts.length cp2, .slice A3' r.guilds.length cp3, .slice A4' r.quotas.length cp4, .int .i64 r.orders, .int .i64 r.audits, .int .i64 r.rate, .int .i64 r.rounds], .slice A R.length c, .int .i64 (kg : Int), .int .i64 (ko : Int)] W fun e w' => e = .returned (.int .i64 ov) ∧ Grew W w') := Lib.hid fun W hg => by
                    have := rankOf_any _ _ r R (kg : Int) (ko : Int) W (HRE.out.grew (HLM5.out.gr.trans hg)) HSZ.out (HLM5.out.rk.grew hg)
                    rw [rank_is HLM5.out.rt hkR hko, hov] at this
                    exact this
                  have HST : Hid (∀ W, Grew wc W → Calls Tryz.prog 42 #[.slice A R.length c, .int .i64 (kg : Int), .int .i64 (ko : Int), .int .i64 nv] W fun e w' => ∃ v', e = .returned v' ∧ RK w' v' Rn ∧ Grew W w') := Lib.hid fun W hg => by
                    have := set_any W _ R (kg : Int) (ko : Int) nv (HLM5.out.rk.grew hg) (rows_fine HLM5.out.rt).2 (rk_small HLM5.out.rt)
                    rw [set_with R kg ko nv hkR hko, ← hres] at this
                    exact this
                  have HSM : Hid (∀ W v, Grew wc W → RK W v Rn → Calls Tryz.prog 38 #[.slice A8 Rn.length c8, v] W fun e w' => e = .returned (.bool true) ∧ Grew W w') := Lib.hid fun W v hg hv => by
                    have := same_any W _ v _ _ (HN5.out.grew hg) hv
                    rw [decide_eq_true rfl] at this
                    exact this
                  have hno : (nv == ov) = false := by rw [← hov]; simpa using hne
                  have HRT : Hid (rightH r Rn = true) := Lib.hid (by rw [hres]; exact hrt)
                  clear hgu hkR hko hres hne hrt hov HACT HF
                  go_wp2_with fail
                  with_reducible refine (HGO.out _ (Grew.refl _)).mono ?_
                  rintro e w7 ⟨rfl, hg⟩
                  have G7 := Lib.hid hg
                  have HLM7 := Lib.hid (HLM5.out.grew hg)
                  have X7 := Lib.hid (keepB X5.out hg)
                  clear hg x0 x1 x2 x3 r0 r1 r2 r3 r4 r5 r6 r7 r8
                  go_wp2
                  refine Facts.wp_region_text (by kernel_rfl) (by kernel_rfl) ?_
                  apply Facts.Lex.exact [] _ (by kernel_rfl)
                  · intro u W hC _
                    unfold Facts.one
                    go_simp
                    first | exact ⟨Grew.refl _, rfl⟩ | rfl
                  simp only [Act.put, List.setIfInBounds_toArray, List.set_cons_zero, List.set_cons_succ, Nat.zero_add]
                  apply Facts.Lex.exact [] _ (by kernel_rfl)
                  · intro u W hC _
                    unfold Facts.one
                    go_simp
                    first | exact ⟨Grew.refl _, rfl⟩ | rfl
                  simp only [Act.put, List.setIfInBounds_toArray, List.set_cons_zero, List.set_cons_succ, Nat.reduceAdd]
                  apply Facts.Lex.exact [] _ (by kernel_rfl)
                  · intro u W hC _
                    unfold Facts.one
                    go_simp
                    first | exact ⟨Grew.refl _, rfl⟩ | rfl
                  simp only [Act.put, List.setIfInBounds_toArray, List.set_cons_zero, List.set_cons_succ, Nat.reduceAdd]
                  apply Facts.Lex.exact [] _ (by kernel_rfl)
                  · intro u W hC _
                    unfold Facts.one
                    go_simp
                    first | exact ⟨Grew.refl _, rfl⟩ | rfl
                  simp only [Act.put, List.setIfInBounds_toArray, List.set_cons_zero, List.set_cons_succ, Nat.reduceAdd]
                  apply Facts.Lex.exact [] _ (by kernel_rfl)
                  · intro u W hC _
                    unfold Facts.one
                    go_simp
                    first | exact ⟨Grew.refl _, rfl⟩ | rfl
                  simp only [Act.put, List.setIfInBounds_toArray, List.set_cons_zero, List.set_cons_succ, Nat.reduceAdd]
                  apply Facts.Lex.exact [] _ (by kernel_rfl)
                  · intro u W hC _
                    unfold Facts.one
                    go_simp
                    first | exact ⟨Grew.refl _, rfl⟩ | rfl
                  simp only [Act.put, List.setIfInBounds_toArray, List.set_cons_zero, List.set_cons_succ, Nat.reduceAdd]
                  apply Facts.Lex.exact [] _ (by kernel_rfl)
                  · intro u W hC _
                    unfold Facts.one
                    go_simp
                    first | exact ⟨Grew.refl _, rfl⟩ | rfl
                  simp only [Act.put, List.setIfInBounds_toArray, List.set_cons_zero, List.set_cons_succ, Nat.reduceAdd]
                  apply Facts.Lex.exact [] _ (by kernel_rfl)
                  · intro u W hC _
                    obtain ⟨x0, x1, x2, x3⟩ := x_cells (keepB X7.out hC)
                    unfold Facts.one
                    go_simp
                    first | exact ⟨Grew.refl _, rfl⟩ | rfl
                  simp only [Act.put, List.setIfInBounds_toArray, List.set_cons_zero, List.set_cons_succ, Nat.reduceAdd]
                  apply Facts.Lex.exact [] _ (by kernel_rfl)
                  · intro u W hC _
                    obtain ⟨r0, r1, r2, r3, r4, r5, r6, r7, r8⟩ := re_cells (keepB HLM7.out.bx hC)
                    unfold Facts.one
                    go_simp
                    first | exact ⟨Grew.refl _, rfl⟩ | rfl
                  simp only [Act.put, List.setIfInBounds_toArray, List.set_cons_zero, List.set_cons_succ, Nat.reduceAdd]
                  apply Facts.Lex.exact [] _ (by kernel_rfl)
                  · intro u W hC _
                    unfold Facts.one
                    go_simp
                    first | exact ⟨Grew.refl _, rfl⟩ | rfl
                  simp only [Act.put, List.setIfInBounds_toArray, List.set_cons_zero, List.set_cons_succ, Nat.reduceAdd]
                  apply Facts.Lex.exact [] _ (by kernel_rfl)
                  · intro u W hC _
                    unfold Facts.one
                    go_simp
                    first | exact ⟨Grew.refl _, rfl⟩ | rfl
                  simp only [Act.put, List.setIfInBounds_toArray, List.set_cons_zero, List.set_cons_succ, Nat.reduceAdd]
                  apply Facts.Lex.exact [] _ (by kernel_rfl)
                  · intro u W hC _
                    unfold Facts.one
                    go_simp
                    first | exact ⟨Grew.refl _, rfl⟩ | rfl
                  simp only [Act.put, List.setIfInBounds_toArray, List.set_cons_zero, List.set_cons_succ, Nat.reduceAdd]
                  apply Facts.Lex.exact [] _ (by kernel_rfl)
                  · intro u W hC _
                    obtain ⟨x0, x1, x2, x3⟩ := x_cells (keepB X7.out hC)
                    unfold Facts.one
                    go_simp
                    first | exact ⟨Grew.refl _, rfl⟩ | rfl
                  simp only [Act.put, List.setIfInBounds_toArray, List.set_cons_zero, List.set_cons_succ, Nat.reduceAdd]
                  apply Facts.Lex.exact [] _ (by kernel_rfl)
                  · intro u W hC _
                    unfold Facts.one
                    go_simp
                    first | exact ⟨Grew.refl _, rfl⟩ | rfl | (refine (HRK1.out W (G7.out.trans hC)).mono ?_; rintro e w' ⟨rfl, hg⟩; exact ⟨_, rfl, hg, rfl⟩)
                  simp only [Act.put, List.setIfInBounds_toArray, List.set_cons_zero, List.set_cons_succ, Nat.reduceAdd]
                  apply Facts.Lex.know [] (fun v W => RK W v Rn) (by kernel_rfl) (fun _ _ _ h hg => h.grew hg)
                  · intro u W hC _
                    unfold Facts.one
                    go_simp
                    refine (HST.out W (G7.out.trans hC)).mono ?_
                    rintro e w' ⟨v', rfl, hv, hg⟩
                    exact ⟨_, rfl, hg, hv⟩
                  simp only [Act.put, List.setIfInBounds_toArray, List.set_cons_zero, List.set_cons_succ, Nat.reduceAdd]
                  apply Facts.Lex.exact [14] _ (by kernel_rfl)
                  · intro u W hC hK
                    have hv : RK W (u 14) Rn := hK.1
                    unfold Facts.one
                    go_simp
                    refine (HSM.out W _ (G7.out.trans hC) hv).mono ?_
                    rintro e w' ⟨rfl, hg⟩
                    exact ⟨_, rfl, hg, rfl⟩
                  simp only [Act.put, List.setIfInBounds_toArray, List.set_cons_zero, List.set_cons_succ, Nat.reduceAdd]
                  apply Facts.Lex.exact [] _ (by kernel_rfl)
                  · intro u W hC _
                    unfold Facts.one
                    go_simp
                    first | exact ⟨Grew.refl _, rfl⟩ | rfl
                  simp only [Act.put, List.setIfInBounds_toArray, List.set_cons_zero, List.set_cons_succ, Nat.reduceAdd]
                  apply Facts.Lex.exact [] _ (by kernel_rfl)
                  · intro u W hC _
                    unfold Facts.one
                    go_simp
                    first | exact ⟨Grew.refl _, rfl⟩ | rfl
                  simp only [Act.put, List.setIfInBounds_toArray, List.set_cons_zero, List.set_cons_succ, Nat.reduceAdd]
                  apply Facts.Lex.exact [] _ (by kernel_rfl)
                  · intro u W hC _
                    unfold Facts.one
                    go_simp
                    first | exact ⟨Grew.refl _, rfl⟩ | rfl
                  simp only [Act.put, List.setIfInBounds_toArray, List.set_cons_zero, List.set_cons_succ, Nat.reduceAdd]
                  apply Facts.Lex.exact [] _ (by kernel_rfl)
                  · intro u W hC _
                    obtain ⟨r0, r1, r2, r3, r4, r5, r6, r7, r8⟩ := re_cells (keepB HLM7.out.bx hC)
                    unfold Facts.one
                    go_simp
                    first | exact ⟨Grew.refl _, rfl⟩ | rfl
                  simp only [Act.put, List.setIfInBounds_toArray, List.set_cons_zero, List.set_cons_succ, Nat.reduceAdd]
                  apply Facts.Lex.exact [] _ (by kernel_rfl)
                  · intro u W hC _
                    unfold Facts.one
                    go_simp
                    first | exact ⟨Grew.refl _, rfl⟩ | rfl
                  simp only [Act.put, List.setIfInBounds_toArray, List.set_cons_zero, List.set_cons_succ, Nat.reduceAdd]
                  apply Facts.Lex.exact [] _ (by kernel_rfl)
                  · intro u W hC _
                    unfold Facts.one
                    go_simp
                    first | exact ⟨Grew.refl _, rfl⟩ | rfl
                  simp only [Act.put, List.setIfInBounds_toArray, List.set_cons_zero, List.set_cons_succ, Nat.reduceAdd]
                  apply Facts.Lex.exact [] _ (by kernel_rfl)
                  · intro u W hC _
                    unfold Facts.one
                    go_simp
                    first | exact ⟨Grew.refl _, rfl⟩ | rfl
                  simp only [Act.put, List.setIfInBounds_toArray, List.set_cons_zero, List.set_cons_succ, Nat.reduceAdd]
                  apply Facts.Lex.exact [] _ (by kernel_rfl)
                  · intro u W hC _
                    obtain ⟨x0, x1, x2, x3⟩ := x_cells (keepB X7.out hC)
                    unfold Facts.one
                    go_simp
                    first | exact ⟨Grew.refl _, rfl⟩ | rfl
                  simp only [Act.put, List.setIfInBounds_toArray, List.set_cons_zero, List.set_cons_succ, Nat.reduceAdd]
                  apply Facts.Lex.exact [] _ (by kernel_rfl)
                  · intro u W hC _
                    unfold Facts.one
                    go_simp
                    first | exact ⟨Grew.refl _, rfl⟩ | rfl | (refine (HRK1.out W (G7.out.trans hC)).mono ?_; rintro e w' ⟨rfl, hg⟩; exact ⟨_, rfl, hg, rfl⟩)
                  simp only [Act.put, List.setIfInBounds_toArray, List.set_cons_zero, List.set_cons_succ, Nat.reduceAdd]
                  apply Facts.Lex.exact [] _ (by kernel_rfl)
                  · intro u W hC _
                    obtain ⟨r0, r1, r2, r3, r4, r5, r6, r7, r8⟩ := re_cells (keepB HLM7.out.bx hC)
                    unfold Facts.one
                    go_simp
                    first | exact ⟨Grew.refl _, rfl⟩ | rfl
                  simp only [Act.put, List.setIfInBounds_toArray, List.set_cons_zero, List.set_cons_succ, Nat.reduceAdd]
                  apply Facts.Lex.exact [] _ (by kernel_rfl)
                  · intro u W hC _
                    unfold Facts.one
                    go_simp
                    first | exact ⟨Grew.refl _, rfl⟩ | rfl
                  simp only [Act.put, List.setIfInBounds_toArray, List.set_cons_zero, List.set_cons_succ, Nat.reduceAdd]
                  apply Facts.Lex.exact [] _ (by kernel_rfl)
                  · intro u W hC _
                    unfold Facts.one
                    go_simp
                    first | exact ⟨Grew.refl _, rfl⟩ | rfl
                  simp only [Act.put, List.setIfInBounds_toArray, List.set_cons_zero, List.set_cons_succ, Nat.reduceAdd]
                  apply Facts.Lex.exact [] _ (by kernel_rfl)
                  · intro u W hC _
                    unfold Facts.one
                    go_simp
                    first | exact ⟨Grew.refl _, rfl⟩ | rfl
                  simp only [Act.put, List.setIfInBounds_toArray, List.set_cons_zero, List.set_cons_succ, Nat.reduceAdd]
                  apply Facts.Lex.exact [] _ (by kernel_rfl)
                  · intro u W hC _
                    obtain ⟨x0, x1, x2, x3⟩ := x_cells (keepB X7.out hC)
                    unfold Facts.one
                    go_simp
                    first | exact ⟨Grew.refl _, rfl⟩ | rfl
                  simp only [Act.put, List.setIfInBounds_toArray, List.set_cons_zero, List.set_cons_succ, Nat.reduceAdd]
                  apply Facts.Lex.exact [] _ (by kernel_rfl)
                  · intro u W hC _
                    unfold Facts.one
                    go_simp
                    first | exact ⟨Grew.refl _, rfl⟩ | rfl | (refine (HRK2.out W (G7.out.trans hC)).mono ?_; rintro e w' ⟨rfl, hg⟩; exact ⟨_, rfl, hg, rfl⟩)
                  simp only [Act.put, List.setIfInBounds_toArray, List.set_cons_zero, List.set_cons_succ, Nat.reduceAdd]
                  apply Facts.Lex.exact [] _ (by kernel_rfl)
                  · intro u W hC _
                    unfold Facts.one
                    go_simp
                    first | exact ⟨Grew.refl _, rfl⟩ | rfl
                  simp only [Act.put, List.setIfInBounds_toArray, List.set_cons_zero, List.set_cons_succ, Nat.reduceAdd]
                  apply Facts.Lex.exact [] _ (by kernel_rfl)
                  · intro u W hC _
                    unfold Facts.one
                    go_simp
                    first | exact ⟨Grew.refl _, rfl⟩ | rfl
                  simp only [Act.put, List.setIfInBounds_toArray, List.set_cons_zero, List.set_cons_succ, Nat.reduceAdd]
                  refine Facts.Lex.done fun u W2 hC hL => ?_
                  have HLM9 : Hid (LM w r w.heap.size (rcell (.slice A0' r.labels.length cp0) (.slice A1' r.lines.length cp1) (.slice A2' r.accounts.length cp2) (.slice A3' r.guilds.length cp3) (.slice A4' r.quotas.length cp4) r.orders r.audits r.rate r.rounds) (.slice A8 Rn.length c8) Rn W2) := Lib.hid ⟨HN5.out.grew (G7.out.trans hC), HRT.out, HLM7.out.gr.trans hC, keepB HLM7.out.bx hC⟩
                  clear hC hL
                  go_wp2
                  go_roundg q0
                  case measure => omega
                  case rel => exact ⟨i + 1, _, _, Rn, by omega, rfl, by first | rfl | simp [hiw], HLM9⟩
                · have hres := act_no (r := r) (R := R) (place := xp) (by' := xb) (who := xw) (rule := rule) (by rw [HACT.out]; exact hen)
                  rw [HACT.out] at hres
                  simp only at hres
                  subst hres
                  have hneb : (en != 0) = true := by simpa using hen
                  clear hen HACT HF
                  go_wp2
                  go_roundg q0
                  case measure => omega
                  case rel => exact ⟨i + 1, _, _, R, by omega, rfl, by first | rfl | simp [hiw], HLM5⟩
        · by_cases h40 : i < 40
          · have hil : ¬ (i : Int) < (L.length : Int) := by omega
            clear hin h40
            go_wp2_with fail
            go_meet
            case rel => exact ⟨_, _, _, rfl, HLM⟩
          · have h40' : ¬ (i : Int) < 40 := by omega
            clear hin h40
            by_cases hil : (i : Int) < (L.length : Int)
            · go_wp2_with fail
              go_meet
              case rel => exact ⟨_, _, _, rfl, HLM⟩
            · go_wp2_with fail
              go_meet
              case rel => exact ⟨_, _, _, rfl, HLM⟩
end Go.Proofs.YtmegdgeiikhflaaGreat.HM
