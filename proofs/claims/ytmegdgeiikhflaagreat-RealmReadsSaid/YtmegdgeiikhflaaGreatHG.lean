/-
  The guilds of a label, as the program tells them.
  Conditions: the accounts' texts' sizes.
-/
import Derived.Test.YtmegdgeiikhflaaGreatHB
namespace Go.Proofs.YtmegdgeiikhflaaGreat.HG
open Go Go.RowKit Go.Lib Go.Proofs.YtmegdgeiikhflaaGreat Go.Proofs.YtmegdgeiikhflaaGreat.Facts Go.Proofs.YtmegdgeiikhflaaGreat.Plain Go.Proofs.YtmegdgeiikhflaaGreat.Ints Go.Proofs.YtmegdgeiikhflaaGreat.RRows Go.Proofs.YtmegdgeiikhflaaGreat.LBox Go.Proofs.YtmegdgeiikhflaaGreat.RSmall Go.Proofs.YtmegdgeiikhflaaGreat.RFind Go.Proofs.YtmegdgeiikhflaaGreat.RAll Go.Proofs.YtmegdgeiikhflaaGreat.RRules Go.Proofs.YtmegdgeiikhflaaGreat.RRule3 Go.Proofs.YtmegdgeiikhflaaGreat.RRight Go.Proofs.YtmegdgeiikhflaaGreat.HA Go.Proofs.YtmegdgeiikhflaaGreat.HB

def gu (r : Re) (k : Nat) : Gu := (r.guilds[k]?).getD ⟨-1, 0⟩
theorem gu_get {r : Re} {k : Nat} (h : k < r.guilds.length) : r.guilds[k]? = some (gu r k) := by
  unfold gu
  rw [List.getElem?_eq_getElem h, Option.getD_some]
/-- Has the label the guild's compartment? -/
def under (r : Re) (i k : Nat) : Bool := le 0 (bitOf (gu r k).bit) (RRule1.lat r.labels i).lev (RRule1.lat r.labels i).set
def gl (r : Re) (i n : Nat) : List Int := ((List.range n).filter (under r i)).map fun k : Nat => (k : Int)
theorem gl_yes {r : Re} {i k : Nat} (h : under r i k = true) : gl r i (k + 1) = gl r i k ++ [(k : Int)] := by
  unfold gl
  rw [List.range_succ, List.filter_append, List.map_append]
  simp [h]
theorem gl_no {r : Re} {i k : Nat} (h : under r i k = false) : gl r i (k + 1) = gl r i k := by
  unfold gl
  rw [List.range_succ, List.filter_append, List.map_append]
  simp [h]
theorem gl_len (r : Re) (i k : Nat) : (gl r i k).length ≤ k := by
  unfold gl
  rw [List.length_map]
  exact Nat.le_trans (List.length_filter_le _ _) (by simp)
theorem gl_mem {r : Re} {i n : Nat} {x : Int} : x ∈ gl r i n ↔ ∃ k, k < n ∧ under r i k = true ∧ x = (k : Int) := by
  unfold gl
  simp only [List.mem_map, List.mem_filter, List.mem_range]
  constructor
  · rintro ⟨k, ⟨h1, h2⟩, rfl⟩
    exact ⟨k, h1, h2, rfl⟩
  · rintro ⟨k, h1, h2, rfl⟩
    exact ⟨k, ⟨h1, h2⟩, rfl⟩
def guildsOf (r : Re) (i : Int) : List Int := if mayBe r = true then (if inn r.labels.length i = true then gl r i.toNat r.guilds.length else []) else []
theorem own_grew {W W' : World} {base : Nat} {v : Value} {n : Nat} {xs : List Value} (h : W.ownsRow base 3 1 v n xs) (hg : Grew W W') : W'.ownsRow base 3 1 v n xs := by
  refine ⟨h.1, h.2.imp id fun ⟨g, cap, cur, h1, h2, h3, h4⟩ => ⟨g, cap, cur, h1, h2, ?_, h4⟩⟩
  exact keepB h3 hg
theorem is_nil (w : World) : Is w (.slice none 0 0) [] := ⟨none, 0, rfl, Nat.le_refl _, Nat.zero_le _, fun _ => rfl, fun ad ha => by cases ha⟩
set_option maxRecDepth 100000 in
set_option maxHeartbeats 4000000 in
theorem guildsOf_any (v : Value) (r : Re) (i : Int) (w : World) (h : ReIs w v r) (hs : Sized r) : Calls Tryz.prog 18 #[v, .int .i64 i] w fun e w' => ∃ v', e = .returned v' ∧ Is w' v' (guildsOf r i) ∧ Grew w w' := by
  have HRI := Lib.hid (fun W hg => right_re v r W (h.grew (w' := W) hg) hs)
  obtain ⟨v0, v1, v2, v3, v4, rfl, h0, h1, h2, h3, h4⟩ := h
  have HL0 := Lib.hid h0
  have HL3 := Lib.hid h3
  obtain ⟨A0', cp0, rfl, _⟩ := h0.slice
  obtain ⟨A1', cp1, rfl, _⟩ := id h1
  obtain ⟨A2', cp2, rfl, _⟩ := h2.slice
  obtain ⟨A3', cp3, rfl, hf1, hf2⟩ := h3.slice
  obtain ⟨A4', cp4, rfl, _⟩ := h4.slice
  have HGL : Hid (r.guilds.length ≤ maxLen) := Lib.hid (Nat.le_trans hf1 hf2)
  clear h0 h1 h2 h3 h4 hs hf2
  have HI := Lib.hid (fun W => hasL_any A0' r.labels.length cp0 i W)
  have HII : inn r.labels.length i = true → 0 ≤ i ∧ i < r.labels.length := fun h => by unfold inn at h; simpa using h
  unfold guildsOf
  have G0 : Hid (Grew w (w.alloc (Obj.cells #[.slice A0' r.labels.length cp0, .slice A1' r.lines.length cp1, .slice A2' r.accounts.length cp2, .slice A3' r.guilds.length cp3, .slice A4' r.quotas.length cp4, .int .i64 r.orders, .int .i64 r.audits, .int .i64 r.rate, .int .i64 r.rounds] 28))) := Lib.hid (by unfold Grew; go_grown)
  have R0 : Hid ((w.alloc (Obj.cells #[.slice A0' r.labels.length cp0, .slice A1' r.lines.length cp1, .slice A2' r.accounts.length cp2, .slice A3' r.guilds.length cp3, .slice A4' r.quotas.length cp4, .int .i64 r.orders, .int .i64 r.audits, .int .i64 r.rate, .int .i64 r.rounds] 28)).heap[w.heap.size]? = some (rcell (.slice A0' r.labels.length cp0) (.slice A1' r.lines.length cp1) (.slice A2' r.accounts.length cp2) (.slice A3' r.guilds.length cp3) (.slice A4' r.quotas.length cp4) r.orders r.audits r.rate r.rounds)) := Lib.hid (heap_alloc_new w _)
  obtain ⟨r0, r1, r2, r3, r4, r5, r6, r7, r8⟩ := re_cells R0.out
  have HMB : Hid (mayBe r = true → r.guilds.length ≤ 8) := Lib.hid fun h => by
    unfold mayBe rule4 at h
    simp only [Bool.and_eq_true, decide_eq_true_eq] at h
    exact h.2.2.2.1.1
  generalize mayBe r = b at *
  generalize hbi : inn r.labels.length i = bi at *
  cases b with
  | false =>
    rw [if_neg (by simp)]
    clear HII
    go_enter Tryz.func18, Tryz.ntmps18
    go_wp2_with fail
    with_reducible refine (HRI.out _ G0.out).mono ?_
    rintro e w1 ⟨rfl, hg⟩
    have G1 := Lib.hid (G0.out.trans hg)
    clear hg r0 r1 r2 r3 r4 r5 r6 r7 r8
    go_wp2
    go_returns
    exact ⟨_, rfl, is_nil _, G1.out⟩
  | true =>
    rw [if_pos rfl]
    cases bi with
    | false =>
      rw [if_neg (by simp)]
      clear HII
      go_enter Tryz.func18, Tryz.ntmps18
      go_wp2_with fail
      with_reducible refine (HRI.out _ G0.out).mono ?_
      rintro e w1 ⟨rfl, hg⟩
      have G1 := Lib.hid (G0.out.trans hg)
      have R1 := Lib.hid (keepB R0.out hg)
      clear hg r0 r1 r2 r3 r4 r5 r6 r7 r8
      obtain ⟨r0, r1, r2, r3, r4, r5, r6, r7, r8⟩ := re_cells R1.out
      go_wp2_with fail
      refine (HI.out _).mono ?_
      rintro e w2 ⟨rfl, hg⟩
      have G2 := Lib.hid (G1.out.trans hg)
      clear hg r0 r1 r2 r3 r4 r5 r6 r7 r8
      go_wp2
      go_returns
      exact ⟨_, rfl, is_nil _, G2.out⟩
    | true =>
      rw [if_pos rfl]
      obtain ⟨q0, q1⟩ := HII rfl
      clear HII
      obtain ⟨ki, rfl⟩ := Int.eq_ofNat_of_zero_le q0
      have hg8 := HMB.out rfl
      clear HMB
      simp only [Int.toNat_natCast] at *
      obtain ⟨ad0, c9, e0, hc, d0, d1⟩ := Ls_at HL0.out (RRule1.lat_get (i := ki) (by omega))
      injection e0 with e01 _ e03
      subst e01 e03
      have D0 := Lib.hid d0
      have D1 := Lib.hid d1
      have HLE : Hid (∀ k W, Calls Tryz.prog 54 #[.agg #[.int .i64 0, .int .u64 ((bitOf (gu r k).bit).toNat : Int)], .agg #[.int .i64 (RRule1.lat r.labels ki).lev, .int .u64 ((RRule1.lat r.labels ki).set.toNat : Int)]] W fun e w' => e = .returned (.bool (under r ki k)) ∧ Grew W w') := Lib.hid fun k W => leq_any 0 _ _ _ W
      generalize hla : RRule1.lat r.labels ki = la at *
      clear d0 d1 hbi hla
      go_enter Tryz.func18, Tryz.ntmps18
      go_wp2_with fail
      with_reducible refine (HRI.out _ G0.out).mono ?_
      rintro e w1 ⟨rfl, hg⟩
      have Q1 := Lib.hid hg
      have R1 := Lib.hid (keepB R0.out hg)
      clear hg r0 r1 r2 r3 r4 r5 r6 r7 r8
      obtain ⟨r0, r1, r2, r3, r4, r5, r6, r7, r8⟩ := re_cells R1.out
      go_wp2_with fail
      refine (HI.out _).mono ?_
      rintro e w2 ⟨rfl, hg⟩
      have Q2 := Lib.hid (Q1.out.trans hg)
      have R2 := Lib.hid (keepB R1.out hg)
      clear hg r0 r1 r2 r3 r4 r5 r6 r7 r8 Q1 R1
      obtain ⟨r0, r1, r2, r3, r4, r5, r6, r7, r8⟩ := re_cells R2.out
      go_wp2
      go_loopg [5, 21] r.guilds.length (fun g s5 s21 wx => ∃ (k : Nat) (v5 : Value), k + g = r.guilds.length ∧ v5 = s5 ∧ s21 = .int .i64 k ∧ Hid (wx.ownsRow w2.heap.size 3 1 s5 (gl r ki k).length (iv (gl r ki k))) ∧ Hid (Grew w2 wx))
      case atStart => exact ⟨0, _, by omega, rfl, rfl, Lib.hid (own_nil _ _), Lib.hid (Grew.refl _)⟩
      case round =>
        obtain ⟨k, v5, hkg, rfl, rfl, HO, HG⟩ := hrel
        clear r0 r1 r2 r3 r4 r5 r6 r7 r8
        cases gk with
        | zero =>
          have hkz : ¬ ((k : Int) < (r.guilds.length : Int)) := by omega
          have HE : Hid (Is wr v5 (gl r ki r.guilds.length)) := Lib.hid (by
            have := Is.of_own HO.out rfl
            rw [show k = r.guilds.length by omega] at this
            exact this)
          go_wp2
          go_returns
          exact ⟨_, rfl, HE.out, (G0.out.trans Q2.out).trans HG.out⟩
        | succ g =>
          have hkz : (k : Int) < (r.guilds.length : Int) := by omega
          obtain ⟨ad, c2, e, hc2, c0, c1⟩ := Gs_at (HL3.out.grew ((G0.out.trans Q2.out).trans HG.out)) (gu_get (k := k) (by omega))
          injection e with e1 _ e3
          subst e1 e3
          have HH := Lib.hid (fun W => hallG_any (gu r k).bit (gu r k).founder W)
          have HLK := Lib.hid (HLE.out k)
          have HY := Lib.hid (@gl_yes r ki k)
          have HN := Lib.hid (@gl_no r ki k)
          have hlen := gl_len r ki k
          generalize under r ki k = tb at HLK HY HN
          generalize bitOf (gu r k).bit = bt at HH HLK
          generalize gu r k = x at c0 c1 HH
          have A0 : Hid (Grew wr (wr.alloc (.cells #[.int .i64 x.bit, .int .i64 x.founder] 52))) := Lib.hid (by unfold Grew; go_grown)
          have X0 : Hid ((wr.alloc (.cells #[.int .i64 x.bit, .int .i64 x.founder] 52)).heap[wr.heap.size]? = some (.cells #[.int .i64 x.bit, .int .i64 x.founder] 52 (0, 0))) := Lib.hid (heap_alloc_new wr _)
          have RX := Lib.hid (keepB R2.out (HG.out.trans A0.out))
          have E0 := Lib.hid (cellB ((G0.out.trans Q2.out).trans (HG.out.trans A0.out)) D0.out)
          have E1 := Lib.hid (cellB ((G0.out.trans Q2.out).trans (HG.out.trans A0.out)) D1.out)
          have kiw : (ki : Int) < (r.labels.length : Int) := by omega
          cases tb
          all_goals
            go_wp2
            refine Facts.wp_region_text (by kernel_rfl) (by kernel_rfl) ?_
            apply Facts.Lex.exact [] _ (by kernel_rfl)
            · intro u W hC _
              have x0 : W.cell? ⟨wr.heap.size, 0, none⟩ = some (.int .i64 x.bit) := by rw [cell_of_row _ _ _ _ _ _ (keepB X0.out hC)]; rfl
              have x1 : W.cell? ⟨wr.heap.size, 1, none⟩ = some (.int .i64 x.founder) := by rw [cell_of_row _ _ _ _ _ _ (keepB X0.out hC)]; rfl
              unfold Facts.one
              go_simp
              first | exact ⟨Grew.refl _, rfl⟩ | rfl
            simp only [Act.put, List.setIfInBounds_toArray, List.set_cons_zero, List.set_cons_succ, Nat.zero_add]
            apply Facts.Lex.exact [] _ (by kernel_rfl)
            · intro u W hC _
              unfold Facts.one
              go_simp
              first | exact ⟨Grew.refl _, rfl⟩ | rfl | (refine (HH.out W).mono ?_; rintro e w' ⟨rfl, hg⟩; exact ⟨_, rfl, hg, rfl⟩)
            simp only [Act.put, List.setIfInBounds_toArray, List.set_cons_zero, List.set_cons_succ, Nat.reduceAdd]
            apply Facts.Lex.exact [] _ (by kernel_rfl)
            · intro u W hC _
              unfold Facts.one
              go_simp
              first | exact ⟨Grew.refl _, rfl⟩ | rfl
            simp only [Act.put, List.setIfInBounds_toArray, List.set_cons_zero, List.set_cons_succ, Nat.reduceAdd]
            apply Facts.Lex.exact [] _ (by kernel_rfl)
            · intro u W hC _
              obtain ⟨r0, r1, r2, r3, r4, r5, r6, r7, r8⟩ := re_cells (keepB RX.out hC)
              unfold Facts.one
              go_simp
              first | exact ⟨Grew.refl _, rfl⟩ | rfl
            simp only [Act.put, List.setIfInBounds_toArray, List.set_cons_zero, List.set_cons_succ, Nat.reduceAdd]
            apply Facts.Lex.exact [] _ (by kernel_rfl)
            · intro u W hC _
              unfold Facts.one
              go_simp
              first | exact ⟨Grew.refl _, rfl⟩ | rfl
            simp only [Act.put, List.setIfInBounds_toArray, List.set_cons_zero, List.set_cons_succ, Nat.reduceAdd]
            apply Facts.Lex.exact [] _ (by kernel_rfl)
            · intro u W hC _
              unfold Facts.one
              go_simp
              first | exact ⟨Grew.refl _, rfl⟩ | rfl
            simp only [Act.put, List.setIfInBounds_toArray, List.set_cons_zero, List.set_cons_succ, Nat.reduceAdd]
            apply Facts.Lex.exact [] _ (by kernel_rfl)
            · intro u W hC _
              have c0' := cellB hC E0.out
              have c1' := cellB hC E1.out
              unfold Facts.one
              go_simp
              first | exact ⟨Grew.refl _, rfl⟩ | rfl
            simp only [Act.put, List.setIfInBounds_toArray, List.set_cons_zero, List.set_cons_succ, Nat.reduceAdd]
            apply Facts.Lex.exact [] _ (by kernel_rfl)
            · intro u W hC _
              unfold Facts.one
              go_simp
              first | exact ⟨Grew.refl _, rfl⟩ | rfl | (refine (HLK.out W).mono ?_; rintro e w' ⟨rfl, hg⟩; exact ⟨_, rfl, hg, rfl⟩)
            simp only [Act.put, List.setIfInBounds_toArray, List.set_cons_zero, List.set_cons_succ, Nat.reduceAdd]
            refine Facts.Lex.done fun u W2 hC hL => ?_
            have G9 := Lib.hid (A0.out.trans hC)
            clear hC hL
            try clear c0 c1
          · have HE := Lib.hid (HN.out (by first | rfl | trivial))
            have HO2 := Lib.hid (own_grew HO.out G9.out)
            have HG2 := Lib.hid (HG.out.trans G9.out)
            go_wp2
            go_roundg g
            case measure => omega
            case rel =>
              refine ⟨k + 1, _, by omega, rfl, by first | rfl | simp, ?_, HG2⟩
              rw [HE.out]
              exact HO2
          · have HE := Lib.hid (HY.out (by first | rfl | trivial))
            obtain ⟨v', w3, hr, hown, hb⟩ := app_one W2 w2.heap.size v5 (gl r ki k) (k : Int) (own_grew HO.out G9.out) (by omega) (HG.out.trans G9.out).size
            have HAPP := Lib.hid hr
            have HO3 := Lib.hid hown
            have HG3 : Hid (Grew w2 w3) := Lib.hid ((show Below w2.heap.size w2 W2 from HG.out.trans G9.out).trans hb)
            clear hr hown hb
            go_wp2_with (at_builtin; refine wpList_app_want (.tmp 34) (.tmp 36) 23 (by rfl) (by rfl) _ _ rfl rfl v' w3 (by exact HAPP.out) ?_)
            go_roundg g
            case measure => omega
            case rel =>
              refine ⟨k + 1, _, by omega, rfl, by first | rfl | simp, ?_, HG3⟩
              rw [HE.out]
              exact HO3
end Go.Proofs.YtmegdgeiikhflaaGreat.HG
