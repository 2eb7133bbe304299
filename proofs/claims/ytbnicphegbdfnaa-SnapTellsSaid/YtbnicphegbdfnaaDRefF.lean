/-
  The document's own disk: a new one; a write, whatever comes.
  Conditions: none beyond those that each lemma names.
-/
import Derived.Test.YtbnicphegbdfnaaDRefE
namespace Go.Proofs.Ytbnicphegbdfnaa.DRefF
set_option maxRecDepth 100000
set_option maxRecDepth 100000
open Go Go.RowKit Go.Proofs.Ytbnicphegbdfnaa Go.Proofs.Ytbnicphegbdfnaa.Facts Go.Proofs.Ytbnicphegbdfnaa.Bytes Go.Proofs.Ytbnicphegbdfnaa.DKeep Go.Proofs.Ytbnicphegbdfnaa.DRefA Go.Proofs.Ytbnicphegbdfnaa.DRefB Go.Proofs.Ytbnicphegbdfnaa.DRefC Go.Proofs.Ytbnicphegbdfnaa.DSim Go.Proofs.Ytbnicphegbdfnaa.DKeepsH Go.Proofs.Ytbnicphegbdfnaa.DRefD Go.Proofs.Ytbnicphegbdfnaa.DRefE

theorem rwrite_any (r : Rp) (v vb : Value) (n : Int) (S : Nat → Prop) (l : Sec) (w : World) (h : RD w v r) (hr : Rd S w vb l) (hn2 : r.now.length ≤ 16384) (hw : r.waits.length ≤ 1073741823) :
    Calls Try.prog 33 #[v, .int .i64 n, vb] w fun e w' => ∃ v', e = .returned (.tuple #[v', .int .i64 (rwritten r n l).2]) ∧ RD w' v' (rwritten r n l).1 ∧ Grew w w' := by
  unfold rwritten
  have HD := Lib.hid h
  cases ho : r.off with
  | true =>
    rw [if_pos rfl]
    obtain ⟨⟨A1, A2, A3, c1, c2, c3, rfl, h1, h2, h3, t1, t2, t3⟩, f1, f2⟩ := h
    clear h1 h2 h3 t1 t2 t3 hr
    rw [ho] at HD ⊢
    unfold dv at *
    go_enter Try.func33, Try.ntmps33
    go_wp2
    go_returns
    exact ⟨_, rfl, HD.out.grew (by unfold Grew; go_grown), by unfold Grew; go_grown⟩
  | false =>
    rw [if_neg (show ¬ (false = true) by decide)]
    by_cases h0 : n < 0 ∨ (r.now.length : Int) ≤ n
    · rw [if_pos h0]
      obtain ⟨⟨A1, A2, A3, c1, c2, c3, rfl, h1, h2, h3, t1, t2, t3⟩, f1, f2⟩ := h
      clear h1 h2 h3 t1 t2 t3 hr
      rw [ho] at HD ⊢
      unfold dv at *
      rcases h0 with h0 | h0
      · go_enter Try.func33, Try.ntmps33
        go_wp2
        go_returns
        exact ⟨_, rfl, HD.out.grew (by unfold Grew; go_grown), by unfold Grew; go_grown⟩
      · by_cases h1 : n < 0
        · exact absurd h1 (by omega)
        · go_enter Try.func33, Try.ntmps33
          go_wp2
          go_returns
          exact ⟨_, rfl, HD.out.grew (by unfold Grew; go_grown), by unfold Grew; go_grown⟩
    · rw [if_neg h0]
      by_cases h1 : l.length = 128
      · rw [if_neg (by simpa using h1)]
        obtain ⟨k, rfl⟩ : ∃ k : Nat, n = k := ⟨n.toNat, by omega⟩
        exact rwrite_good r v vb k S l w h hr ho (by omega) hn2 h1 hw
      · rw [if_pos h1]
        obtain ⟨Ab, cb, rfl, hb1, hb2, _⟩ := id hr
        obtain ⟨⟨A1, A2, A3, c1, c2, c3, rfl, q1, q2, q3, t1, t2, t3⟩, f1, f2⟩ := h
        have hl' : ¬ ((l.length : Int) = 128) := by omega
        clear q1 q2 q3 t1 t2 t3 hr
        rw [ho] at HD ⊢
        unfold dv at *
        have n1 : ¬ n < 0 := by omega
        have n2 : ¬ (r.now.length : Int) ≤ n := by omega
        clear h0 h1
        go_enter Try.func33, Try.ntmps33
        go_wp2
        go_returns
        exact ⟨_, rfl, HD.out.grew (by unfold Grew; go_grown), by unfold Grew; go_grown⟩

theorem app_text (W : World) (base : Nat) (v : Value) (l : List Sec) (B : Sec) (kk : Nat) (hown : W.ownsRow base 9 1 v l.length (svs l)) (hk : W.cell? ⟨kk, 0, none⟩ = some (sv B)) (hl : l.length ≤ 1073741824) (hb : base ≤ W.heap.size) :
    ∃ v' W', (Builtin.append_ #[46, 46] 46 #[v, .slice (some ⟨kk, 0, none⟩) 1 1]).run Try.prog W = .ok v' W' ∧ W'.ownsRow base 9 1 v' (l.length + 1) (svs (l ++ [B])) ∧ W.grownBy W' v.ownBlock ∧ (∀ j, v'.ownBlock = some j → v.ownBlock = some j ∨ W.heap.size ≤ j) := by
  obtain ⟨i, z, hi, hz, hs, hby, hzs⟩ := parts9
  have hnews : ∀ j u, [sv B][j]? = some u → W.cell? ((⟨kk, 0, none⟩ : Addr).add j) = some u := fun j u hu => by
    match j, hu with
    | 0, hu => simp at hu; subst hu; rw [Addr.add_mid]; exact hk
  have h1 : ∀ u ∈ [sv B], u.oneCell' = true := fun u hu => by simp at hu; subst hu; rfl
  obtain ⟨v', W', hr, h2, h3, _⟩ := run_append_own (P := Try.prog) W base 46 46 9 i z 1 16 Try.underlying46 hi hz hs hby hzs (by omega) v l.length (svs l) hown ⟨kk, 0, none⟩ 1 1 [sv B] rfl hnews h1 (by unfold maxLen; omega) (by omega) hb
  refine ⟨v', W', hr, by simpa [svs] using h2, h3, ?_⟩
  intro j hj
  rcases hown.2 with ⟨rfl, h0⟩ | ⟨g, cap, cur, rfl, hbg, hg, hnc, hcm, hcs, htake⟩
  · have hx0 : l = [] := List.eq_nil_of_length_eq_zero h0
    subst hx0
    obtain ⟨v2, W2, hr2, h52, _, _⟩ := run_append_own (P := Try.prog) W W.heap.size 46 46 9 i z 1 16 Try.underlying46 hi hz hs hby hzs (by omega) (.slice none 0 0) 0 [] (World.ownsRow_nil _ _ _ _) ⟨kk, 0, none⟩ 1 1 [sv B] rfl hnews h1 (by decide) (by omega) (Nat.le_refl _)
    have e := hr.symm.trans hr2
    injection e with e1 e2
    subst e1
    rcases h52.2 with ⟨rfl, _⟩ | ⟨q, _, _, rfl, hq2, _⟩
    · cases hj
    · simp [Value.ownBlock] at hj
      subst hj
      exact .inr hq2
  · by_cases hroom : l.length + 1 ≤ cap
    · have hfit : l.length * i.size + [sv B].length ≤ cur.size := by rw [hs, hcs]; simp; omega
      have hr2 := run_append_room (P := Try.prog) W 46 46 9 i Try.underlying46 hi g l.length cap cur hg ⟨kk, 0, none⟩ 1 1 [sv B] (by rw [hs]; rfl) hnews h1 hroom hfit
      have e := hr.symm.trans hr2
      injection e with e1 e2
      subst e1
      exact .inl hj
    · have holds : ∀ j u, (svs l)[j]? = some u → W.cell? ((⟨g, 0, none⟩ : Addr).add j) = some u := hown.cells (g := g) rfl
      have hr2 := run_append_grow (P := Try.prog) W 46 46 9 i z Try.underlying46 hi hz ⟨g, 0, none⟩ l.length cap (svs l) (by rw [hs]; exact hown.1) holds ⟨kk, 0, none⟩ 1 1 [sv B] (by rw [hs]; rfl) hnews (by omega) (by omega) (by rw [hby]; exact growslice_fits (by omega) (by omega))
      have e := hr.symm.trans hr2
      injection e with e1 e2
      subst e1
      simp [Value.ownBlock] at hj
      exact .inr (by omega)
theorem own_keep2 {w w' : World} {D : Nat → Prop} {b e m n : Nat} {v : Value} {xs : List Value} (h : w.ownsRow b e m v n xs) (hk : DSmall.Kept D w w') (hD : ∀ j, v.ownBlock = some j → ¬ D j) : w'.ownsRow b e m v n xs := by
  refine ⟨h.1, ?_⟩
  rcases h.2 with h2 | ⟨g, cap, cur, rfl, hb, hgg, h3⟩
  · exact .inl h2
  · exact .inr ⟨g, cap, cur, rfl, hb, (hk.block g (Array.getElem?_eq_some_iff.1 hgg).1 (hD g rfl)).trans hgg, h3⟩
theorem blank_snoc (k : Nat) : DNew.blank (k + 1) = DNew.blank k ++ [DNew.zsec] := by
  unfold DNew.blank
  rw [List.replicate_succ']

/-- What stands behind each step of 'append a blank text to the row, and store it' (v the row, x another one). -/
def Nv (W0 : World) (n₀ g f k : Nat) (v : Value) (C : Array Value) : Nat → Value → Value → Value → World → Prop
  | 0, _, _, _, w => Grew W0 w
  | 1, a, _, _, w => Grew W0 w ∧ ∃ q, a = .slice (some ⟨q, 0, none⟩) 128 128 ∧ Rd (fun _ => True) w (.slice (some ⟨q, 0, none⟩) 128 128) DNew.zsec
  | 2, _, b, _, w => Grew W0 w ∧ ∃ q, b = .slice (some ⟨q, 0, none⟩) 1 1 ∧ w.cell? ⟨q, 0, none⟩ = some (sv DNew.zsec)
  | 3, _, _, c, w => W0.grownBy w v.ownBlock ∧ w.ownsRow n₀ 9 1 c (k + 1) (svs (DNew.blank (k + 1))) ∧ (∀ j, c.ownBlock = some j → v.ownBlock = some j ∨ W0.heap.size ≤ j)
  | _, _, _, c, w => w.ownsRow n₀ 9 1 c (k + 1) (svs (DNew.blank (k + 1))) ∧ (∀ j, c.ownBlock = some j → v.ownBlock = some j ∨ W0.heap.size ≤ j) ∧ DSmall.Kept (fun j => j = g ∨ v.ownBlock = some j) W0 w ∧ w.heap[g]? = some (.cells (C.setIfInBounds f c) 49 (0, 0))
def Nw (W0 : World) (n₀ g f k : Nat) (v : Value) (C : Array Value) (i : Nat) (u : Nat → Value) (w : World) : Prop := Nv W0 n₀ g f k v C i (u 2) (u 4) (u 5) w
theorem Nw.upd {W0 : World} {n₀ g f k : Nat} {v : Value} {C : Array Value} {i j : Nat} {u : Nat → Value} {y : Value} {w : World} (hj : (j == 2 || j == 4 || j == 5) = false) (h : Nw W0 n₀ g f k v C i u w) : Nw W0 n₀ g f k v C i (Marks.updv u j y) w := by
  have e2 : Marks.updv u j y 2 = u 2 := Marks.updv_other u y (fun e => by subst e; simp at hj)
  have e4 : Marks.updv u j y 4 = u 4 := Marks.updv_other u y (fun e => by subst e; simp at hj)
  have e5 : Marks.updv u j y 5 = u 5 := Marks.updv_other u y (fun e => by subst e; simp at hj)
  unfold Nw at h ⊢
  rw [e2, e4, e5]
  exact h

theorem Nw.early {W0 : World} {n₀ g f k : Nat} {v : Value} {C : Array Value} {i : Nat} {u : Nat → Value} {w : World} (hi : i ≤ 2) (h : Nw W0 n₀ g f k v C i u w) : Grew W0 w := by
  match i, hi with
  | 0, _ => exact h
  | 1, _ => exact h.1
  | 2, _ => exact h.1
theorem mk_rd (W : World) : Rd (fun _ => True) (W.alloc (.cells (bv DNew.zsec).toArray 5)) (.slice (some ⟨W.heap.size, 0, none⟩) 128 128) DNew.zsec := by
  have h := DAlive.lit_rd W DNew.zsec (by simp [DNew.zsec, maxLen])
  have e : DNew.zsec.length = 128 := by simp [DNew.zsec]
  rw [e] at h
  exact h.mono fun _ _ => trivial

set_option maxHeartbeats 4000000 in
theorem rnew_any (n : Nat) (w : World) (hn : n ≤ 16384) :
    Calls Try.prog 22 #[.int .i64 (n : Int)] w fun e w' => ∃ v', e = .returned v' ∧ RD w' v' (rfresh n) ∧ Grew w w' := by
  have HN := Lib.hid hn
  go_enter Try.func22, Try.ntmps22
  go_wp2
  have B0 := heapA w (.cells #[.slice none 0 0, .slice none 0 0, .slice none 0 0, .int .i64 0, .bool false] 49) (.cells #[.slice none 0 0, .slice none 0 0, .slice none 0 0, .int .i64 (-1), .bool false] 49)
  have B1 := heapB w (.cells #[.slice none 0 0, .slice none 0 0, .slice none 0 0, .int .i64 0, .bool false] 49) (.cells #[.slice none 0 0, .slice none 0 0, .slice none 0 0, .int .i64 (-1), .bool false] 49)
  have G0 : Grew w ((w.alloc (.cells #[.slice none 0 0, .slice none 0 0, .slice none 0 0, .int .i64 0, .bool false] 49)).alloc (.cells #[.slice none 0 0, .slice none 0 0, .slice none 0 0, .int .i64 (-1), .bool false] 49)) := (grew_new (w := w) _).trans (grew_new _)
  have HB0 := Lib.hid B0
  have HB1 := Lib.hid B1
  have HG0 := Lib.hid G0
  clear B0 B1 G0 hn
  go_loopg [4] n (fun q s4 wx => ∃ (k : Nat) (A1 A2 : Option Addr) (c1 c2 : Nat), k + q = n ∧ s4 = .int .i64 k ∧ Hid (wx.heap[w.heap.size]? = some (.cells #[.slice none 0 0, .slice none 0 0, .slice none 0 0, .int .i64 0, .bool false] 49 (0, 0))) ∧ Hid (wx.heap[w.heap.size + 1]? = some (.cells #[.slice A1 k c1, .slice A2 k c2, .slice none 0 0, .int .i64 (-1), .bool false] 49 (0, 0))) ∧ Hid (Grew w wx) ∧ Hid (wx.ownsRow (w.heap.size + 2) 9 1 (.slice A1 k c1) k (svs (DNew.blank k))) ∧ Hid (wx.ownsRow (w.heap.size + 2) 9 1 (.slice A2 k c2) k (svs (DNew.blank k))) ∧ Hid (∀ j, (Value.slice A1 k c1).ownBlock = some j → (Value.slice A2 k c2).ownBlock ≠ some j))
  case atStart => exact ⟨0, none, none, 0, 0, Nat.zero_add _, rfl, HB0, HB1, HG0, Lib.hid (World.ownsRow_nil _ _ _ _), Lib.hid (World.ownsRow_nil _ _ _ _), Lib.hid (fun j h => by cases h)⟩
  case round =>
    obtain ⟨k, A1, A2, c1, c2, hkq, rfl, HR, HB, HG, HO1, HO2, HNE⟩ := hrel
    generalize wr = wi at *
    have HCF : Hid (wi.cell? ⟨w.heap.size + 1, 0, none⟩ = some (.slice A1 k c1)) := Lib.hid (cell_of_row _ _ _ _ _ _ HB.out)
    have HKN : Hid (k ≤ 16384) := Lib.hid (by have := HN.out; omega)
    have HN0 : Hid (w.heap.size + 2 ≤ wi.heap.size) := Lib.hid (by have := (Array.getElem?_eq_some_iff.1 HB.out).1; omega)
    have HGN : Hid (w.heap.size + 1 < w.heap.size + 2) := Lib.hid (by omega)
    have HGV : Hid (¬ some (w.heap.size + 1) = (Value.slice A1 k c1).ownBlock) := Lib.hid (fun h => by have := (HO1.out.lt _ h.symm).1; omega)
    cases gk with
    | succ q =>
      have hkn : (k : Int) < (n : Int) := by omega
      go_wp2
      refine Chain.wp_chain [2, 4, 5, 7] (Nw wi (w.heap.size + 2) (w.heap.size + 1) 0 k (.slice A1 k c1) (#[.slice A1 k c1, .slice A2 k c2, .slice none 0 0, .int .i64 (-1), .bool false])) (by kernel_rfl) (by kernel_rfl) ((Grew.refl _).drew) ?_
      apply Marks.Lex.exact [] _ (by kernel_rfl)
      · intro m u W hm hcl hJ _
        unfold Marks.one
        go_simp
        exact ⟨trivial, hJ.quiet (k := 0) _ (by rfl) (fun ii hh => Nw.upd (by rfl) hh), rfl⟩
      simp only [Act.put, List.setIfInBounds_toArray, List.set_cons_zero, List.set_cons_succ, Nat.zero_add]
      apply Marks.Lex.exact [] _ (by kernel_rfl)
      · intro m u W hm hcl hJ _
        obtain ⟨i, hi, hP⟩ := hJ.get hm 2 5 rfl (by decide)
        have hC : Grew wi W := Nw.early hi hP
        have d1 := DWrite.cellB hC HCF.out
        unfold Marks.one
        go_simp
        exact ⟨trivial, hJ.quiet (k := 1) _ (by rfl) (fun ii hh => Nw.upd (by rfl) hh), rfl⟩
      simp only [Act.put, List.setIfInBounds_toArray, List.set_cons_zero, List.set_cons_succ, Nat.reduceAdd]
      apply Marks.Lex.know [] (fun _ _ => True) (by kernel_rfl) (fun _ _ _ _ _ => trivial)
      · intro m u W hm hcl hJ _
        obtain ⟨hP, hput⟩ := hJ.put 0 rfl hm hcl (by decide) (by decide)
        have hC : Grew wi W := hP
        have hr := DAlive.run_mk34 W
        unfold Marks.one
        go_simp
        refine ⟨trivial, hput _ _ (fun _ => ⟨hC.trans (grew_new _), W.heap.size, Marks.updv_same _ _ _, mk_rd W⟩), trivial⟩
      simp only [Act.put, List.setIfInBounds_toArray, List.set_cons_zero, List.set_cons_succ, Nat.reduceAdd]
      apply Marks.Lex.exact [] (sv DNew.zsec) (by kernel_rfl)
      · intro m u W hm hcl hJ _
        have h2 : m 2 = true := hcl 2 (by decide)
        obtain ⟨i, hi1, hi2, hP⟩ := hJ.between hm 1 4 rfl (by decide) 0 2 rfl h2
        obtain rfl : i = 1 := by omega
        obtain ⟨hC, q, e2, hq⟩ := hP
        have hcv := conv34 hq
        exact Chain.one_conv rfl 23 9 (.tmp 13) rfl _ e2 hcv ⟨trivial, hJ.quiet (k := 3) _ (by rfl) (fun ii hh => Nw.upd (by rfl) hh), rfl⟩
      simp only [Act.put, List.setIfInBounds_toArray, List.set_cons_zero, List.set_cons_succ, Nat.reduceAdd]
      apply Marks.Lex.know [] (fun _ _ => True) (by kernel_rfl) (fun _ _ _ _ _ => trivial)
      · intro m u W hm hcl hJ _
        obtain ⟨hP, hput⟩ := hJ.put 1 rfl hm hcl (by decide) (by decide)
        obtain ⟨hC, _⟩ := hP
        unfold sv
        unfold Marks.one
        go_simp
        refine ⟨trivial, hput _ _ (fun _ => ⟨hC.trans (grew_new _), W.heap.size, Marks.updv_same _ _ _, ?_⟩), trivial⟩
        rw [cell_of_row _ _ _ _ _ _ (heap_alloc_new W _)]
        rfl
      simp only [Act.put, List.setIfInBounds_toArray, List.set_cons_zero, List.set_cons_succ, Nat.reduceAdd]
      apply Marks.Lex.know [] (fun _ _ => True) (by kernel_rfl) (fun _ _ _ _ _ => trivial)
      · intro m u W hm hcl hJ _
        obtain ⟨hP, hput⟩ := hJ.put 2 rfl hm hcl (by decide) (by decide)
        obtain ⟨hC, q, e4, hq⟩ := hP
        obtain ⟨v', W', hr, ho, hg, hb⟩ := app_text W (w.heap.size + 2) (.slice A1 k c1) (DNew.blank k) DNew.zsec q (by rw [DNew.blank_length]; exact own_gen HO1.out hC) hq (by rw [DNew.blank_length]; have := HKN.out; omega) (Nat.le_trans HN0.out hC.size)
        refine DWrite.one_app rfl (.tmp 12) (.tmp 15) 46 46 rfl _ _ rfl e4 v' W' hr ⟨trivial, hput v' W' (fun _ => ?_), trivial⟩
        refine ⟨DWrite.grown_of hC hg, ?_, ?_⟩
        · rw [Marks.updv_same, blank_snoc]
          rw [DNew.blank_length] at ho
          exact ho
        · rw [Marks.updv_same]
          intro j hj
          exact (hb j hj).imp id (fun h => Nat.le_trans hC.size h)
      simp only [Act.put, List.setIfInBounds_toArray, List.set_cons_zero, List.set_cons_succ, Nat.reduceAdd]
      apply Marks.Lex.exact [] _ (by kernel_rfl)
      · intro m u W hm hcl hJ _
        unfold Marks.one
        go_simp
        exact ⟨trivial, hJ.quiet (k := 6) _ (by rfl) (fun ii hh => Nw.upd (by rfl) hh), rfl⟩
      simp only [Act.put, List.setIfInBounds_toArray, List.set_cons_zero, List.set_cons_succ, Nat.reduceAdd]
      apply Marks.Lex.exact [] (undef) (by kernel_rfl)
      · intro m u W hm hcl hJ _
        obtain ⟨hP, hput⟩ := hJ.put 3 rfl hm hcl (by decide) (by decide)
        obtain ⟨hC, ho, hb⟩ := hP
        obtain ⟨A8, c8, e8⟩ := DBuild.own_block ho
        have hgg : W.heap[(w.heap.size + 1)]? = some (.cells (#[.slice A1 k c1, .slice A2 k c2, .slice none 0 0, .int .i64 (-1), .bool false]) 49 (0, 0)) := (hC.block (w.heap.size + 1) (Array.getElem?_eq_some_iff.1 HB.out).1 HGV.out).trans HB.out
        have hst := store1 46 (by kernel_rfl) 0 W _ _ hgg (.slice A8 (k + 1) c8) rfl rfl (by have := (Lib.hid (show 0 < 5 by omega)).out; omega)
        refine DWrite.one_store rfl 46 (.tmp 17) (.tmp 16) rfl _ _ rfl e8 _ hst ⟨trivial, hput undef _ (fun _ => ?_), rfl⟩
        refine Nw.upd (by rfl) (i := 4) (show Nw _ _ _ _ _ _ _ 4 u _ from ?_)
        have hk : DSmall.Kept (fun j => j = (w.heap.size + 1)) W (W.setCell ⟨(w.heap.size + 1), 0, none⟩ (.slice A8 (k + 1) c8)) := DSmall.Kept.set _ _ rfl
        refine ⟨own_kept ho hk (fun j hj => by rw [hj]; exact HGN.out), hb, (DSmall.Kept.of_grown hC (fun j hj => .inr hj)).trans (DSettle.Kept.mono hk fun j hj => .inl hj), ?_⟩
        rw [Go.heap_setCell_same _ _ _ _ _ _ hgg, e8]
      simp only [Act.put, List.setIfInBounds_toArray, List.set_cons_zero, List.set_cons_succ, Nat.reduceAdd]
      refine Marks.Lex.done fun m u W' hm hJ _ => ?_
      have hE : Nw _ _ _ _ _ _ _ 4 u W' := hJ.done (by intro k hk; exact hm k (by simp at hk; omega))
      clear hJ hm
      obtain ⟨ho8, hb8, hk8, hh8⟩ := hE
      generalize u 5 = v5 at *

      obtain ⟨A1', c1', rfl⟩ := DBuild.own_block ho8
      have HB2 : Hid (W'.heap[w.heap.size + 1]? = some (.cells #[.slice A1' (k + 1) c1', .slice A2 k c2, .slice none 0 0, .int .i64 (-1), .bool false] 49 (0, 0))) := Lib.hid hh8
      have HO1b := Lib.hid ho8
      have HO2b := Lib.hid (own_keep2 HO2.out hk8 (fun j hj hd => by
        rcases hd with hd | hd
        · have := (HO2.out.lt j hj).1; omega
        · exact HNE.out j hd hj))
      have HRb := Lib.hid ((hk8.block w.heap.size (Array.getElem?_eq_some_iff.1 HR.out).1 (by
        rintro (h | h)
        · omega
        · have := (HO1.out.lt _ h).1; omega)).trans HR.out)
      have HGb := Lib.hid (DAlive.grew_kept HG.out hk8 (fun j hj => by
        rcases hj with h | h
        · omega
        · have := (HO1.out.lt _ h).1; omega))
      have HNEb : Hid (∀ j, (Value.slice A1' (k + 1) c1').ownBlock = some j → (Value.slice A2 k c2).ownBlock ≠ some j) := Lib.hid (fun j hj h2 => by
        rcases hb8 j hj with h | h
        · exact HNE.out j h h2
        · have := (HO2.out.lt j h2).2; omega)
      have HN0b : Hid (w.heap.size + 2 ≤ W'.heap.size) := Lib.hid (Nat.le_trans HN0.out hk8.size)
      clear ho8 hb8 hk8 hh8 HCF HN0 HGV HR HB HG HO1 HO2 HNE
      have HCF : Hid (W'.cell? ⟨w.heap.size + 1, 1, none⟩ = some (.slice A2 k c2)) := Lib.hid (cell_of_row _ _ _ _ _ _ HB2.out)
      have HN0 := HN0b
      have HGV : Hid (¬ some (w.heap.size + 1) = (Value.slice A2 k c2).ownBlock) := Lib.hid (fun h => by have := (HO2b.out.lt _ h.symm).1; omega)
      generalize W' = wj at *
      go_wp2
      refine Chain.wp_chain [2, 4, 5, 7] (Nw wj (w.heap.size + 2) (w.heap.size + 1) 1 k (.slice A2 k c2) (#[.slice A1' (k + 1) c1', .slice A2 k c2, .slice none 0 0, .int .i64 (-1), .bool false])) (by kernel_rfl) (by kernel_rfl) ((Grew.refl _).drew) ?_
      apply Marks.Lex.exact [] _ (by kernel_rfl)
      · intro m u W hm hcl hJ _
        unfold Marks.one
        go_simp
        exact ⟨trivial, hJ.quiet (k := 0) _ (by rfl) (fun ii hh => Nw.upd (by rfl) hh), rfl⟩
      simp only [Act.put, List.setIfInBounds_toArray, List.set_cons_zero, List.set_cons_succ, Nat.zero_add]
      apply Marks.Lex.exact [] _ (by kernel_rfl)
      · intro m u W hm hcl hJ _
        obtain ⟨i, hi, hP⟩ := hJ.get hm 2 5 rfl (by decide)
        have hC : Grew wj W := Nw.early hi hP
        have d1 := DWrite.cellB hC HCF.out
        unfold Marks.one
        go_simp
        exact ⟨trivial, hJ.quiet (k := 1) _ (by rfl) (fun ii hh => Nw.upd (by rfl) hh), rfl⟩
      simp only [Act.put, List.setIfInBounds_toArray, List.set_cons_zero, List.set_cons_succ, Nat.reduceAdd]
      apply Marks.Lex.know [] (fun _ _ => True) (by kernel_rfl) (fun _ _ _ _ _ => trivial)
      · intro m u W hm hcl hJ _
        obtain ⟨hP, hput⟩ := hJ.put 0 rfl hm hcl (by decide) (by decide)
        have hC : Grew wj W := hP
        have hr := DAlive.run_mk34 W
        unfold Marks.one
        go_simp
        refine ⟨trivial, hput _ _ (fun _ => ⟨hC.trans (grew_new _), W.heap.size, Marks.updv_same _ _ _, mk_rd W⟩), trivial⟩
      simp only [Act.put, List.setIfInBounds_toArray, List.set_cons_zero, List.set_cons_succ, Nat.reduceAdd]
      apply Marks.Lex.exact [] (sv DNew.zsec) (by kernel_rfl)
      · intro m u W hm hcl hJ _
        have h2 : m 2 = true := hcl 2 (by decide)
        obtain ⟨i, hi1, hi2, hP⟩ := hJ.between hm 1 4 rfl (by decide) 0 2 rfl h2
        obtain rfl : i = 1 := by omega
        obtain ⟨hC, q, e2, hq⟩ := hP
        have hcv := conv34 hq
        exact Chain.one_conv rfl 23 9 (.tmp 20) rfl _ e2 hcv ⟨trivial, hJ.quiet (k := 3) _ (by rfl) (fun ii hh => Nw.upd (by rfl) hh), rfl⟩
      simp only [Act.put, List.setIfInBounds_toArray, List.set_cons_zero, List.set_cons_succ, Nat.reduceAdd]
      apply Marks.Lex.know [] (fun _ _ => True) (by kernel_rfl) (fun _ _ _ _ _ => trivial)
      · intro m u W hm hcl hJ _
        obtain ⟨hP, hput⟩ := hJ.put 1 rfl hm hcl (by decide) (by decide)
        obtain ⟨hC, _⟩ := hP
        unfold sv
        unfold Marks.one
        go_simp
        refine ⟨trivial, hput _ _ (fun _ => ⟨hC.trans (grew_new _), W.heap.size, Marks.updv_same _ _ _, ?_⟩), trivial⟩
        rw [cell_of_row _ _ _ _ _ _ (heap_alloc_new W _)]
        rfl
      simp only [Act.put, List.setIfInBounds_toArray, List.set_cons_zero, List.set_cons_succ, Nat.reduceAdd]
      apply Marks.Lex.know [] (fun _ _ => True) (by kernel_rfl) (fun _ _ _ _ _ => trivial)
      · intro m u W hm hcl hJ _
        obtain ⟨hP, hput⟩ := hJ.put 2 rfl hm hcl (by decide) (by decide)
        obtain ⟨hC, q, e4, hq⟩ := hP
        obtain ⟨v', W', hr, ho, hg, hb⟩ := app_text W (w.heap.size + 2) (.slice A2 k c2) (DNew.blank k) DNew.zsec q (by rw [DNew.blank_length]; exact own_gen HO2b.out hC) hq (by rw [DNew.blank_length]; have := HKN.out; omega) (Nat.le_trans HN0.out hC.size)
        refine DWrite.one_app rfl (.tmp 19) (.tmp 22) 46 46 rfl _ _ rfl e4 v' W' hr ⟨trivial, hput v' W' (fun _ => ?_), trivial⟩
        refine ⟨DWrite.grown_of hC hg, ?_, ?_⟩
        · rw [Marks.updv_same, blank_snoc]
          rw [DNew.blank_length] at ho
          exact ho
        · rw [Marks.updv_same]
          intro j hj
          exact (hb j hj).imp id (fun h => Nat.le_trans hC.size h)
      simp only [Act.put, List.setIfInBounds_toArray, List.set_cons_zero, List.set_cons_succ, Nat.reduceAdd]
      apply Marks.Lex.exact [] _ (by kernel_rfl)
      · intro m u W hm hcl hJ _
        unfold Marks.one
        go_simp
        exact ⟨trivial, hJ.quiet (k := 6) _ (by rfl) (fun ii hh => Nw.upd (by rfl) hh), rfl⟩
      simp only [Act.put, List.setIfInBounds_toArray, List.set_cons_zero, List.set_cons_succ, Nat.reduceAdd]
      apply Marks.Lex.exact [] (undef) (by kernel_rfl)
      · intro m u W hm hcl hJ _
        obtain ⟨hP, hput⟩ := hJ.put 3 rfl hm hcl (by decide) (by decide)
        obtain ⟨hC, ho, hb⟩ := hP
        obtain ⟨A8, c8, e8⟩ := DBuild.own_block ho
        have hgg : W.heap[(w.heap.size + 1)]? = some (.cells (#[.slice A1' (k + 1) c1', .slice A2 k c2, .slice none 0 0, .int .i64 (-1), .bool false]) 49 (0, 0)) := (hC.block (w.heap.size + 1) (Array.getElem?_eq_some_iff.1 HB2.out).1 HGV.out).trans HB2.out
        have hst := store1 46 (by kernel_rfl) 1 W _ _ hgg (.slice A8 (k + 1) c8) rfl rfl (by have := (Lib.hid (show 1 < 5 by omega)).out; omega)
        refine DWrite.one_store rfl 46 (.tmp 24) (.tmp 23) rfl _ _ rfl e8 _ hst ⟨trivial, hput undef _ (fun _ => ?_), rfl⟩
        refine Nw.upd (by rfl) (i := 4) (show Nw _ _ _ _ _ _ _ 4 u _ from ?_)
        have hk : DSmall.Kept (fun j => j = (w.heap.size + 1)) W (W.setCell ⟨(w.heap.size + 1), 1, none⟩ (.slice A8 (k + 1) c8)) := DSmall.Kept.set _ _ rfl
        refine ⟨own_kept ho hk (fun j hj => by rw [hj]; exact HGN.out), hb, (DSmall.Kept.of_grown hC (fun j hj => .inr hj)).trans (DSettle.Kept.mono hk fun j hj => .inl hj), ?_⟩
        rw [Go.heap_setCell_same _ _ _ _ _ _ hgg, e8]
      simp only [Act.put, List.setIfInBounds_toArray, List.set_cons_zero, List.set_cons_succ, Nat.reduceAdd]
      refine Marks.Lex.done fun m u W' hm hJ _ => ?_
      have hE : Nw _ _ _ _ _ _ _ 4 u W' := hJ.done (by intro k hk; exact hm k (by simp at hk; omega))
      clear hJ hm
      obtain ⟨ho8, hb8, hk8, hh8⟩ := hE
      generalize u 5 = v5 at *

      obtain ⟨A2', c2', rfl⟩ := DBuild.own_block ho8
      have HB3 : Hid (W'.heap[w.heap.size + 1]? = some (.cells #[.slice A1' (k + 1) c1', .slice A2' (k + 1) c2', .slice none 0 0, .int .i64 (-1), .bool false] 49 (0, 0))) := Lib.hid hh8
      have HO2c := Lib.hid ho8
      have HO1c := Lib.hid (own_keep2 HO1b.out hk8 (fun j hj hd => by
        rcases hd with hd | hd
        · have := (HO1b.out.lt j hj).1; omega
        · exact HNEb.out j hj hd))
      have HRc := Lib.hid ((hk8.block w.heap.size (Array.getElem?_eq_some_iff.1 HRb.out).1 (by
        rintro (h | h)
        · omega
        · have := (HO2b.out.lt _ h).1; omega)).trans HRb.out)
      have HGc := Lib.hid (DAlive.grew_kept HGb.out hk8 (fun j hj => by
        rcases hj with h | h
        · omega
        · have := (HO2b.out.lt _ h).1; omega))
      have HNEc : Hid (∀ j, (Value.slice A1' (k + 1) c1').ownBlock = some j → (Value.slice A2' (k + 1) c2').ownBlock ≠ some j) := Lib.hid (fun j hj h2 => by
        rcases hb8 j h2 with h | h
        · exact HNEb.out j hj h
        · have := (HO1b.out.lt j hj).2; omega)
      clear ho8 hb8 hk8 hh8 HCF HN0 HGV HRb HB2 HGb HO1b HO2b HNEb HN0b
      go_wp2
      go_roundg q
      case measure => omega
      case rel => exact ⟨k + 1, A1', A2', c1', c2', by omega, by have hn16 := HN.out; first | rfl | (simp; omega) | (simp [wrap64]; omega), HRc, HB3, HGc, HO1c, HO2c, HNEc⟩
    | zero =>
      obtain rfl : k = n := by omega
      have hkn : ¬ (k : Int) < (k : Int) := by omega
      have L4 := load5 wi (w.heap.size + 1) A1 A2 none k k 0 c1 c2 0 (-1) false HB.out
      have S5 := store5 wi _ _ HR.out (by simp) A1 A2 none k k 0 c1 c2 0 (-1) false
      have B5 := setRow_heap wi _ _ (d5 A1 A2 none k k 0 c1 c2 0 (-1) false).toArray _ _ HR.out
      have K5 : DSmall.Kept (fun j => j = w.heap.size) wi (wi.setRow w.heap.size (d5 A1 A2 none k k 0 c1 c2 0 (-1) false).toArray) := ⟨rfl, rfl, rfl, by simp, fun j _ hj => setRow_other wi w.heap.size j _ (by omega)⟩
      have L5 := run_loadVar_mid (P := Try.prog) _ w.heap.size 0 49 (d5 A1 A2 none k k 0 c1 c2 0 (-1) false) _ (fun j v hv => by rw [cell_of_row _ _ _ _ _ _ B5, Nat.zero_add]; simpa using hv) Try.underlying49 rfl size32
      have G5 : Grew w (wi.setRow w.heap.size (d5 A1 A2 none k k 0 c1 c2 0 (-1) false).toArray) := below_setRow HG.out (Nat.le_refl _) _
      have O1 := own_kept HO1.out K5 (fun j hj => by omega)
      have O2 := own_kept HO2.out K5 (fun j hj => by omega)
      generalize (wi.setRow w.heap.size (d5 A1 A2 none k k 0 c1 c2 0 (-1) false).toArray) = w5 at *
      have HRD : Hid (RD w5 (dv A1 A2 none k k 0 c1 c2 0 (-1) false) (rfresh k)) := Lib.hid (by
        have e := DNew.blank_length k
        have s1 : SR w5 (.slice A1 (DNew.blank k).length c1) (DNew.blank k) := by rw [e]; exact SR.of_own (by rw [e]; exact O1)
        have s2 : SR w5 (.slice A2 (DNew.blank k).length c2) (DNew.blank k) := by rw [e]; exact SR.of_own (by rw [e]; exact O2)
        refine ⟨⟨A1, A2, none, c1, c2, 0, ?_, s1, s2, WR.nil _, by unfold rfresh; rw [e]; exact Tg.of_own O1, by unfold rfresh; rw [e]; exact Tg.of_own O2, Tg.nil _ _ _ _⟩, by show (-1 : Int) ≤ -1; omega, by show (-1 : Int) ≤ 9223372036854775807; omega⟩
        unfold rfresh
        simp only [e]
        rfl)
      have HL4 := Lib.hid L4
      have HS5 := Lib.hid S5
      have HL5 := Lib.hid L5
      have HG5 := Lib.hid G5
      clear L4 S5 B5 K5 L5 G5 O1 O2
      go_wp2_with (first
        | refine DArm.wpList_load (by rfl) 49 (.tmp 3) (by with_reducible rfl) _ _ (by rfl) HL4.out ?_
        | refine DArm.wpList_store (by rfl) 49 (.tmp 2) (.tmp 25) (by with_reducible rfl) _ _ (by rfl) (by rfl) _ HS5.out ?_)
      refine bodyPost_ret (v := dv A1 A2 none k k 0 c1 c2 0 (-1) false) ?_ rfl ⟨_, rfl, HRD.out, HG5.out⟩
      have hld := HL5.out
      simp [results, Try.results22]
      simp [asAddr, hld, d5, dv]

end Go.Proofs.Ytbnicphegbdfnaa.DRefF
