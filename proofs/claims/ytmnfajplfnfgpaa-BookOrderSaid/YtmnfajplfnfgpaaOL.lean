/-
  An order is filled.
  Conditions: those that each lemma names.
-/
import Derived.Test.YtmnfajplfnfgpaaOLA
import Derived.Lib.Hide
import Derived.Scope
namespace Go.Proofs.Ytmnfajplfnfgpaa.OL
set_option maxRecDepth 100000
open Go Go.RowKit Go.Lib Go.Proofs.Ytmnfajplfnfgpaa Go.Proofs.Ytmnfajplfnfgpaa.Facts Go.Proofs.Ytmnfajplfnfgpaa.Ints Go.Proofs.Ytmnfajplfnfgpaa.PA Go.Proofs.Ytmnfajplfnfgpaa.UM Go.Proofs.Ytmnfajplfnfgpaa.UB Go.Proofs.Ytmnfajplfnfgpaa.OA Go.Proofs.Ytmnfajplfnfgpaa.BP Go.Proofs.Ytmnfajplfnfgpaa.OB Go.Proofs.Ytmnfajplfnfgpaa.OC Go.Proofs.Ytmnfajplfnfgpaa.OD Go.Proofs.Ytmnfajplfnfgpaa.OE Go.Proofs.Ytmnfajplfnfgpaa.OF Go.Proofs.Ytmnfajplfnfgpaa.OG Go.Proofs.Ytmnfajplfnfgpaa.OH Go.Proofs.Ytmnfajplfnfgpaa.OI Go.Proofs.Ytmnfajplfnfgpaa.OJ Go.Proofs.Ytmnfajplfnfgpaa.OK Go.Proofs.Ytmnfajplfnfgpaa.OLA Go.Proofs.Ytmnfajplfnfgpaa.Bytes


attribute [local go_sem] Oper.semAt_some

set_option maxHeartbeats 4000000 in
theorem fill_any (l : List Or) (o : Or) (v : Value) (w : World) (hl : Ors w v l) (hlen : l.length ≤ 1000) (hright : rightO l = true) (hmay : MayF o) (hwf : ∀ x ∈ l, WfO x) (ho : SzO o) :
    Calls Try.prog 46 #[v, orv o] w fun e w' => ∃ S v1 v2, Srt l o S ∧ e = .returned (.tuple #[v1, v2, orv (fillP l S l o []).2.2]) ∧ Ors w' v1 (fillP l S l o []).1 ∧ Fis w' v2 (fillP l S l o []).2.1 ∧ Grew w w' := by
  obtain ⟨A, c, rfl, _⟩ := hl.slice
  refine (callsIn_wide (n := 4)).1 ?_
  have g0 : Grew w ((w.alloc (.cells (ocs o).toArray 26)).alloc (.cells #[.bool false, .int .i64 0, .int .i64 0, .int .i64 0, .int .i64 0, .int .i64 0, .int .u64 0, .int .u64 0, .int .u64 0, .int .i64 0] 26)) := by unfold Grew; go_grown
  have HCL := Lib.hid (ord_clone _ _ l (hl.grew g0) (by omega))
  have HBE := Lib.hid (fun W => best_any (.slice A l.length c) o W ⟨_, _, _, rfl⟩)
  unfold orv ocs at *
  refine callsIn_of_wp_marks Try.func46 rfl trivial ?_ rfl
  simp only [Try.ntmps46, List.size_toArray, List.length_cons, List.length_nil, Nat.reduceAdd, Nat.reduceSub, Array.replicate_succ, Array.replicate_zero, List.push_toArray, List.append_toArray, List.nil_append, List.cons_append]
  have HBO : Hid (∀ w1, Grew ((w.alloc (.cells (ocs o).toArray 26)).alloc (.cells #[.bool false, .int .i64 0, .int .i64 0, .int .i64 0, .int .i64 0, .int .i64 0, .int .u64 0, .int .u64 0, .int .u64 0, .int .i64 0] 26)) w1 → Bx w1 w.heap.size o) := Lib.hid fun w1 hg => keepB (keepB (blk_new w _) (by unfold Grew; go_grown)) hg
  have HBR : Hid (∀ w1, Grew ((w.alloc (.cells (ocs o).toArray 26)).alloc (.cells #[.bool false, .int .i64 0, .int .i64 0, .int .i64 0, .int .i64 0, .int .i64 0, .int .u64 0, .int .u64 0, .int .u64 0, .int .i64 0] 26)) w1 → Bx w1 (w.heap.size + 1) zor) := Lib.hid fun w1 hg => by
    have h1 := blk_new (w.alloc (.cells (ocs o).toArray 26)) (.cells #[.bool false, .int .i64 0, .int .i64 0, .int .i64 0, .int .i64 0, .int .i64 0, .int .u64 0, .int .u64 0, .int .u64 0, .int .i64 0] 26)
    rw [World.size_alloc] at h1
    exact keepB h1 hg
  refine wpIn_wide.2 ?_
  go_wp2
  go_step3
  go_wp2_with fail
  refine HCL.out.mono ?_
  rintro e w1 ⟨v', rfl, hown, hg⟩
  have HOWN := Lib.hid hown
  have G1 := Lib.hid hg
  obtain ⟨A1, c1, rfl, _⟩ := (Ors.of_own hown).slice
  have g2 : Grew w1 ((w1.alloc (.cells #[.slice A1 l.length c1] 22)).alloc (.cells #[.slice none 0 0] 39)) := by unfold Grew; go_grown
  obtain ⟨x0, x1, x2, x3, x4, x5, x6, x7, x8, x9⟩ := ((HBO.out _ hg).grew g2).cells
  have G2 := Lib.hid g2
  clear hown hg g2
  go_wp2
  go_step3
  go_wp2_with fail
  refine (HBE.out _).mono ?_
  rintro e w2 ⟨rfl, rfl⟩
  go_wp2_with fail
  obtain ⟨W0, hW0⟩ : ∃ W0, ((((w1.alloc (.cells #[.slice A1 l.length c1] 22)).alloc (.cells #[.slice none 0 0] 39)).alloc (.cells #[.slice A l.length c] 22)).alloc (.cells #[.bool o.used, .int .i64 o.label, .int .i64 o.who, .int .i64 o.side, .int .i64 o.base, .int .i64 o.quote, .int .u64 (o.price : Int), .int .u64 (o.left : Int), .int .u64 (o.res : Int), .int .i64 o.seq] 26)) = W0 := ⟨_, rfl⟩
  have g10 : Grew w1 W0 := by rw [← hW0]; unfold Grew; go_grown
  have hsz : W0.heap.size = w1.heap.size + 4 := by rw [← hW0]; simp
  have bN : Boxed W0 w1.heap.size 22 (.slice A1 l.length c1) := by
    rw [← hW0]
    exact keepB (blk_new w1 _) (by unfold Grew; go_grown)
  have bF : Boxed W0 (w1.heap.size + 1) 39 (.slice none 0 0) := by
    rw [← hW0]
    have h1 := blk_new (w1.alloc (.cells #[.slice A1 l.length c1] 22)) (.cells #[.slice none 0 0] 39)
    rw [World.size_alloc] at h1
    exact keepB h1 (by unfold Grew; go_grown)
  have bL : W0.heap[w1.heap.size + 1 + 1]? = some (.cells #[.slice A l.length c] 22 (0, 0)) := by
    rw [← hW0]
    have h1 := blk_new ((w1.alloc (.cells #[.slice A1 l.length c1] 22)).alloc (.cells #[.slice none 0 0] 39)) (.cells #[.slice A l.length c] 22)
    rw [World.size_alloc, World.size_alloc] at h1
    exact keepB h1 (by unfold Grew; go_grown)
  have bO2 : Bx W0 (w1.heap.size + 1 + 1 + 1) o := by
    rw [← hW0]
    have h1 := blk_new (((w1.alloc (.cells #[.slice A1 l.length c1] 22)).alloc (.cells #[.slice none 0 0] 39)).alloc (.cells #[.slice A l.length c] 22)) (.cells (ocs o).toArray 26)
    rw [World.size_alloc, World.size_alloc, World.size_alloc] at h1
    exact h1
  rw [hW0]
  clear hW0 x0 x1 x2 x3 x4 x5 x6 x7 x8 x9
  have hg01 : Grew w w1 := Grew.trans g0 G1.out
  have hs1 : w.heap.size + 2 ≤ w1.heap.size := by
    have := G1.out.size
    simpa using this
  have hgW : Grew w W0 := hg01.trans g10
  have bo : Bx W0 w.heap.size o := (HBO.out _ G1.out).grew g10
  have br : Bx W0 (w.heap.size + 1) zor := (HBR.out _ G1.out).grew g10
  have how : OwnO W0 (w.heap.size + 2) (.slice A1 l.length c1) l := by
    have h1 := HOWN.out
    simp only [World.size_alloc] at h1
    refine ⟨h1.1, ?_⟩
    rcases h1.2 with h0 | ⟨g, cap, cur, h2, h3, h4, h5⟩
    · exact .inl h0
    · exact .inr ⟨g, cap, cur, h2, h3, keepB h4 g10, h5⟩
  obtain ⟨gN, hgN1, hgN2, hgN3⟩ : ∃ gN, gN < w1.heap.size ∧ w.heap.size ≤ gN ∧ (0 < l.length → A1 = some ⟨gN, 0, none⟩ ∧ w.heap.size + 2 ≤ gN) := by
    rcases HOWN.out.2 with ⟨_, h0⟩ | ⟨g, cap, cur, h2, h3, h4, h5⟩
    · exact ⟨w.heap.size, by omega, Nat.le_refl _, fun h => by omega⟩
    · simp only [World.size_alloc] at h3
      refine ⟨g, (Array.getElem?_eq_some_iff.1 h4).1, by omega, fun _ => ⟨?_, by omega⟩⟩
      injection h2
  have HFO := FO.of_may hmay
  have hI0 : FIv l o w w.heap.size w1.heap.size (w1.heap.size + 1) A1 c1 [] l o [] (.slice none 0 0) W0 := ⟨fun rest => rfl, HFO, fun _ => rfl, rfl, rfl, rfl, bo, br, bN, how, bF, World.ownsRow_nil _ _ _ _, hgW⟩
  have HST := best_stops 3 (by decide) l o hlen hright hmay.sd (.slice A l.length c) (w1.heap.size + 1 + 1) (w1.heap.size + 1 + 1 + 1) w.heap.size w.heap.size w1.heap.size (w1.heap.size + 1) gN (by omega) (by omega) (by omega) (by omega) w W0 hgW (Nat.le_refl _) hl (by omega) (by omega) (by omega) (by omega) (by omega) bL bO2
  refine (wpIn_wide (n := 4)).1 ?_
  refine wpIn_rangeFunc_ownH rfl (by decide) (gf := 63) (lb := #[.pointer (some ⟨w1.heap.size + 1 + 1, 0, none⟩), .pointer (some ⟨w1.heap.size + 1 + 1 + 1, 0, none⟩)]) rfl trivial (enters_of Try.func63 (by kernel_rfl) rfl)
    HST KpF.trans ?kb (Below.refl _ _) (fun _ => rfl)
    (Iv l o w w.heap.size w1.heap.size (w1.heap.size + 1) A1 c1)
    (Ixv l o w w.heap.size w1.heap.size (w1.heap.size + 1) A1 c1)
    (FIv.own (by omega)) ?ix ⟨l, o, [], _, hI0⟩
    (fun (x : OJ.Met l o) a' W => ∃ Bb, Bx W Bb (eo l x.1) ∧ w1.heap.size + 1 < Bb ∧ a' = { tmps := #[.slice A l.length c, .agg #[.bool o.used, .int .i64 o.label, .int .i64 o.who, .int .i64 o.side, .int .i64 o.base, .int .i64 o.quote, .int .u64 (o.price : Int), .int .u64 (o.left : Int), .int .u64 (o.res : Int), .int .i64 o.seq], undef, .pointer (some ⟨w.heap.size, 0, none⟩), .slice none 0 0, .slice none 0 0, .pointer (some ⟨w.heap.size + 1, 0, none⟩), .pointer (some ⟨w1.heap.size, 0, none⟩), .pointer (some ⟨w1.heap.size + 1, 0, none⟩), .int .i64 ((x.1 : Nat) : Int), .pointer (some ⟨Bb, 0, none⟩), undef, .slice A l.length c, .slice A1 l.length c1, .slice A l.length c, .agg #[.bool o.used, .int .i64 o.label, .int .i64 o.who, .int .i64 o.side, .int .i64 o.base, .int .i64 o.quote, .int .u64 (o.price : Int), .int .u64 (o.left : Int), .int .u64 (o.res : Int), .int .i64 o.seq], .func (.func 63) #[] #[.pointer (some ⟨w1.heap.size + 1 + 1, 0, none⟩), .pointer (some ⟨w1.heap.size + 1 + 1 + 1, 0, none⟩)], .int .i64 ((x.1 : Nat) : Int), orv (eo l x.1), undef, undef, undef, undef, undef, undef, undef, undef, undef, undef, undef, undef, undef, undef, undef, undef, undef, undef, undef, undef, undef, undef, undef, undef, undef, undef, undef, undef, undef, undef, undef, undef, undef, undef, undef, undef, undef, undef, undef, undef], defers := [] })
    ?ax ?assign ?body ?done ?stop
  case kb =>
    rintro W k ob ob' hk hb hc hw
    exact kp_put (by omega) W k ob ob' (by omega) hb hc
  case ix =>
    rintro cd xs X Y row ⟨e, pre, x, e2, now, o', fs, v2, h, h0⟩ hg hr
    exact ⟨e, pre, x, e2, now, o', fs, v2, h.grown (by omega) hg hr, h0⟩
  case ax =>
    rintro x a' _ X Y row ⟨Bb, h1, h2, h3⟩ hg hr
    refine ⟨Bb, (hg.block Bb h1.lt (fun e => ?_)).trans h1, h2, h3⟩
    obtain ⟨_, o2, h4, h5⟩ := hr Bb e.symm
    rw [show X.heap[Bb]? = _ from h1] at h4
    cases h4
    cases h5
  case assign =>
    rintro lp pre x W K ⟨now, o', fs, v2, h⟩ hK
    have hWs := h.bo.lt
    have hWn := h.bf.lt
    unfold orv
    unfold orv at hK
    gi_wp2
    have ga : Grew W (W.alloc (.cells (ocs (eo l x.1)).toArray 26)) := by unfold Grew; exact (Below.refl _ _).alloc (Nat.le_refl _) _
    exact hK _ _ (Stp.grew (B := W0.heap.size) (nB := w1.heap.size) (fB := w1.heap.size + 1) (gN := gN) ga (Nat.le_of_lt hWs)).kf (Stp.grew (B := W0.heap.size) (nB := w1.heap.size) (fB := w1.heap.size + 1) (gN := gN) ga (Nat.le_of_lt hWs)).kp ⟨now, o', fs, v2, h.kept (fun k C t fr hk => keepB hk ga) (Below.mono ga (Nat.le_of_lt hWs))⟩ ⟨W.heap.size, blk_new W _, hWn, rfl⟩
  case body =>
    rintro lp pre x a' W hlp ⟨rr, hrr⟩ ⟨now, o', fs, v2, h⟩ ⟨Bb, hB, hBb, rfl⟩ hlt
    obtain ⟨hxl, hxu, hxm⟩ := (met_mem l o x.1).1 x.2
    have hy := right_at hright _ hxu
    have hyw : WfO (eo l x.1) := hwf _ (List.mem_of_getElem? (eo_get hxl))
    obtain ⟨hgn, hgn2⟩ := hgN3 (by omega)
    subst hgn
    have hm2 : meetsP o' (eo l x.1) = true := by rw [h.same]; exact hxm
    have hR0 : Rd w.heap.size w1.heap.size (w1.heap.size + 1) gN Bb W0.heap.size l c1 (eo l x.1) now o' fs v2 W W := ⟨h.bo, h.br, h.bn, hB, h.ow, h.bf, h.off, Stp.refl _ _ _ _ _ _⟩
    have HR0 := Lib.hid hR0
    have HH := Lib.hid h
    have HLT := Lib.hid hlt
    have HNX : Hid (o'.left ≠ 0 → ∀ act v3 W', Rd w.heap.size w1.heap.size (w1.heap.size + 1) gN Bb W0.heap.size l c1 (eo l x.1) (nowP l now o' x.1) (ordP l o' x.1) (fs ++ [filP l o' x.1]) v3 W W' → ownPostG W0.heap.size (KpF w.heap.size w.heap.size w1.heap.size (w1.heap.size + 1) gN) (Iv l o w w.heap.size w1.heap.size (w1.heap.size + 1) (some ⟨gN, 0, none⟩) c1) (Ixv l o w w.heap.size w1.heap.size (w1.heap.size + 1) (some ⟨gN, 0, none⟩) c1) (pre ++ [x]) W .normal act W') := Lib.hid fun h0 act v3 W' hR =>
      ⟨hR.st.kf, hR.st.kp, _, _, _, _, h.next x h0 hy hxm hR.bo hR.br hR.bn hR.ow hR.bf hR.off hR.st.kp.below⟩
    have HEX : Hid (o'.left = 0 → Ixv l o w w.heap.size w1.heap.size (w1.heap.size + 1) (some ⟨gN, 0, none⟩) c1 (.exit 0) (pre ++ [x]) W) := Lib.hid fun h0 => ⟨rfl, pre, x, rfl, now, o', fs, v2, h, h0⟩
    obtain ⟨c0, c1', c2, c3, c4, c5, c6, c7, c8, c9⟩ := h.bo.cells
    obtain ⟨d0, d1, d2, d3, d4, d5, d6, d7, d8, d9⟩ := hB.cells
    have cn := h.bn.cell
    have cf := h.bf.cell
    have hfo := h.fo
    have hfl := h.fl
    have hpr := h.price
    have hnl := h.len
    have hwB : w.heap.size < w1.heap.size := by omega
    have hszW := h.bo.lt
    have hszn := h.bn.lt
    clear HBE HCL HBO HBR HST g0 hI0 G1 G2 h hB hR0 hsz
    unfold orv
    by_cases h0 : o'.left = 0
    · have hmz := min_cast o'.left (eo l x.1).left 0 (by rw [h0]; exact Nat.zero_min _)
      have HE := Lib.hid (HEX.out h0)
      clear HNX HEX h0 hy hxm hm2 hfo
      gi_wp2
      exact ⟨KeepsFrom.refl _ _, HE.out⟩
    · have hst := hfo.step hy hm2 h0
      have hnx := HNX.out h0
      have hso : SzO o' := ⟨by rw [hpr]; exact ho.1, by have := hfo.le; unfold top at this; omega, by have := hfo.rl; unfold top at this; omega⟩
      have HL2 := Lib.hid (fun W => less_any o' (min o'.left (eo l x.1).left) (eo l x.1).price W hso hyw.1.1 (Nat.min_le_left _ _) hfo.sd hst.n0 hy.p0 hst.nt hst.gv)
      have HL1 := Lib.hid (fun W => less_any (eo l x.1) (min o'.left (eo l x.1).left) (eo l x.1).price W hyw.1 hyw.1.1 (Nat.min_le_right _ _) hy.sd hst.n0 hy.p0 hst.nt hst.gx)
      have hmn0 := hst.n0
      by_cases h1 : o'.left < (eo l x.1).left
      · have hmn : min o'.left (eo l x.1).left = o'.left := Nat.min_eq_left (by omega)
        have hNOW : nowP l now o' x.1 = now.set x.1 (lessP (eo l x.1) o'.left (eo l x.1).price) := by unfold nowP; rw [if_pos h1]
        have hFIL : filP l o' x.1 = ⟨(x.1 : Int), o'.left, (eo l x.1).price⟩ := by unfold filP; rw [hmn]
        have hORD : ordP l o' x.1 = lessP o' o'.left (eo l x.1).price := by unfold ordP; rw [hmn]
        rw [hNOW, hFIL, hORD] at hnx
        rw [hmn] at HL2 HL1 hmn0
        have hmz := min_cast o'.left (eo l x.1).left _ hmn
        have HNX2 := Lib.hid hnx
        obtain ⟨lv, hlv⟩ : ∃ lv, orv (lessP o' o'.left (eo l x.1).price) = lv := ⟨_, rfl⟩
        obtain ⟨lw, hlw⟩ : ∃ lw, orv (lessP (eo l x.1) o'.left (eo l x.1).price) = lw := ⟨_, rfl⟩
        rw [hlv] at HL2
        rw [hlw] at HL1
        have HLV := Lib.hid hlv
        have HLW := Lib.hid hlw
        have HNL := Lib.hid hnl
        have HXL := Lib.hid hxl
        have HGN : Hid (gN < w1.heap.size ∧ gN < w1.heap.size + 1 ∧ w.heap.size + 1 < gN ∧ gN < Bb) := Lib.hid ⟨by omega, by omega, by omega, by omega⟩
        have HFL : Hid ((fs.length + 1) * 24 ≤ 140737488355328) := Lib.hid (by rw [hfl]; omega)
        have hx0 : ¬ ((x.1 : Int) < 0) := by omega
        have hx1 : ((x.1 : Nat) : Int) < (l.length : Int) := by omega
        have hmq : ((o'.left : Int) == 0) = false := by simp; omega
        have hmq2 : (((o'.left : Nat) : Int) == (((eo l x.1).left : Nat) : Int)) = false := by simp; omega
        unfold orv at HL2 HL1
        clear hpr hfl hnl HNX HEX h0 h1 hy hxm hxu hxl hm2 hfo hst hnx hso hmn hNOW hFIL hORD hlv hlw hyw hmn0
        generalize hyy : eo l x.1 = y at *
        clear hyy
        obtain ⟨PS, hPS⟩ : ∃ PS : World → Prop, PS = fun W1 => Rd w.heap.size w1.heap.size (w1.heap.size + 1) gN Bb W0.heap.size l c1 y (now.set x.1 (lessP y o'.left y.price)) o' fs v2 W W1 := ⟨_, rfl⟩
        have HPS := Lib.hid hPS
        clear hPS
        gi_wp2
        refine region_round (JM W [0, 1, 2, 3, 4, 5, 6, 7] 8 PS) (fun _ _ => True) _ (by kernel_rfl) (by kernel_rfl) (fun _ _ h => h) (by kernel_rfl) (JM.start _ _ _ _) ?_
        apply Marks.Lex.exact [] _ (by kernel_rfl)
        · intro m u W' hm hcl hJ _
          obtain ⟨hC, _⟩ := hJ.get 0 (by decide) hm
          have jcn := cellB hC cn
          unfold Marks.one
          go_simp
          exact ⟨trivial, hJ.keep 0 (by decide) (by decide) hm _ (Grew.refl _), rfl⟩
        simp only [Act.put, List.setIfInBounds_toArray, List.set_cons_zero, List.set_cons_succ, Nat.zero_add]
        apply Marks.Lex.exact [] _ (by kernel_rfl)
        · intro m u W' hm hcl hJ _
          obtain ⟨hC, _⟩ := hJ.get 1 (by decide) hm
          unfold Marks.one
          go_simp
          exact ⟨trivial, hJ.keep 1 (by decide) (by decide) hm _ (Grew.refl _), rfl⟩
        simp only [Act.put, List.setIfInBounds_toArray, List.set_cons_zero, List.set_cons_succ, Nat.reduceAdd]
        apply Marks.Lex.exact [] _ (by kernel_rfl)
        · intro m u W' hm hcl hJ _
          obtain ⟨hC, _⟩ := hJ.get 2 (by decide) hm
          have jd0 := cellB hC d0
          have jd1 := cellB hC d1
          have jd2 := cellB hC d2
          have jd3 := cellB hC d3
          have jd4 := cellB hC d4
          have jd5 := cellB hC d5
          have jd6 := cellB hC d6
          have jd7 := cellB hC d7
          have jd8 := cellB hC d8
          have jd9 := cellB hC d9
          unfold Marks.one
          go_simp
          exact ⟨trivial, hJ.keep 2 (by decide) (by decide) hm _ (Grew.refl _), rfl⟩
        simp only [Act.put, List.setIfInBounds_toArray, List.set_cons_zero, List.set_cons_succ, Nat.reduceAdd]
        apply Marks.Lex.exact [] _ (by kernel_rfl)
        · intro m u W' hm hcl hJ _
          obtain ⟨hC, _⟩ := hJ.get 3 (by decide) hm
          unfold Marks.one
          go_simp
          exact ⟨trivial, hJ.keep 3 (by decide) (by decide) hm _ (Grew.refl _), rfl⟩
        simp only [Act.put, List.setIfInBounds_toArray, List.set_cons_zero, List.set_cons_succ, Nat.reduceAdd]
        apply Marks.Lex.exact [] _ (by kernel_rfl)
        · intro m u W' hm hcl hJ _
          obtain ⟨hC, _⟩ := hJ.get 4 (by decide) hm
          unfold Marks.one
          go_simp
          exact ⟨trivial, hJ.keep 4 (by decide) (by decide) hm _ (Grew.refl _), rfl⟩
        simp only [Act.put, List.setIfInBounds_toArray, List.set_cons_zero, List.set_cons_succ, Nat.reduceAdd]
        apply Marks.Lex.exact [] _ (by kernel_rfl)
        · intro m u W' hm hcl hJ _
          obtain ⟨hC, _⟩ := hJ.get 5 (by decide) hm
          have jd6 := cellB hC d6
          unfold Marks.one
          go_simp
          exact ⟨trivial, hJ.keep 5 (by decide) (by decide) hm _ (Grew.refl _), rfl⟩
        simp only [Act.put, List.setIfInBounds_toArray, List.set_cons_zero, List.set_cons_succ, Nat.reduceAdd]
        apply Marks.Lex.exact [] lw (by kernel_rfl)
        · intro m u W' hm hcl hJ _
          unfold Marks.one
          go_simp
          exact ((HL1.out W').mono fun e w' ⟨he, hg⟩ => ⟨_, he, trivial, hJ.keep 6 (by decide) (by decide) hm _ hg, rfl⟩)
        simp only [Act.put, List.setIfInBounds_toArray, List.set_cons_zero, List.set_cons_succ, Nat.reduceAdd]
        apply Marks.Lex.exact [] _ (by kernel_rfl)
        · intro m u W' hm hcl hJ _
          obtain ⟨hC, _⟩ := hJ.get 7 (by decide) hm
          unfold Marks.one
          go_simp
          exact ⟨trivial, hJ.keep 7 (by decide) (by decide) hm _ (Grew.refl _), rfl⟩
        simp only [Act.put, List.setIfInBounds_toArray, List.set_cons_zero, List.set_cons_succ, Nat.reduceAdd]
        apply Marks.Lex.exact [] undef (by kernel_rfl)
        · intro m u W' hm hcl hJ _
          have hC := hJ.a hm
          obtain ⟨W1, hst1, how1, hgr1⟩ := own_store (HR0.out.grew hC).ow HNL.out.symm (k := x.1) (by rw [HNL.out]; exact HXL.out) (lessP y o'.left y.price)
          rw [HLW.out] at hst1
          exact one_store rfl 26 (.tmp 32) (.tmp 31) rfl _ _ rfl rfl W1 hst1 ⟨trivial, hJ.last _ (by decide) (fun j hj => hcl j (by revert j; decide)) (by rw [HPS.out]; exact (HR0.out.grew hC).setN how1 hgr1 HGN.out.1 HGN.out.2.1 HGN.out.2.2.1 HGN.out.2.2.2), rfl⟩
        simp only [Act.put, Nat.reduceAdd]
        refine Marks.Lex.done fun m u W1 hm hJ _ => ?_
        have hps := (hJ.b (hm 8 (by decide))).2
        rw [HPS.out] at hps
        have HR1 := Lib.hid hps
        clear hps
        clear hJ hm c0 c1' c2 c3 c4 c5 c6 c7 c8 c9 d0 d1 d2 d3 d4 d5 d6 d7 d8 d9 cn cf
        obtain ⟨e0, e1, e2, e3, e4, e5, e6, e7, e8, e9⟩ := HR1.out.bo.cells
        obtain ⟨f0, f1, f2, f3, f4, f5, f6, f7, f8, f9⟩ := HR1.out.bb.cells
        gi_wp2_with (first
          | (refine ⟨trivial, (CallsIn.inRound lp (callsIn_wide.2 (HL2.out _))).mono ?_⟩; rintro e W2 ⟨rfl, hg2⟩; obtain ⟨W3, hst3, hb3, hgr3⟩ := (HR1.out.grew hg2).bo.store (lessP o' o'.left y.price); rw [HLV.out] at hst3; have HST3 := Lib.hid hst3; have HR3 := Lib.hid ((HR1.out.grew hg2).setS hb3 hgr3 (by omega) (by omega) (by omega) (by omega)); have cf3 := HR3.out.bf.cell; have cy3 := HR3.out.bb.cells.2.2.2.2.2.2.1; obtain ⟨v3, W4, happ, hof4, hgr4⟩ := fi_app1 W3 w1.heap.size v2 fs ⟨(x.1 : Int), o'.left, y.price⟩ HR3.out.off HFL.out (Nat.le_of_lt HR3.out.bn.lt); have hsl := (Fis.of_own hof4).slice; obtain ⟨n3, hn3⟩ : ∃ n3, (fs ++ [(⟨(x.1 : Int), o'.left, y.price⟩ : Fi)]).length = n3 := ⟨_, rfl⟩; rw [hn3] at hsl; obtain ⟨A3, c3, rfl, _⟩ := hsl; clear hn3; have HAPP := Lib.hid happ; have HR4 := Lib.hid (HR3.out.last hof4 hgr4 (by omega) (by omega) (by omega) (by omega) (by omega)); have cf4 := Boxed.cell (keep_app HR3.out.bf (by decide) HR3.out.off hgr4); have ff4 := Boxed.frozen (keep_app HR3.out.bf (by decide) HR3.out.off hgr4); clear hst3 hb3 hgr3 happ hof4 hgr4 hg2)
          | refine wpListIn_store (by rfl) 26 (.tmp 3) (.tmp 47) (by with_reducible rfl) _ _ (by rfl) (by rfl) _ HST3.out ?_
          | refine wpListIn_app (by rfl) (.tmp 48) (.tmp 54) 39 (by rfl) _ _ (by rfl) (by rfl) _ _ HAPP.out ?_)
        exact HNX2.out _ _ _ HR4.out
      · have hmn : min o'.left (eo l x.1).left = (eo l x.1).left := Nat.min_eq_right (by omega)
        have hNOW : nowP l now o' x.1 = now.set x.1 zor := by unfold nowP; rw [if_neg h1]
        have hFIL : filP l o' x.1 = ⟨(x.1 : Int), (eo l x.1).left, (eo l x.1).price⟩ := by unfold filP; rw [hmn]
        have hORD : ordP l o' x.1 = lessP o' (eo l x.1).left (eo l x.1).price := by unfold ordP; rw [hmn]
        rw [hNOW, hFIL, hORD] at hnx
        rw [hmn] at HL2 hmn0
        have hmz := min_cast o'.left (eo l x.1).left _ hmn
        have HNX2 := Lib.hid hnx
        obtain ⟨W1, hst1, how1, hgr1⟩ := own_store HR0.out.ow hnl.symm (k := x.1) (by omega) zor
        have HR1 := Lib.hid (HR0.out.setN how1 hgr1 (by omega) (by omega) (by omega) (by omega))
        obtain ⟨lv, hlv⟩ : ∃ lv, orv (lessP o' (eo l x.1).left (eo l x.1).price) = lv := ⟨_, rfl⟩
        rw [hlv] at HL2
        have HLV := Lib.hid hlv
        have HST1 := Lib.hid hst1
        have HFL : Hid ((fs.length + 1) * 24 ≤ 140737488355328) := Lib.hid (by rw [hfl]; omega)
        obtain ⟨e0, e1, e2, e3, e4, e5, e6, e7, e8, e9⟩ := HR1.out.bo.cells
        obtain ⟨f0, f1, f2, f3, f4, f5, f6, f7, f8, f9⟩ := HR1.out.bb.cells
        have hx0 : ¬ ((x.1 : Int) < 0) := by omega
        have hx1 : ((x.1 : Nat) : Int) < (l.length : Int) := by omega
        have hmq : (((eo l x.1).left : Int) == 0) = false := by simp; omega
        have hmq2 : ((((eo l x.1).left : Nat) : Int) == (((eo l x.1).left : Nat) : Int)) = true := by simp
        unfold orv zor at HST1
        unfold orv at HL2
        clear hpr hfl hnl HNX HEX HL1 h0 h1 hy hxm hm2 hfo hst hnx hso hmn hNOW hFIL hORD hst1 how1 hgr1 hlv hyw hmn0
        generalize hyy : eo l x.1 = y at *
        have HYY := Lib.hid hyy
        clear hyy
        gi_wp2_with (first
          | refine wpListIn_store (by rfl) 26 (.tmp 42) (.tmp 41) (by with_reducible rfl) _ _ (by rfl) (by rfl) _ HST1.out ?_
          | (refine ⟨trivial, (CallsIn.inRound lp (callsIn_wide.2 (HL2.out _))).mono ?_⟩; rintro e W2 ⟨rfl, hg2⟩; obtain ⟨W3, hst3, hb3, hgr3⟩ := (HR1.out.grew hg2).bo.store (lessP o' y.left y.price); rw [HLV.out] at hst3; have HST3 := Lib.hid hst3; have HR3 := Lib.hid ((HR1.out.grew hg2).setS hb3 hgr3 (by omega) (by omega) (by omega) (by omega)); have cf3 := HR3.out.bf.cell; have cy3 := HR3.out.bb.cells.2.2.2.2.2.2.1; obtain ⟨v3, W4, happ, hof4, hgr4⟩ := fi_app1 W3 w1.heap.size v2 fs ⟨(x.1 : Int), y.left, y.price⟩ HR3.out.off HFL.out (Nat.le_of_lt HR3.out.bn.lt); have hsl := (Fis.of_own hof4).slice; obtain ⟨n3, hn3⟩ : ∃ n3, (fs ++ [(⟨(x.1 : Int), y.left, y.price⟩ : Fi)]).length = n3 := ⟨_, rfl⟩; rw [hn3] at hsl; obtain ⟨A3, c3, rfl, _⟩ := hsl; clear hn3; have HAPP := Lib.hid happ; have HR4 := Lib.hid (HR3.out.last hof4 hgr4 (by omega) (by omega) (by omega) (by omega) (by omega)); have cf4 := Boxed.cell (keep_app HR3.out.bf (by decide) HR3.out.off hgr4); have ff4 := Boxed.frozen (keep_app HR3.out.bf (by decide) HR3.out.off hgr4); clear hst3 hb3 hgr3 happ hof4 hgr4 hg2)
          | refine wpListIn_store (by rfl) 26 (.tmp 3) (.tmp 47) (by with_reducible rfl) _ _ (by rfl) (by rfl) _ HST3.out ?_
          | refine wpListIn_app (by rfl) (.tmp 48) (.tmp 54) 39 (by rfl) _ _ (by rfl) (by rfl) _ _ HAPP.out ?_)
        exact HNX2.out _ _ _ HR4.out
  case done =>
    rintro D ys W hD hS ⟨now, o', fs, v2, h⟩ hK
    have hSX : Srt l o (ys.map (·.1)) := hS
    have hFR : fillP l (ys.map (·.1)) l o [] = (now, fs, o') := by
      have := h.run []
      rw [List.append_nil] at this
      rw [this]
      rfl
    generalize ys.map (·.1) = SX at *
    have cn := h.bn.cell
    have cf := h.bf.cell
    obtain ⟨c0, c1', c2, c3, c4, c5, c6, c7, c8, c9⟩ := h.bo.cells
    have hsl := (Fis.of_own h.off).slice
    obtain ⟨n3, hn3⟩ : ∃ n3, fs.length = n3 := ⟨_, rfl⟩
    rw [hn3] at hsl
    obtain ⟨A3, k3, rfl, _⟩ := hsl
    have HN3 := Lib.hid hn3
    have HH := Lib.hid h
    have HK := Lib.hid hK
    have HD : Hid (w.heap.size + 1 < D) := Lib.hid (by omega)
    have HFR := Lib.hid hFR
    have HSX := Lib.hid hSX
    have HS1 := Lib.hid hs1
    clear HBE HCL HBO HBR HST g0 hI0 G1 G2 h hK hFR hSX hsz hn3 hs1
    obtain ⟨lv, hlv⟩ : ∃ lv, orv o' = lv := ⟨_, rfl⟩
    have HLV := Lib.hid hlv
    clear hlv
    obtain ⟨PS, hPS⟩ : ∃ PS : World → Prop, PS = fun W' => Bx W' (w.heap.size + 1) o' ∧ ∃ Wg, Grew W Wg ∧ Wg.grownBy W' (some (w.heap.size + 1)) := ⟨_, rfl⟩
    have HPS := Lib.hid hPS
    clear hPS
    go_wp2
    refine Marks.wp_region_text (JM W [0, 1, 2] 5 PS) (fun _ _ => True) (by kernel_rfl) (by kernel_rfl) (JM.start _ _ _ _) ?_
    apply Marks.Lex.exact [] _ (by kernel_rfl)
    · intro m u W' hm hcl hJ _
      obtain ⟨hC, _⟩ := hJ.get 0 (by decide) hm
      have jcn := cellB hC cn
      unfold Marks.one
      go_simp
      exact ⟨trivial, hJ.keep 0 (by decide) (by decide) hm _ (Grew.refl _), rfl⟩
    simp only [Act.put, List.setIfInBounds_toArray, List.set_cons_zero, List.set_cons_succ, Nat.zero_add]
    apply Marks.Lex.exact [] _ (by kernel_rfl)
    · intro m u W' hm hcl hJ _
      obtain ⟨hC, _⟩ := hJ.get 1 (by decide) hm
      have jcf := cellB hC cf
      unfold Marks.one
      go_simp
      exact ⟨trivial, hJ.keep 1 (by decide) (by decide) hm _ (Grew.refl _), rfl⟩
    simp only [Act.put, List.setIfInBounds_toArray, List.set_cons_zero, List.set_cons_succ, Nat.reduceAdd]
    apply Marks.Lex.exact [] _ (by kernel_rfl)
    · intro m u W' hm hcl hJ _
      obtain ⟨hC, _⟩ := hJ.get 2 (by decide) hm
      have jc0 := cellB hC c0
      have jc1 := cellB hC c1'
      have jc2 := cellB hC c2
      have jc3 := cellB hC c3
      have jc4 := cellB hC c4
      have jc5 := cellB hC c5
      have jc6 := cellB hC c6
      have jc7 := cellB hC c7
      have jc8 := cellB hC c8
      have jc9 := cellB hC c9
      unfold Marks.one
      go_simp
      exact ⟨trivial, hJ.keep 2 (by decide) (by decide) hm _ (Grew.refl _), rfl⟩
    simp only [Act.put, List.setIfInBounds_toArray, List.set_cons_zero, List.set_cons_succ, Nat.reduceAdd]
    apply Marks.Lex.exact [] _ (by kernel_rfl)
    · intro m u W' hm hcl hJ _
      unfold Marks.one
      go_simp
      exact ⟨trivial, hJ.idle 3 (by decide) _, rfl⟩
    simp only [Act.put, List.setIfInBounds_toArray, List.set_cons_zero, List.set_cons_succ, Nat.reduceAdd]
    apply Marks.Lex.exact [] _ (by kernel_rfl)
    · intro m u W' hm hcl hJ _
      unfold Marks.one
      go_simp
      exact ⟨trivial, hJ.idle 4 (by decide) _, rfl⟩
    simp only [Act.put, List.setIfInBounds_toArray, List.set_cons_zero, List.set_cons_succ, Nat.reduceAdd]
    apply Marks.Lex.exact [] undef (by kernel_rfl)
    · intro m u W' hm hcl hJ _
      have hC := hJ.a hm
      obtain ⟨W1, hst1, hb1, hgr1⟩ := (HH.out.br.grew hC).store o'
      unfold orv at hst1
      exact one_store rfl 26 (.tmp 6) (.tmp 58) rfl _ _ rfl rfl W1 hst1 ⟨trivial, hJ.last _ (by decide) (fun j hj => hcl j (by revert j; decide)) (by rw [HPS.out]; exact ⟨hb1, W', hC, hgr1⟩), rfl⟩
    simp only [Act.put, Nat.reduceAdd]
    refine Marks.Lex.done fun m u W1 hm hJ _ => ?_
    have hps := (hJ.b (hm 5 (by decide))).2
    rw [HPS.out] at hps
    obtain ⟨hb1, Wg, hgg, hgr1⟩ := hps
    have hKD : W1.heap[D]? = some (.deferred (some [])) := (hgr1.block D (by have := (Array.getElem?_eq_some_iff.1 (keepB HK.out hgg)).1; exact this) (fun e => by cases e; have := HD.out; omega)).trans (keepB HK.out hgg)
    have hB1 := Lib.hid hb1
    have HG1 := Lib.hid hgg
    have HGR := Lib.hid hgr1
    clear hJ hm c0 c1' c2 c3 c4 c5 c6 c7 c8 c9 cn cf hb1 hgg hgr1
    go_wp2
    refine ⟨by simp, .inl ⟨_, _, rfl, run_takeDeferred hKD, ?_⟩⟩
    have hbp : Bx (W1.putObj D (.deferred none)) (w.heap.size + 1) o' := ((grownBy_putObj' W1 D _).block _ hB1.out.lt (fun e => by cases e; have := HD.out; omega)).trans hB1.out
    obtain ⟨e0, e1, e2, e3, e4, e5, e6, e7, e8, e9⟩ := hbp.cells
    have hkk : ∀ {k : Nat} {C : Array Value} {t : TypeId} {fr : Nat × Nat}, W.heap[k]? = some (.cells C t fr) → k ≠ w.heap.size + 1 → (W1.putObj D (.deferred none)).heap[k]? = some (.cells C t fr) := fun {k C t fr} hk hne => by
      have h1 := box_kept (keepB hk HG1.out) HGR.out hne
      refine ((grownBy_putObj' W1 D _).block _ (Array.getElem?_eq_some_iff.1 h1).1 (fun e => ?_)).trans h1
      cases e
      rw [hKD] at h1
      cases h1
    refine ⟨.tuple #[.slice A1 l.length c1, .slice A3 n3 k3, .agg #[.bool o'.used, .int .i64 o'.label, .int .i64 o'.who, .int .i64 o'.side, .int .i64 o'.base, .int .i64 o'.quote, .int .u64 (o'.price : Int), .int .u64 (o'.left : Int), .int .u64 (o'.res : Int), .int .i64 o'.seq]], by simp [results, Try.results46, go_sem, e0, e1, e2, e3, e4, e5, e6, e7, e8, e9], SX, .slice A1 l.length c1, .slice A3 n3 k3, HSX.out, ?_, ?_, ?_, ?_⟩
    · rw [HFR.out]
    · rw [HFR.out]
      refine Ors.of_own (base := w.heap.size + 2) (ownO_kept HH.out.ow (fun g e => ?_))
      rcases HH.out.ow.2 with ⟨e2, _⟩ | ⟨g', cap, cur, e2, h2, h3, h4⟩
      · injection e2 with e3 _ _
        rw [e] at e3
        cases e3
      · injection e2 with e3 _ _
        rw [e] at e3
        injection e3 with e3
        injection e3 with e3
        subst e3
        rw [hkk h3 (by omega), h3]
    · rw [HFR.out]
      exact Fis.of_own (ownF_kept HH.out.off (fun g C hb hC => hkk hC (by have := HS1.out; omega)))
    · have hle : w.heap.size ≤ W.heap.size := Nat.le_of_lt HH.out.bo.lt
      have h1 : Below w.heap.size w W1 := (HH.out.gr.trans (Below.mono HG1.out hle)).grown HGR.out (Nat.le_trans hle HG1.out.size) (fun j e => by cases e; omega)
      exact h1.grown (grownBy_putObj' W1 D _) h1.size (fun j e => by cases e; have := HD.out; omega)
  case stop =>
    rintro D cd pre W hD ⟨S, hS, hpre⟩ ⟨rfl, pre', x, e, now, o', fs, v2, h, h0⟩ hK
    obtain ⟨rest, hrest⟩ := hpre
    have hSX : Srt l o (S.map (·.1)) := hS
    have hFR : fillP l (S.map (·.1)) l o [] = (now, fs, o') := by
      rw [← hrest, e, List.append_assoc, List.map_append]
      have := h.run (x.1 :: rest.map (·.1))
      rw [show (([x] ++ rest).map (·.1) : List Nat) = x.1 :: rest.map (·.1) from rfl, this]
      show (if o'.left = 0 then _ else _) = _
      rw [if_pos h0]
    generalize S.map (·.1) = SX at *
    clear hrest e h0
    have cn := h.bn.cell
    have cf := h.bf.cell
    obtain ⟨c0, c1', c2, c3, c4, c5, c6, c7, c8, c9⟩ := h.bo.cells
    have hsl := (Fis.of_own h.off).slice
    obtain ⟨n3, hn3⟩ : ∃ n3, fs.length = n3 := ⟨_, rfl⟩
    rw [hn3] at hsl
    obtain ⟨A3, k3, rfl, _⟩ := hsl
    have HN3 := Lib.hid hn3
    have HH := Lib.hid h
    have HK := Lib.hid hK
    have HD : Hid (w.heap.size + 1 < D) := Lib.hid (by omega)
    have HFR := Lib.hid hFR
    have HSX := Lib.hid hSX
    have HS1 := Lib.hid hs1
    clear HBE HCL HBO HBR HST g0 hI0 G1 G2 h hK hFR hSX hsz hn3 hs1
    obtain ⟨lv, hlv⟩ : ∃ lv, orv o' = lv := ⟨_, rfl⟩
    have HLV := Lib.hid hlv
    clear hlv
    obtain ⟨PS, hPS⟩ : ∃ PS : World → Prop, PS = fun W' => Bx W' (w.heap.size + 1) o' ∧ ∃ Wg, Grew W Wg ∧ Wg.grownBy W' (some (w.heap.size + 1)) := ⟨_, rfl⟩
    have HPS := Lib.hid hPS
    clear hPS
    refine wpIn_wide.2 ?_
    go_wp2
    refine Marks.wp_region_text (JM W [0, 1, 2] 5 PS) (fun _ _ => True) (by kernel_rfl) (by kernel_rfl) (JM.start _ _ _ _) ?_
    apply Marks.Lex.exact [] _ (by kernel_rfl)
    · intro m u W' hm hcl hJ _
      obtain ⟨hC, _⟩ := hJ.get 0 (by decide) hm
      have jcn := cellB hC cn
      unfold Marks.one
      go_simp
      exact ⟨trivial, hJ.keep 0 (by decide) (by decide) hm _ (Grew.refl _), rfl⟩
    simp only [Act.put, List.setIfInBounds_toArray, List.set_cons_zero, List.set_cons_succ, Nat.zero_add]
    apply Marks.Lex.exact [] _ (by kernel_rfl)
    · intro m u W' hm hcl hJ _
      obtain ⟨hC, _⟩ := hJ.get 1 (by decide) hm
      have jcf := cellB hC cf
      unfold Marks.one
      go_simp
      exact ⟨trivial, hJ.keep 1 (by decide) (by decide) hm _ (Grew.refl _), rfl⟩
    simp only [Act.put, List.setIfInBounds_toArray, List.set_cons_zero, List.set_cons_succ, Nat.reduceAdd]
    apply Marks.Lex.exact [] _ (by kernel_rfl)
    · intro m u W' hm hcl hJ _
      obtain ⟨hC, _⟩ := hJ.get 2 (by decide) hm
      have jc0 := cellB hC c0
      have jc1 := cellB hC c1'
      have jc2 := cellB hC c2
      have jc3 := cellB hC c3
      have jc4 := cellB hC c4
      have jc5 := cellB hC c5
      have jc6 := cellB hC c6
      have jc7 := cellB hC c7
      have jc8 := cellB hC c8
      have jc9 := cellB hC c9
      unfold Marks.one
      go_simp
      exact ⟨trivial, hJ.keep 2 (by decide) (by decide) hm _ (Grew.refl _), rfl⟩
    simp only [Act.put, List.setIfInBounds_toArray, List.set_cons_zero, List.set_cons_succ, Nat.reduceAdd]
    apply Marks.Lex.exact [] _ (by kernel_rfl)
    · intro m u W' hm hcl hJ _
      unfold Marks.one
      go_simp
      exact ⟨trivial, hJ.idle 3 (by decide) _, rfl⟩
    simp only [Act.put, List.setIfInBounds_toArray, List.set_cons_zero, List.set_cons_succ, Nat.reduceAdd]
    apply Marks.Lex.exact [] _ (by kernel_rfl)
    · intro m u W' hm hcl hJ _
      unfold Marks.one
      go_simp
      exact ⟨trivial, hJ.idle 4 (by decide) _, rfl⟩
    simp only [Act.put, List.setIfInBounds_toArray, List.set_cons_zero, List.set_cons_succ, Nat.reduceAdd]
    apply Marks.Lex.exact [] undef (by kernel_rfl)
    · intro m u W' hm hcl hJ _
      have hC := hJ.a hm
      obtain ⟨W1, hst1, hb1, hgr1⟩ := (HH.out.br.grew hC).store o'
      unfold orv at hst1
      exact one_store rfl 26 (.tmp 6) (.tmp 58) rfl _ _ rfl rfl W1 hst1 ⟨trivial, hJ.last _ (by decide) (fun j hj => hcl j (by revert j; decide)) (by rw [HPS.out]; exact ⟨hb1, W', hC, hgr1⟩), rfl⟩
    simp only [Act.put, Nat.reduceAdd]
    refine Marks.Lex.done fun m u W1 hm hJ _ => ?_
    have hps := (hJ.b (hm 5 (by decide))).2
    rw [HPS.out] at hps
    obtain ⟨hb1, Wg, hgg, hgr1⟩ := hps
    have hKD : W1.heap[D]? = some (.deferred (some [])) := (hgr1.block D (by have := (Array.getElem?_eq_some_iff.1 (keepB HK.out hgg)).1; exact this) (fun e => by cases e; have := HD.out; omega)).trans (keepB HK.out hgg)
    have hB1 := Lib.hid hb1
    have HG1 := Lib.hid hgg
    have HGR := Lib.hid hgr1
    clear hJ hm c0 c1' c2 c3 c4 c5 c6 c7 c8 c9 cn cf hb1 hgg hgr1
    go_wp2
    refine ⟨by simp, .inl ⟨_, _, rfl, run_takeDeferred hKD, ?_⟩⟩
    have hbp : Bx (W1.putObj D (.deferred none)) (w.heap.size + 1) o' := ((grownBy_putObj' W1 D _).block _ hB1.out.lt (fun e => by cases e; have := HD.out; omega)).trans hB1.out
    obtain ⟨e0, e1, e2, e3, e4, e5, e6, e7, e8, e9⟩ := hbp.cells
    have hkk : ∀ {k : Nat} {C : Array Value} {t : TypeId} {fr : Nat × Nat}, W.heap[k]? = some (.cells C t fr) → k ≠ w.heap.size + 1 → (W1.putObj D (.deferred none)).heap[k]? = some (.cells C t fr) := fun {k C t fr} hk hne => by
      have h1 := box_kept (keepB hk HG1.out) HGR.out hne
      refine ((grownBy_putObj' W1 D _).block _ (Array.getElem?_eq_some_iff.1 h1).1 (fun e => ?_)).trans h1
      cases e
      rw [hKD] at h1
      cases h1
    refine ⟨.tuple #[.slice A1 l.length c1, .slice A3 n3 k3, .agg #[.bool o'.used, .int .i64 o'.label, .int .i64 o'.who, .int .i64 o'.side, .int .i64 o'.base, .int .i64 o'.quote, .int .u64 (o'.price : Int), .int .u64 (o'.left : Int), .int .u64 (o'.res : Int), .int .i64 o'.seq]], by simp [results, Try.results46, go_sem, e0, e1, e2, e3, e4, e5, e6, e7, e8, e9], SX, .slice A1 l.length c1, .slice A3 n3 k3, HSX.out, ?_, ?_, ?_, ?_⟩
    · rw [HFR.out]
    · rw [HFR.out]
      refine Ors.of_own (base := w.heap.size + 2) (ownO_kept HH.out.ow (fun g e => ?_))
      rcases HH.out.ow.2 with ⟨e2, _⟩ | ⟨g', cap, cur, e2, h2, h3, h4⟩
      · injection e2 with e3 _ _
        rw [e] at e3
        cases e3
      · injection e2 with e3 _ _
        rw [e] at e3
        injection e3 with e3
        injection e3 with e3
        subst e3
        rw [hkk h3 (by omega), h3]
    · rw [HFR.out]
      exact Fis.of_own (ownF_kept HH.out.off (fun g C hb hC => hkk hC (by have := HS1.out; omega)))
    · have hle : w.heap.size ≤ W.heap.size := Nat.le_of_lt HH.out.bo.lt
      have h1 : Below w.heap.size w W1 := (HH.out.gr.trans (Below.mono HG1.out hle)).grown HGR.out (Nat.le_trans hle HG1.out.size) (fun j e => by cases e; omega)
      exact h1.grown (grownBy_putObj' W1 D _) h1.size (fun j e => by cases e; have := HD.out; omega)
end Go.Proofs.Ytmnfajplfnfgpaa.OL
