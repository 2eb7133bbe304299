/-
  Rows of what a line is told; whether two are the same.
  Conditions: those that each lemma names.
-/
import Derived.Test.YthgigkklefaeeaaRH
import Derived.Test.YthgigkklefaeeaaFV
namespace Go.Proofs.Ythgigkklefaeeaa.RI
set_option maxRecDepth 100000
open Go Go.RowKit Go.Lib Go.Proofs.Ythgigkklefaeeaa Go.Proofs.Ythgigkklefaeeaa.Facts Go.Proofs.Ythgigkklefaeeaa.Bytes Go.Proofs.Ythgigkklefaeeaa.Puts Go.Proofs.Ythgigkklefaeeaa.Scan Go.Proofs.Ythgigkklefaeeaa.Take Go.Proofs.Ythgigkklefaeeaa.Nums Go.Proofs.Ythgigkklefaeeaa.SumPure Go.Proofs.Ythgigkklefaeeaa.Sum Go.Proofs.Ythgigkklefaeeaa.FP Go.Proofs.Ythgigkklefaeeaa.FW Go.Proofs.Ythgigkklefaeeaa.FX Go.Proofs.Ythgigkklefaeeaa.Ints Go.Proofs.Ythgigkklefaeeaa.PA Go.Proofs.Ythgigkklefaeeaa.RA Go.Proofs.Ythgigkklefaeeaa.RC Go.Proofs.Ythgigkklefaeeaa.RD Go.Proofs.Ythgigkklefaeeaa.RE Go.Proofs.Ythgigkklefaeeaa.RF Go.Proofs.Ythgigkklefaeeaa.RG Go.Proofs.Ythgigkklefaeeaa.RH Go.Proofs.Ythgigkklefaeeaa.FS

abbrev Oq := Ou × Option Addr × Nat
def ocs (q : Oq) : List Value := [.int .i64 q.1.k, .int .i64 q.1.o, .int .i64 q.1.e, .slice q.2.1 q.1.d.length q.2.2]
theorem ocs_one (q : Oq) : ∀ u ∈ ocs q, u.oneCell' = true := fun u hu => by
  simp only [ocs, List.mem_cons, List.not_mem_nil, or_false] at hu
  rcases hu with rfl | rfl | rfl | rfl <;> rfl
theorem info25 : (Try.prog.info? 25).map (fun i => (i.zero, i.size, i.bytes)) = some (some (.agg #[.int .i64 0, .int .i64 0, .int .i64 0, .slice none 0 0]), 4, 48) := by kernel_rfl
/-- A row of the call's own of what a line is told. -/
def OS (base : Nat) (w : World) (v : Value) (l : List Ou) : Prop := ∃ L : List Oq, L.map (·.1) = l ∧ w.ownsRow base 25 4 v L.length (L.flatMap ocs) ∧ ∀ q ∈ L, Rd (fun b => b < w.heap.size ∧ v.ownBlock ≠ some b) w (.slice q.2.1 q.1.d.length q.2.2) q.1.d
theorem OS.nil (base : Nat) (w : World) : OS base w (.slice none 0 0) [] := ⟨[], rfl, World.ownsRow_nil _ _ _ _, fun q h => by cases h⟩
theorem OS.grew {base : Nat} {w w' : World} {v : Value} {l : List Ou} (h : OS base w v l) (hg : Grew w w') : OS base w' v l := by
  obtain ⟨L, h1, h2, h3⟩ := h
  exact ⟨L, h1, own_grew h2 hg, fun q hq => ((h3 q hq).grew hg).mono fun b hb => ⟨Nat.lt_of_lt_of_le hb.1 hg.size, hb.2⟩⟩
theorem OS.len {base : Nat} {w : World} {v : Value} {l : List Ou} (h : OS base w v l) : ∃ A c, v = .slice A l.length c := by
  obtain ⟨L, h1, h2, _⟩ := h
  obtain ⟨A, c, e⟩ := own_sl h2
  exact ⟨A, c, by rw [e, ← h1, List.length_map]⟩
theorem OS.own {base : Nat} {w : World} {v : Value} {l : List Ou} (h : OS base w v l) : ∀ k, v.ownBlock = some k → base ≤ k ∧ k < w.heap.size := fun k hk => by
  obtain ⟨L, _, ho, _⟩ := h
  rcases ho.2 with ⟨rfl, _⟩ | ⟨g2, cap, cur, rfl, hb, hg2, _⟩
  · cases hk
  · simp [Value.ownBlock] at hk
    subst hk
    exact ⟨hb, (Array.getElem?_eq_some_iff.1 hg2).1⟩
theorem OS.base {base b2 : Nat} {w : World} {v : Value} {l : List Ou} (h : OS base w v l) (hb : b2 ≤ base) : OS b2 w v l := by
  obtain ⟨L, h1, h2, h3⟩ := h
  refine ⟨L, h1, ⟨h2.1, ?_⟩, h3⟩
  rcases h2.2 with h4 | ⟨g, cap, cur, rfl, hq, hg, h4⟩
  · exact .inl h4
  · exact .inr ⟨g, cap, cur, rfl, Nat.le_trans hb hq, hg, h4⟩
theorem OS.keep {base : Nat} {w w' : World} {v : Value} {l : List Ou} {r : Option Nat} (h : OS base w v l) (hg : w.grownBy w' r) (hr : ∀ k, v.ownBlock = some k → r ≠ some k) (hd : ∀ q : List UInt8, ∀ y, Rd (fun b => b < w.heap.size ∧ v.ownBlock ≠ some b) w y q → Rd (fun b => b < w.heap.size ∧ v.ownBlock ≠ some b) w' y q) : OS base w' v l := by
  obtain ⟨L, h1, h2, h3⟩ := h
  refine ⟨L, h1, ?_, fun q hq => (hd _ _ (h3 q hq)).mono fun b hb => ⟨Nat.lt_of_lt_of_le hb.1 hg.size, hb.2⟩⟩
  refine ⟨h2.1, h2.2.imp id fun ⟨g, cap, cur, q1, q2, q3, q4⟩ => ⟨g, cap, cur, q1, q2, ?_, q4⟩⟩
  rw [hg.block g (Array.getElem?_eq_some_iff.1 q3).1 (Ne.symm (hr g (by rw [q1]; rfl)))]
  exact q3
/-- One is put behind. -/
theorem os_app (w : World) (base : Nat) (v : Value) (l : List Ou) (x : Ou) (A : Option Addr) (c : Nat) (S : Nat → Prop) (h : OS base w v l) (hr : Rd S w (.slice A x.d.length c) x.d) (hS : ∀ b, S b → v.ownBlock ≠ some b) (hl : l.length ≤ 1073741824) (hbs : base ≤ w.heap.size) :
    ∃ A' c' W', (Builtin.append_ #[31, 31] 31 #[v, .slice (some ⟨w.heap.size, 0, none⟩) 1 1]).run Try.prog (w.alloc (.cells #[.int .i64 x.k, .int .i64 x.o, .int .i64 x.e, .slice A x.d.length c] 25)) = .ok (.slice A' (l ++ [x]).length c') W' ∧ OS base W' (.slice A' (l ++ [x]).length c') (l ++ [x]) ∧ Below base w W' ∧ (w.alloc (.cells #[.int .i64 x.k, .int .i64 x.o, .int .i64 x.e, .slice A x.d.length c] 25)).grownBy W' v.ownBlock := by
  have hob0 := h.own
  obtain ⟨L, rfl, hown, hel⟩ := h
  obtain ⟨i, hi, hxx⟩ := Option.map_eq_some_iff.1 info25
  simp only [Prod.mk.injEq] at hxx
  obtain ⟨hz0, hz1, hz2⟩ := hxx
  obtain ⟨wn, hwn⟩ : ∃ wn, w.alloc (.cells #[.int .i64 x.k, .int .i64 x.o, .int .i64 x.e, .slice A x.d.length c] 25) = wn := ⟨_, rfl⟩
  have hgn : Grew w wn := by rw [← hwn]; exact (Below.refl _ _).alloc (Nat.le_refl _) _
  have hcells : ∀ j u, (ocs (x, A, c))[j]? = some u → wn.cell? ((⟨w.heap.size, 0, none⟩ : Addr).add j) = some u := fun j u hu => by
    have hn := heap_alloc_new w (.cells #[.int .i64 x.k, .int .i64 x.o, .int .i64 x.e, .slice A x.d.length c] 25)
    rw [hwn] at hn
    rw [Addr.add_lit, cell_of_row _ _ _ _ _ _ hn]
    simpa [ocs] using hu
  have hwsz : wn.heap.size = w.heap.size + 1 := by rw [← hwn]; simp
  rw [hwn]
  have hll : L.length ≤ 1073741824 := by simpa using hl
  obtain ⟨v', W', hrun, hown2, hgb, _, hob⟩ := run_append_own_at (P := Try.prog) wn base 31 31 25 i (.agg #[.int .i64 0, .int .i64 0, .int .i64 0, .slice none 0 0]) 4 48 Try.underlying31 hi hz0 hz1 hz2 rfl (by decide) v L.length (L.flatMap ocs) (own_grew hown hgn) ⟨w.heap.size, 0, none⟩ 1 1 (ocs (x, A, c)) rfl hcells (ocs_one _) (by unfold maxLen; omega) (by omega) (Nat.le_trans hbs hgn.size)
  have hlen : L.length + 1 = (L ++ [(x, A, c)]).length := by simp
  have hfl : L.flatMap ocs ++ ocs (x, A, c) = (L ++ [(x, A, c)]).flatMap ocs := by simp
  rw [hlen, hfl] at hown2
  obtain ⟨A', c', rfl⟩ := own_sl hown2
  have hmove : ∀ (T : Nat → Prop) (y : Value) (z : List UInt8), Rd T w y z → (∀ b, T b → b < w.heap.size → v.ownBlock ≠ some b) → Rd (fun b => b < W'.heap.size ∧ (Value.slice A' (L ++ [(x, A, c)]).length c').ownBlock ≠ some b) W' y z := fun T y z hy hT => by
    have h1 : Rd (fun b => T b ∧ b < w.heap.size) W' y z := hy.lt.keep fun b hb1 hb2 => (hgb.block b (Nat.lt_of_lt_of_le hb1 hgn.size) (fun e => hT b hb2.1 hb2.2 e.symm)).trans (hgn.block b hb1)
    refine h1.mono fun b hb => ⟨Nat.lt_of_lt_of_le hb.2 (Nat.le_trans hgn.size hgb.size), fun e => ?_⟩
    rcases hob with h | h
    · rw [h] at e; exact hT b hb.1 hb.2 e
    · rw [h] at e; injection e with e; have := hb.2; omega
  have hL2 : (L.map (·.1) ++ [x]).length = (L ++ [(x, A, c)]).length := by simp
  rw [hL2]
  refine ⟨A', c', W', hrun, ⟨L ++ [(x, A, c)], by simp, hown2, fun q hq => ?_⟩, ((show Below w.heap.size w wn from hgn).mono hbs).trans (below_of_grown _ hgb (Nat.le_trans hbs hgn.size) fun k hk => (hob0 k hk).1), hgb⟩
  rcases List.mem_append.1 hq with hq | hq
  · exact hmove _ _ _ (hel q hq) fun b hb _ => hb.2
  · simp at hq
    subst hq
    exact hmove S _ _ hr fun b hb _ => hS b hb

/-- A row of what a line is told, as it is read. -/
def ORd (w : World) (v : Value) (l : List Ou) : Prop := ∃ A c, v = .slice A l.length c ∧ ∀ (i : Nat) (x : Ou), l[i]? = some x → ∃ ad A2 c2, A = some ad ∧ w.cell? (ad.add (i * 4)) = some (.int .i64 x.k) ∧ w.cell? ⟨(ad.add (i * 4)).block, (ad.add (i * 4)).off + 1, none⟩ = some (.int .i64 x.o) ∧ w.cell? ⟨(ad.add (i * 4)).block, (ad.add (i * 4)).off + 2, none⟩ = some (.int .i64 x.e) ∧ w.cell? ⟨(ad.add (i * 4)).block, (ad.add (i * 4)).off + 3, none⟩ = some (.slice A2 x.d.length c2) ∧ Rd (fun b => b < w.heap.size) w (.slice A2 x.d.length c2) x.d
theorem ORd.grew {w w' : World} {v : Value} {l : List Ou} (h : ORd w v l) (hg : Grew w w') : ORd w' v l := by
  obtain ⟨A, c, e, h1⟩ := h
  refine ⟨A, c, e, fun i x hx => ?_⟩
  obtain ⟨ad, A2, c2, q0, q1, q2, q3, q4, q5⟩ := h1 i x hx
  exact ⟨ad, A2, c2, q0, RC.cellB hg q1, RC.cellB hg q2, RC.cellB hg q3, RC.cellB hg q4, (q5.grew hg).mono fun b hb => Nat.lt_of_lt_of_le hb hg.size⟩
theorem ORd.of_own {base : Nat} {w : World} {v : Value} {l : List Ou} (h : OS base w v l) : ORd w v l := by
  obtain ⟨L, rfl, ho, he⟩ := h
  obtain ⟨A, c, rfl⟩ := own_sl ho
  refine ⟨A, c, by rw [List.length_map], fun i x hx => ?_⟩
  obtain ⟨q, hq, hqx⟩ : ∃ q, L[i]? = some q ∧ q.1 = x := by
    rw [List.getElem?_map] at hx
    cases hq : L[i]? with
    | none => rw [hq] at hx; cases hx
    | some q => rw [hq] at hx; injection hx with hx; exact ⟨q, rfl, hx⟩
  subst hqx
  have hrw : Rw w (.slice A L.length c) L.length (L.flatMap ocs) := Rw.of_own ho fun h => by rw [List.eq_nil_of_length_eq_zero h]; rfl
  obtain ⟨ad, c', e, _, h0, h1⟩ := Rw.at (f := ocs) (n := 4) (fun _ => rfl) hrw hq (by decide)
  injection e with e1 _ _
  exact ⟨ad, q.2.1, q.2.2, e1, h0 _ rfl, h1 1 _ (by decide) rfl, h1 2 _ (by decide) rfl, h1 3 _ (by decide) rfl, (he q (List.mem_of_getElem? hq)).mono fun b hb => hb.1⟩
set_option maxHeartbeats 2000000 in
theorem same_any (x y : Ou) (A A' : Option Addr) (c c' : Nat) (S S' : Nat → Prop) (w : World) (hx : Rd S w (.slice A x.d.length c) x.d) (hy : Rd S' w (.slice A' y.d.length c') y.d) :
    Calls Try.prog 15 #[ov x A c, ov y A' c'] w fun e w' => e = .returned (.bool (decide (x = y))) ∧ Grew w w' := by
  have g0 : Grew w ((w.alloc (.cells #[.int .i64 x.k, .int .i64 x.o, .int .i64 x.e, .slice A x.d.length c] 25)).alloc (.cells #[.int .i64 y.k, .int .i64 y.o, .int .i64 y.e, .slice A' y.d.length c'] 25)) := by unfold Grew; go_grown
  have C1 := conv22 (hx.grew g0)
  have C2 := conv22 (hy.grew g0)
  have G0 := Lib.hid g0
  have hdec : decide (x = y) = (decide (x.k = y.k) && (decide (x.o = y.o) && (decide (x.e = y.e) && decide (x.d = y.d)))) := by
    cases x
    cases y
    rw [Bool.eq_iff_iff]
    simp [Ou.mk.injEq]
  rw [hdec]
  clear g0 hx hy hdec
  obtain ⟨a0, a1, a2, a3⟩ := x
  obtain ⟨b0, b1, b2, b3⟩ := y
  unfold ov
  simp only at C1 C2 G0 ⊢
  by_cases h0 : a0 = b0
  case neg =>
    have d : (a0 == b0) = false := by simp [h0]
    rw [decide_eq_false h0]
    clear h0
    go_enter Try.func15, Try.ntmps15
    go_wp2
    go_returns
    exact ⟨by simp, G0.out⟩
  subst h0
  rw [decide_eq_true (rfl : a0 = a0)]
  by_cases h1 : a1 = b1
  case neg =>
    have d : (a1 == b1) = false := by simp [h1]
    rw [decide_eq_false h1]
    clear h1
    go_enter Try.func15, Try.ntmps15
    go_wp2
    go_returns
    exact ⟨by simp, G0.out⟩
  subst h1
  rw [decide_eq_true (rfl : a1 = a1)]
  by_cases h2 : a2 = b2
  case neg =>
    have d : (a2 == b2) = false := by simp [h2]
    rw [decide_eq_false h2]
    clear h2
    go_enter Try.func15, Try.ntmps15
    go_wp2
    go_returns
    exact ⟨by simp, G0.out⟩
  subst h2
  rw [decide_eq_true (rfl : a2 = a2)]
  obtain ⟨z3, hz3⟩ : ∃ z3, decide (a3 = b3) = z3 := ⟨_, rfl⟩
  rw [hz3]
  have hz4 : (a3 == b3) = z3 := by
    rw [← hz3, Bool.eq_iff_iff]
    simp
  clear hz3
  cases z3
  all_goals
    go_enter Try.func15, Try.ntmps15
    go_wp2
    go_returns
    exact ⟨rfl, G0.out⟩
theorem take_samO (a b : List Ou) (i : Nat) (h : a.take i = b.take i) (x y : Ou) (hx : a[i]? = some x) (hy : b[i]? = some y) : (a.take (i + 1) = b.take (i + 1)) ↔ x = y := by
  rw [List.take_add_one, List.take_add_one, hx, hy, h]
  simp
set_option maxHeartbeats 4000000 in
theorem sames_any (w : World) (va vb : Value) (a b : List Ou) (ha : ORd w va a) (hb : ORd w vb b) (hl : a.length ≤ 9223372036854775807) :
    Calls Try.prog 16 #[va, vb] w fun e w' => e = .returned (.bool (decide (a = b))) ∧ Grew w w' := by
  have HA := Lib.hid ha
  have HB := Lib.hid hb
  obtain ⟨A, ca, rfl, _⟩ := ha
  obtain ⟨B, cb, rfl, _⟩ := hb
  by_cases hn : a.length = b.length
  · have HN := Lib.hid hn
    have hd : ∃ r, decide (a = b) = r := ⟨_, rfl⟩
    obtain ⟨r, hr⟩ := hd
    rw [hr]
    have HRR := Lib.hid hr
    have hne : ((a.length : Int) != (b.length : Int)) = false := by simp; omega
    clear hr hn
    go_enter Try.func16, Try.ntmps16
    go_wp2
    go_loopg [5] a.length (fun q s2 wx => ∃ (i : Nat), i + q = a.length ∧ s2 = .int .i64 (i : Int) ∧ Hid (Grew w wx) ∧ Hid (a.take i = b.take i))
    case atStart => exact ⟨0, Nat.zero_add _, rfl, Lib.hid (Grew.refl _), Lib.hid rfl⟩
    case round =>
      obtain ⟨i, hiq, rfl, HG, HT⟩ := hrel
      cases gk with
      | zero =>
        have hlt : ¬ ((i : Int) < (a.length : Int)) := by omega
        have he : a = b := by
          have := HT.out
          have h2 := HN.out
          rwa [List.take_of_length_le (by omega), List.take_of_length_le (by omega)] at this
        have hrt : r = true := by rw [← HRR.out]; exact decide_eq_true he
        subst hrt
        have HE := Lib.hid he
        clear he
        go_wp2
        go_returns
        exact ⟨rfl, HG.out⟩
      | succ q =>
        have hlt : (i : Int) < (a.length : Int) := by omega
        have hltb : (i : Int) < (b.length : Int) := by have := HN.out; omega
        obtain ⟨x, hx⟩ : ∃ x, a[i]? = some x := ⟨_, List.getElem?_eq_getElem (by omega)⟩
        obtain ⟨y, hy⟩ : ∃ y, b[i]? = some y := ⟨_, List.getElem?_eq_getElem (by have := HN.out; omega)⟩
        obtain ⟨A', ca', e1, qa⟩ := HA.out.grew HG.out
        injection e1 with e1 _ e3
        subst e1 e3
        obtain ⟨B', cb', e1, qb⟩ := HB.out.grew HG.out
        injection e1 with e1 _ e3
        subst e1 e3
        obtain ⟨ad, A2, c2, rfl, x0, x1, x2, x3, rx⟩ := qa i x hx
        obtain ⟨bd, B2, d2, rfl, y0, y1, y2, y3, ry⟩ := qb i y hy
        have HX : Hid (∀ W, Grew wr W → W.cell? (ad.add (i * 4)) = some (.int .i64 x.k) ∧ W.cell? ⟨(ad.add (i * 4)).block, (ad.add (i * 4)).off + 1, none⟩ = some (.int .i64 x.o) ∧ W.cell? ⟨(ad.add (i * 4)).block, (ad.add (i * 4)).off + 2, none⟩ = some (.int .i64 x.e) ∧ W.cell? ⟨(ad.add (i * 4)).block, (ad.add (i * 4)).off + 3, none⟩ = some (.slice A2 x.d.length c2) ∧ Rd (fun b => b < wr.heap.size) W (.slice A2 x.d.length c2) x.d) := Lib.hid fun W hW => ⟨RC.cellB hW x0, RC.cellB hW x1, RC.cellB hW x2, RC.cellB hW x3, rx.grew hW⟩
        have HY : Hid (∀ W, Grew wr W → W.cell? (bd.add (i * 4)) = some (.int .i64 y.k) ∧ W.cell? ⟨(bd.add (i * 4)).block, (bd.add (i * 4)).off + 1, none⟩ = some (.int .i64 y.o) ∧ W.cell? ⟨(bd.add (i * 4)).block, (bd.add (i * 4)).off + 2, none⟩ = some (.int .i64 y.e) ∧ W.cell? ⟨(bd.add (i * 4)).block, (bd.add (i * 4)).off + 3, none⟩ = some (.slice B2 y.d.length d2) ∧ Rd (fun b => b < wr.heap.size) W (.slice B2 y.d.length d2) y.d) := Lib.hid fun W hW => ⟨RC.cellB hW y0, RC.cellB hW y1, RC.cellB hW y2, RC.cellB hW y3, ry.grew hW⟩
        have hts := take_samO a b i HT.out x y hx hy
        have HTS := Lib.hid hts
        have HXY : Hid (x ≠ y → a ≠ b) := Lib.hid fun hxy e => hxy (by rw [e, hy] at hx; injection hx with hx; exact hx.symm)
        have HIQ := Lib.hid hiq
        have HLT := Lib.hid hlt
        clear x0 x1 x2 x3 rx y0 y1 y2 y3 ry qa qb hts hx hy hiq
        have hwi : wrap64 ((i : Int) + 1) = ((i + 1 : Nat) : Int) := by unfold wrap64; omega
        go_wp2_with fail
        refine Facts.wp_region_text (by kernel_rfl) (by kernel_rfl) ?_
        apply Facts.Lex.exact [] _ (by kernel_rfl)
        · intro u W hC _
          unfold Facts.one
          go_simp
          exact ⟨Grew.refl _, rfl⟩
        simp only [Act.put, List.setIfInBounds_toArray, List.set_cons_zero, List.set_cons_succ, Nat.zero_add]
        apply Facts.Lex.exact [] _ (by kernel_rfl)
        · intro u W hC _
          unfold Facts.one
          go_simp
          exact ⟨Grew.refl _, rfl⟩
        simp only [Act.put, List.setIfInBounds_toArray, List.set_cons_zero, List.set_cons_succ, Nat.reduceAdd]
        apply Facts.Lex.exact [] _ (by kernel_rfl)
        · intro u W hC _
          unfold Facts.one
          go_simp
          exact ⟨Grew.refl _, rfl⟩
        simp only [Act.put, List.setIfInBounds_toArray, List.set_cons_zero, List.set_cons_succ, Nat.reduceAdd]
        apply Facts.Lex.exact [] (ov x A2 c2) (by kernel_rfl)
        · intro u W hC _
          obtain ⟨x0, x1, x2, x3, _⟩ := HX.out W hC
          unfold Facts.one
          go_simp
          first | exact ⟨Grew.refl _, rfl⟩ | (unfold ov; exact ⟨Grew.refl _, rfl⟩)
        simp only [Act.put, List.setIfInBounds_toArray, List.set_cons_zero, List.set_cons_succ, Nat.reduceAdd]
        apply Facts.Lex.exact [] _ (by kernel_rfl)
        · intro u W hC _
          unfold Facts.one
          go_simp
          exact ⟨Grew.refl _, rfl⟩
        simp only [Act.put, List.setIfInBounds_toArray, List.set_cons_zero, List.set_cons_succ, Nat.reduceAdd]
        apply Facts.Lex.exact [] _ (by kernel_rfl)
        · intro u W hC _
          unfold Facts.one
          go_simp
          exact ⟨Grew.refl _, rfl⟩
        simp only [Act.put, List.setIfInBounds_toArray, List.set_cons_zero, List.set_cons_succ, Nat.reduceAdd]
        apply Facts.Lex.exact [] _ (by kernel_rfl)
        · intro u W hC _
          unfold Facts.one
          go_simp
          exact ⟨Grew.refl _, rfl⟩
        simp only [Act.put, List.setIfInBounds_toArray, List.set_cons_zero, List.set_cons_succ, Nat.reduceAdd]
        apply Facts.Lex.exact [] (ov y B2 d2) (by kernel_rfl)
        · intro u W hC _
          obtain ⟨x0, x1, x2, x3, _⟩ := HY.out W hC
          unfold Facts.one
          go_simp
          first | exact ⟨Grew.refl _, rfl⟩ | (unfold ov; exact ⟨Grew.refl _, rfl⟩)
        simp only [Act.put, List.setIfInBounds_toArray, List.set_cons_zero, List.set_cons_succ, Nat.reduceAdd]
        apply Facts.Lex.exact [] (.bool (decide (x = y))) (by kernel_rfl)
        · intro u W hC _
          obtain ⟨_, _, _, _, rx⟩ := HX.out W hC
          obtain ⟨_, _, _, _, ry⟩ := HY.out W hC
          have hS := same_any x y A2 B2 c2 d2 _ _ W rx ry
          unfold Facts.one
          go_simp
          refine hS.mono ?_
          rintro e w2 ⟨rfl, hg⟩
          exact ⟨_, rfl, hg, rfl⟩
        simp only [Act.put, List.setIfInBounds_toArray, List.set_cons_zero, List.set_cons_succ, Nat.reduceAdd]
        apply Facts.Lex.exact [] _ (by kernel_rfl)
        · intro u W hC _
          unfold Facts.one
          go_simp
          exact ⟨Grew.refl _, rfl⟩
        simp only [Act.put, List.setIfInBounds_toArray, List.set_cons_zero, List.set_cons_succ, Nat.reduceAdd]
        refine Facts.Lex.done fun u W hg hxx => ?_
        have G2 := Lib.hid (HG.out.trans hg)
        clear hg hxx
        by_cases hxy : x = y
        · have HT2 : Hid (a.take (i + 1) = b.take (i + 1)) := Lib.hid (HTS.out.2 hxy)
          rw [decide_eq_true hxy]
          clear hxy
          go_wp2
          go_roundg q
          case measure => have := HIQ.out; omega
          case rel => exact ⟨i + 1, by have := HIQ.out; omega, by first | rfl | simp [hwi], G2, HT2⟩
        · have hrf : r = false := by rw [← HRR.out]; exact decide_eq_false (HXY.out hxy)
          subst hrf
          rw [decide_eq_false hxy]
          clear hxy
          go_wp2
          go_returns
          exact ⟨rfl, G2.out⟩
  · have hne : ((a.length : Int) != (b.length : Int)) = true := by simp; omega
    have hd : decide (a = b) = false := decide_eq_false fun e => hn (by rw [e])
    rw [hd]
    clear hn hd HA HB
    go_enter Try.func16, Try.ntmps16
    go_wp2
    go_returns
    exact ⟨rfl, Grew.refl _⟩
end Go.Proofs.Ythgigkklefaeeaa.RI
