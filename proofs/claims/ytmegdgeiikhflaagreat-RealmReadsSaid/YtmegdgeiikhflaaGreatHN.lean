/-
  Ranks in which nothing was done, as the program makes them.
  Conditions: the accounts' texts' sizes.
-/
import Derived.Test.YtmegdgeiikhflaaGreatHD
namespace Go.Proofs.YtmegdgeiikhflaaGreat.HN
open Go Go.RowKit Go.Lib Go.Proofs.YtmegdgeiikhflaaGreat Go.Proofs.YtmegdgeiikhflaaGreat.Facts Go.Proofs.YtmegdgeiikhflaaGreat.Plain Go.Proofs.YtmegdgeiikhflaaGreat.Ints Go.Proofs.YtmegdgeiikhflaaGreat.RRows Go.Proofs.YtmegdgeiikhflaaGreat.LBox Go.Proofs.YtmegdgeiikhflaaGreat.RSmall Go.Proofs.YtmegdgeiikhflaaGreat.RFind Go.Proofs.YtmegdgeiikhflaaGreat.RAll Go.Proofs.YtmegdgeiikhflaaGreat.RRules Go.Proofs.YtmegdgeiikhflaaGreat.RRule3 Go.Proofs.YtmegdgeiikhflaaGreat.RRight Go.Proofs.YtmegdgeiikhflaaGreat.HA Go.Proofs.YtmegdgeiikhflaaGreat.HB Go.Proofs.YtmegdgeiikhflaaGreat.HG Go.Proofs.YtmegdgeiikhflaaGreat.HC Go.Proofs.YtmegdgeiikhflaaGreat.HD

/-- Rows that were made: a block of n slices, the first k of them rows, each in a block of its own behind it. -/
structure OR (y : World) (B n k : Nat) (R : List (List Int)) (xs : List Value) (bl : Nat → Nat) : Prop where
  len : xs.length = n
  row : y.heap[B]? = some (.cells xs.toArray 23 (0, 0))
  rows : ∀ i r, i < k → R[i]? = some r → ∃ cap cur, xs[i]? = some (.slice (some ⟨bl i, 0, none⟩) r.length cap) ∧ y.heap[bl i]? = some (.cells cur 3 (0, 0)) ∧ r.length ≤ cap ∧ cap ≤ maxLen ∧ (∀ (j : Nat) u, (iv r)[j]? = some u → cur[j]? = some u)
  blo : ∀ i, i < k → B < bl i ∧ bl i < y.heap.size
  dis : ∀ i j, i < j → j < k → bl i < bl j
theorem lt_size {y : World} {b : Nat} {o : Obj} (h : y.heap[b]? = some o) : b < y.heap.size := (Array.getElem?_eq_some_iff.1 h).1
theorem OR.grew {y z : World} {B n k : Nat} {R : List (List Int)} {xs : List Value} {bl : Nat → Nat} (h : OR y B n k R xs bl) (hg : Grew y z) : OR z B n k R xs bl := by
  refine ⟨h.len, keepB h.row hg, fun i r hi hr => ?_, fun i hi => ⟨(h.blo i hi).1, Nat.lt_of_lt_of_le (h.blo i hi).2 hg.size⟩, h.dis⟩
  obtain ⟨cap, cur, h1, h2, h3⟩ := h.rows i r hi hr
  exact ⟨cap, cur, h1, keepB h2 hg, h3⟩
theorem size_setCell (y : World) (a : Addr) (v : Value) : (y.setCell a v).heap.size = y.heap.size := by simp [World.setCell]
/-- One row more, in a block that was made behind all others. -/
theorem OR.put {y : World} {B n k : Nat} {R : List (List Int)} {xs : List Value} {bl : Nat → Nat} (h : OR y B n k R xs bl) (hk : k < n) {g cap : Nat} {cur : Array Value} {r : List Int} (hr : R[k]? = some r) (hg : y.heap[g]? = some (.cells cur 3 (0, 0))) (hB : B < g) (hlt : ∀ i, i < k → bl i < g) (h1 : r.length ≤ cap) (h2 : cap ≤ maxLen) (h3 : ∀ (j : Nat) u, (iv r)[j]? = some u → cur[j]? = some u) :
    OR (y.setCell ⟨B, k, none⟩ (.slice (some ⟨g, 0, none⟩) r.length cap)) B n (k + 1) R (xs.set k (.slice (some ⟨g, 0, none⟩) r.length cap)) (fun i => if i = k then g else bl i) := by
  refine ⟨by rw [List.length_set]; exact h.len, ?_, fun i r' hi hr' => ?_, fun i hi => ?_, fun i j hij hj => ?_⟩
  · rw [heap_setCell_same _ _ _ _ _ _ h.row, List.setIfInBounds_toArray]
  · by_cases hik : i = k
    · subst hik
      rw [hr] at hr'
      cases hr'
      refine ⟨cap, cur, ?_, ?_, h1, h2, h3⟩
      · rw [if_pos rfl, List.getElem?_set_self (by rw [h.len]; exact hk)]
      · rw [if_pos rfl, heap_setCell_other _ _ _ _ (by show g ≠ B; omega)]
        exact hg
    · obtain ⟨cap', cur', q1, q2, q3⟩ := h.rows i r' (by omega) hr'
      refine ⟨cap', cur', ?_, ?_, q3⟩
      · rw [if_neg hik, List.getElem?_set_ne (by omega)]
        exact q1
      · have := (h.blo i (by omega)).1
        rw [if_neg hik, heap_setCell_other _ _ _ _ (by show bl i ≠ B; omega)]
        exact q2
  · rw [size_setCell]
    by_cases hik : i = k
    · rw [if_pos hik]
      exact ⟨hB, lt_size hg⟩
    · rw [if_neg hik]
      exact h.blo i (by omega)
  · rw [if_neg (show ¬ i = k by omega)]
    by_cases hjk : j = k
    · rw [if_pos hjk]
      exact hlt i (by omega)
    · rw [if_neg hjk]
      exact h.dis i j hij (by omega)
/-- A number of a row is another one. -/
theorem OR.write {y : World} {B n k : Nat} {R : List (List Int)} {xs : List Value} {bl : Nat → Nat} (h : OR y B n k R xs bl) {q : Nat} (hq : q < k) {r : List Int} (hr : R[q]? = some r) {c : Nat} (hc : c < r.length) (x : Int) :
    OR (y.setCell ⟨bl q, c, none⟩ (.int .i64 x)) B n k (R.set q (r.set c x)) xs bl := by
  refine ⟨h.len, ?_, fun i r' hi hr' => ?_, fun i hi => ?_, h.dis⟩
  · have := (h.blo q hq).1
    rw [heap_setCell_other _ _ _ _ (by show B ≠ bl q; omega)]
    exact h.row
  · by_cases hiq : i = q
    · subst hiq
      have hrl := (List.getElem?_eq_some_iff.1 hr).1
      rw [List.getElem?_set_self hrl] at hr'
      cases hr'
      obtain ⟨cap, cur, q1, q2, q3, q4, q5⟩ := h.rows i r hq hr
      refine ⟨cap, cur.setIfInBounds c (.int .i64 x), by rw [List.length_set]; exact q1, heap_setCell_same _ _ _ _ _ _ q2, by rw [List.length_set]; exact q3, q4, fun j u hu => ?_⟩
      unfold iv at hu
      rw [List.map_set, List.getElem?_set] at hu
      rw [Array.getElem?_setIfInBounds]
      by_cases hcj : c = j
      · subst hcj
        rw [if_pos rfl, if_pos (by simpa using hc)] at hu
        have hcs : c < cur.size := by
          have := q5 c _ (iv_get r c hc)
          exact (Array.getElem?_eq_some_iff.1 this).1
        rw [if_pos rfl, if_pos hcs]
        exact hu
      · rw [if_neg hcj] at hu ⊢
        exact q5 j u hu
    · rw [List.getElem?_set_ne (by omega)] at hr'
      obtain ⟨cap, cur, q1, q2, q3⟩ := h.rows i r' hi hr'
      refine ⟨cap, cur, q1, ?_, q3⟩
      have hne : bl i ≠ bl q := by
        rcases Nat.lt_or_gt_of_ne hiq with h1 | h1
        · have := h.dis i q h1 hq; omega
        · have := h.dis q i h1 hi; omega
      rw [heap_setCell_other _ _ _ _ (by show bl i ≠ bl q; exact hne)]
      exact q2
  · rw [size_setCell]
    exact h.blo i hi
theorem OR.congr {y : World} {B n k : Nat} {R R' : List (List Int)} {xs : List Value} {bl : Nat → Nat} (h : OR y B n k R xs bl) (he : ∀ i, i < k → R'[i]? = R[i]?) : OR y B n k R' xs bl :=
  ⟨h.len, h.row, fun i r hi hr => h.rows i r hi ((he i hi).symm.trans hr), h.blo, h.dis⟩
theorem addr_zero (b j : Nat) : (⟨b, 0, none⟩ : Addr).add j = ⟨b, j, none⟩ := by
  unfold Addr.add
  by_cases h0 : j = 0
  · subst h0; simp
  · simp [h0]
theorem OR.rk {y : World} {B n : Nat} {R : List (List Int)} {xs : List Value} {bl : Nat → Nat} (h : OR y B n n R xs bl) (hR : R.length = n) (hm : n ≤ maxLen) : RK y (.slice (some ⟨B, 0, none⟩) n n) R := by
  refine ⟨some ⟨B, 0, none⟩, n, by rw [hR], by rw [hR]; exact Nat.le_refl _, hm, (fun h => by cases h), fun ad ha j row hr => ?_⟩
  cases ha
  have hj := (List.getElem?_eq_some_iff.1 hr).1
  obtain ⟨cap, cur, q1, q2, q3, q4, q5⟩ := h.rows j row (by omega) hr
  refine ⟨_, ?_, some ⟨bl j, 0, none⟩, cap, rfl, q3, q4, (fun h => by cases h), fun ad ha i u hu => ?_⟩
  · rw [addr_zero, cell_of_row _ _ _ _ _ _ h.row, List.getElem?_toArray]
    exact q1
  · cases ha
    rw [addr_zero, cell_of_row _ _ _ _ _ _ q2]
    exact q5 i u hu
/-- What lies in the blocks that matter, for a walk. -/
theorem OR.slot {y : World} {B n k : Nat} {R : List (List Int)} {xs : List Value} {bl : Nat → Nat} (h : OR y B n k R xs bl) {i : Nat} (hi : i < n) : ∃ x, xs[i]? = some x ∧ y.cell? ⟨B, i, none⟩ = some x ∧ y.frozen? ⟨B, i, none⟩ = false := by
  have hl : i < xs.length := by rw [h.len]; exact hi
  refine ⟨xs[i], List.getElem?_eq_getElem hl, ?_, frozen_of_row _ _ _ _ _ h.row⟩
  rw [cell_of_row _ _ _ _ _ _ h.row, List.getElem?_toArray]
  exact List.getElem?_eq_getElem hl
theorem OR.cell {y : World} {B n k : Nat} {R : List (List Int)} {xs : List Value} {bl : Nat → Nat} (h : OR y B n k R xs bl) {i : Nat} (hi : i < k) {r : List Int} (hr : R[i]? = some r) {c : Nat} (hc : c < r.length) : ∃ cap u, y.cell? ⟨B, i, none⟩ = some (.slice (some ⟨bl i, 0, none⟩) r.length cap) ∧ r.length ≤ cap ∧ y.cell? ⟨bl i, c, none⟩ = some u ∧ y.frozen? ⟨bl i, c, none⟩ = false := by
  obtain ⟨cap, cur, q1, q2, q3, q4, q5⟩ := h.rows i r hi hr
  refine ⟨cap, .int .i64 (r[c]?.getD 0), ?_, q3, ?_, frozen_of_row _ _ _ _ _ q2⟩
  · rw [cell_of_row _ _ _ _ _ _ h.row, List.getElem?_toArray]
    exact q1
  · rw [cell_of_row _ _ _ _ _ _ q2]
    exact q5 c _ (iv_get r c hc)
theorem iv_rep (n : Nat) : madeCells #[.int .i64 0] n = (iv (List.replicate n 0)).toArray := by
  apply Array.toList_inj.1
  rw [toList_madeCells_one]
  simp [iv]
theorem sl_rep (n : Nat) : madeCells #[.slice none 0 0] n = (List.replicate n (Value.slice none 0 0)).toArray := by
  apply Array.toList_inj.1
  rw [toList_madeCells_one]
  try simp
theorem info23 : (Tryz.prog.info? 23).map (fun i => (i.zero, i.size, i.bytes)) = some (some (.slice none 0 0), 1, 24) := by kernel_rfl
theorem mk_rows (n : Nat) (hn : n ≤ 100) (u : World) : (Instr.makeSlice 53 (.int .i64 (n : Nat)) (.int .i64 (n : Nat))).run Tryz.prog u = .ok (.slice (some ⟨u.heap.size, 0, none⟩) n n) (u.alloc (.cells (List.replicate n (Value.slice none 0 0)).toArray 23)) := by
  obtain ⟨i0, hi, hz0, hz1, hz2⟩ := info_parts info23
  have h := run_make (P := Tryz.prog) u 53 23 i0 (.slice none 0 0) Tryz.underlying53 hi hz0 .i64 .i64 n n (by omega) (Int.le_refl _) (by rw [hz2]; omega) (by omega)
  rw [← sl_rep]
  simpa [hz1, Value.cells] using h
theorem mk_ints (n : Nat) (hn : n ≤ 100) (u : World) : (Instr.makeSlice 23 (.int .i64 (n : Nat)) (.int .i64 (n : Nat))).run Tryz.prog u = .ok (.slice (some ⟨u.heap.size, 0, none⟩) n n) (u.alloc (.cells (iv (List.replicate n 0)).toArray 3)) := by
  obtain ⟨i0, hi, hz0, hz1, hz2⟩ := info_parts info3
  have h := run_make (P := Tryz.prog) u 23 3 i0 (.int .i64 0) Tryz.underlying23 hi hz0 .i64 .i64 n n (by omega) (Int.le_refl _) (by rw [hz2]; omega) (by omega)
  rw [← iv_rep]
  simpa [hz1, Value.cells] using h
theorem or_start (w : World) (n : Nat) (R : List (List Int)) : OR (w.alloc (.cells (List.replicate n (Value.slice none 0 0)).toArray 23)) w.heap.size n 0 R (List.replicate n (Value.slice none 0 0)) (fun _ => 0) :=
  ⟨by simp, heap_alloc_new w _, fun i r h => absurd h (by omega), fun i h => absurd h (by omega), fun i j _ h => absurd h (by omega)⟩

def newRow (r : Re) (k : Nat) : List Int := (List.replicate r.accounts.length 0).set (gu r k).founder.toNat 2
def newR (r : Re) : List (List Int) := if mayBe r = true then (List.range r.guilds.length).map (newRow r) else []

theorem newRows_get (r : Re) {k : Nat} (h : k < r.guilds.length) : ((List.range r.guilds.length).map (newRow r))[k]? = some (newRow r k) := by simp [h]
set_option maxRecDepth 100000 in
set_option maxHeartbeats 4000000 in
theorem new_any (v : Value) (r : Re) (w : World) (h : ReIs w v r) (hs : Sized r) : Calls Tryz.prog 34 #[v] w fun e w' => ∃ v', e = .returned v' ∧ RK w' v' (newR r) ∧ Grew w w' := by
  have HRI := Lib.hid (fun W hg => right_re v r W (h.grew (w' := W) hg) hs)
  obtain ⟨v0, v1, v2, v3, v4, rfl, h0, h1, h2, h3, h4⟩ := h
  have HL3 := Lib.hid h3
  obtain ⟨A0', cp0, rfl, _⟩ := h0.slice
  obtain ⟨A1', cp1, rfl, _⟩ := id h1
  obtain ⟨A2', cp2, rfl, _⟩ := h2.slice
  obtain ⟨A3', cp3, rfl, _⟩ := h3.slice
  obtain ⟨A4', cp4, rfl, _⟩ := h4.slice
  clear h0 h1 h2 h3 h4 hs
  have HFI := Lib.hid (@founder_in r)
  have HSZ := Lib.hid (@sizes r)
  unfold newR
  have G0 : Hid (Grew w (w.alloc (Obj.cells #[.slice A0' r.labels.length cp0, .slice A1' r.lines.length cp1, .slice A2' r.accounts.length cp2, .slice A3' r.guilds.length cp3, .slice A4' r.quotas.length cp4, .int .i64 r.orders, .int .i64 r.audits, .int .i64 r.rate, .int .i64 r.rounds] 28))) := Lib.hid (by unfold Grew; go_grown)
  have R0 : Hid ((w.alloc (Obj.cells #[.slice A0' r.labels.length cp0, .slice A1' r.lines.length cp1, .slice A2' r.accounts.length cp2, .slice A3' r.guilds.length cp3, .slice A4' r.quotas.length cp4, .int .i64 r.orders, .int .i64 r.audits, .int .i64 r.rate, .int .i64 r.rounds] 28)).heap[w.heap.size]? = some (rcell (.slice A0' r.labels.length cp0) (.slice A1' r.lines.length cp1) (.slice A2' r.accounts.length cp2) (.slice A3' r.guilds.length cp3) (.slice A4' r.quotas.length cp4) r.orders r.audits r.rate r.rounds)) := Lib.hid (heap_alloc_new w _)
  obtain ⟨r0, r1, r2, r3, r4, r5, r6, r7, r8⟩ := re_cells R0.out
  generalize mayBe r = b at *
  cases b with
  | false =>
    rw [if_neg (by simp)]
    go_enter Tryz.func34, Tryz.ntmps34
    go_wp2_with fail
    with_reducible refine (HRI.out _ G0.out).mono ?_
    rintro e w1 ⟨rfl, hg⟩
    have G1 := Lib.hid (G0.out.trans hg)
    clear hg r0 r1 r2 r3 r4 r5 r6 r7 r8
    go_wp2
    go_returns
    exact ⟨_, rfl, RK.nil _, G1.out⟩
  | true =>
    rw [if_pos rfl]
    obtain ⟨ha8, hg8, _⟩ := HSZ.out rfl
    have HFO : Hid (∀ k, k < r.guilds.length → 0 ≤ (gu r k).founder ∧ (gu r k).founder < r.accounts.length) := Lib.hid fun k hk => HFI.out rfl hk
    clear HFI HSZ
    have hmk1 := mk_rows r.guilds.length (by omega)
    have hmk2 := mk_ints r.accounts.length (by omega)
    have HAC := Lib.hid ha8
    clear ha8
    have HOS := Lib.hid (fun w => or_start w r.guilds.length ((List.range r.guilds.length).map (newRow r)))
    generalize (List.replicate r.guilds.length (Value.slice none 0 0)).toArray = Z at *
    obtain ⟨Y, hY⟩ : ∃ Y, Y = (iv (List.replicate r.accounts.length 0)).toArray := ⟨_, rfl⟩
    rw [← hY] at hmk2
    have HY := Lib.hid hY
    clear hY
    go_enter Tryz.func34, Tryz.ntmps34
    go_wp2_with fail
    with_reducible refine (HRI.out _ G0.out).mono ?_
    rintro e w1 ⟨rfl, hg⟩
    have G1 := Lib.hid (G0.out.trans hg)
    have R1 := Lib.hid (keepB R0.out hg)
    clear hg r0 r1 r2 r3 r4 r5 r6 r7 r8
    have GA : Hid (Grew w1 (w1.alloc (.cells Z 23))) := Lib.hid (by unfold Grew; go_grown)
    have RA := Lib.hid (keepB R1.out GA.out)
    have s1 := re_cells R1.out
    obtain ⟨r0, r1, r2, r3, r4, r5, r6, r7, r8⟩ := s1
    obtain ⟨q0, q1, q2, q3, q4, q5, q6, q7, q8⟩ := re_cells RA.out
    go_wp2
    clear q0 q1 q2 q3 q4 q5 q6 q7 q8 r0 r1 r2 r3 r4 r5 r6 r7 r8
    go_loopg [16] r.guilds.length (fun g s16 wx => ∃ (k : Nat) (xs : List Value) (bl : Nat → Nat), k + g = r.guilds.length ∧ s16 = .int .i64 k ∧ Hid (OR wx w1.heap.size r.guilds.length k ((List.range r.guilds.length).map (newRow r)) xs bl) ∧ Hid (Grew w1 wx))
    case atStart => exact ⟨0, _, _, by omega, rfl, Lib.hid (HOS.out w1), GA⟩
    case round =>
      obtain ⟨k, xs, bl, hkg, rfl, HO, HG⟩ := hrel
      cases gk with
      | zero =>
        have hkz : ¬ ((k : Int) < (r.guilds.length : Int)) := by omega
        have hk : k = r.guilds.length := by omega
        subst hk
        have HE := Lib.hid (HO.out.rk (by simp) (by unfold maxLen; omega))
        go_wp2
        go_returns
        exact ⟨_, rfl, HE.out, G1.out.trans HG.out⟩
      | succ g =>
        have hkz : (k : Int) < (r.guilds.length : Int) := by omega
        obtain ⟨ad, c2, e, hc2, c0, c1⟩ := Gs_at (HL3.out.grew (G1.out.trans HG.out)) (gu_get (k := k) (by omega))
        injection e with e1 _ e3
        subst e1 e3
        obtain ⟨f0, f1⟩ := HFO.out k (by omega)
        have HNR : Hid (newRow r k = (List.replicate r.accounts.length 0).set (gu r k).founder.toNat 2) := Lib.hid rfl
        generalize gu r k = x at c0 c1 f0 f1 HNR
        obtain ⟨bit, fo⟩ := x
        simp only at c0 c1 f0 f1 HNR
        obtain ⟨kf, rfl⟩ := Int.eq_ofNat_of_zero_le f0
        simp only [Int.toNat_natCast] at HNR
        have kfl : (kf : Int) < (r.accounts.length : Int) := by omega
        have HKF : Hid (kf < r.accounts.length) := Lib.hid (by omega)
        clear f0 f1
        -- the guild's own cell
        have A0 : Hid (Grew wr (wr.alloc (.cells #[.int .i64 bit, .int .i64 (kf : Int)] 52))) := Lib.hid (by unfold Grew; go_grown)
        have X0 : Hid ((wr.alloc (.cells #[.int .i64 bit, .int .i64 (kf : Int)] 52)).heap[wr.heap.size]? = some (.cells #[.int .i64 bit, .int .i64 (kf : Int)] 52 (0, 0))) := Lib.hid (heap_alloc_new wr _)
        have O1 := Lib.hid (HO.out.grew A0.out)
        have G2 := Lib.hid (HG.out.trans A0.out)
        have RX := Lib.hid (keepB R1.out G2.out)
        have GB : Hid (Grew (wr.alloc (.cells #[.int .i64 bit, .int .i64 (kf : Int)] 52)) ((wr.alloc (.cells #[.int .i64 bit, .int .i64 (kf : Int)] 52)).alloc (.cells Y 3))) := Lib.hid (by unfold Grew; go_grown)
        have O2 := Lib.hid (O1.out.grew GB.out)
        have G3 := Lib.hid (G2.out.trans GB.out)
        have X1 := Lib.hid (keepB X0.out GB.out)
        have Y0 : Hid (((wr.alloc (.cells #[.int .i64 bit, .int .i64 (kf : Int)] 52)).alloc (.cells Y 3)).heap[wr.heap.size + 1]? = some (.cells Y 3 (0, 0))) := Lib.hid (by have := heap_alloc_new (wr.alloc (.cells #[.int .i64 bit, .int .i64 (kf : Int)] 52)) (.cells Y 3); simpa using this)
        obtain ⟨r0, r1, r2, r3, r4, r5, r6, r7, r8⟩ := re_cells RX.out
        obtain ⟨x0, hx0, hxc, hxf⟩ := O2.out.slot (i := k) (by omega)
        have HX0 := Lib.hid hx0
        clear hx0
        have HRL : Hid (((List.range r.guilds.length).map (newRow r)).length = r.guilds.length) := Lib.hid (by simp)
        have HRK : Hid (((List.range r.guilds.length).map (newRow r))[k]? = some (newRow r k)) := Lib.hid (newRows_get r (by omega))
        obtain ⟨NR, hNR⟩ : ∃ NR, NR = (List.range r.guilds.length).map (newRow r) := ⟨_, rfl⟩
        rw [← hNR] at O2 HRL HRK
        have HK : Hid (k < r.guilds.length) := Lib.hid (by omega)
        have hrep : (List.replicate r.accounts.length (0 : Int)).length = r.accounts.length := List.length_replicate ..
        have hor := OR.put (g := wr.heap.size + 1) (cap := r.accounts.length) (cur := Y) (k := k) (r := List.replicate r.accounts.length 0) (O2.out.congr (R' := NR.set k (List.replicate r.accounts.length 0)) fun i hi => List.getElem?_set_ne (by omega)) HK.out (List.getElem?_set_self (by rw [HRL.out]; exact HK.out)) Y0.out
          (by have := HG.out.size; have := lt_size HO.out.row; omega) (fun i hi => by have := (HO.out.blo i hi).2; omega) (by rw [hrep]; exact Nat.le_refl _) (by have := HAC.out; unfold maxLen; omega) (fun j u hu => by rw [HY.out, List.getElem?_toArray]; exact hu)
        rw [hrep] at hor
        obtain ⟨bl', hbl'⟩ : ∃ bl', bl' = (fun i => if i = k then wr.heap.size + 1 else bl i) := ⟨_, rfl⟩
        rw [← hbl'] at hor
        have hblk : bl' k = wr.heap.size + 1 := by rw [hbl']; exact if_pos rfl
        have O3 := Lib.hid hor
        have X3 : Hid ((((wr.alloc (.cells #[.int .i64 bit, .int .i64 (kf : Int)] 52)).alloc (.cells Y 3)).setCell ⟨w1.heap.size, k, none⟩ (.slice (some ⟨wr.heap.size + 1, 0, none⟩) r.accounts.length r.accounts.length)).heap[wr.heap.size]? = some (.cells #[.int .i64 bit, .int .i64 (kf : Int)] 52 (0, 0))) := Lib.hid ((heap_setCell_other _ _ _ _ (by have := lt_size HO.out.row; show wr.heap.size ≠ w1.heap.size; omega)).trans X1.out)
        have G4 : Hid (Grew w1 (((wr.alloc (.cells #[.int .i64 bit, .int .i64 (kf : Int)] 52)).alloc (.cells Y 3)).setCell ⟨w1.heap.size, k, none⟩ (.slice (some ⟨wr.heap.size + 1, 0, none⟩) r.accounts.length r.accounts.length))) := Lib.hid ((show Below w1.heap.size w1 _ from G3.out).setCell (p := ⟨w1.heap.size, k, none⟩) (Nat.le_refl _) _)
        have HBK := Lib.hid hblk
        have HNL := Lib.hid hNR
        clear hor hblk hNR
        go_wp2
        clear hbl' hxc hxf r0 r1 r2 r3 r4 r5 r6 r7 r8 c0 c1
        generalize (((wr.alloc (.cells #[.int .i64 bit, .int .i64 (kf : Int)] 52)).alloc (.cells Y 3)).setCell ⟨w1.heap.size, k, none⟩ (.slice (some ⟨wr.heap.size + 1, 0, none⟩) r.accounts.length r.accounts.length)) = w3 at *
        obtain ⟨cap, u, hc1, hc2, hc3, hc4⟩ := O3.out.cell (i := k) (by omega) (List.getElem?_set_self (by rw [HRL.out]; exact HK.out)) (c := kf) (by rw [hrep]; exact HKF.out)
        rw [hrep, HBK.out] at hc1
        rw [HBK.out] at hc3 hc4
        have hx1 : w3.cell? ⟨wr.heap.size, 1, none⟩ = some (.int .i64 (kf : Int)) := by rw [cell_of_row _ _ _ _ _ _ X3.out]; rfl
        have hx0 : w3.cell? ⟨wr.heap.size, 0, none⟩ = some (.int .i64 bit) := by rw [cell_of_row _ _ _ _ _ _ X3.out]; rfl
        have O4 := Lib.hid (O3.out.write (q := k) (by omega) (List.getElem?_set_self (by rw [HRL.out]; exact HK.out)) (c := kf) (by rw [hrep]; exact HKF.out) 2)
        rw [HBK.out] at O4
        have O5 : Hid (OR (w3.setCell ⟨wr.heap.size + 1, kf, none⟩ (.int .i64 2)) w1.heap.size r.guilds.length (k + 1) NR (xs.set k (.slice (some ⟨wr.heap.size + 1, 0, none⟩) r.accounts.length r.accounts.length)) bl') := Lib.hid (O4.out.congr fun i hi => by
          by_cases hik : i = k
          · subst hik
            rw [List.getElem?_set_self (by rw [List.length_set, HRL.out]; exact HK.out), HRK.out, HNR.out]
          · rw [List.getElem?_set_ne (by omega), List.getElem?_set_ne (by omega)])
        have G5 : Hid (Grew w1 (w3.setCell ⟨wr.heap.size + 1, kf, none⟩ (.int .i64 2))) := Lib.hid ((show Below w1.heap.size w1 w3 from G4.out).setCell (p := ⟨wr.heap.size + 1, kf, none⟩) (by have := HG.out.size; show w1.heap.size ≤ wr.heap.size + 1; omega) _)
        clear hc2 O4
        go_region
        all_goals
          go_wp2
          go_roundg g
          case measure => omega
          case rel => exact ⟨k + 1, _, _, by omega, by first | rfl | simp, Lib.hid (by rw [← HNL.out]; exact O5.out.grew (by unfold Grew; go_grown)), Lib.hid (G5.out.trans (by unfold Grew; go_grown))⟩
end Go.Proofs.YtmegdgeiikhflaaGreat.HN
