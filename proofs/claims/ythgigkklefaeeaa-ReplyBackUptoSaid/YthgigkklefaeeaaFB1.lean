/-
  Rows beside each other; all frames of what was wrapped one behind the other.
  Conditions: those that each lemma names.
-/
import Derived.Test.YthgigkklefaeeaaFK
import Derived.Test.YthgigkklefaeeaaFV2
namespace Go.Proofs.Ythgigkklefaeeaa.FB1
set_option maxRecDepth 100000
set_option maxRecDepth 100000
open Go Go.RowKit Go.Lib Go.Proofs.Ythgigkklefaeeaa Go.Proofs.Ythgigkklefaeeaa.Facts Go.Proofs.Ythgigkklefaeeaa.Bytes Go.Proofs.Ythgigkklefaeeaa.Puts Go.Proofs.Ythgigkklefaeeaa.Scan Go.Proofs.Ythgigkklefaeeaa.Take Go.Proofs.Ythgigkklefaeeaa.Nums Go.Proofs.Ythgigkklefaeeaa.SumPure Go.Proofs.Ythgigkklefaeeaa.Sum Go.Proofs.Ythgigkklefaeeaa.FP Go.Proofs.Ythgigkklefaeeaa.FW Go.Proofs.Ythgigkklefaeeaa.FX Go.Proofs.Ythgigkklefaeeaa.FT Go.Proofs.Ythgigkklefaeeaa.FU Go.Proofs.Ythgigkklefaeeaa.FS Go.Proofs.Ythgigkklefaeeaa.FV Go.Proofs.Ythgigkklefaeeaa.FV2 Go.Proofs.Ythgigkklefaeeaa.FK
/-- A row of rows of bytes, whose rows lie below n0. -/
def SL (n0 base : Nat) (y : World) (v : Value) (l : List (List UInt8)) : Prop := ∃ ws : List Value, y.ownsRow base 23 1 v l.length ws ∧ ∀ (i : Nat) (x : List UInt8), l[i]? = some x → ∃ u, ws[i]? = some u ∧ Rd (fun b => b < n0) y u x
theorem SL.nil (n0 base : Nat) (y : World) : SL n0 base y (.slice none 0 0) [] := ⟨[], World.ownsRow_nil _ _ _ _, fun i x h => by cases h⟩
theorem SL.grew {n0 base : Nat} {y z : World} {v : Value} {l : List (List UInt8)} (h : SL n0 base y v l) (hg : Grew y z) : SL n0 base z v l := by
  obtain ⟨ws, h1, h2⟩ := h
  refine ⟨ws, own_grew h1 hg, fun i x hx => ?_⟩
  obtain ⟨u, hu, hr⟩ := h2 i x hx
  exact ⟨u, hu, hr.grew hg⟩
theorem SL.own {n0 base : Nat} {y : World} {v : Value} {l : List (List UInt8)} (h : SL n0 base y v l) : ∀ k, v.ownBlock = some k → base ≤ k ∧ k < y.heap.size := fun k hk => by
  obtain ⟨ws, hown, _⟩ := h
  rcases hown.2 with ⟨rfl, _⟩ | ⟨g, cap, cur, rfl, hb1, hg1, _⟩
  · cases hk
  · simp [Value.ownBlock] at hk
    subst hk
    exact ⟨hb1, (Array.getElem?_eq_some_iff.1 hg1).1⟩
theorem SL.slice {n0 base : Nat} {y : World} {v : Value} {l : List (List UInt8)} (h : SL n0 base y v l) : ∃ A c, v = .slice A l.length c := by
  obtain ⟨ws, hown, _⟩ := h
  exact own_sl hown
theorem SL.keep {n0 base : Nat} {y z : World} {v : Value} {l : List (List UInt8)} (h : SL n0 base y v l) (hlow : ∀ b, b < n0 → b < y.heap.size → z.heap[b]? = y.heap[b]?) (hown : ∀ k, v.ownBlock = some k → z.heap[k]? = y.heap[k]?) : SL n0 base z v l := by
  obtain ⟨ws, h1, h2⟩ := h
  refine ⟨ws, ⟨h1.1, ?_⟩, fun i x hx => ?_⟩
  · rcases h1.2 with h3 | ⟨g, cap, cur, rfl, hb, hg, h3⟩
    · exact .inl h3
    · exact .inr ⟨g, cap, cur, rfl, hb, (hown g rfl).trans hg, h3⟩
  · obtain ⟨u, hu, hr⟩ := h2 i x hx
    exact ⟨u, hu, hr.keep fun b hb hS => hlow b hS hb⟩
theorem SL.rr {n0 base : Nat} {y : World} {v : Value} {l : List (List UInt8)} (h : SL n0 base y v l) : RR y v l := by
  obtain ⟨ws, ho, he⟩ := h
  obtain ⟨A, c, rfl⟩ := own_sl ho
  refine ⟨A, c, rfl, fun i x hx => ?_⟩
  obtain ⟨u, hu, hr⟩ := he i x hx
  rcases ho.2 with ⟨_, h0⟩ | ⟨g, cap, cur, hsl, _⟩
  · have := (List.getElem?_eq_some_iff.1 hx).1; omega
  injection hsl with hs1 _ _
  obtain ⟨A2, c2, rfl, _⟩ := id hr
  exact ⟨⟨g, 0, none⟩, A2, c2, hs1, ho.cells (g := g) (by rw [hs1]; rfl) i _ hu, hr.lt.mono fun b hb => hb.2⟩
theorem SL.base {n0 base b2 : Nat} {y : World} {v : Value} {l : List (List UInt8)} (h : SL n0 base y v l) (hb : b2 ≤ base) : SL n0 b2 y v l := by
  obtain ⟨ws, h1, h2⟩ := h
  refine ⟨ws, ⟨h1.1, ?_⟩, h2⟩
  rcases h1.2 with h3 | ⟨g, cap, cur, rfl, hq, hg, h3⟩
  · exact .inl h3
  · exact .inr ⟨g, cap, cur, rfl, Nat.le_trans hb hq, hg, h3⟩
/-- Rows of bytes are put behind a row of them. -/
theorem sl_app_at (n0 : Nat) (W : World) (base : Nat) (v : Value) (said more : List (List UInt8)) (ad : Addr) (c : Nat) (ws2 : List Value) (hb : SL n0 base W v said) (hn0 : n0 ≤ base) (hl2 : ws2.length = more.length) (hcells : ∀ j u, ws2[j]? = some u → W.cell? (ad.add j) = some u)
    (hrd : ∀ (i : Nat) (x : List UInt8), more[i]? = some x → ∃ u, ws2[i]? = some u ∧ Rd (fun b => b < n0) W u x) (hn : said.length + more.length ≤ 1073741824) (hbase : base ≤ W.heap.size) :
    ∃ A c' W', (Builtin.append_ #[52, 52] 52 #[v, .slice (some ad) more.length c]).run Try.prog W = .ok (.slice A (said ++ more).length c') W' ∧ SL n0 base W' (.slice A (said ++ more).length c') (said ++ more) ∧ W.grownBy W' v.ownBlock ∧
      ((Value.slice A (said ++ more).length c').ownBlock = v.ownBlock ∨ (Value.slice A (said ++ more).length c').ownBlock = some W.heap.size) := by
  have hob0 := hb.own
  obtain ⟨ws, hown, hel⟩ := hb
  obtain ⟨i, z, hi, hz, hs, hby, hzs⟩ := parts23
  have hone : ∀ u ∈ ws2, u.oneCell' = true := fun u hu => by
    obtain ⟨i, hi, he⟩ := List.getElem_of_mem hu
    obtain ⟨u2, h1, h2⟩ := hrd i (more[i]'(by omega)) (List.getElem?_eq_getElem _)
    rw [List.getElem?_eq_getElem hi, he] at h1
    injection h1 with h1
    obtain ⟨A2, c2, e2, _⟩ := h2
    rw [h1, e2]
    rfl
  obtain ⟨v', W', hrun, hown2, hgb, _, hob⟩ := run_append_own_at (P := Try.prog) W base 52 52 23 i z 1 24 Try.underlying52 hi hz hs hby hzs (by omega) v said.length ws hown ad more.length c ws2 (by omega) hcells hone (by unfold maxLen; omega) (by omega) hbase
  have hlen : said.length + more.length = (said ++ more).length := by simp
  rw [hlen] at hown2
  obtain ⟨A, c', rfl⟩ := own_sl hown2
  have hwl : ws.length = said.length := by have := hown.1; omega
  have hmove : ∀ (y : Value) (z : List UInt8), Rd (fun b => b < n0) W y z → Rd (fun b => b < n0) W' y z := fun y z hy => hy.keep fun b hb1 hb2 => hgb.block b hb1 (fun e => by have := (hob0 b e.symm).1; omega)
  refine ⟨A, c', W', hrun, ⟨ws ++ ws2, hown2, fun i y hy => ?_⟩, hgb, hob⟩
  by_cases hi : i < said.length
  · rw [List.getElem?_append_left hi] at hy
    obtain ⟨q, hq, hq2⟩ := hel i y hy
    exact ⟨q, by rw [List.getElem?_append_left (by omega)]; exact hq, hmove q y hq2⟩
  · rw [List.getElem?_append_right (by omega)] at hy
    obtain ⟨q, hq, hq2⟩ := hrd _ y hy
    exact ⟨q, by rw [List.getElem?_append_right (by omega), hwl]; exact hq, hmove q y hq2⟩
/-- One row is put behind. -/
theorem sl_run (n0 : Nat) (y : World) (base : Nat) (v u : Value) (l : List (List UInt8)) (x : List UInt8) (hb : SL n0 base y v l) (hn0 : n0 ≤ base) (hr : Rd (fun b => b < n0) y u x) (hbase : base ≤ y.heap.size) (hn : l.length ≤ 1073741000) :
    ∃ A c' W', (Builtin.append_ #[52, 52] 52 #[v, .slice (some ⟨y.heap.size, 0, none⟩) 1 1]).run Try.prog (y.alloc (.cells #[u] 23)) = .ok (.slice A (l ++ [x]).length c') W' ∧ SL n0 base W' (.slice A (l ++ [x]).length c') (l ++ [x]) ∧ (y.alloc (.cells #[u] 23)).grownBy W' v.ownBlock ∧
      ((Value.slice A (l ++ [x]).length c').ownBlock = v.ownBlock ∨ (Value.slice A (l ++ [x]).length c').ownBlock = some (y.alloc (.cells #[u] 23)).heap.size) := by
  have hgn : Grew y (y.alloc (.cells #[u] 23)) := (Below.refl _ y).alloc (Nat.le_refl _) _
  have hcell : (y.alloc (.cells #[u] 23)).cell? ⟨y.heap.size, 0, none⟩ = some u := by
    have h : (y.alloc (.cells #[u] 23)).heap[y.heap.size]? = _ := heap_alloc_new y _
    unfold World.cell?
    simp only [h]
    rfl
  have := sl_app_at n0 (y.alloc (.cells #[u] 23)) base v l [x] ⟨y.heap.size, 0, none⟩ 1 [u] (hb.grew hgn) hn0 rfl (fun j z hz => by
    match j, hz with
    | 0, hz => simp at hz; subst hz; rw [Addr.add_mid]; exact hcell) (fun i z hz => by
    match i, hz with
    | 0, hz => simp at hz; subst hz; exact ⟨u, rfl, hr.grew hgn⟩) (by simp; omega) (Nat.le_trans hbase hgn.size)
  exact this


theorem info3 : (Try.prog.info? 3).map (fun i => (i.zero, i.size, i.bytes)) = some (some (.int .i64 0), 1, 8) := by kernel_rfl
def iv (l : List Nat) : List Value := l.map fun (n : Nat) => .int .i64 (n : Int)
theorem iv_length (l : List Nat) : (iv l).length = l.length := by simp [iv]
/-- A number is put behind a row of one's own. -/
theorem run_int (W : World) (base : Nat) (v : Value) (l : List Nat) (n : Nat) (hown : W.ownsRow base 3 1 v l.length (iv l)) (hl : l.length ≤ 1073741824) (hb : base ≤ W.heap.size) :
    ∃ A c W', (Builtin.append_ #[26, 26] 26 #[v, .slice (some ⟨W.heap.size, 0, none⟩) 1 1]).run Try.prog (W.alloc (.cells #[.int .i64 (n : Int)] 3)) = .ok (.slice A (l ++ [n]).length c) W' ∧ W'.ownsRow base 3 1 (.slice A (l ++ [n]).length c) (l ++ [n]).length (iv (l ++ [n])) ∧ (W.alloc (.cells #[.int .i64 (n : Int)] 3)).grownBy W' v.ownBlock := by
  have hgn : Grew W (W.alloc (.cells #[.int .i64 (n : Int)] 3)) := (Below.refl _ W).alloc (Nat.le_refl _) _
  obtain ⟨i0, hi, hx⟩ := Option.map_eq_some_iff.1 info3
  simp only [Prod.mk.injEq] at hx
  obtain ⟨hz0, hz1, hz2⟩ := hx
  have hcell : (W.alloc (.cells #[.int .i64 (n : Int)] 3)).cell? ⟨W.heap.size, 0, none⟩ = some (.int .i64 (n : Int)) := by
    have h : (W.alloc (.cells #[.int .i64 (n : Int)] 3)).heap[W.heap.size]? = _ := heap_alloc_new W _
    unfold World.cell?
    simp only [h]
    rfl
  obtain ⟨v', W', hr, h5, h6, _⟩ := run_append_own (P := Try.prog) (W.alloc (.cells #[.int .i64 (n : Int)] 3)) base 26 26 3 i0 (.int .i64 0) 1 8 Try.underlying26 hi hz0 hz1 hz2 rfl Nat.one_pos v l.length (iv l) (own_grew hown hgn) ⟨W.heap.size, 0, none⟩ 1 1 [.int .i64 (n : Int)] rfl (fun j u hu => by
    match j, hu with
    | 0, hu => simp at hu; subst hu; rw [Addr.add_mid]; exact hcell) (fun u hu => by simp at hu; subst hu; rfl) (by unfold maxLen; omega) (by omega) (Nat.le_trans hb hgn.size)
  have e : l.length + 1 = (l ++ [n]).length := by simp
  have e2 : iv l ++ [.int .i64 (n : Int)] = iv (l ++ [n]) := by simp [iv]
  rw [e2] at h5
  rw [e] at h5
  obtain ⟨A, c, rfl⟩ := own_sl h5
  exact ⟨A, c, W', hr, h5, h6⟩
/-- Rows of two kinds lie in two blocks. -/
theorem own_apart {W : World} {b1 b2 n1 n2 m1 m2 : Nat} {e1 e2 : TypeId} {v1 v2 : Value} {x1 x2 : List Value} (h1 : W.ownsRow b1 e1 m1 v1 n1 x1) (h2 : W.ownsRow b2 e2 m2 v2 n2 x2) (hne : e1 ≠ e2) : ∀ k, v1.ownBlock = some k → v2.ownBlock ≠ some k := fun k hk hk2 => by
  rcases h1.2 with ⟨rfl, _⟩ | ⟨g, cap, cur, rfl, _, hg, _⟩
  · cases hk
  · rcases h2.2 with ⟨rfl, _⟩ | ⟨g2, cap2, cur2, rfl, _, hg2, _⟩
    · cases hk2
    · simp [Value.ownBlock] at hk hk2
      rw [hk] at hg
      rw [hk2, hg] at hg2
      injection hg2 with q
      injection q with _ q _
      exact hne q
theorem own_kept {W W' : World} {base n m : Nat} {e : TypeId} {v : Value} {xs : List Value} {r : Option Nat} (h : W.ownsRow base e m v n xs) (hg : W.grownBy W' r) (hr : ∀ k, v.ownBlock = some k → r ≠ some k) : W'.ownsRow base e m v n xs := by
  refine ⟨h.1, ?_⟩
  rcases h.2 with h2 | ⟨g, cap, cur, rfl, hb, hg2, h3⟩
  · exact .inl h2
  · exact .inr ⟨g, cap, cur, rfl, hb, (hg.block g (Array.getElem?_eq_some_iff.1 hg2).1 (fun e => hr g rfl e.symm)).trans hg2, h3⟩
theorem sl_kept {n0 base : Nat} {y z : World} {v : Value} {l : List (List UInt8)} {r : Option Nat} (h : SL n0 base y v l) (hg : y.grownBy z r) (hr : ∀ k, v.ownBlock = some k → r ≠ some k) (hr0 : ∀ k, r = some k → n0 ≤ k) : SL n0 base z v l :=
  h.keep (fun b hb hb2 => hg.block b hb2 (fun e => by have := hr0 b e.symm; omega)) fun k hk => hg.block k (h.own k hk).2 (fun e => hr k hk e.symm)

/-- What was wrapped, one behind the other. -/
def cat (K : List (List UInt8)) : List UInt8 := (K.map fr).flatten
theorem cat_cons (x : List UInt8) (K : List (List UInt8)) : cat (x :: K) = fr x ++ cat K := by simp [cat]
theorem cat_app (K M : List (List UInt8)) : cat (K ++ M) = cat K ++ cat M := by simp [cat]
theorem cat_one (x : List UInt8) : cat [x] = fr x := by simp [cat]
theorem cat_len (K : List (List UInt8)) (h : ∀ x ∈ K, x.length ≤ 255) : (cat K).length ≤ 258 * K.length := by
  induction K with
  | nil => simp [cat]
  | cons x K ih =>
    have h1 := ih fun y hy => h y (List.mem_cons_of_mem _ hy)
    have h2 := h x (List.mem_cons_self ..)
    rw [cat_cons, List.length_append, fr_length, List.length_cons]
    omega
theorem lim255 : lim 255 = 255 := by decide
theorem goP_cat (K : List (List UInt8)) (h : ∀ x ∈ K, x.length ≤ 255) : ∀ (g : Nat) (acc : List (List UInt8)), (cat K).length ≤ g → goP 255 g acc (cat K) = (acc ++ K, 0) := by
  induction K with
  | nil =>
    intro g acc _
    cases g with
    | zero => simp [goP]
    | succ g => unfold goP; rw [if_pos (by simp [cat]), List.append_nil]
  | cons x K ih =>
    intro g acc hg
    have hx := h x (List.mem_cons_self ..)
    rw [cat_cons] at hg ⊢
    have hl : (fr x ++ cat K).length = x.length + 3 + (cat K).length := by rw [List.length_append, fr_length]
    cases g with
    | zero => omega
    | succ g =>
      unfold goP
      rw [take_fr x (cat K) 255 (by rw [lim255]; exact hx), if_neg (by omega), if_pos rfl]
      simp only
      rw [List.drop_left' (by rw [fr_length]), ih (fun y hy => h y (List.mem_cons_of_mem _ hy)) g _ (by omega), List.append_assoc]
      rfl
theorem allP_cat (K : List (List UInt8)) (h : ∀ x ∈ K, x.length ≤ 255) : allP (cat K) 255 = (K, 0) := by
  unfold allP
  rw [goP_cat K h _ [] (Nat.le_refl _)]
  rfl
/-- Where each one ends. -/
def ends (K : List (List UInt8)) : List Nat := (List.range K.length).map fun i => (cat (K.take (i + 1))).length
theorem ends_length (K : List (List UInt8)) : (ends K).length = K.length := by simp [ends]
theorem ends_app (K : List (List UInt8)) (x : List UInt8) : ends (K ++ [x]) = ends K ++ [(cat (K ++ [x])).length] := by
  unfold ends
  rw [List.length_append, List.length_singleton, List.range_succ, List.map_append]
  congr 1
  · refine List.map_congr_left fun i hi => ?_
    have := List.mem_range.1 hi
    rw [List.take_append_of_le_length (by omega)]
  · simp only [List.map_cons, List.map_nil]
    rw [List.take_of_length_le (by simp)]
theorem ends_get (K : List (List UInt8)) (i : Nat) (h : i < K.length) : (ends K)[i]? = some (cat (K.take (i + 1))).length := by
  simp [ends, h]
/-- Where the i-th one stands. -/
structure Spot (K : List (List UInt8)) (i : Nat) (x : List UInt8) (at' : Nat) : Prop where
  p : (cat (K.take i)).length = at' ∧ (cat (K.take (i + 1))).length = at' + (x.length + 3) ∧ ∃ R, (cat K).drop at' = fr x ++ R
theorem spot (K : List (List UInt8)) (i : Nat) (x : List UInt8) (h : K[i]? = some x) : Spot K i x (cat (K.take i)).length := by
  have hi := (List.getElem?_eq_some_iff.1 h).1
  have e : K.take (i + 1) = K.take i ++ [x] := by rw [List.take_add_one, h]; rfl
  refine ⟨rfl, by rw [e, cat_app, cat_one, List.length_append, fr_length], cat (K.drop (i + 1)), ?_⟩
  have e2 : K = K.take i ++ (x :: K.drop (i + 1)) := by
    have : K.drop i = x :: K.drop (i + 1) := by
      rw [List.drop_eq_getElem_cons hi]
      congr 1
      exact (List.getElem?_eq_some_iff.1 h).2
    rw [← this, List.take_append_drop]
  have e3 : cat K = cat (K.take i) ++ (fr x ++ cat (K.drop (i + 1))) := by
    rw [← cat_cons, ← cat_app, ← e2]
  rw [e3, List.drop_left' rfl]
theorem spot_full {K : List (List UInt8)} {i : Nat} {x : List UInt8} {a : Nat} (h : Spot K i x a) (hx : x.length ≤ 255) (k : Nat) (hk : a + (x.length + 3) ≤ k) : takeP (((cat K).drop a).take (k - a)) 255 = (x, x.length + 3, 0) := by
  obtain ⟨_, _, R, hR⟩ := h.p
  rw [hR]
  have : (fr x ++ R).take (k - a) = fr x ++ R.take (k - a - (fr x).length) := by
    rw [List.take_append, List.take_of_length_le (by rw [fr_length]; omega)]
  rw [this, take_fr _ _ _ (by rw [lim255]; exact hx)]
theorem spot_cut {K : List (List UInt8)} {i : Nat} {x : List UInt8} {a : Nat} (h : Spot K i x a) (hx : x.length ≤ 255) (k : Nat) (hk : k < a + (x.length + 3)) (hak : a ≤ k) : takeP (((cat K).drop a).take (k - a)) 255 = ([], 0, 12) := by
  obtain ⟨_, _, R, hR⟩ := h.p
  rw [hR]
  have : (fr x ++ R).take (k - a) = (fr x).take (k - a) := by
    rw [List.take_append_of_le_length (by rw [fr_length]; omega)]
  rw [this, take_cut x _ hx (by omega)]
/-- Those that may be wrapped. -/
def fits (l : List (List UInt8)) : List (List UInt8) := l.filter fun x => decide (x.length ≤ 255)
theorem fits_le (l : List (List UInt8)) : ∀ x ∈ fits l, x.length ≤ 255 := fun x hx => by simpa using (List.mem_filter.1 hx).2
theorem fits_len (l : List (List UInt8)) : (fits l).length ≤ l.length := List.length_filter_le _ _
theorem fits_app (l : List (List UInt8)) (x : List UInt8) : fits (l ++ [x]) = if x.length ≤ 255 then fits l ++ [x] else fits l := by
  unfold fits
  rw [List.filter_append]
  by_cases h : x.length ≤ 255
  · simp [h]
  · rw [if_neg h]
    simp [h]
end Go.Proofs.Ythgigkklefaeeaa.FB1
