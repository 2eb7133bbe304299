/-
  Rows of rows of bytes: they grow, and whether two are the same.
  Conditions: those that each lemma names.
-/
import Derived.Test.YthgigkklefaeeaaFU
import Derived.Handy
import Derived.Deep.LoopGhost
import Derived.WalkMore
import Derived.Deep.MidRow
namespace Go.Proofs.Ythgigkklefaeeaa.FS
set_option maxRecDepth 100000
set_option maxRecDepth 100000
open Go Go.RowKit Go.Lib Go.Proofs.Ythgigkklefaeeaa Go.Proofs.Ythgigkklefaeeaa.Facts Go.Proofs.Ythgigkklefaeeaa.Bytes Go.Proofs.Ythgigkklefaeeaa.Puts Go.Proofs.Ythgigkklefaeeaa.Scan Go.Proofs.Ythgigkklefaeeaa.Take Go.Proofs.Ythgigkklefaeeaa.Nums Go.Proofs.Ythgigkklefaeeaa.SumPure Go.Proofs.Ythgigkklefaeeaa.Sum Go.Proofs.Ythgigkklefaeeaa.FP Go.Proofs.Ythgigkklefaeeaa.FW Go.Proofs.Ythgigkklefaeeaa.FX

theorem cellB {w w' : World} {a : Addr} {u : Value} (hg : Grew w w') (h : w.cell? a = some u) : w'.cell? a = some u := by
  rw [World.cell?_of_block (w := w) (hg.block _ (World.block_lt_of_cell? w _ h))]
  exact h
def BS (base : Nat) (w : World) (v : Value) (l : List (List UInt8)) : Prop := ∃ ws : List Value, w.ownsRow base 23 1 v l.length ws ∧ ∀ (i : Nat) (x : List UInt8), l[i]? = some x → ∃ u, ws[i]? = some u ∧ Rd (fun b => b < w.heap.size ∧ v.ownBlock ≠ some b) w u x
theorem BS.nil (base : Nat) (w : World) : BS base w (.slice none 0 0) [] := ⟨[], World.ownsRow_nil _ _ _ _, fun i x h => by cases h⟩
theorem BS.grew {base : Nat} {w w' : World} {v : Value} {l : List (List UInt8)} (h : BS base w v l) (hg : Grew w w') : BS base w' v l := by
  obtain ⟨ws, h1, h2⟩ := h
  refine ⟨ws, own_grew h1 hg, fun i x hx => ?_⟩
  obtain ⟨u, hu, hr⟩ := h2 i x hx
  exact ⟨u, hu, (hr.grew hg).mono fun b hb => ⟨Nat.lt_of_lt_of_le hb.1 hg.size, hb.2⟩⟩
theorem zero23 : (Try.prog.info? 23).map (fun i => (i.zero.map (·.cells.size), i.size, i.bytes)) = some (some 1, 1, 24) := by kernel_rfl
theorem parts23 : ∃ i z, Try.prog.info? 23 = some i ∧ i.zero = some z ∧ i.size = 1 ∧ i.bytes = 24 ∧ z.cells.size = 1 := by
  have h := zero23
  cases hq : Try.prog.info? 23 with
  | none => simp [hq] at h
  | some i =>
    cases hz : i.zero with
    | none => simp [hq, hz] at h
    | some z => simp [hq, hz] at h; exact ⟨i, z, rfl, hz, h.2.1, h.2.2, h.1⟩
theorem app_bytes (W : World) (base : Nat) (v : Value) (ws : List Value) (n : Nat) (B : Value) (h1B : B.oneCell' = true) (kk : Nat) (hown : W.ownsRow base 23 1 v n ws) (hk : W.cell? ⟨kk, 0, none⟩ = some B) (hl : n ≤ 1073741824) (hb : base ≤ W.heap.size) :
    ∃ v' W', (Builtin.append_ #[52, 52] 52 #[v, .slice (some ⟨kk, 0, none⟩) 1 1]).run Try.prog W = .ok v' W' ∧ W'.ownsRow base 23 1 v' (n + 1) (ws ++ [B]) ∧ W.grownBy W' v.ownBlock ∧ (∀ j, v'.ownBlock = some j → v.ownBlock = some j ∨ W.heap.size ≤ j) := by
  obtain ⟨i, z, hi, hz, hs, hby, hzs⟩ := parts23
  have hnews : ∀ j u, [B][j]? = some u → W.cell? ((⟨kk, 0, none⟩ : Addr).add j) = some u := fun j u hu => by
    match j, hu with
    | 0, hu => simp at hu; subst hu; rw [Addr.add_mid]; exact hk
  have h1 : ∀ u ∈ [B], u.oneCell' = true := fun u hu => by simp at hu; subst hu; exact h1B
  obtain ⟨v', W', hr, h2, h3, _⟩ := run_append_own (P := Try.prog) W base 52 52 23 i z 1 24 Try.underlying52 hi hz hs hby hzs (by omega) v n ws hown ⟨kk, 0, none⟩ 1 1 [B] rfl hnews h1 (by unfold maxLen; omega) (by omega) hb
  refine ⟨v', W', hr, h2, h3, ?_⟩
  intro j hj
  rcases hown.2 with ⟨rfl, h0⟩ | ⟨g, cap, cur, rfl, hbg, hg, hnc, hcm, hcs, htake⟩
  · have hx0 : ws = [] := List.eq_nil_of_length_eq_zero (by have := hown.1; omega)
    subst hx0
    subst h0
    obtain ⟨v2, W2, hr2, h52, _, _⟩ := run_append_own (P := Try.prog) W W.heap.size 52 52 23 i z 1 24 Try.underlying52 hi hz hs hby hzs (by omega) (.slice none 0 0) 0 [] (World.ownsRow_nil _ _ _ _) ⟨kk, 0, none⟩ 1 1 [B] rfl hnews h1 (by decide) (by omega) (Nat.le_refl _)
    have e := hr.symm.trans hr2
    injection e with e1 e2
    subst e1
    rcases h52.2 with ⟨rfl, _⟩ | ⟨q, _, _, rfl, hq2, _⟩
    · cases hj
    · simp [Value.ownBlock] at hj
      subst hj
      exact .inr hq2
  · by_cases hroom : n + 1 ≤ cap
    · have hfit : n * i.size + [B].length ≤ cur.size := by rw [hs, hcs]; simp; omega
      have hr2 := run_append_room (P := Try.prog) W 52 52 23 i Try.underlying52 hi g n cap cur hg ⟨kk, 0, none⟩ 1 1 [B] (by rw [hs]; rfl) hnews h1 hroom hfit
      have e := hr.symm.trans hr2
      injection e with e1 e2
      subst e1
      exact .inl hj
    · have holds : ∀ j u, ws[j]? = some u → W.cell? ((⟨g, 0, none⟩ : Addr).add j) = some u := hown.cells (g := g) rfl
      have hr2 := run_append_grow (P := Try.prog) W 52 52 23 i z Try.underlying52 hi hz ⟨g, 0, none⟩ n cap ws (by rw [hs]; exact hown.1) holds ⟨kk, 0, none⟩ 1 1 [B] (by rw [hs]; rfl) hnews (by omega) (by omega) (by rw [hby]; exact growslice_fits (by omega) (by omega))
      have e := hr.symm.trans hr2
      injection e with e1 e2
      subst e1
      simp [Value.ownBlock] at hj
      exact .inr (by omega)
theorem own_sl {w : World} {b e m n : Nat} {v : Value} {xs : List Value} (h : w.ownsRow b e m v n xs) : ∃ A c, v = .slice A n c := by
  rcases h.2 with ⟨rfl, rfl⟩ | ⟨g, cap, cur, rfl, _⟩
  · exact ⟨_, _, rfl⟩
  · exact ⟨_, _, rfl⟩
theorem bs_app (w3 : World) (base : Nat) (v : Value) (said : List (List UInt8)) (S : Nat → Prop) (u : Value) (x : List UInt8) (hb : BS base w3 v said) (hu : u.oneCell' = true) (hr : Rd S w3 u x) (hS : ∀ b, S b → v.ownBlock ≠ some b) (hl : said.length ≤ 1073741824) (hbs : base ≤ w3.heap.size) :
    ∃ A c W', (Builtin.append_ #[52, 52] 52 #[v, .slice (some ⟨w3.heap.size, 0, none⟩) 1 1]).run Try.prog (w3.alloc (.cells #[u] 23))= .ok (.slice A (said ++ [x]).length c) W' ∧ BS base W' (.slice A (said ++ [x]).length c) (said ++ [x]) ∧ Below base w3 W' := by
  have hgn : Grew w3 (w3.alloc (.cells #[u] 23)) := (Below.refl _ _).alloc (Nat.le_refl _) _
  obtain ⟨ws, hown, hel⟩ := hb
  have hcell : (w3.alloc (.cells #[u] 23)).cell? ⟨w3.heap.size, 0, none⟩ = some u := by
    have h : (w3.alloc (.cells #[u] 23)).heap[w3.heap.size]? = _ := heap_alloc_new w3 _
    unfold World.cell?
    simp only [h]
    rfl
  obtain ⟨v', W', hrun, hown2, hgb, hob⟩ := app_bytes (w3.alloc (.cells #[u] 23)) base v ws said.length u hu w3.heap.size (own_grew hown hgn) hcell hl (Nat.le_trans hbs hgn.size)
  have hlen : said.length + 1 = (said ++ [x]).length := by simp
  rw [hlen] at hown2
  obtain ⟨A, c, rfl⟩ := own_sl hown2
  have hvb : ∀ k, v.ownBlock = some k → base ≤ k ∧ k < w3.heap.size := fun k hk => by
    rcases hown.2 with ⟨rfl, _⟩ | ⟨g, cap, cur, rfl, hb1, hg1, _⟩
    · cases hk
    · simp [Value.ownBlock] at hk
      subst hk
      exact ⟨hb1, (Array.getElem?_eq_some_iff.1 hg1).1⟩
  have hwl : ws.length = said.length := by have := hown.1; omega
  have hmove : ∀ (T : Nat → Prop) (y : Value) (z : List UInt8), Rd T w3 y z → (∀ b, T b → b < w3.heap.size → v.ownBlock ≠ some b) → Rd (fun b => b < W'.heap.size ∧ (Value.slice A (said ++ [x]).length c).ownBlock ≠ some b) W' y z := fun T y z hy hT => by
    have h1 : Rd (fun b => T b ∧ b < w3.heap.size) W' y z := hy.lt.keep fun b hb1 hb2 => (hgb.block b (Nat.lt_of_lt_of_le hb1 hgn.size) (fun e => hT b hb2.1 hb2.2 e.symm)).trans (hgn.block b hb1)
    refine h1.mono fun b hb => ⟨Nat.lt_of_lt_of_le hb.2 (Nat.le_trans hgn.size hgb.size), fun e => ?_⟩
    rcases hob b e with h | h
    · exact hT b hb.1 hb.2 h
    · have := hgn.size; have := hb.2; omega
  refine ⟨A, c, W', hrun, ⟨ws ++ [u], hown2, fun i y hy => ?_⟩, ((Below.refl base w3).alloc hbs _).trans (below_of_grown _ hgb (Nat.le_trans hbs hgn.size) fun k hk => (hvb k hk).1)⟩
  by_cases hi : i < said.length
  · rw [List.getElem?_append_left hi] at hy
    obtain ⟨q, hq, hq2⟩ := hel i y hy
    exact ⟨q, by rw [List.getElem?_append_left (by omega)]; exact hq, hmove _ q y hq2 fun b hb _ => hb.2⟩
  · rw [List.getElem?_append_right (by omega)] at hy
    have hi2 : i = said.length := by
      rcases Nat.eq_zero_or_pos (i - said.length) with h | h
      · omega
      · rw [List.getElem?_eq_none (by simp; omega)] at hy; cases hy
    subst hi2
    simp at hy
    subst hy
    exact ⟨u, by rw [List.getElem?_append_right (by omega), hwl, Nat.sub_self]; rfl, hmove S u x hr fun b hb _ => hS b hb⟩
/-- A row of rows of bytes, as it is read. -/
def RR (w : World) (v : Value) (l : List (List UInt8)) : Prop := ∃ A c, v = .slice A l.length c ∧ ∀ (i : Nat) (x : List UInt8), l[i]? = some x → ∃ ad A2 c2, A = some ad ∧ w.cell? (ad.add i) = some (.slice A2 x.length c2) ∧ Rd (fun b => b < w.heap.size) w (.slice A2 x.length c2) x
theorem RR.of_bs {base : Nat} {w : World} {v : Value} {l : List (List UInt8)} (h : BS base w v l) : RR w v l := by
  obtain ⟨ws, ho, he⟩ := h
  obtain ⟨A, c, rfl⟩ := own_sl ho
  refine ⟨A, c, rfl, fun i x hx => ?_⟩
  obtain ⟨u, hu, hr⟩ := he i x hx
  rcases ho.2 with ⟨_, h0⟩ | ⟨g, cap, cur, hsl, _⟩
  · have := (List.getElem?_eq_some_iff.1 hx).1; omega
  injection hsl with hs1 _ _
  obtain ⟨A2, c2, rfl, _⟩ := id hr
  exact ⟨⟨g, 0, none⟩, A2, c2, hs1, ho.cells (g := g) (by rw [hs1]; rfl) i _ hu, hr.mono fun b hb => hb.1⟩
theorem take_same (a b : List (List UInt8)) (i : Nat) (h : a.take i = b.take i) (x y : List UInt8) (hx : a[i]? = some x) (hy : b[i]? = some y) : (a.take (i + 1) = b.take (i + 1)) ↔ x = y := by
  rw [List.take_add_one, List.take_add_one, hx, hy, h]
  simp
end Go.Proofs.Ythgigkklefaeeaa.FS
