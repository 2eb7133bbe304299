/-
  Rows of rows of bytes, put behind one another; the region that lays one such row and one row more behind an empty one, in any order.
  Conditions: those that each lemma names.
-/
import Derived.Test.YtbnicphegbdfnaaJU
import Derived.Test.YtbnicphegbdfnaaJT
import Derived.Maps.AppendAt
namespace Go.Proofs.Ytbnicphegbdfnaa.JX
set_option maxRecDepth 100000
open Go Go.RowKit Go.Proofs.Ytbnicphegbdfnaa Go.Proofs.Ytbnicphegbdfnaa.Facts Go.Proofs.Ytbnicphegbdfnaa.Bytes Go.Proofs.Ytbnicphegbdfnaa.DKeep Go.Proofs.Ytbnicphegbdfnaa.DSmall Go.Proofs.Ytbnicphegbdfnaa.Puts Go.Proofs.Ytbnicphegbdfnaa.JB Go.Proofs.Ytbnicphegbdfnaa.JE Go.Proofs.Ytbnicphegbdfnaa.JF Go.Proofs.Ytbnicphegbdfnaa.JT

/-- A row of rows of bytes, whose rows lie below n0. -/
def SL (n0 base : Nat) (y : World) (v : Value) (l : List (List UInt8)) : Prop := ∃ ws : List Value, y.ownsRow base 23 1 v l.length ws ∧ ∀ (i : Nat) (x : List UInt8), l[i]? = some x → ∃ u, ws[i]? = some u ∧ Rd (fun b => b < n0) y u x
theorem SL.nil (n0 base : Nat) (y : World) : SL n0 base y (.slice none 0 0) [] := ⟨[], World.ownsRow_nil _ _ _ _, fun i x h => by cases h⟩
theorem SL.grew {n0 base : Nat} {y z : World} {v : Value} {l : List (List UInt8)} (h : SL n0 base y v l) (hg : Grew y z) : SL n0 base z v l := by
  obtain ⟨ws, h1, h2⟩ := h
  refine ⟨ws, own_grew h1 hg, fun i x hx => ?_⟩
  obtain ⟨u, hu, hr⟩ := h2 i x hx
  exact ⟨u, hu, hr.grew hg⟩
theorem SL.own {n0 base : Nat} {y : World} {v : Value} {l : List (List UInt8)} (h : SL n0 base y v l) : ∀ k, v.ownBlock = some k → base ≤ k ∧ k < y.heap.size := fun k hk => by
  obtain ⟨ws, hown, _⟩ := h
  rcases hown.2 with ⟨rfl, _⟩ | ⟨g, cap, cur, rfl, hb1, hg1, _⟩
  · cases hk
  · simp [Value.ownBlock] at hk
    subst hk
    exact ⟨hb1, (Array.getElem?_eq_some_iff.1 hg1).1⟩
theorem SL.slice {n0 base : Nat} {y : World} {v : Value} {l : List (List UInt8)} (h : SL n0 base y v l) : ∃ A c, v = .slice A l.length c := by
  obtain ⟨ws, hown, _⟩ := h
  exact own_sl hown
theorem SL.keep {n0 base : Nat} {y z : World} {v : Value} {l : List (List UInt8)} (h : SL n0 base y v l) (hlow : ∀ b, b < n0 → b < y.heap.size → z.heap[b]? = y.heap[b]?) (hown : ∀ k, v.ownBlock = some k → z.heap[k]? = y.heap[k]?) : SL n0 base z v l := by
  obtain ⟨ws, h1, h2⟩ := h
  refine ⟨ws, ⟨h1.1, ?_⟩, fun i x hx => ?_⟩
  · rcases h1.2 with h3 | ⟨g, cap, cur, rfl, hb, hg, h3⟩
    · exact .inl h3
    · exact .inr ⟨g, cap, cur, rfl, hb, (hown g rfl).trans hg, h3⟩
  · obtain ⟨u, hu, hr⟩ := h2 i x hx
    exact ⟨u, hu, hr.keep fun b hb hS => hlow b hS hb⟩
theorem SL.rr {n0 base : Nat} {y : World} {v : Value} {l : List (List UInt8)} (h : SL n0 base y v l) : JS.RR y v l := by
  obtain ⟨ws, ho, he⟩ := h
  obtain ⟨A, c, rfl⟩ := own_sl ho
  refine ⟨A, c, rfl, fun i x hx => ?_⟩
  obtain ⟨u, hu, hr⟩ := he i x hx
  rcases ho.2 with ⟨_, h0⟩ | ⟨g, cap, cur, hsl, _⟩
  · have := (List.getElem?_eq_some_iff.1 hx).1; omega
  injection hsl with hs1 _ _
  obtain ⟨A2, c2, rfl, _⟩ := id hr
  exact ⟨⟨g, 0, none⟩, A2, c2, hs1, ho.cells (g := g) (by rw [hs1]; rfl) i _ hu, hr.lt.mono fun b hb => hb.2⟩
theorem SL.base {n0 base b2 : Nat} {y : World} {v : Value} {l : List (List UInt8)} (h : SL n0 base y v l) (hb : b2 ≤ base) : SL n0 b2 y v l := by
  obtain ⟨ws, h1, h2⟩ := h
  refine ⟨ws, ⟨h1.1, ?_⟩, h2⟩
  rcases h1.2 with h3 | ⟨g, cap, cur, rfl, hq, hg, h3⟩
  · exact .inl h3
  · exact .inr ⟨g, cap, cur, rfl, Nat.le_trans hb hq, hg, h3⟩
/-- Rows of bytes are put behind a row of them. -/
theorem sl_app_at (n0 : Nat) (W : World) (base : Nat) (v : Value) (said more : List (List UInt8)) (ad : Addr) (c : Nat) (ws2 : List Value) (hb : SL n0 base W v said) (hn0 : n0 ≤ base) (hl2 : ws2.length = more.length) (hcells : ∀ j u, ws2[j]? = some u → W.cell? (ad.add j) = some u)
    (hrd : ∀ (i : Nat) (x : List UInt8), more[i]? = some x → ∃ u, ws2[i]? = some u ∧ Rd (fun b => b < n0) W u x) (hn : said.length + more.length ≤ 1073741824) (hbase : base ≤ W.heap.size) :
    ∃ A c' W', (Builtin.append_ #[57, 57] 57 #[v, .slice (some ad) more.length c]).run Try.prog W = .ok (.slice A (said ++ more).length c') W' ∧ SL n0 base W' (.slice A (said ++ more).length c') (said ++ more) ∧ W.grownBy W' v.ownBlock ∧
      ((Value.slice A (said ++ more).length c').ownBlock = v.ownBlock ∨ (Value.slice A (said ++ more).length c').ownBlock = some W.heap.size) := by
  have hob0 := hb.own
  obtain ⟨ws, hown, hel⟩ := hb
  obtain ⟨i, z, hi, hz, hs, hby, hzs⟩ := parts23
  have hone : ∀ u ∈ ws2, u.oneCell' = true := fun u hu => by
    obtain ⟨i, hi, he⟩ := List.getElem_of_mem hu
    obtain ⟨u2, h1, h2⟩ := hrd i (more[i]'(by omega)) (List.getElem?_eq_getElem _)
    rw [List.getElem?_eq_getElem hi, he] at h1
    injection h1 with h1
    obtain ⟨A2, c2, e2, _⟩ := h2
    rw [h1, e2]
    rfl
  obtain ⟨v', W', hrun, hown2, hgb, _, hob⟩ := run_append_own_at (P := Try.prog) W base 57 57 23 i z 1 24 Try.underlying57 hi hz hs hby hzs (by omega) v said.length ws hown ad more.length c ws2 (by omega) hcells hone (by unfold maxLen; omega) (by omega) hbase
  have hlen : said.length + more.length = (said ++ more).length := by simp
  rw [hlen] at hown2
  obtain ⟨A, c', rfl⟩ := own_sl hown2
  have hwl : ws.length = said.length := by have := hown.1; omega
  have hmove : ∀ (y : Value) (z : List UInt8), Rd (fun b => b < n0) W y z → Rd (fun b => b < n0) W' y z := fun y z hy => hy.keep fun b hb1 hb2 => hgb.block b hb1 (fun e => by have := (hob0 b e.symm).1; omega)
  refine ⟨A, c', W', hrun, ⟨ws ++ ws2, hown2, fun i y hy => ?_⟩, hgb, hob⟩
  by_cases hi : i < said.length
  · rw [List.getElem?_append_left hi] at hy
    obtain ⟨q, hq, hq2⟩ := hel i y hy
    exact ⟨q, by rw [List.getElem?_append_left (by omega)]; exact hq, hmove q y hq2⟩
  · rw [List.getElem?_append_right (by omega)] at hy
    obtain ⟨q, hq, hq2⟩ := hrd _ y hy
    exact ⟨q, by rw [List.getElem?_append_right (by omega), hwl]; exact hq, hmove q y hq2⟩
theorem sl_app_none (n0 : Nat) (W : World) (base : Nat) (v : Value) (said : List (List UInt8)) (hb : SL n0 base W v said) : (Builtin.append_ #[57, 57] 57 #[v, .slice none 0 0]).run Try.prog W = .ok v W := by
  obtain ⟨ws, hown, _⟩ := hb
  obtain ⟨i, z, hi, hz, hs, hby, hzs⟩ := parts23
  exact run_append_owned_none W base 57 57 23 i 1 Try.underlying57 hi v said.length ws hown
/-- All of a row of rows of bytes is put behind an empty one. -/
theorem sl_app_all (n0 : Nat) (W : World) (b0 base : Nat) (v vs : Value) (sure : List (List UInt8)) (hb : SL n0 base W v []) (hn0 : n0 ≤ base) (hs : SL n0 b0 W vs sure) (hbase : base ≤ W.heap.size) (hn : sure.length ≤ 1073741824) :
    ∃ A c' W', (Builtin.append_ #[57, 57] 57 #[v, vs]).run Try.prog W = .ok (.slice A sure.length c') W' ∧ SL n0 base W' (.slice A sure.length c') sure ∧ W.grownBy W' v.ownBlock ∧ ((Value.slice A sure.length c').ownBlock = v.ownBlock ∨ (Value.slice A sure.length c').ownBlock = some W.heap.size) := by
  obtain ⟨ws, hown, hq⟩ := hs
  have hwl : ws.length = sure.length := by have := hown.1; omega
  rcases hown.2 with ⟨rfl, h0⟩ | ⟨g, cap, cur, rfl, _⟩
  · have hs0 : sure = [] := List.eq_nil_of_length_eq_zero h0
    subst hs0
    have hr := sl_app_none n0 W base v [] hb
    obtain ⟨A, c', rfl⟩ := hb.slice
    exact ⟨A, c', W, hr, hb, ⟨rfl, rfl, rfl, Nat.le_refl _, fun _ _ _ => rfl⟩, .inl rfl⟩
  · have hcells : ∀ j u, ws[j]? = some u → W.cell? ((⟨g, 0, none⟩ : Addr).add j) = some u := hown.cells (g := g) rfl
    exact sl_app_at n0 W base v [] sure ⟨g, 0, none⟩ cap ws hb hn0 hwl hcells hq (by simpa using hn) hbase
theorem sl_lit (n0 : Nat) (W : World) : SL n0 W.heap.size (W.alloc (.cells #[] 23)) (.slice (some ⟨W.heap.size, 0, none⟩) 0 0) [] :=
  ⟨[], World.ownsRow_lit W #[] 0 (Nat.le_refl _) (Nat.zero_le _) rfl, fun i x h => by cases h⟩
/-- One row is put behind. -/
theorem sl_run (n0 : Nat) (y : World) (base : Nat) (v u : Value) (l : List (List UInt8)) (x : List UInt8) (hb : SL n0 base y v l) (hn0 : n0 ≤ base) (hr : Rd (fun b => b < n0) y u x) (hbase : base ≤ y.heap.size) (hn : l.length ≤ 1073741000) :
    ∃ A c' W', (Builtin.append_ #[57, 57] 57 #[v, .slice (some ⟨y.heap.size, 0, none⟩) 1 1]).run Try.prog (y.alloc (.cells #[u] 23)) = .ok (.slice A (l ++ [x]).length c') W' ∧ SL n0 base W' (.slice A (l ++ [x]).length c') (l ++ [x]) ∧ (y.alloc (.cells #[u] 23)).grownBy W' v.ownBlock ∧
      ((Value.slice A (l ++ [x]).length c').ownBlock = v.ownBlock ∨ (Value.slice A (l ++ [x]).length c').ownBlock = some (y.alloc (.cells #[u] 23)).heap.size) := by
  have hgn : Grew y (y.alloc (.cells #[u] 23)) := (Below.refl _ y).alloc (Nat.le_refl _) _
  have hcell : (y.alloc (.cells #[u] 23)).cell? ⟨y.heap.size, 0, none⟩ = some u := by
    have h : (y.alloc (.cells #[u] 23)).heap[y.heap.size]? = _ := heap_alloc_new y _
    unfold World.cell?
    simp only [h]
    rfl
  have := sl_app_at n0 (y.alloc (.cells #[u] 23)) base v l [x] ⟨y.heap.size, 0, none⟩ 1 [u] (hb.grew hgn) hn0 rfl (fun j z hz => by
    match j, hz with
    | 0, hz => simp at hz; subst hz; rw [Addr.add_mid]; exact hcell) (fun i z hz => by
    match i, hz with
    | 0, hz => simp at hz; subst hz; exact ⟨u, rfl, hr.grew hgn⟩) (by simp; omega) (Nat.le_trans hbase hgn.size)
  exact this

/-- A disk, its journal, and rows of rows that lie apart from both. -/
def AS (w : World) (g gj : Nat) (j : Jr) (d : Pd) (V : List (Value × List (List UInt8))) (y : World) : Prop :=
  ∃ D, DK y g D d ∧ JL y gj g j ∧ DAlive.Above D w.heap.size ∧ (∀ k, D k → k < y.heap.size) ∧ ¬ D gj ∧ Grew w y ∧ ∀ p ∈ V, SL w.heap.size w.heap.size y p.1 p.2 ∧ ∀ k, p.1.ownBlock = some k → ¬ D k ∧ k ≠ gj
section
variable {w y z : World} {g gj : Nat} {j : Jr} {d : Pd} {V : List (Value × List (List UInt8))}
theorem AS.grew (h : AS w g gj j d V y) (hg : Grew y z) : AS w g gj j d V z := by
  obtain ⟨D, h1, h2, h4, h5, h6, h7, h8⟩ := h
  exact ⟨D, h1.grew hg, h2.grew hg, h4, fun k hk => Nat.lt_of_lt_of_le (h5 k hk) hg.size, h6, h7.trans hg, fun p hp => ⟨(h8 p hp).1.grew hg, (h8 p hp).2⟩⟩
theorem AS.at' (h : AS w g gj j d V y) : AT w g gj j d y := by
  obtain ⟨D, h1, h2, h4, h5, h6, h7, h8⟩ := h
  exact ⟨D, h1, h2, h4, h5, h6, h7⟩
theorem AS.gr (h : AS w g gj j d V y) : Grew w y := h.at'.g
theorem AS.row (h : AS w g gj j d V y) {p : Value × List (List UInt8)} (hp : p ∈ V) : SL w.heap.size w.heap.size y p.1 p.2 := by
  obtain ⟨D, h1, h2, h4, h5, h6, h7, h8⟩ := h
  exact (h8 p hp).1
theorem AS.of_at (h : AT w g gj j d y) : AS w g gj j d [] y := by
  obtain ⟨D, h1, h2, h4, h5, h6, h7⟩ := h
  exact ⟨D, h1, h2, h4, h5, h6, h7, fun p hp => by cases hp⟩
theorem AS.nil (h : AS w g gj j d V y) : AS w g gj j d ((.slice none 0 0, []) :: V) y := by
  obtain ⟨D, h1, h2, h4, h5, h6, h7, h8⟩ := h
  refine ⟨D, h1, h2, h4, h5, h6, h7, fun p hp => ?_⟩
  rcases List.mem_cons.1 hp with rfl | hp
  · exact ⟨SL.nil _ _ _, fun k hk => by cases hk⟩
  · exact h8 p hp
/-- A new row lies apart. -/
theorem AS.add (h : AS w g gj j d V y) (hg : Grew y z) {v : Value} {l : List (List UInt8)} (hs : SL w.heap.size y.heap.size z v l) : AS w g gj j d ((v, l) :: V) z := by
  have hown := hs.own
  have hwy := h.gr.size
  have h2 := h.grew hg
  obtain ⟨D, a1, a2, a4, a5, a6, a7, a8⟩ := h
  refine ⟨D, a1.grew hg, a2.grew hg, a4, fun k hk => Nat.lt_of_lt_of_le (a5 k hk) hg.size, a6, a7.trans hg, fun p hp => ?_⟩
  rcases List.mem_cons.1 hp with rfl | hp
  · refine ⟨hs.base hwy, fun k hk => ⟨fun hd => ?_, fun e => ?_⟩⟩
    · have := a5 k hd; have := (hown k hk).1; omega
    · have := (hown k hk).1
      have := (Array.getElem?_eq_some_iff.1 a2).1
      omega
  · exact ⟨(a8 p hp).1.grew hg, (a8 p hp).2⟩
end
theorem as_app (w y : World) (g gj : Nat) (j j' : Jr) (d d' : Pd) (q : Int) (V : List (Value × List (List UInt8))) (S : Nat → Prop) (v : Value) (b : List UInt8) (h : AS w g gj j d V y) (hgj : w.heap.size ≤ gj) (hk : JK j) (hb : 1 ≤ j.base) (hw : d.waits.length ≤ 1000000000) (hr : Rd S y v b) (he : japp j d b = (j', d', q)) :
    Calls Try.prog 27 #[.pointer (some ⟨gj, 0, none⟩), v] y fun e z => e = .returned (.int .i64 q) ∧ AS w g gj j' d' V z := by
  obtain ⟨D, h1, h2, h4, h5, h6, h7, h8⟩ := h
  have hc := japp_any y gj g j D d S v b h2 hk hb h1 h6 hr hw
  rw [he] at hc
  have hlt : gj < y.heap.size := (Array.getElem?_eq_some_iff.1 h2).1
  refine hc.mono ?_
  rintro e z ⟨rfl, D', hd, hs, hj, hk⟩
  have hn : ¬ D' gj := fun hx => by
    rcases hs gj hx with h | h
    · exact h6 h
    · omega
  refine ⟨rfl, D', hd, hj, DAlive.above_sub h4 hs h7.size, hd.1, hn, DAlive.grew_kept h7 hk (fun k hk => by rcases hk with hk | rfl; exact h4 k hk; exact hgj), fun p hp => ?_⟩
  obtain ⟨a1, a2⟩ := h8 p hp
  refine ⟨a1.keep (fun b hb hb2 => hk.block b hb2 fun hd => ?_) (fun k hk2 => hk.block k (a1.own k hk2).2 fun hd => ?_), fun k hk2 => ⟨fun hd => ?_, (a2 k hk2).2⟩⟩
  · rcases hd with hd | rfl
    · have := h4 b hd; omega
    · omega
  · rcases hd with hd | rfl
    · exact (a2 k hk2).1 hd
    · exact (a2 k hk2).2 rfl
  · rcases hs k hd with h | h
    · exact (a2 k hk2).1 h
    · have := (a1.own k hk2).2; omega
theorem as_crash (w y : World) (g gj : Nat) (j : Jr) (d : Pd) (V : List (Value × List (List UInt8))) (S : Nat → Prop) (v : Value) (keep : List UInt8) (h : AS w g gj j d V y) (hgj : w.heap.size ≤ gj) (hw : d.waits.length ≤ 1000000000) (hr : Rd S y v keep) (hS : ∀ b, S b → b < w.heap.size) :
    Calls Try.prog 21 #[.pointer (some ⟨g, 0, none⟩), v] y fun e z => e = .returned (.int .i64 0) ∧ AS w g gj j (DFlush.crashed d keep) V z := by
  obtain ⟨D, h1, h2, h4, h5, h6, h7, h8⟩ := h
  refine (DFlush.crash_any y g D d S v keep h1 hr (fun b hb hd => by have := h4 b hd; have := hS b hb; omega) (by omega)).mono ?_
  rintro e z ⟨rfl, hd, hk⟩
  refine ⟨rfl, D, hd, ?_, h4, hd.1, h6, DAlive.grew_kept h7 hk fun k hk => h4 k hk, fun p hp => ?_⟩
  · exact (hk.block gj (Array.getElem?_eq_some_iff.1 h2).1 h6).trans h2
  · obtain ⟨a1, a2⟩ := h8 p hp
    refine ⟨a1.keep (fun b hb hb2 => hk.block b hb2 fun hd => ?_) (fun k hk2 => hk.block k (a1.own k hk2).2 fun hd => ?_), a2⟩
    · have := h4 b hd; omega
    · exact (a2 k hk2).1 hd
/-- One row is put behind the first of the rows. -/
theorem as_put (w y : World) (g gj : Nat) (j : Jr) (d : Pd) (V : List (Value × List (List UInt8))) (v u : Value) (l : List (List UInt8)) (x : List UInt8) (h : AS w g gj j d [(v, l)] y) (hr : Rd (fun b => b < w.heap.size) y u x) (hn : l.length ≤ 1073741000) :
    ∃ A c' W', (Builtin.append_ #[57, 57] 57 #[v, .slice (some ⟨y.heap.size, 0, none⟩) 1 1]).run Try.prog (y.alloc (.cells #[u] 23)) = .ok (.slice A (l ++ [x]).length c') W' ∧ AS w g gj j d [(.slice A (l ++ [x]).length c', l ++ [x])] W' := by
  obtain ⟨D, h1, h2, h4, h5, h6, h7, h8⟩ := h
  obtain ⟨a1, a2⟩ := h8 _ (List.mem_singleton_self _)
  obtain ⟨A, c', W', hrun, hs, hgb, hob⟩ := sl_run w.heap.size y w.heap.size v u l x a1 (Nat.le_refl _) hr h7.size hn
  have hgn : Grew y (y.alloc (.cells #[u] 23)) := (Below.refl _ y).alloc (Nat.le_refl _) _
  have hk : Kept (fun k => v.ownBlock = some k) y W' := (Kept.of_grew hgn).trans (Kept.of_grown hgb fun k hk => hk)
  refine ⟨A, c', W', hrun, D, h1.keep hk fun k hd e => (a2 k e).1 hd, ?_, h4, fun k hd => Nat.lt_of_lt_of_le (h5 k hd) hk.size, h6, DAlive.grew_kept h7 hk (fun k e => (a1.own k e).1), fun p hp => ?_⟩
  · exact (hk.block gj (Array.getElem?_eq_some_iff.1 h2).1 (fun e => (a2 gj e).2 rfl)).trans h2
  · rw [List.mem_singleton] at hp
    subst hp
    refine ⟨hs, fun k hk2 => ?_⟩
    rcases hob with e | e
    · have hk2' : (Value.slice A (l ++ [x]).length c').ownBlock = some k := hk2
      rw [e] at hk2'
      exact a2 k hk2'
    · have hk2' : (Value.slice A (l ++ [x]).length c').ownBlock = some k := hk2
      rw [e] at hk2'
      injection hk2' with hk2'
      have hz := hgn.size
      refine ⟨fun hd => ?_, fun e => ?_⟩
      · have := h5 k hd; omega
      · have := (Array.getElem?_eq_some_iff.1 h2).1; omega

/-- The region's states: its operations 0 (an empty row), 2 (all of sure behind it), 7 (a row of one), 8 (that behind it), 9 (it is kept). -/
structure JX (n0 : Nat) (W0 : World) (sure : List (List UInt8)) (x : List UInt8) (vB : Value) (m : Nat → Bool) (u : Nat → Value) (w : World) : Prop where
  gr : Grew W0 w
  d2 : m 2 = true → m 0 = true
  d8 : m 8 = true → m 2 = true
  d87 : m 8 = true → m 7 = true
  d9 : m 9 = true → m 8 = true
  u0 : m 0 = true → m 2 = false → SL n0 W0.heap.size w (u 0) []
  u7 : m 7 = true → m 8 = false → ∃ q, u 7 = .slice (some ⟨q, 0, none⟩) 1 1 ∧ q < w.heap.size ∧ w.cell? ⟨q, 0, none⟩ = some vB ∧ (m 0 = true → m 2 = false → (u 0).ownBlock ≠ some q)
  u2 : m 2 = true → m 8 = false → SL n0 W0.heap.size w (u 2) sure
  u8 : m 8 = true → m 9 = false → SL n0 W0.heap.size w (u 8) (sure ++ [x])
  u9 : m 9 = true → SL n0 W0.heap.size w (u 9) (sure ++ [x])
section
variable {n0 : Nat} {W0 : World} {sure : List (List UInt8)} {x : List UInt8} {vB : Value} {m : Nat → Bool} {u : Nat → Value} {w w' : World}
theorem off {a b : Bool} (h : a = true → b = true) (hb : b = false) : a = false := by cases a with
  | false => rfl
  | true => rw [h rfl] at hb; cases hb
theorem JX.start (w : World) : JX n0 w.drew sure x vB (fun _ => false) (fun _ => undef) w.drew :=
  ⟨Grew.refl _, (fun h => by cases h), (fun h => by cases h), (fun h => by cases h), (fun h => by cases h), (fun h => by cases h), (fun h => by cases h), (fun h => by cases h), (fun h => by cases h), (fun h => by cases h)⟩
theorem JX.keep (h : JX n0 W0 sure x vB m u w) (k : Nat) (v : Value) (h0 : k ≠ 0) (h2 : k ≠ 2) (h7 : k ≠ 7) (h8 : k ≠ 8) (h9 : k ≠ 9) : JX n0 W0 sure x vB (Marks.upd m k) (Marks.updv u k v) w := by
  have e0 := Marks.upd_other m (Ne.symm h0)
  have e2 := Marks.upd_other m (Ne.symm h2)
  have e7 := Marks.upd_other m (Ne.symm h7)
  have e8 := Marks.upd_other m (Ne.symm h8)
  have e9 := Marks.upd_other m (Ne.symm h9)
  have f0 := Marks.updv_other u v (Ne.symm h0)
  have f2 := Marks.updv_other u v (Ne.symm h2)
  have f7 := Marks.updv_other u v (Ne.symm h7)
  have f8 := Marks.updv_other u v (Ne.symm h8)
  have f9 := Marks.updv_other u v (Ne.symm h9)
  exact ⟨h.gr, by rw [e2, e0]; exact h.d2, by rw [e8, e2]; exact h.d8, by rw [e8, e7]; exact h.d87, by rw [e9, e8]; exact h.d9, by rw [e0, e2, f0]; exact h.u0, by rw [e7, e8, e0, e2, f7, f0]; exact h.u7, by rw [e2, e8, f2]; exact h.u2, by rw [e8, e9, f8]; exact h.u8, by rw [e9, f9]; exact h.u9⟩
/-- An empty row is made. -/
theorem JX.put0 (h : JX n0 W0 sure x vB m u w) (hm : m 0 = false) (hg : Grew w w') (v : Value) (hb : SL n0 W0.heap.size w' v []) (hv : v.ownBlock = some w.heap.size) : JX n0 W0 sure x vB (Marks.upd m 0) (Marks.updv u 0 v) w' := by
  have q2 := off h.d2 hm
  have q8 := off h.d8 q2
  have q9 := off h.d9 q8
  have e0 : Marks.upd m 0 0 = true := Marks.upd_same m 0
  have e2 : Marks.upd m 0 2 = false := by rw [Marks.upd_other m (by omega)]; exact q2
  have e7 : Marks.upd m 0 7 = m 7 := Marks.upd_other m (by omega)
  have e8 : Marks.upd m 0 8 = false := by rw [Marks.upd_other m (by omega)]; exact q8
  have e9 : Marks.upd m 0 9 = false := by rw [Marks.upd_other m (by omega)]; exact q9
  have f0 : Marks.updv u 0 v 0 = v := Marks.updv_same u 0 v
  have f7 : Marks.updv u 0 v 7 = u 7 := Marks.updv_other u v (by omega)
  refine ⟨h.gr.trans hg, fun _ => e0, by rw [e8]; simp, by rw [e8]; simp, by rw [e9]; simp, fun _ _ => by rw [f0]; exact hb, ?_, by rw [e2]; simp, by rw [e8]; simp, by rw [e9]; simp⟩
  rw [e7, e8, f7, f0]
  intro h7 _
  obtain ⟨q, a1, a2, a3, _⟩ := h.u7 h7 q8
  refine ⟨q, a1, Nat.lt_of_lt_of_le a2 hg.size, DWrite.cellB hg a3, fun _ _ e => ?_⟩
  rw [hv] at e
  injection e with e
  omega
theorem JX.put7 (h : JX n0 W0 sure x vB m u w) (hm : m 7 = false) (hg : Grew w w') (q : Nat) (hq : w.heap.size ≤ q) (hq2 : q < w'.heap.size) (hc : w'.cell? ⟨q, 0, none⟩ = some vB) : JX n0 W0 sure x vB (Marks.upd m 7) (Marks.updv u 7 (.slice (some ⟨q, 0, none⟩) 1 1)) w' := by
  have q8 := off h.d87 hm
  have q9 := off h.d9 q8
  have e0 : Marks.upd m 7 0 = m 0 := Marks.upd_other m (by omega)
  have e2 : Marks.upd m 7 2 = m 2 := Marks.upd_other m (by omega)
  have e7 : Marks.upd m 7 7 = true := Marks.upd_same m 7
  have e8 : Marks.upd m 7 8 = false := by rw [Marks.upd_other m (by omega)]; exact q8
  have e9 : Marks.upd m 7 9 = false := by rw [Marks.upd_other m (by omega)]; exact q9
  have f0 : ∀ v, Marks.updv u 7 v 0 = u 0 := fun v => Marks.updv_other u v (by omega)
  have f2 : ∀ v, Marks.updv u 7 v 2 = u 2 := fun v => Marks.updv_other u v (by omega)
  have f7 : ∀ v, Marks.updv u 7 v 7 = v := fun v => Marks.updv_same u 7 v
  refine ⟨h.gr.trans hg, by rw [e2, e0]; exact h.d2, by rw [e8]; simp, by rw [e8]; simp, by rw [e9]; simp, ?_, ?_, ?_, by rw [e8]; simp, by rw [e9]; simp⟩
  · rw [e0, e2, f0]
    exact fun a b => (h.u0 a b).grew hg
  · rw [f7, e0, e2, f0]
    refine fun _ _ => ⟨q, rfl, hq2, hc, fun a b e => ?_⟩
    have := (h.u0 a b).own q e
    omega
  · rw [e2, f2]
    exact fun a _ => (h.u2 a q8).grew hg
theorem JX.put2 (h : JX n0 W0 sure x vB m u w) (hm : m 2 = false) (h0 : m 0 = true) (v : Value) (hgb : w.grownBy w' (u 0).ownBlock) (hb : SL n0 W0.heap.size w' v sure) : JX n0 W0 sure x vB (Marks.upd m 2) (Marks.updv u 2 v) w' := by
  have q8 := off h.d8 hm
  have q9 := off h.d9 q8
  have e0 : Marks.upd m 2 0 = true := by rw [Marks.upd_other m (by omega)]; exact h0
  have e2 : Marks.upd m 2 2 = true := Marks.upd_same m 2
  have e7 : Marks.upd m 2 7 = m 7 := Marks.upd_other m (by omega)
  have e8 : Marks.upd m 2 8 = false := by rw [Marks.upd_other m (by omega)]; exact q8
  have e9 : Marks.upd m 2 9 = false := by rw [Marks.upd_other m (by omega)]; exact q9
  have f7 : Marks.updv u 2 v 7 = u 7 := Marks.updv_other u v (by omega)
  have f2 : Marks.updv u 2 v 2 = v := Marks.updv_same u 2 v
  have ho := (h.u0 h0 hm).own
  refine ⟨Below.trans (B := W0.heap.size) h.gr (below_of_grown _ hgb h.gr.size fun k hk => (ho k hk).1), fun _ => e0, by rw [e8]; simp, by rw [e8]; simp, by rw [e9]; simp, by rw [e2]; simp, ?_, fun _ _ => by rw [f2]; exact hb, by rw [e8]; simp, by rw [e9]; simp⟩
  rw [e7, e2, f7]
  intro h7 _
  obtain ⟨q, a1, a2, a3, a4⟩ := h.u7 h7 q8
  exact ⟨q, a1, Nat.lt_of_lt_of_le a2 hgb.size, (World.cell?_of_block (w := w) (hgb.block q a2 fun e => a4 h0 hm e.symm)).trans a3, fun _ h => by cases h⟩
theorem JX.put8 (h : JX n0 W0 sure x vB m u w) (hm : m 8 = false) (h2 : m 2 = true) (h7 : m 7 = true) (v : Value) (hgb : w.grownBy w' (u 2).ownBlock) (hb : SL n0 W0.heap.size w' v (sure ++ [x])) : JX n0 W0 sure x vB (Marks.upd m 8) (Marks.updv u 8 v) w' := by
  have q9 := off h.d9 hm
  have e0 : Marks.upd m 8 0 = m 0 := Marks.upd_other m (by omega)
  have e2 : Marks.upd m 8 2 = true := by rw [Marks.upd_other m (by omega)]; exact h2
  have e7 : Marks.upd m 8 7 = true := by rw [Marks.upd_other m (by omega)]; exact h7
  have e8 : Marks.upd m 8 8 = true := Marks.upd_same m 8
  have e9 : Marks.upd m 8 9 = false := by rw [Marks.upd_other m (by omega)]; exact q9
  have f8 : Marks.updv u 8 v 8 = v := Marks.updv_same u 8 v
  have ho := (h.u2 h2 hm).own
  exact ⟨Below.trans (B := W0.heap.size) h.gr (below_of_grown _ hgb h.gr.size fun k hk => (ho k hk).1), fun _ => by rw [e0]; exact h.d2 h2, fun _ => e2, fun _ => e7, by rw [e9]; simp, by rw [e2]; simp, by rw [e8]; simp, by rw [e8]; simp, fun _ _ => by rw [f8]; exact hb, by rw [e9]; simp⟩
theorem JX.put9 (h : JX n0 W0 sure x vB m u w) (hm : m 9 = false) (h8 : m 8 = true) : JX n0 W0 sure x vB (Marks.upd m 9) (Marks.updv u 9 (u 8)) w := by
  have e0 : Marks.upd m 9 0 = m 0 := Marks.upd_other m (by omega)
  have e2 : Marks.upd m 9 2 = m 2 := Marks.upd_other m (by omega)
  have e7 : Marks.upd m 9 7 = m 7 := Marks.upd_other m (by omega)
  have e8 : Marks.upd m 9 8 = true := by rw [Marks.upd_other m (by omega)]; exact h8
  have e9 : Marks.upd m 9 9 = true := Marks.upd_same m 9
  have f9 : Marks.updv u 9 (u 8) 9 = u 8 := Marks.updv_same u 9 _
  have k2 := h.d8 h8
  exact ⟨h.gr, (fun _ => by rw [e0]; exact h.d2 k2), (fun _ => by rw [e2]; exact k2), (fun _ => by rw [e7]; exact h.d87 h8), (fun _ => e8), (fun _ q => by rw [e2, k2] at q; cases q), (fun _ q => by rw [e8] at q; cases q), (fun _ q => by rw [e8] at q; cases q), (fun _ q => by rw [e9] at q; cases q), (fun _ => by rw [f9]; exact h.u8 h8 hm)⟩
end
end Go.Proofs.Ytbnicphegbdfnaa.JX
