/-
  Rows of any structs, the first of them of which something holds, numbers that may be, and what is known of a row's slots.
  Conditions: those that each lemma names.
-/
import Derived.Test.YthgigkklefaeeaaInts
import Derived.Test.YthgigkklefaeeaaProg
import Derived.Lib.SlicesS
import Derived.WalkMore
namespace Go.Proofs.Ythgigkklefaeeaa.PA
set_option maxRecDepth 100000
open Go Go.RowKit Go.Lib Go.Proofs.Ythgigkklefaeeaa Go.Proofs.Ythgigkklefaeeaa.Facts Go.Proofs.Ythgigkklefaeeaa.Ints

/-- The slice v has n elements, and its cells read as these values. -/
def Rw (w : World) (v : Value) (n : Nat) (xs : List Value) : Prop :=
  ∃ (A : Option Addr) (c : Nat), v = .slice A n c ∧ n ≤ c ∧ c ≤ maxLen ∧ (A = none → c = 0) ∧
    ∀ ad, A = some ad → ∀ j u, xs[j]? = some u → w.cell? (ad.add j) = some u
theorem Rw.grew {w w' : World} {v : Value} {n : Nat} {xs : List Value} (h : Rw w v n xs) (hg : Grew w w') : Rw w' v n xs := by
  obtain ⟨A, c, e, h1, h2, h3, h4⟩ := h
  exact ⟨A, c, e, h1, h2, h3, fun ad ha j u hu => cellG hg (h4 ad ha j u hu)⟩
theorem Rw.of_own {w : World} {v : Value} {xs : List Value} {base t m n : Nat} (h : w.ownsRow base t m v n xs) (h0 : n = 0 → xs = []) : Rw w v n xs := by
  rcases h.2 with ⟨rfl, h1⟩ | ⟨g, cap, cur, rfl, hb, hg, hnc, hcm, _, _⟩
  · subst h1
    rw [h0 rfl]
    exact ⟨none, 0, rfl, Nat.le_refl _, Nat.zero_le _, fun _ => rfl, fun ad ha => by cases ha⟩
  · exact ⟨_, cap, rfl, hnc, hcm, (fun h => by cases h), fun ad ha => by cases ha; exact h.cells (g := g) rfl⟩
theorem rw_none (w : World) : Rw w (.slice none 0 0) 0 [] := ⟨_, 0, rfl, Nat.le_refl _, Nat.zero_le _, fun _ => rfl, fun ad ha => by cases ha⟩
theorem fld (ad : Addr) (m i : Nat) (hi : 0 < i) : (⟨(ad.add m).block, (ad.add m).off + i, none⟩ : Addr) = ad.add (m + i) := by
  unfold Addr.add
  by_cases h : m = 0
  · subst h
    simp [show ¬ i = 0 by omega]
  · simp [h]
    omega
theorem flat_get {α : Type} (f : α → List Value) (n : Nat) (hf : ∀ x, (f x).length = n) : ∀ (l : List α) (k i : Nat) (x : α), l[k]? = some x → i < n → (l.flatMap f)[k * n + i]? = (f x)[i]?
  | [], k, i, x, h, _ => by simp at h
  | a :: l, 0, i, x, h, hi => by
    simp only [List.getElem?_cons_zero, Option.some.injEq] at h
    subst h
    rw [List.flatMap_cons, List.getElem?_append_left (by rw [hf]; omega)]
    congr 1
    omega
  | a :: l, k + 1, i, x, h, hi => by
    rw [List.getElem?_cons_succ] at h
    rw [List.flatMap_cons, List.getElem?_append_right (by rw [hf, Nat.succ_mul]; omega), hf]
    rw [← flat_get f n hf l k i x h hi]
    congr 1
    rw [Nat.succ_mul]
    omega
theorem flat_len {α : Type} (f : α → List Value) (n : Nat) (hf : ∀ x, (f x).length = n) : ∀ l : List α, (l.flatMap f).length = l.length * n
  | [] => by simp
  | a :: l => by rw [List.flatMap_cons, List.length_append, hf, flat_len f n hf l, List.length_cons, Nat.succ_mul]; omega
theorem flat_one {α : Type} (f : α → List Value) (hf : ∀ x, ∀ u ∈ f x, u.oneCell' = true) (l : List α) : ∀ u ∈ l.flatMap f, u.oneCell' = true := by
  intro u hu
  obtain ⟨a, _, h⟩ := List.mem_flatMap.1 hu
  exact hf a u h

/-- The k-th element's cells. -/
theorem Rw.at {α : Type} {f : α → List Value} {n : Nat} (hf : ∀ x, (f x).length = n) {w : World} {v : Value} {l : List α} (h : Rw w v l.length (l.flatMap f)) {k : Nat} {x : α} (hk : l[k]? = some x) (_hn : 0 < n) :
    ∃ ad c, v = .slice (some ad) l.length c ∧ l.length ≤ c ∧ (∀ u, (f x)[0]? = some u → w.cell? (ad.add (k * n)) = some u) ∧
      ∀ i u, 0 < i → (f x)[i]? = some u → w.cell? ⟨(ad.add (k * n)).block, (ad.add (k * n)).off + i, none⟩ = some u := by
  obtain ⟨A, c, rfl, h1, h2, h3, h4⟩ := h
  have hl := (List.getElem?_eq_some_iff.1 hk).1
  cases A with
  | none => have := h3 rfl; omega
  | some ad =>
    have hg : ∀ i u, (f x)[i]? = some u → (l.flatMap f)[k * n + i]? = some u := fun i u hu => by
      have hi : i < n := by
        have := (List.getElem?_eq_some_iff.1 hu).1
        rwa [hf] at this
      rw [flat_get f n hf l k i x hk hi, hu]
    refine ⟨ad, c, rfl, h1, fun u hu => h4 ad rfl _ _ (hg 0 u hu), fun i u hi hu => ?_⟩
    rw [fld ad _ i hi]
    exact h4 ad rfl _ _ (hg i u hu)


theorem Rw.slice {w : World} {v : Value} {n : Nat} {xs : List Value} (h : Rw w v n xs) : ∃ A c, v = .slice A n c ∧ n ≤ c ∧ c ≤ maxLen := by
  obtain ⟨A, c, e, h1, h2, _⟩ := h
  exact ⟨A, c, e, h1, h2⟩


def num (n : Int) : Bool := decide (0 ≤ n) && decide (n ≤ 127)
theorem num_iff (n : Int) : num n = true ↔ 0 ≤ n ∧ n ≤ 127 := by simp [num]
def fidx {α : Type} (l : List α) (p : α → Bool) : Int := match l.findIdx? p with | some k => (k : Int) | none => -1
theorem fidx_hit {α : Type} {l : List α} {p : α → Bool} {k : Nat} {x : α} (hk : l[k]? = some x) (hx : p x = true) (hj : ∀ j y, j < k → l[j]? = some y → p y = false) : fidx l p = k := by
  have h : l.findIdx? p = some k := by
    rw [List.findIdx?_eq_some_iff_getElem]
    have hl := (List.getElem?_eq_some_iff.1 hk).1
    refine ⟨hl, ?_, fun j hjk => ?_⟩
    · rw [(List.getElem?_eq_some_iff.1 hk).2]; exact hx
    · have := hj j _ hjk (List.getElem?_eq_getElem (by omega))
      simp [this]
  unfold fidx
  rw [h]
theorem fidx_miss {α : Type} {l : List α} {p : α → Bool} (hj : ∀ (j : Nat) (y : α), l[j]? = some y → p y = false) : fidx l p = -1 := by
  have h : l.findIdx? p = none := by
    rw [List.findIdx?_eq_none_iff]
    intro y hy
    obtain ⟨j, hj2⟩ := List.getElem?_of_mem hy
    exact hj j y hj2
  unfold fidx
  rw [h]

theorem fidx_neg {α : Type} (l : List α) (p : α → Bool) : decide (0 ≤ fidx l p) = l.any p := by
  unfold fidx
  cases h : l.findIdx? p with
  | none =>
    rw [List.findIdx?_eq_none_iff] at h
    have : l.any p = false := by
      rw [List.any_eq_false]
      intro x hx
      simp [h x hx]
    rw [this]
    rfl
  | some k =>
    obtain ⟨hk, h1, _⟩ := List.findIdx?_eq_some_iff_getElem.1 h
    have : l.any p = true := List.any_eq_true.2 ⟨_, List.getElem_mem hk, h1⟩
    rw [this]
    simp
theorem any_not {α : Type} (l : List α) (p : α → Bool) : (!l.any fun x => !p x) = l.all p := by
  rw [List.not_any_eq_all_not]
  congr 1
  funext x
  simp

theorem fidx_cases {α : Type} (l : List α) (p : α → Bool) : (fidx l p = -1 ∧ l.filter (fun x => !p x) = l) ∨ ∃ (k : Nat) (hk : k < l.length), fidx l p = k ∧ p l[k] = true ∧ (l.take k).filter (fun x => !p x) = l.take k := by
  unfold fidx
  cases h : l.findIdx? p with
  | none =>
    refine .inl ⟨rfl, List.filter_eq_self.2 fun x hx => ?_⟩
    rw [List.findIdx?_eq_none_iff] at h
    simp [h x hx]
  | some k =>
    obtain ⟨hk, h1, h2⟩ := List.findIdx?_eq_some_iff_getElem.1 h
    refine .inr ⟨k, hk, rfl, h1, List.filter_eq_self.2 fun x hx => ?_⟩
    obtain ⟨j, hj, rfl⟩ := List.getElem_of_mem hx
    rw [List.length_take] at hj
    have := h2 j (by omega)
    rw [List.getElem_take]
    simpa using this
theorem Is.slice {w : World} {v : Value} {l : List Int} (h : Is w v l) : ∃ A c, v = .slice A l.length c ∧ l.length ≤ c ∧ c ≤ maxLen := by
  obtain ⟨A, c, e, h1, h2, _⟩ := h
  exact ⟨A, c, e, h1, h2⟩
theorem Is_at {w : World} {v : Value} {l : List Int} (h : Is w v l) {k : Nat} {x : Int} (hk : l[k]? = some x) : ∃ ad c, v = .slice (some ad) l.length c ∧ l.length ≤ c ∧ w.cell? (ad.add k) = some (.int .i64 x) := by
  obtain ⟨ad, c, e, h1, h2⟩ := h.cell (k := k) (List.getElem?_eq_some_iff.1 hk).1
  rw [hk] at h2
  exact ⟨ad, c, e, h1, h2⟩
theorem one_cell {W : World} {B t : Nat} {a : Value} (h : W.heap[B]? = some (.cells #[a] t (0, 0))) : W.cell? ⟨B, 0, none⟩ = some a := by
  rw [cell_of_row _ _ _ _ _ _ h]; rfl

theorem wr1 {j n : Nat} (h : j < n) (hn : n ≤ 1000) : wrap64 ((j : Int) + 1) = ((j + 1 : Nat) : Int) := by unfold wrap64; omega
theorem Is.nil (w : World) : Is w (.slice none 0 0) [] := ⟨none, 0, rfl, Nat.le_refl _, Nat.zero_le _, fun _ => rfl, fun _ h => by cases h⟩

theorem blk_new (w : World) (o : Obj) : (w.alloc o).heap[w.heap.size]? = some o := heap_alloc_new w _
theorem blk_keep {w w' : World} {B : Nat} {o : Obj} (h : w.heap[B]? = some o) (hg : Grew w w') : w'.heap[B]? = some o := (hg.block _ (Array.getElem?_eq_some_iff.1 h).1).trans h

theorem num_cases (n : Int) : (0 ≤ n ∧ n ≤ 127 ∧ num n = true) ∨ (¬ 0 ≤ n ∧ num n = false) ∨ (0 ≤ n ∧ ¬ n ≤ 127 ∧ num n = false) := by
  unfold num
  by_cases h : 0 ≤ n
  · by_cases h2 : n ≤ 127
    · exact .inl ⟨h, h2, by simp [h, h2]⟩
    · exact .inr (.inr ⟨h, h2, by simp [h2]⟩)
  · exact .inr (.inl ⟨h, by simp [h]⟩)
theorem grew_below {a b c : World} {base : Nat} (h : Grew a b) (hb : a.heap.size ≤ base) (k : Below base b c) : Grew a c := Below.trans h (Below.mono k hb)
theorem two_c {W : World} {b t : Nat} {x y : Value} (h : W.heap[b]? = some (.cells #[x, y] t (0, 0))) : W.cell? ⟨b, 0, none⟩ = some x ∧ W.cell? ⟨b, 1, none⟩ = some y := by
  refine ⟨?_, ?_⟩
  all_goals rw [cell_of_row _ _ _ _ _ _ h]; rfl
theorem wr1b {j n : Nat} (h : j < n) (hn : n ≤ 4611686018427387904) : wrap64 ((j : Int) + 1) = ((j + 1 : Nat) : Int) := by unfold wrap64; omega

theorem fidx_none {α : Type} {l : List α} {p : α → Bool} (h : fidx l p = -1) : ∀ x ∈ l, p x = false := by
  unfold fidx at h
  split at h
  · omega
  · rename_i hn
    exact List.findIdx?_eq_none_iff.1 hn
/-- The slots up to k of those of which p holds. -/
def uptoG {α : Type} (z : α) (p : α → Bool) (l : List α) (k : Nat) : List Int := ((List.range k).filter fun j => p (l[j]?.getD z)).map Int.ofNat
theorem uptoG_yes {α : Type} (z : α) (p : α → Bool) (l : List α) (k : Nat) (h : p (l[k]?.getD z) = true) : uptoG z p l (k + 1) = uptoG z p l k ++ [(k : Int)] := by
  unfold uptoG
  rw [List.range_succ, List.filter_append]
  simp [h]
theorem uptoG_no {α : Type} (z : α) (p : α → Bool) (l : List α) (k : Nat) (h : p (l[k]?.getD z) = false) : uptoG z p l (k + 1) = uptoG z p l k := by
  unfold uptoG
  rw [List.range_succ, List.filter_append]
  simp [h]
theorem uptoG_len {α : Type} (z : α) (p : α → Bool) (l : List α) (k : Nat) : (uptoG z p l k).length ≤ k := by
  unfold uptoG
  rw [List.length_map]
  exact Nat.le_trans (List.length_filter_le _ _) (by simp)
/-- What Has answers. -/
def hasG {α : Type} (z : α) (p : α → Bool) (l : List α) (i : Int) : Bool := decide (0 ≤ i) && decide (i < l.length) && p (l[i.toNat]?.getD z)
theorem hasG_in {α : Type} (z : α) (p : α → Bool) (l : List α) (k : Nat) (hk : k < l.length) : hasG z p l k = p (l[k]?.getD z) := by
  unfold hasG
  simp [hk]
theorem hasG_out {α : Type} (z : α) (p : α → Bool) (l : List α) (i : Int) (hi : ¬ (0 ≤ i ∧ i < l.length)) : hasG z p l i = false := by
  unfold hasG
  by_cases h : 0 ≤ i
  · have : ¬ i < l.length := fun h2 => hi ⟨h, h2⟩
    simp [this]
  · simp [h]
end Go.Proofs.Ythgigkklefaeeaa.PA
