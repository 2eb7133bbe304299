/-
  Messages there and back, purely.
  Conditions: those that each lemma names.
-/
import Derived.Test.YthgigkklefaeeaaRM
import Derived.Test.YthgigkklefaeeaaFB1
namespace Go.Proofs.Ythgigkklefaeeaa.RP
set_option maxRecDepth 100000
open Go Go.RowKit Go.Lib Go.Proofs.Ythgigkklefaeeaa Go.Proofs.Ythgigkklefaeeaa.Facts Go.Proofs.Ythgigkklefaeeaa.Bytes Go.Proofs.Ythgigkklefaeeaa.Puts Go.Proofs.Ythgigkklefaeeaa.Scan Go.Proofs.Ythgigkklefaeeaa.Take Go.Proofs.Ythgigkklefaeeaa.Nums Go.Proofs.Ythgigkklefaeeaa.SumPure Go.Proofs.Ythgigkklefaeeaa.Sum Go.Proofs.Ythgigkklefaeeaa.FP Go.Proofs.Ythgigkklefaeeaa.FW Go.Proofs.Ythgigkklefaeeaa.FX Go.Proofs.Ythgigkklefaeeaa.RA Go.Proofs.Ythgigkklefaeeaa.RC Go.Proofs.Ythgigkklefaeeaa.RD Go.Proofs.Ythgigkklefaeeaa.RG Go.Proofs.Ythgigkklefaeeaa.RH Go.Proofs.Ythgigkklefaeeaa.RK Go.Proofs.Ythgigkklefaeeaa.RM Go.Proofs.Ythgigkklefaeeaa.FT Go.Proofs.Ythgigkklefaeeaa.FK Go.Proofs.Ythgigkklefaeeaa.FB1

theorem lim250 : lim 250 = 250 := by decide
theorem goP_cat0 (most : Int) (K : List (List UInt8)) (h : ∀ x ∈ K, x.length ≤ lim most) : ∀ (g : Nat) (acc : List (List UInt8)), (cat K).length ≤ g → goP most g acc (cat K) = (acc ++ K, 0) := by
  induction K with
  | nil =>
    intro g acc _
    cases g with
    | zero => simp [goP]
    | succ g => unfold goP; rw [if_pos (by simp [cat]), List.append_nil]
  | cons x K ih =>
    intro g acc hg
    have hx := h x (List.mem_cons_self ..)
    rw [cat_cons] at hg ⊢
    have hl : (fr x ++ cat K).length = x.length + 3 + (cat K).length := by rw [List.length_append, fr_length]
    cases g with
    | zero => omega
    | succ g =>
      unfold goP
      rw [take_fr x (cat K) most hx, if_neg (by omega), if_pos rfl]
      simp only
      rw [List.drop_left' (by rw [fr_length]), ih (fun y hy => h y (List.mem_cons_of_mem _ hy)) g _ (by omega), List.append_assoc]
      rfl
theorem allP_cat0 (K : List (List UInt8)) (h : ∀ x ∈ K, x.length ≤ 250) : allP (cat K) 250 = (K, 0) := by
  unfold allP
  rw [goP_cat0 250 K (fun x hx => by rw [lim250]; exact h x hx) _ [] (Nat.le_refl _)]
  rfl
theorem goR_pay (K : List Ou) (h : ∀ x ∈ K, okO x = true) : ∀ acc, goR (K.map pay) acc = (acc ++ K, 0) := by
  induction K with
  | nil => intro acc; simp [goR]
  | cons x K ih =>
    intro acc
    have hx := h x (List.mem_cons_self ..)
    simp only [List.map_cons]
    unfold goR
    rw [read_pay hx, if_pos rfl, ih (fun y hy => h y (List.mem_cons_of_mem _ hy)), List.append_assoc]
    rfl
/-- What may be told, of a list. -/
def oks (l : List Ou) : List Ou := l.filter okO
theorem oks_ok (l : List Ou) : ∀ x ∈ oks l, okO x = true := fun _ h => (List.mem_filter.1 h).2
theorem oks_len (l : List Ou) : (oks l).length ≤ l.length := List.length_filter_le _ _
theorem oks_app (l : List Ou) (x : Ou) : oks (l ++ [x]) = if okO x = true then oks l ++ [x] else oks l := by
  unfold oks
  rw [List.filter_append]
  by_cases h : okO x = true
  · rw [if_pos h]; simp [h]
  · rw [if_neg h]; simp [h]
/-- The messages, one behind the other. -/
def msgs (l : List Ou) : List UInt8 := (l.map wrapO).flatten
theorem msgs_nil : msgs [] = [] := rfl
theorem msgs_app (l : List Ou) (x : Ou) : msgs (l ++ [x]) = msgs l ++ wrapO x := by simp [msgs]
theorem msgs_oks (l : List Ou) : msgs l = cat ((oks l).map pay) := by
  unfold msgs cat oks
  induction l with
  | nil => rfl
  | cons x l ih =>
    simp only [List.map_cons, List.flatten_cons]
    rw [ih]
    unfold wrapO
    by_cases h : okO x = true
    · rw [if_pos h]; simp [h]
    · rw [if_neg h]; simp [h]
theorem all_msgs (l : List Ou) : allO (msgs l) = (oks l, 0) := by
  have hp : ∀ y ∈ (oks l).map pay, y.length ≤ 250 := fun y hy => by
    obtain ⟨x, hx, rfl⟩ := List.mem_map.1 hy
    exact pay_le (oks_ok l x hx)
  unfold allO
  rw [msgs_oks, allP_cat0 _ hp, if_pos rfl]
  simp only
  rw [goR_pay _ (oks_ok l)]
  rfl
theorem wrapO_le (x : Ou) : (wrapO x).length ≤ 253 := by
  unfold wrapO
  by_cases h : okO x = true
  · have := pay_le h
    rw [if_pos h, fr_length]
    omega
  · rw [if_neg h]
    simp
theorem wrapO_pos (x : Ou) : decide (0 < (wrapO x).length) = okO x := by
  unfold wrapO
  by_cases h : okO x = true
  · rw [if_pos h, h, fr_length]
    simp
  · rw [if_neg h]
    simp at h
    rw [h]
    rfl
theorem msgs_len (l : List Ou) : (msgs l).length ≤ 253 * l.length := by
  unfold msgs
  induction l with
  | nil => simp
  | cons x l ih =>
    have := wrapO_le x
    simp only [List.map_cons, List.flatten_cons, List.length_append, List.length_cons]
    omega
theorem take_fr_inv {l : List UInt8} {most : Int} {x : List UInt8} {q : Nat} (h : takeP l most = (x, q, 0)) : fr x = l.take q ∧ x.length ≤ lim most ∧ q ≤ l.length ∧ 3 ≤ q := by
  unfold takeP at h
  split at h
  · injection h with _ h; injection h with _ h; cases h
  · split at h
    · injection h with _ h; injection h with _ h; cases h
    · split at h
      · injection h with _ h; injection h with _ h; cases h
      · split at h
        · rename_i h1 h2 h3 h4
          injection h with hx h
          injection h with hq _
          subst hx hq
          refine ⟨(frame_iff l (by omega)).2 h4, ?_, by omega, by omega⟩
          rw [List.length_take]
          omega
        · injection h with _ h; injection h with _ h; cases h
theorem goP_inv (most : Int) : ∀ (g : Nat) (acc : List (List UInt8)) (l : List UInt8) (r : List (List UInt8)), l.length ≤ g → goP most g acc l = (r, 0) → ∃ fs, r = acc ++ fs ∧ cat fs = l ∧ ∀ x ∈ fs, x.length ≤ lim most
  | 0, acc, l, r, hl, h => by
    unfold goP at h
    injection h with h _
    have : l = [] := List.eq_nil_of_length_eq_zero (by omega)
    subst this
    exact ⟨[], by rw [← h]; simp, rfl, fun x hx => by cases hx⟩
  | g + 1, acc, l, r, hl, h => by
    unfold goP at h
    split at h
    · rename_i h0
      injection h with h _
      have : l = [] := List.eq_nil_of_length_eq_zero h0
      subst this
      exact ⟨[], by rw [← h]; simp, rfl, fun x hx => by cases hx⟩
    · split at h
      · rename_i h0 h1
        obtain ⟨⟨x, q, e⟩, hx⟩ : ∃ p, takeP l most = p := ⟨_, rfl⟩
        rw [hx] at h h1
        simp only at h h1
        subst h1
        obtain ⟨a1, a2, a3, a4⟩ := take_fr_inv hx
        obtain ⟨fs, b1, b2, b3⟩ := goP_inv most g _ _ r (by rw [List.length_drop]; omega) h
        refine ⟨x :: fs, by rw [b1]; simp, ?_, fun y hy => ?_⟩
        · rw [cat_cons, b2, a1, List.take_append_drop]
        · rcases List.mem_cons.1 hy with rfl | hy
          · exact a2
          · exact b3 y hy
      · rename_i h0 h1
        injection h with _ h
        exact absurd h h1
theorem b8_byte (a : UInt8) : b8 (a.toNat : Int) = a := by
  have h := a.toNat_lt
  apply UInt8.toNat_inj.1
  have := b8_nat (a.toNat : Int) (by omega) (by omega)
  omega
theorem read_inv {l : List UInt8} {x : Ou} (h : readP l = (x, 0)) : okO x = true ∧ pay x = l := by
  unfold readP at h
  split at h
  · injection h with _ h; cases h
  · split at h
    · rename_i h0 h1
      injection h with h _
      subst h
      refine ⟨h1, ?_⟩
      match l, h0 with
      | a :: b :: c :: r, _ =>
        show b8 (a.toNat : Int) :: b8 (b.toNat : Int) :: b8 (c.toNat : Int) :: r = _
        rw [b8_byte, b8_byte, b8_byte]
      | [], h0 => simp at h0
      | [_], h0 => simp at h0
      | [_, _], h0 => simp at h0
    · injection h with _ h; cases h
theorem goR_inv : ∀ (fs : List (List UInt8)) (acc : List Ou) (r : List Ou), goR fs acc = (r, 0) → ∃ K, r = acc ++ K ∧ K.map pay = fs ∧ ∀ x ∈ K, okO x = true
  | [], acc, r, h => by
    unfold goR at h
    injection h with h _
    exact ⟨[], by rw [← h]; simp, rfl, fun x hx => by cases hx⟩
  | f :: fs, acc, r, h => by
    unfold goR at h
    split at h
    · rename_i h1
      obtain ⟨⟨x, e⟩, hx⟩ : ∃ p, readP f = p := ⟨_, rfl⟩
      rw [hx] at h h1
      simp only at h h1
      subst h1
      obtain ⟨a1, a2⟩ := read_inv hx
      obtain ⟨K, b1, b2, b3⟩ := goR_inv fs _ r h
      refine ⟨x :: K, by rw [b1]; simp, by rw [List.map_cons, a2, b2], fun y hy => ?_⟩
      rcases List.mem_cons.1 hy with rfl | hy
      · exact a1
      · exact b3 y hy
    · rename_i h1
      injection h with _ h
      exact absurd h h1
theorem goR_err : ∀ (fs : List (List UInt8)) (acc : List Ou), (goR fs acc).2 ≠ 0 → (goR fs acc).1 = []
  | [], acc, h => by unfold goR at h; exact absurd rfl h
  | f :: fs, acc, h => by
    unfold goR at h ⊢
    split at h
    · rename_i h1
      rw [if_pos h1]
      exact goR_err fs _ h
    · rename_i h1
      rw [if_neg h1]
theorem all_err (l : List UInt8) (h : (allO l).2 ≠ 0) : (allO l).1 = [] := by
  unfold allO at h ⊢
  split at h
  · rename_i h1
    rw [if_pos h1]
    exact goR_err _ _ h
  · rename_i h1
    rw [if_neg h1]
theorem msgs_ok (K : List Ou) (h : ∀ x ∈ K, okO x = true) : msgs K = cat (K.map pay) := by
  rw [msgs_oks]
  have : oks K = K := List.filter_eq_self.2 h
  rw [this]
theorem all_inv (l : List UInt8) (h : (allO l).2 = 0) : msgs (allO l).1 = l := by
  unfold allO at h ⊢
  split at h
  · rename_i h1
    rw [if_pos h1]
    obtain ⟨⟨fs, e⟩, hf⟩ : ∃ p, allP l 250 = p := ⟨_, rfl⟩
    rw [hf] at h h1 ⊢
    simp only at h h1 ⊢
    subst h1
    obtain ⟨fs', b1, b2, b3⟩ := goP_inv 250 l.length [] l fs (Nat.le_refl _) hf
    simp at b1
    subst b1
    obtain ⟨⟨r, e⟩, hr⟩ : ∃ p, goR fs [] = p := ⟨_, rfl⟩
    rw [hr] at h ⊢
    simp only at h ⊢
    subst h
    obtain ⟨K, c1, c2, c3⟩ := goR_inv fs [] r hr
    simp at c1
    subst c1
    rw [msgs_ok _ c3, c2, b2]
  · rename_i h1
    exact absurd h h1
end Go.Proofs.Ythgigkklefaeeaa.RP
