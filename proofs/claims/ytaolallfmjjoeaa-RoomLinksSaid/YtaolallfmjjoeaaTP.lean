/-
  Pure facts on items: who holds what, counted; what a deed leaves.
  Conditions: none.
-/
import Derived.Test.YtaolallfmjjoeaaTI
namespace Go.Proofs.Ytaolallfmjjoeaa.TP
set_option maxRecDepth 100000
open Go Go.RowKit Go.Lib Go.Proofs.Ytaolallfmjjoeaa Go.Proofs.Ytaolallfmjjoeaa.Facts Go.Proofs.Ytaolallfmjjoeaa.Ints Go.Proofs.Ytaolallfmjjoeaa.TI

def tab (n : Nat) (F : Nat → Int) : List Int := (List.range n).map F
theorem tab_len (n : Nat) (F : Nat → Int) : (tab n F).length = n := by simp [tab]
theorem tab_get (n : Nat) (F : Nat → Int) (j : Nat) (h : j < n) : (tab n F)[j]? = some (F j) := by simp [tab, h]
theorem tab_congr {n : Nat} {F G : Nat → Int} (h : ∀ j, j < n → F j = G j) : tab n F = tab n G := List.map_congr_left fun j hj => h j (List.mem_range.1 hj)
theorem tab_set (n : Nat) (F : Nat → Int) (k : Nat) (v : Int) : (tab n F).set k v = tab n fun j => if j = k then v else F j := by
  apply List.ext_getElem?
  intro j
  rw [List.getElem?_set, tab_len]
  by_cases hj : j < n
  · rw [tab_get _ _ _ hj]
    by_cases hk : k = j
    · subst hk
      simp [hj, tab_get]
    · rw [if_neg hk, tab_get _ _ _ hj, if_neg (fun h => hk h.symm)]
  · have h1 : (tab n F)[j]? = none := List.getElem?_eq_none (by rw [tab_len]; omega)
    have h2 : (tab n fun j => if j = k then v else F j)[j]? = none := List.getElem?_eq_none (by rw [tab_len]; omega)
    rw [h1, h2]
    split
    · rw [if_neg (by omega)]
    · rfl
/-- One, if it is there. -/
def ind (j : Nat) (a : List Int) : Int := if (j : Int) ∈ a then 1 else 0
theorem ind_nil (j : Nat) : ind j [] = 0 := by simp [ind]

theorem slots_mem (l : List It) (h : Ho) (j : Nat) (hj : j < l.length) : (j : Int) ∈ slotsOf l h ↔ (el l j).used = true ∧ hol (el l j) = h := by
  unfold slotsOf upto isH
  rw [List.mem_filter, List.mem_map]
  simp only [List.mem_filter, List.mem_range, decide_eq_true_eq, Int.toNat_natCast]
  constructor
  · rintro ⟨⟨k, ⟨_, hu⟩, hk⟩, hh⟩
    have : k = j := Int.ofNat_inj.1 hk
    subst this
    exact ⟨hu, hh⟩
  · rintro ⟨hu, hh⟩
    exact ⟨⟨j, ⟨hj, hu⟩, rfl⟩, hh⟩
theorem slots_lt {l : List It} {h : Ho} {i : Int} (hi : i ∈ slotsOf l h) : ∃ j : Nat, i = j ∧ j < l.length ∧ (el l j).used = true ∧ hol (el l j) = h := by
  unfold slotsOf at hi
  obtain ⟨h1, h2⟩ := List.mem_filter.1 hi
  obtain ⟨j, rfl, hj, hu⟩ := upto_mem h1
  exact ⟨j, rfl, hj, hu, by simpa [isH] using h2⟩
theorem slots_nodup (l : List It) (h : Ho) : (slotsOf l h).Nodup := by
  unfold slotsOf upto
  refine List.Pairwise.filter _ (List.Pairwise.map _ (fun a b (hab : a ≠ b) => ?_) (List.Pairwise.filter _ List.nodup_range))
  intro e
  exact hab (Int.ofNat_inj.1 e)
theorem take_notin {a : List Int} (h : a.Nodup) {i : Nat} (hi : i < a.length) : a[i] ∉ a.take i := by
  intro hm
  obtain ⟨j, hj, e⟩ := List.getElem_of_mem hm
  rw [List.length_take] at hj
  rw [List.getElem_take] at e
  have := (List.getElem_inj h).1 e
  omega
theorem ind_take {a : List Int} (h : a.Nodup) {i : Nat} (hi : i < a.length) (jj : Nat) (he : a[i] = (jj : Int)) (j : Nat) : ind j (a.take (i + 1)) = if j = jj then ind j (a.take i) + 1 else ind j (a.take i) := by
  have hn := take_notin h hi
  rw [List.take_succ_eq_append_getElem hi, he] at *
  unfold ind
  by_cases hj : j = jj
  · subst hj
    simp only [if_true, List.mem_append, List.mem_singleton, or_true]
    rw [he] at hn
    simp [hn]
  · have : ¬ (j : Int) = (jj : Int) := by omega
    simp [hj, this]

theorem okH_cases {h : Ho} (hh : okH h = true) : num h.who = true ∧ num h.lab = true ∧ num h.slot = true ∧ (h = hand h.who ∨ h = floor h.lab h.slot ∨ h = deal h.who) := by
  simp only [okH, Bool.and_eq_true, Bool.or_eq_true, decide_eq_true_eq] at hh
  obtain ⟨⟨⟨h1, h2⟩, h3⟩, h4⟩ := hh
  exact ⟨h1, h2, h3, or_assoc.1 h4⟩
theorem num_iff (n : Int) : num n = true ↔ 0 ≤ n ∧ n ≤ 127 := by simp [num]
theorem okL_el {l : List It} (h : okL l = true) (j : Nat) : okI (el l j) = true := by
  unfold el
  cases hx : l[j]? with
  | none => rfl
  | some x => exact List.all_eq_true.1 h x (List.mem_of_getElem? hx)
/-- An item that may be, by its kind. -/
theorem kinds {x : It} (h : okI x = true) : (x.used = false ∧ x = zit) ∨ (x.used = true ∧ x.kind = 1 ∧ hol x = hand x.who ∧ 0 ≤ x.who ∧ x.who ≤ 127) ∨ (x.used = true ∧ x.kind = 2 ∧ hol x = floor x.lab x.slot) ∨ (x.used = true ∧ x.kind = 3 ∧ hol x = deal x.who) := by
  unfold okI at h
  cases hu : x.used with
  | false =>
    rw [hu] at h
    simp only [Bool.false_eq_true, if_false, decide_eq_true_eq] at h
    exact .inl ⟨rfl, h⟩
  | true =>
    rw [hu] at h
    simp only [if_true, Bool.and_eq_true] at h
    obtain ⟨hw, _, _, hh⟩ := okH_cases h.2
    obtain ⟨h0, h1⟩ := (num_iff _).1 hw
    rcases hh with hh | hh | hh
    · exact .inr (.inl ⟨rfl, by have := congrArg Ho.kind hh; exact this, hh, h0, h1⟩)
    · exact .inr (.inr (.inl ⟨rfl, by have := congrArg Ho.kind hh; exact this, hh⟩))
    · exact .inr (.inr (.inr ⟨rfl, by have := congrArg Ho.kind hh; exact this, hh⟩))

def f1 (l : List It) (who : Nat) (j : Nat) : Int := if (el l j).used = true ∧ (el l j).kind = 1 ∧ (el l j).who < who then 1 else 0
theorem f1_zero {l : List It} (h : okL l = true) (j : Nat) : f1 l 0 j = 0 := by
  unfold f1
  rw [if_neg]
  rintro ⟨hu, hk, hw⟩
  rcases kinds (okL_el h j) with ⟨h1, _⟩ | ⟨_, _, _, h1, _⟩ | ⟨_, h1, _⟩ | ⟨_, h1, _⟩
  · rw [hu] at h1; cases h1
  · omega
  · omega
  · omega
theorem f1_step {l : List It} (h : okL l = true) (who j : Nat) (hj : j < l.length) : f1 l who j + ind j (slotsOf l (hand who)) = f1 l (who + 1) j := by
  have hm := slots_mem l (hand who) j hj
  unfold f1 ind
  rcases kinds (okL_el h j) with ⟨h1, _⟩ | ⟨h1, h2, h3, _⟩ | ⟨h1, h2, h3⟩ | ⟨h1, h2, h3⟩
  · simp [hm, h1]
  · have e : hol (el l j) = hand who ↔ (el l j).who = who := by
      rw [h3]
      constructor
      · intro e
        exact congrArg Ho.who e
      · intro e
        rw [e]
    simp only [hm, h1, h2, e, true_and]
    split <;> split <;> split <;> omega
  · have e : ¬ hol (el l j) = hand who := fun e => by
      have := congrArg Ho.kind e
      simp [hol, hand, h2] at this
    simp [hm, h1, h2, e]
  · have e : ¬ hol (el l j) = hand who := fun e => by
      have := congrArg Ho.kind e
      simp [hol, hand, h2] at this
    simp [hm, h1, h2, e]
def f2 (l : List It) (i j : Nat) : Int := f1 l 128 j + if (el l j).kind = 2 ∧ j < i then 1 else 0
theorem f2_zero (l : List It) (j : Nat) : f1 l 128 j = f2 l 0 j := by simp [f2]
theorem f2_pass (l : List It) (i : Nat) (hk : ¬ (el l i).kind = 2) (j : Nat) : f2 l i j = f2 l (i + 1) j := by
  unfold f2
  congr 1
  by_cases hj : j = i
  · subst hj
    simp [hk]
  · have : j < i ↔ j < i + 1 := by omega
    simp [this]
/-- One that lies in a room is told there. -/
theorem lies {l : List It} (h : okL l = true) (i : Nat) (hi : i < l.length) (hk : (el l i).kind = 2) : (i : Int) ∈ slotsOf l (floor (el l i).lab (el l i).slot) := by
  rw [slots_mem _ _ _ hi]
  rcases kinds (okL_el h i) with ⟨_, h2⟩ | ⟨_, h2, _⟩ | ⟨h1, _, h3⟩ | ⟨_, h2, _⟩
  · rw [h2] at hk; cases hk
  · omega
  · exact ⟨h1, h3⟩
  · omega
theorem f2_step (l : List It) (i : Nat) (hk : (el l i).kind = 2) (j : Nat) : (if j = i then f2 l i j + 1 else f2 l i j) = f2 l (i + 1) j := by
  unfold f2
  by_cases hj : j = i
  · subst hj
    simp [hk]
  · have : j < i ↔ j < i + 1 := by omega
    simp [hj, this]
/-- What is told of a slot, in the end. -/
def want (x : It) : Int := if x.used = true ∧ ¬ x.kind = 3 then 1 else 0
theorem f2_want {l : List It} (h : okL l = true) (j : Nat) (hj : j < l.length) : f2 l l.length j = want (el l j) := by
  unfold f2 f1 want
  rcases kinds (okL_el h j) with ⟨h1, h2⟩ | ⟨h1, h2, _, h3, h4⟩ | ⟨h1, h2, _⟩ | ⟨h1, h2, _⟩
  · rw [h2]
    simp [zit]
  · have : (el l j).who < 128 := by omega
    simp [h1, h2, this]
  · simp [h1, h2, hj]
  · simp [h1, h2]
theorem ind_le (j : Nat) (a : List Int) : 0 ≤ ind j a ∧ ind j a ≤ 1 := by unfold ind; split <;> omega
theorem f1_le (l : List It) (n j : Nat) : 0 ≤ f1 l n j ∧ f1 l n j ≤ 1 := by unfold f1; split <;> omega
theorem f2_le (l : List It) (n j : Nat) : 0 ≤ f2 l n j ∧ f2 l n j ≤ 2 := by
  have := f1_le l 128 j
  unfold f2
  split <;> omega
end Go.Proofs.Ytaolallfmjjoeaa.TP
