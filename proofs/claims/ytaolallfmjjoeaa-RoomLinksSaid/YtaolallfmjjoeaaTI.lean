/-
  Rows of items, as they are read; who holds an item; what may be.
  Conditions: none.
-/
import Derived.Test.YtaolallfmjjoeaaInts
import Derived.Test.YtaolallfmjjoeaaChars
namespace Go.Proofs.Ytaolallfmjjoeaa.TI
set_option maxRecDepth 100000
open Go Go.RowKit Go.Lib Go.Proofs.Ytaolallfmjjoeaa Go.Proofs.Ytaolallfmjjoeaa.Facts Go.Proofs.Ytaolallfmjjoeaa.Bytes Go.Proofs.Ytaolallfmjjoeaa.Ints

theorem keepB {w w' : World} {B : Nat} {o : Obj} (h : w.heap[B]? = some o) (hg : Grew w w') : w'.heap[B]? = some o := (hg.block _ (Array.getElem?_eq_some_iff.1 h).1).trans h
theorem cellB {w w' : World} {a : Addr} {v : Value} (hg : Grew w w') (h : w.cell? a = some v) : w'.cell? a = some v :=
  (hg.cell (World.block_lt_of_cell? _ _ h)).trans h
/-- The slice v has n elements, and its cells read as these values. -/
def Rw (w : World) (v : Value) (n : Nat) (xs : List Value) : Prop :=
  ∃ (A : Option Addr) (c : Nat), v = .slice A n c ∧ n ≤ c ∧ c ≤ maxLen ∧ (A = none → c = 0) ∧
    ∀ ad, A = some ad → ∀ j u, xs[j]? = some u → w.cell? (ad.add j) = some u
theorem Rw.grew {w w' : World} {v : Value} {n : Nat} {xs : List Value} (h : Rw w v n xs) (hg : Grew w w') : Rw w' v n xs := by
  obtain ⟨A, c, e, h1, h2, h3, h4⟩ := h
  exact ⟨A, c, e, h1, h2, h3, fun ad ha j u hu => cellG hg (h4 ad ha j u hu)⟩
theorem Rw.of_own {w : World} {v : Value} {xs : List Value} {base t m n : Nat} (h : w.ownsRow base t m v n xs) (h0 : n = 0 → xs = []) : Rw w v n xs := by
  rcases h.2 with ⟨rfl, h1⟩ | ⟨g, cap, cur, rfl, hb, hg, hnc, hcm, _, _⟩
  · subst h1
    rw [h0 rfl]
    exact ⟨none, 0, rfl, Nat.le_refl _, Nat.zero_le _, fun _ => rfl, fun ad ha => by cases ha⟩
  · exact ⟨_, cap, rfl, hnc, hcm, (fun h => by cases h), fun ad ha => by cases ha; exact h.cells (g := g) rfl⟩
theorem rw_none (w : World) : Rw w (.slice none 0 0) 0 [] := ⟨_, 0, rfl, Nat.le_refl _, Nat.zero_le _, fun _ => rfl, fun ad ha => by cases ha⟩
theorem fld (ad : Addr) (m i : Nat) (hi : 0 < i) : (⟨(ad.add m).block, (ad.add m).off + i, none⟩ : Addr) = ad.add (m + i) := by
  unfold Addr.add
  by_cases h : m = 0
  · subst h
    simp [show ¬ i = 0 by omega]
  · simp [h]
    omega
theorem flat_get {α : Type} (f : α → List Value) (n : Nat) (hf : ∀ x, (f x).length = n) : ∀ (l : List α) (k i : Nat) (x : α), l[k]? = some x → i < n → (l.flatMap f)[k * n + i]? = (f x)[i]?
  | [], k, i, x, h, _ => by simp at h
  | a :: l, 0, i, x, h, hi => by
    simp only [List.getElem?_cons_zero, Option.some.injEq] at h
    subst h
    rw [List.flatMap_cons, List.getElem?_append_left (by rw [hf]; omega)]
    congr 1
    omega
  | a :: l, k + 1, i, x, h, hi => by
    rw [List.getElem?_cons_succ] at h
    rw [List.flatMap_cons, List.getElem?_append_right (by rw [hf, Nat.succ_mul]; omega), hf]
    rw [← flat_get f n hf l k i x h hi]
    congr 1
    rw [Nat.succ_mul]
    omega
theorem flat_len {α : Type} (f : α → List Value) (n : Nat) (hf : ∀ x, (f x).length = n) : ∀ l : List α, (l.flatMap f).length = l.length * n
  | [] => by simp
  | a :: l => by rw [List.flatMap_cons, List.length_append, hf, flat_len f n hf l, List.length_cons, Nat.succ_mul]; omega
theorem flat_one {α : Type} (f : α → List Value) (hf : ∀ x, ∀ u ∈ f x, u.oneCell' = true) (l : List α) : ∀ u ∈ l.flatMap f, u.oneCell' = true := by
  intro u hu
  obtain ⟨a, _, h⟩ := List.mem_flatMap.1 hu
  exact hf a u h

/-- The k-th element's cells. -/
theorem Rw.at {α : Type} {f : α → List Value} {n : Nat} (hf : ∀ x, (f x).length = n) {w : World} {v : Value} {l : List α} (h : Rw w v l.length (l.flatMap f)) {k : Nat} {x : α} (hk : l[k]? = some x) (_hn : 0 < n) :
    ∃ ad c, v = .slice (some ad) l.length c ∧ l.length ≤ c ∧ (∀ u, (f x)[0]? = some u → w.cell? (ad.add (k * n)) = some u) ∧
      ∀ i u, 0 < i → (f x)[i]? = some u → w.cell? ⟨(ad.add (k * n)).block, (ad.add (k * n)).off + i, none⟩ = some u := by
  obtain ⟨A, c, rfl, h1, h2, h3, h4⟩ := h
  have hl := (List.getElem?_eq_some_iff.1 hk).1
  cases A with
  | none => have := h3 rfl; omega
  | some ad =>
    have hg : ∀ i u, (f x)[i]? = some u → (l.flatMap f)[k * n + i]? = some u := fun i u hu => by
      have hi : i < n := by
        have := (List.getElem?_eq_some_iff.1 hu).1
        rwa [hf] at this
      rw [flat_get f n hf l k i x hk hi, hu]
    refine ⟨ad, c, rfl, h1, fun u hu => h4 ad rfl _ _ (hg 0 u hu), fun i u hi hu => ?_⟩
    rw [fld ad _ i hi]
    exact h4 ad rfl _ _ (hg i u hu)


theorem Rw.slice {w : World} {v : Value} {n : Nat} {xs : List Value} (h : Rw w v n xs) : ∃ A c, v = .slice A n c ∧ n ≤ c ∧ c ≤ maxLen := by
  obtain ⟨A, c, e, h1, h2, _⟩ := h
  exact ⟨A, c, e, h1, h2⟩


structure It where
  used : Bool
  name : ByteArray
  kind : Int
  who : Int
  lab : Int
  slot : Int
deriving DecidableEq
structure Ho where
  kind : Int
  who : Int
  lab : Int
  slot : Int
deriving DecidableEq

def ics (x : It) : List Value := [.bool x.used, .string x.name, .int .i64 x.kind, .int .i64 x.who, .int .i64 x.lab, .int .i64 x.slot]
def iv6 (x : It) : Value := .agg #[.bool x.used, .string x.name, .int .i64 x.kind, .int .i64 x.who, .int .i64 x.lab, .int .i64 x.slot]
def hv (h : Ho) : Value := .agg #[.int .i64 h.kind, .int .i64 h.who, .int .i64 h.lab, .int .i64 h.slot]
abbrev Its (w : World) (v : Value) (l : List It) : Prop := Rw w v l.length (l.flatMap ics)
theorem Its_at {w : World} {v : Value} {l : List It} (h : Its w v l) {k : Nat} {x : It} (hk : l[k]? = some x) :
    ∃ ad c, v = .slice (some ad) l.length c ∧ l.length ≤ c ∧ w.cell? (ad.add (k * 6)) = some (.bool x.used) ∧ w.cell? ⟨(ad.add (k * 6)).block, (ad.add (k * 6)).off + 1, none⟩ = some (.string x.name) ∧
      w.cell? ⟨(ad.add (k * 6)).block, (ad.add (k * 6)).off + 2, none⟩ = some (.int .i64 x.kind) ∧ w.cell? ⟨(ad.add (k * 6)).block, (ad.add (k * 6)).off + 3, none⟩ = some (.int .i64 x.who) ∧
      w.cell? ⟨(ad.add (k * 6)).block, (ad.add (k * 6)).off + 4, none⟩ = some (.int .i64 x.lab) ∧ w.cell? ⟨(ad.add (k * 6)).block, (ad.add (k * 6)).off + 5, none⟩ = some (.int .i64 x.slot) := by
  obtain ⟨ad, c, e, hc, h0, h1⟩ := Rw.at (f := ics) (n := 6) (fun _ => rfl) h hk (by decide)
  exact ⟨ad, c, e, hc, h0 _ rfl, h1 1 _ (by decide) rfl, h1 2 _ (by decide) rfl, h1 3 _ (by decide) rfl, h1 4 _ (by decide) rfl, h1 5 _ (by decide) rfl⟩

def zit : It := ⟨false, ⟨#[]⟩, 0, 0, 0, 0⟩
def hol (x : It) : Ho := ⟨x.kind, x.who, x.lab, x.slot⟩
def hand (n : Int) : Ho := ⟨1, n, 0, 0⟩
def floor (a b : Int) : Ho := ⟨2, 0, a, b⟩
def deal (n : Int) : Ho := ⟨3, n, 0, 0⟩
def num (n : Int) : Bool := decide (0 ≤ n) && decide (n ≤ 127)
def okH (h : Ho) : Bool := num h.who && num h.lab && num h.slot && (decide (h = hand h.who) || decide (h = floor h.lab h.slot) || decide (h = deal h.who))
def okI (x : It) : Bool := if x.used then Chars.right x.name.data.toList && okH (hol x) else decide (x = zit)
def okL (l : List It) : Bool := l.all okI
def el (l : List It) (k : Nat) : It := l[k]?.getD zit
/-- The slots that are taken, among the first k. -/
def upto (l : List It) (k : Nat) : List Int := ((List.range k).filter fun j => (el l j).used).map Int.ofNat
theorem upto_yes (l : List It) (k : Nat) (h : (el l k).used = true) : upto l (k + 1) = upto l k ++ [(k : Int)] := by
  unfold upto
  rw [List.range_succ, List.filter_append, List.map_append]
  simp [h]
theorem upto_no (l : List It) (k : Nat) (h : (el l k).used = false) : upto l (k + 1) = upto l k := by
  unfold upto
  rw [List.range_succ, List.filter_append, List.map_append]
  simp [h]
theorem upto_len (l : List It) (k : Nat) : (upto l k).length ≤ k := by
  unfold upto
  rw [List.length_map]
  exact Nat.le_trans (List.length_filter_le _ _) (by simp)
theorem upto_mem {l : List It} {k : Nat} {i : Int} (h : i ∈ upto l k) : ∃ j : Nat, i = j ∧ j < k ∧ (el l j).used = true := by
  unfold upto at h
  obtain ⟨j, hj, rfl⟩ := List.mem_map.1 h
  obtain ⟨h1, h2⟩ := List.mem_filter.1 hj
  exact ⟨j, rfl, List.mem_range.1 h1, h2⟩
/-- Is an item at a slot with this holder? -/
def isH (l : List It) (h : Ho) (i : Int) : Bool := decide (hol (el l i.toNat) = h)
/-- The slots of what a holder has. -/
def slotsOf (l : List It) (h : Ho) : List Int := (upto l l.length).filter (isH l h)
end Go.Proofs.Ytaolallfmjjoeaa.TI
