/-
  Rows of labels, accounts, guilds and quotas, and a realm, as they are read.
  Conditions: none.
-/
import Derived.Test.YtmegdgeiikhflaaGreatLBox
import Derived.Test.YtmegdgeiikhflaaGreatInts
namespace Go.Proofs.YtmegdgeiikhflaaGreat.RRows
set_option maxRecDepth 100000
open Go Go.RowKit Go.Lib Go.Proofs.YtmegdgeiikhflaaGreat Go.Proofs.YtmegdgeiikhflaaGreat.Facts Go.Proofs.YtmegdgeiikhflaaGreat.Bytes Go.Proofs.YtmegdgeiikhflaaGreat.Ints

/-- The slice v has n elements, and its cells read as these values. -/
def Rw (w : World) (v : Value) (n : Nat) (xs : List Value) : Prop :=
  ∃ (A : Option Addr) (c : Nat), v = .slice A n c ∧ n ≤ c ∧ c ≤ maxLen ∧ (A = none → c = 0) ∧
    ∀ ad, A = some ad → ∀ j u, xs[j]? = some u → w.cell? (ad.add j) = some u
theorem Rw.grew {w w' : World} {v : Value} {n : Nat} {xs : List Value} (h : Rw w v n xs) (hg : Grew w w') : Rw w' v n xs := by
  obtain ⟨A, c, e, h1, h2, h3, h4⟩ := h
  exact ⟨A, c, e, h1, h2, h3, fun ad ha j u hu => cellG hg (h4 ad ha j u hu)⟩
theorem Rw.of_own {w : World} {v : Value} {xs : List Value} {base t m n : Nat} (h : w.ownsRow base t m v n xs) (h0 : n = 0 → xs = []) : Rw w v n xs := by
  rcases h.2 with ⟨rfl, h1⟩ | ⟨g, cap, cur, rfl, hb, hg, hnc, hcm, _, _⟩
  · subst h1
    rw [h0 rfl]
    exact ⟨none, 0, rfl, Nat.le_refl _, Nat.zero_le _, fun _ => rfl, fun ad ha => by cases ha⟩
  · exact ⟨_, cap, rfl, hnc, hcm, (fun h => by cases h), fun ad ha => by cases ha; exact h.cells (g := g) rfl⟩
theorem rw_none (w : World) : Rw w (.slice none 0 0) 0 [] := ⟨_, 0, rfl, Nat.le_refl _, Nat.zero_le _, fun _ => rfl, fun ad ha => by cases ha⟩
theorem fld (ad : Addr) (m i : Nat) (hi : 0 < i) : (⟨(ad.add m).block, (ad.add m).off + i, none⟩ : Addr) = ad.add (m + i) := by
  unfold Addr.add
  by_cases h : m = 0
  · subst h
    simp [show ¬ i = 0 by omega]
  · simp [h]
    omega
theorem flat_get {α : Type} (f : α → List Value) (n : Nat) (hf : ∀ x, (f x).length = n) : ∀ (l : List α) (k i : Nat) (x : α), l[k]? = some x → i < n → (l.flatMap f)[k * n + i]? = (f x)[i]?
  | [], k, i, x, h, _ => by simp at h
  | a :: l, 0, i, x, h, hi => by
    simp only [List.getElem?_cons_zero, Option.some.injEq] at h
    subst h
    rw [List.flatMap_cons, List.getElem?_append_left (by rw [hf]; omega)]
    congr 1
    omega
  | a :: l, k + 1, i, x, h, hi => by
    rw [List.getElem?_cons_succ] at h
    rw [List.flatMap_cons, List.getElem?_append_right (by rw [hf, Nat.succ_mul]; omega), hf]
    rw [← flat_get f n hf l k i x h hi]
    congr 1
    rw [Nat.succ_mul]
    omega
theorem flat_len {α : Type} (f : α → List Value) (n : Nat) (hf : ∀ x, (f x).length = n) : ∀ l : List α, (l.flatMap f).length = l.length * n
  | [] => by simp
  | a :: l => by rw [List.flatMap_cons, List.length_append, hf, flat_len f n hf l, List.length_cons, Nat.succ_mul]; omega
theorem flat_one {α : Type} (f : α → List Value) (hf : ∀ x, ∀ u ∈ f x, u.oneCell' = true) (l : List α) : ∀ u ∈ l.flatMap f, u.oneCell' = true := by
  intro u hu
  obtain ⟨a, _, h⟩ := List.mem_flatMap.1 hu
  exact hf a u h

/-- The k-th element's cells. -/
theorem Rw.at {α : Type} {f : α → List Value} {n : Nat} (hf : ∀ x, (f x).length = n) {w : World} {v : Value} {l : List α} (h : Rw w v l.length (l.flatMap f)) {k : Nat} {x : α} (hk : l[k]? = some x) (_hn : 0 < n) :
    ∃ ad c, v = .slice (some ad) l.length c ∧ l.length ≤ c ∧ (∀ u, (f x)[0]? = some u → w.cell? (ad.add (k * n)) = some u) ∧
      ∀ i u, 0 < i → (f x)[i]? = some u → w.cell? ⟨(ad.add (k * n)).block, (ad.add (k * n)).off + i, none⟩ = some u := by
  obtain ⟨A, c, rfl, h1, h2, h3, h4⟩ := h
  have hl := (List.getElem?_eq_some_iff.1 hk).1
  cases A with
  | none => have := h3 rfl; omega
  | some ad =>
    have hg : ∀ i u, (f x)[i]? = some u → (l.flatMap f)[k * n + i]? = some u := fun i u hu => by
      have hi : i < n := by
        have := (List.getElem?_eq_some_iff.1 hu).1
        rwa [hf] at this
      rw [flat_get f n hf l k i x hk hi, hu]
    refine ⟨ad, c, rfl, h1, fun u hu => h4 ad rfl _ _ (hg 0 u hu), fun i u hi hu => ?_⟩
    rw [fld ad _ i hi]
    exact h4 ad rfl _ _ (hg i u hu)

structure La where
  lev : Int
  set : BitVec 64
deriving DecidableEq
structure Ac where
  name : ByteArray
  secret : ByteArray
  lev : Int
  mints : Bool
deriving DecidableEq
structure Gu where
  bit : Int
  founder : Int
deriving DecidableEq
structure Qu where
  rooms : Int
  exits : Int
  items : Int
  mails : Int
  trades : Int
  cap : BitVec 64
deriving DecidableEq
structure Re where
  labels : List La
  lines : List Int
  accounts : List Ac
  guilds : List Gu
  quotas : List Qu
  orders : Int
  audits : Int
  rate : Int
  rounds : Int
deriving DecidableEq

def lcs (a : La) : List Value := [.int .i64 a.lev, .int .u64 (a.set.toNat : Int)]
def acs (a : Ac) : List Value := [.string a.name, .string a.secret, .int .i64 a.lev, .bool a.mints]
def gcs (g : Gu) : List Value := [.int .i64 g.bit, .int .i64 g.founder]
def qcs (q : Qu) : List Value := [.int .i64 q.rooms, .int .i64 q.exits, .int .i64 q.items, .int .i64 q.mails, .int .i64 q.trades, .int .u64 (q.cap.toNat : Int)]
abbrev Ls (w : World) (v : Value) (l : List La) : Prop := Rw w v l.length (l.flatMap lcs)
abbrev As (w : World) (v : Value) (l : List Ac) : Prop := Rw w v l.length (l.flatMap acs)
abbrev Gs (w : World) (v : Value) (l : List Gu) : Prop := Rw w v l.length (l.flatMap gcs)
abbrev Qs (w : World) (v : Value) (l : List Qu) : Prop := Rw w v l.length (l.flatMap qcs)

theorem Ls_at {w : World} {v : Value} {l : List La} (h : Ls w v l) {k : Nat} {x : La} (hk : l[k]? = some x) :
    ∃ ad c, v = .slice (some ad) l.length c ∧ l.length ≤ c ∧ w.cell? (ad.add (k * 2)) = some (.int .i64 x.lev) ∧ w.cell? ⟨(ad.add (k * 2)).block, (ad.add (k * 2)).off + 1, none⟩ = some (.int .u64 (x.set.toNat : Int)) := by
  obtain ⟨ad, c, e, hc, h0, h1⟩ := Rw.at (f := lcs) (n := 2) (fun _ => rfl) h hk (by decide)
  exact ⟨ad, c, e, hc, h0 _ rfl, h1 1 _ (by decide) rfl⟩
theorem Gs_at {w : World} {v : Value} {l : List Gu} (h : Gs w v l) {k : Nat} {x : Gu} (hk : l[k]? = some x) :
    ∃ ad c, v = .slice (some ad) l.length c ∧ l.length ≤ c ∧ w.cell? (ad.add (k * 2)) = some (.int .i64 x.bit) ∧ w.cell? ⟨(ad.add (k * 2)).block, (ad.add (k * 2)).off + 1, none⟩ = some (.int .i64 x.founder) := by
  obtain ⟨ad, c, e, hc, h0, h1⟩ := Rw.at (f := gcs) (n := 2) (fun _ => rfl) h hk (by decide)
  exact ⟨ad, c, e, hc, h0 _ rfl, h1 1 _ (by decide) rfl⟩
theorem As_at {w : World} {v : Value} {l : List Ac} (h : As w v l) {k : Nat} {x : Ac} (hk : l[k]? = some x) :
    ∃ ad c, v = .slice (some ad) l.length c ∧ l.length ≤ c ∧ w.cell? (ad.add (k * 4)) = some (.string x.name) ∧ w.cell? ⟨(ad.add (k * 4)).block, (ad.add (k * 4)).off + 1, none⟩ = some (.string x.secret) ∧
      w.cell? ⟨(ad.add (k * 4)).block, (ad.add (k * 4)).off + 2, none⟩ = some (.int .i64 x.lev) ∧ w.cell? ⟨(ad.add (k * 4)).block, (ad.add (k * 4)).off + 3, none⟩ = some (.bool x.mints) := by
  obtain ⟨ad, c, e, hc, h0, h1⟩ := Rw.at (f := acs) (n := 4) (fun _ => rfl) h hk (by decide)
  exact ⟨ad, c, e, hc, h0 _ rfl, h1 1 _ (by decide) rfl, h1 2 _ (by decide) rfl, h1 3 _ (by decide) rfl⟩
theorem Qs_at {w : World} {v : Value} {l : List Qu} (h : Qs w v l) {k : Nat} {x : Qu} (hk : l[k]? = some x) :
    ∃ ad c, v = .slice (some ad) l.length c ∧ l.length ≤ c ∧ w.cell? (ad.add (k * 6)) = some (.int .i64 x.rooms) ∧ w.cell? ⟨(ad.add (k * 6)).block, (ad.add (k * 6)).off + 1, none⟩ = some (.int .i64 x.exits) ∧
      w.cell? ⟨(ad.add (k * 6)).block, (ad.add (k * 6)).off + 2, none⟩ = some (.int .i64 x.items) ∧ w.cell? ⟨(ad.add (k * 6)).block, (ad.add (k * 6)).off + 3, none⟩ = some (.int .i64 x.mails) ∧
      w.cell? ⟨(ad.add (k * 6)).block, (ad.add (k * 6)).off + 4, none⟩ = some (.int .i64 x.trades) ∧ w.cell? ⟨(ad.add (k * 6)).block, (ad.add (k * 6)).off + 5, none⟩ = some (.int .u64 (x.cap.toNat : Int)) := by
  obtain ⟨ad, c, e, hc, h0, h1⟩ := Rw.at (f := qcs) (n := 6) (fun _ => rfl) h hk (by decide)
  exact ⟨ad, c, e, hc, h0 _ rfl, h1 1 _ (by decide) rfl, h1 2 _ (by decide) rfl, h1 3 _ (by decide) rfl, h1 4 _ (by decide) rfl, h1 5 _ (by decide) rfl⟩
theorem Rw.slice {w : World} {v : Value} {n : Nat} {xs : List Value} (h : Rw w v n xs) : ∃ A c, v = .slice A n c ∧ n ≤ c ∧ c ≤ maxLen := by
  obtain ⟨A, c, e, h1, h2, _⟩ := h
  exact ⟨A, c, e, h1, h2⟩

/-- A realm's value. -/
def ReIs (w : World) (v : Value) (r : Re) : Prop :=
  ∃ v0 v1 v2 v3 v4, v = .agg #[v0, v1, v2, v3, v4, .int .i64 r.orders, .int .i64 r.audits, .int .i64 r.rate, .int .i64 r.rounds] ∧
    Ls w v0 r.labels ∧ Is w v1 r.lines ∧ As w v2 r.accounts ∧ Gs w v3 r.guilds ∧ Qs w v4 r.quotas
theorem ReIs.grew {w w' : World} {v : Value} {r : Re} (h : ReIs w v r) (hg : Grew w w') : ReIs w' v r := by
  obtain ⟨v0, v1, v2, v3, v4, e, h0, h1, h2, h3, h4⟩ := h
  exact ⟨v0, v1, v2, v3, v4, e, h0.grew hg, h1.grew hg, h2.grew hg, h3.grew hg, h4.grew hg⟩
end Go.Proofs.YtmegdgeiikhflaaGreat.RRows
