/-
  How much a realm that may be needs, said purely.
  Conditions: those that each lemma names.
-/
import Derived.Test.YtahlheopdneebaaGreatRRight
import Derived.Test.YtahlheopdneebaaGreatBV
namespace Go.Proofs.YtahlheopdneebaaGreat.BP
set_option maxRecDepth 100000
set_option maxRecDepth 100000
open Go Go.RowKit Go.Lib Go.Proofs.YtahlheopdneebaaGreat Go.Proofs.YtahlheopdneebaaGreat.Facts Go.Proofs.YtahlheopdneebaaGreat.Ints Go.Proofs.YtahlheopdneebaaGreat.RRows Go.Proofs.YtahlheopdneebaaGreat.RSmall Go.Proofs.YtahlheopdneebaaGreat.RRules Go.Proofs.YtahlheopdneebaaGreat.RCaps Go.Proofs.YtahlheopdneebaaGreat.RRule3 Go.Proofs.YtahlheopdneebaaGreat.RRule5 Go.Proofs.YtahlheopdneebaaGreat.RRight Go.Proofs.YtahlheopdneebaaGreat.BV


def Q12 (q : Qu) : Prop := (0 ≤ q.rooms ∧ q.rooms ≤ 12) ∧ (0 ≤ q.exits ∧ q.exits ≤ 12) ∧ (0 ≤ q.items ∧ q.items ≤ 12) ∧ (0 ≤ q.mails ∧ q.mails ≤ 12) ∧ (0 ≤ q.trades ∧ q.trades ≤ 12)
/-- What is counted of a realm that may be. -/
structure RB (r : Re) : Prop where
  lab1 : 1 ≤ r.labels.length
  lab8 : r.labels.length ≤ 8
  lin1 : 1 ≤ r.lines.length
  lin8 : r.lines.length ≤ 8
  acc1 : 1 ≤ r.accounts.length
  acc8 : r.accounts.length ≤ 8
  gui8 : r.guilds.length ≤ 8
  quo : r.quotas.length = r.labels.length
  qok : ∀ q ∈ r.quotas, Q12 q
  pla : ∀ q, r.quotas[0]? = some q → q.rooms ≠ 0
  ord0 : 0 ≤ r.orders
  ord24 : r.orders ≤ 24
  aud0 : 0 ≤ r.audits
  aud48 : r.audits ≤ 48
  rou1 : 1 ≤ r.rounds
  rou16 : r.rounds ≤ 16
theorem wit_iff (n a b : Int) : wit n a b = true ↔ a ≤ n ∧ n ≤ b := by unfold wit; simp
theorem quOk_is {q : Qu} (h : quOk q = true) : Q12 q := by
  unfold quOk five at h
  simp only [List.all_cons, List.all_nil, Bool.and_true, Bool.and_eq_true, wit_iff] at h
  exact h
theorem RB.of {r : Re} (h : mayBe r = true) : RB r := by
  unfold mayBe rule7 rule6 rule5 rule4 rule3 rule2 rule1 at h
  simp only [Bool.and_eq_true, wit_iff, decide_eq_true_eq, List.all_eq_true] at h
  obtain ⟨⟨_, a1, a2⟩, ⟨⟨b1, b2⟩, b3, b4⟩, ⟨c1, c2, c3, _⟩, ⟨d1, _⟩, ⟨⟨e1, e2⟩, _⟩, ⟨⟨f1, f2⟩, _⟩, ⟨⟨g1, g2⟩, _⟩, _⟩ := h
  refine ⟨by omega, by omega, by omega, by omega, by omega, by omega, d1, c1, fun q hq => quOk_is (c2 q hq), fun q hq => ?_, b1, b2, b3, b4, a1, a2⟩
  cases hl : r.quotas with
  | nil => rw [hl] at hq; cases hq
  | cons x l =>
    rw [hl] at hq c3
    cases hq
    unfold plazaOk at c3
    simpa using c3
def sumQ (f : Qu → Int) (l : List Qu) : Int := (l.map f).sum
theorem sumQ_step (f : Qu → Int) (l : List Qu) (k : Nat) (x : Qu) (h : l[k]? = some x) : sumQ f (l.take (k + 1)) = sumQ f (l.take k) + f x := by
  unfold sumQ
  rw [List.take_add_one, h]
  simp
theorem sumQ_nil (f : Qu → Int) : sumQ f [] = 0 := rfl
theorem sumQ_le {f : Qu → Int} : ∀ {l : List Qu}, (∀ q ∈ l, 0 ≤ f q ∧ f q ≤ 12) → 0 ≤ sumQ f l ∧ sumQ f l ≤ 12 * l.length
  | [], _ => ⟨Int.le_refl _, by simp [sumQ]⟩
  | q :: l, h => by
    have h1 := h q (List.mem_cons_self ..)
    have h2 := sumQ_le (l := l) fun x hx => h x (List.mem_cons_of_mem _ hx)
    have h3 : sumQ f (q :: l) = f q + sumQ f l := by simp [sumQ]
    rw [h3, List.length_cons]
    omega
theorem sumQ_take {f : Qu → Int} {l : List Qu} (h : ∀ q ∈ l, 0 ≤ f q ∧ f q ≤ 12) (k : Nat) : 0 ≤ sumQ f (l.take k) ∧ sumQ f (l.take k) ≤ 12 * l.length := by
  have h1 := sumQ_le (l := l.take k) fun q hq => h q (List.mem_of_mem_take hq)
  have h2 : (l.take k).length ≤ l.length := by rw [List.length_take]; exact Nat.min_le_right _ _
  omega
/-- The sums of all quotas' numbers. -/
structure Tg where
  R : Int
  E : Int
  I : Int
  M : Int
  T : Int
def tog (l : List Qu) : Tg := ⟨sumQ (·.rooms) l, sumQ (·.exits) l, sumQ (·.items) l, sumQ (·.mails) l, sumQ (·.trades) l⟩
/-- How many bytes the greatest image has. -/
def imgP (r : Re) : Int := 9 + r.lines.length + (r.guilds.length * r.accounts.length : Nat) + 14 * (tog r.quotas).R + 6 * (tog r.quotas).E + 18 * (tog r.quotas).I + 45 * (tog r.quotas).M + 23 * (tog r.quotas).T + 34 * (r.labels.length * r.accounts.length : Nat) + 64 * r.labels.length + 23 * r.orders + 31 * r.audits
/-- And a round's record. -/
def recP (r : Re) : Int := 8 + 61 * r.lines.length
def areaP (r : Re) : Nat := ((imgP r + 119) / 108).toNat
def eachP (r : Re) : Nat := ((recP r + 111) / 108).toNat
theorem RB.sums {r : Re} (h : RB r) : (0 ≤ (tog r.quotas).R ∧ (tog r.quotas).R ≤ 96) ∧ (0 ≤ (tog r.quotas).E ∧ (tog r.quotas).E ≤ 96) ∧ (0 ≤ (tog r.quotas).I ∧ (tog r.quotas).I ≤ 96) ∧ (0 ≤ (tog r.quotas).M ∧ (tog r.quotas).M ≤ 96) ∧ (0 ≤ (tog r.quotas).T ∧ (tog r.quotas).T ≤ 96) := by
  have hl := h.quo
  have h8 := h.lab8
  have a1 := sumQ_le (f := (·.rooms)) fun q hq => (h.qok q hq).1
  have a2 := sumQ_le (f := (·.exits)) fun q hq => (h.qok q hq).2.1
  have a3 := sumQ_le (f := (·.items)) fun q hq => (h.qok q hq).2.2.1
  have a4 := sumQ_le (f := (·.mails)) fun q hq => (h.qok q hq).2.2.2.1
  have a5 := sumQ_le (f := (·.trades)) fun q hq => (h.qok q hq).2.2.2.2
  unfold tog
  refine ⟨⟨a1.1, by show sumQ _ _ ≤ _; omega⟩, ⟨a2.1, by show sumQ _ _ ≤ _; omega⟩, ⟨a3.1, by show sumQ _ _ ≤ _; omega⟩, ⟨a4.1, by show sumQ _ _ ≤ _; omega⟩, ⟨a5.1, by show sumQ _ _ ≤ _; omega⟩⟩
theorem RB.room {r : Re} (h : RB r) : 1 ≤ (tog r.quotas).R := by
  have hl := h.quo
  have h1 := h.lab1
  cases hq : r.quotas with
  | nil => rw [hq] at hl; simp at hl; omega
  | cons x l =>
    have hx := h.pla x (by rw [hq]; rfl)
    have hb := (h.qok x (by rw [hq]; exact List.mem_cons_self ..)).1
    have a1 := sumQ_le (f := (·.rooms)) (l := l) fun q hm => (h.qok q (by rw [hq]; exact List.mem_cons_of_mem _ hm)).1
    have h3 : (tog (x :: l)).R = x.rooms + sumQ (·.rooms) l := by simp [tog, sumQ]
    rw [h3]
    omega
theorem RB.prods {r : Re} (h : RB r) : r.guilds.length * r.accounts.length ≤ 64 ∧ 1 ≤ r.labels.length * r.accounts.length ∧ r.labels.length * r.accounts.length ≤ 64 := by
  refine ⟨Nat.mul_le_mul h.gui8 h.acc8, ?_, Nat.mul_le_mul h.lab8 h.acc8⟩
  exact Nat.mul_le_mul h.lab1 h.acc1
theorem RB.img {r : Re} (h : RB r) : 122 ≤ imgP r ∧ imgP r ≤ 16000 := by
  obtain ⟨s1, s2, s3, s4, s5⟩ := h.sums
  have s0 := h.room
  obtain ⟨p1, p2, p3⟩ := h.prods
  have := h.lab1; have := h.lab8; have := h.lin1; have := h.lin8; have := h.ord0; have := h.ord24; have := h.aud0; have := h.aud48
  unfold imgP
  omega
theorem RB.record {r : Re} (h : RB r) : 69 ≤ recP r ∧ recP r ≤ 496 := by
  have := h.lin1; have := h.lin8
  unfold recP
  omega
theorem RB.area {r : Re} (h : RB r) : 2 ≤ areaP r ∧ areaP r ≤ 149 ∧ imgP r ≤ 108 * (areaP r : Int) - 12 ∧ ∀ n : Nat, n < areaP r → 108 * (n : Int) - 12 < imgP r := by
  have := h.img
  unfold areaP
  refine ⟨by omega, by omega, by omega, fun n hn => by omega⟩
theorem RB.each {r : Re} (h : RB r) : 1 ≤ eachP r ∧ eachP r ≤ 5 ∧ recP r ≤ 108 * (eachP r : Int) - 4 ∧ ∀ n : Nat, n < eachP r → 108 * (n : Int) - 4 < recP r := by
  have := h.record
  unfold eachP
  refine ⟨by omega, by omega, by omega, fun n hn => by omega⟩
/-- The plan. -/
def planP (r : Re) : Pl := ⟨areaP r, r.rounds.toNat, eachP r⟩
theorem pok {a p e : Nat} (ha : 1 ≤ a) (ha2 : a ≤ 200) (hp : 1 ≤ p) (hp2 : p ≤ 16) (he : 1 ≤ e) (he2 : e ≤ 200) : POK ⟨a, p, e⟩ (p * e) := by
  have : p * e ≤ 16 * 200 := Nat.mul_le_mul hp2 he2
  exact ⟨ha, hp, hp2, he, by show 2 * a + p * e ≤ 16384; omega, rfl⟩
end Go.Proofs.YtahlheopdneebaaGreat.BP
