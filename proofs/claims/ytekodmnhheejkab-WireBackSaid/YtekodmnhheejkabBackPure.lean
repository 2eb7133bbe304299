/-
  What is put is taken, as lists of bytes: numbers that fit their sizes, and texts, one behind the other; cut anywhere, something is missing.
  Conditions: each part is one that may be.
-/
import Derived.Test.YtekodmnhheejkabNums
namespace Go.Proofs.Ytekodmnhheejkab.BackPure
open Go Go.Proofs.Ytekodmnhheejkab.Puts Go.Proofs.Ytekodmnhheejkab.Scan Go.Proofs.Ytekodmnhheejkab.Nums

structure Part where
  n : Nat
  k : Nat
  s : List UInt8

namespace Part
def ok (p : Part) : Prop := 1 ≤ p.k ∧ p.k ≤ 8 ∧ p.s.length ≤ 255 ∧ p.n < 256 ^ p.k
def enc (p : Part) : List UInt8 := if p.s = [] then be p.k p.n else tx p.s
/-- What a scan does for a part. -/
def ask (p : Part) (c : Sc) : Sc := if p.s = [] then (c.num p.k).2 else (c.text 255).2
end Part

def cat (l : List Part) : List UInt8 := l.flatMap Part.enc

theorem val_be (n : Nat) : ∀ k, n < 256 ^ k → Sc.val (be k n) = n := by
  intro k
  induction k generalizing n with
  | zero => intro h; simp [be, Sc.val] at h ⊢; omega
  | succ k ih =>
    intro h
    have e : be (k + 1) n = be k (n / 256) ++ [UInt8.ofNat n] := by
      apply List.ext_getElem?
      intro j
      by_cases hj : j < k
      · have h1 : (be (k + 1) n)[j]? = some (byteAt n (k - j)) := by
          simp [be, show j < k + 1 by omega]
        have h2 : (be k (n / 256) ++ [UInt8.ofNat n])[j]? = some (byteAt (n / 256) (k - 1 - j)) := by
          rw [List.getElem?_append_left (by rw [be_length]; exact hj)]
          simp [be, hj]
        rw [h1, h2]
        congr 1
        unfold byteAt
        congr 1
        rw [Nat.div_div_eq_div_mul]
        congr 1
        rw [show 8 * (k - j) = 8 + 8 * (k - 1 - j) from by omega, Nat.pow_add]
      · by_cases hj2 : j = k
        · subst hj2
          simp [be, List.getElem?_append, byteAt]
        · rw [List.getElem?_eq_none (by rw [be_length]; omega), List.getElem?_eq_none (by simp [be_length]; omega)]
    rw [e, val_snoc, ih (n / 256) (by rw [Nat.pow_succ] at h; omega)]
    simp
    omega

theorem val_one (b : UInt8) : Sc.val [b] = b.toNat := by simp [Sc.val]

theorem enc_len (p : Part) (h : p.ok) : 1 ≤ p.enc.length ∧ p.enc.length ≤ 256 := by
  obtain ⟨h1, h2, h3, _⟩ := h
  unfold Part.enc
  split
  · rw [be_length]; omega
  · rw [tx_length]; omega

theorem take0 (l : List UInt8) (n : Nat) : Sc.take ⟨l, 0⟩ n = if n ≤ l.length then (l.take n, ⟨l.drop n, 0⟩) else ([], ⟨l, 12⟩) := by simp [Sc.take]

theorem num_take (p : Part) (h : p.ok) (hs : p.s = []) (rest : List UInt8) : Sc.num ⟨p.enc ++ rest, 0⟩ p.k = (p.n, ⟨rest, 0⟩) := by
  obtain ⟨h1, h2, h3, h4⟩ := h
  have e : p.enc = be p.k p.n := by simp [Part.enc, hs]
  have hl := be_length p.k p.n
  simp only [Sc.num, take0, e]
  rw [if_pos (by simp [hl])]
  simp only [List.take_append_of_le_length (Nat.le_of_eq hl.symm), List.drop_append_of_le_length (Nat.le_of_eq hl.symm)]
  rw [List.take_of_length_le (Nat.le_of_eq hl), List.drop_of_length_le (Nat.le_of_eq hl), val_be _ _ h4]
  rfl

theorem text_take (p : Part) (h : p.ok) (hs : p.s ≠ []) (rest : List UInt8) : Sc.text ⟨p.enc ++ rest, 0⟩ 255 = (p.s, ⟨rest, 0⟩) := by
  obtain ⟨h1, h2, h3, h4⟩ := h
  have hm : min p.s.length 255 = p.s.length := Nat.min_eq_left h3
  have e : p.enc = UInt8.ofNat p.s.length :: p.s := by
    simp only [Part.enc, hs, if_false, tx, hm]
    rw [List.take_of_length_le h3]
  have hb : (UInt8.ofNat p.s.length).toNat = p.s.length := by
    have := ofNat_small p.s.length h3
    omega
  have hn : Sc.num ⟨p.enc ++ rest, 0⟩ 1 = (p.s.length, ⟨p.s ++ rest, 0⟩) := by
    simp only [Sc.num, take0, e]
    rw [if_pos (by simp)]
    simp [val_one, hb]
  simp only [Sc.text, hn]
  have hr : Sc.rule ⟨p.s ++ rest, 0⟩ (decide ((p.s.length : Int) ≤ 255)) 2 = ⟨p.s ++ rest, 0⟩ := by
    rw [show decide ((p.s.length : Int) ≤ 255) = true by simp; omega]
    simp [Sc.rule]
  rw [hr]
  simp [Sc.take]

/-- A scan of what was cut: it stands where the other one does, or something is missing. -/
def Cut (whole : List UInt8) (cut at_ : Nat) (d : Sc) : Prop := d.e = 12 ∨ (at_ ≤ cut ∧ d = ⟨(whole.take cut).drop at_, 0⟩)

theorem ask_fault (p : Part) (d : Sc) (h : d.e = 12) : (p.ask d).e = 12 := by
  unfold Part.ask
  have hne : d.e ≠ 0 := by rw [h]; decide
  have ht : ∀ n, d.take n = ([], d) := fun n => by simp [Sc.take, hne]
  split
  · simp [Sc.num, ht, h]
  · have hr : ∀ b, d.rule b 2 = d := fun b => by simp [Sc.rule, hne]
    simp [Sc.text, Sc.num, ht, hr, h]

theorem ask_cut (p : Part) (h : p.ok) (whole pre rest : List UInt8) (hw : whole = pre ++ (p.enc ++ rest)) (cut : Nat) (hcut : cut ≤ whole.length) (d : Sc) (hd : Cut whole cut pre.length d) :
    Cut whole cut (pre.length + p.enc.length) (p.ask d) := by
  rcases hd with hd | ⟨hle, hd⟩
  · exact .inl (ask_fault p d hd)
  · have hdl : (whole.take cut).drop pre.length = (p.enc ++ rest).take (cut - pre.length) := by
      rw [hw, List.take_append, List.drop_append]
      have e1 : (List.take cut pre).length = pre.length := by rw [List.length_take]; omega
      rw [e1, Nat.sub_self, List.drop_zero, List.drop_of_length_le (by omega), List.nil_append]
    rw [hdl] at hd
    obtain ⟨a, ha⟩ : ∃ a, cut - pre.length = a := ⟨_, rfl⟩
    rw [ha] at hd
    by_cases hfit : p.enc.length ≤ a
    · right
      refine ⟨by omega, ?_⟩
      have e2 : (p.enc ++ rest).take a = p.enc ++ rest.take (a - p.enc.length) := by
        rw [List.take_append, List.take_of_length_le hfit]
      have e3 : (whole.take cut).drop (pre.length + p.enc.length) = rest.take (a - p.enc.length) := by
        rw [← List.drop_drop, hdl, ha, e2]
        simp
      rw [e3, hd, e2]
      unfold Part.ask
      split
      · rename_i hs; rw [num_take p h hs]
      · rename_i hs; rw [text_take p h hs]
    · left
      have hshort : ((p.enc ++ rest).take a) = p.enc.take a := by
        rw [List.take_append_of_le_length (by omega)]
      rw [hd, hshort]
      obtain ⟨h1, h2, h3, h4⟩ := h
      unfold Part.ask
      split
      · rename_i hs
        have e : p.enc = be p.k p.n := by simp [Part.enc, hs]
        rw [e] at hfit ⊢
        rw [be_length] at hfit
        simp only [Sc.num, take0]
        rw [if_neg (by rw [List.length_take, be_length]; omega)]
      · rename_i hs
        have hm : min p.s.length 255 = p.s.length := Nat.min_eq_left h3
        have e : p.enc = UInt8.ofNat p.s.length :: p.s := by
          simp only [Part.enc, hs, if_false, tx, hm]
          rw [List.take_of_length_le h3]
        have hb : (UInt8.ofNat p.s.length).toNat = p.s.length := by
          have := ofNat_small p.s.length h3
          omega
        rw [e] at hfit ⊢
        simp only [List.length_cons] at hfit
        cases a with
        | zero =>
          have hn : Sc.num ⟨[], 0⟩ 1 = (0, ⟨[], 12⟩) := rfl
          simp only [List.take_zero, Sc.text, hn]
          rfl
        | succ a =>
          have hn : Sc.num ⟨(UInt8.ofNat p.s.length :: p.s).take (a + 1), 0⟩ 1 = (p.s.length, ⟨p.s.take a, 0⟩) := by
            simp only [Sc.num, take0]
            rw [if_pos (by simp)]
            simp [val_one, hb]
          simp only [Sc.text, hn]
          have hr : Sc.rule ⟨p.s.take a, 0⟩ (decide ((p.s.length : Int) ≤ 255)) 2 = ⟨p.s.take a, 0⟩ := by
            rw [show decide ((p.s.length : Int) ≤ 255) = true by simp; omega]
            simp [Sc.rule]
          rw [hr]
          simp only [take0]
          rw [if_neg (by rw [List.length_take]; omega)]
end Go.Proofs.Ytekodmnhheejkab.BackPure
