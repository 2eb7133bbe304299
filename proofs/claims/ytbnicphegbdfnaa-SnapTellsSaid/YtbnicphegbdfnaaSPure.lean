/-
  Sealed sectors as lists of bytes: there and back; turned, or torn, they are not opened.
  Conditions: those that each lemma names.
-/
import Derived.Test.YtbnicphegbdfnaaPure
namespace Go.Proofs.Ytbnicphegbdfnaa.SPure
set_option maxRecDepth 100000
set_option maxRecDepth 100000
open Go Go.Proofs.Ytbnicphegbdfnaa.Puts Go.Proofs.Ytbnicphegbdfnaa.Scan Go.Proofs.Ytbnicphegbdfnaa.Nums Go.Proofs.Ytbnicphegbdfnaa.SumPure

def zeros (n : Nat) : List UInt8 := List.replicate n 0
theorem zeros_length (n : Nat) : (zeros n).length = n := by simp [zeros]
/-- What stands ahead of the sum. -/
def body (s : Nat) (load : List UInt8) : List UInt8 := be 8 s ++ (load ++ zeros (108 - load.length))
def sealed (s : Nat) (load : List UInt8) : List UInt8 := (body s load ++ be 4 (sumOf (body s load)).toNat) ++ be 8 s
def may (s : Nat) : Bool := decide (1 ≤ s) && decide (s ≤ 4611686018427387904)
/-- Seal's answer. -/
def sealing (s : Nat) (load : List UInt8) : List UInt8 × Int := if may s = false then ([], 1) else if 108 < load.length then ([], 13) else (sealed s load, 0)
def stampOf (l : List UInt8) : Nat := Sc.val (l.take 8)
def loadOf (l : List UInt8) : List UInt8 := (l.drop 8).take 108
def checkOf (l : List UInt8) : Nat := Sc.val ((l.drop 116).take 4)
def againOf (l : List UInt8) : Nat := Sc.val ((l.drop 120).take 8)
def formed (l : List UInt8) : Bool := decide (stampOf l = againOf l) && may (stampOf l)
def summed (l : List UInt8) : Bool := decide (checkOf l = (sumOf (l.take 116)).toNat)
/-- Open's answer. -/
def opened (l : List UInt8) : Nat × List UInt8 × Int :=
  if l.length < 128 then (0, [], 12) else if 128 < l.length then (0, [], 13) else if formed l = false then (0, [], 2) else if summed l = false then (0, [], 14) else (stampOf l, loadOf l, 0)

theorem be_snoc (k n : Nat) : be (k + 1) n = be k (n / 256) ++ [UInt8.ofNat n] := by
  apply List.ext_getElem?
  intro j
  by_cases hj : j < k
  · have h1 : (be (k + 1) n)[j]? = some (byteAt n (k - j)) := by
      simp [be, show j < k + 1 by omega]
    have h2 : (be k (n / 256) ++ [UInt8.ofNat n])[j]? = some (byteAt (n / 256) (k - 1 - j)) := by
      rw [List.getElem?_append_left (by rw [be_length]; exact hj)]
      simp [be, hj]
    rw [h1, h2]
    congr 1
    unfold byteAt
    congr 1
    rw [Nat.div_div_eq_div_mul]
    congr 1
    rw [show 8 * (k - j) = 8 + 8 * (k - 1 - j) from by omega, Nat.pow_add]
  · by_cases hj2 : j = k
    · subst hj2
      simp [be, byteAt]
    · rw [List.getElem?_eq_none (by rw [be_length]; omega), List.getElem?_eq_none (by simp [be_length]; omega)]
theorem val_be (n : Nat) : ∀ k, n < 256 ^ k → Sc.val (be k n) = n := by
  intro k
  induction k generalizing n with
  | zero => intro h; simp [be, Sc.val] at h ⊢; omega
  | succ k ih =>
    intro h
    rw [be_snoc, val_snoc, ih (n / 256) (by rw [Nat.pow_succ] at h; omega)]
    simp
    omega
theorem be_val_take (l : List UInt8) : ∀ k, k ≤ l.length → be k (Sc.val (l.take k)) = l.take k
  | 0, _ => by simp [be]
  | k + 1, h => by
    have ih := be_val_take l k (by omega)
    rw [take_snoc l k (by omega), be_snoc, val_snoc]
    have hb := (l[k]?.getD 0).toNat_lt
    rw [show (Sc.val (l.take k) * 256 + (l[k]?.getD 0).toNat) / 256 = Sc.val (l.take k) by omega, ih]
    congr 2
    apply UInt8.toNat_inj.1
    simp
theorem be_val (l : List UInt8) : be l.length (Sc.val l) = l := by
  have := be_val_take l l.length (Nat.le_refl _)
  rwa [List.take_length] at this
theorem be_val' (l : List UInt8) (k : Nat) (h : l.length = k) : be k (Sc.val l) = l := by subst h; exact be_val l
theorem val_bound (l : List UInt8) (k : Nat) (h : l.length = k) : Sc.val l < 256 ^ k := by
  have := val_lt l k
  rwa [List.take_of_length_le (Nat.le_of_eq h)] at this

theorem body_length (s : Nat) (load : List UInt8) (h : load.length ≤ 108) : (body s load).length = 116 := by
  simp [body, be_length, zeros_length]; omega
theorem sealed_length (s : Nat) (load : List UInt8) (h : load.length ≤ 108) : (sealed s load).length = 128 := by
  simp [sealed, be_length, body_length s load h]
theorem may_iff (s : Nat) : may s = true ↔ 1 ≤ s ∧ s ≤ 4611686018427387904 := by simp [may]
theorem may_small {s : Nat} (h : may s = true) : s < 256 ^ 8 := by rw [may_iff] at h; omega
theorem sum_small (x : BitVec 32) : x.toNat < 256 ^ 4 := by have := x.isLt; omega

theorem sealed_stamp (s : Nat) (load : List UInt8) (hs : may s = true) : stampOf (sealed s load) = s := by
  unfold stampOf sealed body
  rw [List.append_assoc, List.append_assoc, List.take_left' (be_length 8 s), val_be _ _ (may_small hs)]
section
variable (s : Nat) (load : List UInt8) (h : load.length ≤ 108)
include h
theorem sealed_again (hs : may s = true) : againOf (sealed s load) = s := by
  unfold againOf sealed
  rw [List.drop_left' (by simp [be_length, body_length s load h]), List.take_of_length_le (by simp [be_length]), val_be _ _ (may_small hs)]
theorem sealed_front : (sealed s load).take 116 = body s load := by
  unfold sealed
  rw [List.append_assoc, List.take_left' (body_length s load h)]
theorem sealed_check : checkOf (sealed s load) = (sumOf (body s load)).toNat := by
  unfold checkOf sealed
  rw [List.append_assoc, List.drop_left' (body_length s load h), List.take_left' (be_length _ _), val_be _ _ (sum_small _)]
theorem sealed_load : loadOf (sealed s load) = load ++ zeros (108 - load.length) := by
  unfold loadOf sealed body
  rw [List.append_assoc, List.append_assoc, List.drop_left' (be_length 8 s), List.take_left' (by simp [zeros_length]; omega)]
theorem opened_sealed (hs : may s = true) : opened (sealed s load) = (s, load ++ zeros (108 - load.length), 0) := by
  unfold opened
  have hl := sealed_length s load h
  have hf : formed (sealed s load) = true := by
    simp [formed, sealed_stamp s load hs, sealed_again s load h hs, hs]
  have hq : summed (sealed s load) = true := by
    simp [summed, sealed_check s load h, sealed_front s load h]
  rw [if_neg (by omega), if_neg (by omega), if_neg (by simp [hf]), if_neg (by simp [hq]), sealed_stamp s load hs, sealed_load s load h]
end

/-- A sector's four parts. -/
theorem parts (l : List UInt8) (hl : l.length = 128) : l = ((l.take 8 ++ loadOf l) ++ (l.drop 116).take 4) ++ (l.drop 120).take 8 := by
  unfold loadOf
  rw [show (l.drop 120).take 8 = (l.drop 120) from List.take_of_length_le (by simp; omega)]
  have h1 : l.take 8 ++ (l.drop 8).take 108 = l.take 116 := (List.take_add (i := 8) (j := 108)).symm
  have h2 : l.take 116 ++ (l.drop 116).take 4 = l.take 120 := (List.take_add (i := 116) (j := 4)).symm
  rw [h1, h2, List.take_append_drop]
theorem front_parts (l : List UInt8) : l.take 116 = l.take 8 ++ loadOf l := List.take_add (i := 8) (j := 108)
theorem loadOf_length (l : List UInt8) (hl : l.length = 128) : (loadOf l).length = 108 := by simp [loadOf]; omega
theorem body_parts (l : List UInt8) (hl : l.length = 128) : body (stampOf l) (loadOf l) = l.take 116 := by
  unfold body stampOf
  rw [be_val' _ 8 (by simp; omega), loadOf_length l hl, front_parts]
  simp [zeros]
/-- What is formed is the sealed one of its stamp and load just where it has their sum. -/
theorem resealed (l : List UInt8) (hl : l.length = 128) (he : stampOf l = againOf l) : (sealed (stampOf l) (loadOf l) = l) ↔ summed l = true := by
  have ha : be 8 (stampOf l) = (l.drop 120).take 8 := by rw [he]; unfold againOf; exact be_val' _ 8 (by simp; omega)
  have hb := body_parts l hl
  have hp := parts l hl
  rw [← front_parts] at hp
  have hc : (sealed (stampOf l) (loadOf l)) = (l.take 116 ++ be 4 (sumOf (l.take 116)).toNat) ++ (l.drop 120).take 8 := by unfold sealed; rw [hb, ha]
  rw [hc]
  unfold summed checkOf
  rw [decide_eq_true_iff]
  constructor
  · intro h
    have h2 := h.trans hp
    have h3 := List.append_inj_left' h2 rfl
    have h4 := List.append_cancel_left h3
    rw [← h4, val_be _ _ (sum_small _)]
  · intro h
    rw [← h, be_val' _ 4 (by simp; omega)]
    exact hp.symm

theorem opened_ok (l : List UInt8) (h : (opened l).2.2 = 0) : l.length = 128 ∧ may (stampOf l) = true ∧ sealed (stampOf l) (loadOf l) = l := by
  unfold opened at h
  split at h
  · cases h
  split at h
  · cases h
  split at h
  · cases h
  split at h
  · cases h
  rename_i h1 h2 h3 h4
  have hl : l.length = 128 := by omega
  simp only [Bool.not_eq_false] at h3 h4
  simp only [formed, Bool.and_eq_true, decide_eq_true_eq] at h3
  exact ⟨hl, h3.2, (resealed l hl h3.1).2 h4⟩
theorem opened_zero : opened (zeros 128) = (0, [], 2) := by decide +kernel

/-- Where all that was turned lies within 32 bits ahead of the sum, or behind what it is of: it is opened just where nothing was turned. -/
theorem turned_ahead (s : Nat) (load c : List UInt8) (a : Nat) (h : load.length ≤ 108) (hs : may s = true) (hc : c.length = 128) (hback : c.drop 116 = (sealed s load).drop 116)
    (hin : ∀ p, bitsOf c p ≠ bitsOf (sealed s load) p → a ≤ p ∧ p < a + 32) : ((opened c).2.2 = 0) ↔ c = sealed s load := by
  constructor
  · intro ho
    obtain ⟨h1, h2, h3⟩ := opened_ok c ho
    have e1 : againOf c = s := by
      have : againOf c = againOf (sealed s load) := by
        unfold againOf
        rw [show (120 : Nat) = 116 + 4 from rfl, ← List.drop_drop, ← List.drop_drop, hback]
      rw [this, sealed_again s load h hs]
    have e2 : checkOf c = checkOf (sealed s load) := by unfold checkOf; rw [hback]
    have e3 : checkOf c = (sumOf (c.take 116)).toNat := by
      have := sealed_check (stampOf c) (loadOf c) (by rw [loadOf_length c hc]; omega)
      rw [h3, body_parts c hc] at this
      exact this
    have e4 : sumOf (c.take 116) = sumOf (body s load) := by
      apply BitVec.toNat_inj.1
      rw [← e3, e2, sealed_check s load h]
    have e5 : c.take 116 = body s load := by
      refine (sum_burst _ _ a (by rw [body_length s load h]; simp; omega) fun p hp => ?_).1 e4
      refine hin p fun e => hp ?_
      by_cases hpp : p / 8 < 116
      · rw [← sealed_front s load h]
        unfold bitsOf at e ⊢
        simp only [List.getD_eq_getElem?_getD, List.getElem?_take, hpp, if_true] at e ⊢
        exact e
      · unfold bitsOf
        simp only [List.getD_eq_getElem?_getD]
        rw [List.getElem?_eq_none (by simp; omega), List.getElem?_eq_none (by rw [body_length s load h]; omega)]
    rw [← List.take_append_drop 116 c, hback, e5, ← sealed_front s load h, List.take_append_drop]
  · rintro rfl
    rw [opened_sealed s load h hs]
theorem turned_behind (s : Nat) (load c : List UInt8) (h : load.length ≤ 108) (hs : may s = true) (hc : c.length = 128) (hfront : c.take 116 = (sealed s load).take 116) :
    ((opened c).2.2 = 0) ↔ c = sealed s load := by
  constructor
  · intro ho
    obtain ⟨h1, h2, h3⟩ := opened_ok c ho
    have e1 : stampOf c = s := by
      have : stampOf c = stampOf (sealed s load) := by
        unfold stampOf
        rw [show c.take 8 = (c.take 116).take 8 by rw [List.take_take]; rfl, hfront, List.take_take]; rfl
      rw [this, sealed_stamp s load hs]
    have e2 : loadOf c = loadOf (sealed s load) := by
      have : ∀ m : List UInt8, loadOf m = (m.take 116).drop 8 := fun m => by
        unfold loadOf; rw [List.drop_take]
      rw [this, this, hfront]
    have e3 : body (stampOf c) (loadOf c) = body s load := by
      rw [body_parts c hc, hfront, sealed_front s load h]
    rw [← h3]
    unfold sealed
    rw [e3, e1]
  · rintro rfl
    rw [opened_sealed s load h hs]

/-- A sector's first and last 8 bytes are its stamp. -/
structure Stamped (l : List UInt8) (s : Nat) : Prop where
  len : l.length = 128
  front : l.take 8 = be 8 s
  back : l.drop 120 = be 8 s
theorem stamped_sealed (s : Nat) (load : List UInt8) (h : load.length ≤ 108) : Stamped (sealed s load) s where
  len := sealed_length s load h
  front := by
    unfold sealed body
    rw [List.append_assoc, List.append_assoc, List.take_left' (be_length 8 s)]
  back := by
    unfold sealed
    rw [List.drop_left' (by simp [be_length, body_length s load h])]
theorem stamped_zeros : Stamped (zeros 128) 0 := ⟨by decide +kernel, by decide +kernel, by decide +kernel⟩
theorem be_inj {s o : Nat} (hs : s < 256 ^ 8) (ho : o < 256 ^ 8) (h : be 8 s = be 8 o) : s = o := by
  rw [← val_be s 8 hs, h, val_be o 8 ho]
theorem torn (a b : List UInt8) (o s cut : Nat) (ha : Stamped a o) (hb : Stamped b s) (ho : o < 256 ^ 8) (hs : s < 256 ^ 8) (hne : o ≠ s) (hc : cut ≤ 128)
    (h1 : b.take cut ++ a.drop cut ≠ b) (h2 : b.take cut ++ a.drop cut ≠ a) : opened (b.take cut ++ a.drop cut) = (0, [], 2) := by
  have la := ha.len
  have lb := hb.len
  obtain ⟨T, hT⟩ : ∃ T, T = b.take cut ++ a.drop cut := ⟨_, rfl⟩
  rw [← hT] at h1 h2 ⊢
  have hl : T.length = 128 := by rw [hT]; simp; omega
  have hf : formed T = false := by
    cases hf : formed T with
    | false => rfl
    | true =>
      exfalso
      simp only [formed, Bool.and_eq_true, decide_eq_true_eq] at hf
      have e : T.take 8 = T.drop 120 := by
        have e1 := hf.1
        unfold stampOf againOf at e1
        have := congrArg (be 8) e1
        rw [be_val' _ 8 (by simp; omega), be_val' _ 8 (by simp; omega), List.take_of_length_le (l := T.drop 120) (by simp; omega)] at this
        exact this
      rcases Nat.lt_or_ge cut 8 with hlt | hge
      · have e1 : T.drop 120 = a.take 8 := by
          rw [hT, List.drop_append, List.drop_of_length_le (by simp; omega), List.nil_append, List.drop_drop, ha.front, ← ha.back]
          congr 1
          simp; omega
        have e2 : T.take 8 = b.take cut ++ (a.drop cut).take (8 - cut) := by
          rw [hT, List.take_append, List.take_of_length_le (by simp; omega)]
          congr 2
          simp; omega
        have e3 : a.take 8 = a.take cut ++ (a.drop cut).take (8 - cut) := by
          rw [← List.take_add]; congr 1; omega
        have e4 : b.take cut = a.take cut := List.append_inj_left' ((e2.symm.trans (e.trans e1)).trans e3) rfl
        exact h2 (by rw [hT, e4, List.take_append_drop])
      · rcases Nat.lt_or_ge 120 cut with hgt | hle
        · have e1 : T.take 8 = b.drop 120 := by
            rw [hT, List.take_append, List.take_take, Nat.min_eq_left hge, hb.back, ← hb.front]
            simp; omega
          have e2 : T.drop 120 = (b.drop 120).take (cut - 120) ++ a.drop cut := by
            rw [hT, List.drop_append, List.drop_take]
            congr 1
            rw [show 120 - (b.take cut).length = 0 by simp; omega, List.drop_zero]
          have e3 : b.drop 120 = (b.drop 120).take (cut - 120) ++ b.drop cut := by
            have := (List.take_append_drop (cut - 120) (b.drop 120)).symm
            rwa [List.drop_drop, show 120 + (cut - 120) = cut by omega] at this
          have e4 : a.drop cut = b.drop cut := List.append_cancel_left ((e2.symm.trans (e.symm.trans e1)).trans e3)
          exact h1 (by rw [hT, e4, List.take_append_drop])
        · have e1 : T.take 8 = be 8 s := by
            rw [hT, List.take_append, List.take_take, Nat.min_eq_left hge, ← hb.front]
            simp; omega
          have e2 : T.drop 120 = be 8 o := by
            rw [hT, List.drop_append, List.drop_of_length_le (by simp; omega), List.nil_append, List.drop_drop, ← ha.back]
            congr 1
            simp; omega
          exact hne (be_inj ho hs (by rw [← e1, ← e2, e]))
  unfold opened
  rw [if_neg (by omega), if_neg (by omega), if_pos hf]
end Go.Proofs.Ytbnicphegbdfnaa.SPure
