/-
  Which orders may be, which meet, and what comes of posting, said purely.
  Conditions: those that each lemma names.
-/
import Derived.Test.YtmnfajplfnfgpaaUB
import Derived.Test.YtmnfajplfnfgpaaOA
import Derived.Lib.Hide
namespace Go.Proofs.Ytmnfajplfnfgpaa.BP
set_option maxRecDepth 100000
open Go Go.RowKit Go.Lib Go.Proofs.Ytmnfajplfnfgpaa Go.Proofs.Ytmnfajplfnfgpaa.Facts Go.Proofs.Ytmnfajplfnfgpaa.Ints Go.Proofs.Ytmnfajplfnfgpaa.PA Go.Proofs.Ytmnfajplfnfgpaa.UM Go.Proofs.Ytmnfajplfnfgpaa.UB Go.Proofs.Ytmnfajplfnfgpaa.OA Go.Proofs.Ytmnfajplfnfgpaa.Bytes


/-- May the order be? -/
def mayO (x : Or) : Bool := decide ((needP x.side x.left x.price).2 = 0) && (decide (x.res = (needP x.side x.left x.price).1) && (num x.label && (num x.who && (coinB x.base && (coinB x.quote && (!decide (x.base = x.quote) && decide (0 ≤ x.seq)))))))
def okO (x : Or) : Bool := if x.used then mayO x else decide (x = zor)
def seqs (l : List Or) : List Int := (l.filter fun x => x.used).map fun x => x.seq
def apartP (l : List Or) : Bool := decide (seqs l).Nodup
def rightO (l : List Or) : Bool := l.all okO && apartP l
def SzO (x : Or) : Prop := x.price < 18446744073709551616 ∧ x.left < 18446744073709551616 ∧ x.res < 18446744073709551616
structure MayF (x : Or) : Prop where
  sd : x.side = 1 ∨ x.side = 2
  l0 : x.left ≠ 0
  p0 : x.price ≠ 0
  tp : x.left * x.price ≤ top
  rs : x.res = if x.side = 2 then x.left else x.left * x.price
  lb : num x.label = true
  wh : num x.who = true
  bs : coinB x.base = true
  qt : coinB x.quote = true
  ne : x.base ≠ x.quote
  sq : 0 ≤ x.seq
theorem need_zero (s : Int) (q p : Nat) : (needP s q p).2 = 0 ↔ ((s = 1 ∨ s = 2) ∧ q ≠ 0 ∧ p ≠ 0) ∧ q * p ≤ top := by
  unfold needP
  by_cases h : (s = 1 ∨ s = 2) ∧ q ≠ 0 ∧ p ≠ 0
  · rw [if_pos h]
    by_cases h2 : q * p ≤ top
    · rw [if_pos h2]; exact ⟨fun _ => ⟨h, h2⟩, fun _ => rfl⟩
    · rw [if_neg h2]; exact ⟨fun h3 => (by cases h3), fun h3 => absurd h3.2 h2⟩
  · rw [if_neg h]; exact ⟨fun h3 => (by cases h3), fun h3 => absurd h3.1 h⟩
theorem may_iff (x : Or) : mayO x = true ↔ MayF x := by
  unfold mayO
  simp only [Bool.and_eq_true, decide_eq_true_eq, Bool.not_eq_true', decide_eq_false_iff_not]
  rw [need_zero]
  constructor
  · rintro ⟨⟨⟨h1, h2, h3⟩, h4⟩, h5, h6, h7, h8, h9, h10, h11⟩
    rw [need_ok _ _ _ ⟨h1, h2, h3⟩ h4] at h5
    exact ⟨h1, h2, h3, h4, h5, h6, h7, h8, h9, h10, h11⟩
  · intro h
    refine ⟨⟨⟨h.sd, h.l0, h.p0⟩, h.tp⟩, ?_, h.lb, h.wh, h.bs, h.qt, h.ne, h.sq⟩
    rw [need_ok _ _ _ ⟨h.sd, h.l0, h.p0⟩ h.tp]
    exact h.rs
/-- Do two orders meet? -/
def meetsP (o x : Or) : Bool := decide (o.base = x.base) && (decide (o.quote = x.quote) && (!decide (o.side = x.side) && (if o.side = 2 then decide (o.price ≤ x.price) else decide (x.price ≤ o.price))))
/-- Is x the better one of two that o meets? -/
def betB (o x y : Or) : Bool := if x.price = y.price then decide (x.seq < y.seq) else (decide (x.price < y.price) == decide (o.side = 1))
/-- What compare answers. -/
def cmpN (a b : Nat) : Int := if a < b then -1 else if b < a then 1 else 0
def cmpZ (a b : Int) : Int := if a < b then -1 else if b < a then 1 else 0
def cmpO (x y : Or) : Int := if x.price = y.price then cmpZ x.seq y.seq else if x.side = 1 then -cmpN x.price y.price else cmpN x.price y.price
theorem cmp_bet (o x y : Or) (ho : o.side = 1 ∨ o.side = 2) (hx : x.side = 1 ∨ x.side = 2) (hs : o.side ≠ x.side) : decide (cmpO x y < 0) = betB o x y := by
  unfold cmpO betB
  by_cases h : x.price = y.price
  · rw [if_pos h, if_pos h]
    unfold cmpZ
    by_cases h1 : x.seq < y.seq
    · rw [if_pos h1, decide_eq_true h1]; rfl
    · rw [if_neg h1, decide_eq_false h1]
      by_cases h2 : y.seq < x.seq
      · rw [if_pos h2]; rfl
      · rw [if_neg h2]; rfl
  · rw [if_neg h, if_neg h]
    unfold cmpN
    by_cases h1 : x.price < y.price
    · rw [if_pos h1, decide_eq_true h1]
      rcases hx with e | e
      · have e2 : o.side = 2 := by omega
        rw [if_pos e, e2]; rfl
      · have e2 : o.side = 1 := by omega
        rw [if_neg (by omega), e2]; rfl
    · rw [if_neg h1, decide_eq_false h1, if_pos (show y.price < x.price by omega)]
      rcases hx with e | e
      · have e2 : o.side = 2 := by omega
        rw [if_pos e, e2]; rfl
      · have e2 : o.side = 1 := by omega
        rw [if_neg (by omega), e2]; rfl
theorem bet_irr (o x : Or) : betB o x x = false := by simp [betB]
theorem bet_asy (o x y : Or) (h : betB o x y = true) : betB o y x = false := by
  unfold betB at *
  by_cases hp : x.price = y.price
  · rw [if_pos hp] at h
    rw [if_pos hp.symm]
    simp at h ⊢
    omega
  · rw [if_neg hp] at h
    rw [if_neg (fun e => hp e.symm)]
    by_cases h1 : x.price < y.price
    · rw [decide_eq_true h1] at h
      rw [decide_eq_false (by omega)]
      revert h
      cases decide (o.side = 1) <;> decide
    · rw [decide_eq_false h1] at h
      rw [decide_eq_true (by omega)]
      revert h
      cases decide (o.side = 1) <;> decide
theorem bet_trans (o x y z : Or) (h : betB o x y = true) (k : betB o y z = true) : betB o x z = true := by
  unfold betB at *
  by_cases d : o.side = 1
  · rw [decide_eq_true d] at *
    split at h <;> split at k <;> split <;> simp at h k ⊢ <;> omega
  · rw [decide_eq_false d] at *
    split at h <;> split at k <;> split <;> simp at h k ⊢ <;> omega
theorem bet_tot (o x y : Or) (hs : x.seq ≠ y.seq) (h : betB o x y = false) : betB o y x = true := by
  unfold betB at *
  by_cases d : o.side = 1
  · rw [decide_eq_true d] at *
    split at h <;> split <;> simp at h ⊢ <;> omega
  · rw [decide_eq_false d] at *
    split at h <;> split <;> simp at h ⊢ <;> omega
structure Fi where
  slot : Int
  qty : Nat
  price : Nat
deriving DecidableEq
def lessP (x : Or) (n p : Nat) : Or := { x with left := x.left - n, res := x.res - (if x.side = 2 then n else n * p) }
/-- One order that is met. -/
def nowP (l now : List Or) (o : Or) (i : Nat) : List Or := now.set i (if o.left < (eo l i).left then lessP (eo l i) o.left (eo l i).price else zor)
def ordP (l : List Or) (o : Or) (i : Nat) : Or := lessP o (min o.left (eo l i).left) (eo l i).price
def filP (l : List Or) (o : Or) (i : Nat) : Fi := ⟨i, min o.left (eo l i).left, (eo l i).price⟩
/-- What fill answers, of slots one behind the other. -/
def fillP (l : List Or) : List Nat → List Or → Or → List Fi → List Or × List Fi × Or
  | [], now, o, fs => (now, fs, o)
  | i :: r, now, o, fs => if o.left = 0 then (now, fs, o) else fillP l r (nowP l now o i) (ordP l o i) (fs ++ [filP l o i])
/-- The slots that are met. -/
def metL (l : List Or) (o : Or) : List Nat := (List.range l.length).filter fun i => (eo l i).used && meetsP o (eo l i)
structure Srt (l : List Or) (o : Or) (S : List Nat) : Prop where
  perm : S.Perm (metL l o)
  sort : S.Pairwise fun i j => betB o (eo l i) (eo l j) = true
theorem met_mem (l : List Or) (o : Or) (i : Nat) : i ∈ metL l o ↔ i < l.length ∧ (eo l i).used = true ∧ meetsP o (eo l i) = true := by
  unfold metL
  simp [List.mem_filter]
theorem Srt.mem {l : List Or} {o : Or} {S : List Nat} (h : Srt l o S) (i : Nat) : i ∈ S ↔ i < l.length ∧ (eo l i).used = true ∧ meetsP o (eo l i) = true := by rw [h.perm.mem_iff, met_mem]
theorem Srt.nodup {l : List Or} {o : Or} {S : List Nat} (h : Srt l o S) : S.Nodup := h.perm.nodup_iff.2 (List.Nodup.sublist List.filter_sublist List.nodup_range)
theorem srt_one {l : List Or} {o : Or} {S : List Nat} {i : Nat} (h : Srt l o S) (hm : metL l o = [i]) : S = [i] := by
  have := h.perm
  rw [hm] at this
  exact List.perm_singleton.1 this
theorem srt_none {l : List Or} {o : Or} {S : List Nat} (h : Srt l o S) (hm : metL l o = []) : S = [] := by
  have := h.perm
  rw [hm] at this
  exact List.perm_nil.1 this
def takenB (l : List Or) (o : Or) : Bool := l.any fun x => x.used && decide (x.seq = o.seq)
/-- What Post answers. -/
structure Po where
  now : List Or
  fills : List Fi
  at_ : Int
  sur : Nat
  err : Int
def restP (t : List Or × List Fi × Or) : Po :=
  if t.2.2.left = 0 then ⟨t.1, t.2.1, -1, t.2.2.res, 0⟩
  else ⟨t.1.set (ordfree t.1).toNat { t.2.2 with used := true, res := (needP t.2.2.side t.2.2.left t.2.2.price).1 }, t.2.1, ordfree t.1, t.2.2.res - (needP t.2.2.side t.2.2.left t.2.2.price).1, 0⟩
def postP (l : List Or) (o : Or) (S : List Nat) : Po :=
  if rightO l = true ∧ mayO o = true ∧ takenB l o = false then (if ordfree l = -1 then ⟨[], [], 0, 0, 8⟩ else restP (fillP l S l o [])) else ⟨[], [], 0, 0, 1⟩

/-- What holds of the order while it is filled. -/
structure FO (o : Or) : Prop where
  sd : o.side = 1 ∨ o.side = 2
  p0 : o.price ≠ 0
  s2 : o.side = 2 → o.res = o.left
  s1 : o.side = 1 → o.left * o.price ≤ o.res
  le : o.left ≤ top
  rl : o.res ≤ top
  tp : o.left * o.price ≤ top
theorem le_top {a b : Nat} (hb : b ≠ 0) (h : a * b ≤ top) : a ≤ top := Nat.le_trans (Nat.le_mul_of_pos_right a (Nat.pos_of_ne_zero hb)) h
theorem FO.of_may {o : Or} (h : MayF o) : FO o := by
  refine ⟨h.sd, h.p0, fun e => ?_, fun e => ?_, le_top h.p0 h.tp, ?_, h.tp⟩
  · rw [h.rs, if_pos e]
  · rw [h.rs, if_neg (by omega)]; exact Nat.le_refl _
  · rw [h.rs]
    split
    · exact le_top h.p0 h.tp
    · exact h.tp
theorem meets_iff (o x : Or) : meetsP o x = true ↔ o.base = x.base ∧ o.quote = x.quote ∧ o.side ≠ x.side ∧ (if o.side = 2 then o.price ≤ x.price else x.price ≤ o.price) := by
  unfold meetsP
  by_cases h : o.side = 2
  · simp [h]
  · simp [h]
/-- What a fill's step may reckon. -/
structure FStep (o x : Or) : Prop where
  n0 : min o.left x.left ≠ 0
  nt : min o.left x.left * x.price ≤ top
  gv : (if o.side = 2 then min o.left x.left else min o.left x.left * x.price) ≤ o.res
  gx : (if x.side = 2 then min o.left x.left else min o.left x.left * x.price) ≤ x.res
theorem FO.step {o x : Or} (h : FO o) (hx : MayF x) (hm : meetsP o x = true) (h0 : o.left ≠ 0) : FStep o x := by
  obtain ⟨m1, m2, m3, m4⟩ := (meets_iff o x).1 hm
  have hl0 := hx.l0
  have hn : min o.left x.left * x.price ≤ x.left * x.price := Nat.mul_le_mul_right _ (Nat.min_le_right _ _)
  refine ⟨by omega, Nat.le_trans hn hx.tp, ?_, ?_⟩
  · rcases h.sd with e | e
    · rw [if_neg (by omega)]
      rw [if_neg (by omega)] at m4
      refine Nat.le_trans ?_ (h.s1 e)
      exact Nat.mul_le_mul (Nat.min_le_left _ _) m4
    · rw [if_pos e, h.s2 e]
      exact Nat.min_le_left _ _
  · rw [hx.rs]
    split
    · exact Nat.min_le_right _ _
    · exact hn
theorem FO.next {o x : Or} (h : FO o) (_hx : MayF x) (hm : meetsP o x = true) : FO (lessP o (min o.left x.left) x.price) := by
  obtain ⟨m1, m2, m3, m4⟩ := (meets_iff o x).1 hm
  refine ⟨h.sd, h.p0, fun e => ?_, fun e => ?_, ?_, ?_, Nat.le_trans (Nat.mul_le_mul_right _ (Nat.sub_le _ _)) h.tp⟩
  · have e' : o.side = 2 := e
    show o.res - (if o.side = 2 then _ else _) = o.left - _
    rw [if_pos e', h.s2 e']
  · have e' : o.side = 1 := e
    show (o.left - min o.left x.left) * o.price ≤ o.res - (if o.side = 2 then _ else _)
    rw [if_neg (by omega)]
    rw [if_neg (by omega)] at m4
    have h1 := h.s1 e'
    have h2 : min o.left x.left * x.price ≤ min o.left x.left * o.price := Nat.mul_le_mul_left _ m4
    have h3 : (o.left - min o.left x.left) * o.price = o.left * o.price - min o.left x.left * o.price := Nat.sub_mul _ _ _
    omega
  · exact Nat.le_trans (Nat.sub_le _ _) h.le
  · exact Nat.le_trans (Nat.sub_le _ _) h.rl
theorem meets_less (o x : Or) (n p : Nat) : meetsP (lessP o n p) x = meetsP o x := rfl
theorem bet_less (o x y : Or) (n p : Nat) : betB (lessP o n p) x y = betB o x y := rfl
theorem right_at {l : List Or} (h : rightO l = true) (i : Nat) (hu : (eo l i).used = true) : MayF (eo l i) := by
  unfold rightO at h
  rw [Bool.and_eq_true] at h
  have hi : i < l.length := by
    refine Classical.byContradiction fun hn => ?_
    unfold eo at hu
    rw [List.getElem?_eq_none (by omega)] at hu
    cases hu
  have := List.all_eq_true.1 h.1 _ (List.mem_of_getElem? (eo_get hi))
  unfold okO at this
  rw [if_pos hu] at this
  exact (may_iff _).1 this
theorem right_zero {l : List Or} (h : rightO l = true) (i : Nat) (hu : (eo l i).used = false) : eo l i = zor := by
  unfold rightO at h
  rw [Bool.and_eq_true] at h
  by_cases hi : i < l.length
  · have := List.all_eq_true.1 h.1 _ (List.mem_of_getElem? (eo_get hi))
    unfold okO at this
    rw [if_neg (by rw [hu]; decide)] at this
    exact of_decide_eq_true this
  · unfold eo
    rw [List.getElem?_eq_none (by omega)]
    rfl
end Go.Proofs.Ytmnfajplfnfgpaa.BP
