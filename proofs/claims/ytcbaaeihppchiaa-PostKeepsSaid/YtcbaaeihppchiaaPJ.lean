/-
  Pure facts on letters that are put and tossed.
  Conditions: those that each lemma names.
-/
import Derived.Test.YtcbaaeihppchiaaPG
namespace Go.Proofs.Ytcbaaeihppchiaa.PJ
set_option maxRecDepth 100000
open Go Go.RowKit Go.Lib Go.Proofs.Ytcbaaeihppchiaa Go.Proofs.Ytcbaaeihppchiaa.Facts Go.Proofs.Ytcbaaeihppchiaa.Ints Go.Proofs.Ytcbaaeihppchiaa.PA Go.Proofs.Ytcbaaeihppchiaa.PB Go.Proofs.Ytcbaaeihppchiaa.Chars Go.Proofs.Ytcbaaeihppchiaa.PD Go.Proofs.Ytcbaaeihppchiaa.PE Go.Proofs.Ytcbaaeihppchiaa.PF Go.Proofs.Ytcbaaeihppchiaa.PG Go.Proofs.Ytcbaaeihppchiaa.Bytes


theorem em_set (l : List Ml) (k : Nat) (x : Ml) (j : Nat) (hk : k < l.length) : em (l.set k x) j = if j = k then x else em l j := by
  unfold em
  by_cases h : j = k
  · subst h
    rw [if_pos rfl, List.getElem?_set_self hk]
    rfl
  · rw [if_neg h, List.getElem?_set_ne (fun e => h e.symm)]
theorem okMs_set {l : List Ml} (h : okMs l = true) (k : Nat) (x : Ml) (hx : okM x = true) : okMs (l.set k x) = true := by
  unfold okMs at *
  rw [List.all_eq_true] at *
  intro y hy
  rcases List.mem_or_eq_of_mem_set hy with hy | rfl
  · exact h y hy
  · exact hx
theorem SzM_set {l : List Ml} (h : SzM l) (k : Nat) (x : Ml) (hx : x.text.size ≤ 9223372036854775807) : SzM (l.set k x) := by
  intro y hy
  rcases List.mem_or_eq_of_mem_set hy with hy | rfl
  · exact h y hy
  · exact hx
theorem put_cases (l : List Ml) (m : Ml) (h : okMs l = true) : (∃ er : Int, er ≠ 0 ∧ putP l m = ([], 0, er)) ∨
    (∃ k : Nat, k < l.length ∧ (em l k).used = false ∧ numM m = true ∧ putP l m = (l.set k { m with used := true }, (k : Int), 0) ∧ okMs (l.set k { m with used := true }) = true) := by
  unfold putP
  rw [if_neg (by rw [h]; decide)]
  cases hn : numM m with
  | false => exact .inl ⟨1, by decide, rfl⟩
  | true =>
    rw [if_neg (by decide)]
    cases ht : Chars.text m.text.data.toList with
    | false => exact .inl ⟨2, by decide, rfl⟩
    | true =>
      rw [if_neg (by decide)]
      rcases fidx_cases l (fun x => !x.used) with ⟨hf, _⟩ | ⟨k, hk, hf, hku, _⟩
      · left
        refine ⟨8, by decide, ?_⟩
        unfold mlfree
        rw [hf]
        rfl
      · right
        have hku' : (em l k).used = false := by
          unfold em
          rw [List.getElem?_eq_getElem hk]
          simpa using hku
        refine ⟨k, hk, hku', rfl, ?_, ?_⟩
        · unfold mlfree
          rw [hf]
          have hne : ¬ (k : Int) = -1 := by omega
          rw [if_neg hne, if_neg hne, if_neg hne, Int.toNat_natCast]
        · refine okMs_set h k _ ?_
          unfold okM
          rw [if_pos rfl, numM_used, hn]
          exact ht
theorem toss_cases (l : List Ml) (i n : Int) (h : okMs l = true) : tossP l i n = ([], 3) ∨
    (∃ k : Nat, i = k ∧ k < l.length ∧ (em l k).to = n ∧ tossP l i n = (l.set k zml, 0) ∧ okMs (l.set k zml) = true) := by
  unfold tossP
  rw [if_neg (by rw [h]; decide)]
  cases hh : hasG zml (fun x : Ml => x.used && decide (x.to = n)) l i with
  | false => exact .inl rfl
  | true =>
    right
    have h2 := hh
    unfold hasG at h2
    simp only [Bool.and_eq_true, decide_eq_true_iff] at h2
    obtain ⟨⟨h3, h4⟩, h5, h6⟩ := h2
    refine ⟨i.toNat, by omega, by omega, h6, ?_, okMs_set h _ _ (by decide)⟩
    rw [if_neg (by decide)]
theorem toss_no {l : List Ml} {j : Nat} {n : Int} (h : okMs l = true) (hj : j < l.length) (ht : (em l j).to ≠ n) : tossP l j n = ([], 3) := by
  unfold tossP
  rw [if_neg (by rw [h]; decide), hasG_in _ _ _ _ hj, show l[j]?.getD zml = em l j from rfl, decide_eq_false ht]
  simp
theorem okMs_zero (m : Nat) : okMs (List.replicate m zml) = true := by
  unfold okMs
  rw [List.all_eq_true]
  intro x hx
  rw [List.eq_of_mem_replicate hx]
  decide
theorem SzM_zero (m : Nat) : SzM (List.replicate m zml) := by
  intro x hx
  rw [List.eq_of_mem_replicate hx]
  decide
/-- The letters keep that one. -/
structure Kp (now : List Ml) (m0 a : Nat) (m : Ml) : Prop where
  ok : okMs now = true
  sz : SzM now
  len : now.length = m0
  has : em now a = m
theorem Kp.put {now : List Ml} {m0 a : Nat} {m : Ml} (h : Kp now m0 a m) (hm : m.used = true) {x : Ml} {k : Nat} (hk : k < now.length) (hku : (em now k).used = false) (hok : okMs (now.set k { x with used := true }) = true) (hx : x.text.size ≤ 9223372036854775807) : Kp (now.set k { x with used := true }) m0 a m :=
  ⟨hok, SzM_set h.sz k _ hx, by rw [List.length_set]; exact h.len, by
    rw [em_set _ _ _ _ hk, if_neg, h.has]
    rintro rfl
    rw [h.has, hm] at hku
    cases hku⟩
theorem Kp.toss {now : List Ml} {m0 a : Nat} {m : Ml} (h : Kp now m0 a m) {n : Int} {k : Nat} (hk : k < now.length) (ht : (em now k).to = n) (hok : okMs (now.set k zml) = true) (hne : k = a → m.to ≠ n) : Kp (now.set k zml) m0 a m :=
  ⟨hok, SzM_set h.sz k _ (by decide), by rw [List.length_set]; exact h.len, by
    rw [em_set _ _ _ _ hk, if_neg, h.has]
    rintro rfl
    rw [h.has] at ht
    exact hne rfl ht⟩
end Go.Proofs.Ytcbaaeihppchiaa.PJ
