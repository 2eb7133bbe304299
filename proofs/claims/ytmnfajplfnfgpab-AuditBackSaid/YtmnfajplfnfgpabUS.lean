/-
  The bytes of an entry, there and back.
  Conditions: those that each lemma names.
-/
import Derived.Test.YtmnfajplfnfgpabUO
import Derived.Test.YtmnfajplfnfgpabUL
namespace Go.Proofs.Ytmnfajplfnfgpab.US
set_option maxRecDepth 100000
open Go Go.RowKit Go.Lib Go.Proofs.Ytmnfajplfnfgpab Go.Proofs.Ytmnfajplfnfgpab.Facts Go.Proofs.Ytmnfajplfnfgpab.Ints Go.Proofs.Ytmnfajplfnfgpab.PA Go.Proofs.Ytmnfajplfnfgpab.UA Go.Proofs.Ytmnfajplfnfgpab.UM Go.Proofs.Ytmnfajplfnfgpab.UB Go.Proofs.Ytmnfajplfnfgpab.UC Go.Proofs.Ytmnfajplfnfgpab.UD Go.Proofs.Ytmnfajplfnfgpab.UK Go.Proofs.Ytmnfajplfnfgpab.UO Go.Proofs.Ytmnfajplfnfgpab.Bytes Go.Proofs.Ytmnfajplfnfgpab.Puts Go.Proofs.Ytmnfajplfnfgpab.Scan Go.Proofs.Ytmnfajplfnfgpab.Take Go.Proofs.Ytmnfajplfnfgpab.Nums

theorem be_snoc (k n : Nat) : be (k + 1) n = be k (n / 256) ++ [UInt8.ofNat n] := by
  apply List.ext_getElem?
  intro j
  by_cases hj : j < k
  · have h1 : (be (k + 1) n)[j]? = some (byteAt n (k - j)) := by
      simp [be, show j < k + 1 by omega]
    have h2 : (be k (n / 256) ++ [UInt8.ofNat n])[j]? = some (byteAt (n / 256) (k - 1 - j)) := by
      rw [List.getElem?_append_left (by rw [be_length]; exact hj)]
      simp [be, hj]
    rw [h1, h2]
    congr 1
    unfold byteAt
    congr 1
    rw [Nat.div_div_eq_div_mul]
    congr 1
    rw [show 8 * (k - j) = 8 + 8 * (k - 1 - j) from by omega, Nat.pow_add]
  · by_cases hj2 : j = k
    · subst hj2
      simp [be, byteAt]
    · rw [List.getElem?_eq_none (by rw [be_length]; omega), List.getElem?_eq_none (by simp [be_length]; omega)]
theorem val_be (n : Nat) : ∀ k, n < 256 ^ k → Sc.val (be k n) = n := by
  intro k
  induction k generalizing n with
  | zero => intro h; simp [be, Sc.val] at h ⊢; omega
  | succ k ih =>
    intro h
    rw [be_snoc, val_snoc, ih (n / 256) (by rw [Nat.pow_succ] at h; omega)]
    simp
    omega
theorem be_val_take (l : List UInt8) : ∀ k, k ≤ l.length → be k (Sc.val (l.take k)) = l.take k
  | 0, _ => by simp [be]
  | k + 1, h => by
    have ih := be_val_take l k (by omega)
    rw [take_snoc l k (by omega), be_snoc, val_snoc]
    have hb := (l[k]?.getD 0).toNat_lt
    rw [show (Sc.val (l.take k) * 256 + (l[k]?.getD 0).toNat) / 256 = Sc.val (l.take k) by omega, ih]
    congr 2
    apply UInt8.toNat_inj.1
    simp
theorem be_val (l : List UInt8) : be l.length (Sc.val l) = l := by
  have := be_val_take l l.length (Nat.le_refl _)
  rwa [List.take_length] at this
theorem be_val' (l : List UInt8) (k : Nat) (h : l.length = k) : be k (Sc.val l) = l := by subst h; exact be_val l

theorem num_be (n K : Nat) (rest : List UInt8) (h : n < 256 ^ K) : (Sc.mk (be K n ++ rest) 0).num K = (n, ⟨rest, 0⟩) := by
  unfold Sc.num Sc.take
  simp only [if_true]
  rw [if_pos (by rw [List.length_append, be_length]; omega)]
  have h1 : (be K n ++ rest).take K = be K n := by
    have := List.take_left' (l₁ := be K n) (l₂ := rest) (be_length K n)
    exact this
  have h2 : (be K n ++ rest).drop K = rest := List.drop_left' (be_length K n)
  rw [h1, h2, val_be n K h]
theorem stepS {l : List UInt8} {k K n : Nat} {rest : List UInt8} (hs : sK l k = ⟨be K n ++ rest, 0⟩) (hk : sz k = K) (hn : n < 256 ^ K) : sK l (k + 1) = ⟨rest, 0⟩ ∧ vK l k = n := by
  have h := num_be n K rest hn
  constructor
  · show ((sK l k).num (sz k)).2 = _
    rw [hs, hk, h]
  · unfold vK
    rw [hs, hk, h]
theorem read_enc {x : En} (ho : okE x = true) (hx : SzE x) : readP (bytesP x) = (x, 0) := by
  obtain ⟨r, n1, n2, n3, n4, n5, n6, qn, pr, n9, rfl, l1, l2, l3, l4, l5, l6, l9⟩ := ok_nat ho
  obtain ⟨h0, h7, h8⟩ := hx
  have hb : bytesP (⟨r, n1, n2, n3, n4, n5, n6, qn, pr, n9⟩ : En) = be 8 r ++ (be 1 n1 ++ (be 1 n2 ++ (be 1 n3 ++ (be 1 n4 ++ (be 1 n5 ++ (be 1 n6 ++ (be 8 qn ++ (be 8 pr ++ (be 1 n9 ++ []))))))))) := by
    unfold bytesP
    rw [if_neg (by rw [ho]; decide)]
    simp [encE, fl]
  rw [hb]
  generalize hl : be 8 r ++ (be 1 n1 ++ (be 1 n2 ++ (be 1 n3 ++ (be 1 n4 ++ (be 1 n5 ++ (be 1 n6 ++ (be 8 qn ++ (be 8 pr ++ (be 1 n9 ++ []))))))))) = l
  have s0 : sK l 0 = ⟨be 8 r ++ (be 1 n1 ++ (be 1 n2 ++ (be 1 n3 ++ (be 1 n4 ++ (be 1 n5 ++ (be 1 n6 ++ (be 8 qn ++ (be 8 pr ++ (be 1 n9 ++ []))))))))), 0⟩ := by rw [hl]; rfl
  obtain ⟨s1, v0⟩ := stepS s0 rfl h0
  obtain ⟨s2, v1⟩ := stepS s1 rfl (by omega)
  obtain ⟨s3, v2⟩ := stepS s2 rfl (by omega)
  obtain ⟨s4, v3⟩ := stepS s3 rfl (by omega)
  obtain ⟨s5, v4⟩ := stepS s4 rfl (by omega)
  obtain ⟨s6, v5⟩ := stepS s5 rfl (by omega)
  obtain ⟨s7, v6⟩ := stepS s6 rfl (by omega)
  obtain ⟨s8, v7⟩ := stepS s7 rfl h7
  obtain ⟨s9, v8⟩ := stepS s8 rfl h8
  obtain ⟨s10, v9⟩ := stepS s9 rfl (by omega)
  unfold readP
  rw [s10, if_pos (by rfl)]
  have hd : decE l = ⟨r, n1, n2, n3, n4, n5, n6, qn, pr, n9⟩ := by
    unfold decE
    rw [v0, v1, v2, v3, v4, v5, v6, v7, v8, v9]
  rw [hd, if_pos ho]
theorem num_back {s : Sc} {K : Nat} (h : (s.num K).2.e = 0) : s.e = 0 ∧ s.l = be K (s.num K).1 ++ (s.num K).2.l := by
  unfold Sc.num Sc.take at *
  by_cases he : s.e = 0
  · simp only [he, if_true] at *
    by_cases hK : K ≤ s.l.length
    · rw [if_pos hK] at *
      simp only
      refine ⟨trivial, ?_⟩
      rw [be_val' (s.l.take K) K (by rw [List.length_take]; omega), List.take_append_drop]
    · rw [if_neg hK] at h
      cases h
  · simp only [he, if_false] at *
theorem back_step {l : List UInt8} {k : Nat} (h : (sK l (k + 1)).e = 0) : (sK l k).e = 0 ∧ (sK l k).l = be (sz k) (vK l k) ++ (sK l (k + 1)).l := num_back h
theorem enc_read {b : List UInt8} {y : En} (h : readP b = (y, 0)) : okE y = true ∧ bytesP y = b := by
  unfold readP at h
  split at h
  · rename_i hf
    split at h
    · rename_i ho
      have hy : decE b = y := congrArg Prod.fst h
      have he : (sK b 10).e = 0 ∧ (sK b 10).l = [] := by
        by_cases h1 : (sK b 10).e = 0
        · by_cases h2 : (sK b 10).l.length = 0
          · exact ⟨h1, List.eq_nil_of_length_eq_zero h2⟩
          · exfalso
            unfold Sc.fin Sc.left at hf
            rw [if_pos h1, if_pos (by omega)] at hf
            exact absurd hf (by decide)
        · exfalso
          unfold Sc.fin Sc.left at hf
          rw [if_neg h1, if_neg (by decide)] at hf
          exact h1 hf
      obtain ⟨e10, l10⟩ := he
      obtain ⟨e9, l9⟩ := back_step (k := 9) e10
      obtain ⟨e8, l8⟩ := back_step (k := 8) e9
      obtain ⟨e7, l7⟩ := back_step (k := 7) e8
      obtain ⟨e6, l6⟩ := back_step (k := 6) e7
      obtain ⟨e5, l5⟩ := back_step (k := 5) e6
      obtain ⟨e4, l4⟩ := back_step (k := 4) e5
      obtain ⟨e3, l3⟩ := back_step (k := 3) e4
      obtain ⟨e2, l2⟩ := back_step (k := 2) e3
      obtain ⟨e1, l1⟩ := back_step (k := 1) e2
      obtain ⟨e0, l0⟩ := back_step (k := 0) e1
      subst hy
      refine ⟨ho, ?_⟩
      unfold bytesP
      rw [if_neg (by rw [ho]; decide)]
      have hb : b = (sK b 0).l := rfl
      conv => rhs; rw [hb, l0, l1, l2, l3, l4, l5, l6, l7, l8, l9, l10]
      unfold encE fl decE
      simp [sz]
    · injection h with _ h2
      cases h2
  · rename_i hf
    injection h with _ h2
    exact absurd h2 hf
theorem right_ok {l : List En} (h : rightL l = true) {k : Nat} (hk : k < l.length) : okE (ee l k) = true := by
  unfold rightL at h
  have := List.all_eq_true.1 h k (List.mem_range.2 hk)
  unfold stepB at this
  rw [Bool.and_eq_true] at this
  exact this.1
end Go.Proofs.Ytmnfajplfnfgpab.US
