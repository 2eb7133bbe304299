/-
  For any bytes: whatever is turned of them within 32 bits side by side, SumBurst answers true.
  Conditions: none beyond those that each lemma names.
-/
import Derived.Test.YtoeemilmjaihcaaEven
import Derived.Laws.OwnMore
namespace Go.Proofs.Ytoeemilmjaihcaa.Burst
open Go Go.RowKit Go.Proofs.Ytoeemilmjaihcaa Go.Proofs.Ytoeemilmjaihcaa.Facts Go.Proofs.Ytoeemilmjaihcaa.Bytes Go.Proofs.Ytoeemilmjaihcaa.SumPure Go.Proofs.Ytoeemilmjaihcaa.Sum Go.Proofs.Ytoeemilmjaihcaa.Alive Go.Proofs.Ytoeemilmjaihcaa.Even

theorem run_app (W : World) (base : Nat) (v : Value) (A : Option Addr) (c : Nat) (l : List UInt8) (S : Nat → Prop) (hown : W.ownsRow base 5 1 v 0 []) (hr : Rd S W (.slice A l.length c) l) (hl : l.length ≤ 140737488355328) (hb : base ≤ W.heap.size) :
    ∃ v' w', (Builtin.append_ #[22, 22] 22 #[v, .slice A l.length c]).run Try.prog W = .ok v' w' ∧ w'.ownsRow base 5 1 v' l.length (bv l) ∧ Below base W w' := by
  obtain ⟨i0, hi, hx⟩ := Option.map_eq_some_iff.1 info5
  simp only [Prod.mk.injEq] at hx
  obtain ⟨hz0, hz1, hz2⟩ := hx
  obtain ⟨A', c', e, h1, h2, h3, h4⟩ := hr
  injection e with e1 _ e3
  subst e1 e3
  cases A with
  | none =>
    have h0 := h3 rfl
    have : l = [] := List.eq_nil_of_length_eq_zero (by omega)
    subst this
    subst h0
    exact ⟨v, W, run_append_owned_none W base 22 22 5 i0 1 Try.underlying22 hi v 0 [] hown, hown, Below.refl _ _⟩
  | some ad =>
    obtain ⟨v', w', hr, h5, h6, _⟩ := run_append_own (P := Try.prog) W base 22 22 5 i0 (.int .u8 0) 1 1 Try.underlying22 hi hz0 hz1 hz2 rfl Nat.one_pos v 0 [] hown ad l.length c (bv l) (by rw [bv_length]; omega) (h4 ad rfl).2 (bv_one l) (by unfold maxLen; omega) (by omega) hb
    refine ⟨v', w', hr, by simpa using h5, below_of_grown W h6 hb fun k hk => ?_⟩
    rcases hown.2 with ⟨rfl, _⟩ | ⟨g, cap, cur, rfl, hg, _⟩
    · simp [Value.ownBlock] at hk
    · simp [Value.ownBlock] at hk
      omega

theorem wpList_app {P : Program} {w : World} {ops : Array Oper} {rest : List Oper} {o : Oper} {ac : Act} {Q : Exit → Act → World → Prop} (hgd : o.guard = none) (s x : Operand) (t : TypeId)
    (ho : o.op = .call { callee := .builtin .append, args := #[s, x], argTypes := #[t, t] }) (vs vx : Value) (hs : ac.eval s = vs) (hx : ac.eval x = vx) (v' : Value) (w' : World)
    (hr : (Builtin.append_ #[t, t] o.type #[vs, vx]).run P w = .ok v' w') (hK : wpList P ops Q rest (ac.put o.dst v') w') : wpList P ops Q (o :: rest) ac w := by
  refine wpList_plain hgd fun _ hK' => ?_
  unfold Oper.wp execOp
  simp only [ho, resolve, invoke, builtin, Sem.run_bind, Sem.run_pure, Result.andThen_ok, List.map_toArray, List.map_cons, List.map_nil, hs, hx, hr]
  exact hK' _ _ hK

/-- A bit turned. -/
def turnAt (m : List UInt8) (q : Nat) : List UInt8 := m.set (q / 8) ((m[q / 8]?.getD 0) ^^^ UInt8.ofNat (2 ^ (q % 8)))
theorem turnAt_length (m : List UInt8) (q : Nat) : (turnAt m q).length = m.length := by simp [turnAt]
theorem pow8 (j : Nat) (hj : j < 8) : (UInt8.ofNat (2 ^ j)).toNat = 2 ^ j := by
  have : (2 : Nat) ^ j < 2 ^ 8 := Nat.pow_lt_pow_right (by omega) hj
  rw [UInt8.toNat_ofNat']
  exact Nat.mod_eq_of_lt this
theorem turnAt_bits (m : List UInt8) (q p : Nat) (hq : q / 8 < m.length) : bitsOf (turnAt m q) p = (bitsOf m p ^^ decide (q = p)) := by
  unfold bitsOf turnAt
  simp only [List.getD_eq_getElem?_getD]
  by_cases h : q / 8 = p / 8
  · rw [← h, List.getElem?_set_self (by simpa using hq)]
    simp only [Option.getD_some]
    rw [UInt8.toNat_xor, Nat.testBit_xor, pow8 _ (Nat.mod_lt _ (by omega)), Nat.testBit_two_pow]
    congr 1
    rw [decide_eq_decide]
    omega
  · rw [List.getElem?_set_ne h]
    have : ¬ q = p := fun e => h (by rw [e])
    simp [this]

/-- Is the bit left as it is? -/
def stays (N : Nat) (a : Int) (t : BitVec 32) (k : Nat) : Bool := decide (a < 0) || decide (a > 8 * (N : Int) - 1 - k) || !(t.getLsbD k)
/-- The bytes behind k bits. -/
def turns (l : List UInt8) (a : Int) (t : BitVec 32) : Nat → List UInt8
  | 0 => l
  | k + 1 => if stays l.length a t k then turns l a t k else turnAt (turns l a t k) (a.toNat + k)
theorem turns_length (l : List UInt8) (a : Int) (t : BitVec 32) (k : Nat) : (turns l a t k).length = l.length := by
  induction k with
  | zero => rfl
  | succ k ih =>
    rw [turns]
    split
    · exact ih
    · rw [turnAt_length, ih]
theorem turns_bits (l : List UInt8) (a : Int) (t : BitVec 32) (p : Nat) : ∀ k, bitsOf (turns l a t k) p ≠ bitsOf l p → a.toNat ≤ p ∧ p < a.toNat + k
  | 0 => fun h => absurd rfl h
  | k + 1 => fun h => by
    rw [turns] at h
    split at h
    · have := turns_bits l a t p k h
      omega
    · rename_i hs
      have hs' : a.toNat + k < 8 * l.length := by
        unfold stays at hs
        simp at hs
        omega
      rw [turnAt_bits _ _ _ (by rw [turns_length]; omega)] at h
      by_cases hp : a.toNat + k = p
      · omega
      · rw [decide_eq_false hp, Bool.xor_false] at h
        have := turns_bits l a t p k h
        omega

theorem shl8 (j : Nat) (hj : j < 8) : IntKind.u8.wrap ((2 : Int) ^ j) = ((UInt8.ofNat (2 ^ j)).toNat : Int) := by
  rw [pow8 j hj, IntKind.wrap_u8]
  have : (2 : Nat) ^ j < 2 ^ 8 := Nat.pow_lt_pow_right (by omega) hj
  have e : ((2 : Int) ^ j) = (((2 : Nat) ^ j : Nat) : Int) := by simp
  rw [e]
  generalize (2 : Nat) ^ j = z at *
  omega
theorem bit_at (t : BitVec 32) (k : Nat) : (bits .and .u32 ((t.toNat : Int) / 2 ^ k) 1 == 0) = !(t.getLsbD k) := by
  rw [down]
  have h1 : bits .and .u32 ((t >>> k).toNat : Int) 1 = (((t >>> k) &&& 1#32).toNat : Int) := bits_and _ 1#32
  rw [h1]
  have e : ((t >>> k) &&& 1#32).toNat = (t.getLsbD k).toNat := by
    rw [BitVec.toNat_and]
    show (t >>> k).toNat &&& 1 = _
    rw [Nat.and_one_is_mod, BitVec.toNat_ushiftRight, Nat.shiftRight_eq_div_pow]
    unfold BitVec.getLsbD
    rw [Nat.testBit_eq_decide_div_mod_eq]
    have := Nat.mod_lt (t.toNat / 2 ^ k) (show 0 < 2 by omega)
    by_cases h : t.toNat / 2 ^ k % 2 = 1
    · simp [h]
    · simp [show t.toNat / 2 ^ k % 2 = 0 by omega]
  rw [e]
  cases t.getLsbD k <;> rfl

theorem own_set {W : World} {base g cap n j : Nat} {cur : Array Value} {m : List UInt8} (x : UInt8) (hb : base ≤ g) (hg : W.heap[g]? = some (.cells cur 5 (0, 0))) (hnc : n ≤ cap) (hcm : cap ≤ maxLen) (hsz : cur.size = cap * 1) (ht : cur.toList.take (n * 1) = bv m) (hm : m.length = n) (hj : j < n) :
    (W.setCell ⟨g, j, none⟩ (.int .u8 (x.toNat : Int))).ownsRow base 5 1 (.slice (some ⟨g, 0, none⟩) n cap) n (bv (m.set j x)) := by
  refine ⟨by rw [bv_length, List.length_set]; omega, .inr ⟨g, cap, cur.setIfInBounds j (.int .u8 (x.toNat : Int)), rfl, hb, heap_setCell_same _ _ _ _ _ _ hg, hnc, hcm, by simpa using hsz, ?_⟩⟩
  rw [Array.toList_setIfInBounds, List.take_set, ht, bv_set]

set_option maxRecDepth 100000 in
set_option maxHeartbeats 8000000 in
theorem law_any (S : Nat → Prop) (v : Value) (l : List UInt8) (a : Int) (t : BitVec 32) (w : World) (hr : Rd S w v l) (hl : l.length ≤ 140737488355328) (ha : a ≤ 9223372036854775807) :
    Calls Try.prog 5 #[v, .int .i64 a, .int .u32 (t.toNat : Int)] w fun e w' => e = .returned (.bool true) ∧ Grew w w' := by
  obtain ⟨A, c, rfl, hlc, hcm, _⟩ := id hr
  unfold maxLen at hcm
  have HR := Lib.hid hr
  have hown : (w.alloc (.cells #[] 5)).ownsRow w.heap.size 5 1 (.slice (some ⟨w.heap.size, 0, none⟩) 0 0) 0 [] :=
    ⟨rfl, .inr ⟨w.heap.size, 0, #[], rfl, Nat.le_refl _, heap_alloc_new w _, Nat.le_refl _, Nat.zero_le _, rfl, rfl⟩⟩
  obtain ⟨v7, w1, happ, hown1, hbel⟩ := run_app _ w.heap.size _ A c l S hown (hr.grew (show Grew w (w.alloc (.cells #[] 5)) by unfold Grew; go_grown)) hl (by simp)
  have HO := Lib.hid hown1
  have HG1 := Lib.hid (show Grew w w1 from (show Below w.heap.size w (w.alloc (.cells #[] 5)) by go_grown).trans hbel)
  have HAPP := Lib.hid happ
  clear hown hr hown1 hbel happ
  go_enter Try.func5, Try.ntmps5
  go_wp2_with (at_builtin; refine wpList_app rfl _ _ 22 rfl _ _ rfl rfl v7 w1 HAPP.out ?_)
  go_loopg [8] 32 (fun g s8 wx => ∃ k : Nat, k + g = 32 ∧ s8 = .int .i64 k ∧ Hid (wx.ownsRow w.heap.size 5 1 v7 l.length (bv (turns l a t k))) ∧ Hid (Grew w wx))
  case atStart => exact ⟨0, rfl, rfl, HO, HG1⟩
  case round =>
    obtain ⟨k, hkg, rfl, HB, HG⟩ := hrel
    cases gk with
    | zero =>
      have hkz : ¬ ((k : Int) < 32) := by omega
      obtain rfl : k = 32 := by omega
      obtain ⟨m, hm⟩ : ∃ m, m = turns l a t 32 := ⟨_, rfl⟩
      obtain ⟨x1, hx1⟩ : ∃ x1, x1 = ((sumOf l).toNat : Int) := ⟨_, rfl⟩
      obtain ⟨x2, hx2⟩ : ∃ x2, x2 = ((sumOf m).toNat : Int) := ⟨_, rfl⟩
      have hlen : m.length = l.length := by rw [hm, turns_length]
      have HM : Hid (Rd (fun _ => True) wr v7 m) := Lib.hid (by
        have hb := HB.out
        rw [← hm] at hb
        exact (Rd.of_own hb hlen.symm).mono fun _ _ => trivial)
      have key : sumOf l = sumOf m ↔ l = m := sum_burst l m a.toNat hlen.symm (fun p hp => turns_bits l a t p 32 (by rw [← hm]; exact fun e => hp e.symm))
      obtain ⟨q, hq⟩ : ∃ q, q = decide (l = m) := ⟨_, rfl⟩
      have HQ1 : Hid ((l == m) = q) := Lib.hid (by rw [hq, Bool.eq_iff_iff, beq_iff_eq, decide_eq_true_iff])
      have HQ2 : Hid ((x1 == x2) = q) := Lib.hid (by
        rw [hq, Bool.eq_iff_iff, beq_iff_eq, decide_eq_true_iff, ← key, hx1, hx2, ← BitVec.toNat_inj]
        omega)
      have H1 : Hid (∀ W, Grew w W → Calls Try.prog 8 #[.slice A l.length c] W fun e w' => e = .returned (.int .u32 x1) ∧ Grew W w') := Lib.hid fun W hg => by
        have := of_any S _ _ W (HR.out.grew hg)
        rw [← hx1] at this
        exact this
      have H2 : Hid (∀ W, Grew wr W → Calls Try.prog 8 #[v7] W fun e w' => e = .returned (.int .u32 x2) ∧ Grew W w') := Lib.hid fun W hg => by
        have := of_any _ _ _ W (HM.out.grew hg)
        rw [← hx2] at this
        exact this
      clear hm hx1 hx2 hq key HB HO HG1
      go_wp2
      refine Facts.wp_region_text (by kernel_rfl) (by kernel_rfl) ?_
      apply Facts.Lex.exact [] (.bool true) (by kernel_rfl)
      · intro u W hC _
        unfold Facts.one
        go_simp
        first | exact ⟨Grew.refl _, rfl⟩ | rfl | (refine (alive_any W).mono ?_; rintro e w' ⟨rfl, hg⟩; exact ⟨_, rfl, hg, rfl⟩)
      simp only [Act.put, List.setIfInBounds_toArray, List.set_cons_zero, List.set_cons_succ, Nat.zero_add, Nat.reduceAdd]
      apply Facts.Lex.exact [] _ (by kernel_rfl)
      · intro u W hC _
        unfold Facts.one
        go_simp
        first | exact ⟨Grew.refl _, rfl⟩ | rfl
      simp only [Act.put, List.setIfInBounds_toArray, List.set_cons_zero, List.set_cons_succ, Nat.zero_add, Nat.reduceAdd]
      apply Facts.Lex.exact [] _ (by kernel_rfl)
      · intro u W hC _
        unfold Facts.one
        go_simp
        first | exact ⟨Grew.refl _, rfl⟩ | rfl
      simp only [Act.put, List.setIfInBounds_toArray, List.set_cons_zero, List.set_cons_succ, Nat.zero_add, Nat.reduceAdd]
      apply Facts.Lex.exact [] (.string ⟨l.toArray⟩) (by kernel_rfl)
      · intro u W hC _
        have hcv := run_toString (P := Try.prog) (src := 22) (dst := 9) _ Try.underlying22 Try.underlying5 Try.underlying9 (HR.out.grew (HG.out.trans hC))
        unfold Facts.one
        go_simp
        first | exact ⟨Grew.refl _, rfl⟩ | rfl
      simp only [Act.put, List.setIfInBounds_toArray, List.set_cons_zero, List.set_cons_succ, Nat.zero_add, Nat.reduceAdd]
      apply Facts.Lex.exact [] _ (by kernel_rfl)
      · intro u W hC _
        unfold Facts.one
        go_simp
        first | exact ⟨Grew.refl _, rfl⟩ | rfl
      simp only [Act.put, List.setIfInBounds_toArray, List.set_cons_zero, List.set_cons_succ, Nat.zero_add, Nat.reduceAdd]
      apply Facts.Lex.exact [] (.string ⟨m.toArray⟩) (by kernel_rfl)
      · intro u W hC _
        have hcv := run_toString (P := Try.prog) (src := 22) (dst := 9) _ Try.underlying22 Try.underlying5 Try.underlying9 (HM.out.grew hC)
        unfold Facts.one
        go_simp
        first | exact ⟨Grew.refl _, rfl⟩ | rfl
      simp only [Act.put, List.setIfInBounds_toArray, List.set_cons_zero, List.set_cons_succ, Nat.zero_add, Nat.reduceAdd]
      apply Facts.Lex.exact [] (.bool q) (by kernel_rfl)
      · intro u W hC _
        unfold Facts.one
        go_simp
        first | exact ⟨Grew.refl _, rfl⟩ | rfl | exact ⟨Grew.refl _, by rw [HQ1.out]⟩
      simp only [Act.put, List.setIfInBounds_toArray, List.set_cons_zero, List.set_cons_succ, Nat.zero_add, Nat.reduceAdd]
      apply Facts.Lex.exact [] _ (by kernel_rfl)
      · intro u W hC _
        unfold Facts.one
        go_simp
        first | exact ⟨Grew.refl _, rfl⟩ | rfl
      simp only [Act.put, List.setIfInBounds_toArray, List.set_cons_zero, List.set_cons_succ, Nat.zero_add, Nat.reduceAdd]
      apply Facts.Lex.exact [] (.int .u32 x1) (by kernel_rfl)
      · intro u W hC _
        unfold Facts.one
        go_simp
        first | exact ⟨Grew.refl _, rfl⟩ | rfl | (refine (H1.out W (HG.out.trans hC)).mono ?_; rintro e w' ⟨rfl, hg⟩; exact ⟨_, rfl, hg, rfl⟩)
      simp only [Act.put, List.setIfInBounds_toArray, List.set_cons_zero, List.set_cons_succ, Nat.zero_add, Nat.reduceAdd]
      apply Facts.Lex.exact [] _ (by kernel_rfl)
      · intro u W hC _
        unfold Facts.one
        go_simp
        first | exact ⟨Grew.refl _, rfl⟩ | rfl
      simp only [Act.put, List.setIfInBounds_toArray, List.set_cons_zero, List.set_cons_succ, Nat.zero_add, Nat.reduceAdd]
      apply Facts.Lex.exact [] (.int .u32 x2) (by kernel_rfl)
      · intro u W hC _
        unfold Facts.one
        go_simp
        first | exact ⟨Grew.refl _, rfl⟩ | rfl | (refine (H2.out W hC).mono ?_; rintro e w' ⟨rfl, hg⟩; exact ⟨_, rfl, hg, rfl⟩)
      simp only [Act.put, List.setIfInBounds_toArray, List.set_cons_zero, List.set_cons_succ, Nat.zero_add, Nat.reduceAdd]
      apply Facts.Lex.exact [] (.bool q) (by kernel_rfl)
      · intro u W hC _
        unfold Facts.one
        go_simp
        first | exact ⟨Grew.refl _, rfl⟩ | rfl | exact ⟨Grew.refl _, by rw [HQ2.out]⟩
      simp only [Act.put, List.setIfInBounds_toArray, List.set_cons_zero, List.set_cons_succ, Nat.zero_add, Nat.reduceAdd]
      apply Facts.Lex.exact [] (.bool true) (by kernel_rfl)
      · intro u W hC _
        unfold Facts.one
        go_simp
        first | exact ⟨Grew.refl _, rfl⟩ | rfl | exact ⟨Grew.refl _, by simp⟩
      simp only [Act.put, List.setIfInBounds_toArray, List.set_cons_zero, List.set_cons_succ, Nat.zero_add, Nat.reduceAdd]
      apply Facts.Lex.exact [] _ (by kernel_rfl)
      · intro u W hC _
        unfold Facts.one
        go_simp
        first | exact ⟨Grew.refl _, rfl⟩ | rfl
      simp only [Act.put, List.setIfInBounds_toArray, List.set_cons_zero, List.set_cons_succ, Nat.zero_add, Nat.reduceAdd]
      apply Facts.Lex.exact [] _ (by kernel_rfl)
      · intro u W hC _
        unfold Facts.one
        go_simp
        first | exact ⟨Grew.refl _, rfl⟩ | rfl
      simp only [Act.put, List.setIfInBounds_toArray, List.set_cons_zero, List.set_cons_succ, Nat.zero_add, Nat.reduceAdd]
      refine Facts.Lex.done fun u W3 hC hL => ?_
      have GE := HG.out.trans hC
      clear hL hC
      go_wp2
      all_goals go_returns
      all_goals exact ⟨rfl, GE⟩
    | succ g =>
      have hkz : (k : Int) < 32 := by omega
      have hbit := bit_at t k
      by_cases h1 : a < 0
      · have hst : turns l a t (k + 1) = turns l a t k := by rw [turns, if_pos (by simp [stays, h1])]
        go_wp2
        go_roundg g
        case measure => omega
        case rel => exact ⟨k + 1, by omega, by first | rfl | simp, by rw [hst]; exact HB, HG⟩
      · by_cases h2 : a > 8 * (l.length : Int) - 1 - k
        · have hst : turns l a t (k + 1) = turns l a t k := by rw [turns, if_pos (by simp [stays, h2])]
          go_wp2
          go_roundg g
          case measure => omega
          case rel => exact ⟨k + 1, by omega, by first | rfl | simp, by rw [hst]; exact HB, HG⟩
        · cases h3 : t.getLsbD k with
          | false =>
            rw [h3, Bool.not_false] at hbit
            have hst : turns l a t (k + 1) = turns l a t k := by rw [turns, if_pos (by simp [stays, h3])]
            go_wp2
            go_roundg g
            case measure => omega
            case rel => exact ⟨k + 1, by omega, by first | rfl | simp, by rw [hst]; exact HB, HG⟩
          | true =>
            rw [h3, Bool.not_true] at hbit
            have hst : turns l a t (k + 1) = turnAt (turns l a t k) (a.toNat + k) := by rw [turns, if_neg (by simp [stays, h1, h2, h3])]
            obtain ⟨b, rfl⟩ := Int.eq_ofNat_of_zero_le (show 0 ≤ a by omega)
            rw [show ((b : Int)).toNat = b by omega] at hst
            have HST := Lib.hid hst
            clear hst
            have hq : (b + k) / 8 < l.length := by omega
            rcases HB.out.2 with ⟨_, h0⟩ | ⟨gB, cap, cur, rfl, hge, hrow, hnc, hcm2, hsz, htk⟩
            · omega
            · have hml := turns_length l (b : Int) t k
              have hcur : cur[(b + k) / 8]? = some (.int .u8 ((((turns l (b : Int) t k)[(b + k) / 8]?).getD 0).toNat : Int)) := by
                have e := congrArg (·[(b + k) / 8]?) htk
                simp only [Nat.mul_one, List.getElem?_take, if_pos hq, Array.getElem?_toList] at e
                rw [e]
                exact bv_get _ _ (by omega)
              have hcell : wr.cell? ⟨gB, (b + k) / 8, none⟩ = some (.int .u8 ((((turns l (b : Int) t k)[(b + k) / 8]?).getD 0).toNat : Int)) := by
                rw [cell_of_row _ _ _ _ _ _ hrow]
                exact hcur
              have hfro : wr.frozen? ⟨gB, (b + k) / 8, none⟩ = false := frozen_of_row _ _ _ _ _ hrow
              have HN : Hid (∀ x : UInt8, (wr.setCell ⟨gB, (b + k) / 8, none⟩ (.int .u8 (x.toNat : Int))).ownsRow w.heap.size 5 1 (.slice (some ⟨gB, 0, none⟩) l.length cap) l.length (bv ((turns l (b : Int) t k).set ((b + k) / 8) x))) :=
                Lib.hid fun x => own_set x hge hrow hnc hcm2 hsz htk hml hq
              clear hcur hrow hsz htk hcm2
              generalize hy : ((turns l (b : Int) t k)[(b + k) / 8]?).getD 0 = y at *
              have HY := Lib.hid hy
              clear hy
              have hyb := y.toNat_lt
              go_wp2
              go_region
              go_wp2
              go_roundg g
              case measure => omega
              case rel =>
                refine ⟨k + 1, by omega, by first | rfl | simp, ?_, Lib.hid ?_⟩
                · have hfin := HN.out (y ^^^ UInt8.ofNat (2 ^ ((b + k) % 8)))
                  rw [HST.out]
                  unfold turnAt
                  rw [HY.out]
                  rw [← bits8, ← shl8 _ (Nat.mod_lt _ (by omega))] at hfin
                  exact hfin
                · have hg := HG.out
                  exact (Below.setCell (p := ⟨gB, (b + k) / 8, none⟩) hg hge _).drew
end Go.Proofs.Ytoeemilmjaihcaa.Burst
