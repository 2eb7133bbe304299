/-
  What the sums come to, the program's own and the document's, for every bytes.
  Conditions: none beyond those that each lemma names.
-/
import Derived.Test.YthgigkklefaeeaaPure
import Derived.Test.YthgigkklefaeeaaBytes
import Derived.Handy
import Derived.Deep.LoopGhost
import Derived.WalkMore
import Derived.Test.YthgigkklefaeeaaProg
namespace Go.Proofs.Ythgigkklefaeeaa.Sum
set_option maxRecDepth 100000
set_option maxRecDepth 100000
set_option maxRecDepth 100000
open Go Go.RowKit Go.Lib Go.Proofs.Ythgigkklefaeeaa Go.Proofs.Ythgigkklefaeeaa.Facts Go.Proofs.Ythgigkklefaeeaa.Bytes Go.Proofs.Ythgigkklefaeeaa.SumPure

theorem of_toNat (a : BitVec 32) : BitVec.ofInt 32 ((a.toNat : Nat) : Int) = a := by
  rw [BitVec.ofInt_natCast, BitVec.ofNat_toNat, BitVec.setWidth_eq]
theorem wrap_bv (a : BitVec 32) : IntKind.u32.wrap ((a.toNat : Nat) : Int) = ((a.toNat : Nat) : Int) := by
  have := a.isLt
  rw [IntKind.wrap_u32]
  omega
theorem bits_xor (a b : BitVec 32) : bits .xor .u32 ((a.toNat : Nat) : Int) ((b.toNat : Nat) : Int) = (((a ^^^ b).toNat : Nat) : Int) := by
  show IntKind.u32.wrap (((BitVec.ofInt 32 ((a.toNat : Nat) : Int) ^^^ BitVec.ofInt 32 ((b.toNat : Nat) : Int)).toNat : Nat) : Int) = _
  rw [of_toNat, of_toNat, wrap_bv]
theorem bits_and (a b : BitVec 32) : bits .and .u32 ((a.toNat : Nat) : Int) ((b.toNat : Nat) : Int) = (((a &&& b).toNat : Nat) : Int) := by
  show IntKind.u32.wrap (((BitVec.ofInt 32 ((a.toNat : Nat) : Int) &&& BitVec.ofInt 32 ((b.toNat : Nat) : Int)).toNat : Nat) : Int) = _
  rw [of_toNat, of_toNat, wrap_bv]

theorem toNat_u8 (x : UInt8) : (BitVec.ofNat 32 x.toNat).toNat = x.toNat := by
  have := x.toNat_lt
  rw [BitVec.toNat_ofNat]
  omega
theorem eat_take (r : BitVec 32) (l : List UInt8) (k : Nat) (hk : k < l.length) : over r (l.take (k + 1)) = eat (over r (l.take k)) (l[k]?.getD 0) := by
  rw [List.take_add_one, List.getElem?_eq_getElem hk]
  simp only [over, Option.toList_some, List.foldl_append, Option.getD_some]
  rfl
theorem neg_toNat (r : BitVec 32) : bits .xor .u32 IntKind.u32.max (r.toNat : Int) = ((~~~ r).toNat : Int) := by
  have := bits_xor (BitVec.allOnes 32) r
  rw [BitVec.allOnes_xor] at this
  exact this
theorem down (r : BitVec 32) (g : Nat) : (r.toNat : Int) / 2 ^ g = ((r >>> g).toNat : Int) := by
  rw [BitVec.toNat_ushiftRight, Nat.shiftRight_eq_div_pow]
  simp
theorem mask_toNat (g : Nat) (hg : g ≤ 8) : ((2 : Int) ^ g - 1) % 4294967296 = ((BitVec.ofNat 32 (2 ^ g - 1)).toNat : Int) := by
  have : g = 0 ∨ g = 1 ∨ g = 2 ∨ g = 3 ∨ g = 4 ∨ g = 5 ∨ g = 6 ∨ g = 7 ∨ g = 8 := by omega
  rcases this with h | h | h | h | h | h | h | h | h <;> subst h <;> decide
theorem low_zero (r : BitVec 32) (g : Nat) (hg : g ≤ 8) : (bits .and .u32 (r.toNat : Int) (((2 : Int) ^ g - 1) % 4294967296) == 0) = true ↔ ∀ i, i < g → r.getLsbD i = false := by
  have hz : (((r &&& BitVec.ofNat 32 (2 ^ g - 1)).toNat : Int) == 0) = true ↔ r &&& BitVec.ofNat 32 (2 ^ g - 1) = 0#32 := by
    simp [BitVec.toNat_eq]
  have hm : ∀ i, i < 32 → (BitVec.ofNat 32 (2 ^ g - 1)).getLsbD i = decide (i < g) := fun i hi => by
    rw [BitVec.getLsbD_ofNat, Nat.testBit_two_pow_sub_one]
    simp [hi]
  rw [mask_toNat g hg, bits_and, hz]
  constructor
  · intro h i hi
    have := congrArg (·.getLsbD i) h
    simp only [BitVec.getLsbD_and, hm i (by omega), hi, decide_true, Bool.and_true, BitVec.getLsbD_zero] at this
    exact this
  · intro h
    apply BitVec.eq_of_getLsbD_eq
    intro i hi
    rw [BitVec.getLsbD_and, hm i hi, BitVec.getLsbD_zero]
    by_cases hig : i < g
    · rw [h i hig]; rfl
    · simp [hig]
theorem low_one (r : BitVec 32) : (bits .and .u32 (r.toNat : Int) 1 == 1) = r.getLsbD 0 := by
  have h1 : bits .and .u32 (r.toNat : Int) 1 = ((r &&& 1#32).toNat : Int) := bits_and r 1#32
  rw [h1]
  have e : (r &&& 1#32).toNat = (r.getLsbD 0).toNat := by
    rw [BitVec.toNat_and]
    show r.toNat &&& 1 = _
    rw [Nat.and_one_is_mod]
    unfold BitVec.getLsbD
    rw [Nat.testBit_zero]
    by_cases h : r.toNat % 2 = 1
    · simp [h]
    · simp [show r.toNat % 2 = 0 by omega]
  rw [e]
  cases r.getLsbD 0 <;> rfl
theorem poly_toNat (r : BitVec 32) : bits .xor .u32 ((r.toNat : Int) / 2) 2197175160 = ((r >>> 1 ^^^ poly).toNat : Int) := by
  have h := down r 1
  rw [Int.pow_succ, Int.pow_zero, Int.one_mul] at h
  rw [h]
  exact bits_xor _ poly

set_option maxRecDepth 100000 in
theorem on_any (S : Nat → Prop) (r : BitVec 32) (v : Value) (l : List UInt8) (w : World) (h : Rd S w v l) :
    Calls Try.prog 56 #[.int .u32 (r.toNat : Int), v] w fun e w' => e = .returned (.int .u32 ((sumOn r l).toNat : Int)) ∧ Grew w w' := by
  obtain ⟨A, c, rfl, h1, h2, h3, h4⟩ := id h
  have HR := Lib.hid h
  clear h4 h
  unfold maxLen at h2
  go_enter Try.func56, Try.ntmps56
  go_wp2
  go_step3
  go_wp2
  go_step3
  go_wp2
  go_loopg [5, 14] l.length (fun g s5 s14 wx => ∃ (k : Nat) (R : BitVec 32), k + g = l.length ∧ s14 = .int .i64 k ∧ s5 = .int .u32 (R.toNat : Int) ∧ Hid (over (~~~ r) (l.take k) = R) ∧ Grew w wx)
  case atStart => exact ⟨0, ~~~ r, by omega, rfl, congrArg (Value.int IntKind.u32) (neg_toNat r), Lib.hid (by simp [over]), Grew.refl _⟩
  case round =>
    obtain ⟨k, R, hkg, rfl, rfl, HI, hbx⟩ := hrel
    cases gk with
    | zero =>
      have hkz : ¬ ((k : Int) < (l.length : Int)) := by omega
      go_wp2
      try rw [Exit.noGoto_ret]
      go_returns
      refine ⟨?_, hbx⟩
      rw [neg_toNat, ← HI.out, List.take_of_length_le (by omega)]
      rfl
    | succ g =>
      have hkz : (k : Int) < (l.length : Int) := by omega
      obtain ⟨ad, c', e, hcc, hcell⟩ := (HR.out.grew hbx).cell (k := k) (by omega)
      injection e with e1 _ e3
      subst e1 e3
      have HK := Lib.hid (eat_take (~~~ r) l k (by omega))
      generalize l[k]?.getD 0 = b at *
      have hb := b.toNat_lt
      go_wp2
      go_loopg [5, 8] 8 (fun g2 s5 s8 wy => ∃ R' : BitVec 32, g2 ≤ 8 ∧ s8 = .int .i64 g2 ∧ s5 = .int .u32 (R'.toNat : Int) ∧ Hid (sts g2 R' = eat R b) ∧ wy = wr)
      case atStart =>
        refine ⟨R ^^^ BitVec.ofNat 32 b.toNat, by omega, rfl, ?_, Lib.hid rfl, rfl⟩
        rw [← bits_xor, toNat_u8]
      case round =>
        obtain ⟨R', hg8, rfl, rfl, HJ, rfl⟩ := hrel
        have hlz := low_zero R' gk hg8
        have HZ := Lib.hid hlz
        clear hlz
        go_wp2
        · rename_i ht
          go_roundg g
          case measure => omega
          case rel =>
            refine ⟨k + 1, R' >>> gk, by omega, by first | rfl | simp, by rw [down], ?_, hbx⟩
            show _ = _
            rw [HK.out, HI.out, ← HJ.out, sts_down gk R' (HZ.out.1 ht)]
        all_goals
          rename_i hf ht
          cases gk with
          | zero =>
            rw [HZ.out.2 (fun i hi => absurd hi (by omega))] at hf
            cases hf
          | succ gk =>
            rw [low_one] at ht
            go_roundg gk
            case measure => omega
            case rel =>
              refine ⟨st R', by omega, by first | rfl | (simp; done) | (simp; omega), ?_, Lib.hid ((sts_succ gk R').symm.trans HJ.out), rfl⟩
              unfold st
              rw [ht]
              first | (rw [poly_toNat]; rfl) | (have h := down R' 1; rw [Int.pow_succ, Int.pow_zero, Int.one_mul] at h; rw [h]; first | done | (simp; done))

theorem st_bit (r : BitVec 32) (b : Bool) : st (r ^^^ bit b) = (r >>> 1) ^^^ (if (r.getLsbD 0 != b) = true then poly else 0#32) := by
  rw [st_xor, st, st]
  cases b
  · simp [bit]
  · simp only [bit, if_true]
    rw [show (1#32 >>> 1 : BitVec 32) = 0#32 by decide, BitVec.zero_xor, show (1#32).getLsbD 0 = true by decide]
    cases r.getLsbD 0 <;> simp [BitVec.xor_assoc]
theorem odd_of (r : BitVec 32) : (r.toNat : Int) % 2 = ((r.getLsbD 0).toNat : Int) := by
  have e : r.toNat % 2 = (r.getLsbD 0).toNat := by
    unfold BitVec.getLsbD
    rw [Nat.testBit_zero]
    by_cases h : r.toNat % 2 = 1
    · simp [h]
    · simp [show r.toNat % 2 = 0 by omega]
  omega
theorem ne_bools (a b : Bool) : (((a.toNat : Nat) : Int) != ((b.toNat : Nat) : Int)) = (a != b) := by cases a <;> cases b <;> rfl
theorem odd_at (n i : Nat) : ((n : Int) / 2 ^ i).tmod 2 = ((n.testBit i).toNat : Int) := by
  have e : n / 2 ^ i % 2 = (n.testBit i).toNat := by
    rw [Nat.testBit_eq_decide_div_mod_eq]
    have := Nat.mod_lt (n / 2 ^ i) (show 0 < 2 by omega)
    by_cases h : n / 2 ^ i % 2 = 1
    · simp [h]
    · simp [show n / 2 ^ i % 2 = 0 by omega]
  rw [← e, Int.tmod_eq_emod_of_nonneg (Int.ediv_nonneg (by omega) (Int.le_of_lt (Int.pow_pos (by omega))))]
  simp

set_option maxRecDepth 100000 in
theorem run_any (S : Nat → Prop) (r : BitVec 32) (v : Value) (l : List UInt8) (w : World) (hl : l.length < 1152921504606846976) (h : Rd S w v l) :
    Calls Try.prog 57 #[.int .u32 (r.toNat : Int), v] w fun e w' => e = .returned (.int .u32 ((over r l).toNat : Int)) ∧ Grew w w' := by
  obtain ⟨A, c, rfl, h1, h2, h3, h4⟩ := id h
  have HR := Lib.hid h
  clear h4 h
  unfold maxLen at h2
  rw [over_run]
  go_enter Try.func57, Try.ntmps57
  go_wp2
  go_loopg [0, 5] (8 * l.length) (fun g s0 s5 wx => ∃ (k : Nat) (R : BitVec 32), k + g = 8 * l.length ∧ s5 = .int .i64 k ∧ s0 = .int .u32 (R.toNat : Int) ∧ Hid (run (bitsOf l) k r = R) ∧ Grew w wx)
  case atStart => exact ⟨0, r, by omega, rfl, rfl, Lib.hid rfl, Grew.refl _⟩
  case round =>
    obtain ⟨k, R, hkg, rfl, rfl, HI, hbx⟩ := hrel
    cases gk with
    | zero =>
      have hkz : ¬ ((k : Int) < 8 * (l.length : Int)) := by omega
      go_wp2
      go_returns
      refine ⟨?_, hbx⟩
      rw [← HI.out, show k = 8 * l.length by omega]
      rfl
    | succ g =>
      have hkz : (k : Int) < 8 * (l.length : Int) := by omega
      obtain ⟨ad, c', e, hcc, hcell⟩ := (HR.out.grew hbx).cell (k := k / 8) (by omega)
      injection e with e1 _ e3
      subst e1 e3
      have HK := Lib.hid (show bitsOf l k = (l[k / 8]?.getD 0).toNat.testBit (k % 8) from by simp [bitsOf, List.getD_eq_getElem?_getD])
      generalize l[k / 8]?.getD 0 = b at *
      have hb := b.toNat_lt
      go_wp2
      all_goals
        rename_i ht _
        rw [odd_at, odd_of, ← HK.out, ne_bools] at ht
        go_roundg g
        case measure => omega
        case rel =>
          refine ⟨k + 1, st (R ^^^ bit (bitsOf l k)), by omega, by first | rfl | (simp; done) | (simp; omega), ?_, ?_, hbx⟩
          · rw [st_bit, ht]
            first | (rw [poly_toNat]; rfl) | (have h := down R 1; rw [Int.pow_succ, Int.pow_zero, Int.one_mul] at h; rw [h]; first | done | (simp; done))
          · show _ = _
            rw [← HI.out]
            rfl

theorem of_any (S : Nat → Prop) (v : Value) (l : List UInt8) (w : World) (h : Rd S w v l) :
    Calls Try.prog 54 #[v] w fun e w' => e = .returned (.int .u32 ((sumOf l).toNat : Int)) ∧ Grew w w' := by
  obtain ⟨A, c, rfl, _⟩ := id h
  have HC : Hid (∀ W, Grew w W → Calls Try.prog 56 #[.int .u32 0, .slice A l.length c] W fun e w' => e = .returned (.int .u32 ((sumOf l).toNat : Int)) ∧ Grew W w') := Lib.hid fun W hg => on_any S 0#32 _ l W (h.grew hg)
  clear h
  go_enter Try.func54, Try.ntmps54
  go_wp2_with fail
  refine (HC.out _ (Grew.refl _)).mono ?_
  rintro e W ⟨rfl, hg⟩
  go_wp2
  go_returns
  exact ⟨rfl, hg⟩

theorem rof_any (S : Nat → Prop) (v : Value) (l : List UInt8) (w : World) (hl : l.length < 1152921504606846976) (h : Rd S w v l) :
    Calls Try.prog 55 #[v] w fun e w' => e = .returned (.int .u32 ((sumOf l).toNat : Int)) ∧ Grew w w' := by
  obtain ⟨A, c, rfl, _⟩ := id h
  have HC : Hid (∀ W, Grew w W → Calls Try.prog 57 #[.int .u32 4294967295, .slice A l.length c] W fun e w' => e = .returned (.int .u32 ((over (~~~ 0#32) l).toNat : Int)) ∧ Grew W w') := Lib.hid fun W hg => run_any S (~~~ 0#32) _ l W hl (h.grew hg)
  clear h
  go_enter Try.func55, Try.ntmps55
  go_wp2_with fail
  refine (HC.out _ (Grew.refl _)).mono ?_
  rintro e W ⟨rfl, hg⟩
  go_wp2
  go_returns
  refine ⟨?_, hg⟩
  have := bits_xor (over (~~~ 0#32) l) (BitVec.allOnes 32)
  rw [BitVec.xor_allOnes] at this
  exact congrArg (fun x => Ending.returned (Value.int IntKind.u32 x)) this

/-- The short sum. -/
def short (x : BitVec 32) : Int := bits .xor .u16 ((x.toNat : Int) / 65536) (IntKind.u16.wrap (x.toNat : Int))

theorem short_any (S : Nat → Prop) (v : Value) (l : List UInt8) (w : World) (h : Rd S w v l) :
    Calls Try.prog 48 #[v] w fun e w' => e = .returned (.int .u16 (short (sumOf l))) ∧ Grew w w' := by
  obtain ⟨A, c, rfl, _⟩ := id h
  have HC : Hid (∀ W, Grew w W → Calls Try.prog 54 #[.slice A l.length c] W fun e w' => e = .returned (.int .u32 ((sumOf l).toNat : Int)) ∧ Grew W w') := Lib.hid fun W hg => of_any S _ l W (h.grew hg)
  clear h
  unfold short
  generalize sumOf l = x at *
  go_enter Try.func48, Try.ntmps48
  go_wp2_with fail
  refine (HC.out _ (Grew.refl _)).mono ?_
  rintro e W ⟨rfl, hg⟩
  go_wp2
  go_returns
  refine ⟨?_, hg⟩
  rfl

theorem rshort_any (S : Nat → Prop) (v : Value) (l : List UInt8) (w : World) (hl : l.length < 1152921504606846976) (h : Rd S w v l) :
    Calls Try.prog 50 #[v] w fun e w' => e = .returned (.int .u16 (short (sumOf l))) ∧ Grew w w' := by
  obtain ⟨A, c, rfl, _⟩ := id h
  have HC : Hid (∀ W, Grew w W → Calls Try.prog 55 #[.slice A l.length c] W fun e w' => e = .returned (.int .u32 ((sumOf l).toNat : Int)) ∧ Grew W w') := Lib.hid fun W hg => rof_any S _ l W hl (h.grew hg)
  clear h
  unfold short
  generalize sumOf l = x at *
  go_enter Try.func50, Try.ntmps50
  go_wp2_with fail
  refine (HC.out _ (Grew.refl _)).mono ?_
  rintro e W ⟨rfl, hg⟩
  go_wp2
  go_returns
  refine ⟨?_, hg⟩
  rfl
end Go.Proofs.Ythgigkklefaeeaa.Sum
