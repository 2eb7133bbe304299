/-
  The document's journal: whether there may be one; all bytes of a place.
  Conditions: those that each lemma names.
-/
import Derived.Test.YtbnicphegbdfnaaDLawA
import Derived.Test.YtbnicphegbdfnaaJF
import Derived.Test.YtbnicphegbdfnaaPure
import Derived.Deep.DeepCutAuto
import Derived.Deep.CutBlock
import Derived.Test.YtbnicphegbdfnaaChain
namespace Go.Proofs.Ytbnicphegbdfnaa.RA
set_option maxRecDepth 100000
open Go Go.RowKit Go.Proofs.Ytbnicphegbdfnaa Go.Proofs.Ytbnicphegbdfnaa.Facts Go.Proofs.Ytbnicphegbdfnaa.Bytes Go.Proofs.Ytbnicphegbdfnaa.DKeep Go.Proofs.Ytbnicphegbdfnaa.DSmall Go.Proofs.Ytbnicphegbdfnaa.Puts Go.Proofs.Ytbnicphegbdfnaa.Refs Go.Proofs.Ytbnicphegbdfnaa.Scan Go.Proofs.Ytbnicphegbdfnaa.SPure Go.Proofs.Ytbnicphegbdfnaa.SSeal Go.Proofs.Ytbnicphegbdfnaa.JA Go.Proofs.Ytbnicphegbdfnaa.JB Go.Proofs.Ytbnicphegbdfnaa.JC Go.Proofs.Ytbnicphegbdfnaa.JD Go.Proofs.Ytbnicphegbdfnaa.JE Go.Proofs.Ytbnicphegbdfnaa.JF Go.Proofs.Ytbnicphegbdfnaa.DRefA Go.Proofs.Ytbnicphegbdfnaa.DRefB Go.Proofs.Ytbnicphegbdfnaa.DRefC Go.Proofs.Ytbnicphegbdfnaa.DSim Go.Proofs.Ytbnicphegbdfnaa.DRefD Go.Proofs.Ytbnicphegbdfnaa.DLawA

/-- Why there may be no such journal. -/
def jref (n : Nat) (off : Bool) (first places each : Int) (base : Nat) : Int :=
  if places < 1 ∨ 16 < places ∨ each < 1 ∨ 16384 < each then 1 else if first < 0 ∨ (n : Int) - places * each < first then 1 else if base < 1 ∨ 4611686018427387904 - places * each < (base : Int) then 1 else if off then 15 else 0
theorem jref_is (d : Pd) (first places each : Int) (base : Nat) : jrefus d first places each base = jref d.safe.length d.off first places each base := rfl
/-- A journal's place, as a value. -/
def sh (first places each : Int) (base : Nat) (used : Int) : Value := .agg #[.int .i64 first, .int .i64 places, .int .i64 each, .int .u64 (base : Int), .int .i64 used]
set_option maxHeartbeats 4000000 in
theorem rable_any (A1 A2 A3 : Option Addr) (n n2 n3 c1 c2 c3 : Nat) (f : Int) (off : Bool) (first places each : Int) (base : Nat) (used : Int) (w : World) (hn : n ≤ 16384) (hb : base < 18446744073709551616) (hf1 : -9223372036854775808 ≤ first) (hf2 : first ≤ 9223372036854775807) :
    Calls Try.prog 24 #[dv A1 A2 A3 n n2 n3 c1 c2 c3 f off, sh first places each base used] w fun e w' => e = .returned (.int .i64 (jref n off first places each base)) ∧ Grew w w' := by
  unfold jref dv sh
  by_cases a1 : places < 1
  · rw [if_pos (.inl a1)]
    go_enter Try.func24, Try.ntmps24
    go_wp2
    go_ret
    exact ⟨rfl, ((Below.refl _ _).alloc (Nat.le_refl _) _).alloc (by simp) _⟩
  by_cases a2 : 16 < places
  · rw [if_pos (.inr (.inl a2))]
    go_enter Try.func24, Try.ntmps24
    go_wp2
    go_ret
    exact ⟨rfl, ((Below.refl _ _).alloc (Nat.le_refl _) _).alloc (by simp) _⟩
  by_cases a3 : each < 1
  · rw [if_pos (.inr (.inr (.inl a3)))]
    go_enter Try.func24, Try.ntmps24
    go_wp2
    go_ret
    exact ⟨rfl, ((Below.refl _ _).alloc (Nat.le_refl _) _).alloc (by simp) _⟩
  by_cases a4 : 16384 < each
  · rw [if_pos (.inr (.inr (.inr a4)))]
    go_enter Try.func24, Try.ntmps24
    go_wp2
    go_ret
    exact ⟨rfl, ((Below.refl _ _).alloc (Nat.le_refl _) _).alloc (by simp) _⟩
  rw [if_neg (by omega)]
  obtain ⟨pe, hpe⟩ : ∃ pe, places * each = pe := ⟨_, rfl⟩
  have hpe1 : 1 ≤ pe := by rw [← hpe]; exact Int.mul_pos (a := places) (b := each) (by omega) (by omega)
  have hpe2 : pe ≤ 262144 := by
    rw [← hpe]
    have h1 : places * each ≤ 16 * each := Int.mul_le_mul_of_nonneg_right (by omega) (by omega)
    omega
  have e1 : IntKind.i64.wrap pe = pe := IntWalk.i64_in _ (by omega)
  have e3 : IntKind.u64.wrap pe = pe := by rw [IntKind.wrap_u64]; omega
  have e4 : IntKind.u64.wrap (4611686018427387904 - pe) = 4611686018427387904 - pe := by rw [IntKind.wrap_u64]; omega
  rw [hpe]
  by_cases b1 : first < 0
  · rw [if_pos (.inl b1)]
    go_enter Try.func24, Try.ntmps24
    go_wp2
    go_ret
    exact ⟨rfl, ((Below.refl _ _).alloc (Nat.le_refl _) _).alloc (by simp) _⟩
  have e2 : IntKind.i64.wrap ((n : Int) - first) = (n : Int) - first := IntWalk.i64_in _ (by omega)
  by_cases b2 : (n : Int) - pe < first
  · rw [if_pos (.inr b2)]
    by_cases b3 : (n : Int) < first
    · clear b2
      go_enter Try.func24, Try.ntmps24
      go_wp2
      go_ret
      exact ⟨rfl, ((Below.refl _ _).alloc (Nat.le_refl _) _).alloc (by simp) _⟩
    · have b4 : (n : Int) - first < pe := by omega
      clear b2
      go_enter Try.func24, Try.ntmps24
      go_wp2
      go_ret
      exact ⟨rfl, ((Below.refl _ _).alloc (Nat.le_refl _) _).alloc (by simp) _⟩
  rw [if_neg (by omega)]
  have b3 : ¬ (n : Int) < first := by omega
  have b4 : ¬ (n : Int) - first < pe := by omega
  clear b2
  by_cases c1' : base < 1
  · rw [if_pos (.inl c1')]
    have c1'' : (base : Int) < 1 := by omega
    go_enter Try.func24, Try.ntmps24
    go_wp2
    go_ret
    exact ⟨rfl, ((Below.refl _ _).alloc (Nat.le_refl _) _).alloc (by simp) _⟩
  have c1'' : ¬ (base : Int) < 1 := by omega
  by_cases c2' : 4611686018427387904 - pe < (base : Int)
  · rw [if_pos (.inr c2')]
    go_enter Try.func24, Try.ntmps24
    go_wp2
    go_ret
    exact ⟨rfl, ((Below.refl _ _).alloc (Nat.le_refl _) _).alloc (by simp) _⟩
  rw [if_neg (by omega)]
  clear c1'
  cases off with
  | true =>
    rw [if_pos rfl]
    go_enter Try.func24, Try.ntmps24
    go_wp2
    go_ret
    exact ⟨rfl, ((Below.refl _ _).alloc (Nat.le_refl _) _).alloc (by simp) _⟩
  | false =>
    rw [if_neg (by decide)]
    go_enter Try.func24, Try.ntmps24
    go_wp2
    go_ret
    exact ⟨rfl, ((Below.refl _ _).alloc (Nat.le_refl _) _).alloc (by simp) _⟩
/-- All bytes of a place. -/
def place (each : Nat) (b : List UInt8) : List UInt8 := recB b ++ zeros (108 * each - (recB b).length)
theorem recB_length (b : List UInt8) : (recB b).length = b.length + 4 := by unfold recB; rw [List.length_append, be_length]; omega
theorem place_length (each : Nat) (b : List UInt8) (h : b.length + 4 ≤ 108 * each) : (place each b).length = 108 * each := by
  unfold place
  rw [List.length_append, recB_length, zeros_length]
  omega
theorem splice_num (n : Nat) (x : List UInt8) (h : x.length ≤ n) : splice (bv (zeros n)) 0 (bv x) = bv (x ++ zeros (n - x.length)) := splice_load n x h
theorem splice_four (n : Nat) (x b : List UInt8) (hx : x.length = 4) (h : b.length + 4 ≤ n) : splice (bv (x ++ zeros (n - x.length))) 4 (bv b) = bv (x ++ b ++ zeros (n - (x ++ b).length)) := by
  simp only [splice, bv, List.map_append]
  have e1 : (List.map (fun b : UInt8 => Value.int .u8 (b.toNat : Int)) x).length = 4 := by simp [hx]
  rw [List.take_append_of_le_length (by omega), List.take_of_length_le (by omega), List.append_assoc]
  congr 1
  congr 1
  rw [List.drop_append]
  rw [e1]
  rw [List.drop_of_length_le (by simp [hx])]
  rw [List.nil_append, ← List.map_drop]
  unfold zeros
  rw [List.drop_replicate]
  congr 2
  simp [hx]
  omega
end Go.Proofs.Ytbnicphegbdfnaa.RA
namespace Go.Proofs.Ytbnicphegbdfnaa.RB
set_option maxRecDepth 100000
open Go Go.RowKit Go.Proofs.Ytbnicphegbdfnaa Go.Proofs.Ytbnicphegbdfnaa.Facts Go.Proofs.Ytbnicphegbdfnaa.Bytes Go.Proofs.Ytbnicphegbdfnaa.DKeep Go.Proofs.Ytbnicphegbdfnaa.DSmall Go.Proofs.Ytbnicphegbdfnaa.Puts Go.Proofs.Ytbnicphegbdfnaa.Refs Go.Proofs.Ytbnicphegbdfnaa.Scan Go.Proofs.Ytbnicphegbdfnaa.SPure Go.Proofs.Ytbnicphegbdfnaa.SSeal Go.Proofs.Ytbnicphegbdfnaa.JA Go.Proofs.Ytbnicphegbdfnaa.JB Go.Proofs.Ytbnicphegbdfnaa.JC Go.Proofs.Ytbnicphegbdfnaa.JD Go.Proofs.Ytbnicphegbdfnaa.JE Go.Proofs.Ytbnicphegbdfnaa.JF Go.Proofs.Ytbnicphegbdfnaa.DRefA Go.Proofs.Ytbnicphegbdfnaa.DRefB Go.Proofs.Ytbnicphegbdfnaa.DRefC Go.Proofs.Ytbnicphegbdfnaa.DSim Go.Proofs.Ytbnicphegbdfnaa.DRefD Go.Proofs.Ytbnicphegbdfnaa.DLawA Go.Proofs.Ytbnicphegbdfnaa.RA
theorem own_src {W : World} {base : Nat} {v : Value} {l : List UInt8} (h : W.ownsRow base 5 1 v l.length (bv l)) (hp : 0 < l.length) : ∃ g c, v = .slice (some ⟨g, 0, none⟩) l.length c ∧ ∀ j u, (bv l)[j]? = some u → W.cell? ((⟨g, 0, none⟩ : Addr).add j) = some u := by
  rcases h.2 with ⟨rfl, h0⟩ | ⟨g, cap, cur, rfl, _⟩
  · omega
  · exact ⟨g, cap, rfl, h.cells (g := g) rfl⟩
set_option maxHeartbeats 2000000 in
theorem record_any (each : Nat) (A : Option Addr) (c : Nat) (b : List UInt8) (S : Nat → Prop) (w : World) (h : Rd S w (.slice A b.length c) b) (he1 : 1 ≤ each) (he2 : each ≤ 16384) (hb : b.length + 4 ≤ 108 * each) :
    Calls Try.prog 69 #[.int .i64 (each : Int), .slice A b.length c] w fun e w' => ∃ A' c', e = .returned (.slice A' (108 * each) c') ∧ Rd (fun k => w.heap.size ≤ k) w' (.slice A' (108 * each) c') (place each b) ∧ Grew w w' := by
  obtain ⟨A', c', e', q1, q2, q3, q4⟩ := id h
  injection e' with e1 _ e2
  subst e1 e2
  have HR := Lib.hid h
  have HQ := Lib.hid q4
  have HL3 := Lib.hid q3
  obtain ⟨m, hm⟩ : ∃ m, 108 * each = m := ⟨_, rfl⟩
  have hmi : IntKind.i64.wrap (108 * (each : Int)) = (m : Int) := by rw [IntWalk.i64_in _ (by omega)]; omega
  have hbm : b.length + 4 ≤ m := by omega
  have hm1 : m ≤ 1769472 := by omega
  have hm2 : 108 ≤ m := by omega
  have hpl : place each b = recB b ++ zeros (m - (recB b).length) := by unfold place; rw [hm]
  rw [hpl, hm]
  obtain ⟨i0, hi, hz0, hz1, hz2⟩ := info_parts info5
  have hmk : ∀ u : World, (Instr.makeSlice 23 (.int .i64 (m : Int)) (.int .i64 (m : Int))).run Try.prog u =
      .ok (.slice (some ⟨u.heap.size, 0, none⟩) m m) (u.alloc (.cells (madeCells #[.int .u8 0] m) 5)) := fun u => by
    have h := run_make (P := Try.prog) u 23 5 i0 (.int .u8 0) Try.underlying23 hi hz0 .i64 .i64 m m (by omega) (by omega) (by rw [hz2]; omega) (by omega)
    simpa [hz1, Value.cells] using h
  have HB4 := Lib.hid (be_length 4 b.length)
  have HBM := Lib.hid hbm
  have HM1 := Lib.hid hm1
  have HM2 := Lib.hid hm2
  have hbu : IntKind.u64.wrap (b.length : Int) = (b.length : Int) := IntWalk.u64_in _ (by omega)
  clear h q4 q3 hpl hm he1 he2 hb hz0 hz1 hz2 hi
  go_enter Try.func69, Try.ntmps69
  go_wp2_with fail
  have hg0 : Grew w (w.alloc (.cells (madeCells #[.int .u8 0] m) 5)) := (Below.refl _ w).alloc (Nat.le_refl _) _
  have ho0 := made_at w m
  have HG0 := Lib.hid hg0
  have HO0 := Lib.hid ho0
  clear hg0 ho0 hmk
  generalize w.alloc (.cells (madeCells #[.int .u8 0] m) 5) = w1 at *
  obtain ⟨BP, hBP⟩ : ∃ BP, w.heap.size = BP := ⟨_, rfl⟩
  have HBP := Lib.hid hBP
  rw [hBP] at HO0 ⊢
  clear hBP
  clear hbu hmi
  go_wp2_with fail
  refine (rnum4 (fun _ => True) _ [] b.length w1 (Rd.nil _ _) (by simp) (by have := HBM.out; have := HM1.out; omega)).mono ?_
  rintro e w2 ⟨v2, rfl, o2, g2⟩
  rw [List.nil_append] at o2
  obtain ⟨g2x, c2, rfl, hq2⟩ := own_src o2 (by have := HB4.out; omega)
  rw [HB4.out]
  have HQ2 := Lib.hid hq2
  have HO2 : Hid (w2.heap[BP]? = some (.cells (bv (zeros m)).toArray 5 (0, 0))) := Lib.hid ((g2.block BP (Array.getElem?_eq_some_iff.1 HO0.out).1).trans HO0.out)
  have HG2 := Lib.hid (HG0.out.trans g2)
  have HG2' : Hid (BP ≤ w2.heap.size) := Lib.hid (Nat.le_of_lt (Array.getElem?_eq_some_iff.1 HO2.out).1)
  clear o2 g2 hq2 HO0 HG0
  go_wp2_with (with_reducible refine wpList_copy_splice rfl (.tmp 9) (.tmp 13) 23 23 rfl 5 Try.underlying23 Refs.size5 (some ⟨BP, 0, none⟩) (some ⟨g2x, 0, none⟩) m m 4 c2 rfl rfl BP 0 (bv (zeros m)) 5 ?c0 (bv (be 4 b.length)) ?c1 ?c2 ?c3 (bv_one _) BP w ?c4 (Nat.le_refl _) ?_)
  case c0 => exact HO2.out
  case c1 =>
    rw [bv_length, HB4.out]
    exact (Nat.min_eq_left (by have := HM2.out; omega)).symm
  case c2 =>
    intro _ j u hu
    have := HQ2.out j u hu
    rwa [Addr.add_mid, Nat.zero_add] at this
  case c3 => rw [bv_length, bv_length, zeros_length, HB4.out]; have := HM2.out; omega
  case c4 => have := HG2.out; unfold Grew at this; rwa [HBP.out] at this
  intro w3 hw3 hb3
  rw [splice_num m _ (by rw [HB4.out]; have := HM2.out; omega)] at hw3
  have HO3 : Hid (w3.heap[BP]? = some (.cells (bv (be 4 b.length ++ zeros (m - (be 4 b.length).length))).toArray 5 (0, 0))) := hw3
  have HG3 : Hid (Grew w w3) := Lib.hid (by unfold Grew; rw [HBP.out]; exact hb3)
  have hsl : (m : Int) - 4 = ((m - 4 : Nat) : Int) := by omega
  clear hw3 hb3 HO2 HQ2
  go_wp2_with (with_reducible refine wpList_copy_splice rfl (.tmp 16) (.tmp 17) 23 23 rfl 5 Try.underlying23 Refs.size5 (some ⟨BP, 4, none⟩) A (m - 4) (m - 4) b.length c rfl rfl BP 4 (bv (be 4 b.length ++ zeros (m - (be 4 b.length).length))) 5 ?c0 (bv b) ?c1 ?c2 ?c3 (bv_one _) BP w ?c4 (Nat.le_refl _) ?_)
  case c0 => exact HO3.out
  case c1 =>
    rw [bv_length]
    exact (Nat.min_eq_left (by have := HBM.out; omega)).symm
  case c2 =>
    intro hp
    rw [bv_length] at hp
    cases A with
    | none => have := HL3.out rfl; omega
    | some ad => exact ⟨ad, rfl, fun j u hu => DWrite.cellB HG3.out ((HQ.out ad rfl).2 j u hu)⟩
  case c3 => simp only [bv_length, List.length_append, zeros_length]; have := HBM.out; have := HB4.out; omega
  case c4 => have := HG3.out; unfold Grew at this; rwa [HBP.out] at this
  intro w4 hw4 hb4
  rw [splice_four m _ b HB4.out (by have := HBM.out; omega)] at hw4
  have HO4 : Hid (w4.heap[BP]? = some (.cells (bv (recB b ++ zeros (m - (recB b).length))).toArray 5 (0, 0))) := hw4
  have HG4 : Hid (Grew w w4) := Lib.hid (by unfold Grew; rw [HBP.out]; exact hb4)
  clear hw4 hb4 HO3 HG3 hsl
  have hlen : (recB b ++ zeros (m - (recB b).length)).length = m := by rw [List.length_append, zeros_length, RA.recB_length]; have := HBM.out; omega
  have HRD : Hid (Rd (fun k => w.heap.size ≤ k) w4 (.slice (some ⟨BP, 0, none⟩) m m) (recB b ++ zeros (m - (recB b).length))) := Lib.hid (by
    have h2 : w4.ownsRow BP 5 1 (.slice (some ⟨BP, 0, none⟩) m m) m (bv (recB b ++ zeros (m - (recB b).length))) :=
      ⟨by rw [bv_length, hlen, Nat.mul_one], .inr ⟨BP, m, _, rfl, Nat.le_refl _, HO4.out, Nat.le_refl _, by unfold maxLen; have := HM1.out; omega, by simp [bv_length, hlen], by rw [List.take_of_length_le (by simp [bv_length, hlen])]⟩⟩
    exact (Rd.of_own h2 hlen.symm).mono fun k hk => by rw [HBP.out]; exact hk.1)
  clear hlen
  go_wp2
  go_returns
  exact ⟨_, _, rfl, HRD.out, HG4.out⟩
end Go.Proofs.Ytbnicphegbdfnaa.RB
namespace Go.Proofs.Ytbnicphegbdfnaa.RC
set_option maxRecDepth 100000
open Go Go.RowKit Go.Proofs.Ytbnicphegbdfnaa Go.Proofs.Ytbnicphegbdfnaa.Facts Go.Proofs.Ytbnicphegbdfnaa.Bytes Go.Proofs.Ytbnicphegbdfnaa.DKeep Go.Proofs.Ytbnicphegbdfnaa.DSmall Go.Proofs.Ytbnicphegbdfnaa.Puts Go.Proofs.Ytbnicphegbdfnaa.Refs Go.Proofs.Ytbnicphegbdfnaa.Scan Go.Proofs.Ytbnicphegbdfnaa.SPure Go.Proofs.Ytbnicphegbdfnaa.SSeal Go.Proofs.Ytbnicphegbdfnaa.JA Go.Proofs.Ytbnicphegbdfnaa.JB Go.Proofs.Ytbnicphegbdfnaa.JC Go.Proofs.Ytbnicphegbdfnaa.JD Go.Proofs.Ytbnicphegbdfnaa.JE Go.Proofs.Ytbnicphegbdfnaa.JF Go.Proofs.Ytbnicphegbdfnaa.DRefA Go.Proofs.Ytbnicphegbdfnaa.DRefB Go.Proofs.Ytbnicphegbdfnaa.DRefC Go.Proofs.Ytbnicphegbdfnaa.DSim Go.Proofs.Ytbnicphegbdfnaa.DRefD Go.Proofs.Ytbnicphegbdfnaa.DLawA Go.Proofs.Ytbnicphegbdfnaa.RA Go.Proofs.Ytbnicphegbdfnaa.RB
/-- What the bytes of a place say, as the document asks it. -/
def toldR (each : Nat) (l : List UInt8) : List UInt8 × Bool :=
  let s1 := Sc.num ⟨l, 0⟩ 4
  let s2 := s1.2.take s1.1
  if s2.2.e = 0 ∧ place each s2.1 = l then (s2.1, true) else ([], false)
theorem some0_false (l : List UInt8) (h : some0 l = false) : l = zeros l.length := by
  unfold some0 at h
  unfold zeros
  rw [List.any_eq_false] at h
  exact List.eq_replicate_iff.2 ⟨rfl, fun x hx => by simpa using h x hx⟩
theorem some0_zeros' (k : Nat) : some0 (zeros k) = false := by
  unfold some0 zeros
  rw [List.any_eq_false]
  intro x hx
  rw [List.eq_of_mem_replicate hx]
  decide
theorem opened_load (l : List UInt8) (h : (opened l).2.2 = 0) : (opened l).2.1.length = 108 := by
  have h0 := SPure.opened_ok l h
  have h1 : opened l = opened (sealed (stampOf l) (loadOf l)) := by rw [h0.2.2]
  have hl : (loadOf l).length = 108 := by unfold loadOf; rw [List.length_take, List.length_drop]; omega
  rw [h1, opened_sealed _ _ (by omega) h0.2.1]
  simp only [List.length_append, zeros_length, hl]
theorem told_is (each : Nat) (l : List UInt8) (h : l.length = 108 * each) (he : 1 ≤ each) : toldR each l = toldS l := by
  have hn : Sc.num ⟨l, 0⟩ 4 = (Sc.val (l.take 4), ⟨l.drop 4, 0⟩) := by
    unfold Sc.num Sc.take
    rw [if_pos rfl, if_pos (by show 4 ≤ l.length; omega)]
  unfold toldR toldS
  rw [hn]
  simp only
  obtain ⟨n, hnn⟩ : ∃ n, Sc.val (l.take 4) = n := ⟨_, rfl⟩
  have hbe : be 4 n = l.take 4 := by rw [← hnn]; exact be_val' _ 4 (by rw [List.length_take]; omega)
  rw [hnn]
  have hleft : Sc.left ⟨l.drop 4, 0⟩ = l.length - 4 := by unfold Sc.left; rw [if_pos rfl, List.length_drop]
  rw [hleft]
  by_cases h1 : n ≤ l.length - 4
  · have e1 : Sc.rule ⟨l.drop 4, 0⟩ (decide ((n : Int) ≤ ((l.length - 4 : Nat) : Int))) 2 = ⟨l.drop 4, 0⟩ := by
      rw [decide_eq_true (by omega)]
      rfl
    rw [e1]
    have e2 : Sc.take ⟨l.drop 4, 0⟩ n = ((l.drop 4).take n, ⟨(l.drop 4).drop n, 0⟩) := by
      unfold Sc.take
      rw [if_pos rfl, if_pos (by show n ≤ (l.drop 4).length; rw [List.length_drop]; exact h1)]
    rw [e2]
    simp only
    have e3 : Sc.left ⟨(l.drop 4).drop n, 0⟩ = ((l.drop 4).drop n).length := by unfold Sc.left; rw [if_pos rfl]
    have e4 : Sc.take ⟨(l.drop 4).drop n, 0⟩ (Sc.left ⟨(l.drop 4).drop n, 0⟩) = ((l.drop 4).drop n, ⟨[], 0⟩) := by
      rw [e3]
      unfold Sc.take
      rw [if_pos rfl, if_pos (Nat.le_refl _), List.take_length, List.drop_length]
    rw [e4]
    simp only
    have htl : ((l.drop 4).take n).length = n := by rw [List.length_take, List.length_drop]; omega
    have hl : l = l.take 4 ++ ((l.drop 4).take n ++ (l.drop 4).drop n) := by rw [List.take_append_drop, List.take_append_drop]
    have hpl : place each ((l.drop 4).take n) = l.take 4 ++ ((l.drop 4).take n ++ zeros ((l.drop 4).drop n).length) := by
      unfold place recB
      rw [htl, hbe, List.append_assoc]
      congr 3
      rw [List.length_append, htl, List.length_take, List.length_drop, List.length_drop]
      omega
    cases hs : some0 ((l.drop 4).drop n) with
    | false =>
      have hz := some0_false _ hs
      have e5 : Sc.rule ⟨([] : List UInt8), 0⟩ (!false) 2 = ⟨[], 0⟩ := rfl
      rw [e5, if_pos rfl, if_pos ⟨trivial, by rw [hpl, ← hz]; exact hl.symm⟩]
    | true =>
      have e5 : (Sc.rule ⟨([] : List UInt8), 0⟩ (!true) 2).e = 2 := rfl
      have n2 : ¬ (2 : Int) = 0 := by decide
      rw [e5, if_neg n2, if_neg]
      rintro ⟨_, h2⟩
      rw [hpl] at h2
      have h3 : zeros ((l.drop 4).drop n).length = (l.drop 4).drop n := by
        have h4 := h2.trans hl
        exact List.append_cancel_left (List.append_cancel_left h4)
      rw [← h3, some0_zeros'] at hs
      cases hs
  · have n2 : ¬ (2 : Int) = 0 := by decide
    have e1 : Sc.rule ⟨l.drop 4, 0⟩ (decide ((n : Int) ≤ ((l.length - 4 : Nat) : Int))) 2 = ⟨l.drop 4, 2⟩ := by
      rw [decide_eq_false (by omega)]
      rfl
    rw [e1]
    have e2 : Sc.take ⟨l.drop 4, 0⟩ n = ([], ⟨l.drop 4, 12⟩) := by
      unfold Sc.take
      rw [if_pos rfl, if_neg (by show ¬ n ≤ (l.drop 4).length; rw [List.length_drop]; exact h1)]
    have e3 : Sc.take ⟨l.drop 4, 2⟩ n = ([], ⟨l.drop 4, 2⟩) := by
      unfold Sc.take
      exact if_neg n2
    rw [e2, e3]
    simp only
    rw [if_neg (fun hh => absurd hh.1 (by decide))]
    have e4 : Sc.left ⟨l.drop 4, 2⟩ = 0 := by unfold Sc.left; exact if_neg n2
    have e5 : Sc.take ⟨l.drop 4, 2⟩ 0 = ([], ⟨l.drop 4, 2⟩) := by
      unfold Sc.take
      exact if_neg n2
    rw [e4, e5]
    simp only
    rw [if_neg]
    unfold Sc.rule
    simp [some0]
/-- What one place says, as the document reads it. -/
def rat (L : List Sec) (first base each p : Nat) : List UInt8 × Bool := match loadsAt L first base each (p * each) [] with
  | none => ([], false)
  | some l => toldR each l
theorem loads_len (L : List Sec) (first base : Nat) : ∀ (m a : Nat) (acc l : List UInt8), loadsAt L first base m a acc = some l → l.length = acc.length + 108 * m
  | 0, a, acc, l, h => by
    rw [loadsAt] at h
    injection h with h
    rw [← h]
    omega
  | m + 1, a, acc, l, h => by
    rw [loadsAt] at h
    split at h
    · rename_i hh
      have := loads_len L first base m (a + 1) _ l h
      rw [this, List.length_append, opened_load _ hh.1]
      omega
    · cases h
/-- All places, from the p-th on, behind what was said. -/
def rscan (L : List Sec) (first base each : Nat) : Nat → Nat → List (List UInt8) → List (List UInt8)
  | 0, _, said => said
  | m + 1, p, said => if (rat L first base each p).2 = true then rscan L first base each m (p + 1) (said ++ [(rat L first base each p).1]) else said
theorem scan_is (L : List Sec) (first base each : Nat) (he : 1 ≤ each) : ∀ (m p : Nat) (said : List (List UInt8)), rscan L first base each m p said = jscan L first base each m (p * each) said
  | 0, p, said => rfl
  | m + 1, p, said => by
    rw [rscan, jscan]
    unfold rat
    cases hl : loadsAt L first base each (p * each) [] with
    | none => simp
    | some l =>
      show (if (toldR each l).2 = true then rscan L first base each m (p + 1) (said ++ [(toldR each l).1]) else said) = (if (toldS l).2 = true then jscan L first base each m (p * each + each) (said ++ [(toldS l).1]) else said)
      rw [told_is each l (by have := loads_len L first base _ _ _ l hl; simpa using this) he]
      split
      · rw [scan_is L first base each he m (p + 1), show (p + 1) * each = p * each + each by rw [Nat.add_mul]; omega]
      · rfl
end Go.Proofs.Ytbnicphegbdfnaa.RC
namespace Go.Proofs.Ytbnicphegbdfnaa.RE
set_option maxRecDepth 100000
open Go Go.RowKit Go.Proofs.Ytbnicphegbdfnaa Go.Proofs.Ytbnicphegbdfnaa.Facts Go.Proofs.Ytbnicphegbdfnaa.Bytes Go.Proofs.Ytbnicphegbdfnaa.DKeep Go.Proofs.Ytbnicphegbdfnaa.DSmall Go.Proofs.Ytbnicphegbdfnaa.Puts Go.Proofs.Ytbnicphegbdfnaa.Refs Go.Proofs.Ytbnicphegbdfnaa.Scan Go.Proofs.Ytbnicphegbdfnaa.SPure Go.Proofs.Ytbnicphegbdfnaa.SSeal Go.Proofs.Ytbnicphegbdfnaa.JA Go.Proofs.Ytbnicphegbdfnaa.JB Go.Proofs.Ytbnicphegbdfnaa.JC Go.Proofs.Ytbnicphegbdfnaa.JD Go.Proofs.Ytbnicphegbdfnaa.JE Go.Proofs.Ytbnicphegbdfnaa.JF Go.Proofs.Ytbnicphegbdfnaa.DRefA Go.Proofs.Ytbnicphegbdfnaa.DRefB Go.Proofs.Ytbnicphegbdfnaa.DRefC Go.Proofs.Ytbnicphegbdfnaa.DSim Go.Proofs.Ytbnicphegbdfnaa.DRefD Go.Proofs.Ytbnicphegbdfnaa.DLawA Go.Proofs.Ytbnicphegbdfnaa.RA Go.Proofs.Ytbnicphegbdfnaa.RB Go.Proofs.Ytbnicphegbdfnaa.RC Go.Proofs.Ytbnicphegbdfnaa.Rscan Go.Proofs.Ytbnicphegbdfnaa.Rnums Go.Proofs.Ytbnicphegbdfnaa.SOpen2 Go.Proofs.Ytbnicphegbdfnaa.SOpen
/-- A shape that may be, on a disk of n sectors. -/
structure Sh (n first places each base used : Nat) : Prop where
  p1 : 1 ≤ places
  p2 : places ≤ 16
  e1 : 1 ≤ each
  e2 : each ≤ 16384
  fit : first + places * each ≤ n
  n2 : n ≤ 16384
  b1 : 1 ≤ base
  b2 : base + places * each ≤ 4611686018427387904
  u : used ≤ places
theorem Sh.idx {n first places each base used p k : Nat} (h : Sh n first places each base used) (hp : p < places) (hk : k < each) : p * each + k < places * each := by
  have h1 : (p + 1) * each ≤ places * each := Nat.mul_le_mul_right _ hp
  rw [Nat.add_mul] at h1
  omega
theorem boxes (w : World) (A1 A2 A3 : Option Addr) (n1 n2 n3 c1 c2 c3 : Nat) (f : Int) (o : Bool) (first places each base used : Nat) :
    Grew w ((w.alloc (.cells #[.slice A1 n1 c1, .slice A2 n2 c2, .slice A3 n3 c3, .int .i64 f, .bool o] 49)).alloc (.cells #[.int .i64 (first : Int), .int .i64 (places : Int), .int .i64 (each : Int), .int .u64 (base : Int), .int .i64 (used : Int)] 52)) := ((Below.refl _ w).alloc (Nat.le_refl _) _).alloc (by simp) _
/-- What the loads of a place say, if there are any. -/
def ratX (each : Nat) (X : Option (List UInt8)) : List UInt8 × Bool := match X with
  | none => ([], false)
  | some l => toldR each l
theorem rat_is (L : List Sec) (first base each p : Nat) : rat L first base each p = ratX each (loadsAt L first base each (p * each) []) := rfl
/-- A row of m bytes, read. -/
def RP (m : Nat) (b : List UInt8) (v : Value) (y : World) : Prop := ∃ A c, v = .slice A m c ∧ Rd (fun _ => True) y v b
theorem RP.grew {m : Nat} {b : List UInt8} {v : Value} {y z : World} (h : RP m b v y) (hg : Grew y z) : RP m b v z := by
  obtain ⟨A, c, e, h⟩ := h
  exact ⟨A, c, e, h.grew hg⟩
theorem RP.mk' {m : Nat} {b : List UInt8} {S : Nat → Prop} {A : Option Addr} {c : Nat} {y : World} (h : Rd S y (.slice A m c) b) : RP m b (.slice A m c) y := ⟨A, c, rfl, h.mono fun _ _ => trivial⟩
/-- A shape's box. -/
def SX (w : World) (b first places each base used : Nat) : Prop := w.heap[b]? = some (.cells #[.int .i64 (first : Int), .int .i64 (places : Int), .int .i64 (each : Int), .int .u64 (base : Int), .int .i64 (used : Int)] 52)
theorem SX.grew {w w' : World} {b first places each base used : Nat} (h : SX w b first places each base used) (hg : Grew w w') : SX w' b first places each base used := DWrite.keepB h hg
theorem SX.cells {w : World} {b first places each base used : Nat} (h : SX w b first places each base used) : w.cell? ⟨b, 0, none⟩ = some (.int .i64 (first : Int)) ∧ w.cell? ⟨b, 1, none⟩ = some (.int .i64 (places : Int)) ∧ w.cell? ⟨b, 2, none⟩ = some (.int .i64 (each : Int)) ∧ w.cell? ⟨b, 3, none⟩ = some (.int .u64 (base : Int)) ∧ w.cell? ⟨b, 4, none⟩ = some (.int .i64 (used : Int)) := by
  refine ⟨?_, ?_, ?_, ?_, ?_⟩ <;> (unfold World.cell?; simp only [show w.heap[b]? = _ from h]; rfl)
set_option maxHeartbeats 8000000 in
theorem rat_any (A1 A2 A3 : Option Addr) (L : List Sec) (n2 n3 c1 c2 c3 : Nat) (f : Int) (o : Bool) (first places each base used p : Nat) (w : World) (hS : SR w (.slice A1 L.length c1) L) (hev : Even L) (hsh : Sh L.length first places each base used) (hp : p < places) :
    Calls Try.prog 74 #[dv A1 A2 A3 L.length n2 n3 c1 c2 c3 f o, sh (first : Int) (places : Int) (each : Int) base (used : Int), .int .i64 (p : Int)] w fun e w' => ∃ v, e = .returned (.tuple #[v, .bool (rat L first base each p).2]) ∧ Rd (fun b => w.heap.size ≤ b) w' v (rat L first base each p).1 ∧ Grew w w' := by
  have HS := Lib.hid hS
  have HEV := Lib.hid hev
  have HSH := Lib.hid hsh
  have hpe : ∀ k, k < each → p * each + k < places * each := fun k hk => hsh.idx hp hk
  have HPE := Lib.hid hpe
  have hpl : places * each ≤ 16384 := by have := hsh.fit; have := hsh.n2; omega
  have HPL := Lib.hid hpl
  have hpm : p * each ≤ 16384 := by have := hpe 0 (by have := hsh.e1; omega); omega
  have HPM := Lib.hid hpm
  have hmul : IntKind.i64.wrap ((p : Int) * (each : Int)) = ((p * each : Nat) : Int) := by rw [← Int.natCast_mul, IntWalk.i64_in _ (by omega)]
  rw [rat_is]
  obtain ⟨X, hX⟩ : ∃ X, loadsAt L first base each (p * each) [] = X := ⟨_, rfl⟩
  rw [hX]
  obtain ⟨pe, hpee⟩ : ∃ pe, p * each = pe := ⟨_, rfl⟩
  rw [hpee] at hmul HPE HPM hX
  have HX0 : Hid (loadsAt L first base each (pe + 0) [] = X) := Lib.hid hX
  clear hS hev hsh hpe hpl hpm hX hpee
  unfold dv sh
  go_enter Try.func74, Try.ntmps74
  go_upto_region 1 with fail
  have HG0 := Lib.hid (boxes w A1 A2 A3 L.length n2 n3 c1 c2 c3 f o first places each base used)
  have HB3 : Hid (((w.alloc (.cells #[.slice A1 L.length c1, .slice A2 n2 c2, .slice A3 n3 c3, .int .i64 f, .bool o] 49)).alloc (.cells #[.int .i64 (first : Int), .int .i64 (places : Int), .int .i64 (each : Int), .int .u64 (base : Int), .int .i64 (used : Int)] 52)).cell? ⟨w.heap.size, 0, none⟩ = some (.slice A1 L.length c1)) := Lib.hid (by
    have h := heapA w (.cells #[.slice A1 L.length c1, .slice A2 n2 c2, .slice A3 n3 c3, .int .i64 f, .bool o] 49) (.cells #[.int .i64 (first : Int), .int .i64 (places : Int), .int .i64 (each : Int), .int .u64 (base : Int), .int .i64 (used : Int)] 52)
    unfold World.cell?
    simp only [h]
    rfl)
  have HB4 : Hid (SX ((w.alloc (.cells #[.slice A1 L.length c1, .slice A2 n2 c2, .slice A3 n3 c3, .int .i64 f, .bool o] 49)).alloc (.cells #[.int .i64 (first : Int), .int .i64 (places : Int), .int .i64 (each : Int), .int .u64 (base : Int), .int .i64 (used : Int)] 52)) (w.heap.size + 1) first places each base used) := Lib.hid (heapB w _ _)
  generalize (w.alloc (.cells #[.slice A1 L.length c1, .slice A2 n2 c2, .slice A3 n3 c3, .int .i64 f, .bool o] 49)).alloc (.cells #[.int .i64 (first : Int), .int .i64 (places : Int), .int .i64 (each : Int), .int .u64 (base : Int), .int .i64 (used : Int)] 52) = W0 at *
  obtain ⟨BP, hBP⟩ : ∃ BP, w.heap.size = BP := ⟨_, rfl⟩
  have HBP := Lib.hid hBP
  obtain ⟨BQ, hBQ⟩ : ∃ BQ, BP + 1 = BQ := ⟨_, rfl⟩
  rw [hBP] at HB3 HB4 ⊢
  rw [hBQ] at HB4 ⊢
  have HBW : Hid (BP ≤ W0.heap.size) := Lib.hid (by have := HG0.out.size; omega)
  clear hBP hBQ
  have HOW0 : Hid (W0.ownsRow W0.heap.size 5 1 (.slice none 0 0) ([] : List UInt8).length (bv [])) := Lib.hid (World.ownsRow_nil _ _ _ _)
  go_wp2
  go_loopg [8, 9, 10, 11, 12, 13] each (fun q s8 s9 s10 s11 s12 s13 wx => ∃ (k : Nat) (acc : List UInt8) (A8 : Option Addr) (n8 c8 : Nat), k + q = each ∧ s9 = .int .i64 (k : Int) ∧ s8 = .slice A8 n8 c8 ∧ Hid (n8 = acc.length) ∧ Hid (Grew W0 wx) ∧ Hid (wx.ownsRow W0.heap.size 5 1 (.slice A8 n8 c8) acc.length (bv acc)) ∧ Hid (loadsAt L first base q (pe + k) acc = X) ∧ Hid (acc.length = 108 * k))
  case atStart => exact ⟨0, [], none, 0, 0, Nat.zero_add _, rfl, rfl, Lib.hid rfl, Lib.hid (Grew.refl _), HOW0, HX0, Lib.hid rfl⟩
  case round =>
    obtain ⟨k, acc, A8, n8, c8, hkq, rfl, rfl, HN8, HGX, HOW, HLX, HLA⟩ := hrel
    clear HX0 HOW0
    obtain ⟨t0, t1, t2, t3, t4⟩ := (HB4.out.grew HGX.out).cells
    have b0 : wr.cell? ⟨BP, 0, none⟩ = some (.slice A1 L.length c1) := DWrite.cellB HGX.out HB3.out
    cases gk with
    | zero =>
      have hke : ¬ (k : Int) < (each : Int) := by omega
      have hX : X = some acc := by have := HLX.out; rw [loadsAt] at this; exact this.symm
      subst hX
      have hk : k = each := by omega
      have HLA2 : Hid (acc.length = 108 * each) := Lib.hid (by rw [HLA.out, hk])
      go_upto_region 11 with fail
      have HRS : Hid (RS (fun b => W0.heap.size ≤ b ∧ b < wr.heap.size) (wr.alloc (.cells #[.slice A8 n8 c8, .int .i64 0, .int .i64 0] 165)) wr.heap.size ⟨acc, 0⟩) := Lib.hid (by
        refine ⟨fun hh => Nat.lt_irrefl _ hh.2, by simp, _, acc, 0, heap_alloc_new wr _, ?_, Nat.zero_le _, rfl⟩
        exact (Rd.of_own HOW.out rfl).grew (DRefA.grew_new _))
      have HRA0 : Hid (Rd (fun _ => True) wr (.slice A8 n8 c8) acc) := Lib.hid ((Rd.of_own HOW.out rfl).mono fun _ _ => trivial)
      have HGW1 : Hid (Grew W0 (wr.alloc (.cells #[.slice A8 n8 c8, .int .i64 0, .int .i64 0] 165))) := Lib.hid (HGX.out.trans (DRefA.grew_new _))
      have HGS : Hid (W0.heap.size ≤ wr.heap.size) := Lib.hid HGX.out.size
      have HRA1 : Hid (Rd (fun b => b < wr.heap.size) (wr.alloc (.cells #[.slice A8 n8 c8, .int .i64 0, .int .i64 0] 165)) (.slice A8 n8 c8) acc) := Lib.hid ((HRA0.out.lt.mono fun b hb => hb.2).grew (DRefA.grew_new _))
      generalize wr.alloc (.cells #[.slice A8 n8 c8, .int .i64 0, .int .i64 0] 165) = W1 at *
      obtain ⟨g, hg⟩ : ∃ g, wr.heap.size = g := ⟨_, rfl⟩
      rw [hg] at HRS HGS HRA1 ⊢
      clear hg HRA0 t0 t1 t2 t3 t4 b0 HOW HGX HLX HLA hmul hkq hk
      obtain ⟨n, s1, hn⟩ : ∃ n s1, Sc.num ⟨acc, 0⟩ 4 = (n, s1) := ⟨_, _, rfl⟩
      have hn32 : n < 4294967296 := by
        have h := congrArg Prod.fst hn
        have e : n = Sc.val (Sc.take ⟨acc, 0⟩ 4).1 := h.symm
        have hh := Nums.take_len ⟨acc, 0⟩ 4
        rw [e]
        have := Nums.val_lt (Sc.take ⟨acc, 0⟩ 4).1 4
        rw [List.take_of_length_le (by omega)] at this
        omega
      obtain ⟨t, s2, ht⟩ : ∃ t s2, Sc.take s1 n = (t, s2) := ⟨_, _, rfl⟩
      have htold : toldR each acc = if s2.e = 0 ∧ place each t = acc then (t, true) else ([], false) := by
        unfold toldR
        simp only [hn, ht]
      have HTL : Hid (t.length + 4 ≤ 108 * each) := Lib.hid (by
        have h4 : 4 ≤ acc.length := by have := HLA2.out; have := HSH.out.e1; omega
        have hs1 : s1.l.length = acc.length - 4 := by
          have h := congrArg Prod.snd hn
          have e : s1 = (Sc.take ⟨acc, 0⟩ 4).2 := h.symm
          rw [e]
          unfold Sc.take
          rw [if_pos rfl, if_pos h4]
          exact List.length_drop ..
        have h := (JC.take_l s1 n (acc.length - 4) (by omega)).1
        rw [ht] at h
        have h2 : t.length ≤ acc.length - 4 := h
        have := HLA2.out
        omega)
      have HTO := Lib.hid htold
      have HNUM : Hid (Sc.num ⟨acc, 0⟩ (width 4) = (n, s1)) := Lib.hid (by rw [show width 4 = 4 from by decide]; exact hn)
      have HTK : Hid (Sc.take s1 n = (t, s2)) := Lib.hid ht
      have hni : IntKind.i64.wrap (n : Int) = (n : Int) := IntWalk.i64_in _ (by omega)
      have HN32 := Lib.hid hn32
      clear htold hn ht hn32
      go_wp2_with fail
      refine (rnum_eq _ _ _ _ 4 _ _ HRS HNUM).mono ?_
      rintro e w1 ⟨rfl, r1, k1⟩
      have R1 := Lib.hid r1
      have HG1 := Lib.hid (grew_chg HGW1.out k1 HGS.out)
      have HRA2 := Lib.hid (far HRA1.out k1 (Nat.lt_irrefl _))
      clear r1 k1 HRS HGW1 HRA1
      go_wp2_with fail
      refine (rtake_eq _ _ _ _ n _ _ R1 (by have := HN32.out; omega) HTK).mono ?_
      rintro e w2 ⟨v16, rfl, hr16, r2, k2⟩
      have HG2 := Lib.hid (grew_chg HG1.out k2 HGS.out)
      have HRA := Lib.hid (far HRA2.out k2 (Nat.lt_irrefl _))
      have HR16 := Lib.hid hr16
      obtain ⟨_, _, vq, full, at_, hblk, _⟩ := r2
      have HC2 : Hid (w2.cell? ⟨g, 2, none⟩ = some (.int .i64 s2.e)) := Lib.hid (by unfold World.cell?; simp only [hblk]; rfl)
      obtain ⟨t0, t1, t2, t3, t4⟩ := (HB4.out.grew HG2.out).cells
      have HT2 := Lib.hid t2
      obtain ⟨A16, c16, rfl, _⟩ := id hr16
      clear hblk hr16 k2 R1 HG1 HRA2 hni HNUM HTK t0 t1 t2 t3 t4
      obtain ⟨er, her⟩ : ∃ er, s2.e = er := ⟨_, rfl⟩
      rw [her] at HTO HC2
      clear her
      have HRX : Hid (ratX each (some acc) = toldR each acc) := Lib.hid rfl
      by_cases h0 : er = 0
      · subst h0
        have HEV2 : Hid (toldR each acc = if place each t = acc then (t, true) else ([], false)) := Lib.hid (by rw [HTO.out]; by_cases hh : place each t = acc <;> simp [hh])
        have HRC : Hid (∀ W, Grew w2 W → Calls Try.prog 69 #[.int .i64 (each : Int), .slice A16 t.length c16] W fun e w' => ∃ A' c', e = .returned (.slice A' (108 * each) c') ∧ Rd (fun k => W.heap.size ≤ k) w' (.slice A' (108 * each) c') (place each t) ∧ Grew W w') := Lib.hid fun W hW => record_any each A16 c16 t _ W (HR16.out.grew hW) HSH.out.e1 HSH.out.e2 HTL.out
        clear HTO
        by_cases hpa : place each t = acc
        · have HEQ : Hid ((place each t == acc) = true) := Lib.hid (by simpa using hpa)
          have HEV3 : Hid (toldR each acc = (t, true)) := Lib.hid (by rw [HEV2.out, if_pos hpa])
          clear hpa HEV2
          go_wp2
          refine Facts.wp_region_text (by kernel_rfl) (by kernel_rfl) ?_
          apply Facts.Lex.exact [] _ (by kernel_rfl)
          · intro u W hC hK
            unfold Facts.one
            go_simp
            all_goals (first | exact ⟨Grew.refl _, rfl⟩ | rfl)
          simp only [Act.put, List.setIfInBounds_toArray, List.set_cons_zero, List.set_cons_succ, Nat.zero_add]
          apply Facts.Lex.exact [] _ (by kernel_rfl)
          · intro u W hC hK
            have q2 := DWrite.cellB hC HC2.out
            unfold Facts.one
            go_simp
            all_goals (first | exact ⟨Grew.refl _, rfl⟩ | rfl)
          simp only [Act.put, List.setIfInBounds_toArray, List.set_cons_zero, List.set_cons_succ, Nat.reduceAdd]
          apply Facts.Lex.exact [] _ (by kernel_rfl)
          · intro u W hC hK
            unfold Facts.one
            go_simp
            all_goals (first | exact ⟨Grew.refl _, rfl⟩ | rfl)
          simp only [Act.put, List.setIfInBounds_toArray, List.set_cons_zero, List.set_cons_succ, Nat.reduceAdd]
          apply Facts.Lex.exact [] _ (by kernel_rfl)
          · intro u W hC hK
            unfold Facts.one
            go_simp
            all_goals (first | exact ⟨Grew.refl _, rfl⟩ | rfl)
          simp only [Act.put, List.setIfInBounds_toArray, List.set_cons_zero, List.set_cons_succ, Nat.reduceAdd]
          apply Facts.Lex.exact [] _ (by kernel_rfl)
          · intro u W hC hK
            unfold Facts.one
            go_simp
            all_goals (first | exact ⟨Grew.refl _, rfl⟩ | rfl)
          simp only [Act.put, List.setIfInBounds_toArray, List.set_cons_zero, List.set_cons_succ, Nat.reduceAdd]
          apply Facts.Lex.exact [] _ (by kernel_rfl)
          · intro u W hC hK
            have q2 := DWrite.cellB hC HT2.out
            unfold Facts.one
            go_simp
            all_goals (first | exact ⟨Grew.refl _, rfl⟩ | rfl)
          simp only [Act.put, List.setIfInBounds_toArray, List.set_cons_zero, List.set_cons_succ, Nat.reduceAdd]
          apply Facts.Lex.exact [] _ (by kernel_rfl)
          · intro u W hC hK
            unfold Facts.one
            go_simp
            all_goals (first | exact ⟨Grew.refl _, rfl⟩ | rfl)
          simp only [Act.put, List.setIfInBounds_toArray, List.set_cons_zero, List.set_cons_succ, Nat.reduceAdd]
          apply Facts.Lex.know [] (RP (108 * each) (place each t)) (by kernel_rfl) (fun v y z hv hg => hv.grew hg)
          · intro u W hC hK
            unfold Facts.one
            go_simp
            refine (HRC.out W hC).mono ?_
            rintro e w' ⟨A', c', rfl, h1, h2⟩
            exact ⟨_, rfl, h2, RP.mk' h1⟩
          simp only [Act.put, List.setIfInBounds_toArray, List.set_cons_zero, List.set_cons_succ, Nat.reduceAdd]
          apply Facts.Lex.exact [7] (.string ⟨(place each t).toArray⟩) (by kernel_rfl)
          · intro u W hC hK
            obtain ⟨A7, c7, e7, h7⟩ := hK.1
            have q7 := Nums.conv22 h7
            rw [e7] at q7
            unfold Facts.one
            go_simp
            all_goals (first | exact ⟨Grew.refl _, rfl⟩ | rfl)
          simp only [Act.put, List.setIfInBounds_toArray, List.set_cons_zero, List.set_cons_succ, Nat.reduceAdd]
          apply Facts.Lex.exact [] _ (by kernel_rfl)
          · intro u W hC hK
            unfold Facts.one
            go_simp
            all_goals (first | exact ⟨Grew.refl _, rfl⟩ | rfl)
          simp only [Act.put, List.setIfInBounds_toArray, List.set_cons_zero, List.set_cons_succ, Nat.reduceAdd]
          apply Facts.Lex.exact [] (.string ⟨acc.toArray⟩) (by kernel_rfl)
          · intro u W hC hK
            have q7 := Nums.conv22 (HRA.out.grew hC)
            unfold Facts.one
            go_simp
            all_goals (first | exact ⟨Grew.refl _, rfl⟩ | rfl)
          simp only [Act.put, List.setIfInBounds_toArray, List.set_cons_zero, List.set_cons_succ, Nat.reduceAdd]
          apply Facts.Lex.exact [] _ (by kernel_rfl)
          · intro u W hC hK
            have q8 := HEQ.out
            unfold Facts.one
            go_simp
            all_goals (first | exact ⟨Grew.refl _, rfl⟩ | rfl)
          simp only [Act.put, List.setIfInBounds_toArray, List.set_cons_zero, List.set_cons_succ, Nat.reduceAdd]
          apply Facts.Lex.exact [] _ (by kernel_rfl)
          · intro u W hC hK
            unfold Facts.one
            go_simp
            all_goals (first | exact ⟨Grew.refl _, rfl⟩ | rfl)
          simp only [Act.put, List.setIfInBounds_toArray, List.set_cons_zero, List.set_cons_succ, Nat.reduceAdd]
          refine Facts.Lex.done fun u W hC hK => ?_
          have HGE := Lib.hid (HG0.out.trans (HG2.out.trans hC))
          have HR17 := Lib.hid (HR16.out.grew hC)
          clear hC hK
          go_wp2
          go_ret2
          refine ⟨.slice A16 t.length c16, ?_, ?_, HGE.out⟩
          · rw [HRX.out, HEV3.out]
            first | rfl | simp
          · rw [HRX.out, HEV3.out]
            exact HR17.out.mono fun b hb => Nat.le_trans HG0.out.size hb.1
        · have HEQ : Hid ((place each t == acc) = false) := Lib.hid (by simpa using hpa)
          have HEV3 : Hid (toldR each acc = ([], false)) := Lib.hid (by rw [HEV2.out, if_neg hpa])
          clear hpa HEV2
          go_wp2
          refine Facts.wp_region_text (by kernel_rfl) (by kernel_rfl) ?_
          apply Facts.Lex.exact [] _ (by kernel_rfl)
          · intro u W hC hK
            unfold Facts.one
            go_simp
            all_goals (first | exact ⟨Grew.refl _, rfl⟩ | rfl)
          simp only [Act.put, List.setIfInBounds_toArray, List.set_cons_zero, List.set_cons_succ, Nat.zero_add]
          apply Facts.Lex.exact [] _ (by kernel_rfl)
          · intro u W hC hK
            have q2 := DWrite.cellB hC HC2.out
            unfold Facts.one
            go_simp
            all_goals (first | exact ⟨Grew.refl _, rfl⟩ | rfl)
          simp only [Act.put, List.setIfInBounds_toArray, List.set_cons_zero, List.set_cons_succ, Nat.reduceAdd]
          apply Facts.Lex.exact [] _ (by kernel_rfl)
          · intro u W hC hK
            unfold Facts.one
            go_simp
            all_goals (first | exact ⟨Grew.refl _, rfl⟩ | rfl)
          simp only [Act.put, List.setIfInBounds_toArray, List.set_cons_zero, List.set_cons_succ, Nat.reduceAdd]
          apply Facts.Lex.exact [] _ (by kernel_rfl)
          · intro u W hC hK
            unfold Facts.one
            go_simp
            all_goals (first | exact ⟨Grew.refl _, rfl⟩ | rfl)
          simp only [Act.put, List.setIfInBounds_toArray, List.set_cons_zero, List.set_cons_succ, Nat.reduceAdd]
          apply Facts.Lex.exact [] _ (by kernel_rfl)
          · intro u W hC hK
            unfold Facts.one
            go_simp
            all_goals (first | exact ⟨Grew.refl _, rfl⟩ | rfl)
          simp only [Act.put, List.setIfInBounds_toArray, List.set_cons_zero, List.set_cons_succ, Nat.reduceAdd]
          apply Facts.Lex.exact [] _ (by kernel_rfl)
          · intro u W hC hK
            have q2 := DWrite.cellB hC HT2.out
            unfold Facts.one
            go_simp
            all_goals (first | exact ⟨Grew.refl _, rfl⟩ | rfl)
          simp only [Act.put, List.setIfInBounds_toArray, List.set_cons_zero, List.set_cons_succ, Nat.reduceAdd]
          apply Facts.Lex.exact [] _ (by kernel_rfl)
          · intro u W hC hK
            unfold Facts.one
            go_simp
            all_goals (first | exact ⟨Grew.refl _, rfl⟩ | rfl)
          simp only [Act.put, List.setIfInBounds_toArray, List.set_cons_zero, List.set_cons_succ, Nat.reduceAdd]
          apply Facts.Lex.know [] (RP (108 * each) (place each t)) (by kernel_rfl) (fun v y z hv hg => hv.grew hg)
          · intro u W hC hK
            unfold Facts.one
            go_simp
            refine (HRC.out W hC).mono ?_
            rintro e w' ⟨A', c', rfl, h1, h2⟩
            exact ⟨_, rfl, h2, RP.mk' h1⟩
          simp only [Act.put, List.setIfInBounds_toArray, List.set_cons_zero, List.set_cons_succ, Nat.reduceAdd]
          apply Facts.Lex.exact [7] (.string ⟨(place each t).toArray⟩) (by kernel_rfl)
          · intro u W hC hK
            obtain ⟨A7, c7, e7, h7⟩ := hK.1
            have q7 := Nums.conv22 h7
            rw [e7] at q7
            unfold Facts.one
            go_simp
            all_goals (first | exact ⟨Grew.refl _, rfl⟩ | rfl)
          simp only [Act.put, List.setIfInBounds_toArray, List.set_cons_zero, List.set_cons_succ, Nat.reduceAdd]
          apply Facts.Lex.exact [] _ (by kernel_rfl)
          · intro u W hC hK
            unfold Facts.one
            go_simp
            all_goals (first | exact ⟨Grew.refl _, rfl⟩ | rfl)
          simp only [Act.put, List.setIfInBounds_toArray, List.set_cons_zero, List.set_cons_succ, Nat.reduceAdd]
          apply Facts.Lex.exact [] (.string ⟨acc.toArray⟩) (by kernel_rfl)
          · intro u W hC hK
            have q7 := Nums.conv22 (HRA.out.grew hC)
            unfold Facts.one
            go_simp
            all_goals (first | exact ⟨Grew.refl _, rfl⟩ | rfl)
          simp only [Act.put, List.setIfInBounds_toArray, List.set_cons_zero, List.set_cons_succ, Nat.reduceAdd]
          apply Facts.Lex.exact [] _ (by kernel_rfl)
          · intro u W hC hK
            have q8 := HEQ.out
            unfold Facts.one
            go_simp
            all_goals (first | exact ⟨Grew.refl _, rfl⟩ | rfl)
          simp only [Act.put, List.setIfInBounds_toArray, List.set_cons_zero, List.set_cons_succ, Nat.reduceAdd]
          apply Facts.Lex.exact [] _ (by kernel_rfl)
          · intro u W hC hK
            unfold Facts.one
            go_simp
            all_goals (first | exact ⟨Grew.refl _, rfl⟩ | rfl)
          simp only [Act.put, List.setIfInBounds_toArray, List.set_cons_zero, List.set_cons_succ, Nat.reduceAdd]
          refine Facts.Lex.done fun u W hC hK => ?_
          have HGE := Lib.hid (HG0.out.trans (HG2.out.trans hC))
          clear hC hK
          go_wp2
          go_ret2
          refine ⟨.slice none 0 0, ?_, ?_, HGE.out⟩
          · rw [HRX.out, HEV3.out]
            first | rfl | simp
          · rw [HRX.out, HEV3.out]
            exact Rd.nil _ _
      · have HD1 : Hid ((er == 0) = false) := Lib.hid (by simpa using h0)
        have HD2 : Hid ((er != 0) = true) := Lib.hid (by simpa using h0)
        have HTF : Hid (toldR each acc = ([], false)) := Lib.hid (by rw [HTO.out, if_neg fun hh => h0 hh.1])
        clear h0 HTO
        go_wp2
        refine Facts.wp_region_text (by kernel_rfl) (by kernel_rfl) ?_
        apply Facts.Lex.exact [] _ (by kernel_rfl)
        · intro u W hC hK
          unfold Facts.one
          go_simp
          all_goals (first | exact ⟨Grew.refl _, rfl⟩ | rfl)
        simp only [Act.put, List.setIfInBounds_toArray, List.set_cons_zero, List.set_cons_succ, Nat.zero_add]
        apply Facts.Lex.exact [] _ (by kernel_rfl)
        · intro u W hC hK
          have q2 := DWrite.cellB hC HC2.out
          unfold Facts.one
          go_simp
          all_goals (first | exact ⟨Grew.refl _, rfl⟩ | rfl)
        simp only [Act.put, List.setIfInBounds_toArray, List.set_cons_zero, List.set_cons_succ, Nat.reduceAdd]
        apply Facts.Lex.exact [] _ (by kernel_rfl)
        · intro u W hC hK
          have d1 := HD1.out
          have d2 := HD2.out
          unfold Facts.one
          go_simp
          all_goals (first | exact ⟨Grew.refl _, rfl⟩ | rfl)
        simp only [Act.put, List.setIfInBounds_toArray, List.set_cons_zero, List.set_cons_succ, Nat.reduceAdd]
        apply Facts.Lex.exact [] _ (by kernel_rfl)
        · intro u W hC hK
          unfold Facts.one
          go_simp
          all_goals (first | exact ⟨Grew.refl _, rfl⟩ | rfl)
        simp only [Act.put, List.setIfInBounds_toArray, List.set_cons_zero, List.set_cons_succ, Nat.reduceAdd]
        apply Facts.Lex.exact [] _ (by kernel_rfl)
        · intro u W hC hK
          unfold Facts.one
          go_simp
          all_goals (first | exact ⟨Grew.refl _, rfl⟩ | rfl)
        simp only [Act.put, List.setIfInBounds_toArray, List.set_cons_zero, List.set_cons_succ, Nat.reduceAdd]
        apply Facts.Lex.exact [] _ (by kernel_rfl)
        · intro u W hC hK
          unfold Facts.one
          go_simp
          all_goals (first | exact ⟨Grew.refl _, rfl⟩ | rfl)
        simp only [Act.put, List.setIfInBounds_toArray, List.set_cons_zero, List.set_cons_succ, Nat.reduceAdd]
        apply Facts.Lex.exact [] _ (by kernel_rfl)
        · intro u W hC hK
          unfold Facts.one
          go_simp
          all_goals (first | exact ⟨Grew.refl _, rfl⟩ | rfl)
        simp only [Act.put, List.setIfInBounds_toArray, List.set_cons_zero, List.set_cons_succ, Nat.reduceAdd]
        apply Facts.Lex.exact [] _ (by kernel_rfl)
        · intro u W hC hK
          unfold Facts.one
          go_simp
          all_goals (first | exact ⟨Grew.refl _, rfl⟩ | rfl)
        simp only [Act.put, List.setIfInBounds_toArray, List.set_cons_zero, List.set_cons_succ, Nat.reduceAdd]
        apply Facts.Lex.exact [] _ (by kernel_rfl)
        · intro u W hC hK
          unfold Facts.one
          go_simp
          all_goals (first | exact ⟨Grew.refl _, rfl⟩ | rfl)
        simp only [Act.put, List.setIfInBounds_toArray, List.set_cons_zero, List.set_cons_succ, Nat.reduceAdd]
        apply Facts.Lex.exact [] _ (by kernel_rfl)
        · intro u W hC hK
          unfold Facts.one
          go_simp
          all_goals (first | exact ⟨Grew.refl _, rfl⟩ | rfl)
        simp only [Act.put, List.setIfInBounds_toArray, List.set_cons_zero, List.set_cons_succ, Nat.reduceAdd]
        apply Facts.Lex.exact [] _ (by kernel_rfl)
        · intro u W hC hK
          unfold Facts.one
          go_simp
          all_goals (first | exact ⟨Grew.refl _, rfl⟩ | rfl)
        simp only [Act.put, List.setIfInBounds_toArray, List.set_cons_zero, List.set_cons_succ, Nat.reduceAdd]
        apply Facts.Lex.exact [] _ (by kernel_rfl)
        · intro u W hC hK
          unfold Facts.one
          go_simp
          all_goals (first | exact ⟨Grew.refl _, rfl⟩ | rfl)
        simp only [Act.put, List.setIfInBounds_toArray, List.set_cons_zero, List.set_cons_succ, Nat.reduceAdd]
        apply Facts.Lex.exact [] _ (by kernel_rfl)
        · intro u W hC hK
          unfold Facts.one
          go_simp
          all_goals (first | exact ⟨Grew.refl _, rfl⟩ | rfl)
        simp only [Act.put, List.setIfInBounds_toArray, List.set_cons_zero, List.set_cons_succ, Nat.reduceAdd]
        refine Facts.Lex.done fun u W hC hK => ?_
        have HGE := Lib.hid (HG0.out.trans (HG2.out.trans hC))
        have d1 := HD1.out
        have d2 := HD2.out
        go_wp2
        go_ret2
        refine ⟨.slice none 0 0, ?_, ?_, HGE.out⟩
        · rw [HRX.out, HTF.out]
          first | rfl | simp
        · rw [HRX.out, HTF.out]; exact Rd.nil _ _
    | succ q =>
      have hke : (k : Int) < (each : Int) := by omega
      have hkn : k < each := by omega
      obtain ⟨pk, hpk⟩ : ∃ pk, pe + k = pk := ⟨_, rfl⟩
      obtain ⟨ix, hix0⟩ : ∃ ix, first + pk = ix := ⟨_, rfl⟩
      obtain ⟨bq, hbq⟩ : ∃ bq, base + pk = bq := ⟨_, rfl⟩
      have hpkl := HPE.out k hkn
      have e1 : IntKind.i64.wrap ((pe : Int) + (k : Int)) = (pk : Int) := by rw [IntWalk.i64_in _ (by have := HPM.out; have := HSH.out.e2; omega)]; omega
      have e2 : IntKind.i64.wrap ((first : Int) + (pk : Int)) = (ix : Int) := by rw [IntWalk.i64_in _ (by have := HPM.out; have := HSH.out.e2; have := HSH.out.fit; have := HSH.out.n2; omega)]; omega
      have hidx : ix < L.length := by have := HSH.out.fit; omega
      have e3 : IntKind.u64.wrap (pk : Int) = (pk : Int) := IntWalk.u64_in _ (by have := HPM.out; have := HSH.out.e2; omega)
      have e4 : IntKind.u64.wrap ((base : Int) + (pk : Int)) = (bq : Int) := by rw [IntWalk.u64_in _ (by have := HSH.out.b2; omega)]; omega
      obtain ⟨B, hB⟩ : ∃ B, L[ix]? = some B := ⟨_, List.getElem?_eq_getElem hidx⟩
      have HB128 : Hid (B.length = 128) := Lib.hid (by
        have := DSettle.even_get HEV.out _ hidx
        rwa [hB] at this)
      obtain ⟨A1', c1', e', q1, q2, q3, q4⟩ := HS.out.grew (HG0.out.trans HGX.out)
      injection e' with e5 _ e6
      subst e5 e6
      obtain ⟨ad, rfl⟩ : ∃ ad, A1 = some ad := by
        cases A1 with
        | none => have := q3 rfl; omega
        | some ad => exact ⟨ad, rfl⟩
      have hcell := q4 ad rfl _ B hB
      unfold sv at hcell
      obtain ⟨vb, wb, hcv, hrb, hgb⟩ := run_toBytes (P := Try.prog) (w := wr) (src := 9) (dst := 23) (e := 5) ⟨B.toArray⟩ Try.underlying9 Try.underlying23 Try.underlying5 (by rw [DRefE.ba_size, HB128.out]; decide)
      have HGB := Lib.hid hgb
      have hlx := HLX.out
      rw [loadsAt, hpk, hix0, hbq, hB, Option.getD_some] at hlx
      have HOP := Lib.hid (ropen_any _ vb B wb hrb)
      have HOL := Lib.hid (opened_load B)
      rcases hop : opened B with ⟨st, ld, er⟩
      rw [hop] at hlx HOP HOL
      have HLX2 := Lib.hid hlx
      have hix : (ix : Int) < (L.length : Int) := by omega
      have HPK := Lib.hid hpk
      have HBQ := Lib.hid hbq
      clear hlx hop hrb hgb q4 q3 q2 q1 hB hidx HLX hpk hix0 hbq hpkl
      go_wp2_with fail
      refine HOP.out.mono ?_
      rintro e w1 ⟨v1, rfl, hr1, hg1⟩
      obtain ⟨A12, c12, rfl, _⟩ := id hr1
      have HR1 := Lib.hid hr1
      have HG1 := Lib.hid (HGX.out.trans (HGB.out.trans hg1))
      have HOW1 := Lib.hid (JF.own_grew (JF.own_grew HOW.out HGB.out) hg1)
      clear hr1 hg1 HOW HGX HOP t0 t1 t2 t3 t4 b0 hcell hcv e2 hmul
      obtain ⟨t0, t1, t2, t3, t4⟩ := (HB4.out.grew HG1.out).cells
      by_cases h0 : er = 0
      · subst h0
        by_cases h1 : st = bq
        · have HLX3 : Hid (loadsAt L first base q (pe + (k + 1)) (acc ++ ld) = X) := Lib.hid (by have := HLX2.out; rw [if_pos ⟨rfl, h1⟩] at this; rw [← Nat.add_assoc, HPK.out]; exact this)
          subst h1
          have hl108 : ld.length = 108 := HOL.out rfl
          clear HLX2 HOL
          obtain ⟨v3, w3, r3, o3, b3⟩ := run_app2 w1 W0.heap.size (.slice A8 n8 c8) A12 c12 acc ld _ HOW1.out HR1.out (by rw [HLA.out, hl108]; have := HSH.out.e2; omega) HG1.out.size
          obtain ⟨_, A3', c3', rfl⟩ := own_len o3 (by rw [List.length_append]; omega)
          have HR3 := Lib.hid r3
          have HO3 := Lib.hid o3
          have HG3 : Hid (Grew W0 w3) := Lib.hid ((show Below W0.heap.size W0 w1 from HG1.out).trans b3)
          have HLA3 : Hid ((acc ++ ld).length = 108 * (k + 1)) := Lib.hid (by rw [List.length_append, HLA.out, hl108]; omega)
          have hw1 : IntKind.i64.wrap ((k : Int) + 1) = (k : Int) + 1 := IntWalk.i64_in _ (by have := HSH.out.e2; omega)
          obtain ⟨n3', hn3⟩ : ∃ n3', (acc ++ ld).length = n3' := ⟨_, rfl⟩
          have HN3 := Lib.hid hn3
          rw [hn3] at HR3
          have HO3' : Hid (w3.ownsRow W0.heap.size 5 1 (.slice A3' n3' c3') (acc ++ ld).length (bv (acc ++ ld))) := Lib.hid (by rw [← hn3]; exact HO3.out)
          clear r3 o3 b3 hl108 HOW1 HR1 hn3 HO3
          go_wp2_with (at_builtin; refine SSeal.wpList_app' (by rfl) (.tmp 54) (.tmp 55) 23 23 (by with_reducible rfl) _ _ (by rfl) (by rfl) _ w3 (by exact HR3.out) ?_)
          go_roundg q
          case measure => omega
          case rel => exact ⟨k + 1, acc ++ ld, A3', n3', c3', by omega, by first | rfl | simp, rfl, Lib.hid HN3.out.symm, HG3, HO3', HLX3, HLA3⟩
        · have hX : X = none := by have := HLX2.out; rw [if_neg (fun hh => h1 hh.2)] at this; exact this.symm
          subst hX
          have d1 : ((st : Int) == (bq : Int)) = false := by simp; omega
          have d2 : ((st : Int) != (bq : Int)) = true := by simp; omega
          have d3 : ¬ (st = bq) := h1
          have HGE := Lib.hid (HG0.out.trans HG1.out)
          clear HLX2 HOL h1 HOW1 HR1
          go_wp2
          go_ret2
          exact ⟨_, rfl, Rd.nil _ _, HGE.out⟩
      · have hX : X = none := by have := HLX2.out; rw [if_neg (fun hh => h0 hh.1)] at this; exact this.symm
        subst hX
        have d1 : (er == 0) = false := by simpa using h0
        have d2 : (er != 0) = true := by simpa using h0
        have HGE := Lib.hid (HG0.out.trans HG1.out)
        clear HLX2 HOL h0 HOW1 HR1
        go_wp2
        go_ret2
        exact ⟨_, rfl, Rd.nil _ _, HGE.out⟩
end Go.Proofs.Ytbnicphegbdfnaa.RE
namespace Go.Proofs.Ytbnicphegbdfnaa.RF
set_option maxRecDepth 100000
open Go Go.RowKit Go.Proofs.Ytbnicphegbdfnaa Go.Proofs.Ytbnicphegbdfnaa.Facts Go.Proofs.Ytbnicphegbdfnaa.Bytes Go.Proofs.Ytbnicphegbdfnaa.DKeep Go.Proofs.Ytbnicphegbdfnaa.DSmall Go.Proofs.Ytbnicphegbdfnaa.Puts Go.Proofs.Ytbnicphegbdfnaa.Refs Go.Proofs.Ytbnicphegbdfnaa.Scan Go.Proofs.Ytbnicphegbdfnaa.SPure Go.Proofs.Ytbnicphegbdfnaa.SSeal Go.Proofs.Ytbnicphegbdfnaa.JA Go.Proofs.Ytbnicphegbdfnaa.JB Go.Proofs.Ytbnicphegbdfnaa.JC Go.Proofs.Ytbnicphegbdfnaa.JD Go.Proofs.Ytbnicphegbdfnaa.JE Go.Proofs.Ytbnicphegbdfnaa.JF Go.Proofs.Ytbnicphegbdfnaa.DRefA Go.Proofs.Ytbnicphegbdfnaa.DRefB Go.Proofs.Ytbnicphegbdfnaa.DRefC Go.Proofs.Ytbnicphegbdfnaa.DSim Go.Proofs.Ytbnicphegbdfnaa.DRefD Go.Proofs.Ytbnicphegbdfnaa.DLawA Go.Proofs.Ytbnicphegbdfnaa.RA Go.Proofs.Ytbnicphegbdfnaa.RB Go.Proofs.Ytbnicphegbdfnaa.RC Go.Proofs.Ytbnicphegbdfnaa.RE
/-- A disk's box, five cells. -/
def FX (w : World) (b : Nat) (v0 v1 v2 v3 v4 : Value) : Prop := w.heap[b]? = some (.cells #[v0, v1, v2, v3, v4] 49)
theorem FX.grew {w w' : World} {b : Nat} {v0 v1 v2 v3 v4 : Value} (h : FX w b v0 v1 v2 v3 v4) (hg : Grew w w') : FX w' b v0 v1 v2 v3 v4 := DWrite.keepB h hg
theorem FX.cells {w : World} {b : Nat} {v0 v1 v2 v3 v4 : Value} (h : FX w b v0 v1 v2 v3 v4) : w.cell? ⟨b, 0, none⟩ = some v0 ∧ w.cell? ⟨b, 1, none⟩ = some v1 ∧ w.cell? ⟨b, 2, none⟩ = some v2 ∧ w.cell? ⟨b, 3, none⟩ = some v3 ∧ w.cell? ⟨b, 4, none⟩ = some v4 := by
  refine ⟨?_, ?_, ?_, ?_, ?_⟩ <;> (unfold World.cell?; simp only [show w.heap[b]? = _ from h]; rfl)
set_option maxHeartbeats 8000000 in
theorem rscan_any (A1 A2 A3 : Option Addr) (L : List Sec) (n2 n3 c1 c2 c3 : Nat) (f : Int) (o : Bool) (first places each base used : Nat) (w : World) (hS : SR w (.slice A1 L.length c1) L) (hev : Even L) (hsh : Sh L.length first places each base used) :
    Calls Try.prog 37 #[dv A1 A2 A3 L.length n2 n3 c1 c2 c3 f o, sh (first : Int) (places : Int) (each : Int) base (used : Int)] w fun e w' => ∃ v, e = .returned v ∧ BS w.heap.size w' v (rscan L first base each places 0 []) ∧ Grew w w' := by
  have HSH := Lib.hid hsh
  have HAT : Hid (∀ (p : Nat) (W : World), p < places → Grew w W → Calls Try.prog 74 #[.agg #[.slice A1 L.length c1, .slice A2 n2 c2, .slice A3 n3 c3, .int .i64 f, .bool o], .agg #[.int .i64 (first : Int), .int .i64 (places : Int), .int .i64 (each : Int), .int .u64 (base : Int), .int .i64 (used : Int)], .int .i64 (p : Int)] W fun e w' => ∃ v, e = .returned (.tuple #[v, .bool (rat L first base each p).2]) ∧ Rd (fun b => W.heap.size ≤ b) w' v (rat L first base each p).1 ∧ Grew W w') := Lib.hid fun p W hp hg => rat_any A1 A2 A3 L n2 n3 c1 c2 c3 f o first places each base used p W (hS.grew hg) hev hsh hp
  obtain ⟨X, hX⟩ : ∃ X, rscan L first base each places 0 [] = X := ⟨_, rfl⟩
  rw [hX]
  have HX0 := Lib.hid hX
  clear hS hev hsh hX
  unfold dv sh
  go_enter Try.func37, Try.ntmps37
  go_upto_region 1 with fail
  have HG0 := Lib.hid (boxes w A1 A2 A3 L.length n2 n3 c1 c2 c3 f o first places each base used)
  have HB3 : Hid (FX ((w.alloc (.cells #[.slice A1 L.length c1, .slice A2 n2 c2, .slice A3 n3 c3, .int .i64 f, .bool o] 49)).alloc (.cells #[.int .i64 (first : Int), .int .i64 (places : Int), .int .i64 (each : Int), .int .u64 (base : Int), .int .i64 (used : Int)] 52)) w.heap.size (.slice A1 L.length c1) (.slice A2 n2 c2) (.slice A3 n3 c3) (.int .i64 f) (.bool o)) := Lib.hid (heapA w _ _)
  have HB4 : Hid (SX ((w.alloc (.cells #[.slice A1 L.length c1, .slice A2 n2 c2, .slice A3 n3 c3, .int .i64 f, .bool o] 49)).alloc (.cells #[.int .i64 (first : Int), .int .i64 (places : Int), .int .i64 (each : Int), .int .u64 (base : Int), .int .i64 (used : Int)] 52)) (w.heap.size + 1) first places each base used) := Lib.hid (heapB w _ _)
  generalize (w.alloc (.cells #[.slice A1 L.length c1, .slice A2 n2 c2, .slice A3 n3 c3, .int .i64 f, .bool o] 49)).alloc (.cells #[.int .i64 (first : Int), .int .i64 (places : Int), .int .i64 (each : Int), .int .u64 (base : Int), .int .i64 (used : Int)] 52) = W0 at *
  obtain ⟨BP, hBP⟩ : ∃ BP, w.heap.size = BP := ⟨_, rfl⟩
  have HBP := Lib.hid hBP
  obtain ⟨BQ, hBQ⟩ : ∃ BQ, BP + 1 = BQ := ⟨_, rfl⟩
  rw [hBP] at HB3 HB4 ⊢
  rw [hBQ] at HB4 ⊢
  have HBW : Hid (BP ≤ W0.heap.size) := Lib.hid (by have := HG0.out.size; omega)
  clear hBP hBQ
  have HBS0 : Hid (BS W0.heap.size W0 (.slice none 0 0) []) := Lib.hid (BS.nil _ _)
  go_wp2
  go_loopg [5, 6, 7, 8] places (fun q s5 s6 s7 s8 wx => ∃ (p : Nat) (said : List (List UInt8)) (A5 : Option Addr) (n5 c5 : Nat), p + q = places ∧ s6 = .int .i64 (p : Int) ∧ s5 = .slice A5 n5 c5 ∧ Hid (Grew W0 wx) ∧ Hid (BS W0.heap.size wx (.slice A5 n5 c5) said) ∧ Hid (rscan L first base each q p said = X) ∧ Hid (said.length ≤ p))
  case atStart => exact ⟨0, [], none, 0, 0, Nat.zero_add _, rfl, rfl, Lib.hid (Grew.refl _), HBS0, HX0, Lib.hid (Nat.le_refl _)⟩
  case round =>
    obtain ⟨p, said, A5, n5, c5, hpq, rfl, rfl, HGX, HBS, HRX, HSL⟩ := hrel
    clear HX0 HBS0
    obtain ⟨t0, t1, t2, t3, t4⟩ := (HB4.out.grew HGX.out).cells
    obtain ⟨b0, b1, b2, b3, b4⟩ := (HB3.out.grew HGX.out).cells
    have HSUP : Hid (∀ v y z l, BS W0.heap.size y v l → Grew W0 z → y = z → BS w.heap.size z v l) := Lib.hid (fun v y z l h hg e => by
      subst e
      obtain ⟨ws, h1, h2⟩ := h
      exact ⟨ws, DRefE.own_mono h1 HG0.out.size, h2⟩)
    cases gk with
    | zero =>
      have hpl : ¬ (p : Int) < (places : Int) := by omega
      have hX : X = said := by have := HRX.out; rw [rscan] at this; exact this.symm
      subst hX
      have HGE := Lib.hid (HG0.out.trans HGX.out)
      have HBE := Lib.hid (HSUP.out _ _ _ _ HBS.out HGX.out rfl)
      clear HRX HSUP
      go_wp2
      go_ret
      exact ⟨_, rfl, HBE.out, HGE.out⟩
    | succ q =>
      have hpl : (p : Int) < (places : Int) := by omega
      have hpn : p < places := by omega
      have hw1 : IntKind.i64.wrap ((p : Int) + 1) = (p : Int) + 1 := IntWalk.i64_in _ (by have := HSH.out.p2; omega)
      have hrx := HRX.out
      rw [rscan] at hrx
      have HA := Lib.hid (HAT.out p wr hpn (HG0.out.trans HGX.out))
      rcases hra : rat L first base each p with ⟨x, bo⟩
      rw [hra] at hrx HA
      have HRX2 := Lib.hid hrx
      clear hrx hra HRX
      go_wp2_with fail
      refine HA.out.mono ?_
      rintro e w1 ⟨v7, rfl, hr7, hg1⟩
      obtain ⟨A7, c7, rfl, _⟩ := id hr7
      have HR7 := Lib.hid hr7
      have HG1 := Lib.hid (HGX.out.trans hg1)
      have HBS1 := Lib.hid (HBS.out.grew hg1)
      have HNB : Hid (∀ b, wr.heap.size ≤ b → (Value.slice A5 n5 c5).ownBlock ≠ some b) := Lib.hid (fun b hb e => by
        obtain ⟨ws, hown, _⟩ := HBS.out
        rcases hown.2 with ⟨h1, _⟩ | ⟨g, cap, cur, h1, _, hg2, _⟩
        · rw [h1] at e; cases e
        · rw [h1] at e
          simp [Value.ownBlock] at e
          have := (Array.getElem?_eq_some_iff.1 hg2).1
          omega)
      clear hr7 hg1 HBS HGX HA t0 t1 t2 t3 t4 b0 b1 b2 b3 b4
      cases bo with
      | false =>
        have hX : X = said := by have := HRX2.out; rw [if_neg (by decide)] at this; exact this.symm
        subst hX
        have HGE := Lib.hid (HG0.out.trans HG1.out)
        have HBE := Lib.hid (HSUP.out _ _ _ _ HBS1.out HG1.out rfl)
        clear HRX2 HSUP HR7
        go_wp2
        go_ret
        exact ⟨_, rfl, HBE.out, HGE.out⟩
      | true =>
        obtain ⟨A9, c9, W9, hr9, hb9, hg9⟩ := bs_app w1 W0.heap.size (.slice A5 n5 c5) said _ (.slice A7 x.length c7) x HBS1.out rfl HR7.out (fun b hb => HNB.out b hb) (by have := HSL.out; have := HSH.out.p2; omega) HG1.out.size
        have HRX3 : Hid (rscan L first base each q (p + 1) (said ++ [x]) = X) := Lib.hid (by have := HRX2.out; rw [if_pos rfl] at this; exact this)
        have HR9 := Lib.hid hr9
        have HG9 : Hid (Grew W0 W9) := Lib.hid ((show Below W0.heap.size W0 w1 from HG1.out).trans hg9)
        have HSL9 : Hid ((said ++ [x]).length ≤ p + 1) := Lib.hid (by have := HSL.out; simp; omega)
        have HB9 := Lib.hid hb9
        obtain ⟨n9, hn9⟩ : ∃ n9, (said ++ [x]).length = n9 := ⟨_, rfl⟩
        rw [hn9] at HR9
        have HB9' : Hid (BS W0.heap.size W9 (.slice A9 n9 c9) (said ++ [x])) := Lib.hid (by rw [← hn9]; exact HB9.out)
        clear hr9 hb9 hg9 HB9 hn9 HRX2 HBS1 HR7 HNB
        go_wp2_with (at_builtin; refine SSeal.wpList_app' (by rfl) (.tmp 25) (.tmp 27) 57 57 (by with_reducible rfl) _ _ (by rfl) (by rfl) _ W9 (by exact HR9.out) ?_)
        go_roundg q
        case measure => omega
        case rel => exact ⟨p + 1, said ++ [x], A9, n9, c9, by omega, by first | rfl | simp, rfl, HG9, HB9', HRX3, HSL9⟩
end Go.Proofs.Ytbnicphegbdfnaa.RF
namespace Go.Proofs.Ytbnicphegbdfnaa.RG
set_option maxRecDepth 100000
open Go Go.RowKit Go.Proofs.Ytbnicphegbdfnaa Go.Proofs.Ytbnicphegbdfnaa.Facts Go.Proofs.Ytbnicphegbdfnaa.Bytes Go.Proofs.Ytbnicphegbdfnaa.DKeep Go.Proofs.Ytbnicphegbdfnaa.DSmall Go.Proofs.Ytbnicphegbdfnaa.Puts Go.Proofs.Ytbnicphegbdfnaa.Refs Go.Proofs.Ytbnicphegbdfnaa.Scan Go.Proofs.Ytbnicphegbdfnaa.SPure Go.Proofs.Ytbnicphegbdfnaa.SSeal Go.Proofs.Ytbnicphegbdfnaa.JA Go.Proofs.Ytbnicphegbdfnaa.JB Go.Proofs.Ytbnicphegbdfnaa.JC Go.Proofs.Ytbnicphegbdfnaa.JD Go.Proofs.Ytbnicphegbdfnaa.JE Go.Proofs.Ytbnicphegbdfnaa.JF Go.Proofs.Ytbnicphegbdfnaa.DRefA Go.Proofs.Ytbnicphegbdfnaa.DRefB Go.Proofs.Ytbnicphegbdfnaa.DRefC Go.Proofs.Ytbnicphegbdfnaa.DSim Go.Proofs.Ytbnicphegbdfnaa.DRefD Go.Proofs.Ytbnicphegbdfnaa.DLawA Go.Proofs.Ytbnicphegbdfnaa.RA Go.Proofs.Ytbnicphegbdfnaa.RB Go.Proofs.Ytbnicphegbdfnaa.RC Go.Proofs.Ytbnicphegbdfnaa.RE Go.Proofs.Ytbnicphegbdfnaa.RF
/-- Loads are written, m sectors, from the k-th on. -/
def rjw (first base a0 : Nat) (all : List UInt8) : Nat → Nat → Rp → Rp × Int
  | 0, _, r => (r, 0)
  | m + 1, k, r =>
    let q := rwritten r ((first + (a0 + k) : Nat) : Int) (sealed (base + (a0 + k)) ((all.drop (108 * k)).take 108))
    if q.2 = 0 then rjw first base a0 all m (k + 1) q.1 else q
/-- A record is appended. -/
def rjapp (j : Jr) (r : Rp) (b : List UInt8) : Jr × Rp × Int :=
  if 108 * j.each - 4 < b.length then (j, r, 13) else if j.used = j.places then (j, r, 8) else
  let q := rjw j.first j.base (j.used * j.each) (place j.each b) j.each 0 r
  if q.2 = 0 then (if (rflushed q.1).2 = 0 then ({ j with used := j.used + 1 }, (rflushed q.1).1, 0) else (j, (rflushed q.1).1, (rflushed q.1).2)) else (j, q.1, q.2)
theorem sealed_pad (s : Nat) (x : List UInt8) (k : Nat) (h : x.length + k = 108) : sealed s (x ++ zeros k) = sealed s x := by
  have e : body s (x ++ zeros k) = body s x := by
    unfold body
    rw [List.append_assoc]
    congr 2
    rw [List.length_append, zeros_length, h]
    show zeros k ++ zeros (108 - 108) = zeros (108 - x.length)
    rw [show 108 - x.length = k by omega]
    simp [zeros]
  unfold sealed
  rw [e]
theorem chunk (x : List UInt8) (z k : Nat) (h : 108 * (k + 1) ≤ x.length + z) : ((x ++ zeros z).drop (108 * k)).take 108 = (x.drop (108 * k)).take 108 ++ zeros (108 - ((x.drop (108 * k)).take 108).length) := by
  rw [List.drop_append, List.take_append]
  congr 1
  unfold zeros
  rw [List.drop_replicate, List.take_replicate]
  congr 1
  rw [List.length_take, List.length_drop]
  omega
theorem rjw_sim (first base a0 : Nat) (b : List UInt8) (each : Nat) (hb : b.length + 4 ≤ 108 * each) : ∀ (m k : Nat) (d : Pd) (r : Rp), k + m = each → Sim d r →
    (jw first base m (a0 + k) ((recB b).drop (108 * k)) d).2 = (rjw first base a0 (place each b) m k r).2 ∧ Sim (jw first base m (a0 + k) ((recB b).drop (108 * k)) d).1 (rjw first base a0 (place each b) m k r).1
  | 0, k, d, r, _, h => ⟨rfl, h⟩
  | m + 1, k, d, r, hk, h => by
    rw [jw, rjw]
    have hs : sealed (base + (a0 + k)) (((place each b).drop (108 * k)).take 108) = sealed (base + (a0 + k)) (((recB b).drop (108 * k)).take 108) := by
      unfold place
      rw [chunk _ _ _ (by rw [RA.recB_length]; omega)]
      exact sealed_pad _ _ _ (by rw [List.length_take]; omega)
    rw [hs]
    obtain ⟨h1, h2⟩ := h.written ((first + (a0 + k) : Nat) : Int) (sealed (base + (a0 + k)) (((recB b).drop (108 * k)).take 108))
    rw [h1]
    split
    · have := rjw_sim first base a0 b each hb m (k + 1) _ _ (by omega) h2
      rw [List.drop_drop, show 108 * k + 108 = 108 * (k + 1) by omega]
      exact this
    · exact ⟨h1, h2⟩
theorem rjapp_sim (j : Jr) (d : Pd) (r : Rp) (b : List UInt8) (h : Sim d r) : (japp j d b).2.2 = (rjapp j r b).2.2 ∧ (japp j d b).1 = (rjapp j r b).1 ∧ Sim (japp j d b).2.1 (rjapp j r b).2.1 := by
  unfold japp rjapp
  by_cases h1 : 108 * j.each - 4 < b.length
  · rw [if_pos h1, if_pos h1]
    exact ⟨rfl, rfl, h⟩
  rw [if_neg h1, if_neg h1]
  by_cases h2 : j.used = j.places
  · rw [if_pos h2, if_pos h2]
    exact ⟨rfl, rfl, h⟩
  rw [if_neg h2, if_neg h2]
  by_cases h0 : j.each = 0
  · simp only [h0]
    rw [jw, rjw]
    simp only [if_true]
    obtain ⟨q1, q2⟩ := h.flushed
    rw [q1]
    split
    · exact ⟨rfl, rfl, q2⟩
    · exact ⟨rfl, rfl, q2⟩
  obtain ⟨q1, q2⟩ := rjw_sim j.first j.base (j.used * j.each) b j.each (by omega) j.each 0 d r (by omega) h
  rw [Nat.add_zero, Nat.mul_zero, List.drop_zero] at q1 q2
  simp only
  rw [q1]
  split
  · obtain ⟨q3, q4⟩ := q2.flushed
    rw [q3]
    split
    · exact ⟨rfl, rfl, q4⟩
    · exact ⟨rfl, rfl, q4⟩
  · exact ⟨rfl, rfl, q2⟩
theorem size52 : (Try.prog.info? 52).map (·.size) = some 5 := by kernel_rfl
/-- Block b has a shape's cells, or any. -/
def AnyC (w : World) (b t : Nat) : Prop := ∃ C : Array Value, w.heap[b]? = some (.cells C t (0, 0)) ∧ C.size = 5
/-- Two results are handed over: how far that is. -/
structure PQ (w : World) (B3 B4 B6 B7 : Nat) (A1 A2 A3 : Option Addr) (n1 n2 n3 c1 c2 c3 : Nat) (f : Int) (o : Bool) (r : Rp) (first places each base used : Nat) (i : Nat) (y : World) : Prop where
  gr : Grew w y
  fx : FX y B3 (.slice A1 n1 c1) (.slice A2 n2 c2) (.slice A3 n3 c3) (.int .i64 f) (.bool o)
  sx : SX y B4 first places each base used
  six : AnyC y B6 49
  seven : AnyC y B7 52
  six1 : 1 ≤ i → FX y B6 (.slice A1 n1 c1) (.slice A2 n2 c2) (.slice A3 n3 c3) (.int .i64 f) (.bool o)
  seven1 : 2 ≤ i → SX y B7 first places each base used
  rd : RD y (dv A1 A2 A3 n1 n2 n3 c1 c2 c3 f o) r
  lo : w.heap.size ≤ B6 ∧ w.heap.size ≤ B7 ∧ B3 ≠ B6 ∧ B3 ≠ B7 ∧ B4 ≠ B6 ∧ B4 ≠ B7 ∧ B6 ≠ B7
section
variable {w : World} {B3 B4 B6 B7 : Nat} {A1 A2 A3 : Option Addr} {n1 n2 n3 c1 c2 c3 : Nat} {f : Int} {o : Bool} {r : Rp} {first places each base used : Nat} {y : World}
theorem other {y z : World} {b k : Nat} {ob : Obj} (hk : Kept (fun j => j = b) y z) (h : y.heap[k]? = some ob) (hne : k ≠ b) : z.heap[k]? = some ob := (hk.block k (Array.getElem?_eq_some_iff.1 h).1 hne).trans h
theorem PQ.put6 (h : PQ w B3 B4 B6 B7 A1 A2 A3 n1 n2 n3 c1 c2 c3 f o r first places each base used 0 y) : ∃ z, (Instr.storeAt 49 (.pointer (some ⟨B6, 0, none⟩)) (.agg #[.slice A1 n1 c1, .slice A2 n2 c2, .slice A3 n3 c3, .int .i64 f, .bool o])).run Try.prog y = .ok () z ∧ PQ w B3 B4 B6 B7 A1 A2 A3 n1 n2 n3 c1 c2 c3 f o r first places each base used 1 z := by
  obtain ⟨C, hC, hs⟩ := h.six
  obtain ⟨k1, k2, k3, k4, k5, k6, k7⟩ := h.lo
  obtain ⟨C7, hC7, hs7⟩ := h.seven
  have hk : Kept (fun k => k = B6) y (y.setRow B6 (d5 A1 A2 A3 n1 n2 n3 c1 c2 c3 f o).toArray) := ⟨rfl, rfl, rfl, by simp, fun j _ hj => setRow_other y B6 j _ (by omega)⟩
  refine ⟨_, store5 y B6 C hC hs A1 A2 A3 n1 n2 n3 c1 c2 c3 f o, ⟨DAlive.grew_kept h.gr hk (fun j hj => by rw [hj]; exact k1), other hk h.fx k3, other hk h.sx k5, ⟨_, setRow_heap y B6 _ _ _ _ hC, rfl⟩, ⟨C7, other hk hC7 (Ne.symm k7), hs7⟩, fun _ => setRow_heap y B6 _ _ _ _ hC, (fun h2 => by omega), ?_, h.lo⟩⟩
  exact RD.kept h.rd hk (fun k cur e fz hd hh => by
    subst hd
    rw [hC] at hh
    cases hh
    exact ⟨by decide, by decide⟩)
theorem PQ.put7 (h : PQ w B3 B4 B6 B7 A1 A2 A3 n1 n2 n3 c1 c2 c3 f o r first places each base used 1 y) : ∃ z, (Instr.storeAt 52 (.pointer (some ⟨B7, 0, none⟩)) (.agg #[.int .i64 (first : Int), .int .i64 (places : Int), .int .i64 (each : Int), .int .u64 (base : Int), .int .i64 (used : Int)])).run Try.prog y = .ok () z ∧ PQ w B3 B4 B6 B7 A1 A2 A3 n1 n2 n3 c1 c2 c3 f o r first places each base used 2 z := by
  obtain ⟨C, hC, hs⟩ := h.seven
  obtain ⟨k1, k2, k3, k4, k5, k6, k7⟩ := h.lo
  have hst := DArm.run_store_row 52 5 size52 y B7 0 52 C hC [.int .i64 (first : Int), .int .i64 (places : Int), .int .i64 (each : Int), .int .u64 (base : Int), .int .i64 (used : Int)] rfl (by simp [Value.oneCell']) (by omega)
  rw [List.take_zero, List.nil_append, List.drop_of_length_le (by rw [Array.length_toList]; omega), List.append_nil] at hst
  have hk : Kept (fun k => k = B7) y (y.setRow B7 [.int .i64 (first : Int), .int .i64 (places : Int), .int .i64 (each : Int), .int .u64 (base : Int), .int .i64 (used : Int)].toArray) := ⟨rfl, rfl, rfl, by simp, fun j _ hj => setRow_other y B7 j _ (by omega)⟩
  refine ⟨_, hst, ⟨DAlive.grew_kept h.gr hk (fun j hj => by rw [hj]; exact k2), other hk h.fx k4, other hk h.sx k6, ?_, ⟨_, setRow_heap y B7 _ _ _ _ hC, rfl⟩, fun _ => other hk (h.six1 (by omega)) k7, fun _ => setRow_heap y B7 _ _ _ _ hC, ?_, h.lo⟩⟩
  · obtain ⟨C6, hC6, hs6⟩ := h.six
    exact ⟨C6, other hk hC6 k7, hs6⟩
  · exact RD.kept h.rd hk (fun k cur e fz hd hh => by
      subst hd
      rw [hC] at hh
      cases hh
      exact ⟨by decide, by decide⟩)
end
end Go.Proofs.Ytbnicphegbdfnaa.RG
