/-
  What wraps, by the program and by the document.
  Conditions: those that each lemma names.
-/
import Derived.Test.YthgigkklefaeeaaFP
import Derived.BigFrame
namespace Go.Proofs.Ythgigkklefaeeaa.FW
set_option maxRecDepth 100000
set_option maxRecDepth 100000
open Go Go.RowKit Go.Lib Go.Proofs.Ythgigkklefaeeaa Go.Proofs.Ythgigkklefaeeaa.Facts Go.Proofs.Ythgigkklefaeeaa.Bytes Go.Proofs.Ythgigkklefaeeaa.Puts Go.Proofs.Ythgigkklefaeeaa.Scan Go.Proofs.Ythgigkklefaeeaa.Take Go.Proofs.Ythgigkklefaeeaa.Nums Go.Proofs.Ythgigkklefaeeaa.SumPure Go.Proofs.Ythgigkklefaeeaa.Sum Go.Proofs.Ythgigkklefaeeaa.FP

theorem within_any (most : Int) (w : World) : Calls Try.prog 46 #[.int .i64 most] w fun e w' => e = .returned (.int .i64 (lim most : Int)) ∧ w = w' := by
  have h : ((lim most : Nat) : Int) = max 0 (min most 255) := by unfold lim; omega
  rw [h]
  go_enter Try.func46, Try.ntmps46
  go_wp2
  all_goals
    go_ret
    exact ⟨ret_int (by omega), rfl⟩
theorem within_eq (most : Int) (k : Nat) (h : Hid (lim most = k)) (w : World) : Calls Try.prog 46 #[.int .i64 most] w fun e w' => e = .returned (.int .i64 (k : Int)) ∧ w = w' := by
  have := within_any most w
  rwa [h.out] at this
theorem limit_any (most : Int) (w : World) : Calls Try.prog 49 #[.int .i64 most] w fun e w' => e = .returned (.int .i64 (lim most : Int)) ∧ w = w' := by
  have h : ((lim most : Nat) : Int) = max 0 (min most 255) := by unfold lim; omega
  rw [h]
  go_enter Try.func49, Try.ntmps49
  go_wp2
  all_goals
    go_ret
    exact ⟨ret_int (by omega), rfl⟩
theorem limit_eq (most : Int) (k : Nat) (h : Hid (lim most = k)) (w : World) : Calls Try.prog 49 #[.int .i64 most] w fun e w' => e = .returned (.int .i64 (k : Int)) ∧ w = w' := by
  have := limit_any most w
  rwa [h.out] at this

theorem from_any (S : Nat → Prop) (v : Value) (l : List UInt8) (w : World) (h : Rd S w v l) (hl : l.length ≤ 140737488355328) :
    Calls Try.prog 22 #[v] w fun e w' => ∃ g, e = .returned (.pointer (some ⟨g, 0, none⟩)) ∧ w.heap.size ≤ g ∧ SC w' w.heap.size w'.heap.size (.pointer (some ⟨g, 0, none⟩)) ⟨l, 0⟩ ∧ Grew w w' := by
  have H := Lib.hid h
  clear h
  go_enter Try.func22, Try.ntmps22
  go_wp2_with fail
  refine (clone_any S v l _ H.out hl).mono ?_
  rintro e w1 ⟨v1, rfl, hr, hg⟩
  obtain ⟨A, c, rfl, q⟩ := id hr
  have HR := Lib.hid hr
  have HG := Lib.hid hg
  clear hr hg q
  go_wp2
  go_ret
  refine ⟨w1.heap.size, rfl, HG.out.size, .inl ⟨_, rfl, HG.out.size, by simp, Nat.le_refl _, _, heap_alloc_new _ _, ?_⟩, HG.out.trans ((Below.refl _ _).alloc (Nat.le_refl _) _)⟩
  refine (HR.out.lt.grew ((Below.refl _ _).alloc (Nat.le_refl _) _)).mono fun b hb => ⟨hb.1, ?_, by omega⟩
  have := hb.2
  simp
  omega
theorem grew_chg {w a b : World} {g : Nat} (h : Grew w a) (k : Chg (.pointer (some ⟨g, 0, none⟩)) a b) (hg : w.heap.size ≤ g) : Grew w b :=
  Below.grown h k h.size fun x hx => by cases hx; exact hg

theorem width2 : width 2 = 2 := by decide
theorem num2 (S : Nat → Prop) (v : Value) (l : List UInt8) (n : Nat) (w : World) (h : Rd S w v l) (hl : l.length + 8 ≤ 140737488355328) :
    Calls Try.prog 34 #[v, .int .u64 n, .int .i64 2] w fun e w' => ∃ v', e = .returned v' ∧ w'.ownsRow w.heap.size 5 1 v' (l ++ be 2 n).length (bv (l ++ be 2 n)) ∧ Grew w w' := by
  have := Puts.num_any S v l n 2 w h hl
  rw [width2] at this
  rw [List.length_append, be_length]
  exact this
theorem u64_sh (n : Nat) (h : n < 65536) : IntKind.u64.wrap (n : Int) = (n : Int) := IntWalk.u64_in _ (by omega)

set_option maxHeartbeats 2000000 in
theorem wrap_any (S : Nat → Prop) (v : Value) (b : List UInt8) (most : Int) (w : World) (h : Rd S w v b) :
    Calls Try.prog 30 #[v, .int .i64 most] w fun e w' => ∃ v', e = .returned (.tuple #[v', .int .i64 (wrapP b most).2]) ∧ Rd (fun k => w.heap.size ≤ k) w' v' (wrapP b most).1 ∧ Grew w w' := by
  obtain ⟨A, c, rfl, _⟩ := id h
  have HR := Lib.hid h
  have hk := lim_le most
  obtain ⟨k, hlk⟩ : ∃ k, lim most = k := ⟨_, rfl⟩
  rw [hlk] at hk
  have HK := Lib.hid hlk
  unfold wrapP
  rw [hlk]
  clear h hlk
  by_cases hl : k < b.length
  · have hgt : (k : Int) < (b.length : Int) := by omega
    rw [if_pos hl]
    go_enter Try.func30, Try.ntmps30
    go_wp2_with (go_at_call 46; refine (within_eq most k HK _).mono ?_; rintro e w' ⟨rfl, rfl⟩)
    go_returns
    exact ⟨_, rfl, Rd.nil _ _, Grew.refl _⟩
  · have hgt : ¬ (k : Int) < (b.length : Int) := by omega
    rw [if_neg hl]
    have hb : b.length ≤ 255 := by omega
    have HH := Lib.hid (hd_tx b hb)
    have HF : Hid (hd b ++ be 2 (sh (hd b)) = fr b) := Lib.hid rfl
    have HL := Lib.hid hb
    obtain ⟨n, hn⟩ : ∃ n, sh (hd b) = n := ⟨_, rfl⟩
    have HN : Hid (short (sumOf (hd b)) = (n : Int)) := Lib.hid (by rw [sh_eq, hn])
    have HU := Lib.hid (u64_sh n (by rw [← hn]; exact sh_lt _))
    rw [hn] at HF
    have HC := Lib.hid (fun W (hg : Grew w W) => conv22 (HR.out.grew hg))
    have hc := HC.out w (Grew.refl _)
    clear hl hn
    go_enter Try.func30, Try.ntmps30
    go_wp2_with (go_at_call 46; refine (within_eq most k HK _).mono ?_; rintro e w' ⟨rfl, rfl⟩)
    refine (text_any (fun _ => True) _ [] ⟨b.toArray⟩ w (Rd.nil _ _) (by simp) (by have := HL.out; unfold maxLen; show b.toArray.size ≤ _; simp; omega)).mono ?_
    rintro e w1 ⟨v1, rfl, o1, g1⟩
    rw [List.length_nil, Nat.zero_add, List.nil_append, HH.out] at o1
    have r1 := Rd.of_own o1 rfl
    have R1 := Lib.hid r1
    have G1 := Lib.hid g1
    obtain ⟨A1, c1, rfl, _⟩ := id r1
    clear o1 r1 g1 hc
    go_wp2_with fail
    refine (short_any _ _ (hd b) w1 R1.out).mono ?_
    rintro e w2 ⟨rfl, g2⟩
    rw [HN.out]
    have G2 := Lib.hid (G1.out.trans g2)
    have R2 := Lib.hid (R1.out.grew g2)
    have hu := HU.out
    clear g2
    go_wp2_with fail
    refine (num2 _ _ (hd b) n w2 R2.out (by have := HL.out; rw [hd_length]; omega)).mono ?_
    rintro e w3 ⟨v3, rfl, o3, g3⟩
    rw [HF.out] at o3
    go_wp2
    go_returns
    exact ⟨_, rfl, (Rd.of_own o3 rfl).mono fun q hq => Nat.le_trans G2.out.size hq.1, G2.out.trans g3⟩
end Go.Proofs.Ythgigkklefaeeaa.FW
