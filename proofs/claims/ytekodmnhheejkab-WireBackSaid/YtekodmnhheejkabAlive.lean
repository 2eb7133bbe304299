/-
  The fixed calls that each law of this layer ends with come to true.
  Conditions: none.
-/
import Derived.Test.YtekodmnhheejkabRnums
namespace Go.Proofs.Ytekodmnhheejkab.Alive
open Go Go.RowKit Go.Proofs.Ytekodmnhheejkab Go.Proofs.Ytekodmnhheejkab.Facts Go.Proofs.Ytekodmnhheejkab.Bytes Go.Proofs.Ytekodmnhheejkab.Puts Go.Proofs.Ytekodmnhheejkab.Refs Go.Proofs.Ytekodmnhheejkab.Scan Go.Proofs.Ytekodmnhheejkab.Take Go.Proofs.Ytekodmnhheejkab.Nums Go.Proofs.Ytekodmnhheejkab.Rscan

theorem from_any (S : Nat → Prop) (v : Value) (l : List UInt8) (w : World) (h : Rd S w v l) (hl : l.length ≤ 140737488355328) :
    Calls Try.prog 11 #[v] w fun e w' => ∃ g, e = .returned (ptr g) ∧ SC w' w.heap.size w'.heap.size (ptr g) ⟨l, 0⟩ ∧ Grew w w' := by
  have H := Lib.hid h
  clear h
  go_enter Try.func11, Try.ntmps11
  go_wp2_with fail
  refine (clone_any S v l _ H.out hl).mono ?_
  rintro e w1 ⟨v1, rfl, hr, hg⟩
  obtain ⟨A, c, rfl, q⟩ := id hr
  have HR := Lib.hid hr
  have HG := Lib.hid hg
  clear hr hg q
  go_wp2
  go_ret
  refine ⟨w1.heap.size, rfl, .inl ⟨_, rfl, HG.out.size, by simp, Nat.le_refl _, _, heap_alloc_new _ _, ?_⟩, HG.out.trans ((Below.refl _ _).alloc (Nat.le_refl _) _)⟩
  refine (HR.out.lt.grew ((Below.refl _ _).alloc (Nat.le_refl _) _)).mono fun b hb => ⟨hb.1, ?_, by omega⟩
  have := hb.2
  simp
  omega

theorem grew_chg {w a b : World} {g : Nat} (h : Grew w a) (k : Chg (ptr g) a b) (hg : w.heap.size ≤ g) : Grew w b :=
  Below.grown h k h.size fun x hx => by cases hx; exact hg

theorem num258 (w : World) : Calls Try.prog 6 #[.slice none 0 0, .int .u64 258, .int .i64 2] w fun e w' => ∃ v', e = .returned v' ∧ Rd (fun b => w.heap.size ≤ b ∧ b < w'.heap.size) w' v' [1, 2] ∧ Grew w w' := by
  have h := Puts.num_any (fun _ => True) (.slice none 0 0) [] 258 2 w (Rd.nil _ _) (by simp)
  refine Calls.mono (show Calls Try.prog 6 #[.slice none 0 0, .int .u64 258, .int .i64 2] w _ from h) fun e w' ⟨v', he, ho, hg⟩ => ⟨v', he, ?_, hg⟩
  have e1 : ([] : List UInt8) ++ be (width 2) 258 = [1, 2] := by decide
  rw [e1] at ho
  exact Rd.of_own ho (by decide)

theorem text_ab (S : Nat → Prop) (v : Value) (w : World) (h : Hid (Rd S w v [1, 2])) : Calls Try.prog 7 #[v, .string ⟨#[97, 98]⟩] w fun e w' => ∃ v', e = .returned v' ∧ Rd (fun b => w.heap.size ≤ b ∧ b < w'.heap.size) w' v' [1, 2, 2, 97, 98] ∧ Grew w w' := by
  have h := Puts.text_any S v [1, 2] ⟨#[97, 98]⟩ w h.out (by simp) (by decide)
  refine h.mono fun e w' ⟨v', he, ho, hg⟩ => ⟨v', he, ?_, hg⟩
  have e1 : [1, 2] ++ tx (⟨#[97, 98]⟩ : ByteArray).data.toList = [1, 2, 2, 97, 98] := by decide
  rw [e1] at ho
  exact Rd.of_own ho (by decide)

theorem text_eq (w : World) (lo hi : Nat) (p : Value) (s : Sc) (most : Int) (t : List UInt8) (s1 : Sc) (h : Hid (SC w lo hi p s)) (hs : Hid (s.text most = (t, s1))) :
    Calls Try.prog 14 #[p, .int .i64 most] w fun e w' => e = .returned (.string ⟨t.toArray⟩) ∧ SC w' lo hi p s1 ∧ Chg p w w' := by
  have := text_any w lo hi p s most h.out
  rwa [hs.out] at this
theorem end_eq (w : World) (lo hi : Nat) (p : Value) (s : Sc) (x : Int) (h : Hid (SC w lo hi p s)) (hx : Hid (s.fin = x)) : Calls Try.prog 23 #[p] w fun e w' => e = .returned (.int .i64 x) ∧ w = w' := by
  have := end_any w lo hi p s h.out
  rwa [hx.out] at this

theorem far_sc {w w' : World} {lo hi d : Nat} {p : Value} {s : Sc} (h : SC w lo hi p s) (k : Chg (ptr d) w w') (hd : hi ≤ d) : SC w' lo hi p s := by
  rcases h with ⟨g, rfl, h⟩ | ⟨rfl | ⟨g, v, x, rfl, h1, h2, h3, hgg⟩, rfl⟩
  · exact .inl ⟨g, rfl, h.keep k.size fun b _ hb => k.block b (Nat.lt_of_lt_of_le hb h.2.2.1) (fun e => by have e' : b = d := (by simpa [ptr, blk] using e); omega)⟩
  · exact .inr ⟨.inl rfl, rfl⟩
  · exact .inr ⟨.inr ⟨g, v, x, rfl, h1, h2, Nat.le_trans h3 k.size, (k.block g (Nat.lt_of_lt_of_le h2 h3) (fun e => by have e' : g = d := (by simpa [ptr, blk] using e); omega)).trans hgg⟩, rfl⟩
theorem far_rd {S : Nat → Prop} {w w' : World} {d : Nat} {v : Value} {l : List UInt8} (h : Rd S w v l) (k : Chg (ptr d) w w') (hd : ∀ b, S b → b ≠ d) : Rd S w' v l :=
  h.keep fun b hb hs => k.block b hb (fun e => hd b hs (by cases e; rfl))
theorem chg_none {a b : World} (h : Chg (.pointer none) a b) : Grew a b := ⟨h.os, h.tape, h.output, h.size, fun k hk => h.block k hk (by simp [blk])⟩
theorem none_sc (w : World) : SC w 0 0 (.pointer none) ⟨[], 11⟩ := .inr ⟨.inl rfl, rfl⟩

theorem alive_any (w : World) : Calls Try.prog 8 #[] w fun e w' => e = .returned (.bool true) ∧ Grew w w' := by
  go_enter Try.func8, Try.ntmps8
  go_wp2_with fail
  refine (num258 _).mono ?_
  rintro e w1 ⟨v1, rfl, hr1, hg1⟩
  have R1 := Lib.hid hr1
  have G1 := Lib.hid hg1
  clear hr1 hg1
  go_wp2_with fail
  refine (text_ab _ v1 _ R1).mono ?_
  rintro e w2 ⟨b, rfl, hr2, hg2⟩
  have R2 := Lib.hid hr2
  have G2 := Lib.hid (G1.out.trans hg2)
  clear hr2 hg2
  go_wp2_with fail
  refine (from_any _ b _ _ R2.out (by simp)).mono ?_
  rintro e w3 ⟨c, rfl, hs3, hg3⟩
  have z3 : w2.heap.size ≤ c := (hs3.size).1
  have S3 := Lib.hid hs3
  have G3 := Lib.hid (G2.out.trans hg3)
  have R3 := Lib.hid (R2.out.lt.grew hg3)
  have Z3 := Lib.hid (Nat.le_trans G2.out.size z3)
  have Z3' := Lib.hid z3
  clear hs3 hg3 z3
  go_wp2_with fail
  refine (num_eq _ _ _ _ _ 2 258 ⟨[2, 97, 98], 0⟩ S3 (by show _ = _; rfl)).mono ?_
  rintro e w4 ⟨rfl, hs4, hc4⟩
  have S4 := Lib.hid hs4
  have C4 := Lib.hid hc4
  clear hs4 hc4
  go_wp2_with fail
  refine (text_eq _ _ _ _ _ 2 [97, 98] ⟨[], 0⟩ S4 (by show _ = _; rfl)).mono ?_
  rintro e w5 ⟨rfl, hs5, hc5⟩
  have hcc := C4.out.trans hc5
  have S5 := Lib.hid hs5
  have G5 := Lib.hid (grew_chg G3.out hcc Z3.out)
  have R5 := Lib.hid (far_rd R3.out hcc (fun x hx => by have h1 := hx.2; have h2 := Z3'.out; omega))
  clear hs5 hc5 hcc
  have hW : Hid (∀ W, W = (w5.alloc (.cells #[.slice none 0 0, .int .i64 0, .bool false] 50)).alloc (.cells #[.int .u8 3, .int .u8 97] 5) →
      Grew w5 W ∧ SC W w5.heap.size (w5.heap.size + 1) (.pointer (some ⟨w5.heap.size, 0, none⟩)) ⟨[], 11⟩ ∧ Rd (fun _ => True) W (.slice (some ⟨w5.heap.size + 1, 0, none⟩) 2 2) [3, 97] ∧ W.heap.size = w5.heap.size + 1 + 1) := by
    rintro W rfl
    refine ⟨((Below.refl _ w5).alloc (Nat.le_refl _) _).alloc (by simp) _, .inr ⟨.inr ⟨_, .slice none 0 0, .int .i64 0, rfl, Nat.le_refl _, Nat.lt_succ_self _, by simp, ?_⟩, rfl⟩, ?_, by simp⟩
    · rw [Below.heap_alloc _ _ _ (by simp)]
      exact heap_alloc_new _ _
    · refine ⟨_, 2, rfl, Nat.le_refl _, by unfold maxLen; omega, (fun h => by cases h), fun ad ha => ?_⟩
      cases ha
      refine ⟨fun _ => trivial, ?_⟩
      have hb : ((w5.alloc (.cells #[.slice none 0 0, .int .i64 0, .bool false] 50)).alloc (.cells #[.int .u8 3, .int .u8 97] 5)).heap[w5.heap.size + 1]? = some (.cells #[.int .u8 3, .int .u8 97] 5 (0, 0)) := by
        have := heap_alloc_new (w5.alloc (.cells #[.slice none 0 0, .int .i64 0, .bool false] 50)) (.cells #[.int .u8 3, .int .u8 97] 5)
        simpa using this
      exact World.news_of_block hb
  go_wp2_with fail
  obtain ⟨g6, d6, r6, e6⟩ := hW.out _ rfl
  refine (from_any _ _ [3, 97] _ r6 (by simp)).mono ?_
  rintro e w6 ⟨d, rfl, hs6, hg6⟩
  have z6 : w5.heap.size + 1 + 1 ≤ d := by have := (hs6.size).1; rw [e6] at this; exact this
  have S6 := Lib.hid hs6
  have G6 := Lib.hid (G5.out.trans (g6.trans hg6))
  have R6 := Lib.hid (R5.out.lt.grew (g6.trans hg6))
  have D6 := Lib.hid (d6.grew hg6)
  have C6 := Lib.hid (S5.out.grew (g6.trans hg6))
  have Z6 := Lib.hid z6
  have Z5 := Lib.hid G5.out.size
  have L3 := Lib.hid (S5.out.size).2.2
  clear hs6 hg6 z6 g6 d6 r6 e6 hW
  go_wp2_with fail
  refine (text_eq _ _ _ _ _ 2 [] ⟨[97], 2⟩ S6 (by show _ = _; rfl)).mono ?_
  rintro e w7 ⟨rfl, hs7, hc7⟩
  have S7 := Lib.hid hs7
  have G7 := Lib.hid (grew_chg G6.out hc7 (by have := Z6.out; have := Z5.out; omega))
  have D7 := Lib.hid (far_sc D6.out hc7 (by have := Z6.out; omega))
  have C7 := Lib.hid (far_sc C6.out hc7 (by have := Z6.out; have := L3.out; omega))
  have hcv := conv22 (far_rd R6.out hc7 (fun x hx => by have := hx.2; have := Z6.out; omega))
  clear hs7 hc7
  go_wp2_with fail
  refine (end_eq _ _ _ _ _ 0 C7 (by show _ = _; rfl)).mono ?_
  rintro e w' ⟨rfl, rfl⟩
  go_wp2_with fail
  refine (fault_eq _ _ _ _ _ 11 (Lib.hid (none_sc _)) rfl).mono ?_
  rintro e w' ⟨rfl, rfl⟩
  go_wp2_with fail
  refine (end_eq _ _ _ _ _ 11 D7 (by show _ = _; rfl)).mono ?_
  rintro e w' ⟨rfl, rfl⟩
  go_wp2_with fail
  refine (num_eq _ _ _ _ _ 1 0 ⟨[], 11⟩ (Lib.hid (none_sc _)) (by show _ = _; rfl)).mono ?_
  rintro e w8 ⟨rfl, _, hc8⟩
  have S8 := Lib.hid (S7.out.grew (chg_none hc8))
  have G8 := Lib.hid (G7.out.trans (chg_none hc8))
  clear hc8
  go_wp2_with fail
  refine (fault_eq _ _ _ _ _ 2 S8 rfl).mono ?_
  rintro e w' ⟨rfl, rfl⟩
  go_wp2_with fail
  refine (takeN_any _ 0 0 _ ⟨[], 11⟩ 1 (none_sc _) (by omega) (by simp)).mono ?_
  rintro e w9 ⟨v9, rfl, ⟨A9, c9, rfl, _⟩, _, hc9⟩
  have G9 := Lib.hid (G8.out.trans (chg_none hc9))
  clear hc9
  go_wp2
  go_ret
  exact ⟨rfl, G9.out⟩
end Go.Proofs.Ytekodmnhheejkab.Alive
