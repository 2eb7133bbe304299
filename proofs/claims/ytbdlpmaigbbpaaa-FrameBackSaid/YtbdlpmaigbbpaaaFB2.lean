/-
  Bytes, ends and what was kept, beside each other: one more is put.
  Conditions: those that each lemma names.
-/
import Derived.Test.YtbdlpmaigbbpaaaFB1
namespace Go.Proofs.Ytbdlpmaigbbpaaa.FB2
set_option maxRecDepth 100000
open Go Go.RowKit Go.Lib Go.Proofs.Ytbdlpmaigbbpaaa Go.Proofs.Ytbdlpmaigbbpaaa.Facts Go.Proofs.Ytbdlpmaigbbpaaa.Bytes Go.Proofs.Ytbdlpmaigbbpaaa.Puts Go.Proofs.Ytbdlpmaigbbpaaa.Scan Go.Proofs.Ytbdlpmaigbbpaaa.Take Go.Proofs.Ytbdlpmaigbbpaaa.Nums Go.Proofs.Ytbdlpmaigbbpaaa.SumPure Go.Proofs.Ytbdlpmaigbbpaaa.Sum Go.Proofs.Ytbdlpmaigbbpaaa.FP Go.Proofs.Ytbdlpmaigbbpaaa.FW Go.Proofs.Ytbdlpmaigbbpaaa.FX Go.Proofs.Ytbdlpmaigbbpaaa.FT Go.Proofs.Ytbdlpmaigbbpaaa.FU Go.Proofs.Ytbdlpmaigbbpaaa.FS Go.Proofs.Ytbdlpmaigbbpaaa.FV Go.Proofs.Ytbdlpmaigbbpaaa.FV2 Go.Proofs.Ytbdlpmaigbbpaaa.FA Go.Proofs.Ytbdlpmaigbbpaaa.FK Go.Proofs.Ytbdlpmaigbbpaaa.FB1

/-- Rows of bytes that came in. -/
def LB (w : World) (A : Option Addr) (c : Nat) (L : List (List UInt8)) : Prop := L.length ≤ c ∧ c ≤ 9223372036854775807 ∧ (A = none → c = 0) ∧ ∀ ad, A = some ad → ∀ (i : Nat) (x : List UInt8), L[i]? = some x → ∃ vB, w.cell? (ad.add i) = some vB ∧ Rd (fun b => b < w.heap.size) w vB x
structure Z (n0 : Nat) (K : List (List UInt8)) (A5 : Option Addr) (n5 c5 : Nat) (A6 : Option Addr) (n6 c6 : Nat) (A7 : Option Addr) (n7 c7 : Nat) (y : World) : Prop where
  o5 : y.ownsRow n0 5 1 (.slice A5 n5 c5) (cat K).length (bv (cat K))
  o6 : y.ownsRow n0 3 1 (.slice A6 n6 c6) (ends K).length (iv (ends K))
  o7 : SL n0 n0 y (.slice A7 n7 c7) K
  e5 : n5 = (cat K).length
  e6 : n6 = K.length
  e7 : n7 = K.length
theorem Z.nil (n0 : Nat) (y : World) : Z n0 [] none 0 0 none 0 0 none 0 0 y := ⟨World.ownsRow_nil _ _ _ _, World.ownsRow_nil _ _ _ _, SL.nil _ _ _, rfl, rfl, rfl⟩
theorem Z.grew {n0 : Nat} {K : List (List UInt8)} {A5 A6 A7 : Option Addr} {n5 c5 n6 c6 n7 c7 : Nat} {y z : World} (h : Z n0 K A5 n5 c5 A6 n6 c6 A7 n7 c7 y) (hg : Grew y z) : Z n0 K A5 n5 c5 A6 n6 c6 A7 n7 c7 z :=
  ⟨own_grew h.o5 hg, own_grew h.o6 hg, h.o7.grew hg, h.e5, h.e6, h.e7⟩
theorem base_of {y : World} {n0 e m n : Nat} {v : Value} {xs : List Value} (h : y.ownsRow n0 e m v n xs) : ∀ k, v.ownBlock = some k → n0 ≤ k := fun k hk => (h.lt k hk).1
theorem Z.push {n0 : Nat} {K : List (List UInt8)} {A5 A6 A7 : Option Addr} {n5 c5 n6 c6 n7 c7 : Nat} {y : World} (h : Z n0 K A5 n5 c5 A6 n6 c6 A7 n7 c7 y) (hn0 : n0 ≤ y.heap.size) (x : List UInt8) (A1 : Option Addr) (c1 : Nat) (S : Nat → Prop) (hR : Rd S y (.slice A1 (fr x).length c1) (fr x)) (vB : Value) (hB : Rd (fun b => b < n0) y vB x) (hK : K.length ≤ 20) (hf : ∀ z ∈ K, z.length ≤ 255) (hx : x.length ≤ 255) :
    ∃ A5' n5' c5' A6' n6' c6' A7' n7' c7' w2 w3 w4, (Builtin.append_ #[22, 22] 22 #[.slice A5 n5 c5, .slice A1 (fr x).length c1]).run Try.prog y = .ok (.slice A5' n5' c5') w2 ∧
      (Builtin.append_ #[34, 34] 34 #[.slice A6 n6 c6, .slice (some ⟨w2.heap.size, 0, none⟩) 1 1]).run Try.prog (w2.alloc (.cells #[.int .i64 (n5' : Int)] 3)) = .ok (.slice A6' n6' c6') w3 ∧
      (Builtin.append_ #[28, 28] 28 #[.slice A7 n7 c7, .slice (some ⟨w3.heap.size, 0, none⟩) 1 1]).run Try.prog (w3.alloc (.cells #[vB] 22)) = .ok (.slice A7' n7' c7') w4 ∧
      Z n0 (K ++ [x]) A5' n5' c5' A6' n6' c6' A7' n7' c7' w4 ∧ Below n0 y w3 ∧ Below n0 y w4 := by
  have hcl := cat_len K hf
  obtain ⟨v5, w2, r5, o5, b5, g5⟩ := run_app2 y n0 (.slice A5 n5 c5) A1 c1 (cat K) (fr x) S h.o5 hR (by rw [fr_length]; omega) hn0
  have hcat : cat (K ++ [x]) = cat K ++ fr x := by rw [cat_app, cat_one]
  rw [← hcat] at o5
  obtain ⟨A5', c5', rfl⟩ := own_some o5
  have hlow : ∀ k, (Value.slice A5 n5 c5).ownBlock = some k → n0 ≤ k := base_of h.o5
  have p6 : w2.ownsRow n0 3 1 (.slice A6 n6 c6) (ends K).length (iv (ends K)) := own_kept h.o6 g5 fun k hk e => own_apart h.o5 h.o6 (by decide) k e hk
  have p7 : SL n0 n0 w2 (.slice A7 n7 c7) K := sl_kept h.o7 g5 (fun k hk e => by obtain ⟨ws, q, _⟩ := h.o7; exact own_apart h.o5 q (by decide) k e hk) hlow
  have s2 : n0 ≤ w2.heap.size := Nat.le_trans hn0 b5.size
  obtain ⟨A6', c6', w3, r6, o6, g6⟩ := run_int w2 n0 (.slice A6 n6 c6) (ends K) (cat (K ++ [x])).length p6 (by rw [ends_length]; omega) s2
  have ga : Grew w2 (w2.alloc (.cells #[.int .i64 ((cat (K ++ [x])).length : Int)] 3)) := (Below.refl _ _).alloc (Nat.le_refl _) _
  have hlow6 : ∀ k, (Value.slice A6 n6 c6).ownBlock = some k → n0 ≤ k := base_of p6
  rw [← ends_app] at o6 r6
  have q5 := own_kept (own_grew o5 ga) g6 fun k hk e => own_apart (own_grew p6 ga) (own_grew o5 ga) (by decide) k e hk
  have q7 : SL n0 n0 w3 (.slice A7 n7 c7) K := sl_kept (p7.grew ga) g6 (fun k hk e => by obtain ⟨ws, q, _⟩ := p7.grew ga; exact own_apart (own_grew p6 ga) q (by decide) k e hk) hlow6
  have b3 : Below n0 y w3 := (b5.alloc s2 _).trans (below_of_grown _ g6 (Nat.le_trans s2 ga.size) hlow6)
  have hB3 : Rd (fun b => b < n0) w3 vB x := hB.keep fun b _ hb => b3.block b hb
  have s3 : n0 ≤ w3.heap.size := Nat.le_trans hn0 b3.size
  obtain ⟨A7', c7', w4, r7, o7, g7, _⟩ := sl_run n0 w3 n0 (.slice A7 n7 c7) vB K x q7 (Nat.le_refl _) hB3 s3 (by omega)
  have gc : Grew w3 (w3.alloc (.cells #[vB] 22)) := (Below.refl _ _).alloc (Nat.le_refl _) _
  have hlow7 : ∀ k, (Value.slice A7 n7 c7).ownBlock = some k → n0 ≤ k := fun k hk => (q7.own k hk).1
  have t5 := own_kept (own_grew q5 gc) g7 fun k hk e => by obtain ⟨ws, q, _⟩ := q7.grew gc; exact own_apart q (own_grew q5 gc) (by decide) k e hk
  have t6 := own_kept (own_grew o6 gc) g7 fun k hk e => by obtain ⟨ws, q, _⟩ := q7.grew gc; exact own_apart q (own_grew o6 gc) (by decide) k e hk
  have b4 : Below n0 y w4 := (b3.alloc s3 _).trans (below_of_grown _ g7 (Nat.le_trans s3 gc.size) hlow7)
  have e6 : (ends (K ++ [x])).length = (K ++ [x]).length := ends_length _
  rw [hcat] at r6
  rw [hcat] at t5
  refine ⟨A5', _, c5', A6', _, c6', A7', _, c7', w2, w3, w4, r5, by rw [hcat] at *; exact r6, r7, ⟨by rw [hcat]; exact t5, t6, o7, by rw [hcat], e6, rfl⟩, b3, b4⟩
end Go.Proofs.Ytbdlpmaigbbpaaa.FB2
