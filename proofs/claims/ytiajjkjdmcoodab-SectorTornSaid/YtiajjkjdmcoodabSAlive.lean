/-
  What must come of fixed calls of sectors: it does.
  Conditions: none.
-/
import Derived.Test.YtiajjkjdmcoodabSOpen2
import Derived.Lib.SlBytesConst
namespace Go.Proofs.Ytiajjkjdmcoodab.SAlive
set_option maxRecDepth 100000
open Go Go.RowKit Go.Proofs.Ytiajjkjdmcoodab Go.Proofs.Ytiajjkjdmcoodab.Facts Go.Proofs.Ytiajjkjdmcoodab.Bytes Go.Proofs.Ytiajjkjdmcoodab.Puts Go.Proofs.Ytiajjkjdmcoodab.SumPure Go.Proofs.Ytiajjkjdmcoodab.Sum Go.Proofs.Ytiajjkjdmcoodab.SPure Go.Proofs.Ytiajjkjdmcoodab.SSeal Go.Proofs.Ytiajjkjdmcoodab.SOpen Go.Proofs.Ytiajjkjdmcoodab.SOpen2

theorem seal_eq (S : Nat → Prop) (v : Value) (load : List UInt8) (s : Nat) (x : List UInt8) (y : Int) (w : World) (h : Rd S w v load) (hq : sealing s load = (x, y)) :
    Calls Try.prog 7 #[.int .u64 s, v] w fun e w' => ∃ v', e = .returned (.tuple #[v', .int .i64 y]) ∧ Rd (fun b => w.heap.size ≤ b) w' v' x ∧ Grew w w' := by
  have := seal_any S v load s w h
  rwa [hq] at this
theorem open_eq (S : Nat → Prop) (v : Value) (l : List UInt8) (n : Nat) (x : List UInt8) (y : Int) (w : World) (h : Rd S w v l) (hq : opened l = (n, x, y)) :
    Calls Try.prog 9 #[v] w fun e w' => ∃ v', e = .returned (.tuple #[.int .u64 (n : Int), v', .int .i64 y]) ∧ Rd (fun b => w.heap.size ≤ b) w' v' x ∧ Grew w w' := by
  have := open_any S v l w h
  rwa [hq] at this

theorem lit_rd (w : World) (l : List UInt8) (fr : Nat × Nat) (hl : l.length ≤ maxLen) : Rd (fun _ => True) (w.alloc (.cells (bv l).toArray 5 fr)) (.slice (some ⟨w.heap.size, 0, none⟩) l.length l.length) l := by
  refine ⟨some ⟨w.heap.size, 0, none⟩, l.length, rfl, Nat.le_refl _, hl, (fun h => by cases h), fun ad ha => ⟨fun _ => trivial, fun j u hu => ?_⟩⟩
  cases ha
  have e : (Addr.add ⟨w.heap.size, 0, none⟩ j) = ⟨w.heap.size, j, none⟩ := by
    unfold Addr.add
    split
    · rename_i h; subst h; rfl
    · simp
  rw [e, World.cell?_alloc_mark]
  simpa using hu
theorem made_rd (w : World) (n : Nat) (hn : n ≤ maxLen) : Rd (fun _ => True) (w.alloc (.cells (madeCells #[.int .u8 0] n) 5)) (.slice (some ⟨w.heap.size, 0, none⟩) n n) (zeros n) := by
  rw [Refs.made_cells]
  have := lit_rd w (zeros n) (0, 0) (by rw [zeros_length]; exact hn)
  rw [zeros_length] at this
  exact this

theorem q1 : sealing 7 [97] = (sealed 7 [97], 0) := by unfold sealing; rw [if_neg (by decide), if_neg (by decide)]
theorem q2 : sealing 0 [] = ([], 1) := by unfold sealing; rw [if_pos (by decide)]
theorem q3 : sealing 7 (zeros 109) = ([], 13) := by unfold sealing; rw [if_neg (by decide), if_pos (by rw [zeros_length]; decide)]
theorem q4 : opened (sealed 7 [97]) = (7, [97] ++ zeros 107, 0) := opened_sealed 7 [97] (by decide) (by decide)
theorem q5 : opened (zeros 128) = (0, [], 2) := opened_zero
theorem b7 : (sealed 7 [97])[7]?.getD 0 = 7 := by decide +kernel
theorem b127 : (sealed 7 [97])[127]?.getD 0 = 7 := by decide +kernel

theorem shape {S : Nat → Prop} {w : World} {v : Value} {l : List UInt8} (h : Rd S w v l) (n : Nat) (hn : l.length = n) (hp : 0 < n) :
    ∃ ad c, v = .slice (some ad) n c ∧ n ≤ c ∧ c ≤ 9223372036854775807 ∧ ∀ k, k < n → ∀ b, l[k]?.getD 0 = b → w.cell? (ad.add k) = some (.int .u8 (b.toNat : Int)) := by
  subst hn
  obtain ⟨A, c, rfl, h1, h2, h3, h4⟩ := h
  unfold maxLen at h2
  cases A with
  | none => have := h3 rfl; omega
  | some ad => exact ⟨ad, c, rfl, h1, by omega, fun k hk b hb => by rw [← hb]; exact (h4 ad rfl).2 k _ (bv_get l k hk)⟩

set_option maxHeartbeats 2000000 in
theorem alive_any (w : World) : Calls Try.prog 6 #[] w fun e W' => e = .returned (.bool true) ∧ Grew w W' := by
  have kc := fun (w : World) (C : Array Value) (n c : Nat) => Lib.run_convert_bytes_const (P := Try.prog) w 23 5 C n c Try.underlying23 Try.underlying5
  obtain ⟨i0, hi, hz0, hz1, hz2⟩ := info_parts info5
  have hmk1 : ∀ u : World, (Instr.makeSlice 23 (.int .i64 109) (.int .i64 109)).run Try.prog u =
      .ok (.slice (some ⟨u.heap.size, 0, none⟩) 109 109) (u.alloc (.cells (madeCells #[.int .u8 0] 109) 5)) := fun u => by
    have h := run_make (P := Try.prog) u 23 5 i0 (.int .u8 0) Try.underlying23 hi hz0 .i64 .i64 109 109 (by omega) (Int.le_refl _) (by rw [hz2]; omega) (by omega)
    simpa [hz1, Value.cells] using h
  have hmk2 : ∀ u : World, (Instr.makeSlice 23 (.int .i64 128) (.int .i64 128)).run Try.prog u =
      .ok (.slice (some ⟨u.heap.size, 0, none⟩) 128 128) (u.alloc (.cells (madeCells #[.int .u8 0] 128) 5)) := fun u => by
    have h := run_make (P := Try.prog) u 23 5 i0 (.int .u8 0) Try.underlying23 hi hz0 .i64 .i64 128 128 (by omega) (Int.le_refl _) (by rw [hz2]; omega) (by omega)
    simpa [hz1, Value.cells] using h
  go_enter Try.func6, Try.ntmps6
  go_wp2_with fail
  refine (seal_eq _ _ [97] 7 _ _ _ (lit_rd w [97] (1, 2) (by decide)) q1).mono ?_
  rintro e w1 ⟨v1, rfl, d1, g1⟩
  replace g1 : Grew w w1 := Grew.trans (by unfold Grew; go_grown) g1
  go_wp2_with fail
  refine (seal_eq (fun _ => True) _ [] 0 _ _ _ (Rd.nil _ _) q2).mono ?_
  rintro e w2 ⟨v2, rfl, _, g2⟩
  have hlen : (sealed 7 [97]).length = 128 := sealed_length 7 [97] (by decide)
  obtain ⟨ad, c, rfl, hc1, hc2, _⟩ := shape d1 128 hlen (by decide)
  have D1 := Lib.hid (d1.grew g2)
  have G2 := g1.trans g2
  clear d1 g1 g2
  go_wp2_with fail
  refine (seal_eq _ _ (zeros 109) 7 _ _ _ (made_rd w2 109 (by decide)) q3).mono ?_
  rintro e w3 ⟨v3, rfl, _, g3⟩
  replace g3 : Grew w2 w3 := Grew.trans (by unfold Grew; go_grown) g3
  have D1' := Lib.hid (D1.out.grew g3)
  replace G2 := G2.trans g3
  clear g3 D1
  go_wp2_with fail
  refine (open_eq _ _ (sealed 7 [97]) 7 _ _ w3 D1'.out q4).mono ?_
  rintro e w4 ⟨v4, rfl, d4, g4⟩
  obtain ⟨ad2, c2, rfl, hc3, hc4, _⟩ := shape d4 108 (by decide) (by decide)
  have D1 := Lib.hid (D1'.out.grew g4)
  have D4 := Lib.hid d4
  replace G2 := G2.trans g4
  clear g4 D1' d4
  go_wp2_with fail
  refine (open_eq _ _ (zeros 128) 0 _ _ _ (made_rd w4 128 (by decide)) q5).mono ?_
  rintro e w5 ⟨v5, rfl, _, g5⟩
  replace g5 : Grew w4 w5 := Grew.trans (by unfold Grew; go_grown) g5
  obtain ⟨_, _, e1, _, _, r1⟩ := shape (D1.out.grew g5) 128 hlen (by decide)
  injection e1 with f1 _ _
  injection f1 with f1
  subst f1
  obtain ⟨_, _, e2, _, _, r2⟩ := shape (D4.out.grew g5) 108 (by decide) (by decide)
  injection e2 with f2 _ _
  injection f2 with f2
  subst f2
  have m1 : w5.cell? { block := ad.block, off := ad.off + 7 } = some (.int .u8 7) := r1 7 (by decide) 7 b7
  have m2 : w5.cell? { block := ad.block, off := ad.off + 127 } = some (.int .u8 7) := r1 127 (by decide) 7 b127
  have m3 : w5.cell? ad2 = some (.int .u8 97) := r2 0 (by decide) 97 rfl
  replace G2 := G2.trans g5
  clear r1 r2
  go_wp2
  go_returns
  exact ⟨rfl, G2⟩
end Go.Proofs.Ytiajjkjdmcoodab.SAlive
