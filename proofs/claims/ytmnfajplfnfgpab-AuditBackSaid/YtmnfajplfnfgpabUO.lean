/-
  Read, by the program.
  Conditions: those that each lemma names.
-/
import Derived.Test.YtmnfajplfnfgpabUN
import Derived.Test.YtmnfajplfnfgpabUK
namespace Go.Proofs.Ytmnfajplfnfgpab.UO
set_option maxRecDepth 100000
open Go Go.RowKit Go.Lib Go.Proofs.Ytmnfajplfnfgpab Go.Proofs.Ytmnfajplfnfgpab.Facts Go.Proofs.Ytmnfajplfnfgpab.Ints Go.Proofs.Ytmnfajplfnfgpab.PA Go.Proofs.Ytmnfajplfnfgpab.UA Go.Proofs.Ytmnfajplfnfgpab.UM Go.Proofs.Ytmnfajplfnfgpab.UB Go.Proofs.Ytmnfajplfnfgpab.UC Go.Proofs.Ytmnfajplfnfgpab.UD Go.Proofs.Ytmnfajplfnfgpab.UF Go.Proofs.Ytmnfajplfnfgpab.UH Go.Proofs.Ytmnfajplfnfgpab.UI Go.Proofs.Ytmnfajplfnfgpab.UJ Go.Proofs.Ytmnfajplfnfgpab.UK Go.Proofs.Ytmnfajplfnfgpab.UN Go.Proofs.Ytmnfajplfnfgpab.Bytes Go.Proofs.Ytmnfajplfnfgpab.Puts Go.Proofs.Ytmnfajplfnfgpab.Scan Go.Proofs.Ytmnfajplfnfgpab.Take Go.Proofs.Ytmnfajplfnfgpab.Nums


def sz (k : Nat) : Nat := if k = 0 ∨ k = 7 ∨ k = 8 then 8 else 1
/-- The scan behind k numbers. -/
def sK (l : List UInt8) : Nat → Sc
  | 0 => ⟨l, 0⟩
  | k + 1 => ((sK l k).num (sz k)).2
def vK (l : List UInt8) (k : Nat) : Nat := ((sK l k).num (sz k)).1
def decE (l : List UInt8) : En := ⟨vK l 0, vK l 1, vK l 2, vK l 3, vK l 4, vK l 5, vK l 6, vK l 7, vK l 8, vK l 9⟩
/-- What Read answers. -/
def readP (l : List UInt8) : En × Int := if (sK l 10).fin = 0 then (if okE (decE l) = true then (decE l, 0) else (zen, 2)) else (zen, (sK l 10).fin)
theorem num_lt (s : Sc) (K : Nat) : (s.num K).1 < 256 ^ K := by
  unfold Sc.num
  have h1 := take_len s K
  have h := val_lt (s.take K).1 K
  rw [List.take_of_length_le h1] at h
  exact h
theorem sz_dec (l : List UInt8) : SzE (decE l) := ⟨num_lt _ 8, num_lt _ 8, num_lt _ 8⟩
theorem v1 (l : List UInt8) (k : Nat) (h : sz k = 1) : vK l k < 256 := by
  have := num_lt (sK l k) (sz k)
  rw [h] at this
  unfold vK
  rw [h]
  simpa using this
theorem set10 {W : World} {R t : Nat} {x0 x1 x2 x3 x4 x5 x6 x7 x8 x9 : Value} (h : W.heap[R]? = some (.cells #[x0, x1, x2, x3, x4, x5, x6, x7, x8, x9] t (0, 0))) (y0 y1 y2 y3 y4 y5 y6 y7 y8 y9 : Value) :
    ((((((((((W.setCell ⟨R, 0, none⟩ y0).setCell ⟨R, 1, none⟩ y1).setCell ⟨R, 2, none⟩ y2).setCell ⟨R, 3, none⟩ y3).setCell ⟨R, 4, none⟩ y4).setCell ⟨R, 5, none⟩ y5).setCell ⟨R, 6, none⟩ y6).setCell ⟨R, 7, none⟩ y7).setCell ⟨R, 8, none⟩ y8).setCell ⟨R, 9, none⟩ y9).heap[R]? = some (.cells #[y0, y1, y2, y3, y4, y5, y6, y7, y8, y9] t (0, 0)) := by
  have h0 := heap_setCell_same W R 0 _ t y0 h
  rw [show (#[x0, x1, x2, x3, x4, x5, x6, x7, x8, x9] : Array Value).setIfInBounds 0 y0 = #[y0, x1, x2, x3, x4, x5, x6, x7, x8, x9] from rfl] at h0
  have h1 := heap_setCell_same (W.setCell ⟨R, 0, none⟩ y0) R 1 _ t y1 h0
  rw [show (#[y0, x1, x2, x3, x4, x5, x6, x7, x8, x9] : Array Value).setIfInBounds 1 y1 = #[y0, y1, x2, x3, x4, x5, x6, x7, x8, x9] from rfl] at h1
  have h2 := heap_setCell_same ((W.setCell ⟨R, 0, none⟩ y0).setCell ⟨R, 1, none⟩ y1) R 2 _ t y2 h1
  rw [show (#[y0, y1, x2, x3, x4, x5, x6, x7, x8, x9] : Array Value).setIfInBounds 2 y2 = #[y0, y1, y2, x3, x4, x5, x6, x7, x8, x9] from rfl] at h2
  have h3 := heap_setCell_same (((W.setCell ⟨R, 0, none⟩ y0).setCell ⟨R, 1, none⟩ y1).setCell ⟨R, 2, none⟩ y2) R 3 _ t y3 h2
  rw [show (#[y0, y1, y2, x3, x4, x5, x6, x7, x8, x9] : Array Value).setIfInBounds 3 y3 = #[y0, y1, y2, y3, x4, x5, x6, x7, x8, x9] from rfl] at h3
  have h4 := heap_setCell_same ((((W.setCell ⟨R, 0, none⟩ y0).setCell ⟨R, 1, none⟩ y1).setCell ⟨R, 2, none⟩ y2).setCell ⟨R, 3, none⟩ y3) R 4 _ t y4 h3
  rw [show (#[y0, y1, y2, y3, x4, x5, x6, x7, x8, x9] : Array Value).setIfInBounds 4 y4 = #[y0, y1, y2, y3, y4, x5, x6, x7, x8, x9] from rfl] at h4
  have h5 := heap_setCell_same (((((W.setCell ⟨R, 0, none⟩ y0).setCell ⟨R, 1, none⟩ y1).setCell ⟨R, 2, none⟩ y2).setCell ⟨R, 3, none⟩ y3).setCell ⟨R, 4, none⟩ y4) R 5 _ t y5 h4
  rw [show (#[y0, y1, y2, y3, y4, x5, x6, x7, x8, x9] : Array Value).setIfInBounds 5 y5 = #[y0, y1, y2, y3, y4, y5, x6, x7, x8, x9] from rfl] at h5
  have h6 := heap_setCell_same ((((((W.setCell ⟨R, 0, none⟩ y0).setCell ⟨R, 1, none⟩ y1).setCell ⟨R, 2, none⟩ y2).setCell ⟨R, 3, none⟩ y3).setCell ⟨R, 4, none⟩ y4).setCell ⟨R, 5, none⟩ y5) R 6 _ t y6 h5
  rw [show (#[y0, y1, y2, y3, y4, y5, x6, x7, x8, x9] : Array Value).setIfInBounds 6 y6 = #[y0, y1, y2, y3, y4, y5, y6, x7, x8, x9] from rfl] at h6
  have h7 := heap_setCell_same (((((((W.setCell ⟨R, 0, none⟩ y0).setCell ⟨R, 1, none⟩ y1).setCell ⟨R, 2, none⟩ y2).setCell ⟨R, 3, none⟩ y3).setCell ⟨R, 4, none⟩ y4).setCell ⟨R, 5, none⟩ y5).setCell ⟨R, 6, none⟩ y6) R 7 _ t y7 h6
  rw [show (#[y0, y1, y2, y3, y4, y5, y6, x7, x8, x9] : Array Value).setIfInBounds 7 y7 = #[y0, y1, y2, y3, y4, y5, y6, y7, x8, x9] from rfl] at h7
  have h8 := heap_setCell_same ((((((((W.setCell ⟨R, 0, none⟩ y0).setCell ⟨R, 1, none⟩ y1).setCell ⟨R, 2, none⟩ y2).setCell ⟨R, 3, none⟩ y3).setCell ⟨R, 4, none⟩ y4).setCell ⟨R, 5, none⟩ y5).setCell ⟨R, 6, none⟩ y6).setCell ⟨R, 7, none⟩ y7) R 8 _ t y8 h7
  rw [show (#[y0, y1, y2, y3, y4, y5, y6, y7, x8, x9] : Array Value).setIfInBounds 8 y8 = #[y0, y1, y2, y3, y4, y5, y6, y7, y8, x9] from rfl] at h8
  have h9 := heap_setCell_same (((((((((W.setCell ⟨R, 0, none⟩ y0).setCell ⟨R, 1, none⟩ y1).setCell ⟨R, 2, none⟩ y2).setCell ⟨R, 3, none⟩ y3).setCell ⟨R, 4, none⟩ y4).setCell ⟨R, 5, none⟩ y5).setCell ⟨R, 6, none⟩ y6).setCell ⟨R, 7, none⟩ y7).setCell ⟨R, 8, none⟩ y8) R 9 _ t y9 h8
  rw [show (#[y0, y1, y2, y3, y4, y5, y6, y7, y8, x9] : Array Value).setIfInBounds 9 y9 = #[y0, y1, y2, y3, y4, y5, y6, y7, y8, y9] from rfl] at h9
  exact h9
theorem nest_grew {w W : World} {R : Nat} (hg : Grew w W) (hR : w.heap.size ≤ R) (y0 y1 y2 y3 y4 y5 y6 y7 y8 y9 : Value) : Grew w ((((((((((W.setCell ⟨R, 0, none⟩ y0).setCell ⟨R, 1, none⟩ y1).setCell ⟨R, 2, none⟩ y2).setCell ⟨R, 3, none⟩ y3).setCell ⟨R, 4, none⟩ y4).setCell ⟨R, 5, none⟩ y5).setCell ⟨R, 6, none⟩ y6).setCell ⟨R, 7, none⟩ y7).setCell ⟨R, 8, none⟩ y8).setCell ⟨R, 9, none⟩ y9) := by
  have h0 : Below w.heap.size w W := hg
  have h1 : Below w.heap.size w (W.setCell ⟨R, 0, none⟩ y0) := Below.setCell h0 hR y0
  have h2 : Below w.heap.size w ((W.setCell ⟨R, 0, none⟩ y0).setCell ⟨R, 1, none⟩ y1) := Below.setCell h1 hR y1
  have h3 : Below w.heap.size w (((W.setCell ⟨R, 0, none⟩ y0).setCell ⟨R, 1, none⟩ y1).setCell ⟨R, 2, none⟩ y2) := Below.setCell h2 hR y2
  have h4 : Below w.heap.size w ((((W.setCell ⟨R, 0, none⟩ y0).setCell ⟨R, 1, none⟩ y1).setCell ⟨R, 2, none⟩ y2).setCell ⟨R, 3, none⟩ y3) := Below.setCell h3 hR y3
  have h5 : Below w.heap.size w (((((W.setCell ⟨R, 0, none⟩ y0).setCell ⟨R, 1, none⟩ y1).setCell ⟨R, 2, none⟩ y2).setCell ⟨R, 3, none⟩ y3).setCell ⟨R, 4, none⟩ y4) := Below.setCell h4 hR y4
  have h6 : Below w.heap.size w ((((((W.setCell ⟨R, 0, none⟩ y0).setCell ⟨R, 1, none⟩ y1).setCell ⟨R, 2, none⟩ y2).setCell ⟨R, 3, none⟩ y3).setCell ⟨R, 4, none⟩ y4).setCell ⟨R, 5, none⟩ y5) := Below.setCell h5 hR y5
  have h7 : Below w.heap.size w (((((((W.setCell ⟨R, 0, none⟩ y0).setCell ⟨R, 1, none⟩ y1).setCell ⟨R, 2, none⟩ y2).setCell ⟨R, 3, none⟩ y3).setCell ⟨R, 4, none⟩ y4).setCell ⟨R, 5, none⟩ y5).setCell ⟨R, 6, none⟩ y6) := Below.setCell h6 hR y6
  have h8 : Below w.heap.size w ((((((((W.setCell ⟨R, 0, none⟩ y0).setCell ⟨R, 1, none⟩ y1).setCell ⟨R, 2, none⟩ y2).setCell ⟨R, 3, none⟩ y3).setCell ⟨R, 4, none⟩ y4).setCell ⟨R, 5, none⟩ y5).setCell ⟨R, 6, none⟩ y6).setCell ⟨R, 7, none⟩ y7) := Below.setCell h7 hR y7
  have h9 : Below w.heap.size w (((((((((W.setCell ⟨R, 0, none⟩ y0).setCell ⟨R, 1, none⟩ y1).setCell ⟨R, 2, none⟩ y2).setCell ⟨R, 3, none⟩ y3).setCell ⟨R, 4, none⟩ y4).setCell ⟨R, 5, none⟩ y5).setCell ⟨R, 6, none⟩ y6).setCell ⟨R, 7, none⟩ y7).setCell ⟨R, 8, none⟩ y8) := Below.setCell h8 hR y8
  have h10 : Below w.heap.size w ((((((((((W.setCell ⟨R, 0, none⟩ y0).setCell ⟨R, 1, none⟩ y1).setCell ⟨R, 2, none⟩ y2).setCell ⟨R, 3, none⟩ y3).setCell ⟨R, 4, none⟩ y4).setCell ⟨R, 5, none⟩ y5).setCell ⟨R, 6, none⟩ y6).setCell ⟨R, 7, none⟩ y7).setCell ⟨R, 8, none⟩ y8).setCell ⟨R, 9, none⟩ y9) := Below.setCell h9 hR y9
  exact h10
theorem ne_ty {W : World} {a b s t : Nat} {xs ys : Array Value} (h1 : W.heap[a]? = some (.cells xs s (0, 0))) (h2 : W.heap[b]? = some (.cells ys t (0, 0))) (h : s ≠ t) : a ≠ b := by
  intro e
  subst e
  rw [h1] at h2
  simp only [Option.some.injEq, Obj.cells.injEq] at h2
  exact h h2.2.1
theorem kp_mono {b5 b6 : Nat} {p : Value} {D : Nat} {a b : World} (h : Kp b6 p D a b) (hb : b5 ≤ b6) : Kp b5 p D a b :=
  ⟨h.os, h.tape, h.output, h.size, fun k h1 h2 h3 => h.block k (by omega) h2 h3⟩
theorem kp_keepB {p : Nat} {D B : Nat} {a b : World} {o : Obj} (h : Kp a.heap.size (pt p) D a b) (hB : a.heap[B]? = some o) (h1 : B ≠ D) (h2 : B ≠ p) : b.heap[B]? = some o :=
  (h.block B (Array.getElem?_eq_some_iff.1 hB).1 h1 (by intro e; exact h2 (by simpa [blk] using e.symm))).trans hB
theorem fld_kp {a b : World} {g sg E : Nat} {A B : Nat → Nat} {xs ys : Array Value} (h : Fld a g A B) (hE : a.heap[E]? = some (.cells xs 25 (0, 0))) (hS : a.heap[sg]? = some (.cells ys 64 (0, 0))) (hk : Kp a.heap.size (pt sg) E a b) : Fld b g A B :=
  ⟨kp_keepB hk h.row (ne_ty h.row hE (by decide)) (ne_ty h.row hS (by decide)), kp_keepB hk h.a0 (ne_ty h.a0 hE (by decide)) (ne_ty h.a0 hS (by decide)), kp_keepB hk h.b0 (ne_ty h.b0 hE (by decide)) (ne_ty h.b0 hS (by decide)), kp_keepB hk h.a1 (ne_ty h.a1 hE (by decide)) (ne_ty h.a1 hS (by decide)), kp_keepB hk h.b1 (ne_ty h.b1 hE (by decide)) (ne_ty h.b1 hS (by decide)), kp_keepB hk h.a2 (ne_ty h.a2 hE (by decide)) (ne_ty h.a2 hS (by decide)), kp_keepB hk h.b2 (ne_ty h.b2 hE (by decide)) (ne_ty h.b2 hS (by decide)), kp_keepB hk h.a3 (ne_ty h.a3 hE (by decide)) (ne_ty h.a3 hS (by decide)), kp_keepB hk h.b3 (ne_ty h.b3 hE (by decide)) (ne_ty h.b3 hS (by decide)), kp_keepB hk h.a4 (ne_ty h.a4 hE (by decide)) (ne_ty h.a4 hS (by decide)), kp_keepB hk h.b4 (ne_ty h.b4 hE (by decide)) (ne_ty h.b4 hS (by decide)), kp_keepB hk h.a5 (ne_ty h.a5 hE (by decide)) (ne_ty h.a5 hS (by decide)), kp_keepB hk h.b5 (ne_ty h.b5 hE (by decide)) (ne_ty h.b5 hS (by decide)), kp_keepB hk h.a6 (ne_ty h.a6 hE (by decide)) (ne_ty h.a6 hS (by decide)), kp_keepB hk h.b6 (ne_ty h.b6 hE (by decide)) (ne_ty h.b6 hS (by decide)), kp_keepB hk h.a7 (ne_ty h.a7 hE (by decide)) (ne_ty h.a7 hS (by decide)), kp_keepB hk h.b7 (ne_ty h.b7 hE (by decide)) (ne_ty h.b7 hS (by decide)), kp_keepB hk h.a8 (ne_ty h.a8 hE (by decide)) (ne_ty h.a8 hS (by decide)), kp_keepB hk h.b8 (ne_ty h.b8 hE (by decide)) (ne_ty h.b8 hS (by decide)), kp_keepB hk h.a9 (ne_ty h.a9 hE (by decide)) (ne_ty h.a9 hS (by decide)), kp_keepB hk h.b9 (ne_ty h.b9 hE (by decide)) (ne_ty h.b9 hS (by decide))⟩
/-- An entry's cells, k of them read. -/
def cK (l : List UInt8) (k : Nat) : Array Value := match k with
  | 0 => #[.int .u64 0, .int .i64 0, .int .i64 0, .int .i64 0, .int .i64 0, .int .i64 0, .int .i64 0, .int .u64 0, .int .u64 0, .int .i64 0]
  | 1 => #[.int .u64 (vK l 0 : Int), .int .i64 0, .int .i64 0, .int .i64 0, .int .i64 0, .int .i64 0, .int .i64 0, .int .u64 0, .int .u64 0, .int .i64 0]
  | 2 => #[.int .u64 (vK l 0 : Int), .int .i64 (vK l 1 : Int), .int .i64 0, .int .i64 0, .int .i64 0, .int .i64 0, .int .i64 0, .int .u64 0, .int .u64 0, .int .i64 0]
  | 3 => #[.int .u64 (vK l 0 : Int), .int .i64 (vK l 1 : Int), .int .i64 (vK l 2 : Int), .int .i64 0, .int .i64 0, .int .i64 0, .int .i64 0, .int .u64 0, .int .u64 0, .int .i64 0]
  | 4 => #[.int .u64 (vK l 0 : Int), .int .i64 (vK l 1 : Int), .int .i64 (vK l 2 : Int), .int .i64 (vK l 3 : Int), .int .i64 0, .int .i64 0, .int .i64 0, .int .u64 0, .int .u64 0, .int .i64 0]
  | 5 => #[.int .u64 (vK l 0 : Int), .int .i64 (vK l 1 : Int), .int .i64 (vK l 2 : Int), .int .i64 (vK l 3 : Int), .int .i64 (vK l 4 : Int), .int .i64 0, .int .i64 0, .int .u64 0, .int .u64 0, .int .i64 0]
  | 6 => #[.int .u64 (vK l 0 : Int), .int .i64 (vK l 1 : Int), .int .i64 (vK l 2 : Int), .int .i64 (vK l 3 : Int), .int .i64 (vK l 4 : Int), .int .i64 (vK l 5 : Int), .int .i64 0, .int .u64 0, .int .u64 0, .int .i64 0]
  | 7 => #[.int .u64 (vK l 0 : Int), .int .i64 (vK l 1 : Int), .int .i64 (vK l 2 : Int), .int .i64 (vK l 3 : Int), .int .i64 (vK l 4 : Int), .int .i64 (vK l 5 : Int), .int .i64 (vK l 6 : Int), .int .u64 0, .int .u64 0, .int .i64 0]
  | 8 => #[.int .u64 (vK l 0 : Int), .int .i64 (vK l 1 : Int), .int .i64 (vK l 2 : Int), .int .i64 (vK l 3 : Int), .int .i64 (vK l 4 : Int), .int .i64 (vK l 5 : Int), .int .i64 (vK l 6 : Int), .int .u64 (vK l 7 : Int), .int .u64 0, .int .i64 0]
  | 9 => #[.int .u64 (vK l 0 : Int), .int .i64 (vK l 1 : Int), .int .i64 (vK l 2 : Int), .int .i64 (vK l 3 : Int), .int .i64 (vK l 4 : Int), .int .i64 (vK l 5 : Int), .int .i64 (vK l 6 : Int), .int .u64 (vK l 7 : Int), .int .u64 (vK l 8 : Int), .int .i64 0]
  | _ => #[.int .u64 (vK l 0 : Int), .int .i64 (vK l 1 : Int), .int .i64 (vK l 2 : Int), .int .i64 (vK l 3 : Int), .int .i64 (vK l 4 : Int), .int .i64 (vK l 5 : Int), .int .i64 (vK l 6 : Int), .int .u64 (vK l 7 : Int), .int .u64 (vK l 8 : Int), .int .i64 (vK l 9 : Int)]
/-- A whole value is stored into a block of which it is all. -/
theorem run_store_row (t : TypeId) (n : Nat) (hs : (Try.prog.info? t).map (·.size) = some n) (w : World) (g o : Nat) (e : TypeId) (cur : Array Value) (hg : w.heap[g]? = some (.cells cur e (0, 0))) (cs : List Value) (hc : cs.length = n) (h1 : ∀ u ∈ cs, u.oneCell' = true) (hfit : o + n ≤ cur.size) :
    (Instr.storeAt t (.pointer (some ⟨g, o, none⟩)) (.agg cs.toArray)).run Try.prog w = .ok () (w.setRow g (cur.toList.take o ++ cs ++ cur.toList.drop (o + n)).toArray) := by
  have hst := run_storeCells_at Try.prog g o e cs 0 cur w hg (by omega) h1
  simp only [Nat.add_zero, hc] at hst
  cases hq : Try.prog.info? t with
  | none => simp [hq] at hs
  | some i =>
    have hsz : i.size = n := by simpa [hq] using hs
    simp only [Instr.storeAt, Instr.sureAddr, storeVar, sizeOf, typeInfo, Sem.run_bind, Sem.run_pure, Result.andThen_ok, Value.cells]
    simp [hq, hsz, hc]
    simpa [hc] using hst

theorem wpList_store {ops : Array Oper} {rest : List Oper} {op : Oper} {a : Act} {w : World} {Q : Exit → Act → World → Prop} (hgd : op.guard = none) (t : TypeId) (x y : Operand) (ho : op.op = .store t x y) (px vy : Value) (hx : a.eval x = px) (hy : a.eval y = vy) (w' : World)
    (hr : (Instr.storeAt t px vy).run Try.prog w = .ok () w') (h : wpList Try.prog ops Q rest (a.put op.dst undef) w') : wpList Try.prog ops Q (op :: rest) a w := by
  refine wpList_plain hgd fun _ hK => ?_
  unfold Oper.wp execOp
  simp only [ho, hx, hy, Sem.run_bind, Sem.run_pure, Result.andThen_ok, hr]
  exact hK _ _ h
theorem wpList_load {ops : Array Oper} {rest : List Oper} {op : Oper} {a : Act} {w : World} {Q : Exit → Act → World → Prop} (hgd : op.guard = none) (t : TypeId) (x : Operand) (ho : op.op = .load t x) (px v : Value) (hx : a.eval x = px)
    (hr : (Instr.loadAt t px).run Try.prog w = .ok v w) (h : wpList Try.prog ops Q rest (a.put op.dst v) w) : wpList Try.prog ops Q (op :: rest) a w := by
  refine wpList_plain hgd fun _ hK => ?_
  unfold Oper.wp execOp
  simp only [ho, hx, Sem.run_bind, Sem.run_pure, Result.andThen_ok, hr]
  exact hK _ _ h
theorem size25 : (Try.prog.info? 25).map (·.size) = some 10 := by kernel_rfl
theorem store10 {W : World} {R : Nat} {x0 x1 x2 x3 x4 x5 x6 x7 x8 x9 : Value} (h : W.heap[R]? = some (.cells #[x0, x1, x2, x3, x4, x5, x6, x7, x8, x9] 25 (0, 0))) (y0 y1 y2 y3 y4 y5 y6 y7 y8 y9 : Value) (h1 : ∀ u ∈ [y0, y1, y2, y3, y4, y5, y6, y7, y8, y9], u.oneCell' = true) :
    ∃ W', (Instr.storeAt 25 (pt R) (.agg #[y0, y1, y2, y3, y4, y5, y6, y7, y8, y9])).run Try.prog W = .ok () W' ∧ W'.heap[R]? = some (.cells #[y0, y1, y2, y3, y4, y5, y6, y7, y8, y9] 25 (0, 0)) ∧ ∀ w, Grew w W → w.heap.size ≤ R → Grew w W' := by
  refine ⟨_, run_store_row 25 10 size25 W R 0 25 _ h [y0, y1, y2, y3, y4, y5, y6, y7, y8, y9] rfl h1 (by simp), ?_, fun w hg hR => ?_⟩
  · rw [setRow_heap W R _ _ 25 _ h]
    simp
  · exact ⟨hg.os, hg.tape, hg.output, by simpa using hg.size, fun k hk => (setRow_other W R k _ (by omega)).trans (hg.block k hk)⟩
def AnsR (r : En × Int) (w : World) (e : Ending) (w' : World) : Prop := e = .returned (.tuple #[env r.1, .int .i64 r.2]) ∧ Grew w w'
set_option maxHeartbeats 16000000 in
theorem read_any (v : Value) (l : List UInt8) (w : World) (h : Rd Al w v l) (hl : l.length ≤ 140737488355328) : Calls Try.prog 14 #[v] w (AnsR (readP l) w) := by
  have HFR := Lib.hid (fun W (hg : Grew w W) => from_any Al v l W (h.grew hg) hl)
  have HMAY := Lib.hid (may_any (decE l) (sz_dec l))
  have hst := fun W a m f x y => run_store_fn W a m f x y
  have G0 : Hid (Grew w (w.alloc (.cells #[.int .u64 0, .int .i64 0, .int .i64 0, .int .i64 0, .int .i64 0, .int .i64 0, .int .i64 0, .int .u64 0, .int .u64 0, .int .i64 0] 25))) := Lib.hid (by unfold Grew; go_grown)
  have BR := Lib.hid (blk_new w (.cells #[.int .u64 0, .int .i64 0, .int .i64 0, .int .i64 0, .int .i64 0, .int .i64 0, .int .i64 0, .int .u64 0, .int .u64 0, .int .i64 0] 25))
  obtain ⟨A, c, rfl, _⟩ := id h
  clear h hl
  obtain ⟨RES, hRES⟩ : ∃ RES, readP l = RES := ⟨_, rfl⟩
  rw [hRES]
  have HRES := Lib.hid hRES
  clear hRES
  unfold decE env at HMAY
  simp only at HMAY
  unfold AnsR
  go_enter Try.func14, Try.ntmps14
  go_wp2_with fail
  refine (HFR.out _ G0.out).mono ?_
  rintro e w1 ⟨p, rfl, hsc, hg⟩
  obtain ⟨sg, rfl, hws⟩ := SC.made hsc rfl
  have hsz := SC.size hsc
  have G1 := Lib.hid (G0.out.trans hg)
  have BR1 := Lib.hid (PA.keepB BR.out hg)
  have GE : Hid (Grew w1 (w1.alloc (.cells #[.int .u64 0, .int .i64 0, .int .i64 0, .int .i64 0, .int .i64 0, .int .i64 0, .int .i64 0, .int .u64 0, .int .u64 0, .int .i64 0] 25))) := Lib.hid (by unfold Grew; go_grown)
  obtain ⟨_, _, _, vs, hsb, _⟩ := hws
  have HSB := Lib.hid (PA.keepB hsb GE.out)
  have HSC := Lib.hid (hsc.grew GE.out)
  have BE := Lib.hid (blk_new w1 (.cells #[.int .u64 0, .int .i64 0, .int .i64 0, .int .i64 0, .int .i64 0, .int .i64 0, .int .i64 0, .int .u64 0, .int .u64 0, .int .i64 0] 25))
  have hlow : (w.alloc (.cells #[.int .u64 0, .int .i64 0, .int .i64 0, .int .i64 0, .int .i64 0, .int .i64 0, .int .i64 0, .int .u64 0, .int .u64 0, .int .i64 0] 25)).heap.size = w.heap.size + 1 := by simp
  have HLOW := Lib.hid (show w.heap.size + 1 ≤ sg by omega)
  have HLE : Hid (w.heap.size + 1 ≤ w1.heap.size) := Lib.hid (by have := hg.size; omega)
  have HED : Hid (w1.heap.size < (w.alloc (.cells #[.int .u64 0, .int .i64 0, .int .i64 0, .int .i64 0, .int .i64 0, .int .i64 0, .int .i64 0, .int .u64 0, .int .u64 0, .int .i64 0] 25)).heap.size ∨ w1.heap.size ≤ w1.heap.size) := Lib.hid (.inr (Nat.le_refl _))
  have HSG : Hid (w1.heap.size ≠ sg) := Lib.hid (by omega)
  generalize (w.alloc (.cells #[.int .u64 0, .int .i64 0, .int .i64 0, .int .i64 0, .int .i64 0, .int .i64 0, .int .i64 0, .int .u64 0, .int .u64 0, .int .i64 0] 25)).heap.size = lo at HSC HED
  clear hsc hg hsz hsb hlow HFR
  go_wp2_with fail
  refine (fields_any _).mono ?_
  rintro e w3 ⟨g, FA, FB, rfl, hf, hg⟩
  have HF := Lib.hid hf
  have G3 := Lib.hid (G1.out.trans (GE.out.trans hg))
  have RB3 := Lib.hid (PA.keepB BR1.out (GE.out.trans hg))
  have BE3 : Hid (w3.heap[w1.heap.size]? = some (.cells (cK l 0) 25 (0, 0))) := Lib.hid (PA.keepB BE.out hg)
  have HSB3 := Lib.hid (PA.keepB HSB.out hg)
  have HSC3 : Hid (SC w3 lo w1.heap.size (pt sg) (sK l 0)) := Lib.hid (HSC.out.grew hg)
  have HHI : Hid (w1.heap.size = w1.heap.size) := Lib.hid rfl
  have HE0 := Lib.hid HLE.out
  generalize hE : w1.heap.size = E at *
  generalize hR : w.heap.size = R at *
  have hi := E
  clear hf hg BE HSB HSC GE BR1 BR HHI HE0
  have HRH := Lib.hid hR
  clear hR hE hi
  go_wp2
  go_loopg [13] 10 (fun gg s13 wx => ∃ (k : Nat), k + gg = 10 ∧ s13 = .int .i64 k ∧ Hid (SC wx lo E (pt sg) (sK l k)) ∧ Hid (wx.heap[E]? = some (.cells (cK l k) 25 (0, 0))) ∧ Hid (Kp w3.heap.size (pt sg) E w3 wx))
  case atStart => exact ⟨0, rfl, rfl, HSC3, BE3, Lib.hid (Kp.refl _ _ _ _)⟩
  case round =>
    obtain ⟨k, hkg, rfl, KS, KE, KK⟩ := hrel
    have KF := Lib.hid (fld_kp HF.out BE3.out HSB3.out KK.out)
    have hk : k = 0 ∨ k = 1 ∨ k = 2 ∨ k = 3 ∨ k = 4 ∨ k = 5 ∨ k = 6 ∨ k = 7 ∨ k = 8 ∨ k = 9 ∨ k = 10 := by omega
    rcases hk with rfl | rfl | rfl | rfl | rfl | rfl | rfl | rfl | rfl | rfl | rfl
    · have hE : wr.heap[E]? = some (.cells #[.int .u64 0, .int .i64 0, .int .i64 0, .int .i64 0, .int .i64 0, .int .i64 0, .int .i64 0, .int .u64 0, .int .u64 0, .int .i64 0] 25 (0, 0)) := KE.out
      have G3 : Hid (Grew wr (wr.alloc (.cells #[.func (.func 53) #[] #[.pointer (some ⟨FB 0, 0, none⟩), .pointer (some ⟨FA 0, 0, none⟩)], .func (.func 55) #[] #[.pointer (some ⟨FA 0, 0, none⟩), .pointer (some ⟨FB 0, 0, none⟩)]] 52))) := Lib.hid (by unfold Grew; go_grown)
      have KC := Lib.hid (read0 (wr.alloc (.cells #[.func (.func 53) #[] #[.pointer (some ⟨FB 0, 0, none⟩), .pointer (some ⟨FA 0, 0, none⟩)], .func (.func 55) #[] #[.pointer (some ⟨FA 0, 0, none⟩), .pointer (some ⟨FB 0, 0, none⟩)]] 52)) lo E sg E (FA 0) (FB 0) (sK l 0) (sK l 1) (vK l 0) _ _ _ _ _ _ _ _ _ _ (KS.out.grew G3.out) (PA.keepB hE G3.out) HED.out HSG.out (PA.keepB KF.out.a0 G3.out) (PA.keepB KF.out.b0 G3.out) rfl)
      have c0 : wr.cell? ⟨g, 0, none⟩ = some (.func (.func 53) #[] #[.pointer (some ⟨FB 0, 0, none⟩), .pointer (some ⟨FA 0, 0, none⟩)]) := by rw [cell_of_row _ _ _ _ _ _ KF.out.row]; rfl
      have c1 : wr.cell? ⟨g, 1, none⟩ = some (.func (.func 55) #[] #[.pointer (some ⟨FA 0, 0, none⟩), .pointer (some ⟨FB 0, 0, none⟩)]) := by rw [cell_of_row _ _ _ _ _ _ KF.out.row]; rfl
      clear hE
      go_wp2_with fail
      refine KC.out.mono ?_
      rintro e w5 ⟨rfl, hs, he, hk⟩
      have KS5 := Lib.hid hs
      have KE5 : Hid (w5.heap[E]? = some (.cells (cK l 1) 25 (0, 0))) := Lib.hid he
      have KK5 : Hid (Kp w3.heap.size (pt sg) E w3 w5) := Lib.hid ((KK.out.trans (Kp.below (Below.mono (show Below wr.heap.size wr _ from G3.out) KK.out.size))).trans (kp_mono hk (Nat.le_trans KK.out.size G3.out.size)))
      clear hs he hk c0 c1
      go_wp2
      go_roundg 9
      case measure => omega
      case rel => exact ⟨1, by omega, by first | rfl | (simp; done), KS5, KE5, KK5⟩
    · have hE : wr.heap[E]? = some (.cells #[.int .u64 (vK l 0 : Int), .int .i64 0, .int .i64 0, .int .i64 0, .int .i64 0, .int .i64 0, .int .i64 0, .int .u64 0, .int .u64 0, .int .i64 0] 25 (0, 0)) := KE.out
      have G3 : Hid (Grew wr (wr.alloc (.cells #[.func (.func 57) #[] #[.pointer (some ⟨FB 1, 0, none⟩), .pointer (some ⟨FA 1, 0, none⟩)], .func (.func 58) #[] #[.pointer (some ⟨FA 1, 0, none⟩), .pointer (some ⟨FB 1, 0, none⟩)]] 52))) := Lib.hid (by unfold Grew; go_grown)
      have KC := Lib.hid (read1 (wr.alloc (.cells #[.func (.func 57) #[] #[.pointer (some ⟨FB 1, 0, none⟩), .pointer (some ⟨FA 1, 0, none⟩)], .func (.func 58) #[] #[.pointer (some ⟨FA 1, 0, none⟩), .pointer (some ⟨FB 1, 0, none⟩)]] 52)) lo E sg E (FA 1) (FB 1) (sK l 1) (sK l 2) (vK l 1) _ _ _ _ _ _ _ _ _ _ (KS.out.grew G3.out) (PA.keepB hE G3.out) HED.out HSG.out (PA.keepB KF.out.a1 G3.out) (PA.keepB KF.out.b1 G3.out) rfl (v1 l 1 rfl))
      have c0 : wr.cell? ⟨g, 2, none⟩ = some (.func (.func 57) #[] #[.pointer (some ⟨FB 1, 0, none⟩), .pointer (some ⟨FA 1, 0, none⟩)]) := by rw [cell_of_row _ _ _ _ _ _ KF.out.row]; rfl
      have c1 : wr.cell? ⟨g, 3, none⟩ = some (.func (.func 58) #[] #[.pointer (some ⟨FA 1, 0, none⟩), .pointer (some ⟨FB 1, 0, none⟩)]) := by rw [cell_of_row _ _ _ _ _ _ KF.out.row]; rfl
      clear hE
      go_wp2_with fail
      refine KC.out.mono ?_
      rintro e w5 ⟨rfl, hs, he, hk⟩
      have KS5 := Lib.hid hs
      have KE5 : Hid (w5.heap[E]? = some (.cells (cK l 2) 25 (0, 0))) := Lib.hid he
      have KK5 : Hid (Kp w3.heap.size (pt sg) E w3 w5) := Lib.hid ((KK.out.trans (Kp.below (Below.mono (show Below wr.heap.size wr _ from G3.out) KK.out.size))).trans (kp_mono hk (Nat.le_trans KK.out.size G3.out.size)))
      clear hs he hk c0 c1
      go_wp2
      go_roundg 8
      case measure => omega
      case rel => exact ⟨2, by omega, by first | rfl | (simp; done), KS5, KE5, KK5⟩
    · have hE : wr.heap[E]? = some (.cells #[.int .u64 (vK l 0 : Int), .int .i64 (vK l 1 : Int), .int .i64 0, .int .i64 0, .int .i64 0, .int .i64 0, .int .i64 0, .int .u64 0, .int .u64 0, .int .i64 0] 25 (0, 0)) := KE.out
      have G3 : Hid (Grew wr (wr.alloc (.cells #[.func (.func 57) #[] #[.pointer (some ⟨FB 2, 0, none⟩), .pointer (some ⟨FA 2, 0, none⟩)], .func (.func 58) #[] #[.pointer (some ⟨FA 2, 0, none⟩), .pointer (some ⟨FB 2, 0, none⟩)]] 52))) := Lib.hid (by unfold Grew; go_grown)
      have KC := Lib.hid (read2 (wr.alloc (.cells #[.func (.func 57) #[] #[.pointer (some ⟨FB 2, 0, none⟩), .pointer (some ⟨FA 2, 0, none⟩)], .func (.func 58) #[] #[.pointer (some ⟨FA 2, 0, none⟩), .pointer (some ⟨FB 2, 0, none⟩)]] 52)) lo E sg E (FA 2) (FB 2) (sK l 2) (sK l 3) (vK l 2) _ _ _ _ _ _ _ _ _ _ (KS.out.grew G3.out) (PA.keepB hE G3.out) HED.out HSG.out (PA.keepB KF.out.a2 G3.out) (PA.keepB KF.out.b2 G3.out) rfl (v1 l 2 rfl))
      have c0 : wr.cell? ⟨g, 4, none⟩ = some (.func (.func 57) #[] #[.pointer (some ⟨FB 2, 0, none⟩), .pointer (some ⟨FA 2, 0, none⟩)]) := by rw [cell_of_row _ _ _ _ _ _ KF.out.row]; rfl
      have c1 : wr.cell? ⟨g, 5, none⟩ = some (.func (.func 58) #[] #[.pointer (some ⟨FA 2, 0, none⟩), .pointer (some ⟨FB 2, 0, none⟩)]) := by rw [cell_of_row _ _ _ _ _ _ KF.out.row]; rfl
      clear hE
      go_wp2_with fail
      refine KC.out.mono ?_
      rintro e w5 ⟨rfl, hs, he, hk⟩
      have KS5 := Lib.hid hs
      have KE5 : Hid (w5.heap[E]? = some (.cells (cK l 3) 25 (0, 0))) := Lib.hid he
      have KK5 : Hid (Kp w3.heap.size (pt sg) E w3 w5) := Lib.hid ((KK.out.trans (Kp.below (Below.mono (show Below wr.heap.size wr _ from G3.out) KK.out.size))).trans (kp_mono hk (Nat.le_trans KK.out.size G3.out.size)))
      clear hs he hk c0 c1
      go_wp2
      go_roundg 7
      case measure => omega
      case rel => exact ⟨3, by omega, by first | rfl | (simp; done), KS5, KE5, KK5⟩
    · have hE : wr.heap[E]? = some (.cells #[.int .u64 (vK l 0 : Int), .int .i64 (vK l 1 : Int), .int .i64 (vK l 2 : Int), .int .i64 0, .int .i64 0, .int .i64 0, .int .i64 0, .int .u64 0, .int .u64 0, .int .i64 0] 25 (0, 0)) := KE.out
      have G3 : Hid (Grew wr (wr.alloc (.cells #[.func (.func 57) #[] #[.pointer (some ⟨FB 3, 0, none⟩), .pointer (some ⟨FA 3, 0, none⟩)], .func (.func 58) #[] #[.pointer (some ⟨FA 3, 0, none⟩), .pointer (some ⟨FB 3, 0, none⟩)]] 52))) := Lib.hid (by unfold Grew; go_grown)
      have KC := Lib.hid (read3 (wr.alloc (.cells #[.func (.func 57) #[] #[.pointer (some ⟨FB 3, 0, none⟩), .pointer (some ⟨FA 3, 0, none⟩)], .func (.func 58) #[] #[.pointer (some ⟨FA 3, 0, none⟩), .pointer (some ⟨FB 3, 0, none⟩)]] 52)) lo E sg E (FA 3) (FB 3) (sK l 3) (sK l 4) (vK l 3) _ _ _ _ _ _ _ _ _ _ (KS.out.grew G3.out) (PA.keepB hE G3.out) HED.out HSG.out (PA.keepB KF.out.a3 G3.out) (PA.keepB KF.out.b3 G3.out) rfl (v1 l 3 rfl))
      have c0 : wr.cell? ⟨g, 6, none⟩ = some (.func (.func 57) #[] #[.pointer (some ⟨FB 3, 0, none⟩), .pointer (some ⟨FA 3, 0, none⟩)]) := by rw [cell_of_row _ _ _ _ _ _ KF.out.row]; rfl
      have c1 : wr.cell? ⟨g, 7, none⟩ = some (.func (.func 58) #[] #[.pointer (some ⟨FA 3, 0, none⟩), .pointer (some ⟨FB 3, 0, none⟩)]) := by rw [cell_of_row _ _ _ _ _ _ KF.out.row]; rfl
      clear hE
      go_wp2_with fail
      refine KC.out.mono ?_
      rintro e w5 ⟨rfl, hs, he, hk⟩
      have KS5 := Lib.hid hs
      have KE5 : Hid (w5.heap[E]? = some (.cells (cK l 4) 25 (0, 0))) := Lib.hid he
      have KK5 : Hid (Kp w3.heap.size (pt sg) E w3 w5) := Lib.hid ((KK.out.trans (Kp.below (Below.mono (show Below wr.heap.size wr _ from G3.out) KK.out.size))).trans (kp_mono hk (Nat.le_trans KK.out.size G3.out.size)))
      clear hs he hk c0 c1
      go_wp2
      go_roundg 6
      case measure => omega
      case rel => exact ⟨4, by omega, by first | rfl | (simp; done), KS5, KE5, KK5⟩
    · have hE : wr.heap[E]? = some (.cells #[.int .u64 (vK l 0 : Int), .int .i64 (vK l 1 : Int), .int .i64 (vK l 2 : Int), .int .i64 (vK l 3 : Int), .int .i64 0, .int .i64 0, .int .i64 0, .int .u64 0, .int .u64 0, .int .i64 0] 25 (0, 0)) := KE.out
      have G3 : Hid (Grew wr (wr.alloc (.cells #[.func (.func 57) #[] #[.pointer (some ⟨FB 4, 0, none⟩), .pointer (some ⟨FA 4, 0, none⟩)], .func (.func 58) #[] #[.pointer (some ⟨FA 4, 0, none⟩), .pointer (some ⟨FB 4, 0, none⟩)]] 52))) := Lib.hid (by unfold Grew; go_grown)
      have KC := Lib.hid (read4 (wr.alloc (.cells #[.func (.func 57) #[] #[.pointer (some ⟨FB 4, 0, none⟩), .pointer (some ⟨FA 4, 0, none⟩)], .func (.func 58) #[] #[.pointer (some ⟨FA 4, 0, none⟩), .pointer (some ⟨FB 4, 0, none⟩)]] 52)) lo E sg E (FA 4) (FB 4) (sK l 4) (sK l 5) (vK l 4) _ _ _ _ _ _ _ _ _ _ (KS.out.grew G3.out) (PA.keepB hE G3.out) HED.out HSG.out (PA.keepB KF.out.a4 G3.out) (PA.keepB KF.out.b4 G3.out) rfl (v1 l 4 rfl))
      have c0 : wr.cell? ⟨g, 8, none⟩ = some (.func (.func 57) #[] #[.pointer (some ⟨FB 4, 0, none⟩), .pointer (some ⟨FA 4, 0, none⟩)]) := by rw [cell_of_row _ _ _ _ _ _ KF.out.row]; rfl
      have c1 : wr.cell? ⟨g, 9, none⟩ = some (.func (.func 58) #[] #[.pointer (some ⟨FA 4, 0, none⟩), .pointer (some ⟨FB 4, 0, none⟩)]) := by rw [cell_of_row _ _ _ _ _ _ KF.out.row]; rfl
      clear hE
      go_wp2_with fail
      refine KC.out.mono ?_
      rintro e w5 ⟨rfl, hs, he, hk⟩
      have KS5 := Lib.hid hs
      have KE5 : Hid (w5.heap[E]? = some (.cells (cK l 5) 25 (0, 0))) := Lib.hid he
      have KK5 : Hid (Kp w3.heap.size (pt sg) E w3 w5) := Lib.hid ((KK.out.trans (Kp.below (Below.mono (show Below wr.heap.size wr _ from G3.out) KK.out.size))).trans (kp_mono hk (Nat.le_trans KK.out.size G3.out.size)))
      clear hs he hk c0 c1
      go_wp2
      go_roundg 5
      case measure => omega
      case rel => exact ⟨5, by omega, by first | rfl | (simp; done), KS5, KE5, KK5⟩
    · have hE : wr.heap[E]? = some (.cells #[.int .u64 (vK l 0 : Int), .int .i64 (vK l 1 : Int), .int .i64 (vK l 2 : Int), .int .i64 (vK l 3 : Int), .int .i64 (vK l 4 : Int), .int .i64 0, .int .i64 0, .int .u64 0, .int .u64 0, .int .i64 0] 25 (0, 0)) := KE.out
      have G3 : Hid (Grew wr (wr.alloc (.cells #[.func (.func 57) #[] #[.pointer (some ⟨FB 5, 0, none⟩), .pointer (some ⟨FA 5, 0, none⟩)], .func (.func 58) #[] #[.pointer (some ⟨FA 5, 0, none⟩), .pointer (some ⟨FB 5, 0, none⟩)]] 52))) := Lib.hid (by unfold Grew; go_grown)
      have KC := Lib.hid (read5 (wr.alloc (.cells #[.func (.func 57) #[] #[.pointer (some ⟨FB 5, 0, none⟩), .pointer (some ⟨FA 5, 0, none⟩)], .func (.func 58) #[] #[.pointer (some ⟨FA 5, 0, none⟩), .pointer (some ⟨FB 5, 0, none⟩)]] 52)) lo E sg E (FA 5) (FB 5) (sK l 5) (sK l 6) (vK l 5) _ _ _ _ _ _ _ _ _ _ (KS.out.grew G3.out) (PA.keepB hE G3.out) HED.out HSG.out (PA.keepB KF.out.a5 G3.out) (PA.keepB KF.out.b5 G3.out) rfl (v1 l 5 rfl))
      have c0 : wr.cell? ⟨g, 10, none⟩ = some (.func (.func 57) #[] #[.pointer (some ⟨FB 5, 0, none⟩), .pointer (some ⟨FA 5, 0, none⟩)]) := by rw [cell_of_row _ _ _ _ _ _ KF.out.row]; rfl
      have c1 : wr.cell? ⟨g, 11, none⟩ = some (.func (.func 58) #[] #[.pointer (some ⟨FA 5, 0, none⟩), .pointer (some ⟨FB 5, 0, none⟩)]) := by rw [cell_of_row _ _ _ _ _ _ KF.out.row]; rfl
      clear hE
      go_wp2_with fail
      refine KC.out.mono ?_
      rintro e w5 ⟨rfl, hs, he, hk⟩
      have KS5 := Lib.hid hs
      have KE5 : Hid (w5.heap[E]? = some (.cells (cK l 6) 25 (0, 0))) := Lib.hid he
      have KK5 : Hid (Kp w3.heap.size (pt sg) E w3 w5) := Lib.hid ((KK.out.trans (Kp.below (Below.mono (show Below wr.heap.size wr _ from G3.out) KK.out.size))).trans (kp_mono hk (Nat.le_trans KK.out.size G3.out.size)))
      clear hs he hk c0 c1
      go_wp2
      go_roundg 4
      case measure => omega
      case rel => exact ⟨6, by omega, by first | rfl | (simp; done), KS5, KE5, KK5⟩
    · have hE : wr.heap[E]? = some (.cells #[.int .u64 (vK l 0 : Int), .int .i64 (vK l 1 : Int), .int .i64 (vK l 2 : Int), .int .i64 (vK l 3 : Int), .int .i64 (vK l 4 : Int), .int .i64 (vK l 5 : Int), .int .i64 0, .int .u64 0, .int .u64 0, .int .i64 0] 25 (0, 0)) := KE.out
      have G3 : Hid (Grew wr (wr.alloc (.cells #[.func (.func 57) #[] #[.pointer (some ⟨FB 6, 0, none⟩), .pointer (some ⟨FA 6, 0, none⟩)], .func (.func 58) #[] #[.pointer (some ⟨FA 6, 0, none⟩), .pointer (some ⟨FB 6, 0, none⟩)]] 52))) := Lib.hid (by unfold Grew; go_grown)
      have KC := Lib.hid (read6 (wr.alloc (.cells #[.func (.func 57) #[] #[.pointer (some ⟨FB 6, 0, none⟩), .pointer (some ⟨FA 6, 0, none⟩)], .func (.func 58) #[] #[.pointer (some ⟨FA 6, 0, none⟩), .pointer (some ⟨FB 6, 0, none⟩)]] 52)) lo E sg E (FA 6) (FB 6) (sK l 6) (sK l 7) (vK l 6) _ _ _ _ _ _ _ _ _ _ (KS.out.grew G3.out) (PA.keepB hE G3.out) HED.out HSG.out (PA.keepB KF.out.a6 G3.out) (PA.keepB KF.out.b6 G3.out) rfl (v1 l 6 rfl))
      have c0 : wr.cell? ⟨g, 12, none⟩ = some (.func (.func 57) #[] #[.pointer (some ⟨FB 6, 0, none⟩), .pointer (some ⟨FA 6, 0, none⟩)]) := by rw [cell_of_row _ _ _ _ _ _ KF.out.row]; rfl
      have c1 : wr.cell? ⟨g, 13, none⟩ = some (.func (.func 58) #[] #[.pointer (some ⟨FA 6, 0, none⟩), .pointer (some ⟨FB 6, 0, none⟩)]) := by rw [cell_of_row _ _ _ _ _ _ KF.out.row]; rfl
      clear hE
      go_wp2_with fail
      refine KC.out.mono ?_
      rintro e w5 ⟨rfl, hs, he, hk⟩
      have KS5 := Lib.hid hs
      have KE5 : Hid (w5.heap[E]? = some (.cells (cK l 7) 25 (0, 0))) := Lib.hid he
      have KK5 : Hid (Kp w3.heap.size (pt sg) E w3 w5) := Lib.hid ((KK.out.trans (Kp.below (Below.mono (show Below wr.heap.size wr _ from G3.out) KK.out.size))).trans (kp_mono hk (Nat.le_trans KK.out.size G3.out.size)))
      clear hs he hk c0 c1
      go_wp2
      go_roundg 3
      case measure => omega
      case rel => exact ⟨7, by omega, by first | rfl | (simp; done), KS5, KE5, KK5⟩
    · have hE : wr.heap[E]? = some (.cells #[.int .u64 (vK l 0 : Int), .int .i64 (vK l 1 : Int), .int .i64 (vK l 2 : Int), .int .i64 (vK l 3 : Int), .int .i64 (vK l 4 : Int), .int .i64 (vK l 5 : Int), .int .i64 (vK l 6 : Int), .int .u64 0, .int .u64 0, .int .i64 0] 25 (0, 0)) := KE.out
      have G3 : Hid (Grew wr (wr.alloc (.cells #[.func (.func 53) #[] #[.pointer (some ⟨FB 7, 0, none⟩), .pointer (some ⟨FA 7, 0, none⟩)], .func (.func 55) #[] #[.pointer (some ⟨FA 7, 0, none⟩), .pointer (some ⟨FB 7, 0, none⟩)]] 52))) := Lib.hid (by unfold Grew; go_grown)
      have KC := Lib.hid (read7 (wr.alloc (.cells #[.func (.func 53) #[] #[.pointer (some ⟨FB 7, 0, none⟩), .pointer (some ⟨FA 7, 0, none⟩)], .func (.func 55) #[] #[.pointer (some ⟨FA 7, 0, none⟩), .pointer (some ⟨FB 7, 0, none⟩)]] 52)) lo E sg E (FA 7) (FB 7) (sK l 7) (sK l 8) (vK l 7) _ _ _ _ _ _ _ _ _ _ (KS.out.grew G3.out) (PA.keepB hE G3.out) HED.out HSG.out (PA.keepB KF.out.a7 G3.out) (PA.keepB KF.out.b7 G3.out) rfl)
      have c0 : wr.cell? ⟨g, 14, none⟩ = some (.func (.func 53) #[] #[.pointer (some ⟨FB 7, 0, none⟩), .pointer (some ⟨FA 7, 0, none⟩)]) := by rw [cell_of_row _ _ _ _ _ _ KF.out.row]; rfl
      have c1 : wr.cell? ⟨g, 15, none⟩ = some (.func (.func 55) #[] #[.pointer (some ⟨FA 7, 0, none⟩), .pointer (some ⟨FB 7, 0, none⟩)]) := by rw [cell_of_row _ _ _ _ _ _ KF.out.row]; rfl
      clear hE
      go_wp2_with fail
      refine KC.out.mono ?_
      rintro e w5 ⟨rfl, hs, he, hk⟩
      have KS5 := Lib.hid hs
      have KE5 : Hid (w5.heap[E]? = some (.cells (cK l 8) 25 (0, 0))) := Lib.hid he
      have KK5 : Hid (Kp w3.heap.size (pt sg) E w3 w5) := Lib.hid ((KK.out.trans (Kp.below (Below.mono (show Below wr.heap.size wr _ from G3.out) KK.out.size))).trans (kp_mono hk (Nat.le_trans KK.out.size G3.out.size)))
      clear hs he hk c0 c1
      go_wp2
      go_roundg 2
      case measure => omega
      case rel => exact ⟨8, by omega, by first | rfl | (simp; done), KS5, KE5, KK5⟩
    · have hE : wr.heap[E]? = some (.cells #[.int .u64 (vK l 0 : Int), .int .i64 (vK l 1 : Int), .int .i64 (vK l 2 : Int), .int .i64 (vK l 3 : Int), .int .i64 (vK l 4 : Int), .int .i64 (vK l 5 : Int), .int .i64 (vK l 6 : Int), .int .u64 (vK l 7 : Int), .int .u64 0, .int .i64 0] 25 (0, 0)) := KE.out
      have G3 : Hid (Grew wr (wr.alloc (.cells #[.func (.func 53) #[] #[.pointer (some ⟨FB 8, 0, none⟩), .pointer (some ⟨FA 8, 0, none⟩)], .func (.func 55) #[] #[.pointer (some ⟨FA 8, 0, none⟩), .pointer (some ⟨FB 8, 0, none⟩)]] 52))) := Lib.hid (by unfold Grew; go_grown)
      have KC := Lib.hid (read8 (wr.alloc (.cells #[.func (.func 53) #[] #[.pointer (some ⟨FB 8, 0, none⟩), .pointer (some ⟨FA 8, 0, none⟩)], .func (.func 55) #[] #[.pointer (some ⟨FA 8, 0, none⟩), .pointer (some ⟨FB 8, 0, none⟩)]] 52)) lo E sg E (FA 8) (FB 8) (sK l 8) (sK l 9) (vK l 8) _ _ _ _ _ _ _ _ _ _ (KS.out.grew G3.out) (PA.keepB hE G3.out) HED.out HSG.out (PA.keepB KF.out.a8 G3.out) (PA.keepB KF.out.b8 G3.out) rfl)
      have c0 : wr.cell? ⟨g, 16, none⟩ = some (.func (.func 53) #[] #[.pointer (some ⟨FB 8, 0, none⟩), .pointer (some ⟨FA 8, 0, none⟩)]) := by rw [cell_of_row _ _ _ _ _ _ KF.out.row]; rfl
      have c1 : wr.cell? ⟨g, 17, none⟩ = some (.func (.func 55) #[] #[.pointer (some ⟨FA 8, 0, none⟩), .pointer (some ⟨FB 8, 0, none⟩)]) := by rw [cell_of_row _ _ _ _ _ _ KF.out.row]; rfl
      clear hE
      go_wp2_with fail
      refine KC.out.mono ?_
      rintro e w5 ⟨rfl, hs, he, hk⟩
      have KS5 := Lib.hid hs
      have KE5 : Hid (w5.heap[E]? = some (.cells (cK l 9) 25 (0, 0))) := Lib.hid he
      have KK5 : Hid (Kp w3.heap.size (pt sg) E w3 w5) := Lib.hid ((KK.out.trans (Kp.below (Below.mono (show Below wr.heap.size wr _ from G3.out) KK.out.size))).trans (kp_mono hk (Nat.le_trans KK.out.size G3.out.size)))
      clear hs he hk c0 c1
      go_wp2
      go_roundg 1
      case measure => omega
      case rel => exact ⟨9, by omega, by first | rfl | (simp; done), KS5, KE5, KK5⟩
    · have hE : wr.heap[E]? = some (.cells #[.int .u64 (vK l 0 : Int), .int .i64 (vK l 1 : Int), .int .i64 (vK l 2 : Int), .int .i64 (vK l 3 : Int), .int .i64 (vK l 4 : Int), .int .i64 (vK l 5 : Int), .int .i64 (vK l 6 : Int), .int .u64 (vK l 7 : Int), .int .u64 (vK l 8 : Int), .int .i64 0] 25 (0, 0)) := KE.out
      have G3 : Hid (Grew wr (wr.alloc (.cells #[.func (.func 57) #[] #[.pointer (some ⟨FB 9, 0, none⟩), .pointer (some ⟨FA 9, 0, none⟩)], .func (.func 58) #[] #[.pointer (some ⟨FA 9, 0, none⟩), .pointer (some ⟨FB 9, 0, none⟩)]] 52))) := Lib.hid (by unfold Grew; go_grown)
      have KC := Lib.hid (read9 (wr.alloc (.cells #[.func (.func 57) #[] #[.pointer (some ⟨FB 9, 0, none⟩), .pointer (some ⟨FA 9, 0, none⟩)], .func (.func 58) #[] #[.pointer (some ⟨FA 9, 0, none⟩), .pointer (some ⟨FB 9, 0, none⟩)]] 52)) lo E sg E (FA 9) (FB 9) (sK l 9) (sK l 10) (vK l 9) _ _ _ _ _ _ _ _ _ _ (KS.out.grew G3.out) (PA.keepB hE G3.out) HED.out HSG.out (PA.keepB KF.out.a9 G3.out) (PA.keepB KF.out.b9 G3.out) rfl (v1 l 9 rfl))
      have c0 : wr.cell? ⟨g, 18, none⟩ = some (.func (.func 57) #[] #[.pointer (some ⟨FB 9, 0, none⟩), .pointer (some ⟨FA 9, 0, none⟩)]) := by rw [cell_of_row _ _ _ _ _ _ KF.out.row]; rfl
      have c1 : wr.cell? ⟨g, 19, none⟩ = some (.func (.func 58) #[] #[.pointer (some ⟨FA 9, 0, none⟩), .pointer (some ⟨FB 9, 0, none⟩)]) := by rw [cell_of_row _ _ _ _ _ _ KF.out.row]; rfl
      clear hE
      go_wp2_with fail
      refine KC.out.mono ?_
      rintro e w5 ⟨rfl, hs, he, hk⟩
      have KS5 := Lib.hid hs
      have KE5 : Hid (w5.heap[E]? = some (.cells (cK l 10) 25 (0, 0))) := Lib.hid he
      have KK5 : Hid (Kp w3.heap.size (pt sg) E w3 w5) := Lib.hid ((KK.out.trans (Kp.below (Below.mono (show Below wr.heap.size wr _ from G3.out) KK.out.size))).trans (kp_mono hk (Nat.le_trans KK.out.size G3.out.size)))
      clear hs he hk c0 c1
      go_wp2
      go_roundg 0
      case measure => omega
      case rel => exact ⟨10, by omega, by first | rfl | (simp; done), KS5, KE5, KK5⟩
    · have RB : Hid (wr.heap[R]? = some (.cells #[.int .u64 0, .int .i64 0, .int .i64 0, .int .i64 0, .int .i64 0, .int .i64 0, .int .i64 0, .int .u64 0, .int .u64 0, .int .i64 0] 25 (0, 0))) := Lib.hid (kp_keepB KK.out RB3.out (by have := HLE.out; omega) (by have := HLOW.out; omega))
      have GF : Hid (Grew w wr) := Lib.hid (KK.out.grew G3.out G3.out.size (by have := HLE.out; have := HRH.out; omega) (fun k hk => by have := HLOW.out; have := HRH.out; simp [blk] at hk; omega))
      have HEND := Lib.hid (end_any wr lo E (pt sg) (sK l 10) KS.out)
      clear KS KK KF HF BE3 HSB3 HSC3 RB3 G3
      have hEC0 : wr.heap[E]? = some (.cells #[.int .u64 (vK l 0 : Int), .int .i64 (vK l 1 : Int), .int .i64 (vK l 2 : Int), .int .i64 (vK l 3 : Int), .int .i64 (vK l 4 : Int), .int .i64 (vK l 5 : Int), .int .i64 (vK l 6 : Int), .int .u64 (vK l 7 : Int), .int .u64 (vK l 8 : Int), .int .i64 (vK l 9 : Int)] 25 (0, 0)) := KE.out
      have HEC := Lib.hid hEC0
      clear hEC0 KE hst
      by_cases hfin : (sK l 10).fin = 0
      · rw [hfin] at HEND
        cases hok : okE (decE l) with
        | true =>
          have hr : ((decE l, 0) : En × Int) = RES := by rw [← HRES.out]; unfold readP; rw [if_pos hfin, if_pos hok]
          rw [show okE (⟨vK l 0, vK l 1, vK l 2, vK l 3, vK l 4, vK l 5, vK l 6, vK l 7, vK l 8, vK l 9⟩ : En) = true from hok] at HMAY
          clear HRES
          subst hr
          clear hfin hok
          obtain ⟨c0, c1, c2, c3, c4, c5, c6, c7, c8, c9⟩ := ten_c HEC.out
          go_wp2_with fail
          refine HEND.out.mono ?_
          rintro e w5 ⟨rfl, hw⟩
          subst hw
          go_wp2_with fail
          refine (HMAY.out _).mono ?_
          rintro e w6 ⟨rfl, hg⟩
          have RB6 := Lib.hid (PA.keepB RB.out hg)
          have GF6 := Lib.hid (GF.out.trans hg)
          clear c0 c1 c2 c3 c4 c5 c6 c7 c8 c9
          obtain ⟨c0, c1, c2, c3, c4, c5, c6, c7, c8, c9⟩ := ten_c (PA.keepB HEC.out hg)
          clear hg RB GF
          obtain ⟨W7, hst7, hb7, hg7⟩ := store10 RB6.out (.int .u64 (vK l 0 : Int)) (.int .i64 (vK l 1 : Int)) (.int .i64 (vK l 2 : Int)) (.int .i64 (vK l 3 : Int)) (.int .i64 (vK l 4 : Int)) (.int .i64 (vK l 5 : Int)) (.int .i64 (vK l 6 : Int)) (.int .u64 (vK l 7 : Int)) (.int .u64 (vK l 8 : Int)) (.int .i64 (vK l 9 : Int)) (by intro u hu; simp only [List.mem_cons, List.not_mem_nil, or_false] at hu; rcases hu with rfl | rfl | rfl | rfl | rfl | rfl | rfl | rfl | rfl | rfl <;> rfl)
          have HST := Lib.hid hst7
          have GW := Lib.hid (hg7 w GF6.out (by have := HRH.out; omega))
          obtain ⟨e0, e1, e2, e3, e4, e5, e6, e7, e8, e9⟩ := ten_c hb7
          clear hst7 hb7 hg7
          go_wp2_with (first | refine wpList_store (by rfl) 25 (.tmp 2) (.tmp 32) (by with_reducible rfl) _ _ (by rfl) (by rfl) _ HST.out ?_)
          refine bodyPost_ret (by simp [results, Try.results14, go_sem, e0, e1, e2, e3, e4, e5, e6, e7, e8, e9]; try rfl) rfl ?_
          exact ⟨rfl, GW.out⟩

        | false =>
          have hr : ((zen, 2) : En × Int) = RES := by rw [← HRES.out]; unfold readP; rw [if_pos hfin, if_neg (by rw [hok]; decide)]
          rw [show okE (⟨vK l 0, vK l 1, vK l 2, vK l 3, vK l 4, vK l 5, vK l 6, vK l 7, vK l 8, vK l 9⟩ : En) = false from hok] at HMAY
          clear HRES
          subst hr
          clear hfin hok
          obtain ⟨c0, c1, c2, c3, c4, c5, c6, c7, c8, c9⟩ := ten_c HEC.out
          go_wp2_with fail
          refine HEND.out.mono ?_
          rintro e w5 ⟨rfl, hw⟩
          subst hw
          go_wp2_with fail
          refine (HMAY.out _).mono ?_
          rintro e w6 ⟨rfl, hg⟩
          have RB6 := Lib.hid (PA.keepB RB.out hg)
          have GF6 := Lib.hid (GF.out.trans hg)
          clear hg RB GF c0 c1 c2 c3 c4 c5 c6 c7 c8 c9
          obtain ⟨W7, hst7, hb7, hg7⟩ := store10 RB6.out (.int .u64 0) (.int .i64 0) (.int .i64 0) (.int .i64 0) (.int .i64 0) (.int .i64 0) (.int .i64 0) (.int .u64 0) (.int .u64 0) (.int .i64 0) (by intro u hu; simp only [List.mem_cons, List.not_mem_nil, or_false] at hu; rcases hu with rfl | rfl | rfl | rfl | rfl | rfl | rfl | rfl | rfl | rfl <;> rfl)
          have HST := Lib.hid hst7
          have GW := Lib.hid (hg7 w GF6.out (by have := HRH.out; omega))
          obtain ⟨e0, e1, e2, e3, e4, e5, e6, e7, e8, e9⟩ := ten_c hb7
          clear hst7 hb7 hg7
          go_wp2_with (first | refine wpList_store (by rfl) 25 (.tmp 2) (.tmp 31) (by with_reducible rfl) _ _ (by rfl) (by rfl) _ HST.out ?_)
          refine bodyPost_ret (by simp [results, Try.results14, go_sem, e0, e1, e2, e3, e4, e5, e6, e7, e8, e9]; try rfl) rfl ?_
          exact ⟨rfl, GW.out⟩

      · obtain ⟨f, hff⟩ : ∃ f, (sK l 10).fin = f := ⟨_, rfl⟩
        have hr : ((zen, f) : En × Int) = RES := by rw [← HRES.out]; unfold readP; rw [if_neg hfin, hff]
        rw [hff] at HEND hfin
        clear HRES hff
        subst hr
        have hf1 : (f == 0) = false := by simp; exact hfin
        have hf2 : (f != 0) = true := by simp; exact hfin
        clear hfin
        go_wp2_with fail
        refine HEND.out.mono ?_
        rintro e w5 ⟨rfl, hw⟩
        subst hw
        have RB6 := Lib.hid RB.out
        have GF6 := Lib.hid GF.out
        clear RB GF
        obtain ⟨W7, hst7, hb7, hg7⟩ := store10 RB6.out (.int .u64 0) (.int .i64 0) (.int .i64 0) (.int .i64 0) (.int .i64 0) (.int .i64 0) (.int .i64 0) (.int .u64 0) (.int .u64 0) (.int .i64 0) (by intro u hu; simp only [List.mem_cons, List.not_mem_nil, or_false] at hu; rcases hu with rfl | rfl | rfl | rfl | rfl | rfl | rfl | rfl | rfl | rfl <;> rfl)
        have HST := Lib.hid hst7
        have GW := Lib.hid (hg7 w GF6.out (by have := HRH.out; omega))
        obtain ⟨e0, e1, e2, e3, e4, e5, e6, e7, e8, e9⟩ := ten_c hb7
        clear hst7 hb7 hg7
        go_wp2_with (first | refine wpList_store (by rfl) 25 (.tmp 2) (.tmp 26) (by with_reducible rfl) _ _ (by rfl) (by rfl) _ HST.out ?_)
        refine bodyPost_ret (by simp [results, Try.results14, go_sem, e0, e1, e2, e3, e4, e5, e6, e7, e8, e9]; try rfl) rfl ?_
        exact ⟨rfl, GW.out⟩

end Go.Proofs.Ytmnfajplfnfgpab.UO
