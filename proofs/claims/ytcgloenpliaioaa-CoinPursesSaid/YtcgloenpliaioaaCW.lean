/-
  CoinPurses, walked.
  Conditions: those that each lemma names.
-/
import Derived.Test.YtcgloenpliaioaaCU
namespace Go.Proofs.Ytcgloenpliaioaa.CW
set_option maxRecDepth 100000
open Go Go.RowKit Go.Proofs.Ytcgloenpliaioaa Go.Proofs.Ytcgloenpliaioaa.Facts Go.Proofs.Ytcgloenpliaioaa.Bytes Go.Proofs.Ytcgloenpliaioaa.CA Go.Proofs.Ytcgloenpliaioaa.CB Go.Proofs.Ytcgloenpliaioaa.CS Go.Proofs.Ytcgloenpliaioaa.CT Go.Proofs.Ytcgloenpliaioaa.CU
/-- A purse's variable. -/
def PB (w : World) (b : Nat) (a0 a1 a2 a3 : Nat) : Prop := w.heap[b]? = some (.cells #[.int .u64 (a0 : Int), .int .u64 (a1 : Int), .int .u64 (a2 : Int), .int .u64 (a3 : Int)] 31)
theorem PB.grew {w w' : World} {b a0 a1 a2 a3 : Nat} (h : PB w b a0 a1 a2 a3) (hg : Grew w w') : PB w' b a0 a1 a2 a3 := (hg.block b (Array.getElem?_eq_some_iff.1 h).1).trans h
theorem PB.cells {w : World} {b a0 a1 a2 a3 : Nat} (h : PB w b a0 a1 a2 a3) : w.cell? ⟨b, 0, none⟩ = some (.int .u64 (a0 : Int)) ∧ w.cell? ⟨b, 1, none⟩ = some (.int .u64 (a1 : Int)) ∧ w.cell? ⟨b, 2, none⟩ = some (.int .u64 (a2 : Int)) ∧ w.cell? ⟨b, 3, none⟩ = some (.int .u64 (a3 : Int)) := by
  refine ⟨?_, ?_, ?_, ?_⟩ <;> (unfold World.cell?; simp only [show w.heap[b]? = _ from h]; rfl)
theorem PB.new (w : World) (a0 a1 a2 a3 : Nat) : PB (w.alloc (.cells #[.int .u64 (a0 : Int), .int .u64 (a1 : Int), .int .u64 (a2 : Int), .int .u64 (a3 : Int)] 31)) w.heap.size a0 a1 a2 a3 := heap_alloc_new w _
theorem grew_new (w : World) (o : Obj) : Grew w (w.alloc o) := (Below.refl _ w).alloc (Nat.le_refl _) _

set_option maxHeartbeats 2000000 in
theorem purses_any (p0 p1 p2 p3 n : Nat) (k : Int) (h0 : p0 < 18446744073709551616) (h1 : p1 < 18446744073709551616) (h2 : p2 < 18446744073709551616) (h3 : p3 < 18446744073709551616) (hn : n < 18446744073709551616) (w : World) :
    Calls Try.prog 4 #[pv p0 p1 p2 p3, .int .i64 k, .int .u64 (n : Int)] w fun e w' => e = .returned (.bool true) ∧ Grew w w' := by
  obtain ⟨x0, x1, x2, x3, q, hx⟩ := give_both_any p0 p1 p2 p3 n h0 h1 h2 h3 hn k
  obtain ⟨y0, y1, y2, y3, r, hy⟩ := take_both_any p0 p1 p2 p3 n h0 h1 h2 h3 hn k
  have HX := Lib.hid hx
  have HY := Lib.hid hy
  clear hx hy h0 h1 h2 h3 hn
  unfold pv at HX HY ⊢
  go_enter Try.func4, Try.ntmps4
  go_upto_region 1 with fail
  have HP := Lib.hid (PB.new w p0 p1 p2 p3)
  have HG0 := Lib.hid (grew_new w (.cells #[.int .u64 (p0 : Int), .int .u64 (p1 : Int), .int .u64 (p2 : Int), .int .u64 (p3 : Int)] 31))
  obtain ⟨c0, c1, c2, c3⟩ := HP.out.cells
  generalize w.alloc (.cells #[.int .u64 (p0 : Int), .int .u64 (p1 : Int), .int .u64 (p2 : Int), .int .u64 (p3 : Int)] 31) = W0 at *
  generalize w.heap.size = B0 at *
  go_wp2_with fail
  refine ((HX.out _).1).mono ?_
  rintro e w1 ⟨rfl, hg⟩
  have HGa := Lib.hid hg
  clear hg
  go_upto_region 2 with fail
  have HQ1 := Lib.hid (PB.new w1 x0 x1 x2 x3)
  have HGb := Lib.hid (HGa.out.trans (grew_new w1 (.cells #[.int .u64 (x0 : Int), .int .u64 (x1 : Int), .int .u64 (x2 : Int), .int .u64 (x3 : Int)] 31)))
  have HP1 := Lib.hid (HP.out.grew HGb.out)
  have HG1 := Lib.hid (HG0.out.trans HGb.out)
  clear c0 c1 c2 c3
  generalize w1.alloc (.cells #[.int .u64 (x0 : Int), .int .u64 (x1 : Int), .int .u64 (x2 : Int), .int .u64 (x3 : Int)] 31) = W1 at *
  generalize w1.heap.size = B1 at *
  clear HGa HGb
  obtain ⟨c0, c1, c2, c3⟩ := HP1.out.cells
  go_wp2_with fail
  refine ((HX.out _).2).mono ?_
  rintro e w2 ⟨rfl, hg⟩
  have HGa := Lib.hid hg
  clear hg
  go_upto_region 3 with fail
  have HQ2 := Lib.hid (PB.new w2 x0 x1 x2 x3)
  have HGb := Lib.hid (HGa.out.trans (grew_new w2 (.cells #[.int .u64 (x0 : Int), .int .u64 (x1 : Int), .int .u64 (x2 : Int), .int .u64 (x3 : Int)] 31)))
  have HP2 := Lib.hid (HP1.out.grew HGb.out)
  have HG2 := Lib.hid (HG1.out.trans HGb.out)
  have HQ12 := Lib.hid (HQ1.out.grew HGb.out)
  clear c0 c1 c2 c3
  generalize w2.alloc (.cells #[.int .u64 (x0 : Int), .int .u64 (x1 : Int), .int .u64 (x2 : Int), .int .u64 (x3 : Int)] 31) = W2 at *
  generalize w2.heap.size = B2 at *
  clear HGa HGb
  obtain ⟨c0, c1, c2, c3⟩ := HP2.out.cells
  go_wp2_with fail
  refine ((HY.out _).1).mono ?_
  rintro e w3 ⟨rfl, hg⟩
  have HGa := Lib.hid hg
  clear hg
  go_upto_region 4 with fail
  have HQ3 := Lib.hid (PB.new w3 y0 y1 y2 y3)
  have HGb := Lib.hid (HGa.out.trans (grew_new w3 (.cells #[.int .u64 (y0 : Int), .int .u64 (y1 : Int), .int .u64 (y2 : Int), .int .u64 (y3 : Int)] 31)))
  have HP3 := Lib.hid (HP2.out.grew HGb.out)
  have HG3 := Lib.hid (HG2.out.trans HGb.out)
  have HQ13 := Lib.hid (HQ12.out.grew HGb.out)
  have HQ23 := Lib.hid (HQ2.out.grew HGb.out)
  clear c0 c1 c2 c3
  generalize w3.alloc (.cells #[.int .u64 (y0 : Int), .int .u64 (y1 : Int), .int .u64 (y2 : Int), .int .u64 (y3 : Int)] 31) = W3 at *
  generalize w3.heap.size = B3 at *
  clear HGa HGb
  obtain ⟨c0, c1, c2, c3⟩ := HP3.out.cells
  go_wp2_with fail
  refine ((HY.out _).2).mono ?_
  rintro e w4 ⟨rfl, hg⟩
  have HGa := Lib.hid hg
  clear hg
  go_upto_region 5 with fail
  have HQ4 := Lib.hid (PB.new w4 y0 y1 y2 y3)
  have HGb := Lib.hid (HGa.out.trans (grew_new w4 (.cells #[.int .u64 (y0 : Int), .int .u64 (y1 : Int), .int .u64 (y2 : Int), .int .u64 (y3 : Int)] 31)))
  have HP4 := Lib.hid (HP3.out.grew HGb.out)
  have HG4 := Lib.hid (HG3.out.trans HGb.out)
  have HQ14 := Lib.hid (HQ13.out.grew HGb.out)
  have HQ24 := Lib.hid (HQ23.out.grew HGb.out)
  have HQ34 := Lib.hid (HQ3.out.grew HGb.out)
  clear c0 c1 c2 c3
  generalize w4.alloc (.cells #[.int .u64 (y0 : Int), .int .u64 (y1 : Int), .int .u64 (y2 : Int), .int .u64 (y3 : Int)] 31) = W4 at *
  generalize w4.heap.size = B4 at *
  clear HGa HGb
  go_wp2_with fail
  refine (alive_any _).mono ?_
  rintro e w5 ⟨rfl, hg⟩
  have HG5 := Lib.hid (HG4.out.trans hg)
  obtain ⟨a10, a11, a12, a13⟩ := (HQ14.out.grew hg).cells
  obtain ⟨a20, a21, a22, a23⟩ := (HQ24.out.grew hg).cells
  obtain ⟨a30, a31, a32, a33⟩ := (HQ34.out.grew hg).cells
  obtain ⟨a40, a41, a42, a43⟩ := (HQ4.out.grew hg).cells
  clear hg
  have kx := eq4 x0 x1 x2 x3
  have ky := eq4 y0 y1 y2 y3
  go_wp2
  go_ret
  exact ⟨rfl, HG5.out⟩
end Go.Proofs.Ytcgloenpliaioaa.CW
