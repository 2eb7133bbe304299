/-
  The list of the fields.
  Conditions: those that each lemma names.
-/
import Derived.Test.YtmnfajplfnfgpabUI
namespace Go.Proofs.Ytmnfajplfnfgpab.UJ
set_option maxRecDepth 100000
open Go Go.RowKit Go.Lib Go.Proofs.Ytmnfajplfnfgpab Go.Proofs.Ytmnfajplfnfgpab.Facts Go.Proofs.Ytmnfajplfnfgpab.Ints Go.Proofs.Ytmnfajplfnfgpab.PA Go.Proofs.Ytmnfajplfnfgpab.UA Go.Proofs.Ytmnfajplfnfgpab.UM Go.Proofs.Ytmnfajplfnfgpab.UB Go.Proofs.Ytmnfajplfnfgpab.UC Go.Proofs.Ytmnfajplfnfgpab.UD Go.Proofs.Ytmnfajplfnfgpab.UF Go.Proofs.Ytmnfajplfnfgpab.UH Go.Proofs.Ytmnfajplfnfgpab.UI Go.Proofs.Ytmnfajplfnfgpab.Bytes Go.Proofs.Ytmnfajplfnfgpab.Puts


/-- The list of the fields at block g, with the blocks of their sizes (A) and places (B). -/
structure Fld (W : World) (g : Nat) (A B : Nat → Nat) : Prop where
  row : W.heap[g]? = some (.cells #[.func (.func 53) #[] #[.pointer (some ⟨(B 0), 0, none⟩), .pointer (some ⟨(A 0), 0, none⟩)], .func (.func 55) #[] #[.pointer (some ⟨(A 0), 0, none⟩), .pointer (some ⟨(B 0), 0, none⟩)], .func (.func 57) #[] #[.pointer (some ⟨(B 1), 0, none⟩), .pointer (some ⟨(A 1), 0, none⟩)], .func (.func 58) #[] #[.pointer (some ⟨(A 1), 0, none⟩), .pointer (some ⟨(B 1), 0, none⟩)], .func (.func 57) #[] #[.pointer (some ⟨(B 2), 0, none⟩), .pointer (some ⟨(A 2), 0, none⟩)], .func (.func 58) #[] #[.pointer (some ⟨(A 2), 0, none⟩), .pointer (some ⟨(B 2), 0, none⟩)], .func (.func 57) #[] #[.pointer (some ⟨(B 3), 0, none⟩), .pointer (some ⟨(A 3), 0, none⟩)], .func (.func 58) #[] #[.pointer (some ⟨(A 3), 0, none⟩), .pointer (some ⟨(B 3), 0, none⟩)], .func (.func 57) #[] #[.pointer (some ⟨(B 4), 0, none⟩), .pointer (some ⟨(A 4), 0, none⟩)], .func (.func 58) #[] #[.pointer (some ⟨(A 4), 0, none⟩), .pointer (some ⟨(B 4), 0, none⟩)], .func (.func 57) #[] #[.pointer (some ⟨(B 5), 0, none⟩), .pointer (some ⟨(A 5), 0, none⟩)], .func (.func 58) #[] #[.pointer (some ⟨(A 5), 0, none⟩), .pointer (some ⟨(B 5), 0, none⟩)], .func (.func 57) #[] #[.pointer (some ⟨(B 6), 0, none⟩), .pointer (some ⟨(A 6), 0, none⟩)], .func (.func 58) #[] #[.pointer (some ⟨(A 6), 0, none⟩), .pointer (some ⟨(B 6), 0, none⟩)], .func (.func 53) #[] #[.pointer (some ⟨(B 7), 0, none⟩), .pointer (some ⟨(A 7), 0, none⟩)], .func (.func 55) #[] #[.pointer (some ⟨(A 7), 0, none⟩), .pointer (some ⟨(B 7), 0, none⟩)], .func (.func 53) #[] #[.pointer (some ⟨(B 8), 0, none⟩), .pointer (some ⟨(A 8), 0, none⟩)], .func (.func 55) #[] #[.pointer (some ⟨(A 8), 0, none⟩), .pointer (some ⟨(B 8), 0, none⟩)], .func (.func 57) #[] #[.pointer (some ⟨(B 9), 0, none⟩), .pointer (some ⟨(A 9), 0, none⟩)], .func (.func 58) #[] #[.pointer (some ⟨(A 9), 0, none⟩), .pointer (some ⟨(B 9), 0, none⟩)]] 52 (0, 0))
  a0 : W.heap[A 0]? = some (.cells #[.int .i64 8] 3 (0, 0))
  b0 : W.heap[B 0]? = some (.cells #[.func (.func 37) #[] #[]] 67 (0, 0))
  a1 : W.heap[A 1]? = some (.cells #[.int .i64 1] 3 (0, 0))
  b1 : W.heap[B 1]? = some (.cells #[.func (.func 39) #[] #[]] 70 (0, 0))
  a2 : W.heap[A 2]? = some (.cells #[.int .i64 1] 3 (0, 0))
  b2 : W.heap[B 2]? = some (.cells #[.func (.func 40) #[] #[]] 70 (0, 0))
  a3 : W.heap[A 3]? = some (.cells #[.int .i64 1] 3 (0, 0))
  b3 : W.heap[B 3]? = some (.cells #[.func (.func 41) #[] #[]] 70 (0, 0))
  a4 : W.heap[A 4]? = some (.cells #[.int .i64 1] 3 (0, 0))
  b4 : W.heap[B 4]? = some (.cells #[.func (.func 42) #[] #[]] 70 (0, 0))
  a5 : W.heap[A 5]? = some (.cells #[.int .i64 1] 3 (0, 0))
  b5 : W.heap[B 5]? = some (.cells #[.func (.func 43) #[] #[]] 70 (0, 0))
  a6 : W.heap[A 6]? = some (.cells #[.int .i64 1] 3 (0, 0))
  b6 : W.heap[B 6]? = some (.cells #[.func (.func 44) #[] #[]] 70 (0, 0))
  a7 : W.heap[A 7]? = some (.cells #[.int .i64 8] 3 (0, 0))
  b7 : W.heap[B 7]? = some (.cells #[.func (.func 45) #[] #[]] 67 (0, 0))
  a8 : W.heap[A 8]? = some (.cells #[.int .i64 8] 3 (0, 0))
  b8 : W.heap[B 8]? = some (.cells #[.func (.func 46) #[] #[]] 67 (0, 0))
  a9 : W.heap[A 9]? = some (.cells #[.int .i64 1] 3 (0, 0))
  b9 : W.heap[B 9]? = some (.cells #[.func (.func 47) #[] #[]] 70 (0, 0))
theorem Fld.grew {W W' : World} {g : Nat} {A B : Nat → Nat} (h : Fld W g A B) (hg : Grew W W') : Fld W' g A B :=
  ⟨keepB h.row hg, keepB h.a0 hg, keepB h.b0 hg, keepB h.a1 hg, keepB h.b1 hg, keepB h.a2 hg, keepB h.b2 hg, keepB h.a3 hg, keepB h.b3 hg, keepB h.a4 hg, keepB h.b4 hg, keepB h.a5 hg, keepB h.b5 hg, keepB h.a6 hg, keepB h.b6 hg, keepB h.a7 hg, keepB h.b7 hg, keepB h.a8 hg, keepB h.b8 hg, keepB h.a9 hg, keepB h.b9 hg⟩
set_option maxHeartbeats 4000000 in
theorem fields_any (w : World) : Calls Try.prog 27 #[] w fun e w' => ∃ g A B, e = .returned (.slice (some ⟨g, 0, none⟩) 10 10) ∧ Fld w' g A B ∧ Grew w w' := by
  have hst := fun W a m f x y => run_store_fn W a m f x y
  go_enter Try.func27, Try.ntmps27
  go_wp2_with fail
  refine (sized64 8 37 _).mono ?_
  rintro e w1 ⟨a0, b0, rfl, ha, hb, hg⟩
  have A0 := Lib.hid ha
  have B0 := Lib.hid hb
  have G1 := Lib.hid hg
  clear ha hb hg
  go_wp2_with fail
  refine (sizedI 1 39 _).mono ?_
  rintro e w2 ⟨a1, b1, rfl, ha, hb, hg⟩
  have A1 := Lib.hid ha
  have B1 := Lib.hid hb
  have G2 := Lib.hid hg
  clear ha hb hg
  go_wp2_with fail
  refine (sizedI 1 40 _).mono ?_
  rintro e w3 ⟨a2, b2, rfl, ha, hb, hg⟩
  have A2 := Lib.hid ha
  have B2 := Lib.hid hb
  have G3 := Lib.hid hg
  clear ha hb hg
  go_wp2_with fail
  refine (sizedI 1 41 _).mono ?_
  rintro e w4 ⟨a3, b3, rfl, ha, hb, hg⟩
  have A3 := Lib.hid ha
  have B3 := Lib.hid hb
  have G4 := Lib.hid hg
  clear ha hb hg
  go_wp2_with fail
  refine (sizedI 1 42 _).mono ?_
  rintro e w5 ⟨a4, b4, rfl, ha, hb, hg⟩
  have A4 := Lib.hid ha
  have B4 := Lib.hid hb
  have G5 := Lib.hid hg
  clear ha hb hg
  go_wp2_with fail
  refine (sizedI 1 43 _).mono ?_
  rintro e w6 ⟨a5, b5, rfl, ha, hb, hg⟩
  have A5 := Lib.hid ha
  have B5 := Lib.hid hb
  have G6 := Lib.hid hg
  clear ha hb hg
  go_wp2_with fail
  refine (sizedI 1 44 _).mono ?_
  rintro e w7 ⟨a6, b6, rfl, ha, hb, hg⟩
  have A6 := Lib.hid ha
  have B6 := Lib.hid hb
  have G7 := Lib.hid hg
  clear ha hb hg
  go_wp2_with fail
  refine (sized64 8 45 _).mono ?_
  rintro e w8 ⟨a7, b7, rfl, ha, hb, hg⟩
  have A7 := Lib.hid ha
  have B7 := Lib.hid hb
  have G8 := Lib.hid hg
  clear ha hb hg
  go_wp2_with fail
  refine (sized64 8 46 _).mono ?_
  rintro e w9 ⟨a8, b8, rfl, ha, hb, hg⟩
  have A8 := Lib.hid ha
  have B8 := Lib.hid hb
  have G9 := Lib.hid hg
  clear ha hb hg
  go_wp2_with fail
  refine (sizedI 1 47 _).mono ?_
  rintro e w10 ⟨a9, b9, rfl, ha, hb, hg⟩
  have A9 := Lib.hid ha
  have B9 := Lib.hid hb
  have G10 := Lib.hid hg
  clear ha hb hg
  have KA0 := Lib.hid (keepB A0.out ((G2.out.trans ((G3.out.trans ((G4.out.trans ((G5.out.trans ((G6.out.trans ((G7.out.trans ((G8.out.trans ((G9.out.trans ((G10.out.trans (Grew.refl w10))))))))))))))))))))
  have KB0 := Lib.hid (keepB B0.out ((G2.out.trans ((G3.out.trans ((G4.out.trans ((G5.out.trans ((G6.out.trans ((G7.out.trans ((G8.out.trans ((G9.out.trans ((G10.out.trans (Grew.refl w10))))))))))))))))))))
  have KA1 := Lib.hid (keepB A1.out ((G3.out.trans ((G4.out.trans ((G5.out.trans ((G6.out.trans ((G7.out.trans ((G8.out.trans ((G9.out.trans ((G10.out.trans (Grew.refl w10))))))))))))))))))
  have KB1 := Lib.hid (keepB B1.out ((G3.out.trans ((G4.out.trans ((G5.out.trans ((G6.out.trans ((G7.out.trans ((G8.out.trans ((G9.out.trans ((G10.out.trans (Grew.refl w10))))))))))))))))))
  have KA2 := Lib.hid (keepB A2.out ((G4.out.trans ((G5.out.trans ((G6.out.trans ((G7.out.trans ((G8.out.trans ((G9.out.trans ((G10.out.trans (Grew.refl w10))))))))))))))))
  have KB2 := Lib.hid (keepB B2.out ((G4.out.trans ((G5.out.trans ((G6.out.trans ((G7.out.trans ((G8.out.trans ((G9.out.trans ((G10.out.trans (Grew.refl w10))))))))))))))))
  have KA3 := Lib.hid (keepB A3.out ((G5.out.trans ((G6.out.trans ((G7.out.trans ((G8.out.trans ((G9.out.trans ((G10.out.trans (Grew.refl w10))))))))))))))
  have KB3 := Lib.hid (keepB B3.out ((G5.out.trans ((G6.out.trans ((G7.out.trans ((G8.out.trans ((G9.out.trans ((G10.out.trans (Grew.refl w10))))))))))))))
  have KA4 := Lib.hid (keepB A4.out ((G6.out.trans ((G7.out.trans ((G8.out.trans ((G9.out.trans ((G10.out.trans (Grew.refl w10))))))))))))
  have KB4 := Lib.hid (keepB B4.out ((G6.out.trans ((G7.out.trans ((G8.out.trans ((G9.out.trans ((G10.out.trans (Grew.refl w10))))))))))))
  have KA5 := Lib.hid (keepB A5.out ((G7.out.trans ((G8.out.trans ((G9.out.trans ((G10.out.trans (Grew.refl w10))))))))))
  have KB5 := Lib.hid (keepB B5.out ((G7.out.trans ((G8.out.trans ((G9.out.trans ((G10.out.trans (Grew.refl w10))))))))))
  have KA6 := Lib.hid (keepB A6.out ((G8.out.trans ((G9.out.trans ((G10.out.trans (Grew.refl w10))))))))
  have KB6 := Lib.hid (keepB B6.out ((G8.out.trans ((G9.out.trans ((G10.out.trans (Grew.refl w10))))))))
  have KA7 := Lib.hid (keepB A7.out ((G9.out.trans ((G10.out.trans (Grew.refl w10))))))
  have KB7 := Lib.hid (keepB B7.out ((G9.out.trans ((G10.out.trans (Grew.refl w10))))))
  have KA8 := Lib.hid (keepB A8.out ((G10.out.trans (Grew.refl w10))))
  have KB8 := Lib.hid (keepB B8.out ((G10.out.trans (Grew.refl w10))))
  have KA9 := Lib.hid (keepB A9.out (Grew.refl w10))
  have KB9 := Lib.hid (keepB B9.out (Grew.refl w10))
  have GW := Lib.hid ((G1.out.trans (G2.out.trans ((G3.out.trans ((G4.out.trans ((G5.out.trans ((G6.out.trans ((G7.out.trans ((G8.out.trans ((G9.out.trans ((G10.out.trans (Grew.refl w10))))))))))))))))))))
  have GN : Hid (Grew w10 (w10.alloc (.cells #[.func (.func 53) #[] #[.pointer (some ⟨b0, 0, none⟩), .pointer (some ⟨a0, 0, none⟩)], .func (.func 55) #[] #[.pointer (some ⟨a0, 0, none⟩), .pointer (some ⟨b0, 0, none⟩)], .func (.func 57) #[] #[.pointer (some ⟨b1, 0, none⟩), .pointer (some ⟨a1, 0, none⟩)], .func (.func 58) #[] #[.pointer (some ⟨a1, 0, none⟩), .pointer (some ⟨b1, 0, none⟩)], .func (.func 57) #[] #[.pointer (some ⟨b2, 0, none⟩), .pointer (some ⟨a2, 0, none⟩)], .func (.func 58) #[] #[.pointer (some ⟨a2, 0, none⟩), .pointer (some ⟨b2, 0, none⟩)], .func (.func 57) #[] #[.pointer (some ⟨b3, 0, none⟩), .pointer (some ⟨a3, 0, none⟩)], .func (.func 58) #[] #[.pointer (some ⟨a3, 0, none⟩), .pointer (some ⟨b3, 0, none⟩)], .func (.func 57) #[] #[.pointer (some ⟨b4, 0, none⟩), .pointer (some ⟨a4, 0, none⟩)], .func (.func 58) #[] #[.pointer (some ⟨a4, 0, none⟩), .pointer (some ⟨b4, 0, none⟩)], .func (.func 57) #[] #[.pointer (some ⟨b5, 0, none⟩), .pointer (some ⟨a5, 0, none⟩)], .func (.func 58) #[] #[.pointer (some ⟨a5, 0, none⟩), .pointer (some ⟨b5, 0, none⟩)], .func (.func 57) #[] #[.pointer (some ⟨b6, 0, none⟩), .pointer (some ⟨a6, 0, none⟩)], .func (.func 58) #[] #[.pointer (some ⟨a6, 0, none⟩), .pointer (some ⟨b6, 0, none⟩)], .func (.func 53) #[] #[.pointer (some ⟨b7, 0, none⟩), .pointer (some ⟨a7, 0, none⟩)], .func (.func 55) #[] #[.pointer (some ⟨a7, 0, none⟩), .pointer (some ⟨b7, 0, none⟩)], .func (.func 53) #[] #[.pointer (some ⟨b8, 0, none⟩), .pointer (some ⟨a8, 0, none⟩)], .func (.func 55) #[] #[.pointer (some ⟨a8, 0, none⟩), .pointer (some ⟨b8, 0, none⟩)], .func (.func 57) #[] #[.pointer (some ⟨b9, 0, none⟩), .pointer (some ⟨a9, 0, none⟩)], .func (.func 58) #[] #[.pointer (some ⟨a9, 0, none⟩), .pointer (some ⟨b9, 0, none⟩)]] 52))) := Lib.hid (by unfold Grew; go_grown)
  have HF : Hid (Fld (w10.alloc (.cells #[.func (.func 53) #[] #[.pointer (some ⟨b0, 0, none⟩), .pointer (some ⟨a0, 0, none⟩)], .func (.func 55) #[] #[.pointer (some ⟨a0, 0, none⟩), .pointer (some ⟨b0, 0, none⟩)], .func (.func 57) #[] #[.pointer (some ⟨b1, 0, none⟩), .pointer (some ⟨a1, 0, none⟩)], .func (.func 58) #[] #[.pointer (some ⟨a1, 0, none⟩), .pointer (some ⟨b1, 0, none⟩)], .func (.func 57) #[] #[.pointer (some ⟨b2, 0, none⟩), .pointer (some ⟨a2, 0, none⟩)], .func (.func 58) #[] #[.pointer (some ⟨a2, 0, none⟩), .pointer (some ⟨b2, 0, none⟩)], .func (.func 57) #[] #[.pointer (some ⟨b3, 0, none⟩), .pointer (some ⟨a3, 0, none⟩)], .func (.func 58) #[] #[.pointer (some ⟨a3, 0, none⟩), .pointer (some ⟨b3, 0, none⟩)], .func (.func 57) #[] #[.pointer (some ⟨b4, 0, none⟩), .pointer (some ⟨a4, 0, none⟩)], .func (.func 58) #[] #[.pointer (some ⟨a4, 0, none⟩), .pointer (some ⟨b4, 0, none⟩)], .func (.func 57) #[] #[.pointer (some ⟨b5, 0, none⟩), .pointer (some ⟨a5, 0, none⟩)], .func (.func 58) #[] #[.pointer (some ⟨a5, 0, none⟩), .pointer (some ⟨b5, 0, none⟩)], .func (.func 57) #[] #[.pointer (some ⟨b6, 0, none⟩), .pointer (some ⟨a6, 0, none⟩)], .func (.func 58) #[] #[.pointer (some ⟨a6, 0, none⟩), .pointer (some ⟨b6, 0, none⟩)], .func (.func 53) #[] #[.pointer (some ⟨b7, 0, none⟩), .pointer (some ⟨a7, 0, none⟩)], .func (.func 55) #[] #[.pointer (some ⟨a7, 0, none⟩), .pointer (some ⟨b7, 0, none⟩)], .func (.func 53) #[] #[.pointer (some ⟨b8, 0, none⟩), .pointer (some ⟨a8, 0, none⟩)], .func (.func 55) #[] #[.pointer (some ⟨a8, 0, none⟩), .pointer (some ⟨b8, 0, none⟩)], .func (.func 57) #[] #[.pointer (some ⟨b9, 0, none⟩), .pointer (some ⟨a9, 0, none⟩)], .func (.func 58) #[] #[.pointer (some ⟨a9, 0, none⟩), .pointer (some ⟨b9, 0, none⟩)]] 52)) w10.heap.size (fun i => [a0, a1, a2, a3, a4, a5, a6, a7, a8, a9].getD i 0) (fun i => [b0, b1, b2, b3, b4, b5, b6, b7, b8, b9].getD i 0)) := Lib.hid ⟨blk_new w10 _, keepB KA0.out GN.out, keepB KB0.out GN.out, keepB KA1.out GN.out, keepB KB1.out GN.out, keepB KA2.out GN.out, keepB KB2.out GN.out, keepB KA3.out GN.out, keepB KB3.out GN.out, keepB KA4.out GN.out, keepB KB4.out GN.out, keepB KA5.out GN.out, keepB KB5.out GN.out, keepB KA6.out GN.out, keepB KB6.out GN.out, keepB KA7.out GN.out, keepB KB7.out GN.out, keepB KA8.out GN.out, keepB KB8.out GN.out, keepB KA9.out GN.out, keepB KB9.out GN.out⟩
  clear A0 B0 G1 KA0 KB0 A1 B1 G2 KA1 KB1 A2 B2 G3 KA2 KB2 A3 B3 G4 KA3 KB3 A4 B4 G5 KA4 KB4 A5 B5 G6 KA5 KB5 A6 B6 G7 KA6 KB6 A7 B7 G8 KA7 KB7 A8 B8 G9 KA8 KB8 A9 B9 G10 KA9 KB9
  unfold FV
  go_wp2
  go_returns
  exact ⟨_, _, _, rfl, HF.out, GW.out.trans GN.out⟩
end Go.Proofs.Ytmnfajplfnfgpab.UJ
