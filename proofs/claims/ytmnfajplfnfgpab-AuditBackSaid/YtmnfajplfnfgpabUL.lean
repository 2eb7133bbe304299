/-
  The bytes of an entry, by the document.
  Conditions: those that each lemma names.
-/
import Derived.Test.YtmnfajplfnfgpabUK
import Derived.Test.YtmnfajplfnfgpabRefs
namespace Go.Proofs.Ytmnfajplfnfgpab.UL
set_option maxRecDepth 100000
open Go Go.RowKit Go.Lib Go.Proofs.Ytmnfajplfnfgpab Go.Proofs.Ytmnfajplfnfgpab.Facts Go.Proofs.Ytmnfajplfnfgpab.Ints Go.Proofs.Ytmnfajplfnfgpab.PA Go.Proofs.Ytmnfajplfnfgpab.UA Go.Proofs.Ytmnfajplfnfgpab.UM Go.Proofs.Ytmnfajplfnfgpab.UB Go.Proofs.Ytmnfajplfnfgpab.UC Go.Proofs.Ytmnfajplfnfgpab.UD Go.Proofs.Ytmnfajplfnfgpab.UF Go.Proofs.Ytmnfajplfnfgpab.UH Go.Proofs.Ytmnfajplfnfgpab.UI Go.Proofs.Ytmnfajplfnfgpab.UJ Go.Proofs.Ytmnfajplfnfgpab.UK Go.Proofs.Ytmnfajplfnfgpab.Bytes Go.Proofs.Ytmnfajplfnfgpab.Puts Go.Proofs.Ytmnfajplfnfgpab.Refs


theorem b_app (W : World) (base : Nat) (v : Value) (l m : List UInt8) (ad : Addr) (c : Nat) (hown : W.ownsRow base 5 1 v l.length (bv l)) (hm : ∀ j u, (bv m)[j]? = some u → W.cell? (ad.add j) = some u) (hl : l.length + m.length ≤ 140737488355328) (hb : base ≤ W.heap.size) :
    ∃ v' w', (Builtin.append_ #[34, 34] 34 #[v, .slice (some ad) m.length c]).run Try.prog W = .ok v' w' ∧ w'.ownsRow base 5 1 v' (l ++ m).length (bv (l ++ m)) ∧ Below base W w' := by
  obtain ⟨i0, hi, hx⟩ := Option.map_eq_some_iff.1 Puts.info5
  simp only [Prod.mk.injEq] at hx
  obtain ⟨hz0, hz1, hz2⟩ := hx
  obtain ⟨v', w', hr, h5, h6, _⟩ := run_append_own (P := Try.prog) W base 34 34 5 i0 (.int .u8 0) 1 1 Try.underlying34 hi hz0 hz1 hz2 rfl Nat.one_pos v l.length (bv l) hown ad m.length c (bv m) (by rw [bv_length]; omega) hm (bv_one m) (by unfold maxLen; omega) (by omega) hb
  refine ⟨v', w', hr, by rw [List.length_append, bv_append]; exact h5, ?_⟩
  exact below_of_grown W h6 hb fun k hk => by
    rcases hown.2 with ⟨rfl, _⟩ | ⟨g, cap, cur, rfl, hg, _⟩
    · simp [Value.ownBlock] at hk
    · simp [Value.ownBlock] at hk
      omega
theorem conv_b (n : Nat) (h : n < 128) (W : World) : (convert 3 5 (.int .i64 (n : Int))).run Try.prog W = .ok (.int .u8 (n : Int)) W := by
  have h2 : IntKind.u8.wrap (n : Int) = (n : Int) := by
    unfold IntKind.wrap
    simp [IntKind.bits, IntKind.signed]
    omega
  go_simp
  try rw [h2]
theorem byte_in (n : Nat) (h : n < 128) : Value.int .u8 (n : Int) = .int .u8 ((UInt8.ofNat n).toNat : Int) := by
  congr 1
  simp
  omega
theorem row_cells (W : World) (m : List UInt8) (o : Nat) (h : W.heap[o]? = some (.cells (bv m).toArray 5 (0, 0))) : ∀ j u, (bv m)[j]? = some u → W.cell? ((⟨o, 0, none⟩ : Addr).add j) = some u := by
  intro j u hu
  rw [Addr.add_lit, Nat.zero_add, cell_of_row _ _ _ _ _ _ h, List.getElem?_toArray]
  exact hu
set_option maxHeartbeats 8000000 in
theorem rbytes_any (x : En) (hx : SzE x) (w : World) : Calls Try.prog 17 #[env x] w fun e w' => ∃ v', e = .returned v' ∧ Rd Al w' v' (bytesP x) ∧ Grew w w' := by
  have HM := Lib.hid (rmay_any x hx)
  cases ho : okE x with
  | false =>
    rw [ho] at HM
    unfold bytesP
    rw [if_pos ho]
    obtain ⟨r, ln, lb, wh, sd, bs, qt, qn, pr, st⟩ := x
    unfold env at *
    simp only at HM ⊢
    have G0 : Hid (Grew w (w.alloc (.cells #[.int .u64 (r : Int), .int .i64 ln, .int .i64 lb, .int .i64 wh, .int .i64 sd, .int .i64 bs, .int .i64 qt, .int .u64 (qn : Int), .int .u64 (pr : Int), .int .i64 st] 25))) := Lib.hid (by unfold Grew; go_grown)
    clear ho hx
    go_enter Try.func17, Try.ntmps17
    go_wp2_with fail
    refine (HM.out _).mono ?_
    rintro e w1 ⟨rfl, hg⟩
    have G1 := Lib.hid (G0.out.trans hg)
    clear hg
    go_wp2
    go_returns
    exact ⟨_, rfl, Rd.nil _ _, G1.out⟩
  | true =>
    rw [ho] at HM
    unfold bytesP
    rw [if_neg (by rw [ho]; decide)]
    obtain ⟨r, n1, n2, n3, n4, n5, n6, qn, pr, n9, hxe, l1, l2, l3, l4, l5, l6, l9⟩ := ok_nat ho
    obtain ⟨sz0, sz7, sz8⟩ := hx
    rw [hxe] at HM sz0 sz7 sz8
    simp only at sz0 sz7 sz8
    have henv : env x = .agg #[.int .u64 (r : Int), .int .i64 (n1 : Int), .int .i64 (n2 : Int), .int .i64 (n3 : Int), .int .i64 (n4 : Int), .int .i64 (n5 : Int), .int .i64 (n6 : Int), .int .u64 (qn : Int), .int .u64 (pr : Int), .int .i64 (n9 : Int)] := by rw [hxe]; rfl
    rw [henv]
    unfold env at HM
    simp only at HM
    have HEND : Hid (encE x = be 8 r ++ [UInt8.ofNat n1, UInt8.ofNat n2, UInt8.ofNat n3, UInt8.ofNat n4, UInt8.ofNat n5, UInt8.ofNat n6] ++ be 8 qn ++ be 8 pr ++ [UInt8.ofNat n9]) := Lib.hid (by
      rw [hxe]
      unfold encE fl
      simp [be_one])
    rw [HEND.out]
    have hcv : ∀ n : Nat, n < 128 → ∀ W, (convert 3 5 (.int .i64 (n : Int))).run Try.prog W = .ok (.int .u8 (n : Int)) W := fun n hn W => conv_b n hn W
    have hc1 := hcv n1 l1
    have hc2 := hcv n2 l2
    have hc3 := hcv n3 l3
    have hc4 := hcv n4 l4
    have hc5 := hcv n5 l5
    have hc6 := hcv n6 l6
    have hc9 := hcv n9 l9
    have HB6 : Hid ((#[.int .u8 (n1 : Int), .int .u8 (n2 : Int), .int .u8 (n3 : Int), .int .u8 (n4 : Int), .int .u8 (n5 : Int), .int .u8 (n6 : Int)] : Array Value) = (bv [UInt8.ofNat n1, UInt8.ofNat n2, UInt8.ofNat n3, UInt8.ofNat n4, UInt8.ofNat n5, UInt8.ofNat n6]).toArray) := Lib.hid (by rw [byte_in n1 l1, byte_in n2 l2, byte_in n3 l3, byte_in n4 l4, byte_in n5 l5, byte_in n6 l6]; rfl)
    have HB9 : Hid ((#[.int .u8 (n9 : Int)] : Array Value) = (bv [UInt8.ofNat n9]).toArray) := Lib.hid (by rw [byte_in n9 l9]; rfl)
    have SZ7 := Lib.hid sz7
    have SZ8 := Lib.hid sz8
    have BX := Lib.hid (blk_new w (.cells #[.int .u64 (r : Int), .int .i64 (n1 : Int), .int .i64 (n2 : Int), .int .i64 (n3 : Int), .int .i64 (n4 : Int), .int .i64 (n5 : Int), .int .i64 (n6 : Int), .int .u64 (qn : Int), .int .u64 (pr : Int), .int .i64 (n9 : Int)] 25))
    have G0 : Hid (Grew w (w.alloc (.cells #[.int .u64 (r : Int), .int .i64 (n1 : Int), .int .i64 (n2 : Int), .int .i64 (n3 : Int), .int .i64 (n4 : Int), .int .i64 (n5 : Int), .int .i64 (n6 : Int), .int .u64 (qn : Int), .int .u64 (pr : Int), .int .i64 (n9 : Int)] 25))) := Lib.hid (by unfold Grew; go_grown)
    have HN1 := Lib.hid (fun W => Refs.num_any Al _ [] r 8 W (Rd.nil Al W) (by decide) sz0)
    clear ho hxe henv l1 l2 l3 l4 l5 l6 l9 hcv sz0 sz7 sz8
    go_enter Try.func17, Try.ntmps17
    go_wp2_with fail
    refine (HM.out _).mono ?_
    rintro e w1 ⟨rfl, hg⟩
    have G1 := Lib.hid (G0.out.trans hg)
    have BX1 := Lib.hid (keepB BX.out hg)
    clear hg
    obtain ⟨b0, b1, b2, b3, b4, b5, b6, b7, b8, b9⟩ := ten_c BX1.out
    go_wp2_with fail
    refine (HN1.out _).mono ?_
    rintro e w2 ⟨v2, rfl, hown, hg⟩
    have OW2 : Hid (w2.ownsRow w1.heap.size 5 1 v2 (be 8 r).length (bv (be 8 r))) := Lib.hid hown
    have G2 := Lib.hid (G1.out.trans hg)
    have BX2 := Lib.hid (keepB BX1.out hg)
    have GX := Lib.hid (show Below w1.heap.size w1 w2 from hg)
    clear hown hg b0 b1 b2 b3 b4 b5 b6 b7 b8 b9
    obtain ⟨b0, b1, b2, b3, b4, b5, b6, b7, b8, b9⟩ := ten_c BX2.out
    have ga : Below w1.heap.size w2 (w2.alloc (.cells #[.int .u8 (n1 : Int), .int .u8 (n2 : Int), .int .u8 (n3 : Int), .int .u8 (n4 : Int), .int .u8 (n5 : Int), .int .u8 (n6 : Int)] 5)) := (Below.refl _ _).alloc GX.out.size _
    obtain ⟨v3, w3, hr, hown, hbl⟩ := b_app (w2.alloc (.cells #[.int .u8 (n1 : Int), .int .u8 (n2 : Int), .int .u8 (n3 : Int), .int .u8 (n4 : Int), .int .u8 (n5 : Int), .int .u8 (n6 : Int)] 5)) w1.heap.size v2 (be 8 r) [UInt8.ofNat n1, UInt8.ofNat n2, UInt8.ofNat n3, UInt8.ofNat n4, UInt8.ofNat n5, UInt8.ofNat n6] ⟨w2.heap.size, 0, none⟩ 6 (OW2.out.alloc _) (row_cells _ _ _ (by have := blk_new w2 (.cells #[.int .u8 (n1 : Int), .int .u8 (n2 : Int), .int .u8 (n3 : Int), .int .u8 (n4 : Int), .int .u8 (n5 : Int), .int .u8 (n6 : Int)] 5); rw [HB6.out] at this ⊢; exact this)) (by simp [be_length]) (by have := GX.out.size; simp; omega)
    have HAPP := Lib.hid hr
    have HR3 := Lib.hid (own_al hown rfl)
    have G3 : Hid (Grew w w3) := Lib.hid (G1.out.trans (GX.out.trans (ga.trans hbl)))
    have BX3 := Lib.hid (keepB BX1.out (GX.out.trans (ga.trans hbl)))
    clear hr hown hbl ga
    obtain ⟨A3, c3, rfl, _⟩ := id HR3.out
    obtain ⟨d0, d1, d2, d3, d4, d5, d6, d7, d8, d9⟩ := ten_c BX3.out
    have HN2 := Lib.hid (Refs.num_any Al _ _ qn 8 w3 HR3.out (by simp [be_length]) SZ7.out)
    go_wp2_with (at_builtin; refine wpList_app_want (.tmp 10) (.tmp 29) 34 (by rfl) (by rfl) _ _ rfl rfl _ w3 (by exact HAPP.out) ?_)
    refine HN2.out.mono ?_
    rintro e w4 ⟨v4, rfl, hown, hg⟩
    have HR4 := Lib.hid (own_al hown (by rw [show width 8 = 8 from rfl]; simp [be_length]))
    have G4 := Lib.hid (G3.out.trans hg)
    have BX4 := Lib.hid (keepB BX3.out hg)
    clear hown hg b0 b1 b2 b3 b4 b5 b6 b7 b8 b9 d0 d1 d2 d3 d4 d5 d6 d7 d8 d9 HN2 HAPP
    rw [show width 8 = 8 from rfl] at HR4
    obtain ⟨A4, c4, rfl, _⟩ := id HR4.out
    obtain ⟨b0, b1, b2, b3, b4, b5, b6, b7, b8, b9⟩ := ten_c BX4.out
    have HN3 := Lib.hid (Refs.num_any Al _ _ pr 8 w4 HR4.out (by simp [be_length]) SZ8.out)
    go_wp2_with fail
    refine HN3.out.mono ?_
    rintro e w5 ⟨v5, rfl, hown, hg⟩
    have OW5 : Hid (w5.ownsRow w4.heap.size 5 1 v5 (be 8 r ++ [UInt8.ofNat n1, UInt8.ofNat n2, UInt8.ofNat n3, UInt8.ofNat n4, UInt8.ofNat n5, UInt8.ofNat n6] ++ be 8 qn ++ be 8 pr).length (bv (be 8 r ++ [UInt8.ofNat n1, UInt8.ofNat n2, UInt8.ofNat n3, UInt8.ofNat n4, UInt8.ofNat n5, UInt8.ofNat n6] ++ be 8 qn ++ be 8 pr))) := Lib.hid (by
      have h := hown
      rw [show width 8 = 8 from rfl] at h
      have e : (be 8 r ++ [UInt8.ofNat n1, UInt8.ofNat n2, UInt8.ofNat n3, UInt8.ofNat n4, UInt8.ofNat n5, UInt8.ofNat n6] ++ be 8 qn ++ be 8 pr).length = (be 8 r ++ [UInt8.ofNat n1, UInt8.ofNat n2, UInt8.ofNat n3, UInt8.ofNat n4, UInt8.ofNat n5, UInt8.ofNat n6] ++ be 8 qn).length + 8 := by simp [be_length]
      rw [e]
      exact h)
    have GX5 := Lib.hid (show Below w4.heap.size w4 w5 from hg)
    have BX5 := Lib.hid (keepB BX4.out hg)
    clear hown hg b0 b1 b2 b3 b4 b5 b6 b7 b8 b9 HN3
    obtain ⟨b0, b1, b2, b3, b4, b5, b6, b7, b8, b9⟩ := ten_c BX5.out
    have ga : Below w4.heap.size w5 (w5.alloc (.cells #[.int .u8 (n9 : Int)] 5)) := (Below.refl _ _).alloc GX5.out.size _
    obtain ⟨v6, w6, hr, hown, hbl⟩ := b_app (w5.alloc (.cells #[.int .u8 (n9 : Int)] 5)) w4.heap.size v5 _ [UInt8.ofNat n9] ⟨w5.heap.size, 0, none⟩ 1 (OW5.out.alloc _) (row_cells _ _ _ (by have := blk_new w5 (.cells #[.int .u8 (n9 : Int)] 5); rw [HB9.out] at this ⊢; exact this)) (by simp [be_length]) (by have := GX5.out.size; simp; omega)
    have HAPP := Lib.hid hr
    have HR6 := Lib.hid (own_al hown rfl)
    have G6 : Hid (Grew w w6) := Lib.hid (G4.out.trans (GX5.out.trans (ga.trans hbl)))
    clear hr hown hbl ga
    go_wp2_with (at_builtin; refine wpList_app_want (.tmp 39) (.tmp 43) 34 (by rfl) (by rfl) _ _ rfl rfl v6 w6 (by exact HAPP.out) ?_)
    obtain ⟨A6, c6, rfl, _⟩ := id HR6.out
    go_returns
    exact ⟨_, rfl, HR6.out, G6.out⟩
end Go.Proofs.Ytmnfajplfnfgpab.UL
