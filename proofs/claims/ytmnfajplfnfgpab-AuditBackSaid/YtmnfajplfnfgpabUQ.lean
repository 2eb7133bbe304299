/-
  The fixed calls.
  Conditions: those that each lemma names.
-/
import Derived.Test.YtmnfajplfnfgpabUP
import Derived.Test.YtmnfajplfnfgpabUG
import Derived.Test.YtmnfajplfnfgpabUL
namespace Go.Proofs.Ytmnfajplfnfgpab.UQ
set_option maxRecDepth 100000
open Go Go.RowKit Go.Lib Go.Proofs.Ytmnfajplfnfgpab Go.Proofs.Ytmnfajplfnfgpab.Facts Go.Proofs.Ytmnfajplfnfgpab.Ints Go.Proofs.Ytmnfajplfnfgpab.PA Go.Proofs.Ytmnfajplfnfgpab.UA Go.Proofs.Ytmnfajplfnfgpab.UM Go.Proofs.Ytmnfajplfnfgpab.UB Go.Proofs.Ytmnfajplfnfgpab.UC Go.Proofs.Ytmnfajplfnfgpab.UD Go.Proofs.Ytmnfajplfnfgpab.UE Go.Proofs.Ytmnfajplfnfgpab.UF Go.Proofs.Ytmnfajplfnfgpab.UG Go.Proofs.Ytmnfajplfnfgpab.UH Go.Proofs.Ytmnfajplfnfgpab.UI Go.Proofs.Ytmnfajplfnfgpab.UJ Go.Proofs.Ytmnfajplfnfgpab.UK Go.Proofs.Ytmnfajplfnfgpab.UN Go.Proofs.Ytmnfajplfnfgpab.UL Go.Proofs.Ytmnfajplfnfgpab.UO Go.Proofs.Ytmnfajplfnfgpab.UP Go.Proofs.Ytmnfajplfnfgpab.Bytes Go.Proofs.Ytmnfajplfnfgpab.Puts Go.Proofs.Ytmnfajplfnfgpab.Scan


/-- A byte behind a row of one's own: the row and the longer one are read. -/
theorem app_keep (W : World) (base g cap : Nat) (l : List UInt8) (b : UInt8) (ad : Addr) (c : Nat) (hown : Ob base W (.slice (some ⟨g, 0, none⟩) l.length cap) l) (hm : ∀ j u, (bv [b])[j]? = some u → W.cell? (ad.add j) = some u) (hl : l.length + 1 ≤ 140737488355328) :
    ∃ v' w', (Builtin.append_ #[34, 34] 34 #[.slice (some ⟨g, 0, none⟩) l.length cap, .slice (some ad) 1 c]).run Try.prog W = .ok v' w' ∧ Rd Al w' v' (l ++ [b]) ∧ Rd Al w' (.slice (some ⟨g, 0, none⟩) l.length cap) l ∧ W.grownBy w' (some g) := by
  obtain ⟨i0, hi, hx⟩ := Option.map_eq_some_iff.1 Puts.info5
  simp only [Prod.mk.injEq] at hx
  obtain ⟨hz0, hz1, hz2⟩ := hx
  have hown' := hown
  obtain ⟨hlen, ⟨h, _⟩ | ⟨g', cap', cur, he, hbg, hg, hnc, hcm, hcs, htk⟩⟩ := hown'
  · cases h
  · injection he with e1 e2 e3
    injection e1 with e1
    injection e1 with e1 _ _
    subst e1 e3
    by_cases hroom : l.length + 1 ≤ cap
    · obtain ⟨w', hr, ho, hgr⟩ := run_append_fits (P := Try.prog) W base 34 34 5 i0 1 Try.underlying34 hi hz1 g l.length cap (bv l) hown ad 1 c (bv [b]) (by rw [bv_length]; rfl) hm (bv_one _) hroom
      rw [← bv_append] at ho
      refine ⟨_, w', hr, own_al ho (by simp), ?_, hgr⟩
      · refine ⟨some ⟨g, 0, none⟩, cap, rfl, hnc, hcm, (fun h => by cases h), fun a ha => ⟨fun _ => trivial, fun j u hu => ?_⟩⟩
        cases ha
        refine ho.cells (g := g) rfl j u ?_
        rw [bv_append, List.getElem?_append_left (by have := (List.getElem?_eq_some_iff.1 hu).1; exact this)]
        exact hu
    · obtain ⟨v', w', hr, ho, hgr⟩ := run_append_arg_grows (P := Try.prog) W 34 34 5 i0 (.int .u8 0) 1 1 Try.underlying34 hi hz0 hz1 hz2 rfl Nat.one_pos ⟨g, 0, none⟩ l.length cap (bv l) (by rw [bv_length]; omega) (hown.cells (g := g) rfl) ad 1 c (bv [b]) (by rw [bv_length]; rfl) hm (by omega) (by unfold maxLen; omega) (by omega)
      rw [← bv_append] at ho
      have hG : Grew W w' := ⟨hgr.os, hgr.tape, hgr.output, hgr.size, fun k hk => hgr.block k hk (by simp)⟩
      exact ⟨v', w', hr, own_al ho (by simp), hown.rd.grew hG, ⟨hgr.os, hgr.tape, hgr.output, hgr.size, fun k hk _ => hgr.block k hk (by simp)⟩⟩
theorem rd_at {w : World} {g cap n : Nat} {l : List UInt8} (h : Rd Al w (.slice (some ⟨g, 0, none⟩) n cap) l) (k : Nat) (hk : k < l.length) : w.cell? ⟨g, k, none⟩ = some (.int .u8 ((l[k]?.getD 0).toNat : Int)) := by
  obtain ⟨ad, c, e, _, h2⟩ := h.cell hk
  injection e with e1 _ _
  injection e1 with e1
  subst e1
  rw [Addr.add_lit, Nat.zero_add] at h2
  exact h2
theorem ans_e {r : List En × Int} {w w' : World} {e : Ending} (n : Nat) (hn : r.1.length = n) (h : AnsE r w e w') : ∃ A c, e = .returned (.tuple #[.slice A n c, .int .i64 r.2]) ∧ Hid (Ens w' (.slice A n c) r.1) ∧ Grew w w' := by
  obtain ⟨v', e1, hi, hg⟩ := h
  obtain ⟨A, c, rfl, _⟩ := hi.slice
  subst hn
  exact ⟨A, c, e1, Lib.hid hi, hg⟩
theorem p1 : addP [] 2 (⟨7, 2, 0, 0, 1, 0, 1, 3, 5, 0⟩ : En) = ([(⟨7, 2, 0, 0, 1, 0, 1, 3, 5, 0⟩ : En)], 0) := by decide +kernel
theorem p2 : addP [(⟨7, 2, 0, 0, 1, 0, 1, 3, 5, 0⟩ : En)] 2 (⟨7, 3, 0, 0, 3, 0, 0, 0, 0, 4⟩ : En) = ([(⟨7, 2, 0, 0, 1, 0, 1, 3, 5, 0⟩ : En), (⟨7, 3, 0, 0, 3, 0, 0, 0, 0, 4⟩ : En)], 0) := by decide +kernel
theorem p3 : addP [(⟨7, 2, 0, 0, 1, 0, 1, 3, 5, 0⟩ : En), (⟨7, 3, 0, 0, 3, 0, 0, 0, 0, 4⟩ : En)] 2 (⟨8, 0, 0, 0, 3, 0, 0, 0, 0, 0⟩ : En) = ([], 8) := by decide +kernel
theorem p4 : addP [(⟨7, 2, 0, 0, 1, 0, 1, 3, 5, 0⟩ : En)] 2 (⟨7, 2, 0, 0, 1, 0, 1, 3, 5, 0⟩ : En) = ([], 1) := by decide +kernel
theorem p5 : (bytesP (⟨7, 2, 0, 0, 1, 0, 1, 3, 5, 0⟩ : En)).length = 31 ∧ (bytesP (⟨7, 2, 0, 0, 1, 0, 1, 3, 5, 0⟩ : En))[7]?.getD 0 = 7 ∧ (bytesP (⟨7, 2, 0, 0, 1, 0, 1, 3, 5, 0⟩ : En))[8]?.getD 0 = 2 := by decide +kernel
theorem p6 : readP (bytesP (⟨7, 2, 0, 0, 1, 0, 1, 3, 5, 0⟩ : En)) = ((⟨7, 2, 0, 0, 1, 0, 1, 3, 5, 0⟩ : En), 0) := by decide +kernel
theorem p7 : readP (bytesP (⟨7, 2, 0, 0, 1, 0, 1, 3, 5, 0⟩ : En) ++ [0]) = (zen, 13) := by decide +kernel
theorem p8 : okE (⟨7, 3, 0, 0, 3, 0, 0, 0, 0, 4⟩ : En) = true := by decide +kernel
theorem p9 : rightL [(⟨7, 2, 0, 0, 1, 0, 1, 3, 5, 0⟩ : En), (⟨7, 3, 0, 0, 3, 0, 0, 0, 0, 4⟩ : En)] = true := by decide +kernel
theorem p10 : okE zen = false := by decide +kernel
theorem szx : SzE (⟨7, 2, 0, 0, 1, 0, 1, 3, 5, 0⟩ : En) ∧ SzE (⟨7, 3, 0, 0, 3, 0, 0, 0, 0, 4⟩ : En) ∧ SzE (⟨8, 0, 0, 0, 3, 0, 0, 0, 0, 0⟩ : En) ∧ SzE zen := by unfold SzE; decide +kernel
set_option maxHeartbeats 8000000 in
theorem alive_any (w : World) : Calls Try.prog 8 #[] w fun e w' => e = .returned (.bool true) ∧ Grew w w' := by
  obtain ⟨zx, zy, zt, zz⟩ := szx
  have zl1 : SzL [(⟨7, 2, 0, 0, 1, 0, 1, 3, 5, 0⟩ : En)] := fun y hy => by rw [List.mem_singleton.1 hy]; exact zx
  have zl2 : SzL [(⟨7, 2, 0, 0, 1, 0, 1, 3, 5, 0⟩ : En), (⟨7, 3, 0, 0, 3, 0, 0, 0, 0, 4⟩ : En)] := fun y hy => by
    rcases List.mem_cons.1 hy with h | h
    · rw [h]; exact zx
    · rw [List.mem_singleton.1 h]; exact zy
  have H1 := Lib.hid (fun W => add_any (.slice none 0 0) [] 2 (⟨7, 2, 0, 0, 1, 0, 1, 3, 5, 0⟩ : En) W (rw_none W) (fun y hy => by cases hy) zx (by decide))
  have H2 := Lib.hid (fun W v (h : Ens W v [(⟨7, 2, 0, 0, 1, 0, 1, 3, 5, 0⟩ : En)]) => add_any v [(⟨7, 2, 0, 0, 1, 0, 1, 3, 5, 0⟩ : En)] 2 (⟨7, 3, 0, 0, 3, 0, 0, 0, 0, 4⟩ : En) W h zl1 zy (by decide))
  have H3 := Lib.hid (fun W v (h : Ens W v [(⟨7, 2, 0, 0, 1, 0, 1, 3, 5, 0⟩ : En), (⟨7, 3, 0, 0, 3, 0, 0, 0, 0, 4⟩ : En)]) => add_any v [(⟨7, 2, 0, 0, 1, 0, 1, 3, 5, 0⟩ : En), (⟨7, 3, 0, 0, 3, 0, 0, 0, 0, 4⟩ : En)] 2 (⟨8, 0, 0, 0, 3, 0, 0, 0, 0, 0⟩ : En) W h zl2 zt (by decide))
  have H4 := Lib.hid (fun W v (h : Ens W v [(⟨7, 2, 0, 0, 1, 0, 1, 3, 5, 0⟩ : En)]) => add_any v [(⟨7, 2, 0, 0, 1, 0, 1, 3, 5, 0⟩ : En)] 2 (⟨7, 2, 0, 0, 1, 0, 1, 3, 5, 0⟩ : En) W h zl1 zx (by decide))
  have H5 := Lib.hid (fun W => bytes_any (⟨7, 2, 0, 0, 1, 0, 1, 3, 5, 0⟩ : En) zx W)
  have H6 := Lib.hid (fun W v (h : Rd Al W v (bytesP (⟨7, 2, 0, 0, 1, 0, 1, 3, 5, 0⟩ : En))) => read_any v (bytesP (⟨7, 2, 0, 0, 1, 0, 1, 3, 5, 0⟩ : En)) W h (by rw [p5.1]; decide))
  have H7 := Lib.hid (fun W v (h : Rd Al W v (bytesP (⟨7, 2, 0, 0, 1, 0, 1, 3, 5, 0⟩ : En) ++ [0])) => read_any v (bytesP (⟨7, 2, 0, 0, 1, 0, 1, 3, 5, 0⟩ : En) ++ [0]) W h (by rw [List.length_append, p5.1]; decide))
  have H8 := Lib.hid (fun W => may_any (⟨7, 3, 0, 0, 3, 0, 0, 0, 0, 4⟩ : En) zy W)
  have H9 := Lib.hid (fun W v (h : Ens W v [(⟨7, 2, 0, 0, 1, 0, 1, 3, 5, 0⟩ : En), (⟨7, 3, 0, 0, 3, 0, 0, 0, 0, 4⟩ : En)]) => right_any v [(⟨7, 2, 0, 0, 1, 0, 1, 3, 5, 0⟩ : En), (⟨7, 3, 0, 0, 3, 0, 0, 0, 0, 4⟩ : En)] W h zl2 (by decide))
  have H10 := Lib.hid (fun W => may_any zen zz W)
  have heq := fun W => eqE (⟨7, 2, 0, 0, 1, 0, 1, 3, 5, 0⟩ : En) W
  rw [p1] at H1
  rw [p2] at H2
  rw [p3] at H3
  rw [p4] at H4
  rw [p6] at H6
  rw [p7] at H7
  rw [p8] at H8
  rw [p9] at H9
  rw [p10] at H10
  obtain ⟨l31, l7, l8⟩ := p5
  generalize bytesP (⟨7, 2, 0, 0, 1, 0, 1, 3, 5, 0⟩ : En) = L at *
  have L31 := Lib.hid l31
  have L7 := Lib.hid l7
  have L8 := Lib.hid l8
  unfold AnsR at H6 H7
  unfold env zen at *
  simp only at H6 H7
  have G0 : Hid (Grew w ((w.alloc (.cells #[.int .u64 7, .int .i64 2, .int .i64 0, .int .i64 0, .int .i64 1, .int .i64 0, .int .i64 1, .int .u64 3, .int .u64 5, .int .i64 0] 25)).alloc (.cells #[.int .u64 7, .int .i64 3, .int .i64 0, .int .i64 0, .int .i64 3, .int .i64 0, .int .i64 0, .int .u64 0, .int .u64 0, .int .i64 4] 25))) := Lib.hid (by unfold Grew; go_grown)
  have BX := Lib.hid (show ((w.alloc (.cells #[.int .u64 7, .int .i64 2, .int .i64 0, .int .i64 0, .int .i64 1, .int .i64 0, .int .i64 1, .int .u64 3, .int .u64 5, .int .i64 0] 25)).alloc (.cells #[.int .u64 7, .int .i64 3, .int .i64 0, .int .i64 0, .int .i64 3, .int .i64 0, .int .i64 0, .int .u64 0, .int .u64 0, .int .i64 4] 25)).heap[w.heap.size]? = some (.cells #[.int .u64 7, .int .i64 2, .int .i64 0, .int .i64 0, .int .i64 1, .int .i64 0, .int .i64 1, .int .u64 3, .int .u64 5, .int .i64 0] 25 (0, 0)) from keepB (blk_new w (.cells #[.int .u64 7, .int .i64 2, .int .i64 0, .int .i64 0, .int .i64 1, .int .i64 0, .int .i64 1, .int .u64 3, .int .u64 5, .int .i64 0] 25)) (by unfold Grew; go_grown))
  have BY : Hid (((w.alloc (.cells #[.int .u64 7, .int .i64 2, .int .i64 0, .int .i64 0, .int .i64 1, .int .i64 0, .int .i64 1, .int .u64 3, .int .u64 5, .int .i64 0] 25)).alloc (.cells #[.int .u64 7, .int .i64 3, .int .i64 0, .int .i64 0, .int .i64 3, .int .i64 0, .int .i64 0, .int .u64 0, .int .u64 0, .int .i64 4] 25)).heap[w.heap.size + 1]? = some (.cells #[.int .u64 7, .int .i64 3, .int .i64 0, .int .i64 0, .int .i64 3, .int .i64 0, .int .i64 0, .int .u64 0, .int .u64 0, .int .i64 4] 25 (0, 0))) := Lib.hid (by
    have h := blk_new (w.alloc (.cells #[.int .u64 7, .int .i64 2, .int .i64 0, .int .i64 0, .int .i64 1, .int .i64 0, .int .i64 1, .int .u64 3, .int .u64 5, .int .i64 0] 25)) (.cells #[.int .u64 7, .int .i64 3, .int .i64 0, .int .i64 0, .int .i64 3, .int .i64 0, .int .i64 0, .int .u64 0, .int .u64 0, .int .i64 4] 25)
    rw [show (w.alloc (.cells #[.int .u64 7, .int .i64 2, .int .i64 0, .int .i64 0, .int .i64 1, .int .i64 0, .int .i64 1, .int .u64 3, .int .u64 5, .int .i64 0] 25)).heap.size = w.heap.size + 1 by simp] at h
    exact h)
  clear zx zy zt zz zl1 zl2 l31 l7 l8
  go_enter Try.func8, Try.ntmps8
  go_wp2_with fail
  refine (H1.out _).mono ?_
  rintro e w1 ha
  obtain ⟨A1, c1, rfl, I1, hg⟩ := ans_e 1 rfl ha
  have G1 := Lib.hid (G0.out.trans hg)
  have BX1 := Lib.hid (keepB BX.out hg)
  have BY1 := Lib.hid (keepB BY.out hg)
  clear ha hg BX BY
  obtain ⟨y0, y1, y2, y3, y4, y5, y6, y7, y8, y9⟩ := ten_c BY1.out
  go_wp2_with fail
  refine (H2.out _ _ I1.out).mono ?_
  rintro e w2 ha
  obtain ⟨A2, c2, rfl, I2, hg⟩ := ans_e 2 rfl ha
  have G2 := Lib.hid (G1.out.trans hg)
  have BX2 := Lib.hid (keepB BX1.out hg)
  have BY2 := Lib.hid (keepB BY1.out hg)
  have I1b := Lib.hid (I1.out.grew hg)
  clear ha hg BX1 BY1 I1 y0 y1 y2 y3 y4 y5 y6 y7 y8 y9
  go_wp2_with fail
  refine (H3.out _ _ I2.out).mono ?_
  rintro e w3 ha
  obtain ⟨A3, c3, rfl, I3, hg⟩ := ans_e 0 rfl ha
  have G3 := Lib.hid (G2.out.trans hg)
  have BX3 := Lib.hid (keepB BX2.out hg)
  have BY3 := Lib.hid (keepB BY2.out hg)
  have I1c := Lib.hid (I1b.out.grew hg)
  have I2c := Lib.hid (I2.out.grew hg)
  clear ha hg BX2 BY2 I1b I2 I3
  obtain ⟨x0, x1, x2, x3, x4, x5, x6, x7, x8, x9⟩ := ten_c BX3.out
  go_wp2_with fail
  refine (H4.out _ _ I1c.out).mono ?_
  rintro e w4 ha
  obtain ⟨A4, c4, rfl, I4, hg⟩ := ans_e 0 rfl ha
  have G4 := Lib.hid (G3.out.trans hg)
  have BX4 := Lib.hid (keepB BX3.out hg)
  have BY4 := Lib.hid (keepB BY3.out hg)
  have I2d := Lib.hid (I2c.out.grew hg)
  clear ha hg BX3 BY3 I2c I4 I1c x0 x1 x2 x3 x4 x5 x6 x7 x8 x9
  obtain ⟨x0, x1, x2, x3, x4, x5, x6, x7, x8, x9⟩ := ten_c BX4.out
  go_wp2_with fail
  refine (H5.out _).mono ?_
  rintro e w5 ⟨vb, rfl, hob, hg⟩
  have G5 := Lib.hid (G4.out.trans hg)
  have GB := Lib.hid (show Below w4.heap.size w4 w5 from hg)
  have hob2 := hob
  obtain ⟨_, ⟨_, h0⟩ | ⟨gb, cb, cur, rfl, _⟩⟩ := hob2
  · have := L31.out
    omega
  have OB := Lib.hid hob
  rw [L31.out] at OB
  have ll := L31.out
  rw [ll]
  clear hob hg ll x0 x1 x2 x3 x4 x5 x6 x7 x8 x9
  go_wp2_with fail
  refine (H6.out _ _ OB.out.rd).mono ?_
  rintro e w6 ⟨rfl, hg⟩
  have GZ : Grew w6 (w6.alloc (.cells #[.int .u64 7, .int .i64 2, .int .i64 0, .int .i64 0, .int .i64 1, .int .i64 0, .int .i64 1, .int .u64 3, .int .u64 5, .int .i64 0] 25)) := by unfold Grew; go_grown
  have G6 := Lib.hid ((G5.out.trans hg).trans GZ)
  have GB6 := Lib.hid (GB.out.trans (Below.mono (show Below w5.heap.size w5 w6 from hg) GB.out.size))
  have OB6 := Lib.hid ((OB.out.grew hg).grew GZ)
  have BZ := Lib.hid (blk_new w6 (.cells #[.int .u64 7, .int .i64 2, .int .i64 0, .int .i64 0, .int .i64 1, .int .i64 0, .int .i64 1, .int .u64 3, .int .u64 5, .int .i64 0] 25))
  have GN : Grew (w6.alloc (.cells #[.int .u64 7, .int .i64 2, .int .i64 0, .int .i64 0, .int .i64 1, .int .i64 0, .int .i64 1, .int .u64 3, .int .u64 5, .int .i64 0] 25)) ((w6.alloc (.cells #[.int .u64 7, .int .i64 2, .int .i64 0, .int .i64 0, .int .i64 1, .int .i64 0, .int .i64 1, .int .u64 3, .int .u64 5, .int .i64 0] 25)).alloc (.cells #[.int .u8 0] 5)) := by unfold Grew; go_grown
  have hGB7 : w4.heap.size ≤ ((w6.alloc (.cells #[.int .u64 7, .int .i64 2, .int .i64 0, .int .i64 0, .int .i64 1, .int .i64 0, .int .i64 1, .int .u64 3, .int .u64 5, .int .i64 0] 25)).alloc (.cells #[.int .u8 0] 5)).heap.size := by have := GB6.out.size; simp; omega
  have hN : ((w6.alloc (.cells #[.int .u64 7, .int .i64 2, .int .i64 0, .int .i64 0, .int .i64 1, .int .i64 0, .int .i64 1, .int .u64 3, .int .u64 5, .int .i64 0] 25)).alloc (.cells #[.int .u8 0] 5)).heap[w6.heap.size + 1]? = some (.cells (bv [0]).toArray 5 (0, 0)) := by
    have h := blk_new (w6.alloc (.cells #[.int .u64 7, .int .i64 2, .int .i64 0, .int .i64 0, .int .i64 1, .int .i64 0, .int .i64 1, .int .u64 3, .int .u64 5, .int .i64 0] 25)) (.cells #[.int .u8 0] 5)
    rw [show (w6.alloc (.cells #[.int .u64 7, .int .i64 2, .int .i64 0, .int .i64 0, .int .i64 1, .int .i64 0, .int .i64 1, .int .u64 3, .int .u64 5, .int .i64 0] 25)).heap.size = w6.heap.size + 1 by simp] at h
    exact h
  have ho7 := OB6.out.grew GN
  have hlen := L31.out
  have ho8 : Ob w4.heap.size ((w6.alloc (.cells #[.int .u64 7, .int .i64 2, .int .i64 0, .int .i64 0, .int .i64 1, .int .i64 0, .int .i64 1, .int .u64 3, .int .u64 5, .int .i64 0] 25)).alloc (.cells #[.int .u8 0] 5)) (.slice (some ⟨gb, 0, none⟩) L.length cb) L := by rw [hlen]; exact ho7
  obtain ⟨v8, w8, hr8, hR8, hB8, hgr8⟩ := app_keep _ w4.heap.size gb cb L 0 ⟨w6.heap.size + 1, 0, none⟩ 1 ho8 (row_cells _ _ _ hN) (by omega)
  have hgb : ∃ cg, (w6.alloc (.cells #[.int .u64 7, .int .i64 2, .int .i64 0, .int .i64 0, .int .i64 1, .int .i64 0, .int .i64 1, .int .u64 3, .int .u64 5, .int .i64 0] 25)).heap[gb]? = some (.cells cg 5 (0, 0)) ∧ w4.heap.size ≤ gb := by
    obtain ⟨_, ⟨h0, _⟩ | ⟨g', cp, cur', he, hbg, hgg, _⟩⟩ := OB6.out
    · cases h0
    · injection he with e1 _ _
      injection e1 with e1
      injection e1 with e1 _ _
      subst e1
      exact ⟨_, hgg, hbg⟩
  obtain ⟨cg, hgb1, hgb2⟩ := hgb
  have BZ8 : Hid (w8.heap[w6.heap.size]? = some (.cells #[.int .u64 7, .int .i64 2, .int .i64 0, .int .i64 0, .int .i64 1, .int .i64 0, .int .i64 1, .int .u64 3, .int .u64 5, .int .i64 0] 25 (0, 0))) := Lib.hid ((hgr8.block w6.heap.size (by simp; omega) (by intro e; cases e; exact ne_ty BZ.out hgb1 (by decide) rfl)).trans (keepB BZ.out GN))
  have hbl8 : Below w4.heap.size _ w8 := below_of_grown _ hgr8 hGB7 (fun k hk => by cases hk; exact hgb2)
  rw [hlen] at hr8 hB8
  have HAPP := Lib.hid hr8
  have HR8 := Lib.hid hR8
  have HB8 := Lib.hid hB8
  have GK : Below w4.heap.size w4 w8 := (GB6.out.trans (Below.mono (show Below w6.heap.size w6 _ from GZ.trans GN) GB6.out.size)).trans hbl8
  have G8 := Lib.hid (G4.out.trans (show Grew w4 w8 from GK))
  have BX8 := Lib.hid (keepB BX4.out (show Grew w4 w8 from GK))
  have BY8 := Lib.hid (keepB BY4.out (show Grew w4 w8 from GK))
  have I28 := Lib.hid (I2d.out.grew (show Grew w4 w8 from GK))
  obtain ⟨A8, c8, rfl, _⟩ := id hR8
  have hle : (L ++ [0]).length = L.length + 1 := by rw [List.length_append, List.length_singleton]
  rw [hle] at HR8 HAPP
  clear hle
  clear hg GZ GN hGB7 hN ho7 hlen ho8 hr8 hR8 hB8 hgr8 hgb1 hgb2 hbl8 GK BX4 BY4 I2d OB OB6 GB GB6 BZ G5 G6
  go_wp2_with (at_builtin; refine wpList_app_want (.tmp 49) (.tmp 50) 34 (by rfl) (by rfl) _ _ rfl rfl _ w8 (by exact HAPP.out) ?_)
  refine (H7.out _ _ HR8.out).mono ?_
  rintro e w9 ⟨rfl, hg⟩
  have GW : Grew w9 (w9.alloc (.cells #[.int .u64 0, .int .i64 0, .int .i64 0, .int .i64 0, .int .i64 0, .int .i64 0, .int .i64 0, .int .u64 0, .int .u64 0, .int .i64 0] 25)) := by unfold Grew; go_grown
  have G9 := Lib.hid (G8.out.trans (hg.trans GW))
  have BX9 := Lib.hid (keepB BX8.out (hg.trans GW))
  have BY9 := Lib.hid (keepB BY8.out (hg.trans GW))
  have BZ9 := Lib.hid (keepB BZ8.out (hg.trans GW))
  have I29 := Lib.hid (I28.out.grew (hg.trans GW))
  have HB9 := Lib.hid (HB8.out.grew (hg.trans GW))
  have k7 := rd_at HB9.out 7 (Nat.lt_of_lt_of_eq (by decide) L31.out.symm)
  have k8 := rd_at HB9.out 8 (Nat.lt_of_lt_of_eq (by decide) L31.out.symm)
  rw [L7.out] at k7
  rw [L8.out] at k8
  rw [show ((7 : UInt8).toNat : Int) = 7 from rfl] at k7
  rw [show ((2 : UInt8).toNat : Int) = 2 from rfl] at k8
  obtain ⟨x0, x1, x2, x3, x4, x5, x6, x7, x8, x9⟩ := ten_c BX9.out
  obtain ⟨y0, y1, y2, y3, y4, y5, y6, y7, y8, y9⟩ := ten_c BY9.out
  obtain ⟨z0, z1, z2, z3, z4, z5, z6, z7, z8, z9⟩ := ten_c BZ9.out
  clear hg GW HAPP HR8 HB8 BX8 BY8 BZ8 I28 G8
  go_wp2_with fail
  refine (H8.out _).mono ?_
  rintro e wa ⟨rfl, hg⟩
  have GA := Lib.hid (G9.out.trans hg)
  have IA := Lib.hid (I29.out.grew hg)
  clear hg k7 k8 x0 x1 x2 x3 x4 x5 x6 x7 x8 x9 y0 y1 y2 y3 y4 y5 y6 y7 y8 y9 z0 z1 z2 z3 z4 z5 z6 z7 z8 z9
  go_wp2_with fail
  refine (H9.out _ _ IA.out).mono ?_
  rintro e wb ⟨rfl, hg⟩
  have GB := Lib.hid (GA.out.trans hg)
  clear hg
  go_wp2_with fail
  refine (H10.out _).mono ?_
  rintro e wc ⟨rfl, hg⟩
  have GC := Lib.hid (GB.out.trans hg)
  clear hg
  go_wp2
  go_returns
  exact ⟨rfl, GC.out⟩
end Go.Proofs.Ytmnfajplfnfgpab.UQ
