/-
  The fixed calls that each realm law ends with come to true.
  Conditions: those that each lemma names.
-/
import Derived.Test.YtmegdgeiikhflaaGreatCE
import Derived.Test.YtmegdgeiikhflaaGreatBE
import Derived.Test.YtmegdgeiikhflaaGreatEA
import Derived.Test.YtmegdgeiikhflaaGreatHS
import Derived.Test.YtmegdgeiikhflaaGreatHG
import Derived.Test.YtmegdgeiikhflaaGreatHA
import Derived.Test.YtmegdgeiikhflaaGreatHB
import Derived.Test.YtmegdgeiikhflaaGreatRPlaces
import Derived.Test.YtmegdgeiikhflaaGreatCF
import Derived.Test.YtmegdgeiikhflaaGreatEB
namespace Go.Proofs.YtmegdgeiikhflaaGreat.EC
set_option maxRecDepth 100000
open Go Go.RowKit Go.Lib Go.Proofs.YtmegdgeiikhflaaGreat Go.Proofs.YtmegdgeiikhflaaGreat.Facts Go.Proofs.YtmegdgeiikhflaaGreat.Bytes Go.Proofs.YtmegdgeiikhflaaGreat.Plain Go.Proofs.YtmegdgeiikhflaaGreat.Ints Go.Proofs.YtmegdgeiikhflaaGreat.LBox Go.Proofs.YtmegdgeiikhflaaGreat.RRows Go.Proofs.YtmegdgeiikhflaaGreat.Puts Go.Proofs.YtmegdgeiikhflaaGreat.Scan Go.Proofs.YtmegdgeiikhflaaGreat.Take Go.Proofs.YtmegdgeiikhflaaGreat.Nums Go.Proofs.YtmegdgeiikhflaaGreat.BA Go.Proofs.YtmegdgeiikhflaaGreat.BB Go.Proofs.YtmegdgeiikhflaaGreat.BC Go.Proofs.YtmegdgeiikhflaaGreat.BD Go.Proofs.YtmegdgeiikhflaaGreat.CA Go.Proofs.YtmegdgeiikhflaaGreat.CB Go.Proofs.YtmegdgeiikhflaaGreat.CC Go.Proofs.YtmegdgeiikhflaaGreat.CD Go.Proofs.YtmegdgeiikhflaaGreat.RSmall Go.Proofs.YtmegdgeiikhflaaGreat.RFind Go.Proofs.YtmegdgeiikhflaaGreat.RRules Go.Proofs.YtmegdgeiikhflaaGreat.RRule3 Go.Proofs.YtmegdgeiikhflaaGreat.RRight Go.Proofs.YtmegdgeiikhflaaGreat.HS Go.Proofs.YtmegdgeiikhflaaGreat.HA Go.Proofs.YtmegdgeiikhflaaGreat.HB Go.Proofs.YtmegdgeiikhflaaGreat.HG Go.Proofs.YtmegdgeiikhflaaGreat.RPlaces Go.Proofs.YtmegdgeiikhflaaGreat.EA


/-- Behind an own row of bytes: no other row changes. -/
theorem app_own (W : World) (base : Nat) (v : Value) (X Y : List UInt8) (S : Nat → Prop) (vb : Value) (ho : OwnB W base v X) (hr : Rd S W vb Y) (hne : Y ≠ []) (hl : X.length + Y.length ≤ 140737488355328) (hb : base ≤ W.heap.size) :
    ∃ v' w', (Builtin.append_ #[41, 41] 41 #[v, vb]).run Tryz.prog W = .ok v' w' ∧ OwnB w' base v' (X ++ Y) ∧ Below base W w' ∧ ∀ b, b < W.heap.size → v.ownBlock ≠ some b → w'.heap[b]? = W.heap[b]? := by
  obtain ⟨i0, hi, hx⟩ := Option.map_eq_some_iff.1 infoU8
  simp only [Prod.mk.injEq] at hx
  obtain ⟨hz0, hz1, hz2⟩ := hx
  obtain ⟨A, c, rfl, h1, h2, h3, h4⟩ := hr
  cases A with
  | none =>
    have := h3 rfl
    exact absurd (List.eq_nil_of_length_eq_zero (by omega)) hne
  | some ad =>
    have hown : W.ownsRow base 5 1 v X.length (bv X) := ho
    obtain ⟨v', w', hr, h5, h6, _⟩ := run_append_own (P := Tryz.prog) W base 41 41 5 i0 (.int .u8 0) 1 1 Tryz.underlying41 hi hz0 hz1 hz2 rfl Nat.one_pos v X.length (bv X) hown ad Y.length c (bv Y) (by rw [bv_length]; omega) (fun j u hu => (h4 ad rfl).2 j u hu) (bv_one Y) (by unfold maxLen; omega) (by omega) hb
    refine ⟨v', w', hr, OwnB.of (n := X.length + Y.length) (by rw [bv_append]; exact h5) (by rw [List.length_append]), ?_, fun b hb hne => h6.block b hb (Ne.symm hne)⟩
    exact below_rows hown h6 hb
theorem rd_one (W : World) (x : UInt8) : Rd (fun _ => True) (W.alloc (.cells #[.int .u8 (x.toNat : Int)] 5)) (.slice (some ⟨W.heap.size, 0, none⟩) 1 1) [x] := by
  refine ⟨some ⟨W.heap.size, 0, none⟩, 1, rfl, Nat.le_refl _, by decide, (fun h => by cases h), fun ad ha => ⟨fun _ => trivial, ?_⟩⟩
  cases ha
  exact row_at rfl
theorem own_block {W : World} {base : Nat} {v : Value} {X : List UInt8} (h : OwnB W base v X) (b : Nat) (hb : v.ownBlock = some b) : b < W.heap.size := by
  have h' : W.ownsRow base 5 1 v X.length (bv X) := h
  rcases h'.2 with ⟨rfl, _⟩ | ⟨g, cap, cur, rfl, h2, h3, h4⟩
  · cases hb
  · cases hb
    exact (Array.getElem?_eq_some_iff.1 h3).1
theorem s_apart : Names.apart (Names.lists (small.accounts.map (·.name))) = true := by
  unfold Names.apart Names.sorted
  rw [decide_eq_true_eq]
  exact (ListsPure.apart_iff _).2 (by decide)
theorem s_rule3 : rule3 small = true := by
  unfold rule3
  rw [s_apart]
  kernel_rfl
theorem s_may : mayBe small = true := by
  unfold mayBe
  rw [s_rule3]
  kernel_rfl
theorem sm_right : mayBe small = true := s_may
theorem sm_sized : Sized small := by
  intro x hx
  simp only [small, List.mem_cons, List.not_mem_nil, or_false] at hx
  rcases hx with rfl | rfl <;> decide
theorem z_right : mayBe re0 = false := by kernel_rfl
theorem z_sized : Sized re0 := by intro x hx; cases hx
theorem sm_leq : leqR small 1 2 = true := by
  unfold leqR
  rw [s_may]
  kernel_rfl
theorem sm_leq' : leqR small 2 1 = false := by
  unfold leqR
  rw [s_may]
  kernel_rfl
theorem sm_place : place small ⟨1, 1#64⟩ = 2 := by
  unfold place
  rw [s_may]
  kernel_rfl
theorem sm_hall0 : hallP small 0 = 1 := by
  unfold hallP
  rw [s_may]
  kernel_rfl
theorem sm_hall1 : hallP small 1 = -1 := by
  unfold hallP
  rw [s_may]
  kernel_rfl
theorem sm_guild1 : guildOf small 1 = 0 := by
  unfold guildOf
  rw [s_may]
  kernel_rfl
theorem sm_guild2 : guildOf small 2 = -1 := by
  unfold guildOf
  rw [s_may]
  kernel_rfl
theorem sm_guilds : (guildsOf small 2).length = 1 := by
  unfold guildsOf
  rw [s_may]
  kernel_rfl
theorem sm_acct : acctP small ⟨#[98, 111, 98]⟩ = 1 := by
  unfold acctP
  rw [s_may]
  kernel_rfl
theorem sm_bytes : bytesP small = bytesR small := by unfold bytesP; rw [if_pos s_may]
theorem sm_parts : partsP (bytesR small) = (small, ⟨[], 0⟩) := by kernel_rfl
theorem sm_parts' : partsP (bytesR small ++ [0]) = (small, ⟨[0], 0⟩) := by kernel_rfl
theorem sm_read : readP (bytesP small) = (small, 0) := by
  unfold readP
  rw [sm_bytes, sm_parts]
  simp only [s_may]
  kernel_rfl
theorem sm_more : readP (bytesP small ++ [0]) = (re0, 13) := by
  unfold readP
  rw [sm_bytes, sm_parts']
  kernel_rfl
theorem sm_len : (bytesP small).length ≤ 1000 := by
  rw [sm_bytes]
  decide +kernel
end Go.Proofs.YtmegdgeiikhflaaGreat.EC

namespace Go.Proofs.YtmegdgeiikhflaaGreat.ED
set_option maxRecDepth 100000
open Go Go.RowKit Go.Lib Go.Proofs.YtmegdgeiikhflaaGreat Go.Proofs.YtmegdgeiikhflaaGreat.Facts Go.Proofs.YtmegdgeiikhflaaGreat.Bytes Go.Proofs.YtmegdgeiikhflaaGreat.Plain Go.Proofs.YtmegdgeiikhflaaGreat.Ints Go.Proofs.YtmegdgeiikhflaaGreat.LBox Go.Proofs.YtmegdgeiikhflaaGreat.RRows Go.Proofs.YtmegdgeiikhflaaGreat.Puts Go.Proofs.YtmegdgeiikhflaaGreat.Scan Go.Proofs.YtmegdgeiikhflaaGreat.Take Go.Proofs.YtmegdgeiikhflaaGreat.Nums Go.Proofs.YtmegdgeiikhflaaGreat.BA Go.Proofs.YtmegdgeiikhflaaGreat.BB Go.Proofs.YtmegdgeiikhflaaGreat.BC Go.Proofs.YtmegdgeiikhflaaGreat.BD Go.Proofs.YtmegdgeiikhflaaGreat.CA Go.Proofs.YtmegdgeiikhflaaGreat.CB Go.Proofs.YtmegdgeiikhflaaGreat.CC Go.Proofs.YtmegdgeiikhflaaGreat.CD Go.Proofs.YtmegdgeiikhflaaGreat.CE Go.Proofs.YtmegdgeiikhflaaGreat.CF Go.Proofs.YtmegdgeiikhflaaGreat.RSmall Go.Proofs.YtmegdgeiikhflaaGreat.RFind Go.Proofs.YtmegdgeiikhflaaGreat.RRules Go.Proofs.YtmegdgeiikhflaaGreat.RRule3 Go.Proofs.YtmegdgeiikhflaaGreat.RRight Go.Proofs.YtmegdgeiikhflaaGreat.HS Go.Proofs.YtmegdgeiikhflaaGreat.HA Go.Proofs.YtmegdgeiikhflaaGreat.HB Go.Proofs.YtmegdgeiikhflaaGreat.HG Go.Proofs.YtmegdgeiikhflaaGreat.RPlaces Go.Proofs.YtmegdgeiikhflaaGreat.EA Go.Proofs.YtmegdgeiikhflaaGreat.EB Go.Proofs.YtmegdgeiikhflaaGreat.EC Go.Proofs.YtmegdgeiikhflaaGreat.BE


set_option maxHeartbeats 8000000 in
theorem alive_any (w : World) : Calls Tryz.prog 13 #[] w fun e w' => e = .returned (.bool true) ∧ Grew w w' := by
  go_enter Tryz.func13, Tryz.ntmps13
  go_wp2_with fail
  refine (small_any _).mono ?_
  rintro e w1 ⟨v, rfl, hre, hg⟩
  have HRE := Lib.hid hre
  have G1 := Lib.hid hg
  obtain ⟨v0, v1, v2, v3, v4, rfl, h0, h1, h2, h3, h4⟩ := hre
  obtain ⟨A0', cp0, rfl, _⟩ := id h0
  obtain ⟨A1', cp1, rfl, _⟩ := id h1
  obtain ⟨A2', cp2, rfl, _⟩ := id h2
  obtain ⟨A3', cp3, rfl, _⟩ := id h3
  obtain ⟨A4', cp4, rfl, _⟩ := id h4
  clear h0 h1 h2 h3 h4
  clear hg
  generalize small.labels.length = n0 at *
  generalize small.lines.length = n1 at *
  generalize small.accounts.length = n2 at *
  generalize small.guilds.length = n3 at *
  generalize small.quotas.length = n4 at *
  generalize small.orders = n5 at *
  generalize small.audits = n6 at *
  generalize small.rate = n7 at *
  generalize small.rounds = n8 at *
  have Q1 : Hid (Grew w1 (w1.alloc (.cells #[.slice A0' n0 cp0, .slice A1' n1 cp1, .slice A2' n2 cp2, .slice A3' n3 cp3, .slice A4' n4 cp4, .int .i64 n5, .int .i64 n6, .int .i64 n7, .int .i64 n8] 28))) := Lib.hid (by unfold Grew; go_grown)
  have P1 : Hid (Grew (w1.alloc (.cells #[.slice A0' n0 cp0, .slice A1' n1 cp1, .slice A2' n2 cp2, .slice A3' n3 cp3, .slice A4' n4 cp4, .int .i64 n5, .int .i64 n6, .int .i64 n7, .int .i64 n8] 28)) (w1.alloc (.cells #[.slice A0' n0 cp0, .slice A1' n1 cp1, .slice A2' n2 cp2, .slice A3' n3 cp3, .slice A4' n4 cp4, .int .i64 n5, .int .i64 n6, .int .i64 n7, .int .i64 n8] 28))) := Lib.hid (Grew.refl _)
  have R1 : Hid ((w1.alloc (.cells #[.slice A0' n0 cp0, .slice A1' n1 cp1, .slice A2' n2 cp2, .slice A3' n3 cp3, .slice A4' n4 cp4, .int .i64 n5, .int .i64 n6, .int .i64 n7, .int .i64 n8] 28)).heap[w1.heap.size]? = some (rcell (.slice A0' n0 cp0) (.slice A1' n1 cp1) (.slice A2' n2 cp2) (.slice A3' n3 cp3) (.slice A4' n4 cp4) n5 n6 n7 n8)) := Lib.hid (heap_alloc_new w1 _)
  have HS1 := Lib.hid (HRE.out.grew Q1.out)
  obtain ⟨r0, r1, r2, r3, r4, r5, r6, r7, r8⟩ := re_cells R1.out
  go_wp2_with fail
  with_reducible refine (bytes_any _ small _ HS1.out sm_sized).mono ?_
  rintro e w2 ⟨vb, rfl, hob, hg⟩
  have HOB := Lib.hid hob
  have P2 := Lib.hid hg
  have R2 := Lib.hid (keepB R1.out hg)
  clear hg hob r0 r1 r2 r3 r4 r5 r6 r7 r8
  go_wp2_with fail
  refine (read_any (fun _ => True) vb (bytesP small) w2 HOB.out.rd (by have := sm_len; omega)).mono ?_
  rintro e w3 ⟨vr, rfl, hrr, hg, hkk⟩
  rw [sm_read] at hrr hkk ⊢
  simp only at hrr hkk ⊢
  have G3 := Lib.hid hg
  have P3 := Lib.hid (P2.out.trans hg)
  have HKK := Lib.hid hkk
  have R3 := Lib.hid (keepB R2.out hg)
  clear hg hkk
  obtain ⟨z0, z1, z2, z3, z4, rfl, k0, k1, k2, k3, k4⟩ := hrr
  obtain ⟨B0', cq0, rfl, _⟩ := id k0
  obtain ⟨B1', cq1, rfl, _⟩ := id k1
  obtain ⟨B2', cq2, rfl, _⟩ := id k2
  obtain ⟨B3', cq3, rfl, _⟩ := id k3
  obtain ⟨B4', cq4, rfl, _⟩ := id k4
  clear k0 k1 k2 k3 k4
  generalize small.labels.length = m0 at *
  generalize small.lines.length = m1 at *
  generalize small.accounts.length = m2 at *
  generalize small.guilds.length = m3 at *
  generalize small.quotas.length = m4 at *
  generalize small.orders = m5 at *
  generalize small.audits = m6 at *
  generalize small.rate = m7 at *
  generalize small.rounds = m8 at *
  have Q3 : Hid (Grew w3 ((w3.alloc (.cells #[.slice B0' m0 cq0, .slice B1' m1 cq1, .slice B2' m2 cq2, .slice B3' m3 cq3, .slice B4' m4 cq4, .int .i64 m5, .int .i64 m6, .int .i64 m7, .int .i64 m8] 28)).alloc (.cells #[.int .u8 0] 5))) := Lib.hid (by unfold Grew; go_grown)
  have T3 : Hid (((w3.alloc (.cells #[.slice B0' m0 cq0, .slice B1' m1 cq1, .slice B2' m2 cq2, .slice B3' m3 cq3, .slice B4' m4 cq4, .int .i64 m5, .int .i64 m6, .int .i64 m7, .int .i64 m8] 28)).alloc (.cells #[.int .u8 0] 5)).heap[w3.heap.size]? = some (rcell (.slice B0' m0 cq0) (.slice B1' m1 cq1) (.slice B2' m2 cq2) (.slice B3' m3 cq3) (.slice B4' m4 cq4) m5 m6 m7 m8)) := Lib.hid ((heap_alloc_old _ _ (by simp)).trans (heap_alloc_new w3 _))
  have hz : (w3.alloc (.cells #[.slice B0' m0 cq0, .slice B1' m1 cq1, .slice B2' m2 cq2, .slice B3' m3 cq3, .slice B4' m4 cq4, .int .i64 m5, .int .i64 m6, .int .i64 m7, .int .i64 m8] 28)).heap.size = w3.heap.size + 1 := by simp
  have hrd := rd_one (w3.alloc (.cells #[.slice B0' m0 cq0, .slice B1' m1 cq1, .slice B2' m2 cq2, .slice B3' m3 cq3, .slice B4' m4 cq4, .int .i64 m5, .int .i64 m6, .int .i64 m7, .int .i64 m8] 28)) 0
  rw [hz] at hrd
  have hsz2 : ((w3.alloc (.cells #[.slice B0' m0 cq0, .slice B1' m1 cq1, .slice B2' m2 cq2, .slice B3' m3 cq3, .slice B4' m4 cq4, .int .i64 m5, .int .i64 m6, .int .i64 m7, .int .i64 m8] 28)).alloc (.cells #[.int .u8 0] 5)).heap.size = w3.heap.size + 2 := by simp
  obtain ⟨vb', w4, hrun, hown, hbel, hkeep⟩ := app_own ((w3.alloc (.cells #[.slice B0' m0 cq0, .slice B1' m1 cq1, .slice B2' m2 cq2, .slice B3' m3 cq3, .slice B4' m4 cq4, .int .i64 m5, .int .i64 m6, .int .i64 m7, .int .i64 m8] 28)).alloc (.cells #[.int .u8 0] 5)) _ vb (bytesP small) [0] (fun _ => True) _ (own_bgrew HOB.out (G3.out.trans Q3.out)) hrd (by simp) (by have := sm_len; simp; omega) (P3.out.trans Q3.out).size
  have HRUN := Lib.hid hrun
  have HOB4 := Lib.hid hown
  have P4 : Hid (Grew (w1.alloc (.cells #[.slice A0' n0 cp0, .slice A1' n1 cp1, .slice A2' n2 cp2, .slice A3' n3 cp3, .slice A4' n4 cp4, .int .i64 n5, .int .i64 n6, .int .i64 n7, .int .i64 n8] 28)) w4) := Lib.hid (Below.trans (show Below (w1.alloc (.cells #[.slice A0' n0 cp0, .slice A1' n1 cp1, .slice A2' n2 cp2, .slice A3' n3 cp3, .slice A4' n4 cp4, .int .i64 n5, .int .i64 n6, .int .i64 n7, .int .i64 n8] 28)).heap.size _ _ from P3.out.trans Q3.out) hbel)
  have R4 := Lib.hid (keepB R1.out P4.out)
  have hvb := own_block HOB.out
  have T4 := Lib.hid ((hkeep w3.heap.size (by omega) (fun e => by have := hvb _ e; have := G3.out.size; omega)).trans T3.out)
  have HK4 : Hid (∀ W, Grew w4 W → ReIs W (.agg #[.slice B0' m0 cq0, .slice B1' m1 cq1, .slice B2' m2 cq2, .slice B3' m3 cq3, .slice B4' m4 cq4, .int .i64 m5, .int .i64 m6, .int .i64 m7, .int .i64 m8]) small) := Lib.hid fun W hg => HKK.out W fun b h1 h2 => by
    have hb4 : b < w4.heap.size := by have := hbel.size; omega
    rw [hg.block b hb4, hkeep b (by omega) (fun e => by have := hvb _ e; omega)]
    exact Q3.out.block b h2
  clear hz hrd hsz2 hrun hown hbel hkeep hvb HKK
  go_wp2_with (at_builtin; refine wpList_app_want (.tmp 17) (.tmp 18) 41 (by rfl) (by rfl) _ _ rfl rfl vb' w4 (by exact HRUN.out) ?_)
  go_wp2_with fail
  refine (read_any (fun _ => True) vb' (bytesP small ++ [0]) w4 HOB4.out.rd (by have := sm_len; simp; omega)).mono ?_
  rintro e w5 ⟨vq, rfl, hrq, hg, _⟩
  rw [sm_more] at hrq ⊢
  simp only at hrq ⊢
  have G5 := Lib.hid hg
  clear hg
  obtain ⟨y0, y1, y2, y3, y4, rfl, j0, j1, j2, j3, j4⟩ := hrq
  obtain ⟨C0', cr0, rfl, _⟩ := id j0
  obtain ⟨C1', cr1, rfl, _⟩ := id j1
  obtain ⟨C2', cr2, rfl, _⟩ := id j2
  obtain ⟨C3', cr3, rfl, _⟩ := id j3
  obtain ⟨C4', cr4, rfl, _⟩ := id j4
  clear j0 j1 j2 j3 j4
  generalize re0.labels.length = l0 at *
  generalize re0.lines.length = l1 at *
  generalize re0.accounts.length = l2 at *
  generalize re0.guilds.length = l3 at *
  generalize re0.quotas.length = l4 at *
  generalize re0.orders = l5 at *
  generalize re0.audits = l6 at *
  generalize re0.rate = l7 at *
  generalize re0.rounds = l8 at *
  have Q5 : Hid (Grew w5 (w5.alloc (.cells #[.slice C0' l0 cr0, .slice C1' l1 cr1, .slice C2' l2 cr2, .slice C3' l3 cr3, .slice C4' l4 cr4, .int .i64 l5, .int .i64 l6, .int .i64 l7, .int .i64 l8] 28))) := Lib.hid (by unfold Grew; go_grown)
  have Pa := Lib.hid (P4.out.trans (G5.out.trans Q5.out))
  have Ha := Lib.hid (G5.out.trans Q5.out)
  have Ra := Lib.hid (keepB R1.out Pa.out)
  have Ta := Lib.hid (keepB T4.out Ha.out)
  obtain ⟨r0, r1, r2, r3, r4, r5, r6, r7, r8⟩ := re_cells Ra.out
  obtain ⟨t0, t1, t2, t3, t4, t5, t6, t7, t8⟩ := re_cells Ta.out
  go_wp2_with fail
  with_reducible refine (guildsOf_any _ small 2 _ (HS1.out.grew Pa.out) sm_sized).mono ?_
  rintro e w6 ⟨vg, rfl, hig, hg⟩
  obtain ⟨Ag, cg, rfl, _⟩ := hig
  rw [sm_guilds]
  have Pb := Lib.hid (Pa.out.trans hg)
  have Hb := Lib.hid (Ha.out.trans hg)
  have Rb := Lib.hid (keepB Ra.out hg)
  have Tb := Lib.hid (keepB Ta.out hg)
  clear hg r0 r1 r2 r3 r4 r5 r6 r7 r8 t0 t1 t2 t3 t4 t5 t6 t7 t8
  obtain ⟨r0, r1, r2, r3, r4, r5, r6, r7, r8⟩ := re_cells Rb.out
  obtain ⟨t0, t1, t2, t3, t4, t5, t6, t7, t8⟩ := re_cells Tb.out
  go_wp2_with fail
  refine (right_re _ small _ (HS1.out.grew Pb.out) sm_sized).mono ?_
  rintro e w7 ⟨rfl, hg⟩
  rw [sm_right]
  have Pc := Lib.hid (Pb.out.trans hg)
  have Hc := Lib.hid (Hb.out.trans hg)
  have Rc := Lib.hid (keepB Rb.out hg)
  have Tc := Lib.hid (keepB Tb.out hg)
  clear hg r0 r1 r2 r3 r4 r5 r6 r7 r8 t0 t1 t2 t3 t4 t5 t6 t7 t8
  obtain ⟨r0, r1, r2, r3, r4, r5, r6, r7, r8⟩ := re_cells Rc.out
  obtain ⟨t0, t1, t2, t3, t4, t5, t6, t7, t8⟩ := re_cells Tc.out
  go_wp2_with fail
  refine (right_re _ re0 _ (zero_is _) z_sized).mono ?_
  rintro e w8 ⟨rfl, hg⟩
  rw [z_right]
  have Pd := Lib.hid (Pc.out.trans hg)
  have Hd := Lib.hid (Hc.out.trans hg)
  have Rd := Lib.hid (keepB Rc.out hg)
  have Td := Lib.hid (keepB Tc.out hg)
  clear hg r0 r1 r2 r3 r4 r5 r6 r7 r8 t0 t1 t2 t3 t4 t5 t6 t7 t8
  obtain ⟨r0, r1, r2, r3, r4, r5, r6, r7, r8⟩ := re_cells Rd.out
  obtain ⟨t0, t1, t2, t3, t4, t5, t6, t7, t8⟩ := re_cells Td.out
  go_wp2_with fail
  refine (leqR_any _ small 1 2 _ (HS1.out.grew Pd.out) sm_sized).mono ?_
  rintro e w9 ⟨rfl, hg⟩
  rw [sm_leq]
  have Pe := Lib.hid (Pd.out.trans hg)
  have He := Lib.hid (Hd.out.trans hg)
  have Re := Lib.hid (keepB Rd.out hg)
  have Te := Lib.hid (keepB Td.out hg)
  clear hg r0 r1 r2 r3 r4 r5 r6 r7 r8 t0 t1 t2 t3 t4 t5 t6 t7 t8
  obtain ⟨r0, r1, r2, r3, r4, r5, r6, r7, r8⟩ := re_cells Re.out
  obtain ⟨t0, t1, t2, t3, t4, t5, t6, t7, t8⟩ := re_cells Te.out
  go_wp2_with fail
  refine (leqR_any _ small 2 1 _ (HS1.out.grew Pe.out) sm_sized).mono ?_
  rintro e w10 ⟨rfl, hg⟩
  rw [sm_leq']
  have Pf := Lib.hid (Pe.out.trans hg)
  have Hf := Lib.hid (He.out.trans hg)
  have Rf := Lib.hid (keepB Re.out hg)
  have Tf := Lib.hid (keepB Te.out hg)
  clear hg r0 r1 r2 r3 r4 r5 r6 r7 r8 t0 t1 t2 t3 t4 t5 t6 t7 t8
  obtain ⟨r0, r1, r2, r3, r4, r5, r6, r7, r8⟩ := re_cells Rf.out
  obtain ⟨t0, t1, t2, t3, t4, t5, t6, t7, t8⟩ := re_cells Tf.out
  go_wp2_with fail
  refine (place_any _ small ⟨1, 1#64⟩ _ (HS1.out.grew Pf.out) sm_sized).mono ?_
  rintro e w11 ⟨rfl, hg⟩
  rw [sm_place]
  have Pg := Lib.hid (Pf.out.trans hg)
  have Hg := Lib.hid (Hf.out.trans hg)
  have Rg := Lib.hid (keepB Rf.out hg)
  have Tg := Lib.hid (keepB Tf.out hg)
  clear hg r0 r1 r2 r3 r4 r5 r6 r7 r8 t0 t1 t2 t3 t4 t5 t6 t7 t8
  obtain ⟨r0, r1, r2, r3, r4, r5, r6, r7, r8⟩ := re_cells Rg.out
  obtain ⟨t0, t1, t2, t3, t4, t5, t6, t7, t8⟩ := re_cells Tg.out
  go_wp2_with fail
  refine (hallOf_any _ small 0 _ (HS1.out.grew Pg.out) sm_sized).mono ?_
  rintro e w12 ⟨rfl, hg⟩
  rw [sm_hall0]
  have Ph := Lib.hid (Pg.out.trans hg)
  have Hh := Lib.hid (Hg.out.trans hg)
  have Rh := Lib.hid (keepB Rg.out hg)
  have Th := Lib.hid (keepB Tg.out hg)
  clear hg r0 r1 r2 r3 r4 r5 r6 r7 r8 t0 t1 t2 t3 t4 t5 t6 t7 t8
  obtain ⟨r0, r1, r2, r3, r4, r5, r6, r7, r8⟩ := re_cells Rh.out
  obtain ⟨t0, t1, t2, t3, t4, t5, t6, t7, t8⟩ := re_cells Th.out
  go_wp2_with fail
  refine (hallOf_any _ small 1 _ (HS1.out.grew Ph.out) sm_sized).mono ?_
  rintro e w13 ⟨rfl, hg⟩
  rw [sm_hall1]
  have Pi := Lib.hid (Ph.out.trans hg)
  have Hi := Lib.hid (Hh.out.trans hg)
  have Ri := Lib.hid (keepB Rh.out hg)
  have Ti := Lib.hid (keepB Th.out hg)
  clear hg r0 r1 r2 r3 r4 r5 r6 r7 r8 t0 t1 t2 t3 t4 t5 t6 t7 t8
  obtain ⟨r0, r1, r2, r3, r4, r5, r6, r7, r8⟩ := re_cells Ri.out
  obtain ⟨t0, t1, t2, t3, t4, t5, t6, t7, t8⟩ := re_cells Ti.out
  go_wp2_with fail
  refine (guildOf_any _ small 1 _ (HS1.out.grew Pi.out) sm_sized).mono ?_
  rintro e w14 ⟨rfl, hg⟩
  rw [sm_guild1]
  have Pj := Lib.hid (Pi.out.trans hg)
  have Hj := Lib.hid (Hi.out.trans hg)
  have Rj := Lib.hid (keepB Ri.out hg)
  have Tj := Lib.hid (keepB Ti.out hg)
  clear hg r0 r1 r2 r3 r4 r5 r6 r7 r8 t0 t1 t2 t3 t4 t5 t6 t7 t8
  obtain ⟨r0, r1, r2, r3, r4, r5, r6, r7, r8⟩ := re_cells Rj.out
  obtain ⟨t0, t1, t2, t3, t4, t5, t6, t7, t8⟩ := re_cells Tj.out
  go_wp2_with fail
  refine (guildOf_any _ small 2 _ (HS1.out.grew Pj.out) sm_sized).mono ?_
  rintro e w15 ⟨rfl, hg⟩
  rw [sm_guild2]
  have Pk := Lib.hid (Pj.out.trans hg)
  have Hk := Lib.hid (Hj.out.trans hg)
  have Rk := Lib.hid (keepB Rj.out hg)
  have Tk := Lib.hid (keepB Tj.out hg)
  clear hg r0 r1 r2 r3 r4 r5 r6 r7 r8 t0 t1 t2 t3 t4 t5 t6 t7 t8
  obtain ⟨r0, r1, r2, r3, r4, r5, r6, r7, r8⟩ := re_cells Rk.out
  obtain ⟨t0, t1, t2, t3, t4, t5, t6, t7, t8⟩ := re_cells Tk.out
  go_wp2_with fail
  refine (account_any _ small ⟨#[98, 111, 98]⟩ _ (HS1.out.grew Pk.out) sm_sized).mono ?_
  rintro e w16 ⟨rfl, hg⟩
  rw [sm_acct]
  have Pl := Lib.hid (Pk.out.trans hg)
  have Hl := Lib.hid (Hk.out.trans hg)
  have Rl := Lib.hid (keepB Rk.out hg)
  have Tl := Lib.hid (keepB Tk.out hg)
  clear hg r0 r1 r2 r3 r4 r5 r6 r7 r8 t0 t1 t2 t3 t4 t5 t6 t7 t8
  obtain ⟨r0, r1, r2, r3, r4, r5, r6, r7, r8⟩ := re_cells Rl.out
  obtain ⟨t0, t1, t2, t3, t4, t5, t6, t7, t8⟩ := re_cells Tl.out
  go_wp2_with fail
  refine (same_self _ _ small _ (HS1.out.grew Pl.out) (HK4.out _ Hl.out)).mono ?_
  rintro e w17 ⟨rfl, hg⟩
  have PZ := Lib.hid (Pl.out.trans hg)
  clear hg r0 r1 r2 r3 r4 r5 r6 r7 r8 t0 t1 t2 t3 t4 t5 t6 t7 t8
  go_wp2
  go_returns
  exact ⟨by first | rfl | (simp; done), G1.out.trans (Q1.out.trans PZ.out)⟩
end Go.Proofs.YtmegdgeiikhflaaGreat.ED
