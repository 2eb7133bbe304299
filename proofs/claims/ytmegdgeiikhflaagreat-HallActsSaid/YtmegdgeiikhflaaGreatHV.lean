/-
  The fixed calls of the hall.
  Conditions: none.
-/
import Derived.Test.YtmegdgeiikhflaaGreatHY
import Derived.Test.YtmegdgeiikhflaaGreatHS
import Derived.Test.YtmegdgeiikhflaaGreatListsPure
namespace Go.Proofs.YtmegdgeiikhflaaGreat.HV
open Go Go.RowKit Go.Lib Go.Proofs.YtmegdgeiikhflaaGreat Go.Proofs.YtmegdgeiikhflaaGreat.Facts Go.Proofs.YtmegdgeiikhflaaGreat.Plain Go.Proofs.YtmegdgeiikhflaaGreat.Ints Go.Proofs.YtmegdgeiikhflaaGreat.RRows Go.Proofs.YtmegdgeiikhflaaGreat.LBox Go.Proofs.YtmegdgeiikhflaaGreat.RSmall Go.Proofs.YtmegdgeiikhflaaGreat.RFind Go.Proofs.YtmegdgeiikhflaaGreat.RAll Go.Proofs.YtmegdgeiikhflaaGreat.RRules Go.Proofs.YtmegdgeiikhflaaGreat.RRule3 Go.Proofs.YtmegdgeiikhflaaGreat.RRight Go.Proofs.YtmegdgeiikhflaaGreat.HA Go.Proofs.YtmegdgeiikhflaaGreat.HB Go.Proofs.YtmegdgeiikhflaaGreat.HG Go.Proofs.YtmegdgeiikhflaaGreat.HC Go.Proofs.YtmegdgeiikhflaaGreat.HD Go.Proofs.YtmegdgeiikhflaaGreat.HN Go.Proofs.YtmegdgeiikhflaaGreat.HW Go.Proofs.YtmegdgeiikhflaaGreat.HX Go.Proofs.YtmegdgeiikhflaaGreat.HY Go.Proofs.YtmegdgeiikhflaaGreat.HS

theorem s_sized : Sized small := by
  intro x hx
  unfold small at hx
  simp only [List.mem_cons, List.not_mem_nil, or_false] at hx
  rcases hx with rfl | rfl <;> exact ⟨by decide, by decide⟩
theorem s_apart : Names.apart (Names.lists (small.accounts.map (·.name))) = true := by
  unfold Names.apart Names.sorted
  rw [decide_eq_true_eq]
  exact (ListsPure.apart_iff _).2 (by decide)
theorem s_rule3 : rule3 small = true := by
  unfold rule3
  rw [s_apart]
  kernel_rfl
theorem s_may : mayBe small = true := by
  unfold mayBe
  rw [s_rule3]
  kernel_rfl
theorem s_new : newR small = [[2, 0]] := by
  unfold newR
  rw [if_pos s_may]
  kernel_rfl
theorem s_1 : actR small [[2, 0]] 1 0 1 rI = ([[2, 1]], 0) := by
  unfold actR guildOf rightH
  simp only [s_may, if_true]
  kernel_rfl
theorem s_2 : (actR small [[2, 0]] 2 0 1 rI).2 = 17 := by
  unfold actR guildOf rightH
  simp only [s_may, if_true]
  kernel_rfl
theorem s_3 : (actR small [[2, 0]] 1 0 0 (rE small 0)).2 = 5 := by
  unfold actR guildOf rightH
  simp only [s_may, if_true]
  kernel_rfl
theorem s_4 : actR small [[2, 1]] 1 0 1 rR = ([[2, 2]], 0) := by
  unfold actR guildOf rightH
  simp only [s_may, if_true]
  kernel_rfl
theorem s_5 : (actR small [[2, 0]] 1 0 1 rR).2 = 3 := by
  unfold actR guildOf rightH
  simp only [s_may, if_true]
  kernel_rfl
theorem s_6 : (actR small [[2, 0]] 1 1 1 rI).2 = 5 := by
  unfold actR guildOf rightH
  simp only [s_may, if_true]
  kernel_rfl
theorem s_7 : rankOf small [[2, 1]] 0 1 = 1 := by
  unfold rankOf rightH
  simp only [s_may, if_true]
  kernel_rfl
theorem s_8 : rankOf small [[2, 2]] 0 1 = 2 := by
  unfold rankOf rightH
  simp only [s_may, if_true]
  kernel_rfl
theorem s_9 : clearedH small [[2, 1]] 1 1 = true := by
  unfold clearedH guildsOf rightH
  simp only [s_may, if_true]
  kernel_rfl
theorem s_10 : clearedH small [[2, 0]] 1 1 = false := by
  unfold clearedH guildsOf rightH
  simp only [s_may, if_true]
  kernel_rfl
theorem s_11 : clearedH small [[2, 1]] 1 2 = false := by
  unfold clearedH guildsOf rightH
  simp only [s_may, if_true]
  kernel_rfl
theorem s_12 : rightH small [[2, 0]] = true := by
  unfold rightH
  simp only [s_may, if_true]
  kernel_rfl
set_option maxRecDepth 100000 in
set_option maxHeartbeats 8000000 in
theorem alive_any (w : World) : Calls Tryz.prog 33 #[] w fun e w' => e = .returned (.bool true) ∧ Grew w w' := by
  go_enter Tryz.func33, Tryz.ntmps33
  go_wp2_with fail
  refine (small_any _).mono ?_
  rintro e w1 ⟨v, rfl, hre, hg⟩
  have HRE := Lib.hid hre
  have G1 := Lib.hid hg
  obtain ⟨v0, v1, v2, v3, v4, rfl, h0, h1, h2, h3, h4⟩ := hre
  obtain ⟨A0', cp0, rfl, _⟩ := h0.slice
  obtain ⟨A1', cp1, rfl, _⟩ := id h1
  obtain ⟨A2', cp2, rfl, _⟩ := h2.slice
  obtain ⟨A3', cp3, rfl, _⟩ := h3.slice
  obtain ⟨A4', cp4, rfl, _⟩ := h4.slice
  clear h0 h1 h2 h3 h4 hg
  have Q1 : Hid (Grew w1 (w1.alloc (.cells #[.slice A0' small.labels.length cp0, .slice A1' small.lines.length cp1, .slice A2' small.accounts.length cp2, .slice A3' small.guilds.length cp3, .slice A4' small.quotas.length cp4, .int .i64 small.orders, .int .i64 small.audits, .int .i64 small.rate, .int .i64 small.rounds] 28))) := Lib.hid (by unfold Grew; go_grown)
  have R1 : Hid ((w1.alloc (.cells #[.slice A0' small.labels.length cp0, .slice A1' small.lines.length cp1, .slice A2' small.accounts.length cp2, .slice A3' small.guilds.length cp3, .slice A4' small.quotas.length cp4, .int .i64 small.orders, .int .i64 small.audits, .int .i64 small.rate, .int .i64 small.rounds] 28)).heap[w1.heap.size]? = some (rcell (.slice A0' small.labels.length cp0) (.slice A1' small.lines.length cp1) (.slice A2' small.accounts.length cp2) (.slice A3' small.guilds.length cp3) (.slice A4' small.quotas.length cp4) small.orders small.audits small.rate small.rounds)) := Lib.hid (heap_alloc_new w1 _)
  generalize small.labels.length = n0 at *
  generalize small.lines.length = n1 at *
  generalize small.accounts.length = n2 at *
  generalize small.guilds.length = n3 at *
  generalize small.quotas.length = n4 at *
  generalize small.orders = n5 at *
  generalize small.audits = n6 at *
  generalize small.rate = n7 at *
  generalize small.rounds = n8 at *
  obtain ⟨r0, r1, r2, r3, r4, r5, r6, r7, r8⟩ := re_cells R1.out
  go_wp2_with fail
  with_reducible refine (new_any _ small _ (HRE.out.grew Q1.out) s_sized).mono ?_
  rintro e w2 ⟨v', rfl, hrk, hg⟩
  have R2 := Lib.hid (keepB R1.out hg)
  have Q2 := Lib.hid (Q1.out.trans hg)
  rw [s_new] at hrk
  obtain ⟨BL, cL, rfl, _⟩ := id hrk
  have HL := Lib.hid (show RK _ (.slice BL 1 cL) [[2, 0]] from hrk)
  clear hrk
  clear hg r0 r1 r2 r3 r4 r5 r6 r7 r8
  obtain ⟨r0, r1, r2, r3, r4, r5, r6, r7, r8⟩ := re_cells R2.out
  go_wp2_with fail
  with_reducible refine (invite_any _ _ small _ 1 0 1 _ (HRE.out.grew Q2.out) s_sized HL.out).mono ?_
  rintro e w3 ⟨v', rfl, hrk, hg⟩
  have R3 := Lib.hid (keepB R2.out hg)
  have Q3 := Lib.hid (Q2.out.trans hg)
  have HL' := Lib.hid (HL.out.grew hg)
  clear HL
  have HL := HL'
  clear HL'
  rw [s_1] at hrk
  obtain ⟨BM, cM, rfl, _⟩ := id hrk
  have HM := Lib.hid (show RK _ (.slice BM 1 cM) [[2, 1]] from hrk)
  rw [s_1]
  clear hrk
  clear hg r0 r1 r2 r3 r4 r5 r6 r7 r8
  obtain ⟨r0, r1, r2, r3, r4, r5, r6, r7, r8⟩ := re_cells R3.out
  go_wp2_with fail
  with_reducible refine (invite_any _ _ small _ 2 0 1 _ (HRE.out.grew Q3.out) s_sized HL.out).mono ?_
  rintro e w4 ⟨v', rfl, hrk, hg⟩
  have R4 := Lib.hid (keepB R3.out hg)
  have Q4 := Lib.hid (Q3.out.trans hg)
  have HL' := Lib.hid (HL.out.grew hg)
  clear HL
  have HL := HL'
  clear HL'
  have HM' := Lib.hid (HM.out.grew hg)
  clear HM
  have HM := HM'
  clear HM'
  obtain ⟨BX3, cX3, rfl, _⟩ := id hrk
  rw [s_2]
  clear hrk
  clear hg r0 r1 r2 r3 r4 r5 r6 r7 r8
  obtain ⟨r0, r1, r2, r3, r4, r5, r6, r7, r8⟩ := re_cells R4.out
  go_wp2_with fail
  with_reducible refine (expel_any _ _ small _ 1 0 0 _ (HRE.out.grew Q4.out) s_sized HL.out).mono ?_
  rintro e w5 ⟨v', rfl, hrk, hg⟩
  have R5 := Lib.hid (keepB R4.out hg)
  have Q5 := Lib.hid (Q4.out.trans hg)
  have HL' := Lib.hid (HL.out.grew hg)
  clear HL
  have HL := HL'
  clear HL'
  have HM' := Lib.hid (HM.out.grew hg)
  clear HM
  have HM := HM'
  clear HM'
  obtain ⟨BX4, cX4, rfl, _⟩ := id hrk
  rw [s_3]
  clear hrk
  clear hg r0 r1 r2 r3 r4 r5 r6 r7 r8
  obtain ⟨r0, r1, r2, r3, r4, r5, r6, r7, r8⟩ := re_cells R5.out
  go_wp2_with fail
  with_reducible refine (raise_any _ _ small _ 1 0 1 _ (HRE.out.grew Q5.out) s_sized HM.out).mono ?_
  rintro e w6 ⟨v', rfl, hrk, hg⟩
  have R6 := Lib.hid (keepB R5.out hg)
  have Q6 := Lib.hid (Q5.out.trans hg)
  have HL' := Lib.hid (HL.out.grew hg)
  clear HL
  have HL := HL'
  clear HL'
  have HM' := Lib.hid (HM.out.grew hg)
  clear HM
  have HM := HM'
  clear HM'
  rw [s_4] at hrk
  obtain ⟨BP, cP, rfl, _⟩ := id hrk
  have HP := Lib.hid (show RK _ (.slice BP 1 cP) [[2, 2]] from hrk)
  rw [s_4]
  clear hrk
  clear hg r0 r1 r2 r3 r4 r5 r6 r7 r8
  obtain ⟨r0, r1, r2, r3, r4, r5, r6, r7, r8⟩ := re_cells R6.out
  go_wp2_with fail
  with_reducible refine (raise_any _ _ small _ 1 0 1 _ (HRE.out.grew Q6.out) s_sized HL.out).mono ?_
  rintro e w7 ⟨v', rfl, hrk, hg⟩
  have R7 := Lib.hid (keepB R6.out hg)
  have Q7 := Lib.hid (Q6.out.trans hg)
  have HL' := Lib.hid (HL.out.grew hg)
  clear HL
  have HL := HL'
  clear HL'
  have HM' := Lib.hid (HM.out.grew hg)
  clear HM
  have HM := HM'
  clear HM'
  have HP' := Lib.hid (HP.out.grew hg)
  clear HP
  have HP := HP'
  clear HP'
  obtain ⟨BX6, cX6, rfl, _⟩ := id hrk
  rw [s_5]
  clear hrk
  clear hg r0 r1 r2 r3 r4 r5 r6 r7 r8
  obtain ⟨r0, r1, r2, r3, r4, r5, r6, r7, r8⟩ := re_cells R7.out
  go_wp2_with fail
  with_reducible refine (invite_any _ _ small _ 1 1 1 _ (HRE.out.grew Q7.out) s_sized HL.out).mono ?_
  rintro e w8 ⟨v', rfl, hrk, hg⟩
  have R8 := Lib.hid (keepB R7.out hg)
  have Q8 := Lib.hid (Q7.out.trans hg)
  have HL' := Lib.hid (HL.out.grew hg)
  clear HL
  have HL := HL'
  clear HL'
  have HM' := Lib.hid (HM.out.grew hg)
  clear HM
  have HM := HM'
  clear HM'
  have HP' := Lib.hid (HP.out.grew hg)
  clear HP
  have HP := HP'
  clear HP'
  obtain ⟨BX7, cX7, rfl, _⟩ := id hrk
  rw [s_6]
  clear hrk
  clear hg r0 r1 r2 r3 r4 r5 r6 r7 r8
  obtain ⟨r0, r1, r2, r3, r4, r5, r6, r7, r8⟩ := re_cells R8.out
  go_wp2_with fail
  with_reducible refine (rankOf_any _ _ small _ 0 1 _ (HRE.out.grew Q8.out) s_sized HM.out).mono ?_
  rintro e w9 ⟨rfl, hg⟩
  have R9 := Lib.hid (keepB R8.out hg)
  have Q9 := Lib.hid (Q8.out.trans hg)
  have HL' := Lib.hid (HL.out.grew hg)
  clear HL
  have HL := HL'
  clear HL'
  have HM' := Lib.hid (HM.out.grew hg)
  clear HM
  have HM := HM'
  clear HM'
  have HP' := Lib.hid (HP.out.grew hg)
  clear HP
  have HP := HP'
  clear HP'
  rw [s_7]
  clear hg r0 r1 r2 r3 r4 r5 r6 r7 r8
  obtain ⟨r0, r1, r2, r3, r4, r5, r6, r7, r8⟩ := re_cells R9.out
  go_wp2_with fail
  with_reducible refine (rankOf_any _ _ small _ 0 1 _ (HRE.out.grew Q9.out) s_sized HP.out).mono ?_
  rintro e w10 ⟨rfl, hg⟩
  have R10 := Lib.hid (keepB R9.out hg)
  have Q10 := Lib.hid (Q9.out.trans hg)
  have HL' := Lib.hid (HL.out.grew hg)
  clear HL
  have HL := HL'
  clear HL'
  have HM' := Lib.hid (HM.out.grew hg)
  clear HM
  have HM := HM'
  clear HM'
  have HP' := Lib.hid (HP.out.grew hg)
  clear HP
  have HP := HP'
  clear HP'
  rw [s_8]
  clear hg r0 r1 r2 r3 r4 r5 r6 r7 r8
  obtain ⟨r0, r1, r2, r3, r4, r5, r6, r7, r8⟩ := re_cells R10.out
  go_wp2_with fail
  with_reducible refine (cleared_any _ _ small _ 1 1 _ (HRE.out.grew Q10.out) s_sized HM.out).mono ?_
  rintro e w11 ⟨rfl, hg⟩
  have R11 := Lib.hid (keepB R10.out hg)
  have Q11 := Lib.hid (Q10.out.trans hg)
  have HL' := Lib.hid (HL.out.grew hg)
  clear HL
  have HL := HL'
  clear HL'
  have HM' := Lib.hid (HM.out.grew hg)
  clear HM
  have HM := HM'
  clear HM'
  have HP' := Lib.hid (HP.out.grew hg)
  clear HP
  have HP := HP'
  clear HP'
  rw [s_9]
  clear hg r0 r1 r2 r3 r4 r5 r6 r7 r8
  obtain ⟨r0, r1, r2, r3, r4, r5, r6, r7, r8⟩ := re_cells R11.out
  go_wp2_with fail
  with_reducible refine (cleared_any _ _ small _ 1 1 _ (HRE.out.grew Q11.out) s_sized HL.out).mono ?_
  rintro e w12 ⟨rfl, hg⟩
  have R12 := Lib.hid (keepB R11.out hg)
  have Q12 := Lib.hid (Q11.out.trans hg)
  have HL' := Lib.hid (HL.out.grew hg)
  clear HL
  have HL := HL'
  clear HL'
  have HM' := Lib.hid (HM.out.grew hg)
  clear HM
  have HM := HM'
  clear HM'
  have HP' := Lib.hid (HP.out.grew hg)
  clear HP
  have HP := HP'
  clear HP'
  rw [s_10]
  clear hg r0 r1 r2 r3 r4 r5 r6 r7 r8
  obtain ⟨r0, r1, r2, r3, r4, r5, r6, r7, r8⟩ := re_cells R12.out
  go_wp2_with fail
  with_reducible refine (cleared_any _ _ small _ 1 2 _ (HRE.out.grew Q12.out) s_sized HM.out).mono ?_
  rintro e w13 ⟨rfl, hg⟩
  have R13 := Lib.hid (keepB R12.out hg)
  have Q13 := Lib.hid (Q12.out.trans hg)
  have HL' := Lib.hid (HL.out.grew hg)
  clear HL
  have HL := HL'
  clear HL'
  have HM' := Lib.hid (HM.out.grew hg)
  clear HM
  have HM := HM'
  clear HM'
  have HP' := Lib.hid (HP.out.grew hg)
  clear HP
  have HP := HP'
  clear HP'
  rw [s_11]
  clear hg r0 r1 r2 r3 r4 r5 r6 r7 r8
  obtain ⟨r0, r1, r2, r3, r4, r5, r6, r7, r8⟩ := re_cells R13.out
  go_wp2_with fail
  with_reducible refine (hright_any _ _ small _ _ (HRE.out.grew Q13.out) s_sized HL.out).mono ?_
  rintro e w14 ⟨rfl, hg⟩
  have R14 := Lib.hid (keepB R13.out hg)
  have Q14 := Lib.hid (Q13.out.trans hg)
  have HL' := Lib.hid (HL.out.grew hg)
  clear HL
  have HL := HL'
  clear HL'
  have HM' := Lib.hid (HM.out.grew hg)
  clear HM
  have HM := HM'
  clear HM'
  have HP' := Lib.hid (HP.out.grew hg)
  clear HP
  have HP := HP'
  clear HP'
  rw [s_12]
  clear hg r0 r1 r2 r3 r4 r5 r6 r7 r8
  have G9 := Lib.hid (G1.out.trans Q14.out)
  go_wp2
  go_returns
  exact ⟨rfl, G9.out⟩
end Go.Proofs.YtmegdgeiikhflaaGreat.HV
