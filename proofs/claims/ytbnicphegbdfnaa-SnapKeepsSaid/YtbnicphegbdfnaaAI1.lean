/-
  AreaBack: any size, any stamp, any bytes.
  Conditions: none beyond what is read of the arguments.
-/
import Derived.Test.YtbnicphegbdfnaaDS
import Derived.Test.YtbnicphegbdfnaaMarks
namespace Go.Proofs.Ytbnicphegbdfnaa.AI1
set_option maxRecDepth 100000
open Go Go.RowKit Go.Proofs.Ytbnicphegbdfnaa Go.Proofs.Ytbnicphegbdfnaa.Facts Go.Proofs.Ytbnicphegbdfnaa.Bytes Go.Proofs.Ytbnicphegbdfnaa.DKeep Go.Proofs.Ytbnicphegbdfnaa.DSmall Go.Proofs.Ytbnicphegbdfnaa.DNew Go.Proofs.Ytbnicphegbdfnaa.Puts Go.Proofs.Ytbnicphegbdfnaa.SPure Go.Proofs.Ytbnicphegbdfnaa.JA Go.Proofs.Ytbnicphegbdfnaa.JD Go.Proofs.Ytbnicphegbdfnaa.JH Go.Proofs.Ytbnicphegbdfnaa.JQ Go.Proofs.Ytbnicphegbdfnaa.AP Go.Proofs.Ytbnicphegbdfnaa.AQ Go.Proofs.Ytbnicphegbdfnaa.AA Go.Proofs.Ytbnicphegbdfnaa.AW Go.Proofs.Ytbnicphegbdfnaa.AV Go.Proofs.Ytbnicphegbdfnaa.AC Go.Proofs.Ytbnicphegbdfnaa.DS Go.Proofs.Ytbnicphegbdfnaa.AU

/-- One row of zeros that is made within a region. -/
structure J1 (W0 : World) (kk : Nat) (z : List UInt8) (m : Nat → Bool) (u : Nat → Value) (w : World) : Prop where
  gr : Grew W0 w
  row : m kk = true → Rd (fun _ => True) w (u kk) z
section
variable {W0 w w' : World} {kk : Nat} {z : List UInt8} {m : Nat → Bool} {u : Nat → Value}
theorem J1.start (W0 : World) (kk : Nat) (z : List UInt8) : J1 W0 kk z (fun _ => false) (fun _ => undef) W0.drew := ⟨(Grew.refl W0).drew, fun h => by cases h⟩
theorem J1.go (h : J1 W0 kk z m u w) (k : Nat) (v : Value) (hk : k ≠ kk) (hg : Grew w w') : J1 W0 kk z (Marks.upd m k) (Marks.updv u k v) w' := by
  refine ⟨h.gr.trans hg, ?_⟩
  rw [Marks.upd_other m (by omega), Marks.updv_other u v (by omega)]
  exact fun q => (h.row q).grew hg
theorem J1.keep (h : J1 W0 kk z m u w) (k : Nat) (v : Value) (hk : k ≠ kk) : J1 W0 kk z (Marks.upd m k) (Marks.updv u k v) w := h.go k v hk (Grew.refl w)
theorem J1.made (h : J1 W0 kk z m u w) (v : Value) (hg : Grew w w') (hr : Rd (fun _ => True) w' v z) : J1 W0 kk z (Marks.upd m kk) (Marks.updv u kk v) w' := by
  refine ⟨h.gr.trans hg, fun _ => ?_⟩
  rw [Marks.updv_same]
  exact hr
end
theorem mk128 (u : World) : (Instr.makeSlice 23 (.int .i64 128) (.int .i64 128)).run Try.prog u = .ok (.slice (some ⟨u.heap.size, 0, none⟩) 128 128) (u.alloc (.cells (madeCells #[.int .u8 0] 128) 5)) := by
  obtain ⟨i0, hi, hx⟩ := Option.map_eq_some_iff.1 Puts.info5
  simp only [Prod.mk.injEq] at hx
  obtain ⟨hz0, hz1, hz2⟩ := hx
  have h := run_make (P := Try.prog) u 23 5 i0 (.int .u8 0) Try.underlying23 hi hz0 .i64 .i64 128 128 (by omega) (Int.le_refl _) (by rw [hz2]; omega) (by omega)
  simpa [hz1, Value.cells] using h
theorem out_refus (m : Int) (h : m < 1 ∨ 7 < m) : arefus (calm (DNew.blank 8)) 1 m = 1 := by
  unfold arefus calm
  simp only [DNew.blank_length]
  rw [if_pos (by omega)]

theorem law_out (w : World) (A : Option Addr) (c : Nat) (b : List UInt8) (m : Int) (st : Nat) (hm : m ≤ 9223372036854775807) (h : m < 1 ∨ 7 < m) :
    Calls Try.prog 3 #[.int .i64 m, .int .u64 (st : Int), .slice A b.length c] w fun e w' => e = .returned (.bool true) ∧ Grew w w' := by
  have HR := Lib.hid (out_refus m h)
  rcases h with h | h
  · go_enter Try.func3, Try.ntmps3
    go_wp2_with fail
    refine (ds_new w 8 8 rfl (by omega) (by omega)).mono ?_
    rintro e w1 ⟨g, rfl, hd⟩
    have HD : Hid (DS w g (calm (DNew.blank 8)) [] w1) := Lib.hid hd
    clear hd
    go_wp2_with fail
    refine (ds_arefused w w1 g _ [] HD.out 1 m _ st rfl A b.length c 1 hm HR.out (by omega)).mono ?_
    rintro e w2 ⟨rfl, hd⟩
    have HD2 := Lib.hid hd
    clear hd HD
    go_wp2_with fail
    refine (AH.alive_any _).mono ?_
    rintro e w3 ⟨rfl, hg⟩
    have HD3 := Lib.hid (HD2.out.grew hg)
    clear hg HD2
    go_wp2_with fail
    refine (ds_waits w w3 g _ _ HD3.out 0 rfl).mono ?_
    rintro e w' ⟨rfl, rfl⟩
    go_wp2
    go_ret
    exact ⟨rfl, HD3.out.gr⟩
  · by_cases h1 : m < 1
    · omega
    · go_enter Try.func3, Try.ntmps3
      go_wp2_with fail
      refine (ds_new w 8 8 rfl (by omega) (by omega)).mono ?_
      rintro e w1 ⟨g, rfl, hd⟩
      have HD : Hid (DS w g (calm (DNew.blank 8)) [] w1) := Lib.hid hd
      clear hd
      go_wp2_with fail
      refine (ds_arefused w w1 g _ [] HD.out 1 m _ st rfl A b.length c 1 hm HR.out (by omega)).mono ?_
      rintro e w2 ⟨rfl, hd⟩
      have HD2 := Lib.hid hd
      clear hd HD
      go_wp2_with fail
      refine (AH.alive_any _).mono ?_
      rintro e w3 ⟨rfl, hg⟩
      have HD3 := Lib.hid (HD2.out.grew hg)
      clear hg HD2
      go_wp2_with fail
      refine (ds_waits w w3 g _ _ HD3.out 0 rfl).mono ?_
      rintro e w' ⟨rfl, rfl⟩
      go_wp2
      go_ret
      exact ⟨rfl, HD3.out.gr⟩

theorem law_stamp (w : World) (A : Option Addr) (c : Nat) (b : List UInt8) (m st : Nat) (hm1 : 1 ≤ m) (hm7 : m ≤ 7) (hs : may st = false) :
    Calls Try.prog 3 #[.int .i64 (m : Int), .int .u64 (st : Int), .slice A b.length c] w fun e w' => e = .returned (.bool true) ∧ Grew w w' := by
  have HR := Lib.hid (calm_refus (DNew.blank 8) 1 m hm1 (by rw [DNew.blank_length]; omega))
  have HS := Lib.hid hs
  have h1 : ¬ (m : Int) < 1 := by omega
  have h2 : ¬ (7 : Int) < (m : Int) := by omega
  have h3 : st < 1 ∨ 4611686018427387904 < st := by
    have := (not_congr (may_iff st)).1 (by rw [hs]; decide)
    omega
  clear hs
  have hmm : (m : Int) ≤ 9223372036854775807 := by omega
  clear hm1 hm7
  rcases h3 with h3 | h3
  · have h4 : (st : Int) < 1 := by omega
    clear h3
    go_enter Try.func3, Try.ntmps3
    go_wp2_with fail
    refine (ds_new w 8 8 rfl (by omega) (by omega)).mono ?_
    rintro e w1 ⟨g, rfl, hd⟩
    have HD : Hid (DS w g (calm (DNew.blank 8)) [] w1) := Lib.hid hd
    clear hd
    go_wp2_with fail
    refine (ds_astamp w w1 g _ [] HD.out 1 _ _ st rfl A b.length c hmm HR.out HS.out).mono ?_
    rintro e w2 ⟨rfl, hd⟩
    have HD2 := Lib.hid hd
    clear hd HD
    go_wp2_with fail
    refine (AH.alive_any _).mono ?_
    rintro e w3 ⟨rfl, hg⟩
    have HD3 := Lib.hid (HD2.out.grew hg)
    clear hg HD2
    go_wp2_with fail
    refine (ds_waits w w3 g _ _ HD3.out 0 rfl).mono ?_
    rintro e w' ⟨rfl, rfl⟩
    go_wp2
    go_ret
    exact ⟨rfl, HD3.out.gr⟩
  · have h4 : ¬ (st : Int) < 1 := by omega
    have h5 : (4611686018427387904 : Int) < (st : Int) := by omega
    clear h3
    go_enter Try.func3, Try.ntmps3
    go_wp2_with fail
    refine (ds_new w 8 8 rfl (by omega) (by omega)).mono ?_
    rintro e w1 ⟨g, rfl, hd⟩
    have HD : Hid (DS w g (calm (DNew.blank 8)) [] w1) := Lib.hid hd
    clear hd
    go_wp2_with fail
    refine (ds_astamp w w1 g _ [] HD.out 1 _ _ st rfl A b.length c hmm HR.out HS.out).mono ?_
    rintro e w2 ⟨rfl, hd⟩
    have HD2 := Lib.hid hd
    clear hd HD
    go_wp2_with fail
    refine (AH.alive_any _).mono ?_
    rintro e w3 ⟨rfl, hg⟩
    have HD3 := Lib.hid (HD2.out.grew hg)
    clear hg HD2
    go_wp2_with fail
    refine (ds_waits w w3 g _ _ HD3.out 0 rfl).mono ?_
    rintro e w' ⟨rfl, rfl⟩
    go_wp2
    go_ret
    exact ⟨rfl, HD3.out.gr⟩

theorem law_long (w : World) (A : Option Addr) (c : Nat) (b : List UInt8) (m st : Nat) (hm1 : 1 ≤ m) (hm7 : m ≤ 7) (hs : may st = true) (hl : JA.room (m : Int) < (b.length : Int)) :
    Calls Try.prog 3 #[.int .i64 (m : Int), .int .u64 (st : Int), .slice A b.length c] w fun e w' => e = .returned (.bool true) ∧ Grew w w' := by
  have HR := Lib.hid (calm_refus (DNew.blank 8) 1 m hm1 (by rw [DNew.blank_length]; omega))
  have HS := Lib.hid hs
  have h1 : ¬ (m : Int) < 1 := by omega
  have h2 : ¬ (7 : Int) < (m : Int) := by omega
  have h4 : ¬ (st : Int) < 1 := by have := (may_iff st).1 hs; omega
  have h5 : ¬ (4611686018427387904 : Int) < (st : Int) := by have := (may_iff st).1 hs; omega
  have hmm : (m : Int) ≤ 9223372036854775807 := by omega
  have HRM := Lib.hid (fun w => JA.room_any (m : Int) w)
  have HL := Lib.hid hl
  obtain ⟨RM, hRM⟩ : ∃ RM, JA.room (m : Int) = RM := ⟨_, rfl⟩
  rw [hRM] at hl HRM
  clear hs hm1 hm7 hRM
  go_enter Try.func3, Try.ntmps3
  go_wp2_with fail
  refine (ds_new w 8 8 rfl (by omega) (by omega)).mono ?_
  rintro e w1 ⟨g, rfl, hd⟩
  have HD : Hid (DS w g (calm (DNew.blank 8)) [] w1) := Lib.hid hd
  clear hd
  go_wp2_with fail
  refine (ds_along w w1 g _ [] HD.out 1 _ _ st rfl A b.length c hmm HR.out HS.out HL.out).mono ?_
  rintro e w2 ⟨rfl, hd⟩
  have HD2 := Lib.hid hd
  clear hd HD
  go_wp2_with fail
  refine (HRM.out _).mono ?_
  rintro e w' ⟨rfl, rfl⟩
  go_wp2_with fail
  refine (AH.alive_any _).mono ?_
  rintro e w3 ⟨rfl, hg⟩
  have HD3 := Lib.hid (HD2.out.grew hg)
  clear hg HD2
  go_wp2_with fail
  refine (ds_waits w w3 g _ _ HD3.out 0 rfl).mono ?_
  rintro e w' ⟨rfl, rfl⟩
  go_wp2
  go_ret
  exact ⟨rfl, HD3.out.gr⟩

set_option maxHeartbeats 4000000 in
theorem law_good (w : World) (A : Option Addr) (c : Nat) (b : List UInt8) (m st : Nat) (hm1 : 1 ≤ m) (hm7 : m ≤ 7) (hs : may st = true) (hb : b.length + 4 ≤ 108 * m) (hr : Rd (fun b => b < w.heap.size) w (.slice A b.length c) b) :
    Calls Try.prog 3 #[.int .i64 (m : Int), .int .u64 (st : Int), .slice A b.length c] w fun e w' => e = .returned (.bool true) ∧ Grew w w' := by
  have hlen : 1 + m ≤ (DNew.blank 8).length := by rw [DNew.blank_length]; omega
  have HR := Lib.hid (calm_refus (DNew.blank 8) 1 m hm1 hlen)
  have HS := Lib.hid hs
  have HB := Lib.hid hb
  have HBK := Lib.hid (back m st b hs hm1 hm7 hb)
  have HWR := Lib.hid (gw_wrote 1 st m b (DNew.blank 8) hlen)
  have HQ1 : Hid (arefus (wrote 1 st m b (DNew.blank 8)) ((1 : Nat) : Int) (m : Int) = 0) := Lib.hid (by
    unfold arefus wrote
    simp only
    rw [if_neg (by omega)]
    rfl)
  have HQ2 : Hid (arefus (wrote 1 st m b (DNew.blank 8)) ((0 : Nat) : Int) ((8 : Nat) : Int) = 0) := Lib.hid (by
    unfold arefus wrote
    simp only [DNew.blank_length]
    rfl)
  have HEV := Lib.hid (ev_at HBK.out.2.2.2 0 8 (by
    show 0 + 8 ≤ (sets _ _).length
    rw [sets_length, DNew.blank_length]
    omega))
  have HRB := Lib.hid hr
  have h1 : ¬ (m : Int) < 1 := by omega
  have h2 : ¬ (7 : Int) < (m : Int) := by omega
  have h4 : ¬ (st : Int) < 1 := by have := (may_iff st).1 hs; omega
  have h5 : ¬ (4611686018427387904 : Int) < (st : Int) := by have := (may_iff st).1 hs; omega
  have HRM := Lib.hid (fun w => JA.room_any (m : Int) w)
  have hl : ¬ JA.room (m : Int) < (b.length : Int) := by
    unfold JA.room
    split
    · omega
    · split <;> omega
  obtain ⟨RM, hRM⟩ : ∃ RM, JA.room (m : Int) = RM := ⟨_, rfl⟩
  rw [hRM] at hl HRM
  clear hs hm1 hm7 hb hr hlen hRM
  go_enter Try.func3, Try.ntmps3
  go_wp2_with fail
  refine (ds_new w 8 8 rfl (by omega) (by omega)).mono ?_
  rintro e w1 ⟨g, rfl, hd⟩
  have HD : Hid (DS w g (calm (DNew.blank 8)) [] w1) := Lib.hid hd
  clear hd
  go_wp2_with fail
  refine (ds_awrite w w1 g _ [] HD.out 1 m st 1 _ _ rfl rfl rfl _ _ b _ 0 (HRB.out.grew HD.out.gr) HR.out HS.out HB.out (Nat.zero_le _) HWR.out).mono ?_
  rintro e w2 ⟨rfl, hd⟩
  have HD2 := Lib.hid hd
  clear hd HD HWR HS HB HR
  go_wp2_with fail
  refine (HRM.out _).mono ?_
  rintro e w' ⟨rfl, rfl⟩
  go_wp2_with fail
  refine (ds_aread w w2 g _ _ HD2.out 1 m 1 _ rfl rfl st b 0 HQ1.out HBK.out.1).mono ?_
  rintro e w3 ⟨v3, rfl, hd⟩
  obtain ⟨A3, c3, rfl, _⟩ := id (hd.rd (List.mem_cons_self ..))
  have HD3 := Lib.hid hd
  clear hd HD2
  go_wp2_with fail
  refine (ds_anewest w w3 g _ _ HD3.out 0 8 0 8 rfl rfl st HQ2.out HEV.out HBK.out.2.1).mono ?_
  rintro e w4 ⟨rfl, hd⟩
  have HD4 := Lib.hid hd
  clear hd HD3
  go_wp2_with fail
  refine (ds_read w w4 g _ _ HD4.out 0 (zeros 128) 0 HBK.out.2.2.1).mono ?_
  rintro e w5 ⟨v5, rfl, hd⟩
  obtain ⟨A5, c5, e5, _⟩ := id (hd.rd (List.mem_cons_self ..))
  subst e5
  have HD5 := Lib.hid hd
  have HR5 : Hid (Rd (fun _ => True) w5 (.slice A5 (zeros 128).length c5) (zeros 128)) := Lib.hid (hd.rd (List.mem_cons_self ..))
  have HR3 : Hid (Rd (fun _ => True) w5 (.slice A3 b.length c3) b) := Lib.hid (hd.rd (by simp))
  replace HRB := Lib.hid (HRB.out.grew hd.gr)
  clear hd HD4
  go_wp2
  refine Marks.wp_region_text (J1 w5 37 (zeros 128)) (fun _ _ => True) (by kernel_rfl) (by kernel_rfl) (J1.start w5 37 _) ?_
  apply Marks.Lex.exact [] (.bool true) (by kernel_rfl)
  · intro m' u W hm hcl hJ _
    unfold Marks.one
    go_simp
    refine (AH.alive_any W).mono ?_
    rintro e w' ⟨rfl, hg⟩
    exact ⟨_, rfl, trivial, hJ.go 0 _ (by omega) hg, rfl⟩
  simp only [Act.put, List.setIfInBounds_toArray, List.set_cons_zero, List.set_cons_succ, Nat.zero_add]
  apply Marks.Lex.exact [] _ (by kernel_rfl)
  · intro m' u W hm hcl hJ _
    unfold Marks.one
    go_simp
    exact ⟨trivial, hJ.keep 1 _ (by omega), rfl⟩
  simp only [Act.put, List.setIfInBounds_toArray, List.set_cons_zero, List.set_cons_succ, Nat.reduceAdd]
  apply Marks.Lex.exact [] _ (by kernel_rfl)
  · intro m' u W hm hcl hJ _
    unfold Marks.one
    go_simp
    exact ⟨trivial, hJ.keep 2 _ (by omega), rfl⟩
  simp only [Act.put, List.setIfInBounds_toArray, List.set_cons_zero, List.set_cons_succ, Nat.reduceAdd]
  apply Marks.Lex.exact [] _ (by kernel_rfl)
  · intro m' u W hm hcl hJ _
    unfold Marks.one
    go_simp
    exact ⟨trivial, hJ.keep 3 _ (by omega), rfl⟩
  simp only [Act.put, List.setIfInBounds_toArray, List.set_cons_zero, List.set_cons_succ, Nat.reduceAdd]
  apply Marks.Lex.exact [] _ (by kernel_rfl)
  · intro m' u W hm hcl hJ _
    unfold Marks.one
    go_simp
    exact ⟨trivial, hJ.keep 4 _ (by omega), rfl⟩
  simp only [Act.put, List.setIfInBounds_toArray, List.set_cons_zero, List.set_cons_succ, Nat.reduceAdd]
  apply Marks.Lex.exact [] _ (by kernel_rfl)
  · intro m' u W hm hcl hJ _
    unfold Marks.one
    go_simp
    exact ⟨trivial, hJ.keep 5 _ (by omega), rfl⟩
  simp only [Act.put, List.setIfInBounds_toArray, List.set_cons_zero, List.set_cons_succ, Nat.reduceAdd]
  apply Marks.Lex.exact [] _ (by kernel_rfl)
  · intro m' u W hm hcl hJ _
    unfold Marks.one
    go_simp
    exact ⟨trivial, hJ.keep 6 _ (by omega), rfl⟩
  simp only [Act.put, List.setIfInBounds_toArray, List.set_cons_zero, List.set_cons_succ, Nat.reduceAdd]
  apply Marks.Lex.exact [] _ (by kernel_rfl)
  · intro m' u W hm hcl hJ _
    unfold Marks.one
    go_simp
    exact ⟨trivial, hJ.keep 7 _ (by omega), rfl⟩
  simp only [Act.put, List.setIfInBounds_toArray, List.set_cons_zero, List.set_cons_succ, Nat.reduceAdd]
  apply Marks.Lex.exact [] _ (by kernel_rfl)
  · intro m' u W hm hcl hJ _
    unfold Marks.one
    go_simp
    exact ⟨trivial, hJ.keep 8 _ (by omega), rfl⟩
  simp only [Act.put, List.setIfInBounds_toArray, List.set_cons_zero, List.set_cons_succ, Nat.reduceAdd]
  apply Marks.Lex.exact [] _ (by kernel_rfl)
  · intro m' u W hm hcl hJ _
    unfold Marks.one
    go_simp
    exact ⟨trivial, hJ.keep 9 _ (by omega), rfl⟩
  simp only [Act.put, List.setIfInBounds_toArray, List.set_cons_zero, List.set_cons_succ, Nat.reduceAdd]
  apply Marks.Lex.exact [] _ (by kernel_rfl)
  · intro m' u W hm hcl hJ _
    unfold Marks.one
    go_simp
    exact ⟨trivial, hJ.keep 10 _ (by omega), rfl⟩
  simp only [Act.put, List.setIfInBounds_toArray, List.set_cons_zero, List.set_cons_succ, Nat.reduceAdd]
  apply Marks.Lex.exact [] _ (by kernel_rfl)
  · intro m' u W hm hcl hJ _
    unfold Marks.one
    go_simp
    exact ⟨trivial, hJ.keep 11 _ (by omega), rfl⟩
  simp only [Act.put, List.setIfInBounds_toArray, List.set_cons_zero, List.set_cons_succ, Nat.reduceAdd]
  apply Marks.Lex.exact [] _ (by kernel_rfl)
  · intro m' u W hm hcl hJ _
    unfold Marks.one
    go_simp
    exact ⟨trivial, hJ.keep 12 _ (by omega), rfl⟩
  simp only [Act.put, List.setIfInBounds_toArray, List.set_cons_zero, List.set_cons_succ, Nat.reduceAdd]
  apply Marks.Lex.exact [] _ (by kernel_rfl)
  · intro m' u W hm hcl hJ _
    unfold Marks.one
    go_simp
    exact ⟨trivial, hJ.keep 13 _ (by omega), rfl⟩
  simp only [Act.put, List.setIfInBounds_toArray, List.set_cons_zero, List.set_cons_succ, Nat.reduceAdd]
  apply Marks.Lex.exact [] _ (by kernel_rfl)
  · intro m' u W hm hcl hJ _
    unfold Marks.one
    go_simp
    exact ⟨trivial, hJ.keep 14 _ (by omega), rfl⟩
  simp only [Act.put, List.setIfInBounds_toArray, List.set_cons_zero, List.set_cons_succ, Nat.reduceAdd]
  apply Marks.Lex.exact [] _ (by kernel_rfl)
  · intro m' u W hm hcl hJ _
    unfold Marks.one
    go_simp
    exact ⟨trivial, hJ.keep 15 _ (by omega), rfl⟩
  simp only [Act.put, List.setIfInBounds_toArray, List.set_cons_zero, List.set_cons_succ, Nat.reduceAdd]
  apply Marks.Lex.exact [] _ (by kernel_rfl)
  · intro m' u W hm hcl hJ _
    have d1 := Nums.conv22 (HR3.out.grew hJ.gr)
    unfold Marks.one
    go_simp
    exact ⟨trivial, hJ.keep 16 _ (by omega), rfl⟩
  simp only [Act.put, List.setIfInBounds_toArray, List.set_cons_zero, List.set_cons_succ, Nat.reduceAdd]
  apply Marks.Lex.exact [] _ (by kernel_rfl)
  · intro m' u W hm hcl hJ _
    unfold Marks.one
    go_simp
    exact ⟨trivial, hJ.keep 17 _ (by omega), rfl⟩
  simp only [Act.put, List.setIfInBounds_toArray, List.set_cons_zero, List.set_cons_succ, Nat.reduceAdd]
  apply Marks.Lex.exact [] _ (by kernel_rfl)
  · intro m' u W hm hcl hJ _
    have d1 := Nums.conv22 (HRB.out.grew hJ.gr)
    unfold Marks.one
    go_simp
    exact ⟨trivial, hJ.keep 18 _ (by omega), rfl⟩
  simp only [Act.put, List.setIfInBounds_toArray, List.set_cons_zero, List.set_cons_succ, Nat.reduceAdd]
  apply Marks.Lex.exact [] _ (by kernel_rfl)
  · intro m' u W hm hcl hJ _
    have d1 : (b == b) = true := by simp
    unfold Marks.one
    go_simp
    exact ⟨trivial, hJ.keep 19 _ (by omega), rfl⟩
  simp only [Act.put, List.setIfInBounds_toArray, List.set_cons_zero, List.set_cons_succ, Nat.reduceAdd]
  apply Marks.Lex.exact [] _ (by kernel_rfl)
  · intro m' u W hm hcl hJ _
    unfold Marks.one
    go_simp
    exact ⟨trivial, hJ.keep 20 _ (by omega), rfl⟩
  simp only [Act.put, List.setIfInBounds_toArray, List.set_cons_zero, List.set_cons_succ, Nat.reduceAdd]
  apply Marks.Lex.exact [] _ (by kernel_rfl)
  · intro m' u W hm hcl hJ _
    unfold Marks.one
    go_simp
    exact ⟨trivial, hJ.keep 21 _ (by omega), rfl⟩
  simp only [Act.put, List.setIfInBounds_toArray, List.set_cons_zero, List.set_cons_succ, Nat.reduceAdd]
  apply Marks.Lex.exact [] _ (by kernel_rfl)
  · intro m' u W hm hcl hJ _
    unfold Marks.one
    go_simp
    exact ⟨trivial, hJ.keep 22 _ (by omega), rfl⟩
  simp only [Act.put, List.setIfInBounds_toArray, List.set_cons_zero, List.set_cons_succ, Nat.reduceAdd]
  apply Marks.Lex.exact [] _ (by kernel_rfl)
  · intro m' u W hm hcl hJ _
    unfold Marks.one
    go_simp
    exact ⟨trivial, hJ.keep 23 _ (by omega), rfl⟩
  simp only [Act.put, List.setIfInBounds_toArray, List.set_cons_zero, List.set_cons_succ, Nat.reduceAdd]
  apply Marks.Lex.exact [] _ (by kernel_rfl)
  · intro m' u W hm hcl hJ _
    unfold Marks.one
    go_simp
    exact ⟨trivial, hJ.keep 24 _ (by omega), rfl⟩
  simp only [Act.put, List.setIfInBounds_toArray, List.set_cons_zero, List.set_cons_succ, Nat.reduceAdd]
  apply Marks.Lex.exact [] _ (by kernel_rfl)
  · intro m' u W hm hcl hJ _
    unfold Marks.one
    go_simp
    exact ⟨trivial, hJ.keep 25 _ (by omega), rfl⟩
  simp only [Act.put, List.setIfInBounds_toArray, List.set_cons_zero, List.set_cons_succ, Nat.reduceAdd]
  apply Marks.Lex.exact [] _ (by kernel_rfl)
  · intro m' u W hm hcl hJ _
    unfold Marks.one
    go_simp
    exact ⟨trivial, hJ.keep 26 _ (by omega), rfl⟩
  simp only [Act.put, List.setIfInBounds_toArray, List.set_cons_zero, List.set_cons_succ, Nat.reduceAdd]
  apply Marks.Lex.exact [] _ (by kernel_rfl)
  · intro m' u W hm hcl hJ _
    unfold Marks.one
    go_simp
    exact ⟨trivial, hJ.keep 27 _ (by omega), rfl⟩
  simp only [Act.put, List.setIfInBounds_toArray, List.set_cons_zero, List.set_cons_succ, Nat.reduceAdd]
  apply Marks.Lex.exact [] _ (by kernel_rfl)
  · intro m' u W hm hcl hJ _
    unfold Marks.one
    go_simp
    exact ⟨trivial, hJ.keep 28 _ (by omega), rfl⟩
  simp only [Act.put, List.setIfInBounds_toArray, List.set_cons_zero, List.set_cons_succ, Nat.reduceAdd]
  apply Marks.Lex.exact [] _ (by kernel_rfl)
  · intro m' u W hm hcl hJ _
    unfold Marks.one
    go_simp
    exact ⟨trivial, hJ.keep 29 _ (by omega), rfl⟩
  simp only [Act.put, List.setIfInBounds_toArray, List.set_cons_zero, List.set_cons_succ, Nat.reduceAdd]
  apply Marks.Lex.exact [] _ (by kernel_rfl)
  · intro m' u W hm hcl hJ _
    unfold Marks.one
    go_simp
    exact ⟨trivial, hJ.keep 30 _ (by omega), rfl⟩
  simp only [Act.put, List.setIfInBounds_toArray, List.set_cons_zero, List.set_cons_succ, Nat.reduceAdd]
  apply Marks.Lex.exact [] _ (by kernel_rfl)
  · intro m' u W hm hcl hJ _
    unfold Marks.one
    go_simp
    exact ⟨trivial, hJ.keep 31 _ (by omega), rfl⟩
  simp only [Act.put, List.setIfInBounds_toArray, List.set_cons_zero, List.set_cons_succ, Nat.reduceAdd]
  apply Marks.Lex.exact [] _ (by kernel_rfl)
  · intro m' u W hm hcl hJ _
    unfold Marks.one
    go_simp
    exact ⟨trivial, hJ.keep 32 _ (by omega), rfl⟩
  simp only [Act.put, List.setIfInBounds_toArray, List.set_cons_zero, List.set_cons_succ, Nat.reduceAdd]
  apply Marks.Lex.exact [] _ (by kernel_rfl)
  · intro m' u W hm hcl hJ _
    unfold Marks.one
    go_simp
    exact ⟨trivial, hJ.keep 33 _ (by omega), rfl⟩
  simp only [Act.put, List.setIfInBounds_toArray, List.set_cons_zero, List.set_cons_succ, Nat.reduceAdd]
  apply Marks.Lex.exact [] _ (by kernel_rfl)
  · intro m' u W hm hcl hJ _
    unfold Marks.one
    go_simp
    exact ⟨trivial, hJ.keep 34 _ (by omega), rfl⟩
  simp only [Act.put, List.setIfInBounds_toArray, List.set_cons_zero, List.set_cons_succ, Nat.reduceAdd]
  apply Marks.Lex.exact [] _ (by kernel_rfl)
  · intro m' u W hm hcl hJ _
    unfold Marks.one
    go_simp
    exact ⟨trivial, hJ.keep 35 _ (by omega), rfl⟩
  simp only [Act.put, List.setIfInBounds_toArray, List.set_cons_zero, List.set_cons_succ, Nat.reduceAdd]
  apply Marks.Lex.exact [] _ (by kernel_rfl)
  · intro m' u W hm hcl hJ _
    have d1 := Nums.conv22 (HR5.out.grew hJ.gr)
    unfold Marks.one
    go_simp
    exact ⟨trivial, hJ.keep 36 _ (by omega), rfl⟩
  simp only [Act.put, List.setIfInBounds_toArray, List.set_cons_zero, List.set_cons_succ, Nat.reduceAdd]
  apply Marks.Lex.know [] (fun _ _ => True) (by kernel_rfl) (fun _ _ _ _ _ => trivial)
  · intro m' u W hm hcl hJ _
    have hmk := mk128 W
    unfold Marks.one
    go_simp
    exact ⟨trivial, hJ.made _ ((Below.refl _ W).alloc (Nat.le_refl _) _) ((JG.made_rd W 128 (by decide)).mono fun _ _ => trivial), trivial⟩
  simp only [Act.put, List.setIfInBounds_toArray, List.set_cons_zero, List.set_cons_succ, Nat.reduceAdd]
  apply Marks.Lex.exact [] _ (by kernel_rfl)
  · intro m' u W hm hcl hJ _
    have d1 := Nums.conv22 (hJ.row (hcl 37 (by decide)))
    unfold Marks.one
    go_simp
    exact ⟨trivial, hJ.keep 38 _ (by omega), rfl⟩
  simp only [Act.put, List.setIfInBounds_toArray, List.set_cons_zero, List.set_cons_succ, Nat.reduceAdd]
  apply Marks.Lex.exact [] _ (by kernel_rfl)
  · intro m' u W hm hcl hJ _
    have d1 : ((zeros 128) == (zeros 128)) = true := by simp
    unfold Marks.one
    go_simp
    exact ⟨trivial, hJ.keep 39 _ (by omega), rfl⟩
  simp only [Act.put, List.setIfInBounds_toArray, List.set_cons_zero, List.set_cons_succ, Nat.reduceAdd]
  apply Marks.Lex.exact [] _ (by kernel_rfl)
  · intro m' u W hm hcl hJ _
    unfold Marks.one
    go_simp
    exact ⟨trivial, hJ.keep 40 _ (by omega), rfl⟩
  simp only [Act.put, List.setIfInBounds_toArray, List.set_cons_zero, List.set_cons_succ, Nat.reduceAdd]
  apply Marks.Lex.exact [] _ (by kernel_rfl)
  · intro m' u W hm hcl hJ _
    unfold Marks.one
    go_simp
    exact ⟨trivial, hJ.keep 41 _ (by omega), rfl⟩
  simp only [Act.put, List.setIfInBounds_toArray, List.set_cons_zero, List.set_cons_succ, Nat.reduceAdd]
  apply Marks.Lex.exact [] _ (by kernel_rfl)
  · intro m' u W hm hcl hJ _
    unfold Marks.one
    go_simp
    exact ⟨trivial, hJ.keep 42 _ (by omega), rfl⟩
  simp only [Act.put, List.setIfInBounds_toArray, List.set_cons_zero, List.set_cons_succ, Nat.reduceAdd]
  apply Marks.Lex.exact [] (.int .i64 (m : Int)) (by kernel_rfl)
  · intro m' u W hm hcl hJ _
    unfold Marks.one
    go_simp
    refine (ds_waits w W g _ _ (HD5.out.grew hJ.gr) m (wrote_waits _ _ _ _ _)).mono ?_
    rintro e w' ⟨rfl, rfl⟩
    exact ⟨_, rfl, trivial, hJ.keep 43 _ (by omega), rfl⟩
  simp only [Act.put, List.setIfInBounds_toArray, List.set_cons_zero, List.set_cons_succ, Nat.reduceAdd]
  apply Marks.Lex.exact [] _ (by kernel_rfl)
  · intro m' u W hm hcl hJ _
    unfold Marks.one
    go_simp
    exact ⟨trivial, hJ.keep 44 _ (by omega), rfl⟩
  simp only [Act.put, List.setIfInBounds_toArray, List.set_cons_zero, List.set_cons_succ, Nat.reduceAdd]
  apply Marks.Lex.exact [] _ (by kernel_rfl)
  · intro m' u W hm hcl hJ _
    unfold Marks.one
    go_simp
    exact ⟨trivial, hJ.keep 45 _ (by omega), rfl⟩
  simp only [Act.put, List.setIfInBounds_toArray, List.set_cons_zero, List.set_cons_succ, Nat.reduceAdd]
  apply Marks.Lex.exact [] _ (by kernel_rfl)
  · intro m' u W hm hcl hJ _
    unfold Marks.one
    go_simp
    exact ⟨trivial, hJ.keep 46 _ (by omega), rfl⟩
  simp only [Act.put, List.setIfInBounds_toArray, List.set_cons_zero, List.set_cons_succ, Nat.reduceAdd]
  apply Marks.Lex.exact [] _ (by kernel_rfl)
  · intro m' u W hm hcl hJ _
    unfold Marks.one
    go_simp
    exact ⟨trivial, hJ.keep 47 _ (by omega), rfl⟩
  simp only [Act.put, List.setIfInBounds_toArray, List.set_cons_zero, List.set_cons_succ, Nat.reduceAdd]
  refine Marks.Lex.done fun m' u W hm hJ _ => ?_
  have HGE := Lib.hid (HD5.out.gr.trans hJ.gr)
  go_wp2
  go_returns
  exact ⟨rfl, HGE.out⟩

theorem law_any (w : World) (A : Option Addr) (c : Nat) (b : List UInt8) (m : Int) (st : Nat) (hm : m ≤ 9223372036854775807) (hr : Rd (fun b => b < w.heap.size) w (.slice A b.length c) b) :
    Calls Try.prog 3 #[.int .i64 m, .int .u64 (st : Int), .slice A b.length c] w fun e w' => e = .returned (.bool true) ∧ Grew w w' := by
  by_cases h : m < 1 ∨ 7 < m
  · exact law_out w A c b m st hm h
  · obtain ⟨k, rfl⟩ := Int.eq_ofNat_of_zero_le (show 0 ≤ m by omega)
    cases hs : may st with
    | false => exact law_stamp w A c b k st (by omega) (by omega) hs
    | true =>
      by_cases hb : b.length + 4 ≤ 108 * k
      · exact law_good w A c b k st (by omega) (by omega) hs hb hr
      · refine law_long w A c b k st (by omega) (by omega) hs ?_
        unfold JA.room
        rw [if_neg (by omega), if_neg (by omega)]
        omega
end Go.Proofs.Ytbnicphegbdfnaa.AI1
