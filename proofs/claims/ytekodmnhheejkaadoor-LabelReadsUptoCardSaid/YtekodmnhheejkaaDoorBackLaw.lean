/-
  A label's bytes and text are read as what they were made of, and what is read is made of it again: LabelBack answers true.
  Conditions: the library's variables lie as the program's text lays them.
-/
import Derived.Test.YtekodmnhheejkaaDoorAlive
import Derived.Test.YtekodmnhheejkaaDoorBackPure
import Derived.Test.YtekodmnhheejkaaDoorTextPure
import Derived.Test.YtekodmnhheejkaaDoorRefs2
namespace Go.Proofs.YtekodmnhheejkaaDoor.BackLaw
open Go Go.RowKit Go.Lib Go.Proofs.YtekodmnhheejkaaDoor Go.Proofs.YtekodmnhheejkaaDoor.Facts Go.Proofs.YtekodmnhheejkaaDoor.Plain Go.Proofs.YtekodmnhheejkaaDoor.Bytes Go.Proofs.YtekodmnhheejkaaDoor.Each Go.Proofs.YtekodmnhheejkaaDoor.Comps Go.Proofs.YtekodmnhheejkaaDoor.Form Go.Proofs.YtekodmnhheejkaaDoor.Print Go.Proofs.YtekodmnhheejkaaDoor.Parse Go.Proofs.YtekodmnhheejkaaDoor.Text Go.Proofs.YtekodmnhheejkaaDoor.Alive Go.Proofs.YtekodmnhheejkaaDoor.BackPure Go.Proofs.YtekodmnhheejkaaDoor.TextPure
open _root_.Go.Proofs.YtekodmnhheejkaaDoor.Refs (keepB cellB)
open _root_.Go.Proofs.YtekodmnhheejkaaDoor.Refs2 (lc)

/-- What is read of bytes. -/
def rdOk (t : List UInt8) : Bool := decide (t.length = 9) && may ((t.headD 0).toNat : Int)
def rdV (t : List UInt8) : Int := if rdOk t = true then ((t.headD 0).toNat : Int) else 0
def rdC (t : List UInt8) : BitVec 64 := if rdOk t = true then val t.tail else 0#64
def rdE (t : List UInt8) : Int := if rdOk t = true then 0 else if t.length < 9 then 12 else if 9 < t.length then 13 else 2
theorem read_any (v : Value) (t : List UInt8) (w : World) (h : Rd (fun _ => True) w v t) : Calls Tryd.prog 23 #[v] w fun e W' => e = .returned (.tuple #[.agg #[.int .i64 (rdV t), .int .u64 ((rdC t).toNat : Int)], .int .i64 (rdE t)]) ∧ Grew w W' := by
  unfold rdV rdC rdE
  by_cases h1 : t.length < 9
  · have hk : rdOk t = false := by unfold rdOk; rw [decide_eq_false (by omega)]; rfl
    rw [hk, if_neg (by simp), if_neg (by simp), if_neg (by simp), if_pos h1]
    exact read_short v t w h h1
  · by_cases h2 : 9 < t.length
    · have hk : rdOk t = false := by unfold rdOk; rw [decide_eq_false (by omega)]; rfl
      rw [hk, if_neg (by simp), if_neg (by simp), if_neg (by simp), if_neg h1, if_pos h2]
      exact read_long v t w h h2
    · match t, h, h1, h2 with
      | x :: r, h, h1, h2 =>
        simp only [List.length_cons] at h1 h2
        have hn := read_nine v x r w h (by omega)
        have hk : rdOk (x :: r) = may (x.toNat : Int) := by
          unfold rdOk
          rw [decide_eq_true (by simp only [List.length_cons]; omega), Bool.true_and]
          rfl
        rw [hk, if_neg (show ¬ (x :: r).length < 9 by simp only [List.length_cons]; omega), if_neg (show ¬ 9 < (x :: r).length by simp only [List.length_cons]; omega)]
        cases hm : may (x.toNat : Int) with
        | true =>
          rw [hm, if_pos rfl] at hn
          exact hn
        | false =>
          rw [hm, if_neg (by simp)] at hn
          exact hn
theorem rdE_cases (t : List UInt8) : (rdE t = 0 ∧ rdOk t = true) ∨ ((rdE t != 0) = true ∧ rdOk t = false) := by
  unfold rdE
  cases h : rdOk t with
  | true => exact .inl ⟨rfl, rfl⟩
  | false =>
    refine .inr ⟨?_, rfl⟩
    rw [if_neg (by simp)]
    split
    · rfl
    · split <;> rfl
theorem rd_back (t : List UInt8) (h : rdOk t = true) : form (rdV t) (rdC t) = t := by
  unfold rdV rdC
  rw [if_pos h, if_pos h]
  unfold rdOk at h
  simp only [Bool.and_eq_true, decide_eq_true_iff] at h
  match t, h with
  | x :: r, h =>
    have hl : r.length = 8 := by simpa using h.1
    have hm : may (x.toNat : Int) = true := h.2
    show form (x.toNat : Int) (val r) = x :: r
    unfold form
    rw [if_pos hm, be_val r hl, Int.toNat_natCast]
    congr 1
    exact UInt8.ofNat_toNat
theorem rd_form (v : Int) (c : BitVec 64) (hv : may v = true) : rdV (form v c) = v ∧ rdC (form v c) = c ∧ rdE (form v c) = 0 := by
  have hb : 0 ≤ v ∧ v < 4 := by unfold may at hv; simpa using hv
  have e : ((UInt8.ofNat v.toNat).toNat : Int) = v := by rw [UInt8.toNat_ofNat']; omega
  have hk : rdOk (form v c) = true := by
    unfold rdOk form
    rw [if_pos hv]
    simp only [List.length_cons, be_length, List.headD_cons, e, hv]
    rfl
  unfold rdV rdC rdE
  rw [if_pos hk, if_pos hk, if_pos hk]
  unfold form
  rw [if_pos hv]
  exact ⟨e, val_be c, rfl⟩

/-- What is read of a text. -/
def paV (s : ByteArray) : Int := match parse s with | some (v, _) => (v : Int) | none => 0
def paC (s : ByteArray) : BitVec 64 := match parse s with | some (_, c) => c | none => 0#64
def paE (s : ByteArray) : Int := match parse s with | some _ => 0 | none => 2
theorem parse2_any (s : ByteArray) (hs : s.size ≤ 140737488355328) (w : World) (hE : Env w) : Calls Tryd.prog 25 #[.string s] w fun e W' => e = .returned (.tuple #[.agg #[.int .i64 (paV s), .int .u64 ((paC s).toNat : Int)], .int .i64 (paE s)]) ∧ Grew w W' := by
  have h := parse_any s hs w hE
  unfold paV paC paE
  cases hp : parse s with
  | none => rw [hp] at h; exact h
  | some q => obtain ⟨v, c⟩ := q; rw [hp] at h; exact h
theorem paE_cases (s : ByteArray) : (paE s = 0 ∧ print (paV s) (paC s) = s) ∨ (paE s != 0) = true := by
  unfold paE paV paC
  cases hp : parse s with
  | none => exact .inr rfl
  | some q => obtain ⟨v, c⟩ := q; exact .inl ⟨rfl, (parse_print s v c hp).2⟩
theorem pa_print (v : Int) (c : BitVec 64) (hv : may v = true) : paV (print v c) = v ∧ paC (print v c) = c ∧ paE (print v c) = 0 := by
  have h := print_parse v c hv
  have hb : 0 ≤ v ∧ v < 4 := by unfold may at hv; simpa using hv
  unfold paV paC paE
  rw [h]
  exact ⟨Int.toNat_of_nonneg hb.1, rfl, rfl⟩
theorem print_size (v : Int) (c : BitVec 64) : (print v c).size ≤ 140737488355328 := by
  unfold print
  split
  · rename_i hv
    have hb : 0 ≤ v ∧ v < 4 := by unfold may at hv; simpa using hv
    rw [text_size]
    have h1 := digits_fin ⟨v.toNat, by omega⟩
    have h2 := tail_le (comps c)
    have h3 := comps_le c
    simp only at h1
    omega
  · show (0 : Nat) ≤ _
    omega
theorem conv {W : World} {x : Value} {t : List UInt8} (h : Rd (fun _ => True) W x t) : (convert 37 9 x).run Tryd.prog W = .ok (.string ⟨t.toArray⟩) W :=
  run_toString (P := Tryd.prog) W Tryd.underlying37 Tryd.underlying5 Tryd.underlying9 h

set_option maxRecDepth 100000 in
set_option maxHeartbeats 4000000 in
theorem law_111 (v : Int) (c : BitVec 64) (vb : Value) (t : List UInt8) (s : ByteArray) {w : World} (hv : may v = true) (hT : Rd (fun _ => True) w vb t) (hs : s.size ≤ 140737488355328) (hE : Env w) (hr0 : rdE t = 0) (hr1 : rdOk t = true) (hp0 : paE s = 0) (hp1 : print (paV s) (paC s) = s) : Calls Tryd.prog 7 #[.agg #[.int .i64 v, .int .u64 (c.toNat : Int)], vb, .string s] w fun e W' => e = .returned (.bool true) ∧ Grew w W' := by
  have HE : Hid (∀ W, Grew w W → Env W) := Lib.hid fun W hg => hE.grow hg
  have HT := Lib.hid hT
  have HRI := Lib.hid (fun W => right_any v c W)
  have HRB : Hid (∀ W, Grew w W → Calls Tryd.prog 23 #[vb] W fun e W' => e = .returned (.tuple #[.agg #[.int .i64 (rdV t), .int .u64 ((rdC t).toNat : Int)], .int .i64 (rdE t)]) ∧ Grew W W') := Lib.hid fun W hg => read_any vb t W (hT.grew hg)
  have HPB := Lib.hid (fun W hE => parse2_any s hs W hE)
  have HF : Hid (∀ W, Calls Tryd.prog 27 #[.agg #[.int .i64 (rdV t), .int .u64 ((rdC t).toNat : Int)]] W fun e W' => ∃ v', e = .returned v' ∧ Rd (fun b => W.heap.size ≤ b) W' v' t ∧ Grew W W') := Lib.hid fun W => by
    have := form_any (rdV t) (rdC t) W
    rwa [rd_back t hr1] at this
  rw [hr0] at HRB
  clear hr0 hr1
  have HP : Hid (∀ W, Env W → 0 < W.heap.size → Calls Tryd.prog 29 #[.agg #[.int .i64 (paV s), .int .u64 ((paC s).toNat : Int)]] W fun e W' => e = .returned (.string s) ∧ Grew W W') := Lib.hid fun W hE hs => by
    have := print_any (paV s) (paC s) W hs hE.tab
    rwa [hp1] at this
  rw [hp0] at HPB
  clear hp0 hp1
  have HBY := Lib.hid (fun W => form_any v c W)
  have HRF : Hid (∀ W x, Rd (fun _ => True) W x (form v c) → Calls Tryd.prog 23 #[x] W fun e W' => e = .returned (.tuple #[.agg #[.int .i64 v, .int .u64 (c.toNat : Int)], .int .i64 0]) ∧ Grew W W') := Lib.hid fun W x h => by
    have := read_any x _ W h
    obtain ⟨e1, e2, e3⟩ := rd_form v c hv
    rwa [e1, e2, e3] at this
  have HPR : Hid (∀ W, Env W → 0 < W.heap.size → Calls Tryd.prog 29 #[.agg #[.int .i64 v, .int .u64 (c.toNat : Int)]] W fun e W' => e = .returned (.string (print v c)) ∧ Grew W W') := Lib.hid fun W hE hs => print_any v c W hs hE.tab
  have HPP : Hid (∀ W, Env W → Calls Tryd.prog 25 #[.string (print v c)] W fun e W' => e = .returned (.tuple #[.agg #[.int .i64 v, .int .u64 (c.toNat : Int)], .int .i64 0]) ∧ Grew W W') := Lib.hid fun W hE => by
    have := parse2_any _ (print_size v c) W hE
    obtain ⟨e1, e2, e3⟩ := pa_print v c hv
    rwa [e1, e2, e3] at this
  generalize print v c = pr at *
  rw [hv] at HRI
  have A0 : Hid ((w.alloc (.cells #[.int .i64 v, .int .u64 (c.toNat : Int)] 24)).heap[w.heap.size]? = some (lc v c)) := Lib.hid (heap_alloc_new w _)
  have G0 : Hid (Grew w (w.alloc (.cells #[.int .i64 v, .int .u64 (c.toNat : Int)] 24))) := Lib.hid (by unfold Grew; go_grown)
  generalize rdV t = rv at *
  generalize rdC t = rc at *
  generalize paV s = pv at *
  generalize paC s = pc at *
  clear hT hE hs hv
  obtain ⟨VA, VC, rfl, _⟩ := id HT.out
  go_enter Tryd.func7, Tryd.ntmps7
  go_wp2_with fail
  refine (HRI.out _).mono ?_
  rintro e w1 ⟨rfl, hg⟩
  have A1 := Lib.hid (keepB A0.out hg)
  have G1 := Lib.hid (G0.out.trans hg)
  clear hg
  obtain ⟨a0, a1, _, _⟩ := lab_cells A1.out
  go_wp2_with fail
  refine (HBY.out _).mono ?_
  rintro e w2 ⟨x, rfl, hr, hg⟩
  have I2 := Lib.hid (hr.mono fun _ _ => trivial)
  have A2 := Lib.hid (keepB A1.out hg)
  have G2 := Lib.hid (G1.out.trans hg)
  clear hr hg a0 a1
  go_wp2_with fail
  refine (HRF.out _ _ I2.out).mono ?_
  rintro e w3 ⟨rfl, hg⟩
  have g3 : Grew w3 (w3.alloc (.cells #[.int .i64 v, .int .u64 (c.toNat : Int)] 24)) := by unfold Grew; go_grown
  have A3 := Lib.hid (keepB (keepB A2.out hg) g3)
  have G3 := Lib.hid ((G2.out.trans hg).trans g3)
  have B3 : Hid ((w3.alloc (.cells #[.int .i64 v, .int .u64 (c.toNat : Int)] 24)).heap[w3.heap.size]? = some (lc v c)) := Lib.hid (heap_alloc_new w3 _)
  have S3 : Hid (0 < (w3.alloc (.cells #[.int .i64 v, .int .u64 (c.toNat : Int)] 24)).heap.size) := Lib.hid (by simp)
  clear hg g3
  obtain ⟨a0, a1, _, _⟩ := lab_cells A3.out
  go_wp2_with fail
  refine (HPR.out _ (HE.out _ G3.out) S3.out).mono ?_
  rintro e w4 ⟨rfl, hg⟩
  have A4 := Lib.hid (keepB A3.out hg)
  have B4 := Lib.hid (keepB B3.out hg)
  have G4 := Lib.hid (G3.out.trans hg)
  clear hg a0 a1
  go_wp2_with fail
  refine (HPP.out _ (HE.out _ G4.out)).mono ?_
  rintro e w5 ⟨rfl, hg⟩
  have g5 : Grew w5 (w5.alloc (.cells #[.int .i64 v, .int .u64 (c.toNat : Int)] 24)) := by unfold Grew; go_grown
  have A5 := Lib.hid (keepB (keepB A4.out hg) g5)
  have B5 := Lib.hid (keepB (keepB B4.out hg) g5)
  have G5 := Lib.hid ((G4.out.trans hg).trans g5)
  clear hg g5
  obtain ⟨a0, a1, _, _⟩ := lab_cells A5.out
  obtain ⟨b0, b1, _, _⟩ := lab_cells B5.out
  go_wp2_with fail
  refine (HRB.out _ G5.out).mono ?_
  rintro e w6 ⟨rfl, hg⟩
  have g6 : Grew w6 (w6.alloc (.cells #[.int .i64 rv, .int .u64 (rc.toNat : Int)] 24)) := by unfold Grew; go_grown
  have G6 := Lib.hid ((G5.out.trans hg).trans g6)
  have R6 : Hid ((w6.alloc (.cells #[.int .i64 rv, .int .u64 (rc.toNat : Int)] 24)).heap[w6.heap.size]? = some (lc rv rc)) := Lib.hid (heap_alloc_new w6 _)
  clear hg g6 a0 a1 b0 b1
  go_wp2_with fail
  refine (HPB.out _ (HE.out _ G6.out)).mono ?_
  rintro e w7 ⟨rfl, hg⟩
  have g7 : Grew w7 (w7.alloc (.cells #[.int .i64 pv, .int .u64 (pc.toNat : Int)] 24)) := by unfold Grew; go_grown
  have HG := Lib.hid ((G6.out.trans hg).trans g7)
  have R0 := keepB (keepB R6.out hg) g7
  have P0 : (w7.alloc (.cells #[.int .i64 pv, .int .u64 (pc.toNat : Int)] 24)).heap[w7.heap.size]? = some (lc pv pc) := heap_alloc_new w7 _
  have HS : Hid (0 < (w7.alloc (.cells #[.int .i64 pv, .int .u64 (pc.toNat : Int)] 24)).heap.size) := Lib.hid (by simp)
  clear hg g7
  go_wp2
  refine Facts.wp_region_text (by kernel_rfl) (by kernel_rfl) ?_
  apply Facts.Lex.exact [] (.bool true) (by kernel_rfl)
  · intro u W hC _
    obtain ⟨x0, x1, _, _⟩ := lab_cells (keepB R0 hC)
    obtain ⟨y0, y1, _, _⟩ := lab_cells (keepB P0 hC)
    unfold Facts.one
    go_simp
    first | exact ⟨Grew.refl _, rfl⟩ | rfl | (refine (alive_any W (HE.out W (HG.out.trans hC))).mono ?_; rintro e w' ⟨rfl, hg⟩; exact ⟨_, rfl, hg, rfl⟩)
  simp only [Act.put, List.setIfInBounds_toArray, List.set_cons_zero, List.set_cons_succ, Nat.reduceAdd]
  apply Facts.Lex.exact [] (.bool true) (by kernel_rfl)
  · intro u W hC _
    obtain ⟨x0, x1, _, _⟩ := lab_cells (keepB R0 hC)
    obtain ⟨y0, y1, _, _⟩ := lab_cells (keepB P0 hC)
    unfold Facts.one
    go_simp
    all_goals first | exact ⟨Grew.refl _, rfl⟩ | rfl
  simp only [Act.put, List.setIfInBounds_toArray, List.set_cons_zero, List.set_cons_succ, Nat.reduceAdd]
  apply Facts.Lex.exact [] (.int .i64 0) (by kernel_rfl)
  · intro u W hC _
    obtain ⟨x0, x1, _, _⟩ := lab_cells (keepB R0 hC)
    obtain ⟨y0, y1, _, _⟩ := lab_cells (keepB P0 hC)
    unfold Facts.one
    go_simp
    all_goals first | exact ⟨Grew.refl _, rfl⟩ | rfl
  simp only [Act.put, List.setIfInBounds_toArray, List.set_cons_zero, List.set_cons_succ, Nat.reduceAdd]
  apply Facts.Lex.exact [] (.bool false) (by kernel_rfl)
  · intro u W hC _
    obtain ⟨x0, x1, _, _⟩ := lab_cells (keepB R0 hC)
    obtain ⟨y0, y1, _, _⟩ := lab_cells (keepB P0 hC)
    unfold Facts.one
    go_simp
    all_goals first | exact ⟨Grew.refl _, rfl⟩ | rfl
  simp only [Act.put, List.setIfInBounds_toArray, List.set_cons_zero, List.set_cons_succ, Nat.reduceAdd]
  apply Facts.Lex.exact [] (.bool false) (by kernel_rfl)
  · intro u W hC _
    obtain ⟨x0, x1, _, _⟩ := lab_cells (keepB R0 hC)
    obtain ⟨y0, y1, _, _⟩ := lab_cells (keepB P0 hC)
    unfold Facts.one
    go_simp
    all_goals first | exact ⟨Grew.refl _, rfl⟩ | rfl
  simp only [Act.put, List.setIfInBounds_toArray, List.set_cons_zero, List.set_cons_succ, Nat.reduceAdd]
  apply Facts.Lex.exact [] (.agg #[.int .i64 rv, .int .u64 (rc.toNat : Int)]) (by kernel_rfl)
  · intro u W hC _
    obtain ⟨x0, x1, _, _⟩ := lab_cells (keepB R0 hC)
    obtain ⟨y0, y1, _, _⟩ := lab_cells (keepB P0 hC)
    unfold Facts.one
    go_simp
    all_goals first | exact ⟨Grew.refl _, rfl⟩ | rfl
  simp only [Act.put, List.setIfInBounds_toArray, List.set_cons_zero, List.set_cons_succ, Nat.reduceAdd]
  refine Facts.Lex.know [] (fun x W => Rd (fun _ => True) W x t) (by kernel_rfl) (fun _ _ _ h hg => h.grew hg) ?_ ?_
  · intro u W hC _
    unfold Facts.one
    go_simp
    refine (HF.out W).mono ?_
    rintro e w' ⟨x, rfl, hr, hg⟩
    exact ⟨_, rfl, hg, hr.mono fun _ _ => trivial⟩
  simp only [Act.put, List.setIfInBounds_toArray, List.set_cons_zero, List.set_cons_succ, Nat.reduceAdd]
  apply Facts.Lex.exact [6] (.string ⟨t.toArray⟩) (by kernel_rfl)
  · intro u W hC hK
    have h6 : Rd (fun _ => True) W (u 6) t := hK.1
    have hcv := conv h6
    unfold Facts.one
    go_simp
    all_goals first | exact ⟨Grew.refl _, rfl⟩ | rfl
  simp only [Act.put, List.setIfInBounds_toArray, List.set_cons_zero, List.set_cons_succ, Nat.reduceAdd]
  apply Facts.Lex.exact [] _ (by kernel_rfl)
  · intro u W hC _
    obtain ⟨x0, x1, _, _⟩ := lab_cells (keepB R0 hC)
    obtain ⟨y0, y1, _, _⟩ := lab_cells (keepB P0 hC)
    unfold Facts.one
    go_simp
    all_goals first | exact ⟨Grew.refl _, rfl⟩ | rfl
  simp only [Act.put, List.setIfInBounds_toArray, List.set_cons_zero, List.set_cons_succ, Nat.reduceAdd]
  apply Facts.Lex.exact [] (.string ⟨t.toArray⟩) (by kernel_rfl)
  · intro u W hC _
    have hcv := conv (HT.out.grew (HG.out.trans hC))
    unfold Facts.one
    go_simp
    all_goals first | exact ⟨Grew.refl _, rfl⟩ | rfl
  simp only [Act.put, List.setIfInBounds_toArray, List.set_cons_zero, List.set_cons_succ, Nat.reduceAdd]
  apply Facts.Lex.exact [] (.bool true) (by kernel_rfl)
  · intro u W hC _
    obtain ⟨x0, x1, _, _⟩ := lab_cells (keepB R0 hC)
    obtain ⟨y0, y1, _, _⟩ := lab_cells (keepB P0 hC)
    unfold Facts.one
    go_simp
    all_goals first | exact ⟨Grew.refl _, rfl⟩ | rfl
  simp only [Act.put, List.setIfInBounds_toArray, List.set_cons_zero, List.set_cons_succ, Nat.reduceAdd]
  apply Facts.Lex.exact [] (.bool true) (by kernel_rfl)
  · intro u W hC _
    obtain ⟨x0, x1, _, _⟩ := lab_cells (keepB R0 hC)
    obtain ⟨y0, y1, _, _⟩ := lab_cells (keepB P0 hC)
    unfold Facts.one
    go_simp
    all_goals first | exact ⟨Grew.refl _, rfl⟩ | rfl
  simp only [Act.put, List.setIfInBounds_toArray, List.set_cons_zero, List.set_cons_succ, Nat.reduceAdd]
  apply Facts.Lex.exact [] (.bool true) (by kernel_rfl)
  · intro u W hC _
    obtain ⟨x0, x1, _, _⟩ := lab_cells (keepB R0 hC)
    obtain ⟨y0, y1, _, _⟩ := lab_cells (keepB P0 hC)
    unfold Facts.one
    go_simp
    all_goals first | exact ⟨Grew.refl _, rfl⟩ | rfl
  simp only [Act.put, List.setIfInBounds_toArray, List.set_cons_zero, List.set_cons_succ, Nat.reduceAdd]
  apply Facts.Lex.exact [] (.bool true) (by kernel_rfl)
  · intro u W hC _
    obtain ⟨x0, x1, _, _⟩ := lab_cells (keepB R0 hC)
    obtain ⟨y0, y1, _, _⟩ := lab_cells (keepB P0 hC)
    unfold Facts.one
    go_simp
    all_goals first | exact ⟨Grew.refl _, rfl⟩ | rfl
  simp only [Act.put, List.setIfInBounds_toArray, List.set_cons_zero, List.set_cons_succ, Nat.reduceAdd]
  apply Facts.Lex.exact [] (.int .i64 0) (by kernel_rfl)
  · intro u W hC _
    obtain ⟨x0, x1, _, _⟩ := lab_cells (keepB R0 hC)
    obtain ⟨y0, y1, _, _⟩ := lab_cells (keepB P0 hC)
    unfold Facts.one
    go_simp
    all_goals first | exact ⟨Grew.refl _, rfl⟩ | rfl
  simp only [Act.put, List.setIfInBounds_toArray, List.set_cons_zero, List.set_cons_succ, Nat.reduceAdd]
  apply Facts.Lex.exact [] (.bool false) (by kernel_rfl)
  · intro u W hC _
    obtain ⟨x0, x1, _, _⟩ := lab_cells (keepB R0 hC)
    obtain ⟨y0, y1, _, _⟩ := lab_cells (keepB P0 hC)
    unfold Facts.one
    go_simp
    all_goals first | exact ⟨Grew.refl _, rfl⟩ | rfl
  simp only [Act.put, List.setIfInBounds_toArray, List.set_cons_zero, List.set_cons_succ, Nat.reduceAdd]
  apply Facts.Lex.exact [] (.bool false) (by kernel_rfl)
  · intro u W hC _
    obtain ⟨x0, x1, _, _⟩ := lab_cells (keepB R0 hC)
    obtain ⟨y0, y1, _, _⟩ := lab_cells (keepB P0 hC)
    unfold Facts.one
    go_simp
    all_goals first | exact ⟨Grew.refl _, rfl⟩ | rfl
  simp only [Act.put, List.setIfInBounds_toArray, List.set_cons_zero, List.set_cons_succ, Nat.reduceAdd]
  apply Facts.Lex.exact [] (.agg #[.int .i64 pv, .int .u64 (pc.toNat : Int)]) (by kernel_rfl)
  · intro u W hC _
    obtain ⟨x0, x1, _, _⟩ := lab_cells (keepB R0 hC)
    obtain ⟨y0, y1, _, _⟩ := lab_cells (keepB P0 hC)
    unfold Facts.one
    go_simp
    all_goals first | exact ⟨Grew.refl _, rfl⟩ | rfl
  simp only [Act.put, List.setIfInBounds_toArray, List.set_cons_zero, List.set_cons_succ, Nat.reduceAdd]
  apply Facts.Lex.exact [] (.string s) (by kernel_rfl)
  · intro u W hC _
    obtain ⟨x0, x1, _, _⟩ := lab_cells (keepB R0 hC)
    obtain ⟨y0, y1, _, _⟩ := lab_cells (keepB P0 hC)
    unfold Facts.one
    go_simp
    first | exact ⟨Grew.refl _, rfl⟩ | rfl | (refine (HP.out W (HE.out W (HG.out.trans hC)) (by have := hC.size; have := HS.out; omega)).mono ?_; rintro e w' ⟨rfl, hg⟩; exact ⟨_, rfl, hg, rfl⟩)
  simp only [Act.put, List.setIfInBounds_toArray, List.set_cons_zero, List.set_cons_succ, Nat.reduceAdd]
  apply Facts.Lex.exact [] (.string s) (by kernel_rfl)
  · intro u W hC _
    obtain ⟨x0, x1, _, _⟩ := lab_cells (keepB R0 hC)
    obtain ⟨y0, y1, _, _⟩ := lab_cells (keepB P0 hC)
    unfold Facts.one
    go_simp
    all_goals first | exact ⟨Grew.refl _, rfl⟩ | rfl
  simp only [Act.put, List.setIfInBounds_toArray, List.set_cons_zero, List.set_cons_succ, Nat.reduceAdd]
  apply Facts.Lex.exact [] (.bool true) (by kernel_rfl)
  · intro u W hC _
    obtain ⟨x0, x1, _, _⟩ := lab_cells (keepB R0 hC)
    obtain ⟨y0, y1, _, _⟩ := lab_cells (keepB P0 hC)
    unfold Facts.one
    go_simp
    all_goals first | exact ⟨Grew.refl _, rfl⟩ | rfl
  simp only [Act.put, List.setIfInBounds_toArray, List.set_cons_zero, List.set_cons_succ, Nat.reduceAdd]
  apply Facts.Lex.exact [] (.bool true) (by kernel_rfl)
  · intro u W hC _
    obtain ⟨x0, x1, _, _⟩ := lab_cells (keepB R0 hC)
    obtain ⟨y0, y1, _, _⟩ := lab_cells (keepB P0 hC)
    unfold Facts.one
    go_simp
    all_goals first | exact ⟨Grew.refl _, rfl⟩ | rfl
  simp only [Act.put, List.setIfInBounds_toArray, List.set_cons_zero, List.set_cons_succ, Nat.reduceAdd]
  apply Facts.Lex.exact [] (.bool true) (by kernel_rfl)
  · intro u W hC _
    obtain ⟨x0, x1, _, _⟩ := lab_cells (keepB R0 hC)
    obtain ⟨y0, y1, _, _⟩ := lab_cells (keepB P0 hC)
    unfold Facts.one
    go_simp
    all_goals first | exact ⟨Grew.refl _, rfl⟩ | rfl
  simp only [Act.put, List.setIfInBounds_toArray, List.set_cons_zero, List.set_cons_succ, Nat.reduceAdd]
  apply Facts.Lex.exact [] (.bool true) (by kernel_rfl)
  · intro u W hC _
    obtain ⟨x0, x1, _, _⟩ := lab_cells (keepB R0 hC)
    obtain ⟨y0, y1, _, _⟩ := lab_cells (keepB P0 hC)
    unfold Facts.one
    go_simp
    all_goals first | exact ⟨Grew.refl _, rfl⟩ | rfl
  simp only [Act.put, List.setIfInBounds_toArray, List.set_cons_zero, List.set_cons_succ, Nat.reduceAdd]
  refine Facts.Lex.done fun u W2 hC hL => ?_
  have G9 := Lib.hid (HG.out.trans hC)
  clear hC hL R0 P0
  go_wp2
  go_returns
  exact ⟨rfl, G9.out⟩

set_option maxRecDepth 100000 in
set_option maxHeartbeats 4000000 in
theorem law_110 (v : Int) (c : BitVec 64) (vb : Value) (t : List UInt8) (s : ByteArray) {w : World} (hv : may v = true) (hT : Rd (fun _ => True) w vb t) (hs : s.size ≤ 140737488355328) (hE : Env w) (hr0 : rdE t = 0) (hr1 : rdOk t = true) (hp0 : (paE s != 0) = true) : Calls Tryd.prog 7 #[.agg #[.int .i64 v, .int .u64 (c.toNat : Int)], vb, .string s] w fun e W' => e = .returned (.bool true) ∧ Grew w W' := by
  have HE : Hid (∀ W, Grew w W → Env W) := Lib.hid fun W hg => hE.grow hg
  have HT := Lib.hid hT
  have HRI := Lib.hid (fun W => right_any v c W)
  have HRB : Hid (∀ W, Grew w W → Calls Tryd.prog 23 #[vb] W fun e W' => e = .returned (.tuple #[.agg #[.int .i64 (rdV t), .int .u64 ((rdC t).toNat : Int)], .int .i64 (rdE t)]) ∧ Grew W W') := Lib.hid fun W hg => read_any vb t W (hT.grew hg)
  have HPB := Lib.hid (fun W hE => parse2_any s hs W hE)
  have HF : Hid (∀ W, Calls Tryd.prog 27 #[.agg #[.int .i64 (rdV t), .int .u64 ((rdC t).toNat : Int)]] W fun e W' => ∃ v', e = .returned v' ∧ Rd (fun b => W.heap.size ≤ b) W' v' t ∧ Grew W W') := Lib.hid fun W => by
    have := form_any (rdV t) (rdC t) W
    rwa [rd_back t hr1] at this
  rw [hr0] at HRB
  clear hr0 hr1
  have HBY := Lib.hid (fun W => form_any v c W)
  have HRF : Hid (∀ W x, Rd (fun _ => True) W x (form v c) → Calls Tryd.prog 23 #[x] W fun e W' => e = .returned (.tuple #[.agg #[.int .i64 v, .int .u64 (c.toNat : Int)], .int .i64 0]) ∧ Grew W W') := Lib.hid fun W x h => by
    have := read_any x _ W h
    obtain ⟨e1, e2, e3⟩ := rd_form v c hv
    rwa [e1, e2, e3] at this
  have HPR : Hid (∀ W, Env W → 0 < W.heap.size → Calls Tryd.prog 29 #[.agg #[.int .i64 v, .int .u64 (c.toNat : Int)]] W fun e W' => e = .returned (.string (print v c)) ∧ Grew W W') := Lib.hid fun W hE hs => print_any v c W hs hE.tab
  have HPP : Hid (∀ W, Env W → Calls Tryd.prog 25 #[.string (print v c)] W fun e W' => e = .returned (.tuple #[.agg #[.int .i64 v, .int .u64 (c.toNat : Int)], .int .i64 0]) ∧ Grew W W') := Lib.hid fun W hE => by
    have := parse2_any _ (print_size v c) W hE
    obtain ⟨e1, e2, e3⟩ := pa_print v c hv
    rwa [e1, e2, e3] at this
  generalize print v c = pr at *
  rw [hv] at HRI
  have A0 : Hid ((w.alloc (.cells #[.int .i64 v, .int .u64 (c.toNat : Int)] 24)).heap[w.heap.size]? = some (lc v c)) := Lib.hid (heap_alloc_new w _)
  have G0 : Hid (Grew w (w.alloc (.cells #[.int .i64 v, .int .u64 (c.toNat : Int)] 24))) := Lib.hid (by unfold Grew; go_grown)
  generalize rdV t = rv at *
  generalize rdC t = rc at *
  generalize paV s = pv at *
  generalize paC s = pc at *
  generalize paE s = pe at *
  clear hT hE hs hv
  obtain ⟨VA, VC, rfl, _⟩ := id HT.out
  go_enter Tryd.func7, Tryd.ntmps7
  go_wp2_with fail
  refine (HRI.out _).mono ?_
  rintro e w1 ⟨rfl, hg⟩
  have A1 := Lib.hid (keepB A0.out hg)
  have G1 := Lib.hid (G0.out.trans hg)
  clear hg
  obtain ⟨a0, a1, _, _⟩ := lab_cells A1.out
  go_wp2_with fail
  refine (HBY.out _).mono ?_
  rintro e w2 ⟨x, rfl, hr, hg⟩
  have I2 := Lib.hid (hr.mono fun _ _ => trivial)
  have A2 := Lib.hid (keepB A1.out hg)
  have G2 := Lib.hid (G1.out.trans hg)
  clear hr hg a0 a1
  go_wp2_with fail
  refine (HRF.out _ _ I2.out).mono ?_
  rintro e w3 ⟨rfl, hg⟩
  have g3 : Grew w3 (w3.alloc (.cells #[.int .i64 v, .int .u64 (c.toNat : Int)] 24)) := by unfold Grew; go_grown
  have A3 := Lib.hid (keepB (keepB A2.out hg) g3)
  have G3 := Lib.hid ((G2.out.trans hg).trans g3)
  have B3 : Hid ((w3.alloc (.cells #[.int .i64 v, .int .u64 (c.toNat : Int)] 24)).heap[w3.heap.size]? = some (lc v c)) := Lib.hid (heap_alloc_new w3 _)
  have S3 : Hid (0 < (w3.alloc (.cells #[.int .i64 v, .int .u64 (c.toNat : Int)] 24)).heap.size) := Lib.hid (by simp)
  clear hg g3
  obtain ⟨a0, a1, _, _⟩ := lab_cells A3.out
  go_wp2_with fail
  refine (HPR.out _ (HE.out _ G3.out) S3.out).mono ?_
  rintro e w4 ⟨rfl, hg⟩
  have A4 := Lib.hid (keepB A3.out hg)
  have B4 := Lib.hid (keepB B3.out hg)
  have G4 := Lib.hid (G3.out.trans hg)
  clear hg a0 a1
  go_wp2_with fail
  refine (HPP.out _ (HE.out _ G4.out)).mono ?_
  rintro e w5 ⟨rfl, hg⟩
  have g5 : Grew w5 (w5.alloc (.cells #[.int .i64 v, .int .u64 (c.toNat : Int)] 24)) := by unfold Grew; go_grown
  have A5 := Lib.hid (keepB (keepB A4.out hg) g5)
  have B5 := Lib.hid (keepB (keepB B4.out hg) g5)
  have G5 := Lib.hid ((G4.out.trans hg).trans g5)
  clear hg g5
  obtain ⟨a0, a1, _, _⟩ := lab_cells A5.out
  obtain ⟨b0, b1, _, _⟩ := lab_cells B5.out
  go_wp2_with fail
  refine (HRB.out _ G5.out).mono ?_
  rintro e w6 ⟨rfl, hg⟩
  have g6 : Grew w6 (w6.alloc (.cells #[.int .i64 rv, .int .u64 (rc.toNat : Int)] 24)) := by unfold Grew; go_grown
  have G6 := Lib.hid ((G5.out.trans hg).trans g6)
  have R6 : Hid ((w6.alloc (.cells #[.int .i64 rv, .int .u64 (rc.toNat : Int)] 24)).heap[w6.heap.size]? = some (lc rv rc)) := Lib.hid (heap_alloc_new w6 _)
  clear hg g6 a0 a1 b0 b1
  go_wp2_with fail
  refine (HPB.out _ (HE.out _ G6.out)).mono ?_
  rintro e w7 ⟨rfl, hg⟩
  have g7 : Grew w7 (w7.alloc (.cells #[.int .i64 pv, .int .u64 (pc.toNat : Int)] 24)) := by unfold Grew; go_grown
  have HG := Lib.hid ((G6.out.trans hg).trans g7)
  have R0 := keepB (keepB R6.out hg) g7
  have P0 : (w7.alloc (.cells #[.int .i64 pv, .int .u64 (pc.toNat : Int)] 24)).heap[w7.heap.size]? = some (lc pv pc) := heap_alloc_new w7 _
  have HS : Hid (0 < (w7.alloc (.cells #[.int .i64 pv, .int .u64 (pc.toNat : Int)] 24)).heap.size) := Lib.hid (by simp)
  clear hg g7
  go_wp2
  refine Facts.wp_region_text (by kernel_rfl) (by kernel_rfl) ?_
  apply Facts.Lex.exact [] (.bool true) (by kernel_rfl)
  · intro u W hC _
    obtain ⟨x0, x1, _, _⟩ := lab_cells (keepB R0 hC)
    obtain ⟨y0, y1, _, _⟩ := lab_cells (keepB P0 hC)
    unfold Facts.one
    go_simp
    first | exact ⟨Grew.refl _, rfl⟩ | rfl | (refine (alive_any W (HE.out W (HG.out.trans hC))).mono ?_; rintro e w' ⟨rfl, hg⟩; exact ⟨_, rfl, hg, rfl⟩)
  simp only [Act.put, List.setIfInBounds_toArray, List.set_cons_zero, List.set_cons_succ, Nat.reduceAdd]
  apply Facts.Lex.exact [] (.bool true) (by kernel_rfl)
  · intro u W hC _
    obtain ⟨x0, x1, _, _⟩ := lab_cells (keepB R0 hC)
    obtain ⟨y0, y1, _, _⟩ := lab_cells (keepB P0 hC)
    unfold Facts.one
    go_simp
    all_goals first | exact ⟨Grew.refl _, rfl⟩ | rfl
  simp only [Act.put, List.setIfInBounds_toArray, List.set_cons_zero, List.set_cons_succ, Nat.reduceAdd]
  apply Facts.Lex.exact [] (.int .i64 0) (by kernel_rfl)
  · intro u W hC _
    obtain ⟨x0, x1, _, _⟩ := lab_cells (keepB R0 hC)
    obtain ⟨y0, y1, _, _⟩ := lab_cells (keepB P0 hC)
    unfold Facts.one
    go_simp
    all_goals first | exact ⟨Grew.refl _, rfl⟩ | rfl
  simp only [Act.put, List.setIfInBounds_toArray, List.set_cons_zero, List.set_cons_succ, Nat.reduceAdd]
  apply Facts.Lex.exact [] (.bool false) (by kernel_rfl)
  · intro u W hC _
    obtain ⟨x0, x1, _, _⟩ := lab_cells (keepB R0 hC)
    obtain ⟨y0, y1, _, _⟩ := lab_cells (keepB P0 hC)
    unfold Facts.one
    go_simp
    all_goals first | exact ⟨Grew.refl _, rfl⟩ | rfl
  simp only [Act.put, List.setIfInBounds_toArray, List.set_cons_zero, List.set_cons_succ, Nat.reduceAdd]
  apply Facts.Lex.exact [] (.bool false) (by kernel_rfl)
  · intro u W hC _
    obtain ⟨x0, x1, _, _⟩ := lab_cells (keepB R0 hC)
    obtain ⟨y0, y1, _, _⟩ := lab_cells (keepB P0 hC)
    unfold Facts.one
    go_simp
    all_goals first | exact ⟨Grew.refl _, rfl⟩ | rfl
  simp only [Act.put, List.setIfInBounds_toArray, List.set_cons_zero, List.set_cons_succ, Nat.reduceAdd]
  apply Facts.Lex.exact [] (.agg #[.int .i64 rv, .int .u64 (rc.toNat : Int)]) (by kernel_rfl)
  · intro u W hC _
    obtain ⟨x0, x1, _, _⟩ := lab_cells (keepB R0 hC)
    obtain ⟨y0, y1, _, _⟩ := lab_cells (keepB P0 hC)
    unfold Facts.one
    go_simp
    all_goals first | exact ⟨Grew.refl _, rfl⟩ | rfl
  simp only [Act.put, List.setIfInBounds_toArray, List.set_cons_zero, List.set_cons_succ, Nat.reduceAdd]
  refine Facts.Lex.know [] (fun x W => Rd (fun _ => True) W x t) (by kernel_rfl) (fun _ _ _ h hg => h.grew hg) ?_ ?_
  · intro u W hC _
    unfold Facts.one
    go_simp
    refine (HF.out W).mono ?_
    rintro e w' ⟨x, rfl, hr, hg⟩
    exact ⟨_, rfl, hg, hr.mono fun _ _ => trivial⟩
  simp only [Act.put, List.setIfInBounds_toArray, List.set_cons_zero, List.set_cons_succ, Nat.reduceAdd]
  apply Facts.Lex.exact [6] (.string ⟨t.toArray⟩) (by kernel_rfl)
  · intro u W hC hK
    have h6 : Rd (fun _ => True) W (u 6) t := hK.1
    have hcv := conv h6
    unfold Facts.one
    go_simp
    all_goals first | exact ⟨Grew.refl _, rfl⟩ | rfl
  simp only [Act.put, List.setIfInBounds_toArray, List.set_cons_zero, List.set_cons_succ, Nat.reduceAdd]
  apply Facts.Lex.exact [] _ (by kernel_rfl)
  · intro u W hC _
    obtain ⟨x0, x1, _, _⟩ := lab_cells (keepB R0 hC)
    obtain ⟨y0, y1, _, _⟩ := lab_cells (keepB P0 hC)
    unfold Facts.one
    go_simp
    all_goals first | exact ⟨Grew.refl _, rfl⟩ | rfl
  simp only [Act.put, List.setIfInBounds_toArray, List.set_cons_zero, List.set_cons_succ, Nat.reduceAdd]
  apply Facts.Lex.exact [] (.string ⟨t.toArray⟩) (by kernel_rfl)
  · intro u W hC _
    have hcv := conv (HT.out.grew (HG.out.trans hC))
    unfold Facts.one
    go_simp
    all_goals first | exact ⟨Grew.refl _, rfl⟩ | rfl
  simp only [Act.put, List.setIfInBounds_toArray, List.set_cons_zero, List.set_cons_succ, Nat.reduceAdd]
  apply Facts.Lex.exact [] (.bool true) (by kernel_rfl)
  · intro u W hC _
    obtain ⟨x0, x1, _, _⟩ := lab_cells (keepB R0 hC)
    obtain ⟨y0, y1, _, _⟩ := lab_cells (keepB P0 hC)
    unfold Facts.one
    go_simp
    all_goals first | exact ⟨Grew.refl _, rfl⟩ | rfl
  simp only [Act.put, List.setIfInBounds_toArray, List.set_cons_zero, List.set_cons_succ, Nat.reduceAdd]
  apply Facts.Lex.exact [] (.bool true) (by kernel_rfl)
  · intro u W hC _
    obtain ⟨x0, x1, _, _⟩ := lab_cells (keepB R0 hC)
    obtain ⟨y0, y1, _, _⟩ := lab_cells (keepB P0 hC)
    unfold Facts.one
    go_simp
    all_goals first | exact ⟨Grew.refl _, rfl⟩ | rfl
  simp only [Act.put, List.setIfInBounds_toArray, List.set_cons_zero, List.set_cons_succ, Nat.reduceAdd]
  apply Facts.Lex.exact [] (.bool true) (by kernel_rfl)
  · intro u W hC _
    obtain ⟨x0, x1, _, _⟩ := lab_cells (keepB R0 hC)
    obtain ⟨y0, y1, _, _⟩ := lab_cells (keepB P0 hC)
    unfold Facts.one
    go_simp
    all_goals first | exact ⟨Grew.refl _, rfl⟩ | rfl
  simp only [Act.put, List.setIfInBounds_toArray, List.set_cons_zero, List.set_cons_succ, Nat.reduceAdd]
  apply Facts.Lex.exact [] (.bool true) (by kernel_rfl)
  · intro u W hC _
    obtain ⟨x0, x1, _, _⟩ := lab_cells (keepB R0 hC)
    obtain ⟨y0, y1, _, _⟩ := lab_cells (keepB P0 hC)
    unfold Facts.one
    go_simp
    all_goals first | exact ⟨Grew.refl _, rfl⟩ | rfl
  simp only [Act.put, List.setIfInBounds_toArray, List.set_cons_zero, List.set_cons_succ, Nat.reduceAdd]
  apply Facts.Lex.exact [] (.int .i64 pe) (by kernel_rfl)
  · intro u W hC _
    obtain ⟨x0, x1, _, _⟩ := lab_cells (keepB R0 hC)
    obtain ⟨y0, y1, _, _⟩ := lab_cells (keepB P0 hC)
    unfold Facts.one
    go_simp
    all_goals first | exact ⟨Grew.refl _, rfl⟩ | rfl
  simp only [Act.put, List.setIfInBounds_toArray, List.set_cons_zero, List.set_cons_succ, Nat.reduceAdd]
  apply Facts.Lex.exact [] (.bool true) (by kernel_rfl)
  · intro u W hC _
    obtain ⟨x0, x1, _, _⟩ := lab_cells (keepB R0 hC)
    obtain ⟨y0, y1, _, _⟩ := lab_cells (keepB P0 hC)
    unfold Facts.one
    go_simp
    all_goals first | exact ⟨Grew.refl _, rfl⟩ | rfl
  simp only [Act.put, List.setIfInBounds_toArray, List.set_cons_zero, List.set_cons_succ, Nat.reduceAdd]
  apply Facts.Lex.exact [] (.bool true) (by kernel_rfl)
  · intro u W hC _
    obtain ⟨x0, x1, _, _⟩ := lab_cells (keepB R0 hC)
    obtain ⟨y0, y1, _, _⟩ := lab_cells (keepB P0 hC)
    unfold Facts.one
    go_simp
    all_goals first | exact ⟨Grew.refl _, rfl⟩ | rfl
  simp only [Act.put, List.setIfInBounds_toArray, List.set_cons_zero, List.set_cons_succ, Nat.reduceAdd]
  apply Facts.Lex.exact [] (undef) (by kernel_rfl)
  · intro u W hC _
    obtain ⟨x0, x1, _, _⟩ := lab_cells (keepB R0 hC)
    obtain ⟨y0, y1, _, _⟩ := lab_cells (keepB P0 hC)
    unfold Facts.one
    go_simp
    all_goals first | exact ⟨Grew.refl _, rfl⟩ | rfl
  simp only [Act.put, List.setIfInBounds_toArray, List.set_cons_zero, List.set_cons_succ, Nat.reduceAdd]
  apply Facts.Lex.exact [] (undef) (by kernel_rfl)
  · intro u W hC _
    obtain ⟨x0, x1, _, _⟩ := lab_cells (keepB R0 hC)
    obtain ⟨y0, y1, _, _⟩ := lab_cells (keepB P0 hC)
    unfold Facts.one
    go_simp
    all_goals first | exact ⟨Grew.refl _, rfl⟩ | rfl
  simp only [Act.put, List.setIfInBounds_toArray, List.set_cons_zero, List.set_cons_succ, Nat.reduceAdd]
  apply Facts.Lex.exact [] (undef) (by kernel_rfl)
  · intro u W hC _
    obtain ⟨x0, x1, _, _⟩ := lab_cells (keepB R0 hC)
    obtain ⟨y0, y1, _, _⟩ := lab_cells (keepB P0 hC)
    unfold Facts.one
    go_simp
    all_goals first | exact ⟨Grew.refl _, rfl⟩ | rfl
  simp only [Act.put, List.setIfInBounds_toArray, List.set_cons_zero, List.set_cons_succ, Nat.reduceAdd]
  apply Facts.Lex.exact [] (undef) (by kernel_rfl)
  · intro u W hC _
    obtain ⟨x0, x1, _, _⟩ := lab_cells (keepB R0 hC)
    obtain ⟨y0, y1, _, _⟩ := lab_cells (keepB P0 hC)
    unfold Facts.one
    go_simp
    all_goals first | exact ⟨Grew.refl _, rfl⟩ | rfl
  simp only [Act.put, List.setIfInBounds_toArray, List.set_cons_zero, List.set_cons_succ, Nat.reduceAdd]
  apply Facts.Lex.exact [] (.bool true) (by kernel_rfl)
  · intro u W hC _
    obtain ⟨x0, x1, _, _⟩ := lab_cells (keepB R0 hC)
    obtain ⟨y0, y1, _, _⟩ := lab_cells (keepB P0 hC)
    unfold Facts.one
    go_simp
    all_goals first | exact ⟨Grew.refl _, rfl⟩ | rfl
  simp only [Act.put, List.setIfInBounds_toArray, List.set_cons_zero, List.set_cons_succ, Nat.reduceAdd]
  apply Facts.Lex.exact [] (.bool true) (by kernel_rfl)
  · intro u W hC _
    obtain ⟨x0, x1, _, _⟩ := lab_cells (keepB R0 hC)
    obtain ⟨y0, y1, _, _⟩ := lab_cells (keepB P0 hC)
    unfold Facts.one
    go_simp
    all_goals first | exact ⟨Grew.refl _, rfl⟩ | rfl
  simp only [Act.put, List.setIfInBounds_toArray, List.set_cons_zero, List.set_cons_succ, Nat.reduceAdd]
  apply Facts.Lex.exact [] (.bool true) (by kernel_rfl)
  · intro u W hC _
    obtain ⟨x0, x1, _, _⟩ := lab_cells (keepB R0 hC)
    obtain ⟨y0, y1, _, _⟩ := lab_cells (keepB P0 hC)
    unfold Facts.one
    go_simp
    all_goals first | exact ⟨Grew.refl _, rfl⟩ | rfl
  simp only [Act.put, List.setIfInBounds_toArray, List.set_cons_zero, List.set_cons_succ, Nat.reduceAdd]
  refine Facts.Lex.done fun u W2 hC hL => ?_
  have G9 := Lib.hid (HG.out.trans hC)
  clear hC hL R0 P0
  go_wp2
  go_returns
  exact ⟨rfl, G9.out⟩

set_option maxRecDepth 100000 in
set_option maxHeartbeats 4000000 in
theorem law_101 (v : Int) (c : BitVec 64) (vb : Value) (t : List UInt8) (s : ByteArray) {w : World} (hv : may v = true) (hT : Rd (fun _ => True) w vb t) (hs : s.size ≤ 140737488355328) (hE : Env w) (hr0 : (rdE t != 0) = true) (hp0 : paE s = 0) (hp1 : print (paV s) (paC s) = s) : Calls Tryd.prog 7 #[.agg #[.int .i64 v, .int .u64 (c.toNat : Int)], vb, .string s] w fun e W' => e = .returned (.bool true) ∧ Grew w W' := by
  have HE : Hid (∀ W, Grew w W → Env W) := Lib.hid fun W hg => hE.grow hg
  have HT := Lib.hid hT
  have HRI := Lib.hid (fun W => right_any v c W)
  have HRB : Hid (∀ W, Grew w W → Calls Tryd.prog 23 #[vb] W fun e W' => e = .returned (.tuple #[.agg #[.int .i64 (rdV t), .int .u64 ((rdC t).toNat : Int)], .int .i64 (rdE t)]) ∧ Grew W W') := Lib.hid fun W hg => read_any vb t W (hT.grew hg)
  have HPB := Lib.hid (fun W hE => parse2_any s hs W hE)
  have HP : Hid (∀ W, Env W → 0 < W.heap.size → Calls Tryd.prog 29 #[.agg #[.int .i64 (paV s), .int .u64 ((paC s).toNat : Int)]] W fun e W' => e = .returned (.string s) ∧ Grew W W') := Lib.hid fun W hE hs => by
    have := print_any (paV s) (paC s) W hs hE.tab
    rwa [hp1] at this
  rw [hp0] at HPB
  clear hp0 hp1
  have HBY := Lib.hid (fun W => form_any v c W)
  have HRF : Hid (∀ W x, Rd (fun _ => True) W x (form v c) → Calls Tryd.prog 23 #[x] W fun e W' => e = .returned (.tuple #[.agg #[.int .i64 v, .int .u64 (c.toNat : Int)], .int .i64 0]) ∧ Grew W W') := Lib.hid fun W x h => by
    have := read_any x _ W h
    obtain ⟨e1, e2, e3⟩ := rd_form v c hv
    rwa [e1, e2, e3] at this
  have HPR : Hid (∀ W, Env W → 0 < W.heap.size → Calls Tryd.prog 29 #[.agg #[.int .i64 v, .int .u64 (c.toNat : Int)]] W fun e W' => e = .returned (.string (print v c)) ∧ Grew W W') := Lib.hid fun W hE hs => print_any v c W hs hE.tab
  have HPP : Hid (∀ W, Env W → Calls Tryd.prog 25 #[.string (print v c)] W fun e W' => e = .returned (.tuple #[.agg #[.int .i64 v, .int .u64 (c.toNat : Int)], .int .i64 0]) ∧ Grew W W') := Lib.hid fun W hE => by
    have := parse2_any _ (print_size v c) W hE
    obtain ⟨e1, e2, e3⟩ := pa_print v c hv
    rwa [e1, e2, e3] at this
  generalize print v c = pr at *
  rw [hv] at HRI
  have A0 : Hid ((w.alloc (.cells #[.int .i64 v, .int .u64 (c.toNat : Int)] 24)).heap[w.heap.size]? = some (lc v c)) := Lib.hid (heap_alloc_new w _)
  have G0 : Hid (Grew w (w.alloc (.cells #[.int .i64 v, .int .u64 (c.toNat : Int)] 24))) := Lib.hid (by unfold Grew; go_grown)
  generalize rdV t = rv at *
  generalize rdC t = rc at *
  generalize paV s = pv at *
  generalize paC s = pc at *
  generalize rdE t = re at *
  clear hT hE hs hv
  obtain ⟨VA, VC, rfl, _⟩ := id HT.out
  go_enter Tryd.func7, Tryd.ntmps7
  go_wp2_with fail
  refine (HRI.out _).mono ?_
  rintro e w1 ⟨rfl, hg⟩
  have A1 := Lib.hid (keepB A0.out hg)
  have G1 := Lib.hid (G0.out.trans hg)
  clear hg
  obtain ⟨a0, a1, _, _⟩ := lab_cells A1.out
  go_wp2_with fail
  refine (HBY.out _).mono ?_
  rintro e w2 ⟨x, rfl, hr, hg⟩
  have I2 := Lib.hid (hr.mono fun _ _ => trivial)
  have A2 := Lib.hid (keepB A1.out hg)
  have G2 := Lib.hid (G1.out.trans hg)
  clear hr hg a0 a1
  go_wp2_with fail
  refine (HRF.out _ _ I2.out).mono ?_
  rintro e w3 ⟨rfl, hg⟩
  have g3 : Grew w3 (w3.alloc (.cells #[.int .i64 v, .int .u64 (c.toNat : Int)] 24)) := by unfold Grew; go_grown
  have A3 := Lib.hid (keepB (keepB A2.out hg) g3)
  have G3 := Lib.hid ((G2.out.trans hg).trans g3)
  have B3 : Hid ((w3.alloc (.cells #[.int .i64 v, .int .u64 (c.toNat : Int)] 24)).heap[w3.heap.size]? = some (lc v c)) := Lib.hid (heap_alloc_new w3 _)
  have S3 : Hid (0 < (w3.alloc (.cells #[.int .i64 v, .int .u64 (c.toNat : Int)] 24)).heap.size) := Lib.hid (by simp)
  clear hg g3
  obtain ⟨a0, a1, _, _⟩ := lab_cells A3.out
  go_wp2_with fail
  refine (HPR.out _ (HE.out _ G3.out) S3.out).mono ?_
  rintro e w4 ⟨rfl, hg⟩
  have A4 := Lib.hid (keepB A3.out hg)
  have B4 := Lib.hid (keepB B3.out hg)
  have G4 := Lib.hid (G3.out.trans hg)
  clear hg a0 a1
  go_wp2_with fail
  refine (HPP.out _ (HE.out _ G4.out)).mono ?_
  rintro e w5 ⟨rfl, hg⟩
  have g5 : Grew w5 (w5.alloc (.cells #[.int .i64 v, .int .u64 (c.toNat : Int)] 24)) := by unfold Grew; go_grown
  have A5 := Lib.hid (keepB (keepB A4.out hg) g5)
  have B5 := Lib.hid (keepB (keepB B4.out hg) g5)
  have G5 := Lib.hid ((G4.out.trans hg).trans g5)
  clear hg g5
  obtain ⟨a0, a1, _, _⟩ := lab_cells A5.out
  obtain ⟨b0, b1, _, _⟩ := lab_cells B5.out
  go_wp2_with fail
  refine (HRB.out _ G5.out).mono ?_
  rintro e w6 ⟨rfl, hg⟩
  have g6 : Grew w6 (w6.alloc (.cells #[.int .i64 rv, .int .u64 (rc.toNat : Int)] 24)) := by unfold Grew; go_grown
  have G6 := Lib.hid ((G5.out.trans hg).trans g6)
  have R6 : Hid ((w6.alloc (.cells #[.int .i64 rv, .int .u64 (rc.toNat : Int)] 24)).heap[w6.heap.size]? = some (lc rv rc)) := Lib.hid (heap_alloc_new w6 _)
  clear hg g6 a0 a1 b0 b1
  go_wp2_with fail
  refine (HPB.out _ (HE.out _ G6.out)).mono ?_
  rintro e w7 ⟨rfl, hg⟩
  have g7 : Grew w7 (w7.alloc (.cells #[.int .i64 pv, .int .u64 (pc.toNat : Int)] 24)) := by unfold Grew; go_grown
  have HG := Lib.hid ((G6.out.trans hg).trans g7)
  have R0 := keepB (keepB R6.out hg) g7
  have P0 : (w7.alloc (.cells #[.int .i64 pv, .int .u64 (pc.toNat : Int)] 24)).heap[w7.heap.size]? = some (lc pv pc) := heap_alloc_new w7 _
  have HS : Hid (0 < (w7.alloc (.cells #[.int .i64 pv, .int .u64 (pc.toNat : Int)] 24)).heap.size) := Lib.hid (by simp)
  clear hg g7
  go_wp2
  refine Facts.wp_region_text (by kernel_rfl) (by kernel_rfl) ?_
  apply Facts.Lex.exact [] (.bool true) (by kernel_rfl)
  · intro u W hC _
    obtain ⟨x0, x1, _, _⟩ := lab_cells (keepB R0 hC)
    obtain ⟨y0, y1, _, _⟩ := lab_cells (keepB P0 hC)
    unfold Facts.one
    go_simp
    first | exact ⟨Grew.refl _, rfl⟩ | rfl | (refine (alive_any W (HE.out W (HG.out.trans hC))).mono ?_; rintro e w' ⟨rfl, hg⟩; exact ⟨_, rfl, hg, rfl⟩)
  simp only [Act.put, List.setIfInBounds_toArray, List.set_cons_zero, List.set_cons_succ, Nat.reduceAdd]
  apply Facts.Lex.exact [] (.bool true) (by kernel_rfl)
  · intro u W hC _
    obtain ⟨x0, x1, _, _⟩ := lab_cells (keepB R0 hC)
    obtain ⟨y0, y1, _, _⟩ := lab_cells (keepB P0 hC)
    unfold Facts.one
    go_simp
    all_goals first | exact ⟨Grew.refl _, rfl⟩ | rfl
  simp only [Act.put, List.setIfInBounds_toArray, List.set_cons_zero, List.set_cons_succ, Nat.reduceAdd]
  apply Facts.Lex.exact [] (.int .i64 re) (by kernel_rfl)
  · intro u W hC _
    obtain ⟨x0, x1, _, _⟩ := lab_cells (keepB R0 hC)
    obtain ⟨y0, y1, _, _⟩ := lab_cells (keepB P0 hC)
    unfold Facts.one
    go_simp
    all_goals first | exact ⟨Grew.refl _, rfl⟩ | rfl
  simp only [Act.put, List.setIfInBounds_toArray, List.set_cons_zero, List.set_cons_succ, Nat.reduceAdd]
  apply Facts.Lex.exact [] (.bool true) (by kernel_rfl)
  · intro u W hC _
    obtain ⟨x0, x1, _, _⟩ := lab_cells (keepB R0 hC)
    obtain ⟨y0, y1, _, _⟩ := lab_cells (keepB P0 hC)
    unfold Facts.one
    go_simp
    all_goals first | exact ⟨Grew.refl _, rfl⟩ | rfl
  simp only [Act.put, List.setIfInBounds_toArray, List.set_cons_zero, List.set_cons_succ, Nat.reduceAdd]
  apply Facts.Lex.exact [] (.bool true) (by kernel_rfl)
  · intro u W hC _
    obtain ⟨x0, x1, _, _⟩ := lab_cells (keepB R0 hC)
    obtain ⟨y0, y1, _, _⟩ := lab_cells (keepB P0 hC)
    unfold Facts.one
    go_simp
    all_goals first | exact ⟨Grew.refl _, rfl⟩ | rfl
  simp only [Act.put, List.setIfInBounds_toArray, List.set_cons_zero, List.set_cons_succ, Nat.reduceAdd]
  apply Facts.Lex.exact [] (undef) (by kernel_rfl)
  · intro u W hC _
    obtain ⟨x0, x1, _, _⟩ := lab_cells (keepB R0 hC)
    obtain ⟨y0, y1, _, _⟩ := lab_cells (keepB P0 hC)
    unfold Facts.one
    go_simp
    all_goals first | exact ⟨Grew.refl _, rfl⟩ | rfl
  simp only [Act.put, List.setIfInBounds_toArray, List.set_cons_zero, List.set_cons_succ, Nat.reduceAdd]
  apply Facts.Lex.exact [] (undef) (by kernel_rfl)
  · intro u W hC _
    obtain ⟨x0, x1, _, _⟩ := lab_cells (keepB R0 hC)
    obtain ⟨y0, y1, _, _⟩ := lab_cells (keepB P0 hC)
    unfold Facts.one
    go_simp
    all_goals first | exact ⟨Grew.refl _, rfl⟩ | rfl
  simp only [Act.put, List.setIfInBounds_toArray, List.set_cons_zero, List.set_cons_succ, Nat.reduceAdd]
  apply Facts.Lex.exact [] (undef) (by kernel_rfl)
  · intro u W hC _
    obtain ⟨x0, x1, _, _⟩ := lab_cells (keepB R0 hC)
    obtain ⟨y0, y1, _, _⟩ := lab_cells (keepB P0 hC)
    unfold Facts.one
    go_simp
    all_goals first | exact ⟨Grew.refl _, rfl⟩ | rfl
  simp only [Act.put, List.setIfInBounds_toArray, List.set_cons_zero, List.set_cons_succ, Nat.reduceAdd]
  apply Facts.Lex.exact [] (undef) (by kernel_rfl)
  · intro u W hC _
    obtain ⟨x0, x1, _, _⟩ := lab_cells (keepB R0 hC)
    obtain ⟨y0, y1, _, _⟩ := lab_cells (keepB P0 hC)
    unfold Facts.one
    go_simp
    all_goals first | exact ⟨Grew.refl _, rfl⟩ | rfl
  simp only [Act.put, List.setIfInBounds_toArray, List.set_cons_zero, List.set_cons_succ, Nat.reduceAdd]
  apply Facts.Lex.exact [] (undef) (by kernel_rfl)
  · intro u W hC _
    obtain ⟨x0, x1, _, _⟩ := lab_cells (keepB R0 hC)
    obtain ⟨y0, y1, _, _⟩ := lab_cells (keepB P0 hC)
    unfold Facts.one
    go_simp
    all_goals first | exact ⟨Grew.refl _, rfl⟩ | rfl
  simp only [Act.put, List.setIfInBounds_toArray, List.set_cons_zero, List.set_cons_succ, Nat.reduceAdd]
  apply Facts.Lex.exact [] (undef) (by kernel_rfl)
  · intro u W hC _
    obtain ⟨x0, x1, _, _⟩ := lab_cells (keepB R0 hC)
    obtain ⟨y0, y1, _, _⟩ := lab_cells (keepB P0 hC)
    unfold Facts.one
    go_simp
    all_goals first | exact ⟨Grew.refl _, rfl⟩ | rfl
  simp only [Act.put, List.setIfInBounds_toArray, List.set_cons_zero, List.set_cons_succ, Nat.reduceAdd]
  apply Facts.Lex.exact [] (.bool true) (by kernel_rfl)
  · intro u W hC _
    obtain ⟨x0, x1, _, _⟩ := lab_cells (keepB R0 hC)
    obtain ⟨y0, y1, _, _⟩ := lab_cells (keepB P0 hC)
    unfold Facts.one
    go_simp
    all_goals first | exact ⟨Grew.refl _, rfl⟩ | rfl
  simp only [Act.put, List.setIfInBounds_toArray, List.set_cons_zero, List.set_cons_succ, Nat.reduceAdd]
  apply Facts.Lex.exact [] (.bool true) (by kernel_rfl)
  · intro u W hC _
    obtain ⟨x0, x1, _, _⟩ := lab_cells (keepB R0 hC)
    obtain ⟨y0, y1, _, _⟩ := lab_cells (keepB P0 hC)
    unfold Facts.one
    go_simp
    all_goals first | exact ⟨Grew.refl _, rfl⟩ | rfl
  simp only [Act.put, List.setIfInBounds_toArray, List.set_cons_zero, List.set_cons_succ, Nat.reduceAdd]
  apply Facts.Lex.exact [] (.bool true) (by kernel_rfl)
  · intro u W hC _
    obtain ⟨x0, x1, _, _⟩ := lab_cells (keepB R0 hC)
    obtain ⟨y0, y1, _, _⟩ := lab_cells (keepB P0 hC)
    unfold Facts.one
    go_simp
    all_goals first | exact ⟨Grew.refl _, rfl⟩ | rfl
  simp only [Act.put, List.setIfInBounds_toArray, List.set_cons_zero, List.set_cons_succ, Nat.reduceAdd]
  apply Facts.Lex.exact [] (.int .i64 0) (by kernel_rfl)
  · intro u W hC _
    obtain ⟨x0, x1, _, _⟩ := lab_cells (keepB R0 hC)
    obtain ⟨y0, y1, _, _⟩ := lab_cells (keepB P0 hC)
    unfold Facts.one
    go_simp
    all_goals first | exact ⟨Grew.refl _, rfl⟩ | rfl
  simp only [Act.put, List.setIfInBounds_toArray, List.set_cons_zero, List.set_cons_succ, Nat.reduceAdd]
  apply Facts.Lex.exact [] (.bool false) (by kernel_rfl)
  · intro u W hC _
    obtain ⟨x0, x1, _, _⟩ := lab_cells (keepB R0 hC)
    obtain ⟨y0, y1, _, _⟩ := lab_cells (keepB P0 hC)
    unfold Facts.one
    go_simp
    all_goals first | exact ⟨Grew.refl _, rfl⟩ | rfl
  simp only [Act.put, List.setIfInBounds_toArray, List.set_cons_zero, List.set_cons_succ, Nat.reduceAdd]
  apply Facts.Lex.exact [] (.bool false) (by kernel_rfl)
  · intro u W hC _
    obtain ⟨x0, x1, _, _⟩ := lab_cells (keepB R0 hC)
    obtain ⟨y0, y1, _, _⟩ := lab_cells (keepB P0 hC)
    unfold Facts.one
    go_simp
    all_goals first | exact ⟨Grew.refl _, rfl⟩ | rfl
  simp only [Act.put, List.setIfInBounds_toArray, List.set_cons_zero, List.set_cons_succ, Nat.reduceAdd]
  apply Facts.Lex.exact [] (.agg #[.int .i64 pv, .int .u64 (pc.toNat : Int)]) (by kernel_rfl)
  · intro u W hC _
    obtain ⟨x0, x1, _, _⟩ := lab_cells (keepB R0 hC)
    obtain ⟨y0, y1, _, _⟩ := lab_cells (keepB P0 hC)
    unfold Facts.one
    go_simp
    all_goals first | exact ⟨Grew.refl _, rfl⟩ | rfl
  simp only [Act.put, List.setIfInBounds_toArray, List.set_cons_zero, List.set_cons_succ, Nat.reduceAdd]
  apply Facts.Lex.exact [] (.string s) (by kernel_rfl)
  · intro u W hC _
    obtain ⟨x0, x1, _, _⟩ := lab_cells (keepB R0 hC)
    obtain ⟨y0, y1, _, _⟩ := lab_cells (keepB P0 hC)
    unfold Facts.one
    go_simp
    first | exact ⟨Grew.refl _, rfl⟩ | rfl | (refine (HP.out W (HE.out W (HG.out.trans hC)) (by have := hC.size; have := HS.out; omega)).mono ?_; rintro e w' ⟨rfl, hg⟩; exact ⟨_, rfl, hg, rfl⟩)
  simp only [Act.put, List.setIfInBounds_toArray, List.set_cons_zero, List.set_cons_succ, Nat.reduceAdd]
  apply Facts.Lex.exact [] (.string s) (by kernel_rfl)
  · intro u W hC _
    obtain ⟨x0, x1, _, _⟩ := lab_cells (keepB R0 hC)
    obtain ⟨y0, y1, _, _⟩ := lab_cells (keepB P0 hC)
    unfold Facts.one
    go_simp
    all_goals first | exact ⟨Grew.refl _, rfl⟩ | rfl
  simp only [Act.put, List.setIfInBounds_toArray, List.set_cons_zero, List.set_cons_succ, Nat.reduceAdd]
  apply Facts.Lex.exact [] (.bool true) (by kernel_rfl)
  · intro u W hC _
    obtain ⟨x0, x1, _, _⟩ := lab_cells (keepB R0 hC)
    obtain ⟨y0, y1, _, _⟩ := lab_cells (keepB P0 hC)
    unfold Facts.one
    go_simp
    all_goals first | exact ⟨Grew.refl _, rfl⟩ | rfl
  simp only [Act.put, List.setIfInBounds_toArray, List.set_cons_zero, List.set_cons_succ, Nat.reduceAdd]
  apply Facts.Lex.exact [] (.bool true) (by kernel_rfl)
  · intro u W hC _
    obtain ⟨x0, x1, _, _⟩ := lab_cells (keepB R0 hC)
    obtain ⟨y0, y1, _, _⟩ := lab_cells (keepB P0 hC)
    unfold Facts.one
    go_simp
    all_goals first | exact ⟨Grew.refl _, rfl⟩ | rfl
  simp only [Act.put, List.setIfInBounds_toArray, List.set_cons_zero, List.set_cons_succ, Nat.reduceAdd]
  apply Facts.Lex.exact [] (.bool true) (by kernel_rfl)
  · intro u W hC _
    obtain ⟨x0, x1, _, _⟩ := lab_cells (keepB R0 hC)
    obtain ⟨y0, y1, _, _⟩ := lab_cells (keepB P0 hC)
    unfold Facts.one
    go_simp
    all_goals first | exact ⟨Grew.refl _, rfl⟩ | rfl
  simp only [Act.put, List.setIfInBounds_toArray, List.set_cons_zero, List.set_cons_succ, Nat.reduceAdd]
  apply Facts.Lex.exact [] (.bool true) (by kernel_rfl)
  · intro u W hC _
    obtain ⟨x0, x1, _, _⟩ := lab_cells (keepB R0 hC)
    obtain ⟨y0, y1, _, _⟩ := lab_cells (keepB P0 hC)
    unfold Facts.one
    go_simp
    all_goals first | exact ⟨Grew.refl _, rfl⟩ | rfl
  simp only [Act.put, List.setIfInBounds_toArray, List.set_cons_zero, List.set_cons_succ, Nat.reduceAdd]
  refine Facts.Lex.done fun u W2 hC hL => ?_
  have G9 := Lib.hid (HG.out.trans hC)
  clear hC hL R0 P0
  go_wp2
  go_returns
  exact ⟨rfl, G9.out⟩

set_option maxRecDepth 100000 in
set_option maxHeartbeats 4000000 in
theorem law_100 (v : Int) (c : BitVec 64) (vb : Value) (t : List UInt8) (s : ByteArray) {w : World} (hv : may v = true) (hT : Rd (fun _ => True) w vb t) (hs : s.size ≤ 140737488355328) (hE : Env w) (hr0 : (rdE t != 0) = true) (hp0 : (paE s != 0) = true) : Calls Tryd.prog 7 #[.agg #[.int .i64 v, .int .u64 (c.toNat : Int)], vb, .string s] w fun e W' => e = .returned (.bool true) ∧ Grew w W' := by
  have HE : Hid (∀ W, Grew w W → Env W) := Lib.hid fun W hg => hE.grow hg
  have HT := Lib.hid hT
  have HRI := Lib.hid (fun W => right_any v c W)
  have HRB : Hid (∀ W, Grew w W → Calls Tryd.prog 23 #[vb] W fun e W' => e = .returned (.tuple #[.agg #[.int .i64 (rdV t), .int .u64 ((rdC t).toNat : Int)], .int .i64 (rdE t)]) ∧ Grew W W') := Lib.hid fun W hg => read_any vb t W (hT.grew hg)
  have HPB := Lib.hid (fun W hE => parse2_any s hs W hE)
  have HBY := Lib.hid (fun W => form_any v c W)
  have HRF : Hid (∀ W x, Rd (fun _ => True) W x (form v c) → Calls Tryd.prog 23 #[x] W fun e W' => e = .returned (.tuple #[.agg #[.int .i64 v, .int .u64 (c.toNat : Int)], .int .i64 0]) ∧ Grew W W') := Lib.hid fun W x h => by
    have := read_any x _ W h
    obtain ⟨e1, e2, e3⟩ := rd_form v c hv
    rwa [e1, e2, e3] at this
  have HPR : Hid (∀ W, Env W → 0 < W.heap.size → Calls Tryd.prog 29 #[.agg #[.int .i64 v, .int .u64 (c.toNat : Int)]] W fun e W' => e = .returned (.string (print v c)) ∧ Grew W W') := Lib.hid fun W hE hs => print_any v c W hs hE.tab
  have HPP : Hid (∀ W, Env W → Calls Tryd.prog 25 #[.string (print v c)] W fun e W' => e = .returned (.tuple #[.agg #[.int .i64 v, .int .u64 (c.toNat : Int)], .int .i64 0]) ∧ Grew W W') := Lib.hid fun W hE => by
    have := parse2_any _ (print_size v c) W hE
    obtain ⟨e1, e2, e3⟩ := pa_print v c hv
    rwa [e1, e2, e3] at this
  generalize print v c = pr at *
  rw [hv] at HRI
  have A0 : Hid ((w.alloc (.cells #[.int .i64 v, .int .u64 (c.toNat : Int)] 24)).heap[w.heap.size]? = some (lc v c)) := Lib.hid (heap_alloc_new w _)
  have G0 : Hid (Grew w (w.alloc (.cells #[.int .i64 v, .int .u64 (c.toNat : Int)] 24))) := Lib.hid (by unfold Grew; go_grown)
  generalize rdV t = rv at *
  generalize rdC t = rc at *
  generalize paV s = pv at *
  generalize paC s = pc at *
  generalize rdE t = re at *
  generalize paE s = pe at *
  clear hT hE hs hv
  obtain ⟨VA, VC, rfl, _⟩ := id HT.out
  go_enter Tryd.func7, Tryd.ntmps7
  go_wp2_with fail
  refine (HRI.out _).mono ?_
  rintro e w1 ⟨rfl, hg⟩
  have A1 := Lib.hid (keepB A0.out hg)
  have G1 := Lib.hid (G0.out.trans hg)
  clear hg
  obtain ⟨a0, a1, _, _⟩ := lab_cells A1.out
  go_wp2_with fail
  refine (HBY.out _).mono ?_
  rintro e w2 ⟨x, rfl, hr, hg⟩
  have I2 := Lib.hid (hr.mono fun _ _ => trivial)
  have A2 := Lib.hid (keepB A1.out hg)
  have G2 := Lib.hid (G1.out.trans hg)
  clear hr hg a0 a1
  go_wp2_with fail
  refine (HRF.out _ _ I2.out).mono ?_
  rintro e w3 ⟨rfl, hg⟩
  have g3 : Grew w3 (w3.alloc (.cells #[.int .i64 v, .int .u64 (c.toNat : Int)] 24)) := by unfold Grew; go_grown
  have A3 := Lib.hid (keepB (keepB A2.out hg) g3)
  have G3 := Lib.hid ((G2.out.trans hg).trans g3)
  have B3 : Hid ((w3.alloc (.cells #[.int .i64 v, .int .u64 (c.toNat : Int)] 24)).heap[w3.heap.size]? = some (lc v c)) := Lib.hid (heap_alloc_new w3 _)
  have S3 : Hid (0 < (w3.alloc (.cells #[.int .i64 v, .int .u64 (c.toNat : Int)] 24)).heap.size) := Lib.hid (by simp)
  clear hg g3
  obtain ⟨a0, a1, _, _⟩ := lab_cells A3.out
  go_wp2_with fail
  refine (HPR.out _ (HE.out _ G3.out) S3.out).mono ?_
  rintro e w4 ⟨rfl, hg⟩
  have A4 := Lib.hid (keepB A3.out hg)
  have B4 := Lib.hid (keepB B3.out hg)
  have G4 := Lib.hid (G3.out.trans hg)
  clear hg a0 a1
  go_wp2_with fail
  refine (HPP.out _ (HE.out _ G4.out)).mono ?_
  rintro e w5 ⟨rfl, hg⟩
  have g5 : Grew w5 (w5.alloc (.cells #[.int .i64 v, .int .u64 (c.toNat : Int)] 24)) := by unfold Grew; go_grown
  have A5 := Lib.hid (keepB (keepB A4.out hg) g5)
  have B5 := Lib.hid (keepB (keepB B4.out hg) g5)
  have G5 := Lib.hid ((G4.out.trans hg).trans g5)
  clear hg g5
  obtain ⟨a0, a1, _, _⟩ := lab_cells A5.out
  obtain ⟨b0, b1, _, _⟩ := lab_cells B5.out
  go_wp2_with fail
  refine (HRB.out _ G5.out).mono ?_
  rintro e w6 ⟨rfl, hg⟩
  have g6 : Grew w6 (w6.alloc (.cells #[.int .i64 rv, .int .u64 (rc.toNat : Int)] 24)) := by unfold Grew; go_grown
  have G6 := Lib.hid ((G5.out.trans hg).trans g6)
  have R6 : Hid ((w6.alloc (.cells #[.int .i64 rv, .int .u64 (rc.toNat : Int)] 24)).heap[w6.heap.size]? = some (lc rv rc)) := Lib.hid (heap_alloc_new w6 _)
  clear hg g6 a0 a1 b0 b1
  go_wp2_with fail
  refine (HPB.out _ (HE.out _ G6.out)).mono ?_
  rintro e w7 ⟨rfl, hg⟩
  have g7 : Grew w7 (w7.alloc (.cells #[.int .i64 pv, .int .u64 (pc.toNat : Int)] 24)) := by unfold Grew; go_grown
  have HG := Lib.hid ((G6.out.trans hg).trans g7)
  have R0 := keepB (keepB R6.out hg) g7
  have P0 : (w7.alloc (.cells #[.int .i64 pv, .int .u64 (pc.toNat : Int)] 24)).heap[w7.heap.size]? = some (lc pv pc) := heap_alloc_new w7 _
  have HS : Hid (0 < (w7.alloc (.cells #[.int .i64 pv, .int .u64 (pc.toNat : Int)] 24)).heap.size) := Lib.hid (by simp)
  clear hg g7
  go_wp2
  refine Facts.wp_region_text (by kernel_rfl) (by kernel_rfl) ?_
  apply Facts.Lex.exact [] (.bool true) (by kernel_rfl)
  · intro u W hC _
    obtain ⟨x0, x1, _, _⟩ := lab_cells (keepB R0 hC)
    obtain ⟨y0, y1, _, _⟩ := lab_cells (keepB P0 hC)
    unfold Facts.one
    go_simp
    first | exact ⟨Grew.refl _, rfl⟩ | rfl | (refine (alive_any W (HE.out W (HG.out.trans hC))).mono ?_; rintro e w' ⟨rfl, hg⟩; exact ⟨_, rfl, hg, rfl⟩)
  simp only [Act.put, List.setIfInBounds_toArray, List.set_cons_zero, List.set_cons_succ, Nat.reduceAdd]
  apply Facts.Lex.exact [] (.bool true) (by kernel_rfl)
  · intro u W hC _
    obtain ⟨x0, x1, _, _⟩ := lab_cells (keepB R0 hC)
    obtain ⟨y0, y1, _, _⟩ := lab_cells (keepB P0 hC)
    unfold Facts.one
    go_simp
    all_goals first | exact ⟨Grew.refl _, rfl⟩ | rfl
  simp only [Act.put, List.setIfInBounds_toArray, List.set_cons_zero, List.set_cons_succ, Nat.reduceAdd]
  apply Facts.Lex.exact [] (.int .i64 re) (by kernel_rfl)
  · intro u W hC _
    obtain ⟨x0, x1, _, _⟩ := lab_cells (keepB R0 hC)
    obtain ⟨y0, y1, _, _⟩ := lab_cells (keepB P0 hC)
    unfold Facts.one
    go_simp
    all_goals first | exact ⟨Grew.refl _, rfl⟩ | rfl
  simp only [Act.put, List.setIfInBounds_toArray, List.set_cons_zero, List.set_cons_succ, Nat.reduceAdd]
  apply Facts.Lex.exact [] (.bool true) (by kernel_rfl)
  · intro u W hC _
    obtain ⟨x0, x1, _, _⟩ := lab_cells (keepB R0 hC)
    obtain ⟨y0, y1, _, _⟩ := lab_cells (keepB P0 hC)
    unfold Facts.one
    go_simp
    all_goals first | exact ⟨Grew.refl _, rfl⟩ | rfl
  simp only [Act.put, List.setIfInBounds_toArray, List.set_cons_zero, List.set_cons_succ, Nat.reduceAdd]
  apply Facts.Lex.exact [] (.bool true) (by kernel_rfl)
  · intro u W hC _
    obtain ⟨x0, x1, _, _⟩ := lab_cells (keepB R0 hC)
    obtain ⟨y0, y1, _, _⟩ := lab_cells (keepB P0 hC)
    unfold Facts.one
    go_simp
    all_goals first | exact ⟨Grew.refl _, rfl⟩ | rfl
  simp only [Act.put, List.setIfInBounds_toArray, List.set_cons_zero, List.set_cons_succ, Nat.reduceAdd]
  apply Facts.Lex.exact [] (undef) (by kernel_rfl)
  · intro u W hC _
    obtain ⟨x0, x1, _, _⟩ := lab_cells (keepB R0 hC)
    obtain ⟨y0, y1, _, _⟩ := lab_cells (keepB P0 hC)
    unfold Facts.one
    go_simp
    all_goals first | exact ⟨Grew.refl _, rfl⟩ | rfl
  simp only [Act.put, List.setIfInBounds_toArray, List.set_cons_zero, List.set_cons_succ, Nat.reduceAdd]
  apply Facts.Lex.exact [] (undef) (by kernel_rfl)
  · intro u W hC _
    obtain ⟨x0, x1, _, _⟩ := lab_cells (keepB R0 hC)
    obtain ⟨y0, y1, _, _⟩ := lab_cells (keepB P0 hC)
    unfold Facts.one
    go_simp
    all_goals first | exact ⟨Grew.refl _, rfl⟩ | rfl
  simp only [Act.put, List.setIfInBounds_toArray, List.set_cons_zero, List.set_cons_succ, Nat.reduceAdd]
  apply Facts.Lex.exact [] (undef) (by kernel_rfl)
  · intro u W hC _
    obtain ⟨x0, x1, _, _⟩ := lab_cells (keepB R0 hC)
    obtain ⟨y0, y1, _, _⟩ := lab_cells (keepB P0 hC)
    unfold Facts.one
    go_simp
    all_goals first | exact ⟨Grew.refl _, rfl⟩ | rfl
  simp only [Act.put, List.setIfInBounds_toArray, List.set_cons_zero, List.set_cons_succ, Nat.reduceAdd]
  apply Facts.Lex.exact [] (undef) (by kernel_rfl)
  · intro u W hC _
    obtain ⟨x0, x1, _, _⟩ := lab_cells (keepB R0 hC)
    obtain ⟨y0, y1, _, _⟩ := lab_cells (keepB P0 hC)
    unfold Facts.one
    go_simp
    all_goals first | exact ⟨Grew.refl _, rfl⟩ | rfl
  simp only [Act.put, List.setIfInBounds_toArray, List.set_cons_zero, List.set_cons_succ, Nat.reduceAdd]
  apply Facts.Lex.exact [] (undef) (by kernel_rfl)
  · intro u W hC _
    obtain ⟨x0, x1, _, _⟩ := lab_cells (keepB R0 hC)
    obtain ⟨y0, y1, _, _⟩ := lab_cells (keepB P0 hC)
    unfold Facts.one
    go_simp
    all_goals first | exact ⟨Grew.refl _, rfl⟩ | rfl
  simp only [Act.put, List.setIfInBounds_toArray, List.set_cons_zero, List.set_cons_succ, Nat.reduceAdd]
  apply Facts.Lex.exact [] (undef) (by kernel_rfl)
  · intro u W hC _
    obtain ⟨x0, x1, _, _⟩ := lab_cells (keepB R0 hC)
    obtain ⟨y0, y1, _, _⟩ := lab_cells (keepB P0 hC)
    unfold Facts.one
    go_simp
    all_goals first | exact ⟨Grew.refl _, rfl⟩ | rfl
  simp only [Act.put, List.setIfInBounds_toArray, List.set_cons_zero, List.set_cons_succ, Nat.reduceAdd]
  apply Facts.Lex.exact [] (.bool true) (by kernel_rfl)
  · intro u W hC _
    obtain ⟨x0, x1, _, _⟩ := lab_cells (keepB R0 hC)
    obtain ⟨y0, y1, _, _⟩ := lab_cells (keepB P0 hC)
    unfold Facts.one
    go_simp
    all_goals first | exact ⟨Grew.refl _, rfl⟩ | rfl
  simp only [Act.put, List.setIfInBounds_toArray, List.set_cons_zero, List.set_cons_succ, Nat.reduceAdd]
  apply Facts.Lex.exact [] (.bool true) (by kernel_rfl)
  · intro u W hC _
    obtain ⟨x0, x1, _, _⟩ := lab_cells (keepB R0 hC)
    obtain ⟨y0, y1, _, _⟩ := lab_cells (keepB P0 hC)
    unfold Facts.one
    go_simp
    all_goals first | exact ⟨Grew.refl _, rfl⟩ | rfl
  simp only [Act.put, List.setIfInBounds_toArray, List.set_cons_zero, List.set_cons_succ, Nat.reduceAdd]
  apply Facts.Lex.exact [] (.bool true) (by kernel_rfl)
  · intro u W hC _
    obtain ⟨x0, x1, _, _⟩ := lab_cells (keepB R0 hC)
    obtain ⟨y0, y1, _, _⟩ := lab_cells (keepB P0 hC)
    unfold Facts.one
    go_simp
    all_goals first | exact ⟨Grew.refl _, rfl⟩ | rfl
  simp only [Act.put, List.setIfInBounds_toArray, List.set_cons_zero, List.set_cons_succ, Nat.reduceAdd]
  apply Facts.Lex.exact [] (.int .i64 pe) (by kernel_rfl)
  · intro u W hC _
    obtain ⟨x0, x1, _, _⟩ := lab_cells (keepB R0 hC)
    obtain ⟨y0, y1, _, _⟩ := lab_cells (keepB P0 hC)
    unfold Facts.one
    go_simp
    all_goals first | exact ⟨Grew.refl _, rfl⟩ | rfl
  simp only [Act.put, List.setIfInBounds_toArray, List.set_cons_zero, List.set_cons_succ, Nat.reduceAdd]
  apply Facts.Lex.exact [] (.bool true) (by kernel_rfl)
  · intro u W hC _
    obtain ⟨x0, x1, _, _⟩ := lab_cells (keepB R0 hC)
    obtain ⟨y0, y1, _, _⟩ := lab_cells (keepB P0 hC)
    unfold Facts.one
    go_simp
    all_goals first | exact ⟨Grew.refl _, rfl⟩ | rfl
  simp only [Act.put, List.setIfInBounds_toArray, List.set_cons_zero, List.set_cons_succ, Nat.reduceAdd]
  apply Facts.Lex.exact [] (.bool true) (by kernel_rfl)
  · intro u W hC _
    obtain ⟨x0, x1, _, _⟩ := lab_cells (keepB R0 hC)
    obtain ⟨y0, y1, _, _⟩ := lab_cells (keepB P0 hC)
    unfold Facts.one
    go_simp
    all_goals first | exact ⟨Grew.refl _, rfl⟩ | rfl
  simp only [Act.put, List.setIfInBounds_toArray, List.set_cons_zero, List.set_cons_succ, Nat.reduceAdd]
  apply Facts.Lex.exact [] (undef) (by kernel_rfl)
  · intro u W hC _
    obtain ⟨x0, x1, _, _⟩ := lab_cells (keepB R0 hC)
    obtain ⟨y0, y1, _, _⟩ := lab_cells (keepB P0 hC)
    unfold Facts.one
    go_simp
    all_goals first | exact ⟨Grew.refl _, rfl⟩ | rfl
  simp only [Act.put, List.setIfInBounds_toArray, List.set_cons_zero, List.set_cons_succ, Nat.reduceAdd]
  apply Facts.Lex.exact [] (undef) (by kernel_rfl)
  · intro u W hC _
    obtain ⟨x0, x1, _, _⟩ := lab_cells (keepB R0 hC)
    obtain ⟨y0, y1, _, _⟩ := lab_cells (keepB P0 hC)
    unfold Facts.one
    go_simp
    all_goals first | exact ⟨Grew.refl _, rfl⟩ | rfl
  simp only [Act.put, List.setIfInBounds_toArray, List.set_cons_zero, List.set_cons_succ, Nat.reduceAdd]
  apply Facts.Lex.exact [] (undef) (by kernel_rfl)
  · intro u W hC _
    obtain ⟨x0, x1, _, _⟩ := lab_cells (keepB R0 hC)
    obtain ⟨y0, y1, _, _⟩ := lab_cells (keepB P0 hC)
    unfold Facts.one
    go_simp
    all_goals first | exact ⟨Grew.refl _, rfl⟩ | rfl
  simp only [Act.put, List.setIfInBounds_toArray, List.set_cons_zero, List.set_cons_succ, Nat.reduceAdd]
  apply Facts.Lex.exact [] (undef) (by kernel_rfl)
  · intro u W hC _
    obtain ⟨x0, x1, _, _⟩ := lab_cells (keepB R0 hC)
    obtain ⟨y0, y1, _, _⟩ := lab_cells (keepB P0 hC)
    unfold Facts.one
    go_simp
    all_goals first | exact ⟨Grew.refl _, rfl⟩ | rfl
  simp only [Act.put, List.setIfInBounds_toArray, List.set_cons_zero, List.set_cons_succ, Nat.reduceAdd]
  apply Facts.Lex.exact [] (.bool true) (by kernel_rfl)
  · intro u W hC _
    obtain ⟨x0, x1, _, _⟩ := lab_cells (keepB R0 hC)
    obtain ⟨y0, y1, _, _⟩ := lab_cells (keepB P0 hC)
    unfold Facts.one
    go_simp
    all_goals first | exact ⟨Grew.refl _, rfl⟩ | rfl
  simp only [Act.put, List.setIfInBounds_toArray, List.set_cons_zero, List.set_cons_succ, Nat.reduceAdd]
  apply Facts.Lex.exact [] (.bool true) (by kernel_rfl)
  · intro u W hC _
    obtain ⟨x0, x1, _, _⟩ := lab_cells (keepB R0 hC)
    obtain ⟨y0, y1, _, _⟩ := lab_cells (keepB P0 hC)
    unfold Facts.one
    go_simp
    all_goals first | exact ⟨Grew.refl _, rfl⟩ | rfl
  simp only [Act.put, List.setIfInBounds_toArray, List.set_cons_zero, List.set_cons_succ, Nat.reduceAdd]
  apply Facts.Lex.exact [] (.bool true) (by kernel_rfl)
  · intro u W hC _
    obtain ⟨x0, x1, _, _⟩ := lab_cells (keepB R0 hC)
    obtain ⟨y0, y1, _, _⟩ := lab_cells (keepB P0 hC)
    unfold Facts.one
    go_simp
    all_goals first | exact ⟨Grew.refl _, rfl⟩ | rfl
  simp only [Act.put, List.setIfInBounds_toArray, List.set_cons_zero, List.set_cons_succ, Nat.reduceAdd]
  refine Facts.Lex.done fun u W2 hC hL => ?_
  have G9 := Lib.hid (HG.out.trans hC)
  clear hC hL R0 P0
  go_wp2
  go_returns
  exact ⟨rfl, G9.out⟩

set_option maxRecDepth 100000 in
set_option maxHeartbeats 4000000 in
theorem law_011 (v : Int) (c : BitVec 64) (vb : Value) (t : List UInt8) (s : ByteArray) {w : World} (hv : may v = false) (hT : Rd (fun _ => True) w vb t) (hs : s.size ≤ 140737488355328) (hE : Env w) (hr0 : rdE t = 0) (hr1 : rdOk t = true) (hp0 : paE s = 0) (hp1 : print (paV s) (paC s) = s) : Calls Tryd.prog 7 #[.agg #[.int .i64 v, .int .u64 (c.toNat : Int)], vb, .string s] w fun e W' => e = .returned (.bool true) ∧ Grew w W' := by
  have HE : Hid (∀ W, Grew w W → Env W) := Lib.hid fun W hg => hE.grow hg
  have HT := Lib.hid hT
  have HRI := Lib.hid (fun W => right_any v c W)
  have HRB : Hid (∀ W, Grew w W → Calls Tryd.prog 23 #[vb] W fun e W' => e = .returned (.tuple #[.agg #[.int .i64 (rdV t), .int .u64 ((rdC t).toNat : Int)], .int .i64 (rdE t)]) ∧ Grew W W') := Lib.hid fun W hg => read_any vb t W (hT.grew hg)
  have HPB := Lib.hid (fun W hE => parse2_any s hs W hE)
  have HF : Hid (∀ W, Calls Tryd.prog 27 #[.agg #[.int .i64 (rdV t), .int .u64 ((rdC t).toNat : Int)]] W fun e W' => ∃ v', e = .returned v' ∧ Rd (fun b => W.heap.size ≤ b) W' v' t ∧ Grew W W') := Lib.hid fun W => by
    have := form_any (rdV t) (rdC t) W
    rwa [rd_back t hr1] at this
  rw [hr0] at HRB
  clear hr0 hr1
  have HP : Hid (∀ W, Env W → 0 < W.heap.size → Calls Tryd.prog 29 #[.agg #[.int .i64 (paV s), .int .u64 ((paC s).toNat : Int)]] W fun e W' => e = .returned (.string s) ∧ Grew W W') := Lib.hid fun W hE hs => by
    have := print_any (paV s) (paC s) W hs hE.tab
    rwa [hp1] at this
  rw [hp0] at HPB
  clear hp0 hp1
  have HBN := Lib.hid (fun W => bytes_none v c W hv)
  have HPN : Hid (∀ W, Calls Tryd.prog 29 #[.agg #[.int .i64 v, .int .u64 (c.toNat : Int)]] W fun e W' => e = .returned (.string ⟨#[]⟩) ∧ Grew W W') := Lib.hid fun W => print_none v c W hv
  rw [hv] at HRI
  have A0 : Hid ((w.alloc (.cells #[.int .i64 v, .int .u64 (c.toNat : Int)] 24)).heap[w.heap.size]? = some (lc v c)) := Lib.hid (heap_alloc_new w _)
  have G0 : Hid (Grew w (w.alloc (.cells #[.int .i64 v, .int .u64 (c.toNat : Int)] 24))) := Lib.hid (by unfold Grew; go_grown)
  generalize rdV t = rv at *
  generalize rdC t = rc at *
  generalize paV s = pv at *
  generalize paC s = pc at *
  clear hT hE hs hv
  obtain ⟨VA, VC, rfl, _⟩ := id HT.out
  go_enter Tryd.func7, Tryd.ntmps7
  go_wp2_with fail
  refine (HRI.out _).mono ?_
  rintro e w1 ⟨rfl, hg⟩
  have A1 := Lib.hid (keepB A0.out hg)
  have G1 := Lib.hid (G0.out.trans hg)
  clear hg
  obtain ⟨a0, a1, _, _⟩ := lab_cells A1.out
  go_wp2_with fail
  refine (HBN.out _).mono ?_
  rintro e w2 ⟨rfl, hg⟩
  have A2 := Lib.hid (keepB A1.out hg)
  have G2 := Lib.hid (G1.out.trans hg)
  clear hg a0 a1
  obtain ⟨a0, a1, _, _⟩ := lab_cells A2.out
  go_wp2_with fail
  refine (HPN.out _).mono ?_
  rintro e w3 ⟨rfl, hg⟩
  have G3 := Lib.hid (G2.out.trans hg)
  clear hg a0 a1
  go_wp2_with fail
  refine (HRB.out _ G3.out).mono ?_
  rintro e w6 ⟨rfl, hg⟩
  have g6 : Grew w6 (w6.alloc (.cells #[.int .i64 rv, .int .u64 (rc.toNat : Int)] 24)) := by unfold Grew; go_grown
  have G6 := Lib.hid ((G3.out.trans hg).trans g6)
  have R6 : Hid ((w6.alloc (.cells #[.int .i64 rv, .int .u64 (rc.toNat : Int)] 24)).heap[w6.heap.size]? = some (lc rv rc)) := Lib.hid (heap_alloc_new w6 _)
  clear hg g6
  go_wp2_with fail
  refine (HPB.out _ (HE.out _ G6.out)).mono ?_
  rintro e w7 ⟨rfl, hg⟩
  have g7 : Grew w7 (w7.alloc (.cells #[.int .i64 pv, .int .u64 (pc.toNat : Int)] 24)) := by unfold Grew; go_grown
  have HG := Lib.hid ((G6.out.trans hg).trans g7)
  have R0 := keepB (keepB R6.out hg) g7
  have P0 : (w7.alloc (.cells #[.int .i64 pv, .int .u64 (pc.toNat : Int)] 24)).heap[w7.heap.size]? = some (lc pv pc) := heap_alloc_new w7 _
  have HS : Hid (0 < (w7.alloc (.cells #[.int .i64 pv, .int .u64 (pc.toNat : Int)] 24)).heap.size) := Lib.hid (by simp)
  clear hg g7
  go_wp2
  refine Facts.wp_region_text (by kernel_rfl) (by kernel_rfl) ?_
  apply Facts.Lex.exact [] (.bool true) (by kernel_rfl)
  · intro u W hC _
    obtain ⟨x0, x1, _, _⟩ := lab_cells (keepB R0 hC)
    obtain ⟨y0, y1, _, _⟩ := lab_cells (keepB P0 hC)
    unfold Facts.one
    go_simp
    first | exact ⟨Grew.refl _, rfl⟩ | rfl | (refine (alive_any W (HE.out W (HG.out.trans hC))).mono ?_; rintro e w' ⟨rfl, hg⟩; exact ⟨_, rfl, hg, rfl⟩)
  simp only [Act.put, List.setIfInBounds_toArray, List.set_cons_zero, List.set_cons_succ, Nat.reduceAdd]
  apply Facts.Lex.exact [] (.bool true) (by kernel_rfl)
  · intro u W hC _
    obtain ⟨x0, x1, _, _⟩ := lab_cells (keepB R0 hC)
    obtain ⟨y0, y1, _, _⟩ := lab_cells (keepB P0 hC)
    unfold Facts.one
    go_simp
    all_goals first | exact ⟨Grew.refl _, rfl⟩ | rfl
  simp only [Act.put, List.setIfInBounds_toArray, List.set_cons_zero, List.set_cons_succ, Nat.reduceAdd]
  apply Facts.Lex.exact [] (.int .i64 0) (by kernel_rfl)
  · intro u W hC _
    obtain ⟨x0, x1, _, _⟩ := lab_cells (keepB R0 hC)
    obtain ⟨y0, y1, _, _⟩ := lab_cells (keepB P0 hC)
    unfold Facts.one
    go_simp
    all_goals first | exact ⟨Grew.refl _, rfl⟩ | rfl
  simp only [Act.put, List.setIfInBounds_toArray, List.set_cons_zero, List.set_cons_succ, Nat.reduceAdd]
  apply Facts.Lex.exact [] (.bool false) (by kernel_rfl)
  · intro u W hC _
    obtain ⟨x0, x1, _, _⟩ := lab_cells (keepB R0 hC)
    obtain ⟨y0, y1, _, _⟩ := lab_cells (keepB P0 hC)
    unfold Facts.one
    go_simp
    all_goals first | exact ⟨Grew.refl _, rfl⟩ | rfl
  simp only [Act.put, List.setIfInBounds_toArray, List.set_cons_zero, List.set_cons_succ, Nat.reduceAdd]
  apply Facts.Lex.exact [] (.bool false) (by kernel_rfl)
  · intro u W hC _
    obtain ⟨x0, x1, _, _⟩ := lab_cells (keepB R0 hC)
    obtain ⟨y0, y1, _, _⟩ := lab_cells (keepB P0 hC)
    unfold Facts.one
    go_simp
    all_goals first | exact ⟨Grew.refl _, rfl⟩ | rfl
  simp only [Act.put, List.setIfInBounds_toArray, List.set_cons_zero, List.set_cons_succ, Nat.reduceAdd]
  apply Facts.Lex.exact [] (.agg #[.int .i64 rv, .int .u64 (rc.toNat : Int)]) (by kernel_rfl)
  · intro u W hC _
    obtain ⟨x0, x1, _, _⟩ := lab_cells (keepB R0 hC)
    obtain ⟨y0, y1, _, _⟩ := lab_cells (keepB P0 hC)
    unfold Facts.one
    go_simp
    all_goals first | exact ⟨Grew.refl _, rfl⟩ | rfl
  simp only [Act.put, List.setIfInBounds_toArray, List.set_cons_zero, List.set_cons_succ, Nat.reduceAdd]
  refine Facts.Lex.know [] (fun x W => Rd (fun _ => True) W x t) (by kernel_rfl) (fun _ _ _ h hg => h.grew hg) ?_ ?_
  · intro u W hC _
    unfold Facts.one
    go_simp
    refine (HF.out W).mono ?_
    rintro e w' ⟨x, rfl, hr, hg⟩
    exact ⟨_, rfl, hg, hr.mono fun _ _ => trivial⟩
  simp only [Act.put, List.setIfInBounds_toArray, List.set_cons_zero, List.set_cons_succ, Nat.reduceAdd]
  apply Facts.Lex.exact [6] (.string ⟨t.toArray⟩) (by kernel_rfl)
  · intro u W hC hK
    have h6 : Rd (fun _ => True) W (u 6) t := hK.1
    have hcv := conv h6
    unfold Facts.one
    go_simp
    all_goals first | exact ⟨Grew.refl _, rfl⟩ | rfl
  simp only [Act.put, List.setIfInBounds_toArray, List.set_cons_zero, List.set_cons_succ, Nat.reduceAdd]
  apply Facts.Lex.exact [] _ (by kernel_rfl)
  · intro u W hC _
    obtain ⟨x0, x1, _, _⟩ := lab_cells (keepB R0 hC)
    obtain ⟨y0, y1, _, _⟩ := lab_cells (keepB P0 hC)
    unfold Facts.one
    go_simp
    all_goals first | exact ⟨Grew.refl _, rfl⟩ | rfl
  simp only [Act.put, List.setIfInBounds_toArray, List.set_cons_zero, List.set_cons_succ, Nat.reduceAdd]
  apply Facts.Lex.exact [] (.string ⟨t.toArray⟩) (by kernel_rfl)
  · intro u W hC _
    have hcv := conv (HT.out.grew (HG.out.trans hC))
    unfold Facts.one
    go_simp
    all_goals first | exact ⟨Grew.refl _, rfl⟩ | rfl
  simp only [Act.put, List.setIfInBounds_toArray, List.set_cons_zero, List.set_cons_succ, Nat.reduceAdd]
  apply Facts.Lex.exact [] (.bool true) (by kernel_rfl)
  · intro u W hC _
    obtain ⟨x0, x1, _, _⟩ := lab_cells (keepB R0 hC)
    obtain ⟨y0, y1, _, _⟩ := lab_cells (keepB P0 hC)
    unfold Facts.one
    go_simp
    all_goals first | exact ⟨Grew.refl _, rfl⟩ | rfl
  simp only [Act.put, List.setIfInBounds_toArray, List.set_cons_zero, List.set_cons_succ, Nat.reduceAdd]
  apply Facts.Lex.exact [] (.bool true) (by kernel_rfl)
  · intro u W hC _
    obtain ⟨x0, x1, _, _⟩ := lab_cells (keepB R0 hC)
    obtain ⟨y0, y1, _, _⟩ := lab_cells (keepB P0 hC)
    unfold Facts.one
    go_simp
    all_goals first | exact ⟨Grew.refl _, rfl⟩ | rfl
  simp only [Act.put, List.setIfInBounds_toArray, List.set_cons_zero, List.set_cons_succ, Nat.reduceAdd]
  apply Facts.Lex.exact [] (.bool true) (by kernel_rfl)
  · intro u W hC _
    obtain ⟨x0, x1, _, _⟩ := lab_cells (keepB R0 hC)
    obtain ⟨y0, y1, _, _⟩ := lab_cells (keepB P0 hC)
    unfold Facts.one
    go_simp
    all_goals first | exact ⟨Grew.refl _, rfl⟩ | rfl
  simp only [Act.put, List.setIfInBounds_toArray, List.set_cons_zero, List.set_cons_succ, Nat.reduceAdd]
  apply Facts.Lex.exact [] (.bool true) (by kernel_rfl)
  · intro u W hC _
    obtain ⟨x0, x1, _, _⟩ := lab_cells (keepB R0 hC)
    obtain ⟨y0, y1, _, _⟩ := lab_cells (keepB P0 hC)
    unfold Facts.one
    go_simp
    all_goals first | exact ⟨Grew.refl _, rfl⟩ | rfl
  simp only [Act.put, List.setIfInBounds_toArray, List.set_cons_zero, List.set_cons_succ, Nat.reduceAdd]
  apply Facts.Lex.exact [] (.int .i64 0) (by kernel_rfl)
  · intro u W hC _
    obtain ⟨x0, x1, _, _⟩ := lab_cells (keepB R0 hC)
    obtain ⟨y0, y1, _, _⟩ := lab_cells (keepB P0 hC)
    unfold Facts.one
    go_simp
    all_goals first | exact ⟨Grew.refl _, rfl⟩ | rfl
  simp only [Act.put, List.setIfInBounds_toArray, List.set_cons_zero, List.set_cons_succ, Nat.reduceAdd]
  apply Facts.Lex.exact [] (.bool false) (by kernel_rfl)
  · intro u W hC _
    obtain ⟨x0, x1, _, _⟩ := lab_cells (keepB R0 hC)
    obtain ⟨y0, y1, _, _⟩ := lab_cells (keepB P0 hC)
    unfold Facts.one
    go_simp
    all_goals first | exact ⟨Grew.refl _, rfl⟩ | rfl
  simp only [Act.put, List.setIfInBounds_toArray, List.set_cons_zero, List.set_cons_succ, Nat.reduceAdd]
  apply Facts.Lex.exact [] (.bool false) (by kernel_rfl)
  · intro u W hC _
    obtain ⟨x0, x1, _, _⟩ := lab_cells (keepB R0 hC)
    obtain ⟨y0, y1, _, _⟩ := lab_cells (keepB P0 hC)
    unfold Facts.one
    go_simp
    all_goals first | exact ⟨Grew.refl _, rfl⟩ | rfl
  simp only [Act.put, List.setIfInBounds_toArray, List.set_cons_zero, List.set_cons_succ, Nat.reduceAdd]
  apply Facts.Lex.exact [] (.agg #[.int .i64 pv, .int .u64 (pc.toNat : Int)]) (by kernel_rfl)
  · intro u W hC _
    obtain ⟨x0, x1, _, _⟩ := lab_cells (keepB R0 hC)
    obtain ⟨y0, y1, _, _⟩ := lab_cells (keepB P0 hC)
    unfold Facts.one
    go_simp
    all_goals first | exact ⟨Grew.refl _, rfl⟩ | rfl
  simp only [Act.put, List.setIfInBounds_toArray, List.set_cons_zero, List.set_cons_succ, Nat.reduceAdd]
  apply Facts.Lex.exact [] (.string s) (by kernel_rfl)
  · intro u W hC _
    obtain ⟨x0, x1, _, _⟩ := lab_cells (keepB R0 hC)
    obtain ⟨y0, y1, _, _⟩ := lab_cells (keepB P0 hC)
    unfold Facts.one
    go_simp
    first | exact ⟨Grew.refl _, rfl⟩ | rfl | (refine (HP.out W (HE.out W (HG.out.trans hC)) (by have := hC.size; have := HS.out; omega)).mono ?_; rintro e w' ⟨rfl, hg⟩; exact ⟨_, rfl, hg, rfl⟩)
  simp only [Act.put, List.setIfInBounds_toArray, List.set_cons_zero, List.set_cons_succ, Nat.reduceAdd]
  apply Facts.Lex.exact [] (.string s) (by kernel_rfl)
  · intro u W hC _
    obtain ⟨x0, x1, _, _⟩ := lab_cells (keepB R0 hC)
    obtain ⟨y0, y1, _, _⟩ := lab_cells (keepB P0 hC)
    unfold Facts.one
    go_simp
    all_goals first | exact ⟨Grew.refl _, rfl⟩ | rfl
  simp only [Act.put, List.setIfInBounds_toArray, List.set_cons_zero, List.set_cons_succ, Nat.reduceAdd]
  apply Facts.Lex.exact [] (.bool true) (by kernel_rfl)
  · intro u W hC _
    obtain ⟨x0, x1, _, _⟩ := lab_cells (keepB R0 hC)
    obtain ⟨y0, y1, _, _⟩ := lab_cells (keepB P0 hC)
    unfold Facts.one
    go_simp
    all_goals first | exact ⟨Grew.refl _, rfl⟩ | rfl
  simp only [Act.put, List.setIfInBounds_toArray, List.set_cons_zero, List.set_cons_succ, Nat.reduceAdd]
  apply Facts.Lex.exact [] (.bool true) (by kernel_rfl)
  · intro u W hC _
    obtain ⟨x0, x1, _, _⟩ := lab_cells (keepB R0 hC)
    obtain ⟨y0, y1, _, _⟩ := lab_cells (keepB P0 hC)
    unfold Facts.one
    go_simp
    all_goals first | exact ⟨Grew.refl _, rfl⟩ | rfl
  simp only [Act.put, List.setIfInBounds_toArray, List.set_cons_zero, List.set_cons_succ, Nat.reduceAdd]
  apply Facts.Lex.exact [] (.bool true) (by kernel_rfl)
  · intro u W hC _
    obtain ⟨x0, x1, _, _⟩ := lab_cells (keepB R0 hC)
    obtain ⟨y0, y1, _, _⟩ := lab_cells (keepB P0 hC)
    unfold Facts.one
    go_simp
    all_goals first | exact ⟨Grew.refl _, rfl⟩ | rfl
  simp only [Act.put, List.setIfInBounds_toArray, List.set_cons_zero, List.set_cons_succ, Nat.reduceAdd]
  apply Facts.Lex.exact [] (.bool true) (by kernel_rfl)
  · intro u W hC _
    obtain ⟨x0, x1, _, _⟩ := lab_cells (keepB R0 hC)
    obtain ⟨y0, y1, _, _⟩ := lab_cells (keepB P0 hC)
    unfold Facts.one
    go_simp
    all_goals first | exact ⟨Grew.refl _, rfl⟩ | rfl
  simp only [Act.put, List.setIfInBounds_toArray, List.set_cons_zero, List.set_cons_succ, Nat.reduceAdd]
  refine Facts.Lex.done fun u W2 hC hL => ?_
  have G9 := Lib.hid (HG.out.trans hC)
  clear hC hL R0 P0
  go_wp2
  go_returns
  exact ⟨rfl, G9.out⟩

set_option maxRecDepth 100000 in
set_option maxHeartbeats 4000000 in
theorem law_010 (v : Int) (c : BitVec 64) (vb : Value) (t : List UInt8) (s : ByteArray) {w : World} (hv : may v = false) (hT : Rd (fun _ => True) w vb t) (hs : s.size ≤ 140737488355328) (hE : Env w) (hr0 : rdE t = 0) (hr1 : rdOk t = true) (hp0 : (paE s != 0) = true) : Calls Tryd.prog 7 #[.agg #[.int .i64 v, .int .u64 (c.toNat : Int)], vb, .string s] w fun e W' => e = .returned (.bool true) ∧ Grew w W' := by
  have HE : Hid (∀ W, Grew w W → Env W) := Lib.hid fun W hg => hE.grow hg
  have HT := Lib.hid hT
  have HRI := Lib.hid (fun W => right_any v c W)
  have HRB : Hid (∀ W, Grew w W → Calls Tryd.prog 23 #[vb] W fun e W' => e = .returned (.tuple #[.agg #[.int .i64 (rdV t), .int .u64 ((rdC t).toNat : Int)], .int .i64 (rdE t)]) ∧ Grew W W') := Lib.hid fun W hg => read_any vb t W (hT.grew hg)
  have HPB := Lib.hid (fun W hE => parse2_any s hs W hE)
  have HF : Hid (∀ W, Calls Tryd.prog 27 #[.agg #[.int .i64 (rdV t), .int .u64 ((rdC t).toNat : Int)]] W fun e W' => ∃ v', e = .returned v' ∧ Rd (fun b => W.heap.size ≤ b) W' v' t ∧ Grew W W') := Lib.hid fun W => by
    have := form_any (rdV t) (rdC t) W
    rwa [rd_back t hr1] at this
  rw [hr0] at HRB
  clear hr0 hr1
  have HBN := Lib.hid (fun W => bytes_none v c W hv)
  have HPN : Hid (∀ W, Calls Tryd.prog 29 #[.agg #[.int .i64 v, .int .u64 (c.toNat : Int)]] W fun e W' => e = .returned (.string ⟨#[]⟩) ∧ Grew W W') := Lib.hid fun W => print_none v c W hv
  rw [hv] at HRI
  have A0 : Hid ((w.alloc (.cells #[.int .i64 v, .int .u64 (c.toNat : Int)] 24)).heap[w.heap.size]? = some (lc v c)) := Lib.hid (heap_alloc_new w _)
  have G0 : Hid (Grew w (w.alloc (.cells #[.int .i64 v, .int .u64 (c.toNat : Int)] 24))) := Lib.hid (by unfold Grew; go_grown)
  generalize rdV t = rv at *
  generalize rdC t = rc at *
  generalize paV s = pv at *
  generalize paC s = pc at *
  generalize paE s = pe at *
  clear hT hE hs hv
  obtain ⟨VA, VC, rfl, _⟩ := id HT.out
  go_enter Tryd.func7, Tryd.ntmps7
  go_wp2_with fail
  refine (HRI.out _).mono ?_
  rintro e w1 ⟨rfl, hg⟩
  have A1 := Lib.hid (keepB A0.out hg)
  have G1 := Lib.hid (G0.out.trans hg)
  clear hg
  obtain ⟨a0, a1, _, _⟩ := lab_cells A1.out
  go_wp2_with fail
  refine (HBN.out _).mono ?_
  rintro e w2 ⟨rfl, hg⟩
  have A2 := Lib.hid (keepB A1.out hg)
  have G2 := Lib.hid (G1.out.trans hg)
  clear hg a0 a1
  obtain ⟨a0, a1, _, _⟩ := lab_cells A2.out
  go_wp2_with fail
  refine (HPN.out _).mono ?_
  rintro e w3 ⟨rfl, hg⟩
  have G3 := Lib.hid (G2.out.trans hg)
  clear hg a0 a1
  go_wp2_with fail
  refine (HRB.out _ G3.out).mono ?_
  rintro e w6 ⟨rfl, hg⟩
  have g6 : Grew w6 (w6.alloc (.cells #[.int .i64 rv, .int .u64 (rc.toNat : Int)] 24)) := by unfold Grew; go_grown
  have G6 := Lib.hid ((G3.out.trans hg).trans g6)
  have R6 : Hid ((w6.alloc (.cells #[.int .i64 rv, .int .u64 (rc.toNat : Int)] 24)).heap[w6.heap.size]? = some (lc rv rc)) := Lib.hid (heap_alloc_new w6 _)
  clear hg g6
  go_wp2_with fail
  refine (HPB.out _ (HE.out _ G6.out)).mono ?_
  rintro e w7 ⟨rfl, hg⟩
  have g7 : Grew w7 (w7.alloc (.cells #[.int .i64 pv, .int .u64 (pc.toNat : Int)] 24)) := by unfold Grew; go_grown
  have HG := Lib.hid ((G6.out.trans hg).trans g7)
  have R0 := keepB (keepB R6.out hg) g7
  have P0 : (w7.alloc (.cells #[.int .i64 pv, .int .u64 (pc.toNat : Int)] 24)).heap[w7.heap.size]? = some (lc pv pc) := heap_alloc_new w7 _
  have HS : Hid (0 < (w7.alloc (.cells #[.int .i64 pv, .int .u64 (pc.toNat : Int)] 24)).heap.size) := Lib.hid (by simp)
  clear hg g7
  go_wp2
  refine Facts.wp_region_text (by kernel_rfl) (by kernel_rfl) ?_
  apply Facts.Lex.exact [] (.bool true) (by kernel_rfl)
  · intro u W hC _
    obtain ⟨x0, x1, _, _⟩ := lab_cells (keepB R0 hC)
    obtain ⟨y0, y1, _, _⟩ := lab_cells (keepB P0 hC)
    unfold Facts.one
    go_simp
    first | exact ⟨Grew.refl _, rfl⟩ | rfl | (refine (alive_any W (HE.out W (HG.out.trans hC))).mono ?_; rintro e w' ⟨rfl, hg⟩; exact ⟨_, rfl, hg, rfl⟩)
  simp only [Act.put, List.setIfInBounds_toArray, List.set_cons_zero, List.set_cons_succ, Nat.reduceAdd]
  apply Facts.Lex.exact [] (.bool true) (by kernel_rfl)
  · intro u W hC _
    obtain ⟨x0, x1, _, _⟩ := lab_cells (keepB R0 hC)
    obtain ⟨y0, y1, _, _⟩ := lab_cells (keepB P0 hC)
    unfold Facts.one
    go_simp
    all_goals first | exact ⟨Grew.refl _, rfl⟩ | rfl
  simp only [Act.put, List.setIfInBounds_toArray, List.set_cons_zero, List.set_cons_succ, Nat.reduceAdd]
  apply Facts.Lex.exact [] (.int .i64 0) (by kernel_rfl)
  · intro u W hC _
    obtain ⟨x0, x1, _, _⟩ := lab_cells (keepB R0 hC)
    obtain ⟨y0, y1, _, _⟩ := lab_cells (keepB P0 hC)
    unfold Facts.one
    go_simp
    all_goals first | exact ⟨Grew.refl _, rfl⟩ | rfl
  simp only [Act.put, List.setIfInBounds_toArray, List.set_cons_zero, List.set_cons_succ, Nat.reduceAdd]
  apply Facts.Lex.exact [] (.bool false) (by kernel_rfl)
  · intro u W hC _
    obtain ⟨x0, x1, _, _⟩ := lab_cells (keepB R0 hC)
    obtain ⟨y0, y1, _, _⟩ := lab_cells (keepB P0 hC)
    unfold Facts.one
    go_simp
    all_goals first | exact ⟨Grew.refl _, rfl⟩ | rfl
  simp only [Act.put, List.setIfInBounds_toArray, List.set_cons_zero, List.set_cons_succ, Nat.reduceAdd]
  apply Facts.Lex.exact [] (.bool false) (by kernel_rfl)
  · intro u W hC _
    obtain ⟨x0, x1, _, _⟩ := lab_cells (keepB R0 hC)
    obtain ⟨y0, y1, _, _⟩ := lab_cells (keepB P0 hC)
    unfold Facts.one
    go_simp
    all_goals first | exact ⟨Grew.refl _, rfl⟩ | rfl
  simp only [Act.put, List.setIfInBounds_toArray, List.set_cons_zero, List.set_cons_succ, Nat.reduceAdd]
  apply Facts.Lex.exact [] (.agg #[.int .i64 rv, .int .u64 (rc.toNat : Int)]) (by kernel_rfl)
  · intro u W hC _
    obtain ⟨x0, x1, _, _⟩ := lab_cells (keepB R0 hC)
    obtain ⟨y0, y1, _, _⟩ := lab_cells (keepB P0 hC)
    unfold Facts.one
    go_simp
    all_goals first | exact ⟨Grew.refl _, rfl⟩ | rfl
  simp only [Act.put, List.setIfInBounds_toArray, List.set_cons_zero, List.set_cons_succ, Nat.reduceAdd]
  refine Facts.Lex.know [] (fun x W => Rd (fun _ => True) W x t) (by kernel_rfl) (fun _ _ _ h hg => h.grew hg) ?_ ?_
  · intro u W hC _
    unfold Facts.one
    go_simp
    refine (HF.out W).mono ?_
    rintro e w' ⟨x, rfl, hr, hg⟩
    exact ⟨_, rfl, hg, hr.mono fun _ _ => trivial⟩
  simp only [Act.put, List.setIfInBounds_toArray, List.set_cons_zero, List.set_cons_succ, Nat.reduceAdd]
  apply Facts.Lex.exact [6] (.string ⟨t.toArray⟩) (by kernel_rfl)
  · intro u W hC hK
    have h6 : Rd (fun _ => True) W (u 6) t := hK.1
    have hcv := conv h6
    unfold Facts.one
    go_simp
    all_goals first | exact ⟨Grew.refl _, rfl⟩ | rfl
  simp only [Act.put, List.setIfInBounds_toArray, List.set_cons_zero, List.set_cons_succ, Nat.reduceAdd]
  apply Facts.Lex.exact [] _ (by kernel_rfl)
  · intro u W hC _
    obtain ⟨x0, x1, _, _⟩ := lab_cells (keepB R0 hC)
    obtain ⟨y0, y1, _, _⟩ := lab_cells (keepB P0 hC)
    unfold Facts.one
    go_simp
    all_goals first | exact ⟨Grew.refl _, rfl⟩ | rfl
  simp only [Act.put, List.setIfInBounds_toArray, List.set_cons_zero, List.set_cons_succ, Nat.reduceAdd]
  apply Facts.Lex.exact [] (.string ⟨t.toArray⟩) (by kernel_rfl)
  · intro u W hC _
    have hcv := conv (HT.out.grew (HG.out.trans hC))
    unfold Facts.one
    go_simp
    all_goals first | exact ⟨Grew.refl _, rfl⟩ | rfl
  simp only [Act.put, List.setIfInBounds_toArray, List.set_cons_zero, List.set_cons_succ, Nat.reduceAdd]
  apply Facts.Lex.exact [] (.bool true) (by kernel_rfl)
  · intro u W hC _
    obtain ⟨x0, x1, _, _⟩ := lab_cells (keepB R0 hC)
    obtain ⟨y0, y1, _, _⟩ := lab_cells (keepB P0 hC)
    unfold Facts.one
    go_simp
    all_goals first | exact ⟨Grew.refl _, rfl⟩ | rfl
  simp only [Act.put, List.setIfInBounds_toArray, List.set_cons_zero, List.set_cons_succ, Nat.reduceAdd]
  apply Facts.Lex.exact [] (.bool true) (by kernel_rfl)
  · intro u W hC _
    obtain ⟨x0, x1, _, _⟩ := lab_cells (keepB R0 hC)
    obtain ⟨y0, y1, _, _⟩ := lab_cells (keepB P0 hC)
    unfold Facts.one
    go_simp
    all_goals first | exact ⟨Grew.refl _, rfl⟩ | rfl
  simp only [Act.put, List.setIfInBounds_toArray, List.set_cons_zero, List.set_cons_succ, Nat.reduceAdd]
  apply Facts.Lex.exact [] (.bool true) (by kernel_rfl)
  · intro u W hC _
    obtain ⟨x0, x1, _, _⟩ := lab_cells (keepB R0 hC)
    obtain ⟨y0, y1, _, _⟩ := lab_cells (keepB P0 hC)
    unfold Facts.one
    go_simp
    all_goals first | exact ⟨Grew.refl _, rfl⟩ | rfl
  simp only [Act.put, List.setIfInBounds_toArray, List.set_cons_zero, List.set_cons_succ, Nat.reduceAdd]
  apply Facts.Lex.exact [] (.bool true) (by kernel_rfl)
  · intro u W hC _
    obtain ⟨x0, x1, _, _⟩ := lab_cells (keepB R0 hC)
    obtain ⟨y0, y1, _, _⟩ := lab_cells (keepB P0 hC)
    unfold Facts.one
    go_simp
    all_goals first | exact ⟨Grew.refl _, rfl⟩ | rfl
  simp only [Act.put, List.setIfInBounds_toArray, List.set_cons_zero, List.set_cons_succ, Nat.reduceAdd]
  apply Facts.Lex.exact [] (.int .i64 pe) (by kernel_rfl)
  · intro u W hC _
    obtain ⟨x0, x1, _, _⟩ := lab_cells (keepB R0 hC)
    obtain ⟨y0, y1, _, _⟩ := lab_cells (keepB P0 hC)
    unfold Facts.one
    go_simp
    all_goals first | exact ⟨Grew.refl _, rfl⟩ | rfl
  simp only [Act.put, List.setIfInBounds_toArray, List.set_cons_zero, List.set_cons_succ, Nat.reduceAdd]
  apply Facts.Lex.exact [] (.bool true) (by kernel_rfl)
  · intro u W hC _
    obtain ⟨x0, x1, _, _⟩ := lab_cells (keepB R0 hC)
    obtain ⟨y0, y1, _, _⟩ := lab_cells (keepB P0 hC)
    unfold Facts.one
    go_simp
    all_goals first | exact ⟨Grew.refl _, rfl⟩ | rfl
  simp only [Act.put, List.setIfInBounds_toArray, List.set_cons_zero, List.set_cons_succ, Nat.reduceAdd]
  apply Facts.Lex.exact [] (.bool true) (by kernel_rfl)
  · intro u W hC _
    obtain ⟨x0, x1, _, _⟩ := lab_cells (keepB R0 hC)
    obtain ⟨y0, y1, _, _⟩ := lab_cells (keepB P0 hC)
    unfold Facts.one
    go_simp
    all_goals first | exact ⟨Grew.refl _, rfl⟩ | rfl
  simp only [Act.put, List.setIfInBounds_toArray, List.set_cons_zero, List.set_cons_succ, Nat.reduceAdd]
  apply Facts.Lex.exact [] (undef) (by kernel_rfl)
  · intro u W hC _
    obtain ⟨x0, x1, _, _⟩ := lab_cells (keepB R0 hC)
    obtain ⟨y0, y1, _, _⟩ := lab_cells (keepB P0 hC)
    unfold Facts.one
    go_simp
    all_goals first | exact ⟨Grew.refl _, rfl⟩ | rfl
  simp only [Act.put, List.setIfInBounds_toArray, List.set_cons_zero, List.set_cons_succ, Nat.reduceAdd]
  apply Facts.Lex.exact [] (undef) (by kernel_rfl)
  · intro u W hC _
    obtain ⟨x0, x1, _, _⟩ := lab_cells (keepB R0 hC)
    obtain ⟨y0, y1, _, _⟩ := lab_cells (keepB P0 hC)
    unfold Facts.one
    go_simp
    all_goals first | exact ⟨Grew.refl _, rfl⟩ | rfl
  simp only [Act.put, List.setIfInBounds_toArray, List.set_cons_zero, List.set_cons_succ, Nat.reduceAdd]
  apply Facts.Lex.exact [] (undef) (by kernel_rfl)
  · intro u W hC _
    obtain ⟨x0, x1, _, _⟩ := lab_cells (keepB R0 hC)
    obtain ⟨y0, y1, _, _⟩ := lab_cells (keepB P0 hC)
    unfold Facts.one
    go_simp
    all_goals first | exact ⟨Grew.refl _, rfl⟩ | rfl
  simp only [Act.put, List.setIfInBounds_toArray, List.set_cons_zero, List.set_cons_succ, Nat.reduceAdd]
  apply Facts.Lex.exact [] (undef) (by kernel_rfl)
  · intro u W hC _
    obtain ⟨x0, x1, _, _⟩ := lab_cells (keepB R0 hC)
    obtain ⟨y0, y1, _, _⟩ := lab_cells (keepB P0 hC)
    unfold Facts.one
    go_simp
    all_goals first | exact ⟨Grew.refl _, rfl⟩ | rfl
  simp only [Act.put, List.setIfInBounds_toArray, List.set_cons_zero, List.set_cons_succ, Nat.reduceAdd]
  apply Facts.Lex.exact [] (.bool true) (by kernel_rfl)
  · intro u W hC _
    obtain ⟨x0, x1, _, _⟩ := lab_cells (keepB R0 hC)
    obtain ⟨y0, y1, _, _⟩ := lab_cells (keepB P0 hC)
    unfold Facts.one
    go_simp
    all_goals first | exact ⟨Grew.refl _, rfl⟩ | rfl
  simp only [Act.put, List.setIfInBounds_toArray, List.set_cons_zero, List.set_cons_succ, Nat.reduceAdd]
  apply Facts.Lex.exact [] (.bool true) (by kernel_rfl)
  · intro u W hC _
    obtain ⟨x0, x1, _, _⟩ := lab_cells (keepB R0 hC)
    obtain ⟨y0, y1, _, _⟩ := lab_cells (keepB P0 hC)
    unfold Facts.one
    go_simp
    all_goals first | exact ⟨Grew.refl _, rfl⟩ | rfl
  simp only [Act.put, List.setIfInBounds_toArray, List.set_cons_zero, List.set_cons_succ, Nat.reduceAdd]
  apply Facts.Lex.exact [] (.bool true) (by kernel_rfl)
  · intro u W hC _
    obtain ⟨x0, x1, _, _⟩ := lab_cells (keepB R0 hC)
    obtain ⟨y0, y1, _, _⟩ := lab_cells (keepB P0 hC)
    unfold Facts.one
    go_simp
    all_goals first | exact ⟨Grew.refl _, rfl⟩ | rfl
  simp only [Act.put, List.setIfInBounds_toArray, List.set_cons_zero, List.set_cons_succ, Nat.reduceAdd]
  refine Facts.Lex.done fun u W2 hC hL => ?_
  have G9 := Lib.hid (HG.out.trans hC)
  clear hC hL R0 P0
  go_wp2
  go_returns
  exact ⟨rfl, G9.out⟩

set_option maxRecDepth 100000 in
set_option maxHeartbeats 4000000 in
theorem law_001 (v : Int) (c : BitVec 64) (vb : Value) (t : List UInt8) (s : ByteArray) {w : World} (hv : may v = false) (hT : Rd (fun _ => True) w vb t) (hs : s.size ≤ 140737488355328) (hE : Env w) (hr0 : (rdE t != 0) = true) (hp0 : paE s = 0) (hp1 : print (paV s) (paC s) = s) : Calls Tryd.prog 7 #[.agg #[.int .i64 v, .int .u64 (c.toNat : Int)], vb, .string s] w fun e W' => e = .returned (.bool true) ∧ Grew w W' := by
  have HE : Hid (∀ W, Grew w W → Env W) := Lib.hid fun W hg => hE.grow hg
  have HT := Lib.hid hT
  have HRI := Lib.hid (fun W => right_any v c W)
  have HRB : Hid (∀ W, Grew w W → Calls Tryd.prog 23 #[vb] W fun e W' => e = .returned (.tuple #[.agg #[.int .i64 (rdV t), .int .u64 ((rdC t).toNat : Int)], .int .i64 (rdE t)]) ∧ Grew W W') := Lib.hid fun W hg => read_any vb t W (hT.grew hg)
  have HPB := Lib.hid (fun W hE => parse2_any s hs W hE)
  have HP : Hid (∀ W, Env W → 0 < W.heap.size → Calls Tryd.prog 29 #[.agg #[.int .i64 (paV s), .int .u64 ((paC s).toNat : Int)]] W fun e W' => e = .returned (.string s) ∧ Grew W W') := Lib.hid fun W hE hs => by
    have := print_any (paV s) (paC s) W hs hE.tab
    rwa [hp1] at this
  rw [hp0] at HPB
  clear hp0 hp1
  have HBN := Lib.hid (fun W => bytes_none v c W hv)
  have HPN : Hid (∀ W, Calls Tryd.prog 29 #[.agg #[.int .i64 v, .int .u64 (c.toNat : Int)]] W fun e W' => e = .returned (.string ⟨#[]⟩) ∧ Grew W W') := Lib.hid fun W => print_none v c W hv
  rw [hv] at HRI
  have A0 : Hid ((w.alloc (.cells #[.int .i64 v, .int .u64 (c.toNat : Int)] 24)).heap[w.heap.size]? = some (lc v c)) := Lib.hid (heap_alloc_new w _)
  have G0 : Hid (Grew w (w.alloc (.cells #[.int .i64 v, .int .u64 (c.toNat : Int)] 24))) := Lib.hid (by unfold Grew; go_grown)
  generalize rdV t = rv at *
  generalize rdC t = rc at *
  generalize paV s = pv at *
  generalize paC s = pc at *
  generalize rdE t = re at *
  clear hT hE hs hv
  obtain ⟨VA, VC, rfl, _⟩ := id HT.out
  go_enter Tryd.func7, Tryd.ntmps7
  go_wp2_with fail
  refine (HRI.out _).mono ?_
  rintro e w1 ⟨rfl, hg⟩
  have A1 := Lib.hid (keepB A0.out hg)
  have G1 := Lib.hid (G0.out.trans hg)
  clear hg
  obtain ⟨a0, a1, _, _⟩ := lab_cells A1.out
  go_wp2_with fail
  refine (HBN.out _).mono ?_
  rintro e w2 ⟨rfl, hg⟩
  have A2 := Lib.hid (keepB A1.out hg)
  have G2 := Lib.hid (G1.out.trans hg)
  clear hg a0 a1
  obtain ⟨a0, a1, _, _⟩ := lab_cells A2.out
  go_wp2_with fail
  refine (HPN.out _).mono ?_
  rintro e w3 ⟨rfl, hg⟩
  have G3 := Lib.hid (G2.out.trans hg)
  clear hg a0 a1
  go_wp2_with fail
  refine (HRB.out _ G3.out).mono ?_
  rintro e w6 ⟨rfl, hg⟩
  have g6 : Grew w6 (w6.alloc (.cells #[.int .i64 rv, .int .u64 (rc.toNat : Int)] 24)) := by unfold Grew; go_grown
  have G6 := Lib.hid ((G3.out.trans hg).trans g6)
  have R6 : Hid ((w6.alloc (.cells #[.int .i64 rv, .int .u64 (rc.toNat : Int)] 24)).heap[w6.heap.size]? = some (lc rv rc)) := Lib.hid (heap_alloc_new w6 _)
  clear hg g6
  go_wp2_with fail
  refine (HPB.out _ (HE.out _ G6.out)).mono ?_
  rintro e w7 ⟨rfl, hg⟩
  have g7 : Grew w7 (w7.alloc (.cells #[.int .i64 pv, .int .u64 (pc.toNat : Int)] 24)) := by unfold Grew; go_grown
  have HG := Lib.hid ((G6.out.trans hg).trans g7)
  have R0 := keepB (keepB R6.out hg) g7
  have P0 : (w7.alloc (.cells #[.int .i64 pv, .int .u64 (pc.toNat : Int)] 24)).heap[w7.heap.size]? = some (lc pv pc) := heap_alloc_new w7 _
  have HS : Hid (0 < (w7.alloc (.cells #[.int .i64 pv, .int .u64 (pc.toNat : Int)] 24)).heap.size) := Lib.hid (by simp)
  clear hg g7
  go_wp2
  refine Facts.wp_region_text (by kernel_rfl) (by kernel_rfl) ?_
  apply Facts.Lex.exact [] (.bool true) (by kernel_rfl)
  · intro u W hC _
    obtain ⟨x0, x1, _, _⟩ := lab_cells (keepB R0 hC)
    obtain ⟨y0, y1, _, _⟩ := lab_cells (keepB P0 hC)
    unfold Facts.one
    go_simp
    first | exact ⟨Grew.refl _, rfl⟩ | rfl | (refine (alive_any W (HE.out W (HG.out.trans hC))).mono ?_; rintro e w' ⟨rfl, hg⟩; exact ⟨_, rfl, hg, rfl⟩)
  simp only [Act.put, List.setIfInBounds_toArray, List.set_cons_zero, List.set_cons_succ, Nat.reduceAdd]
  apply Facts.Lex.exact [] (.bool true) (by kernel_rfl)
  · intro u W hC _
    obtain ⟨x0, x1, _, _⟩ := lab_cells (keepB R0 hC)
    obtain ⟨y0, y1, _, _⟩ := lab_cells (keepB P0 hC)
    unfold Facts.one
    go_simp
    all_goals first | exact ⟨Grew.refl _, rfl⟩ | rfl
  simp only [Act.put, List.setIfInBounds_toArray, List.set_cons_zero, List.set_cons_succ, Nat.reduceAdd]
  apply Facts.Lex.exact [] (.int .i64 re) (by kernel_rfl)
  · intro u W hC _
    obtain ⟨x0, x1, _, _⟩ := lab_cells (keepB R0 hC)
    obtain ⟨y0, y1, _, _⟩ := lab_cells (keepB P0 hC)
    unfold Facts.one
    go_simp
    all_goals first | exact ⟨Grew.refl _, rfl⟩ | rfl
  simp only [Act.put, List.setIfInBounds_toArray, List.set_cons_zero, List.set_cons_succ, Nat.reduceAdd]
  apply Facts.Lex.exact [] (.bool true) (by kernel_rfl)
  · intro u W hC _
    obtain ⟨x0, x1, _, _⟩ := lab_cells (keepB R0 hC)
    obtain ⟨y0, y1, _, _⟩ := lab_cells (keepB P0 hC)
    unfold Facts.one
    go_simp
    all_goals first | exact ⟨Grew.refl _, rfl⟩ | rfl
  simp only [Act.put, List.setIfInBounds_toArray, List.set_cons_zero, List.set_cons_succ, Nat.reduceAdd]
  apply Facts.Lex.exact [] (.bool true) (by kernel_rfl)
  · intro u W hC _
    obtain ⟨x0, x1, _, _⟩ := lab_cells (keepB R0 hC)
    obtain ⟨y0, y1, _, _⟩ := lab_cells (keepB P0 hC)
    unfold Facts.one
    go_simp
    all_goals first | exact ⟨Grew.refl _, rfl⟩ | rfl
  simp only [Act.put, List.setIfInBounds_toArray, List.set_cons_zero, List.set_cons_succ, Nat.reduceAdd]
  apply Facts.Lex.exact [] (undef) (by kernel_rfl)
  · intro u W hC _
    obtain ⟨x0, x1, _, _⟩ := lab_cells (keepB R0 hC)
    obtain ⟨y0, y1, _, _⟩ := lab_cells (keepB P0 hC)
    unfold Facts.one
    go_simp
    all_goals first | exact ⟨Grew.refl _, rfl⟩ | rfl
  simp only [Act.put, List.setIfInBounds_toArray, List.set_cons_zero, List.set_cons_succ, Nat.reduceAdd]
  apply Facts.Lex.exact [] (undef) (by kernel_rfl)
  · intro u W hC _
    obtain ⟨x0, x1, _, _⟩ := lab_cells (keepB R0 hC)
    obtain ⟨y0, y1, _, _⟩ := lab_cells (keepB P0 hC)
    unfold Facts.one
    go_simp
    all_goals first | exact ⟨Grew.refl _, rfl⟩ | rfl
  simp only [Act.put, List.setIfInBounds_toArray, List.set_cons_zero, List.set_cons_succ, Nat.reduceAdd]
  apply Facts.Lex.exact [] (undef) (by kernel_rfl)
  · intro u W hC _
    obtain ⟨x0, x1, _, _⟩ := lab_cells (keepB R0 hC)
    obtain ⟨y0, y1, _, _⟩ := lab_cells (keepB P0 hC)
    unfold Facts.one
    go_simp
    all_goals first | exact ⟨Grew.refl _, rfl⟩ | rfl
  simp only [Act.put, List.setIfInBounds_toArray, List.set_cons_zero, List.set_cons_succ, Nat.reduceAdd]
  apply Facts.Lex.exact [] (undef) (by kernel_rfl)
  · intro u W hC _
    obtain ⟨x0, x1, _, _⟩ := lab_cells (keepB R0 hC)
    obtain ⟨y0, y1, _, _⟩ := lab_cells (keepB P0 hC)
    unfold Facts.one
    go_simp
    all_goals first | exact ⟨Grew.refl _, rfl⟩ | rfl
  simp only [Act.put, List.setIfInBounds_toArray, List.set_cons_zero, List.set_cons_succ, Nat.reduceAdd]
  apply Facts.Lex.exact [] (undef) (by kernel_rfl)
  · intro u W hC _
    obtain ⟨x0, x1, _, _⟩ := lab_cells (keepB R0 hC)
    obtain ⟨y0, y1, _, _⟩ := lab_cells (keepB P0 hC)
    unfold Facts.one
    go_simp
    all_goals first | exact ⟨Grew.refl _, rfl⟩ | rfl
  simp only [Act.put, List.setIfInBounds_toArray, List.set_cons_zero, List.set_cons_succ, Nat.reduceAdd]
  apply Facts.Lex.exact [] (undef) (by kernel_rfl)
  · intro u W hC _
    obtain ⟨x0, x1, _, _⟩ := lab_cells (keepB R0 hC)
    obtain ⟨y0, y1, _, _⟩ := lab_cells (keepB P0 hC)
    unfold Facts.one
    go_simp
    all_goals first | exact ⟨Grew.refl _, rfl⟩ | rfl
  simp only [Act.put, List.setIfInBounds_toArray, List.set_cons_zero, List.set_cons_succ, Nat.reduceAdd]
  apply Facts.Lex.exact [] (.bool true) (by kernel_rfl)
  · intro u W hC _
    obtain ⟨x0, x1, _, _⟩ := lab_cells (keepB R0 hC)
    obtain ⟨y0, y1, _, _⟩ := lab_cells (keepB P0 hC)
    unfold Facts.one
    go_simp
    all_goals first | exact ⟨Grew.refl _, rfl⟩ | rfl
  simp only [Act.put, List.setIfInBounds_toArray, List.set_cons_zero, List.set_cons_succ, Nat.reduceAdd]
  apply Facts.Lex.exact [] (.bool true) (by kernel_rfl)
  · intro u W hC _
    obtain ⟨x0, x1, _, _⟩ := lab_cells (keepB R0 hC)
    obtain ⟨y0, y1, _, _⟩ := lab_cells (keepB P0 hC)
    unfold Facts.one
    go_simp
    all_goals first | exact ⟨Grew.refl _, rfl⟩ | rfl
  simp only [Act.put, List.setIfInBounds_toArray, List.set_cons_zero, List.set_cons_succ, Nat.reduceAdd]
  apply Facts.Lex.exact [] (.bool true) (by kernel_rfl)
  · intro u W hC _
    obtain ⟨x0, x1, _, _⟩ := lab_cells (keepB R0 hC)
    obtain ⟨y0, y1, _, _⟩ := lab_cells (keepB P0 hC)
    unfold Facts.one
    go_simp
    all_goals first | exact ⟨Grew.refl _, rfl⟩ | rfl
  simp only [Act.put, List.setIfInBounds_toArray, List.set_cons_zero, List.set_cons_succ, Nat.reduceAdd]
  apply Facts.Lex.exact [] (.int .i64 0) (by kernel_rfl)
  · intro u W hC _
    obtain ⟨x0, x1, _, _⟩ := lab_cells (keepB R0 hC)
    obtain ⟨y0, y1, _, _⟩ := lab_cells (keepB P0 hC)
    unfold Facts.one
    go_simp
    all_goals first | exact ⟨Grew.refl _, rfl⟩ | rfl
  simp only [Act.put, List.setIfInBounds_toArray, List.set_cons_zero, List.set_cons_succ, Nat.reduceAdd]
  apply Facts.Lex.exact [] (.bool false) (by kernel_rfl)
  · intro u W hC _
    obtain ⟨x0, x1, _, _⟩ := lab_cells (keepB R0 hC)
    obtain ⟨y0, y1, _, _⟩ := lab_cells (keepB P0 hC)
    unfold Facts.one
    go_simp
    all_goals first | exact ⟨Grew.refl _, rfl⟩ | rfl
  simp only [Act.put, List.setIfInBounds_toArray, List.set_cons_zero, List.set_cons_succ, Nat.reduceAdd]
  apply Facts.Lex.exact [] (.bool false) (by kernel_rfl)
  · intro u W hC _
    obtain ⟨x0, x1, _, _⟩ := lab_cells (keepB R0 hC)
    obtain ⟨y0, y1, _, _⟩ := lab_cells (keepB P0 hC)
    unfold Facts.one
    go_simp
    all_goals first | exact ⟨Grew.refl _, rfl⟩ | rfl
  simp only [Act.put, List.setIfInBounds_toArray, List.set_cons_zero, List.set_cons_succ, Nat.reduceAdd]
  apply Facts.Lex.exact [] (.agg #[.int .i64 pv, .int .u64 (pc.toNat : Int)]) (by kernel_rfl)
  · intro u W hC _
    obtain ⟨x0, x1, _, _⟩ := lab_cells (keepB R0 hC)
    obtain ⟨y0, y1, _, _⟩ := lab_cells (keepB P0 hC)
    unfold Facts.one
    go_simp
    all_goals first | exact ⟨Grew.refl _, rfl⟩ | rfl
  simp only [Act.put, List.setIfInBounds_toArray, List.set_cons_zero, List.set_cons_succ, Nat.reduceAdd]
  apply Facts.Lex.exact [] (.string s) (by kernel_rfl)
  · intro u W hC _
    obtain ⟨x0, x1, _, _⟩ := lab_cells (keepB R0 hC)
    obtain ⟨y0, y1, _, _⟩ := lab_cells (keepB P0 hC)
    unfold Facts.one
    go_simp
    first | exact ⟨Grew.refl _, rfl⟩ | rfl | (refine (HP.out W (HE.out W (HG.out.trans hC)) (by have := hC.size; have := HS.out; omega)).mono ?_; rintro e w' ⟨rfl, hg⟩; exact ⟨_, rfl, hg, rfl⟩)
  simp only [Act.put, List.setIfInBounds_toArray, List.set_cons_zero, List.set_cons_succ, Nat.reduceAdd]
  apply Facts.Lex.exact [] (.string s) (by kernel_rfl)
  · intro u W hC _
    obtain ⟨x0, x1, _, _⟩ := lab_cells (keepB R0 hC)
    obtain ⟨y0, y1, _, _⟩ := lab_cells (keepB P0 hC)
    unfold Facts.one
    go_simp
    all_goals first | exact ⟨Grew.refl _, rfl⟩ | rfl
  simp only [Act.put, List.setIfInBounds_toArray, List.set_cons_zero, List.set_cons_succ, Nat.reduceAdd]
  apply Facts.Lex.exact [] (.bool true) (by kernel_rfl)
  · intro u W hC _
    obtain ⟨x0, x1, _, _⟩ := lab_cells (keepB R0 hC)
    obtain ⟨y0, y1, _, _⟩ := lab_cells (keepB P0 hC)
    unfold Facts.one
    go_simp
    all_goals first | exact ⟨Grew.refl _, rfl⟩ | rfl
  simp only [Act.put, List.setIfInBounds_toArray, List.set_cons_zero, List.set_cons_succ, Nat.reduceAdd]
  apply Facts.Lex.exact [] (.bool true) (by kernel_rfl)
  · intro u W hC _
    obtain ⟨x0, x1, _, _⟩ := lab_cells (keepB R0 hC)
    obtain ⟨y0, y1, _, _⟩ := lab_cells (keepB P0 hC)
    unfold Facts.one
    go_simp
    all_goals first | exact ⟨Grew.refl _, rfl⟩ | rfl
  simp only [Act.put, List.setIfInBounds_toArray, List.set_cons_zero, List.set_cons_succ, Nat.reduceAdd]
  apply Facts.Lex.exact [] (.bool true) (by kernel_rfl)
  · intro u W hC _
    obtain ⟨x0, x1, _, _⟩ := lab_cells (keepB R0 hC)
    obtain ⟨y0, y1, _, _⟩ := lab_cells (keepB P0 hC)
    unfold Facts.one
    go_simp
    all_goals first | exact ⟨Grew.refl _, rfl⟩ | rfl
  simp only [Act.put, List.setIfInBounds_toArray, List.set_cons_zero, List.set_cons_succ, Nat.reduceAdd]
  apply Facts.Lex.exact [] (.bool true) (by kernel_rfl)
  · intro u W hC _
    obtain ⟨x0, x1, _, _⟩ := lab_cells (keepB R0 hC)
    obtain ⟨y0, y1, _, _⟩ := lab_cells (keepB P0 hC)
    unfold Facts.one
    go_simp
    all_goals first | exact ⟨Grew.refl _, rfl⟩ | rfl
  simp only [Act.put, List.setIfInBounds_toArray, List.set_cons_zero, List.set_cons_succ, Nat.reduceAdd]
  refine Facts.Lex.done fun u W2 hC hL => ?_
  have G9 := Lib.hid (HG.out.trans hC)
  clear hC hL R0 P0
  go_wp2
  go_returns
  exact ⟨rfl, G9.out⟩

set_option maxRecDepth 100000 in
set_option maxHeartbeats 4000000 in
theorem law_000 (v : Int) (c : BitVec 64) (vb : Value) (t : List UInt8) (s : ByteArray) {w : World} (hv : may v = false) (hT : Rd (fun _ => True) w vb t) (hs : s.size ≤ 140737488355328) (hE : Env w) (hr0 : (rdE t != 0) = true) (hp0 : (paE s != 0) = true) : Calls Tryd.prog 7 #[.agg #[.int .i64 v, .int .u64 (c.toNat : Int)], vb, .string s] w fun e W' => e = .returned (.bool true) ∧ Grew w W' := by
  have HE : Hid (∀ W, Grew w W → Env W) := Lib.hid fun W hg => hE.grow hg
  have HT := Lib.hid hT
  have HRI := Lib.hid (fun W => right_any v c W)
  have HRB : Hid (∀ W, Grew w W → Calls Tryd.prog 23 #[vb] W fun e W' => e = .returned (.tuple #[.agg #[.int .i64 (rdV t), .int .u64 ((rdC t).toNat : Int)], .int .i64 (rdE t)]) ∧ Grew W W') := Lib.hid fun W hg => read_any vb t W (hT.grew hg)
  have HPB := Lib.hid (fun W hE => parse2_any s hs W hE)
  have HBN := Lib.hid (fun W => bytes_none v c W hv)
  have HPN : Hid (∀ W, Calls Tryd.prog 29 #[.agg #[.int .i64 v, .int .u64 (c.toNat : Int)]] W fun e W' => e = .returned (.string ⟨#[]⟩) ∧ Grew W W') := Lib.hid fun W => print_none v c W hv
  rw [hv] at HRI
  have A0 : Hid ((w.alloc (.cells #[.int .i64 v, .int .u64 (c.toNat : Int)] 24)).heap[w.heap.size]? = some (lc v c)) := Lib.hid (heap_alloc_new w _)
  have G0 : Hid (Grew w (w.alloc (.cells #[.int .i64 v, .int .u64 (c.toNat : Int)] 24))) := Lib.hid (by unfold Grew; go_grown)
  generalize rdV t = rv at *
  generalize rdC t = rc at *
  generalize paV s = pv at *
  generalize paC s = pc at *
  generalize rdE t = re at *
  generalize paE s = pe at *
  clear hT hE hs hv
  obtain ⟨VA, VC, rfl, _⟩ := id HT.out
  go_enter Tryd.func7, Tryd.ntmps7
  go_wp2_with fail
  refine (HRI.out _).mono ?_
  rintro e w1 ⟨rfl, hg⟩
  have A1 := Lib.hid (keepB A0.out hg)
  have G1 := Lib.hid (G0.out.trans hg)
  clear hg
  obtain ⟨a0, a1, _, _⟩ := lab_cells A1.out
  go_wp2_with fail
  refine (HBN.out _).mono ?_
  rintro e w2 ⟨rfl, hg⟩
  have A2 := Lib.hid (keepB A1.out hg)
  have G2 := Lib.hid (G1.out.trans hg)
  clear hg a0 a1
  obtain ⟨a0, a1, _, _⟩ := lab_cells A2.out
  go_wp2_with fail
  refine (HPN.out _).mono ?_
  rintro e w3 ⟨rfl, hg⟩
  have G3 := Lib.hid (G2.out.trans hg)
  clear hg a0 a1
  go_wp2_with fail
  refine (HRB.out _ G3.out).mono ?_
  rintro e w6 ⟨rfl, hg⟩
  have g6 : Grew w6 (w6.alloc (.cells #[.int .i64 rv, .int .u64 (rc.toNat : Int)] 24)) := by unfold Grew; go_grown
  have G6 := Lib.hid ((G3.out.trans hg).trans g6)
  have R6 : Hid ((w6.alloc (.cells #[.int .i64 rv, .int .u64 (rc.toNat : Int)] 24)).heap[w6.heap.size]? = some (lc rv rc)) := Lib.hid (heap_alloc_new w6 _)
  clear hg g6
  go_wp2_with fail
  refine (HPB.out _ (HE.out _ G6.out)).mono ?_
  rintro e w7 ⟨rfl, hg⟩
  have g7 : Grew w7 (w7.alloc (.cells #[.int .i64 pv, .int .u64 (pc.toNat : Int)] 24)) := by unfold Grew; go_grown
  have HG := Lib.hid ((G6.out.trans hg).trans g7)
  have R0 := keepB (keepB R6.out hg) g7
  have P0 : (w7.alloc (.cells #[.int .i64 pv, .int .u64 (pc.toNat : Int)] 24)).heap[w7.heap.size]? = some (lc pv pc) := heap_alloc_new w7 _
  have HS : Hid (0 < (w7.alloc (.cells #[.int .i64 pv, .int .u64 (pc.toNat : Int)] 24)).heap.size) := Lib.hid (by simp)
  clear hg g7
  go_wp2
  refine Facts.wp_region_text (by kernel_rfl) (by kernel_rfl) ?_
  apply Facts.Lex.exact [] (.bool true) (by kernel_rfl)
  · intro u W hC _
    obtain ⟨x0, x1, _, _⟩ := lab_cells (keepB R0 hC)
    obtain ⟨y0, y1, _, _⟩ := lab_cells (keepB P0 hC)
    unfold Facts.one
    go_simp
    first | exact ⟨Grew.refl _, rfl⟩ | rfl | (refine (alive_any W (HE.out W (HG.out.trans hC))).mono ?_; rintro e w' ⟨rfl, hg⟩; exact ⟨_, rfl, hg, rfl⟩)
  simp only [Act.put, List.setIfInBounds_toArray, List.set_cons_zero, List.set_cons_succ, Nat.reduceAdd]
  apply Facts.Lex.exact [] (.bool true) (by kernel_rfl)
  · intro u W hC _
    obtain ⟨x0, x1, _, _⟩ := lab_cells (keepB R0 hC)
    obtain ⟨y0, y1, _, _⟩ := lab_cells (keepB P0 hC)
    unfold Facts.one
    go_simp
    all_goals first | exact ⟨Grew.refl _, rfl⟩ | rfl
  simp only [Act.put, List.setIfInBounds_toArray, List.set_cons_zero, List.set_cons_succ, Nat.reduceAdd]
  apply Facts.Lex.exact [] (.int .i64 re) (by kernel_rfl)
  · intro u W hC _
    obtain ⟨x0, x1, _, _⟩ := lab_cells (keepB R0 hC)
    obtain ⟨y0, y1, _, _⟩ := lab_cells (keepB P0 hC)
    unfold Facts.one
    go_simp
    all_goals first | exact ⟨Grew.refl _, rfl⟩ | rfl
  simp only [Act.put, List.setIfInBounds_toArray, List.set_cons_zero, List.set_cons_succ, Nat.reduceAdd]
  apply Facts.Lex.exact [] (.bool true) (by kernel_rfl)
  · intro u W hC _
    obtain ⟨x0, x1, _, _⟩ := lab_cells (keepB R0 hC)
    obtain ⟨y0, y1, _, _⟩ := lab_cells (keepB P0 hC)
    unfold Facts.one
    go_simp
    all_goals first | exact ⟨Grew.refl _, rfl⟩ | rfl
  simp only [Act.put, List.setIfInBounds_toArray, List.set_cons_zero, List.set_cons_succ, Nat.reduceAdd]
  apply Facts.Lex.exact [] (.bool true) (by kernel_rfl)
  · intro u W hC _
    obtain ⟨x0, x1, _, _⟩ := lab_cells (keepB R0 hC)
    obtain ⟨y0, y1, _, _⟩ := lab_cells (keepB P0 hC)
    unfold Facts.one
    go_simp
    all_goals first | exact ⟨Grew.refl _, rfl⟩ | rfl
  simp only [Act.put, List.setIfInBounds_toArray, List.set_cons_zero, List.set_cons_succ, Nat.reduceAdd]
  apply Facts.Lex.exact [] (undef) (by kernel_rfl)
  · intro u W hC _
    obtain ⟨x0, x1, _, _⟩ := lab_cells (keepB R0 hC)
    obtain ⟨y0, y1, _, _⟩ := lab_cells (keepB P0 hC)
    unfold Facts.one
    go_simp
    all_goals first | exact ⟨Grew.refl _, rfl⟩ | rfl
  simp only [Act.put, List.setIfInBounds_toArray, List.set_cons_zero, List.set_cons_succ, Nat.reduceAdd]
  apply Facts.Lex.exact [] (undef) (by kernel_rfl)
  · intro u W hC _
    obtain ⟨x0, x1, _, _⟩ := lab_cells (keepB R0 hC)
    obtain ⟨y0, y1, _, _⟩ := lab_cells (keepB P0 hC)
    unfold Facts.one
    go_simp
    all_goals first | exact ⟨Grew.refl _, rfl⟩ | rfl
  simp only [Act.put, List.setIfInBounds_toArray, List.set_cons_zero, List.set_cons_succ, Nat.reduceAdd]
  apply Facts.Lex.exact [] (undef) (by kernel_rfl)
  · intro u W hC _
    obtain ⟨x0, x1, _, _⟩ := lab_cells (keepB R0 hC)
    obtain ⟨y0, y1, _, _⟩ := lab_cells (keepB P0 hC)
    unfold Facts.one
    go_simp
    all_goals first | exact ⟨Grew.refl _, rfl⟩ | rfl
  simp only [Act.put, List.setIfInBounds_toArray, List.set_cons_zero, List.set_cons_succ, Nat.reduceAdd]
  apply Facts.Lex.exact [] (undef) (by kernel_rfl)
  · intro u W hC _
    obtain ⟨x0, x1, _, _⟩ := lab_cells (keepB R0 hC)
    obtain ⟨y0, y1, _, _⟩ := lab_cells (keepB P0 hC)
    unfold Facts.one
    go_simp
    all_goals first | exact ⟨Grew.refl _, rfl⟩ | rfl
  simp only [Act.put, List.setIfInBounds_toArray, List.set_cons_zero, List.set_cons_succ, Nat.reduceAdd]
  apply Facts.Lex.exact [] (undef) (by kernel_rfl)
  · intro u W hC _
    obtain ⟨x0, x1, _, _⟩ := lab_cells (keepB R0 hC)
    obtain ⟨y0, y1, _, _⟩ := lab_cells (keepB P0 hC)
    unfold Facts.one
    go_simp
    all_goals first | exact ⟨Grew.refl _, rfl⟩ | rfl
  simp only [Act.put, List.setIfInBounds_toArray, List.set_cons_zero, List.set_cons_succ, Nat.reduceAdd]
  apply Facts.Lex.exact [] (undef) (by kernel_rfl)
  · intro u W hC _
    obtain ⟨x0, x1, _, _⟩ := lab_cells (keepB R0 hC)
    obtain ⟨y0, y1, _, _⟩ := lab_cells (keepB P0 hC)
    unfold Facts.one
    go_simp
    all_goals first | exact ⟨Grew.refl _, rfl⟩ | rfl
  simp only [Act.put, List.setIfInBounds_toArray, List.set_cons_zero, List.set_cons_succ, Nat.reduceAdd]
  apply Facts.Lex.exact [] (.bool true) (by kernel_rfl)
  · intro u W hC _
    obtain ⟨x0, x1, _, _⟩ := lab_cells (keepB R0 hC)
    obtain ⟨y0, y1, _, _⟩ := lab_cells (keepB P0 hC)
    unfold Facts.one
    go_simp
    all_goals first | exact ⟨Grew.refl _, rfl⟩ | rfl
  simp only [Act.put, List.setIfInBounds_toArray, List.set_cons_zero, List.set_cons_succ, Nat.reduceAdd]
  apply Facts.Lex.exact [] (.bool true) (by kernel_rfl)
  · intro u W hC _
    obtain ⟨x0, x1, _, _⟩ := lab_cells (keepB R0 hC)
    obtain ⟨y0, y1, _, _⟩ := lab_cells (keepB P0 hC)
    unfold Facts.one
    go_simp
    all_goals first | exact ⟨Grew.refl _, rfl⟩ | rfl
  simp only [Act.put, List.setIfInBounds_toArray, List.set_cons_zero, List.set_cons_succ, Nat.reduceAdd]
  apply Facts.Lex.exact [] (.bool true) (by kernel_rfl)
  · intro u W hC _
    obtain ⟨x0, x1, _, _⟩ := lab_cells (keepB R0 hC)
    obtain ⟨y0, y1, _, _⟩ := lab_cells (keepB P0 hC)
    unfold Facts.one
    go_simp
    all_goals first | exact ⟨Grew.refl _, rfl⟩ | rfl
  simp only [Act.put, List.setIfInBounds_toArray, List.set_cons_zero, List.set_cons_succ, Nat.reduceAdd]
  apply Facts.Lex.exact [] (.int .i64 pe) (by kernel_rfl)
  · intro u W hC _
    obtain ⟨x0, x1, _, _⟩ := lab_cells (keepB R0 hC)
    obtain ⟨y0, y1, _, _⟩ := lab_cells (keepB P0 hC)
    unfold Facts.one
    go_simp
    all_goals first | exact ⟨Grew.refl _, rfl⟩ | rfl
  simp only [Act.put, List.setIfInBounds_toArray, List.set_cons_zero, List.set_cons_succ, Nat.reduceAdd]
  apply Facts.Lex.exact [] (.bool true) (by kernel_rfl)
  · intro u W hC _
    obtain ⟨x0, x1, _, _⟩ := lab_cells (keepB R0 hC)
    obtain ⟨y0, y1, _, _⟩ := lab_cells (keepB P0 hC)
    unfold Facts.one
    go_simp
    all_goals first | exact ⟨Grew.refl _, rfl⟩ | rfl
  simp only [Act.put, List.setIfInBounds_toArray, List.set_cons_zero, List.set_cons_succ, Nat.reduceAdd]
  apply Facts.Lex.exact [] (.bool true) (by kernel_rfl)
  · intro u W hC _
    obtain ⟨x0, x1, _, _⟩ := lab_cells (keepB R0 hC)
    obtain ⟨y0, y1, _, _⟩ := lab_cells (keepB P0 hC)
    unfold Facts.one
    go_simp
    all_goals first | exact ⟨Grew.refl _, rfl⟩ | rfl
  simp only [Act.put, List.setIfInBounds_toArray, List.set_cons_zero, List.set_cons_succ, Nat.reduceAdd]
  apply Facts.Lex.exact [] (undef) (by kernel_rfl)
  · intro u W hC _
    obtain ⟨x0, x1, _, _⟩ := lab_cells (keepB R0 hC)
    obtain ⟨y0, y1, _, _⟩ := lab_cells (keepB P0 hC)
    unfold Facts.one
    go_simp
    all_goals first | exact ⟨Grew.refl _, rfl⟩ | rfl
  simp only [Act.put, List.setIfInBounds_toArray, List.set_cons_zero, List.set_cons_succ, Nat.reduceAdd]
  apply Facts.Lex.exact [] (undef) (by kernel_rfl)
  · intro u W hC _
    obtain ⟨x0, x1, _, _⟩ := lab_cells (keepB R0 hC)
    obtain ⟨y0, y1, _, _⟩ := lab_cells (keepB P0 hC)
    unfold Facts.one
    go_simp
    all_goals first | exact ⟨Grew.refl _, rfl⟩ | rfl
  simp only [Act.put, List.setIfInBounds_toArray, List.set_cons_zero, List.set_cons_succ, Nat.reduceAdd]
  apply Facts.Lex.exact [] (undef) (by kernel_rfl)
  · intro u W hC _
    obtain ⟨x0, x1, _, _⟩ := lab_cells (keepB R0 hC)
    obtain ⟨y0, y1, _, _⟩ := lab_cells (keepB P0 hC)
    unfold Facts.one
    go_simp
    all_goals first | exact ⟨Grew.refl _, rfl⟩ | rfl
  simp only [Act.put, List.setIfInBounds_toArray, List.set_cons_zero, List.set_cons_succ, Nat.reduceAdd]
  apply Facts.Lex.exact [] (undef) (by kernel_rfl)
  · intro u W hC _
    obtain ⟨x0, x1, _, _⟩ := lab_cells (keepB R0 hC)
    obtain ⟨y0, y1, _, _⟩ := lab_cells (keepB P0 hC)
    unfold Facts.one
    go_simp
    all_goals first | exact ⟨Grew.refl _, rfl⟩ | rfl
  simp only [Act.put, List.setIfInBounds_toArray, List.set_cons_zero, List.set_cons_succ, Nat.reduceAdd]
  apply Facts.Lex.exact [] (.bool true) (by kernel_rfl)
  · intro u W hC _
    obtain ⟨x0, x1, _, _⟩ := lab_cells (keepB R0 hC)
    obtain ⟨y0, y1, _, _⟩ := lab_cells (keepB P0 hC)
    unfold Facts.one
    go_simp
    all_goals first | exact ⟨Grew.refl _, rfl⟩ | rfl
  simp only [Act.put, List.setIfInBounds_toArray, List.set_cons_zero, List.set_cons_succ, Nat.reduceAdd]
  apply Facts.Lex.exact [] (.bool true) (by kernel_rfl)
  · intro u W hC _
    obtain ⟨x0, x1, _, _⟩ := lab_cells (keepB R0 hC)
    obtain ⟨y0, y1, _, _⟩ := lab_cells (keepB P0 hC)
    unfold Facts.one
    go_simp
    all_goals first | exact ⟨Grew.refl _, rfl⟩ | rfl
  simp only [Act.put, List.setIfInBounds_toArray, List.set_cons_zero, List.set_cons_succ, Nat.reduceAdd]
  apply Facts.Lex.exact [] (.bool true) (by kernel_rfl)
  · intro u W hC _
    obtain ⟨x0, x1, _, _⟩ := lab_cells (keepB R0 hC)
    obtain ⟨y0, y1, _, _⟩ := lab_cells (keepB P0 hC)
    unfold Facts.one
    go_simp
    all_goals first | exact ⟨Grew.refl _, rfl⟩ | rfl
  simp only [Act.put, List.setIfInBounds_toArray, List.set_cons_zero, List.set_cons_succ, Nat.reduceAdd]
  refine Facts.Lex.done fun u W2 hC hL => ?_
  have G9 := Lib.hid (HG.out.trans hC)
  clear hC hL R0 P0
  go_wp2
  go_returns
  exact ⟨rfl, G9.out⟩

theorem law_any (v : Int) (c : BitVec 64) (vb : Value) (t : List UInt8) (s : ByteArray) (w : World) (hT : Rd (fun _ => True) w vb t) (hs : s.size ≤ 140737488355328) (hE : Env w) : Calls Tryd.prog 7 #[.agg #[.int .i64 v, .int .u64 (c.toNat : Int)], vb, .string s] w fun e W' => e = .returned (.bool true) ∧ Grew w W' := by
  rcases rdE_cases t with ⟨r0, r1⟩ | ⟨r0, _⟩
  · rcases paE_cases s with ⟨p0, p1⟩ | p0
    · cases hv : may v with
      | true => exact law_111 v c vb t s hv hT hs hE r0 r1 p0 p1
      | false => exact law_011 v c vb t s hv hT hs hE r0 r1 p0 p1
    · cases hv : may v with
      | true => exact law_110 v c vb t s hv hT hs hE r0 r1 p0
      | false => exact law_010 v c vb t s hv hT hs hE r0 r1 p0
  · rcases paE_cases s with ⟨p0, p1⟩ | p0
    · cases hv : may v with
      | true => exact law_101 v c vb t s hv hT hs hE r0 p0 p1
      | false => exact law_001 v c vb t s hv hT hs hE r0 p0 p1
    · cases hv : may v with
      | true => exact law_100 v c vb t s hv hT hs hE r0 p0
      | false => exact law_000 v c vb t s hv hT hs hE r0 p0
end Go.Proofs.YtekodmnhheejkaaDoor.BackLaw
