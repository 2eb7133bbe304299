/-
  What is read and told of any label, any bytes and any text is what the document asks: LabelReads answers true.
  Conditions: the library's variables lie as the program's text lays them; a text's size.
-/
import Derived.Test.YtekodmnhheejkaaDoorRparse
import Derived.Test.YtekodmnhheejkaaDoorRefs6
namespace Go.Proofs.YtekodmnhheejkaaDoor.ReadsLaw
open Go Go.RowKit Go.Lib Go.Proofs.YtekodmnhheejkaaDoor Go.Proofs.YtekodmnhheejkaaDoor.Facts Go.Proofs.YtekodmnhheejkaaDoor.Plain Go.Proofs.YtekodmnhheejkaaDoor.Bytes Go.Proofs.YtekodmnhheejkaaDoor.Form Go.Proofs.YtekodmnhheejkaaDoor.Print Go.Proofs.YtekodmnhheejkaaDoor.Text Go.Proofs.YtekodmnhheejkaaDoor.Each Go.Proofs.YtekodmnhheejkaaDoor.Comps Go.Proofs.YtekodmnhheejkaaDoor.Parse Go.Proofs.YtekodmnhheejkaaDoor.Alive Go.Proofs.YtekodmnhheejkaaDoor.BackLaw Go.Proofs.YtekodmnhheejkaaDoor.Rparse Go.Proofs.YtekodmnhheejkaaDoor.Refs5 Go.Proofs.YtekodmnhheejkaaDoor.Refs6
open _root_.Go.Proofs.YtekodmnhheejkaaDoor.Refs (keepB cellB)
open _root_.Go.Proofs.YtekodmnhheejkaaDoor.Refs2 (lc)

set_option maxRecDepth 100000 in
set_option maxHeartbeats 4000000 in
theorem law_any (v : Int) (c : BitVec 64) (vb : Value) (t : List UInt8) (s : ByteArray) (w : World) (hT : Rd (fun _ => True) w vb t) (hs : s.size ≤ 1048576) (hE : Env w) : Calls Tryd.prog 4 #[.agg #[.int .i64 v, .int .u64 (c.toNat : Int)], vb, .string s] w fun e W' => e = .returned (.bool true) ∧ Grew w W' := by
  have HE : Hid (∀ W, Grew w W → Env W) := Lib.hid fun W hg => hE.grow hg
  have HR1 : Hid (∀ W, Grew w W → Calls Tryd.prog 23 #[vb] W fun e W' => e = .returned (.tuple #[.agg #[.int .i64 (rdV t), .int .u64 ((rdC t).toNat : Int)], .int .i64 (rdE t)]) ∧ Grew W W') := Lib.hid fun W hg => read_any vb t W (hT.grew hg)
  have HR2 : Hid (∀ W, Grew w W → Calls Tryd.prog 24 #[vb] W fun e W' => e = .returned (.tuple #[.agg #[.int .i64 (rdV t), .int .u64 ((rdC t).toNat : Int)], .int .i64 (rdE t)]) ∧ Grew W W') := Lib.hid fun W hg => rread_any vb t W (hT.grew hg)
  have HP1 := Lib.hid (fun W hE => parse2_any s (by omega) W hE)
  have HP2 := Lib.hid (fun W => rparse_any s hs W)
  have HB1 : Hid (∀ W, Calls Tryd.prog 27 #[.agg #[.int .i64 v, .int .u64 (c.toNat : Int)]] W fun e W' => ∃ v', e = .returned v' ∧ Rd (fun b => W.heap.size ≤ b) W' v' (form v c) ∧ Grew W W') := Lib.hid fun W => form_any v c W
  have HB2 := Lib.hid (fun W => rbytes_any v c W)
  have HQ1 : Hid (∀ W, Env W → 0 < W.heap.size → Calls Tryd.prog 29 #[.agg #[.int .i64 v, .int .u64 (c.toNat : Int)]] W fun e W' => e = .returned (.string (print v c)) ∧ Grew W W') := Lib.hid fun W hE hs => print_any v c W hs hE.tab
  have HQ2 := Lib.hid (fun W => rprint_any v c W)
  have A0 : Hid ((w.alloc (.cells #[.int .i64 v, .int .u64 (c.toNat : Int)] 24)).heap[w.heap.size]? = some (lc v c)) := Lib.hid (heap_alloc_new w _)
  have G0 : Hid (Grew w (w.alloc (.cells #[.int .i64 v, .int .u64 (c.toNat : Int)] 24))) := Lib.hid (by unfold Grew; go_grown)
  generalize print v c = pr at *
  generalize form v c = fm at *
  generalize rdV t = rv at *
  generalize rdC t = rc at *
  generalize rdE t = re at *
  generalize paV s = pv at *
  generalize paC s = pc at *
  generalize paE s = pe at *
  clear hE hs
  obtain ⟨VA, VC, rfl, _⟩ := id hT
  clear hT
  go_enter Tryd.func4, Tryd.ntmps4
  go_wp2_with fail
  refine (HR1.out _ G0.out).mono ?_
  rintro e w1 ⟨rfl, hg⟩
  have g1 : Grew w1 (w1.alloc (.cells #[.int .i64 rv, .int .u64 (rc.toNat : Int)] 24)) := by unfold Grew; go_grown
  have A1 := Lib.hid (keepB (keepB A0.out hg) g1)
  have G1 := Lib.hid ((G0.out.trans hg).trans g1)
  have B1 : Hid ((w1.alloc (.cells #[.int .i64 rv, .int .u64 (rc.toNat : Int)] 24)).heap[w1.heap.size]? = some (lc rv rc)) := Lib.hid (heap_alloc_new w1 _)
  clear hg g1
  go_wp2_with fail
  refine (HR2.out _ G1.out).mono ?_
  rintro e w2 ⟨rfl, hg⟩
  have g2 : Grew w2 (w2.alloc (.cells #[.int .i64 rv, .int .u64 (rc.toNat : Int)] 24)) := by unfold Grew; go_grown
  have A2 := Lib.hid (keepB (keepB A1.out hg) g2)
  have B2 := Lib.hid (keepB (keepB B1.out hg) g2)
  have G2 := Lib.hid ((G1.out.trans hg).trans g2)
  have C2 : Hid ((w2.alloc (.cells #[.int .i64 rv, .int .u64 (rc.toNat : Int)] 24)).heap[w2.heap.size]? = some (lc rv rc)) := Lib.hid (heap_alloc_new w2 _)
  clear hg g2
  go_wp2_with fail
  refine (HP1.out _ (HE.out _ G2.out)).mono ?_
  rintro e w3 ⟨rfl, hg⟩
  have g3 : Grew w3 (w3.alloc (.cells #[.int .i64 pv, .int .u64 (pc.toNat : Int)] 24)) := by unfold Grew; go_grown
  have A3 := Lib.hid (keepB (keepB A2.out hg) g3)
  have B3 := Lib.hid (keepB (keepB B2.out hg) g3)
  have C3 := Lib.hid (keepB (keepB C2.out hg) g3)
  have G3 := Lib.hid ((G2.out.trans hg).trans g3)
  have D3 : Hid ((w3.alloc (.cells #[.int .i64 pv, .int .u64 (pc.toNat : Int)] 24)).heap[w3.heap.size]? = some (lc pv pc)) := Lib.hid (heap_alloc_new w3 _)
  clear hg g3
  go_wp2_with fail
  refine (HP2.out _).mono ?_
  rintro e w4 ⟨rfl, hg⟩
  have g4 : Grew w4 (w4.alloc (.cells #[.int .i64 pv, .int .u64 (pc.toNat : Int)] 24)) := by unfold Grew; go_grown
  have A4 := Lib.hid (keepB (keepB A3.out hg) g4)
  have B4 := Lib.hid (keepB (keepB B3.out hg) g4)
  have C4 := Lib.hid (keepB (keepB C3.out hg) g4)
  have D4 := Lib.hid (keepB (keepB D3.out hg) g4)
  have G4 := Lib.hid ((G3.out.trans hg).trans g4)
  have E4 : Hid ((w4.alloc (.cells #[.int .i64 pv, .int .u64 (pc.toNat : Int)] 24)).heap[w4.heap.size]? = some (lc pv pc)) := Lib.hid (heap_alloc_new w4 _)
  clear hg g4
  have R0 := A4.out
  have R1 := B4.out
  have R2 := C4.out
  have R3 := D4.out
  have R4 := E4.out
  have HG := G4
  have HS : Hid (0 < (w4.alloc (.cells #[.int .i64 pv, .int .u64 (pc.toNat : Int)] 24)).heap.size) := Lib.hid (by simp)
  clear A0 A1 A2 A3 A4 B1 B2 B3 B4 C2 C3 C4 D3 D4 E4
  go_wp2
  refine Facts.wp_region_text (by kernel_rfl) (by kernel_rfl) ?_
  apply Facts.Lex.exact [] (.bool true) (by kernel_rfl)
  · intro u W hC _
    obtain ⟨a0, a1, _, _⟩ := lab_cells (keepB R0 hC)
    obtain ⟨b0, b1, _, _⟩ := lab_cells (keepB R1 hC)
    obtain ⟨d0, d1, _, _⟩ := lab_cells (keepB R2 hC)
    obtain ⟨e0, e1, _, _⟩ := lab_cells (keepB R3 hC)
    obtain ⟨f0, f1, _, _⟩ := lab_cells (keepB R4 hC)
    unfold Facts.one
    go_simp
    first | exact ⟨Grew.refl _, rfl⟩ | rfl | (refine (alive_any W (HE.out W (HG.out.trans hC))).mono ?_; rintro e w' ⟨rfl, hg⟩; exact ⟨_, rfl, hg, rfl⟩)
  simp only [Act.put, List.setIfInBounds_toArray, List.set_cons_zero, List.set_cons_succ, Nat.reduceAdd]
  apply Facts.Lex.exact [] (.bool true) (by kernel_rfl)
  · intro u W hC _
    obtain ⟨a0, a1, _, _⟩ := lab_cells (keepB R0 hC)
    obtain ⟨b0, b1, _, _⟩ := lab_cells (keepB R1 hC)
    obtain ⟨d0, d1, _, _⟩ := lab_cells (keepB R2 hC)
    obtain ⟨e0, e1, _, _⟩ := lab_cells (keepB R3 hC)
    obtain ⟨f0, f1, _, _⟩ := lab_cells (keepB R4 hC)
    unfold Facts.one
    go_simp
    all_goals first | exact ⟨Grew.refl _, rfl⟩ | rfl
  simp only [Act.put, List.setIfInBounds_toArray, List.set_cons_zero, List.set_cons_succ, Nat.reduceAdd]
  apply Facts.Lex.exact [] (.agg #[.int .i64 v, .int .u64 (c.toNat : Int)]) (by kernel_rfl)
  · intro u W hC _
    obtain ⟨a0, a1, _, _⟩ := lab_cells (keepB R0 hC)
    obtain ⟨b0, b1, _, _⟩ := lab_cells (keepB R1 hC)
    obtain ⟨d0, d1, _, _⟩ := lab_cells (keepB R2 hC)
    obtain ⟨e0, e1, _, _⟩ := lab_cells (keepB R3 hC)
    obtain ⟨f0, f1, _, _⟩ := lab_cells (keepB R4 hC)
    unfold Facts.one
    go_simp
    all_goals first | exact ⟨Grew.refl _, rfl⟩ | rfl
  simp only [Act.put, List.setIfInBounds_toArray, List.set_cons_zero, List.set_cons_succ, Nat.reduceAdd]
  refine Facts.Lex.know [] (fun x W => Rd (fun _ => True) W x fm) (by kernel_rfl) (fun _ _ _ h hg => h.grew hg) ?_ ?_
  · intro u W hC _
    unfold Facts.one
    go_simp
    refine (HB1.out W).mono ?_
    rintro e w' ⟨x, rfl, hr, hg⟩
    exact ⟨_, rfl, hg, hr.mono fun _ _ => trivial⟩
  simp only [Act.put, List.setIfInBounds_toArray, List.set_cons_zero, List.set_cons_succ, Nat.reduceAdd]
  apply Facts.Lex.exact [3] (.string ⟨fm.toArray⟩) (by kernel_rfl)
  · intro u W hC hK
    have h6 : Rd (fun _ => True) W (u 3) fm := hK.1
    have hcv := conv h6
    unfold Facts.one
    go_simp
    all_goals first | exact ⟨Grew.refl _, rfl⟩ | rfl
  simp only [Act.put, List.setIfInBounds_toArray, List.set_cons_zero, List.set_cons_succ, Nat.reduceAdd]
  apply Facts.Lex.exact [] (.agg #[.int .i64 v, .int .u64 (c.toNat : Int)]) (by kernel_rfl)
  · intro u W hC _
    obtain ⟨a0, a1, _, _⟩ := lab_cells (keepB R0 hC)
    obtain ⟨b0, b1, _, _⟩ := lab_cells (keepB R1 hC)
    obtain ⟨d0, d1, _, _⟩ := lab_cells (keepB R2 hC)
    obtain ⟨e0, e1, _, _⟩ := lab_cells (keepB R3 hC)
    obtain ⟨f0, f1, _, _⟩ := lab_cells (keepB R4 hC)
    unfold Facts.one
    go_simp
    all_goals first | exact ⟨Grew.refl _, rfl⟩ | rfl
  simp only [Act.put, List.setIfInBounds_toArray, List.set_cons_zero, List.set_cons_succ, Nat.reduceAdd]
  refine Facts.Lex.know [] (fun x W => Rd (fun _ => True) W x fm) (by kernel_rfl) (fun _ _ _ h hg => h.grew hg) ?_ ?_
  · intro u W hC _
    unfold Facts.one
    go_simp
    refine (HB2.out W).mono ?_
    rintro e w' ⟨x, rfl, hr, hg⟩
    exact ⟨_, rfl, hg, hr.mono fun _ _ => trivial⟩
  simp only [Act.put, List.setIfInBounds_toArray, List.set_cons_zero, List.set_cons_succ, Nat.reduceAdd]
  apply Facts.Lex.exact [6] (.string ⟨fm.toArray⟩) (by kernel_rfl)
  · intro u W hC hK
    have h6 : Rd (fun _ => True) W (u 6) fm := hK.1
    have hcv := conv h6
    unfold Facts.one
    go_simp
    all_goals first | exact ⟨Grew.refl _, rfl⟩ | rfl
  simp only [Act.put, List.setIfInBounds_toArray, List.set_cons_zero, List.set_cons_succ, Nat.reduceAdd]
  apply Facts.Lex.exact [] (.bool true) (by kernel_rfl)
  · intro u W hC _
    obtain ⟨a0, a1, _, _⟩ := lab_cells (keepB R0 hC)
    obtain ⟨b0, b1, _, _⟩ := lab_cells (keepB R1 hC)
    obtain ⟨d0, d1, _, _⟩ := lab_cells (keepB R2 hC)
    obtain ⟨e0, e1, _, _⟩ := lab_cells (keepB R3 hC)
    obtain ⟨f0, f1, _, _⟩ := lab_cells (keepB R4 hC)
    unfold Facts.one
    go_simp
    all_goals first | exact ⟨Grew.refl _, rfl⟩ | rfl
  simp only [Act.put, List.setIfInBounds_toArray, List.set_cons_zero, List.set_cons_succ, Nat.reduceAdd]
  apply Facts.Lex.exact [] (.bool true) (by kernel_rfl)
  · intro u W hC _
    obtain ⟨a0, a1, _, _⟩ := lab_cells (keepB R0 hC)
    obtain ⟨b0, b1, _, _⟩ := lab_cells (keepB R1 hC)
    obtain ⟨d0, d1, _, _⟩ := lab_cells (keepB R2 hC)
    obtain ⟨e0, e1, _, _⟩ := lab_cells (keepB R3 hC)
    obtain ⟨f0, f1, _, _⟩ := lab_cells (keepB R4 hC)
    unfold Facts.one
    go_simp
    all_goals first | exact ⟨Grew.refl _, rfl⟩ | rfl
  simp only [Act.put, List.setIfInBounds_toArray, List.set_cons_zero, List.set_cons_succ, Nat.reduceAdd]
  apply Facts.Lex.exact [] (.bool true) (by kernel_rfl)
  · intro u W hC _
    obtain ⟨a0, a1, _, _⟩ := lab_cells (keepB R0 hC)
    obtain ⟨b0, b1, _, _⟩ := lab_cells (keepB R1 hC)
    obtain ⟨d0, d1, _, _⟩ := lab_cells (keepB R2 hC)
    obtain ⟨e0, e1, _, _⟩ := lab_cells (keepB R3 hC)
    obtain ⟨f0, f1, _, _⟩ := lab_cells (keepB R4 hC)
    unfold Facts.one
    go_simp
    all_goals first | exact ⟨Grew.refl _, rfl⟩ | rfl
  simp only [Act.put, List.setIfInBounds_toArray, List.set_cons_zero, List.set_cons_succ, Nat.reduceAdd]
  apply Facts.Lex.exact [] (.agg #[.int .i64 v, .int .u64 (c.toNat : Int)]) (by kernel_rfl)
  · intro u W hC _
    obtain ⟨a0, a1, _, _⟩ := lab_cells (keepB R0 hC)
    obtain ⟨b0, b1, _, _⟩ := lab_cells (keepB R1 hC)
    obtain ⟨d0, d1, _, _⟩ := lab_cells (keepB R2 hC)
    obtain ⟨e0, e1, _, _⟩ := lab_cells (keepB R3 hC)
    obtain ⟨f0, f1, _, _⟩ := lab_cells (keepB R4 hC)
    unfold Facts.one
    go_simp
    all_goals first | exact ⟨Grew.refl _, rfl⟩ | rfl
  simp only [Act.put, List.setIfInBounds_toArray, List.set_cons_zero, List.set_cons_succ, Nat.reduceAdd]
  apply Facts.Lex.exact [] (.string pr) (by kernel_rfl)
  · intro u W hC _
    obtain ⟨a0, a1, _, _⟩ := lab_cells (keepB R0 hC)
    obtain ⟨b0, b1, _, _⟩ := lab_cells (keepB R1 hC)
    obtain ⟨d0, d1, _, _⟩ := lab_cells (keepB R2 hC)
    obtain ⟨e0, e1, _, _⟩ := lab_cells (keepB R3 hC)
    obtain ⟨f0, f1, _, _⟩ := lab_cells (keepB R4 hC)
    unfold Facts.one
    go_simp
    first | exact ⟨Grew.refl _, rfl⟩ | rfl | (refine (HQ1.out W (HE.out W (HG.out.trans hC)) (by have := hC.size; have := HS.out; omega)).mono ?_; rintro e w' ⟨rfl, hg⟩; exact ⟨_, rfl, hg, rfl⟩)
  simp only [Act.put, List.setIfInBounds_toArray, List.set_cons_zero, List.set_cons_succ, Nat.reduceAdd]
  apply Facts.Lex.exact [] (.agg #[.int .i64 v, .int .u64 (c.toNat : Int)]) (by kernel_rfl)
  · intro u W hC _
    obtain ⟨a0, a1, _, _⟩ := lab_cells (keepB R0 hC)
    obtain ⟨b0, b1, _, _⟩ := lab_cells (keepB R1 hC)
    obtain ⟨d0, d1, _, _⟩ := lab_cells (keepB R2 hC)
    obtain ⟨e0, e1, _, _⟩ := lab_cells (keepB R3 hC)
    obtain ⟨f0, f1, _, _⟩ := lab_cells (keepB R4 hC)
    unfold Facts.one
    go_simp
    all_goals first | exact ⟨Grew.refl _, rfl⟩ | rfl
  simp only [Act.put, List.setIfInBounds_toArray, List.set_cons_zero, List.set_cons_succ, Nat.reduceAdd]
  apply Facts.Lex.exact [] (.string pr) (by kernel_rfl)
  · intro u W hC _
    obtain ⟨a0, a1, _, _⟩ := lab_cells (keepB R0 hC)
    obtain ⟨b0, b1, _, _⟩ := lab_cells (keepB R1 hC)
    obtain ⟨d0, d1, _, _⟩ := lab_cells (keepB R2 hC)
    obtain ⟨e0, e1, _, _⟩ := lab_cells (keepB R3 hC)
    obtain ⟨f0, f1, _, _⟩ := lab_cells (keepB R4 hC)
    unfold Facts.one
    go_simp
    first | exact ⟨Grew.refl _, rfl⟩ | rfl | (refine (HQ2.out W).mono ?_; rintro e w' ⟨rfl, hg⟩; exact ⟨_, rfl, hg, rfl⟩)
  simp only [Act.put, List.setIfInBounds_toArray, List.set_cons_zero, List.set_cons_succ, Nat.reduceAdd]
  apply Facts.Lex.exact [] (.bool true) (by kernel_rfl)
  · intro u W hC _
    obtain ⟨a0, a1, _, _⟩ := lab_cells (keepB R0 hC)
    obtain ⟨b0, b1, _, _⟩ := lab_cells (keepB R1 hC)
    obtain ⟨d0, d1, _, _⟩ := lab_cells (keepB R2 hC)
    obtain ⟨e0, e1, _, _⟩ := lab_cells (keepB R3 hC)
    obtain ⟨f0, f1, _, _⟩ := lab_cells (keepB R4 hC)
    unfold Facts.one
    go_simp
    all_goals first | exact ⟨Grew.refl _, rfl⟩ | rfl
  simp only [Act.put, List.setIfInBounds_toArray, List.set_cons_zero, List.set_cons_succ, Nat.reduceAdd]
  apply Facts.Lex.exact [] (.bool true) (by kernel_rfl)
  · intro u W hC _
    obtain ⟨a0, a1, _, _⟩ := lab_cells (keepB R0 hC)
    obtain ⟨b0, b1, _, _⟩ := lab_cells (keepB R1 hC)
    obtain ⟨d0, d1, _, _⟩ := lab_cells (keepB R2 hC)
    obtain ⟨e0, e1, _, _⟩ := lab_cells (keepB R3 hC)
    obtain ⟨f0, f1, _, _⟩ := lab_cells (keepB R4 hC)
    unfold Facts.one
    go_simp
    all_goals first | exact ⟨Grew.refl _, rfl⟩ | rfl
  simp only [Act.put, List.setIfInBounds_toArray, List.set_cons_zero, List.set_cons_succ, Nat.reduceAdd]
  apply Facts.Lex.exact [] (.bool true) (by kernel_rfl)
  · intro u W hC _
    obtain ⟨a0, a1, _, _⟩ := lab_cells (keepB R0 hC)
    obtain ⟨b0, b1, _, _⟩ := lab_cells (keepB R1 hC)
    obtain ⟨d0, d1, _, _⟩ := lab_cells (keepB R2 hC)
    obtain ⟨e0, e1, _, _⟩ := lab_cells (keepB R3 hC)
    obtain ⟨f0, f1, _, _⟩ := lab_cells (keepB R4 hC)
    unfold Facts.one
    go_simp
    all_goals first | exact ⟨Grew.refl _, rfl⟩ | rfl
  simp only [Act.put, List.setIfInBounds_toArray, List.set_cons_zero, List.set_cons_succ, Nat.reduceAdd]
  apply Facts.Lex.exact [] (.agg #[.int .i64 rv, .int .u64 (rc.toNat : Int)]) (by kernel_rfl)
  · intro u W hC _
    obtain ⟨a0, a1, _, _⟩ := lab_cells (keepB R0 hC)
    obtain ⟨b0, b1, _, _⟩ := lab_cells (keepB R1 hC)
    obtain ⟨d0, d1, _, _⟩ := lab_cells (keepB R2 hC)
    obtain ⟨e0, e1, _, _⟩ := lab_cells (keepB R3 hC)
    obtain ⟨f0, f1, _, _⟩ := lab_cells (keepB R4 hC)
    unfold Facts.one
    go_simp
    all_goals first | exact ⟨Grew.refl _, rfl⟩ | rfl
  simp only [Act.put, List.setIfInBounds_toArray, List.set_cons_zero, List.set_cons_succ, Nat.reduceAdd]
  apply Facts.Lex.exact [] (.agg #[.int .i64 rv, .int .u64 (rc.toNat : Int)]) (by kernel_rfl)
  · intro u W hC _
    obtain ⟨a0, a1, _, _⟩ := lab_cells (keepB R0 hC)
    obtain ⟨b0, b1, _, _⟩ := lab_cells (keepB R1 hC)
    obtain ⟨d0, d1, _, _⟩ := lab_cells (keepB R2 hC)
    obtain ⟨e0, e1, _, _⟩ := lab_cells (keepB R3 hC)
    obtain ⟨f0, f1, _, _⟩ := lab_cells (keepB R4 hC)
    unfold Facts.one
    go_simp
    all_goals first | exact ⟨Grew.refl _, rfl⟩ | rfl
  simp only [Act.put, List.setIfInBounds_toArray, List.set_cons_zero, List.set_cons_succ, Nat.reduceAdd]
  apply Facts.Lex.exact [] (.bool true) (by kernel_rfl)
  · intro u W hC _
    obtain ⟨a0, a1, _, _⟩ := lab_cells (keepB R0 hC)
    obtain ⟨b0, b1, _, _⟩ := lab_cells (keepB R1 hC)
    obtain ⟨d0, d1, _, _⟩ := lab_cells (keepB R2 hC)
    obtain ⟨e0, e1, _, _⟩ := lab_cells (keepB R3 hC)
    obtain ⟨f0, f1, _, _⟩ := lab_cells (keepB R4 hC)
    unfold Facts.one
    go_simp
    all_goals first | exact ⟨Grew.refl _, rfl⟩ | rfl
  simp only [Act.put, List.setIfInBounds_toArray, List.set_cons_zero, List.set_cons_succ, Nat.reduceAdd]
  apply Facts.Lex.exact [] (.bool true) (by kernel_rfl)
  · intro u W hC _
    obtain ⟨a0, a1, _, _⟩ := lab_cells (keepB R0 hC)
    obtain ⟨b0, b1, _, _⟩ := lab_cells (keepB R1 hC)
    obtain ⟨d0, d1, _, _⟩ := lab_cells (keepB R2 hC)
    obtain ⟨e0, e1, _, _⟩ := lab_cells (keepB R3 hC)
    obtain ⟨f0, f1, _, _⟩ := lab_cells (keepB R4 hC)
    unfold Facts.one
    go_simp
    all_goals first | exact ⟨Grew.refl _, rfl⟩ | rfl
  simp only [Act.put, List.setIfInBounds_toArray, List.set_cons_zero, List.set_cons_succ, Nat.reduceAdd]
  apply Facts.Lex.exact [] (.bool true) (by kernel_rfl)
  · intro u W hC _
    obtain ⟨a0, a1, _, _⟩ := lab_cells (keepB R0 hC)
    obtain ⟨b0, b1, _, _⟩ := lab_cells (keepB R1 hC)
    obtain ⟨d0, d1, _, _⟩ := lab_cells (keepB R2 hC)
    obtain ⟨e0, e1, _, _⟩ := lab_cells (keepB R3 hC)
    obtain ⟨f0, f1, _, _⟩ := lab_cells (keepB R4 hC)
    unfold Facts.one
    go_simp
    all_goals first | exact ⟨Grew.refl _, rfl⟩ | rfl
  simp only [Act.put, List.setIfInBounds_toArray, List.set_cons_zero, List.set_cons_succ, Nat.reduceAdd]
  apply Facts.Lex.exact [] (.int .i64 re) (by kernel_rfl)
  · intro u W hC _
    obtain ⟨a0, a1, _, _⟩ := lab_cells (keepB R0 hC)
    obtain ⟨b0, b1, _, _⟩ := lab_cells (keepB R1 hC)
    obtain ⟨d0, d1, _, _⟩ := lab_cells (keepB R2 hC)
    obtain ⟨e0, e1, _, _⟩ := lab_cells (keepB R3 hC)
    obtain ⟨f0, f1, _, _⟩ := lab_cells (keepB R4 hC)
    unfold Facts.one
    go_simp
    all_goals first | exact ⟨Grew.refl _, rfl⟩ | rfl
  simp only [Act.put, List.setIfInBounds_toArray, List.set_cons_zero, List.set_cons_succ, Nat.reduceAdd]
  apply Facts.Lex.exact [] (.int .i64 re) (by kernel_rfl)
  · intro u W hC _
    obtain ⟨a0, a1, _, _⟩ := lab_cells (keepB R0 hC)
    obtain ⟨b0, b1, _, _⟩ := lab_cells (keepB R1 hC)
    obtain ⟨d0, d1, _, _⟩ := lab_cells (keepB R2 hC)
    obtain ⟨e0, e1, _, _⟩ := lab_cells (keepB R3 hC)
    obtain ⟨f0, f1, _, _⟩ := lab_cells (keepB R4 hC)
    unfold Facts.one
    go_simp
    all_goals first | exact ⟨Grew.refl _, rfl⟩ | rfl
  simp only [Act.put, List.setIfInBounds_toArray, List.set_cons_zero, List.set_cons_succ, Nat.reduceAdd]
  apply Facts.Lex.exact [] (.bool true) (by kernel_rfl)
  · intro u W hC _
    obtain ⟨a0, a1, _, _⟩ := lab_cells (keepB R0 hC)
    obtain ⟨b0, b1, _, _⟩ := lab_cells (keepB R1 hC)
    obtain ⟨d0, d1, _, _⟩ := lab_cells (keepB R2 hC)
    obtain ⟨e0, e1, _, _⟩ := lab_cells (keepB R3 hC)
    obtain ⟨f0, f1, _, _⟩ := lab_cells (keepB R4 hC)
    unfold Facts.one
    go_simp
    all_goals first | exact ⟨Grew.refl _, rfl⟩ | rfl
  simp only [Act.put, List.setIfInBounds_toArray, List.set_cons_zero, List.set_cons_succ, Nat.reduceAdd]
  apply Facts.Lex.exact [] (.bool true) (by kernel_rfl)
  · intro u W hC _
    obtain ⟨a0, a1, _, _⟩ := lab_cells (keepB R0 hC)
    obtain ⟨b0, b1, _, _⟩ := lab_cells (keepB R1 hC)
    obtain ⟨d0, d1, _, _⟩ := lab_cells (keepB R2 hC)
    obtain ⟨e0, e1, _, _⟩ := lab_cells (keepB R3 hC)
    obtain ⟨f0, f1, _, _⟩ := lab_cells (keepB R4 hC)
    unfold Facts.one
    go_simp
    all_goals first | exact ⟨Grew.refl _, rfl⟩ | rfl
  simp only [Act.put, List.setIfInBounds_toArray, List.set_cons_zero, List.set_cons_succ, Nat.reduceAdd]
  apply Facts.Lex.exact [] (.bool true) (by kernel_rfl)
  · intro u W hC _
    obtain ⟨a0, a1, _, _⟩ := lab_cells (keepB R0 hC)
    obtain ⟨b0, b1, _, _⟩ := lab_cells (keepB R1 hC)
    obtain ⟨d0, d1, _, _⟩ := lab_cells (keepB R2 hC)
    obtain ⟨e0, e1, _, _⟩ := lab_cells (keepB R3 hC)
    obtain ⟨f0, f1, _, _⟩ := lab_cells (keepB R4 hC)
    unfold Facts.one
    go_simp
    all_goals first | exact ⟨Grew.refl _, rfl⟩ | rfl
  simp only [Act.put, List.setIfInBounds_toArray, List.set_cons_zero, List.set_cons_succ, Nat.reduceAdd]
  apply Facts.Lex.exact [] (.agg #[.int .i64 pv, .int .u64 (pc.toNat : Int)]) (by kernel_rfl)
  · intro u W hC _
    obtain ⟨a0, a1, _, _⟩ := lab_cells (keepB R0 hC)
    obtain ⟨b0, b1, _, _⟩ := lab_cells (keepB R1 hC)
    obtain ⟨d0, d1, _, _⟩ := lab_cells (keepB R2 hC)
    obtain ⟨e0, e1, _, _⟩ := lab_cells (keepB R3 hC)
    obtain ⟨f0, f1, _, _⟩ := lab_cells (keepB R4 hC)
    unfold Facts.one
    go_simp
    all_goals first | exact ⟨Grew.refl _, rfl⟩ | rfl
  simp only [Act.put, List.setIfInBounds_toArray, List.set_cons_zero, List.set_cons_succ, Nat.reduceAdd]
  apply Facts.Lex.exact [] (.agg #[.int .i64 pv, .int .u64 (pc.toNat : Int)]) (by kernel_rfl)
  · intro u W hC _
    obtain ⟨a0, a1, _, _⟩ := lab_cells (keepB R0 hC)
    obtain ⟨b0, b1, _, _⟩ := lab_cells (keepB R1 hC)
    obtain ⟨d0, d1, _, _⟩ := lab_cells (keepB R2 hC)
    obtain ⟨e0, e1, _, _⟩ := lab_cells (keepB R3 hC)
    obtain ⟨f0, f1, _, _⟩ := lab_cells (keepB R4 hC)
    unfold Facts.one
    go_simp
    all_goals first | exact ⟨Grew.refl _, rfl⟩ | rfl
  simp only [Act.put, List.setIfInBounds_toArray, List.set_cons_zero, List.set_cons_succ, Nat.reduceAdd]
  apply Facts.Lex.exact [] (.bool true) (by kernel_rfl)
  · intro u W hC _
    obtain ⟨a0, a1, _, _⟩ := lab_cells (keepB R0 hC)
    obtain ⟨b0, b1, _, _⟩ := lab_cells (keepB R1 hC)
    obtain ⟨d0, d1, _, _⟩ := lab_cells (keepB R2 hC)
    obtain ⟨e0, e1, _, _⟩ := lab_cells (keepB R3 hC)
    obtain ⟨f0, f1, _, _⟩ := lab_cells (keepB R4 hC)
    unfold Facts.one
    go_simp
    all_goals first | exact ⟨Grew.refl _, rfl⟩ | rfl
  simp only [Act.put, List.setIfInBounds_toArray, List.set_cons_zero, List.set_cons_succ, Nat.reduceAdd]
  apply Facts.Lex.exact [] (.bool true) (by kernel_rfl)
  · intro u W hC _
    obtain ⟨a0, a1, _, _⟩ := lab_cells (keepB R0 hC)
    obtain ⟨b0, b1, _, _⟩ := lab_cells (keepB R1 hC)
    obtain ⟨d0, d1, _, _⟩ := lab_cells (keepB R2 hC)
    obtain ⟨e0, e1, _, _⟩ := lab_cells (keepB R3 hC)
    obtain ⟨f0, f1, _, _⟩ := lab_cells (keepB R4 hC)
    unfold Facts.one
    go_simp
    all_goals first | exact ⟨Grew.refl _, rfl⟩ | rfl
  simp only [Act.put, List.setIfInBounds_toArray, List.set_cons_zero, List.set_cons_succ, Nat.reduceAdd]
  apply Facts.Lex.exact [] (.bool true) (by kernel_rfl)
  · intro u W hC _
    obtain ⟨a0, a1, _, _⟩ := lab_cells (keepB R0 hC)
    obtain ⟨b0, b1, _, _⟩ := lab_cells (keepB R1 hC)
    obtain ⟨d0, d1, _, _⟩ := lab_cells (keepB R2 hC)
    obtain ⟨e0, e1, _, _⟩ := lab_cells (keepB R3 hC)
    obtain ⟨f0, f1, _, _⟩ := lab_cells (keepB R4 hC)
    unfold Facts.one
    go_simp
    all_goals first | exact ⟨Grew.refl _, rfl⟩ | rfl
  simp only [Act.put, List.setIfInBounds_toArray, List.set_cons_zero, List.set_cons_succ, Nat.reduceAdd]
  apply Facts.Lex.exact [] (.int .i64 pe) (by kernel_rfl)
  · intro u W hC _
    obtain ⟨a0, a1, _, _⟩ := lab_cells (keepB R0 hC)
    obtain ⟨b0, b1, _, _⟩ := lab_cells (keepB R1 hC)
    obtain ⟨d0, d1, _, _⟩ := lab_cells (keepB R2 hC)
    obtain ⟨e0, e1, _, _⟩ := lab_cells (keepB R3 hC)
    obtain ⟨f0, f1, _, _⟩ := lab_cells (keepB R4 hC)
    unfold Facts.one
    go_simp
    all_goals first | exact ⟨Grew.refl _, rfl⟩ | rfl
  simp only [Act.put, List.setIfInBounds_toArray, List.set_cons_zero, List.set_cons_succ, Nat.reduceAdd]
  apply Facts.Lex.exact [] (.int .i64 pe) (by kernel_rfl)
  · intro u W hC _
    obtain ⟨a0, a1, _, _⟩ := lab_cells (keepB R0 hC)
    obtain ⟨b0, b1, _, _⟩ := lab_cells (keepB R1 hC)
    obtain ⟨d0, d1, _, _⟩ := lab_cells (keepB R2 hC)
    obtain ⟨e0, e1, _, _⟩ := lab_cells (keepB R3 hC)
    obtain ⟨f0, f1, _, _⟩ := lab_cells (keepB R4 hC)
    unfold Facts.one
    go_simp
    all_goals first | exact ⟨Grew.refl _, rfl⟩ | rfl
  simp only [Act.put, List.setIfInBounds_toArray, List.set_cons_zero, List.set_cons_succ, Nat.reduceAdd]
  apply Facts.Lex.exact [] (.bool true) (by kernel_rfl)
  · intro u W hC _
    obtain ⟨a0, a1, _, _⟩ := lab_cells (keepB R0 hC)
    obtain ⟨b0, b1, _, _⟩ := lab_cells (keepB R1 hC)
    obtain ⟨d0, d1, _, _⟩ := lab_cells (keepB R2 hC)
    obtain ⟨e0, e1, _, _⟩ := lab_cells (keepB R3 hC)
    obtain ⟨f0, f1, _, _⟩ := lab_cells (keepB R4 hC)
    unfold Facts.one
    go_simp
    all_goals first | exact ⟨Grew.refl _, rfl⟩ | rfl
  simp only [Act.put, List.setIfInBounds_toArray, List.set_cons_zero, List.set_cons_succ, Nat.reduceAdd]
  apply Facts.Lex.exact [] (.bool true) (by kernel_rfl)
  · intro u W hC _
    obtain ⟨a0, a1, _, _⟩ := lab_cells (keepB R0 hC)
    obtain ⟨b0, b1, _, _⟩ := lab_cells (keepB R1 hC)
    obtain ⟨d0, d1, _, _⟩ := lab_cells (keepB R2 hC)
    obtain ⟨e0, e1, _, _⟩ := lab_cells (keepB R3 hC)
    obtain ⟨f0, f1, _, _⟩ := lab_cells (keepB R4 hC)
    unfold Facts.one
    go_simp
    all_goals first | exact ⟨Grew.refl _, rfl⟩ | rfl
  simp only [Act.put, List.setIfInBounds_toArray, List.set_cons_zero, List.set_cons_succ, Nat.reduceAdd]
  apply Facts.Lex.exact [] (.bool true) (by kernel_rfl)
  · intro u W hC _
    obtain ⟨a0, a1, _, _⟩ := lab_cells (keepB R0 hC)
    obtain ⟨b0, b1, _, _⟩ := lab_cells (keepB R1 hC)
    obtain ⟨d0, d1, _, _⟩ := lab_cells (keepB R2 hC)
    obtain ⟨e0, e1, _, _⟩ := lab_cells (keepB R3 hC)
    obtain ⟨f0, f1, _, _⟩ := lab_cells (keepB R4 hC)
    unfold Facts.one
    go_simp
    all_goals first | exact ⟨Grew.refl _, rfl⟩ | rfl
  simp only [Act.put, List.setIfInBounds_toArray, List.set_cons_zero, List.set_cons_succ, Nat.reduceAdd]
  refine Facts.Lex.done fun u W2 hC hL => ?_
  have G9 := Lib.hid (HG.out.trans hC)
  clear hC hL R0 R1 R2 R3 R4
  go_wp2
  go_returns
  exact ⟨rfl, G9.out⟩
end Go.Proofs.YtekodmnhheejkaaDoor.ReadsLaw
