/-
  What is done with an item: made, scrapped, dropped, taken, passed, held.
  Conditions: those that each lemma names.
-/
import Derived.Test.YtaolallfmjjoeaaTJ
namespace Go.Proofs.Ytaolallfmjjoeaa.TK
set_option maxRecDepth 100000
open Go Go.RowKit Go.Lib Go.Proofs.Ytaolallfmjjoeaa Go.Proofs.Ytaolallfmjjoeaa.Facts Go.Proofs.Ytaolallfmjjoeaa.Ints Go.Proofs.Ytaolallfmjjoeaa.TI Go.Proofs.Ytaolallfmjjoeaa.TP Go.Proofs.Ytaolallfmjjoeaa.TB Go.Proofs.Ytaolallfmjjoeaa.TC Go.Proofs.Ytaolallfmjjoeaa.TD Go.Proofs.Ytaolallfmjjoeaa.TE Go.Proofs.Ytaolallfmjjoeaa.TF Go.Proofs.Ytaolallfmjjoeaa.TG Go.Proofs.Ytaolallfmjjoeaa.TH Go.Proofs.Ytaolallfmjjoeaa.TJ Go.Proofs.Ytaolallfmjjoeaa.Bytes


theorem ans_slice {r : List It × Int} {w w' : World} {e : Ending} (h : Ans r w e w') : ∃ A c, e = .returned (.tuple #[.slice A r.1.length c, .int .i64 r.2]) ∧ Its w' (.slice A r.1.length c) r.1 ∧ Grew w w' := by
  obtain ⟨v', e1, hi, hg⟩ := h
  obtain ⟨A, c, e2, _⟩ := hi.slice
  subst e2
  exact ⟨A, c, e1, hi, hg⟩
/-- Make's answer. -/
def makeP (l : List It) (s : ByteArray) (n : Int) : List It × Int × Int :=
  if mayP l [hand n] = false then ([], 0, 1) else if Chars.right s.data.toList = false then ([], 0, 2) else if free l = -1 then ([], 0, 8) else (l.set (free l).toNat (giv (hand n) s), free l, 0)
def scrapP (l : List It) (i n : Int) : List It × Int := if mayP l [hand n] = false then ([], 1) else if decide (i ∈ slotsOf l (hand n)) = false then ([], 3) else (l.set i.toNat zit, 0)

theorem pass_any (v : Value) (l : List It) (i n m : Int) (w : World) (hl : Its w v l) (hz : Sz l) (hn : l.length ≤ 1000) :
    Calls Try.prog 30 #[v, .int .i64 i, .int .i64 n, .int .i64 m] w (Ans (moveP l i (hand n) (hand m)) w) := by
  have H1 := Lib.hid (fun W => hand_any n W)
  have H2 := Lib.hid (fun W => hand_any m W)
  have HM := Lib.hid (fun W (hg : Grew w W) => move_any v l i (hand n) (hand m) W (hl.grew hg) hz hn)
  generalize moveP l i (hand n) (hand m) = r at *
  generalize hand n = f at *
  generalize hand m = t at *
  rw [fields_of] at H1 H2
  rw [fields_of, fields_of] at HM
  obtain ⟨R, er⟩ := r
  obtain ⟨A, c, rfl, _⟩ := hl.slice
  clear hl hz hn
  go_enter Try.func30, Try.ntmps30
  go_wp2_with fail
  refine (H1.out _).mono ?_
  rintro e w1 ⟨rfl, hg⟩
  have G1 := Lib.hid hg
  clear hg
  go_wp2_with fail
  refine (H2.out _).mono ?_
  rintro e w2 ⟨rfl, hg⟩
  have G2 := Lib.hid (G1.out.trans hg)
  clear hg
  go_wp2_with fail
  refine (HM.out _ G2.out).mono ?_
  rintro e w3 ha
  obtain ⟨A3, c3, rfl, hi, hg⟩ := ans_slice ha
  have HI := Lib.hid hi
  have G3 := Lib.hid (G2.out.trans hg)
  clear ha hi hg
  go_wp2
  go_returns
  exact ⟨_, rfl, HI.out, G3.out⟩

theorem hold_any (v : Value) (l : List It) (i n m : Int) (w : World) (hl : Its w v l) (hz : Sz l) (hn : l.length ≤ 1000) :
    Calls Try.prog 32 #[v, .int .i64 i, .int .i64 n, .int .i64 m] w (Ans (moveP l i (hand n) (deal m)) w) := by
  have H1 := Lib.hid (fun W => hand_any n W)
  have H2 := Lib.hid (fun W => deal_any m W)
  have HM := Lib.hid (fun W (hg : Grew w W) => move_any v l i (hand n) (deal m) W (hl.grew hg) hz hn)
  generalize moveP l i (hand n) (deal m) = r at *
  generalize hand n = f at *
  generalize deal m = t at *
  rw [fields_of] at H1 H2
  rw [fields_of, fields_of] at HM
  obtain ⟨R, er⟩ := r
  obtain ⟨A, c, rfl, _⟩ := hl.slice
  clear hl hz hn
  go_enter Try.func32, Try.ntmps32
  go_wp2_with fail
  refine (H1.out _).mono ?_
  rintro e w1 ⟨rfl, hg⟩
  have G1 := Lib.hid hg
  clear hg
  go_wp2_with fail
  refine (H2.out _).mono ?_
  rintro e w2 ⟨rfl, hg⟩
  have G2 := Lib.hid (G1.out.trans hg)
  clear hg
  go_wp2_with fail
  refine (HM.out _ G2.out).mono ?_
  rintro e w3 ha
  obtain ⟨A3, c3, rfl, hi, hg⟩ := ans_slice ha
  have HI := Lib.hid hi
  have G3 := Lib.hid (G2.out.trans hg)
  clear ha hi hg
  go_wp2
  go_returns
  exact ⟨_, rfl, HI.out, G3.out⟩

theorem drop_any (v : Value) (l : List It) (i n a b : Int) (w : World) (hl : Its w v l) (hz : Sz l) (hn : l.length ≤ 1000) :
    Calls Try.prog 26 #[v, .int .i64 i, .int .i64 n, .agg #[.int .i64 a, .int .i64 b]] w (Ans (moveP l i (hand n) (floor a b)) w) := by
  have g0 : Grew w (w.alloc (.cells #[.int .i64 a, .int .i64 b] 33)) := by unfold Grew; go_grown
  have b0 : (w.alloc (.cells #[.int .i64 a, .int .i64 b] 33)).heap[w.heap.size]? = some (.cells #[.int .i64 a, .int .i64 b] 33 (0, 0)) := heap_alloc_new w _
  have c0 : (w.alloc (.cells #[.int .i64 a, .int .i64 b] 33)).cell? ⟨w.heap.size, 0, none⟩ = some (.int .i64 a) := by rw [cell_of_row _ _ _ _ _ _ b0]; rfl
  have c1 : (w.alloc (.cells #[.int .i64 a, .int .i64 b] 33)).cell? ⟨w.heap.size, 1, none⟩ = some (.int .i64 b) := by rw [cell_of_row _ _ _ _ _ _ b0]; rfl
  have H1 := Lib.hid (fun W => hand_any n W)
  have H2 := Lib.hid (fun W => floor_any a b W)
  have HM := Lib.hid (fun W (hg : Grew w W) => move_any v l i (hand n) (floor a b) W (hl.grew hg) hz hn)
  generalize moveP l i (hand n) (floor a b) = r at *
  generalize hand n = f at *
  generalize floor a b = t at *
  rw [fields_of] at H1 H2
  rw [fields_of, fields_of] at HM
  obtain ⟨R, er⟩ := r
  obtain ⟨A, c, rfl, _⟩ := hl.slice
  have G0 := Lib.hid g0
  clear hl hz hn g0 b0
  go_enter Try.func26, Try.ntmps26
  go_wp2
  refine Facts.wp_region_text (by kernel_rfl) (by kernel_rfl) ?_
  iterate 3
    apply Facts.Lex.exact [] _ (by kernel_rfl)
    · intro u W hC _
      unfold Facts.one
      go_simp
      first | exact ⟨Grew.refl _, rfl⟩ | rfl
    simp only [Act.put, List.setIfInBounds_toArray, List.set_cons_zero, List.set_cons_succ, Nat.zero_add, Nat.reduceAdd]
  apply Facts.Lex.exact [] _ (by kernel_rfl)
  · intro u W hC _
    unfold Facts.one
    go_simp
    exact ((H1.out W).mono fun e w' ⟨he, hg⟩ => ⟨_, he, hg, rfl⟩)
  simp only [Act.put, List.setIfInBounds_toArray, List.set_cons_zero, List.set_cons_succ, Nat.reduceAdd]
  apply Facts.Lex.exact [] _ (by kernel_rfl)
  · intro u W hC _
    have j0 := cellB hC c0
    have j1 := cellB hC c1
    unfold Facts.one
    go_simp
    first | exact ⟨Grew.refl _, rfl⟩ | rfl
  simp only [Act.put, List.setIfInBounds_toArray, List.set_cons_zero, List.set_cons_succ, Nat.reduceAdd]
  apply Facts.Lex.exact [] _ (by kernel_rfl)
  · intro u W hC _
    unfold Facts.one
    go_simp
    exact ((H2.out W).mono fun e w' ⟨he, hg⟩ => ⟨_, he, hg, rfl⟩)
  simp only [Act.put, List.setIfInBounds_toArray, List.set_cons_zero, List.set_cons_succ, Nat.reduceAdd]
  refine Facts.Lex.know [] (fun v w => ∃ A3 c3, v = .tuple #[.slice A3 R.length c3, .int .i64 er] ∧ Its w (.slice A3 R.length c3) R) (by kernel_rfl) (fun _ _ _ ⟨A3, c3, e, h⟩ hg => ⟨A3, c3, e, h.grew hg⟩) ?_ ?_
  · intro u W hC hK
    unfold Facts.one
    go_simp
    refine (HM.out W (G0.out.trans hC)).mono ?_
    rintro e w3 ha
    obtain ⟨A3, c3, rfl, hi, hg⟩ := ans_slice ha
    exact ⟨_, rfl, hg, A3, c3, rfl, hi⟩
  simp only [Act.put, List.setIfInBounds_toArray, List.set_cons_zero, List.set_cons_succ, Nat.reduceAdd]
  refine Facts.Lex.know [6] (fun v w => Its w v R) (by kernel_rfl) (fun _ _ _ h hg => h.grew hg) ?_ ?_
  · intro u W hC hK
    obtain ⟨A3, c3, e1, hr⟩ : ∃ A3 c3, u 6 = .tuple #[.slice A3 R.length c3, .int .i64 er] ∧ Its W (.slice A3 R.length c3) R := hK.1
    have HR := Lib.hid hr
    clear hr hK
    unfold Facts.one
    go_simp
    exact ⟨Grew.refl _, HR.out⟩
  simp only [Act.put, List.setIfInBounds_toArray, List.set_cons_zero, List.set_cons_succ, Nat.reduceAdd]
  apply Facts.Lex.exact [6] _ (by kernel_rfl)
  · intro u W hC hK
    obtain ⟨A3, c3, e1, hr⟩ : ∃ A3 c3, u 6 = .tuple #[.slice A3 R.length c3, .int .i64 er] ∧ Its W (.slice A3 R.length c3) R := hK.1
    clear hr hK
    unfold Facts.one
    go_simp
    exact ⟨Grew.refl _, rfl⟩
  simp only [Act.put, List.setIfInBounds_toArray, List.set_cons_zero, List.set_cons_succ, Nat.reduceAdd]
  refine Facts.Lex.know [7] (fun v w => Its w v R) (by kernel_rfl) (fun _ _ _ h hg => h.grew hg) ?_ ?_
  · intro u W hC hK
    have HR : Hid (Its W (u 7) R) := Lib.hid hK.1
    clear hK
    unfold Facts.one
    go_simp
    exact ⟨Grew.refl _, HR.out⟩
  simp only [Act.put, List.setIfInBounds_toArray, List.set_cons_zero, List.set_cons_succ, Nat.reduceAdd]
  apply Facts.Lex.exact [] _ (by kernel_rfl)
  · intro u W hC _
    unfold Facts.one
    go_simp
    first | exact ⟨Grew.refl _, rfl⟩ | rfl
  simp only [Act.put, List.setIfInBounds_toArray, List.set_cons_zero, List.set_cons_succ, Nat.reduceAdd]
  refine Facts.Lex.done fun u W2 hC hL => ?_
  have HR : Hid (Its W2 (u 9) R) := Lib.hid (hL _ (List.mem_cons_self ..))
  have G5 := Lib.hid (G0.out.trans hC)
  clear hC hL c0 c1
  generalize u 9 = v9 at *
  go_wp2
  go_returns
  exact ⟨_, rfl, HR.out, G5.out⟩

theorem take_any (v : Value) (l : List It) (i n a b : Int) (w : World) (hl : Its w v l) (hz : Sz l) (hn : l.length ≤ 1000) :
    Calls Try.prog 28 #[v, .int .i64 i, .int .i64 n, .agg #[.int .i64 a, .int .i64 b]] w (Ans (moveP l i (floor a b) (hand n)) w) := by
  have g0 : Grew w (w.alloc (.cells #[.int .i64 a, .int .i64 b] 33)) := by unfold Grew; go_grown
  have H1 := Lib.hid (fun W => floor_any a b W)
  have H2 := Lib.hid (fun W => hand_any n W)
  have HM := Lib.hid (fun W (hg : Grew w W) => move_any v l i (floor a b) (hand n) W (hl.grew hg) hz hn)
  generalize moveP l i (floor a b) (hand n) = r at *
  generalize floor a b = f at *
  generalize hand n = t at *
  rw [fields_of] at H1 H2
  rw [fields_of, fields_of] at HM
  obtain ⟨R, er⟩ := r
  obtain ⟨A, c, rfl, _⟩ := hl.slice
  have G0 := Lib.hid g0
  clear hl hz hn g0
  go_enter Try.func28, Try.ntmps28
  go_wp2_with fail
  refine (H1.out _).mono ?_
  rintro e w1 ⟨rfl, hg⟩
  have G1 := Lib.hid (G0.out.trans hg)
  clear hg
  go_wp2_with fail
  refine (H2.out _).mono ?_
  rintro e w2 ⟨rfl, hg⟩
  have G2 := Lib.hid (G1.out.trans hg)
  clear hg
  go_wp2_with fail
  refine (HM.out _ G2.out).mono ?_
  rintro e w3 ha
  obtain ⟨A3, c3, rfl, hi, hg⟩ := ans_slice ha
  have HI := Lib.hid hi
  have G3 := Lib.hid (G2.out.trans hg)
  clear ha hi hg
  go_wp2
  go_returns
  exact ⟨_, rfl, HI.out, G3.out⟩

theorem scrap_any (v : Value) (l : List It) (i n : Int) (w : World) (hl : Its w v l) (hz : Sz l) (hn : l.length ≤ 1000) :
    Calls Try.prog 24 #[v, .int .i64 i, .int .i64 n] w (Ans (scrapP l i n) w) := by
  have HH := Lib.hid (fun W => hand_any n W)
  unfold scrapP
  generalize hand n = f at *
  have HM := Lib.hid (fun W (hg : Grew w W) => may_any v _ l [f] _ (hl.grew (hg.trans (show Grew W (W.alloc (.cells #[.int .i64 f.kind, .int .i64 f.who, .int .i64 f.lab, .int .i64 f.slot] 89)) by unfold Grew; go_grown))) hz (hs_one W f))
  have HS := Lib.hid (fun W (hg : Grew w W) => hasi_any v l i f W (hl.grew hg) hn)
  have HROW := Lib.hid (fun W (hg : Grew w W) => row_any W v l (hl.grew hg) hn)
  have HPUT := Lib.hid (fun W b k (hr : Row W b l) hk => put_any W b l k zit hr hk hn)
  have hzv : iv6 zit = .agg #[.bool false, .string ⟨#[]⟩, .int .i64 0, .int .i64 0, .int .i64 0, .int .i64 0] := rfl
  rw [hzv] at HPUT
  rw [fields_of] at HH HS
  have HE := Lib.hid (fun (h : i ∈ slotsOf l f) => slots_lt h)
  unfold mayP
  generalize hp : (okL l && [f].all okH) = p at *
  generalize hq : decide (i ∈ slotsOf l f) = q at *
  obtain ⟨A, c, rfl, _⟩ := hl.slice
  clear hl hp hzv
  cases p with
  | false =>
    clear hq
    simp only [if_true]
    go_enter Try.func24, Try.ntmps24
    go_wp2_with fail
    refine (HH.out _).mono ?_
    rintro e w1 ⟨rfl, hg⟩
    have GA := Lib.hid hg
    have HM1 := Lib.hid (HM.out w1 hg)
    have g1 : Grew w1 (w1.alloc (.cells #[.int .i64 f.kind, .int .i64 f.who, .int .i64 f.lab, .int .i64 f.slot] 89)) := by unfold Grew; go_grown
    have G1 := Lib.hid (hg.trans g1)
    clear hg g1
    go_wp2_with fail
    refine HM1.out.mono ?_
    rintro e w2 ⟨rfl, hg⟩
    have G2 := Lib.hid (G1.out.trans hg)
    clear hg
    go_wp2
    go_returns
    exact ⟨_, rfl, rw_none _, G2.out⟩
  | true =>
    cases q with
    | false =>
      clear hq
      simp only [if_true, Bool.true_eq_false, if_false]
      go_enter Try.func24, Try.ntmps24
      go_wp2_with fail
      refine (HH.out _).mono ?_
      rintro e w1 ⟨rfl, hg⟩
      have GA := Lib.hid hg
      have HM1 := Lib.hid (HM.out w1 hg)
      have g1 : Grew w1 (w1.alloc (.cells #[.int .i64 f.kind, .int .i64 f.who, .int .i64 f.lab, .int .i64 f.slot] 89)) := by unfold Grew; go_grown
      have G1 := Lib.hid (hg.trans g1)
      clear hg g1
      go_wp2_with fail
      refine HM1.out.mono ?_
      rintro e w2 ⟨rfl, hg⟩
      have G2 := Lib.hid (G1.out.trans hg)
      clear hg
      go_wp2_with fail
      refine (HH.out _).mono ?_
      rintro e w3 ⟨rfl, hg⟩
      have G3 := Lib.hid (G2.out.trans hg)
      clear hg
      go_wp2_with fail
      refine (HS.out _ G3.out).mono ?_
      rintro e w4 ⟨rfl, hg⟩
      have G4 := Lib.hid (G3.out.trans hg)
      clear hg
      go_wp2
      go_returns
      exact ⟨_, rfl, rw_none _, G4.out⟩
    | true =>
      obtain ⟨k, rfl, hk, _⟩ := HE.out (of_decide_eq_true hq)
      clear hq HE
      simp only [Bool.true_eq_false, if_false, Int.toNat_natCast]
      have HP2 := Lib.hid (fun W b hr => HPUT.out W b k hr hk)
      generalize l.set k zit = R at *
      clear hk HPUT
      go_enter Try.func24, Try.ntmps24
      go_wp2_with fail
      refine (HH.out _).mono ?_
      rintro e w1 ⟨rfl, hg⟩
      have GA := Lib.hid hg
      have HM1 := Lib.hid (HM.out w1 hg)
      have g1 : Grew w1 (w1.alloc (.cells #[.int .i64 f.kind, .int .i64 f.who, .int .i64 f.lab, .int .i64 f.slot] 89)) := by unfold Grew; go_grown
      have G1 := Lib.hid (hg.trans g1)
      clear hg g1
      go_wp2_with fail
      refine HM1.out.mono ?_
      rintro e w2 ⟨rfl, hg⟩
      have G2 := Lib.hid (G1.out.trans hg)
      clear hg
      go_wp2_with fail
      refine (HH.out _).mono ?_
      rintro e w3 ⟨rfl, hg⟩
      have G3 := Lib.hid (G2.out.trans hg)
      clear hg
      go_wp2_with fail
      refine (HS.out _ G3.out).mono ?_
      rintro e w4 ⟨rfl, hg⟩
      have G4 := Lib.hid (G3.out.trans hg)
      clear hg
      go_wp2_with fail
      refine (HROW.out _ G4.out).mono ?_
      rintro e w5 ⟨b, rfl, hr, hg⟩
      have G5 := Lib.hid (G4.out.trans hg)
      have HP3 := Lib.hid (HP2.out w5 b hr)
      clear hr hg
      go_wp2_with fail
      refine HP3.out.mono ?_
      rintro e w6 ⟨v', rfl, hi, hg⟩
      have G6 := Lib.hid (G5.out.trans hg)
      have HI := Lib.hid hi
      obtain ⟨A2, c2, rfl, _⟩ := hi.slice
      clear hi hg
      go_wp2
      go_returns
      exact ⟨_, rfl, HI.out, G6.out⟩

/-- Make answers a list, a slot and an error. -/
def Ans3 (r : List It × Int × Int) (w : World) (e : Ending) (w' : World) : Prop := ∃ v', e = .returned (.tuple #[v', .int .i64 r.2.1, .int .i64 r.2.2]) ∧ Its w' v' r.1 ∧ Grew w w'
theorem make_any (v : Value) (l : List It) (s : ByteArray) (n : Int) (w : World) (hl : Its w v l) (hz : Sz l) (hn : l.length ≤ 1000) (hs : s.size ≤ 9223372036854775807) :
    Calls Try.prog 19 #[v, .string s, .int .i64 n] w (Ans3 (makeP l s n) w) := by
  have HH := Lib.hid (fun W => hand_any n W)
  unfold makeP
  have HR := Lib.hid (fun W => Chars.right_any s hs W)
  generalize hand n = f at *
  have HM := Lib.hid (fun W (hg : Grew w W) => may_any v _ l [f] _ (hl.grew (hg.trans (show Grew W (W.alloc (.cells #[.int .i64 f.kind, .int .i64 f.who, .int .i64 f.lab, .int .i64 f.slot] 89)) by unfold Grew; go_grown))) hz (hs_one W f))
  have HROW := Lib.hid (fun W (hg : Grew w W) => row_any W v l (hl.grew hg) hn)
  have HADD := Lib.hid (fun W b (hr : Row W b l) => add_any W b l (giv f s) hr hn)
  have HG := Lib.hid (fun W => item_any f s W)
  have hgv : iv6 ⟨true, s, f.kind, f.who, f.lab, f.slot⟩ = .agg #[.bool true, .string s, .int .i64 f.kind, .int .i64 f.who, .int .i64 f.lab, .int .i64 f.slot] := rfl
  rw [giv_val] at HADD
  rw [hgv] at HG
  rw [fields_of] at HH HG
  unfold mayP
  have hR : (if free l = -1 then (([], 0, 8) : List It × Int × Int) else (l.set (free l).toNat (giv f s), free l, 0)) = ((if free l = -1 then [] else l.set (free l).toNat (giv f s)), (if free l = -1 then 0 else free l), (if free l = -1 then 8 else 0)) := by split <;> rfl
  rw [hR]
  generalize (if free l = -1 then ([] : List It) else l.set (free l).toNat (giv f s)) = R at *
  generalize (if free l = -1 then (0 : Int) else free l) = ki at *
  generalize (if free l = -1 then (8 : Int) else 0) = er at *
  generalize hp : (okL l && [f].all okH) = p at *
  generalize Chars.right s.data.toList = q at *
  obtain ⟨A, c, rfl, _⟩ := hl.slice
  clear hl hp hgv hR hs
  cases p with
  | false =>
    simp only [if_true]
    go_enter Try.func19, Try.ntmps19
    go_wp2_with fail
    refine (HH.out _).mono ?_
    rintro e w1 ⟨rfl, hg⟩
    have GA := Lib.hid hg
    have HM1 := Lib.hid (HM.out w1 hg)
    have g1 : Grew w1 (w1.alloc (.cells #[.int .i64 f.kind, .int .i64 f.who, .int .i64 f.lab, .int .i64 f.slot] 89)) := by unfold Grew; go_grown
    have G1 := Lib.hid (hg.trans g1)
    clear hg g1
    go_wp2_with fail
    refine HM1.out.mono ?_
    rintro e w2 ⟨rfl, hg⟩
    have G2 := Lib.hid (G1.out.trans hg)
    clear hg
    go_wp2
    go_returns
    exact ⟨_, rfl, rw_none _, G2.out⟩
  | true =>
    cases q with
    | false =>
      simp only [if_true, Bool.true_eq_false, if_false]
      go_enter Try.func19, Try.ntmps19
      go_wp2_with fail
      refine (HH.out _).mono ?_
      rintro e w1 ⟨rfl, hg⟩
      have GA := Lib.hid hg
      have HM1 := Lib.hid (HM.out w1 hg)
      have g1 : Grew w1 (w1.alloc (.cells #[.int .i64 f.kind, .int .i64 f.who, .int .i64 f.lab, .int .i64 f.slot] 89)) := by unfold Grew; go_grown
      have G1 := Lib.hid (hg.trans g1)
      clear hg g1
      go_wp2_with fail
      refine HM1.out.mono ?_
      rintro e w2 ⟨rfl, hg⟩
      have G2 := Lib.hid (G1.out.trans hg)
      clear hg
      go_wp2_with fail
      refine (HR.out _).mono ?_
      rintro e w3 ⟨rfl, hw⟩
      subst hw
      go_wp2
      go_returns
      exact ⟨_, rfl, rw_none _, G2.out⟩
    | true =>
      simp only [Bool.true_eq_false, if_false]
      go_enter Try.func19, Try.ntmps19
      go_wp2_with fail
      refine (HH.out _).mono ?_
      rintro e w1 ⟨rfl, hg⟩
      have GA := Lib.hid hg
      have HM1 := Lib.hid (HM.out w1 hg)
      have g1 : Grew w1 (w1.alloc (.cells #[.int .i64 f.kind, .int .i64 f.who, .int .i64 f.lab, .int .i64 f.slot] 89)) := by unfold Grew; go_grown
      have G1 := Lib.hid (hg.trans g1)
      clear hg g1
      go_wp2_with fail
      refine HM1.out.mono ?_
      rintro e w2 ⟨rfl, hg⟩
      have G2 := Lib.hid (G1.out.trans hg)
      clear hg
      go_wp2_with fail
      refine (HR.out _).mono ?_
      rintro e w3 ⟨rfl, hw⟩
      subst hw
      go_wp2_with fail
      refine (HROW.out _ G2.out).mono ?_
      rintro e w5 ⟨b, rfl, hr, hg⟩
      have G5 := Lib.hid (G2.out.trans hg)
      have HRW := Lib.hid hr
      clear hr hg
      go_wp2_with fail
      refine (HH.out _).mono ?_
      rintro e w6 ⟨rfl, hg⟩
      have G6 := Lib.hid (G5.out.trans hg)
      have HRW2 := Lib.hid (HRW.out.grew hg)
      clear hg
      go_wp2_with fail
      refine (HG.out _).mono ?_
      rintro e w7 ⟨rfl, hg⟩
      have G7 := Lib.hid (G6.out.trans hg)
      have HA := Lib.hid (HADD.out w7 b (HRW2.out.grew hg))
      clear hg
      go_wp2_with fail
      refine HA.out.mono ?_
      rintro e w8 ⟨v', rfl, hi, hg⟩
      have G8 := Lib.hid (G7.out.trans hg)
      have HI := Lib.hid hi
      obtain ⟨A2, c2, rfl, _⟩ := hi.slice
      clear hi hg
      go_wp2
      go_returns
      exact ⟨_, rfl, HI.out, G8.out⟩
end Go.Proofs.Ytaolallfmjjoeaa.TK
