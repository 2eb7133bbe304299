/-
  An item goes from a holder to another one.
  Conditions: those that each lemma names.
-/
import Derived.Test.YtaolallfmjjoeaaTH
namespace Go.Proofs.Ytaolallfmjjoeaa.TJ
set_option maxRecDepth 100000
open Go Go.RowKit Go.Lib Go.Proofs.Ytaolallfmjjoeaa Go.Proofs.Ytaolallfmjjoeaa.Facts Go.Proofs.Ytaolallfmjjoeaa.Ints Go.Proofs.Ytaolallfmjjoeaa.TI Go.Proofs.Ytaolallfmjjoeaa.TP Go.Proofs.Ytaolallfmjjoeaa.TB Go.Proofs.Ytaolallfmjjoeaa.TC Go.Proofs.Ytaolallfmjjoeaa.TD Go.Proofs.Ytaolallfmjjoeaa.TE Go.Proofs.Ytaolallfmjjoeaa.TF Go.Proofs.Ytaolallfmjjoeaa.TG Go.Proofs.Ytaolallfmjjoeaa.TH Go.Proofs.Ytaolallfmjjoeaa.Bytes


def mayP (l : List It) (hs : List Ho) : Bool := okL l && hs.all okH
def giv (h : Ho) (s : ByteArray) : It := ⟨true, s, h.kind, h.who, h.lab, h.slot⟩
/-- What comes of a move. -/
def moveP (l : List It) (i : Int) (f t : Ho) : List It × Int := if mayP l [f, t] = false then ([], 1) else if decide (i ∈ slotsOf l f) = false then ([], 3) else (l.set i.toNat (giv t (el l i.toNat).name), 0)
/-- It answers a list and an error. -/
def Ans (r : List It × Int) (w : World) (e : Ending) (w' : World) : Prop := ∃ v', e = .returned (.tuple #[v', .int .i64 r.2]) ∧ Its w' v' r.1 ∧ Grew w w'
theorem hs_row (w : World) (l : List Ho) : Hs (w.alloc (.cells (l.flatMap hcs).toArray 89)) (.slice (some ⟨w.heap.size, 0, none⟩) l.length l.length) l ∨ maxLen < l.length := by
  by_cases hm : l.length ≤ maxLen
  · refine .inl ⟨some ⟨w.heap.size, 0, none⟩, l.length, rfl, Nat.le_refl _, hm, (fun h => by cases h), fun ad ha j u hu => ?_⟩
    cases ha
    rw [Addr.add_lit, Nat.zero_add, cell_of_row _ _ _ _ _ _ (heap_alloc_new w _), List.getElem?_toArray]
    exact hu
  · exact .inr (by omega)
theorem hs_two (w : World) (f t : Ho) : Hs (w.alloc (.cells #[.int .i64 f.kind, .int .i64 f.who, .int .i64 f.lab, .int .i64 f.slot, .int .i64 t.kind, .int .i64 t.who, .int .i64 t.lab, .int .i64 t.slot] 89)) (.slice (some ⟨w.heap.size, 0, none⟩) 2 2) [f, t] := by
  rcases hs_row w [f, t] with h | h
  · exact h
  · exact absurd h (by unfold maxLen; simp)
theorem hs_one (w : World) (f : Ho) : Hs (w.alloc (.cells #[.int .i64 f.kind, .int .i64 f.who, .int .i64 f.lab, .int .i64 f.slot] 89)) (.slice (some ⟨w.heap.size, 0, none⟩) 1 1) [f] := by
  rcases hs_row w [f] with h | h
  · exact h
  · exact absurd h (by unfold maxLen; simp)
theorem fields_of (h : Ho) : hv h = .agg #[.int .i64 h.kind, .int .i64 h.who, .int .i64 h.lab, .int .i64 h.slot] := rfl
theorem giv_val (h : Ho) (s : ByteArray) : iv6 (giv h s) = .agg #[.bool true, .string s, .int .i64 h.kind, .int .i64 h.who, .int .i64 h.lab, .int .i64 h.slot] := rfl

set_option maxHeartbeats 1000000 in
theorem move_any (v : Value) (l : List It) (i : Int) (f t : Ho) (w : World) (hl : Its w v l) (hz : Sz l) (hn : l.length ≤ 1000) :
    Calls Try.prog 69 #[v, .int .i64 i, hv f, hv t] w (Ans (moveP l i f t) w) := by
  have g1 : Grew w ((w.alloc (.cells #[.int .i64 f.kind, .int .i64 f.who, .int .i64 f.lab, .int .i64 f.slot] 89)).alloc (.cells #[.int .i64 t.kind, .int .i64 t.who, .int .i64 t.lab, .int .i64 t.slot] 89)) := by unfold Grew; go_grown
  have g2 : Grew w (((w.alloc (.cells #[.int .i64 f.kind, .int .i64 f.who, .int .i64 f.lab, .int .i64 f.slot] 89)).alloc (.cells #[.int .i64 t.kind, .int .i64 t.who, .int .i64 t.lab, .int .i64 t.slot] 89)).alloc (.cells #[.int .i64 f.kind, .int .i64 f.who, .int .i64 f.lab, .int .i64 f.slot, .int .i64 t.kind, .int .i64 t.who, .int .i64 t.lab, .int .i64 t.slot] 89)) := by unfold Grew; go_grown
  have hrow := hs_two ((w.alloc (.cells #[.int .i64 f.kind, .int .i64 f.who, .int .i64 f.lab, .int .i64 f.slot] 89)).alloc (.cells #[.int .i64 t.kind, .int .i64 t.who, .int .i64 t.lab, .int .i64 t.slot] 89)) f t
  have bf : (((w.alloc (.cells #[.int .i64 f.kind, .int .i64 f.who, .int .i64 f.lab, .int .i64 f.slot] 89)).alloc (.cells #[.int .i64 t.kind, .int .i64 t.who, .int .i64 t.lab, .int .i64 t.slot] 89)).alloc (.cells #[.int .i64 f.kind, .int .i64 f.who, .int .i64 f.lab, .int .i64 f.slot, .int .i64 t.kind, .int .i64 t.who, .int .i64 t.lab, .int .i64 t.slot] 89)).heap[w.heap.size]? = some (.cells #[.int .i64 f.kind, .int .i64 f.who, .int .i64 f.lab, .int .i64 f.slot] 89 (0, 0)) := by
    have a := heap_alloc_new w (.cells #[.int .i64 f.kind, .int .i64 f.who, .int .i64 f.lab, .int .i64 f.slot] 89)
    exact keepB (keepB a (by unfold Grew; go_grown)) (by unfold Grew; go_grown)
  have bt : (((w.alloc (.cells #[.int .i64 f.kind, .int .i64 f.who, .int .i64 f.lab, .int .i64 f.slot] 89)).alloc (.cells #[.int .i64 t.kind, .int .i64 t.who, .int .i64 t.lab, .int .i64 t.slot] 89)).alloc (.cells #[.int .i64 f.kind, .int .i64 f.who, .int .i64 f.lab, .int .i64 f.slot, .int .i64 t.kind, .int .i64 t.who, .int .i64 t.lab, .int .i64 t.slot] 89)).heap[w.heap.size + 1]? = some (.cells #[.int .i64 t.kind, .int .i64 t.who, .int .i64 t.lab, .int .i64 t.slot] 89 (0, 0)) := by
    have a := heap_alloc2_new w (.cells #[.int .i64 f.kind, .int .i64 f.who, .int .i64 f.lab, .int .i64 f.slot] 89) (.cells #[.int .i64 t.kind, .int .i64 t.who, .int .i64 t.lab, .int .i64 t.slot] 89)
    exact keepB a (by unfold Grew; go_grown)
  have HM := Lib.hid (may_any v _ l [f, t] _ (hl.grew g2) hz hrow)
  have HB := Lib.hid bf
  have HT := Lib.hid bt
  have G2 := Lib.hid g2
  have HL := Lib.hid hl
  have HS := Lib.hid (fun W (hg : Grew w W) => hasi_any v l i f W (hl.grew hg) hn)
  have HROW := Lib.hid (fun W (hg : Grew w W) => row_any W v l (hl.grew hg) hn)
  have HPUT := Lib.hid (fun W b k x (hr : Row W b l) hk => put_any W b l k x hr hk hn)
  have HG := Lib.hid (fun s W => item_any t s W)
  rw [fields_of] at HS HG
  rw [fields_of, fields_of]
  have hsz : ((w.alloc (.cells #[.int .i64 f.kind, .int .i64 f.who, .int .i64 f.lab, .int .i64 f.slot] 89)).alloc (.cells #[.int .i64 t.kind, .int .i64 t.who, .int .i64 t.lab, .int .i64 t.slot] 89)).heap.size = w.heap.size + 2 := by simp
  rw [hsz] at HM
  unfold moveP mayP
  have HE := Lib.hid (fun (h : i ∈ slotsOf l f) => slots_lt h)
  generalize hp : (okL l && [f, t].all okH) = p at *
  generalize hq : decide (i ∈ slotsOf l f) = q at *
  obtain ⟨A, c, rfl, _⟩ := hl.slice
  clear g1 g2 hrow bf bt hl hz hsz hp
  cases p with
  | false =>
    clear hq
    simp only [if_true]
    go_enter Try.func69, Try.ntmps69
    go_wp2_with fail
    refine HM.out.mono ?_
    rintro e w1 ⟨rfl, hg⟩
    have G3 := Lib.hid (G2.out.trans hg)
    clear hg
    go_wp2
    go_returns
    exact ⟨_, rfl, rw_none _, G3.out⟩
  | true =>
    cases q with
    | false =>
      clear hq
      simp only [if_true, Bool.true_eq_false, if_false]
      go_enter Try.func69, Try.ntmps69
      go_wp2_with fail
      refine HM.out.mono ?_
      rintro e w1 ⟨rfl, hg⟩
      have G3 := Lib.hid (G2.out.trans hg)
      obtain ⟨c0, c1, c2, c3⟩ := ho_cells (keepB HB.out hg)
      clear hg
      go_wp2_with fail
      refine (HS.out _ G3.out).mono ?_
      rintro e w2 ⟨rfl, hg⟩
      have G4 := Lib.hid (G3.out.trans hg)
      clear hg c0 c1 c2 c3
      go_wp2
      go_returns
      exact ⟨_, rfl, rw_none _, G4.out⟩
    | true =>
      obtain ⟨k, rfl, hk, _⟩ := HE.out (of_decide_eq_true hq)
      clear hq HE
      simp only [Bool.true_eq_false, if_false, Int.toNat_natCast]
      have HK := Lib.hid hk
      have hx : l[k]? = some (el l k) := by unfold el; rw [List.getElem?_eq_getElem hk]; rfl
      obtain ⟨ad, c9, e, hc, _, d1, _⟩ := Its_at HL.out hx
      injection e with e1 _ e3
      subst e1 e3
      have hk' : (k : Int) < (l.length : Int) := by omega
      have HGI := Lib.hid (fun W => HG.out (el l k).name W)
      have HP2 := Lib.hid (fun W b hr => HPUT.out W b k (giv t (el l k).name) hr hk)
      rw [giv_val] at HP2
      have hgv : iv6 ⟨true, (el l k).name, t.kind, t.who, t.lab, t.slot⟩ = .agg #[.bool true, .string (el l k).name, .int .i64 t.kind, .int .i64 t.who, .int .i64 t.lab, .int .i64 t.slot] := rfl
      rw [hgv] at HGI
      generalize l.set k (giv t (el l k).name) = R at *
      generalize (el l k).name = s at *
      clear hx hk hgv HG HPUT HK
      go_enter Try.func69, Try.ntmps69
      go_wp2_with fail
      refine HM.out.mono ?_
      rintro e w1 ⟨rfl, hg⟩
      have G3 := Lib.hid (G2.out.trans hg)
      have HB2 := Lib.hid (keepB HB.out hg)
      have HT2 := Lib.hid (keepB HT.out hg)
      obtain ⟨c0, c1, c2, c3⟩ := ho_cells HB2.out
      clear hg
      go_wp2_with fail
      refine (HS.out _ G3.out).mono ?_
      rintro e w2 ⟨rfl, hg⟩
      have G4 := Lib.hid (G3.out.trans hg)
      have HT3 := Lib.hid (keepB HT2.out hg)
      clear hg c0 c1 c2 c3
      obtain ⟨c0, c1, c2, c3⟩ := ho_cells HT3.out
      have d1' := cellB G4.out d1
      go_wp2
      refine Facts.wp_region_text (by kernel_rfl) (by kernel_rfl) ?_
      apply Facts.Lex.exact [] _ (by kernel_rfl)
      · intro u W hC _
        unfold Facts.one
        go_simp
        first | exact ⟨Grew.refl _, rfl⟩ | rfl
      simp only [Act.put, List.setIfInBounds_toArray, List.set_cons_zero, List.set_cons_succ, Nat.zero_add]
      refine Facts.Lex.know [] (fun v w => ∃ b, v = .pointer (some ⟨b, 0, none⟩) ∧ Row w b l) (by kernel_rfl) (fun _ _ _ ⟨b, e, h⟩ hg => ⟨b, e, h.grew hg⟩) ?_ ?_
      · intro u W hC hK
        unfold Facts.one
        go_simp
        refine (HROW.out W (G4.out.trans hC)).mono ?_
        rintro e w' ⟨b, rfl, hr, hg⟩
        exact ⟨_, rfl, hg, b, rfl, hr⟩
      simp only [Act.put, List.setIfInBounds_toArray, List.set_cons_zero, List.set_cons_succ, Nat.reduceAdd]
      apply Facts.Lex.exact [] _ (by kernel_rfl)
      · intro u W hC _
        unfold Facts.one
        go_simp
        first | exact ⟨Grew.refl _, rfl⟩ | rfl
      simp only [Act.put, List.setIfInBounds_toArray, List.set_cons_zero, List.set_cons_succ, Nat.reduceAdd]
      apply Facts.Lex.exact [] _ (by kernel_rfl)
      · intro u W hC _
        have j0 := cellB hC c0
        have j1 := cellB hC c1
        have j2 := cellB hC c2
        have j3 := cellB hC c3
        have j4 := cellB hC d1'
        unfold Facts.one
        go_simp
        first | exact ⟨Grew.refl _, rfl⟩ | rfl
      simp only [Act.put, List.setIfInBounds_toArray, List.set_cons_zero, List.set_cons_succ, Nat.reduceAdd]
      apply Facts.Lex.exact [] _ (by kernel_rfl)
      · intro u W hC _
        unfold Facts.one
        go_simp
        first | exact ⟨Grew.refl _, rfl⟩ | rfl
      simp only [Act.put, List.setIfInBounds_toArray, List.set_cons_zero, List.set_cons_succ, Nat.reduceAdd]
      apply Facts.Lex.exact [] _ (by kernel_rfl)
      · intro u W hC _
        unfold Facts.one
        go_simp
        first | exact ⟨Grew.refl _, rfl⟩ | rfl
      simp only [Act.put, List.setIfInBounds_toArray, List.set_cons_zero, List.set_cons_succ, Nat.reduceAdd]
      apply Facts.Lex.exact [] _ (by kernel_rfl)
      · intro u W hC _
        have j0 := cellB hC c0
        have j1 := cellB hC c1
        have j2 := cellB hC c2
        have j3 := cellB hC c3
        have j4 := cellB hC d1'
        unfold Facts.one
        go_simp
        first | exact ⟨Grew.refl _, rfl⟩ | rfl
      simp only [Act.put, List.setIfInBounds_toArray, List.set_cons_zero, List.set_cons_succ, Nat.reduceAdd]
      apply Facts.Lex.exact [] _ (by kernel_rfl)
      · intro u W hC _
        have j0 := cellB hC c0
        have j1 := cellB hC c1
        have j2 := cellB hC c2
        have j3 := cellB hC c3
        have j4 := cellB hC d1'
        unfold Facts.one
        go_simp
        first | exact ⟨Grew.refl _, rfl⟩ | rfl
      simp only [Act.put, List.setIfInBounds_toArray, List.set_cons_zero, List.set_cons_succ, Nat.reduceAdd]
      apply Facts.Lex.exact [] _ (by kernel_rfl)
      · intro u W hC _
        have j0 := cellB hC c0
        have j1 := cellB hC c1
        have j2 := cellB hC c2
        have j3 := cellB hC c3
        have j4 := cellB hC d1'
        unfold Facts.one
        go_simp
        first | exact ⟨Grew.refl _, rfl⟩ | rfl
      simp only [Act.put, List.setIfInBounds_toArray, List.set_cons_zero, List.set_cons_succ, Nat.reduceAdd]
      apply Facts.Lex.exact [] _ (by kernel_rfl)
      · intro u W hC _
        unfold Facts.one
        go_simp
        exact ((HGI.out W).mono fun e w' ⟨he, hg⟩ => ⟨_, he, hg, rfl⟩)
      simp only [Act.put, List.setIfInBounds_toArray, List.set_cons_zero, List.set_cons_succ, Nat.reduceAdd]
      refine Facts.Lex.know [1] (fun v w => ∃ v', v = .tuple #[v', .int .i64 0] ∧ Its w v' R) (by kernel_rfl) (fun _ _ _ ⟨b, e, h⟩ hg => ⟨b, e, h.grew hg⟩) ?_ ?_
      · intro u W hC hK
        obtain ⟨b, e1, hr⟩ : ∃ b, u 1 = .pointer (some ⟨b, 0, none⟩) ∧ Row W b l := hK.1
        have HPW := Lib.hid (HP2.out W b hr)
        clear hr hK
        unfold Facts.one
        go_simp
        refine HPW.out.mono ?_
        rintro e w' ⟨v', rfl, hi, hg⟩
        exact ⟨_, rfl, hg, v', rfl, hi⟩
      simp only [Act.put, List.setIfInBounds_toArray, List.set_cons_zero, List.set_cons_succ, Nat.reduceAdd]
      refine Facts.Lex.know [10] (fun v w => Its w v R) (by kernel_rfl) (fun _ _ _ h hg => h.grew hg) ?_ ?_
      · intro u W hC hK
        obtain ⟨v', e1, hr⟩ : ∃ v', u 10 = .tuple #[v', .int .i64 0] ∧ Its W v' R := hK.1
        have HR := Lib.hid hr
        clear hr hK
        unfold Facts.one
        go_simp
        exact ⟨Grew.refl _, HR.out⟩
      simp only [Act.put, List.setIfInBounds_toArray, List.set_cons_zero, List.set_cons_succ, Nat.reduceAdd]
      apply Facts.Lex.exact [10] _ (by kernel_rfl)
      · intro u W hC hK
        obtain ⟨v', e1, hr⟩ : ∃ v', u 10 = .tuple #[v', .int .i64 0] ∧ Its W v' R := hK.1
        clear hr hK
        unfold Facts.one
        go_simp
        exact ⟨Grew.refl _, rfl⟩
      simp only [Act.put, List.setIfInBounds_toArray, List.set_cons_zero, List.set_cons_succ, Nat.reduceAdd]
      refine Facts.Lex.know [11] (fun v w => Its w v R) (by kernel_rfl) (fun _ _ _ h hg => h.grew hg) ?_ ?_
      · intro u W hC hK
        have HR : Hid (Its W (u 11) R) := Lib.hid hK.1
        clear hK
        unfold Facts.one
        go_simp
        exact ⟨Grew.refl _, HR.out⟩
      simp only [Act.put, List.setIfInBounds_toArray, List.set_cons_zero, List.set_cons_succ, Nat.reduceAdd]
      apply Facts.Lex.exact [] _ (by kernel_rfl)
      · intro u W hC _
        unfold Facts.one
        go_simp
        first | exact ⟨Grew.refl _, rfl⟩ | rfl
      simp only [Act.put, List.setIfInBounds_toArray, List.set_cons_zero, List.set_cons_succ, Nat.reduceAdd]
      refine Facts.Lex.done fun u W2 hC hL => ?_
      have HR : Hid (Its W2 (u 13) R) := Lib.hid (hL _ (List.mem_cons_self ..))
      have G5 := Lib.hid (G4.out.trans hC)
      clear hC hL c0 c1 c2 c3 d1 d1'
      generalize u 13 = v13 at *
      go_wp2
      go_returns
      exact ⟨_, rfl, HR.out, G5.out⟩
end Go.Proofs.Ytaolallfmjjoeaa.TJ
