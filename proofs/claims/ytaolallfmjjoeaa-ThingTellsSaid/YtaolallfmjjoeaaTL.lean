/-
  All that a trade holds is let go.
  Conditions: those that each lemma names.
-/
import Derived.Test.YtaolallfmjjoeaaTK
import Derived.Test.YtaolallfmjjoeaaMarks
namespace Go.Proofs.Ytaolallfmjjoeaa.TL
set_option maxRecDepth 100000
open Go Go.RowKit Go.Lib Go.Proofs.Ytaolallfmjjoeaa Go.Proofs.Ytaolallfmjjoeaa.Facts Go.Proofs.Ytaolallfmjjoeaa.Ints Go.Proofs.Ytaolallfmjjoeaa.TI Go.Proofs.Ytaolallfmjjoeaa.TP Go.Proofs.Ytaolallfmjjoeaa.TB Go.Proofs.Ytaolallfmjjoeaa.TC Go.Proofs.Ytaolallfmjjoeaa.TD Go.Proofs.Ytaolallfmjjoeaa.TE Go.Proofs.Ytaolallfmjjoeaa.TF Go.Proofs.Ytaolallfmjjoeaa.TG Go.Proofs.Ytaolallfmjjoeaa.TH Go.Proofs.Ytaolallfmjjoeaa.TJ Go.Proofs.Ytaolallfmjjoeaa.TK Go.Proofs.Ytaolallfmjjoeaa.Bytes


/-- The list, when the first k of these slots are in the hand of another one. -/
def fl (l : List It) (t : Ho) (S : List Int) (k : Nat) : List It := (S.take k).foldl (fun o i => o.set i.toNat (giv t (el l i.toNat).name)) l
theorem fl_zero (l : List It) (t : Ho) (S : List Int) : fl l t S 0 = l := rfl
theorem fl_succ (l : List It) (t : Ho) (S : List Int) (k : Nat) (hk : k < S.length) : fl l t S (k + 1) = (fl l t S k).set S[k].toNat (giv t (el l S[k].toNat).name) := by
  unfold fl
  rw [List.take_succ_eq_append_getElem hk, List.foldl_append]
  rfl
theorem fold_len (l : List It) (t : Ho) : ∀ (S : List Int) (o : List It), (S.foldl (fun o i => o.set i.toNat (giv t (el l i.toNat).name)) o).length = o.length
  | [], _ => rfl
  | i :: S, o => by rw [List.foldl_cons, fold_len l t S, List.length_set]
theorem fl_len (l : List It) (t : Ho) (S : List Int) (k : Nat) : (fl l t S k).length = l.length := fold_len ..
/-- Free's answer. -/
def freeP (l : List It) (d n : Int) : List It × Int := if mayP l [deal d, hand n] = false then ([], 1) else (fl l (hand n) (slotsOf l (deal d)) (slotsOf l (deal d)).length, 0)
theorem own_grew6 {W W' : World} {base : Nat} {v : Value} {l : List It} (h : OwnI W base v l) (hg : Grew W W') : OwnI W' base v l := by
  refine ⟨h.1, h.2.imp id fun ⟨g, cap, cur, h1, h2, h3, h4⟩ => ⟨g, cap, cur, h1, h2, ?_, h4⟩⟩
  exact blk_keep h3 hg
structure FJ (base : Nat) (w : World) (ov : Value) (n : Nat) (bs : Nat) (sv : Value) (S : List Int) (o1 o2 : List It) (m : Nat → Bool) (W : World) : Prop where
  own : W.ownsRow base 67 6 ov n ((if m 11 = true then o2 else o1).flatMap ics)
  below : Below base w W
  size : base ≤ W.heap.size
  keeps : IsB bs W sv S
theorem own_grew7 {W W' : World} {base n : Nat} {v : Value} {xs : List Value} (h : W.ownsRow base 67 6 v n xs) (hg : Grew W W') : W'.ownsRow base 67 6 v n xs := by
  refine ⟨h.1, h.2.imp id fun ⟨g, cap, cur, h1, h2, h3, h4⟩ => ⟨g, cap, cur, h1, h2, ?_, h4⟩⟩
  exact blk_keep h3 hg
section
variable {base n bs : Nat} {w W W' : World} {ov sv : Value} {S : List Int} {o1 o2 : List It} {m : Nat → Bool}
theorem FJ.keep (h : FJ base w ov n bs sv S o1 o2 m W) (k : Nat) (hk : 11 ≠ k) (hg : Grew W W') : FJ base w ov n bs sv S o1 o2 (Marks.upd m k) W' where
  own := by rw [Marks.upd_other m hk]; exact own_grew7 h.own hg
  below := h.below.trans (Below.mono hg h.size)
  size := Nat.le_trans h.size hg.size
  keeps := h.keeps.grew hg
theorem FJ.cell (h : FJ base w ov n bs sv S o1 o2 m W) (hb : w.heap.size ≤ base) {a : Addr} {v : Value} (hc : w.cell? a = some v) : W.cell? a = some v := cellB (Below.mono h.below hb) hc
end
theorem FJ.store {base n bs : Nat} {w W : World} {sv : Value} {S : List Int} {g cap j : Nat} {o1 : List It} {x : It} {m : Nat → Bool} (h : FJ base w (.slice (some ⟨g, 0, none⟩) n cap) n bs sv S o1 (o1.set j x) m W) (hm : m 11 = false) (hg : base ≤ g) (hgs : g < bs) :
    FJ base w (.slice (some ⟨g, 0, none⟩) n cap) n bs sv S o1 (o1.set j x) (Marks.upd m 11) ((((((W.setCell ⟨g, j * 6, none⟩ (.bool x.used)).setCell ⟨g, j * 6 + 1, none⟩ (.string x.name)).setCell ⟨g, j * 6 + 2, none⟩ (.int .i64 x.kind)).setCell ⟨g, j * 6 + 3, none⟩ (.int .i64 x.who)).setCell ⟨g, j * 6 + 4, none⟩ (.int .i64 x.lab)).setCell ⟨g, j * 6 + 5, none⟩ (.int .i64 x.slot)) := by
  have hown := h.own
  rw [hm] at hown
  simp only [Bool.false_eq_true, if_false] at hown
  obtain ⟨s0, _⟩ := hown.stored (j * 6) (.bool x.used)
  obtain ⟨s1, _⟩ := s0.stored (j * 6 + 1) (.string x.name)
  obtain ⟨s2, _⟩ := s1.stored (j * 6 + 2) (.int .i64 x.kind)
  obtain ⟨s3, _⟩ := s2.stored (j * 6 + 3) (.int .i64 x.who)
  obtain ⟨s4, _⟩ := s3.stored (j * 6 + 4) (.int .i64 x.lab)
  obtain ⟨s5, _⟩ := s4.stored (j * 6 + 5) (.int .i64 x.slot)
  rw [ics_set] at s5
  refine ⟨?_, ?_, ?_, ?_⟩
  · rw [Marks.upd_same, if_pos rfl]
    exact s5
  · exact ((((((h.below.setCell (p := ⟨g, j * 6, none⟩) hg _).setCell (p := ⟨g, j * 6 + 1, none⟩) hg _).setCell (p := ⟨g, j * 6 + 2, none⟩) hg _).setCell (p := ⟨g, j * 6 + 3, none⟩) hg _).setCell (p := ⟨g, j * 6 + 4, none⟩) hg _).setCell (p := ⟨g, j * 6 + 5, none⟩) hg _)
  · have := h.size
    simpa using this
  · exact (((((h.keeps.set hgs).set hgs).set hgs).set hgs).set hgs).set hgs

set_option maxHeartbeats 2000000 in
theorem free_any (v : Value) (l : List It) (d n : Int) (w : World) (hl : Its w v l) (hz : Sz l) (hn : l.length ≤ 1000) :
    Calls Try.prog 33 #[v, .int .i64 d, .int .i64 n] w (Ans (freeP l d n) w) := by
  have HD := Lib.hid (fun W => deal_any d W)
  have HH := Lib.hid (fun W => hand_any n W)
  unfold freeP
  generalize deal d = f at *
  generalize hand n = t at *
  have HM := Lib.hid (fun W (hg : Grew w W) => may_any v _ l [f, t] _ (hl.grew (hg.trans (show Grew W (W.alloc (.cells #[.int .i64 f.kind, .int .i64 f.who, .int .i64 f.lab, .int .i64 f.slot, .int .i64 t.kind, .int .i64 t.who, .int .i64 t.lab, .int .i64 t.slot] 89)) by unfold Grew; go_grown))) hz (hs_two W f t))
  have HCL := Lib.hid (fun W (hg : Grew w W) => clone_any W v l (hl.grew hg) hn)
  have HSL := Lib.hid (fun W (hg : Grew w W) => slots_h f l v W (hl.grew hg) hn)
  have HG := Lib.hid (fun s W => item_any t s W)
  rw [fields_of] at HD HH HSL HG
  unfold mayP
  have HE := Lib.hid (fun i (h : i ∈ slotsOf l f) => slots_lt h)
  have hsn : (slotsOf l f).length ≤ 1000 := Nat.le_trans (List.length_filter_le _ _) (Nat.le_trans (upto_len l _) hn)
  have HLS := Lib.hid hl
  generalize hp : (okL l && [f, t].all okH) = p at *
  obtain ⟨A, c, rfl, _⟩ := hl.slice
  clear hl hp
  cases p with
  | false =>
    simp only [if_true]
    go_enter Try.func33, Try.ntmps33
    go_wp2_with fail
    refine (HD.out _).mono ?_
    rintro e w1 ⟨rfl, hg⟩
    have G1 := Lib.hid hg
    clear hg
    go_wp2_with fail
    refine (HH.out _).mono ?_
    rintro e w2 ⟨rfl, hg⟩
    have hg2 := G1.out.trans hg
    have HM1 := Lib.hid (HM.out w2 hg2)
    have g1 : Grew w2 (w2.alloc (.cells #[.int .i64 f.kind, .int .i64 f.who, .int .i64 f.lab, .int .i64 f.slot, .int .i64 t.kind, .int .i64 t.who, .int .i64 t.lab, .int .i64 t.slot] 89)) := by unfold Grew; go_grown
    have G2 := Lib.hid (hg2.trans g1)
    clear hg hg2 g1
    go_wp2_with fail
    refine HM1.out.mono ?_
    rintro e w3 ⟨rfl, hg⟩
    have G3 := Lib.hid (G2.out.trans hg)
    clear hg
    go_wp2
    go_returns
    exact ⟨_, rfl, rw_none _, G3.out⟩
  | true =>
    simp only [Bool.true_eq_false, if_false]
    generalize hS : slotsOf l f = S at *
    clear hS
    go_enter Try.func33, Try.ntmps33
    go_wp2_with fail
    refine (HD.out _).mono ?_
    rintro e w1 ⟨rfl, hg⟩
    have G1 := Lib.hid hg
    clear hg
    go_wp2_with fail
    refine (HH.out _).mono ?_
    rintro e w2 ⟨rfl, hg⟩
    have hg2 := G1.out.trans hg
    have HM1 := Lib.hid (HM.out w2 hg2)
    have g1 : Grew w2 (w2.alloc (.cells #[.int .i64 f.kind, .int .i64 f.who, .int .i64 f.lab, .int .i64 f.slot, .int .i64 t.kind, .int .i64 t.who, .int .i64 t.lab, .int .i64 t.slot] 89)) := by unfold Grew; go_grown
    have G2 := Lib.hid (hg2.trans g1)
    clear hg hg2 g1
    go_wp2_with fail
    refine HM1.out.mono ?_
    rintro e w3 ⟨rfl, hg⟩
    have G3 := Lib.hid (G2.out.trans hg)
    clear hg
    go_wp2_with fail
    refine (HCL.out _ G3.out).mono ?_
    rintro e w4 ⟨ov, rfl, hown, hg⟩
    have HO4 := Lib.hid hown
    have HB4 : Hid (Below w3.heap.size w3 w4) := Lib.hid hg
    have G4 := Lib.hid (G3.out.trans hg)
    obtain ⟨A4, c4, rfl, _⟩ := id (Its.of_own hown).slice
    have HLT4 : Hid (∀ gb, A4 = some ⟨gb, 0, none⟩ → gb < w4.heap.size) := Lib.hid fun gb h => by
      subst h
      rcases hown.2 with ⟨e, _⟩ | ⟨g, cap, cur, e, _, h3, _⟩
      · cases e
      · injection e with e1 _ _
        injection e1 with e1
        injection e1 with e1 _ _
        subst e1
        exact (Array.getElem?_eq_some_iff.1 h3).1
    clear hg hown
    go_wp2_with fail
    refine (HD.out _).mono ?_
    rintro e w5 ⟨rfl, hg⟩
    have HO5 := Lib.hid (own_grew6 HO4.out hg)
    have HB5 : Hid (Grew w3 w5) := Lib.hid (Grew.trans HB4.out hg)
    have G5 := Lib.hid (G4.out.trans hg)
    have HLT5 : Hid (∀ gb, A4 = some ⟨gb, 0, none⟩ → gb < w5.heap.size) := Lib.hid fun gb h => Nat.lt_of_lt_of_le (HLT4.out gb h) hg.size
    clear hg HLT4
    go_wp2_with fail
    refine (HSL.out _ G5.out).mono ?_
    rintro e w6 ⟨sv, rfl, hi, hg⟩
    have HO6 := Lib.hid (own_grew6 HO5.out hg)
    have HB6 : Hid (Grew w3 w6) := Lib.hid (Grew.trans HB5.out hg)
    have G6 := Lib.hid (G5.out.trans hg)
    have HI := Lib.hid hi
    obtain ⟨A6, c6, rfl, hc6, _⟩ := Is.slice hi.is
    clear hg hi
    go_wp2
    go_loopg [26] S.length (fun gg s26 wx => ∃ (k : Nat), s26 = .int .i64 k ∧ k + gg = S.length ∧ Hid (OwnI wx w3.heap.size (.slice A4 l.length c4) (fl l t S k)) ∧ Hid (Grew w3 wx) ∧ Hid (IsB w5.heap.size wx (.slice A6 S.length c6) S))
    case atStart => exact ⟨0, rfl, by omega, HO6, HB6, HI⟩
    case round =>
      obtain ⟨k, rfl, hkg, HO, HB, HKS⟩ := hrel
      cases gk with
      | zero =>
        have hkz : ¬ ((k : Int) < (S.length : Int)) := by omega
        have hk : k = S.length := by omega
        have HE2 : Hid (Its wr (.slice A4 l.length c4) (fl l t S S.length)) := Lib.hid (by
          rw [← hk]
          exact Its.of_own HO.out)
        have G7 := Lib.hid (G3.out.trans HB.out)
        clear hk
        generalize fl l t S S.length = R at *
        go_wp2
        go_returns
        exact ⟨_, rfl, HE2.out, G7.out⟩
      | succ g =>
        have hkl : k < S.length := by omega
        have hkz : (k : Int) < (S.length : Int) := by omega
        have hx : S[k]? = some S[k] := List.getElem?_eq_getElem hkl
        obtain ⟨ad6, c7, e6, hc7, c0⟩ := Is_at HKS.out.is hx
        injection e6 with e1 _ e3
        subst e1 e3
        obtain ⟨j, hj, hjl, _⟩ := HE.out S[k] (List.getElem_mem hkl)
        have hfl := fl_len l t S k
        have hsucc := fl_succ l t S k hkl
        rw [hj] at c0 hsucc
        rw [Int.toNat_natCast] at hsucc
        have hkw : wrap64 ((k : Int) + 1) = ((k + 1 : Nat) : Int) := wr1 hkl hsn
        have HKW := Lib.hid hkw
        have hxl : l[j]? = some (el l j) := by unfold el; rw [List.getElem?_eq_getElem hjl]; rfl
        obtain ⟨ad, c8, e8, hc8, _, d1, _⟩ := Its_at (HLS.out.grew G3.out) hxl
        injection e8 with e1 _ e3
        subst e1 e3
        have hform : ∃ gb, A4 = some ⟨gb, 0, none⟩ ∧ w3.heap.size ≤ gb := by
          obtain ⟨gb, cap, e, h1, _⟩ := HO.out.form (by rw [hfl]; omega)
          injection e with e1 _ _
          exact ⟨gb, e1, h1⟩
        obtain ⟨gb, rfl, hgb⟩ := hform
        have HBG := Lib.hid hgb
        have HGS := Lib.hid (HLT5.out gb rfl)
        have HGI := Lib.hid (fun W => HG.out (el l j).name W)
        have hgv : iv6 ⟨true, (el l j).name, t.kind, t.who, t.lab, t.slot⟩ = .agg #[.bool true, .string (el l j).name, .int .i64 t.kind, .int .i64 t.who, .int .i64 t.lab, .int .i64 t.slot] := rfl
        rw [hgv] at HGI
        have HSU := Lib.hid hsucc
        have hLT : j < (fl l t S k).length := by rw [hfl]; exact hjl
        have HLT := Lib.hid hLT
        have HLE := Lib.hid hfl
        have hjz : (j : Int) < (l.length : Int) := by omega
        have HJ0 : Hid (FJ w3.heap.size w3 (.slice (some ⟨gb, 0, none⟩) l.length c4) l.length w5.heap.size (.slice (some ad6) S.length c6) S (fl l t S k) ((fl l t S k).set j (giv t (el l j).name)) (fun _ => false) wr.drew) := Lib.hid ⟨by
            have := own_grew6 HO.out (Grew.refl _).drew
            unfold OwnI at this
            rw [hfl] at this
            exact this, (show Below w3.heap.size w3 wr from HB.out).drew, HB.out.size, HKS.out.grew (Grew.refl _).drew⟩
        have HWB : Hid (w3.heap.size ≤ w3.heap.size) := Lib.hid (Nat.le_refl _)
        clear hfl hsucc hxl hx hgv hLT hkw HO hgb hj
        generalize fl l t S k = o1 at *
        have hgn : giv t (el l j).name = ⟨true, (el l j).name, t.kind, t.who, t.lab, t.slot⟩ := rfl
        rw [hgn] at HJ0 HSU
        generalize (el l j).name = s at *
        clear hgn
        go_wp2
        refine Marks.wp_region_text (fun m _ W => FJ w3.heap.size w3 (.slice (some ⟨gb, 0, none⟩) l.length c4) l.length w5.heap.size (.slice (some ad6) S.length c6) S o1 (o1.set j ⟨true, s, t.kind, t.who, t.lab, t.slot⟩) m W) (fun _ _ => True) (by kernel_rfl) (by kernel_rfl) HJ0.out ?_
        apply Marks.Lex.exact [] (_) (by kernel_rfl)
        · intro m u W hm hcl hJ _
          unfold Marks.one
          go_simp
          exact ⟨trivial, hJ.keep 0 (by decide) (Grew.refl _), rfl⟩
        simp only [Act.put, List.setIfInBounds_toArray, List.set_cons_zero, List.set_cons_succ, Nat.zero_add]
        apply Marks.Lex.exact [] (_) (by kernel_rfl)
        · intro m u W hm hcl hJ _
          unfold Marks.one
          go_simp
          exact ⟨trivial, hJ.keep 1 (by decide) (Grew.refl _), rfl⟩
        simp only [Act.put, List.setIfInBounds_toArray, List.set_cons_zero, List.set_cons_succ, Nat.reduceAdd]
        apply Marks.Lex.exact [] (_) (by kernel_rfl)
        · intro m u W hm hcl hJ _
          unfold Marks.one
          go_simp
          exact ⟨trivial, hJ.keep 2 (by decide) (Grew.refl _), rfl⟩
        simp only [Act.put, List.setIfInBounds_toArray, List.set_cons_zero, List.set_cons_succ, Nat.reduceAdd]
        apply Marks.Lex.exact [] (_) (by kernel_rfl)
        · intro m u W hm hcl hJ _
          unfold Marks.one
          go_simp
          exact ((HH.out W).mono fun e w' ⟨he, hg⟩ => ⟨_, he, trivial, hJ.keep 3 (by decide) hg, rfl⟩)
        simp only [Act.put, List.setIfInBounds_toArray, List.set_cons_zero, List.set_cons_succ, Nat.reduceAdd]
        apply Marks.Lex.exact [] (_) (by kernel_rfl)
        · intro m u W hm hcl hJ _
          unfold Marks.one
          go_simp
          exact ⟨trivial, hJ.keep 4 (by decide) (Grew.refl _), rfl⟩
        simp only [Act.put, List.setIfInBounds_toArray, List.set_cons_zero, List.set_cons_succ, Nat.reduceAdd]
        apply Marks.Lex.exact [] (_) (by kernel_rfl)
        · intro m u W hm hcl hJ _
          unfold Marks.one
          go_simp
          exact ⟨trivial, hJ.keep 5 (by decide) (Grew.refl _), rfl⟩
        simp only [Act.put, List.setIfInBounds_toArray, List.set_cons_zero, List.set_cons_succ, Nat.reduceAdd]
        apply Marks.Lex.exact [] (_) (by kernel_rfl)
        · intro m u W hm hcl hJ _
          unfold Marks.one
          go_simp
          exact ⟨trivial, hJ.keep 6 (by decide) (Grew.refl _), rfl⟩
        simp only [Act.put, List.setIfInBounds_toArray, List.set_cons_zero, List.set_cons_succ, Nat.reduceAdd]
        apply Marks.Lex.exact [] (_) (by kernel_rfl)
        · intro m u W hm hcl hJ _
          unfold Marks.one
          go_simp
          exact ⟨trivial, hJ.keep 7 (by decide) (Grew.refl _), rfl⟩
        simp only [Act.put, List.setIfInBounds_toArray, List.set_cons_zero, List.set_cons_succ, Nat.reduceAdd]
        apply Marks.Lex.exact [] (_) (by kernel_rfl)
        · intro m u W hm hcl hJ _
          have j0 := hJ.cell HWB.out d1
          unfold Marks.one
          go_simp
          exact ⟨trivial, hJ.keep 8 (by decide) (Grew.refl _), rfl⟩
        simp only [Act.put, List.setIfInBounds_toArray, List.set_cons_zero, List.set_cons_succ, Nat.reduceAdd]
        apply Marks.Lex.exact [] (_) (by kernel_rfl)
        · intro m u W hm hcl hJ _
          unfold Marks.one
          go_simp
          exact ((HGI.out W).mono fun e w' ⟨he, hg⟩ => ⟨_, he, trivial, hJ.keep 9 (by decide) hg, rfl⟩)
        simp only [Act.put, List.setIfInBounds_toArray, List.set_cons_zero, List.set_cons_succ, Nat.reduceAdd]
        apply Marks.Lex.exact [] (_) (by kernel_rfl)
        · intro m u W hm hcl hJ _
          unfold Marks.one
          go_simp
          exact ⟨trivial, hJ.keep 10 (by decide) (Grew.refl _), rfl⟩
        simp only [Act.put, List.setIfInBounds_toArray, List.set_cons_zero, List.set_cons_succ, Nat.reduceAdd]
        apply Marks.Lex.exact [] (_) (by kernel_rfl)
        · intro m u W hm hcl hJ _
          have hown := hJ.own
          rw [hm] at hown
          simp only [Bool.false_eq_true, if_false] at hown
          have r0 := hown.cellAt (j * 6 + 0) (by have := HLT.out; have := HLE.out; omega)
          rw [flat_get ics 6 (fun _ => rfl) o1 j 0 (el o1 j) (by unfold el; rw [List.getElem?_eq_getElem HLT.out]; rfl) (by decide)] at r0
          have f0 := hown.frozenAt (j * 6 + 0)
          have r1 := hown.cellAt (j * 6 + 1) (by have := HLT.out; have := HLE.out; omega)
          rw [flat_get ics 6 (fun _ => rfl) o1 j 1 (el o1 j) (by unfold el; rw [List.getElem?_eq_getElem HLT.out]; rfl) (by decide)] at r1
          have f1 := hown.frozenAt (j * 6 + 1)
          have r2 := hown.cellAt (j * 6 + 2) (by have := HLT.out; have := HLE.out; omega)
          rw [flat_get ics 6 (fun _ => rfl) o1 j 2 (el o1 j) (by unfold el; rw [List.getElem?_eq_getElem HLT.out]; rfl) (by decide)] at r2
          have f2 := hown.frozenAt (j * 6 + 2)
          have r3 := hown.cellAt (j * 6 + 3) (by have := HLT.out; have := HLE.out; omega)
          rw [flat_get ics 6 (fun _ => rfl) o1 j 3 (el o1 j) (by unfold el; rw [List.getElem?_eq_getElem HLT.out]; rfl) (by decide)] at r3
          have f3 := hown.frozenAt (j * 6 + 3)
          have r4 := hown.cellAt (j * 6 + 4) (by have := HLT.out; have := HLE.out; omega)
          rw [flat_get ics 6 (fun _ => rfl) o1 j 4 (el o1 j) (by unfold el; rw [List.getElem?_eq_getElem HLT.out]; rfl) (by decide)] at r4
          have f4 := hown.frozenAt (j * 6 + 4)
          have r5 := hown.cellAt (j * 6 + 5) (by have := HLT.out; have := HLE.out; omega)
          rw [flat_get ics 6 (fun _ => rfl) o1 j 5 (el o1 j) (by unfold el; rw [List.getElem?_eq_getElem HLT.out]; rfl) (by decide)] at r5
          have f5 := hown.frozenAt (j * 6 + 5)
          have HJ2 := Lib.hid (hJ.store hm HBG.out HGS.out)
          simp only [ics, List.getElem?_cons_zero, List.getElem?_cons_succ, Nat.add_zero] at r0 r1 r2 r3 r4 r5 f0
          clear hown hJ
          unfold Marks.one
          go_simp
          exact ⟨trivial, HJ2.out, rfl⟩
        simp only [Act.put, Nat.reduceAdd]
        refine Marks.Lex.done fun m u W2 hm hJ hL => ?_
        have hown := hJ.own
        rw [hm 11 (by decide), if_pos rfl] at hown
        have HO3 := Lib.hid hown
        have HB3 := Lib.hid hJ.below
        have HS3 := Lib.hid hJ.keeps
        clear hm hJ hL hown d1

        go_wp2
        go_roundg g
        case measure => omega
        case rel =>
          refine ⟨k + 1, by first | (simp; done) | rw [HKW.out], by omega, ?_, HB3, HS3⟩
          rw [HSU.out]
          refine Lib.hid ?_
          unfold OwnI
          rw [List.length_set, HLE.out]
          exact HO3.out
end Go.Proofs.Ytaolallfmjjoeaa.TL
