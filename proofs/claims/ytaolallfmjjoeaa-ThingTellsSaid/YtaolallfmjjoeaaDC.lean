/-
  What is done with an item, as the document answers: scrapped, dropped, taken, given.
  Conditions: those that each lemma names.
-/
import Derived.Test.YtaolallfmjjoeaaDB
namespace Go.Proofs.Ytaolallfmjjoeaa.DC
set_option maxRecDepth 100000
open Go Go.RowKit Go.Lib Go.Proofs.Ytaolallfmjjoeaa Go.Proofs.Ytaolallfmjjoeaa.Facts Go.Proofs.Ytaolallfmjjoeaa.Ints Go.Proofs.Ytaolallfmjjoeaa.TI Go.Proofs.Ytaolallfmjjoeaa.TP Go.Proofs.Ytaolallfmjjoeaa.TB Go.Proofs.Ytaolallfmjjoeaa.TC Go.Proofs.Ytaolallfmjjoeaa.TD Go.Proofs.Ytaolallfmjjoeaa.TE Go.Proofs.Ytaolallfmjjoeaa.TF Go.Proofs.Ytaolallfmjjoeaa.TG Go.Proofs.Ytaolallfmjjoeaa.TH Go.Proofs.Ytaolallfmjjoeaa.TJ Go.Proofs.Ytaolallfmjjoeaa.TK Go.Proofs.Ytaolallfmjjoeaa.TL Go.Proofs.Ytaolallfmjjoeaa.DA Go.Proofs.Ytaolallfmjjoeaa.DB Go.Proofs.Ytaolallfmjjoeaa.Bytes


theorem num0 : num 0 = true := by decide
theorem okH_hand (n : Int) : okH (hand n) = num n := by
  unfold hand
  rw [okH_is]
  simp [num0]
theorem okH_deal (n : Int) : okH (deal n) = num n := by
  unfold deal
  rw [okH_is]
  simp [num0]
theorem okH_floor (a b : Int) : okH (floor a b) = (num a && num b) := by
  unfold floor
  rw [okH_is]
  simp [num0]
theorem may1 (l : List It) (f : Ho) : mayP l [f] = (okL l && okH f) := by unfold mayP; simp
theorem may2 (l : List It) (f t : Ho) : mayP l [f, t] = (okL l && okH f && okH t) := by unfold mayP; simp [Bool.and_assoc]
theorem in_is {l : List It} (h : okL l = true) (i n : Int) : decide (i ∈ slotsOf l (hand n)) = inH l i n := by
  rw [Bool.eq_iff_iff, decide_eq_true_iff]
  unfold inH
  simp only [Bool.and_eq_true, decide_eq_true_eq]
  constructor
  · intro hi
    obtain ⟨j, rfl, hj, hu, hh⟩ := slots_lt hi
    rw [Int.toNat_natCast]
    exact ⟨⟨⟨⟨by omega, by omega⟩, hu⟩, congrArg Ho.kind hh⟩, congrArg Ho.who hh⟩
  · rintro ⟨⟨⟨⟨h0, h1⟩, hu⟩, hk⟩, hw⟩
    obtain ⟨j, rfl⟩ := Int.eq_ofNat_of_zero_le h0
    rw [Int.toNat_natCast] at hu hk hw
    refine (slots_mem l (hand n) j (by omega)).2 ⟨hu, ?_⟩
    rcases kinds (okL_el h j) with ⟨h1, _⟩ | ⟨_, _, h3, _⟩ | ⟨_, h2, _⟩ | ⟨_, h2, _⟩
    · rw [hu] at h1; cases h1
    · rw [h3, hw]
    · omega
    · omega
def inF (l : List It) (i a b : Int) : Bool := decide (0 ≤ i) && decide (i < l.length) && (el l i.toNat).used && decide ((el l i.toNat).kind = 2) && (decide ((el l i.toNat).lab = a) && decide ((el l i.toNat).slot = b))
theorem in_floor {l : List It} (h : okL l = true) (i a b : Int) : decide (i ∈ slotsOf l (floor a b)) = inF l i a b := by
  rw [Bool.eq_iff_iff, decide_eq_true_iff]
  unfold inF
  simp only [Bool.and_eq_true, decide_eq_true_eq]
  constructor
  · intro hi
    obtain ⟨j, rfl, hj, hu, hh⟩ := slots_lt hi
    rw [Int.toNat_natCast]
    exact ⟨⟨⟨⟨by omega, by omega⟩, hu⟩, congrArg Ho.kind hh⟩, congrArg Ho.lab hh, congrArg Ho.slot hh⟩
  · rintro ⟨⟨⟨⟨h0, h1⟩, hu⟩, hk⟩, hw, hv⟩
    obtain ⟨j, rfl⟩ := Int.eq_ofNat_of_zero_le h0
    rw [Int.toNat_natCast] at hu hk hw hv
    refine (slots_mem l (floor a b) j (by omega)).2 ⟨hu, ?_⟩
    rcases kinds (okL_el h j) with ⟨h1, _⟩ | ⟨_, h2, _⟩ | ⟨_, _, h3⟩ | ⟨_, h2, _⟩
    · rw [hu] at h1; cases h1
    · omega
    · rw [h3, hw, hv]
    · omega
theorem inH_lt {l : List It} {i n : Int} (h : inH l i n = true) : ∃ k : Nat, i = k ∧ k < l.length := by
  unfold inH at h
  simp only [Bool.and_eq_true, decide_eq_true_eq] at h
  obtain ⟨⟨⟨⟨h0, h1⟩, _⟩, _⟩, _⟩ := h
  obtain ⟨j, rfl⟩ := Int.eq_ofNat_of_zero_le h0
  exact ⟨j, rfl, by omega⟩

set_option maxHeartbeats 1000000 in
theorem rscrap_any (v : Value) (l : List It) (i n : Int) (w : World) (hl : Its w v l) (hz : Sz l) (hn : l.length ≤ 1000) : Calls Try.prog 25 #[v, .int .i64 i, .int .i64 n] w (Ans (scrapP l i n) w) := by
  have HR := Lib.hid (fun W (hg : Grew w W) => rright_any v l W (hl.grew hg) hz hn)
  have HN := Lib.hid (fun W (_ : Grew w W) => rnum_any n W)
  have HI := Lib.hid (fun W (hg : Grew w W) => in_any v l i n W (hl.grew hg))
  have HSET := Lib.hid (fun W (hg : Grew w W) k hk => set_any v l k zit W (hl.grew hg) hk hn)
  have hzv : iv6 zit = .agg #[.bool false, .string ⟨#[]⟩, .int .i64 0, .int .i64 0, .int .i64 0, .int .i64 0] := rfl
  rw [hzv] at HSET
  have HIN := Lib.hid (fun h => @in_is l h i n)
  have HLT := Lib.hid (fun h => @inH_lt l i n h)
  unfold scrapP
  rw [may1, okH_hand]
  have G0 : Hid (Grew w w) := Lib.hid (Grew.refl w)
  generalize okL l = p at *
  generalize num n = q at *
  obtain ⟨A, c, rfl, _⟩ := hl.slice
  clear hl hz hn hzv
  cases p with
  | false =>
    simp only [Bool.false_and, if_true]
    go_enter Try.func25, Try.ntmps25
    go_wp2_with fail
    refine (HR.out _ G0.out).mono ?_
    rintro e w1 ⟨rfl, hg⟩
    have G1 := Lib.hid (G0.out.trans hg)
    clear hg
    go_wp2
    go_returns
    exact ⟨_, rfl, rw_none _, G1.out⟩
  | true =>
    cases q with
    | false =>
      simp only [Bool.true_and, if_true]
      go_enter Try.func25, Try.ntmps25
      go_wp2_with fail
      refine (HR.out _ G0.out).mono ?_
      rintro e w1 ⟨rfl, hg⟩
      have G1 := Lib.hid (G0.out.trans hg)
      clear hg
      go_wp2_with fail
      refine (HN.out _ G1.out).mono ?_
      rintro e w2 ⟨rfl, hg⟩
      have G2 := Lib.hid (G1.out.trans hg)
      clear hg
      go_wp2
      go_returns
      exact ⟨_, rfl, rw_none _, G2.out⟩
    | true =>
      simp only [Bool.true_and, Bool.true_eq_false, if_false]
      rw [HIN.out rfl]
      cases hin : inH l i n with
      | false =>
        rw [hin] at HI
        simp only [if_true]
        clear hin
        go_enter Try.func25, Try.ntmps25
        go_wp2_with fail
        refine (HR.out _ G0.out).mono ?_
        rintro e w1 ⟨rfl, hg⟩
        have G1 := Lib.hid (G0.out.trans hg)
        clear hg
        go_wp2_with fail
        refine (HN.out _ G1.out).mono ?_
        rintro e w2 ⟨rfl, hg⟩
        have G2 := Lib.hid (G1.out.trans hg)
        clear hg
        go_wp2_with fail
        refine (HI.out _ G2.out).mono ?_
        rintro e w3 ⟨rfl, hg⟩
        have G3 := Lib.hid (G2.out.trans hg)
        clear hg
        go_wp2
        go_returns
        exact ⟨_, rfl, rw_none _, G3.out⟩
      | true =>
        rw [hin] at HI
        obtain ⟨k, rfl, hk⟩ := HLT.out hin
        simp only [Bool.true_eq_false, if_false, Int.toNat_natCast]
        have HS2 := Lib.hid (fun W hg => HSET.out W hg k hk)
        generalize l.set k zit = R at *
        clear hin hk HSET HLT HIN
        go_enter Try.func25, Try.ntmps25
        go_wp2_with fail
        refine (HR.out _ G0.out).mono ?_
        rintro e w1 ⟨rfl, hg⟩
        have G1 := Lib.hid (G0.out.trans hg)
        clear hg
        go_wp2_with fail
        refine (HN.out _ G1.out).mono ?_
        rintro e w2 ⟨rfl, hg⟩
        have G2 := Lib.hid (G1.out.trans hg)
        clear hg
        go_wp2_with fail
        refine (HI.out _ G2.out).mono ?_
        rintro e w3 ⟨rfl, hg⟩
        have G3 := Lib.hid (G2.out.trans hg)
        clear hg
        go_wp2_with fail
        refine (HS2.out _ G3.out).mono ?_
        rintro e w4 ⟨v', rfl, hi, hg⟩
        have G4 := Lib.hid (G3.out.trans hg)
        have HX := Lib.hid hi
        obtain ⟨A2, c2, rfl, _⟩ := hi.slice
        clear hi hg
        go_wp2
        go_returns
        exact ⟨_, rfl, HX.out, G4.out⟩


set_option maxHeartbeats 1000000 in
theorem rpass_any (v : Value) (l : List It) (i n m : Int) (w : World) (hl : Its w v l) (hz : Sz l) (hn : l.length ≤ 1000) : Calls Try.prog 31 #[v, .int .i64 i, .int .i64 n, .int .i64 1, .int .i64 m] w (Ans (moveP l i (hand n) (hand m)) w) := by
  have HR := Lib.hid (fun W (hg : Grew w W) => rright_any v l W (hl.grew hg) hz hn)
  have HN := Lib.hid (fun W (_ : Grew w W) => rnum_any n W)
  have HM := Lib.hid (fun W (_ : Grew w W) => rnum_any m W)
  have HI := Lib.hid (fun W (hg : Grew w W) => in_any v l i n W (hl.grew hg))
  have HSET := Lib.hid (fun W (hg : Grew w W) k hk => set_any v l k (giv (hand m) (el l k).name) W (hl.grew hg) hk hn)
  have hgv : ∀ s, iv6 (giv (hand m) s) = .agg #[.bool true, .string s, .int .i64 1, .int .i64 m, .int .i64 0, .int .i64 0] := fun s => rfl
  simp only [hgv] at HSET
  have HIN := Lib.hid (fun h => @in_is l h i n)
  have HLT := Lib.hid (fun h => @inH_lt l i n h)
  have HX := Lib.hid hl
  unfold moveP
  rw [may2, okH_hand, okH_hand]
  have G0 : Hid (Grew w w) := Lib.hid (Grew.refl w)
  generalize okL l = p at *
  generalize num n = q at *
  generalize num m = r at *
  obtain ⟨A, c, rfl, _⟩ := hl.slice
  clear hl hz hn hgv
  cases p with
  | false =>
    simp only [Bool.false_and, if_true]
    go_enter Try.func31, Try.ntmps31
    go_wp2_with fail
    refine (HR.out _ G0.out).mono ?_
    rintro e w1 ⟨rfl, hg⟩
    have G1 := Lib.hid (G0.out.trans hg)
    clear hg
    go_wp2
    go_returns
    exact ⟨_, rfl, rw_none _, G1.out⟩
  | true =>
    cases q with
    | false =>
      simp only [Bool.true_and, Bool.false_and, if_true]
      go_enter Try.func31, Try.ntmps31
      go_wp2_with fail
      refine (HR.out _ G0.out).mono ?_
      rintro e w1 ⟨rfl, hg⟩
      have G1 := Lib.hid (G0.out.trans hg)
      clear hg
      go_wp2_with fail
      refine (HN.out _ G1.out).mono ?_
      rintro e w2 ⟨rfl, hg⟩
      have G2 := Lib.hid (G1.out.trans hg)
      clear hg
      go_wp2
      go_returns
      exact ⟨_, rfl, rw_none _, G2.out⟩
    | true =>
      cases r with
      | false =>
        simp only [Bool.true_and, if_true]
        go_enter Try.func31, Try.ntmps31
        go_wp2_with fail
        refine (HR.out _ G0.out).mono ?_
        rintro e w1 ⟨rfl, hg⟩
        have G1 := Lib.hid (G0.out.trans hg)
        clear hg
        go_wp2_with fail
        refine (HN.out _ G1.out).mono ?_
        rintro e w2 ⟨rfl, hg⟩
        have G2 := Lib.hid (G1.out.trans hg)
        clear hg
        go_wp2_with fail
        refine (HM.out _ G2.out).mono ?_
        rintro e w3 ⟨rfl, hg⟩
        have G3 := Lib.hid (G2.out.trans hg)
        clear hg
        go_wp2
        go_returns
        exact ⟨_, rfl, rw_none _, G3.out⟩
      | true =>
        simp only [Bool.true_and, Bool.true_eq_false, if_false]
        rw [HIN.out rfl]
        cases hin : inH l i n with
        | false =>
          rw [hin] at HI
          simp only [if_true]
          clear hin
          go_enter Try.func31, Try.ntmps31
          go_wp2_with fail
          refine (HR.out _ G0.out).mono ?_
          rintro e w1 ⟨rfl, hg⟩
          have G1 := Lib.hid (G0.out.trans hg)
          clear hg
          go_wp2_with fail
          refine (HN.out _ G1.out).mono ?_
          rintro e w2 ⟨rfl, hg⟩
          have G2 := Lib.hid (G1.out.trans hg)
          clear hg
          go_wp2_with fail
          refine (HM.out _ G2.out).mono ?_
          rintro e w3 ⟨rfl, hg⟩
          have G3 := Lib.hid (G2.out.trans hg)
          clear hg
          go_wp2_with fail
          refine (HI.out _ G3.out).mono ?_
          rintro e w4 ⟨rfl, hg⟩
          have G4 := Lib.hid (G3.out.trans hg)
          clear hg
          go_wp2
          go_returns
          exact ⟨_, rfl, rw_none _, G4.out⟩
        | true =>
          rw [hin] at HI
          obtain ⟨k, rfl, hk⟩ := HLT.out hin
          simp only [Bool.true_eq_false, if_false, Int.toNat_natCast]
          have HS2 := Lib.hid (fun W hg => HSET.out W hg k hk)
          have hx : l[k]? = some (el l k) := by unfold el; rw [List.getElem?_eq_getElem hk]; rfl
          obtain ⟨ad, c9, e9, _, _, d1, _⟩ := Its_at HX.out hx
          injection e9 with e1 _ e3
          subst e1 e3
          have hk0 : (k : Int) < (l.length : Int) := by omega
          generalize l.set k (giv (hand m) (el l k).name) = R at *
          generalize (el l k).name = s at *
          clear hin hk HSET HLT HIN hx
          go_enter Try.func31, Try.ntmps31
          go_wp2_with fail
          refine (HR.out _ G0.out).mono ?_
          rintro e w1 ⟨rfl, hg⟩
          have G1 := Lib.hid (G0.out.trans hg)
          clear hg
          go_wp2_with fail
          refine (HN.out _ G1.out).mono ?_
          rintro e w2 ⟨rfl, hg⟩
          have G2 := Lib.hid (G1.out.trans hg)
          clear hg
          go_wp2_with fail
          refine (HM.out _ G2.out).mono ?_
          rintro e w3 ⟨rfl, hg⟩
          have G3 := Lib.hid (G2.out.trans hg)
          clear hg
          go_wp2_with fail
          refine (HI.out _ G3.out).mono ?_
          rintro e w4 ⟨rfl, hg⟩
          have G4 := Lib.hid (G3.out.trans hg)
          clear hg
          have d1' := cellB G4.out d1
          go_wp2_with fail
          refine (HS2.out _ G4.out).mono ?_
          rintro e w5 ⟨v', rfl, hi, hg⟩
          have G5 := Lib.hid (G4.out.trans hg)
          have HY := Lib.hid hi
          obtain ⟨A2, c2, rfl, _⟩ := hi.slice
          clear hi hg d1 d1'
          go_wp2
          go_returns
          exact ⟨_, rfl, HY.out, G5.out⟩


set_option maxHeartbeats 1000000 in
theorem rhold_any (v : Value) (l : List It) (i n m : Int) (w : World) (hl : Its w v l) (hz : Sz l) (hn : l.length ≤ 1000) : Calls Try.prog 31 #[v, .int .i64 i, .int .i64 n, .int .i64 3, .int .i64 m] w (Ans (moveP l i (hand n) (deal m)) w) := by
  have HR := Lib.hid (fun W (hg : Grew w W) => rright_any v l W (hl.grew hg) hz hn)
  have HN := Lib.hid (fun W (_ : Grew w W) => rnum_any n W)
  have HM := Lib.hid (fun W (_ : Grew w W) => rnum_any m W)
  have HI := Lib.hid (fun W (hg : Grew w W) => in_any v l i n W (hl.grew hg))
  have HSET := Lib.hid (fun W (hg : Grew w W) k hk => set_any v l k (giv (deal m) (el l k).name) W (hl.grew hg) hk hn)
  have hgv : ∀ s, iv6 (giv (deal m) s) = .agg #[.bool true, .string s, .int .i64 3, .int .i64 m, .int .i64 0, .int .i64 0] := fun s => rfl
  simp only [hgv] at HSET
  have HIN := Lib.hid (fun h => @in_is l h i n)
  have HLT := Lib.hid (fun h => @inH_lt l i n h)
  have HX := Lib.hid hl
  unfold moveP
  rw [may2, okH_hand, okH_deal]
  have G0 : Hid (Grew w w) := Lib.hid (Grew.refl w)
  generalize okL l = p at *
  generalize num n = q at *
  generalize num m = r at *
  obtain ⟨A, c, rfl, _⟩ := hl.slice
  clear hl hz hn hgv
  cases p with
  | false =>
    simp only [Bool.false_and, if_true]
    go_enter Try.func31, Try.ntmps31
    go_wp2_with fail
    refine (HR.out _ G0.out).mono ?_
    rintro e w1 ⟨rfl, hg⟩
    have G1 := Lib.hid (G0.out.trans hg)
    clear hg
    go_wp2
    go_returns
    exact ⟨_, rfl, rw_none _, G1.out⟩
  | true =>
    cases q with
    | false =>
      simp only [Bool.true_and, Bool.false_and, if_true]
      go_enter Try.func31, Try.ntmps31
      go_wp2_with fail
      refine (HR.out _ G0.out).mono ?_
      rintro e w1 ⟨rfl, hg⟩
      have G1 := Lib.hid (G0.out.trans hg)
      clear hg
      go_wp2_with fail
      refine (HN.out _ G1.out).mono ?_
      rintro e w2 ⟨rfl, hg⟩
      have G2 := Lib.hid (G1.out.trans hg)
      clear hg
      go_wp2
      go_returns
      exact ⟨_, rfl, rw_none _, G2.out⟩
    | true =>
      cases r with
      | false =>
        simp only [Bool.true_and, if_true]
        go_enter Try.func31, Try.ntmps31
        go_wp2_with fail
        refine (HR.out _ G0.out).mono ?_
        rintro e w1 ⟨rfl, hg⟩
        have G1 := Lib.hid (G0.out.trans hg)
        clear hg
        go_wp2_with fail
        refine (HN.out _ G1.out).mono ?_
        rintro e w2 ⟨rfl, hg⟩
        have G2 := Lib.hid (G1.out.trans hg)
        clear hg
        go_wp2_with fail
        refine (HM.out _ G2.out).mono ?_
        rintro e w3 ⟨rfl, hg⟩
        have G3 := Lib.hid (G2.out.trans hg)
        clear hg
        go_wp2
        go_returns
        exact ⟨_, rfl, rw_none _, G3.out⟩
      | true =>
        simp only [Bool.true_and, Bool.true_eq_false, if_false]
        rw [HIN.out rfl]
        cases hin : inH l i n with
        | false =>
          rw [hin] at HI
          simp only [if_true]
          clear hin
          go_enter Try.func31, Try.ntmps31
          go_wp2_with fail
          refine (HR.out _ G0.out).mono ?_
          rintro e w1 ⟨rfl, hg⟩
          have G1 := Lib.hid (G0.out.trans hg)
          clear hg
          go_wp2_with fail
          refine (HN.out _ G1.out).mono ?_
          rintro e w2 ⟨rfl, hg⟩
          have G2 := Lib.hid (G1.out.trans hg)
          clear hg
          go_wp2_with fail
          refine (HM.out _ G2.out).mono ?_
          rintro e w3 ⟨rfl, hg⟩
          have G3 := Lib.hid (G2.out.trans hg)
          clear hg
          go_wp2_with fail
          refine (HI.out _ G3.out).mono ?_
          rintro e w4 ⟨rfl, hg⟩
          have G4 := Lib.hid (G3.out.trans hg)
          clear hg
          go_wp2
          go_returns
          exact ⟨_, rfl, rw_none _, G4.out⟩
        | true =>
          rw [hin] at HI
          obtain ⟨k, rfl, hk⟩ := HLT.out hin
          simp only [Bool.true_eq_false, if_false, Int.toNat_natCast]
          have HS2 := Lib.hid (fun W hg => HSET.out W hg k hk)
          have hx : l[k]? = some (el l k) := by unfold el; rw [List.getElem?_eq_getElem hk]; rfl
          obtain ⟨ad, c9, e9, _, _, d1, _⟩ := Its_at HX.out hx
          injection e9 with e1 _ e3
          subst e1 e3
          have hk0 : (k : Int) < (l.length : Int) := by omega
          generalize l.set k (giv (deal m) (el l k).name) = R at *
          generalize (el l k).name = s at *
          clear hin hk HSET HLT HIN hx
          go_enter Try.func31, Try.ntmps31
          go_wp2_with fail
          refine (HR.out _ G0.out).mono ?_
          rintro e w1 ⟨rfl, hg⟩
          have G1 := Lib.hid (G0.out.trans hg)
          clear hg
          go_wp2_with fail
          refine (HN.out _ G1.out).mono ?_
          rintro e w2 ⟨rfl, hg⟩
          have G2 := Lib.hid (G1.out.trans hg)
          clear hg
          go_wp2_with fail
          refine (HM.out _ G2.out).mono ?_
          rintro e w3 ⟨rfl, hg⟩
          have G3 := Lib.hid (G2.out.trans hg)
          clear hg
          go_wp2_with fail
          refine (HI.out _ G3.out).mono ?_
          rintro e w4 ⟨rfl, hg⟩
          have G4 := Lib.hid (G3.out.trans hg)
          clear hg
          have d1' := cellB G4.out d1
          go_wp2_with fail
          refine (HS2.out _ G4.out).mono ?_
          rintro e w5 ⟨v', rfl, hi, hg⟩
          have G5 := Lib.hid (G4.out.trans hg)
          have HY := Lib.hid hi
          obtain ⟨A2, c2, rfl, _⟩ := hi.slice
          clear hi hg d1 d1'
          go_wp2
          go_returns
          exact ⟨_, rfl, HY.out, G5.out⟩

end Go.Proofs.Ytaolallfmjjoeaa.DC
