/-
  What is made, what a trade lets go, what is held and lies where, as the document answers.
  Conditions: those that each lemma names.
-/
import Derived.Test.YtaolallfmjjoeaaDD
namespace Go.Proofs.Ytaolallfmjjoeaa.DE
set_option maxRecDepth 100000
open Go Go.RowKit Go.Lib Go.Proofs.Ytaolallfmjjoeaa Go.Proofs.Ytaolallfmjjoeaa.Facts Go.Proofs.Ytaolallfmjjoeaa.Ints Go.Proofs.Ytaolallfmjjoeaa.TI Go.Proofs.Ytaolallfmjjoeaa.TP Go.Proofs.Ytaolallfmjjoeaa.TB Go.Proofs.Ytaolallfmjjoeaa.TC Go.Proofs.Ytaolallfmjjoeaa.TD Go.Proofs.Ytaolallfmjjoeaa.TE Go.Proofs.Ytaolallfmjjoeaa.TF Go.Proofs.Ytaolallfmjjoeaa.TG Go.Proofs.Ytaolallfmjjoeaa.TH Go.Proofs.Ytaolallfmjjoeaa.TJ Go.Proofs.Ytaolallfmjjoeaa.TK Go.Proofs.Ytaolallfmjjoeaa.TL Go.Proofs.Ytaolallfmjjoeaa.DA Go.Proofs.Ytaolallfmjjoeaa.DB Go.Proofs.Ytaolallfmjjoeaa.DC Go.Proofs.Ytaolallfmjjoeaa.DD Go.Proofs.Ytaolallfmjjoeaa.Bytes


theorem hand_val (n : Int) (s : ByteArray) : iv6 (giv (hand n) s) = .agg #[.bool true, .string s, .int .i64 1, .int .i64 n, .int .i64 0, .int .i64 0] := rfl
set_option maxHeartbeats 1000000 in
theorem rmake_any (v : Value) (l : List It) (s : ByteArray) (n : Int) (w : World) (hl : Its w v l) (hz : Sz l) (hn : l.length ≤ 1000) (hs : s.size ≤ 9223372036854775807) : Calls Try.prog 20 #[v, .string s, .int .i64 n] w (Ans3 (makeP l s n) w) := by
  have HR := Lib.hid (fun W (hg : Grew w W) => rright_any v l W (hl.grew hg) hz hn)
  have HN := Lib.hid (fun W (_ : Grew w W) => rnum_any n W)
  have HNM := Lib.hid (fun W => RefName.rright_any s hs W)
  have HSET := Lib.hid (fun W (hg : Grew w W) k hk => set_any v l k (giv (hand n) s) W (hl.grew hg) hk hn)
  rw [hand_val] at HSET
  have HX := Lib.hid hl
  have HHIT := Lib.hid (fun k x => @fidx_hit It l (fun x => !x.used) k x)
  have HMISS := Lib.hid (@fidx_miss It l (fun x => !x.used))
  have HNN := Lib.hid hn
  unfold makeP
  rw [may1, okH_hand]
  have G0 : Hid (Grew w w) := Lib.hid (Grew.refl w)
  generalize okL l = p at *
  generalize num n = q at *
  generalize Chars.right s.data.toList = r at *
  obtain ⟨A, c, rfl, _⟩ := hl.slice
  clear hl hz hn hs
  cases p with
  | false =>
    simp only [Bool.false_and, if_true]
    go_enter Try.func20, Try.ntmps20
    go_wp2_with fail
    refine (HR.out _ G0.out).mono ?_
    rintro e w1 ⟨rfl, hg⟩
    have G1 := Lib.hid (G0.out.trans hg)
    clear hg
    go_wp2
    go_returns
    exact ⟨_, rfl, rw_none _, G1.out⟩
  | true =>
    cases q with
    | false =>
      simp only [Bool.true_and, if_true]
      go_enter Try.func20, Try.ntmps20
      go_wp2_with fail
      refine (HR.out _ G0.out).mono ?_
      rintro e w1 ⟨rfl, hg⟩
      have G1 := Lib.hid (G0.out.trans hg)
      clear hg
      go_wp2_with fail
      refine (HN.out _ G1.out).mono ?_
      rintro e w2 ⟨rfl, hg⟩
      have G2 := Lib.hid (G1.out.trans hg)
      clear hg
      go_wp2
      go_returns
      exact ⟨_, rfl, rw_none _, G2.out⟩
    | true =>
      simp only [Bool.true_and, Bool.true_eq_false, if_false]
      cases r with
      | false =>
        simp only [if_true]
        go_enter Try.func20, Try.ntmps20
        go_wp2_with fail
        refine (HR.out _ G0.out).mono ?_
        rintro e w1 ⟨rfl, hg⟩
        have G1 := Lib.hid (G0.out.trans hg)
        clear hg
        go_wp2_with fail
        refine (HN.out _ G1.out).mono ?_
        rintro e w2 ⟨rfl, hg⟩
        have G2 := Lib.hid (G1.out.trans hg)
        clear hg
        go_wp2_with fail
        refine (HNM.out _).mono ?_
        rintro e w3 ⟨rfl, hw⟩
        subst hw
        go_wp2
        go_returns
        exact ⟨_, rfl, rw_none _, G2.out⟩
      | true =>
        simp only [Bool.true_eq_false, if_false]
        unfold free
        generalize hfr : fidx l (fun x => !x.used) = fr at *
        clear hfr
        obtain ⟨RES, hRES⟩ : ∃ RES : List It × Int × Int, RES = if fr = -1 then ([], 0, 8) else (l.set fr.toNat (giv (hand n) s), fr, 0) := ⟨_, rfl⟩
        rw [← hRES]
        have HRN : Hid (fr = -1 → RES = ([], 0, 8)) := Lib.hid fun h => by rw [hRES, if_pos h]
        have HRK : Hid (∀ k : Nat, fr = k → RES = (l.set k (giv (hand n) s), (k : Int), 0)) := Lib.hid fun k h => by
          rw [hRES, h, if_neg (by omega), Int.toNat_natCast]
        clear hRES
        go_enter Try.func20, Try.ntmps20
        go_wp2_with fail
        refine (HR.out _ G0.out).mono ?_
        rintro e w1 ⟨rfl, hg⟩
        have G1 := Lib.hid (G0.out.trans hg)
        clear hg
        go_wp2_with fail
        refine (HN.out _ G1.out).mono ?_
        rintro e w2 ⟨rfl, hg⟩
        have G2 := Lib.hid (G1.out.trans hg)
        clear hg
        go_wp2_with fail
        refine (HNM.out _).mono ?_
        rintro e w3 ⟨rfl, hw⟩
        subst hw
        go_wp2
        go_loopg [9] l.length (fun g s9 wx => ∃ k : Nat, k + g = l.length ∧ s9 = .int .i64 k ∧ Hid (∀ j y, j < k → l[j]? = some y → (!y.used) = false) ∧ Hid (Grew w wx))
        case atStart => exact ⟨0, by omega, rfl, Lib.hid (fun j y h => absurd h (by omega)), G2⟩
        case round =>
          obtain ⟨k, hkg, rfl, HJ, HG⟩ := hrel
          cases gk with
          | zero =>
            have hkz : ¬ ((k : Int) < (l.length : Int)) := by omega
            have HE : Hid (fr = -1) := Lib.hid (HMISS.out fun j y hy => HJ.out j y (by have := (List.getElem?_eq_some_iff.1 hy).1; omega) hy)
            have eR := HRN.out HE.out
            subst eR
            go_wp2
            go_returns
            exact ⟨_, rfl, rw_none _, HG.out⟩
          | succ g =>
            have hkz : (k : Int) < (l.length : Int) := by omega
            have hkl : k < l.length := by omega
            have hx : l[k]? = some (el l k) := by unfold el; rw [List.getElem?_eq_getElem hkl]; rfl
            obtain ⟨ad, c3, e, _, d0, _⟩ := Its_at (HX.out.grew HG.out) hx
            injection e with e1 _ e3
            subst e1 e3
            have HXX := Lib.hid hx
            have HKW := Lib.hid (wr1 hkl HNN.out)
            have HS2 := Lib.hid (fun W hg => HSET.out W hg k hkl)
            clear hx hkl
            generalize el l k = x at *
            cases hu : x.used with
            | false =>
              rw [hu] at d0
              have HE : Hid (fr = k) := Lib.hid (HHIT.out _ _ HXX.out (by rw [hu]; rfl) HJ.out)
              clear HXX hu
              have eR := HRK.out k HE.out
              subst eR
              clear HRK HRN
              generalize l.set k (giv (hand n) s) = R at *
              go_wp2_with fail
              refine (HS2.out _ HG.out).mono ?_
              rintro e w4 ⟨v', rfl, hi, hg⟩
              have G4 := Lib.hid (HG.out.trans hg)
              have HY := Lib.hid hi
              obtain ⟨A2, c2, rfl, _⟩ := hi.slice
              clear hi hg
              go_wp2
              go_returns
              exact ⟨_, rfl, HY.out, G4.out⟩
            | true =>
              rw [hu] at d0
              have HN2 : Hid (∀ j y, j < k + 1 → l[j]? = some y → (!y.used) = false) := Lib.hid fun j y hj hy => by
                by_cases hjk : j = k
                · subst hjk
                  rw [HXX.out] at hy
                  cases hy
                  rw [hu]
                  rfl
                · exact HJ.out j y (by omega) hy
              clear HXX hu
              go_wp2
              go_roundg g
              case measure => omega
              case rel => exact ⟨k + 1, by omega, by first | (simp; done) | rw [HKW.out], HN2, HG⟩


/-- What the document's Free comes to: the first k slots gone over. -/
def frl (l : List It) (t f : Ho) (k : Nat) : List It := (List.range k).foldl (fun o j => if (el l j).used = true ∧ hol (el l j) = f then o.set j (giv t (el l j).name) else o) l
theorem frl_zero (l : List It) (t f : Ho) : frl l t f 0 = l := rfl
theorem frl_succ (l : List It) (t f : Ho) (k : Nat) : frl l t f (k + 1) = if (el l k).used = true ∧ hol (el l k) = f then (frl l t f k).set k (giv t (el l k).name) else frl l t f k := by
  unfold frl
  rw [List.range_succ, List.foldl_append]
  rfl
theorem frl_len (l : List It) (t f : Ho) : ∀ k, (frl l t f k).length = l.length
  | 0 => rfl
  | k + 1 => by
    rw [frl_succ]
    split
    · rw [List.length_set, frl_len l t f k]
    · exact frl_len l t f k
theorem el_ext {l m : List It} (h : l.length = m.length) (he : ∀ j, j < l.length → el l j = el m j) : l = m := by
  apply List.ext_getElem h
  intro j h1 h2
  have := he j h1
  unfold el at this
  rw [List.getElem?_eq_getElem h1, List.getElem?_eq_getElem h2] at this
  exact this
theorem el_put (l : List It) (k : Nat) (x : It) (j : Nat) (hk : k < l.length) : el (l.set k x) j = if j = k then x else el l j := by
  unfold el
  rw [List.getElem?_set]
  by_cases h : k = j
  · subst h
    simp [hk]
  · rw [if_neg h, if_neg (fun e => h e.symm)]
theorem el_frl (l : List It) (t f : Ho) : ∀ k, k ≤ l.length → ∀ j, el (frl l t f k) j = if j < k ∧ (el l j).used = true ∧ hol (el l j) = f then giv t (el l j).name else el l j
  | 0, _, j => by rw [frl_zero, if_neg (by omega)]
  | k + 1, hk, j => by
    rw [frl_succ]
    have ih := el_frl l t f k (by omega) j
    by_cases hc : (el l k).used = true ∧ hol (el l k) = f
    · rw [if_pos hc, el_put _ _ _ _ (by rw [frl_len]; omega), ih]
      by_cases hj : j = k
      · subst hj
        rw [if_pos rfl, if_pos ⟨by omega, hc⟩]
      · rw [if_neg hj]
        by_cases hj2 : j < k ∧ (el l j).used = true ∧ hol (el l j) = f
        · rw [if_pos hj2, if_pos ⟨by omega, hj2.2⟩]
        · rw [if_neg hj2, if_neg (fun h => hj2 ⟨by omega, h.2⟩)]
    · rw [if_neg hc, ih]
      by_cases hj : j = k
      · subst hj
        rw [if_neg (fun h => hc h.2), if_neg (fun h => hc h.2)]
      · by_cases hj2 : j < k ∧ (el l j).used = true ∧ hol (el l j) = f
        · rw [if_pos hj2, if_pos ⟨by omega, hj2.2⟩]
        · rw [if_neg hj2, if_neg (fun h => hj2 ⟨by omega, h.2⟩)]
theorem el_fl (l : List It) (t : Ho) (S : List Int) (hS : ∀ i ∈ S, ∃ j : Nat, i = j ∧ j < l.length) : ∀ k, k ≤ S.length → ∀ j : Nat, el (fl l t S k) j = if (j : Int) ∈ S.take k then giv t (el l j).name else el l j
  | 0, _, j => by rw [fl_zero, List.take_zero, if_neg (by simp)]
  | k + 1, hk, j => by
    obtain ⟨m, e, hm⟩ := hS S[k] (List.getElem_mem (by omega))
    rw [fl_succ l t S k (by omega), e, Int.toNat_natCast, el_put _ _ _ _ (by rw [fl_len]; exact hm), el_fl l t S hS k (by omega) j, List.take_succ_eq_append_getElem (by omega), e]
    by_cases hj : j = m
    · subst hj
      rw [if_pos rfl, if_pos (by simp)]
    · rw [if_neg hj]
      have h : ((j : Int) ∈ S.take k ++ [(m : Int)]) ↔ (j : Int) ∈ S.take k := by
        rw [List.mem_append, List.mem_singleton]
        constructor
        · rintro (h | h)
          · exact h
          · omega
        · exact .inl
      by_cases h2 : (j : Int) ∈ S.take k
      · rw [if_pos h2, if_pos (h.2 h2)]
      · rw [if_neg h2, if_neg (fun x => h2 (h.1 x))]
theorem frl_is (l : List It) (t f : Ho) : frl l t f l.length = fl l t (slotsOf l f) (slotsOf l f).length := by
  refine el_ext (by rw [frl_len, fl_len]) fun j hj => ?_
  rw [frl_len] at hj
  rw [el_frl l t f _ (Nat.le_refl _) j, el_fl l t _ (fun i hi => by
    obtain ⟨m, e, hm, _⟩ := slots_lt hi
    exact ⟨m, e, hm⟩) _ (Nat.le_refl _) j, List.take_length]
  have := slots_mem l f j hj
  by_cases h : (j : Int) ∈ slotsOf l f
  · rw [if_pos h, if_pos ⟨hj, this.1 h⟩]
  · rw [if_neg h, if_neg (fun x => h (this.2 x.2))]

set_option maxHeartbeats 2000000 in
theorem rfree_any (v : Value) (l : List It) (d n : Int) (w : World) (hl : Its w v l) (hz : Sz l) (hn : l.length ≤ 1000) : Calls Try.prog 34 #[v, .int .i64 d, .int .i64 n] w (Ans (freeP l d n) w) := by
  have HR := Lib.hid (fun W (hg : Grew w W) => rright_any v l W (hl.grew hg) hz hn)
  have HD := Lib.hid (fun W (_ : Grew w W) => rnum_any d W)
  have HN := Lib.hid (fun W (_ : Grew w W) => rnum_any n W)
  have HSET := Lib.hid (fun W v' o k s (h : Its W v' o) hk (ho : o.length ≤ 1000) => set_any v' o k (giv (hand n) s) W h hk ho)
  simp only [hand_val] at HSET
  have HX := Lib.hid hl
  have HNN := Lib.hid hn
  unfold freeP
  rw [may2, okH_hand, okH_deal, ← frl_is]
  have G0 : Hid (Grew w w) := Lib.hid (Grew.refl w)
  have HKD : Hid (okL l = true → ∀ k, ((el l k).used = true ∧ hol (el l k) = deal d) ↔ ((el l k).used = true ∧ (el l k).kind = 3 ∧ (el l k).who = d)) := Lib.hid fun h k => by
    rcases kinds (okL_el h k) with ⟨h1, _⟩ | ⟨_, h2, h3, _⟩ | ⟨_, h2, h3⟩ | ⟨_, h2, h3⟩
    · simp [h1]
    · rw [h3, h2]
      simp [hand, deal]
    · rw [h3, h2]
      simp [floor, deal]
    · rw [h3, h2]
      simp [deal]
  have HSUC := Lib.hid (frl_succ l (hand n) (deal d))
  have HLEN := Lib.hid (frl_len l (hand n) (deal d))
  have HZ : Hid (frl l (hand n) (deal d) 0 = l) := Lib.hid rfl
  generalize okL l = p at *
  generalize num n = q at *
  generalize num d = r at *
  generalize frl l (hand n) (deal d) = F at *
  obtain ⟨A, c, rfl, _⟩ := hl.slice
  clear hl hz hn
  cases p with
  | false =>
    simp only [Bool.false_and, if_true]
    go_enter Try.func34, Try.ntmps34
    go_wp2_with fail
    refine (HR.out _ G0.out).mono ?_
    rintro e w1 ⟨rfl, hg⟩
    have G1 := Lib.hid (G0.out.trans hg)
    clear hg
    go_wp2
    go_returns
    exact ⟨_, rfl, rw_none _, G1.out⟩
  | true =>
    cases r with
    | false =>
      simp only [Bool.true_and, Bool.false_and, if_true]
      go_enter Try.func34, Try.ntmps34
      go_wp2_with fail
      refine (HR.out _ G0.out).mono ?_
      rintro e w1 ⟨rfl, hg⟩
      have G1 := Lib.hid (G0.out.trans hg)
      clear hg
      go_wp2_with fail
      refine (HD.out _ G1.out).mono ?_
      rintro e w2 ⟨rfl, hg⟩
      have G2 := Lib.hid (G1.out.trans hg)
      clear hg
      go_wp2
      go_returns
      exact ⟨_, rfl, rw_none _, G2.out⟩
    | true =>
      cases q with
      | false =>
        simp only [Bool.true_and, if_true]
        go_enter Try.func34, Try.ntmps34
        go_wp2_with fail
        refine (HR.out _ G0.out).mono ?_
        rintro e w1 ⟨rfl, hg⟩
        have G1 := Lib.hid (G0.out.trans hg)
        clear hg
        go_wp2_with fail
        refine (HD.out _ G1.out).mono ?_
        rintro e w2 ⟨rfl, hg⟩
        have G2 := Lib.hid (G1.out.trans hg)
        clear hg
        go_wp2_with fail
        refine (HN.out _ G2.out).mono ?_
        rintro e w3 ⟨rfl, hg⟩
        have G3 := Lib.hid (G2.out.trans hg)
        clear hg
        go_wp2
        go_returns
        exact ⟨_, rfl, rw_none _, G3.out⟩
      | true =>
        simp only [Bool.true_and, Bool.true_eq_false, if_false]
        go_enter Try.func34, Try.ntmps34
        go_wp2_with fail
        refine (HR.out _ G0.out).mono ?_
        rintro e w1 ⟨rfl, hg⟩
        have G1 := Lib.hid (G0.out.trans hg)
        clear hg
        go_wp2_with fail
        refine (HD.out _ G1.out).mono ?_
        rintro e w2 ⟨rfl, hg⟩
        have G2 := Lib.hid (G1.out.trans hg)
        clear hg
        go_wp2_with fail
        refine (HN.out _ G2.out).mono ?_
        rintro e w3 ⟨rfl, hg⟩
        have G3 := Lib.hid (G2.out.trans hg)
        clear hg
        go_wp2
        go_loopg [8, 9] l.length (fun g s8 s9 wx => ∃ (k : Nat) (A8 : Option Addr) (c8 : Nat), s8 = .slice A8 l.length c8 ∧ s9 = .int .i64 k ∧ k + g = l.length ∧ Hid (Its wx (.slice A8 l.length c8) (F k)) ∧ Hid (Grew w wx))
        case atStart => exact ⟨0, A, c, rfl, rfl, by omega, Lib.hid (by rw [HZ.out]; exact HX.out.grew G3.out), G3⟩
        case round =>
          obtain ⟨k, A8, c8, rfl, rfl, hkg, HI, HG⟩ := hrel
          cases gk with
          | zero =>
            have hkz : ¬ ((k : Int) < (l.length : Int)) := by omega
            have HY : Hid (Its wr (.slice A8 l.length c8) (F l.length)) := Lib.hid (by have := HI.out; rw [show k = l.length by omega] at this; exact this)
            generalize F l.length = R at *
            go_wp2
            go_returns
            exact ⟨_, rfl, HY.out, HG.out⟩
          | succ g =>
            have hkz : (k : Int) < (l.length : Int) := by omega
            have hkl : k < l.length := by omega
            have hx : l[k]? = some (el l k) := by unfold el; rw [List.getElem?_eq_getElem hkl]; rfl
            obtain ⟨ad, c3, e, _, d0, d1, d2, d3, _⟩ := Its_at (HX.out.grew HG.out) hx
            injection e with e1 e2 e3
            subst e1 e3
            clear e2
            have HKW := Lib.hid (wr1 hkl HNN.out)
            have HM : Hid (k + 1 + g = l.length) := Lib.hid (by omega)
            have HS1 := Lib.hid (HSUC.out k)
            have HK1 := Lib.hid (HKD.out (by trivial) k)
            have HST := Lib.hid (fun s => HSET.out wr (.slice A8 l.length c8) (F k) k s HI.out (by rw [HLEN.out]; exact hkl) (by rw [HLEN.out]; exact HNN.out))
            clear hx hkl hkg
            have HS1' : Hid (((el l k).used = true ∧ (el l k).kind = 3 ∧ (el l k).who = d → F (k + 1) = (F k).set k (giv (hand n) (el l k).name)) ∧ (¬ ((el l k).used = true ∧ (el l k).kind = 3 ∧ (el l k).who = d) → F (k + 1) = F k)) := Lib.hid ⟨fun h => by rw [HS1.out, if_pos (HK1.out.2 h)], fun h => by rw [HS1.out, if_neg (fun x => h (HK1.out.1 x))]⟩
            clear HS1 HK1
            generalize (el l k).used = us at *
            generalize (el l k).kind = kd at *
            generalize (el l k).who = wh at *
            generalize (el l k).name = s at *
            cases us with
            | false =>
              have HY : Hid (Its wr (.slice A8 l.length c8) (F (k + 1))) := Lib.hid (by rw [HS1'.out.2 (by simp)]; exact HI.out)
              clear HST
              go_wp2
              go_roundg g
              case measure => omega
              case rel => exact ⟨k + 1, A8, c8, rfl, by first | (simp; done) | rw [HKW.out], HM.out, HY, HG⟩
            | true =>
              by_cases h3 : kd = 3
              · subst h3
                by_cases hw : wh = d
                · subst hw
                  have HSW := Lib.hid (HST.out s)
                  have HEQ := Lib.hid (HS1'.out.1 ⟨rfl, rfl, rfl⟩)
                  have HL2 := Lib.hid (HLEN.out (k + 1))
                  clear HS1' HST
                  rw [← HEQ.out] at HSW
                  go_wp2_with fail
                  refine HSW.out.mono ?_
                  rintro e w5 ⟨v', rfl, hi, hg⟩
                  have HG2 := Lib.hid (HG.out.trans hg)
                  obtain ⟨A9, c9, rfl, _⟩ := hi.slice
                  have HY : Hid (Its w5 (.slice A9 l.length c9) (F (k + 1))) := Lib.hid (by rw [← HL2.out]; exact hi)
                  simp only [HL2.out]
                  clear hi hg HEQ
                  go_wp2
                  go_roundg g
                  case measure => omega
                  case rel => exact ⟨k + 1, A9, c9, rfl, by first | (simp; done) | rw [HKW.out], HM.out, HY, HG2⟩
                · have hw' : (wh == d) = false := by simpa using hw
                  have HY : Hid (Its wr (.slice A8 l.length c8) (F (k + 1))) := Lib.hid (by rw [HS1'.out.2 (fun h => hw h.2.2)]; exact HI.out)
                  clear HST hw HS1'
                  go_wp2
                  go_roundg g
                  case measure => omega
                  case rel => exact ⟨k + 1, A8, c8, rfl, by first | (simp; done) | rw [HKW.out], HM.out, HY, HG⟩
              · have h3' : (kd == 3) = false := by simpa using h3
                have HY : Hid (Its wr (.slice A8 l.length c8) (F (k + 1))) := Lib.hid (by rw [HS1'.out.2 (fun h => h3 h.2.1)]; exact HI.out)
                clear HST h3 HS1'
                go_wp2
                go_roundg g
                case measure => omega
                case rel => exact ⟨k + 1, A8, c8, rfl, by first | (simp; done) | rw [HKW.out], HM.out, HY, HG⟩

end Go.Proofs.Ytaolallfmjjoeaa.DE
