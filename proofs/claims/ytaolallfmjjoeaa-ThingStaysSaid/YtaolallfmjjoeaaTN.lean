/-
  ThingOne: each item is told of one holder alone.
  Conditions: those that each lemma names.
-/
import Derived.Test.YtaolallfmjjoeaaTM
namespace Go.Proofs.Ytaolallfmjjoeaa.TN
set_option maxRecDepth 100000
open Go Go.RowKit Go.Lib Go.Proofs.Ytaolallfmjjoeaa Go.Proofs.Ytaolallfmjjoeaa.Facts Go.Proofs.Ytaolallfmjjoeaa.Ints Go.Proofs.Ytaolallfmjjoeaa.TI Go.Proofs.Ytaolallfmjjoeaa.TP Go.Proofs.Ytaolallfmjjoeaa.TB Go.Proofs.Ytaolallfmjjoeaa.TC Go.Proofs.Ytaolallfmjjoeaa.TD Go.Proofs.Ytaolallfmjjoeaa.TE Go.Proofs.Ytaolallfmjjoeaa.TF Go.Proofs.Ytaolallfmjjoeaa.TG Go.Proofs.Ytaolallfmjjoeaa.TH Go.Proofs.Ytaolallfmjjoeaa.TJ Go.Proofs.Ytaolallfmjjoeaa.TK Go.Proofs.Ytaolallfmjjoeaa.TL Go.Proofs.Ytaolallfmjjoeaa.TM Go.Proofs.Ytaolallfmjjoeaa.Bytes


theorem mk_ints (n : Nat) (hn : n ≤ 1000) (u : World) : (Instr.makeSlice 57 (.int .i64 (n : Int)) (.int .i64 (n : Int))).run Try.prog u =
    .ok (.slice (some ⟨u.heap.size, 0, none⟩) n n) (u.alloc (.cells (iv (tab n fun _ => 0)).toArray 3)) := by
  obtain ⟨i0, hi, hx⟩ := Option.map_eq_some_iff.1 info3
  simp only [Prod.mk.injEq] at hx
  obtain ⟨hz0, hz1, hz2⟩ := hx
  have h := run_make (P := Try.prog) u 57 3 i0 (.int .i64 0) Try.underlying57 hi hz0 .i64 .i64 n n (by omega) (Int.le_refl _) (by rw [hz2]; omega) (by omega)
  have e : madeCells #[.int .i64 0] n = (iv (tab n fun _ => 0)).toArray := by
    apply Array.ext'
    rw [toList_madeCells_one]
    unfold iv tab
    rw [List.map_map]
    apply List.ext_getElem
    · simp
    · intro i h1 h2
      simp
  rw [← e]
  simpa [hz1, Value.cells] using h
/-- The row of what is told. -/
def Told (B n : Nat) (F : Nat → Int) (w : World) : Prop := w.heap[B]? = some (.cells (iv (tab n F)).toArray 3 (0, 0))
theorem Told.grew {B n : Nat} {F : Nat → Int} {w w' : World} (h : Told B n F w) (hg : Grew w w') : Told B n F w' := keepB h hg
theorem Told.cell {B n : Nat} {F : Nat → Int} {w : World} (h : Told B n F w) {j : Nat} (hj : j < n) : w.cell? ⟨B, j, none⟩ = some (.int .i64 (F j)) ∧ w.frozen? ⟨B, j, none⟩ = false := by
  refine ⟨?_, frozen_of_row _ _ _ _ _ h⟩
  rw [cell_of_row _ _ _ _ _ _ h, List.getElem?_toArray]
  unfold iv
  rw [List.getElem?_map, tab_get _ _ _ hj]
  rfl
theorem Told.set {B n : Nat} {F G : Nat → Int} {w : World} (h : Told B n F w) {j : Nat} {v : Int} (hG : ∀ k, k < n → (if k = j then v else F k) = G k) : Told B n G (w.setCell ⟨B, j, none⟩ (.int .i64 v)) := by
  unfold Told
  rw [heap_setCell_same _ _ _ _ _ _ h, ← tab_congr hG, ← tab_set]
  unfold iv
  simp [List.map_set]
theorem Told.congr {B n : Nat} {F G : Nat → Int} {w : World} (h : Told B n F w) (hG : ∀ k, k < n → F k = G k) : Told B n G w := by
  unfold Told at *
  rw [← tab_congr hG]
  exact h
theorem up1 {x : Int} (h : 0 ≤ x ∧ x ≤ 10) : wrap64 (x + 1) = x + 1 := by unfold wrap64; omega

set_option maxHeartbeats 4000000 in
theorem law (v : Value) (l : List It) (w : World) (hl : Its w v l) (hz : Sz l) : Calls Try.prog 7 #[v] w fun e w' => e = .returned (.bool true) ∧ Grew w w' := by
  have HR := Lib.hid (right_any v l w hl hz)
  have HA := Lib.hid alive_any
  have HL := Lib.hid hl
  obtain ⟨A, c, rfl, _⟩ := hl.slice
  cases hok : okL l with
  | false =>
    rw [hok] at HR
    clear hl hz hok HL
    go_enter Try.func7, Try.ntmps7
    go_wp2_with fail
    refine HR.out.mono ?_
    rintro e w1 ⟨rfl, hg⟩
    have G1 := Lib.hid hg
    clear hg
    go_wp2_with fail
    refine (HA.out _).mono ?_
    rintro e w2 ⟨rfl, hg⟩
    have G2 := Lib.hid (G1.out.trans hg)
    clear hg
    go_wp2
    go_returns
    exact ⟨rfl, G2.out⟩
  | true =>
    rw [hok] at HR
    have HOK := Lib.hid hok
    clear hok
    by_cases h60 : 60 < l.length
    · have h60' : (60 : Int) < (l.length : Int) := by omega
      clear hl hz HL h60
      go_enter Try.func7, Try.ntmps7
      go_wp2_with fail
      refine HR.out.mono ?_
      rintro e w1 ⟨rfl, hg⟩
      have G1 := Lib.hid hg
      clear hg
      go_wp2_with fail
      refine (HA.out _).mono ?_
      rintro e w2 ⟨rfl, hg⟩
      have G2 := Lib.hid (G1.out.trans hg)
      clear hg
      go_wp2
      go_returns
      exact ⟨rfl, G2.out⟩
    · have h60' : ¬ (60 : Int) < (l.length : Int) := by omega
      have H60 : Hid (l.length ≤ 60) := Lib.hid (by omega)
      have hmk := mk_ints l.length (by omega)
      have HHE := Lib.hid (fun (who : Nat) W (hg : Grew w W) => held_any l who _ W (HL.out.grew hg) (by have := H60.out; omega))
      have HLY := Lib.hid (fun a b W (hg : Grew w W) => lying_any l a b _ W (HL.out.grew hg) (by have := H60.out; omega))
      clear hl hz h60
      go_enter Try.func7, Try.ntmps7
      go_wp2_with fail
      refine HR.out.mono ?_
      rintro e w1 ⟨rfl, hg⟩
      have ga : Grew w1 (w1.alloc (.cells (iv (tab l.length fun _ => 0)).toArray 3)) := by unfold Grew; go_grown
      have HT0 : Hid (Told w1.heap.size l.length (f1 l 0) (w1.alloc (.cells (iv (tab l.length fun _ => 0)).toArray 3))) := Lib.hid ((show Told w1.heap.size l.length (fun _ => 0) _ from heap_alloc_new w1 _).congr fun k _ => (f1_zero HOK.out k).symm)
      have HG0 : Hid (Grew w1 (w1.alloc (.cells (iv (tab l.length fun _ => 0)).toArray 3))) := Lib.hid ga
      have G1 := Lib.hid hg
      clear hg ga
      go_wp2
      clear hmk h60'
      generalize w1.alloc (.cells (iv (tab l.length fun _ => 0)).toArray 3) = wm at HT0 HG0
      go_loopg [4] 128 (fun g s4 wx => ∃ who : Nat, s4 = .int .i64 who ∧ who + g = 128 ∧ Hid (Told w1.heap.size l.length (f1 l who) wx) ∧ Hid (Grew w1 wx))
      case atStart => exact ⟨0, rfl, by omega, HT0, HG0⟩
      case round =>
        obtain ⟨who, rfl, hwg, HT, HG⟩ := hrel
        cases gk with
        | succ g =>
          have hwz : (who : Int) < 128 := by omega
          have HC := Lib.hid (HHE.out who wr (G1.out.trans HG.out))
          obtain ⟨bs, HBS⟩ : ∃ bs, Hid (bs = wr.heap.size) := ⟨_, Lib.hid rfl⟩
          have HBB : Hid (w1.heap.size < bs) := Lib.hid (by rw [HBS.out]; exact (Array.getElem?_eq_some_iff.1 HT.out).1)
          have HND := Lib.hid (slots_nodup l (hand who))
          have HLT := Lib.hid (fun (i : Nat) (hi : i < (slotsOf l (hand who)).length) => slots_lt (List.getElem_mem hi))
          have HST := Lib.hid (f1_step HOK.out who)
          have HSL : Hid ((slotsOf l (hand who)).length ≤ 60) := Lib.hid (Nat.le_trans (List.length_filter_le _ _) (Nat.le_trans (upto_len l _) H60.out))
          generalize slotsOf l (hand who) = a at *
          have hww : wrap64 ((who : Int) + 1) = ((who + 1 : Nat) : Int) := wr1 (n := 128) (by omega) (by decide)
          have HWW := Lib.hid hww
          have HWG := Lib.hid hwg
          clear hww hwg
          go_wp2_with fail
          refine HC.out.mono ?_
          rintro e w2 ⟨V, rfl, hi, hg⟩
          have HV : Hid (IsB bs w2 V a) := Lib.hid (by rw [HBS.out]; exact hi)
          have HT2 := Lib.hid (HT.out.grew hg)
          have HG2 := Lib.hid (HG.out.trans hg)
          obtain ⟨A2, c2, rfl, _⟩ := Is.slice hi.is
          clear hi hg HT HG HC HBS
          go_wp2
          clear hwz
          go_loopg [6] a.length (fun g2 s6 wx => ∃ i : Nat, s6 = .int .i64 i ∧ i + g2 = a.length ∧ Hid (Told w1.heap.size l.length (fun j => f1 l who j + ind j (a.take i)) wx) ∧ Hid (IsB bs wx (.slice A2 a.length c2) a) ∧ Hid (Grew w1 wx))
          case atStart => exact ⟨0, rfl, by omega, Lib.hid (HT2.out.congr fun j _ => by rw [List.take_zero, ind_nil]; omega), HV, HG2⟩
          case round =>
            obtain ⟨i, rfl, hig, HTI, HVI, HGI⟩ := hrel
            cases gk with
            | zero =>
              have hiz : ¬ ((i : Int) < (a.length : Int)) := by omega
              have HTE : Hid (Told w1.heap.size l.length (f1 l (who + 1)) wr) := Lib.hid (HTI.out.congr fun j hj => by rw [show i = a.length by omega, List.take_length]; exact HST.out j hj)
              clear HTI HVI hig
              go_wp2
              go_roundg g
              case measure => omega
              case rel => exact ⟨who + 1, by first | (simp; done) | rw [HWW.out], by have := HWG.out; omega, HTE, HGI⟩
            | succ g2 =>
              have hil : i < a.length := by omega
              have hiz : (i : Int) < (a.length : Int) := by omega
              obtain ⟨jj, he, hjl, _⟩ := HLT.out i hil
              obtain ⟨ad, c3, e3, hc3, d0⟩ := Is_at HVI.out.is (List.getElem?_eq_getElem hil)
              injection e3 with e4 _ e5
              subst e4 e5
              rw [he] at d0
              have HIT := Lib.hid (fun j => ind_take HND.out hil jj he j)
              obtain ⟨t0, t1⟩ := HTI.out.cell hjl
              have hb0 := f1_le l who jj
              have hb1 := ind_le jj (a.take i)
              have hTS : ∀ x : Int, f1 l who jj + ind jj (a.take i) = x → Told w1.heap.size l.length (fun j => f1 l who j + ind j (a.take (i + 1))) (wr.setCell ⟨w1.heap.size, jj, none⟩ (.int .i64 (x + 1))) := fun x hx => HTI.out.set fun k _ => by
                rw [HIT.out k]
                by_cases hk : k = jj
                · subst hk
                  rw [if_pos rfl, if_pos rfl]
                  omega
                · rw [if_neg hk, if_neg hk]
              obtain ⟨x, hx⟩ : ∃ x, x = f1 l who jj + ind jj (a.take i) := ⟨_, rfl⟩
              have HTN := Lib.hid (hTS x hx.symm)
              have hxw : wrap64 (x + 1) = x + 1 := up1 (by omega)
              rw [← hx] at t0
              have HVN := Lib.hid (HVI.out.set (i := jj) (u := .int .i64 (x + 1)) HBB.out)
              have HGN : Hid (Grew w1 (wr.setCell ⟨w1.heap.size, jj, none⟩ (.int .i64 (x + 1)))) := Lib.hid ((show Below w1.heap.size w1 wr from HGI.out).setCell (p := ⟨w1.heap.size, jj, none⟩) (Nat.le_refl _) _)
              have hj0 : ¬ ((jj : Int) < 0) := by omega
              have hj1 : (jj : Int) < (l.length : Int) := by omega
              have hwi : wrap64 ((i : Int) + 1) = ((i + 1 : Nat) : Int) := wr1 hil (Nat.le_trans HSL.out (by decide))
              have HWI := Lib.hid hwi
              have HM : Hid (i + 1 + g2 = a.length) := Lib.hid (by omega)
              clear hb0 hb1 hTS hx HTI HVI HGI he hc3 hjl HIT hwi hig
              go_wp2
              go_roundg g2
              case measure => omega
              case rel => exact ⟨i + 1, by first | (simp; done) | rw [HWI.out], HM.out, HTN, HVN, HGN⟩
        | zero =>
          have hwz : ¬ ((who : Int) < 128) := by omega
          have HT2 : Hid (Told w1.heap.size l.length (f2 l 0) wr) := Lib.hid (HT.out.congr fun j _ => by rw [show who = 128 by omega]; exact f2_zero l j)
          clear HT hwg HHE
          go_wp2
          clear hwz
          go_loopg [7] l.length (fun g s7 wx => ∃ i : Nat, s7 = .int .i64 i ∧ i + g = l.length ∧ Hid (Told w1.heap.size l.length (f2 l i) wx) ∧ Hid (Grew w1 wx))
          case atStart => exact ⟨0, rfl, by omega, HT2, HG⟩
          case round =>
            clear HT2 HG
            obtain ⟨i, rfl, hig, HT, HG⟩ := hrel
            cases gk with
            | succ g =>
              have hil : i < l.length := by omega
              have hiz : (i : Int) < (l.length : Int) := by omega
              have hx : l[i]? = some (el l i) := by unfold el; rw [List.getElem?_eq_getElem hil]; rfl
              obtain ⟨ad, c9, e9', hc9, _, _, d2, _, d4, d5⟩ := Its_at (HL.out.grew (G1.out.trans HG.out)) hx
              injection e9' with e1 _ e3
              subst e1 e3
              have hwi : wrap64 ((i : Int) + 1) = ((i + 1 : Nat) : Int) := wr1 hil (Nat.le_trans H60.out (by decide))
              have HWI := Lib.hid hwi
              have HM : Hid (i + 1 + g = l.length) := Lib.hid (by omega)
              have HIL := Lib.hid hil
              clear hwi hig hc9 hx
              by_cases hk : (el l i).kind = 2
              · have HSTEP := Lib.hid (f2_step l i hk)
                have HLI := Lib.hid (lies HOK.out i hil hk)
                have HC := Lib.hid (HLY.out (el l i).lab (el l i).slot wr (G1.out.trans HG.out))
                have HND := Lib.hid (slots_nodup l (floor (el l i).lab (el l i).slot))
                have HSL : Hid ((slotsOf l (floor (el l i).lab (el l i).slot)).length ≤ 60) := Lib.hid (Nat.le_trans (List.length_filter_le _ _) (Nat.le_trans (upto_len l _) H60.out))
                have HLT := Lib.hid (fun (k : Nat) (hk : k < (slotsOf l (floor (el l i).lab (el l i).slot)).length) => slots_lt (List.getElem_mem hk))
                generalize slotsOf l (floor (el l i).lab (el l i).slot) = a at *
                rw [hk] at d2
                clear hk
                generalize (el l i).lab = lb at *
                generalize (el l i).slot = sb at *
                obtain ⟨bs, HBS⟩ : ∃ bs, Hid (bs = wr.heap.size) := ⟨_, Lib.hid rfl⟩
                have HBB : Hid (w1.heap.size < bs) := Lib.hid (by rw [HBS.out]; exact (Array.getElem?_eq_some_iff.1 HT.out).1)
                go_wp2_with fail
                refine HC.out.mono ?_
                rintro e w2 ⟨V, rfl, hi, hg⟩
                have HV : Hid (IsB bs w2 V a) := Lib.hid (by rw [HBS.out]; exact hi)
                have HT2 := Lib.hid (HT.out.grew hg)
                have HG2 := Lib.hid (HG.out.trans hg)
                obtain ⟨A2, c2, rfl, _⟩ := Is.slice hi.is
                clear hi hg HT HG HC HBS d2 d4 d5
                go_wp2
                clear hiz hil
                go_loopg [9] a.length (fun g2 s9 wx => ∃ k : Nat, s9 = .int .i64 k ∧ k + g2 = a.length ∧ Hid (Told w1.heap.size l.length (fun j => if j = i then f2 l i j + ind i (a.take k) else f2 l i j) wx) ∧ Hid (IsB bs wx (.slice A2 a.length c2) a) ∧ Hid (Grew w1 wx))
                case atStart => exact ⟨0, rfl, by omega, Lib.hid (HT2.out.congr fun j _ => by rw [List.take_zero, ind_nil]; split <;> omega), HV, HG2⟩
                case round =>
                  obtain ⟨k, rfl, hkg, HTI, HVI, HGI⟩ := hrel
                  cases gk with
                  | zero =>
                    have hkz : ¬ ((k : Int) < (a.length : Int)) := by omega
                    have HTE : Hid (Told w1.heap.size l.length (f2 l (i + 1)) wr) := Lib.hid (HTI.out.congr fun j hj => by
                      rw [show k = a.length by omega, List.take_length, ← HSTEP.out j]
                      have h1 : ind i a = 1 := if_pos HLI.out
                      rw [h1])
                    clear HTI HVI hkg
                    go_wp2
                    go_roundg g
                    case measure => omega
                    case rel => exact ⟨i + 1, by first | (simp; done) | rw [HWI.out], HM.out, HTE, HGI⟩
                  | succ g2 =>
                    have hkl : k < a.length := by omega
                    have hkz : (k : Int) < (a.length : Int) := by omega
                    obtain ⟨jj, he, hjl, _⟩ := HLT.out k hkl
                    obtain ⟨ad, c3, e3, hc3, d0⟩ := Is_at HVI.out.is (List.getElem?_eq_getElem hkl)
                    injection e3 with e4 _ e5
                    subst e4 e5
                    rw [he] at d0
                    have HIT := Lib.hid (ind_take HND.out hkl jj he i)
                    have hwk : wrap64 ((k : Int) + 1) = ((k + 1 : Nat) : Int) := wr1 hkl (Nat.le_trans HSL.out (by decide))
                    have HWK := Lib.hid hwk
                    have HM2 : Hid (k + 1 + g2 = a.length) := Lib.hid (by omega)
                    clear he hc3 hwk hkg
                    by_cases hji : jj = i
                    · subst hji
                      obtain ⟨t0, t1⟩ := HTI.out.cell hjl
                      rw [if_pos rfl] at t0
                      have hb0 := f2_le l jj jj
                      have hb1 := ind_le jj (a.take k)
                      obtain ⟨x, hx⟩ : ∃ x, x = f2 l jj jj + ind jj (a.take k) := ⟨_, rfl⟩
                      have hTS : Told w1.heap.size l.length (fun j => if j = jj then f2 l jj j + ind jj (a.take (k + 1)) else f2 l jj j) (wr.setCell ⟨w1.heap.size, jj, none⟩ (.int .i64 (x + 1))) := HTI.out.set fun j _ => by
                        rw [HIT.out]
                        by_cases hk : j = jj
                        · subst hk
                          rw [if_pos rfl, if_pos rfl, if_pos rfl]
                          omega
                        · rw [if_neg hk, if_neg hk, if_neg hk]
                      have HTN := Lib.hid hTS
                      have hxw : wrap64 (x + 1) = x + 1 := up1 (by omega)
                      rw [← hx] at t0
                      have HVN := Lib.hid (HVI.out.set (i := jj) (u := .int .i64 (x + 1)) HBB.out)
                      have HGN : Hid (Grew w1 (wr.setCell ⟨w1.heap.size, jj, none⟩ (.int .i64 (x + 1)))) := Lib.hid ((show Below w1.heap.size w1 wr from HGI.out).setCell (p := ⟨w1.heap.size, jj, none⟩) (Nat.le_refl _) _)
                      have hj1 : (jj : Int) < (l.length : Int) := by omega
                      clear hb0 hb1 hTS hx HTI HVI HGI hjl HIT
                      go_wp2
                      go_roundg g2
                      case measure => omega
                      case rel => exact ⟨k + 1, by first | (simp; done) | rw [HWK.out], HM2.out, HTN, HVN, HGN⟩
                    · have hne : ((jj : Int) == (i : Int)) = false := by rw [beq_eq_false_iff_ne]; omega
                      have HTN : Hid (Told w1.heap.size l.length (fun j => if j = i then f2 l i j + ind i (a.take (k + 1)) else f2 l i j) wr) := Lib.hid (by
                        have h0 : ind i (a.take (k + 1)) = ind i (a.take k) := by
                          rw [HIT.out]
                          exact if_neg (fun h => hji h.symm)
                        exact HTI.out.congr fun j _ => by rw [h0])
                      clear HTI HIT hjl
                      have hji' : ¬ (jj : Int) = (i : Int) := by omega
                      clear hji
                      go_wp2
                      go_roundg g2
                      case measure => omega
                      case rel => exact ⟨k + 1, by first | (simp; done) | rw [HWK.out], HM2.out, HTN, HVI, HGI⟩
              · have HTN : Hid (Told w1.heap.size l.length (f2 l (i + 1)) wr) := Lib.hid (HT.out.congr fun j _ => f2_pass l i hk j)
                generalize (el l i).kind = kd at *
                clear HT d4 d5 HIL hil
                go_wp2
                go_roundg g
                case measure => omega
                case rel => exact ⟨i + 1, by first | (simp; done) | rw [HWI.out], HM.out, HTN, HG⟩
            | zero =>
              have hiz : ¬ ((i : Int) < (l.length : Int)) := by omega
              have HT3 : Hid (Told w1.heap.size l.length (fun j => want (el l j)) wr) := Lib.hid (HT.out.congr fun j hj => by rw [show i = l.length by omega]; exact f2_want HOK.out j hj)
              clear HT hig HLY
              go_wp2
              clear hiz
              go_loopg [10] l.length (fun g s10 wx => ∃ i : Nat, s10 = .int .i64 i ∧ i + g = l.length ∧ Hid (Told w1.heap.size l.length (fun j => want (el l j)) wx) ∧ Hid (Grew w1 wx))
              case atStart => exact ⟨0, rfl, by omega, HT3, HG⟩
              case round =>
                clear HT3 HG
                obtain ⟨i, rfl, hig, HT, HG⟩ := hrel
                cases gk with
                | zero =>
                  have hiz : ¬ ((i : Int) < (l.length : Int)) := by omega
                  go_wp2_with fail
                  refine (HA.out _).mono ?_
                  rintro e w2 ⟨rfl, hg⟩
                  have G2 := Lib.hid ((G1.out.trans HG.out).trans hg)
                  clear hg
                  go_wp2
                  go_returns
                  exact ⟨rfl, G2.out⟩
                | succ g =>
                  have hil : i < l.length := by omega
                  have hiz : (i : Int) < (l.length : Int) := by omega
                  have hx : l[i]? = some (el l i) := by unfold el; rw [List.getElem?_eq_getElem hil]; rfl
                  obtain ⟨ad, c9, e9', hc9, d0, _, d2, _⟩ := Its_at (HL.out.grew (G1.out.trans HG.out)) hx
                  injection e9' with e1 _ e3
                  subst e1 e3
                  have hwi : wrap64 ((i : Int) + 1) = ((i + 1 : Nat) : Int) := wr1 hil (Nat.le_trans H60.out (by decide))
                  have HWI := Lib.hid hwi
                  have HM : Hid (i + 1 + g = l.length) := Lib.hid (by omega)
                  obtain ⟨t0, _⟩ := HT.out.cell hil
                  have hw : want (el l i) = if (el l i).used = true ∧ ¬ (el l i).kind = 3 then 1 else 0 := rfl
                  rw [hw] at t0
                  clear hwi hig hc9 hx hw hil
                  generalize (el l i).used = us at *
                  generalize (el l i).kind = kd at *
                  cases us with
                  | false =>
                    rw [if_neg (by simp)] at t0
                    go_wp2
                    go_roundg g
                    case measure => omega
                    case rel => exact ⟨i + 1, by first | (simp; done) | rw [HWI.out], HM.out, HT, HG⟩
                  | true =>
                    by_cases h3 : kd = 3
                    · subst h3
                      rw [if_neg (by simp)] at t0
                      go_wp2
                      go_roundg g
                      case measure => omega
                      case rel => exact ⟨i + 1, by first | (simp; done) | rw [HWI.out], HM.out, HT, HG⟩
                    · rw [if_pos ⟨rfl, h3⟩] at t0
                      go_wp2
                      go_roundg g
                      case measure => omega
                      case rel => exact ⟨i + 1, by first | (simp; done) | rw [HWI.out], HM.out, HT, HG⟩
end Go.Proofs.Ytaolallfmjjoeaa.TN
