/-
  Where an exit leads; an exit is closed.
  Conditions: those that each lemma names.
-/
import Derived.Test.YtaolallfmjjoeaaRE
namespace Go.Proofs.Ytaolallfmjjoeaa.RF
set_option maxRecDepth 100000
open Go Go.RowKit Go.Lib Go.Proofs.Ytaolallfmjjoeaa Go.Proofs.Ytaolallfmjjoeaa.Facts Go.Proofs.Ytaolallfmjjoeaa.Ints Go.Proofs.Ytaolallfmjjoeaa.TI Go.Proofs.Ytaolallfmjjoeaa.TP Go.Proofs.Ytaolallfmjjoeaa.TB Go.Proofs.Ytaolallfmjjoeaa.TC Go.Proofs.Ytaolallfmjjoeaa.TD Go.Proofs.Ytaolallfmjjoeaa.TE Go.Proofs.Ytaolallfmjjoeaa.TF Go.Proofs.Ytaolallfmjjoeaa.TH Go.Proofs.Ytaolallfmjjoeaa.RA Go.Proofs.Ytaolallfmjjoeaa.RB Go.Proofs.Ytaolallfmjjoeaa.RC Go.Proofs.Ytaolallfmjjoeaa.RD Go.Proofs.Ytaolallfmjjoeaa.RE Go.Proofs.Ytaolallfmjjoeaa.Bytes


/-- Which exit leads from there, in that direction. -/
def slE (l : List Ex) (a b d : Int) : Int := fidx l fun x => lead x a b d
theorem slE_cases (l : List Ex) (a b d : Int) : slE l a b d = -1 ∨ ∃ k : Nat, slE l a b d = k ∧ k < l.length ∧ lead (ee l k) a b d = true := by
  rcases fidx_cases l (fun x => lead x a b d) with ⟨h, _⟩ | ⟨k, hk, h, h2⟩
  · exact .inl h
  · refine .inr ⟨k, h, hk, ?_⟩
    unfold ee
    rw [List.getElem?_eq_getElem hk]
    exact h2.1
def findP (l : List Ex) (a b d : Int) : (Int × Int) × Bool := if slE l a b d = -1 then ((0, 0), false) else (((ee l (slE l a b d).toNat).tl, (ee l (slE l a b d).toNat).ts), true)
theorem frz {W : World} {B t k : Nat} {xs : Array Value} (h : W.heap[B]? = some (.cells xs t (0, 0))) : W.frozen? ⟨B, k, none⟩ = false := by
  unfold World.frozen?
  simp [h]
theorem find_any (v : Value) (l : List Ex) (a b d : Int) (w : World) (h : Exs w v l) :
    Calls Try.prog 14 #[v, .agg #[.int .i64 a, .int .i64 b], .int .i64 d] w fun e w' => e = .returned (.tuple #[.agg #[.int .i64 (findP l a b d).1.1, .int .i64 (findP l a b d).1.2], .bool (findP l a b d).2]) ∧ Grew w w' := by
  have HL := Lib.hid h
  have HS := Lib.hid (fun W (hg : Grew w W) => slot_any v l a b d W (h.grew hg))
  have g1 : Grew w ((w.alloc (.cells #[.int .i64 a, .int .i64 b] 33)).alloc (.cells #[.int .i64 0, .int .i64 0] 33)) := by unfold Grew; go_grown
  have G1 := Lib.hid g1
  have B1 := Lib.hid (heap_alloc2_new w (.cells #[.int .i64 a, .int .i64 b] 33) (.cells #[.int .i64 0, .int .i64 0] 33))
  obtain ⟨A, c, rfl, _⟩ := h.slice
  unfold findP
  clear h g1
  rcases slE_cases l a b d with hs | ⟨k, hs, hk, _⟩
  · rw [hs, if_pos rfl]
    simp only
    unfold slE at hs
    simp only [hs] at HS
    clear hs
    go_enter Try.func14, Try.ntmps14
    go_wp2_with fail
    refine (HS.out _ G1.out).mono ?_
    rintro e w1 ⟨rfl, hg⟩
    have G2 := Lib.hid (G1.out.trans hg)
    have B2 := Lib.hid (keepB B1.out hg)
    clear hg
    obtain ⟨c0, c1⟩ := two_c B2.out
    have f0 := frz (k := 0) B2.out
    have f1 := frz (k := 1) B2.out
    have e0 : ∀ x, (w1.setCell ⟨w.heap.size + 1, 0, none⟩ x).cell? ⟨w.heap.size + 1, 0, none⟩ = some x := fun x => World.cell?_setCell_same _ _ _ c0
    have e1 : ∀ x y, ((w1.setCell ⟨w.heap.size + 1, 0, none⟩ x).setCell ⟨w.heap.size + 1, 1, none⟩ y).cell? ⟨w.heap.size + 1, 1, none⟩ = some y := fun x y => World.cell?_setCell_same _ _ _ (by rw [World.cell?_setCell_other]; exact c1; simp)
    go_wp2
    refine bodyPost_ret (by simp [results, Try.results14, go_sem, e0, e1]; try rfl) rfl ?_
    exact ⟨by first | rfl | (simp; done), Below.setCell (Below.setCell G2.out (Nat.le_succ _) _) (Nat.le_succ _) _⟩
  · have hne : ¬ (k : Int) = -1 := by omega
    rw [hs, if_neg hne, Int.toNat_natCast]
    simp only
    unfold slE at hs
    simp only [hs] at HS
    have HK := Lib.hid hk
    clear hs hne hk
    have hx : l[k]? = some (ee l k) := by unfold ee; rw [List.getElem?_eq_getElem HK.out]; rfl
    have HX := Lib.hid hx
    clear hx
    have hkl : (k : Int) < (l.length : Int) := by have := HK.out; omega
    have hk0 : ¬ (k : Int) < 0 := by omega
    go_enter Try.func14, Try.ntmps14
    go_wp2_with fail
    refine (HS.out _ G1.out).mono ?_
    rintro e w1 ⟨rfl, hg⟩
    have G2 := Lib.hid (G1.out.trans hg)
    have B2 := Lib.hid (keepB B1.out hg)
    clear hg
    obtain ⟨c0, c1⟩ := two_c B2.out
    have f0 := frz (k := 0) B2.out
    have f1 := frz (k := 1) B2.out
    have e0 : ∀ x, (w1.setCell ⟨w.heap.size + 1, 0, none⟩ x).cell? ⟨w.heap.size + 1, 0, none⟩ = some x := fun x => World.cell?_setCell_same _ _ _ c0
    have e1 : ∀ x y, ((w1.setCell ⟨w.heap.size + 1, 0, none⟩ x).setCell ⟨w.heap.size + 1, 1, none⟩ y).cell? ⟨w.heap.size + 1, 1, none⟩ = some y := fun x y => World.cell?_setCell_same _ _ _ (by rw [World.cell?_setCell_other]; exact c1; simp)
    obtain ⟨ad, c3, e, _, d0, d1, d2, d3, d4, d5⟩ := Exs_at (HL.out.grew G2.out) HX.out
    injection e with e1 _ e3
    subst e1 e3
    go_wp2
    refine bodyPost_ret (by simp [results, Try.results14, go_sem, e0, e1]; try rfl) rfl ?_
    exact ⟨by first | rfl | (simp; done), Below.setCell (Below.setCell G2.out (Nat.le_succ _) _) (Nat.le_succ _) _⟩

/-- What comes of closing. -/
def closeP (l : List Ex) (a b d : Int) : List Ex × Int := if exq [] l = false then ([], 1) else if slE l a b d = -1 then ([], 3) else (l.set (slE l a b d).toNat zex, 0)
theorem close_any (v : Value) (l : List Ex) (a b d : Int) (w : World) (h : Exs w v l) (hl : l.length * 48 ≤ 140737488355328) :
    Calls Try.prog 16 #[v, .agg #[.int .i64 a, .int .i64 b], .int .i64 d] w fun e w' => ∃ v', e = .returned (.tuple #[v', .int .i64 (closeP l a b d).2]) ∧ Exs w' v' (closeP l a b d).1 ∧ Grew w w' := by
  have HS := Lib.hid (fun W (hg : Grew w W) => slot_any v l a b d W (h.grew hg))
  have HE := Lib.hid (fun W (hg : Grew w W) => exits_any v l W (h.grew hg) (by omega))
  have HROW := Lib.hid (fun W (hg : Grew w W) => ex_row W v l (h.grew hg) hl)
  have hv : exv zex = .agg #[.bool false, .int .i64 0, .int .i64 0, .int .i64 0, .int .i64 0, .int .i64 0] := rfl
  have HPUT := Lib.hid (fun W r k (hr : RowE W r l) (hk : k < l.length) => ex_put W r l k zex hr hk hl)
  rw [hv] at HPUT
  have g1 : Grew w (w.alloc (.cells #[.int .i64 a, .int .i64 b] 33)) := by unfold Grew; go_grown
  have G1 := Lib.hid g1
  have B1 := Lib.hid (heap_alloc_new w (.cells #[.int .i64 a, .int .i64 b] 33))
  unfold closeP
  obtain ⟨A, c, rfl, _⟩ := h.slice
  generalize exq [] l = p at *
  clear h g1 hv hl
  cases p with
  | false =>
    simp only [if_true]
    go_enter Try.func16, Try.ntmps16
    go_wp2_with fail
    refine (HE.out _ G1.out).mono ?_
    rintro e w1 ⟨rfl, hg⟩
    have G2 := Lib.hid (G1.out.trans hg)
    clear hg
    go_wp2
    go_returns
    exact ⟨_, rfl, rw_none _, G2.out⟩
  | true =>
    simp only [Bool.true_eq_false, if_false]
    rcases slE_cases l a b d with hs | ⟨k, hs, hk, _⟩
    · rw [hs, if_pos rfl]
      simp only
      unfold slE at hs
      simp only [hs] at HS
      clear hs
      go_enter Try.func16, Try.ntmps16
      go_wp2_with fail
      refine (HE.out _ G1.out).mono ?_
      rintro e w1 ⟨rfl, hg⟩
      have G2 := Lib.hid (G1.out.trans hg)
      have B2 := Lib.hid (keepB B1.out hg)
      clear hg
      obtain ⟨c0, c1⟩ := two_c B2.out
      go_wp2_with fail
      refine (HS.out _ G2.out).mono ?_
      rintro e w3 ⟨rfl, hg⟩
      have G3 := Lib.hid (G2.out.trans hg)
      clear hg c0 c1
      go_wp2
      go_returns
      exact ⟨_, rfl, rw_none _, G3.out⟩
    · have hne : ¬ (k : Int) = -1 := by omega
      rw [hs, if_neg hne, Int.toNat_natCast]
      simp only
      unfold slE at hs
      simp only [hs] at HS
      have HK := Lib.hid hk
      clear hs hne hk
      have hk0 : ¬ (k : Int) < 0 := by omega
      go_enter Try.func16, Try.ntmps16
      go_wp2_with fail
      refine (HE.out _ G1.out).mono ?_
      rintro e w1 ⟨rfl, hg⟩
      have G2 := Lib.hid (G1.out.trans hg)
      have B2 := Lib.hid (keepB B1.out hg)
      clear hg
      obtain ⟨c0, c1⟩ := two_c B2.out
      go_wp2_with fail
      refine (HS.out _ G2.out).mono ?_
      rintro e w3 ⟨rfl, hg⟩
      have G3 := Lib.hid (G2.out.trans hg)
      clear hg c0 c1
      go_wp2_with fail
      refine (HROW.out _ G3.out).mono ?_
      rintro e w4 ⟨r, rfl, hr, hg⟩
      have G4 := Lib.hid (G3.out.trans hg)
      have HP := Lib.hid (HPUT.out w4 r k hr HK.out)
      clear hr hg
      go_wp2_with fail
      refine HP.out.mono ?_
      rintro e w5 ⟨v', rfl, hi, hg⟩
      have G5 := Lib.hid (G4.out.trans hg)
      have HI := Lib.hid hi
      obtain ⟨A2, c2, rfl, _⟩ := hi.slice
      clear hi hg
      go_wp2
      go_returns
      have hI := HI.out
      rw [List.length_set] at hI
      exact ⟨_, rfl, hI, G5.out⟩
end Go.Proofs.Ytaolallfmjjoeaa.RF
