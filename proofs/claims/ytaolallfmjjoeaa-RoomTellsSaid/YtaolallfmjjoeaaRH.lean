/-
  The directions in which one may go.
  Conditions: those that each lemma names.
-/
import Derived.Test.YtaolallfmjjoeaaRG
namespace Go.Proofs.Ytaolallfmjjoeaa.RH
set_option maxRecDepth 100000
open Go Go.RowKit Go.Lib Go.Proofs.Ytaolallfmjjoeaa Go.Proofs.Ytaolallfmjjoeaa.Facts Go.Proofs.Ytaolallfmjjoeaa.Ints Go.Proofs.Ytaolallfmjjoeaa.TI Go.Proofs.Ytaolallfmjjoeaa.TP Go.Proofs.Ytaolallfmjjoeaa.TB Go.Proofs.Ytaolallfmjjoeaa.TC Go.Proofs.Ytaolallfmjjoeaa.TD Go.Proofs.Ytaolallfmjjoeaa.TE Go.Proofs.Ytaolallfmjjoeaa.TF Go.Proofs.Ytaolallfmjjoeaa.TH Go.Proofs.Ytaolallfmjjoeaa.RA Go.Proofs.Ytaolallfmjjoeaa.RB Go.Proofs.Ytaolallfmjjoeaa.RC Go.Proofs.Ytaolallfmjjoeaa.RD Go.Proofs.Ytaolallfmjjoeaa.RE Go.Proofs.Ytaolallfmjjoeaa.RF Go.Proofs.Ytaolallfmjjoeaa.RG Go.Proofs.Ytaolallfmjjoeaa.Bytes


/-- The directions below k. -/
def wys (l : List Ex) (a b : Int) : Nat → List Int
  | 0 => []
  | k + 1 => if slE l a b k = -1 then wys l a b k else wys l a b k ++ [(k : Int)]
theorem wys_len (l : List Ex) (a b : Int) : ∀ k, (wys l a b k).length ≤ k
  | 0 => Nat.le_refl _
  | k + 1 => by
    have := wys_len l a b k
    unfold wys
    split
    · omega
    · rw [List.length_append, List.length_singleton]
      omega
theorem w6 {k g : Nat} (h : k + (g + 1) = 6) : wrap64 ((k : Int) + 1) = ((k + 1 : Nat) : Int) := by unfold wrap64; omega
set_option maxHeartbeats 2000000 in
theorem ways_any (v : Value) (l : List Ex) (a b : Int) (w : World) (h : Exs w v l) :
    Calls Try.prog 46 #[v, .agg #[.int .i64 a, .int .i64 b]] w fun e w' => ∃ v', e = .returned v' ∧ Is w' v' (wys l a b 6) ∧ Grew w w' := by
  have HS := Lib.hid (fun W n (hg : Grew w W) => slot_any v l a b n W (h.grew hg))
  have g1 : Grew w (w.alloc (.cells #[.int .i64 a, .int .i64 b] 33)) := by unfold Grew; go_grown
  have G1 := Lib.hid g1
  have B1 := Lib.hid (heap_alloc_new w (.cells #[.int .i64 a, .int .i64 b] 33))
  obtain ⟨A, c, rfl, _⟩ := h.slice
  clear h g1
  go_enter Try.func46, Try.ntmps46
  go_wp2
  go_loopg [5, 7] 6 (fun g s5 s7 wx => ∃ (k : Nat) (v5 : Value), k + g = 6 ∧ v5 = s5 ∧ s7 = .int .i64 k ∧ Hid (wx.ownsRow (w.heap.size + 1) 3 1 s5 (wys l a b k).length (iv (wys l a b k))) ∧ Hid (wx.heap[w.heap.size]? = some (.cells #[.int .i64 a, .int .i64 b] 33 (0, 0))) ∧ Hid (Grew w wx) ∧ Hid (w.heap.size + 1 ≤ wx.heap.size))
  case atStart => exact ⟨0, _, by omega, rfl, rfl, Lib.hid (own_nil _ _), B1, G1, Lib.hid (by simp)⟩
  case round =>
    obtain ⟨k, v5, hkg, rfl, rfl, HI, HB, HG, HZ⟩ := hrel
    cases gk with
    | zero =>
      have hk6 : k = 6 := by omega
      subst hk6
      have HE : Hid (Is wr v5 (wys l a b 6)) := Lib.hid (Is.of_own HI.out rfl)
      have h66 : ¬ (((6 : Nat) : Int) < 6) := by decide
      go_wp2
      go_returns
      exact ⟨_, rfl, HE.out, HG.out⟩
    | succ g =>
      have hkz : (k : Int) < 6 := by omega
      have HKW := Lib.hid (w6 hkg)
      have HM : Hid (k + 1 + g = 6) := Lib.hid (by omega)
      have HLEN : Hid ((wys l a b k).length ≤ 6) := Lib.hid (by have := wys_len l a b k; omega)
      clear hkg
      obtain ⟨c0, c1⟩ := two_c HB.out
      have HC := Lib.hid (HS.out wr k HG.out)
      have hes : fidx l (fun x => lead x a b k) = slE l a b k := rfl
      rw [hes] at HC
      rcases slE_cases l a b k with hs | ⟨j, hs, _, _⟩
      · have HE : Hid (wys l a b (k + 1) = wys l a b k) := Lib.hid (by rw [wys, if_pos hs])
        rw [hs] at HC
        clear hs hes
        go_wp2_with fail
        refine HC.out.mono ?_
        rintro e w2 ⟨rfl, hg⟩
        have HG2 := Lib.hid (HG.out.trans hg)
        have HO := Lib.hid (own_grew HI.out hg)
        have HB2 := Lib.hid (keepB HB.out hg)
        have HZ2 : Hid (w.heap.size + 1 ≤ w2.heap.size) := Lib.hid (Nat.le_trans HZ.out hg.size)
        clear hg c0 c1
        go_wp2
        go_roundg g
        case measure => omega
        case rel =>
          refine ⟨k + 1, _, HM.out, rfl, by first | (simp; done) | rw [HKW.out], ?_, HB2, HG2, HZ2⟩
          rw [HE.out]
          exact HO
      · have HE : Hid (wys l a b (k + 1) = wys l a b k ++ [(k : Int)]) := Lib.hid (by rw [wys, if_neg (by omega)])
        rw [hs] at HC
        have hj0 : ¬ (j : Int) < 0 := by omega
        clear hs hes
        go_wp2_with fail
        refine HC.out.mono ?_
        rintro e w2 ⟨rfl, hg⟩
        have HG2 := Lib.hid (HG.out.trans hg)
        have HO := Lib.hid (own_grew HI.out hg)
        have HB2 := Lib.hid (keepB HB.out hg)
        have HZ2 : Hid (w.heap.size + 1 ≤ w2.heap.size) := Lib.hid (Nat.le_trans HZ.out hg.size)
        clear hg c0 c1
        obtain ⟨v', w3, hr, hown, hb⟩ := app_one w2 (w.heap.size + 1) v5 (wys l a b k) (k : Int) HO.out (by have := HLEN.out; omega) HZ2.out
        have HAPP := Lib.hid hr
        have HO3 := Lib.hid hown
        have HG3 : Hid (Grew w w3) := Lib.hid ((show Below w.heap.size w w2 from HG2.out).trans (hb.mono (Nat.le_succ _)))
        have HB3 : Hid (w3.heap[w.heap.size]? = some (.cells #[.int .i64 a, .int .i64 b] 33 (0, 0))) := Lib.hid ((hb.block _ (Nat.lt_succ_self _)).trans HB2.out)
        have HZ3 : Hid (w.heap.size + 1 ≤ w3.heap.size) := Lib.hid (Nat.le_trans HZ2.out hb.size)
        clear hr hown hb
        go_wp2_with (at_builtin; refine wpList_app_want (.tmp 15) (.tmp 17) 57 (by rfl) (by rfl) _ _ rfl rfl v' w3 (by exact HAPP.out) ?_)
        go_roundg g
        case measure => omega
        case rel =>
          refine ⟨k + 1, _, HM.out, rfl, by first | (simp; done) | rw [HKW.out], ?_, HB3, HG3, HZ3⟩
          rw [HE.out]
          exact HO3
end Go.Proofs.Ytaolallfmjjoeaa.RH
