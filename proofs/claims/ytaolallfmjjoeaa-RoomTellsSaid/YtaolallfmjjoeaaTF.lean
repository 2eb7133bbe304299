/-
  What a holder has, an account, a room; whether there may be holders.
  Conditions: those that each lemma names.
-/
import Derived.Test.YtaolallfmjjoeaaTE
namespace Go.Proofs.Ytaolallfmjjoeaa.TF
set_option maxRecDepth 100000
open Go Go.RowKit Go.Lib Go.Proofs.Ytaolallfmjjoeaa Go.Proofs.Ytaolallfmjjoeaa.Facts Go.Proofs.Ytaolallfmjjoeaa.Ints Go.Proofs.Ytaolallfmjjoeaa.TI Go.Proofs.Ytaolallfmjjoeaa.TP Go.Proofs.Ytaolallfmjjoeaa.TB Go.Proofs.Ytaolallfmjjoeaa.TC Go.Proofs.Ytaolallfmjjoeaa.TD Go.Proofs.Ytaolallfmjjoeaa.TE Go.Proofs.Ytaolallfmjjoeaa.Bytes


theorem grew_below {a b c : World} {base : Nat} (h : Grew a b) (hb : a.heap.size ≤ base) (k : Below base b c) : Grew a c := Below.trans h (Below.mono k hb)
theorem slots_h (h : Ho) (l : List It) (v : Value) (w : World) (hl : Its w v l) (hn : l.length ≤ 1000) :
    Calls Try.prog 73 #[hv h, v] w fun e w' => ∃ v', e = .returned v' ∧ IsB w.heap.size w' v' (slotsOf l h) ∧ Grew w w' := by
  have hh : hv h = .agg #[.int .i64 h.kind, .int .i64 h.who, .int .i64 h.lab, .int .i64 h.slot] := rfl
  rw [hh]
  clear hh
  have g1 : Grew w (w.alloc (.cells #[.int .i64 h.kind, .int .i64 h.who, .int .i64 h.lab, .int .i64 h.slot] 89)) := by unfold Grew; go_grown
  have b1 : (w.alloc (.cells #[.int .i64 h.kind, .int .i64 h.who, .int .i64 h.lab, .int .i64 h.slot] 89)).heap[w.heap.size]? = some (.cells #[.int .i64 h.kind, .int .i64 h.who, .int .i64 h.lab, .int .i64 h.slot] 89 (0, 0)) := heap_alloc_new w _
  have z1 : (w.alloc (.cells #[.int .i64 h.kind, .int .i64 h.who, .int .i64 h.lab, .int .i64 h.slot] 89)).heap.size = w.heap.size + 1 := by simp
  have hl1 := hl.grew g1
  have CL := other_any l h v
  have HROW := fun W (hg : Grew w W) => row_any W v l (hl.grew hg) hn
  have e9 : ∀ i ∈ upto l l.length, ∃ j : Nat, i = j ∧ j < l.length := fun i hi => by
    obtain ⟨j, e, hj, _⟩ := upto_mem hi
    exact ⟨j, e, hj⟩
  have e8 : slotsOf l h = (upto l l.length).filter fun i => !(!isH l h i) := by
    unfold slotsOf
    congr 1
    funext i
    simp
  obtain ⟨A, c, rfl, _⟩ := hl1.slice
  generalize hw1 : w.alloc (.cells #[.int .i64 h.kind, .int .i64 h.who, .int .i64 h.lab, .int .i64 h.slot] 89) = W1 at g1 b1 z1 hl1
  have g2 : Grew W1 (W1.alloc (.cells #[.slice A l.length c] 46)) := by unfold Grew; go_grown
  have L2 : (W1.alloc (.cells #[.slice A l.length c] 46)).heap[w.heap.size + 1]? = some (.cells #[.slice A l.length c] 46 (0, 0)) := by rw [← z1]; exact heap_alloc_new W1 _
  have b2 := keepB b1 g2
  have hlw := hl1.grew g2
  have hup : (upto l l.length).length ≤ 1000 := Nat.le_trans (upto_len l _) hn
  have G2 := Lib.hid (g1.trans g2)
  have HBL := Lib.hid b2
  have HLL := Lib.hid L2
  have HLW := Lib.hid hlw
  have HCL := Lib.hid CL
  have HR := Lib.hid (HROW _ (g1.trans g2))
  have HSL := Lib.hid (fun W b (hr : Row W b l) => slots_any W b l hr hn)
  have H9 := Lib.hid e9
  subst hw1
  have H8 := Lib.hid e8
  clear g1 g2 L2 b1 b2 z1 hl hl1 hlw CL HROW e9 e8
  have HDEL : Hid (∀ (V : Value) (W : World), Grew ((w.alloc (.cells #[.int .i64 h.kind, .int .i64 h.who, .int .i64 h.lab, .int .i64 h.slot] 89)).alloc (.cells #[.slice A l.length c] 46)) W → ∀ W3, Grew W W3 → W3.ownsRow W.heap.size 3 1 V (upto l l.length).length (iv (upto l l.length)) →
      Calls Try.prog 102 #[V, .func (.func 104) #[] #[.pointer (some ⟨w.heap.size + 1, 0, none⟩), .pointer (some ⟨w.heap.size, 0, none⟩)]] W3 fun e w' => ∃ v', e = .returned v' ∧ IsB W.heap.size w' v' (slotsOf l h) ∧ Below W.heap.size W3 w') := Lib.hid fun V W hW W3 hW3 hown => by
    rw [H8.out]
    exact del_any V (upto l l.length) (fun i => !isH l h i) (w.heap.size + 1) w.heap.size W.heap.size W3 hown hW3.size hup fun x hx W4 hW4 => by
      obtain ⟨j, rfl, hj⟩ := H9.out x hx
      have hg : Grew ((w.alloc (.cells #[.int .i64 h.kind, .int .i64 h.who, .int .i64 h.lab, .int .i64 h.slot] 89)).alloc (.cells #[.slice A l.length c] 46)) W4 := grew_below (hW.trans hW3) hW.size hW4
      exact HCL.out (w.heap.size + 1) w.heap.size j W4 (HLW.out.grew hg) (keepB HLL.out hg) (keepB HBL.out hg) hj
  clear hup H8
  generalize slotsOf l h = R at *
  go_enter Try.func73, Try.ntmps73
  go_wp2_with fail
  refine HR.out.mono ?_
  rintro e w1 ⟨b, rfl, hr, hg⟩
  have HS := Lib.hid (HSL.out w1 b hr)
  have HG1 := Lib.hid hg
  clear hr hg
  go_wp2_with fail
  refine HS.out.mono ?_
  rintro e w2 ⟨V, rfl, hown, hg⟩
  have HD := Lib.hid (HDEL.out V w1 HG1.out w2 hg hown)
  have HG2 := Lib.hid (HG1.out.trans hg)
  have HSZ := Lib.hid (show w.heap.size ≤ w1.heap.size from (G2.out.trans HG1.out).size)
  clear hg
  obtain ⟨A2, c2, rfl, _⟩ := Is.slice (Is.of_own hown rfl)
  clear hown
  go_wp2_with fail
  refine HD.out.mono ?_
  rintro e w3 ⟨v', rfl, hi, hb⟩
  have HI := Lib.hid hi
  have HB := Lib.hid hb
  obtain ⟨A3, c3, rfl, _⟩ := Is.slice hi.is
  clear hi hb
  go_wp2
  go_returns
  exact ⟨_, rfl, HI.out.mono HSZ.out, grew_below (G2.out.trans HG2.out) HSZ.out HB.out⟩

theorem held_any (l : List It) (n : Int) (v : Value) (w : World) (hl : Its w v l) (hn : l.length ≤ 1000) :
    Calls Try.prog 36 #[v, .int .i64 n] w fun e w' => ∃ v', e = .returned v' ∧ IsB w.heap.size w' v' (slotsOf l (hand n)) ∧ Grew w w' := by
  have HH := Lib.hid (hand_any n w)
  have HS := Lib.hid (fun W (hg : Grew w W) => slots_h (hand n) l v W (hl.grew hg) hn)
  obtain ⟨A, c, rfl, _⟩ := hl.slice
  generalize hand n = h at *
  have e : hv h = .agg #[.int .i64 h.kind, .int .i64 h.who, .int .i64 h.lab, .int .i64 h.slot] := rfl
  rw [e] at HH HS
  clear hl e
  go_enter Try.func36, Try.ntmps36
  go_wp2_with fail
  refine HH.out.mono ?_
  rintro e w1 ⟨rfl, hg⟩
  have HG := Lib.hid hg
  clear hg
  go_wp2_with fail
  refine (HS.out _ HG.out).mono ?_
  rintro e w2 ⟨v', rfl, hi, hg⟩
  have HI := Lib.hid (hi.mono HG.out.size)
  have HG2 := Lib.hid (HG.out.trans hg)
  obtain ⟨A3, c3, rfl, _⟩ := Is.slice hi.is
  clear hi hg
  go_wp2
  go_returns
  exact ⟨_, rfl, HI.out, HG2.out⟩
theorem lying_any (l : List It) (a b : Int) (v : Value) (w : World) (hl : Its w v l) (hn : l.length ≤ 1000) :
    Calls Try.prog 38 #[v, .agg #[.int .i64 a, .int .i64 b]] w fun e w' => ∃ v', e = .returned v' ∧ IsB w.heap.size w' v' (slotsOf l (floor a b)) ∧ Grew w w' := by
  have g0 : Grew w (w.alloc (.cells #[.int .i64 a, .int .i64 b] 33)) := by unfold Grew; go_grown
  have HH := Lib.hid (floor_any a b (w.alloc (.cells #[.int .i64 a, .int .i64 b] 33)))
  have HS := Lib.hid (fun W (hg : Grew w W) => slots_h (floor a b) l v W (hl.grew hg) hn)
  have G0 := Lib.hid g0
  obtain ⟨A, c, rfl, _⟩ := hl.slice
  generalize floor a b = h at *
  have e : hv h = .agg #[.int .i64 h.kind, .int .i64 h.who, .int .i64 h.lab, .int .i64 h.slot] := rfl
  rw [e] at HH HS
  clear hl e g0
  go_enter Try.func38, Try.ntmps38
  go_wp2_with fail
  refine HH.out.mono ?_
  rintro e w1 ⟨rfl, hg⟩
  have HG := Lib.hid (G0.out.trans hg)
  clear hg
  go_wp2_with fail
  refine (HS.out _ HG.out).mono ?_
  rintro e w2 ⟨v', rfl, hi, hg⟩
  have HI := Lib.hid (hi.mono HG.out.size)
  have HG2 := Lib.hid (HG.out.trans hg)
  obtain ⟨A3, c3, rfl, _⟩ := Is.slice hi.is
  clear hi hg
  go_wp2
  go_returns
  exact ⟨_, rfl, HI.out, HG2.out⟩
end Go.Proofs.Ytaolallfmjjoeaa.TF
