/-
  Which quotas a realm may have, as the document tells it.
  Conditions: none.
-/
import Derived.Test.YtmegdgeiikhflaaGreatDL
namespace Go.Proofs.YtmegdgeiikhflaaGreat.DQ
set_option maxRecDepth 100000
open Go Go.RowKit Go.Lib Go.Proofs.YtmegdgeiikhflaaGreat Go.Proofs.YtmegdgeiikhflaaGreat.Facts Go.Proofs.YtmegdgeiikhflaaGreat.Plain Go.Proofs.YtmegdgeiikhflaaGreat.Ints Go.Proofs.YtmegdgeiikhflaaGreat.RRows Go.Proofs.YtmegdgeiikhflaaGreat.LBox Go.Proofs.YtmegdgeiikhflaaGreat.RSmall Go.Proofs.YtmegdgeiikhflaaGreat.RFind Go.Proofs.YtmegdgeiikhflaaGreat.RAll Go.Proofs.YtmegdgeiikhflaaGreat.RRule1 Go.Proofs.YtmegdgeiikhflaaGreat.RRules Go.Proofs.YtmegdgeiikhflaaGreat.RRule5 Go.Proofs.YtmegdgeiikhflaaGreat.RCaps Go.Proofs.YtmegdgeiikhflaaGreat.LRefs

def okQ (l : List Qu) : Bool := l.all quOk && (plazaOk l && capOk l)
theorem okQ_one {l : List Qu} {k : Nat} {x : Qu} (h : l[k]? = some x) (hx : quOk x = false) : okQ l = false := by
  unfold okQ
  have : l.all quOk = false := by
    rw [List.all_eq_false]
    exact ⟨x, List.mem_of_getElem? h, by simp [hx]⟩
  rw [this]
  rfl
theorem okQ_cap {l : List Qu} (h : ¬ caps l ≤ 4611686018427387904) : okQ l = false := by
  unfold okQ capOk
  rw [decide_eq_false h]
  simp
theorem okQ_end {l : List Qu} (h : ∀ (j : Nat) x, l[j]? = some x → quOk x = true) (hc : caps l ≤ 4611686018427387904) : okQ l = plazaOk l := by
  unfold okQ capOk
  rw [decide_eq_true hc, Bool.and_true]
  have : l.all quOk = true := by
    rw [List.all_eq_true]
    intro x hx
    obtain ⟨j, hj⟩ := List.getElem?_of_mem hx
    exact h j x hj
  rw [this, Bool.true_and]
set_option maxHeartbeats 8000000 in
theorem quotas_any (v : Value) (l : List Qu) (w : World) (h : Qs w v l) : Calls Tryz.prog 51 #[v] w fun e w' => e = .returned (.bool (okQ l)) ∧ Grew w w' := by
  have HL := Lib.hid h
  obtain ⟨A, cp, rfl, hc1, hc2⟩ := h.slice
  have HC2 := Lib.hid (Nat.le_trans hc1 hc2)
  have HONE := Lib.hid (fun k x => @okQ_one l k x)
  have HCAP := Lib.hid (@okQ_cap l)
  have HEND := Lib.hid (@okQ_end l)
  generalize okQ l = res at *
  clear h hc1 hc2
  go_enter Tryz.func51, Tryz.ntmps51
  go_wp2
  go_loopg [3, 4] l.length (fun g s3 s4 wx => ∃ k m : Nat, k + g = l.length ∧ s3 = .int .u64 (m : Int) ∧ s4 = .int .i64 k ∧ Hid (m + caps (l.take k) = 4611686018427387904) ∧ Hid (∀ (j : Nat) x, j < k → l[j]? = some x → quOk x = true) ∧ Hid (Grew w wx))
  case atStart => exact ⟨0, 4611686018427387904, by omega, rfl, rfl, Lib.hid (by simp [caps]), Lib.hid (fun j x h => absurd h (by omega)), Lib.hid (Grew.refl _)⟩
  case round =>
    obtain ⟨k, m, hkg, rfl, rfl, HM, HJ, HG⟩ := hrel
    cases gk with
    | zero =>
      have hkz : ¬ ((k : Int) < (l.length : Int)) := by omega
      have HR : Hid (res = plazaOk l) := Lib.hid (HEND.out (fun j x hx => HJ.out j x (by have := (List.getElem?_eq_some_iff.1 hx).1; omega) hx) (by have := HM.out; rw [List.take_of_length_le (by omega)] at this; omega))
      cases l with
      | nil =>
        have hkz : ¬ ((k : Int) < 0) := by omega
        have HRS : Hid (res = false) := Lib.hid HR.out
        simp only [List.length_nil] at *
        go_wp2
        go_returns
        refine ⟨?_, HG.out⟩
        rw [HRS.out]
        try rfl
      | cons q l =>
        obtain ⟨ad, c2, e, hc, c0, _⟩ := Qs_at (HL.out.grew HG.out) (k := 0) rfl
        injection e with e1 _ e3
        subst e1 e3
        have c0' : wr.cell? ad = some (.int .i64 q.rooms) := by simpa [Addr.add] using c0
        have hpos : (0 : Int) < ((q :: l).length : Int) := by simp
        have hq0 : 0 ≤ q.rooms := by
          have := HJ.out 0 q (by rw [List.length_cons] at hkg; omega) rfl
          unfold quOk five wit at this
          simp at this
          omega
        have hres : res = !decide (q.rooms = 0) := HR.out
        generalize (q :: l).length = n at *
        clear c0 hc
        by_cases hr : q.rooms = 0
        · rw [decide_eq_true hr] at hres
          have HRS : Hid (res = false) := Lib.hid hres
          clear hres
          have hb : decide ((0 : Int) < q.rooms) = false := decide_eq_false (by omega)
          clear hq0
          go_wp2
          go_returns
          refine ⟨?_, HG.out⟩
          rw [HRS.out]
          try simp
        · rw [decide_eq_false hr] at hres
          have HRS : Hid (res = true) := Lib.hid hres
          clear hres
          have hb : (0 : Int) < q.rooms := by omega
          clear hq0
          go_wp2
          go_returns
          refine ⟨?_, HG.out⟩
          rw [HRS.out]
          try simp
    | succ g =>
      have hkz : (k : Int) < (l.length : Int) := by omega
      have hx : l[k]? = some l[k] := List.getElem?_eq_getElem (by omega)
      obtain ⟨ad, c2, e, hc, c0, c1, c2', c3, c4, c5⟩ := Qs_at (HL.out.grew HG.out) hx
      injection e with e1 _ e3
      subst e1 e3
      have HST := Lib.hid (caps_step l k _ hx)
      have HLE := Lib.hid (caps_le l (k + 1))
      have HX := Lib.hid hx
      have hkw : wrap64 ((k : Int) + 1) = (k : Int) + 1 := by
        have := HC2.out
        unfold maxLen at this
        unfold wrap64
        omega
      generalize l[k] = x at *
      clear hx
      have HQ : Hid (quOk x = (wit x.rooms 0 12 && (wit x.exits 0 12 && (wit x.items 0 12 && (wit x.mails 0 12 && wit x.trades 0 12))))) := Lib.hid (by unfold quOk five; simp)
      have HO := Lib.hid (HONE.out k x HX.out)
      have HS1 := Lib.hid (fun W => slots_any x.rooms W)
      have HS2 := Lib.hid (fun W => slots_any x.exits W)
      have HS3 := Lib.hid (fun W => slots_any x.items W)
      have HS4 := Lib.hid (fun W => slots_any x.mails W)
      have HS5 := Lib.hid (fun W => slots_any x.trades W)
      generalize wit x.rooms 0 12 = b1 at *
      generalize wit x.exits 0 12 = b2 at *
      generalize wit x.items 0 12 = b3 at *
      generalize wit x.mails 0 12 = b4 at *
      generalize wit x.trades 0 12 = b5 at *
      have A0 : Hid (Grew wr (wr.alloc (Obj.cells #[.int .i64 x.rooms, .int .i64 x.exits, .int .i64 x.items, .int .i64 x.mails, .int .i64 x.trades, .int .u64 (x.cap.toNat : Int)] 100))) := Lib.hid (by unfold Grew; go_grown)
      have X0 : Hid ((wr.alloc (Obj.cells #[.int .i64 x.rooms, .int .i64 x.exits, .int .i64 x.items, .int .i64 x.mails, .int .i64 x.trades, .int .u64 (x.cap.toNat : Int)] 100)).heap[wr.heap.size]? = some (qcell x)) := Lib.hid (heap_alloc_new wr _)
      have G0 := Lib.hid (HG.out.trans A0.out)
      obtain ⟨x0, x1, x2, x3, x4, x5⟩ := qu_cells X0.out
      go_wp2_with fail
      refine (HS1.out _).mono ?_
      rintro e w1 ⟨rfl, hg⟩
      have G1 := Lib.hid (G0.out.trans hg)
      have X1 := Lib.hid (keepB X0.out hg)
      clear hg x0 x1 x2 x3 x4 x5 c0 c1 c2' c3 c4 c5
      obtain ⟨x0, x1, x2, x3, x4, x5⟩ := qu_cells X1.out
      cases b1 with
      | false =>
        have HR := Lib.hid (HO.out (HQ.out.trans (by simp)))
        go_wp2
        go_returns
        refine ⟨?_, G1.out⟩
        rw [HR.out]
        try rfl
      | true =>
        go_wp2_with fail
        refine (HS2.out _).mono ?_
        rintro e w2 ⟨rfl, hg⟩
        have G2 := Lib.hid (G1.out.trans hg)
        have X2 := Lib.hid (keepB X1.out hg)
        clear hg x0 x1 x2 x3 x4 x5
        obtain ⟨x0, x1, x2, x3, x4, x5⟩ := qu_cells X2.out
        cases b2 with
        | false =>
          have HR := Lib.hid (HO.out (HQ.out.trans (by simp)))
          go_wp2
          go_returns
          refine ⟨?_, G2.out⟩
          rw [HR.out]
          try rfl
        | true =>
          go_wp2_with fail
          refine (HS3.out _).mono ?_
          rintro e w3 ⟨rfl, hg⟩
          have G3 := Lib.hid (G2.out.trans hg)
          have X3 := Lib.hid (keepB X2.out hg)
          clear hg x0 x1 x2 x3 x4 x5
          obtain ⟨x0, x1, x2, x3, x4, x5⟩ := qu_cells X3.out
          cases b3 with
          | false =>
            have HR := Lib.hid (HO.out (HQ.out.trans (by simp)))
            go_wp2
            go_returns
            refine ⟨?_, G3.out⟩
            rw [HR.out]
            try rfl
          | true =>
            go_wp2_with fail
            refine (HS4.out _).mono ?_
            rintro e w4 ⟨rfl, hg⟩
            have G4 := Lib.hid (G3.out.trans hg)
            have X4 := Lib.hid (keepB X3.out hg)
            clear hg x0 x1 x2 x3 x4 x5
            obtain ⟨x0, x1, x2, x3, x4, x5⟩ := qu_cells X4.out
            cases b4 with
            | false =>
              have HR := Lib.hid (HO.out (HQ.out.trans (by simp)))
              go_wp2
              go_returns
              refine ⟨?_, G4.out⟩
              rw [HR.out]
              try rfl
            | true =>
              go_wp2_with fail
              refine (HS5.out _).mono ?_
              rintro e w5 ⟨rfl, hg⟩
              have G5 := Lib.hid (G4.out.trans hg)
              have X5 := Lib.hid (keepB X4.out hg)
              clear hg x0 x1 x2 x3 x4 x5
              obtain ⟨x0, x1, x2, x3, x4, x5⟩ := qu_cells X5.out
              cases b5 with
              | false =>
                have HR := Lib.hid (HO.out (HQ.out.trans (by simp)))
                go_wp2
                go_returns
                refine ⟨?_, G5.out⟩
                rw [HR.out]
                try rfl
              | true =>
                have HQT : Hid (quOk x = true) := Lib.hid (HQ.out.trans (by simp))
                by_cases hcm : m < x.cap.toNat
                · have HR := Lib.hid (HCAP.out (by have := HM.out; have := HST.out; have := HLE.out; omega))
                  have hc' : (m : Int) < (x.cap.toNat : Int) := by omega
                  clear hcm
                  go_wp2
                  go_returns
                  refine ⟨?_, G5.out⟩
                  rw [HR.out]
                  try rfl
                · have hc' : ¬ (m : Int) < (x.cap.toNat : Int) := by omega
                  have hsub : IntKind.u64.wrap ((m : Int) - (x.cap.toNat : Int)) = ((m - x.cap.toNat : Nat) : Int) := by
                    rw [IntWalk.u64_in _ (by have := HM.out; omega)]
                    omega
                  have HM2 : Hid (m - x.cap.toNat + caps (l.take (k + 1)) = 4611686018427387904) := Lib.hid (by have := HM.out; have := HST.out; omega)
                  have HJ2 : Hid (∀ (j : Nat) y, j < k + 1 → l[j]? = some y → quOk y = true) := Lib.hid fun j y hj hy => by
                    by_cases hjk : j = k
                    · subst hjk
                      rw [HX.out] at hy
                      cases hy
                      exact HQT.out
                    · exact HJ.out j y (by omega) hy
                  clear hcm
                  go_wp2
                  go_roundg g
                  case measure => omega
                  case rel => exact ⟨k + 1, m - x.cap.toNat, by omega, by first | rfl | simp [hsub], by first | rfl | simp [hkw] | simp, HM2, HJ2, G5⟩
end Go.Proofs.YtmegdgeiikhflaaGreat.DQ
