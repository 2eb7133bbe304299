/-
  Which lists of items may be, as the document answers.
  Conditions: those that each lemma names.
-/
import Derived.Test.YtaolallfmjjoeaaDA
import Derived.Test.YtaolallfmjjoeaaRefName
namespace Go.Proofs.Ytaolallfmjjoeaa.DB
set_option maxRecDepth 100000
open Go Go.RowKit Go.Lib Go.Proofs.Ytaolallfmjjoeaa Go.Proofs.Ytaolallfmjjoeaa.Facts Go.Proofs.Ytaolallfmjjoeaa.Ints Go.Proofs.Ytaolallfmjjoeaa.TI Go.Proofs.Ytaolallfmjjoeaa.TP Go.Proofs.Ytaolallfmjjoeaa.TB Go.Proofs.Ytaolallfmjjoeaa.TC Go.Proofs.Ytaolallfmjjoeaa.TD Go.Proofs.Ytaolallfmjjoeaa.TE Go.Proofs.Ytaolallfmjjoeaa.TF Go.Proofs.Ytaolallfmjjoeaa.TG Go.Proofs.Ytaolallfmjjoeaa.TH Go.Proofs.Ytaolallfmjjoeaa.TJ Go.Proofs.Ytaolallfmjjoeaa.TK Go.Proofs.Ytaolallfmjjoeaa.TL Go.Proofs.Ytaolallfmjjoeaa.DA Go.Proofs.Ytaolallfmjjoeaa.Bytes


theorem okI_ref (us : Bool) (s : ByteArray) (k n a b : Int) : okI ⟨us, s, k, n, a, b⟩ = if us = true then Chars.right s.data.toList && (((decide (k = 1) || decide (k = 3)) && num n && decide (a = 0 ∧ b = 0)) || (decide (k = 2) && decide (n = 0) && (num a && num b))) else decide ((⟨us, s, k, n, a, b⟩ : It) = zit) := by
  unfold okI
  cases us with
  | false => rfl
  | true =>
    simp only [if_true]
    congr 1
    unfold hol
    rw [okH_is]
    have z : num 0 = true := by decide
    by_cases h1 : k = 1
    · subst h1
      by_cases h : a = 0 ∧ b = 0
      · obtain ⟨rfl, rfl⟩ := h
        simp [z]
      · have h' : a = 0 → ¬ b = 0 := fun e f => h ⟨e, f⟩
        simp [h]
        try intro _ _ _ e; exact h' e
    by_cases h2 : k = 2
    · subst h2
      by_cases h : n = 0
      · subst h
        simp [z]
      · simp [h]
    by_cases h3 : k = 3
    · subst h3
      by_cases h : a = 0 ∧ b = 0
      · obtain ⟨rfl, rfl⟩ := h
        simp [z]
      · simp [h]
    simp [h1, h2, h3]
theorem neqI (x y : It) (h : x ≠ y) (W : World) : (binOp .neq 67 (iv6 x) (iv6 y)).run Try.prog W = .ok (.bool true) W := by
  have e : decide (x = y) = (decide (x.used = y.used) && (decide (x.name = y.name) && (decide (x.kind = y.kind) && (decide (x.who = y.who) && (decide (x.lab = y.lab) && decide (x.slot = y.slot)))))) := by
    cases x
    cases y
    rw [Bool.eq_iff_iff]
    simp [It.mk.injEq]
  rw [decide_eq_false h] at e
  clear h
  unfold iv6
  obtain ⟨u, s, k, n, a, b⟩ := x
  obtain ⟨u2, s2, k2, n2, a2, b2⟩ := y
  have hs : s.toList = s2.toList ↔ s = s2 := by simpa using Lib.bytes_beq_iff s s2
  simp only at e
  go_simp
  by_cases h0 : u = u2 <;> by_cases h9 : s = s2 <;> by_cases h1 : k = k2 <;> by_cases h2 : n = n2 <;> by_cases h3 : a = a2 <;> by_cases h4 : b = b2 <;> (simp [h0, h1, h2, h3, h4, h9] at e) <;> simp [h0, h1, h2, h3, h4, h9, hs]

theorem Sz_at {l : List It} (h : Sz l) (k : Nat) : (el l k).name.size ≤ 9223372036854775807 := by
  unfold el
  cases hx : l[k]? with
  | none => decide
  | some x => exact h x (List.mem_of_getElem? hx)
set_option maxHeartbeats 4000000 in
theorem rright_any (v : Value) (l : List It) (w : World) (h : Its w v l) (hz : Sz l) (hn : l.length ≤ 1000) : Calls Try.prog 23 #[v] w fun e w' => e = .returned (.bool (okL l)) ∧ Grew w w' := by
  have HL := Lib.hid h
  have HZ := Lib.hid hz
  obtain ⟨A, c, rfl, _⟩ := h.slice
  have HNO : Hid (∀ k, okI (el l k) = false → okL l = false) := Lib.hid fun k hk => by
    cases ho : okL l with
    | false => rfl
    | true => rw [okL_el ho k] at hk; cases hk
  have HYES : Hid ((∀ j, j < l.length → okI (el l j) = true) → okL l = true) := Lib.hid fun hh => by
    unfold okL
    rw [List.all_eq_true]
    intro x hx
    obtain ⟨j, hj, rfl⟩ := List.getElem_of_mem hx
    have := hh j hj
    unfold el at this
    rw [List.getElem?_eq_getElem hj] at this
    exact this
  have HN := Lib.hid hn
  clear h hz hn
  go_enter Try.func23, Try.ntmps23
  go_wp2
  go_loopg [3] l.length (fun g s3 wx => ∃ k : Nat, k + g = l.length ∧ s3 = .int .i64 k ∧ Hid (∀ j, j < k → okI (el l j) = true) ∧ Hid (Grew w wx))
  case atStart => exact ⟨0, by omega, rfl, Lib.hid (fun j hj => absurd hj (by omega)), Lib.hid (Grew.refl _)⟩
  case round =>
    obtain ⟨k, hkg, rfl, HJ, HG⟩ := hrel
    cases gk with
    | zero =>
      have hkz : ¬ ((k : Int) < (l.length : Int)) := by omega
      have HRES : Hid (okL l = true) := Lib.hid (HYES.out fun j hj => HJ.out j (by omega))
      go_wp2
      go_returns
      refine ⟨?_, HG.out⟩
      rw [HRES.out]
      try rfl
    | succ g =>
      have hkz : (k : Int) < (l.length : Int) := by omega
      have hkl : k < l.length := by omega
      have hx : l[k]? = some (el l k) := by unfold el; rw [List.getElem?_eq_getElem hkl]; rfl
      obtain ⟨ad, c3, e, _, d0, d1, d2, d3, d4, d5⟩ := Its_at (HL.out.grew HG.out) hx
      injection e with e1 _ e3
      subst e1 e3
      have hwk : wrap64 ((k : Int) + 1) = ((k + 1 : Nat) : Int) := wr1 hkl HN.out
      have HKW := Lib.hid hwk
      have hsz := Sz_at HZ.out k
      clear hx hwk hkl
      obtain ⟨x, hxe⟩ : ∃ x, el l k = x := ⟨_, rfl⟩
      rw [hxe] at d0 d1 d2 d3 d4 d5 hsz
      obtain ⟨us, s, kd, n, a, b⟩ := x
      simp only at d0 d1 d2 d3 d4 d5 hsz
      have g0 : Grew wr (wr.alloc (.cells #[.bool us, .string s, .int .i64 kd, .int .i64 n, .int .i64 a, .int .i64 b] 67)) := by unfold Grew; go_grown
      have G0 : Hid (Grew w (wr.alloc (.cells #[.bool us, .string s, .int .i64 kd, .int .i64 n, .int .i64 a, .int .i64 b] 67))) := Lib.hid (HG.out.trans g0)
      have A0 : Hid ((wr.alloc (.cells #[.bool us, .string s, .int .i64 kd, .int .i64 n, .int .i64 a, .int .i64 b] 67)).heap[wr.heap.size]? = some (.cells #[.bool us, .string s, .int .i64 kd, .int .i64 n, .int .i64 a, .int .i64 b] 67 (0, 0))) := Lib.hid (heap_alloc_new wr _)
      clear g0
      have HNM := Lib.hid (fun W => RefName.rright_any s hsz W)
      have HNN := Lib.hid (fun W => rnum_any n W)
      have HIR := Lib.hid (fun W => isref_any a b W)
      cases us with
      | false =>
        by_cases hz : (⟨false, s, kd, n, a, b⟩ : It) = zit
        · have HOKX : Hid (okI (el l k) = true) := Lib.hid (by rw [hxe, okI_ref]; simp [hz])
          unfold zit at hz
          injection hz with _ z1 z2 z3 z4 z5
          subst z1 z2 z3 z4 z5
          clear hxe HNM HNN HIR
          have HG9 := Lib.hid G0.out
          go_wp2
          go_roundg g
          case measure => omega
          case rel => exact ⟨k + 1, by omega, by first | (simp; done) | rw [HKW.out], Lib.hid (fun j hj => by
            by_cases hjk : j = k
            · subst hjk; exact HOKX.out
            · exact HJ.out j (by omega)), HG9⟩

        · have HOKX : Hid (okI (el l k) = false) := Lib.hid (by rw [hxe, okI_ref]; simp [hz])
          have hneq : ∀ W, (binOp .neq 67 (.agg #[.bool false, .string s, .int .i64 kd, .int .i64 n, .int .i64 a, .int .i64 b]) (.agg #[.bool false, .string ⟨#[]⟩, .int .i64 0, .int .i64 0, .int .i64 0, .int .i64 0])).run Try.prog W = .ok (.bool true) W := fun W => neqI ⟨false, s, kd, n, a, b⟩ zit hz W
          clear hz hxe HNM HNN HIR
          have HG9 := Lib.hid G0.out
          have HRES : Hid (okL l = false) := Lib.hid (HNO.out k HOKX.out)
          go_wp2
          go_returns
          refine ⟨?_, HG9.out⟩
          rw [HRES.out]
          try rfl

      | true =>
        by_cases h1 : kd = 1
        · subst h1
          cases hnn : num n with
          | false =>
            rw [hnn] at HNN
            cases hnm : Chars.right s.data.toList with
            | false =>
              have HOKX : Hid (okI (el l k) = false) := Lib.hid (by rw [hxe, okI_ref]; simp [hnn, hnm])
              rw [hnm] at HNM
              clear hxe hnm hnn
              go_wp2_with fail
              refine (HNN.out _).mono ?_
              rintro e w1 ⟨rfl, hg⟩
              have G1 := Lib.hid (G0.out.trans hg)
              have A1 := Lib.hid (keepB A0.out hg)
              clear hg
              obtain ⟨c0, c1, c2, c3, c4, c5⟩ := it_cells A1.out
              go_wp2_with fail
              refine (HNM.out _).mono ?_
              rintro e w9 ⟨rfl, hw⟩
              subst hw
              have HG9 := Lib.hid G1.out
              have HRES : Hid (okL l = false) := Lib.hid (HNO.out k HOKX.out)
              go_wp2
              go_returns
              refine ⟨?_, HG9.out⟩
              rw [HRES.out]
              try rfl
            | true =>
              have HOKX : Hid (okI (el l k) = false) := Lib.hid (by rw [hxe, okI_ref]; simp [hnn, hnm])
              rw [hnm] at HNM
              clear hxe hnm hnn
              go_wp2_with fail
              refine (HNN.out _).mono ?_
              rintro e w1 ⟨rfl, hg⟩
              have G1 := Lib.hid (G0.out.trans hg)
              have A1 := Lib.hid (keepB A0.out hg)
              clear hg
              obtain ⟨c0, c1, c2, c3, c4, c5⟩ := it_cells A1.out
              go_wp2_with fail
              refine (HNM.out _).mono ?_
              rintro e w9 ⟨rfl, hw⟩
              subst hw
              have HG9 := Lib.hid G1.out
              have HRES : Hid (okL l = false) := Lib.hid (HNO.out k HOKX.out)
              go_wp2
              go_returns
              refine ⟨?_, HG9.out⟩
              rw [HRES.out]
              try rfl
          | true =>
            rw [hnn] at HNN
            by_cases ha : a = 0
            · subst ha
              by_cases hb : b = 0
              · subst hb
                cases hnm : Chars.right s.data.toList with
                | false =>
                  have HOKX : Hid (okI (el l k) = false) := Lib.hid (by rw [hxe, okI_ref]; simp [hnn, hnm])
                  rw [hnm] at HNM
                  clear hxe hnm hnn
                  go_wp2_with fail
                  refine (HNN.out _).mono ?_
                  rintro e w1 ⟨rfl, hg⟩
                  have G1 := Lib.hid (G0.out.trans hg)
                  have A1 := Lib.hid (keepB A0.out hg)
                  clear hg
                  obtain ⟨c0, c1, c2, c3, c4, c5⟩ := it_cells A1.out
                  go_wp2_with fail
                  refine (HNM.out _).mono ?_
                  rintro e w9 ⟨rfl, hw⟩
                  subst hw
                  have HG9 := Lib.hid G1.out
                  have HRES : Hid (okL l = false) := Lib.hid (HNO.out k HOKX.out)
                  go_wp2
                  go_returns
                  refine ⟨?_, HG9.out⟩
                  rw [HRES.out]
                  try rfl
                | true =>
                  have HOKX : Hid (okI (el l k) = true) := Lib.hid (by rw [hxe, okI_ref]; simp [hnn, hnm])
                  rw [hnm] at HNM
                  clear hxe hnm hnn
                  go_wp2_with fail
                  refine (HNN.out _).mono ?_
                  rintro e w1 ⟨rfl, hg⟩
                  have G1 := Lib.hid (G0.out.trans hg)
                  have A1 := Lib.hid (keepB A0.out hg)
                  clear hg
                  obtain ⟨c0, c1, c2, c3, c4, c5⟩ := it_cells A1.out
                  go_wp2_with fail
                  refine (HNM.out _).mono ?_
                  rintro e w9 ⟨rfl, hw⟩
                  subst hw
                  have HG9 := Lib.hid G1.out
                  go_wp2
                  go_roundg g
                  case measure => omega
                  case rel => exact ⟨k + 1, by omega, by first | (simp; done) | rw [HKW.out], Lib.hid (fun j hj => by
                    by_cases hjk : j = k
                    · subst hjk; exact HOKX.out
                    · exact HJ.out j (by omega)), HG9⟩
              · have hb' : (b == 0) = false := by simpa using hb
                cases hnm : Chars.right s.data.toList with
                | false =>
                  have HOKX : Hid (okI (el l k) = false) := Lib.hid (by rw [hxe, okI_ref]; simp [hnn, hb, hnm])
                  rw [hnm] at HNM
                  clear hxe hnm hnn
                  go_wp2_with fail
                  refine (HNN.out _).mono ?_
                  rintro e w1 ⟨rfl, hg⟩
                  have G1 := Lib.hid (G0.out.trans hg)
                  have A1 := Lib.hid (keepB A0.out hg)
                  clear hg
                  obtain ⟨c0, c1, c2, c3, c4, c5⟩ := it_cells A1.out
                  go_wp2_with fail
                  refine (HNM.out _).mono ?_
                  rintro e w9 ⟨rfl, hw⟩
                  subst hw
                  have HG9 := Lib.hid G1.out
                  have HRES : Hid (okL l = false) := Lib.hid (HNO.out k HOKX.out)
                  go_wp2
                  go_returns
                  refine ⟨?_, HG9.out⟩
                  rw [HRES.out]
                  try rfl
                | true =>
                  have HOKX : Hid (okI (el l k) = false) := Lib.hid (by rw [hxe, okI_ref]; simp [hnn, hb, hnm])
                  rw [hnm] at HNM
                  clear hxe hnm hnn
                  go_wp2_with fail
                  refine (HNN.out _).mono ?_
                  rintro e w1 ⟨rfl, hg⟩
                  have G1 := Lib.hid (G0.out.trans hg)
                  have A1 := Lib.hid (keepB A0.out hg)
                  clear hg
                  obtain ⟨c0, c1, c2, c3, c4, c5⟩ := it_cells A1.out
                  go_wp2_with fail
                  refine (HNM.out _).mono ?_
                  rintro e w9 ⟨rfl, hw⟩
                  subst hw
                  have HG9 := Lib.hid G1.out
                  have HRES : Hid (okL l = false) := Lib.hid (HNO.out k HOKX.out)
                  go_wp2
                  go_returns
                  refine ⟨?_, HG9.out⟩
                  rw [HRES.out]
                  try rfl
            · have ha' : (a == 0) = false := by simpa using ha
              cases hnm : Chars.right s.data.toList with
              | false =>
                have HOKX : Hid (okI (el l k) = false) := Lib.hid (by rw [hxe, okI_ref]; simp [hnn, ha, hnm])
                rw [hnm] at HNM
                clear hxe hnm hnn
                go_wp2_with fail
                refine (HNN.out _).mono ?_
                rintro e w1 ⟨rfl, hg⟩
                have G1 := Lib.hid (G0.out.trans hg)
                have A1 := Lib.hid (keepB A0.out hg)
                clear hg
                obtain ⟨c0, c1, c2, c3, c4, c5⟩ := it_cells A1.out
                go_wp2_with fail
                refine (HNM.out _).mono ?_
                rintro e w9 ⟨rfl, hw⟩
                subst hw
                have HG9 := Lib.hid G1.out
                have HRES : Hid (okL l = false) := Lib.hid (HNO.out k HOKX.out)
                go_wp2
                go_returns
                refine ⟨?_, HG9.out⟩
                rw [HRES.out]
                try rfl
              | true =>
                have HOKX : Hid (okI (el l k) = false) := Lib.hid (by rw [hxe, okI_ref]; simp [hnn, ha, hnm])
                rw [hnm] at HNM
                clear hxe hnm hnn
                go_wp2_with fail
                refine (HNN.out _).mono ?_
                rintro e w1 ⟨rfl, hg⟩
                have G1 := Lib.hid (G0.out.trans hg)
                have A1 := Lib.hid (keepB A0.out hg)
                clear hg
                obtain ⟨c0, c1, c2, c3, c4, c5⟩ := it_cells A1.out
                go_wp2_with fail
                refine (HNM.out _).mono ?_
                rintro e w9 ⟨rfl, hw⟩
                subst hw
                have HG9 := Lib.hid G1.out
                have HRES : Hid (okL l = false) := Lib.hid (HNO.out k HOKX.out)
                go_wp2
                go_returns
                refine ⟨?_, HG9.out⟩
                rw [HRES.out]
                try rfl
        by_cases h3 : kd = 3
        · subst h3
          cases hnn : num n with
          | false =>
            rw [hnn] at HNN
            cases hnm : Chars.right s.data.toList with
            | false =>
              have HOKX : Hid (okI (el l k) = false) := Lib.hid (by rw [hxe, okI_ref]; simp [hnn, hnm])
              rw [hnm] at HNM
              clear hxe hnm hnn
              go_wp2_with fail
              refine (HNN.out _).mono ?_
              rintro e w1 ⟨rfl, hg⟩
              have G1 := Lib.hid (G0.out.trans hg)
              have A1 := Lib.hid (keepB A0.out hg)
              clear hg
              obtain ⟨c0, c1, c2, c3, c4, c5⟩ := it_cells A1.out
              go_wp2_with fail
              refine (HNM.out _).mono ?_
              rintro e w9 ⟨rfl, hw⟩
              subst hw
              have HG9 := Lib.hid G1.out
              have HRES : Hid (okL l = false) := Lib.hid (HNO.out k HOKX.out)
              go_wp2
              go_returns
              refine ⟨?_, HG9.out⟩
              rw [HRES.out]
              try rfl
            | true =>
              have HOKX : Hid (okI (el l k) = false) := Lib.hid (by rw [hxe, okI_ref]; simp [hnn, hnm])
              rw [hnm] at HNM
              clear hxe hnm hnn
              go_wp2_with fail
              refine (HNN.out _).mono ?_
              rintro e w1 ⟨rfl, hg⟩
              have G1 := Lib.hid (G0.out.trans hg)
              have A1 := Lib.hid (keepB A0.out hg)
              clear hg
              obtain ⟨c0, c1, c2, c3, c4, c5⟩ := it_cells A1.out
              go_wp2_with fail
              refine (HNM.out _).mono ?_
              rintro e w9 ⟨rfl, hw⟩
              subst hw
              have HG9 := Lib.hid G1.out
              have HRES : Hid (okL l = false) := Lib.hid (HNO.out k HOKX.out)
              go_wp2
              go_returns
              refine ⟨?_, HG9.out⟩
              rw [HRES.out]
              try rfl
          | true =>
            rw [hnn] at HNN
            by_cases ha : a = 0
            · subst ha
              by_cases hb : b = 0
              · subst hb
                cases hnm : Chars.right s.data.toList with
                | false =>
                  have HOKX : Hid (okI (el l k) = false) := Lib.hid (by rw [hxe, okI_ref]; simp [hnn, hnm])
                  rw [hnm] at HNM
                  clear hxe hnm hnn
                  go_wp2_with fail
                  refine (HNN.out _).mono ?_
                  rintro e w1 ⟨rfl, hg⟩
                  have G1 := Lib.hid (G0.out.trans hg)
                  have A1 := Lib.hid (keepB A0.out hg)
                  clear hg
                  obtain ⟨c0, c1, c2, c3, c4, c5⟩ := it_cells A1.out
                  go_wp2_with fail
                  refine (HNM.out _).mono ?_
                  rintro e w9 ⟨rfl, hw⟩
                  subst hw
                  have HG9 := Lib.hid G1.out
                  have HRES : Hid (okL l = false) := Lib.hid (HNO.out k HOKX.out)
                  go_wp2
                  go_returns
                  refine ⟨?_, HG9.out⟩
                  rw [HRES.out]
                  try rfl
                | true =>
                  have HOKX : Hid (okI (el l k) = true) := Lib.hid (by rw [hxe, okI_ref]; simp [hnn, hnm])
                  rw [hnm] at HNM
                  clear hxe hnm hnn
                  go_wp2_with fail
                  refine (HNN.out _).mono ?_
                  rintro e w1 ⟨rfl, hg⟩
                  have G1 := Lib.hid (G0.out.trans hg)
                  have A1 := Lib.hid (keepB A0.out hg)
                  clear hg
                  obtain ⟨c0, c1, c2, c3, c4, c5⟩ := it_cells A1.out
                  go_wp2_with fail
                  refine (HNM.out _).mono ?_
                  rintro e w9 ⟨rfl, hw⟩
                  subst hw
                  have HG9 := Lib.hid G1.out
                  go_wp2
                  go_roundg g
                  case measure => omega
                  case rel => exact ⟨k + 1, by omega, by first | (simp; done) | rw [HKW.out], Lib.hid (fun j hj => by
                    by_cases hjk : j = k
                    · subst hjk; exact HOKX.out
                    · exact HJ.out j (by omega)), HG9⟩
              · have hb' : (b == 0) = false := by simpa using hb
                cases hnm : Chars.right s.data.toList with
                | false =>
                  have HOKX : Hid (okI (el l k) = false) := Lib.hid (by rw [hxe, okI_ref]; simp [hnn, hb, hnm])
                  rw [hnm] at HNM
                  clear hxe hnm hnn
                  go_wp2_with fail
                  refine (HNN.out _).mono ?_
                  rintro e w1 ⟨rfl, hg⟩
                  have G1 := Lib.hid (G0.out.trans hg)
                  have A1 := Lib.hid (keepB A0.out hg)
                  clear hg
                  obtain ⟨c0, c1, c2, c3, c4, c5⟩ := it_cells A1.out
                  go_wp2_with fail
                  refine (HNM.out _).mono ?_
                  rintro e w9 ⟨rfl, hw⟩
                  subst hw
                  have HG9 := Lib.hid G1.out
                  have HRES : Hid (okL l = false) := Lib.hid (HNO.out k HOKX.out)
                  go_wp2
                  go_returns
                  refine ⟨?_, HG9.out⟩
                  rw [HRES.out]
                  try rfl
                | true =>
                  have HOKX : Hid (okI (el l k) = false) := Lib.hid (by rw [hxe, okI_ref]; simp [hnn, hb, hnm])
                  rw [hnm] at HNM
                  clear hxe hnm hnn
                  go_wp2_with fail
                  refine (HNN.out _).mono ?_
                  rintro e w1 ⟨rfl, hg⟩
                  have G1 := Lib.hid (G0.out.trans hg)
                  have A1 := Lib.hid (keepB A0.out hg)
                  clear hg
                  obtain ⟨c0, c1, c2, c3, c4, c5⟩ := it_cells A1.out
                  go_wp2_with fail
                  refine (HNM.out _).mono ?_
                  rintro e w9 ⟨rfl, hw⟩
                  subst hw
                  have HG9 := Lib.hid G1.out
                  have HRES : Hid (okL l = false) := Lib.hid (HNO.out k HOKX.out)
                  go_wp2
                  go_returns
                  refine ⟨?_, HG9.out⟩
                  rw [HRES.out]
                  try rfl
            · have ha' : (a == 0) = false := by simpa using ha
              cases hnm : Chars.right s.data.toList with
              | false =>
                have HOKX : Hid (okI (el l k) = false) := Lib.hid (by rw [hxe, okI_ref]; simp [hnn, ha, hnm])
                rw [hnm] at HNM
                clear hxe hnm hnn
                go_wp2_with fail
                refine (HNN.out _).mono ?_
                rintro e w1 ⟨rfl, hg⟩
                have G1 := Lib.hid (G0.out.trans hg)
                have A1 := Lib.hid (keepB A0.out hg)
                clear hg
                obtain ⟨c0, c1, c2, c3, c4, c5⟩ := it_cells A1.out
                go_wp2_with fail
                refine (HNM.out _).mono ?_
                rintro e w9 ⟨rfl, hw⟩
                subst hw
                have HG9 := Lib.hid G1.out
                have HRES : Hid (okL l = false) := Lib.hid (HNO.out k HOKX.out)
                go_wp2
                go_returns
                refine ⟨?_, HG9.out⟩
                rw [HRES.out]
                try rfl
              | true =>
                have HOKX : Hid (okI (el l k) = false) := Lib.hid (by rw [hxe, okI_ref]; simp [hnn, ha, hnm])
                rw [hnm] at HNM
                clear hxe hnm hnn
                go_wp2_with fail
                refine (HNN.out _).mono ?_
                rintro e w1 ⟨rfl, hg⟩
                have G1 := Lib.hid (G0.out.trans hg)
                have A1 := Lib.hid (keepB A0.out hg)
                clear hg
                obtain ⟨c0, c1, c2, c3, c4, c5⟩ := it_cells A1.out
                go_wp2_with fail
                refine (HNM.out _).mono ?_
                rintro e w9 ⟨rfl, hw⟩
                subst hw
                have HG9 := Lib.hid G1.out
                have HRES : Hid (okL l = false) := Lib.hid (HNO.out k HOKX.out)
                go_wp2
                go_returns
                refine ⟨?_, HG9.out⟩
                rw [HRES.out]
                try rfl
        by_cases h2 : kd = 2
        · subst h2
          by_cases h0 : n = 0
          · subst h0
            cases hra : (num a && num b) with
            | false =>
              rw [hra] at HIR
              cases hnm : Chars.right s.data.toList with
              | false =>
                have HOKX : Hid (okI (el l k) = false) := Lib.hid (by rw [hxe, okI_ref]; simp [hra, hnm])
                rw [hnm] at HNM
                clear hxe hnm hra
                go_wp2_with fail
                refine (HIR.out _).mono ?_
                rintro e w1 ⟨rfl, hg⟩
                have G1 := Lib.hid (G0.out.trans hg)
                have A1 := Lib.hid (keepB A0.out hg)
                clear hg
                obtain ⟨c0, c1, c2, c3, c4, c5⟩ := it_cells A1.out
                go_wp2_with fail
                refine (HNM.out _).mono ?_
                rintro e w9 ⟨rfl, hw⟩
                subst hw
                have HG9 := Lib.hid G1.out
                have HRES : Hid (okL l = false) := Lib.hid (HNO.out k HOKX.out)
                go_wp2
                go_returns
                refine ⟨?_, HG9.out⟩
                rw [HRES.out]
                try rfl
              | true =>
                have HOKX : Hid (okI (el l k) = false) := Lib.hid (by rw [hxe, okI_ref]; simp [hra, hnm])
                rw [hnm] at HNM
                clear hxe hnm hra
                go_wp2_with fail
                refine (HIR.out _).mono ?_
                rintro e w1 ⟨rfl, hg⟩
                have G1 := Lib.hid (G0.out.trans hg)
                have A1 := Lib.hid (keepB A0.out hg)
                clear hg
                obtain ⟨c0, c1, c2, c3, c4, c5⟩ := it_cells A1.out
                go_wp2_with fail
                refine (HNM.out _).mono ?_
                rintro e w9 ⟨rfl, hw⟩
                subst hw
                have HG9 := Lib.hid G1.out
                have HRES : Hid (okL l = false) := Lib.hid (HNO.out k HOKX.out)
                go_wp2
                go_returns
                refine ⟨?_, HG9.out⟩
                rw [HRES.out]
                try rfl
            | true =>
              rw [hra] at HIR
              cases hnm : Chars.right s.data.toList with
              | false =>
                have HOKX : Hid (okI (el l k) = false) := Lib.hid (by rw [hxe, okI_ref]; simp [hra, hnm])
                rw [hnm] at HNM
                clear hxe hnm hra
                go_wp2_with fail
                refine (HIR.out _).mono ?_
                rintro e w1 ⟨rfl, hg⟩
                have G1 := Lib.hid (G0.out.trans hg)
                have A1 := Lib.hid (keepB A0.out hg)
                clear hg
                obtain ⟨c0, c1, c2, c3, c4, c5⟩ := it_cells A1.out
                go_wp2_with fail
                refine (HNM.out _).mono ?_
                rintro e w9 ⟨rfl, hw⟩
                subst hw
                have HG9 := Lib.hid G1.out
                have HRES : Hid (okL l = false) := Lib.hid (HNO.out k HOKX.out)
                go_wp2
                go_returns
                refine ⟨?_, HG9.out⟩
                rw [HRES.out]
                try rfl
              | true =>
                have HOKX : Hid (okI (el l k) = true) := Lib.hid (by rw [hxe, okI_ref]; simp [hra, hnm])
                rw [hnm] at HNM
                clear hxe hnm hra
                go_wp2_with fail
                refine (HIR.out _).mono ?_
                rintro e w1 ⟨rfl, hg⟩
                have G1 := Lib.hid (G0.out.trans hg)
                have A1 := Lib.hid (keepB A0.out hg)
                clear hg
                obtain ⟨c0, c1, c2, c3, c4, c5⟩ := it_cells A1.out
                go_wp2_with fail
                refine (HNM.out _).mono ?_
                rintro e w9 ⟨rfl, hw⟩
                subst hw
                have HG9 := Lib.hid G1.out
                go_wp2
                go_roundg g
                case measure => omega
                case rel => exact ⟨k + 1, by omega, by first | (simp; done) | rw [HKW.out], Lib.hid (fun j hj => by
                  by_cases hjk : j = k
                  · subst hjk; exact HOKX.out
                  · exact HJ.out j (by omega)), HG9⟩
          · have h0' : (n == 0) = false := by simpa using h0
            cases hnm : Chars.right s.data.toList with
            | false =>
              have HOKX : Hid (okI (el l k) = false) := Lib.hid (by rw [hxe, okI_ref]; simp [h0, hnm])
              rw [hnm] at HNM
              clear hxe hnm
              go_wp2_with fail
              refine (HNM.out _).mono ?_
              rintro e w9 ⟨rfl, hw⟩
              subst hw
              have HG9 := Lib.hid G0.out
              have HRES : Hid (okL l = false) := Lib.hid (HNO.out k HOKX.out)
              go_wp2
              go_returns
              refine ⟨?_, HG9.out⟩
              rw [HRES.out]
              try rfl
            | true =>
              have HOKX : Hid (okI (el l k) = false) := Lib.hid (by rw [hxe, okI_ref]; simp [h0, hnm])
              rw [hnm] at HNM
              clear hxe hnm
              go_wp2_with fail
              refine (HNM.out _).mono ?_
              rintro e w9 ⟨rfl, hw⟩
              subst hw
              have HG9 := Lib.hid G0.out
              have HRES : Hid (okL l = false) := Lib.hid (HNO.out k HOKX.out)
              go_wp2
              go_returns
              refine ⟨?_, HG9.out⟩
              rw [HRES.out]
              try rfl
        have h1' : (kd == 1) = false := by simpa using h1
        have h2' : (kd == 2) = false := by simpa using h2
        have h3' : (kd == 3) = false := by simpa using h3
        cases hnm : Chars.right s.data.toList with
        | false =>
          have HOKX : Hid (okI (el l k) = false) := Lib.hid (by rw [hxe, okI_ref]; simp [h1, h2, h3, hnm])
          rw [hnm] at HNM
          clear hxe hnm
          go_wp2_with fail
          refine (HNM.out _).mono ?_
          rintro e w9 ⟨rfl, hw⟩
          subst hw
          have HG9 := Lib.hid G0.out
          have HRES : Hid (okL l = false) := Lib.hid (HNO.out k HOKX.out)
          go_wp2
          go_returns
          refine ⟨?_, HG9.out⟩
          rw [HRES.out]
          try rfl
        | true =>
          have HOKX : Hid (okI (el l k) = false) := Lib.hid (by rw [hxe, okI_ref]; simp [h1, h2, h3, hnm])
          rw [hnm] at HNM
          clear hxe hnm
          go_wp2_with fail
          refine (HNM.out _).mono ?_
          rintro e w9 ⟨rfl, hw⟩
          subst hw
          have HG9 := Lib.hid G0.out
          have HRES : Hid (okL l = false) := Lib.hid (HNO.out k HOKX.out)
          go_wp2
          go_returns
          refine ⟨?_, HG9.out⟩
          rw [HRES.out]
          try rfl
end Go.Proofs.Ytaolallfmjjoeaa.DB
