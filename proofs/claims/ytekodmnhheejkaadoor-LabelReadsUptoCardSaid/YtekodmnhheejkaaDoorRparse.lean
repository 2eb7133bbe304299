/-
  The label of a text, as the document reads it, word by word.
  Conditions: a text's size.
-/
import Derived.Test.YtekodmnhheejkaaDoorWords
import Derived.Laws.DeepStrings4
namespace Go.Proofs.YtekodmnhheejkaaDoor.Rparse
open Go Go.RowKit Go.Proofs.YtekodmnhheejkaaDoor Go.Proofs.YtekodmnhheejkaaDoor.Facts Go.Proofs.YtekodmnhheejkaaDoor.Bytes Go.Proofs.YtekodmnhheejkaaDoor.Plain Go.Proofs.YtekodmnhheejkaaDoor.Text Go.Proofs.YtekodmnhheejkaaDoor.Refs Go.Proofs.YtekodmnhheejkaaDoor.TextPure Go.Proofs.YtekodmnhheejkaaDoor.BackLaw Go.Proofs.YtekodmnhheejkaaDoor.Refs4 Go.Proofs.YtekodmnhheejkaaDoor.Words
open _root_.Go.Proofs.YtekodmnhheejkaaDoor.Refs2 (lc)
open _root_.Go.Proofs.YtekodmnhheejkaaDoor.Nums (wpList_app_want)

def sv (l : List ByteArray) : List Value := l.map Value.string
def toL (l : List ByteArray) : List (List UInt8) := l.map (·.data.toList)
theorem info9 : (Tryd.prog.info? 9).map (fun i => (i.zero, i.size, i.bytes)) = some (some (.string ⟨#[]⟩), 1, 16) := by kernel_rfl
theorem own9_grew {W W' : World} {base : Nat} {v : Value} {n : Nat} {xs : List Value} (h : W.ownsRow base 9 1 v n xs) (hg : Grew W W') : W'.ownsRow base 9 1 v n xs := by
  refine ⟨h.1, h.2.imp id fun ⟨g, cap, cur, h1, h2, h3, h4⟩ => ⟨g, cap, cur, h1, h2, ?_, h4⟩⟩
  exact keepB h3 hg
theorem app_word (W : World) (base : Nat) (v : Value) (l : List ByteArray) (x : ByteArray) (hown : W.ownsRow base 9 1 v l.length (sv l)) (hl : (l.length + 1) * 16 ≤ 140737488355328) (hb : base ≤ W.heap.size) :
    ∃ v' w', (Builtin.append_ #[57, 57] 57 #[v, .slice (some ⟨W.heap.size, 0, none⟩) 1 1]).run Tryd.prog (W.alloc (.cells #[.string x] 9)) = .ok v' w' ∧ w'.ownsRow base 9 1 v' (l ++ [x]).length (sv (l ++ [x])) ∧ Below base W w' := by
  have ha : Below base W (W.alloc (.cells #[.string x] 9)) := (Below.refl _ _).alloc hb _
  obtain ⟨i0, hi, hx⟩ := Option.map_eq_some_iff.1 info9
  simp only [Prod.mk.injEq] at hx
  obtain ⟨hz0, hz1, hz2⟩ := hx
  have hown2 := hown.alloc (.cells #[.string x] 9)
  obtain ⟨v', w', hr, h5, h6, _⟩ := run_append_own (P := Tryd.prog) (W.alloc (.cells #[.string x] 9)) base 57 57 9 i0 (.string ⟨#[]⟩) 1 16 Tryd.underlying57 hi hz0 hz1 hz2 rfl Nat.one_pos v l.length (sv l) hown2 ⟨W.heap.size, 0, none⟩ 1 1 [.string x] rfl (fun j u hu => by
    have hj : j = 0 := by
      have := (List.getElem?_eq_some_iff.1 hu).1
      simpa using this
    subst hj
    simp only [List.getElem?_cons_zero, Option.some.injEq] at hu
    subst hu
    exact World.cell?_alloc_mark _ _ _ _ _) (fun u hu => by simp at hu; subst hu; rfl) (by unfold maxLen; omega) (by omega) (Nat.le_trans hb (by simp))
  refine ⟨v', w', hr, ?_, ha.trans (below_of_grown _ h6 (Nat.le_trans hb (by simp)) fun k hk => ?_)⟩
  · rw [List.length_append]
    unfold sv at *
    rw [List.map_append]
    exact h5
  · rcases hown2.2 with ⟨rfl, _⟩ | ⟨g, cap, cur, rfl, hg, _⟩
    · simp [Value.ownBlock] at hk
    · simp [Value.ownBlock] at hk
      omega

theorem own9_cells {w : World} {base : Nat} {v : Value} {x : ByteArray} {l : List ByteArray} (h : w.ownsRow base 9 1 v (x :: l).length (sv (x :: l))) :
    ∃ ad cap, v = .slice (some ad) (l.length + 1) cap ∧ l.length + 1 ≤ cap ∧ ∀ j y, (x :: l)[j]? = some y → w.cell? (ad.add j) = some (.string y) := by
  rcases h.2 with ⟨_, h0⟩ | ⟨g, cap, cur, rfl, hb, hg, hnc, hcm, _, _⟩
  · simp at h0
  · refine ⟨_, cap, rfl, hnc, fun j y hy => ?_⟩
    exact h.cells (g := g) rfl j _ (by simp only [sv, List.getElem?_map, hy, Option.map_some])
theorem row_store {W : World} {B : Nat} {x y : Value} (h : W.heap[B]? = some (.cells #[x, y] 24 (0, 0))) (v0 v1 : Value) : ((W.setCell ⟨B, 0, none⟩ v0).setCell ⟨B, 1, none⟩ v1).heap[B]? = some (.cells #[v0, v1] 24 (0, 0)) := by
  have R0 : (W.setCell ⟨B, 0, none⟩ v0).heap[B]? = some (.cells #[v0, y] 24 (0, 0)) := by
    rw [heap_setCell_same _ _ _ _ _ _ h]
    rfl
  rw [heap_setCell_same _ _ _ _ _ _ R0]
  rfl
theorem size_len (s : ByteArray) : s.data.toList.length = s.size := by rw [Array.length_toList]; rfl
theorem byte_at (s : ByteArray) (k : Nat) (hk : k < s.size) : s[k] = s.data.toList[k]'(by rw [size_len]; exact hk) := by
  show s.data[k]'hk = _
  rw [Array.getElem_toList]
theorem cut_at (l : List UInt8) (k fr : Nat) (hk : k < l.length) (hf : fr ≤ k) : (l.take (k + 1)).drop fr = (l.take k).drop fr ++ [l[k]] := by
  rw [List.take_add_one, List.getElem?_eq_getElem hk, Option.toList_some, List.drop_append_of_le_length (by rw [List.length_take]; omega)]

set_option maxRecDepth 100000 in
set_option maxHeartbeats 4000000 in
theorem rparse_any (s : ByteArray) (hs : s.size ≤ 1048576) (w : World) : Calls Tryd.prog 26 #[.string s] w fun e W' => e = .returned (.tuple #[.agg #[.int .i64 (paV s), .int .u64 ((paC s).toNat : Int)], .int .i64 (paE s)]) ∧ Grew w W' := by
  have hsl := size_len s
  have g0 : Grew w (w.alloc (Obj.cells #[Value.int IntKind.i64 0, Value.int IntKind.u64 0] 24)) := by unfold Grew; go_grown
  have R0 : Hid ((w.alloc (Obj.cells #[Value.int IntKind.i64 0, Value.int IntKind.u64 0] 24)).heap[w.heap.size]? = some (lc 0 0#64)) := Lib.hid (heap_alloc_new w _)
  have G0 := Lib.hid g0
  have HPW := Lib.hid (fun w0 ws h => @pa_words s w0 ws h)
  have HSL := Lib.hid hsl
  generalize paV s = pv at *
  generalize paC s = pc at *
  generalize paE s = pe at *
  clear g0 hsl
  go_enter Tryd.func26, Tryd.ntmps26
  go_wp2
  go_loopg [4, 5, 6] s.size (fun g s4 s5 s6 wx => ∃ (k fr : Nat) (v4 : Value) (D : List ByteArray), k + g = s.size ∧ v4 = s4 ∧ s5 = .int .i64 fr ∧ s6 = .int .i64 k ∧ fr ≤ k ∧
    Hid (wx.ownsRow (w.heap.size + 1) 9 1 s4 D.length (sv D)) ∧ Hid (toL D = (wfold (s.data.toList.take k)).1) ∧ Hid ((wfold (s.data.toList.take k)).2 = (s.data.toList.take k).drop fr) ∧ Hid (Grew (w.alloc (Obj.cells #[Value.int IntKind.i64 0, Value.int IntKind.u64 0] 24)) wx))
  case atStart => exact ⟨0, 0, _, [], by omega, rfl, rfl, rfl, by omega, Lib.hid (World.ownsRow_nil _ _ _ _), Lib.hid rfl, Lib.hid rfl, Lib.hid (Grew.refl _)⟩
  case round =>
    obtain ⟨k, fr, v4, D, hkg, rfl, rfl, rfl, hfk, HO, HD, HC, HG⟩ := hrel
    have hDl : D.length ≤ k := by
      have h1 := congrArg List.length HD.out
      have h2 := words_len (s.data.toList.take k)
      rw [toL, List.length_map] at h1
      have h3 : (s.data.toList.take k).length ≤ k := List.length_take_le _ _
      omega
    have hsz := HG.out.size
    rw [World.size_alloc] at hsz
    cases gk with
    | zero =>
      have hkz : ¬ ((k : Int) < (s.size : Int)) := by omega
      have hk : k = s.size := by omega
      have htk : s.data.toList.take k = s.data.toList := List.take_of_length_le (by rw [HSL.out]; omega)
      rw [htk] at HD HC
      have hrun : ∀ W : World, (Instr.slice 9 (.string s) (some (.int .i64 (fr : Int))) none none).run Tryd.prog W = .ok (.string (s.extract fr s.size)) W := fun W => by
        rw [run_slice_string_from_if (t := 9) (s := s) (k := .i64) (i := (fr : Int)) (h := Tryd.underlying9), if_pos ⟨by omega, by omega⟩]
        rw [show ((fr : Int)).toNat = fr by omega]
      have HX : Hid ((s.extract fr s.size).data.toList = (wfold s.data.toList).2) := Lib.hid (by
        rw [extract_toList, HC.out, ← hk, htk])
      obtain ⟨v', w3, hr, hown, hbl⟩ := app_word wr (w.heap.size + 1) v4 D (s.extract fr s.size) HO.out (by omega) (by omega)
      have HAPP := Lib.hid hr
      have HO3 := Lib.hid hown
      have HW : Hid (Words.words s.data.toList = toL (D ++ [s.extract fr s.size])) := Lib.hid (by
        unfold Words.words
        rw [← HX.out, ← HD.out]
        simp [toL])
      have HG3 : Hid (Grew (w.alloc (Obj.cells #[Value.int IntKind.i64 0, Value.int IntKind.u64 0] 24)) w3) := Lib.hid (by
        have h1 := HG.out
        unfold Grew at h1 ⊢
        rw [World.size_alloc] at h1 ⊢
        exact h1.trans hbl)
      generalize s.extract fr s.size = x at *
      have hEl : (D ++ [x]).length ≤ 1048577 := by rw [List.length_append]; simp; omega
      obtain ⟨x0, X, hE⟩ : ∃ x0 X, D ++ [x] = x0 :: X := by
        cases D with
        | nil => exact ⟨x, [], rfl⟩
        | cons d D => exact ⟨d, D ++ [x], rfl⟩
      rw [hE] at HO3 HW hEl
      have HPA := Lib.hid (HPW.out x0.data.toList (toL X) HW.out)
      clear hr hown hbl hk htk hE HX HC HD HG HPW HW
      obtain ⟨ad, cap, hve, hca, hcell⟩ := own9_cells HO3.out
      have HCELL := Lib.hid hcell
      clear hcell
      subst hve
      have R3 := Lib.hid (keepB R0.out HG3.out)
      have G3 := Lib.hid (G0.out.trans HG3.out)
      have c0 : w3.cell? ad = some (.string x0) := by simpa [Addr.add] using HCELL.out 0 x0 rfl
      have HNW := Lib.hid (fun W => number2_any x0 W)
      go_wp2_with (at_builtin; refine wpList_app_want (.tmp 30) (.tmp 34) 57 (by rfl) (by rfl) _ _ rfl rfl _ w3 (by exact HAPP.out) ?_)
      refine (HNW.out _).mono ?_
      rintro e w4 ⟨rfl, hg⟩
      have R4 := Lib.hid (keepB R3.out hg)
      have G4 := Lib.hid (G3.out.trans hg)
      have C4 : Hid (∀ j y, (x0 :: X)[j]? = some y → w4.cell? (ad.add j) = some (.string y)) := Lib.hid fun j y h => cellB hg (HCELL.out j y h)
      generalize nw x0.data.toList = n0 at *
      generalize hXL : toL X = XL at *
      have HXL := Lib.hid hXL
      have A5 : Hid ((w4.alloc (Obj.cells #[.int .i64 n0, .int .u64 0] 24)).heap[w4.heap.size]? = some (lc n0 0#64)) := Lib.hid (heap_alloc_new w4 _)
      have G5 : Hid (Grew w4 (w4.alloc (Obj.cells #[.int .i64 n0, .int .u64 0] 24))) := Lib.hid (by unfold Grew; go_grown)
      clear hg c0 hXL HCELL R3 G3 HO HO3 HAPP HNW HG3
      go_wp2
      go_loopg [8, 9] X.length (fun g s8 s9 wx => ∃ (k : Nat) (last : Int) (c : BitVec 64), k + g = X.length ∧ s8 = .int .i64 last ∧ s9 = .int .i64 ((k : Int) + 1) ∧ -1 ≤ last ∧
        Hid (goW XL (-1) 0#64 = goW (XL.drop k) last c) ∧ Hid (∀ i, c.getLsbD i = true → (i : Int) ≤ last) ∧ Hid (wx.heap[w4.heap.size]? = some (lc n0 c)) ∧ Hid (Grew w4 wx))
      case atStart => exact ⟨0, -1, 0#64, by omega, rfl, by first | rfl | simp, by omega, Lib.hid rfl, Lib.hid (fun i h => by simp at h), A5, G5⟩
      case round =>
        obtain ⟨k, last, c, hkg, rfl, rfl, hl1, HGO, HB, HA, HG⟩ := hrel
        obtain ⟨a0, a1, a2, a3⟩ := lab_cells HA.out
        have RX := Lib.hid (keepB R4.out HG.out)
        cases gk with
        | zero =>
          have hkz : ¬ ((k : Int) < (X.length : Int)) := by omega
          have HC : Hid (goW XL (-1) 0#64 = some c) := Lib.hid (by
            rw [HGO.out, List.drop_of_length_le (by rw [← HXL.out]; simp [toL]; omega)]
            rfl)
          have HRR := Lib.hid (fun W => rright_any n0 c W)
          cases hm : may n0 with
          | true =>
            rw [hm] at HRR
            have HP := Lib.hid (HPA.out.1 c hm HC.out)
            clear hm
            go_wp2_with fail
            refine (HRR.out _).mono ?_
            rintro e w5 ⟨rfl, hg⟩
            have HA5 := Lib.hid (keepB HA.out hg)
            have RX5 := Lib.hid (keepB RX.out hg)
            have HG5 := Lib.hid ((G4.out.trans HG.out).trans hg)
            clear hg a0 a1 a2 a3
            obtain ⟨a0, a1, _, _⟩ := lab_cells HA5.out
            obtain ⟨r0, r1, r2, r3⟩ := lab_cells RX5.out
            obtain ⟨s0, s1, s2⟩ := lab_store RX5.out
            have S0 := Lib.hid s0
            have S1 := Lib.hid s1
            clear s0 s1 s2
            go_wp2
            have s0 := S0.out
            have s1 := S1.out
            obtain ⟨p1, p2, p3⟩ := HP.out
            subst p1 p2 p3
            refine bodyPost_ret (by simp [results, Tryd.results26, go_sem, s0, s1]; try rfl) rfl ⟨rfl, ?_⟩
            exact ((show Below w.heap.size w w5 from HG5.out).setCell (p := ⟨w.heap.size, 0, none⟩) (Nat.le_refl _) _).setCell (p := ⟨w.heap.size, 1, none⟩) (Nat.le_refl _) _
          | false =>
            rw [hm] at HRR
            have HP := Lib.hid (HPA.out.2.1 hm)
            clear hm
            go_wp2_with fail
            refine (HRR.out _).mono ?_
            rintro e w5 ⟨rfl, hg⟩
            have RX5 := Lib.hid (keepB RX.out hg)
            have HG5 := Lib.hid ((G4.out.trans HG.out).trans hg)
            clear hg a0 a1 a2 a3
            obtain ⟨r0, r1, r2, r3⟩ := lab_cells RX5.out
            obtain ⟨s0, s1, s2⟩ := lab_store RX5.out
            have S0 := Lib.hid s0
            have S1 := Lib.hid s1
            clear s0 s1 s2
            go_wp2
            have s0 := S0.out
            have s1 := S1.out
            obtain ⟨p1, p2, p3⟩ := HP.out
            subst p1 p2 p3
            refine bodyPost_ret (by simp [results, Tryd.results26, go_sem, s0, s1]; try rfl) rfl ⟨rfl, ?_⟩
            exact ((show Below w.heap.size w w5 from HG5.out).setCell (p := ⟨w.heap.size, 0, none⟩) (Nat.le_refl _) _).setCell (p := ⟨w.heap.size, 1, none⟩) (Nat.le_refl _) _
        | succ g =>
          have hkz : (k : Int) < (X.length : Int) := by omega
          have hkX : k < X.length := by omega
          have hcl := cellB HG.out (C4.out (k + 1) (X[k]'hkX) (by rw [List.getElem?_cons_succ, List.getElem?_eq_getElem hkX]))
          rw [show ad.add (k + 1) = ⟨ad.block, ad.off + (k + 1), none⟩ from rfl] at hcl
          have HDR : Hid (XL.drop k = (X[k]'hkX).data.toList :: XL.drop (k + 1)) := Lib.hid (by
            rw [← HXL.out]
            unfold toL
            rw [← List.map_drop, ← List.map_drop, List.drop_eq_getElem_cons hkX]
            rfl)
          generalize X[k]'hkX = xk at hcl HDR
          have HNW := Lib.hid (fun W => number2_any xk W)
          have HCB : Hid (nw xk.data.toList ≤ last → goW XL (-1) 0#64 = none) := Lib.hid fun h => by rw [HGO.out, HDR.out, goW_bad h]
          have HCG : Hid (last < nw xk.data.toList → ∃ b : Nat, b < 64 ∧ nw xk.data.toList = b ∧ goW XL (-1) 0#64 = goW (XL.drop (k + 1)) b (c ||| BitVec.twoPow 64 b)) := Lib.hid fun h => by
            rw [HGO.out, HDR.out]
            exact goW_good h hl1
          generalize nw xk.data.toList = n at *
          clear hkX HDR
          by_cases hn : n ≤ last
          · have HP := Lib.hid (HPA.out.2.2 (HCB.out hn))
            go_wp2_with fail
            refine (HNW.out _).mono ?_
            rintro e w5 ⟨rfl, hg⟩
            have RX5 := Lib.hid (keepB RX.out hg)
            have HG5 := Lib.hid ((G4.out.trans HG.out).trans hg)
            clear hg a0 a1 a2 a3 hcl
            obtain ⟨r0, r1, r2, r3⟩ := lab_cells RX5.out
            obtain ⟨s0, s1, s2⟩ := lab_store RX5.out
            have S0 := Lib.hid s0
            have S1 := Lib.hid s1
            clear s0 s1 s2
            go_wp2
            have s0 := S0.out
            have s1 := S1.out
            obtain ⟨p1, p2, p3⟩ := HP.out
            subst p1 p2 p3
            refine bodyPost_ret (by simp [results, Tryd.results26, go_sem, s0, s1]; try rfl) rfl ⟨rfl, ?_⟩
            exact ((show Below w.heap.size w w5 from HG5.out).setCell (p := ⟨w.heap.size, 0, none⟩) (Nat.le_refl _) _).setCell (p := ⟨w.heap.size, 1, none⟩) (Nat.le_refl _) _
          · obtain ⟨b, hb, rfl, hgo⟩ := HCG.out (by omega)
            have HGO2 := Lib.hid hgo
            have hcb : c.getLsbD b = false := by
              cases h : c.getLsbD b with
              | false => rfl
              | true => exact absurd (HB.out b h) hn
            have HWA := Lib.hid (fun W => with_any n0 c b hb hcb W)
            have HB2 : Hid (∀ i, (c ||| BitVec.twoPow 64 b).getLsbD i = true → (i : Int) ≤ (b : Int)) := Lib.hid fun i h => by
              rw [BitVec.getLsbD_or, BitVec.getLsbD_twoPow, Bool.or_eq_true] at h
              rcases h with h | h
              · have := HB.out i h
                omega
              · simp at h
                omega
            generalize c ||| BitVec.twoPow 64 b = d at HWA HB2 HGO2
            clear hgo hcb
            go_wp2_with fail
            refine (HNW.out _).mono ?_
            rintro e w5 ⟨rfl, hg⟩
            have HA5 := Lib.hid (keepB HA.out hg)
            have HG5 := Lib.hid (HG.out.trans hg)
            clear hg a0 a1 a2 a3 hcl
            obtain ⟨a0, a1, a2, a3⟩ := lab_cells HA5.out
            go_wp2_with fail
            refine (HWA.out _).mono ?_
            rintro e w6 ⟨rfl, hg⟩
            have HA6 := Lib.hid (keepB HA5.out hg)
            have HG6 := Lib.hid (HG5.out.trans hg)
            clear hg a0 a1 a2 a3
            obtain ⟨a0, a1, a2, a3⟩ := lab_cells HA6.out
            have hkw : wrap64 ((k : Int) + 1 + 1) = (k : Int) + 1 + 1 := by
              simp only [List.length_cons] at hEl
              unfold wrap64
              omega
            go_wp2
            go_roundg g
            case measure => omega
            case rel =>
              refine ⟨k + 1, (b : Int), d, by omega, rfl, by first | rfl | simp [hkw] | simp, by omega, HGO2, HB2, Lib.hid ?_, Lib.hid ?_⟩
              · exact row_store HA6.out _ _
              · exact ((show Below w4.heap.size w4 w6 from HG6.out).setCell (p := ⟨w4.heap.size, 0, none⟩) (Nat.le_refl _) _).setCell (p := ⟨w4.heap.size, 1, none⟩) (Nat.le_refl _) _
    | succ g =>
      have hkz : (k : Int) < (s.size : Int) := by omega
      have hkl : k < s.data.toList.length := by rw [HSL.out]; omega
      have hb := byte_at s k (by omega)
      have HWS := Lib.hid (wfold_step s.data.toList k hkl)
      have HCT := Lib.hid (cut_at s.data.toList k fr hkl hfk)
      generalize hB : s[k]'(by omega) = b at hb
      have HB := Lib.hid hb
      have HBB := Lib.hid hB
      clear hb
      have hlt := b.toNat_lt
      by_cases hc : b = 44
      · subst hc
        have hrun : ∀ W : World, (Instr.slice 9 (.string s) (some (.int .i64 (fr : Int))) (some (.int .i64 (k : Int))) none).run Tryd.prog W = .ok (.string (s.extract fr k)) W := fun W => by
          rw [run_slice_string_if (t := 9) (s := s) (k := .i64) (k' := .i64) (i := (fr : Int)) (j := (k : Int)) (h := Tryd.underlying9), if_pos ⟨by omega, by omega⟩, if_pos ⟨by omega, by omega⟩]
          rw [show ((fr : Int)).toNat = fr by omega, show ((k : Int)).toNat = k by omega]
        have HX : Hid ((s.extract fr k).data.toList = (wfold (s.data.toList.take k)).2) := Lib.hid (by rw [extract_toList, HC.out])
        obtain ⟨v', w3, hr, hown, hbl⟩ := app_word wr (w.heap.size + 1) v4 D (s.extract fr k) HO.out (by omega) (by omega)
        have HAPP := Lib.hid hr
        have HO3 := Lib.hid hown
        have HD3 : Hid (toL (D ++ [s.extract fr k]) = (wfold (s.data.toList.take (k + 1))).1) := Lib.hid (by
          rw [HWS.out, ← HB.out]
          unfold wst
          rw [if_pos rfl, ← HX.out, ← HD.out]
          simp [toL])
        have HC3 : Hid ((wfold (s.data.toList.take (k + 1))).2 = (s.data.toList.take (k + 1)).drop (k + 1)) := Lib.hid (by
          rw [HWS.out, ← HB.out]
          unfold wst
          rw [if_pos rfl, List.drop_of_length_le (List.length_take_le _ _)])
        have HG3 : Hid (Grew (w.alloc (Obj.cells #[Value.int IntKind.i64 0, Value.int IntKind.u64 0] 24)) w3) := Lib.hid (by
          have h1 := HG.out
          unfold Grew at h1 ⊢
          rw [World.size_alloc] at h1 ⊢
          exact h1.trans hbl)
        generalize s.extract fr k = x at *
        clear hr hown hbl HWS HCT
        go_wp2_with (at_builtin; refine wpList_app_want (.tmp 21) (.tmp 26) 57 (by rfl) (by rfl) _ _ rfl rfl v' w3 (by exact HAPP.out) ?_)
        go_roundg g
        case measure => omega
        case rel => exact ⟨k + 1, k + 1, _, D ++ [x], by omega, rfl, by first | rfl | simp, by first | rfl | simp, by omega, HO3, HD3, HC3, HG3⟩
      · have hbn : ((b.toNat : Int) == 44) = false := by
          rw [beq_eq_false_iff_ne]
          intro e
          apply hc
          apply UInt8.toNat_inj.1
          show b.toNat = 44
          omega
        have HD3 : Hid (toL D = (wfold (s.data.toList.take (k + 1))).1) := Lib.hid (by
          rw [HWS.out, ← HB.out]
          unfold wst
          rw [if_neg hc]
          exact HD.out)
        have HC3 : Hid ((wfold (s.data.toList.take (k + 1))).2 = (s.data.toList.take (k + 1)).drop fr) := Lib.hid (by
          rw [HWS.out, HCT.out, ← HB.out]
          unfold wst
          rw [if_neg hc]
          simp only
          rw [HC.out])
        clear HWS HCT hc
        go_wp2
        go_roundg g
        case measure => omega
        case rel => exact ⟨k + 1, fr, _, D, by omega, rfl, rfl, by first | rfl | simp, by omega, HO, HD3, HC3, HG⟩
end Go.Proofs.YtekodmnhheejkaaDoor.Rparse
