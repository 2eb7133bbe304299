/-
  New ranks, of which one is another one, as the program makes them.
  Conditions: those that each lemma names.
-/
import Derived.Test.YtmegdgeiikhflaaGreatHN
namespace Go.Proofs.YtmegdgeiikhflaaGreat.HW
open Go Go.RowKit Go.Lib Go.Proofs.YtmegdgeiikhflaaGreat Go.Proofs.YtmegdgeiikhflaaGreat.Facts Go.Proofs.YtmegdgeiikhflaaGreat.Plain Go.Proofs.YtmegdgeiikhflaaGreat.Ints Go.Proofs.YtmegdgeiikhflaaGreat.RRows Go.Proofs.YtmegdgeiikhflaaGreat.LBox Go.Proofs.YtmegdgeiikhflaaGreat.RSmall Go.Proofs.YtmegdgeiikhflaaGreat.RFind Go.Proofs.YtmegdgeiikhflaaGreat.RAll Go.Proofs.YtmegdgeiikhflaaGreat.RRules Go.Proofs.YtmegdgeiikhflaaGreat.RRule3 Go.Proofs.YtmegdgeiikhflaaGreat.RRight Go.Proofs.YtmegdgeiikhflaaGreat.HA Go.Proofs.YtmegdgeiikhflaaGreat.HB Go.Proofs.YtmegdgeiikhflaaGreat.HG Go.Proofs.YtmegdgeiikhflaaGreat.HC Go.Proofs.YtmegdgeiikhflaaGreat.HD Go.Proofs.YtmegdgeiikhflaaGreat.HN

/-- A clone. -/
theorem clone_any (w : World) (v : Value) (l : List Int) (h : Is w v l) (hl : l.length * 8 ≤ 140737488355328) :
    Calls Tryz.prog 165 #[v] w fun e w' => ∃ v', e = .returned v' ∧ w'.ownsRow w.heap.size 3 1 v' l.length (iv l) ∧ Grew w w' := by
  obtain ⟨A, c, rfl, h1, h2, h3, h4⟩ := h
  have q22 : ∀ (w : World) (a : Option Addr) (n c n' c' : Nat), (binOp .eql 23 (.slice a n c) (.slice none n' c')).run Tryz.prog w = .ok (.bool a.isNone) w := fun w a n c n' c' => Lib.run_eql_slice_nil w _ _ a n c n' c' Tryz.underlying23
  cases A with
  | none =>
    have h0 := h3 rfl
    have hn : l = [] := List.eq_nil_of_length_eq_zero (by omega)
    subst hn
    have HO := Lib.hid (own_nil w w.heap.size)
    clear h4 h3 h1 h2 h0
    go_enter Tryz.func165, Tryz.ntmps165
    go_wp2
    go_returns
    exact ⟨_, rfl, HO.out, Grew.refl _⟩
  | some ad =>
    have hown : (w.alloc (.cells #[] 3)).ownsRow w.heap.size 3 1 (.slice (some ⟨w.heap.size, 0, none⟩) 0 0) ([] : List Int).length (iv []) :=
      ⟨rfl, .inr ⟨w.heap.size, 0, #[], rfl, Nat.le_refl _, heap_alloc_new w _, Nat.le_refl _, Nat.zero_le _, rfl, rfl⟩⟩
    have ga : Grew w (w.alloc (.cells #[] 3)) := by unfold Grew; go_grown
    obtain ⟨v', w', hr, h5, h6⟩ := app_row (w.alloc (.cells #[] 3)) w.heap.size _ [] l ad c hown (fun j u hu => Ints.cellG ga (h4 ad rfl j u hu)) (by simpa using hl) (by simp)
    rw [List.nil_append] at h5
    have HR := Lib.hid hr
    have HO := Lib.hid h5
    have HG : Hid (Grew w w') := Lib.hid ((show Below w.heap.size w _ from ga).trans h6)
    clear hown ga hr h5 h6 h4 h3
    go_enter Tryz.func165, Tryz.ntmps165
    go_wp2_with (at_builtin; refine wpList_app_want (.tmp 5) (.tmp 6) 23 (by rfl) (by rfl) _ _ rfl rfl v' w' (by exact HR.out) ?_)
    go_returns
    exact ⟨_, rfl, HO.out, HG.out⟩
/-- A row of some numbers that one owns lies in a block. -/
theorem own_some {w : World} {b : Nat} {v : Value} {l : List Int} (h : w.ownsRow b 3 1 v l.length (iv l)) (hn : l ≠ []) : ∃ g cap cur, v = .slice (some ⟨g, 0, none⟩) l.length cap ∧ b ≤ g ∧ w.heap[g]? = some (.cells cur 3 (0, 0)) ∧ l.length ≤ cap ∧ cap ≤ maxLen ∧ ∀ (j : Nat) u, (iv l)[j]? = some u → cur[j]? = some u := by
  rcases h.2 with ⟨_, h0⟩ | ⟨g, cap, cur, rfl, hb, hg, hnc, hcm, hsz, htk⟩
  · exact absurd (List.eq_nil_of_length_eq_zero h0) hn
  · refine ⟨g, cap, cur, rfl, hb, hg, hnc, hcm, fun j u hu => ?_⟩
    rw [← htk] at hu
    have hj := (List.getElem?_eq_some_iff.1 hu).1
    rw [List.length_take] at hj
    rw [List.getElem?_take_of_lt (by omega)] at hu
    simpa using hu
def withR (R : List (List Int)) (g who : Nat) (x : Int) : List (List Int) := R.set g ((rk R g).set who x)
set_option maxRecDepth 100000 in
set_option maxHeartbeats 4000000 in
theorem with_any (w : World) (vr : Value) (R : List (List Int)) (g who : Nat) (x : Int) (h : RK w vr R) (hne : ∀ row ∈ R, row ≠ [] ∧ row.length ≤ 100) (hl : R.length ≤ 100) (hg : g < R.length) (hw : who < (rk R g).length) :
    Calls Tryz.prog 146 #[vr, .int .i64 (g : Int), .int .i64 (who : Int), .int .i64 x] w fun e w' => ∃ v', e = .returned v' ∧ RK w' v' (withR R g who x) ∧ Grew w w' := by
  have HRK := Lib.hid h
  obtain ⟨A, c, rfl, _⟩ := id h
  have HNE := Lib.hid hne
  have hmk1 := mk_rows R.length hl
  have HG' := Lib.hid hg
  have HW := Lib.hid hw
  have HL := Lib.hid hl
  have HOS : Hid (OR (w.alloc (.cells (List.replicate R.length (Value.slice none 0 0)).toArray 23)) w.heap.size R.length 0 R (List.replicate R.length (Value.slice none 0 0)) (fun _ => 0)) := Lib.hid (or_start w R.length R)
  have GA : Hid (Grew w (w.alloc (.cells (List.replicate R.length (Value.slice none 0 0)).toArray 23))) := Lib.hid (by unfold Grew; go_grown)
  generalize (List.replicate R.length (Value.slice none 0 0)).toArray = Z at *
  generalize List.replicate R.length (Value.slice none 0 0) = Z' at *
  clear h hne hg hw hl
  go_enter Tryz.func146, Tryz.ntmps146
  go_wp2
  go_loopg [17] R.length (fun q s17 wx => ∃ (k : Nat) (xs : List Value) (bl : Nat → Nat), k + q = R.length ∧ s17 = .int .i64 k ∧ Hid (OR wx w.heap.size R.length k R xs bl) ∧ Hid (Grew w wx))
  case atStart => exact ⟨0, _, _, by omega, rfl, HOS, GA⟩
  case round =>
    obtain ⟨k, xs, bl, hkg, rfl, HO, HG⟩ := hrel
    cases gk with
    | zero =>
      have hkz : ¬ ((k : Int) < (R.length : Int)) := by omega
      have hk : k = R.length := by omega
      subst hk
      obtain ⟨cap, u, hc1, hc2, hc3, hc4⟩ := HO.out.cell (i := g) HG'.out (rk_get HG'.out) (c := who) HW.out
      have h1 : (g : Int) < (R.length : Int) := by have := HG'.out; omega
      have h2 : (who : Int) < ((rk R g).length : Int) := by have := HW.out; omega
      have O4 := Lib.hid (HO.out.write (q := g) HG'.out (rk_get HG'.out) (c := who) HW.out x)
      have HBL : Hid (w.heap.size < bl g) := Lib.hid (HO.out.blo g HG'.out).1
      have G4 : Hid (Grew w (wr.setCell ⟨bl g, who, none⟩ (.int .i64 x))) := Lib.hid ((show Below w.heap.size w wr from HG.out).setCell (p := ⟨bl g, who, none⟩) (by have := HBL.out; show w.heap.size ≤ bl g; omega) _)
      have HE := Lib.hid (O4.out.rk (List.length_set ..) (by have := HL.out; unfold maxLen; omega))
      clear hc2
      go_wp2
      go_returns
      exact ⟨_, rfl, HE.out, G4.out⟩
    | succ q =>
      have hkz : (k : Int) < (R.length : Int) := by omega
      have hkl : k < R.length := by omega
      obtain ⟨ad, c2, A', c', e, hcl, hrow⟩ := (HRK.out.grew HG.out).at hkl
      injection e with e1 _ e3
      subst e1 e3
      have hn := HNE.out _ (List.mem_of_getElem? (rk_get hkl))
      have HC := Lib.hid (clone_any wr _ _ hrow (by omega))
      have HN1 := Lib.hid hn.1
      have HN2 := Lib.hid hn.2
      have HKL := Lib.hid hkl
      have hkw : wrap64 ((k : Int) + 1) = (k : Int) + 1 := by
        have := HL.out
        unfold wrap64
        omega
      clear hrow hn hkl
      go_wp2_with fail
      with_reducible refine HC.out.mono ?_
      rintro e w2 ⟨v', rfl, hown, hg⟩
      obtain ⟨gb, cap, cur, rfl, hb, hh, h1, h2, h3⟩ := own_some hown HN1.out
      have O2 := HO.out.grew hg
      have HBS := lt_size HO.out.row
      have O3 := Lib.hid (O2.put (k := k) HKL.out (rk_get HKL.out) hh (by omega) (fun i hi => by have := (HO.out.blo i hi).2; omega) h1 h2 h3)
      have G3 : Hid (Grew w (w2.setCell ⟨w.heap.size, k, none⟩ (.slice (some ⟨gb, 0, none⟩) (rk R k).length cap))) := Lib.hid ((show Below w.heap.size w w2 from HG.out.trans hg).setCell (p := ⟨w.heap.size, k, none⟩) (Nat.le_refl _) _)
      obtain ⟨x0, hx0, hxc, hxf⟩ := O2.slot (i := k) HKL.out
      clear hx0 O2 hown hg hb hh h1 h2 h3 HBS hcl
      go_wp2
      go_roundg q
      case measure => omega
      case rel => exact ⟨k + 1, _, _, by omega, by first | rfl | simp [hkw], O3, G3⟩
end Go.Proofs.YtmegdgeiikhflaaGreat.HW
