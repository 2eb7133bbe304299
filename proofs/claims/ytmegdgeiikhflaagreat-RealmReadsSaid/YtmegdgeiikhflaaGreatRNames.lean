/-
  The names of accounts; whether an account may be; the rule of accounts.
  Conditions: those that each lemma names.
-/
import Derived.Test.YtmegdgeiikhflaaGreatRRules
import Derived.Test.YtmegdgeiikhflaaGreatNames
namespace Go.Proofs.YtmegdgeiikhflaaGreat.RNames
set_option maxRecDepth 100000
open Go Go.RowKit Go.Lib Go.Proofs.YtmegdgeiikhflaaGreat Go.Proofs.YtmegdgeiikhflaaGreat.Facts Go.Proofs.YtmegdgeiikhflaaGreat.Plain Go.Proofs.YtmegdgeiikhflaaGreat.RRows Go.Proofs.YtmegdgeiikhflaaGreat.LBox Go.Proofs.YtmegdgeiikhflaaGreat.RSmall Go.Proofs.YtmegdgeiikhflaaGreat.RFind Go.Proofs.YtmegdgeiikhflaaGreat.RAll

def sv (l : List ByteArray) : List Value := l.map Value.string
def fill (l : List Ac) (k : Nat) : List ByteArray := (l.take k).map (·.name) ++ List.replicate (l.length - k) ⟨#[]⟩
theorem fill_len (l : List Ac) (k : Nat) (h : k ≤ l.length) : (fill l k).length = l.length := by simp [fill]; omega
theorem fill_set (l : List Ac) (k : Nat) (x : Ac) (h : l[k]? = some x) : (fill l k).set k x.name = fill l (k + 1) := by
  have hk := (List.getElem?_eq_some_iff.1 h).1
  unfold fill
  rw [List.set_append_right _ _ (by simp; omega), List.take_add_one, h, Option.toList_some, List.map_append, List.append_assoc]
  congr 1
  rw [show k - ((l.take k).map (·.name)).length = 0 by simp; omega, show l.length - k = (l.length - (k + 1)) + 1 by omega, List.replicate_succ]
  rfl
theorem fill_zero (l : List Ac) : fill l 0 = List.replicate l.length ⟨#[]⟩ := by simp [fill]
theorem fill_all (l : List Ac) : fill l l.length = l.map (·.name) := by simp [fill]
theorem sv_set (l : List ByteArray) (i : Nat) (s : ByteArray) : (sv l).set i (.string s) = sv (l.set i s) := by simp [sv, List.map_set]
theorem made_cells (n : Nat) : madeCells #[.string ⟨#[]⟩] n = (sv (List.replicate n ⟨#[]⟩)).toArray := by
  apply Array.ext'
  rw [toList_madeCells_one]
  simp [sv]
theorem info9 : (Tryz.prog.info? 9).map (fun i => (i.zero, i.size, i.bytes)) = some (some (.string ⟨#[]⟩), 1, 16) := by kernel_rfl
theorem sv_at {W : World} {B : Nat} {l : List ByteArray} {t : Nat} (h : W.heap[B]? = some (.cells (sv l).toArray t (0, 0))) {k : Nat} {s : ByteArray} (hk : l[k]? = some s) : W.cell? ⟨B, k, none⟩ = some (.string s) := by
  rw [cell_of_row _ _ _ _ _ _ h, List.getElem?_toArray]
  simp [sv, hk]

set_option maxRecDepth 100000 in
theorem names_any (v : Value) (l : List Ac) (w : World) (h : As w v l) (hl : l.length ≤ 100) :
    Calls Tryz.prog 61 #[v] w fun e w' => ∃ v', e = .returned v' ∧ Names.Ts w' v' (l.map (·.name)) ∧ Grew w w' := by
  have HL := Lib.hid h
  obtain ⟨A, cp, rfl, hc1, hc2⟩ := h.slice
  obtain ⟨i0, hi, hz0, hz1, hz2⟩ := info_parts info9
  have hmk : ∀ u : World, (Instr.makeSlice 83 (.int .i64 (l.length : Nat)) (.int .i64 (l.length : Nat))).run Tryz.prog u =
      .ok (.slice (some ⟨u.heap.size, 0, none⟩) l.length l.length) (u.alloc (.cells (sv (fill l 0)).toArray 9)) := fun u => by
    have h := run_make (P := Tryz.prog) u 83 9 i0 (.string ⟨#[]⟩) Tryz.underlying83 hi hz0 .i64 .i64 l.length l.length (by omega) (Int.le_refl _) (by rw [hz2]; omega) (by omega)
    rw [fill_zero, ← made_cells]
    simpa [hz1, Value.cells] using h
  have G0 : Hid (Grew w (w.alloc (.cells (sv (fill l 0)).toArray 9))) := Lib.hid (by unfold Grew; go_grown)
  have R0 : Hid ((w.alloc (.cells (sv (fill l 0)).toArray 9)).heap[w.heap.size]? = some (.cells (sv (fill l 0)).toArray 9 (0, 0))) := Lib.hid (heap_alloc_new w _)
  clear h hi hz0 hz1 hz2 i0
  go_enter Tryz.func61, Tryz.ntmps61
  go_wp2
  go_loopg [11] l.length (fun g s11 wx => ∃ k : Nat, k + g = l.length ∧ s11 = .int .i64 k ∧ Hid (wx.heap[w.heap.size]? = some (.cells (sv (fill l k)).toArray 9 (0, 0))) ∧ Hid (Grew w wx))
  case atStart => exact ⟨0, by omega, rfl, R0, G0⟩
  case round =>
    obtain ⟨k, hkg, rfl, HR, HG⟩ := hrel
    cases gk with
    | zero =>
      have hkz : ¬ ((k : Int) < (l.length : Int)) := by omega
      have HE : Hid (fill l k = l.map (·.name)) := Lib.hid (by rw [show k = l.length by omega, fill_all])
      go_wp2
      go_returns
      refine ⟨_, rfl, ⟨some ⟨w.heap.size, 0, none⟩, l.length, ?_, (fun h => by cases h), fun ad ha j hj => ?_⟩, HG.out⟩
      · rw [List.length_map]
        rfl
      · cases ha
        have hR := HR.out
        rw [HE.out] at hR
        have e : (⟨w.heap.size, 0, none⟩ : Addr).add j = ⟨w.heap.size, j, none⟩ := by
          unfold Addr.add
          by_cases h0 : j = 0
          · subst h0; simp
          · simp [h0]
        rw [e]
        refine sv_at hR ?_
        rw [List.getD_eq_getElem?_getD, List.getElem?_eq_getElem hj, Option.getD_some]
    | succ g =>
      have hkz : (k : Int) < (l.length : Int) := by omega
      have hkl : k < l.length := by omega
      have hx : l[k]? = some l[k] := List.getElem?_eq_getElem hkl
      obtain ⟨ad, c2, e, hc, c0, c1, c2', c3⟩ := As_at (HL.out.grew HG.out) hx
      injection e with e1 _ e3
      subst e1 e3
      have HX := Lib.hid hx
      generalize l[k] = x at c0 c1 c2' c3 HX
      clear hx
      have hkw : wrap64 ((k : Int) + 1) = (k : Int) + 1 := by
        unfold wrap64
        omega
      have hlen := fill_len l k (by omega)
      have hB := HG.out.size
      have hlt : w.heap.size < wr.heap.size := (Array.getElem?_eq_some_iff.1 HR.out).1
      have R1 : Hid ((wr.alloc (.cells #[.string x.name, .string x.secret, .int .i64 x.lev, .bool x.mints] 88)).heap[w.heap.size]? = some (.cells (sv (fill l k)).toArray 9 (0, 0))) := Lib.hid ((heap_alloc_old wr _ hlt).trans HR.out)
      have G1 : Hid (Grew w (wr.alloc (.cells #[.string x.name, .string x.secret, .int .i64 x.lev, .bool x.mints] 88))) := Lib.hid (HG.out.trans (by unfold Grew; go_grown))
      have hcl := sv_at R1.out (k := k) (s := (fill l k)[k]'(by omega)) (List.getElem?_eq_getElem (by omega))
      have hfr : (wr.alloc (.cells #[.string x.name, .string x.secret, .int .i64 x.lev, .bool x.mints] 88)).frozen? ⟨w.heap.size, k, none⟩ = false := frozen_of_row _ _ _ _ _ R1.out
      generalize (fill l k)[k]'(by omega) = y at hcl
      clear hlen hB
      go_wp2
      go_roundg g
      case measure => omega
      case rel =>
        refine ⟨k + 1, by omega, by first | rfl | simp [hkw] | simp, Lib.hid ?_, Lib.hid ?_⟩
        · rw [heap_alloc_old _ _ (by simpa using hlt), heap_setCell_same _ _ _ _ _ _ HR.out, List.setIfInBounds_toArray, sv_set, fill_set l k x HX.out]
        · exact ((show Below w.heap.size w wr from HG.out).setCell (p := ⟨w.heap.size, k, none⟩) (Nat.le_refl _) _).alloc (by have := hlt; simp; omega) _
end Go.Proofs.YtmegdgeiikhflaaGreat.RNames
