/-
  A text without the bytes that may not be, and without blanks at both ends: what the program's Clean answers.
  Conditions: a text's size.
-/
import Derived.Test.YtlcbhiokpjnoeaaDoorBuilder
import Derived.Test.YtlcbhiokpjnoeaaDoorTexts
namespace Go.Proofs.YtlcbhiokpjnoeaaDoor.Keep
open Go Go.RowKit Go.Proofs.YtlcbhiokpjnoeaaDoor Go.Proofs.YtlcbhiokpjnoeaaDoor.Facts Go.Proofs.YtlcbhiokpjnoeaaDoor.Chars Go.Proofs.YtlcbhiokpjnoeaaDoor.Builder

theorem extract_toList (s : ByteArray) (i j : Nat) (hi : i ≤ j) (hj : j ≤ s.size) : (s.extract i j).data.toList = (s.data.toList.drop i).take (j - i) := by
  rw [ByteArray.data_extract, Array.toList_extract]
theorem other_take (P : UInt8 → Bool) (l : List UInt8) : (l.take (other P l)).filter P = l.take (other P l) := by
  rw [List.filter_eq_self]
  intro x hx
  obtain ⟨j, hj, rfl⟩ := List.getElem_of_mem hx
  rw [List.length_take] at hj
  rw [List.getElem_take]
  have hlt : j < l.findIdx (fun b => !P b) := by unfold other at hj; omega
  have := List.not_of_lt_findIdx hlt
  simpa using this
theorem other_drop (P : UInt8 → Bool) (l : List UInt8) : (l.drop (other P l)).filter P = (l.drop (min (other P l + 1) l.length)).filter P := by
  rcases Nat.lt_or_ge (other P l) l.length with h | h
  · rw [Nat.min_eq_left h, List.drop_eq_getElem_cons h, List.filter_cons]
    have : P l[other P l] = false := by
      have h2 := List.findIdx_getElem (p := fun b => !P b) (xs := l) (w := h)
      have h3 : (!P (l[other P l]'h)) = true := h2
      simpa only [Bool.not_eq_true'] using h3
    rw [this]
    rfl
  · rw [Nat.min_eq_right (by omega), List.drop_of_length_le h, List.drop_of_length_le (Nat.le_refl _)]
theorem filter_step (P : UInt8 → Bool) (l : List UInt8) : l.filter P = l.take (other P l) ++ (l.drop (min (other P l + 1) l.length)).filter P := by
  conv => lhs; rw [← List.take_append_drop (other P l) l, List.filter_append, other_take, other_drop]

set_option maxHeartbeats 1000000 in
set_option maxRecDepth 100000 in
theorem keep_any (s : ByteArray) (hs : s.size ≤ 140737488355328) (w : World) :
    Calls Tryd.prog 25 #[.string s, .func (.func 22) #[] #[]] w fun e w' => e = .returned (.string ⟨(s.data.toList.filter plain).toArray⟩) ∧ Grew w w' := by
  have hfresh := Lib.fresh_isBuilder 47 5 w
  have hlow : Below w.heap.size w (w.alloc (.cells #[.pointer none, .slice none 0 0] 47)) := by go_grown
  have HF := Lib.hid hfresh
  have HL := Lib.hid hlow
  clear hfresh hlow
  go_enter Tryd.func25, Tryd.ntmps25
  go_wp2
  go_loopg [0] s.size (fun g s0 wx => ∃ (r : ByteArray) (d : List UInt8), r.size ≤ g ∧ s0 = .string r ∧ Hid (d ++ r.data.toList.filter plain = s.data.toList.filter plain) ∧ d.length + r.size ≤ s.size ∧ Hid (Lib.IsBuilder 47 5 w.heap.size w.heap.size (Lib.byteCells d) wx) ∧ Hid (Below w.heap.size w wx))
  case atStart => exact ⟨s, [], Nat.le_refl _, rfl, Lib.hid rfl, by simp, HF, HL⟩
  case round =>
    obtain ⟨r, d, hrg, rfl, HI, hdl, HB, HW⟩ := hrel
    rcases Nat.eq_zero_or_pos r.size with h0 | hpos
    · have hz : ¬ ((0 : Int) < (r.size : Int)) := by omega
      have hbs := HW.out.size
      go_wp2_with fail
      refine (Tryd.Builder_String_any w.heap.size w.heap.size d wr HB.out hbs).mono ?_
      rintro e w2 ⟨rfl, hb2⟩
      have HG := Lib.hid (HW.out.trans hb2)
      clear hb2
      go_wp2
      go_returns
      refine ⟨?_, HG.out⟩
      have hr : r.data.toList = [] := List.eq_nil_of_length_eq_zero (by rw [size_len]; exact h0)
      rw [← HI.out, hr]
      simp
    · cases gk with
      | zero => omega
      | succ g =>
        have hz : (0 : Int) < (r.size : Int) := by omega
        have hn := other_le plain r.data.toList
        rw [size_len] at hn
        have HST := Lib.hid (filter_step plain r.data.toList)
        generalize hN : other plain r.data.toList = n at *
        have HN := Lib.hid hN
        go_wp2_with fail
        refine (otherPlain_any r (by omega) _).mono ?_
        rintro e w1 ⟨rfl, hw⟩
        subst hw
        rw [HN.out]
        clear hN
        have hmin : min ((n : Int) + 1) (r.size : Int) = ((min (n + 1) r.size : Nat) : Int) := by omega
        have hbs := HW.out.size
        have hex : (r.extract 0 n).data.toList = r.data.toList.take n := by
          rw [extract_toList r 0 n (by omega) hn]
          simp
        have hesz : (r.extract 0 n).size = n := by
          rw [← size_len, hex, List.length_take, size_len]
          omega
        have HX := Lib.hid hex
        have HZ := Lib.hid hesz
        clear hex hesz
        go_wp2_with fail
        refine (write_any w.heap.size w.heap.size (Lib.byteCells d) (r.extract 0 n) _ HB.out (by rw [HZ.out]; simp [Lib.byteCells]; omega) hbs).mono ?_
        rintro e w2 ⟨rfl, hb, hb2⟩
        have HB2 := Lib.hid hb
        have HG2 := Lib.hid (HW.out.trans hb2)
        clear hb hb2 hbs
        go_wp2
        go_roundg g
        case measure => omega
        case rel =>
          have hx2 : (r.extract (min (n + 1) r.size) r.size).data.toList = r.data.toList.drop (min (n + 1) r.size) := by
            rw [extract_toList r _ _ (by omega) (Nat.le_refl _), List.take_of_length_le]
            rw [List.length_drop, size_len]
            omega
          have hz2 : (r.extract (min (n + 1) r.size) r.size).size = r.size - min (n + 1) r.size := by
            rw [← size_len, hx2, List.length_drop, size_len]
          refine ⟨r.extract (min (n + 1) r.size) r.size, d ++ r.data.toList.take n, by omega, ?_, ?_, ?_, ?_, HG2⟩
          · first | rfl | simp
          · show _ = _
            rw [← HI.out, hx2, HST.out, size_len, List.append_assoc]
          · rw [List.length_append, List.length_take, size_len]
            omega
          · refine Lib.hid (Or.inr ?_)
            have e : Lib.byteCells (d ++ r.data.toList.take n) = Lib.byteCells d ++ Lib.strCells (r.extract 0 n) := by
              rw [← HX.out]
              simp [Lib.byteCells, Lib.strCells]
            rw [e]
            exact HB2.out
end Go.Proofs.YtlcbhiokpjnoeaaDoor.Keep
