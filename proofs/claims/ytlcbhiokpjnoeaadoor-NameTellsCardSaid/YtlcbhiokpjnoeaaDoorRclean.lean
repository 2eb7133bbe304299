/-
  What the document's own answer to Clean is.
  Conditions: a text's size.
-/
import Derived.Test.YtlcbhiokpjnoeaaDoorPure2
import Derived.Test.YtlcbhiokpjnoeaaDoorKeep
import Derived.Laws.DeepStrings4
namespace Go.Proofs.YtlcbhiokpjnoeaaDoor.Rclean
open Go Go.RowKit Go.Lib Go.Proofs.YtlcbhiokpjnoeaaDoor Go.Proofs.YtlcbhiokpjnoeaaDoor.Facts Go.Proofs.YtlcbhiokpjnoeaaDoor.Chars Go.Proofs.YtlcbhiokpjnoeaaDoor.Texts Go.Proofs.YtlcbhiokpjnoeaaDoor.Keep Go.Proofs.YtlcbhiokpjnoeaaDoor.Pure Go.Proofs.YtlcbhiokpjnoeaaDoor.Pure2

theorem fold_take (l : List UInt8) (k : Nat) (hk : k < l.length) : (l.take (k + 1)).foldl rstep [] = rstep ((l.take k).foldl rstep []) l[k] := by
  rw [List.take_add_one, List.getElem?_eq_getElem hk]
  simp only [Option.toList_some, List.foldl_append]
  rfl
theorem arr_of (s : ByteArray) (l : List UInt8) (h : s.data.toList = l) : s = ⟨l.toArray⟩ := by
  subst h
  cases s
  simp
theorem empty_iff (s : ByteArray) : s.toList = [] ↔ s.data.toList = [] := by rw [ByteArray.toList_eq]
theorem last_of (s : ByteArray) (hp : 0 < s.size) (hlast : s.size - 1 < s.size) : s.data.toList.getLast? = some (s[s.size - 1]'hlast) := by
  rw [List.getLast?_eq_getElem?, size_len, Chars.byte_at s _ hlast]
  first | done | exact List.getElem?_eq_getElem _

set_option maxRecDepth 100000 in
set_option maxHeartbeats 4000000 in
theorem rclean_any (s : ByteArray) (hs : s.size ≤ 140737488355328) (w : World) : Calls Tryd.prog 12 #[.string s] w fun e w' => e = .returned (.string ⟨(clean s.data.toList).toArray⟩) ∧ w' = w := by
  have hsl := size_len s
  have HCL := Lib.hid (rclean_eq s.data.toList)
  rw [← rstep_all] at HCL
  go_enter Tryd.func12, Tryd.ntmps12
  go_wp2
  go_loopg [3, 4] s.size (fun g s3 s4 wx => ∃ (k : Nat) (t : ByteArray), k + g = s.size ∧ s4 = .int .i64 k ∧ s3 = .string t ∧ t.size ≤ k ∧ Hid (t.data.toList = (s.data.toList.take k).foldl rstep []) ∧ wx = w)
  case atStart => exact ⟨0, ⟨#[]⟩, by omega, rfl, rfl, by decide, Lib.hid rfl, rfl⟩
  case round =>
    obtain ⟨k, t, hkg, rfl, rfl, htk, HI, rfl⟩ := hrel
    cases gk with
    | zero =>
      have hkz : ¬ ((k : Int) < (s.size : Int)) := by omega
      have HI2 : Hid (t.data.toList = s.data.toList.foldl rstep []) := Lib.hid (by rw [HI.out, List.take_of_length_le (by omega)])
      have hts := size_len t
      by_cases h40 : 40 < t.size
      · have h40' : (40 : Int) < (t.size : Int) := by omega
        have HX := Lib.hid (show (t.extract 0 40).data.toList = t.data.toList.take 40 by rw [extract_toList t 0 40 (by omega) (by omega)]; simp)
        go_wp2
        go_loopg [3] (t.extract 0 40).size (fun g s3 wx => ∃ u : ByteArray, u.size ≤ g ∧ s3 = .string u ∧ u.size ≤ 140737488355328 ∧ Hid (trimRightB u.data.toList 32 = clean s.data.toList) ∧ wx = wr)
        case atStart => exact ⟨t.extract 0 40, Nat.le_refl _, rfl, by rw [← size_len, HX.out, List.length_take]; omega, Lib.hid (by rw [HX.out, HI2.out]; exact HCL.out), rfl⟩
        case round =>
          obtain ⟨u, hug, rfl, hub, HU, rfl⟩ := hrel
          rcases Nat.eq_zero_or_pos u.size with h0 | hpos
          · have hz : ¬ ((0 : Int) < (u.size : Int)) := by omega
            go_wp2
            go_returns
            refine ⟨?_, rfl⟩
            have hue : u.data.toList = [] := List.eq_nil_of_length_eq_zero (by rw [size_len]; exact h0)
            have hc := HU.out
            rw [hue] at hc
            rw [← hc]
            exact congrArg (fun x => Ending.returned (Value.string x)) (arr_of u [] hue)
          · have hz : (0 : Int) < (u.size : Int) := by omega
            have hlast : u.size - 1 < u.size := by omega
            have ecast : ((u.size : Int) - 1) = ((u.size - 1 : Nat) : Int) := by omega
            have HL := Lib.hid (last_of u hpos hlast)
            have HEX := Lib.hid (extract_toList u 0 (u.size - 1) (by omega) (by omega))
            have hn := ne32 (u[u.size - 1]'hlast)
            cases hq : (u[u.size - 1]'hlast != 32) with
            | true =>
              have z : ¬ ((u[u.size - 1]'hlast).toNat : Int) = 32 := fun e => by
                rw [hq, e] at hn
                simp at hn
              go_wp2
              go_returns
              refine ⟨?_, rfl⟩
              have hc := HU.out
              rw [right_id _ (by rw [HL.out]; simpa using hq)] at hc
              exact congrArg (fun x => Ending.returned (Value.string x)) (arr_of u _ hc)
            | false =>
              have z : ((u[u.size - 1]'hlast).toNat : Int) = 32 := by
                rw [hq] at hn
                simpa using hn
              cases gk with
              | zero => omega
              | succ g =>
                go_wp2
                go_roundg g
                case measure => omega
                case rel =>
                  have hx : (u.extract 0 (u.size - 1)).data.toList = u.data.toList.dropLast := by
                    rw [HEX.out, List.dropLast_eq_take, size_len]
                    simp
                  refine ⟨u.extract 0 (u.size - 1), ?_, by first | rfl | simp, ?_, Lib.hid ?_, rfl⟩
                  · rw [← size_len, hx, List.length_dropLast, size_len]
                    omega
                  · rw [← size_len, hx, List.length_dropLast, size_len]
                    omega
                  · rw [hx, ← right_step _ (by rw [HL.out]; simpa using hq)]
                    exact HU.out
      · have h40' : ¬ (40 : Int) < (t.size : Int) := by omega
        have HX := Lib.hid (show t.data.toList = t.data.toList.take 40 by rw [List.take_of_length_le (by omega)])
        go_wp2
        go_loopg [3] (t).size (fun g s3 wx => ∃ u : ByteArray, u.size ≤ g ∧ s3 = .string u ∧ u.size ≤ 140737488355328 ∧ Hid (trimRightB u.data.toList 32 = clean s.data.toList) ∧ wx = wr)
        case atStart => exact ⟨t, Nat.le_refl _, rfl, by omega, Lib.hid (by rw [HX.out, HI2.out]; exact HCL.out), rfl⟩
        case round =>
          obtain ⟨u, hug, rfl, hub, HU, rfl⟩ := hrel
          rcases Nat.eq_zero_or_pos u.size with h0 | hpos
          · have hz : ¬ ((0 : Int) < (u.size : Int)) := by omega
            go_wp2
            go_returns
            refine ⟨?_, rfl⟩
            have hue : u.data.toList = [] := List.eq_nil_of_length_eq_zero (by rw [size_len]; exact h0)
            have hc := HU.out
            rw [hue] at hc
            rw [← hc]
            exact congrArg (fun x => Ending.returned (Value.string x)) (arr_of u [] hue)
          · have hz : (0 : Int) < (u.size : Int) := by omega
            have hlast : u.size - 1 < u.size := by omega
            have ecast : ((u.size : Int) - 1) = ((u.size - 1 : Nat) : Int) := by omega
            have HL := Lib.hid (last_of u hpos hlast)
            have HEX := Lib.hid (extract_toList u 0 (u.size - 1) (by omega) (by omega))
            have hn := ne32 (u[u.size - 1]'hlast)
            cases hq : (u[u.size - 1]'hlast != 32) with
            | true =>
              have z : ¬ ((u[u.size - 1]'hlast).toNat : Int) = 32 := fun e => by
                rw [hq, e] at hn
                simp at hn
              go_wp2
              go_returns
              refine ⟨?_, rfl⟩
              have hc := HU.out
              rw [right_id _ (by rw [HL.out]; simpa using hq)] at hc
              exact congrArg (fun x => Ending.returned (Value.string x)) (arr_of u _ hc)
            | false =>
              have z : ((u[u.size - 1]'hlast).toNat : Int) = 32 := by
                rw [hq] at hn
                simpa using hn
              cases gk with
              | zero => omega
              | succ g =>
                go_wp2
                go_roundg g
                case measure => omega
                case rel =>
                  have hx : (u.extract 0 (u.size - 1)).data.toList = u.data.toList.dropLast := by
                    rw [HEX.out, List.dropLast_eq_take, size_len]
                    simp
                  refine ⟨u.extract 0 (u.size - 1), ?_, by first | rfl | simp, ?_, Lib.hid ?_, rfl⟩
                  · rw [← size_len, hx, List.length_dropLast, size_len]
                    omega
                  · rw [← size_len, hx, List.length_dropLast, size_len]
                    omega
                  · rw [hx, ← right_step _ (by rw [HL.out]; simpa using hq)]
                    exact HU.out
    | succ g =>
      have hkz : (k : Int) < (s.size : Int) := by omega
      have hb := Chars.byte_at s k (by omega)
      have hex := extract_toList s k (k + 1) (by omega) (by omega)
      generalize hB : s[k]'(by omega) = b at hb
      have HST := Lib.hid (show (s.data.toList.take (k + 1)).foldl rstep [] = rstep t.data.toList b from by rw [fold_take _ k (by omega), HI.out, hb])
      have HEX : Hid ((s.extract k (k + 1)).data.toList = [b]) := Lib.hid (by
        rw [hex, List.drop_eq_getElem_cons (by omega), hb]
        simp)
      clear hb hex
      have hn := ne32 b
      have hk1 : k + 1 ≤ s.size := by omega
      have hrun : ∀ W : World, (Instr.slice 9 (.string s) (some (.int .i64 (k : Int))) (some (.int .i64 ((k : Int) + 1))) none).run Tryd.prog W = .ok (.string (s.extract k (k + 1))) W := fun W => by
        rw [run_slice_string_if (t := 9) (s := s) (k := .i64) (k' := .i64) (i := (k : Int)) (j := (k : Int) + 1) (h := Tryd.underlying9), if_pos ⟨by omega, by omega⟩, if_pos ⟨by omega, by omega⟩]
        rw [show ((k : Int)).toNat = k by omega, show ((k : Int) + 1).toNat = k + 1 by omega]
      cases hp : plain b with
      | false =>
        go_wp2_with fail
        try rw [hB]
        refine (may_any b _).mono ?_
        rintro e w1 ⟨rfl, hw⟩
        subst hw
        rw [hp]
        go_wp2
        go_roundg g
        case measure => omega
        case rel => exact ⟨k + 1, t, by omega, by first | rfl | simp, rfl, by omega, Lib.hid (by rw [HST.out]; simp [rstep, hp]), rfl⟩
      | true =>
        have hsz1 : (s.extract k (k + 1)).size = 1 := by rw [← size_len, HEX.out]; rfl
        have hsum : (t ++ s.extract k (k + 1)).size = t.size + 1 := by rw [ByteArray.size_append, hsz1]
        have hdat : (t ++ s.extract k (k + 1)).data.toList = t.data.toList ++ [b] := by rw [ByteArray.data_append, Array.toList_append, HEX.out]
        have HDAT := Lib.hid hdat
        clear hdat
        go_wp2_with fail
        try rw [hB]
        refine (may_any b _).mono ?_
        rintro e w1 ⟨rfl, hw⟩
        subst hw
        rw [hp]
        by_cases ht : t.toList = []
        · have hte : t.data.toList = [] := (empty_iff t).1 ht
          cases hq : (b != 32) with
          | false =>
            have z : (b.toNat : Int) = 32 := by
              rw [hq] at hn
              simpa using hn
            go_wp2
            go_roundg g
            case measure => omega
            case rel => exact ⟨k + 1, t, by omega, by first | rfl | simp, rfl, by omega, Lib.hid (by rw [HST.out, hte]; simp [rstep, hq]), rfl⟩
          | true =>
            have z : ¬ (b.toNat : Int) = 32 := fun e => by
              rw [hq, e] at hn
              simp at hn
            go_wp2
            go_roundg g
            case measure => omega
            case rel => exact ⟨k + 1, t ++ s.extract k (k + 1), by omega, by first | rfl | simp, rfl, by omega, Lib.hid (by rw [HST.out, HDAT.out, hte]; simp [rstep, hp, hq]), rfl⟩
        · have hte : t.data.toList ≠ [] := fun e => ht ((empty_iff t).2 e)
          go_wp2
          go_roundg g
          case measure => omega
          case rel => exact ⟨k + 1, t ++ s.extract k (k + 1), by omega, by first | rfl | simp, rfl, by omega, Lib.hid (by rw [HST.out, HDAT.out]; simp [rstep, hp, hte]), rfl⟩
end Go.Proofs.YtlcbhiokpjnoeaaDoor.Rclean
