/-
  The document's Newest: the greatest number in an area, at whichever end of a sector.
  Conditions: those that each lemma names.
-/
import Derived.Test.YtbnicphegbdfnaaQA
import Derived.Test.YtbnicphegbdfnaaRG
namespace Go.Proofs.Ytbnicphegbdfnaa.QN
set_option maxRecDepth 100000
open Go Go.RowKit Go.Proofs.Ytbnicphegbdfnaa Go.Proofs.Ytbnicphegbdfnaa.Facts Go.Proofs.Ytbnicphegbdfnaa.Bytes Go.Proofs.Ytbnicphegbdfnaa.DKeep Go.Proofs.Ytbnicphegbdfnaa.DSmall Go.Proofs.Ytbnicphegbdfnaa.Scan Go.Proofs.Ytbnicphegbdfnaa.SPure Go.Proofs.Ytbnicphegbdfnaa.DRefA Go.Proofs.Ytbnicphegbdfnaa.DRefB Go.Proofs.Ytbnicphegbdfnaa.DSim Go.Proofs.Ytbnicphegbdfnaa.DRefD Go.Proofs.Ytbnicphegbdfnaa.AP Go.Proofs.Ytbnicphegbdfnaa.AQ Go.Proofs.Ytbnicphegbdfnaa.AA Go.Proofs.Ytbnicphegbdfnaa.QA

/-- The number at an end of a sector: k is 0 or 1. -/
def endOf (B : List UInt8) (k : Nat) : List UInt8 := (B.drop (120 * k)).take 8
/-- The greatest one, behind k ends. -/
def most (B : List UInt8) (top : Nat) : Nat → Nat
  | 0 => top
  | k + 1 => max (most B top k) (Sc.val (endOf B k))
theorem most_two (B : List UInt8) (top : Nat) : most B top 2 = max (max top (stampOf B)) (againOf B) := rfl
theorem end_at (B : List UInt8) (hB : B.length = 128) (k j : Nat) (hk : k < 2) (hj : j < 8) : ∃ b, B[120 * k + j]? = some b ∧ (endOf B k).take (j + 1) = (endOf B k).take j ++ [b] := by
  have hl : (endOf B k).length = 8 := by
    unfold endOf
    rw [List.length_take, List.length_drop, hB]
    omega
  have hx : (endOf B k)[j]? = B[120 * k + j]? := by
    unfold endOf
    rw [List.getElem?_take, if_pos hj, List.getElem?_drop]
  refine ⟨(endOf B k)[j]'(by omega), ?_, ?_⟩
  · rw [← hx]
    exact List.getElem?_eq_getElem _
  · rw [List.take_succ_eq_append_getElem (by omega)]
theorem end_len (B : List UInt8) (hB : B.length = 128) (k : Nat) (hk : k < 2) : (endOf B k).length = 8 := by
  unfold endOf
  rw [List.length_take, List.length_drop, hB]
  omega
/-- A byte of a text. -/
theorem run_byte (B : List UInt8) (j : Nat) (J : Int) (hJ : J = (j : Int)) (b : UInt8) (hb : B[j]? = some b) (w : World) : (Instr.index 9 (.string ⟨B.toArray⟩) (.int .i64 J)).run Try.prog w = .ok (.int .u8 (b.toNat : Int)) w := by
  subst hJ
  obtain ⟨h1, h2⟩ := List.getElem?_eq_some_iff.1 hb
  have hs : ((⟨B.toArray⟩ : ByteArray)).size = B.length := by simp [ByteArray.size]
  have hi : (0 : Int) ≤ (j : Int) ∧ (j : Int) < ((⟨B.toArray⟩ : ByteArray).size : Int) := by rw [hs]; omega
  rw [run_index_string w 9 _ .i64 (j : Int) Try.underlying9, dif_pos hi]
  subst h2
  rfl
set_option maxHeartbeats 8000000 in
theorem newest_any (A1 A2 A3 : Option Addr) (L : List Sec) (n2 n3 c1 c2 c3 : Nat) (f : Int) (o : Bool) (first m : Nat) (x1 : Int) (hx1 : x1 = (m : Int)) (w : World) (hS : SR w (.slice A1 L.length c1) L) (hev : Even L) (hn : L.length ≤ 16384) (hq : aref L.length o (first : Int) (m : Int) = 0) :
    Calls Try.prog 79 #[dv A1 A2 A3 L.length n2 n3 c1 c2 c3 f o, .int .i64 (first : Int), .int .i64 x1] w fun e w' => e = .returned (.tuple #[.int .u64 (anew L first m 0 0 : Int), .int .i64 0]) ∧ Grew w w' := by
  subst hx1
  have HAB : Hid (∀ W, Calls Try.prog 117 #[dv A1 A2 A3 L.length n2 n3 c1 c2 c3 f o, .int .i64 (first : Int), .int .i64 (m : Int)] W fun e w' => e = .returned (.int .i64 0) ∧ Grew W w') := Lib.hid fun W => by
    have h := aable_any A1 A2 A3 L.length n2 n3 c1 c2 c3 f o (first : Int) (m : Int) W hn
    rwa [hq] at h
  have hfit : first + m ≤ L.length := by
    unfold aref at hq
    split at hq
    · omega
    · omega
  have HS := Lib.hid hS
  have HEV := Lib.hid hev
  have HF := Lib.hid hfit
  have HN := Lib.hid hn
  obtain ⟨X, hX⟩ : ∃ X, anew L first m 0 0 = X := ⟨_, rfl⟩
  rw [hX]
  have HX0 := Lib.hid hX
  have hc1 : ∃ c0, SR w (.slice A1 L.length c1) L ∧ c1 = c0 := ⟨c1, hS, rfl⟩
  clear hS hev hq hfit hn hX hc1
  unfold dv at HAB ⊢
  go_enter Try.func79, Try.ntmps79
  go_upto_region 1 with fail
  have HG0 : Hid (Grew w (w.alloc (.cells #[.slice A1 L.length c1, .slice A2 n2 c2, .slice A3 n3 c3, .int .i64 f, .bool o] 49))) := Lib.hid (grew_new _)
  have HB3 : Hid (RF.FX (w.alloc (.cells #[.slice A1 L.length c1, .slice A2 n2 c2, .slice A3 n3 c3, .int .i64 f, .bool o] 49)) w.heap.size (.slice A1 L.length c1) (.slice A2 n2 c2) (.slice A3 n3 c3) (.int .i64 f) (.bool o)) := Lib.hid (heap_alloc_new w _)
  generalize w.alloc (.cells #[.slice A1 L.length c1, .slice A2 n2 c2, .slice A3 n3 c3, .int .i64 f, .bool o] 49) = W0 at *
  generalize w.heap.size = BP at *
  obtain ⟨b0, b1, b2, b3, b4⟩ := HB3.out.cells
  go_wp2_with fail
  refine (HAB.out W0).mono ?_
  rintro e W1 ⟨rfl, hg1⟩
  have HG1 := Lib.hid (HG0.out.trans hg1)
  have HB1 := Lib.hid (HB3.out.grew hg1)
  clear b0 b1 b2 b3 b4 hg1 HG0 HB3 HAB
  go_wp2_with fail
  go_loopg [9, 10, 11, 12, 13, 14] m (fun q s9 s10 s11 s12 s13 s14 wx => ∃ (i top : Nat), i + q = m ∧ s10 = .int .i64 (i : Int) ∧ s9 = .int .u64 (top : Int) ∧ wx = W1 ∧ Hid (anew L first q i top = X) ∧ Hid (top < 18446744073709551616))
  case atStart => exact ⟨0, 0, Nat.zero_add _, rfl, rfl, rfl, HX0, Lib.hid (by omega)⟩
  case round =>
    obtain ⟨i, top, hiq, rfl, rfl, hwe, HLX, HT⟩ := hrel
    have hwe2 := hwe.symm
    subst hwe2
    clear hwe
    clear HX0
    obtain ⟨b0, b1, b2, b3, b4⟩ := HB1.out.cells
    cases gk with
    | zero =>
      have him : ¬ (i : Int) < (m : Int) := by omega
      have hX : X = top := by have := HLX.out; rw [anew] at this; exact this.symm
      subst hX
      clear HLX
      go_wp2
      go_returns
      exact ⟨rfl, HG1.out⟩
    | succ q =>
      have him : (i : Int) < (m : Int) := by omega
      have hil : first + i < L.length := by have := HF.out; omega
      obtain ⟨B, hB⟩ : ∃ B, L[first + i]? = some B := ⟨_, List.getElem?_eq_getElem hil⟩
      have hBl : B.length = 128 := HEV.out B (List.mem_of_getElem? hB)
      obtain ⟨A, c, hA, hlc, hcm, hnn, hcell⟩ := HS.out
      injection hA with hA0 _ hA2
      subst hA0 hA2
      obtain ⟨ad, rfl⟩ : ∃ ad, A1 = some ad := by
        cases A1 with
        | none => have := hnn rfl; omega
        | some ad => exact ⟨ad, rfl⟩
      have hcb := DWrite.cellB HG1.out (hcell ad rfl (first + i) B hB)
      unfold sv at hcb
      have hix : IntKind.i64.wrap ((first : Int) + (i : Int)) = ((first + i : Nat) : Int) := by rw [IntWalk.i64_in _ (by have := HN.out; omega)]; simp
      have h1 : (((first + i : Nat) : Int)) < (L.length : Int) := by omega
      obtain ⟨ix, hixx⟩ : ∃ ix, first + i = ix := ⟨_, rfl⟩
      rw [hixx] at hcb hix h1 hB
      have HLX2 : Hid (anew L first q (i + 1) (most B top 2) = X) := Lib.hid (by
        have h := HLX.out
        rw [anew, hixx, hB] at h
        rw [most_two]
        exact h)
      have HBL := Lib.hid hBl
      have hwi : IntKind.i64.wrap ((i : Int) + 1) = (i : Int) + 1 := IntWalk.i64_in _ (by omega)
      have HMT : Hid (∀ k, k ≤ 2 → most B top k < 18446744073709551616) := Lib.hid (by
        have ht := HT.out
        have hv : ∀ k, k < 2 → Sc.val (endOf B k) < 18446744073709551616 := fun k hk => by
          have := val_bound (endOf B k) 8 (end_len B hBl k hk)
          exact this
        intro k hk
        match k, hk with
        | 0, _ => exact ht
        | 1, _ => exact Nat.max_lt.2 ⟨ht, hv 0 (by omega)⟩
        | 2, _ => exact Nat.max_lt.2 ⟨Nat.max_lt.2 ⟨ht, hv 0 (by omega)⟩, hv 1 (by omega)⟩)
      clear hB hBl hlc hcm hnn hcell hixx HLX hil
      go_wp2_with fail
      go_loopg [9, 12, 13, 14] 2 (fun q2 s9 s12 s13 s14 wx => ∃ (k pt : Nat), k + q2 = 2 ∧ s12 = .int .i64 ((120 * k : Nat) : Int) ∧ s9 = .int .u64 (pt : Int) ∧ wx = W1 ∧ Hid (most B top k = pt))
      case atStart => exact ⟨0, top, rfl, rfl, rfl, rfl, Lib.hid rfl⟩
      case round =>
        obtain ⟨k, pt, hkq, rfl, rfl, hwe, HPT⟩ := hrel
        have hwe2 := hwe.symm
        subst hwe2
        clear hwe
        cases gk with
        | zero =>
          obtain rfl : k = 2 := by omega
          have hk120 : ¬ ((120 * 2 : Nat) : Int) ≤ 120 := by omega
          have HT2 : Hid (pt < 18446744073709551616) := Lib.hid (by rw [← HPT.out]; exact HMT.out 2 (Nat.le_refl _))
          have HLX3 : Hid (anew L first q (i + 1) pt = X) := Lib.hid (by rw [← HPT.out]; exact HLX2.out)
          go_wp2
          go_roundg q
          case measure => omega
          case rel => exact ⟨i + 1, pt, by omega, by first | rfl | simp, rfl, rfl, HLX3, HT2⟩
        | succ q2 =>
          have hk2 : k < 2 := by omega
          have hk120 : ((120 * k : Nat) : Int) ≤ 120 := by omega
          have hk0 : 120 * k ≤ 120 := by omega
          have hwk : IntKind.i64.wrap (((120 * k : Nat) : Int) + 120) = ((120 * (k + 1) : Nat) : Int) := by rw [IntWalk.i64_in _ (by omega)]; omega
          obtain ⟨ko, hko⟩ : ∃ ko, 120 * k = ko := ⟨_, rfl⟩
          have HKO := Lib.hid hko
          rw [hko] at hk120 hk0 hwk ⊢
          clear hko
          go_wp2_with fail
          go_loopg [13, 14] 8 (fun q3 s13 s14 wx => ∃ (j v : Nat), j + q3 = 8 ∧ s14 = .int .i64 (j : Int) ∧ s13 = .int .u64 (v : Int) ∧ wx = W1 ∧ Hid (Sc.val ((endOf B k).take j) = v))
          case atStart => exact ⟨0, 0, rfl, rfl, rfl, rfl, Lib.hid rfl⟩
          case round =>
            obtain ⟨j, v, hjq, rfl, rfl, hwe, HV⟩ := hrel
            have hwe2 := hwe.symm
            subst hwe2
            clear hwe
            cases gk with
            | zero =>
              obtain rfl : j = 8 := by omega
              have h8 : ¬ ((8 : Nat) : Int) < 8 := by omega
              have hv : Sc.val (endOf B k) = v := by
                have := HV.out
                rwa [List.take_of_length_le (by rw [end_len B HBL.out k hk2]; exact Nat.le_refl _)] at this
              by_cases hgt : pt < v
              · have hgt' : (pt : Int) < (v : Int) := by omega
                have HPT2 : Hid (most B top (k + 1) = v) := Lib.hid (by show max (most B top k) _ = v; rw [HPT.out, hv]; omega)
                clear hgt hv
                go_wp2
                go_roundg q2
                case measure => omega
                case rel => exact ⟨k + 1, v, by omega, rfl, rfl, rfl, HPT2⟩
              · have hgt' : ¬ (pt : Int) < (v : Int) := by omega
                have HPT2 : Hid (most B top (k + 1) = pt) := Lib.hid (by show max (most B top k) _ = pt; rw [HPT.out, hv]; omega)
                clear hgt hv
                go_wp2
                go_roundg q2
                case measure => omega
                case rel => exact ⟨k + 1, pt, by omega, rfl, rfl, rfl, HPT2⟩
            | succ q3 =>
              have hj8 : j < 8 := by omega
              have h8 : (j : Int) < 8 := by omega
              obtain ⟨b, hb, htk⟩ := end_at B HBL.out k j hk2 hj8
              rw [HKO.out] at hb
              have hjo : IntKind.i64.wrap ((ko : Int) + (j : Int)) = ((ko + j : Nat) : Int) := by rw [IntWalk.i64_in _ (by omega)]; simp
              obtain ⟨kj, hkj⟩ : ∃ kj, ko + j = kj := ⟨_, rfl⟩
              rw [hkj] at hjo hb
              have hrun := run_byte B kj (kj : Int) rfl b hb W1
              have hv7 : v < 72057594037927936 := by
                have h := Nums.val_small (endOf B k) j (by omega)
                rwa [HV.out] at h
              have hb8 : b.toNat < 256 := b.toNat_lt
              have hw1 : IntKind.u64.wrap ((v : Int) * 256) = (v : Int) * 256 := IntWalk.u64_in _ (by omega)
              have hw2 : IntKind.u64.wrap ((v : Int) * 256 + (b.toNat : Int)) = ((v * 256 + b.toNat : Nat) : Int) := by rw [IntWalk.u64_in _ (by omega)]; simp
              have hwj : IntKind.i64.wrap ((j : Int) + 1) = (j : Int) + 1 := IntWalk.i64_in _ (by omega)
              have HV2 : Hid (Sc.val ((endOf B k).take (j + 1)) = v * 256 + b.toNat) := Lib.hid (by rw [htk, Nums.val_snoc, HV.out])
              obtain ⟨v2, hv2⟩ : ∃ v2, v * 256 + b.toNat = v2 := ⟨_, rfl⟩
              rw [hv2] at hw2 HV2
              clear hb htk hkj hv7 hv2 HV
              go_wp2
              go_roundg q3
              case measure => omega
              case rel => exact ⟨j + 1, v2, by omega, by first | rfl | simp, by first | rfl | simp, rfl, HV2⟩
end Go.Proofs.Ytbnicphegbdfnaa.QN
