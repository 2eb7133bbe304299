/-
  What the program's Clean and Apart answer.
  Conditions: a text's size; a list's.
-/
import Derived.Test.YtlcbhiokpjnoeaaDoorKeep
import Derived.Test.YtlcbhiokpjnoeaaDoorPure
import Derived.Lib.Fold
namespace Go.Proofs.YtlcbhiokpjnoeaaDoor.Calls_
open Go Go.RowKit Go.Shelf Go.Sort Go.Proofs.YtlcbhiokpjnoeaaDoor Go.Proofs.YtlcbhiokpjnoeaaDoor.Facts Go.Proofs.YtlcbhiokpjnoeaaDoor.Chars Go.Proofs.YtlcbhiokpjnoeaaDoor.Keep Go.Proofs.YtlcbhiokpjnoeaaDoor.Pure

theorem arr_toList (l : List UInt8) : (⟨l.toArray⟩ : ByteArray).data.toList = l := by simp
theorem arr_size (l : List UInt8) : (⟨l.toArray⟩ : ByteArray).size = l.length := by rw [← size_len, arr_toList]
theorem trim_len (l : List UInt8) : (Lib.trimB l 32).length ≤ l.length := (((left_sub _).trans (right_pre l).sublist)).length_le
theorem arr_extract (l : List UInt8) (n : Nat) (hn : n ≤ l.length) : (⟨l.toArray⟩ : ByteArray).extract 0 n = ⟨(l.take n).toArray⟩ := by
  have h := extract_toList ⟨l.toArray⟩ 0 n (by omega) (by rw [arr_size]; exact hn)
  rw [arr_toList, List.drop_zero, Nat.sub_zero] at h
  rw [← h]

set_option maxRecDepth 100000 in
theorem clean_any (s : ByteArray) (hs : s.size ≤ 140737488355328) (w : World) :
    Calls Tryd.prog 11 #[.string s] w fun e w' => e = .returned (.string ⟨(clean s.data.toList).toArray⟩) ∧ Grew w w' := by
  unfold clean
  have hlen : (s.data.toList.filter plain).length ≤ s.size := by rw [← size_len]; exact List.length_filter_le _ _
  have hk := keep_any s hs w
  generalize s.data.toList.filter plain = f at *
  have HK := Lib.hid hk
  have htl := trim_len f
  have ht : ∀ W, Calls Tryd.prog 24 #[.string ⟨f.toArray⟩, .string ⟨#[32]⟩] W fun e w' => e = .returned (.string ⟨(Lib.trimB f 32).toArray⟩) ∧ (w' = W ∨ w' = W.drew) := fun W => by
    have h := Tryd.strings_Trim_one ⟨f.toArray⟩ 32 (by decide) W (by rw [arr_size]; omega)
    rw [arr_toList] at h
    exact h
  generalize Lib.trimB f 32 = g at *
  have HT := Lib.hid ht
  have hsz := arr_size g
  have hr : ∀ W, Calls Tryd.prog 26 #[.string ((⟨g.toArray⟩ : ByteArray).extract 0 (min g.length 40)), .string ⟨#[32]⟩] W fun e w' => e = .returned (.string ⟨(Lib.trimRightB (g.take 40) 32).toArray⟩) ∧ w' = W := fun W => by
    rw [arr_extract g _ (Nat.min_le_left _ _), show g.take (min g.length 40) = g.take 40 from by rw [Nat.min_comm, ← List.take_take, List.take_length]]
    have h := Tryd.strings_TrimRight_one ⟨(g.take 40).toArray⟩ 32 (by decide) W (by rw [arr_size, List.length_take]; omega)
    rw [arr_toList] at h
    exact h
  have HR := Lib.hid hr
  clear hk ht hr
  have hmin : min ((g.length : Nat) : Int) 40 = ((min g.length 40 : Nat) : Int) := by omega
  go_enter Tryd.func11, Tryd.ntmps11
  go_wp2_with fail
  refine HK.out.mono ?_
  rintro e w1 ⟨rfl, h1⟩
  have G1 := Lib.hid h1
  clear h1
  go_wp2_with fail
  refine (HT.out _).mono ?_
  rintro e w2 ⟨rfl, h2⟩
  have G2 := Lib.hid (show Grew w w2 by
    rcases h2 with rfl | rfl
    · exact G1.out
    · exact G1.out.drew)
  clear h2
  go_wp2_with fail
  refine (HR.out _).mono ?_
  rintro e w3 ⟨rfl, h3⟩
  subst h3
  go_wp2
  go_returns
  exact ⟨rfl, G2.out⟩
end Go.Proofs.YtlcbhiokpjnoeaaDoor.Calls_
