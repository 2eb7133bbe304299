/-
  Whether no two texts of a list are the same, and where a text stands in one: what the program answers for a list that is not nil.
  Conditions: a list's size.
-/
import Derived.Test.YtlcbhiokpjnoeaaDoorCalls
import Derived.Lib.OwnBridge
import Derived.Sort.OwnSorted
import Derived.Sort.Grow
namespace Go.Proofs.YtlcbhiokpjnoeaaDoor.Apart
open Go Go.RowKit Go.Shelf Go.Sort Go.Proofs.YtlcbhiokpjnoeaaDoor Go.Proofs.YtlcbhiokpjnoeaaDoor.Facts Go.Proofs.YtlcbhiokpjnoeaaDoor.Chars

/-- The list sorted. -/
def sorted (ks : List (List UInt8)) : List (List UInt8) := ks.mergeSort fun x y => decide (x ≤ y)
theorem sorted_length (ks : List (List UInt8)) : (sorted ks).length = ks.length := List.length_mergeSort ks
/-- Are no two the same? -/
def apart (ks : List (List UInt8)) : Bool := decide ((Lib.compact (sorted ks)).length = ks.length)
def lists (zs : List ByteArray) : List (List UInt8) := zs.map (·.data.toList)
theorem lists_enc (zs : List ByteArray) : zs.map Value.string = (lists zs).map encStr := by
  unfold lists
  rw [List.map_map]
  refine List.map_congr_left fun s _ => ?_
  show Value.string s = Value.string _
  cases s
  simp

theorem one (w : World) (b off n c : Nat) (zs : List ByteArray) (hz : zs.length = n) (hpos : 0 < n) (hbig : n * 16 ≤ 140737488355328)
    (hc : ∀ j, j < zs.length → w.cell? ⟨b, off + j, none⟩ = some (.string (zs.getD j ByteArray.empty))) :
    Calls Tryd.prog 28 #[.slice (some ⟨b, off, none⟩) n c] w fun e w' => ∃ g cap, e = .returned (.slice (some ⟨g, 0, none⟩) n cap) ∧ w.heap.size ≤ g ∧ g < w'.heap.size ∧ n ≤ cap ∧ Holds encStr w' g 0 (lists zs).toArray ∧ Grew w w' := by
  refine (Tryd.slices_Clone_string b off n c zs w (by omega) hbig hc).mono ?_
  rintro e w' ⟨v', rfl, hown, hne, hb⟩
  rw [List.take_of_length_le (by omega), lists_enc] at hown
  obtain ⟨g0, cap0, rfl, hbg, hgl, hncap, hcm, hlen, hH⟩ := Lib.holds_of_ownsRow hown hne
  exact ⟨g0, cap0, rfl, hbg, hgl, hncap, hH, hb⟩

set_option maxRecDepth 100000 in
theorem apart_any (w : World) (b off n c : Nat) (zs : List ByteArray) (hz : zs.length = n) (hpos : 0 < n) (hbig : n * 16 ≤ 140737488355328)
    (hc : ∀ j, j < zs.length → w.cell? ⟨b, off + j, none⟩ = some (.string (zs.getD j ByteArray.empty))) :
    Calls Tryd.prog 15 #[.slice (some ⟨b, off, none⟩) n c] w fun e w' => e = .returned (.bool (apart (lists zs))) ∧ Grew w w' := by
  have H1 := Lib.hid (one w b off n c zs hz hpos hbig hc)
  clear hc
  have hkl : (lists zs).length = n := by rw [lists, List.length_map, hz]
  unfold apart
  rw [hkl]
  generalize lists zs = ks at *
  have hsl := sorted_length ks
  go_enter Tryd.func15, Tryd.ntmps15
  go_wp2_with fail
  refine H1.out.mono ?_
  rintro e w1 ⟨g, cap, rfl, hg, hgl, hnc, hH, hb⟩
  have cSort := Tryd.slices_Sort_string g 0 cap ks w1 hH hgl (by omega)
  rw [hkl] at cSort
  have cComp : ∀ nn os, Calls Tryd.prog 30 #[.slice (some ⟨g, 0, none⟩) n cap] (grow (putRow encStr (Sort.ahead w1 nn) g 0 (sorted ks).toArray) os) fun e w' =>
      e = .returned (.slice (some ⟨g, 0, none⟩) (Lib.compact (sorted ks)).length cap) ∧ ∃ q, w' = putRow encStr (Sort.ahead (grow (putRow encStr (Sort.ahead w1 nn) g 0 (sorted ks).toArray) os) q) g 0 (Lib.compact (sorted ks) ++ List.replicate (n - (Lib.compact (sorted ks)).length) []).toArray := fun nn os => by
    have hH2 : Holds encStr (grow (putRow encStr (Sort.ahead w1 nn) g 0 (sorted ks).toArray) os) g 0 (sorted ks).toArray :=
      holds_grow encStr _ os g 0 _ (by simpa [putRow, mapBlock, Sort.ahead] using hgl) (holds_putRow encStr _ g 0 _ _ (holds_ahead encStr w1 nn g 0 _ hH) (by simp [hsl]))
    have := Tryd.slices_Compact_string g 0 cap (sorted ks) _ hH2 (by omega) (by omega)
    rwa [hsl, hkl] at this
  have HS := Lib.hid cSort
  have HC := Lib.hid cComp
  have HB := Lib.hid (show ∀ nn os q d, Grew w (putRow encStr (Sort.ahead (grow (putRow encStr (Sort.ahead w1 nn) g 0 (sorted ks).toArray) os) q) g 0 d) from fun nn os q d =>
    Lib.below_putRow ((show Below w.heap.size w w1 from hb).grown (grownBy_sorted _) hb.size (fun j hj => by cases hj; exact hg)) hg)
  clear hH hb cSort cComp H1
  go_wp2_with fail
  refine HS.out.mono ?_
  rintro e w2 ⟨rfl, nn, os, rfl⟩
  go_wp2_with fail
  refine (HC.out nn os).mono ?_
  rintro e w3 ⟨rfl, q, rfl⟩
  go_wp2
  go_returns
  refine ⟨?_, HB.out _ _ _ _⟩
  refine congrArg (fun x => Ending.returned (Value.bool x)) ?_
  rw [Bool.eq_iff_iff]
  simp
  try omega

theorem index_any (w : World) (b off n c : Nat) (zs : List ByteArray) (x : ByteArray) (hz : zs.length = n) (hbig : n ≤ 9223372036854775807)
    (hc : ∀ j, j < zs.length → w.cell? ⟨b, off + j, none⟩ = some (.string (zs.getD j ByteArray.empty))) :
    Calls Tryd.prog 13 #[.slice (some ⟨b, off, none⟩) n c, .string x] w fun e w' => e = .returned (.int .i64 (Lib.idxOfS zs x)) ∧ w' = w := by
  have h := Tryd.slices_Index_string b off n c zs x w (by omega) hbig hc
  rw [List.take_of_length_le (by omega)] at h
  have H := Lib.hid h
  clear h hc
  go_enter Tryd.func13, Tryd.ntmps13
  go_wp2_with fail
  refine H.out.mono ?_
  rintro e w1 ⟨rfl, hw⟩
  subst hw
  go_wp2
  go_returns
  exact ⟨rfl, rfl⟩

theorem so3 : sorted [[97], [98], [97]] = [[97], [97], [98]] := by
  unfold sorted
  simp [List.mergeSort, List.MergeSort.Internal.splitInTwo, List.merge]
  rw [if_pos (by decide)]
  simp [List.merge]
  decide
theorem so2 : sorted [[98], [97]] = [[97], [98]] := by
  unfold sorted
  simp [List.mergeSort, List.MergeSort.Internal.splitInTwo, List.merge]
  try decide
theorem ap3 : apart (lists [⟨#[97]⟩, ⟨#[98]⟩, ⟨#[97]⟩]) = false := by
  show decide ((Lib.compact (sorted [[97], [98], [97]])).length = 3) = false
  rw [so3]
  decide +kernel
theorem ap2 : apart (lists [⟨#[98]⟩, ⟨#[97]⟩]) = true := by
  show decide ((Lib.compact (sorted [[98], [97]])).length = 2) = true
  rw [so2]
  decide +kernel
theorem ix1 : Lib.idxOfS [⟨#[97]⟩, ⟨#[98]⟩, ⟨#[97]⟩] ⟨#[98]⟩ = 1 := by decide +kernel
theorem ix2 : Lib.idxOfS [⟨#[97]⟩, ⟨#[98]⟩, ⟨#[97]⟩] ⟨#[99]⟩ = -1 := by decide +kernel
end Go.Proofs.YtlcbhiokpjnoeaaDoor.Apart
