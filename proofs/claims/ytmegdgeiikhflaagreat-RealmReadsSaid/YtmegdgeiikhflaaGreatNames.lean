/-
  Names: which texts are, the program's answer and the document's; the place of a text among others, and whether no two are the same.
  Conditions: a text's size; a list's.
-/
import Derived.Test.YtmegdgeiikhflaaGreatChars
import Derived.Test.YtmegdgeiikhflaaGreatShelf
import Derived.Test.YtmegdgeiikhflaaGreatListsPure
import Derived.Lib.OwnBridge
import Derived.Sort.OwnSorted
import Derived.Sort.Grow
import Derived.SliceStrings
namespace Go.Proofs.YtmegdgeiikhflaaGreat.Names
set_option maxRecDepth 100000
set_option maxRecDepth 100000
open Go Go.RowKit Go.Shelf Go.Sort Go.Proofs.YtmegdgeiikhflaaGreat Go.Proofs.YtmegdgeiikhflaaGreat.Facts Go.Proofs.YtmegdgeiikhflaaGreat.Chars

theorem cellG {w w' : World} {a : Addr} {v : Value} (hg : Grew w w') (h : w.cell? a = some v) : w'.cell? a = some v :=
  (hg.cell (World.block_lt_of_cell? _ _ h)).trans h
theorem at_getD (s : ByteArray) (k : Nat) (h : k < s.size) : s[k] = s.data.toList.getD k 0 := by
  rw [byte_at s k h, List.getD_eq_getElem?_getD, List.getElem?_eq_getElem (by rw [size_len]; exact h)]
  rfl
theorem size_ok (s : ByteArray) (n : Nat) (h1 : 1 ≤ s.size ∧ s.size ≤ n) : (decide (1 ≤ s.size) && decide ((s.size : Int) ≤ (n : Int))) = true := by simp; omega
theorem size_no (s : ByteArray) (n : Nat) (h1 : ¬ (1 ≤ s.size ∧ s.size ≤ n)) : (decide (1 ≤ s.size) && decide ((s.size : Int) ≤ (n : Int))) = false := by
  rw [Bool.and_eq_false_iff, decide_eq_false_iff_not, decide_eq_false_iff_not]; omega

set_option maxRecDepth 100000 in
theorem right_any (s : ByteArray) (hs : s.size ≤ 9223372036854775807) (w : World) : Calls Tryz.prog 153 #[.string s] w fun e w' => e = .returned (.bool (right s.data.toList)) ∧ w' = w := by
  have hsl := size_len s
  have hr : right s.data.toList = (decide (1 ≤ s.size) && decide ((s.size : Int) ≤ ((12 : Nat) : Int)) && letter (s.data.toList.getD 0 0) && decide (other word s.data.toList = s.size)) := by
    rw [← hsl, other_eq, right]
    congr 3
    rw [decide_eq_decide]
    omega
  have HON := Lib.hid (onlyWord_any s hs)
  have hsz := sized_any s 12 w
  by_cases h1 : 1 ≤ s.size ∧ s.size ≤ 12
  · rw [size_ok s 12 h1, Bool.true_and] at hr
    have e1 := size_ok s 12 h1
    rw [show (((12 : Nat) : Int)) = 12 from rfl] at e1
    rw [e1] at hsz
    clear e1
    have HSZ := Lib.hid hsz
    clear hsz
    have hpos : 0 < s.size := by omega
    have hf := at_getD s 0 hpos
    rw [← hf] at hr
    clear hf hsl h1
    rw [hr]
    clear hr
    generalize hB : s[0]'hpos = b at *
    cases hl : letter b with
    | false =>
      rw [Bool.false_and]
      go_enter Tryz.func153, Tryz.ntmps153
      go_wp2_with fail
      refine HSZ.out.mono ?_
      rintro e w1 ⟨rfl, hw⟩
      subst hw
      go_wp2_with fail
      refine (letter_any b _).mono ?_
      rintro e w2 ⟨rfl, hw⟩
      subst hw
      rw [hl]
      go_wp2
      go_returns
      exact ⟨rfl, rfl⟩
    | true =>
      rw [Bool.true_and]
      go_enter Tryz.func153, Tryz.ntmps153
      go_wp2_with fail
      refine HSZ.out.mono ?_
      rintro e w1 ⟨rfl, hw⟩
      subst hw
      go_wp2_with fail
      refine (letter_any b _).mono ?_
      rintro e w2 ⟨rfl, hw⟩
      subst hw
      rw [hl]
      go_wp2_with fail
      refine (HON.out _).mono ?_
      rintro e w3 ⟨rfl, hw⟩
      subst hw
      go_wp2
      go_returns
      exact ⟨rfl, rfl⟩
  · rw [size_no s 12 h1, Bool.false_and, Bool.false_and] at hr
    have e1 := size_no s 12 h1
    rw [show (((12 : Nat) : Int)) = 12 from rfl] at e1
    rw [e1] at hsz
    clear e1
    have HSZ := Lib.hid hsz
    clear hsz
    rw [hr]
    clear hr hsl
    go_enter Tryz.func153, Tryz.ntmps153
    go_wp2_with fail
    refine HSZ.out.mono ?_
    rintro e w1 ⟨rfl, hw⟩
    subst hw
    go_wp2
    go_returns
    exact ⟨rfl, rfl⟩

theorem right_iff (l : List UInt8) : right l = true ↔ 1 ≤ l.length ∧ l.length ≤ 12 ∧ ∀ j (hj : j < l.length), (if j = 0 then letter l[j] else word l[j]) = true := by
  unfold right
  simp only [Bool.and_eq_true, decide_eq_true_iff, List.all_eq_true]
  constructor
  · rintro ⟨⟨⟨h1, h2⟩, h3⟩, h4⟩
    refine ⟨h1, h2, fun j hj => ?_⟩
    split
    · rename_i h0
      subst h0
      rw [List.getD_eq_getElem?_getD, List.getElem?_eq_getElem hj] at h3
      exact h3
    · exact h4 _ (List.getElem_mem hj)
  · rintro ⟨h1, h2, h3⟩
    have h0 := h3 0 (by omega)
    rw [if_pos rfl] at h0
    refine ⟨⟨⟨h1, h2⟩, ?_⟩, fun x hx => ?_⟩
    · rw [List.getD_eq_getElem?_getD, List.getElem?_eq_getElem (by omega)]
      exact h0
    · obtain ⟨j, hj, rfl⟩ := List.getElem_of_mem hx
      by_cases hj0 : j = 0
      · subst hj0
        unfold word
        rw [h0]
        rfl
      · have := h3 j hj
        rwa [if_neg hj0] at this
theorem right_no (l : List UInt8) (j : Nat) (hj : j < l.length) (h : (if j = 0 then letter l[j] else word l[j]) = false) : right l = false := by
  cases hr : right l with
  | false => rfl
  | true =>
    have := ((right_iff l).1 hr).2.2 j hj
    rw [h] at this
    cases this

set_option maxRecDepth 100000 in
set_option maxHeartbeats 2000000 in
theorem rright_any (s : ByteArray) (hs : s.size ≤ 9223372036854775807) (w : World) : Calls Tryz.prog 129 #[.string s] w fun e w' => e = .returned (.bool (right s.data.toList)) ∧ w' = w := by
  have hsl := size_len s
  by_cases h0 : s.size = 0
  · have hr : right s.data.toList = false := by
      unfold right
      rw [decide_eq_false (by omega)]
      rfl
    rw [hr]
    have h0' : (s.size : Int) = 0 := by omega
    go_enter Tryz.func129, Tryz.ntmps129
    go_wp2
    go_returns
    exact ⟨rfl, rfl⟩
  by_cases h12 : 12 < s.size
  · have hr : right s.data.toList = false := by
      unfold right
      rw [decide_eq_false (show ¬ s.data.toList.length ≤ 12 by omega), Bool.and_false]
      rfl
    rw [hr]
    have h0' : ¬ (s.size : Int) = 0 := by omega
    have h1' : (12 : Int) < (s.size : Int) := by omega
    go_enter Tryz.func129, Tryz.ntmps129
    go_wp2
    go_returns
    exact ⟨rfl, rfl⟩
  have h0' : ¬ (s.size : Int) = 0 := by omega
  have h1' : ¬ (12 : Int) < (s.size : Int) := by omega
  go_enter Tryz.func129, Tryz.ntmps129
  go_wp2
  go_loopg [3] s.size (fun g s3 wx => ∃ k : Nat, k + g = s.size ∧ s3 = .int .i64 k ∧ Hid (∀ j (hj : j < k) (hk : j < s.data.toList.length), (if j = 0 then letter s.data.toList[j] else word s.data.toList[j]) = true) ∧ wx = w)
  case atStart => exact ⟨0, by omega, rfl, Lib.hid (fun j hj => absurd hj (by omega)), rfl⟩
  case round =>
    obtain ⟨k, hkg, rfl, HI, rfl⟩ := hrel
    cases gk with
    | zero =>
      have hkz : ¬ ((k : Int) < (s.size : Int)) := by omega
      go_wp2
      go_returns
      refine ⟨?_, rfl⟩
      rw [(right_iff s.data.toList).2 ⟨by omega, by omega, fun j hj => HI.out j (by omega) hj⟩]
      rfl
    | succ g =>
      have hkz : (k : Int) < (s.size : Int) := by omega
      have hb := byte_at s k (by omega)
      generalize hB : s[k]'(by omega) = b at *
      have HB := Lib.hid hb
      clear hb
      have hlt := b.toNat_lt
      have HF := Lib.hid (fun (h : (if k = 0 then letter b else word b) = false) => right_no s.data.toList k (by omega) (by rw [← HB.out]; exact h))
      have HN : Hid ((if k = 0 then letter b else word b) = true → ∀ j (hj : j < k + 1) (hk : j < s.data.toList.length), (if j = 0 then letter s.data.toList[j] else word s.data.toList[j]) = true) := Lib.hid fun h j hj hk => by
        by_cases hjk : j = k
        · subst hjk
          rw [← HB.out]
          exact h
        · exact HI.out j (by omega) hk
      by_cases ha : 97 ≤ b.toNat ∧ b.toNat ≤ 122
      · have e1 : (97 : Int) ≤ (b.toNat : Int) := by omega
        have e2 : (b.toNat : Int) ≤ 122 := by omega
        have hl : letter b = true := by unfold letter; simp; omega
        go_wp2
        go_roundg g
        case measure => omega
        case rel => exact ⟨k + 1, by omega, by first | rfl | simp, Lib.hid (HN.out (by split; exact hl; unfold word; rw [hl]; rfl)), rfl⟩
      · have hl : letter b = false := by
          unfold letter
          rw [Bool.and_eq_false_iff, decide_eq_false_iff_not, decide_eq_false_iff_not]
          omega
        by_cases hk0 : k = 0
        · have hres := HF.out (by rw [if_pos hk0]; exact hl)
          have HRES := Lib.hid hres
          clear hres
          subst hk0
          by_cases e1 : (97 : Int) ≤ (b.toNat : Int)
          · have e2 : ¬ (b.toNat : Int) ≤ 122 := by omega
            go_wp2
            go_returns
            refine ⟨?_, rfl⟩
            rw [HRES.out]
            rfl
          · go_wp2
            go_returns
            refine ⟨?_, rfl⟩
            rw [HRES.out]
            rfl
        · have hk0' : ¬ (k : Int) = 0 := by omega
          by_cases hd : 48 ≤ b.toNat ∧ b.toNat ≤ 57
          · have hw : word b = true := by unfold word digit; rw [hl]; simp; omega
            have d1 : ¬ (b.toNat : Int) < 48 := by omega
            have d2 : ¬ (57 : Int) < (b.toNat : Int) := by omega
            have e1 : ¬ (97 : Int) ≤ (b.toNat : Int) := by omega
            go_wp2
            go_roundg g
            case measure => omega
            case rel => exact ⟨k + 1, by omega, by first | rfl | simp, Lib.hid (HN.out (by rw [if_neg hk0]; exact hw)), rfl⟩
          · have hw : word b = false := by
              unfold word digit
              rw [hl, Bool.false_or, Bool.and_eq_false_iff, decide_eq_false_iff_not, decide_eq_false_iff_not]
              omega
            have HRES := Lib.hid (HF.out (by rw [if_neg hk0]; exact hw))
            by_cases e1 : (97 : Int) ≤ (b.toNat : Int)
            · have e2 : ¬ (b.toNat : Int) ≤ 122 := by omega
              have d1 : ¬ (b.toNat : Int) < 48 := by omega
              have d2 : (57 : Int) < (b.toNat : Int) := by omega
              go_wp2
              go_returns
              refine ⟨?_, rfl⟩
              rw [HRES.out]
              rfl
            · by_cases d1 : (b.toNat : Int) < 48
              · go_wp2
                go_returns
                refine ⟨?_, rfl⟩
                rw [HRES.out]
                rfl
              · have d2 : (57 : Int) < (b.toNat : Int) := by omega
                go_wp2
                go_returns
                refine ⟨?_, rfl⟩
                rw [HRES.out]
                rfl

/-- The list sorted. -/
def sorted (ks : List (List UInt8)) : List (List UInt8) := ks.mergeSort fun x y => decide (x ≤ y)
theorem sorted_length (ks : List (List UInt8)) : (sorted ks).length = ks.length := List.length_mergeSort ks
/-- Are no two the same? -/
def apart (ks : List (List UInt8)) : Bool := decide ((Lib.compact (sorted ks)).length = ks.length)
def lists (zs : List ByteArray) : List (List UInt8) := zs.map (·.data.toList)
theorem lists_enc (zs : List ByteArray) : zs.map Value.string = (lists zs).map encStr := by
  unfold lists
  rw [List.map_map]
  refine List.map_congr_left fun s _ => ?_
  show Value.string s = Value.string _
  cases s
  simp

theorem one (w : World) (b off n c : Nat) (zs : List ByteArray) (hz : zs.length = n) (_hpos : 0 < n) (hbig : n * 16 ≤ 140737488355328)
    (hc : ∀ j, j < zs.length → w.cell? ⟨b, off + j, none⟩ = some (.string (zs.getD j ByteArray.empty))) :
    Calls Tryz.prog 154 #[.slice (some ⟨b, off, none⟩) n c] w fun e w' => ∃ g cap, e = .returned (.slice (some ⟨g, 0, none⟩) n cap) ∧ w.heap.size ≤ g ∧ g < w'.heap.size ∧ n ≤ cap ∧ Holds encStr w' g 0 (lists zs).toArray ∧ Grew w w' := by
  refine (Tryz.slices_Clone_string b off n c zs w (by omega) hbig hc).mono ?_
  rintro e w' ⟨v', rfl, hown, hne, hb⟩
  rw [List.take_of_length_le (by omega), lists_enc] at hown
  obtain ⟨g0, cap0, rfl, hbg, hgl, hncap, hcm, hlen, hH⟩ := Lib.holds_of_ownsRow hown hne
  exact ⟨g0, cap0, rfl, hbg, hgl, hncap, hH, hb⟩

set_option maxRecDepth 100000 in
theorem apart_any (w : World) (b off n c : Nat) (zs : List ByteArray) (hz : zs.length = n) (hpos : 0 < n) (hbig : n * 16 ≤ 140737488355328)
    (hc : ∀ j, j < zs.length → w.cell? ⟨b, off + j, none⟩ = some (.string (zs.getD j ByteArray.empty))) :
    Calls Tryz.prog 117 #[.slice (some ⟨b, off, none⟩) n c] w fun e w' => e = .returned (.bool (apart (lists zs))) ∧ Grew w w' := by
  have H1 := Lib.hid (one w b off n c zs hz hpos hbig hc)
  clear hc
  have hkl : (lists zs).length = n := by rw [lists, List.length_map, hz]
  unfold apart
  rw [hkl]
  generalize lists zs = ks at *
  have hsl := sorted_length ks
  go_enter Tryz.func117, Tryz.ntmps117
  go_wp2_with fail
  refine H1.out.mono ?_
  rintro e w1 ⟨g, cap, rfl, hg, hgl, hnc, hH, hb⟩
  have cSort := Tryz.slices_Sort_string g 0 cap ks w1 hH hgl (by omega)
  rw [hkl] at cSort
  have cComp : ∀ nn os, Calls Tryz.prog 156 #[.slice (some ⟨g, 0, none⟩) n cap] (grow (putRow encStr (Sort.ahead w1 nn) g 0 (sorted ks).toArray) os) fun e w' =>
      e = .returned (.slice (some ⟨g, 0, none⟩) (Lib.compact (sorted ks)).length cap) ∧ ∃ q, w' = putRow encStr (Sort.ahead (grow (putRow encStr (Sort.ahead w1 nn) g 0 (sorted ks).toArray) os) q) g 0 (Lib.compact (sorted ks) ++ List.replicate (n - (Lib.compact (sorted ks)).length) []).toArray := fun nn os => by
    have hH2 : Holds encStr (grow (putRow encStr (Sort.ahead w1 nn) g 0 (sorted ks).toArray) os) g 0 (sorted ks).toArray :=
      holds_grow encStr _ os g 0 _ (by simpa [putRow, mapBlock, Sort.ahead] using hgl) (holds_putRow encStr _ g 0 _ _ (holds_ahead encStr w1 nn g 0 _ hH) (by simp [hsl]))
    have := Tryz.slices_Compact_string g 0 cap (sorted ks) _ hH2 (by omega) (by omega)
    rwa [hsl, hkl] at this
  have HS := Lib.hid cSort
  have HC := Lib.hid cComp
  have HB := Lib.hid (show ∀ nn os q d, Grew w (putRow encStr (Sort.ahead (grow (putRow encStr (Sort.ahead w1 nn) g 0 (sorted ks).toArray) os) q) g 0 d) from fun nn os q d =>
    Lib.below_putRow ((show Below w.heap.size w w1 from hb).grown (grownBy_sorted _) hb.size (fun j hj => by cases hj; exact hg)) hg)
  clear hH hb cSort cComp H1
  go_wp2_with fail
  refine HS.out.mono ?_
  rintro e w2 ⟨rfl, nn, os, rfl⟩
  go_wp2_with fail
  refine (HC.out nn os).mono ?_
  rintro e w3 ⟨rfl, q, rfl⟩
  go_wp2
  go_returns
  refine ⟨?_, HB.out _ _ _ _⟩
  refine congrArg (fun x => Ending.returned (Value.bool x)) ?_
  rw [Bool.eq_iff_iff]
  simp
  try omega

theorem index_any (w : World) (b off n c : Nat) (zs : List ByteArray) (x : ByteArray) (hz : zs.length = n) (hbig : n ≤ 9223372036854775807)
    (hc : ∀ j, j < zs.length → w.cell? ⟨b, off + j, none⟩ = some (.string (zs.getD j ByteArray.empty))) :
    Calls Tryz.prog 60 #[.slice (some ⟨b, off, none⟩) n c, .string x] w fun e w' => e = .returned (.int .i64 (Lib.idxOfS zs x)) ∧ w' = w := by
  have h := Tryz.slices_Index_string b off n c zs x w (by omega) hbig hc
  rw [List.take_of_length_le (by omega)] at h
  have H := Lib.hid h
  clear h hc
  go_enter Tryz.func60, Tryz.ntmps60
  go_wp2_with fail
  refine H.out.mono ?_
  rintro e w1 ⟨rfl, hw⟩
  subst hw
  go_wp2
  go_returns
  exact ⟨rfl, rfl⟩

theorem firsts (zs : List ByteArray) : (∀ j, j < zs.length → Lib.idxOfS zs (zs.getD j ByteArray.empty) = j) ↔ zs.Nodup := by
  rw [List.nodup_iff_pairwise_ne, List.pairwise_iff_getElem]
  constructor
  · intro h i j hi hj hij e
    have h1 := h i hi
    have h2 := h j hj
    rw [List.getD_eq_getElem?_getD, List.getElem?_eq_getElem hi, Option.getD_some] at h1
    rw [List.getD_eq_getElem?_getD, List.getElem?_eq_getElem hj, Option.getD_some, ← e, h1] at h2
    omega
  · intro h j hj
    have := Lib.idxOfS_hit zs zs.length j (zs.getD j ByteArray.empty) hj (Nat.le_refl _) rfl fun i hi e => by
      rw [List.getD_eq_getElem?_getD, List.getElem?_eq_getElem (by omega), List.getD_eq_getElem?_getD, List.getElem?_eq_getElem hj] at e
      exact h i j (by omega) hj hi e
    rwa [List.take_length] at this
theorem lists_nodup (zs : List ByteArray) : (lists zs).Nodup ↔ zs.Nodup := by
  rw [List.nodup_iff_pairwise_ne, List.nodup_iff_pairwise_ne]
  unfold lists
  rw [List.pairwise_map]
  constructor
  · exact fun h => h.imp fun hn e => hn (by rw [e])
  · exact fun h => h.imp fun hn e => hn (ByteArray.ext (Array.toList_inj.mp e))
theorem apart_iff (zs : List ByteArray) : apart (lists zs) = true ↔ zs.Nodup := by
  unfold apart sorted
  rw [decide_eq_true_iff, ListsPure.apart_iff, lists_nodup]
theorem apart_nil : apart (lists []) = true := (apart_iff []).2 List.nodup_nil
/-- The slice v reads as the texts zs. -/
def Ts (w : World) (v : Value) (zs : List ByteArray) : Prop :=
  ∃ (A : Option Addr) (c : Nat), v = .slice A zs.length c ∧ (A = none → zs = []) ∧ ∀ ad, A = some ad → ∀ j, j < zs.length → w.cell? (ad.add j) = some (.string (zs.getD j ByteArray.empty))
theorem Ts.grew {w w' : World} {v : Value} {zs : List ByteArray} (h : Ts w v zs) (hg : Grew w w') : Ts w' v zs := by
  obtain ⟨A, c, rfl, hA, hc⟩ := h
  exact ⟨A, c, rfl, hA, fun ad ha j hj => cellG hg (hc ad ha j hj)⟩

theorem index_all (w : World) (v : Value) (zs : List ByteArray) (x : ByteArray) (hl : zs.length ≤ 100) (h : Ts w v zs) :
    Calls Tryz.prog 60 #[v, .string x] w fun e w' => e = .returned (.int .i64 (Lib.idxOfS zs x)) ∧ w' = w := by
  obtain ⟨A, c, rfl, hA, hc⟩ := h
  by_cases h0 : zs.length = 0
  · have hz := List.eq_nil_of_length_eq_zero h0
    subst hz
    clear hc hA h0 hl
    have H := Lib.hid (Tryz.slices_Index_string_empty A c x w)
    simp only [List.length_nil]
    go_enter Tryz.func60, Tryz.ntmps60
    go_wp2_with fail
    refine H.out.mono ?_
    rintro e w1 ⟨rfl, hw⟩
    subst hw
    go_wp2
    go_returns
    exact ⟨rfl, rfl⟩
  · cases A with
    | none => rw [hA rfl] at h0; exact absurd rfl h0
    | some ad =>
      obtain ⟨b, off, spot⟩ := ad
      have hspot : spot = none := by simpa [Addr.add] using World.cell?_spot (hc _ rfl 0 (by omega))
      subst hspot
      exact index_any w b off zs.length c zs x rfl (by omega) (fun j hj => by have := hc _ rfl j hj; rwa [WideShapes.add_plain] at this)

set_option maxRecDepth 100000 in
theorem apart_all (w : World) (v : Value) (zs : List ByteArray) (hl : zs.length ≤ 100) (h : Ts w v zs) :
    Calls Tryz.prog 117 #[v] w fun e w' => e = .returned (.bool (apart (lists zs))) ∧ Grew w w' := by
  obtain ⟨A, c, rfl, hA, hc⟩ := h
  by_cases h0 : zs.length = 0
  · have hz := List.eq_nil_of_length_eq_zero h0
    subst hz
    rw [apart_nil]
    clear hc hA h0 hl
    simp only [List.length_nil]
    cases A with
    | none =>
      have H1 := Lib.hid (Tryz.slices_Clone_string_nil 0 c w)
      have H2 := Lib.hid (fun W => Tryz.slices_Sort_string_none none 0 W)
      have H3 := Lib.hid (fun W => Tryz.slices_Compact_string_empty none 0 W)
      go_enter Tryz.func117, Tryz.ntmps117
      go_wp2_with fail
      refine H1.out.mono ?_
      rintro e w1 ⟨rfl, hw⟩
      subst hw
      go_wp2_with fail
      refine (H2.out _).mono ?_
      rintro e w1 ⟨rfl, hw⟩
      subst hw
      go_wp2_with fail
      refine (H3.out _).mono ?_
      rintro e w1 ⟨rfl, hw⟩
      subst hw
      go_wp2
      go_returns
      exact ⟨rfl, Grew.refl _⟩
    | some a =>
      have H1 := Lib.hid (Tryz.slices_Clone_string_zero a c w)
      have H2 := Lib.hid (fun p cap W => Tryz.slices_Sort_string_none p cap W)
      have H3 := Lib.hid (fun p cap W => Tryz.slices_Compact_string_empty p cap W)
      go_enter Tryz.func117, Tryz.ntmps117
      go_wp2_with fail
      refine H1.out.mono ?_
      rintro e w1 ⟨v', rfl, hown, hne, hg⟩
      have HG : Hid (Grew w w1) := Lib.hid hg
      obtain ⟨p, cap, rfl⟩ : ∃ p cap, v' = .slice p 0 cap := by
        rcases hown.2 with ⟨rfl, _⟩ | ⟨g, cap, cur, rfl, _⟩
        · exact ⟨_, _, rfl⟩
        · exact ⟨_, _, rfl⟩
      clear hown hne hg
      go_wp2_with fail
      refine (H2.out _ _ _).mono ?_
      rintro e w2 ⟨rfl, hw⟩
      subst hw
      go_wp2_with fail
      refine (H3.out _ _ _).mono ?_
      rintro e w2 ⟨rfl, hw⟩
      subst hw
      go_wp2
      go_returns
      exact ⟨rfl, HG.out⟩
  · cases A with
    | none => rw [hA rfl] at h0; exact absurd rfl h0
    | some ad =>
      obtain ⟨b, off, spot⟩ := ad
      have hspot : spot = none := by simpa [Addr.add] using World.cell?_spot (hc _ rfl 0 (by omega))
      subst hspot
      exact apart_any w b off zs.length c zs rfl (by omega) (by omega) (fun j hj => by have := hc _ rfl j hj; rwa [WideShapes.add_plain] at this)

end Go.Proofs.YtmegdgeiikhflaaGreat.Names
