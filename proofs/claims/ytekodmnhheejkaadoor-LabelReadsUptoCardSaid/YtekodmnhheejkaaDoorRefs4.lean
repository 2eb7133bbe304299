/-
  The document's own texts and bytes of labels: digits, numbers, a label's text, its bytes, and the label of bytes.
  Conditions: none beyond those that each lemma names.
-/
import Derived.Test.YtekodmnhheejkaaDoorRefs3
import Derived.Test.YtekodmnhheejkaaDoorBackPure
import Derived.Test.YtekodmnhheejkaaDoorTextPure
import Derived.Lib.SlicesS
namespace Go.Proofs.YtekodmnhheejkaaDoor.Refs4
open Go Go.RowKit Go.Lib Go.Proofs.YtekodmnhheejkaaDoor Go.Proofs.YtekodmnhheejkaaDoor.Facts Go.Proofs.YtekodmnhheejkaaDoor.Plain Go.Proofs.YtekodmnhheejkaaDoor.Comps Go.Proofs.YtekodmnhheejkaaDoor.Bytes Go.Proofs.YtekodmnhheejkaaDoor.Print Go.Proofs.YtekodmnhheejkaaDoor.Parse Go.Proofs.YtekodmnhheejkaaDoor.Form Go.Proofs.YtekodmnhheejkaaDoor.Text Go.Proofs.YtekodmnhheejkaaDoor.Refs Go.Proofs.YtekodmnhheejkaaDoor.TextPure

theorem lit_rd (w : World) (l : List UInt8) (hl : l.length ≤ maxLen) : Rd (fun _ => True) (w.alloc (.cells (bv l).toArray 5)) (.slice (some ⟨w.heap.size, 0, none⟩) l.length l.length) l := by
  refine ⟨some ⟨w.heap.size, 0, none⟩, l.length, rfl, Nat.le_refl _, hl, (fun h => by cases h), fun ad ha => ⟨fun _ => trivial, fun j u hu => ?_⟩⟩
  cases ha
  rw [WideShapes.add_plain, Nat.zero_add, World.cell?_alloc_mark]
  simpa using hu

set_option maxRecDepth 100000 in
theorem digits_any (n : Nat) (hn : n < 100) (w : World) : Calls Tryd.prog 41 #[.int .i64 n] w fun e w' => e = .returned (.string ⟨(Lib.decDigits n).toArray⟩) ∧ Grew w w' := by
  by_cases h9 : n < 10
  · have h9' : ¬ (9 : Int) < (n : Int) := by omega
    have hm : (n : Int) % 10 = n := by omega
    have hcv : (convert 37 9 (.slice (some ⟨w.heap.size, 0, none⟩) 1 1)).run Tryd.prog (w.alloc (.cells #[.int .u8 (48 + (n : Int))] 5)) = .ok (.string ⟨(Lib.decDigits n).toArray⟩) (w.alloc (.cells #[.int .u8 (48 + (n : Int))] 5)) := by
      have hr := lit_rd w [UInt8.ofNat (48 + n)] (by show 1 ≤ maxLen; unfold maxLen; omega)
      have he : ((UInt8.ofNat (48 + n)).toNat : Int) = 48 + (n : Int) := by rw [UInt8.toNat_ofNat']; omega
      have hb : (bv [UInt8.ofNat (48 + n)]).toArray = #[.int .u8 (48 + (n : Int))] := by simp only [bv, List.map_cons, List.map_nil, he]
      rw [hb] at hr
      rw [decDigits_one h9]
      exact run_toString (P := Tryd.prog) _ Tryd.underlying37 Tryd.underlying5 Tryd.underlying9 hr
    have HC := Lib.hid hcv
    clear hcv
    generalize (⟨(Lib.decDigits n).toArray⟩ : ByteArray) = s at *
    have hc := HC.out
    go_enter Tryd.func41, Tryd.ntmps41
    go_wp2
    go_returns
    exact ⟨rfl, by unfold Grew; go_grown⟩
  · have h9' : (9 : Int) < (n : Int) := by omega
    have hcv : (convert 37 9 (.slice (some ⟨(w.alloc (.cells #[.int .u8 (48 + (n : Int) % 10)] 5)).heap.size, 0, none⟩) 2 2)).run Tryd.prog ((w.alloc (.cells #[.int .u8 (48 + (n : Int) % 10)] 5)).alloc (.cells #[.int .u8 (48 + (n : Int) / 10), .int .u8 (48 + (n : Int) % 10)] 5)) = .ok (.string ⟨(Lib.decDigits n).toArray⟩) ((w.alloc (.cells #[.int .u8 (48 + (n : Int) % 10)] 5)).alloc (.cells #[.int .u8 (48 + (n : Int) / 10), .int .u8 (48 + (n : Int) % 10)] 5)) := by
      have hr := lit_rd (w.alloc (.cells #[.int .u8 (48 + (n : Int) % 10)] 5)) [UInt8.ofNat (48 + n / 10), UInt8.ofNat (48 + n % 10)] (by show 2 ≤ maxLen; unfold maxLen; omega)
      have he : ((UInt8.ofNat (48 + n / 10)).toNat : Int) = 48 + (n : Int) / 10 := by rw [UInt8.toNat_ofNat']; omega
      have he2 : ((UInt8.ofNat (48 + n % 10)).toNat : Int) = 48 + (n : Int) % 10 := by rw [UInt8.toNat_ofNat']; omega
      have hb : (bv [UInt8.ofNat (48 + n / 10), UInt8.ofNat (48 + n % 10)]).toArray = #[.int .u8 (48 + (n : Int) / 10), .int .u8 (48 + (n : Int) % 10)] := by simp only [bv, List.map_cons, List.map_nil, he, he2]
      rw [hb] at hr
      rw [decDigits_two h9 hn]
      exact run_toString (P := Tryd.prog) _ Tryd.underlying37 Tryd.underlying5 Tryd.underlying9 hr
    rw [World.size_alloc] at hcv
    have HC := Lib.hid hcv
    clear hcv
    generalize (⟨(Lib.decDigits n).toArray⟩ : ByteArray) = s at *
    have hc := HC.out
    go_enter Tryd.func41, Tryd.ntmps41
    go_wp2
    go_returns
    exact ⟨rfl, by unfold Grew; go_grown⟩

theorem num_first (l : List UInt8) (k : Nat) (hk : k < 64) (h : Lib.decDigits k = l) : numOf l 64 = some k := by
  rw [← h]
  exact num64_fin ⟨k, hk⟩
theorem num_none (l : List UInt8) (h : ∀ j, j < 64 → Lib.decDigits j ≠ l) : numOf l 64 = none := by
  unfold numOf
  rw [List.find?_eq_none]
  intro n hn
  simpa using h n (List.mem_range.1 hn)
/-- The number that a word is; -1: it is none. -/
def nw (l : List UInt8) : Int := match numOf l 64 with | some k => (k : Int) | none => -1
theorem nw_some {l : List UInt8} {k : Nat} (h : numOf l 64 = some k) : nw l = k := by unfold nw; rw [h]
theorem nw_none {l : List UInt8} (h : numOf l 64 = none) : nw l = -1 := by unfold nw; rw [h]
theorem bytes_eq (l : List UInt8) (s : ByteArray) : (⟨l.toArray⟩ : ByteArray) = s ↔ l = s.data.toList := by
  constructor
  · rintro rfl; simp
  · intro h; apply ByteArray.ext; apply Array.toList_inj.mp; simpa using h

set_option maxRecDepth 100000 in
theorem number2_any (s : ByteArray) (w : World) : Calls Tryd.prog 39 #[.string s] w fun e w' => e = .returned (.int .i64 (nw s.data.toList)) ∧ Grew w w' := by
  have HF := Lib.hid (num_first s.data.toList)
  have HN := Lib.hid (num_none s.data.toList)
  have HQ : Hid (∀ k, (⟨(Lib.decDigits k).toArray⟩ : ByteArray) = s ↔ Lib.decDigits k = s.data.toList) := Lib.hid fun k => bytes_eq _ s
  have HS := Lib.hid (fun k (h : numOf s.data.toList 64 = some k) => nw_some h)
  have HO := Lib.hid (fun (h : numOf s.data.toList 64 = none) => nw_none h)
  generalize nw s.data.toList = r at *
  go_enter Tryd.func39, Tryd.ntmps39
  go_wp2
  go_loopg [3] 64 (fun g s3 wx => ∃ k : Nat, k + g = 64 ∧ s3 = .int .i64 k ∧ Hid (∀ j, j < k → Lib.decDigits j ≠ s.data.toList) ∧ Hid (Grew w wx))
  case atStart => exact ⟨0, by omega, rfl, Lib.hid (fun j hj => absurd hj (by omega)), Lib.hid (Grew.refl _)⟩
  case round =>
    obtain ⟨k, hkg, rfl, HI, HG⟩ := hrel
    cases gk with
    | zero =>
      have hkz : ¬ ((k : Int) < 64) := by omega
      have HR := Lib.hid (HO.out (HN.out fun j hj => HI.out j (by omega)))
      go_wp2
      go_returns
      refine ⟨?_, HG.out⟩
      rw [HR.out]
      try rfl
    | succ g =>
      have hkz : (k : Int) < 64 := by omega
      have HD := Lib.hid (digits_any k (by omega))
      have hq := HQ.out k
      generalize (⟨(Lib.decDigits k).toArray⟩ : ByteArray) = d at HD hq
      by_cases he : d = s
      · have HR := Lib.hid (HS.out _ (HF.out k (by omega) (hq.1 he)))
        have hb : (d.toList == s.toList) = true := (Lib.bytes_beq_iff _ _).2 he
        clear hq
        go_wp2_with fail
        refine (HD.out _).mono ?_
        rintro e w1 ⟨rfl, hg⟩
        have HG2 := Lib.hid (HG.out.trans hg)
        clear hg he
        go_wp2
        go_returns
        refine ⟨?_, HG2.out⟩
        rw [HR.out]
        try rfl
      · have HT : Hid (∀ j, j < k + 1 → Lib.decDigits j ≠ s.data.toList) := Lib.hid fun j hj => by
          by_cases e : j = k
          · subst e; exact fun h => he (hq.2 h)
          · exact HI.out j (by omega)
        have hb : (d.toList == s.toList) = false := (Lib.bytes_beq_false_iff _ _).2 he
        clear hq he
        go_wp2_with fail
        refine (HD.out _).mono ?_
        rintro e w1 ⟨rfl, hg⟩
        have HG2 := Lib.hid (HG.out.trans hg)
        clear hg
        go_wp2
        go_roundg g
        case measure => omega
        case rel => exact ⟨k + 1, by omega, by first | rfl | simp, HT, HG2⟩
end Go.Proofs.YtekodmnhheejkaaDoor.Refs4
