/-
  The document's own disk: its rows of texts, one text set, the fuse that burns.
  Conditions: none beyond those that each lemma names.
-/
import Derived.Test.YtbnicphegbdfnaaDAlive
namespace Go.Proofs.Ytbnicphegbdfnaa.DRefA
set_option maxRecDepth 100000
set_option maxRecDepth 100000
open Go Go.RowKit Go.Proofs.Ytbnicphegbdfnaa Go.Proofs.Ytbnicphegbdfnaa.Facts Go.Proofs.Ytbnicphegbdfnaa.Bytes Go.Proofs.Ytbnicphegbdfnaa.DKeep

/-- A text of these bytes. -/
def sv (B : Sec) : Value := .string ⟨B.toArray⟩
def svs (l : List Sec) : List Value := l.map sv
theorem svs_length (l : List Sec) : (svs l).length = l.length := by simp [svs]
theorem svs_one (l : List Sec) : ∀ u ∈ svs l, u.oneCell' = true := by
  intro u hu
  obtain ⟨B, _, rfl⟩ := List.mem_map.1 hu
  rfl
/-- A row of texts. -/
def SR (w : World) (v : Value) (l : List Sec) : Prop := ∃ A c, v = .slice A l.length c ∧ l.length ≤ c ∧ c ≤ 9223372036854775807 ∧ (A = none → c = 0) ∧ ∀ ad, A = some ad → ∀ (j : Nat) (B : Sec), l[j]? = some B → w.cell? (ad.add j) = some (sv B)
theorem SR.grew {w w' : World} {v : Value} {l : List Sec} (h : SR w v l) (hg : Grew w w') : SR w' v l := by
  obtain ⟨A, c, rfl, h1, h2, h3, h4⟩ := h
  exact ⟨A, c, rfl, h1, h2, h3, fun ad ha j B hB => DWrite.cellB hg (h4 ad ha j B hB)⟩
theorem SR.of_own {w : World} {b e : Nat} {v : Value} {l : List Sec} (h : w.ownsRow b e 1 v l.length (svs l)) : SR w v l := by
  rcases h.2 with ⟨rfl, hx⟩ | ⟨g, cap, cur, rfl, hb, hg, hc, hm, hs, ht⟩
  · have : l = [] := by simpa [svs] using hx
    subst this
    exact ⟨none, 0, rfl, Nat.le_refl _, Nat.zero_le _, fun _ => rfl, fun ad ha => by cases ha⟩
  · refine ⟨some ⟨g, 0, none⟩, cap, rfl, hc, hm, (fun h => by cases h), fun ad ha j B hB => ?_⟩
    cases ha
    have hj : j < l.length := (List.getElem?_eq_some_iff.1 hB).1
    rw [Addr.add_mid, Nat.zero_add, cell_of_row _ _ _ _ _ _ hg]
    have hx : (svs l)[j]? = some (sv B) := by simp [svs, hB]
    rw [← ht, List.getElem?_take_of_lt (by omega)] at hx
    simpa using hx

/-- The document's disk as a value. -/
def dv (A1 A2 A3 : Option Addr) (n1 n2 n3 c1 c2 c3 : Nat) (f : Int) (o : Bool) : Value := .agg #[.slice A1 n1 c1, .slice A2 n2 c2, .slice A3 n3 c3, .int .i64 f, .bool o]
theorem burns_any (A1 A2 A3 : Option Addr) (n1 n2 n3 c1 c2 c3 : Nat) (f : Int) (o : Bool) (w : World) (hf : f ≤ 9223372036854775807) (hf2 : -9223372036854775808 ≤ f) :
    Calls Try.prog 73 #[dv A1 A2 A3 n1 n2 n3 c1 c2 c3 f o] w fun e w' => e = .returned (dv A1 A2 A3 n1 n2 n3 c1 c2 c3 (if 0 ≤ f then f - 1 else f) (o || f == 0)) ∧ Grew w w' := by
  unfold dv
  by_cases h0 : f = 0
  · subst h0
    go_enter Try.func73, Try.ntmps73
    go_wp2
    go_returns
    exact ⟨by simp, by unfold Grew; go_grown⟩
  · have h1 : (f == 0) = false := by simpa using h0
    by_cases h2 : 0 ≤ f
    · go_enter Try.func73, Try.ntmps73
      go_wp2
      go_returns
      exact ⟨by simp, by unfold Grew; go_grown⟩
    · go_enter Try.func73, Try.ntmps73
      go_wp2
      go_returns
      exact ⟨by simp, by unfold Grew; go_grown⟩

theorem parts9 : ∃ i z, Try.prog.info? 9 = some i ∧ i.zero = some z ∧ i.size = 1 ∧ i.bytes = 16 ∧ z.cells.size = 1 := by
  have h : (Try.prog.info? 9).map (fun i => (i.zero.map (·.cells.size), i.size, i.bytes)) = some (some 1, 1, 16) := by kernel_rfl
  cases hq : Try.prog.info? 9 with
  | none => simp [hq] at h
  | some i =>
    cases hz : i.zero with
    | none => simp [hq, hz] at h
    | some z => simp [hq, hz] at h; exact ⟨i, z, rfl, hz, h.2.1, h.2.2, h.1⟩
theorem set_snoc (l : List Sec) (n i : Nat) (B : Sec) (hi : i < l.length) : (l.set n B).take (i + 1) = (l.set n B).take i ++ [if i = n then B else l[i]?.getD []] := by
  rw [List.take_add_one]
  congr 1
  rw [List.getElem?_set]
  by_cases e : n = i
  · subst e; simp [hi]
  · rw [if_neg e, if_neg (Ne.symm e), List.getElem?_eq_getElem hi]; rfl
theorem own_gen {w w' : World} {b e m n : Nat} {v : Value} {xs : List Value} (h : w.ownsRow b e m v n xs) (hg : Grew w w') : w'.ownsRow b e m v n xs := by
  refine ⟨h.1, ?_⟩
  rcases h.2 with h2 | ⟨g, cap, cur, rfl, hb, hgg, h3⟩
  · exact .inl h2
  · exact .inr ⟨g, cap, cur, rfl, hb, DWrite.keepB hgg hg, h3⟩
theorem rdy_of {w w' : World} {b e n : Nat} {v : Value} {l : List Value} (h : w.ownsRow b e 1 v n l) (hn : n = l.length) (hg : Grew w w') : Rdy w' b e v l := by
  subst hn
  exact .inl (own_gen h hg)
theorem one_new (w : World) (x : Value) (e : TypeId) : ∀ j u, [x][j]? = some u → (w.alloc (.cells #[x] e)).cell? ((⟨w.heap.size, 0, none⟩ : Addr).add j) = some u := fun j u hu => by
  rw [Addr.add_mid, cell_of_row _ _ _ _ _ _ (heap_alloc_new w _), Nat.zero_add]
  simpa using hu
theorem Gr {w w1 w2 : World} (h : Grew w w1) (k : Below w.heap.size w1 w2) : Grew w w2 := (show Below w.heap.size w w1 from h).trans k
theorem grew_new {w : World} (o : Obj) : Grew w (w.alloc o) := (Below.refl _ w).alloc (Nat.le_refl _) o
set_option maxHeartbeats 4000000 in
theorem with_any (n : Nat) (B : Sec) (v : Value) (l : List Sec) (w : World) (h : SR w v l) (hl : l.length ≤ 16384) (hn : n ≤ 16384) :
    Calls Try.prog 72 #[v, .int .i64 (n : Int), sv B] w fun e w' => ∃ v', e = .returned v' ∧ w'.ownsRow w.heap.size 9 1 v' l.length (svs (l.set n B)) ∧ Grew w w' := by
  obtain ⟨i9, z9, hi9, hz9, hs9, hb9, hzs9⟩ := parts9
  obtain ⟨A, c, rfl, h1, h2, h3, h4⟩ := h
  have HC := Lib.hid h4
  clear h4
  unfold sv
  go_enter Try.func72, Try.ntmps72
  go_wp2
  go_loopg [7, 8] l.length (fun q s7 s8 wx => ∃ (i : Nat) (v7 : Value), i + q = l.length ∧ s8 = .int .i64 i ∧ s7 = v7 ∧ Hid (wx.ownsRow w.heap.size 9 1 v7 i (svs ((l.set n B).take i))) ∧ Hid (Grew w wx))
  case atStart => exact ⟨0, _, by omega, rfl, rfl, Lib.hid (World.ownsRow_nil w _ _ _), Lib.hid (Grew.refl _)⟩
  case round =>
    obtain ⟨i, v7, hiq, rfl, rfl, HO, HG⟩ := hrel
    cases gk with
    | succ q =>
      have hil : (i : Int) < (l.length : Int) := by omega
      have hil2 : i < l.length := by omega
      by_cases e : i = n
      · subst e
        have hrd := rdy_of HO.out (show i = (svs ((l.set i B).take i)).length by rw [svs_length, List.length_take, List.length_set]; omega) (grew_new (w := wr) (.cells #[(.string ⟨B.toArray⟩)] 9))
        have HRD := Lib.hid hrd
        clear hrd HO
        go_wp2_with (at_builtin; refine wpList_append_rdy _ rfl (.tmp 18) (.tmp 20) 46 rfl w.heap.size 9 i9 z9 16 Try.underlying46 hi9 hz9 hs9 hb9 hzs9 _ _ rfl HRD.out ⟨wr.heap.size, 0, none⟩ 1 1 [(.string ⟨B.toArray⟩)] rfl rfl (by simp) (one_new _ _ _) ?c2 ?c3 ?c4 ?c5 ?_)
        case c2 => intro u hu; simp at hu; subst hu; rfl
        case c3 => rw [svs_length, List.length_take, List.length_set, List.length_singleton]; unfold maxLen; omega
        case c4 => rw [svs_length, List.length_take, List.length_set, List.length_singleton]; omega
        case c5 => exact Nat.le_trans HG.out.size (by simp)
        intro v' w1 hown hbel
        have HG1 := Lib.hid (Gr (HG.out.trans (grew_new (w := wr) _)) hbel)
        have HO1 : Hid (w1.ownsRow w.heap.size 9 1 v' (i + 1) (svs ((l.set i B).take (i + 1)))) := Lib.hid (by
          have e : svs ((l.set i B).take (i + 1)) = svs ((l.set i B).take i) ++ [(.string ⟨B.toArray⟩)] := by
            rw [set_snoc l i i B hil2, if_pos rfl, svs, List.map_append]
            rfl
          rw [e]
          have h := hown
          rwa [svs_length, List.length_take, List.length_set, Nat.min_eq_left (by omega)] at h)
        clear hown hbel HRD HG
        go_wp2
        go_roundg q
        case measure => omega
        case rel => exact ⟨i + 1, v', by omega, by first | rfl | simp | (simp; omega), rfl, HO1, HG1⟩
      · have hne : ¬ ((i : Int) = (n : Int)) := by omega
        obtain ⟨x, hx⟩ : ∃ x, l[i]? = some x := ⟨_, List.getElem?_eq_getElem hil2⟩
        obtain ⟨ad, rfl⟩ : ∃ ad, A = some ad := by
          cases A with
          | none => have := h3 rfl; omega
          | some ad => exact ⟨ad, rfl⟩
        have hcell : wr.cell? (ad.add i) = some (.string ⟨x.toArray⟩) := DWrite.cellB HG.out (HC.out ad rfl i x hx)
        have hrd := rdy_of HO.out (show i = (svs ((l.set n B).take i)).length by rw [svs_length, List.length_take, List.length_set]; omega) (grew_new (w := wr) (.cells #[(.string ⟨x.toArray⟩)] 9))
        have HRD := Lib.hid hrd
        clear hrd HO
        go_wp2_with (at_builtin; refine wpList_append_rdy _ rfl (.tmp 22) (.tmp 27) 46 rfl w.heap.size 9 i9 z9 16 Try.underlying46 hi9 hz9 hs9 hb9 hzs9 _ _ rfl HRD.out ⟨wr.heap.size, 0, none⟩ 1 1 [(.string ⟨x.toArray⟩)] rfl rfl (by simp) (one_new _ _ _) ?c2 ?c3 ?c4 ?c5 ?_)
        case c2 => intro u hu; simp at hu; subst hu; rfl
        case c3 => rw [svs_length, List.length_take, List.length_set, List.length_singleton]; unfold maxLen; omega
        case c4 => rw [svs_length, List.length_take, List.length_set, List.length_singleton]; omega
        case c5 => exact Nat.le_trans HG.out.size (by simp)
        intro v' w1 hown hbel
        have HG1 := Lib.hid (Gr (HG.out.trans (grew_new (w := wr) _)) hbel)
        have HO1 : Hid (w1.ownsRow w.heap.size 9 1 v' (i + 1) (svs ((l.set n B).take (i + 1)))) := Lib.hid (by
          have e : svs ((l.set n B).take (i + 1)) = svs ((l.set n B).take i) ++ [(.string ⟨x.toArray⟩)] := by
            rw [set_snoc l n i B hil2, if_neg e, hx, svs, List.map_append]
            rfl
          rw [e]
          have h := hown
          rwa [svs_length, List.length_take, List.length_set, Nat.min_eq_left (by omega)] at h)
        clear hown hbel HRD HG
        go_wp2
        go_roundg q
        case measure => omega
        case rel => exact ⟨i + 1, v', by omega, by first | rfl | simp | (simp; omega), rfl, HO1, HG1⟩
    | zero =>
      obtain rfl : i = l.length := by omega
      have hil : ¬ (l.length : Int) < (l.length : Int) := by omega
      have hOW := HO.out
      rw [List.take_of_length_le (by rw [List.length_set]; exact Nat.le_refl _)] at hOW
      have HOW := Lib.hid hOW
      clear hOW HO
      go_wp2
      go_ret
      exact ⟨_, rfl, HOW.out, HG.out⟩
end Go.Proofs.Ytbnicphegbdfnaa.DRefA
namespace Go.Proofs.Ytbnicphegbdfnaa.DRefB
set_option maxRecDepth 100000
set_option maxRecDepth 100000
open Go Go.RowKit Go.Proofs.Ytbnicphegbdfnaa Go.Proofs.Ytbnicphegbdfnaa.Facts Go.Proofs.Ytbnicphegbdfnaa.Bytes Go.Proofs.Ytbnicphegbdfnaa.DKeep Go.Proofs.Ytbnicphegbdfnaa.DRefA

section
variable (A1 A2 A3 : Option Addr) (n1 n2 n3 c1 c2 c3 : Nat) (f : Int) (o : Bool)
theorem rfused_any (n : Int) (w : World) : Calls Try.prog 31 #[dv A1 A2 A3 n1 n2 n3 c1 c2 c3 f o, .int .i64 n] w fun e w' => e = .returned (dv A1 A2 A3 n1 n2 n3 c1 c2 c3 (max n (-1)) o) ∧ Grew w w' := by
  unfold dv
  by_cases h : n < 0
  · go_enter Try.func31, Try.ntmps31
    go_wp2
    go_returns
    exact ⟨by rw [show max n (-1) = -1 by omega], by unfold Grew; go_grown⟩
  · go_enter Try.func31, Try.ntmps31
    go_wp2
    go_returns
    exact ⟨by rw [show max n (-1) = n by omega], by unfold Grew; go_grown⟩
/-- What a read answers. -/
def rread (l : List Sec) (off : Bool) (n : Int) : Sec × Int := if off then ([], 15) else if n < 0 ∨ (l.length : Int) ≤ n then ([], 16) else (l[n.toNat]?.getD [], 0)
end
end Go.Proofs.Ytbnicphegbdfnaa.DRefB
namespace Go.Proofs.Ytbnicphegbdfnaa.DRefC
set_option maxRecDepth 100000
set_option maxRecDepth 100000
open Go Go.RowKit Go.Proofs.Ytbnicphegbdfnaa Go.Proofs.Ytbnicphegbdfnaa.Facts Go.Proofs.Ytbnicphegbdfnaa.Bytes Go.Proofs.Ytbnicphegbdfnaa.DKeep Go.Proofs.Ytbnicphegbdfnaa.DRefA Go.Proofs.Ytbnicphegbdfnaa.DRefB

theorem size32 : (Try.prog.info? 49).map (·.size) = some 5 := by kernel_rfl
def d5 (A1 A2 A3 : Option Addr) (n1 n2 n3 c1 c2 c3 : Nat) (f : Int) (o : Bool) : List Value := [.slice A1 n1 c1, .slice A2 n2 c2, .slice A3 n3 c3, .int .i64 f, .bool o]
theorem store5 (W : World) (g : Nat) (cur : Array Value) (hg : W.heap[g]? = some (.cells cur 49 (0, 0))) (hs : cur.size = 5) (A1 A2 A3 : Option Addr) (n1 n2 n3 c1 c2 c3 : Nat) (f : Int) (o : Bool) :
    (Instr.storeAt 49 (.pointer (some ⟨g, 0, none⟩)) (dv A1 A2 A3 n1 n2 n3 c1 c2 c3 f o)).run Try.prog W = .ok () (W.setRow g (d5 A1 A2 A3 n1 n2 n3 c1 c2 c3 f o).toArray) := by
  have h := DArm.run_store_row 49 5 size32 W g 0 49 cur hg (d5 A1 A2 A3 n1 n2 n3 c1 c2 c3 f o) rfl (by intro u hu; simp [d5] at hu; rcases hu with rfl | rfl | rfl | rfl | rfl <;> rfl) (by omega)
  rw [List.take_zero, List.nil_append, List.drop_of_length_le (by rw [Array.length_toList]; omega), List.append_nil] at h
  exact h
theorem load5 (W : World) (g : Nat) (A1 A2 A3 : Option Addr) (n1 n2 n3 c1 c2 c3 : Nat) (f : Int) (o : Bool) (hg : W.heap[g]? = some (.cells (d5 A1 A2 A3 n1 n2 n3 c1 c2 c3 f o).toArray 49 (0, 0))) :
    (Instr.loadAt 49 (.pointer (some ⟨g, 0, none⟩))).run Try.prog W = .ok (dv A1 A2 A3 n1 n2 n3 c1 c2 c3 f o) W :=
  run_loadAt_mid W g 0 49 (d5 A1 A2 A3 n1 n2 n3 c1 c2 c3 f o) _ (fun j v hv => by rw [cell_of_row _ _ _ _ _ _ hg, Nat.zero_add]; simpa using hv) Try.underlying49 rfl size32
theorem heapA (w : World) (x y : Obj) : ((w.alloc x).alloc y).heap[w.heap.size]? = some x := by
  have h := heap_alloc_new w x
  have hg : Grew (w.alloc x) ((w.alloc x).alloc y) := grew_new y
  exact DWrite.keepB h hg
theorem heapB (w : World) (x y : Obj) : ((w.alloc x).alloc y).heap[w.heap.size + 1]? = some y := by
  have h := heap_alloc_new (w.alloc x) y
  have e : (w.alloc x).heap.size = w.heap.size + 1 := by simp
  rwa [e] at h
theorem rflush_out (A1 A2 A3 : Option Addr) (n1 n2 n3 c1 c2 c3 : Nat) (w : World) :
    Calls Try.prog 71 #[dv A1 A2 A3 n1 n2 n3 c1 c2 c3 0 false] w fun e w' => e = .returned (.tuple #[dv A1 A2 A3 n1 n2 n3 c1 c2 c3 (-1) true, .int .i64 15]) ∧ Grew w w' := by
  have hb := fun W => burns_any A1 A2 A3 n1 n2 n3 c1 c2 c3 0 false W (by omega) (by omega)
  have S := fun W g cur h1 h2 => store5 W g cur h1 h2 A1 A2 A3 n1 n2 n3 c1 c2 c3 (-1) true
  have L := fun W g h1 => load5 W g A1 A2 A3 n1 n2 n3 c1 c2 c3 (-1) true h1
  have HS := Lib.hid S
  have HL := Lib.hid L
  clear S L
  unfold dv at *
  simp at hb
  have HB := Lib.hid hb
  clear hb
  go_enter Try.func71, Try.ntmps71
  go_wp2_with fail
  refine (HB.out _).mono ?_
  rintro e w1 ⟨rfl, g1⟩
  have B1 := DWrite.keepB (heapA _ _ _) g1
  have B2 := DWrite.keepB (heapB _ _ _) g1
  have GW : Grew w w1 := Grew.trans (by unfold Grew; go_grown) g1
  have S1 := HS.out w1 _ _ B1 rfl
  have B1' := setRow_heap w1 _ _ (d5 A1 A2 A3 n1 n2 n3 c1 c2 c3 (-1) true).toArray _ _ B1
  have B2' := (setRow_other w1 w.heap.size (w.heap.size + 1) (d5 A1 A2 A3 n1 n2 n3 c1 c2 c3 (-1) true).toArray (by omega)).trans B2
  have L1 := HL.out _ _ B1'
  have S2 := HS.out _ _ _ B2' rfl
  have C4 : (w1.setRow w.heap.size (d5 A1 A2 A3 n1 n2 n3 c1 c2 c3 (-1) true).toArray).cell? ⟨w.heap.size, 4, none⟩ = some (.bool true) := cell_of_row _ _ _ _ _ _ B1'
  have B3 := setRow_heap _ _ _ (d5 A1 A2 A3 n1 n2 n3 c1 c2 c3 (-1) true).toArray _ _ B2'
  have L2 := run_loadVar_mid (P := Try.prog) _ (w.heap.size + 1) 0 49 (d5 A1 A2 A3 n1 n2 n3 c1 c2 c3 (-1) true) _ (fun j v hv => by rw [cell_of_row _ _ _ _ _ _ B3, Nat.zero_add]; simpa using hv) Try.underlying49 rfl size32
  have G3 : Grew w ((w1.setRow w.heap.size (d5 A1 A2 A3 n1 n2 n3 c1 c2 c3 (-1) true).toArray).setRow (w.heap.size + 1) (d5 A1 A2 A3 n1 n2 n3 c1 c2 c3 (-1) true).toArray) := below_setRow (below_setRow GW (Nat.le_refl _) _) (by omega) _
  have HS1 := Lib.hid S1
  have HL1 := Lib.hid L1
  have HS2 := Lib.hid S2
  have HL2 := Lib.hid L2
  have HG3 := Lib.hid G3
  clear B1 B2 B1' B2' S1 L1 S2 B3 L2 G3 HS HL GW g1
  generalize (w1.setRow w.heap.size (d5 A1 A2 A3 n1 n2 n3 c1 c2 c3 (-1) true).toArray) = w2 at *
  generalize (w2.setRow (w.heap.size + 1) (d5 A1 A2 A3 n1 n2 n3 c1 c2 c3 (-1) true).toArray) = w3 at *
  go_wp2_with (first
    | refine DArm.wpList_store (by rfl) 49 (.tmp 1) (.tmp 8) (by with_reducible rfl) _ _ (by rfl) (by rfl) _ HS1.out ?_
    | refine DArm.wpList_load (by rfl) 49 (.tmp 1) (by with_reducible rfl) _ _ (by rfl) HL1.out ?_
    | refine DArm.wpList_store (by rfl) 49 (.tmp 2) (.tmp 11) (by with_reducible rfl) _ _ (by rfl) (by rfl) _ HS2.out ?_)
  refine bodyPost_ret (v := .tuple #[.agg #[.slice A1 n1 c1, .slice A2 n2 c2, .slice A3 n3 c3, .int .i64 (-1), .bool true], .int .i64 15]) ?_ rfl ⟨rfl, HG3.out⟩
  have hld := HL2.out
  simp [results, Try.results71]
  simp [asAddr, hld, d5]
/-- One slice stored into a field of the value. -/
theorem stores (t : TypeId) (ht : (Try.prog.info? t).map (·.size) = some 1) (k : Nat) (W : World) (g : Nat) (C : Array Value) (hg : W.heap[g]? = some (.cells C 49 (0, 0))) (A : Option Addr) (c n : Nat) (hC : k < C.size) :
    (Instr.storeAt t (.pointer (some ⟨g, k, none⟩)) (.slice A n c)).run Try.prog W = .ok () (W.setCell ⟨g, k, none⟩ (.slice A n c)) := by
  have h2 : W.cell? ⟨g, k, none⟩ = some C[k] := by rw [cell_of_row _ _ _ _ _ _ hg]; simp [hC]
  have f2 := frozen_of_row W g k _ _ hg
  have hst := run_storeCells_cells (P := Try.prog) g k [.slice A n c] 0 W (fun j hj => by simp at hj; subst hj; simpa using congrArg Option.isSome h2) (fun j hj => by simp at hj; subst hj; exact f2) (fun v hv => by simp at hv; subst hv; rfl)
  cases hq : Try.prog.info? t with
  | none => simp [hq] at ht
  | some i =>
    have hsz : i.size = 1 := by simpa [hq] using ht
    simp only [Instr.storeAt, Instr.sureAddr, storeVar, sizeOf, typeInfo, Sem.run_bind, Sem.run_pure, Result.andThen_ok, Value.cells]
    simp [hq, hsz]
    exact hst
theorem rflush_on (A1 A2 A3 : Option Addr) (n1 n2 n3 c1 c2 c3 : Nat) (f : Int) (w : World) (h0 : ¬ f = 0) (hf : f ≤ 9223372036854775807) (hf2 : -9223372036854775808 ≤ f) :
    Calls Try.prog 71 #[dv A1 A2 A3 n1 n2 n3 c1 c2 c3 f false] w fun e w' => e = .returned (.tuple #[dv A1 A1 none n1 n1 0 c1 c1 0 (if 0 ≤ f then f - 1 else f) false, .int .i64 0]) ∧ Grew w w' := by
  obtain ⟨f', hf'⟩ : ∃ f', (if 0 ≤ f then f - 1 else f) = f' := ⟨_, rfl⟩
  have hb := fun W => burns_any A1 A2 A3 n1 n2 n3 c1 c2 c3 f false W hf hf2
  rw [hf', show (false || f == 0) = false by simpa using h0] at hb
  rw [hf']
  have HB := Lib.hid hb
  have S := fun W g cur h1 h2 => store5 W g cur h1 h2 A1 A2 A3 n1 n2 n3 c1 c2 c3 f' false
  have L := fun W g h1 => load5 W g A1 A1 none n1 n1 0 c1 c1 0 f' false h1
  have SE := fun W g cur h1 h2 => store5 W g cur h1 h2 A1 A1 none n1 n1 0 c1 c1 0 f' false
  have HS := Lib.hid S
  have HL := Lib.hid L
  have HSE := Lib.hid SE
  clear S L SE hb hf' h0 hf hf2
  unfold dv at *
  go_enter Try.func71, Try.ntmps71
  go_wp2_with fail
  refine (HB.out _).mono ?_
  rintro e w1 ⟨rfl, g1⟩
  have B1 := DWrite.keepB (heapA _ _ _) g1
  have B2 := DWrite.keepB (heapB _ _ _) g1
  have GW : Grew w w1 := Grew.trans (by unfold Grew; go_grown) g1
  have S1 := HS.out w1 _ _ B1 rfl
  have R2 := setRow_heap w1 _ _ (d5 A1 A2 A3 n1 n2 n3 c1 c2 c3 f' false).toArray _ _ B1
  have R2' := (setRow_other w1 w.heap.size (w.heap.size + 1) (d5 A1 A2 A3 n1 n2 n3 c1 c2 c3 f' false).toArray (by omega)).trans B2
  have G2 : Grew w (w1.setRow w.heap.size (d5 A1 A2 A3 n1 n2 n3 c1 c2 c3 f' false).toArray) := below_setRow GW (Nat.le_refl _) _
  generalize (w1.setRow w.heap.size (d5 A1 A2 A3 n1 n2 n3 c1 c2 c3 f' false).toArray) = w2 at *
  have C4 : w2.cell? ⟨w.heap.size, 4, none⟩ = some (.bool false) := cell_of_row _ _ _ _ _ _ R2
  have C0 : w2.cell? ⟨w.heap.size, 0, none⟩ = some (.slice A1 n1 c1) := cell_of_row _ _ _ _ _ _ R2
  have S3 := stores 46 (by kernel_rfl) 1 w2 _ _ R2 A1 c1 n1 (by simp [d5])
  have R3 := Go.heap_setCell_same w2 w.heap.size 1 _ 49 (.slice A1 n1 c1) R2
  have K3 : DSmall.Kept (fun k => k = w.heap.size) w2 (w2.setCell ⟨w.heap.size, 1, none⟩ (.slice A1 n1 c1)) := DSmall.Kept.set _ _ rfl
  generalize (w2.setCell ⟨w.heap.size, 1, none⟩ (.slice A1 n1 c1)) = w3 at *
  have S4 := stores 47 (by kernel_rfl) 2 w3 _ _ R3 none 0 0 (by simp [d5])
  have R4 := Go.heap_setCell_same w3 w.heap.size 2 _ 49 (.slice none 0 0) R3
  have K4 : DSmall.Kept (fun k => k = w.heap.size) w3 (w3.setCell ⟨w.heap.size, 2, none⟩ (.slice none 0 0)) := DSmall.Kept.set _ _ rfl
  generalize (w3.setCell ⟨w.heap.size, 2, none⟩ (.slice none 0 0)) = w4 at *
  have G4 : Grew w w4 := DAlive.grew_kept G2 (K3.trans K4) (fun k hk => by rw [hk]; exact Nat.le_refl _)
  have R4' := ((K3.trans K4).block (w.heap.size + 1) (Array.getElem?_eq_some_iff.1 R2').1 (by omega)).trans R2'
  have L4 := HL.out w4 w.heap.size R4
  have S5 := HSE.out w4 _ _ R4' rfl
  have R5 := setRow_heap _ _ _ (d5 A1 A1 none n1 n1 0 c1 c1 0 f' false).toArray _ _ R4'
  have L5 := run_loadVar_mid (P := Try.prog) _ (w.heap.size + 1) 0 49 (d5 A1 A1 none n1 n1 0 c1 c1 0 f' false) _ (fun j v hv => by rw [cell_of_row _ _ _ _ _ _ R5, Nat.zero_add]; simpa using hv) Try.underlying49 rfl size32
  have G5 : Grew w (w4.setRow (w.heap.size + 1) (d5 A1 A1 none n1 n1 0 c1 c1 0 f' false).toArray) := below_setRow G4 (by omega) _
  have HS1 := Lib.hid S1
  have HS3 := Lib.hid S3
  have HS4 := Lib.hid S4
  have HL4 := Lib.hid L4
  have HS5 := Lib.hid S5
  have HL5 := Lib.hid L5
  have HG5 := Lib.hid G5
  clear B1 B2 R2 R2' S1 R3 K3 S3 S4 R4 K4 R4' L4 S5 R5 L5 G5 G4 G2 GW g1 HS HL HSE
  generalize (w4.setRow (w.heap.size + 1) (d5 A1 A1 none n1 n1 0 c1 c1 0 f' false).toArray) = w5 at *
  go_wp2_with (first
    | refine DArm.wpList_store (by rfl) 49 (.tmp 1) (.tmp 8) (by with_reducible rfl) _ _ (by rfl) (by rfl) _ HS1.out ?_
    | refine DArm.wpList_store (by rfl) 46 (.tmp 14) (.tmp 13) (by with_reducible rfl) _ _ (by rfl) (by rfl) _ HS3.out ?_
    | refine DArm.wpList_store (by rfl) 47 (.tmp 15) _ (by with_reducible rfl) _ _ (by rfl) (by rfl) _ HS4.out ?_
    | refine DArm.wpList_load (by rfl) 49 (.tmp 1) (by with_reducible rfl) _ _ (by rfl) HL4.out ?_
    | refine DArm.wpList_store (by rfl) 49 (.tmp 2) (.tmp 16) (by with_reducible rfl) _ _ (by rfl) (by rfl) _ HS5.out ?_)
  refine bodyPost_ret (v := .tuple #[.agg #[.slice A1 n1 c1, .slice A1 n1 c1, .slice none 0 0, .int .i64 f', .bool false], .int .i64 0]) ?_ rfl ⟨rfl, HG5.out⟩
  have hld := HL5.out
  simp [results, Try.results71]
  simp [asAddr, hld, d5]
theorem rflush_off (A1 A2 A3 : Option Addr) (n1 n2 n3 c1 c2 c3 : Nat) (f : Int) (w : World) :
    Calls Try.prog 71 #[dv A1 A2 A3 n1 n2 n3 c1 c2 c3 f true] w fun e w' => e = .returned (.tuple #[dv A1 A2 A3 n1 n2 n3 c1 c2 c3 f true, .int .i64 15]) ∧ Grew w w' := by
  unfold dv
  go_enter Try.func71, Try.ntmps71
  go_wp2
  go_returns
  exact ⟨rfl, by unfold Grew; go_grown⟩
end Go.Proofs.Ytbnicphegbdfnaa.DRefC
