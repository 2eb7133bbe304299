/-
  The document's own disk: its rows of texts, one text set, the fuse that burns.
  Conditions: none beyond those that each lemma names.
-/
import Derived.Test.YtbnicphegbdfnaaDAlive
namespace Go.Proofs.Ytbnicphegbdfnaa.DRefA
set_option maxRecDepth 100000
set_option maxRecDepth 100000
open Go Go.RowKit Go.Proofs.Ytbnicphegbdfnaa Go.Proofs.Ytbnicphegbdfnaa.Facts Go.Proofs.Ytbnicphegbdfnaa.Bytes Go.Proofs.Ytbnicphegbdfnaa.DKeep

/-- A text of these bytes. -/
def sv (B : Sec) : Value := .string ⟨B.toArray⟩
def svs (l : List Sec) : List Value := l.map sv
theorem svs_length (l : List Sec) : (svs l).length = l.length := by simp [svs]
theorem svs_one (l : List Sec) : ∀ u ∈ svs l, u.oneCell' = true := by
  intro u hu
  obtain ⟨B, _, rfl⟩ := List.mem_map.1 hu
  rfl
/-- A row of texts. -/
def SR (w : World) (v : Value) (l : List Sec) : Prop := ∃ A c, v = .slice A l.length c ∧ l.length ≤ c ∧ c ≤ 9223372036854775807 ∧ (A = none → c = 0) ∧ ∀ ad, A = some ad → ∀ (j : Nat) (B : Sec), l[j]? = some B → w.cell? (ad.add j) = some (sv B)
theorem SR.grew {w w' : World} {v : Value} {l : List Sec} (h : SR w v l) (hg : Grew w w') : SR w' v l := by
  obtain ⟨A, c, rfl, h1, h2, h3, h4⟩ := h
  exact ⟨A, c, rfl, h1, h2, h3, fun ad ha j B hB => DWrite.cellB hg (h4 ad ha j B hB)⟩
theorem SR.of_own {w : World} {b e : Nat} {v : Value} {l : List Sec} (h : w.ownsRow b e 1 v l.length (svs l)) : SR w v l := by
  rcases h.2 with ⟨rfl, hx⟩ | ⟨g, cap, cur, rfl, hb, hg, hc, hm, hs, ht⟩
  · have : l = [] := by simpa [svs] using hx
    subst this
    exact ⟨none, 0, rfl, Nat.le_refl _, Nat.zero_le _, fun _ => rfl, fun ad ha => by cases ha⟩
  · refine ⟨some ⟨g, 0, none⟩, cap, rfl, hc, hm, (fun h => by cases h), fun ad ha j B hB => ?_⟩
    cases ha
    have hj : j < l.length := (List.getElem?_eq_some_iff.1 hB).1
    rw [Addr.add_mid, Nat.zero_add, cell_of_row _ _ _ _ _ _ hg]
    have hx : (svs l)[j]? = some (sv B) := by simp [svs, hB]
    rw [← ht, List.getElem?_take_of_lt (by omega)] at hx
    simpa using hx

/-- The document's disk as a value. -/
def dv (A1 A2 A3 : Option Addr) (n1 n2 n3 c1 c2 c3 : Nat) (f : Int) (o : Bool) : Value := .agg #[.slice A1 n1 c1, .slice A2 n2 c2, .slice A3 n3 c3, .int .i64 f, .bool o]
theorem burns_any (A1 A2 A3 : Option Addr) (n1 n2 n3 c1 c2 c3 : Nat) (f : Int) (o : Bool) (w : World) (hf : f ≤ 9223372036854775807) (hf2 : -9223372036854775808 ≤ f) :
    Calls Try.prog 73 #[dv A1 A2 A3 n1 n2 n3 c1 c2 c3 f o] w fun e w' => e = .returned (dv A1 A2 A3 n1 n2 n3 c1 c2 c3 (if 0 ≤ f then f - 1 else f) (o || f == 0)) ∧ Grew w w' := by
  unfold dv
  by_cases h0 : f = 0
  · subst h0
    go_enter Try.func73, Try.ntmps73
    go_wp2
    go_returns
    exact ⟨by simp, by unfold Grew; go_grown⟩
  · have h1 : (f == 0) = false := by simpa using h0
    by_cases h2 : 0 ≤ f
    · go_enter Try.func73, Try.ntmps73
      go_wp2
      go_returns
      exact ⟨by simp, by unfold Grew; go_grown⟩
    · go_enter Try.func73, Try.ntmps73
      go_wp2
      go_returns
      exact ⟨by simp, by unfold Grew; go_grown⟩

theorem parts9 : ∃ i z, Try.prog.info? 9 = some i ∧ i.zero = some z ∧ i.size = 1 ∧ i.bytes = 16 ∧ z.cells.size = 1 := by
  have h : (Try.prog.info? 9).map (fun i => (i.zero.map (·.cells.size), i.size, i.bytes)) = some (some 1, 1, 16) := by kernel_rfl
  cases hq : Try.prog.info? 9 with
  | none => simp [hq] at h
  | some i =>
    cases hz : i.zero with
    | none => simp [hq, hz] at h
    | some z => simp [hq, hz] at h; exact ⟨i, z, rfl, hz, h.2.1, h.2.2, h.1⟩
theorem set_snoc (l : List Sec) (n i : Nat) (B : Sec) (hi : i < l.length) : (l.set n B).take (i + 1) = (l.set n B).take i ++ [if i = n then B else l[i]?.getD []] := by
  rw [List.take_add_one]
  congr 1
  rw [List.getElem?_set]
  by_cases e : n = i
  · subst e; simp [hi]
  · rw [if_neg e, if_neg (Ne.symm e), List.getElem?_eq_getElem hi]; rfl
theorem own_gen {w w' : World} {b e m n : Nat} {v : Value} {xs : List Value} (h : w.ownsRow b e m v n xs) (hg : Grew w w') : w'.ownsRow b e m v n xs := by
  refine ⟨h.1, ?_⟩
  rcases h.2 with h2 | ⟨g, cap, cur, rfl, hb, hgg, h3⟩
  · exact .inl h2
  · exact .inr ⟨g, cap, cur, rfl, hb, DWrite.keepB hgg hg, h3⟩
theorem rdy_of {w w' : World} {b e n : Nat} {v : Value} {l : List Value} (h : w.ownsRow b e 1 v n l) (hn : n = l.length) (hg : Grew w w') : Rdy w' b e v l := by
  subst hn
  exact .inl (own_gen h hg)
theorem one_new (w : World) (x : Value) (e : TypeId) : ∀ j u, [x][j]? = some u → (w.alloc (.cells #[x] e)).cell? ((⟨w.heap.size, 0, none⟩ : Addr).add j) = some u := fun j u hu => by
  rw [Addr.add_mid, cell_of_row _ _ _ _ _ _ (heap_alloc_new w _), Nat.zero_add]
  simpa using hu
theorem Gr {w w1 w2 : World} (h : Grew w w1) (k : Below w.heap.size w1 w2) : Grew w w2 := (show Below w.heap.size w w1 from h).trans k
theorem grew_new {w : World} (o : Obj) : Grew w (w.alloc o) := (Below.refl _ w).alloc (Nat.le_refl _) o
set_option maxHeartbeats 4000000 in
theorem with_any (n : Nat) (B : Sec) (v : Value) (l : List Sec) (w : World) (h : SR w v l) (hl : l.length ≤ 16384) (hn : n ≤ 16384) :
    Calls Try.prog 72 #[v, .int .i64 (n : Int), sv B] w fun e w' => ∃ v', e = .returned v' ∧ w'.ownsRow w.heap.size 9 1 v' l.length (svs (l.set n B)) ∧ Grew w w' := by
  obtain ⟨i9, z9, hi9, hz9, hs9, hb9, hzs9⟩ := parts9
  obtain ⟨A, c, rfl, h1, h2, h3, h4⟩ := h
  have HC := Lib.hid h4
  clear h4
  unfold sv
  go_enter Try.func72, Try.ntmps72
  go_wp2
  go_loopg [7, 8] l.length (fun q s7 s8 wx => ∃ (i : Nat) (v7 : Value), i + q = l.length ∧ s8 = .int .i64 i ∧ s7 = v7 ∧ Hid (wx.ownsRow w.heap.size 9 1 v7 i (svs ((l.set n B).take i))) ∧ Hid (Grew w wx))
  case atStart => exact ⟨0, _, by omega, rfl, rfl, Lib.hid (World.ownsRow_nil w _ _ _), Lib.hid (Grew.refl _)⟩
  case round =>
    obtain ⟨i, v7, hiq, rfl, rfl, HO, HG⟩ := hrel
    cases gk with
    | succ q =>
      have hil : (i : Int) < (l.length : Int) := by omega
      have hil2 : i < l.length := by omega
      by_cases e : i = n
      · subst e
        have hrd := rdy_of HO.out (show i = (svs ((l.set i B).take i)).length by rw [svs_length, List.length_take, List.length_set]; omega) (grew_new (w := wr) (.cells #[(.string ⟨B.toArray⟩)] 9))
        have HRD := Lib.hid hrd
        clear hrd HO
        go_wp2_with (at_builtin; refine wpList_append_rdy _ rfl (.tmp 18) (.tmp 20) 46 rfl w.heap.size 9 i9 z9 16 Try.underlying46 hi9 hz9 hs9 hb9 hzs9 _ _ rfl HRD.out ⟨wr.heap.size, 0, none⟩ 1 1 [(.string ⟨B.toArray⟩)] rfl rfl (by simp) (one_new _ _ _) ?c2 ?c3 ?c4 ?c5 ?_)
        case c2 => intro u hu; simp at hu; subst hu; rfl
        case c3 => rw [svs_length, List.length_take, List.length_set, List.length_singleton]; unfold maxLen; omega
        case c4 => rw [svs_length, List.length_take, List.length_set, List.length_singleton]; omega
        case c5 => exact Nat.le_trans HG.out.size (by simp)
        intro v' w1 hown hbel
        have HG1 := Lib.hid (Gr (HG.out.trans (grew_new (w := wr) _)) hbel)
        have HO1 : Hid (w1.ownsRow w.heap.size 9 1 v' (i + 1) (svs ((l.set i B).take (i + 1)))) := Lib.hid (by
          have e : svs ((l.set i B).take (i + 1)) = svs ((l.set i B).take i) ++ [(.string ⟨B.toArray⟩)] := by
            rw [set_snoc l i i B hil2, if_pos rfl, svs, List.map_append]
            rfl
          rw [e]
          have h := hown
          rwa [svs_length, List.length_take, List.length_set, Nat.min_eq_left (by omega)] at h)
        clear hown hbel HRD HG
        go_wp2
        go_roundg q
        case measure => omega
        case rel => exact ⟨i + 1, v', by omega, by first | rfl | simp | (simp; omega), rfl, HO1, HG1⟩
      · have hne : ¬ ((i : Int) = (n : Int)) := by omega
        obtain ⟨x, hx⟩ : ∃ x, l[i]? = some x := ⟨_, List.getElem?_eq_getElem hil2⟩
        obtain ⟨ad, rfl⟩ : ∃ ad, A = some ad := by
          cases A with
          | none => have := h3 rfl; omega
          | some ad => exact ⟨ad, rfl⟩
        have hcell : wr.cell? (ad.add i) = some (.string ⟨x.toArray⟩) := DWrite.cellB HG.out (HC.out ad rfl i x hx)
        have hrd := rdy_of HO.out (show i = (svs ((l.set n B).take i)).length by rw [svs_length, List.length_take, List.length_set]; omega) (grew_new (w := wr) (.cells #[(.string ⟨x.toArray⟩)] 9))
        have HRD := Lib.hid hrd
        clear hrd HO
        go_wp2_with (at_builtin; refine wpList_append_rdy _ rfl (.tmp 22) (.tmp 27) 46 rfl w.heap.size 9 i9 z9 16 Try.underlying46 hi9 hz9 hs9 hb9 hzs9 _ _ rfl HRD.out ⟨wr.heap.size, 0, none⟩ 1 1 [(.string ⟨x.toArray⟩)] rfl rfl (by simp) (one_new _ _ _) ?c2 ?c3 ?c4 ?c5 ?_)
        case c2 => intro u hu; simp at hu; subst hu; rfl
        case c3 => rw [svs_length, List.length_take, List.length_set, List.length_singleton]; unfold maxLen; omega
        case c4 => rw [svs_length, List.length_take, List.length_set, List.length_singleton]; omega
        case c5 => exact Nat.le_trans HG.out.size (by simp)
        intro v' w1 hown hbel
        have HG1 := Lib.hid (Gr (HG.out.trans (grew_new (w := wr) _)) hbel)
        have HO1 : Hid (w1.ownsRow w.heap.size 9 1 v' (i + 1) (svs ((l.set n B).take (i + 1)))) := Lib.hid (by
          have e : svs ((l.set n B).take (i + 1)) = svs ((l.set n B).take i) ++ [(.string ⟨x.toArray⟩)] := by
            rw [set_snoc l n i B hil2, if_neg e, hx, svs, List.map_append]
            rfl
          rw [e]
          have h := hown
          rwa [svs_length, List.length_take, List.length_set, Nat.min_eq_left (by omega)] at h)
        clear hown hbel HRD HG
        go_wp2
        go_roundg q
        case measure => omega
        case rel => exact ⟨i + 1, v', by omega, by first | rfl | simp | (simp; omega), rfl, HO1, HG1⟩
    | zero =>
      obtain rfl : i = l.length := by omega
      have hil : ¬ (l.length : Int) < (l.length : Int) := by omega
      have hOW := HO.out
      rw [List.take_of_length_le (by rw [List.length_set]; exact Nat.le_refl _)] at hOW
      have HOW := Lib.hid hOW
      clear hOW HO
      go_wp2
      go_ret
      exact ⟨_, rfl, HOW.out, HG.out⟩
end Go.Proofs.Ytbnicphegbdfnaa.DRefA
