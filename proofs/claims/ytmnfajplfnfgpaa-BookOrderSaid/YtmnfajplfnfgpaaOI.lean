/-
  Rows of numbers that may be written to; DeleteFunc and SortFunc of slots.
  Conditions: those that each lemma names.
-/
import Derived.Test.YtmnfajplfnfgpaaOH
import Derived.Test.YtmnfajplfnfgpaaShelf
import Derived.Lib.Hide
import Derived.Shelf.SlSortCmp.NoneTotal
namespace Go.Proofs.Ytmnfajplfnfgpaa.OI
set_option maxRecDepth 100000
open Go Go.RowKit Go.Lib Go.Proofs.Ytmnfajplfnfgpaa Go.Proofs.Ytmnfajplfnfgpaa.Facts Go.Proofs.Ytmnfajplfnfgpaa.Ints Go.Proofs.Ytmnfajplfnfgpaa.PA Go.Proofs.Ytmnfajplfnfgpaa.UM Go.Proofs.Ytmnfajplfnfgpaa.UB Go.Proofs.Ytmnfajplfnfgpaa.OA Go.Proofs.Ytmnfajplfnfgpaa.BP Go.Proofs.Ytmnfajplfnfgpaa.OB Go.Proofs.Ytmnfajplfnfgpaa.OC Go.Proofs.Ytmnfajplfnfgpaa.OD Go.Proofs.Ytmnfajplfnfgpaa.OE Go.Proofs.Ytmnfajplfnfgpaa.OF Go.Proofs.Ytmnfajplfnfgpaa.OG Go.Proofs.Ytmnfajplfnfgpaa.OH Go.Proofs.Ytmnfajplfnfgpaa.Bytes


theorem frzG {w w' : World} (hg : Grew w w') {b : Nat} (hb : b < w.heap.size) (k : Nat) : w'.frozen? ⟨b, k, none⟩ = w.frozen? ⟨b, k, none⟩ := by
  unfold World.frozen?
  rw [show w'.heap[(⟨b, k, none⟩ : Addr).block]? = w.heap[(⟨b, k, none⟩ : Addr).block]? from hg.block b hb]
/-- A row of numbers that lies from block b on, and may be written to. -/
def IsO (b : Nat) (w : World) (v : Value) (l : List Int) : Prop :=
  ∃ (A : Option Addr) (c : Nat), v = .slice A l.length c ∧ l.length ≤ c ∧ c ≤ maxLen ∧ (A = none → c = 0) ∧
    ∀ ad, A = some ad → ∃ g, ad = ⟨g, 0, none⟩ ∧ b ≤ g ∧ g < w.heap.size ∧ (∃ C, w.heap[g]? = some (.cells C 3 (0, 0))) ∧ ∀ j x, l[j]? = some x → w.cell? ⟨g, j, none⟩ = some (.int .i64 x) ∧ w.frozen? ⟨g, j, none⟩ = false
theorem IsO.is {b : Nat} {w : World} {v : Value} {l : List Int} (h : IsO b w v l) : Is w v l := by
  obtain ⟨A, c, e, h1, h2, h3, h4⟩ := h
  refine ⟨A, c, e, h1, h2, h3, fun ad ha j u hu => ?_⟩
  obtain ⟨g, rfl, _, _, _, hc⟩ := h4 ad ha
  unfold iv at hu
  rw [List.getElem?_map, Option.map_eq_some_iff] at hu
  obtain ⟨x, hx, rfl⟩ := hu
  rw [Addr.add_lit, Nat.zero_add]
  exact (hc j x hx).1
theorem IsO.grew {b : Nat} {w w' : World} {v : Value} {l : List Int} (h : IsO b w v l) (hg : Grew w w') : IsO b w' v l := by
  obtain ⟨A, c, e, h1, h2, h3, h4⟩ := h
  refine ⟨A, c, e, h1, h2, h3, fun ad ha => ?_⟩
  obtain ⟨g, e1, hb, hs, ⟨C, hC⟩, hc⟩ := h4 ad ha
  exact ⟨g, e1, hb, Nat.lt_of_lt_of_le hs hg.size, ⟨C, keepB hC hg⟩, fun j x hx => ⟨cellG hg (hc j x hx).1, by rw [frzG hg hs]; exact (hc j x hx).2⟩⟩
theorem IsO.mono {b b' : Nat} {w : World} {v : Value} {l : List Int} (h : IsO b w v l) (hb : b' ≤ b) : IsO b' w v l := by
  obtain ⟨A, c, e, h1, h2, h3, h4⟩ := h
  refine ⟨A, c, e, h1, h2, h3, fun ad ha => ?_⟩
  obtain ⟨g, e1, hb', hs, hC, hc⟩ := h4 ad ha
  exact ⟨g, e1, Nat.le_trans hb hb', hs, hC, hc⟩
theorem IsO.of_own {w : World} {v : Value} {l : List Int} {base : Nat} (h : w.ownsRow base 3 1 v l.length (iv l)) : IsO base w v l := by
  have hi := Is.of_own h rfl
  obtain ⟨A, c, e, h1, h2, h3, h4⟩ := hi
  refine ⟨A, c, e, h1, h2, h3, fun ad ha => ?_⟩
  rcases h.2 with ⟨e2, _⟩ | ⟨g, cap, cur, e2, hb, hg, _⟩
  · rw [e, ha] at e2; cases e2
  · rw [e, ha] at e2
    injection e2 with e3 _ e5
    injection e3 with e3
    subst e3
    refine ⟨g, rfl, hb, (Array.getElem?_eq_some_iff.1 hg).1, ⟨_, hg⟩, fun j x hx => ⟨?_, ?_⟩⟩
    · have := h4 _ ha j (.int .i64 x) (by unfold iv; rw [List.getElem?_map, hx]; rfl)
      rwa [Addr.add_lit, Nat.zero_add] at this
    · subst ha e
      exact h.frozenAt j
theorem setCells_ownO {W : World} {base g n cap i : Nat} {d : List Int} {z : Value} (h : W.ownsRow base 3 1 (.slice (some ⟨g, 0, none⟩) n cap) n (iv d)) (hd : d.length = n) (hi : i ≤ n) (m : Nat) (hbg : base ≤ g) : IsO base (W.setCells g i (List.replicate m z)) (.slice (some ⟨g, 0, none⟩) i cap) (d.take i) := by
  have hl : (d.take i).length = i := by rw [List.length_take]; omega
  have hc := Rw.of_own h (fun h0 => by rw [List.eq_nil_of_length_eq_zero (hd.trans h0)]; rfl)
  obtain ⟨A, c, e, h1, h2, _⟩ := hc
  injection e with _ _ e3
  subst e3
  have hgb : ∃ C, W.heap[g]? = some (.cells C 3 (0, 0)) := by
    rcases h.2 with ⟨e2, _⟩ | ⟨g', cap', cur, e2, hb, hg, _⟩
    · cases e2
    · injection e2 with e3 _ _
      injection e3 with e3
      injection e3 with e3
      rw [e3]
      exact ⟨_, hg⟩
  have hgs : g < W.heap.size := by
    obtain ⟨C, hC⟩ := hgb
    exact (Array.getElem?_eq_some_iff.1 hC).1
  refine ⟨some ⟨g, 0, none⟩, cap, by rw [hl], by rw [hl]; omega, h2, (fun h => by cases h), fun ad ha => ?_⟩
  cases ha
  refine ⟨g, rfl, hbg, Nat.lt_of_lt_of_le hgs (grown_cells g _ i W).size, ?_, fun j x hx => ?_⟩
  · obtain ⟨C, hC⟩ := hgb
    obtain ⟨C', h5, _⟩ := setCells_row (List.replicate m z) i C W hC
    exact ⟨C', h5⟩
  have hj : j < i := by
    have := (List.getElem?_eq_some_iff.1 hx).1
    rwa [hl] at this
  rw [World.frozen?_setCells, World.cell?_setCells_out _ _ _ _ _ (fun _ _ => .inl (by simp; omega)), h.cellAt j (by omega)]
  refine ⟨?_, h.frozenAt j⟩
  rw [List.getElem?_take, if_pos hj] at hx
  unfold iv
  rw [List.getElem?_map, hx]
  rfl
set_option maxHeartbeats 1000000 in
theorem delO_any (v : Value) (a : List Int) (p : Int → Bool) (L B base : Nat) (w : World) (h : w.ownsRow base 3 1 v a.length (iv a)) (hb : base ≤ w.heap.size) (hlen : a.length ≤ 1000)
    (hp : ∀ x, x ∈ a → ∀ W, Below base w W → Calls Try.prog 65 #[.int .i64 x, .pointer (some ⟨L, 0, none⟩), .pointer (some ⟨B, 0, none⟩)] W fun e w' => e = .returned (.bool (p x)) ∧ Grew W w') :
    Calls Try.prog 64 #[v, .func (.func 65) #[] #[.pointer (some ⟨L, 0, none⟩), .pointer (some ⟨B, 0, none⟩)]] w fun e w' => ∃ v', e = .returned v' ∧ IsO base w' v' (a.filter fun x => !p x) ∧ Below base w w' := by
  have hIS := Is.of_own h rfl
  have hISB := IsO.of_own h
  have HI := Lib.hid (idxN v a p L B w hIS fun x hx W hW => hp x hx W (Below.mono hW hb))
  have HP := Lib.hid hp
  rcases fidx_cases a p with ⟨e1, e2⟩ | ⟨k0, hk0, e1, e2, e3⟩
  · rw [e1] at HI
    rw [e2]
    clear e1 e2 h hp HP
    have HS := Lib.hid hISB
    obtain ⟨A, c, rfl, _⟩ := Is.slice hIS
    clear hIS hISB
    go_enter Try.func64, Try.ntmps64
    go_wp2_with fail
    refine HI.out.mono ?_
    rintro e w1 ⟨rfl, hg⟩
    have HG := Lib.hid hg
    clear hg
    go_wp2
    go_returns
    exact ⟨_, rfl, HS.out.grew HG.out, Below.mono HG.out hb⟩
  · rw [e1] at HI
    have HK0 := Lib.hid (Kept.start hk0 e3 e2)
    have hpos : 0 < a.length := by omega
    obtain ⟨g, cap, rfl, hbg, hgl⟩ := h.form hpos
    have HO := Lib.hid h
    have HB : Hid (base ≤ g) := Lib.hid hbg
    have hcap : a.length ≤ cap := by
      obtain ⟨A, c, e, h1, _⟩ := Is.slice hIS
      injection e with _ _ e
      omega
    have v3 : ∀ w, (zeroValue 3).run Try.prog w = .ok (.int .i64 0) w := fun w => by kernel_rfl
    clear h hp hIS hISB e1 e2 e3 hbg hgl
    have hne1 : ((k0 : Int) == -1) = false := beq_eq_false_iff_ne.2 (by omega)
    have hw1 : wrap64 ((k0 : Int) + 1) = ((k0 + 1 : Nat) : Int) := wr1 hk0 hlen
    go_enter Try.func64, Try.ntmps64
    go_wp2_with fail
    refine HI.out.mono ?_
    rintro e w1 ⟨rfl, hg⟩
    have HG1 : Hid (Below base w w1) := Lib.hid (Below.mono hg hb)
    have HO1 := Lib.hid (own_grew HO.out hg)
    clear hg
    go_wp2
    clear hne1
    go_loopg [5, 6, 7] a.length (fun gg s5 s6 s7 wx => ∃ (i j : Nat) (d : List Int), s5 = .int .i64 i ∧ s6 = .int .i64 j ∧ a.length - j ≤ gg ∧ Hid (Kept p a i j d) ∧ Hid (wx.ownsRow base 3 1 (.slice (some ⟨g, 0, none⟩) a.length cap) a.length (iv d)) ∧ Hid (Below base w wx))
    case atStart => exact ⟨k0, k0 + 1, a, rfl, by simp, Nat.sub_le _ _, HK0, HO1, HG1⟩
    case round =>
      obtain ⟨i, j, d, rfl, rfl, hgg, HK, HO2, HG2⟩ := hrel
      have hij := HK.out.lt
      have hja := HK.out.le
      have hdl := HK.out.len
      by_cases hlt : j < a.length
      · have hltz : (j : Int) < (a.length : Int) := by omega
        have cj := HO2.out.cellAt j (by omega)
        have hdj := HK.out.high j (Nat.le_refl _)
        rw [List.getElem?_eq_getElem hlt] at hdj
        have hj1 : (iv d)[j]? = some (.int .i64 a[j]) := by unfold iv; rw [List.getElem?_map, hdj]; rfl
        rw [hj1] at cj
        have HM : Hid (a.length - (j + 1) < gk) := Lib.hid (by omega)
        have hwj : wrap64 ((j : Int) + 1) = ((j + 1 : Nat) : Int) := wr1 hlt hlen
        have hwi : wrap64 ((i : Int) + 1) = ((i + 1 : Nat) : Int) := wr1 (Nat.lt_trans hij hlt) hlen
        have HWJ := Lib.hid hwj
        have HWI := Lib.hid hwi
        have HSK := Lib.hid (HK.out.skip hlt)
        have HKE := Lib.hid (HK.out.keep hlt)
        have HC := Lib.hid (HP.out a[j] (List.getElem_mem hlt) _ HG2.out)
        clear hdj hj1 hwj hwi
        generalize a[j] = x at cj HSK HKE HC
        have hil : i < a.length := by omega
        clear hdl hja
        cases hq : p x with
        | true =>
          rw [hq] at HC
          have HK2 := Lib.hid (HSK.out hq)
          clear HSK HKE hq
          go_wp2_with fail
          refine HC.out.mono ?_
          rintro e w2 ⟨rfl, hg⟩
          have HO3 := Lib.hid (own_grew HO2.out hg)
          have HG3 : Hid (Below base w w2) := Lib.hid (HG2.out.trans (Below.mono hg (Nat.le_trans hb HG2.out.size)))
          clear hg cj
          go_wp2
          go_roundg (a.length - (j + 1))
          case measure => exact HM.out
          case rel => exact ⟨i, j + 1, d, rfl, by first | (simp; done) | rw [HWJ.out], Nat.le_refl _, HK2, HO3, HG3⟩
        | false =>
          rw [hq] at HC
          have HK2 := Lib.hid (HKE.out hq)
          clear HSK HKE hq
          have hgi : (decide (g = g)) = true := by simp
          clear hgi
          go_wp2_with fail
          refine HC.out.mono ?_
          rintro e w2 ⟨rfl, hg⟩
          have hown := own_grew HO2.out hg
          have ci := hown.cellAt i (by omega)
          have fi := hown.frozenAt i
          obtain ⟨u, hu⟩ : ∃ u, (iv d)[i]? = some u := ⟨_, List.getElem?_eq_getElem (by rw [iv_length, HK.out.len]; omega)⟩
          rw [hu] at ci
          obtain ⟨hs, _⟩ := hown.stored i (.int .i64 x)
          have hset : (iv d).set i (.int .i64 x) = iv (d.set i x) := by simp [iv, List.map_set]
          rw [hset] at hs
          have HO3 := Lib.hid hs
          have HG3 : Hid (Below base w (w2.setCell ⟨g, i, none⟩ (.int .i64 x))) := Lib.hid ((HG2.out.trans (Below.mono hg (Nat.le_trans hb HG2.out.size))).setCell (p := ⟨g, i, none⟩) HB.out _)
          have hiz : (i : Int) < (a.length : Int) := by omega
          clear hg cj hown hu hs hset
          go_wp2
          go_roundg (a.length - (j + 1))
          case measure => exact HM.out
          case rel => exact ⟨i + 1, j + 1, d.set i x, by first | (simp; done) | rw [HWI.out], by first | (simp; done) | rw [HWJ.out], Nat.le_refl _, HK2, HO3, HG3⟩
      · have hje : j = a.length := by omega
        subst hje
        have hltz : ¬ ((a.length : Nat) : Int) < (a.length : Int) := by omega
        have hcl : ∀ ty, (Builtin.clear_ #[36] ty #[.slice (some ⟨g, i, none⟩) (a.length - i) (cap - i)]).run Try.prog wr = .ok (.tuple #[]) (wr.setCells g i (List.replicate (a.length - i) (.int .i64 0))) :=
          fun ty => Lib.run_clear_slice wr _ _ ty _ Try.underlying36 v3 rfl rfl g i _ _ (by omega) (fun t ht => by
            rw [HO2.out.cellAt (i + t) (by omega), List.getElem?_eq_getElem (by rw [iv_length, hdl]; omega)]
            rfl) (fun t ht => HO2.out.frozenAt (i + t))
        have HE : Hid (IsO base (wr.setCells g i (List.replicate (a.length - i) (.int .i64 0))) (.slice (some ⟨g, 0, none⟩) i cap) (a.filter fun x => !p x)) := Lib.hid (by
          rw [← HK.out.done]
          exact setCells_ownO HO2.out hdl (by omega) _ HB.out)
        have HG3 : Hid (Below base w (wr.setCells g i (List.replicate (a.length - i) (.int .i64 0)))) := Lib.hid (below_cells g HB.out _ _ HG2.out)
        clear hdl hja HP
        go_wp2
        go_returns
        exact ⟨_, rfl, HE.out, HG3.out⟩

theorem heap_putRow {α : Type} [Inhabited α] (enc : α → Value) (w : World) (blk off : Nat) (d : Array α) (k : Nat) (hk : k ≠ blk) : (Go.Sort.putRow enc w blk off d).heap[k]? = w.heap[k]? := by
  unfold Go.Sort.putRow Go.Sort.mapBlock
  show (w.heap.modify blk _)[k]? = _
  rw [Array.getElem?_modify, if_neg (fun e => hk e.symm)]
theorem below_sort {α : Type} [Inhabited α] (enc : α → Value) (w : World) (b blk m : Nat) (dk : Array α) (os : Array Obj) (hb : b ≤ blk) (hs : blk < w.heap.size) : Below b w (Go.Proofs.sortWorld enc w blk 0 m dk os) := by
  unfold Go.Proofs.sortWorld
  refine ⟨rfl, rfl, rfl, ?_, fun k hk => ?_⟩
  · show w.heap.size ≤ ((Go.Sort.putRow enc (Go.Sort.ahead w m) blk 0 dk).heap ++ os).size
    rw [Array.size_append, Go.Sort.size_putRow]
    show w.heap.size ≤ w.heap.size + _
    omega
  · show ((Go.Sort.putRow enc (Go.Sort.ahead w m) blk 0 dk).heap ++ os)[k]? = _
    rw [Array.getElem?_append_left (by rw [Go.Sort.size_putRow]; show k < w.heap.size; omega), heap_putRow _ _ _ _ _ _ (by omega)]
    rfl
theorem sort_row {α : Type} [Inhabited α] (enc : α → Value) (w : World) (g m : Nat) (dk : Array α) (os : Array Obj) (hs : g < w.heap.size) (h : ∃ C, w.heap[g]? = some (.cells C 3 (0, 0))) : ∃ C, (Go.Proofs.sortWorld enc w g 0 m dk os).heap[g]? = some (.cells C 3 (0, 0)) := by
  obtain ⟨C, hC⟩ := h
  unfold Go.Proofs.sortWorld
  have h1 : (Go.Sort.putRow enc (Go.Sort.ahead w m) g 0 dk).heap[g]? = some (.cells (Go.Sort.putCells enc 0 dk C) 3 (0, 0)) := by
    unfold Go.Sort.putRow Go.Sort.mapBlock
    show (w.heap.modify g _)[g]? = _
    rw [Array.getElem?_modify, if_pos rfl, hC]
    rfl
  refine ⟨_, Eq.trans ?_ h1⟩
  show ((Go.Sort.putRow enc (Go.Sort.ahead w m) g 0 dk).heap ++ os)[g]? = _
  rw [Array.getElem?_append_left (by rw [Go.Sort.size_putRow]; exact hs)]
theorem mem_usl (l : List Or) (i : Nat) : (i : Int) ∈ usl l ↔ i < l.length ∧ (eo l i).used = true := by
  unfold usl uptoG
  rw [List.mem_map]
  constructor
  · rintro ⟨j, hj, e⟩
    have : j = i := by
      have e' : (j : Int) = (i : Int) := e
      omega
    subst this
    rw [List.mem_filter] at hj
    exact ⟨List.mem_range.1 hj.1, hj.2⟩
  · rintro ⟨h1, h2⟩
    exact ⟨i, List.mem_filter.2 ⟨List.mem_range.2 h1, h2⟩, rfl⟩
theorem usl_nat (l : List Or) : usl l = ((List.range l.length).filter fun i => (eo l i).used).map Int.ofNat := rfl
/-- Two orders of a list that may be have two Seqs. -/
theorem seq_apart {l : List Or} (h : apartP l = true) {i j : Nat} (hi : i < l.length) (hj : j < l.length) (ui : (eo l i).used = true) (uj : (eo l j).used = true) (hne : i ≠ j) : (eo l i).seq ≠ (eo l j).seq := by
  have h1 : ((usl l).map fun i => (eo l i.toNat).seq).Nodup := by
    rw [usl_map]
    exact of_decide_eq_true h
  rw [usl_nat, List.map_map] at h1
  have h2 := List.pairwise_map.1 h1
  have mi : i ∈ (List.range l.length).filter fun i => (eo l i).used := List.mem_filter.2 ⟨List.mem_range.2 hi, ui⟩
  have mj : j ∈ (List.range l.length).filter fun i => (eo l i).used := List.mem_filter.2 ⟨List.mem_range.2 hj, uj⟩
  generalize (List.range l.length).filter (fun i => (eo l i).used) = L at *
  clear h1
  induction L with
  | nil => cases mi
  | cons a L ih =>
    rw [List.pairwise_cons] at h2
    rcases List.mem_cons.1 mi with e1 | mi'
    · rcases List.mem_cons.1 mj with e2 | mj'
      · exact absurd (e1.trans e2.symm) hne
      · rw [e1]; exact h2.1 j mj'
    · rcases List.mem_cons.1 mj with e2 | mj'
      · rw [e2]; exact fun e => h2.1 i mi' e.symm
      · exact ih h2.2 mi' mj'
/-- The sort of the slots that are met. -/
theorem sort_any (l : List Or) (o : Or) (S : List Nat) (hright : rightO l = true) (hsd : o.side = 1 ∨ o.side = 2) (hS : ∀ i ∈ S, i < l.length ∧ (eo l i).used = true ∧ meetsP o (eo l i) = true) (hnd : S.Nodup)
    (vl : Value) (L b : Nat) (v : Value) (w0 w : World) (hg0 : Grew w0 w) (hb0 : w0.heap.size ≤ b) (hbw : b ≤ w.heap.size) (hl : Ors w0 vl l) (hL : w0.heap[L]? = some (.cells #[vl] 22 (0, 0))) (hv : IsO b w v (S.map Int.ofNat)) (hlen : S.length ≤ 1000) :
    Calls Try.prog 67 #[v, .func (.func 68) #[] #[.pointer (some ⟨L, 0, none⟩)]] w fun e w' => e = .returned (.tuple #[]) ∧ ∃ S' : List Nat, S'.Perm S ∧ (S'.Pairwise fun i j => betB o (eo l i) (eo l j) = true) ∧ IsO b w' v (S'.map Int.ofNat) ∧ Below b w w' := by
  cases hS0 : S with
  | nil =>
    subst hS0
    have hv' := hv
    obtain ⟨A, c, rfl, _⟩ := hv
    exact (Try.slices_SortFunc_none (α := Nat) A c _ w).mono fun e w' ⟨he, hw⟩ => by
      subst hw
      exact ⟨he, [], List.Perm.refl _, List.Pairwise.nil, hv', Below.refl _ _⟩
  | cons a S1 =>
    rw [← hS0]
    have hna : 0 < S.length := by rw [hS0]; simp
    obtain ⟨A, c, rfl, h1, h2, h3, h4⟩ := hv
    rw [List.length_map] at h1 ⊢
    cases A with
    | none => exact absurd (h3 rfl) (by omega)
    | some ad =>
      obtain ⟨g, rfl, hbg, hgs, hgb, hc⟩ := h4 ad rfl
      let α := {i : Nat // i ∈ S}
      letI : Inhabited α := ⟨⟨a, by rw [hS0]; exact List.mem_cons_self ..⟩⟩
      let enc : α → Value := fun x => .int .i64 (x.1 : Int)
      let cf : α → α → Int := fun x y => cmpO (eo l x.1) (eo l y.1)
      have hlt : ∀ x y : α, ltOf cf x y = betB o (eo l x.1) (eo l y.1) := fun x y => by
        obtain ⟨x1, x2, x3⟩ := hS x.1 x.2
        obtain ⟨y1, y2, y3⟩ := hS y.1 y.2
        exact cmp_bet o _ _ hsd (right_at hright _ x2).sd ((meets_iff _ _).1 x3).2.2.1
      have hap : apartP l = true := by
        unfold rightO at hright
        rw [Bool.and_eq_true] at hright
        exact hright.2
      have hT : ∀ x y : α, ltOf cf x y = false → ltOf cf y x = false → x = y := fun x y e1 e2 => by
        rw [hlt] at e1 e2
        obtain ⟨x1, x2, x3⟩ := hS x.1 x.2
        obtain ⟨y1, y2, y3⟩ := hS y.1 y.2
        by_cases e : x.1 = y.1
        · exact Subtype.ext e
        · have := bet_tot o _ _ (seq_apart hap x1 y1 x2 y2 e) e1
          rw [this] at e2
          cases e2
      have hO : Go.Sort.SWO (ltOf cf) := ⟨fun x => by rw [hlt]; exact bet_irr _ _, fun x y z e1 e2 => by rw [hlt] at *; exact bet_trans _ _ _ _ e1 e2, fun x y z e1 e2 => by
        cases hxz : ltOf cf x z with
        | false => rfl
        | true =>
          cases hyx : ltOf cf y x with
          | true =>
            rw [hlt] at *
            rw [bet_trans _ _ _ _ hyx hxz] at e2
            cases e2
          | false =>
            have := hT x y e1 hyx
            subst this
            rw [hxz] at e2
            cases e2⟩
      have henc : OneCell enc := fun x => rfl
      let d : Array α := S.attach.toArray
      have hds : d.size = S.length := by
        show S.attach.toArray.size = _
        rw [List.size_toArray, List.length_attach]
      have hdj : ∀ j (hj : j < S.length), d[j]! = ⟨S[j], List.getElem_mem hj⟩ := fun j hj => by
        rw [getElem!_pos d j (by omega)]
        show S.attach.toArray[j] = _
        rw [List.getElem_toArray, List.getElem_attach]
      have hH : Go.Sort.Holds enc w g 0 d := fun j hj => by
        rw [hds] at hj
        rw [hdj j hj, Nat.zero_add]
        exact hc j (S[j] : Int) (by rw [List.getElem?_map, List.getElem?_eq_getElem hj]; rfl)
      have hcmp : CmpLays1 Try.prog 68 #[.pointer (some ⟨L, 0, none⟩)] enc cf g 0 d.size w := fun m os dk hk x y => by
        obtain ⟨x1, x2, x3⟩ := hS x.1 x.2
        obtain ⟨y1, y2, y3⟩ := hS y.1 y.2
        have hbs : Grew w0 (sortWorld enc w g 0 m dk os) := Below.trans hg0 (Below.mono (below_sort enc w b g m dk os hbg hgs) hb0)
        exact (cmpc_any l vl L x.1 y.1 _ (hl.grew hbs) (keepB hL hbs) x1 y1).mono fun e w' ⟨he, hw⟩ => ⟨he, hw⟩
      have heq : (.slice (some ⟨g, 0, none⟩) S.length c : Value) = .slice (some ⟨g, 0, none⟩) d.size c := by rw [hds]
      rw [heq]
      refine (Try.slices_SortFunc_total enc henc cf hO 68 #[.pointer (some ⟨L, 0, none⟩)] g 0 c d w (enters_of Try.func68 (by kernel_rfl) rfl) hcmp hH hgs (by rw [hds]; omega) hT).mono ?_
      rintro e w' ⟨he, n, os, hw⟩
      obtain ⟨M, hM⟩ : ∃ M, (d.toList.mergeSort fun x y => !(ltOf cf) y x) = M := ⟨_, rfl⟩
      rw [hM] at hw
      have hpm : M.Perm S.attach := by
        rw [← hM]
        exact List.mergeSort_perm _ _
      have hps : (M.map (·.1)).Perm S := by
        have := hpm.map (·.1)
        rwa [List.attach_map_subtype_val] at this
      have hml : M.length = S.length := by rw [hpm.length_eq, List.length_attach]
      have hsw : M.Pairwise fun x y => (!(ltOf cf) y x) = true := by
        rw [← hM]
        refine List.pairwise_mergeSort (fun x y z e1 e2 => ?_) (fun x y => ?_) _
        · simp only [Bool.not_eq_true'] at *
          exact hO.ntrans z y x e2 e1
        · cases hxy : ltOf cf x y with
          | false => simp
          | true =>
            cases hyx : ltOf cf y x with
            | false => simp
            | true =>
              have := hO.trans x y x hxy hyx
              rw [hO.irrefl] at this
              cases this
      have hnd2 : (M.map (·.1)).Nodup := hps.nodup_iff.2 hnd
      have hsb : (M.map (·.1)).Pairwise fun i j => betB o (eo l i) (eo l j) = true := by
        rw [List.pairwise_map]
        have hn3 := List.pairwise_map.1 hnd2
        refine (hsw.and hn3).imp fun {x y} ⟨e1, e2⟩ => ?_
        rw [← hlt]
        cases hxy : ltOf cf x y with
        | true => rfl
        | false =>
          simp only [Bool.not_eq_true'] at e1
          exact absurd (congrArg Subtype.val (hT x y hxy e1)) e2
      refine ⟨he, M.map (·.1), hps, hsb, ?_, ?_⟩
      · subst hw
        have hH2 := holds_sortWorld enc w g 0 n d M.toArray os hgs hH (by rw [hds, List.size_toArray, hml])
        refine ⟨some ⟨g, 0, none⟩, c, by rw [List.length_map, List.length_map, hml, hds], by rw [List.length_map, List.length_map, hml]; exact h1, h2, (fun h => by cases h), fun ad' ha => ?_⟩
        cases ha
        refine ⟨g, rfl, hbg, Nat.lt_of_lt_of_le hgs (below_sort enc w b g n M.toArray os hbg hgs).size, sort_row enc w g n M.toArray os hgs hgb, fun j x hx => ?_⟩
        rw [List.getElem?_map, List.getElem?_map, Option.map_eq_some_iff] at hx
        obtain ⟨y, hy, rfl⟩ := hx
        rw [Option.map_eq_some_iff] at hy
        obtain ⟨z, hz, rfl⟩ := hy
        have hj := (List.getElem?_eq_some_iff.1 hz).1
        have := hH2 j (by rw [List.size_toArray]; exact hj)
        rw [Nat.zero_add] at this
        have hz2 : M.toArray[j]! = z := by
          rw [getElem!_pos M.toArray j (by rw [List.size_toArray]; exact hj)]
          rw [List.getElem_toArray]
          exact (List.getElem?_eq_some_iff.1 hz).2
        rw [hz2] at this
        exact this
      · subst hw
        exact below_sort enc w b g n M.toArray os hbg hgs
end Go.Proofs.Ytmnfajplfnfgpaa.OI
