/-
  Rooms and amounts as bytes, by the program.
  Conditions: those that each lemma names.
-/
import Derived.Test.YthgigkklefaeeaaRD
namespace Go.Proofs.Ythgigkklefaeeaa.RE
set_option maxRecDepth 100000
open Go Go.RowKit Go.Lib Go.Proofs.Ythgigkklefaeeaa Go.Proofs.Ythgigkklefaeeaa.Facts Go.Proofs.Ythgigkklefaeeaa.Bytes Go.Proofs.Ythgigkklefaeeaa.Puts Go.Proofs.Ythgigkklefaeeaa.Scan Go.Proofs.Ythgigkklefaeeaa.Take Go.Proofs.Ythgigkklefaeeaa.Nums Go.Proofs.Ythgigkklefaeeaa.SumPure Go.Proofs.Ythgigkklefaeeaa.Sum Go.Proofs.Ythgigkklefaeeaa.FP Go.Proofs.Ythgigkklefaeeaa.FW Go.Proofs.Ythgigkklefaeeaa.FX Go.Proofs.Ythgigkklefaeeaa.Ints Go.Proofs.Ythgigkklefaeeaa.PA Go.Proofs.Ythgigkklefaeeaa.RA Go.Proofs.Ythgigkklefaeeaa.RC Go.Proofs.Ythgigkklefaeeaa.RD

structure Rf where
  label : Int
  slot : Int
deriving DecidableEq
def rcs (x : Rf) : List Value := [.int .i64 x.label, .int .i64 x.slot]
abbrev Rfs (w : World) (v : Value) (l : List Rf) : Prop := Rw w v l.length (l.flatMap rcs)
theorem Rfs_at {w : World} {v : Value} {l : List Rf} (h : Rfs w v l) {k : Nat} {x : Rf} (hk : l[k]? = some x) :
    ∃ ad c, v = .slice (some ad) l.length c ∧ w.cell? (ad.add (k * 2)) = some (.int .i64 x.label) ∧ w.cell? ⟨(ad.add (k * 2)).block, (ad.add (k * 2)).off + 1, none⟩ = some (.int .i64 x.slot) := by
  obtain ⟨ad, c, e, _, h0, h1⟩ := Rw.at (f := rcs) (n := 2) (fun _ => rfl) h hk (by decide)
  exact ⟨ad, c, e, h0 _ rfl, h1 1 _ (by decide) rfl⟩
def ucs (n : Nat) : List Value := [.int .u64 (n : Int)]
abbrev Us (w : World) (v : Value) (l : List Nat) : Prop := Rw w v l.length (l.flatMap ucs)
theorem Us_at {w : World} {v : Value} {l : List Nat} (h : Us w v l) {k : Nat} {x : Nat} (hk : l[k]? = some x) :
    ∃ ad c, v = .slice (some ad) l.length c ∧ w.cell? (ad.add k) = some (.int .u64 (x : Int)) := by
  obtain ⟨ad, c, e, _, h0, _⟩ := Rw.at (f := ucs) (n := 1) (fun _ => rfl) h hk (by decide)
  have := h0 _ rfl
  rw [Nat.mul_one] at this
  exact ⟨ad, c, e, this⟩
def orr (l : List Rf) : List UInt8 := (l.map fun x => [b8 x.label, b8 x.slot]).flatten
theorem orr_len (l : List Rf) : (orr l).length = 2 * l.length := by
  unfold orr
  induction l with
  | nil => rfl
  | cons a l ih => simp only [List.map_cons, List.flatten_cons, List.length_append, ih, List.length_cons, List.length_nil]; omega
def ou (l : List Nat) : List UInt8 := (l.map (be 8)).flatten
theorem ou_len (l : List Nat) : (ou l).length = 8 * l.length := by
  unfold ou
  induction l with
  | nil => rfl
  | cons a l ih => simp only [List.map_cons, List.flatten_cons, List.length_append, ih, List.length_cons, be_length]; omega
theorem lit_is (w : World) (l : List Int) (hl : l.length ≤ maxLen) : Is (w.alloc (.cells (iv l).toArray 3)) (.slice (some ⟨w.heap.size, 0, none⟩) l.length l.length) l := by
  refine ⟨some ⟨w.heap.size, 0, none⟩, l.length, rfl, Nat.le_refl _, hl, (fun h => by cases h), fun ad ha j u hu => ?_⟩
  cases ha
  rw [Addr.add_lit, cell_of_row _ _ _ _ _ _ (heap_alloc_new w _)]
  simpa using hu
theorem ref1_any (x : Rf) (w : World) : Calls Try.prog 36 #[.agg #[.int .i64 x.label, .int .i64 x.slot]] w fun e w' => ∃ v', e = .returned v' ∧ Rd (fun k => w.heap.size ≤ k ∧ k < w'.heap.size) w' v' [b8 x.label, b8 x.slot] ∧ Grew w w' := by
  obtain ⟨a, b⟩ := x
  simp only
  have g0 : Grew w ((w.alloc (.cells #[.int .i64 a, .int .i64 b] 35)).alloc (.cells #[.int .i64 a, .int .i64 b] 3)) := by unfold Grew; go_grown
  have G0 := Lib.hid g0
  have HI := Lib.hid (lit_is (w.alloc (.cells #[.int .i64 a, .int .i64 b] 35)) [a, b] (by simp [maxLen]))
  clear g0
  go_enter Try.func36, Try.ntmps36
  go_wp2_with fail
  refine (nums_any _ _ [a, b] ?_ (by simp)).mono ?_
  · have := HI.out
    simpa [iv] using this
  rintro e w1 ⟨v1, rfl, o1, g1⟩
  have o2 := Rd.of_own (l := [b8 a, b8 b]) o1 rfl
  go_wp2
  go_returns
  refine ⟨_, rfl, o2.mono fun k hk => ⟨Nat.le_trans (Below.size G0.out) hk.1, hk.2⟩, G0.out.trans g1⟩

set_option maxHeartbeats 2000000 in
theorem eachR (w : World) (A0 : Option Addr) (c0 : Nat) (l : List Rf) (h : Rfs w (.slice A0 l.length c0) l) (hl : l.length ≤ 17592186044416) : Calls Try.prog 35 #[.slice A0 l.length c0, .func (Fn.func 36) #[] #[]] w fun e w' => ∃ v', e = .returned v' ∧ w'.ownsRow w.heap.size 5 1 v' (orr l).length (bv (orr l)) ∧ Grew w w' := by
  have H := Lib.hid h
  have HL := Lib.hid hl
  clear h hl
  go_enter Try.func35, Try.ntmps35
  go_wp2
  go_loopg [5, 10] l.length (fun g s5 s10 wx => ∃ (k n : Nat) (A : Option Addr) (c : Nat), k + g = l.length ∧ s10 = .int .i64 (k : Int) ∧ s5 = .slice A n c ∧ Hid (n = (orr (l.take k)).length) ∧ Hid (wx.ownsRow w.heap.size 5 1 (.slice A n c) (orr (l.take k)).length (bv (orr (l.take k)))) ∧ Hid (Grew w wx))
  case atStart => exact ⟨0, 0, none, 0, by omega, rfl, rfl, Lib.hid rfl, Lib.hid (World.ownsRow_nil _ _ _ _), Lib.hid (Grew.refl _)⟩
  case round =>
    obtain ⟨k, n, A, c, hkg, rfl, rfl, HN, HO, HG⟩ := hrel
    cases gk with
    | zero =>
      have hkz : ¬ ((k : Int) < (l.length : Int)) := by omega
      have HO2 : Hid (wr.ownsRow w.heap.size 5 1 (.slice A n c) (orr l).length (bv (orr l))) := Lib.hid (by have := HO.out; rwa [List.take_of_length_le (by omega)] at this)
      clear HO HN hkg
      go_wp2
      go_returns
      exact ⟨_, rfl, HO2.out, HG.out⟩
    | succ g =>
      have hkz : ((k : Int) < (l.length : Int)) := by omega
      obtain ⟨x, hx⟩ : ∃ x, l[k]? = some x := ⟨_, List.getElem?_eq_getElem (by omega)⟩
      obtain ⟨ad, c', e, hc0, hc1⟩ := Rfs_at (Rw.grew H.out HG.out) hx
      injection e with e1 _ e3
      subst e1 e3
      have hxe : l[k] = x := by rw [List.getElem?_eq_getElem (by omega)] at hx; injection hx
      have HT : Hid (orr (l.take (k + 1)) = orr (l.take k) ++ [b8 x.label, b8 x.slot]) := Lib.hid (by
        unfold orr
        rw [List.take_succ_eq_append_getElem (by omega), List.map_append]
        simp [hxe])
      clear hx hxe
      have hkz2 := hkz
      clear hkz
      have hkz := hkz2
      have HK := Lib.hid (show k + 1 ≤ l.length by omega)
      go_wp2_with fail
      refine (ref1_any x _).mono ?_
      rintro e w2 ⟨v2, rfl, r2, g2⟩
      obtain ⟨A2, c2, rfl, _⟩ := id r2
      have g2 : Grew wr w2 := Grew.trans ((Below.refl _ _).alloc (Nat.le_refl _) _) g2
      obtain ⟨v4, w4, r4, o4, b4, _⟩ := run_app2 w2 w.heap.size _ A2 c2 _ [b8 x.label, b8 x.slot] _ (own_grew HO.out g2) r2 (by have := HL.out; rw [orr_len]; simp; omega) (Nat.le_trans HG.out.size g2.size)
      rw [← HT.out] at o4
      obtain ⟨A4, c4, rfl⟩ := own_some o4
      have HR4 := Lib.hid r4
      have HO4 := Lib.hid o4
      have HG4 : Hid (Grew w w4) := Lib.hid ((show Below w.heap.size _ _ from HG.out.trans g2).trans b4)
      obtain ⟨n4, hn4⟩ : ∃ n4, (orr (l.take (k + 1))).length = n4 := ⟨_, rfl⟩
      have HN4 := Lib.hid hn4
      rw [hn4] at HR4
      clear r4 o4 b4 g2 r2 hn4
      go_wp2_with (at_builtin; refine wpList_app' rfl (.tmp 14) (.tmp 17) 23 23 rfl _ _ rfl rfl _ w4 (by exact HR4.out) ?_)
      go_roundg g
      case measure => omega
      case rel => exact ⟨k + 1, n4, A4, c4, by omega, by first | rfl | (rw [PA.wr1b (n := l.length) (by omega) (by have := HL.out; omega)]), rfl, Lib.hid HN4.out.symm, Lib.hid (by have := HO4.out; rw [← HN4.out]; exact this), HG4⟩


set_option maxHeartbeats 2000000 in
theorem eachU (w : World) (A0 : Option Addr) (c0 : Nat) (l : List Nat) (h : Us w (.slice A0 l.length c0) l) (hl : l.length ≤ 17592186044416) : Calls Try.prog 37 #[.slice A0 l.length c0, .func (Fn.func 38) #[] #[]] w fun e w' => ∃ v', e = .returned v' ∧ w'.ownsRow w.heap.size 5 1 v' (ou l).length (bv (ou l)) ∧ Grew w w' := by
  have H := Lib.hid h
  have HL := Lib.hid hl
  clear h hl
  go_enter Try.func37, Try.ntmps37
  go_wp2
  go_loopg [5, 10] l.length (fun g s5 s10 wx => ∃ (k n : Nat) (A : Option Addr) (c : Nat), k + g = l.length ∧ s10 = .int .i64 (k : Int) ∧ s5 = .slice A n c ∧ Hid (n = (ou (l.take k)).length) ∧ Hid (wx.ownsRow w.heap.size 5 1 (.slice A n c) (ou (l.take k)).length (bv (ou (l.take k)))) ∧ Hid (Grew w wx))
  case atStart => exact ⟨0, 0, none, 0, by omega, rfl, rfl, Lib.hid rfl, Lib.hid (World.ownsRow_nil _ _ _ _), Lib.hid (Grew.refl _)⟩
  case round =>
    obtain ⟨k, n, A, c, hkg, rfl, rfl, HN, HO, HG⟩ := hrel
    cases gk with
    | zero =>
      have hkz : ¬ ((k : Int) < (l.length : Int)) := by omega
      have HO2 : Hid (wr.ownsRow w.heap.size 5 1 (.slice A n c) (ou l).length (bv (ou l))) := Lib.hid (by have := HO.out; rwa [List.take_of_length_le (by omega)] at this)
      clear HO HN hkg
      go_wp2
      go_returns
      exact ⟨_, rfl, HO2.out, HG.out⟩
    | succ g =>
      have hkz : ((k : Int) < (l.length : Int)) := by omega
      obtain ⟨x, hx⟩ : ∃ x, l[k]? = some x := ⟨_, List.getElem?_eq_getElem (by omega)⟩
      obtain ⟨ad, c', e, hc0⟩ := Us_at (Rw.grew H.out HG.out) hx
      injection e with e1 _ e3
      subst e1 e3
      have hxe : l[k] = x := by rw [List.getElem?_eq_getElem (by omega)] at hx; injection hx
      have HT : Hid (ou (l.take (k + 1)) = ou (l.take k) ++ (be 8 x)) := Lib.hid (by
        unfold ou
        rw [List.take_succ_eq_append_getElem (by omega), List.map_append]
        simp [hxe])
      clear hx hxe
      have hkz2 := hkz
      clear hkz
      have hkz := hkz2
      have HK := Lib.hid (show k + 1 ≤ l.length by omega)
      go_wp2_with fail
      refine (num8_any x wr).mono ?_
      rintro e w2 ⟨v2, rfl, r2, g2⟩
      obtain ⟨A2, c2, rfl, _⟩ := id r2
      have g2 : Grew wr w2 := Grew.trans (Grew.refl _) g2
      obtain ⟨v4, w4, r4, o4, b4, _⟩ := run_app2 w2 w.heap.size _ A2 c2 _ (be 8 x) _ (own_grew HO.out g2) r2 (by have := HL.out; rw [ou_len, be_length]; simp; omega) (Nat.le_trans HG.out.size g2.size)
      rw [← HT.out] at o4
      obtain ⟨A4, c4, rfl⟩ := own_some o4
      have HR4 := Lib.hid r4
      have HO4 := Lib.hid o4
      have HG4 : Hid (Grew w w4) := Lib.hid ((show Below w.heap.size _ _ from HG.out.trans g2).trans b4)
      obtain ⟨n4, hn4⟩ : ∃ n4, (ou (l.take (k + 1))).length = n4 := ⟨_, rfl⟩
      have HN4 := Lib.hid hn4
      rw [hn4] at HR4
      clear r4 o4 b4 g2 r2 hn4
      go_wp2_with (at_builtin; refine wpList_app' rfl (.tmp 14) (.tmp 17) 23 23 rfl _ _ rfl rfl _ w4 (by exact HR4.out) ?_)
      go_roundg g
      case measure => omega
      case rel => exact ⟨k + 1, n4, A4, c4, by omega, by first | rfl | (rw [PA.wr1b (n := l.length) (by omega) (by have := HL.out; omega)]), rfl, Lib.hid HN4.out.symm, Lib.hid (by have := HO4.out; rw [← HN4.out]; exact this), HG4⟩

theorem refs_any (w : World) (v : Value) (l : List Rf) (h : Rfs w v l) (hl : l.length ≤ 17592186044416) : Calls Try.prog 19 #[v] w fun e w' => ∃ v', e = .returned v' ∧ w'.ownsRow w.heap.size 5 1 v' (orr l).length (bv (orr l)) ∧ Grew w w' := by
  obtain ⟨A, c, rfl, _⟩ := h.slice
  have H := Lib.hid h
  have HL := Lib.hid hl
  clear h hl
  go_enter Try.func19, Try.ntmps19
  go_wp2_with fail
  refine (eachR w A c l H.out HL.out).mono ?_
  rintro e w1 ⟨v1, rfl, o1, g1⟩
  go_wp2
  go_returns
  exact ⟨_, rfl, o1, g1⟩
theorem amounts_any (w : World) (v : Value) (l : List Nat) (h : Us w v l) (hl : l.length ≤ 17592186044416) : Calls Try.prog 20 #[v] w fun e w' => ∃ v', e = .returned v' ∧ w'.ownsRow w.heap.size 5 1 v' (ou l).length (bv (ou l)) ∧ Grew w w' := by
  obtain ⟨A, c, rfl, _⟩ := h.slice
  have H := Lib.hid h
  have HL := Lib.hid hl
  clear h hl
  go_enter Try.func20, Try.ntmps20
  go_wp2_with fail
  refine (eachU w A c l H.out HL.out).mono ?_
  rintro e w1 ⟨v1, rfl, o1, g1⟩
  go_wp2
  go_returns
  exact ⟨_, rfl, o1, g1⟩
end Go.Proofs.Ythgigkklefaeeaa.RE
