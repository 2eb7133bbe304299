/-
  All that a line was told, by the document.
  Conditions: those that each lemma names.
-/
import Derived.Test.YthgigkklefaeeaaRV
import Derived.Test.YthgigkklefaeeaaRK
import Derived.Test.YthgigkklefaeeaaFV2
namespace Go.Proofs.Ythgigkklefaeeaa.RW
set_option maxRecDepth 100000
open Go Go.RowKit Go.Lib Go.Proofs.Ythgigkklefaeeaa Go.Proofs.Ythgigkklefaeeaa.Facts Go.Proofs.Ythgigkklefaeeaa.Bytes Go.Proofs.Ythgigkklefaeeaa.Puts Go.Proofs.Ythgigkklefaeeaa.Scan Go.Proofs.Ythgigkklefaeeaa.Take Go.Proofs.Ythgigkklefaeeaa.Nums Go.Proofs.Ythgigkklefaeeaa.SumPure Go.Proofs.Ythgigkklefaeeaa.Sum Go.Proofs.Ythgigkklefaeeaa.FP Go.Proofs.Ythgigkklefaeeaa.FW Go.Proofs.Ythgigkklefaeeaa.FX Go.Proofs.Ythgigkklefaeeaa.Ints Go.Proofs.Ythgigkklefaeeaa.PA Go.Proofs.Ythgigkklefaeeaa.RA Go.Proofs.Ythgigkklefaeeaa.RC Go.Proofs.Ythgigkklefaeeaa.RD Go.Proofs.Ythgigkklefaeeaa.RE Go.Proofs.Ythgigkklefaeeaa.RF Go.Proofs.Ythgigkklefaeeaa.RG Go.Proofs.Ythgigkklefaeeaa.RH Go.Proofs.Ythgigkklefaeeaa.RI Go.Proofs.Ythgigkklefaeeaa.RK Go.Proofs.Ythgigkklefaeeaa.RL Go.Proofs.Ythgigkklefaeeaa.RS Go.Proofs.Ythgigkklefaeeaa.RT Go.Proofs.Ythgigkklefaeeaa.RU Go.Proofs.Ythgigkklefaeeaa.RV Go.Proofs.Ythgigkklefaeeaa.FS Go.Proofs.Ythgigkklefaeeaa.FV Go.Proofs.Ythgigkklefaeeaa.FV2

theorem frall_eq (S : Nat → Prop) (v : Value) (l : List UInt8) (most : Int) (w : World) (x : List (List UInt8)) (y : Int) (h : Rd S w v l) (hl : l.length ≤ 1048576) (hq : allP l most = (x, y)) :
    Calls Try.prog 28 #[v, .int .i64 most] w fun e w' => ∃ v', e = .returned (.tuple #[v', .int .i64 y]) ∧ BS w.heap.size w' v' x ∧ Grew w w' := by
  have := FV2.rall_any S v l most w h hl
  rwa [hq] at this
theorem rread_eq (S : Nat → Prop) (v : Value) (l : List UInt8) (w : World) (x : Ou) (e : Int) (h : Rd S w v l) (hq : readP l = (x, e)) :
    Calls Try.prog 7 #[v] w fun r w' => ∃ A c, r = .returned (.tuple #[ov x A c, .int .i64 e]) ∧ Rd (fun b => S b ∧ b < w.heap.size) w' (.slice A x.d.length c) x.d ∧ Grew w w' := by
  have := rread_any S v l w h
  rwa [hq] at this
set_option maxHeartbeats 4000000 in
theorem rall_core (S : Nat → Prop) (v : Value) (l : List UInt8) (w : World) (h : Rd S w v l) (hl : l.length ≤ 1048576) (fs : List (List UInt8)) (f : Int) (hq : allP l 250 = (fs, f)) (R : List Ou × Int) (hR : (if f = 0 then goR fs [] else ([], f)) = R) :
    Calls Try.prog 9 #[v] w fun e w' => ∃ v', e = .returned (.tuple #[v', .int .i64 R.2]) ∧ OS w.heap.size w' v' R.1 ∧ Grew w w' := by
  have HR := Lib.hid h
  have HL := Lib.hid hl
  have HQ := Lib.hid hq
  have hmem : ∀ x ∈ fs, x.length ≤ 255 := fun x hx => allP_mem l x (by rw [hq]; exact hx)
  have HMEM := Lib.hid hmem
  have hfl : fs.length ≤ 1048576 := by
    have := goP_len 250 l.length [] l
    have e : goP 250 l.length [] l = (fs, f) := hq
    rw [e] at this
    simp at this
    omega
  have HFL := Lib.hid hfl
  obtain ⟨A0, c0, rfl, hz⟩ := id h
  clear h hl hq hz hmem
  go_enter Try.func9, Try.ntmps9
  go_wp2_with fail
  refine (frall_eq S _ l 250 w fs f HR.out HL.out HQ.out).mono ?_
  rintro e w2 ⟨v2, rfl, b2, g2⟩
  obtain ⟨A2, c2, rfl⟩ := bs_len b2
  have G2 := Lib.hid g2
  have B2 := Lib.hid (RR.of_bs b2)
  clear b2 g2
  by_cases hf : f = 0
  · have d1 : (f != 0) = false := by simp [hf]
    rw [if_pos hf] at hR
    have HRR := Lib.hid hR
    clear hf hR
    go_wp2
    go_loopg [6, 7] fs.length (fun q s6 s21 wx => ∃ (i n : Nat) (A : Option Addr) (c : Nat) (acc : List Ou), i + q = fs.length ∧ s21 = .int .i64 (i : Int) ∧ s6 = .slice A n c ∧ Hid (n = acc.length) ∧ Hid (acc.length ≤ i) ∧ Hid (goR (fs.drop i) acc = R) ∧ Hid (OS w2.heap.size wx (.slice A n c) acc) ∧ Hid (Grew w2 wx))
    case atStart => exact ⟨0, 0, none, 0, [], by omega, rfl, rfl, Lib.hid rfl, Lib.hid (Nat.le_refl _), Lib.hid (by rw [List.drop_zero]; exact HRR.out), Lib.hid (OS.nil _ _), Lib.hid (Grew.refl _)⟩
    case round =>
      obtain ⟨i, n, A, c, acc, hiq, rfl, rfl, HN, HAI, HGO, HOS, HG⟩ := hrel
      cases gk with
      | zero =>
        have hlt : ¬ ((i : Int) < (fs.length : Int)) := by omega
        have hRR : R = (acc, 0) := by
          have := HGO.out
          rw [List.drop_of_length_le (by omega)] at this
          exact this.symm
        have HE := Lib.hid hRR
        clear hRR HGO HRR hiq
        go_wp2
        go_returns
        rw [HE.out]
        exact ⟨_, rfl, HOS.out.base G2.out.size, G2.out.trans HG.out⟩
      | succ q =>
        have hlt : (i : Int) < (fs.length : Int) := by omega
        obtain ⟨x, hx⟩ : ∃ x, fs[i]? = some x := ⟨_, List.getElem?_eq_getElem (by omega)⟩
        obtain ⟨A', c', e1, qa⟩ := B2.out
        injection e1 with e1 _ e3
        subst e1 e3
        obtain ⟨ad, A5, c5, rfl, hcell0, hrx0⟩ := qa i x hx
        have hcell := RC.cellB HG.out hcell0
        have hrx := hrx0.grew HG.out
        have HX := Lib.hid hrx
        have hxl := HMEM.out x (List.mem_of_getElem? hx)
        have HXL := Lib.hid hxl
        have hdr : fs.drop i = x :: fs.drop (i + 1) := by
          rw [List.drop_eq_getElem_cons (by omega)]
          rw [List.getElem?_eq_getElem (by omega)] at hx
          injection hx with hx
          rw [hx]
        obtain ⟨⟨y, ye⟩, hy⟩ : ∃ r, readP x = r := ⟨_, rfl⟩
        have HY := Lib.hid hy
        have hgo := HGO.out
        rw [hdr] at hgo
        unfold goR at hgo
        rw [hy] at hgo
        simp only at hgo
        have HIQ := Lib.hid hiq
        have hwi : wrap64 ((i : Int) + 1) = ((i + 1 : Nat) : Int) := by have := HFL.out; unfold wrap64; omega
        have HGO2 := Lib.hid hgo
        clear qa hrx hrx0 hcell0 hxl hdr hy hgo HGO hx hiq
        go_wp2_with fail
        refine (rread_eq _ _ x wr y ye HX.out HY.out).mono ?_
        rintro e w3 ⟨A6, c6, rfl, r3, g3⟩
        have g4 := box_cells w3 y A6 c6
        have HG4 := Lib.hid ((HG.out.trans g3).trans g4)
        have HOS4 := Lib.hid ((HOS.out.grew g3).grew g4)
        have HR4 : Hid (Rd (fun b => b < w2.heap.size ∧ b < wr.heap.size) _ (.slice A6 y.d.length c6) y.d) := Lib.hid (r3.grew g4)
        have hown := (HOS.out.own)
        have HOWN := Lib.hid hown
        clear r3 g3 g4 hown
        unfold ov
        by_cases hye : ye = 0
        · have d2 : (ye != 0) = false := by simp [hye]
          have hgo := HGO2.out
          rw [if_pos hye] at hgo
          have HGO3 := Lib.hid hgo
          obtain ⟨A7, c7, W7, hr7, os7, b7, _⟩ := os_app _ w2.heap.size _ acc y A6 c6 _ HOS4.out HR4.out (fun b hb e => by have := (HOWN.out b e).1; omega) (by have := HAI.out; have := HFL.out; have := HIQ.out; omega) HG4.out.size
          have hsz : ∀ ob, (w3.alloc ob).heap.size = w3.heap.size + 1 := fun ob => by simp
          rw [hsz] at hr7
          have HR7 := Lib.hid hr7
          have HOS7 := Lib.hid os7
          have HG7 : Hid (Grew w2 W7) := Lib.hid ((show Below w2.heap.size w2 _ from HG4.out).trans b7)
          obtain ⟨n7, hn7⟩ : ∃ n7, (acc ++ [y]).length = n7 := ⟨_, rfl⟩
          have HN7 := Lib.hid hn7
          rw [hn7] at HR7 HOS7
          have HN8 : Hid (n7 = acc.length + 1) := Lib.hid (by rw [← hn7]; simp)
          clear hye hgo HGO2 hr7 os7 b7 hn7 hsz HOS4 HR4 HG4
          go_wp2_with (at_builtin; refine wpList_app' rfl (.tmp 35) (.tmp 37) 31 31 rfl _ _ rfl rfl _ W7 (by exact HR7.out) ?_)
          go_roundg q
          case measure => have := HIQ.out; omega
          case rel => exact ⟨i + 1, n7, A7, c7, acc ++ [y], by have := HIQ.out; omega, by first | rfl | simp [hwi], rfl, Lib.hid (by rw [HN7.out]), Lib.hid (by have := HAI.out; have := HN8.out; have := HN7.out; omega), HGO3, HOS7, HG7⟩
        · have d2 : (ye != 0) = true := by simp [hye]
          have hgo := HGO2.out
          rw [if_neg hye] at hgo
          have HE := Lib.hid hgo.symm
          clear hye hgo HGO2
          go_wp2
          go_returns
          rw [HE.out]
          exact ⟨_, rfl, OS.nil _ _, G2.out.trans HG4.out⟩
  · have d1 : (f != 0) = true := by simp [hf]
    rw [if_neg hf] at hR
    have HE := Lib.hid hR.symm
    clear hf hR
    go_wp2
    go_returns
    rw [HE.out]
    exact ⟨_, rfl, OS.nil _ _, G2.out⟩
theorem rall_any (S : Nat → Prop) (v : Value) (l : List UInt8) (w : World) (h : Rd S w v l) (hl : l.length ≤ 1048576) :
    Calls Try.prog 9 #[v] w fun e w' => ∃ v', e = .returned (.tuple #[v', .int .i64 (allO l).2]) ∧ OS w.heap.size w' v' (allO l).1 ∧ Grew w w' :=
  rall_core S v l w h hl (allP l 250).1 (allP l 250).2 rfl (allO l) rfl
end Go.Proofs.Ythgigkklefaeeaa.RW
