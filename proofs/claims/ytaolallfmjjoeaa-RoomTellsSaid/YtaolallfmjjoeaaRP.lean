/-
  RoomLinks: any links and closings, one behind the other.
  Conditions: those that each lemma names.
-/
import Derived.Test.YtaolallfmjjoeaaRJ
import Derived.Test.YtaolallfmjjoeaaRM
import Derived.Deep.DeepCutAuto
import Derived.Deep.CutBlock
namespace Go.Proofs.Ytaolallfmjjoeaa.RP
set_option maxRecDepth 100000
open Go Go.RowKit Go.Lib Go.Proofs.Ytaolallfmjjoeaa Go.Proofs.Ytaolallfmjjoeaa.Facts Go.Proofs.Ytaolallfmjjoeaa.Ints Go.Proofs.Ytaolallfmjjoeaa.TI Go.Proofs.Ytaolallfmjjoeaa.TP Go.Proofs.Ytaolallfmjjoeaa.TB Go.Proofs.Ytaolallfmjjoeaa.TC Go.Proofs.Ytaolallfmjjoeaa.TD Go.Proofs.Ytaolallfmjjoeaa.TE Go.Proofs.Ytaolallfmjjoeaa.TF Go.Proofs.Ytaolallfmjjoeaa.TH Go.Proofs.Ytaolallfmjjoeaa.RA Go.Proofs.Ytaolallfmjjoeaa.RB Go.Proofs.Ytaolallfmjjoeaa.RC Go.Proofs.Ytaolallfmjjoeaa.RD Go.Proofs.Ytaolallfmjjoeaa.RE Go.Proofs.Ytaolallfmjjoeaa.RF Go.Proofs.Ytaolallfmjjoeaa.RG Go.Proofs.Ytaolallfmjjoeaa.RH Go.Proofs.Ytaolallfmjjoeaa.RI Go.Proofs.Ytaolallfmjjoeaa.RJ Go.Proofs.Ytaolallfmjjoeaa.RM Go.Proofs.Ytaolallfmjjoeaa.Bytes

structure Ld where
  fl : Int
  fs : Int
  tl : Int
  ts : Int
  dir : Int
  lk : Bool
def lcs (x : Ld) : List Value := [.int .i64 x.fl, .int .i64 x.fs, .int .i64 x.tl, .int .i64 x.ts, .int .i64 x.dir, .bool x.lk]
abbrev Lds (w : World) (v : Value) (l : List Ld) : Prop := Rw w v l.length (l.flatMap lcs)
theorem Lds_at {w : World} {v : Value} {l : List Ld} (h : Lds w v l) {k : Nat} {x : Ld} (hk : l[k]? = some x) :
    ∃ ad c, v = .slice (some ad) l.length c ∧ l.length ≤ c ∧ w.cell? (ad.add (k * 6)) = some (.int .i64 x.fl) ∧ w.cell? ⟨(ad.add (k * 6)).block, (ad.add (k * 6)).off + 1, none⟩ = some (.int .i64 x.fs) ∧ w.cell? ⟨(ad.add (k * 6)).block, (ad.add (k * 6)).off + 2, none⟩ = some (.int .i64 x.tl) ∧ w.cell? ⟨(ad.add (k * 6)).block, (ad.add (k * 6)).off + 3, none⟩ = some (.int .i64 x.ts) ∧ w.cell? ⟨(ad.add (k * 6)).block, (ad.add (k * 6)).off + 4, none⟩ = some (.int .i64 x.dir) ∧ w.cell? ⟨(ad.add (k * 6)).block, (ad.add (k * 6)).off + 5, none⟩ = some (.bool x.lk) := by
  obtain ⟨ad, c, e, hc, h0, h1⟩ := Rw.at (f := lcs) (n := 6) (fun _ => rfl) h hk (by decide)
  exact ⟨ad, c, e, hc, h0 _ rfl, h1 1 _ (by decide) rfl, h1 2 _ (by decide) rfl, h1 3 _ (by decide) rfl, h1 4 _ (by decide) rfl, h1 5 _ (by decide) rfl⟩
theorem up1' {z : Int} (h : 0 ≤ z ∧ z ≤ 12) : wrap64 (z + 1) = z + 1 := by unfold wrap64; omega
theorem dn1 {z : Int} (h : 0 ≤ z ∧ z ≤ 12) : wrap64 (z - 1) = z - 1 := by unfold wrap64; omega
theorem find_no {l : List Ex} {a b d : Int} (h : slE l a b d = -1) : (findP l a b d).2 = false := by unfold findP; rw [if_pos h]
theorem find_yes {l : List Ex} {a b d : Int} (h : slE l a b d ≠ -1) : (findP l a b d).2 = true := by unfold findP; rw [if_neg h]
theorem close_at {R : List Ex} {er : Int} {w w' : World} {e : Ending} (n : Nat) (hn : R.length = n) (h : ∃ v', e = .returned (.tuple #[v', .int .i64 er]) ∧ Exs w' v' R ∧ Grew w w') : ∃ A c, e = .returned (.tuple #[.slice A n c, .int .i64 er]) ∧ Hid (Exs w' (.slice A n c) R) ∧ Grew w w' := by
  obtain ⟨v', e1, hi, hg⟩ := h
  obtain ⟨A, c, rfl, _⟩ := hi.slice
  subst hn
  exact ⟨A, c, e1, Lib.hid hi, hg⟩

set_option maxHeartbeats 8000000 in
theorem law (k0 : Nat) (h255 : k0 ≤ 255) (v2 : Value) (D : List Ld) (w : World) (hD : Lds w v2 D) : Calls Try.prog 4 #[.int .u8 (k0 : Int), v2] w fun e w' => e = .returned (.bool true) ∧ Grew w w' := by
  have HAL := Lib.hid RJ.alive_any
  have HD := Lib.hid hD
  obtain ⟨AD, cD, rfl, hcD, hcM⟩ := hD.slice
  obtain ⟨m, hm⟩ : ∃ m, m = k0 % 13 := ⟨_, rfl⟩
  have hm12 : m ≤ 12 := by omega
  have hrem : Int.tmod (k0 : Int) 13 = (m : Int) := by rw [hm]; rfl
  have hwc : wrap64 (k0 : Int) = (k0 : Int) := by unfold wrap64; omega
  have HREM := Lib.hid hrem
  have HWC := Lib.hid hwc
  have hmk := mk_exits m (by omega)
  have HM12 := Lib.hid hm12
  have ga : Grew w (w.alloc (.cells ((List.replicate m zex).flatMap ecs).toArray 41)) := by unfold Grew; go_grown
  have hi0 := exits_made w (List.replicate m zex) (by rw [List.length_replicate]; omega)
  rw [List.length_replicate] at hi0
  have HI0 : Hid (Exs (w.alloc (.cells ((List.replicate m zex).flatMap ecs).toArray 41)) (.slice (some ⟨w.heap.size, 0, none⟩) m m) (List.replicate m zex)) := Lib.hid hi0
  have HG0 := Lib.hid ga
  clear ga hi0 hD hm hm12 hcD hcM
  go_enter Try.func4, Try.ntmps4
  go_upto_block 0 with fail
  clear hrem hwc hmk
  generalize w.alloc (.cells ((List.replicate m zex).flatMap ecs).toArray 41) = wm at HI0 HG0
  go_cut [5, 6, 7] (fun s5 s6 s7 wx => ∃ (now : List Ex) (A : Option Addr) (c : Nat), s5 = .slice A m c ∧ Hid (Exs wx (.slice A m c) now) ∧ Hid (exq [] now = true ∧ now.length = m) ∧ Hid (Grew w wx))
  case first =>
    go_wp2_with fail
    go_loopg [5, 6, 7] D.length (fun g s5 s6 s7 wx => ∃ (i : Nat) (now : List Ex) (A : Option Addr) (c : Nat) (z : Int), s5 = .slice A m c ∧ s6 = .int .i64 z ∧ s7 = .int .i64 i ∧ D.length - i ≤ g ∧ Hid (Exs wx (.slice A m c) now) ∧ Hid (exq [] now = true ∧ now.length = m ∧ z = cE now) ∧ Hid (Grew w wx))
    case atStart => exact ⟨0, List.replicate m zex, some ⟨w.heap.size, 0, none⟩, m, 0, rfl, rfl, rfl, by omega, HI0, Lib.hid ⟨exq_zero m, by simp, (cE_zero m).symm⟩, HG0⟩
    case round =>
      clear HI0 HG0
      obtain ⟨i, now, A, c, z, rfl, rfl, rfl, hgg, HI, HP, HG⟩ := hrel
      by_cases hgo : i < D.length ∧ i < 60
      · obtain ⟨hiD, hi60⟩ := hgo
        have hiz : (i : Int) < (D.length : Int) := by omega
        have hi6 : (i : Int) < 60 := by omega
        have HGG : Hid (D.length - (i + 1) < gk) := Lib.hid (by omega)
        have HWI := Lib.hid (wr1b hi60 (by decide))
        have hx : D[i]? = some D[i] := List.getElem?_eq_getElem hiD
        obtain ⟨adD, cD', eD, _, d0, d1, d2, d3, d4, d5⟩ := Lds_at (HD.out.grew HG.out) hx
        injection eD with eD1 _ eD3
        subst eD1 eD3
        have HZB : Hid (0 ≤ z ∧ z ≤ 12) := Lib.hid (by rw [HP.out.2.2]; have := cE_le now; have := HP.out.2.1; have := HM12.out; omega)
        generalize D[i] = x at *
        obtain ⟨fl, fs, tl, ts, d, lk⟩ := x
        simp only at d0 d1 d2 d3 d4 d5
        have HFI := Lib.hid (fun W (hg : Grew wr W) => find_any (.slice A m c) now fl fs d W (HI.out.grew hg))
        have g1 : Grew wr (wr.alloc (.cells #[.int .i64 fl, .int .i64 fs, .int .i64 tl, .int .i64 ts, .int .i64 d, .bool lk] 35)) := by unfold Grew; go_grown
        have G1 := Lib.hid g1
        have B1 := Lib.hid (heap_alloc_new wr (.cells #[.int .i64 fl, .int .i64 fs, .int .i64 tl, .int .i64 ts, .int .i64 d, .bool lk] 35))
        clear hx hgg hiD hi60 g1
        cases lk with
        | true =>
          have HLK := Lib.hid (fun W (hg : Grew wr W) => link_any (.slice A m c) now fl fs tl ts d W (HI.out.grew hg) (by rw [HP.out.2.1]; have := HM12.out; omega))
          rcases link_step now ⟨true, fl, fs, tl, ts, d⟩ rfl HP.out.1 with ⟨_, hl⟩ | ⟨hs, hl⟩ | ⟨hs, hl, hcnt⟩ | ⟨k, hs, hk, hku, hl, hq, hf, hcnt⟩
          · rw [hl] at HLK
            generalize findP now fl fs d = f at *
            obtain ⟨⟨ta, tb⟩, wb⟩ := f
            clear hl
            obtain ⟨b0, b1, b2, b3, b4, b5⟩ := it_cells B1.out
            go_wp2_with fail
            refine (HFI.out _ G1.out).mono ?_
            rintro e w2 ⟨rfl, hg⟩
            have G2 := Lib.hid ((G1.out.trans hg).trans (show Grew w2 (w2.alloc (.cells #[.int .i64 ta, .int .i64 tb] 33)) by unfold Grew; go_grown))
            have B2 := Lib.hid (keepB (keepB B1.out hg) (show Grew w2 (w2.alloc (.cells #[.int .i64 ta, .int .i64 tb] 33)) by unfold Grew; go_grown))
            clear hg b0 b1 b2 b3 b4 b5 d0 d1 d2 d3 d4 d5 HFI
            obtain ⟨b0, b1, b2, b3, b4, b5⟩ := it_cells B2.out
            go_wp2_with fail
            refine (HLK.out _ G2.out).mono ?_
            rintro e w3 ha
            obtain ⟨A3, c3, rfl, HI3, hg⟩ := ansE_at 0 rfl ha
            have GG := Lib.hid (G2.out.trans hg)
            have B3 := Lib.hid (keepB B2.out hg)
            clear ha hg HLK b0 b1 b2 b3 b4 b5
            clear HI3
            cases wb
            all_goals
              go_wp2
              go_roundg (D.length - (i + 1))
              case measure => exact HGG.out
              case rel => exact ⟨i + 1, now, A, c, z, rfl, by first | rfl | (simp; done), by first | (simp; done) | rw [HWI.out], Nat.le_refl _, Lib.hid (HI.out.grew GG.out), HP, Lib.hid (HG.out.trans GG.out)⟩
          · rw [hl] at HLK
            have hw := find_yes hs
            generalize findP now fl fs d = f at *
            obtain ⟨⟨ta, tb⟩, wb⟩ := f
            simp only at hw
            subst hw
            clear hl hs
            obtain ⟨b0, b1, b2, b3, b4, b5⟩ := it_cells B1.out
            go_wp2_with fail
            refine (HFI.out _ G1.out).mono ?_
            rintro e w2 ⟨rfl, hg⟩
            have G2 := Lib.hid ((G1.out.trans hg).trans (show Grew w2 (w2.alloc (.cells #[.int .i64 ta, .int .i64 tb] 33)) by unfold Grew; go_grown))
            have B2 := Lib.hid (keepB (keepB B1.out hg) (show Grew w2 (w2.alloc (.cells #[.int .i64 ta, .int .i64 tb] 33)) by unfold Grew; go_grown))
            clear hg b0 b1 b2 b3 b4 b5 d0 d1 d2 d3 d4 d5 HFI
            obtain ⟨b0, b1, b2, b3, b4, b5⟩ := it_cells B2.out
            go_wp2_with fail
            refine (HLK.out _ G2.out).mono ?_
            rintro e w3 ha
            obtain ⟨A3, c3, rfl, HI3, hg⟩ := ansE_at 0 rfl ha
            have GG := Lib.hid (G2.out.trans hg)
            have B3 := Lib.hid (keepB B2.out hg)
            clear ha hg HLK b0 b1 b2 b3 b4 b5
            clear HI3
            go_wp2
            go_roundg (D.length - (i + 1))
            case measure => exact HGG.out
            case rel => exact ⟨i + 1, now, A, c, z, rfl, by first | rfl | (simp; done), by first | (simp; done) | rw [HWI.out], Nat.le_refl _, Lib.hid (HI.out.grew GG.out), HP, Lib.hid (HG.out.trans GG.out)⟩
          · rw [hl] at HLK
            have hw := find_no hs
            have hzm : z = (m : Int) := by rw [HP.out.2.2, hcnt, HP.out.2.1]
            subst hzm
            generalize findP now fl fs d = f at *
            obtain ⟨⟨ta, tb⟩, wb⟩ := f
            simp only at hw
            subst hw
            clear hl hs hcnt
            obtain ⟨b0, b1, b2, b3, b4, b5⟩ := it_cells B1.out
            go_wp2_with fail
            refine (HFI.out _ G1.out).mono ?_
            rintro e w2 ⟨rfl, hg⟩
            have G2 := Lib.hid ((G1.out.trans hg).trans (show Grew w2 (w2.alloc (.cells #[.int .i64 ta, .int .i64 tb] 33)) by unfold Grew; go_grown))
            have B2 := Lib.hid (keepB (keepB B1.out hg) (show Grew w2 (w2.alloc (.cells #[.int .i64 ta, .int .i64 tb] 33)) by unfold Grew; go_grown))
            clear hg b0 b1 b2 b3 b4 b5 d0 d1 d2 d3 d4 d5 HFI
            obtain ⟨b0, b1, b2, b3, b4, b5⟩ := it_cells B2.out
            go_wp2_with fail
            refine (HLK.out _ G2.out).mono ?_
            rintro e w3 ha
            obtain ⟨A3, c3, rfl, HI3, hg⟩ := ansE_at 0 rfl ha
            have GG := Lib.hid (G2.out.trans hg)
            have B3 := Lib.hid (keepB B2.out hg)
            clear ha hg HLK b0 b1 b2 b3 b4 b5
            clear HI3
            go_wp2
            go_roundg (D.length - (i + 1))
            case measure => exact HGG.out
            case rel => exact ⟨i + 1, now, A, c, m, rfl, by first | rfl | (simp; done), by first | (simp; done) | rw [HWI.out], Nat.le_refl _, Lib.hid (HI.out.grew GG.out), HP, Lib.hid (HG.out.trans GG.out)⟩
          · rw [hl] at HLK
            have hw := find_no hs
            have HCNT : Hid (z + 1 = cE (now.set k ⟨true, fl, fs, tl, ts, d⟩)) := Lib.hid (by rw [hcnt, HP.out.2.2])
            have HQ := Lib.hid hq
            have HLEN : Hid ((now.set k ⟨true, fl, fs, tl, ts, d⟩).length = m) := Lib.hid (by rw [List.length_set]; exact HP.out.2.1)
            have HF2 := Lib.hid (fun W A3 c3 (h : Exs W (.slice A3 m c3) (now.set k ⟨true, fl, fs, tl, ts, d⟩)) => find_any (.slice A3 m c3) _ fl fs d W h)
            simp only at hf
            rw [hf] at HF2
            have hkm : (k : Int) < (m : Int) := by have := HP.out.2.1; omega
            have hk0 : ¬ (k : Int) < 0 := by omega
            have hkn : ¬ (m : Int) ≤ (k : Int) := by omega
            have HKX : Hid (now[k]? = some (ee now k)) := Lib.hid (by unfold ee; rw [List.getElem?_eq_getElem hk]; rfl)
            have HKU := Lib.hid hku
            have HZU := Lib.hid (up1' HZB.out)
            generalize now.set k ⟨true, fl, fs, tl, ts, d⟩ = R at *
            generalize findP now fl fs d = f at *
            obtain ⟨⟨ta, tb⟩, wb⟩ := f
            simp only at hw
            subst hw
            clear hl hs hcnt hq hf hk hku
            obtain ⟨b0, b1, b2, b3, b4, b5⟩ := it_cells B1.out
            go_wp2_with fail
            refine (HFI.out _ G1.out).mono ?_
            rintro e w2 ⟨rfl, hg⟩
            have G2 := Lib.hid ((G1.out.trans hg).trans (show Grew w2 (w2.alloc (.cells #[.int .i64 ta, .int .i64 tb] 33)) by unfold Grew; go_grown))
            have B2 := Lib.hid (keepB (keepB B1.out hg) (show Grew w2 (w2.alloc (.cells #[.int .i64 ta, .int .i64 tb] 33)) by unfold Grew; go_grown))
            clear hg b0 b1 b2 b3 b4 b5 d0 d1 d2 d3 d4 d5 HFI
            obtain ⟨b0, b1, b2, b3, b4, b5⟩ := it_cells B2.out
            go_wp2_with fail
            refine (HLK.out _ G2.out).mono ?_
            rintro e w3 ha
            obtain ⟨A3, c3, rfl, HI3, hg⟩ := ansE_at m HLEN.out ha
            have GG := Lib.hid (G2.out.trans hg)
            have B3 := Lib.hid (keepB B2.out hg)
            clear ha hg HLK b0 b1 b2 b3 b4 b5
            obtain ⟨ad, c9, e9, _, n0, _⟩ := Exs_at (HI.out.grew GG.out) HKX.out
            injection e9 with e1 e2 e3
            subst e1 e3
            clear e2
            rw [HKU.out] at n0
            obtain ⟨b0, b1, b2, b3, b4, b5⟩ := it_cells B3.out
            go_wp2_with fail
            refine (HF2.out _ _ _ HI3.out).mono ?_
            rintro e w4 ⟨rfl, hg⟩
            have G4 := Lib.hid ((GG.out.trans hg).trans (show Grew w4 (w4.alloc (.cells #[.int .i64 tl, .int .i64 ts] 33)) by unfold Grew; go_grown))
            have B4 := Lib.hid (keepB (keepB B3.out hg) (show Grew w4 (w4.alloc (.cells #[.int .i64 tl, .int .i64 ts] 33)) by unfold Grew; go_grown))
            have HI4 := Lib.hid ((HI3.out.grew hg).grew (show Grew w4 (w4.alloc (.cells #[.int .i64 tl, .int .i64 ts] 33)) by unfold Grew; go_grown))
            clear hg b0 b1 b2 b3 b4 b5 n0 HF2
            obtain ⟨b0, b1, b2, b3, b4, b5⟩ := it_cells B4.out
            go_wp2
            go_roundg (D.length - (i + 1))
            case measure => exact HGG.out
            case rel => exact ⟨i + 1, R, A3, c3, z + 1, rfl, by first | rfl | (simp; done) | rw [HZU.out], by first | (simp; done) | rw [HWI.out], Nat.le_refl _, HI4, Lib.hid ⟨HQ.out, HLEN.out, HCNT.out⟩, Lib.hid (HG.out.trans G4.out)⟩
        | false =>
          have HCL := Lib.hid (fun W (hg : Grew wr W) => close_any (.slice A m c) now fl fs d W (HI.out.grew hg) (by rw [HP.out.2.1]; have := HM12.out; omega))
          rcases close_step now fl fs d HP.out.1 with ⟨hs, hl⟩ | ⟨k, hs, hk, hl, hq, hcnt⟩
          · rw [hl] at HCL
            have hw := find_no hs
            generalize findP now fl fs d = f at *
            obtain ⟨⟨ta, tb⟩, wb⟩ := f
            simp only at hw
            subst hw
            clear hl hs
            obtain ⟨b0, b1, b2, b3, b4, b5⟩ := it_cells B1.out
            go_wp2_with fail
            refine (HFI.out _ G1.out).mono ?_
            rintro e w2 ⟨rfl, hg⟩
            have G2 := Lib.hid ((G1.out.trans hg).trans (show Grew w2 (w2.alloc (.cells #[.int .i64 ta, .int .i64 tb] 33)) by unfold Grew; go_grown))
            have B2 := Lib.hid (keepB (keepB B1.out hg) (show Grew w2 (w2.alloc (.cells #[.int .i64 ta, .int .i64 tb] 33)) by unfold Grew; go_grown))
            clear hg b0 b1 b2 b3 b4 b5 d0 d1 d2 d3 d4 d5 HFI
            obtain ⟨b0, b1, b2, b3, b4, b5⟩ := it_cells B2.out
            go_wp2_with fail
            refine (HCL.out _ G2.out).mono ?_
            rintro e w3 ha
            obtain ⟨A3, c3, rfl, HI3, hg⟩ := close_at 0 rfl ha
            have GG := Lib.hid (G2.out.trans hg)
            have B3 := Lib.hid (keepB B2.out hg)
            clear ha hg HCL b0 b1 b2 b3 b4 b5
            obtain ⟨b0, b1, b2, b3, b4, b5⟩ := it_cells B3.out
            clear HI3
            go_wp2
            go_roundg (D.length - (i + 1))
            case measure => exact HGG.out
            case rel => exact ⟨i + 1, now, A, c, z, rfl, by first | rfl | (simp; done), by first | (simp; done) | rw [HWI.out], Nat.le_refl _, Lib.hid (HI.out.grew GG.out), HP, Lib.hid (HG.out.trans GG.out)⟩
          · rw [hl] at HCL
            have hw := find_yes (show slE now fl fs d ≠ -1 by rw [hs]; omega)
            have HCNT : Hid (z - 1 = cE (now.set k zex)) := Lib.hid (by rw [hcnt, HP.out.2.2])
            have HQ := Lib.hid hq
            have HLEN : Hid ((now.set k zex).length = m) := Lib.hid (by rw [List.length_set]; exact HP.out.2.1)
            have HZU := Lib.hid (dn1 HZB.out)
            generalize now.set k zex = R at *
            generalize findP now fl fs d = f at *
            obtain ⟨⟨ta, tb⟩, wb⟩ := f
            simp only at hw
            subst hw
            clear hl hs hcnt hq hk
            obtain ⟨b0, b1, b2, b3, b4, b5⟩ := it_cells B1.out
            go_wp2_with fail
            refine (HFI.out _ G1.out).mono ?_
            rintro e w2 ⟨rfl, hg⟩
            have G2 := Lib.hid ((G1.out.trans hg).trans (show Grew w2 (w2.alloc (.cells #[.int .i64 ta, .int .i64 tb] 33)) by unfold Grew; go_grown))
            have B2 := Lib.hid (keepB (keepB B1.out hg) (show Grew w2 (w2.alloc (.cells #[.int .i64 ta, .int .i64 tb] 33)) by unfold Grew; go_grown))
            clear hg b0 b1 b2 b3 b4 b5 d0 d1 d2 d3 d4 d5 HFI
            obtain ⟨b0, b1, b2, b3, b4, b5⟩ := it_cells B2.out
            go_wp2_with fail
            refine (HCL.out _ G2.out).mono ?_
            rintro e w3 ha
            obtain ⟨A3, c3, rfl, HI3, hg⟩ := close_at m HLEN.out ha
            have GG := Lib.hid (G2.out.trans hg)
            have B3 := Lib.hid (keepB B2.out hg)
            clear ha hg HCL b0 b1 b2 b3 b4 b5
            obtain ⟨b0, b1, b2, b3, b4, b5⟩ := it_cells B3.out
            go_wp2
            go_roundg (D.length - (i + 1))
            case measure => exact HGG.out
            case rel => exact ⟨i + 1, R, A3, c3, z - 1, rfl, by first | rfl | (simp; done) | rw [HZU.out], by first | (simp; done) | rw [HWI.out], Nat.le_refl _, HI3, Lib.hid ⟨HQ.out, HLEN.out, HCNT.out⟩, Lib.hid (HG.out.trans GG.out)⟩
      · by_cases hiD : i < D.length
        · have hiz : (i : Int) < (D.length : Int) := by omega
          have hi6 : ¬ (i : Int) < 60 := by omega
          clear hgo hiD hgg
          go_wp2_with fail
          go_meet
          case rel => exact ⟨now, A, c, rfl, HI, Lib.hid ⟨HP.out.1, HP.out.2.1⟩, HG⟩
        · have hiz : ¬ (i : Int) < (D.length : Int) := by omega
          clear hgo hiD hgg
          go_wp2_with fail
          go_meet
          case rel => exact ⟨now, A, c, rfl, HI, Lib.hid ⟨HP.out.1, HP.out.2.1⟩, HG⟩
  case rest =>
    obtain ⟨now, A, c, rfl, HI, HP, HG⟩ := hcut
    have HEX := Lib.hid (fun W (hg : Grew wc W) => exits_any (.slice A m c) now W (HI.out.grew hg) (by rw [HP.out.2]; have := HM12.out; omega))
    rw [HP.out.1] at HEX
    have hrem := HREM.out
    have hwc := HWC.out
    go_wp2_with fail
    refine (HAL.out _).mono ?_
    rintro e w2 ⟨rfl, hg⟩
    have G2 := Lib.hid hg
    clear hg
    go_wp2_with fail
    refine (HEX.out _ G2.out).mono ?_
    rintro e w3 ⟨rfl, hg⟩
    have G3 := Lib.hid ((HG.out.trans G2.out).trans hg)
    clear hg
    go_wp2
    go_returns
    exact ⟨by simp, G3.out⟩
end Go.Proofs.Ytaolallfmjjoeaa.RP
