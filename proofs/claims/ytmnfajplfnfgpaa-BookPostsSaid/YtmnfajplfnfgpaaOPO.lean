/-
  An order is posted, by the document's reference.
  Conditions: those that each lemma names.
-/
import Derived.Test.YtmnfajplfnfgpaaOPB
import Derived.Test.YtmnfajplfnfgpaaOB
import Derived.Test.YtmnfajplfnfgpaaOS
import Derived.Test.YtmnfajplfnfgpaaOT
import Derived.Test.YtmnfajplfnfgpaaORB
import Derived.Test.YtmnfajplfnfgpaaORC
import Derived.Test.YtmnfajplfnfgpaaORD
import Derived.Test.YtmnfajplfnfgpaaON
import Derived.Test.YtmnfajplfnfgpaaMarks
import Derived.Lib.Hide
import Derived.Deep.AppendLies
import Derived.Deep.LoopGhost
namespace Go.Proofs.Ytmnfajplfnfgpaa.OPO
set_option maxRecDepth 100000
open Go Go.RowKit Go.Lib Go.Proofs.Ytmnfajplfnfgpaa Go.Proofs.Ytmnfajplfnfgpaa.Facts Go.Proofs.Ytmnfajplfnfgpaa.Ints Go.Proofs.Ytmnfajplfnfgpaa.PA Go.Proofs.Ytmnfajplfnfgpaa.UM Go.Proofs.Ytmnfajplfnfgpaa.UB Go.Proofs.Ytmnfajplfnfgpaa.OA Go.Proofs.Ytmnfajplfnfgpaa.OP Go.Proofs.Ytmnfajplfnfgpaa.BP Go.Proofs.Ytmnfajplfnfgpaa.BQ Go.Proofs.Ytmnfajplfnfgpaa.OB Go.Proofs.Ytmnfajplfnfgpaa.OC Go.Proofs.Ytmnfajplfnfgpaa.OD Go.Proofs.Ytmnfajplfnfgpaa.OE Go.Proofs.Ytmnfajplfnfgpaa.OF Go.Proofs.Ytmnfajplfnfgpaa.OG Go.Proofs.Ytmnfajplfnfgpaa.OK Go.Proofs.Ytmnfajplfnfgpaa.OLA Go.Proofs.Ytmnfajplfnfgpaa.ORA Go.Proofs.Ytmnfajplfnfgpaa.ORB Go.Proofs.Ytmnfajplfnfgpaa.ORC Go.Proofs.Ytmnfajplfnfgpaa.ORD Go.Proofs.Ytmnfajplfnfgpaa.OS Go.Proofs.Ytmnfajplfnfgpaa.OT Go.Proofs.Ytmnfajplfnfgpaa.OPA Go.Proofs.Ytmnfajplfnfgpaa.OPB Go.Proofs.Ytmnfajplfnfgpaa.ON Go.Proofs.Ytmnfajplfnfgpaa.Bytes


def AnsR (P : Po) (w : World) (e : Ending) (w' : World) : Prop :=
  ∃ v1 v2, e = .returned (.tuple #[v1, v2, .int .i64 P.at_, .int .u64 (P.sur : Int), .int .i64 P.err]) ∧ Ors w' v1 P.now ∧ Fis w' v2 P.fills ∧ Grew w w'
theorem AnsR.err {P : Po} {w w' : World} (er : Int) (hp : P = ⟨[], [], 0, 0, er⟩) (hg : Grew w w') : AnsR P w (.returned (.tuple #[.slice none 0 0, .slice none 0 0, .int .i64 0, .int .u64 0, .int .i64 er])) w' := by
  subst hp
  exact ⟨_, _, rfl, rw_none _, rw_none _, hg⟩
theorem AnsR.mk' {P : Po} {w w' : World} {v1 v2 : Value} {now : List Or} {fs : List Fi} {k : Int} {n : Nat} (hp : P = ⟨now, fs, k, n, 0⟩) (h1 : Ors w' v1 now) (h2 : Fis w' v2 fs) (hg : Grew w w') : AnsR P w (.returned (.tuple #[v1, v2, .int .i64 k, .int .u64 (n : Int), .int .i64 0])) w' := by
  subst hp
  exact ⟨_, _, rfl, h1, h2, hg⟩
theorem grew_from {w W W' : World} {b : Nat} (h : Grew w W) (k : Below b W W') (hb : w.heap.size ≤ b) : Grew w W' :=
  (show Below w.heap.size w W from h).trans ⟨k.os, k.tape, k.output, k.size, fun j hj => k.block j (Nat.lt_of_lt_of_le hj hb)⟩
theorem two_p (a : Nat) (b : Int) : two (a, b) = .tuple #[.int .u64 (a : Int), .int .i64 b] := rfl
set_option maxHeartbeats 8000000 in
theorem rpost_any (v : Value) (l : List Or) (o : Or) (S : List Nat) (w : World) (h : Ors w v l) (hl : l.length ≤ 1000) (hs : ∀ x ∈ l, WfO x) (ho : WfO o) (hS : (postP l o S).err = 0 → Srt l o S) :
    Calls Try.prog 22 #[v, orv o] w (AnsR (postP l o S) w) := by
  have g0 : Grew w (w.alloc (.cells (ocs o).toArray 26)) := by unfold Grew; go_grown
  have G0 := Lib.hid g0
  have B0 := Lib.hid (blk_new w (.cells (ocs o).toArray 26))
  have HL := Lib.hid h
  have HRT := Lib.hid (fun W (hg : Grew w W) => rright_any v l W (h.grew hg) hl hs)
  have HMY := Lib.hid (fun W => rmay_any o ho.1 W)
  have HHS := Lib.hid (fun W (hg : Grew w W) => has_any v l l.length o.seq W (h.grew hg) hl (Nat.le_refl _))
  rw [List.take_length] at HHS
  have e9 : takenB l o = l.any fun x => x.used && decide (x.seq = o.seq) := rfl
  rw [← e9] at HHS
  clear e9
  have HFR := Lib.hid (fun W (hg : Grew w W) => rfree_any v l W (h.grew hg) hl)
  have HE1 := Lib.hid (post_arg l o S)
  have HE8 := Lib.hid (post_full l o S)
  have HOK := Lib.hid (post_ok l o S)
  have HMF := Lib.hid ((may_iff o).1)
  have HLL := Lib.hid hl
  have HO := Lib.hid ho
  have HSS := Lib.hid hS
  have HWF := Lib.hid hs
  have hc1 := ord_freec l
  obtain ⟨P, hP⟩ : ∃ P, postP l o S = P := ⟨_, rfl⟩
  rw [hP] at HE1 HE8 HOK HSS ⊢
  clear hP
  obtain ⟨A, c, rfl, _⟩ := h.slice
  clear h hs g0 ho hl hS
  generalize takenB l o = tk at *
  generalize hrr : rightO l = ri at *
  generalize hmm : mayO o = my at *
  have HRR := Lib.hid hrr
  have HMM := Lib.hid hmm
  clear hrr hmm
  obtain ⟨us, lb, wh, sd, bs, qt, pr, lf, rs, sq⟩ := o
  unfold orv ocs at *
  simp only at B0 G0 HMY HHS ⊢
  cases ri with
  | false =>
    have HX := Lib.hid (HE1.out (by simp))
    clear HE1 HE8 HOK hc1
    go_enter Try.func22, Try.ntmps22
    go_wp2_with fail
    refine (HRT.out _ G0.out).mono ?_
    rintro e w1 ⟨rfl, hg⟩
    have G1 := Lib.hid (G0.out.trans hg)
    have B1 := Lib.hid (keepB B0.out hg)
    clear hg
    obtain ⟨c0, c1, c2, c3, c4, c5, c6, c7, c8, c9⟩ := ten_c B1.out
    go_wp2
    go_returns
    exact AnsR.err 1 HX.out G1.out

  | true =>
    cases my with
    | false =>
      have HX := Lib.hid (HE1.out (by simp))
      clear HE1 HE8 HOK hc1
      go_enter Try.func22, Try.ntmps22
      go_wp2_with fail
      refine (HRT.out _ G0.out).mono ?_
      rintro e w1 ⟨rfl, hg⟩
      have G1 := Lib.hid (G0.out.trans hg)
      have B1 := Lib.hid (keepB B0.out hg)
      clear hg
      obtain ⟨c0, c1, c2, c3, c4, c5, c6, c7, c8, c9⟩ := ten_c B1.out
      go_wp2_with fail
      refine (HMY.out _).mono ?_
      rintro e w2 ⟨rfl, hg⟩
      have G2 := Lib.hid (G1.out.trans hg)
      have B2 := Lib.hid (keepB B1.out hg)
      clear hg c0 c1 c2 c3 c4 c5 c6 c7 c8 c9
      obtain ⟨c0, c1, c2, c3, c4, c5, c6, c7, c8, c9⟩ := ten_c B2.out
      go_wp2
      go_returns
      exact AnsR.err 1 HX.out G2.out

    | true =>
      cases tk with
      | true =>
        have HX := Lib.hid (HE1.out (by simp))
        clear HE1 HE8 HOK hc1
        go_enter Try.func22, Try.ntmps22
        go_wp2_with fail
        refine (HRT.out _ G0.out).mono ?_
        rintro e w1 ⟨rfl, hg⟩
        have G1 := Lib.hid (G0.out.trans hg)
        have B1 := Lib.hid (keepB B0.out hg)
        clear hg
        obtain ⟨c0, c1, c2, c3, c4, c5, c6, c7, c8, c9⟩ := ten_c B1.out
        go_wp2_with fail
        refine (HMY.out _).mono ?_
        rintro e w2 ⟨rfl, hg⟩
        have G2 := Lib.hid (G1.out.trans hg)
        have B2 := Lib.hid (keepB B1.out hg)
        clear hg c0 c1 c2 c3 c4 c5 c6 c7 c8 c9
        obtain ⟨c0, c1, c2, c3, c4, c5, c6, c7, c8, c9⟩ := ten_c B2.out
        go_wp2_with fail
        refine (HHS.out _ G2.out).mono ?_
        rintro e w3 ⟨rfl, hg⟩
        have G3 := Lib.hid (G2.out.trans hg)
        have B3 := Lib.hid (keepB B2.out hg)
        clear hg c0 c1 c2 c3 c4 c5 c6 c7 c8 c9
        go_wp2
        go_returns
        exact AnsR.err 1 HX.out G3.out

      | false =>
        rcases hc1 with hc | ⟨k, hc, hk⟩
        · have HX := Lib.hid (HE8.out (by simp) hc)
          rw [hc] at HFR
          clear HE1 HE8 HOK hc
          go_enter Try.func22, Try.ntmps22
          go_wp2_with fail
          refine (HRT.out _ G0.out).mono ?_
          rintro e w1 ⟨rfl, hg⟩
          have G1 := Lib.hid (G0.out.trans hg)
          have B1 := Lib.hid (keepB B0.out hg)
          clear hg
          obtain ⟨c0, c1, c2, c3, c4, c5, c6, c7, c8, c9⟩ := ten_c B1.out
          go_wp2_with fail
          refine (HMY.out _).mono ?_
          rintro e w2 ⟨rfl, hg⟩
          have G2 := Lib.hid (G1.out.trans hg)
          have B2 := Lib.hid (keepB B1.out hg)
          clear hg c0 c1 c2 c3 c4 c5 c6 c7 c8 c9
          obtain ⟨c0, c1, c2, c3, c4, c5, c6, c7, c8, c9⟩ := ten_c B2.out
          go_wp2_with fail
          refine (HHS.out _ G2.out).mono ?_
          rintro e w3 ⟨rfl, hg⟩
          have G3 := Lib.hid (G2.out.trans hg)
          have B3 := Lib.hid (keepB B2.out hg)
          clear hg c0 c1 c2 c3 c4 c5 c6 c7 c8 c9
          go_wp2_with fail
          refine (HFR.out _ G3.out).mono ?_
          rintro e w4 ⟨rfl, hg⟩
          have G4 := Lib.hid (G3.out.trans hg)
          have B4 := Lib.hid (keepB B3.out hg)
          clear hg
          go_wp2
          go_returns
          exact AnsR.err 8 HX.out G4.out

        · have hcn : ordfree l ≠ -1 := by omega
          have hX := HOK.out (by simp) hcn
          have hSr : Srt l ⟨us, lb, wh, sd, bs, qt, pr, lf, rs, sq⟩ S := HSS.out (by rw [hX]; unfold restP; split <;> rfl)
          have HX := Lib.hid hX
          have HSR := Lib.hid hSr
          have HCN := Lib.hid hcn
          rw [hc] at HFR
          have HMO := Lib.hid (HMF.out rfl)
          have hkn : ¬ ((k : Int) < 0) := by omega
          have HPS := Lib.hid (PIv.start (S := S) HRR.out HMO.out)
          clear HE1 HE8 HOK hc hcn HMF HSS hX hSr
          go_enter Try.func22, Try.ntmps22
          go_wp2_with fail
          refine (HRT.out _ G0.out).mono ?_
          rintro e w1 ⟨rfl, hg⟩
          have G1 := Lib.hid (G0.out.trans hg)
          have B1 := Lib.hid (keepB B0.out hg)
          clear hg
          obtain ⟨c0, c1, c2, c3, c4, c5, c6, c7, c8, c9⟩ := ten_c B1.out
          go_wp2_with fail
          refine (HMY.out _).mono ?_
          rintro e w2 ⟨rfl, hg⟩
          have G2 := Lib.hid (G1.out.trans hg)
          have B2 := Lib.hid (keepB B1.out hg)
          clear hg c0 c1 c2 c3 c4 c5 c6 c7 c8 c9
          obtain ⟨c0, c1, c2, c3, c4, c5, c6, c7, c8, c9⟩ := ten_c B2.out
          go_wp2_with fail
          refine (HHS.out _ G2.out).mono ?_
          rintro e w3 ⟨rfl, hg⟩
          have G3 := Lib.hid (G2.out.trans hg)
          have B3 := Lib.hid (keepB B2.out hg)
          clear hg c0 c1 c2 c3 c4 c5 c6 c7 c8 c9
          go_wp2_with fail
          refine (HFR.out _ G3.out).mono ?_
          rintro e w4 ⟨rfl, hg⟩
          have G4 := Lib.hid (G3.out.trans hg)
          have B4 := Lib.hid (keepB B3.out hg)
          clear hg
          obtain ⟨ad, c9, e, _, _⟩ := Ors_at (HL.out.grew G4.out) (eo_get hk)
          injection e with e1 e2 e3
          subst e1 e3
          clear e2
          have hcell : ∀ j u, (l.flatMap ocs)[j]? = some u → w4.cell? (ad.add j) = some u := by
            obtain ⟨A', c', e, _, _, _, h4⟩ := HL.out.grew G4.out
            injection e with e1 _ _
            exact h4 ad e1.symm
          have hsz : w.heap.size + 1 ≤ w4.heap.size := by
            exact (Array.getElem?_eq_some_iff.1 B4.out).1
          obtain ⟨vw, w5, hr5, ho5, hb5⟩ := ord_app w4 (w.heap.size + 1) (.slice none 0 0) [] l ad c (World.ownsRow_nil _ _ 26 10) hcell (by have := HLL.out; simp only [List.length_nil]; omega) hsz
          rw [List.nil_append] at ho5
          obtain ⟨gb, cb, rfl, hgb, hgl⟩ := World.ownsRow.form ho5 (by omega)
          have HAPP := Lib.hid hr5
          have bx5 : Bx w5 w.heap.size ⟨us, lb, wh, sd, bs, qt, pr, lf, rs, sq⟩ := (hb5.block _ (by omega)).trans B4.out
          have HL0 := Lib.hid (LS.start bx5 ho5 (show Below w.heap.size w w5 from grew_from G4.out hb5 (Nat.le_succ _)))
          have d8 := bx5.cells.2.2.2.2.2.2.2.2.1
          simp only at d8
          have HK := Lib.hid hk
          clear hcell hr5 ho5 hb5 hsz hgb bx5 hk hkn G0 G1 G2 G3 G4 B0 B1 B2 B3 B4 HRT HMY HHS HFR
          go_wp2_with (at_builtin; refine wpList_app_want (.tmp 36) (.tmp 37) 22 (by rfl) (by rfl) _ _ rfl rfl _ w5 (by exact HAPP.out) ?_)
          go_loopg [10, 11, 12, 13] S.length (fun g s10 s11 s12 s13 wx => ∃ pre rest now o' fs, Hid (PIv l ⟨us, lb, wh, sd, bs, qt, pr, lf, rs, sq⟩ S pre rest now o' fs) ∧ rest.length = g ∧ s11 = .int .u64 (o'.res : Int) ∧ Hid (LS w w.heap.size ⟨us, lb, wh, sd, bs, qt, pr, o'.left, rs, sq⟩ (.slice (some ⟨gb, 0, none⟩) l.length cb) s10 now fs wx))
          case atStart => exact ⟨[], S, l, _, [], HPS, rfl, rfl, HL0⟩
          case round =>
            clear HAPP d8 HL0 HPS
            obtain ⟨pre, rest, now, o', fs, HPI, hgr, rfl, HLS⟩ := hrel
            obtain ⟨A2, k2, rfl, _⟩ := (Fis.of_own HLS.out.off).slice
            have HLN : Hid (now.length = l.length) := Lib.hid HPI.out.len
            by_cases h0 : o'.left = 0
            · have HX2 : Hid (P = ⟨now, fs, -1, o'.res, 0⟩) := Lib.hid (by rw [HX.out, HPI.out.fin (.inl h0)]; exact if_pos h0)
              rw [h0] at HLS
              have HON := Lib.hid (Ors.of_own HLS.out.ow)
              have HFN := Lib.hid HLS.out.fis
              have GG : Hid (Grew w _) := Lib.hid HLS.out.gr
              obtain ⟨c0, c1, c2, c3, c4, c5, c6, c7, c8, c9⟩ := HLS.out.bx.cells
              simp only at c0 c1 c2 c3 c4 c5 c6 c7 c8 c9
              clear HPI hgr HLS h0
              go_wp2
              go_returns
              exact AnsR.mk' HX2.out HON.out HFN.out GG.out
            · obtain ⟨us', lb', wh', sd', bs', qt', pr', n, r, sq'⟩ := o'
              obtain ⟨e0, e1, e2, e3, e4, e5, e6, e7, _⟩ := HPI.out.sm
              simp only at e0 e1 e2 e3 e4 e5 e6 e7 h0
              subst e0 e1 e2 e3 e4 e5 e6 e7
              simp only at HLS ⊢
              have HLK : Hid (Lk (⟨us', lb', wh', sd', bs', qt', pr', n, r, sq'⟩ : Or) ⟨us', lb', wh', sd', bs', qt', pr', n, rs, sq'⟩) := Lib.hid ⟨rfl, rfl, rfl, rfl⟩
              have HBC := Lib.hid (fun W v9 (hv : Ors W v9 now) => rbest_any v9 now ⟨us', lb', wh', sd', bs', qt', pr', n, rs, sq'⟩ W hv (by rw [HLN.out]; exact HLL.out))
              rw [HLN.out, bst_same HLK.out] at HBC
              unfold orv at HBC
              simp only at HBC
              have f1 : (0 : Int) < (n : Int) := by omega
              have f2 : ((n : Int) == 0) = false := by simp; omega
              obtain ⟨c0, c1, c2, c3, c4, c5, c6, c7, c8, c9⟩ := HLS.out.bx.cells
              simp only at c0 c1 c2 c3 c4 c5 c6 c7 c8 c9
              rcases rest with _ | ⟨i, rr⟩
              · have hb := HPI.out.no HRR.out HSR.out h0 HMO.out
                rw [hb] at HBC
                clear hb
                have hf := HPI.out.fin (.inr rfl)
                have hfo := HPI.out.fo
                have hfree := fill_free HSR.out HCN.out []
                rw [hf] at hfree
                have HX3 := Lib.hid HX.out
                rw [hf] at HX3
                unfold restP at HX3
                simp only at HX3 hfree
                rw [if_neg h0] at HX3
                obtain ⟨h2, h3, h4⟩ := FO.need hfo h0
                simp only at h2 h3
                obtain ⟨k3, hk3, hk4⟩ : ∃ k : Nat, ordfree now = k ∧ k < now.length := by
                  rcases ord_freec now with h | h
                  · exact absurd h hfree
                  · exact h
                have HND := Lib.hid (fun W => rneed_any sd' n pr' (by have := hfo.le; unfold top at this; simp only at this; omega) HO.out.1.1 W)
                have HFR := Lib.hid (fun W v (hv : Ors W v now) => rfree_any v now W hv (by rw [HLN.out]; exact HLL.out))
                rw [hk3] at HFR
                rw [hk3, Int.toNat_natCast] at HX3
                obtain ⟨⟨nn, ne⟩, hnn⟩ : ∃ q, needP sd' n pr' = q := ⟨_, rfl⟩
                rw [hnn] at HND HX3 h2 h3
                rw [two_p] at HND
                simp only at h2 h3 HX3
                subst h2
                have hw := wsub r nn h3 (by have := hfo.rl; unfold top at this; simp only at this; omega)
                obtain ⟨m, hm⟩ : ∃ m, r - nn = m := ⟨_, rfl⟩
                rw [hm] at HX3 hw
                have HK4 := Lib.hid hk4
                have hk5 : (k3 : Int) < (l.length : Int) := by rw [HLN.out] at hk4; omega
                clear hfo hfree h3 h4 hnn hm hk3 hk4 hf HPI HX hgr h0
                go_wp2_with fail
                refine (HBC.out _ _ (Ors.of_own HLS.out.ow)).mono ?_
                rintro e w6 ⟨rfl, hg⟩
                have HL6 := Lib.hid (HLS.out.grew hg)
                clear hg HLS c0 c1 c2 c3 c4 c5 c6 c7 c8 c9
                obtain ⟨c0, c1, c2, c3, c4, c5, c6, c7, c8, c9⟩ := HL6.out.bx.cells
                simp only at c0 c1 c2 c3 c4 c5 c6 c7 c8 c9
                have fz0 := HL6.out.bx.frz 0
                have fz8 := (HL6.out.used true).bx.frz 8
                go_wp2_with fail
                refine (HND.out _).mono ?_
                rintro e w7 ⟨rfl, rfl⟩
                have HL7 := Lib.hid ((HL6.out.used true).res nn)
                go_wp2_with fail
                refine (HFR.out _ _ (Ors.of_own HL7.out.ow)).mono ?_
                rintro e w8 ⟨rfl, hg⟩
                have HL8 := Lib.hid (HL7.out.grew hg)
                clear hg HL6 HL7 c0 c1 c2 c3 c4 c5 c6 c7 c8 c9 fz0 fz8
                obtain ⟨c0, c1, c2, c3, c4, c5, c6, c7, c8, c9⟩ := HL8.out.bx.cells
                simp only at c0 c1 c2 c3 c4 c5 c6 c7 c8 c9
                obtain ⟨w9, hst, hls⟩ := HL8.out.store HLN.out.symm HK4.out ⟨true, lb', wh', sd', bs', qt', pr', n, nn, sq'⟩
                unfold orv at hst
                have HST := Lib.hid hst
                have HL9 := Lib.hid hls
                clear hst hls
                go_wp2_with (refine wpList_store (by rfl) 26 (.tmp 131) (.tmp 130) (by with_reducible rfl) _ _ (by rfl) (by rfl) _ HST.out ?_)
                go_returns
                exact AnsR.mk' HX3.out (Ors.of_own HL9.out.ow) HL9.out.fis HL9.out.gr
              · obtain ⟨hb, hil, hex, hmx, hmm2⟩ := HPI.out.best HRR.out HSR.out h0 HMO.out
                rw [hb] at HBC
                have hnx := HPI.out.next HRR.out HSR.out h0 HMO.out
                have hfs := HPI.out.fo.step hmx hmm2 h0
                have e1 : nowP l now ⟨us', lb', wh', sd', bs', qt', pr', n, r, sq'⟩ i = now.set i (rless (eo l i) (min n (eo l i).left)) := by
                  unfold nowP
                  rw [← PIv.less (o' := ⟨us', lb', wh', sd', bs', qt', pr', n, r, sq'⟩) hmx]
                have e2 : ordP l ⟨us', lb', wh', sd', bs', qt', pr', n, r, sq'⟩ i = ⟨us', lb', wh', sd', bs', qt', pr', n - min n (eo l i).left, r - (if sd' = 2 then min n (eo l i).left else min n (eo l i).left * (eo l i).price), sq'⟩ := rfl
                have e3 : filP l ⟨us', lb', wh', sd', bs', qt', pr', n, r, sq'⟩ i = ⟨(i : Int), min n (eo l i).left, (eo l i).price⟩ := rfl
                rw [e1, e2, e3] at hnx
                have HXS := Lib.hid (HWF.out (eo l i) (List.mem_of_getElem? (eo_get hil))).1
                have HFO := Lib.hid HPI.out.fo
                have htp := hfs.nt
                have hgv := hfs.gv
                simp only at htp hgv
                have hfl : (fs.length + 1) * 24 ≤ 140737488355328 := by
                  have h1 := HPI.out.fl
                  have h2 : (pre ++ i :: rr).length ≤ 1000 := by
                    rw [← HPI.out.all, HSR.out.perm.length_eq]
                    exact Nat.le_trans (Nat.le_trans (List.length_filter_le _ _) (by rw [List.length_range]; exact Nat.le_refl _)) HLL.out
                  rw [List.length_append] at h2
                  omega
                have HFB := Lib.hid hfl
                have hil2 : i < now.length := by rw [HLN.out]; exact hil
                generalize eo l i = x at *
                obtain ⟨xus, xlb, xwh, xsd, xbs, xqt, xpr, xlf, xrs, xsq⟩ := x
                simp only at hnx htp hgv
                have hi0 : ¬ ((i : Int) < 0) := by omega
                have hi1 : (i : Int) < (l.length : Int) := by omega
                have HIL := Lib.hid hil2
                have HEX := Lib.hid hex
                have HGR : Hid (rr.length < gk) := Lib.hid (by rw [← hgr]; exact Nat.lt_succ_self _)
                have HTP := Lib.hid htp
                rcases HMO.out.sd with hsd | hsd
                · have hsd2 : sd' = 1 := hsd
                  subst hsd2
                  rw [if_neg (by decide)] at hnx hgv
                  have HNX := Lib.hid hnx
                  have HGV := Lib.hid hgv
                  clear hb hil hex hmx hmm2 hnx hfs e1 e2 e3 htp hgv hfl hil2 hgr HPI HX h0 hsd
                  by_cases hlt : xlf < n
                  · have f3 : (xlf : Int) < (n : Int) := by omega
                    rw [Nat.min_eq_right (by omega)] at HNX HGV HTP
                    have hq : xlf ≤ xlf := by omega
                    have hwl := wsub n xlf (by omega) (by have := HFO.out.le; unfold top at this; simp only at this; omega)
                    obtain ⟨m, hm⟩ : ∃ m, xlf * xpr = m := ⟨_, rfl⟩
                    rw [hm] at HNX HGV HTP
                    have hwm : IntKind.u64.wrap ((xlf : Int) * (xpr : Int)) = (m : Int) := by
                      rw [IntKind.wrap_u64, ← Int.natCast_mul, hm]
                      have := HTP.out
                      unfold top at this
                      omega
                    have hwr := wsub r m HGV.out (by have := HFO.out.rl; unfold top at this; simp only at this; omega)
                    obtain ⟨r2, hr2⟩ : ∃ r2, r - m = r2 := ⟨_, rfl⟩
                    rw [hr2] at HNX hwr
                    clear hm hr2
                    obtain ⟨n2, hn2⟩ : ∃ n2, n - xlf = n2 := ⟨_, rfl⟩
                    rw [hn2] at HNX hwl

                    clear hn2
                    have HLE := Lib.hid (fun W => rless_any ⟨xus, xlb, xwh, xsd, xbs, xqt, xpr, xlf, xrs, xsq⟩ xlf W HXS.out hq)
                    obtain ⟨X2, hX2⟩ : ∃ X2, rless ⟨xus, xlb, xwh, xsd, xbs, xqt, xpr, xlf, xrs, xsq⟩ xlf = X2 := ⟨_, rfl⟩
                    rw [hX2] at HNX HLE
                    unfold orv at HLE
                    simp only at HLE
                    obtain ⟨yus, ylb, ywh, ysd, ybs, yqt, ypr, ylf, yrs, ysq⟩ := X2
                    clear hX2 hq HGV HTP hlt
                    go_wp2_with fail
                    refine (HBC.out _ _ (Ors.of_own HLS.out.ow)).mono ?_
                    rintro e w6 ⟨rfl, hg⟩
                    have HL6 := Lib.hid (HLS.out.grew hg)
                    clear hg HLS c0 c1 c2 c3 c4 c5 c6 c7 c8 c9
                    obtain ⟨c0, c1, c2, c3, c4, c5, c6, c7, c8, c9⟩ := HL6.out.bx.cells
                    simp only at c0 c1 c2 c3 c4 c5 c6 c7 c8 c9
                    go_wp2_with fail
                    refine (HBC.out _ _ (Ors.of_own HL6.out.ow)).mono ?_
                    rintro e w7 ⟨rfl, hg⟩
                    have HL7 := Lib.hid (HL6.out.grew hg)
                    clear hg HL6 c0 c1 c2 c3 c4 c5 c6 c7 c8 c9
                    obtain ⟨c0, c1, c2, c3, c4, c5, c6, c7, c8, c9⟩ := HL7.out.bx.cells
                    simp only at c0 c1 c2 c3 c4 c5 c6 c7 c8 c9
                    obtain ⟨x0, x1, x2, x3, x4, x5, x6, x7, x8, x9⟩ := own_ten HL7.out.ow HLN.out.symm HIL.out HEX.out
                    simp only at x0 x1 x2 x3 x4 x5 x6 x7 x8 x9
                    obtain ⟨v3, w8, happ, hls⟩ := HL7.out.app ⟨(i : Int), xlf, xpr⟩ HFB.out
                    have hsl := (Fis.of_own hls.off).slice
                    obtain ⟨A3, k3, rfl, _⟩ := hsl
                    have HAPP := Lib.hid happ
                    have HL8 := Lib.hid hls
                    clear happ hls HL7
                    obtain ⟨b0, b1, b2, b3, b4, b5, b6, b7, b8, b9⟩ := HL8.out.bx.cells
                    simp only at b0 b1 b2 b3 b4 b5 b6 b7 b8 b9
                    obtain ⟨z0, z1, z2, z3, z4, z5, z6, z7, z8, z9⟩ := own_ten HL8.out.ow HLN.out.symm HIL.out HEX.out
                    simp only at z0 z1 z2 z3 z4 z5 z6 z7 z8 z9
                    go_wp2_with (at_builtin; refine wpList_app_want (.tmp 67) (.tmp 76) 39 (by rfl) (by rfl) _ _ rfl rfl _ w8 (by exact HAPP.out) ?_)
                    refine (HLE.out _).mono ?_
                    rintro e w9 ⟨rfl, hg⟩
                    have HL9 := Lib.hid (HL8.out.grew hg)
                    obtain ⟨w10, hst, hls⟩ := HL9.out.store HLN.out.symm HIL.out ⟨yus, ylb, ywh, ysd, ybs, yqt, ypr, ylf, yrs, ysq⟩
                    unfold orv at hst
                    have HST := Lib.hid hst
                    have HL10 := Lib.hid hls
                    clear hg HL8 hst hls HAPP c0 c1 c2 c3 c4 c5 c6 c7 c8 c9 x0 x1 x2 x3 x4 x5 x6 x7 x8 x9 b0 b1 b2 b3 b4 b5 b6 b7 b8 b9 z0 z1 z2 z3 z4 z5 z6 z7 z8 z9
                    obtain ⟨c0, c1, c2, c3, c4, c5, c6, c7, c8, c9⟩ := HL10.out.bx.cells
                    simp only at c0 c1 c2 c3 c4 c5 c6 c7 c8 c9
                    have fz7 := HL10.out.bx.frz 7
                    go_wp2_with (refine wpList_store (by rfl) 26 (.tmp 101) (.tmp 100) (by with_reducible rfl) _ _ (by rfl) (by rfl) _ HST.out ?_)
                    go_roundg rr.length
                    case measure => exact HGR.out
                    case rel => exact ⟨pre ++ [i], rr, _, _, _, HNX, rfl, rfl, Lib.hid (by have h := HL10.out.left n2; rw [List.length_append] at h; exact h)⟩
                  · have f3 : ¬ (xlf : Int) < (n : Int) := by omega
                    rw [Nat.min_eq_left (by omega)] at HNX HGV HTP
                    have hq : n ≤ xlf := by omega
                    have hwl := wsub n n (by omega) (by have := HFO.out.le; unfold top at this; simp only at this; omega)
                    obtain ⟨m, hm⟩ : ∃ m, n * xpr = m := ⟨_, rfl⟩
                    rw [hm] at HNX HGV HTP
                    have hwm : IntKind.u64.wrap ((n : Int) * (xpr : Int)) = (m : Int) := by
                      rw [IntKind.wrap_u64, ← Int.natCast_mul, hm]
                      have := HTP.out
                      unfold top at this
                      omega
                    have hwr := wsub r m HGV.out (by have := HFO.out.rl; unfold top at this; simp only at this; omega)
                    obtain ⟨r2, hr2⟩ : ∃ r2, r - m = r2 := ⟨_, rfl⟩
                    rw [hr2] at HNX hwr
                    clear hm hr2
                    obtain ⟨n2, hn2⟩ : ∃ n2, n - n = n2 := ⟨_, rfl⟩
                    rw [hn2] at HNX hwl
                    obtain rfl : n2 = 0 := by omega

                    have HLE := Lib.hid (fun W => rless_any ⟨xus, xlb, xwh, xsd, xbs, xqt, xpr, xlf, xrs, xsq⟩ n W HXS.out hq)
                    obtain ⟨X2, hX2⟩ : ∃ X2, rless ⟨xus, xlb, xwh, xsd, xbs, xqt, xpr, xlf, xrs, xsq⟩ n = X2 := ⟨_, rfl⟩
                    rw [hX2] at HNX HLE
                    unfold orv at HLE
                    simp only at HLE
                    obtain ⟨yus, ylb, ywh, ysd, ybs, yqt, ypr, ylf, yrs, ysq⟩ := X2
                    clear hX2 hq HGV HTP hlt
                    go_wp2_with fail
                    refine (HBC.out _ _ (Ors.of_own HLS.out.ow)).mono ?_
                    rintro e w6 ⟨rfl, hg⟩
                    have HL6 := Lib.hid (HLS.out.grew hg)
                    clear hg HLS c0 c1 c2 c3 c4 c5 c6 c7 c8 c9
                    obtain ⟨c0, c1, c2, c3, c4, c5, c6, c7, c8, c9⟩ := HL6.out.bx.cells
                    simp only at c0 c1 c2 c3 c4 c5 c6 c7 c8 c9
                    go_wp2_with fail
                    refine (HBC.out _ _ (Ors.of_own HL6.out.ow)).mono ?_
                    rintro e w7 ⟨rfl, hg⟩
                    have HL7 := Lib.hid (HL6.out.grew hg)
                    clear hg HL6 c0 c1 c2 c3 c4 c5 c6 c7 c8 c9
                    obtain ⟨c0, c1, c2, c3, c4, c5, c6, c7, c8, c9⟩ := HL7.out.bx.cells
                    simp only at c0 c1 c2 c3 c4 c5 c6 c7 c8 c9
                    obtain ⟨x0, x1, x2, x3, x4, x5, x6, x7, x8, x9⟩ := own_ten HL7.out.ow HLN.out.symm HIL.out HEX.out
                    simp only at x0 x1 x2 x3 x4 x5 x6 x7 x8 x9
                    obtain ⟨v3, w8, happ, hls⟩ := HL7.out.app ⟨(i : Int), n, xpr⟩ HFB.out
                    have hsl := (Fis.of_own hls.off).slice
                    obtain ⟨A3, k3, rfl, _⟩ := hsl
                    have HAPP := Lib.hid happ
                    have HL8 := Lib.hid hls
                    clear happ hls HL7
                    obtain ⟨b0, b1, b2, b3, b4, b5, b6, b7, b8, b9⟩ := HL8.out.bx.cells
                    simp only at b0 b1 b2 b3 b4 b5 b6 b7 b8 b9
                    obtain ⟨z0, z1, z2, z3, z4, z5, z6, z7, z8, z9⟩ := own_ten HL8.out.ow HLN.out.symm HIL.out HEX.out
                    simp only at z0 z1 z2 z3 z4 z5 z6 z7 z8 z9
                    go_wp2_with (at_builtin; refine wpList_app_want (.tmp 67) (.tmp 76) 39 (by rfl) (by rfl) _ _ rfl rfl _ w8 (by exact HAPP.out) ?_)
                    refine (HLE.out _).mono ?_
                    rintro e w9 ⟨rfl, hg⟩
                    have HL9 := Lib.hid (HL8.out.grew hg)
                    obtain ⟨w10, hst, hls⟩ := HL9.out.store HLN.out.symm HIL.out ⟨yus, ylb, ywh, ysd, ybs, yqt, ypr, ylf, yrs, ysq⟩
                    unfold orv at hst
                    have HST := Lib.hid hst
                    have HL10 := Lib.hid hls
                    clear hg HL8 hst hls HAPP c0 c1 c2 c3 c4 c5 c6 c7 c8 c9 x0 x1 x2 x3 x4 x5 x6 x7 x8 x9 b0 b1 b2 b3 b4 b5 b6 b7 b8 b9 z0 z1 z2 z3 z4 z5 z6 z7 z8 z9
                    obtain ⟨c0, c1, c2, c3, c4, c5, c6, c7, c8, c9⟩ := HL10.out.bx.cells
                    simp only at c0 c1 c2 c3 c4 c5 c6 c7 c8 c9
                    have fz7 := HL10.out.bx.frz 7
                    go_wp2_with (refine wpList_store (by rfl) 26 (.tmp 101) (.tmp 100) (by with_reducible rfl) _ _ (by rfl) (by rfl) _ HST.out ?_)
                    go_roundg rr.length
                    case measure => exact HGR.out
                    case rel => exact ⟨pre ++ [i], rr, _, _, _, HNX, rfl, rfl, Lib.hid (by have h := HL10.out.left 0; rw [List.length_append] at h; exact h)⟩
                · have hsd2 : sd' = 2 := hsd
                  subst hsd2
                  rw [if_pos rfl] at hnx hgv
                  have HNX := Lib.hid hnx
                  have HGV := Lib.hid hgv
                  clear hb hil hex hmx hmm2 hnx hfs e1 e2 e3 htp hgv hfl hil2 hgr HPI HX h0 hsd
                  by_cases hlt : xlf < n
                  · have f3 : (xlf : Int) < (n : Int) := by omega
                    rw [Nat.min_eq_right (by omega)] at HNX HGV HTP
                    have hq : xlf ≤ xlf := by omega
                    have hwl := wsub n xlf (by omega) (by have := HFO.out.le; unfold top at this; simp only at this; omega)
                    have hwr := wsub r xlf HGV.out (by have := HFO.out.rl; unfold top at this; simp only at this; omega)
                    obtain ⟨r2, hr2⟩ : ∃ r2, r - xlf = r2 := ⟨_, rfl⟩
                    rw [hr2] at HNX hwr
                    clear hr2
                    obtain ⟨n2, hn2⟩ : ∃ n2, n - xlf = n2 := ⟨_, rfl⟩
                    rw [hn2] at HNX hwl

                    clear hn2
                    have HLE := Lib.hid (fun W => rless_any ⟨xus, xlb, xwh, xsd, xbs, xqt, xpr, xlf, xrs, xsq⟩ xlf W HXS.out hq)
                    obtain ⟨X2, hX2⟩ : ∃ X2, rless ⟨xus, xlb, xwh, xsd, xbs, xqt, xpr, xlf, xrs, xsq⟩ xlf = X2 := ⟨_, rfl⟩
                    rw [hX2] at HNX HLE
                    unfold orv at HLE
                    simp only at HLE
                    obtain ⟨yus, ylb, ywh, ysd, ybs, yqt, ypr, ylf, yrs, ysq⟩ := X2
                    clear hX2 hq HGV HTP hlt
                    go_wp2_with fail
                    refine (HBC.out _ _ (Ors.of_own HLS.out.ow)).mono ?_
                    rintro e w6 ⟨rfl, hg⟩
                    have HL6 := Lib.hid (HLS.out.grew hg)
                    clear hg HLS c0 c1 c2 c3 c4 c5 c6 c7 c8 c9
                    obtain ⟨c0, c1, c2, c3, c4, c5, c6, c7, c8, c9⟩ := HL6.out.bx.cells
                    simp only at c0 c1 c2 c3 c4 c5 c6 c7 c8 c9
                    go_wp2_with fail
                    refine (HBC.out _ _ (Ors.of_own HL6.out.ow)).mono ?_
                    rintro e w7 ⟨rfl, hg⟩
                    have HL7 := Lib.hid (HL6.out.grew hg)
                    clear hg HL6 c0 c1 c2 c3 c4 c5 c6 c7 c8 c9
                    obtain ⟨c0, c1, c2, c3, c4, c5, c6, c7, c8, c9⟩ := HL7.out.bx.cells
                    simp only at c0 c1 c2 c3 c4 c5 c6 c7 c8 c9
                    obtain ⟨x0, x1, x2, x3, x4, x5, x6, x7, x8, x9⟩ := own_ten HL7.out.ow HLN.out.symm HIL.out HEX.out
                    simp only at x0 x1 x2 x3 x4 x5 x6 x7 x8 x9
                    obtain ⟨v3, w8, happ, hls⟩ := HL7.out.app ⟨(i : Int), xlf, xpr⟩ HFB.out
                    have hsl := (Fis.of_own hls.off).slice
                    obtain ⟨A3, k3, rfl, _⟩ := hsl
                    have HAPP := Lib.hid happ
                    have HL8 := Lib.hid hls
                    clear happ hls HL7
                    obtain ⟨b0, b1, b2, b3, b4, b5, b6, b7, b8, b9⟩ := HL8.out.bx.cells
                    simp only at b0 b1 b2 b3 b4 b5 b6 b7 b8 b9
                    obtain ⟨z0, z1, z2, z3, z4, z5, z6, z7, z8, z9⟩ := own_ten HL8.out.ow HLN.out.symm HIL.out HEX.out
                    simp only at z0 z1 z2 z3 z4 z5 z6 z7 z8 z9
                    go_wp2_with (at_builtin; refine wpList_app_want (.tmp 67) (.tmp 76) 39 (by rfl) (by rfl) _ _ rfl rfl _ w8 (by exact HAPP.out) ?_)
                    refine (HLE.out _).mono ?_
                    rintro e w9 ⟨rfl, hg⟩
                    have HL9 := Lib.hid (HL8.out.grew hg)
                    obtain ⟨w10, hst, hls⟩ := HL9.out.store HLN.out.symm HIL.out ⟨yus, ylb, ywh, ysd, ybs, yqt, ypr, ylf, yrs, ysq⟩
                    unfold orv at hst
                    have HST := Lib.hid hst
                    have HL10 := Lib.hid hls
                    clear hg HL8 hst hls HAPP c0 c1 c2 c3 c4 c5 c6 c7 c8 c9 x0 x1 x2 x3 x4 x5 x6 x7 x8 x9 b0 b1 b2 b3 b4 b5 b6 b7 b8 b9 z0 z1 z2 z3 z4 z5 z6 z7 z8 z9
                    obtain ⟨c0, c1, c2, c3, c4, c5, c6, c7, c8, c9⟩ := HL10.out.bx.cells
                    simp only at c0 c1 c2 c3 c4 c5 c6 c7 c8 c9
                    have fz7 := HL10.out.bx.frz 7
                    go_wp2_with (refine wpList_store (by rfl) 26 (.tmp 101) (.tmp 100) (by with_reducible rfl) _ _ (by rfl) (by rfl) _ HST.out ?_)
                    go_roundg rr.length
                    case measure => exact HGR.out
                    case rel => exact ⟨pre ++ [i], rr, _, _, _, HNX, rfl, rfl, Lib.hid (by have h := HL10.out.left n2; rw [List.length_append] at h; exact h)⟩
                  · have f3 : ¬ (xlf : Int) < (n : Int) := by omega
                    rw [Nat.min_eq_left (by omega)] at HNX HGV HTP
                    have hq : n ≤ xlf := by omega
                    have hwl := wsub n n (by omega) (by have := HFO.out.le; unfold top at this; simp only at this; omega)
                    have hwr := wsub r n HGV.out (by have := HFO.out.rl; unfold top at this; simp only at this; omega)
                    obtain ⟨r2, hr2⟩ : ∃ r2, r - n = r2 := ⟨_, rfl⟩
                    rw [hr2] at HNX hwr
                    clear hr2
                    obtain ⟨n2, hn2⟩ : ∃ n2, n - n = n2 := ⟨_, rfl⟩
                    rw [hn2] at HNX hwl
                    obtain rfl : n2 = 0 := by omega

                    have HLE := Lib.hid (fun W => rless_any ⟨xus, xlb, xwh, xsd, xbs, xqt, xpr, xlf, xrs, xsq⟩ n W HXS.out hq)
                    obtain ⟨X2, hX2⟩ : ∃ X2, rless ⟨xus, xlb, xwh, xsd, xbs, xqt, xpr, xlf, xrs, xsq⟩ n = X2 := ⟨_, rfl⟩
                    rw [hX2] at HNX HLE
                    unfold orv at HLE
                    simp only at HLE
                    obtain ⟨yus, ylb, ywh, ysd, ybs, yqt, ypr, ylf, yrs, ysq⟩ := X2
                    clear hX2 hq HGV HTP hlt
                    go_wp2_with fail
                    refine (HBC.out _ _ (Ors.of_own HLS.out.ow)).mono ?_
                    rintro e w6 ⟨rfl, hg⟩
                    have HL6 := Lib.hid (HLS.out.grew hg)
                    clear hg HLS c0 c1 c2 c3 c4 c5 c6 c7 c8 c9
                    obtain ⟨c0, c1, c2, c3, c4, c5, c6, c7, c8, c9⟩ := HL6.out.bx.cells
                    simp only at c0 c1 c2 c3 c4 c5 c6 c7 c8 c9
                    go_wp2_with fail
                    refine (HBC.out _ _ (Ors.of_own HL6.out.ow)).mono ?_
                    rintro e w7 ⟨rfl, hg⟩
                    have HL7 := Lib.hid (HL6.out.grew hg)
                    clear hg HL6 c0 c1 c2 c3 c4 c5 c6 c7 c8 c9
                    obtain ⟨c0, c1, c2, c3, c4, c5, c6, c7, c8, c9⟩ := HL7.out.bx.cells
                    simp only at c0 c1 c2 c3 c4 c5 c6 c7 c8 c9
                    obtain ⟨x0, x1, x2, x3, x4, x5, x6, x7, x8, x9⟩ := own_ten HL7.out.ow HLN.out.symm HIL.out HEX.out
                    simp only at x0 x1 x2 x3 x4 x5 x6 x7 x8 x9
                    obtain ⟨v3, w8, happ, hls⟩ := HL7.out.app ⟨(i : Int), n, xpr⟩ HFB.out
                    have hsl := (Fis.of_own hls.off).slice
                    obtain ⟨A3, k3, rfl, _⟩ := hsl
                    have HAPP := Lib.hid happ
                    have HL8 := Lib.hid hls
                    clear happ hls HL7
                    obtain ⟨b0, b1, b2, b3, b4, b5, b6, b7, b8, b9⟩ := HL8.out.bx.cells
                    simp only at b0 b1 b2 b3 b4 b5 b6 b7 b8 b9
                    obtain ⟨z0, z1, z2, z3, z4, z5, z6, z7, z8, z9⟩ := own_ten HL8.out.ow HLN.out.symm HIL.out HEX.out
                    simp only at z0 z1 z2 z3 z4 z5 z6 z7 z8 z9
                    go_wp2_with (at_builtin; refine wpList_app_want (.tmp 67) (.tmp 76) 39 (by rfl) (by rfl) _ _ rfl rfl _ w8 (by exact HAPP.out) ?_)
                    refine (HLE.out _).mono ?_
                    rintro e w9 ⟨rfl, hg⟩
                    have HL9 := Lib.hid (HL8.out.grew hg)
                    obtain ⟨w10, hst, hls⟩ := HL9.out.store HLN.out.symm HIL.out ⟨yus, ylb, ywh, ysd, ybs, yqt, ypr, ylf, yrs, ysq⟩
                    unfold orv at hst
                    have HST := Lib.hid hst
                    have HL10 := Lib.hid hls
                    clear hg HL8 hst hls HAPP c0 c1 c2 c3 c4 c5 c6 c7 c8 c9 x0 x1 x2 x3 x4 x5 x6 x7 x8 x9 b0 b1 b2 b3 b4 b5 b6 b7 b8 b9 z0 z1 z2 z3 z4 z5 z6 z7 z8 z9
                    obtain ⟨c0, c1, c2, c3, c4, c5, c6, c7, c8, c9⟩ := HL10.out.bx.cells
                    simp only at c0 c1 c2 c3 c4 c5 c6 c7 c8 c9
                    have fz7 := HL10.out.bx.frz 7
                    go_wp2_with (refine wpList_store (by rfl) 26 (.tmp 101) (.tmp 100) (by with_reducible rfl) _ _ (by rfl) (by rfl) _ HST.out ?_)
                    go_roundg rr.length
                    case measure => exact HGR.out
                    case rel => exact ⟨pre ++ [i], rr, _, _, _, HNX, rfl, rfl, Lib.hid (by have h := HL10.out.left 0; rw [List.length_append] at h; exact h)⟩
end Go.Proofs.Ytmnfajplfnfgpaa.OPO
