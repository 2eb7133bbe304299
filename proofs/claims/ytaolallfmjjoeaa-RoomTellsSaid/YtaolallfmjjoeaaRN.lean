/-
  The document on rooms: one is dug.
  Conditions: those that each lemma names.
-/
import Derived.Test.YtaolallfmjjoeaaRL
namespace Go.Proofs.Ytaolallfmjjoeaa.RN
set_option maxRecDepth 100000
open Go Go.RowKit Go.Lib Go.Proofs.Ytaolallfmjjoeaa Go.Proofs.Ytaolallfmjjoeaa.Facts Go.Proofs.Ytaolallfmjjoeaa.Ints Go.Proofs.Ytaolallfmjjoeaa.TI Go.Proofs.Ytaolallfmjjoeaa.TP Go.Proofs.Ytaolallfmjjoeaa.TB Go.Proofs.Ytaolallfmjjoeaa.TC Go.Proofs.Ytaolallfmjjoeaa.TD Go.Proofs.Ytaolallfmjjoeaa.TE Go.Proofs.Ytaolallfmjjoeaa.TF Go.Proofs.Ytaolallfmjjoeaa.TH Go.Proofs.Ytaolallfmjjoeaa.RA Go.Proofs.Ytaolallfmjjoeaa.RB Go.Proofs.Ytaolallfmjjoeaa.RC Go.Proofs.Ytaolallfmjjoeaa.RD Go.Proofs.Ytaolallfmjjoeaa.RE Go.Proofs.Ytaolallfmjjoeaa.RF Go.Proofs.Ytaolallfmjjoeaa.RG Go.Proofs.Ytaolallfmjjoeaa.RH Go.Proofs.Ytaolallfmjjoeaa.RI Go.Proofs.Ytaolallfmjjoeaa.RJ Go.Proofs.Ytaolallfmjjoeaa.RK Go.Proofs.Ytaolallfmjjoeaa.RL Go.Proofs.Ytaolallfmjjoeaa.Bytes

theorem rapp_nil (W : World) : (Builtin.append_ #[22, 22] 22 #[.slice none 0 0, .slice none 0 0]).run Try.prog W = .ok (.slice none 0 0) W := by
  simp [Builtin.append_, go_sem, run_underlying Try.underlying22]
theorem rapp_was (W : World) (v : Value) (l : List Rm) (h : Rms W v l) (hl : l.length * 24 ≤ 140737488355328) : ∃ v' w', (Builtin.append_ #[22, 22] 22 #[.slice none 0 0, v]).run Try.prog W = .ok v' w' ∧ OwnR w' W.heap.size v' l ∧ Grew W w' := by
  obtain ⟨A, c, rfl, h1, h2, h3, h4⟩ := h
  cases A with
  | none =>
    have h0 := h3 rfl
    have hn : l = [] := List.eq_nil_of_length_eq_zero (by omega)
    subst hn
    subst h0
    exact ⟨_, _, rapp_nil W, World.ownsRow_nil _ _ 74 2, Grew.refl _⟩
  | some ad =>
    obtain ⟨v', w', hr, h5, h6⟩ := ro_app W W.heap.size _ [] l ad c (World.ownsRow_nil _ _ 74 2) (h4 ad rfl) (by simpa using hl) (Nat.le_refl _)
    rw [List.nil_append] at h5
    exact ⟨v', w', hr, h5, h6⟩
set_option maxHeartbeats 2000000 in
theorem rdig_any (v : Value) (l : List Rm) (s : ByteArray) (w : World) (hl : Rms w v l) (hz : SzR l) (hn : l.length * 24 ≤ 140737488355328) (hs : s.size ≤ 9223372036854775807) :
    Calls Try.prog 9 #[v, .string s] w (AnsR (digP l s) w) := by
  unfold digP
  have HM := Lib.hid (rrooms_any v l w hl hz (by omega))
  have HR := Lib.hid (fun W => RefName.rright_any s hs W)
  have HAPP := Lib.hid (fun W (hg : Grew w W) => rapp_was W v l (hl.grew hg) hn)
  have HHIT := Lib.hid (fun k x => @fidx_hit Rm l (fun x => !x.used) k x)
  have HMISS := Lib.hid (@fidx_miss Rm l (fun x => !x.used))
  have HNN := Lib.hid hn
  unfold rofree
  generalize fidx l (fun x => !x.used) = fr at *
  obtain ⟨RES, hRES⟩ : ∃ RES : List Rm × Int × Int, RES = if fr = -1 then ([], 0, 8) else (l.set fr.toNat ⟨true, s⟩, fr, 0) := ⟨_, rfl⟩
  rw [← hRES]
  have HRN : Hid (fr = -1 → RES = ([], 0, 8)) := Lib.hid fun h => by rw [hRES, if_pos h]
  have HRK : Hid (∀ k : Nat, fr = k → RES = (l.set k ⟨true, s⟩, (k : Int), 0)) := Lib.hid fun k h => by
    rw [hRES, h, if_neg (by omega), Int.toNat_natCast]
  clear hRES
  generalize okRs l = p at *
  generalize Chars.right s.data.toList = q at *
  obtain ⟨A, c, rfl, _⟩ := hl.slice
  clear hl hs hz hn
  cases p with
  | false =>
    simp only [if_true]
    go_enter Try.func9, Try.ntmps9
    go_wp2_with fail
    refine HM.out.mono ?_
    rintro e w1 ⟨rfl, hg⟩
    have G1 := Lib.hid hg
    clear hg
    go_wp2
    go_returns
    exact ⟨_, rfl, rw_none _, G1.out⟩
  | true =>
    cases q with
    | false =>
      simp only [if_true, Bool.true_eq_false, if_false]
      go_enter Try.func9, Try.ntmps9
      go_wp2_with fail
      refine HM.out.mono ?_
      rintro e w1 ⟨rfl, hg⟩
      have G1 := Lib.hid hg
      clear hg
      go_wp2_with fail
      refine (HR.out _).mono ?_
      rintro e w3 ⟨rfl, hw⟩
      subst hw
      go_wp2
      go_returns
      exact ⟨_, rfl, rw_none _, G1.out⟩
    | true =>
      simp only [Bool.true_eq_false, if_false]
      go_enter Try.func9, Try.ntmps9
      go_wp2_with fail
      refine HM.out.mono ?_
      rintro e w1 ⟨rfl, hg⟩
      have G1 := Lib.hid hg
      clear hg
      go_wp2_with fail
      refine (HR.out _).mono ?_
      rintro e w3 ⟨rfl, hw⟩
      subst hw
      obtain ⟨v', w2, hr, ho, hg⟩ := HAPP.out w3 G1.out
      have HAR := Lib.hid hr
      have HO := Lib.hid ho
      have G2 := Lib.hid (G1.out.trans hg)
      have HB : Hid (w.heap.size ≤ w3.heap.size) := Lib.hid G1.out.size
      obtain ⟨A2, c2, rfl, _⟩ := (Rms.of_own ho).slice
      clear hr ho hg
      go_wp2_with (at_builtin; refine wpList_app_want (.tmp 15) (.tmp 16) 22 (by rfl) (by rfl) _ _ rfl rfl (.slice A2 l.length c2) w2 (by exact HAR.out) ?_)
      clear HAR HAPP HM HR
      go_loopg [8] l.length (fun g s8 wx => ∃ k : Nat, k + g = l.length ∧ s8 = .int .i64 k ∧ Hid (∀ j y, j < k → l[j]? = some y → (!y.used) = false) ∧ wx = w2)
      case atStart => exact ⟨0, by omega, rfl, Lib.hid (fun j y h => absurd h (by omega)), rfl⟩
      case round =>
        obtain ⟨k, hkg, rfl, HJ, hwx⟩ := hrel
        subst hwx
        cases gk with
        | zero =>
          have hkz : ¬ ((k : Int) < (l.length : Int)) := by omega
          have HE : Hid (fr = -1) := Lib.hid (HMISS.out fun j y hy => HJ.out j y (by have := (List.getElem?_eq_some_iff.1 hy).1; omega) hy)
          have eR := HRN.out HE.out
          subst eR
          go_wp2
          go_returns
          exact ⟨_, rfl, rw_none _, G2.out⟩
        | succ g =>
          have hkz : (k : Int) < (l.length : Int) := by omega
          have hkl : k < l.length := by omega
          have hx : l[k]? = some (er l k) := by unfold er; rw [List.getElem?_eq_getElem hkl]; rfl
          obtain ⟨gb, cap, e, hbg, hgl⟩ := HO.out.form (by omega)
          injection e with e1 _ e3
          subst e1 e3
          have r0 := HO.out.cellAt (k * 2 + 0) (by omega)
          rw [flat_get rcs 2 (fun _ => rfl) l k 0 (er l k) hx (by decide)] at r0
          have f0 := HO.out.frozenAt (k * 2 + 0)
          have r1 := HO.out.cellAt (k * 2 + 1) (by omega)
          rw [flat_get rcs 2 (fun _ => rfl) l k 1 (er l k) hx (by decide)] at r1
          have f1 := HO.out.frozenAt (k * 2 + 1)
          have HXX := Lib.hid hx
          have HKW := Lib.hid (wr1b hkl (by have := HNN.out; omega))
          simp only [rcs, List.getElem?_cons_zero, List.getElem?_cons_succ, Nat.add_zero] at r0 r1 f0
          cases hu : (er l k).used with
          | true =>
            rw [hu] at r0
            have HN2 : Hid (∀ j y, j < k + 1 → l[j]? = some y → (!y.used) = false) := Lib.hid fun j y hj hy => by
              by_cases hjk : j = k
              · subst hjk
                rw [HXX.out] at hy
                cases hy
                rw [hu]
                rfl
              · exact HJ.out j y (by omega) hy
            clear HXX hu hx hkl
            go_wp2
            go_roundg g
            case measure => omega
            case rel => exact ⟨k + 1, by omega, by first | (simp; done) | rw [HKW.out], HN2, rfl⟩
          | false =>
            rw [hu] at r0
            have HE : Hid (fr = k) := Lib.hid (HHIT.out _ _ HXX.out (by rw [hu]; rfl) HJ.out)
            have eR := HRK.out k HE.out
            subst eR
            obtain ⟨s0, _⟩ := HO.out.stored (k * 2) (.bool true)
            obtain ⟨s1, _⟩ := s0.stored (k * 2 + 1) (.string s)
            rw [rcs_set ⟨true, s⟩] at s1
            have HS := Lib.hid s1
            have hgw : w.heap.size ≤ gb := Nat.le_trans HB.out hbg
            have HG : Hid (Below w.heap.size w ((wr.setCell ⟨gb, k * 2, none⟩ (.bool true)).setCell ⟨gb, k * 2 + 1, none⟩ (.string s))) := Lib.hid (((show Below w.heap.size w wr from G2.out).setCell (p := ⟨gb, k * 2, none⟩) hgw _).setCell (p := ⟨gb, k * 2 + 1, none⟩) hgw _)
            clear HXX hu hx hkl s0 s1 HRK HRN hgw
            go_wp2
            go_returns
            refine ⟨_, rfl, ?_, HG.out⟩
            show Rw _ _ (l.set k _).length _
            rw [List.length_set]
            exact Rw.of_own HS.out (fun h0 => absurd h0 (by omega))
end Go.Proofs.Ytaolallfmjjoeaa.RN
