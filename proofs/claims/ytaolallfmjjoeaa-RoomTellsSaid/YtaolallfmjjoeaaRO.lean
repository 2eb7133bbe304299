/-
  RoomTells: which lists of rooms may be, and what comes of digging, is told.
  Conditions: those that each lemma names.
-/
import Derived.Test.YtaolallfmjjoeaaRN
namespace Go.Proofs.Ytaolallfmjjoeaa.RO
set_option maxRecDepth 100000
open Go Go.RowKit Go.Lib Go.Proofs.Ytaolallfmjjoeaa Go.Proofs.Ytaolallfmjjoeaa.Facts Go.Proofs.Ytaolallfmjjoeaa.Ints Go.Proofs.Ytaolallfmjjoeaa.TI Go.Proofs.Ytaolallfmjjoeaa.TP Go.Proofs.Ytaolallfmjjoeaa.TB Go.Proofs.Ytaolallfmjjoeaa.TC Go.Proofs.Ytaolallfmjjoeaa.TD Go.Proofs.Ytaolallfmjjoeaa.TE Go.Proofs.Ytaolallfmjjoeaa.TF Go.Proofs.Ytaolallfmjjoeaa.TH Go.Proofs.Ytaolallfmjjoeaa.RA Go.Proofs.Ytaolallfmjjoeaa.RB Go.Proofs.Ytaolallfmjjoeaa.RC Go.Proofs.Ytaolallfmjjoeaa.RD Go.Proofs.Ytaolallfmjjoeaa.RE Go.Proofs.Ytaolallfmjjoeaa.RF Go.Proofs.Ytaolallfmjjoeaa.RG Go.Proofs.Ytaolallfmjjoeaa.RH Go.Proofs.Ytaolallfmjjoeaa.RI Go.Proofs.Ytaolallfmjjoeaa.RJ Go.Proofs.Ytaolallfmjjoeaa.RK Go.Proofs.Ytaolallfmjjoeaa.RL Go.Proofs.Ytaolallfmjjoeaa.RN Go.Proofs.Ytaolallfmjjoeaa.Bytes

theorem ansR_slice {r : List Rm × Int × Int} {w w' : World} {e : Ending} (h : AnsR r w e w') : ∃ A c, e = .returned (.tuple #[.slice A r.1.length c, .int .i64 r.2.1, .int .i64 r.2.2]) ∧ Rms w' (.slice A r.1.length c) r.1 ∧ Grew w w' := by
  obtain ⟨v', e1, hi, hg⟩ := h
  obtain ⟨A, c, e2, _⟩ := hi.slice
  subst e2
  exact ⟨A, c, e1, hi, hg⟩
theorem sameR_refl (v v2 : Value) (l : List Rm) (w : World) (h : Rms w v l) (h2 : Rms w v2 l) : Calls Try.prog 13 #[v, v2] w fun e w' => e = .returned (.bool true) ∧ Grew w w' := by
  have := sameR_any v v2 l l w h h2
  rw [decide_eq_true rfl] at this
  exact this
set_option maxHeartbeats 4000000 in
theorem law (v : Value) (l : List Rm) (s : ByteArray) (w : World) (hl : Rms w v l) (hz : SzR l) (hn : l.length * 24 ≤ 140737488355328) (hs : s.size ≤ 9223372036854775807) : Calls Try.prog 3 #[v, .string s] w fun e w' => e = .returned (.bool true) ∧ Grew w w' := by
  have HAL := Lib.hid RJ.alive_any
  obtain ⟨v', w2, hr, ho, hg⟩ := rapp_was w v l hl hn
  have hi := Rms.of_own ho
  have HDG := Lib.hid (fun W (hg : Grew w W) => dig_any v l s W (hl.grew hg) hz hn hs)
  have HDG2 := Lib.hid (fun W (hg : Grew w W) => rdig_any v l s W (hl.grew hg) hz hn hs)
  have HRI := Lib.hid (fun W (hg : Grew w W) => rooms_any v l W (hl.grew hg) hz)
  have HRI2 := Lib.hid (fun W (hg : Grew w W) => rrooms_any v l W (hl.grew hg) hz (by omega))
  have HSAME := Lib.hid (fun W v1 v2 R (h1 : Rms W v1 R) (h2 : Rms W v2 R) => sameR_refl v1 v2 R W h1 h2)
  have HX := Lib.hid hl
  generalize digP l s = r1 at *
  generalize okRs l = p at *
  obtain ⟨R1, k1, x1⟩ := r1
  have HAPP := Lib.hid hr
  have HWAS := Lib.hid hi
  have G2 := Lib.hid hg
  obtain ⟨A, c, rfl, _⟩ := hl.slice
  obtain ⟨Aw, cw, rfl, _⟩ := hi.slice
  clear hl hz hs hn hr hi hg ho
  go_enter Try.func3, Try.ntmps3
  go_wp2_with (at_builtin; refine wpList_app_want (.tmp 12) (.tmp 13) 22 (by rfl) (by rfl) _ _ rfl rfl (.slice Aw l.length cw) w2 (by exact HAPP.out) ?_)
  refine (HDG.out _ G2.out).mono ?_
  rintro e w3 ha
  obtain ⟨A3, c3, rfl, hi, hg⟩ := ansR_slice ha
  have HA1 := Lib.hid hi
  have G3 := Lib.hid (G2.out.trans hg)
  replace HWAS := Lib.hid (HWAS.out.grew hg)
  clear ha hi hg HAPP
  go_wp2_with fail
  refine (HDG2.out _ G3.out).mono ?_
  rintro e w4 ha
  obtain ⟨A4, c4, rfl, hi, hg⟩ := ansR_slice ha
  have HB1 := Lib.hid hi
  have G4 := Lib.hid (G3.out.trans hg)
  replace HA1 := Lib.hid (HA1.out.grew hg)
  replace HWAS := Lib.hid (HWAS.out.grew hg)
  clear ha hi hg HDG HDG2
  go_wp2_with fail
  refine (HAL.out _).mono ?_
  rintro e w5 ⟨rfl, hg⟩
  have G5 := Lib.hid (G4.out.trans hg)
  replace HA1 := Lib.hid (HA1.out.grew hg)
  replace HB1 := Lib.hid (HB1.out.grew hg)
  replace HWAS := Lib.hid (HWAS.out.grew hg)
  clear hg
  go_wp2_with fail
  refine (HRI.out _ G5.out).mono ?_
  rintro e w6 ⟨rfl, hg⟩
  have G6 := Lib.hid (G5.out.trans hg)
  replace HA1 := Lib.hid (HA1.out.grew hg)
  replace HB1 := Lib.hid (HB1.out.grew hg)
  replace HWAS := Lib.hid (HWAS.out.grew hg)
  clear hg
  go_wp2_with fail
  refine (HRI2.out _ G6.out).mono ?_
  rintro e w7 ⟨rfl, hg⟩
  have G7 := Lib.hid (G6.out.trans hg)
  replace HA1 := Lib.hid (HA1.out.grew hg)
  replace HB1 := Lib.hid (HB1.out.grew hg)
  replace HWAS := Lib.hid (HWAS.out.grew hg)
  clear hg
  go_wp2_with fail
  refine (HSAME.out _ _ _ _ HA1.out HB1.out).mono ?_
  rintro e w8 ⟨rfl, hg⟩
  have G8 := Lib.hid (G7.out.trans hg)
  replace HWAS := Lib.hid (HWAS.out.grew hg)
  clear hg HA1 HB1
  go_wp2_with fail
  refine (HSAME.out _ _ _ _ (HX.out.grew G8.out) HWAS.out).mono ?_
  rintro e w9 ⟨rfl, hg⟩
  have G9 := Lib.hid (G8.out.trans hg)
  clear hg
  go_wp2
  go_returns
  exact ⟨by simp, G9.out⟩
end Go.Proofs.Ytaolallfmjjoeaa.RO
