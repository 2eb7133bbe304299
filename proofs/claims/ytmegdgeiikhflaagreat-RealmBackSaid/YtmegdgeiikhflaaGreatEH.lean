/-
  RealmBack.
  Conditions: those that each lemma names.
-/
import Derived.Test.YtmegdgeiikhflaaGreatEG
import Derived.Test.YtmegdgeiikhflaaGreatHO
namespace Go.Proofs.YtmegdgeiikhflaaGreat.EH
set_option maxRecDepth 100000
open Go Go.RowKit Go.Lib Go.Proofs.YtmegdgeiikhflaaGreat Go.Proofs.YtmegdgeiikhflaaGreat.Facts Go.Proofs.YtmegdgeiikhflaaGreat.Bytes Go.Proofs.YtmegdgeiikhflaaGreat.Plain Go.Proofs.YtmegdgeiikhflaaGreat.Ints Go.Proofs.YtmegdgeiikhflaaGreat.LBox Go.Proofs.YtmegdgeiikhflaaGreat.RRows Go.Proofs.YtmegdgeiikhflaaGreat.RSmall Go.Proofs.YtmegdgeiikhflaaGreat.RRules Go.Proofs.YtmegdgeiikhflaaGreat.RRule3 Go.Proofs.YtmegdgeiikhflaaGreat.RRule5 Go.Proofs.YtmegdgeiikhflaaGreat.RCaps Go.Proofs.YtmegdgeiikhflaaGreat.RRight Go.Proofs.YtmegdgeiikhflaaGreat.Puts Go.Proofs.YtmegdgeiikhflaaGreat.BA Go.Proofs.YtmegdgeiikhflaaGreat.BB Go.Proofs.YtmegdgeiikhflaaGreat.BC Go.Proofs.YtmegdgeiikhflaaGreat.BD Go.Proofs.YtmegdgeiikhflaaGreat.BE Go.Proofs.YtmegdgeiikhflaaGreat.Scan Go.Proofs.YtmegdgeiikhflaaGreat.Take Go.Proofs.YtmegdgeiikhflaaGreat.Nums Go.Proofs.YtmegdgeiikhflaaGreat.CA Go.Proofs.YtmegdgeiikhflaaGreat.CB Go.Proofs.YtmegdgeiikhflaaGreat.CC Go.Proofs.YtmegdgeiikhflaaGreat.CD Go.Proofs.YtmegdgeiikhflaaGreat.CE Go.Proofs.YtmegdgeiikhflaaGreat.ED Go.Proofs.YtmegdgeiikhflaaGreat.CF Go.Proofs.YtmegdgeiikhflaaGreat.EC Go.Proofs.YtmegdgeiikhflaaGreat.EB Go.Proofs.YtmegdgeiikhflaaGreat.EG

theorem right_true (v : Value) (r : Re) (w : World) (h : ReIs w v r) (hs : Sized r) (hm : mayBe r = true) : Calls Tryz.prog 11 #[v] w fun e w' => e = .returned (.bool true) ∧ Grew w w' :=
  (right_re v r w h hs).mono fun e w' ⟨he, hg⟩ => ⟨by rw [he, hm], hg⟩
theorem bytes_len (r : Re) : (bytesP r).length ≤ 140737488355328 := by
  cases hm : mayBe r with
  | false => rw [bytes_none hm]; simp
  | true =>
    obtain ⟨l1, l2, l3, l4, l5, _⟩ := may_bounds hm
    have e1 := flat_le encL r.labels fun x _ => encL_le x
    have e2 := flat_le pb r.lines fun x _ => (by rw [pb_len]; omega : (pb x).length ≤ 600)
    have e3 := flat_le encA r.accounts fun x _ => encA_le x
    have e4 := flat_le encG r.guilds fun x _ => encG_le x
    have e5 := flat_le encQ r.quotas fun x _ => encQ_le x
    rw [show bytesP r = bytesR r from if_pos hm]
    unfold bytesR
    simp only [List.length_append, pb_len, putP, List.length_flatMap, List.map_cons, List.map_nil, List.sum_cons, List.sum_nil] at e1 e2 e3 e4 e5 ⊢
    omega
theorem cap_le {S : Nat → Prop} {w : World} {A : Option Addr} {n c : Nat} {l : List UInt8} (h : Rd S w (.slice A n c) l) (_hn : n = l.length) : l.length ≤ c := by
  obtain ⟨A', c', e, h1, _⟩ := h
  injection e with _ _ e3
  subst e3
  exact h1
theorem conv_r {S : Nat → Prop} {w : World} {v : Value} {l : List UInt8} (h : Rd S w v l) : (convert 41 9 v).run Tryz.prog w = .ok (.string ⟨l.toArray⟩) w :=
  run_toString w Tryz.underlying41 Tryz.underlying5 Tryz.underlying9 h
theorem rd_take {S : Nat → Prop} {w : World} {A : Option Addr} {c n : Nat} {l : List UInt8} (h : Rd S w (.slice A l.length c) l) (hn : n ≤ l.length) : Rd S w (.slice A n c) (l.take n) := by
  obtain ⟨A', c', e, h1, h2, h3, h4⟩ := h
  injection e with e1 _ e3
  subst e1 e3
  refine ⟨A, c, by rw [List.length_take, Nat.min_eq_left hn], by rw [List.length_take]; omega, h2, h3, fun ad hA => ⟨fun hl => (h4 ad hA).1 (fun e => hl (by rw [e, List.take_nil])), fun j u hu => (h4 ad hA).2 j u ?_⟩⟩
  unfold bv at hu ⊢
  rw [List.getElem?_map] at hu ⊢
  rw [List.getElem?_take] at hu
  split at hu
  · exact hu
  · simp at hu
set_option maxHeartbeats 16000000 in
theorem back (v : Value) (r : Re) (cut : Int) (vb : Value) (b : List UInt8) (w : World) (h : ReIs w v r) (hs : Sized r) (hb : Rd (fun _ => True) w vb b) (hbl : b.length ≤ 140737488355328) :
    Calls Tryz.prog 5 #[v, .int .i64 cut, vb] w fun e w' => e = .returned (.bool true) ∧ Grew w w' := by
  have HRE := Lib.hid h
  have HSZ := Lib.hid hs
  have HBB := Lib.hid hb
  have HRB := Lib.hid (fun W (hg : Grew w W) => read_any (fun _ => True) vb b W (hb.grew hg) hbl)
  have hsu : Sized (readP b).1 := by
    unfold readP
    split
    · split
      · exact parts_sized b hbl
      · exact z_sized
    · exact z_sized
  obtain ⟨⟨U, er⟩, hP⟩ : ∃ P, readP b = P := ⟨_, rfl⟩
  have HP := Lib.hid hP
  rw [hP] at HRB hsu
  simp only at HRB hsu
  have HSU := Lib.hid hsu
  obtain ⟨AB, cB, rfl, _⟩ := id hb
  clear hs hb hbl hP hsu
  obtain ⟨Rv0, Rv1, Rv2, Rv3, Rv4, rfl, h0, h1, h2, h3, h4⟩ := h
  obtain ⟨R0, kr0, rfl, _⟩ := h0.slice
  obtain ⟨R1, kr1, rfl, _⟩ := id h1
  obtain ⟨R2, kr2, rfl, _⟩ := h2.slice
  obtain ⟨R3, kr3, rfl, _⟩ := h3.slice
  obtain ⟨R4, kr4, rfl, _⟩ := h4.slice
  clear h0 h1 h2 h3 h4

  have G0 : Hid (Grew w (w.alloc (Obj.cells #[.slice R0 r.labels.length kr0, .slice R1 r.lines.length kr1, .slice R2 r.accounts.length kr2, .slice R3 r.guilds.length kr3, .slice R4 r.quotas.length kr4, .int .i64 r.orders, .int .i64 r.audits, .int .i64 r.rate, .int .i64 r.rounds] 28))) := Lib.hid (by unfold Grew; go_grown)
  have R0 : Hid ((w.alloc (Obj.cells #[.slice R0 r.labels.length kr0, .slice R1 r.lines.length kr1, .slice R2 r.accounts.length kr2, .slice R3 r.guilds.length kr3, .slice R4 r.quotas.length kr4, .int .i64 r.orders, .int .i64 r.audits, .int .i64 r.rate, .int .i64 r.rounds] 28)).heap[w.heap.size]? = some (rcell (.slice R0 r.labels.length kr0) (.slice R1 r.lines.length kr1) (.slice R2 r.accounts.length kr2) (.slice R3 r.guilds.length kr3) (.slice R4 r.quotas.length kr4) r.orders r.audits r.rate r.rounds)) := Lib.hid (heap_alloc_new w _)
  obtain ⟨c0, c1, c2, c3, c4, c5, c6, c7, c8⟩ := re_cells R0.out

  go_enter Tryz.func5, Tryz.ntmps5
  go_wp2_with fail
  with_reducible refine (bytes_any _ r _ (HRE.out.grew G0.out) HSZ.out).mono ?_
  rintro e w1 ⟨vt, rfl, hob, hg⟩
  have HOB := Lib.hid hob
  have G1 := Lib.hid (G0.out.trans hg)
  have R1 := Lib.hid (keepB R0.out hg)
  obtain ⟨AT, cT, rfl, _⟩ := hob.rd
  clear hob hg c0 c1 c2 c3 c4 c5 c6 c7 c8
  obtain ⟨c0, c1, c2, c3, c4, c5, c6, c7, c8⟩ := re_cells R1.out

  go_wp2_with fail
  with_reducible refine (right_re _ r _ (HRE.out.grew G1.out) HSZ.out).mono ?_
  rintro e w2 ⟨rfl, hg⟩
  have G2 := Lib.hid (G1.out.trans hg)
  have R2 := Lib.hid (keepB R1.out hg)
  have HT2 := Lib.hid (HOB.out.rd.grew hg)
  clear hg c0 c1 c2 c3 c4 c5 c6 c7 c8 HOB
  cases hm : mayBe r with
  | false =>
    have ht : (bytesP r).length = 0 := by rw [bytes_none hm]; rfl
    have GT := G2
    rw [ht]
    clear ht hm HT2
    go_wp2_with fail
    refine (HRB.out _ GT.out).mono ?_
    rintro e w8 ⟨vu, rfl, hu, hg, _⟩
    have HRU0 := Lib.hid hu
    obtain ⟨Uv0, Uv1, Uv2, Uv3, Uv4, rfl, h0, h1, h2, h3, h4⟩ := hu
    obtain ⟨U0, ku0, rfl, _⟩ := h0.slice
    obtain ⟨U1, ku1, rfl, _⟩ := id h1
    obtain ⟨U2, ku2, rfl, _⟩ := h2.slice
    obtain ⟨U3, ku3, rfl, _⟩ := h3.slice
    obtain ⟨U4, ku4, rfl, _⟩ := h4.slice
    clear h0 h1 h2 h3 h4
    have GN : Grew w8 (w8.alloc (Obj.cells #[.slice U0 U.labels.length ku0, .slice U1 U.lines.length ku1, .slice U2 U.accounts.length ku2, .slice U3 U.guilds.length ku3, .slice U4 U.quotas.length ku4, .int .i64 U.orders, .int .i64 U.audits, .int .i64 U.rate, .int .i64 U.rounds] 28)) := by unfold Grew; go_grown
    have GU := Lib.hid (GT.out.trans (hg.trans GN))
    have RU : Hid ((w8.alloc (Obj.cells #[.slice U0 U.labels.length ku0, .slice U1 U.lines.length ku1, .slice U2 U.accounts.length ku2, .slice U3 U.guilds.length ku3, .slice U4 U.quotas.length ku4, .int .i64 U.orders, .int .i64 U.audits, .int .i64 U.rate, .int .i64 U.rounds] 28)).heap[w8.heap.size]? = some (rcell (.slice U0 U.labels.length ku0) (.slice U1 U.lines.length ku1) (.slice U2 U.accounts.length ku2) (.slice U3 U.guilds.length ku3) (.slice U4 U.quotas.length ku4) U.orders U.audits U.rate U.rounds)) := Lib.hid (heap_alloc_new w8 _)
    have HRU := Lib.hid (HRU0.out.grew GN)
    clear hg GN HRU0 HRB
    by_cases her : er = 0
    · subst her
      obtain ⟨hmu, hbu⟩ := bytes_read HP.out
      have HMU := Lib.hid hmu
      have HBU := Lib.hid hbu
      have HRT2 := Lib.hid (fun W (hC : Grew (w8.alloc (Obj.cells #[.slice U0 U.labels.length ku0, .slice U1 U.lines.length ku1, .slice U2 U.accounts.length ku2, .slice U3 U.guilds.length ku3, .slice U4 U.quotas.length ku4, .int .i64 U.orders, .int .i64 U.audits, .int .i64 U.rate, .int .i64 U.rounds] 28)) W) => right_true _ U W (HRU.out.grew hC) HSU.out HMU.out)
      clear hmu hbu HP
      go_wp2
      refine Facts.wp_region_text (by kernel_rfl) (by kernel_rfl) ?_
      apply Facts.Lex.exact [] (.bool true) (by kernel_rfl)
      · intro u W hC _
        unfold Facts.one
        go_simp
        exact ((alive_any W).mono fun e w' ⟨he, hg⟩ => ⟨_, he, hg, rfl⟩)
      simp only [Act.put, List.setIfInBounds_toArray, List.set_cons_zero, List.set_cons_succ, Nat.zero_add]
      iterate 4
        apply Facts.Lex.exact [] _ (by kernel_rfl)
        · intro u W hC _
          unfold Facts.one
          go_simp
          first | exact ⟨Grew.refl _, rfl⟩ | rfl
        simp only [Act.put, List.setIfInBounds_toArray, List.set_cons_zero, List.set_cons_succ, Nat.reduceAdd]
      apply Facts.Lex.exact [] _ (by kernel_rfl)
      · intro u W hC _
        obtain ⟨q0, q1, q2, q3, q4, q5, q6, q7, q8⟩ := re_cells (keepB RU.out hC)
        unfold Facts.one
        go_simp
        first | exact ⟨Grew.refl _, rfl⟩ | rfl
      simp only [Act.put, List.setIfInBounds_toArray, List.set_cons_zero, List.set_cons_succ, Nat.reduceAdd]
      apply Facts.Lex.exact [] (.bool true) (by kernel_rfl)
      · intro u W hC _
        unfold Facts.one
        go_simp
        exact ((HRT2.out W hC).mono fun e w' ⟨he, hg⟩ => ⟨_, he, hg, rfl⟩)
      simp only [Act.put, List.setIfInBounds_toArray, List.set_cons_zero, List.set_cons_succ, Nat.reduceAdd]
      apply Facts.Lex.exact [] _ (by kernel_rfl)
      · intro u W hC _
        unfold Facts.one
        go_simp
        first | exact ⟨Grew.refl _, rfl⟩ | rfl
      simp only [Act.put, List.setIfInBounds_toArray, List.set_cons_zero, List.set_cons_succ, Nat.reduceAdd]
      apply Facts.Lex.exact [] _ (by kernel_rfl)
      · intro u W hC _
        obtain ⟨q0, q1, q2, q3, q4, q5, q6, q7, q8⟩ := re_cells (keepB RU.out hC)
        unfold Facts.one
        go_simp
        first | exact ⟨Grew.refl _, rfl⟩ | rfl
      simp only [Act.put, List.setIfInBounds_toArray, List.set_cons_zero, List.set_cons_succ, Nat.reduceAdd]
      refine Facts.Lex.know [] (fun v w => Rd (fun _ => True) w v b) (by kernel_rfl) (fun _ _ _ h hg => h.grew hg) ?_ ?_
      · intro u W hC hK
        clear hK
        have hN := bytes_any _ U W (HRU.out.grew hC) HSU.out
        rw [HBU.out] at hN
        unfold Facts.one
        go_simp
        refine hN.mono ?_
        rintro e w' ⟨v', rfl, hr, hg⟩
        exact ⟨_, rfl, hg, hr.rd⟩
      simp only [Act.put, List.setIfInBounds_toArray, List.set_cons_zero, List.set_cons_succ, Nat.reduceAdd]
      apply Facts.Lex.exact [9] (.string ⟨b.toArray⟩) (by kernel_rfl)
      · intro u W hC hK
        have hcv := conv_r (show Rd (fun _ => True) W (u 9) b from hK.1)
        clear hK
        unfold Facts.one
        go_simp
        first | exact ⟨Grew.refl _, rfl⟩ | rfl
      simp only [Act.put, List.setIfInBounds_toArray, List.set_cons_zero, List.set_cons_succ, Nat.reduceAdd]
      apply Facts.Lex.exact [] _ (by kernel_rfl)
      · intro u W hC _
        unfold Facts.one
        go_simp
        first | exact ⟨Grew.refl _, rfl⟩ | rfl
      simp only [Act.put, List.setIfInBounds_toArray, List.set_cons_zero, List.set_cons_succ, Nat.reduceAdd]
      apply Facts.Lex.exact [] (.string ⟨b.toArray⟩) (by kernel_rfl)
      · intro u W hC hK
        have hcv := conv_r (HBB.out.grew (GU.out.trans hC))
        clear hK
        unfold Facts.one
        go_simp
        first | exact ⟨Grew.refl _, rfl⟩ | rfl
      simp only [Act.put, List.setIfInBounds_toArray, List.set_cons_zero, List.set_cons_succ, Nat.reduceAdd]
      iterate 5
        apply Facts.Lex.exact [] _ (by kernel_rfl)
        · intro u W hC _
          unfold Facts.one
          go_simp
          first | exact ⟨Grew.refl _, rfl⟩ | rfl
        simp only [Act.put, List.setIfInBounds_toArray, List.set_cons_zero, List.set_cons_succ, Nat.reduceAdd]
      refine Facts.Lex.done fun u W2 hC hL => ?_

      have GF := Lib.hid (GU.out.trans hC)
      clear hC hL
      go_wp2
      go_returns
      exact ⟨rfl, GF.out⟩
    · have her1 : (er == 0) = false := by simp; exact her
      have her2 : (er != 0) = true := by simp; exact her
      clear her HP
      go_wp2
      refine Facts.wp_region_text (by kernel_rfl) (by kernel_rfl) ?_
      apply Facts.Lex.exact [] (.bool true) (by kernel_rfl)
      · intro u W hC _
        unfold Facts.one
        go_simp
        exact ((alive_any W).mono fun e w' ⟨he, hg⟩ => ⟨_, he, hg, rfl⟩)
      simp only [Act.put, List.setIfInBounds_toArray, List.set_cons_zero, List.set_cons_succ, Nat.zero_add]
      iterate 4
        apply Facts.Lex.exact [] _ (by kernel_rfl)
        · intro u W hC _
          unfold Facts.one
          go_simp
          first | exact ⟨Grew.refl _, rfl⟩ | rfl
        simp only [Act.put, List.setIfInBounds_toArray, List.set_cons_zero, List.set_cons_succ, Nat.reduceAdd]
      repeat
        apply Facts.Lex.exact [] _ (by kernel_rfl)
        · intro u W hC _
          unfold Facts.one
          go_simp
          first | exact ⟨Grew.refl _, rfl⟩ | rfl
        simp only [Act.put, List.setIfInBounds_toArray, List.set_cons_zero, List.set_cons_succ, Nat.reduceAdd]

      refine Facts.Lex.done fun u W2 hC hL => ?_

      have GF := Lib.hid (GU.out.trans hC)
      clear hC hL
      go_wp2
      go_returns
      exact ⟨rfl, GF.out⟩

  | true =>
    have HM := Lib.hid hm
    have hrb := read_bytes hm
    have hcut := fun n (hn : n < (bytesP r).length) => read_cut hm hn
    have HCUT := Lib.hid hcut
    have HRT := Lib.hid (read_any (fun _ => True) _ (bytesP r) w2 HT2.out (bytes_len r))
    rw [hrb] at HRT
    simp only at HRT
    clear hm hrb hcut
    go_wp2_with fail
    refine HRT.out.mono ?_
    rintro e w3 ⟨vs, rfl, hrs, hg, _⟩
    have HRS0 := Lib.hid hrs
    obtain ⟨Sv0, Sv1, Sv2, Sv3, Sv4, rfl, h0, h1, h2, h3, h4⟩ := hrs
    obtain ⟨S0, ks0, rfl, _⟩ := h0.slice
    obtain ⟨S1, ks1, rfl, _⟩ := id h1
    obtain ⟨S2, ks2, rfl, _⟩ := h2.slice
    obtain ⟨S3, ks3, rfl, _⟩ := h3.slice
    obtain ⟨S4, ks4, rfl, _⟩ := h4.slice
    clear h0 h1 h2 h3 h4

    have GN : Grew w3 (w3.alloc (Obj.cells #[.slice S0 r.labels.length ks0, .slice S1 r.lines.length ks1, .slice S2 r.accounts.length ks2, .slice S3 r.guilds.length ks3, .slice S4 r.quotas.length ks4, .int .i64 r.orders, .int .i64 r.audits, .int .i64 r.rate, .int .i64 r.rounds] 28)) := by unfold Grew; go_grown
    have G3 := Lib.hid (G2.out.trans (hg.trans GN))
    have R3 := Lib.hid (keepB R2.out (hg.trans GN))
    have S3 : Hid ((w3.alloc (Obj.cells #[.slice S0 r.labels.length ks0, .slice S1 r.lines.length ks1, .slice S2 r.accounts.length ks2, .slice S3 r.guilds.length ks3, .slice S4 r.quotas.length ks4, .int .i64 r.orders, .int .i64 r.audits, .int .i64 r.rate, .int .i64 r.rounds] 28)).heap[w3.heap.size]? = some (rcell (.slice S0 r.labels.length ks0) (.slice S1 r.lines.length ks1) (.slice S2 r.accounts.length ks2) (.slice S3 r.guilds.length ks3) (.slice S4 r.quotas.length ks4) r.orders r.audits r.rate r.rounds)) := Lib.hid (heap_alloc_new w3 _)
    have HRS := Lib.hid (HRS0.out.grew GN)
    have HT3 := Lib.hid (HT2.out.grew (hg.trans GN))
    clear hg GN HRS0 HRT
    obtain ⟨c0, c1, c2, c3, c4, c5, c6, c7, c8⟩ := re_cells R3.out

    obtain ⟨s0, s1, s2, s3, s4, s5, s6, s7, s8⟩ := re_cells S3.out

    go_wp2_with fail
    refine (same_self _ _ r _ (HRE.out.grew G3.out) HRS.out).mono ?_
    rintro e w4 ⟨rfl, hg⟩
    have G4 := Lib.hid (G3.out.trans hg)
    have HT4 := Lib.hid (HT3.out.grew hg)
    clear hg c0 c1 c2 c3 c4 c5 c6 c7 c8 s0 s1 s2 s3 s4 s5 s6 s7 s8
    by_cases hc0 : 0 ≤ cut
    · obtain ⟨n, rfl⟩ := Int.eq_ofNat_of_zero_le hc0
      by_cases hcl : n < (bytesP r).length
      · have hcz : (n : Int) < ((bytesP r).length : Int) := by omega
        have HR12 := Lib.hid (read_any (fun _ => True) _ ((bytesP r).take n) w4 (rd_take HT4.out (by omega)) (by
          have hq := bytes_len r
          rw [List.length_take]
          omega))
        rw [HCUT.out n hcl] at HR12
        simp only at HR12
        have hnc : n ≤ cT := by
          have hq := cap_le HT4.out rfl
          omega
        clear hc0 hcl
        go_wp2_with fail
        refine HR12.out.mono ?_
        rintro e w5 ⟨vq, rfl, hrq, hg, _⟩
        obtain ⟨Qv0, Qv1, Qv2, Qv3, Qv4, rfl, h0, h1, h2, h3, h4⟩ := hrq
        obtain ⟨Q0, kq0, rfl, _⟩ := h0.slice
        obtain ⟨Q1, kq1, rfl, _⟩ := id h1
        obtain ⟨Q2, kq2, rfl, _⟩ := h2.slice
        obtain ⟨Q3, kq3, rfl, _⟩ := h3.slice
        obtain ⟨Q4, kq4, rfl, _⟩ := h4.slice
        clear h0 h1 h2 h3 h4

        have GT := Lib.hid (G4.out.trans (hg.trans (by unfold Grew; go_grown : Grew w5 (w5.alloc (Obj.cells #[.slice Q0 re0.labels.length kq0, .slice Q1 re0.lines.length kq1, .slice Q2 re0.accounts.length kq2, .slice Q3 re0.guilds.length kq3, .slice Q4 re0.quotas.length kq4, .int .i64 re0.orders, .int .i64 re0.audits, .int .i64 re0.rate, .int .i64 re0.rounds] 28)))))
        clear hg HR12
        go_wp2_with fail
        refine (HRB.out _ GT.out).mono ?_
        rintro e w8 ⟨vu, rfl, hu, hg, _⟩
        have HRU0 := Lib.hid hu
        obtain ⟨Uv0, Uv1, Uv2, Uv3, Uv4, rfl, h0, h1, h2, h3, h4⟩ := hu
        obtain ⟨U0, ku0, rfl, _⟩ := h0.slice
        obtain ⟨U1, ku1, rfl, _⟩ := id h1
        obtain ⟨U2, ku2, rfl, _⟩ := h2.slice
        obtain ⟨U3, ku3, rfl, _⟩ := h3.slice
        obtain ⟨U4, ku4, rfl, _⟩ := h4.slice
        clear h0 h1 h2 h3 h4
        have GN : Grew w8 (w8.alloc (Obj.cells #[.slice U0 U.labels.length ku0, .slice U1 U.lines.length ku1, .slice U2 U.accounts.length ku2, .slice U3 U.guilds.length ku3, .slice U4 U.quotas.length ku4, .int .i64 U.orders, .int .i64 U.audits, .int .i64 U.rate, .int .i64 U.rounds] 28)) := by unfold Grew; go_grown
        have GU := Lib.hid (GT.out.trans (hg.trans GN))
        have RU : Hid ((w8.alloc (Obj.cells #[.slice U0 U.labels.length ku0, .slice U1 U.lines.length ku1, .slice U2 U.accounts.length ku2, .slice U3 U.guilds.length ku3, .slice U4 U.quotas.length ku4, .int .i64 U.orders, .int .i64 U.audits, .int .i64 U.rate, .int .i64 U.rounds] 28)).heap[w8.heap.size]? = some (rcell (.slice U0 U.labels.length ku0) (.slice U1 U.lines.length ku1) (.slice U2 U.accounts.length ku2) (.slice U3 U.guilds.length ku3) (.slice U4 U.quotas.length ku4) U.orders U.audits U.rate U.rounds)) := Lib.hid (heap_alloc_new w8 _)
        have HRU := Lib.hid (HRU0.out.grew GN)
        clear hg GN HRU0 HRB
        by_cases her : er = 0
        · subst her
          obtain ⟨hmu, hbu⟩ := bytes_read HP.out
          have HMU := Lib.hid hmu
          have HBU := Lib.hid hbu
          have HRT2 := Lib.hid (fun W (hC : Grew (w8.alloc (Obj.cells #[.slice U0 U.labels.length ku0, .slice U1 U.lines.length ku1, .slice U2 U.accounts.length ku2, .slice U3 U.guilds.length ku3, .slice U4 U.quotas.length ku4, .int .i64 U.orders, .int .i64 U.audits, .int .i64 U.rate, .int .i64 U.rounds] 28)) W) => right_true _ U W (HRU.out.grew hC) HSU.out HMU.out)
          clear hmu hbu HP
          go_wp2
          refine Facts.wp_region_text (by kernel_rfl) (by kernel_rfl) ?_
          apply Facts.Lex.exact [] (.bool true) (by kernel_rfl)
          · intro u W hC _
            unfold Facts.one
            go_simp
            exact ((alive_any W).mono fun e w' ⟨he, hg⟩ => ⟨_, he, hg, rfl⟩)
          simp only [Act.put, List.setIfInBounds_toArray, List.set_cons_zero, List.set_cons_succ, Nat.zero_add]
          iterate 4
            apply Facts.Lex.exact [] _ (by kernel_rfl)
            · intro u W hC _
              unfold Facts.one
              go_simp
              first | exact ⟨Grew.refl _, rfl⟩ | rfl
            simp only [Act.put, List.setIfInBounds_toArray, List.set_cons_zero, List.set_cons_succ, Nat.reduceAdd]
          apply Facts.Lex.exact [] _ (by kernel_rfl)
          · intro u W hC _
            obtain ⟨q0, q1, q2, q3, q4, q5, q6, q7, q8⟩ := re_cells (keepB RU.out hC)
            unfold Facts.one
            go_simp
            first | exact ⟨Grew.refl _, rfl⟩ | rfl
          simp only [Act.put, List.setIfInBounds_toArray, List.set_cons_zero, List.set_cons_succ, Nat.reduceAdd]
          apply Facts.Lex.exact [] (.bool true) (by kernel_rfl)
          · intro u W hC _
            unfold Facts.one
            go_simp
            exact ((HRT2.out W hC).mono fun e w' ⟨he, hg⟩ => ⟨_, he, hg, rfl⟩)
          simp only [Act.put, List.setIfInBounds_toArray, List.set_cons_zero, List.set_cons_succ, Nat.reduceAdd]
          apply Facts.Lex.exact [] _ (by kernel_rfl)
          · intro u W hC _
            unfold Facts.one
            go_simp
            first | exact ⟨Grew.refl _, rfl⟩ | rfl
          simp only [Act.put, List.setIfInBounds_toArray, List.set_cons_zero, List.set_cons_succ, Nat.reduceAdd]
          apply Facts.Lex.exact [] _ (by kernel_rfl)
          · intro u W hC _
            obtain ⟨q0, q1, q2, q3, q4, q5, q6, q7, q8⟩ := re_cells (keepB RU.out hC)
            unfold Facts.one
            go_simp
            first | exact ⟨Grew.refl _, rfl⟩ | rfl
          simp only [Act.put, List.setIfInBounds_toArray, List.set_cons_zero, List.set_cons_succ, Nat.reduceAdd]
          refine Facts.Lex.know [] (fun v w => Rd (fun _ => True) w v b) (by kernel_rfl) (fun _ _ _ h hg => h.grew hg) ?_ ?_
          · intro u W hC hK
            clear hK
            have hN := bytes_any _ U W (HRU.out.grew hC) HSU.out
            rw [HBU.out] at hN
            unfold Facts.one
            go_simp
            refine hN.mono ?_
            rintro e w' ⟨v', rfl, hr, hg⟩
            exact ⟨_, rfl, hg, hr.rd⟩
          simp only [Act.put, List.setIfInBounds_toArray, List.set_cons_zero, List.set_cons_succ, Nat.reduceAdd]
          apply Facts.Lex.exact [9] (.string ⟨b.toArray⟩) (by kernel_rfl)
          · intro u W hC hK
            have hcv := conv_r (show Rd (fun _ => True) W (u 9) b from hK.1)
            clear hK
            unfold Facts.one
            go_simp
            first | exact ⟨Grew.refl _, rfl⟩ | rfl
          simp only [Act.put, List.setIfInBounds_toArray, List.set_cons_zero, List.set_cons_succ, Nat.reduceAdd]
          apply Facts.Lex.exact [] _ (by kernel_rfl)
          · intro u W hC _
            unfold Facts.one
            go_simp
            first | exact ⟨Grew.refl _, rfl⟩ | rfl
          simp only [Act.put, List.setIfInBounds_toArray, List.set_cons_zero, List.set_cons_succ, Nat.reduceAdd]
          apply Facts.Lex.exact [] (.string ⟨b.toArray⟩) (by kernel_rfl)
          · intro u W hC hK
            have hcv := conv_r (HBB.out.grew (GU.out.trans hC))
            clear hK
            unfold Facts.one
            go_simp
            first | exact ⟨Grew.refl _, rfl⟩ | rfl
          simp only [Act.put, List.setIfInBounds_toArray, List.set_cons_zero, List.set_cons_succ, Nat.reduceAdd]
          iterate 5
            apply Facts.Lex.exact [] _ (by kernel_rfl)
            · intro u W hC _
              unfold Facts.one
              go_simp
              first | exact ⟨Grew.refl _, rfl⟩ | rfl
            simp only [Act.put, List.setIfInBounds_toArray, List.set_cons_zero, List.set_cons_succ, Nat.reduceAdd]
          refine Facts.Lex.done fun u W2 hC hL => ?_

          have GF := Lib.hid (GU.out.trans hC)
          clear hC hL
          go_wp2
          go_returns
          exact ⟨rfl, GF.out⟩
        · have her1 : (er == 0) = false := by simp; exact her
          have her2 : (er != 0) = true := by simp; exact her
          clear her HP
          go_wp2
          refine Facts.wp_region_text (by kernel_rfl) (by kernel_rfl) ?_
          apply Facts.Lex.exact [] (.bool true) (by kernel_rfl)
          · intro u W hC _
            unfold Facts.one
            go_simp
            exact ((alive_any W).mono fun e w' ⟨he, hg⟩ => ⟨_, he, hg, rfl⟩)
          simp only [Act.put, List.setIfInBounds_toArray, List.set_cons_zero, List.set_cons_succ, Nat.zero_add]
          iterate 4
            apply Facts.Lex.exact [] _ (by kernel_rfl)
            · intro u W hC _
              unfold Facts.one
              go_simp
              first | exact ⟨Grew.refl _, rfl⟩ | rfl
            simp only [Act.put, List.setIfInBounds_toArray, List.set_cons_zero, List.set_cons_succ, Nat.reduceAdd]
          repeat
            apply Facts.Lex.exact [] _ (by kernel_rfl)
            · intro u W hC _
              unfold Facts.one
              go_simp
              first | exact ⟨Grew.refl _, rfl⟩ | rfl
            simp only [Act.put, List.setIfInBounds_toArray, List.set_cons_zero, List.set_cons_succ, Nat.reduceAdd]

          refine Facts.Lex.done fun u W2 hC hL => ?_

          have GF := Lib.hid (GU.out.trans hC)
          clear hC hL
          go_wp2
          go_returns
          exact ⟨rfl, GF.out⟩

      · have hcz : ¬ ((n : Int) < ((bytesP r).length : Int)) := by omega
        have GT := G4
        clear hc0 hcl
        go_wp2_with fail
        refine (HRB.out _ GT.out).mono ?_
        rintro e w8 ⟨vu, rfl, hu, hg, _⟩
        have HRU0 := Lib.hid hu
        obtain ⟨Uv0, Uv1, Uv2, Uv3, Uv4, rfl, h0, h1, h2, h3, h4⟩ := hu
        obtain ⟨U0, ku0, rfl, _⟩ := h0.slice
        obtain ⟨U1, ku1, rfl, _⟩ := id h1
        obtain ⟨U2, ku2, rfl, _⟩ := h2.slice
        obtain ⟨U3, ku3, rfl, _⟩ := h3.slice
        obtain ⟨U4, ku4, rfl, _⟩ := h4.slice
        clear h0 h1 h2 h3 h4
        have GN : Grew w8 (w8.alloc (Obj.cells #[.slice U0 U.labels.length ku0, .slice U1 U.lines.length ku1, .slice U2 U.accounts.length ku2, .slice U3 U.guilds.length ku3, .slice U4 U.quotas.length ku4, .int .i64 U.orders, .int .i64 U.audits, .int .i64 U.rate, .int .i64 U.rounds] 28)) := by unfold Grew; go_grown
        have GU := Lib.hid (GT.out.trans (hg.trans GN))
        have RU : Hid ((w8.alloc (Obj.cells #[.slice U0 U.labels.length ku0, .slice U1 U.lines.length ku1, .slice U2 U.accounts.length ku2, .slice U3 U.guilds.length ku3, .slice U4 U.quotas.length ku4, .int .i64 U.orders, .int .i64 U.audits, .int .i64 U.rate, .int .i64 U.rounds] 28)).heap[w8.heap.size]? = some (rcell (.slice U0 U.labels.length ku0) (.slice U1 U.lines.length ku1) (.slice U2 U.accounts.length ku2) (.slice U3 U.guilds.length ku3) (.slice U4 U.quotas.length ku4) U.orders U.audits U.rate U.rounds)) := Lib.hid (heap_alloc_new w8 _)
        have HRU := Lib.hid (HRU0.out.grew GN)
        clear hg GN HRU0 HRB
        by_cases her : er = 0
        · subst her
          obtain ⟨hmu, hbu⟩ := bytes_read HP.out
          have HMU := Lib.hid hmu
          have HBU := Lib.hid hbu
          have HRT2 := Lib.hid (fun W (hC : Grew (w8.alloc (Obj.cells #[.slice U0 U.labels.length ku0, .slice U1 U.lines.length ku1, .slice U2 U.accounts.length ku2, .slice U3 U.guilds.length ku3, .slice U4 U.quotas.length ku4, .int .i64 U.orders, .int .i64 U.audits, .int .i64 U.rate, .int .i64 U.rounds] 28)) W) => right_true _ U W (HRU.out.grew hC) HSU.out HMU.out)
          clear hmu hbu HP
          go_wp2
          refine Facts.wp_region_text (by kernel_rfl) (by kernel_rfl) ?_
          apply Facts.Lex.exact [] (.bool true) (by kernel_rfl)
          · intro u W hC _
            unfold Facts.one
            go_simp
            exact ((alive_any W).mono fun e w' ⟨he, hg⟩ => ⟨_, he, hg, rfl⟩)
          simp only [Act.put, List.setIfInBounds_toArray, List.set_cons_zero, List.set_cons_succ, Nat.zero_add]
          iterate 4
            apply Facts.Lex.exact [] _ (by kernel_rfl)
            · intro u W hC _
              unfold Facts.one
              go_simp
              first | exact ⟨Grew.refl _, rfl⟩ | rfl
            simp only [Act.put, List.setIfInBounds_toArray, List.set_cons_zero, List.set_cons_succ, Nat.reduceAdd]
          apply Facts.Lex.exact [] _ (by kernel_rfl)
          · intro u W hC _
            obtain ⟨q0, q1, q2, q3, q4, q5, q6, q7, q8⟩ := re_cells (keepB RU.out hC)
            unfold Facts.one
            go_simp
            first | exact ⟨Grew.refl _, rfl⟩ | rfl
          simp only [Act.put, List.setIfInBounds_toArray, List.set_cons_zero, List.set_cons_succ, Nat.reduceAdd]
          apply Facts.Lex.exact [] (.bool true) (by kernel_rfl)
          · intro u W hC _
            unfold Facts.one
            go_simp
            exact ((HRT2.out W hC).mono fun e w' ⟨he, hg⟩ => ⟨_, he, hg, rfl⟩)
          simp only [Act.put, List.setIfInBounds_toArray, List.set_cons_zero, List.set_cons_succ, Nat.reduceAdd]
          apply Facts.Lex.exact [] _ (by kernel_rfl)
          · intro u W hC _
            unfold Facts.one
            go_simp
            first | exact ⟨Grew.refl _, rfl⟩ | rfl
          simp only [Act.put, List.setIfInBounds_toArray, List.set_cons_zero, List.set_cons_succ, Nat.reduceAdd]
          apply Facts.Lex.exact [] _ (by kernel_rfl)
          · intro u W hC _
            obtain ⟨q0, q1, q2, q3, q4, q5, q6, q7, q8⟩ := re_cells (keepB RU.out hC)
            unfold Facts.one
            go_simp
            first | exact ⟨Grew.refl _, rfl⟩ | rfl
          simp only [Act.put, List.setIfInBounds_toArray, List.set_cons_zero, List.set_cons_succ, Nat.reduceAdd]
          refine Facts.Lex.know [] (fun v w => Rd (fun _ => True) w v b) (by kernel_rfl) (fun _ _ _ h hg => h.grew hg) ?_ ?_
          · intro u W hC hK
            clear hK
            have hN := bytes_any _ U W (HRU.out.grew hC) HSU.out
            rw [HBU.out] at hN
            unfold Facts.one
            go_simp
            refine hN.mono ?_
            rintro e w' ⟨v', rfl, hr, hg⟩
            exact ⟨_, rfl, hg, hr.rd⟩
          simp only [Act.put, List.setIfInBounds_toArray, List.set_cons_zero, List.set_cons_succ, Nat.reduceAdd]
          apply Facts.Lex.exact [9] (.string ⟨b.toArray⟩) (by kernel_rfl)
          · intro u W hC hK
            have hcv := conv_r (show Rd (fun _ => True) W (u 9) b from hK.1)
            clear hK
            unfold Facts.one
            go_simp
            first | exact ⟨Grew.refl _, rfl⟩ | rfl
          simp only [Act.put, List.setIfInBounds_toArray, List.set_cons_zero, List.set_cons_succ, Nat.reduceAdd]
          apply Facts.Lex.exact [] _ (by kernel_rfl)
          · intro u W hC _
            unfold Facts.one
            go_simp
            first | exact ⟨Grew.refl _, rfl⟩ | rfl
          simp only [Act.put, List.setIfInBounds_toArray, List.set_cons_zero, List.set_cons_succ, Nat.reduceAdd]
          apply Facts.Lex.exact [] (.string ⟨b.toArray⟩) (by kernel_rfl)
          · intro u W hC hK
            have hcv := conv_r (HBB.out.grew (GU.out.trans hC))
            clear hK
            unfold Facts.one
            go_simp
            first | exact ⟨Grew.refl _, rfl⟩ | rfl
          simp only [Act.put, List.setIfInBounds_toArray, List.set_cons_zero, List.set_cons_succ, Nat.reduceAdd]
          iterate 5
            apply Facts.Lex.exact [] _ (by kernel_rfl)
            · intro u W hC _
              unfold Facts.one
              go_simp
              first | exact ⟨Grew.refl _, rfl⟩ | rfl
            simp only [Act.put, List.setIfInBounds_toArray, List.set_cons_zero, List.set_cons_succ, Nat.reduceAdd]
          refine Facts.Lex.done fun u W2 hC hL => ?_

          have GF := Lib.hid (GU.out.trans hC)
          clear hC hL
          go_wp2
          go_returns
          exact ⟨rfl, GF.out⟩
        · have her1 : (er == 0) = false := by simp; exact her
          have her2 : (er != 0) = true := by simp; exact her
          clear her HP
          go_wp2
          refine Facts.wp_region_text (by kernel_rfl) (by kernel_rfl) ?_
          apply Facts.Lex.exact [] (.bool true) (by kernel_rfl)
          · intro u W hC _
            unfold Facts.one
            go_simp
            exact ((alive_any W).mono fun e w' ⟨he, hg⟩ => ⟨_, he, hg, rfl⟩)
          simp only [Act.put, List.setIfInBounds_toArray, List.set_cons_zero, List.set_cons_succ, Nat.zero_add]
          iterate 4
            apply Facts.Lex.exact [] _ (by kernel_rfl)
            · intro u W hC _
              unfold Facts.one
              go_simp
              first | exact ⟨Grew.refl _, rfl⟩ | rfl
            simp only [Act.put, List.setIfInBounds_toArray, List.set_cons_zero, List.set_cons_succ, Nat.reduceAdd]
          repeat
            apply Facts.Lex.exact [] _ (by kernel_rfl)
            · intro u W hC _
              unfold Facts.one
              go_simp
              first | exact ⟨Grew.refl _, rfl⟩ | rfl
            simp only [Act.put, List.setIfInBounds_toArray, List.set_cons_zero, List.set_cons_succ, Nat.reduceAdd]

          refine Facts.Lex.done fun u W2 hC hL => ?_

          have GF := Lib.hid (GU.out.trans hC)
          clear hC hL
          go_wp2
          go_returns
          exact ⟨rfl, GF.out⟩

    · have hc1 : decide (0 ≤ cut) = false := decide_eq_false hc0
      have GT := G4
      clear hc0
      go_wp2_with fail
      refine (HRB.out _ GT.out).mono ?_
      rintro e w8 ⟨vu, rfl, hu, hg, _⟩
      have HRU0 := Lib.hid hu
      obtain ⟨Uv0, Uv1, Uv2, Uv3, Uv4, rfl, h0, h1, h2, h3, h4⟩ := hu
      obtain ⟨U0, ku0, rfl, _⟩ := h0.slice
      obtain ⟨U1, ku1, rfl, _⟩ := id h1
      obtain ⟨U2, ku2, rfl, _⟩ := h2.slice
      obtain ⟨U3, ku3, rfl, _⟩ := h3.slice
      obtain ⟨U4, ku4, rfl, _⟩ := h4.slice
      clear h0 h1 h2 h3 h4
      have GN : Grew w8 (w8.alloc (Obj.cells #[.slice U0 U.labels.length ku0, .slice U1 U.lines.length ku1, .slice U2 U.accounts.length ku2, .slice U3 U.guilds.length ku3, .slice U4 U.quotas.length ku4, .int .i64 U.orders, .int .i64 U.audits, .int .i64 U.rate, .int .i64 U.rounds] 28)) := by unfold Grew; go_grown
      have GU := Lib.hid (GT.out.trans (hg.trans GN))
      have RU : Hid ((w8.alloc (Obj.cells #[.slice U0 U.labels.length ku0, .slice U1 U.lines.length ku1, .slice U2 U.accounts.length ku2, .slice U3 U.guilds.length ku3, .slice U4 U.quotas.length ku4, .int .i64 U.orders, .int .i64 U.audits, .int .i64 U.rate, .int .i64 U.rounds] 28)).heap[w8.heap.size]? = some (rcell (.slice U0 U.labels.length ku0) (.slice U1 U.lines.length ku1) (.slice U2 U.accounts.length ku2) (.slice U3 U.guilds.length ku3) (.slice U4 U.quotas.length ku4) U.orders U.audits U.rate U.rounds)) := Lib.hid (heap_alloc_new w8 _)
      have HRU := Lib.hid (HRU0.out.grew GN)
      clear hg GN HRU0 HRB
      by_cases her : er = 0
      · subst her
        obtain ⟨hmu, hbu⟩ := bytes_read HP.out
        have HMU := Lib.hid hmu
        have HBU := Lib.hid hbu
        have HRT2 := Lib.hid (fun W (hC : Grew (w8.alloc (Obj.cells #[.slice U0 U.labels.length ku0, .slice U1 U.lines.length ku1, .slice U2 U.accounts.length ku2, .slice U3 U.guilds.length ku3, .slice U4 U.quotas.length ku4, .int .i64 U.orders, .int .i64 U.audits, .int .i64 U.rate, .int .i64 U.rounds] 28)) W) => right_true _ U W (HRU.out.grew hC) HSU.out HMU.out)
        clear hmu hbu HP
        go_wp2
        refine Facts.wp_region_text (by kernel_rfl) (by kernel_rfl) ?_
        apply Facts.Lex.exact [] (.bool true) (by kernel_rfl)
        · intro u W hC _
          unfold Facts.one
          go_simp
          exact ((alive_any W).mono fun e w' ⟨he, hg⟩ => ⟨_, he, hg, rfl⟩)
        simp only [Act.put, List.setIfInBounds_toArray, List.set_cons_zero, List.set_cons_succ, Nat.zero_add]
        iterate 4
          apply Facts.Lex.exact [] _ (by kernel_rfl)
          · intro u W hC _
            unfold Facts.one
            go_simp
            first | exact ⟨Grew.refl _, rfl⟩ | rfl
          simp only [Act.put, List.setIfInBounds_toArray, List.set_cons_zero, List.set_cons_succ, Nat.reduceAdd]
        apply Facts.Lex.exact [] _ (by kernel_rfl)
        · intro u W hC _
          obtain ⟨q0, q1, q2, q3, q4, q5, q6, q7, q8⟩ := re_cells (keepB RU.out hC)
          unfold Facts.one
          go_simp
          first | exact ⟨Grew.refl _, rfl⟩ | rfl
        simp only [Act.put, List.setIfInBounds_toArray, List.set_cons_zero, List.set_cons_succ, Nat.reduceAdd]
        apply Facts.Lex.exact [] (.bool true) (by kernel_rfl)
        · intro u W hC _
          unfold Facts.one
          go_simp
          exact ((HRT2.out W hC).mono fun e w' ⟨he, hg⟩ => ⟨_, he, hg, rfl⟩)
        simp only [Act.put, List.setIfInBounds_toArray, List.set_cons_zero, List.set_cons_succ, Nat.reduceAdd]
        apply Facts.Lex.exact [] _ (by kernel_rfl)
        · intro u W hC _
          unfold Facts.one
          go_simp
          first | exact ⟨Grew.refl _, rfl⟩ | rfl
        simp only [Act.put, List.setIfInBounds_toArray, List.set_cons_zero, List.set_cons_succ, Nat.reduceAdd]
        apply Facts.Lex.exact [] _ (by kernel_rfl)
        · intro u W hC _
          obtain ⟨q0, q1, q2, q3, q4, q5, q6, q7, q8⟩ := re_cells (keepB RU.out hC)
          unfold Facts.one
          go_simp
          first | exact ⟨Grew.refl _, rfl⟩ | rfl
        simp only [Act.put, List.setIfInBounds_toArray, List.set_cons_zero, List.set_cons_succ, Nat.reduceAdd]
        refine Facts.Lex.know [] (fun v w => Rd (fun _ => True) w v b) (by kernel_rfl) (fun _ _ _ h hg => h.grew hg) ?_ ?_
        · intro u W hC hK
          clear hK
          have hN := bytes_any _ U W (HRU.out.grew hC) HSU.out
          rw [HBU.out] at hN
          unfold Facts.one
          go_simp
          refine hN.mono ?_
          rintro e w' ⟨v', rfl, hr, hg⟩
          exact ⟨_, rfl, hg, hr.rd⟩
        simp only [Act.put, List.setIfInBounds_toArray, List.set_cons_zero, List.set_cons_succ, Nat.reduceAdd]
        apply Facts.Lex.exact [9] (.string ⟨b.toArray⟩) (by kernel_rfl)
        · intro u W hC hK
          have hcv := conv_r (show Rd (fun _ => True) W (u 9) b from hK.1)
          clear hK
          unfold Facts.one
          go_simp
          first | exact ⟨Grew.refl _, rfl⟩ | rfl
        simp only [Act.put, List.setIfInBounds_toArray, List.set_cons_zero, List.set_cons_succ, Nat.reduceAdd]
        apply Facts.Lex.exact [] _ (by kernel_rfl)
        · intro u W hC _
          unfold Facts.one
          go_simp
          first | exact ⟨Grew.refl _, rfl⟩ | rfl
        simp only [Act.put, List.setIfInBounds_toArray, List.set_cons_zero, List.set_cons_succ, Nat.reduceAdd]
        apply Facts.Lex.exact [] (.string ⟨b.toArray⟩) (by kernel_rfl)
        · intro u W hC hK
          have hcv := conv_r (HBB.out.grew (GU.out.trans hC))
          clear hK
          unfold Facts.one
          go_simp
          first | exact ⟨Grew.refl _, rfl⟩ | rfl
        simp only [Act.put, List.setIfInBounds_toArray, List.set_cons_zero, List.set_cons_succ, Nat.reduceAdd]
        iterate 5
          apply Facts.Lex.exact [] _ (by kernel_rfl)
          · intro u W hC _
            unfold Facts.one
            go_simp
            first | exact ⟨Grew.refl _, rfl⟩ | rfl
          simp only [Act.put, List.setIfInBounds_toArray, List.set_cons_zero, List.set_cons_succ, Nat.reduceAdd]
        refine Facts.Lex.done fun u W2 hC hL => ?_

        have GF := Lib.hid (GU.out.trans hC)
        clear hC hL
        go_wp2
        go_returns
        exact ⟨rfl, GF.out⟩
      · have her1 : (er == 0) = false := by simp; exact her
        have her2 : (er != 0) = true := by simp; exact her
        clear her HP
        go_wp2
        refine Facts.wp_region_text (by kernel_rfl) (by kernel_rfl) ?_
        apply Facts.Lex.exact [] (.bool true) (by kernel_rfl)
        · intro u W hC _
          unfold Facts.one
          go_simp
          exact ((alive_any W).mono fun e w' ⟨he, hg⟩ => ⟨_, he, hg, rfl⟩)
        simp only [Act.put, List.setIfInBounds_toArray, List.set_cons_zero, List.set_cons_succ, Nat.zero_add]
        iterate 4
          apply Facts.Lex.exact [] _ (by kernel_rfl)
          · intro u W hC _
            unfold Facts.one
            go_simp
            first | exact ⟨Grew.refl _, rfl⟩ | rfl
          simp only [Act.put, List.setIfInBounds_toArray, List.set_cons_zero, List.set_cons_succ, Nat.reduceAdd]
        repeat
          apply Facts.Lex.exact [] _ (by kernel_rfl)
          · intro u W hC _
            unfold Facts.one
            go_simp
            first | exact ⟨Grew.refl _, rfl⟩ | rfl
          simp only [Act.put, List.setIfInBounds_toArray, List.set_cons_zero, List.set_cons_succ, Nat.reduceAdd]

        refine Facts.Lex.done fun u W2 hC hL => ?_

        have GF := Lib.hid (GU.out.trans hC)
        clear hC hL
        go_wp2
        go_returns
        exact ⟨rfl, GF.out⟩

section
open Go.ChangeShapes Go.WideShapes Go.ChangeAt Go.Deep Go.Joins Go.Proofs.YtmegdgeiikhflaaGreat.HO
variable {H : Type} {enc : TypeId × Value → H} {w : World} {v : Value} {d : DataW H} {p : List MemPlace}
theorem row_size {t e m : Nat} {fuel : Nat} {y : DataW H × List MemPlace} (ht : Tryz.prog.underlying t = some (.slice e)) (hb : Tryz.prog.bytesOf e = m) {A : Option Addr} {n c : Nat} (h : TR enc w fuel t [.slice A n c] y) (hw : ∀ k ∈ y.1.weights Tryz.prog t, k ≤ reachBytes) : n * m ≤ reachBytes := by
  rcases Go.Deep.open_slice ht h with ⟨hcs, hx⟩ | ⟨a, len, cap, m1, n1, D, Pl, hcs, _, hlc, hm, hmm, hx, hi⟩
  · simp only [List.cons.injEq, and_true, Value.slice.injEq] at hcs
    rw [hcs.2.1]
    simp
  · simp only [List.cons.injEq, and_true, Value.slice.injEq] at hcs
    subst hx
    have := hw (_ * Tryz.prog.bytesOf e) (by rw [DataW.weights, ht]; exact List.mem_cons_self)
    rw [hb, List.length_map, List.length_range] at this
    rw [hcs.2.1]
    exact Nat.le_trans (Nat.mul_le_mul_right m (Nat.le_add_right _ _)) this
theorem bytes_sized {ts : List TypeId} {ds : List (DataW H)} {l : List UInt8} {j : Nat} {S : Nat → Prop} (hs : (DataW.weightsEach Tryz.prog ts ds).all (· ≤ reachBytes) = true) (ht : ts[j]? = some 41) (hd : ds[j]? = some d) (h : DataW.Trod enc Tryz.prog w 0 (fun _ => true) true 41 v d p) (hR : Rd S w v l) : l.length ≤ 140737488355328 := by
  obtain ⟨fuel, hf⟩ := h
  obtain ⟨A, c, rfl, _⟩ := id hR
  have := row_size (y := (d, p)) (e := 5) (m := 1) Tryz.underlying41 (by kernel_rfl) hf (fun n hn => by simpa using List.all_eq_true.1 hs n (DataW.weights_mem_each ht hd n hn))
  have hb : reachBytes ≤ 140737488355328 := by decide
  omega
end
end Go.Proofs.YtmegdgeiikhflaaGreat.EH
