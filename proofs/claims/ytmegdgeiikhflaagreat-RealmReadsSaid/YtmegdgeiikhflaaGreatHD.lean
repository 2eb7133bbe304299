/-
  Ranks: a rank, and who is cleared for a label, as the program tells them.
  Conditions: the accounts' texts' sizes.
-/
import Derived.Test.YtmegdgeiikhflaaGreatHC
namespace Go.Proofs.YtmegdgeiikhflaaGreat.HD
open Go Go.RowKit Go.Lib Go.Proofs.YtmegdgeiikhflaaGreat Go.Proofs.YtmegdgeiikhflaaGreat.Facts Go.Proofs.YtmegdgeiikhflaaGreat.Plain Go.Proofs.YtmegdgeiikhflaaGreat.Ints Go.Proofs.YtmegdgeiikhflaaGreat.RRows Go.Proofs.YtmegdgeiikhflaaGreat.LBox Go.Proofs.YtmegdgeiikhflaaGreat.RSmall Go.Proofs.YtmegdgeiikhflaaGreat.RFind Go.Proofs.YtmegdgeiikhflaaGreat.RAll Go.Proofs.YtmegdgeiikhflaaGreat.RRules Go.Proofs.YtmegdgeiikhflaaGreat.RRule3 Go.Proofs.YtmegdgeiikhflaaGreat.RRight Go.Proofs.YtmegdgeiikhflaaGreat.HA Go.Proofs.YtmegdgeiikhflaaGreat.HB Go.Proofs.YtmegdgeiikhflaaGreat.HG Go.Proofs.YtmegdgeiikhflaaGreat.HC

theorem inn_iff {n : Nat} {i : Int} (h : inn n i = true) : 0 ≤ i ∧ i < n := by unfold inn at h; simpa using h
/-- Of ranks that may be. -/
theorem right_parts {r : Re} {R : List (List Int)} (h : rightH r R = true) : mayBe r = true ∧ R.length = r.guilds.length ∧ ∀ k, k < R.length → (rk R k).length = r.accounts.length ∧ (rk R k).any noR = false ∧ cel (rk R k) (gu r k).founder.toNat = 2 := by
  unfold rightH at h
  split at h
  · rename_i h1
    split at h
    · rename_i h2
      refine ⟨h1, h2, fun k hk => ?_⟩
      rw [List.all_eq_true] at h
      have := h k (List.mem_range.2 hk)
      unfold rowOk at this
      simp only [Bool.and_eq_true, decide_eq_true_eq, Bool.not_eq_true'] at this
      exact ⟨this.1, this.2.1, this.2.2⟩
    · cases h
  · cases h
def rankOf (r : Re) (R : List (List Int)) (g who : Int) : Int := if rightH r R = true then (if inn r.guilds.length g = true then (if inn r.accounts.length who = true then cel (rk R g.toNat) who.toNat else 0) else 0) else 0
set_option maxRecDepth 100000 in
set_option maxHeartbeats 4000000 in
theorem rankOf_any (v vr : Value) (r : Re) (R : List (List Int)) (g who : Int) (w : World) (h : ReIs w v r) (hs : Sized r) (hR : RK w vr R) : Calls Tryz.prog 37 #[v, vr, .int .i64 g, .int .i64 who] w fun e w' => e = .returned (.int .i64 (rankOf r R g who)) ∧ Grew w w' := by
  have HRI := Lib.hid (fun W hg => hright_any v vr r R W (h.grew (w' := W) hg) hs (hR.grew hg))
  obtain ⟨v0, v1, v2, v3, v4, rfl, h0, h1, h2, h3, h4⟩ := h
  have HL0 := Lib.hid h0
  have HL2 := Lib.hid h2
  have HRK := Lib.hid hR
  obtain ⟨A0', cp0, rfl, _⟩ := h0.slice
  obtain ⟨A1', cp1, rfl, _⟩ := id h1
  obtain ⟨A2', cp2, rfl, _⟩ := h2.slice
  obtain ⟨A3', cp3, rfl, _⟩ := h3.slice
  obtain ⟨A4', cp4, rfl, _⟩ := h4.slice
  obtain ⟨B, cb, rfl, _⟩ := id hR
  clear h0 h1 h2 h3 h4 hs hR
  have HG1 := Lib.hid (fun W => hasHG_any A3' r.guilds.length cp3 g W)
  have HA1 := Lib.hid (fun W => hasHA_any A2' r.accounts.length cp2 who W)
  unfold rankOf
  have G0 : Hid (Grew w (w.alloc (Obj.cells #[.slice A0' r.labels.length cp0, .slice A1' r.lines.length cp1, .slice A2' r.accounts.length cp2, .slice A3' r.guilds.length cp3, .slice A4' r.quotas.length cp4, .int .i64 r.orders, .int .i64 r.audits, .int .i64 r.rate, .int .i64 r.rounds] 28))) := Lib.hid (by unfold Grew; go_grown)
  have R0 : Hid ((w.alloc (Obj.cells #[.slice A0' r.labels.length cp0, .slice A1' r.lines.length cp1, .slice A2' r.accounts.length cp2, .slice A3' r.guilds.length cp3, .slice A4' r.quotas.length cp4, .int .i64 r.orders, .int .i64 r.audits, .int .i64 r.rate, .int .i64 r.rounds] 28)).heap[w.heap.size]? = some (rcell (.slice A0' r.labels.length cp0) (.slice A1' r.lines.length cp1) (.slice A2' r.accounts.length cp2) (.slice A3' r.guilds.length cp3) (.slice A4' r.quotas.length cp4) r.orders r.audits r.rate r.rounds)) := Lib.hid (heap_alloc_new w _)
  obtain ⟨r0, r1, r2, r3, r4, r5, r6, r7, r8⟩ := re_cells R0.out
  have HP := Lib.hid (@right_parts r R)
  have HGI := Lib.hid (@inn_iff r.guilds.length g)
  have HAI := Lib.hid (@inn_iff r.accounts.length who)
  generalize rightH r R = b at *
  cases b with
  | false =>
    rw [if_neg (by simp)]
    go_enter Tryz.func37, Tryz.ntmps37
    go_wp2_with fail
    with_reducible refine (HRI.out _ G0.out).mono ?_
    rintro e w1 ⟨rfl, hg⟩
    have G1 := Lib.hid (G0.out.trans hg)
    clear hg r0 r1 r2 r3 r4 r5 r6 r7 r8
    go_wp2
    go_returns
    exact ⟨rfl, G1.out⟩
  | true =>
    rw [if_pos rfl]
    obtain ⟨_, hlen, hrow⟩ := HP.out rfl
    have HLEN := Lib.hid hlen
    have HROW := Lib.hid hrow
    clear hlen hrow HP
    generalize inn r.guilds.length g = bg at *
    cases bg with
    | false =>
      rw [if_neg (by simp)]
      go_enter Tryz.func37, Tryz.ntmps37
      go_wp2_with fail
      with_reducible refine (HRI.out _ G0.out).mono ?_
      rintro e w1 ⟨rfl, hg⟩
      have G1 := Lib.hid (G0.out.trans hg)
      have R1 := Lib.hid (keepB R0.out hg)
      clear hg r0 r1 r2 r3 r4 r5 r6 r7 r8
      obtain ⟨r0, r1, r2, r3, r4, r5, r6, r7, r8⟩ := re_cells R1.out
      go_wp2_with fail
      refine (HG1.out _).mono ?_
      rintro e w2 ⟨rfl, hg⟩
      have G2 := Lib.hid (G1.out.trans hg)
      clear hg r0 r1 r2 r3 r4 r5 r6 r7 r8
      go_wp2
      go_returns
      exact ⟨rfl, G2.out⟩
    | true =>
      rw [if_pos rfl]
      obtain ⟨q0, q1⟩ := HGI.out rfl
      clear HGI
      obtain ⟨kg, rfl⟩ := Int.eq_ofNat_of_zero_le q0
      generalize inn r.accounts.length who = bw at *
      cases bw with
      | false =>
        rw [if_neg (by simp)]
        go_enter Tryz.func37, Tryz.ntmps37
        go_wp2_with fail
        with_reducible refine (HRI.out _ G0.out).mono ?_
        rintro e w1 ⟨rfl, hg⟩
        have G1 := Lib.hid (G0.out.trans hg)
        have R1 := Lib.hid (keepB R0.out hg)
        clear hg r0 r1 r2 r3 r4 r5 r6 r7 r8
        obtain ⟨r0, r1, r2, r3, r4, r5, r6, r7, r8⟩ := re_cells R1.out
        go_wp2_with fail
        refine (HG1.out _).mono ?_
        rintro e w2 ⟨rfl, hg⟩
        have G2 := Lib.hid (G1.out.trans hg)
        have R2 := Lib.hid (keepB R1.out hg)
        clear hg r0 r1 r2 r3 r4 r5 r6 r7 r8
        obtain ⟨r0, r1, r2, r3, r4, r5, r6, r7, r8⟩ := re_cells R2.out
        go_wp2_with fail
        refine (HA1.out _).mono ?_
        rintro e w3 ⟨rfl, hg⟩
        have G3 := Lib.hid (G2.out.trans hg)
        clear hg r0 r1 r2 r3 r4 r5 r6 r7 r8
        go_wp2
        go_returns
        exact ⟨rfl, G3.out⟩
      | true =>
        rw [if_pos rfl]
        obtain ⟨p0, p1⟩ := HAI.out rfl
        clear HAI
        obtain ⟨kw, rfl⟩ := Int.eq_ofNat_of_zero_le p0
        simp only [Int.toNat_natCast] at *
        obtain ⟨cv, hcv⟩ : ∃ cv, cel (rk R kg) kw = cv := ⟨_, rfl⟩
        rw [hcv]
        have HCV := Lib.hid hcv
        clear hcv
        go_enter Tryz.func37, Tryz.ntmps37
        go_wp2_with fail
        with_reducible refine (HRI.out _ G0.out).mono ?_
        rintro e w1 ⟨rfl, hg⟩
        have G1 := Lib.hid (G0.out.trans hg)
        have R1 := Lib.hid (keepB R0.out hg)
        clear hg r0 r1 r2 r3 r4 r5 r6 r7 r8
        obtain ⟨r0, r1, r2, r3, r4, r5, r6, r7, r8⟩ := re_cells R1.out
        go_wp2_with fail
        refine (HG1.out _).mono ?_
        rintro e w2 ⟨rfl, hg⟩
        have G2 := Lib.hid (G1.out.trans hg)
        have R2 := Lib.hid (keepB R1.out hg)
        clear hg r0 r1 r2 r3 r4 r5 r6 r7 r8
        obtain ⟨r0, r1, r2, r3, r4, r5, r6, r7, r8⟩ := re_cells R2.out
        go_wp2_with fail
        refine (HA1.out _).mono ?_
        rintro e w3 ⟨rfl, hg⟩
        have G3 := Lib.hid (G2.out.trans hg)
        clear hg r0 r1 r2 r3 r4 r5 r6 r7 r8
        have hkR : kg < R.length := by have := HLEN.out; omega
        obtain ⟨ad, c2, A', c', e, hcl, hrow⟩ := (HRK.out.grew G3.out).at hkR
        injection e with e1 _ e3
        subst e1 e3
        have hrl := (HROW.out kg hkR).1
        obtain ⟨adr, rfl, hcr⟩ := Is.at' hrow (k := kw) (by omega)
        have hk1 : (kg : Int) < (R.length : Int) := by omega
        have hk2 : (kw : Int) < ((rk R kg).length : Int) := by omega
        rw [HCV.out] at hcr
        clear hrow hrl q1 p1
        go_wp2
        go_returns
        exact ⟨rfl, G3.out⟩

def ac (r : Re) (k : Nat) : Ac := (r.accounts[k]?).getD ⟨⟨#[]⟩, ⟨#[]⟩, 0, false⟩
theorem ac_get {r : Re} {k : Nat} (h : k < r.accounts.length) : r.accounts[k]? = some (ac r k) := by
  unfold ac
  rw [List.getElem?_eq_getElem h, Option.getD_some]
def stranger (R : List (List Int)) (who : Nat) (g : Int) : Bool := decide (cel (rk R g.toNat) who = 0)
set_option maxRecDepth 100000 in
set_option maxHeartbeats 4000000 in
theorem clo_stranger (R : List (List Int)) (vr : Value) (g who : Nat) (Q P : Nat) (w : World) (hR : RK w vr R) (hg : g < R.length) (hw : who < (rk R g).length) (hq : w.cell? ⟨Q, 0, none⟩ = some vr) (hp : w.cell? ⟨P, 0, none⟩ = some (.int .i64 (who : Int))) :
    Calls Tryz.prog 100 #[.int .i64 (g : Int), .pointer (some ⟨Q, 0, none⟩), .pointer (some ⟨P, 0, none⟩)] w fun e w' => e = .returned (.bool (stranger R who g)) ∧ Grew w w' := by
  obtain ⟨ad, c2, A', c', rfl, hcl, hrow⟩ := hR.at hg
  obtain ⟨adr, rfl, hcr⟩ := Is.at' hrow (k := who) (by omega)
  have hk1 : (g : Int) < (R.length : Int) := by omega
  have hk2 : (who : Int) < ((rk R g).length : Int) := by omega
  obtain ⟨cv, hcv, hst⟩ : ∃ cv, cel (rk R g) who = cv ∧ stranger R who (g : Int) = decide (cv = 0) := ⟨_, rfl, rfl⟩
  rw [hcv] at hcr
  rw [hst]
  clear hcv hst
  have C0 := Lib.hid hcl
  have C1 := Lib.hid hcr
  have C2 := Lib.hid hq
  have C3 := Lib.hid hp
  clear hrow hR hg hw hcl hcr hq hp
  obtain ⟨bv, hbv⟩ : ∃ bv, (cv == 0) = bv := ⟨_, rfl⟩
  have hbd : decide (cv = 0) = bv := by rw [← hbv]; rfl
  rw [hbd]
  clear hbd
  go_enter Tryz.func100, Tryz.ntmps100
  go_wp2
  refine Facts.wp_region_text (by kernel_rfl) (by kernel_rfl) ?_
  apply Facts.Lex.exact [] _ (by kernel_rfl)
  · intro u W hC _
    have k2 := cellB hC C2.out
    unfold Facts.one
    go_simp
    first | exact ⟨Grew.refl _, rfl⟩ | rfl
  simp only [Act.put, List.setIfInBounds_toArray, List.set_cons_zero, List.set_cons_succ, Nat.zero_add]
  apply Facts.Lex.exact [] _ (by kernel_rfl)
  · intro u W hC _
    unfold Facts.one
    go_simp
    first | exact ⟨Grew.refl _, rfl⟩ | rfl
  simp only [Act.put, List.setIfInBounds_toArray, List.set_cons_zero, List.set_cons_succ, Nat.reduceAdd]
  apply Facts.Lex.exact [] _ (by kernel_rfl)
  · intro u W hC _
    unfold Facts.one
    go_simp
    first | exact ⟨Grew.refl _, rfl⟩ | rfl
  simp only [Act.put, List.setIfInBounds_toArray, List.set_cons_zero, List.set_cons_succ, Nat.reduceAdd]
  apply Facts.Lex.exact [] _ (by kernel_rfl)
  · intro u W hC _
    have k0 := cellB hC C0.out
    unfold Facts.one
    go_simp
    first | exact ⟨Grew.refl _, rfl⟩ | rfl
  simp only [Act.put, List.setIfInBounds_toArray, List.set_cons_zero, List.set_cons_succ, Nat.reduceAdd]
  apply Facts.Lex.exact [] _ (by kernel_rfl)
  · intro u W hC _
    have k3 := cellB hC C3.out
    unfold Facts.one
    go_simp
    first | exact ⟨Grew.refl _, rfl⟩ | rfl
  simp only [Act.put, List.setIfInBounds_toArray, List.set_cons_zero, List.set_cons_succ, Nat.reduceAdd]
  apply Facts.Lex.exact [] _ (by kernel_rfl)
  · intro u W hC _
    unfold Facts.one
    go_simp
    first | exact ⟨Grew.refl _, rfl⟩ | rfl
  simp only [Act.put, List.setIfInBounds_toArray, List.set_cons_zero, List.set_cons_succ, Nat.reduceAdd]
  apply Facts.Lex.exact [] _ (by kernel_rfl)
  · intro u W hC _
    have k1 := cellB hC C1.out
    unfold Facts.one
    go_simp
    first | exact ⟨Grew.refl _, rfl⟩ | rfl
  simp only [Act.put, List.setIfInBounds_toArray, List.set_cons_zero, List.set_cons_succ, Nat.reduceAdd]
  apply Facts.Lex.exact [] _ (by kernel_rfl)
  · intro u W hC _
    unfold Facts.one
    go_simp
    first | exact ⟨Grew.refl _, rfl⟩ | rfl
  simp only [Act.put, List.setIfInBounds_toArray, List.set_cons_zero, List.set_cons_succ, Nat.reduceAdd]
  apply Facts.Lex.exact [] _ (by kernel_rfl)
  · intro u W hC _
    unfold Facts.one
    go_simp
    first | exact ⟨Grew.refl _, rfl⟩ | rfl
  simp only [Act.put, List.setIfInBounds_toArray, List.set_cons_zero, List.set_cons_succ, Nat.reduceAdd]
  refine Facts.Lex.done fun u W2 hC hL => ?_
  have G9 := Lib.hid hC
  clear hC hL
  go_wp2
  go_returns
  exact ⟨rfl, G9.out⟩

def clearedH (r : Re) (R : List (List Int)) (who place : Int) : Bool := if rightH r R = true then (if inn r.accounts.length who = true then (if inn r.labels.length place = true then (if (ac r who.toNat).lev < (RRule1.lat r.labels place.toNat).lev then false else !(guildsOf r place).any (stranger R who.toNat)) else false) else false) else false
theorem guildsOf_in {r : Re} {i g : Int} (h : g ∈ guildsOf r i) : ∃ k : Nat, g = (k : Int) ∧ k < r.guilds.length ∧ under r i.toNat k = true := by
  unfold guildsOf at h
  split at h
  · split at h
    · obtain ⟨k, h1, h2, h3⟩ := gl_mem.1 h
      exact ⟨k, h3, h1, h2⟩
    · cases h
  · cases h
set_option maxRecDepth 100000 in
set_option maxHeartbeats 4000000 in
theorem cleared_any (v vr : Value) (r : Re) (R : List (List Int)) (who place : Int) (w : World) (h : ReIs w v r) (hs : Sized r) (hR : RK w vr R) : Calls Tryz.prog 36 #[v, vr, .int .i64 who, .int .i64 place] w fun e w' => e = .returned (.bool (clearedH r R who place)) ∧ Grew w w' := by
  have HRI := Lib.hid (fun W hg => hright_any v vr r R W (h.grew (w' := W) hg) hs (hR.grew hg))
  have HGS := Lib.hid (fun W hg => guildsOf_any v r (place : Int) W (h.grew (w' := W) hg) hs)
  obtain ⟨v0, v1, v2, v3, v4, rfl, h0, h1, h2, h3, h4⟩ := h
  have HL0 := Lib.hid h0
  have HL2 := Lib.hid h2
  have HRK := Lib.hid hR
  obtain ⟨A0', cp0, rfl, _⟩ := h0.slice
  obtain ⟨A1', cp1, rfl, _⟩ := id h1
  obtain ⟨A2', cp2, rfl, _⟩ := h2.slice
  obtain ⟨A3', cp3, rfl, _⟩ := h3.slice
  obtain ⟨A4', cp4, rfl, _⟩ := h4.slice
  obtain ⟨B, cb, rfl, _⟩ := id hR
  clear h0 h1 h2 h3 h4 hs hR
  have HA1 := Lib.hid (fun W => hasHA_any A2' r.accounts.length cp2 who W)
  have HL1 := Lib.hid (fun W => hasHL_any A0' r.labels.length cp0 place W)
  unfold clearedH
  have G0 : Hid (Grew w (((w.alloc (Obj.cells #[.slice A0' r.labels.length cp0, .slice A1' r.lines.length cp1, .slice A2' r.accounts.length cp2, .slice A3' r.guilds.length cp3, .slice A4' r.quotas.length cp4, .int .i64 r.orders, .int .i64 r.audits, .int .i64 r.rate, .int .i64 r.rounds] 28)).alloc (.cells #[.slice B R.length cb] 53)).alloc (.cells #[.int .i64 who] 3))) := Lib.hid (by unfold Grew; go_grown)
  have R0 : Hid ((((w.alloc (Obj.cells #[.slice A0' r.labels.length cp0, .slice A1' r.lines.length cp1, .slice A2' r.accounts.length cp2, .slice A3' r.guilds.length cp3, .slice A4' r.quotas.length cp4, .int .i64 r.orders, .int .i64 r.audits, .int .i64 r.rate, .int .i64 r.rounds] 28)).alloc (.cells #[.slice B R.length cb] 53)).alloc (.cells #[.int .i64 who] 3)).heap[w.heap.size]? = some (rcell (.slice A0' r.labels.length cp0) (.slice A1' r.lines.length cp1) (.slice A2' r.accounts.length cp2) (.slice A3' r.guilds.length cp3) (.slice A4' r.quotas.length cp4) r.orders r.audits r.rate r.rounds)) := Lib.hid ((heap_alloc_old _ _ (by simp; omega)).trans ((heap_alloc_old _ _ (by simp)).trans (heap_alloc_new w _)))
  have S0 : Hid ((((w.alloc (Obj.cells #[.slice A0' r.labels.length cp0, .slice A1' r.lines.length cp1, .slice A2' r.accounts.length cp2, .slice A3' r.guilds.length cp3, .slice A4' r.quotas.length cp4, .int .i64 r.orders, .int .i64 r.audits, .int .i64 r.rate, .int .i64 r.rounds] 28)).alloc (.cells #[.slice B R.length cb] 53)).alloc (.cells #[.int .i64 who] 3)).heap[w.heap.size + 1]? = some (.cells #[.slice B R.length cb] 53 (0, 0))) := Lib.hid ((heap_alloc_old _ _ (by simp)).trans (heap_alloc2_new w _ _))
  have T0 : Hid ((((w.alloc (Obj.cells #[.slice A0' r.labels.length cp0, .slice A1' r.lines.length cp1, .slice A2' r.accounts.length cp2, .slice A3' r.guilds.length cp3, .slice A4' r.quotas.length cp4, .int .i64 r.orders, .int .i64 r.audits, .int .i64 r.rate, .int .i64 r.rounds] 28)).alloc (.cells #[.slice B R.length cb] 53)).alloc (.cells #[.int .i64 who] 3)).heap[w.heap.size + 2]? = some (.cells #[.int .i64 who] 3 (0, 0))) := Lib.hid (by
    have := heap_alloc_new ((w.alloc (Obj.cells #[.slice A0' r.labels.length cp0, .slice A1' r.lines.length cp1, .slice A2' r.accounts.length cp2, .slice A3' r.guilds.length cp3, .slice A4' r.quotas.length cp4, .int .i64 r.orders, .int .i64 r.audits, .int .i64 r.rate, .int .i64 r.rounds] 28)).alloc (.cells #[.slice B R.length cb] 53)) (.cells #[.int .i64 who] 3)
    simpa using this)
  have SC : Hid (∀ W, Grew (((w.alloc (Obj.cells #[.slice A0' r.labels.length cp0, .slice A1' r.lines.length cp1, .slice A2' r.accounts.length cp2, .slice A3' r.guilds.length cp3, .slice A4' r.quotas.length cp4, .int .i64 r.orders, .int .i64 r.audits, .int .i64 r.rate, .int .i64 r.rounds] 28)).alloc (.cells #[.slice B R.length cb] 53)).alloc (.cells #[.int .i64 who] 3)) W → W.cell? ⟨w.heap.size + 1, 0, none⟩ = some (.slice B R.length cb)) := Lib.hid fun W hg => by
    rw [cell_of_row _ _ _ _ _ _ (keepB S0.out hg)]
    rfl
  have TC : Hid (∀ W, Grew (((w.alloc (Obj.cells #[.slice A0' r.labels.length cp0, .slice A1' r.lines.length cp1, .slice A2' r.accounts.length cp2, .slice A3' r.guilds.length cp3, .slice A4' r.quotas.length cp4, .int .i64 r.orders, .int .i64 r.audits, .int .i64 r.rate, .int .i64 r.rounds] 28)).alloc (.cells #[.slice B R.length cb] 53)).alloc (.cells #[.int .i64 who] 3)) W → W.cell? ⟨w.heap.size + 2, 0, none⟩ = some (.int .i64 who)) := Lib.hid fun W hg => by
    rw [cell_of_row _ _ _ _ _ _ (keepB T0.out hg)]
    rfl
  obtain ⟨r0, r1, r2, r3, r4, r5, r6, r7, r8⟩ := re_cells R0.out
  have s0 := SC.out _ (Grew.refl _)
  have t0 := TC.out _ (Grew.refl _)
  have HP := Lib.hid (@right_parts r R)
  have HAI := Lib.hid (@inn_iff r.accounts.length who)
  have HLI := Lib.hid (@inn_iff r.labels.length place)
  generalize rightH r R = b at *
  cases b with
  | false =>
    rw [if_neg (by simp)]
    go_enter Tryz.func36, Tryz.ntmps36
    go_wp2_with fail
    with_reducible refine (HRI.out _ G0.out).mono ?_
    rintro e w1 ⟨rfl, hg⟩
    have G1 := Lib.hid (G0.out.trans hg)
    clear hg r0 r1 r2 r3 r4 r5 r6 r7 r8 s0 t0
    go_wp2
    go_returns
    exact ⟨rfl, G1.out⟩
  | true =>
    rw [if_pos rfl]
    obtain ⟨_, hlen, hrow⟩ := HP.out rfl
    have HLEN := Lib.hid hlen
    have HROW := Lib.hid hrow
    clear hlen hrow HP
    generalize inn r.accounts.length who = bw at *
    cases bw with
    | false =>
      rw [if_neg (by simp)]
      go_enter Tryz.func36, Tryz.ntmps36
      go_wp2_with fail
      with_reducible refine (HRI.out _ G0.out).mono ?_
      rintro e w1 ⟨rfl, hg⟩
      have G1 := Lib.hid (G0.out.trans hg)
      have R1 := Lib.hid (keepB R0.out hg)
      have k0 := TC.out _ hg
      clear hg r0 r1 r2 r3 r4 r5 r6 r7 r8 s0 t0
      obtain ⟨r0, r1, r2, r3, r4, r5, r6, r7, r8⟩ := re_cells R1.out
      go_wp2_with fail
      refine (HA1.out _).mono ?_
      rintro e w2 ⟨rfl, hg⟩
      have G2 := Lib.hid (G1.out.trans hg)
      clear hg r0 r1 r2 r3 r4 r5 r6 r7 r8 k0
      go_wp2
      go_returns
      exact ⟨rfl, G2.out⟩
    | true =>
      rw [if_pos rfl]
      obtain ⟨p0, p1⟩ := HAI.out rfl
      clear HAI
      obtain ⟨kw, rfl⟩ := Int.eq_ofNat_of_zero_le p0
      generalize inn r.labels.length place = bp at *
      cases bp with
      | false =>
        rw [if_neg (by simp)]
        go_enter Tryz.func36, Tryz.ntmps36
        go_wp2_with fail
        with_reducible refine (HRI.out _ G0.out).mono ?_
        rintro e w1 ⟨rfl, hg⟩
        have G1 := Lib.hid (G0.out.trans hg)
        have R1 := Lib.hid (keepB R0.out hg)
        have k0 := TC.out _ hg
        clear hg r0 r1 r2 r3 r4 r5 r6 r7 r8 s0 t0
        obtain ⟨r0, r1, r2, r3, r4, r5, r6, r7, r8⟩ := re_cells R1.out
        go_wp2_with fail
        refine (HA1.out _).mono ?_
        rintro e w2 ⟨rfl, hg⟩
        have G2 := Lib.hid (G1.out.trans hg)
        have R2 := Lib.hid (keepB R1.out hg)
        clear hg r0 r1 r2 r3 r4 r5 r6 r7 r8 k0
        obtain ⟨r0, r1, r2, r3, r4, r5, r6, r7, r8⟩ := re_cells R2.out
        go_wp2_with fail
        refine (HL1.out _).mono ?_
        rintro e w3 ⟨rfl, hg⟩
        have G3 := Lib.hid (G2.out.trans hg)
        clear hg r0 r1 r2 r3 r4 r5 r6 r7 r8
        go_wp2
        go_returns
        exact ⟨rfl, G3.out⟩
      | true =>
        rw [if_pos rfl]
        obtain ⟨q0, q1⟩ := HLI.out rfl
        clear HLI
        obtain ⟨kp, rfl⟩ := Int.eq_ofNat_of_zero_le q0
        have hlt : ((ac r (kw : Int).toNat).lev < (RRule1.lat r.labels (kp : Int).toNat).lev) = ((ac r kw).lev < (RRule1.lat r.labels kp).lev) := rfl
        obtain ⟨ad0, c9, e0, hc, d0, d1⟩ := Ls_at HL0.out (RRule1.lat_get (i := kp) (by omega))
        injection e0 with e01 _ e03
        subst e01 e03
        obtain ⟨ad2, c8, e2, hc2, a0, a1, a2, a3⟩ := As_at HL2.out (ac_get (k := kw) (by omega))
        injection e2 with e21 _ e23
        subst e21 e23
        have D0 := Lib.hid d0
        have A2 := Lib.hid a2
        have kpl : (kp : Int) < (r.labels.length : Int) := by omega
        have kwl : (kw : Int) < (r.accounts.length : Int) := by omega
        clear d0 d1 a0 a1 a2 a3
        have HC : Hid (∀ W x, Grew (((w.alloc (Obj.cells #[.slice (some ad0) r.labels.length cp0, .slice A1' r.lines.length cp1, .slice (some ad2) r.accounts.length cp2, .slice A3' r.guilds.length cp3, .slice A4' r.quotas.length cp4, .int .i64 r.orders, .int .i64 r.audits, .int .i64 r.rate, .int .i64 r.rounds] 28)).alloc (.cells #[.slice B R.length cb] 53)).alloc (.cells #[.int .i64 (kw : Int)] 3)) W → Is W x (guildsOf r (kp : Int)) → Calls Tryz.prog 96 #[x, .func (.func 100) #[] #[.pointer (some ⟨w.heap.size + 1, 0, none⟩), .pointer (some ⟨w.heap.size + 2, 0, none⟩)]] W fun e w' => e = .returned (.bool ((guildsOf r (kp : Int)).any (stranger R kw))) ∧ Grew W w') := Lib.hid fun W x hg hx => by
          refine contC_any x (guildsOf r (kp : Int)) (stranger R kw) _ _ W hx fun g hgm W2 hg2 => ?_
          obtain ⟨k, rfl, hk, _⟩ := guildsOf_in hgm
          have hkR : k < R.length := by have := HLEN.out; omega
          exact clo_stranger R _ k kw _ _ W2 (HRK.out.grew ((G0.out.trans hg).trans hg2)) hkR (by have := (HROW.out k hkR).1; omega) (SC.out _ (hg.trans hg2)) (TC.out _ (hg.trans hg2))
        obtain ⟨bs, hbs⟩ : ∃ bs, (guildsOf r (kp : Int)).any (stranger R kw) = bs := ⟨_, rfl⟩
        rw [show (guildsOf r (kp : Int)).any (stranger R (kw : Int).toNat) = bs from hbs]
        rw [hbs] at HC
        clear hbs hlt
        by_cases hll : (ac r kw).lev < (RRule1.lat r.labels kp).lev
        · rw [if_pos (show (ac r (kw : Int).toNat).lev < (RRule1.lat r.labels (kp : Int).toNat).lev from hll)]
          obtain ⟨la, hla⟩ : ∃ la, (RRule1.lat r.labels kp).lev = la := ⟨_, rfl⟩
          obtain ⟨lb, hlb⟩ : ∃ lb, (ac r kw).lev = lb := ⟨_, rfl⟩
          rw [hla] at D0 hll
          rw [hlb] at A2 hll
          clear hla hlb
          go_enter Tryz.func36, Tryz.ntmps36
          go_wp2_with fail
          with_reducible refine (HRI.out _ G0.out).mono ?_
          rintro e w1 ⟨rfl, hg⟩
          have G1 := Lib.hid (G0.out.trans hg)
          have Q1 := Lib.hid hg
          have R1 := Lib.hid (keepB R0.out hg)
          have k0 := TC.out _ hg
          clear hg r0 r1 r2 r3 r4 r5 r6 r7 r8 s0 t0
          obtain ⟨r0, r1, r2, r3, r4, r5, r6, r7, r8⟩ := re_cells R1.out
          go_wp2_with fail
          refine (HA1.out _).mono ?_
          rintro e w2 ⟨rfl, hg⟩
          have G2 := Lib.hid (G1.out.trans hg)
          have Q2 := Lib.hid (Q1.out.trans hg)
          have R2 := Lib.hid (keepB R1.out hg)
          clear hg r0 r1 r2 r3 r4 r5 r6 r7 r8 k0
          obtain ⟨r0, r1, r2, r3, r4, r5, r6, r7, r8⟩ := re_cells R2.out
          go_wp2_with fail
          refine (HL1.out _).mono ?_
          rintro e w3 ⟨rfl, hg⟩
          have G3 := Lib.hid (G2.out.trans hg)
          have Q3 := Lib.hid (Q2.out.trans hg)
          have R3 := Lib.hid (keepB R2.out hg)
          clear hg r0 r1 r2 r3 r4 r5 r6 r7 r8
          go_wp2
          refine Facts.wp_region_text (by kernel_rfl) (by kernel_rfl) ?_
          apply Facts.Lex.exact [] _ (by kernel_rfl)
          · intro u W hC _
            unfold Facts.one
            go_simp
            first | exact ⟨Grew.refl _, rfl⟩ | rfl
          simp only [Act.put, List.setIfInBounds_toArray, List.set_cons_zero, List.set_cons_succ, Nat.zero_add]
          apply Facts.Lex.exact [] _ (by kernel_rfl)
          · intro u W hC _
            obtain ⟨r0, r1, r2, r3, r4, r5, r6, r7, r8⟩ := re_cells (keepB R3.out hC)
            unfold Facts.one
            go_simp
            first | exact ⟨Grew.refl _, rfl⟩ | rfl
          simp only [Act.put, List.setIfInBounds_toArray, List.set_cons_zero, List.set_cons_succ, Nat.reduceAdd]
          apply Facts.Lex.exact [] _ (by kernel_rfl)
          · intro u W hC _
            have t0 := TC.out _ (Q3.out.trans hC)
            unfold Facts.one
            go_simp
            first | exact ⟨Grew.refl _, rfl⟩ | rfl
          simp only [Act.put, List.setIfInBounds_toArray, List.set_cons_zero, List.set_cons_succ, Nat.reduceAdd]
          apply Facts.Lex.exact [] _ (by kernel_rfl)
          · intro u W hC _
            unfold Facts.one
            go_simp
            first | exact ⟨Grew.refl _, rfl⟩ | rfl
          simp only [Act.put, List.setIfInBounds_toArray, List.set_cons_zero, List.set_cons_succ, Nat.reduceAdd]
          apply Facts.Lex.exact [] _ (by kernel_rfl)
          · intro u W hC _
            unfold Facts.one
            go_simp
            first | exact ⟨Grew.refl _, rfl⟩ | rfl
          simp only [Act.put, List.setIfInBounds_toArray, List.set_cons_zero, List.set_cons_succ, Nat.reduceAdd]
          apply Facts.Lex.exact [] _ (by kernel_rfl)
          · intro u W hC _
            have c2 := cellB (G3.out.trans hC) A2.out
            unfold Facts.one
            go_simp
            first | exact ⟨Grew.refl _, rfl⟩ | rfl
          simp only [Act.put, List.setIfInBounds_toArray, List.set_cons_zero, List.set_cons_succ, Nat.reduceAdd]
          apply Facts.Lex.exact [] _ (by kernel_rfl)
          · intro u W hC _
            unfold Facts.one
            go_simp
            first | exact ⟨Grew.refl _, rfl⟩ | rfl
          simp only [Act.put, List.setIfInBounds_toArray, List.set_cons_zero, List.set_cons_succ, Nat.reduceAdd]
          apply Facts.Lex.exact [] _ (by kernel_rfl)
          · intro u W hC _
            obtain ⟨r0, r1, r2, r3, r4, r5, r6, r7, r8⟩ := re_cells (keepB R3.out hC)
            unfold Facts.one
            go_simp
            first | exact ⟨Grew.refl _, rfl⟩ | rfl
          simp only [Act.put, List.setIfInBounds_toArray, List.set_cons_zero, List.set_cons_succ, Nat.reduceAdd]
          apply Facts.Lex.exact [] _ (by kernel_rfl)
          · intro u W hC _
            unfold Facts.one
            go_simp
            first | exact ⟨Grew.refl _, rfl⟩ | rfl
          simp only [Act.put, List.setIfInBounds_toArray, List.set_cons_zero, List.set_cons_succ, Nat.reduceAdd]
          apply Facts.Lex.exact [] _ (by kernel_rfl)
          · intro u W hC _
            unfold Facts.one
            go_simp
            first | exact ⟨Grew.refl _, rfl⟩ | rfl
          simp only [Act.put, List.setIfInBounds_toArray, List.set_cons_zero, List.set_cons_succ, Nat.reduceAdd]
          apply Facts.Lex.exact [] _ (by kernel_rfl)
          · intro u W hC _
            unfold Facts.one
            go_simp
            first | exact ⟨Grew.refl _, rfl⟩ | rfl
          simp only [Act.put, List.setIfInBounds_toArray, List.set_cons_zero, List.set_cons_succ, Nat.reduceAdd]
          apply Facts.Lex.exact [] _ (by kernel_rfl)
          · intro u W hC _
            have c0 := cellB (G3.out.trans hC) D0.out
            unfold Facts.one
            go_simp
            first | exact ⟨Grew.refl _, rfl⟩ | rfl
          simp only [Act.put, List.setIfInBounds_toArray, List.set_cons_zero, List.set_cons_succ, Nat.reduceAdd]
          apply Facts.Lex.exact [] _ (by kernel_rfl)
          · intro u W hC _
            unfold Facts.one
            go_simp
            first | exact ⟨Grew.refl _, rfl⟩ | rfl
          simp only [Act.put, List.setIfInBounds_toArray, List.set_cons_zero, List.set_cons_succ, Nat.reduceAdd]
          refine Facts.Lex.done fun u W2 hC hL => ?_
          have G9 := Lib.hid (G3.out.trans hC)
          clear hC hL
          go_wp2
          go_returns
          exact ⟨rfl, G9.out⟩
        · rw [if_neg (show ¬ (ac r (kw : Int).toNat).lev < (RRule1.lat r.labels (kp : Int).toNat).lev from hll)]
          obtain ⟨la, hla⟩ : ∃ la, (RRule1.lat r.labels kp).lev = la := ⟨_, rfl⟩
          obtain ⟨lb, hlb⟩ : ∃ lb, (ac r kw).lev = lb := ⟨_, rfl⟩
          rw [hla] at D0 hll
          rw [hlb] at A2 hll
          clear hla hlb
          cases bs
          all_goals
            go_enter Tryz.func36, Tryz.ntmps36
            go_wp2_with fail
            with_reducible refine (HRI.out _ G0.out).mono ?_
            rintro e w1 ⟨rfl, hg⟩
            have G1 := Lib.hid (G0.out.trans hg)
            have Q1 := Lib.hid hg
            have R1 := Lib.hid (keepB R0.out hg)
            have k0 := TC.out _ hg
            clear hg r0 r1 r2 r3 r4 r5 r6 r7 r8 s0 t0
            obtain ⟨r0, r1, r2, r3, r4, r5, r6, r7, r8⟩ := re_cells R1.out
            go_wp2_with fail
            refine (HA1.out _).mono ?_
            rintro e w2 ⟨rfl, hg⟩
            have G2 := Lib.hid (G1.out.trans hg)
            have Q2 := Lib.hid (Q1.out.trans hg)
            have R2 := Lib.hid (keepB R1.out hg)
            clear hg r0 r1 r2 r3 r4 r5 r6 r7 r8 k0
            obtain ⟨r0, r1, r2, r3, r4, r5, r6, r7, r8⟩ := re_cells R2.out
            go_wp2_with fail
            refine (HL1.out _).mono ?_
            rintro e w3 ⟨rfl, hg⟩
            have G3 := Lib.hid (G2.out.trans hg)
            have Q3 := Lib.hid (Q2.out.trans hg)
            have R3 := Lib.hid (keepB R2.out hg)
            clear hg r0 r1 r2 r3 r4 r5 r6 r7 r8
            go_wp2
            refine Facts.wp_region_text (by kernel_rfl) (by kernel_rfl) ?_
            apply Facts.Lex.exact [] _ (by kernel_rfl)
            · intro u W hC _
              unfold Facts.one
              go_simp
              first | exact ⟨Grew.refl _, rfl⟩ | rfl
            simp only [Act.put, List.setIfInBounds_toArray, List.set_cons_zero, List.set_cons_succ, Nat.zero_add]
            apply Facts.Lex.exact [] _ (by kernel_rfl)
            · intro u W hC _
              obtain ⟨r0, r1, r2, r3, r4, r5, r6, r7, r8⟩ := re_cells (keepB R3.out hC)
              unfold Facts.one
              go_simp
              first | exact ⟨Grew.refl _, rfl⟩ | rfl
            simp only [Act.put, List.setIfInBounds_toArray, List.set_cons_zero, List.set_cons_succ, Nat.reduceAdd]
            apply Facts.Lex.exact [] _ (by kernel_rfl)
            · intro u W hC _
              have t0 := TC.out _ (Q3.out.trans hC)
              unfold Facts.one
              go_simp
              first | exact ⟨Grew.refl _, rfl⟩ | rfl
            simp only [Act.put, List.setIfInBounds_toArray, List.set_cons_zero, List.set_cons_succ, Nat.reduceAdd]
            apply Facts.Lex.exact [] _ (by kernel_rfl)
            · intro u W hC _
              unfold Facts.one
              go_simp
              first | exact ⟨Grew.refl _, rfl⟩ | rfl
            simp only [Act.put, List.setIfInBounds_toArray, List.set_cons_zero, List.set_cons_succ, Nat.reduceAdd]
            apply Facts.Lex.exact [] _ (by kernel_rfl)
            · intro u W hC _
              unfold Facts.one
              go_simp
              first | exact ⟨Grew.refl _, rfl⟩ | rfl
            simp only [Act.put, List.setIfInBounds_toArray, List.set_cons_zero, List.set_cons_succ, Nat.reduceAdd]
            apply Facts.Lex.exact [] _ (by kernel_rfl)
            · intro u W hC _
              have c2 := cellB (G3.out.trans hC) A2.out
              unfold Facts.one
              go_simp
              first | exact ⟨Grew.refl _, rfl⟩ | rfl
            simp only [Act.put, List.setIfInBounds_toArray, List.set_cons_zero, List.set_cons_succ, Nat.reduceAdd]
            apply Facts.Lex.exact [] _ (by kernel_rfl)
            · intro u W hC _
              unfold Facts.one
              go_simp
              first | exact ⟨Grew.refl _, rfl⟩ | rfl
            simp only [Act.put, List.setIfInBounds_toArray, List.set_cons_zero, List.set_cons_succ, Nat.reduceAdd]
            apply Facts.Lex.exact [] _ (by kernel_rfl)
            · intro u W hC _
              obtain ⟨r0, r1, r2, r3, r4, r5, r6, r7, r8⟩ := re_cells (keepB R3.out hC)
              unfold Facts.one
              go_simp
              first | exact ⟨Grew.refl _, rfl⟩ | rfl
            simp only [Act.put, List.setIfInBounds_toArray, List.set_cons_zero, List.set_cons_succ, Nat.reduceAdd]
            apply Facts.Lex.exact [] _ (by kernel_rfl)
            · intro u W hC _
              unfold Facts.one
              go_simp
              first | exact ⟨Grew.refl _, rfl⟩ | rfl
            simp only [Act.put, List.setIfInBounds_toArray, List.set_cons_zero, List.set_cons_succ, Nat.reduceAdd]
            apply Facts.Lex.exact [] _ (by kernel_rfl)
            · intro u W hC _
              unfold Facts.one
              go_simp
              first | exact ⟨Grew.refl _, rfl⟩ | rfl
            simp only [Act.put, List.setIfInBounds_toArray, List.set_cons_zero, List.set_cons_succ, Nat.reduceAdd]
            apply Facts.Lex.exact [] _ (by kernel_rfl)
            · intro u W hC _
              unfold Facts.one
              go_simp
              first | exact ⟨Grew.refl _, rfl⟩ | rfl
            simp only [Act.put, List.setIfInBounds_toArray, List.set_cons_zero, List.set_cons_succ, Nat.reduceAdd]
            apply Facts.Lex.exact [] _ (by kernel_rfl)
            · intro u W hC _
              have c0 := cellB (G3.out.trans hC) D0.out
              unfold Facts.one
              go_simp
              first | exact ⟨Grew.refl _, rfl⟩ | rfl
            simp only [Act.put, List.setIfInBounds_toArray, List.set_cons_zero, List.set_cons_succ, Nat.reduceAdd]
            apply Facts.Lex.exact [] _ (by kernel_rfl)
            · intro u W hC _
              unfold Facts.one
              go_simp
              first | exact ⟨Grew.refl _, rfl⟩ | rfl
            simp only [Act.put, List.setIfInBounds_toArray, List.set_cons_zero, List.set_cons_succ, Nat.reduceAdd]
            refine Facts.Lex.done fun u W2 hC hL => ?_
            have G9 := Lib.hid (G3.out.trans hC)
            have Q9 := Lib.hid (Q3.out.trans hC)
            have R9 := Lib.hid (keepB R3.out hC)
            clear hC hL
            obtain ⟨r0, r1, r2, r3, r4, r5, r6, r7, r8⟩ := re_cells R9.out
            go_wp2_with fail
            with_reducible refine (HGS.out _ G9.out).mono ?_
            rintro e w10 ⟨vg, rfl, hi, hg⟩
            obtain ⟨AG, cg, rfl, _⟩ := id hi
            have HIS := Lib.hid hi
            have G10 := Lib.hid (G9.out.trans hg)
            have Q10 := Lib.hid (Q9.out.trans hg)
            clear hi hg r0 r1 r2 r3 r4 r5 r6 r7 r8
            go_wp2_with fail
            with_reducible refine (HC.out _ _ Q10.out HIS.out).mono ?_
            rintro e w11 ⟨rfl, hg⟩
            have G11 := Lib.hid (G10.out.trans hg)
            clear hg
            go_wp2
            go_returns
            exact ⟨rfl, G11.out⟩
end Go.Proofs.YtmegdgeiikhflaaGreat.HD
