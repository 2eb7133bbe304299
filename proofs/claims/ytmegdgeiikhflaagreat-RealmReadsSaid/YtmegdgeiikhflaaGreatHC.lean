/-
  Ranks, as they are read; whether they may be, as the program tells it.
  Conditions: the accounts' texts' sizes.
-/
import Derived.Test.YtmegdgeiikhflaaGreatHG
namespace Go.Proofs.YtmegdgeiikhflaaGreat.HC
open Go Go.RowKit Go.Lib Go.Proofs.YtmegdgeiikhflaaGreat Go.Proofs.YtmegdgeiikhflaaGreat.Facts Go.Proofs.YtmegdgeiikhflaaGreat.Plain Go.Proofs.YtmegdgeiikhflaaGreat.Ints Go.Proofs.YtmegdgeiikhflaaGreat.RRows Go.Proofs.YtmegdgeiikhflaaGreat.LBox Go.Proofs.YtmegdgeiikhflaaGreat.RSmall Go.Proofs.YtmegdgeiikhflaaGreat.RFind Go.Proofs.YtmegdgeiikhflaaGreat.RAll Go.Proofs.YtmegdgeiikhflaaGreat.RRules Go.Proofs.YtmegdgeiikhflaaGreat.RRule3 Go.Proofs.YtmegdgeiikhflaaGreat.RRight Go.Proofs.YtmegdgeiikhflaaGreat.HA Go.Proofs.YtmegdgeiikhflaaGreat.HB Go.Proofs.YtmegdgeiikhflaaGreat.HG

/-- The slice v reads as these rows of numbers. -/
def RK (w : World) (v : Value) (R : List (List Int)) : Prop :=
  ∃ (A : Option Addr) (c : Nat), v = .slice A R.length c ∧ R.length ≤ c ∧ c ≤ maxLen ∧ (A = none → c = 0) ∧
    ∀ ad, A = some ad → ∀ j row, R[j]? = some row → ∃ x, w.cell? (ad.add j) = some x ∧ Is w x row
theorem RK.grew {w w' : World} {v : Value} {R : List (List Int)} (h : RK w v R) (hg : Grew w w') : RK w' v R := by
  obtain ⟨A, c, e, h1, h2, h3, h4⟩ := h
  refine ⟨A, c, e, h1, h2, h3, fun ad ha j row hr => ?_⟩
  obtain ⟨x, hx, hi⟩ := h4 ad ha j row hr
  exact ⟨x, cellB hg hx, hi.grew hg⟩
theorem RK.nil (w : World) : RK w (.slice none 0 0) [] := ⟨none, 0, rfl, Nat.le_refl _, Nat.zero_le _, fun _ => rfl, fun ad ha => by cases ha⟩
def rk (R : List (List Int)) (k : Nat) : List Int := (R[k]?).getD []
def cel (l : List Int) (k : Nat) : Int := (l[k]?).getD 0
theorem rk_get {R : List (List Int)} {k : Nat} (h : k < R.length) : R[k]? = some (rk R k) := by
  unfold rk
  rw [List.getElem?_eq_getElem h, Option.getD_some]
theorem RK.at {w : World} {v : Value} {R : List (List Int)} (h : RK w v R) {k : Nat} (hk : k < R.length) : ∃ ad c A' c', v = .slice (some ad) R.length c ∧ w.cell? (ad.add k) = some (.slice A' (rk R k).length c') ∧ Is w (.slice A' (rk R k).length c') (rk R k) := by
  obtain ⟨A, c, rfl, h1, h2, h3, h4⟩ := h
  cases A with
  | none => have := h3 rfl; omega
  | some ad =>
    obtain ⟨x, hx, hi⟩ := h4 ad rfl k _ (rk_get hk)
    obtain ⟨A', c', rfl, _⟩ := id hi
    exact ⟨ad, c, A', c', rfl, hx, hi⟩
/-- A number among a row's. -/
theorem Is.at' {w : World} {A : Option Addr} {c : Nat} {l : List Int} (h : Is w (.slice A l.length c) l) {k : Nat} (hk : k < l.length) : ∃ ad, A = some ad ∧ w.cell? (ad.add k) = some (.int .i64 (cel l k)) := by
  obtain ⟨ad, c', e, _, hc⟩ := h.cell hk
  injection e with e1 _ _
  exact ⟨ad, e1, hc⟩

def okRank (x : Int) : Bool := decide (0 ≤ x) && decide (x ≤ 2)
def noR (x : Int) : Bool := !okRank x
theorem noR_cases (x : Int) : (x < 0 ∧ noR x = true) ∨ (¬ x < 0 ∧ x > 2 ∧ noR x = true) ∨ (¬ x < 0 ∧ ¬ x > 2 ∧ noR x = false) := by
  unfold noR okRank
  by_cases h : x < 0
  · exact .inl ⟨h, by simp; omega⟩
  · by_cases h2 : x > 2
    · exact .inr (.inl ⟨h, h2, by simp; omega⟩)
    · exact .inr (.inr ⟨h, h2, by simp; omega⟩)
theorem noRank_any (x : Int) (w : World) : Calls Tryz.prog 97 #[.int .i64 x] w fun e w' => e = .returned (.bool (noR x)) ∧ Grew w w' := by
  rcases noR_cases x with ⟨h, e⟩ | ⟨h, h2, e⟩ | ⟨h, h2, e⟩
  all_goals
    rw [e]
    clear e
    go_enter Tryz.func97, Tryz.ntmps97
    go_wp2
    go_returns
    exact ⟨rfl, Grew.refl _⟩
theorem hasHA_any (A : Option Addr) (n c : Nat) (i : Int) (w : World) : Calls Tryz.prog 98 #[.slice A n c, .int .i64 i] w fun e w' => e = .returned (.bool (inn n i)) ∧ Grew w w' := by
  rcases inn_cases n i with ⟨h, h2, e⟩ | ⟨h, e⟩ | ⟨h, h2, e⟩
  all_goals
    rw [e]
    clear e
    go_enter Tryz.func98, Tryz.ntmps98
    go_wp2
    go_returns
    exact ⟨rfl, Grew.refl _⟩
theorem hasHL_any (A : Option Addr) (n c : Nat) (i : Int) (w : World) : Calls Tryz.prog 99 #[.slice A n c, .int .i64 i] w fun e w' => e = .returned (.bool (inn n i)) ∧ Grew w w' := by
  rcases inn_cases n i with ⟨h, h2, e⟩ | ⟨h, e⟩ | ⟨h, h2, e⟩
  all_goals
    rw [e]
    clear e
    go_enter Tryz.func99, Tryz.ntmps99
    go_wp2
    go_returns
    exact ⟨rfl, Grew.refl _⟩
theorem hasHG_any (A : Option Addr) (n c : Nat) (i : Int) (w : World) : Calls Tryz.prog 101 #[.slice A n c, .int .i64 i] w fun e w' => e = .returned (.bool (inn n i)) ∧ Grew w w' := by
  rcases inn_cases n i with ⟨h, h2, e⟩ | ⟨h, e⟩ | ⟨h, h2, e⟩
  all_goals
    rw [e]
    clear e
    go_enter Tryz.func101, Tryz.ntmps101
    go_wp2
    go_returns
    exact ⟨rfl, Grew.refl _⟩

def rowOk (r : Re) (R : List (List Int)) (k : Nat) : Bool := decide ((rk R k).length = r.accounts.length) && (!((rk R k).any noR) && decide (cel (rk R k) (gu r k).founder.toNat = 2))
def rightH (r : Re) (R : List (List Int)) : Bool := if mayBe r = true then (if R.length = r.guilds.length then (List.range R.length).all (rowOk r R) else false) else false
theorem may_parts {r : Re} (h : mayBe r = true) : rule3 r = true ∧ rule4 r = true ∧ rule1 r = true := by
  unfold mayBe at h
  simp only [Bool.and_eq_true] at h
  exact ⟨h.2.2.2.2.1, h.2.2.2.1, h.2.2.2.2.2.2.1⟩
/-- A guild's founder is an account. -/
theorem founder_in {r : Re} (h : mayBe r = true) {k : Nat} (hk : k < r.guilds.length) : 0 ≤ (gu r k).founder ∧ (gu r k).founder < r.accounts.length := by
  have h4 := (may_parts h).2.1
  unfold rule4 RGuilds.guildsOk at h4
  simp only [Bool.and_eq_true, decide_eq_true_eq, List.all_eq_true, List.mem_range] at h4
  have := h4.2.1 k hk
  rw [RGuilds.gk_at r k _ (gu_get hk)] at this
  simp only [Bool.and_eq_true, decide_eq_true_eq] at this
  have h5 := this.2.2.1
  unfold inn at h5
  simpa using h5
theorem sizes {r : Re} (h : mayBe r = true) : r.accounts.length ≤ 8 ∧ r.guilds.length ≤ 8 ∧ r.labels.length ≤ 8 := by
  obtain ⟨h3, h4, h1⟩ := may_parts h
  unfold rule3 wit at h3
  unfold rule4 at h4
  unfold rule1 wit at h1
  simp only [Bool.and_eq_true, decide_eq_true_eq] at h3 h4 h1
  omega
theorem rows_no {r : Re} {R : List (List Int)} {k : Nat} (hk : k < R.length) (h : rowOk r R k = false) : (List.range R.length).all (rowOk r R) = false := by
  rw [List.all_eq_false]
  exact ⟨k, List.mem_range.2 hk, by simp [h]⟩
theorem rows_yes {r : Re} {R : List (List Int)} (h : ∀ k, k < R.length → rowOk r R k = true) : (List.range R.length).all (rowOk r R) = true := by
  rw [List.all_eq_true]
  exact fun i hi => h i (List.mem_range.1 hi)
set_option maxRecDepth 100000 in
set_option maxHeartbeats 4000000 in
theorem hright_any (v vr : Value) (r : Re) (R : List (List Int)) (w : World) (h : ReIs w v r) (hs : Sized r) (hR : RK w vr R) : Calls Tryz.prog 35 #[v, vr] w fun e w' => e = .returned (.bool (rightH r R)) ∧ Grew w w' := by
  have HRI := Lib.hid (fun W hg => right_re v r W (h.grew (w' := W) hg) hs)
  obtain ⟨v0, v1, v2, v3, v4, rfl, h0, h1, h2, h3, h4⟩ := h
  have HL3 := Lib.hid h3
  have HRK := Lib.hid hR
  obtain ⟨A0', cp0, rfl, _⟩ := h0.slice
  obtain ⟨A1', cp1, rfl, _⟩ := id h1
  obtain ⟨A2', cp2, rfl, _⟩ := h2.slice
  obtain ⟨A3', cp3, rfl, hf1, hf2⟩ := h3.slice
  obtain ⟨A4', cp4, rfl, _⟩ := h4.slice
  obtain ⟨B, cb, rfl, _⟩ := id hR
  clear h0 h1 h2 h3 h4 hs hR hf1 hf2
  have HFI := Lib.hid (@founder_in r)
  have HSZ := Lib.hid (@sizes r)
  unfold rightH
  have G0 : Hid (Grew w (w.alloc (Obj.cells #[.slice A0' r.labels.length cp0, .slice A1' r.lines.length cp1, .slice A2' r.accounts.length cp2, .slice A3' r.guilds.length cp3, .slice A4' r.quotas.length cp4, .int .i64 r.orders, .int .i64 r.audits, .int .i64 r.rate, .int .i64 r.rounds] 28))) := Lib.hid (by unfold Grew; go_grown)
  have R0 : Hid ((w.alloc (Obj.cells #[.slice A0' r.labels.length cp0, .slice A1' r.lines.length cp1, .slice A2' r.accounts.length cp2, .slice A3' r.guilds.length cp3, .slice A4' r.quotas.length cp4, .int .i64 r.orders, .int .i64 r.audits, .int .i64 r.rate, .int .i64 r.rounds] 28)).heap[w.heap.size]? = some (rcell (.slice A0' r.labels.length cp0) (.slice A1' r.lines.length cp1) (.slice A2' r.accounts.length cp2) (.slice A3' r.guilds.length cp3) (.slice A4' r.quotas.length cp4) r.orders r.audits r.rate r.rounds)) := Lib.hid (heap_alloc_new w _)
  obtain ⟨r0, r1, r2, r3, r4, r5, r6, r7, r8⟩ := re_cells R0.out
  generalize mayBe r = b at *
  cases b with
  | false =>
    rw [if_neg (by simp)]
    go_enter Tryz.func35, Tryz.ntmps35
    go_wp2_with fail
    with_reducible refine (HRI.out _ G0.out).mono ?_
    rintro e w1 ⟨rfl, hg⟩
    have G1 := Lib.hid (G0.out.trans hg)
    clear hg r0 r1 r2 r3 r4 r5 r6 r7 r8
    go_wp2
    go_returns
    exact ⟨rfl, G1.out⟩
  | true =>
    rw [if_pos rfl]
    by_cases hlen : R.length = r.guilds.length
    · rw [if_pos hlen]
      have hb : ((R.length : Int) != (r.guilds.length : Int)) = false := by simp [hlen]
      have HLEN := Lib.hid hlen
      have h8 := (HSZ.out (by first | rfl | trivial)).2.1
      have HYES := Lib.hid (@rows_yes r R)
      have HNO := Lib.hid (fun k => @rows_no r R k)
      have hR8 : R.length ≤ 8 := by omega
      generalize (List.range R.length).all (rowOk r R) = res at *
      clear hlen h8
      go_enter Tryz.func35, Tryz.ntmps35
      go_wp2_with fail
      with_reducible refine (HRI.out _ G0.out).mono ?_
      rintro e w1 ⟨rfl, hg⟩
      have G1 := Lib.hid (G0.out.trans hg)
      have R1 := Lib.hid (keepB R0.out hg)
      clear hg r0 r1 r2 r3 r4 r5 r6 r7 r8
      obtain ⟨r0, r1, r2, r3, r4, r5, r6, r7, r8⟩ := re_cells R1.out
      go_wp2
      clear hb
      go_loopg [20] R.length (fun g s20 wx => ∃ (k : Nat), k + g = R.length ∧ s20 = .int .i64 k ∧ Hid (∀ j, j < k → rowOk r R j = true) ∧ Hid (Grew w1 wx))
      case atStart => exact ⟨0, by omega, rfl, Lib.hid (fun j h => absurd h (by omega)), Lib.hid (Grew.refl _)⟩
      case round =>
        obtain ⟨k, hkg, rfl, HJ, HG⟩ := hrel
        clear r0 r1 r2 r3 r4 r5 r6 r7 r8
        cases gk with
        | zero =>
          have hkz : ¬ ((k : Int) < (R.length : Int)) := by omega
          have HR := Lib.hid (HYES.out fun i hi => HJ.out i (by omega))
          go_wp2
          go_returns
          refine ⟨?_, G1.out.trans HG.out⟩
          rw [HR.out]
          try rfl
        | succ g =>
          have hkz : (k : Int) < (R.length : Int) := by omega
          have hkl : k < R.length := by omega
          obtain ⟨ad, c2, A', c', e, hcl, hrow⟩ := (HRK.out.grew (G1.out.trans HG.out)).at hkl
          injection e with e1 _ e3
          subst e1 e3
          have RX := Lib.hid (keepB R1.out HG.out)
          obtain ⟨r0, r1, r2, r3, r4, r5, r6, r7, r8⟩ := re_cells RX.out
          have HROW := Lib.hid hrow
          have hro : rowOk r R k = (decide ((rk R k).length = r.accounts.length) && (!((rk R k).any noR) && decide (cel (rk R k) (gu r k).founder.toNat = 2))) := rfl
          have HRO := Lib.hid hro
          clear hrow hro
          by_cases hl : (rk R k).length = r.accounts.length
          · have hb : (((rk R k).length : Int) != (r.accounts.length : Int)) = false := by simp [hl]
            have HCN := Lib.hid (fun W hg => contN_any (.slice A' (rk R k).length c') (rk R k) noR W (HROW.out.grew (w' := W) hg) fun x _ W2 _ => noRank_any x W2)
            obtain ⟨ad3, cp3', e, hc3, f0, f1⟩ := Gs_at (HL3.out.grew (G1.out.trans HG.out)) (gu_get (k := k) (by have := HLEN.out; omega))
            injection e with e1 _ e3
            subst e1 e3
            have hfi := HFI.out (by first | rfl | trivial) (k := k) (by have := HLEN.out; omega)
            have F0 := Lib.hid f0
            have F1 := Lib.hid f1
            clear f0 f1
            obtain ⟨kf, hkf⟩ := Int.eq_ofNat_of_zero_le hfi.1
            have hro2 : rowOk r R k = (decide ((rk R k).length = r.accounts.length) && (!((rk R k).any noR) && decide (cel (rk R k) kf = 2))) := by
              unfold rowOk
              rw [hkf]
              rfl
            clear HRO
            have HRO := Lib.hid hro2
            clear hro2
            rw [hkf] at hfi F1
            obtain ⟨adr, rfl, hcr⟩ := Is.at' HROW.out (k := kf) (by omega)
            have HCR := Lib.hid hcr
            have hkr : (kf : Int) < ((rk R k).length : Int) := by omega
            have hkg' : (k : Int) < (r.guilds.length : Int) := by have := HLEN.out; omega
            clear hcr hkf
            rw [decide_eq_true hl, Bool.true_and] at HRO
            clear hl
            generalize (rk R k).any noR = bn at HCN HRO
            generalize cel (rk R k) kf = cv at HCR HRO
            cases bn with
            | true =>
              have HR := Lib.hid (HNO.out k hkl (by rw [HRO.out]; rfl))
              go_wp2_with fail
              with_reducible refine (HCN.out _ (Grew.refl _)).mono ?_
              rintro e w3 ⟨rfl, hg⟩
              have G3 := Lib.hid ((G1.out.trans HG.out).trans hg)
              clear hg r0 r1 r2 r3 r4 r5 r6 r7 r8
              go_wp2
              go_returns
              refine ⟨?_, G3.out⟩
              rw [HR.out]
              try rfl
            | false =>
              by_cases hv : cv = 2
              · have hvb : (cv != 2) = false := by simp [hv]
                have HJ2 : Hid (∀ j, j < k + 1 → rowOk r R j = true) := Lib.hid fun j hj => by
                  by_cases hjk : j = k
                  · subst hjk
                    rw [HRO.out]
                    simp [hv]
                  · exact HJ.out j (by omega)
                clear hv
                go_wp2_with fail
                with_reducible refine (HCN.out _ (Grew.refl _)).mono ?_
                rintro e w3 ⟨rfl, hg⟩
                have R3 := Lib.hid (keepB RX.out hg)
                have f0 := cellB hg F0.out
                have f1 := cellB hg F1.out
                have cr := cellB hg HCR.out
                have G3 := Lib.hid (HG.out.trans hg)
                clear hg r0 r1 r2 r3 r4 r5 r6 r7 r8
                obtain ⟨r0, r1, r2, r3, r4, r5, r6, r7, r8⟩ := re_cells R3.out
                go_wp2
                go_roundg g
                case measure => omega
                case rel => exact ⟨k + 1, by omega, by first | rfl | simp, HJ2, G3⟩
              · have hvb : (cv != 2) = true := by simpa using hv
                have HR := Lib.hid (HNO.out k hkl (by rw [HRO.out]; simp [hv]))
                clear hv
                go_wp2_with fail
                with_reducible refine (HCN.out _ (Grew.refl _)).mono ?_
                rintro e w3 ⟨rfl, hg⟩
                have R3 := Lib.hid (keepB RX.out hg)
                have f0 := cellB hg F0.out
                have f1 := cellB hg F1.out
                have cr := cellB hg HCR.out
                have G3 := Lib.hid ((G1.out.trans HG.out).trans hg)
                clear hg r0 r1 r2 r3 r4 r5 r6 r7 r8
                obtain ⟨r0, r1, r2, r3, r4, r5, r6, r7, r8⟩ := re_cells R3.out
                go_wp2
                go_returns
                refine ⟨?_, G3.out⟩
                rw [HR.out]
                try rfl
          · have hb : (((rk R k).length : Int) != (r.accounts.length : Int)) = true := by simp; omega
            have HR := Lib.hid (HNO.out k hkl (by rw [HRO.out, decide_eq_false hl]; rfl))
            clear hl
            go_wp2
            go_returns
            refine ⟨?_, G1.out.trans HG.out⟩
            rw [HR.out]
            try rfl
    · rw [if_neg hlen]
      have hb : ((R.length : Int) != (r.guilds.length : Int)) = true := by simp; omega
      clear hlen
      go_enter Tryz.func35, Tryz.ntmps35
      go_wp2_with fail
      with_reducible refine (HRI.out _ G0.out).mono ?_
      rintro e w1 ⟨rfl, hg⟩
      have G1 := Lib.hid (G0.out.trans hg)
      have R1 := Lib.hid (keepB R0.out hg)
      clear hg r0 r1 r2 r3 r4 r5 r6 r7 r8
      obtain ⟨r0, r1, r2, r3, r4, r5, r6, r7, r8⟩ := re_cells R1.out
      go_wp2
      go_returns
      exact ⟨rfl, G1.out⟩
end Go.Proofs.YtmegdgeiikhflaaGreat.HC
