/-
  Which guilds a realm may have, as the document tells it.
  Conditions: none.
-/
import Derived.Test.YtmegdgeiikhflaaGreatDL
import Derived.Test.YtmegdgeiikhflaaGreatHG
namespace Go.Proofs.YtmegdgeiikhflaaGreat.DG
set_option maxRecDepth 100000
open Go Go.RowKit Go.Lib Go.Proofs.YtmegdgeiikhflaaGreat Go.Proofs.YtmegdgeiikhflaaGreat.Facts Go.Proofs.YtmegdgeiikhflaaGreat.Plain Go.Proofs.YtmegdgeiikhflaaGreat.Ints Go.Proofs.YtmegdgeiikhflaaGreat.RRows Go.Proofs.YtmegdgeiikhflaaGreat.LBox Go.Proofs.YtmegdgeiikhflaaGreat.RSmall Go.Proofs.YtmegdgeiikhflaaGreat.RFind Go.Proofs.YtmegdgeiikhflaaGreat.RAll Go.Proofs.YtmegdgeiikhflaaGreat.RRule1 Go.Proofs.YtmegdgeiikhflaaGreat.RRules Go.Proofs.YtmegdgeiikhflaaGreat.RRule5 Go.Proofs.YtmegdgeiikhflaaGreat.RCaps Go.Proofs.YtmegdgeiikhflaaGreat.LRefs Go.Proofs.YtmegdgeiikhflaaGreat.DL Go.Proofs.YtmegdgeiikhflaaGreat.RGuilds Go.Proofs.YtmegdgeiikhflaaGreat.HG

def okG (r : Re) : Bool := decide (r.guilds.length ≤ 8) && guildsOk r
theorem bitOf_at (b : Int) (k : Nat) (hk : k < 64) : (bitOf b).getLsbD k = decide (b = (k : Int)) := by
  unfold bitOf
  by_cases h : 0 ≤ b ∧ b < 64
  · rw [if_pos h]
    obtain ⟨n, rfl⟩ := Int.eq_ofNat_of_zero_le h.1
    rw [Int.toNat_natCast, BitVec.getLsbD_twoPow]
    have : decide (n < 64) = true := decide_eq_true (by omega)
    rw [this, Bool.true_and, Bool.eq_iff_iff]
    simp only [decide_eq_true_eq]
    omega
  · rw [if_neg h, decide_eq_false (by omega)]
    simp
theorem n1 {q g : Nat} (h : q + (g + 1) = 64) : (q : Int) < 64 := by omega
theorem n2 {q g : Nat} (h : q + (g + 1) = 64) : q < 64 := by omega
theorem n3 {q : Nat} (h : (q : Int) < 64) : wrap64 ((q : Int) + 1) = (q : Int) + 1 := by unfold wrap64; omega
theorem n4 {q g : Nat} (h : q + (g + 1) = 64) : q + 1 + g = 64 := by omega
theorem upto_step {P : Nat → Prop} {q : Nat} (h : ∀ p, p < q → P p) (hq : P q) : ∀ p, p < q + 1 → P p := fun p hp => by
  rcases Nat.lt_succ_iff_lt_or_eq.1 hp with h1 | h1
  · exact h p h1
  · rw [h1]; exact hq
theorem known_at (l : List Gu) (k : Nat) (hk : k < 64) : (RGuilds.known l).getLsbD k = hasB l (k : Int) := by
  have gen : ∀ (l : List Gu) (s : BitVec 64), (l.foldl (fun s g => s ||| bitOf g.bit) s).getLsbD k = (s.getLsbD k || l.any fun g => decide (g.bit = (k : Int))) := by
    intro l
    induction l with
    | nil => intro s; simp
    | cons g l ih =>
      intro s
      rw [List.foldl_cons, ih, BitVec.getLsbD_or, bitOf_at _ _ hk, List.any_cons, Bool.or_assoc]
  unfold RGuilds.known hasB
  rw [gen]
  simp
theorem okG_len {r : Re} (h : ¬ r.guilds.length ≤ 8) : okG r = false := by
  unfold okG
  rw [decide_eq_false h]
  rfl
theorem okG_one {r : Re} {k : Nat} (hk : k < r.guilds.length) (h : gk r k = false) : okG r = false := by
  unfold okG
  rw [guilds_no hk h]
  simp
theorem mask_iff (a s : BitVec 64) : decide (a &&& ~~~ s = 0#64) = true ↔ ∀ k, k < 64 → a.getLsbD k = true → s.getLsbD k = true := by
  rw [decide_eq_true_eq]
  constructor
  · intro h k hk ha
    have := congrArg (fun x => x.getLsbD k) h
    simp only [BitVec.getLsbD_and, BitVec.getLsbD_not, ha, Bool.true_and, BitVec.getLsbD_zero] at this
    simpa [hk] using this
  · intro h
    apply BitVec.eq_of_getLsbD_eq
    intro k hk
    simp only [BitVec.getLsbD_and, BitVec.getLsbD_not, BitVec.getLsbD_zero]
    by_cases ha : a.getLsbD k = true
    · rw [h k hk ha]
      simp
    · simp [ha]
theorem okG_bit {r : Re} {i k : Nat} (hi : i < r.labels.length) (hk : k < 64) (h1 : (RRule1.lat r.labels i).set.getLsbD k = true) (h2 : hasB r.guilds (k : Int) = false) : okG r = false := by
  unfold okG guildsOk
  have : (r.labels.all fun a => decide (a.set &&& ~~~ RGuilds.known r.guilds = 0#64)) = false := by
    rw [Bool.eq_false_iff]
    intro h
    have := (mask_iff _ _).1 (DL.lat_all.1 h i hi) k hk h1
    rw [known_at _ _ hk, h2] at this
    cases this
  rw [this]
  simp
theorem okG_yes {r : Re} (h1 : r.guilds.length ≤ 8) (h2 : ∀ k, k < r.guilds.length → gk r k = true) (h3 : ∀ i, i < r.labels.length → ∀ k, k < 64 → (RRule1.lat r.labels i).set.getLsbD k = true → hasB r.guilds (k : Int) = true) : okG r = true := by
  unfold okG
  rw [decide_eq_true h1, Bool.true_and, guilds_yes h2]
  exact DL.lat_all.2 fun i hi => (mask_iff _ _).2 fun k hk ha => by rw [known_at _ _ hk]; exact h3 i hi k hk ha
theorem gk_no {r : Re} {k : Nat} (hk : k < r.guilds.length) (h : ¬ 0 ≤ (gu r k).bit ∨ ¬ (gu r k).bit < 64 ∨ ¬ 0 ≤ (gu r k).founder ∨ ¬ (gu r k).founder < r.accounts.length ∨ ¬ lastBit r.guilds k < (gu r k).bit ∨ (r.labels.any fun y => decide ((⟨0, bitOf (gu r k).bit⟩ : La) = y)) = false) : gk r k = false := by
  rw [gk_at r k _ (gu_get hk)]
  unfold hallErr inn
  rcases h with h | h | h | h | h | h
  · rw [if_neg (by omega)]; rfl
  · rw [if_neg (by omega)]; rfl
  · rw [decide_eq_false h]; simp
  · rw [decide_eq_false h]; simp
  · rw [decide_eq_false h]; simp
  · rw [h]; simp
theorem gk_yes {r : Re} {k : Nat} (hk : k < r.guilds.length) (h1 : 0 ≤ (gu r k).bit) (h2 : (gu r k).bit < 64) (h3 : 0 ≤ (gu r k).founder) (h4 : (gu r k).founder < r.accounts.length) (h5 : lastBit r.guilds k < (gu r k).bit) (h6 : (r.labels.any fun y => decide ((⟨0, bitOf (gu r k).bit⟩ : La) = y)) = true) : gk r k = true := by
  rw [gk_at r k _ (gu_get hk)]
  unfold hallErr inn
  rw [if_pos ⟨h1, h2⟩, decide_eq_true h3, decide_eq_true h4, decide_eq_true h5, h6]
  rfl
theorem last_zero (l : List Gu) : lastBit l 0 = -1 := rfl
theorem last_succ (r : Re) (k : Nat) : lastBit r.guilds (k + 1) = (gu r k).bit := by
  unfold lastBit gu
  rw [if_neg (by omega), Nat.add_sub_cancel]
set_option maxHeartbeats 16000000 in
theorem guilds_any' (v0 v3 : Value) (r : Re) (w : World) (h0 : Ls w v0 r.labels) (h3 : Gs w v3 r.guilds) (_ha : r.accounts.length ≤ maxLen) :
    Calls Tryz.prog 50 #[v3, v0, .int .i64 (r.accounts.length : Int)] w fun e w' => e = .returned (.bool (okG r)) ∧ Grew w w' := by
  have HL0 := Lib.hid h0
  have HL3 := Lib.hid h3
  have HPL := Lib.hid (fun (a : La) W hg => placeL_any v0 r.labels a W (h0.grew (w' := W) hg))
  have HHB := Lib.hid (fun (b : Int) W hg => has_any' v3 r.guilds b W (h3.grew (w' := W) hg))
  obtain ⟨A0', cp0, rfl, hd1, hd2⟩ := h0.slice
  obtain ⟨A3', cp3, rfl, _⟩ := h3.slice
  have HLB := Lib.hid (Nat.le_trans hd1 hd2)
  have HLEN := Lib.hid (@okG_len r)
  have HONE := Lib.hid (fun k => @okG_one r k)
  have HBIT := Lib.hid (fun i k => @okG_bit r i k)
  have HYES := Lib.hid (@okG_yes r)
  generalize okG r = res at *
  clear h0 h3 hd1 hd2 _ha
  by_cases h8 : r.guilds.length ≤ 8
  · have h8' : ¬ (8 : Int) < (r.guilds.length : Int) := by omega
    have H8 := Lib.hid h8
    clear h8
    go_enter Tryz.func50, Tryz.ntmps50
    go_wp2
    go_loopg [7] r.guilds.length (fun g s7 wx => ∃ k : Nat, k + g = r.guilds.length ∧ s7 = .int .i64 k ∧ Hid (∀ i, i < k → gk r i = true) ∧ Hid (Grew w wx))
    case atStart => exact ⟨0, by omega, rfl, Lib.hid (fun i h => absurd h (by omega)), Lib.hid (Grew.refl _)⟩
    case round =>
      obtain ⟨k, hkg, rfl, HJ, HG⟩ := hrel
      cases gk with
      | zero =>
        have hkz : ¬ ((k : Int) < (r.guilds.length : Int)) := by omega
        have HALL : Hid (∀ i, i < r.guilds.length → RGuilds.gk r i = true) := Lib.hid fun i hi => HJ.out i (by omega)
        obtain ⟨W0, hW0⟩ : ∃ W0, W0 = wr := ⟨_, rfl⟩
        have HW0 := Lib.hid hW0
        rw [← hW0] at HG
        clear hW0
        go_wp2
        go_loopg [8, 9] r.labels.length (fun g s8 s9 wx => ∃ i : Nat, i + g = r.labels.length ∧ s8 = .int .i64 i ∧ Hid (∀ j, j < i → ∀ q, q < 64 → (RRule1.lat r.labels j).set.getLsbD q = true → hasB r.guilds (q : Int) = true) ∧ Hid (Grew w wx))
        case atStart => exact ⟨0, by omega, rfl, Lib.hid (fun i h => absurd h (by omega)), Lib.hid (by rw [← HW0.out]; exact HG.out)⟩
        case round =>
          obtain ⟨i, hig, rfl, HI, HG1⟩ := hrel
          cases gk with
          | zero =>
            have hiz : ¬ ((i : Int) < (r.labels.length : Int)) := by omega
            have HR := Lib.hid (HYES.out H8.out HALL.out fun j hj => HI.out j (by omega))
            go_wp2
            go_returns
            refine ⟨?_, HG1.out⟩
            rw [HR.out]
            try rfl
          | succ g =>
            have hiz : (i : Int) < (r.labels.length : Int) := by omega
            have hiw : wrap64 ((i : Int) + 1) = (i : Int) + 1 := by
              have := HLB.out
              unfold maxLen at this
              unfold wrap64
              omega
            obtain ⟨ad, c2, e, hc, c0, c1⟩ := Ls_at (HL0.out.grew HG1.out) (RRule1.lat_get (i := i) (by omega))
            injection e with e1 _ e3
            subst e1 e3
            have C0 := Lib.hid c0
            have C1 := Lib.hid c1
            have HBI := Lib.hid (fun q => HBIT.out i q (by omega))
            have HSS : Hid ((∀ q, q < 64 → (RRule1.lat r.labels i).set.getLsbD q = true → hasB r.guilds (q : Int) = true) → ∀ j, j < i + 1 → ∀ q, q < 64 → (RRule1.lat r.labels j).set.getLsbD q = true → hasB r.guilds (q : Int) = true) := Lib.hid fun h => upto_step (P := fun j => ∀ q, q < 64 → (RRule1.lat r.labels j).set.getLsbD q = true → hasB r.guilds (q : Int) = true) HI.out h
            generalize RRule1.lat r.labels i = x at *
            clear c0 c1
            go_wp2
            obtain ⟨W1, hW1⟩ : ∃ W1, W1 = wr := ⟨_, rfl⟩
            have HW1 := Lib.hid hW1
            rw [← hW1] at HG1 C0 C1
            clear hW1
            go_loopg [9] 64 (fun g s9 wx => ∃ q : Nat, q + g = 64 ∧ s9 = .int .i64 q ∧ Hid (∀ p, p < q → x.set.getLsbD p = true → hasB r.guilds (p : Int) = true) ∧ Hid (Grew W1 wx))
            case atStart => exact ⟨0, by omega, rfl, Lib.hid (fun i h => absurd h (by omega)), Lib.hid (by rw [HW1.out]; exact Grew.refl _)⟩
            case round =>
              obtain ⟨q, hqg, rfl, HQ, HG2⟩ := hrel
              cases gk with
              | zero =>
                have hqz : ¬ ((q : Int) < 64) := by omega
                have HS3 := Lib.hid (HSS.out fun p hp => HQ.out p (by omega))
                have HG3 := Lib.hid (HG1.out.trans HG2.out)
                go_wp2
                go_roundg g
                case measure => omega
                case rel => exact ⟨i + 1, by omega, by first | rfl | simp [hiw], HS3, HG3⟩
              | succ g2 =>
                have hqz : (q : Int) < 64 := n1 hqg
                have hq64 : q < 64 := n2 hqg
                have hqw : wrap64 ((q : Int) + 1) = (q : Int) + 1 := n3 hqz
                have HQG := Lib.hid hqg
                clear hqg hig hkg
                have c0 := cellB HG2.out C0.out
                have c1 := cellB HG2.out C1.out
                have HHS := Lib.hid (fun W => LRefs.has_any x.lev x.set q hq64 W)
                have HHG := Lib.hid (fun W hg => HHB.out (q : Int) W hg)
                have HQN : Hid ((x.set.getLsbD q = true → hasB r.guilds (q : Int) = true) → ∀ p, p < q + 1 → x.set.getLsbD p = true → hasB r.guilds (p : Int) = true) := Lib.hid fun h => upto_step (P := fun p => x.set.getLsbD p = true → hasB r.guilds (p : Int) = true) HQ.out h
                have HBN := Lib.hid (HBI.out q hq64)
                clear hq64
                generalize x.set.getLsbD q = bs at *
                generalize hasB r.guilds (q : Int) = bh at *
                go_wp2_with fail
                refine (HHS.out _).mono ?_
                rintro e w3 ⟨rfl, hg⟩
                have G3 := Lib.hid (HG2.out.trans hg)
                clear hg c0 c1
                cases bs with
                | false =>
                  have HS4 := Lib.hid (HQN.out (fun h => by simp at h))
                  go_wp2
                  go_roundg g2
                  case measure => exact Nat.lt_succ_self _
                  case rel => exact ⟨q + 1, n4 HQG.out, by first | rfl | simp [hqw], HS4, G3⟩
                | true =>
                  go_wp2_with fail
                  refine (HHG.out _ (HG1.out.trans G3.out)).mono ?_
                  rintro e w4 ⟨rfl, hg⟩
                  have G4 := Lib.hid (G3.out.trans hg)
                  clear hg
                  cases bh with
                  | false =>
                    have HR := Lib.hid (HBN.out (by first | rfl | trivial) (by first | rfl | trivial))
                    have G5 := Lib.hid (HG1.out.trans G4.out)
                    go_wp2
                    go_returns
                    refine ⟨?_, G5.out⟩
                    rw [HR.out]
                    try rfl
                  | true =>
                    have HS4 := Lib.hid (HQN.out (fun _ => by first | rfl | trivial))
                    go_wp2
                    go_roundg g2
                    case measure => exact Nat.lt_succ_self _
                    case rel => exact ⟨q + 1, n4 HQG.out, by first | rfl | simp [hqw], HS4, G4⟩
      | succ g =>
        have hkz : (k : Int) < (r.guilds.length : Int) := by omega
        cases k with
        | zero =>
          have hkl : 0 < r.guilds.length := by omega
          obtain ⟨ad, c2, e, hc, c0, c1⟩ := Gs_at (HL3.out.grew HG.out) (gu_get (k := 0) hkl)
          injection e with e1 _ e3
          subst e1 e3
          have C0 := Lib.hid (show wr.cell? ad = _ by simpa [Addr.add] using c0)
          have C1 := Lib.hid (show wr.cell? ⟨ad.block, ad.off + 1, none⟩ = _ by simpa [Addr.add] using c1)
          have HO := Lib.hid (HONE.out 0 hkl)
          have HNO := Lib.hid (@gk_no r 0 hkl)
          have HYS := Lib.hid (@gk_yes r 0 hkl)
          have HSS : Hid (RGuilds.gk r 0 = true → ∀ i, i < 0 + 1 → RGuilds.gk r i = true) := Lib.hid fun q => upto_step (P := fun i => RGuilds.gk r i = true) HJ.out q
          have hb8 : (r.guilds.length : Int) ≤ 8 := by have := H8.out; omega
          have hkw : wrap64 ((0 : Int) + 1) = 1 := by unfold wrap64; omega
          have hpos : (0 : Int) < (r.guilds.length : Int) := by omega
          rw [last_zero r.guilds] at HNO HYS
          clear c0 c1 hkl hb8
          generalize gu r 0 = x at *
          generalize RGuilds.gk r 0 = bk at *
          obtain ⟨bit, fo⟩ := x
          simp only at C0 C1
          have HKG := Lib.hid hkg
          clear hkg
          by_cases q1 : bit < 0
          · have HR := Lib.hid (HO.out (HNO.out (.inl (by simp only; omega))))
            go_wp2
            refine Facts.wp_region_text (by kernel_rfl) (by kernel_rfl) ?_
            apply Facts.Lex.exact [] _ (by kernel_rfl)
            · intro u W hC _
              unfold Facts.one
              go_simp
              first | exact ⟨Grew.refl _, rfl⟩ | rfl
            simp only [Act.put, List.setIfInBounds_toArray, List.set_cons_zero, List.set_cons_succ, Nat.zero_add]
            apply Facts.Lex.exact [] _ (by kernel_rfl)
            · intro u W hC _
              unfold Facts.one
              go_simp
              first | exact ⟨Grew.refl _, rfl⟩ | rfl
            simp only [Act.put, List.setIfInBounds_toArray, List.set_cons_zero, List.set_cons_succ, Nat.reduceAdd]
            apply Facts.Lex.exact [] _ (by kernel_rfl)
            · intro u W hC _
              unfold Facts.one
              go_simp
              first | exact ⟨Grew.refl _, rfl⟩ | rfl
            simp only [Act.put, List.setIfInBounds_toArray, List.set_cons_zero, List.set_cons_succ, Nat.reduceAdd]
            apply Facts.Lex.exact [] _ (by kernel_rfl)
            · intro u W hC _
              unfold Facts.one
              go_simp
              first | exact ⟨Grew.refl _, rfl⟩ | rfl
            simp only [Act.put, List.setIfInBounds_toArray, List.set_cons_zero, List.set_cons_succ, Nat.reduceAdd]
            apply Facts.Lex.exact [] _ (by kernel_rfl)
            · intro u W hC _
              have c0 := cellB hC C0.out
              unfold Facts.one
              go_simp
              first | exact ⟨Grew.refl _, rfl⟩ | rfl
            simp only [Act.put, List.setIfInBounds_toArray, List.set_cons_zero, List.set_cons_succ, Nat.reduceAdd]
            apply Facts.Lex.exact [] _ (by kernel_rfl)
            · intro u W hC _
              unfold Facts.one
              go_simp
              first | exact ⟨Grew.refl _, rfl⟩ | rfl
            simp only [Act.put, List.setIfInBounds_toArray, List.set_cons_zero, List.set_cons_succ, Nat.reduceAdd]
            apply Facts.Lex.exact [] _ (by kernel_rfl)
            · intro u W hC _
              unfold Facts.one
              go_simp
              first | exact ⟨Grew.refl _, rfl⟩ | rfl
            simp only [Act.put, List.setIfInBounds_toArray, List.set_cons_zero, List.set_cons_succ, Nat.reduceAdd]
            apply Facts.Lex.exact [] _ (by kernel_rfl)
            · intro u W hC _
              unfold Facts.one
              go_simp
              first | exact ⟨Grew.refl _, rfl⟩ | rfl
            simp only [Act.put, List.setIfInBounds_toArray, List.set_cons_zero, List.set_cons_succ, Nat.reduceAdd]
            apply Facts.Lex.exact [] _ (by kernel_rfl)
            · intro u W hC _
              unfold Facts.one
              go_simp
              first | exact ⟨Grew.refl _, rfl⟩ | rfl
            simp only [Act.put, List.setIfInBounds_toArray, List.set_cons_zero, List.set_cons_succ, Nat.reduceAdd]
            apply Facts.Lex.exact [] _ (by kernel_rfl)
            · intro u W hC _
              unfold Facts.one
              go_simp
              first | exact ⟨Grew.refl _, rfl⟩ | rfl
            simp only [Act.put, List.setIfInBounds_toArray, List.set_cons_zero, List.set_cons_succ, Nat.reduceAdd]
            apply Facts.Lex.exact [] _ (by kernel_rfl)
            · intro u W hC _
              unfold Facts.one
              go_simp
              first | exact ⟨Grew.refl _, rfl⟩ | rfl
            simp only [Act.put, List.setIfInBounds_toArray, List.set_cons_zero, List.set_cons_succ, Nat.reduceAdd]
            apply Facts.Lex.exact [] _ (by kernel_rfl)
            · intro u W hC _
              have c0 := cellB hC C0.out
              unfold Facts.one
              go_simp
              first | exact ⟨Grew.refl _, rfl⟩ | rfl
            simp only [Act.put, List.setIfInBounds_toArray, List.set_cons_zero, List.set_cons_succ, Nat.reduceAdd]
            apply Facts.Lex.exact [] _ (by kernel_rfl)
            · intro u W hC _
              unfold Facts.one
              go_simp
              first | exact ⟨Grew.refl _, rfl⟩ | rfl
            simp only [Act.put, List.setIfInBounds_toArray, List.set_cons_zero, List.set_cons_succ, Nat.reduceAdd]
            apply Facts.Lex.exact [] _ (by kernel_rfl)
            · intro u W hC _
              unfold Facts.one
              go_simp
              first | exact ⟨Grew.refl _, rfl⟩ | rfl
            simp only [Act.put, List.setIfInBounds_toArray, List.set_cons_zero, List.set_cons_succ, Nat.reduceAdd]
            apply Facts.Lex.exact [] _ (by kernel_rfl)
            · intro u W hC _
              unfold Facts.one
              go_simp
              first | exact ⟨Grew.refl _, rfl⟩ | rfl
            simp only [Act.put, List.setIfInBounds_toArray, List.set_cons_zero, List.set_cons_succ, Nat.reduceAdd]
            apply Facts.Lex.exact [] _ (by kernel_rfl)
            · intro u W hC _
              unfold Facts.one
              go_simp
              first | exact ⟨Grew.refl _, rfl⟩ | rfl
            simp only [Act.put, List.setIfInBounds_toArray, List.set_cons_zero, List.set_cons_succ, Nat.reduceAdd]
            apply Facts.Lex.exact [] _ (by kernel_rfl)
            · intro u W hC _
              unfold Facts.one
              go_simp
              first | exact ⟨Grew.refl _, rfl⟩ | rfl
            simp only [Act.put, List.setIfInBounds_toArray, List.set_cons_zero, List.set_cons_succ, Nat.reduceAdd]
            apply Facts.Lex.exact [] _ (by kernel_rfl)
            · intro u W hC _
              unfold Facts.one
              go_simp
              first | exact ⟨Grew.refl _, rfl⟩ | rfl
            simp only [Act.put, List.setIfInBounds_toArray, List.set_cons_zero, List.set_cons_succ, Nat.reduceAdd]
            apply Facts.Lex.exact [] _ (by kernel_rfl)
            · intro u W hC _
              unfold Facts.one
              go_simp
              first | exact ⟨Grew.refl _, rfl⟩ | rfl
            simp only [Act.put, List.setIfInBounds_toArray, List.set_cons_zero, List.set_cons_succ, Nat.reduceAdd]
            apply Facts.Lex.exact [] _ (by kernel_rfl)
            · intro u W hC _
              have c1 := cellB hC C1.out
              unfold Facts.one
              go_simp
              first | exact ⟨Grew.refl _, rfl⟩ | rfl
            simp only [Act.put, List.setIfInBounds_toArray, List.set_cons_zero, List.set_cons_succ, Nat.reduceAdd]
            apply Facts.Lex.exact [] _ (by kernel_rfl)
            · intro u W hC _
              unfold Facts.one
              go_simp
              first | exact ⟨Grew.refl _, rfl⟩ | rfl
            simp only [Act.put, List.setIfInBounds_toArray, List.set_cons_zero, List.set_cons_succ, Nat.reduceAdd]
            apply Facts.Lex.exact [] _ (by kernel_rfl)
            · intro u W hC _
              unfold Facts.one
              go_simp
              first | exact ⟨Grew.refl _, rfl⟩ | rfl
            simp only [Act.put, List.setIfInBounds_toArray, List.set_cons_zero, List.set_cons_succ, Nat.reduceAdd]
            apply Facts.Lex.exact [] _ (by kernel_rfl)
            · intro u W hC _
              unfold Facts.one
              go_simp
              first | exact ⟨Grew.refl _, rfl⟩ | rfl
            simp only [Act.put, List.setIfInBounds_toArray, List.set_cons_zero, List.set_cons_succ, Nat.reduceAdd]
            apply Facts.Lex.exact [] _ (by kernel_rfl)
            · intro u W hC _
              unfold Facts.one
              go_simp
              first | exact ⟨Grew.refl _, rfl⟩ | rfl
            simp only [Act.put, List.setIfInBounds_toArray, List.set_cons_zero, List.set_cons_succ, Nat.reduceAdd]
            apply Facts.Lex.exact [] _ (by kernel_rfl)
            · intro u W hC _
              unfold Facts.one
              go_simp
              first | exact ⟨Grew.refl _, rfl⟩ | rfl
            simp only [Act.put, List.setIfInBounds_toArray, List.set_cons_zero, List.set_cons_succ, Nat.reduceAdd]
            apply Facts.Lex.exact [] _ (by kernel_rfl)
            · intro u W hC _
              unfold Facts.one
              go_simp
              first | exact ⟨Grew.refl _, rfl⟩ | rfl
            simp only [Act.put, List.setIfInBounds_toArray, List.set_cons_zero, List.set_cons_succ, Nat.reduceAdd]
            apply Facts.Lex.exact [] _ (by kernel_rfl)
            · intro u W hC _
              unfold Facts.one
              go_simp
              first | exact ⟨Grew.refl _, rfl⟩ | rfl
            simp only [Act.put, List.setIfInBounds_toArray, List.set_cons_zero, List.set_cons_succ, Nat.reduceAdd]
            apply Facts.Lex.exact [] _ (by kernel_rfl)
            · intro u W hC _
              have c1 := cellB hC C1.out
              unfold Facts.one
              go_simp
              first | exact ⟨Grew.refl _, rfl⟩ | rfl
            simp only [Act.put, List.setIfInBounds_toArray, List.set_cons_zero, List.set_cons_succ, Nat.reduceAdd]
            apply Facts.Lex.exact [] _ (by kernel_rfl)
            · intro u W hC _
              unfold Facts.one
              go_simp
              first | exact ⟨Grew.refl _, rfl⟩ | rfl
            simp only [Act.put, List.setIfInBounds_toArray, List.set_cons_zero, List.set_cons_succ, Nat.reduceAdd]
            apply Facts.Lex.exact [] _ (by kernel_rfl)
            · intro u W hC _
              unfold Facts.one
              go_simp
              first | exact ⟨Grew.refl _, rfl⟩ | rfl
            simp only [Act.put, List.setIfInBounds_toArray, List.set_cons_zero, List.set_cons_succ, Nat.reduceAdd]
            apply Facts.Lex.exact [] _ (by kernel_rfl)
            · intro u W hC _
              unfold Facts.one
              go_simp
              first | exact ⟨Grew.refl _, rfl⟩ | rfl
            simp only [Act.put, List.setIfInBounds_toArray, List.set_cons_zero, List.set_cons_succ, Nat.reduceAdd]
            apply Facts.Lex.exact [] _ (by kernel_rfl)
            · intro u W hC _
              unfold Facts.one
              go_simp
              first | exact ⟨Grew.refl _, rfl⟩ | rfl
            simp only [Act.put, List.setIfInBounds_toArray, List.set_cons_zero, List.set_cons_succ, Nat.reduceAdd]
            apply Facts.Lex.exact [] _ (by kernel_rfl)
            · intro u W hC _
              unfold Facts.one
              go_simp
              first | exact ⟨Grew.refl _, rfl⟩ | rfl
            simp only [Act.put, List.setIfInBounds_toArray, List.set_cons_zero, List.set_cons_succ, Nat.reduceAdd]
            apply Facts.Lex.exact [] _ (by kernel_rfl)
            · intro u W hC _
              unfold Facts.one
              go_simp
              first | exact ⟨Grew.refl _, rfl⟩ | rfl
            simp only [Act.put, List.setIfInBounds_toArray, List.set_cons_zero, List.set_cons_succ, Nat.reduceAdd]
            apply Facts.Lex.exact [] _ (by kernel_rfl)
            · intro u W hC _
              unfold Facts.one
              go_simp
              first | exact ⟨Grew.refl _, rfl⟩ | rfl
            simp only [Act.put, List.setIfInBounds_toArray, List.set_cons_zero, List.set_cons_succ, Nat.reduceAdd]
            apply Facts.Lex.exact [] _ (by kernel_rfl)
            · intro u W hC _
              unfold Facts.one
              go_simp
              first | exact ⟨Grew.refl _, rfl⟩ | rfl
            simp only [Act.put, List.setIfInBounds_toArray, List.set_cons_zero, List.set_cons_succ, Nat.reduceAdd]
            apply Facts.Lex.exact [] _ (by kernel_rfl)
            · intro u W hC _
              unfold Facts.one
              go_simp
              first | exact ⟨Grew.refl _, rfl⟩ | rfl
            simp only [Act.put, List.setIfInBounds_toArray, List.set_cons_zero, List.set_cons_succ, Nat.reduceAdd]
            apply Facts.Lex.exact [] _ (by kernel_rfl)
            · intro u W hC _
              unfold Facts.one
              go_simp
              first | exact ⟨Grew.refl _, rfl⟩ | rfl
            simp only [Act.put, List.setIfInBounds_toArray, List.set_cons_zero, List.set_cons_succ, Nat.reduceAdd]
            apply Facts.Lex.exact [] _ (by kernel_rfl)
            · intro u W hC _
              unfold Facts.one
              go_simp
              first | exact ⟨Grew.refl _, rfl⟩ | rfl
            simp only [Act.put, List.setIfInBounds_toArray, List.set_cons_zero, List.set_cons_succ, Nat.reduceAdd]
            apply Facts.Lex.exact [] _ (by kernel_rfl)
            · intro u W hC _
              unfold Facts.one
              go_simp
              first | exact ⟨Grew.refl _, rfl⟩ | rfl
            simp only [Act.put, List.setIfInBounds_toArray, List.set_cons_zero, List.set_cons_succ, Nat.reduceAdd]
            apply Facts.Lex.exact [] _ (by kernel_rfl)
            · intro u W hC _
              unfold Facts.one
              go_simp
              first | exact ⟨Grew.refl _, rfl⟩ | rfl
            simp only [Act.put, List.setIfInBounds_toArray, List.set_cons_zero, List.set_cons_succ, Nat.reduceAdd]
            apply Facts.Lex.exact [] _ (by kernel_rfl)
            · intro u W hC _
              unfold Facts.one
              go_simp
              first | exact ⟨Grew.refl _, rfl⟩ | rfl
            simp only [Act.put, List.setIfInBounds_toArray, List.set_cons_zero, List.set_cons_succ, Nat.reduceAdd]
            apply Facts.Lex.exact [] _ (by kernel_rfl)
            · intro u W hC _
              unfold Facts.one
              go_simp
              first | exact ⟨Grew.refl _, rfl⟩ | rfl
            simp only [Act.put, List.setIfInBounds_toArray, List.set_cons_zero, List.set_cons_succ, Nat.reduceAdd]
            apply Facts.Lex.exact [] _ (by kernel_rfl)
            · intro u W hC _
              unfold Facts.one
              go_simp
              first | exact ⟨Grew.refl _, rfl⟩ | rfl
            simp only [Act.put, List.setIfInBounds_toArray, List.set_cons_zero, List.set_cons_succ, Nat.reduceAdd]
            apply Facts.Lex.exact [] _ (by kernel_rfl)
            · intro u W hC _
              unfold Facts.one
              go_simp
              first | exact ⟨Grew.refl _, rfl⟩ | rfl
            simp only [Act.put, List.setIfInBounds_toArray, List.set_cons_zero, List.set_cons_succ, Nat.reduceAdd]
            apply Facts.Lex.exact [] _ (by kernel_rfl)
            · intro u W hC _
              unfold Facts.one
              go_simp
              first | exact ⟨Grew.refl _, rfl⟩ | rfl
            simp only [Act.put, List.setIfInBounds_toArray, List.set_cons_zero, List.set_cons_succ, Nat.reduceAdd]
            apply Facts.Lex.exact [] _ (by kernel_rfl)
            · intro u W hC _
              unfold Facts.one
              go_simp
              first | exact ⟨Grew.refl _, rfl⟩ | rfl
            simp only [Act.put, List.setIfInBounds_toArray, List.set_cons_zero, List.set_cons_succ, Nat.reduceAdd]
            apply Facts.Lex.exact [] _ (by kernel_rfl)
            · intro u W hC _
              unfold Facts.one
              go_simp
              first | exact ⟨Grew.refl _, rfl⟩ | rfl
            simp only [Act.put, List.setIfInBounds_toArray, List.set_cons_zero, List.set_cons_succ, Nat.reduceAdd]
            apply Facts.Lex.exact [] _ (by kernel_rfl)
            · intro u W hC _
              unfold Facts.one
              go_simp
              first | exact ⟨Grew.refl _, rfl⟩ | rfl
            simp only [Act.put, List.setIfInBounds_toArray, List.set_cons_zero, List.set_cons_succ, Nat.reduceAdd]
            refine Facts.Lex.done fun u W2 hC hL => ?_
            have G2 := Lib.hid (HG.out.trans hC)
            clear hC hL
            go_wp2
            go_returns
            refine ⟨?_, G2.out⟩
            rw [HR.out]
            try rfl
          · by_cases q2 : 63 < bit
            · have HR := Lib.hid (HO.out (HNO.out (.inr (.inl (by simp only; omega)))))
              go_wp2
              refine Facts.wp_region_text (by kernel_rfl) (by kernel_rfl) ?_
              apply Facts.Lex.exact [] _ (by kernel_rfl)
              · intro u W hC _
                unfold Facts.one
                go_simp
                first | exact ⟨Grew.refl _, rfl⟩ | rfl
              simp only [Act.put, List.setIfInBounds_toArray, List.set_cons_zero, List.set_cons_succ, Nat.zero_add]
              apply Facts.Lex.exact [] _ (by kernel_rfl)
              · intro u W hC _
                unfold Facts.one
                go_simp
                first | exact ⟨Grew.refl _, rfl⟩ | rfl
              simp only [Act.put, List.setIfInBounds_toArray, List.set_cons_zero, List.set_cons_succ, Nat.reduceAdd]
              apply Facts.Lex.exact [] _ (by kernel_rfl)
              · intro u W hC _
                unfold Facts.one
                go_simp
                first | exact ⟨Grew.refl _, rfl⟩ | rfl
              simp only [Act.put, List.setIfInBounds_toArray, List.set_cons_zero, List.set_cons_succ, Nat.reduceAdd]
              apply Facts.Lex.exact [] _ (by kernel_rfl)
              · intro u W hC _
                unfold Facts.one
                go_simp
                first | exact ⟨Grew.refl _, rfl⟩ | rfl
              simp only [Act.put, List.setIfInBounds_toArray, List.set_cons_zero, List.set_cons_succ, Nat.reduceAdd]
              apply Facts.Lex.exact [] _ (by kernel_rfl)
              · intro u W hC _
                have c0 := cellB hC C0.out
                unfold Facts.one
                go_simp
                first | exact ⟨Grew.refl _, rfl⟩ | rfl
              simp only [Act.put, List.setIfInBounds_toArray, List.set_cons_zero, List.set_cons_succ, Nat.reduceAdd]
              apply Facts.Lex.exact [] _ (by kernel_rfl)
              · intro u W hC _
                unfold Facts.one
                go_simp
                first | exact ⟨Grew.refl _, rfl⟩ | rfl
              simp only [Act.put, List.setIfInBounds_toArray, List.set_cons_zero, List.set_cons_succ, Nat.reduceAdd]
              apply Facts.Lex.exact [] _ (by kernel_rfl)
              · intro u W hC _
                unfold Facts.one
                go_simp
                first | exact ⟨Grew.refl _, rfl⟩ | rfl
              simp only [Act.put, List.setIfInBounds_toArray, List.set_cons_zero, List.set_cons_succ, Nat.reduceAdd]
              apply Facts.Lex.exact [] _ (by kernel_rfl)
              · intro u W hC _
                unfold Facts.one
                go_simp
                first | exact ⟨Grew.refl _, rfl⟩ | rfl
              simp only [Act.put, List.setIfInBounds_toArray, List.set_cons_zero, List.set_cons_succ, Nat.reduceAdd]
              apply Facts.Lex.exact [] _ (by kernel_rfl)
              · intro u W hC _
                unfold Facts.one
                go_simp
                first | exact ⟨Grew.refl _, rfl⟩ | rfl
              simp only [Act.put, List.setIfInBounds_toArray, List.set_cons_zero, List.set_cons_succ, Nat.reduceAdd]
              apply Facts.Lex.exact [] _ (by kernel_rfl)
              · intro u W hC _
                unfold Facts.one
                go_simp
                first | exact ⟨Grew.refl _, rfl⟩ | rfl
              simp only [Act.put, List.setIfInBounds_toArray, List.set_cons_zero, List.set_cons_succ, Nat.reduceAdd]
              apply Facts.Lex.exact [] _ (by kernel_rfl)
              · intro u W hC _
                unfold Facts.one
                go_simp
                first | exact ⟨Grew.refl _, rfl⟩ | rfl
              simp only [Act.put, List.setIfInBounds_toArray, List.set_cons_zero, List.set_cons_succ, Nat.reduceAdd]
              apply Facts.Lex.exact [] _ (by kernel_rfl)
              · intro u W hC _
                have c0 := cellB hC C0.out
                unfold Facts.one
                go_simp
                first | exact ⟨Grew.refl _, rfl⟩ | rfl
              simp only [Act.put, List.setIfInBounds_toArray, List.set_cons_zero, List.set_cons_succ, Nat.reduceAdd]
              apply Facts.Lex.exact [] _ (by kernel_rfl)
              · intro u W hC _
                unfold Facts.one
                go_simp
                first | exact ⟨Grew.refl _, rfl⟩ | rfl
              simp only [Act.put, List.setIfInBounds_toArray, List.set_cons_zero, List.set_cons_succ, Nat.reduceAdd]
              apply Facts.Lex.exact [] _ (by kernel_rfl)
              · intro u W hC _
                unfold Facts.one
                go_simp
                first | exact ⟨Grew.refl _, rfl⟩ | rfl
              simp only [Act.put, List.setIfInBounds_toArray, List.set_cons_zero, List.set_cons_succ, Nat.reduceAdd]
              apply Facts.Lex.exact [] _ (by kernel_rfl)
              · intro u W hC _
                unfold Facts.one
                go_simp
                first | exact ⟨Grew.refl _, rfl⟩ | rfl
              simp only [Act.put, List.setIfInBounds_toArray, List.set_cons_zero, List.set_cons_succ, Nat.reduceAdd]
              apply Facts.Lex.exact [] _ (by kernel_rfl)
              · intro u W hC _
                unfold Facts.one
                go_simp
                first | exact ⟨Grew.refl _, rfl⟩ | rfl
              simp only [Act.put, List.setIfInBounds_toArray, List.set_cons_zero, List.set_cons_succ, Nat.reduceAdd]
              apply Facts.Lex.exact [] _ (by kernel_rfl)
              · intro u W hC _
                unfold Facts.one
                go_simp
                first | exact ⟨Grew.refl _, rfl⟩ | rfl
              simp only [Act.put, List.setIfInBounds_toArray, List.set_cons_zero, List.set_cons_succ, Nat.reduceAdd]
              apply Facts.Lex.exact [] _ (by kernel_rfl)
              · intro u W hC _
                unfold Facts.one
                go_simp
                first | exact ⟨Grew.refl _, rfl⟩ | rfl
              simp only [Act.put, List.setIfInBounds_toArray, List.set_cons_zero, List.set_cons_succ, Nat.reduceAdd]
              apply Facts.Lex.exact [] _ (by kernel_rfl)
              · intro u W hC _
                unfold Facts.one
                go_simp
                first | exact ⟨Grew.refl _, rfl⟩ | rfl
              simp only [Act.put, List.setIfInBounds_toArray, List.set_cons_zero, List.set_cons_succ, Nat.reduceAdd]
              apply Facts.Lex.exact [] _ (by kernel_rfl)
              · intro u W hC _
                have c1 := cellB hC C1.out
                unfold Facts.one
                go_simp
                first | exact ⟨Grew.refl _, rfl⟩ | rfl
              simp only [Act.put, List.setIfInBounds_toArray, List.set_cons_zero, List.set_cons_succ, Nat.reduceAdd]
              apply Facts.Lex.exact [] _ (by kernel_rfl)
              · intro u W hC _
                unfold Facts.one
                go_simp
                first | exact ⟨Grew.refl _, rfl⟩ | rfl
              simp only [Act.put, List.setIfInBounds_toArray, List.set_cons_zero, List.set_cons_succ, Nat.reduceAdd]
              apply Facts.Lex.exact [] _ (by kernel_rfl)
              · intro u W hC _
                unfold Facts.one
                go_simp
                first | exact ⟨Grew.refl _, rfl⟩ | rfl
              simp only [Act.put, List.setIfInBounds_toArray, List.set_cons_zero, List.set_cons_succ, Nat.reduceAdd]
              apply Facts.Lex.exact [] _ (by kernel_rfl)
              · intro u W hC _
                unfold Facts.one
                go_simp
                first | exact ⟨Grew.refl _, rfl⟩ | rfl
              simp only [Act.put, List.setIfInBounds_toArray, List.set_cons_zero, List.set_cons_succ, Nat.reduceAdd]
              apply Facts.Lex.exact [] _ (by kernel_rfl)
              · intro u W hC _
                unfold Facts.one
                go_simp
                first | exact ⟨Grew.refl _, rfl⟩ | rfl
              simp only [Act.put, List.setIfInBounds_toArray, List.set_cons_zero, List.set_cons_succ, Nat.reduceAdd]
              apply Facts.Lex.exact [] _ (by kernel_rfl)
              · intro u W hC _
                unfold Facts.one
                go_simp
                first | exact ⟨Grew.refl _, rfl⟩ | rfl
              simp only [Act.put, List.setIfInBounds_toArray, List.set_cons_zero, List.set_cons_succ, Nat.reduceAdd]
              apply Facts.Lex.exact [] _ (by kernel_rfl)
              · intro u W hC _
                unfold Facts.one
                go_simp
                first | exact ⟨Grew.refl _, rfl⟩ | rfl
              simp only [Act.put, List.setIfInBounds_toArray, List.set_cons_zero, List.set_cons_succ, Nat.reduceAdd]
              apply Facts.Lex.exact [] _ (by kernel_rfl)
              · intro u W hC _
                unfold Facts.one
                go_simp
                first | exact ⟨Grew.refl _, rfl⟩ | rfl
              simp only [Act.put, List.setIfInBounds_toArray, List.set_cons_zero, List.set_cons_succ, Nat.reduceAdd]
              apply Facts.Lex.exact [] _ (by kernel_rfl)
              · intro u W hC _
                have c1 := cellB hC C1.out
                unfold Facts.one
                go_simp
                first | exact ⟨Grew.refl _, rfl⟩ | rfl
              simp only [Act.put, List.setIfInBounds_toArray, List.set_cons_zero, List.set_cons_succ, Nat.reduceAdd]
              apply Facts.Lex.exact [] _ (by kernel_rfl)
              · intro u W hC _
                unfold Facts.one
                go_simp
                first | exact ⟨Grew.refl _, rfl⟩ | rfl
              simp only [Act.put, List.setIfInBounds_toArray, List.set_cons_zero, List.set_cons_succ, Nat.reduceAdd]
              apply Facts.Lex.exact [] _ (by kernel_rfl)
              · intro u W hC _
                unfold Facts.one
                go_simp
                first | exact ⟨Grew.refl _, rfl⟩ | rfl
              simp only [Act.put, List.setIfInBounds_toArray, List.set_cons_zero, List.set_cons_succ, Nat.reduceAdd]
              apply Facts.Lex.exact [] _ (by kernel_rfl)
              · intro u W hC _
                unfold Facts.one
                go_simp
                first | exact ⟨Grew.refl _, rfl⟩ | rfl
              simp only [Act.put, List.setIfInBounds_toArray, List.set_cons_zero, List.set_cons_succ, Nat.reduceAdd]
              apply Facts.Lex.exact [] _ (by kernel_rfl)
              · intro u W hC _
                unfold Facts.one
                go_simp
                first | exact ⟨Grew.refl _, rfl⟩ | rfl
              simp only [Act.put, List.setIfInBounds_toArray, List.set_cons_zero, List.set_cons_succ, Nat.reduceAdd]
              apply Facts.Lex.exact [] _ (by kernel_rfl)
              · intro u W hC _
                unfold Facts.one
                go_simp
                first | exact ⟨Grew.refl _, rfl⟩ | rfl
              simp only [Act.put, List.setIfInBounds_toArray, List.set_cons_zero, List.set_cons_succ, Nat.reduceAdd]
              apply Facts.Lex.exact [] _ (by kernel_rfl)
              · intro u W hC _
                unfold Facts.one
                go_simp
                first | exact ⟨Grew.refl _, rfl⟩ | rfl
              simp only [Act.put, List.setIfInBounds_toArray, List.set_cons_zero, List.set_cons_succ, Nat.reduceAdd]
              apply Facts.Lex.exact [] _ (by kernel_rfl)
              · intro u W hC _
                unfold Facts.one
                go_simp
                first | exact ⟨Grew.refl _, rfl⟩ | rfl
              simp only [Act.put, List.setIfInBounds_toArray, List.set_cons_zero, List.set_cons_succ, Nat.reduceAdd]
              apply Facts.Lex.exact [] _ (by kernel_rfl)
              · intro u W hC _
                unfold Facts.one
                go_simp
                first | exact ⟨Grew.refl _, rfl⟩ | rfl
              simp only [Act.put, List.setIfInBounds_toArray, List.set_cons_zero, List.set_cons_succ, Nat.reduceAdd]
              apply Facts.Lex.exact [] _ (by kernel_rfl)
              · intro u W hC _
                unfold Facts.one
                go_simp
                first | exact ⟨Grew.refl _, rfl⟩ | rfl
              simp only [Act.put, List.setIfInBounds_toArray, List.set_cons_zero, List.set_cons_succ, Nat.reduceAdd]
              apply Facts.Lex.exact [] _ (by kernel_rfl)
              · intro u W hC _
                unfold Facts.one
                go_simp
                first | exact ⟨Grew.refl _, rfl⟩ | rfl
              simp only [Act.put, List.setIfInBounds_toArray, List.set_cons_zero, List.set_cons_succ, Nat.reduceAdd]
              apply Facts.Lex.exact [] _ (by kernel_rfl)
              · intro u W hC _
                unfold Facts.one
                go_simp
                first | exact ⟨Grew.refl _, rfl⟩ | rfl
              simp only [Act.put, List.setIfInBounds_toArray, List.set_cons_zero, List.set_cons_succ, Nat.reduceAdd]
              apply Facts.Lex.exact [] _ (by kernel_rfl)
              · intro u W hC _
                unfold Facts.one
                go_simp
                first | exact ⟨Grew.refl _, rfl⟩ | rfl
              simp only [Act.put, List.setIfInBounds_toArray, List.set_cons_zero, List.set_cons_succ, Nat.reduceAdd]
              apply Facts.Lex.exact [] _ (by kernel_rfl)
              · intro u W hC _
                unfold Facts.one
                go_simp
                first | exact ⟨Grew.refl _, rfl⟩ | rfl
              simp only [Act.put, List.setIfInBounds_toArray, List.set_cons_zero, List.set_cons_succ, Nat.reduceAdd]
              apply Facts.Lex.exact [] _ (by kernel_rfl)
              · intro u W hC _
                unfold Facts.one
                go_simp
                first | exact ⟨Grew.refl _, rfl⟩ | rfl
              simp only [Act.put, List.setIfInBounds_toArray, List.set_cons_zero, List.set_cons_succ, Nat.reduceAdd]
              apply Facts.Lex.exact [] _ (by kernel_rfl)
              · intro u W hC _
                unfold Facts.one
                go_simp
                first | exact ⟨Grew.refl _, rfl⟩ | rfl
              simp only [Act.put, List.setIfInBounds_toArray, List.set_cons_zero, List.set_cons_succ, Nat.reduceAdd]
              apply Facts.Lex.exact [] _ (by kernel_rfl)
              · intro u W hC _
                unfold Facts.one
                go_simp
                first | exact ⟨Grew.refl _, rfl⟩ | rfl
              simp only [Act.put, List.setIfInBounds_toArray, List.set_cons_zero, List.set_cons_succ, Nat.reduceAdd]
              apply Facts.Lex.exact [] _ (by kernel_rfl)
              · intro u W hC _
                unfold Facts.one
                go_simp
                first | exact ⟨Grew.refl _, rfl⟩ | rfl
              simp only [Act.put, List.setIfInBounds_toArray, List.set_cons_zero, List.set_cons_succ, Nat.reduceAdd]
              apply Facts.Lex.exact [] _ (by kernel_rfl)
              · intro u W hC _
                unfold Facts.one
                go_simp
                first | exact ⟨Grew.refl _, rfl⟩ | rfl
              simp only [Act.put, List.setIfInBounds_toArray, List.set_cons_zero, List.set_cons_succ, Nat.reduceAdd]
              apply Facts.Lex.exact [] _ (by kernel_rfl)
              · intro u W hC _
                unfold Facts.one
                go_simp
                first | exact ⟨Grew.refl _, rfl⟩ | rfl
              simp only [Act.put, List.setIfInBounds_toArray, List.set_cons_zero, List.set_cons_succ, Nat.reduceAdd]
              apply Facts.Lex.exact [] _ (by kernel_rfl)
              · intro u W hC _
                unfold Facts.one
                go_simp
                first | exact ⟨Grew.refl _, rfl⟩ | rfl
              simp only [Act.put, List.setIfInBounds_toArray, List.set_cons_zero, List.set_cons_succ, Nat.reduceAdd]
              apply Facts.Lex.exact [] _ (by kernel_rfl)
              · intro u W hC _
                unfold Facts.one
                go_simp
                first | exact ⟨Grew.refl _, rfl⟩ | rfl
              simp only [Act.put, List.setIfInBounds_toArray, List.set_cons_zero, List.set_cons_succ, Nat.reduceAdd]
              refine Facts.Lex.done fun u W2 hC hL => ?_
              have G2 := Lib.hid (HG.out.trans hC)
              clear hC hL
              go_wp2
              go_returns
              refine ⟨?_, G2.out⟩
              rw [HR.out]
              try rfl
            · by_cases q3 : fo < 0
              · have HR := Lib.hid (HO.out (HNO.out (.inr (.inr (.inl (by simp only; omega))))))
                go_wp2
                refine Facts.wp_region_text (by kernel_rfl) (by kernel_rfl) ?_
                apply Facts.Lex.exact [] _ (by kernel_rfl)
                · intro u W hC _
                  unfold Facts.one
                  go_simp
                  first | exact ⟨Grew.refl _, rfl⟩ | rfl
                simp only [Act.put, List.setIfInBounds_toArray, List.set_cons_zero, List.set_cons_succ, Nat.zero_add]
                apply Facts.Lex.exact [] _ (by kernel_rfl)
                · intro u W hC _
                  unfold Facts.one
                  go_simp
                  first | exact ⟨Grew.refl _, rfl⟩ | rfl
                simp only [Act.put, List.setIfInBounds_toArray, List.set_cons_zero, List.set_cons_succ, Nat.reduceAdd]
                apply Facts.Lex.exact [] _ (by kernel_rfl)
                · intro u W hC _
                  unfold Facts.one
                  go_simp
                  first | exact ⟨Grew.refl _, rfl⟩ | rfl
                simp only [Act.put, List.setIfInBounds_toArray, List.set_cons_zero, List.set_cons_succ, Nat.reduceAdd]
                apply Facts.Lex.exact [] _ (by kernel_rfl)
                · intro u W hC _
                  unfold Facts.one
                  go_simp
                  first | exact ⟨Grew.refl _, rfl⟩ | rfl
                simp only [Act.put, List.setIfInBounds_toArray, List.set_cons_zero, List.set_cons_succ, Nat.reduceAdd]
                apply Facts.Lex.exact [] _ (by kernel_rfl)
                · intro u W hC _
                  have c0 := cellB hC C0.out
                  unfold Facts.one
                  go_simp
                  first | exact ⟨Grew.refl _, rfl⟩ | rfl
                simp only [Act.put, List.setIfInBounds_toArray, List.set_cons_zero, List.set_cons_succ, Nat.reduceAdd]
                apply Facts.Lex.exact [] _ (by kernel_rfl)
                · intro u W hC _
                  unfold Facts.one
                  go_simp
                  first | exact ⟨Grew.refl _, rfl⟩ | rfl
                simp only [Act.put, List.setIfInBounds_toArray, List.set_cons_zero, List.set_cons_succ, Nat.reduceAdd]
                apply Facts.Lex.exact [] _ (by kernel_rfl)
                · intro u W hC _
                  unfold Facts.one
                  go_simp
                  first | exact ⟨Grew.refl _, rfl⟩ | rfl
                simp only [Act.put, List.setIfInBounds_toArray, List.set_cons_zero, List.set_cons_succ, Nat.reduceAdd]
                apply Facts.Lex.exact [] _ (by kernel_rfl)
                · intro u W hC _
                  unfold Facts.one
                  go_simp
                  first | exact ⟨Grew.refl _, rfl⟩ | rfl
                simp only [Act.put, List.setIfInBounds_toArray, List.set_cons_zero, List.set_cons_succ, Nat.reduceAdd]
                apply Facts.Lex.exact [] _ (by kernel_rfl)
                · intro u W hC _
                  unfold Facts.one
                  go_simp
                  first | exact ⟨Grew.refl _, rfl⟩ | rfl
                simp only [Act.put, List.setIfInBounds_toArray, List.set_cons_zero, List.set_cons_succ, Nat.reduceAdd]
                apply Facts.Lex.exact [] _ (by kernel_rfl)
                · intro u W hC _
                  unfold Facts.one
                  go_simp
                  first | exact ⟨Grew.refl _, rfl⟩ | rfl
                simp only [Act.put, List.setIfInBounds_toArray, List.set_cons_zero, List.set_cons_succ, Nat.reduceAdd]
                apply Facts.Lex.exact [] _ (by kernel_rfl)
                · intro u W hC _
                  unfold Facts.one
                  go_simp
                  first | exact ⟨Grew.refl _, rfl⟩ | rfl
                simp only [Act.put, List.setIfInBounds_toArray, List.set_cons_zero, List.set_cons_succ, Nat.reduceAdd]
                apply Facts.Lex.exact [] _ (by kernel_rfl)
                · intro u W hC _
                  have c0 := cellB hC C0.out
                  unfold Facts.one
                  go_simp
                  first | exact ⟨Grew.refl _, rfl⟩ | rfl
                simp only [Act.put, List.setIfInBounds_toArray, List.set_cons_zero, List.set_cons_succ, Nat.reduceAdd]
                apply Facts.Lex.exact [] _ (by kernel_rfl)
                · intro u W hC _
                  unfold Facts.one
                  go_simp
                  first | exact ⟨Grew.refl _, rfl⟩ | rfl
                simp only [Act.put, List.setIfInBounds_toArray, List.set_cons_zero, List.set_cons_succ, Nat.reduceAdd]
                apply Facts.Lex.exact [] _ (by kernel_rfl)
                · intro u W hC _
                  unfold Facts.one
                  go_simp
                  first | exact ⟨Grew.refl _, rfl⟩ | rfl
                simp only [Act.put, List.setIfInBounds_toArray, List.set_cons_zero, List.set_cons_succ, Nat.reduceAdd]
                apply Facts.Lex.exact [] _ (by kernel_rfl)
                · intro u W hC _
                  unfold Facts.one
                  go_simp
                  first | exact ⟨Grew.refl _, rfl⟩ | rfl
                simp only [Act.put, List.setIfInBounds_toArray, List.set_cons_zero, List.set_cons_succ, Nat.reduceAdd]
                apply Facts.Lex.exact [] _ (by kernel_rfl)
                · intro u W hC _
                  unfold Facts.one
                  go_simp
                  first | exact ⟨Grew.refl _, rfl⟩ | rfl
                simp only [Act.put, List.setIfInBounds_toArray, List.set_cons_zero, List.set_cons_succ, Nat.reduceAdd]
                apply Facts.Lex.exact [] _ (by kernel_rfl)
                · intro u W hC _
                  unfold Facts.one
                  go_simp
                  first | exact ⟨Grew.refl _, rfl⟩ | rfl
                simp only [Act.put, List.setIfInBounds_toArray, List.set_cons_zero, List.set_cons_succ, Nat.reduceAdd]
                apply Facts.Lex.exact [] _ (by kernel_rfl)
                · intro u W hC _
                  unfold Facts.one
                  go_simp
                  first | exact ⟨Grew.refl _, rfl⟩ | rfl
                simp only [Act.put, List.setIfInBounds_toArray, List.set_cons_zero, List.set_cons_succ, Nat.reduceAdd]
                apply Facts.Lex.exact [] _ (by kernel_rfl)
                · intro u W hC _
                  unfold Facts.one
                  go_simp
                  first | exact ⟨Grew.refl _, rfl⟩ | rfl
                simp only [Act.put, List.setIfInBounds_toArray, List.set_cons_zero, List.set_cons_succ, Nat.reduceAdd]
                apply Facts.Lex.exact [] _ (by kernel_rfl)
                · intro u W hC _
                  have c1 := cellB hC C1.out
                  unfold Facts.one
                  go_simp
                  first | exact ⟨Grew.refl _, rfl⟩ | rfl
                simp only [Act.put, List.setIfInBounds_toArray, List.set_cons_zero, List.set_cons_succ, Nat.reduceAdd]
                apply Facts.Lex.exact [] _ (by kernel_rfl)
                · intro u W hC _
                  unfold Facts.one
                  go_simp
                  first | exact ⟨Grew.refl _, rfl⟩ | rfl
                simp only [Act.put, List.setIfInBounds_toArray, List.set_cons_zero, List.set_cons_succ, Nat.reduceAdd]
                apply Facts.Lex.exact [] _ (by kernel_rfl)
                · intro u W hC _
                  unfold Facts.one
                  go_simp
                  first | exact ⟨Grew.refl _, rfl⟩ | rfl
                simp only [Act.put, List.setIfInBounds_toArray, List.set_cons_zero, List.set_cons_succ, Nat.reduceAdd]
                apply Facts.Lex.exact [] _ (by kernel_rfl)
                · intro u W hC _
                  unfold Facts.one
                  go_simp
                  first | exact ⟨Grew.refl _, rfl⟩ | rfl
                simp only [Act.put, List.setIfInBounds_toArray, List.set_cons_zero, List.set_cons_succ, Nat.reduceAdd]
                apply Facts.Lex.exact [] _ (by kernel_rfl)
                · intro u W hC _
                  unfold Facts.one
                  go_simp
                  first | exact ⟨Grew.refl _, rfl⟩ | rfl
                simp only [Act.put, List.setIfInBounds_toArray, List.set_cons_zero, List.set_cons_succ, Nat.reduceAdd]
                apply Facts.Lex.exact [] _ (by kernel_rfl)
                · intro u W hC _
                  unfold Facts.one
                  go_simp
                  first | exact ⟨Grew.refl _, rfl⟩ | rfl
                simp only [Act.put, List.setIfInBounds_toArray, List.set_cons_zero, List.set_cons_succ, Nat.reduceAdd]
                apply Facts.Lex.exact [] _ (by kernel_rfl)
                · intro u W hC _
                  unfold Facts.one
                  go_simp
                  first | exact ⟨Grew.refl _, rfl⟩ | rfl
                simp only [Act.put, List.setIfInBounds_toArray, List.set_cons_zero, List.set_cons_succ, Nat.reduceAdd]
                apply Facts.Lex.exact [] _ (by kernel_rfl)
                · intro u W hC _
                  unfold Facts.one
                  go_simp
                  first | exact ⟨Grew.refl _, rfl⟩ | rfl
                simp only [Act.put, List.setIfInBounds_toArray, List.set_cons_zero, List.set_cons_succ, Nat.reduceAdd]
                apply Facts.Lex.exact [] _ (by kernel_rfl)
                · intro u W hC _
                  have c1 := cellB hC C1.out
                  unfold Facts.one
                  go_simp
                  first | exact ⟨Grew.refl _, rfl⟩ | rfl
                simp only [Act.put, List.setIfInBounds_toArray, List.set_cons_zero, List.set_cons_succ, Nat.reduceAdd]
                apply Facts.Lex.exact [] _ (by kernel_rfl)
                · intro u W hC _
                  unfold Facts.one
                  go_simp
                  first | exact ⟨Grew.refl _, rfl⟩ | rfl
                simp only [Act.put, List.setIfInBounds_toArray, List.set_cons_zero, List.set_cons_succ, Nat.reduceAdd]
                apply Facts.Lex.exact [] _ (by kernel_rfl)
                · intro u W hC _
                  unfold Facts.one
                  go_simp
                  first | exact ⟨Grew.refl _, rfl⟩ | rfl
                simp only [Act.put, List.setIfInBounds_toArray, List.set_cons_zero, List.set_cons_succ, Nat.reduceAdd]
                apply Facts.Lex.exact [] _ (by kernel_rfl)
                · intro u W hC _
                  unfold Facts.one
                  go_simp
                  first | exact ⟨Grew.refl _, rfl⟩ | rfl
                simp only [Act.put, List.setIfInBounds_toArray, List.set_cons_zero, List.set_cons_succ, Nat.reduceAdd]
                apply Facts.Lex.exact [] _ (by kernel_rfl)
                · intro u W hC _
                  unfold Facts.one
                  go_simp
                  first | exact ⟨Grew.refl _, rfl⟩ | rfl
                simp only [Act.put, List.setIfInBounds_toArray, List.set_cons_zero, List.set_cons_succ, Nat.reduceAdd]
                apply Facts.Lex.exact [] _ (by kernel_rfl)
                · intro u W hC _
                  unfold Facts.one
                  go_simp
                  first | exact ⟨Grew.refl _, rfl⟩ | rfl
                simp only [Act.put, List.setIfInBounds_toArray, List.set_cons_zero, List.set_cons_succ, Nat.reduceAdd]
                apply Facts.Lex.exact [] _ (by kernel_rfl)
                · intro u W hC _
                  unfold Facts.one
                  go_simp
                  first | exact ⟨Grew.refl _, rfl⟩ | rfl
                simp only [Act.put, List.setIfInBounds_toArray, List.set_cons_zero, List.set_cons_succ, Nat.reduceAdd]
                apply Facts.Lex.exact [] _ (by kernel_rfl)
                · intro u W hC _
                  unfold Facts.one
                  go_simp
                  first | exact ⟨Grew.refl _, rfl⟩ | rfl
                simp only [Act.put, List.setIfInBounds_toArray, List.set_cons_zero, List.set_cons_succ, Nat.reduceAdd]
                apply Facts.Lex.exact [] _ (by kernel_rfl)
                · intro u W hC _
                  unfold Facts.one
                  go_simp
                  first | exact ⟨Grew.refl _, rfl⟩ | rfl
                simp only [Act.put, List.setIfInBounds_toArray, List.set_cons_zero, List.set_cons_succ, Nat.reduceAdd]
                apply Facts.Lex.exact [] _ (by kernel_rfl)
                · intro u W hC _
                  unfold Facts.one
                  go_simp
                  first | exact ⟨Grew.refl _, rfl⟩ | rfl
                simp only [Act.put, List.setIfInBounds_toArray, List.set_cons_zero, List.set_cons_succ, Nat.reduceAdd]
                apply Facts.Lex.exact [] _ (by kernel_rfl)
                · intro u W hC _
                  unfold Facts.one
                  go_simp
                  first | exact ⟨Grew.refl _, rfl⟩ | rfl
                simp only [Act.put, List.setIfInBounds_toArray, List.set_cons_zero, List.set_cons_succ, Nat.reduceAdd]
                apply Facts.Lex.exact [] _ (by kernel_rfl)
                · intro u W hC _
                  unfold Facts.one
                  go_simp
                  first | exact ⟨Grew.refl _, rfl⟩ | rfl
                simp only [Act.put, List.setIfInBounds_toArray, List.set_cons_zero, List.set_cons_succ, Nat.reduceAdd]
                apply Facts.Lex.exact [] _ (by kernel_rfl)
                · intro u W hC _
                  unfold Facts.one
                  go_simp
                  first | exact ⟨Grew.refl _, rfl⟩ | rfl
                simp only [Act.put, List.setIfInBounds_toArray, List.set_cons_zero, List.set_cons_succ, Nat.reduceAdd]
                apply Facts.Lex.exact [] _ (by kernel_rfl)
                · intro u W hC _
                  unfold Facts.one
                  go_simp
                  first | exact ⟨Grew.refl _, rfl⟩ | rfl
                simp only [Act.put, List.setIfInBounds_toArray, List.set_cons_zero, List.set_cons_succ, Nat.reduceAdd]
                apply Facts.Lex.exact [] _ (by kernel_rfl)
                · intro u W hC _
                  unfold Facts.one
                  go_simp
                  first | exact ⟨Grew.refl _, rfl⟩ | rfl
                simp only [Act.put, List.setIfInBounds_toArray, List.set_cons_zero, List.set_cons_succ, Nat.reduceAdd]
                apply Facts.Lex.exact [] _ (by kernel_rfl)
                · intro u W hC _
                  unfold Facts.one
                  go_simp
                  first | exact ⟨Grew.refl _, rfl⟩ | rfl
                simp only [Act.put, List.setIfInBounds_toArray, List.set_cons_zero, List.set_cons_succ, Nat.reduceAdd]
                apply Facts.Lex.exact [] _ (by kernel_rfl)
                · intro u W hC _
                  unfold Facts.one
                  go_simp
                  first | exact ⟨Grew.refl _, rfl⟩ | rfl
                simp only [Act.put, List.setIfInBounds_toArray, List.set_cons_zero, List.set_cons_succ, Nat.reduceAdd]
                apply Facts.Lex.exact [] _ (by kernel_rfl)
                · intro u W hC _
                  unfold Facts.one
                  go_simp
                  first | exact ⟨Grew.refl _, rfl⟩ | rfl
                simp only [Act.put, List.setIfInBounds_toArray, List.set_cons_zero, List.set_cons_succ, Nat.reduceAdd]
                apply Facts.Lex.exact [] _ (by kernel_rfl)
                · intro u W hC _
                  unfold Facts.one
                  go_simp
                  first | exact ⟨Grew.refl _, rfl⟩ | rfl
                simp only [Act.put, List.setIfInBounds_toArray, List.set_cons_zero, List.set_cons_succ, Nat.reduceAdd]
                apply Facts.Lex.exact [] _ (by kernel_rfl)
                · intro u W hC _
                  unfold Facts.one
                  go_simp
                  first | exact ⟨Grew.refl _, rfl⟩ | rfl
                simp only [Act.put, List.setIfInBounds_toArray, List.set_cons_zero, List.set_cons_succ, Nat.reduceAdd]
                apply Facts.Lex.exact [] _ (by kernel_rfl)
                · intro u W hC _
                  unfold Facts.one
                  go_simp
                  first | exact ⟨Grew.refl _, rfl⟩ | rfl
                simp only [Act.put, List.setIfInBounds_toArray, List.set_cons_zero, List.set_cons_succ, Nat.reduceAdd]
                apply Facts.Lex.exact [] _ (by kernel_rfl)
                · intro u W hC _
                  unfold Facts.one
                  go_simp
                  first | exact ⟨Grew.refl _, rfl⟩ | rfl
                simp only [Act.put, List.setIfInBounds_toArray, List.set_cons_zero, List.set_cons_succ, Nat.reduceAdd]
                refine Facts.Lex.done fun u W2 hC hL => ?_
                have G2 := Lib.hid (HG.out.trans hC)
                clear hC hL
                go_wp2
                go_returns
                refine ⟨?_, G2.out⟩
                rw [HR.out]
                try rfl
              · by_cases q4 : (r.accounts.length : Int) ≤ fo
                · have HR := Lib.hid (HO.out (HNO.out (.inr (.inr (.inr (.inl (by simp only; omega)))))))
                  go_wp2
                  refine Facts.wp_region_text (by kernel_rfl) (by kernel_rfl) ?_
                  apply Facts.Lex.exact [] _ (by kernel_rfl)
                  · intro u W hC _
                    unfold Facts.one
                    go_simp
                    first | exact ⟨Grew.refl _, rfl⟩ | rfl
                  simp only [Act.put, List.setIfInBounds_toArray, List.set_cons_zero, List.set_cons_succ, Nat.zero_add]
                  apply Facts.Lex.exact [] _ (by kernel_rfl)
                  · intro u W hC _
                    unfold Facts.one
                    go_simp
                    first | exact ⟨Grew.refl _, rfl⟩ | rfl
                  simp only [Act.put, List.setIfInBounds_toArray, List.set_cons_zero, List.set_cons_succ, Nat.reduceAdd]
                  apply Facts.Lex.exact [] _ (by kernel_rfl)
                  · intro u W hC _
                    unfold Facts.one
                    go_simp
                    first | exact ⟨Grew.refl _, rfl⟩ | rfl
                  simp only [Act.put, List.setIfInBounds_toArray, List.set_cons_zero, List.set_cons_succ, Nat.reduceAdd]
                  apply Facts.Lex.exact [] _ (by kernel_rfl)
                  · intro u W hC _
                    unfold Facts.one
                    go_simp
                    first | exact ⟨Grew.refl _, rfl⟩ | rfl
                  simp only [Act.put, List.setIfInBounds_toArray, List.set_cons_zero, List.set_cons_succ, Nat.reduceAdd]
                  apply Facts.Lex.exact [] _ (by kernel_rfl)
                  · intro u W hC _
                    have c0 := cellB hC C0.out
                    unfold Facts.one
                    go_simp
                    first | exact ⟨Grew.refl _, rfl⟩ | rfl
                  simp only [Act.put, List.setIfInBounds_toArray, List.set_cons_zero, List.set_cons_succ, Nat.reduceAdd]
                  apply Facts.Lex.exact [] _ (by kernel_rfl)
                  · intro u W hC _
                    unfold Facts.one
                    go_simp
                    first | exact ⟨Grew.refl _, rfl⟩ | rfl
                  simp only [Act.put, List.setIfInBounds_toArray, List.set_cons_zero, List.set_cons_succ, Nat.reduceAdd]
                  apply Facts.Lex.exact [] _ (by kernel_rfl)
                  · intro u W hC _
                    unfold Facts.one
                    go_simp
                    first | exact ⟨Grew.refl _, rfl⟩ | rfl
                  simp only [Act.put, List.setIfInBounds_toArray, List.set_cons_zero, List.set_cons_succ, Nat.reduceAdd]
                  apply Facts.Lex.exact [] _ (by kernel_rfl)
                  · intro u W hC _
                    unfold Facts.one
                    go_simp
                    first | exact ⟨Grew.refl _, rfl⟩ | rfl
                  simp only [Act.put, List.setIfInBounds_toArray, List.set_cons_zero, List.set_cons_succ, Nat.reduceAdd]
                  apply Facts.Lex.exact [] _ (by kernel_rfl)
                  · intro u W hC _
                    unfold Facts.one
                    go_simp
                    first | exact ⟨Grew.refl _, rfl⟩ | rfl
                  simp only [Act.put, List.setIfInBounds_toArray, List.set_cons_zero, List.set_cons_succ, Nat.reduceAdd]
                  apply Facts.Lex.exact [] _ (by kernel_rfl)
                  · intro u W hC _
                    unfold Facts.one
                    go_simp
                    first | exact ⟨Grew.refl _, rfl⟩ | rfl
                  simp only [Act.put, List.setIfInBounds_toArray, List.set_cons_zero, List.set_cons_succ, Nat.reduceAdd]
                  apply Facts.Lex.exact [] _ (by kernel_rfl)
                  · intro u W hC _
                    unfold Facts.one
                    go_simp
                    first | exact ⟨Grew.refl _, rfl⟩ | rfl
                  simp only [Act.put, List.setIfInBounds_toArray, List.set_cons_zero, List.set_cons_succ, Nat.reduceAdd]
                  apply Facts.Lex.exact [] _ (by kernel_rfl)
                  · intro u W hC _
                    have c0 := cellB hC C0.out
                    unfold Facts.one
                    go_simp
                    first | exact ⟨Grew.refl _, rfl⟩ | rfl
                  simp only [Act.put, List.setIfInBounds_toArray, List.set_cons_zero, List.set_cons_succ, Nat.reduceAdd]
                  apply Facts.Lex.exact [] _ (by kernel_rfl)
                  · intro u W hC _
                    unfold Facts.one
                    go_simp
                    first | exact ⟨Grew.refl _, rfl⟩ | rfl
                  simp only [Act.put, List.setIfInBounds_toArray, List.set_cons_zero, List.set_cons_succ, Nat.reduceAdd]
                  apply Facts.Lex.exact [] _ (by kernel_rfl)
                  · intro u W hC _
                    unfold Facts.one
                    go_simp
                    first | exact ⟨Grew.refl _, rfl⟩ | rfl
                  simp only [Act.put, List.setIfInBounds_toArray, List.set_cons_zero, List.set_cons_succ, Nat.reduceAdd]
                  apply Facts.Lex.exact [] _ (by kernel_rfl)
                  · intro u W hC _
                    unfold Facts.one
                    go_simp
                    first | exact ⟨Grew.refl _, rfl⟩ | rfl
                  simp only [Act.put, List.setIfInBounds_toArray, List.set_cons_zero, List.set_cons_succ, Nat.reduceAdd]
                  apply Facts.Lex.exact [] _ (by kernel_rfl)
                  · intro u W hC _
                    unfold Facts.one
                    go_simp
                    first | exact ⟨Grew.refl _, rfl⟩ | rfl
                  simp only [Act.put, List.setIfInBounds_toArray, List.set_cons_zero, List.set_cons_succ, Nat.reduceAdd]
                  apply Facts.Lex.exact [] _ (by kernel_rfl)
                  · intro u W hC _
                    unfold Facts.one
                    go_simp
                    first | exact ⟨Grew.refl _, rfl⟩ | rfl
                  simp only [Act.put, List.setIfInBounds_toArray, List.set_cons_zero, List.set_cons_succ, Nat.reduceAdd]
                  apply Facts.Lex.exact [] _ (by kernel_rfl)
                  · intro u W hC _
                    unfold Facts.one
                    go_simp
                    first | exact ⟨Grew.refl _, rfl⟩ | rfl
                  simp only [Act.put, List.setIfInBounds_toArray, List.set_cons_zero, List.set_cons_succ, Nat.reduceAdd]
                  apply Facts.Lex.exact [] _ (by kernel_rfl)
                  · intro u W hC _
                    unfold Facts.one
                    go_simp
                    first | exact ⟨Grew.refl _, rfl⟩ | rfl
                  simp only [Act.put, List.setIfInBounds_toArray, List.set_cons_zero, List.set_cons_succ, Nat.reduceAdd]
                  apply Facts.Lex.exact [] _ (by kernel_rfl)
                  · intro u W hC _
                    have c1 := cellB hC C1.out
                    unfold Facts.one
                    go_simp
                    first | exact ⟨Grew.refl _, rfl⟩ | rfl
                  simp only [Act.put, List.setIfInBounds_toArray, List.set_cons_zero, List.set_cons_succ, Nat.reduceAdd]
                  apply Facts.Lex.exact [] _ (by kernel_rfl)
                  · intro u W hC _
                    unfold Facts.one
                    go_simp
                    first | exact ⟨Grew.refl _, rfl⟩ | rfl
                  simp only [Act.put, List.setIfInBounds_toArray, List.set_cons_zero, List.set_cons_succ, Nat.reduceAdd]
                  apply Facts.Lex.exact [] _ (by kernel_rfl)
                  · intro u W hC _
                    unfold Facts.one
                    go_simp
                    first | exact ⟨Grew.refl _, rfl⟩ | rfl
                  simp only [Act.put, List.setIfInBounds_toArray, List.set_cons_zero, List.set_cons_succ, Nat.reduceAdd]
                  apply Facts.Lex.exact [] _ (by kernel_rfl)
                  · intro u W hC _
                    unfold Facts.one
                    go_simp
                    first | exact ⟨Grew.refl _, rfl⟩ | rfl
                  simp only [Act.put, List.setIfInBounds_toArray, List.set_cons_zero, List.set_cons_succ, Nat.reduceAdd]
                  apply Facts.Lex.exact [] _ (by kernel_rfl)
                  · intro u W hC _
                    unfold Facts.one
                    go_simp
                    first | exact ⟨Grew.refl _, rfl⟩ | rfl
                  simp only [Act.put, List.setIfInBounds_toArray, List.set_cons_zero, List.set_cons_succ, Nat.reduceAdd]
                  apply Facts.Lex.exact [] _ (by kernel_rfl)
                  · intro u W hC _
                    unfold Facts.one
                    go_simp
                    first | exact ⟨Grew.refl _, rfl⟩ | rfl
                  simp only [Act.put, List.setIfInBounds_toArray, List.set_cons_zero, List.set_cons_succ, Nat.reduceAdd]
                  apply Facts.Lex.exact [] _ (by kernel_rfl)
                  · intro u W hC _
                    unfold Facts.one
                    go_simp
                    first | exact ⟨Grew.refl _, rfl⟩ | rfl
                  simp only [Act.put, List.setIfInBounds_toArray, List.set_cons_zero, List.set_cons_succ, Nat.reduceAdd]
                  apply Facts.Lex.exact [] _ (by kernel_rfl)
                  · intro u W hC _
                    unfold Facts.one
                    go_simp
                    first | exact ⟨Grew.refl _, rfl⟩ | rfl
                  simp only [Act.put, List.setIfInBounds_toArray, List.set_cons_zero, List.set_cons_succ, Nat.reduceAdd]
                  apply Facts.Lex.exact [] _ (by kernel_rfl)
                  · intro u W hC _
                    have c1 := cellB hC C1.out
                    unfold Facts.one
                    go_simp
                    first | exact ⟨Grew.refl _, rfl⟩ | rfl
                  simp only [Act.put, List.setIfInBounds_toArray, List.set_cons_zero, List.set_cons_succ, Nat.reduceAdd]
                  apply Facts.Lex.exact [] _ (by kernel_rfl)
                  · intro u W hC _
                    unfold Facts.one
                    go_simp
                    first | exact ⟨Grew.refl _, rfl⟩ | rfl
                  simp only [Act.put, List.setIfInBounds_toArray, List.set_cons_zero, List.set_cons_succ, Nat.reduceAdd]
                  apply Facts.Lex.exact [] _ (by kernel_rfl)
                  · intro u W hC _
                    unfold Facts.one
                    go_simp
                    first | exact ⟨Grew.refl _, rfl⟩ | rfl
                  simp only [Act.put, List.setIfInBounds_toArray, List.set_cons_zero, List.set_cons_succ, Nat.reduceAdd]
                  apply Facts.Lex.exact [] _ (by kernel_rfl)
                  · intro u W hC _
                    unfold Facts.one
                    go_simp
                    first | exact ⟨Grew.refl _, rfl⟩ | rfl
                  simp only [Act.put, List.setIfInBounds_toArray, List.set_cons_zero, List.set_cons_succ, Nat.reduceAdd]
                  apply Facts.Lex.exact [] _ (by kernel_rfl)
                  · intro u W hC _
                    unfold Facts.one
                    go_simp
                    first | exact ⟨Grew.refl _, rfl⟩ | rfl
                  simp only [Act.put, List.setIfInBounds_toArray, List.set_cons_zero, List.set_cons_succ, Nat.reduceAdd]
                  apply Facts.Lex.exact [] _ (by kernel_rfl)
                  · intro u W hC _
                    unfold Facts.one
                    go_simp
                    first | exact ⟨Grew.refl _, rfl⟩ | rfl
                  simp only [Act.put, List.setIfInBounds_toArray, List.set_cons_zero, List.set_cons_succ, Nat.reduceAdd]
                  apply Facts.Lex.exact [] _ (by kernel_rfl)
                  · intro u W hC _
                    unfold Facts.one
                    go_simp
                    first | exact ⟨Grew.refl _, rfl⟩ | rfl
                  simp only [Act.put, List.setIfInBounds_toArray, List.set_cons_zero, List.set_cons_succ, Nat.reduceAdd]
                  apply Facts.Lex.exact [] _ (by kernel_rfl)
                  · intro u W hC _
                    unfold Facts.one
                    go_simp
                    first | exact ⟨Grew.refl _, rfl⟩ | rfl
                  simp only [Act.put, List.setIfInBounds_toArray, List.set_cons_zero, List.set_cons_succ, Nat.reduceAdd]
                  apply Facts.Lex.exact [] _ (by kernel_rfl)
                  · intro u W hC _
                    unfold Facts.one
                    go_simp
                    first | exact ⟨Grew.refl _, rfl⟩ | rfl
                  simp only [Act.put, List.setIfInBounds_toArray, List.set_cons_zero, List.set_cons_succ, Nat.reduceAdd]
                  apply Facts.Lex.exact [] _ (by kernel_rfl)
                  · intro u W hC _
                    unfold Facts.one
                    go_simp
                    first | exact ⟨Grew.refl _, rfl⟩ | rfl
                  simp only [Act.put, List.setIfInBounds_toArray, List.set_cons_zero, List.set_cons_succ, Nat.reduceAdd]
                  apply Facts.Lex.exact [] _ (by kernel_rfl)
                  · intro u W hC _
                    unfold Facts.one
                    go_simp
                    first | exact ⟨Grew.refl _, rfl⟩ | rfl
                  simp only [Act.put, List.setIfInBounds_toArray, List.set_cons_zero, List.set_cons_succ, Nat.reduceAdd]
                  apply Facts.Lex.exact [] _ (by kernel_rfl)
                  · intro u W hC _
                    unfold Facts.one
                    go_simp
                    first | exact ⟨Grew.refl _, rfl⟩ | rfl
                  simp only [Act.put, List.setIfInBounds_toArray, List.set_cons_zero, List.set_cons_succ, Nat.reduceAdd]
                  apply Facts.Lex.exact [] _ (by kernel_rfl)
                  · intro u W hC _
                    unfold Facts.one
                    go_simp
                    first | exact ⟨Grew.refl _, rfl⟩ | rfl
                  simp only [Act.put, List.setIfInBounds_toArray, List.set_cons_zero, List.set_cons_succ, Nat.reduceAdd]
                  apply Facts.Lex.exact [] _ (by kernel_rfl)
                  · intro u W hC _
                    unfold Facts.one
                    go_simp
                    first | exact ⟨Grew.refl _, rfl⟩ | rfl
                  simp only [Act.put, List.setIfInBounds_toArray, List.set_cons_zero, List.set_cons_succ, Nat.reduceAdd]
                  apply Facts.Lex.exact [] _ (by kernel_rfl)
                  · intro u W hC _
                    unfold Facts.one
                    go_simp
                    first | exact ⟨Grew.refl _, rfl⟩ | rfl
                  simp only [Act.put, List.setIfInBounds_toArray, List.set_cons_zero, List.set_cons_succ, Nat.reduceAdd]
                  apply Facts.Lex.exact [] _ (by kernel_rfl)
                  · intro u W hC _
                    unfold Facts.one
                    go_simp
                    first | exact ⟨Grew.refl _, rfl⟩ | rfl
                  simp only [Act.put, List.setIfInBounds_toArray, List.set_cons_zero, List.set_cons_succ, Nat.reduceAdd]
                  apply Facts.Lex.exact [] _ (by kernel_rfl)
                  · intro u W hC _
                    unfold Facts.one
                    go_simp
                    first | exact ⟨Grew.refl _, rfl⟩ | rfl
                  simp only [Act.put, List.setIfInBounds_toArray, List.set_cons_zero, List.set_cons_succ, Nat.reduceAdd]
                  apply Facts.Lex.exact [] _ (by kernel_rfl)
                  · intro u W hC _
                    unfold Facts.one
                    go_simp
                    first | exact ⟨Grew.refl _, rfl⟩ | rfl
                  simp only [Act.put, List.setIfInBounds_toArray, List.set_cons_zero, List.set_cons_succ, Nat.reduceAdd]
                  apply Facts.Lex.exact [] _ (by kernel_rfl)
                  · intro u W hC _
                    unfold Facts.one
                    go_simp
                    first | exact ⟨Grew.refl _, rfl⟩ | rfl
                  simp only [Act.put, List.setIfInBounds_toArray, List.set_cons_zero, List.set_cons_succ, Nat.reduceAdd]
                  apply Facts.Lex.exact [] _ (by kernel_rfl)
                  · intro u W hC _
                    unfold Facts.one
                    go_simp
                    first | exact ⟨Grew.refl _, rfl⟩ | rfl
                  simp only [Act.put, List.setIfInBounds_toArray, List.set_cons_zero, List.set_cons_succ, Nat.reduceAdd]
                  apply Facts.Lex.exact [] _ (by kernel_rfl)
                  · intro u W hC _
                    unfold Facts.one
                    go_simp
                    first | exact ⟨Grew.refl _, rfl⟩ | rfl
                  simp only [Act.put, List.setIfInBounds_toArray, List.set_cons_zero, List.set_cons_succ, Nat.reduceAdd]
                  apply Facts.Lex.exact [] _ (by kernel_rfl)
                  · intro u W hC _
                    unfold Facts.one
                    go_simp
                    first | exact ⟨Grew.refl _, rfl⟩ | rfl
                  simp only [Act.put, List.setIfInBounds_toArray, List.set_cons_zero, List.set_cons_succ, Nat.reduceAdd]
                  refine Facts.Lex.done fun u W2 hC hL => ?_
                  have G2 := Lib.hid (HG.out.trans hC)
                  clear hC hL
                  go_wp2
                  go_returns
                  refine ⟨?_, G2.out⟩
                  rw [HR.out]
                  try rfl
                · obtain ⟨kb, rfl⟩ := Int.eq_ofNat_of_zero_le (show 0 ≤ bit by omega)
                  have hkb : kb < 64 := by omega
                  have HHA := Lib.hid (fun W => rhall_any kb hkb W)
                  have HPA := Lib.hid (fun W hg => HPL.out ⟨0, bitOf (kb : Int)⟩ W hg)
                  have HAN : Hid (decide (0 ≤ fidx r.labels fun x => decide (x = (⟨0, bitOf (kb : Int)⟩ : La))) = (r.labels.any fun y => decide ((⟨0, bitOf (kb : Int)⟩ : La) = y))) := Lib.hid (by
                    rw [fidx_neg]
                    congr 1
                    funext y
                    rw [Bool.eq_iff_iff]
                    simp only [decide_eq_true_eq]
                    exact eq_comm)
                  have HGY := Lib.hid (HYS.out (by simp only; omega) (by simp only; omega) (by simp only; omega) (by simp only; omega) (by simp only; omega))
                  have HN2 := Lib.hid (fun h => HNO.out (.inr (.inr (.inr (.inr (.inr h))))))
                  clear HNO
                  have HNO := HN2
                  simp only at HGY HNO HAN
                  generalize (r.labels.any fun y => decide ((⟨0, bitOf (kb : Int)⟩ : La) = y)) = ba at *
                  generalize (fidx r.labels fun x => decide (x = (⟨0, bitOf (kb : Int)⟩ : La))) = fi at *
                  generalize bitOf (kb : Int) = bt at *
                  clear hkb
                  go_wp2
                  refine Facts.wp_region_text (by kernel_rfl) (by kernel_rfl) ?_
                  apply Facts.Lex.exact [] _ (by kernel_rfl)
                  · intro u W hC _
                    unfold Facts.one
                    go_simp
                    first | exact ⟨Grew.refl _, rfl⟩ | rfl
                  simp only [Act.put, List.setIfInBounds_toArray, List.set_cons_zero, List.set_cons_succ, Nat.zero_add]
                  apply Facts.Lex.exact [] _ (by kernel_rfl)
                  · intro u W hC _
                    unfold Facts.one
                    go_simp
                    first | exact ⟨Grew.refl _, rfl⟩ | rfl
                  simp only [Act.put, List.setIfInBounds_toArray, List.set_cons_zero, List.set_cons_succ, Nat.reduceAdd]
                  apply Facts.Lex.exact [] _ (by kernel_rfl)
                  · intro u W hC _
                    unfold Facts.one
                    go_simp
                    first | exact ⟨Grew.refl _, rfl⟩ | rfl
                  simp only [Act.put, List.setIfInBounds_toArray, List.set_cons_zero, List.set_cons_succ, Nat.reduceAdd]
                  apply Facts.Lex.exact [] _ (by kernel_rfl)
                  · intro u W hC _
                    unfold Facts.one
                    go_simp
                    first | exact ⟨Grew.refl _, rfl⟩ | rfl
                  simp only [Act.put, List.setIfInBounds_toArray, List.set_cons_zero, List.set_cons_succ, Nat.reduceAdd]
                  apply Facts.Lex.exact [] _ (by kernel_rfl)
                  · intro u W hC _
                    have c0 := cellB hC C0.out
                    unfold Facts.one
                    go_simp
                    first | exact ⟨Grew.refl _, rfl⟩ | rfl
                  simp only [Act.put, List.setIfInBounds_toArray, List.set_cons_zero, List.set_cons_succ, Nat.reduceAdd]
                  apply Facts.Lex.exact [] _ (by kernel_rfl)
                  · intro u W hC _
                    unfold Facts.one
                    go_simp
                    first | exact ⟨Grew.refl _, rfl⟩ | rfl
                  simp only [Act.put, List.setIfInBounds_toArray, List.set_cons_zero, List.set_cons_succ, Nat.reduceAdd]
                  apply Facts.Lex.exact [] _ (by kernel_rfl)
                  · intro u W hC _
                    unfold Facts.one
                    go_simp
                    first | exact ⟨Grew.refl _, rfl⟩ | rfl
                  simp only [Act.put, List.setIfInBounds_toArray, List.set_cons_zero, List.set_cons_succ, Nat.reduceAdd]
                  apply Facts.Lex.exact [] _ (by kernel_rfl)
                  · intro u W hC _
                    unfold Facts.one
                    go_simp
                    first | exact ⟨Grew.refl _, rfl⟩ | rfl
                  simp only [Act.put, List.setIfInBounds_toArray, List.set_cons_zero, List.set_cons_succ, Nat.reduceAdd]
                  apply Facts.Lex.exact [] _ (by kernel_rfl)
                  · intro u W hC _
                    unfold Facts.one
                    go_simp
                    first | exact ⟨Grew.refl _, rfl⟩ | rfl
                  simp only [Act.put, List.setIfInBounds_toArray, List.set_cons_zero, List.set_cons_succ, Nat.reduceAdd]
                  apply Facts.Lex.exact [] _ (by kernel_rfl)
                  · intro u W hC _
                    unfold Facts.one
                    go_simp
                    first | exact ⟨Grew.refl _, rfl⟩ | rfl
                  simp only [Act.put, List.setIfInBounds_toArray, List.set_cons_zero, List.set_cons_succ, Nat.reduceAdd]
                  apply Facts.Lex.exact [] _ (by kernel_rfl)
                  · intro u W hC _
                    unfold Facts.one
                    go_simp
                    first | exact ⟨Grew.refl _, rfl⟩ | rfl
                  simp only [Act.put, List.setIfInBounds_toArray, List.set_cons_zero, List.set_cons_succ, Nat.reduceAdd]
                  apply Facts.Lex.exact [] _ (by kernel_rfl)
                  · intro u W hC _
                    have c0 := cellB hC C0.out
                    unfold Facts.one
                    go_simp
                    first | exact ⟨Grew.refl _, rfl⟩ | rfl
                  simp only [Act.put, List.setIfInBounds_toArray, List.set_cons_zero, List.set_cons_succ, Nat.reduceAdd]
                  apply Facts.Lex.exact [] _ (by kernel_rfl)
                  · intro u W hC _
                    unfold Facts.one
                    go_simp
                    first | exact ⟨Grew.refl _, rfl⟩ | rfl
                  simp only [Act.put, List.setIfInBounds_toArray, List.set_cons_zero, List.set_cons_succ, Nat.reduceAdd]
                  apply Facts.Lex.exact [] _ (by kernel_rfl)
                  · intro u W hC _
                    unfold Facts.one
                    go_simp
                    first | exact ⟨Grew.refl _, rfl⟩ | rfl
                  simp only [Act.put, List.setIfInBounds_toArray, List.set_cons_zero, List.set_cons_succ, Nat.reduceAdd]
                  apply Facts.Lex.exact [] _ (by kernel_rfl)
                  · intro u W hC _
                    unfold Facts.one
                    go_simp
                    first | exact ⟨Grew.refl _, rfl⟩ | rfl
                  simp only [Act.put, List.setIfInBounds_toArray, List.set_cons_zero, List.set_cons_succ, Nat.reduceAdd]
                  apply Facts.Lex.exact [] _ (by kernel_rfl)
                  · intro u W hC _
                    unfold Facts.one
                    go_simp
                    first | exact ⟨Grew.refl _, rfl⟩ | rfl
                  simp only [Act.put, List.setIfInBounds_toArray, List.set_cons_zero, List.set_cons_succ, Nat.reduceAdd]
                  apply Facts.Lex.exact [] _ (by kernel_rfl)
                  · intro u W hC _
                    unfold Facts.one
                    go_simp
                    first | exact ⟨Grew.refl _, rfl⟩ | rfl
                  simp only [Act.put, List.setIfInBounds_toArray, List.set_cons_zero, List.set_cons_succ, Nat.reduceAdd]
                  apply Facts.Lex.exact [] _ (by kernel_rfl)
                  · intro u W hC _
                    unfold Facts.one
                    go_simp
                    first | exact ⟨Grew.refl _, rfl⟩ | rfl
                  simp only [Act.put, List.setIfInBounds_toArray, List.set_cons_zero, List.set_cons_succ, Nat.reduceAdd]
                  apply Facts.Lex.exact [] _ (by kernel_rfl)
                  · intro u W hC _
                    unfold Facts.one
                    go_simp
                    first | exact ⟨Grew.refl _, rfl⟩ | rfl
                  simp only [Act.put, List.setIfInBounds_toArray, List.set_cons_zero, List.set_cons_succ, Nat.reduceAdd]
                  apply Facts.Lex.exact [] _ (by kernel_rfl)
                  · intro u W hC _
                    have c1 := cellB hC C1.out
                    unfold Facts.one
                    go_simp
                    first | exact ⟨Grew.refl _, rfl⟩ | rfl
                  simp only [Act.put, List.setIfInBounds_toArray, List.set_cons_zero, List.set_cons_succ, Nat.reduceAdd]
                  apply Facts.Lex.exact [] _ (by kernel_rfl)
                  · intro u W hC _
                    unfold Facts.one
                    go_simp
                    first | exact ⟨Grew.refl _, rfl⟩ | rfl
                  simp only [Act.put, List.setIfInBounds_toArray, List.set_cons_zero, List.set_cons_succ, Nat.reduceAdd]
                  apply Facts.Lex.exact [] _ (by kernel_rfl)
                  · intro u W hC _
                    unfold Facts.one
                    go_simp
                    first | exact ⟨Grew.refl _, rfl⟩ | rfl
                  simp only [Act.put, List.setIfInBounds_toArray, List.set_cons_zero, List.set_cons_succ, Nat.reduceAdd]
                  apply Facts.Lex.exact [] _ (by kernel_rfl)
                  · intro u W hC _
                    unfold Facts.one
                    go_simp
                    first | exact ⟨Grew.refl _, rfl⟩ | rfl
                  simp only [Act.put, List.setIfInBounds_toArray, List.set_cons_zero, List.set_cons_succ, Nat.reduceAdd]
                  apply Facts.Lex.exact [] _ (by kernel_rfl)
                  · intro u W hC _
                    unfold Facts.one
                    go_simp
                    first | exact ⟨Grew.refl _, rfl⟩ | rfl
                  simp only [Act.put, List.setIfInBounds_toArray, List.set_cons_zero, List.set_cons_succ, Nat.reduceAdd]
                  apply Facts.Lex.exact [] _ (by kernel_rfl)
                  · intro u W hC _
                    unfold Facts.one
                    go_simp
                    first | exact ⟨Grew.refl _, rfl⟩ | rfl
                  simp only [Act.put, List.setIfInBounds_toArray, List.set_cons_zero, List.set_cons_succ, Nat.reduceAdd]
                  apply Facts.Lex.exact [] _ (by kernel_rfl)
                  · intro u W hC _
                    unfold Facts.one
                    go_simp
                    first | exact ⟨Grew.refl _, rfl⟩ | rfl
                  simp only [Act.put, List.setIfInBounds_toArray, List.set_cons_zero, List.set_cons_succ, Nat.reduceAdd]
                  apply Facts.Lex.exact [] _ (by kernel_rfl)
                  · intro u W hC _
                    unfold Facts.one
                    go_simp
                    first | exact ⟨Grew.refl _, rfl⟩ | rfl
                  simp only [Act.put, List.setIfInBounds_toArray, List.set_cons_zero, List.set_cons_succ, Nat.reduceAdd]
                  apply Facts.Lex.exact [] _ (by kernel_rfl)
                  · intro u W hC _
                    have c1 := cellB hC C1.out
                    unfold Facts.one
                    go_simp
                    first | exact ⟨Grew.refl _, rfl⟩ | rfl
                  simp only [Act.put, List.setIfInBounds_toArray, List.set_cons_zero, List.set_cons_succ, Nat.reduceAdd]
                  apply Facts.Lex.exact [] _ (by kernel_rfl)
                  · intro u W hC _
                    unfold Facts.one
                    go_simp
                    first | exact ⟨Grew.refl _, rfl⟩ | rfl
                  simp only [Act.put, List.setIfInBounds_toArray, List.set_cons_zero, List.set_cons_succ, Nat.reduceAdd]
                  apply Facts.Lex.exact [] _ (by kernel_rfl)
                  · intro u W hC _
                    unfold Facts.one
                    go_simp
                    first | exact ⟨Grew.refl _, rfl⟩ | rfl
                  simp only [Act.put, List.setIfInBounds_toArray, List.set_cons_zero, List.set_cons_succ, Nat.reduceAdd]
                  apply Facts.Lex.exact [] _ (by kernel_rfl)
                  · intro u W hC _
                    unfold Facts.one
                    go_simp
                    first | exact ⟨Grew.refl _, rfl⟩ | rfl
                  simp only [Act.put, List.setIfInBounds_toArray, List.set_cons_zero, List.set_cons_succ, Nat.reduceAdd]
                  apply Facts.Lex.exact [] _ (by kernel_rfl)
                  · intro u W hC _
                    unfold Facts.one
                    go_simp
                    first | exact ⟨Grew.refl _, rfl⟩ | rfl
                  simp only [Act.put, List.setIfInBounds_toArray, List.set_cons_zero, List.set_cons_succ, Nat.reduceAdd]
                  apply Facts.Lex.exact [] _ (by kernel_rfl)
                  · intro u W hC _
                    unfold Facts.one
                    go_simp
                    first | exact ⟨Grew.refl _, rfl⟩ | rfl
                  simp only [Act.put, List.setIfInBounds_toArray, List.set_cons_zero, List.set_cons_succ, Nat.reduceAdd]
                  apply Facts.Lex.exact [] _ (by kernel_rfl)
                  · intro u W hC _
                    unfold Facts.one
                    go_simp
                    first | exact ⟨Grew.refl _, rfl⟩ | rfl
                  simp only [Act.put, List.setIfInBounds_toArray, List.set_cons_zero, List.set_cons_succ, Nat.reduceAdd]
                  apply Facts.Lex.exact [] _ (by kernel_rfl)
                  · intro u W hC _
                    unfold Facts.one
                    go_simp
                    first | exact ⟨Grew.refl _, rfl⟩ | rfl
                  simp only [Act.put, List.setIfInBounds_toArray, List.set_cons_zero, List.set_cons_succ, Nat.reduceAdd]
                  apply Facts.Lex.exact [] _ (by kernel_rfl)
                  · intro u W hC _
                    unfold Facts.one
                    go_simp
                    first | exact ⟨Grew.refl _, rfl⟩ | rfl
                  simp only [Act.put, List.setIfInBounds_toArray, List.set_cons_zero, List.set_cons_succ, Nat.reduceAdd]
                  apply Facts.Lex.exact [] _ (by kernel_rfl)
                  · intro u W hC _
                    unfold Facts.one
                    go_simp
                    first | exact ⟨Grew.refl _, rfl⟩ | rfl
                  simp only [Act.put, List.setIfInBounds_toArray, List.set_cons_zero, List.set_cons_succ, Nat.reduceAdd]
                  apply Facts.Lex.exact [] _ (by kernel_rfl)
                  · intro u W hC _
                    unfold Facts.one
                    go_simp
                    first | exact ⟨Grew.refl _, rfl⟩ | rfl
                  simp only [Act.put, List.setIfInBounds_toArray, List.set_cons_zero, List.set_cons_succ, Nat.reduceAdd]
                  apply Facts.Lex.exact [] _ (by kernel_rfl)
                  · intro u W hC _
                    unfold Facts.one
                    go_simp
                    first | exact ⟨Grew.refl _, rfl⟩ | rfl
                  simp only [Act.put, List.setIfInBounds_toArray, List.set_cons_zero, List.set_cons_succ, Nat.reduceAdd]
                  apply Facts.Lex.exact [] _ (by kernel_rfl)
                  · intro u W hC _
                    unfold Facts.one
                    go_simp
                    first | exact ⟨Grew.refl _, rfl⟩ | rfl
                  simp only [Act.put, List.setIfInBounds_toArray, List.set_cons_zero, List.set_cons_succ, Nat.reduceAdd]
                  apply Facts.Lex.exact [] _ (by kernel_rfl)
                  · intro u W hC _
                    unfold Facts.one
                    go_simp
                    first | exact ⟨Grew.refl _, rfl⟩ | rfl
                  simp only [Act.put, List.setIfInBounds_toArray, List.set_cons_zero, List.set_cons_succ, Nat.reduceAdd]
                  apply Facts.Lex.exact [] _ (by kernel_rfl)
                  · intro u W hC _
                    unfold Facts.one
                    go_simp
                    first | exact ⟨Grew.refl _, rfl⟩ | rfl
                  simp only [Act.put, List.setIfInBounds_toArray, List.set_cons_zero, List.set_cons_succ, Nat.reduceAdd]
                  apply Facts.Lex.exact [] _ (by kernel_rfl)
                  · intro u W hC _
                    unfold Facts.one
                    go_simp
                    first | exact ⟨Grew.refl _, rfl⟩ | rfl
                  simp only [Act.put, List.setIfInBounds_toArray, List.set_cons_zero, List.set_cons_succ, Nat.reduceAdd]
                  apply Facts.Lex.exact [] _ (by kernel_rfl)
                  · intro u W hC _
                    unfold Facts.one
                    go_simp
                    first | exact ⟨Grew.refl _, rfl⟩ | rfl
                  simp only [Act.put, List.setIfInBounds_toArray, List.set_cons_zero, List.set_cons_succ, Nat.reduceAdd]
                  apply Facts.Lex.exact [] _ (by kernel_rfl)
                  · intro u W hC _
                    unfold Facts.one
                    go_simp
                    first | exact ⟨Grew.refl _, rfl⟩ | rfl
                  simp only [Act.put, List.setIfInBounds_toArray, List.set_cons_zero, List.set_cons_succ, Nat.reduceAdd]
                  apply Facts.Lex.exact [] _ (by kernel_rfl)
                  · intro u W hC _
                    unfold Facts.one
                    go_simp
                    first | exact ⟨Grew.refl _, rfl⟩ | rfl
                  simp only [Act.put, List.setIfInBounds_toArray, List.set_cons_zero, List.set_cons_succ, Nat.reduceAdd]
                  apply Facts.Lex.exact [] _ (by kernel_rfl)
                  · intro u W hC _
                    unfold Facts.one
                    go_simp
                    first | exact ⟨Grew.refl _, rfl⟩ | rfl
                  simp only [Act.put, List.setIfInBounds_toArray, List.set_cons_zero, List.set_cons_succ, Nat.reduceAdd]
                  apply Facts.Lex.exact [] _ (by kernel_rfl)
                  · intro u W hC _
                    unfold Facts.one
                    go_simp
                    first | exact ⟨Grew.refl _, rfl⟩ | rfl
                  simp only [Act.put, List.setIfInBounds_toArray, List.set_cons_zero, List.set_cons_succ, Nat.reduceAdd]
                  apply Facts.Lex.exact [] _ (by kernel_rfl)
                  · intro u W hC _
                    unfold Facts.one
                    go_simp
                    first | exact ⟨Grew.refl _, rfl⟩ | rfl
                  simp only [Act.put, List.setIfInBounds_toArray, List.set_cons_zero, List.set_cons_succ, Nat.reduceAdd]
                  refine Facts.Lex.done fun u W2 hC hL => ?_
                  have G2 := Lib.hid (HG.out.trans hC)
                  have C9 := Lib.hid (cellB hC C0.out)
                  clear hC hL
                  have c0 := C9.out
                  go_wp2_with fail
                  refine (HHA.out W2).mono ?_
                  rintro e w3 ⟨rfl, hg⟩
                  have G3 := Lib.hid (G2.out.trans hg)
                  clear hg c0
                  go_wp2_with fail
                  refine (HPA.out _ G3.out).mono ?_
                  rintro e w4 ⟨rfl, hg⟩
                  have G4 := Lib.hid (G3.out.trans hg)
                  clear hg
                  by_cases hp : fi < 0
                  · have HR := Lib.hid (HO.out (HNO.out (by rw [← HAN.out]; exact decide_eq_false (by omega))))
                    go_wp2
                    go_returns
                    refine ⟨?_, G4.out⟩
                    rw [HR.out]
                    try rfl
                  · have HS4 := Lib.hid (HSS.out (HGY.out (by rw [← HAN.out]; exact decide_eq_true (by omega))))
                    go_wp2
                    go_roundg g
                    case measure => omega
                    case rel => exact ⟨0 + 1, by have := HKG.out; omega, by first | rfl | simp [hkw] | simp, HS4, G4⟩
        | succ j =>
          have hkl : (j + 1) < r.guilds.length := by omega
          obtain ⟨ad, c2, e, hc, c0, c1⟩ := Gs_at (HL3.out.grew HG.out) (gu_get (k := (j + 1)) hkl)
          injection e with e1 _ e3
          subst e1 e3
          have C0 := Lib.hid c0
          have C1 := Lib.hid c1
          obtain ⟨ad2, c4, e, hc', p0, _⟩ := Gs_at (HL3.out.grew HG.out) (gu_get (k := j) (by omega))
          injection e with e1 _ e3
          injection e1 with e1
          subst e1 e3
          have P0 := Lib.hid p0
          clear p0
          have hjl : (j : Int) < (r.guilds.length : Int) := by omega
          have hjl2 : (j : Int) + 1 < (r.guilds.length : Int) := by omega
          have HO := Lib.hid (HONE.out (j + 1) hkl)
          have HNO := Lib.hid (@gk_no r (j + 1) hkl)
          have HYS := Lib.hid (@gk_yes r (j + 1) hkl)
          have HSS : Hid (RGuilds.gk r (j + 1) = true → ∀ i, i < (j + 1) + 1 → RGuilds.gk r i = true) := Lib.hid fun q => upto_step (P := fun i => RGuilds.gk r i = true) HJ.out q
          have hb8 : (r.guilds.length : Int) ≤ 8 := by have := H8.out; omega
          have hkw : wrap64 ((j : Int) + 1 + 1) = (j : Int) + 1 + 1 := by unfold wrap64; omega
          have hkw2 : IntKind.i64.wrap (j : Int) = (j : Int) := by rw [IntKind.wrap_i64]; omega
          rw [last_succ r j] at HNO HYS
          generalize gu r j = y at *
          obtain ⟨pb, pf⟩ := y
          simp only at P0 HNO HYS
          clear c0 c1 hkl hb8
          generalize gu r (j + 1) = x at *
          generalize RGuilds.gk r (j + 1) = bk at *
          obtain ⟨bit, fo⟩ := x
          simp only at C0 C1
          have HKG := Lib.hid hkg
          clear hkg
          by_cases q1 : bit < 0
          · have HR := Lib.hid (HO.out (HNO.out (.inl (by simp only; omega))))
            go_wp2
            refine Facts.wp_region_text (by kernel_rfl) (by kernel_rfl) ?_
            apply Facts.Lex.exact [] _ (by kernel_rfl)
            · intro u W hC _
              unfold Facts.one
              go_simp
              first | exact ⟨Grew.refl _, rfl⟩ | rfl
            simp only [Act.put, List.setIfInBounds_toArray, List.set_cons_zero, List.set_cons_succ, Nat.zero_add]
            apply Facts.Lex.exact [] _ (by kernel_rfl)
            · intro u W hC _
              unfold Facts.one
              go_simp
              first | exact ⟨Grew.refl _, rfl⟩ | rfl
            simp only [Act.put, List.setIfInBounds_toArray, List.set_cons_zero, List.set_cons_succ, Nat.reduceAdd]
            apply Facts.Lex.exact [] _ (by kernel_rfl)
            · intro u W hC _
              unfold Facts.one
              go_simp
              first | exact ⟨Grew.refl _, rfl⟩ | rfl
            simp only [Act.put, List.setIfInBounds_toArray, List.set_cons_zero, List.set_cons_succ, Nat.reduceAdd]
            apply Facts.Lex.exact [] _ (by kernel_rfl)
            · intro u W hC _
              unfold Facts.one
              go_simp
              first | exact ⟨Grew.refl _, rfl⟩ | rfl
            simp only [Act.put, List.setIfInBounds_toArray, List.set_cons_zero, List.set_cons_succ, Nat.reduceAdd]
            apply Facts.Lex.exact [] _ (by kernel_rfl)
            · intro u W hC _
              have c0 := cellB hC C0.out
              unfold Facts.one
              go_simp
              first | exact ⟨Grew.refl _, rfl⟩ | rfl
            simp only [Act.put, List.setIfInBounds_toArray, List.set_cons_zero, List.set_cons_succ, Nat.reduceAdd]
            apply Facts.Lex.exact [] _ (by kernel_rfl)
            · intro u W hC _
              unfold Facts.one
              go_simp
              first | exact ⟨Grew.refl _, rfl⟩ | rfl
            simp only [Act.put, List.setIfInBounds_toArray, List.set_cons_zero, List.set_cons_succ, Nat.reduceAdd]
            apply Facts.Lex.exact [] _ (by kernel_rfl)
            · intro u W hC _
              unfold Facts.one
              go_simp
              first | exact ⟨Grew.refl _, rfl⟩ | rfl
            simp only [Act.put, List.setIfInBounds_toArray, List.set_cons_zero, List.set_cons_succ, Nat.reduceAdd]
            apply Facts.Lex.exact [] _ (by kernel_rfl)
            · intro u W hC _
              unfold Facts.one
              go_simp
              first | exact ⟨Grew.refl _, rfl⟩ | rfl
            simp only [Act.put, List.setIfInBounds_toArray, List.set_cons_zero, List.set_cons_succ, Nat.reduceAdd]
            apply Facts.Lex.exact [] _ (by kernel_rfl)
            · intro u W hC _
              unfold Facts.one
              go_simp
              first | exact ⟨Grew.refl _, rfl⟩ | rfl
            simp only [Act.put, List.setIfInBounds_toArray, List.set_cons_zero, List.set_cons_succ, Nat.reduceAdd]
            apply Facts.Lex.exact [] _ (by kernel_rfl)
            · intro u W hC _
              unfold Facts.one
              go_simp
              first | exact ⟨Grew.refl _, rfl⟩ | rfl
            simp only [Act.put, List.setIfInBounds_toArray, List.set_cons_zero, List.set_cons_succ, Nat.reduceAdd]
            apply Facts.Lex.exact [] _ (by kernel_rfl)
            · intro u W hC _
              unfold Facts.one
              go_simp
              first | exact ⟨Grew.refl _, rfl⟩ | rfl
            simp only [Act.put, List.setIfInBounds_toArray, List.set_cons_zero, List.set_cons_succ, Nat.reduceAdd]
            apply Facts.Lex.exact [] _ (by kernel_rfl)
            · intro u W hC _
              have c0 := cellB hC C0.out
              unfold Facts.one
              go_simp
              first | exact ⟨Grew.refl _, rfl⟩ | rfl
            simp only [Act.put, List.setIfInBounds_toArray, List.set_cons_zero, List.set_cons_succ, Nat.reduceAdd]
            apply Facts.Lex.exact [] _ (by kernel_rfl)
            · intro u W hC _
              unfold Facts.one
              go_simp
              first | exact ⟨Grew.refl _, rfl⟩ | rfl
            simp only [Act.put, List.setIfInBounds_toArray, List.set_cons_zero, List.set_cons_succ, Nat.reduceAdd]
            apply Facts.Lex.exact [] _ (by kernel_rfl)
            · intro u W hC _
              unfold Facts.one
              go_simp
              first | exact ⟨Grew.refl _, rfl⟩ | rfl
            simp only [Act.put, List.setIfInBounds_toArray, List.set_cons_zero, List.set_cons_succ, Nat.reduceAdd]
            apply Facts.Lex.exact [] _ (by kernel_rfl)
            · intro u W hC _
              unfold Facts.one
              go_simp
              first | exact ⟨Grew.refl _, rfl⟩ | rfl
            simp only [Act.put, List.setIfInBounds_toArray, List.set_cons_zero, List.set_cons_succ, Nat.reduceAdd]
            apply Facts.Lex.exact [] _ (by kernel_rfl)
            · intro u W hC _
              unfold Facts.one
              go_simp
              first | exact ⟨Grew.refl _, rfl⟩ | rfl
            simp only [Act.put, List.setIfInBounds_toArray, List.set_cons_zero, List.set_cons_succ, Nat.reduceAdd]
            apply Facts.Lex.exact [] _ (by kernel_rfl)
            · intro u W hC _
              unfold Facts.one
              go_simp
              first | exact ⟨Grew.refl _, rfl⟩ | rfl
            simp only [Act.put, List.setIfInBounds_toArray, List.set_cons_zero, List.set_cons_succ, Nat.reduceAdd]
            apply Facts.Lex.exact [] _ (by kernel_rfl)
            · intro u W hC _
              unfold Facts.one
              go_simp
              first | exact ⟨Grew.refl _, rfl⟩ | rfl
            simp only [Act.put, List.setIfInBounds_toArray, List.set_cons_zero, List.set_cons_succ, Nat.reduceAdd]
            apply Facts.Lex.exact [] _ (by kernel_rfl)
            · intro u W hC _
              unfold Facts.one
              go_simp
              first | exact ⟨Grew.refl _, rfl⟩ | rfl
            simp only [Act.put, List.setIfInBounds_toArray, List.set_cons_zero, List.set_cons_succ, Nat.reduceAdd]
            apply Facts.Lex.exact [] _ (by kernel_rfl)
            · intro u W hC _
              have c1 := cellB hC C1.out
              unfold Facts.one
              go_simp
              first | exact ⟨Grew.refl _, rfl⟩ | rfl
            simp only [Act.put, List.setIfInBounds_toArray, List.set_cons_zero, List.set_cons_succ, Nat.reduceAdd]
            apply Facts.Lex.exact [] _ (by kernel_rfl)
            · intro u W hC _
              unfold Facts.one
              go_simp
              first | exact ⟨Grew.refl _, rfl⟩ | rfl
            simp only [Act.put, List.setIfInBounds_toArray, List.set_cons_zero, List.set_cons_succ, Nat.reduceAdd]
            apply Facts.Lex.exact [] _ (by kernel_rfl)
            · intro u W hC _
              unfold Facts.one
              go_simp
              first | exact ⟨Grew.refl _, rfl⟩ | rfl
            simp only [Act.put, List.setIfInBounds_toArray, List.set_cons_zero, List.set_cons_succ, Nat.reduceAdd]
            apply Facts.Lex.exact [] _ (by kernel_rfl)
            · intro u W hC _
              unfold Facts.one
              go_simp
              first | exact ⟨Grew.refl _, rfl⟩ | rfl
            simp only [Act.put, List.setIfInBounds_toArray, List.set_cons_zero, List.set_cons_succ, Nat.reduceAdd]
            apply Facts.Lex.exact [] _ (by kernel_rfl)
            · intro u W hC _
              unfold Facts.one
              go_simp
              first | exact ⟨Grew.refl _, rfl⟩ | rfl
            simp only [Act.put, List.setIfInBounds_toArray, List.set_cons_zero, List.set_cons_succ, Nat.reduceAdd]
            apply Facts.Lex.exact [] _ (by kernel_rfl)
            · intro u W hC _
              unfold Facts.one
              go_simp
              first | exact ⟨Grew.refl _, rfl⟩ | rfl
            simp only [Act.put, List.setIfInBounds_toArray, List.set_cons_zero, List.set_cons_succ, Nat.reduceAdd]
            apply Facts.Lex.exact [] _ (by kernel_rfl)
            · intro u W hC _
              unfold Facts.one
              go_simp
              first | exact ⟨Grew.refl _, rfl⟩ | rfl
            simp only [Act.put, List.setIfInBounds_toArray, List.set_cons_zero, List.set_cons_succ, Nat.reduceAdd]
            apply Facts.Lex.exact [] _ (by kernel_rfl)
            · intro u W hC _
              unfold Facts.one
              go_simp
              first | exact ⟨Grew.refl _, rfl⟩ | rfl
            simp only [Act.put, List.setIfInBounds_toArray, List.set_cons_zero, List.set_cons_succ, Nat.reduceAdd]
            apply Facts.Lex.exact [] _ (by kernel_rfl)
            · intro u W hC _
              have c1 := cellB hC C1.out
              unfold Facts.one
              go_simp
              first | exact ⟨Grew.refl _, rfl⟩ | rfl
            simp only [Act.put, List.setIfInBounds_toArray, List.set_cons_zero, List.set_cons_succ, Nat.reduceAdd]
            apply Facts.Lex.exact [] _ (by kernel_rfl)
            · intro u W hC _
              unfold Facts.one
              go_simp
              first | exact ⟨Grew.refl _, rfl⟩ | rfl
            simp only [Act.put, List.setIfInBounds_toArray, List.set_cons_zero, List.set_cons_succ, Nat.reduceAdd]
            apply Facts.Lex.exact [] _ (by kernel_rfl)
            · intro u W hC _
              unfold Facts.one
              go_simp
              first | exact ⟨Grew.refl _, rfl⟩ | rfl
            simp only [Act.put, List.setIfInBounds_toArray, List.set_cons_zero, List.set_cons_succ, Nat.reduceAdd]
            apply Facts.Lex.exact [] _ (by kernel_rfl)
            · intro u W hC _
              unfold Facts.one
              go_simp
              first | exact ⟨Grew.refl _, rfl⟩ | rfl
            simp only [Act.put, List.setIfInBounds_toArray, List.set_cons_zero, List.set_cons_succ, Nat.reduceAdd]
            apply Facts.Lex.exact [] _ (by kernel_rfl)
            · intro u W hC _
              unfold Facts.one
              go_simp
              first | exact ⟨Grew.refl _, rfl⟩ | rfl
            simp only [Act.put, List.setIfInBounds_toArray, List.set_cons_zero, List.set_cons_succ, Nat.reduceAdd]
            apply Facts.Lex.exact [] _ (by kernel_rfl)
            · intro u W hC _
              unfold Facts.one
              go_simp
              first | exact ⟨Grew.refl _, rfl⟩ | rfl
            simp only [Act.put, List.setIfInBounds_toArray, List.set_cons_zero, List.set_cons_succ, Nat.reduceAdd]
            apply Facts.Lex.exact [] _ (by kernel_rfl)
            · intro u W hC _
              unfold Facts.one
              go_simp
              first | exact ⟨Grew.refl _, rfl⟩ | rfl
            simp only [Act.put, List.setIfInBounds_toArray, List.set_cons_zero, List.set_cons_succ, Nat.reduceAdd]
            apply Facts.Lex.exact [] _ (by kernel_rfl)
            · intro u W hC _
              unfold Facts.one
              go_simp
              first | exact ⟨Grew.refl _, rfl⟩ | rfl
            simp only [Act.put, List.setIfInBounds_toArray, List.set_cons_zero, List.set_cons_succ, Nat.reduceAdd]
            apply Facts.Lex.exact [] _ (by kernel_rfl)
            · intro u W hC _
              unfold Facts.one
              go_simp
              first | exact ⟨Grew.refl _, rfl⟩ | rfl
            simp only [Act.put, List.setIfInBounds_toArray, List.set_cons_zero, List.set_cons_succ, Nat.reduceAdd]
            apply Facts.Lex.exact [] _ (by kernel_rfl)
            · intro u W hC _
              unfold Facts.one
              go_simp
              first | exact ⟨Grew.refl _, rfl⟩ | rfl
            simp only [Act.put, List.setIfInBounds_toArray, List.set_cons_zero, List.set_cons_succ, Nat.reduceAdd]
            apply Facts.Lex.exact [] _ (by kernel_rfl)
            · intro u W hC _
              unfold Facts.one
              go_simp
              first | exact ⟨Grew.refl _, rfl⟩ | rfl
            simp only [Act.put, List.setIfInBounds_toArray, List.set_cons_zero, List.set_cons_succ, Nat.reduceAdd]
            apply Facts.Lex.exact [] _ (by kernel_rfl)
            · intro u W hC _
              unfold Facts.one
              go_simp
              first | exact ⟨Grew.refl _, rfl⟩ | rfl
            simp only [Act.put, List.setIfInBounds_toArray, List.set_cons_zero, List.set_cons_succ, Nat.reduceAdd]
            apply Facts.Lex.exact [] _ (by kernel_rfl)
            · intro u W hC _
              unfold Facts.one
              go_simp
              first | exact ⟨Grew.refl _, rfl⟩ | rfl
            simp only [Act.put, List.setIfInBounds_toArray, List.set_cons_zero, List.set_cons_succ, Nat.reduceAdd]
            apply Facts.Lex.exact [] _ (by kernel_rfl)
            · intro u W hC _
              have p0 := cellB hC P0.out
              unfold Facts.one
              go_simp
              first | exact ⟨Grew.refl _, rfl⟩ | rfl
            simp only [Act.put, List.setIfInBounds_toArray, List.set_cons_zero, List.set_cons_succ, Nat.reduceAdd]
            apply Facts.Lex.exact [] _ (by kernel_rfl)
            · intro u W hC _
              unfold Facts.one
              go_simp
              first | exact ⟨Grew.refl _, rfl⟩ | rfl
            simp only [Act.put, List.setIfInBounds_toArray, List.set_cons_zero, List.set_cons_succ, Nat.reduceAdd]
            apply Facts.Lex.exact [] _ (by kernel_rfl)
            · intro u W hC _
              unfold Facts.one
              go_simp
              first | exact ⟨Grew.refl _, rfl⟩ | rfl
            simp only [Act.put, List.setIfInBounds_toArray, List.set_cons_zero, List.set_cons_succ, Nat.reduceAdd]
            apply Facts.Lex.exact [] _ (by kernel_rfl)
            · intro u W hC _
              unfold Facts.one
              go_simp
              first | exact ⟨Grew.refl _, rfl⟩ | rfl
            simp only [Act.put, List.setIfInBounds_toArray, List.set_cons_zero, List.set_cons_succ, Nat.reduceAdd]
            apply Facts.Lex.exact [] _ (by kernel_rfl)
            · intro u W hC _
              unfold Facts.one
              go_simp
              first | exact ⟨Grew.refl _, rfl⟩ | rfl
            simp only [Act.put, List.setIfInBounds_toArray, List.set_cons_zero, List.set_cons_succ, Nat.reduceAdd]
            apply Facts.Lex.exact [] _ (by kernel_rfl)
            · intro u W hC _
              have c0 := cellB hC C0.out
              unfold Facts.one
              go_simp
              first | exact ⟨Grew.refl _, rfl⟩ | rfl
            simp only [Act.put, List.setIfInBounds_toArray, List.set_cons_zero, List.set_cons_succ, Nat.reduceAdd]
            apply Facts.Lex.exact [] _ (by kernel_rfl)
            · intro u W hC _
              unfold Facts.one
              go_simp
              first | exact ⟨Grew.refl _, rfl⟩ | rfl
            simp only [Act.put, List.setIfInBounds_toArray, List.set_cons_zero, List.set_cons_succ, Nat.reduceAdd]
            apply Facts.Lex.exact [] _ (by kernel_rfl)
            · intro u W hC _
              unfold Facts.one
              go_simp
              first | exact ⟨Grew.refl _, rfl⟩ | rfl
            simp only [Act.put, List.setIfInBounds_toArray, List.set_cons_zero, List.set_cons_succ, Nat.reduceAdd]
            apply Facts.Lex.exact [] _ (by kernel_rfl)
            · intro u W hC _
              unfold Facts.one
              go_simp
              first | exact ⟨Grew.refl _, rfl⟩ | rfl
            simp only [Act.put, List.setIfInBounds_toArray, List.set_cons_zero, List.set_cons_succ, Nat.reduceAdd]
            refine Facts.Lex.done fun u W2 hC hL => ?_
            have G2 := Lib.hid (HG.out.trans hC)
            clear hC hL
            go_wp2
            go_returns
            refine ⟨?_, G2.out⟩
            rw [HR.out]
            try rfl
          · by_cases q2 : 63 < bit
            · have HR := Lib.hid (HO.out (HNO.out (.inr (.inl (by simp only; omega)))))
              go_wp2
              refine Facts.wp_region_text (by kernel_rfl) (by kernel_rfl) ?_
              apply Facts.Lex.exact [] _ (by kernel_rfl)
              · intro u W hC _
                unfold Facts.one
                go_simp
                first | exact ⟨Grew.refl _, rfl⟩ | rfl
              simp only [Act.put, List.setIfInBounds_toArray, List.set_cons_zero, List.set_cons_succ, Nat.zero_add]
              apply Facts.Lex.exact [] _ (by kernel_rfl)
              · intro u W hC _
                unfold Facts.one
                go_simp
                first | exact ⟨Grew.refl _, rfl⟩ | rfl
              simp only [Act.put, List.setIfInBounds_toArray, List.set_cons_zero, List.set_cons_succ, Nat.reduceAdd]
              apply Facts.Lex.exact [] _ (by kernel_rfl)
              · intro u W hC _
                unfold Facts.one
                go_simp
                first | exact ⟨Grew.refl _, rfl⟩ | rfl
              simp only [Act.put, List.setIfInBounds_toArray, List.set_cons_zero, List.set_cons_succ, Nat.reduceAdd]
              apply Facts.Lex.exact [] _ (by kernel_rfl)
              · intro u W hC _
                unfold Facts.one
                go_simp
                first | exact ⟨Grew.refl _, rfl⟩ | rfl
              simp only [Act.put, List.setIfInBounds_toArray, List.set_cons_zero, List.set_cons_succ, Nat.reduceAdd]
              apply Facts.Lex.exact [] _ (by kernel_rfl)
              · intro u W hC _
                have c0 := cellB hC C0.out
                unfold Facts.one
                go_simp
                first | exact ⟨Grew.refl _, rfl⟩ | rfl
              simp only [Act.put, List.setIfInBounds_toArray, List.set_cons_zero, List.set_cons_succ, Nat.reduceAdd]
              apply Facts.Lex.exact [] _ (by kernel_rfl)
              · intro u W hC _
                unfold Facts.one
                go_simp
                first | exact ⟨Grew.refl _, rfl⟩ | rfl
              simp only [Act.put, List.setIfInBounds_toArray, List.set_cons_zero, List.set_cons_succ, Nat.reduceAdd]
              apply Facts.Lex.exact [] _ (by kernel_rfl)
              · intro u W hC _
                unfold Facts.one
                go_simp
                first | exact ⟨Grew.refl _, rfl⟩ | rfl
              simp only [Act.put, List.setIfInBounds_toArray, List.set_cons_zero, List.set_cons_succ, Nat.reduceAdd]
              apply Facts.Lex.exact [] _ (by kernel_rfl)
              · intro u W hC _
                unfold Facts.one
                go_simp
                first | exact ⟨Grew.refl _, rfl⟩ | rfl
              simp only [Act.put, List.setIfInBounds_toArray, List.set_cons_zero, List.set_cons_succ, Nat.reduceAdd]
              apply Facts.Lex.exact [] _ (by kernel_rfl)
              · intro u W hC _
                unfold Facts.one
                go_simp
                first | exact ⟨Grew.refl _, rfl⟩ | rfl
              simp only [Act.put, List.setIfInBounds_toArray, List.set_cons_zero, List.set_cons_succ, Nat.reduceAdd]
              apply Facts.Lex.exact [] _ (by kernel_rfl)
              · intro u W hC _
                unfold Facts.one
                go_simp
                first | exact ⟨Grew.refl _, rfl⟩ | rfl
              simp only [Act.put, List.setIfInBounds_toArray, List.set_cons_zero, List.set_cons_succ, Nat.reduceAdd]
              apply Facts.Lex.exact [] _ (by kernel_rfl)
              · intro u W hC _
                unfold Facts.one
                go_simp
                first | exact ⟨Grew.refl _, rfl⟩ | rfl
              simp only [Act.put, List.setIfInBounds_toArray, List.set_cons_zero, List.set_cons_succ, Nat.reduceAdd]
              apply Facts.Lex.exact [] _ (by kernel_rfl)
              · intro u W hC _
                have c0 := cellB hC C0.out
                unfold Facts.one
                go_simp
                first | exact ⟨Grew.refl _, rfl⟩ | rfl
              simp only [Act.put, List.setIfInBounds_toArray, List.set_cons_zero, List.set_cons_succ, Nat.reduceAdd]
              apply Facts.Lex.exact [] _ (by kernel_rfl)
              · intro u W hC _
                unfold Facts.one
                go_simp
                first | exact ⟨Grew.refl _, rfl⟩ | rfl
              simp only [Act.put, List.setIfInBounds_toArray, List.set_cons_zero, List.set_cons_succ, Nat.reduceAdd]
              apply Facts.Lex.exact [] _ (by kernel_rfl)
              · intro u W hC _
                unfold Facts.one
                go_simp
                first | exact ⟨Grew.refl _, rfl⟩ | rfl
              simp only [Act.put, List.setIfInBounds_toArray, List.set_cons_zero, List.set_cons_succ, Nat.reduceAdd]
              apply Facts.Lex.exact [] _ (by kernel_rfl)
              · intro u W hC _
                unfold Facts.one
                go_simp
                first | exact ⟨Grew.refl _, rfl⟩ | rfl
              simp only [Act.put, List.setIfInBounds_toArray, List.set_cons_zero, List.set_cons_succ, Nat.reduceAdd]
              apply Facts.Lex.exact [] _ (by kernel_rfl)
              · intro u W hC _
                unfold Facts.one
                go_simp
                first | exact ⟨Grew.refl _, rfl⟩ | rfl
              simp only [Act.put, List.setIfInBounds_toArray, List.set_cons_zero, List.set_cons_succ, Nat.reduceAdd]
              apply Facts.Lex.exact [] _ (by kernel_rfl)
              · intro u W hC _
                unfold Facts.one
                go_simp
                first | exact ⟨Grew.refl _, rfl⟩ | rfl
              simp only [Act.put, List.setIfInBounds_toArray, List.set_cons_zero, List.set_cons_succ, Nat.reduceAdd]
              apply Facts.Lex.exact [] _ (by kernel_rfl)
              · intro u W hC _
                unfold Facts.one
                go_simp
                first | exact ⟨Grew.refl _, rfl⟩ | rfl
              simp only [Act.put, List.setIfInBounds_toArray, List.set_cons_zero, List.set_cons_succ, Nat.reduceAdd]
              apply Facts.Lex.exact [] _ (by kernel_rfl)
              · intro u W hC _
                unfold Facts.one
                go_simp
                first | exact ⟨Grew.refl _, rfl⟩ | rfl
              simp only [Act.put, List.setIfInBounds_toArray, List.set_cons_zero, List.set_cons_succ, Nat.reduceAdd]
              apply Facts.Lex.exact [] _ (by kernel_rfl)
              · intro u W hC _
                have c1 := cellB hC C1.out
                unfold Facts.one
                go_simp
                first | exact ⟨Grew.refl _, rfl⟩ | rfl
              simp only [Act.put, List.setIfInBounds_toArray, List.set_cons_zero, List.set_cons_succ, Nat.reduceAdd]
              apply Facts.Lex.exact [] _ (by kernel_rfl)
              · intro u W hC _
                unfold Facts.one
                go_simp
                first | exact ⟨Grew.refl _, rfl⟩ | rfl
              simp only [Act.put, List.setIfInBounds_toArray, List.set_cons_zero, List.set_cons_succ, Nat.reduceAdd]
              apply Facts.Lex.exact [] _ (by kernel_rfl)
              · intro u W hC _
                unfold Facts.one
                go_simp
                first | exact ⟨Grew.refl _, rfl⟩ | rfl
              simp only [Act.put, List.setIfInBounds_toArray, List.set_cons_zero, List.set_cons_succ, Nat.reduceAdd]
              apply Facts.Lex.exact [] _ (by kernel_rfl)
              · intro u W hC _
                unfold Facts.one
                go_simp
                first | exact ⟨Grew.refl _, rfl⟩ | rfl
              simp only [Act.put, List.setIfInBounds_toArray, List.set_cons_zero, List.set_cons_succ, Nat.reduceAdd]
              apply Facts.Lex.exact [] _ (by kernel_rfl)
              · intro u W hC _
                unfold Facts.one
                go_simp
                first | exact ⟨Grew.refl _, rfl⟩ | rfl
              simp only [Act.put, List.setIfInBounds_toArray, List.set_cons_zero, List.set_cons_succ, Nat.reduceAdd]
              apply Facts.Lex.exact [] _ (by kernel_rfl)
              · intro u W hC _
                unfold Facts.one
                go_simp
                first | exact ⟨Grew.refl _, rfl⟩ | rfl
              simp only [Act.put, List.setIfInBounds_toArray, List.set_cons_zero, List.set_cons_succ, Nat.reduceAdd]
              apply Facts.Lex.exact [] _ (by kernel_rfl)
              · intro u W hC _
                unfold Facts.one
                go_simp
                first | exact ⟨Grew.refl _, rfl⟩ | rfl
              simp only [Act.put, List.setIfInBounds_toArray, List.set_cons_zero, List.set_cons_succ, Nat.reduceAdd]
              apply Facts.Lex.exact [] _ (by kernel_rfl)
              · intro u W hC _
                unfold Facts.one
                go_simp
                first | exact ⟨Grew.refl _, rfl⟩ | rfl
              simp only [Act.put, List.setIfInBounds_toArray, List.set_cons_zero, List.set_cons_succ, Nat.reduceAdd]
              apply Facts.Lex.exact [] _ (by kernel_rfl)
              · intro u W hC _
                have c1 := cellB hC C1.out
                unfold Facts.one
                go_simp
                first | exact ⟨Grew.refl _, rfl⟩ | rfl
              simp only [Act.put, List.setIfInBounds_toArray, List.set_cons_zero, List.set_cons_succ, Nat.reduceAdd]
              apply Facts.Lex.exact [] _ (by kernel_rfl)
              · intro u W hC _
                unfold Facts.one
                go_simp
                first | exact ⟨Grew.refl _, rfl⟩ | rfl
              simp only [Act.put, List.setIfInBounds_toArray, List.set_cons_zero, List.set_cons_succ, Nat.reduceAdd]
              apply Facts.Lex.exact [] _ (by kernel_rfl)
              · intro u W hC _
                unfold Facts.one
                go_simp
                first | exact ⟨Grew.refl _, rfl⟩ | rfl
              simp only [Act.put, List.setIfInBounds_toArray, List.set_cons_zero, List.set_cons_succ, Nat.reduceAdd]
              apply Facts.Lex.exact [] _ (by kernel_rfl)
              · intro u W hC _
                unfold Facts.one
                go_simp
                first | exact ⟨Grew.refl _, rfl⟩ | rfl
              simp only [Act.put, List.setIfInBounds_toArray, List.set_cons_zero, List.set_cons_succ, Nat.reduceAdd]
              apply Facts.Lex.exact [] _ (by kernel_rfl)
              · intro u W hC _
                unfold Facts.one
                go_simp
                first | exact ⟨Grew.refl _, rfl⟩ | rfl
              simp only [Act.put, List.setIfInBounds_toArray, List.set_cons_zero, List.set_cons_succ, Nat.reduceAdd]
              apply Facts.Lex.exact [] _ (by kernel_rfl)
              · intro u W hC _
                unfold Facts.one
                go_simp
                first | exact ⟨Grew.refl _, rfl⟩ | rfl
              simp only [Act.put, List.setIfInBounds_toArray, List.set_cons_zero, List.set_cons_succ, Nat.reduceAdd]
              apply Facts.Lex.exact [] _ (by kernel_rfl)
              · intro u W hC _
                unfold Facts.one
                go_simp
                first | exact ⟨Grew.refl _, rfl⟩ | rfl
              simp only [Act.put, List.setIfInBounds_toArray, List.set_cons_zero, List.set_cons_succ, Nat.reduceAdd]
              apply Facts.Lex.exact [] _ (by kernel_rfl)
              · intro u W hC _
                unfold Facts.one
                go_simp
                first | exact ⟨Grew.refl _, rfl⟩ | rfl
              simp only [Act.put, List.setIfInBounds_toArray, List.set_cons_zero, List.set_cons_succ, Nat.reduceAdd]
              apply Facts.Lex.exact [] _ (by kernel_rfl)
              · intro u W hC _
                unfold Facts.one
                go_simp
                first | exact ⟨Grew.refl _, rfl⟩ | rfl
              simp only [Act.put, List.setIfInBounds_toArray, List.set_cons_zero, List.set_cons_succ, Nat.reduceAdd]
              apply Facts.Lex.exact [] _ (by kernel_rfl)
              · intro u W hC _
                unfold Facts.one
                go_simp
                first | exact ⟨Grew.refl _, rfl⟩ | rfl
              simp only [Act.put, List.setIfInBounds_toArray, List.set_cons_zero, List.set_cons_succ, Nat.reduceAdd]
              apply Facts.Lex.exact [] _ (by kernel_rfl)
              · intro u W hC _
                unfold Facts.one
                go_simp
                first | exact ⟨Grew.refl _, rfl⟩ | rfl
              simp only [Act.put, List.setIfInBounds_toArray, List.set_cons_zero, List.set_cons_succ, Nat.reduceAdd]
              apply Facts.Lex.exact [] _ (by kernel_rfl)
              · intro u W hC _
                unfold Facts.one
                go_simp
                first | exact ⟨Grew.refl _, rfl⟩ | rfl
              simp only [Act.put, List.setIfInBounds_toArray, List.set_cons_zero, List.set_cons_succ, Nat.reduceAdd]
              apply Facts.Lex.exact [] _ (by kernel_rfl)
              · intro u W hC _
                unfold Facts.one
                go_simp
                first | exact ⟨Grew.refl _, rfl⟩ | rfl
              simp only [Act.put, List.setIfInBounds_toArray, List.set_cons_zero, List.set_cons_succ, Nat.reduceAdd]
              apply Facts.Lex.exact [] _ (by kernel_rfl)
              · intro u W hC _
                have p0 := cellB hC P0.out
                unfold Facts.one
                go_simp
                first | exact ⟨Grew.refl _, rfl⟩ | rfl
              simp only [Act.put, List.setIfInBounds_toArray, List.set_cons_zero, List.set_cons_succ, Nat.reduceAdd]
              apply Facts.Lex.exact [] _ (by kernel_rfl)
              · intro u W hC _
                unfold Facts.one
                go_simp
                first | exact ⟨Grew.refl _, rfl⟩ | rfl
              simp only [Act.put, List.setIfInBounds_toArray, List.set_cons_zero, List.set_cons_succ, Nat.reduceAdd]
              apply Facts.Lex.exact [] _ (by kernel_rfl)
              · intro u W hC _
                unfold Facts.one
                go_simp
                first | exact ⟨Grew.refl _, rfl⟩ | rfl
              simp only [Act.put, List.setIfInBounds_toArray, List.set_cons_zero, List.set_cons_succ, Nat.reduceAdd]
              apply Facts.Lex.exact [] _ (by kernel_rfl)
              · intro u W hC _
                unfold Facts.one
                go_simp
                first | exact ⟨Grew.refl _, rfl⟩ | rfl
              simp only [Act.put, List.setIfInBounds_toArray, List.set_cons_zero, List.set_cons_succ, Nat.reduceAdd]
              apply Facts.Lex.exact [] _ (by kernel_rfl)
              · intro u W hC _
                unfold Facts.one
                go_simp
                first | exact ⟨Grew.refl _, rfl⟩ | rfl
              simp only [Act.put, List.setIfInBounds_toArray, List.set_cons_zero, List.set_cons_succ, Nat.reduceAdd]
              apply Facts.Lex.exact [] _ (by kernel_rfl)
              · intro u W hC _
                have c0 := cellB hC C0.out
                unfold Facts.one
                go_simp
                first | exact ⟨Grew.refl _, rfl⟩ | rfl
              simp only [Act.put, List.setIfInBounds_toArray, List.set_cons_zero, List.set_cons_succ, Nat.reduceAdd]
              apply Facts.Lex.exact [] _ (by kernel_rfl)
              · intro u W hC _
                unfold Facts.one
                go_simp
                first | exact ⟨Grew.refl _, rfl⟩ | rfl
              simp only [Act.put, List.setIfInBounds_toArray, List.set_cons_zero, List.set_cons_succ, Nat.reduceAdd]
              apply Facts.Lex.exact [] _ (by kernel_rfl)
              · intro u W hC _
                unfold Facts.one
                go_simp
                first | exact ⟨Grew.refl _, rfl⟩ | rfl
              simp only [Act.put, List.setIfInBounds_toArray, List.set_cons_zero, List.set_cons_succ, Nat.reduceAdd]
              apply Facts.Lex.exact [] _ (by kernel_rfl)
              · intro u W hC _
                unfold Facts.one
                go_simp
                first | exact ⟨Grew.refl _, rfl⟩ | rfl
              simp only [Act.put, List.setIfInBounds_toArray, List.set_cons_zero, List.set_cons_succ, Nat.reduceAdd]
              refine Facts.Lex.done fun u W2 hC hL => ?_
              have G2 := Lib.hid (HG.out.trans hC)
              clear hC hL
              go_wp2
              go_returns
              refine ⟨?_, G2.out⟩
              rw [HR.out]
              try rfl
            · by_cases q3 : fo < 0
              · have HR := Lib.hid (HO.out (HNO.out (.inr (.inr (.inl (by simp only; omega))))))
                go_wp2
                refine Facts.wp_region_text (by kernel_rfl) (by kernel_rfl) ?_
                apply Facts.Lex.exact [] _ (by kernel_rfl)
                · intro u W hC _
                  unfold Facts.one
                  go_simp
                  first | exact ⟨Grew.refl _, rfl⟩ | rfl
                simp only [Act.put, List.setIfInBounds_toArray, List.set_cons_zero, List.set_cons_succ, Nat.zero_add]
                apply Facts.Lex.exact [] _ (by kernel_rfl)
                · intro u W hC _
                  unfold Facts.one
                  go_simp
                  first | exact ⟨Grew.refl _, rfl⟩ | rfl
                simp only [Act.put, List.setIfInBounds_toArray, List.set_cons_zero, List.set_cons_succ, Nat.reduceAdd]
                apply Facts.Lex.exact [] _ (by kernel_rfl)
                · intro u W hC _
                  unfold Facts.one
                  go_simp
                  first | exact ⟨Grew.refl _, rfl⟩ | rfl
                simp only [Act.put, List.setIfInBounds_toArray, List.set_cons_zero, List.set_cons_succ, Nat.reduceAdd]
                apply Facts.Lex.exact [] _ (by kernel_rfl)
                · intro u W hC _
                  unfold Facts.one
                  go_simp
                  first | exact ⟨Grew.refl _, rfl⟩ | rfl
                simp only [Act.put, List.setIfInBounds_toArray, List.set_cons_zero, List.set_cons_succ, Nat.reduceAdd]
                apply Facts.Lex.exact [] _ (by kernel_rfl)
                · intro u W hC _
                  have c0 := cellB hC C0.out
                  unfold Facts.one
                  go_simp
                  first | exact ⟨Grew.refl _, rfl⟩ | rfl
                simp only [Act.put, List.setIfInBounds_toArray, List.set_cons_zero, List.set_cons_succ, Nat.reduceAdd]
                apply Facts.Lex.exact [] _ (by kernel_rfl)
                · intro u W hC _
                  unfold Facts.one
                  go_simp
                  first | exact ⟨Grew.refl _, rfl⟩ | rfl
                simp only [Act.put, List.setIfInBounds_toArray, List.set_cons_zero, List.set_cons_succ, Nat.reduceAdd]
                apply Facts.Lex.exact [] _ (by kernel_rfl)
                · intro u W hC _
                  unfold Facts.one
                  go_simp
                  first | exact ⟨Grew.refl _, rfl⟩ | rfl
                simp only [Act.put, List.setIfInBounds_toArray, List.set_cons_zero, List.set_cons_succ, Nat.reduceAdd]
                apply Facts.Lex.exact [] _ (by kernel_rfl)
                · intro u W hC _
                  unfold Facts.one
                  go_simp
                  first | exact ⟨Grew.refl _, rfl⟩ | rfl
                simp only [Act.put, List.setIfInBounds_toArray, List.set_cons_zero, List.set_cons_succ, Nat.reduceAdd]
                apply Facts.Lex.exact [] _ (by kernel_rfl)
                · intro u W hC _
                  unfold Facts.one
                  go_simp
                  first | exact ⟨Grew.refl _, rfl⟩ | rfl
                simp only [Act.put, List.setIfInBounds_toArray, List.set_cons_zero, List.set_cons_succ, Nat.reduceAdd]
                apply Facts.Lex.exact [] _ (by kernel_rfl)
                · intro u W hC _
                  unfold Facts.one
                  go_simp
                  first | exact ⟨Grew.refl _, rfl⟩ | rfl
                simp only [Act.put, List.setIfInBounds_toArray, List.set_cons_zero, List.set_cons_succ, Nat.reduceAdd]
                apply Facts.Lex.exact [] _ (by kernel_rfl)
                · intro u W hC _
                  unfold Facts.one
                  go_simp
                  first | exact ⟨Grew.refl _, rfl⟩ | rfl
                simp only [Act.put, List.setIfInBounds_toArray, List.set_cons_zero, List.set_cons_succ, Nat.reduceAdd]
                apply Facts.Lex.exact [] _ (by kernel_rfl)
                · intro u W hC _
                  have c0 := cellB hC C0.out
                  unfold Facts.one
                  go_simp
                  first | exact ⟨Grew.refl _, rfl⟩ | rfl
                simp only [Act.put, List.setIfInBounds_toArray, List.set_cons_zero, List.set_cons_succ, Nat.reduceAdd]
                apply Facts.Lex.exact [] _ (by kernel_rfl)
                · intro u W hC _
                  unfold Facts.one
                  go_simp
                  first | exact ⟨Grew.refl _, rfl⟩ | rfl
                simp only [Act.put, List.setIfInBounds_toArray, List.set_cons_zero, List.set_cons_succ, Nat.reduceAdd]
                apply Facts.Lex.exact [] _ (by kernel_rfl)
                · intro u W hC _
                  unfold Facts.one
                  go_simp
                  first | exact ⟨Grew.refl _, rfl⟩ | rfl
                simp only [Act.put, List.setIfInBounds_toArray, List.set_cons_zero, List.set_cons_succ, Nat.reduceAdd]
                apply Facts.Lex.exact [] _ (by kernel_rfl)
                · intro u W hC _
                  unfold Facts.one
                  go_simp
                  first | exact ⟨Grew.refl _, rfl⟩ | rfl
                simp only [Act.put, List.setIfInBounds_toArray, List.set_cons_zero, List.set_cons_succ, Nat.reduceAdd]
                apply Facts.Lex.exact [] _ (by kernel_rfl)
                · intro u W hC _
                  unfold Facts.one
                  go_simp
                  first | exact ⟨Grew.refl _, rfl⟩ | rfl
                simp only [Act.put, List.setIfInBounds_toArray, List.set_cons_zero, List.set_cons_succ, Nat.reduceAdd]
                apply Facts.Lex.exact [] _ (by kernel_rfl)
                · intro u W hC _
                  unfold Facts.one
                  go_simp
                  first | exact ⟨Grew.refl _, rfl⟩ | rfl
                simp only [Act.put, List.setIfInBounds_toArray, List.set_cons_zero, List.set_cons_succ, Nat.reduceAdd]
                apply Facts.Lex.exact [] _ (by kernel_rfl)
                · intro u W hC _
                  unfold Facts.one
                  go_simp
                  first | exact ⟨Grew.refl _, rfl⟩ | rfl
                simp only [Act.put, List.setIfInBounds_toArray, List.set_cons_zero, List.set_cons_succ, Nat.reduceAdd]
                apply Facts.Lex.exact [] _ (by kernel_rfl)
                · intro u W hC _
                  unfold Facts.one
                  go_simp
                  first | exact ⟨Grew.refl _, rfl⟩ | rfl
                simp only [Act.put, List.setIfInBounds_toArray, List.set_cons_zero, List.set_cons_succ, Nat.reduceAdd]
                apply Facts.Lex.exact [] _ (by kernel_rfl)
                · intro u W hC _
                  have c1 := cellB hC C1.out
                  unfold Facts.one
                  go_simp
                  first | exact ⟨Grew.refl _, rfl⟩ | rfl
                simp only [Act.put, List.setIfInBounds_toArray, List.set_cons_zero, List.set_cons_succ, Nat.reduceAdd]
                apply Facts.Lex.exact [] _ (by kernel_rfl)
                · intro u W hC _
                  unfold Facts.one
                  go_simp
                  first | exact ⟨Grew.refl _, rfl⟩ | rfl
                simp only [Act.put, List.setIfInBounds_toArray, List.set_cons_zero, List.set_cons_succ, Nat.reduceAdd]
                apply Facts.Lex.exact [] _ (by kernel_rfl)
                · intro u W hC _
                  unfold Facts.one
                  go_simp
                  first | exact ⟨Grew.refl _, rfl⟩ | rfl
                simp only [Act.put, List.setIfInBounds_toArray, List.set_cons_zero, List.set_cons_succ, Nat.reduceAdd]
                apply Facts.Lex.exact [] _ (by kernel_rfl)
                · intro u W hC _
                  unfold Facts.one
                  go_simp
                  first | exact ⟨Grew.refl _, rfl⟩ | rfl
                simp only [Act.put, List.setIfInBounds_toArray, List.set_cons_zero, List.set_cons_succ, Nat.reduceAdd]
                apply Facts.Lex.exact [] _ (by kernel_rfl)
                · intro u W hC _
                  unfold Facts.one
                  go_simp
                  first | exact ⟨Grew.refl _, rfl⟩ | rfl
                simp only [Act.put, List.setIfInBounds_toArray, List.set_cons_zero, List.set_cons_succ, Nat.reduceAdd]
                apply Facts.Lex.exact [] _ (by kernel_rfl)
                · intro u W hC _
                  unfold Facts.one
                  go_simp
                  first | exact ⟨Grew.refl _, rfl⟩ | rfl
                simp only [Act.put, List.setIfInBounds_toArray, List.set_cons_zero, List.set_cons_succ, Nat.reduceAdd]
                apply Facts.Lex.exact [] _ (by kernel_rfl)
                · intro u W hC _
                  unfold Facts.one
                  go_simp
                  first | exact ⟨Grew.refl _, rfl⟩ | rfl
                simp only [Act.put, List.setIfInBounds_toArray, List.set_cons_zero, List.set_cons_succ, Nat.reduceAdd]
                apply Facts.Lex.exact [] _ (by kernel_rfl)
                · intro u W hC _
                  unfold Facts.one
                  go_simp
                  first | exact ⟨Grew.refl _, rfl⟩ | rfl
                simp only [Act.put, List.setIfInBounds_toArray, List.set_cons_zero, List.set_cons_succ, Nat.reduceAdd]
                apply Facts.Lex.exact [] _ (by kernel_rfl)
                · intro u W hC _
                  have c1 := cellB hC C1.out
                  unfold Facts.one
                  go_simp
                  first | exact ⟨Grew.refl _, rfl⟩ | rfl
                simp only [Act.put, List.setIfInBounds_toArray, List.set_cons_zero, List.set_cons_succ, Nat.reduceAdd]
                apply Facts.Lex.exact [] _ (by kernel_rfl)
                · intro u W hC _
                  unfold Facts.one
                  go_simp
                  first | exact ⟨Grew.refl _, rfl⟩ | rfl
                simp only [Act.put, List.setIfInBounds_toArray, List.set_cons_zero, List.set_cons_succ, Nat.reduceAdd]
                apply Facts.Lex.exact [] _ (by kernel_rfl)
                · intro u W hC _
                  unfold Facts.one
                  go_simp
                  first | exact ⟨Grew.refl _, rfl⟩ | rfl
                simp only [Act.put, List.setIfInBounds_toArray, List.set_cons_zero, List.set_cons_succ, Nat.reduceAdd]
                apply Facts.Lex.exact [] _ (by kernel_rfl)
                · intro u W hC _
                  unfold Facts.one
                  go_simp
                  first | exact ⟨Grew.refl _, rfl⟩ | rfl
                simp only [Act.put, List.setIfInBounds_toArray, List.set_cons_zero, List.set_cons_succ, Nat.reduceAdd]
                apply Facts.Lex.exact [] _ (by kernel_rfl)
                · intro u W hC _
                  unfold Facts.one
                  go_simp
                  first | exact ⟨Grew.refl _, rfl⟩ | rfl
                simp only [Act.put, List.setIfInBounds_toArray, List.set_cons_zero, List.set_cons_succ, Nat.reduceAdd]
                apply Facts.Lex.exact [] _ (by kernel_rfl)
                · intro u W hC _
                  unfold Facts.one
                  go_simp
                  first | exact ⟨Grew.refl _, rfl⟩ | rfl
                simp only [Act.put, List.setIfInBounds_toArray, List.set_cons_zero, List.set_cons_succ, Nat.reduceAdd]
                apply Facts.Lex.exact [] _ (by kernel_rfl)
                · intro u W hC _
                  unfold Facts.one
                  go_simp
                  first | exact ⟨Grew.refl _, rfl⟩ | rfl
                simp only [Act.put, List.setIfInBounds_toArray, List.set_cons_zero, List.set_cons_succ, Nat.reduceAdd]
                apply Facts.Lex.exact [] _ (by kernel_rfl)
                · intro u W hC _
                  unfold Facts.one
                  go_simp
                  first | exact ⟨Grew.refl _, rfl⟩ | rfl
                simp only [Act.put, List.setIfInBounds_toArray, List.set_cons_zero, List.set_cons_succ, Nat.reduceAdd]
                apply Facts.Lex.exact [] _ (by kernel_rfl)
                · intro u W hC _
                  unfold Facts.one
                  go_simp
                  first | exact ⟨Grew.refl _, rfl⟩ | rfl
                simp only [Act.put, List.setIfInBounds_toArray, List.set_cons_zero, List.set_cons_succ, Nat.reduceAdd]
                apply Facts.Lex.exact [] _ (by kernel_rfl)
                · intro u W hC _
                  unfold Facts.one
                  go_simp
                  first | exact ⟨Grew.refl _, rfl⟩ | rfl
                simp only [Act.put, List.setIfInBounds_toArray, List.set_cons_zero, List.set_cons_succ, Nat.reduceAdd]
                apply Facts.Lex.exact [] _ (by kernel_rfl)
                · intro u W hC _
                  unfold Facts.one
                  go_simp
                  first | exact ⟨Grew.refl _, rfl⟩ | rfl
                simp only [Act.put, List.setIfInBounds_toArray, List.set_cons_zero, List.set_cons_succ, Nat.reduceAdd]
                apply Facts.Lex.exact [] _ (by kernel_rfl)
                · intro u W hC _
                  unfold Facts.one
                  go_simp
                  first | exact ⟨Grew.refl _, rfl⟩ | rfl
                simp only [Act.put, List.setIfInBounds_toArray, List.set_cons_zero, List.set_cons_succ, Nat.reduceAdd]
                apply Facts.Lex.exact [] _ (by kernel_rfl)
                · intro u W hC _
                  unfold Facts.one
                  go_simp
                  first | exact ⟨Grew.refl _, rfl⟩ | rfl
                simp only [Act.put, List.setIfInBounds_toArray, List.set_cons_zero, List.set_cons_succ, Nat.reduceAdd]
                apply Facts.Lex.exact [] _ (by kernel_rfl)
                · intro u W hC _
                  have p0 := cellB hC P0.out
                  unfold Facts.one
                  go_simp
                  first | exact ⟨Grew.refl _, rfl⟩ | rfl
                simp only [Act.put, List.setIfInBounds_toArray, List.set_cons_zero, List.set_cons_succ, Nat.reduceAdd]
                apply Facts.Lex.exact [] _ (by kernel_rfl)
                · intro u W hC _
                  unfold Facts.one
                  go_simp
                  first | exact ⟨Grew.refl _, rfl⟩ | rfl
                simp only [Act.put, List.setIfInBounds_toArray, List.set_cons_zero, List.set_cons_succ, Nat.reduceAdd]
                apply Facts.Lex.exact [] _ (by kernel_rfl)
                · intro u W hC _
                  unfold Facts.one
                  go_simp
                  first | exact ⟨Grew.refl _, rfl⟩ | rfl
                simp only [Act.put, List.setIfInBounds_toArray, List.set_cons_zero, List.set_cons_succ, Nat.reduceAdd]
                apply Facts.Lex.exact [] _ (by kernel_rfl)
                · intro u W hC _
                  unfold Facts.one
                  go_simp
                  first | exact ⟨Grew.refl _, rfl⟩ | rfl
                simp only [Act.put, List.setIfInBounds_toArray, List.set_cons_zero, List.set_cons_succ, Nat.reduceAdd]
                apply Facts.Lex.exact [] _ (by kernel_rfl)
                · intro u W hC _
                  unfold Facts.one
                  go_simp
                  first | exact ⟨Grew.refl _, rfl⟩ | rfl
                simp only [Act.put, List.setIfInBounds_toArray, List.set_cons_zero, List.set_cons_succ, Nat.reduceAdd]
                apply Facts.Lex.exact [] _ (by kernel_rfl)
                · intro u W hC _
                  have c0 := cellB hC C0.out
                  unfold Facts.one
                  go_simp
                  first | exact ⟨Grew.refl _, rfl⟩ | rfl
                simp only [Act.put, List.setIfInBounds_toArray, List.set_cons_zero, List.set_cons_succ, Nat.reduceAdd]
                apply Facts.Lex.exact [] _ (by kernel_rfl)
                · intro u W hC _
                  unfold Facts.one
                  go_simp
                  first | exact ⟨Grew.refl _, rfl⟩ | rfl
                simp only [Act.put, List.setIfInBounds_toArray, List.set_cons_zero, List.set_cons_succ, Nat.reduceAdd]
                apply Facts.Lex.exact [] _ (by kernel_rfl)
                · intro u W hC _
                  unfold Facts.one
                  go_simp
                  first | exact ⟨Grew.refl _, rfl⟩ | rfl
                simp only [Act.put, List.setIfInBounds_toArray, List.set_cons_zero, List.set_cons_succ, Nat.reduceAdd]
                apply Facts.Lex.exact [] _ (by kernel_rfl)
                · intro u W hC _
                  unfold Facts.one
                  go_simp
                  first | exact ⟨Grew.refl _, rfl⟩ | rfl
                simp only [Act.put, List.setIfInBounds_toArray, List.set_cons_zero, List.set_cons_succ, Nat.reduceAdd]
                refine Facts.Lex.done fun u W2 hC hL => ?_
                have G2 := Lib.hid (HG.out.trans hC)
                clear hC hL
                go_wp2
                go_returns
                refine ⟨?_, G2.out⟩
                rw [HR.out]
                try rfl
              · by_cases q4 : (r.accounts.length : Int) ≤ fo
                · have HR := Lib.hid (HO.out (HNO.out (.inr (.inr (.inr (.inl (by simp only; omega)))))))
                  go_wp2
                  refine Facts.wp_region_text (by kernel_rfl) (by kernel_rfl) ?_
                  apply Facts.Lex.exact [] _ (by kernel_rfl)
                  · intro u W hC _
                    unfold Facts.one
                    go_simp
                    first | exact ⟨Grew.refl _, rfl⟩ | rfl
                  simp only [Act.put, List.setIfInBounds_toArray, List.set_cons_zero, List.set_cons_succ, Nat.zero_add]
                  apply Facts.Lex.exact [] _ (by kernel_rfl)
                  · intro u W hC _
                    unfold Facts.one
                    go_simp
                    first | exact ⟨Grew.refl _, rfl⟩ | rfl
                  simp only [Act.put, List.setIfInBounds_toArray, List.set_cons_zero, List.set_cons_succ, Nat.reduceAdd]
                  apply Facts.Lex.exact [] _ (by kernel_rfl)
                  · intro u W hC _
                    unfold Facts.one
                    go_simp
                    first | exact ⟨Grew.refl _, rfl⟩ | rfl
                  simp only [Act.put, List.setIfInBounds_toArray, List.set_cons_zero, List.set_cons_succ, Nat.reduceAdd]
                  apply Facts.Lex.exact [] _ (by kernel_rfl)
                  · intro u W hC _
                    unfold Facts.one
                    go_simp
                    first | exact ⟨Grew.refl _, rfl⟩ | rfl
                  simp only [Act.put, List.setIfInBounds_toArray, List.set_cons_zero, List.set_cons_succ, Nat.reduceAdd]
                  apply Facts.Lex.exact [] _ (by kernel_rfl)
                  · intro u W hC _
                    have c0 := cellB hC C0.out
                    unfold Facts.one
                    go_simp
                    first | exact ⟨Grew.refl _, rfl⟩ | rfl
                  simp only [Act.put, List.setIfInBounds_toArray, List.set_cons_zero, List.set_cons_succ, Nat.reduceAdd]
                  apply Facts.Lex.exact [] _ (by kernel_rfl)
                  · intro u W hC _
                    unfold Facts.one
                    go_simp
                    first | exact ⟨Grew.refl _, rfl⟩ | rfl
                  simp only [Act.put, List.setIfInBounds_toArray, List.set_cons_zero, List.set_cons_succ, Nat.reduceAdd]
                  apply Facts.Lex.exact [] _ (by kernel_rfl)
                  · intro u W hC _
                    unfold Facts.one
                    go_simp
                    first | exact ⟨Grew.refl _, rfl⟩ | rfl
                  simp only [Act.put, List.setIfInBounds_toArray, List.set_cons_zero, List.set_cons_succ, Nat.reduceAdd]
                  apply Facts.Lex.exact [] _ (by kernel_rfl)
                  · intro u W hC _
                    unfold Facts.one
                    go_simp
                    first | exact ⟨Grew.refl _, rfl⟩ | rfl
                  simp only [Act.put, List.setIfInBounds_toArray, List.set_cons_zero, List.set_cons_succ, Nat.reduceAdd]
                  apply Facts.Lex.exact [] _ (by kernel_rfl)
                  · intro u W hC _
                    unfold Facts.one
                    go_simp
                    first | exact ⟨Grew.refl _, rfl⟩ | rfl
                  simp only [Act.put, List.setIfInBounds_toArray, List.set_cons_zero, List.set_cons_succ, Nat.reduceAdd]
                  apply Facts.Lex.exact [] _ (by kernel_rfl)
                  · intro u W hC _
                    unfold Facts.one
                    go_simp
                    first | exact ⟨Grew.refl _, rfl⟩ | rfl
                  simp only [Act.put, List.setIfInBounds_toArray, List.set_cons_zero, List.set_cons_succ, Nat.reduceAdd]
                  apply Facts.Lex.exact [] _ (by kernel_rfl)
                  · intro u W hC _
                    unfold Facts.one
                    go_simp
                    first | exact ⟨Grew.refl _, rfl⟩ | rfl
                  simp only [Act.put, List.setIfInBounds_toArray, List.set_cons_zero, List.set_cons_succ, Nat.reduceAdd]
                  apply Facts.Lex.exact [] _ (by kernel_rfl)
                  · intro u W hC _
                    have c0 := cellB hC C0.out
                    unfold Facts.one
                    go_simp
                    first | exact ⟨Grew.refl _, rfl⟩ | rfl
                  simp only [Act.put, List.setIfInBounds_toArray, List.set_cons_zero, List.set_cons_succ, Nat.reduceAdd]
                  apply Facts.Lex.exact [] _ (by kernel_rfl)
                  · intro u W hC _
                    unfold Facts.one
                    go_simp
                    first | exact ⟨Grew.refl _, rfl⟩ | rfl
                  simp only [Act.put, List.setIfInBounds_toArray, List.set_cons_zero, List.set_cons_succ, Nat.reduceAdd]
                  apply Facts.Lex.exact [] _ (by kernel_rfl)
                  · intro u W hC _
                    unfold Facts.one
                    go_simp
                    first | exact ⟨Grew.refl _, rfl⟩ | rfl
                  simp only [Act.put, List.setIfInBounds_toArray, List.set_cons_zero, List.set_cons_succ, Nat.reduceAdd]
                  apply Facts.Lex.exact [] _ (by kernel_rfl)
                  · intro u W hC _
                    unfold Facts.one
                    go_simp
                    first | exact ⟨Grew.refl _, rfl⟩ | rfl
                  simp only [Act.put, List.setIfInBounds_toArray, List.set_cons_zero, List.set_cons_succ, Nat.reduceAdd]
                  apply Facts.Lex.exact [] _ (by kernel_rfl)
                  · intro u W hC _
                    unfold Facts.one
                    go_simp
                    first | exact ⟨Grew.refl _, rfl⟩ | rfl
                  simp only [Act.put, List.setIfInBounds_toArray, List.set_cons_zero, List.set_cons_succ, Nat.reduceAdd]
                  apply Facts.Lex.exact [] _ (by kernel_rfl)
                  · intro u W hC _
                    unfold Facts.one
                    go_simp
                    first | exact ⟨Grew.refl _, rfl⟩ | rfl
                  simp only [Act.put, List.setIfInBounds_toArray, List.set_cons_zero, List.set_cons_succ, Nat.reduceAdd]
                  apply Facts.Lex.exact [] _ (by kernel_rfl)
                  · intro u W hC _
                    unfold Facts.one
                    go_simp
                    first | exact ⟨Grew.refl _, rfl⟩ | rfl
                  simp only [Act.put, List.setIfInBounds_toArray, List.set_cons_zero, List.set_cons_succ, Nat.reduceAdd]
                  apply Facts.Lex.exact [] _ (by kernel_rfl)
                  · intro u W hC _
                    unfold Facts.one
                    go_simp
                    first | exact ⟨Grew.refl _, rfl⟩ | rfl
                  simp only [Act.put, List.setIfInBounds_toArray, List.set_cons_zero, List.set_cons_succ, Nat.reduceAdd]
                  apply Facts.Lex.exact [] _ (by kernel_rfl)
                  · intro u W hC _
                    have c1 := cellB hC C1.out
                    unfold Facts.one
                    go_simp
                    first | exact ⟨Grew.refl _, rfl⟩ | rfl
                  simp only [Act.put, List.setIfInBounds_toArray, List.set_cons_zero, List.set_cons_succ, Nat.reduceAdd]
                  apply Facts.Lex.exact [] _ (by kernel_rfl)
                  · intro u W hC _
                    unfold Facts.one
                    go_simp
                    first | exact ⟨Grew.refl _, rfl⟩ | rfl
                  simp only [Act.put, List.setIfInBounds_toArray, List.set_cons_zero, List.set_cons_succ, Nat.reduceAdd]
                  apply Facts.Lex.exact [] _ (by kernel_rfl)
                  · intro u W hC _
                    unfold Facts.one
                    go_simp
                    first | exact ⟨Grew.refl _, rfl⟩ | rfl
                  simp only [Act.put, List.setIfInBounds_toArray, List.set_cons_zero, List.set_cons_succ, Nat.reduceAdd]
                  apply Facts.Lex.exact [] _ (by kernel_rfl)
                  · intro u W hC _
                    unfold Facts.one
                    go_simp
                    first | exact ⟨Grew.refl _, rfl⟩ | rfl
                  simp only [Act.put, List.setIfInBounds_toArray, List.set_cons_zero, List.set_cons_succ, Nat.reduceAdd]
                  apply Facts.Lex.exact [] _ (by kernel_rfl)
                  · intro u W hC _
                    unfold Facts.one
                    go_simp
                    first | exact ⟨Grew.refl _, rfl⟩ | rfl
                  simp only [Act.put, List.setIfInBounds_toArray, List.set_cons_zero, List.set_cons_succ, Nat.reduceAdd]
                  apply Facts.Lex.exact [] _ (by kernel_rfl)
                  · intro u W hC _
                    unfold Facts.one
                    go_simp
                    first | exact ⟨Grew.refl _, rfl⟩ | rfl
                  simp only [Act.put, List.setIfInBounds_toArray, List.set_cons_zero, List.set_cons_succ, Nat.reduceAdd]
                  apply Facts.Lex.exact [] _ (by kernel_rfl)
                  · intro u W hC _
                    unfold Facts.one
                    go_simp
                    first | exact ⟨Grew.refl _, rfl⟩ | rfl
                  simp only [Act.put, List.setIfInBounds_toArray, List.set_cons_zero, List.set_cons_succ, Nat.reduceAdd]
                  apply Facts.Lex.exact [] _ (by kernel_rfl)
                  · intro u W hC _
                    unfold Facts.one
                    go_simp
                    first | exact ⟨Grew.refl _, rfl⟩ | rfl
                  simp only [Act.put, List.setIfInBounds_toArray, List.set_cons_zero, List.set_cons_succ, Nat.reduceAdd]
                  apply Facts.Lex.exact [] _ (by kernel_rfl)
                  · intro u W hC _
                    have c1 := cellB hC C1.out
                    unfold Facts.one
                    go_simp
                    first | exact ⟨Grew.refl _, rfl⟩ | rfl
                  simp only [Act.put, List.setIfInBounds_toArray, List.set_cons_zero, List.set_cons_succ, Nat.reduceAdd]
                  apply Facts.Lex.exact [] _ (by kernel_rfl)
                  · intro u W hC _
                    unfold Facts.one
                    go_simp
                    first | exact ⟨Grew.refl _, rfl⟩ | rfl
                  simp only [Act.put, List.setIfInBounds_toArray, List.set_cons_zero, List.set_cons_succ, Nat.reduceAdd]
                  apply Facts.Lex.exact [] _ (by kernel_rfl)
                  · intro u W hC _
                    unfold Facts.one
                    go_simp
                    first | exact ⟨Grew.refl _, rfl⟩ | rfl
                  simp only [Act.put, List.setIfInBounds_toArray, List.set_cons_zero, List.set_cons_succ, Nat.reduceAdd]
                  apply Facts.Lex.exact [] _ (by kernel_rfl)
                  · intro u W hC _
                    unfold Facts.one
                    go_simp
                    first | exact ⟨Grew.refl _, rfl⟩ | rfl
                  simp only [Act.put, List.setIfInBounds_toArray, List.set_cons_zero, List.set_cons_succ, Nat.reduceAdd]
                  apply Facts.Lex.exact [] _ (by kernel_rfl)
                  · intro u W hC _
                    unfold Facts.one
                    go_simp
                    first | exact ⟨Grew.refl _, rfl⟩ | rfl
                  simp only [Act.put, List.setIfInBounds_toArray, List.set_cons_zero, List.set_cons_succ, Nat.reduceAdd]
                  apply Facts.Lex.exact [] _ (by kernel_rfl)
                  · intro u W hC _
                    unfold Facts.one
                    go_simp
                    first | exact ⟨Grew.refl _, rfl⟩ | rfl
                  simp only [Act.put, List.setIfInBounds_toArray, List.set_cons_zero, List.set_cons_succ, Nat.reduceAdd]
                  apply Facts.Lex.exact [] _ (by kernel_rfl)
                  · intro u W hC _
                    unfold Facts.one
                    go_simp
                    first | exact ⟨Grew.refl _, rfl⟩ | rfl
                  simp only [Act.put, List.setIfInBounds_toArray, List.set_cons_zero, List.set_cons_succ, Nat.reduceAdd]
                  apply Facts.Lex.exact [] _ (by kernel_rfl)
                  · intro u W hC _
                    unfold Facts.one
                    go_simp
                    first | exact ⟨Grew.refl _, rfl⟩ | rfl
                  simp only [Act.put, List.setIfInBounds_toArray, List.set_cons_zero, List.set_cons_succ, Nat.reduceAdd]
                  apply Facts.Lex.exact [] _ (by kernel_rfl)
                  · intro u W hC _
                    unfold Facts.one
                    go_simp
                    first | exact ⟨Grew.refl _, rfl⟩ | rfl
                  simp only [Act.put, List.setIfInBounds_toArray, List.set_cons_zero, List.set_cons_succ, Nat.reduceAdd]
                  apply Facts.Lex.exact [] _ (by kernel_rfl)
                  · intro u W hC _
                    unfold Facts.one
                    go_simp
                    first | exact ⟨Grew.refl _, rfl⟩ | rfl
                  simp only [Act.put, List.setIfInBounds_toArray, List.set_cons_zero, List.set_cons_succ, Nat.reduceAdd]
                  apply Facts.Lex.exact [] _ (by kernel_rfl)
                  · intro u W hC _
                    unfold Facts.one
                    go_simp
                    first | exact ⟨Grew.refl _, rfl⟩ | rfl
                  simp only [Act.put, List.setIfInBounds_toArray, List.set_cons_zero, List.set_cons_succ, Nat.reduceAdd]
                  apply Facts.Lex.exact [] _ (by kernel_rfl)
                  · intro u W hC _
                    unfold Facts.one
                    go_simp
                    first | exact ⟨Grew.refl _, rfl⟩ | rfl
                  simp only [Act.put, List.setIfInBounds_toArray, List.set_cons_zero, List.set_cons_succ, Nat.reduceAdd]
                  apply Facts.Lex.exact [] _ (by kernel_rfl)
                  · intro u W hC _
                    unfold Facts.one
                    go_simp
                    first | exact ⟨Grew.refl _, rfl⟩ | rfl
                  simp only [Act.put, List.setIfInBounds_toArray, List.set_cons_zero, List.set_cons_succ, Nat.reduceAdd]
                  apply Facts.Lex.exact [] _ (by kernel_rfl)
                  · intro u W hC _
                    have p0 := cellB hC P0.out
                    unfold Facts.one
                    go_simp
                    first | exact ⟨Grew.refl _, rfl⟩ | rfl
                  simp only [Act.put, List.setIfInBounds_toArray, List.set_cons_zero, List.set_cons_succ, Nat.reduceAdd]
                  apply Facts.Lex.exact [] _ (by kernel_rfl)
                  · intro u W hC _
                    unfold Facts.one
                    go_simp
                    first | exact ⟨Grew.refl _, rfl⟩ | rfl
                  simp only [Act.put, List.setIfInBounds_toArray, List.set_cons_zero, List.set_cons_succ, Nat.reduceAdd]
                  apply Facts.Lex.exact [] _ (by kernel_rfl)
                  · intro u W hC _
                    unfold Facts.one
                    go_simp
                    first | exact ⟨Grew.refl _, rfl⟩ | rfl
                  simp only [Act.put, List.setIfInBounds_toArray, List.set_cons_zero, List.set_cons_succ, Nat.reduceAdd]
                  apply Facts.Lex.exact [] _ (by kernel_rfl)
                  · intro u W hC _
                    unfold Facts.one
                    go_simp
                    first | exact ⟨Grew.refl _, rfl⟩ | rfl
                  simp only [Act.put, List.setIfInBounds_toArray, List.set_cons_zero, List.set_cons_succ, Nat.reduceAdd]
                  apply Facts.Lex.exact [] _ (by kernel_rfl)
                  · intro u W hC _
                    unfold Facts.one
                    go_simp
                    first | exact ⟨Grew.refl _, rfl⟩ | rfl
                  simp only [Act.put, List.setIfInBounds_toArray, List.set_cons_zero, List.set_cons_succ, Nat.reduceAdd]
                  apply Facts.Lex.exact [] _ (by kernel_rfl)
                  · intro u W hC _
                    have c0 := cellB hC C0.out
                    unfold Facts.one
                    go_simp
                    first | exact ⟨Grew.refl _, rfl⟩ | rfl
                  simp only [Act.put, List.setIfInBounds_toArray, List.set_cons_zero, List.set_cons_succ, Nat.reduceAdd]
                  apply Facts.Lex.exact [] _ (by kernel_rfl)
                  · intro u W hC _
                    unfold Facts.one
                    go_simp
                    first | exact ⟨Grew.refl _, rfl⟩ | rfl
                  simp only [Act.put, List.setIfInBounds_toArray, List.set_cons_zero, List.set_cons_succ, Nat.reduceAdd]
                  apply Facts.Lex.exact [] _ (by kernel_rfl)
                  · intro u W hC _
                    unfold Facts.one
                    go_simp
                    first | exact ⟨Grew.refl _, rfl⟩ | rfl
                  simp only [Act.put, List.setIfInBounds_toArray, List.set_cons_zero, List.set_cons_succ, Nat.reduceAdd]
                  apply Facts.Lex.exact [] _ (by kernel_rfl)
                  · intro u W hC _
                    unfold Facts.one
                    go_simp
                    first | exact ⟨Grew.refl _, rfl⟩ | rfl
                  simp only [Act.put, List.setIfInBounds_toArray, List.set_cons_zero, List.set_cons_succ, Nat.reduceAdd]
                  refine Facts.Lex.done fun u W2 hC hL => ?_
                  have G2 := Lib.hid (HG.out.trans hC)
                  clear hC hL
                  go_wp2
                  go_returns
                  refine ⟨?_, G2.out⟩
                  rw [HR.out]
                  try rfl
                · by_cases q5 : bit ≤ pb
                  · have HR := Lib.hid (HO.out (HNO.out (.inr (.inr (.inr (.inr (.inl (by simp only; omega))))))))
                    go_wp2
                    refine Facts.wp_region_text (by kernel_rfl) (by kernel_rfl) ?_
                    apply Facts.Lex.exact [] _ (by kernel_rfl)
                    · intro u W hC _
                      unfold Facts.one
                      go_simp
                      first | exact ⟨Grew.refl _, rfl⟩ | rfl
                    simp only [Act.put, List.setIfInBounds_toArray, List.set_cons_zero, List.set_cons_succ, Nat.zero_add]
                    apply Facts.Lex.exact [] _ (by kernel_rfl)
                    · intro u W hC _
                      unfold Facts.one
                      go_simp
                      first | exact ⟨Grew.refl _, rfl⟩ | rfl
                    simp only [Act.put, List.setIfInBounds_toArray, List.set_cons_zero, List.set_cons_succ, Nat.reduceAdd]
                    apply Facts.Lex.exact [] _ (by kernel_rfl)
                    · intro u W hC _
                      unfold Facts.one
                      go_simp
                      first | exact ⟨Grew.refl _, rfl⟩ | rfl
                    simp only [Act.put, List.setIfInBounds_toArray, List.set_cons_zero, List.set_cons_succ, Nat.reduceAdd]
                    apply Facts.Lex.exact [] _ (by kernel_rfl)
                    · intro u W hC _
                      unfold Facts.one
                      go_simp
                      first | exact ⟨Grew.refl _, rfl⟩ | rfl
                    simp only [Act.put, List.setIfInBounds_toArray, List.set_cons_zero, List.set_cons_succ, Nat.reduceAdd]
                    apply Facts.Lex.exact [] _ (by kernel_rfl)
                    · intro u W hC _
                      have c0 := cellB hC C0.out
                      unfold Facts.one
                      go_simp
                      first | exact ⟨Grew.refl _, rfl⟩ | rfl
                    simp only [Act.put, List.setIfInBounds_toArray, List.set_cons_zero, List.set_cons_succ, Nat.reduceAdd]
                    apply Facts.Lex.exact [] _ (by kernel_rfl)
                    · intro u W hC _
                      unfold Facts.one
                      go_simp
                      first | exact ⟨Grew.refl _, rfl⟩ | rfl
                    simp only [Act.put, List.setIfInBounds_toArray, List.set_cons_zero, List.set_cons_succ, Nat.reduceAdd]
                    apply Facts.Lex.exact [] _ (by kernel_rfl)
                    · intro u W hC _
                      unfold Facts.one
                      go_simp
                      first | exact ⟨Grew.refl _, rfl⟩ | rfl
                    simp only [Act.put, List.setIfInBounds_toArray, List.set_cons_zero, List.set_cons_succ, Nat.reduceAdd]
                    apply Facts.Lex.exact [] _ (by kernel_rfl)
                    · intro u W hC _
                      unfold Facts.one
                      go_simp
                      first | exact ⟨Grew.refl _, rfl⟩ | rfl
                    simp only [Act.put, List.setIfInBounds_toArray, List.set_cons_zero, List.set_cons_succ, Nat.reduceAdd]
                    apply Facts.Lex.exact [] _ (by kernel_rfl)
                    · intro u W hC _
                      unfold Facts.one
                      go_simp
                      first | exact ⟨Grew.refl _, rfl⟩ | rfl
                    simp only [Act.put, List.setIfInBounds_toArray, List.set_cons_zero, List.set_cons_succ, Nat.reduceAdd]
                    apply Facts.Lex.exact [] _ (by kernel_rfl)
                    · intro u W hC _
                      unfold Facts.one
                      go_simp
                      first | exact ⟨Grew.refl _, rfl⟩ | rfl
                    simp only [Act.put, List.setIfInBounds_toArray, List.set_cons_zero, List.set_cons_succ, Nat.reduceAdd]
                    apply Facts.Lex.exact [] _ (by kernel_rfl)
                    · intro u W hC _
                      unfold Facts.one
                      go_simp
                      first | exact ⟨Grew.refl _, rfl⟩ | rfl
                    simp only [Act.put, List.setIfInBounds_toArray, List.set_cons_zero, List.set_cons_succ, Nat.reduceAdd]
                    apply Facts.Lex.exact [] _ (by kernel_rfl)
                    · intro u W hC _
                      have c0 := cellB hC C0.out
                      unfold Facts.one
                      go_simp
                      first | exact ⟨Grew.refl _, rfl⟩ | rfl
                    simp only [Act.put, List.setIfInBounds_toArray, List.set_cons_zero, List.set_cons_succ, Nat.reduceAdd]
                    apply Facts.Lex.exact [] _ (by kernel_rfl)
                    · intro u W hC _
                      unfold Facts.one
                      go_simp
                      first | exact ⟨Grew.refl _, rfl⟩ | rfl
                    simp only [Act.put, List.setIfInBounds_toArray, List.set_cons_zero, List.set_cons_succ, Nat.reduceAdd]
                    apply Facts.Lex.exact [] _ (by kernel_rfl)
                    · intro u W hC _
                      unfold Facts.one
                      go_simp
                      first | exact ⟨Grew.refl _, rfl⟩ | rfl
                    simp only [Act.put, List.setIfInBounds_toArray, List.set_cons_zero, List.set_cons_succ, Nat.reduceAdd]
                    apply Facts.Lex.exact [] _ (by kernel_rfl)
                    · intro u W hC _
                      unfold Facts.one
                      go_simp
                      first | exact ⟨Grew.refl _, rfl⟩ | rfl
                    simp only [Act.put, List.setIfInBounds_toArray, List.set_cons_zero, List.set_cons_succ, Nat.reduceAdd]
                    apply Facts.Lex.exact [] _ (by kernel_rfl)
                    · intro u W hC _
                      unfold Facts.one
                      go_simp
                      first | exact ⟨Grew.refl _, rfl⟩ | rfl
                    simp only [Act.put, List.setIfInBounds_toArray, List.set_cons_zero, List.set_cons_succ, Nat.reduceAdd]
                    apply Facts.Lex.exact [] _ (by kernel_rfl)
                    · intro u W hC _
                      unfold Facts.one
                      go_simp
                      first | exact ⟨Grew.refl _, rfl⟩ | rfl
                    simp only [Act.put, List.setIfInBounds_toArray, List.set_cons_zero, List.set_cons_succ, Nat.reduceAdd]
                    apply Facts.Lex.exact [] _ (by kernel_rfl)
                    · intro u W hC _
                      unfold Facts.one
                      go_simp
                      first | exact ⟨Grew.refl _, rfl⟩ | rfl
                    simp only [Act.put, List.setIfInBounds_toArray, List.set_cons_zero, List.set_cons_succ, Nat.reduceAdd]
                    apply Facts.Lex.exact [] _ (by kernel_rfl)
                    · intro u W hC _
                      unfold Facts.one
                      go_simp
                      first | exact ⟨Grew.refl _, rfl⟩ | rfl
                    simp only [Act.put, List.setIfInBounds_toArray, List.set_cons_zero, List.set_cons_succ, Nat.reduceAdd]
                    apply Facts.Lex.exact [] _ (by kernel_rfl)
                    · intro u W hC _
                      have c1 := cellB hC C1.out
                      unfold Facts.one
                      go_simp
                      first | exact ⟨Grew.refl _, rfl⟩ | rfl
                    simp only [Act.put, List.setIfInBounds_toArray, List.set_cons_zero, List.set_cons_succ, Nat.reduceAdd]
                    apply Facts.Lex.exact [] _ (by kernel_rfl)
                    · intro u W hC _
                      unfold Facts.one
                      go_simp
                      first | exact ⟨Grew.refl _, rfl⟩ | rfl
                    simp only [Act.put, List.setIfInBounds_toArray, List.set_cons_zero, List.set_cons_succ, Nat.reduceAdd]
                    apply Facts.Lex.exact [] _ (by kernel_rfl)
                    · intro u W hC _
                      unfold Facts.one
                      go_simp
                      first | exact ⟨Grew.refl _, rfl⟩ | rfl
                    simp only [Act.put, List.setIfInBounds_toArray, List.set_cons_zero, List.set_cons_succ, Nat.reduceAdd]
                    apply Facts.Lex.exact [] _ (by kernel_rfl)
                    · intro u W hC _
                      unfold Facts.one
                      go_simp
                      first | exact ⟨Grew.refl _, rfl⟩ | rfl
                    simp only [Act.put, List.setIfInBounds_toArray, List.set_cons_zero, List.set_cons_succ, Nat.reduceAdd]
                    apply Facts.Lex.exact [] _ (by kernel_rfl)
                    · intro u W hC _
                      unfold Facts.one
                      go_simp
                      first | exact ⟨Grew.refl _, rfl⟩ | rfl
                    simp only [Act.put, List.setIfInBounds_toArray, List.set_cons_zero, List.set_cons_succ, Nat.reduceAdd]
                    apply Facts.Lex.exact [] _ (by kernel_rfl)
                    · intro u W hC _
                      unfold Facts.one
                      go_simp
                      first | exact ⟨Grew.refl _, rfl⟩ | rfl
                    simp only [Act.put, List.setIfInBounds_toArray, List.set_cons_zero, List.set_cons_succ, Nat.reduceAdd]
                    apply Facts.Lex.exact [] _ (by kernel_rfl)
                    · intro u W hC _
                      unfold Facts.one
                      go_simp
                      first | exact ⟨Grew.refl _, rfl⟩ | rfl
                    simp only [Act.put, List.setIfInBounds_toArray, List.set_cons_zero, List.set_cons_succ, Nat.reduceAdd]
                    apply Facts.Lex.exact [] _ (by kernel_rfl)
                    · intro u W hC _
                      unfold Facts.one
                      go_simp
                      first | exact ⟨Grew.refl _, rfl⟩ | rfl
                    simp only [Act.put, List.setIfInBounds_toArray, List.set_cons_zero, List.set_cons_succ, Nat.reduceAdd]
                    apply Facts.Lex.exact [] _ (by kernel_rfl)
                    · intro u W hC _
                      have c1 := cellB hC C1.out
                      unfold Facts.one
                      go_simp
                      first | exact ⟨Grew.refl _, rfl⟩ | rfl
                    simp only [Act.put, List.setIfInBounds_toArray, List.set_cons_zero, List.set_cons_succ, Nat.reduceAdd]
                    apply Facts.Lex.exact [] _ (by kernel_rfl)
                    · intro u W hC _
                      unfold Facts.one
                      go_simp
                      first | exact ⟨Grew.refl _, rfl⟩ | rfl
                    simp only [Act.put, List.setIfInBounds_toArray, List.set_cons_zero, List.set_cons_succ, Nat.reduceAdd]
                    apply Facts.Lex.exact [] _ (by kernel_rfl)
                    · intro u W hC _
                      unfold Facts.one
                      go_simp
                      first | exact ⟨Grew.refl _, rfl⟩ | rfl
                    simp only [Act.put, List.setIfInBounds_toArray, List.set_cons_zero, List.set_cons_succ, Nat.reduceAdd]
                    apply Facts.Lex.exact [] _ (by kernel_rfl)
                    · intro u W hC _
                      unfold Facts.one
                      go_simp
                      first | exact ⟨Grew.refl _, rfl⟩ | rfl
                    simp only [Act.put, List.setIfInBounds_toArray, List.set_cons_zero, List.set_cons_succ, Nat.reduceAdd]
                    apply Facts.Lex.exact [] _ (by kernel_rfl)
                    · intro u W hC _
                      unfold Facts.one
                      go_simp
                      first | exact ⟨Grew.refl _, rfl⟩ | rfl
                    simp only [Act.put, List.setIfInBounds_toArray, List.set_cons_zero, List.set_cons_succ, Nat.reduceAdd]
                    apply Facts.Lex.exact [] _ (by kernel_rfl)
                    · intro u W hC _
                      unfold Facts.one
                      go_simp
                      first | exact ⟨Grew.refl _, rfl⟩ | rfl
                    simp only [Act.put, List.setIfInBounds_toArray, List.set_cons_zero, List.set_cons_succ, Nat.reduceAdd]
                    apply Facts.Lex.exact [] _ (by kernel_rfl)
                    · intro u W hC _
                      unfold Facts.one
                      go_simp
                      first | exact ⟨Grew.refl _, rfl⟩ | rfl
                    simp only [Act.put, List.setIfInBounds_toArray, List.set_cons_zero, List.set_cons_succ, Nat.reduceAdd]
                    apply Facts.Lex.exact [] _ (by kernel_rfl)
                    · intro u W hC _
                      unfold Facts.one
                      go_simp
                      first | exact ⟨Grew.refl _, rfl⟩ | rfl
                    simp only [Act.put, List.setIfInBounds_toArray, List.set_cons_zero, List.set_cons_succ, Nat.reduceAdd]
                    apply Facts.Lex.exact [] _ (by kernel_rfl)
                    · intro u W hC _
                      unfold Facts.one
                      go_simp
                      first | exact ⟨Grew.refl _, rfl⟩ | rfl
                    simp only [Act.put, List.setIfInBounds_toArray, List.set_cons_zero, List.set_cons_succ, Nat.reduceAdd]
                    apply Facts.Lex.exact [] _ (by kernel_rfl)
                    · intro u W hC _
                      unfold Facts.one
                      go_simp
                      first | exact ⟨Grew.refl _, rfl⟩ | rfl
                    simp only [Act.put, List.setIfInBounds_toArray, List.set_cons_zero, List.set_cons_succ, Nat.reduceAdd]
                    apply Facts.Lex.exact [] _ (by kernel_rfl)
                    · intro u W hC _
                      unfold Facts.one
                      go_simp
                      first | exact ⟨Grew.refl _, rfl⟩ | rfl
                    simp only [Act.put, List.setIfInBounds_toArray, List.set_cons_zero, List.set_cons_succ, Nat.reduceAdd]
                    apply Facts.Lex.exact [] _ (by kernel_rfl)
                    · intro u W hC _
                      unfold Facts.one
                      go_simp
                      first | exact ⟨Grew.refl _, rfl⟩ | rfl
                    simp only [Act.put, List.setIfInBounds_toArray, List.set_cons_zero, List.set_cons_succ, Nat.reduceAdd]
                    apply Facts.Lex.exact [] _ (by kernel_rfl)
                    · intro u W hC _
                      unfold Facts.one
                      go_simp
                      first | exact ⟨Grew.refl _, rfl⟩ | rfl
                    simp only [Act.put, List.setIfInBounds_toArray, List.set_cons_zero, List.set_cons_succ, Nat.reduceAdd]
                    apply Facts.Lex.exact [] _ (by kernel_rfl)
                    · intro u W hC _
                      have p0 := cellB hC P0.out
                      unfold Facts.one
                      go_simp
                      first | exact ⟨Grew.refl _, rfl⟩ | rfl
                    simp only [Act.put, List.setIfInBounds_toArray, List.set_cons_zero, List.set_cons_succ, Nat.reduceAdd]
                    apply Facts.Lex.exact [] _ (by kernel_rfl)
                    · intro u W hC _
                      unfold Facts.one
                      go_simp
                      first | exact ⟨Grew.refl _, rfl⟩ | rfl
                    simp only [Act.put, List.setIfInBounds_toArray, List.set_cons_zero, List.set_cons_succ, Nat.reduceAdd]
                    apply Facts.Lex.exact [] _ (by kernel_rfl)
                    · intro u W hC _
                      unfold Facts.one
                      go_simp
                      first | exact ⟨Grew.refl _, rfl⟩ | rfl
                    simp only [Act.put, List.setIfInBounds_toArray, List.set_cons_zero, List.set_cons_succ, Nat.reduceAdd]
                    apply Facts.Lex.exact [] _ (by kernel_rfl)
                    · intro u W hC _
                      unfold Facts.one
                      go_simp
                      first | exact ⟨Grew.refl _, rfl⟩ | rfl
                    simp only [Act.put, List.setIfInBounds_toArray, List.set_cons_zero, List.set_cons_succ, Nat.reduceAdd]
                    apply Facts.Lex.exact [] _ (by kernel_rfl)
                    · intro u W hC _
                      unfold Facts.one
                      go_simp
                      first | exact ⟨Grew.refl _, rfl⟩ | rfl
                    simp only [Act.put, List.setIfInBounds_toArray, List.set_cons_zero, List.set_cons_succ, Nat.reduceAdd]
                    apply Facts.Lex.exact [] _ (by kernel_rfl)
                    · intro u W hC _
                      have c0 := cellB hC C0.out
                      unfold Facts.one
                      go_simp
                      first | exact ⟨Grew.refl _, rfl⟩ | rfl
                    simp only [Act.put, List.setIfInBounds_toArray, List.set_cons_zero, List.set_cons_succ, Nat.reduceAdd]
                    apply Facts.Lex.exact [] _ (by kernel_rfl)
                    · intro u W hC _
                      unfold Facts.one
                      go_simp
                      first | exact ⟨Grew.refl _, rfl⟩ | rfl
                    simp only [Act.put, List.setIfInBounds_toArray, List.set_cons_zero, List.set_cons_succ, Nat.reduceAdd]
                    apply Facts.Lex.exact [] _ (by kernel_rfl)
                    · intro u W hC _
                      unfold Facts.one
                      go_simp
                      first | exact ⟨Grew.refl _, rfl⟩ | rfl
                    simp only [Act.put, List.setIfInBounds_toArray, List.set_cons_zero, List.set_cons_succ, Nat.reduceAdd]
                    apply Facts.Lex.exact [] _ (by kernel_rfl)
                    · intro u W hC _
                      unfold Facts.one
                      go_simp
                      first | exact ⟨Grew.refl _, rfl⟩ | rfl
                    simp only [Act.put, List.setIfInBounds_toArray, List.set_cons_zero, List.set_cons_succ, Nat.reduceAdd]
                    refine Facts.Lex.done fun u W2 hC hL => ?_
                    have G2 := Lib.hid (HG.out.trans hC)
                    clear hC hL
                    go_wp2
                    go_returns
                    refine ⟨?_, G2.out⟩
                    rw [HR.out]
                    try rfl
                  · obtain ⟨kb, rfl⟩ := Int.eq_ofNat_of_zero_le (show 0 ≤ bit by omega)
                    have hkb : kb < 64 := by omega
                    have HHA := Lib.hid (fun W => rhall_any kb hkb W)
                    have HPA := Lib.hid (fun W hg => HPL.out ⟨0, bitOf (kb : Int)⟩ W hg)
                    have HAN : Hid (decide (0 ≤ fidx r.labels fun x => decide (x = (⟨0, bitOf (kb : Int)⟩ : La))) = (r.labels.any fun y => decide ((⟨0, bitOf (kb : Int)⟩ : La) = y))) := Lib.hid (by
                      rw [fidx_neg]
                      congr 1
                      funext y
                      rw [Bool.eq_iff_iff]
                      simp only [decide_eq_true_eq]
                      exact eq_comm)
                    have HGY := Lib.hid (HYS.out (by simp only; omega) (by simp only; omega) (by simp only; omega) (by simp only; omega) (by simp only; omega))
                    have HN2 := Lib.hid (fun h => HNO.out (.inr (.inr (.inr (.inr (.inr h))))))
                    clear HNO
                    have HNO := HN2
                    simp only at HGY HNO HAN
                    generalize (r.labels.any fun y => decide ((⟨0, bitOf (kb : Int)⟩ : La) = y)) = ba at *
                    generalize (fidx r.labels fun x => decide (x = (⟨0, bitOf (kb : Int)⟩ : La))) = fi at *
                    generalize bitOf (kb : Int) = bt at *
                    clear hkb
                    go_wp2
                    refine Facts.wp_region_text (by kernel_rfl) (by kernel_rfl) ?_
                    apply Facts.Lex.exact [] _ (by kernel_rfl)
                    · intro u W hC _
                      unfold Facts.one
                      go_simp
                      first | exact ⟨Grew.refl _, rfl⟩ | rfl
                    simp only [Act.put, List.setIfInBounds_toArray, List.set_cons_zero, List.set_cons_succ, Nat.zero_add]
                    apply Facts.Lex.exact [] _ (by kernel_rfl)
                    · intro u W hC _
                      unfold Facts.one
                      go_simp
                      first | exact ⟨Grew.refl _, rfl⟩ | rfl
                    simp only [Act.put, List.setIfInBounds_toArray, List.set_cons_zero, List.set_cons_succ, Nat.reduceAdd]
                    apply Facts.Lex.exact [] _ (by kernel_rfl)
                    · intro u W hC _
                      unfold Facts.one
                      go_simp
                      first | exact ⟨Grew.refl _, rfl⟩ | rfl
                    simp only [Act.put, List.setIfInBounds_toArray, List.set_cons_zero, List.set_cons_succ, Nat.reduceAdd]
                    apply Facts.Lex.exact [] _ (by kernel_rfl)
                    · intro u W hC _
                      unfold Facts.one
                      go_simp
                      first | exact ⟨Grew.refl _, rfl⟩ | rfl
                    simp only [Act.put, List.setIfInBounds_toArray, List.set_cons_zero, List.set_cons_succ, Nat.reduceAdd]
                    apply Facts.Lex.exact [] _ (by kernel_rfl)
                    · intro u W hC _
                      have c0 := cellB hC C0.out
                      unfold Facts.one
                      go_simp
                      first | exact ⟨Grew.refl _, rfl⟩ | rfl
                    simp only [Act.put, List.setIfInBounds_toArray, List.set_cons_zero, List.set_cons_succ, Nat.reduceAdd]
                    apply Facts.Lex.exact [] _ (by kernel_rfl)
                    · intro u W hC _
                      unfold Facts.one
                      go_simp
                      first | exact ⟨Grew.refl _, rfl⟩ | rfl
                    simp only [Act.put, List.setIfInBounds_toArray, List.set_cons_zero, List.set_cons_succ, Nat.reduceAdd]
                    apply Facts.Lex.exact [] _ (by kernel_rfl)
                    · intro u W hC _
                      unfold Facts.one
                      go_simp
                      first | exact ⟨Grew.refl _, rfl⟩ | rfl
                    simp only [Act.put, List.setIfInBounds_toArray, List.set_cons_zero, List.set_cons_succ, Nat.reduceAdd]
                    apply Facts.Lex.exact [] _ (by kernel_rfl)
                    · intro u W hC _
                      unfold Facts.one
                      go_simp
                      first | exact ⟨Grew.refl _, rfl⟩ | rfl
                    simp only [Act.put, List.setIfInBounds_toArray, List.set_cons_zero, List.set_cons_succ, Nat.reduceAdd]
                    apply Facts.Lex.exact [] _ (by kernel_rfl)
                    · intro u W hC _
                      unfold Facts.one
                      go_simp
                      first | exact ⟨Grew.refl _, rfl⟩ | rfl
                    simp only [Act.put, List.setIfInBounds_toArray, List.set_cons_zero, List.set_cons_succ, Nat.reduceAdd]
                    apply Facts.Lex.exact [] _ (by kernel_rfl)
                    · intro u W hC _
                      unfold Facts.one
                      go_simp
                      first | exact ⟨Grew.refl _, rfl⟩ | rfl
                    simp only [Act.put, List.setIfInBounds_toArray, List.set_cons_zero, List.set_cons_succ, Nat.reduceAdd]
                    apply Facts.Lex.exact [] _ (by kernel_rfl)
                    · intro u W hC _
                      unfold Facts.one
                      go_simp
                      first | exact ⟨Grew.refl _, rfl⟩ | rfl
                    simp only [Act.put, List.setIfInBounds_toArray, List.set_cons_zero, List.set_cons_succ, Nat.reduceAdd]
                    apply Facts.Lex.exact [] _ (by kernel_rfl)
                    · intro u W hC _
                      have c0 := cellB hC C0.out
                      unfold Facts.one
                      go_simp
                      first | exact ⟨Grew.refl _, rfl⟩ | rfl
                    simp only [Act.put, List.setIfInBounds_toArray, List.set_cons_zero, List.set_cons_succ, Nat.reduceAdd]
                    apply Facts.Lex.exact [] _ (by kernel_rfl)
                    · intro u W hC _
                      unfold Facts.one
                      go_simp
                      first | exact ⟨Grew.refl _, rfl⟩ | rfl
                    simp only [Act.put, List.setIfInBounds_toArray, List.set_cons_zero, List.set_cons_succ, Nat.reduceAdd]
                    apply Facts.Lex.exact [] _ (by kernel_rfl)
                    · intro u W hC _
                      unfold Facts.one
                      go_simp
                      first | exact ⟨Grew.refl _, rfl⟩ | rfl
                    simp only [Act.put, List.setIfInBounds_toArray, List.set_cons_zero, List.set_cons_succ, Nat.reduceAdd]
                    apply Facts.Lex.exact [] _ (by kernel_rfl)
                    · intro u W hC _
                      unfold Facts.one
                      go_simp
                      first | exact ⟨Grew.refl _, rfl⟩ | rfl
                    simp only [Act.put, List.setIfInBounds_toArray, List.set_cons_zero, List.set_cons_succ, Nat.reduceAdd]
                    apply Facts.Lex.exact [] _ (by kernel_rfl)
                    · intro u W hC _
                      unfold Facts.one
                      go_simp
                      first | exact ⟨Grew.refl _, rfl⟩ | rfl
                    simp only [Act.put, List.setIfInBounds_toArray, List.set_cons_zero, List.set_cons_succ, Nat.reduceAdd]
                    apply Facts.Lex.exact [] _ (by kernel_rfl)
                    · intro u W hC _
                      unfold Facts.one
                      go_simp
                      first | exact ⟨Grew.refl _, rfl⟩ | rfl
                    simp only [Act.put, List.setIfInBounds_toArray, List.set_cons_zero, List.set_cons_succ, Nat.reduceAdd]
                    apply Facts.Lex.exact [] _ (by kernel_rfl)
                    · intro u W hC _
                      unfold Facts.one
                      go_simp
                      first | exact ⟨Grew.refl _, rfl⟩ | rfl
                    simp only [Act.put, List.setIfInBounds_toArray, List.set_cons_zero, List.set_cons_succ, Nat.reduceAdd]
                    apply Facts.Lex.exact [] _ (by kernel_rfl)
                    · intro u W hC _
                      unfold Facts.one
                      go_simp
                      first | exact ⟨Grew.refl _, rfl⟩ | rfl
                    simp only [Act.put, List.setIfInBounds_toArray, List.set_cons_zero, List.set_cons_succ, Nat.reduceAdd]
                    apply Facts.Lex.exact [] _ (by kernel_rfl)
                    · intro u W hC _
                      have c1 := cellB hC C1.out
                      unfold Facts.one
                      go_simp
                      first | exact ⟨Grew.refl _, rfl⟩ | rfl
                    simp only [Act.put, List.setIfInBounds_toArray, List.set_cons_zero, List.set_cons_succ, Nat.reduceAdd]
                    apply Facts.Lex.exact [] _ (by kernel_rfl)
                    · intro u W hC _
                      unfold Facts.one
                      go_simp
                      first | exact ⟨Grew.refl _, rfl⟩ | rfl
                    simp only [Act.put, List.setIfInBounds_toArray, List.set_cons_zero, List.set_cons_succ, Nat.reduceAdd]
                    apply Facts.Lex.exact [] _ (by kernel_rfl)
                    · intro u W hC _
                      unfold Facts.one
                      go_simp
                      first | exact ⟨Grew.refl _, rfl⟩ | rfl
                    simp only [Act.put, List.setIfInBounds_toArray, List.set_cons_zero, List.set_cons_succ, Nat.reduceAdd]
                    apply Facts.Lex.exact [] _ (by kernel_rfl)
                    · intro u W hC _
                      unfold Facts.one
                      go_simp
                      first | exact ⟨Grew.refl _, rfl⟩ | rfl
                    simp only [Act.put, List.setIfInBounds_toArray, List.set_cons_zero, List.set_cons_succ, Nat.reduceAdd]
                    apply Facts.Lex.exact [] _ (by kernel_rfl)
                    · intro u W hC _
                      unfold Facts.one
                      go_simp
                      first | exact ⟨Grew.refl _, rfl⟩ | rfl
                    simp only [Act.put, List.setIfInBounds_toArray, List.set_cons_zero, List.set_cons_succ, Nat.reduceAdd]
                    apply Facts.Lex.exact [] _ (by kernel_rfl)
                    · intro u W hC _
                      unfold Facts.one
                      go_simp
                      first | exact ⟨Grew.refl _, rfl⟩ | rfl
                    simp only [Act.put, List.setIfInBounds_toArray, List.set_cons_zero, List.set_cons_succ, Nat.reduceAdd]
                    apply Facts.Lex.exact [] _ (by kernel_rfl)
                    · intro u W hC _
                      unfold Facts.one
                      go_simp
                      first | exact ⟨Grew.refl _, rfl⟩ | rfl
                    simp only [Act.put, List.setIfInBounds_toArray, List.set_cons_zero, List.set_cons_succ, Nat.reduceAdd]
                    apply Facts.Lex.exact [] _ (by kernel_rfl)
                    · intro u W hC _
                      unfold Facts.one
                      go_simp
                      first | exact ⟨Grew.refl _, rfl⟩ | rfl
                    simp only [Act.put, List.setIfInBounds_toArray, List.set_cons_zero, List.set_cons_succ, Nat.reduceAdd]
                    apply Facts.Lex.exact [] _ (by kernel_rfl)
                    · intro u W hC _
                      have c1 := cellB hC C1.out
                      unfold Facts.one
                      go_simp
                      first | exact ⟨Grew.refl _, rfl⟩ | rfl
                    simp only [Act.put, List.setIfInBounds_toArray, List.set_cons_zero, List.set_cons_succ, Nat.reduceAdd]
                    apply Facts.Lex.exact [] _ (by kernel_rfl)
                    · intro u W hC _
                      unfold Facts.one
                      go_simp
                      first | exact ⟨Grew.refl _, rfl⟩ | rfl
                    simp only [Act.put, List.setIfInBounds_toArray, List.set_cons_zero, List.set_cons_succ, Nat.reduceAdd]
                    apply Facts.Lex.exact [] _ (by kernel_rfl)
                    · intro u W hC _
                      unfold Facts.one
                      go_simp
                      first | exact ⟨Grew.refl _, rfl⟩ | rfl
                    simp only [Act.put, List.setIfInBounds_toArray, List.set_cons_zero, List.set_cons_succ, Nat.reduceAdd]
                    apply Facts.Lex.exact [] _ (by kernel_rfl)
                    · intro u W hC _
                      unfold Facts.one
                      go_simp
                      first | exact ⟨Grew.refl _, rfl⟩ | rfl
                    simp only [Act.put, List.setIfInBounds_toArray, List.set_cons_zero, List.set_cons_succ, Nat.reduceAdd]
                    apply Facts.Lex.exact [] _ (by kernel_rfl)
                    · intro u W hC _
                      unfold Facts.one
                      go_simp
                      first | exact ⟨Grew.refl _, rfl⟩ | rfl
                    simp only [Act.put, List.setIfInBounds_toArray, List.set_cons_zero, List.set_cons_succ, Nat.reduceAdd]
                    apply Facts.Lex.exact [] _ (by kernel_rfl)
                    · intro u W hC _
                      unfold Facts.one
                      go_simp
                      first | exact ⟨Grew.refl _, rfl⟩ | rfl
                    simp only [Act.put, List.setIfInBounds_toArray, List.set_cons_zero, List.set_cons_succ, Nat.reduceAdd]
                    apply Facts.Lex.exact [] _ (by kernel_rfl)
                    · intro u W hC _
                      unfold Facts.one
                      go_simp
                      first | exact ⟨Grew.refl _, rfl⟩ | rfl
                    simp only [Act.put, List.setIfInBounds_toArray, List.set_cons_zero, List.set_cons_succ, Nat.reduceAdd]
                    apply Facts.Lex.exact [] _ (by kernel_rfl)
                    · intro u W hC _
                      unfold Facts.one
                      go_simp
                      first | exact ⟨Grew.refl _, rfl⟩ | rfl
                    simp only [Act.put, List.setIfInBounds_toArray, List.set_cons_zero, List.set_cons_succ, Nat.reduceAdd]
                    apply Facts.Lex.exact [] _ (by kernel_rfl)
                    · intro u W hC _
                      unfold Facts.one
                      go_simp
                      first | exact ⟨Grew.refl _, rfl⟩ | rfl
                    simp only [Act.put, List.setIfInBounds_toArray, List.set_cons_zero, List.set_cons_succ, Nat.reduceAdd]
                    apply Facts.Lex.exact [] _ (by kernel_rfl)
                    · intro u W hC _
                      unfold Facts.one
                      go_simp
                      first | exact ⟨Grew.refl _, rfl⟩ | rfl
                    simp only [Act.put, List.setIfInBounds_toArray, List.set_cons_zero, List.set_cons_succ, Nat.reduceAdd]
                    apply Facts.Lex.exact [] _ (by kernel_rfl)
                    · intro u W hC _
                      unfold Facts.one
                      go_simp
                      first | exact ⟨Grew.refl _, rfl⟩ | rfl
                    simp only [Act.put, List.setIfInBounds_toArray, List.set_cons_zero, List.set_cons_succ, Nat.reduceAdd]
                    apply Facts.Lex.exact [] _ (by kernel_rfl)
                    · intro u W hC _
                      unfold Facts.one
                      go_simp
                      first | exact ⟨Grew.refl _, rfl⟩ | rfl
                    simp only [Act.put, List.setIfInBounds_toArray, List.set_cons_zero, List.set_cons_succ, Nat.reduceAdd]
                    apply Facts.Lex.exact [] _ (by kernel_rfl)
                    · intro u W hC _
                      unfold Facts.one
                      go_simp
                      first | exact ⟨Grew.refl _, rfl⟩ | rfl
                    simp only [Act.put, List.setIfInBounds_toArray, List.set_cons_zero, List.set_cons_succ, Nat.reduceAdd]
                    apply Facts.Lex.exact [] _ (by kernel_rfl)
                    · intro u W hC _
                      have p0 := cellB hC P0.out
                      unfold Facts.one
                      go_simp
                      first | exact ⟨Grew.refl _, rfl⟩ | rfl
                    simp only [Act.put, List.setIfInBounds_toArray, List.set_cons_zero, List.set_cons_succ, Nat.reduceAdd]
                    apply Facts.Lex.exact [] _ (by kernel_rfl)
                    · intro u W hC _
                      unfold Facts.one
                      go_simp
                      first | exact ⟨Grew.refl _, rfl⟩ | rfl
                    simp only [Act.put, List.setIfInBounds_toArray, List.set_cons_zero, List.set_cons_succ, Nat.reduceAdd]
                    apply Facts.Lex.exact [] _ (by kernel_rfl)
                    · intro u W hC _
                      unfold Facts.one
                      go_simp
                      first | exact ⟨Grew.refl _, rfl⟩ | rfl
                    simp only [Act.put, List.setIfInBounds_toArray, List.set_cons_zero, List.set_cons_succ, Nat.reduceAdd]
                    apply Facts.Lex.exact [] _ (by kernel_rfl)
                    · intro u W hC _
                      unfold Facts.one
                      go_simp
                      first | exact ⟨Grew.refl _, rfl⟩ | rfl
                    simp only [Act.put, List.setIfInBounds_toArray, List.set_cons_zero, List.set_cons_succ, Nat.reduceAdd]
                    apply Facts.Lex.exact [] _ (by kernel_rfl)
                    · intro u W hC _
                      unfold Facts.one
                      go_simp
                      first | exact ⟨Grew.refl _, rfl⟩ | rfl
                    simp only [Act.put, List.setIfInBounds_toArray, List.set_cons_zero, List.set_cons_succ, Nat.reduceAdd]
                    apply Facts.Lex.exact [] _ (by kernel_rfl)
                    · intro u W hC _
                      have c0 := cellB hC C0.out
                      unfold Facts.one
                      go_simp
                      first | exact ⟨Grew.refl _, rfl⟩ | rfl
                    simp only [Act.put, List.setIfInBounds_toArray, List.set_cons_zero, List.set_cons_succ, Nat.reduceAdd]
                    apply Facts.Lex.exact [] _ (by kernel_rfl)
                    · intro u W hC _
                      unfold Facts.one
                      go_simp
                      first | exact ⟨Grew.refl _, rfl⟩ | rfl
                    simp only [Act.put, List.setIfInBounds_toArray, List.set_cons_zero, List.set_cons_succ, Nat.reduceAdd]
                    apply Facts.Lex.exact [] _ (by kernel_rfl)
                    · intro u W hC _
                      unfold Facts.one
                      go_simp
                      first | exact ⟨Grew.refl _, rfl⟩ | rfl
                    simp only [Act.put, List.setIfInBounds_toArray, List.set_cons_zero, List.set_cons_succ, Nat.reduceAdd]
                    apply Facts.Lex.exact [] _ (by kernel_rfl)
                    · intro u W hC _
                      unfold Facts.one
                      go_simp
                      first | exact ⟨Grew.refl _, rfl⟩ | rfl
                    simp only [Act.put, List.setIfInBounds_toArray, List.set_cons_zero, List.set_cons_succ, Nat.reduceAdd]
                    refine Facts.Lex.done fun u W2 hC hL => ?_
                    have G2 := Lib.hid (HG.out.trans hC)
                    have C9 := Lib.hid (cellB hC C0.out)
                    clear hC hL
                    have c0 := C9.out
                    go_wp2_with fail
                    refine (HHA.out W2).mono ?_
                    rintro e w3 ⟨rfl, hg⟩
                    have G3 := Lib.hid (G2.out.trans hg)
                    clear hg c0
                    go_wp2_with fail
                    refine (HPA.out _ G3.out).mono ?_
                    rintro e w4 ⟨rfl, hg⟩
                    have G4 := Lib.hid (G3.out.trans hg)
                    clear hg
                    by_cases hp : fi < 0
                    · have HR := Lib.hid (HO.out (HNO.out (by rw [← HAN.out]; exact decide_eq_false (by omega))))
                      go_wp2
                      go_returns
                      refine ⟨?_, G4.out⟩
                      rw [HR.out]
                      try rfl
                    · have HS4 := Lib.hid (HSS.out (HGY.out (by rw [← HAN.out]; exact decide_eq_true (by omega))))
                      go_wp2
                      go_roundg g
                      case measure => omega
                      case rel => exact ⟨(j + 1) + 1, by have := HKG.out; omega, by first | rfl | simp [hkw] | simp, HS4, G4⟩
  · have HR := Lib.hid (HLEN.out h8)
    have h8' : (8 : Int) < (r.guilds.length : Int) := by omega
    clear h8
    go_enter Tryz.func50, Tryz.ntmps50
    go_wp2
    go_returns
    refine ⟨?_, Grew.refl _⟩
    rw [HR.out]
    try rfl
end Go.Proofs.YtmegdgeiikhflaaGreat.DG
