/-
  What is taken from the front, by the document.
  Conditions: those that each lemma names.
-/
import Derived.Test.YthgigkklefaeeaaFT
namespace Go.Proofs.Ythgigkklefaeeaa.FU
set_option maxRecDepth 100000
set_option maxRecDepth 100000
open Go Go.RowKit Go.Lib Go.Proofs.Ythgigkklefaeeaa Go.Proofs.Ythgigkklefaeeaa.Facts Go.Proofs.Ythgigkklefaeeaa.Bytes Go.Proofs.Ythgigkklefaeeaa.Puts Go.Proofs.Ythgigkklefaeeaa.Scan Go.Proofs.Ythgigkklefaeeaa.Take Go.Proofs.Ythgigkklefaeeaa.Nums Go.Proofs.Ythgigkklefaeeaa.SumPure Go.Proofs.Ythgigkklefaeeaa.Sum Go.Proofs.Ythgigkklefaeeaa.FP Go.Proofs.Ythgigkklefaeeaa.FW Go.Proofs.Ythgigkklefaeeaa.FX Go.Proofs.Ythgigkklefaeeaa.FT

set_option maxHeartbeats 4000000 in
theorem rtake_full (S : Nat → Prop) (ad : Addr) (c : Nat) (l : List UInt8) (most : Int) (w : World) (h : Rd S w (.slice (some ad) l.length c) l) (h0 : l.length ≠ 0) :
    Calls Try.prog 45 #[.slice (some ad) l.length c, .int .i64 most] w fun e w' => ∃ v', e = .returned (.tuple #[v', .int .i64 (takeP l most).2.1, .int .i64 (takeP l most).2.2]) ∧ Rd S w' v' (takeP l most).1 ∧ Grew w w' := by
  have hc0 : w.cell? ad = some (.int .u8 (fst l : Int)) := by
    obtain ⟨_, _, e, _, q⟩ := h.cell (k := 0) (by omega)
    injection e with e1 _ _
    injection e1 with e1
    subst e1
    have : ad.add 0 = ad := by unfold Addr.add; simp
    rwa [this] at q
  obtain ⟨A', c', e0, hlc, hcm, _, _⟩ := id h
  injection e0 with e1 _ e3
  subst e1 e3
  unfold maxLen at hcm
  have HR := Lib.hid h
  have hf := fst_lt l
  have hk := lim_le most
  obtain ⟨k, hlk⟩ : ∃ k, lim most = k := ⟨_, rfl⟩
  rw [hlk] at hk
  have HK := Lib.hid hlk
  unfold takeP
  rw [if_neg h0, hlk]
  have hlz : ((l.length : Int) == 0) = false := beq_false_of_ne (by omega)
  have hlz2 : ¬ (l.length : Int) = 0 := by omega
  obtain ⟨n, hn⟩ : ∃ n, fst l = n := ⟨_, rfl⟩
  rw [hn] at hf hc0
  rw [hn]
  have HN := Lib.hid hn
  clear h hlk h0
  by_cases h1 : k < n
  · have hgt : (k : Int) < (n : Int) := by omega
    rw [if_pos h1]
    clear h1 hn
    go_enter Try.func45, Try.ntmps45
    go_wp2_with (go_at_call 49; refine (limit_eq most k HK _).mono ?_; rintro e w' ⟨rfl, rfl⟩)
    go_returns
    exact ⟨_, rfl, Rd.nil _ _, Grew.refl _⟩
  have hgt : ¬ (k : Int) < (n : Int) := by omega
  rw [if_neg h1]
  clear h1
  by_cases h2 : l.length < n + 3
  · have hlt : (l.length : Int) < (n : Int) + 3 := by omega
    rw [if_pos h2]
    clear h2 hn
    go_enter Try.func45, Try.ntmps45
    go_wp2_with (go_at_call 49; refine (limit_eq most k HK _).mono ?_; rintro e w' ⟨rfl, rfl⟩)
    all_goals
      go_returns
      exact ⟨_, rfl, Rd.nil _ _, Grew.refl _⟩
  have hlt : ¬ (l.length : Int) < (n : Int) + 3 := by omega
  rw [if_neg h2]
  have hcn : n + 3 ≤ c := by omega
  have hiff := frame_iff l (by rw [hn]; omega)
  rw [hn] at hiff
  obtain ⟨p, hp⟩ : ∃ p, sh (l.take (n + 1)) = Sc.val ((l.drop (n + 1)).take 2) ↔ p := ⟨_, Iff.rfl⟩
  obtain ⟨F, hF⟩ : ∃ F, fr ((l.drop 1).take n) = F := ⟨_, rfl⟩
  obtain ⟨G, hG⟩ : ∃ G, l.take (n + 3) = G := ⟨_, rfl⟩
  have hzl := mid_len (l := l) (a := 1) (m := n) (by omega)
  obtain ⟨R, hR⟩ : ∃ R : List UInt8 × Nat × Int, (if sh (l.take (n + 1)) = Sc.val ((l.drop (n + 1)).take 2) then ((l.drop 1).take n, n + 3, 0) else ([], n + 3, 14)) = R := ⟨_, rfl⟩
  rw [hR]
  have hRR : Hid ((F = G → R = ((l.drop 1).take n, n + 3, 0)) ∧ (F ≠ G → R = ([], n + 3, 14))) := Lib.hid (by
    rw [← hF, ← hG]
    constructor
    · intro e; rw [← hR, if_pos (hiff.1 e)]
    · intro e; rw [← hR, if_neg fun e2 => e (hiff.2 e2)])
  have hW : wrapP ((l.drop 1).take n) 255 = (F, 0) := by
    unfold wrapP
    rw [hzl, if_neg (by have : lim 255 = 255 := by decide
                        omega), hF]
  have HW := Lib.hid hW
  have HZ : Hid (Rd S w (.slice (some ⟨ad.block, ad.off + 1, none⟩) n (c - 1)) ((l.drop 1).take n)) := Lib.hid (by
    have := cut_at HR.out 1 n (by omega) (by omega) (c - 1) (by omega) (by omega)
    simpa [Addr.add] using this)
  have HY : Hid (Rd S w (.slice (some ad) (n + 3) c) G) := Lib.hid (by
    have := cut_at HR.out 0 (n + 3) (by omega) (by omega) c (by omega) (by omega)
    rw [List.drop_zero] at this
    have e : (some ad).map (·.add 0) = some ad := by simp [Addr.add]
    rw [e, hG] at this
    exact this)
  have hq1 : 0 ≤ (n : Int) + 3 ∧ (n : Int) + 3 ≤ (c : Int) := by omega
  have hq2 : 0 ≤ (n : Int) + 1 ∧ (n : Int) + 1 ≤ (c : Int) := by omega
  have hw3 : IntKind.i64.wrap ((n : Int) + 3) = (n : Int) + 3 := IntWalk.i64_in _ (by omega)
  have hs8 : Value.slice (some ad) ((n : Int) + 3).toNat c = Value.slice (some ad) (n + 3) c := by rw [show ((n : Int) + 3).toNat = n + 3 by omega]
  clear hn hiff hp hF hG hR hW hzl
  go_enter Try.func45, Try.ntmps45
  go_wp2_with (go_at_call 49; refine (limit_eq most k HK _).mono ?_; rintro e w' ⟨rfl, rfl⟩)
  go_wp2_with fail
  refine (rwrap_any S _ ((l.drop 1).take n) 255 w HZ.out).mono ?_
  rintro e w3 ⟨v3, rfl, r3, g3⟩
  rw [HW.out] at r3 ⊢
  simp only at r3 ⊢
  have G3 := Lib.hid g3
  obtain ⟨A3, c3, rfl, _⟩ := id r3
  have HCV := Lib.hid (fun W (hg : Grew w3 W) => conv22 (r3.grew hg))
  have HCW : Hid (∀ W, Grew w3 W → (convert 23 9 (.slice (some ad) (n + 3) c)).run Try.prog W = .ok (.string ⟨G.toArray⟩) W) := Lib.hid (fun W (hg : Grew w3 W) => conv22 (HY.out.grew (g3.trans hg)))
  clear r3 g3
  go_wp2
  refine Facts.wp_region_text (by kernel_rfl) (by kernel_rfl) ?_
  apply Facts.Lex.exact [] _ (by kernel_rfl)
  · intro u W hC _
    unfold Facts.one
    go_simp
    exact ⟨Grew.refl _, rfl⟩
  simp only [Act.put, List.setIfInBounds_toArray, List.set_cons_zero, List.set_cons_succ, Nat.zero_add]
  apply Facts.Lex.exact [] _ (by kernel_rfl)
  · intro u W hC _
    have q1 := HCV.out W hC
    unfold Facts.one
    go_simp
    exact ⟨Grew.refl _, rfl⟩
  simp only [Act.put, List.setIfInBounds_toArray, List.set_cons_zero, List.set_cons_succ, Nat.reduceAdd]
  apply Facts.Lex.exact [] _ (by kernel_rfl)
  · intro u W hC _
    unfold Facts.one
    go_simp
    exact ⟨Grew.refl _, rfl⟩
  simp only [Act.put, List.setIfInBounds_toArray, List.set_cons_zero, List.set_cons_succ, Nat.reduceAdd]
  apply Facts.Lex.exact [] _ (by kernel_rfl)
  · intro u W hC _
    unfold Facts.one
    go_simp
    exact ⟨Grew.refl _, rfl⟩
  simp only [Act.put, List.setIfInBounds_toArray, List.set_cons_zero, List.set_cons_succ, Nat.reduceAdd]
  apply Facts.Lex.exact [] _ (by kernel_rfl)
  · intro u W hC _
    unfold Facts.one
    go_simp
    exact ⟨Grew.refl _, rfl⟩
  simp only [Act.put, List.setIfInBounds_toArray, List.set_cons_zero, List.set_cons_succ, Nat.reduceAdd]
  apply Facts.Lex.exact [] (.slice (some ad) (n + 3) c) (by kernel_rfl)
  · intro u W hC _
    unfold Facts.one
    go_simp
    exact ⟨Grew.refl _, rfl⟩
  simp only [Act.put, List.setIfInBounds_toArray, List.set_cons_zero, List.set_cons_succ, Nat.reduceAdd]
  apply Facts.Lex.exact [] _ (by kernel_rfl)
  · intro u W hC _
    have q2 := HCW.out W hC
    unfold Facts.one
    go_simp
    exact ⟨Grew.refl _, rfl⟩
  simp only [Act.put, List.setIfInBounds_toArray, List.set_cons_zero, List.set_cons_succ, Nat.reduceAdd]
  apply Facts.Lex.exact [] _ (by kernel_rfl)
  · intro u W hC _
    unfold Facts.one
    go_simp
    exact ⟨Grew.refl _, rfl⟩
  simp only [Act.put, List.setIfInBounds_toArray, List.set_cons_zero, List.set_cons_succ, Nat.reduceAdd]
  refine Facts.Lex.done fun u W hg _ => ?_
  have G4 := Lib.hid (G3.out.trans hg)
  clear hg
  by_cases hFG : F = G
  · have hR := hRR.out.1 hFG
    have hb : (!(F == G)) = false := by simp [hFG]
    have HRE := Lib.hid hR
    rw [hb]
    clear hFG hR hb
    go_wp2
    go_returns
    rw [HRE.out]
    refine ⟨_, ?_, HZ.out.grew G4.out, G4.out⟩
    show Ending.returned (.tuple #[_, .int .i64 ((n : Int) + 3), .int .i64 0]) = .returned (.tuple #[_, .int .i64 ((n + 3 : Nat) : Int), .int .i64 0])
    rw [show ((n + 3 : Nat) : Int) = (n : Int) + 3 by omega]
    rfl
  · have hR := hRR.out.2 hFG
    have hb : (!(F == G)) = true := by simpa using hFG
    have HRE := Lib.hid hR
    rw [hb]
    clear hFG hR hb
    go_wp2
    go_returns
    rw [HRE.out]
    refine ⟨_, ?_, Rd.nil _ _, G4.out⟩
    show Ending.returned (.tuple #[_, .int .i64 ((n : Int) + 3), .int .i64 14]) = .returned (.tuple #[_, .int .i64 ((n + 3 : Nat) : Int), .int .i64 14])
    rw [show ((n + 3 : Nat) : Int) = (n : Int) + 3 by omega]
    rfl
theorem rtake_any (S : Nat → Prop) (v : Value) (l : List UInt8) (most : Int) (w : World) (h : Rd S w v l) :
    Calls Try.prog 45 #[v, .int .i64 most] w fun e w' => ∃ v', e = .returned (.tuple #[v', .int .i64 (takeP l most).2.1, .int .i64 (takeP l most).2.2]) ∧ Rd S w' v' (takeP l most).1 ∧ Grew w w' := by
  obtain ⟨A, c, rfl, _, _, h3, _⟩ := id h
  by_cases h0 : l.length = 0
  · have e : takeP l most = ([], 0, 12) := by unfold takeP; rw [if_pos h0]
    rw [e]
    have hlz : (l.length : Int) = 0 := by omega
    clear h h3 e
    go_enter Try.func45, Try.ntmps45
    go_wp2
    go_returns
    exact ⟨_, rfl, Rd.nil _ _, Grew.refl _⟩
  · cases A with
    | none =>
      obtain ⟨_, _, e, _, _⟩ := h.cell (k := 0) (by omega)
      injection e with e1 _ _
      cases e1
    | some ad => exact rtake_full S ad c l most w h h0
end Go.Proofs.Ythgigkklefaeeaa.FU
