/-
  What is taken from the front, by the program and by the document.
  Conditions: those that each lemma names.
-/
import Derived.Test.YthgigkklefaeeaaFX
import Derived.Test.YthgigkklefaeeaaMarks
namespace Go.Proofs.Ythgigkklefaeeaa.FT
set_option maxRecDepth 100000
set_option maxRecDepth 100000
open Go Go.RowKit Go.Lib Go.Proofs.Ythgigkklefaeeaa Go.Proofs.Ythgigkklefaeeaa.Facts Go.Proofs.Ythgigkklefaeeaa.Bytes Go.Proofs.Ythgigkklefaeeaa.Puts Go.Proofs.Ythgigkklefaeeaa.Scan Go.Proofs.Ythgigkklefaeeaa.Take Go.Proofs.Ythgigkklefaeeaa.Nums Go.Proofs.Ythgigkklefaeeaa.SumPure Go.Proofs.Ythgigkklefaeeaa.Sum Go.Proofs.Ythgigkklefaeeaa.FP Go.Proofs.Ythgigkklefaeeaa.FW Go.Proofs.Ythgigkklefaeeaa.FX

structure JK (W0 : World) (x : List UInt8) (m : Nat → Bool) (u : Nat → Value) (w : World) : Prop where
  grew : Grew W0 w
  m5 : m 5 = true → m 4 = true
  sc : m 4 = true → m 5 = false → ∃ g lo hi, u 4 = .pointer (some ⟨g, 0, none⟩) ∧ W0.heap.size ≤ g ∧ SC w lo hi (.pointer (some ⟨g, 0, none⟩)) ⟨x, 0⟩
section
variable {W0 w w' : World} {x : List UInt8} {m : Nat → Bool} {u : Nat → Value}
theorem off {a b : Bool} (h : a = true → b = true) (hb : b = false) : a = false := by cases a with
  | false => rfl
  | true => rw [h rfl] at hb; cases hb
theorem JK.start (w : World) (x : List UInt8) : JK w x (fun _ => false) (fun _ => undef) w.drew := ⟨(Grew.refl w).drew, (fun h => by cases h), (fun h => by cases h)⟩
theorem JK.move (h : JK W0 x m u w) (hg : Grew w w') (k : Nat) (v : Value) (h4 : k ≠ 4) (h5 : k ≠ 5) : JK W0 x (Marks.upd m k) (Marks.updv u k v) w' := by
  have e4 := Marks.upd_other m (Ne.symm h4)
  have e5 := Marks.upd_other m (Ne.symm h5)
  have f4 := Marks.updv_other u v (Ne.symm h4)
  refine ⟨h.grew.trans hg, by rw [e4, e5]; exact h.m5, fun h1 h2 => ?_⟩
  rw [e4] at h1
  rw [e5] at h2
  rw [f4]
  obtain ⟨g, lo, hi, q1, q2, q3⟩ := h.sc h1 h2
  exact ⟨g, lo, hi, q1, q2, q3.grew hg⟩
theorem JK.keep (h : JK W0 x m u w) (k : Nat) (v : Value) (h4 : k ≠ 4) (h5 : k ≠ 5) : JK W0 x (Marks.upd m k) (Marks.updv u k v) w := h.move (Grew.refl _) k v h4 h5
theorem JK.put4 (h : JK W0 x m u w) (_hm : m 4 = false) (g lo hi : Nat) (hg : Grew w w') (hgs : w.heap.size ≤ g) (hs : SC w' lo hi (.pointer (some ⟨g, 0, none⟩)) ⟨x, 0⟩) : JK W0 x (Marks.upd m 4) (Marks.updv u 4 (.pointer (some ⟨g, 0, none⟩))) w' :=
  ⟨h.grew.trans hg, fun _ => Marks.upd_same m 4, fun _ _ => ⟨g, lo, hi, Marks.updv_same _ _ _, Nat.le_trans h.grew.size hgs, hs⟩⟩
theorem JK.put5 (_h : JK W0 x m u w) (h4 : m 4 = true) (hg : Grew W0 w') (v : Value) : JK W0 x (Marks.upd m 5) (Marks.updv u 5 v) w' :=
  ⟨hg, fun _ => by rw [Marks.upd_other m (by omega)]; exact h4, fun _ h2 => by rw [Marks.upd_same] at h2; cases h2⟩
end
theorem sl3 (ad : Addr) (c n : Nat) (h : n + 3 ≤ c) : Value.slice (if c = (1 + (n : Int)).toNat then some ad else some (ad.add (1 + (n : Int)).toNat)) ((1 + (n : Int) + 2).toNat - (1 + (n : Int)).toNat) (c - (1 + (n : Int)).toNat) = Value.slice (some (ad.add (n + 1))) 2 (c - (n + 1)) := by
  rw [show (1 + (n : Int)).toNat = n + 1 by omega, show (1 + (n : Int) + 2).toNat = n + 3 by omega, if_neg (by omega)]
  congr 1
  omega
theorem sl8 (ad : Addr) (c n : Nat) : Value.slice (some ad) (1 + (n : Int)).toNat c = Value.slice (some ad) (n + 1) c := by
  rw [show (1 + (n : Int)).toNat = n + 1 by omega]
theorem num_two (x : List UInt8) (h : x.length = 2) : Sc.num ⟨x, 0⟩ (width 2) = (Sc.val x, ⟨[], 0⟩) := by
  rw [width2]
  simp [Sc.num, Sc.take, h, List.take_of_length_le (show x.length ≤ 2 by omega), List.drop_of_length_le (show x.length ≤ 2 by omega)]
theorem mid_len {l : List UInt8} {a m : Nat} (h : a + m ≤ l.length) : ((l.drop a).take m).length = m := by rw [List.length_take, List.length_drop]; omega
/-- A cut of bytes, with any room behind it. -/
theorem cut_at {S : Nat → Prop} {w : World} {A : Option Addr} {c : Nat} {l : List UInt8} (h : Rd S w (.slice A l.length c) l) (a m : Nat) (hm : a + m ≤ l.length) (hl : 0 < l.length) (k : Nat) (hk : m ≤ k) (hk2 : a + k ≤ c) :
    Rd S w (.slice (A.map (·.add a)) m k) ((l.drop a).take m) := by
  obtain ⟨A', c', e, h1, h2, h3, h4⟩ := h
  injection e with e1 _ e3
  subst e1 e3
  have hle := mid_len hm
  refine ⟨_, k, by rw [hle], by omega, by unfold maxLen at h2 ⊢; omega, fun hA => ?_, fun ad hA => ?_⟩
  · cases A with
    | none => have := h3 rfl; omega
    | some x => cases hA
  · cases A with
    | none => cases hA
    | some b =>
      cases hA
      refine ⟨fun hne => ?_, fun j u hu => ?_⟩
      · rw [block_add']
        exact (h4 b rfl).1 (fun e => by rw [e] at hl; simp at hl)
      · have hj : j < m := by
          have := (List.getElem?_eq_some_iff.1 hu).1
          rw [bv_length, hle] at this
          exact this
        rw [add_add']
        refine (h4 b rfl).2 (a + j) u ?_
        rw [← hu]
        simp only [bv, List.getElem?_map, List.getElem?_take, List.getElem?_drop, if_pos hj]
set_option maxHeartbeats 4000000 in
theorem take_full (S : Nat → Prop) (ad : Addr) (c : Nat) (l : List UInt8) (most : Int) (w : World) (h : Rd S w (.slice (some ad) l.length c) l) (h0 : l.length ≠ 0) :
    Calls Try.prog 44 #[.slice (some ad) l.length c, .int .i64 most] w fun e w' => ∃ v', e = .returned (.tuple #[v', .int .i64 (takeP l most).2.1, .int .i64 (takeP l most).2.2]) ∧ Rd (fun b => w.heap.size ≤ b) w' v' (takeP l most).1 ∧ Grew w w' := by
  have hc0 : w.cell? ad = some (.int .u8 (fst l : Int)) := by
    obtain ⟨_, _, e, _, q⟩ := h.cell (k := 0) (by omega)
    injection e with e1 _ _
    injection e1 with e1
    subst e1
    have : ad.add 0 = ad := by unfold Addr.add; simp
    rwa [this] at q
  obtain ⟨A', c', e0, hlc, hcm, _, _⟩ := id h
  injection e0 with e1 _ e3
  subst e1 e3
  unfold maxLen at hcm
  have HR := Lib.hid h
  have hf := fst_lt l
  have hk := lim_le most
  obtain ⟨k, hlk⟩ : ∃ k, lim most = k := ⟨_, rfl⟩
  rw [hlk] at hk
  have HK := Lib.hid hlk
  unfold takeP
  rw [if_neg h0, hlk]
  have hlz : ((l.length : Int) == 0) = false := beq_false_of_ne (by omega)
  have hlz2 : ¬ (l.length : Int) = 0 := by omega
  obtain ⟨n, hn⟩ : ∃ n, fst l = n := ⟨_, rfl⟩
  rw [hn] at hf hc0
  rw [hn]
  have HN := Lib.hid hn
  clear h hlk h0 hn
  by_cases h1 : k < n
  · have hgt : (k : Int) < (n : Int) := by omega
    rw [if_pos h1]
    clear h1
    go_enter Try.func44, Try.ntmps44
    go_wp2_with (go_at_call 46; refine (within_eq most k HK _).mono ?_; rintro e w' ⟨rfl, rfl⟩)
    go_returns
    exact ⟨_, rfl, Rd.nil _ _, Grew.refl _⟩
  have hgt : ¬ (k : Int) < (n : Int) := by omega
  rw [if_neg h1]
  clear h1
  by_cases h2 : l.length < n + 3
  · have hlt : (l.length : Int) < (n : Int) + 3 := by omega
    rw [if_pos h2]
    clear h2
    go_enter Try.func44, Try.ntmps44
    go_wp2_with (go_at_call 46; refine (within_eq most k HK _).mono ?_; rintro e w' ⟨rfl, rfl⟩)
    all_goals
      go_returns
      exact ⟨_, rfl, Rd.nil _ _, Grew.refl _⟩
  have hlt : ¬ (l.length : Int) < (n : Int) + 3 := by omega
  rw [if_neg h2]
  have hcn : n + 3 ≤ c := by omega
  have hle : n + 3 ≤ l.length := by omega
  obtain ⟨V, hV⟩ : ∃ V, Sc.val ((l.drop (n + 1)).take 2) = V := ⟨_, rfl⟩
  obtain ⟨X, hX⟩ : ∃ X, sh (l.take (n + 1)) = X := ⟨_, rfl⟩
  have HSH : Hid (short (sumOf (l.take (n + 1))) = (X : Int)) := Lib.hid (by rw [sh_eq, hX])
  have hu := u64_sh X (by rw [← hX]; exact sh_lt _)
  obtain ⟨ad1, had1⟩ : ∃ ad1, ad.add (n + 1) = ad1 := ⟨_, rfl⟩
  obtain ⟨c1, hc1⟩ : ∃ c1, c - (n + 1) = c1 := ⟨_, rfl⟩
  have hs3 := sl3 ad c n (by omega)
  have hs8 := sl8 ad c n
  rw [had1, hc1] at hs3
  have hxl : ((l.drop (n + 1)).take 2).length = 2 := by rw [List.length_take, List.length_drop]; omega
  have hyl : (l.take (n + 1)).length = n + 1 := by rw [List.length_take]; omega
  have HXL := Lib.hid hxl
  have HYL := Lib.hid hyl
  have HNM : Hid (Sc.num ⟨(l.drop (n + 1)).take 2, 0⟩ (width 2) = (V, ⟨[], 0⟩)) := Lib.hid (by rw [num_two _ hxl, hV])
  have HX : Hid (Rd S w (.slice (some ad1) ((l.drop (n + 1)).take 2).length c1) ((l.drop (n + 1)).take 2)) := Lib.hid (by
    rw [hxl, ← had1, ← hc1]
    exact cut_at HR.out (n + 1) 2 (by omega) (by omega) _ (by omega) (by omega))
  have HY : Hid (Rd S w (.slice (some ad) (l.take (n + 1)).length c) (l.take (n + 1))) := Lib.hid (by
    rw [hyl]
    have := cut_at HR.out 0 (n + 1) (by omega) (by omega) c (by omega) (by omega)
    rw [List.drop_zero] at this
    have e : (some ad).map (·.add 0) = some ad := by simp [Addr.add]
    rw [e] at this
    exact this)
  have hzl := mid_len (l := l) (a := 1) (m := n) (by omega)
  have HZL := Lib.hid hzl
  have HZ : Hid (Rd S w (.slice (some ⟨ad.block, ad.off + 1, none⟩) n (c - 1)) ((l.drop 1).take n)) := Lib.hid (by
    have := cut_at HR.out 1 n (by omega) (by omega) (c - 1) (by omega) (by omega)
    simpa [Addr.add] using this)
  clear hzl
  have hq1 : 0 ≤ 1 + (n : Int) + 2 ∧ 1 + (n : Int) + 2 ≤ (c : Int) := by omega
  have hq2 : 0 ≤ 1 + (n : Int) ∧ 1 + (n : Int) ≤ max (1 + (n : Int) + 2) 0 := by omega
  have hq3 : 0 ≤ 1 + (n : Int) ∧ 1 + (n : Int) ≤ (c : Int) := by omega
  obtain ⟨R, hR⟩ : ∃ R : List UInt8 × Nat × Int, (if sh (l.take (n + 1)) = Sc.val ((l.drop (n + 1)).take 2) then ((l.drop 1).take n, n + 3, 0) else ([], n + 3, 14)) = R := ⟨_, rfl⟩
  rw [hR]
  rw [hX, hV] at hR
  have HRR := Lib.hid hR
  clear had1 hc1 hxl hyl hX hV hR
  go_enter Try.func44, Try.ntmps44
  go_wp2_with (go_at_call 46; refine (within_eq most k HK _).mono ?_; rintro e w' ⟨rfl, rfl⟩)
  refine Marks.wp_region_text (JK w ((l.drop (n + 1)).take 2)) (fun _ _ => True) (by kernel_rfl) (by kernel_rfl) (JK.start w _) ?_
  apply Marks.Lex.exact [] _ (by kernel_rfl)
  · intro m u W hm hcl hJ _
    unfold Marks.one
    go_simp
    exact ⟨trivial, hJ.keep 0 _ (by omega) (by omega), rfl⟩
  simp only [Act.put, List.setIfInBounds_toArray, List.set_cons_zero, List.set_cons_succ, Nat.zero_add]
  apply Marks.Lex.exact [] _ (by kernel_rfl)
  · intro m u W hm hcl hJ _
    unfold Marks.one
    go_simp
    exact ⟨trivial, hJ.keep 1 _ (by omega) (by omega), rfl⟩
  simp only [Act.put, List.setIfInBounds_toArray, List.set_cons_zero, List.set_cons_succ, Nat.reduceAdd]
  apply Marks.Lex.exact [] _ (by kernel_rfl)
  · intro m u W hm hcl hJ _
    unfold Marks.one
    go_simp
    exact ⟨trivial, hJ.keep 2 _ (by omega) (by omega), rfl⟩
  simp only [Act.put, List.setIfInBounds_toArray, List.set_cons_zero, List.set_cons_succ, Nat.reduceAdd]
  apply Marks.Lex.exact [] (.slice (some ad1) 2 c1) (by kernel_rfl)
  · intro m u W hm hcl hJ _
    unfold Marks.one
    go_simp
    exact ⟨trivial, hJ.keep 3 _ (by omega) (by omega), rfl⟩
  simp only [Act.put, List.setIfInBounds_toArray, List.set_cons_zero, List.set_cons_succ, Nat.reduceAdd]
  apply Marks.Lex.know [] (fun _ _ => True) (by kernel_rfl) (fun _ _ _ _ _ => trivial)
  · intro m u W hm hcl hJ _
    have hF := from_any S _ ((l.drop (n + 1)).take 2) W (HX.out.grew hJ.grew) (by rw [List.length_take]; omega)
    rw [HXL.out] at hF
    unfold Marks.one
    go_simp
    refine hF.mono ?_
    rintro e w' ⟨g, rfl, hg1, hsc, hg⟩
    exact ⟨_, rfl, trivial, hJ.put4 hm g _ _ hg hg1 hsc, trivial⟩
  simp only [Act.put, List.setIfInBounds_toArray, List.set_cons_zero, List.set_cons_succ, Nat.reduceAdd]
  apply Marks.Lex.exact [] (.int .u64 (V : Int)) (by kernel_rfl)
  · intro m u W hm hcl hJ _
    have h4 : m 4 = true := hcl 4 (by decide)
    obtain ⟨g, lo, hi, hu, hgs, hsc⟩ := hJ.sc h4 hm
    have hN := Nums.num_eq W lo hi _ _ 2 _ _ (Lib.hid hsc) HNM
    have hG := hJ.grew
    unfold Marks.one
    go_simp
    refine hN.mono ?_
    rintro e w' ⟨rfl, _, hch⟩
    exact ⟨_, rfl, trivial, hJ.put5 h4 (grew_chg hG hch hgs) _, rfl⟩
  simp only [Act.put, List.setIfInBounds_toArray, List.set_cons_zero, List.set_cons_succ, Nat.reduceAdd]
  apply Marks.Lex.exact [] _ (by kernel_rfl)
  · intro m u W hm hcl hJ _
    unfold Marks.one
    go_simp
    exact ⟨trivial, hJ.keep 6 _ (by omega) (by omega), rfl⟩
  simp only [Act.put, List.setIfInBounds_toArray, List.set_cons_zero, List.set_cons_succ, Nat.reduceAdd]
  apply Marks.Lex.exact [] _ (by kernel_rfl)
  · intro m u W hm hcl hJ _
    unfold Marks.one
    go_simp
    exact ⟨trivial, hJ.keep 7 _ (by omega) (by omega), rfl⟩
  simp only [Act.put, List.setIfInBounds_toArray, List.set_cons_zero, List.set_cons_succ, Nat.reduceAdd]
  apply Marks.Lex.exact [] (.slice (some ad) (n + 1) c) (by kernel_rfl)
  · intro m u W hm hcl hJ _
    unfold Marks.one
    go_simp
    exact ⟨trivial, hJ.keep 8 _ (by omega) (by omega), rfl⟩
  simp only [Act.put, List.setIfInBounds_toArray, List.set_cons_zero, List.set_cons_succ, Nat.reduceAdd]
  apply Marks.Lex.exact [] (.int .u16 (X : Int)) (by kernel_rfl)
  · intro m u W hm hcl hJ _
    have hF := short_any S _ (l.take (n + 1)) W (HY.out.grew hJ.grew)
    rw [HYL.out, HSH.out] at hF
    unfold Marks.one
    go_simp
    refine hF.mono ?_
    rintro e w' ⟨rfl, hg⟩
    exact ⟨_, rfl, trivial, hJ.move hg 9 _ (by omega) (by omega), rfl⟩
  simp only [Act.put, List.setIfInBounds_toArray, List.set_cons_zero, List.set_cons_succ, Nat.reduceAdd]
  apply Marks.Lex.exact [] _ (by kernel_rfl)
  · intro m u W hm hcl hJ _
    unfold Marks.one
    go_simp
    exact ⟨trivial, hJ.keep 10 _ (by omega) (by omega), rfl⟩
  simp only [Act.put, List.setIfInBounds_toArray, List.set_cons_zero, List.set_cons_succ, Nat.reduceAdd]
  apply Marks.Lex.exact [] _ (by kernel_rfl)
  · intro m u W hm hcl hJ _
    unfold Marks.one
    go_simp
    exact ⟨trivial, hJ.keep 11 _ (by omega) (by omega), rfl⟩
  simp only [Act.put, List.setIfInBounds_toArray, List.set_cons_zero, List.set_cons_succ, Nat.reduceAdd]
  apply Marks.Lex.exact [] _ (by kernel_rfl)
  · intro m u W hm hcl hJ _
    unfold Marks.one
    go_simp
    exact ⟨trivial, hJ.keep 12 _ (by omega) (by omega), rfl⟩
  simp only [Act.put, List.setIfInBounds_toArray, List.set_cons_zero, List.set_cons_succ, Nat.reduceAdd]
  refine Marks.Lex.done fun m u W hm hJ _ => ?_
  have HG := Lib.hid hJ.grew
  clear hJ
  by_cases hxv : X = V
  · have hne : ((V : Int) != (X : Int)) = false := by simp [hxv]
    have hR := HRR.out
    rw [if_pos hxv] at hR
    have hRR := Lib.hid hR
    clear hR hxv
    go_wp2_with fail
    refine (clone_any S _ ((l.drop 1).take n) W (HZ.out.grew HG.out) (by rw [HZL.out]; omega)).mono ?_
    rintro e w3 ⟨v3, rfl, r3, g3⟩
    have G3 := Lib.hid (HG.out.trans g3)
    have R3 := Lib.hid (r3.mono (S' := fun b => w.heap.size ≤ b) fun b hb => Nat.le_trans HG.out.size hb)
    clear r3 g3
    go_wp2
    go_returns
    rw [← hRR.out]
    refine ⟨_, ?_, R3.out, G3.out⟩
    show Ending.returned (.tuple #[_, .int .i64 (1 + (n : Int) + 2), .int .i64 0]) = .returned (.tuple #[_, .int .i64 ((n + 3 : Nat) : Int), .int .i64 0])
    rw [show ((n + 3 : Nat) : Int) = 1 + (n : Int) + 2 by omega]
    rfl
  · have hne : ((V : Int) != (X : Int)) = true := by simp; omega
    have hR := HRR.out
    rw [if_neg hxv] at hR
    have hRR := Lib.hid hR
    clear hR hxv
    go_wp2
    go_returns
    rw [← hRR.out]
    refine ⟨_, ?_, Rd.nil _ _, HG.out⟩
    show Ending.returned (.tuple #[_, .int .i64 (1 + (n : Int) + 2), .int .i64 14]) = .returned (.tuple #[_, .int .i64 ((n + 3 : Nat) : Int), .int .i64 14])
    rw [show ((n + 3 : Nat) : Int) = 1 + (n : Int) + 2 by omega]
    rfl
theorem take_any (S : Nat → Prop) (v : Value) (l : List UInt8) (most : Int) (w : World) (h : Rd S w v l) :
    Calls Try.prog 44 #[v, .int .i64 most] w fun e w' => ∃ v', e = .returned (.tuple #[v', .int .i64 (takeP l most).2.1, .int .i64 (takeP l most).2.2]) ∧ Rd (fun b => w.heap.size ≤ b) w' v' (takeP l most).1 ∧ Grew w w' := by
  obtain ⟨A, c, rfl, _, _, h3, _⟩ := id h
  by_cases h0 : l.length = 0
  · have e : takeP l most = ([], 0, 12) := by unfold takeP; rw [if_pos h0]
    rw [e]
    have hlz : (l.length : Int) = 0 := by omega
    clear h h3 e
    go_enter Try.func44, Try.ntmps44
    go_wp2
    go_returns
    exact ⟨_, rfl, Rd.nil _ _, Grew.refl _⟩
  · cases A with
    | none =>
      obtain ⟨_, _, e, _, _⟩ := h.cell (k := 0) (by omega)
      injection e with e1 _ _
      cases e1
    | some ad => exact take_full S ad c l most w h h0
end Go.Proofs.Ythgigkklefaeeaa.FT
