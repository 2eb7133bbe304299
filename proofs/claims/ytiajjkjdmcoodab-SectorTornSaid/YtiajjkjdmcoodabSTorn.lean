/-
  For any two stamps and loads, and any cut: SectorTorn answers true.
  Conditions: none beyond those that each lemma names.
-/
import Derived.Test.YtiajjkjdmcoodabSBack
import Derived.Test.YtiajjkjdmcoodabMarks
namespace Go.Proofs.Ytiajjkjdmcoodab.STorn
set_option maxRecDepth 100000
open Go Go.RowKit Go.Proofs.Ytiajjkjdmcoodab Go.Proofs.Ytiajjkjdmcoodab.Facts Go.Proofs.Ytiajjkjdmcoodab.Bytes Go.Proofs.Ytiajjkjdmcoodab.Puts Go.Proofs.Ytiajjkjdmcoodab.Nums Go.Proofs.Ytiajjkjdmcoodab.Take Go.Proofs.Ytiajjkjdmcoodab.SumPure Go.Proofs.Ytiajjkjdmcoodab.SPure Go.Proofs.Ytiajjkjdmcoodab.SSeal Go.Proofs.Ytiajjkjdmcoodab.SOpen Go.Proofs.Ytiajjkjdmcoodab.SAlive Go.Proofs.Ytiajjkjdmcoodab.SBack

theorem one_app {P : Program} {ops : Array Oper} {o : Oper} {ac : Act} {w : World} {R : World → World → Prop} {J' : Value → World → Prop} {g : Value → World → Prop} (hgd : o.guard = none) (s x : Operand) (t tn : TypeId)
    (ho : o.op = .call { callee := .builtin .append, args := #[s, x], argTypes := #[t, tn] }) (vs vx : Value) (hs : ac.eval s = vs) (hx : ac.eval x = vx) (v' : Value) (w' : World)
    (hr : (Builtin.append_ #[t, tn] o.type #[vs, vx]).run P w = .ok v' w') (h : R w w' ∧ J' v' w' ∧ g v' w') : Marks.one P ops o ac w R J' g := by
  unfold Marks.one
  rw [if_pos (by unfold Region.wanted; rw [hgd])]
  unfold execOp
  simp only [ho, resolve, invoke, builtin, Sem.run_bind, Sem.run_pure, Result.andThen_ok, List.map_toArray, List.map_cons, List.map_nil, hs, hx, hr]
  exact h

/-- Behind some of the region's operations: what stands in new memory. -/
structure JT (Ws : World) (lB lAB : List UInt8) (m : Nat → Bool) (u : Nat → Value) (w : World) : Prop where
  grew : Grew Ws w
  m4 : m 4 = true → m 0 = true
  m8 : m 8 = true → m 4 = true
  m9 : m 9 = true → m 8 = true
  u0 : m 0 = true → m 4 = false → w.ownsRow Ws.heap.size 5 1 (u 0) ([] : List UInt8).length (bv [])
  u4 : m 4 = true → m 8 = false → w.ownsRow Ws.heap.size 5 1 (u 4) lB.length (bv lB)
  u8 : m 8 = true → w.ownsRow Ws.heap.size 5 1 (u 8) lAB.length (bv lAB)
  u9 : m 9 = true → u 9 = u 8
theorem gb {Ws w w' : World} (h : Grew Ws w) (hb : Below Ws.heap.size w w') : Grew Ws w' := (show Below Ws.heap.size Ws w from h).trans hb
section
variable {Ws : World} {lB lAB : List UInt8} {m : Nat → Bool} {u : Nat → Value} {w : World}
theorem off {a b : Bool} (h : a = true → b = true) (hb : b = false) : a = false := by cases a with
  | false => rfl
  | true => rw [h rfl] at hb; cases hb
theorem JT.start (w : World) : JT w lB lAB (fun _ => false) (fun _ => undef) w.drew :=
  ⟨(Grew.refl w).drew, (fun h => by cases h), (fun h => by cases h), (fun h => by cases h), (fun h => by cases h), (fun h => by cases h), (fun h => by cases h), (fun h => by cases h)⟩
theorem JT.keep (h : JT Ws lB lAB m u w) (k : Nat) (v : Value) (h0 : k ≠ 0) (h4 : k ≠ 4) (h8 : k ≠ 8) (h9 : k ≠ 9) : JT Ws lB lAB (Marks.upd m k) (Marks.updv u k v) w := by
  have e0 := Marks.upd_other m (Ne.symm h0)
  have e4 := Marks.upd_other m (Ne.symm h4)
  have e8 := Marks.upd_other m (Ne.symm h8)
  have e9 := Marks.upd_other m (Ne.symm h9)
  have f0 := Marks.updv_other u v (Ne.symm h0)
  have f4 := Marks.updv_other u v (Ne.symm h4)
  have f8 := Marks.updv_other u v (Ne.symm h8)
  have f9 := Marks.updv_other u v (Ne.symm h9)
  exact ⟨h.grew, by rw [e4, e0]; exact h.m4, by rw [e8, e4]; exact h.m8, by rw [e9, e8]; exact h.m9, by rw [e0, e4, f0]; exact h.u0, by rw [e4, e8, f4]; exact h.u4, by rw [e8, f8]; exact h.u8, by rw [e9, f9, f8]; exact h.u9⟩
theorem JT.put0 (h : JT Ws lB lAB m u w) (hm : m 0 = false) (v : Value) (w' : World) (hb : Below Ws.heap.size w w') (ho : w'.ownsRow Ws.heap.size 5 1 v ([] : List UInt8).length (bv [])) : JT Ws lB lAB (Marks.upd m 0) (Marks.updv u 0 v) w' := by
  have q4 := off h.m4 hm
  have q8 := off h.m8 q4
  have q9 := off h.m9 q8
  have e0 := Marks.upd_same m 0
  have e4 : Marks.upd m 0 4 = false := by rw [Marks.upd_other m (by omega)]; exact q4
  have e8 : Marks.upd m 0 8 = false := by rw [Marks.upd_other m (by omega)]; exact q8
  have e9 : Marks.upd m 0 9 = false := by rw [Marks.upd_other m (by omega)]; exact q9
  exact ⟨gb h.grew hb, by rw [e4]; simp, by rw [e8]; simp, by rw [e9]; simp, fun _ _ => by rw [Marks.updv_same]; exact ho, by rw [e4]; simp, by rw [e8]; simp, by rw [e9]; simp⟩
theorem JT.put4 (h : JT Ws lB lAB m u w) (hm : m 4 = false) (h0 : m 0 = true) (v : Value) (w' : World) (hb : Below Ws.heap.size w w') (ho : w'.ownsRow Ws.heap.size 5 1 v lB.length (bv lB)) : JT Ws lB lAB (Marks.upd m 4) (Marks.updv u 4 v) w' := by
  have q8 := off h.m8 hm
  have q9 := off h.m9 q8
  have e0 : Marks.upd m 4 0 = true := by rw [Marks.upd_other m (by omega)]; exact h0
  have e4 := Marks.upd_same m 4
  have e8 : Marks.upd m 4 8 = false := by rw [Marks.upd_other m (by omega)]; exact q8
  have e9 : Marks.upd m 4 9 = false := by rw [Marks.upd_other m (by omega)]; exact q9
  exact ⟨gb h.grew hb, fun _ => e0, by rw [e8]; simp, by rw [e9]; simp, by rw [e4]; simp, fun _ _ => by rw [Marks.updv_same]; exact ho, by rw [e8]; simp, by rw [e9]; simp⟩
theorem JT.put8 (h : JT Ws lB lAB m u w) (hm : m 8 = false) (h4 : m 4 = true) (v : Value) (w' : World) (hb : Below Ws.heap.size w w') (ho : w'.ownsRow Ws.heap.size 5 1 v lAB.length (bv lAB)) : JT Ws lB lAB (Marks.upd m 8) (Marks.updv u 8 v) w' := by
  have q9 := off h.m9 hm
  have e0 : Marks.upd m 8 0 = true := by rw [Marks.upd_other m (by omega)]; exact h.m4 h4
  have e4 : Marks.upd m 8 4 = true := by rw [Marks.upd_other m (by omega)]; exact h4
  have e8 := Marks.upd_same m 8
  have e9 : Marks.upd m 8 9 = false := by rw [Marks.upd_other m (by omega)]; exact q9
  exact ⟨gb h.grew hb, fun _ => e0, fun _ => e4, by rw [e9]; simp, by rw [e4]; simp, by rw [e8]; simp, fun _ => by rw [Marks.updv_same]; exact ho, by rw [e9]; simp⟩
theorem JT.put9 (h : JT Ws lB lAB m u w) (h8 : m 8 = true) : JT Ws lB lAB (Marks.upd m 9) (Marks.updv u 9 (u 8)) w := by
  have e0 := Marks.upd_other m (k := 9) (j := 0) (by omega)
  have e4 := Marks.upd_other m (k := 9) (j := 4) (by omega)
  have e8 := Marks.upd_other m (k := 9) (j := 8) (by omega)
  have f0 := Marks.updv_other u (u 8) (k := 9) (j := 0) (by omega)
  have f4 := Marks.updv_other u (u 8) (k := 9) (j := 4) (by omega)
  have f8 := Marks.updv_other u (u 8) (k := 9) (j := 8) (by omega)
  exact ⟨h.grew, by rw [e4, e0]; exact h.m4, by rw [e8, e4]; exact h.m8, fun _ => by rw [e8]; exact h8, by rw [e0, e4, f0]; exact h.u0, by rw [e4, e8, f4]; exact h.u4, by rw [e8, f8]; exact h.u8, fun _ => by rw [Marks.updv_same, f8]⟩
end
theorem run_app2n (W : World) (base : Nat) (v : Value) (A : Option Addr) (c n : Nat) (l0 l : List UInt8) (S : Nat → Prop) (hown : W.ownsRow base 5 1 v l0.length (bv l0)) (hr : Rd S W (.slice A n c) l) (hn : l.length = n) (hl : l0.length + n ≤ 140737488355328) (hb : base ≤ W.heap.size) :
    ∃ v' w', (Builtin.append_ #[23, 23] 23 #[v, .slice A n c]).run Try.prog W = .ok v' w' ∧ w'.ownsRow base 5 1 v' (l0 ++ l).length (bv (l0 ++ l)) ∧ Below base W w' := by
  subst hn
  exact run_app2 W base v A c l0 l S hown hr hl hb

/-- What must come of the bytes in the end. -/
structure Fine (o s : Nat) (LA LB C : List UInt8) (n : Nat) (x : List UInt8) (z : Int) : Prop where
  eqB : C = LB → z = 0 ∧ n = s ∧ x.length = 108
  eqA : C = LA → C ≠ LB → (o = 0 ∧ z = 2) ∨ (0 < o ∧ z = 0 ∧ n = o)
  ne : C ≠ LA → C ≠ LB → z = 2

theorem fine (o s : Nat) (LA LB : List UInt8) (k : Nat) (n : Nat) (x : List UInt8) (z : Int) (ha : Stamped LA o) (hb : Stamped LB s) (ho : o < 256 ^ 8) (hs : s < 256 ^ 8) (hne : o ≠ s) (hk : k ≤ 128)
    (hB : ∃ y, opened LB = (s, y, 0) ∧ y.length = 108) (hA : (o = 0 ∧ opened LA = (0, [], 2)) ∨ (0 < o ∧ ∃ y, opened LA = (o, y, 0))) (hq : opened (LB.take k ++ LA.drop k) = (n, x, z)) : Fine o s LA LB (LB.take k ++ LA.drop k) n x z where
  eqB := fun e => by
    obtain ⟨y, h1, h2⟩ := hB
    rw [e, h1] at hq
    injection hq with e1 e2
    injection e2 with e2 e3
    exact ⟨e3.symm, e1.symm, by rw [← e2]; exact h2⟩
  eqA := fun e _ => by
    rw [e] at hq
    rcases hA with ⟨h0, h1⟩ | ⟨h0, y, h1⟩
    · rw [h1] at hq
      injection hq with e1 e2
      injection e2 with e2 e3
      exact .inl ⟨h0, e3.symm⟩
    · rw [h1] at hq
      injection hq with e1 e2
      injection e2 with e2 e3
      exact .inr ⟨h0, e3.symm, e1.symm⟩
  ne := fun h1 h2 => by
    rw [torn LA LB o s k ha hb ho hs hne hk h2 h1] at hq
    injection hq with e1 e2
    injection e2 with e2 e3
    exact e3.symm
theorem lists_ne {C L : List UInt8} (h : ¬ C = L) : (C == L) = false := by simpa using h


set_option maxHeartbeats 1500000 in
/-- Where one of the two is not sealed. -/
theorem law_bad (S : Nat → Prop) (A1 : Option Addr) (c1 : Nat) (A2 : Option Addr) (c2 : Nat) (was load : List UInt8) (o s : Nat) (cut : Int) (w : World) (ha : Rd S w (.slice A1 was.length c1) was) (hb : Rd S w (.slice A2 load.length c2) load) (x1 : List UInt8) (y1 : Int) (x2 : List UInt8) (y2 : Int) (h0 : ¬ (o : Int) = 0) (hq1 : sealing o was = (x1, y1)) (hq2 : sealing s load = (x2, y2)) (hbad : ¬ y1 = 0 ∨ (y1 = 0 ∧ ¬ y2 = 0)) :
    Calls Try.prog 5 #[.int .u64 o, .int .u64 s, .slice A1 was.length c1, .slice A2 load.length c2, .int .i64 cut] w fun e w' => e = .returned (.bool true) ∧ Grew w w' := by
  have HA := Lib.hid ha
  have HB := Lib.hid hb
  have HQ1 := Lib.hid hq1
  have HQ2 := Lib.hid hq2
  clear ha hb hq1 hq2
  rcases hbad with hy | ⟨rfl, hy⟩
  · go_enter Try.func5, Try.ntmps5
    go_wp2_with fail
    refine (seal_eq _ _ was _ _ _ w HA.out HQ1.out).mono ?_
    rintro e w1 ⟨v1, rfl, d1, g1⟩
    have D1 := Lib.hid d1.lt
    have G1 := Lib.hid g1
    clear d1 g1
    go_wp2_with fail
    refine (seal_eq _ _ load _ _ _ w1 (HB.out.grew G1.out) HQ2.out).mono ?_
    rintro e w2 ⟨v2, rfl, d2, g2⟩
    have D1' := Lib.hid (D1.out.grew g2)
    have D2 := Lib.hid d2.lt
    have G2 := Lib.hid (G1.out.trans g2)
    clear d2 g2 D1 G1
    go_wp2_with fail
    with_reducible refine (alive_any _).mono ?_
    rintro e W6 ⟨rfl, g6⟩
    go_wp2
    go_returns
    exact ⟨rfl, G2.out.trans g6⟩
  · go_enter Try.func5, Try.ntmps5
    go_wp2_with fail
    refine (seal_eq _ _ was _ _ _ w HA.out HQ1.out).mono ?_
    rintro e w1 ⟨v1, rfl, d1, g1⟩
    have D1 := Lib.hid d1.lt
    have G1 := Lib.hid g1
    clear d1 g1
    go_wp2_with fail
    refine (seal_eq _ _ load _ _ _ w1 (HB.out.grew G1.out) HQ2.out).mono ?_
    rintro e w2 ⟨v2, rfl, d2, g2⟩
    have D1' := Lib.hid (D1.out.grew g2)
    have D2 := Lib.hid d2.lt
    have G2 := Lib.hid (G1.out.trans g2)
    clear d2 g2 D1 G1
    go_wp2_with fail
    with_reducible refine (alive_any _).mono ?_
    rintro e W6 ⟨rfl, g6⟩
    go_wp2
    go_returns
    exact ⟨rfl, G2.out.trans g6⟩

set_option maxHeartbeats 1500000 in
theorem law_good (S : Nat → Prop) (A1 : Option Addr) (c1 : Nat) (A2 : Option Addr) (c2 : Nat) (was load : List UInt8) (o s : Nat) (cut : Int) (w : World) (ha : Rd S w (.slice A1 was.length c1) was) (hb : Rd S w (.slice A2 load.length c2) load) (h0 : ¬ (o : Int) = 0) (hm1 : may o = true) (hl1 : was.length ≤ 108) (hm2 : may s = true) (hl2 : load.length ≤ 108) (hcl : -9223372036854775808 ≤ cut) (hcu : cut ≤ 9223372036854775807) :
    Calls Try.prog 5 #[.int .u64 o, .int .u64 s, .slice A1 was.length c1, .slice A2 load.length c2, .int .i64 cut] w fun e w' => e = .returned (.bool true) ∧ Grew w w' := by
  have HA := Lib.hid ha
  have HB := Lib.hid hb
  have HQ1 : Hid (sealing o was = (sealed o was, 0)) := Lib.hid (by unfold sealing; rw [if_neg (by simp [hm1]), if_neg (by omega)])
  have HQ2 : Hid (sealing s load = (sealed s load, 0)) := Lib.hid (by unfold sealing; rw [if_neg (by simp [hm2]), if_neg (by omega)])
  have hp : (0 : Int) < (o : Int) := by omega
  have HFALL : Hid (o ≠ s → ∀ k, k ≤ 128 → ∀ n x z, opened ((sealed s load).take k ++ (sealed o was).drop k) = (n, x, z) → Fine o s (sealed o was) (sealed s load) ((sealed s load).take k ++ (sealed o was).drop k) n x z) := Lib.hid fun hne k hk n x z hz =>
    fine o s _ _ k n x z (stamped_sealed o was hl1) (stamped_sealed s load hl2) (may_small hm1) (may_small hm2) hne hk ⟨_, opened_sealed s load hl2 hm2, by simp [zeros_length]; omega⟩ (.inr ⟨by omega, _, opened_sealed o was hl1 hm1⟩) hz
  have HAL := Lib.hid (sealed_length o was hl1)
  have HBL := Lib.hid (sealed_length s load hl2)
  clear ha hb hm1 hm2
  generalize sealed o was = LA at *
  generalize sealed s load = LB at *
  by_cases e0 : o = s
  · subst e0
    go_enter Try.func5, Try.ntmps5
    go_wp2_with fail
    refine (seal_eq _ _ was _ _ _ w HA.out HQ1.out).mono ?_
    rintro e w1 ⟨v1, rfl, d1, g1⟩
    have D1 := Lib.hid d1.lt
    have G1 := Lib.hid g1
    clear d1 g1
    go_wp2_with fail
    refine (seal_eq _ _ load _ _ _ w1 (HB.out.grew G1.out) HQ2.out).mono ?_
    rintro e w2 ⟨v2, rfl, d2, g2⟩
    have D1' := Lib.hid (D1.out.grew g2)
    have D2 := Lib.hid d2.lt
    have G2 := Lib.hid (G1.out.trans g2)
    clear d2 g2 D1 G1
    go_wp2_with fail
    with_reducible refine (alive_any _).mono ?_
    rintro e W6 ⟨rfl, g6⟩
    go_wp2
    go_returns
    exact ⟨rfl, G2.out.trans g6⟩
  · have e1 : ((o : Int) == (s : Int)) = false := by
      have : ¬ (o : Int) = (s : Int) := by omega
      simpa using this
    by_cases e2 : cut < 0
    · go_enter Try.func5, Try.ntmps5
      go_wp2_with fail
      refine (seal_eq _ _ was _ _ _ w HA.out HQ1.out).mono ?_
      rintro e w1 ⟨v1, rfl, d1, g1⟩
      have D1 := Lib.hid d1.lt
      have G1 := Lib.hid g1
      clear d1 g1
      go_wp2_with fail
      refine (seal_eq _ _ load _ _ _ w1 (HB.out.grew G1.out) HQ2.out).mono ?_
      rintro e w2 ⟨v2, rfl, d2, g2⟩
      have D1' := Lib.hid (D1.out.grew g2)
      have D2 := Lib.hid d2.lt
      have G2 := Lib.hid (G1.out.trans g2)
      clear d2 g2 D1 G1
      go_wp2_with fail
      with_reducible refine (alive_any _).mono ?_
      rintro e W6 ⟨rfl, g6⟩
      go_wp2
      go_returns
      exact ⟨rfl, G2.out.trans g6⟩
    · by_cases e3 : 128 < cut
      · go_enter Try.func5, Try.ntmps5
        go_wp2_with fail
        refine (seal_eq _ _ was _ _ _ w HA.out HQ1.out).mono ?_
        rintro e w1 ⟨v1, rfl, d1, g1⟩
        have D1 := Lib.hid d1.lt
        have G1 := Lib.hid g1
        clear d1 g1
        go_wp2_with fail
        refine (seal_eq _ _ load _ _ _ w1 (HB.out.grew G1.out) HQ2.out).mono ?_
        rintro e w2 ⟨v2, rfl, d2, g2⟩
        have D1' := Lib.hid (D1.out.grew g2)
        have D2 := Lib.hid d2.lt
        have G2 := Lib.hid (G1.out.trans g2)
        clear d2 g2 D1 G1
        go_wp2_with fail
        with_reducible refine (alive_any _).mono ?_
        rintro e W6 ⟨rfl, g6⟩
        go_wp2
        go_returns
        exact ⟨rfl, G2.out.trans g6⟩
      · obtain ⟨k, rfl⟩ := Int.eq_ofNat_of_zero_le (show 0 ≤ cut by omega)
        have hk : k ≤ 128 := by omega
        have HFINE := Lib.hid (HFALL.out e0 k hk)
        have HLT : Hid ((LB.take k).length = k) := Lib.hid (by rw [List.length_take, HBL.out]; omega)
        have HLD : Hid ((LA.drop k).length = 128 - k) := Lib.hid (by rw [List.length_drop, HAL.out])
        clear HFALL
        go_enter Try.func5, Try.ntmps5
        go_wp2_with fail
        refine (seal_eq _ _ was _ _ _ w HA.out HQ1.out).mono ?_
        rintro e w1 ⟨v1, rfl, d1, g1⟩
        obtain ⟨adA, cA, rfl, hA1, hA2, _⟩ := SAlive.shape d1 128 HAL.out (by decide)
        have D1 := Lib.hid d1.lt
        have G1 := Lib.hid g1
        clear d1 g1
        go_wp2_with fail
        refine (seal_eq _ _ load _ _ _ w1 (HB.out.grew G1.out) HQ2.out).mono ?_
        rintro e w2 ⟨v2, rfl, d2, g2⟩
        obtain ⟨adB, cB, rfl, hB1, hB2, _⟩ := SAlive.shape d2 128 HBL.out (by decide)
        have D1' := Lib.hid (D1.out.grew g2)
        have D2 := Lib.hid d2.lt
        have G2 := Lib.hid (G1.out.trans g2)
        clear d2 g2 D1 G1
        by_cases hck : cA = k
        · have hk128 : k = 128 := by omega
          subst hk128
          subst hck
          have HTA : Hid (Rd _ w2 (.slice (some adA) 0 0) (LA.drop 128)) := Lib.hid (by
            have h := (cut_rd (n := 128) (l := LA) (A := some adA) (c := 128) (by rw [HAL.out]; exact D1'.out) (by rw [HAL.out]; exact hk)).2
            rw [if_pos rfl, HAL.out] at h
            exact h)
          have HTB := Lib.hid (pre_rd (n := 128) (l := LB) (A := some adB) (c := cB) (by rw [HBL.out]; exact D2.out) (by rw [HBL.out]; exact hk))
          have HCA := D1'
          have HCB := D2
          have HGS := G2
          replace HLD : Hid ((LA.drop 128).length = 0) := HLD
          have hcb : (128 : Int) ≤ (cB : Int) := by omega
          go_wp2
          refine Marks.wp_region_text (JT w2 (LB.take 128) (LB.take 128 ++ LA.drop 128)) (fun _ _ => True) (by kernel_rfl) (by kernel_rfl) (JT.start w2) ?_
          apply Marks.Lex.know [] (fun _ _ => True) (by kernel_rfl) (fun _ _ _ _ _ => trivial)
          · intro m u W hm hcl hJ _
            unfold Marks.one
            go_simp
            refine ⟨trivial, hJ.put0 hm _ _ ((Below.refl _ W).alloc hJ.grew.size _) ?_, trivial⟩
            exact ⟨rfl, .inr ⟨W.heap.size, 0, #[], rfl, hJ.grew.size, heap_alloc_new W _, Nat.le_refl _, Nat.zero_le _, rfl, rfl⟩⟩
          simp only [Act.put, List.setIfInBounds_toArray, List.set_cons_zero, List.set_cons_succ, Nat.zero_add, Nat.reduceAdd]
          apply Marks.Lex.exact [] _ (by kernel_rfl)
          · intro m u W hm hcl hJ _
            unfold Marks.one
            go_simp
            exact ⟨trivial, hJ.keep 1 _ (by omega) (by omega) (by omega) (by omega), rfl⟩
          simp only [Act.put, List.setIfInBounds_toArray, List.set_cons_zero, List.set_cons_succ, Nat.zero_add, Nat.reduceAdd]
          apply Marks.Lex.exact [] _ (by kernel_rfl)
          · intro m u W hm hcl hJ _
            unfold Marks.one
            go_simp
            exact ⟨trivial, hJ.keep 2 _ (by omega) (by omega) (by omega) (by omega), rfl⟩
          simp only [Act.put, List.setIfInBounds_toArray, List.set_cons_zero, List.set_cons_succ, Nat.zero_add, Nat.reduceAdd]
          apply Marks.Lex.exact [] (.slice (some adB) 128 cB) (by kernel_rfl)
          · intro m u W hm hcl hJ _
            unfold Marks.one
            go_simp
            exact ⟨trivial, hJ.keep 3 _ (by omega) (by omega) (by omega) (by omega), rfl⟩
          simp only [Act.put, List.setIfInBounds_toArray, List.set_cons_zero, List.set_cons_succ, Nat.zero_add, Nat.reduceAdd]
          apply Marks.Lex.know [] (fun _ _ => True) (by kernel_rfl) (fun _ _ _ _ _ => trivial)
          · intro m u W hm hcl hJ _
            have h0 : m 0 = true := hcl 0 (by decide)
            obtain ⟨v', w', hr, ho, hb⟩ := run_app2n W w2.heap.size (u 0) (some adB) cB 128 [] (LB.take 128) _ (hJ.u0 h0 hm) (HTB.out.grew hJ.grew) HLT.out (by simp <;> omega) hJ.grew.size
            exact one_app rfl (.tmp 62) (.tmp 65) 23 23 rfl _ _ rfl rfl v' w' hr ⟨trivial, hJ.put4 hm h0 v' w' hb (by rw [List.nil_append] at ho; exact ho), trivial⟩
          simp only [Act.put, List.setIfInBounds_toArray, List.set_cons_zero, List.set_cons_succ, Nat.zero_add, Nat.reduceAdd]
          apply Marks.Lex.exact [] _ (by kernel_rfl)
          · intro m u W hm hcl hJ _
            unfold Marks.one
            go_simp
            exact ⟨trivial, hJ.keep 5 _ (by omega) (by omega) (by omega) (by omega), rfl⟩
          simp only [Act.put, List.setIfInBounds_toArray, List.set_cons_zero, List.set_cons_succ, Nat.zero_add, Nat.reduceAdd]
          apply Marks.Lex.exact [] _ (by kernel_rfl)
          · intro m u W hm hcl hJ _
            unfold Marks.one
            go_simp
            exact ⟨trivial, hJ.keep 6 _ (by omega) (by omega) (by omega) (by omega), rfl⟩
          simp only [Act.put, List.setIfInBounds_toArray, List.set_cons_zero, List.set_cons_succ, Nat.zero_add, Nat.reduceAdd]
          apply Marks.Lex.exact [] (.slice (some adA) 0 0) (by kernel_rfl)
          · intro m u W hm hcl hJ _
            unfold Marks.one
            go_simp
            exact ⟨trivial, hJ.keep 7 _ (by omega) (by omega) (by omega) (by omega), rfl⟩
          simp only [Act.put, List.setIfInBounds_toArray, List.set_cons_zero, List.set_cons_succ, Nat.zero_add, Nat.reduceAdd]
          apply Marks.Lex.know [] (fun _ _ => True) (by kernel_rfl) (fun _ _ _ _ _ => trivial)
          · intro m u W hm hcl hJ _
            have h4 : m 4 = true := hcl 4 (by decide)
            obtain ⟨v', w', hr, ho, hb⟩ := run_app2n W w2.heap.size (u 4) (some adA) 0 0 (LB.take 128) (LA.drop 128) _ (hJ.u4 h4 hm) (HTA.out.grew hJ.grew) HLD.out (by have := HLT.out; omega) hJ.grew.size
            exact one_app rfl (.tmp 66) (.tmp 69) 23 23 rfl _ _ rfl rfl v' w' hr ⟨trivial, hJ.put8 hm h4 v' w' hb ho, trivial⟩
          simp only [Act.put, List.setIfInBounds_toArray, List.set_cons_zero, List.set_cons_succ, Nat.zero_add, Nat.reduceAdd]
          apply Marks.Lex.know [] (fun _ _ => True) (by kernel_rfl) (fun _ _ _ _ _ => trivial)
          · intro m u W hm hcl hJ _
            have h8 : m 8 = true := hcl 8 (by decide)
            unfold Marks.one
            go_simp
            exact ⟨trivial, hJ.put9 h8, trivial⟩
          simp only [Act.put, List.setIfInBounds_toArray, List.set_cons_zero, List.set_cons_succ, Nat.zero_add, Nat.reduceAdd]
          refine Marks.Lex.done fun m u W4 hm hJ hL => ?_
          have e9 := hJ.u9 (hm 9 (by omega))
          have hown := hJ.u8 (hm 8 (by omega))
          have HG4 := Lib.hid (HGS.out.trans hJ.grew)
          have HG5 := Lib.hid hJ.grew
          clear hL hJ hm
          rw [e9]
          generalize u 8 = vC at *
          clear e9
          have hCl : (LB.take 128 ++ LA.drop 128).length = 128 := by
            have h1 := HLT.out
            have h2 := HLD.out
            rw [List.length_append]
            omega
          obtain ⟨_, AC, cC, rfl⟩ := own_len hown (by omega)
          rw [hCl] at hown
          obtain ⟨⟨n, x, z⟩, hz⟩ : ∃ q, opened (LB.take 128 ++ LA.drop 128) = q := ⟨_, rfl⟩
          have HF := HFINE.out n x z hz
          have HM : Hid (Rd (fun _ => True) W4 (.slice AC 128 cC) (LB.take 128 ++ LA.drop 128)) := Lib.hid ((Rd.of_own hown hCl.symm).mono fun _ _ => trivial)
          have HZ := Lib.hid hz
          have HCL := Lib.hid hCl
          clear hown hz hCl
          rw [HCL.out]
          generalize LB.take 128 ++ LA.drop 128 = C at *
          go_wp2_with fail
          with_reducible refine (open_eq _ _ C n x z W4 HM.out HZ.out).mono ?_
          rintro e W5 ⟨v5, rfl, d5, g5⟩
          have c1 := conv22 (HM.out.grew g5)
          have c2 := conv22 (HCB.out.grew (HG5.out.trans g5))
          have c3 := conv22 (HCA.out.grew (HG5.out.trans g5))
          have HG6 := Lib.hid (HG4.out.trans g5)
          by_cases eB : C = LB
          · obtain ⟨rfl, rfl, hx⟩ := HF.eqB eB
            obtain ⟨adX, cX, rfl, _, _, _⟩ := SAlive.shape d5 108 hx (by decide)
            rw [eB] at c1
            clear d5 g5 HF eB hx
            go_wp2_with fail
            with_reducible refine (alive_any _).mono ?_
            rintro e W6 ⟨rfl, g6⟩
            have GE := Lib.hid (HG6.out.trans g6)
            clear g6
            go_wp2
            go_returns
            exact ⟨rfl, GE.out⟩
          · have hB := lists_ne eB
            by_cases eA : C = LA
            · obtain ⟨rfl, rfl⟩ : z = 0 ∧ n = o := by
                rcases HF.eqA eA eB with ⟨h, _⟩ | ⟨_, h1, h2⟩
                · exact absurd h (by omega)
                · exact ⟨h1, h2⟩
              rw [eA] at c1 hB
              clear d5 g5 HF eB eA
              go_wp2_with fail
              with_reducible refine (alive_any _).mono ?_
              rintro e W6 ⟨rfl, g6⟩
              have GE := Lib.hid (HG6.out.trans g6)
              clear g6
              go_wp2
              go_returns
              exact ⟨rfl, GE.out⟩
            · have hA := lists_ne eA
              obtain rfl := HF.ne eA eB
              clear d5 g5 HF eB eA
              go_wp2_with fail
              with_reducible refine (alive_any _).mono ?_
              rintro e W6 ⟨rfl, g6⟩
              have GE := Lib.hid (HG6.out.trans g6)
              clear g6
              go_wp2
              go_returns
              exact ⟨rfl, GE.out⟩
        · have HTA : Hid (Rd _ w2 (.slice (some (adA.add k)) (128 - k) (cA - k)) (LA.drop k)) := Lib.hid (by
            have h := (cut_rd (n := k) (l := LA) (A := some adA) (c := cA) (by rw [HAL.out]; exact D1'.out) (by rw [HAL.out]; exact hk)).2
            rw [if_neg hck, HAL.out] at h
            exact h)
          have HTB := Lib.hid (pre_rd (n := k) (l := LB) (A := some adB) (c := cB) (by rw [HBL.out]; exact D2.out) (by rw [HBL.out]; exact hk))
          have HCA := D1'
          have HCB := D2
          have HGS := G2
          have hkB : k ≤ cB := by omega
          have hkA : k ≤ cA := by omega
          go_wp2
          refine Marks.wp_region_text (JT w2 (LB.take k) (LB.take k ++ LA.drop k)) (fun _ _ => True) (by kernel_rfl) (by kernel_rfl) (JT.start w2) ?_
          apply Marks.Lex.know [] (fun _ _ => True) (by kernel_rfl) (fun _ _ _ _ _ => trivial)
          · intro m u W hm hcl hJ _
            unfold Marks.one
            go_simp
            refine ⟨trivial, hJ.put0 hm _ _ ((Below.refl _ W).alloc hJ.grew.size _) ?_, trivial⟩
            exact ⟨rfl, .inr ⟨W.heap.size, 0, #[], rfl, hJ.grew.size, heap_alloc_new W _, Nat.le_refl _, Nat.zero_le _, rfl, rfl⟩⟩
          simp only [Act.put, List.setIfInBounds_toArray, List.set_cons_zero, List.set_cons_succ, Nat.zero_add, Nat.reduceAdd]
          apply Marks.Lex.exact [] _ (by kernel_rfl)
          · intro m u W hm hcl hJ _
            unfold Marks.one
            go_simp
            exact ⟨trivial, hJ.keep 1 _ (by omega) (by omega) (by omega) (by omega), rfl⟩
          simp only [Act.put, List.setIfInBounds_toArray, List.set_cons_zero, List.set_cons_succ, Nat.zero_add, Nat.reduceAdd]
          apply Marks.Lex.exact [] _ (by kernel_rfl)
          · intro m u W hm hcl hJ _
            unfold Marks.one
            go_simp
            exact ⟨trivial, hJ.keep 2 _ (by omega) (by omega) (by omega) (by omega), rfl⟩
          simp only [Act.put, List.setIfInBounds_toArray, List.set_cons_zero, List.set_cons_succ, Nat.zero_add, Nat.reduceAdd]
          apply Marks.Lex.exact [] (.slice (some adB) k cB) (by kernel_rfl)
          · intro m u W hm hcl hJ _
            unfold Marks.one
            go_simp
            exact ⟨trivial, hJ.keep 3 _ (by omega) (by omega) (by omega) (by omega), rfl⟩
          simp only [Act.put, List.setIfInBounds_toArray, List.set_cons_zero, List.set_cons_succ, Nat.zero_add, Nat.reduceAdd]
          apply Marks.Lex.know [] (fun _ _ => True) (by kernel_rfl) (fun _ _ _ _ _ => trivial)
          · intro m u W hm hcl hJ _
            have h0 : m 0 = true := hcl 0 (by decide)
            obtain ⟨v', w', hr, ho, hb⟩ := run_app2n W w2.heap.size (u 0) (some adB) cB k [] (LB.take k) _ (hJ.u0 h0 hm) (HTB.out.grew hJ.grew) HLT.out (by simp <;> omega) hJ.grew.size
            exact one_app rfl (.tmp 62) (.tmp 65) 23 23 rfl _ _ rfl rfl v' w' hr ⟨trivial, hJ.put4 hm h0 v' w' hb (by rw [List.nil_append] at ho; exact ho), trivial⟩
          simp only [Act.put, List.setIfInBounds_toArray, List.set_cons_zero, List.set_cons_succ, Nat.zero_add, Nat.reduceAdd]
          apply Marks.Lex.exact [] _ (by kernel_rfl)
          · intro m u W hm hcl hJ _
            unfold Marks.one
            go_simp
            exact ⟨trivial, hJ.keep 5 _ (by omega) (by omega) (by omega) (by omega), rfl⟩
          simp only [Act.put, List.setIfInBounds_toArray, List.set_cons_zero, List.set_cons_succ, Nat.zero_add, Nat.reduceAdd]
          apply Marks.Lex.exact [] _ (by kernel_rfl)
          · intro m u W hm hcl hJ _
            unfold Marks.one
            go_simp
            exact ⟨trivial, hJ.keep 6 _ (by omega) (by omega) (by omega) (by omega), rfl⟩
          simp only [Act.put, List.setIfInBounds_toArray, List.set_cons_zero, List.set_cons_succ, Nat.zero_add, Nat.reduceAdd]
          apply Marks.Lex.exact [] (.slice (some (adA.add k)) (128 - k) (cA - k)) (by kernel_rfl)
          · intro m u W hm hcl hJ _
            unfold Marks.one
            go_simp
            exact ⟨trivial, hJ.keep 7 _ (by omega) (by omega) (by omega) (by omega), rfl⟩
          simp only [Act.put, List.setIfInBounds_toArray, List.set_cons_zero, List.set_cons_succ, Nat.zero_add, Nat.reduceAdd]
          apply Marks.Lex.know [] (fun _ _ => True) (by kernel_rfl) (fun _ _ _ _ _ => trivial)
          · intro m u W hm hcl hJ _
            have h4 : m 4 = true := hcl 4 (by decide)
            obtain ⟨v', w', hr, ho, hb⟩ := run_app2n W w2.heap.size (u 4) (some (adA.add k)) (cA - k) (128 - k) (LB.take k) (LA.drop k) _ (hJ.u4 h4 hm) (HTA.out.grew hJ.grew) HLD.out (by have := HLT.out; omega) hJ.grew.size
            exact one_app rfl (.tmp 66) (.tmp 69) 23 23 rfl _ _ rfl rfl v' w' hr ⟨trivial, hJ.put8 hm h4 v' w' hb ho, trivial⟩
          simp only [Act.put, List.setIfInBounds_toArray, List.set_cons_zero, List.set_cons_succ, Nat.zero_add, Nat.reduceAdd]
          apply Marks.Lex.know [] (fun _ _ => True) (by kernel_rfl) (fun _ _ _ _ _ => trivial)
          · intro m u W hm hcl hJ _
            have h8 : m 8 = true := hcl 8 (by decide)
            unfold Marks.one
            go_simp
            exact ⟨trivial, hJ.put9 h8, trivial⟩
          simp only [Act.put, List.setIfInBounds_toArray, List.set_cons_zero, List.set_cons_succ, Nat.zero_add, Nat.reduceAdd]
          refine Marks.Lex.done fun m u W4 hm hJ hL => ?_
          have e9 := hJ.u9 (hm 9 (by omega))
          have hown := hJ.u8 (hm 8 (by omega))
          have HG4 := Lib.hid (HGS.out.trans hJ.grew)
          have HG5 := Lib.hid hJ.grew
          clear hL hJ hm
          rw [e9]
          generalize u 8 = vC at *
          clear e9
          have hCl : (LB.take k ++ LA.drop k).length = 128 := by
            have h1 := HLT.out
            have h2 := HLD.out
            rw [List.length_append]
            omega
          obtain ⟨_, AC, cC, rfl⟩ := own_len hown (by omega)
          rw [hCl] at hown
          obtain ⟨⟨n, x, z⟩, hz⟩ : ∃ q, opened (LB.take k ++ LA.drop k) = q := ⟨_, rfl⟩
          have HF := HFINE.out n x z hz
          have HM : Hid (Rd (fun _ => True) W4 (.slice AC 128 cC) (LB.take k ++ LA.drop k)) := Lib.hid ((Rd.of_own hown hCl.symm).mono fun _ _ => trivial)
          have HZ := Lib.hid hz
          have HCL := Lib.hid hCl
          clear hown hz hCl
          rw [HCL.out]
          generalize LB.take k ++ LA.drop k = C at *
          go_wp2_with fail
          with_reducible refine (open_eq _ _ C n x z W4 HM.out HZ.out).mono ?_
          rintro e W5 ⟨v5, rfl, d5, g5⟩
          have c1 := conv22 (HM.out.grew g5)
          have c2 := conv22 (HCB.out.grew (HG5.out.trans g5))
          have c3 := conv22 (HCA.out.grew (HG5.out.trans g5))
          have HG6 := Lib.hid (HG4.out.trans g5)
          by_cases eB : C = LB
          · obtain ⟨rfl, rfl, hx⟩ := HF.eqB eB
            obtain ⟨adX, cX, rfl, _, _, _⟩ := SAlive.shape d5 108 hx (by decide)
            rw [eB] at c1
            clear d5 g5 HF eB hx
            go_wp2_with fail
            with_reducible refine (alive_any _).mono ?_
            rintro e W6 ⟨rfl, g6⟩
            have GE := Lib.hid (HG6.out.trans g6)
            clear g6
            go_wp2
            go_returns
            exact ⟨rfl, GE.out⟩
          · have hB := lists_ne eB
            by_cases eA : C = LA
            · obtain ⟨rfl, rfl⟩ : z = 0 ∧ n = o := by
                rcases HF.eqA eA eB with ⟨h, _⟩ | ⟨_, h1, h2⟩
                · exact absurd h (by omega)
                · exact ⟨h1, h2⟩
              rw [eA] at c1 hB
              clear d5 g5 HF eB eA
              go_wp2_with fail
              with_reducible refine (alive_any _).mono ?_
              rintro e W6 ⟨rfl, g6⟩
              have GE := Lib.hid (HG6.out.trans g6)
              clear g6
              go_wp2
              go_returns
              exact ⟨rfl, GE.out⟩
            · have hA := lists_ne eA
              obtain rfl := HF.ne eA eB
              clear d5 g5 HF eB eA
              go_wp2_with fail
              with_reducible refine (alive_any _).mono ?_
              rintro e W6 ⟨rfl, g6⟩
              have GE := Lib.hid (HG6.out.trans g6)
              clear g6
              go_wp2
              go_returns
              exact ⟨rfl, GE.out⟩

set_option maxHeartbeats 1500000 in
theorem zero_bad (S : Nat → Prop) (A1 : Option Addr) (c1 : Nat) (A2 : Option Addr) (c2 : Nat) (was load : List UInt8) (s : Nat) (cut : Int) (w : World) (ha : Rd S w (.slice A1 was.length c1) was) (hb : Rd S w (.slice A2 load.length c2) load) (x2 : List UInt8) (y2 : Int) (hq2 : sealing s load = (x2, y2)) (hy : ¬ y2 = 0) :
    Calls Try.prog 5 #[.int .u64 0, .int .u64 s, .slice A1 was.length c1, .slice A2 load.length c2, .int .i64 cut] w fun e w' => e = .returned (.bool true) ∧ Grew w w' := by
  have HA := Lib.hid ha
  have HB := Lib.hid hb
  have HQ1 : Hid (sealing 0 was = ([], 1)) := Lib.hid (by unfold sealing; rw [if_pos (by decide)])
  have HQ2 := Lib.hid hq2
  clear ha hb hq2
  obtain ⟨i0, hi, hz0, hz1, hz2⟩ := info_parts info5
  have hmk2 : ∀ u : World, (Instr.makeSlice 23 (.int .i64 128) (.int .i64 128)).run Try.prog u =
      .ok (.slice (some ⟨u.heap.size, 0, none⟩) 128 128) (u.alloc (.cells (madeCells #[.int .u8 0] 128) 5)) := fun u => by
    have h := run_make (P := Try.prog) u 23 5 i0 (.int .u8 0) Try.underlying23 hi hz0 .i64 .i64 128 128 (by omega) (Int.le_refl _) (by rw [hz2]; omega) (by omega)
    simpa [hz1, Value.cells] using h
  clear hi hz0 hz1 hz2
  go_enter Try.func5, Try.ntmps5
  go_wp2_with fail
  refine (seal_eq _ _ was 0 _ _ w HA.out HQ1.out).mono ?_
  rintro e w1 ⟨v1, rfl, d1, g1⟩
  have D1 := Lib.hid d1.lt
  have G1 := Lib.hid g1
  clear d1 g1
  go_wp2_with fail
  refine (seal_eq _ _ load _ _ _ w1 (HB.out.grew G1.out) HQ2.out).mono ?_
  rintro e w2 ⟨v2, rfl, d2, g2⟩
  have D1' := Lib.hid (D1.out.grew g2)
  have D2 := Lib.hid d2.lt
  have G2 := Lib.hid (G1.out.trans g2)
  clear d2 g2 D1 G1
  go_wp2_with fail
  with_reducible refine (alive_any _).mono ?_
  rintro e W6 ⟨rfl, g6⟩
  go_wp2
  go_returns
  exact ⟨rfl, (G2.out.trans (show Grew w2 (w2.alloc (.cells (madeCells #[.int .u8 0] 128) 5)) by unfold Grew; go_grown)).trans g6⟩

set_option maxHeartbeats 1500000 in
theorem zero_good (S : Nat → Prop) (A1 : Option Addr) (c1 : Nat) (A2 : Option Addr) (c2 : Nat) (was load : List UInt8) (s : Nat) (cut : Int) (w : World) (ha : Rd S w (.slice A1 was.length c1) was) (hb : Rd S w (.slice A2 load.length c2) load) (hm2 : may s = true) (hl2 : load.length ≤ 108) (hcl : -9223372036854775808 ≤ cut) (hcu : cut ≤ 9223372036854775807) :
    Calls Try.prog 5 #[.int .u64 0, .int .u64 s, .slice A1 was.length c1, .slice A2 load.length c2, .int .i64 cut] w fun e w' => e = .returned (.bool true) ∧ Grew w w' := by
  have HA := Lib.hid ha
  have HB := Lib.hid hb
  have HQ1 : Hid (sealing 0 was = ([], 1)) := Lib.hid (by unfold sealing; rw [if_pos (by decide)])
  have HQ2 : Hid (sealing s load = (sealed s load, 0)) := Lib.hid (by unfold sealing; rw [if_neg (by simp [hm2]), if_neg (by omega)])
  have hs1 := ((may_iff s).1 hm2).1
  have HFALL : Hid (∀ k, k ≤ 128 → ∀ n x z, opened ((sealed s load).take k ++ (zeros 128).drop k) = (n, x, z) → Fine 0 s (zeros 128) (sealed s load) ((sealed s load).take k ++ (zeros 128).drop k) n x z) := Lib.hid fun k hk n x z hz =>
    fine 0 s _ _ k n x z stamped_zeros (stamped_sealed s load hl2) (by decide) (may_small hm2) (by omega) hk ⟨_, opened_sealed s load hl2 hm2, by simp [zeros_length]; omega⟩ (.inl ⟨rfl, opened_zero⟩) hz
  have HAL := Lib.hid (zeros_length 128)
  have HBL := Lib.hid (sealed_length s load hl2)
  obtain ⟨LA, hLA⟩ : ∃ LA, LA = zeros 128 := ⟨_, rfl⟩
  have HLA := Lib.hid hLA
  rw [← hLA] at HFALL HAL
  clear ha hb hm2 hLA
  generalize sealed s load = LB at *
  have e1 : ((0 : Int) == (s : Int)) = false := by
    have : ¬ (0 : Int) = (s : Int) := by omega
    simpa using this
  obtain ⟨i0, hi, hz0, hz1, hz2⟩ := info_parts info5
  have hmk2 : ∀ u : World, (Instr.makeSlice 23 (.int .i64 128) (.int .i64 128)).run Try.prog u =
      .ok (.slice (some ⟨u.heap.size, 0, none⟩) 128 128) (u.alloc (.cells (madeCells #[.int .u8 0] 128) 5)) := fun u => by
    have h := run_make (P := Try.prog) u 23 5 i0 (.int .u8 0) Try.underlying23 hi hz0 .i64 .i64 128 128 (by omega) (Int.le_refl _) (by rw [hz2]; omega) (by omega)
    simpa [hz1, Value.cells] using h
  clear hi hz0 hz1 hz2
  by_cases e2 : cut < 0
  · go_enter Try.func5, Try.ntmps5
    go_wp2_with fail
    refine (seal_eq _ _ was 0 _ _ w HA.out HQ1.out).mono ?_
    rintro e w1 ⟨v1, rfl, d1, g1⟩
    have D1 := Lib.hid d1.lt
    have G1 := Lib.hid g1
    clear d1 g1
    go_wp2_with fail
    refine (seal_eq _ _ load _ _ _ w1 (HB.out.grew G1.out) HQ2.out).mono ?_
    rintro e w2 ⟨v2, rfl, d2, g2⟩
    have D1' := Lib.hid (D1.out.grew g2)
    have D2 := Lib.hid d2.lt
    have G2 := Lib.hid (G1.out.trans g2)
    clear d2 g2 D1 G1
    go_wp2_with fail
    with_reducible refine (alive_any _).mono ?_
    rintro e W6 ⟨rfl, g6⟩
    go_wp2
    go_returns
    exact ⟨rfl, (G2.out.trans (show Grew w2 (w2.alloc (.cells (madeCells #[.int .u8 0] 128) 5)) by unfold Grew; go_grown)).trans g6⟩
  · by_cases e3 : 128 < cut
    · go_enter Try.func5, Try.ntmps5
      go_wp2_with fail
      refine (seal_eq _ _ was 0 _ _ w HA.out HQ1.out).mono ?_
      rintro e w1 ⟨v1, rfl, d1, g1⟩
      have D1 := Lib.hid d1.lt
      have G1 := Lib.hid g1
      clear d1 g1
      go_wp2_with fail
      refine (seal_eq _ _ load _ _ _ w1 (HB.out.grew G1.out) HQ2.out).mono ?_
      rintro e w2 ⟨v2, rfl, d2, g2⟩
      have D1' := Lib.hid (D1.out.grew g2)
      have D2 := Lib.hid d2.lt
      have G2 := Lib.hid (G1.out.trans g2)
      clear d2 g2 D1 G1
      go_wp2_with fail
      with_reducible refine (alive_any _).mono ?_
      rintro e W6 ⟨rfl, g6⟩
      go_wp2
      go_returns
      exact ⟨rfl, (G2.out.trans (show Grew w2 (w2.alloc (.cells (madeCells #[.int .u8 0] 128) 5)) by unfold Grew; go_grown)).trans g6⟩
    · obtain ⟨k, rfl⟩ := Int.eq_ofNat_of_zero_le (show 0 ≤ cut by omega)
      have hk : k ≤ 128 := by omega
      have HFINE := Lib.hid (HFALL.out k hk)
      have HLT : Hid ((LB.take k).length = k) := Lib.hid (by rw [List.length_take, HBL.out]; omega)
      have HLD : Hid ((LA.drop k).length = 128 - k) := Lib.hid (by rw [List.length_drop, HAL.out])
      clear HFALL
      by_cases hk128 : 128 = k
      · subst hk128
        replace HLD : Hid ((LA.drop 128).length = 0) := HLD
        go_enter Try.func5, Try.ntmps5
        go_wp2_with fail
        refine (seal_eq _ _ was 0 _ _ w HA.out HQ1.out).mono ?_
        rintro e w1 ⟨v1, rfl, d1, g1⟩
        have D1 := Lib.hid d1.lt
        have G1 := Lib.hid g1
        clear d1 g1
        go_wp2_with fail
        refine (seal_eq _ _ load _ _ _ w1 (HB.out.grew G1.out) HQ2.out).mono ?_
        rintro e w2 ⟨v2, rfl, d2, g2⟩
        obtain ⟨adB, cB, rfl, hB1, hB2, _⟩ := SAlive.shape d2 128 HBL.out (by decide)
        have D1' := Lib.hid (D1.out.grew g2)
        have D2 := Lib.hid d2.lt
        have G2 := Lib.hid (G1.out.trans g2)
        clear d2 g2 D1 G1
        have hcb : (128 : Int) ≤ (cB : Int) := by omega
        have HCA : Hid (Rd (fun _ => True) (w2.alloc (.cells (madeCells #[.int .u8 0] 128) 5)) (.slice (some ⟨w2.heap.size, 0, none⟩) 128 128) LA) := Lib.hid (by
          have h := made_rd w2 128 (by decide)
          rw [← HLA.out] at h
          exact h)
        have gz : Grew w2 (w2.alloc (.cells (madeCells #[.int .u8 0] 128) 5)) := by unfold Grew; go_grown
        have HCB := Lib.hid (D2.out.grew gz)
        have HGS := Lib.hid (G2.out.trans gz)
        clear gz D1' D2 G2
        go_wp2
        clear hmk2
        generalize w2.alloc (.cells (madeCells #[.int .u8 0] 128) 5) = WS at *
        generalize (⟨w2.heap.size, 0, none⟩ : Addr) = adA at *
        have HTA : Hid (Rd _ WS (.slice (some adA) 0 0) (LA.drop 128)) := Lib.hid (by
          have h := (cut_rd (n := 128) (l := LA) (A := some adA) (c := 128) (by rw [HAL.out]; exact HCA.out) (by rw [HAL.out]; exact hk)).2
          rw [if_pos rfl, HAL.out] at h
          exact h)
        have HTB := Lib.hid (pre_rd (n := 128) (l := LB) (A := some adB) (c := cB) (by rw [HBL.out]; exact HCB.out) (by rw [HBL.out]; exact hk))
        refine Marks.wp_region_text (JT WS (LB.take 128) (LB.take 128 ++ LA.drop 128)) (fun _ _ => True) (by kernel_rfl) (by kernel_rfl) (JT.start WS) ?_
        apply Marks.Lex.know [] (fun _ _ => True) (by kernel_rfl) (fun _ _ _ _ _ => trivial)
        · intro m u W hm hcl hJ _
          unfold Marks.one
          go_simp
          refine ⟨trivial, hJ.put0 hm _ _ ((Below.refl _ W).alloc hJ.grew.size _) ?_, trivial⟩
          exact ⟨rfl, .inr ⟨W.heap.size, 0, #[], rfl, hJ.grew.size, heap_alloc_new W _, Nat.le_refl _, Nat.zero_le _, rfl, rfl⟩⟩
        simp only [Act.put, List.setIfInBounds_toArray, List.set_cons_zero, List.set_cons_succ, Nat.zero_add, Nat.reduceAdd]
        apply Marks.Lex.exact [] _ (by kernel_rfl)
        · intro m u W hm hcl hJ _
          unfold Marks.one
          go_simp
          exact ⟨trivial, hJ.keep 1 _ (by omega) (by omega) (by omega) (by omega), rfl⟩
        simp only [Act.put, List.setIfInBounds_toArray, List.set_cons_zero, List.set_cons_succ, Nat.zero_add, Nat.reduceAdd]
        apply Marks.Lex.exact [] _ (by kernel_rfl)
        · intro m u W hm hcl hJ _
          unfold Marks.one
          go_simp
          exact ⟨trivial, hJ.keep 2 _ (by omega) (by omega) (by omega) (by omega), rfl⟩
        simp only [Act.put, List.setIfInBounds_toArray, List.set_cons_zero, List.set_cons_succ, Nat.zero_add, Nat.reduceAdd]
        apply Marks.Lex.exact [] (.slice (some adB) 128 cB) (by kernel_rfl)
        · intro m u W hm hcl hJ _
          unfold Marks.one
          go_simp
          exact ⟨trivial, hJ.keep 3 _ (by omega) (by omega) (by omega) (by omega), rfl⟩
        simp only [Act.put, List.setIfInBounds_toArray, List.set_cons_zero, List.set_cons_succ, Nat.zero_add, Nat.reduceAdd]
        apply Marks.Lex.know [] (fun _ _ => True) (by kernel_rfl) (fun _ _ _ _ _ => trivial)
        · intro m u W hm hcl hJ _
          have h0 : m 0 = true := hcl 0 (by decide)
          obtain ⟨v', w', hr, ho, hb⟩ := run_app2n W WS.heap.size (u 0) (some adB) cB 128 [] (LB.take 128) _ (hJ.u0 h0 hm) (HTB.out.grew hJ.grew) HLT.out (by simp <;> omega) hJ.grew.size
          exact one_app rfl (.tmp 62) (.tmp 65) 23 23 rfl _ _ rfl rfl v' w' hr ⟨trivial, hJ.put4 hm h0 v' w' hb (by rw [List.nil_append] at ho; exact ho), trivial⟩
        simp only [Act.put, List.setIfInBounds_toArray, List.set_cons_zero, List.set_cons_succ, Nat.zero_add, Nat.reduceAdd]
        apply Marks.Lex.exact [] _ (by kernel_rfl)
        · intro m u W hm hcl hJ _
          unfold Marks.one
          go_simp
          exact ⟨trivial, hJ.keep 5 _ (by omega) (by omega) (by omega) (by omega), rfl⟩
        simp only [Act.put, List.setIfInBounds_toArray, List.set_cons_zero, List.set_cons_succ, Nat.zero_add, Nat.reduceAdd]
        apply Marks.Lex.exact [] _ (by kernel_rfl)
        · intro m u W hm hcl hJ _
          unfold Marks.one
          go_simp
          exact ⟨trivial, hJ.keep 6 _ (by omega) (by omega) (by omega) (by omega), rfl⟩
        simp only [Act.put, List.setIfInBounds_toArray, List.set_cons_zero, List.set_cons_succ, Nat.zero_add, Nat.reduceAdd]
        apply Marks.Lex.exact [] (.slice (some adA) 0 0) (by kernel_rfl)
        · intro m u W hm hcl hJ _
          unfold Marks.one
          go_simp
          exact ⟨trivial, hJ.keep 7 _ (by omega) (by omega) (by omega) (by omega), rfl⟩
        simp only [Act.put, List.setIfInBounds_toArray, List.set_cons_zero, List.set_cons_succ, Nat.zero_add, Nat.reduceAdd]
        apply Marks.Lex.know [] (fun _ _ => True) (by kernel_rfl) (fun _ _ _ _ _ => trivial)
        · intro m u W hm hcl hJ _
          have h4 : m 4 = true := hcl 4 (by decide)
          obtain ⟨v', w', hr, ho, hb⟩ := run_app2n W WS.heap.size (u 4) (some adA) 0 0 (LB.take 128) (LA.drop 128) _ (hJ.u4 h4 hm) (HTA.out.grew hJ.grew) HLD.out (by have := HLT.out; omega) hJ.grew.size
          exact one_app rfl (.tmp 66) (.tmp 69) 23 23 rfl _ _ rfl rfl v' w' hr ⟨trivial, hJ.put8 hm h4 v' w' hb ho, trivial⟩
        simp only [Act.put, List.setIfInBounds_toArray, List.set_cons_zero, List.set_cons_succ, Nat.zero_add, Nat.reduceAdd]
        apply Marks.Lex.know [] (fun _ _ => True) (by kernel_rfl) (fun _ _ _ _ _ => trivial)
        · intro m u W hm hcl hJ _
          have h8 : m 8 = true := hcl 8 (by decide)
          unfold Marks.one
          go_simp
          exact ⟨trivial, hJ.put9 h8, trivial⟩
        simp only [Act.put, List.setIfInBounds_toArray, List.set_cons_zero, List.set_cons_succ, Nat.zero_add, Nat.reduceAdd]
        refine Marks.Lex.done fun m u W4 hm hJ hL => ?_
        have e9 := hJ.u9 (hm 9 (by omega))
        have hown := hJ.u8 (hm 8 (by omega))
        have HG4 := Lib.hid (HGS.out.trans hJ.grew)
        have HG5 := Lib.hid hJ.grew
        clear hL hJ hm
        rw [e9]
        generalize u 8 = vC at *
        clear e9
        have hCl : (LB.take 128 ++ LA.drop 128).length = 128 := by
          have h1 := HLT.out
          have h2 := HLD.out
          rw [List.length_append]
          omega
        obtain ⟨_, AC, cC, rfl⟩ := own_len hown (by omega)
        rw [hCl] at hown
        obtain ⟨⟨n, x, z⟩, hz⟩ : ∃ q, opened (LB.take 128 ++ LA.drop 128) = q := ⟨_, rfl⟩
        have HF := HFINE.out n x z hz
        have HM : Hid (Rd (fun _ => True) W4 (.slice AC 128 cC) (LB.take 128 ++ LA.drop 128)) := Lib.hid ((Rd.of_own hown hCl.symm).mono fun _ _ => trivial)
        have HZ := Lib.hid hz
        have HCL := Lib.hid hCl
        clear hown hz hCl
        rw [HCL.out]
        generalize LB.take 128 ++ LA.drop 128 = C at *
        go_wp2_with fail
        with_reducible refine (open_eq _ _ C n x z W4 HM.out HZ.out).mono ?_
        rintro e W5 ⟨v5, rfl, d5, g5⟩
        have c1 := conv22 (HM.out.grew g5)
        have c2 := conv22 (HCB.out.grew (HG5.out.trans g5))
        have c3 := conv22 (HCA.out.grew (HG5.out.trans g5))
        have HG6 := Lib.hid (HG4.out.trans g5)
        by_cases eB : C = LB
        · obtain ⟨rfl, rfl, hx⟩ := HF.eqB eB
          obtain ⟨adX, cX, rfl, _, _, _⟩ := SAlive.shape d5 108 hx (by decide)
          rw [eB] at c1
          clear d5 g5 HF eB hx
          go_wp2_with fail
          with_reducible refine (alive_any _).mono ?_
          rintro e W6 ⟨rfl, g6⟩
          have GE := Lib.hid (HG6.out.trans g6)
          clear g6
          go_wp2
          go_returns
          exact ⟨rfl, GE.out⟩
        · have hB := lists_ne eB
          by_cases eA : C = LA
          · obtain rfl : z = 2 := by
              rcases HF.eqA eA eB with ⟨_, h⟩ | ⟨h, _⟩
              · exact h
              · exact absurd h (by omega)
            rw [eA] at c1 hB
            clear d5 g5 HF eB eA
            go_wp2_with fail
            with_reducible refine (alive_any _).mono ?_
            rintro e W6 ⟨rfl, g6⟩
            have GE := Lib.hid (HG6.out.trans g6)
            clear g6
            go_wp2
            go_returns
            exact ⟨rfl, GE.out⟩
          · have hA := lists_ne eA
            obtain rfl := HF.ne eA eB
            clear d5 g5 HF eB eA
            go_wp2_with fail
            with_reducible refine (alive_any _).mono ?_
            rintro e W6 ⟨rfl, g6⟩
            have GE := Lib.hid (HG6.out.trans g6)
            clear g6
            go_wp2
            go_returns
            exact ⟨rfl, GE.out⟩
      · go_enter Try.func5, Try.ntmps5
        go_wp2_with fail
        refine (seal_eq _ _ was 0 _ _ w HA.out HQ1.out).mono ?_
        rintro e w1 ⟨v1, rfl, d1, g1⟩
        have D1 := Lib.hid d1.lt
        have G1 := Lib.hid g1
        clear d1 g1
        go_wp2_with fail
        refine (seal_eq _ _ load _ _ _ w1 (HB.out.grew G1.out) HQ2.out).mono ?_
        rintro e w2 ⟨v2, rfl, d2, g2⟩
        obtain ⟨adB, cB, rfl, hB1, hB2, _⟩ := SAlive.shape d2 128 HBL.out (by decide)
        have D1' := Lib.hid (D1.out.grew g2)
        have D2 := Lib.hid d2.lt
        have G2 := Lib.hid (G1.out.trans g2)
        clear d2 g2 D1 G1
        have hkB : k ≤ cB := by omega
        have HCA : Hid (Rd (fun _ => True) (w2.alloc (.cells (madeCells #[.int .u8 0] 128) 5)) (.slice (some ⟨w2.heap.size, 0, none⟩) 128 128) LA) := Lib.hid (by
          have h := made_rd w2 128 (by decide)
          rw [← HLA.out] at h
          exact h)
        have gz : Grew w2 (w2.alloc (.cells (madeCells #[.int .u8 0] 128) 5)) := by unfold Grew; go_grown
        have HCB := Lib.hid (D2.out.grew gz)
        have HGS := Lib.hid (G2.out.trans gz)
        clear gz D1' D2 G2
        go_wp2
        clear hmk2
        generalize w2.alloc (.cells (madeCells #[.int .u8 0] 128) 5) = WS at *
        generalize (⟨w2.heap.size, 0, none⟩ : Addr) = adA at *
        have HTA : Hid (Rd _ WS (.slice (some (adA.add k)) (128 - k) (128 - k)) (LA.drop k)) := Lib.hid (by
          have h := (cut_rd (n := k) (l := LA) (A := some adA) (c := 128) (by rw [HAL.out]; exact HCA.out) (by rw [HAL.out]; exact hk)).2
          rw [if_neg hk128, HAL.out] at h
          exact h)
        have HTB := Lib.hid (pre_rd (n := k) (l := LB) (A := some adB) (c := cB) (by rw [HBL.out]; exact HCB.out) (by rw [HBL.out]; exact hk))
        refine Marks.wp_region_text (JT WS (LB.take k) (LB.take k ++ LA.drop k)) (fun _ _ => True) (by kernel_rfl) (by kernel_rfl) (JT.start WS) ?_
        apply Marks.Lex.know [] (fun _ _ => True) (by kernel_rfl) (fun _ _ _ _ _ => trivial)
        · intro m u W hm hcl hJ _
          unfold Marks.one
          go_simp
          refine ⟨trivial, hJ.put0 hm _ _ ((Below.refl _ W).alloc hJ.grew.size _) ?_, trivial⟩
          exact ⟨rfl, .inr ⟨W.heap.size, 0, #[], rfl, hJ.grew.size, heap_alloc_new W _, Nat.le_refl _, Nat.zero_le _, rfl, rfl⟩⟩
        simp only [Act.put, List.setIfInBounds_toArray, List.set_cons_zero, List.set_cons_succ, Nat.zero_add, Nat.reduceAdd]
        apply Marks.Lex.exact [] _ (by kernel_rfl)
        · intro m u W hm hcl hJ _
          unfold Marks.one
          go_simp
          exact ⟨trivial, hJ.keep 1 _ (by omega) (by omega) (by omega) (by omega), rfl⟩
        simp only [Act.put, List.setIfInBounds_toArray, List.set_cons_zero, List.set_cons_succ, Nat.zero_add, Nat.reduceAdd]
        apply Marks.Lex.exact [] _ (by kernel_rfl)
        · intro m u W hm hcl hJ _
          unfold Marks.one
          go_simp
          exact ⟨trivial, hJ.keep 2 _ (by omega) (by omega) (by omega) (by omega), rfl⟩
        simp only [Act.put, List.setIfInBounds_toArray, List.set_cons_zero, List.set_cons_succ, Nat.zero_add, Nat.reduceAdd]
        apply Marks.Lex.exact [] (.slice (some adB) k cB) (by kernel_rfl)
        · intro m u W hm hcl hJ _
          unfold Marks.one
          go_simp
          exact ⟨trivial, hJ.keep 3 _ (by omega) (by omega) (by omega) (by omega), rfl⟩
        simp only [Act.put, List.setIfInBounds_toArray, List.set_cons_zero, List.set_cons_succ, Nat.zero_add, Nat.reduceAdd]
        apply Marks.Lex.know [] (fun _ _ => True) (by kernel_rfl) (fun _ _ _ _ _ => trivial)
        · intro m u W hm hcl hJ _
          have h0 : m 0 = true := hcl 0 (by decide)
          obtain ⟨v', w', hr, ho, hb⟩ := run_app2n W WS.heap.size (u 0) (some adB) cB k [] (LB.take k) _ (hJ.u0 h0 hm) (HTB.out.grew hJ.grew) HLT.out (by simp <;> omega) hJ.grew.size
          exact one_app rfl (.tmp 62) (.tmp 65) 23 23 rfl _ _ rfl rfl v' w' hr ⟨trivial, hJ.put4 hm h0 v' w' hb (by rw [List.nil_append] at ho; exact ho), trivial⟩
        simp only [Act.put, List.setIfInBounds_toArray, List.set_cons_zero, List.set_cons_succ, Nat.zero_add, Nat.reduceAdd]
        apply Marks.Lex.exact [] _ (by kernel_rfl)
        · intro m u W hm hcl hJ _
          unfold Marks.one
          go_simp
          exact ⟨trivial, hJ.keep 5 _ (by omega) (by omega) (by omega) (by omega), rfl⟩
        simp only [Act.put, List.setIfInBounds_toArray, List.set_cons_zero, List.set_cons_succ, Nat.zero_add, Nat.reduceAdd]
        apply Marks.Lex.exact [] _ (by kernel_rfl)
        · intro m u W hm hcl hJ _
          unfold Marks.one
          go_simp
          exact ⟨trivial, hJ.keep 6 _ (by omega) (by omega) (by omega) (by omega), rfl⟩
        simp only [Act.put, List.setIfInBounds_toArray, List.set_cons_zero, List.set_cons_succ, Nat.zero_add, Nat.reduceAdd]
        apply Marks.Lex.exact [] (.slice (some (adA.add k)) (128 - k) (128 - k)) (by kernel_rfl)
        · intro m u W hm hcl hJ _
          unfold Marks.one
          go_simp
          exact ⟨trivial, hJ.keep 7 _ (by omega) (by omega) (by omega) (by omega), rfl⟩
        simp only [Act.put, List.setIfInBounds_toArray, List.set_cons_zero, List.set_cons_succ, Nat.zero_add, Nat.reduceAdd]
        apply Marks.Lex.know [] (fun _ _ => True) (by kernel_rfl) (fun _ _ _ _ _ => trivial)
        · intro m u W hm hcl hJ _
          have h4 : m 4 = true := hcl 4 (by decide)
          obtain ⟨v', w', hr, ho, hb⟩ := run_app2n W WS.heap.size (u 4) (some (adA.add k)) (128 - k) (128 - k) (LB.take k) (LA.drop k) _ (hJ.u4 h4 hm) (HTA.out.grew hJ.grew) HLD.out (by have := HLT.out; omega) hJ.grew.size
          exact one_app rfl (.tmp 66) (.tmp 69) 23 23 rfl _ _ rfl rfl v' w' hr ⟨trivial, hJ.put8 hm h4 v' w' hb ho, trivial⟩
        simp only [Act.put, List.setIfInBounds_toArray, List.set_cons_zero, List.set_cons_succ, Nat.zero_add, Nat.reduceAdd]
        apply Marks.Lex.know [] (fun _ _ => True) (by kernel_rfl) (fun _ _ _ _ _ => trivial)
        · intro m u W hm hcl hJ _
          have h8 : m 8 = true := hcl 8 (by decide)
          unfold Marks.one
          go_simp
          exact ⟨trivial, hJ.put9 h8, trivial⟩
        simp only [Act.put, List.setIfInBounds_toArray, List.set_cons_zero, List.set_cons_succ, Nat.zero_add, Nat.reduceAdd]
        refine Marks.Lex.done fun m u W4 hm hJ hL => ?_
        have e9 := hJ.u9 (hm 9 (by omega))
        have hown := hJ.u8 (hm 8 (by omega))
        have HG4 := Lib.hid (HGS.out.trans hJ.grew)
        have HG5 := Lib.hid hJ.grew
        clear hL hJ hm
        rw [e9]
        generalize u 8 = vC at *
        clear e9
        have hCl : (LB.take k ++ LA.drop k).length = 128 := by
          have h1 := HLT.out
          have h2 := HLD.out
          rw [List.length_append]
          omega
        obtain ⟨_, AC, cC, rfl⟩ := own_len hown (by omega)
        rw [hCl] at hown
        obtain ⟨⟨n, x, z⟩, hz⟩ : ∃ q, opened (LB.take k ++ LA.drop k) = q := ⟨_, rfl⟩
        have HF := HFINE.out n x z hz
        have HM : Hid (Rd (fun _ => True) W4 (.slice AC 128 cC) (LB.take k ++ LA.drop k)) := Lib.hid ((Rd.of_own hown hCl.symm).mono fun _ _ => trivial)
        have HZ := Lib.hid hz
        have HCL := Lib.hid hCl
        clear hown hz hCl
        rw [HCL.out]
        generalize LB.take k ++ LA.drop k = C at *
        go_wp2_with fail
        with_reducible refine (open_eq _ _ C n x z W4 HM.out HZ.out).mono ?_
        rintro e W5 ⟨v5, rfl, d5, g5⟩
        have c1 := conv22 (HM.out.grew g5)
        have c2 := conv22 (HCB.out.grew (HG5.out.trans g5))
        have c3 := conv22 (HCA.out.grew (HG5.out.trans g5))
        have HG6 := Lib.hid (HG4.out.trans g5)
        by_cases eB : C = LB
        · obtain ⟨rfl, rfl, hx⟩ := HF.eqB eB
          obtain ⟨adX, cX, rfl, _, _, _⟩ := SAlive.shape d5 108 hx (by decide)
          rw [eB] at c1
          clear d5 g5 HF eB hx
          go_wp2_with fail
          with_reducible refine (alive_any _).mono ?_
          rintro e W6 ⟨rfl, g6⟩
          have GE := Lib.hid (HG6.out.trans g6)
          clear g6
          go_wp2
          go_returns
          exact ⟨rfl, GE.out⟩
        · have hB := lists_ne eB
          by_cases eA : C = LA
          · obtain rfl : z = 2 := by
              rcases HF.eqA eA eB with ⟨_, h⟩ | ⟨h, _⟩
              · exact h
              · exact absurd h (by omega)
            rw [eA] at c1 hB
            clear d5 g5 HF eB eA
            go_wp2_with fail
            with_reducible refine (alive_any _).mono ?_
            rintro e W6 ⟨rfl, g6⟩
            have GE := Lib.hid (HG6.out.trans g6)
            clear g6
            go_wp2
            go_returns
            exact ⟨rfl, GE.out⟩
          · have hA := lists_ne eA
            obtain rfl := HF.ne eA eB
            clear d5 g5 HF eB eA
            go_wp2_with fail
            with_reducible refine (alive_any _).mono ?_
            rintro e W6 ⟨rfl, g6⟩
            have GE := Lib.hid (HG6.out.trans g6)
            clear g6
            go_wp2
            go_returns
            exact ⟨rfl, GE.out⟩

theorem sealing_cases' (s : Nat) (load : List UInt8) : (may s = true ∧ load.length ≤ 108 ∧ sealing s load = (sealed s load, 0)) ∨ ∃ y : Int, ¬ y = 0 ∧ sealing s load = ([], y) := by
  rcases sealing_cases s load with h | ⟨y, h1, h2⟩
  · exact .inl h
  · exact .inr ⟨y, by simpa using h1, h2⟩
theorem law_any (S : Nat → Prop) (v1 v2 : Value) (was load : List UInt8) (o s : Nat) (cut : Int) (w : World) (ha : Rd S w v1 was) (hb : Rd S w v2 load) (hcl : -9223372036854775808 ≤ cut) (hcu : cut ≤ 9223372036854775807) :
    Calls Try.prog 5 #[.int .u64 (o : Int), .int .u64 (s : Int), v1, v2, .int .i64 cut] w fun e w' => e = .returned (.bool true) ∧ Grew w w' := by
  obtain ⟨A1, c1, rfl, _⟩ := id ha
  obtain ⟨A2, c2, rfl, _⟩ := id hb
  by_cases h0 : o = 0
  · subst h0
    rcases sealing_cases' s load with ⟨hm, hl, _⟩ | ⟨y, hy, hq⟩
    · exact zero_good S A1 c1 A2 c2 was load s cut w ha hb hm hl hcl hcu
    · exact zero_bad S A1 c1 A2 c2 was load s cut w ha hb _ y hq hy
  · rcases sealing_cases' o was with ⟨hm, hl, hq1⟩ | ⟨y, hy, hq⟩
    · rcases sealing_cases' s load with ⟨hm2, hl2, _⟩ | ⟨y2, hy2, hq2⟩
      · exact law_good S A1 c1 A2 c2 was load o s cut w ha hb (by omega) hm hl hm2 hl2 hcl hcu
      · exact law_bad S A1 c1 A2 c2 was load o s cut w ha hb _ 0 _ y2 (by omega) hq1 hq2 (.inr ⟨rfl, hy2⟩)
    · exact law_bad S A1 c1 A2 c2 was load o s cut w ha hb _ y _ _ (by omega) hq rfl (.inl hy)
end Go.Proofs.Ytiajjkjdmcoodab.STorn
