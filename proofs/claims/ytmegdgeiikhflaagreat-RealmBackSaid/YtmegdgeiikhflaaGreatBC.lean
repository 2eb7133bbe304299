/-
  Accounts put behind bytes.
  Conditions: those that each lemma names.
-/
import Derived.Test.YtmegdgeiikhflaaGreatBB
namespace Go.Proofs.YtmegdgeiikhflaaGreat.BC
set_option maxRecDepth 100000
open Go Go.RowKit Go.Lib Go.Proofs.YtmegdgeiikhflaaGreat Go.Proofs.YtmegdgeiikhflaaGreat.Facts Go.Proofs.YtmegdgeiikhflaaGreat.Bytes Go.Proofs.YtmegdgeiikhflaaGreat.Plain Go.Proofs.YtmegdgeiikhflaaGreat.Ints Go.Proofs.YtmegdgeiikhflaaGreat.LBox Go.Proofs.YtmegdgeiikhflaaGreat.RRows Go.Proofs.YtmegdgeiikhflaaGreat.Puts Go.Proofs.YtmegdgeiikhflaaGreat.BA Go.Proofs.YtmegdgeiikhflaaGreat.BB


theorem four_c {W : World} {B t : Nat} {a b c d : Value} (h : W.heap[B]? = some (.cells #[a, b, c, d] t (0, 0))) : W.cell? ⟨B, 0, none⟩ = some a ∧ W.cell? ⟨B, 1, none⟩ = some b ∧ W.cell? ⟨B, 2, none⟩ = some c ∧ W.cell? ⟨B, 3, none⟩ = some d := by
  refine ⟨?_, ?_, ?_, ?_⟩
  all_goals rw [cell_of_row _ _ _ _ _ _ h]; rfl
def encA (x : Ac) : List UInt8 := tx x.name.data.toList ++ (tx x.secret.data.toList ++ (pb x.lev ++ pb (if x.mints = true then 1 else 0)))
def aval (x : Ac) : Value := .agg #[.string x.name, .string x.secret, .int .i64 x.lev, .bool x.mints]
set_option maxHeartbeats 1000000 in
/-- An account. -/
theorem one_account : One (T := Ac) 89 aval encA (fun x => x.name.size ≤ maxLen ∧ x.secret.size ≤ maxLen) := by
  intro W0 base v l x hok hb ho hl
  obtain ⟨n, s, lev, mi⟩ := x
  unfold aval encA
  simp only at hok ⊢
  have HN := Lib.hid hok.1
  have HS := Lib.hid hok.2
  have HV := Lib.hid ho.rd
  have HL := Lib.hid hl
  have HB := Lib.hid hb
  have g0 : Grew W0 (W0.alloc (.cells #[.string n, .string s, .int .i64 lev, .bool mi] 88)) := by unfold Grew; go_grown
  have G0 := Lib.hid g0
  have B0 := Lib.hid (heap_alloc_new W0 (.cells #[.string n, .string s, .int .i64 lev, .bool mi] 88))
  clear hok ho hl hb g0
  cases mi with
  | false =>
    have HE : Hid (l ++ (tx n.data.toList ++ (tx s.data.toList ++ (pb lev ++ pb (if false = true then 1 else 0)))) = l ++ tx n.data.toList ++ tx s.data.toList ++ putP [lev, 0]) := Lib.hid (by simp [putP])
    rw [HE.out]
    clear HE
    obtain ⟨X1, h1⟩ : ∃ X1, l ++ tx n.data.toList = X1 := ⟨_, rfl⟩
    rw [h1]
    obtain ⟨X2, h2⟩ : ∃ X2, X1 ++ tx s.data.toList = X2 := ⟨_, rfl⟩
    rw [h2]
    obtain ⟨X3, h3⟩ : ∃ X3, X2 ++ putP [lev, 0] = X3 := ⟨_, rfl⟩
    rw [h3]
    have H1 := Lib.hid h1
    have H2 := Lib.hid h2
    have H3 := Lib.hid h3
    clear h1 h2 h3
    obtain ⟨c0, c1, c2, c3⟩ := four_c B0.out
    go_enter Tryz.func89, Tryz.ntmps89
    go_wp2
    clear c0 c1 c2 c3
    refine Facts.wp_region_text (by kernel_rfl) (by kernel_rfl) ?_
    apply Facts.Lex.exact [] _ (by kernel_rfl)
    · intro u W hC hK
      clear hK
      unfold Facts.one
      go_simp
      first | exact ⟨Grew.refl _, rfl⟩ | rfl
    simp only [Act.put, List.setIfInBounds_toArray, List.set_cons_zero, List.set_cons_succ, Nat.zero_add]
    apply Facts.Lex.exact [] _ (by kernel_rfl)
    · intro u W hC hK
      clear hK
      unfold Facts.one
      go_simp
      first | exact ⟨Grew.refl _, rfl⟩ | rfl
    simp only [Act.put, List.setIfInBounds_toArray, List.set_cons_zero, List.set_cons_succ, Nat.reduceAdd]
    apply Facts.Lex.exact [] (.string n) (by kernel_rfl)
    · intro u W hC hK
      clear hK
      obtain ⟨c0, c1, c2, c3⟩ := four_c (keepB B0.out hC)
      unfold Facts.one
      go_simp
      first | exact ⟨Grew.refl _, rfl⟩ | rfl
    simp only [Act.put, List.setIfInBounds_toArray, List.set_cons_zero, List.set_cons_succ, Nat.reduceAdd]
    refine Facts.Lex.know [] (fun v w => Rd (fun _ => True) w v X1) (by kernel_rfl) (fun _ _ _ h hg => h.grew hg) ?_ ?_
    · intro u W hC hK
      have HC9 := Lib.hid (text_any (fun _ => True) v l n W ((HV.out.grew G0.out).grew hC) (by have := HL.out; omega) HN.out)
      clear hK
      unfold Facts.one
      go_simp
      refine HC9.out.mono ?_
      rintro e w' ⟨v', rfl, hi, hg⟩
      exact ⟨_, rfl, hg, by rw [← H1.out]; exact (OwnB.of hi (by rw [List.length_append])).rd⟩
    simp only [Act.put, List.setIfInBounds_toArray, List.set_cons_zero, List.set_cons_succ, Nat.reduceAdd]
    apply Facts.Lex.exact [] _ (by kernel_rfl)
    · intro u W hC hK
      clear hK
      unfold Facts.one
      go_simp
      first | exact ⟨Grew.refl _, rfl⟩ | rfl
    simp only [Act.put, List.setIfInBounds_toArray, List.set_cons_zero, List.set_cons_succ, Nat.reduceAdd]
    apply Facts.Lex.exact [] (.string s) (by kernel_rfl)
    · intro u W hC hK
      clear hK
      obtain ⟨c0, c1, c2, c3⟩ := four_c (keepB B0.out hC)
      unfold Facts.one
      go_simp
      first | exact ⟨Grew.refl _, rfl⟩ | rfl
    simp only [Act.put, List.setIfInBounds_toArray, List.set_cons_zero, List.set_cons_succ, Nat.reduceAdd]
    refine Facts.Lex.know [3] (fun v w => Rd (fun _ => True) w v X2) (by kernel_rfl) (fun _ _ _ h hg => h.grew hg) ?_ ?_
    · intro u W hC hK
      have hR : Rd (fun _ => True) W (u 3) X1 := hK.1
      have HC9 := Lib.hid (text_any (fun _ => True) (u 3) X1 s W hR (by rw [← H1.out, List.length_append, tx_length]; have := HL.out; omega) HS.out)
      clear hK hR
      unfold Facts.one
      go_simp
      refine HC9.out.mono ?_
      rintro e w' ⟨v', rfl, hi, hg⟩
      exact ⟨_, rfl, hg, by rw [← H2.out]; exact (OwnB.of hi (by simp only [List.length_append])).rd⟩
    simp only [Act.put, List.setIfInBounds_toArray, List.set_cons_zero, List.set_cons_succ, Nat.reduceAdd]
    apply Facts.Lex.exact [] _ (by kernel_rfl)
    · intro u W hC hK
      clear hK
      unfold Facts.one
      go_simp
      first | exact ⟨Grew.refl _, rfl⟩ | rfl
    simp only [Act.put, List.setIfInBounds_toArray, List.set_cons_zero, List.set_cons_succ, Nat.reduceAdd]
    apply Facts.Lex.exact [] (.int .i64 lev) (by kernel_rfl)
    · intro u W hC hK
      clear hK
      obtain ⟨c0, c1, c2, c3⟩ := four_c (keepB B0.out hC)
      unfold Facts.one
      go_simp
      first | exact ⟨Grew.refl _, rfl⟩ | rfl
    simp only [Act.put, List.setIfInBounds_toArray, List.set_cons_zero, List.set_cons_succ, Nat.reduceAdd]
    apply Facts.Lex.exact [] _ (by kernel_rfl)
    · intro u W hC hK
      clear hK
      unfold Facts.one
      go_simp
      first | exact ⟨Grew.refl _, rfl⟩ | rfl
    simp only [Act.put, List.setIfInBounds_toArray, List.set_cons_zero, List.set_cons_succ, Nat.reduceAdd]
    refine Facts.Lex.know [] (fun v w => Is w v [lev, 0]) (by kernel_rfl) (fun _ _ _ h hg => h.grew hg) ?_ ?_
    · intro u W hC hK
      clear hK
      have hi := ints2 W lev 0
      have HI := Lib.hid hi
      clear hi
      unfold Facts.one
      go_simp
      exact ⟨by unfold Grew; go_grown, HI.out⟩
    simp only [Act.put, List.setIfInBounds_toArray, List.set_cons_zero, List.set_cons_succ, Nat.reduceAdd]
    refine Facts.Lex.know [6, 10] (fun v w => OwnB w W0.heap.size v X3) (by kernel_rfl) (fun _ _ _ h hg => own_bgrew h hg) ?_ ?_
    · intro u W hC hK
      have hR : Rd (fun _ => True) W (u 6) X2 := hK.2.1
      have hI : Is W (u 10) [lev, 0] := hK.1
      have HC9 := Lib.hid (put_any (fun _ => True) (u 6) X2 (u 10) _ W hR hI (by simp) (by rw [← H2.out, ← H1.out, List.length_append, List.length_append, tx_length, tx_length]; have := HL.out; simp; omega))
      rw [H3.out] at HC9
      have HSZ := Lib.hid (Nat.le_trans G0.out.size hC.size)
      clear hK hR hI
      unfold Facts.one
      go_simp
      refine HC9.out.mono ?_
      rintro e w' ⟨v', rfl, hi, hg⟩
      exact ⟨_, rfl, hg, hi.mono HSZ.out⟩
    simp only [Act.put, List.setIfInBounds_toArray, List.set_cons_zero, List.set_cons_succ, Nat.reduceAdd]
    refine Facts.Lex.know [11] (fun v w => OwnB w W0.heap.size v X3) (by kernel_rfl) (fun _ _ _ h hg => own_bgrew h hg) ?_ ?_
    · intro u W hC hK
      have hR : OwnB W W0.heap.size (u 11) X3 := hK.1
      have HR := Lib.hid hR
      clear hK hR
      unfold Facts.one
      go_simp
      exact ⟨Grew.refl _, HR.out⟩
    simp only [Act.put, List.setIfInBounds_toArray, List.set_cons_zero, List.set_cons_succ, Nat.reduceAdd]
    refine Facts.Lex.done fun u W2 hC hL => ?_
    have HY : Hid (OwnB W2 W0.heap.size (u 12) X3) := Lib.hid (hL _ (List.mem_cons_self ..))
    have HG : Hid (Below base W0 W2) := Lib.hid (Below.mono (G0.out.trans hC) HB.out)
    clear hC hL
    generalize u 12 = v9 at *
    go_wp2
    go_returns
    exact ⟨_, rfl, HY.out.mono HB.out, HG.out⟩
  | true =>
    have HE : Hid (l ++ (tx n.data.toList ++ (tx s.data.toList ++ (pb lev ++ pb (if true = true then 1 else 0)))) = l ++ tx n.data.toList ++ tx s.data.toList ++ putP [lev, 1]) := Lib.hid (by simp [putP])
    rw [HE.out]
    clear HE
    obtain ⟨X1, h1⟩ : ∃ X1, l ++ tx n.data.toList = X1 := ⟨_, rfl⟩
    rw [h1]
    obtain ⟨X2, h2⟩ : ∃ X2, X1 ++ tx s.data.toList = X2 := ⟨_, rfl⟩
    rw [h2]
    obtain ⟨X3, h3⟩ : ∃ X3, X2 ++ putP [lev, 1] = X3 := ⟨_, rfl⟩
    rw [h3]
    have H1 := Lib.hid h1
    have H2 := Lib.hid h2
    have H3 := Lib.hid h3
    clear h1 h2 h3
    obtain ⟨c0, c1, c2, c3⟩ := four_c B0.out
    go_enter Tryz.func89, Tryz.ntmps89
    go_wp2
    clear c0 c1 c2 c3
    refine Facts.wp_region_text (by kernel_rfl) (by kernel_rfl) ?_
    apply Facts.Lex.exact [] _ (by kernel_rfl)
    · intro u W hC hK
      clear hK
      unfold Facts.one
      go_simp
      first | exact ⟨Grew.refl _, rfl⟩ | rfl
    simp only [Act.put, List.setIfInBounds_toArray, List.set_cons_zero, List.set_cons_succ, Nat.zero_add]
    apply Facts.Lex.exact [] _ (by kernel_rfl)
    · intro u W hC hK
      clear hK
      unfold Facts.one
      go_simp
      first | exact ⟨Grew.refl _, rfl⟩ | rfl
    simp only [Act.put, List.setIfInBounds_toArray, List.set_cons_zero, List.set_cons_succ, Nat.reduceAdd]
    apply Facts.Lex.exact [] (.string n) (by kernel_rfl)
    · intro u W hC hK
      clear hK
      obtain ⟨c0, c1, c2, c3⟩ := four_c (keepB B0.out hC)
      unfold Facts.one
      go_simp
      first | exact ⟨Grew.refl _, rfl⟩ | rfl
    simp only [Act.put, List.setIfInBounds_toArray, List.set_cons_zero, List.set_cons_succ, Nat.reduceAdd]
    refine Facts.Lex.know [] (fun v w => Rd (fun _ => True) w v X1) (by kernel_rfl) (fun _ _ _ h hg => h.grew hg) ?_ ?_
    · intro u W hC hK
      have HC9 := Lib.hid (text_any (fun _ => True) v l n W ((HV.out.grew G0.out).grew hC) (by have := HL.out; omega) HN.out)
      clear hK
      unfold Facts.one
      go_simp
      refine HC9.out.mono ?_
      rintro e w' ⟨v', rfl, hi, hg⟩
      exact ⟨_, rfl, hg, by rw [← H1.out]; exact (OwnB.of hi (by rw [List.length_append])).rd⟩
    simp only [Act.put, List.setIfInBounds_toArray, List.set_cons_zero, List.set_cons_succ, Nat.reduceAdd]
    apply Facts.Lex.exact [] _ (by kernel_rfl)
    · intro u W hC hK
      clear hK
      unfold Facts.one
      go_simp
      first | exact ⟨Grew.refl _, rfl⟩ | rfl
    simp only [Act.put, List.setIfInBounds_toArray, List.set_cons_zero, List.set_cons_succ, Nat.reduceAdd]
    apply Facts.Lex.exact [] (.string s) (by kernel_rfl)
    · intro u W hC hK
      clear hK
      obtain ⟨c0, c1, c2, c3⟩ := four_c (keepB B0.out hC)
      unfold Facts.one
      go_simp
      first | exact ⟨Grew.refl _, rfl⟩ | rfl
    simp only [Act.put, List.setIfInBounds_toArray, List.set_cons_zero, List.set_cons_succ, Nat.reduceAdd]
    refine Facts.Lex.know [3] (fun v w => Rd (fun _ => True) w v X2) (by kernel_rfl) (fun _ _ _ h hg => h.grew hg) ?_ ?_
    · intro u W hC hK
      have hR : Rd (fun _ => True) W (u 3) X1 := hK.1
      have HC9 := Lib.hid (text_any (fun _ => True) (u 3) X1 s W hR (by rw [← H1.out, List.length_append, tx_length]; have := HL.out; omega) HS.out)
      clear hK hR
      unfold Facts.one
      go_simp
      refine HC9.out.mono ?_
      rintro e w' ⟨v', rfl, hi, hg⟩
      exact ⟨_, rfl, hg, by rw [← H2.out]; exact (OwnB.of hi (by simp only [List.length_append])).rd⟩
    simp only [Act.put, List.setIfInBounds_toArray, List.set_cons_zero, List.set_cons_succ, Nat.reduceAdd]
    apply Facts.Lex.exact [] _ (by kernel_rfl)
    · intro u W hC hK
      clear hK
      unfold Facts.one
      go_simp
      first | exact ⟨Grew.refl _, rfl⟩ | rfl
    simp only [Act.put, List.setIfInBounds_toArray, List.set_cons_zero, List.set_cons_succ, Nat.reduceAdd]
    apply Facts.Lex.exact [] (.int .i64 lev) (by kernel_rfl)
    · intro u W hC hK
      clear hK
      obtain ⟨c0, c1, c2, c3⟩ := four_c (keepB B0.out hC)
      unfold Facts.one
      go_simp
      first | exact ⟨Grew.refl _, rfl⟩ | rfl
    simp only [Act.put, List.setIfInBounds_toArray, List.set_cons_zero, List.set_cons_succ, Nat.reduceAdd]
    apply Facts.Lex.exact [] _ (by kernel_rfl)
    · intro u W hC hK
      clear hK
      unfold Facts.one
      go_simp
      first | exact ⟨Grew.refl _, rfl⟩ | rfl
    simp only [Act.put, List.setIfInBounds_toArray, List.set_cons_zero, List.set_cons_succ, Nat.reduceAdd]
    refine Facts.Lex.know [] (fun v w => Is w v [lev, 1]) (by kernel_rfl) (fun _ _ _ h hg => h.grew hg) ?_ ?_
    · intro u W hC hK
      clear hK
      have hi := ints2 W lev 1
      have HI := Lib.hid hi
      clear hi
      unfold Facts.one
      go_simp
      exact ⟨by unfold Grew; go_grown, HI.out⟩
    simp only [Act.put, List.setIfInBounds_toArray, List.set_cons_zero, List.set_cons_succ, Nat.reduceAdd]
    refine Facts.Lex.know [6, 10] (fun v w => OwnB w W0.heap.size v X3) (by kernel_rfl) (fun _ _ _ h hg => own_bgrew h hg) ?_ ?_
    · intro u W hC hK
      have hR : Rd (fun _ => True) W (u 6) X2 := hK.2.1
      have hI : Is W (u 10) [lev, 1] := hK.1
      have HC9 := Lib.hid (put_any (fun _ => True) (u 6) X2 (u 10) _ W hR hI (by simp) (by rw [← H2.out, ← H1.out, List.length_append, List.length_append, tx_length, tx_length]; have := HL.out; simp; omega))
      rw [H3.out] at HC9
      have HSZ := Lib.hid (Nat.le_trans G0.out.size hC.size)
      clear hK hR hI
      unfold Facts.one
      go_simp
      refine HC9.out.mono ?_
      rintro e w' ⟨v', rfl, hi, hg⟩
      exact ⟨_, rfl, hg, hi.mono HSZ.out⟩
    simp only [Act.put, List.setIfInBounds_toArray, List.set_cons_zero, List.set_cons_succ, Nat.reduceAdd]
    refine Facts.Lex.know [11] (fun v w => OwnB w W0.heap.size v X3) (by kernel_rfl) (fun _ _ _ h hg => own_bgrew h hg) ?_ ?_
    · intro u W hC hK
      have hR : OwnB W W0.heap.size (u 11) X3 := hK.1
      have HR := Lib.hid hR
      clear hK hR
      unfold Facts.one
      go_simp
      exact ⟨Grew.refl _, HR.out⟩
    simp only [Act.put, List.setIfInBounds_toArray, List.set_cons_zero, List.set_cons_succ, Nat.reduceAdd]
    refine Facts.Lex.done fun u W2 hC hL => ?_
    have HY : Hid (OwnB W2 W0.heap.size (u 12) X3) := Lib.hid (hL _ (List.mem_cons_self ..))
    have HG : Hid (Below base W0 W2) := Lib.hid (Below.mono (G0.out.trans hC) HB.out)
    clear hC hL
    generalize u 12 = v9 at *
    go_wp2
    go_returns
    exact ⟨_, rfl, HY.out.mono HB.out, HG.out⟩

set_option maxHeartbeats 1000000 in
theorem putAccounts (S : Nat → Prop) (v : Value) (l : List UInt8) (vX : Value) (X : List Ac) (w : World) (h : Rd S w v l) (hX : As w vX X) (hok : ∀ x ∈ X, (x.name.size ≤ maxLen ∧ x.secret.size ≤ maxLen)) (hb : X.length ≤ 100) (henc : ∀ x ∈ X, (encA x).length ≤ 600) (hl : l.length + 100000 ≤ 140737488355328) :
    Calls Tryz.prog 88 #[v, vX, .func (.func 89) #[] #[]] w fun e w' => ∃ v', e = .returned v' ∧ OwnB w' w.heap.size v' (l ++ (pb X.length ++ X.flatMap encA)) ∧ Grew w w' := by
  have HX := Lib.hid hX
  have HOK := Lib.hid hok
  have HENC := Lib.hid henc
  have HB := Lib.hid hb
  have HL := Lib.hid hl
  have g0 : Grew w (w.alloc (.cells #[.int .i64 X.length] 3)) := by unfold Grew; go_grown
  have HP := Lib.hid (put_any S v l _ [(X.length : Int)] (w.alloc (.cells #[.int .i64 X.length] 3)) (h.grew g0) (ints1 w _) (by simp) (by simp; omega))
  rw [putP1] at HP
  have G0 := Lib.hid g0
  obtain ⟨A, c, rfl, hc1, hc2, _⟩ := hX
  clear h hok hb henc hl g0
  go_enter Tryz.func88, Tryz.ntmps88
  go_wp2_with fail
  refine HP.out.mono ?_
  rintro e w1 ⟨v1, rfl, hown, hg⟩
  have HO1 : Hid (OwnB w1 w.heap.size v1 (l ++ pb X.length ++ (X.take 0).flatMap encA)) := Lib.hid (by
    rw [List.take_zero, List.flatMap_nil, List.append_nil]
    exact hown.mono G0.out.size)
  have HG1 := Lib.hid (G0.out.trans hg)
  clear hown hg HP G0
  go_wp2
  go_loopg [0, 16] X.length (fun g s0 s16 wx => ∃ (k : Nat) (v0 : Value), k + g = X.length ∧ v0 = s0 ∧ s16 = .int .i64 k ∧ Hid (OwnB wx w.heap.size s0 (l ++ pb X.length ++ (X.take k).flatMap encA)) ∧ Hid (Grew w wx))
  case atStart => exact ⟨0, _, by omega, rfl, rfl, HO1, HG1⟩
  case round =>
    clear HO1 HG1
    obtain ⟨k, v0, hkg, rfl, rfl, HO, HG⟩ := hrel
    cases gk with
    | zero =>
      have hkz : ¬ ((k : Int) < (X.length : Int)) := by omega
      have HE : Hid (OwnB wr w.heap.size v0 (l ++ (pb X.length ++ X.flatMap encA))) := Lib.hid (by
        have := HO.out
        rw [show k = X.length by omega, List.take_length, List.append_assoc] at this
        exact this)
      go_wp2
      go_returns
      exact ⟨_, rfl, HE.out, HG.out⟩
    | succ g =>
      have hkl : k < X.length := by omega
      have hkz : (k : Int) < (X.length : Int) := by omega
      have hx : X[k]? = some X[k] := List.getElem?_eq_getElem hkl
      obtain ⟨ad, c9, e9, _, d0, d1, d2, d3⟩ := As_at (HX.out.grew HG.out) hx
      injection e9 with e1 e2 e3
      subst e1 e3
      clear e2
      have hxok := HOK.out _ (List.getElem_mem hkl)
      have hts : (X.take (k + 1)).flatMap encA = (X.take k).flatMap encA ++ encA X[k] := by
        rw [List.take_add_one, hx, List.flatMap_append]
        simp
      have HTS := Lib.hid hts
      have hlen : (l ++ pb X.length ++ (X.take k).flatMap encA).length + 600 ≤ 140737488355328 := by
        have h1 := flat_le encA (X.take k) fun x hx => HENC.out x (List.mem_of_mem_take hx)
        rw [List.length_append, List.length_append, pb_len]
        rw [List.length_take] at h1
        have := HB.out
        have := HL.out
        omega
      have HKW : Hid (wrap64 ((k : Int) + 1) = ((k + 1 : Nat) : Int)) := Lib.hid (by have := HB.out; unfold wrap64; omega)
      have HM : Hid (k + 1 + g = X.length) := Lib.hid (by omega)
      generalize X[k] = x at *
      have ga : Grew wr (wr.alloc (.cells #[.string x.name, .string x.secret, .int .i64 x.lev, .bool x.mints] 88)) := by unfold Grew; go_grown
      have GA := Lib.hid (HG.out.trans ga)
      have HC := Lib.hid (one_account (wr.alloc (.cells #[.string x.name, .string x.secret, .int .i64 x.lev, .bool x.mints] 88)) w.heap.size v0 _ x hxok GA.out.size (own_alloc HO.out _) hlen)
      unfold aval at HC
      clear ga
      clear hx hts hlen hkl hkg hxok
      go_wp2_with fail
      refine HC.out.mono ?_
      rintro e w2 ⟨v', rfl, hown, hbel⟩
      have HO2 : Hid (OwnB w2 w.heap.size v' (l ++ pb X.length ++ (X.take (k + 1)).flatMap encA)) := Lib.hid (by rw [HTS.out, ← List.append_assoc]; exact hown)
      have HG2 : Hid (Grew w w2) := Lib.hid (Below.trans (show Below w.heap.size w _ from GA.out) hbel)
      clear hown hbel HTS
      go_wp2
      go_roundg g
      case measure => omega
      case rel => exact ⟨k + 1, _, HM.out, rfl, by first | rfl | (simp; done) | rw [HKW.out], HO2, HG2⟩
end Go.Proofs.YtmegdgeiikhflaaGreat.BC
