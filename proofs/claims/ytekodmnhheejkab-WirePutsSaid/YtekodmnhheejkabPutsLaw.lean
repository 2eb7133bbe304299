/-
  WirePuts: any number and any text, put behind any bytes, are told, and what was handed in is not changed.
  Conditions: none beyond the row's own.
-/
import Derived.Test.YtekodmnhheejkabAlive
namespace Go.Proofs.Ytekodmnhheejkab.PutsLaw
open Go Go.RowKit Go.Proofs.Ytekodmnhheejkab Go.Proofs.Ytekodmnhheejkab.Facts Go.Proofs.Ytekodmnhheejkab.Bytes Go.Proofs.Ytekodmnhheejkab.Puts Go.Proofs.Ytekodmnhheejkab.Nums Go.Proofs.Ytekodmnhheejkab.Alive

attribute [local go_sem] come

theorem law_any (S : Nat → Prop) (v : Value) (l : List UInt8) (n : Nat) (size : Int) (s : ByteArray) (w : World) (h : Rd S w v l) (hl : l.length + 4096 ≤ 140737488355328) (hn : n < 18446744073709551616) (hs : s.size ≤ maxLen) :
    Calls Try.prog 3 #[v, .int .u64 n, .int .i64 size, .string s] w fun e w' => e = .returned (.bool true) ∧ Grew w w' := by
  have R0 := Lib.hid h
  have Hn := Lib.hid hn
  have Hs := Lib.hid hs
  have Hm := Lib.hid (show (⟨l.toArray⟩ : ByteArray).size ≤ maxLen by show l.toArray.size ≤ _; rw [List.size_toArray]; unfold maxLen; omega)
  have hcv0 := conv22 h
  clear h hn hs
  go_enter Try.func3, Try.ntmps3
  go_wp2_with fail
  refine (Puts.num_any S v l n size _ R0.out (by omega)).mono ?_
  rintro e w1 ⟨x, rfl, ho1, hg1⟩
  have R1 := Lib.hid (Rd.of_own ho1 (by simp [be_length]))
  have G1 := Lib.hid hg1
  have R01 := Lib.hid (R0.out.grew hg1)
  clear ho1 hg1
  go_wp2_with fail
  refine (Puts.text_any S v l s _ R01.out (by omega) Hs.out).mono ?_
  rintro e w2 ⟨y, rfl, ho2, hg2⟩
  have R2 := Lib.hid (Rd.of_own ho2 (by simp))
  have G2 := Lib.hid (G1.out.trans hg2)
  have R12 := Lib.hid (R1.out.grew hg2)
  have R02 := Lib.hid (R01.out.grew hg2)
  clear ho2 hg2 hcv0
  go_wp2
  refine wp_region_text (by kernel_rfl) (by kernel_rfl) ?_
  apply Lex.exact [] _ (by kernel_rfl)
  · intro u w hC _
    unfold one
    go_simp
    refine (alive_any _).mono ?_
    rintro e w' ⟨rfl, hg⟩
    exact ⟨_, rfl, hg, rfl⟩
  simp only [Act.put, List.setIfInBounds_toArray, List.set_cons_zero, List.set_cons_succ, Nat.zero_add, Nat.reduceAdd]
  repeat
    apply Lex.exact [] _ (by kernel_rfl)
    · intro u w hC _
      unfold one
      go_simp
      exact ⟨Grew.refl _, rfl⟩
    simp only [Act.put, List.setIfInBounds_toArray, List.set_cons_zero, List.set_cons_succ, Nat.zero_add, Nat.reduceAdd]
  apply Lex.exact [] _ (by kernel_rfl)
  · intro u w hC hK
    have hcv := conv22 (R12.out.grew hC)
    unfold one
    go_simp
    exact ⟨Grew.refl _, rfl⟩
  simp only [Act.put, List.setIfInBounds_toArray, List.set_cons_zero, List.set_cons_succ, Nat.zero_add, Nat.reduceAdd]
  repeat
    apply Lex.exact [] _ (by kernel_rfl)
    · intro u w hC _
      unfold one
      go_simp
      exact ⟨Grew.refl _, rfl⟩
    simp only [Act.put, List.setIfInBounds_toArray, List.set_cons_zero, List.set_cons_succ, Nat.zero_add, Nat.reduceAdd]
  refine Lex.know [] (fun v w => Rd (fun _ => True) w v l) (by kernel_rfl) (fun _ _ _ h hg => h.grew hg) ?_ ?_
  · intro u w hC _
    obtain ⟨v', w', hrun, hrd, hg⟩ := run_toBytes (P := Try.prog) (src := 9) (dst := 22) (e := 5) w ⟨l.toArray⟩ Try.underlying9 Try.underlying22 Try.underlying5 Hm.out
    unfold one
    go_simp
    exact ⟨hg, hrd.mono fun _ _ => trivial⟩
  simp only [Act.put, List.setIfInBounds_toArray, List.set_cons_zero, List.set_cons_succ, Nat.zero_add, Nat.reduceAdd]
  repeat
    apply Lex.exact [] _ (by kernel_rfl)
    · intro u w hC _
      unfold one
      go_simp
      exact ⟨Grew.refl _, rfl⟩
    simp only [Act.put, List.setIfInBounds_toArray, List.set_cons_zero, List.set_cons_succ, Nat.zero_add, Nat.reduceAdd]
  refine Lex.know [5] (fun v w => Rd (fun _ => True) w v (l ++ be (width size) n)) (by kernel_rfl) (fun _ _ _ h hg => h.grew hg) ?_ ?_
  · intro u w hC hK
    have h5 : Rd (fun _ => True) w (u 5) l := hK.1
    unfold one
    go_simp
    refine (Refs.num_any _ _ l n size _ h5 (by omega) Hn.out).mono ?_
    rintro e w' ⟨v', rfl, ho, hg⟩
    exact ⟨_, rfl, hg, (Rd.of_own ho (by simp [be_length])).mono fun _ _ => trivial⟩
  simp only [Act.put, List.setIfInBounds_toArray, List.set_cons_zero, List.set_cons_succ, Nat.zero_add, Nat.reduceAdd]
  apply Lex.exact [8] _ (by kernel_rfl)
  · intro u w hC hK
    have h8 : Rd (fun _ => True) w (u 8) (l ++ be (width size) n) := hK.1
    have hcv := conv22 (h8)
    unfold one
    go_simp
    exact ⟨Grew.refl _, rfl⟩
  simp only [Act.put, List.setIfInBounds_toArray, List.set_cons_zero, List.set_cons_succ, Nat.zero_add, Nat.reduceAdd]
  repeat
    apply Lex.exact [] _ (by kernel_rfl)
    · intro u w hC _
      unfold one
      go_simp
      exact ⟨Grew.refl _, rfl⟩
    simp only [Act.put, List.setIfInBounds_toArray, List.set_cons_zero, List.set_cons_succ, Nat.zero_add, Nat.reduceAdd]
  apply Lex.exact [] _ (by kernel_rfl)
  · intro u w hC hK
    have hcv := conv22 (R2.out.grew hC)
    unfold one
    go_simp
    exact ⟨Grew.refl _, rfl⟩
  simp only [Act.put, List.setIfInBounds_toArray, List.set_cons_zero, List.set_cons_succ, Nat.zero_add, Nat.reduceAdd]
  repeat
    apply Lex.exact [] _ (by kernel_rfl)
    · intro u w hC _
      unfold one
      go_simp
      exact ⟨Grew.refl _, rfl⟩
    simp only [Act.put, List.setIfInBounds_toArray, List.set_cons_zero, List.set_cons_succ, Nat.zero_add, Nat.reduceAdd]
  refine Lex.know [] (fun v w => Rd (fun _ => True) w v l) (by kernel_rfl) (fun _ _ _ h hg => h.grew hg) ?_ ?_
  · intro u w hC _
    obtain ⟨v', w', hrun, hrd, hg⟩ := run_toBytes (P := Try.prog) (src := 9) (dst := 22) (e := 5) w ⟨l.toArray⟩ Try.underlying9 Try.underlying22 Try.underlying5 Hm.out
    unfold one
    go_simp
    exact ⟨hg, hrd.mono fun _ _ => trivial⟩
  simp only [Act.put, List.setIfInBounds_toArray, List.set_cons_zero, List.set_cons_succ, Nat.zero_add, Nat.reduceAdd]
  repeat
    apply Lex.exact [] _ (by kernel_rfl)
    · intro u w hC _
      unfold one
      go_simp
      exact ⟨Grew.refl _, rfl⟩
    simp only [Act.put, List.setIfInBounds_toArray, List.set_cons_zero, List.set_cons_succ, Nat.zero_add, Nat.reduceAdd]
  refine Lex.know [16] (fun v w => Rd (fun _ => True) w v (l ++ tx s.data.toList)) (by kernel_rfl) (fun _ _ _ h hg => h.grew hg) ?_ ?_
  · intro u w hC hK
    have h16 : Rd (fun _ => True) w (u 16) l := hK.1
    unfold one
    go_simp
    refine (Refs.text_any _ _ l s _ h16 (by omega) Hs.out).mono ?_
    rintro e w' ⟨v', rfl, ho, hg⟩
    exact ⟨_, rfl, hg, (Rd.of_own ho (by simp)).mono fun _ _ => trivial⟩
  simp only [Act.put, List.setIfInBounds_toArray, List.set_cons_zero, List.set_cons_succ, Nat.zero_add, Nat.reduceAdd]
  apply Lex.exact [18] _ (by kernel_rfl)
  · intro u w hC hK
    have h18 : Rd (fun _ => True) w (u 18) (l ++ tx s.data.toList) := hK.1
    have hcv := conv22 (h18)
    unfold one
    go_simp
    exact ⟨Grew.refl _, rfl⟩
  simp only [Act.put, List.setIfInBounds_toArray, List.set_cons_zero, List.set_cons_succ, Nat.zero_add, Nat.reduceAdd]
  repeat
    apply Lex.exact [] _ (by kernel_rfl)
    · intro u w hC _
      unfold one
      go_simp
      exact ⟨Grew.refl _, rfl⟩
    simp only [Act.put, List.setIfInBounds_toArray, List.set_cons_zero, List.set_cons_succ, Nat.zero_add, Nat.reduceAdd]
  apply Lex.exact [] _ (by kernel_rfl)
  · intro u w hC hK
    have hcv := conv22 (R02.out.grew hC)
    unfold one
    go_simp
    exact ⟨Grew.refl _, rfl⟩
  simp only [Act.put, List.setIfInBounds_toArray, List.set_cons_zero, List.set_cons_succ, Nat.zero_add, Nat.reduceAdd]
  repeat
    apply Lex.exact [] _ (by kernel_rfl)
    · intro u w hC _
      unfold one
      go_simp
      exact ⟨Grew.refl _, rfl⟩
    simp only [Act.put, List.setIfInBounds_toArray, List.set_cons_zero, List.set_cons_succ, Nat.zero_add, Nat.reduceAdd]
  refine Lex.done fun u w hC _ => ?_
  go_wp2
  go_ret
  exact ⟨rfl, G2.out.trans hC⟩
end Go.Proofs.Ytekodmnhheejkab.PutsLaw
