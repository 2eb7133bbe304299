/-
  For every bytes and whatever is asked of a scan of them, up to a hundred things one behind the other: WireTakes answers true, and each argument reads afterwards as it read before.
  Conditions: none beyond the row's own (the form's reach: each argument takes at most 2 to the 47 less 4096 bytes).
-/
import Derived.Test.YtekodmnhheejkabRows
import Derived.Test.YtekodmnhheejkabTakesLaw
import Derived.Test.YtekodmnhheejkabRows3
namespace Go.Proofs.Ytekodmnhheejkab.TakesProof
open Go Go.ChangeShapes Go.WideShapes Go.ChangeAt Go.RowKit Go.Deep Go.Proofs.Ytekodmnhheejkab.Facts Go.Proofs.Ytekodmnhheejkab.Bytes Go.Proofs.Ytekodmnhheejkab.Law Go.Proofs.Ytekodmnhheejkab.Rows3

theorem own : ownKnob Try.prog.godebug = none := by kernel_rfl
theorem laidOut : laidOutB Try.prog = true := by kernel_rfl
theorem cells5 : Try.prog.cellsOf 5 = 1 := by kernel_rfl
theorem bytes5 : Try.prog.bytesOf 5 = 1 := by kernel_rfl
theorem cells36 : Try.prog.cellsOf 36 = 3 := by kernel_rfl
theorem struct36 : ∃ f0 f1 f2, Try.prog.underlying 36 = some (.struct #[f0, f1, f2]) ∧ oneCellFields Try.prog #[f0, f1, f2] = true ∧ f0.type = 3 ∧ f1.type = 3 ∧ f2.type = 32 :=
  ⟨_, _, _, Try.underlying36, by kernel_rfl, rfl, rfl, rfl⟩

theorem asks {b0 : Nat} {H : Type} {enc : TypeId × Value → H} {w : World} {v : Value} {d : DataW H} {ps : List MemPlace} (hval : Value.okWide Try.prog w .any b0 28 v) (h : DataW.Trod enc Try.prog w 0 (fun _ => true) true 28 v d ps) :
    ∃ A n c, v = .slice A n c ∧ n ≤ c ∧ c ≤ maxLen ∧ TakesLaw.Asks w A n := by
  obtain ⟨f0, f1, f2, hs, hone, t0, t1, t2⟩ := struct36
  rcases open_three Try.underlying28 hs hone cells36 hval h with rfl | ⟨a, len, cap, rfl, hlc, hm, hi⟩
  · exact ⟨none, 0, 0, rfl, Nat.le_refl _, Nat.zero_le _, .inl rfl⟩
  · refine ⟨some a, len, cap, rfl, hlc, hm, ?_⟩
    rcases Nat.eq_zero_or_pos len with h0 | hpos
    · exact .inl h0
    · refine .inr ⟨a, rfl, ?_, fun k hk => ?_⟩
      · obtain ⟨c0, _, _, _, _, _, _, hc0, _⟩ := hi 0 hpos
        have := World.block_lt_of_cell? w _ hc0
        rwa [block_add'] at this
      · obtain ⟨c0, c1, c2, y0, y1, y2, n, hc0, hc1, hc2, g0, g1, g2⟩ := hi k hk
        rw [t0] at g0
        rw [t1] at g1
        rw [t2] at g2
        obtain ⟨kd, e0, _, _⟩ := DataW.trod_int Try.underlying3 g0
        obtain ⟨nn, e1, _, w1⟩ := DataW.trod_int Try.underlying3 g1
        obtain ⟨ee, e2, _, _⟩ := DataW.trod_int Try.underlying32 g2
        cases e0
        cases e1
        cases e2
        have hw : -9223372036854775808 ≤ nn ∧ nn ≤ 9223372036854775807 := by simpa [Lit.wf, IntKind.min, IntKind.max, IntKind.signed, IntKind.bits] using w1
        exact ⟨kd, nn, ee, hw.2, hc0, hc1, hc2⟩

set_option maxRecDepth 100000 in
theorem lifted (os : Os) (started : os.Started) (H : Type) (enc : TypeId × Value → H) :
    ReturnsInHanded {} Try.checked os 4 .any (Rows.wireTakesSpec.pre6 enc Try.prog Try.f4 Rows.wireTakesRow.domain false) (Rows.wireTakesSpec.post enc Try.prog Try.f4 false true false false) := by
  refine returnsInHanded_of_change_sized (C := Try.checked) own started (by kernel_rfl) Try.func4
    (ChangeSpec.witness6 (enc := enc) (C := Try.checked) false ⟨#[], #[.slice none 0 0, .slice none 0 0], []⟩ 8 (by kernel_rfl) (by kernel_rfl) (by kernel_rfl) (by kernel_rfl)) ?_
  intro W base args ds gs before hval0 hW _ hsz _
  have hval : ∀ (j : Nat) t v, Try.f4.params[j]? = some t → args[j]? = some v → Value.okWide Try.prog W .any base t v := hval0
  have hW' := hW
  obtain ⟨p, q, hA0, hV, rfl, hfz, hnd⟩ := hW
  have hA : DataW.TrodAll enc Try.prog W 0 (fun _ => true) true Try.f4.params.toList args.toList ds p := hA0
  rw [Try.params4] at hA hval
  obtain ⟨v0, v1, d0, d1, p0, p1, rfl, rfl, rfl, h0, h1⟩ := trodAll_two hA
  obtain ⟨rfl, rfl⟩ := trodVars_none hV
  obtain ⟨l, hr, hl⟩ := open_bytes Try.underlying22 Try.underlying5 cells5 (hval 0 22 v0 rfl rfl) h0
  obtain ⟨A, n, c, rfl, hn, hc, hask⟩ := asks (hval 1 28 v1 rfl rfl) h1
  have hlen : l.length + 4096 ≤ 140737488355328 := by
    rcases hl with ⟨_, rfl⟩ | ⟨elems, spare, rfl, hel⟩
    · simp
    · have := sized_slice hsz (j := 0) (t := 22) (e := 5) rfl rfl Try.underlying22
      rw [show Try.checked.prog.bytesOf 5 = 1 from bytes5] at this
      unfold reachBytes at this
      omega
  refine (TakesLaw.law_any _ v0 l A n c W hr hlen hask hn hc).mono fun e W' ⟨he, hg⟩ => ?_
  subst he
  exact ⟨_, rfl, law_post laidOut (by kernel_rfl) Try.underlying4 rfl (by kernel_rfl) hW' rfl hg⟩

theorem proved : Rows.WireTakesSaid :=
  OpenClaim.holds_of_wide 4 Try.f4 rfl rfl rfl rfl rfl rfl rfl ⟨rfl, rfl, rfl, rfl, rfl⟩ rfl rfl rfl rfl rfl (by kernel_rfl) Try.func4 (by kernel_rfl)
    (of_decide_eq_true (by kernel_rfl)) (by unfold Func.isWrapper; first | (rw [if_pos (by decide +kernel)]; kernel_rfl) | (rw [if_neg (by decide +kernel)]; exact ⟨rfl, rfl⟩))
    (fun os started H enc _ => lifted os started H enc)
end Go.Proofs.Ytekodmnhheejkab.TakesProof

namespace Go.Proofs.Ytekodmnhheejkab
theorem wireTakes_holds : Rows.WireTakesSaid := TakesProof.proved
#print axioms wireTakes_holds
end Go.Proofs.Ytekodmnhheejkab
