/-
  For every parts and every place to cut at: WireBack answers true, and each argument reads afterwards as it read before.
  Conditions: none beyond the row's own.
-/
import Derived.Test.YtekodmnhheejkabRows
import Derived.Test.YtekodmnhheejkabBackLaw
import Derived.Test.YtekodmnhheejkabRows3
namespace Go.Proofs.Ytekodmnhheejkab.BackProof
open Go Go.ChangeShapes Go.WideShapes Go.ChangeAt Go.RowKit Go.Deep Go.Proofs.Ytekodmnhheejkab.Facts Go.Proofs.Ytekodmnhheejkab.Bytes Go.Proofs.Ytekodmnhheejkab.Law Go.Proofs.Ytekodmnhheejkab.Rows3

theorem own : ownKnob Try.prog.godebug = none := by kernel_rfl
theorem laidOut : laidOutB Try.prog = true := by kernel_rfl
theorem cells46 : Try.prog.cellsOf 46 = 3 := by kernel_rfl
theorem struct46 : ∃ f0 f1 f2, Try.prog.underlying 46 = some (.struct #[f0, f1, f2]) ∧ oneCellFields Try.prog #[f0, f1, f2] = true ∧ f0.type = 23 ∧ f1.type = 3 ∧ f2.type = 9 :=
  ⟨_, _, _, Try.underlying46, by kernel_rfl, rfl, rfl, rfl⟩

theorem parts {b0 : Nat} {H : Type} {enc : TypeId × Value → H} {w : World} {v : Value} {d : DataW H} {ps : List MemPlace} (hval : Value.okWide Try.prog w .any b0 44 v) (h : DataW.Trod enc Try.prog w 0 (fun _ => true) true 44 v d ps) :
    ∃ A n c raw, v = .slice A n c ∧ n ≤ c ∧ c ≤ maxLen ∧ BackLaw.PartsAt w A n raw := by
  obtain ⟨f0, f1, f2, hs, hone, t0, t1, t2⟩ := struct46
  rcases open_three Try.underlying44 hs hone cells46 hval h with rfl | ⟨a, len, cap, rfl, hlc, hm, hi⟩
  · exact ⟨none, 0, 0, fun _ => ⟨0, 0, .empty⟩, rfl, Nat.le_refl _, Nat.zero_le _, .inl rfl⟩
  · have hp : ∀ k, ∃ r : BackLaw.Raw, k < len → r.n < 18446744073709551616 ∧ r.s.size ≤ maxLen ∧ w.cell? (a.add (k * 3)) = some (.int .u64 (r.n : Int)) ∧
        w.cell? ⟨(a.add (k * 3)).block, (a.add (k * 3)).off + 1, none⟩ = some (.int .i64 r.z) ∧ w.cell? ⟨(a.add (k * 3)).block, (a.add (k * 3)).off + 2, none⟩ = some (.string r.s) := by
      intro k
      by_cases hk : k < len
      · obtain ⟨c0, c1, c2, y0, y1, y2, n, hc0, hc1, hc2, g0, g1, g2⟩ := hi k hk
        rw [t0] at g0
        rw [t1] at g1
        rw [t2] at g2
        obtain ⟨nn, e0, _, w0⟩ := DataW.trod_int Try.underlying23 g0
        obtain ⟨z, e1, _, _⟩ := DataW.trod_int Try.underlying3 g1
        obtain ⟨s, e2, _, hmax⟩ := DataW.trod_string Try.underlying9 g2
        cases e0
        cases e1
        cases e2
        have hn : 0 ≤ nn ∧ nn ≤ 18446744073709551615 := by simpa [Lit.wf, IntKind.min, IntKind.max, IntKind.signed, IntKind.bits] using w0
        obtain ⟨m, rfl⟩ := Int.eq_ofNat_of_zero_le hn.1
        exact ⟨⟨m, z, s⟩, fun _ => ⟨by show m < _; omega, hmax, hc0, hc1, hc2⟩⟩
      · exact ⟨⟨0, 0, .empty⟩, fun h => absurd h hk⟩
    refine ⟨some a, len, cap, fun k => Classical.choose (hp k), rfl, hlc, hm, ?_⟩
    rcases Nat.eq_zero_or_pos len with h0 | hpos
    · exact .inl h0
    · refine .inr ⟨a, rfl, ?_, fun k hk => Classical.choose_spec (hp k) hk⟩
      obtain ⟨c0, _, _, _, _, _, _, hc0, _⟩ := hi 0 hpos
      have := World.block_lt_of_cell? w _ hc0
      rwa [block_add'] at this

set_option maxRecDepth 100000 in
theorem lifted (os : Os) (started : os.Started) (H : Type) (enc : TypeId × Value → H) :
    ReturnsInHanded {} Try.checked os 5 .any (Rows.wireBackSpec.pre6 enc Try.prog Try.f5 Rows.wireBackRow.domain false) (Rows.wireBackSpec.post enc Try.prog Try.f5 false true false false) := by
  refine returnsInHanded_of_change_sized (C := Try.checked) own started (by kernel_rfl) Try.func5
    (ChangeSpec.witness6 (enc := enc) (C := Try.checked) false ⟨#[], #[.slice none 0 0, .int .i64 0], []⟩ 8 (by kernel_rfl) (by kernel_rfl) (by kernel_rfl) (by kernel_rfl)) ?_
  intro W base args ds gs before hval0 hW _ hsz _
  have hval : ∀ (j : Nat) t v, Try.f5.params[j]? = some t → args[j]? = some v → Value.okWide Try.prog W .any base t v := hval0
  have hW' := hW
  obtain ⟨p, q, hA0, hV, rfl, hfz, hnd⟩ := hW
  have hA : DataW.TrodAll enc Try.prog W 0 (fun _ => true) true Try.f5.params.toList args.toList ds p := hA0
  rw [Try.params5] at hA hval
  obtain ⟨v0, v1, d0, d1, p0, p1, rfl, rfl, rfl, h0, h1⟩ := trodAll_two hA
  obtain ⟨rfl, rfl⟩ := trodVars_none hV
  obtain ⟨A, n, c, raw, rfl, hn, hc, hp⟩ := parts (hval 0 44 v0 rfl rfl) h0
  obtain ⟨cut, rfl, rfl, rfl, _⟩ := open_int Try.underlying3 (hval 1 3 v1 rfl rfl) h1
  refine (BackLaw.law_any A n c cut W raw hp hn hc).mono fun e W' ⟨he, hg⟩ => ?_
  subst he
  exact ⟨_, rfl, law_post laidOut (by kernel_rfl) Try.underlying4 rfl (by kernel_rfl) hW' rfl hg⟩

theorem proved : Rows.WireBackSaid :=
  OpenClaim.holds_of_wide 5 Try.f5 rfl rfl rfl rfl rfl rfl rfl ⟨rfl, rfl, rfl, rfl, rfl⟩ rfl rfl rfl rfl rfl (by kernel_rfl) Try.func5 (by kernel_rfl)
    (of_decide_eq_true (by kernel_rfl)) (by unfold Func.isWrapper; first | (rw [if_pos (by decide +kernel)]; kernel_rfl) | (rw [if_neg (by decide +kernel)]; exact ⟨rfl, rfl⟩))
    (fun os started H enc _ => lifted os started H enc)
end Go.Proofs.Ytekodmnhheejkab.BackProof

namespace Go.Proofs.Ytekodmnhheejkab
theorem wireBack_holds : Rows.WireBackSaid := BackProof.proved
#print axioms wireBack_holds
end Go.Proofs.Ytekodmnhheejkab
