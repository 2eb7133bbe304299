/-
  A write is laid; one is laid as a row of one; one is appended to what waits.
  Conditions: those that each lemma names.
-/
import Derived.Test.YtbnicphegbdfnaaDNew
import Derived.Great.BuildSlice
import Derived.Great.FillDense
namespace Go.Proofs.Ytbnicphegbdfnaa.DBuild
set_option maxRecDepth 100000
set_option maxRecDepth 100000
set_option maxRecDepth 100000
open Go Go.RowKit Go.Proofs.Ytbnicphegbdfnaa Go.Proofs.Ytbnicphegbdfnaa.Facts Go.Proofs.Ytbnicphegbdfnaa.Bytes Go.Proofs.Ytbnicphegbdfnaa.DKeep Go.Proofs.Ytbnicphegbdfnaa.DSmall Go.Proofs.Ytbnicphegbdfnaa.DTurn Go.Proofs.Ytbnicphegbdfnaa.DArm Go.Proofs.Ytbnicphegbdfnaa.DNew

def wr (n : Int) (B : Sec) : List Value := .int .i64 n :: bv B
theorem wr_length (n : Int) (B : Sec) (h : B.length = 128) : (wr n B).length = 129 := by simp [wr, bv_length, h]
theorem wr_one (n : Int) (B : Sec) : ∀ u ∈ wr n B, u.oneCell' = true := by
  intro u hu
  rcases List.mem_cons.1 hu with rfl | hu
  · rfl
  · exact bv_one B u hu
theorem run_build67 (n : Int) (u : World) : (Instr.build 129 #[(0, .int .i64 n)]).run Try.prog u = .ok (.agg (wr n zsec).toArray) u := by
  kernel_rfl
theorem wpList_build {ops : Array Oper} {rest : List Oper} {op : Oper} {a : Act} {w : World} {Q : Exit → Act → World → Prop} (hgd : op.guard = none) (t : TypeId) (parts : Array (Nat × Operand)) (ho : op.op = .build t parts) (vs : Array (Nat × Value)) (hx : (parts.map fun (i, x) => (i, a.eval x)) = vs) (v : Value)
    (hr : (Instr.build t vs).run Try.prog w = .ok v w) (h : wpList Try.prog ops Q rest (a.put op.dst v) w) : wpList Try.prog ops Q (op :: rest) a w := by
  refine wpList_plain hgd fun _ hK => ?_
  unfold Oper.wp execOp
  simp only [ho, hx, Sem.run_bind, Sem.run_pure, Result.andThen_ok, hr]
  exact hK _ _ h

theorem zero67 : (Try.prog.info? 129).map (fun i => (i.zero.isSome, i.size, i.bytes)) = some (true, 129, 136) := by kernel_rfl
theorem run_bs (C : Array Value) (hC : C.size = 129) (u : World) : (Instr.buildSlice 102 1 #[(0, .agg C)]).run Try.prog u = .ok (.slice (some ⟨u.heap.size, 0, none⟩) 1 1) (u.alloc (.cells C 129)) := by
  cases hq : Try.prog.info? 129 with
  | none => have := zero67; simp [hq] at this
  | some i =>
    have h := zero67
    simp only [hq, Option.map_some, Option.some.injEq, Prod.mk.injEq] at h
    obtain ⟨h1, h2, h3⟩ := h
    cases hz : i.zero with
    | none => simp [hz] at h1
    | some z =>
      refine run_buildSlice u 102 129 1 _ C i z Try.underlying102 hq hz (by omega) (by omega) ?_
      have hf := _root_.Go.Great.fill_whole (s := 129) (by omega) [.agg C] ((Array.range (1 * i.size)).map (z.cells[· % z.cells.size]!)) (by intro v hv; simp at hv; subst hv; exact hC) (by simp [h2])
      rw [h2]
      have e : ([Value.agg C].flatMap fun v => v.cells.toList).toArray = C := by simp [Value.cells]
      rw [e, h2] at hf
      exact hf
theorem run_app (W : World) (vw : Value) (l : List (Nat × Sec)) (p : Nat × Sec) (m : Nat) (hf : Fit m l) (hp : p.2.length = 128) (hown : W.ownsRow 0 129 129 vw l.length (wcells l)) (kk : Nat) (hk : ∀ j u, (wr p.1 p.2)[j]? = some u → W.cell? ((⟨kk, 0, none⟩ : Addr).add j) = some u) (hl : l.length ≤ 1073741824) :
    ∃ v' W', (Builtin.append_ #[102, 102] 102 #[vw, .slice (some ⟨kk, 0, none⟩) 1 1]).run Try.prog W = .ok v' W' ∧ W'.ownsRow 0 129 129 v' (l ++ [p]).length (wcells (l ++ [p])) ∧ W.grownBy W' vw.ownBlock ∧ (∀ j, v'.ownBlock = some j → vw.ownBlock = some j ∨ W.heap.size ≤ j) := by
  cases hq : Try.prog.info? 129 with
  | none => have := zero67; simp [hq] at this
  | some i =>
    have h := zero67
    simp only [hq, Option.map_some, Option.some.injEq, Prod.mk.injEq] at h
    obtain ⟨h1, h2, h3⟩ := h
    cases hz : i.zero with
    | none => simp [hz] at h1
    | some z =>
      have hzs : z.cells.size = 129 := by
        have h4 : (Try.prog.info? 129).map (fun i => i.zero.map (·.cells.size)) = some (some 129) := by kernel_rfl
        simpa [hq, hz] using h4
      obtain ⟨v', W', hr, h5, h6, _⟩ := run_append_own (P := Try.prog) W 0 102 102 129 i z 129 136 Try.underlying102 hq hz h2 h3 hzs (by omega) vw l.length (wcells l) hown ⟨kk, 0, none⟩ 1 1 (wr p.1 p.2) (by rw [wr_length _ _ hp]) hk (wr_one _ _) (by unfold maxLen; omega) (by omega) (Nat.zero_le _)
      refine ⟨v', W', hr, ?_, h6, ?_⟩
      · rw [List.length_append, List.length_singleton, wcells_snoc]
        exact h5
      · intro j hj
        have hwl := wr_length p.1 p.2 hp
        rcases hown.2 with ⟨rfl, h0⟩ | ⟨g, cap, cur, rfl, hbg, hg, hnc, hcm, hcs, htake⟩
        · have hx0 : l = [] := List.eq_nil_of_length_eq_zero h0
          subst hx0
          obtain ⟨v2, W2, hr2, h52, _, _⟩ := run_append_own (P := Try.prog) W W.heap.size 102 102 129 i z 129 136 Try.underlying102 hq hz h2 h3 hzs (by omega) (.slice none 0 0) 0 [] (World.ownsRow_nil _ _ _ _) ⟨kk, 0, none⟩ 1 1 (wr p.1 p.2) (by rw [hwl]) hk (wr_one _ _) (by decide) (by omega) (Nat.le_refl _)
          have e := hr.symm.trans hr2
          injection e with e1 e2
          subst e1
          rcases h52.2 with ⟨rfl, _⟩ | ⟨q, _, _, rfl, hq2, _⟩
          · cases hj
          · simp [Value.ownBlock] at hj
            subst hj
            exact .inr hq2
        · by_cases hroom : l.length + 1 ≤ cap
          · have hfit : l.length * i.size + (wr p.1 p.2).length ≤ cur.size := by rw [hwl, h2, hcs]; omega
            have hr2 := run_append_room (P := Try.prog) W 102 102 129 i Try.underlying102 hq g l.length cap cur hg ⟨kk, 0, none⟩ 1 1 (wr p.1 p.2) (by rw [hwl, h2]) hk (wr_one _ _) hroom hfit
            have e := hr.symm.trans hr2
            injection e with e1 e2
            subst e1
            exact .inl hj
          · have holds : ∀ j u, (wcells l)[j]? = some u → W.cell? ((⟨g, 0, none⟩ : Addr).add j) = some u := hown.cells (g := g) rfl
            have hr2 := run_append_grow (P := Try.prog) W 102 102 129 i z Try.underlying102 hq hz ⟨g, 0, none⟩ l.length cap (wcells l) (by rw [h2]; exact hown.1) holds ⟨kk, 0, none⟩ 1 1 (wr p.1 p.2) (by rw [hwl, h2]) hk (by omega) (by omega) (by rw [h3]; exact growslice_fits (by omega) (by omega))
            have e := hr.symm.trans hr2
            injection e with e1 e2
            subst e1
            simp [Value.ownBlock] at hj
            exact .inr (by omega)
theorem own_block {w : World} {base e s n : Nat} {v : Value} {xs : List Value} (h : w.ownsRow base e s v n xs) : ∃ A c, v = .slice A n c := by
  rcases h.2 with ⟨rfl, h0⟩ | ⟨g, cap, cur, rfl, _⟩
  · exact ⟨none, 0, by rw [h0]⟩
  · exact ⟨_, _, rfl⟩
end Go.Proofs.Ytbnicphegbdfnaa.DBuild
