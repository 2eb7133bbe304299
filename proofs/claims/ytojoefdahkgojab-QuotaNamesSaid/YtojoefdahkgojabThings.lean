/-
  Rows of things, each a text and a number, as they are read; a clone of one; whether a slot is taken; what is put.
  Conditions: a row's size.
-/
import Derived.Test.YtojoefdahkgojabAlive
namespace Go.Proofs.Ytojoefdahkgojab.Things
open Go Go.RowKit Go.Lib Go.Proofs.Ytojoefdahkgojab Go.Proofs.Ytojoefdahkgojab.Facts Go.Proofs.Ytojoefdahkgojab.Bytes Go.Proofs.Ytojoefdahkgojab.Ints Go.Proofs.Ytojoefdahkgojab.Slot

def tv (T : List (ByteArray × Int)) : List Value := T.flatMap fun p => [.string p.1, .int .i64 p.2]
theorem tv_length (T : List (ByteArray × Int)) : (tv T).length = T.length * 2 := by
  induction T with
  | nil => rfl
  | cons p T ih =>
    show ([Value.string p.1, .int .i64 p.2] ++ tv T).length = _
    rw [List.length_append, ih]
    simp
    omega
def nm (T : List (ByteArray × Int)) (k : Nat) : ByteArray := (T[k]?.getD (ByteArray.empty, 0)).1
def nn (T : List (ByteArray × Int)) (k : Nat) : Int := (T[k]?.getD (ByteArray.empty, 0)).2
theorem tv_get : ∀ (T : List (ByteArray × Int)) (k : Nat), k < T.length → (tv T)[k * 2]? = some (.string (nm T k)) ∧ (tv T)[k * 2 + 1]? = some (.int .i64 (nn T k))
  | p :: T, 0, _ => ⟨rfl, rfl⟩
  | p :: T, k + 1, h => by
    have ih := tv_get T k (by simpa using h)
    have e : tv (p :: T) = [Value.string p.1, .int .i64 p.2] ++ tv T := rfl
    rw [e, List.getElem?_append_right (by simp; omega), List.getElem?_append_right (by simp; omega)]
    simp only [List.length_cons, List.length_nil]
    rw [show (k + 1) * 2 - (0 + 1 + 1) = k * 2 by omega, show (k + 1) * 2 + 1 - (0 + 1 + 1) = k * 2 + 1 by omega]
    exact ih
theorem tv_one (T : List (ByteArray × Int)) : ∀ u ∈ tv T, u.oneCell' = true := by
  intro u hu
  obtain ⟨p, _, hp⟩ := List.mem_flatMap.1 hu
  simp at hp
  rcases hp with rfl | rfl <;> rfl
theorem tv_set : ∀ (T : List (ByteArray × Int)) (k : Nat) (s : ByteArray) (n : Int), ((tv T).set (k * 2) (.string s)).set (k * 2 + 1) (.int .i64 n) = tv (T.set k (s, n))
  | [], k, s, n => by simp [tv]
  | p :: T, 0, s, n => rfl
  | p :: T, k + 1, s, n => by
    have ih := tv_set T k s n
    have e : tv (p :: T) = .string p.1 :: .int .i64 p.2 :: tv T := rfl
    rw [e, show (k + 1) * 2 = k * 2 + 1 + 1 by omega]
    simp only [List.set_cons_succ]
    rw [ih]
    rfl

/-- The slice v reads as these things. -/
def Ts (w : World) (v : Value) (T : List (ByteArray × Int)) : Prop :=
  ∃ (A : Option Addr) (c : Nat), v = .slice A T.length c ∧ T.length ≤ c ∧ c ≤ maxLen ∧ (A = none → c = 0) ∧
    ∀ ad, A = some ad → ∀ j u, (tv T)[j]? = some u → w.cell? (ad.add j) = some u
theorem Ts.grew {w w' : World} {v : Value} {T : List (ByteArray × Int)} (h : Ts w v T) (hg : Grew w w') : Ts w' v T := by
  obtain ⟨A, c, e, h1, h2, h3, h4⟩ := h
  exact ⟨A, c, e, h1, h2, h3, fun ad ha j u hu => cellG hg (h4 ad ha j u hu)⟩
theorem Ts.of_own {w : World} {v : Value} {T : List (ByteArray × Int)} {base n : Nat} (h : w.ownsRow base 43 2 v n (tv T)) (hn : n = T.length) : Ts w v T := by
  subst hn
  rcases h.2 with ⟨rfl, h0⟩ | ⟨g, cap, cur, rfl, hb, hg, hnc, hcm, _, _⟩
  · have : T = [] := List.eq_nil_of_length_eq_zero h0
    subst this
    exact ⟨none, 0, rfl, Nat.le_refl _, Nat.zero_le _, fun _ => rfl, fun ad ha => by cases ha⟩
  · exact ⟨_, cap, rfl, hnc, hcm, (fun h => by cases h), fun ad ha => by cases ha; exact h.cells (g := g) rfl⟩
theorem second (ad : Addr) (k : Nat) : (⟨(ad.add (k * 2)).block, (ad.add (k * 2)).off + 1, none⟩ : Addr) = ad.add (k * 2 + 1) := by
  unfold Addr.add
  by_cases h : k * 2 = 0
  · simp [h]
  · simp [h]
    omega
theorem Ts.cell {w : World} {v : Value} {T : List (ByteArray × Int)} (h : Ts w v T) {k : Nat} (hk : k < T.length) :
    ∃ ad c, v = .slice (some ad) T.length c ∧ T.length ≤ c ∧ w.cell? (ad.add (k * 2)) = some (.string (nm T k)) ∧ w.cell? ⟨(ad.add (k * 2)).block, (ad.add (k * 2)).off + 1, none⟩ = some (.int .i64 (nn T k)) := by
  obtain ⟨A, c, rfl, h1, h2, h3, h4⟩ := h
  cases A with
  | none => have := h3 rfl; omega
  | some ad =>
    obtain ⟨g1, g2⟩ := tv_get T k hk
    refine ⟨ad, c, rfl, h1, h4 ad rfl _ _ g1, ?_⟩
    rw [second]
    exact h4 ad rfl _ _ g2

theorem info43 : (Try.prog.info? 43).map (fun i => (i.zero, i.size, i.bytes)) = some (some (.agg #[.string ⟨#[]⟩, .int .i64 0]), 2, 24) := by kernel_rfl

theorem app_row (W : World) (base : Nat) (v : Value) (l m : List (ByteArray × Int)) (ad : Addr) (c : Nat) (hown : W.ownsRow base 43 2 v l.length (tv l)) (hm : ∀ j u, (tv m)[j]? = some u → W.cell? (ad.add j) = some u) (hl : (l.length + m.length) * 24 ≤ 140737488355328) (hb : base ≤ W.heap.size) :
    ∃ v' w', (Builtin.append_ #[41, 41] 41 #[v, .slice (some ad) m.length c]).run Try.prog W = .ok v' w' ∧ w'.ownsRow base 43 2 v' (l ++ m).length (tv (l ++ m)) ∧ Below base W w' := by
  obtain ⟨i0, hi, hx⟩ := Option.map_eq_some_iff.1 info43
  simp only [Prod.mk.injEq] at hx
  obtain ⟨hz0, hz1, hz2⟩ := hx
  obtain ⟨v', w', hr, h5, h6, _⟩ := run_append_own (P := Try.prog) W base 41 41 43 i0 (.agg #[.string ⟨#[]⟩, .int .i64 0]) 2 24 Try.underlying41 hi hz0 hz1 hz2 rfl (by decide) v l.length (tv l) hown ad m.length c (tv m) (tv_length m) hm (tv_one m) (by unfold maxLen; omega) (by omega) hb
  refine ⟨v', w', hr, by rw [List.length_append]; unfold tv at *; rw [List.flatMap_append]; exact h5, ?_⟩
  exact below_of_grown W h6 hb fun k hk => by
    rcases hown.2 with ⟨rfl, _⟩ | ⟨g, cap, cur, rfl, hg, _⟩
    · simp [Value.ownBlock] at hk
    · simp [Value.ownBlock] at hk
      omega

/-- A clone. -/
theorem clone_any (w : World) (v : Value) (T : List (ByteArray × Int)) (h : Ts w v T) (hl : T.length * 24 ≤ 140737488355328) :
    Calls Try.prog 26 #[v] w fun e w' => ∃ v', e = .returned v' ∧ w'.ownsRow w.heap.size 43 2 v' T.length (tv T) ∧ Grew w w' := by
  obtain ⟨A, c, rfl, h1, h2, h3, h4⟩ := h
  have q41 : ∀ (w : World) (a : Option Addr) (n c n' c' : Nat), (binOp .eql 41 (.slice a n c) (.slice none n' c')).run Try.prog w = .ok (.bool a.isNone) w := fun w a n c n' c' => Lib.run_eql_slice_nil w _ _ a n c n' c' Try.underlying41
  cases A with
  | none =>
    have h0 := h3 rfl
    have hn : T = [] := List.eq_nil_of_length_eq_zero (by omega)
    subst hn
    have HO := Lib.hid (World.ownsRow_nil w w.heap.size 43 2)
    clear h4 h3 h1 h2 h0
    go_enter Try.func26, Try.ntmps26
    go_wp2
    go_returns
    exact ⟨_, rfl, HO.out, Grew.refl _⟩
  | some ad =>
    have hown : (w.alloc (.cells #[] 43)).ownsRow w.heap.size 43 2 (.slice (some ⟨w.heap.size, 0, none⟩) 0 0) ([] : List (ByteArray × Int)).length (tv []) :=
      ⟨rfl, .inr ⟨w.heap.size, 0, #[], rfl, Nat.le_refl _, heap_alloc_new w _, Nat.le_refl _, Nat.zero_le _, rfl, rfl⟩⟩
    have ga : Grew w (w.alloc (.cells #[] 43)) := by unfold Grew; go_grown
    obtain ⟨v', w', hr, h5, h6⟩ := app_row (w.alloc (.cells #[] 43)) w.heap.size _ [] T ad c hown (fun j u hu => cellG ga (h4 ad rfl j u hu)) (by simpa using hl) (by simp)
    rw [List.nil_append] at h5
    have HR := Lib.hid hr
    have HO := Lib.hid h5
    have HG : Hid (Grew w w') := Lib.hid ((show Below w.heap.size w _ from ga).trans h6)
    clear hown ga hr h5 h6 h4 h3
    go_enter Try.func26, Try.ntmps26
    go_wp2_with (at_builtin; refine wpList_app_want (.tmp 5) (.tmp 6) 41 (by rfl) (by rfl) _ _ rfl rfl v' w' (by exact HR.out) ?_)
    go_returns
    exact ⟨_, rfl, HO.out, HG.out⟩

/-- Has it a name? -/
def named (s : ByteArray) : Bool := !s.toList.isEmpty
theorem named_any (s : ByteArray) (n : Int) (w : World) : Calls Try.prog 20 #[.agg #[.string s, .int .i64 n]] w fun e w' => e = .returned (.bool (named s)) ∧ Grew w w' := by
  unfold named
  go_enter Try.func20, Try.ntmps20
  go_wp2
  go_returns
  trace_state
  exact ⟨rfl, by unfold Grew; go_grown⟩
end Go.Proofs.Ytojoefdahkgojab.Things
