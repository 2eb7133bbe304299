/-
  Rows of numbers, as they are read; whether two are the same.
  Conditions: a row's size.
-/
import Derived.Test.YthgigkklefaeeaaBytes
import Derived.Handy
import Derived.Deep.LoopGhost
import Derived.WalkMore
import Derived.BigFrame
import Derived.Lib.SliceRun
import Derived.Test.YthgigkklefaeeaaProg
namespace Go.Proofs.Ythgigkklefaeeaa.Ints
set_option maxRecDepth 100000
set_option maxRecDepth 100000
open Go Go.RowKit Go.Lib Go.Proofs.Ythgigkklefaeeaa Go.Proofs.Ythgigkklefaeeaa.Facts Go.Proofs.Ythgigkklefaeeaa.Bytes

def iv (l : List Int) : List Value := l.map (Value.int .i64)
theorem iv_length (l : List Int) : (iv l).length = l.length := by simp [iv]
theorem iv_append (l m : List Int) : iv (l ++ m) = iv l ++ iv m := by simp [iv]
theorem iv_one (l : List Int) : ∀ u ∈ iv l, u.oneCell' = true := by
  intro u hu
  obtain ⟨b, _, rfl⟩ := List.mem_map.1 hu
  rfl
theorem iv_get (l : List Int) (j : Nat) (h : j < l.length) : (iv l)[j]? = some (.int .i64 (l[j]?.getD 0)) := by
  simp [iv, h]

/-- The slice v reads as the numbers l. -/
def Is (w : World) (v : Value) (l : List Int) : Prop :=
  ∃ (A : Option Addr) (c : Nat), v = .slice A l.length c ∧ l.length ≤ c ∧ c ≤ maxLen ∧ (A = none → c = 0) ∧
    ∀ ad, A = some ad → ∀ j u, (iv l)[j]? = some u → w.cell? (ad.add j) = some u
theorem cellG {w w' : World} {a : Addr} {v : Value} (hg : Grew w w') (h : w.cell? a = some v) : w'.cell? a = some v :=
  (hg.cell (World.block_lt_of_cell? _ _ h)).trans h
theorem Is.grew {w w' : World} {v : Value} {l : List Int} (h : Is w v l) (hg : Grew w w') : Is w' v l := by
  obtain ⟨A, c, e, h1, h2, h3, h4⟩ := h
  exact ⟨A, c, e, h1, h2, h3, fun ad ha j u hu => cellG hg (h4 ad ha j u hu)⟩
theorem Is.of_own {w : World} {v : Value} {l : List Int} {base n : Nat} (h : w.ownsRow base 3 1 v n (iv l)) (hn : n = l.length) : Is w v l := by
  subst hn
  rcases h.2 with ⟨rfl, h0⟩ | ⟨g, cap, cur, rfl, hb, hg, hnc, hcm, _, _⟩
  · have : l = [] := List.eq_nil_of_length_eq_zero h0
    subst this
    exact ⟨none, 0, rfl, Nat.le_refl _, Nat.zero_le _, fun _ => rfl, fun ad ha => by cases ha⟩
  · exact ⟨_, cap, rfl, hnc, hcm, (fun h => by cases h), fun ad ha => by cases ha; exact h.cells (g := g) rfl⟩
theorem Is.cell {w : World} {v : Value} {l : List Int} (h : Is w v l) {k : Nat} (hk : k < l.length) : ∃ ad c, v = .slice (some ad) l.length c ∧ l.length ≤ c ∧ w.cell? (ad.add k) = some (.int .i64 (l[k]?.getD 0)) := by
  obtain ⟨A, c, rfl, h1, h2, h3, h4⟩ := h
  cases A with
  | none => have := h3 rfl; omega
  | some ad => exact ⟨ad, c, rfl, h1, h4 ad rfl k _ (iv_get l k hk)⟩

theorem info3 : (Try.prog.info? 3).map (fun i => (i.zero, i.size, i.bytes)) = some (some (.int .i64 0), 1, 8) := by kernel_rfl

theorem wpList_app_want {P : Program} {w : World} {ops : Array Oper} {rest : List Oper} {o : Oper} {ac : Act} {Q : Exit → Act → World → Prop} (s x : Operand) (t : TypeId)
    (ho : o.op = .call { callee := .builtin .append, args := #[s, x], argTypes := #[t, t] }) (hgd : Region.wanted o (yielded ops ac.tmps) = true) (vs vx : Value) (hs : ac.eval s = vs) (hx : ac.eval x = vx) (v' : Value) (w' : World)
    (hr : (Builtin.append_ #[t, t] o.type #[vs, vx]).run P w = .ok v' w') (hK : wpList P ops Q rest (ac.put o.dst v') w') : wpList P ops Q (o :: rest) ac w := by
  refine BigFrame.wpList_want hgd fun _ hK' => ?_
  unfold Oper.wp execOp
  simp only [ho, resolve, invoke, builtin, Sem.run_bind, Sem.run_pure, Result.andThen_ok, List.map_toArray, List.map_cons, List.map_nil, hs, hx, hr]
  exact hK' _ _ hK

theorem grown_below {W w' : World} {base : Nat} {v : Value} {n : Nat} {xs : List Value} (hown : W.ownsRow base 3 1 v n xs) (h6 : W.grownBy w' v.ownBlock) (hb : base ≤ W.heap.size) : Below base W w' :=
  below_of_grown W h6 hb fun k hk => by
    rcases hown.2 with ⟨rfl, _⟩ | ⟨g, cap, cur, rfl, hg, _⟩
    · simp [Value.ownBlock] at hk
    · simp [Value.ownBlock] at hk
      omega

theorem own_nil (w : World) (base : Nat) : w.ownsRow base 3 1 (.slice none 0 0) 0 (iv []) := World.ownsRow_nil w base 3 1

end Go.Proofs.Ythgigkklefaeeaa.Ints
