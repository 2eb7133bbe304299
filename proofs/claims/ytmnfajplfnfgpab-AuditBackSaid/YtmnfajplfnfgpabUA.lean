/-
  Rows of entries.
  Conditions: those that each lemma names.
-/
import Derived.Test.YtmnfajplfnfgpabPA
import Derived.Lib.Hide
namespace Go.Proofs.Ytmnfajplfnfgpab.UA
set_option maxRecDepth 100000
open Go Go.RowKit Go.Lib Go.Proofs.Ytmnfajplfnfgpab Go.Proofs.Ytmnfajplfnfgpab.Facts Go.Proofs.Ytmnfajplfnfgpab.Ints Go.Proofs.Ytmnfajplfnfgpab.PA Go.Proofs.Ytmnfajplfnfgpab.Bytes


structure En where
  round : Nat
  line : Int
  label : Int
  who : Int
  side : Int
  base : Int
  quote : Int
  qty : Nat
  price : Nat
  slot : Int
deriving DecidableEq
def ecs (x : En) : List Value := [.int .u64 x.round, .int .i64 x.line, .int .i64 x.label, .int .i64 x.who, .int .i64 x.side, .int .i64 x.base, .int .i64 x.quote, .int .u64 x.qty, .int .u64 x.price, .int .i64 x.slot]
def env (x : En) : Value := .agg #[.int .u64 x.round, .int .i64 x.line, .int .i64 x.label, .int .i64 x.who, .int .i64 x.side, .int .i64 x.base, .int .i64 x.quote, .int .u64 x.qty, .int .u64 x.price, .int .i64 x.slot]
abbrev Ens (w : World) (v : Value) (l : List En) : Prop := Rw w v l.length (l.flatMap ecs)
theorem Ens_at {w : World} {v : Value} {l : List En} (h : Ens w v l) {k : Nat} {x : En} (hk : l[k]? = some x) :
    ∃ ad c, v = .slice (some ad) l.length c ∧ l.length ≤ c ∧ w.cell? (ad.add (k * 10)) = some (.int .u64 x.round) ∧ w.cell? ⟨(ad.add (k * 10)).block, (ad.add (k * 10)).off + 1, none⟩ = some (.int .i64 x.line) ∧ w.cell? ⟨(ad.add (k * 10)).block, (ad.add (k * 10)).off + 2, none⟩ = some (.int .i64 x.label) ∧ w.cell? ⟨(ad.add (k * 10)).block, (ad.add (k * 10)).off + 3, none⟩ = some (.int .i64 x.who) ∧ w.cell? ⟨(ad.add (k * 10)).block, (ad.add (k * 10)).off + 4, none⟩ = some (.int .i64 x.side) ∧ w.cell? ⟨(ad.add (k * 10)).block, (ad.add (k * 10)).off + 5, none⟩ = some (.int .i64 x.base) ∧ w.cell? ⟨(ad.add (k * 10)).block, (ad.add (k * 10)).off + 6, none⟩ = some (.int .i64 x.quote) ∧ w.cell? ⟨(ad.add (k * 10)).block, (ad.add (k * 10)).off + 7, none⟩ = some (.int .u64 x.qty) ∧ w.cell? ⟨(ad.add (k * 10)).block, (ad.add (k * 10)).off + 8, none⟩ = some (.int .u64 x.price) ∧ w.cell? ⟨(ad.add (k * 10)).block, (ad.add (k * 10)).off + 9, none⟩ = some (.int .i64 x.slot) := by
  obtain ⟨ad, c, e, hc, h0, h1⟩ := Rw.at (f := ecs) (n := 10) (fun _ => rfl) h hk (by decide)
  exact ⟨ad, c, e, hc, h0 _ rfl, h1 1 _ (by decide) rfl, h1 2 _ (by decide) rfl, h1 3 _ (by decide) rfl, h1 4 _ (by decide) rfl, h1 5 _ (by decide) rfl, h1 6 _ (by decide) rfl, h1 7 _ (by decide) rfl, h1 8 _ (by decide) rfl, h1 9 _ (by decide) rfl⟩
def zen : En := ⟨0, 0, 0, 0, 0, 0, 0, 0, 0, 0⟩
def ee (l : List En) (k : Nat) : En := l[k]?.getD zen
theorem ee_get {l : List En} {k : Nat} (hk : k < l.length) : l[k]? = some (ee l k) := by unfold ee; rw [List.getElem?_eq_getElem hk]; rfl
theorem ecs_len (l : List En) : (l.flatMap ecs).length = l.length * 10 := flat_len ecs 10 (fun _ => rfl) l
theorem ecs_one (l : List En) : ∀ u ∈ l.flatMap ecs, u.oneCell' = true := flat_one ecs (fun x u hu => by
  simp only [ecs, List.mem_cons, List.not_mem_nil, or_false] at hu
  rcases hu with rfl | rfl | rfl | rfl | rfl | rfl | rfl | rfl | rfl | rfl <;> rfl) l
theorem info25 : (Try.prog.info? 25).map (fun i => (i.zero, i.size, i.bytes)) = some (some (.agg #[.int .u64 0, .int .i64 0, .int .i64 0, .int .i64 0, .int .i64 0, .int .i64 0, .int .i64 0, .int .u64 0, .int .u64 0, .int .i64 0]), 10, 80) := by kernel_rfl
abbrev OwnE (w : World) (base : Nat) (v : Value) (l : List En) : Prop := w.ownsRow base 25 10 v l.length (l.flatMap ecs)
theorem Ens.of_own {w : World} {v : Value} {l : List En} {base : Nat} (h : OwnE w base v l) : Ens w v l := Rw.of_own h fun h => by rw [List.eq_nil_of_length_eq_zero h]; rfl
theorem en_app (W : World) (base : Nat) (v : Value) (l m : List En) (ad : Addr) (c : Nat) (hown : OwnE W base v l) (hm : ∀ j u, (m.flatMap ecs)[j]? = some u → W.cell? (ad.add j) = some u) (hl : (l.length + m.length) * 80 ≤ 140737488355328) (hb : base ≤ W.heap.size) :
    ∃ v' w', (Builtin.append_ #[22, 22] 22 #[v, .slice (some ad) m.length c]).run Try.prog W = .ok v' w' ∧ OwnE w' base v' (l ++ m) ∧ Below base W w' := by
  obtain ⟨i0, hi, hx⟩ := Option.map_eq_some_iff.1 info25
  simp only [Prod.mk.injEq] at hx
  obtain ⟨hz0, hz1, hz2⟩ := hx
  obtain ⟨v', w', hr, h5, h6, _⟩ := run_append_own (P := Try.prog) W base 22 22 25 i0 (.agg #[.int .u64 0, .int .i64 0, .int .i64 0, .int .i64 0, .int .i64 0, .int .i64 0, .int .i64 0, .int .u64 0, .int .u64 0, .int .i64 0]) 10 80 Try.underlying22 hi hz0 hz1 hz2 rfl (by decide) v l.length (l.flatMap ecs) hown ad m.length c (m.flatMap ecs) (ecs_len m) hm (ecs_one m) (by unfold maxLen; omega) (by omega) hb
  refine ⟨v', w', hr, by unfold OwnE; rw [List.length_append, List.flatMap_append]; exact h5, ?_⟩
  exact below_of_grown W h6 hb fun k hk => by
    rcases hown.2 with ⟨rfl, _⟩ | ⟨g, cap, cur, rfl, hg, _⟩
    · simp [Value.ownBlock] at hk
    · simp [Value.ownBlock] at hk
      omega

theorem ecs_set (x : En) : ∀ (T : List En) (k : Nat), (((((((((((T.flatMap ecs).set (k * 10) (.int .u64 x.round)).set (k * 10 + 1) (.int .i64 x.line)).set (k * 10 + 2) (.int .i64 x.label)).set (k * 10 + 3) (.int .i64 x.who)).set (k * 10 + 4) (.int .i64 x.side)).set (k * 10 + 5) (.int .i64 x.base)).set (k * 10 + 6) (.int .i64 x.quote)).set (k * 10 + 7) (.int .u64 x.qty)).set (k * 10 + 8) (.int .u64 x.price)).set (k * 10 + 9) (.int .i64 x.slot)) = (T.set k x).flatMap ecs
  | [], k => by simp
  | y :: T, 0 => by
    simp only [List.flatMap_cons, List.set_cons_zero]
    rfl
  | y :: T, k + 1 => by
    have ih := ecs_set x T k
    have e : (y :: T).flatMap ecs = .int .u64 y.round :: .int .i64 y.line :: .int .i64 y.label :: .int .i64 y.who :: .int .i64 y.side :: .int .i64 y.base :: .int .i64 y.quote :: .int .u64 y.qty :: .int .u64 y.price :: .int .i64 y.slot :: T.flatMap ecs := rfl
    rw [e, show (k + 1) * 10 = k * 10 + 1 + 1 + 1 + 1 + 1 + 1 + 1 + 1 + 1 + 1 by omega]
    simp only [show ∀ j : Nat, k * 10 + 1 + 1 + 1 + 1 + 1 + 1 + 1 + 1 + 1 + 1 + j = (k * 10 + j) + 1 + 1 + 1 + 1 + 1 + 1 + 1 + 1 + 1 + 1 from fun j => by omega, List.set_cons_succ]
    rw [ih]
    rfl
theorem en_cells {W : World} {B : Nat} {x : En} (h : W.heap[B]? = some (.cells #[.int .u64 x.round, .int .i64 x.line, .int .i64 x.label, .int .i64 x.who, .int .i64 x.side, .int .i64 x.base, .int .i64 x.quote, .int .u64 x.qty, .int .u64 x.price, .int .i64 x.slot] 25 (0, 0))) :
    W.cell? ⟨B, 0, none⟩ = some (.int .u64 x.round) ∧ W.cell? ⟨B, 1, none⟩ = some (.int .i64 x.line) ∧ W.cell? ⟨B, 2, none⟩ = some (.int .i64 x.label) ∧ W.cell? ⟨B, 3, none⟩ = some (.int .i64 x.who) ∧ W.cell? ⟨B, 4, none⟩ = some (.int .i64 x.side) ∧ W.cell? ⟨B, 5, none⟩ = some (.int .i64 x.base) ∧ W.cell? ⟨B, 6, none⟩ = some (.int .i64 x.quote) ∧ W.cell? ⟨B, 7, none⟩ = some (.int .u64 x.qty) ∧ W.cell? ⟨B, 8, none⟩ = some (.int .u64 x.price) ∧ W.cell? ⟨B, 9, none⟩ = some (.int .i64 x.slot) := by
  refine ⟨?_, ?_, ?_, ?_, ?_, ?_, ?_, ?_, ?_, ?_⟩
  all_goals rw [cell_of_row _ _ _ _ _ _ h]; rfl

theorem ten_c {W : World} {B t : Nat} {a b c d e f g h i j : Value} (hb : W.heap[B]? = some (.cells #[a, b, c, d, e, f, g, h, i, j] t (0, 0))) :
    W.cell? ⟨B, 0, none⟩ = some a ∧ W.cell? ⟨B, 1, none⟩ = some b ∧ W.cell? ⟨B, 2, none⟩ = some c ∧ W.cell? ⟨B, 3, none⟩ = some d ∧ W.cell? ⟨B, 4, none⟩ = some e ∧ W.cell? ⟨B, 5, none⟩ = some f ∧ W.cell? ⟨B, 6, none⟩ = some g ∧ W.cell? ⟨B, 7, none⟩ = some h ∧ W.cell? ⟨B, 8, none⟩ = some i ∧ W.cell? ⟨B, 9, none⟩ = some j := by
  refine ⟨?_, ?_, ?_, ?_, ?_, ?_, ?_, ?_, ?_, ?_⟩
  all_goals rw [cell_of_row _ _ _ _ _ _ hb]; rfl
theorem dec10 (x y : En) : decide (x = y) = (decide (x.round = y.round) && (decide (x.line = y.line) && (decide (x.label = y.label) && (decide (x.who = y.who) && (decide (x.side = y.side) && (decide (x.base = y.base) && (decide (x.quote = y.quote) && (decide (x.qty = y.qty) && (decide (x.price = y.price) && decide (x.slot = y.slot)))))))))) := by
  cases x
  cases y
  rw [Bool.eq_iff_iff]
  simp [En.mk.injEq]
theorem eqE (x : En) (W : World) : (binOp .eql 25 (env x) (env x)).run Try.prog W = .ok (.bool true) W := by
  unfold env
  go_simp
  try simp
theorem neE (x : En) (W : World) : (binOp .neq 25 (env x) (env x)).run Try.prog W = .ok (.bool false) W := by
  unfold env
  go_simp
  try simp
end Go.Proofs.Ytmnfajplfnfgpab.UA
