/-
  Where the document's posting stands, in memory.
  Conditions: those that each lemma names.
-/
import Derived.Test.YtmnfajplfnfgpaaOPA
import Derived.Test.YtmnfajplfnfgpaaOLA
import Derived.Test.YtmnfajplfnfgpaaOP
import Derived.Lib.Hide
namespace Go.Proofs.Ytmnfajplfnfgpaa.OPB
set_option maxRecDepth 100000
open Go Go.RowKit Go.Lib Go.Proofs.Ytmnfajplfnfgpaa Go.Proofs.Ytmnfajplfnfgpaa.Facts Go.Proofs.Ytmnfajplfnfgpaa.Ints Go.Proofs.Ytmnfajplfnfgpaa.PA Go.Proofs.Ytmnfajplfnfgpaa.UM Go.Proofs.Ytmnfajplfnfgpaa.UB Go.Proofs.Ytmnfajplfnfgpaa.OA Go.Proofs.Ytmnfajplfnfgpaa.OP Go.Proofs.Ytmnfajplfnfgpaa.BP Go.Proofs.Ytmnfajplfnfgpaa.BQ Go.Proofs.Ytmnfajplfnfgpaa.OF Go.Proofs.Ytmnfajplfnfgpaa.OG Go.Proofs.Ytmnfajplfnfgpaa.OK Go.Proofs.Ytmnfajplfnfgpaa.OLA Go.Proofs.Ytmnfajplfnfgpaa.Bytes

theorem ownO_of {W W' : World} {b : Nat} {v : Value} {T : List Or} (h : OwnO W b v T) (hk : ∀ g C, b ≤ g → W.heap[g]? = some (.cells C 26 (0, 0)) → W'.heap[g]? = some (.cells C 26 (0, 0))) : OwnO W' b v T := by
  refine ⟨h.1, ?_⟩
  rcases h.2 with h0 | ⟨g, cap, cur, h1, h2, h3, h4⟩
  · exact .inl h0
  · exact .inr ⟨g, cap, cur, h1, h2, hk g cur h2 h3, h4⟩
/-- The order's box, the list, and the fills. -/
structure LS (w : World) (B : Nat) (o : Or) (v9 v10 : Value) (now : List Or) (fs : List Fi) (W : World) : Prop where
  bx : Bx W B o
  ow : OwnO W (B + 1) v9 now
  off : OwnF W (B + 1) v10 fs
  gr : Below B w W
theorem LS.grew {w : World} {B : Nat} {o : Or} {v9 v10 : Value} {now : List Or} {fs : List Fi} {W W' : World} (h : LS w B o v9 v10 now fs W) (hg : Grew W W') : LS w B o v9 v10 now fs W' :=
  ⟨h.bx.grew hg, ownO_of h.ow fun _ _ _ k => keepB k hg, ownF_kept h.off fun _ _ _ k => keepB k hg, h.gr.trans (Below.mono hg (Nat.le_of_lt h.bx.lt))⟩
theorem LS.set {w : World} {B : Nat} {o o' : Or} {v9 v10 : Value} {now : List Or} {fs : List Fi} {W : World} (k : Nat) (v : Value) (h : LS w B o v9 v10 now fs W) (hc : (ocs o).toArray.modify k (fun _ => v) = (ocs o').toArray) : LS w B o' v9 v10 now fs (W.setCell ⟨B, k, none⟩ v) := by
  have hg := grown_set W B k v
  refine ⟨?_, ownO_of h.ow fun g C hb hC => box_kept hC hg (by omega), ownF_kept h.off fun g C hb hC => box_kept hC hg (by omega), below_at h.gr hg (Nat.le_refl _) (Nat.le_of_lt h.bx.lt)⟩
  have := bset (k := k) v h.bx
  unfold Bx
  rw [this, hc]
theorem LS.left {w : World} {B : Nat} {o : Or} {v9 v10 : Value} {now : List Or} {fs : List Fi} {W : World} (h : LS w B o v9 v10 now fs W) (n : Nat) : LS w B { o with left := n } v9 v10 now fs (W.setCell ⟨B, 7, none⟩ (.int .u64 (n : Int))) := h.set 7 _ rfl
theorem LS.used {w : World} {B : Nat} {o : Or} {v9 v10 : Value} {now : List Or} {fs : List Fi} {W : World} (h : LS w B o v9 v10 now fs W) (b : Bool) : LS w B { o with used := b } v9 v10 now fs (W.setCell ⟨B, 0, none⟩ (.bool b)) := h.set 0 _ rfl
theorem LS.res {w : World} {B : Nat} {o : Or} {v9 v10 : Value} {now : List Or} {fs : List Fi} {W : World} (h : LS w B o v9 v10 now fs W) (n : Nat) : LS w B { o with res := n } v9 v10 now fs (W.setCell ⟨B, 8, none⟩ (.int .u64 (n : Int))) := h.set 8 _ rfl
theorem LS.store {w : World} {B : Nat} {o : Or} {g n c : Nat} {v10 : Value} {now : List Or} {fs : List Fi} {W : World} (h : LS w B o (.slice (some ⟨g, 0, none⟩) n c) v10 now fs W) (hn : n = now.length) {k : Nat} (hk : k < now.length) (x : Or) :
    ∃ W', (Instr.storeAt 26 (.pointer (some ⟨g, k * 10, none⟩)) (orv x)).run Try.prog W = .ok () W' ∧ LS w B o (.slice (some ⟨g, 0, none⟩) n c) v10 (now.set k x) fs W' := by
  obtain ⟨W', hr, ho, hg⟩ := own_store h.ow hn hk x
  obtain ⟨C, hC⟩ := own_g h.ow
  have hb : B + 1 ≤ g := by
    rcases h.ow.2 with ⟨e, _⟩ | ⟨g', cap, cur, e, h2, _⟩
    · cases e
    · injection e with e1 _ _
      injection e1 with e1
      injection e1 with e1
      omega
  refine ⟨W', hr, box_kept h.bx hg (by omega), ho, ownF_kept h.off fun j C' _ hC' => box_kept hC' hg fun e => ?_, below_at h.gr hg (by omega) (Nat.le_of_lt h.bx.lt)⟩
  subst e
  rw [hC] at hC'
  cases hC'
theorem LS.app {w : World} {B : Nat} {o : Or} {v9 v10 : Value} {now : List Or} {fs : List Fi} {W : World} (h : LS w B o v9 v10 now fs W) (x : Fi) (hl : (fs.length + 1) * 24 ≤ 140737488355328) :
    ∃ v' W', (Builtin.append_ #[39, 39] 39 #[v10, .slice (some ⟨W.heap.size, 0, none⟩) 1 1]).run Try.prog (W.alloc (.cells #[.int .i64 x.slot, .int .u64 x.qty, .int .u64 x.price] 47)) = .ok v' W' ∧ LS w B o v9 v' now (fs ++ [x]) W' := by
  obtain ⟨v', W', hr, ho, hg⟩ := fi_app1 W (B + 1) v10 fs x h.off hl h.bx.lt
  refine ⟨v', W', hr, keep_app h.bx (by decide) h.off hg, ownO_of h.ow fun g C _ hC => keep_app hC (by decide) h.off hg, ho, ?_⟩
  have hal : Grew W (W.alloc (.cells #[.int .i64 x.slot, .int .u64 x.qty, .int .u64 x.price] 47)) := by unfold Grew; exact (Below.refl _ _).alloc (Nat.le_refl _) _
  have h1 : Below B w (W.alloc (.cells #[.int .i64 x.slot, .int .u64 x.qty, .int .u64 x.price] 47)) := h.gr.trans (Below.mono hal (Nat.le_of_lt h.bx.lt))
  refine h1.grown hg (by have := h.bx.lt; simp; omega) fun j e => ?_
  rcases h.off.2 with ⟨e2, _⟩ | ⟨g, cap, cur, e2, h2, _⟩
  · rw [e2] at e; cases e
  · rw [e2] at e
    have e3 : some g = some j := e
    injection e3 with e3
    omega
theorem LS.start {w : World} {B : Nat} {o : Or} {v9 : Value} {now : List Or} {W : World} (hb : Bx W B o) (ho : OwnO W (B + 1) v9 now) (hg : Below B w W) : LS w B o v9 (.slice none 0 0) now [] W := ⟨hb, ho, World.ownsRow_nil _ _ _ _, hg⟩
theorem LS.fis {w : World} {B : Nat} {o : Or} {v9 v10 : Value} {now : List Or} {fs : List Fi} {W : World} (h : LS w B o v9 v10 now fs W) : Fis W v10 fs := Fis.of_own h.off
/-- A row's order, field by field. -/
theorem own_ten {W : World} {b g n c : Nat} {now : List Or} {x : Or} (h : OwnO W b (.slice (some ⟨g, 0, none⟩) n c) now) (hn : n = now.length) {k : Nat} (hk : k < now.length) (hx : eo now k = x) :
    W.cell? ⟨g, k * 10, none⟩ = some (.bool x.used) ∧ W.cell? ⟨g, k * 10 + 1, none⟩ = some (.int .i64 x.label) ∧ W.cell? ⟨g, k * 10 + 2, none⟩ = some (.int .i64 x.who) ∧ W.cell? ⟨g, k * 10 + 3, none⟩ = some (.int .i64 x.side) ∧ W.cell? ⟨g, k * 10 + 4, none⟩ = some (.int .i64 x.base) ∧ W.cell? ⟨g, k * 10 + 5, none⟩ = some (.int .i64 x.quote) ∧ W.cell? ⟨g, k * 10 + 6, none⟩ = some (.int .u64 (x.price : Int)) ∧ W.cell? ⟨g, k * 10 + 7, none⟩ = some (.int .u64 (x.left : Int)) ∧ W.cell? ⟨g, k * 10 + 8, none⟩ = some (.int .u64 (x.res : Int)) ∧ W.cell? ⟨g, k * 10 + 9, none⟩ = some (.int .i64 x.seq) := by
  subst hn hx
  have H : ∀ j, j < 10 → W.cell? ⟨g, k * 10 + j, none⟩ = (ocs (eo now k))[j]? := fun j hj => by
    rw [h.cellAt (k * 10 + j) (by omega), flat_get ocs 10 (fun _ => rfl) now k j (eo now k) (eo_get hk) hj]
  refine ⟨(H 0 (by decide)), H 1 (by decide), H 2 (by decide), H 3 (by decide), H 4 (by decide), H 5 (by decide), H 6 (by decide), H 7 (by decide), H 8 (by decide), H 9 (by decide)⟩
end Go.Proofs.Ytmnfajplfnfgpaa.OPB
