/-
  The small realm of the fixed calls.
  Conditions: none.
-/
import Derived.Test.YtmegdgeiikhflaaGreatHN
namespace Go.Proofs.YtmegdgeiikhflaaGreat.HS
open Go Go.RowKit Go.Lib Go.Proofs.YtmegdgeiikhflaaGreat Go.Proofs.YtmegdgeiikhflaaGreat.Facts Go.Proofs.YtmegdgeiikhflaaGreat.Plain Go.Proofs.YtmegdgeiikhflaaGreat.Ints Go.Proofs.YtmegdgeiikhflaaGreat.RRows Go.Proofs.YtmegdgeiikhflaaGreat.LBox Go.Proofs.YtmegdgeiikhflaaGreat.RSmall Go.Proofs.YtmegdgeiikhflaaGreat.RFind Go.Proofs.YtmegdgeiikhflaaGreat.RAll Go.Proofs.YtmegdgeiikhflaaGreat.RRules Go.Proofs.YtmegdgeiikhflaaGreat.RRule3 Go.Proofs.YtmegdgeiikhflaaGreat.RRight Go.Proofs.YtmegdgeiikhflaaGreat.HA Go.Proofs.YtmegdgeiikhflaaGreat.HB Go.Proofs.YtmegdgeiikhflaaGreat.HG Go.Proofs.YtmegdgeiikhflaaGreat.HC Go.Proofs.YtmegdgeiikhflaaGreat.HD Go.Proofs.YtmegdgeiikhflaaGreat.HN

def q2 : Qu := ⟨2, 2, 2, 2, 2, 1000#64⟩
def small : Re := { labels := [⟨0, 0#64⟩, ⟨0, 1#64⟩, ⟨1, 1#64⟩], lines := [0, 1, 2], accounts := [⟨⟨#[97, 110, 110]⟩, ⟨#[97]⟩, 1, true⟩, ⟨⟨#[98, 111, 98]⟩, ⟨#[98]⟩, 0, false⟩], guilds := [⟨0, 0⟩], quotas := [q2, q2, q2], orders := 4, audits := 6, rate := 2, rounds := 3 }
theorem row_of {w : World} {b n t : Nat} {xs : List Value} (h : w.heap[b]? = some (.cells xs.toArray t (0, 0))) (hn : n ≤ maxLen) : Rw w (.slice (some ⟨b, 0, none⟩) n n) n xs := by
  refine ⟨some ⟨b, 0, none⟩, n, rfl, Nat.le_refl _, hn, (fun h => by cases h), fun ad ha j u hu => ?_⟩
  cases ha
  rw [addr_zero, cell_of_row _ _ _ _ _ _ h, List.getElem?_toArray]
  exact hu
theorem seven (w : World) (a b c d e f g : Obj) : (((((((w.alloc a).alloc b).alloc c).alloc d).alloc e).alloc f).alloc g).heap[w.heap.size]? = some a ∧ (((((((w.alloc a).alloc b).alloc c).alloc d).alloc e).alloc f).alloc g).heap[w.heap.size + 1 + 1]? = some c ∧ (((((((w.alloc a).alloc b).alloc c).alloc d).alloc e).alloc f).alloc g).heap[w.heap.size + 1 + 1 + 1]? = some d ∧ (((((((w.alloc a).alloc b).alloc c).alloc d).alloc e).alloc f).alloc g).heap[w.heap.size + 1 + 1 + 1 + 1]? = some e ∧ (((((((w.alloc a).alloc b).alloc c).alloc d).alloc e).alloc f).alloc g).heap[w.heap.size + 1 + 1 + 1 + 1 + 1]? = some f ∧ (((((((w.alloc a).alloc b).alloc c).alloc d).alloc e).alloc f).alloc g).heap[w.heap.size + 1 + 1 + 1 + 1 + 1 + 1]? = some g := by
  refine ⟨?_, ?_, ?_, ?_, ?_, ?_⟩
  · exact (heap_alloc_old _ _ (by first | (simp; done) | (simp; omega))).trans ((heap_alloc_old _ _ (by first | (simp; done) | (simp; omega))).trans ((heap_alloc_old _ _ (by first | (simp; done) | (simp; omega))).trans ((heap_alloc_old _ _ (by first | (simp; done) | (simp; omega))).trans ((heap_alloc_old _ _ (by first | (simp; done) | (simp; omega))).trans ((heap_alloc_old _ _ (by simp)).trans (heap_alloc_new _ _))))))
  · exact (heap_alloc_old _ _ (by first | (simp; done) | (simp; omega))).trans ((heap_alloc_old _ _ (by first | (simp; done) | (simp; omega))).trans ((heap_alloc_old _ _ (by first | (simp; done) | (simp; omega))).trans ((heap_alloc_old _ _ (by simp)).trans ((show (((w.alloc a).alloc b).alloc c).heap[w.heap.size + 1 + 1]? = some c from by have := heap_alloc_new ((w.alloc a).alloc b) c; simpa using this)))))
  · exact (heap_alloc_old _ _ (by first | (simp; done) | (simp; omega))).trans ((heap_alloc_old _ _ (by first | (simp; done) | (simp; omega))).trans ((heap_alloc_old _ _ (by simp)).trans ((show ((((w.alloc a).alloc b).alloc c).alloc d).heap[w.heap.size + 1 + 1 + 1]? = some d from by have := heap_alloc_new (((w.alloc a).alloc b).alloc c) d; simpa using this))))
  · exact (heap_alloc_old _ _ (by first | (simp; done) | (simp; omega))).trans ((heap_alloc_old _ _ (by simp)).trans ((show (((((w.alloc a).alloc b).alloc c).alloc d).alloc e).heap[w.heap.size + 1 + 1 + 1 + 1]? = some e from by have := heap_alloc_new ((((w.alloc a).alloc b).alloc c).alloc d) e; simpa using this)))
  · exact (heap_alloc_old _ _ (by simp)).trans ((show ((((((w.alloc a).alloc b).alloc c).alloc d).alloc e).alloc f).heap[w.heap.size + 1 + 1 + 1 + 1 + 1]? = some f from by have := heap_alloc_new (((((w.alloc a).alloc b).alloc c).alloc d).alloc e) f; simpa using this))
  · exact (show (((((((w.alloc a).alloc b).alloc c).alloc d).alloc e).alloc f).alloc g).heap[w.heap.size + 1 + 1 + 1 + 1 + 1 + 1]? = some g from by have := heap_alloc_new ((((((w.alloc a).alloc b).alloc c).alloc d).alloc e).alloc f) g; simpa using this)
set_option maxRecDepth 100000 in
set_option maxHeartbeats 4000000 in
theorem small_any (w : World) : Calls Tryz.prog 52 #[] w fun e w' => ∃ v', e = .returned v' ∧ ReIs w' v' small ∧ Grew w w' := by
  go_enter Tryz.func52, Tryz.ntmps52
  go_wp2
  have hs := seven w (.cells #[.slice (some ⟨w.heap.size + 1 + 1, 0, none⟩) 3 3, .slice (some ⟨w.heap.size + 1 + 1 + 1, 0, none⟩) 3 3, .slice (some ⟨w.heap.size + 1 + 1 + 1 + 1, 0, none⟩) 2 2, .slice (some ⟨w.heap.size + 1 + 1 + 1 + 1 + 1, 0, none⟩) 1 1, .slice (some ⟨w.heap.size + 1 + 1 + 1 + 1 + 1 + 1, 0, none⟩) 3 3, .int .i64 4, .int .i64 6, .int .i64 2, .int .i64 3] 28) (.cells #[.int .i64 2, .int .i64 2, .int .i64 2, .int .i64 2, .int .i64 2, .int .u64 1000] 100) (.cells #[.int .i64 0, .int .u64 0, .int .i64 0, .int .u64 1, .int .i64 1, .int .u64 1] 31) (.cells #[.int .i64 0, .int .i64 1, .int .i64 2] 3) (.cells #[.string ⟨#[97, 110, 110]⟩, .string ⟨#[97]⟩, .int .i64 1, .bool true, .string ⟨#[98, 111, 98]⟩, .string ⟨#[98]⟩, .int .i64 0, .bool false] 88) (.cells #[.int .i64 0, .int .i64 0] 52) (.cells #[.int .i64 2, .int .i64 2, .int .i64 2, .int .i64 2, .int .i64 2, .int .u64 1000, .int .i64 2, .int .i64 2, .int .i64 2, .int .i64 2, .int .i64 2, .int .u64 1000, .int .i64 2, .int .i64 2, .int .i64 2, .int .i64 2, .int .i64 2, .int .u64 1000] 100)
  obtain ⟨e0, e2, e3, e4, e5, e6⟩ := hs
  obtain ⟨r0, r1, r2, r3, r4, r5, r6, r7, r8⟩ := re_cells e0
  have hm : 3 ≤ maxLen := by unfold maxLen; omega
  have hm2 : 2 ≤ maxLen := by unfold maxLen; omega
  have hm1 : 1 ≤ maxLen := by unfold maxLen; omega
  go_returns
  refine ⟨_, rfl, ⟨_, _, _, _, _, rfl, row_of (xs := small.labels.flatMap lcs) e2 hm, ?_, row_of (xs := small.accounts.flatMap acs) e4 hm2, row_of (xs := small.guilds.flatMap gcs) e5 hm1, row_of (xs := small.quotas.flatMap qcs) e6 hm⟩, ?_⟩
  · exact row_of (xs := iv small.lines) e3 hm
  · unfold Grew
    go_grown
end Go.Proofs.YtmegdgeiikhflaaGreat.HS
