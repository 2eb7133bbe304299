/-
  At or below is an order, over any three labels; Join is the least one that both are at or below, Meet the greatest one at or below both.
  Conditions: the library's variables lie as the program's text lays them.
-/
import Derived.Test.YtekodmnhheejkaaDoorAlive
import Derived.Test.YtekodmnhheejkaaDoorOrderLaw
import Derived.Test.YtekodmnhheejkaaDoorMarks
namespace Go.Proofs.YtekodmnhheejkaaDoor.LatticeLaw
open Go Go.RowKit Go.Proofs.YtekodmnhheejkaaDoor Go.Proofs.YtekodmnhheejkaaDoor.Facts Go.Proofs.YtekodmnhheejkaaDoor.Plain Go.Proofs.YtekodmnhheejkaaDoor.Each Go.Proofs.YtekodmnhheejkaaDoor.Text Go.Proofs.YtekodmnhheejkaaDoor.Alive Go.Proofs.YtekodmnhheejkaaDoor.Lat
open Go.Proofs.YtekodmnhheejkaaDoor.OrderLaw (same_)

theorem max_id (v v2 : Int) : max v v2 = v2 ↔ v ≤ v2 := by omega
theorem min_id (v v2 : Int) : min v v2 = v ↔ v ≤ v2 := by omega
theorem or_id (c c2 : BitVec 64) : c ||| c2 = c2 ↔ ∀ i, c.getLsbD i = true → c2.getLsbD i = true := by
  constructor
  · intro h i hi
    rw [← h]
    simp [hi]
  · intro h
    apply BitVec.eq_of_getLsbD_eq
    intro i hi
    rw [BitVec.getLsbD_or]
    cases hc : c.getLsbD i
    · rfl
    · rw [h i hc]; rfl
theorem and_id (c c2 : BitVec 64) : c &&& c2 = c ↔ ∀ i, c.getLsbD i = true → c2.getLsbD i = true := by
  constructor
  · intro h i hi
    rw [← h] at hi
    simp at hi
    exact hi.2
  · intro h
    apply BitVec.eq_of_getLsbD_eq
    intro i hi
    rw [BitVec.getLsbD_and]
    cases hc : c.getLsbD i
    · rfl
    · rw [h i hc]; rfl
theorem toNat_iff (c d : BitVec 64) : ((c.toNat : Int) = (d.toNat : Int)) ↔ c = d := by
  rw [← BitVec.toNat_inj]
  omega

theorem two_new {W : World} {g : Nat} {x y : Value} (h : W.heap[g]? = some (.cells #[x, y] 24 (0, 0))) (a b : Value) : ((W.setCell ⟨g, 0, none⟩ a).setCell ⟨g, 1, none⟩ b).heap[g]? = some (.cells #[a, b] 24 (0, 0)) := by
  have h1 : (W.setCell ⟨g, 0, none⟩ a).heap[g]? = some (.cells #[a, y] 24 (0, 0)) := by
    rw [heap_setCell_same _ _ _ _ _ _ h]
    rfl
  rw [heap_setCell_same _ _ _ _ _ _ h1]
  rfl

/-- What stands while both together and what they share are laid. -/
structure J1 (W0 : World) (lj lm : Array Value) (m : Nat → Bool) (u : Nat → Value) (w : World) : Prop where
  low : Grew W0 w
  c8 : m 8 = true → m 6 = true
  c9 : m 9 = true → m 7 = true
  s6 : m 6 = true → ∃ g, u 6 = .pointer (some ⟨g, 0, none⟩) ∧ W0.heap.size ≤ g ∧ w.heap[g]? = some (.cells (if m 8 then lj else #[.int .i64 0, .int .u64 0]) 24 (0, 0))
  s7 : m 7 = true → ∃ g, u 7 = .pointer (some ⟨g, 0, none⟩) ∧ W0.heap.size ≤ g ∧ w.heap[g]? = some (.cells (if m 9 then lm else #[.int .i64 0, .int .u64 0]) 24 (0, 0))
  ne : ∀ g, m 6 = true → m 7 = true → u 6 = .pointer (some ⟨g, 0, none⟩) → u 7 = .pointer (some ⟨g, 0, none⟩) → False

section
variable {W0 : World} {lj lm : Array Value} {m : Nat → Bool} {u : Nat → Value} {w w' : World}
theorem J1.keep (h : J1 W0 lj lm m u w) {k : Nat} (hk : k < 6) (v : Value) (hg : Grew w w') : J1 W0 lj lm (Marks.upd m k) (Marks.updv u k v) w' := by
  have e : ∀ j, 6 ≤ j → Marks.upd m k j = m j := fun j hj => Marks.upd_other m (by omega)
  have f : ∀ j, 6 ≤ j → Marks.updv u k v j = u j := fun j hj => Marks.updv_other u v (by omega)
  refine ⟨h.low.trans hg, ?_, ?_, ?_, ?_, ?_⟩
  · rw [e 8 (by omega), e 6 (by omega)]; exact h.c8
  · rw [e 9 (by omega), e 7 (by omega)]; exact h.c9
  · rw [e 8 (by omega), e 6 (by omega), f 6 (by omega)]
    intro h6
    obtain ⟨g, h1, h2, h3⟩ := h.s6 h6
    exact ⟨g, h1, h2, lab_keep h3 hg⟩
  · rw [e 9 (by omega), e 7 (by omega), f 7 (by omega)]
    intro h6
    obtain ⟨g, h1, h2, h3⟩ := h.s7 h6
    exact ⟨g, h1, h2, lab_keep h3 hg⟩
  · rw [e 6 (by omega), e 7 (by omega), f 6 (by omega), f 7 (by omega)]; exact h.ne
theorem J1.new6 (h : J1 W0 lj lm m u w) (h6 : m 6 = false) : J1 W0 lj lm (Marks.upd m 6) (Marks.updv u 6 (.pointer (some ⟨w.heap.size, 0, none⟩))) (w.alloc (.cells #[.int .i64 0, .int .u64 0] 24)) := by
  have hg : Grew w (w.alloc (.cells #[.int .i64 0, .int .u64 0] 24)) := by unfold Grew; go_grown
  have h8 : m 8 = false := by
    cases h8 : m 8 with
    | false => rfl
    | true => rw [h.c8 h8] at h6; cases h6
  refine ⟨h.low.trans hg, fun _ => Marks.upd_same m 6, ?_, fun _ => ⟨w.heap.size, Marks.updv_same u 6 _, h.low.size, ?_⟩, ?_, ?_⟩
  · rw [Marks.upd_other m (by omega), Marks.upd_other m (by omega)]; exact h.c9
  · rw [Marks.upd_other m (by omega), h8]
    exact heap_alloc_new w _
  · rw [Marks.upd_other m (by omega), Marks.upd_other m (by omega), Marks.updv_other u _ (by omega)]
    intro h7
    obtain ⟨g, h1, h2, h3⟩ := h.s7 h7
    exact ⟨g, h1, h2, lab_keep h3 hg⟩
  · intro g _ h7 e6 e7
    rw [Marks.upd_other m (by omega)] at h7
    rw [Marks.updv_same] at e6
    rw [Marks.updv_other u _ (by omega)] at e7
    obtain ⟨g', h1, h2, h3⟩ := h.s7 h7
    rw [h1] at e7
    injection e6 with e6
    injection e7 with e7
    injection e6 with e6
    injection e7 with e7
    injection e6 with e6
    injection e7 with e7
    have := (Array.getElem?_eq_some_iff.1 h3).1
    omega
theorem J1.new7 (h : J1 W0 lj lm m u w) (h6 : m 7 = false) : J1 W0 lj lm (Marks.upd m 7) (Marks.updv u 7 (.pointer (some ⟨w.heap.size, 0, none⟩))) (w.alloc (.cells #[.int .i64 0, .int .u64 0] 24)) := by
  have hg : Grew w (w.alloc (.cells #[.int .i64 0, .int .u64 0] 24)) := by unfold Grew; go_grown
  have h8 : m 9 = false := by
    cases h8 : m 9 with
    | false => rfl
    | true => rw [h.c9 h8] at h6; cases h6
  refine ⟨h.low.trans hg, ?_, fun _ => Marks.upd_same m 7, ?_, fun _ => ⟨w.heap.size, Marks.updv_same u 7 _, h.low.size, ?_⟩, ?_⟩
  · rw [Marks.upd_other m (by omega), Marks.upd_other m (by omega)]; exact h.c8
  · rw [Marks.upd_other m (by omega), Marks.upd_other m (by omega), Marks.updv_other u _ (by omega)]
    intro h7
    obtain ⟨g, h1, h2, h3⟩ := h.s6 h7
    exact ⟨g, h1, h2, lab_keep h3 hg⟩
  · rw [Marks.upd_other m (by omega), h8]
    exact heap_alloc_new w _
  · intro g h7 _ e7 e6
    rw [Marks.upd_other m (by omega)] at h7
    rw [Marks.updv_same] at e6
    rw [Marks.updv_other u _ (by omega)] at e7
    obtain ⟨g', h1, h2, h3⟩ := h.s6 h7
    rw [h1] at e7
    injection e6 with e6
    injection e7 with e7
    injection e6 with e6
    injection e7 with e7
    injection e6 with e6
    injection e7 with e7
    have := (Array.getElem?_eq_some_iff.1 h3).1
    omega
theorem J1.put8 (h : J1 W0 lj lm m u w) (h6 : m 6 = true) {g : Nat} (hu : u 6 = .pointer (some ⟨g, 0, none⟩)) (hb : ∀ b, b ≠ g → w'.heap[b]? = w.heap[b]?) (hn : w'.heap[g]? = some (.cells lj 24 (0, 0))) (hlow : Grew W0 w') (v : Value) :
    J1 W0 lj lm (Marks.upd m 8) (Marks.updv u 8 v) w' := by
  refine ⟨hlow, fun _ => by rw [Marks.upd_other m (by omega)]; exact h6, ?_, ?_, ?_, ?_⟩
  · rw [Marks.upd_other m (by omega), Marks.upd_other m (by omega)]; exact h.c9
  · intro _
    obtain ⟨g', h1, h2, h3⟩ := h.s6 h6
    rw [hu] at h1
    injection h1 with h1
    injection h1 with h1
    injection h1 with h1
    subst h1
    refine ⟨g, by rw [Marks.updv_other u _ (by omega)]; exact hu, h2, ?_⟩
    rw [Marks.upd_same]
    exact hn
  · rw [Marks.upd_other m (by omega), Marks.upd_other m (by omega), Marks.updv_other u _ (by omega)]
    intro h7
    obtain ⟨g', h1, h2, h3⟩ := h.s7 h7
    refine ⟨g', h1, h2, ?_⟩
    rw [hb g' (fun e => h.ne g h6 h7 hu (by rw [h1, e]))]
    exact h3
  · rw [Marks.upd_other m (by omega), Marks.upd_other m (by omega), Marks.updv_other u _ (by omega), Marks.updv_other u _ (by omega)]; exact h.ne
theorem J1.put9 (h : J1 W0 lj lm m u w) (h6 : m 7 = true) {g : Nat} (hu : u 7 = .pointer (some ⟨g, 0, none⟩)) (hb : ∀ b, b ≠ g → w'.heap[b]? = w.heap[b]?) (hn : w'.heap[g]? = some (.cells lm 24 (0, 0))) (hlow : Grew W0 w') (v : Value) :
    J1 W0 lj lm (Marks.upd m 9) (Marks.updv u 9 v) w' := by
  refine ⟨hlow, ?_, fun _ => by rw [Marks.upd_other m (by omega)]; exact h6, ?_, ?_, ?_⟩
  · rw [Marks.upd_other m (by omega), Marks.upd_other m (by omega)]; exact h.c8
  · rw [Marks.upd_other m (by omega), Marks.upd_other m (by omega), Marks.updv_other u _ (by omega)]
    intro h7
    obtain ⟨g', h1, h2, h3⟩ := h.s6 h7
    refine ⟨g', h1, h2, ?_⟩
    rw [hb g' (fun e => h.ne g h7 h6 (by rw [h1, e]) hu)]
    exact h3
  · intro _
    obtain ⟨g', h1, h2, h3⟩ := h.s7 h6
    rw [hu] at h1
    injection h1 with h1
    injection h1 with h1
    injection h1 with h1
    subst h1
    refine ⟨g, by rw [Marks.updv_other u _ (by omega)]; exact hu, h2, ?_⟩
    rw [Marks.upd_same]
    exact hn
  · rw [Marks.upd_other m (by omega), Marks.upd_other m (by omega), Marks.updv_other u _ (by omega), Marks.updv_other u _ (by omega)]; exact h.ne
end

set_option maxRecDepth 100000 in
set_option maxHeartbeats 8000000 in
theorem law_any (v v2 v3 : Int) (c c2 c3 : BitVec 64) (w : World) (hE : Env w) : Calls Tryd.prog 5 #[.agg #[.int .i64 v, .int .u64 (c.toNat : Int)], .agg #[.int .i64 v2, .int .u64 (c2.toNat : Int)], .agg #[.int .i64 v3, .int .u64 (c3.toNat : Int)]] w fun e W' => e = .returned (.bool true) ∧ Grew w W' := by
  obtain ⟨vj, hvj⟩ : ∃ x, x = max v v2 := ⟨_, rfl⟩
  obtain ⟨nj, hnj⟩ : ∃ x, x = ((c ||| c2).toNat : Int) := ⟨_, rfl⟩
  obtain ⟨vm, hvm⟩ : ∃ x, x = min v v2 := ⟨_, rfl⟩
  obtain ⟨nm, hnm⟩ : ∃ x, x = ((c &&& c2).toNat : Int) := ⟨_, rfl⟩
  obtain ⟨p, hp⟩ : ∃ x, x = le v c v2 c2 := ⟨_, rfl⟩
  obtain ⟨q, hq⟩ : ∃ x, x = le v2 c2 v c := ⟨_, rfl⟩
  obtain ⟨e, he⟩ : ∃ x, x = decide (v = v2 ∧ c = c2) := ⟨_, rfl⟩
  obtain ⟨r, hr⟩ : ∃ x, x = le v2 c2 v3 c3 := ⟨_, rfl⟩
  obtain ⟨s, hs⟩ : ∃ x, x = le v c v3 c3 := ⟨_, rfl⟩
  obtain ⟨x, hx⟩ : ∃ x, x = le v3 c3 v c := ⟨_, rfl⟩
  obtain ⟨y, hy⟩ : ∃ x, x = le v3 c3 v2 c2 := ⟨_, rfl⟩
  obtain ⟨z, hz⟩ : ∃ x, x = (p && r) := ⟨_, rfl⟩
  obtain ⟨f, hf⟩ : ∃ x, x = may v := ⟨_, rfl⟩
  have Haa : Hid (∀ W, Calls Tryd.prog 14 #[.agg #[.int .i64 v, .int .u64 (c.toNat : Int)], .agg #[.int .i64 v, .int .u64 (c.toNat : Int)]] W fun e w' => e = .returned (.bool true) ∧ Grew W w') := Lib.hid fun W => by have := leq_any v c v c W; rw [le_refl] at this; exact this
  have Hab : Hid (∀ W, Calls Tryd.prog 14 #[.agg #[.int .i64 v, .int .u64 (c.toNat : Int)], .agg #[.int .i64 v2, .int .u64 (c2.toNat : Int)]] W fun e w' => e = .returned (.bool p) ∧ Grew W w') := Lib.hid fun W => by have := leq_any v c v2 c2 W; rw [← hp] at this; exact this
  have Hba : Hid (∀ W, Calls Tryd.prog 14 #[.agg #[.int .i64 v2, .int .u64 (c2.toNat : Int)], .agg #[.int .i64 v, .int .u64 (c.toNat : Int)]] W fun e w' => e = .returned (.bool q) ∧ Grew W w') := Lib.hid fun W => by have := leq_any v2 c2 v c W; rw [← hq] at this; exact this
  have Hbc : Hid (∀ W, Calls Tryd.prog 14 #[.agg #[.int .i64 v2, .int .u64 (c2.toNat : Int)], .agg #[.int .i64 v3, .int .u64 (c3.toNat : Int)]] W fun e w' => e = .returned (.bool r) ∧ Grew W w') := Lib.hid fun W => by have := leq_any v2 c2 v3 c3 W; rw [← hr] at this; exact this
  have Hac : Hid (∀ W, Calls Tryd.prog 14 #[.agg #[.int .i64 v, .int .u64 (c.toNat : Int)], .agg #[.int .i64 v3, .int .u64 (c3.toNat : Int)]] W fun e w' => e = .returned (.bool s) ∧ Grew W w') := Lib.hid fun W => by have := leq_any v c v3 c3 W; rw [← hs] at this; exact this
  have Hca : Hid (∀ W, Calls Tryd.prog 14 #[.agg #[.int .i64 v3, .int .u64 (c3.toNat : Int)], .agg #[.int .i64 v, .int .u64 (c.toNat : Int)]] W fun e w' => e = .returned (.bool x) ∧ Grew W w') := Lib.hid fun W => by have := leq_any v3 c3 v c W; rw [← hx] at this; exact this
  have Hcb : Hid (∀ W, Calls Tryd.prog 14 #[.agg #[.int .i64 v3, .int .u64 (c3.toNat : Int)], .agg #[.int .i64 v2, .int .u64 (c2.toNat : Int)]] W fun e w' => e = .returned (.bool y) ∧ Grew W w') := Lib.hid fun W => by have := leq_any v3 c3 v2 c2 W; rw [← hy] at this; exact this
  have Hact : Hid (z = true → ∀ W, Calls Tryd.prog 14 #[.agg #[.int .i64 v, .int .u64 (c.toNat : Int)], .agg #[.int .i64 v3, .int .u64 (c3.toNat : Int)]] W fun e w' => e = .returned (.bool true) ∧ Grew W w') := Lib.hid fun hzt W => by
    have := leq_any v c v3 c3 W
    rw [hz, Bool.and_eq_true, hp, hr] at hzt
    rw [le_trans hzt.1 hzt.2] at this
    exact this
  have Haj : Hid (∀ W, Calls Tryd.prog 14 #[.agg #[.int .i64 v, .int .u64 (c.toNat : Int)], .agg #[.int .i64 vj, .int .u64 nj]] W fun e w' => e = .returned (.bool true) ∧ Grew W w') := Lib.hid fun W => by
    have h := leq_any v c (max v v2) (c ||| c2) W
    have k := le_join v v2 (max v v2) c c2 (c ||| c2)
    rw [le_refl] at k
    rw [(Bool.and_eq_true_iff.1 k.symm).1, ← hvj, ← hnj] at h
    exact h
  have Hbj : Hid (∀ W, Calls Tryd.prog 14 #[.agg #[.int .i64 v2, .int .u64 (c2.toNat : Int)], .agg #[.int .i64 vj, .int .u64 nj]] W fun e w' => e = .returned (.bool true) ∧ Grew W w') := Lib.hid fun W => by
    have h := leq_any v2 c2 (max v v2) (c ||| c2) W
    have k := le_join v v2 (max v v2) c c2 (c ||| c2)
    rw [le_refl] at k
    rw [(Bool.and_eq_true_iff.1 k.symm).2, ← hvj, ← hnj] at h
    exact h
  have Hma : Hid (∀ W, Calls Tryd.prog 14 #[.agg #[.int .i64 vm, .int .u64 nm], .agg #[.int .i64 v, .int .u64 (c.toNat : Int)]] W fun e w' => e = .returned (.bool true) ∧ Grew W w') := Lib.hid fun W => by
    have h := leq_any (min v v2) (c &&& c2) v c W
    have k := le_meet v v2 (min v v2) c c2 (c &&& c2)
    rw [le_refl] at k
    rw [(Bool.and_eq_true_iff.1 k.symm).1, ← hvm, ← hnm] at h
    exact h
  have Hmb : Hid (∀ W, Calls Tryd.prog 14 #[.agg #[.int .i64 vm, .int .u64 nm], .agg #[.int .i64 v2, .int .u64 (c2.toNat : Int)]] W fun e w' => e = .returned (.bool true) ∧ Grew W w') := Lib.hid fun W => by
    have h := leq_any (min v v2) (c &&& c2) v2 c2 W
    have k := le_meet v v2 (min v v2) c c2 (c &&& c2)
    rw [le_refl] at k
    rw [(Bool.and_eq_true_iff.1 k.symm).2, ← hvm, ← hnm] at h
    exact h
  have Hjc : Hid (s = true → ∀ W, Calls Tryd.prog 14 #[.agg #[.int .i64 vj, .int .u64 nj], .agg #[.int .i64 v3, .int .u64 (c3.toNat : Int)]] W fun e w' => e = .returned (.bool r) ∧ Grew W w') := Lib.hid fun hst W => by
    have h := leq_any (max v v2) (c ||| c2) v3 c3 W
    rw [le_join, ← hs, ← hr, hst, Bool.true_and, ← hvj, ← hnj] at h
    exact h
  have Hcm : Hid (x = true → ∀ W, Calls Tryd.prog 14 #[.agg #[.int .i64 v3, .int .u64 (c3.toNat : Int)], .agg #[.int .i64 vm, .int .u64 nm]] W fun e w' => e = .returned (.bool y) ∧ Grew W w') := Lib.hid fun hxt W => by
    have h := leq_any v3 c3 (min v v2) (c &&& c2) W
    rw [le_meet, ← hx, ← hy, hxt, Bool.true_and, ← hvm, ← hnm] at h
    exact h
  have HJ1 : Hid (∀ W, Calls Tryd.prog 16 #[.agg #[.int .i64 v, .int .u64 (c.toNat : Int)], .agg #[.int .i64 v2, .int .u64 (c2.toNat : Int)]] W fun e w' => e = .returned (.agg #[.int .i64 vj, .int .u64 nj]) ∧ Grew W w') := Lib.hid fun W => by have := join_any v c v2 c2 W; rw [← hvj, ← hnj] at this; exact this
  have HJ2 : Hid (∀ W, Calls Tryd.prog 16 #[.agg #[.int .i64 v2, .int .u64 (c2.toNat : Int)], .agg #[.int .i64 v, .int .u64 (c.toNat : Int)]] W fun e w' => e = .returned (.agg #[.int .i64 vj, .int .u64 nj]) ∧ Grew W w') := Lib.hid fun W => by have := join_any v2 c2 v c W; rw [Int.max_comm, BitVec.or_comm, ← hvj, ← hnj] at this; exact this
  have HM1 : Hid (∀ W, Calls Tryd.prog 18 #[.agg #[.int .i64 v, .int .u64 (c.toNat : Int)], .agg #[.int .i64 v2, .int .u64 (c2.toNat : Int)]] W fun e w' => e = .returned (.agg #[.int .i64 vm, .int .u64 nm]) ∧ Grew W w') := Lib.hid fun W => by have := meet_any v c v2 c2 W; rw [← hvm, ← hnm] at this; exact this
  have HM2 : Hid (∀ W, Calls Tryd.prog 18 #[.agg #[.int .i64 v2, .int .u64 (c2.toNat : Int)], .agg #[.int .i64 v, .int .u64 (c.toNat : Int)]] W fun e w' => e = .returned (.agg #[.int .i64 vm, .int .u64 nm]) ∧ Grew W w') := Lib.hid fun W => by have := meet_any v2 c2 v c W; rw [Int.min_comm, BitVec.and_comm, ← hvm, ← hnm] at this; exact this
  have Hra : Hid (∀ W, Calls Tryd.prog 12 #[.agg #[.int .i64 v, .int .u64 (c.toNat : Int)]] W fun e w' => e = .returned (.bool f) ∧ Grew W w') := Lib.hid fun W => by have := right_any v c W; rw [← hf] at this; exact this
  have H0a : Hid (f = true → ∀ W, Calls Tryd.prog 14 #[.agg #[.int .i64 0, .int .u64 0], .agg #[.int .i64 v, .int .u64 (c.toNat : Int)]] W fun e w' => e = .returned (.bool true) ∧ Grew W w') := Lib.hid fun hft W => by
    have h := leq_any 0 0#64 v c W
    have k : le 0 0#64 v c = true := by
      rw [le_iff]
      refine ⟨?_, fun i hi => by simp at hi⟩
      rw [hf] at hft
      unfold may at hft
      simp at hft
      exact hft.1
    rw [k] at h
    exact h
  have HE : Hid (e = true ↔ v = v2 ∧ (c.toNat : Int) = (c2.toNat : Int)) := Lib.hid (by rw [he, decide_eq_true_iff, toNat_iff])
  have HPQ : Hid (p = true → (q != e) = false) := Lib.hid fun hpt => by
    have : q = e := by
      rw [Bool.eq_iff_iff, he, decide_eq_true_iff, hq]
      rw [hp] at hpt
      exact ⟨fun h => le_anti hpt h, fun ⟨h1, h2⟩ => by subst h1; subst h2; exact hpt⟩
    rw [this]
    cases e <;> rfl
  have HZ := Lib.hid hz
  have HPJ : Hid (p = true ↔ vj = v2 ∧ nj = (c2.toNat : Int)) := Lib.hid (by rw [hvj, hnj, toNat_iff, max_id, or_id, hp, le_iff])
  have HPM : Hid (p = true ↔ vm = v ∧ nm = (c.toNat : Int)) := Lib.hid (by rw [hvm, hnm, toNat_iff, min_id, and_id, hp, le_iff])
  have HENV := Lib.hid hE
  clear hvj hnj hvm hnm hp hq he hr hs hx hy hz hf hE
  go_enter Tryd.func5, Tryd.ntmps5
  go_wp2
  generalize hW : ((w.alloc (Obj.cells #[Value.int IntKind.i64 v, Value.int IntKind.u64 (c.toNat : Int)] 24)).alloc (Obj.cells #[Value.int IntKind.i64 v2, Value.int IntKind.u64 (c2.toNat : Int)] 24)).alloc (Obj.cells #[Value.int IntKind.i64 v3, Value.int IntKind.u64 (c3.toNat : Int)] 24) = W0
  have A0 : Hid (W0.heap[w.heap.size]? = some (.cells #[.int .i64 v, .int .u64 (c.toNat : Int)] 24 (0, 0))) := Lib.hid (by subst hW; exact lab_keep (lab_keep (lab_new w _ _) (by unfold Grew; go_grown)) (by unfold Grew; go_grown))
  have B0 : Hid (W0.heap[w.heap.size + 1]? = some (.cells #[.int .i64 v2, .int .u64 (c2.toNat : Int)] 24 (0, 0))) := Lib.hid (by
    subst hW
    have := lab_new (w.alloc (Obj.cells #[Value.int IntKind.i64 v, Value.int IntKind.u64 (c.toNat : Int)] 24)) (.int .i64 v2) (.int .u64 (c2.toNat : Int))
    rw [World.size_alloc] at this
    exact lab_keep this (by unfold Grew; go_grown))
  have C0 : Hid (W0.heap[w.heap.size + 1 + 1]? = some (.cells #[.int .i64 v3, .int .u64 (c3.toNat : Int)] 24 (0, 0))) := Lib.hid (by
    subst hW
    have := lab_new ((w.alloc (Obj.cells #[Value.int IntKind.i64 v, Value.int IntKind.u64 (c.toNat : Int)] 24)).alloc (Obj.cells #[Value.int IntKind.i64 v2, Value.int IntKind.u64 (c2.toNat : Int)] 24)) (.int .i64 v3) (.int .u64 (c3.toNat : Int))
    rw [World.size_alloc, World.size_alloc] at this
    exact this)
  have G0 : Hid (Grew w W0) := Lib.hid (by subst hW; unfold Grew; go_grown)
  clear hW
  refine Marks.wp_region_text (J1 W0 #[.int .i64 vj, .int .u64 nj] #[.int .i64 vm, .int .u64 nm]) (fun _ _ => True) (by kernel_rfl) (by kernel_rfl) ?_ ?_
  · exact ⟨(Grew.refl _).drew, (fun h => by cases h), (fun h => by cases h), (fun h => by cases h), (fun h => by cases h), (fun _ h => by cases h)⟩
  apply Marks.Lex.exact [] (.agg #[.int .i64 v, .int .u64 (c.toNat : Int)]) (by kernel_rfl)
  · intro m u W _ _ hJ _
    obtain ⟨a0, a1, _, _⟩ := lab_cells (lab_keep A0.out hJ.low)
    unfold Marks.one
    go_simp
    exact ⟨trivial, hJ.keep (by omega) _ (Grew.refl _), rfl⟩
  simp only [Act.put, List.setIfInBounds_toArray, List.set_cons_zero, List.set_cons_succ, Nat.reduceAdd]
  apply Marks.Lex.exact [] (.agg #[.int .i64 v2, .int .u64 (c2.toNat : Int)]) (by kernel_rfl)
  · intro m u W _ _ hJ _
    obtain ⟨a0, a1, _, _⟩ := lab_cells (lab_keep B0.out hJ.low)
    unfold Marks.one
    go_simp
    exact ⟨trivial, hJ.keep (by omega) _ (Grew.refl _), rfl⟩
  simp only [Act.put, List.setIfInBounds_toArray, List.set_cons_zero, List.set_cons_succ, Nat.reduceAdd]
  apply Marks.Lex.exact [] (.agg #[.int .i64 vj, .int .u64 nj]) (by kernel_rfl)
  · intro m u W _ _ hJ _
    unfold Marks.one
    go_simp
    refine (HJ1.out W).mono ?_
    rintro e w' ⟨rfl, hg⟩
    exact ⟨_, rfl, trivial, hJ.keep (by omega) _ hg, rfl⟩
  simp only [Act.put, List.setIfInBounds_toArray, List.set_cons_zero, List.set_cons_succ, Nat.reduceAdd]
  apply Marks.Lex.exact [] (.agg #[.int .i64 v, .int .u64 (c.toNat : Int)]) (by kernel_rfl)
  · intro m u W _ _ hJ _
    obtain ⟨a0, a1, _, _⟩ := lab_cells (lab_keep A0.out hJ.low)
    unfold Marks.one
    go_simp
    exact ⟨trivial, hJ.keep (by omega) _ (Grew.refl _), rfl⟩
  simp only [Act.put, List.setIfInBounds_toArray, List.set_cons_zero, List.set_cons_succ, Nat.reduceAdd]
  apply Marks.Lex.exact [] (.agg #[.int .i64 v2, .int .u64 (c2.toNat : Int)]) (by kernel_rfl)
  · intro m u W _ _ hJ _
    obtain ⟨a0, a1, _, _⟩ := lab_cells (lab_keep B0.out hJ.low)
    unfold Marks.one
    go_simp
    exact ⟨trivial, hJ.keep (by omega) _ (Grew.refl _), rfl⟩
  simp only [Act.put, List.setIfInBounds_toArray, List.set_cons_zero, List.set_cons_succ, Nat.reduceAdd]
  apply Marks.Lex.exact [] (.agg #[.int .i64 vm, .int .u64 nm]) (by kernel_rfl)
  · intro m u W _ _ hJ _
    unfold Marks.one
    go_simp
    refine (HM1.out W).mono ?_
    rintro e w' ⟨rfl, hg⟩
    exact ⟨_, rfl, trivial, hJ.keep (by omega) _ hg, rfl⟩
  simp only [Act.put, List.setIfInBounds_toArray, List.set_cons_zero, List.set_cons_succ, Nat.reduceAdd]
  refine Marks.Lex.know [] (fun _ _ => True) (by kernel_rfl) (fun _ _ _ _ _ => trivial) ?_ ?_
  · intro m u W hk _ hJ _
    unfold Marks.one
    go_simp
    exact ⟨trivial, hJ.new6 hk, trivial⟩
  simp only [Act.put, List.setIfInBounds_toArray, List.set_cons_zero, List.set_cons_succ, Nat.reduceAdd]
  refine Marks.Lex.know [] (fun _ _ => True) (by kernel_rfl) (fun _ _ _ _ _ => trivial) ?_ ?_
  · intro m u W hk _ hJ _
    unfold Marks.one
    go_simp
    exact ⟨trivial, hJ.new7 hk, trivial⟩
  simp only [Act.put, List.setIfInBounds_toArray, List.set_cons_zero, List.set_cons_succ, Nat.reduceAdd]
  apply Marks.Lex.exact [] undef (by kernel_rfl)
  · intro m u W hk hcl hJ _
    have h6 : m 6 = true := hcl 6 (by decide +kernel)
    obtain ⟨g, hu, hge, hrow⟩ := hJ.s6 h6
    rw [hk, if_neg (by decide)] at hrow
    obtain ⟨q0, q1, q2, q3⟩ := lab_cells hrow
    unfold Marks.one
    go_simp
    refine ⟨trivial, hJ.put8 h6 hu (fun b hb => ?_) ?_ ?_ _, rfl⟩
    · rw [heap_setCell_other _ _ _ _ hb, heap_setCell_other _ _ _ _ hb]
    · exact two_new hrow _ _
    · exact Below.setCell (p := ⟨g, 1, none⟩) (Below.setCell (p := ⟨g, 0, none⟩) hJ.low hge _) hge _
  simp only [Act.put, List.setIfInBounds_toArray, List.set_cons_zero, List.set_cons_succ, Nat.reduceAdd]
  apply Marks.Lex.exact [] undef (by kernel_rfl)
  · intro m u W hk hcl hJ _
    have h6 : m 7 = true := hcl 7 (by decide +kernel)
    obtain ⟨g, hu, hge, hrow⟩ := hJ.s7 h6
    rw [hk, if_neg (by decide)] at hrow
    obtain ⟨q0, q1, q2, q3⟩ := lab_cells hrow
    unfold Marks.one
    go_simp
    refine ⟨trivial, hJ.put9 h6 hu (fun b hb => ?_) ?_ ?_ _, rfl⟩
    · rw [heap_setCell_other _ _ _ _ hb, heap_setCell_other _ _ _ _ hb]
    · exact two_new hrow _ _
    · exact Below.setCell (p := ⟨g, 1, none⟩) (Below.setCell (p := ⟨g, 0, none⟩) hJ.low hge _) hge _
  simp only [Act.put, List.setIfInBounds_toArray, List.set_cons_zero, List.set_cons_succ, Nat.reduceAdd]
  refine Marks.Lex.done fun m u W1 hm hJ _ => ?_
  obtain ⟨g6, hu6, hg6, J0⟩ := hJ.s6 (hm 6 (by omega))
  obtain ⟨g7, hu7, hg7, M0⟩ := hJ.s7 (hm 7 (by omega))
  rw [hm 8 (by omega)] at J0
  rw [hm 9 (by omega)] at M0
  replace J0 := Lib.hid (show W1.heap[g6]? = some (.cells #[.int .i64 vj, .int .u64 nj] 24 (0, 0)) from J0)
  replace M0 := Lib.hid (show W1.heap[g7]? = some (.cells #[.int .i64 vm, .int .u64 nm] 24 (0, 0)) from M0)
  have hlow := hJ.low
  replace A0 := Lib.hid (lab_keep A0.out hlow)
  replace B0 := Lib.hid (lab_keep B0.out hlow)
  replace C0 := Lib.hid (lab_keep C0.out hlow)
  replace G0 := Lib.hid (G0.out.trans hlow)
  simp only [hu6, hu7]
  clear hm hJ hu6 hu7 hg6 hg7 hlow
  go_wp2
  refine Facts.wp_region_text (by kernel_rfl) (by kernel_rfl) ?_
  apply Facts.Lex.exact [] (.agg #[.int .i64 v, .int .u64 (c.toNat : Int)]) (by kernel_rfl)
  · intro u W hC _
    obtain ⟨a0, a1, _, _⟩ := lab_cells (lab_keep A0.out hC)
    obtain ⟨b0, b1, _, _⟩ := lab_cells (lab_keep B0.out hC)
    obtain ⟨c0, c1, _, _⟩ := lab_cells (lab_keep C0.out hC)
    obtain ⟨j0, j1, _, _⟩ := lab_cells (lab_keep J0.out hC)
    obtain ⟨m0, m1, _, _⟩ := lab_cells (lab_keep M0.out hC)
    unfold Facts.one
    go_simp
    first | exact ⟨Grew.refl _, rfl⟩ | rfl
  simp only [Act.put, List.setIfInBounds_toArray, List.set_cons_zero, List.set_cons_succ, Nat.reduceAdd]
  apply Facts.Lex.exact [] (.agg #[.int .i64 v, .int .u64 (c.toNat : Int)]) (by kernel_rfl)
  · intro u W hC _
    obtain ⟨a0, a1, _, _⟩ := lab_cells (lab_keep A0.out hC)
    obtain ⟨b0, b1, _, _⟩ := lab_cells (lab_keep B0.out hC)
    obtain ⟨c0, c1, _, _⟩ := lab_cells (lab_keep C0.out hC)
    obtain ⟨j0, j1, _, _⟩ := lab_cells (lab_keep J0.out hC)
    obtain ⟨m0, m1, _, _⟩ := lab_cells (lab_keep M0.out hC)
    unfold Facts.one
    go_simp
    first | exact ⟨Grew.refl _, rfl⟩ | rfl
  simp only [Act.put, List.setIfInBounds_toArray, List.set_cons_zero, List.set_cons_succ, Nat.reduceAdd]
  apply Facts.Lex.exact [] (.bool true) (by kernel_rfl)
  · intro u W hC _
    obtain ⟨a0, a1, _, _⟩ := lab_cells (lab_keep A0.out hC)
    obtain ⟨b0, b1, _, _⟩ := lab_cells (lab_keep B0.out hC)
    obtain ⟨c0, c1, _, _⟩ := lab_cells (lab_keep C0.out hC)
    obtain ⟨j0, j1, _, _⟩ := lab_cells (lab_keep J0.out hC)
    obtain ⟨m0, m1, _, _⟩ := lab_cells (lab_keep M0.out hC)
    unfold Facts.one
    go_simp
    first | exact ⟨Grew.refl _, rfl⟩ | rfl | (refine (Haa.out W).mono ?_; rintro e w' ⟨rfl, hg⟩; exact ⟨_, rfl, hg, rfl⟩)
  simp only [Act.put, List.setIfInBounds_toArray, List.set_cons_zero, List.set_cons_succ, Nat.reduceAdd]
  apply Facts.Lex.exact [] (.bool false) (by kernel_rfl)
  · intro u W hC _
    obtain ⟨a0, a1, _, _⟩ := lab_cells (lab_keep A0.out hC)
    obtain ⟨b0, b1, _, _⟩ := lab_cells (lab_keep B0.out hC)
    obtain ⟨c0, c1, _, _⟩ := lab_cells (lab_keep C0.out hC)
    obtain ⟨j0, j1, _, _⟩ := lab_cells (lab_keep J0.out hC)
    obtain ⟨m0, m1, _, _⟩ := lab_cells (lab_keep M0.out hC)
    unfold Facts.one
    go_simp
    first | exact ⟨Grew.refl _, rfl⟩ | rfl
  simp only [Act.put, List.setIfInBounds_toArray, List.set_cons_zero, List.set_cons_succ, Nat.reduceAdd]
  apply Facts.Lex.exact [] (.bool false) (by kernel_rfl)
  · intro u W hC _
    obtain ⟨a0, a1, _, _⟩ := lab_cells (lab_keep A0.out hC)
    obtain ⟨b0, b1, _, _⟩ := lab_cells (lab_keep B0.out hC)
    obtain ⟨c0, c1, _, _⟩ := lab_cells (lab_keep C0.out hC)
    obtain ⟨j0, j1, _, _⟩ := lab_cells (lab_keep J0.out hC)
    obtain ⟨m0, m1, _, _⟩ := lab_cells (lab_keep M0.out hC)
    unfold Facts.one
    go_simp
    first | exact ⟨Grew.refl _, rfl⟩ | rfl
  simp only [Act.put, List.setIfInBounds_toArray, List.set_cons_zero, List.set_cons_succ, Nat.reduceAdd]
  apply Facts.Lex.exact [] (.agg #[.int .i64 v, .int .u64 (c.toNat : Int)]) (by kernel_rfl)
  · intro u W hC _
    obtain ⟨a0, a1, _, _⟩ := lab_cells (lab_keep A0.out hC)
    obtain ⟨b0, b1, _, _⟩ := lab_cells (lab_keep B0.out hC)
    obtain ⟨c0, c1, _, _⟩ := lab_cells (lab_keep C0.out hC)
    obtain ⟨j0, j1, _, _⟩ := lab_cells (lab_keep J0.out hC)
    obtain ⟨m0, m1, _, _⟩ := lab_cells (lab_keep M0.out hC)
    unfold Facts.one
    go_simp
    first | exact ⟨Grew.refl _, rfl⟩ | rfl
  simp only [Act.put, List.setIfInBounds_toArray, List.set_cons_zero, List.set_cons_succ, Nat.reduceAdd]
  apply Facts.Lex.exact [] (.agg #[.int .i64 v2, .int .u64 (c2.toNat : Int)]) (by kernel_rfl)
  · intro u W hC _
    obtain ⟨a0, a1, _, _⟩ := lab_cells (lab_keep A0.out hC)
    obtain ⟨b0, b1, _, _⟩ := lab_cells (lab_keep B0.out hC)
    obtain ⟨c0, c1, _, _⟩ := lab_cells (lab_keep C0.out hC)
    obtain ⟨j0, j1, _, _⟩ := lab_cells (lab_keep J0.out hC)
    obtain ⟨m0, m1, _, _⟩ := lab_cells (lab_keep M0.out hC)
    unfold Facts.one
    go_simp
    first | exact ⟨Grew.refl _, rfl⟩ | rfl
  simp only [Act.put, List.setIfInBounds_toArray, List.set_cons_zero, List.set_cons_succ, Nat.reduceAdd]
  apply Facts.Lex.exact [] (.bool p) (by kernel_rfl)
  · intro u W hC _
    obtain ⟨a0, a1, _, _⟩ := lab_cells (lab_keep A0.out hC)
    obtain ⟨b0, b1, _, _⟩ := lab_cells (lab_keep B0.out hC)
    obtain ⟨c0, c1, _, _⟩ := lab_cells (lab_keep C0.out hC)
    obtain ⟨j0, j1, _, _⟩ := lab_cells (lab_keep J0.out hC)
    obtain ⟨m0, m1, _, _⟩ := lab_cells (lab_keep M0.out hC)
    unfold Facts.one
    go_simp
    first | exact ⟨Grew.refl _, rfl⟩ | rfl | (refine (Hab.out W).mono ?_; rintro e w' ⟨rfl, hg⟩; exact ⟨_, rfl, hg, rfl⟩)
  simp only [Act.put, List.setIfInBounds_toArray, List.set_cons_zero, List.set_cons_succ, Nat.reduceAdd]
  apply Facts.Lex.exact [] (.bool p) (by kernel_rfl)
  · intro u W hC _
    obtain ⟨a0, a1, _, _⟩ := lab_cells (lab_keep A0.out hC)
    obtain ⟨b0, b1, _, _⟩ := lab_cells (lab_keep B0.out hC)
    obtain ⟨c0, c1, _, _⟩ := lab_cells (lab_keep C0.out hC)
    obtain ⟨j0, j1, _, _⟩ := lab_cells (lab_keep J0.out hC)
    obtain ⟨m0, m1, _, _⟩ := lab_cells (lab_keep M0.out hC)
    unfold Facts.one
    go_simp
    first | exact ⟨Grew.refl _, rfl⟩ | rfl
  simp only [Act.put, List.setIfInBounds_toArray, List.set_cons_zero, List.set_cons_succ, Nat.reduceAdd]
  apply Facts.Lex.exact [] (bif p then .agg #[.int .i64 v2, .int .u64 (c2.toNat : Int)] else undef) (by kernel_rfl)
  · intro u W hC _
    obtain ⟨a0, a1, _, _⟩ := lab_cells (lab_keep A0.out hC)
    obtain ⟨b0, b1, _, _⟩ := lab_cells (lab_keep B0.out hC)
    obtain ⟨c0, c1, _, _⟩ := lab_cells (lab_keep C0.out hC)
    obtain ⟨j0, j1, _, _⟩ := lab_cells (lab_keep J0.out hC)
    obtain ⟨m0, m1, _, _⟩ := lab_cells (lab_keep M0.out hC)
    cases p
    all_goals try simp only [cond_true, cond_false]
    all_goals unfold Facts.one
    all_goals go_simp
    all_goals first | exact ⟨Grew.refl _, rfl⟩ | rfl
  simp only [Act.put, List.setIfInBounds_toArray, List.set_cons_zero, List.set_cons_succ, Nat.reduceAdd]
  apply Facts.Lex.exact [] (bif p then .agg #[.int .i64 v, .int .u64 (c.toNat : Int)] else undef) (by kernel_rfl)
  · intro u W hC _
    obtain ⟨a0, a1, _, _⟩ := lab_cells (lab_keep A0.out hC)
    obtain ⟨b0, b1, _, _⟩ := lab_cells (lab_keep B0.out hC)
    obtain ⟨c0, c1, _, _⟩ := lab_cells (lab_keep C0.out hC)
    obtain ⟨j0, j1, _, _⟩ := lab_cells (lab_keep J0.out hC)
    obtain ⟨m0, m1, _, _⟩ := lab_cells (lab_keep M0.out hC)
    cases p
    all_goals try simp only [cond_true, cond_false]
    all_goals unfold Facts.one
    all_goals go_simp
    all_goals first | exact ⟨Grew.refl _, rfl⟩ | rfl
  simp only [Act.put, List.setIfInBounds_toArray, List.set_cons_zero, List.set_cons_succ, Nat.reduceAdd]
  apply Facts.Lex.exact [] (bif p then .bool q else undef) (by kernel_rfl)
  · intro u W hC _
    obtain ⟨a0, a1, _, _⟩ := lab_cells (lab_keep A0.out hC)
    obtain ⟨b0, b1, _, _⟩ := lab_cells (lab_keep B0.out hC)
    obtain ⟨c0, c1, _, _⟩ := lab_cells (lab_keep C0.out hC)
    obtain ⟨j0, j1, _, _⟩ := lab_cells (lab_keep J0.out hC)
    obtain ⟨m0, m1, _, _⟩ := lab_cells (lab_keep M0.out hC)
    cases p
    all_goals try simp only [cond_true, cond_false]
    all_goals unfold Facts.one
    all_goals go_simp
    all_goals first | exact ⟨Grew.refl _, rfl⟩ | rfl | (refine (Hba.out W).mono ?_; rintro e w' ⟨rfl, hg⟩; exact ⟨_, rfl, hg, rfl⟩)
  simp only [Act.put, List.setIfInBounds_toArray, List.set_cons_zero, List.set_cons_succ, Nat.reduceAdd]
  apply Facts.Lex.exact [] (bif p then .agg #[.int .i64 v, .int .u64 (c.toNat : Int)] else undef) (by kernel_rfl)
  · intro u W hC _
    obtain ⟨a0, a1, _, _⟩ := lab_cells (lab_keep A0.out hC)
    obtain ⟨b0, b1, _, _⟩ := lab_cells (lab_keep B0.out hC)
    obtain ⟨c0, c1, _, _⟩ := lab_cells (lab_keep C0.out hC)
    obtain ⟨j0, j1, _, _⟩ := lab_cells (lab_keep J0.out hC)
    obtain ⟨m0, m1, _, _⟩ := lab_cells (lab_keep M0.out hC)
    cases p
    all_goals try simp only [cond_true, cond_false]
    all_goals unfold Facts.one
    all_goals go_simp
    all_goals first | exact ⟨Grew.refl _, rfl⟩ | rfl
  simp only [Act.put, List.setIfInBounds_toArray, List.set_cons_zero, List.set_cons_succ, Nat.reduceAdd]
  apply Facts.Lex.exact [] (bif p then .agg #[.int .i64 v2, .int .u64 (c2.toNat : Int)] else undef) (by kernel_rfl)
  · intro u W hC _
    obtain ⟨a0, a1, _, _⟩ := lab_cells (lab_keep A0.out hC)
    obtain ⟨b0, b1, _, _⟩ := lab_cells (lab_keep B0.out hC)
    obtain ⟨c0, c1, _, _⟩ := lab_cells (lab_keep C0.out hC)
    obtain ⟨j0, j1, _, _⟩ := lab_cells (lab_keep J0.out hC)
    obtain ⟨m0, m1, _, _⟩ := lab_cells (lab_keep M0.out hC)
    cases p
    all_goals try simp only [cond_true, cond_false]
    all_goals unfold Facts.one
    all_goals go_simp
    all_goals first | exact ⟨Grew.refl _, rfl⟩ | rfl
  simp only [Act.put, List.setIfInBounds_toArray, List.set_cons_zero, List.set_cons_succ, Nat.reduceAdd]
  apply Facts.Lex.exact [] (bif p then .bool e else undef) (by kernel_rfl)
  · intro u W hC _
    obtain ⟨a0, a1, _, _⟩ := lab_cells (lab_keep A0.out hC)
    obtain ⟨b0, b1, _, _⟩ := lab_cells (lab_keep B0.out hC)
    obtain ⟨c0, c1, _, _⟩ := lab_cells (lab_keep C0.out hC)
    obtain ⟨j0, j1, _, _⟩ := lab_cells (lab_keep J0.out hC)
    obtain ⟨m0, m1, _, _⟩ := lab_cells (lab_keep M0.out hC)
    cases p
    all_goals try simp only [cond_true, cond_false]
    all_goals unfold Facts.one
    all_goals go_simp
    all_goals first | exact ⟨Grew.refl _, rfl⟩ | rfl | exact same_ e v v2 c.toNat c2.toNat W HE.out
  simp only [Act.put, List.setIfInBounds_toArray, List.set_cons_zero, List.set_cons_succ, Nat.reduceAdd]
  apply Facts.Lex.exact [] (bif p then .bool false else undef) (by kernel_rfl)
  · intro u W hC _
    obtain ⟨a0, a1, _, _⟩ := lab_cells (lab_keep A0.out hC)
    obtain ⟨b0, b1, _, _⟩ := lab_cells (lab_keep B0.out hC)
    obtain ⟨c0, c1, _, _⟩ := lab_cells (lab_keep C0.out hC)
    obtain ⟨j0, j1, _, _⟩ := lab_cells (lab_keep J0.out hC)
    obtain ⟨m0, m1, _, _⟩ := lab_cells (lab_keep M0.out hC)
    cases p
    all_goals try simp only [cond_true, cond_false]
    all_goals unfold Facts.one
    all_goals go_simp
    all_goals first | exact ⟨Grew.refl _, rfl⟩ | rfl | exact ⟨Grew.refl _, congrArg Value.bool (HPQ.out rfl)⟩
  simp only [Act.put, List.setIfInBounds_toArray, List.set_cons_zero, List.set_cons_succ, Nat.reduceAdd]
  apply Facts.Lex.exact [] (.bool false) (by kernel_rfl)
  · intro u W hC _
    obtain ⟨a0, a1, _, _⟩ := lab_cells (lab_keep A0.out hC)
    obtain ⟨b0, b1, _, _⟩ := lab_cells (lab_keep B0.out hC)
    obtain ⟨c0, c1, _, _⟩ := lab_cells (lab_keep C0.out hC)
    obtain ⟨j0, j1, _, _⟩ := lab_cells (lab_keep J0.out hC)
    obtain ⟨m0, m1, _, _⟩ := lab_cells (lab_keep M0.out hC)
    cases p
    all_goals try simp only [cond_true, cond_false]
    all_goals unfold Facts.one
    all_goals go_simp
    all_goals first | exact ⟨Grew.refl _, rfl⟩ | rfl
  simp only [Act.put, List.setIfInBounds_toArray, List.set_cons_zero, List.set_cons_succ, Nat.reduceAdd]
  apply Facts.Lex.exact [] (.bool false) (by kernel_rfl)
  · intro u W hC _
    obtain ⟨a0, a1, _, _⟩ := lab_cells (lab_keep A0.out hC)
    obtain ⟨b0, b1, _, _⟩ := lab_cells (lab_keep B0.out hC)
    obtain ⟨c0, c1, _, _⟩ := lab_cells (lab_keep C0.out hC)
    obtain ⟨j0, j1, _, _⟩ := lab_cells (lab_keep J0.out hC)
    obtain ⟨m0, m1, _, _⟩ := lab_cells (lab_keep M0.out hC)
    unfold Facts.one
    go_simp
    first | exact ⟨Grew.refl _, rfl⟩ | rfl
  simp only [Act.put, List.setIfInBounds_toArray, List.set_cons_zero, List.set_cons_succ, Nat.reduceAdd]
  apply Facts.Lex.exact [] (.bool false) (by kernel_rfl)
  · intro u W hC _
    obtain ⟨a0, a1, _, _⟩ := lab_cells (lab_keep A0.out hC)
    obtain ⟨b0, b1, _, _⟩ := lab_cells (lab_keep B0.out hC)
    obtain ⟨c0, c1, _, _⟩ := lab_cells (lab_keep C0.out hC)
    obtain ⟨j0, j1, _, _⟩ := lab_cells (lab_keep J0.out hC)
    obtain ⟨m0, m1, _, _⟩ := lab_cells (lab_keep M0.out hC)
    unfold Facts.one
    go_simp
    first | exact ⟨Grew.refl _, rfl⟩ | rfl
  simp only [Act.put, List.setIfInBounds_toArray, List.set_cons_zero, List.set_cons_succ, Nat.reduceAdd]
  apply Facts.Lex.exact [] (.agg #[.int .i64 v, .int .u64 (c.toNat : Int)]) (by kernel_rfl)
  · intro u W hC _
    obtain ⟨a0, a1, _, _⟩ := lab_cells (lab_keep A0.out hC)
    obtain ⟨b0, b1, _, _⟩ := lab_cells (lab_keep B0.out hC)
    obtain ⟨c0, c1, _, _⟩ := lab_cells (lab_keep C0.out hC)
    obtain ⟨j0, j1, _, _⟩ := lab_cells (lab_keep J0.out hC)
    obtain ⟨m0, m1, _, _⟩ := lab_cells (lab_keep M0.out hC)
    unfold Facts.one
    go_simp
    first | exact ⟨Grew.refl _, rfl⟩ | rfl
  simp only [Act.put, List.setIfInBounds_toArray, List.set_cons_zero, List.set_cons_succ, Nat.reduceAdd]
  apply Facts.Lex.exact [] (.agg #[.int .i64 v2, .int .u64 (c2.toNat : Int)]) (by kernel_rfl)
  · intro u W hC _
    obtain ⟨a0, a1, _, _⟩ := lab_cells (lab_keep A0.out hC)
    obtain ⟨b0, b1, _, _⟩ := lab_cells (lab_keep B0.out hC)
    obtain ⟨c0, c1, _, _⟩ := lab_cells (lab_keep C0.out hC)
    obtain ⟨j0, j1, _, _⟩ := lab_cells (lab_keep J0.out hC)
    obtain ⟨m0, m1, _, _⟩ := lab_cells (lab_keep M0.out hC)
    unfold Facts.one
    go_simp
    first | exact ⟨Grew.refl _, rfl⟩ | rfl
  simp only [Act.put, List.setIfInBounds_toArray, List.set_cons_zero, List.set_cons_succ, Nat.reduceAdd]
  apply Facts.Lex.exact [] (.bool p) (by kernel_rfl)
  · intro u W hC _
    obtain ⟨a0, a1, _, _⟩ := lab_cells (lab_keep A0.out hC)
    obtain ⟨b0, b1, _, _⟩ := lab_cells (lab_keep B0.out hC)
    obtain ⟨c0, c1, _, _⟩ := lab_cells (lab_keep C0.out hC)
    obtain ⟨j0, j1, _, _⟩ := lab_cells (lab_keep J0.out hC)
    obtain ⟨m0, m1, _, _⟩ := lab_cells (lab_keep M0.out hC)
    unfold Facts.one
    go_simp
    first | exact ⟨Grew.refl _, rfl⟩ | rfl | (refine (Hab.out W).mono ?_; rintro e w' ⟨rfl, hg⟩; exact ⟨_, rfl, hg, rfl⟩)
  simp only [Act.put, List.setIfInBounds_toArray, List.set_cons_zero, List.set_cons_succ, Nat.reduceAdd]
  apply Facts.Lex.exact [] (.bool p) (by kernel_rfl)
  · intro u W hC _
    obtain ⟨a0, a1, _, _⟩ := lab_cells (lab_keep A0.out hC)
    obtain ⟨b0, b1, _, _⟩ := lab_cells (lab_keep B0.out hC)
    obtain ⟨c0, c1, _, _⟩ := lab_cells (lab_keep C0.out hC)
    obtain ⟨j0, j1, _, _⟩ := lab_cells (lab_keep J0.out hC)
    obtain ⟨m0, m1, _, _⟩ := lab_cells (lab_keep M0.out hC)
    unfold Facts.one
    go_simp
    first | exact ⟨Grew.refl _, rfl⟩ | rfl
  simp only [Act.put, List.setIfInBounds_toArray, List.set_cons_zero, List.set_cons_succ, Nat.reduceAdd]
  apply Facts.Lex.exact [] (bif p then .agg #[.int .i64 v2, .int .u64 (c2.toNat : Int)] else undef) (by kernel_rfl)
  · intro u W hC _
    obtain ⟨a0, a1, _, _⟩ := lab_cells (lab_keep A0.out hC)
    obtain ⟨b0, b1, _, _⟩ := lab_cells (lab_keep B0.out hC)
    obtain ⟨c0, c1, _, _⟩ := lab_cells (lab_keep C0.out hC)
    obtain ⟨j0, j1, _, _⟩ := lab_cells (lab_keep J0.out hC)
    obtain ⟨m0, m1, _, _⟩ := lab_cells (lab_keep M0.out hC)
    cases p
    all_goals try simp only [cond_true, cond_false]
    all_goals unfold Facts.one
    all_goals go_simp
    all_goals first | exact ⟨Grew.refl _, rfl⟩ | rfl
  simp only [Act.put, List.setIfInBounds_toArray, List.set_cons_zero, List.set_cons_succ, Nat.reduceAdd]
  apply Facts.Lex.exact [] (bif p then .agg #[.int .i64 v3, .int .u64 (c3.toNat : Int)] else undef) (by kernel_rfl)
  · intro u W hC _
    obtain ⟨a0, a1, _, _⟩ := lab_cells (lab_keep A0.out hC)
    obtain ⟨b0, b1, _, _⟩ := lab_cells (lab_keep B0.out hC)
    obtain ⟨c0, c1, _, _⟩ := lab_cells (lab_keep C0.out hC)
    obtain ⟨j0, j1, _, _⟩ := lab_cells (lab_keep J0.out hC)
    obtain ⟨m0, m1, _, _⟩ := lab_cells (lab_keep M0.out hC)
    cases p
    all_goals try simp only [cond_true, cond_false]
    all_goals unfold Facts.one
    all_goals go_simp
    all_goals first | exact ⟨Grew.refl _, rfl⟩ | rfl
  simp only [Act.put, List.setIfInBounds_toArray, List.set_cons_zero, List.set_cons_succ, Nat.reduceAdd]
  apply Facts.Lex.exact [] (bif p then .bool r else undef) (by kernel_rfl)
  · intro u W hC _
    obtain ⟨a0, a1, _, _⟩ := lab_cells (lab_keep A0.out hC)
    obtain ⟨b0, b1, _, _⟩ := lab_cells (lab_keep B0.out hC)
    obtain ⟨c0, c1, _, _⟩ := lab_cells (lab_keep C0.out hC)
    obtain ⟨j0, j1, _, _⟩ := lab_cells (lab_keep J0.out hC)
    obtain ⟨m0, m1, _, _⟩ := lab_cells (lab_keep M0.out hC)
    cases p
    all_goals try simp only [cond_true, cond_false]
    all_goals unfold Facts.one
    all_goals go_simp
    all_goals first | exact ⟨Grew.refl _, rfl⟩ | rfl | (refine (Hbc.out W).mono ?_; rintro e w' ⟨rfl, hg⟩; exact ⟨_, rfl, hg, rfl⟩)
  simp only [Act.put, List.setIfInBounds_toArray, List.set_cons_zero, List.set_cons_succ, Nat.reduceAdd]
  apply Facts.Lex.exact [] (.bool z) (by kernel_rfl)
  · intro u W hC _
    obtain ⟨a0, a1, _, _⟩ := lab_cells (lab_keep A0.out hC)
    obtain ⟨b0, b1, _, _⟩ := lab_cells (lab_keep B0.out hC)
    obtain ⟨c0, c1, _, _⟩ := lab_cells (lab_keep C0.out hC)
    obtain ⟨j0, j1, _, _⟩ := lab_cells (lab_keep J0.out hC)
    obtain ⟨m0, m1, _, _⟩ := lab_cells (lab_keep M0.out hC)
    cases p
    all_goals try simp only [cond_true, cond_false]
    all_goals unfold Facts.one
    all_goals go_simp
    all_goals first | exact ⟨Grew.refl _, rfl⟩ | rfl | exact ⟨Grew.refl _, by rw [HZ.out]; rfl⟩
  simp only [Act.put, List.setIfInBounds_toArray, List.set_cons_zero, List.set_cons_succ, Nat.reduceAdd]
  apply Facts.Lex.exact [] (.bool z) (by kernel_rfl)
  · intro u W hC _
    obtain ⟨a0, a1, _, _⟩ := lab_cells (lab_keep A0.out hC)
    obtain ⟨b0, b1, _, _⟩ := lab_cells (lab_keep B0.out hC)
    obtain ⟨c0, c1, _, _⟩ := lab_cells (lab_keep C0.out hC)
    obtain ⟨j0, j1, _, _⟩ := lab_cells (lab_keep J0.out hC)
    obtain ⟨m0, m1, _, _⟩ := lab_cells (lab_keep M0.out hC)
    unfold Facts.one
    go_simp
    first | exact ⟨Grew.refl _, rfl⟩ | rfl
  simp only [Act.put, List.setIfInBounds_toArray, List.set_cons_zero, List.set_cons_succ, Nat.reduceAdd]
  apply Facts.Lex.exact [] (bif z then .agg #[.int .i64 v, .int .u64 (c.toNat : Int)] else undef) (by kernel_rfl)
  · intro u W hC _
    obtain ⟨a0, a1, _, _⟩ := lab_cells (lab_keep A0.out hC)
    obtain ⟨b0, b1, _, _⟩ := lab_cells (lab_keep B0.out hC)
    obtain ⟨c0, c1, _, _⟩ := lab_cells (lab_keep C0.out hC)
    obtain ⟨j0, j1, _, _⟩ := lab_cells (lab_keep J0.out hC)
    obtain ⟨m0, m1, _, _⟩ := lab_cells (lab_keep M0.out hC)
    cases z
    all_goals try simp only [cond_true, cond_false]
    all_goals unfold Facts.one
    all_goals go_simp
    all_goals first | exact ⟨Grew.refl _, rfl⟩ | rfl
  simp only [Act.put, List.setIfInBounds_toArray, List.set_cons_zero, List.set_cons_succ, Nat.reduceAdd]
  apply Facts.Lex.exact [] (bif z then .agg #[.int .i64 v3, .int .u64 (c3.toNat : Int)] else undef) (by kernel_rfl)
  · intro u W hC _
    obtain ⟨a0, a1, _, _⟩ := lab_cells (lab_keep A0.out hC)
    obtain ⟨b0, b1, _, _⟩ := lab_cells (lab_keep B0.out hC)
    obtain ⟨c0, c1, _, _⟩ := lab_cells (lab_keep C0.out hC)
    obtain ⟨j0, j1, _, _⟩ := lab_cells (lab_keep J0.out hC)
    obtain ⟨m0, m1, _, _⟩ := lab_cells (lab_keep M0.out hC)
    cases z
    all_goals try simp only [cond_true, cond_false]
    all_goals unfold Facts.one
    all_goals go_simp
    all_goals first | exact ⟨Grew.refl _, rfl⟩ | rfl
  simp only [Act.put, List.setIfInBounds_toArray, List.set_cons_zero, List.set_cons_succ, Nat.reduceAdd]
  apply Facts.Lex.exact [] (bif z then .bool true else undef) (by kernel_rfl)
  · intro u W hC _
    obtain ⟨a0, a1, _, _⟩ := lab_cells (lab_keep A0.out hC)
    obtain ⟨b0, b1, _, _⟩ := lab_cells (lab_keep B0.out hC)
    obtain ⟨c0, c1, _, _⟩ := lab_cells (lab_keep C0.out hC)
    obtain ⟨j0, j1, _, _⟩ := lab_cells (lab_keep J0.out hC)
    obtain ⟨m0, m1, _, _⟩ := lab_cells (lab_keep M0.out hC)
    cases z
    all_goals try simp only [cond_true, cond_false]
    all_goals unfold Facts.one
    all_goals go_simp
    all_goals first | exact ⟨Grew.refl _, rfl⟩ | rfl | (refine (Hact.out rfl W).mono ?_; rintro e w' ⟨rfl, hg⟩; exact ⟨_, rfl, hg, rfl⟩)
  simp only [Act.put, List.setIfInBounds_toArray, List.set_cons_zero, List.set_cons_succ, Nat.reduceAdd]
  apply Facts.Lex.exact [] (bif z then .bool false else undef) (by kernel_rfl)
  · intro u W hC _
    obtain ⟨a0, a1, _, _⟩ := lab_cells (lab_keep A0.out hC)
    obtain ⟨b0, b1, _, _⟩ := lab_cells (lab_keep B0.out hC)
    obtain ⟨c0, c1, _, _⟩ := lab_cells (lab_keep C0.out hC)
    obtain ⟨j0, j1, _, _⟩ := lab_cells (lab_keep J0.out hC)
    obtain ⟨m0, m1, _, _⟩ := lab_cells (lab_keep M0.out hC)
    cases z
    all_goals try simp only [cond_true, cond_false]
    all_goals unfold Facts.one
    all_goals go_simp
    all_goals first | exact ⟨Grew.refl _, rfl⟩ | rfl
  simp only [Act.put, List.setIfInBounds_toArray, List.set_cons_zero, List.set_cons_succ, Nat.reduceAdd]
  apply Facts.Lex.exact [] (.bool false) (by kernel_rfl)
  · intro u W hC _
    obtain ⟨a0, a1, _, _⟩ := lab_cells (lab_keep A0.out hC)
    obtain ⟨b0, b1, _, _⟩ := lab_cells (lab_keep B0.out hC)
    obtain ⟨c0, c1, _, _⟩ := lab_cells (lab_keep C0.out hC)
    obtain ⟨j0, j1, _, _⟩ := lab_cells (lab_keep J0.out hC)
    obtain ⟨m0, m1, _, _⟩ := lab_cells (lab_keep M0.out hC)
    cases z
    all_goals try simp only [cond_true, cond_false]
    all_goals unfold Facts.one
    all_goals go_simp
    all_goals first | exact ⟨Grew.refl _, rfl⟩ | rfl
  simp only [Act.put, List.setIfInBounds_toArray, List.set_cons_zero, List.set_cons_succ, Nat.reduceAdd]
  apply Facts.Lex.exact [] (.bool false) (by kernel_rfl)
  · intro u W hC _
    obtain ⟨a0, a1, _, _⟩ := lab_cells (lab_keep A0.out hC)
    obtain ⟨b0, b1, _, _⟩ := lab_cells (lab_keep B0.out hC)
    obtain ⟨c0, c1, _, _⟩ := lab_cells (lab_keep C0.out hC)
    obtain ⟨j0, j1, _, _⟩ := lab_cells (lab_keep J0.out hC)
    obtain ⟨m0, m1, _, _⟩ := lab_cells (lab_keep M0.out hC)
    unfold Facts.one
    go_simp
    first | exact ⟨Grew.refl _, rfl⟩ | rfl
  simp only [Act.put, List.setIfInBounds_toArray, List.set_cons_zero, List.set_cons_succ, Nat.reduceAdd]
  refine Facts.Lex.done fun u W2 hC hL => ?_
  replace A0 := Lib.hid (lab_keep A0.out hC)
  replace B0 := Lib.hid (lab_keep B0.out hC)
  replace C0 := Lib.hid (lab_keep C0.out hC)
  replace J0 := Lib.hid (lab_keep J0.out hC)
  replace M0 := Lib.hid (lab_keep M0.out hC)
  replace G0 := Lib.hid (G0.out.trans hC)
  clear hC hL
  go_wp2
  refine Facts.wp_region_text (by kernel_rfl) (by kernel_rfl) ?_
  apply Facts.Lex.exact [] (.agg #[.int .i64 v, .int .u64 (c.toNat : Int)]) (by kernel_rfl)
  · intro u W hC _
    obtain ⟨a0, a1, _, _⟩ := lab_cells (lab_keep A0.out hC)
    obtain ⟨b0, b1, _, _⟩ := lab_cells (lab_keep B0.out hC)
    obtain ⟨c0, c1, _, _⟩ := lab_cells (lab_keep C0.out hC)
    obtain ⟨j0, j1, _, _⟩ := lab_cells (lab_keep J0.out hC)
    obtain ⟨m0, m1, _, _⟩ := lab_cells (lab_keep M0.out hC)
    unfold Facts.one
    go_simp
    first | exact ⟨Grew.refl _, rfl⟩ | rfl
  simp only [Act.put, List.setIfInBounds_toArray, List.set_cons_zero, List.set_cons_succ, Nat.reduceAdd]
  apply Facts.Lex.exact [] (.agg #[.int .i64 vj, .int .u64 nj]) (by kernel_rfl)
  · intro u W hC _
    obtain ⟨a0, a1, _, _⟩ := lab_cells (lab_keep A0.out hC)
    obtain ⟨b0, b1, _, _⟩ := lab_cells (lab_keep B0.out hC)
    obtain ⟨c0, c1, _, _⟩ := lab_cells (lab_keep C0.out hC)
    obtain ⟨j0, j1, _, _⟩ := lab_cells (lab_keep J0.out hC)
    obtain ⟨m0, m1, _, _⟩ := lab_cells (lab_keep M0.out hC)
    unfold Facts.one
    go_simp
    first | exact ⟨Grew.refl _, rfl⟩ | rfl
  simp only [Act.put, List.setIfInBounds_toArray, List.set_cons_zero, List.set_cons_succ, Nat.reduceAdd]
  apply Facts.Lex.exact [] (.bool true) (by kernel_rfl)
  · intro u W hC _
    obtain ⟨a0, a1, _, _⟩ := lab_cells (lab_keep A0.out hC)
    obtain ⟨b0, b1, _, _⟩ := lab_cells (lab_keep B0.out hC)
    obtain ⟨c0, c1, _, _⟩ := lab_cells (lab_keep C0.out hC)
    obtain ⟨j0, j1, _, _⟩ := lab_cells (lab_keep J0.out hC)
    obtain ⟨m0, m1, _, _⟩ := lab_cells (lab_keep M0.out hC)
    unfold Facts.one
    go_simp
    first | exact ⟨Grew.refl _, rfl⟩ | rfl | (refine (Haj.out W).mono ?_; rintro e w' ⟨rfl, hg⟩; exact ⟨_, rfl, hg, rfl⟩)
  simp only [Act.put, List.setIfInBounds_toArray, List.set_cons_zero, List.set_cons_succ, Nat.reduceAdd]
  apply Facts.Lex.exact [] (.bool false) (by kernel_rfl)
  · intro u W hC _
    obtain ⟨a0, a1, _, _⟩ := lab_cells (lab_keep A0.out hC)
    obtain ⟨b0, b1, _, _⟩ := lab_cells (lab_keep B0.out hC)
    obtain ⟨c0, c1, _, _⟩ := lab_cells (lab_keep C0.out hC)
    obtain ⟨j0, j1, _, _⟩ := lab_cells (lab_keep J0.out hC)
    obtain ⟨m0, m1, _, _⟩ := lab_cells (lab_keep M0.out hC)
    unfold Facts.one
    go_simp
    first | exact ⟨Grew.refl _, rfl⟩ | rfl
  simp only [Act.put, List.setIfInBounds_toArray, List.set_cons_zero, List.set_cons_succ, Nat.reduceAdd]
  apply Facts.Lex.exact [] (.bool false) (by kernel_rfl)
  · intro u W hC _
    obtain ⟨a0, a1, _, _⟩ := lab_cells (lab_keep A0.out hC)
    obtain ⟨b0, b1, _, _⟩ := lab_cells (lab_keep B0.out hC)
    obtain ⟨c0, c1, _, _⟩ := lab_cells (lab_keep C0.out hC)
    obtain ⟨j0, j1, _, _⟩ := lab_cells (lab_keep J0.out hC)
    obtain ⟨m0, m1, _, _⟩ := lab_cells (lab_keep M0.out hC)
    unfold Facts.one
    go_simp
    first | exact ⟨Grew.refl _, rfl⟩ | rfl
  simp only [Act.put, List.setIfInBounds_toArray, List.set_cons_zero, List.set_cons_succ, Nat.reduceAdd]
  apply Facts.Lex.exact [] (.agg #[.int .i64 v2, .int .u64 (c2.toNat : Int)]) (by kernel_rfl)
  · intro u W hC _
    obtain ⟨a0, a1, _, _⟩ := lab_cells (lab_keep A0.out hC)
    obtain ⟨b0, b1, _, _⟩ := lab_cells (lab_keep B0.out hC)
    obtain ⟨c0, c1, _, _⟩ := lab_cells (lab_keep C0.out hC)
    obtain ⟨j0, j1, _, _⟩ := lab_cells (lab_keep J0.out hC)
    obtain ⟨m0, m1, _, _⟩ := lab_cells (lab_keep M0.out hC)
    unfold Facts.one
    go_simp
    first | exact ⟨Grew.refl _, rfl⟩ | rfl
  simp only [Act.put, List.setIfInBounds_toArray, List.set_cons_zero, List.set_cons_succ, Nat.reduceAdd]
  apply Facts.Lex.exact [] (.agg #[.int .i64 vj, .int .u64 nj]) (by kernel_rfl)
  · intro u W hC _
    obtain ⟨a0, a1, _, _⟩ := lab_cells (lab_keep A0.out hC)
    obtain ⟨b0, b1, _, _⟩ := lab_cells (lab_keep B0.out hC)
    obtain ⟨c0, c1, _, _⟩ := lab_cells (lab_keep C0.out hC)
    obtain ⟨j0, j1, _, _⟩ := lab_cells (lab_keep J0.out hC)
    obtain ⟨m0, m1, _, _⟩ := lab_cells (lab_keep M0.out hC)
    unfold Facts.one
    go_simp
    first | exact ⟨Grew.refl _, rfl⟩ | rfl
  simp only [Act.put, List.setIfInBounds_toArray, List.set_cons_zero, List.set_cons_succ, Nat.reduceAdd]
  apply Facts.Lex.exact [] (.bool true) (by kernel_rfl)
  · intro u W hC _
    obtain ⟨a0, a1, _, _⟩ := lab_cells (lab_keep A0.out hC)
    obtain ⟨b0, b1, _, _⟩ := lab_cells (lab_keep B0.out hC)
    obtain ⟨c0, c1, _, _⟩ := lab_cells (lab_keep C0.out hC)
    obtain ⟨j0, j1, _, _⟩ := lab_cells (lab_keep J0.out hC)
    obtain ⟨m0, m1, _, _⟩ := lab_cells (lab_keep M0.out hC)
    unfold Facts.one
    go_simp
    first | exact ⟨Grew.refl _, rfl⟩ | rfl | (refine (Hbj.out W).mono ?_; rintro e w' ⟨rfl, hg⟩; exact ⟨_, rfl, hg, rfl⟩)
  simp only [Act.put, List.setIfInBounds_toArray, List.set_cons_zero, List.set_cons_succ, Nat.reduceAdd]
  apply Facts.Lex.exact [] (.bool false) (by kernel_rfl)
  · intro u W hC _
    obtain ⟨a0, a1, _, _⟩ := lab_cells (lab_keep A0.out hC)
    obtain ⟨b0, b1, _, _⟩ := lab_cells (lab_keep B0.out hC)
    obtain ⟨c0, c1, _, _⟩ := lab_cells (lab_keep C0.out hC)
    obtain ⟨j0, j1, _, _⟩ := lab_cells (lab_keep J0.out hC)
    obtain ⟨m0, m1, _, _⟩ := lab_cells (lab_keep M0.out hC)
    unfold Facts.one
    go_simp
    first | exact ⟨Grew.refl _, rfl⟩ | rfl
  simp only [Act.put, List.setIfInBounds_toArray, List.set_cons_zero, List.set_cons_succ, Nat.reduceAdd]
  apply Facts.Lex.exact [] (.bool false) (by kernel_rfl)
  · intro u W hC _
    obtain ⟨a0, a1, _, _⟩ := lab_cells (lab_keep A0.out hC)
    obtain ⟨b0, b1, _, _⟩ := lab_cells (lab_keep B0.out hC)
    obtain ⟨c0, c1, _, _⟩ := lab_cells (lab_keep C0.out hC)
    obtain ⟨j0, j1, _, _⟩ := lab_cells (lab_keep J0.out hC)
    obtain ⟨m0, m1, _, _⟩ := lab_cells (lab_keep M0.out hC)
    unfold Facts.one
    go_simp
    first | exact ⟨Grew.refl _, rfl⟩ | rfl
  simp only [Act.put, List.setIfInBounds_toArray, List.set_cons_zero, List.set_cons_succ, Nat.reduceAdd]
  apply Facts.Lex.exact [] (.bool false) (by kernel_rfl)
  · intro u W hC _
    obtain ⟨a0, a1, _, _⟩ := lab_cells (lab_keep A0.out hC)
    obtain ⟨b0, b1, _, _⟩ := lab_cells (lab_keep B0.out hC)
    obtain ⟨c0, c1, _, _⟩ := lab_cells (lab_keep C0.out hC)
    obtain ⟨j0, j1, _, _⟩ := lab_cells (lab_keep J0.out hC)
    obtain ⟨m0, m1, _, _⟩ := lab_cells (lab_keep M0.out hC)
    unfold Facts.one
    go_simp
    first | exact ⟨Grew.refl _, rfl⟩ | rfl
  simp only [Act.put, List.setIfInBounds_toArray, List.set_cons_zero, List.set_cons_succ, Nat.reduceAdd]
  apply Facts.Lex.exact [] (.agg #[.int .i64 vm, .int .u64 nm]) (by kernel_rfl)
  · intro u W hC _
    obtain ⟨a0, a1, _, _⟩ := lab_cells (lab_keep A0.out hC)
    obtain ⟨b0, b1, _, _⟩ := lab_cells (lab_keep B0.out hC)
    obtain ⟨c0, c1, _, _⟩ := lab_cells (lab_keep C0.out hC)
    obtain ⟨j0, j1, _, _⟩ := lab_cells (lab_keep J0.out hC)
    obtain ⟨m0, m1, _, _⟩ := lab_cells (lab_keep M0.out hC)
    unfold Facts.one
    go_simp
    first | exact ⟨Grew.refl _, rfl⟩ | rfl
  simp only [Act.put, List.setIfInBounds_toArray, List.set_cons_zero, List.set_cons_succ, Nat.reduceAdd]
  apply Facts.Lex.exact [] (.agg #[.int .i64 v, .int .u64 (c.toNat : Int)]) (by kernel_rfl)
  · intro u W hC _
    obtain ⟨a0, a1, _, _⟩ := lab_cells (lab_keep A0.out hC)
    obtain ⟨b0, b1, _, _⟩ := lab_cells (lab_keep B0.out hC)
    obtain ⟨c0, c1, _, _⟩ := lab_cells (lab_keep C0.out hC)
    obtain ⟨j0, j1, _, _⟩ := lab_cells (lab_keep J0.out hC)
    obtain ⟨m0, m1, _, _⟩ := lab_cells (lab_keep M0.out hC)
    unfold Facts.one
    go_simp
    first | exact ⟨Grew.refl _, rfl⟩ | rfl
  simp only [Act.put, List.setIfInBounds_toArray, List.set_cons_zero, List.set_cons_succ, Nat.reduceAdd]
  apply Facts.Lex.exact [] (.bool true) (by kernel_rfl)
  · intro u W hC _
    obtain ⟨a0, a1, _, _⟩ := lab_cells (lab_keep A0.out hC)
    obtain ⟨b0, b1, _, _⟩ := lab_cells (lab_keep B0.out hC)
    obtain ⟨c0, c1, _, _⟩ := lab_cells (lab_keep C0.out hC)
    obtain ⟨j0, j1, _, _⟩ := lab_cells (lab_keep J0.out hC)
    obtain ⟨m0, m1, _, _⟩ := lab_cells (lab_keep M0.out hC)
    unfold Facts.one
    go_simp
    first | exact ⟨Grew.refl _, rfl⟩ | rfl | (refine (Hma.out W).mono ?_; rintro e w' ⟨rfl, hg⟩; exact ⟨_, rfl, hg, rfl⟩)
  simp only [Act.put, List.setIfInBounds_toArray, List.set_cons_zero, List.set_cons_succ, Nat.reduceAdd]
  apply Facts.Lex.exact [] (.bool false) (by kernel_rfl)
  · intro u W hC _
    obtain ⟨a0, a1, _, _⟩ := lab_cells (lab_keep A0.out hC)
    obtain ⟨b0, b1, _, _⟩ := lab_cells (lab_keep B0.out hC)
    obtain ⟨c0, c1, _, _⟩ := lab_cells (lab_keep C0.out hC)
    obtain ⟨j0, j1, _, _⟩ := lab_cells (lab_keep J0.out hC)
    obtain ⟨m0, m1, _, _⟩ := lab_cells (lab_keep M0.out hC)
    unfold Facts.one
    go_simp
    first | exact ⟨Grew.refl _, rfl⟩ | rfl
  simp only [Act.put, List.setIfInBounds_toArray, List.set_cons_zero, List.set_cons_succ, Nat.reduceAdd]
  apply Facts.Lex.exact [] (.bool false) (by kernel_rfl)
  · intro u W hC _
    obtain ⟨a0, a1, _, _⟩ := lab_cells (lab_keep A0.out hC)
    obtain ⟨b0, b1, _, _⟩ := lab_cells (lab_keep B0.out hC)
    obtain ⟨c0, c1, _, _⟩ := lab_cells (lab_keep C0.out hC)
    obtain ⟨j0, j1, _, _⟩ := lab_cells (lab_keep J0.out hC)
    obtain ⟨m0, m1, _, _⟩ := lab_cells (lab_keep M0.out hC)
    unfold Facts.one
    go_simp
    first | exact ⟨Grew.refl _, rfl⟩ | rfl
  simp only [Act.put, List.setIfInBounds_toArray, List.set_cons_zero, List.set_cons_succ, Nat.reduceAdd]
  apply Facts.Lex.exact [] (.bool false) (by kernel_rfl)
  · intro u W hC _
    obtain ⟨a0, a1, _, _⟩ := lab_cells (lab_keep A0.out hC)
    obtain ⟨b0, b1, _, _⟩ := lab_cells (lab_keep B0.out hC)
    obtain ⟨c0, c1, _, _⟩ := lab_cells (lab_keep C0.out hC)
    obtain ⟨j0, j1, _, _⟩ := lab_cells (lab_keep J0.out hC)
    obtain ⟨m0, m1, _, _⟩ := lab_cells (lab_keep M0.out hC)
    unfold Facts.one
    go_simp
    first | exact ⟨Grew.refl _, rfl⟩ | rfl
  simp only [Act.put, List.setIfInBounds_toArray, List.set_cons_zero, List.set_cons_succ, Nat.reduceAdd]
  apply Facts.Lex.exact [] (.agg #[.int .i64 vm, .int .u64 nm]) (by kernel_rfl)
  · intro u W hC _
    obtain ⟨a0, a1, _, _⟩ := lab_cells (lab_keep A0.out hC)
    obtain ⟨b0, b1, _, _⟩ := lab_cells (lab_keep B0.out hC)
    obtain ⟨c0, c1, _, _⟩ := lab_cells (lab_keep C0.out hC)
    obtain ⟨j0, j1, _, _⟩ := lab_cells (lab_keep J0.out hC)
    obtain ⟨m0, m1, _, _⟩ := lab_cells (lab_keep M0.out hC)
    unfold Facts.one
    go_simp
    first | exact ⟨Grew.refl _, rfl⟩ | rfl
  simp only [Act.put, List.setIfInBounds_toArray, List.set_cons_zero, List.set_cons_succ, Nat.reduceAdd]
  apply Facts.Lex.exact [] (.agg #[.int .i64 v2, .int .u64 (c2.toNat : Int)]) (by kernel_rfl)
  · intro u W hC _
    obtain ⟨a0, a1, _, _⟩ := lab_cells (lab_keep A0.out hC)
    obtain ⟨b0, b1, _, _⟩ := lab_cells (lab_keep B0.out hC)
    obtain ⟨c0, c1, _, _⟩ := lab_cells (lab_keep C0.out hC)
    obtain ⟨j0, j1, _, _⟩ := lab_cells (lab_keep J0.out hC)
    obtain ⟨m0, m1, _, _⟩ := lab_cells (lab_keep M0.out hC)
    unfold Facts.one
    go_simp
    first | exact ⟨Grew.refl _, rfl⟩ | rfl
  simp only [Act.put, List.setIfInBounds_toArray, List.set_cons_zero, List.set_cons_succ, Nat.reduceAdd]
  apply Facts.Lex.exact [] (.bool true) (by kernel_rfl)
  · intro u W hC _
    obtain ⟨a0, a1, _, _⟩ := lab_cells (lab_keep A0.out hC)
    obtain ⟨b0, b1, _, _⟩ := lab_cells (lab_keep B0.out hC)
    obtain ⟨c0, c1, _, _⟩ := lab_cells (lab_keep C0.out hC)
    obtain ⟨j0, j1, _, _⟩ := lab_cells (lab_keep J0.out hC)
    obtain ⟨m0, m1, _, _⟩ := lab_cells (lab_keep M0.out hC)
    unfold Facts.one
    go_simp
    first | exact ⟨Grew.refl _, rfl⟩ | rfl | (refine (Hmb.out W).mono ?_; rintro e w' ⟨rfl, hg⟩; exact ⟨_, rfl, hg, rfl⟩)
  simp only [Act.put, List.setIfInBounds_toArray, List.set_cons_zero, List.set_cons_succ, Nat.reduceAdd]
  apply Facts.Lex.exact [] (.bool false) (by kernel_rfl)
  · intro u W hC _
    obtain ⟨a0, a1, _, _⟩ := lab_cells (lab_keep A0.out hC)
    obtain ⟨b0, b1, _, _⟩ := lab_cells (lab_keep B0.out hC)
    obtain ⟨c0, c1, _, _⟩ := lab_cells (lab_keep C0.out hC)
    obtain ⟨j0, j1, _, _⟩ := lab_cells (lab_keep J0.out hC)
    obtain ⟨m0, m1, _, _⟩ := lab_cells (lab_keep M0.out hC)
    unfold Facts.one
    go_simp
    first | exact ⟨Grew.refl _, rfl⟩ | rfl
  simp only [Act.put, List.setIfInBounds_toArray, List.set_cons_zero, List.set_cons_succ, Nat.reduceAdd]
  apply Facts.Lex.exact [] (.bool false) (by kernel_rfl)
  · intro u W hC _
    obtain ⟨a0, a1, _, _⟩ := lab_cells (lab_keep A0.out hC)
    obtain ⟨b0, b1, _, _⟩ := lab_cells (lab_keep B0.out hC)
    obtain ⟨c0, c1, _, _⟩ := lab_cells (lab_keep C0.out hC)
    obtain ⟨j0, j1, _, _⟩ := lab_cells (lab_keep J0.out hC)
    obtain ⟨m0, m1, _, _⟩ := lab_cells (lab_keep M0.out hC)
    unfold Facts.one
    go_simp
    first | exact ⟨Grew.refl _, rfl⟩ | rfl
  simp only [Act.put, List.setIfInBounds_toArray, List.set_cons_zero, List.set_cons_succ, Nat.reduceAdd]
  apply Facts.Lex.exact [] (.bool false) (by kernel_rfl)
  · intro u W hC _
    obtain ⟨a0, a1, _, _⟩ := lab_cells (lab_keep A0.out hC)
    obtain ⟨b0, b1, _, _⟩ := lab_cells (lab_keep B0.out hC)
    obtain ⟨c0, c1, _, _⟩ := lab_cells (lab_keep C0.out hC)
    obtain ⟨j0, j1, _, _⟩ := lab_cells (lab_keep J0.out hC)
    obtain ⟨m0, m1, _, _⟩ := lab_cells (lab_keep M0.out hC)
    unfold Facts.one
    go_simp
    first | exact ⟨Grew.refl _, rfl⟩ | rfl
  simp only [Act.put, List.setIfInBounds_toArray, List.set_cons_zero, List.set_cons_succ, Nat.reduceAdd]
  apply Facts.Lex.exact [] (.agg #[.int .i64 vj, .int .u64 nj]) (by kernel_rfl)
  · intro u W hC _
    obtain ⟨a0, a1, _, _⟩ := lab_cells (lab_keep A0.out hC)
    obtain ⟨b0, b1, _, _⟩ := lab_cells (lab_keep B0.out hC)
    obtain ⟨c0, c1, _, _⟩ := lab_cells (lab_keep C0.out hC)
    obtain ⟨j0, j1, _, _⟩ := lab_cells (lab_keep J0.out hC)
    obtain ⟨m0, m1, _, _⟩ := lab_cells (lab_keep M0.out hC)
    unfold Facts.one
    go_simp
    first | exact ⟨Grew.refl _, rfl⟩ | rfl
  simp only [Act.put, List.setIfInBounds_toArray, List.set_cons_zero, List.set_cons_succ, Nat.reduceAdd]
  apply Facts.Lex.exact [] (.agg #[.int .i64 v2, .int .u64 (c2.toNat : Int)]) (by kernel_rfl)
  · intro u W hC _
    obtain ⟨a0, a1, _, _⟩ := lab_cells (lab_keep A0.out hC)
    obtain ⟨b0, b1, _, _⟩ := lab_cells (lab_keep B0.out hC)
    obtain ⟨c0, c1, _, _⟩ := lab_cells (lab_keep C0.out hC)
    obtain ⟨j0, j1, _, _⟩ := lab_cells (lab_keep J0.out hC)
    obtain ⟨m0, m1, _, _⟩ := lab_cells (lab_keep M0.out hC)
    unfold Facts.one
    go_simp
    first | exact ⟨Grew.refl _, rfl⟩ | rfl
  simp only [Act.put, List.setIfInBounds_toArray, List.set_cons_zero, List.set_cons_succ, Nat.reduceAdd]
  apply Facts.Lex.exact [] (.agg #[.int .i64 v, .int .u64 (c.toNat : Int)]) (by kernel_rfl)
  · intro u W hC _
    obtain ⟨a0, a1, _, _⟩ := lab_cells (lab_keep A0.out hC)
    obtain ⟨b0, b1, _, _⟩ := lab_cells (lab_keep B0.out hC)
    obtain ⟨c0, c1, _, _⟩ := lab_cells (lab_keep C0.out hC)
    obtain ⟨j0, j1, _, _⟩ := lab_cells (lab_keep J0.out hC)
    obtain ⟨m0, m1, _, _⟩ := lab_cells (lab_keep M0.out hC)
    unfold Facts.one
    go_simp
    first | exact ⟨Grew.refl _, rfl⟩ | rfl
  simp only [Act.put, List.setIfInBounds_toArray, List.set_cons_zero, List.set_cons_succ, Nat.reduceAdd]
  apply Facts.Lex.exact [] (.agg #[.int .i64 vj, .int .u64 nj]) (by kernel_rfl)
  · intro u W hC _
    obtain ⟨a0, a1, _, _⟩ := lab_cells (lab_keep A0.out hC)
    obtain ⟨b0, b1, _, _⟩ := lab_cells (lab_keep B0.out hC)
    obtain ⟨c0, c1, _, _⟩ := lab_cells (lab_keep C0.out hC)
    obtain ⟨j0, j1, _, _⟩ := lab_cells (lab_keep J0.out hC)
    obtain ⟨m0, m1, _, _⟩ := lab_cells (lab_keep M0.out hC)
    unfold Facts.one
    go_simp
    first | exact ⟨Grew.refl _, rfl⟩ | rfl | (refine (HJ2.out W).mono ?_; rintro e w' ⟨rfl, hg⟩; exact ⟨_, rfl, hg, rfl⟩)
  simp only [Act.put, List.setIfInBounds_toArray, List.set_cons_zero, List.set_cons_succ, Nat.reduceAdd]
  apply Facts.Lex.exact [] (.bool false) (by kernel_rfl)
  · intro u W hC _
    obtain ⟨a0, a1, _, _⟩ := lab_cells (lab_keep A0.out hC)
    obtain ⟨b0, b1, _, _⟩ := lab_cells (lab_keep B0.out hC)
    obtain ⟨c0, c1, _, _⟩ := lab_cells (lab_keep C0.out hC)
    obtain ⟨j0, j1, _, _⟩ := lab_cells (lab_keep J0.out hC)
    obtain ⟨m0, m1, _, _⟩ := lab_cells (lab_keep M0.out hC)
    unfold Facts.one
    go_simp
    first | exact ⟨Grew.refl _, rfl⟩ | rfl | exact ⟨Grew.refl _, by simp⟩
  simp only [Act.put, List.setIfInBounds_toArray, List.set_cons_zero, List.set_cons_succ, Nat.reduceAdd]
  apply Facts.Lex.exact [] (.bool false) (by kernel_rfl)
  · intro u W hC _
    obtain ⟨a0, a1, _, _⟩ := lab_cells (lab_keep A0.out hC)
    obtain ⟨b0, b1, _, _⟩ := lab_cells (lab_keep B0.out hC)
    obtain ⟨c0, c1, _, _⟩ := lab_cells (lab_keep C0.out hC)
    obtain ⟨j0, j1, _, _⟩ := lab_cells (lab_keep J0.out hC)
    obtain ⟨m0, m1, _, _⟩ := lab_cells (lab_keep M0.out hC)
    unfold Facts.one
    go_simp
    first | exact ⟨Grew.refl _, rfl⟩ | rfl
  simp only [Act.put, List.setIfInBounds_toArray, List.set_cons_zero, List.set_cons_succ, Nat.reduceAdd]
  apply Facts.Lex.exact [] (.bool false) (by kernel_rfl)
  · intro u W hC _
    obtain ⟨a0, a1, _, _⟩ := lab_cells (lab_keep A0.out hC)
    obtain ⟨b0, b1, _, _⟩ := lab_cells (lab_keep B0.out hC)
    obtain ⟨c0, c1, _, _⟩ := lab_cells (lab_keep C0.out hC)
    obtain ⟨j0, j1, _, _⟩ := lab_cells (lab_keep J0.out hC)
    obtain ⟨m0, m1, _, _⟩ := lab_cells (lab_keep M0.out hC)
    unfold Facts.one
    go_simp
    first | exact ⟨Grew.refl _, rfl⟩ | rfl
  simp only [Act.put, List.setIfInBounds_toArray, List.set_cons_zero, List.set_cons_succ, Nat.reduceAdd]
  apply Facts.Lex.exact [] (.agg #[.int .i64 vm, .int .u64 nm]) (by kernel_rfl)
  · intro u W hC _
    obtain ⟨a0, a1, _, _⟩ := lab_cells (lab_keep A0.out hC)
    obtain ⟨b0, b1, _, _⟩ := lab_cells (lab_keep B0.out hC)
    obtain ⟨c0, c1, _, _⟩ := lab_cells (lab_keep C0.out hC)
    obtain ⟨j0, j1, _, _⟩ := lab_cells (lab_keep J0.out hC)
    obtain ⟨m0, m1, _, _⟩ := lab_cells (lab_keep M0.out hC)
    unfold Facts.one
    go_simp
    first | exact ⟨Grew.refl _, rfl⟩ | rfl
  simp only [Act.put, List.setIfInBounds_toArray, List.set_cons_zero, List.set_cons_succ, Nat.reduceAdd]
  apply Facts.Lex.exact [] (.agg #[.int .i64 v2, .int .u64 (c2.toNat : Int)]) (by kernel_rfl)
  · intro u W hC _
    obtain ⟨a0, a1, _, _⟩ := lab_cells (lab_keep A0.out hC)
    obtain ⟨b0, b1, _, _⟩ := lab_cells (lab_keep B0.out hC)
    obtain ⟨c0, c1, _, _⟩ := lab_cells (lab_keep C0.out hC)
    obtain ⟨j0, j1, _, _⟩ := lab_cells (lab_keep J0.out hC)
    obtain ⟨m0, m1, _, _⟩ := lab_cells (lab_keep M0.out hC)
    unfold Facts.one
    go_simp
    first | exact ⟨Grew.refl _, rfl⟩ | rfl
  simp only [Act.put, List.setIfInBounds_toArray, List.set_cons_zero, List.set_cons_succ, Nat.reduceAdd]
  apply Facts.Lex.exact [] (.agg #[.int .i64 v, .int .u64 (c.toNat : Int)]) (by kernel_rfl)
  · intro u W hC _
    obtain ⟨a0, a1, _, _⟩ := lab_cells (lab_keep A0.out hC)
    obtain ⟨b0, b1, _, _⟩ := lab_cells (lab_keep B0.out hC)
    obtain ⟨c0, c1, _, _⟩ := lab_cells (lab_keep C0.out hC)
    obtain ⟨j0, j1, _, _⟩ := lab_cells (lab_keep J0.out hC)
    obtain ⟨m0, m1, _, _⟩ := lab_cells (lab_keep M0.out hC)
    unfold Facts.one
    go_simp
    first | exact ⟨Grew.refl _, rfl⟩ | rfl
  simp only [Act.put, List.setIfInBounds_toArray, List.set_cons_zero, List.set_cons_succ, Nat.reduceAdd]
  apply Facts.Lex.exact [] (.agg #[.int .i64 vm, .int .u64 nm]) (by kernel_rfl)
  · intro u W hC _
    obtain ⟨a0, a1, _, _⟩ := lab_cells (lab_keep A0.out hC)
    obtain ⟨b0, b1, _, _⟩ := lab_cells (lab_keep B0.out hC)
    obtain ⟨c0, c1, _, _⟩ := lab_cells (lab_keep C0.out hC)
    obtain ⟨j0, j1, _, _⟩ := lab_cells (lab_keep J0.out hC)
    obtain ⟨m0, m1, _, _⟩ := lab_cells (lab_keep M0.out hC)
    unfold Facts.one
    go_simp
    first | exact ⟨Grew.refl _, rfl⟩ | rfl | (refine (HM2.out W).mono ?_; rintro e w' ⟨rfl, hg⟩; exact ⟨_, rfl, hg, rfl⟩)
  simp only [Act.put, List.setIfInBounds_toArray, List.set_cons_zero, List.set_cons_succ, Nat.reduceAdd]
  apply Facts.Lex.exact [] (.bool false) (by kernel_rfl)
  · intro u W hC _
    obtain ⟨a0, a1, _, _⟩ := lab_cells (lab_keep A0.out hC)
    obtain ⟨b0, b1, _, _⟩ := lab_cells (lab_keep B0.out hC)
    obtain ⟨c0, c1, _, _⟩ := lab_cells (lab_keep C0.out hC)
    obtain ⟨j0, j1, _, _⟩ := lab_cells (lab_keep J0.out hC)
    obtain ⟨m0, m1, _, _⟩ := lab_cells (lab_keep M0.out hC)
    unfold Facts.one
    go_simp
    first | exact ⟨Grew.refl _, rfl⟩ | rfl | exact ⟨Grew.refl _, by simp⟩
  simp only [Act.put, List.setIfInBounds_toArray, List.set_cons_zero, List.set_cons_succ, Nat.reduceAdd]
  apply Facts.Lex.exact [] (.bool false) (by kernel_rfl)
  · intro u W hC _
    obtain ⟨a0, a1, _, _⟩ := lab_cells (lab_keep A0.out hC)
    obtain ⟨b0, b1, _, _⟩ := lab_cells (lab_keep B0.out hC)
    obtain ⟨c0, c1, _, _⟩ := lab_cells (lab_keep C0.out hC)
    obtain ⟨j0, j1, _, _⟩ := lab_cells (lab_keep J0.out hC)
    obtain ⟨m0, m1, _, _⟩ := lab_cells (lab_keep M0.out hC)
    unfold Facts.one
    go_simp
    first | exact ⟨Grew.refl _, rfl⟩ | rfl
  simp only [Act.put, List.setIfInBounds_toArray, List.set_cons_zero, List.set_cons_succ, Nat.reduceAdd]
  refine Facts.Lex.done fun u W3 hC hL => ?_
  replace A0 := Lib.hid (lab_keep A0.out hC)
  replace B0 := Lib.hid (lab_keep B0.out hC)
  replace C0 := Lib.hid (lab_keep C0.out hC)
  replace J0 := Lib.hid (lab_keep J0.out hC)
  replace M0 := Lib.hid (lab_keep M0.out hC)
  replace G0 := Lib.hid (G0.out.trans hC)
  clear hC hL
  go_wp2
  refine Facts.wp_region_text (by kernel_rfl) (by kernel_rfl) ?_
  apply Facts.Lex.exact [] (.agg #[.int .i64 v, .int .u64 (c.toNat : Int)]) (by kernel_rfl)
  · intro u W hC _
    obtain ⟨a0, a1, _, _⟩ := lab_cells (lab_keep A0.out hC)
    obtain ⟨b0, b1, _, _⟩ := lab_cells (lab_keep B0.out hC)
    obtain ⟨c0, c1, _, _⟩ := lab_cells (lab_keep C0.out hC)
    obtain ⟨j0, j1, _, _⟩ := lab_cells (lab_keep J0.out hC)
    obtain ⟨m0, m1, _, _⟩ := lab_cells (lab_keep M0.out hC)
    unfold Facts.one
    go_simp
    first | exact ⟨Grew.refl _, rfl⟩ | rfl
  simp only [Act.put, List.setIfInBounds_toArray, List.set_cons_zero, List.set_cons_succ, Nat.reduceAdd]
  apply Facts.Lex.exact [] (.agg #[.int .i64 v3, .int .u64 (c3.toNat : Int)]) (by kernel_rfl)
  · intro u W hC _
    obtain ⟨a0, a1, _, _⟩ := lab_cells (lab_keep A0.out hC)
    obtain ⟨b0, b1, _, _⟩ := lab_cells (lab_keep B0.out hC)
    obtain ⟨c0, c1, _, _⟩ := lab_cells (lab_keep C0.out hC)
    obtain ⟨j0, j1, _, _⟩ := lab_cells (lab_keep J0.out hC)
    obtain ⟨m0, m1, _, _⟩ := lab_cells (lab_keep M0.out hC)
    unfold Facts.one
    go_simp
    first | exact ⟨Grew.refl _, rfl⟩ | rfl
  simp only [Act.put, List.setIfInBounds_toArray, List.set_cons_zero, List.set_cons_succ, Nat.reduceAdd]
  apply Facts.Lex.exact [] (.bool s) (by kernel_rfl)
  · intro u W hC _
    obtain ⟨a0, a1, _, _⟩ := lab_cells (lab_keep A0.out hC)
    obtain ⟨b0, b1, _, _⟩ := lab_cells (lab_keep B0.out hC)
    obtain ⟨c0, c1, _, _⟩ := lab_cells (lab_keep C0.out hC)
    obtain ⟨j0, j1, _, _⟩ := lab_cells (lab_keep J0.out hC)
    obtain ⟨m0, m1, _, _⟩ := lab_cells (lab_keep M0.out hC)
    unfold Facts.one
    go_simp
    first | exact ⟨Grew.refl _, rfl⟩ | rfl | (refine (Hac.out W).mono ?_; rintro e w' ⟨rfl, hg⟩; exact ⟨_, rfl, hg, rfl⟩)
  simp only [Act.put, List.setIfInBounds_toArray, List.set_cons_zero, List.set_cons_succ, Nat.reduceAdd]
  apply Facts.Lex.exact [] (.bool s) (by kernel_rfl)
  · intro u W hC _
    obtain ⟨a0, a1, _, _⟩ := lab_cells (lab_keep A0.out hC)
    obtain ⟨b0, b1, _, _⟩ := lab_cells (lab_keep B0.out hC)
    obtain ⟨c0, c1, _, _⟩ := lab_cells (lab_keep C0.out hC)
    obtain ⟨j0, j1, _, _⟩ := lab_cells (lab_keep J0.out hC)
    obtain ⟨m0, m1, _, _⟩ := lab_cells (lab_keep M0.out hC)
    unfold Facts.one
    go_simp
    first | exact ⟨Grew.refl _, rfl⟩ | rfl
  simp only [Act.put, List.setIfInBounds_toArray, List.set_cons_zero, List.set_cons_succ, Nat.reduceAdd]
  apply Facts.Lex.exact [] (bif s then .agg #[.int .i64 v2, .int .u64 (c2.toNat : Int)] else undef) (by kernel_rfl)
  · intro u W hC _
    obtain ⟨a0, a1, _, _⟩ := lab_cells (lab_keep A0.out hC)
    obtain ⟨b0, b1, _, _⟩ := lab_cells (lab_keep B0.out hC)
    obtain ⟨c0, c1, _, _⟩ := lab_cells (lab_keep C0.out hC)
    obtain ⟨j0, j1, _, _⟩ := lab_cells (lab_keep J0.out hC)
    obtain ⟨m0, m1, _, _⟩ := lab_cells (lab_keep M0.out hC)
    cases s
    all_goals try simp only [cond_true, cond_false]
    all_goals unfold Facts.one
    all_goals go_simp
    all_goals first | exact ⟨Grew.refl _, rfl⟩ | rfl
  simp only [Act.put, List.setIfInBounds_toArray, List.set_cons_zero, List.set_cons_succ, Nat.reduceAdd]
  apply Facts.Lex.exact [] (bif s then .agg #[.int .i64 v3, .int .u64 (c3.toNat : Int)] else undef) (by kernel_rfl)
  · intro u W hC _
    obtain ⟨a0, a1, _, _⟩ := lab_cells (lab_keep A0.out hC)
    obtain ⟨b0, b1, _, _⟩ := lab_cells (lab_keep B0.out hC)
    obtain ⟨c0, c1, _, _⟩ := lab_cells (lab_keep C0.out hC)
    obtain ⟨j0, j1, _, _⟩ := lab_cells (lab_keep J0.out hC)
    obtain ⟨m0, m1, _, _⟩ := lab_cells (lab_keep M0.out hC)
    cases s
    all_goals try simp only [cond_true, cond_false]
    all_goals unfold Facts.one
    all_goals go_simp
    all_goals first | exact ⟨Grew.refl _, rfl⟩ | rfl
  simp only [Act.put, List.setIfInBounds_toArray, List.set_cons_zero, List.set_cons_succ, Nat.reduceAdd]
  apply Facts.Lex.exact [] (bif s then .bool r else undef) (by kernel_rfl)
  · intro u W hC _
    obtain ⟨a0, a1, _, _⟩ := lab_cells (lab_keep A0.out hC)
    obtain ⟨b0, b1, _, _⟩ := lab_cells (lab_keep B0.out hC)
    obtain ⟨c0, c1, _, _⟩ := lab_cells (lab_keep C0.out hC)
    obtain ⟨j0, j1, _, _⟩ := lab_cells (lab_keep J0.out hC)
    obtain ⟨m0, m1, _, _⟩ := lab_cells (lab_keep M0.out hC)
    cases s
    all_goals try simp only [cond_true, cond_false]
    all_goals unfold Facts.one
    all_goals go_simp
    all_goals first | exact ⟨Grew.refl _, rfl⟩ | rfl | (refine (Hbc.out W).mono ?_; rintro e w' ⟨rfl, hg⟩; exact ⟨_, rfl, hg, rfl⟩)
  simp only [Act.put, List.setIfInBounds_toArray, List.set_cons_zero, List.set_cons_succ, Nat.reduceAdd]
  apply Facts.Lex.exact [] (bif s then .agg #[.int .i64 vj, .int .u64 nj] else undef) (by kernel_rfl)
  · intro u W hC _
    obtain ⟨a0, a1, _, _⟩ := lab_cells (lab_keep A0.out hC)
    obtain ⟨b0, b1, _, _⟩ := lab_cells (lab_keep B0.out hC)
    obtain ⟨c0, c1, _, _⟩ := lab_cells (lab_keep C0.out hC)
    obtain ⟨j0, j1, _, _⟩ := lab_cells (lab_keep J0.out hC)
    obtain ⟨m0, m1, _, _⟩ := lab_cells (lab_keep M0.out hC)
    cases s
    all_goals try simp only [cond_true, cond_false]
    all_goals unfold Facts.one
    all_goals go_simp
    all_goals first | exact ⟨Grew.refl _, rfl⟩ | rfl
  simp only [Act.put, List.setIfInBounds_toArray, List.set_cons_zero, List.set_cons_succ, Nat.reduceAdd]
  apply Facts.Lex.exact [] (bif s then .agg #[.int .i64 v3, .int .u64 (c3.toNat : Int)] else undef) (by kernel_rfl)
  · intro u W hC _
    obtain ⟨a0, a1, _, _⟩ := lab_cells (lab_keep A0.out hC)
    obtain ⟨b0, b1, _, _⟩ := lab_cells (lab_keep B0.out hC)
    obtain ⟨c0, c1, _, _⟩ := lab_cells (lab_keep C0.out hC)
    obtain ⟨j0, j1, _, _⟩ := lab_cells (lab_keep J0.out hC)
    obtain ⟨m0, m1, _, _⟩ := lab_cells (lab_keep M0.out hC)
    cases s
    all_goals try simp only [cond_true, cond_false]
    all_goals unfold Facts.one
    all_goals go_simp
    all_goals first | exact ⟨Grew.refl _, rfl⟩ | rfl
  simp only [Act.put, List.setIfInBounds_toArray, List.set_cons_zero, List.set_cons_succ, Nat.reduceAdd]
  apply Facts.Lex.exact [] (bif s then .bool r else undef) (by kernel_rfl)
  · intro u W hC _
    obtain ⟨a0, a1, _, _⟩ := lab_cells (lab_keep A0.out hC)
    obtain ⟨b0, b1, _, _⟩ := lab_cells (lab_keep B0.out hC)
    obtain ⟨c0, c1, _, _⟩ := lab_cells (lab_keep C0.out hC)
    obtain ⟨j0, j1, _, _⟩ := lab_cells (lab_keep J0.out hC)
    obtain ⟨m0, m1, _, _⟩ := lab_cells (lab_keep M0.out hC)
    cases s
    all_goals try simp only [cond_true, cond_false]
    all_goals unfold Facts.one
    all_goals go_simp
    all_goals first | exact ⟨Grew.refl _, rfl⟩ | rfl | (refine (Hjc.out rfl W).mono ?_; rintro e w' ⟨rfl, hg⟩; exact ⟨_, rfl, hg, rfl⟩)
  simp only [Act.put, List.setIfInBounds_toArray, List.set_cons_zero, List.set_cons_succ, Nat.reduceAdd]
  apply Facts.Lex.exact [] (bif s then .bool false else undef) (by kernel_rfl)
  · intro u W hC _
    obtain ⟨a0, a1, _, _⟩ := lab_cells (lab_keep A0.out hC)
    obtain ⟨b0, b1, _, _⟩ := lab_cells (lab_keep B0.out hC)
    obtain ⟨c0, c1, _, _⟩ := lab_cells (lab_keep C0.out hC)
    obtain ⟨j0, j1, _, _⟩ := lab_cells (lab_keep J0.out hC)
    obtain ⟨m0, m1, _, _⟩ := lab_cells (lab_keep M0.out hC)
    cases s
    all_goals try simp only [cond_true, cond_false]
    all_goals unfold Facts.one
    all_goals go_simp
    all_goals first | exact ⟨Grew.refl _, rfl⟩ | rfl | exact ⟨Grew.refl _, by simp⟩
  simp only [Act.put, List.setIfInBounds_toArray, List.set_cons_zero, List.set_cons_succ, Nat.reduceAdd]
  apply Facts.Lex.exact [] (.bool false) (by kernel_rfl)
  · intro u W hC _
    obtain ⟨a0, a1, _, _⟩ := lab_cells (lab_keep A0.out hC)
    obtain ⟨b0, b1, _, _⟩ := lab_cells (lab_keep B0.out hC)
    obtain ⟨c0, c1, _, _⟩ := lab_cells (lab_keep C0.out hC)
    obtain ⟨j0, j1, _, _⟩ := lab_cells (lab_keep J0.out hC)
    obtain ⟨m0, m1, _, _⟩ := lab_cells (lab_keep M0.out hC)
    cases s
    all_goals try simp only [cond_true, cond_false]
    all_goals unfold Facts.one
    all_goals go_simp
    all_goals first | exact ⟨Grew.refl _, rfl⟩ | rfl
  simp only [Act.put, List.setIfInBounds_toArray, List.set_cons_zero, List.set_cons_succ, Nat.reduceAdd]
  apply Facts.Lex.exact [] (.bool false) (by kernel_rfl)
  · intro u W hC _
    obtain ⟨a0, a1, _, _⟩ := lab_cells (lab_keep A0.out hC)
    obtain ⟨b0, b1, _, _⟩ := lab_cells (lab_keep B0.out hC)
    obtain ⟨c0, c1, _, _⟩ := lab_cells (lab_keep C0.out hC)
    obtain ⟨j0, j1, _, _⟩ := lab_cells (lab_keep J0.out hC)
    obtain ⟨m0, m1, _, _⟩ := lab_cells (lab_keep M0.out hC)
    unfold Facts.one
    go_simp
    first | exact ⟨Grew.refl _, rfl⟩ | rfl
  simp only [Act.put, List.setIfInBounds_toArray, List.set_cons_zero, List.set_cons_succ, Nat.reduceAdd]
  apply Facts.Lex.exact [] (.agg #[.int .i64 v3, .int .u64 (c3.toNat : Int)]) (by kernel_rfl)
  · intro u W hC _
    obtain ⟨a0, a1, _, _⟩ := lab_cells (lab_keep A0.out hC)
    obtain ⟨b0, b1, _, _⟩ := lab_cells (lab_keep B0.out hC)
    obtain ⟨c0, c1, _, _⟩ := lab_cells (lab_keep C0.out hC)
    obtain ⟨j0, j1, _, _⟩ := lab_cells (lab_keep J0.out hC)
    obtain ⟨m0, m1, _, _⟩ := lab_cells (lab_keep M0.out hC)
    unfold Facts.one
    go_simp
    first | exact ⟨Grew.refl _, rfl⟩ | rfl
  simp only [Act.put, List.setIfInBounds_toArray, List.set_cons_zero, List.set_cons_succ, Nat.reduceAdd]
  apply Facts.Lex.exact [] (.agg #[.int .i64 v, .int .u64 (c.toNat : Int)]) (by kernel_rfl)
  · intro u W hC _
    obtain ⟨a0, a1, _, _⟩ := lab_cells (lab_keep A0.out hC)
    obtain ⟨b0, b1, _, _⟩ := lab_cells (lab_keep B0.out hC)
    obtain ⟨c0, c1, _, _⟩ := lab_cells (lab_keep C0.out hC)
    obtain ⟨j0, j1, _, _⟩ := lab_cells (lab_keep J0.out hC)
    obtain ⟨m0, m1, _, _⟩ := lab_cells (lab_keep M0.out hC)
    unfold Facts.one
    go_simp
    first | exact ⟨Grew.refl _, rfl⟩ | rfl
  simp only [Act.put, List.setIfInBounds_toArray, List.set_cons_zero, List.set_cons_succ, Nat.reduceAdd]
  apply Facts.Lex.exact [] (.bool x) (by kernel_rfl)
  · intro u W hC _
    obtain ⟨a0, a1, _, _⟩ := lab_cells (lab_keep A0.out hC)
    obtain ⟨b0, b1, _, _⟩ := lab_cells (lab_keep B0.out hC)
    obtain ⟨c0, c1, _, _⟩ := lab_cells (lab_keep C0.out hC)
    obtain ⟨j0, j1, _, _⟩ := lab_cells (lab_keep J0.out hC)
    obtain ⟨m0, m1, _, _⟩ := lab_cells (lab_keep M0.out hC)
    unfold Facts.one
    go_simp
    first | exact ⟨Grew.refl _, rfl⟩ | rfl | (refine (Hca.out W).mono ?_; rintro e w' ⟨rfl, hg⟩; exact ⟨_, rfl, hg, rfl⟩)
  simp only [Act.put, List.setIfInBounds_toArray, List.set_cons_zero, List.set_cons_succ, Nat.reduceAdd]
  apply Facts.Lex.exact [] (.bool x) (by kernel_rfl)
  · intro u W hC _
    obtain ⟨a0, a1, _, _⟩ := lab_cells (lab_keep A0.out hC)
    obtain ⟨b0, b1, _, _⟩ := lab_cells (lab_keep B0.out hC)
    obtain ⟨c0, c1, _, _⟩ := lab_cells (lab_keep C0.out hC)
    obtain ⟨j0, j1, _, _⟩ := lab_cells (lab_keep J0.out hC)
    obtain ⟨m0, m1, _, _⟩ := lab_cells (lab_keep M0.out hC)
    unfold Facts.one
    go_simp
    first | exact ⟨Grew.refl _, rfl⟩ | rfl
  simp only [Act.put, List.setIfInBounds_toArray, List.set_cons_zero, List.set_cons_succ, Nat.reduceAdd]
  apply Facts.Lex.exact [] (bif x then .agg #[.int .i64 v3, .int .u64 (c3.toNat : Int)] else undef) (by kernel_rfl)
  · intro u W hC _
    obtain ⟨a0, a1, _, _⟩ := lab_cells (lab_keep A0.out hC)
    obtain ⟨b0, b1, _, _⟩ := lab_cells (lab_keep B0.out hC)
    obtain ⟨c0, c1, _, _⟩ := lab_cells (lab_keep C0.out hC)
    obtain ⟨j0, j1, _, _⟩ := lab_cells (lab_keep J0.out hC)
    obtain ⟨m0, m1, _, _⟩ := lab_cells (lab_keep M0.out hC)
    cases x
    all_goals try simp only [cond_true, cond_false]
    all_goals unfold Facts.one
    all_goals go_simp
    all_goals first | exact ⟨Grew.refl _, rfl⟩ | rfl
  simp only [Act.put, List.setIfInBounds_toArray, List.set_cons_zero, List.set_cons_succ, Nat.reduceAdd]
  apply Facts.Lex.exact [] (bif x then .agg #[.int .i64 v2, .int .u64 (c2.toNat : Int)] else undef) (by kernel_rfl)
  · intro u W hC _
    obtain ⟨a0, a1, _, _⟩ := lab_cells (lab_keep A0.out hC)
    obtain ⟨b0, b1, _, _⟩ := lab_cells (lab_keep B0.out hC)
    obtain ⟨c0, c1, _, _⟩ := lab_cells (lab_keep C0.out hC)
    obtain ⟨j0, j1, _, _⟩ := lab_cells (lab_keep J0.out hC)
    obtain ⟨m0, m1, _, _⟩ := lab_cells (lab_keep M0.out hC)
    cases x
    all_goals try simp only [cond_true, cond_false]
    all_goals unfold Facts.one
    all_goals go_simp
    all_goals first | exact ⟨Grew.refl _, rfl⟩ | rfl
  simp only [Act.put, List.setIfInBounds_toArray, List.set_cons_zero, List.set_cons_succ, Nat.reduceAdd]
  apply Facts.Lex.exact [] (bif x then .bool y else undef) (by kernel_rfl)
  · intro u W hC _
    obtain ⟨a0, a1, _, _⟩ := lab_cells (lab_keep A0.out hC)
    obtain ⟨b0, b1, _, _⟩ := lab_cells (lab_keep B0.out hC)
    obtain ⟨c0, c1, _, _⟩ := lab_cells (lab_keep C0.out hC)
    obtain ⟨j0, j1, _, _⟩ := lab_cells (lab_keep J0.out hC)
    obtain ⟨m0, m1, _, _⟩ := lab_cells (lab_keep M0.out hC)
    cases x
    all_goals try simp only [cond_true, cond_false]
    all_goals unfold Facts.one
    all_goals go_simp
    all_goals first | exact ⟨Grew.refl _, rfl⟩ | rfl | (refine (Hcb.out W).mono ?_; rintro e w' ⟨rfl, hg⟩; exact ⟨_, rfl, hg, rfl⟩)
  simp only [Act.put, List.setIfInBounds_toArray, List.set_cons_zero, List.set_cons_succ, Nat.reduceAdd]
  apply Facts.Lex.exact [] (bif x then .agg #[.int .i64 v3, .int .u64 (c3.toNat : Int)] else undef) (by kernel_rfl)
  · intro u W hC _
    obtain ⟨a0, a1, _, _⟩ := lab_cells (lab_keep A0.out hC)
    obtain ⟨b0, b1, _, _⟩ := lab_cells (lab_keep B0.out hC)
    obtain ⟨c0, c1, _, _⟩ := lab_cells (lab_keep C0.out hC)
    obtain ⟨j0, j1, _, _⟩ := lab_cells (lab_keep J0.out hC)
    obtain ⟨m0, m1, _, _⟩ := lab_cells (lab_keep M0.out hC)
    cases x
    all_goals try simp only [cond_true, cond_false]
    all_goals unfold Facts.one
    all_goals go_simp
    all_goals first | exact ⟨Grew.refl _, rfl⟩ | rfl
  simp only [Act.put, List.setIfInBounds_toArray, List.set_cons_zero, List.set_cons_succ, Nat.reduceAdd]
  apply Facts.Lex.exact [] (bif x then .agg #[.int .i64 vm, .int .u64 nm] else undef) (by kernel_rfl)
  · intro u W hC _
    obtain ⟨a0, a1, _, _⟩ := lab_cells (lab_keep A0.out hC)
    obtain ⟨b0, b1, _, _⟩ := lab_cells (lab_keep B0.out hC)
    obtain ⟨c0, c1, _, _⟩ := lab_cells (lab_keep C0.out hC)
    obtain ⟨j0, j1, _, _⟩ := lab_cells (lab_keep J0.out hC)
    obtain ⟨m0, m1, _, _⟩ := lab_cells (lab_keep M0.out hC)
    cases x
    all_goals try simp only [cond_true, cond_false]
    all_goals unfold Facts.one
    all_goals go_simp
    all_goals first | exact ⟨Grew.refl _, rfl⟩ | rfl
  simp only [Act.put, List.setIfInBounds_toArray, List.set_cons_zero, List.set_cons_succ, Nat.reduceAdd]
  apply Facts.Lex.exact [] (bif x then .bool y else undef) (by kernel_rfl)
  · intro u W hC _
    obtain ⟨a0, a1, _, _⟩ := lab_cells (lab_keep A0.out hC)
    obtain ⟨b0, b1, _, _⟩ := lab_cells (lab_keep B0.out hC)
    obtain ⟨c0, c1, _, _⟩ := lab_cells (lab_keep C0.out hC)
    obtain ⟨j0, j1, _, _⟩ := lab_cells (lab_keep J0.out hC)
    obtain ⟨m0, m1, _, _⟩ := lab_cells (lab_keep M0.out hC)
    cases x
    all_goals try simp only [cond_true, cond_false]
    all_goals unfold Facts.one
    all_goals go_simp
    all_goals first | exact ⟨Grew.refl _, rfl⟩ | rfl | (refine (Hcm.out rfl W).mono ?_; rintro e w' ⟨rfl, hg⟩; exact ⟨_, rfl, hg, rfl⟩)
  simp only [Act.put, List.setIfInBounds_toArray, List.set_cons_zero, List.set_cons_succ, Nat.reduceAdd]
  apply Facts.Lex.exact [] (bif x then .bool false else undef) (by kernel_rfl)
  · intro u W hC _
    obtain ⟨a0, a1, _, _⟩ := lab_cells (lab_keep A0.out hC)
    obtain ⟨b0, b1, _, _⟩ := lab_cells (lab_keep B0.out hC)
    obtain ⟨c0, c1, _, _⟩ := lab_cells (lab_keep C0.out hC)
    obtain ⟨j0, j1, _, _⟩ := lab_cells (lab_keep J0.out hC)
    obtain ⟨m0, m1, _, _⟩ := lab_cells (lab_keep M0.out hC)
    cases x
    all_goals try simp only [cond_true, cond_false]
    all_goals unfold Facts.one
    all_goals go_simp
    all_goals first | exact ⟨Grew.refl _, rfl⟩ | rfl | exact ⟨Grew.refl _, by simp⟩
  simp only [Act.put, List.setIfInBounds_toArray, List.set_cons_zero, List.set_cons_succ, Nat.reduceAdd]
  apply Facts.Lex.exact [] (.bool false) (by kernel_rfl)
  · intro u W hC _
    obtain ⟨a0, a1, _, _⟩ := lab_cells (lab_keep A0.out hC)
    obtain ⟨b0, b1, _, _⟩ := lab_cells (lab_keep B0.out hC)
    obtain ⟨c0, c1, _, _⟩ := lab_cells (lab_keep C0.out hC)
    obtain ⟨j0, j1, _, _⟩ := lab_cells (lab_keep J0.out hC)
    obtain ⟨m0, m1, _, _⟩ := lab_cells (lab_keep M0.out hC)
    cases x
    all_goals try simp only [cond_true, cond_false]
    all_goals unfold Facts.one
    all_goals go_simp
    all_goals first | exact ⟨Grew.refl _, rfl⟩ | rfl
  simp only [Act.put, List.setIfInBounds_toArray, List.set_cons_zero, List.set_cons_succ, Nat.reduceAdd]
  apply Facts.Lex.exact [] (.bool false) (by kernel_rfl)
  · intro u W hC _
    obtain ⟨a0, a1, _, _⟩ := lab_cells (lab_keep A0.out hC)
    obtain ⟨b0, b1, _, _⟩ := lab_cells (lab_keep B0.out hC)
    obtain ⟨c0, c1, _, _⟩ := lab_cells (lab_keep C0.out hC)
    obtain ⟨j0, j1, _, _⟩ := lab_cells (lab_keep J0.out hC)
    obtain ⟨m0, m1, _, _⟩ := lab_cells (lab_keep M0.out hC)
    unfold Facts.one
    go_simp
    first | exact ⟨Grew.refl _, rfl⟩ | rfl
  simp only [Act.put, List.setIfInBounds_toArray, List.set_cons_zero, List.set_cons_succ, Nat.reduceAdd]
  refine Facts.Lex.done fun u W4 hC hL => ?_
  replace A0 := Lib.hid (lab_keep A0.out hC)
  replace B0 := Lib.hid (lab_keep B0.out hC)
  replace C0 := Lib.hid (lab_keep C0.out hC)
  replace J0 := Lib.hid (lab_keep J0.out hC)
  replace M0 := Lib.hid (lab_keep M0.out hC)
  replace G0 := Lib.hid (G0.out.trans hC)
  clear hC hL
  go_wp2
  refine Facts.wp_region_text (by kernel_rfl) (by kernel_rfl) ?_
  apply Facts.Lex.exact [] (.bool true) (by kernel_rfl)
  · intro u W hC _
    obtain ⟨a0, a1, _, _⟩ := lab_cells (lab_keep A0.out hC)
    obtain ⟨b0, b1, _, _⟩ := lab_cells (lab_keep B0.out hC)
    obtain ⟨c0, c1, _, _⟩ := lab_cells (lab_keep C0.out hC)
    obtain ⟨j0, j1, _, _⟩ := lab_cells (lab_keep J0.out hC)
    obtain ⟨m0, m1, _, _⟩ := lab_cells (lab_keep M0.out hC)
    have hEW := HENV.out.grow (G0.out.trans hC)
    unfold Facts.one
    go_simp
    first | exact ⟨Grew.refl _, rfl⟩ | rfl | (refine (alive_any W hEW).mono ?_; rintro e w' ⟨rfl, hg⟩; exact ⟨_, rfl, hg, rfl⟩)
  simp only [Act.put, List.setIfInBounds_toArray, List.set_cons_zero, List.set_cons_succ, Nat.reduceAdd]
  apply Facts.Lex.exact [] (.bool true) (by kernel_rfl)
  · intro u W hC _
    obtain ⟨a0, a1, _, _⟩ := lab_cells (lab_keep A0.out hC)
    obtain ⟨b0, b1, _, _⟩ := lab_cells (lab_keep B0.out hC)
    obtain ⟨c0, c1, _, _⟩ := lab_cells (lab_keep C0.out hC)
    obtain ⟨j0, j1, _, _⟩ := lab_cells (lab_keep J0.out hC)
    obtain ⟨m0, m1, _, _⟩ := lab_cells (lab_keep M0.out hC)
    unfold Facts.one
    go_simp
    first | exact ⟨Grew.refl _, rfl⟩ | rfl
  simp only [Act.put, List.setIfInBounds_toArray, List.set_cons_zero, List.set_cons_succ, Nat.reduceAdd]
  apply Facts.Lex.exact [] (.agg #[.int .i64 v, .int .u64 (c.toNat : Int)]) (by kernel_rfl)
  · intro u W hC _
    obtain ⟨a0, a1, _, _⟩ := lab_cells (lab_keep A0.out hC)
    obtain ⟨b0, b1, _, _⟩ := lab_cells (lab_keep B0.out hC)
    obtain ⟨c0, c1, _, _⟩ := lab_cells (lab_keep C0.out hC)
    obtain ⟨j0, j1, _, _⟩ := lab_cells (lab_keep J0.out hC)
    obtain ⟨m0, m1, _, _⟩ := lab_cells (lab_keep M0.out hC)
    unfold Facts.one
    go_simp
    first | exact ⟨Grew.refl _, rfl⟩ | rfl
  simp only [Act.put, List.setIfInBounds_toArray, List.set_cons_zero, List.set_cons_succ, Nat.reduceAdd]
  apply Facts.Lex.exact [] (.agg #[.int .i64 v2, .int .u64 (c2.toNat : Int)]) (by kernel_rfl)
  · intro u W hC _
    obtain ⟨a0, a1, _, _⟩ := lab_cells (lab_keep A0.out hC)
    obtain ⟨b0, b1, _, _⟩ := lab_cells (lab_keep B0.out hC)
    obtain ⟨c0, c1, _, _⟩ := lab_cells (lab_keep C0.out hC)
    obtain ⟨j0, j1, _, _⟩ := lab_cells (lab_keep J0.out hC)
    obtain ⟨m0, m1, _, _⟩ := lab_cells (lab_keep M0.out hC)
    unfold Facts.one
    go_simp
    first | exact ⟨Grew.refl _, rfl⟩ | rfl
  simp only [Act.put, List.setIfInBounds_toArray, List.set_cons_zero, List.set_cons_succ, Nat.reduceAdd]
  apply Facts.Lex.exact [] (.bool p) (by kernel_rfl)
  · intro u W hC _
    obtain ⟨a0, a1, _, _⟩ := lab_cells (lab_keep A0.out hC)
    obtain ⟨b0, b1, _, _⟩ := lab_cells (lab_keep B0.out hC)
    obtain ⟨c0, c1, _, _⟩ := lab_cells (lab_keep C0.out hC)
    obtain ⟨j0, j1, _, _⟩ := lab_cells (lab_keep J0.out hC)
    obtain ⟨m0, m1, _, _⟩ := lab_cells (lab_keep M0.out hC)
    unfold Facts.one
    go_simp
    first | exact ⟨Grew.refl _, rfl⟩ | rfl | (refine (Hab.out W).mono ?_; rintro e w' ⟨rfl, hg⟩; exact ⟨_, rfl, hg, rfl⟩)
  simp only [Act.put, List.setIfInBounds_toArray, List.set_cons_zero, List.set_cons_succ, Nat.reduceAdd]
  apply Facts.Lex.exact [] (.agg #[.int .i64 vj, .int .u64 nj]) (by kernel_rfl)
  · intro u W hC _
    obtain ⟨a0, a1, _, _⟩ := lab_cells (lab_keep A0.out hC)
    obtain ⟨b0, b1, _, _⟩ := lab_cells (lab_keep B0.out hC)
    obtain ⟨c0, c1, _, _⟩ := lab_cells (lab_keep C0.out hC)
    obtain ⟨j0, j1, _, _⟩ := lab_cells (lab_keep J0.out hC)
    obtain ⟨m0, m1, _, _⟩ := lab_cells (lab_keep M0.out hC)
    unfold Facts.one
    go_simp
    first | exact ⟨Grew.refl _, rfl⟩ | rfl
  simp only [Act.put, List.setIfInBounds_toArray, List.set_cons_zero, List.set_cons_succ, Nat.reduceAdd]
  apply Facts.Lex.exact [] (.agg #[.int .i64 v2, .int .u64 (c2.toNat : Int)]) (by kernel_rfl)
  · intro u W hC _
    obtain ⟨a0, a1, _, _⟩ := lab_cells (lab_keep A0.out hC)
    obtain ⟨b0, b1, _, _⟩ := lab_cells (lab_keep B0.out hC)
    obtain ⟨c0, c1, _, _⟩ := lab_cells (lab_keep C0.out hC)
    obtain ⟨j0, j1, _, _⟩ := lab_cells (lab_keep J0.out hC)
    obtain ⟨m0, m1, _, _⟩ := lab_cells (lab_keep M0.out hC)
    unfold Facts.one
    go_simp
    first | exact ⟨Grew.refl _, rfl⟩ | rfl
  simp only [Act.put, List.setIfInBounds_toArray, List.set_cons_zero, List.set_cons_succ, Nat.reduceAdd]
  apply Facts.Lex.exact [] (.bool p) (by kernel_rfl)
  · intro u W hC _
    obtain ⟨a0, a1, _, _⟩ := lab_cells (lab_keep A0.out hC)
    obtain ⟨b0, b1, _, _⟩ := lab_cells (lab_keep B0.out hC)
    obtain ⟨c0, c1, _, _⟩ := lab_cells (lab_keep C0.out hC)
    obtain ⟨j0, j1, _, _⟩ := lab_cells (lab_keep J0.out hC)
    obtain ⟨m0, m1, _, _⟩ := lab_cells (lab_keep M0.out hC)
    unfold Facts.one
    go_simp
    first | exact ⟨Grew.refl _, rfl⟩ | rfl | exact same_ p vj v2 nj c2.toNat W HPJ.out
  simp only [Act.put, List.setIfInBounds_toArray, List.set_cons_zero, List.set_cons_succ, Nat.reduceAdd]
  apply Facts.Lex.exact [] (.bool true) (by kernel_rfl)
  · intro u W hC _
    obtain ⟨a0, a1, _, _⟩ := lab_cells (lab_keep A0.out hC)
    obtain ⟨b0, b1, _, _⟩ := lab_cells (lab_keep B0.out hC)
    obtain ⟨c0, c1, _, _⟩ := lab_cells (lab_keep C0.out hC)
    obtain ⟨j0, j1, _, _⟩ := lab_cells (lab_keep J0.out hC)
    obtain ⟨m0, m1, _, _⟩ := lab_cells (lab_keep M0.out hC)
    unfold Facts.one
    go_simp
    first | exact ⟨Grew.refl _, rfl⟩ | rfl | exact ⟨Grew.refl _, by simp⟩
  simp only [Act.put, List.setIfInBounds_toArray, List.set_cons_zero, List.set_cons_succ, Nat.reduceAdd]
  apply Facts.Lex.exact [] (.bool true) (by kernel_rfl)
  · intro u W hC _
    obtain ⟨a0, a1, _, _⟩ := lab_cells (lab_keep A0.out hC)
    obtain ⟨b0, b1, _, _⟩ := lab_cells (lab_keep B0.out hC)
    obtain ⟨c0, c1, _, _⟩ := lab_cells (lab_keep C0.out hC)
    obtain ⟨j0, j1, _, _⟩ := lab_cells (lab_keep J0.out hC)
    obtain ⟨m0, m1, _, _⟩ := lab_cells (lab_keep M0.out hC)
    unfold Facts.one
    go_simp
    first | exact ⟨Grew.refl _, rfl⟩ | rfl
  simp only [Act.put, List.setIfInBounds_toArray, List.set_cons_zero, List.set_cons_succ, Nat.reduceAdd]
  apply Facts.Lex.exact [] (.bool true) (by kernel_rfl)
  · intro u W hC _
    obtain ⟨a0, a1, _, _⟩ := lab_cells (lab_keep A0.out hC)
    obtain ⟨b0, b1, _, _⟩ := lab_cells (lab_keep B0.out hC)
    obtain ⟨c0, c1, _, _⟩ := lab_cells (lab_keep C0.out hC)
    obtain ⟨j0, j1, _, _⟩ := lab_cells (lab_keep J0.out hC)
    obtain ⟨m0, m1, _, _⟩ := lab_cells (lab_keep M0.out hC)
    unfold Facts.one
    go_simp
    first | exact ⟨Grew.refl _, rfl⟩ | rfl
  simp only [Act.put, List.setIfInBounds_toArray, List.set_cons_zero, List.set_cons_succ, Nat.reduceAdd]
  apply Facts.Lex.exact [] (.agg #[.int .i64 v, .int .u64 (c.toNat : Int)]) (by kernel_rfl)
  · intro u W hC _
    obtain ⟨a0, a1, _, _⟩ := lab_cells (lab_keep A0.out hC)
    obtain ⟨b0, b1, _, _⟩ := lab_cells (lab_keep B0.out hC)
    obtain ⟨c0, c1, _, _⟩ := lab_cells (lab_keep C0.out hC)
    obtain ⟨j0, j1, _, _⟩ := lab_cells (lab_keep J0.out hC)
    obtain ⟨m0, m1, _, _⟩ := lab_cells (lab_keep M0.out hC)
    unfold Facts.one
    go_simp
    first | exact ⟨Grew.refl _, rfl⟩ | rfl
  simp only [Act.put, List.setIfInBounds_toArray, List.set_cons_zero, List.set_cons_succ, Nat.reduceAdd]
  apply Facts.Lex.exact [] (.agg #[.int .i64 v2, .int .u64 (c2.toNat : Int)]) (by kernel_rfl)
  · intro u W hC _
    obtain ⟨a0, a1, _, _⟩ := lab_cells (lab_keep A0.out hC)
    obtain ⟨b0, b1, _, _⟩ := lab_cells (lab_keep B0.out hC)
    obtain ⟨c0, c1, _, _⟩ := lab_cells (lab_keep C0.out hC)
    obtain ⟨j0, j1, _, _⟩ := lab_cells (lab_keep J0.out hC)
    obtain ⟨m0, m1, _, _⟩ := lab_cells (lab_keep M0.out hC)
    unfold Facts.one
    go_simp
    first | exact ⟨Grew.refl _, rfl⟩ | rfl
  simp only [Act.put, List.setIfInBounds_toArray, List.set_cons_zero, List.set_cons_succ, Nat.reduceAdd]
  apply Facts.Lex.exact [] (.bool p) (by kernel_rfl)
  · intro u W hC _
    obtain ⟨a0, a1, _, _⟩ := lab_cells (lab_keep A0.out hC)
    obtain ⟨b0, b1, _, _⟩ := lab_cells (lab_keep B0.out hC)
    obtain ⟨c0, c1, _, _⟩ := lab_cells (lab_keep C0.out hC)
    obtain ⟨j0, j1, _, _⟩ := lab_cells (lab_keep J0.out hC)
    obtain ⟨m0, m1, _, _⟩ := lab_cells (lab_keep M0.out hC)
    unfold Facts.one
    go_simp
    first | exact ⟨Grew.refl _, rfl⟩ | rfl | (refine (Hab.out W).mono ?_; rintro e w' ⟨rfl, hg⟩; exact ⟨_, rfl, hg, rfl⟩)
  simp only [Act.put, List.setIfInBounds_toArray, List.set_cons_zero, List.set_cons_succ, Nat.reduceAdd]
  apply Facts.Lex.exact [] (.agg #[.int .i64 vm, .int .u64 nm]) (by kernel_rfl)
  · intro u W hC _
    obtain ⟨a0, a1, _, _⟩ := lab_cells (lab_keep A0.out hC)
    obtain ⟨b0, b1, _, _⟩ := lab_cells (lab_keep B0.out hC)
    obtain ⟨c0, c1, _, _⟩ := lab_cells (lab_keep C0.out hC)
    obtain ⟨j0, j1, _, _⟩ := lab_cells (lab_keep J0.out hC)
    obtain ⟨m0, m1, _, _⟩ := lab_cells (lab_keep M0.out hC)
    unfold Facts.one
    go_simp
    first | exact ⟨Grew.refl _, rfl⟩ | rfl
  simp only [Act.put, List.setIfInBounds_toArray, List.set_cons_zero, List.set_cons_succ, Nat.reduceAdd]
  apply Facts.Lex.exact [] (.agg #[.int .i64 v, .int .u64 (c.toNat : Int)]) (by kernel_rfl)
  · intro u W hC _
    obtain ⟨a0, a1, _, _⟩ := lab_cells (lab_keep A0.out hC)
    obtain ⟨b0, b1, _, _⟩ := lab_cells (lab_keep B0.out hC)
    obtain ⟨c0, c1, _, _⟩ := lab_cells (lab_keep C0.out hC)
    obtain ⟨j0, j1, _, _⟩ := lab_cells (lab_keep J0.out hC)
    obtain ⟨m0, m1, _, _⟩ := lab_cells (lab_keep M0.out hC)
    unfold Facts.one
    go_simp
    first | exact ⟨Grew.refl _, rfl⟩ | rfl
  simp only [Act.put, List.setIfInBounds_toArray, List.set_cons_zero, List.set_cons_succ, Nat.reduceAdd]
  apply Facts.Lex.exact [] (.bool p) (by kernel_rfl)
  · intro u W hC _
    obtain ⟨a0, a1, _, _⟩ := lab_cells (lab_keep A0.out hC)
    obtain ⟨b0, b1, _, _⟩ := lab_cells (lab_keep B0.out hC)
    obtain ⟨c0, c1, _, _⟩ := lab_cells (lab_keep C0.out hC)
    obtain ⟨j0, j1, _, _⟩ := lab_cells (lab_keep J0.out hC)
    obtain ⟨m0, m1, _, _⟩ := lab_cells (lab_keep M0.out hC)
    unfold Facts.one
    go_simp
    first | exact ⟨Grew.refl _, rfl⟩ | rfl | exact same_ p vm v nm c.toNat W HPM.out
  simp only [Act.put, List.setIfInBounds_toArray, List.set_cons_zero, List.set_cons_succ, Nat.reduceAdd]
  apply Facts.Lex.exact [] (.bool true) (by kernel_rfl)
  · intro u W hC _
    obtain ⟨a0, a1, _, _⟩ := lab_cells (lab_keep A0.out hC)
    obtain ⟨b0, b1, _, _⟩ := lab_cells (lab_keep B0.out hC)
    obtain ⟨c0, c1, _, _⟩ := lab_cells (lab_keep C0.out hC)
    obtain ⟨j0, j1, _, _⟩ := lab_cells (lab_keep J0.out hC)
    obtain ⟨m0, m1, _, _⟩ := lab_cells (lab_keep M0.out hC)
    unfold Facts.one
    go_simp
    first | exact ⟨Grew.refl _, rfl⟩ | rfl | exact ⟨Grew.refl _, by simp⟩
  simp only [Act.put, List.setIfInBounds_toArray, List.set_cons_zero, List.set_cons_succ, Nat.reduceAdd]
  apply Facts.Lex.exact [] (.bool true) (by kernel_rfl)
  · intro u W hC _
    obtain ⟨a0, a1, _, _⟩ := lab_cells (lab_keep A0.out hC)
    obtain ⟨b0, b1, _, _⟩ := lab_cells (lab_keep B0.out hC)
    obtain ⟨c0, c1, _, _⟩ := lab_cells (lab_keep C0.out hC)
    obtain ⟨j0, j1, _, _⟩ := lab_cells (lab_keep J0.out hC)
    obtain ⟨m0, m1, _, _⟩ := lab_cells (lab_keep M0.out hC)
    unfold Facts.one
    go_simp
    first | exact ⟨Grew.refl _, rfl⟩ | rfl
  simp only [Act.put, List.setIfInBounds_toArray, List.set_cons_zero, List.set_cons_succ, Nat.reduceAdd]
  apply Facts.Lex.exact [] (.bool true) (by kernel_rfl)
  · intro u W hC _
    obtain ⟨a0, a1, _, _⟩ := lab_cells (lab_keep A0.out hC)
    obtain ⟨b0, b1, _, _⟩ := lab_cells (lab_keep B0.out hC)
    obtain ⟨c0, c1, _, _⟩ := lab_cells (lab_keep C0.out hC)
    obtain ⟨j0, j1, _, _⟩ := lab_cells (lab_keep J0.out hC)
    obtain ⟨m0, m1, _, _⟩ := lab_cells (lab_keep M0.out hC)
    unfold Facts.one
    go_simp
    first | exact ⟨Grew.refl _, rfl⟩ | rfl
  simp only [Act.put, List.setIfInBounds_toArray, List.set_cons_zero, List.set_cons_succ, Nat.reduceAdd]
  apply Facts.Lex.exact [] (.agg #[.int .i64 v, .int .u64 (c.toNat : Int)]) (by kernel_rfl)
  · intro u W hC _
    obtain ⟨a0, a1, _, _⟩ := lab_cells (lab_keep A0.out hC)
    obtain ⟨b0, b1, _, _⟩ := lab_cells (lab_keep B0.out hC)
    obtain ⟨c0, c1, _, _⟩ := lab_cells (lab_keep C0.out hC)
    obtain ⟨j0, j1, _, _⟩ := lab_cells (lab_keep J0.out hC)
    obtain ⟨m0, m1, _, _⟩ := lab_cells (lab_keep M0.out hC)
    unfold Facts.one
    go_simp
    first | exact ⟨Grew.refl _, rfl⟩ | rfl
  simp only [Act.put, List.setIfInBounds_toArray, List.set_cons_zero, List.set_cons_succ, Nat.reduceAdd]
  apply Facts.Lex.exact [] (.bool f) (by kernel_rfl)
  · intro u W hC _
    obtain ⟨a0, a1, _, _⟩ := lab_cells (lab_keep A0.out hC)
    obtain ⟨b0, b1, _, _⟩ := lab_cells (lab_keep B0.out hC)
    obtain ⟨c0, c1, _, _⟩ := lab_cells (lab_keep C0.out hC)
    obtain ⟨j0, j1, _, _⟩ := lab_cells (lab_keep J0.out hC)
    obtain ⟨m0, m1, _, _⟩ := lab_cells (lab_keep M0.out hC)
    unfold Facts.one
    go_simp
    first | exact ⟨Grew.refl _, rfl⟩ | rfl | (refine (Hra.out W).mono ?_; rintro e w' ⟨rfl, hg⟩; exact ⟨_, rfl, hg, rfl⟩)
  simp only [Act.put, List.setIfInBounds_toArray, List.set_cons_zero, List.set_cons_succ, Nat.reduceAdd]
  apply Facts.Lex.exact [] (.bool (!f)) (by kernel_rfl)
  · intro u W hC _
    obtain ⟨a0, a1, _, _⟩ := lab_cells (lab_keep A0.out hC)
    obtain ⟨b0, b1, _, _⟩ := lab_cells (lab_keep B0.out hC)
    obtain ⟨c0, c1, _, _⟩ := lab_cells (lab_keep C0.out hC)
    obtain ⟨j0, j1, _, _⟩ := lab_cells (lab_keep J0.out hC)
    obtain ⟨m0, m1, _, _⟩ := lab_cells (lab_keep M0.out hC)
    unfold Facts.one
    go_simp
    first | exact ⟨Grew.refl _, rfl⟩ | rfl
  simp only [Act.put, List.setIfInBounds_toArray, List.set_cons_zero, List.set_cons_succ, Nat.reduceAdd]
  apply Facts.Lex.exact [] (.bool (!f)) (by kernel_rfl)
  · intro u W hC _
    obtain ⟨a0, a1, _, _⟩ := lab_cells (lab_keep A0.out hC)
    obtain ⟨b0, b1, _, _⟩ := lab_cells (lab_keep B0.out hC)
    obtain ⟨c0, c1, _, _⟩ := lab_cells (lab_keep C0.out hC)
    obtain ⟨j0, j1, _, _⟩ := lab_cells (lab_keep J0.out hC)
    obtain ⟨m0, m1, _, _⟩ := lab_cells (lab_keep M0.out hC)
    unfold Facts.one
    go_simp
    first | exact ⟨Grew.refl _, rfl⟩ | rfl
  simp only [Act.put, List.setIfInBounds_toArray, List.set_cons_zero, List.set_cons_succ, Nat.reduceAdd]
  apply Facts.Lex.exact [] (bif f then .agg #[.int .i64 0, .int .u64 0] else undef) (by kernel_rfl)
  · intro u W hC _
    obtain ⟨a0, a1, _, _⟩ := lab_cells (lab_keep A0.out hC)
    obtain ⟨b0, b1, _, _⟩ := lab_cells (lab_keep B0.out hC)
    obtain ⟨c0, c1, _, _⟩ := lab_cells (lab_keep C0.out hC)
    obtain ⟨j0, j1, _, _⟩ := lab_cells (lab_keep J0.out hC)
    obtain ⟨m0, m1, _, _⟩ := lab_cells (lab_keep M0.out hC)
    cases f
    all_goals try simp only [cond_true, cond_false]
    all_goals unfold Facts.one
    all_goals go_simp
    all_goals first | exact ⟨Grew.refl _, rfl⟩ | rfl
  simp only [Act.put, List.setIfInBounds_toArray, List.set_cons_zero, List.set_cons_succ, Nat.reduceAdd]
  apply Facts.Lex.exact [] (bif f then .agg #[.int .i64 v, .int .u64 (c.toNat : Int)] else undef) (by kernel_rfl)
  · intro u W hC _
    obtain ⟨a0, a1, _, _⟩ := lab_cells (lab_keep A0.out hC)
    obtain ⟨b0, b1, _, _⟩ := lab_cells (lab_keep B0.out hC)
    obtain ⟨c0, c1, _, _⟩ := lab_cells (lab_keep C0.out hC)
    obtain ⟨j0, j1, _, _⟩ := lab_cells (lab_keep J0.out hC)
    obtain ⟨m0, m1, _, _⟩ := lab_cells (lab_keep M0.out hC)
    cases f
    all_goals try simp only [cond_true, cond_false]
    all_goals unfold Facts.one
    all_goals go_simp
    all_goals first | exact ⟨Grew.refl _, rfl⟩ | rfl
  simp only [Act.put, List.setIfInBounds_toArray, List.set_cons_zero, List.set_cons_succ, Nat.reduceAdd]
  apply Facts.Lex.exact [] (bif f then .bool true else undef) (by kernel_rfl)
  · intro u W hC _
    obtain ⟨a0, a1, _, _⟩ := lab_cells (lab_keep A0.out hC)
    obtain ⟨b0, b1, _, _⟩ := lab_cells (lab_keep B0.out hC)
    obtain ⟨c0, c1, _, _⟩ := lab_cells (lab_keep C0.out hC)
    obtain ⟨j0, j1, _, _⟩ := lab_cells (lab_keep J0.out hC)
    obtain ⟨m0, m1, _, _⟩ := lab_cells (lab_keep M0.out hC)
    cases f
    all_goals try simp only [cond_true, cond_false]
    all_goals unfold Facts.one
    all_goals go_simp
    all_goals first | exact ⟨Grew.refl _, rfl⟩ | rfl | (refine (H0a.out rfl W).mono ?_; rintro e w' ⟨rfl, hg⟩; exact ⟨_, rfl, hg, rfl⟩)
  simp only [Act.put, List.setIfInBounds_toArray, List.set_cons_zero, List.set_cons_succ, Nat.reduceAdd]
  apply Facts.Lex.exact [] (.bool true) (by kernel_rfl)
  · intro u W hC _
    obtain ⟨a0, a1, _, _⟩ := lab_cells (lab_keep A0.out hC)
    obtain ⟨b0, b1, _, _⟩ := lab_cells (lab_keep B0.out hC)
    obtain ⟨c0, c1, _, _⟩ := lab_cells (lab_keep C0.out hC)
    obtain ⟨j0, j1, _, _⟩ := lab_cells (lab_keep J0.out hC)
    obtain ⟨m0, m1, _, _⟩ := lab_cells (lab_keep M0.out hC)
    cases f
    all_goals try simp only [cond_true, cond_false]
    all_goals unfold Facts.one
    all_goals go_simp
    all_goals first | exact ⟨Grew.refl _, rfl⟩ | rfl
  simp only [Act.put, List.setIfInBounds_toArray, List.set_cons_zero, List.set_cons_succ, Nat.reduceAdd]
  apply Facts.Lex.exact [] (.bool true) (by kernel_rfl)
  · intro u W hC _
    obtain ⟨a0, a1, _, _⟩ := lab_cells (lab_keep A0.out hC)
    obtain ⟨b0, b1, _, _⟩ := lab_cells (lab_keep B0.out hC)
    obtain ⟨c0, c1, _, _⟩ := lab_cells (lab_keep C0.out hC)
    obtain ⟨j0, j1, _, _⟩ := lab_cells (lab_keep J0.out hC)
    obtain ⟨m0, m1, _, _⟩ := lab_cells (lab_keep M0.out hC)
    unfold Facts.one
    go_simp
    first | exact ⟨Grew.refl _, rfl⟩ | rfl
  simp only [Act.put, List.setIfInBounds_toArray, List.set_cons_zero, List.set_cons_succ, Nat.reduceAdd]
  apply Facts.Lex.exact [] _ (by kernel_rfl)
  · intro u W hC _
    obtain ⟨a0, a1, _, _⟩ := lab_cells (lab_keep A0.out hC)
    obtain ⟨b0, b1, _, _⟩ := lab_cells (lab_keep B0.out hC)
    obtain ⟨c0, c1, _, _⟩ := lab_cells (lab_keep C0.out hC)
    obtain ⟨j0, j1, _, _⟩ := lab_cells (lab_keep J0.out hC)
    obtain ⟨m0, m1, _, _⟩ := lab_cells (lab_keep M0.out hC)
    unfold Facts.one
    go_simp
    first | exact ⟨Grew.refl _, rfl⟩ | rfl
  simp only [Act.put, List.setIfInBounds_toArray, List.set_cons_zero, List.set_cons_succ, Nat.reduceAdd]
  refine Facts.Lex.done fun u W9 hC hL => ?_
  have GE := G0.out.trans hC
  clear hC hL
  go_wp2
  go_returns
  exact ⟨rfl, GE⟩
end Go.Proofs.YtekodmnhheejkaaDoor.LatticeLaw
