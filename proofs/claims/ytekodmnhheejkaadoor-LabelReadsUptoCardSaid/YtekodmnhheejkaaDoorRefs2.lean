/-
  The document's own answers on two labels: both together, what they share, their order; and a label's compartments, one by one.
  Conditions: none beyond those that each lemma names.
-/
import Derived.Test.YtekodmnhheejkaaDoorRefs
namespace Go.Proofs.YtekodmnhheejkaaDoor.Refs2
open Go Go.RowKit Go.Lib Go.Proofs.YtekodmnhheejkaaDoor Go.Proofs.YtekodmnhheejkaaDoor.Facts Go.Proofs.YtekodmnhheejkaaDoor.Plain Go.Proofs.YtekodmnhheejkaaDoor.Comps Go.Proofs.YtekodmnhheejkaaDoor.Text Go.Proofs.YtekodmnhheejkaaDoor.Lat Go.Proofs.YtekodmnhheejkaaDoor.Nums Go.Proofs.YtekodmnhheejkaaDoor.Refs

/-- A label as it lies. -/
def lc (v : Int) (c : BitVec 64) : Obj := .cells #[.int .i64 v, .int .u64 (c.toNat : Int)] 24 (0, 0)
/-- Two labels, a result, and one that is under way. -/
structure Four (w W : World) (v : Int) (c : BitVec 64) (v2 : Int) (c2 : BitVec 64) (lv : Int) (x : BitVec 64) : Prop where
  a : W.heap[w.heap.size]? = some (lc v c)
  b : W.heap[w.heap.size + 1]? = some (lc v2 c2)
  r : W.heap[w.heap.size + 1 + 1]? = some (lc 0 0#64)
  o : W.heap[w.heap.size + 1 + 1 + 1]? = some (lc lv x)
  g : Grew w W
theorem four_grew {w W W' : World} {v : Int} {c : BitVec 64} {v2 : Int} {c2 : BitVec 64} {lv : Int} {x : BitVec 64} (h : Four w W v c v2 c2 lv x) (hg : Grew W W') : Four w W' v c v2 c2 lv x :=
  ⟨keepB h.a hg, keepB h.b hg, keepB h.r hg, keepB h.o hg, h.g.trans hg⟩
theorem four_new (w : World) (v : Int) (c : BitVec 64) (v2 : Int) (c2 : BitVec 64) (lv : Int) (x : BitVec 64) : Four w ((((w.alloc (lc v c)).alloc (lc v2 c2)).alloc (lc 0 0#64)).alloc (lc lv x)) v c v2 c2 lv x := by
  have h1 : (w.alloc (lc v c)).heap[w.heap.size]? = some (lc v c) := heap_alloc_new w _
  have h2 : ((w.alloc (lc v c)).alloc (lc v2 c2)).heap[w.heap.size + 1]? = some (lc v2 c2) := by
    have := heap_alloc_new (w.alloc (lc v c)) (lc v2 c2)
    rwa [World.size_alloc] at this
  have h3 : (((w.alloc (lc v c)).alloc (lc v2 c2)).alloc (lc 0 0#64)).heap[w.heap.size + 1 + 1]? = some (lc 0 0#64) := by
    have := heap_alloc_new ((w.alloc (lc v c)).alloc (lc v2 c2)) (lc 0 0#64)
    rwa [World.size_alloc, World.size_alloc] at this
  have h4 : ((((w.alloc (lc v c)).alloc (lc v2 c2)).alloc (lc 0 0#64)).alloc (lc lv x)).heap[w.heap.size + 1 + 1 + 1]? = some (lc lv x) := by
    have := heap_alloc_new (((w.alloc (lc v c)).alloc (lc v2 c2)).alloc (lc 0 0#64)) (lc lv x)
    rwa [World.size_alloc, World.size_alloc, World.size_alloc] at this
  have k1 : ∀ (W : World) (o : Obj), Grew W (W.alloc o) := fun W o => by unfold Grew; go_grown
  exact ⟨keepB (keepB (keepB h1 (k1 _ _)) (k1 _ _)) (k1 _ _), keepB (keepB h2 (k1 _ _)) (k1 _ _), keepB h3 (k1 _ _), h4, ((k1 _ _).trans (k1 _ _)).trans ((k1 _ _).trans (k1 _ _))⟩
theorem four_store {w W : World} {v : Int} {c : BitVec 64} {v2 : Int} {c2 : BitVec 64} {lv : Int} {x : BitVec 64} (h : Four w W v c v2 c2 lv x) (y : BitVec 64) :
    Four w ((W.setCell ⟨w.heap.size + 1 + 1 + 1, 0, none⟩ (.int .i64 lv)).setCell ⟨w.heap.size + 1 + 1 + 1, 1, none⟩ (.int .u64 (y.toNat : Int))) v c v2 c2 lv y := by
  have k : ∀ (b : Nat) (o : Obj), b ≠ w.heap.size + 1 + 1 + 1 → W.heap[b]? = some o → ((W.setCell ⟨w.heap.size + 1 + 1 + 1, 0, none⟩ (.int .i64 lv)).setCell ⟨w.heap.size + 1 + 1 + 1, 1, none⟩ (.int .u64 (y.toNat : Int))).heap[b]? = some o := fun b o hb ho =>
    (heap_setCell_other _ _ _ _ hb).trans ((heap_setCell_other _ _ _ _ hb).trans ho)
  have e0 : (W.setCell ⟨w.heap.size + 1 + 1 + 1, 0, none⟩ (.int .i64 lv)).heap[w.heap.size + 1 + 1 + 1]? = some (lc lv x) := by
    rw [heap_setCell_same _ _ _ _ _ _ h.o]
    rfl
  refine ⟨k _ _ (by omega) h.a, k _ _ (by omega) h.b, k _ _ (by omega) h.r, ?_, ?_⟩
  · rw [heap_setCell_same _ _ _ _ _ _ e0]
    rfl
  · exact ((show Below w.heap.size w W from h.g).setCell (p := ⟨w.heap.size + 1 + 1 + 1, 0, none⟩) (by show w.heap.size ≤ w.heap.size + 1 + 1 + 1; omega) _).setCell (p := ⟨w.heap.size + 1 + 1 + 1, 1, none⟩) (by show w.heap.size ≤ w.heap.size + 1 + 1 + 1; omega) _

/-- What is told of it, cell by cell. -/
def Cells (w W : World) (v : Int) (c : BitVec 64) (v2 : Int) (c2 : BitVec 64) (lv : Int) (x : BitVec 64) : Prop :=
  (W.cell? ⟨w.heap.size, 0, none⟩ = some (.int .i64 v) ∧ W.cell? ⟨w.heap.size, 1, none⟩ = some (.int .u64 (c.toNat : Int))) ∧
  (W.cell? ⟨w.heap.size + 1, 0, none⟩ = some (.int .i64 v2) ∧ W.cell? ⟨w.heap.size + 1, 1, none⟩ = some (.int .u64 (c2.toNat : Int))) ∧
  (W.cell? ⟨w.heap.size + 1 + 1 + 1, 0, none⟩ = some (.int .i64 lv) ∧ W.cell? ⟨w.heap.size + 1 + 1 + 1, 1, none⟩ = some (.int .u64 (x.toNat : Int)) ∧ W.frozen? ⟨w.heap.size + 1 + 1 + 1, 0, none⟩ = false ∧ W.frozen? ⟨w.heap.size + 1 + 1 + 1, 1, none⟩ = false) ∧
  (W.cell? ⟨w.heap.size + 1 + 1, 0, none⟩ = some (.int .i64 0) ∧ W.cell? ⟨w.heap.size + 1 + 1, 1, none⟩ = some (.int .u64 0) ∧ W.frozen? ⟨w.heap.size + 1 + 1, 0, none⟩ = false ∧ W.frozen? ⟨w.heap.size + 1 + 1, 1, none⟩ = false)
theorem four_cells {w W : World} {v : Int} {c : BitVec 64} {v2 : Int} {c2 : BitVec 64} {lv : Int} {x : BitVec 64} (h : Four w W v c v2 c2 lv x) : Cells w W v c v2 c2 lv x := by
  obtain ⟨a0, a1, _, _⟩ := lab_cells h.a
  obtain ⟨b0, b1, _, _⟩ := lab_cells h.b
  obtain ⟨r0, r1, r2, r3⟩ := lab_cells h.r
  exact ⟨⟨a0, a1⟩, ⟨b0, b1⟩, lab_cells h.o, ⟨r0, r1, r2, r3⟩⟩

theorem or_bit (c c2 : BitVec 64) (k : Nat) : (c ||| c2).getLsbD k = (c.getLsbD k || c2.getLsbD k) := BitVec.getLsbD_or
theorem and_bit (c c2 : BitVec 64) (k : Nat) : (c &&& c2).getLsbD k = (c.getLsbD k && c2.getLsbD k) := BitVec.getLsbD_and

set_option maxRecDepth 100000 in
set_option maxHeartbeats 2000000 in
theorem rjoin_any (v : Int) (c : BitVec 64) (v2 : Int) (c2 : BitVec 64) (w : World) : Calls Tryd.prog 17 #[.agg #[.int .i64 v, .int .u64 (c.toNat : Int)], .agg #[.int .i64 v2, .int .u64 (c2.toNat : Int)]] w fun e w' => e = .returned (.agg #[.int .i64 (max v v2), .int .u64 ((c ||| c2).toNat : Int)]) ∧ Grew w w' := by
  obtain ⟨lv, hlv⟩ : ∃ lv, lv = max v v2 := ⟨_, rfl⟩
  have HLV := Lib.hid hlv
  rw [← hlv]
  have HB := Lib.hid (or_bit c c2)
  generalize c ||| c2 = d at *
  have HN := Lib.hid (fun lv => four_new w v c v2 c2 lv 0#64)
  have H1 : Hid (∀ k W, k < 64 → Calls Tryd.prog 32 #[.agg #[.int .i64 v, .int .u64 (c.toNat : Int)], .int .i64 (k : Nat)] W fun e w' => e = .returned (.bool (c.getLsbD k)) ∧ Grew W w') := Lib.hid fun k W hk => has_any v c k hk W
  have H2 : Hid (∀ k W, k < 64 → Calls Tryd.prog 32 #[.agg #[.int .i64 v2, .int .u64 (c2.toNat : Int)], .int .i64 (k : Nat)] W fun e w' => e = .returned (.bool (c2.getLsbD k)) ∧ Grew W w') := Lib.hid fun k W hk => has_any v2 c2 k hk W
  have H3 : Hid (∀ k W, k < 64 → d.getLsbD k = true → Calls Tryd.prog 33 #[.agg #[.int .i64 lv, .int .u64 ((low d k).toNat : Int)], .int .i64 (k : Nat)] W fun e w' => e = .returned (.agg #[.int .i64 lv, .int .u64 ((low d (k + 1)).toNat : Int)]) ∧ Grew W w') := Lib.hid fun k W hk hd => by
    have := with_any lv (low d k) k hk (low_clear d k) W
    rwa [low_yes d k hk hd] at this
  by_cases hv : v < v2
  · have HE : Hid (lv = v2) := Lib.hid (by omega)
    clear HLV hlv
    go_enter Tryd.func17, Tryd.ntmps17
    go_wp2
    go_loopg [6] 64 (fun g s6 wx => ∃ k : Nat, k + g = 64 ∧ s6 = .int .i64 k ∧ Hid (Four w wx v c v2 c2 lv (low d k)))
    case atStart => exact ⟨0, by omega, rfl, Lib.hid (by rw [low_zero, HE.out]; exact HN.out _)⟩
    case round =>
      obtain ⟨k, hkg, rfl, HI⟩ := hrel
      obtain ⟨⟨a0, a1⟩, ⟨b0, b1⟩, ⟨o0, o1, o2, o3⟩, r0, r1, r2, r3⟩ := four_cells HI.out
      cases gk with
      | zero =>
        have hkz : ¬ ((k : Int) < 64) := by omega
        have hld : low d k = d := by rw [show k = 64 by omega, low_all]
        rw [hld] at o1
        obtain ⟨s0, s1, s2⟩ := lab_store HI.out.r
        have S0 := Lib.hid s0
        have S1 := Lib.hid s1
        clear s0 s1 s2 hld a0 a1 b0 b1
        have HG := Lib.hid HI.out.g
        go_wp2
        have s0 := S0.out
        have s1 := S1.out
        refine bodyPost_ret (by simp [results, Tryd.results17, go_sem, s0, s1]; try rfl) rfl ⟨rfl, ?_⟩
        exact ((show Below w.heap.size w wr from HG.out).setCell (p := ⟨w.heap.size + 1 + 1, 0, none⟩) (by show w.heap.size ≤ w.heap.size + 1 + 1; omega) _).setCell (p := ⟨w.heap.size + 1 + 1, 1, none⟩) (by show w.heap.size ≤ w.heap.size + 1 + 1; omega) _
      | succ g =>
        have hkz : (k : Int) < 64 := by omega
        have hk64 : k < 64 := by omega
        have C1 := Lib.hid (fun W => H1.out k W hk64)
        have C2 := Lib.hid (fun W => H2.out k W hk64)
        have C3 := Lib.hid (fun W => H3.out k W hk64)
        have hb := HB.out k
        have HNO := Lib.hid (low_no d k)
        clear r0 r1 r2 r3
        generalize c.getLsbD k = p at C1 hb
        generalize c2.getLsbD k = q at C2 hb
        generalize d.getLsbD k = r at C3 hb HNO
        cases p with
        | true =>
          have HBB : Hid (r = true) := Lib.hid (by rw [hb]; simp)
          clear hb
          go_wp2_with fail
          with_reducible refine (C1.out _).mono ?_
          rintro e w1 ⟨rfl, hg⟩
          have HF1 := Lib.hid (four_grew HI.out hg)
          clear hg a0 a1 b0 b1 o0 o1 o2 o3
          obtain ⟨_, _, ⟨m0, m1, m2, m3⟩, _⟩ := four_cells HF1.out
          have H := Lib.hid (C3.out)
          go_wp2_with fail
          with_reducible refine (H.out _ HBB.out).mono ?_
          rintro e w3 ⟨rfl, hg⟩
          have HF3 := Lib.hid (four_grew HF1.out hg)
          have hc3 := four_cells HF3.out
          obtain ⟨_, _, ⟨p0, p1, p2, p3⟩, _⟩ := hc3
          clear hg
          clear m0 m1 m2 m3
          go_wp2
          go_roundg g
          case measure => omega
          case rel => exact ⟨k + 1, by omega, by first | rfl | simp, Lib.hid (four_store HF3.out _)⟩
        | false =>
          cases q with
          | true =>
            have HBB : Hid (r = true) := Lib.hid (by rw [hb]; simp)
            clear hb
            go_wp2_with fail
            with_reducible refine (C1.out _).mono ?_
            rintro e w1 ⟨rfl, hg⟩
            have HF1 := Lib.hid (four_grew HI.out hg)
            clear hg a0 a1 b0 b1 o0 o1 o2 o3
            obtain ⟨_, ⟨n0, n1⟩, _, _⟩ := four_cells HF1.out
            go_wp2_with fail
            with_reducible refine (C2.out _).mono ?_
            rintro e w2 ⟨rfl, hg⟩
            have HF2 := Lib.hid (four_grew HF1.out hg)
            clear hg n0 n1
            obtain ⟨_, _, ⟨m0, m1, m2, m3⟩, _⟩ := four_cells HF2.out
            have H := Lib.hid (C3.out)
            go_wp2_with fail
            with_reducible refine (H.out _ HBB.out).mono ?_
            rintro e w3 ⟨rfl, hg⟩
            have HF3 := Lib.hid (four_grew HF2.out hg)
            have hc3 := four_cells HF3.out
            obtain ⟨_, _, ⟨p0, p1, p2, p3⟩, _⟩ := hc3
            clear hg
            clear m0 m1 m2 m3
            go_wp2
            go_roundg g
            case measure => omega
            case rel => exact ⟨k + 1, by omega, by first | rfl | simp, Lib.hid (four_store HF3.out _)⟩
          | false =>
            have HBB : Hid (r = false) := Lib.hid (by rw [hb]; simp)
            clear hb
            go_wp2_with fail
            with_reducible refine (C1.out _).mono ?_
            rintro e w1 ⟨rfl, hg⟩
            have HF1 := Lib.hid (four_grew HI.out hg)
            clear hg a0 a1 b0 b1 o0 o1 o2 o3
            obtain ⟨_, ⟨n0, n1⟩, _, _⟩ := four_cells HF1.out
            go_wp2_with fail
            with_reducible refine (C2.out _).mono ?_
            rintro e w2 ⟨rfl, hg⟩
            have HF2 := Lib.hid (four_grew HF1.out hg)
            clear hg n0 n1
            obtain ⟨_, _, ⟨m0, m1, m2, m3⟩, _⟩ := four_cells HF2.out
            clear m0 m1 m2 m3
            go_wp2
            go_roundg g
            case measure => omega
            case rel => exact ⟨k + 1, by omega, by first | rfl | simp, Lib.hid (by rw [HNO.out HBB.out]; exact HF2.out)⟩
  · have HE : Hid (lv = v) := Lib.hid (by omega)
    clear HLV hlv
    go_enter Tryd.func17, Tryd.ntmps17
    go_wp2
    go_loopg [6] 64 (fun g s6 wx => ∃ k : Nat, k + g = 64 ∧ s6 = .int .i64 k ∧ Hid (Four w wx v c v2 c2 lv (low d k)))
    case atStart => exact ⟨0, by omega, rfl, Lib.hid (by rw [low_zero, HE.out]; exact HN.out _)⟩
    case round =>
      obtain ⟨k, hkg, rfl, HI⟩ := hrel
      obtain ⟨⟨a0, a1⟩, ⟨b0, b1⟩, ⟨o0, o1, o2, o3⟩, r0, r1, r2, r3⟩ := four_cells HI.out
      cases gk with
      | zero =>
        have hkz : ¬ ((k : Int) < 64) := by omega
        have hld : low d k = d := by rw [show k = 64 by omega, low_all]
        rw [hld] at o1
        obtain ⟨s0, s1, s2⟩ := lab_store HI.out.r
        have S0 := Lib.hid s0
        have S1 := Lib.hid s1
        clear s0 s1 s2 hld a0 a1 b0 b1
        have HG := Lib.hid HI.out.g
        go_wp2
        have s0 := S0.out
        have s1 := S1.out
        refine bodyPost_ret (by simp [results, Tryd.results17, go_sem, s0, s1]; try rfl) rfl ⟨rfl, ?_⟩
        exact ((show Below w.heap.size w wr from HG.out).setCell (p := ⟨w.heap.size + 1 + 1, 0, none⟩) (by show w.heap.size ≤ w.heap.size + 1 + 1; omega) _).setCell (p := ⟨w.heap.size + 1 + 1, 1, none⟩) (by show w.heap.size ≤ w.heap.size + 1 + 1; omega) _
      | succ g =>
        have hkz : (k : Int) < 64 := by omega
        have hk64 : k < 64 := by omega
        have C1 := Lib.hid (fun W => H1.out k W hk64)
        have C2 := Lib.hid (fun W => H2.out k W hk64)
        have C3 := Lib.hid (fun W => H3.out k W hk64)
        have hb := HB.out k
        have HNO := Lib.hid (low_no d k)
        clear r0 r1 r2 r3
        generalize c.getLsbD k = p at C1 hb
        generalize c2.getLsbD k = q at C2 hb
        generalize d.getLsbD k = r at C3 hb HNO
        cases p with
        | true =>
          have HBB : Hid (r = true) := Lib.hid (by rw [hb]; simp)
          clear hb
          go_wp2_with fail
          with_reducible refine (C1.out _).mono ?_
          rintro e w1 ⟨rfl, hg⟩
          have HF1 := Lib.hid (four_grew HI.out hg)
          clear hg a0 a1 b0 b1 o0 o1 o2 o3
          obtain ⟨_, _, ⟨m0, m1, m2, m3⟩, _⟩ := four_cells HF1.out
          have H := Lib.hid (C3.out)
          go_wp2_with fail
          with_reducible refine (H.out _ HBB.out).mono ?_
          rintro e w3 ⟨rfl, hg⟩
          have HF3 := Lib.hid (four_grew HF1.out hg)
          have hc3 := four_cells HF3.out
          obtain ⟨_, _, ⟨p0, p1, p2, p3⟩, _⟩ := hc3
          clear hg
          clear m0 m1 m2 m3
          go_wp2
          go_roundg g
          case measure => omega
          case rel => exact ⟨k + 1, by omega, by first | rfl | simp, Lib.hid (four_store HF3.out _)⟩
        | false =>
          cases q with
          | true =>
            have HBB : Hid (r = true) := Lib.hid (by rw [hb]; simp)
            clear hb
            go_wp2_with fail
            with_reducible refine (C1.out _).mono ?_
            rintro e w1 ⟨rfl, hg⟩
            have HF1 := Lib.hid (four_grew HI.out hg)
            clear hg a0 a1 b0 b1 o0 o1 o2 o3
            obtain ⟨_, ⟨n0, n1⟩, _, _⟩ := four_cells HF1.out
            go_wp2_with fail
            with_reducible refine (C2.out _).mono ?_
            rintro e w2 ⟨rfl, hg⟩
            have HF2 := Lib.hid (four_grew HF1.out hg)
            clear hg n0 n1
            obtain ⟨_, _, ⟨m0, m1, m2, m3⟩, _⟩ := four_cells HF2.out
            have H := Lib.hid (C3.out)
            go_wp2_with fail
            with_reducible refine (H.out _ HBB.out).mono ?_
            rintro e w3 ⟨rfl, hg⟩
            have HF3 := Lib.hid (four_grew HF2.out hg)
            have hc3 := four_cells HF3.out
            obtain ⟨_, _, ⟨p0, p1, p2, p3⟩, _⟩ := hc3
            clear hg
            clear m0 m1 m2 m3
            go_wp2
            go_roundg g
            case measure => omega
            case rel => exact ⟨k + 1, by omega, by first | rfl | simp, Lib.hid (four_store HF3.out _)⟩
          | false =>
            have HBB : Hid (r = false) := Lib.hid (by rw [hb]; simp)
            clear hb
            go_wp2_with fail
            with_reducible refine (C1.out _).mono ?_
            rintro e w1 ⟨rfl, hg⟩
            have HF1 := Lib.hid (four_grew HI.out hg)
            clear hg a0 a1 b0 b1 o0 o1 o2 o3
            obtain ⟨_, ⟨n0, n1⟩, _, _⟩ := four_cells HF1.out
            go_wp2_with fail
            with_reducible refine (C2.out _).mono ?_
            rintro e w2 ⟨rfl, hg⟩
            have HF2 := Lib.hid (four_grew HF1.out hg)
            clear hg n0 n1
            obtain ⟨_, _, ⟨m0, m1, m2, m3⟩, _⟩ := four_cells HF2.out
            clear m0 m1 m2 m3
            go_wp2
            go_roundg g
            case measure => omega
            case rel => exact ⟨k + 1, by omega, by first | rfl | simp, Lib.hid (by rw [HNO.out HBB.out]; exact HF2.out)⟩

set_option maxRecDepth 100000 in
set_option maxHeartbeats 2000000 in
theorem rmeet_any (v : Int) (c : BitVec 64) (v2 : Int) (c2 : BitVec 64) (w : World) : Calls Tryd.prog 19 #[.agg #[.int .i64 v, .int .u64 (c.toNat : Int)], .agg #[.int .i64 v2, .int .u64 (c2.toNat : Int)]] w fun e w' => e = .returned (.agg #[.int .i64 (min v v2), .int .u64 ((c &&& c2).toNat : Int)]) ∧ Grew w w' := by
  obtain ⟨lv, hlv⟩ : ∃ lv, lv = min v v2 := ⟨_, rfl⟩
  have HLV := Lib.hid hlv
  rw [← hlv]
  have HB := Lib.hid (and_bit c c2)
  generalize c &&& c2 = d at *
  have HN := Lib.hid (fun lv => four_new w v c v2 c2 lv 0#64)
  have H1 : Hid (∀ k W, k < 64 → Calls Tryd.prog 32 #[.agg #[.int .i64 v, .int .u64 (c.toNat : Int)], .int .i64 (k : Nat)] W fun e w' => e = .returned (.bool (c.getLsbD k)) ∧ Grew W w') := Lib.hid fun k W hk => has_any v c k hk W
  have H2 : Hid (∀ k W, k < 64 → Calls Tryd.prog 32 #[.agg #[.int .i64 v2, .int .u64 (c2.toNat : Int)], .int .i64 (k : Nat)] W fun e w' => e = .returned (.bool (c2.getLsbD k)) ∧ Grew W w') := Lib.hid fun k W hk => has_any v2 c2 k hk W
  have H3 : Hid (∀ k W, k < 64 → d.getLsbD k = true → Calls Tryd.prog 33 #[.agg #[.int .i64 lv, .int .u64 ((low d k).toNat : Int)], .int .i64 (k : Nat)] W fun e w' => e = .returned (.agg #[.int .i64 lv, .int .u64 ((low d (k + 1)).toNat : Int)]) ∧ Grew W w') := Lib.hid fun k W hk hd => by
    have := with_any lv (low d k) k hk (low_clear d k) W
    rwa [low_yes d k hk hd] at this
  by_cases hv : v2 < v
  · have HE : Hid (lv = v2) := Lib.hid (by omega)
    clear HLV hlv
    go_enter Tryd.func19, Tryd.ntmps19
    go_wp2
    go_loopg [6] 64 (fun g s6 wx => ∃ k : Nat, k + g = 64 ∧ s6 = .int .i64 k ∧ Hid (Four w wx v c v2 c2 lv (low d k)))
    case atStart => exact ⟨0, by omega, rfl, Lib.hid (by rw [low_zero, HE.out]; exact HN.out _)⟩
    case round =>
      obtain ⟨k, hkg, rfl, HI⟩ := hrel
      obtain ⟨⟨a0, a1⟩, ⟨b0, b1⟩, ⟨o0, o1, o2, o3⟩, r0, r1, r2, r3⟩ := four_cells HI.out
      cases gk with
      | zero =>
        have hkz : ¬ ((k : Int) < 64) := by omega
        have hld : low d k = d := by rw [show k = 64 by omega, low_all]
        rw [hld] at o1
        obtain ⟨s0, s1, s2⟩ := lab_store HI.out.r
        have S0 := Lib.hid s0
        have S1 := Lib.hid s1
        clear s0 s1 s2 hld a0 a1 b0 b1
        have HG := Lib.hid HI.out.g
        go_wp2
        have s0 := S0.out
        have s1 := S1.out
        refine bodyPost_ret (by simp [results, Tryd.results19, go_sem, s0, s1]; try rfl) rfl ⟨rfl, ?_⟩
        exact ((show Below w.heap.size w wr from HG.out).setCell (p := ⟨w.heap.size + 1 + 1, 0, none⟩) (by show w.heap.size ≤ w.heap.size + 1 + 1; omega) _).setCell (p := ⟨w.heap.size + 1 + 1, 1, none⟩) (by show w.heap.size ≤ w.heap.size + 1 + 1; omega) _
      | succ g =>
        have hkz : (k : Int) < 64 := by omega
        have hk64 : k < 64 := by omega
        have C1 := Lib.hid (fun W => H1.out k W hk64)
        have C2 := Lib.hid (fun W => H2.out k W hk64)
        have C3 := Lib.hid (fun W => H3.out k W hk64)
        have hb := HB.out k
        have HNO := Lib.hid (low_no d k)
        clear r0 r1 r2 r3
        generalize c.getLsbD k = p at C1 hb
        generalize c2.getLsbD k = q at C2 hb
        generalize d.getLsbD k = r at C3 hb HNO
        cases p with
        | true =>
          cases q with
          | true =>
            have HBB : Hid (r = true) := Lib.hid (by rw [hb]; simp)
            clear hb
            go_wp2_with fail
            with_reducible refine (C1.out _).mono ?_
            rintro e w1 ⟨rfl, hg⟩
            have HF1 := Lib.hid (four_grew HI.out hg)
            clear hg a0 a1 b0 b1 o0 o1 o2 o3
            obtain ⟨_, ⟨n0, n1⟩, _, _⟩ := four_cells HF1.out
            go_wp2_with fail
            with_reducible refine (C2.out _).mono ?_
            rintro e w2 ⟨rfl, hg⟩
            have HF2 := Lib.hid (four_grew HF1.out hg)
            clear hg n0 n1
            obtain ⟨_, _, ⟨m0, m1, m2, m3⟩, _⟩ := four_cells HF2.out
            have H := Lib.hid (C3.out)
            go_wp2_with fail
            with_reducible refine (H.out _ HBB.out).mono ?_
            rintro e w3 ⟨rfl, hg⟩
            have HF3 := Lib.hid (four_grew HF2.out hg)
            have hc3 := four_cells HF3.out
            obtain ⟨_, _, ⟨p0, p1, p2, p3⟩, _⟩ := hc3
            clear hg
            clear m0 m1 m2 m3
            go_wp2
            go_roundg g
            case measure => omega
            case rel => exact ⟨k + 1, by omega, by first | rfl | simp, Lib.hid (four_store HF3.out _)⟩
          | false =>
            have HBB : Hid (r = false) := Lib.hid (by rw [hb]; simp)
            clear hb
            go_wp2_with fail
            with_reducible refine (C1.out _).mono ?_
            rintro e w1 ⟨rfl, hg⟩
            have HF1 := Lib.hid (four_grew HI.out hg)
            clear hg a0 a1 b0 b1 o0 o1 o2 o3
            obtain ⟨_, ⟨n0, n1⟩, _, _⟩ := four_cells HF1.out
            go_wp2_with fail
            with_reducible refine (C2.out _).mono ?_
            rintro e w2 ⟨rfl, hg⟩
            have HF2 := Lib.hid (four_grew HF1.out hg)
            clear hg n0 n1
            obtain ⟨_, _, ⟨m0, m1, m2, m3⟩, _⟩ := four_cells HF2.out
            clear m0 m1 m2 m3
            go_wp2
            go_roundg g
            case measure => omega
            case rel => exact ⟨k + 1, by omega, by first | rfl | simp, Lib.hid (by rw [HNO.out HBB.out]; exact HF2.out)⟩
        | false =>
          have HBB : Hid (r = false) := Lib.hid (by rw [hb]; simp)
          clear hb
          go_wp2_with fail
          with_reducible refine (C1.out _).mono ?_
          rintro e w1 ⟨rfl, hg⟩
          have HF1 := Lib.hid (four_grew HI.out hg)
          clear hg a0 a1 b0 b1 o0 o1 o2 o3
          obtain ⟨_, _, ⟨m0, m1, m2, m3⟩, _⟩ := four_cells HF1.out
          clear m0 m1 m2 m3
          go_wp2
          go_roundg g
          case measure => omega
          case rel => exact ⟨k + 1, by omega, by first | rfl | simp, Lib.hid (by rw [HNO.out HBB.out]; exact HF1.out)⟩
  · have HE : Hid (lv = v) := Lib.hid (by omega)
    clear HLV hlv
    go_enter Tryd.func19, Tryd.ntmps19
    go_wp2
    go_loopg [6] 64 (fun g s6 wx => ∃ k : Nat, k + g = 64 ∧ s6 = .int .i64 k ∧ Hid (Four w wx v c v2 c2 lv (low d k)))
    case atStart => exact ⟨0, by omega, rfl, Lib.hid (by rw [low_zero, HE.out]; exact HN.out _)⟩
    case round =>
      obtain ⟨k, hkg, rfl, HI⟩ := hrel
      obtain ⟨⟨a0, a1⟩, ⟨b0, b1⟩, ⟨o0, o1, o2, o3⟩, r0, r1, r2, r3⟩ := four_cells HI.out
      cases gk with
      | zero =>
        have hkz : ¬ ((k : Int) < 64) := by omega
        have hld : low d k = d := by rw [show k = 64 by omega, low_all]
        rw [hld] at o1
        obtain ⟨s0, s1, s2⟩ := lab_store HI.out.r
        have S0 := Lib.hid s0
        have S1 := Lib.hid s1
        clear s0 s1 s2 hld a0 a1 b0 b1
        have HG := Lib.hid HI.out.g
        go_wp2
        have s0 := S0.out
        have s1 := S1.out
        refine bodyPost_ret (by simp [results, Tryd.results19, go_sem, s0, s1]; try rfl) rfl ⟨rfl, ?_⟩
        exact ((show Below w.heap.size w wr from HG.out).setCell (p := ⟨w.heap.size + 1 + 1, 0, none⟩) (by show w.heap.size ≤ w.heap.size + 1 + 1; omega) _).setCell (p := ⟨w.heap.size + 1 + 1, 1, none⟩) (by show w.heap.size ≤ w.heap.size + 1 + 1; omega) _
      | succ g =>
        have hkz : (k : Int) < 64 := by omega
        have hk64 : k < 64 := by omega
        have C1 := Lib.hid (fun W => H1.out k W hk64)
        have C2 := Lib.hid (fun W => H2.out k W hk64)
        have C3 := Lib.hid (fun W => H3.out k W hk64)
        have hb := HB.out k
        have HNO := Lib.hid (low_no d k)
        clear r0 r1 r2 r3
        generalize c.getLsbD k = p at C1 hb
        generalize c2.getLsbD k = q at C2 hb
        generalize d.getLsbD k = r at C3 hb HNO
        cases p with
        | true =>
          cases q with
          | true =>
            have HBB : Hid (r = true) := Lib.hid (by rw [hb]; simp)
            clear hb
            go_wp2_with fail
            with_reducible refine (C1.out _).mono ?_
            rintro e w1 ⟨rfl, hg⟩
            have HF1 := Lib.hid (four_grew HI.out hg)
            clear hg a0 a1 b0 b1 o0 o1 o2 o3
            obtain ⟨_, ⟨n0, n1⟩, _, _⟩ := four_cells HF1.out
            go_wp2_with fail
            with_reducible refine (C2.out _).mono ?_
            rintro e w2 ⟨rfl, hg⟩
            have HF2 := Lib.hid (four_grew HF1.out hg)
            clear hg n0 n1
            obtain ⟨_, _, ⟨m0, m1, m2, m3⟩, _⟩ := four_cells HF2.out
            have H := Lib.hid (C3.out)
            go_wp2_with fail
            with_reducible refine (H.out _ HBB.out).mono ?_
            rintro e w3 ⟨rfl, hg⟩
            have HF3 := Lib.hid (four_grew HF2.out hg)
            have hc3 := four_cells HF3.out
            obtain ⟨_, _, ⟨p0, p1, p2, p3⟩, _⟩ := hc3
            clear hg
            clear m0 m1 m2 m3
            go_wp2
            go_roundg g
            case measure => omega
            case rel => exact ⟨k + 1, by omega, by first | rfl | simp, Lib.hid (four_store HF3.out _)⟩
          | false =>
            have HBB : Hid (r = false) := Lib.hid (by rw [hb]; simp)
            clear hb
            go_wp2_with fail
            with_reducible refine (C1.out _).mono ?_
            rintro e w1 ⟨rfl, hg⟩
            have HF1 := Lib.hid (four_grew HI.out hg)
            clear hg a0 a1 b0 b1 o0 o1 o2 o3
            obtain ⟨_, ⟨n0, n1⟩, _, _⟩ := four_cells HF1.out
            go_wp2_with fail
            with_reducible refine (C2.out _).mono ?_
            rintro e w2 ⟨rfl, hg⟩
            have HF2 := Lib.hid (four_grew HF1.out hg)
            clear hg n0 n1
            obtain ⟨_, _, ⟨m0, m1, m2, m3⟩, _⟩ := four_cells HF2.out
            clear m0 m1 m2 m3
            go_wp2
            go_roundg g
            case measure => omega
            case rel => exact ⟨k + 1, by omega, by first | rfl | simp, Lib.hid (by rw [HNO.out HBB.out]; exact HF2.out)⟩
        | false =>
          have HBB : Hid (r = false) := Lib.hid (by rw [hb]; simp)
          clear hb
          go_wp2_with fail
          with_reducible refine (C1.out _).mono ?_
          rintro e w1 ⟨rfl, hg⟩
          have HF1 := Lib.hid (four_grew HI.out hg)
          clear hg a0 a1 b0 b1 o0 o1 o2 o3
          obtain ⟨_, _, ⟨m0, m1, m2, m3⟩, _⟩ := four_cells HF1.out
          clear m0 m1 m2 m3
          go_wp2
          go_roundg g
          case measure => omega
          case rel => exact ⟨k + 1, by omega, by first | rfl | simp, Lib.hid (by rw [HNO.out HBB.out]; exact HF1.out)⟩

end Go.Proofs.YtekodmnhheejkaaDoor.Refs2
