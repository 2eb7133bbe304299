/-
  The document's Same, of two values that are one realm.
  Conditions: those that each lemma names.
-/
import Derived.Test.YtmegdgeiikhflaaGreatRRight
namespace Go.Proofs.YtmegdgeiikhflaaGreat.EB
set_option maxRecDepth 100000
open Go Go.RowKit Go.Lib Go.Proofs.YtmegdgeiikhflaaGreat Go.Proofs.YtmegdgeiikhflaaGreat.Facts Go.Proofs.YtmegdgeiikhflaaGreat.Bytes Go.Proofs.YtmegdgeiikhflaaGreat.Plain Go.Proofs.YtmegdgeiikhflaaGreat.Ints Go.Proofs.YtmegdgeiikhflaaGreat.LBox Go.Proofs.YtmegdgeiikhflaaGreat.RRows Go.Proofs.YtmegdgeiikhflaaGreat.RSmall Go.Proofs.YtmegdgeiikhflaaGreat.RRules Go.Proofs.YtmegdgeiikhflaaGreat.RRule3 Go.Proofs.YtmegdgeiikhflaaGreat.RRight


theorem Is_at {w : World} {v : Value} {l : List Int} (h : Is w v l) {k : Nat} {x : Int} (hk : l[k]? = some x) : ∃ ad c, v = .slice (some ad) l.length c ∧ l.length ≤ c ∧ w.cell? (ad.add k) = some (.int .i64 x) := by
  have hlt := (List.getElem?_eq_some_iff.1 hk).1
  obtain ⟨ad, c, e, hc, hcell⟩ := h.cell hlt
  rw [hk] at hcell
  exact ⟨ad, c, e, hc, hcell⟩
set_option maxHeartbeats 8000000 in
/-- A realm is the same as itself. -/
theorem same_self (v v' : Value) (r : Re) (w : World) (h : ReIs w v r) (h' : ReIs w v' r) : Calls Tryz.prog 31 #[v, v'] w fun e w' => e = .returned (.bool true) ∧ Grew w w' := by
  obtain ⟨v0, v1, v2, v3, v4, rfl, h0, h1, h2, h3, h4⟩ := h
  obtain ⟨u0, u1, u2, u3, u4, rfl, k0, k1, k2, k3, k4⟩ := h'
  have HX0 := Lib.hid h0
  have HY0 := Lib.hid k0
  have HX1 := Lib.hid h1
  have HY1 := Lib.hid k1
  have HX2 := Lib.hid h2
  have HY2 := Lib.hid k2
  have HX3 := Lib.hid h3
  have HY3 := Lib.hid k3
  have HX4 := Lib.hid h4
  have HY4 := Lib.hid k4
  obtain ⟨A0x, c0x, rfl, _⟩ := id h0
  obtain ⟨A1x, c1x, rfl, _⟩ := id h1
  obtain ⟨A2x, c2x, rfl, _⟩ := id h2
  obtain ⟨A3x, c3x, rfl, _⟩ := id h3
  obtain ⟨A4x, c4x, rfl, _⟩ := id h4
  obtain ⟨A0y, c0y, rfl, _⟩ := id k0
  obtain ⟨A1y, c1y, rfl, _⟩ := id k1
  obtain ⟨A2y, c2y, rfl, _⟩ := id k2
  obtain ⟨A3y, c3y, rfl, _⟩ := id k3
  obtain ⟨A4y, c4y, rfl, _⟩ := id k4
  clear h0 h1 h2 h3 h4 k0 k1 k2 k3 k4
  have G0 : Hid (Grew w ((w.alloc (Obj.cells #[.slice A0x r.labels.length c0x, .slice A1x r.lines.length c1x, .slice A2x r.accounts.length c2x, .slice A3x r.guilds.length c3x, .slice A4x r.quotas.length c4x, .int .i64 r.orders, .int .i64 r.audits, .int .i64 r.rate, .int .i64 r.rounds] 28)).alloc (Obj.cells #[.slice A0y r.labels.length c0y, .slice A1y r.lines.length c1y, .slice A2y r.accounts.length c2y, .slice A3y r.guilds.length c3y, .slice A4y r.quotas.length c4y, .int .i64 r.orders, .int .i64 r.audits, .int .i64 r.rate, .int .i64 r.rounds] 28))) := Lib.hid (by unfold Grew; go_grown)
  have HRA : Hid (((w.alloc (Obj.cells #[.slice A0x r.labels.length c0x, .slice A1x r.lines.length c1x, .slice A2x r.accounts.length c2x, .slice A3x r.guilds.length c3x, .slice A4x r.quotas.length c4x, .int .i64 r.orders, .int .i64 r.audits, .int .i64 r.rate, .int .i64 r.rounds] 28)).alloc (Obj.cells #[.slice A0y r.labels.length c0y, .slice A1y r.lines.length c1y, .slice A2y r.accounts.length c2y, .slice A3y r.guilds.length c3y, .slice A4y r.quotas.length c4y, .int .i64 r.orders, .int .i64 r.audits, .int .i64 r.rate, .int .i64 r.rounds] 28)).heap[w.heap.size]? = some (rcell (.slice A0x r.labels.length c0x) (.slice A1x r.lines.length c1x) (.slice A2x r.accounts.length c2x) (.slice A3x r.guilds.length c3x) (.slice A4x r.quotas.length c4x) r.orders r.audits r.rate r.rounds)) := Lib.hid ((heap_alloc_old _ _ (by simp)).trans (heap_alloc_new w _))
  have HRB : Hid (((w.alloc (Obj.cells #[.slice A0x r.labels.length c0x, .slice A1x r.lines.length c1x, .slice A2x r.accounts.length c2x, .slice A3x r.guilds.length c3x, .slice A4x r.quotas.length c4x, .int .i64 r.orders, .int .i64 r.audits, .int .i64 r.rate, .int .i64 r.rounds] 28)).alloc (Obj.cells #[.slice A0y r.labels.length c0y, .slice A1y r.lines.length c1y, .slice A2y r.accounts.length c2y, .slice A3y r.guilds.length c3y, .slice A4y r.quotas.length c4y, .int .i64 r.orders, .int .i64 r.audits, .int .i64 r.rate, .int .i64 r.rounds] 28)).heap[w.heap.size + 1]? = some (rcell (.slice A0y r.labels.length c0y) (.slice A1y r.lines.length c1y) (.slice A2y r.accounts.length c2y) (.slice A3y r.guilds.length c3y) (.slice A4y r.quotas.length c4y) r.orders r.audits r.rate r.rounds)) := Lib.hid (heap_alloc2_new w _ _)
  have HGG : Hid (Grew ((w.alloc (Obj.cells #[.slice A0x r.labels.length c0x, .slice A1x r.lines.length c1x, .slice A2x r.accounts.length c2x, .slice A3x r.guilds.length c3x, .slice A4x r.quotas.length c4x, .int .i64 r.orders, .int .i64 r.audits, .int .i64 r.rate, .int .i64 r.rounds] 28)).alloc (Obj.cells #[.slice A0y r.labels.length c0y, .slice A1y r.lines.length c1y, .slice A2y r.accounts.length c2y, .slice A3y r.guilds.length c3y, .slice A4y r.quotas.length c4y, .int .i64 r.orders, .int .i64 r.audits, .int .i64 r.rate, .int .i64 r.rounds] 28)) ((w.alloc (Obj.cells #[.slice A0x r.labels.length c0x, .slice A1x r.lines.length c1x, .slice A2x r.accounts.length c2x, .slice A3x r.guilds.length c3x, .slice A4x r.quotas.length c4x, .int .i64 r.orders, .int .i64 r.audits, .int .i64 r.rate, .int .i64 r.rounds] 28)).alloc (Obj.cells #[.slice A0y r.labels.length c0y, .slice A1y r.lines.length c1y, .slice A2y r.accounts.length c2y, .slice A3y r.guilds.length c3y, .slice A4y r.quotas.length c4y, .int .i64 r.orders, .int .i64 r.audits, .int .i64 r.rate, .int .i64 r.rounds] 28))) := Lib.hid (Grew.refl _)
  go_enter Tryz.func31, Tryz.ntmps31
  obtain ⟨r0, r1, r2, r3, r4, r5, r6, r7, r8⟩ := re_cells (keepB HRA.out HGG.out)
  obtain ⟨t0, t1, t2, t3, t4, t5, t6, t7, t8⟩ := re_cells (keepB HRB.out HGG.out)
  go_wp2
  go_loopg [5] r.labels.length (fun g s5 wx => ∃ k : Nat, k + g = r.labels.length ∧ s5 = .int .i64 k ∧ Hid (Grew ((w.alloc (Obj.cells #[.slice A0x r.labels.length c0x, .slice A1x r.lines.length c1x, .slice A2x r.accounts.length c2x, .slice A3x r.guilds.length c3x, .slice A4x r.quotas.length c4x, .int .i64 r.orders, .int .i64 r.audits, .int .i64 r.rate, .int .i64 r.rounds] 28)).alloc (Obj.cells #[.slice A0y r.labels.length c0y, .slice A1y r.lines.length c1y, .slice A2y r.accounts.length c2y, .slice A3y r.guilds.length c3y, .slice A4y r.quotas.length c4y, .int .i64 r.orders, .int .i64 r.audits, .int .i64 r.rate, .int .i64 r.rounds] 28)) wx))
  case atStart => exact ⟨0, by omega, rfl, HGG⟩
  case round =>
    clear HGG r0 r1 r2 r3 r4 r5 r6 r7 r8 t0 t1 t2 t3 t4 t5 t6 t7 t8
    obtain ⟨k, hkg, rfl, HGG⟩ := hrel
    cases gk with
    | zero =>
      have hkz : ¬ ((k : Int) < (r.labels.length : Int)) := by omega
      clear hkg
      obtain ⟨r0, r1, r2, r3, r4, r5, r6, r7, r8⟩ := re_cells (keepB HRA.out HGG.out)
      obtain ⟨t0, t1, t2, t3, t4, t5, t6, t7, t8⟩ := re_cells (keepB HRB.out HGG.out)
      go_wp2
      go_loopg [6] r.lines.length (fun g s5 wx => ∃ k : Nat, k + g = r.lines.length ∧ s5 = .int .i64 k ∧ Hid (Grew ((w.alloc (Obj.cells #[.slice A0x r.labels.length c0x, .slice A1x r.lines.length c1x, .slice A2x r.accounts.length c2x, .slice A3x r.guilds.length c3x, .slice A4x r.quotas.length c4x, .int .i64 r.orders, .int .i64 r.audits, .int .i64 r.rate, .int .i64 r.rounds] 28)).alloc (Obj.cells #[.slice A0y r.labels.length c0y, .slice A1y r.lines.length c1y, .slice A2y r.accounts.length c2y, .slice A3y r.guilds.length c3y, .slice A4y r.quotas.length c4y, .int .i64 r.orders, .int .i64 r.audits, .int .i64 r.rate, .int .i64 r.rounds] 28)) wx))
      case atStart => exact ⟨0, by omega, rfl, HGG⟩
      case round =>
        clear HGG r0 r1 r2 r3 r4 r5 r6 r7 r8 t0 t1 t2 t3 t4 t5 t6 t7 t8
        obtain ⟨k, hkg, rfl, HGG⟩ := hrel
        cases gk with
        | zero =>
          have hkz : ¬ ((k : Int) < (r.lines.length : Int)) := by omega
          clear hkg
          obtain ⟨r0, r1, r2, r3, r4, r5, r6, r7, r8⟩ := re_cells (keepB HRA.out HGG.out)
          obtain ⟨t0, t1, t2, t3, t4, t5, t6, t7, t8⟩ := re_cells (keepB HRB.out HGG.out)
          go_wp2
          go_loopg [7] r.accounts.length (fun g s5 wx => ∃ k : Nat, k + g = r.accounts.length ∧ s5 = .int .i64 k ∧ Hid (Grew ((w.alloc (Obj.cells #[.slice A0x r.labels.length c0x, .slice A1x r.lines.length c1x, .slice A2x r.accounts.length c2x, .slice A3x r.guilds.length c3x, .slice A4x r.quotas.length c4x, .int .i64 r.orders, .int .i64 r.audits, .int .i64 r.rate, .int .i64 r.rounds] 28)).alloc (Obj.cells #[.slice A0y r.labels.length c0y, .slice A1y r.lines.length c1y, .slice A2y r.accounts.length c2y, .slice A3y r.guilds.length c3y, .slice A4y r.quotas.length c4y, .int .i64 r.orders, .int .i64 r.audits, .int .i64 r.rate, .int .i64 r.rounds] 28)) wx))
          case atStart => exact ⟨0, by omega, rfl, HGG⟩
          case round =>
            clear HGG r0 r1 r2 r3 r4 r5 r6 r7 r8 t0 t1 t2 t3 t4 t5 t6 t7 t8
            obtain ⟨k, hkg, rfl, HGG⟩ := hrel
            cases gk with
            | zero =>
              have hkz : ¬ ((k : Int) < (r.accounts.length : Int)) := by omega
              clear hkg
              obtain ⟨r0, r1, r2, r3, r4, r5, r6, r7, r8⟩ := re_cells (keepB HRA.out HGG.out)
              obtain ⟨t0, t1, t2, t3, t4, t5, t6, t7, t8⟩ := re_cells (keepB HRB.out HGG.out)
              go_wp2
              go_loopg [8] r.guilds.length (fun g s5 wx => ∃ k : Nat, k + g = r.guilds.length ∧ s5 = .int .i64 k ∧ Hid (Grew ((w.alloc (Obj.cells #[.slice A0x r.labels.length c0x, .slice A1x r.lines.length c1x, .slice A2x r.accounts.length c2x, .slice A3x r.guilds.length c3x, .slice A4x r.quotas.length c4x, .int .i64 r.orders, .int .i64 r.audits, .int .i64 r.rate, .int .i64 r.rounds] 28)).alloc (Obj.cells #[.slice A0y r.labels.length c0y, .slice A1y r.lines.length c1y, .slice A2y r.accounts.length c2y, .slice A3y r.guilds.length c3y, .slice A4y r.quotas.length c4y, .int .i64 r.orders, .int .i64 r.audits, .int .i64 r.rate, .int .i64 r.rounds] 28)) wx))
              case atStart => exact ⟨0, by omega, rfl, HGG⟩
              case round =>
                clear HGG r0 r1 r2 r3 r4 r5 r6 r7 r8 t0 t1 t2 t3 t4 t5 t6 t7 t8
                obtain ⟨k, hkg, rfl, HGG⟩ := hrel
                cases gk with
                | zero =>
                  have hkz : ¬ ((k : Int) < (r.guilds.length : Int)) := by omega
                  clear hkg
                  obtain ⟨r0, r1, r2, r3, r4, r5, r6, r7, r8⟩ := re_cells (keepB HRA.out HGG.out)
                  obtain ⟨t0, t1, t2, t3, t4, t5, t6, t7, t8⟩ := re_cells (keepB HRB.out HGG.out)
                  go_wp2
                  go_loopg [9] r.quotas.length (fun g s5 wx => ∃ k : Nat, k + g = r.quotas.length ∧ s5 = .int .i64 k ∧ Hid (Grew ((w.alloc (Obj.cells #[.slice A0x r.labels.length c0x, .slice A1x r.lines.length c1x, .slice A2x r.accounts.length c2x, .slice A3x r.guilds.length c3x, .slice A4x r.quotas.length c4x, .int .i64 r.orders, .int .i64 r.audits, .int .i64 r.rate, .int .i64 r.rounds] 28)).alloc (Obj.cells #[.slice A0y r.labels.length c0y, .slice A1y r.lines.length c1y, .slice A2y r.accounts.length c2y, .slice A3y r.guilds.length c3y, .slice A4y r.quotas.length c4y, .int .i64 r.orders, .int .i64 r.audits, .int .i64 r.rate, .int .i64 r.rounds] 28)) wx))
                  case atStart => exact ⟨0, by omega, rfl, HGG⟩
                  case round =>
                    clear HGG r0 r1 r2 r3 r4 r5 r6 r7 r8 t0 t1 t2 t3 t4 t5 t6 t7 t8
                    obtain ⟨k, hkg, rfl, HGG⟩ := hrel
                    cases gk with
                    | zero =>
                      have hkz : ¬ ((k : Int) < (r.quotas.length : Int)) := by omega
                      clear hkg
                      obtain ⟨r0, r1, r2, r3, r4, r5, r6, r7, r8⟩ := re_cells (keepB HRA.out HGG.out)
                      obtain ⟨t0, t1, t2, t3, t4, t5, t6, t7, t8⟩ := re_cells (keepB HRB.out HGG.out)
                      go_wp2
                      go_returns
                      exact ⟨by first | rfl | (simp; done), G0.out.trans HGG.out⟩
                    | succ g =>
                      have hkl : k < r.quotas.length := by omega
                      have hkz : (k : Int) < (r.quotas.length : Int) := by omega
                      have hx : r.quotas[k]? = some r.quotas[k] := List.getElem?_eq_getElem hkl
                      generalize r.quotas[k] = x at *
                      obtain ⟨ad, c9, e9, _⟩ := Qs_at HX4.out hx
                      injection e9 with e1 e2 e3
                      subst e1 e3
                      clear e2
                      obtain ⟨ae, c8, e9, _⟩ := Qs_at HY4.out hx
                      injection e9 with e1 e2 e3
                      subst e1 e3
                      clear e2
                      have HE1 : Hid (∀ W, Grew wr W → W.cell? (ad.add (k * 6)) = some (.int .i64 x.rooms) ∧ W.cell? ⟨(ad.add (k * 6)).block, (ad.add (k * 6)).off + 1, none⟩ = some (.int .i64 x.exits) ∧ W.cell? ⟨(ad.add (k * 6)).block, (ad.add (k * 6)).off + 2, none⟩ = some (.int .i64 x.items) ∧ W.cell? ⟨(ad.add (k * 6)).block, (ad.add (k * 6)).off + 3, none⟩ = some (.int .i64 x.mails) ∧ W.cell? ⟨(ad.add (k * 6)).block, (ad.add (k * 6)).off + 4, none⟩ = some (.int .i64 x.trades) ∧ W.cell? ⟨(ad.add (k * 6)).block, (ad.add (k * 6)).off + 5, none⟩ = some (.int .u64 (x.cap.toNat : Int))) := Lib.hid fun W hg => by
                        obtain ⟨ad', c', e', _, hc⟩ := Qs_at (HX4.out.grew (G0.out.trans (HGG.out.trans hg))) hx
                        injection e' with e1 e2 e3
                        injection e1 with e1
                        subst e1
                        exact hc
                      have HE2 : Hid (∀ W, Grew wr W → W.cell? (ae.add (k * 6)) = some (.int .i64 x.rooms) ∧ W.cell? ⟨(ae.add (k * 6)).block, (ae.add (k * 6)).off + 1, none⟩ = some (.int .i64 x.exits) ∧ W.cell? ⟨(ae.add (k * 6)).block, (ae.add (k * 6)).off + 2, none⟩ = some (.int .i64 x.items) ∧ W.cell? ⟨(ae.add (k * 6)).block, (ae.add (k * 6)).off + 3, none⟩ = some (.int .i64 x.mails) ∧ W.cell? ⟨(ae.add (k * 6)).block, (ae.add (k * 6)).off + 4, none⟩ = some (.int .i64 x.trades) ∧ W.cell? ⟨(ae.add (k * 6)).block, (ae.add (k * 6)).off + 5, none⟩ = some (.int .u64 (x.cap.toNat : Int))) := Lib.hid fun W hg => by
                        obtain ⟨ad', c', e', _, hc⟩ := Qs_at (HY4.out.grew (G0.out.trans (HGG.out.trans hg))) hx
                        injection e' with e1 e2 e3
                        injection e1 with e1
                        subst e1
                        exact hc
                      have HR1 := Lib.hid (keepB HRA.out HGG.out)
                      have HR2 := Lib.hid (keepB HRB.out HGG.out)
                      obtain ⟨r0, r1, r2, r3, r4, r5, r6, r7, r8⟩ := re_cells HR1.out
                      obtain ⟨t0, t1, t2, t3, t4, t5, t6, t7, t8⟩ := re_cells HR2.out
                      have HB8 : Hid (r.quotas.length ≤ maxLen) := Lib.hid (by obtain ⟨_, _, e, q1, q2, _⟩ := HX4.out; omega)
                      have HKW : Hid (wrap64 ((k : Int) + 1) = ((k + 1 : Nat) : Int)) := Lib.hid (by have := HB8.out; unfold maxLen at this; unfold wrap64; omega)
                      have HM : Hid (k + 1 + g = r.quotas.length) := Lib.hid (by omega)
                      clear hkg hx
                      go_wp2
                      clear r0 r1 r2 r3 r4 r5 r6 r7 r8 t0 t1 t2 t3 t4 t5 t6 t7 t8
                      refine Facts.wp_region_text (by kernel_rfl) (by kernel_rfl) ?_
                      apply Facts.Lex.exact [] _ (by kernel_rfl)
                      · intro u W hC hK
                        clear hK
                        unfold Facts.one
                        go_simp
                        first | exact ⟨Grew.refl _, rfl⟩ | rfl | exact ⟨Grew.refl _, by simp⟩
                      simp only [Act.put, List.setIfInBounds_toArray, List.set_cons_zero, List.set_cons_succ, Nat.zero_add]
                      apply Facts.Lex.exact [] _ (by kernel_rfl)
                      · intro u W hC hK
                        clear hK
                        obtain ⟨r0, r1, r2, r3, r4, r5, r6, r7, r8⟩ := re_cells (keepB HR1.out hC)
                        unfold Facts.one
                        go_simp
                        first | exact ⟨Grew.refl _, rfl⟩ | rfl | exact ⟨Grew.refl _, by simp⟩
                      simp only [Act.put, List.setIfInBounds_toArray, List.set_cons_zero, List.set_cons_succ, Nat.reduceAdd]
                      apply Facts.Lex.exact [] _ (by kernel_rfl)
                      · intro u W hC hK
                        clear hK
                        unfold Facts.one
                        go_simp
                        first | exact ⟨Grew.refl _, rfl⟩ | rfl | exact ⟨Grew.refl _, by simp⟩
                      simp only [Act.put, List.setIfInBounds_toArray, List.set_cons_zero, List.set_cons_succ, Nat.reduceAdd]
                      apply Facts.Lex.exact [] _ (by kernel_rfl)
                      · intro u W hC hK
                        clear hK
                        unfold Facts.one
                        go_simp
                        first | exact ⟨Grew.refl _, rfl⟩ | rfl | exact ⟨Grew.refl _, by simp⟩
                      simp only [Act.put, List.setIfInBounds_toArray, List.set_cons_zero, List.set_cons_succ, Nat.reduceAdd]
                      apply Facts.Lex.exact [] (.agg #[.int .i64 x.rooms, .int .i64 x.exits, .int .i64 x.items, .int .i64 x.mails, .int .i64 x.trades, .int .u64 (x.cap.toNat : Int)]) (by kernel_rfl)
                      · intro u W hC hK
                        clear hK
                        have hE := HE1.out W hC
                        obtain ⟨d0, d1, d2, d3, d4, d5⟩ := hE
                        unfold Facts.one
                        go_simp
                        first | exact ⟨Grew.refl _, rfl⟩ | rfl | exact ⟨Grew.refl _, by simp⟩
                      simp only [Act.put, List.setIfInBounds_toArray, List.set_cons_zero, List.set_cons_succ, Nat.reduceAdd]
                      apply Facts.Lex.exact [] _ (by kernel_rfl)
                      · intro u W hC hK
                        clear hK
                        unfold Facts.one
                        go_simp
                        first | exact ⟨Grew.refl _, rfl⟩ | rfl | exact ⟨Grew.refl _, by simp⟩
                      simp only [Act.put, List.setIfInBounds_toArray, List.set_cons_zero, List.set_cons_succ, Nat.reduceAdd]
                      apply Facts.Lex.exact [] _ (by kernel_rfl)
                      · intro u W hC hK
                        clear hK
                        obtain ⟨t0, t1, t2, t3, t4, t5, t6, t7, t8⟩ := re_cells (keepB HR2.out hC)
                        unfold Facts.one
                        go_simp
                        first | exact ⟨Grew.refl _, rfl⟩ | rfl | exact ⟨Grew.refl _, by simp⟩
                      simp only [Act.put, List.setIfInBounds_toArray, List.set_cons_zero, List.set_cons_succ, Nat.reduceAdd]
                      apply Facts.Lex.exact [] _ (by kernel_rfl)
                      · intro u W hC hK
                        clear hK
                        unfold Facts.one
                        go_simp
                        first | exact ⟨Grew.refl _, rfl⟩ | rfl | exact ⟨Grew.refl _, by simp⟩
                      simp only [Act.put, List.setIfInBounds_toArray, List.set_cons_zero, List.set_cons_succ, Nat.reduceAdd]
                      apply Facts.Lex.exact [] _ (by kernel_rfl)
                      · intro u W hC hK
                        clear hK
                        unfold Facts.one
                        go_simp
                        first | exact ⟨Grew.refl _, rfl⟩ | rfl | exact ⟨Grew.refl _, by simp⟩
                      simp only [Act.put, List.setIfInBounds_toArray, List.set_cons_zero, List.set_cons_succ, Nat.reduceAdd]
                      apply Facts.Lex.exact [] (.agg #[.int .i64 x.rooms, .int .i64 x.exits, .int .i64 x.items, .int .i64 x.mails, .int .i64 x.trades, .int .u64 (x.cap.toNat : Int)]) (by kernel_rfl)
                      · intro u W hC hK
                        clear hK
                        have hE := HE2.out W hC
                        obtain ⟨d0, d1, d2, d3, d4, d5⟩ := hE
                        unfold Facts.one
                        go_simp
                        first | exact ⟨Grew.refl _, rfl⟩ | rfl | exact ⟨Grew.refl _, by simp⟩
                      simp only [Act.put, List.setIfInBounds_toArray, List.set_cons_zero, List.set_cons_succ, Nat.reduceAdd]
                      apply Facts.Lex.exact [] (.bool false) (by kernel_rfl)
                      · intro u W hC hK
                        clear hK
                        unfold Facts.one
                        go_simp
                        first | exact ⟨Grew.refl _, rfl⟩ | rfl | exact ⟨Grew.refl _, by simp⟩
                      simp only [Act.put, List.setIfInBounds_toArray, List.set_cons_zero, List.set_cons_succ, Nat.reduceAdd]
                      refine Facts.Lex.done fun u W2 hC hL => ?_
                      have HGG2 := Lib.hid (HGG.out.trans hC)
                      clear hC hL HGG
                      go_wp2
                      go_roundg g
                      case measure => omega
                      case rel => exact ⟨k + 1, HM.out, by first | rfl | (simp; done) | rw [HKW.out], HGG2⟩
                | succ g =>
                  have hkl : k < r.guilds.length := by omega
                  have hkz : (k : Int) < (r.guilds.length : Int) := by omega
                  have hx : r.guilds[k]? = some r.guilds[k] := List.getElem?_eq_getElem hkl
                  generalize r.guilds[k] = x at *
                  obtain ⟨ad, c9, e9, _⟩ := Gs_at HX3.out hx
                  injection e9 with e1 e2 e3
                  subst e1 e3
                  clear e2
                  obtain ⟨ae, c8, e9, _⟩ := Gs_at HY3.out hx
                  injection e9 with e1 e2 e3
                  subst e1 e3
                  clear e2
                  have HE1 : Hid (∀ W, Grew wr W → W.cell? (ad.add (k * 2)) = some (.int .i64 x.bit) ∧ W.cell? ⟨(ad.add (k * 2)).block, (ad.add (k * 2)).off + 1, none⟩ = some (.int .i64 x.founder)) := Lib.hid fun W hg => by
                    obtain ⟨ad', c', e', _, hc⟩ := Gs_at (HX3.out.grew (G0.out.trans (HGG.out.trans hg))) hx
                    injection e' with e1 e2 e3
                    injection e1 with e1
                    subst e1
                    exact hc
                  have HE2 : Hid (∀ W, Grew wr W → W.cell? (ae.add (k * 2)) = some (.int .i64 x.bit) ∧ W.cell? ⟨(ae.add (k * 2)).block, (ae.add (k * 2)).off + 1, none⟩ = some (.int .i64 x.founder)) := Lib.hid fun W hg => by
                    obtain ⟨ad', c', e', _, hc⟩ := Gs_at (HY3.out.grew (G0.out.trans (HGG.out.trans hg))) hx
                    injection e' with e1 e2 e3
                    injection e1 with e1
                    subst e1
                    exact hc
                  have HR1 := Lib.hid (keepB HRA.out HGG.out)
                  have HR2 := Lib.hid (keepB HRB.out HGG.out)
                  obtain ⟨r0, r1, r2, r3, r4, r5, r6, r7, r8⟩ := re_cells HR1.out
                  obtain ⟨t0, t1, t2, t3, t4, t5, t6, t7, t8⟩ := re_cells HR2.out
                  have HB8 : Hid (r.guilds.length ≤ maxLen) := Lib.hid (by obtain ⟨_, _, e, q1, q2, _⟩ := HX3.out; omega)
                  have HKW : Hid (wrap64 ((k : Int) + 1) = ((k + 1 : Nat) : Int)) := Lib.hid (by have := HB8.out; unfold maxLen at this; unfold wrap64; omega)
                  have HM : Hid (k + 1 + g = r.guilds.length) := Lib.hid (by omega)
                  clear hkg hx
                  go_wp2
                  clear r0 r1 r2 r3 r4 r5 r6 r7 r8 t0 t1 t2 t3 t4 t5 t6 t7 t8
                  refine Facts.wp_region_text (by kernel_rfl) (by kernel_rfl) ?_
                  apply Facts.Lex.exact [] _ (by kernel_rfl)
                  · intro u W hC hK
                    clear hK
                    unfold Facts.one
                    go_simp
                    first | exact ⟨Grew.refl _, rfl⟩ | rfl | exact ⟨Grew.refl _, by simp⟩
                  simp only [Act.put, List.setIfInBounds_toArray, List.set_cons_zero, List.set_cons_succ, Nat.zero_add]
                  apply Facts.Lex.exact [] _ (by kernel_rfl)
                  · intro u W hC hK
                    clear hK
                    obtain ⟨r0, r1, r2, r3, r4, r5, r6, r7, r8⟩ := re_cells (keepB HR1.out hC)
                    unfold Facts.one
                    go_simp
                    first | exact ⟨Grew.refl _, rfl⟩ | rfl | exact ⟨Grew.refl _, by simp⟩
                  simp only [Act.put, List.setIfInBounds_toArray, List.set_cons_zero, List.set_cons_succ, Nat.reduceAdd]
                  apply Facts.Lex.exact [] _ (by kernel_rfl)
                  · intro u W hC hK
                    clear hK
                    unfold Facts.one
                    go_simp
                    first | exact ⟨Grew.refl _, rfl⟩ | rfl | exact ⟨Grew.refl _, by simp⟩
                  simp only [Act.put, List.setIfInBounds_toArray, List.set_cons_zero, List.set_cons_succ, Nat.reduceAdd]
                  apply Facts.Lex.exact [] _ (by kernel_rfl)
                  · intro u W hC hK
                    clear hK
                    unfold Facts.one
                    go_simp
                    first | exact ⟨Grew.refl _, rfl⟩ | rfl | exact ⟨Grew.refl _, by simp⟩
                  simp only [Act.put, List.setIfInBounds_toArray, List.set_cons_zero, List.set_cons_succ, Nat.reduceAdd]
                  apply Facts.Lex.exact [] (.agg #[.int .i64 x.bit, .int .i64 x.founder]) (by kernel_rfl)
                  · intro u W hC hK
                    clear hK
                    have hE := HE1.out W hC
                    obtain ⟨d0, d1⟩ := hE
                    unfold Facts.one
                    go_simp
                    first | exact ⟨Grew.refl _, rfl⟩ | rfl | exact ⟨Grew.refl _, by simp⟩
                  simp only [Act.put, List.setIfInBounds_toArray, List.set_cons_zero, List.set_cons_succ, Nat.reduceAdd]
                  apply Facts.Lex.exact [] _ (by kernel_rfl)
                  · intro u W hC hK
                    clear hK
                    unfold Facts.one
                    go_simp
                    first | exact ⟨Grew.refl _, rfl⟩ | rfl | exact ⟨Grew.refl _, by simp⟩
                  simp only [Act.put, List.setIfInBounds_toArray, List.set_cons_zero, List.set_cons_succ, Nat.reduceAdd]
                  apply Facts.Lex.exact [] _ (by kernel_rfl)
                  · intro u W hC hK
                    clear hK
                    obtain ⟨t0, t1, t2, t3, t4, t5, t6, t7, t8⟩ := re_cells (keepB HR2.out hC)
                    unfold Facts.one
                    go_simp
                    first | exact ⟨Grew.refl _, rfl⟩ | rfl | exact ⟨Grew.refl _, by simp⟩
                  simp only [Act.put, List.setIfInBounds_toArray, List.set_cons_zero, List.set_cons_succ, Nat.reduceAdd]
                  apply Facts.Lex.exact [] _ (by kernel_rfl)
                  · intro u W hC hK
                    clear hK
                    unfold Facts.one
                    go_simp
                    first | exact ⟨Grew.refl _, rfl⟩ | rfl | exact ⟨Grew.refl _, by simp⟩
                  simp only [Act.put, List.setIfInBounds_toArray, List.set_cons_zero, List.set_cons_succ, Nat.reduceAdd]
                  apply Facts.Lex.exact [] _ (by kernel_rfl)
                  · intro u W hC hK
                    clear hK
                    unfold Facts.one
                    go_simp
                    first | exact ⟨Grew.refl _, rfl⟩ | rfl | exact ⟨Grew.refl _, by simp⟩
                  simp only [Act.put, List.setIfInBounds_toArray, List.set_cons_zero, List.set_cons_succ, Nat.reduceAdd]
                  apply Facts.Lex.exact [] (.agg #[.int .i64 x.bit, .int .i64 x.founder]) (by kernel_rfl)
                  · intro u W hC hK
                    clear hK
                    have hE := HE2.out W hC
                    obtain ⟨d0, d1⟩ := hE
                    unfold Facts.one
                    go_simp
                    first | exact ⟨Grew.refl _, rfl⟩ | rfl | exact ⟨Grew.refl _, by simp⟩
                  simp only [Act.put, List.setIfInBounds_toArray, List.set_cons_zero, List.set_cons_succ, Nat.reduceAdd]
                  apply Facts.Lex.exact [] (.bool false) (by kernel_rfl)
                  · intro u W hC hK
                    clear hK
                    unfold Facts.one
                    go_simp
                    first | exact ⟨Grew.refl _, rfl⟩ | rfl | exact ⟨Grew.refl _, by simp⟩
                  simp only [Act.put, List.setIfInBounds_toArray, List.set_cons_zero, List.set_cons_succ, Nat.reduceAdd]
                  refine Facts.Lex.done fun u W2 hC hL => ?_
                  have HGG2 := Lib.hid (HGG.out.trans hC)
                  clear hC hL HGG
                  go_wp2
                  go_roundg g
                  case measure => omega
                  case rel => exact ⟨k + 1, HM.out, by first | rfl | (simp; done) | rw [HKW.out], HGG2⟩
            | succ g =>
              have hkl : k < r.accounts.length := by omega
              have hkz : (k : Int) < (r.accounts.length : Int) := by omega
              have hx : r.accounts[k]? = some r.accounts[k] := List.getElem?_eq_getElem hkl
              generalize r.accounts[k] = x at *
              obtain ⟨ad, c9, e9, _⟩ := As_at HX2.out hx
              injection e9 with e1 e2 e3
              subst e1 e3
              clear e2
              obtain ⟨ae, c8, e9, _⟩ := As_at HY2.out hx
              injection e9 with e1 e2 e3
              subst e1 e3
              clear e2
              have HE1 : Hid (∀ W, Grew wr W → W.cell? (ad.add (k * 4)) = some (.string x.name) ∧ W.cell? ⟨(ad.add (k * 4)).block, (ad.add (k * 4)).off + 1, none⟩ = some (.string x.secret) ∧ W.cell? ⟨(ad.add (k * 4)).block, (ad.add (k * 4)).off + 2, none⟩ = some (.int .i64 x.lev) ∧ W.cell? ⟨(ad.add (k * 4)).block, (ad.add (k * 4)).off + 3, none⟩ = some (.bool x.mints)) := Lib.hid fun W hg => by
                obtain ⟨ad', c', e', _, hc⟩ := As_at (HX2.out.grew (G0.out.trans (HGG.out.trans hg))) hx
                injection e' with e1 e2 e3
                injection e1 with e1
                subst e1
                exact hc
              have HE2 : Hid (∀ W, Grew wr W → W.cell? (ae.add (k * 4)) = some (.string x.name) ∧ W.cell? ⟨(ae.add (k * 4)).block, (ae.add (k * 4)).off + 1, none⟩ = some (.string x.secret) ∧ W.cell? ⟨(ae.add (k * 4)).block, (ae.add (k * 4)).off + 2, none⟩ = some (.int .i64 x.lev) ∧ W.cell? ⟨(ae.add (k * 4)).block, (ae.add (k * 4)).off + 3, none⟩ = some (.bool x.mints)) := Lib.hid fun W hg => by
                obtain ⟨ad', c', e', _, hc⟩ := As_at (HY2.out.grew (G0.out.trans (HGG.out.trans hg))) hx
                injection e' with e1 e2 e3
                injection e1 with e1
                subst e1
                exact hc
              have HR1 := Lib.hid (keepB HRA.out HGG.out)
              have HR2 := Lib.hid (keepB HRB.out HGG.out)
              obtain ⟨r0, r1, r2, r3, r4, r5, r6, r7, r8⟩ := re_cells HR1.out
              obtain ⟨t0, t1, t2, t3, t4, t5, t6, t7, t8⟩ := re_cells HR2.out
              have HB8 : Hid (r.accounts.length ≤ maxLen) := Lib.hid (by obtain ⟨_, _, e, q1, q2, _⟩ := HX2.out; omega)
              have HKW : Hid (wrap64 ((k : Int) + 1) = ((k + 1 : Nat) : Int)) := Lib.hid (by have := HB8.out; unfold maxLen at this; unfold wrap64; omega)
              have HM : Hid (k + 1 + g = r.accounts.length) := Lib.hid (by omega)
              clear hkg hx
              go_wp2
              clear r0 r1 r2 r3 r4 r5 r6 r7 r8 t0 t1 t2 t3 t4 t5 t6 t7 t8
              refine Facts.wp_region_text (by kernel_rfl) (by kernel_rfl) ?_
              apply Facts.Lex.exact [] _ (by kernel_rfl)
              · intro u W hC hK
                clear hK
                unfold Facts.one
                go_simp
                first | exact ⟨Grew.refl _, rfl⟩ | rfl | exact ⟨Grew.refl _, by simp⟩
              simp only [Act.put, List.setIfInBounds_toArray, List.set_cons_zero, List.set_cons_succ, Nat.zero_add]
              apply Facts.Lex.exact [] _ (by kernel_rfl)
              · intro u W hC hK
                clear hK
                obtain ⟨r0, r1, r2, r3, r4, r5, r6, r7, r8⟩ := re_cells (keepB HR1.out hC)
                unfold Facts.one
                go_simp
                first | exact ⟨Grew.refl _, rfl⟩ | rfl | exact ⟨Grew.refl _, by simp⟩
              simp only [Act.put, List.setIfInBounds_toArray, List.set_cons_zero, List.set_cons_succ, Nat.reduceAdd]
              apply Facts.Lex.exact [] _ (by kernel_rfl)
              · intro u W hC hK
                clear hK
                unfold Facts.one
                go_simp
                first | exact ⟨Grew.refl _, rfl⟩ | rfl | exact ⟨Grew.refl _, by simp⟩
              simp only [Act.put, List.setIfInBounds_toArray, List.set_cons_zero, List.set_cons_succ, Nat.reduceAdd]
              apply Facts.Lex.exact [] _ (by kernel_rfl)
              · intro u W hC hK
                clear hK
                unfold Facts.one
                go_simp
                first | exact ⟨Grew.refl _, rfl⟩ | rfl | exact ⟨Grew.refl _, by simp⟩
              simp only [Act.put, List.setIfInBounds_toArray, List.set_cons_zero, List.set_cons_succ, Nat.reduceAdd]
              apply Facts.Lex.exact [] (.agg #[.string x.name, .string x.secret, .int .i64 x.lev, .bool x.mints]) (by kernel_rfl)
              · intro u W hC hK
                clear hK
                have hE := HE1.out W hC
                obtain ⟨d0, d1, d2, d3⟩ := hE
                unfold Facts.one
                go_simp
                first | exact ⟨Grew.refl _, rfl⟩ | rfl | exact ⟨Grew.refl _, by simp⟩
              simp only [Act.put, List.setIfInBounds_toArray, List.set_cons_zero, List.set_cons_succ, Nat.reduceAdd]
              apply Facts.Lex.exact [] _ (by kernel_rfl)
              · intro u W hC hK
                clear hK
                unfold Facts.one
                go_simp
                first | exact ⟨Grew.refl _, rfl⟩ | rfl | exact ⟨Grew.refl _, by simp⟩
              simp only [Act.put, List.setIfInBounds_toArray, List.set_cons_zero, List.set_cons_succ, Nat.reduceAdd]
              apply Facts.Lex.exact [] _ (by kernel_rfl)
              · intro u W hC hK
                clear hK
                obtain ⟨t0, t1, t2, t3, t4, t5, t6, t7, t8⟩ := re_cells (keepB HR2.out hC)
                unfold Facts.one
                go_simp
                first | exact ⟨Grew.refl _, rfl⟩ | rfl | exact ⟨Grew.refl _, by simp⟩
              simp only [Act.put, List.setIfInBounds_toArray, List.set_cons_zero, List.set_cons_succ, Nat.reduceAdd]
              apply Facts.Lex.exact [] _ (by kernel_rfl)
              · intro u W hC hK
                clear hK
                unfold Facts.one
                go_simp
                first | exact ⟨Grew.refl _, rfl⟩ | rfl | exact ⟨Grew.refl _, by simp⟩
              simp only [Act.put, List.setIfInBounds_toArray, List.set_cons_zero, List.set_cons_succ, Nat.reduceAdd]
              apply Facts.Lex.exact [] _ (by kernel_rfl)
              · intro u W hC hK
                clear hK
                unfold Facts.one
                go_simp
                first | exact ⟨Grew.refl _, rfl⟩ | rfl | exact ⟨Grew.refl _, by simp⟩
              simp only [Act.put, List.setIfInBounds_toArray, List.set_cons_zero, List.set_cons_succ, Nat.reduceAdd]
              apply Facts.Lex.exact [] (.agg #[.string x.name, .string x.secret, .int .i64 x.lev, .bool x.mints]) (by kernel_rfl)
              · intro u W hC hK
                clear hK
                have hE := HE2.out W hC
                obtain ⟨d0, d1, d2, d3⟩ := hE
                unfold Facts.one
                go_simp
                first | exact ⟨Grew.refl _, rfl⟩ | rfl | exact ⟨Grew.refl _, by simp⟩
              simp only [Act.put, List.setIfInBounds_toArray, List.set_cons_zero, List.set_cons_succ, Nat.reduceAdd]
              apply Facts.Lex.exact [] (.bool false) (by kernel_rfl)
              · intro u W hC hK
                clear hK
                unfold Facts.one
                go_simp
                first | exact ⟨Grew.refl _, rfl⟩ | rfl | exact ⟨Grew.refl _, by simp⟩
              simp only [Act.put, List.setIfInBounds_toArray, List.set_cons_zero, List.set_cons_succ, Nat.reduceAdd]
              refine Facts.Lex.done fun u W2 hC hL => ?_
              have HGG2 := Lib.hid (HGG.out.trans hC)
              clear hC hL HGG
              go_wp2
              go_roundg g
              case measure => omega
              case rel => exact ⟨k + 1, HM.out, by first | rfl | (simp; done) | rw [HKW.out], HGG2⟩
        | succ g =>
          have hkl : k < r.lines.length := by omega
          have hkz : (k : Int) < (r.lines.length : Int) := by omega
          have hx : r.lines[k]? = some r.lines[k] := List.getElem?_eq_getElem hkl
          generalize r.lines[k] = x at *
          obtain ⟨ad, c9, e9, _⟩ := Is_at HX1.out hx
          injection e9 with e1 e2 e3
          subst e1 e3
          clear e2
          obtain ⟨ae, c8, e9, _⟩ := Is_at HY1.out hx
          injection e9 with e1 e2 e3
          subst e1 e3
          clear e2
          have HE1 : Hid (∀ W, Grew wr W → W.cell? (ad.add k) = some (.int .i64 x)) := Lib.hid fun W hg => by
            obtain ⟨ad', c', e', _, hc⟩ := Is_at (HX1.out.grew (G0.out.trans (HGG.out.trans hg))) hx
            injection e' with e1 e2 e3
            injection e1 with e1
            subst e1
            exact hc
          have HE2 : Hid (∀ W, Grew wr W → W.cell? (ae.add k) = some (.int .i64 x)) := Lib.hid fun W hg => by
            obtain ⟨ad', c', e', _, hc⟩ := Is_at (HY1.out.grew (G0.out.trans (HGG.out.trans hg))) hx
            injection e' with e1 e2 e3
            injection e1 with e1
            subst e1
            exact hc
          have HR1 := Lib.hid (keepB HRA.out HGG.out)
          have HR2 := Lib.hid (keepB HRB.out HGG.out)
          obtain ⟨r0, r1, r2, r3, r4, r5, r6, r7, r8⟩ := re_cells HR1.out
          obtain ⟨t0, t1, t2, t3, t4, t5, t6, t7, t8⟩ := re_cells HR2.out
          have HB8 : Hid (r.lines.length ≤ maxLen) := Lib.hid (by obtain ⟨_, _, e, q1, q2, _⟩ := HX1.out; omega)
          have HKW : Hid (wrap64 ((k : Int) + 1) = ((k + 1 : Nat) : Int)) := Lib.hid (by have := HB8.out; unfold maxLen at this; unfold wrap64; omega)
          have HM : Hid (k + 1 + g = r.lines.length) := Lib.hid (by omega)
          clear hkg hx
          go_wp2
          clear r0 r1 r2 r3 r4 r5 r6 r7 r8 t0 t1 t2 t3 t4 t5 t6 t7 t8
          refine Facts.wp_region_text (by kernel_rfl) (by kernel_rfl) ?_
          apply Facts.Lex.exact [] _ (by kernel_rfl)
          · intro u W hC hK
            clear hK
            unfold Facts.one
            go_simp
            first | exact ⟨Grew.refl _, rfl⟩ | rfl | exact ⟨Grew.refl _, by simp⟩
          simp only [Act.put, List.setIfInBounds_toArray, List.set_cons_zero, List.set_cons_succ, Nat.zero_add]
          apply Facts.Lex.exact [] _ (by kernel_rfl)
          · intro u W hC hK
            clear hK
            obtain ⟨r0, r1, r2, r3, r4, r5, r6, r7, r8⟩ := re_cells (keepB HR1.out hC)
            unfold Facts.one
            go_simp
            first | exact ⟨Grew.refl _, rfl⟩ | rfl | exact ⟨Grew.refl _, by simp⟩
          simp only [Act.put, List.setIfInBounds_toArray, List.set_cons_zero, List.set_cons_succ, Nat.reduceAdd]
          apply Facts.Lex.exact [] _ (by kernel_rfl)
          · intro u W hC hK
            clear hK
            unfold Facts.one
            go_simp
            first | exact ⟨Grew.refl _, rfl⟩ | rfl | exact ⟨Grew.refl _, by simp⟩
          simp only [Act.put, List.setIfInBounds_toArray, List.set_cons_zero, List.set_cons_succ, Nat.reduceAdd]
          apply Facts.Lex.exact [] _ (by kernel_rfl)
          · intro u W hC hK
            clear hK
            unfold Facts.one
            go_simp
            first | exact ⟨Grew.refl _, rfl⟩ | rfl | exact ⟨Grew.refl _, by simp⟩
          simp only [Act.put, List.setIfInBounds_toArray, List.set_cons_zero, List.set_cons_succ, Nat.reduceAdd]
          apply Facts.Lex.exact [] (.int .i64 x) (by kernel_rfl)
          · intro u W hC hK
            clear hK
            have hE := HE1.out W hC
            have d0 := hE
            unfold Facts.one
            go_simp
            first | exact ⟨Grew.refl _, rfl⟩ | rfl | exact ⟨Grew.refl _, by simp⟩
          simp only [Act.put, List.setIfInBounds_toArray, List.set_cons_zero, List.set_cons_succ, Nat.reduceAdd]
          apply Facts.Lex.exact [] _ (by kernel_rfl)
          · intro u W hC hK
            clear hK
            unfold Facts.one
            go_simp
            first | exact ⟨Grew.refl _, rfl⟩ | rfl | exact ⟨Grew.refl _, by simp⟩
          simp only [Act.put, List.setIfInBounds_toArray, List.set_cons_zero, List.set_cons_succ, Nat.reduceAdd]
          apply Facts.Lex.exact [] _ (by kernel_rfl)
          · intro u W hC hK
            clear hK
            obtain ⟨t0, t1, t2, t3, t4, t5, t6, t7, t8⟩ := re_cells (keepB HR2.out hC)
            unfold Facts.one
            go_simp
            first | exact ⟨Grew.refl _, rfl⟩ | rfl | exact ⟨Grew.refl _, by simp⟩
          simp only [Act.put, List.setIfInBounds_toArray, List.set_cons_zero, List.set_cons_succ, Nat.reduceAdd]
          apply Facts.Lex.exact [] _ (by kernel_rfl)
          · intro u W hC hK
            clear hK
            unfold Facts.one
            go_simp
            first | exact ⟨Grew.refl _, rfl⟩ | rfl | exact ⟨Grew.refl _, by simp⟩
          simp only [Act.put, List.setIfInBounds_toArray, List.set_cons_zero, List.set_cons_succ, Nat.reduceAdd]
          apply Facts.Lex.exact [] _ (by kernel_rfl)
          · intro u W hC hK
            clear hK
            unfold Facts.one
            go_simp
            first | exact ⟨Grew.refl _, rfl⟩ | rfl | exact ⟨Grew.refl _, by simp⟩
          simp only [Act.put, List.setIfInBounds_toArray, List.set_cons_zero, List.set_cons_succ, Nat.reduceAdd]
          apply Facts.Lex.exact [] (.int .i64 x) (by kernel_rfl)
          · intro u W hC hK
            clear hK
            have hE := HE2.out W hC
            have d0 := hE
            unfold Facts.one
            go_simp
            first | exact ⟨Grew.refl _, rfl⟩ | rfl | exact ⟨Grew.refl _, by simp⟩
          simp only [Act.put, List.setIfInBounds_toArray, List.set_cons_zero, List.set_cons_succ, Nat.reduceAdd]
          apply Facts.Lex.exact [] (.bool false) (by kernel_rfl)
          · intro u W hC hK
            clear hK
            unfold Facts.one
            go_simp
            first | exact ⟨Grew.refl _, rfl⟩ | rfl | exact ⟨Grew.refl _, by simp⟩
          simp only [Act.put, List.setIfInBounds_toArray, List.set_cons_zero, List.set_cons_succ, Nat.reduceAdd]
          refine Facts.Lex.done fun u W2 hC hL => ?_
          have HGG2 := Lib.hid (HGG.out.trans hC)
          clear hC hL HGG
          go_wp2
          go_roundg g
          case measure => omega
          case rel => exact ⟨k + 1, HM.out, by first | rfl | (simp; done) | rw [HKW.out], HGG2⟩
    | succ g =>
      have hkl : k < r.labels.length := by omega
      have hkz : (k : Int) < (r.labels.length : Int) := by omega
      have hx : r.labels[k]? = some r.labels[k] := List.getElem?_eq_getElem hkl
      generalize r.labels[k] = x at *
      obtain ⟨ad, c9, e9, _⟩ := Ls_at HX0.out hx
      injection e9 with e1 e2 e3
      subst e1 e3
      clear e2
      obtain ⟨ae, c8, e9, _⟩ := Ls_at HY0.out hx
      injection e9 with e1 e2 e3
      subst e1 e3
      clear e2
      have HE1 : Hid (∀ W, Grew wr W → W.cell? (ad.add (k * 2)) = some (.int .i64 x.lev) ∧ W.cell? ⟨(ad.add (k * 2)).block, (ad.add (k * 2)).off + 1, none⟩ = some (.int .u64 (x.set.toNat : Int))) := Lib.hid fun W hg => by
        obtain ⟨ad', c', e', _, hc⟩ := Ls_at (HX0.out.grew (G0.out.trans (HGG.out.trans hg))) hx
        injection e' with e1 e2 e3
        injection e1 with e1
        subst e1
        exact hc
      have HE2 : Hid (∀ W, Grew wr W → W.cell? (ae.add (k * 2)) = some (.int .i64 x.lev) ∧ W.cell? ⟨(ae.add (k * 2)).block, (ae.add (k * 2)).off + 1, none⟩ = some (.int .u64 (x.set.toNat : Int))) := Lib.hid fun W hg => by
        obtain ⟨ad', c', e', _, hc⟩ := Ls_at (HY0.out.grew (G0.out.trans (HGG.out.trans hg))) hx
        injection e' with e1 e2 e3
        injection e1 with e1
        subst e1
        exact hc
      have HR1 := Lib.hid (keepB HRA.out HGG.out)
      have HR2 := Lib.hid (keepB HRB.out HGG.out)
      obtain ⟨r0, r1, r2, r3, r4, r5, r6, r7, r8⟩ := re_cells HR1.out
      obtain ⟨t0, t1, t2, t3, t4, t5, t6, t7, t8⟩ := re_cells HR2.out
      have HB8 : Hid (r.labels.length ≤ maxLen) := Lib.hid (by obtain ⟨_, _, e, q1, q2, _⟩ := HX0.out; omega)
      have HKW : Hid (wrap64 ((k : Int) + 1) = ((k + 1 : Nat) : Int)) := Lib.hid (by have := HB8.out; unfold maxLen at this; unfold wrap64; omega)
      have HM : Hid (k + 1 + g = r.labels.length) := Lib.hid (by omega)
      clear hkg hx
      go_wp2
      clear r0 r1 r2 r3 r4 r5 r6 r7 r8 t0 t1 t2 t3 t4 t5 t6 t7 t8
      refine Facts.wp_region_text (by kernel_rfl) (by kernel_rfl) ?_
      apply Facts.Lex.exact [] _ (by kernel_rfl)
      · intro u W hC hK
        clear hK
        unfold Facts.one
        go_simp
        first | exact ⟨Grew.refl _, rfl⟩ | rfl | exact ⟨Grew.refl _, by simp⟩
      simp only [Act.put, List.setIfInBounds_toArray, List.set_cons_zero, List.set_cons_succ, Nat.zero_add]
      apply Facts.Lex.exact [] _ (by kernel_rfl)
      · intro u W hC hK
        clear hK
        obtain ⟨r0, r1, r2, r3, r4, r5, r6, r7, r8⟩ := re_cells (keepB HR1.out hC)
        unfold Facts.one
        go_simp
        first | exact ⟨Grew.refl _, rfl⟩ | rfl | exact ⟨Grew.refl _, by simp⟩
      simp only [Act.put, List.setIfInBounds_toArray, List.set_cons_zero, List.set_cons_succ, Nat.reduceAdd]
      apply Facts.Lex.exact [] _ (by kernel_rfl)
      · intro u W hC hK
        clear hK
        unfold Facts.one
        go_simp
        first | exact ⟨Grew.refl _, rfl⟩ | rfl | exact ⟨Grew.refl _, by simp⟩
      simp only [Act.put, List.setIfInBounds_toArray, List.set_cons_zero, List.set_cons_succ, Nat.reduceAdd]
      apply Facts.Lex.exact [] _ (by kernel_rfl)
      · intro u W hC hK
        clear hK
        unfold Facts.one
        go_simp
        first | exact ⟨Grew.refl _, rfl⟩ | rfl | exact ⟨Grew.refl _, by simp⟩
      simp only [Act.put, List.setIfInBounds_toArray, List.set_cons_zero, List.set_cons_succ, Nat.reduceAdd]
      apply Facts.Lex.exact [] (.agg #[.int .i64 x.lev, .int .u64 (x.set.toNat : Int)]) (by kernel_rfl)
      · intro u W hC hK
        clear hK
        have hE := HE1.out W hC
        obtain ⟨d0, d1⟩ := hE
        unfold Facts.one
        go_simp
        first | exact ⟨Grew.refl _, rfl⟩ | rfl | exact ⟨Grew.refl _, by simp⟩
      simp only [Act.put, List.setIfInBounds_toArray, List.set_cons_zero, List.set_cons_succ, Nat.reduceAdd]
      apply Facts.Lex.exact [] _ (by kernel_rfl)
      · intro u W hC hK
        clear hK
        unfold Facts.one
        go_simp
        first | exact ⟨Grew.refl _, rfl⟩ | rfl | exact ⟨Grew.refl _, by simp⟩
      simp only [Act.put, List.setIfInBounds_toArray, List.set_cons_zero, List.set_cons_succ, Nat.reduceAdd]
      apply Facts.Lex.exact [] _ (by kernel_rfl)
      · intro u W hC hK
        clear hK
        obtain ⟨t0, t1, t2, t3, t4, t5, t6, t7, t8⟩ := re_cells (keepB HR2.out hC)
        unfold Facts.one
        go_simp
        first | exact ⟨Grew.refl _, rfl⟩ | rfl | exact ⟨Grew.refl _, by simp⟩
      simp only [Act.put, List.setIfInBounds_toArray, List.set_cons_zero, List.set_cons_succ, Nat.reduceAdd]
      apply Facts.Lex.exact [] _ (by kernel_rfl)
      · intro u W hC hK
        clear hK
        unfold Facts.one
        go_simp
        first | exact ⟨Grew.refl _, rfl⟩ | rfl | exact ⟨Grew.refl _, by simp⟩
      simp only [Act.put, List.setIfInBounds_toArray, List.set_cons_zero, List.set_cons_succ, Nat.reduceAdd]
      apply Facts.Lex.exact [] _ (by kernel_rfl)
      · intro u W hC hK
        clear hK
        unfold Facts.one
        go_simp
        first | exact ⟨Grew.refl _, rfl⟩ | rfl | exact ⟨Grew.refl _, by simp⟩
      simp only [Act.put, List.setIfInBounds_toArray, List.set_cons_zero, List.set_cons_succ, Nat.reduceAdd]
      apply Facts.Lex.exact [] (.agg #[.int .i64 x.lev, .int .u64 (x.set.toNat : Int)]) (by kernel_rfl)
      · intro u W hC hK
        clear hK
        have hE := HE2.out W hC
        obtain ⟨d0, d1⟩ := hE
        unfold Facts.one
        go_simp
        first | exact ⟨Grew.refl _, rfl⟩ | rfl | exact ⟨Grew.refl _, by simp⟩
      simp only [Act.put, List.setIfInBounds_toArray, List.set_cons_zero, List.set_cons_succ, Nat.reduceAdd]
      apply Facts.Lex.exact [] (.bool false) (by kernel_rfl)
      · intro u W hC hK
        clear hK
        unfold Facts.one
        go_simp
        first | exact ⟨Grew.refl _, rfl⟩ | rfl | exact ⟨Grew.refl _, by simp⟩
      simp only [Act.put, List.setIfInBounds_toArray, List.set_cons_zero, List.set_cons_succ, Nat.reduceAdd]
      refine Facts.Lex.done fun u W2 hC hL => ?_
      have HGG2 := Lib.hid (HGG.out.trans hC)
      clear hC hL HGG
      go_wp2
      go_roundg g
      case measure => omega
      case rel => exact ⟨k + 1, HM.out, by first | rfl | (simp; done) | rw [HKW.out], HGG2⟩
end Go.Proofs.YtmegdgeiikhflaaGreat.EB
