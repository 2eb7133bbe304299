/-
  The rule of guilds, as the program asks it.
  Conditions: none.
-/
import Derived.Test.YtmegdgeiikhflaaGreatRRules
import Derived.Test.YtmegdgeiikhflaaGreatMarks
namespace Go.Proofs.YtmegdgeiikhflaaGreat.RGuilds
set_option maxRecDepth 100000
open Go Go.RowKit Go.Lib Go.Proofs.YtmegdgeiikhflaaGreat Go.Proofs.YtmegdgeiikhflaaGreat.Facts Go.Proofs.YtmegdgeiikhflaaGreat.Plain Go.Proofs.YtmegdgeiikhflaaGreat.RRows Go.Proofs.YtmegdgeiikhflaaGreat.LBox Go.Proofs.YtmegdgeiikhflaaGreat.RSmall Go.Proofs.YtmegdgeiikhflaaGreat.RFind Go.Proofs.YtmegdgeiikhflaaGreat.RAll Go.Proofs.YtmegdgeiikhflaaGreat.RRules

theorem contains_any (v : Value) (l : List La) (a : La) (w : World) (h : Ls w v l) : Calls Tryz.prog 158 #[v, .agg #[.int .i64 a.lev, .int .u64 (a.set.toNat : Int)]] w fun e w' => e = .returned (.bool (l.any fun x => decide (a = x))) ∧ Grew w w' := by
  have g0 : Grew w (w.alloc (Obj.cells #[Value.int IntKind.i64 a.lev, Value.int IntKind.u64 (a.set.toNat : Int)] 31)) := by unfold Grew; go_grown
  have G0 := Lib.hid g0
  have HI := Lib.hid (fun W hg => indexL_any v l a W (h.grew (w' := W) hg))
  obtain ⟨A, cp, rfl, hc1, hc2⟩ := h.slice
  rw [← fidx_neg]
  generalize fidx l (fun x => decide (a = x)) = res at *
  have A0 : Hid ((w.alloc (Obj.cells #[Value.int IntKind.i64 a.lev, Value.int IntKind.u64 (a.set.toNat : Int)] 31)).heap[w.heap.size]? = some (.cells #[.int .i64 a.lev, .int .u64 (a.set.toNat : Int)] 31 (0, 0))) := Lib.hid (heap_alloc_new w _)
  obtain ⟨a0, a1, _, _⟩ := lab_cells A0.out
  clear h g0
  by_cases hr : 0 ≤ res
  all_goals
    go_enter Tryz.func158, Tryz.ntmps158
    go_wp2_with fail
    refine (HI.out _ G0.out).mono ?_
    rintro e w2 ⟨rfl, hg⟩
    have G2 := Lib.hid (G0.out.trans hg)
    clear hg
    go_wp2
    go_returns
    exact ⟨by simp [hr], G2.out⟩

/-- The compartments of guilds together. -/
def known (l : List Gu) : BitVec 64 := l.foldl (fun s g => s ||| bitOf g.bit) 0#64
theorem known_step (l : List Gu) (k : Nat) (x : Gu) (h : l[k]? = some x) : known (l.take (k + 1)) = known (l.take k) ||| bitOf x.bit := by
  unfold known
  rw [List.take_add_one, h, Option.toList_some, List.foldl_append]
  rfl
def lastBit (l : List Gu) (k : Nat) : Int := if k = 0 then -1 else ((l[k - 1]?).getD ⟨-1, 0⟩).bit
theorem lastBit_succ (l : List Gu) (k : Nat) (x : Gu) (h : l[k]? = some x) : lastBit l (k + 1) = x.bit := by
  unfold lastBit
  rw [if_neg (by omega), Nat.add_sub_cancel, h]
  rfl
def gk (r : Re) (k : Nat) : Bool := let g := (r.guilds[k]?).getD ⟨-1, 0⟩; decide (hallErr g.bit = 0) && (decide (lastBit r.guilds k < g.bit) && (inn r.accounts.length g.founder && r.labels.any fun x => decide ((⟨0, bitOf g.bit⟩ : La) = x)))
def guildsOk (r : Re) : Bool := (List.range r.guilds.length).all (gk r) && r.labels.all fun a => decide (a.set &&& ~~~ known r.guilds = 0#64)

theorem gk_at (r : Re) (k : Nat) (x : Gu) (h : r.guilds[k]? = some x) : gk r k = (decide (hallErr x.bit = 0) && (decide (lastBit r.guilds k < x.bit) && (inn r.accounts.length x.founder && r.labels.any fun y => decide ((⟨0, bitOf x.bit⟩ : La) = y)))) := by
  unfold gk
  rw [h]
  rfl
theorem guilds_no {r : Re} {k : Nat} (hk : k < r.guilds.length) (h : gk r k = false) : guildsOk r = false := by
  unfold guildsOk
  rw [Bool.and_eq_false_iff]
  left
  rw [List.all_eq_false]
  exact ⟨k, List.mem_range.2 hk, by simp [h]⟩
theorem guilds_yes {r : Re} (h : ∀ k, k < r.guilds.length → gk r k = true) : guildsOk r = r.labels.all fun a => decide (a.set &&& ~~~ known r.guilds = 0#64) := by
  unfold guildsOk
  have : (List.range r.guilds.length).all (gk r) = true := by
    rw [List.all_eq_true]
    exact fun i hi => h i (List.mem_range.1 hi)
  rw [this, Bool.true_and]

/-- The last test: has a label no compartment beside these? -/
theorem clo_known (x : La) (s : BitVec 64) (B K : Nat) (w : World) (h : w.cell? ⟨B, 0, none⟩ = some (.func (.func 160) #[] #[.pointer (some ⟨K, 0, none⟩)])) (hk : w.heap[K]? = some (.cells #[.int .i64 0, .int .u64 (s.toNat : Int)] 31 (0, 0))) :
    Calls Tryz.prog 148 #[.agg #[.int .i64 x.lev, .int .u64 (x.set.toNat : Int)], .pointer (some ⟨B, 0, none⟩)] w fun e w' => e = .returned (.bool (!decide (x.set &&& ~~~ s = 0#64))) ∧ Grew w w' := by
  have g0 : Grew w (w.alloc (Obj.cells #[Value.int IntKind.i64 x.lev, Value.int IntKind.u64 (x.set.toNat : Int)] 31)) := by unfold Grew; go_grown
  have G0 := Lib.hid g0
  have A0 : Hid ((w.alloc (Obj.cells #[Value.int IntKind.i64 x.lev, Value.int IntKind.u64 (x.set.toNat : Int)] 31)).heap[w.heap.size]? = some (.cells #[.int .i64 x.lev, .int .u64 (x.set.toNat : Int)] 31 (0, 0))) := Lib.hid (heap_alloc_new w _)
  have hf := cellB g0 h
  have HIN : Hid (∀ W, Grew w W → Calls Tryz.prog 160 #[.agg #[.int .i64 x.lev, .int .u64 (x.set.toNat : Int)], .pointer (some ⟨K, 0, none⟩)] W fun e w' => e = .returned (.bool (decide (x.set &&& ~~~ s = 0#64))) ∧ Grew W w') := Lib.hid fun W hW => by
    have gw : Grew W (W.alloc (Obj.cells #[Value.int IntKind.i64 x.lev, Value.int IntKind.u64 (x.set.toNat : Int)] 31)) := by unfold Grew; go_grown
    have GW := Lib.hid gw
    obtain ⟨k0, k1, _, _⟩ := lab_cells (keepB (keepB hk hW) gw)
    have hb : bits .andNot .u64 ((x.set.toNat : Nat) : Int) ((s.toNat : Nat) : Int) = (((x.set &&& ~~~s).toNat : Nat) : Int) := bits_sub x.set s
    have hz := bv_zero (x.set &&& ~~~s)
    generalize x.set &&& ~~~s = d at *
    rw [← hz]
    clear hz hk h hf gw hW g0
    go_enter Tryz.func160, Tryz.ntmps160
    go_wp2
    go_returns
    exact ⟨rfl, GW.out⟩
  obtain ⟨a0, a1, _, _⟩ := lab_cells A0.out
  generalize decide (x.set &&& ~~~ s = 0#64) = b at *
  clear g0 h hk
  cases b
  all_goals
    go_enter Tryz.func148, Tryz.ntmps148
    go_wp2_with fail
    refine (HIN.out _ G0.out).mono ?_
    rintro e w2 ⟨rfl, hg⟩
    have G2 := Lib.hid (G0.out.trans hg)
    clear hg
    go_wp2
    go_returns
    exact ⟨rfl, G2.out⟩

theorem row_store31 {W : World} {B : Nat} {x y : Value} (h : W.heap[B]? = some (.cells #[x, y] 31 (0, 0))) (v0 v1 : Value) : ((W.setCell ⟨B, 0, none⟩ v0).setCell ⟨B, 1, none⟩ v1).heap[B]? = some (.cells #[v0, v1] 31 (0, 0)) := by
  have R0 : (W.setCell ⟨B, 0, none⟩ v0).heap[B]? = some (.cells #[v0, y] 31 (0, 0)) := by
    rw [heap_setCell_same _ _ _ _ _ _ h]
    rfl
  rw [heap_setCell_same _ _ _ _ _ _ R0]
  rfl
theorem gcell2 {W : World} {B : Nat} {x y : Int} (h : W.heap[B]? = some (.cells #[.int .i64 x, .int .i64 y] 52 (0, 0))) : W.cell? ⟨B, 0, none⟩ = some (.int .i64 x) ∧ W.cell? ⟨B, 1, none⟩ = some (.int .i64 y) := by
  refine ⟨?_, ?_⟩ <;> (rw [cell_of_row _ _ _ _ _ _ h]; rfl)
def J8 (Wc w0 : World) (K : Nat) (s : BitVec 64) (m : Nat → Bool) (_ : Nat → Value) (w : World) : Prop :=
  (m 6 = false ∧ Grew Wc w) ∨ ((∀ j, j < 6 → m j = true) ∧ m 6 = true ∧ Grew w0 w ∧ (∀ b, b ≠ K → b < Wc.heap.size → w.heap[b]? = Wc.heap[b]?) ∧ w.heap[K]? = some (.cells #[.int .i64 0, .int .u64 (s.toNat : Int)] 31 (0, 0)))
theorem J8.get {Wc w0 : World} {K : Nat} {s : BitVec 64} {m : Nat → Bool} {u : Nat → Value} {w : World} (h : J8 Wc w0 K s m u w) {k : Nat} (hk : k < 6) (hm : m k = false) : Grew Wc w := by
  rcases h with h | h
  · exact h.2
  · rw [h.1 k hk] at hm
    cases hm
theorem J8.keep {Wc w0 : World} {K : Nat} {s : BitVec 64} {m : Nat → Bool} {u : Nat → Value} {w w' : World} (h : J8 Wc w0 K s m u w) {k : Nat} (hk : k < 6) (hm : m k = false) (v : Value) (hg : Grew w w') : J8 Wc w0 K s (Marks.upd m k) (Marks.updv u k v) w' := by
  rcases h with h | h
  · exact .inl ⟨by rw [Marks.upd_other m (by omega)]; exact h.1, h.2.trans hg⟩
  · rw [h.1 k hk] at hm
    cases hm

set_option maxRecDepth 100000 in
set_option maxHeartbeats 2000000 in
theorem guilds_any (v0 v1 v2 v3 v4 : Value) (r : Re) (w : World) (h0 : Ls w v0 r.labels) (h2 : As w v2 r.accounts) (h3 : Gs w v3 r.guilds) :
    Calls Tryz.prog 119 #[.agg #[v0, v1, v2, v3, v4, .int .i64 r.orders, .int .i64 r.audits, .int .i64 r.rate, .int .i64 r.rounds]] w fun e w' => e = .returned (.bool (guildsOk r)) ∧ Grew w w' := by
  have HL0 := Lib.hid h0
  have HL3 := Lib.hid h3
  have HCO := Lib.hid (fun (a : La) W hg => contains_any v0 r.labels a W (h0.grew (w' := W) hg))
  have HAL : Hid (∀ W K s, Grew w W → W.heap[K]? = some (.cells #[.int .i64 0, .int .u64 ((s : BitVec 64).toNat : Int)] 31 (0, 0)) → Calls Tryz.prog 108 #[v0, .func (.func 160) #[] #[.pointer (some ⟨K, 0, none⟩)]] W fun e w' => e = .returned (.bool (r.labels.all fun a => decide (a.set &&& ~~~ s = 0#64))) ∧ Grew W w') := Lib.hid fun W K s hg hk =>
    allL_any v0 _ _ _ r.labels (fun a => decide (a.set &&& ~~~ s = 0#64)) W (h0.grew hg) fun x _ W2 B hg2 hB => clo_known x s B K W2 hB (keepB hk hg2)
  obtain ⟨A0', cp0, rfl, hd1, hd2⟩ := h0.slice
  obtain ⟨A2', cp2, rfl, he1, he2⟩ := h2.slice
  obtain ⟨A3', cp3, rfl, hf1, hf2⟩ := h3.slice
  have HF2 := Lib.hid hf2
  have HNO := Lib.hid (fun k => @guilds_no r k)
  have HYES := Lib.hid (@guilds_yes r)
  have HA := Lib.hid (fun i W => hasA_any A2' r.accounts.length cp2 i W)
  have HH := Lib.hid (fun b W => lhall_any b W)
  have HJO : Hid (∀ (c c2 : BitVec 64) (W : World), Calls Tryz.prog 159 #[.agg #[.int .i64 0, .int .u64 (c.toNat : Int)], .agg #[.int .i64 0, .int .u64 (c2.toNat : Int)]] W fun e w' => e = .returned (.agg #[.int .i64 0, .int .u64 ((c ||| c2).toNat : Int)]) ∧ Grew W w') := Lib.hid fun c c2 W => join_any 0 c 0 c2 W
  generalize guildsOk r = res at *
  have G0 : Hid (Grew w ((w.alloc (Obj.cells #[.slice A0' r.labels.length cp0, v1, .slice A2' r.accounts.length cp2, .slice A3' r.guilds.length cp3, v4, .int .i64 r.orders, .int .i64 r.audits, .int .i64 r.rate, .int .i64 r.rounds] 28)).alloc (.cells #[.int .i64 0, .int .u64 0] 31))) := Lib.hid (by unfold Grew; go_grown)
  have R0 : Hid (((w.alloc (Obj.cells #[.slice A0' r.labels.length cp0, v1, .slice A2' r.accounts.length cp2, .slice A3' r.guilds.length cp3, v4, .int .i64 r.orders, .int .i64 r.audits, .int .i64 r.rate, .int .i64 r.rounds] 28)).alloc (.cells #[.int .i64 0, .int .u64 0] 31)).heap[w.heap.size]? = some (rcell (.slice A0' r.labels.length cp0) v1 (.slice A2' r.accounts.length cp2) (.slice A3' r.guilds.length cp3) v4 r.orders r.audits r.rate r.rounds)) := Lib.hid ((heap_alloc_old _ _ (by simp)).trans (heap_alloc_new w _))
  have K0 : Hid (((w.alloc (Obj.cells #[.slice A0' r.labels.length cp0, v1, .slice A2' r.accounts.length cp2, .slice A3' r.guilds.length cp3, v4, .int .i64 r.orders, .int .i64 r.audits, .int .i64 r.rate, .int .i64 r.rounds] 28)).alloc (.cells #[.int .i64 0, .int .u64 0] 31)).heap[w.heap.size + 1]? = some (.cells #[.int .i64 0, .int .u64 ((known (r.guilds.take 0)).toNat : Int)] 31 (0, 0))) := Lib.hid (heap_alloc2_new w _ _)
  clear h0 h2 h3 hf2 hd2 he2
  go_enter Tryz.func119, Tryz.ntmps119
  go_wp2
  go_loopg [3, 13] r.guilds.length (fun g s3 s13 wx => ∃ k : Nat, k + g = r.guilds.length ∧ s3 = .int .i64 (lastBit r.guilds k) ∧ s13 = .int .i64 k ∧ Hid (∀ j, j < k → gk r j = true) ∧
    Hid (wx.heap[w.heap.size]? = some (rcell (.slice A0' r.labels.length cp0) v1 (.slice A2' r.accounts.length cp2) (.slice A3' r.guilds.length cp3) v4 r.orders r.audits r.rate r.rounds)) ∧ Hid (wx.heap[w.heap.size + 1]? = some (.cells #[.int .i64 0, .int .u64 ((known (r.guilds.take k)).toNat : Int)] 31 (0, 0))) ∧ Hid (Grew w wx))
  case atStart => exact ⟨0, by omega, rfl, rfl, Lib.hid (fun j h => absurd h (by omega)), R0, K0, G0⟩
  case round =>
    obtain ⟨k, hkg, rfl, rfl, HJ, HR0, HK0, HG⟩ := hrel
    obtain ⟨r0, r1, r2, r3, r4, r5, r6, r7, r8⟩ := re_cells HR0.out
    obtain ⟨k0, k1, k2, k3⟩ := lab_cells HK0.out
    cases gk with
    | zero =>
      have hkz : ¬ ((k : Int) < (r.guilds.length : Int)) := by omega
      have HR := Lib.hid (HYES.out fun i hi => HJ.out i (by omega))
      have hkt : known (r.guilds.take k) = known r.guilds := by rw [List.take_of_length_le (by omega)]
      rw [hkt] at HK0 k1
      have HAA := Lib.hid (HAL.out wr (w.heap.size + 1) _ HG.out HK0.out)
      clear hkt
      generalize (r.labels.all fun a => decide (a.set &&& ~~~ known r.guilds = 0#64)) = bb at *
      generalize known r.guilds = kn at *
      go_wp2_with fail
      with_reducible refine (HAA.out).mono ?_
      rintro e w2 ⟨rfl, hg⟩
      have G2 := Lib.hid (HG.out.trans hg)
      clear hg
      go_wp2
      go_returns
      refine ⟨?_, G2.out⟩
      rw [HR.out]
      try rfl
    | succ g =>
      have hkz : (k : Int) < (r.guilds.length : Int) := by omega
      have hkl : k < r.guilds.length := by omega
      have hx : r.guilds[k]? = some r.guilds[k] := List.getElem?_eq_getElem hkl
      obtain ⟨ad, c2, e, hc, c0, c1⟩ := Gs_at (HL3.out.grew HG.out) hx
      injection e with e1 _ e3
      subst e1 e3
      have HX := Lib.hid hx
      have hgk := gk_at r k _ hx
      have hks := known_step r.guilds k _ hx
      have hls := lastBit_succ r.guilds k _ hx
      generalize r.guilds[k] = x at *
      have HKS := Lib.hid hks
      have HLS := Lib.hid hls
      have HN : gk r k = true → Hid (∀ j, j < k + 1 → gk r j = true) := fun h => Lib.hid fun j hj => by
        by_cases hjk : j = k
        · rw [hjk]; exact h
        · exact HJ.out j (by omega)
      have HB : gk r k = false → Hid (res = false) := fun h => Lib.hid (HNO.out _ hkl h)
      rw [hgk] at HN HB
      have hkw : wrap64 ((k : Int) + 1) = (k : Int) + 1 := by
        have hc2 := HF2.out
        unfold maxLen at hc2
        unfold wrap64
        omega
      have HHX := Lib.hid (HH.out x.bit)
      have HAX := Lib.hid (HA.out x.founder)
      have HCX := Lib.hid (HCO.out ⟨0, bitOf x.bit⟩)
      have HJX := Lib.hid (HJO.out (known (r.guilds.take k)) (bitOf x.bit))
      rw [← hks] at HJX
      clear hx hgk hks hls hkl
      generalize hallErr x.bit = he at *
      generalize bitOf x.bit = bs at *
      generalize lastBit r.guilds k = lb at *
      generalize inn r.accounts.length x.founder = b2 at *
      generalize (r.labels.any fun y => decide ((⟨0, bs⟩ : La) = y)) = b3 at *
      generalize known (r.guilds.take k) = kn at *
      have g2 : Grew wr (wr.alloc (Obj.cells #[.int .i64 x.bit, .int .i64 x.founder] 52)) := by unfold Grew; go_grown
      have HG2 := Lib.hid (HG.out.trans g2)
      have R2 := Lib.hid (keepB HR0.out g2)
      have K2 := Lib.hid (keepB HK0.out g2)
      have X2 : Hid ((wr.alloc (Obj.cells #[.int .i64 x.bit, .int .i64 x.founder] 52)).heap[wr.heap.size]? = some (.cells #[.int .i64 x.bit, .int .i64 x.founder] 52 (0, 0))) := Lib.hid (heap_alloc_new wr _)
      clear g2 r0 r1 r2 r3 r4 r5 r6 r7 r8 k0 k1 k2 k3
      obtain ⟨x0, x1⟩ := gcell2 X2.out
      go_wp2_with fail
      with_reducible refine (HHX.out _).mono ?_
      rintro e w3 ⟨rfl, hg⟩
      have g3 : Grew w3 (w3.alloc (Obj.cells #[.int .i64 0, .int .u64 (bs.toNat : Int)] 31)) := by unfold Grew; go_grown
      have HG3 := Lib.hid ((HG2.out.trans hg).trans g3)
      have R3 := Lib.hid (keepB (keepB R2.out hg) g3)
      have K3 := Lib.hid (keepB (keepB K2.out hg) g3)
      have X3 := Lib.hid (keepB (keepB X2.out hg) g3)
      have A3 : Hid ((w3.alloc (Obj.cells #[.int .i64 0, .int .u64 (bs.toNat : Int)] 31)).heap[w3.heap.size]? = some (.cells #[.int .i64 0, .int .u64 (bs.toNat : Int)] 31 (0, 0))) := Lib.hid (heap_alloc_new w3 _)
      clear hg g3 x0 x1 c0 c1
      obtain ⟨x0, x1⟩ := gcell2 X3.out
      obtain ⟨r0, r1, r2, r3, r4, r5, r6, r7, r8⟩ := re_cells R3.out
      obtain ⟨a0, a1, _, _⟩ := lab_cells A3.out
      by_cases hhe : he = 0
      · subst hhe
        by_cases hlb : lb < x.bit
        · have hlb2 : ¬ x.bit ≤ lb := by omega
          rw [decide_eq_true hlb] at HN HB
          cases b2 with
          | false =>
            have HR := HB rfl
            clear HN HB hlb
            go_wp2_with fail
            with_reducible refine (HAX.out _).mono ?_
            rintro e w4 ⟨rfl, hg⟩
            have HG4 := Lib.hid (HG3.out.trans hg)
            clear hg x0 x1 r0 r1 r2 r3 r4 r5 r6 r7 r8 a0 a1
            go_wp2
            go_returns
            refine ⟨?_, HG4.out⟩
            rw [HR.out]
            try rfl
          | true =>
            go_wp2_with fail
            with_reducible refine (HAX.out _).mono ?_
            rintro e w4 ⟨rfl, hg⟩
            have HG4 := Lib.hid (HG3.out.trans hg)
            have R4 := Lib.hid (keepB R3.out hg)
            have K4 := Lib.hid (keepB K3.out hg)
            have X4 := Lib.hid (keepB X3.out hg)
            have A4 := Lib.hid (keepB A3.out hg)
            clear hg x0 x1 r0 r1 r2 r3 r4 r5 r6 r7 r8 a0 a1
            obtain ⟨r0, r1, r2, r3, r4, r5, r6, r7, r8⟩ := re_cells R4.out
            obtain ⟨a0, a1, _, _⟩ := lab_cells A4.out
            cases b3 with
            | false =>
              have HR := HB rfl
              clear HN HB hlb
              go_wp2_with fail
              with_reducible refine (HCX.out _ HG4.out).mono ?_
              rintro e w5 ⟨rfl, hg⟩
              have HG5 := Lib.hid (HG4.out.trans hg)
              clear hg r0 r1 r2 r3 r4 r5 r6 r7 r8 a0 a1
              go_wp2
              go_returns
              refine ⟨?_, HG5.out⟩
              rw [HR.out]
              try rfl
            | true =>
              have HN := HN rfl
              clear HB hlb
              go_wp2_with fail
              with_reducible refine (HCX.out _ HG4.out).mono ?_
              rintro e w5 ⟨rfl, hg⟩
              have HG5 := Lib.hid (HG4.out.trans hg)
              have R5 := Lib.hid (keepB R4.out hg)
              have K5 := Lib.hid (keepB K4.out hg)
              have X5 := Lib.hid (keepB X4.out hg)
              have A5 := Lib.hid (keepB A4.out hg)
              clear hg r0 r1 r2 r3 r4 r5 r6 r7 r8 a0 a1
              go_wp2
              generalize hkn2 : known (r.guilds.take (k + 1)) = kn2 at *
              have HKN2 := Lib.hid hkn2
              clear hkn2
              have hK5 := K5.out
              have hX5 := X5.out
              have hA5 := A5.out
              refine Marks.wp_region_text (J8 w5 w (w.heap.size + 1) kn2) (fun _ _ => True) (by kernel_rfl) (by kernel_rfl) (.inl ⟨rfl, (Grew.refl _).drew⟩) ?_
              apply Marks.Lex.exact [] (_) (by kernel_rfl)
              · intro m u W hm hcl hJ _
                have hC := hJ.get (k := 0) (by omega) hm
                obtain ⟨x0, x1⟩ := gcell2 (keepB hX5 hC)
                obtain ⟨k0, k1, k2, k3⟩ := lab_cells (keepB hK5 hC)
                obtain ⟨a0, a1, _, _⟩ := lab_cells (keepB hA5 hC)
                unfold Marks.one
                go_simp
                exact ⟨trivial, hJ.keep (k := 0) (by omega) hm _ (Grew.refl _), rfl⟩
              simp only [Act.put, List.setIfInBounds_toArray, List.set_cons_zero, List.set_cons_succ, Nat.zero_add]
              apply Marks.Lex.exact [] (_) (by kernel_rfl)
              · intro m u W hm hcl hJ _
                have hC := hJ.get (k := 1) (by omega) hm
                obtain ⟨x0, x1⟩ := gcell2 (keepB hX5 hC)
                obtain ⟨k0, k1, k2, k3⟩ := lab_cells (keepB hK5 hC)
                obtain ⟨a0, a1, _, _⟩ := lab_cells (keepB hA5 hC)
                unfold Marks.one
                go_simp
                exact ⟨trivial, hJ.keep (k := 1) (by omega) hm _ (Grew.refl _), rfl⟩
              simp only [Act.put, List.setIfInBounds_toArray, List.set_cons_zero, List.set_cons_succ, Nat.reduceAdd]
              apply Marks.Lex.exact [] (_) (by kernel_rfl)
              · intro m u W hm hcl hJ _
                have hC := hJ.get (k := 2) (by omega) hm
                obtain ⟨x0, x1⟩ := gcell2 (keepB hX5 hC)
                obtain ⟨k0, k1, k2, k3⟩ := lab_cells (keepB hK5 hC)
                obtain ⟨a0, a1, _, _⟩ := lab_cells (keepB hA5 hC)
                unfold Marks.one
                go_simp
                exact ⟨trivial, hJ.keep (k := 2) (by omega) hm _ (Grew.refl _), rfl⟩
              simp only [Act.put, List.setIfInBounds_toArray, List.set_cons_zero, List.set_cons_succ, Nat.reduceAdd]
              apply Marks.Lex.exact [] (_) (by kernel_rfl)
              · intro m u W hm hcl hJ _
                have hC := hJ.get (k := 3) (by omega) hm
                obtain ⟨x0, x1⟩ := gcell2 (keepB hX5 hC)
                obtain ⟨k0, k1, k2, k3⟩ := lab_cells (keepB hK5 hC)
                obtain ⟨a0, a1, _, _⟩ := lab_cells (keepB hA5 hC)
                unfold Marks.one
                go_simp
                exact ⟨trivial, hJ.keep (k := 3) (by omega) hm _ (Grew.refl _), rfl⟩
              simp only [Act.put, List.setIfInBounds_toArray, List.set_cons_zero, List.set_cons_succ, Nat.reduceAdd]
              apply Marks.Lex.exact [] (.agg #[.int .i64 0, .int .u64 (kn2.toNat : Int)]) (by kernel_rfl)
              · intro m u W hm hcl hJ _
                have hC := hJ.get (k := 4) (by omega) hm
                obtain ⟨x0, x1⟩ := gcell2 (keepB hX5 hC)
                obtain ⟨k0, k1, k2, k3⟩ := lab_cells (keepB hK5 hC)
                obtain ⟨a0, a1, _, _⟩ := lab_cells (keepB hA5 hC)
                unfold Marks.one
                go_simp
                refine (HJX.out W).mono ?_
                rintro e w' ⟨rfl, hg⟩
                exact ⟨_, rfl, trivial, hJ.keep (k := 4) (by omega) hm _ hg, rfl⟩
              simp only [Act.put, List.setIfInBounds_toArray, List.set_cons_zero, List.set_cons_succ, Nat.reduceAdd]
              apply Marks.Lex.exact [] (_) (by kernel_rfl)
              · intro m u W hm hcl hJ _
                have hC := hJ.get (k := 5) (by omega) hm
                obtain ⟨x0, x1⟩ := gcell2 (keepB hX5 hC)
                obtain ⟨k0, k1, k2, k3⟩ := lab_cells (keepB hK5 hC)
                obtain ⟨a0, a1, _, _⟩ := lab_cells (keepB hA5 hC)
                unfold Marks.one
                go_simp
                exact ⟨trivial, hJ.keep (k := 5) (by omega) hm _ (Grew.refl _), rfl⟩
              simp only [Act.put, List.setIfInBounds_toArray, List.set_cons_zero, List.set_cons_succ, Nat.reduceAdd]
              apply Marks.Lex.exact [] _ (by kernel_rfl)
              · intro m u W hm hcl hJ _
                rcases hJ with hJ | hJ
                · have hC := hJ.2
                  have hKW := keepB hK5 hC
                  obtain ⟨k0, k1, k2, k3⟩ := lab_cells hKW
                  have h6 : ∀ j, j < 6 → m j = true := fun j hj => hcl j (List.contains_iff_mem.1 (List.all_eq_true.1 (by kernel_rfl : sub [0, 1, 2, 3, 4, 5] (clos _ 6) = true) j (by simp; omega)))
                  unfold Marks.one
                  go_simp
                  refine ⟨trivial, .inr ⟨fun j hj => by rw [Marks.upd_other m (by omega)]; exact h6 j hj, Marks.upd_same m 6, ?_, fun b hb hlt => ?_, row_store31 hKW _ _⟩, rfl⟩
                  · have hG := HG5.out.trans hC
                    unfold Grew at hG ⊢
                    exact (hG.setCell (p := ⟨w.heap.size + 1, 0, none⟩) (Nat.le_succ _) _).setCell (p := ⟨w.heap.size + 1, 1, none⟩) (Nat.le_succ _) _
                  · rw [heap_setCell_other _ _ _ _ hb, heap_setCell_other _ _ _ _ hb]
                    exact hC.block b hlt
                · rw [hJ.2.1] at hm
                  cases hm
              simp only [Act.put, Nat.reduceAdd]
              refine Marks.Lex.done fun m u W2 hall hJ hL => ?_
              rcases hJ with hJ | ⟨_, _, hG, hfr, hK⟩
              · have := hall 6 (by omega)
                rw [hJ.1] at this
                cases this
              have G6 := Lib.hid hG
              have K6 := Lib.hid hK
              have R6 := Lib.hid ((hfr w.heap.size (by omega) (Array.getElem?_eq_some_iff.1 R5.out).1).trans R5.out)
              clear hG hK hfr hall hL hK5 hX5 hA5
              go_wp2
              go_roundg g
              case measure => omega
              case rel => exact ⟨k + 1, by omega, by rw [HLS.out], by first | rfl | simp [hkw] | simp, HN, R6, by rw [HKN2.out]; exact K6, G6⟩
        · have hlb2 : x.bit ≤ lb := by omega
          have HR := HB (by rw [decide_eq_false hlb]; rfl)
          clear HN HB hlb
          go_wp2
          go_returns
          refine ⟨?_, HG3.out⟩
          rw [HR.out]
          try rfl
      · have HR := HB (by rw [decide_eq_false hhe]; rfl)
        clear HN HB
        go_wp2
        go_returns
        refine ⟨?_, HG3.out⟩
        rw [HR.out]
        try rfl
end Go.Proofs.YtmegdgeiikhflaaGreat.RGuilds
