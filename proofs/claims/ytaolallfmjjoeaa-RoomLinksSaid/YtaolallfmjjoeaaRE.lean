/-
  Which lists of exits may be.
  Conditions: those that each lemma names.
-/
import Derived.Carry
import Derived.Test.YtaolallfmjjoeaaRD
import Derived.Test.YtaolallfmjjoeaaMarks
namespace Go.Proofs.Ytaolallfmjjoeaa.RE
set_option maxRecDepth 100000
open Go Go.ChangeMaps Go.RowKit Go.Lib Go.Proofs.Ytaolallfmjjoeaa Go.Proofs.Ytaolallfmjjoeaa.Facts Go.Proofs.Ytaolallfmjjoeaa.Ints Go.Proofs.Ytaolallfmjjoeaa.TI Go.Proofs.Ytaolallfmjjoeaa.TP Go.Proofs.Ytaolallfmjjoeaa.TB Go.Proofs.Ytaolallfmjjoeaa.TC Go.Proofs.Ytaolallfmjjoeaa.TD Go.Proofs.Ytaolallfmjjoeaa.TE Go.Proofs.Ytaolallfmjjoeaa.TF Go.Proofs.Ytaolallfmjjoeaa.TH Go.Proofs.Ytaolallfmjjoeaa.RA Go.Proofs.Ytaolallfmjjoeaa.RB Go.Proofs.Ytaolallfmjjoeaa.RC Go.Proofs.Ytaolallfmjjoeaa.RD Go.Proofs.Ytaolallfmjjoeaa.Bytes


/-- Where it begins. -/
def ky (x : Ex) : Ky := (x.fl, x.fs, x.dir)
/-- May these exits be, where there are exits already that begin so? -/
def exq : List Ky → List Ex → Bool
  | _, [] => true
  | ks, x :: r => if okE x = false then false else if x.used = false then exq ks r else if ky x ∈ ks then false else exq (ks ++ [ky x]) r
section
variable {P : Program} {ops : Array Oper} {o : Oper} {ac : Act} {w : World} {R : World → World → Prop} {J' : Value → World → Prop} {g : Value → World → Prop}
theorem one_load (hgd : o.guard = none) (t : TypeId) (x : Operand) (ho : o.op = .load t x) (px v : Value) (hx : ac.eval x = px) (hr : (Instr.loadAt t px).run P w = .ok v w) (h : R w w ∧ J' v w ∧ g v w) : Marks.one P ops o ac w R J' g := by
  unfold Marks.one
  rw [if_pos (by unfold Region.wanted; rw [hgd])]
  unfold execOp
  simp only [ho, hx, Sem.run_bind, Sem.run_pure, Result.andThen_ok, hr]
  exact h
theorem one_look (hgd : o.guard = none) (t : TypeId) (x y : Operand) (ho : o.op = .lookup t x y false) (px py v : Value) (hx : ac.eval x = px) (hy : ac.eval y = py) (hr : (Instr.lookup t px py false).run P w = .ok v w) (h : R w w ∧ J' v w ∧ g v w) : Marks.one P ops o ac w R J' g := by
  unfold Marks.one
  rw [if_pos (by unfold Region.wanted; rw [hgd])]
  unfold execOp
  simp only [ho, hx, hy, Sem.run_bind, Sem.run_pure, Result.andThen_ok, hr]
  exact h
theorem one_entry (hgd : o.guard = none) (t : TypeId) (x y : Operand) (ho : o.op = .mapEntry t x y) (px py v : Value) (w' : World) (hx : ac.eval x = px) (hy : ac.eval y = py) (hr : (Instr.mapEntry t px py).run P w = .ok v w') (h : R w w' ∧ J' v w' ∧ g v w') : Marks.one P ops o ac w R J' g := by
  unfold Marks.one
  rw [if_pos (by unfold Region.wanted; rw [hgd])]
  unfold execOp
  simp only [ho, hx, hy, Sem.run_bind, Sem.run_pure, Result.andThen_ok, hr]
  exact h
end
/-- The map's block b turns, and nothing else. -/
structure JM (W0 : World) (b : Nat) (o0 o1 o2 : Obj) (m : Nat → Bool) (_u : Nat → Value) (W : World) : Prop where
  below : Below b W0 W
  other : ∀ j, j ≠ b → W.heap[j]? = W0.heap[j]?
  m64 : m 6 = true → m 4 = true
  m62 : m 6 = true → m 2 = true
  blk : W.heap[b]? = some (if m 6 then o2 else if m 4 then o1 else o0)
theorem JM.start (W0 : World) (b : Nat) (o0 o1 o2 : Obj) (h : W0.heap[b]? = some o0) : JM W0 b o0 o1 o2 (fun _ => false) (fun _ => undef) W0.drew := ⟨(Below.refl _ _).drew, fun _ _ => rfl, (fun h => by cases h), (fun h => by cases h), h⟩
theorem JM.keep {W0 W : World} {b : Nat} {o0 o1 o2 : Obj} {m : Nat → Bool} {u : Nat → Value} (h : JM W0 b o0 o1 o2 m u W) (k : Nat) (v : Value) (h4 : k ≠ 4) (h6 : k ≠ 6) : JM W0 b o0 o1 o2 (Marks.upd m k) (Marks.updv u k v) W := by
  refine ⟨h.below, h.other, ?_, ?_, ?_⟩
  · rw [Marks.upd_other m (Ne.symm h4), Marks.upd_other m (Ne.symm h6)]
    exact h.m64
  · rw [Marks.upd_other m (Ne.symm h6)]
    intro h1
    unfold Marks.upd
    split
    · rfl
    · exact h.m62 h1
  · rw [Marks.upd_other m (Ne.symm h4), Marks.upd_other m (Ne.symm h6)]
    exact h.blk
theorem below_set {W0 W : World} {b : Nat} (h : Below b W0 W) (o : Obj) : Below b W0 (setBlock W b o) :=
  h.trans ⟨rfl, rfl, rfl, by simp [setBlock], fun k hk => by
    show (W.heap.setIfInBounds b o)[k]? = _
    rw [Array.getElem?_setIfInBounds_ne (by omega)]⟩
theorem set_other {W : World} {b j : Nat} (o : Obj) (h : j ≠ b) : (setBlock W b o).heap[j]? = W.heap[j]? := by
  show (W.heap.setIfInBounds b o)[j]? = _
  rw [Array.getElem?_setIfInBounds_ne (Ne.symm h)]
theorem set_same {W : World} {b : Nat} {o0 : Obj} (o : Obj) (h : W.heap[b]? = some o0) : (setBlock W b o).heap[b]? = some o := by
  show (W.heap.setIfInBounds b o)[b]? = _
  rw [Array.getElem?_setIfInBounds_self_of_lt (Array.getElem?_eq_some_iff.1 h).1]
theorem JM.put4 {W0 W : World} {b : Nat} {o0 o1 o2 : Obj} {m : Nat → Bool} {u : Nat → Value} (h : JM W0 b o0 o1 o2 m u W) (h6 : m 6 = false) (v : Value) : JM W0 b o0 o1 o2 (Marks.upd m 4) (Marks.updv u 4 v) (setBlock W b o1) := by
  refine ⟨below_set h.below _, fun j hj => (set_other _ hj).trans (h.other j hj), fun _ => Marks.upd_same m 4, (fun h1 => by rw [Marks.upd_other m (by decide), h6] at h1; cases h1), ?_⟩
  rw [Marks.upd_other m (by decide), h6, Marks.upd_same]
  exact set_same _ h.blk
theorem JM.put6 {W0 W : World} {b : Nat} {o0 o1 o2 : Obj} {m : Nat → Bool} {u : Nat → Value} (h : JM W0 b o0 o1 o2 m u W) (h4 : m 4 = true) (h2 : m 2 = true) (v : Value) : JM W0 b o0 o1 o2 (Marks.upd m 6) (Marks.updv u 6 v) (setBlock W b o2) := by
  refine ⟨below_set h.below _, fun j hj => (set_other _ hj).trans (h.other j hj), (fun _ => by rw [Marks.upd_other m (by decide)]; exact h4), (fun _ => by rw [Marks.upd_other m (by decide)]; exact h2), ?_⟩
  rw [Marks.upd_same]
  exact set_same _ h.blk
theorem JM.b0 {W0 W : World} {b : Nat} {o0 o1 o2 : Obj} {m : Nat → Bool} {u : Nat → Value} (h : JM W0 b o0 o1 o2 m u W) (h4 : m 4 = false) : W.heap[b]? = some o0 := by
  have h6 : m 6 = false := by
    cases h6 : m 6 with
    | false => rfl
    | true => rw [h.m64 h6] at h4; cases h4
  have := h.blk
  rw [h4, h6] at this
  exact this
theorem JM.b1 {W0 W : World} {b : Nat} {o0 o1 o2 : Obj} {m : Nat → Bool} {u : Nat → Value} (h : JM W0 b o0 o1 o2 m u W) (h6 : m 6 = false) (h4 : m 4 = true) : W.heap[b]? = some o1 := by
  have := h.blk
  rw [h4, h6] at this
  exact this
theorem JM.b2 {W0 W : World} {b : Nat} {o0 o1 o2 : Obj} {m : Nat → Bool} {u : Nat → Value} (h : JM W0 b o0 o1 o2 m u W) (h6 : m 6 = true) : W.heap[b]? = some o2 := by
  have := h.blk
  rw [h6] at this
  exact this
theorem JM.look {k : Ky} {W0 W : World} {b : Nat} {o0 o1 o2 : Obj} {m : Nat → Bool} {u : Nat → Value} {v v1 st : Int} (T : Turns k o0 o1 o2 v v1 st) (h : JM W0 b o0 o1 o2 m u W) (h6 : m 6 = false) : (Instr.lookup 84 (.map (some b)) (kv k) false).run Try.prog W = .ok (.int .i64 v) W := by
  cases h4 : m 4 with
  | false => exact T.look0 W b (h.b0 h4)
  | true => exact T.look1 W b (h.b1 h6 h4)
theorem load86 (W : World) (K : Nat) (k : Ky) (h : W.heap[K]? = some (.cells #[.int .i64 k.1, .int .i64 k.2.1, .int .i64 k.2.2] 86 (0, 0))) : (Instr.loadAt 86 (.pointer (some ⟨K, 0, none⟩))).run Try.prog W = .ok (kv k) W := by
  have c0 : W.cell? ⟨K, 0, none⟩ = some (.int .i64 k.1) := by rw [cell_of_row _ _ _ _ _ _ h]; rfl
  have c1 : W.cell? ⟨K, 1, none⟩ = some (.int .i64 k.2.1) := by rw [cell_of_row _ _ _ _ _ _ h]; rfl
  have c2 : W.cell? ⟨K, 2, none⟩ = some (.int .i64 k.2.2) := by rw [cell_of_row _ _ _ _ _ _ h]; rfl
  unfold kv
  go_simp
theorem exq_app : ∀ (l : List Ex) (k : Nat) (x : Ex), l[k]? = some x → l.drop k = x :: l.drop (k + 1)
  | [], _, _, h => by simp at h
  | a :: r, 0, x, h => by simp at h; subst h; rfl
  | a :: r, k + 1, x, h => by simpa using exq_app r k x (by simpa using h)

theorem three_c {W : World} {B t : Nat} {a b c : Value} (h : W.heap[B]? = some (.cells #[a, b, c] t (0, 0))) : W.cell? ⟨B, 0, none⟩ = some a ∧ W.cell? ⟨B, 1, none⟩ = some b ∧ W.cell? ⟨B, 2, none⟩ = some c := by
  refine ⟨?_, ?_, ?_⟩
  all_goals rw [cell_of_row _ _ _ _ _ _ h]; rfl
set_option maxHeartbeats 4000000 in
theorem exits_any (v : Value) (l : List Ex) (w : World) (h : Exs w v l) (hn : l.length ≤ 4611686018427387904) : Calls Try.prog 17 #[v] w fun e w' => e = .returned (.bool (exq [] l)) ∧ Grew w w' := by
  have HL := Lib.hid h
  obtain ⟨A, c, rfl, _⟩ := h.slice
  obtain ⟨T, hT⟩ : ∃ T, exq [] l = T := ⟨_, rfl⟩
  rw [hT]
  have HT0 := Lib.hid hT
  have HN := Lib.hid hn
  clear h hn hT
  have g1 : Grew w (w.alloc (.map #[] 0)) := by unfold Grew; go_grown
  have HG1 := Lib.hid g1
  have HM1 : Hid ((w.alloc (.map #[] 0)).heap[w.heap.size]? = some (km [])) := Lib.hid (heap_alloc_new w _)
  clear g1
  have hmm := @run_makeMap Try.prog
  have u84 := Try.underlying84
  go_enter Try.func17, Try.ntmps17
  go_wp2
  clear hmm u84
  go_loopg [10] l.length (fun g s10 wx => ∃ (k : Nat) (ks : List Ky), k + g = l.length ∧ s10 = .int .i64 k ∧ Hid (exq ks (l.drop k) = T) ∧ Hid (wx.heap[w.heap.size]? = some (km ks)) ∧ Hid (Grew w wx))
  case atStart => exact ⟨0, [], by omega, rfl, Lib.hid HT0.out, HM1, HG1⟩
  case round =>
    obtain ⟨k, ks, hkg, rfl, HE, HM, HG⟩ := hrel
    cases gk with
    | zero =>
      have hkz : ¬ ((k : Int) < (l.length : Int)) := by omega
      have HRES : Hid (T = true) := Lib.hid (by have := HE.out; rw [List.drop_eq_nil_of_le (by omega)] at this; exact this.symm)
      go_wp2
      go_returns
      refine ⟨?_, HG.out⟩
      rw [HRES.out]
      try rfl
    | succ g =>
      have hkz : (k : Int) < (l.length : Int) := by omega
      have hkl : k < l.length := by omega
      have hx : l[k]? = some (ee l k) := by unfold ee; rw [List.getElem?_eq_getElem hkl]; rfl
      obtain ⟨ad, c3, e, _, d0, d1, d2, d3, d4, d5⟩ := Exs_at (HL.out.grew HG.out) hx
      injection e with e1 _ e3
      subst e1 e3
      have hwk : wrap64 ((k : Int) + 1) = ((k + 1 : Nat) : Int) := wr1b hkl HN.out
      have HKW := Lib.hid hwk
      have HDR := Lib.hid (exq_app l k _ hx)
      clear hx hwk hkl
      obtain ⟨x, hxe⟩ : ∃ x, ee l k = x := ⟨_, rfl⟩
      rw [hxe] at d0 d1 d2 d3 d4 d5 HDR
      clear hxe
      have HRE := Lib.hid (fun W => re_any x W)
      obtain ⟨us, fl, fs, tl, ts, d⟩ := x
      simp only at d0 d1 d2 d3 d4 d5
      unfold exv at HRE
      simp only at HRE
      have HE2 : Hid ((if okE ⟨us, fl, fs, tl, ts, d⟩ = false then false else if us = false then exq ks (l.drop (k + 1)) else if (fl, fs, d) ∈ ks then false else exq (ks ++ [(fl, fs, d)]) (l.drop (k + 1))) = T) := Lib.hid (by have := HE.out; rw [HDR.out] at this; exact this)
      clear HE HDR
      generalize okE ⟨us, fl, fs, tl, ts, d⟩ = p at *
      have g0 : Grew wr (wr.alloc (.cells #[.bool us, .int .i64 fl, .int .i64 fs, .int .i64 tl, .int .i64 ts, .int .i64 d] 41)) := by unfold Grew; go_grown
      have G0 := Lib.hid (HG.out.trans g0)
      have A0 := Lib.hid (heap_alloc_new wr (.cells #[.bool us, .int .i64 fl, .int .i64 fs, .int .i64 tl, .int .i64 ts, .int .i64 d] 41))
      have M0 := Lib.hid (keepB HM.out g0)
      clear g0
      go_wp2_with fail
      refine (HRE.out _).mono ?_
      rintro e w1 ⟨rfl, hg⟩
      have G1 := Lib.hid (G0.out.trans hg)
      have A1 := Lib.hid (keepB A0.out hg)
      have M1 := Lib.hid (keepB M0.out hg)
      clear hg
      obtain ⟨c0, c1, c2, c3, c4, c5⟩ := it_cells A1.out
      cases p with
      | false =>
        have HRES : Hid (T = false) := Lib.hid (by have := HE2.out; simpa using this.symm)
        go_wp2
        go_returns
        refine ⟨?_, G1.out⟩
        rw [HRES.out]
        try rfl
      | true =>
        cases us with
        | false =>
          have HE3 : Hid (exq ks (l.drop (k + 1)) = T) := Lib.hid (by have := HE2.out; simpa using this)
          go_wp2
          go_roundg g
          case measure => omega
          case rel => exact ⟨k + 1, ks, by omega, by first | (simp; done) | rw [HKW.out], HE3, M1, G1⟩
        | true =>
          have g2 : Grew w1 (w1.alloc (.cells #[.int .i64 fl, .int .i64 fs, .int .i64 d] 86)) := by unfold Grew; go_grown
          have G2 := Lib.hid (G1.out.trans g2)
          have M2 := Lib.hid (keepB M1.out g2)
          have K2 := Lib.hid (heap_alloc_new w1 (.cells #[.int .i64 fl, .int .i64 fs, .int .i64 d] 86))
          have HKN0 : Hid (w1.heap.size ≠ w.heap.size) := Lib.hid (fun h => by have := (Array.getElem?_eq_some_iff.1 M1.out).1; omega)
          clear g2
          by_cases hin : (fl, fs, d) ∈ ks
          · obtain ⟨O2, st, hT⟩ := turn_old ks (fl, fs, d) hin
            have HT := Lib.hid hT
            have HRES : Hid (T = false) := Lib.hid (by have := HE2.out; simpa [hin] using this.symm)
            clear hT hin
            go_wp2
            refine Marks.wp_region_text (JM (w1.alloc (.cells #[.int .i64 fl, .int .i64 fs, .int .i64 d] 86)) w.heap.size (km ks) (km ks) O2) (fun _ _ => True) (by kernel_rfl) (by kernel_rfl) (JM.start (w1.alloc (.cells #[.int .i64 fl, .int .i64 fs, .int .i64 d] 86)) _ _ _ _ M2.out) ?_
            apply Marks.Lex.exact [] (.map (some w.heap.size)) (by kernel_rfl)
            · intro m u W hm hcl hJ _
              unfold Marks.one
              go_simp
              exact ⟨trivial, hJ.keep 0 _ (by decide) (by decide), rfl⟩
            apply Marks.Lex.exact [] (.agg #[.int .i64 fl, .int .i64 fs, .int .i64 d]) (by kernel_rfl)
            · intro m u W hm hcl hJ _
              have hld := load86 W w1.heap.size (fl, fs, d) ((hJ.other w1.heap.size HKN0.out).trans K2.out)
              refine one_load rfl 86 (.tmp 6) rfl (.pointer (some ⟨ w1.heap.size , 0, none⟩)) (.agg #[.int .i64 fl, .int .i64 fs, .int .i64 d]) (by rfl) hld ?_
              exact ⟨trivial, hJ.keep 1 _ (by decide) (by decide), rfl⟩
            apply Marks.Lex.exact [] (.int .i64 1) (by kernel_rfl)
            · intro m u W hm hcl hJ _
              have h6 : m 6 = false := by
                cases h6 : m 6 with
                | false => rfl
                | true => rw [hJ.m62 h6] at hm; cases hm
              have hlo := hJ.look HT.out h6
              refine one_look rfl 84 (.tmp 25) (.tmp 26) rfl (.map (some w.heap.size)) (.agg #[.int .i64 fl, .int .i64 fs, .int .i64 d]) _ (by rfl) (by rfl) hlo ?_
              exact ⟨trivial, hJ.keep 2 _ (by decide) (by decide), rfl⟩
            apply Marks.Lex.exact [] (.int .i64 2) (by kernel_rfl)
            · intro m u W hm hcl hJ _
              unfold Marks.one
              go_simp
              exact ⟨trivial, hJ.keep 3 _ (by decide) (by decide), rfl⟩
            apply Marks.Lex.exact [] (.tuple #[.int .i64 1, .int .i64 st]) (by kernel_rfl)
            · intro m u W hm hcl hJ _
              have h6 : m 6 = false := by
                cases h6 : m 6 with
                | false => rfl
                | true => rw [hJ.m64 h6] at hm; cases hm
              have hen := HT.out.entry W _ (hJ.b0 hm)
              refine one_entry rfl 84 (.tmp 25) (.tmp 26) rfl (.map (some w.heap.size)) (.agg #[.int .i64 fl, .int .i64 fs, .int .i64 d]) _ _ (by rfl) (by rfl) hen ?_
              exact ⟨trivial, hJ.put4 h6 _, rfl⟩
            apply Marks.Lex.exact [] (.int .i64 st) (by kernel_rfl)
            · intro m u W hm hcl hJ _
              unfold Marks.one
              go_simp
              exact ⟨trivial, hJ.keep 5 _ (by decide) (by decide), rfl⟩
            apply Marks.Lex.exact [] undef (by kernel_rfl)
            · intro m u W hm hcl hJ _
              have h4 : m 4 = true := hcl 4 (by decide)
              have hst := HT.out.store W _ (hJ.b1 hm h4)
              unfold Marks.one
              go_simp
              exact ⟨trivial, hJ.put6 h4 (hcl 2 (by decide)) _, rfl⟩
            refine Marks.Lex.done fun m u W3 hm hJ _ => ?_
            have hg3 : Grew w W3 := Below.trans (B := w.heap.size) G2.out hJ.below
            have hm3 : W3.heap[w.heap.size]? = some O2 := hJ.b2 (hm 6 (by omega))
            have hk3 : W3.heap[w1.heap.size]? = some (.cells #[.int .i64 fl, .int .i64 fs, .int .i64 d] 86 (0, 0)) := (hJ.other w1.heap.size HKN0.out).trans K2.out
            have hlk : (Instr.lookup 84 (.map (some w.heap.size)) (.agg #[.int .i64 fl, .int .i64 fs, .int .i64 d]) false).run Try.prog W3 = .ok (.int .i64 2) W3 := HT.out.look2 W3 _ hm3
            have HG3 := Lib.hid hg3
            have HM3 := Lib.hid hm3
            obtain ⟨c0, c1, c2⟩ := three_c hk3
            clear hJ hm hg3 hm3 hk3
            go_wp2
            go_returns
            refine ⟨?_, HG3.out⟩
            rw [HRES.out]
            try rfl
          · have HT := Lib.hid (turn_new ks (fl, fs, d) hin)
            have HE3 : Hid (exq (ks ++ [(fl, fs, d)]) (l.drop (k + 1)) = T) := Lib.hid (by have := HE2.out; simpa [hin] using this)
            clear hin
            go_wp2
            refine Marks.wp_region_text (JM (w1.alloc (.cells #[.int .i64 fl, .int .i64 fs, .int .i64 d] 86)) w.heap.size (km ks) (mo (bas 0 ks ++ [((fl, fs, d), 0, ks.length)]) (ks.length + 1)) (km (ks ++ [(fl, fs, d)]))) (fun _ _ => True) (by kernel_rfl) (by kernel_rfl) (JM.start (w1.alloc (.cells #[.int .i64 fl, .int .i64 fs, .int .i64 d] 86)) _ _ _ _ M2.out) ?_
            apply Marks.Lex.exact [] (.map (some w.heap.size)) (by kernel_rfl)
            · intro m u W hm hcl hJ _
              unfold Marks.one
              go_simp
              exact ⟨trivial, hJ.keep 0 _ (by decide) (by decide), rfl⟩
            apply Marks.Lex.exact [] (.agg #[.int .i64 fl, .int .i64 fs, .int .i64 d]) (by kernel_rfl)
            · intro m u W hm hcl hJ _
              have hld := load86 W w1.heap.size (fl, fs, d) ((hJ.other w1.heap.size HKN0.out).trans K2.out)
              refine one_load rfl 86 (.tmp 6) rfl (.pointer (some ⟨ w1.heap.size , 0, none⟩)) (.agg #[.int .i64 fl, .int .i64 fs, .int .i64 d]) (by rfl) hld ?_
              exact ⟨trivial, hJ.keep 1 _ (by decide) (by decide), rfl⟩
            apply Marks.Lex.exact [] (.int .i64 0) (by kernel_rfl)
            · intro m u W hm hcl hJ _
              have h6 : m 6 = false := by
                cases h6 : m 6 with
                | false => rfl
                | true => rw [hJ.m62 h6] at hm; cases hm
              have hlo := hJ.look HT.out h6
              refine one_look rfl 84 (.tmp 25) (.tmp 26) rfl (.map (some w.heap.size)) (.agg #[.int .i64 fl, .int .i64 fs, .int .i64 d]) _ (by rfl) (by rfl) hlo ?_
              exact ⟨trivial, hJ.keep 2 _ (by decide) (by decide), rfl⟩
            apply Marks.Lex.exact [] (.int .i64 1) (by kernel_rfl)
            · intro m u W hm hcl hJ _
              unfold Marks.one
              go_simp
              exact ⟨trivial, hJ.keep 3 _ (by decide) (by decide), rfl⟩
            apply Marks.Lex.exact [] (.tuple #[.int .i64 0, .int .i64 (ks.length : Int)]) (by kernel_rfl)
            · intro m u W hm hcl hJ _
              have h6 : m 6 = false := by
                cases h6 : m 6 with
                | false => rfl
                | true => rw [hJ.m64 h6] at hm; cases hm
              have hen := HT.out.entry W _ (hJ.b0 hm)
              refine one_entry rfl 84 (.tmp 25) (.tmp 26) rfl (.map (some w.heap.size)) (.agg #[.int .i64 fl, .int .i64 fs, .int .i64 d]) _ _ (by rfl) (by rfl) hen ?_
              exact ⟨trivial, hJ.put4 h6 _, rfl⟩
            apply Marks.Lex.exact [] (.int .i64 (ks.length : Int)) (by kernel_rfl)
            · intro m u W hm hcl hJ _
              unfold Marks.one
              go_simp
              exact ⟨trivial, hJ.keep 5 _ (by decide) (by decide), rfl⟩
            apply Marks.Lex.exact [] undef (by kernel_rfl)
            · intro m u W hm hcl hJ _
              have h4 : m 4 = true := hcl 4 (by decide)
              have hst := HT.out.store W _ (hJ.b1 hm h4)
              unfold Marks.one
              go_simp
              exact ⟨trivial, hJ.put6 h4 (hcl 2 (by decide)) _, rfl⟩
            refine Marks.Lex.done fun m u W3 hm hJ _ => ?_
            have hg3 : Grew w W3 := Below.trans (B := w.heap.size) G2.out hJ.below
            have hm3 : W3.heap[w.heap.size]? = some (km (ks ++ [(fl, fs, d)])) := hJ.b2 (hm 6 (by omega))
            have hk3 : W3.heap[w1.heap.size]? = some (.cells #[.int .i64 fl, .int .i64 fs, .int .i64 d] 86 (0, 0)) := (hJ.other w1.heap.size HKN0.out).trans K2.out
            have hlk : (Instr.lookup 84 (.map (some w.heap.size)) (.agg #[.int .i64 fl, .int .i64 fs, .int .i64 d]) false).run Try.prog W3 = .ok (.int .i64 1) W3 := HT.out.look2 W3 _ hm3
            have HG3 := Lib.hid hg3
            have HM3 := Lib.hid hm3
            obtain ⟨c0, c1, c2⟩ := three_c hk3
            clear hJ hm hg3 hm3 hk3
            go_wp2
            go_roundg g
            case measure => omega
            case rel => exact ⟨k + 1, _, by omega, by first | (simp; done) | rw [HKW.out], HE3, HM3, HG3⟩
end Go.Proofs.Ytaolallfmjjoeaa.RE
