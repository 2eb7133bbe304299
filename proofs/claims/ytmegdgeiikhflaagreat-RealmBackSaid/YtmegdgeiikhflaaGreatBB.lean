/-
  One after the other put behind bytes: labels, lines, accounts, guilds.
  Conditions: those that each lemma names.
-/
import Derived.Test.YtmegdgeiikhflaaGreatBA
import Derived.Test.YtmegdgeiikhflaaGreatRRows
import Derived.Test.YtmegdgeiikhflaaGreatLForm
import Derived.Lib.AppendStr
namespace Go.Proofs.YtmegdgeiikhflaaGreat.BB
set_option maxRecDepth 100000
open Go Go.RowKit Go.Lib Go.Proofs.YtmegdgeiikhflaaGreat Go.Proofs.YtmegdgeiikhflaaGreat.Facts Go.Proofs.YtmegdgeiikhflaaGreat.Bytes Go.Proofs.YtmegdgeiikhflaaGreat.Plain Go.Proofs.YtmegdgeiikhflaaGreat.Ints Go.Proofs.YtmegdgeiikhflaaGreat.LBox Go.Proofs.YtmegdgeiikhflaaGreat.RRows Go.Proofs.YtmegdgeiikhflaaGreat.Puts Go.Proofs.YtmegdgeiikhflaaGreat.BA


/-- What a function that puts one thing behind bytes answers. -/
def One {T : Type} (f : FuncId) (val : T → Value) (enc : T → List UInt8) (ok : T → Prop) : Prop :=
  ∀ (W : World) (base : Nat) (v : Value) (l : List UInt8) (x : T), ok x → base ≤ W.heap.size → OwnB W base v l → l.length + 600 ≤ 140737488355328 →
    Calls Tryz.prog f #[v, val x] W fun e W' => ∃ v', e = .returned v' ∧ OwnB W' base v' (l ++ enc x) ∧ Below base W W'
theorem ints1 (W : World) (x : Int) : Is (W.alloc (.cells #[.int .i64 x] 3)) (.slice (some ⟨W.heap.size, 0, none⟩) 1 1) [x] := by
  refine ⟨some ⟨W.heap.size, 0, none⟩, 1, rfl, Nat.le_refl _, by decide, (fun h => by cases h), fun ad ha j u hu => ?_⟩
  cases ha
  rw [Addr.add_lit, Nat.zero_add, cell_of_row _ _ _ _ _ _ (heap_alloc_new W _), List.getElem?_toArray]
  exact hu
theorem ints2 (W : World) (x y : Int) : Is (W.alloc (.cells #[.int .i64 x, .int .i64 y] 3)) (.slice (some ⟨W.heap.size, 0, none⟩) 2 2) [x, y] := by
  refine ⟨some ⟨W.heap.size, 0, none⟩, 2, rfl, Nat.le_refl _, by decide, (fun h => by cases h), fun ad ha j u hu => ?_⟩
  cases ha
  rw [Addr.add_lit, Nat.zero_add, cell_of_row _ _ _ _ _ _ (heap_alloc_new W _), List.getElem?_toArray]
  exact hu
theorem putP1 (x : Int) : putP [x] = pb x := by simp [putP]
theorem putP2 (x y : Int) : putP [x, y] = pb x ++ pb y := by simp [putP]
theorem own_alloc {W : World} {base : Nat} {v : Value} {X : List UInt8} (h : OwnB W base v X) (o : Obj) : OwnB (W.alloc o) base v X := World.ownsRow.alloc (show W.ownsRow base 5 1 v X.length (bv X) from h) o
/-- A line. -/
theorem one_line : One (T := Int) 86 (Value.int .i64) pb (fun _ => True) := by
  intro W base v l x _ hb ho hl
  have g0 : Grew W (W.alloc (.cells #[.int .i64 x] 3)) := by unfold Grew; go_grown
  have HP := Lib.hid (put_any (fun _ => True) v l _ [x] (W.alloc (.cells #[.int .i64 x] 3)) (own_alloc ho _).rd (ints1 W x) (by simp) (by simp; omega))
  rw [putP1] at HP
  have G0 := Lib.hid g0
  have HB := Lib.hid hb
  clear ho hl g0 hb
  go_enter Tryz.func86, Tryz.ntmps86
  go_wp2_with fail
  refine HP.out.mono ?_
  rintro e w1 ⟨v', rfl, hown, hg⟩
  have HO := Lib.hid (hown.mono (Nat.le_trans HB.out G0.out.size))
  have HG : Hid (Below base W w1) := Lib.hid (Below.mono (G0.out.trans hg) HB.out)
  clear hown hg
  go_wp2
  go_returns
  exact ⟨_, rfl, HO.out, HG.out⟩
def encG (g : Gu) : List UInt8 := pb g.bit ++ pb g.founder
def gval (g : Gu) : Value := .agg #[.int .i64 g.bit, .int .i64 g.founder]
/-- A guild. -/
theorem one_guild : One (T := Gu) 91 gval encG (fun _ => True) := by
  intro W base v l x _ hb ho hl
  obtain ⟨a, b⟩ := x
  unfold gval encG
  simp only
  have g1 : Grew W (W.alloc (.cells #[.int .i64 a, .int .i64 b] 52)) := by unfold Grew; go_grown
  have g0 : Grew W ((W.alloc (.cells #[.int .i64 a, .int .i64 b] 52)).alloc (.cells #[.int .i64 a, .int .i64 b] 3)) := by unfold Grew; go_grown
  have HP := Lib.hid (put_any (fun _ => True) v l _ [a, b] _ (own_alloc (own_alloc ho _) _).rd (ints2 (W.alloc (.cells #[.int .i64 a, .int .i64 b] 52)) a b) (by simp) (by simp; omega))
  rw [putP2, World.size_alloc] at HP
  have G0 := Lib.hid g0
  have HB := Lib.hid hb
  clear ho hl g0 hb g1
  go_enter Tryz.func91, Tryz.ntmps91
  go_wp2_with fail
  refine HP.out.mono ?_
  rintro e w1 ⟨v', rfl, hown, hg⟩
  have HO := Lib.hid (hown.mono (Nat.le_trans HB.out G0.out.size))
  have HG : Hid (Below base W w1) := Lib.hid (Below.mono (G0.out.trans hg) HB.out)
  clear hown hg
  go_wp2
  go_returns
  exact ⟨_, rfl, HO.out, HG.out⟩

def encL (a : La) : List UInt8 := LForm.form a.lev a.set
def lval (a : La) : Value := .agg #[.int .i64 a.lev, .int .u64 (a.set.toNat : Int)]
theorem infoU8 : (Tryz.prog.info? 5).map (fun i => (i.zero, i.size, i.bytes)) = some (some (.int .u8 0), 1, 1) := by kernel_rfl
theorem app_bytes (W : World) (base : Nat) (v : Value) (X Y : List UInt8) (S : Nat → Prop) (vb : Value) (ho : OwnB W base v X) (hr : Rd S W vb Y) (hne : Y ≠ []) (hl : X.length + Y.length ≤ 140737488355328) (hb : base ≤ W.heap.size) :
    ∃ v' w', (Builtin.append_ #[41, 41] 41 #[v, vb]).run Tryz.prog W = .ok v' w' ∧ OwnB w' base v' (X ++ Y) ∧ Below base W w' := by
  obtain ⟨i0, hi, hx⟩ := Option.map_eq_some_iff.1 infoU8
  simp only [Prod.mk.injEq] at hx
  obtain ⟨hz0, hz1, hz2⟩ := hx
  obtain ⟨A, c, rfl, h1, h2, h3, h4⟩ := hr
  cases A with
  | none =>
    have := h3 rfl
    exact absurd (List.eq_nil_of_length_eq_zero (by omega)) hne
  | some ad =>
    have hown : W.ownsRow base 5 1 v X.length (bv X) := ho
    obtain ⟨v', w', hr, h5, h6, _⟩ := run_append_own (P := Tryz.prog) W base 41 41 5 i0 (.int .u8 0) 1 1 Tryz.underlying41 hi hz0 hz1 hz2 rfl Nat.one_pos v X.length (bv X) hown ad Y.length c (bv Y) (by rw [bv_length]; omega) (fun j u hu => (h4 ad rfl).2 j u hu) (bv_one Y) (by unfold maxLen; omega) (by omega) hb
    refine ⟨v', w', hr, OwnB.of (n := X.length + Y.length) (by rw [bv_append]; exact h5) (by rw [List.length_append]), ?_⟩
    exact below_of_grown W h6 hb fun k hk => by
      rcases hown.2 with ⟨rfl, _⟩ | ⟨g, cap, cur, rfl, hg, _⟩
      · simp [Value.ownBlock] at hk
      · simp [Value.ownBlock] at hk
        omega
theorem own_bgrew {W W' : World} {base : Nat} {v : Value} {X : List UInt8} (h : OwnB W base v X) (hg : Grew W W') : OwnB W' base v X := by
  have h' : W.ownsRow base 5 1 v X.length (bv X) := h
  refine ⟨h'.1, ?_⟩
  rcases h'.2 with h0 | ⟨g, cap, cur, h1, h2, h3, h4⟩
  · exact .inl h0
  · exact .inr ⟨g, cap, cur, h1, h2, keepB h3 hg, h4⟩
/-- A label. -/
theorem one_label : One (T := La) 83 lval encL (fun a => may a.lev = true) := by
  intro W base v l x hok hb ho hl
  obtain ⟨a, b⟩ := x
  unfold lval encL
  simp only at hok ⊢
  have hlen : (LForm.form a b).length = 9 := by unfold LForm.form; rw [if_pos hok]; simp [LForm.be_length]
  have hne : LForm.form a b ≠ [] := fun e => by rw [e] at hlen; cases hlen
  have g0 : Grew W (W.alloc (.cells #[.int .i64 a, .int .u64 (b.toNat : Int)] 31)) := by unfold Grew; go_grown
  have HF := Lib.hid (LForm.form_any a b (W.alloc (.cells #[.int .i64 a, .int .u64 (b.toNat : Int)] 31)))
  have G0 := Lib.hid g0
  have HB := Lib.hid hb
  have HO := Lib.hid ho
  have HL := Lib.hid hl
  have HLEN := Lib.hid hlen
  have HNE := Lib.hid hne
  clear ho hl g0 hb hlen hne hok
  go_enter Tryz.func83, Tryz.ntmps83
  go_wp2_with fail
  refine HF.out.mono ?_
  rintro e w1 ⟨v1, rfl, hr, hg⟩
  have HG1 := Lib.hid (G0.out.trans hg)
  obtain ⟨v', w2, hrun, hown, hbel⟩ := app_bytes w1 base v l _ _ v1 (own_bgrew HO.out HG1.out) hr HNE.out (by rw [HLEN.out]; have := HL.out; omega) (Nat.le_trans HB.out HG1.out.size)
  have HAPP := Lib.hid hrun
  have HO2 := Lib.hid hown
  have HG2 : Hid (Below base W w2) := Lib.hid (Below.trans (Below.mono HG1.out HB.out) hbel)
  clear hr hg hrun hown hbel
  go_wp2_with (at_builtin; refine wpList_app_want (.tmp 5) (.tmp 7) 41 (by rfl) (by rfl) _ _ rfl rfl v' w2 (by exact HAPP.out) ?_)
  go_returns
  exact ⟨_, rfl, HO2.out, HG2.out⟩
theorem flat_le {T : Type} (enc : T → List UInt8) (L : List T) (h : ∀ x ∈ L, (enc x).length ≤ 600) : (L.flatMap enc).length ≤ L.length * 600 := by
  induction L with
  | nil => simp
  | cons a r ih =>
    rw [List.flatMap_cons, List.length_append, List.length_cons, Nat.succ_mul]
    have := h a List.mem_cons_self
    have := ih fun x hx => h x (List.mem_cons_of_mem _ hx)
    omega

set_option maxHeartbeats 1000000 in
theorem putLabels (S : Nat → Prop) (v : Value) (l : List UInt8) (vX : Value) (X : List La) (w : World) (h : Rd S w v l) (hX : Ls w vX X) (hok : ∀ x ∈ X, may x.lev = true) (hb : X.length ≤ 100) (henc : ∀ x ∈ X, (encL x).length ≤ 600) (hl : l.length + 100000 ≤ 140737488355328) :
    Calls Tryz.prog 82 #[v, vX, .func (.func 83) #[] #[]] w fun e w' => ∃ v', e = .returned v' ∧ OwnB w' w.heap.size v' (l ++ (pb X.length ++ X.flatMap encL)) ∧ Grew w w' := by
  have HX := Lib.hid hX
  have HOK := Lib.hid hok
  have HENC := Lib.hid henc
  have HB := Lib.hid hb
  have HL := Lib.hid hl
  have g0 : Grew w (w.alloc (.cells #[.int .i64 X.length] 3)) := by unfold Grew; go_grown
  have HP := Lib.hid (put_any S v l _ [(X.length : Int)] (w.alloc (.cells #[.int .i64 X.length] 3)) (h.grew g0) (ints1 w _) (by simp) (by simp; omega))
  rw [putP1] at HP
  have G0 := Lib.hid g0
  obtain ⟨A, c, rfl, hc1, hc2, _⟩ := hX
  clear h hok hb henc hl g0
  go_enter Tryz.func82, Tryz.ntmps82
  go_wp2_with fail
  refine HP.out.mono ?_
  rintro e w1 ⟨v1, rfl, hown, hg⟩
  have HO1 : Hid (OwnB w1 w.heap.size v1 (l ++ pb X.length ++ (X.take 0).flatMap encL)) := Lib.hid (by
    rw [List.take_zero, List.flatMap_nil, List.append_nil]
    exact hown.mono G0.out.size)
  have HG1 := Lib.hid (G0.out.trans hg)
  clear hown hg HP G0
  go_wp2
  go_loopg [0, 16] X.length (fun g s0 s16 wx => ∃ (k : Nat) (v0 : Value), k + g = X.length ∧ v0 = s0 ∧ s16 = .int .i64 k ∧ Hid (OwnB wx w.heap.size s0 (l ++ pb X.length ++ (X.take k).flatMap encL)) ∧ Hid (Grew w wx))
  case atStart => exact ⟨0, _, by omega, rfl, rfl, HO1, HG1⟩
  case round =>
    clear HO1 HG1
    obtain ⟨k, v0, hkg, rfl, rfl, HO, HG⟩ := hrel
    cases gk with
    | zero =>
      have hkz : ¬ ((k : Int) < (X.length : Int)) := by omega
      have HE : Hid (OwnB wr w.heap.size v0 (l ++ (pb X.length ++ X.flatMap encL))) := Lib.hid (by
        have := HO.out
        rw [show k = X.length by omega, List.take_length, List.append_assoc] at this
        exact this)
      go_wp2
      go_returns
      exact ⟨_, rfl, HE.out, HG.out⟩
    | succ g =>
      have hkl : k < X.length := by omega
      have hkz : (k : Int) < (X.length : Int) := by omega
      have hx : X[k]? = some X[k] := List.getElem?_eq_getElem hkl
      obtain ⟨ad, c9, e9, _, d0, d1⟩ := Ls_at (HX.out.grew HG.out) hx
      injection e9 with e1 e2 e3
      subst e1 e3
      clear e2
      have hxok := HOK.out _ (List.getElem_mem hkl)
      have hts : (X.take (k + 1)).flatMap encL = (X.take k).flatMap encL ++ encL X[k] := by
        rw [List.take_add_one, hx, List.flatMap_append]
        simp
      have HTS := Lib.hid hts
      have hlen : (l ++ pb X.length ++ (X.take k).flatMap encL).length + 600 ≤ 140737488355328 := by
        have h1 := flat_le encL (X.take k) fun x hx => HENC.out x (List.mem_of_mem_take hx)
        rw [List.length_append, List.length_append, pb_len]
        rw [List.length_take] at h1
        have := HB.out
        have := HL.out
        omega
      have HKW : Hid (wrap64 ((k : Int) + 1) = ((k + 1 : Nat) : Int)) := Lib.hid (by have := HB.out; unfold wrap64; omega)
      have HM : Hid (k + 1 + g = X.length) := Lib.hid (by omega)
      generalize X[k] = x at *
      have ga : Grew wr (wr.alloc (.cells #[.int .i64 x.lev, .int .u64 (x.set.toNat : Int)] 31)) := by unfold Grew; go_grown
      have GA := Lib.hid (HG.out.trans ga)
      have HC := Lib.hid (one_label (wr.alloc (.cells #[.int .i64 x.lev, .int .u64 (x.set.toNat : Int)] 31)) w.heap.size v0 _ x hxok GA.out.size (own_alloc HO.out _) hlen)
      unfold lval at HC
      clear ga
      clear hx hts hlen hkl hkg hxok
      go_wp2_with fail
      refine HC.out.mono ?_
      rintro e w2 ⟨v', rfl, hown, hbel⟩
      have HO2 : Hid (OwnB w2 w.heap.size v' (l ++ pb X.length ++ (X.take (k + 1)).flatMap encL)) := Lib.hid (by rw [HTS.out, ← List.append_assoc]; exact hown)
      have HG2 : Hid (Grew w w2) := Lib.hid (Below.trans (show Below w.heap.size w _ from GA.out) hbel)
      clear hown hbel HTS
      go_wp2
      go_roundg g
      case measure => omega
      case rel => exact ⟨k + 1, _, HM.out, rfl, by first | rfl | (simp; done) | rw [HKW.out], HO2, HG2⟩

set_option maxHeartbeats 1000000 in
theorem putLines (S : Nat → Prop) (v : Value) (l : List UInt8) (vX : Value) (X : List Int) (w : World) (h : Rd S w v l) (hX : Is w vX X) (hok : ∀ x ∈ X, (fun _ : Int => True) x) (hb : X.length ≤ 100) (henc : ∀ x ∈ X, (pb x).length ≤ 600) (hl : l.length + 100000 ≤ 140737488355328) :
    Calls Tryz.prog 85 #[v, vX, .func (.func 86) #[] #[]] w fun e w' => ∃ v', e = .returned v' ∧ OwnB w' w.heap.size v' (l ++ (pb X.length ++ X.flatMap pb)) ∧ Grew w w' := by
  have HX := Lib.hid hX
  have HOK := Lib.hid hok
  have HENC := Lib.hid henc
  have HB := Lib.hid hb
  have HL := Lib.hid hl
  have g0 : Grew w (w.alloc (.cells #[.int .i64 X.length] 3)) := by unfold Grew; go_grown
  have HP := Lib.hid (put_any S v l _ [(X.length : Int)] (w.alloc (.cells #[.int .i64 X.length] 3)) (h.grew g0) (ints1 w _) (by simp) (by simp; omega))
  rw [putP1] at HP
  have G0 := Lib.hid g0
  obtain ⟨A, c, rfl, hc1, hc2, _⟩ := hX
  clear h hok hb henc hl g0
  go_enter Tryz.func85, Tryz.ntmps85
  go_wp2_with fail
  refine HP.out.mono ?_
  rintro e w1 ⟨v1, rfl, hown, hg⟩
  have HO1 : Hid (OwnB w1 w.heap.size v1 (l ++ pb X.length ++ (X.take 0).flatMap pb)) := Lib.hid (by
    rw [List.take_zero, List.flatMap_nil, List.append_nil]
    exact hown.mono G0.out.size)
  have HG1 := Lib.hid (G0.out.trans hg)
  clear hown hg HP G0
  go_wp2
  go_loopg [0, 16] X.length (fun g s0 s16 wx => ∃ (k : Nat) (v0 : Value), k + g = X.length ∧ v0 = s0 ∧ s16 = .int .i64 k ∧ Hid (OwnB wx w.heap.size s0 (l ++ pb X.length ++ (X.take k).flatMap pb)) ∧ Hid (Grew w wx))
  case atStart => exact ⟨0, _, by omega, rfl, rfl, HO1, HG1⟩
  case round =>
    clear HO1 HG1
    obtain ⟨k, v0, hkg, rfl, rfl, HO, HG⟩ := hrel
    cases gk with
    | zero =>
      have hkz : ¬ ((k : Int) < (X.length : Int)) := by omega
      have HE : Hid (OwnB wr w.heap.size v0 (l ++ (pb X.length ++ X.flatMap pb))) := Lib.hid (by
        have := HO.out
        rw [show k = X.length by omega, List.take_length, List.append_assoc] at this
        exact this)
      go_wp2
      go_returns
      exact ⟨_, rfl, HE.out, HG.out⟩
    | succ g =>
      have hkl : k < X.length := by omega
      have hkz : (k : Int) < (X.length : Int) := by omega
      have hx : X[k]? = some X[k] := List.getElem?_eq_getElem hkl
      obtain ⟨ad, c9, e9, _, d0⟩ := Is.cell (HX.out.grew HG.out) hkl
      injection e9 with e1 e2 e3
      subst e1 e3
      clear e2
      rw [show X[k]?.getD 0 = X[k] by rw [hx]; rfl] at d0
      have hxok := HOK.out _ (List.getElem_mem hkl)
      have hts : (X.take (k + 1)).flatMap pb = (X.take k).flatMap pb ++ pb X[k] := by
        rw [List.take_add_one, hx, List.flatMap_append]
        simp
      have HTS := Lib.hid hts
      have hlen : (l ++ pb X.length ++ (X.take k).flatMap pb).length + 600 ≤ 140737488355328 := by
        have h1 := flat_le pb (X.take k) fun x hx => HENC.out x (List.mem_of_mem_take hx)
        rw [List.length_append, List.length_append, pb_len]
        rw [List.length_take] at h1
        have := HB.out
        have := HL.out
        omega
      have HKW : Hid (wrap64 ((k : Int) + 1) = ((k + 1 : Nat) : Int)) := Lib.hid (by have := HB.out; unfold wrap64; omega)
      have HM : Hid (k + 1 + g = X.length) := Lib.hid (by omega)
      generalize X[k] = x at *
      have GA := HG
      have HC := Lib.hid (one_line wr w.heap.size v0 _ x trivial HG.out.size HO.out hlen)
      clear hx hts hlen hkl hkg hxok
      go_wp2_with fail
      refine HC.out.mono ?_
      rintro e w2 ⟨v', rfl, hown, hbel⟩
      have HO2 : Hid (OwnB w2 w.heap.size v' (l ++ pb X.length ++ (X.take (k + 1)).flatMap pb)) := Lib.hid (by rw [HTS.out, ← List.append_assoc]; exact hown)
      have HG2 : Hid (Grew w w2) := Lib.hid (Below.trans (show Below w.heap.size w _ from GA.out) hbel)
      clear hown hbel HTS
      go_wp2
      go_roundg g
      case measure => omega
      case rel => exact ⟨k + 1, _, HM.out, rfl, by first | rfl | (simp; done) | rw [HKW.out], HO2, HG2⟩

set_option maxHeartbeats 1000000 in
theorem putGuilds (S : Nat → Prop) (v : Value) (l : List UInt8) (vX : Value) (X : List Gu) (w : World) (h : Rd S w v l) (hX : Gs w vX X) (hok : ∀ x ∈ X, (fun _ : Gu => True) x) (hb : X.length ≤ 100) (henc : ∀ x ∈ X, (encG x).length ≤ 600) (hl : l.length + 100000 ≤ 140737488355328) :
    Calls Tryz.prog 90 #[v, vX, .func (.func 91) #[] #[]] w fun e w' => ∃ v', e = .returned v' ∧ OwnB w' w.heap.size v' (l ++ (pb X.length ++ X.flatMap encG)) ∧ Grew w w' := by
  have HX := Lib.hid hX
  have HOK := Lib.hid hok
  have HENC := Lib.hid henc
  have HB := Lib.hid hb
  have HL := Lib.hid hl
  have g0 : Grew w (w.alloc (.cells #[.int .i64 X.length] 3)) := by unfold Grew; go_grown
  have HP := Lib.hid (put_any S v l _ [(X.length : Int)] (w.alloc (.cells #[.int .i64 X.length] 3)) (h.grew g0) (ints1 w _) (by simp) (by simp; omega))
  rw [putP1] at HP
  have G0 := Lib.hid g0
  obtain ⟨A, c, rfl, hc1, hc2, _⟩ := hX
  clear h hok hb henc hl g0
  go_enter Tryz.func90, Tryz.ntmps90
  go_wp2_with fail
  refine HP.out.mono ?_
  rintro e w1 ⟨v1, rfl, hown, hg⟩
  have HO1 : Hid (OwnB w1 w.heap.size v1 (l ++ pb X.length ++ (X.take 0).flatMap encG)) := Lib.hid (by
    rw [List.take_zero, List.flatMap_nil, List.append_nil]
    exact hown.mono G0.out.size)
  have HG1 := Lib.hid (G0.out.trans hg)
  clear hown hg HP G0
  go_wp2
  go_loopg [0, 16] X.length (fun g s0 s16 wx => ∃ (k : Nat) (v0 : Value), k + g = X.length ∧ v0 = s0 ∧ s16 = .int .i64 k ∧ Hid (OwnB wx w.heap.size s0 (l ++ pb X.length ++ (X.take k).flatMap encG)) ∧ Hid (Grew w wx))
  case atStart => exact ⟨0, _, by omega, rfl, rfl, HO1, HG1⟩
  case round =>
    clear HO1 HG1
    obtain ⟨k, v0, hkg, rfl, rfl, HO, HG⟩ := hrel
    cases gk with
    | zero =>
      have hkz : ¬ ((k : Int) < (X.length : Int)) := by omega
      have HE : Hid (OwnB wr w.heap.size v0 (l ++ (pb X.length ++ X.flatMap encG))) := Lib.hid (by
        have := HO.out
        rw [show k = X.length by omega, List.take_length, List.append_assoc] at this
        exact this)
      go_wp2
      go_returns
      exact ⟨_, rfl, HE.out, HG.out⟩
    | succ g =>
      have hkl : k < X.length := by omega
      have hkz : (k : Int) < (X.length : Int) := by omega
      have hx : X[k]? = some X[k] := List.getElem?_eq_getElem hkl
      obtain ⟨ad, c9, e9, _, d0, d1⟩ := Gs_at (HX.out.grew HG.out) hx
      injection e9 with e1 e2 e3
      subst e1 e3
      clear e2
      have hxok := HOK.out _ (List.getElem_mem hkl)
      have hts : (X.take (k + 1)).flatMap encG = (X.take k).flatMap encG ++ encG X[k] := by
        rw [List.take_add_one, hx, List.flatMap_append]
        simp
      have HTS := Lib.hid hts
      have hlen : (l ++ pb X.length ++ (X.take k).flatMap encG).length + 600 ≤ 140737488355328 := by
        have h1 := flat_le encG (X.take k) fun x hx => HENC.out x (List.mem_of_mem_take hx)
        rw [List.length_append, List.length_append, pb_len]
        rw [List.length_take] at h1
        have := HB.out
        have := HL.out
        omega
      have HKW : Hid (wrap64 ((k : Int) + 1) = ((k + 1 : Nat) : Int)) := Lib.hid (by have := HB.out; unfold wrap64; omega)
      have HM : Hid (k + 1 + g = X.length) := Lib.hid (by omega)
      generalize X[k] = x at *
      have ga : Grew wr (wr.alloc (.cells #[.int .i64 x.bit, .int .i64 x.founder] 52)) := by unfold Grew; go_grown
      have GA := Lib.hid (HG.out.trans ga)
      have HC := Lib.hid (one_guild (wr.alloc (.cells #[.int .i64 x.bit, .int .i64 x.founder] 52)) w.heap.size v0 _ x hxok GA.out.size (own_alloc HO.out _) hlen)
      unfold gval at HC
      clear ga
      clear hx hts hlen hkl hkg hxok
      go_wp2_with fail
      refine HC.out.mono ?_
      rintro e w2 ⟨v', rfl, hown, hbel⟩
      have HO2 : Hid (OwnB w2 w.heap.size v' (l ++ pb X.length ++ (X.take (k + 1)).flatMap encG)) := Lib.hid (by rw [HTS.out, ← List.append_assoc]; exact hown)
      have HG2 : Hid (Grew w w2) := Lib.hid (Below.trans (show Below w.heap.size w _ from GA.out) hbel)
      clear hown hbel HTS
      go_wp2
      go_roundg g
      case measure => omega
      case rel => exact ⟨k + 1, _, HM.out, rfl, by first | rfl | (simp; done) | rw [HKW.out], HO2, HG2⟩
end Go.Proofs.YtmegdgeiikhflaaGreat.BB
