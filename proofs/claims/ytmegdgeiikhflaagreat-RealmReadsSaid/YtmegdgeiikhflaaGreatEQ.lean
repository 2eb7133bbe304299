/-
  The bytes of a realm, the reading, the places, alive: BA BB BC BE CB CC CE CF RPlaces EA EB ED in one text.
  Conditions: those that each lemma names.
-/
import Derived.Test.YtmegdgeiikhflaaGreatPuts
import Derived.Test.YtmegdgeiikhflaaGreatInts
import Derived.IntWalk
import Derived.Deep.LoopGhost
import Derived.Deep.Onto
import Derived.Test.YtmegdgeiikhflaaGreatRRows
import Derived.Test.YtmegdgeiikhflaaGreatLForm
import Derived.Lib.AppendStr
import Derived.Test.YtmegdgeiikhflaaGreatRRight
import Derived.Test.YtmegdgeiikhflaaGreatNums
import Derived.Test.YtmegdgeiikhflaaGreatLBytes
import Derived.Test.YtmegdgeiikhflaaGreatMarks
import Derived.Test.YtmegdgeiikhflaaGreatRNames
import Derived.Test.YtmegdgeiikhflaaGreatHB
import Derived.Test.YtmegdgeiikhflaaGreatHS
import Derived.Test.YtmegdgeiikhflaaGreatHG
import Derived.Test.YtmegdgeiikhflaaGreatHA
namespace Go.Proofs.YtmegdgeiikhflaaGreat.BA
set_option maxRecDepth 100000
open Go Go.RowKit Go.Lib Go.Proofs.YtmegdgeiikhflaaGreat Go.Proofs.YtmegdgeiikhflaaGreat.Facts Go.Proofs.YtmegdgeiikhflaaGreat.Bytes Go.Proofs.YtmegdgeiikhflaaGreat.Ints Go.Proofs.YtmegdgeiikhflaaGreat.Puts


def pb (n : Int) : List UInt8 := be 1 (IntKind.u64.wrap n).toNat
def putP (L : List Int) : List UInt8 := L.flatMap pb
theorem pb_len (n : Int) : (pb n).length = 1 := by unfold pb; rw [be_length]
theorem putP_len (L : List Int) : (putP L).length = L.length := by
  unfold putP
  induction L with
  | nil => rfl
  | cons a r ih => rw [List.flatMap_cons, List.length_append, pb_len, ih, List.length_cons]; omega
theorem putP_snoc (L : List Int) (k : Nat) (x : Int) (h : L[k]? = some x) : putP (L.take (k + 1)) = putP (L.take k) ++ pb x := by
  unfold putP
  rw [List.take_add_one, h, List.flatMap_append]
  simp
theorem wrapU (x : Int) : ∃ m : Nat, IntKind.u64.wrap x = (m : Int) ∧ pb x = be 1 m := by
  have h : 0 ≤ IntKind.u64.wrap x := by
    unfold IntKind.wrap
    simp [IntKind.signed, IntKind.bits]
    omega
  refine ⟨(IntKind.u64.wrap x).toNat, by omega, rfl⟩
/-- An own row of these bytes. -/
def OwnB (w : World) (base : Nat) (v : Value) (X : List UInt8) : Prop := w.ownsRow base 5 1 v X.length (bv X)
theorem OwnB.rd {w : World} {base : Nat} {v : Value} {X : List UInt8} (h : OwnB w base v X) : Rd (fun _ => True) w v X := (Rd.of_own (show w.ownsRow base 5 1 v X.length (bv X) from h) rfl).mono fun _ _ => trivial
theorem OwnB.mono {w : World} {base base' : Nat} {v : Value} {X : List UInt8} (h : OwnB w base v X) (hb : base' ≤ base) : OwnB w base' v X := World.ownsRow.mono (show w.ownsRow base 5 1 v X.length (bv X) from h) hb
theorem OwnB.of {w : World} {base n : Nat} {v : Value} {X : List UInt8} (h : w.ownsRow base 5 1 v n (bv X)) (hn : n = X.length) : OwnB w base v X := by
  subst hn
  exact h
theorem width1 : width 1 = 1 := by decide
set_option maxHeartbeats 1000000 in
theorem put_any (S : Nat → Prop) (v : Value) (l : List UInt8) (vi : Value) (L : List Int) (w : World) (h : Rd S w v l) (hi : Is w vi L) (hne : L ≠ []) (hl : l.length + L.length + 16 ≤ 140737488355328) :
    Calls Tryz.prog 87 #[v, vi] w fun e w' => ∃ v', e = .returned v' ∧ OwnB w' w.heap.size v' (l ++ putP L) ∧ Grew w w' := by
  have HI := Lib.hid hi
  have HL := Lib.hid hl
  have HNE := Lib.hid hne
  have HR : Hid (Rd (fun _ => True) w v (l ++ putP (L.take 0))) := Lib.hid (by
    have : l ++ putP (L.take 0) = l := by simp [putP]
    rw [this]
    exact h.mono fun _ _ => trivial)
  obtain ⟨A, c, rfl, hc1, hc2, _⟩ := hi
  clear h hl hne
  go_enter Tryz.func87, Tryz.ntmps87
  go_wp2
  go_loopg [0, 9] L.length (fun g s0 s9 wx => ∃ (k : Nat) (v0 : Value), k + g = L.length ∧ v0 = s0 ∧ s9 = .int .i64 k ∧ Hid (Rd (fun _ => True) wx s0 (l ++ putP (L.take k))) ∧ Hid (0 < k → OwnB wx w.heap.size s0 (l ++ putP (L.take k))) ∧ Hid (Grew w wx))
  case atStart => exact ⟨0, _, by omega, rfl, rfl, HR, Lib.hid (fun h => absurd h (by omega)), Lib.hid (Grew.refl _)⟩
  case round =>
    clear HR
    obtain ⟨k, v0, hkg, rfl, rfl, HV, HO, HG⟩ := hrel
    cases gk with
    | zero =>
      have hkz : ¬ ((k : Int) < (L.length : Int)) := by omega
      have HE : Hid (OwnB wr w.heap.size v0 (l ++ putP L)) := Lib.hid (by
        have hpos : 0 < k := by
          have := HNE.out
          have h2 : L.length ≠ 0 := fun e => this (List.eq_nil_of_length_eq_zero e)
          omega
        have := HO.out hpos
        rw [show k = L.length by omega, List.take_length] at this
        exact this)
      go_wp2
      go_returns
      exact ⟨_, rfl, HE.out, HG.out⟩
    | succ g =>
      have hkl : k < L.length := by omega
      have hkz : (k : Int) < (L.length : Int) := by omega
      have hx : L[k]? = some (L[k]?.getD 0) := by rw [List.getElem?_eq_getElem hkl]; rfl
      obtain ⟨ad, c9, e9, _, d0⟩ := Is.cell (HI.out.grew HG.out) hkl
      injection e9 with e1 e2 e3
      subst e1 e3
      clear e2
      have HSN := Lib.hid (putP_snoc L k _ hx)
      obtain ⟨m, hm, hpb⟩ := wrapU (L[k]?.getD 0)
      rw [hpb] at HSN
      generalize L[k]?.getD 0 = x at *
      have hll : (l ++ putP (L.take k)).length + 8 ≤ 140737488355328 := by
        rw [List.length_append, putP_len, List.length_take]
        have := HL.out
        omega
      have HNUM := Lib.hid (num_any (fun _ => True) v0 _ m 1 wr HV.out hll)
      have HKW : Hid (wrap64 ((k : Int) + 1) = ((k + 1 : Nat) : Int)) := Lib.hid (by have := HL.out; unfold wrap64; omega)
      have HM : Hid (k + 1 + g = L.length) := Lib.hid (by omega)
      clear hx hpb hll hkl hkg
      go_wp2_with fail
      refine HNUM.out.mono ?_
      rintro e w2 ⟨v', rfl, hown, hg⟩
      have HG2 := Lib.hid (HG.out.trans hg)
      have HO2 : Hid (OwnB w2 w.heap.size v' (l ++ putP (L.take (k + 1)))) := Lib.hid (by
        rw [width1] at hown
        rw [HSN.out, ← List.append_assoc]
        exact (OwnB.of hown (by simp only [List.length_append, be_length])).mono HG.out.size)
      have HV2 : Hid (Rd (fun _ => True) w2 v' (l ++ putP (L.take (k + 1)))) := Lib.hid HO2.out.rd
      clear hown hg hm
      go_wp2
      go_roundg g
      case measure => omega
      case rel => exact ⟨k + 1, _, HM.out, rfl, by first | rfl | (simp; done) | rw [HKW.out], HV2, Lib.hid (fun _ => HO2.out), HG2⟩
end Go.Proofs.YtmegdgeiikhflaaGreat.BA
namespace Go.Proofs.YtmegdgeiikhflaaGreat.BB
set_option maxRecDepth 100000
open Go Go.RowKit Go.Lib Go.Proofs.YtmegdgeiikhflaaGreat Go.Proofs.YtmegdgeiikhflaaGreat.Facts Go.Proofs.YtmegdgeiikhflaaGreat.Bytes Go.Proofs.YtmegdgeiikhflaaGreat.Plain Go.Proofs.YtmegdgeiikhflaaGreat.Ints Go.Proofs.YtmegdgeiikhflaaGreat.LBox Go.Proofs.YtmegdgeiikhflaaGreat.RRows Go.Proofs.YtmegdgeiikhflaaGreat.Puts Go.Proofs.YtmegdgeiikhflaaGreat.BA


/-- What a function that puts one thing behind bytes answers. -/
def One {T : Type} (f : FuncId) (val : T → Value) (enc : T → List UInt8) (ok : T → Prop) : Prop :=
  ∀ (W : World) (base : Nat) (v : Value) (l : List UInt8) (x : T), ok x → base ≤ W.heap.size → OwnB W base v l → l.length + 600 ≤ 140737488355328 →
    Calls Tryz.prog f #[v, val x] W fun e W' => ∃ v', e = .returned v' ∧ OwnB W' base v' (l ++ enc x) ∧ Below base W W'
theorem ints1 (W : World) (x : Int) : Is (W.alloc (.cells #[.int .i64 x] 3)) (.slice (some ⟨W.heap.size, 0, none⟩) 1 1) [x] := by
  refine ⟨some ⟨W.heap.size, 0, none⟩, 1, rfl, Nat.le_refl _, by decide, (fun h => by cases h), fun ad ha j u hu => ?_⟩
  cases ha
  rw [Addr.add_lit, Nat.zero_add, cell_of_row _ _ _ _ _ _ (heap_alloc_new W _), List.getElem?_toArray]
  exact hu
theorem ints2 (W : World) (x y : Int) : Is (W.alloc (.cells #[.int .i64 x, .int .i64 y] 3)) (.slice (some ⟨W.heap.size, 0, none⟩) 2 2) [x, y] := by
  refine ⟨some ⟨W.heap.size, 0, none⟩, 2, rfl, Nat.le_refl _, by decide, (fun h => by cases h), fun ad ha j u hu => ?_⟩
  cases ha
  rw [Addr.add_lit, Nat.zero_add, cell_of_row _ _ _ _ _ _ (heap_alloc_new W _), List.getElem?_toArray]
  exact hu
theorem putP1 (x : Int) : putP [x] = pb x := by simp [putP]
theorem putP2 (x y : Int) : putP [x, y] = pb x ++ pb y := by simp [putP]
theorem own_alloc {W : World} {base : Nat} {v : Value} {X : List UInt8} (h : OwnB W base v X) (o : Obj) : OwnB (W.alloc o) base v X := World.ownsRow.alloc (show W.ownsRow base 5 1 v X.length (bv X) from h) o
/-- A line. -/
theorem one_line : One (T := Int) 86 (Value.int .i64) pb (fun _ => True) := by
  intro W base v l x _ hb ho hl
  have g0 : Grew W (W.alloc (.cells #[.int .i64 x] 3)) := by unfold Grew; go_grown
  have HP := Lib.hid (put_any (fun _ => True) v l _ [x] (W.alloc (.cells #[.int .i64 x] 3)) (own_alloc ho _).rd (ints1 W x) (by simp) (by simp; omega))
  rw [putP1] at HP
  have G0 := Lib.hid g0
  have HB := Lib.hid hb
  clear ho hl g0 hb
  go_enter Tryz.func86, Tryz.ntmps86
  go_wp2_with fail
  refine HP.out.mono ?_
  rintro e w1 ⟨v', rfl, hown, hg⟩
  have HO := Lib.hid (hown.mono (Nat.le_trans HB.out G0.out.size))
  have HG : Hid (Below base W w1) := Lib.hid (Below.mono (G0.out.trans hg) HB.out)
  clear hown hg
  go_wp2
  go_returns
  exact ⟨_, rfl, HO.out, HG.out⟩
def encG (g : Gu) : List UInt8 := pb g.bit ++ pb g.founder
def gval (g : Gu) : Value := .agg #[.int .i64 g.bit, .int .i64 g.founder]
/-- A guild. -/
theorem one_guild : One (T := Gu) 91 gval encG (fun _ => True) := by
  intro W base v l x _ hb ho hl
  obtain ⟨a, b⟩ := x
  unfold gval encG
  simp only
  have g1 : Grew W (W.alloc (.cells #[.int .i64 a, .int .i64 b] 52)) := by unfold Grew; go_grown
  have g0 : Grew W ((W.alloc (.cells #[.int .i64 a, .int .i64 b] 52)).alloc (.cells #[.int .i64 a, .int .i64 b] 3)) := by unfold Grew; go_grown
  have HP := Lib.hid (put_any (fun _ => True) v l _ [a, b] _ (own_alloc (own_alloc ho _) _).rd (ints2 (W.alloc (.cells #[.int .i64 a, .int .i64 b] 52)) a b) (by simp) (by simp; omega))
  rw [putP2, World.size_alloc] at HP
  have G0 := Lib.hid g0
  have HB := Lib.hid hb
  clear ho hl g0 hb g1
  go_enter Tryz.func91, Tryz.ntmps91
  go_wp2_with fail
  refine HP.out.mono ?_
  rintro e w1 ⟨v', rfl, hown, hg⟩
  have HO := Lib.hid (hown.mono (Nat.le_trans HB.out G0.out.size))
  have HG : Hid (Below base W w1) := Lib.hid (Below.mono (G0.out.trans hg) HB.out)
  clear hown hg
  go_wp2
  go_returns
  exact ⟨_, rfl, HO.out, HG.out⟩

def encL (a : La) : List UInt8 := LForm.form a.lev a.set
def lval (a : La) : Value := .agg #[.int .i64 a.lev, .int .u64 (a.set.toNat : Int)]
theorem infoU8 : (Tryz.prog.info? 5).map (fun i => (i.zero, i.size, i.bytes)) = some (some (.int .u8 0), 1, 1) := by kernel_rfl
theorem app_bytes (W : World) (base : Nat) (v : Value) (X Y : List UInt8) (S : Nat → Prop) (vb : Value) (ho : OwnB W base v X) (hr : Rd S W vb Y) (hne : Y ≠ []) (hl : X.length + Y.length ≤ 140737488355328) (hb : base ≤ W.heap.size) :
    ∃ v' w', (Builtin.append_ #[41, 41] 41 #[v, vb]).run Tryz.prog W = .ok v' w' ∧ OwnB w' base v' (X ++ Y) ∧ Below base W w' := by
  obtain ⟨i0, hi, hx⟩ := Option.map_eq_some_iff.1 infoU8
  simp only [Prod.mk.injEq] at hx
  obtain ⟨hz0, hz1, hz2⟩ := hx
  obtain ⟨A, c, rfl, h1, h2, h3, h4⟩ := hr
  cases A with
  | none =>
    have := h3 rfl
    exact absurd (List.eq_nil_of_length_eq_zero (by omega)) hne
  | some ad =>
    have hown : W.ownsRow base 5 1 v X.length (bv X) := ho
    obtain ⟨v', w', hr, h5, h6, _⟩ := run_append_own (P := Tryz.prog) W base 41 41 5 i0 (.int .u8 0) 1 1 Tryz.underlying41 hi hz0 hz1 hz2 rfl Nat.one_pos v X.length (bv X) hown ad Y.length c (bv Y) (by rw [bv_length]; omega) (fun j u hu => (h4 ad rfl).2 j u hu) (bv_one Y) (by unfold maxLen; omega) (by omega) hb
    refine ⟨v', w', hr, OwnB.of (n := X.length + Y.length) (by rw [bv_append]; exact h5) (by rw [List.length_append]), ?_⟩
    exact below_of_grown W h6 hb fun k hk => by
      rcases hown.2 with ⟨rfl, _⟩ | ⟨g, cap, cur, rfl, hg, _⟩
      · simp [Value.ownBlock] at hk
      · simp [Value.ownBlock] at hk
        omega
theorem own_bgrew {W W' : World} {base : Nat} {v : Value} {X : List UInt8} (h : OwnB W base v X) (hg : Grew W W') : OwnB W' base v X := by
  have h' : W.ownsRow base 5 1 v X.length (bv X) := h
  refine ⟨h'.1, ?_⟩
  rcases h'.2 with h0 | ⟨g, cap, cur, h1, h2, h3, h4⟩
  · exact .inl h0
  · exact .inr ⟨g, cap, cur, h1, h2, keepB h3 hg, h4⟩
/-- A label. -/
theorem one_label : One (T := La) 83 lval encL (fun a => may a.lev = true) := by
  intro W base v l x hok hb ho hl
  obtain ⟨a, b⟩ := x
  unfold lval encL
  simp only at hok ⊢
  have hlen : (LForm.form a b).length = 9 := by unfold LForm.form; rw [if_pos hok]; simp [LForm.be_length]
  have hne : LForm.form a b ≠ [] := fun e => by rw [e] at hlen; cases hlen
  have g0 : Grew W (W.alloc (.cells #[.int .i64 a, .int .u64 (b.toNat : Int)] 31)) := by unfold Grew; go_grown
  have HF := Lib.hid (LForm.form_any a b (W.alloc (.cells #[.int .i64 a, .int .u64 (b.toNat : Int)] 31)))
  have G0 := Lib.hid g0
  have HB := Lib.hid hb
  have HO := Lib.hid ho
  have HL := Lib.hid hl
  have HLEN := Lib.hid hlen
  have HNE := Lib.hid hne
  clear ho hl g0 hb hlen hne hok
  go_enter Tryz.func83, Tryz.ntmps83
  go_wp2_with fail
  refine HF.out.mono ?_
  rintro e w1 ⟨v1, rfl, hr, hg⟩
  have HG1 := Lib.hid (G0.out.trans hg)
  obtain ⟨v', w2, hrun, hown, hbel⟩ := app_bytes w1 base v l _ _ v1 (own_bgrew HO.out HG1.out) hr HNE.out (by rw [HLEN.out]; have := HL.out; omega) (Nat.le_trans HB.out HG1.out.size)
  have HAPP := Lib.hid hrun
  have HO2 := Lib.hid hown
  have HG2 : Hid (Below base W w2) := Lib.hid (Below.trans (Below.mono HG1.out HB.out) hbel)
  clear hr hg hrun hown hbel
  go_wp2_with (at_builtin; refine wpList_app_want (.tmp 5) (.tmp 7) 41 (by rfl) (by rfl) _ _ rfl rfl v' w2 (by exact HAPP.out) ?_)
  go_returns
  exact ⟨_, rfl, HO2.out, HG2.out⟩
theorem flat_le {T : Type} (enc : T → List UInt8) (L : List T) (h : ∀ x ∈ L, (enc x).length ≤ 600) : (L.flatMap enc).length ≤ L.length * 600 := by
  induction L with
  | nil => simp
  | cons a r ih =>
    rw [List.flatMap_cons, List.length_append, List.length_cons, Nat.succ_mul]
    have := h a List.mem_cons_self
    have := ih fun x hx => h x (List.mem_cons_of_mem _ hx)
    omega

set_option maxHeartbeats 1000000 in
theorem putLabels (S : Nat → Prop) (v : Value) (l : List UInt8) (vX : Value) (X : List La) (w : World) (h : Rd S w v l) (hX : Ls w vX X) (hok : ∀ x ∈ X, may x.lev = true) (hb : X.length ≤ 100) (henc : ∀ x ∈ X, (encL x).length ≤ 600) (hl : l.length + 100000 ≤ 140737488355328) :
    Calls Tryz.prog 82 #[v, vX, .func (.func 83) #[] #[]] w fun e w' => ∃ v', e = .returned v' ∧ OwnB w' w.heap.size v' (l ++ (pb X.length ++ X.flatMap encL)) ∧ Grew w w' := by
  have HX := Lib.hid hX
  have HOK := Lib.hid hok
  have HENC := Lib.hid henc
  have HB := Lib.hid hb
  have HL := Lib.hid hl
  have g0 : Grew w (w.alloc (.cells #[.int .i64 X.length] 3)) := by unfold Grew; go_grown
  have HP := Lib.hid (put_any S v l _ [(X.length : Int)] (w.alloc (.cells #[.int .i64 X.length] 3)) (h.grew g0) (ints1 w _) (by simp) (by simp; omega))
  rw [putP1] at HP
  have G0 := Lib.hid g0
  obtain ⟨A, c, rfl, hc1, hc2, _⟩ := hX
  clear h hok hb henc hl g0
  go_enter Tryz.func82, Tryz.ntmps82
  go_wp2_with fail
  refine HP.out.mono ?_
  rintro e w1 ⟨v1, rfl, hown, hg⟩
  have HO1 : Hid (OwnB w1 w.heap.size v1 (l ++ pb X.length ++ (X.take 0).flatMap encL)) := Lib.hid (by
    rw [List.take_zero, List.flatMap_nil, List.append_nil]
    exact hown.mono G0.out.size)
  have HG1 := Lib.hid (G0.out.trans hg)
  clear hown hg HP G0
  go_wp2
  go_loopg [0, 16] X.length (fun g s0 s16 wx => ∃ (k : Nat) (v0 : Value), k + g = X.length ∧ v0 = s0 ∧ s16 = .int .i64 k ∧ Hid (OwnB wx w.heap.size s0 (l ++ pb X.length ++ (X.take k).flatMap encL)) ∧ Hid (Grew w wx))
  case atStart => exact ⟨0, _, by omega, rfl, rfl, HO1, HG1⟩
  case round =>
    clear HO1 HG1
    obtain ⟨k, v0, hkg, rfl, rfl, HO, HG⟩ := hrel
    cases gk with
    | zero =>
      have hkz : ¬ ((k : Int) < (X.length : Int)) := by omega
      have HE : Hid (OwnB wr w.heap.size v0 (l ++ (pb X.length ++ X.flatMap encL))) := Lib.hid (by
        have := HO.out
        rw [show k = X.length by omega, List.take_length, List.append_assoc] at this
        exact this)
      go_wp2
      go_returns
      exact ⟨_, rfl, HE.out, HG.out⟩
    | succ g =>
      have hkl : k < X.length := by omega
      have hkz : (k : Int) < (X.length : Int) := by omega
      have hx : X[k]? = some X[k] := List.getElem?_eq_getElem hkl
      obtain ⟨ad, c9, e9, _, d0, d1⟩ := Ls_at (HX.out.grew HG.out) hx
      injection e9 with e1 e2 e3
      subst e1 e3
      clear e2
      have hxok := HOK.out _ (List.getElem_mem hkl)
      have hts : (X.take (k + 1)).flatMap encL = (X.take k).flatMap encL ++ encL X[k] := by
        rw [List.take_add_one, hx, List.flatMap_append]
        simp
      have HTS := Lib.hid hts
      have hlen : (l ++ pb X.length ++ (X.take k).flatMap encL).length + 600 ≤ 140737488355328 := by
        have h1 := flat_le encL (X.take k) fun x hx => HENC.out x (List.mem_of_mem_take hx)
        rw [List.length_append, List.length_append, pb_len]
        rw [List.length_take] at h1
        have := HB.out
        have := HL.out
        omega
      have HKW : Hid (wrap64 ((k : Int) + 1) = ((k + 1 : Nat) : Int)) := Lib.hid (by have := HB.out; unfold wrap64; omega)
      have HM : Hid (k + 1 + g = X.length) := Lib.hid (by omega)
      generalize X[k] = x at *
      have ga : Grew wr (wr.alloc (.cells #[.int .i64 x.lev, .int .u64 (x.set.toNat : Int)] 31)) := by unfold Grew; go_grown
      have GA := Lib.hid (HG.out.trans ga)
      have HC := Lib.hid (one_label (wr.alloc (.cells #[.int .i64 x.lev, .int .u64 (x.set.toNat : Int)] 31)) w.heap.size v0 _ x hxok GA.out.size (own_alloc HO.out _) hlen)
      unfold lval at HC
      clear ga
      clear hx hts hlen hkl hkg hxok
      go_wp2_with fail
      refine HC.out.mono ?_
      rintro e w2 ⟨v', rfl, hown, hbel⟩
      have HO2 : Hid (OwnB w2 w.heap.size v' (l ++ pb X.length ++ (X.take (k + 1)).flatMap encL)) := Lib.hid (by rw [HTS.out, ← List.append_assoc]; exact hown)
      have HG2 : Hid (Grew w w2) := Lib.hid (Below.trans (show Below w.heap.size w _ from GA.out) hbel)
      clear hown hbel HTS
      go_wp2
      go_roundg g
      case measure => omega
      case rel => exact ⟨k + 1, _, HM.out, rfl, by first | rfl | (simp; done) | rw [HKW.out], HO2, HG2⟩

set_option maxHeartbeats 1000000 in
theorem putLines (S : Nat → Prop) (v : Value) (l : List UInt8) (vX : Value) (X : List Int) (w : World) (h : Rd S w v l) (hX : Is w vX X) (hok : ∀ x ∈ X, (fun _ : Int => True) x) (hb : X.length ≤ 100) (henc : ∀ x ∈ X, (pb x).length ≤ 600) (hl : l.length + 100000 ≤ 140737488355328) :
    Calls Tryz.prog 85 #[v, vX, .func (.func 86) #[] #[]] w fun e w' => ∃ v', e = .returned v' ∧ OwnB w' w.heap.size v' (l ++ (pb X.length ++ X.flatMap pb)) ∧ Grew w w' := by
  have HX := Lib.hid hX
  have HOK := Lib.hid hok
  have HENC := Lib.hid henc
  have HB := Lib.hid hb
  have HL := Lib.hid hl
  have g0 : Grew w (w.alloc (.cells #[.int .i64 X.length] 3)) := by unfold Grew; go_grown
  have HP := Lib.hid (put_any S v l _ [(X.length : Int)] (w.alloc (.cells #[.int .i64 X.length] 3)) (h.grew g0) (ints1 w _) (by simp) (by simp; omega))
  rw [putP1] at HP
  have G0 := Lib.hid g0
  obtain ⟨A, c, rfl, hc1, hc2, _⟩ := hX
  clear h hok hb henc hl g0
  go_enter Tryz.func85, Tryz.ntmps85
  go_wp2_with fail
  refine HP.out.mono ?_
  rintro e w1 ⟨v1, rfl, hown, hg⟩
  have HO1 : Hid (OwnB w1 w.heap.size v1 (l ++ pb X.length ++ (X.take 0).flatMap pb)) := Lib.hid (by
    rw [List.take_zero, List.flatMap_nil, List.append_nil]
    exact hown.mono G0.out.size)
  have HG1 := Lib.hid (G0.out.trans hg)
  clear hown hg HP G0
  go_wp2
  go_loopg [0, 16] X.length (fun g s0 s16 wx => ∃ (k : Nat) (v0 : Value), k + g = X.length ∧ v0 = s0 ∧ s16 = .int .i64 k ∧ Hid (OwnB wx w.heap.size s0 (l ++ pb X.length ++ (X.take k).flatMap pb)) ∧ Hid (Grew w wx))
  case atStart => exact ⟨0, _, by omega, rfl, rfl, HO1, HG1⟩
  case round =>
    clear HO1 HG1
    obtain ⟨k, v0, hkg, rfl, rfl, HO, HG⟩ := hrel
    cases gk with
    | zero =>
      have hkz : ¬ ((k : Int) < (X.length : Int)) := by omega
      have HE : Hid (OwnB wr w.heap.size v0 (l ++ (pb X.length ++ X.flatMap pb))) := Lib.hid (by
        have := HO.out
        rw [show k = X.length by omega, List.take_length, List.append_assoc] at this
        exact this)
      go_wp2
      go_returns
      exact ⟨_, rfl, HE.out, HG.out⟩
    | succ g =>
      have hkl : k < X.length := by omega
      have hkz : (k : Int) < (X.length : Int) := by omega
      have hx : X[k]? = some X[k] := List.getElem?_eq_getElem hkl
      obtain ⟨ad, c9, e9, _, d0⟩ := Is.cell (HX.out.grew HG.out) hkl
      injection e9 with e1 e2 e3
      subst e1 e3
      clear e2
      rw [show X[k]?.getD 0 = X[k] by rw [hx]; rfl] at d0
      have hxok := HOK.out _ (List.getElem_mem hkl)
      have hts : (X.take (k + 1)).flatMap pb = (X.take k).flatMap pb ++ pb X[k] := by
        rw [List.take_add_one, hx, List.flatMap_append]
        simp
      have HTS := Lib.hid hts
      have hlen : (l ++ pb X.length ++ (X.take k).flatMap pb).length + 600 ≤ 140737488355328 := by
        have h1 := flat_le pb (X.take k) fun x hx => HENC.out x (List.mem_of_mem_take hx)
        rw [List.length_append, List.length_append, pb_len]
        rw [List.length_take] at h1
        have := HB.out
        have := HL.out
        omega
      have HKW : Hid (wrap64 ((k : Int) + 1) = ((k + 1 : Nat) : Int)) := Lib.hid (by have := HB.out; unfold wrap64; omega)
      have HM : Hid (k + 1 + g = X.length) := Lib.hid (by omega)
      generalize X[k] = x at *
      have GA := HG
      have HC := Lib.hid (one_line wr w.heap.size v0 _ x trivial HG.out.size HO.out hlen)
      clear hx hts hlen hkl hkg hxok
      go_wp2_with fail
      refine HC.out.mono ?_
      rintro e w2 ⟨v', rfl, hown, hbel⟩
      have HO2 : Hid (OwnB w2 w.heap.size v' (l ++ pb X.length ++ (X.take (k + 1)).flatMap pb)) := Lib.hid (by rw [HTS.out, ← List.append_assoc]; exact hown)
      have HG2 : Hid (Grew w w2) := Lib.hid (Below.trans (show Below w.heap.size w _ from GA.out) hbel)
      clear hown hbel HTS
      go_wp2
      go_roundg g
      case measure => omega
      case rel => exact ⟨k + 1, _, HM.out, rfl, by first | rfl | (simp; done) | rw [HKW.out], HO2, HG2⟩

set_option maxHeartbeats 1000000 in
theorem putGuilds (S : Nat → Prop) (v : Value) (l : List UInt8) (vX : Value) (X : List Gu) (w : World) (h : Rd S w v l) (hX : Gs w vX X) (hok : ∀ x ∈ X, (fun _ : Gu => True) x) (hb : X.length ≤ 100) (henc : ∀ x ∈ X, (encG x).length ≤ 600) (hl : l.length + 100000 ≤ 140737488355328) :
    Calls Tryz.prog 90 #[v, vX, .func (.func 91) #[] #[]] w fun e w' => ∃ v', e = .returned v' ∧ OwnB w' w.heap.size v' (l ++ (pb X.length ++ X.flatMap encG)) ∧ Grew w w' := by
  have HX := Lib.hid hX
  have HOK := Lib.hid hok
  have HENC := Lib.hid henc
  have HB := Lib.hid hb
  have HL := Lib.hid hl
  have g0 : Grew w (w.alloc (.cells #[.int .i64 X.length] 3)) := by unfold Grew; go_grown
  have HP := Lib.hid (put_any S v l _ [(X.length : Int)] (w.alloc (.cells #[.int .i64 X.length] 3)) (h.grew g0) (ints1 w _) (by simp) (by simp; omega))
  rw [putP1] at HP
  have G0 := Lib.hid g0
  obtain ⟨A, c, rfl, hc1, hc2, _⟩ := hX
  clear h hok hb henc hl g0
  go_enter Tryz.func90, Tryz.ntmps90
  go_wp2_with fail
  refine HP.out.mono ?_
  rintro e w1 ⟨v1, rfl, hown, hg⟩
  have HO1 : Hid (OwnB w1 w.heap.size v1 (l ++ pb X.length ++ (X.take 0).flatMap encG)) := Lib.hid (by
    rw [List.take_zero, List.flatMap_nil, List.append_nil]
    exact hown.mono G0.out.size)
  have HG1 := Lib.hid (G0.out.trans hg)
  clear hown hg HP G0
  go_wp2
  go_loopg [0, 16] X.length (fun g s0 s16 wx => ∃ (k : Nat) (v0 : Value), k + g = X.length ∧ v0 = s0 ∧ s16 = .int .i64 k ∧ Hid (OwnB wx w.heap.size s0 (l ++ pb X.length ++ (X.take k).flatMap encG)) ∧ Hid (Grew w wx))
  case atStart => exact ⟨0, _, by omega, rfl, rfl, HO1, HG1⟩
  case round =>
    clear HO1 HG1
    obtain ⟨k, v0, hkg, rfl, rfl, HO, HG⟩ := hrel
    cases gk with
    | zero =>
      have hkz : ¬ ((k : Int) < (X.length : Int)) := by omega
      have HE : Hid (OwnB wr w.heap.size v0 (l ++ (pb X.length ++ X.flatMap encG))) := Lib.hid (by
        have := HO.out
        rw [show k = X.length by omega, List.take_length, List.append_assoc] at this
        exact this)
      go_wp2
      go_returns
      exact ⟨_, rfl, HE.out, HG.out⟩
    | succ g =>
      have hkl : k < X.length := by omega
      have hkz : (k : Int) < (X.length : Int) := by omega
      have hx : X[k]? = some X[k] := List.getElem?_eq_getElem hkl
      obtain ⟨ad, c9, e9, _, d0, d1⟩ := Gs_at (HX.out.grew HG.out) hx
      injection e9 with e1 e2 e3
      subst e1 e3
      clear e2
      have hxok := HOK.out _ (List.getElem_mem hkl)
      have hts : (X.take (k + 1)).flatMap encG = (X.take k).flatMap encG ++ encG X[k] := by
        rw [List.take_add_one, hx, List.flatMap_append]
        simp
      have HTS := Lib.hid hts
      have hlen : (l ++ pb X.length ++ (X.take k).flatMap encG).length + 600 ≤ 140737488355328 := by
        have h1 := flat_le encG (X.take k) fun x hx => HENC.out x (List.mem_of_mem_take hx)
        rw [List.length_append, List.length_append, pb_len]
        rw [List.length_take] at h1
        have := HB.out
        have := HL.out
        omega
      have HKW : Hid (wrap64 ((k : Int) + 1) = ((k + 1 : Nat) : Int)) := Lib.hid (by have := HB.out; unfold wrap64; omega)
      have HM : Hid (k + 1 + g = X.length) := Lib.hid (by omega)
      generalize X[k] = x at *
      have ga : Grew wr (wr.alloc (.cells #[.int .i64 x.bit, .int .i64 x.founder] 52)) := by unfold Grew; go_grown
      have GA := Lib.hid (HG.out.trans ga)
      have HC := Lib.hid (one_guild (wr.alloc (.cells #[.int .i64 x.bit, .int .i64 x.founder] 52)) w.heap.size v0 _ x hxok GA.out.size (own_alloc HO.out _) hlen)
      unfold gval at HC
      clear ga
      clear hx hts hlen hkl hkg hxok
      go_wp2_with fail
      refine HC.out.mono ?_
      rintro e w2 ⟨v', rfl, hown, hbel⟩
      have HO2 : Hid (OwnB w2 w.heap.size v' (l ++ pb X.length ++ (X.take (k + 1)).flatMap encG)) := Lib.hid (by rw [HTS.out, ← List.append_assoc]; exact hown)
      have HG2 : Hid (Grew w w2) := Lib.hid (Below.trans (show Below w.heap.size w _ from GA.out) hbel)
      clear hown hbel HTS
      go_wp2
      go_roundg g
      case measure => omega
      case rel => exact ⟨k + 1, _, HM.out, rfl, by first | rfl | (simp; done) | rw [HKW.out], HO2, HG2⟩
end Go.Proofs.YtmegdgeiikhflaaGreat.BB
namespace Go.Proofs.YtmegdgeiikhflaaGreat.BC
set_option maxRecDepth 100000
open Go Go.RowKit Go.Lib Go.Proofs.YtmegdgeiikhflaaGreat Go.Proofs.YtmegdgeiikhflaaGreat.Facts Go.Proofs.YtmegdgeiikhflaaGreat.Bytes Go.Proofs.YtmegdgeiikhflaaGreat.Plain Go.Proofs.YtmegdgeiikhflaaGreat.Ints Go.Proofs.YtmegdgeiikhflaaGreat.LBox Go.Proofs.YtmegdgeiikhflaaGreat.RRows Go.Proofs.YtmegdgeiikhflaaGreat.Puts Go.Proofs.YtmegdgeiikhflaaGreat.BA Go.Proofs.YtmegdgeiikhflaaGreat.BB


theorem four_c {W : World} {B t : Nat} {a b c d : Value} (h : W.heap[B]? = some (.cells #[a, b, c, d] t (0, 0))) : W.cell? ⟨B, 0, none⟩ = some a ∧ W.cell? ⟨B, 1, none⟩ = some b ∧ W.cell? ⟨B, 2, none⟩ = some c ∧ W.cell? ⟨B, 3, none⟩ = some d := by
  refine ⟨?_, ?_, ?_, ?_⟩
  all_goals rw [cell_of_row _ _ _ _ _ _ h]; rfl
def encA (x : Ac) : List UInt8 := tx x.name.data.toList ++ (tx x.secret.data.toList ++ (pb x.lev ++ pb (if x.mints = true then 1 else 0)))
def aval (x : Ac) : Value := .agg #[.string x.name, .string x.secret, .int .i64 x.lev, .bool x.mints]
set_option maxHeartbeats 1000000 in
/-- An account. -/
theorem one_account : One (T := Ac) 89 aval encA (fun x => x.name.size ≤ maxLen ∧ x.secret.size ≤ maxLen) := by
  intro W0 base v l x hok hb ho hl
  obtain ⟨n, s, lev, mi⟩ := x
  unfold aval encA
  simp only at hok ⊢
  have HN := Lib.hid hok.1
  have HS := Lib.hid hok.2
  have HV := Lib.hid ho.rd
  have HL := Lib.hid hl
  have HB := Lib.hid hb
  have g0 : Grew W0 (W0.alloc (.cells #[.string n, .string s, .int .i64 lev, .bool mi] 88)) := by unfold Grew; go_grown
  have G0 := Lib.hid g0
  have B0 := Lib.hid (heap_alloc_new W0 (.cells #[.string n, .string s, .int .i64 lev, .bool mi] 88))
  clear hok ho hl hb g0
  cases mi with
  | false =>
    have HE : Hid (l ++ (tx n.data.toList ++ (tx s.data.toList ++ (pb lev ++ pb (if false = true then 1 else 0)))) = l ++ tx n.data.toList ++ tx s.data.toList ++ putP [lev, 0]) := Lib.hid (by simp [putP])
    rw [HE.out]
    clear HE
    obtain ⟨X1, h1⟩ : ∃ X1, l ++ tx n.data.toList = X1 := ⟨_, rfl⟩
    rw [h1]
    obtain ⟨X2, h2⟩ : ∃ X2, X1 ++ tx s.data.toList = X2 := ⟨_, rfl⟩
    rw [h2]
    obtain ⟨X3, h3⟩ : ∃ X3, X2 ++ putP [lev, 0] = X3 := ⟨_, rfl⟩
    rw [h3]
    have H1 := Lib.hid h1
    have H2 := Lib.hid h2
    have H3 := Lib.hid h3
    clear h1 h2 h3
    obtain ⟨c0, c1, c2, c3⟩ := four_c B0.out
    go_enter Tryz.func89, Tryz.ntmps89
    go_wp2
    clear c0 c1 c2 c3
    refine Facts.wp_region_text (by kernel_rfl) (by kernel_rfl) ?_
    apply Facts.Lex.exact [] _ (by kernel_rfl)
    · intro u W hC hK
      clear hK
      unfold Facts.one
      go_simp
      first | exact ⟨Grew.refl _, rfl⟩ | rfl
    simp only [Act.put, List.setIfInBounds_toArray, List.set_cons_zero, List.set_cons_succ, Nat.zero_add]
    apply Facts.Lex.exact [] _ (by kernel_rfl)
    · intro u W hC hK
      clear hK
      unfold Facts.one
      go_simp
      first | exact ⟨Grew.refl _, rfl⟩ | rfl
    simp only [Act.put, List.setIfInBounds_toArray, List.set_cons_zero, List.set_cons_succ, Nat.reduceAdd]
    apply Facts.Lex.exact [] (.string n) (by kernel_rfl)
    · intro u W hC hK
      clear hK
      obtain ⟨c0, c1, c2, c3⟩ := four_c (keepB B0.out hC)
      unfold Facts.one
      go_simp
      first | exact ⟨Grew.refl _, rfl⟩ | rfl
    simp only [Act.put, List.setIfInBounds_toArray, List.set_cons_zero, List.set_cons_succ, Nat.reduceAdd]
    refine Facts.Lex.know [] (fun v w => Rd (fun _ => True) w v X1) (by kernel_rfl) (fun _ _ _ h hg => h.grew hg) ?_ ?_
    · intro u W hC hK
      have HC9 := Lib.hid (text_any (fun _ => True) v l n W ((HV.out.grew G0.out).grew hC) (by have := HL.out; omega) HN.out)
      clear hK
      unfold Facts.one
      go_simp
      refine HC9.out.mono ?_
      rintro e w' ⟨v', rfl, hi, hg⟩
      exact ⟨_, rfl, hg, by rw [← H1.out]; exact (OwnB.of hi (by rw [List.length_append])).rd⟩
    simp only [Act.put, List.setIfInBounds_toArray, List.set_cons_zero, List.set_cons_succ, Nat.reduceAdd]
    apply Facts.Lex.exact [] _ (by kernel_rfl)
    · intro u W hC hK
      clear hK
      unfold Facts.one
      go_simp
      first | exact ⟨Grew.refl _, rfl⟩ | rfl
    simp only [Act.put, List.setIfInBounds_toArray, List.set_cons_zero, List.set_cons_succ, Nat.reduceAdd]
    apply Facts.Lex.exact [] (.string s) (by kernel_rfl)
    · intro u W hC hK
      clear hK
      obtain ⟨c0, c1, c2, c3⟩ := four_c (keepB B0.out hC)
      unfold Facts.one
      go_simp
      first | exact ⟨Grew.refl _, rfl⟩ | rfl
    simp only [Act.put, List.setIfInBounds_toArray, List.set_cons_zero, List.set_cons_succ, Nat.reduceAdd]
    refine Facts.Lex.know [3] (fun v w => Rd (fun _ => True) w v X2) (by kernel_rfl) (fun _ _ _ h hg => h.grew hg) ?_ ?_
    · intro u W hC hK
      have hR : Rd (fun _ => True) W (u 3) X1 := hK.1
      have HC9 := Lib.hid (text_any (fun _ => True) (u 3) X1 s W hR (by rw [← H1.out, List.length_append, tx_length]; have := HL.out; omega) HS.out)
      clear hK hR
      unfold Facts.one
      go_simp
      refine HC9.out.mono ?_
      rintro e w' ⟨v', rfl, hi, hg⟩
      exact ⟨_, rfl, hg, by rw [← H2.out]; exact (OwnB.of hi (by simp only [List.length_append])).rd⟩
    simp only [Act.put, List.setIfInBounds_toArray, List.set_cons_zero, List.set_cons_succ, Nat.reduceAdd]
    apply Facts.Lex.exact [] _ (by kernel_rfl)
    · intro u W hC hK
      clear hK
      unfold Facts.one
      go_simp
      first | exact ⟨Grew.refl _, rfl⟩ | rfl
    simp only [Act.put, List.setIfInBounds_toArray, List.set_cons_zero, List.set_cons_succ, Nat.reduceAdd]
    apply Facts.Lex.exact [] (.int .i64 lev) (by kernel_rfl)
    · intro u W hC hK
      clear hK
      obtain ⟨c0, c1, c2, c3⟩ := four_c (keepB B0.out hC)
      unfold Facts.one
      go_simp
      first | exact ⟨Grew.refl _, rfl⟩ | rfl
    simp only [Act.put, List.setIfInBounds_toArray, List.set_cons_zero, List.set_cons_succ, Nat.reduceAdd]
    apply Facts.Lex.exact [] _ (by kernel_rfl)
    · intro u W hC hK
      clear hK
      unfold Facts.one
      go_simp
      first | exact ⟨Grew.refl _, rfl⟩ | rfl
    simp only [Act.put, List.setIfInBounds_toArray, List.set_cons_zero, List.set_cons_succ, Nat.reduceAdd]
    refine Facts.Lex.know [] (fun v w => Is w v [lev, 0]) (by kernel_rfl) (fun _ _ _ h hg => h.grew hg) ?_ ?_
    · intro u W hC hK
      clear hK
      have hi := ints2 W lev 0
      have HI := Lib.hid hi
      clear hi
      unfold Facts.one
      go_simp
      exact ⟨by unfold Grew; go_grown, HI.out⟩
    simp only [Act.put, List.setIfInBounds_toArray, List.set_cons_zero, List.set_cons_succ, Nat.reduceAdd]
    refine Facts.Lex.know [6, 10] (fun v w => OwnB w W0.heap.size v X3) (by kernel_rfl) (fun _ _ _ h hg => own_bgrew h hg) ?_ ?_
    · intro u W hC hK
      have hR : Rd (fun _ => True) W (u 6) X2 := hK.2.1
      have hI : Is W (u 10) [lev, 0] := hK.1
      have HC9 := Lib.hid (put_any (fun _ => True) (u 6) X2 (u 10) _ W hR hI (by simp) (by rw [← H2.out, ← H1.out, List.length_append, List.length_append, tx_length, tx_length]; have := HL.out; simp; omega))
      rw [H3.out] at HC9
      have HSZ := Lib.hid (Nat.le_trans G0.out.size hC.size)
      clear hK hR hI
      unfold Facts.one
      go_simp
      refine HC9.out.mono ?_
      rintro e w' ⟨v', rfl, hi, hg⟩
      exact ⟨_, rfl, hg, hi.mono HSZ.out⟩
    simp only [Act.put, List.setIfInBounds_toArray, List.set_cons_zero, List.set_cons_succ, Nat.reduceAdd]
    refine Facts.Lex.know [11] (fun v w => OwnB w W0.heap.size v X3) (by kernel_rfl) (fun _ _ _ h hg => own_bgrew h hg) ?_ ?_
    · intro u W hC hK
      have hR : OwnB W W0.heap.size (u 11) X3 := hK.1
      have HR := Lib.hid hR
      clear hK hR
      unfold Facts.one
      go_simp
      exact ⟨Grew.refl _, HR.out⟩
    simp only [Act.put, List.setIfInBounds_toArray, List.set_cons_zero, List.set_cons_succ, Nat.reduceAdd]
    refine Facts.Lex.done fun u W2 hC hL => ?_
    have HY : Hid (OwnB W2 W0.heap.size (u 12) X3) := Lib.hid (hL _ (List.mem_cons_self ..))
    have HG : Hid (Below base W0 W2) := Lib.hid (Below.mono (G0.out.trans hC) HB.out)
    clear hC hL
    generalize u 12 = v9 at *
    go_wp2
    go_returns
    exact ⟨_, rfl, HY.out.mono HB.out, HG.out⟩
  | true =>
    have HE : Hid (l ++ (tx n.data.toList ++ (tx s.data.toList ++ (pb lev ++ pb (if true = true then 1 else 0)))) = l ++ tx n.data.toList ++ tx s.data.toList ++ putP [lev, 1]) := Lib.hid (by simp [putP])
    rw [HE.out]
    clear HE
    obtain ⟨X1, h1⟩ : ∃ X1, l ++ tx n.data.toList = X1 := ⟨_, rfl⟩
    rw [h1]
    obtain ⟨X2, h2⟩ : ∃ X2, X1 ++ tx s.data.toList = X2 := ⟨_, rfl⟩
    rw [h2]
    obtain ⟨X3, h3⟩ : ∃ X3, X2 ++ putP [lev, 1] = X3 := ⟨_, rfl⟩
    rw [h3]
    have H1 := Lib.hid h1
    have H2 := Lib.hid h2
    have H3 := Lib.hid h3
    clear h1 h2 h3
    obtain ⟨c0, c1, c2, c3⟩ := four_c B0.out
    go_enter Tryz.func89, Tryz.ntmps89
    go_wp2
    clear c0 c1 c2 c3
    refine Facts.wp_region_text (by kernel_rfl) (by kernel_rfl) ?_
    apply Facts.Lex.exact [] _ (by kernel_rfl)
    · intro u W hC hK
      clear hK
      unfold Facts.one
      go_simp
      first | exact ⟨Grew.refl _, rfl⟩ | rfl
    simp only [Act.put, List.setIfInBounds_toArray, List.set_cons_zero, List.set_cons_succ, Nat.zero_add]
    apply Facts.Lex.exact [] _ (by kernel_rfl)
    · intro u W hC hK
      clear hK
      unfold Facts.one
      go_simp
      first | exact ⟨Grew.refl _, rfl⟩ | rfl
    simp only [Act.put, List.setIfInBounds_toArray, List.set_cons_zero, List.set_cons_succ, Nat.reduceAdd]
    apply Facts.Lex.exact [] (.string n) (by kernel_rfl)
    · intro u W hC hK
      clear hK
      obtain ⟨c0, c1, c2, c3⟩ := four_c (keepB B0.out hC)
      unfold Facts.one
      go_simp
      first | exact ⟨Grew.refl _, rfl⟩ | rfl
    simp only [Act.put, List.setIfInBounds_toArray, List.set_cons_zero, List.set_cons_succ, Nat.reduceAdd]
    refine Facts.Lex.know [] (fun v w => Rd (fun _ => True) w v X1) (by kernel_rfl) (fun _ _ _ h hg => h.grew hg) ?_ ?_
    · intro u W hC hK
      have HC9 := Lib.hid (text_any (fun _ => True) v l n W ((HV.out.grew G0.out).grew hC) (by have := HL.out; omega) HN.out)
      clear hK
      unfold Facts.one
      go_simp
      refine HC9.out.mono ?_
      rintro e w' ⟨v', rfl, hi, hg⟩
      exact ⟨_, rfl, hg, by rw [← H1.out]; exact (OwnB.of hi (by rw [List.length_append])).rd⟩
    simp only [Act.put, List.setIfInBounds_toArray, List.set_cons_zero, List.set_cons_succ, Nat.reduceAdd]
    apply Facts.Lex.exact [] _ (by kernel_rfl)
    · intro u W hC hK
      clear hK
      unfold Facts.one
      go_simp
      first | exact ⟨Grew.refl _, rfl⟩ | rfl
    simp only [Act.put, List.setIfInBounds_toArray, List.set_cons_zero, List.set_cons_succ, Nat.reduceAdd]
    apply Facts.Lex.exact [] (.string s) (by kernel_rfl)
    · intro u W hC hK
      clear hK
      obtain ⟨c0, c1, c2, c3⟩ := four_c (keepB B0.out hC)
      unfold Facts.one
      go_simp
      first | exact ⟨Grew.refl _, rfl⟩ | rfl
    simp only [Act.put, List.setIfInBounds_toArray, List.set_cons_zero, List.set_cons_succ, Nat.reduceAdd]
    refine Facts.Lex.know [3] (fun v w => Rd (fun _ => True) w v X2) (by kernel_rfl) (fun _ _ _ h hg => h.grew hg) ?_ ?_
    · intro u W hC hK
      have hR : Rd (fun _ => True) W (u 3) X1 := hK.1
      have HC9 := Lib.hid (text_any (fun _ => True) (u 3) X1 s W hR (by rw [← H1.out, List.length_append, tx_length]; have := HL.out; omega) HS.out)
      clear hK hR
      unfold Facts.one
      go_simp
      refine HC9.out.mono ?_
      rintro e w' ⟨v', rfl, hi, hg⟩
      exact ⟨_, rfl, hg, by rw [← H2.out]; exact (OwnB.of hi (by simp only [List.length_append])).rd⟩
    simp only [Act.put, List.setIfInBounds_toArray, List.set_cons_zero, List.set_cons_succ, Nat.reduceAdd]
    apply Facts.Lex.exact [] _ (by kernel_rfl)
    · intro u W hC hK
      clear hK
      unfold Facts.one
      go_simp
      first | exact ⟨Grew.refl _, rfl⟩ | rfl
    simp only [Act.put, List.setIfInBounds_toArray, List.set_cons_zero, List.set_cons_succ, Nat.reduceAdd]
    apply Facts.Lex.exact [] (.int .i64 lev) (by kernel_rfl)
    · intro u W hC hK
      clear hK
      obtain ⟨c0, c1, c2, c3⟩ := four_c (keepB B0.out hC)
      unfold Facts.one
      go_simp
      first | exact ⟨Grew.refl _, rfl⟩ | rfl
    simp only [Act.put, List.setIfInBounds_toArray, List.set_cons_zero, List.set_cons_succ, Nat.reduceAdd]
    apply Facts.Lex.exact [] _ (by kernel_rfl)
    · intro u W hC hK
      clear hK
      unfold Facts.one
      go_simp
      first | exact ⟨Grew.refl _, rfl⟩ | rfl
    simp only [Act.put, List.setIfInBounds_toArray, List.set_cons_zero, List.set_cons_succ, Nat.reduceAdd]
    refine Facts.Lex.know [] (fun v w => Is w v [lev, 1]) (by kernel_rfl) (fun _ _ _ h hg => h.grew hg) ?_ ?_
    · intro u W hC hK
      clear hK
      have hi := ints2 W lev 1
      have HI := Lib.hid hi
      clear hi
      unfold Facts.one
      go_simp
      exact ⟨by unfold Grew; go_grown, HI.out⟩
    simp only [Act.put, List.setIfInBounds_toArray, List.set_cons_zero, List.set_cons_succ, Nat.reduceAdd]
    refine Facts.Lex.know [6, 10] (fun v w => OwnB w W0.heap.size v X3) (by kernel_rfl) (fun _ _ _ h hg => own_bgrew h hg) ?_ ?_
    · intro u W hC hK
      have hR : Rd (fun _ => True) W (u 6) X2 := hK.2.1
      have hI : Is W (u 10) [lev, 1] := hK.1
      have HC9 := Lib.hid (put_any (fun _ => True) (u 6) X2 (u 10) _ W hR hI (by simp) (by rw [← H2.out, ← H1.out, List.length_append, List.length_append, tx_length, tx_length]; have := HL.out; simp; omega))
      rw [H3.out] at HC9
      have HSZ := Lib.hid (Nat.le_trans G0.out.size hC.size)
      clear hK hR hI
      unfold Facts.one
      go_simp
      refine HC9.out.mono ?_
      rintro e w' ⟨v', rfl, hi, hg⟩
      exact ⟨_, rfl, hg, hi.mono HSZ.out⟩
    simp only [Act.put, List.setIfInBounds_toArray, List.set_cons_zero, List.set_cons_succ, Nat.reduceAdd]
    refine Facts.Lex.know [11] (fun v w => OwnB w W0.heap.size v X3) (by kernel_rfl) (fun _ _ _ h hg => own_bgrew h hg) ?_ ?_
    · intro u W hC hK
      have hR : OwnB W W0.heap.size (u 11) X3 := hK.1
      have HR := Lib.hid hR
      clear hK hR
      unfold Facts.one
      go_simp
      exact ⟨Grew.refl _, HR.out⟩
    simp only [Act.put, List.setIfInBounds_toArray, List.set_cons_zero, List.set_cons_succ, Nat.reduceAdd]
    refine Facts.Lex.done fun u W2 hC hL => ?_
    have HY : Hid (OwnB W2 W0.heap.size (u 12) X3) := Lib.hid (hL _ (List.mem_cons_self ..))
    have HG : Hid (Below base W0 W2) := Lib.hid (Below.mono (G0.out.trans hC) HB.out)
    clear hC hL
    generalize u 12 = v9 at *
    go_wp2
    go_returns
    exact ⟨_, rfl, HY.out.mono HB.out, HG.out⟩

set_option maxHeartbeats 1000000 in
theorem putAccounts (S : Nat → Prop) (v : Value) (l : List UInt8) (vX : Value) (X : List Ac) (w : World) (h : Rd S w v l) (hX : As w vX X) (hok : ∀ x ∈ X, (x.name.size ≤ maxLen ∧ x.secret.size ≤ maxLen)) (hb : X.length ≤ 100) (henc : ∀ x ∈ X, (encA x).length ≤ 600) (hl : l.length + 100000 ≤ 140737488355328) :
    Calls Tryz.prog 88 #[v, vX, .func (.func 89) #[] #[]] w fun e w' => ∃ v', e = .returned v' ∧ OwnB w' w.heap.size v' (l ++ (pb X.length ++ X.flatMap encA)) ∧ Grew w w' := by
  have HX := Lib.hid hX
  have HOK := Lib.hid hok
  have HENC := Lib.hid henc
  have HB := Lib.hid hb
  have HL := Lib.hid hl
  have g0 : Grew w (w.alloc (.cells #[.int .i64 X.length] 3)) := by unfold Grew; go_grown
  have HP := Lib.hid (put_any S v l _ [(X.length : Int)] (w.alloc (.cells #[.int .i64 X.length] 3)) (h.grew g0) (ints1 w _) (by simp) (by simp; omega))
  rw [putP1] at HP
  have G0 := Lib.hid g0
  obtain ⟨A, c, rfl, hc1, hc2, _⟩ := hX
  clear h hok hb henc hl g0
  go_enter Tryz.func88, Tryz.ntmps88
  go_wp2_with fail
  refine HP.out.mono ?_
  rintro e w1 ⟨v1, rfl, hown, hg⟩
  have HO1 : Hid (OwnB w1 w.heap.size v1 (l ++ pb X.length ++ (X.take 0).flatMap encA)) := Lib.hid (by
    rw [List.take_zero, List.flatMap_nil, List.append_nil]
    exact hown.mono G0.out.size)
  have HG1 := Lib.hid (G0.out.trans hg)
  clear hown hg HP G0
  go_wp2
  go_loopg [0, 16] X.length (fun g s0 s16 wx => ∃ (k : Nat) (v0 : Value), k + g = X.length ∧ v0 = s0 ∧ s16 = .int .i64 k ∧ Hid (OwnB wx w.heap.size s0 (l ++ pb X.length ++ (X.take k).flatMap encA)) ∧ Hid (Grew w wx))
  case atStart => exact ⟨0, _, by omega, rfl, rfl, HO1, HG1⟩
  case round =>
    clear HO1 HG1
    obtain ⟨k, v0, hkg, rfl, rfl, HO, HG⟩ := hrel
    cases gk with
    | zero =>
      have hkz : ¬ ((k : Int) < (X.length : Int)) := by omega
      have HE : Hid (OwnB wr w.heap.size v0 (l ++ (pb X.length ++ X.flatMap encA))) := Lib.hid (by
        have := HO.out
        rw [show k = X.length by omega, List.take_length, List.append_assoc] at this
        exact this)
      go_wp2
      go_returns
      exact ⟨_, rfl, HE.out, HG.out⟩
    | succ g =>
      have hkl : k < X.length := by omega
      have hkz : (k : Int) < (X.length : Int) := by omega
      have hx : X[k]? = some X[k] := List.getElem?_eq_getElem hkl
      obtain ⟨ad, c9, e9, _, d0, d1, d2, d3⟩ := As_at (HX.out.grew HG.out) hx
      injection e9 with e1 e2 e3
      subst e1 e3
      clear e2
      have hxok := HOK.out _ (List.getElem_mem hkl)
      have hts : (X.take (k + 1)).flatMap encA = (X.take k).flatMap encA ++ encA X[k] := by
        rw [List.take_add_one, hx, List.flatMap_append]
        simp
      have HTS := Lib.hid hts
      have hlen : (l ++ pb X.length ++ (X.take k).flatMap encA).length + 600 ≤ 140737488355328 := by
        have h1 := flat_le encA (X.take k) fun x hx => HENC.out x (List.mem_of_mem_take hx)
        rw [List.length_append, List.length_append, pb_len]
        rw [List.length_take] at h1
        have := HB.out
        have := HL.out
        omega
      have HKW : Hid (wrap64 ((k : Int) + 1) = ((k + 1 : Nat) : Int)) := Lib.hid (by have := HB.out; unfold wrap64; omega)
      have HM : Hid (k + 1 + g = X.length) := Lib.hid (by omega)
      generalize X[k] = x at *
      have ga : Grew wr (wr.alloc (.cells #[.string x.name, .string x.secret, .int .i64 x.lev, .bool x.mints] 88)) := by unfold Grew; go_grown
      have GA := Lib.hid (HG.out.trans ga)
      have HC := Lib.hid (one_account (wr.alloc (.cells #[.string x.name, .string x.secret, .int .i64 x.lev, .bool x.mints] 88)) w.heap.size v0 _ x hxok GA.out.size (own_alloc HO.out _) hlen)
      unfold aval at HC
      clear ga
      clear hx hts hlen hkl hkg hxok
      go_wp2_with fail
      refine HC.out.mono ?_
      rintro e w2 ⟨v', rfl, hown, hbel⟩
      have HO2 : Hid (OwnB w2 w.heap.size v' (l ++ pb X.length ++ (X.take (k + 1)).flatMap encA)) := Lib.hid (by rw [HTS.out, ← List.append_assoc]; exact hown)
      have HG2 : Hid (Grew w w2) := Lib.hid (Below.trans (show Below w.heap.size w _ from GA.out) hbel)
      clear hown hbel HTS
      go_wp2
      go_roundg g
      case measure => omega
      case rel => exact ⟨k + 1, _, HM.out, rfl, by first | rfl | (simp; done) | rw [HKW.out], HO2, HG2⟩
end Go.Proofs.YtmegdgeiikhflaaGreat.BC
namespace Go.Proofs.YtmegdgeiikhflaaGreat.BD
set_option maxRecDepth 100000
open Go Go.RowKit Go.Lib Go.Proofs.YtmegdgeiikhflaaGreat Go.Proofs.YtmegdgeiikhflaaGreat.Facts Go.Proofs.YtmegdgeiikhflaaGreat.Bytes Go.Proofs.YtmegdgeiikhflaaGreat.Plain Go.Proofs.YtmegdgeiikhflaaGreat.Ints Go.Proofs.YtmegdgeiikhflaaGreat.LBox Go.Proofs.YtmegdgeiikhflaaGreat.RRows Go.Proofs.YtmegdgeiikhflaaGreat.RSmall Go.Proofs.YtmegdgeiikhflaaGreat.RRules Go.Proofs.YtmegdgeiikhflaaGreat.RRule3 Go.Proofs.YtmegdgeiikhflaaGreat.RRule5 Go.Proofs.YtmegdgeiikhflaaGreat.RCaps Go.Proofs.YtmegdgeiikhflaaGreat.RRight Go.Proofs.YtmegdgeiikhflaaGreat.Puts Go.Proofs.YtmegdgeiikhflaaGreat.BA Go.Proofs.YtmegdgeiikhflaaGreat.BB Go.Proofs.YtmegdgeiikhflaaGreat.BC


theorem six_c {W : World} {B t : Nat} {a b c d x y : Value} (h : W.heap[B]? = some (.cells #[a, b, c, d, x, y] t (0, 0))) :
    W.cell? ⟨B, 0, none⟩ = some a ∧ W.cell? ⟨B, 1, none⟩ = some b ∧ W.cell? ⟨B, 2, none⟩ = some c ∧ W.cell? ⟨B, 3, none⟩ = some d ∧ W.cell? ⟨B, 4, none⟩ = some x ∧ W.cell? ⟨B, 5, none⟩ = some y := by
  refine ⟨?_, ?_, ?_, ?_, ?_, ?_⟩
  all_goals rw [cell_of_row _ _ _ _ _ _ h]; rfl
theorem nine_c {W : World} {B t : Nat} {a b c d e f g h i : Value} (hb : W.heap[B]? = some (.cells #[a, b, c, d, e, f, g, h, i] t (0, 0))) :
    W.cell? ⟨B, 0, none⟩ = some a ∧ W.cell? ⟨B, 1, none⟩ = some b ∧ W.cell? ⟨B, 2, none⟩ = some c ∧ W.cell? ⟨B, 3, none⟩ = some d ∧ W.cell? ⟨B, 4, none⟩ = some e ∧ W.cell? ⟨B, 5, none⟩ = some f ∧ W.cell? ⟨B, 6, none⟩ = some g ∧ W.cell? ⟨B, 7, none⟩ = some h ∧ W.cell? ⟨B, 8, none⟩ = some i := by
  refine ⟨?_, ?_, ?_, ?_, ?_, ?_, ?_, ?_, ?_⟩
  all_goals rw [cell_of_row _ _ _ _ _ _ hb]; rfl
theorem ints5 (W : World) (a b c d e : Int) : Is (W.alloc (.cells #[.int .i64 a, .int .i64 b, .int .i64 c, .int .i64 d, .int .i64 e] 3)) (.slice (some ⟨W.heap.size, 0, none⟩) 5 5) [a, b, c, d, e] := by
  refine ⟨some ⟨W.heap.size, 0, none⟩, 5, rfl, Nat.le_refl _, by decide, (fun h => by cases h), fun ad ha j u hu => ?_⟩
  cases ha
  rw [Addr.add_lit, Nat.zero_add, cell_of_row _ _ _ _ _ _ (heap_alloc_new W _), List.getElem?_toArray]
  exact hu
theorem ints4 (W : World) (a b c d : Int) : Is (W.alloc (.cells #[.int .i64 a, .int .i64 b, .int .i64 c, .int .i64 d] 3)) (.slice (some ⟨W.heap.size, 0, none⟩) 4 4) [a, b, c, d] := by
  refine ⟨some ⟨W.heap.size, 0, none⟩, 4, rfl, Nat.le_refl _, by decide, (fun h => by cases h), fun ad ha j u hu => ?_⟩
  cases ha
  rw [Addr.add_lit, Nat.zero_add, cell_of_row _ _ _ _ _ _ (heap_alloc_new W _), List.getElem?_toArray]
  exact hu
theorem width8 : width 8 = 8 := by decide
def encQ (x : Qu) : List UInt8 := putP [x.rooms, x.exits, x.items, x.mails, x.trades] ++ be 8 x.cap.toNat
def bytesR (r : Re) : List UInt8 :=
  ((((pb r.labels.length ++ r.labels.flatMap encL) ++ (pb r.lines.length ++ r.lines.flatMap pb)) ++ (pb r.accounts.length ++ r.accounts.flatMap encA)) ++ (pb r.guilds.length ++ r.guilds.flatMap encG)) ++ r.quotas.flatMap encQ ++ putP [r.orders, r.audits, r.rate, r.rounds]
def bytesP (r : Re) : List UInt8 := if mayBe r = true then bytesR r else []
theorem may_bounds {r : Re} (h : mayBe r = true) : r.labels.length ≤ 8 ∧ r.lines.length ≤ 8 ∧ r.accounts.length ≤ 8 ∧ r.guilds.length ≤ 8 ∧ r.quotas.length ≤ 8 ∧ ∀ x ∈ r.labels, may x.lev = true := by
  unfold mayBe at h
  simp only [Bool.and_eq_true] at h
  obtain ⟨_, _, h5, h4, h3, h2, h1, _⟩ := h
  unfold rule5 at h5
  unfold rule4 at h4
  unfold rule3 at h3
  unfold rule2 at h2
  unfold rule1 at h1
  unfold wit at h1 h2 h3
  simp only [Bool.and_eq_true, decide_eq_true_iff, List.all_eq_true] at h1 h2 h3 h4 h5
  refine ⟨by omega, by omega, by omega, h4.1, by omega, h1.2.1⟩
theorem encL_le (x : La) : (encL x).length ≤ 600 := by
  unfold encL LForm.form
  split
  · simp [LForm.be_length]
  · simp
theorem encA_le (x : Ac) : (encA x).length ≤ 600 := by
  unfold encA
  simp only [List.length_append, tx_length, pb_len]
  omega
theorem encG_le (x : Gu) : (encG x).length ≤ 600 := by
  unfold encG
  simp only [List.length_append, pb_len]
  omega
theorem encQ_le (x : Qu) : (encQ x).length ≤ 600 := by
  unfold encQ
  simp only [List.length_append, putP_len, be_length]
  simp
end Go.Proofs.YtmegdgeiikhflaaGreat.BD

namespace Go.Proofs.YtmegdgeiikhflaaGreat.BE
set_option maxRecDepth 100000
open Go Go.RowKit Go.Lib Go.Proofs.YtmegdgeiikhflaaGreat Go.Proofs.YtmegdgeiikhflaaGreat.Facts Go.Proofs.YtmegdgeiikhflaaGreat.Bytes Go.Proofs.YtmegdgeiikhflaaGreat.Plain Go.Proofs.YtmegdgeiikhflaaGreat.Ints Go.Proofs.YtmegdgeiikhflaaGreat.LBox Go.Proofs.YtmegdgeiikhflaaGreat.RRows Go.Proofs.YtmegdgeiikhflaaGreat.RSmall Go.Proofs.YtmegdgeiikhflaaGreat.RRules Go.Proofs.YtmegdgeiikhflaaGreat.RRule3 Go.Proofs.YtmegdgeiikhflaaGreat.RRule5 Go.Proofs.YtmegdgeiikhflaaGreat.RCaps Go.Proofs.YtmegdgeiikhflaaGreat.RRight Go.Proofs.YtmegdgeiikhflaaGreat.Puts Go.Proofs.YtmegdgeiikhflaaGreat.BA Go.Proofs.YtmegdgeiikhflaaGreat.BB Go.Proofs.YtmegdgeiikhflaaGreat.BC Go.Proofs.YtmegdgeiikhflaaGreat.BD


theorem own_none (W : World) (base : Nat) : OwnB W base (.slice none 0 0) [] := World.ownsRow_nil W base 5 1

set_option maxHeartbeats 8000000 in
/-- A realm's bytes: none, where it is not right. -/
theorem bytes_any (v : Value) (r : Re) (w : World) (h : ReIs w v r) (hs : Sized r) :
    Calls Tryz.prog 29 #[v] w fun e w' => ∃ v', e = .returned v' ∧ OwnB w' w.heap.size v' (bytesP r) ∧ Grew w w' := by
  have HRI := Lib.hid (fun W hg => right_re v r W (h.grew (w' := W) hg) hs)
  obtain ⟨v0, v1, v2, v3, v4, rfl, h0, h1, h2, h3, h4⟩ := h
  have H0 := Lib.hid h0
  have H1 := Lib.hid h1
  have H2 := Lib.hid h2
  have H3 := Lib.hid h3
  have H4 := Lib.hid h4
  have HSZD : Hid (∀ x ∈ r.accounts, x.name.size ≤ maxLen ∧ x.secret.size ≤ maxLen) := Lib.hid hs
  clear h0 h1 h2 h3 h4 hs
  have G0 : Hid (Grew w (w.alloc (.cells #[v0, v1, v2, v3, v4, .int .i64 r.orders, .int .i64 r.audits, .int .i64 r.rate, .int .i64 r.rounds] 28))) := Lib.hid (by unfold Grew; go_grown)
  have R0 := Lib.hid (heap_alloc_new w (.cells #[v0, v1, v2, v3, v4, .int .i64 r.orders, .int .i64 r.audits, .int .i64 r.rate, .int .i64 r.rounds] 28))
  by_cases hm : mayBe r = true
  · have hp : bytesP r = bytesR r := by unfold bytesP; rw [if_pos hm]
    rw [hp]
    clear hp
    have HRT : Hid (mayBe r = true) := Lib.hid hm
    have HB := Lib.hid (may_bounds hm)
    clear hm
    unfold bytesR
    obtain ⟨X1, e1⟩ : ∃ X, [] ++ (pb r.labels.length ++ r.labels.flatMap encL) = X := ⟨_, rfl⟩
    have E1 := Lib.hid e1
    have S1 : Hid (X1.length ≤ 5000) := Lib.hid (by
      have := flat_le encL r.labels fun x _ => encL_le x
      have hb := HB.out
      rw [← e1, List.nil_append, List.length_append, pb_len]
      omega)
    rw [List.nil_append] at e1
    rw [e1]
    obtain ⟨X2, e2⟩ : ∃ X, X1 ++ (pb r.lines.length ++ r.lines.flatMap pb) = X := ⟨_, rfl⟩
    have E2 := Lib.hid e2
    have S2 : Hid (X2.length ≤ 10000) := Lib.hid (by
      have := flat_le pb r.lines fun x _ => (by rw [pb_len]; omega : (pb x).length ≤ 600)
      have hb := HB.out
      have := S1.out
      rw [← e2, List.length_append, List.length_append, pb_len]
      omega)
    rw [e2]
    obtain ⟨X3, e3⟩ : ∃ X, X2 ++ (pb r.accounts.length ++ r.accounts.flatMap encA) = X := ⟨_, rfl⟩
    have E3 := Lib.hid e3
    have S3 : Hid (X3.length ≤ 15000) := Lib.hid (by
      have := flat_le encA r.accounts fun x _ => encA_le x
      have hb := HB.out
      have := S2.out
      rw [← e3, List.length_append, List.length_append, pb_len]
      omega)
    rw [e3]
    obtain ⟨X4, e4⟩ : ∃ X, X3 ++ (pb r.guilds.length ++ r.guilds.flatMap encG) = X := ⟨_, rfl⟩
    have E4 := Lib.hid e4
    have S4 : Hid (X4.length ≤ 20000) := Lib.hid (by
      have := flat_le encG r.guilds fun x _ => encG_le x
      have hb := HB.out
      have := S3.out
      rw [← e4, List.length_append, List.length_append, pb_len]
      omega)
    rw [e4]
    clear e1 e2 e3 e4
    obtain ⟨c0, c1, c2, c3, c4, c5, c6, c7, c8⟩ := nine_c R0.out
    go_enter Tryz.func29, Tryz.ntmps29
    go_wp2_with fail
    refine (HRI.out _ G0.out).mono ?_
    rintro e w1 ⟨rfl, hg⟩
    have G1 := Lib.hid (G0.out.trans hg)
    have R1 := Lib.hid (keepB R0.out hg)
    clear hg HRI c0 c1 c2 c3 c4 c5 c6 c7 c8
    rw [HRT.out]
    obtain ⟨c0, c1, c2, c3, c4, c5, c6, c7, c8⟩ := nine_c (R1.out)
    go_wp2_with fail
    refine (putLabels (fun _ => True) (.slice none 0 0) [] v0 r.labels w1 (Rd.nil _ _) (H0.out.grew G1.out) (HB.out.2.2.2.2.2) (by have := HB.out; omega) (fun x _ => encL_le x) (by simp)).mono ?_
    rintro e w2 ⟨u1, rfl, hown, hg⟩
    have HO1 : Hid (OwnB w2 w.heap.size u1 X1) := Lib.hid (by rw [← E1.out]; exact OwnB.mono hown G1.out.size)
    have G2 := Lib.hid (G1.out.trans hg)
    have R2 := Lib.hid (keepB R1.out hg)
    clear hown hg c0 c1 c2 c3 c4 c5 c6 c7 c8
    obtain ⟨c0, c1, c2, c3, c4, c5, c6, c7, c8⟩ := nine_c (R2.out)
    go_wp2_with fail
    refine (putLines (fun _ => True) u1 X1 v1 r.lines w2 (HO1.out.rd) (H1.out.grew G2.out) (fun _ _ => trivial) (by have := HB.out; omega) (fun x _ => by rw [pb_len]; omega) (by have := S1.out; omega)).mono ?_
    rintro e w3 ⟨u2, rfl, hown, hg⟩
    have HO2 : Hid (OwnB w3 w.heap.size u2 X2) := Lib.hid (by rw [← E2.out]; exact OwnB.mono hown G2.out.size)
    have G3 := Lib.hid (G2.out.trans hg)
    have R3 := Lib.hid (keepB R2.out hg)
    clear hown hg c0 c1 c2 c3 c4 c5 c6 c7 c8
    obtain ⟨c0, c1, c2, c3, c4, c5, c6, c7, c8⟩ := nine_c (R3.out)
    go_wp2_with fail
    refine (putAccounts (fun _ => True) u2 X2 v2 r.accounts w3 (HO2.out.rd) (H2.out.grew G3.out) HSZD.out (by have := HB.out; omega) (fun x _ => encA_le x) (by have := S2.out; omega)).mono ?_
    rintro e w4 ⟨u3, rfl, hown, hg⟩
    have HO3 : Hid (OwnB w4 w.heap.size u3 X3) := Lib.hid (by rw [← E3.out]; exact OwnB.mono hown G3.out.size)
    have G4 := Lib.hid (G3.out.trans hg)
    have R4 := Lib.hid (keepB R3.out hg)
    clear hown hg c0 c1 c2 c3 c4 c5 c6 c7 c8
    obtain ⟨c0, c1, c2, c3, c4, c5, c6, c7, c8⟩ := nine_c (R4.out)
    go_wp2_with fail
    refine (putGuilds (fun _ => True) u3 X3 v3 r.guilds w4 (HO3.out.rd) (H3.out.grew G4.out) (fun _ _ => trivial) (by have := HB.out; omega) (fun x _ => encG_le x) (by have := S3.out; omega)).mono ?_
    rintro e w5 ⟨u4, rfl, hown, hg⟩
    have HO4 : Hid (OwnB w5 w.heap.size u4 X4) := Lib.hid (by rw [← E4.out]; exact OwnB.mono hown G4.out.size)
    have G5 := Lib.hid (G4.out.trans hg)
    have R5 := Lib.hid (keepB R4.out hg)
    clear hown hg c0 c1 c2 c3 c4 c5 c6 c7 c8
    obtain ⟨c0, c1, c2, c3, c4, c5, c6, c7, c8⟩ := nine_c R5.out
    obtain ⟨A4', cp4, rfl, _⟩ := H4.out.slice
    go_wp2
    go_loopg [3, 27] r.quotas.length (fun g s3 s27 wx => ∃ (k : Nat) (vv : Value), k + g = r.quotas.length ∧ vv = s3 ∧ s27 = .int .i64 k ∧ Hid (OwnB wx w.heap.size s3 (X4 ++ (r.quotas.take k).flatMap encQ)) ∧ Hid (wx.heap[w.heap.size]? = some (.cells #[v0, v1, v2, v3, (.slice A4' r.quotas.length cp4), .int .i64 r.orders, .int .i64 r.audits, .int .i64 r.rate, .int .i64 r.rounds] 28 (0, 0))) ∧ Hid (Grew w wx))
    case atStart => exact ⟨0, _, by omega, rfl, rfl, Lib.hid (by rw [List.take_zero, List.flatMap_nil, List.append_nil]; exact HO4.out), R5, G5⟩
    case round =>
      clear R0 G0 R1 G1 R2 G2 R3 G3 R4 G4 R5 G5 HO1 HO2 HO3 HO4 H0 H1 H2 H3 c0 c1 c2 c3 c4 c5 c6 c7 c8
      obtain ⟨k, u5, hkg, rfl, rfl, HO, HR, HG⟩ := hrel
      cases gk with
      | zero =>
        have hkz : ¬ ((k : Int) < (r.quotas.length : Int)) := by omega
        obtain ⟨c0, c1, c2, c3, c4, c5, c6, c7, c8⟩ := nine_c HR.out
        obtain ⟨Y, hY⟩ : ∃ Y, X4 ++ r.quotas.flatMap encQ = Y := ⟨_, rfl⟩
        have HE : Hid (OwnB wr w.heap.size u5 Y) := Lib.hid (by
          have := HO.out
          rw [show k = r.quotas.length by omega, List.take_length, hY] at this
          exact this)
        have hYL : Y.length ≤ 30000 := by
          have := flat_le encQ r.quotas fun x _ => encQ_le x
          have hb := HB.out
          have := S4.out
          rw [← hY, List.length_append]
          omega
        have HYE := Lib.hid hY
        have ga : Grew wr (wr.alloc (.cells #[.int .i64 r.orders, .int .i64 r.audits, .int .i64 r.rate, .int .i64 r.rounds] 3)) := by unfold Grew; go_grown
        have GA := Lib.hid (HG.out.trans ga)
        have HP := Lib.hid (put_any (fun _ => True) u5 Y _ [r.orders, r.audits, r.rate, r.rounds] _ (HE.out.rd.grew ga) (ints4 wr r.orders r.audits r.rate r.rounds) (by simp) (by simp; omega))
        clear ga hY hYL HO hkg
        go_wp2_with fail
        refine HP.out.mono ?_
        rintro e w2 ⟨v', rfl, hown, hg⟩
        have HO2 := Lib.hid (OwnB.mono hown GA.out.size)
        have HG2 := Lib.hid (GA.out.trans hg)
        clear hown hg HP
        go_wp2
        go_returns
        refine ⟨_, rfl, ?_, HG2.out⟩
        rw [HYE.out]
        exact HO2.out
      | succ g =>
        have hkl : k < r.quotas.length := by omega
        have hkz : (k : Int) < (r.quotas.length : Int) := by omega
        have hx : r.quotas[k]? = some r.quotas[k] := List.getElem?_eq_getElem hkl
        obtain ⟨ad, c9, e9, _, d0, d1, d2, d3, d4, d5⟩ := Qs_at (H4.out.grew HG.out) hx
        injection e9 with e1 e2 e3
        subst e1 e3
        clear e2
        have hts : (r.quotas.take (k + 1)).flatMap encQ = (r.quotas.take k).flatMap encQ ++ encQ r.quotas[k] := by
          rw [List.take_add_one, hx, List.flatMap_append]
          simp
        have HTS := Lib.hid hts
        have hlen : (X4 ++ (r.quotas.take k).flatMap encQ).length ≤ 30000 := by
          have h1 := flat_le encQ (r.quotas.take k) fun x _ => encQ_le x
          rw [List.length_append]
          rw [List.length_take] at h1
          have := HB.out
          have := S4.out
          omega
        have HKW : Hid (wrap64 ((k : Int) + 1) = ((k + 1 : Nat) : Int)) := Lib.hid (by have := HB.out; unfold wrap64; omega)
        have HM : Hid (k + 1 + g = r.quotas.length) := Lib.hid (by omega)
        generalize r.quotas[k] = x at *
        have ga : Grew wr (wr.alloc (.cells #[.int .i64 x.rooms, .int .i64 x.exits, .int .i64 x.items, .int .i64 x.mails, .int .i64 x.trades, .int .u64 (x.cap.toNat : Int)] 100)) := by unfold Grew; go_grown
        have GA := Lib.hid (HG.out.trans ga)
        have GC := Lib.hid ga
        have BQ := Lib.hid (heap_alloc_new wr (.cells #[.int .i64 x.rooms, .int .i64 x.exits, .int .i64 x.items, .int .i64 x.mails, .int .i64 x.trades, .int .u64 (x.cap.toNat : Int)] 100))
        have HRA := Lib.hid (keepB HR.out ga)
        have hoa := own_alloc HO.out (.cells #[.int .i64 x.rooms, .int .i64 x.exits, .int .i64 x.items, .int .i64 x.mails, .int .i64 x.trades, .int .u64 (x.cap.toNat : Int)] 100)
        obtain ⟨Y0, y0⟩ : ∃ Y, X4 ++ (r.quotas.take k).flatMap encQ = Y := ⟨_, rfl⟩
        rw [y0] at hoa hlen
        have HYL := Lib.hid hlen
        have HOA := Lib.hid hoa
        obtain ⟨Y1, y1⟩ : ∃ Y, Y0 ++ putP [x.rooms, x.exits, x.items, x.mails, x.trades] = Y := ⟨_, rfl⟩
        have HY1 := Lib.hid y1
        have hyl : Y1.length ≤ 30005 := by rw [← y1, List.length_append, putP_len]; simp; omega
        have HYM := Lib.hid hyl
        obtain ⟨Y2, y2⟩ : ∃ Y, Y1 ++ be 8 x.cap.toNat = Y := ⟨_, rfl⟩
        have HY2 := Lib.hid y2
        have y3 : X4 ++ (r.quotas.take (k + 1)).flatMap encQ = Y2 := by
          rw [hts, ← List.append_assoc, y0, encQ, ← List.append_assoc, y1, y2]
        have HY3 := Lib.hid y3
        clear ga hoa hx hts hlen hkl hkg hyl y0 y1 y2 y3 HTS HO
        go_wp2
        clear d0 d1 d2 d3 d4 d5
        refine Facts.wp_region_text (by kernel_rfl) (by kernel_rfl) ?_
        apply Facts.Lex.exact [] _ (by kernel_rfl)
        · intro u W hC hK
          clear hK
          unfold Facts.one
          go_simp
          first | exact ⟨Grew.refl _, rfl⟩ | rfl
        simp only [Act.put, List.setIfInBounds_toArray, List.set_cons_zero, List.set_cons_succ, Nat.zero_add]
        apply Facts.Lex.exact [] _ (by kernel_rfl)
        · intro u W hC hK
          clear hK
          unfold Facts.one
          go_simp
          first | exact ⟨Grew.refl _, rfl⟩ | rfl
        simp only [Act.put, List.setIfInBounds_toArray, List.set_cons_zero, List.set_cons_succ, Nat.reduceAdd]
        apply Facts.Lex.exact [] (.int .i64 x.rooms) (by kernel_rfl)
        · intro u W hC hK
          clear hK
          obtain ⟨b0, b1, b2, b3, b4, b5⟩ := six_c (keepB BQ.out hC)
          unfold Facts.one
          go_simp
          first | exact ⟨Grew.refl _, rfl⟩ | rfl
        simp only [Act.put, List.setIfInBounds_toArray, List.set_cons_zero, List.set_cons_succ, Nat.reduceAdd]
        apply Facts.Lex.exact [] _ (by kernel_rfl)
        · intro u W hC hK
          clear hK
          unfold Facts.one
          go_simp
          first | exact ⟨Grew.refl _, rfl⟩ | rfl
        simp only [Act.put, List.setIfInBounds_toArray, List.set_cons_zero, List.set_cons_succ, Nat.reduceAdd]
        apply Facts.Lex.exact [] (.int .i64 x.exits) (by kernel_rfl)
        · intro u W hC hK
          clear hK
          obtain ⟨b0, b1, b2, b3, b4, b5⟩ := six_c (keepB BQ.out hC)
          unfold Facts.one
          go_simp
          first | exact ⟨Grew.refl _, rfl⟩ | rfl
        simp only [Act.put, List.setIfInBounds_toArray, List.set_cons_zero, List.set_cons_succ, Nat.reduceAdd]
        apply Facts.Lex.exact [] _ (by kernel_rfl)
        · intro u W hC hK
          clear hK
          unfold Facts.one
          go_simp
          first | exact ⟨Grew.refl _, rfl⟩ | rfl
        simp only [Act.put, List.setIfInBounds_toArray, List.set_cons_zero, List.set_cons_succ, Nat.reduceAdd]
        apply Facts.Lex.exact [] (.int .i64 x.items) (by kernel_rfl)
        · intro u W hC hK
          clear hK
          obtain ⟨b0, b1, b2, b3, b4, b5⟩ := six_c (keepB BQ.out hC)
          unfold Facts.one
          go_simp
          first | exact ⟨Grew.refl _, rfl⟩ | rfl
        simp only [Act.put, List.setIfInBounds_toArray, List.set_cons_zero, List.set_cons_succ, Nat.reduceAdd]
        apply Facts.Lex.exact [] _ (by kernel_rfl)
        · intro u W hC hK
          clear hK
          unfold Facts.one
          go_simp
          first | exact ⟨Grew.refl _, rfl⟩ | rfl
        simp only [Act.put, List.setIfInBounds_toArray, List.set_cons_zero, List.set_cons_succ, Nat.reduceAdd]
        apply Facts.Lex.exact [] (.int .i64 x.mails) (by kernel_rfl)
        · intro u W hC hK
          clear hK
          obtain ⟨b0, b1, b2, b3, b4, b5⟩ := six_c (keepB BQ.out hC)
          unfold Facts.one
          go_simp
          first | exact ⟨Grew.refl _, rfl⟩ | rfl
        simp only [Act.put, List.setIfInBounds_toArray, List.set_cons_zero, List.set_cons_succ, Nat.reduceAdd]
        apply Facts.Lex.exact [] _ (by kernel_rfl)
        · intro u W hC hK
          clear hK
          unfold Facts.one
          go_simp
          first | exact ⟨Grew.refl _, rfl⟩ | rfl
        simp only [Act.put, List.setIfInBounds_toArray, List.set_cons_zero, List.set_cons_succ, Nat.reduceAdd]
        apply Facts.Lex.exact [] (.int .i64 x.trades) (by kernel_rfl)
        · intro u W hC hK
          clear hK
          obtain ⟨b0, b1, b2, b3, b4, b5⟩ := six_c (keepB BQ.out hC)
          unfold Facts.one
          go_simp
          first | exact ⟨Grew.refl _, rfl⟩ | rfl
        simp only [Act.put, List.setIfInBounds_toArray, List.set_cons_zero, List.set_cons_succ, Nat.reduceAdd]
        refine Facts.Lex.know [] (fun v w => Is w v [x.rooms, x.exits, x.items, x.mails, x.trades]) (by kernel_rfl) (fun _ _ _ h hg => h.grew hg) ?_ ?_
        · intro u W hC hK
          clear hK
          have hi := ints5 W x.rooms x.exits x.items x.mails x.trades
          have HI := Lib.hid hi
          clear hi
          unfold Facts.one
          go_simp
          exact ⟨by unfold Grew; go_grown, HI.out⟩
        simp only [Act.put, List.setIfInBounds_toArray, List.set_cons_zero, List.set_cons_succ, Nat.reduceAdd]
        refine Facts.Lex.know [11] (fun v w => Rd (fun _ => True) w v Y1) (by kernel_rfl) (fun _ _ _ h hg => h.grew hg) ?_ ?_
        · intro u W hC hK
          have hI : Is W (u 11) [x.rooms, x.exits, x.items, x.mails, x.trades] := hK.1
          have HC9 := Lib.hid (put_any (fun _ => True) u5 Y0 (u 11) _ W ((HOA.out.rd).grew hC) hI (by simp) (by have := HYL.out; simp; omega))
          rw [HY1.out] at HC9
          clear hK hI
          unfold Facts.one
          go_simp
          refine HC9.out.mono ?_
          rintro e w' ⟨v', rfl, hi, hg⟩
          exact ⟨_, rfl, hg, hi.rd⟩
        simp only [Act.put, List.setIfInBounds_toArray, List.set_cons_zero, List.set_cons_succ, Nat.reduceAdd]
        apply Facts.Lex.exact [] _ (by kernel_rfl)
        · intro u W hC hK
          clear hK
          unfold Facts.one
          go_simp
          first | exact ⟨Grew.refl _, rfl⟩ | rfl
        simp only [Act.put, List.setIfInBounds_toArray, List.set_cons_zero, List.set_cons_succ, Nat.reduceAdd]
        apply Facts.Lex.exact [] (.int .u64 (x.cap.toNat : Int)) (by kernel_rfl)
        · intro u W hC hK
          clear hK
          obtain ⟨b0, b1, b2, b3, b4, b5⟩ := six_c (keepB BQ.out hC)
          unfold Facts.one
          go_simp
          first | exact ⟨Grew.refl _, rfl⟩ | rfl
        simp only [Act.put, List.setIfInBounds_toArray, List.set_cons_zero, List.set_cons_succ, Nat.reduceAdd]
        refine Facts.Lex.know [12] (fun v W => OwnB W w.heap.size v Y2) (by kernel_rfl) (fun _ _ _ h hg => own_bgrew h hg) ?_ ?_
        · intro u W hC hK
          have hR : Rd (fun _ => True) W (u 12) Y1 := hK.1
          have HC9 := Lib.hid (num_any (fun _ => True) (u 12) Y1 x.cap.toNat 8 W hR (by have := HYM.out; omega))
          rw [width8, HY2.out] at HC9
          have HSZ := Lib.hid (Nat.le_trans GA.out.size hC.size)
          clear hK hR
          unfold Facts.one
          go_simp
          refine HC9.out.mono ?_
          rintro e w' ⟨v', rfl, hi, hg⟩
          exact ⟨_, rfl, hg, (OwnB.of hi (by rw [← HY2.out, List.length_append, be_length])).mono HSZ.out⟩
        simp only [Act.put, List.setIfInBounds_toArray, List.set_cons_zero, List.set_cons_succ, Nat.reduceAdd]
        refine Facts.Lex.know [15] (fun v W => OwnB W w.heap.size v Y2) (by kernel_rfl) (fun _ _ _ h hg => own_bgrew h hg) ?_ ?_
        · intro u W hC hK
          have hR : OwnB W w.heap.size (u 15) Y2 := hK.1
          have HR := Lib.hid hR
          clear hK hR
          unfold Facts.one
          go_simp
          exact ⟨Grew.refl _, HR.out⟩
        simp only [Act.put, List.setIfInBounds_toArray, List.set_cons_zero, List.set_cons_succ, Nat.reduceAdd]
        refine Facts.Lex.done fun u W2 hC hL => ?_
        have HY : Hid (OwnB W2 w.heap.size (u 16) Y2) := Lib.hid (hL _ (List.mem_cons_self ..))
        have HG2 : Hid (Grew w W2) := Lib.hid (GA.out.trans hC)
        have HR2 := Lib.hid (keepB HRA.out hC)
        clear hC hL
        generalize u 16 = v9 at *
        go_wp2
        go_roundg g
        case measure => omega
        case rel => exact ⟨k + 1, _, HM.out, rfl, by first | rfl | (simp; done) | rw [HKW.out], Lib.hid (by rw [HY3.out]; exact HY.out), HR2, HG2⟩
  · have hp : bytesP r = [] := by unfold bytesP; rw [if_neg hm]
    rw [hp]
    have HRT : Hid (mayBe r = false) := Lib.hid (by simpa using hm)
    clear hp hm
    obtain ⟨c0, c1, c2, c3, c4, c5, c6, c7, c8⟩ := nine_c R0.out
    go_enter Tryz.func29, Tryz.ntmps29
    go_wp2_with fail
    refine (HRI.out _ G0.out).mono ?_
    rintro e w1 ⟨rfl, hg⟩
    have G1 := Lib.hid (G0.out.trans hg)
    clear hg HRI c0 c1 c2 c3 c4 c5 c6 c7 c8
    rw [HRT.out]
    go_wp2
    go_returns
    exact ⟨_, rfl, own_none _ _, G1.out⟩
end Go.Proofs.YtmegdgeiikhflaaGreat.BE
namespace Go.Proofs.YtmegdgeiikhflaaGreat.CA
set_option maxRecDepth 100000
open Go Go.RowKit Go.Lib Go.Proofs.YtmegdgeiikhflaaGreat Go.Proofs.YtmegdgeiikhflaaGreat.Facts Go.Proofs.YtmegdgeiikhflaaGreat.Bytes Go.Proofs.YtmegdgeiikhflaaGreat.Plain Go.Proofs.YtmegdgeiikhflaaGreat.Ints Go.Proofs.YtmegdgeiikhflaaGreat.LBox Go.Proofs.YtmegdgeiikhflaaGreat.RRows Go.Proofs.YtmegdgeiikhflaaGreat.Puts Go.Proofs.YtmegdgeiikhflaaGreat.Scan Go.Proofs.YtmegdgeiikhflaaGreat.Take Go.Proofs.YtmegdgeiikhflaaGreat.Nums Go.Proofs.YtmegdgeiikhflaaGreat.BA Go.Proofs.YtmegdgeiikhflaaGreat.BB Go.Proofs.YtmegdgeiikhflaaGreat.BC Go.Proofs.YtmegdgeiikhflaaGreat.BD


/-- What a function that takes one thing answers. -/
def Ton {T : Type} (f : FuncId) (val : T → Value) (one : Sc → T × Sc) : Prop :=
  ∀ (w : World) (lo hi : Nat) (p : Value) (s : Sc), SC w lo hi p s → hi ≤ w.heap.size → s.l.length ≤ 140737488355328 →
    Calls Tryz.prog f #[p] w fun e w' => e = .returned (val (one s).1) ∧ SC w' lo hi p (one s).2 ∧ Chg p w w'
theorem Ton.eq {T : Type} {f : FuncId} {val : T → Value} {one : Sc → T × Sc} (h : Ton f val one) (w : World) (lo hi : Nat) (p : Value) (s : Sc) (x : T) (s1 : Sc)
    (hs : Hid (SC w lo hi p s)) (hh : Hid (hi ≤ w.heap.size)) (hl : Hid (s.l.length ≤ 140737488355328)) (ho : Hid (one s = (x, s1))) :
    Calls Tryz.prog f #[p] w fun e w' => e = .returned (val x) ∧ SC w' lo hi p s1 ∧ Chg p w w' := by
  have := h w lo hi p s hs.out hh.out hl.out
  rwa [ho.out] at this

theorem take_le (s : Sc) (n : Nat) : (s.take n).2.l.length ≤ s.l.length := by
  unfold Sc.take
  split
  · split <;> simp
  · exact Nat.le_refl _
theorem rule_le (s : Sc) (b : Bool) (x : Int) : (s.rule b x).l.length ≤ s.l.length := by
  unfold Sc.rule
  split <;> exact Nat.le_refl _
theorem num_le (s : Sc) (n : Nat) : (s.num n).2.l.length ≤ s.l.length := take_le s n
theorem text_le (s : Sc) (n : Int) : (s.text n).2.l.length ≤ s.l.length := by
  unfold Sc.text
  exact Nat.le_trans (take_le _ _) (Nat.le_trans (rule_le _ _ _) (num_le _ _))
theorem num1_lt (s : Sc) : (s.num 1).1 < 256 := by
  have h1 := take_len s 1
  have h2 := val_lt (s.take 1).1 1
  rw [List.take_of_length_le h1] at h2
  exact h2
theorem blk_lt {w : World} {lo hi : Nat} {p : Value} {s : Sc} (h : SC w lo hi p s) (b : Nat) (hb : blk p = some b) : b < hi := by
  rcases h with ⟨g, rfl, h⟩ | ⟨rfl | ⟨g, v, x, rfl, h1, h2, h3, hg⟩, rfl⟩
  · cases hb; exact h.2.1
  · cases hb
  · cases hb; exact h2
theorem keepC {w w' : World} {lo hi B : Nat} {p : Value} {s : Sc} {o : Obj} (h : SC w lo hi p s) (hB : hi ≤ B) (hr : w.heap[B]? = some o) (hc : Chg p w w') : w'.heap[B]? = some o := by
  refine (hc.block B (Array.getElem?_eq_some_iff.1 hr).1 fun e => ?_).trans hr
  have := blk_lt h B e.symm
  omega
theorem SC.set {w : World} {lo hi B i : Nat} {p x : Value} {s : Sc} (h : SC w lo hi p s) (hB : hi ≤ B) : SC (w.setCell ⟨B, i, none⟩ x) lo hi p s :=
  h.keep (by simp [World.setCell]) fun b _ hb => heap_setCell_other w ⟨B, i, none⟩ b x (by intro e; simp only at e; omega)
theorem Chg.new {p x : Value} {w W : World} {B i : Nat} (h : Chg p w W) (hB : w.heap.size ≤ B) : Chg p w (W.setCell ⟨B, i, none⟩ x) :=
  ⟨h.os, h.tape, h.output, Nat.le_trans h.size (by simp [World.setCell]), fun k hk hne => (heap_setCell_other W ⟨B, i, none⟩ k x (by intro e; simp only at e; omega)).trans (h.block k hk hne)⟩

theorem frz {W : World} {B t k : Nat} {xs : Array Value} (h : W.heap[B]? = some (.cells xs t (0, 0))) : W.frozen? ⟨B, k, none⟩ = false := by
  unfold World.frozen?
  simp [h]
def takeP (s : Sc) : Int × Sc := (((s.num 1).1 : Int), (s.num 1).2)
/-- A number of one byte. -/
theorem take_one : Ton (T := Int) 70 (Value.int .i64) takeP := by
  intro w lo hi p s h _ _
  have hlt := num1_lt s
  unfold takeP
  obtain ⟨⟨n, s1⟩, hn⟩ : ∃ q, s.num (width 1) = q := ⟨_, rfl⟩
  have e1 : s.num 1 = (n, s1) := hn
  rw [e1] at hlt ⊢
  simp only at hlt ⊢
  have H := Lib.hid h
  have HN := Lib.hid hn
  clear h hn e1
  go_enter Tryz.func70, Tryz.ntmps70
  go_wp2_with (go_at_call 138; refine (num_eq _ lo hi _ s 1 n s1 H HN).mono ?_; rintro e w1 ⟨rfl, h1, c1⟩)
  have H1 := Lib.hid h1
  have C1 := Lib.hid c1
  clear h1 c1
  go_ret
  exact ⟨rfl, H1.out, C1.out⟩

def oneG (s : Sc) : Gu × Sc := (⟨(takeP s).1, (takeP (takeP s).2).1⟩, (takeP (takeP s).2).2)
theorem two_c {W : World} {B t : Nat} {a b : Value} (h : W.heap[B]? = some (.cells #[a, b] t (0, 0))) : W.cell? ⟨B, 0, none⟩ = some a ∧ W.cell? ⟨B, 1, none⟩ = some b := by
  refine ⟨?_, ?_⟩
  all_goals rw [cell_of_row _ _ _ _ _ _ h]; rfl
theorem takeP_le (s : Sc) : (takeP s).2.l.length ≤ s.l.length := num_le s 1
/-- A guild. -/
theorem take_guild : Ton (T := Gu) 74 gval oneG := by
  intro w lo hi p s h hh hl
  obtain ⟨⟨a, s1⟩, h1⟩ : ∃ q, takeP s = q := ⟨_, rfl⟩
  obtain ⟨⟨b, s2⟩, h2⟩ : ∃ q, takeP s1 = q := ⟨_, rfl⟩
  have hT : oneG s = (⟨a, b⟩, s2) := by simp only [oneG, h1, h2]
  have hl1 := takeP_le s
  rw [h1] at hl1
  rw [hT]
  unfold gval
  have g0 : Grew w (w.alloc (.cells #[.int .i64 0, .int .i64 0] 52)) := by unfold Grew; go_grown
  have B0 := Lib.hid (heap_alloc_new w (.cells #[.int .i64 0, .int .i64 0] 52))
  have HS0 := Lib.hid (h.grew g0)
  have HH := Lib.hid hh
  have HH0 := Lib.hid (Nat.le_trans hh g0.size)
  have HL := Lib.hid hl
  have HL1 := Lib.hid (Nat.le_trans hl1 hl)
  have H1 := Lib.hid h1
  have H2 := Lib.hid h2
  have C0 := Lib.hid (Chg.of_grew (p := p) g0)
  clear h hh hl hl1 h1 h2 hT g0
  go_enter Tryz.func74, Tryz.ntmps74
  go_wp2_with fail
  refine (take_one.eq _ lo hi _ s a s1 HS0 HH0 HL H1).mono ?_
  rintro e w1 ⟨rfl, q1, c1⟩
  have HS1 := Lib.hid q1
  have C1 := Lib.hid (C0.out.trans c1)
  have HH1 := Lib.hid (Nat.le_trans HH0.out c1.size)
  have B1 := Lib.hid (keepC HS0.out HH.out B0.out c1)
  clear q1 c1
  go_wp2_with fail
  refine (take_one.eq _ lo hi _ s1 b s2 HS1 HH1 HL1 H2).mono ?_
  rintro e w2 ⟨rfl, q1, c1⟩
  have HS2 := Lib.hid q1
  have C2 := Lib.hid (C1.out.trans c1)
  have B2 := Lib.hid (keepC HS1.out HH.out B1.out c1)
  clear q1 c1
  obtain ⟨c0, c1⟩ := two_c B2.out
  have f0 := frz (k := 0) B2.out
  have f1 := frz (k := 1) B2.out
  have e0 : ∀ x, (w2.setCell ⟨w.heap.size, 0, none⟩ x).cell? ⟨w.heap.size, 0, none⟩ = some x := fun x => World.cell?_setCell_same _ _ _ c0
  have e1 : ∀ x y, ((w2.setCell ⟨w.heap.size, 0, none⟩ x).setCell ⟨w.heap.size, 1, none⟩ y).cell? ⟨w.heap.size, 1, none⟩ = some y := fun x y => World.cell?_setCell_same _ _ _ (by rw [World.cell?_setCell_other]; exact c1; simp)
  go_wp2
  refine bodyPost_ret (by simp [results, Tryz.results74, go_sem, e0, e1]; try rfl) rfl ?_
  exact ⟨by first | rfl | (simp; done), SC.set (SC.set HS2.out HH.out) HH.out, Chg.new (Chg.new C2.out (Nat.le_refl _)) (Nat.le_refl _)⟩

def oneQ (s : Sc) : Qu × Sc :=
  let a := takeP s
  let b := takeP a.2
  let c := takeP b.2
  let d := takeP c.2
  let e := takeP d.2
  let f := e.2.num 8
  (⟨a.1, b.1, c.1, d.1, e.1, BitVec.ofNat 64 f.1⟩, f.2)
def qval (q : Qu) : Value := .agg #[.int .i64 q.rooms, .int .i64 q.exits, .int .i64 q.items, .int .i64 q.mails, .int .i64 q.trades, .int .u64 (q.cap.toNat : Int)]
theorem num8_lt (s : Sc) : (s.num 8).1 < 2 ^ 64 := by
  have h1 := take_len s 8
  have h2 := val_lt (s.take 8).1 8
  rw [List.take_of_length_le h1] at h2
  exact h2
/-- A quota. -/
theorem take_quota : Ton (T := Qu) 75 qval oneQ := by
  intro w lo hi p s h hh hl
  obtain ⟨⟨a, s1⟩, h1⟩ : ∃ q, takeP s = q := ⟨_, rfl⟩
  have hl1 := takeP_le s
  rw [h1] at hl1
  obtain ⟨⟨b, s2⟩, h2⟩ : ∃ q, takeP s1 = q := ⟨_, rfl⟩
  have hl2 := takeP_le s1
  rw [h2] at hl2
  obtain ⟨⟨c, s3⟩, h3⟩ : ∃ q, takeP s2 = q := ⟨_, rfl⟩
  have hl3 := takeP_le s2
  rw [h3] at hl3
  obtain ⟨⟨d, s4⟩, h4⟩ : ∃ q, takeP s3 = q := ⟨_, rfl⟩
  have hl4 := takeP_le s3
  rw [h4] at hl4
  obtain ⟨⟨e, s5⟩, h5⟩ : ∃ q, takeP s4 = q := ⟨_, rfl⟩
  have hl5 := takeP_le s4
  rw [h5] at hl5
  have hlt := num8_lt s5
  obtain ⟨⟨f, s6⟩, h6⟩ : ∃ q, s5.num (width 8) = q := ⟨_, rfl⟩
  have h68 : s5.num 8 = (f, s6) := h6
  rw [h68] at hlt
  have hT : oneQ s = (⟨a, b, c, d, e, BitVec.ofNat 64 f⟩, s6) := by simp only [oneQ, h1, h2, h3, h4, h5, h68]
  have hcap : ((BitVec.ofNat 64 f).toNat : Int) = (f : Int) := by
    rw [BitVec.toNat_ofNat, Nat.mod_eq_of_lt hlt]
  rw [hT]
  unfold qval
  simp only [hcap]
  have g0 : Grew w (w.alloc (.cells #[.int .i64 0, .int .i64 0, .int .i64 0, .int .i64 0, .int .i64 0, .int .u64 0] 100)) := by unfold Grew; go_grown
  have B0 := Lib.hid (heap_alloc_new w (.cells #[.int .i64 0, .int .i64 0, .int .i64 0, .int .i64 0, .int .i64 0, .int .u64 0] 100))
  have HS0 := Lib.hid (h.grew g0)
  have HH := Lib.hid hh
  have HH0 := Lib.hid (Nat.le_trans hh g0.size)
  have HL := Lib.hid hl
  have k1 := Nat.le_trans hl1 hl
  have HL1 := Lib.hid k1
  have H1 := Lib.hid h1
  have k2 := Nat.le_trans hl2 k1
  have HL2 := Lib.hid k2
  have H2 := Lib.hid h2
  have k3 := Nat.le_trans hl3 k2
  have HL3 := Lib.hid k3
  have H3 := Lib.hid h3
  have k4 := Nat.le_trans hl4 k3
  have HL4 := Lib.hid k4
  have H4 := Lib.hid h4
  have k5 := Nat.le_trans hl5 k4
  have HL5 := Lib.hid k5
  have H5 := Lib.hid h5
  have H6 := Lib.hid h6
  have C0 := Lib.hid (Chg.of_grew (p := p) g0)
  clear h hh hl hl1 hl2 hl3 hl4 hl5 k1 k2 k3 k4 k5 h1 h2 h3 h4 h5 h6 h68 hT g0 hcap hlt
  go_enter Tryz.func75, Tryz.ntmps75
  go_wp2_with fail
  refine (take_one.eq _ lo hi _ s a s1 HS0 HH0 HL H1).mono ?_
  rintro e9 w1 ⟨rfl, q1, c1⟩
  have HS1 := Lib.hid q1
  have C1 := Lib.hid (C0.out.trans c1)
  have HH1 := Lib.hid (Nat.le_trans HH0.out c1.size)
  have B1 := Lib.hid (keepC HS0.out HH.out B0.out c1)
  clear q1 c1
  go_wp2_with fail
  refine (take_one.eq _ lo hi _ s1 b s2 HS1 HH1 HL1 H2).mono ?_
  rintro e9 w2 ⟨rfl, q1, c1⟩
  have HS2 := Lib.hid q1
  have C2 := Lib.hid (C1.out.trans c1)
  have HH2 := Lib.hid (Nat.le_trans HH1.out c1.size)
  have B2 := Lib.hid (keepC HS1.out HH.out B1.out c1)
  clear q1 c1
  go_wp2_with fail
  refine (take_one.eq _ lo hi _ s2 c s3 HS2 HH2 HL2 H3).mono ?_
  rintro e9 w3 ⟨rfl, q1, c1⟩
  have HS3 := Lib.hid q1
  have C3 := Lib.hid (C2.out.trans c1)
  have HH3 := Lib.hid (Nat.le_trans HH2.out c1.size)
  have B3 := Lib.hid (keepC HS2.out HH.out B2.out c1)
  clear q1 c1
  go_wp2_with fail
  refine (take_one.eq _ lo hi _ s3 d s4 HS3 HH3 HL3 H4).mono ?_
  rintro e9 w4 ⟨rfl, q1, c1⟩
  have HS4 := Lib.hid q1
  have C4 := Lib.hid (C3.out.trans c1)
  have HH4 := Lib.hid (Nat.le_trans HH3.out c1.size)
  have B4 := Lib.hid (keepC HS3.out HH.out B3.out c1)
  clear q1 c1
  go_wp2_with fail
  refine (take_one.eq _ lo hi _ s4 e s5 HS4 HH4 HL4 H5).mono ?_
  rintro e9 w5 ⟨rfl, q1, c1⟩
  have HS5 := Lib.hid q1
  have C5 := Lib.hid (C4.out.trans c1)
  have HH5 := Lib.hid (Nat.le_trans HH4.out c1.size)
  have B5 := Lib.hid (keepC HS4.out HH.out B4.out c1)
  clear q1 c1
  go_wp2_with fail
  refine (num_eq _ lo hi _ s5 8 f s6 HS5 H6).mono ?_
  rintro e9 w6 ⟨rfl, q1, c1⟩
  have HS6 := Lib.hid q1
  have C6 := Lib.hid (C5.out.trans c1)
  have B6 := Lib.hid (keepC HS5.out HH.out B5.out c1)
  clear q1 c1
  obtain ⟨c0, c1, c2, c3, c4, c5⟩ := six_c B6.out
  have f0 := frz (k := 0) B6.out
  have f1 := frz (k := 1) B6.out
  have f2 := frz (k := 2) B6.out
  have f3 := frz (k := 3) B6.out
  have f4 := frz (k := 4) B6.out
  have f5 := frz (k := 5) B6.out
  have e0 : ∀ x0, (w6.setCell ⟨w.heap.size, 0, none⟩ x0).cell? ⟨w.heap.size, 0, none⟩ = some x0 := fun x0 => World.cell?_setCell_same _ _ _ (by exact c0)
  have e1 : ∀ x0 x1, ((w6.setCell ⟨w.heap.size, 0, none⟩ x0).setCell ⟨w.heap.size, 1, none⟩ x1).cell? ⟨w.heap.size, 1, none⟩ = some x1 := fun x0 x1 => World.cell?_setCell_same _ _ _ (by (iterate 1 rw [World.cell?_setCell_other]); exact c1; all_goals simp)
  have e2 : ∀ x0 x1 x2, (((w6.setCell ⟨w.heap.size, 0, none⟩ x0).setCell ⟨w.heap.size, 1, none⟩ x1).setCell ⟨w.heap.size, 2, none⟩ x2).cell? ⟨w.heap.size, 2, none⟩ = some x2 := fun x0 x1 x2 => World.cell?_setCell_same _ _ _ (by (iterate 2 rw [World.cell?_setCell_other]); exact c2; all_goals simp)
  have e3 : ∀ x0 x1 x2 x3, ((((w6.setCell ⟨w.heap.size, 0, none⟩ x0).setCell ⟨w.heap.size, 1, none⟩ x1).setCell ⟨w.heap.size, 2, none⟩ x2).setCell ⟨w.heap.size, 3, none⟩ x3).cell? ⟨w.heap.size, 3, none⟩ = some x3 := fun x0 x1 x2 x3 => World.cell?_setCell_same _ _ _ (by (iterate 3 rw [World.cell?_setCell_other]); exact c3; all_goals simp)
  have e4 : ∀ x0 x1 x2 x3 x4, (((((w6.setCell ⟨w.heap.size, 0, none⟩ x0).setCell ⟨w.heap.size, 1, none⟩ x1).setCell ⟨w.heap.size, 2, none⟩ x2).setCell ⟨w.heap.size, 3, none⟩ x3).setCell ⟨w.heap.size, 4, none⟩ x4).cell? ⟨w.heap.size, 4, none⟩ = some x4 := fun x0 x1 x2 x3 x4 => World.cell?_setCell_same _ _ _ (by (iterate 4 rw [World.cell?_setCell_other]); exact c4; all_goals simp)
  have e5 : ∀ x0 x1 x2 x3 x4 x5, ((((((w6.setCell ⟨w.heap.size, 0, none⟩ x0).setCell ⟨w.heap.size, 1, none⟩ x1).setCell ⟨w.heap.size, 2, none⟩ x2).setCell ⟨w.heap.size, 3, none⟩ x3).setCell ⟨w.heap.size, 4, none⟩ x4).setCell ⟨w.heap.size, 5, none⟩ x5).cell? ⟨w.heap.size, 5, none⟩ = some x5 := fun x0 x1 x2 x3 x4 x5 => World.cell?_setCell_same _ _ _ (by (iterate 5 rw [World.cell?_setCell_other]); exact c5; all_goals simp)
  go_wp2
  refine bodyPost_ret (by simp [results, Tryz.results75, go_sem, e0, e1, e2, e3, e4, e5]; try rfl) rfl ?_
  exact ⟨by first | rfl | (simp; done), SC.set (SC.set (SC.set (SC.set (SC.set (SC.set (HS6.out) HH.out) HH.out) HH.out) HH.out) HH.out) HH.out, Chg.new (Chg.new (Chg.new (Chg.new (Chg.new (Chg.new (C6.out) (Nat.le_refl _)) (Nat.le_refl _)) (Nat.le_refl _)) (Nat.le_refl _)) (Nat.le_refl _)) (Nat.le_refl _)⟩
end Go.Proofs.YtmegdgeiikhflaaGreat.CA

namespace Go.Proofs.YtmegdgeiikhflaaGreat.CB
set_option maxRecDepth 100000
open Go Go.RowKit Go.Lib Go.Proofs.YtmegdgeiikhflaaGreat Go.Proofs.YtmegdgeiikhflaaGreat.Facts Go.Proofs.YtmegdgeiikhflaaGreat.Bytes Go.Proofs.YtmegdgeiikhflaaGreat.Plain Go.Proofs.YtmegdgeiikhflaaGreat.Ints Go.Proofs.YtmegdgeiikhflaaGreat.LBox Go.Proofs.YtmegdgeiikhflaaGreat.RRows Go.Proofs.YtmegdgeiikhflaaGreat.Puts Go.Proofs.YtmegdgeiikhflaaGreat.Scan Go.Proofs.YtmegdgeiikhflaaGreat.Take Go.Proofs.YtmegdgeiikhflaaGreat.Nums Go.Proofs.YtmegdgeiikhflaaGreat.BA Go.Proofs.YtmegdgeiikhflaaGreat.BB Go.Proofs.YtmegdgeiikhflaaGreat.BC Go.Proofs.YtmegdgeiikhflaaGreat.BD Go.Proofs.YtmegdgeiikhflaaGreat.CA


open Go.Proofs.YtmegdgeiikhflaaGreat.LBytes
def oneL (s : Sc) : La × Sc := (if rdE (s.take 9).1 = 0 then ⟨rdV (s.take 9).1, rdC (s.take 9).1⟩ else ⟨-1, 0#64⟩, (s.take 9).2)
theorem nine_len (s : Sc) : (s.take 9).1.length ≤ 9 := take_len s 9
/-- A label. -/
theorem take_label : Ton (T := La) 68 lval oneL := by
  intro w lo hi p s h hh hl
  unfold oneL lval
  have h0 := fun W (hg : Grew w W) => takeN_any W lo hi p s 9 (h.grew hg) (by omega) hl
  have m9 : (max (9 : Int) 0).toNat = 9 := by decide
  simp only [m9] at h0
  clear m9
  obtain ⟨⟨t, s1⟩, ht⟩ : ∃ q, s.take 9 = q := ⟨_, rfl⟩
  rw [ht] at h0 ⊢
  simp only at h0 ⊢
  have HT := Lib.hid h0
  have g0 : Grew w (w.alloc (.cells #[.int .i64 0, .int .u64 0] 31)) := by unfold Grew; go_grown
  have G0 := Lib.hid g0
  have B0 := Lib.hid (heap_alloc_new w (.cells #[.int .i64 0, .int .u64 0] 31))
  have HS0 := Lib.hid (h.grew g0)
  have HH := Lib.hid hh
  have C0 := Lib.hid (Chg.of_grew (p := p) g0)
  clear h hh hl h0 ht g0
  rcases rdE_cases t with ⟨he, _⟩ | ⟨he, _⟩
  · rw [if_pos he]
    have HE := Lib.hid he
    clear he
    go_enter Tryz.func68, Tryz.ntmps68
    go_wp2_with fail
    refine (HT.out _ G0.out).mono ?_
    rintro e9 w1 ⟨v, rfl, hr, q1, c1⟩
    have HR := Lib.hid (hr.mono (S' := fun _ => True) fun _ _ => trivial)
    have HS1 := Lib.hid q1
    have C1 := Lib.hid (C0.out.trans c1)
    have B1 := Lib.hid (keepC HS0.out HH.out B0.out c1)
    clear q1 c1 hr
    go_wp2_with fail
    refine (LBytes.read_any v t w1 HR.out).mono ?_
    rintro e9 w2 ⟨rfl, g2⟩
    have g3 : Grew w2 (w2.alloc (.cells #[.int .i64 (rdV t), .int .u64 ((rdC t).toNat : Int)] 31)) := by unfold Grew; go_grown
    have HS2 := Lib.hid (HS1.out.grew (g2.trans g3))
    have C2 := Lib.hid (C1.out.trans (Chg.of_grew (p := p) (g2.trans g3)))
    have B2 := Lib.hid (keepB B1.out (g2.trans g3))
    have D2 := Lib.hid (heap_alloc_new w2 (.cells #[.int .i64 (rdV t), .int .u64 ((rdC t).toNat : Int)] 31))
    clear g2 g3
    obtain ⟨c0, c1⟩ := two_c B2.out
    obtain ⟨d0, d1⟩ := two_c D2.out
    have f0 := frz (k := 0) B2.out
    have f1 := frz (k := 1) B2.out
    have e0 : ∀ x0, ((w2.alloc (.cells #[.int .i64 (rdV t), .int .u64 ((rdC t).toNat : Int)] 31)).setCell ⟨w.heap.size, 0, none⟩ x0).cell? ⟨w.heap.size, 0, none⟩ = some x0 := fun x0 => World.cell?_setCell_same _ _ _ (by exact c0)
    have e1 : ∀ x0 x1, (((w2.alloc (.cells #[.int .i64 (rdV t), .int .u64 ((rdC t).toNat : Int)] 31)).setCell ⟨w.heap.size, 0, none⟩ x0).setCell ⟨w.heap.size, 1, none⟩ x1).cell? ⟨w.heap.size, 1, none⟩ = some x1 := fun x0 x1 => World.cell?_setCell_same _ _ _ (by (iterate 1 rw [World.cell?_setCell_other]); exact c1; all_goals simp)
    rw [HE.out]
    go_wp2
    refine bodyPost_ret (by simp [results, Tryz.results68, go_sem, e0, e1]; try rfl) rfl ?_
    exact ⟨by first | rfl | (simp; done), SC.set (SC.set HS2.out HH.out) HH.out, Chg.new (Chg.new C2.out (Nat.le_refl _)) (Nat.le_refl _)⟩
  · have hne : ¬ rdE t = 0 := by simpa using he
    rw [if_neg hne]
    have HE := Lib.hid he
    have HN := Lib.hid hne
    clear he hne
    go_enter Tryz.func68, Tryz.ntmps68
    go_wp2_with fail
    refine (HT.out _ G0.out).mono ?_
    rintro e9 w1 ⟨v, rfl, hr, q1, c1⟩
    have HR := Lib.hid (hr.mono (S' := fun _ => True) fun _ _ => trivial)
    have HS1 := Lib.hid q1
    have C1 := Lib.hid (C0.out.trans c1)
    have B1 := Lib.hid (keepC HS0.out HH.out B0.out c1)
    clear q1 c1 hr
    go_wp2_with fail
    refine (LBytes.read_any v t w1 HR.out).mono ?_
    rintro e9 w2 ⟨rfl, g2⟩
    have g3 : Grew w2 (w2.alloc (.cells #[.int .i64 (rdV t), .int .u64 ((rdC t).toNat : Int)] 31)) := by unfold Grew; go_grown
    have HS2 := Lib.hid (HS1.out.grew (g2.trans g3))
    have C2 := Lib.hid (C1.out.trans (Chg.of_grew (p := p) (g2.trans g3)))
    have B2 := Lib.hid (keepB B1.out (g2.trans g3))
    have D2 := Lib.hid (heap_alloc_new w2 (.cells #[.int .i64 (rdV t), .int .u64 ((rdC t).toNat : Int)] 31))
    clear g2 g3
    obtain ⟨c0, c1⟩ := two_c B2.out
    obtain ⟨d0, d1⟩ := two_c D2.out
    have f0 := frz (k := 0) B2.out
    have f1 := frz (k := 1) B2.out
    have e0 : ∀ x0, ((w2.alloc (.cells #[.int .i64 (rdV t), .int .u64 ((rdC t).toNat : Int)] 31)).setCell ⟨w.heap.size, 0, none⟩ x0).cell? ⟨w.heap.size, 0, none⟩ = some x0 := fun x0 => World.cell?_setCell_same _ _ _ (by exact c0)
    have e1 : ∀ x0 x1, (((w2.alloc (.cells #[.int .i64 (rdV t), .int .u64 ((rdC t).toNat : Int)] 31)).setCell ⟨w.heap.size, 0, none⟩ x0).setCell ⟨w.heap.size, 1, none⟩ x1).cell? ⟨w.heap.size, 1, none⟩ = some x1 := fun x0 x1 => World.cell?_setCell_same _ _ _ (by (iterate 1 rw [World.cell?_setCell_other]); exact c1; all_goals simp)
    generalize rdE t = x at *
    have he := HE.out
    have hn := HN.out
    go_wp2
    refine bodyPost_ret (by simp [results, Tryz.results68, go_sem, e0, e1]; try rfl) rfl ?_
    exact ⟨by first | rfl | (simp; done), SC.set (SC.set HS2.out HH.out) HH.out, Chg.new (Chg.new C2.out (Nat.le_refl _)) (Nat.le_refl _)⟩

theorem text_eq (w : World) (lo hi : Nat) (p : Value) (s : Sc) (most : Int) (t : List UInt8) (s1 : Sc) (h : Hid (SC w lo hi p s)) (hs : Hid (s.text most = (t, s1))) :
    Calls Tryz.prog 139 #[p, .int .i64 most] w fun e w' => e = .returned (.string ⟨t.toArray⟩) ∧ SC w' lo hi p s1 ∧ Chg p w w' := by
  have := text_any w lo hi p s most h.out
  rwa [hs.out] at this
def oneA (s : Sc) : Ac × Sc :=
  let a := s.text 12
  let b := a.2.text 12
  let c := takeP b.2
  let m := takeP c.2
  (⟨⟨a.1.toArray⟩, ⟨b.1.toArray⟩, c.1, decide (m.1 = 1)⟩, m.2.rule (decide (m.1 ≤ 1)) 2)
/-- An account. -/
theorem take_account : Ton (T := Ac) 72 aval oneA := by
  intro w lo hi p s h hh hl
  obtain ⟨⟨x1, s1⟩, h1⟩ : ∃ q, s.text 12 = q := ⟨_, rfl⟩
  have hl1 := text_le s 12
  rw [h1] at hl1
  obtain ⟨⟨x2, s2⟩, h2⟩ : ∃ q, s1.text 12 = q := ⟨_, rfl⟩
  have hl2 := text_le s1 12
  rw [h2] at hl2
  obtain ⟨⟨x3, s3⟩, h3⟩ : ∃ q, takeP s2 = q := ⟨_, rfl⟩
  have hl3 := takeP_le s2
  rw [h3] at hl3
  obtain ⟨⟨x4, s4⟩, h4⟩ : ∃ q, takeP s3 = q := ⟨_, rfl⟩
  obtain ⟨s5, h5⟩ : ∃ q, s4.rule (decide (x4 ≤ 1)) 2 = q := ⟨_, rfl⟩
  have hT : oneA s = (⟨⟨x1.toArray⟩, ⟨x2.toArray⟩, x3, decide (x4 = 1)⟩, s5) := by simp only [oneA, h1, h2, h3, h4, h5]
  rw [hT]
  unfold aval
  have g0 : Grew w (w.alloc (.cells #[.string ⟨#[]⟩, .string ⟨#[]⟩, .int .i64 0, .bool false] 88)) := by unfold Grew; go_grown
  have B0 := Lib.hid (heap_alloc_new w (.cells #[.string ⟨#[]⟩, .string ⟨#[]⟩, .int .i64 0, .bool false] 88))
  have HS0 := Lib.hid (h.grew g0)
  have HH := Lib.hid hh
  have HH0 := Lib.hid (Nat.le_trans hh g0.size)
  have k1 := Nat.le_trans hl1 hl
  have k2 := Nat.le_trans hl2 k1
  have k3 := Nat.le_trans hl3 k2
  have HL2 := Lib.hid k2
  have HL3 := Lib.hid k3
  have H1 := Lib.hid h1
  have H2 := Lib.hid h2
  have H3 := Lib.hid h3
  have H4 := Lib.hid h4
  have H5 := Lib.hid h5
  have C0 := Lib.hid (Chg.of_grew (p := p) g0)
  clear h hh hl hl1 hl2 hl3 k1 k2 k3 h1 h2 h3 h4 h5 hT g0
  go_enter Tryz.func72, Tryz.ntmps72
  go_wp2_with fail
  refine (text_eq _ lo hi _ s 12 x1 s1 HS0 H1).mono ?_
  rintro e9 w1 ⟨rfl, q1, c1⟩
  have HS1 := Lib.hid q1
  have C1 := Lib.hid (C0.out.trans c1)
  have HH1 := Lib.hid (Nat.le_trans HH0.out c1.size)
  have B1 := Lib.hid (keepC HS0.out HH.out B0.out c1)
  clear q1 c1
  go_wp2_with fail
  refine (text_eq _ lo hi _ s1 12 x2 s2 HS1 H2).mono ?_
  rintro e9 w2 ⟨rfl, q1, c1⟩
  have HS2 := Lib.hid q1
  have C2 := Lib.hid (C1.out.trans c1)
  have HH2 := Lib.hid (Nat.le_trans HH1.out c1.size)
  have B2 := Lib.hid (keepC HS1.out HH.out B1.out c1)
  clear q1 c1
  go_wp2_with fail
  refine (take_one.eq _ lo hi _ s2 x3 s3 HS2 HH2 HL2 H3).mono ?_
  rintro e9 w3 ⟨rfl, q1, c1⟩
  have HS3 := Lib.hid q1
  have C3 := Lib.hid (C2.out.trans c1)
  have HH3 := Lib.hid (Nat.le_trans HH2.out c1.size)
  have B3 := Lib.hid (keepC HS2.out HH.out B2.out c1)
  clear q1 c1
  have g3 : Grew w3 (w3.alloc (.cells #[.string ⟨x1.toArray⟩, .string ⟨x2.toArray⟩, .int .i64 x3, .bool false] 88)) := by unfold Grew; go_grown
  have HS30 := Lib.hid (HS3.out.grew g3)
  have C30 := Lib.hid (C3.out.trans (Chg.of_grew (p := p) g3))
  have HH30 := Lib.hid (Nat.le_trans HH3.out g3.size)
  have B30 := Lib.hid (keepB B3.out g3)
  have D30 := Lib.hid (heap_alloc_new w3 (.cells #[.string ⟨x1.toArray⟩, .string ⟨x2.toArray⟩, .int .i64 x3, .bool false] 88))
  have HHD := Lib.hid HH3.out
  have HWD := Lib.hid C3.out.size
  have hne : ¬ w.heap.size = w3.heap.size := by
    have := (Array.getElem?_eq_some_iff.1 B3.out).1
    omega
  have HNE := Lib.hid hne
  clear g3 hne
  go_wp2_with fail
  refine (take_one.eq _ lo hi _ s3 x4 s4 HS30 HH30 HL3 H4).mono ?_
  rintro e9 w4 ⟨rfl, q1, c1⟩
  have HS4 := Lib.hid q1
  have C4 := Lib.hid (C30.out.trans c1)
  have HH4 := Lib.hid (Nat.le_trans HH30.out c1.size)
  have B4 := Lib.hid (keepC HS30.out HH.out B30.out c1)
  have D4 := Lib.hid (keepC HS30.out HHD.out D30.out c1)
  clear q1 c1
  go_wp2_with fail
  refine (rule_eq _ lo hi _ s4 s5 _ _ HS4 H5).mono ?_
  rintro e9 w5 ⟨rfl, q1, c1⟩
  have HS5 := Lib.hid q1
  have C5 := Lib.hid (C4.out.trans c1)
  have HH5 := Lib.hid (Nat.le_trans HH4.out c1.size)
  have B5 := Lib.hid (keepC HS4.out HH.out B4.out c1)
  have D5 := Lib.hid (keepC HS4.out HHD.out D4.out c1)
  clear q1 c1
  obtain ⟨c0, c1, c2, c3⟩ := four_c B5.out
  obtain ⟨d0, d1, d2, d3⟩ := four_c D5.out
  have f0 := frz (k := 0) B5.out
  have f1 := frz (k := 1) B5.out
  have f2 := frz (k := 2) B5.out
  have f3 := frz (k := 3) B5.out
  have fd := frz (k := 3) D5.out
  have hne := HNE.out
  have hne' : ¬ w3.heap.size = w.heap.size := fun e => hne e.symm
  have e0 : ∀ y x0, ((w5.setCell ⟨w3.heap.size, 3, none⟩ y).setCell ⟨w.heap.size, 0, none⟩ x0).cell? ⟨w.heap.size, 0, none⟩ = some x0 := fun y x0 => World.cell?_setCell_same _ _ _ (by (iterate 1 rw [World.cell?_setCell_other]); exact c0; all_goals simp)
  have e1 : ∀ y x0 x1, (((w5.setCell ⟨w3.heap.size, 3, none⟩ y).setCell ⟨w.heap.size, 0, none⟩ x0).setCell ⟨w.heap.size, 1, none⟩ x1).cell? ⟨w.heap.size, 1, none⟩ = some x1 := fun y x0 x1 => World.cell?_setCell_same _ _ _ (by (iterate 2 rw [World.cell?_setCell_other]); exact c1; all_goals simp)
  have e2 : ∀ y x0 x1 x2, ((((w5.setCell ⟨w3.heap.size, 3, none⟩ y).setCell ⟨w.heap.size, 0, none⟩ x0).setCell ⟨w.heap.size, 1, none⟩ x1).setCell ⟨w.heap.size, 2, none⟩ x2).cell? ⟨w.heap.size, 2, none⟩ = some x2 := fun y x0 x1 x2 => World.cell?_setCell_same _ _ _ (by (iterate 3 rw [World.cell?_setCell_other]); exact c2; all_goals simp)
  have e3 : ∀ y x0 x1 x2 x3, (((((w5.setCell ⟨w3.heap.size, 3, none⟩ y).setCell ⟨w.heap.size, 0, none⟩ x0).setCell ⟨w.heap.size, 1, none⟩ x1).setCell ⟨w.heap.size, 2, none⟩ x2).setCell ⟨w.heap.size, 3, none⟩ x3).cell? ⟨w.heap.size, 3, none⟩ = some x3 := fun y x0 x1 x2 x3 => World.cell?_setCell_same _ _ _ (by (iterate 4 rw [World.cell?_setCell_other]); exact c3; all_goals simp)
  go_wp2
  refine bodyPost_ret (by simp [results, Tryz.results72, go_sem, e0, e1, e2, e3]; try rfl) rfl ?_
  exact ⟨by first | rfl | (simp; done), SC.set (SC.set (SC.set (SC.set (SC.set HS5.out HHD.out) HH.out) HH.out) HH.out) HH.out, Chg.new (Chg.new (Chg.new (Chg.new (Chg.new C5.out HWD.out) (Nat.le_refl _)) (Nat.le_refl _)) (Nat.le_refl _)) (Nat.le_refl _)⟩
end Go.Proofs.YtmegdgeiikhflaaGreat.CB
namespace Go.Proofs.YtmegdgeiikhflaaGreat.CC
set_option maxRecDepth 100000
open Go Go.RowKit Go.Lib Go.Proofs.YtmegdgeiikhflaaGreat Go.Proofs.YtmegdgeiikhflaaGreat.Facts Go.Proofs.YtmegdgeiikhflaaGreat.Bytes Go.Proofs.YtmegdgeiikhflaaGreat.Plain Go.Proofs.YtmegdgeiikhflaaGreat.Ints Go.Proofs.YtmegdgeiikhflaaGreat.LBox Go.Proofs.YtmegdgeiikhflaaGreat.RRows Go.Proofs.YtmegdgeiikhflaaGreat.Puts Go.Proofs.YtmegdgeiikhflaaGreat.Scan Go.Proofs.YtmegdgeiikhflaaGreat.Take Go.Proofs.YtmegdgeiikhflaaGreat.Nums Go.Proofs.YtmegdgeiikhflaaGreat.BA Go.Proofs.YtmegdgeiikhflaaGreat.BB Go.Proofs.YtmegdgeiikhflaaGreat.BC Go.Proofs.YtmegdgeiikhflaaGreat.BD Go.Proofs.YtmegdgeiikhflaaGreat.CA Go.Proofs.YtmegdgeiikhflaaGreat.CB


def goA {T : Type} (one : Sc → T × Sc) : Nat → List T → Sc → List T × Sc
  | 0, acc, s => (acc, s)
  | f + 1, acc, s => if s.e = 0 then goA one f (acc ++ [(one s).1]) (one s).2 else (acc, s)
def allP {T : Type} (one : Sc → T × Sc) (s : Sc) : List T × Sc := goA one (s.num 1).1 [] ((s.num 1).2.rule (decide (((s.num 1).1 : Int) ≤ 8)) 2)
/-- What a function that takes all of a kind answers. -/
def Tall {T : Type} (f g : FuncId) (own : World → Nat → Value → List T → Prop) (one : Sc → T × Sc) : Prop :=
  ∀ (w : World) (lo hi : Nat) (p : Value) (s : Sc), SC w lo hi p s → hi ≤ w.heap.size → s.l.length ≤ 140737488355328 →
    Calls Tryz.prog f #[p, .int .i64 8, .func (.func g) #[] #[]] w fun e w' => ∃ v, e = .returned v ∧ own w' w.heap.size v (allP one s).1 ∧ SC w' lo hi p (allP one s).2 ∧ Chg p w w'
theorem Chg.below {p : Value} {w W W' : World} (h : Chg p w W) (hb : Below w.heap.size W W') : Chg p w W' :=
  ⟨hb.os.trans h.os, hb.tape.trans h.tape, hb.output.trans h.output, Nat.le_trans h.size hb.size, fun k hk hne => (hb.block k hk).trans (h.block k hk hne)⟩
theorem SC.below {w W : World} {lo hi base : Nat} {p : Value} {s : Sc} (h : SC w lo hi p s) (hb : Below base w W) (hh : hi ≤ base) : SC W lo hi p s :=
  h.keep hb.size fun b _ hlt => hb.block b (by omega)
theorem own_chg {w w' : World} {base t n c : Nat} {p v : Value} {xs : List Value} (h : w.ownsRow base t n v c xs) (hc : Chg p w w') (hp : ∀ b, blk p = some b → b < base) : w'.ownsRow base t n v c xs := by
  refine ⟨h.1, h.2.imp id fun ⟨g, cap, cur, h1, h2, h3, h4⟩ => ⟨g, cap, cur, h1, h2, ?_, h4⟩⟩
  exact (hc.block g (Array.getElem?_eq_some_iff.1 h3).1 (fun e => by have := hp g e.symm; omega)).trans h3
theorem below_rows {w w' : World} {base t n c : Nat} {v : Value} {xs : List Value} (hown : w.ownsRow base t n v c xs) (h6 : w.grownBy w' v.ownBlock) (hb : base ≤ w.heap.size) : Below base w w' :=
  ⟨h6.os, h6.tape, h6.output, h6.size, fun k hk => h6.block k (by omega) (fun e => by
    rcases hown.2 with ⟨rfl, _⟩ | ⟨g, cap, cur, rfl, hg, _⟩
    · simp [Value.ownBlock] at e
    · simp [Value.ownBlock] at e
      omega)⟩
theorem row_at {W : World} {t : Nat} {xs : List Value} {ys : Array Value} (hxs : ys.toList = xs) : ∀ j u, xs[j]? = some u → (W.alloc (.cells ys t)).cell? ((⟨W.heap.size, 0, none⟩ : Addr).add j) = some u := by
  intro j u hu
  rw [Addr.add_lit, Nat.zero_add, cell_of_row _ _ _ _ _ _ (heap_alloc_new W _), ← Array.getElem?_toList, hxs]
  exact hu

theorem oneL_le (s : Sc) : (oneL s).2.l.length ≤ s.l.length := take_le s 9
theorem oneG_le (s : Sc) : (oneG s).2.l.length ≤ s.l.length := Nat.le_trans (takeP_le _) (takeP_le _)
theorem oneA_le (s : Sc) : (oneA s).2.l.length ≤ s.l.length :=
  Nat.le_trans (rule_le _ _ _) (Nat.le_trans (takeP_le _) (Nat.le_trans (takeP_le _) (Nat.le_trans (text_le _ _) (text_le _ _))))

theorem info31 : (Tryz.prog.info? 31).map (fun i => (i.zero, i.size, i.bytes)) = some (some (.agg #[.int .i64 0, .int .u64 0]), 2, 16) := by kernel_rfl
def OwnL (w : World) (base : Nat) (v : Value) (l : List La) : Prop := w.ownsRow base 31 2 v l.length (l.flatMap lcs)
theorem appL (W : World) (base : Nat) (v : Value) (l : List La) (x : La) (hown : OwnL W base v l) (hl : l.length ≤ 1000) (hb : base ≤ W.heap.size) :
    ∃ v' w', (Builtin.append_ #[22, 22] 22 #[v, .slice (some ⟨W.heap.size, 0, none⟩) 1 1]).run Tryz.prog (W.alloc (.cells #[.int .i64 x.lev, .int .u64 (x.set.toNat : Int)] 31)) = .ok v' w' ∧ OwnL w' base v' (l ++ [x]) ∧ Below base W w' := by
  obtain ⟨i0, hi, hx⟩ := Option.map_eq_some_iff.1 info31
  simp only [Prod.mk.injEq] at hx
  obtain ⟨hz0, hz1, hz2⟩ := hx
  have ho := World.ownsRow.alloc (show W.ownsRow base 31 2 v l.length (l.flatMap lcs) from hown) (.cells #[.int .i64 x.lev, .int .u64 (x.set.toNat : Int)] 31)
  have hsz : (W.alloc (.cells #[.int .i64 x.lev, .int .u64 (x.set.toNat : Int)] 31)).heap.size = W.heap.size + 1 := by simp
  obtain ⟨v', w', hr, h5, h6, _⟩ := run_append_own (P := Tryz.prog) (W.alloc (.cells #[.int .i64 x.lev, .int .u64 (x.set.toNat : Int)] 31)) base 22 22 31 i0 (.agg #[.int .i64 0, .int .u64 0]) 2 16 Tryz.underlying22 hi hz0 hz1 hz2 rfl (by decide) v l.length (l.flatMap lcs) ho ⟨W.heap.size, 0, none⟩ 1 1 [.int .i64 x.lev, .int .u64 (x.set.toNat : Int)] rfl (row_at rfl)
    (fun u hu => by
      simp only [List.mem_cons, List.not_mem_nil, or_false] at hu
      rcases hu with rfl | rfl <;> rfl) (by unfold maxLen; omega) (by omega) (by rw [hsz]; omega)
  have hbl : Below base _ w' := below_rows ho h6 (by rw [hsz]; omega)
  exact ⟨v', w', hr, by unfold OwnL; rw [List.length_append, List.flatMap_append]; exact h5, ((Below.refl _ _).alloc hb _).trans hbl⟩
set_option maxHeartbeats 1000000 in
theorem all_L : Tall (T := La) 67 68 OwnL oneL := by
  intro w lo hi p s h hh hl
  have hn8 := num1_lt s
  obtain ⟨⟨n, s1⟩, h1⟩ : ∃ q, s.num 1 = q := ⟨_, rfl⟩
  have hl1 := num_le s 1
  rw [h1] at hl1 hn8
  have ht : takeP s = ((n : Int), s1) := by unfold takeP; rw [h1]
  obtain ⟨s2, h2⟩ : ∃ q, s1.rule (decide ((n : Int) ≤ 8)) 2 = q := ⟨_, rfl⟩
  have hl2 := rule_le s1 (decide ((n : Int) ≤ 8)) 2
  rw [h2] at hl2
  obtain ⟨⟨R, s3⟩, h3⟩ : ∃ q, goA oneL n [] s2 = q := ⟨_, rfl⟩
  have hT : allP oneL s = (R, s3) := by unfold allP; simp only [h1, h2, h3]
  rw [hT]
  have HS0 := Lib.hid h
  have HH := Lib.hid hh
  have HL := Lib.hid hl
  have HL2 := Lib.hid (Nat.le_trans hl2 (Nat.le_trans hl1 hl))
  have H1 := Lib.hid ht
  have H2 := Lib.hid h2
  have H3 := Lib.hid h3
  have HN8 := Lib.hid hn8
  have HP := Lib.hid (fun b hb => Nat.lt_of_lt_of_le (blk_lt h b hb) hh)
  clear h hh hl hl1 hl2 h1 h2 h3 hT ht hn8
  go_enter Tryz.func67, Tryz.ntmps67
  go_wp2_with fail
  refine (take_one.eq _ lo hi _ s n s1 HS0 HH HL H1).mono ?_
  rintro e9 w1 ⟨rfl, q1, c1⟩
  have HS1 := Lib.hid q1
  have C1 := Lib.hid c1
  clear q1 c1
  go_wp2_with fail
  refine (rule_eq _ lo hi _ s1 s2 _ _ HS1 H2).mono ?_
  rintro e9 w2 ⟨rfl, q1, c1⟩
  have HS2 := Lib.hid q1
  have C2 := Lib.hid (C1.out.trans c1)
  clear q1 c1
  go_wp2
  go_loopg [8, 9] n (fun g s8 s9 wx => ∃ (k : Nat) (acc : List La) (sx : Sc) (vv : Value), k + g = n ∧ vv = s8 ∧ s9 = .int .i64 k ∧ Hid (acc.length = k) ∧ Hid (OwnL wx w.heap.size s8 acc) ∧ Hid (SC wx lo hi p sx) ∧ Hid (Chg p w wx) ∧ Hid (sx.l.length ≤ 140737488355328) ∧ Hid (goA oneL g acc sx = (R, s3)))
  case atStart => exact ⟨0, [], s2, _, by omega, rfl, rfl, Lib.hid rfl, Lib.hid (World.ownsRow_nil _ _ _ _), HS2, C2, HL2, H3⟩
  case round =>
    clear HS0 HS1 HS2 C1 C2 H1 H2 H3 HL HL2
    obtain ⟨k, acc, sx, vv, hkg, rfl, rfl, HA, HO, HS, HC, HLx, HG⟩ := hrel
    cases gk with
    | zero =>
      have hkz : ¬ ((k : Int) < (n : Int)) := by omega
      have hg := HG.out
      unfold goA at hg
      simp only [Prod.mk.injEq] at hg
      obtain ⟨rfl, rfl⟩ := hg
      go_wp2
      go_returns
      exact ⟨_, rfl, HO.out, HS.out, HC.out⟩
    | succ g =>
      have hkz : (k : Int) < (n : Int) := by omega
      by_cases he : sx.e = 0
      · have hg := HG.out
        unfold goA at hg
        rw [if_pos he] at hg
        obtain ⟨⟨x, sy⟩, hx⟩ : ∃ q, oneL sx = q := ⟨_, rfl⟩
        rw [hx] at hg
        have HE := Lib.hid he
        have HX := Lib.hid hx
        have HGG := Lib.hid hg
        have HLy := Lib.hid (Nat.le_trans (oneL_le sx) HLx.out)
        rw [hx] at HLy
        have HHx := Lib.hid (Nat.le_trans HH.out HC.out.size)
        have HKW : Hid (wrap64 ((k : Int) + 1) = ((k + 1 : Nat) : Int)) := Lib.hid (by have := HN8.out; unfold wrap64; omega)
        have HM : Hid (k + 1 + g = n) := Lib.hid (by omega)
        have HA1 : Hid (k ≤ 1000) := Lib.hid (by have := HN8.out; omega)
        clear he hg hx hkg HG
        go_wp2_with fail
        refine (fault_eq _ lo hi _ sx 0 HS HE).mono ?_
        rintro e9 w3 ⟨rfl, rfl⟩
        go_wp2_with fail
        refine (take_label.eq _ lo hi _ sx x sy HS HHx HLx HX).mono ?_
        rintro e9 w4 ⟨rfl, q1, c1⟩
        obtain ⟨v', w5, hr, hown, hbel⟩ := appL w4 w.heap.size vv acc x (own_chg HO.out c1 HP.out) (by rw [HA.out]; exact HA1.out) (Nat.le_trans HC.out.size c1.size)
        have HS5 := Lib.hid (SC.below q1 hbel HH.out)
        have HC5 := Lib.hid (Chg.below (HC.out.trans c1) hbel)
        have HO5 := Lib.hid hown
        have HA5 : Hid ((acc ++ [x]).length = k + 1) := Lib.hid (by rw [List.length_append, HA.out]; rfl)
        have HR := Lib.hid hr
        clear q1 c1 hown hbel hr
        unfold lval at *
        go_wp2_with (at_builtin; refine wpList_app_want (.tmp 27) (.tmp 31) 22 (by rfl) (by rfl) _ _ rfl rfl v' w5 (by exact HR.out) ?_)
        go_roundg g
        case measure => omega
        case rel => exact ⟨k + 1, acc ++ [x], sy, _, HM.out, rfl, by first | rfl | (simp; done) | rw [HKW.out], HA5, HO5, HS5, HC5, HLy, HGG⟩
      · have hg := HG.out
        unfold goA at hg
        rw [if_neg he] at hg
        simp only [Prod.mk.injEq] at hg
        obtain ⟨rfl, rfl⟩ := hg
        obtain ⟨x, hx⟩ : ∃ x, sx.e = x := ⟨_, rfl⟩
        have HX := Lib.hid hx
        rw [hx] at he
        clear hx
        go_wp2_with fail
        refine (fault_eq _ lo hi _ sx x HS HX).mono ?_
        rintro e9 w3 ⟨rfl, rfl⟩
        go_wp2
        go_returns
        exact ⟨_, rfl, HO.out, HS.out, HC.out⟩

theorem info3 : (Tryz.prog.info? 3).map (fun i => (i.zero, i.size, i.bytes)) = some (some (.int .i64 0), 1, 8) := by kernel_rfl
def OwnI (w : World) (base : Nat) (v : Value) (l : List Int) : Prop := w.ownsRow base 3 1 v l.length (iv l)
theorem appI (W : World) (base : Nat) (v : Value) (l : List Int) (x : Int) (hown : OwnI W base v l) (hl : l.length ≤ 1000) (hb : base ≤ W.heap.size) :
    ∃ v' w', (Builtin.append_ #[23, 23] 23 #[v, .slice (some ⟨W.heap.size, 0, none⟩) 1 1]).run Tryz.prog (W.alloc (.cells #[.int .i64 x] 3)) = .ok v' w' ∧ OwnI w' base v' (l ++ [x]) ∧ Below base W w' := by
  obtain ⟨i0, hi, hx⟩ := Option.map_eq_some_iff.1 info3
  simp only [Prod.mk.injEq] at hx
  obtain ⟨hz0, hz1, hz2⟩ := hx
  have ho := World.ownsRow.alloc (show W.ownsRow base 3 1 v l.length (iv l) from hown) (.cells #[.int .i64 x] 3)
  have hsz : (W.alloc (.cells #[.int .i64 x] 3)).heap.size = W.heap.size + 1 := by simp
  obtain ⟨v', w', hr, h5, h6, _⟩ := run_append_own (P := Tryz.prog) (W.alloc (.cells #[.int .i64 x] 3)) base 23 23 3 i0 (.int .i64 0) 1 8 Tryz.underlying23 hi hz0 hz1 hz2 rfl (by decide) v l.length (iv l) ho ⟨W.heap.size, 0, none⟩ 1 1 [.int .i64 x] rfl (row_at rfl)
    (fun u hu => by
      simp only [List.mem_cons, List.not_mem_nil, or_false] at hu
      rcases hu with rfl <;> rfl) (by unfold maxLen; omega) (by omega) (by rw [hsz]; omega)
  have hbl : Below base _ w' := below_rows ho h6 (by rw [hsz]; omega)
  exact ⟨v', w', hr, by unfold OwnI; rw [List.length_append, iv_append]; exact h5, ((Below.refl _ _).alloc hb _).trans hbl⟩
set_option maxHeartbeats 1000000 in
theorem all_I : Tall (T := Int) 69 70 OwnI takeP := by
  intro w lo hi p s h hh hl
  have hn8 := num1_lt s
  obtain ⟨⟨n, s1⟩, h1⟩ : ∃ q, s.num 1 = q := ⟨_, rfl⟩
  have hl1 := num_le s 1
  rw [h1] at hl1 hn8
  have ht : takeP s = ((n : Int), s1) := by unfold takeP; rw [h1]
  obtain ⟨s2, h2⟩ : ∃ q, s1.rule (decide ((n : Int) ≤ 8)) 2 = q := ⟨_, rfl⟩
  have hl2 := rule_le s1 (decide ((n : Int) ≤ 8)) 2
  rw [h2] at hl2
  obtain ⟨⟨R, s3⟩, h3⟩ : ∃ q, goA takeP n [] s2 = q := ⟨_, rfl⟩
  have hT : allP takeP s = (R, s3) := by unfold allP; simp only [h1, h2, h3]
  rw [hT]
  have HS0 := Lib.hid h
  have HH := Lib.hid hh
  have HL := Lib.hid hl
  have HL2 := Lib.hid (Nat.le_trans hl2 (Nat.le_trans hl1 hl))
  have H1 := Lib.hid ht
  have H2 := Lib.hid h2
  have H3 := Lib.hid h3
  have HN8 := Lib.hid hn8
  have HP := Lib.hid (fun b hb => Nat.lt_of_lt_of_le (blk_lt h b hb) hh)
  clear h hh hl hl1 hl2 h1 h2 h3 hT ht hn8
  go_enter Tryz.func69, Tryz.ntmps69
  go_wp2_with fail
  refine (take_one.eq _ lo hi _ s n s1 HS0 HH HL H1).mono ?_
  rintro e9 w1 ⟨rfl, q1, c1⟩
  have HS1 := Lib.hid q1
  have C1 := Lib.hid c1
  clear q1 c1
  go_wp2_with fail
  refine (rule_eq _ lo hi _ s1 s2 _ _ HS1 H2).mono ?_
  rintro e9 w2 ⟨rfl, q1, c1⟩
  have HS2 := Lib.hid q1
  have C2 := Lib.hid (C1.out.trans c1)
  clear q1 c1
  go_wp2
  go_loopg [8, 9] n (fun g s8 s9 wx => ∃ (k : Nat) (acc : List Int) (sx : Sc) (vv : Value), k + g = n ∧ vv = s8 ∧ s9 = .int .i64 k ∧ Hid (acc.length = k) ∧ Hid (OwnI wx w.heap.size s8 acc) ∧ Hid (SC wx lo hi p sx) ∧ Hid (Chg p w wx) ∧ Hid (sx.l.length ≤ 140737488355328) ∧ Hid (goA takeP g acc sx = (R, s3)))
  case atStart => exact ⟨0, [], s2, _, by omega, rfl, rfl, Lib.hid rfl, Lib.hid (World.ownsRow_nil _ _ _ _), HS2, C2, HL2, H3⟩
  case round =>
    clear HS0 HS1 HS2 C1 C2 H1 H2 H3 HL HL2
    obtain ⟨k, acc, sx, vv, hkg, rfl, rfl, HA, HO, HS, HC, HLx, HG⟩ := hrel
    cases gk with
    | zero =>
      have hkz : ¬ ((k : Int) < (n : Int)) := by omega
      have hg := HG.out
      unfold goA at hg
      simp only [Prod.mk.injEq] at hg
      obtain ⟨rfl, rfl⟩ := hg
      go_wp2
      go_returns
      exact ⟨_, rfl, HO.out, HS.out, HC.out⟩
    | succ g =>
      have hkz : (k : Int) < (n : Int) := by omega
      by_cases he : sx.e = 0
      · have hg := HG.out
        unfold goA at hg
        rw [if_pos he] at hg
        obtain ⟨⟨x, sy⟩, hx⟩ : ∃ q, takeP sx = q := ⟨_, rfl⟩
        rw [hx] at hg
        have HE := Lib.hid he
        have HX := Lib.hid hx
        have HGG := Lib.hid hg
        have HLy := Lib.hid (Nat.le_trans (takeP_le sx) HLx.out)
        rw [hx] at HLy
        have HHx := Lib.hid (Nat.le_trans HH.out HC.out.size)
        have HKW : Hid (wrap64 ((k : Int) + 1) = ((k + 1 : Nat) : Int)) := Lib.hid (by have := HN8.out; unfold wrap64; omega)
        have HM : Hid (k + 1 + g = n) := Lib.hid (by omega)
        have HA1 : Hid (k ≤ 1000) := Lib.hid (by have := HN8.out; omega)
        clear he hg hx hkg HG
        go_wp2_with fail
        refine (fault_eq _ lo hi _ sx 0 HS HE).mono ?_
        rintro e9 w3 ⟨rfl, rfl⟩
        go_wp2_with fail
        refine (take_one.eq _ lo hi _ sx x sy HS HHx HLx HX).mono ?_
        rintro e9 w4 ⟨rfl, q1, c1⟩
        obtain ⟨v', w5, hr, hown, hbel⟩ := appI w4 w.heap.size vv acc x (own_chg HO.out c1 HP.out) (by rw [HA.out]; exact HA1.out) (Nat.le_trans HC.out.size c1.size)
        have HS5 := Lib.hid (SC.below q1 hbel HH.out)
        have HC5 := Lib.hid (Chg.below (HC.out.trans c1) hbel)
        have HO5 := Lib.hid hown
        have HA5 : Hid ((acc ++ [x]).length = k + 1) := Lib.hid (by rw [List.length_append, HA.out]; rfl)
        have HR := Lib.hid hr
        clear q1 c1 hown hbel hr
        go_wp2_with (at_builtin; refine wpList_app_want (.tmp 27) (.tmp 31) 23 (by rfl) (by rfl) _ _ rfl rfl v' w5 (by exact HR.out) ?_)
        go_roundg g
        case measure => omega
        case rel => exact ⟨k + 1, acc ++ [x], sy, _, HM.out, rfl, by first | rfl | (simp; done) | rw [HKW.out], HA5, HO5, HS5, HC5, HLy, HGG⟩
      · have hg := HG.out
        unfold goA at hg
        rw [if_neg he] at hg
        simp only [Prod.mk.injEq] at hg
        obtain ⟨rfl, rfl⟩ := hg
        obtain ⟨x, hx⟩ : ∃ x, sx.e = x := ⟨_, rfl⟩
        have HX := Lib.hid hx
        rw [hx] at he
        clear hx
        go_wp2_with fail
        refine (fault_eq _ lo hi _ sx x HS HX).mono ?_
        rintro e9 w3 ⟨rfl, rfl⟩
        go_wp2
        go_returns
        exact ⟨_, rfl, HO.out, HS.out, HC.out⟩

theorem info88 : (Tryz.prog.info? 88).map (fun i => (i.zero, i.size, i.bytes)) = some (some (.agg #[.string ⟨#[]⟩, .string ⟨#[]⟩, .int .i64 0, .bool false]), 4, 48) := by kernel_rfl
def OwnA (w : World) (base : Nat) (v : Value) (l : List Ac) : Prop := w.ownsRow base 88 4 v l.length (l.flatMap acs)
theorem appA (W : World) (base : Nat) (v : Value) (l : List Ac) (x : Ac) (hown : OwnA W base v l) (hl : l.length ≤ 1000) (hb : base ≤ W.heap.size) :
    ∃ v' w', (Builtin.append_ #[24, 24] 24 #[v, .slice (some ⟨W.heap.size, 0, none⟩) 1 1]).run Tryz.prog (W.alloc (.cells #[.string x.name, .string x.secret, .int .i64 x.lev, .bool x.mints] 88)) = .ok v' w' ∧ OwnA w' base v' (l ++ [x]) ∧ Below base W w' := by
  obtain ⟨i0, hi, hx⟩ := Option.map_eq_some_iff.1 info88
  simp only [Prod.mk.injEq] at hx
  obtain ⟨hz0, hz1, hz2⟩ := hx
  have ho := World.ownsRow.alloc (show W.ownsRow base 88 4 v l.length (l.flatMap acs) from hown) (.cells #[.string x.name, .string x.secret, .int .i64 x.lev, .bool x.mints] 88)
  have hsz : (W.alloc (.cells #[.string x.name, .string x.secret, .int .i64 x.lev, .bool x.mints] 88)).heap.size = W.heap.size + 1 := by simp
  obtain ⟨v', w', hr, h5, h6, _⟩ := run_append_own (P := Tryz.prog) (W.alloc (.cells #[.string x.name, .string x.secret, .int .i64 x.lev, .bool x.mints] 88)) base 24 24 88 i0 (.agg #[.string ⟨#[]⟩, .string ⟨#[]⟩, .int .i64 0, .bool false]) 4 48 Tryz.underlying24 hi hz0 hz1 hz2 rfl (by decide) v l.length (l.flatMap acs) ho ⟨W.heap.size, 0, none⟩ 1 1 [.string x.name, .string x.secret, .int .i64 x.lev, .bool x.mints] rfl (row_at rfl)
    (fun u hu => by
      simp only [List.mem_cons, List.not_mem_nil, or_false] at hu
      rcases hu with rfl | rfl | rfl | rfl <;> rfl) (by unfold maxLen; omega) (by omega) (by rw [hsz]; omega)
  have hbl : Below base _ w' := below_rows ho h6 (by rw [hsz]; omega)
  exact ⟨v', w', hr, by unfold OwnA; rw [List.length_append, List.flatMap_append]; exact h5, ((Below.refl _ _).alloc hb _).trans hbl⟩
set_option maxHeartbeats 1000000 in
theorem all_A : Tall (T := Ac) 71 72 OwnA oneA := by
  intro w lo hi p s h hh hl
  have hn8 := num1_lt s
  obtain ⟨⟨n, s1⟩, h1⟩ : ∃ q, s.num 1 = q := ⟨_, rfl⟩
  have hl1 := num_le s 1
  rw [h1] at hl1 hn8
  have ht : takeP s = ((n : Int), s1) := by unfold takeP; rw [h1]
  obtain ⟨s2, h2⟩ : ∃ q, s1.rule (decide ((n : Int) ≤ 8)) 2 = q := ⟨_, rfl⟩
  have hl2 := rule_le s1 (decide ((n : Int) ≤ 8)) 2
  rw [h2] at hl2
  obtain ⟨⟨R, s3⟩, h3⟩ : ∃ q, goA oneA n [] s2 = q := ⟨_, rfl⟩
  have hT : allP oneA s = (R, s3) := by unfold allP; simp only [h1, h2, h3]
  rw [hT]
  have HS0 := Lib.hid h
  have HH := Lib.hid hh
  have HL := Lib.hid hl
  have HL2 := Lib.hid (Nat.le_trans hl2 (Nat.le_trans hl1 hl))
  have H1 := Lib.hid ht
  have H2 := Lib.hid h2
  have H3 := Lib.hid h3
  have HN8 := Lib.hid hn8
  have HP := Lib.hid (fun b hb => Nat.lt_of_lt_of_le (blk_lt h b hb) hh)
  clear h hh hl hl1 hl2 h1 h2 h3 hT ht hn8
  go_enter Tryz.func71, Tryz.ntmps71
  go_wp2_with fail
  refine (take_one.eq _ lo hi _ s n s1 HS0 HH HL H1).mono ?_
  rintro e9 w1 ⟨rfl, q1, c1⟩
  have HS1 := Lib.hid q1
  have C1 := Lib.hid c1
  clear q1 c1
  go_wp2_with fail
  refine (rule_eq _ lo hi _ s1 s2 _ _ HS1 H2).mono ?_
  rintro e9 w2 ⟨rfl, q1, c1⟩
  have HS2 := Lib.hid q1
  have C2 := Lib.hid (C1.out.trans c1)
  clear q1 c1
  go_wp2
  go_loopg [8, 9] n (fun g s8 s9 wx => ∃ (k : Nat) (acc : List Ac) (sx : Sc) (vv : Value), k + g = n ∧ vv = s8 ∧ s9 = .int .i64 k ∧ Hid (acc.length = k) ∧ Hid (OwnA wx w.heap.size s8 acc) ∧ Hid (SC wx lo hi p sx) ∧ Hid (Chg p w wx) ∧ Hid (sx.l.length ≤ 140737488355328) ∧ Hid (goA oneA g acc sx = (R, s3)))
  case atStart => exact ⟨0, [], s2, _, by omega, rfl, rfl, Lib.hid rfl, Lib.hid (World.ownsRow_nil _ _ _ _), HS2, C2, HL2, H3⟩
  case round =>
    clear HS0 HS1 HS2 C1 C2 H1 H2 H3 HL HL2
    obtain ⟨k, acc, sx, vv, hkg, rfl, rfl, HA, HO, HS, HC, HLx, HG⟩ := hrel
    cases gk with
    | zero =>
      have hkz : ¬ ((k : Int) < (n : Int)) := by omega
      have hg := HG.out
      unfold goA at hg
      simp only [Prod.mk.injEq] at hg
      obtain ⟨rfl, rfl⟩ := hg
      go_wp2
      go_returns
      exact ⟨_, rfl, HO.out, HS.out, HC.out⟩
    | succ g =>
      have hkz : (k : Int) < (n : Int) := by omega
      by_cases he : sx.e = 0
      · have hg := HG.out
        unfold goA at hg
        rw [if_pos he] at hg
        obtain ⟨⟨x, sy⟩, hx⟩ : ∃ q, oneA sx = q := ⟨_, rfl⟩
        rw [hx] at hg
        have HE := Lib.hid he
        have HX := Lib.hid hx
        have HGG := Lib.hid hg
        have HLy := Lib.hid (Nat.le_trans (oneA_le sx) HLx.out)
        rw [hx] at HLy
        have HHx := Lib.hid (Nat.le_trans HH.out HC.out.size)
        have HKW : Hid (wrap64 ((k : Int) + 1) = ((k + 1 : Nat) : Int)) := Lib.hid (by have := HN8.out; unfold wrap64; omega)
        have HM : Hid (k + 1 + g = n) := Lib.hid (by omega)
        have HA1 : Hid (k ≤ 1000) := Lib.hid (by have := HN8.out; omega)
        clear he hg hx hkg HG
        go_wp2_with fail
        refine (fault_eq _ lo hi _ sx 0 HS HE).mono ?_
        rintro e9 w3 ⟨rfl, rfl⟩
        go_wp2_with fail
        refine (take_account.eq _ lo hi _ sx x sy HS HHx HLx HX).mono ?_
        rintro e9 w4 ⟨rfl, q1, c1⟩
        obtain ⟨v', w5, hr, hown, hbel⟩ := appA w4 w.heap.size vv acc x (own_chg HO.out c1 HP.out) (by rw [HA.out]; exact HA1.out) (Nat.le_trans HC.out.size c1.size)
        have HS5 := Lib.hid (SC.below q1 hbel HH.out)
        have HC5 := Lib.hid (Chg.below (HC.out.trans c1) hbel)
        have HO5 := Lib.hid hown
        have HA5 : Hid ((acc ++ [x]).length = k + 1) := Lib.hid (by rw [List.length_append, HA.out]; rfl)
        have HR := Lib.hid hr
        clear q1 c1 hown hbel hr
        unfold aval at *
        go_wp2_with (at_builtin; refine wpList_app_want (.tmp 27) (.tmp 31) 24 (by rfl) (by rfl) _ _ rfl rfl v' w5 (by exact HR.out) ?_)
        go_roundg g
        case measure => omega
        case rel => exact ⟨k + 1, acc ++ [x], sy, _, HM.out, rfl, by first | rfl | (simp; done) | rw [HKW.out], HA5, HO5, HS5, HC5, HLy, HGG⟩
      · have hg := HG.out
        unfold goA at hg
        rw [if_neg he] at hg
        simp only [Prod.mk.injEq] at hg
        obtain ⟨rfl, rfl⟩ := hg
        obtain ⟨x, hx⟩ : ∃ x, sx.e = x := ⟨_, rfl⟩
        have HX := Lib.hid hx
        rw [hx] at he
        clear hx
        go_wp2_with fail
        refine (fault_eq _ lo hi _ sx x HS HX).mono ?_
        rintro e9 w3 ⟨rfl, rfl⟩
        go_wp2
        go_returns
        exact ⟨_, rfl, HO.out, HS.out, HC.out⟩

theorem info52 : (Tryz.prog.info? 52).map (fun i => (i.zero, i.size, i.bytes)) = some (some (.agg #[.int .i64 0, .int .i64 0]), 2, 16) := by kernel_rfl
def OwnG (w : World) (base : Nat) (v : Value) (l : List Gu) : Prop := w.ownsRow base 52 2 v l.length (l.flatMap gcs)
theorem appG (W : World) (base : Nat) (v : Value) (l : List Gu) (x : Gu) (hown : OwnG W base v l) (hl : l.length ≤ 1000) (hb : base ≤ W.heap.size) :
    ∃ v' w', (Builtin.append_ #[25, 25] 25 #[v, .slice (some ⟨W.heap.size, 0, none⟩) 1 1]).run Tryz.prog (W.alloc (.cells #[.int .i64 x.bit, .int .i64 x.founder] 52)) = .ok v' w' ∧ OwnG w' base v' (l ++ [x]) ∧ Below base W w' := by
  obtain ⟨i0, hi, hx⟩ := Option.map_eq_some_iff.1 info52
  simp only [Prod.mk.injEq] at hx
  obtain ⟨hz0, hz1, hz2⟩ := hx
  have ho := World.ownsRow.alloc (show W.ownsRow base 52 2 v l.length (l.flatMap gcs) from hown) (.cells #[.int .i64 x.bit, .int .i64 x.founder] 52)
  have hsz : (W.alloc (.cells #[.int .i64 x.bit, .int .i64 x.founder] 52)).heap.size = W.heap.size + 1 := by simp
  obtain ⟨v', w', hr, h5, h6, _⟩ := run_append_own (P := Tryz.prog) (W.alloc (.cells #[.int .i64 x.bit, .int .i64 x.founder] 52)) base 25 25 52 i0 (.agg #[.int .i64 0, .int .i64 0]) 2 16 Tryz.underlying25 hi hz0 hz1 hz2 rfl (by decide) v l.length (l.flatMap gcs) ho ⟨W.heap.size, 0, none⟩ 1 1 [.int .i64 x.bit, .int .i64 x.founder] rfl (row_at rfl)
    (fun u hu => by
      simp only [List.mem_cons, List.not_mem_nil, or_false] at hu
      rcases hu with rfl | rfl <;> rfl) (by unfold maxLen; omega) (by omega) (by rw [hsz]; omega)
  have hbl : Below base _ w' := below_rows ho h6 (by rw [hsz]; omega)
  exact ⟨v', w', hr, by unfold OwnG; rw [List.length_append, List.flatMap_append]; exact h5, ((Below.refl _ _).alloc hb _).trans hbl⟩
set_option maxHeartbeats 1000000 in
theorem all_G : Tall (T := Gu) 73 74 OwnG oneG := by
  intro w lo hi p s h hh hl
  have hn8 := num1_lt s
  obtain ⟨⟨n, s1⟩, h1⟩ : ∃ q, s.num 1 = q := ⟨_, rfl⟩
  have hl1 := num_le s 1
  rw [h1] at hl1 hn8
  have ht : takeP s = ((n : Int), s1) := by unfold takeP; rw [h1]
  obtain ⟨s2, h2⟩ : ∃ q, s1.rule (decide ((n : Int) ≤ 8)) 2 = q := ⟨_, rfl⟩
  have hl2 := rule_le s1 (decide ((n : Int) ≤ 8)) 2
  rw [h2] at hl2
  obtain ⟨⟨R, s3⟩, h3⟩ : ∃ q, goA oneG n [] s2 = q := ⟨_, rfl⟩
  have hT : allP oneG s = (R, s3) := by unfold allP; simp only [h1, h2, h3]
  rw [hT]
  have HS0 := Lib.hid h
  have HH := Lib.hid hh
  have HL := Lib.hid hl
  have HL2 := Lib.hid (Nat.le_trans hl2 (Nat.le_trans hl1 hl))
  have H1 := Lib.hid ht
  have H2 := Lib.hid h2
  have H3 := Lib.hid h3
  have HN8 := Lib.hid hn8
  have HP := Lib.hid (fun b hb => Nat.lt_of_lt_of_le (blk_lt h b hb) hh)
  clear h hh hl hl1 hl2 h1 h2 h3 hT ht hn8
  go_enter Tryz.func73, Tryz.ntmps73
  go_wp2_with fail
  refine (take_one.eq _ lo hi _ s n s1 HS0 HH HL H1).mono ?_
  rintro e9 w1 ⟨rfl, q1, c1⟩
  have HS1 := Lib.hid q1
  have C1 := Lib.hid c1
  clear q1 c1
  go_wp2_with fail
  refine (rule_eq _ lo hi _ s1 s2 _ _ HS1 H2).mono ?_
  rintro e9 w2 ⟨rfl, q1, c1⟩
  have HS2 := Lib.hid q1
  have C2 := Lib.hid (C1.out.trans c1)
  clear q1 c1
  go_wp2
  go_loopg [8, 9] n (fun g s8 s9 wx => ∃ (k : Nat) (acc : List Gu) (sx : Sc) (vv : Value), k + g = n ∧ vv = s8 ∧ s9 = .int .i64 k ∧ Hid (acc.length = k) ∧ Hid (OwnG wx w.heap.size s8 acc) ∧ Hid (SC wx lo hi p sx) ∧ Hid (Chg p w wx) ∧ Hid (sx.l.length ≤ 140737488355328) ∧ Hid (goA oneG g acc sx = (R, s3)))
  case atStart => exact ⟨0, [], s2, _, by omega, rfl, rfl, Lib.hid rfl, Lib.hid (World.ownsRow_nil _ _ _ _), HS2, C2, HL2, H3⟩
  case round =>
    clear HS0 HS1 HS2 C1 C2 H1 H2 H3 HL HL2
    obtain ⟨k, acc, sx, vv, hkg, rfl, rfl, HA, HO, HS, HC, HLx, HG⟩ := hrel
    cases gk with
    | zero =>
      have hkz : ¬ ((k : Int) < (n : Int)) := by omega
      have hg := HG.out
      unfold goA at hg
      simp only [Prod.mk.injEq] at hg
      obtain ⟨rfl, rfl⟩ := hg
      go_wp2
      go_returns
      exact ⟨_, rfl, HO.out, HS.out, HC.out⟩
    | succ g =>
      have hkz : (k : Int) < (n : Int) := by omega
      by_cases he : sx.e = 0
      · have hg := HG.out
        unfold goA at hg
        rw [if_pos he] at hg
        obtain ⟨⟨x, sy⟩, hx⟩ : ∃ q, oneG sx = q := ⟨_, rfl⟩
        rw [hx] at hg
        have HE := Lib.hid he
        have HX := Lib.hid hx
        have HGG := Lib.hid hg
        have HLy := Lib.hid (Nat.le_trans (oneG_le sx) HLx.out)
        rw [hx] at HLy
        have HHx := Lib.hid (Nat.le_trans HH.out HC.out.size)
        have HKW : Hid (wrap64 ((k : Int) + 1) = ((k + 1 : Nat) : Int)) := Lib.hid (by have := HN8.out; unfold wrap64; omega)
        have HM : Hid (k + 1 + g = n) := Lib.hid (by omega)
        have HA1 : Hid (k ≤ 1000) := Lib.hid (by have := HN8.out; omega)
        clear he hg hx hkg HG
        go_wp2_with fail
        refine (fault_eq _ lo hi _ sx 0 HS HE).mono ?_
        rintro e9 w3 ⟨rfl, rfl⟩
        go_wp2_with fail
        refine (take_guild.eq _ lo hi _ sx x sy HS HHx HLx HX).mono ?_
        rintro e9 w4 ⟨rfl, q1, c1⟩
        obtain ⟨v', w5, hr, hown, hbel⟩ := appG w4 w.heap.size vv acc x (own_chg HO.out c1 HP.out) (by rw [HA.out]; exact HA1.out) (Nat.le_trans HC.out.size c1.size)
        have HS5 := Lib.hid (SC.below q1 hbel HH.out)
        have HC5 := Lib.hid (Chg.below (HC.out.trans c1) hbel)
        have HO5 := Lib.hid hown
        have HA5 : Hid ((acc ++ [x]).length = k + 1) := Lib.hid (by rw [List.length_append, HA.out]; rfl)
        have HR := Lib.hid hr
        clear q1 c1 hown hbel hr
        unfold gval at *
        go_wp2_with (at_builtin; refine wpList_app_want (.tmp 27) (.tmp 31) 25 (by rfl) (by rfl) _ _ rfl rfl v' w5 (by exact HR.out) ?_)
        go_roundg g
        case measure => omega
        case rel => exact ⟨k + 1, acc ++ [x], sy, _, HM.out, rfl, by first | rfl | (simp; done) | rw [HKW.out], HA5, HO5, HS5, HC5, HLy, HGG⟩
      · have hg := HG.out
        unfold goA at hg
        rw [if_neg he] at hg
        simp only [Prod.mk.injEq] at hg
        obtain ⟨rfl, rfl⟩ := hg
        obtain ⟨x, hx⟩ : ∃ x, sx.e = x := ⟨_, rfl⟩
        have HX := Lib.hid hx
        rw [hx] at he
        clear hx
        go_wp2_with fail
        refine (fault_eq _ lo hi _ sx x HS HX).mono ?_
        rintro e9 w3 ⟨rfl, rfl⟩
        go_wp2
        go_returns
        exact ⟨_, rfl, HO.out, HS.out, HC.out⟩
end Go.Proofs.YtmegdgeiikhflaaGreat.CC
namespace Go.Proofs.YtmegdgeiikhflaaGreat.CD
set_option maxRecDepth 100000
open Go Go.RowKit Go.Lib Go.Proofs.YtmegdgeiikhflaaGreat Go.Proofs.YtmegdgeiikhflaaGreat.Facts Go.Proofs.YtmegdgeiikhflaaGreat.Bytes Go.Proofs.YtmegdgeiikhflaaGreat.Plain Go.Proofs.YtmegdgeiikhflaaGreat.Ints Go.Proofs.YtmegdgeiikhflaaGreat.LBox Go.Proofs.YtmegdgeiikhflaaGreat.RRows Go.Proofs.YtmegdgeiikhflaaGreat.Puts Go.Proofs.YtmegdgeiikhflaaGreat.Scan Go.Proofs.YtmegdgeiikhflaaGreat.Take Go.Proofs.YtmegdgeiikhflaaGreat.Nums Go.Proofs.YtmegdgeiikhflaaGreat.BA Go.Proofs.YtmegdgeiikhflaaGreat.BB Go.Proofs.YtmegdgeiikhflaaGreat.BC Go.Proofs.YtmegdgeiikhflaaGreat.BD Go.Proofs.YtmegdgeiikhflaaGreat.CA Go.Proofs.YtmegdgeiikhflaaGreat.CB Go.Proofs.YtmegdgeiikhflaaGreat.CC Go.Proofs.YtmegdgeiikhflaaGreat.RSmall Go.Proofs.YtmegdgeiikhflaaGreat.RRules Go.Proofs.YtmegdgeiikhflaaGreat.RRule3 Go.Proofs.YtmegdgeiikhflaaGreat.RRight


theorem blk_ge {w : World} {lo hi : Nat} {p : Value} {s : Sc} (h : SC w lo hi p s) (b : Nat) (hb : blk p = some b) : lo ≤ b := by
  rcases h with ⟨g, rfl, h⟩ | ⟨rfl | ⟨g, v, x, rfl, h1, h2, h3, hg⟩, rfl⟩
  · cases hb; exact h.1
  · cases hb
  · cases hb; exact h1
/-- A scan of these bytes. -/
theorem from_any (S : Nat → Prop) (v : Value) (l : List UInt8) (w : World) (h : Rd S w v l) (hl : l.length ≤ 140737488355328) :
    Calls Tryz.prog 66 #[v] w fun e w' => ∃ p, e = .returned p ∧ SC w' w.heap.size w'.heap.size p ⟨l, 0⟩ ∧ Grew w w' := by
  have H := Lib.hid h
  clear h
  go_enter Tryz.func66, Tryz.ntmps66
  go_wp2_with fail
  refine (clone_any S v l _ H.out hl).mono ?_
  rintro e w1 ⟨v1, rfl, hr, hg⟩
  obtain ⟨A, c, rfl, q⟩ := id hr
  have HR := Lib.hid hr
  have HG := Lib.hid hg
  clear hr hg q
  go_wp2
  go_ret
  refine ⟨_, rfl, .inl ⟨w1.heap.size, rfl, HG.out.size, by simp, Nat.le_refl _, _, heap_alloc_new _ _, ?_⟩, HG.out.trans ((Below.refl _ _).alloc (Nat.le_refl _) _)⟩
  refine (HR.out.lt.grew ((Below.refl _ _).alloc (Nat.le_refl _) _)).mono fun b hb => ⟨hb.1, ?_, by omega⟩
  have := hb.2
  simp
  omega

/-- Nothing below b5 changes but the scan and block D. -/
structure Kp (b5 : Nat) (p : Value) (D : Nat) (a b : World) : Prop where
  os : b.os = a.os
  tape : b.tape = a.tape
  output : b.output = a.output
  size : a.heap.size ≤ b.heap.size
  block : ∀ k, k < b5 → k ≠ D → blk p ≠ some k → b.heap[k]? = a.heap[k]?
theorem Kp.refl (b5 : Nat) (p : Value) (D : Nat) (a : World) : Kp b5 p D a a := ⟨rfl, rfl, rfl, Nat.le_refl _, fun _ _ _ _ => rfl⟩
theorem Kp.trans {b5 : Nat} {p : Value} {D : Nat} {a b c : World} (h : Kp b5 p D a b) (k : Kp b5 p D b c) : Kp b5 p D a c :=
  ⟨k.os.trans h.os, k.tape.trans h.tape, k.output.trans h.output, Nat.le_trans h.size k.size, fun i h1 h2 h3 => (k.block i h1 h2 h3).trans (h.block i h1 h2 h3)⟩
theorem Kp.chg {b5 : Nat} {p : Value} {D : Nat} {a b : World} (h : Chg p a b) (hb : b5 ≤ a.heap.size) : Kp b5 p D a b :=
  ⟨h.os, h.tape, h.output, h.size, fun k h1 _ h3 => h.block k (by omega) (Ne.symm h3)⟩
theorem Kp.below {b5 : Nat} {p : Value} {D : Nat} {a b : World} (h : Below b5 a b) : Kp b5 p D a b :=
  ⟨h.os, h.tape, h.output, h.size, fun k h1 _ _ => h.block k h1⟩
theorem Kp.set {b5 : Nat} {p : Value} {D : Nat} (a : World) (i : Nat) (x : Value) : Kp b5 p D a (a.setCell ⟨D, i, none⟩ x) :=
  ⟨rfl, rfl, rfl, by simp [World.setCell], fun k _ h2 _ => heap_setCell_other a ⟨D, i, none⟩ k x (by intro e; simp only at e; omega)⟩
theorem Kp.grew {b5 D : Nat} {p : Value} {w a b : World} (h : Kp b5 p D a b) (hg : Grew w a) (h5 : w.heap.size ≤ b5) (hD : w.heap.size ≤ D) (hp : ∀ k, blk p = some k → w.heap.size ≤ k) : Grew w b :=
  ⟨h.os.trans hg.os, h.tape.trans hg.tape, h.output.trans hg.output, Nat.le_trans hg.size h.size, fun k hk => (h.block k (by omega) (by omega) (fun e => by have := hp k e; omega)).trans (hg.block k hk)⟩
theorem Kp.row {b5 D base t n c : Nat} {p v : Value} {a b : World} {xs : List Value} (h : Kp b5 p D a b) (ho : a.ownsRow base t n v c xs) (h5 : a.heap.size ≤ b5) (hD : D < base) (hp : ∀ k, blk p = some k → k < base) : b.ownsRow base t n v c xs := by
  refine ⟨ho.1, ho.2.imp id fun ⟨g, cap, cur, h1, h2, h3, h4⟩ => ⟨g, cap, cur, h1, h2, ?_, h4⟩⟩
  have hlt := (Array.getElem?_eq_some_iff.1 h3).1
  exact (h.block g (by omega) (by omega) (fun e => by have := hp g e; omega)).trans h3
theorem own_set {W : World} {base t n c D i : Nat} {v x : Value} {xs : List Value} (ho : W.ownsRow base t n v c xs) (hD : D < base) : (W.setCell ⟨D, i, none⟩ x).ownsRow base t n v c xs := by
  refine ⟨ho.1, ho.2.imp id fun ⟨g, cap, cur, h1, h2, h3, h4⟩ => ⟨g, cap, cur, h1, h2, ?_, h4⟩⟩
  exact (heap_setCell_other W ⟨D, i, none⟩ g x (by intro e; simp only at e; omega)).trans h3
theorem oneQ_le (s : Sc) : (oneQ s).2.l.length ≤ s.l.length := by
  unfold oneQ
  exact Nat.le_trans (num_le _ _) (Nat.le_trans (takeP_le _) (Nat.le_trans (takeP_le _) (Nat.le_trans (takeP_le _) (Nat.le_trans (takeP_le _) (takeP_le _)))))
def goN : Nat → List Qu → Sc → List Qu × Sc
  | 0, acc, s => (acc, s)
  | f + 1, acc, s => goN f (acc ++ [(oneQ s).1]) (oneQ s).2
theorem goA_len {T : Type} (one : Sc → T × Sc) : ∀ (f : Nat) (acc : List T) (s : Sc), (goA one f acc s).1.length ≤ acc.length + f
  | 0, acc, s => Nat.le_refl _
  | f + 1, acc, s => by
    unfold goA
    split
    · have := goA_len one f (acc ++ [(one s).1]) (one s).2
      rw [List.length_append] at this
      simp only [List.length_cons, List.length_nil] at this
      omega
    · simp
theorem allP_len {T : Type} (one : Sc → T × Sc) (s : Sc) : (allP one s).1.length < 256 := by
  have := goA_len one (s.num 1).1 [] ((s.num 1).2.rule (decide (((s.num 1).1 : Int) ≤ 8)) 2)
  have h2 := num1_lt s
  unfold allP
  simp only [List.length_nil] at this
  omega
theorem goA_le {T : Type} (one : Sc → T × Sc) (h1 : ∀ s, (one s).2.l.length ≤ s.l.length) : ∀ (f : Nat) (acc : List T) (s : Sc), (goA one f acc s).2.l.length ≤ s.l.length
  | 0, acc, s => Nat.le_refl _
  | f + 1, acc, s => by
    unfold goA
    split
    · exact Nat.le_trans (goA_le one h1 f _ _) (h1 s)
    · exact Nat.le_refl _
theorem allP_le {T : Type} (one : Sc → T × Sc) (h1 : ∀ s, (one s).2.l.length ≤ s.l.length) (s : Sc) : (allP one s).2.l.length ≤ s.l.length :=
  Nat.le_trans (goA_le one h1 _ _ _) (Nat.le_trans (rule_le _ _ _) (num_le _ _))
theorem goA_mem {T : Type} (one : Sc → T × Sc) (P : T → Prop) (n : Nat) (h1 : ∀ s, (one s).2.l.length ≤ s.l.length) (hP : ∀ s, s.l.length ≤ n → P (one s).1) :
    ∀ (f : Nat) (acc : List T) (s : Sc), (∀ x ∈ acc, P x) → s.l.length ≤ n → ∀ x ∈ (goA one f acc s).1, P x
  | 0, acc, s, ha, _ => ha
  | f + 1, acc, s, ha, hs => by
    unfold goA
    split
    · refine goA_mem one P n h1 hP f _ _ (fun x hx => ?_) (Nat.le_trans (h1 s) hs)
      rcases List.mem_append.1 hx with h | h
      · exact ha x h
      · simp only [List.mem_singleton] at h
        subst h
        exact hP s hs
    · exact ha
theorem goN_le : ∀ (f : Nat) (acc : List Qu) (s : Sc), (goN f acc s).2.l.length ≤ s.l.length
  | 0, _, _ => Nat.le_refl _
  | f + 1, _, s => Nat.le_trans (goN_le f _ _) (oneQ_le s)
def re0 : Re := ⟨[], [], [], [], [], 0, 0, 0, 0⟩
/-- A realm's parts, taken. -/
def partsP (l : List UInt8) : Re × Sc :=
  let a := allP oneL ⟨l, 0⟩
  let b := allP takeP a.2
  let c := allP oneA b.2
  let d := allP oneG c.2
  let q := goN a.1.length [] d.2
  let o := takeP q.2
  let u := takeP o.2
  let t := takeP u.2
  let n := takeP t.2
  (⟨a.1, b.1, c.1, d.1, q.1, o.1, u.1, t.1, n.1⟩, n.2)
def readP (l : List UInt8) : Re × Int :=
  if (partsP l).2.fin = 0 then (if mayBe (partsP l).1 = true then ((partsP l).1, 0) else (re0, 2)) else (re0, (partsP l).2.fin)
theorem take1_le (s : Sc) (n : Nat) : (s.take n).1.length ≤ s.l.length := by
  unfold Sc.take
  split
  · split
    · simp only [List.length_take]; omega
    · simp
  · simp
theorem text_size (s : Sc) (m : Int) : (s.text m).1.length ≤ s.l.length := by
  unfold Sc.text
  exact Nat.le_trans (take1_le _ _) (Nat.le_trans (rule_le _ _ _) (num_le _ _))
theorem parts_sized (l : List UInt8) (hl : l.length ≤ 140737488355328) : Sized (partsP l).1 := by
  have hs : ∀ s : Sc, s.l.length ≤ 140737488355328 → (oneA s).1.name.size ≤ 9223372036854775807 ∧ (oneA s).1.secret.size ≤ 9223372036854775807 := by
    intro s hs
    have h1 := text_size s 12
    have h2 := text_size (s.text 12).2 12
    have h3 := text_le s 12
    have e1 : (oneA s).1.name.size = (s.text 12).1.length := by simp [oneA, ByteArray.size]
    have e2 : (oneA s).1.secret.size = ((s.text 12).2.text 12).1.length := by simp [oneA, ByteArray.size]
    omega
  have hb : (allP takeP (allP oneL ⟨l, 0⟩).2).2.l.length ≤ 140737488355328 := Nat.le_trans (allP_le takeP takeP_le _) (Nat.le_trans (allP_le oneL oneL_le _) hl)
  exact goA_mem oneA _ 140737488355328 oneA_le hs _ [] _ (fun x hx => by cases hx) (Nat.le_trans (rule_le _ _ _) (Nat.le_trans (num_le _ _) hb))

theorem info100 : (Tryz.prog.info? 100).map (fun i => (i.zero, i.size, i.bytes)) = some (some (.agg #[.int .i64 0, .int .i64 0, .int .i64 0, .int .i64 0, .int .i64 0, .int .u64 0]), 6, 48) := by kernel_rfl
def OwnQ (w : World) (base : Nat) (v : Value) (l : List Qu) : Prop := w.ownsRow base 100 6 v l.length (l.flatMap qcs)
theorem appQ (W : World) (base : Nat) (v : Value) (l : List Qu) (x : Qu) (hown : OwnQ W base v l) (hl : l.length ≤ 1000) (hb : base ≤ W.heap.size) :
    ∃ v' w', (Builtin.append_ #[26, 26] 26 #[v, .slice (some ⟨W.heap.size, 0, none⟩) 1 1]).run Tryz.prog (W.alloc (.cells #[.int .i64 x.rooms, .int .i64 x.exits, .int .i64 x.items, .int .i64 x.mails, .int .i64 x.trades, .int .u64 (x.cap.toNat : Int)] 100)) = .ok v' w' ∧ OwnQ w' base v' (l ++ [x]) ∧ Below base W w' := by
  obtain ⟨i0, hi, hx⟩ := Option.map_eq_some_iff.1 info100
  simp only [Prod.mk.injEq] at hx
  obtain ⟨hz0, hz1, hz2⟩ := hx
  have ho := World.ownsRow.alloc (show W.ownsRow base 100 6 v l.length (l.flatMap qcs) from hown) (.cells #[.int .i64 x.rooms, .int .i64 x.exits, .int .i64 x.items, .int .i64 x.mails, .int .i64 x.trades, .int .u64 (x.cap.toNat : Int)] 100)
  have hsz : (W.alloc (.cells #[.int .i64 x.rooms, .int .i64 x.exits, .int .i64 x.items, .int .i64 x.mails, .int .i64 x.trades, .int .u64 (x.cap.toNat : Int)] 100)).heap.size = W.heap.size + 1 := by simp
  obtain ⟨v', w', hr, h5, h6, _⟩ := run_append_own (P := Tryz.prog) (W.alloc (.cells #[.int .i64 x.rooms, .int .i64 x.exits, .int .i64 x.items, .int .i64 x.mails, .int .i64 x.trades, .int .u64 (x.cap.toNat : Int)] 100)) base 26 26 100 i0 (.agg #[.int .i64 0, .int .i64 0, .int .i64 0, .int .i64 0, .int .i64 0, .int .u64 0]) 6 48 Tryz.underlying26 hi hz0 hz1 hz2 rfl (by decide) v l.length (l.flatMap qcs) ho ⟨W.heap.size, 0, none⟩ 1 1 [.int .i64 x.rooms, .int .i64 x.exits, .int .i64 x.items, .int .i64 x.mails, .int .i64 x.trades, .int .u64 (x.cap.toNat : Int)] rfl (row_at rfl)
    (fun u hu => by
      simp only [List.mem_cons, List.not_mem_nil, or_false] at hu
      rcases hu with rfl | rfl | rfl | rfl | rfl | rfl <;> rfl) (by unfold maxLen; omega) (by omega) (by rw [hsz]; omega)
  have hbl : Below base _ w' := below_rows ho h6 (by rw [hsz]; omega)
  exact ⟨v', w', hr, by unfold OwnQ; rw [List.length_append, List.flatMap_append]; exact h5, ((Below.refl _ _).alloc hb _).trans hbl⟩
end Go.Proofs.YtmegdgeiikhflaaGreat.CD

namespace Go.Proofs.YtmegdgeiikhflaaGreat.CE
set_option maxRecDepth 100000
open Go Go.RowKit Go.Lib Go.Proofs.YtmegdgeiikhflaaGreat Go.Proofs.YtmegdgeiikhflaaGreat.Facts Go.Proofs.YtmegdgeiikhflaaGreat.Bytes Go.Proofs.YtmegdgeiikhflaaGreat.Plain Go.Proofs.YtmegdgeiikhflaaGreat.Ints Go.Proofs.YtmegdgeiikhflaaGreat.LBox Go.Proofs.YtmegdgeiikhflaaGreat.RRows Go.Proofs.YtmegdgeiikhflaaGreat.Puts Go.Proofs.YtmegdgeiikhflaaGreat.Scan Go.Proofs.YtmegdgeiikhflaaGreat.Take Go.Proofs.YtmegdgeiikhflaaGreat.Nums Go.Proofs.YtmegdgeiikhflaaGreat.BA Go.Proofs.YtmegdgeiikhflaaGreat.BB Go.Proofs.YtmegdgeiikhflaaGreat.BC Go.Proofs.YtmegdgeiikhflaaGreat.BD Go.Proofs.YtmegdgeiikhflaaGreat.CA Go.Proofs.YtmegdgeiikhflaaGreat.CB Go.Proofs.YtmegdgeiikhflaaGreat.CC Go.Proofs.YtmegdgeiikhflaaGreat.CD Go.Proofs.YtmegdgeiikhflaaGreat.RSmall Go.Proofs.YtmegdgeiikhflaaGreat.RRules Go.Proofs.YtmegdgeiikhflaaGreat.RRule3 Go.Proofs.YtmegdgeiikhflaaGreat.RRight


theorem one_app {P : Program} {ops : Array Oper} {o : Oper} {ac : Act} {w : World} {R : World → World → Prop} {J' : Value → World → Prop} {g : Value → World → Prop}
    (hgd : o.guard = none) (s x : Operand) (t : TypeId) (ho : o.op = .call { callee := .builtin .append, args := #[s, x], argTypes := #[t, t] }) (vs vx : Value) (hs : ac.eval s = vs) (hx : ac.eval x = vx) (v' : Value) (w' : World)
    (hr : (Builtin.append_ #[t, t] o.type #[vs, vx]).run P w = .ok v' w') (h : R w w' ∧ J' v' w' ∧ g v' w') : Marks.one P ops o ac w R J' g := by
  unfold Marks.one
  rw [if_pos (by unfold Region.wanted; rw [hgd])]
  unfold execOp
  simp only [ho, resolve, invoke, builtin, Sem.run_bind, Sem.run_pure, Result.andThen_ok, List.map_toArray, List.map_cons, List.map_nil, hs, hx, hr]
  exact h

/-- Where Read stands. -/
structure St (w : World) (p : Value) (D : Nat) (s : Sc) (xs : Array Value) (W : World) : Prop where
  grew : Grew w W
  res : W.heap[w.heap.size]? = some (.cells #[.slice none 0 0, .slice none 0 0, .slice none 0 0, .slice none 0 0, .slice none 0 0, .int .i64 0, .int .i64 0, .int .i64 0, .int .i64 0] 28 (0, 0))
  box : W.heap[D]? = some (.cells xs 28 (0, 0))
  scan : SC W (w.heap.size + 1) D p s
theorem St.lt {w W : World} {p : Value} {D : Nat} {s : Sc} {xs : Array Value} (h : St w p D s xs W) : w.heap.size < W.heap.size := (Array.getElem?_eq_some_iff.1 h.res).1
theorem St.ltD {w W : World} {p : Value} {D : Nat} {s : Sc} {xs : Array Value} (h : St w p D s xs W) : D < W.heap.size := (Array.getElem?_eq_some_iff.1 h.box).1
theorem St.kp {w W W' : World} {p : Value} {D b5 : Nat} {s s' : Sc} {xs xs' : Array Value} (h : St w p D s xs W) (hk : Kp b5 p D W W') (h5 : w.heap.size < b5) (hD : w.heap.size < D)
    (hb : W'.heap[D]? = some (.cells xs' 28 (0, 0))) (hs : SC W' (w.heap.size + 1) D p s') : St w p D s' xs' W' :=
  ⟨hk.grew h.grew (by omega) (by omega) (fun k e => by have := blk_ge h.scan k e; omega), (hk.block _ h5 (by omega) (fun e => by have := blk_ge h.scan _ e; omega)).trans h.res, hb, hs⟩
theorem St.chg {w W W' : World} {p : Value} {D : Nat} {s s' : Sc} {xs : Array Value} (h : St w p D s xs W) (hc : Chg p W W') (hD : w.heap.size < D) (hs : SC W' (w.heap.size + 1) D p s') : St w p D s' xs W' :=
  h.kp (Kp.chg hc (Nat.le_refl _)) h.lt hD (keepC h.scan (Nat.le_refl _) h.box hc) hs
theorem St.set {w W : World} {p : Value} {D : Nat} {s : Sc} {xs : Array Value} (h : St w p D s xs W) (hD : w.heap.size < D) (i : Nat) (x : Value) : St w p D s (xs.setIfInBounds i x) (W.setCell ⟨D, i, none⟩ x) :=
  h.kp (Kp.set W i x) h.lt hD (by rw [heap_setCell_same _ _ _ _ _ _ h.box]) (SC.set h.scan (Nat.le_refl _))
theorem St.below {w W W' : World} {p : Value} {D b5 : Nat} {s : Sc} {xs : Array Value} (h : St w p D s xs W) (hb : Below b5 W W') (hD5 : D < b5) (hD : w.heap.size < D) : St w p D s xs W' :=
  h.kp (Kp.below hb) (by omega) hD ((hb.block D hD5).trans h.box) (SC.below h.scan hb (by omega))

/-- The drawn region of Read: a quota taken, laid behind the others, put into the realm. -/
def JQ (A0 A1 : World → Prop) (cs : Array Value) (PB : World → Value → Prop) (PC : World → Prop) (m : Nat → Bool) (u : Nat → Value) (W : World) : Prop :=
  (m 3 = false ∧ m 4 = false ∧ m 5 = false ∧ m 7 = false ∧ A0 W) ∨
  (m 3 = true ∧ m 4 = false ∧ m 5 = false ∧ m 7 = false ∧ A1 W) ∨
  (m 3 = true ∧ m 4 = true ∧ m 5 = false ∧ m 7 = false ∧ ∃ W1, A1 W1 ∧ W = W1.alloc (.cells cs 100) ∧ u 4 = .slice (some ⟨W1.heap.size, 0, none⟩) 1 1) ∨
  (m 3 = true ∧ m 4 = true ∧ m 5 = true ∧ m 7 = false ∧ PB W (u 5)) ∨
  (m 3 = true ∧ m 4 = true ∧ m 5 = true ∧ m 7 = true ∧ m 1 = true ∧ PC W)
section
variable {A0 A1 : World → Prop} {cs : Array Value} {PB : World → Value → Prop} {PC : World → Prop} {m : Nat → Bool} {u : Nat → Value} {W W' : World}
theorem JQ.start (h : A0 W) : JQ A0 A1 cs PB PC (fun _ => false) (fun _ => undef) W := .inl ⟨rfl, rfl, rfl, rfl, h⟩
theorem JQ.keep (h : JQ A0 A1 cs PB PC m u W) {k : Nat} (hk : k = 0 ∨ k = 1 ∨ k = 2 ∨ k = 6) (v : Value) : JQ A0 A1 cs PB PC (Marks.upd m k) (Marks.updv u k v) W := by
  have e3 : Marks.upd m k 3 = m 3 := Marks.upd_other m (by omega)
  have e4 : Marks.upd m k 4 = m 4 := Marks.upd_other m (by omega)
  have e5 : Marks.upd m k 5 = m 5 := Marks.upd_other m (by omega)
  have e7 : Marks.upd m k 7 = m 7 := Marks.upd_other m (by omega)
  have u4 : Marks.updv u k v 4 = u 4 := Marks.updv_other u v (by omega)
  have u5 : Marks.updv u k v 5 = u 5 := Marks.updv_other u v (by omega)
  have e1 : m 1 = true → Marks.upd m k 1 = true := fun h => by
    unfold Marks.upd
    split
    · rfl
    · exact h
  unfold JQ
  rw [e3, e4, e5, e7, u4, u5]
  rcases h with h | h | h | h | ⟨a, b, c, d, h1, hc⟩
  · exact .inl h
  · exact .inr (.inl h)
  · exact .inr (.inr (.inl h))
  · exact .inr (.inr (.inr (.inl h)))
  · exact .inr (.inr (.inr (.inr ⟨a, b, c, d, e1 h1, hc⟩)))
theorem JQ.row (h : JQ A0 A1 cs PB PC m u W) (h1 : m 1 = false) (P : World → Prop) (a0 : ∀ W, A0 W → P W) (a1 : ∀ W, A1 W → P W) (a2 : ∀ W, A1 W → P (W.alloc (.cells cs 100))) (b : ∀ W v, PB W v → P W) : P W := by
  rcases h with ⟨_, _, _, _, h⟩ | ⟨_, _, _, _, h⟩ | ⟨_, _, _, _, W1, h, rfl, _⟩ | ⟨_, _, _, _, h⟩ | ⟨_, _, _, _, h, _⟩
  · exact a0 _ h
  · exact a1 _ h
  · exact a2 _ h
  · exact b _ _ h
  · rw [h1] at h; cases h
theorem JQ.at3 (h : JQ A0 A1 cs PB PC m u W) (h3 : m 3 = false) : A0 W ∧ m 4 = false ∧ m 5 = false ∧ m 7 = false := by
  rcases h with ⟨_, a, b, c, h⟩ | ⟨h, _⟩ | ⟨h, _⟩ | ⟨h, _⟩ | ⟨h, _⟩
  · exact ⟨h, a, b, c⟩
  all_goals rw [h3] at h; cases h
theorem JQ.at4 (h : JQ A0 A1 cs PB PC m u W) (h3 : m 3 = true) (h4 : m 4 = false) : A1 W ∧ m 5 = false ∧ m 7 = false := by
  rcases h with ⟨h, _⟩ | ⟨_, _, b, c, h⟩ | ⟨_, h, _⟩ | ⟨_, h, _⟩ | ⟨_, h, _⟩
  · rw [h3] at h; cases h
  · exact ⟨h, b, c⟩
  all_goals rw [h4] at h; cases h
theorem JQ.at5 (h : JQ A0 A1 cs PB PC m u W) (h4 : m 4 = true) (h5 : m 5 = false) : m 3 = true ∧ m 7 = false ∧ ∃ W1, A1 W1 ∧ W = W1.alloc (.cells cs 100) ∧ u 4 = .slice (some ⟨W1.heap.size, 0, none⟩) 1 1 := by
  rcases h with ⟨_, h, _⟩ | ⟨_, h, _⟩ | ⟨a, _, _, c, h⟩ | ⟨_, _, h, _⟩ | ⟨_, _, h, _⟩
  · rw [h4] at h; cases h
  · rw [h4] at h; cases h
  · exact ⟨a, c, h⟩
  all_goals rw [h5] at h; cases h
theorem JQ.at7 (h : JQ A0 A1 cs PB PC m u W) (h5 : m 5 = true) (h7 : m 7 = false) : m 3 = true ∧ m 4 = true ∧ PB W (u 5) := by
  rcases h with ⟨_, _, h, _⟩ | ⟨_, _, h, _⟩ | ⟨_, _, h, _⟩ | ⟨a, b, _, _, h⟩ | ⟨_, _, _, h, _⟩
  · rw [h5] at h; cases h
  · rw [h5] at h; cases h
  · rw [h5] at h; cases h
  · exact ⟨a, b, h⟩
  · rw [h7] at h; cases h
theorem JQ.fin (h : JQ A0 A1 cs PB PC m u W) (h7 : m 7 = true) : PC W := by
  rcases h with ⟨_, _, _, h, _⟩ | ⟨_, _, _, h, _⟩ | ⟨_, _, _, h, _⟩ | ⟨_, _, _, h, _⟩ | ⟨_, _, _, _, _, h⟩
  · rw [h7] at h; cases h
  · rw [h7] at h; cases h
  · rw [h7] at h; cases h
  · rw [h7] at h; cases h
  · exact h
theorem JQ.put3 (h : JQ A0 A1 cs PB PC m u W) (h3 : m 3 = false) (v : Value) (ha : A1 W') : JQ A0 A1 cs PB PC (Marks.upd m 3) (Marks.updv u 3 v) W' := by
  obtain ⟨_, h4, h5, h7⟩ := h.at3 h3
  exact .inr (.inl ⟨Marks.upd_same m 3, by rw [Marks.upd_other m (by decide)]; exact h4, by rw [Marks.upd_other m (by decide)]; exact h5, by rw [Marks.upd_other m (by decide)]; exact h7, ha⟩)
theorem JQ.put4 (h : JQ A0 A1 cs PB PC m u W) (h3 : m 3 = true) (h4 : m 4 = false) : JQ A0 A1 cs PB PC (Marks.upd m 4) (Marks.updv u 4 (.slice (some ⟨W.heap.size, 0, none⟩) 1 1)) (W.alloc (.cells cs 100)) := by
  obtain ⟨ha, h5, h7⟩ := h.at4 h3 h4
  exact .inr (.inr (.inl ⟨by rw [Marks.upd_other m (by decide)]; exact h3, Marks.upd_same m 4, by rw [Marks.upd_other m (by decide)]; exact h5, by rw [Marks.upd_other m (by decide)]; exact h7, W, ha, rfl, Marks.updv_same u 4 _⟩))
theorem JQ.put5 (h : JQ A0 A1 cs PB PC m u W) (h4 : m 4 = true) (h5 : m 5 = false) (v : Value) (hb : PB W' v) : JQ A0 A1 cs PB PC (Marks.upd m 5) (Marks.updv u 5 v) W' := by
  obtain ⟨h3, h7, _⟩ := h.at5 h4 h5
  exact .inr (.inr (.inr (.inl ⟨by rw [Marks.upd_other m (by decide)]; exact h3, by rw [Marks.upd_other m (by decide)]; exact h4, Marks.upd_same m 5, by rw [Marks.upd_other m (by decide)]; exact h7, by rw [Marks.updv_same]; exact hb⟩)))
theorem JQ.put7 (h : JQ A0 A1 cs PB PC m u W) (h5 : m 5 = true) (h7 : m 7 = false) (h1 : m 1 = true) (v : Value) (hc : PC W') : JQ A0 A1 cs PB PC (Marks.upd m 7) (Marks.updv u 7 v) W' := by
  obtain ⟨h3, h4, _⟩ := h.at7 h5 h7
  exact .inr (.inr (.inr (.inr ⟨by rw [Marks.upd_other m (by decide)]; exact h3, by rw [Marks.upd_other m (by decide)]; exact h4, by rw [Marks.upd_other m (by decide)]; exact h5, Marks.upd_same m 7, by rw [Marks.upd_other m (by decide)]; exact h1, hc⟩)))
end
end Go.Proofs.YtmegdgeiikhflaaGreat.CE
namespace Go.Proofs.YtmegdgeiikhflaaGreat.CF
set_option maxRecDepth 100000
open Go Go.RowKit Go.Lib Go.Proofs.YtmegdgeiikhflaaGreat Go.Proofs.YtmegdgeiikhflaaGreat.Facts Go.Proofs.YtmegdgeiikhflaaGreat.Bytes Go.Proofs.YtmegdgeiikhflaaGreat.Plain Go.Proofs.YtmegdgeiikhflaaGreat.Ints Go.Proofs.YtmegdgeiikhflaaGreat.LBox Go.Proofs.YtmegdgeiikhflaaGreat.RRows Go.Proofs.YtmegdgeiikhflaaGreat.Puts Go.Proofs.YtmegdgeiikhflaaGreat.Scan Go.Proofs.YtmegdgeiikhflaaGreat.Take Go.Proofs.YtmegdgeiikhflaaGreat.Nums Go.Proofs.YtmegdgeiikhflaaGreat.BA Go.Proofs.YtmegdgeiikhflaaGreat.BB Go.Proofs.YtmegdgeiikhflaaGreat.BC Go.Proofs.YtmegdgeiikhflaaGreat.BD Go.Proofs.YtmegdgeiikhflaaGreat.CA Go.Proofs.YtmegdgeiikhflaaGreat.CB Go.Proofs.YtmegdgeiikhflaaGreat.CC Go.Proofs.YtmegdgeiikhflaaGreat.CD Go.Proofs.YtmegdgeiikhflaaGreat.CE Go.Proofs.YtmegdgeiikhflaaGreat.RSmall Go.Proofs.YtmegdgeiikhflaaGreat.RRules Go.Proofs.YtmegdgeiikhflaaGreat.RRule3 Go.Proofs.YtmegdgeiikhflaaGreat.RRight


theorem Tall.eq {T : Type} {f g : FuncId} {own : World → Nat → Value → List T → Prop} {one : Sc → T × Sc} (h : Tall f g own one) (w : World) (lo hi : Nat) (p : Value) (s : Sc) (X : List T) (s1 : Sc)
    (hs : SC w lo hi p s) (hh : hi ≤ w.heap.size) (hl : s.l.length ≤ 140737488355328) (ho : allP one s = (X, s1)) :
    Calls Tryz.prog f #[p, .int .i64 8, .func (.func g) #[] #[]] w fun e w' => ∃ v, e = .returned v ∧ own w' w.heap.size v X ∧ SC w' lo hi p s1 ∧ Chg p w w' := by
  have := h w lo hi p s hs hh hl
  rwa [ho] at this
theorem own_grewx {W W' : World} {base t n c : Nat} {v : Value} {xs : List Value} (ho : W.ownsRow base t n v c xs) (hg : Grew W W') : W'.ownsRow base t n v c xs :=
  own_chg ho (Chg.of_grew (p := .pointer none) hg) fun b hb => by cases hb
theorem own_sl {W : World} {base t n c : Nat} {v : Value} {xs : List Value} (ho : W.ownsRow base t n v c xs) : ∃ A cap, v = .slice A c cap := by
  rcases ho.2 with ⟨rfl, h, _⟩ | ⟨g, cap, cur, rfl, _⟩
  · exact ⟨_, _, rfl⟩
  · exact ⟨_, _, rfl⟩

theorem own_keepK {W W' : World} {lo base t n c : Nat} {v : Value} {xs : List Value} (ho : W.ownsRow base t n v c xs) (hb : lo ≤ base) (hk : ∀ b, lo ≤ b → b < W.heap.size → W'.heap[b]? = W.heap[b]?) : W'.ownsRow base t n v c xs := by
  refine ⟨ho.1, ho.2.imp id fun ⟨g, cap, cur, h1, h2, h3, h4⟩ => ⟨g, cap, cur, h1, h2, ?_, h4⟩⟩
  exact (hk g (by omega) (Array.getElem?_eq_some_iff.1 h3).1).trans h3
theorem zero_is (W : World) : ReIs W (.agg #[.slice none 0 0, .slice none 0 0, .slice none 0 0, .slice none 0 0, .slice none 0 0, .int .i64 0, .int .i64 0, .int .i64 0, .int .i64 0]) re0 :=
  ⟨_, _, _, _, _, rfl, rw_none _, ⟨none, 0, rfl, Nat.le_refl _, by decide, fun _ => rfl, fun ad ha => by cases ha⟩, rw_none _, rw_none _, rw_none _⟩
theorem re_is {W : World} {b1 b2 b3 b4 b5 : Nat} {v0 v1 v2 v3 v4 : Value} {A : List La} {B : List Int} {C : List Ac} {G : List Gu} {Q : List Qu} (h0 : OwnL W b1 v0 A) (h1 : OwnI W b2 v1 B) (h2 : OwnA W b3 v2 C) (h3 : OwnG W b4 v3 G) (h4 : OwnQ W b5 v4 Q) (o u t n : Int) :
    ReIs W (.agg #[v0, v1, v2, v3, v4, .int .i64 o, .int .i64 u, .int .i64 t, .int .i64 n]) ⟨A, B, C, G, Q, o, u, t, n⟩ :=
  ⟨_, _, _, _, _, rfl, Rw.of_own h0 fun h => by rw [List.eq_nil_of_length_eq_zero h]; rfl, Is.of_own h1 rfl, Rw.of_own h2 fun h => by rw [List.eq_nil_of_length_eq_zero h]; rfl,
    Rw.of_own h3 fun h => by rw [List.eq_nil_of_length_eq_zero h]; rfl, Rw.of_own h4 fun h => by rw [List.eq_nil_of_length_eq_zero h]; rfl⟩

set_option maxHeartbeats 4000000 in
/-- A realm out of bytes. -/
theorem read_any (S : Nat → Prop) (v : Value) (l : List UInt8) (w : World) (h : Rd S w v l) (hl : l.length ≤ 140737488355328) :
    Calls Tryz.prog 27 #[v] w fun e w' => ∃ v', e = .returned (.tuple #[v', .int .i64 (readP l).2]) ∧ ReIs w' v' (readP l).1 ∧ Grew w w' ∧ ∀ W', (∀ b, w.heap.size ≤ b → b < w'.heap.size → W'.heap[b]? = w'.heap[b]?) → ReIs W' v' (readP l).1 := by
  obtain ⟨⟨A, s1⟩, ha1⟩ : ∃ q, allP oneL ⟨l, 0⟩ = q := ⟨_, rfl⟩
  have lx1 := allP_le oneL oneL_le ⟨l, 0⟩
  rw [ha1] at lx1
  have ly1 := Nat.le_trans lx1 hl
  obtain ⟨⟨B, s2⟩, ha2⟩ : ∃ q, allP takeP s1 = q := ⟨_, rfl⟩
  have lx2 := allP_le takeP takeP_le s1
  rw [ha2] at lx2
  have ly2 := Nat.le_trans lx2 ly1
  obtain ⟨⟨C, s3⟩, ha3⟩ : ∃ q, allP oneA s2 = q := ⟨_, rfl⟩
  have lx3 := allP_le oneA oneA_le s2
  rw [ha3] at lx3
  have ly3 := Nat.le_trans lx3 ly2
  obtain ⟨⟨G, s4⟩, ha4⟩ : ∃ q, allP oneG s3 = q := ⟨_, rfl⟩
  have lx4 := allP_le oneG oneG_le s3
  rw [ha4] at lx4
  have ly4 := Nat.le_trans lx4 ly3
  obtain ⟨⟨Q, s5⟩, ha5⟩ : ∃ q, goN A.length [] s4 = q := ⟨_, rfl⟩
  have lx5 := goN_le A.length [] s4
  rw [ha5] at lx5
  have ly5 := Nat.le_trans lx5 ly4
  obtain ⟨⟨o, s6⟩, ha6⟩ : ∃ q, takeP s5 = q := ⟨_, rfl⟩
  have lx6 := takeP_le s5
  rw [ha6] at lx6
  have ly6 := Nat.le_trans lx6 ly5
  obtain ⟨⟨u, s7⟩, ha7⟩ : ∃ q, takeP s6 = q := ⟨_, rfl⟩
  have lx7 := takeP_le s6
  rw [ha7] at lx7
  have ly7 := Nat.le_trans lx7 ly6
  obtain ⟨⟨t, s8⟩, ha8⟩ : ∃ q, takeP s7 = q := ⟨_, rfl⟩
  have lx8 := takeP_le s7
  rw [ha8] at lx8
  have ly8 := Nat.le_trans lx8 ly7
  obtain ⟨⟨n, s9⟩, ha9⟩ : ∃ q, takeP s8 = q := ⟨_, rfl⟩
  have lx9 := takeP_le s8
  rw [ha9] at lx9
  have ly9 := Nat.le_trans lx9 ly8
  have hR : partsP l = (⟨A, B, C, G, Q, o, u, t, n⟩, s9) := by simp only [partsP, ha1, ha2, ha3, ha4, ha5, ha6, ha7, ha8, ha9]
  have hsz := parts_sized l hl
  rw [hR] at hsz
  have hAl := allP_len oneL ⟨l, 0⟩
  rw [ha1] at hAl
  have HSZ := Lib.hid hsz
  have HAL := Lib.hid hAl
  have HRD := Lib.hid hR
  have HV := Lib.hid h
  have HL := Lib.hid hl
  have HA1 := Lib.hid ha1
  have HL1 := Lib.hid ly1
  have HA2 := Lib.hid ha2
  have HL2 := Lib.hid ly2
  have HA3 := Lib.hid ha3
  have HL3 := Lib.hid ly3
  have HA4 := Lib.hid ha4
  have HL4 := Lib.hid ly4
  have HA5 := Lib.hid ha5
  have HL5 := Lib.hid ly5
  have HA6 := Lib.hid ha6
  have HL6 := Lib.hid ly6
  have HA7 := Lib.hid ha7
  have HL7 := Lib.hid ly7
  have HA8 := Lib.hid ha8
  have HL8 := Lib.hid ly8
  have HA9 := Lib.hid ha9
  have HL9 := Lib.hid ly9
  clear h hl hR hsz hAl ha1 lx1 ly1 ha2 lx2 ly2 ha3 lx3 ly3 ha4 lx4 ly4 ha5 lx5 ly5 ha6 lx6 ly6 ha7 lx7 ly7 ha8 lx8 ly8 ha9 lx9 ly9
  have g0 : Grew w (w.alloc (.cells #[.slice none 0 0, .slice none 0 0, .slice none 0 0, .slice none 0 0, .slice none 0 0, .int .i64 0, .int .i64 0, .int .i64 0, .int .i64 0] 28)) := by unfold Grew; go_grown
  have G0 := Lib.hid g0
  have B0 := Lib.hid (heap_alloc_new w (.cells #[.slice none 0 0, .slice none 0 0, .slice none 0 0, .slice none 0 0, .slice none 0 0, .int .i64 0, .int .i64 0, .int .i64 0, .int .i64 0] 28))
  clear g0
  go_enter Tryz.func27, Tryz.ntmps27
  go_wp2_with fail
  refine (from_any S v l _ (HV.out.grew G0.out) HL.out).mono ?_
  rintro e9 w1 ⟨p, rfl, q1, g1⟩
  have hz : (w.alloc (.cells #[.slice none 0 0, .slice none 0 0, .slice none 0 0, .slice none 0 0, .slice none 0 0, .int .i64 0, .int .i64 0, .int .i64 0, .int .i64 0] 28)).heap.size = w.heap.size + 1 := by simp
  rw [hz] at q1
  have hD : w.heap.size < w1.heap.size := by have := g1.size; omega
  have HD := Lib.hid hD
  have ga : Grew w1 (w1.alloc (.cells #[.slice none 0 0, .slice none 0 0, .slice none 0 0, .slice none 0 0, .slice none 0 0, .int .i64 0, .int .i64 0, .int .i64 0, .int .i64 0] 28)) := by unfold Grew; go_grown
  have HST0 : Hid (St w p w1.heap.size ⟨l, 0⟩ #[.slice none 0 0, .slice none 0 0, .slice none 0 0, .slice none 0 0, .slice none 0 0, .int .i64 0, .int .i64 0, .int .i64 0, .int .i64 0] (w1.alloc (.cells #[.slice none 0 0, .slice none 0 0, .slice none 0 0, .slice none 0 0, .slice none 0 0, .int .i64 0, .int .i64 0, .int .i64 0, .int .i64 0] 28))) := Lib.hid ⟨(G0.out.trans g1).trans ga, keepB (keepB B0.out g1) ga, heap_alloc_new w1 _, q1.grew ga⟩
  have HP : Hid (∀ k, blk p = some k → k < w1.heap.size + 1) := Lib.hid fun k hk => Nat.lt_succ_of_lt (blk_lt q1 k hk)
  clear hz hD ga q1 g1
  go_wp2_with fail
  refine (Tall.eq all_L _ (w.heap.size + 1) w1.heap.size p ⟨l, 0⟩ A s1 HST0.out.scan (Nat.le_of_lt HST0.out.ltD) HL.out HA1.out).mono ?_
  rintro e9 w2 ⟨v0, rfl, hown, q1, c1⟩
  have st := HST0.out.chg c1 HD.out q1
  obtain ⟨A0', cp0', rfl⟩ := own_sl hown
  have HST1 : Hid (St w p w1.heap.size s1 #[(.slice A0' A.length cp0'), .slice none 0 0, .slice none 0 0, .slice none 0 0, .slice none 0 0, .int .i64 0, .int .i64 0, .int .i64 0, .int .i64 0] (w2.setCell ⟨w1.heap.size, 0, none⟩ (.slice A0' A.length cp0'))) := Lib.hid (st.set HD.out 0 (.slice A0' A.length cp0'))
  have HO0_1 : Hid (OwnL (w2.setCell ⟨w1.heap.size, 0, none⟩ (.slice A0' A.length cp0')) (w1.heap.size + 1) (.slice A0' A.length cp0') A) := Lib.hid (own_set (World.ownsRow.mono hown HST0.out.ltD) (Nat.lt_succ_self _))
  have HX0 := Lib.hid st.box
  clear st hown q1 c1 
  obtain ⟨c0, c1, c2, c3, c4, c5, c6, c7, c8⟩ := nine_c HX0.out
  have fz := frz (k := 0) HX0.out
  go_wp2_with fail
  refine (Tall.eq all_I _ (w.heap.size + 1) w1.heap.size p s1 B s2 HST1.out.scan (Nat.le_of_lt HST1.out.ltD) HL1.out HA2.out).mono ?_
  rintro e9 w3 ⟨v1, rfl, hown, q1, c1⟩
  have st := HST1.out.chg c1 HD.out q1
  obtain ⟨A1', cp1', rfl⟩ := own_sl hown
  have HST2 : Hid (St w p w1.heap.size s2 #[(.slice A0' A.length cp0'), (.slice A1' B.length cp1'), .slice none 0 0, .slice none 0 0, .slice none 0 0, .int .i64 0, .int .i64 0, .int .i64 0, .int .i64 0] (w3.setCell ⟨w1.heap.size, 1, none⟩ (.slice A1' B.length cp1'))) := Lib.hid (st.set HD.out 1 (.slice A1' B.length cp1'))
  have HO1_2 : Hid (OwnI (w3.setCell ⟨w1.heap.size, 1, none⟩ (.slice A1' B.length cp1')) (w1.heap.size + 1) (.slice A1' B.length cp1') B) := Lib.hid (own_set (World.ownsRow.mono hown HST1.out.ltD) (Nat.lt_succ_self _))
  have HO0_2 : Hid (OwnL (w3.setCell ⟨w1.heap.size, 1, none⟩ (.slice A1' B.length cp1')) (w1.heap.size + 1) (.slice A0' A.length cp0') A) := Lib.hid (own_set (own_chg HO0_1.out c1 HP.out) (Nat.lt_succ_self _))
  have HX1 := Lib.hid st.box
  clear st hown q1 c1 HO0_1
  obtain ⟨c0, c1, c2, c3, c4, c5, c6, c7, c8⟩ := nine_c HX1.out
  have fz := frz (k := 1) HX1.out
  go_wp2_with fail
  refine (Tall.eq all_A _ (w.heap.size + 1) w1.heap.size p s2 C s3 HST2.out.scan (Nat.le_of_lt HST2.out.ltD) HL2.out HA3.out).mono ?_
  rintro e9 w4 ⟨v2, rfl, hown, q1, c1⟩
  have st := HST2.out.chg c1 HD.out q1
  obtain ⟨A2', cp2', rfl⟩ := own_sl hown
  have HST3 : Hid (St w p w1.heap.size s3 #[(.slice A0' A.length cp0'), (.slice A1' B.length cp1'), (.slice A2' C.length cp2'), .slice none 0 0, .slice none 0 0, .int .i64 0, .int .i64 0, .int .i64 0, .int .i64 0] (w4.setCell ⟨w1.heap.size, 2, none⟩ (.slice A2' C.length cp2'))) := Lib.hid (st.set HD.out 2 (.slice A2' C.length cp2'))
  have HO2_3 : Hid (OwnA (w4.setCell ⟨w1.heap.size, 2, none⟩ (.slice A2' C.length cp2')) (w1.heap.size + 1) (.slice A2' C.length cp2') C) := Lib.hid (own_set (World.ownsRow.mono hown HST2.out.ltD) (Nat.lt_succ_self _))
  have HO0_3 : Hid (OwnL (w4.setCell ⟨w1.heap.size, 2, none⟩ (.slice A2' C.length cp2')) (w1.heap.size + 1) (.slice A0' A.length cp0') A) := Lib.hid (own_set (own_chg HO0_2.out c1 HP.out) (Nat.lt_succ_self _))
  have HO1_3 : Hid (OwnI (w4.setCell ⟨w1.heap.size, 2, none⟩ (.slice A2' C.length cp2')) (w1.heap.size + 1) (.slice A1' B.length cp1') B) := Lib.hid (own_set (own_chg HO1_2.out c1 HP.out) (Nat.lt_succ_self _))
  have HX2 := Lib.hid st.box
  clear st hown q1 c1 HO0_2 HO1_2
  obtain ⟨c0, c1, c2, c3, c4, c5, c6, c7, c8⟩ := nine_c HX2.out
  have fz := frz (k := 2) HX2.out
  go_wp2_with fail
  refine (Tall.eq all_G _ (w.heap.size + 1) w1.heap.size p s3 G s4 HST3.out.scan (Nat.le_of_lt HST3.out.ltD) HL3.out HA4.out).mono ?_
  rintro e9 w5 ⟨v3, rfl, hown, q1, c1⟩
  have st := HST3.out.chg c1 HD.out q1
  obtain ⟨A3', cp3', rfl⟩ := own_sl hown
  have HST4 : Hid (St w p w1.heap.size s4 #[(.slice A0' A.length cp0'), (.slice A1' B.length cp1'), (.slice A2' C.length cp2'), (.slice A3' G.length cp3'), .slice none 0 0, .int .i64 0, .int .i64 0, .int .i64 0, .int .i64 0] (w5.setCell ⟨w1.heap.size, 3, none⟩ (.slice A3' G.length cp3'))) := Lib.hid (st.set HD.out 3 (.slice A3' G.length cp3'))
  have HO3_4 : Hid (OwnG (w5.setCell ⟨w1.heap.size, 3, none⟩ (.slice A3' G.length cp3')) (w1.heap.size + 1) (.slice A3' G.length cp3') G) := Lib.hid (own_set (World.ownsRow.mono hown HST3.out.ltD) (Nat.lt_succ_self _))
  have HO0_4 : Hid (OwnL (w5.setCell ⟨w1.heap.size, 3, none⟩ (.slice A3' G.length cp3')) (w1.heap.size + 1) (.slice A0' A.length cp0') A) := Lib.hid (own_set (own_chg HO0_3.out c1 HP.out) (Nat.lt_succ_self _))
  have HO1_4 : Hid (OwnI (w5.setCell ⟨w1.heap.size, 3, none⟩ (.slice A3' G.length cp3')) (w1.heap.size + 1) (.slice A1' B.length cp1') B) := Lib.hid (own_set (own_chg HO1_3.out c1 HP.out) (Nat.lt_succ_self _))
  have HO2_4 : Hid (OwnA (w5.setCell ⟨w1.heap.size, 3, none⟩ (.slice A3' G.length cp3')) (w1.heap.size + 1) (.slice A2' C.length cp2') C) := Lib.hid (own_set (own_chg HO2_3.out c1 HP.out) (Nat.lt_succ_self _))
  have HX3 := Lib.hid st.box
  clear st hown q1 c1 HO0_3 HO1_3 HO2_3
  obtain ⟨c0, c1, c2, c3, c4, c5, c6, c7, c8⟩ := nine_c HX3.out
  have fz := frz (k := 3) HX3.out
  obtain ⟨d0, d1, d2, d3, d4, d5, d6, d7, d8⟩ := nine_c HST4.out.box
  go_wp2
  clear c0 c1 c2 c3 c4 c5 c6 c7 c8 d0 d1 d2 d3 d4 d5 d6 d7 d8 fz
  have HD4 : Hid (w1.heap.size < (w5.setCell ⟨w1.heap.size, 3, none⟩ (.slice A3' G.length cp3')).heap.size) := Lib.hid HST4.out.ltD
  have HP4 : Hid (∀ k, blk p = some k → k < (w5.setCell ⟨w1.heap.size, 3, none⟩ (.slice A3' G.length cp3')).heap.size) := Lib.hid fun k hk => by have := HP.out k hk; have := HD4.out; omega
  go_loopg [24] A.length (fun g s24 wx => ∃ (k : Nat) (acc : List Qu) (sx : Sc) (v4 : Value), k + g = A.length ∧ s24 = .int .i64 k ∧ Hid (acc.length = k) ∧ Hid (OwnQ wx (w5.setCell ⟨w1.heap.size, 3, none⟩ (.slice A3' G.length cp3')).heap.size v4 acc) ∧ Hid (St w p w1.heap.size sx #[(.slice A0' A.length cp0'), (.slice A1' B.length cp1'), (.slice A2' C.length cp2'), (.slice A3' G.length cp3'), v4, .int .i64 0, .int .i64 0, .int .i64 0, .int .i64 0] wx) ∧ Hid (Kp (w5.setCell ⟨w1.heap.size, 3, none⟩ (.slice A3' G.length cp3')).heap.size p w1.heap.size (w5.setCell ⟨w1.heap.size, 3, none⟩ (.slice A3' G.length cp3')) wx) ∧ Hid (sx.l.length ≤ 140737488355328) ∧ Hid (goN g acc sx = (Q, s5)))
  case atStart => exact ⟨0, [], s4, .slice none 0 0, by omega, rfl, Lib.hid rfl, Lib.hid (World.ownsRow_nil _ _ _ _), HST4, Lib.hid (Kp.refl _ _ _ _), HL4, HA5⟩
  case round =>
    clear HST0 HST1 HST2 HST3 HST4
    obtain ⟨k, acc, sx, v4, hkg, rfl, HA, HO, HST, HK, HLx, HG⟩ := hrel
    cases gk with
    | zero =>
      have hkz : ¬ ((k : Int) < (A.length : Int)) := by omega
      have hg := HG.out
      rw [show (0 : Nat) = 0 from rfl] at hg
      unfold goN at hg
      simp only [Prod.mk.injEq] at hg
      obtain ⟨i1, i2⟩ := hg
      have hoq := HO.out
      rw [i1] at hoq
      have hst := HST.out
      rw [i2] at hst
      obtain ⟨A4', cp4', rfl⟩ := own_sl hoq
      have HOQ := Lib.hid hoq
      have HT0 := Lib.hid hst
      have K0 := HK
      clear hoq hst i1 i2 hkg HO HST HG HLx HA
      have HS_ := Lib.hid HT0.out.scan
      have HH_ := Lib.hid (Nat.le_of_lt HT0.out.ltD)
      go_wp2_with fail
      refine (take_one.eq _ (w.heap.size + 1) w1.heap.size p s5 o s6 HS_ HH_ HL5 HA6).mono ?_
      rintro e9 y1 ⟨rfl, q1, c1⟩
      have HT1 := Lib.hid (HT0.out.chg c1 HD.out q1)
      have HOQ1 := Lib.hid (own_chg HOQ.out c1 HP4.out)
      have K1 := Lib.hid (K0.out.trans (Kp.chg c1 K0.out.size))
      clear q1 c1 HS_ HH_
      have HS_ := Lib.hid HT1.out.scan
      have HH_ := Lib.hid (Nat.le_of_lt HT1.out.ltD)
      go_wp2_with fail
      refine (take_one.eq _ (w.heap.size + 1) w1.heap.size p s6 u s7 HS_ HH_ HL6 HA7).mono ?_
      rintro e9 y2 ⟨rfl, q1, c1⟩
      have HT2 := Lib.hid (HT1.out.chg c1 HD.out q1)
      have HOQ2 := Lib.hid (own_chg HOQ1.out c1 HP4.out)
      have K2 := Lib.hid (K1.out.trans (Kp.chg c1 K1.out.size))
      clear q1 c1 HS_ HH_
      have HS_ := Lib.hid HT2.out.scan
      have HH_ := Lib.hid (Nat.le_of_lt HT2.out.ltD)
      go_wp2_with fail
      refine (take_one.eq _ (w.heap.size + 1) w1.heap.size p s7 t s8 HS_ HH_ HL7 HA8).mono ?_
      rintro e9 y3 ⟨rfl, q1, c1⟩
      have HT3 := Lib.hid (HT2.out.chg c1 HD.out q1)
      have HOQ3 := Lib.hid (own_chg HOQ2.out c1 HP4.out)
      have K3 := Lib.hid (K2.out.trans (Kp.chg c1 K2.out.size))
      clear q1 c1 HS_ HH_
      have HS_ := Lib.hid HT3.out.scan
      have HH_ := Lib.hid (Nat.le_of_lt HT3.out.ltD)
      go_wp2_with fail
      refine (take_one.eq _ (w.heap.size + 1) w1.heap.size p s8 n s9 HS_ HH_ HL8 HA9).mono ?_
      rintro e9 y4 ⟨rfl, q1, c1⟩
      have HT4 := Lib.hid (HT3.out.chg c1 HD.out q1)
      have HOQ4 := Lib.hid (own_chg HOQ3.out c1 HP4.out)
      have K4 := Lib.hid (K3.out.trans (Kp.chg c1 K3.out.size))
      clear q1 c1 HS_ HH_
      have HTY : Hid (St w p w1.heap.size s9 #[(.slice A0' A.length cp0'), (.slice A1' B.length cp1'), (.slice A2' C.length cp2'), (.slice A3' G.length cp3'), (.slice A4' Q.length cp4'), .int .i64 o, .int .i64 u, .int .i64 t, .int .i64 n] ((((y4.setCell ⟨w1.heap.size, 5, none⟩ (.int .i64 o)).setCell ⟨w1.heap.size, 6, none⟩ (.int .i64 u)).setCell ⟨w1.heap.size, 7, none⟩ (.int .i64 t)).setCell ⟨w1.heap.size, 8, none⟩ (.int .i64 n))) := Lib.hid ((((HT4.out.set HD.out 5 (.int .i64 o)).set HD.out 6 (.int .i64 u)).set HD.out 7 (.int .i64 t)).set HD.out 8 (.int .i64 n))
      have HQY : Hid (OwnQ ((((y4.setCell ⟨w1.heap.size, 5, none⟩ (.int .i64 o)).setCell ⟨w1.heap.size, 6, none⟩ (.int .i64 u)).setCell ⟨w1.heap.size, 7, none⟩ (.int .i64 t)).setCell ⟨w1.heap.size, 8, none⟩ (.int .i64 n)) (w5.setCell ⟨w1.heap.size, 3, none⟩ (.slice A3' G.length cp3')).heap.size (.slice A4' Q.length cp4') Q) := Lib.hid (own_set (own_set (own_set (own_set HOQ4.out HD4.out) HD4.out) HD4.out) HD4.out)
      have HKY : Hid (Kp (w5.setCell ⟨w1.heap.size, 3, none⟩ (.slice A3' G.length cp3')).heap.size p w1.heap.size (w5.setCell ⟨w1.heap.size, 3, none⟩ (.slice A3' G.length cp3')) ((((y4.setCell ⟨w1.heap.size, 5, none⟩ (.int .i64 o)).setCell ⟨w1.heap.size, 6, none⟩ (.int .i64 u)).setCell ⟨w1.heap.size, 7, none⟩ (.int .i64 t)).setCell ⟨w1.heap.size, 8, none⟩ (.int .i64 n))) := Lib.hid (Kp.trans (Kp.trans (Kp.trans (Kp.trans K4.out (Kp.set _ 5 _)) (Kp.set _ 6 _)) (Kp.set _ 7 _)) (Kp.set _ 8 _))
      have HY0 : Hid (OwnL ((((y4.setCell ⟨w1.heap.size, 5, none⟩ (.int .i64 o)).setCell ⟨w1.heap.size, 6, none⟩ (.int .i64 u)).setCell ⟨w1.heap.size, 7, none⟩ (.int .i64 t)).setCell ⟨w1.heap.size, 8, none⟩ (.int .i64 n)) (w1.heap.size + 1) (.slice A0' A.length cp0') A) := Lib.hid (Kp.row HKY.out HO0_4.out (Nat.le_refl _) (Nat.lt_succ_self _) HP.out)
      have HY1 : Hid (OwnI ((((y4.setCell ⟨w1.heap.size, 5, none⟩ (.int .i64 o)).setCell ⟨w1.heap.size, 6, none⟩ (.int .i64 u)).setCell ⟨w1.heap.size, 7, none⟩ (.int .i64 t)).setCell ⟨w1.heap.size, 8, none⟩ (.int .i64 n)) (w1.heap.size + 1) (.slice A1' B.length cp1') B) := Lib.hid (Kp.row HKY.out HO1_4.out (Nat.le_refl _) (Nat.lt_succ_self _) HP.out)
      have HY2 : Hid (OwnA ((((y4.setCell ⟨w1.heap.size, 5, none⟩ (.int .i64 o)).setCell ⟨w1.heap.size, 6, none⟩ (.int .i64 u)).setCell ⟨w1.heap.size, 7, none⟩ (.int .i64 t)).setCell ⟨w1.heap.size, 8, none⟩ (.int .i64 n)) (w1.heap.size + 1) (.slice A2' C.length cp2') C) := Lib.hid (Kp.row HKY.out HO2_4.out (Nat.le_refl _) (Nat.lt_succ_self _) HP.out)
      have HY3 : Hid (OwnG ((((y4.setCell ⟨w1.heap.size, 5, none⟩ (.int .i64 o)).setCell ⟨w1.heap.size, 6, none⟩ (.int .i64 u)).setCell ⟨w1.heap.size, 7, none⟩ (.int .i64 t)).setCell ⟨w1.heap.size, 8, none⟩ (.int .i64 n)) (w1.heap.size + 1) (.slice A3' G.length cp3') G) := Lib.hid (Kp.row HKY.out HO3_4.out (Nat.le_refl _) (Nat.lt_succ_self _) HP.out)
      obtain ⟨c0, c1, c2, c3, c4, c5, c6, c7, c8⟩ := nine_c HT4.out.box
      have f5 := frz (k := 5) HT4.out.box
      have f6 := frz (k := 6) HT4.out.box
      have f7 := frz (k := 7) HT4.out.box
      have f8 := frz (k := 8) HT4.out.box
      go_wp2_with fail
      refine (end_any _ (w.heap.size + 1) w1.heap.size p s9 HTY.out.scan).mono ?_
      rintro e9 y5 ⟨rfl, rfl⟩
      clear c0 c1 c2 c3 c4 c5 c6 c7 c8 f5 f6 f7 f8
      obtain ⟨x, hx⟩ : ∃ x, s9.fin = x := ⟨_, rfl⟩
      rw [hx]
      obtain ⟨Y, hY⟩ : ∃ Y, ((((y4.setCell ⟨w1.heap.size, 5, none⟩ (.int .i64 o)).setCell ⟨w1.heap.size, 6, none⟩ (.int .i64 u)).setCell ⟨w1.heap.size, 7, none⟩ (.int .i64 t)).setCell ⟨w1.heap.size, 8, none⟩ (.int .i64 n)) = Y := ⟨_, rfl⟩
      rw [hY] at HTY HQY HKY HY0 HY1 HY2 HY3 ⊢
      clear hY HT0 HT1 HT2 HT3 HT4 HOQ HOQ1 HOQ2 HOQ3 HOQ4 K0 K1 K2 K3 K4
      by_cases hf : x = 0
      · subst hf
        have HX0 := Lib.hid hx
        clear hx
        have HRE : Hid (∀ W, Grew Y W → ReIs W (.agg #[(.slice A0' A.length cp0'), (.slice A1' B.length cp1'), (.slice A2' C.length cp2'), (.slice A3' G.length cp3'), (.slice A4' Q.length cp4'), .int .i64 o, .int .i64 u, .int .i64 t, .int .i64 n]) ⟨A, B, C, G, Q, o, u, t, n⟩) := Lib.hid fun W hg => re_is (own_grewx HY0.out hg) (own_grewx HY1.out hg) (own_grewx HY2.out hg) (own_grewx HY3.out hg) (own_grewx HQY.out hg) o u t n
        have HRR := Lib.hid (right_re _ _ Y (HRE.out Y (Grew.refl _)) HSZ.out)
        obtain ⟨c0, c1, c2, c3, c4, c5, c6, c7, c8⟩ := nine_c HTY.out.box
        go_wp2_with fail
        refine HRR.out.mono ?_
        rintro e9 y6 ⟨rfl, hg⟩
        have G6 := Lib.hid hg
        have B6 := Lib.hid (keepB HTY.out.res hg)
        have D6 := Lib.hid (keepB HTY.out.box hg)
        clear hg c0 c1 c2 c3 c4 c5 c6 c7 c8 HRR
        cases hm : mayBe ⟨A, B, C, G, Q, o, u, t, n⟩ with
        | false =>
          have hrd : readP l = (re0, 2) := by unfold readP; rw [HRD.out]; simp only [HX0.out, hm]; rfl
          have HR := Lib.hid hrd
          clear hrd hm
          obtain ⟨c0, c1, c2, c3, c4, c5, c6, c7, c8⟩ := nine_c B6.out
          have f0 := frz (k := 0) B6.out
          have f1 := frz (k := 1) B6.out
          have f2 := frz (k := 2) B6.out
          have f3 := frz (k := 3) B6.out
          have f4 := frz (k := 4) B6.out
          have f5 := frz (k := 5) B6.out
          have f6 := frz (k := 6) B6.out
          have f7 := frz (k := 7) B6.out
          have f8 := frz (k := 8) B6.out
          have e0 : ∀ x0, (y6.setCell ⟨w.heap.size, 0, none⟩ x0).cell? ⟨w.heap.size, 0, none⟩ = some x0 := fun x0 => World.cell?_setCell_same _ _ _ (by exact c0)
          have e1 : ∀ x0 x1, ((y6.setCell ⟨w.heap.size, 0, none⟩ x0).setCell ⟨w.heap.size, 1, none⟩ x1).cell? ⟨w.heap.size, 1, none⟩ = some x1 := fun x0 x1 => World.cell?_setCell_same _ _ _ (by (iterate 1 rw [World.cell?_setCell_other]); exact c1; all_goals simp)
          have e2 : ∀ x0 x1 x2, (((y6.setCell ⟨w.heap.size, 0, none⟩ x0).setCell ⟨w.heap.size, 1, none⟩ x1).setCell ⟨w.heap.size, 2, none⟩ x2).cell? ⟨w.heap.size, 2, none⟩ = some x2 := fun x0 x1 x2 => World.cell?_setCell_same _ _ _ (by (iterate 2 rw [World.cell?_setCell_other]); exact c2; all_goals simp)
          have e3 : ∀ x0 x1 x2 x3, ((((y6.setCell ⟨w.heap.size, 0, none⟩ x0).setCell ⟨w.heap.size, 1, none⟩ x1).setCell ⟨w.heap.size, 2, none⟩ x2).setCell ⟨w.heap.size, 3, none⟩ x3).cell? ⟨w.heap.size, 3, none⟩ = some x3 := fun x0 x1 x2 x3 => World.cell?_setCell_same _ _ _ (by (iterate 3 rw [World.cell?_setCell_other]); exact c3; all_goals simp)
          have e4 : ∀ x0 x1 x2 x3 x4, (((((y6.setCell ⟨w.heap.size, 0, none⟩ x0).setCell ⟨w.heap.size, 1, none⟩ x1).setCell ⟨w.heap.size, 2, none⟩ x2).setCell ⟨w.heap.size, 3, none⟩ x3).setCell ⟨w.heap.size, 4, none⟩ x4).cell? ⟨w.heap.size, 4, none⟩ = some x4 := fun x0 x1 x2 x3 x4 => World.cell?_setCell_same _ _ _ (by (iterate 4 rw [World.cell?_setCell_other]); exact c4; all_goals simp)
          have e5 : ∀ x0 x1 x2 x3 x4 x5, ((((((y6.setCell ⟨w.heap.size, 0, none⟩ x0).setCell ⟨w.heap.size, 1, none⟩ x1).setCell ⟨w.heap.size, 2, none⟩ x2).setCell ⟨w.heap.size, 3, none⟩ x3).setCell ⟨w.heap.size, 4, none⟩ x4).setCell ⟨w.heap.size, 5, none⟩ x5).cell? ⟨w.heap.size, 5, none⟩ = some x5 := fun x0 x1 x2 x3 x4 x5 => World.cell?_setCell_same _ _ _ (by (iterate 5 rw [World.cell?_setCell_other]); exact c5; all_goals simp)
          have e6 : ∀ x0 x1 x2 x3 x4 x5 x6, (((((((y6.setCell ⟨w.heap.size, 0, none⟩ x0).setCell ⟨w.heap.size, 1, none⟩ x1).setCell ⟨w.heap.size, 2, none⟩ x2).setCell ⟨w.heap.size, 3, none⟩ x3).setCell ⟨w.heap.size, 4, none⟩ x4).setCell ⟨w.heap.size, 5, none⟩ x5).setCell ⟨w.heap.size, 6, none⟩ x6).cell? ⟨w.heap.size, 6, none⟩ = some x6 := fun x0 x1 x2 x3 x4 x5 x6 => World.cell?_setCell_same _ _ _ (by (iterate 6 rw [World.cell?_setCell_other]); exact c6; all_goals simp)
          have e7 : ∀ x0 x1 x2 x3 x4 x5 x6 x7, ((((((((y6.setCell ⟨w.heap.size, 0, none⟩ x0).setCell ⟨w.heap.size, 1, none⟩ x1).setCell ⟨w.heap.size, 2, none⟩ x2).setCell ⟨w.heap.size, 3, none⟩ x3).setCell ⟨w.heap.size, 4, none⟩ x4).setCell ⟨w.heap.size, 5, none⟩ x5).setCell ⟨w.heap.size, 6, none⟩ x6).setCell ⟨w.heap.size, 7, none⟩ x7).cell? ⟨w.heap.size, 7, none⟩ = some x7 := fun x0 x1 x2 x3 x4 x5 x6 x7 => World.cell?_setCell_same _ _ _ (by (iterate 7 rw [World.cell?_setCell_other]); exact c7; all_goals simp)
          have e8 : ∀ x0 x1 x2 x3 x4 x5 x6 x7 x8, (((((((((y6.setCell ⟨w.heap.size, 0, none⟩ x0).setCell ⟨w.heap.size, 1, none⟩ x1).setCell ⟨w.heap.size, 2, none⟩ x2).setCell ⟨w.heap.size, 3, none⟩ x3).setCell ⟨w.heap.size, 4, none⟩ x4).setCell ⟨w.heap.size, 5, none⟩ x5).setCell ⟨w.heap.size, 6, none⟩ x6).setCell ⟨w.heap.size, 7, none⟩ x7).setCell ⟨w.heap.size, 8, none⟩ x8).cell? ⟨w.heap.size, 8, none⟩ = some x8 := fun x0 x1 x2 x3 x4 x5 x6 x7 x8 => World.cell?_setCell_same _ _ _ (by (iterate 8 rw [World.cell?_setCell_other]); exact c8; all_goals simp)
          go_wp2
          refine bodyPost_ret (by simp [results, Tryz.results27, go_sem, e0, e1, e2, e3, e4, e5, e6, e7, e8]; try rfl) rfl ?_
          rw [HR.out]
          exact ⟨_, rfl, zero_is _, Below.setCell (Below.setCell (Below.setCell (Below.setCell (Below.setCell (Below.setCell (Below.setCell (Below.setCell (Below.setCell (HTY.out.grew.trans G6.out) (Nat.le_refl _) _) (Nat.le_refl _) _) (Nat.le_refl _) _) (Nat.le_refl _) _) (Nat.le_refl _) _) (Nat.le_refl _) _) (Nat.le_refl _) _) (Nat.le_refl _) _) (Nat.le_refl _) _, fun W2 _ => zero_is W2⟩
        | true =>
          have hrd : readP l = (⟨A, B, C, G, Q, o, u, t, n⟩, 0) := by unfold readP; rw [HRD.out]; simp only [HX0.out, hm]; rfl
          have HR := Lib.hid hrd
          clear hrd hm
          obtain ⟨d0, d1, d2, d3, d4, d5, d6, d7, d8⟩ := nine_c D6.out
          have hne : ¬ w.heap.size = w1.heap.size := by have := HD.out; omega
          have hne' : ¬ w1.heap.size = w.heap.size := by have := HD.out; omega
          have HB1 : Hid (w.heap.size < w1.heap.size + 1) := Lib.hid (by have := HD.out; omega)
          have HB5 : Hid (w.heap.size < (w5.setCell ⟨w1.heap.size, 3, none⟩ (.slice A3' G.length cp3')).heap.size) := Lib.hid (Nat.lt_trans HD.out HD4.out)
          obtain ⟨c0, c1, c2, c3, c4, c5, c6, c7, c8⟩ := nine_c B6.out
          have f0 := frz (k := 0) B6.out
          have f1 := frz (k := 1) B6.out
          have f2 := frz (k := 2) B6.out
          have f3 := frz (k := 3) B6.out
          have f4 := frz (k := 4) B6.out
          have f5 := frz (k := 5) B6.out
          have f6 := frz (k := 6) B6.out
          have f7 := frz (k := 7) B6.out
          have f8 := frz (k := 8) B6.out
          have e0 : ∀ x0, (y6.setCell ⟨w.heap.size, 0, none⟩ x0).cell? ⟨w.heap.size, 0, none⟩ = some x0 := fun x0 => World.cell?_setCell_same _ _ _ (by exact c0)
          have e1 : ∀ x0 x1, ((y6.setCell ⟨w.heap.size, 0, none⟩ x0).setCell ⟨w.heap.size, 1, none⟩ x1).cell? ⟨w.heap.size, 1, none⟩ = some x1 := fun x0 x1 => World.cell?_setCell_same _ _ _ (by (iterate 1 rw [World.cell?_setCell_other]); exact c1; all_goals simp)
          have e2 : ∀ x0 x1 x2, (((y6.setCell ⟨w.heap.size, 0, none⟩ x0).setCell ⟨w.heap.size, 1, none⟩ x1).setCell ⟨w.heap.size, 2, none⟩ x2).cell? ⟨w.heap.size, 2, none⟩ = some x2 := fun x0 x1 x2 => World.cell?_setCell_same _ _ _ (by (iterate 2 rw [World.cell?_setCell_other]); exact c2; all_goals simp)
          have e3 : ∀ x0 x1 x2 x3, ((((y6.setCell ⟨w.heap.size, 0, none⟩ x0).setCell ⟨w.heap.size, 1, none⟩ x1).setCell ⟨w.heap.size, 2, none⟩ x2).setCell ⟨w.heap.size, 3, none⟩ x3).cell? ⟨w.heap.size, 3, none⟩ = some x3 := fun x0 x1 x2 x3 => World.cell?_setCell_same _ _ _ (by (iterate 3 rw [World.cell?_setCell_other]); exact c3; all_goals simp)
          have e4 : ∀ x0 x1 x2 x3 x4, (((((y6.setCell ⟨w.heap.size, 0, none⟩ x0).setCell ⟨w.heap.size, 1, none⟩ x1).setCell ⟨w.heap.size, 2, none⟩ x2).setCell ⟨w.heap.size, 3, none⟩ x3).setCell ⟨w.heap.size, 4, none⟩ x4).cell? ⟨w.heap.size, 4, none⟩ = some x4 := fun x0 x1 x2 x3 x4 => World.cell?_setCell_same _ _ _ (by (iterate 4 rw [World.cell?_setCell_other]); exact c4; all_goals simp)
          have e5 : ∀ x0 x1 x2 x3 x4 x5, ((((((y6.setCell ⟨w.heap.size, 0, none⟩ x0).setCell ⟨w.heap.size, 1, none⟩ x1).setCell ⟨w.heap.size, 2, none⟩ x2).setCell ⟨w.heap.size, 3, none⟩ x3).setCell ⟨w.heap.size, 4, none⟩ x4).setCell ⟨w.heap.size, 5, none⟩ x5).cell? ⟨w.heap.size, 5, none⟩ = some x5 := fun x0 x1 x2 x3 x4 x5 => World.cell?_setCell_same _ _ _ (by (iterate 5 rw [World.cell?_setCell_other]); exact c5; all_goals simp)
          have e6 : ∀ x0 x1 x2 x3 x4 x5 x6, (((((((y6.setCell ⟨w.heap.size, 0, none⟩ x0).setCell ⟨w.heap.size, 1, none⟩ x1).setCell ⟨w.heap.size, 2, none⟩ x2).setCell ⟨w.heap.size, 3, none⟩ x3).setCell ⟨w.heap.size, 4, none⟩ x4).setCell ⟨w.heap.size, 5, none⟩ x5).setCell ⟨w.heap.size, 6, none⟩ x6).cell? ⟨w.heap.size, 6, none⟩ = some x6 := fun x0 x1 x2 x3 x4 x5 x6 => World.cell?_setCell_same _ _ _ (by (iterate 6 rw [World.cell?_setCell_other]); exact c6; all_goals simp)
          have e7 : ∀ x0 x1 x2 x3 x4 x5 x6 x7, ((((((((y6.setCell ⟨w.heap.size, 0, none⟩ x0).setCell ⟨w.heap.size, 1, none⟩ x1).setCell ⟨w.heap.size, 2, none⟩ x2).setCell ⟨w.heap.size, 3, none⟩ x3).setCell ⟨w.heap.size, 4, none⟩ x4).setCell ⟨w.heap.size, 5, none⟩ x5).setCell ⟨w.heap.size, 6, none⟩ x6).setCell ⟨w.heap.size, 7, none⟩ x7).cell? ⟨w.heap.size, 7, none⟩ = some x7 := fun x0 x1 x2 x3 x4 x5 x6 x7 => World.cell?_setCell_same _ _ _ (by (iterate 7 rw [World.cell?_setCell_other]); exact c7; all_goals simp)
          have e8 : ∀ x0 x1 x2 x3 x4 x5 x6 x7 x8, (((((((((y6.setCell ⟨w.heap.size, 0, none⟩ x0).setCell ⟨w.heap.size, 1, none⟩ x1).setCell ⟨w.heap.size, 2, none⟩ x2).setCell ⟨w.heap.size, 3, none⟩ x3).setCell ⟨w.heap.size, 4, none⟩ x4).setCell ⟨w.heap.size, 5, none⟩ x5).setCell ⟨w.heap.size, 6, none⟩ x6).setCell ⟨w.heap.size, 7, none⟩ x7).setCell ⟨w.heap.size, 8, none⟩ x8).cell? ⟨w.heap.size, 8, none⟩ = some x8 := fun x0 x1 x2 x3 x4 x5 x6 x7 x8 => World.cell?_setCell_same _ _ _ (by (iterate 8 rw [World.cell?_setCell_other]); exact c8; all_goals simp)
          go_wp2
          refine bodyPost_ret (by simp [results, Tryz.results27, go_sem, e0, e1, e2, e3, e4, e5, e6, e7, e8]; try rfl) rfl ?_
          rw [HR.out]
          exact ⟨_, rfl, re_is (own_set (own_set (own_set (own_set (own_set (own_set (own_set (own_set (own_set (own_grewx HY0.out G6.out) HB1.out) HB1.out) HB1.out) HB1.out) HB1.out) HB1.out) HB1.out) HB1.out) HB1.out) (own_set (own_set (own_set (own_set (own_set (own_set (own_set (own_set (own_set (own_grewx HY1.out G6.out) HB1.out) HB1.out) HB1.out) HB1.out) HB1.out) HB1.out) HB1.out) HB1.out) HB1.out) (own_set (own_set (own_set (own_set (own_set (own_set (own_set (own_set (own_set (own_grewx HY2.out G6.out) HB1.out) HB1.out) HB1.out) HB1.out) HB1.out) HB1.out) HB1.out) HB1.out) HB1.out) (own_set (own_set (own_set (own_set (own_set (own_set (own_set (own_set (own_set (own_grewx HY3.out G6.out) HB1.out) HB1.out) HB1.out) HB1.out) HB1.out) HB1.out) HB1.out) HB1.out) HB1.out) (own_set (own_set (own_set (own_set (own_set (own_set (own_set (own_set (own_set (own_grewx HQY.out G6.out) HB5.out) HB5.out) HB5.out) HB5.out) HB5.out) HB5.out) HB5.out) HB5.out) HB5.out) o u t n, Below.setCell (Below.setCell (Below.setCell (Below.setCell (Below.setCell (Below.setCell (Below.setCell (Below.setCell (Below.setCell (HTY.out.grew.trans G6.out) (Nat.le_refl _) _) (Nat.le_refl _) _) (Nat.le_refl _) _) (Nat.le_refl _) _) (Nat.le_refl _) _) (Nat.le_refl _) _) (Nat.le_refl _) _) (Nat.le_refl _) _) (Nat.le_refl _) _, fun W2 hk => re_is (own_keepK (own_set (own_set (own_set (own_set (own_set (own_set (own_set (own_set (own_set (own_grewx HY0.out G6.out) HB1.out) HB1.out) HB1.out) HB1.out) HB1.out) HB1.out) HB1.out) HB1.out) HB1.out) (Nat.le_of_lt HB1.out) hk) (own_keepK (own_set (own_set (own_set (own_set (own_set (own_set (own_set (own_set (own_set (own_grewx HY1.out G6.out) HB1.out) HB1.out) HB1.out) HB1.out) HB1.out) HB1.out) HB1.out) HB1.out) HB1.out) (Nat.le_of_lt HB1.out) hk) (own_keepK (own_set (own_set (own_set (own_set (own_set (own_set (own_set (own_set (own_set (own_grewx HY2.out G6.out) HB1.out) HB1.out) HB1.out) HB1.out) HB1.out) HB1.out) HB1.out) HB1.out) HB1.out) (Nat.le_of_lt HB1.out) hk) (own_keepK (own_set (own_set (own_set (own_set (own_set (own_set (own_set (own_set (own_set (own_grewx HY3.out G6.out) HB1.out) HB1.out) HB1.out) HB1.out) HB1.out) HB1.out) HB1.out) HB1.out) HB1.out) (Nat.le_of_lt HB1.out) hk) (own_keepK (own_set (own_set (own_set (own_set (own_set (own_set (own_set (own_set (own_set (own_grewx HQY.out G6.out) HB5.out) HB5.out) HB5.out) HB5.out) HB5.out) HB5.out) HB5.out) HB5.out) HB5.out) (Nat.le_of_lt HB5.out) hk) o u t n⟩
      · have hrd : readP l = (re0, x) := by unfold readP; rw [HRD.out]; simp only [hx, if_neg hf]
        have HR := Lib.hid hrd
        clear hrd hx
        obtain ⟨c0, c1, c2, c3, c4, c5, c6, c7, c8⟩ := nine_c HTY.out.res
        have f0 := frz (k := 0) HTY.out.res
        have f1 := frz (k := 1) HTY.out.res
        have f2 := frz (k := 2) HTY.out.res
        have f3 := frz (k := 3) HTY.out.res
        have f4 := frz (k := 4) HTY.out.res
        have f5 := frz (k := 5) HTY.out.res
        have f6 := frz (k := 6) HTY.out.res
        have f7 := frz (k := 7) HTY.out.res
        have f8 := frz (k := 8) HTY.out.res
        have e0 : ∀ x0, (Y.setCell ⟨w.heap.size, 0, none⟩ x0).cell? ⟨w.heap.size, 0, none⟩ = some x0 := fun x0 => World.cell?_setCell_same _ _ _ (by exact c0)
        have e1 : ∀ x0 x1, ((Y.setCell ⟨w.heap.size, 0, none⟩ x0).setCell ⟨w.heap.size, 1, none⟩ x1).cell? ⟨w.heap.size, 1, none⟩ = some x1 := fun x0 x1 => World.cell?_setCell_same _ _ _ (by (iterate 1 rw [World.cell?_setCell_other]); exact c1; all_goals simp)
        have e2 : ∀ x0 x1 x2, (((Y.setCell ⟨w.heap.size, 0, none⟩ x0).setCell ⟨w.heap.size, 1, none⟩ x1).setCell ⟨w.heap.size, 2, none⟩ x2).cell? ⟨w.heap.size, 2, none⟩ = some x2 := fun x0 x1 x2 => World.cell?_setCell_same _ _ _ (by (iterate 2 rw [World.cell?_setCell_other]); exact c2; all_goals simp)
        have e3 : ∀ x0 x1 x2 x3, ((((Y.setCell ⟨w.heap.size, 0, none⟩ x0).setCell ⟨w.heap.size, 1, none⟩ x1).setCell ⟨w.heap.size, 2, none⟩ x2).setCell ⟨w.heap.size, 3, none⟩ x3).cell? ⟨w.heap.size, 3, none⟩ = some x3 := fun x0 x1 x2 x3 => World.cell?_setCell_same _ _ _ (by (iterate 3 rw [World.cell?_setCell_other]); exact c3; all_goals simp)
        have e4 : ∀ x0 x1 x2 x3 x4, (((((Y.setCell ⟨w.heap.size, 0, none⟩ x0).setCell ⟨w.heap.size, 1, none⟩ x1).setCell ⟨w.heap.size, 2, none⟩ x2).setCell ⟨w.heap.size, 3, none⟩ x3).setCell ⟨w.heap.size, 4, none⟩ x4).cell? ⟨w.heap.size, 4, none⟩ = some x4 := fun x0 x1 x2 x3 x4 => World.cell?_setCell_same _ _ _ (by (iterate 4 rw [World.cell?_setCell_other]); exact c4; all_goals simp)
        have e5 : ∀ x0 x1 x2 x3 x4 x5, ((((((Y.setCell ⟨w.heap.size, 0, none⟩ x0).setCell ⟨w.heap.size, 1, none⟩ x1).setCell ⟨w.heap.size, 2, none⟩ x2).setCell ⟨w.heap.size, 3, none⟩ x3).setCell ⟨w.heap.size, 4, none⟩ x4).setCell ⟨w.heap.size, 5, none⟩ x5).cell? ⟨w.heap.size, 5, none⟩ = some x5 := fun x0 x1 x2 x3 x4 x5 => World.cell?_setCell_same _ _ _ (by (iterate 5 rw [World.cell?_setCell_other]); exact c5; all_goals simp)
        have e6 : ∀ x0 x1 x2 x3 x4 x5 x6, (((((((Y.setCell ⟨w.heap.size, 0, none⟩ x0).setCell ⟨w.heap.size, 1, none⟩ x1).setCell ⟨w.heap.size, 2, none⟩ x2).setCell ⟨w.heap.size, 3, none⟩ x3).setCell ⟨w.heap.size, 4, none⟩ x4).setCell ⟨w.heap.size, 5, none⟩ x5).setCell ⟨w.heap.size, 6, none⟩ x6).cell? ⟨w.heap.size, 6, none⟩ = some x6 := fun x0 x1 x2 x3 x4 x5 x6 => World.cell?_setCell_same _ _ _ (by (iterate 6 rw [World.cell?_setCell_other]); exact c6; all_goals simp)
        have e7 : ∀ x0 x1 x2 x3 x4 x5 x6 x7, ((((((((Y.setCell ⟨w.heap.size, 0, none⟩ x0).setCell ⟨w.heap.size, 1, none⟩ x1).setCell ⟨w.heap.size, 2, none⟩ x2).setCell ⟨w.heap.size, 3, none⟩ x3).setCell ⟨w.heap.size, 4, none⟩ x4).setCell ⟨w.heap.size, 5, none⟩ x5).setCell ⟨w.heap.size, 6, none⟩ x6).setCell ⟨w.heap.size, 7, none⟩ x7).cell? ⟨w.heap.size, 7, none⟩ = some x7 := fun x0 x1 x2 x3 x4 x5 x6 x7 => World.cell?_setCell_same _ _ _ (by (iterate 7 rw [World.cell?_setCell_other]); exact c7; all_goals simp)
        have e8 : ∀ x0 x1 x2 x3 x4 x5 x6 x7 x8, (((((((((Y.setCell ⟨w.heap.size, 0, none⟩ x0).setCell ⟨w.heap.size, 1, none⟩ x1).setCell ⟨w.heap.size, 2, none⟩ x2).setCell ⟨w.heap.size, 3, none⟩ x3).setCell ⟨w.heap.size, 4, none⟩ x4).setCell ⟨w.heap.size, 5, none⟩ x5).setCell ⟨w.heap.size, 6, none⟩ x6).setCell ⟨w.heap.size, 7, none⟩ x7).setCell ⟨w.heap.size, 8, none⟩ x8).cell? ⟨w.heap.size, 8, none⟩ = some x8 := fun x0 x1 x2 x3 x4 x5 x6 x7 x8 => World.cell?_setCell_same _ _ _ (by (iterate 8 rw [World.cell?_setCell_other]); exact c8; all_goals simp)
        go_wp2
        refine bodyPost_ret (by simp [results, Tryz.results27, go_sem, e0, e1, e2, e3, e4, e5, e6, e7, e8]; try rfl) rfl ?_
        rw [HR.out]
        exact ⟨_, rfl, zero_is _, Below.setCell (Below.setCell (Below.setCell (Below.setCell (Below.setCell (Below.setCell (Below.setCell (Below.setCell (Below.setCell (HTY.out.grew) (Nat.le_refl _) _) (Nat.le_refl _) _) (Nat.le_refl _) _) (Nat.le_refl _) _) (Nat.le_refl _) _) (Nat.le_refl _) _) (Nat.le_refl _) _) (Nat.le_refl _) _) (Nat.le_refl _) _, fun W2 _ => zero_is W2⟩
    | succ g =>
      have hkz : (k : Int) < (A.length : Int) := by omega
      have hg := HG.out
      unfold goN at hg
      obtain ⟨⟨x, sy⟩, hx⟩ : ∃ q, oneQ sx = q := ⟨_, rfl⟩
      rw [hx] at hg
      have HX := Lib.hid hx
      have HGG := Lib.hid hg
      have HLy := Lib.hid (Nat.le_trans (oneQ_le sx) HLx.out)
      rw [hx] at HLy
      have HKW : Hid (wrap64 ((k : Int) + 1) = ((k + 1 : Nat) : Int)) := Lib.hid (by have := HAL.out; unfold wrap64; omega)
      have HM : Hid (k + 1 + g = A.length) := Lib.hid (by omega)
      have HAC : Hid (acc.length ≤ 1000) := Lib.hid (by rw [HA.out]; have := HAL.out; omega)
      have HA1 : Hid ((acc ++ [x]).length = k + 1) := Lib.hid (by rw [List.length_append, HA.out]; rfl)
      clear hg hx hkg HG
      go_wp2
      obtain ⟨P0, i0⟩ : ∃ P : World → Prop, ∀ W, P W ↔ (St w p w1.heap.size sx #[(.slice A0' A.length cp0'), (.slice A1' B.length cp1'), (.slice A2' C.length cp2'), (.slice A3' G.length cp3'), v4, .int .i64 0, .int .i64 0, .int .i64 0, .int .i64 0] W ∧ OwnQ W (w5.setCell ⟨w1.heap.size, 3, none⟩ (.slice A3' G.length cp3')).heap.size v4 acc ∧ Kp (w5.setCell ⟨w1.heap.size, 3, none⟩ (.slice A3' G.length cp3')).heap.size p w1.heap.size (w5.setCell ⟨w1.heap.size, 3, none⟩ (.slice A3' G.length cp3')) W) := ⟨_, fun _ => Iff.rfl⟩
      obtain ⟨P1, i1⟩ : ∃ P : World → Prop, ∀ W, P W ↔ (St w p w1.heap.size sy #[(.slice A0' A.length cp0'), (.slice A1' B.length cp1'), (.slice A2' C.length cp2'), (.slice A3' G.length cp3'), v4, .int .i64 0, .int .i64 0, .int .i64 0, .int .i64 0] W ∧ OwnQ W (w5.setCell ⟨w1.heap.size, 3, none⟩ (.slice A3' G.length cp3')).heap.size v4 acc ∧ Kp (w5.setCell ⟨w1.heap.size, 3, none⟩ (.slice A3' G.length cp3')).heap.size p w1.heap.size (w5.setCell ⟨w1.heap.size, 3, none⟩ (.slice A3' G.length cp3')) W) := ⟨_, fun _ => Iff.rfl⟩
      obtain ⟨P2, i2⟩ : ∃ P : World → Value → Prop, ∀ W v', P W v' ↔ (St w p w1.heap.size sy #[(.slice A0' A.length cp0'), (.slice A1' B.length cp1'), (.slice A2' C.length cp2'), (.slice A3' G.length cp3'), v4, .int .i64 0, .int .i64 0, .int .i64 0, .int .i64 0] W ∧ OwnQ W (w5.setCell ⟨w1.heap.size, 3, none⟩ (.slice A3' G.length cp3')).heap.size v' (acc ++ [x]) ∧ Kp (w5.setCell ⟨w1.heap.size, 3, none⟩ (.slice A3' G.length cp3')).heap.size p w1.heap.size (w5.setCell ⟨w1.heap.size, 3, none⟩ (.slice A3' G.length cp3')) W) := ⟨_, fun _ _ => Iff.rfl⟩
      obtain ⟨P3, i3⟩ : ∃ P : World → Prop, ∀ W, P W ↔ ∃ v', St w p w1.heap.size sy #[(.slice A0' A.length cp0'), (.slice A1' B.length cp1'), (.slice A2' C.length cp2'), (.slice A3' G.length cp3'), v', .int .i64 0, .int .i64 0, .int .i64 0, .int .i64 0] W ∧ OwnQ W (w5.setCell ⟨w1.heap.size, 3, none⟩ (.slice A3' G.length cp3')).heap.size v' (acc ++ [x]) ∧ Kp (w5.setCell ⟨w1.heap.size, 3, none⟩ (.slice A3' G.length cp3')).heap.size p w1.heap.size (w5.setCell ⟨w1.heap.size, 3, none⟩ (.slice A3' G.length cp3')) W := ⟨_, fun _ => Iff.rfl⟩
      have I0 := Lib.hid i0
      have I1 := Lib.hid i1
      have I2 := Lib.hid i2
      have I3 := Lib.hid i3
      clear i0 i1 i2 i3
      refine Marks.wp_region_text (JQ P0 P1 #[.int .i64 x.rooms, .int .i64 x.exits, .int .i64 x.items, .int .i64 x.mails, .int .i64 x.trades, .int .u64 (x.cap.toNat : Int)] P2 P3) (fun _ _ => True) (by kernel_rfl) (by kernel_rfl)
        (JQ.start ((I0.out _).2 ⟨St.below HST.out (Below.refl _ _).drew HD4.out HD.out, own_grewx HO.out (Grew.refl _).drew, HK.out.trans (Kp.below (Below.refl _ _).drew)⟩)) ?_
      apply Marks.Lex.exact [] (.pointer (some ⟨w1.heap.size, 4, none⟩)) (by kernel_rfl)
      · intro m u W hm hcl hJ _
        unfold Marks.one
        go_simp
        exact ⟨trivial, hJ.keep (k := 0) (by decide) _, rfl⟩
      simp only [Act.put, List.setIfInBounds_toArray, List.set_cons_zero, List.set_cons_succ, Nat.zero_add]
      apply Marks.Lex.exact [] v4 (by kernel_rfl)
      · intro m u W hm hcl hJ _
        have hrow := hJ.row hm (fun W => W.heap[w1.heap.size]? = some (.cells #[(.slice A0' A.length cp0'), (.slice A1' B.length cp1'), (.slice A2' C.length cp2'), (.slice A3' G.length cp3'), v4, .int .i64 0, .int .i64 0, .int .i64 0, .int .i64 0] 28 (0, 0))) (fun _ h => ((I0.out _).1 h).1.box) (fun _ h => ((I1.out _).1 h).1.box) (fun _ h => keepB ((I1.out _).1 h).1.box (by unfold Grew; go_grown)) (fun _ _ h => ((I2.out _ _).1 h).1.box)
        obtain ⟨c0, c1, c2, c3, c4, c5, c6, c7, c8⟩ := nine_c hrow
        unfold Marks.one
        go_simp
        exact ⟨trivial, hJ.keep (k := 1) (by decide) _, rfl⟩
      simp only [Act.put, List.setIfInBounds_toArray, List.set_cons_zero, List.set_cons_succ, Nat.reduceAdd]
      apply Marks.Lex.exact [] p (by kernel_rfl)
      · intro m u W hm hcl hJ _
        unfold Marks.one
        go_simp
        exact ⟨trivial, hJ.keep (k := 2) (by decide) _, rfl⟩
      simp only [Act.put, List.setIfInBounds_toArray, List.set_cons_zero, List.set_cons_succ, Nat.reduceAdd]
      apply Marks.Lex.exact [] (.agg #[.int .i64 x.rooms, .int .i64 x.exits, .int .i64 x.items, .int .i64 x.mails, .int .i64 x.trades, .int .u64 (x.cap.toNat : Int)]) (by kernel_rfl)
      · intro m u W hm hcl hJ _
        have hA := (I0.out _).1 (hJ.at3 hm).1
        have HC9 := take_quota.eq W (w.heap.size + 1) w1.heap.size p sx x sy (Lib.hid hA.1.scan) (Lib.hid (Nat.le_of_lt hA.1.ltD)) HLx HX
        unfold qval at HC9
        have HH := Lib.hid HC9
        have HAA := Lib.hid hA
        clear HC9 hA
        unfold Marks.one
        go_simp
        refine HH.out.mono ?_
        rintro e w' ⟨rfl, q1, c1⟩
        exact ⟨_, rfl, trivial, hJ.put3 hm _ ((I1.out _).2 ⟨HAA.out.1.chg c1 HD.out q1, own_chg HAA.out.2.1 c1 HP4.out, HAA.out.2.2.trans (Kp.chg c1 HAA.out.2.2.size)⟩), rfl⟩
      simp only [Act.put, List.setIfInBounds_toArray, List.set_cons_zero, List.set_cons_succ, Nat.reduceAdd]
      refine Marks.Lex.know [] (fun _ _ => True) (by kernel_rfl) (fun _ _ _ _ _ => trivial) ?_ ?_
      · intro m u W hm hcl hJ _
        have h3 : m 3 = true := hcl 3 (by decide)
        unfold Marks.one
        go_simp
        exact ⟨trivial, hJ.put4 h3 hm, trivial⟩
      simp only [Act.put, List.setIfInBounds_toArray, List.set_cons_zero, List.set_cons_succ, Nat.reduceAdd]
      refine Marks.Lex.know [] (fun _ _ => True) (by kernel_rfl) (fun _ _ _ _ _ => trivial) ?_ ?_
      · intro m u W hm hcl hJ _
        have h4 : m 4 = true := hcl 4 (by decide)
        obtain ⟨_, _, W1, hA, rfl, hu4⟩ := hJ.at5 h4 hm
        replace hA := (I1.out _).1 hA
        obtain ⟨v', w', hr, hown, hbel⟩ := appQ W1 (w5.setCell ⟨w1.heap.size, 3, none⟩ (.slice A3' G.length cp3')).heap.size v4 acc x hA.2.1 HAC.out hA.2.2.size
        refine one_app rfl (.tmp 27) (.tmp 30) 26 rfl v4 (.slice (some ⟨W1.heap.size, 0, none⟩) 1 1) (by rfl) (by exact hu4) v' w' hr ?_
        exact ⟨trivial, hJ.put5 h4 hm v' ((I2.out _ _).2 ⟨St.below hA.1 hbel HD4.out HD.out, hown, hA.2.2.trans (Kp.below hbel)⟩), trivial⟩
      simp only [Act.put, List.setIfInBounds_toArray, List.set_cons_zero, List.set_cons_succ, Nat.reduceAdd]
      apply Marks.Lex.exact [] (.pointer (some ⟨w1.heap.size, 4, none⟩)) (by kernel_rfl)
      · intro m u W hm hcl hJ _
        unfold Marks.one
        go_simp
        exact ⟨trivial, hJ.keep (k := 6) (by decide) _, rfl⟩
      simp only [Act.put, List.setIfInBounds_toArray, List.set_cons_zero, List.set_cons_succ, Nat.reduceAdd]
      apply Marks.Lex.exact [] undef (by kernel_rfl)
      · intro m u W hm hcl hJ _
        have h5 : m 5 = true := hcl 5 (by decide)
        have h1 : m 1 = true := hcl 1 (by decide)
        obtain ⟨_, _, hB⟩ := hJ.at7 h5 hm
        replace hB := (I2.out _ _).1 hB
        obtain ⟨A4', cp4', e4⟩ := own_sl hB.2.1
        rw [List.length_append, List.length_singleton] at e4
        have hq := hB.2.1
        rw [e4] at hq
        have HQ := Lib.hid hq
        clear hq
        obtain ⟨c0, c1, c2, c3, c4, c5, c6, c7, c8⟩ := nine_c hB.1.box
        have fz := frz (k := 4) hB.1.box
        have HB := Lib.hid hB
        clear hB
        unfold Marks.one
        go_simp
        exact ⟨trivial, hJ.put7 h5 hm h1 _ ((I3.out _).2 ⟨_, HB.out.1.set HD.out 4 _, own_set HQ.out HD4.out, HB.out.2.2.trans (Kp.set _ 4 _)⟩), rfl⟩
      simp only [Act.put, Nat.reduceAdd]
      refine Marks.Lex.done fun m u W3 hm hJ _ => ?_
      obtain ⟨v', hst, hown, hk⟩ := (I3.out _).1 (hJ.fin (hm 7 (by omega)))
      have HST' := Lib.hid hst
      have HO' := Lib.hid hown
      have HK' := Lib.hid hk
      clear hst hown hk hJ hm
      generalize u 4 = z4 at *
      generalize u 5 = z5 at *
      go_wp2
      go_roundg g
      case measure => omega
      case rel => exact ⟨k + 1, acc ++ [x], sy, v', HM.out, by first | rfl | (simp; done) | rw [HKW.out], HA1, HO', HST', HK', HLy, HGG⟩
end Go.Proofs.YtmegdgeiikhflaaGreat.CF
namespace Go.Proofs.YtmegdgeiikhflaaGreat.RPlaces
set_option maxRecDepth 100000
open Go Go.RowKit Go.Lib Go.Proofs.YtmegdgeiikhflaaGreat Go.Proofs.YtmegdgeiikhflaaGreat.Facts Go.Proofs.YtmegdgeiikhflaaGreat.Plain Go.Proofs.YtmegdgeiikhflaaGreat.Ints Go.Proofs.YtmegdgeiikhflaaGreat.RRows Go.Proofs.YtmegdgeiikhflaaGreat.LBox Go.Proofs.YtmegdgeiikhflaaGreat.RSmall Go.Proofs.YtmegdgeiikhflaaGreat.RFind Go.Proofs.YtmegdgeiikhflaaGreat.RAll Go.Proofs.YtmegdgeiikhflaaGreat.RRules Go.Proofs.YtmegdgeiikhflaaGreat.RRule3 Go.Proofs.YtmegdgeiikhflaaGreat.RRight

def place (r : Re) (a : La) : Int := if mayBe r = true then fidx r.labels (fun x => decide (a = x)) else -1
set_option maxRecDepth 100000 in
set_option maxHeartbeats 1000000 in
theorem place_any (v : Value) (r : Re) (a : La) (w : World) (h : ReIs w v r) (hs : Sized r) : Calls Tryz.prog 15 #[v, .agg #[.int .i64 a.lev, .int .u64 (a.set.toNat : Int)]] w fun e w' => e = .returned (.int .i64 (place r a)) ∧ Grew w w' := by
  have HRI := Lib.hid (fun W hg => right_re v r W (h.grew (w' := W) hg) hs)
  obtain ⟨v0, v1, v2, v3, v4, rfl, h0, h1, h2, h3, h4⟩ := h
  have HIX := Lib.hid (fun W hg => indexL_any v0 r.labels a W (h0.grew (w' := W) hg))
  obtain ⟨A0', cp0, rfl, _⟩ := h0.slice
  obtain ⟨A1', cp1, rfl, _⟩ := id h1
  obtain ⟨A2', cp2, rfl, _⟩ := h2.slice
  obtain ⟨A3', cp3, rfl, _⟩ := h3.slice
  obtain ⟨A4', cp4, rfl, _⟩ := h4.slice
  clear h0 h1 h2 h3 h4 hs
  unfold place
  generalize mayBe r = b at *
  generalize fidx r.labels (fun x => decide (a = x)) = res at *
  have G0 : Hid (Grew w ((w.alloc (Obj.cells #[.slice A0' r.labels.length cp0, .slice A1' r.lines.length cp1, .slice A2' r.accounts.length cp2, .slice A3' r.guilds.length cp3, .slice A4' r.quotas.length cp4, .int .i64 r.orders, .int .i64 r.audits, .int .i64 r.rate, .int .i64 r.rounds] 28)).alloc (.cells #[.int .i64 a.lev, .int .u64 (a.set.toNat : Int)] 31))) := Lib.hid (by unfold Grew; go_grown)
  have R0 : Hid (((w.alloc (Obj.cells #[.slice A0' r.labels.length cp0, .slice A1' r.lines.length cp1, .slice A2' r.accounts.length cp2, .slice A3' r.guilds.length cp3, .slice A4' r.quotas.length cp4, .int .i64 r.orders, .int .i64 r.audits, .int .i64 r.rate, .int .i64 r.rounds] 28)).alloc (.cells #[.int .i64 a.lev, .int .u64 (a.set.toNat : Int)] 31)).heap[w.heap.size]? = some (rcell (.slice A0' r.labels.length cp0) (.slice A1' r.lines.length cp1) (.slice A2' r.accounts.length cp2) (.slice A3' r.guilds.length cp3) (.slice A4' r.quotas.length cp4) r.orders r.audits r.rate r.rounds)) := Lib.hid ((heap_alloc_old _ _ (by simp)).trans (heap_alloc_new w _))
  have A0 : Hid (((w.alloc (Obj.cells #[.slice A0' r.labels.length cp0, .slice A1' r.lines.length cp1, .slice A2' r.accounts.length cp2, .slice A3' r.guilds.length cp3, .slice A4' r.quotas.length cp4, .int .i64 r.orders, .int .i64 r.audits, .int .i64 r.rate, .int .i64 r.rounds] 28)).alloc (.cells #[.int .i64 a.lev, .int .u64 (a.set.toNat : Int)] 31)).heap[w.heap.size + 1]? = some (.cells #[.int .i64 a.lev, .int .u64 (a.set.toNat : Int)] 31 (0, 0))) := Lib.hid (heap_alloc2_new w _ _)
  obtain ⟨r0, r1, r2, r3, r4, r5, r6, r7, r8⟩ := re_cells R0.out
  cases b with
  | false =>
    rw [if_neg (by simp)]
    go_enter Tryz.func15, Tryz.ntmps15
    go_wp2_with fail
    with_reducible refine (HRI.out _ G0.out).mono ?_
    rintro e w1 ⟨rfl, hg⟩
    have G1 := Lib.hid (G0.out.trans hg)
    clear hg r0 r1 r2 r3 r4 r5 r6 r7 r8
    go_wp2
    go_returns
    exact ⟨rfl, G1.out⟩
  | true =>
    rw [if_pos rfl]
    go_enter Tryz.func15, Tryz.ntmps15
    go_wp2_with fail
    with_reducible refine (HRI.out _ G0.out).mono ?_
    rintro e w1 ⟨rfl, hg⟩
    have G1 := Lib.hid (G0.out.trans hg)
    have R1 := Lib.hid (keepB R0.out hg)
    have A1 := Lib.hid (keepB A0.out hg)
    clear hg r0 r1 r2 r3 r4 r5 r6 r7 r8
    obtain ⟨r0, r1, r2, r3, r4, r5, r6, r7, r8⟩ := re_cells R1.out
    obtain ⟨a0, a1, _, _⟩ := lab_cells A1.out
    go_wp2_with fail
    with_reducible refine (HIX.out _ G1.out).mono ?_
    rintro e w2 ⟨rfl, hg⟩
    have G2 := Lib.hid (G1.out.trans hg)
    clear hg r0 r1 r2 r3 r4 r5 r6 r7 r8 a0 a1
    go_wp2
    go_returns
    exact ⟨rfl, G2.out⟩
end Go.Proofs.YtmegdgeiikhflaaGreat.RPlaces
namespace Go.Proofs.YtmegdgeiikhflaaGreat.EA
set_option maxRecDepth 100000
open Go Go.RowKit Go.Lib Go.Proofs.YtmegdgeiikhflaaGreat Go.Proofs.YtmegdgeiikhflaaGreat.Facts Go.Proofs.YtmegdgeiikhflaaGreat.Bytes Go.Proofs.YtmegdgeiikhflaaGreat.Plain Go.Proofs.YtmegdgeiikhflaaGreat.Ints Go.Proofs.YtmegdgeiikhflaaGreat.LBox Go.Proofs.YtmegdgeiikhflaaGreat.RRows Go.Proofs.YtmegdgeiikhflaaGreat.RSmall Go.Proofs.YtmegdgeiikhflaaGreat.RFind Go.Proofs.YtmegdgeiikhflaaGreat.RRules Go.Proofs.YtmegdgeiikhflaaGreat.RRule3 Go.Proofs.YtmegdgeiikhflaaGreat.RRight Go.Proofs.YtmegdgeiikhflaaGreat.RNames


def hallP (r : Re) (i : Int) : Int := if mayBe r = true then (if inn r.guilds.length i = true then (match r.guilds[i.toNat]? with | some x => fidx r.labels (fun y => decide ((⟨0, bitOf x.bit⟩ : La) = y)) | none => -1) else -1) else -1
set_option maxHeartbeats 4000000 in
theorem hallOf_any (v : Value) (r : Re) (i : Int) (w : World) (h : ReIs w v r) (hs : Sized r) : Calls Tryz.prog 16 #[v, .int .i64 i] w fun e w' => e = .returned (.int .i64 (hallP r i)) ∧ Grew w w' := by
  have HRI := Lib.hid (fun W hg => right_re v r W (h.grew (w' := W) hg) hs)
  obtain ⟨v0, v1, v2, v3, v4, rfl, h0, h1, h2, h3, h4⟩ := h
  have HL0 := Lib.hid h0
  have HL2 := Lib.hid h2
  have HL3 := Lib.hid h3
  obtain ⟨A0', cp0, rfl, _⟩ := h0.slice
  obtain ⟨A1', cp1, rfl, _⟩ := id h1
  obtain ⟨A2', cp2, rfl, _⟩ := h2.slice
  obtain ⟨A3', cp3, rfl, _⟩ := h3.slice
  obtain ⟨A4', cp4, rfl, _⟩ := h4.slice
  clear h0 h1 h2 h3 h4
  have G0 : Hid (Grew w (w.alloc (Obj.cells #[.slice A0' r.labels.length cp0, .slice A1' r.lines.length cp1, .slice A2' r.accounts.length cp2, .slice A3' r.guilds.length cp3, .slice A4' r.quotas.length cp4, .int .i64 r.orders, .int .i64 r.audits, .int .i64 r.rate, .int .i64 r.rounds] 28))) := Lib.hid (by unfold Grew; go_grown)
  have R0 : Hid ((w.alloc (Obj.cells #[.slice A0' r.labels.length cp0, .slice A1' r.lines.length cp1, .slice A2' r.accounts.length cp2, .slice A3' r.guilds.length cp3, .slice A4' r.quotas.length cp4, .int .i64 r.orders, .int .i64 r.audits, .int .i64 r.rate, .int .i64 r.rounds] 28)).heap[w.heap.size]? = some (rcell (.slice A0' r.labels.length cp0) (.slice A1' r.lines.length cp1) (.slice A2' r.accounts.length cp2) (.slice A3' r.guilds.length cp3) (.slice A4' r.quotas.length cp4) r.orders r.audits r.rate r.rounds)) := Lib.hid (heap_alloc_new w _)
  obtain ⟨r0, r1, r2, r3, r4, r5, r6, r7, r8⟩ := re_cells R0.out
  have HI := Lib.hid (fun W => hasG_any A3' r.guilds.length cp3 i W)
  have HII : inn r.guilds.length i = true → 0 ≤ i ∧ i < r.guilds.length := fun h => by unfold inn at h; simpa using h
  unfold hallP
  generalize mayBe r = b at *
  generalize hbi : inn r.guilds.length i = bi at *
  cases b with
  | false =>
    rw [if_neg (by simp)]
    clear HII
    go_enter Tryz.func16, Tryz.ntmps16
    go_wp2_with fail
    with_reducible refine (HRI.out _ G0.out).mono ?_
    rintro e w1 ⟨rfl, hg⟩
    have G1 := Lib.hid (G0.out.trans hg)
    clear hg r0 r1 r2 r3 r4 r5 r6 r7 r8
    go_wp2
    go_returns
    exact ⟨rfl, G1.out⟩
  | true =>
    rw [if_pos rfl]
    cases bi with
    | false =>
      rw [if_neg (by simp)]
      clear HII
      go_enter Tryz.func16, Tryz.ntmps16
      go_wp2_with fail
      with_reducible refine (HRI.out _ G0.out).mono ?_
      rintro e w1 ⟨rfl, hg⟩
      have G1 := Lib.hid (G0.out.trans hg)
      have R1 := Lib.hid (keepB R0.out hg)
      clear hg r0 r1 r2 r3 r4 r5 r6 r7 r8
      obtain ⟨r0, r1, r2, r3, r4, r5, r6, r7, r8⟩ := re_cells R1.out
      go_wp2_with fail
      refine (HI.out _).mono ?_
      rintro e w2 ⟨rfl, hg⟩
      have G2 := Lib.hid (G1.out.trans hg)
      clear hg r0 r1 r2 r3 r4 r5 r6 r7 r8
      go_wp2
      go_returns
      exact ⟨rfl, G2.out⟩
    | true =>
      rw [if_pos rfl]
      obtain ⟨q0, q1⟩ := HII rfl
      clear HII
      obtain ⟨k, rfl⟩ := Int.eq_ofNat_of_zero_le q0
      simp only [Int.toNat_natCast] at *
      have hkl : k < r.guilds.length := by omega
      have hx : r.guilds[k]? = some r.guilds[k] := List.getElem?_eq_getElem hkl
      rw [hx]
      generalize r.guilds[k] = x at *
      simp only
      obtain ⟨ad, c9, e9, _, _, _⟩ := Gs_at HL3.out hx
      injection e9 with e1 e2 e3
      subst e1 e3
      clear e2
      have HX0 : Hid (∀ W, Grew w W → W.cell? (ad.add (k * 2)) = some (.int .i64 x.bit) ∧ W.cell? ⟨(ad.add (k * 2)).block, (ad.add (k * 2)).off + 1, none⟩ = some (.int .i64 x.founder)) := Lib.hid fun W hg => by
        obtain ⟨ad', c', e', _, d0, d1⟩ := Gs_at (HL3.out.grew hg) hx
        injection e' with e1 e2 e3
        injection e1 with e1
        subst e1
        exact ⟨d0, d1⟩
      have HIX0 : Hid (∀ W, Grew w W → Calls Tryz.prog 55 #[.slice A0' r.labels.length cp0, .agg #[.int .i64 0, .int .u64 ((bitOf x.bit).toNat : Int)]] W fun e w' => e = .returned (.int .i64 (fidx r.labels (fun y => decide ((⟨0, bitOf x.bit⟩ : La) = y)))) ∧ Grew W w') := Lib.hid fun W hg => indexL_any _ r.labels ⟨0, bitOf x.bit⟩ W (HL0.out.grew hg)
      generalize (fidx r.labels (fun y => decide ((⟨0, bitOf x.bit⟩ : La) = y))) = res at *
      clear hx
      go_enter Tryz.func16, Tryz.ntmps16
      go_wp2_with fail
      with_reducible refine (HRI.out _ G0.out).mono ?_
      rintro e w1 ⟨rfl, hg⟩
      have G1 := Lib.hid (G0.out.trans hg)
      have R1 := Lib.hid (keepB R0.out hg)
      clear hg r0 r1 r2 r3 r4 r5 r6 r7 r8
      obtain ⟨r0, r1, r2, r3, r4, r5, r6, r7, r8⟩ := re_cells R1.out
      go_wp2_with fail
      refine (HI.out _).mono ?_
      rintro e w2 ⟨rfl, hg⟩
      have G2 := Lib.hid (G1.out.trans hg)
      have R2 := Lib.hid (keepB R1.out hg)
      have HX : Hid (∀ W, Grew w2 W → W.cell? (ad.add (k * 2)) = some (.int .i64 x.bit) ∧ W.cell? ⟨(ad.add (k * 2)).block, (ad.add (k * 2)).off + 1, none⟩ = some (.int .i64 x.founder)) := Lib.hid fun W hg => HX0.out W (G2.out.trans hg)
      have HIX : Hid (∀ W, Grew w2 W → Calls Tryz.prog 55 #[.slice A0' r.labels.length cp0, .agg #[.int .i64 0, .int .u64 ((bitOf x.bit).toNat : Int)]] W fun e w' => e = .returned (.int .i64 res) ∧ Grew W w') := Lib.hid fun W hg => HIX0.out W (G2.out.trans hg)
      clear hg r0 r1 r2 r3 r4 r5 r6 r7 r8 HX0 HIX0
      go_wp2
      refine Facts.wp_region_text (by kernel_rfl) (by kernel_rfl) ?_
      apply Facts.Lex.exact [] _ (by kernel_rfl)
      · intro u W hC hK
        clear hK
        unfold Facts.one
        go_simp
        first | exact ⟨Grew.refl _, rfl⟩ | rfl
      simp only [Act.put, List.setIfInBounds_toArray, List.set_cons_zero, List.set_cons_succ, Nat.zero_add]
      apply Facts.Lex.exact [] (.slice A0' r.labels.length cp0) (by kernel_rfl)
      · intro u W hC hK
        clear hK
        obtain ⟨r0, r1, r2, r3, r4, r5, r6, r7, r8⟩ := re_cells (keepB R2.out hC)
        unfold Facts.one
        go_simp
        first | exact ⟨Grew.refl _, rfl⟩ | rfl
      simp only [Act.put, List.setIfInBounds_toArray, List.set_cons_zero, List.set_cons_succ, Nat.reduceAdd]
      apply Facts.Lex.exact [] _ (by kernel_rfl)
      · intro u W hC hK
        clear hK
        unfold Facts.one
        go_simp
        first | exact ⟨Grew.refl _, rfl⟩ | rfl
      simp only [Act.put, List.setIfInBounds_toArray, List.set_cons_zero, List.set_cons_succ, Nat.reduceAdd]
      apply Facts.Lex.exact [] (.slice (some ad) r.guilds.length cp3) (by kernel_rfl)
      · intro u W hC hK
        clear hK
        obtain ⟨r0, r1, r2, r3, r4, r5, r6, r7, r8⟩ := re_cells (keepB R2.out hC)
        unfold Facts.one
        go_simp
        first | exact ⟨Grew.refl _, rfl⟩ | rfl
      simp only [Act.put, List.setIfInBounds_toArray, List.set_cons_zero, List.set_cons_succ, Nat.reduceAdd]
      apply Facts.Lex.exact [] _ (by kernel_rfl)
      · intro u W hC hK
        clear hK
        unfold Facts.one
        go_simp
        first | exact ⟨Grew.refl _, rfl⟩ | rfl
      simp only [Act.put, List.setIfInBounds_toArray, List.set_cons_zero, List.set_cons_succ, Nat.reduceAdd]
      apply Facts.Lex.exact [] (.pointer (some (ad.add (k * 2)))) (by kernel_rfl)
      · intro u W hC hK
        clear hK
        unfold Facts.one
        go_simp
        first | exact ⟨Grew.refl _, rfl⟩ | rfl
      simp only [Act.put, List.setIfInBounds_toArray, List.set_cons_zero, List.set_cons_succ, Nat.reduceAdd]
      apply Facts.Lex.exact [] (.agg #[.int .i64 x.bit, .int .i64 x.founder]) (by kernel_rfl)
      · intro u W hC hK
        clear hK
        have HG9 := HX.out W hC
        obtain ⟨d0, d1⟩ := HG9
        unfold Facts.one
        go_simp
        first | exact ⟨Grew.refl _, rfl⟩ | rfl
      simp only [Act.put, List.setIfInBounds_toArray, List.set_cons_zero, List.set_cons_succ, Nat.reduceAdd]
      apply Facts.Lex.exact [] (.agg #[.int .i64 0, .int .u64 ((bitOf x.bit).toNat : Int)]) (by kernel_rfl)
      · intro u W hC hK
        clear hK
        unfold Facts.one
        go_simp
        refine (hallG_any x.bit x.founder W).mono ?_
        rintro e w' ⟨rfl, hg⟩
        exact ⟨_, rfl, hg, rfl⟩
      simp only [Act.put, List.setIfInBounds_toArray, List.set_cons_zero, List.set_cons_succ, Nat.reduceAdd]
      apply Facts.Lex.exact [] (.int .i64 res) (by kernel_rfl)
      · intro u W hC hK
        clear hK
        unfold Facts.one
        go_simp
        refine (HIX.out W hC).mono ?_
        rintro e w' ⟨rfl, hg⟩
        exact ⟨_, rfl, hg, rfl⟩
      simp only [Act.put, List.setIfInBounds_toArray, List.set_cons_zero, List.set_cons_succ, Nat.reduceAdd]
      apply Facts.Lex.exact [] (.int .i64 res) (by kernel_rfl)
      · intro u W hC hK
        clear hK
        unfold Facts.one
        go_simp
        first | exact ⟨Grew.refl _, rfl⟩ | rfl
      simp only [Act.put, List.setIfInBounds_toArray, List.set_cons_zero, List.set_cons_succ, Nat.reduceAdd]
      refine Facts.Lex.done fun u W2 hC hL => ?_
      have HG9 := Lib.hid (G2.out.trans hC)
      clear hC hL
      go_wp2
      go_returns
      exact ⟨rfl, HG9.out⟩

def acctP (r : Re) (s : ByteArray) : Int := if mayBe r = true then Lib.idxOfS (r.accounts.map (·.name)) s else -1
set_option maxHeartbeats 4000000 in
theorem account_any (v : Value) (r : Re) (s : ByteArray) (w : World) (h : ReIs w v r) (hs : Sized r) : Calls Tryz.prog 19 #[v, .string s] w fun e w' => e = .returned (.int .i64 (acctP r s)) ∧ Grew w w' := by
  have HRI := Lib.hid (fun W hg => right_re v r W (h.grew (w' := W) hg) hs)
  obtain ⟨v0, v1, v2, v3, v4, rfl, h0, h1, h2, h3, h4⟩ := h
  have HL0 := Lib.hid h0
  have HL2 := Lib.hid h2
  have HL3 := Lib.hid h3
  obtain ⟨A0', cp0, rfl, _⟩ := h0.slice
  obtain ⟨A1', cp1, rfl, _⟩ := id h1
  obtain ⟨A2', cp2, rfl, _⟩ := h2.slice
  obtain ⟨A3', cp3, rfl, _⟩ := h3.slice
  obtain ⟨A4', cp4, rfl, _⟩ := h4.slice
  clear h0 h1 h2 h3 h4
  have G0 : Hid (Grew w (w.alloc (Obj.cells #[.slice A0' r.labels.length cp0, .slice A1' r.lines.length cp1, .slice A2' r.accounts.length cp2, .slice A3' r.guilds.length cp3, .slice A4' r.quotas.length cp4, .int .i64 r.orders, .int .i64 r.audits, .int .i64 r.rate, .int .i64 r.rounds] 28))) := Lib.hid (by unfold Grew; go_grown)
  have R0 : Hid ((w.alloc (Obj.cells #[.slice A0' r.labels.length cp0, .slice A1' r.lines.length cp1, .slice A2' r.accounts.length cp2, .slice A3' r.guilds.length cp3, .slice A4' r.quotas.length cp4, .int .i64 r.orders, .int .i64 r.audits, .int .i64 r.rate, .int .i64 r.rounds] 28)).heap[w.heap.size]? = some (rcell (.slice A0' r.labels.length cp0) (.slice A1' r.lines.length cp1) (.slice A2' r.accounts.length cp2) (.slice A3' r.guilds.length cp3) (.slice A4' r.quotas.length cp4) r.orders r.audits r.rate r.rounds)) := Lib.hid (heap_alloc_new w _)
  obtain ⟨r0, r1, r2, r3, r4, r5, r6, r7, r8⟩ := re_cells R0.out
  unfold acctP
  cases hb : mayBe r with
  | false =>
    rw [if_neg (by simp)]
    rw [hb] at HRI
    clear hb
    go_enter Tryz.func19, Tryz.ntmps19
    go_wp2_with fail
    with_reducible refine (HRI.out _ G0.out).mono ?_
    rintro e w1 ⟨rfl, hg⟩
    have G1 := Lib.hid (G0.out.trans hg)
    clear hg r0 r1 r2 r3 r4 r5 r6 r7 r8
    go_wp2
    go_returns
    exact ⟨rfl, G1.out⟩
  | true =>
    rw [if_pos rfl]
    rw [hb] at HRI
    have hl : r.accounts.length ≤ 8 := by
      unfold mayBe at hb
      simp only [Bool.and_eq_true] at hb
      obtain ⟨_, _, _, _, h3, _⟩ := hb
      unfold rule3 wit at h3
      simp only [Bool.and_eq_true, decide_eq_true_iff] at h3
      omega
    have HLEN := Lib.hid hl
    clear hb hl
    go_enter Tryz.func19, Tryz.ntmps19
    go_wp2_with fail
    with_reducible refine (HRI.out _ G0.out).mono ?_
    rintro e w1 ⟨rfl, hg⟩
    have G1 := Lib.hid (G0.out.trans hg)
    have R1 := Lib.hid (keepB R0.out hg)
    clear hg r0 r1 r2 r3 r4 r5 r6 r7 r8
    obtain ⟨r0, r1, r2, r3, r4, r5, r6, r7, r8⟩ := re_cells R1.out
    go_wp2_with fail
    refine (names_any _ r.accounts w1 (HL2.out.grew G1.out) (by have := HLEN.out; omega)).mono ?_
    rintro e w2 ⟨v', rfl, hts, hg⟩
    have HTS := Lib.hid hts
    have G2 := Lib.hid (G1.out.trans hg)
    clear hg hts r0 r1 r2 r3 r4 r5 r6 r7 r8
    go_wp2_with fail
    refine (Names.index_all w2 v' _ s (by rw [List.length_map]; have := HLEN.out; omega) HTS.out).mono ?_
    rintro e w3 ⟨rfl, rfl⟩
    go_wp2
    go_returns
    exact ⟨rfl, G2.out⟩
end Go.Proofs.YtmegdgeiikhflaaGreat.EA
namespace Go.Proofs.YtmegdgeiikhflaaGreat.EB
set_option maxRecDepth 100000
open Go Go.RowKit Go.Lib Go.Proofs.YtmegdgeiikhflaaGreat Go.Proofs.YtmegdgeiikhflaaGreat.Facts Go.Proofs.YtmegdgeiikhflaaGreat.Bytes Go.Proofs.YtmegdgeiikhflaaGreat.Plain Go.Proofs.YtmegdgeiikhflaaGreat.Ints Go.Proofs.YtmegdgeiikhflaaGreat.LBox Go.Proofs.YtmegdgeiikhflaaGreat.RRows Go.Proofs.YtmegdgeiikhflaaGreat.RSmall Go.Proofs.YtmegdgeiikhflaaGreat.RRules Go.Proofs.YtmegdgeiikhflaaGreat.RRule3 Go.Proofs.YtmegdgeiikhflaaGreat.RRight


theorem Is_at {w : World} {v : Value} {l : List Int} (h : Is w v l) {k : Nat} {x : Int} (hk : l[k]? = some x) : ∃ ad c, v = .slice (some ad) l.length c ∧ l.length ≤ c ∧ w.cell? (ad.add k) = some (.int .i64 x) := by
  have hlt := (List.getElem?_eq_some_iff.1 hk).1
  obtain ⟨ad, c, e, hc, hcell⟩ := h.cell hlt
  rw [hk] at hcell
  exact ⟨ad, c, e, hc, hcell⟩
set_option maxHeartbeats 8000000 in
/-- A realm is the same as itself. -/
theorem same_self (v v' : Value) (r : Re) (w : World) (h : ReIs w v r) (h' : ReIs w v' r) : Calls Tryz.prog 31 #[v, v'] w fun e w' => e = .returned (.bool true) ∧ Grew w w' := by
  obtain ⟨v0, v1, v2, v3, v4, rfl, h0, h1, h2, h3, h4⟩ := h
  obtain ⟨u0, u1, u2, u3, u4, rfl, k0, k1, k2, k3, k4⟩ := h'
  have HX0 := Lib.hid h0
  have HY0 := Lib.hid k0
  have HX1 := Lib.hid h1
  have HY1 := Lib.hid k1
  have HX2 := Lib.hid h2
  have HY2 := Lib.hid k2
  have HX3 := Lib.hid h3
  have HY3 := Lib.hid k3
  have HX4 := Lib.hid h4
  have HY4 := Lib.hid k4
  obtain ⟨A0x, c0x, rfl, _⟩ := id h0
  obtain ⟨A1x, c1x, rfl, _⟩ := id h1
  obtain ⟨A2x, c2x, rfl, _⟩ := id h2
  obtain ⟨A3x, c3x, rfl, _⟩ := id h3
  obtain ⟨A4x, c4x, rfl, _⟩ := id h4
  obtain ⟨A0y, c0y, rfl, _⟩ := id k0
  obtain ⟨A1y, c1y, rfl, _⟩ := id k1
  obtain ⟨A2y, c2y, rfl, _⟩ := id k2
  obtain ⟨A3y, c3y, rfl, _⟩ := id k3
  obtain ⟨A4y, c4y, rfl, _⟩ := id k4
  clear h0 h1 h2 h3 h4 k0 k1 k2 k3 k4
  have G0 : Hid (Grew w ((w.alloc (Obj.cells #[.slice A0x r.labels.length c0x, .slice A1x r.lines.length c1x, .slice A2x r.accounts.length c2x, .slice A3x r.guilds.length c3x, .slice A4x r.quotas.length c4x, .int .i64 r.orders, .int .i64 r.audits, .int .i64 r.rate, .int .i64 r.rounds] 28)).alloc (Obj.cells #[.slice A0y r.labels.length c0y, .slice A1y r.lines.length c1y, .slice A2y r.accounts.length c2y, .slice A3y r.guilds.length c3y, .slice A4y r.quotas.length c4y, .int .i64 r.orders, .int .i64 r.audits, .int .i64 r.rate, .int .i64 r.rounds] 28))) := Lib.hid (by unfold Grew; go_grown)
  have HRA : Hid (((w.alloc (Obj.cells #[.slice A0x r.labels.length c0x, .slice A1x r.lines.length c1x, .slice A2x r.accounts.length c2x, .slice A3x r.guilds.length c3x, .slice A4x r.quotas.length c4x, .int .i64 r.orders, .int .i64 r.audits, .int .i64 r.rate, .int .i64 r.rounds] 28)).alloc (Obj.cells #[.slice A0y r.labels.length c0y, .slice A1y r.lines.length c1y, .slice A2y r.accounts.length c2y, .slice A3y r.guilds.length c3y, .slice A4y r.quotas.length c4y, .int .i64 r.orders, .int .i64 r.audits, .int .i64 r.rate, .int .i64 r.rounds] 28)).heap[w.heap.size]? = some (rcell (.slice A0x r.labels.length c0x) (.slice A1x r.lines.length c1x) (.slice A2x r.accounts.length c2x) (.slice A3x r.guilds.length c3x) (.slice A4x r.quotas.length c4x) r.orders r.audits r.rate r.rounds)) := Lib.hid ((heap_alloc_old _ _ (by simp)).trans (heap_alloc_new w _))
  have HRB : Hid (((w.alloc (Obj.cells #[.slice A0x r.labels.length c0x, .slice A1x r.lines.length c1x, .slice A2x r.accounts.length c2x, .slice A3x r.guilds.length c3x, .slice A4x r.quotas.length c4x, .int .i64 r.orders, .int .i64 r.audits, .int .i64 r.rate, .int .i64 r.rounds] 28)).alloc (Obj.cells #[.slice A0y r.labels.length c0y, .slice A1y r.lines.length c1y, .slice A2y r.accounts.length c2y, .slice A3y r.guilds.length c3y, .slice A4y r.quotas.length c4y, .int .i64 r.orders, .int .i64 r.audits, .int .i64 r.rate, .int .i64 r.rounds] 28)).heap[w.heap.size + 1]? = some (rcell (.slice A0y r.labels.length c0y) (.slice A1y r.lines.length c1y) (.slice A2y r.accounts.length c2y) (.slice A3y r.guilds.length c3y) (.slice A4y r.quotas.length c4y) r.orders r.audits r.rate r.rounds)) := Lib.hid (heap_alloc2_new w _ _)
  have HGG : Hid (Grew ((w.alloc (Obj.cells #[.slice A0x r.labels.length c0x, .slice A1x r.lines.length c1x, .slice A2x r.accounts.length c2x, .slice A3x r.guilds.length c3x, .slice A4x r.quotas.length c4x, .int .i64 r.orders, .int .i64 r.audits, .int .i64 r.rate, .int .i64 r.rounds] 28)).alloc (Obj.cells #[.slice A0y r.labels.length c0y, .slice A1y r.lines.length c1y, .slice A2y r.accounts.length c2y, .slice A3y r.guilds.length c3y, .slice A4y r.quotas.length c4y, .int .i64 r.orders, .int .i64 r.audits, .int .i64 r.rate, .int .i64 r.rounds] 28)) ((w.alloc (Obj.cells #[.slice A0x r.labels.length c0x, .slice A1x r.lines.length c1x, .slice A2x r.accounts.length c2x, .slice A3x r.guilds.length c3x, .slice A4x r.quotas.length c4x, .int .i64 r.orders, .int .i64 r.audits, .int .i64 r.rate, .int .i64 r.rounds] 28)).alloc (Obj.cells #[.slice A0y r.labels.length c0y, .slice A1y r.lines.length c1y, .slice A2y r.accounts.length c2y, .slice A3y r.guilds.length c3y, .slice A4y r.quotas.length c4y, .int .i64 r.orders, .int .i64 r.audits, .int .i64 r.rate, .int .i64 r.rounds] 28))) := Lib.hid (Grew.refl _)
  go_enter Tryz.func31, Tryz.ntmps31
  obtain ⟨r0, r1, r2, r3, r4, r5, r6, r7, r8⟩ := re_cells (keepB HRA.out HGG.out)
  obtain ⟨t0, t1, t2, t3, t4, t5, t6, t7, t8⟩ := re_cells (keepB HRB.out HGG.out)
  go_wp2
  go_loopg [5] r.labels.length (fun g s5 wx => ∃ k : Nat, k + g = r.labels.length ∧ s5 = .int .i64 k ∧ Hid (Grew ((w.alloc (Obj.cells #[.slice A0x r.labels.length c0x, .slice A1x r.lines.length c1x, .slice A2x r.accounts.length c2x, .slice A3x r.guilds.length c3x, .slice A4x r.quotas.length c4x, .int .i64 r.orders, .int .i64 r.audits, .int .i64 r.rate, .int .i64 r.rounds] 28)).alloc (Obj.cells #[.slice A0y r.labels.length c0y, .slice A1y r.lines.length c1y, .slice A2y r.accounts.length c2y, .slice A3y r.guilds.length c3y, .slice A4y r.quotas.length c4y, .int .i64 r.orders, .int .i64 r.audits, .int .i64 r.rate, .int .i64 r.rounds] 28)) wx))
  case atStart => exact ⟨0, by omega, rfl, HGG⟩
  case round =>
    clear HGG r0 r1 r2 r3 r4 r5 r6 r7 r8 t0 t1 t2 t3 t4 t5 t6 t7 t8
    obtain ⟨k, hkg, rfl, HGG⟩ := hrel
    cases gk with
    | zero =>
      have hkz : ¬ ((k : Int) < (r.labels.length : Int)) := by omega
      clear hkg
      obtain ⟨r0, r1, r2, r3, r4, r5, r6, r7, r8⟩ := re_cells (keepB HRA.out HGG.out)
      obtain ⟨t0, t1, t2, t3, t4, t5, t6, t7, t8⟩ := re_cells (keepB HRB.out HGG.out)
      go_wp2
      go_loopg [6] r.lines.length (fun g s5 wx => ∃ k : Nat, k + g = r.lines.length ∧ s5 = .int .i64 k ∧ Hid (Grew ((w.alloc (Obj.cells #[.slice A0x r.labels.length c0x, .slice A1x r.lines.length c1x, .slice A2x r.accounts.length c2x, .slice A3x r.guilds.length c3x, .slice A4x r.quotas.length c4x, .int .i64 r.orders, .int .i64 r.audits, .int .i64 r.rate, .int .i64 r.rounds] 28)).alloc (Obj.cells #[.slice A0y r.labels.length c0y, .slice A1y r.lines.length c1y, .slice A2y r.accounts.length c2y, .slice A3y r.guilds.length c3y, .slice A4y r.quotas.length c4y, .int .i64 r.orders, .int .i64 r.audits, .int .i64 r.rate, .int .i64 r.rounds] 28)) wx))
      case atStart => exact ⟨0, by omega, rfl, HGG⟩
      case round =>
        clear HGG r0 r1 r2 r3 r4 r5 r6 r7 r8 t0 t1 t2 t3 t4 t5 t6 t7 t8
        obtain ⟨k, hkg, rfl, HGG⟩ := hrel
        cases gk with
        | zero =>
          have hkz : ¬ ((k : Int) < (r.lines.length : Int)) := by omega
          clear hkg
          obtain ⟨r0, r1, r2, r3, r4, r5, r6, r7, r8⟩ := re_cells (keepB HRA.out HGG.out)
          obtain ⟨t0, t1, t2, t3, t4, t5, t6, t7, t8⟩ := re_cells (keepB HRB.out HGG.out)
          go_wp2
          go_loopg [7] r.accounts.length (fun g s5 wx => ∃ k : Nat, k + g = r.accounts.length ∧ s5 = .int .i64 k ∧ Hid (Grew ((w.alloc (Obj.cells #[.slice A0x r.labels.length c0x, .slice A1x r.lines.length c1x, .slice A2x r.accounts.length c2x, .slice A3x r.guilds.length c3x, .slice A4x r.quotas.length c4x, .int .i64 r.orders, .int .i64 r.audits, .int .i64 r.rate, .int .i64 r.rounds] 28)).alloc (Obj.cells #[.slice A0y r.labels.length c0y, .slice A1y r.lines.length c1y, .slice A2y r.accounts.length c2y, .slice A3y r.guilds.length c3y, .slice A4y r.quotas.length c4y, .int .i64 r.orders, .int .i64 r.audits, .int .i64 r.rate, .int .i64 r.rounds] 28)) wx))
          case atStart => exact ⟨0, by omega, rfl, HGG⟩
          case round =>
            clear HGG r0 r1 r2 r3 r4 r5 r6 r7 r8 t0 t1 t2 t3 t4 t5 t6 t7 t8
            obtain ⟨k, hkg, rfl, HGG⟩ := hrel
            cases gk with
            | zero =>
              have hkz : ¬ ((k : Int) < (r.accounts.length : Int)) := by omega
              clear hkg
              obtain ⟨r0, r1, r2, r3, r4, r5, r6, r7, r8⟩ := re_cells (keepB HRA.out HGG.out)
              obtain ⟨t0, t1, t2, t3, t4, t5, t6, t7, t8⟩ := re_cells (keepB HRB.out HGG.out)
              go_wp2
              go_loopg [8] r.guilds.length (fun g s5 wx => ∃ k : Nat, k + g = r.guilds.length ∧ s5 = .int .i64 k ∧ Hid (Grew ((w.alloc (Obj.cells #[.slice A0x r.labels.length c0x, .slice A1x r.lines.length c1x, .slice A2x r.accounts.length c2x, .slice A3x r.guilds.length c3x, .slice A4x r.quotas.length c4x, .int .i64 r.orders, .int .i64 r.audits, .int .i64 r.rate, .int .i64 r.rounds] 28)).alloc (Obj.cells #[.slice A0y r.labels.length c0y, .slice A1y r.lines.length c1y, .slice A2y r.accounts.length c2y, .slice A3y r.guilds.length c3y, .slice A4y r.quotas.length c4y, .int .i64 r.orders, .int .i64 r.audits, .int .i64 r.rate, .int .i64 r.rounds] 28)) wx))
              case atStart => exact ⟨0, by omega, rfl, HGG⟩
              case round =>
                clear HGG r0 r1 r2 r3 r4 r5 r6 r7 r8 t0 t1 t2 t3 t4 t5 t6 t7 t8
                obtain ⟨k, hkg, rfl, HGG⟩ := hrel
                cases gk with
                | zero =>
                  have hkz : ¬ ((k : Int) < (r.guilds.length : Int)) := by omega
                  clear hkg
                  obtain ⟨r0, r1, r2, r3, r4, r5, r6, r7, r8⟩ := re_cells (keepB HRA.out HGG.out)
                  obtain ⟨t0, t1, t2, t3, t4, t5, t6, t7, t8⟩ := re_cells (keepB HRB.out HGG.out)
                  go_wp2
                  go_loopg [9] r.quotas.length (fun g s5 wx => ∃ k : Nat, k + g = r.quotas.length ∧ s5 = .int .i64 k ∧ Hid (Grew ((w.alloc (Obj.cells #[.slice A0x r.labels.length c0x, .slice A1x r.lines.length c1x, .slice A2x r.accounts.length c2x, .slice A3x r.guilds.length c3x, .slice A4x r.quotas.length c4x, .int .i64 r.orders, .int .i64 r.audits, .int .i64 r.rate, .int .i64 r.rounds] 28)).alloc (Obj.cells #[.slice A0y r.labels.length c0y, .slice A1y r.lines.length c1y, .slice A2y r.accounts.length c2y, .slice A3y r.guilds.length c3y, .slice A4y r.quotas.length c4y, .int .i64 r.orders, .int .i64 r.audits, .int .i64 r.rate, .int .i64 r.rounds] 28)) wx))
                  case atStart => exact ⟨0, by omega, rfl, HGG⟩
                  case round =>
                    clear HGG r0 r1 r2 r3 r4 r5 r6 r7 r8 t0 t1 t2 t3 t4 t5 t6 t7 t8
                    obtain ⟨k, hkg, rfl, HGG⟩ := hrel
                    cases gk with
                    | zero =>
                      have hkz : ¬ ((k : Int) < (r.quotas.length : Int)) := by omega
                      clear hkg
                      obtain ⟨r0, r1, r2, r3, r4, r5, r6, r7, r8⟩ := re_cells (keepB HRA.out HGG.out)
                      obtain ⟨t0, t1, t2, t3, t4, t5, t6, t7, t8⟩ := re_cells (keepB HRB.out HGG.out)
                      go_wp2
                      go_returns
                      exact ⟨by first | rfl | (simp; done), G0.out.trans HGG.out⟩
                    | succ g =>
                      have hkl : k < r.quotas.length := by omega
                      have hkz : (k : Int) < (r.quotas.length : Int) := by omega
                      have hx : r.quotas[k]? = some r.quotas[k] := List.getElem?_eq_getElem hkl
                      generalize r.quotas[k] = x at *
                      obtain ⟨ad, c9, e9, _⟩ := Qs_at HX4.out hx
                      injection e9 with e1 e2 e3
                      subst e1 e3
                      clear e2
                      obtain ⟨ae, c8, e9, _⟩ := Qs_at HY4.out hx
                      injection e9 with e1 e2 e3
                      subst e1 e3
                      clear e2
                      have HE1 : Hid (∀ W, Grew wr W → W.cell? (ad.add (k * 6)) = some (.int .i64 x.rooms) ∧ W.cell? ⟨(ad.add (k * 6)).block, (ad.add (k * 6)).off + 1, none⟩ = some (.int .i64 x.exits) ∧ W.cell? ⟨(ad.add (k * 6)).block, (ad.add (k * 6)).off + 2, none⟩ = some (.int .i64 x.items) ∧ W.cell? ⟨(ad.add (k * 6)).block, (ad.add (k * 6)).off + 3, none⟩ = some (.int .i64 x.mails) ∧ W.cell? ⟨(ad.add (k * 6)).block, (ad.add (k * 6)).off + 4, none⟩ = some (.int .i64 x.trades) ∧ W.cell? ⟨(ad.add (k * 6)).block, (ad.add (k * 6)).off + 5, none⟩ = some (.int .u64 (x.cap.toNat : Int))) := Lib.hid fun W hg => by
                        obtain ⟨ad', c', e', _, hc⟩ := Qs_at (HX4.out.grew (G0.out.trans (HGG.out.trans hg))) hx
                        injection e' with e1 e2 e3
                        injection e1 with e1
                        subst e1
                        exact hc
                      have HE2 : Hid (∀ W, Grew wr W → W.cell? (ae.add (k * 6)) = some (.int .i64 x.rooms) ∧ W.cell? ⟨(ae.add (k * 6)).block, (ae.add (k * 6)).off + 1, none⟩ = some (.int .i64 x.exits) ∧ W.cell? ⟨(ae.add (k * 6)).block, (ae.add (k * 6)).off + 2, none⟩ = some (.int .i64 x.items) ∧ W.cell? ⟨(ae.add (k * 6)).block, (ae.add (k * 6)).off + 3, none⟩ = some (.int .i64 x.mails) ∧ W.cell? ⟨(ae.add (k * 6)).block, (ae.add (k * 6)).off + 4, none⟩ = some (.int .i64 x.trades) ∧ W.cell? ⟨(ae.add (k * 6)).block, (ae.add (k * 6)).off + 5, none⟩ = some (.int .u64 (x.cap.toNat : Int))) := Lib.hid fun W hg => by
                        obtain ⟨ad', c', e', _, hc⟩ := Qs_at (HY4.out.grew (G0.out.trans (HGG.out.trans hg))) hx
                        injection e' with e1 e2 e3
                        injection e1 with e1
                        subst e1
                        exact hc
                      have HR1 := Lib.hid (keepB HRA.out HGG.out)
                      have HR2 := Lib.hid (keepB HRB.out HGG.out)
                      obtain ⟨r0, r1, r2, r3, r4, r5, r6, r7, r8⟩ := re_cells HR1.out
                      obtain ⟨t0, t1, t2, t3, t4, t5, t6, t7, t8⟩ := re_cells HR2.out
                      have HB8 : Hid (r.quotas.length ≤ maxLen) := Lib.hid (by obtain ⟨_, _, e, q1, q2, _⟩ := HX4.out; omega)
                      have HKW : Hid (wrap64 ((k : Int) + 1) = ((k + 1 : Nat) : Int)) := Lib.hid (by have := HB8.out; unfold maxLen at this; unfold wrap64; omega)
                      have HM : Hid (k + 1 + g = r.quotas.length) := Lib.hid (by omega)
                      clear hkg hx
                      go_wp2
                      clear r0 r1 r2 r3 r4 r5 r6 r7 r8 t0 t1 t2 t3 t4 t5 t6 t7 t8
                      refine Facts.wp_region_text (by kernel_rfl) (by kernel_rfl) ?_
                      apply Facts.Lex.exact [] _ (by kernel_rfl)
                      · intro u W hC hK
                        clear hK
                        unfold Facts.one
                        go_simp
                        first | exact ⟨Grew.refl _, rfl⟩ | rfl | exact ⟨Grew.refl _, by simp⟩
                      simp only [Act.put, List.setIfInBounds_toArray, List.set_cons_zero, List.set_cons_succ, Nat.zero_add]
                      apply Facts.Lex.exact [] _ (by kernel_rfl)
                      · intro u W hC hK
                        clear hK
                        obtain ⟨r0, r1, r2, r3, r4, r5, r6, r7, r8⟩ := re_cells (keepB HR1.out hC)
                        unfold Facts.one
                        go_simp
                        first | exact ⟨Grew.refl _, rfl⟩ | rfl | exact ⟨Grew.refl _, by simp⟩
                      simp only [Act.put, List.setIfInBounds_toArray, List.set_cons_zero, List.set_cons_succ, Nat.reduceAdd]
                      apply Facts.Lex.exact [] _ (by kernel_rfl)
                      · intro u W hC hK
                        clear hK
                        unfold Facts.one
                        go_simp
                        first | exact ⟨Grew.refl _, rfl⟩ | rfl | exact ⟨Grew.refl _, by simp⟩
                      simp only [Act.put, List.setIfInBounds_toArray, List.set_cons_zero, List.set_cons_succ, Nat.reduceAdd]
                      apply Facts.Lex.exact [] _ (by kernel_rfl)
                      · intro u W hC hK
                        clear hK
                        unfold Facts.one
                        go_simp
                        first | exact ⟨Grew.refl _, rfl⟩ | rfl | exact ⟨Grew.refl _, by simp⟩
                      simp only [Act.put, List.setIfInBounds_toArray, List.set_cons_zero, List.set_cons_succ, Nat.reduceAdd]
                      apply Facts.Lex.exact [] (.agg #[.int .i64 x.rooms, .int .i64 x.exits, .int .i64 x.items, .int .i64 x.mails, .int .i64 x.trades, .int .u64 (x.cap.toNat : Int)]) (by kernel_rfl)
                      · intro u W hC hK
                        clear hK
                        have hE := HE1.out W hC
                        obtain ⟨d0, d1, d2, d3, d4, d5⟩ := hE
                        unfold Facts.one
                        go_simp
                        first | exact ⟨Grew.refl _, rfl⟩ | rfl | exact ⟨Grew.refl _, by simp⟩
                      simp only [Act.put, List.setIfInBounds_toArray, List.set_cons_zero, List.set_cons_succ, Nat.reduceAdd]
                      apply Facts.Lex.exact [] _ (by kernel_rfl)
                      · intro u W hC hK
                        clear hK
                        unfold Facts.one
                        go_simp
                        first | exact ⟨Grew.refl _, rfl⟩ | rfl | exact ⟨Grew.refl _, by simp⟩
                      simp only [Act.put, List.setIfInBounds_toArray, List.set_cons_zero, List.set_cons_succ, Nat.reduceAdd]
                      apply Facts.Lex.exact [] _ (by kernel_rfl)
                      · intro u W hC hK
                        clear hK
                        obtain ⟨t0, t1, t2, t3, t4, t5, t6, t7, t8⟩ := re_cells (keepB HR2.out hC)
                        unfold Facts.one
                        go_simp
                        first | exact ⟨Grew.refl _, rfl⟩ | rfl | exact ⟨Grew.refl _, by simp⟩
                      simp only [Act.put, List.setIfInBounds_toArray, List.set_cons_zero, List.set_cons_succ, Nat.reduceAdd]
                      apply Facts.Lex.exact [] _ (by kernel_rfl)
                      · intro u W hC hK
                        clear hK
                        unfold Facts.one
                        go_simp
                        first | exact ⟨Grew.refl _, rfl⟩ | rfl | exact ⟨Grew.refl _, by simp⟩
                      simp only [Act.put, List.setIfInBounds_toArray, List.set_cons_zero, List.set_cons_succ, Nat.reduceAdd]
                      apply Facts.Lex.exact [] _ (by kernel_rfl)
                      · intro u W hC hK
                        clear hK
                        unfold Facts.one
                        go_simp
                        first | exact ⟨Grew.refl _, rfl⟩ | rfl | exact ⟨Grew.refl _, by simp⟩
                      simp only [Act.put, List.setIfInBounds_toArray, List.set_cons_zero, List.set_cons_succ, Nat.reduceAdd]
                      apply Facts.Lex.exact [] (.agg #[.int .i64 x.rooms, .int .i64 x.exits, .int .i64 x.items, .int .i64 x.mails, .int .i64 x.trades, .int .u64 (x.cap.toNat : Int)]) (by kernel_rfl)
                      · intro u W hC hK
                        clear hK
                        have hE := HE2.out W hC
                        obtain ⟨d0, d1, d2, d3, d4, d5⟩ := hE
                        unfold Facts.one
                        go_simp
                        first | exact ⟨Grew.refl _, rfl⟩ | rfl | exact ⟨Grew.refl _, by simp⟩
                      simp only [Act.put, List.setIfInBounds_toArray, List.set_cons_zero, List.set_cons_succ, Nat.reduceAdd]
                      apply Facts.Lex.exact [] (.bool false) (by kernel_rfl)
                      · intro u W hC hK
                        clear hK
                        unfold Facts.one
                        go_simp
                        first | exact ⟨Grew.refl _, rfl⟩ | rfl | exact ⟨Grew.refl _, by simp⟩
                      simp only [Act.put, List.setIfInBounds_toArray, List.set_cons_zero, List.set_cons_succ, Nat.reduceAdd]
                      refine Facts.Lex.done fun u W2 hC hL => ?_
                      have HGG2 := Lib.hid (HGG.out.trans hC)
                      clear hC hL HGG
                      go_wp2
                      go_roundg g
                      case measure => omega
                      case rel => exact ⟨k + 1, HM.out, by first | rfl | (simp; done) | rw [HKW.out], HGG2⟩
                | succ g =>
                  have hkl : k < r.guilds.length := by omega
                  have hkz : (k : Int) < (r.guilds.length : Int) := by omega
                  have hx : r.guilds[k]? = some r.guilds[k] := List.getElem?_eq_getElem hkl
                  generalize r.guilds[k] = x at *
                  obtain ⟨ad, c9, e9, _⟩ := Gs_at HX3.out hx
                  injection e9 with e1 e2 e3
                  subst e1 e3
                  clear e2
                  obtain ⟨ae, c8, e9, _⟩ := Gs_at HY3.out hx
                  injection e9 with e1 e2 e3
                  subst e1 e3
                  clear e2
                  have HE1 : Hid (∀ W, Grew wr W → W.cell? (ad.add (k * 2)) = some (.int .i64 x.bit) ∧ W.cell? ⟨(ad.add (k * 2)).block, (ad.add (k * 2)).off + 1, none⟩ = some (.int .i64 x.founder)) := Lib.hid fun W hg => by
                    obtain ⟨ad', c', e', _, hc⟩ := Gs_at (HX3.out.grew (G0.out.trans (HGG.out.trans hg))) hx
                    injection e' with e1 e2 e3
                    injection e1 with e1
                    subst e1
                    exact hc
                  have HE2 : Hid (∀ W, Grew wr W → W.cell? (ae.add (k * 2)) = some (.int .i64 x.bit) ∧ W.cell? ⟨(ae.add (k * 2)).block, (ae.add (k * 2)).off + 1, none⟩ = some (.int .i64 x.founder)) := Lib.hid fun W hg => by
                    obtain ⟨ad', c', e', _, hc⟩ := Gs_at (HY3.out.grew (G0.out.trans (HGG.out.trans hg))) hx
                    injection e' with e1 e2 e3
                    injection e1 with e1
                    subst e1
                    exact hc
                  have HR1 := Lib.hid (keepB HRA.out HGG.out)
                  have HR2 := Lib.hid (keepB HRB.out HGG.out)
                  obtain ⟨r0, r1, r2, r3, r4, r5, r6, r7, r8⟩ := re_cells HR1.out
                  obtain ⟨t0, t1, t2, t3, t4, t5, t6, t7, t8⟩ := re_cells HR2.out
                  have HB8 : Hid (r.guilds.length ≤ maxLen) := Lib.hid (by obtain ⟨_, _, e, q1, q2, _⟩ := HX3.out; omega)
                  have HKW : Hid (wrap64 ((k : Int) + 1) = ((k + 1 : Nat) : Int)) := Lib.hid (by have := HB8.out; unfold maxLen at this; unfold wrap64; omega)
                  have HM : Hid (k + 1 + g = r.guilds.length) := Lib.hid (by omega)
                  clear hkg hx
                  go_wp2
                  clear r0 r1 r2 r3 r4 r5 r6 r7 r8 t0 t1 t2 t3 t4 t5 t6 t7 t8
                  refine Facts.wp_region_text (by kernel_rfl) (by kernel_rfl) ?_
                  apply Facts.Lex.exact [] _ (by kernel_rfl)
                  · intro u W hC hK
                    clear hK
                    unfold Facts.one
                    go_simp
                    first | exact ⟨Grew.refl _, rfl⟩ | rfl | exact ⟨Grew.refl _, by simp⟩
                  simp only [Act.put, List.setIfInBounds_toArray, List.set_cons_zero, List.set_cons_succ, Nat.zero_add]
                  apply Facts.Lex.exact [] _ (by kernel_rfl)
                  · intro u W hC hK
                    clear hK
                    obtain ⟨r0, r1, r2, r3, r4, r5, r6, r7, r8⟩ := re_cells (keepB HR1.out hC)
                    unfold Facts.one
                    go_simp
                    first | exact ⟨Grew.refl _, rfl⟩ | rfl | exact ⟨Grew.refl _, by simp⟩
                  simp only [Act.put, List.setIfInBounds_toArray, List.set_cons_zero, List.set_cons_succ, Nat.reduceAdd]
                  apply Facts.Lex.exact [] _ (by kernel_rfl)
                  · intro u W hC hK
                    clear hK
                    unfold Facts.one
                    go_simp
                    first | exact ⟨Grew.refl _, rfl⟩ | rfl | exact ⟨Grew.refl _, by simp⟩
                  simp only [Act.put, List.setIfInBounds_toArray, List.set_cons_zero, List.set_cons_succ, Nat.reduceAdd]
                  apply Facts.Lex.exact [] _ (by kernel_rfl)
                  · intro u W hC hK
                    clear hK
                    unfold Facts.one
                    go_simp
                    first | exact ⟨Grew.refl _, rfl⟩ | rfl | exact ⟨Grew.refl _, by simp⟩
                  simp only [Act.put, List.setIfInBounds_toArray, List.set_cons_zero, List.set_cons_succ, Nat.reduceAdd]
                  apply Facts.Lex.exact [] (.agg #[.int .i64 x.bit, .int .i64 x.founder]) (by kernel_rfl)
                  · intro u W hC hK
                    clear hK
                    have hE := HE1.out W hC
                    obtain ⟨d0, d1⟩ := hE
                    unfold Facts.one
                    go_simp
                    first | exact ⟨Grew.refl _, rfl⟩ | rfl | exact ⟨Grew.refl _, by simp⟩
                  simp only [Act.put, List.setIfInBounds_toArray, List.set_cons_zero, List.set_cons_succ, Nat.reduceAdd]
                  apply Facts.Lex.exact [] _ (by kernel_rfl)
                  · intro u W hC hK
                    clear hK
                    unfold Facts.one
                    go_simp
                    first | exact ⟨Grew.refl _, rfl⟩ | rfl | exact ⟨Grew.refl _, by simp⟩
                  simp only [Act.put, List.setIfInBounds_toArray, List.set_cons_zero, List.set_cons_succ, Nat.reduceAdd]
                  apply Facts.Lex.exact [] _ (by kernel_rfl)
                  · intro u W hC hK
                    clear hK
                    obtain ⟨t0, t1, t2, t3, t4, t5, t6, t7, t8⟩ := re_cells (keepB HR2.out hC)
                    unfold Facts.one
                    go_simp
                    first | exact ⟨Grew.refl _, rfl⟩ | rfl | exact ⟨Grew.refl _, by simp⟩
                  simp only [Act.put, List.setIfInBounds_toArray, List.set_cons_zero, List.set_cons_succ, Nat.reduceAdd]
                  apply Facts.Lex.exact [] _ (by kernel_rfl)
                  · intro u W hC hK
                    clear hK
                    unfold Facts.one
                    go_simp
                    first | exact ⟨Grew.refl _, rfl⟩ | rfl | exact ⟨Grew.refl _, by simp⟩
                  simp only [Act.put, List.setIfInBounds_toArray, List.set_cons_zero, List.set_cons_succ, Nat.reduceAdd]
                  apply Facts.Lex.exact [] _ (by kernel_rfl)
                  · intro u W hC hK
                    clear hK
                    unfold Facts.one
                    go_simp
                    first | exact ⟨Grew.refl _, rfl⟩ | rfl | exact ⟨Grew.refl _, by simp⟩
                  simp only [Act.put, List.setIfInBounds_toArray, List.set_cons_zero, List.set_cons_succ, Nat.reduceAdd]
                  apply Facts.Lex.exact [] (.agg #[.int .i64 x.bit, .int .i64 x.founder]) (by kernel_rfl)
                  · intro u W hC hK
                    clear hK
                    have hE := HE2.out W hC
                    obtain ⟨d0, d1⟩ := hE
                    unfold Facts.one
                    go_simp
                    first | exact ⟨Grew.refl _, rfl⟩ | rfl | exact ⟨Grew.refl _, by simp⟩
                  simp only [Act.put, List.setIfInBounds_toArray, List.set_cons_zero, List.set_cons_succ, Nat.reduceAdd]
                  apply Facts.Lex.exact [] (.bool false) (by kernel_rfl)
                  · intro u W hC hK
                    clear hK
                    unfold Facts.one
                    go_simp
                    first | exact ⟨Grew.refl _, rfl⟩ | rfl | exact ⟨Grew.refl _, by simp⟩
                  simp only [Act.put, List.setIfInBounds_toArray, List.set_cons_zero, List.set_cons_succ, Nat.reduceAdd]
                  refine Facts.Lex.done fun u W2 hC hL => ?_
                  have HGG2 := Lib.hid (HGG.out.trans hC)
                  clear hC hL HGG
                  go_wp2
                  go_roundg g
                  case measure => omega
                  case rel => exact ⟨k + 1, HM.out, by first | rfl | (simp; done) | rw [HKW.out], HGG2⟩
            | succ g =>
              have hkl : k < r.accounts.length := by omega
              have hkz : (k : Int) < (r.accounts.length : Int) := by omega
              have hx : r.accounts[k]? = some r.accounts[k] := List.getElem?_eq_getElem hkl
              generalize r.accounts[k] = x at *
              obtain ⟨ad, c9, e9, _⟩ := As_at HX2.out hx
              injection e9 with e1 e2 e3
              subst e1 e3
              clear e2
              obtain ⟨ae, c8, e9, _⟩ := As_at HY2.out hx
              injection e9 with e1 e2 e3
              subst e1 e3
              clear e2
              have HE1 : Hid (∀ W, Grew wr W → W.cell? (ad.add (k * 4)) = some (.string x.name) ∧ W.cell? ⟨(ad.add (k * 4)).block, (ad.add (k * 4)).off + 1, none⟩ = some (.string x.secret) ∧ W.cell? ⟨(ad.add (k * 4)).block, (ad.add (k * 4)).off + 2, none⟩ = some (.int .i64 x.lev) ∧ W.cell? ⟨(ad.add (k * 4)).block, (ad.add (k * 4)).off + 3, none⟩ = some (.bool x.mints)) := Lib.hid fun W hg => by
                obtain ⟨ad', c', e', _, hc⟩ := As_at (HX2.out.grew (G0.out.trans (HGG.out.trans hg))) hx
                injection e' with e1 e2 e3
                injection e1 with e1
                subst e1
                exact hc
              have HE2 : Hid (∀ W, Grew wr W → W.cell? (ae.add (k * 4)) = some (.string x.name) ∧ W.cell? ⟨(ae.add (k * 4)).block, (ae.add (k * 4)).off + 1, none⟩ = some (.string x.secret) ∧ W.cell? ⟨(ae.add (k * 4)).block, (ae.add (k * 4)).off + 2, none⟩ = some (.int .i64 x.lev) ∧ W.cell? ⟨(ae.add (k * 4)).block, (ae.add (k * 4)).off + 3, none⟩ = some (.bool x.mints)) := Lib.hid fun W hg => by
                obtain ⟨ad', c', e', _, hc⟩ := As_at (HY2.out.grew (G0.out.trans (HGG.out.trans hg))) hx
                injection e' with e1 e2 e3
                injection e1 with e1
                subst e1
                exact hc
              have HR1 := Lib.hid (keepB HRA.out HGG.out)
              have HR2 := Lib.hid (keepB HRB.out HGG.out)
              obtain ⟨r0, r1, r2, r3, r4, r5, r6, r7, r8⟩ := re_cells HR1.out
              obtain ⟨t0, t1, t2, t3, t4, t5, t6, t7, t8⟩ := re_cells HR2.out
              have HB8 : Hid (r.accounts.length ≤ maxLen) := Lib.hid (by obtain ⟨_, _, e, q1, q2, _⟩ := HX2.out; omega)
              have HKW : Hid (wrap64 ((k : Int) + 1) = ((k + 1 : Nat) : Int)) := Lib.hid (by have := HB8.out; unfold maxLen at this; unfold wrap64; omega)
              have HM : Hid (k + 1 + g = r.accounts.length) := Lib.hid (by omega)
              clear hkg hx
              go_wp2
              clear r0 r1 r2 r3 r4 r5 r6 r7 r8 t0 t1 t2 t3 t4 t5 t6 t7 t8
              refine Facts.wp_region_text (by kernel_rfl) (by kernel_rfl) ?_
              apply Facts.Lex.exact [] _ (by kernel_rfl)
              · intro u W hC hK
                clear hK
                unfold Facts.one
                go_simp
                first | exact ⟨Grew.refl _, rfl⟩ | rfl | exact ⟨Grew.refl _, by simp⟩
              simp only [Act.put, List.setIfInBounds_toArray, List.set_cons_zero, List.set_cons_succ, Nat.zero_add]
              apply Facts.Lex.exact [] _ (by kernel_rfl)
              · intro u W hC hK
                clear hK
                obtain ⟨r0, r1, r2, r3, r4, r5, r6, r7, r8⟩ := re_cells (keepB HR1.out hC)
                unfold Facts.one
                go_simp
                first | exact ⟨Grew.refl _, rfl⟩ | rfl | exact ⟨Grew.refl _, by simp⟩
              simp only [Act.put, List.setIfInBounds_toArray, List.set_cons_zero, List.set_cons_succ, Nat.reduceAdd]
              apply Facts.Lex.exact [] _ (by kernel_rfl)
              · intro u W hC hK
                clear hK
                unfold Facts.one
                go_simp
                first | exact ⟨Grew.refl _, rfl⟩ | rfl | exact ⟨Grew.refl _, by simp⟩
              simp only [Act.put, List.setIfInBounds_toArray, List.set_cons_zero, List.set_cons_succ, Nat.reduceAdd]
              apply Facts.Lex.exact [] _ (by kernel_rfl)
              · intro u W hC hK
                clear hK
                unfold Facts.one
                go_simp
                first | exact ⟨Grew.refl _, rfl⟩ | rfl | exact ⟨Grew.refl _, by simp⟩
              simp only [Act.put, List.setIfInBounds_toArray, List.set_cons_zero, List.set_cons_succ, Nat.reduceAdd]
              apply Facts.Lex.exact [] (.agg #[.string x.name, .string x.secret, .int .i64 x.lev, .bool x.mints]) (by kernel_rfl)
              · intro u W hC hK
                clear hK
                have hE := HE1.out W hC
                obtain ⟨d0, d1, d2, d3⟩ := hE
                unfold Facts.one
                go_simp
                first | exact ⟨Grew.refl _, rfl⟩ | rfl | exact ⟨Grew.refl _, by simp⟩
              simp only [Act.put, List.setIfInBounds_toArray, List.set_cons_zero, List.set_cons_succ, Nat.reduceAdd]
              apply Facts.Lex.exact [] _ (by kernel_rfl)
              · intro u W hC hK
                clear hK
                unfold Facts.one
                go_simp
                first | exact ⟨Grew.refl _, rfl⟩ | rfl | exact ⟨Grew.refl _, by simp⟩
              simp only [Act.put, List.setIfInBounds_toArray, List.set_cons_zero, List.set_cons_succ, Nat.reduceAdd]
              apply Facts.Lex.exact [] _ (by kernel_rfl)
              · intro u W hC hK
                clear hK
                obtain ⟨t0, t1, t2, t3, t4, t5, t6, t7, t8⟩ := re_cells (keepB HR2.out hC)
                unfold Facts.one
                go_simp
                first | exact ⟨Grew.refl _, rfl⟩ | rfl | exact ⟨Grew.refl _, by simp⟩
              simp only [Act.put, List.setIfInBounds_toArray, List.set_cons_zero, List.set_cons_succ, Nat.reduceAdd]
              apply Facts.Lex.exact [] _ (by kernel_rfl)
              · intro u W hC hK
                clear hK
                unfold Facts.one
                go_simp
                first | exact ⟨Grew.refl _, rfl⟩ | rfl | exact ⟨Grew.refl _, by simp⟩
              simp only [Act.put, List.setIfInBounds_toArray, List.set_cons_zero, List.set_cons_succ, Nat.reduceAdd]
              apply Facts.Lex.exact [] _ (by kernel_rfl)
              · intro u W hC hK
                clear hK
                unfold Facts.one
                go_simp
                first | exact ⟨Grew.refl _, rfl⟩ | rfl | exact ⟨Grew.refl _, by simp⟩
              simp only [Act.put, List.setIfInBounds_toArray, List.set_cons_zero, List.set_cons_succ, Nat.reduceAdd]
              apply Facts.Lex.exact [] (.agg #[.string x.name, .string x.secret, .int .i64 x.lev, .bool x.mints]) (by kernel_rfl)
              · intro u W hC hK
                clear hK
                have hE := HE2.out W hC
                obtain ⟨d0, d1, d2, d3⟩ := hE
                unfold Facts.one
                go_simp
                first | exact ⟨Grew.refl _, rfl⟩ | rfl | exact ⟨Grew.refl _, by simp⟩
              simp only [Act.put, List.setIfInBounds_toArray, List.set_cons_zero, List.set_cons_succ, Nat.reduceAdd]
              apply Facts.Lex.exact [] (.bool false) (by kernel_rfl)
              · intro u W hC hK
                clear hK
                unfold Facts.one
                go_simp
                first | exact ⟨Grew.refl _, rfl⟩ | rfl | exact ⟨Grew.refl _, by simp⟩
              simp only [Act.put, List.setIfInBounds_toArray, List.set_cons_zero, List.set_cons_succ, Nat.reduceAdd]
              refine Facts.Lex.done fun u W2 hC hL => ?_
              have HGG2 := Lib.hid (HGG.out.trans hC)
              clear hC hL HGG
              go_wp2
              go_roundg g
              case measure => omega
              case rel => exact ⟨k + 1, HM.out, by first | rfl | (simp; done) | rw [HKW.out], HGG2⟩
        | succ g =>
          have hkl : k < r.lines.length := by omega
          have hkz : (k : Int) < (r.lines.length : Int) := by omega
          have hx : r.lines[k]? = some r.lines[k] := List.getElem?_eq_getElem hkl
          generalize r.lines[k] = x at *
          obtain ⟨ad, c9, e9, _⟩ := Is_at HX1.out hx
          injection e9 with e1 e2 e3
          subst e1 e3
          clear e2
          obtain ⟨ae, c8, e9, _⟩ := Is_at HY1.out hx
          injection e9 with e1 e2 e3
          subst e1 e3
          clear e2
          have HE1 : Hid (∀ W, Grew wr W → W.cell? (ad.add k) = some (.int .i64 x)) := Lib.hid fun W hg => by
            obtain ⟨ad', c', e', _, hc⟩ := Is_at (HX1.out.grew (G0.out.trans (HGG.out.trans hg))) hx
            injection e' with e1 e2 e3
            injection e1 with e1
            subst e1
            exact hc
          have HE2 : Hid (∀ W, Grew wr W → W.cell? (ae.add k) = some (.int .i64 x)) := Lib.hid fun W hg => by
            obtain ⟨ad', c', e', _, hc⟩ := Is_at (HY1.out.grew (G0.out.trans (HGG.out.trans hg))) hx
            injection e' with e1 e2 e3
            injection e1 with e1
            subst e1
            exact hc
          have HR1 := Lib.hid (keepB HRA.out HGG.out)
          have HR2 := Lib.hid (keepB HRB.out HGG.out)
          obtain ⟨r0, r1, r2, r3, r4, r5, r6, r7, r8⟩ := re_cells HR1.out
          obtain ⟨t0, t1, t2, t3, t4, t5, t6, t7, t8⟩ := re_cells HR2.out
          have HB8 : Hid (r.lines.length ≤ maxLen) := Lib.hid (by obtain ⟨_, _, e, q1, q2, _⟩ := HX1.out; omega)
          have HKW : Hid (wrap64 ((k : Int) + 1) = ((k + 1 : Nat) : Int)) := Lib.hid (by have := HB8.out; unfold maxLen at this; unfold wrap64; omega)
          have HM : Hid (k + 1 + g = r.lines.length) := Lib.hid (by omega)
          clear hkg hx
          go_wp2
          clear r0 r1 r2 r3 r4 r5 r6 r7 r8 t0 t1 t2 t3 t4 t5 t6 t7 t8
          refine Facts.wp_region_text (by kernel_rfl) (by kernel_rfl) ?_
          apply Facts.Lex.exact [] _ (by kernel_rfl)
          · intro u W hC hK
            clear hK
            unfold Facts.one
            go_simp
            first | exact ⟨Grew.refl _, rfl⟩ | rfl | exact ⟨Grew.refl _, by simp⟩
          simp only [Act.put, List.setIfInBounds_toArray, List.set_cons_zero, List.set_cons_succ, Nat.zero_add]
          apply Facts.Lex.exact [] _ (by kernel_rfl)
          · intro u W hC hK
            clear hK
            obtain ⟨r0, r1, r2, r3, r4, r5, r6, r7, r8⟩ := re_cells (keepB HR1.out hC)
            unfold Facts.one
            go_simp
            first | exact ⟨Grew.refl _, rfl⟩ | rfl | exact ⟨Grew.refl _, by simp⟩
          simp only [Act.put, List.setIfInBounds_toArray, List.set_cons_zero, List.set_cons_succ, Nat.reduceAdd]
          apply Facts.Lex.exact [] _ (by kernel_rfl)
          · intro u W hC hK
            clear hK
            unfold Facts.one
            go_simp
            first | exact ⟨Grew.refl _, rfl⟩ | rfl | exact ⟨Grew.refl _, by simp⟩
          simp only [Act.put, List.setIfInBounds_toArray, List.set_cons_zero, List.set_cons_succ, Nat.reduceAdd]
          apply Facts.Lex.exact [] _ (by kernel_rfl)
          · intro u W hC hK
            clear hK
            unfold Facts.one
            go_simp
            first | exact ⟨Grew.refl _, rfl⟩ | rfl | exact ⟨Grew.refl _, by simp⟩
          simp only [Act.put, List.setIfInBounds_toArray, List.set_cons_zero, List.set_cons_succ, Nat.reduceAdd]
          apply Facts.Lex.exact [] (.int .i64 x) (by kernel_rfl)
          · intro u W hC hK
            clear hK
            have hE := HE1.out W hC
            have d0 := hE
            unfold Facts.one
            go_simp
            first | exact ⟨Grew.refl _, rfl⟩ | rfl | exact ⟨Grew.refl _, by simp⟩
          simp only [Act.put, List.setIfInBounds_toArray, List.set_cons_zero, List.set_cons_succ, Nat.reduceAdd]
          apply Facts.Lex.exact [] _ (by kernel_rfl)
          · intro u W hC hK
            clear hK
            unfold Facts.one
            go_simp
            first | exact ⟨Grew.refl _, rfl⟩ | rfl | exact ⟨Grew.refl _, by simp⟩
          simp only [Act.put, List.setIfInBounds_toArray, List.set_cons_zero, List.set_cons_succ, Nat.reduceAdd]
          apply Facts.Lex.exact [] _ (by kernel_rfl)
          · intro u W hC hK
            clear hK
            obtain ⟨t0, t1, t2, t3, t4, t5, t6, t7, t8⟩ := re_cells (keepB HR2.out hC)
            unfold Facts.one
            go_simp
            first | exact ⟨Grew.refl _, rfl⟩ | rfl | exact ⟨Grew.refl _, by simp⟩
          simp only [Act.put, List.setIfInBounds_toArray, List.set_cons_zero, List.set_cons_succ, Nat.reduceAdd]
          apply Facts.Lex.exact [] _ (by kernel_rfl)
          · intro u W hC hK
            clear hK
            unfold Facts.one
            go_simp
            first | exact ⟨Grew.refl _, rfl⟩ | rfl | exact ⟨Grew.refl _, by simp⟩
          simp only [Act.put, List.setIfInBounds_toArray, List.set_cons_zero, List.set_cons_succ, Nat.reduceAdd]
          apply Facts.Lex.exact [] _ (by kernel_rfl)
          · intro u W hC hK
            clear hK
            unfold Facts.one
            go_simp
            first | exact ⟨Grew.refl _, rfl⟩ | rfl | exact ⟨Grew.refl _, by simp⟩
          simp only [Act.put, List.setIfInBounds_toArray, List.set_cons_zero, List.set_cons_succ, Nat.reduceAdd]
          apply Facts.Lex.exact [] (.int .i64 x) (by kernel_rfl)
          · intro u W hC hK
            clear hK
            have hE := HE2.out W hC
            have d0 := hE
            unfold Facts.one
            go_simp
            first | exact ⟨Grew.refl _, rfl⟩ | rfl | exact ⟨Grew.refl _, by simp⟩
          simp only [Act.put, List.setIfInBounds_toArray, List.set_cons_zero, List.set_cons_succ, Nat.reduceAdd]
          apply Facts.Lex.exact [] (.bool false) (by kernel_rfl)
          · intro u W hC hK
            clear hK
            unfold Facts.one
            go_simp
            first | exact ⟨Grew.refl _, rfl⟩ | rfl | exact ⟨Grew.refl _, by simp⟩
          simp only [Act.put, List.setIfInBounds_toArray, List.set_cons_zero, List.set_cons_succ, Nat.reduceAdd]
          refine Facts.Lex.done fun u W2 hC hL => ?_
          have HGG2 := Lib.hid (HGG.out.trans hC)
          clear hC hL HGG
          go_wp2
          go_roundg g
          case measure => omega
          case rel => exact ⟨k + 1, HM.out, by first | rfl | (simp; done) | rw [HKW.out], HGG2⟩
    | succ g =>
      have hkl : k < r.labels.length := by omega
      have hkz : (k : Int) < (r.labels.length : Int) := by omega
      have hx : r.labels[k]? = some r.labels[k] := List.getElem?_eq_getElem hkl
      generalize r.labels[k] = x at *
      obtain ⟨ad, c9, e9, _⟩ := Ls_at HX0.out hx
      injection e9 with e1 e2 e3
      subst e1 e3
      clear e2
      obtain ⟨ae, c8, e9, _⟩ := Ls_at HY0.out hx
      injection e9 with e1 e2 e3
      subst e1 e3
      clear e2
      have HE1 : Hid (∀ W, Grew wr W → W.cell? (ad.add (k * 2)) = some (.int .i64 x.lev) ∧ W.cell? ⟨(ad.add (k * 2)).block, (ad.add (k * 2)).off + 1, none⟩ = some (.int .u64 (x.set.toNat : Int))) := Lib.hid fun W hg => by
        obtain ⟨ad', c', e', _, hc⟩ := Ls_at (HX0.out.grew (G0.out.trans (HGG.out.trans hg))) hx
        injection e' with e1 e2 e3
        injection e1 with e1
        subst e1
        exact hc
      have HE2 : Hid (∀ W, Grew wr W → W.cell? (ae.add (k * 2)) = some (.int .i64 x.lev) ∧ W.cell? ⟨(ae.add (k * 2)).block, (ae.add (k * 2)).off + 1, none⟩ = some (.int .u64 (x.set.toNat : Int))) := Lib.hid fun W hg => by
        obtain ⟨ad', c', e', _, hc⟩ := Ls_at (HY0.out.grew (G0.out.trans (HGG.out.trans hg))) hx
        injection e' with e1 e2 e3
        injection e1 with e1
        subst e1
        exact hc
      have HR1 := Lib.hid (keepB HRA.out HGG.out)
      have HR2 := Lib.hid (keepB HRB.out HGG.out)
      obtain ⟨r0, r1, r2, r3, r4, r5, r6, r7, r8⟩ := re_cells HR1.out
      obtain ⟨t0, t1, t2, t3, t4, t5, t6, t7, t8⟩ := re_cells HR2.out
      have HB8 : Hid (r.labels.length ≤ maxLen) := Lib.hid (by obtain ⟨_, _, e, q1, q2, _⟩ := HX0.out; omega)
      have HKW : Hid (wrap64 ((k : Int) + 1) = ((k + 1 : Nat) : Int)) := Lib.hid (by have := HB8.out; unfold maxLen at this; unfold wrap64; omega)
      have HM : Hid (k + 1 + g = r.labels.length) := Lib.hid (by omega)
      clear hkg hx
      go_wp2
      clear r0 r1 r2 r3 r4 r5 r6 r7 r8 t0 t1 t2 t3 t4 t5 t6 t7 t8
      refine Facts.wp_region_text (by kernel_rfl) (by kernel_rfl) ?_
      apply Facts.Lex.exact [] _ (by kernel_rfl)
      · intro u W hC hK
        clear hK
        unfold Facts.one
        go_simp
        first | exact ⟨Grew.refl _, rfl⟩ | rfl | exact ⟨Grew.refl _, by simp⟩
      simp only [Act.put, List.setIfInBounds_toArray, List.set_cons_zero, List.set_cons_succ, Nat.zero_add]
      apply Facts.Lex.exact [] _ (by kernel_rfl)
      · intro u W hC hK
        clear hK
        obtain ⟨r0, r1, r2, r3, r4, r5, r6, r7, r8⟩ := re_cells (keepB HR1.out hC)
        unfold Facts.one
        go_simp
        first | exact ⟨Grew.refl _, rfl⟩ | rfl | exact ⟨Grew.refl _, by simp⟩
      simp only [Act.put, List.setIfInBounds_toArray, List.set_cons_zero, List.set_cons_succ, Nat.reduceAdd]
      apply Facts.Lex.exact [] _ (by kernel_rfl)
      · intro u W hC hK
        clear hK
        unfold Facts.one
        go_simp
        first | exact ⟨Grew.refl _, rfl⟩ | rfl | exact ⟨Grew.refl _, by simp⟩
      simp only [Act.put, List.setIfInBounds_toArray, List.set_cons_zero, List.set_cons_succ, Nat.reduceAdd]
      apply Facts.Lex.exact [] _ (by kernel_rfl)
      · intro u W hC hK
        clear hK
        unfold Facts.one
        go_simp
        first | exact ⟨Grew.refl _, rfl⟩ | rfl | exact ⟨Grew.refl _, by simp⟩
      simp only [Act.put, List.setIfInBounds_toArray, List.set_cons_zero, List.set_cons_succ, Nat.reduceAdd]
      apply Facts.Lex.exact [] (.agg #[.int .i64 x.lev, .int .u64 (x.set.toNat : Int)]) (by kernel_rfl)
      · intro u W hC hK
        clear hK
        have hE := HE1.out W hC
        obtain ⟨d0, d1⟩ := hE
        unfold Facts.one
        go_simp
        first | exact ⟨Grew.refl _, rfl⟩ | rfl | exact ⟨Grew.refl _, by simp⟩
      simp only [Act.put, List.setIfInBounds_toArray, List.set_cons_zero, List.set_cons_succ, Nat.reduceAdd]
      apply Facts.Lex.exact [] _ (by kernel_rfl)
      · intro u W hC hK
        clear hK
        unfold Facts.one
        go_simp
        first | exact ⟨Grew.refl _, rfl⟩ | rfl | exact ⟨Grew.refl _, by simp⟩
      simp only [Act.put, List.setIfInBounds_toArray, List.set_cons_zero, List.set_cons_succ, Nat.reduceAdd]
      apply Facts.Lex.exact [] _ (by kernel_rfl)
      · intro u W hC hK
        clear hK
        obtain ⟨t0, t1, t2, t3, t4, t5, t6, t7, t8⟩ := re_cells (keepB HR2.out hC)
        unfold Facts.one
        go_simp
        first | exact ⟨Grew.refl _, rfl⟩ | rfl | exact ⟨Grew.refl _, by simp⟩
      simp only [Act.put, List.setIfInBounds_toArray, List.set_cons_zero, List.set_cons_succ, Nat.reduceAdd]
      apply Facts.Lex.exact [] _ (by kernel_rfl)
      · intro u W hC hK
        clear hK
        unfold Facts.one
        go_simp
        first | exact ⟨Grew.refl _, rfl⟩ | rfl | exact ⟨Grew.refl _, by simp⟩
      simp only [Act.put, List.setIfInBounds_toArray, List.set_cons_zero, List.set_cons_succ, Nat.reduceAdd]
      apply Facts.Lex.exact [] _ (by kernel_rfl)
      · intro u W hC hK
        clear hK
        unfold Facts.one
        go_simp
        first | exact ⟨Grew.refl _, rfl⟩ | rfl | exact ⟨Grew.refl _, by simp⟩
      simp only [Act.put, List.setIfInBounds_toArray, List.set_cons_zero, List.set_cons_succ, Nat.reduceAdd]
      apply Facts.Lex.exact [] (.agg #[.int .i64 x.lev, .int .u64 (x.set.toNat : Int)]) (by kernel_rfl)
      · intro u W hC hK
        clear hK
        have hE := HE2.out W hC
        obtain ⟨d0, d1⟩ := hE
        unfold Facts.one
        go_simp
        first | exact ⟨Grew.refl _, rfl⟩ | rfl | exact ⟨Grew.refl _, by simp⟩
      simp only [Act.put, List.setIfInBounds_toArray, List.set_cons_zero, List.set_cons_succ, Nat.reduceAdd]
      apply Facts.Lex.exact [] (.bool false) (by kernel_rfl)
      · intro u W hC hK
        clear hK
        unfold Facts.one
        go_simp
        first | exact ⟨Grew.refl _, rfl⟩ | rfl | exact ⟨Grew.refl _, by simp⟩
      simp only [Act.put, List.setIfInBounds_toArray, List.set_cons_zero, List.set_cons_succ, Nat.reduceAdd]
      refine Facts.Lex.done fun u W2 hC hL => ?_
      have HGG2 := Lib.hid (HGG.out.trans hC)
      clear hC hL HGG
      go_wp2
      go_roundg g
      case measure => omega
      case rel => exact ⟨k + 1, HM.out, by first | rfl | (simp; done) | rw [HKW.out], HGG2⟩
end Go.Proofs.YtmegdgeiikhflaaGreat.EB
namespace Go.Proofs.YtmegdgeiikhflaaGreat.EC
set_option maxRecDepth 100000
open Go Go.RowKit Go.Lib Go.Proofs.YtmegdgeiikhflaaGreat Go.Proofs.YtmegdgeiikhflaaGreat.Facts Go.Proofs.YtmegdgeiikhflaaGreat.Bytes Go.Proofs.YtmegdgeiikhflaaGreat.Plain Go.Proofs.YtmegdgeiikhflaaGreat.Ints Go.Proofs.YtmegdgeiikhflaaGreat.LBox Go.Proofs.YtmegdgeiikhflaaGreat.RRows Go.Proofs.YtmegdgeiikhflaaGreat.Puts Go.Proofs.YtmegdgeiikhflaaGreat.Scan Go.Proofs.YtmegdgeiikhflaaGreat.Take Go.Proofs.YtmegdgeiikhflaaGreat.Nums Go.Proofs.YtmegdgeiikhflaaGreat.BA Go.Proofs.YtmegdgeiikhflaaGreat.BB Go.Proofs.YtmegdgeiikhflaaGreat.BC Go.Proofs.YtmegdgeiikhflaaGreat.BD Go.Proofs.YtmegdgeiikhflaaGreat.CA Go.Proofs.YtmegdgeiikhflaaGreat.CB Go.Proofs.YtmegdgeiikhflaaGreat.CC Go.Proofs.YtmegdgeiikhflaaGreat.CD Go.Proofs.YtmegdgeiikhflaaGreat.RSmall Go.Proofs.YtmegdgeiikhflaaGreat.RFind Go.Proofs.YtmegdgeiikhflaaGreat.RRules Go.Proofs.YtmegdgeiikhflaaGreat.RRule3 Go.Proofs.YtmegdgeiikhflaaGreat.RRight Go.Proofs.YtmegdgeiikhflaaGreat.HS Go.Proofs.YtmegdgeiikhflaaGreat.HA Go.Proofs.YtmegdgeiikhflaaGreat.HB Go.Proofs.YtmegdgeiikhflaaGreat.HG Go.Proofs.YtmegdgeiikhflaaGreat.RPlaces Go.Proofs.YtmegdgeiikhflaaGreat.EA


/-- Behind an own row of bytes: no other row changes. -/
theorem app_own (W : World) (base : Nat) (v : Value) (X Y : List UInt8) (S : Nat → Prop) (vb : Value) (ho : OwnB W base v X) (hr : Rd S W vb Y) (hne : Y ≠ []) (hl : X.length + Y.length ≤ 140737488355328) (hb : base ≤ W.heap.size) :
    ∃ v' w', (Builtin.append_ #[41, 41] 41 #[v, vb]).run Tryz.prog W = .ok v' w' ∧ OwnB w' base v' (X ++ Y) ∧ Below base W w' ∧ ∀ b, b < W.heap.size → v.ownBlock ≠ some b → w'.heap[b]? = W.heap[b]? := by
  obtain ⟨i0, hi, hx⟩ := Option.map_eq_some_iff.1 infoU8
  simp only [Prod.mk.injEq] at hx
  obtain ⟨hz0, hz1, hz2⟩ := hx
  obtain ⟨A, c, rfl, h1, h2, h3, h4⟩ := hr
  cases A with
  | none =>
    have := h3 rfl
    exact absurd (List.eq_nil_of_length_eq_zero (by omega)) hne
  | some ad =>
    have hown : W.ownsRow base 5 1 v X.length (bv X) := ho
    obtain ⟨v', w', hr, h5, h6, _⟩ := run_append_own (P := Tryz.prog) W base 41 41 5 i0 (.int .u8 0) 1 1 Tryz.underlying41 hi hz0 hz1 hz2 rfl Nat.one_pos v X.length (bv X) hown ad Y.length c (bv Y) (by rw [bv_length]; omega) (fun j u hu => (h4 ad rfl).2 j u hu) (bv_one Y) (by unfold maxLen; omega) (by omega) hb
    refine ⟨v', w', hr, OwnB.of (n := X.length + Y.length) (by rw [bv_append]; exact h5) (by rw [List.length_append]), ?_, fun b hb hne => h6.block b hb (Ne.symm hne)⟩
    exact below_rows hown h6 hb
theorem rd_one (W : World) (x : UInt8) : Rd (fun _ => True) (W.alloc (.cells #[.int .u8 (x.toNat : Int)] 5)) (.slice (some ⟨W.heap.size, 0, none⟩) 1 1) [x] := by
  refine ⟨some ⟨W.heap.size, 0, none⟩, 1, rfl, Nat.le_refl _, by decide, (fun h => by cases h), fun ad ha => ⟨fun _ => trivial, ?_⟩⟩
  cases ha
  exact row_at rfl
theorem own_block {W : World} {base : Nat} {v : Value} {X : List UInt8} (h : OwnB W base v X) (b : Nat) (hb : v.ownBlock = some b) : b < W.heap.size := by
  have h' : W.ownsRow base 5 1 v X.length (bv X) := h
  rcases h'.2 with ⟨rfl, _⟩ | ⟨g, cap, cur, rfl, h2, h3, h4⟩
  · cases hb
  · cases hb
    exact (Array.getElem?_eq_some_iff.1 h3).1
theorem s_apart : Names.apart (Names.lists (small.accounts.map (·.name))) = true := by
  unfold Names.apart Names.sorted
  rw [decide_eq_true_eq]
  exact (ListsPure.apart_iff _).2 (by decide)
theorem s_rule3 : rule3 small = true := by
  unfold rule3
  rw [s_apart]
  kernel_rfl
theorem s_may : mayBe small = true := by
  unfold mayBe
  rw [s_rule3]
  kernel_rfl
theorem sm_right : mayBe small = true := s_may
theorem sm_sized : Sized small := by
  intro x hx
  simp only [small, List.mem_cons, List.not_mem_nil, or_false] at hx
  rcases hx with rfl | rfl <;> decide
theorem z_right : mayBe re0 = false := by kernel_rfl
theorem z_sized : Sized re0 := by intro x hx; cases hx
theorem sm_leq : leqR small 1 2 = true := by
  unfold leqR
  rw [s_may]
  kernel_rfl
theorem sm_leq' : leqR small 2 1 = false := by
  unfold leqR
  rw [s_may]
  kernel_rfl
theorem sm_place : place small ⟨1, 1#64⟩ = 2 := by
  unfold place
  rw [s_may]
  kernel_rfl
theorem sm_hall0 : hallP small 0 = 1 := by
  unfold hallP
  rw [s_may]
  kernel_rfl
theorem sm_hall1 : hallP small 1 = -1 := by
  unfold hallP
  rw [s_may]
  kernel_rfl
theorem sm_guild1 : guildOf small 1 = 0 := by
  unfold guildOf
  rw [s_may]
  kernel_rfl
theorem sm_guild2 : guildOf small 2 = -1 := by
  unfold guildOf
  rw [s_may]
  kernel_rfl
theorem sm_guilds : (guildsOf small 2).length = 1 := by
  unfold guildsOf
  rw [s_may]
  kernel_rfl
theorem sm_acct : acctP small ⟨#[98, 111, 98]⟩ = 1 := by
  unfold acctP
  rw [s_may]
  kernel_rfl
theorem sm_bytes : bytesP small = bytesR small := by unfold bytesP; rw [if_pos s_may]
theorem sm_parts : partsP (bytesR small) = (small, ⟨[], 0⟩) := by kernel_rfl
theorem sm_parts' : partsP (bytesR small ++ [0]) = (small, ⟨[0], 0⟩) := by kernel_rfl
theorem sm_read : readP (bytesP small) = (small, 0) := by
  unfold readP
  rw [sm_bytes, sm_parts]
  simp only [s_may]
  kernel_rfl
theorem sm_more : readP (bytesP small ++ [0]) = (re0, 13) := by
  unfold readP
  rw [sm_bytes, sm_parts']
  kernel_rfl
theorem sm_len : (bytesP small).length ≤ 1000 := by
  rw [sm_bytes]
  decide +kernel
end Go.Proofs.YtmegdgeiikhflaaGreat.EC

namespace Go.Proofs.YtmegdgeiikhflaaGreat.ED
set_option maxRecDepth 100000
open Go Go.RowKit Go.Lib Go.Proofs.YtmegdgeiikhflaaGreat Go.Proofs.YtmegdgeiikhflaaGreat.Facts Go.Proofs.YtmegdgeiikhflaaGreat.Bytes Go.Proofs.YtmegdgeiikhflaaGreat.Plain Go.Proofs.YtmegdgeiikhflaaGreat.Ints Go.Proofs.YtmegdgeiikhflaaGreat.LBox Go.Proofs.YtmegdgeiikhflaaGreat.RRows Go.Proofs.YtmegdgeiikhflaaGreat.Puts Go.Proofs.YtmegdgeiikhflaaGreat.Scan Go.Proofs.YtmegdgeiikhflaaGreat.Take Go.Proofs.YtmegdgeiikhflaaGreat.Nums Go.Proofs.YtmegdgeiikhflaaGreat.BA Go.Proofs.YtmegdgeiikhflaaGreat.BB Go.Proofs.YtmegdgeiikhflaaGreat.BC Go.Proofs.YtmegdgeiikhflaaGreat.BD Go.Proofs.YtmegdgeiikhflaaGreat.CA Go.Proofs.YtmegdgeiikhflaaGreat.CB Go.Proofs.YtmegdgeiikhflaaGreat.CC Go.Proofs.YtmegdgeiikhflaaGreat.CD Go.Proofs.YtmegdgeiikhflaaGreat.CE Go.Proofs.YtmegdgeiikhflaaGreat.CF Go.Proofs.YtmegdgeiikhflaaGreat.RSmall Go.Proofs.YtmegdgeiikhflaaGreat.RFind Go.Proofs.YtmegdgeiikhflaaGreat.RRules Go.Proofs.YtmegdgeiikhflaaGreat.RRule3 Go.Proofs.YtmegdgeiikhflaaGreat.RRight Go.Proofs.YtmegdgeiikhflaaGreat.HS Go.Proofs.YtmegdgeiikhflaaGreat.HA Go.Proofs.YtmegdgeiikhflaaGreat.HB Go.Proofs.YtmegdgeiikhflaaGreat.HG Go.Proofs.YtmegdgeiikhflaaGreat.RPlaces Go.Proofs.YtmegdgeiikhflaaGreat.EA Go.Proofs.YtmegdgeiikhflaaGreat.EB Go.Proofs.YtmegdgeiikhflaaGreat.EC Go.Proofs.YtmegdgeiikhflaaGreat.BE


set_option maxHeartbeats 8000000 in
theorem alive_any (w : World) : Calls Tryz.prog 13 #[] w fun e w' => e = .returned (.bool true) ∧ Grew w w' := by
  go_enter Tryz.func13, Tryz.ntmps13
  go_wp2_with fail
  refine (small_any _).mono ?_
  rintro e w1 ⟨v, rfl, hre, hg⟩
  have HRE := Lib.hid hre
  have G1 := Lib.hid hg
  obtain ⟨v0, v1, v2, v3, v4, rfl, h0, h1, h2, h3, h4⟩ := hre
  obtain ⟨A0', cp0, rfl, _⟩ := id h0
  obtain ⟨A1', cp1, rfl, _⟩ := id h1
  obtain ⟨A2', cp2, rfl, _⟩ := id h2
  obtain ⟨A3', cp3, rfl, _⟩ := id h3
  obtain ⟨A4', cp4, rfl, _⟩ := id h4
  clear h0 h1 h2 h3 h4
  clear hg
  generalize small.labels.length = n0 at *
  generalize small.lines.length = n1 at *
  generalize small.accounts.length = n2 at *
  generalize small.guilds.length = n3 at *
  generalize small.quotas.length = n4 at *
  generalize small.orders = n5 at *
  generalize small.audits = n6 at *
  generalize small.rate = n7 at *
  generalize small.rounds = n8 at *
  have Q1 : Hid (Grew w1 (w1.alloc (.cells #[.slice A0' n0 cp0, .slice A1' n1 cp1, .slice A2' n2 cp2, .slice A3' n3 cp3, .slice A4' n4 cp4, .int .i64 n5, .int .i64 n6, .int .i64 n7, .int .i64 n8] 28))) := Lib.hid (by unfold Grew; go_grown)
  have P1 : Hid (Grew (w1.alloc (.cells #[.slice A0' n0 cp0, .slice A1' n1 cp1, .slice A2' n2 cp2, .slice A3' n3 cp3, .slice A4' n4 cp4, .int .i64 n5, .int .i64 n6, .int .i64 n7, .int .i64 n8] 28)) (w1.alloc (.cells #[.slice A0' n0 cp0, .slice A1' n1 cp1, .slice A2' n2 cp2, .slice A3' n3 cp3, .slice A4' n4 cp4, .int .i64 n5, .int .i64 n6, .int .i64 n7, .int .i64 n8] 28))) := Lib.hid (Grew.refl _)
  have R1 : Hid ((w1.alloc (.cells #[.slice A0' n0 cp0, .slice A1' n1 cp1, .slice A2' n2 cp2, .slice A3' n3 cp3, .slice A4' n4 cp4, .int .i64 n5, .int .i64 n6, .int .i64 n7, .int .i64 n8] 28)).heap[w1.heap.size]? = some (rcell (.slice A0' n0 cp0) (.slice A1' n1 cp1) (.slice A2' n2 cp2) (.slice A3' n3 cp3) (.slice A4' n4 cp4) n5 n6 n7 n8)) := Lib.hid (heap_alloc_new w1 _)
  have HS1 := Lib.hid (HRE.out.grew Q1.out)
  obtain ⟨r0, r1, r2, r3, r4, r5, r6, r7, r8⟩ := re_cells R1.out
  go_wp2_with fail
  with_reducible refine (bytes_any _ small _ HS1.out sm_sized).mono ?_
  rintro e w2 ⟨vb, rfl, hob, hg⟩
  have HOB := Lib.hid hob
  have P2 := Lib.hid hg
  have R2 := Lib.hid (keepB R1.out hg)
  clear hg hob r0 r1 r2 r3 r4 r5 r6 r7 r8
  go_wp2_with fail
  refine (read_any (fun _ => True) vb (bytesP small) w2 HOB.out.rd (by have := sm_len; omega)).mono ?_
  rintro e w3 ⟨vr, rfl, hrr, hg, hkk⟩
  rw [sm_read] at hrr hkk ⊢
  simp only at hrr hkk ⊢
  have G3 := Lib.hid hg
  have P3 := Lib.hid (P2.out.trans hg)
  have HKK := Lib.hid hkk
  have R3 := Lib.hid (keepB R2.out hg)
  clear hg hkk
  obtain ⟨z0, z1, z2, z3, z4, rfl, k0, k1, k2, k3, k4⟩ := hrr
  obtain ⟨B0', cq0, rfl, _⟩ := id k0
  obtain ⟨B1', cq1, rfl, _⟩ := id k1
  obtain ⟨B2', cq2, rfl, _⟩ := id k2
  obtain ⟨B3', cq3, rfl, _⟩ := id k3
  obtain ⟨B4', cq4, rfl, _⟩ := id k4
  clear k0 k1 k2 k3 k4
  generalize small.labels.length = m0 at *
  generalize small.lines.length = m1 at *
  generalize small.accounts.length = m2 at *
  generalize small.guilds.length = m3 at *
  generalize small.quotas.length = m4 at *
  generalize small.orders = m5 at *
  generalize small.audits = m6 at *
  generalize small.rate = m7 at *
  generalize small.rounds = m8 at *
  have Q3 : Hid (Grew w3 ((w3.alloc (.cells #[.slice B0' m0 cq0, .slice B1' m1 cq1, .slice B2' m2 cq2, .slice B3' m3 cq3, .slice B4' m4 cq4, .int .i64 m5, .int .i64 m6, .int .i64 m7, .int .i64 m8] 28)).alloc (.cells #[.int .u8 0] 5))) := Lib.hid (by unfold Grew; go_grown)
  have T3 : Hid (((w3.alloc (.cells #[.slice B0' m0 cq0, .slice B1' m1 cq1, .slice B2' m2 cq2, .slice B3' m3 cq3, .slice B4' m4 cq4, .int .i64 m5, .int .i64 m6, .int .i64 m7, .int .i64 m8] 28)).alloc (.cells #[.int .u8 0] 5)).heap[w3.heap.size]? = some (rcell (.slice B0' m0 cq0) (.slice B1' m1 cq1) (.slice B2' m2 cq2) (.slice B3' m3 cq3) (.slice B4' m4 cq4) m5 m6 m7 m8)) := Lib.hid ((heap_alloc_old _ _ (by simp)).trans (heap_alloc_new w3 _))
  have hz : (w3.alloc (.cells #[.slice B0' m0 cq0, .slice B1' m1 cq1, .slice B2' m2 cq2, .slice B3' m3 cq3, .slice B4' m4 cq4, .int .i64 m5, .int .i64 m6, .int .i64 m7, .int .i64 m8] 28)).heap.size = w3.heap.size + 1 := by simp
  have hrd := rd_one (w3.alloc (.cells #[.slice B0' m0 cq0, .slice B1' m1 cq1, .slice B2' m2 cq2, .slice B3' m3 cq3, .slice B4' m4 cq4, .int .i64 m5, .int .i64 m6, .int .i64 m7, .int .i64 m8] 28)) 0
  rw [hz] at hrd
  have hsz2 : ((w3.alloc (.cells #[.slice B0' m0 cq0, .slice B1' m1 cq1, .slice B2' m2 cq2, .slice B3' m3 cq3, .slice B4' m4 cq4, .int .i64 m5, .int .i64 m6, .int .i64 m7, .int .i64 m8] 28)).alloc (.cells #[.int .u8 0] 5)).heap.size = w3.heap.size + 2 := by simp
  obtain ⟨vb', w4, hrun, hown, hbel, hkeep⟩ := app_own ((w3.alloc (.cells #[.slice B0' m0 cq0, .slice B1' m1 cq1, .slice B2' m2 cq2, .slice B3' m3 cq3, .slice B4' m4 cq4, .int .i64 m5, .int .i64 m6, .int .i64 m7, .int .i64 m8] 28)).alloc (.cells #[.int .u8 0] 5)) _ vb (bytesP small) [0] (fun _ => True) _ (own_bgrew HOB.out (G3.out.trans Q3.out)) hrd (by simp) (by have := sm_len; simp; omega) (P3.out.trans Q3.out).size
  have HRUN := Lib.hid hrun
  have HOB4 := Lib.hid hown
  have P4 : Hid (Grew (w1.alloc (.cells #[.slice A0' n0 cp0, .slice A1' n1 cp1, .slice A2' n2 cp2, .slice A3' n3 cp3, .slice A4' n4 cp4, .int .i64 n5, .int .i64 n6, .int .i64 n7, .int .i64 n8] 28)) w4) := Lib.hid (Below.trans (show Below (w1.alloc (.cells #[.slice A0' n0 cp0, .slice A1' n1 cp1, .slice A2' n2 cp2, .slice A3' n3 cp3, .slice A4' n4 cp4, .int .i64 n5, .int .i64 n6, .int .i64 n7, .int .i64 n8] 28)).heap.size _ _ from P3.out.trans Q3.out) hbel)
  have R4 := Lib.hid (keepB R1.out P4.out)
  have hvb := own_block HOB.out
  have T4 := Lib.hid ((hkeep w3.heap.size (by omega) (fun e => by have := hvb _ e; have := G3.out.size; omega)).trans T3.out)
  have HK4 : Hid (∀ W, Grew w4 W → ReIs W (.agg #[.slice B0' m0 cq0, .slice B1' m1 cq1, .slice B2' m2 cq2, .slice B3' m3 cq3, .slice B4' m4 cq4, .int .i64 m5, .int .i64 m6, .int .i64 m7, .int .i64 m8]) small) := Lib.hid fun W hg => HKK.out W fun b h1 h2 => by
    have hb4 : b < w4.heap.size := by have := hbel.size; omega
    rw [hg.block b hb4, hkeep b (by omega) (fun e => by have := hvb _ e; omega)]
    exact Q3.out.block b h2
  clear hz hrd hsz2 hrun hown hbel hkeep hvb HKK
  go_wp2_with (at_builtin; refine wpList_app_want (.tmp 17) (.tmp 18) 41 (by rfl) (by rfl) _ _ rfl rfl vb' w4 (by exact HRUN.out) ?_)
  go_wp2_with fail
  refine (read_any (fun _ => True) vb' (bytesP small ++ [0]) w4 HOB4.out.rd (by have := sm_len; simp; omega)).mono ?_
  rintro e w5 ⟨vq, rfl, hrq, hg, _⟩
  rw [sm_more] at hrq ⊢
  simp only at hrq ⊢
  have G5 := Lib.hid hg
  clear hg
  obtain ⟨y0, y1, y2, y3, y4, rfl, j0, j1, j2, j3, j4⟩ := hrq
  obtain ⟨C0', cr0, rfl, _⟩ := id j0
  obtain ⟨C1', cr1, rfl, _⟩ := id j1
  obtain ⟨C2', cr2, rfl, _⟩ := id j2
  obtain ⟨C3', cr3, rfl, _⟩ := id j3
  obtain ⟨C4', cr4, rfl, _⟩ := id j4
  clear j0 j1 j2 j3 j4
  generalize re0.labels.length = l0 at *
  generalize re0.lines.length = l1 at *
  generalize re0.accounts.length = l2 at *
  generalize re0.guilds.length = l3 at *
  generalize re0.quotas.length = l4 at *
  generalize re0.orders = l5 at *
  generalize re0.audits = l6 at *
  generalize re0.rate = l7 at *
  generalize re0.rounds = l8 at *
  have Q5 : Hid (Grew w5 (w5.alloc (.cells #[.slice C0' l0 cr0, .slice C1' l1 cr1, .slice C2' l2 cr2, .slice C3' l3 cr3, .slice C4' l4 cr4, .int .i64 l5, .int .i64 l6, .int .i64 l7, .int .i64 l8] 28))) := Lib.hid (by unfold Grew; go_grown)
  have Pa := Lib.hid (P4.out.trans (G5.out.trans Q5.out))
  have Ha := Lib.hid (G5.out.trans Q5.out)
  have Ra := Lib.hid (keepB R1.out Pa.out)
  have Ta := Lib.hid (keepB T4.out Ha.out)
  obtain ⟨r0, r1, r2, r3, r4, r5, r6, r7, r8⟩ := re_cells Ra.out
  obtain ⟨t0, t1, t2, t3, t4, t5, t6, t7, t8⟩ := re_cells Ta.out
  go_wp2_with fail
  with_reducible refine (guildsOf_any _ small 2 _ (HS1.out.grew Pa.out) sm_sized).mono ?_
  rintro e w6 ⟨vg, rfl, hig, hg⟩
  obtain ⟨Ag, cg, rfl, _⟩ := hig
  rw [sm_guilds]
  have Pb := Lib.hid (Pa.out.trans hg)
  have Hb := Lib.hid (Ha.out.trans hg)
  have Rb := Lib.hid (keepB Ra.out hg)
  have Tb := Lib.hid (keepB Ta.out hg)
  clear hg r0 r1 r2 r3 r4 r5 r6 r7 r8 t0 t1 t2 t3 t4 t5 t6 t7 t8
  obtain ⟨r0, r1, r2, r3, r4, r5, r6, r7, r8⟩ := re_cells Rb.out
  obtain ⟨t0, t1, t2, t3, t4, t5, t6, t7, t8⟩ := re_cells Tb.out
  go_wp2_with fail
  refine (right_re _ small _ (HS1.out.grew Pb.out) sm_sized).mono ?_
  rintro e w7 ⟨rfl, hg⟩
  rw [sm_right]
  have Pc := Lib.hid (Pb.out.trans hg)
  have Hc := Lib.hid (Hb.out.trans hg)
  have Rc := Lib.hid (keepB Rb.out hg)
  have Tc := Lib.hid (keepB Tb.out hg)
  clear hg r0 r1 r2 r3 r4 r5 r6 r7 r8 t0 t1 t2 t3 t4 t5 t6 t7 t8
  obtain ⟨r0, r1, r2, r3, r4, r5, r6, r7, r8⟩ := re_cells Rc.out
  obtain ⟨t0, t1, t2, t3, t4, t5, t6, t7, t8⟩ := re_cells Tc.out
  go_wp2_with fail
  refine (right_re _ re0 _ (zero_is _) z_sized).mono ?_
  rintro e w8 ⟨rfl, hg⟩
  rw [z_right]
  have Pd := Lib.hid (Pc.out.trans hg)
  have Hd := Lib.hid (Hc.out.trans hg)
  have Rd := Lib.hid (keepB Rc.out hg)
  have Td := Lib.hid (keepB Tc.out hg)
  clear hg r0 r1 r2 r3 r4 r5 r6 r7 r8 t0 t1 t2 t3 t4 t5 t6 t7 t8
  obtain ⟨r0, r1, r2, r3, r4, r5, r6, r7, r8⟩ := re_cells Rd.out
  obtain ⟨t0, t1, t2, t3, t4, t5, t6, t7, t8⟩ := re_cells Td.out
  go_wp2_with fail
  refine (leqR_any _ small 1 2 _ (HS1.out.grew Pd.out) sm_sized).mono ?_
  rintro e w9 ⟨rfl, hg⟩
  rw [sm_leq]
  have Pe := Lib.hid (Pd.out.trans hg)
  have He := Lib.hid (Hd.out.trans hg)
  have Re := Lib.hid (keepB Rd.out hg)
  have Te := Lib.hid (keepB Td.out hg)
  clear hg r0 r1 r2 r3 r4 r5 r6 r7 r8 t0 t1 t2 t3 t4 t5 t6 t7 t8
  obtain ⟨r0, r1, r2, r3, r4, r5, r6, r7, r8⟩ := re_cells Re.out
  obtain ⟨t0, t1, t2, t3, t4, t5, t6, t7, t8⟩ := re_cells Te.out
  go_wp2_with fail
  refine (leqR_any _ small 2 1 _ (HS1.out.grew Pe.out) sm_sized).mono ?_
  rintro e w10 ⟨rfl, hg⟩
  rw [sm_leq']
  have Pf := Lib.hid (Pe.out.trans hg)
  have Hf := Lib.hid (He.out.trans hg)
  have Rf := Lib.hid (keepB Re.out hg)
  have Tf := Lib.hid (keepB Te.out hg)
  clear hg r0 r1 r2 r3 r4 r5 r6 r7 r8 t0 t1 t2 t3 t4 t5 t6 t7 t8
  obtain ⟨r0, r1, r2, r3, r4, r5, r6, r7, r8⟩ := re_cells Rf.out
  obtain ⟨t0, t1, t2, t3, t4, t5, t6, t7, t8⟩ := re_cells Tf.out
  go_wp2_with fail
  refine (place_any _ small ⟨1, 1#64⟩ _ (HS1.out.grew Pf.out) sm_sized).mono ?_
  rintro e w11 ⟨rfl, hg⟩
  rw [sm_place]
  have Pg := Lib.hid (Pf.out.trans hg)
  have Hg := Lib.hid (Hf.out.trans hg)
  have Rg := Lib.hid (keepB Rf.out hg)
  have Tg := Lib.hid (keepB Tf.out hg)
  clear hg r0 r1 r2 r3 r4 r5 r6 r7 r8 t0 t1 t2 t3 t4 t5 t6 t7 t8
  obtain ⟨r0, r1, r2, r3, r4, r5, r6, r7, r8⟩ := re_cells Rg.out
  obtain ⟨t0, t1, t2, t3, t4, t5, t6, t7, t8⟩ := re_cells Tg.out
  go_wp2_with fail
  refine (hallOf_any _ small 0 _ (HS1.out.grew Pg.out) sm_sized).mono ?_
  rintro e w12 ⟨rfl, hg⟩
  rw [sm_hall0]
  have Ph := Lib.hid (Pg.out.trans hg)
  have Hh := Lib.hid (Hg.out.trans hg)
  have Rh := Lib.hid (keepB Rg.out hg)
  have Th := Lib.hid (keepB Tg.out hg)
  clear hg r0 r1 r2 r3 r4 r5 r6 r7 r8 t0 t1 t2 t3 t4 t5 t6 t7 t8
  obtain ⟨r0, r1, r2, r3, r4, r5, r6, r7, r8⟩ := re_cells Rh.out
  obtain ⟨t0, t1, t2, t3, t4, t5, t6, t7, t8⟩ := re_cells Th.out
  go_wp2_with fail
  refine (hallOf_any _ small 1 _ (HS1.out.grew Ph.out) sm_sized).mono ?_
  rintro e w13 ⟨rfl, hg⟩
  rw [sm_hall1]
  have Pi := Lib.hid (Ph.out.trans hg)
  have Hi := Lib.hid (Hh.out.trans hg)
  have Ri := Lib.hid (keepB Rh.out hg)
  have Ti := Lib.hid (keepB Th.out hg)
  clear hg r0 r1 r2 r3 r4 r5 r6 r7 r8 t0 t1 t2 t3 t4 t5 t6 t7 t8
  obtain ⟨r0, r1, r2, r3, r4, r5, r6, r7, r8⟩ := re_cells Ri.out
  obtain ⟨t0, t1, t2, t3, t4, t5, t6, t7, t8⟩ := re_cells Ti.out
  go_wp2_with fail
  refine (guildOf_any _ small 1 _ (HS1.out.grew Pi.out) sm_sized).mono ?_
  rintro e w14 ⟨rfl, hg⟩
  rw [sm_guild1]
  have Pj := Lib.hid (Pi.out.trans hg)
  have Hj := Lib.hid (Hi.out.trans hg)
  have Rj := Lib.hid (keepB Ri.out hg)
  have Tj := Lib.hid (keepB Ti.out hg)
  clear hg r0 r1 r2 r3 r4 r5 r6 r7 r8 t0 t1 t2 t3 t4 t5 t6 t7 t8
  obtain ⟨r0, r1, r2, r3, r4, r5, r6, r7, r8⟩ := re_cells Rj.out
  obtain ⟨t0, t1, t2, t3, t4, t5, t6, t7, t8⟩ := re_cells Tj.out
  go_wp2_with fail
  refine (guildOf_any _ small 2 _ (HS1.out.grew Pj.out) sm_sized).mono ?_
  rintro e w15 ⟨rfl, hg⟩
  rw [sm_guild2]
  have Pk := Lib.hid (Pj.out.trans hg)
  have Hk := Lib.hid (Hj.out.trans hg)
  have Rk := Lib.hid (keepB Rj.out hg)
  have Tk := Lib.hid (keepB Tj.out hg)
  clear hg r0 r1 r2 r3 r4 r5 r6 r7 r8 t0 t1 t2 t3 t4 t5 t6 t7 t8
  obtain ⟨r0, r1, r2, r3, r4, r5, r6, r7, r8⟩ := re_cells Rk.out
  obtain ⟨t0, t1, t2, t3, t4, t5, t6, t7, t8⟩ := re_cells Tk.out
  go_wp2_with fail
  refine (account_any _ small ⟨#[98, 111, 98]⟩ _ (HS1.out.grew Pk.out) sm_sized).mono ?_
  rintro e w16 ⟨rfl, hg⟩
  rw [sm_acct]
  have Pl := Lib.hid (Pk.out.trans hg)
  have Hl := Lib.hid (Hk.out.trans hg)
  have Rl := Lib.hid (keepB Rk.out hg)
  have Tl := Lib.hid (keepB Tk.out hg)
  clear hg r0 r1 r2 r3 r4 r5 r6 r7 r8 t0 t1 t2 t3 t4 t5 t6 t7 t8
  obtain ⟨r0, r1, r2, r3, r4, r5, r6, r7, r8⟩ := re_cells Rl.out
  obtain ⟨t0, t1, t2, t3, t4, t5, t6, t7, t8⟩ := re_cells Tl.out
  go_wp2_with fail
  refine (same_self _ _ small _ (HS1.out.grew Pl.out) (HK4.out _ Hl.out)).mono ?_
  rintro e w17 ⟨rfl, hg⟩
  have PZ := Lib.hid (Pl.out.trans hg)
  clear hg r0 r1 r2 r3 r4 r5 r6 r7 r8 t0 t1 t2 t3 t4 t5 t6 t7 t8
  go_wp2
  go_returns
  exact ⟨by first | rfl | (simp; done), G1.out.trans (Q1.out.trans PZ.out)⟩
end Go.Proofs.YtmegdgeiikhflaaGreat.ED
