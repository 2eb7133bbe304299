/-
  ReplyTells: what a line may be told, and what bytes tell.
  Conditions: those that each lemma names.
-/
import Derived.Test.YthgigkklefaeeaaRW
import Derived.Test.YthgigkklefaeeaaRU
namespace Go.Proofs.Ythgigkklefaeeaa.RX
set_option maxRecDepth 100000
open Go Go.RowKit Go.Lib Go.Proofs.Ythgigkklefaeeaa Go.Proofs.Ythgigkklefaeeaa.Facts Go.Proofs.Ythgigkklefaeeaa.Bytes Go.Proofs.Ythgigkklefaeeaa.Puts Go.Proofs.Ythgigkklefaeeaa.Scan Go.Proofs.Ythgigkklefaeeaa.Take Go.Proofs.Ythgigkklefaeeaa.Nums Go.Proofs.Ythgigkklefaeeaa.SumPure Go.Proofs.Ythgigkklefaeeaa.Sum Go.Proofs.Ythgigkklefaeeaa.FP Go.Proofs.Ythgigkklefaeeaa.FW Go.Proofs.Ythgigkklefaeeaa.FX Go.Proofs.Ythgigkklefaeeaa.Ints Go.Proofs.Ythgigkklefaeeaa.PA Go.Proofs.Ythgigkklefaeeaa.RA Go.Proofs.Ythgigkklefaeeaa.RC Go.Proofs.Ythgigkklefaeeaa.RD Go.Proofs.Ythgigkklefaeeaa.RE Go.Proofs.Ythgigkklefaeeaa.RF Go.Proofs.Ythgigkklefaeeaa.RG Go.Proofs.Ythgigkklefaeeaa.RH Go.Proofs.Ythgigkklefaeeaa.RI Go.Proofs.Ythgigkklefaeeaa.RK Go.Proofs.Ythgigkklefaeeaa.RL Go.Proofs.Ythgigkklefaeeaa.RS Go.Proofs.Ythgigkklefaeeaa.RT Go.Proofs.Ythgigkklefaeeaa.RU Go.Proofs.Ythgigkklefaeeaa.RV Go.Proofs.Ythgigkklefaeeaa.RW Go.Proofs.Ythgigkklefaeeaa.FS Go.Proofs.Ythgigkklefaeeaa.FV Go.Proofs.Ythgigkklefaeeaa.FV2

/-- Labels and slots, one behind the other. -/
def flat (l : List Rf) : List Int := l.flatMap fun x => [x.label, x.slot]
theorem flat_len2 (l : List Rf) : (flat l).length = 2 * l.length := by
  unfold flat
  induction l with
  | nil => rfl
  | cons a l ih => simp only [List.flatMap_cons, List.length_append, ih, List.length_cons, List.length_nil]; omega
theorem flat_take (l : List Rf) (k : Nat) (x : Rf) (h : l[k]? = some x) : flat (l.take (k + 1)) = flat (l.take k) ++ [x.label, x.slot] := by
  unfold flat
  rw [List.take_add_one, h]
  simp
theorem ob_flat (l : List Rf) : ob (flat l) = orr l := by
  unfold ob flat orr
  induction l with
  | nil => rfl
  | cons a l ih => simp only [List.flatMap_cons, List.map_append, List.map_cons, List.map_nil, List.flatten_cons, ih]
theorem ints_app (W : World) (base : Nat) (v : Value) (L P : List Int) (ad : Addr) (c : Nat) (hown : W.ownsRow base 3 1 v L.length (iv L)) (hP : ∀ j u, (iv P)[j]? = some u → W.cell? (ad.add j) = some u) (hl : (L.length + P.length) * 8 ≤ 140737488355328) (hb : base ≤ W.heap.size) :
    ∃ v' w', (Builtin.append_ #[26, 26] 26 #[v, .slice (some ad) P.length c]).run Try.prog W = .ok v' w' ∧ w'.ownsRow base 3 1 v' (L ++ P).length (iv (L ++ P)) ∧ Below base W w' := by
  obtain ⟨i0, hi, hx⟩ := Option.map_eq_some_iff.1 Ints.info3
  simp only [Prod.mk.injEq] at hx
  obtain ⟨hz0, hz1, hz2⟩ := hx
  obtain ⟨v', w', hr, h5, h6, _⟩ := run_append_own (P := Try.prog) W base 26 26 3 i0 (.int .i64 0) 1 8 Try.underlying26 hi hz0 hz1 hz2 rfl Nat.one_pos v L.length (iv L) hown ad P.length c (iv P) (by rw [iv_length, Nat.mul_one]) hP (iv_one P) (by unfold maxLen; omega) (by omega) hb
  exact ⟨v', w', hr, by rw [List.length_append, iv_append]; exact h5, grown_below hown h6 hb⟩
/-- All of it but the append only lays new memory. -/
structure JF (W0 : World) (base : Nat) (P Q : List Int) (m : Nat → Bool) (u : Nat → Value) (w : World) : Prop where
  a : m 12 = false → Grew W0 w ∧ (m 11 = true → Is w (u 11) P)
  b : m 12 = true → (∀ j, j < 12 → m j = true) ∧ Below base W0 w ∧ w.ownsRow base 3 1 (u 12) Q.length (iv Q)
  c : m 13 = true → m 12 = true ∧ u 13 = u 12
section
variable {W0 w w' : World} {base : Nat} {P Q : List Int} {m : Nat → Bool} {u : Nat → Value}
theorem JF.start (w : World) (base : Nat) (P Q : List Int) : JF w base P Q (fun _ => false) (fun _ => undef) w.drew := ⟨fun _ => ⟨(Grew.refl w).drew, fun h => by cases h⟩, (fun h => by cases h), fun h => by cases h⟩
theorem JF.off (h : JF W0 base P Q m u w) {k : Nat} (hk : k < 12) (hm : m k = false) : m 12 = false := by
  cases hq : m 12 with
  | false => rfl
  | true => rw [(h.b hq).1 k hk] at hm; cases hm
theorem JF.grew (h : JF W0 base P Q m u w) {k : Nat} (hk : k < 12) (hm : m k = false) : Grew W0 w := (h.a (h.off hk hm)).1
theorem JF.move (h : JF W0 base P Q m u w) (hg : Grew w w') (k : Nat) (v : Value) (hk : k < 12) (hm : m k = false) (h6 : k = 11 → Is w' v P) : JF W0 base P Q (Marks.upd m k) (Marks.updv u k v) w' := by
  obtain ⟨q1, q2⟩ := h.a (h.off hk hm)
  refine ⟨fun _ => ⟨q1.trans hg, fun hh => ?_⟩, fun hh => ?_, fun hh => ?_⟩
  · by_cases e : k = 11
    · subst e; rw [Marks.updv_same]; exact h6 rfl
    · rw [Marks.upd_other m (Ne.symm e)] at hh
      rw [Marks.updv_other u v (Ne.symm e)]
      exact Is.grew (q2 hh) hg
  · rw [Marks.upd_other m (by omega), h.off hk hm] at hh
    cases hh
  · rw [Marks.upd_other m (by omega)] at hh
    have := (h.c hh).1
    rw [h.off hk hm] at this
    cases this
theorem JF.keep (h : JF W0 base P Q m u w) (k : Nat) (v : Value) (hk : k < 12) (hm : m k = false) (h6 : k ≠ 11) : JF W0 base P Q (Marks.upd m k) (Marks.updv u k v) w := h.move (Grew.refl _) k v hk hm (fun e => absurd e h6)
theorem JF.put (h : JF W0 base P Q m u w) (hm : m 12 = false) (hall : ∀ j, j < 12 → m j = true) (v : Value) (hg : Below base W0 w') (hr : w'.ownsRow base 3 1 v Q.length (iv Q)) : JF W0 base P Q (Marks.upd m 12) (Marks.updv u 12 v) w' :=
  ⟨fun hh => (by rw [Marks.upd_same] at hh; cases hh), fun _ => ⟨fun j hj => by rw [Marks.upd_other m (by omega)]; exact hall j hj, hg, by rw [Marks.updv_same]; exact hr⟩, fun hh => by rw [Marks.upd_other m (by omega)] at hh; have := (h.c hh).1; rw [hm] at this; cases this⟩
theorem JF.idle (h : JF W0 base P Q m u w) (hT : m 12 = true) : JF W0 base P Q (Marks.upd m 13) (Marks.updv u 13 (u 12)) w := by
  obtain ⟨q1, q2, q3⟩ := h.b hT
  refine ⟨fun hh => ?_, fun _ => ⟨fun j hj => by rw [Marks.upd_other m (by omega)]; exact q1 j hj, q2, by rw [Marks.updv_other u _ (by omega)]; exact q3⟩, fun _ => ⟨by rw [Marks.upd_other m (by omega)]; exact hT, by rw [Marks.updv_same, Marks.updv_other u _ (by omega)]⟩⟩
  rw [Marks.upd_other m (by omega), hT] at hh
  cases hh
end
def T10 : List (List Nat) := [[], [0], [1], [2, 1], [1], [4, 3, 1], [3, 5, 1], [1, 6], [7, 5], [8], [9, 8], [10, 8], [8], [12, 10, 8], [13, 8], [11, 14, 8], [8, 15], [16, 13], [17], [17], [18, 19, 17], [17, 20], [21, 20], [22], [22], [23, 24, 22], [22, 25], [26, 22], [27], [27], [28, 29, 27], [27, 30], [31, 30], [32], [32], [33, 34, 32], [32, 35], [36, 32], [37], [38, 37], [39, 37], [37], [41, 39, 37], [42, 37], [40, 43, 37], [37, 44], [45, 42], [46], [47, 46], [48, 46], [46], [50, 48, 46], [51, 46], [49, 52, 46], [46, 53], [54, 51], [55], [56, 55], [57, 55], [55], [59, 57, 55], [60, 55], [58, 61, 55], [55, 62], [63, 60, 0, 1, 2, 3, 4, 5, 6, 7, 8, 9, 10, 11, 12, 13, 14, 15, 16, 17, 18, 19, 20, 21, 22, 23, 24, 25, 26, 27, 28, 29, 30, 31, 32, 33, 34, 35, 36, 37, 38, 39, 40, 41, 42, 43, 44, 45, 46, 47, 48, 49, 50, 51, 52, 53, 54, 55, 56, 57, 58, 59, 61, 62]]
theorem wp_region_tab {P : Program} {Q : Exit → Act → World → Prop} {id : Nat} {a : Act} {w : World} {l : List Oper} (T : List (List Nat)) (hm : P.follows .mixedOrders = true) (hB : Facts.checkB l.toArray T = true)
    (h : Facts.Lex P l.toArray T w (fun a w => Q .normal a w) l 0 (fun _ => a) []) : (Code.region id l.toArray true).wp P Q a w :=
  Facts.wp_region_lex T hm hB (by simpa using h)
/-- What was made on the way. -/
structure Kit (w : World) (B0 B1 B2 : Nat) (x y : Ou) (A A1 A2 : Option Addr) (c c1 c2 : Nat) (vu vv : Value) (L : List Ou) (W : World) : Prop where
  g : Grew w W
  x0 : W.heap[B0]? = some (.cells #[.int .i64 x.k, .int .i64 x.o, .int .i64 x.e, .slice A x.d.length c] 25 (0, 0))
  y0 : W.heap[B1]? = some (.cells #[.int .i64 y.k, .int .i64 y.o, .int .i64 y.e, .slice A1 y.d.length c1] 25 (0, 0))
  z0 : W.heap[B2]? = some (.cells #[.int .i64 y.k, .int .i64 y.o, .int .i64 y.e, .slice A2 y.d.length c2] 25 (0, 0))
  ry : Rd (fun _ => True) W (.slice A1 y.d.length c1) y.d
  rz : Rd (fun _ => True) W (.slice A2 y.d.length c2) y.d
  ou : ORd W vu L
  ov : ORd W vv L
theorem Kit.grew {w W W' : World} {B0 B1 B2 : Nat} {x y : Ou} {A A1 A2 : Option Addr} {c c1 c2 : Nat} {vu vv : Value} {L : List Ou} (h : Kit w B0 B1 B2 x y A A1 A2 c c1 c2 vu vv L W) (hg : Grew W W') : Kit w B0 B1 B2 x y A A1 A2 c c1 c2 vu vv L W' :=
  ⟨h.g.trans hg, FX.keepB h.x0 hg, FX.keepB h.y0 hg, FX.keepB h.z0 hg, h.ry.grew hg, h.rz.grew hg, h.ou.grew hg, h.ov.grew hg⟩
theorem read_eq' (S : Nat → Prop) (v : Value) (l : List UInt8) (w : World) (x : Ou) (e : Int) (h : Rd S w v l) (hl : l.length ≤ 140737488355328) (hq : readP l = (x, e)) :
    Calls Try.prog 6 #[v] w fun r w' => ∃ A c, r = .returned (.tuple #[ov x A c, .int .i64 e]) ∧ Rd (fun b => w.heap.size ≤ b) w' (.slice A x.d.length c) x.d ∧ Grew w w' := by
  have := read_any S v l w h hl
  rwa [hq] at this
theorem rall_eq (S : Nat → Prop) (v : Value) (l : List UInt8) (w : World) (x : List Ou) (y : Int) (h : Rd S w v l) (hl : l.length ≤ 1048576) (hq : allO l = (x, y)) :
    Calls Try.prog 9 #[v] w fun e w' => ∃ v', e = .returned (.tuple #[v', .int .i64 y]) ∧ OS w.heap.size w' v' x ∧ Grew w w' := by
  have := RW.rall_any S v l w h hl
  rwa [hq] at this
theorem os_le {base : Nat} {w : World} {v : Value} {l : List Ou} (h : OS base w v l) : l.length ≤ 9223372036854775807 := by
  obtain ⟨L, rfl, ho, _⟩ := h
  rw [List.length_map]
  rcases ho.2 with ⟨_, h0⟩ | ⟨g, cap, cur, _, _, _, hn, hm, _⟩
  · omega
  · unfold maxLen at hm
    omega
theorem PA_own {W W' : World} {base : Nat} {v : Value} {n : Nat} {xs : List Value} (h : W.ownsRow base 3 1 v n xs) (hg : Grew W W') : W'.ownsRow base 3 1 v n xs := own_grew h hg
set_option maxHeartbeats 8000000 in
theorem tells_any (w : World) (x0 : Ou) (A : Option Addr) (c : Nat) (vb vc vl vr vn : Value) (b cc : List UInt8) (l : List Int) (refs : List Rf) (ns : List Nat) (S S1 S2 : Nat → Prop)
    (hx : Rd S w (.slice A x0.d.length c) x0.d) (hb : Rd S1 w vb b) (hc : Rd S2 w vc cc) (hl : Is w vl l) (hr : Rfs w vr refs) (hn : Us w vn ns) (hns : ∀ z ∈ ns, z < 18446744073709551616)
    (lb : b.length ≤ 1048576) (lc : cc.length ≤ 1048576) (ll : l.length ≤ 1048576) (lr : refs.length ≤ 1048576) (ln : ns.length ≤ 1048576) :
    Calls Try.prog 3 #[ov x0 A c, vb, vc, vl, vr, vn] w fun e w' => e = .returned (.bool true) ∧ Grew w w' := by
  have HX := Lib.hid hx
  have HB := Lib.hid hb
  have HC := Lib.hid hc
  have HL := Lib.hid hl
  have HR := Lib.hid hr
  have HN := Lib.hid hn
  have HNS := Lib.hid hns
  have LB := Lib.hid lb
  have LC := Lib.hid lc
  have LL := Lib.hid ll
  have LR := Lib.hid lr
  have LN := Lib.hid ln
  obtain ⟨Ab, cb, rfl, _⟩ := id hb
  obtain ⟨Ac, ccp, rfl, _⟩ := id hc
  obtain ⟨Al, cl, rfl, _⟩ := PA.Is.slice hl
  obtain ⟨Ar, cr, rfl, _⟩ := hr.slice
  obtain ⟨An, cn, rfl, _⟩ := hn.slice
  obtain ⟨⟨y, ye⟩, hy⟩ : ∃ r, readP b = r := ⟨_, rfl⟩
  obtain ⟨⟨K, ke⟩, hk⟩ : ∃ r, allO cc = r := ⟨_, rfl⟩
  have HY := Lib.hid hy
  have HK := Lib.hid hk
  have ga := box_cells w x0 A c
  have HA := Lib.hid ga
  have X0 := Lib.hid (heap_alloc_new w (.cells #[.int .i64 x0.k, .int .i64 x0.o, .int .i64 x0.e, .slice A x0.d.length c] 25))
  clear hx hb hc hl hr hn hns lb lc ll lr ln hy hk ga
  unfold ov
  go_enter Try.func3, Try.ntmps3
  go_wp2_with fail
  refine (read_eq' _ _ b _ y ye (HB.out.grew HA.out) (by have := LB.out; omega) HY.out).mono ?_
  rintro e w1 ⟨A1, c1, rfl, r1, g1⟩
  rw [show ov y A1 c1 = .agg #[.int .i64 y.k, .int .i64 y.o, .int .i64 y.e, .slice A1 y.d.length c1] from rfl]
  have gb := box_cells w1 y A1 c1
  have Y1 := Lib.hid (heap_alloc_new w1 (.cells #[.int .i64 y.k, .int .i64 y.o, .int .i64 y.e, .slice A1 y.d.length c1] 25))
  have X1 := Lib.hid (FX.keepB X0.out (g1.trans gb))
  have RY1 := Lib.hid (r1.grew gb)
  have G1 := Lib.hid (HA.out.trans (g1.trans gb))
  clear g1 gb r1 X0 HA
  go_wp2_with fail
  refine (rread_eq _ _ b _ y ye (HB.out.grew G1.out) HY.out).mono ?_
  rintro e w2 ⟨A2, c2, rfl, r2, g2⟩
  rw [show ov y A2 c2 = .agg #[.int .i64 y.k, .int .i64 y.o, .int .i64 y.e, .slice A2 y.d.length c2] from rfl]
  have gb := box_cells w2 y A2 c2
  have Z2 := Lib.hid (heap_alloc_new w2 (.cells #[.int .i64 y.k, .int .i64 y.o, .int .i64 y.e, .slice A2 y.d.length c2] 25))
  have Y2 := Lib.hid (FX.keepB Y1.out (g2.trans gb))
  have X2 := Lib.hid (FX.keepB X1.out (g2.trans gb))
  have RY2 := Lib.hid (RY1.out.grew (g2.trans gb))
  have RZ2 := Lib.hid (r2.grew gb)
  have G2 := Lib.hid (G1.out.trans (g2.trans gb))
  clear g2 gb r2 X1 Y1 RY1 G1
  go_wp2_with fail
  refine (RL.all_eq _ _ cc _ K ke (HC.out.grew G2.out) LC.out HK.out).mono ?_
  rintro e w3 ⟨v3, rfl, os3, g3⟩
  obtain ⟨A3, c3, rfl⟩ := os3.len
  have OU3 := Lib.hid (ORd.of_own os3)
  have KL := Lib.hid (os_le os3)
  have Z3 := Lib.hid (FX.keepB Z2.out g3)
  have Y3 := Lib.hid (FX.keepB Y2.out g3)
  have X3 := Lib.hid (FX.keepB X2.out g3)
  have RY3 := Lib.hid (RY2.out.grew g3)
  have RZ3 := Lib.hid (RZ2.out.grew g3)
  have G3 := Lib.hid (G2.out.trans g3)
  clear os3 g3 Z2 Y2 X2 RY2 RZ2 G2
  go_wp2_with fail
  refine (rall_eq _ _ cc _ K ke (HC.out.grew G3.out) LC.out HK.out).mono ?_
  rintro e w5 ⟨v4, rfl, os4, g4⟩
  obtain ⟨A4, c4, rfl⟩ := os4.len
  have KT : Hid (Kit w w.heap.size w1.heap.size w2.heap.size x0 y A A1 A2 c c1 c2 (.slice A3 K.length c3) (.slice A4 K.length c4) K w5) := Lib.hid ⟨G3.out.trans g4, FX.keepB X3.out g4, FX.keepB Y3.out g4, FX.keepB Z3.out g4, (RY3.out.grew g4).mono fun _ _ => trivial, (RZ3.out.grew g4).mono fun _ _ => trivial, OU3.out.grew g4, ORd.of_own os4⟩
  clear os4 g4 Z3 Y3 X3 RY3 RZ3 G3 OU3
  go_wp2
  go_loopg [21, 22] refs.length (fun g s21 s22 wx => ∃ (i n9 c9 : Nat) (A9 : Option Addr), i + g = refs.length ∧ s22 = .int .i64 (i : Int) ∧ s21 = .slice A9 n9 c9 ∧ Hid (n9 = (flat (refs.take i)).length) ∧ Hid (wx.ownsRow w5.heap.size 3 1 (.slice A9 n9 c9) (flat (refs.take i)).length (iv (flat (refs.take i)))) ∧ Hid (Grew w5 wx))
  case atStart => exact ⟨0, 0, 0, none, by omega, rfl, rfl, Lib.hid rfl, Lib.hid (World.ownsRow_nil _ _ _ _), Lib.hid (Grew.refl _)⟩
  case round =>
    obtain ⟨i, n9, c9, A9, hig, rfl, rfl, HN9, HO, HG⟩ := hrel
    cases gk with
    | zero =>
      have hkz : ¬ ((i : Int) < (refs.length : Int)) := by omega
      have hft : refs.take i = refs := List.take_of_length_le (by omega)
      have hn9 := HN9.out
      have ho9 := HO.out
      rw [hft] at hn9 ho9
      subst hn9
      have FL := Lib.hid (Is.of_own ho9 rfl)
      have K0 := Lib.hid (KT.out.grew HG.out)
      have FLN : Hid ((flat refs).length ≤ 2097152) := Lib.hid (by have := LR.out; rw [flat_len2]; omega)
      clear hft ho9 HN9 HO hig
      obtain ⟨mb, hmb⟩ : ∃ mb, mayP x0.k x0.o x0.e x0.d.length = mb := ⟨_, rfl⟩
      have HMB := Lib.hid hmb
      clear hmb KT HG
      go_wp2_with fail
      refine wp_region_tab T10 (by kernel_rfl) (by kernel_rfl) ?_
      apply Facts.Lex.exact [] (.bool true) (by kernel_rfl)
      · intro u W hC hKn
        unfold Facts.one
        go_simp
        refine (alive_any W).mono ?_
        rintro e w' ⟨rfl, hg⟩
        exact ⟨_, rfl, hg, rfl⟩
      simp only [Act.put, List.setIfInBounds_toArray, List.set_cons_zero, List.set_cons_succ, Nat.zero_add]
      apply Facts.Lex.exact [] _ (by kernel_rfl)
      · intro u W hC hKn
        unfold Facts.one
        go_simp
        exact ⟨Grew.refl _, rfl⟩
      simp only [Act.put, List.setIfInBounds_toArray, List.set_cons_zero, List.set_cons_succ, Nat.reduceAdd]
      apply Facts.Lex.exact [] (.agg #[.int .i64 x0.k, .int .i64 x0.o, .int .i64 x0.e, .slice A x0.d.length c]) (by kernel_rfl)
      · intro u W hC hKn
        have K1 := K0.out.grew hC
        obtain ⟨x0', x1, x2, x3⟩ := four_c K1.x0
        unfold Facts.one
        go_simp
        exact ⟨Grew.refl _, rfl⟩
      simp only [Act.put, List.setIfInBounds_toArray, List.set_cons_zero, List.set_cons_succ, Nat.reduceAdd]
      apply Facts.Lex.exact [] (.bool mb) (by kernel_rfl)
      · intro u W hC hKn
        have hM := may_any x0.k x0.o x0.e A x0.d.length c W
        rw [HMB.out] at hM
        unfold Facts.one
        go_simp
        refine (hM).mono ?_
        rintro e w' ⟨rfl, hg⟩
        exact ⟨_, rfl, hg, rfl⟩
      simp only [Act.put, List.setIfInBounds_toArray, List.set_cons_zero, List.set_cons_succ, Nat.reduceAdd]
      apply Facts.Lex.exact [] (.agg #[.int .i64 x0.k, .int .i64 x0.o, .int .i64 x0.e, .slice A x0.d.length c]) (by kernel_rfl)
      · intro u W hC hKn
        have K1 := K0.out.grew hC
        obtain ⟨x0', x1, x2, x3⟩ := four_c K1.x0
        unfold Facts.one
        go_simp
        exact ⟨Grew.refl _, rfl⟩
      simp only [Act.put, List.setIfInBounds_toArray, List.set_cons_zero, List.set_cons_succ, Nat.reduceAdd]
      apply Facts.Lex.exact [] (.bool mb) (by kernel_rfl)
      · intro u W hC hKn
        have hM := rmay_any x0.k x0.o x0.e A x0.d.length c W
        rw [HMB.out] at hM
        unfold Facts.one
        go_simp
        refine (hM).mono ?_
        rintro e w' ⟨rfl, hg⟩
        exact ⟨_, rfl, hg, rfl⟩
      simp only [Act.put, List.setIfInBounds_toArray, List.set_cons_zero, List.set_cons_succ, Nat.reduceAdd]
      apply Facts.Lex.exact [] (.bool true) (by kernel_rfl)
      · intro u W hC hKn
        unfold Facts.one
        go_simp
        exact ⟨Grew.refl _, rfl⟩
      simp only [Act.put, List.setIfInBounds_toArray, List.set_cons_zero, List.set_cons_succ, Nat.reduceAdd]
      apply Facts.Lex.exact [] (.bool true) (by kernel_rfl)
      · intro u W hC hKn
        unfold Facts.one
        go_simp
        exact ⟨Grew.refl _, rfl⟩
      simp only [Act.put, List.setIfInBounds_toArray, List.set_cons_zero, List.set_cons_succ, Nat.reduceAdd]
      apply Facts.Lex.exact [] _ (by kernel_rfl)
      · intro u W hC hKn
        unfold Facts.one
        go_simp
        exact ⟨Grew.refl _, rfl⟩
      simp only [Act.put, List.setIfInBounds_toArray, List.set_cons_zero, List.set_cons_succ, Nat.reduceAdd]
      apply Facts.Lex.exact [] (.agg #[.int .i64 x0.k, .int .i64 x0.o, .int .i64 x0.e, .slice A x0.d.length c]) (by kernel_rfl)
      · intro u W hC hKn
        have K1 := K0.out.grew hC
        obtain ⟨x0', x1, x2, x3⟩ := four_c K1.x0
        unfold Facts.one
        go_simp
        exact ⟨Grew.refl _, rfl⟩
      simp only [Act.put, List.setIfInBounds_toArray, List.set_cons_zero, List.set_cons_succ, Nat.reduceAdd]
      apply Facts.Lex.know [] (fun v w => Rd (fun _ => True) w v (wrapO x0)) (by kernel_rfl) (fun v w1 w2 h hG => Rd.grew h hG)
      · intro u W hC hKn
        have K1 := K0.out.grew hC
        unfold Facts.one
        go_simp
        refine (RH.wrap_any _ x0 A c W (HX.out.grew K1.g)).mono ?_
        rintro e w' ⟨v', rfl, hr, hg⟩
        exact ⟨_, rfl, hg, hr.mono fun _ _ => trivial⟩
      simp only [Act.put, List.setIfInBounds_toArray, List.set_cons_zero, List.set_cons_succ, Nat.reduceAdd]
      apply Facts.Lex.exact [10] (.string ⟨(wrapO x0).toArray⟩) (by kernel_rfl)
      · intro u W hC hKn
        simp [Facts.known] at hKn
        have kq := conv22 hKn
        unfold Facts.one
        go_simp
        exact ⟨Grew.refl _, rfl⟩
      simp only [Act.put, List.setIfInBounds_toArray, List.set_cons_zero, List.set_cons_succ, Nat.reduceAdd]
      apply Facts.Lex.exact [] (.agg #[.int .i64 x0.k, .int .i64 x0.o, .int .i64 x0.e, .slice A x0.d.length c]) (by kernel_rfl)
      · intro u W hC hKn
        have K1 := K0.out.grew hC
        obtain ⟨x0', x1, x2, x3⟩ := four_c K1.x0
        unfold Facts.one
        go_simp
        exact ⟨Grew.refl _, rfl⟩
      simp only [Act.put, List.setIfInBounds_toArray, List.set_cons_zero, List.set_cons_succ, Nat.reduceAdd]
      apply Facts.Lex.know [] (fun v w => Rd (fun _ => True) w v (wrapO x0)) (by kernel_rfl) (fun v w1 w2 h hG => Rd.grew h hG)
      · intro u W hC hKn
        have K1 := K0.out.grew hC
        unfold Facts.one
        go_simp
        refine (RU.rwrap_any _ x0 A c W (HX.out.grew K1.g)).mono ?_
        rintro e w' ⟨v', rfl, hr, hg⟩
        exact ⟨_, rfl, hg, hr.mono fun _ _ => trivial⟩
      simp only [Act.put, List.setIfInBounds_toArray, List.set_cons_zero, List.set_cons_succ, Nat.reduceAdd]
      apply Facts.Lex.exact [13] (.string ⟨(wrapO x0).toArray⟩) (by kernel_rfl)
      · intro u W hC hKn
        simp [Facts.known] at hKn
        have kq := conv22 hKn
        unfold Facts.one
        go_simp
        exact ⟨Grew.refl _, rfl⟩
      simp only [Act.put, List.setIfInBounds_toArray, List.set_cons_zero, List.set_cons_succ, Nat.reduceAdd]
      apply Facts.Lex.exact [] (.bool true) (by kernel_rfl)
      · intro u W hC hKn
        unfold Facts.one
        go_simp
        exact ⟨Grew.refl _, rfl⟩
      simp only [Act.put, List.setIfInBounds_toArray, List.set_cons_zero, List.set_cons_succ, Nat.reduceAdd]
      apply Facts.Lex.exact [] (.bool true) (by kernel_rfl)
      · intro u W hC hKn
        unfold Facts.one
        go_simp
        exact ⟨Grew.refl _, rfl⟩
      simp only [Act.put, List.setIfInBounds_toArray, List.set_cons_zero, List.set_cons_succ, Nat.reduceAdd]
      apply Facts.Lex.exact [] _ (by kernel_rfl)
      · intro u W hC hKn
        unfold Facts.one
        go_simp
        exact ⟨Grew.refl _, rfl⟩
      simp only [Act.put, List.setIfInBounds_toArray, List.set_cons_zero, List.set_cons_succ, Nat.reduceAdd]
      apply Facts.Lex.exact [] (.agg #[.int .i64 y.k, .int .i64 y.o, .int .i64 y.e, .slice A1 y.d.length c1]) (by kernel_rfl)
      · intro u W hC hKn
        have K1 := K0.out.grew hC
        obtain ⟨x0', x1, x2, x3⟩ := four_c K1.y0
        unfold Facts.one
        go_simp
        exact ⟨Grew.refl _, rfl⟩
      simp only [Act.put, List.setIfInBounds_toArray, List.set_cons_zero, List.set_cons_succ, Nat.reduceAdd]
      apply Facts.Lex.exact [] (.agg #[.int .i64 y.k, .int .i64 y.o, .int .i64 y.e, .slice A2 y.d.length c2]) (by kernel_rfl)
      · intro u W hC hKn
        have K1 := K0.out.grew hC
        obtain ⟨x0', x1, x2, x3⟩ := four_c K1.z0
        unfold Facts.one
        go_simp
        exact ⟨Grew.refl _, rfl⟩
      simp only [Act.put, List.setIfInBounds_toArray, List.set_cons_zero, List.set_cons_succ, Nat.reduceAdd]
      apply Facts.Lex.exact [] (.bool true) (by kernel_rfl)
      · intro u W hC hKn
        have K1 := K0.out.grew hC
        have hS := same_any y y A1 A2 c1 c2 _ _ W K1.ry K1.rz
        rw [show decide (y = y) = true from decide_eq_true rfl] at hS
        unfold Facts.one
        go_simp
        refine (hS).mono ?_
        rintro e w' ⟨rfl, hg⟩
        exact ⟨_, rfl, hg, rfl⟩
      simp only [Act.put, List.setIfInBounds_toArray, List.set_cons_zero, List.set_cons_succ, Nat.reduceAdd]
      apply Facts.Lex.exact [] (.bool true) (by kernel_rfl)
      · intro u W hC hKn
        unfold Facts.one
        go_simp
        exact ⟨Grew.refl _, rfl⟩
      simp only [Act.put, List.setIfInBounds_toArray, List.set_cons_zero, List.set_cons_succ, Nat.reduceAdd]
      apply Facts.Lex.exact [] _ (by kernel_rfl)
      · intro u W hC hKn
        unfold Facts.one
        go_simp
        exact ⟨Grew.refl _, rfl⟩
      simp only [Act.put, List.setIfInBounds_toArray, List.set_cons_zero, List.set_cons_succ, Nat.reduceAdd]
      apply Facts.Lex.exact [] _ (by kernel_rfl)
      · intro u W hC hKn
        unfold Facts.one
        go_simp
        exact ⟨Grew.refl _, rfl⟩
      simp only [Act.put, List.setIfInBounds_toArray, List.set_cons_zero, List.set_cons_succ, Nat.reduceAdd]
      apply Facts.Lex.exact [] _ (by kernel_rfl)
      · intro u W hC hKn
        unfold Facts.one
        go_simp
        exact ⟨Grew.refl _, rfl⟩
      simp only [Act.put, List.setIfInBounds_toArray, List.set_cons_zero, List.set_cons_succ, Nat.reduceAdd]
      apply Facts.Lex.exact [] (.bool true) (by kernel_rfl)
      · intro u W hC hKn
        unfold Facts.one
        go_simp
        exact ⟨Grew.refl _, rfl⟩
      simp only [Act.put, List.setIfInBounds_toArray, List.set_cons_zero, List.set_cons_succ, Nat.reduceAdd]
      apply Facts.Lex.exact [] (.bool true) (by kernel_rfl)
      · intro u W hC hKn
        unfold Facts.one
        go_simp
        exact ⟨Grew.refl _, rfl⟩
      simp only [Act.put, List.setIfInBounds_toArray, List.set_cons_zero, List.set_cons_succ, Nat.reduceAdd]
      apply Facts.Lex.exact [] _ (by kernel_rfl)
      · intro u W hC hKn
        unfold Facts.one
        go_simp
        exact ⟨Grew.refl _, rfl⟩
      simp only [Act.put, List.setIfInBounds_toArray, List.set_cons_zero, List.set_cons_succ, Nat.reduceAdd]
      apply Facts.Lex.exact [] _ (by kernel_rfl)
      · intro u W hC hKn
        unfold Facts.one
        go_simp
        exact ⟨Grew.refl _, rfl⟩
      simp only [Act.put, List.setIfInBounds_toArray, List.set_cons_zero, List.set_cons_succ, Nat.reduceAdd]
      apply Facts.Lex.exact [] _ (by kernel_rfl)
      · intro u W hC hKn
        unfold Facts.one
        go_simp
        exact ⟨Grew.refl _, rfl⟩
      simp only [Act.put, List.setIfInBounds_toArray, List.set_cons_zero, List.set_cons_succ, Nat.reduceAdd]
      apply Facts.Lex.exact [] (.bool true) (by kernel_rfl)
      · intro u W hC hKn
        have K1 := K0.out.grew hC
        have hS := sames_any W _ _ K K K1.ou K1.ov KL.out
        rw [show decide (K = K) = true from decide_eq_true rfl] at hS
        unfold Facts.one
        go_simp
        refine (hS).mono ?_
        rintro e w' ⟨rfl, hg⟩
        exact ⟨_, rfl, hg, rfl⟩
      simp only [Act.put, List.setIfInBounds_toArray, List.set_cons_zero, List.set_cons_succ, Nat.reduceAdd]
      apply Facts.Lex.exact [] (.bool true) (by kernel_rfl)
      · intro u W hC hKn
        unfold Facts.one
        go_simp
        exact ⟨Grew.refl _, rfl⟩
      simp only [Act.put, List.setIfInBounds_toArray, List.set_cons_zero, List.set_cons_succ, Nat.reduceAdd]
      apply Facts.Lex.exact [] _ (by kernel_rfl)
      · intro u W hC hKn
        unfold Facts.one
        go_simp
        exact ⟨Grew.refl _, rfl⟩
      simp only [Act.put, List.setIfInBounds_toArray, List.set_cons_zero, List.set_cons_succ, Nat.reduceAdd]
      apply Facts.Lex.exact [] _ (by kernel_rfl)
      · intro u W hC hKn
        unfold Facts.one
        go_simp
        exact ⟨Grew.refl _, rfl⟩
      simp only [Act.put, List.setIfInBounds_toArray, List.set_cons_zero, List.set_cons_succ, Nat.reduceAdd]
      apply Facts.Lex.exact [] _ (by kernel_rfl)
      · intro u W hC hKn
        unfold Facts.one
        go_simp
        exact ⟨Grew.refl _, rfl⟩
      simp only [Act.put, List.setIfInBounds_toArray, List.set_cons_zero, List.set_cons_succ, Nat.reduceAdd]
      apply Facts.Lex.exact [] (.bool true) (by kernel_rfl)
      · intro u W hC hKn
        unfold Facts.one
        go_simp
        exact ⟨Grew.refl _, rfl⟩
      simp only [Act.put, List.setIfInBounds_toArray, List.set_cons_zero, List.set_cons_succ, Nat.reduceAdd]
      apply Facts.Lex.exact [] (.bool true) (by kernel_rfl)
      · intro u W hC hKn
        unfold Facts.one
        go_simp
        exact ⟨Grew.refl _, rfl⟩
      simp only [Act.put, List.setIfInBounds_toArray, List.set_cons_zero, List.set_cons_succ, Nat.reduceAdd]
      apply Facts.Lex.exact [] _ (by kernel_rfl)
      · intro u W hC hKn
        unfold Facts.one
        go_simp
        exact ⟨Grew.refl _, rfl⟩
      simp only [Act.put, List.setIfInBounds_toArray, List.set_cons_zero, List.set_cons_succ, Nat.reduceAdd]
      apply Facts.Lex.exact [] _ (by kernel_rfl)
      · intro u W hC hKn
        unfold Facts.one
        go_simp
        exact ⟨Grew.refl _, rfl⟩
      simp only [Act.put, List.setIfInBounds_toArray, List.set_cons_zero, List.set_cons_succ, Nat.reduceAdd]
      apply Facts.Lex.know [] (fun v w => Rd (fun _ => True) w v (ob l)) (by kernel_rfl) (fun v w1 w2 h hG => Rd.grew h hG)
      · intro u W hC hKn
        have K1 := K0.out.grew hC
        unfold Facts.one
        go_simp
        refine (nums_eq W _ l (Is.grew HL.out K1.g) (by have := LL.out; omega) _ rfl).mono ?_
        rintro e w' ⟨v', rfl, hr, hg⟩
        exact ⟨_, rfl, hg, hr.mono fun _ _ => trivial⟩
      simp only [Act.put, List.setIfInBounds_toArray, List.set_cons_zero, List.set_cons_succ, Nat.reduceAdd]
      apply Facts.Lex.exact [39] (.string ⟨(ob l).toArray⟩) (by kernel_rfl)
      · intro u W hC hKn
        simp [Facts.known] at hKn
        have kq := conv22 hKn
        unfold Facts.one
        go_simp
        exact ⟨Grew.refl _, rfl⟩
      simp only [Act.put, List.setIfInBounds_toArray, List.set_cons_zero, List.set_cons_succ, Nat.reduceAdd]
      apply Facts.Lex.exact [] _ (by kernel_rfl)
      · intro u W hC hKn
        unfold Facts.one
        go_simp
        exact ⟨Grew.refl _, rfl⟩
      simp only [Act.put, List.setIfInBounds_toArray, List.set_cons_zero, List.set_cons_succ, Nat.reduceAdd]
      apply Facts.Lex.know [] (fun v w => Rd (fun _ => True) w v (ob l)) (by kernel_rfl) (fun v w1 w2 h hG => Rd.grew h hG)
      · intro u W hC hKn
        have K1 := K0.out.grew hC
        unfold Facts.one
        go_simp
        refine (rnums_any W Al cl l (Is.grew HL.out K1.g) (by have := LL.out; omega)).mono ?_
        rintro e w' ⟨v', rfl, hr, hg⟩
        exact ⟨_, rfl, hg, hr.mono fun _ _ => trivial⟩
      simp only [Act.put, List.setIfInBounds_toArray, List.set_cons_zero, List.set_cons_succ, Nat.reduceAdd]
      apply Facts.Lex.exact [42] (.string ⟨(ob l).toArray⟩) (by kernel_rfl)
      · intro u W hC hKn
        simp [Facts.known] at hKn
        have kq := conv22 hKn
        unfold Facts.one
        go_simp
        exact ⟨Grew.refl _, rfl⟩
      simp only [Act.put, List.setIfInBounds_toArray, List.set_cons_zero, List.set_cons_succ, Nat.reduceAdd]
      apply Facts.Lex.exact [] (.bool true) (by kernel_rfl)
      · intro u W hC hKn
        unfold Facts.one
        go_simp
        exact ⟨Grew.refl _, rfl⟩
      simp only [Act.put, List.setIfInBounds_toArray, List.set_cons_zero, List.set_cons_succ, Nat.reduceAdd]
      apply Facts.Lex.exact [] (.bool true) (by kernel_rfl)
      · intro u W hC hKn
        unfold Facts.one
        go_simp
        exact ⟨Grew.refl _, rfl⟩
      simp only [Act.put, List.setIfInBounds_toArray, List.set_cons_zero, List.set_cons_succ, Nat.reduceAdd]
      apply Facts.Lex.exact [] _ (by kernel_rfl)
      · intro u W hC hKn
        unfold Facts.one
        go_simp
        exact ⟨Grew.refl _, rfl⟩
      simp only [Act.put, List.setIfInBounds_toArray, List.set_cons_zero, List.set_cons_succ, Nat.reduceAdd]
      apply Facts.Lex.exact [] _ (by kernel_rfl)
      · intro u W hC hKn
        unfold Facts.one
        go_simp
        exact ⟨Grew.refl _, rfl⟩
      simp only [Act.put, List.setIfInBounds_toArray, List.set_cons_zero, List.set_cons_succ, Nat.reduceAdd]
      apply Facts.Lex.know [] (fun v w => Rd (fun _ => True) w v (orr refs)) (by kernel_rfl) (fun v w1 w2 h hG => Rd.grew h hG)
      · intro u W hC hKn
        have K1 := K0.out.grew hC
        unfold Facts.one
        go_simp
        refine (refs_eq W _ refs (Rw.grew HR.out K1.g) (by have := LR.out; omega) _ rfl).mono ?_
        rintro e w' ⟨v', rfl, hr, hg⟩
        exact ⟨_, rfl, hg, hr.mono fun _ _ => trivial⟩
      simp only [Act.put, List.setIfInBounds_toArray, List.set_cons_zero, List.set_cons_succ, Nat.reduceAdd]
      apply Facts.Lex.exact [48] (.string ⟨(orr refs).toArray⟩) (by kernel_rfl)
      · intro u W hC hKn
        simp [Facts.known] at hKn
        have kq := conv22 hKn
        unfold Facts.one
        go_simp
        exact ⟨Grew.refl _, rfl⟩
      simp only [Act.put, List.setIfInBounds_toArray, List.set_cons_zero, List.set_cons_succ, Nat.reduceAdd]
      apply Facts.Lex.exact [] _ (by kernel_rfl)
      · intro u W hC hKn
        unfold Facts.one
        go_simp
        exact ⟨Grew.refl _, rfl⟩
      simp only [Act.put, List.setIfInBounds_toArray, List.set_cons_zero, List.set_cons_succ, Nat.reduceAdd]
      apply Facts.Lex.know [] (fun v w => Rd (fun _ => True) w v (orr refs)) (by kernel_rfl) (fun v w1 w2 h hG => Rd.grew h hG)
      · intro u W hC hKn
        have hF := rnums_any W A9 c9 (flat refs) (Is.grew FL.out hC) (by have := FLN.out; omega)
        rw [ob_flat] at hF
        unfold Facts.one
        go_simp
        refine (hF).mono ?_
        rintro e w' ⟨v', rfl, hr, hg⟩
        exact ⟨_, rfl, hg, hr.mono fun _ _ => trivial⟩
      simp only [Act.put, List.setIfInBounds_toArray, List.set_cons_zero, List.set_cons_succ, Nat.reduceAdd]
      apply Facts.Lex.exact [51] (.string ⟨(orr refs).toArray⟩) (by kernel_rfl)
      · intro u W hC hKn
        simp [Facts.known] at hKn
        have kq := conv22 hKn
        unfold Facts.one
        go_simp
        exact ⟨Grew.refl _, rfl⟩
      simp only [Act.put, List.setIfInBounds_toArray, List.set_cons_zero, List.set_cons_succ, Nat.reduceAdd]
      apply Facts.Lex.exact [] (.bool true) (by kernel_rfl)
      · intro u W hC hKn
        unfold Facts.one
        go_simp
        exact ⟨Grew.refl _, rfl⟩
      simp only [Act.put, List.setIfInBounds_toArray, List.set_cons_zero, List.set_cons_succ, Nat.reduceAdd]
      apply Facts.Lex.exact [] (.bool true) (by kernel_rfl)
      · intro u W hC hKn
        unfold Facts.one
        go_simp
        exact ⟨Grew.refl _, rfl⟩
      simp only [Act.put, List.setIfInBounds_toArray, List.set_cons_zero, List.set_cons_succ, Nat.reduceAdd]
      apply Facts.Lex.exact [] _ (by kernel_rfl)
      · intro u W hC hKn
        unfold Facts.one
        go_simp
        exact ⟨Grew.refl _, rfl⟩
      simp only [Act.put, List.setIfInBounds_toArray, List.set_cons_zero, List.set_cons_succ, Nat.reduceAdd]
      apply Facts.Lex.exact [] _ (by kernel_rfl)
      · intro u W hC hKn
        unfold Facts.one
        go_simp
        exact ⟨Grew.refl _, rfl⟩
      simp only [Act.put, List.setIfInBounds_toArray, List.set_cons_zero, List.set_cons_succ, Nat.reduceAdd]
      apply Facts.Lex.know [] (fun v w => Rd (fun _ => True) w v (ou ns)) (by kernel_rfl) (fun v w1 w2 h hG => Rd.grew h hG)
      · intro u W hC hKn
        have K1 := K0.out.grew hC
        unfold Facts.one
        go_simp
        refine (amounts_eq W _ ns (Rw.grew HN.out K1.g) (by have := LN.out; omega) _ rfl).mono ?_
        rintro e w' ⟨v', rfl, hr, hg⟩
        exact ⟨_, rfl, hg, hr.mono fun _ _ => trivial⟩
      simp only [Act.put, List.setIfInBounds_toArray, List.set_cons_zero, List.set_cons_succ, Nat.reduceAdd]
      apply Facts.Lex.exact [57] (.string ⟨(ou ns).toArray⟩) (by kernel_rfl)
      · intro u W hC hKn
        simp [Facts.known] at hKn
        have kq := conv22 hKn
        unfold Facts.one
        go_simp
        exact ⟨Grew.refl _, rfl⟩
      simp only [Act.put, List.setIfInBounds_toArray, List.set_cons_zero, List.set_cons_succ, Nat.reduceAdd]
      apply Facts.Lex.exact [] _ (by kernel_rfl)
      · intro u W hC hKn
        unfold Facts.one
        go_simp
        exact ⟨Grew.refl _, rfl⟩
      simp only [Act.put, List.setIfInBounds_toArray, List.set_cons_zero, List.set_cons_succ, Nat.reduceAdd]
      apply Facts.Lex.know [] (fun v w => Rd (fun _ => True) w v (ou ns)) (by kernel_rfl) (fun v w1 w2 h hG => Rd.grew h hG)
      · intro u W hC hKn
        have K1 := K0.out.grew hC
        unfold Facts.one
        go_simp
        refine (ramounts_any W An cn ns (Rw.grew HN.out K1.g) HNS.out (by have := LN.out; omega)).mono ?_
        rintro e w' ⟨v', rfl, hr, hg⟩
        exact ⟨_, rfl, hg, hr.mono fun _ _ => trivial⟩
      simp only [Act.put, List.setIfInBounds_toArray, List.set_cons_zero, List.set_cons_succ, Nat.reduceAdd]
      apply Facts.Lex.exact [60] (.string ⟨(ou ns).toArray⟩) (by kernel_rfl)
      · intro u W hC hKn
        simp [Facts.known] at hKn
        have kq := conv22 hKn
        unfold Facts.one
        go_simp
        exact ⟨Grew.refl _, rfl⟩
      simp only [Act.put, List.setIfInBounds_toArray, List.set_cons_zero, List.set_cons_succ, Nat.reduceAdd]
      apply Facts.Lex.exact [] (.bool true) (by kernel_rfl)
      · intro u W hC hKn
        unfold Facts.one
        go_simp
        exact ⟨Grew.refl _, rfl⟩
      simp only [Act.put, List.setIfInBounds_toArray, List.set_cons_zero, List.set_cons_succ, Nat.reduceAdd]
      apply Facts.Lex.exact [] (.bool true) (by kernel_rfl)
      · intro u W hC hKn
        unfold Facts.one
        go_simp
        exact ⟨Grew.refl _, rfl⟩
      simp only [Act.put, List.setIfInBounds_toArray, List.set_cons_zero, List.set_cons_succ, Nat.reduceAdd]
      apply Facts.Lex.exact [] (.bool true) (by kernel_rfl)
      · intro u W hC hKn
        unfold Facts.one
        go_simp
        exact ⟨Grew.refl _, rfl⟩
      simp only [Act.put, List.setIfInBounds_toArray, List.set_cons_zero, List.set_cons_succ, Nat.reduceAdd]
      refine Facts.Lex.done fun u W hg hxx => ?_
      have GW := Lib.hid (K0.out.g.trans hg)
      clear hg hxx
      go_wp2
      go_returns
      exact ⟨rfl, GW.out⟩
    | succ g =>
      have hkz : ((i : Int) < (refs.length : Int)) := by omega
      have HKZ := Lib.hid hkz
      obtain ⟨x, hx⟩ : ∃ x, refs[i]? = some x := ⟨_, List.getElem?_eq_getElem (by omega)⟩
      obtain ⟨ad, c', e, hc0, hc1⟩ := Rfs_at (Rw.grew (Rw.grew HR.out KT.out.g) HG.out) hx
      injection e with e1 _ e3
      subst e1 e3
      have HT := Lib.hid (flat_take refs i x hx)
      have CC : Hid (∀ W, Grew wr W → W.cell? (ad.add (i * 2)) = some (.int .i64 x.label) ∧ W.cell? ⟨(ad.add (i * 2)).block, (ad.add (i * 2)).off + 1, none⟩ = some (.int .i64 x.slot)) := Lib.hid fun W hW => ⟨RC.cellB hW hc0, RC.cellB hW hc1⟩
      have HFL : Hid ((flat (refs.take i)).length ≤ 2097152) := Lib.hid (by have := LR.out; rw [flat_len2, List.length_take]; omega)
      have hwi : wrap64 ((i : Int) + 1) = ((i + 1 : Nat) : Int) := by have := LR.out; unfold wrap64; omega
      have HWI := Lib.hid hwi
      have HIG := Lib.hid hig
      have HI2 : Hid (i + 1 + g = refs.length) := Lib.hid (by omega)
      have HI3 : Hid (g < g + 1) := Lib.hid (by omega)
      clear hx hc0 hc1 hwi hig
      go_wp2_with fail
      refine Marks.wp_region_text (JF wr w5.heap.size [x.label, x.slot] (flat (refs.take (i + 1)))) (fun _ _ => True) (by kernel_rfl) (by kernel_rfl) (JF.start _ _ _ _) ?_
      apply Marks.Lex.exact [] _ (by kernel_rfl)
      · intro m u W hm hcl hJ _
        unfold Marks.one
        go_simp
        exact ⟨trivial, hJ.keep 0 _ (by omega) hm (by omega), rfl⟩
      simp only [Act.put, List.setIfInBounds_toArray, List.set_cons_zero, List.set_cons_succ, Nat.zero_add]
      apply Marks.Lex.exact [] _ (by kernel_rfl)
      · intro m u W hm hcl hJ _
        unfold Marks.one
        go_simp
        exact ⟨trivial, hJ.keep 1 _ (by omega) hm (by omega), rfl⟩
      simp only [Act.put, List.setIfInBounds_toArray, List.set_cons_zero, List.set_cons_succ, Nat.reduceAdd]
      apply Marks.Lex.exact [] _ (by kernel_rfl)
      · intro m u W hm hcl hJ _
        unfold Marks.one
        go_simp
        exact ⟨trivial, hJ.keep 2 _ (by omega) hm (by omega), rfl⟩
      simp only [Act.put, List.setIfInBounds_toArray, List.set_cons_zero, List.set_cons_succ, Nat.reduceAdd]
      apply Marks.Lex.exact [] _ (by kernel_rfl)
      · intro m u W hm hcl hJ _
        obtain ⟨c0, c1⟩ := CC.out W (hJ.grew (by decide) hm)
        have hkz := HKZ.out
        unfold Marks.one
        go_simp
        exact ⟨trivial, hJ.keep 3 _ (by omega) hm (by omega), rfl⟩
      simp only [Act.put, List.setIfInBounds_toArray, List.set_cons_zero, List.set_cons_succ, Nat.reduceAdd]
      apply Marks.Lex.exact [] _ (by kernel_rfl)
      · intro m u W hm hcl hJ _
        unfold Marks.one
        go_simp
        exact ⟨trivial, hJ.keep 4 _ (by omega) hm (by omega), rfl⟩
      simp only [Act.put, List.setIfInBounds_toArray, List.set_cons_zero, List.set_cons_succ, Nat.reduceAdd]
      apply Marks.Lex.exact [] _ (by kernel_rfl)
      · intro m u W hm hcl hJ _
        obtain ⟨c0, c1⟩ := CC.out W (hJ.grew (by decide) hm)
        have hkz := HKZ.out
        unfold Marks.one
        go_simp
        exact ⟨trivial, hJ.keep 5 _ (by omega) hm (by omega), rfl⟩
      simp only [Act.put, List.setIfInBounds_toArray, List.set_cons_zero, List.set_cons_succ, Nat.reduceAdd]
      apply Marks.Lex.exact [] _ (by kernel_rfl)
      · intro m u W hm hcl hJ _
        unfold Marks.one
        go_simp
        exact ⟨trivial, hJ.keep 6 _ (by omega) hm (by omega), rfl⟩
      simp only [Act.put, List.setIfInBounds_toArray, List.set_cons_zero, List.set_cons_succ, Nat.reduceAdd]
      apply Marks.Lex.exact [] _ (by kernel_rfl)
      · intro m u W hm hcl hJ _
        unfold Marks.one
        go_simp
        exact ⟨trivial, hJ.keep 7 _ (by omega) hm (by omega), rfl⟩
      simp only [Act.put, List.setIfInBounds_toArray, List.set_cons_zero, List.set_cons_succ, Nat.reduceAdd]
      apply Marks.Lex.exact [] _ (by kernel_rfl)
      · intro m u W hm hcl hJ _
        obtain ⟨c0, c1⟩ := CC.out W (hJ.grew (by decide) hm)
        have hkz := HKZ.out
        unfold Marks.one
        go_simp
        exact ⟨trivial, hJ.keep 8 _ (by omega) hm (by omega), rfl⟩
      simp only [Act.put, List.setIfInBounds_toArray, List.set_cons_zero, List.set_cons_succ, Nat.reduceAdd]
      apply Marks.Lex.exact [] _ (by kernel_rfl)
      · intro m u W hm hcl hJ _
        unfold Marks.one
        go_simp
        exact ⟨trivial, hJ.keep 9 _ (by omega) hm (by omega), rfl⟩
      simp only [Act.put, List.setIfInBounds_toArray, List.set_cons_zero, List.set_cons_succ, Nat.reduceAdd]
      apply Marks.Lex.exact [] _ (by kernel_rfl)
      · intro m u W hm hcl hJ _
        obtain ⟨c0, c1⟩ := CC.out W (hJ.grew (by decide) hm)
        have hkz := HKZ.out
        unfold Marks.one
        go_simp
        exact ⟨trivial, hJ.keep 10 _ (by omega) hm (by omega), rfl⟩
      simp only [Act.put, List.setIfInBounds_toArray, List.set_cons_zero, List.set_cons_succ, Nat.reduceAdd]
      apply Marks.Lex.know [] (fun _ _ => True) (by kernel_rfl) (fun _ _ _ _ _ => trivial)
      · intro m u W hm hcl hJ _
        have hI := lit_is W [x.label, x.slot] (by simp [maxLen])
        have hgn : Grew W (W.alloc (.cells (iv [x.label, x.slot]).toArray 3)) := (Below.refl _ _).alloc (Nat.le_refl _) _
        unfold Marks.one
        go_simp
        exact ⟨trivial, hJ.move hgn 11 _ (by omega) hm (fun _ => hI), trivial⟩
      simp only [Act.put, List.setIfInBounds_toArray, List.set_cons_zero, List.set_cons_succ, Nat.reduceAdd]
      apply Marks.Lex.know [] (fun _ _ => True) (by kernel_rfl) (fun _ _ _ _ _ => trivial)
      · intro m u W hm hcl hJ _
        have hall : ∀ j, j < 12 → m j = true := fun j hj => hcl j (by
          rcases (show j = 0 ∨ j = 1 ∨ j = 2 ∨ j = 3 ∨ j = 4 ∨ j = 5 ∨ j = 6 ∨ j = 7 ∨ j = 8 ∨ j = 9 ∨ j = 10 ∨ j = 11 by omega) with rfl | rfl | rfl | rfl | rfl | rfl | rfl | rfl | rfl | rfl | rfl | rfl <;> decide)
        obtain ⟨gW, hI⟩ := hJ.a hm
        obtain ⟨A11, c11, e11, _, _, q11, hP⟩ := hI (hall 11 (by omega))
        obtain ⟨a11, rfl⟩ : ∃ a, A11 = some a := by
          cases A11 with
          | none => have := q11 rfl; simp at *; omega
          | some a => exact ⟨a, rfl⟩
        obtain ⟨v', w', hr, o2, b2⟩ := ints_app W w5.heap.size (.slice A9 n9 c9) (flat (refs.take i)) [x.label, x.slot] a11 c11 (PA_own HO.out gW) (hP a11 rfl) (by have := HFL.out; simp; omega) (Nat.le_trans HG.out.size gW.size)
        rw [← HT.out] at o2
        rw [← e11] at hr
        exact one_app (by rfl) (.tmp 49) (.tmp 60) 26 26 (by with_reducible rfl) _ _ (by rfl) (by rfl) v' w' hr ⟨trivial, hJ.put hm hall _ (((show Below wr.heap.size _ _ from gW).mono (HG.out.size)).trans b2) o2, trivial⟩
      simp only [Act.put, List.setIfInBounds_toArray, List.set_cons_zero, List.set_cons_succ, Nat.reduceAdd]
      apply Marks.Lex.know [] (fun _ _ => True) (by kernel_rfl) (fun _ _ _ _ _ => trivial)
      · intro m u W hm hcl hJ _
        have hT : m 12 = true := hcl 12 (by decide)
        unfold Marks.one
        go_simp
        exact ⟨trivial, hJ.idle hT, trivial⟩
      simp only [Act.put, List.setIfInBounds_toArray, List.set_cons_zero, List.set_cons_succ, Nat.reduceAdd]
      refine Marks.Lex.done fun m u W hm hJ hxx => ?_
      obtain ⟨_, bW, oW⟩ := hJ.b (hm 12 (by decide))
      have h13 : u 13 = u 12 := (hJ.c (hm 13 (by decide))).2
      obtain ⟨vv, hvv⟩ : ∃ vv, u 12 = vv := ⟨_, rfl⟩
      rw [hvv] at oW
      rw [h13, hvv]
      obtain ⟨A8, c8, rfl⟩ := own_sl oW
      have O8 := Lib.hid oW
      have G8 : Hid (Grew w5 W) := Lib.hid ((show Below w5.heap.size w5 wr from HG.out).trans bW)
      obtain ⟨n8, hn8⟩ : ∃ n8, (flat (refs.take (i + 1))).length = n8 := ⟨_, rfl⟩
      have HN8 := Lib.hid hn8
      rw [hn8]
      have HNS8 := Lib.hid HN8.out.symm
      have HO8 : Hid (W.ownsRow w5.heap.size 3 1 (.slice A8 n8 c8) (flat (refs.take (i + 1))).length (iv (flat (refs.take (i + 1))))) := Lib.hid (by have := O8.out; rw [← HN8.out]; exact this)
      have HV : Hid (Value.int IntKind.i64 (wrap64 ((i : Int) + 1)) = Value.int .i64 ((i + 1 : Nat) : Int)) := Lib.hid (by rw [HWI.out])
      clear bW oW h13 hvv hJ hm hxx hn8 HO HG
      go_wp2
      go_roundg g
      case measure => exact HI3.out
      case rel => exact ⟨i + 1, n8, c8, A8, HI2.out, HV.out, rfl, HNS8, HO8, G8⟩
end Go.Proofs.Ythgigkklefaeeaa.RX
