/-
  Amounts and coins; which parts and which trades may be.
  Conditions: those that each lemma names.
-/
import Derived.Test.YtcbaaeihppchiaaPC
import Derived.WalkKit
import Derived.WalkMore
import Derived.IntWalk
import Derived.Handy
import Derived.Deep.LoopGhost
import Derived.BigQuiet
namespace Go.Proofs.Ytcbaaeihppchiaa.PM
set_option maxRecDepth 100000
open Go Go.RowKit Go.Lib Go.Proofs.Ytcbaaeihppchiaa Go.Proofs.Ytcbaaeihppchiaa.Facts Go.Proofs.Ytcbaaeihppchiaa.Ints Go.Proofs.Ytcbaaeihppchiaa.PA Go.Proofs.Ytcbaaeihppchiaa.PB Go.Proofs.Ytcbaaeihppchiaa.PC Go.Proofs.Ytcbaaeihppchiaa.Bytes

def top : Nat := 4611686018427387904
def plusN (a b : Nat) : Nat × Int := if a ≤ top ∧ a + b ≤ top then (a + b, 0) else (0, 7)
def two (x : Nat × Int) : Value := .tuple #[.int .u64 (x.1 : Int), .int .i64 x.2]
theorem plus_any (a b : Nat) (ha : a < 18446744073709551616) (hb : b < 18446744073709551616) (w : World) :
    Calls Try.prog 57 #[.int .u64 (a : Int), .int .u64 (b : Int)] w fun e w' => e = .returned (two (plusN a b)) ∧ w = w' := by
  by_cases h1 : a ≤ top
  · have d1 : decide ((4611686018427387904 : Int) < (a : Int)) = false := decide_eq_false (by unfold top at h1; omega)
    have hw : IntKind.u64.wrap ((4611686018427387904 : Int) - (a : Int)) = 4611686018427387904 - (a : Int) := IntWalk.u64_in _ (by unfold top at h1; omega)
    by_cases h2 : a + b ≤ top
    · have d2 : decide ((4611686018427387904 : Int) - (a : Int) < (b : Int)) = false := decide_eq_false (by unfold top at h1 h2; omega)
      have hs : IntKind.u64.wrap ((a : Int) + (b : Int)) = ((a + b : Nat) : Int) := by rw [IntWalk.u64_in _ (by unfold top at h2; omega)]; omega
      have he : plusN a b = (a + b, 0) := if_pos ⟨h1, h2⟩
      rw [he]
      clear h1 h2 ha hb he
      unfold two
      go_enter Try.func57, Try.ntmps57
      go_wp2
      go_ret2
      exact ⟨rfl, rfl⟩
    · have d2 : decide ((4611686018427387904 : Int) - (a : Int) < (b : Int)) = true := decide_eq_true (by unfold top at h1 h2; omega)
      have he : plusN a b = (0, 7) := if_neg fun h => h2 h.2
      rw [he]
      clear h1 h2 ha hb he
      unfold two
      go_enter Try.func57, Try.ntmps57
      go_wp2
      go_ret2
      exact ⟨rfl, rfl⟩
  · have d1 : decide ((4611686018427387904 : Int) < (a : Int)) = true := decide_eq_true (by unfold top at h1; omega)
    have he : plusN a b = (0, 7) := if_neg fun h => h1 h.1
    rw [he]
    clear h1 ha hb he
    unfold two
    go_enter Try.func57, Try.ntmps57
    go_wp2
    go_ret2
    exact ⟨rfl, rfl⟩
def coinB (c : Int) : Bool := decide (0 ≤ c ∧ c < 4)
theorem right_yes (c : Int) (h : 0 ≤ c ∧ c < 4) (w : World) : Calls Try.prog 31 #[.int .i64 c] w fun e w' => e = .returned (.bool true) ∧ w = w' := by
  have d1 : decide (0 ≤ c) = true := decide_eq_true h.1
  have d2 : decide (c < 4) = true := decide_eq_true h.2
  clear h
  go_enter Try.func31, Try.ntmps31
  go_wp2
  go_ret
  exact ⟨rfl, rfl⟩
theorem right_no (c : Int) (h : c < 0 ∨ 4 ≤ c) (w : World) : Calls Try.prog 31 #[.int .i64 c] w fun e w' => e = .returned (.bool false) ∧ w = w' := by
  by_cases h1 : c < 0
  · have d1 : decide (0 ≤ c) = false := decide_eq_false (by omega)
    clear h h1
    go_enter Try.func31, Try.ntmps31
    go_wp2
    go_ret
    exact ⟨rfl, rfl⟩
  · have d1 : decide (0 ≤ c) = true := decide_eq_true (by omega)
    have d2 : decide (c < 4) = false := decide_eq_false (by omega)
    clear h h1
    go_enter Try.func31, Try.ntmps31
    go_wp2
    go_ret
    exact ⟨rfl, rfl⟩
/-- The slice v reads as the numbers l. -/
def Us (w : World) (A : Option Addr) (c : Nat) (l : List Nat) : Prop :=
  l.length ≤ 9223372036854775807 ∧ (∀ x ∈ l, x < 18446744073709551616) ∧ ∀ (j : Nat) (x : Nat), l[j]? = some x → ∃ ad, A = some ad ∧ l.length ≤ c ∧ w.cell? (ad.add j) = some (.int .u64 (x : Int))
theorem Us.grew {w w' : World} {A : Option Addr} {c : Nat} {l : List Nat} (h : Us w A c l) (hg : Grew w w') : Us w' A c l := by
  obtain ⟨h1, h2, h3⟩ := h
  refine ⟨h1, h2, fun j x hx => ?_⟩
  obtain ⟨ad, e, hc, k⟩ := h3 j x hx
  exact ⟨ad, e, hc, (hg.cell (World.block_lt_of_cell? _ _ k)).trans k⟩
def sumN : List Nat → Nat → Nat × Int
  | [], s => (s, 0)
  | n :: r, s => if (plusN s n).2 = 0 then sumN r (plusN s n).1 else (0, (plusN s n).2)
theorem plus_le (a b : Nat) (h : (plusN a b).2 = 0) : (plusN a b).1 ≤ top := by
  unfold plusN at h ⊢
  split
  · rename_i h1; exact h1.2
  · rename_i h1; rw [if_neg h1] at h; cases h
theorem sum_at (l : List Nat) (k s x : Nat) (h : l[k]? = some x) : sumN (l.drop k) s = if (plusN s x).2 = 0 then sumN (l.drop (k + 1)) (plusN s x).1 else (0, (plusN s x).2) := by
  have hk := (List.getElem?_eq_some_iff.1 h).1
  have he : l[k] = x := (List.getElem?_eq_some_iff.1 h).2
  rw [List.drop_eq_getElem_cons hk, he]
  rfl
set_option maxHeartbeats 1000000 in
theorem sum_any (A : Option Addr) (c : Nat) (l : List Nat) (w : World) (h : Us w A c l) :
    Calls Try.prog 34 #[.slice A l.length c] w fun e w' => e = .returned (two (sumN l 0)) ∧ w = w' := by
  have HU := Lib.hid h
  have hlen := h.1
  have HS0 : Hid (sumN (l.drop 0) 0 = sumN l 0) := Lib.hid (by rw [List.drop_zero])
  have HT0 : Hid (0 ≤ top) := Lib.hid (Nat.zero_le _)
  clear h
  obtain ⟨R, hR⟩ : ∃ R, sumN l 0 = R := ⟨_, rfl⟩
  rw [hR] at HS0 ⊢
  clear hR
  go_enter Try.func34, Try.ntmps34
  go_wp2
  go_loop [4, 11] (fun sa si => ∃ k s : Nat, k ≤ l.length ∧ sa = .int .u64 (s : Int) ∧ si = .int .i64 (k : Int) ∧ Hid (sumN (l.drop k) s = R) ∧ Hid (s ≤ top)) (fun sa si => l.length - (intOf si).toNat)
  case atStart => exact ⟨0, 0, Nat.zero_le _, rfl, rfl, HS0, HT0⟩
  case round =>
    obtain ⟨k, s, hk, rfl, rfl, HS, HT⟩ := hrel
    clear HS0 HT0
    by_cases hlt : k < l.length
    · obtain ⟨x, hx⟩ : ∃ x, l[k]? = some x := ⟨_, List.getElem?_eq_getElem hlt⟩
      obtain ⟨ad, hA, hcap, hc⟩ := HU.out.2.2 k x hx
      subst hA
      have hxl := HU.out.2.1 x (List.mem_of_getElem? hx)
      have hst := HT.out
      have HP := Lib.hid (plus_any s x (by unfold top at hst; omega) hxl)
      have HN := Lib.hid (sum_at l k s x hx)
      have HPL := Lib.hid (plus_le s x)
      clear hx hxl hst
      rcases hp : plusN s x with ⟨t, q⟩
      rw [hp] at HP HN HPL
      clear hp
      unfold two at HP
      have hkn : (k : Int) < (l.length : Int) := by omega
      by_cases h0 : q = 0
      · subst h0
        have HS2 : Hid (sumN (l.drop (k + 1)) t = R) := Lib.hid (by have := HN.out; rw [if_pos rfl, HS.out] at this; exact this.symm)
        have HT2 : Hid (t ≤ top) := Lib.hid (HPL.out rfl)
        clear HN HPL HS HT
        go_wp2_with fail
        refine (HP.out _).mono ?_
        rintro e w' ⟨rfl, rfl⟩
        go_wp2
        go_round
        case rel => exact ⟨k + 1, t, by omega, rfl, by first | rfl | go_num, HS2, HT2⟩
        case measure => simp [intOf]; omega
      · have d0 : (q == 0) = false := by simpa using h0
        have d1 : (q != 0) = true := by simpa using h0
        have HR : Hid (R = (0, q)) := Lib.hid (by have := HN.out; rw [if_neg (show ¬ (t, q).2 = 0 from h0), HS.out] at this; exact this)
        clear HN HPL HS HT h0
        go_wp2_with fail
        refine (HP.out _).mono ?_
        rintro e w' ⟨rfl, rfl⟩
        go_wp2
        rw [HR.out]
        unfold two
        go_ret2
        exact ⟨rfl, rfl⟩
    · have hkn : ¬ (k : Int) < (l.length : Int) := by omega
      have HR : Hid (R = (s, 0)) := Lib.hid (by rw [← HS.out, List.drop_of_length_le (by omega)]; rfl)
      clear hlt HS HT
      go_wp2
      rw [HR.out]
      unfold two
      go_ret2
      exact ⟨rfl, rfl⟩
theorem info38 : (Try.prog.info? 38).map (fun i => (i.zero, i.size, i.bytes)) = some (some (.int .u64 0), 1, 8) := by kernel_rfl
def uv (l : List Nat) : List Value := l.map fun n : Nat => Value.int .u64 (n : Int)
theorem uv_length (l : List Nat) : (uv l).length = l.length := by simp [uv]
theorem uv_append (l m : List Nat) : uv (l ++ m) = uv l ++ uv m := by simp [uv]
theorem uv_one (l : List Nat) : ∀ u ∈ uv l, u.oneCell' = true := by
  intro u hu
  obtain ⟨b, _, rfl⟩ := List.mem_map.1 hu
  rfl
theorem u_grown_below {W w' : World} {base : Nat} {v : Value} {n : Nat} {xs : List Value} (hown : W.ownsRow base 38 1 v n xs) (h6 : W.grownBy w' v.ownBlock) (hb : base ≤ W.heap.size) : Below base W w' :=
  below_of_grown W h6 hb fun k hk => by
    rcases hown.2 with ⟨rfl, _⟩ | ⟨g, cap, cur, rfl, hg, _⟩
    · simp [Value.ownBlock] at hk
    · simp [Value.ownBlock] at hk
      omega

theorem u_app_row (W : World) (base : Nat) (v : Value) (l m : List Nat) (ad : Addr) (c : Nat) (hown : W.ownsRow base 38 1 v l.length (uv l)) (hm : ∀ j u, (uv m)[j]? = some u → W.cell? (ad.add j) = some u) (hl : (l.length + m.length) * 8 ≤ 140737488355328) (hb : base ≤ W.heap.size) :
    ∃ v' w', (Builtin.append_ #[64, 64] 64 #[v, .slice (some ad) m.length c]).run Try.prog W = .ok v' w' ∧ w'.ownsRow base 38 1 v' (l ++ m).length (uv (l ++ m)) ∧ Below base W w' := by
  obtain ⟨i0, hi, hx⟩ := Option.map_eq_some_iff.1 info38
  simp only [Prod.mk.injEq] at hx
  obtain ⟨hz0, hz1, hz2⟩ := hx
  obtain ⟨v', w', hr, h5, h6, _⟩ := run_append_own (P := Try.prog) W base 64 64 38 i0 (.int .u64 0) 1 8 Try.underlying64 hi hz0 hz1 hz2 rfl Nat.one_pos v l.length (uv l) hown ad m.length c (uv m) (by rw [uv_length]; omega) hm (uv_one m) (by unfold maxLen; omega) (by omega) hb
  exact ⟨v', w', hr, by rw [List.length_append, uv_append]; exact h5, u_grown_below hown h6 hb⟩

theorem u_app_one (W : World) (base : Nat) (v : Value) (l : List Nat) (x : Nat) (hown : W.ownsRow base 38 1 v l.length (uv l)) (hl : (l.length + 1) * 8 ≤ 140737488355328) (hb : base ≤ W.heap.size) :
    ∃ v' w', (Builtin.append_ #[64, 64] 64 #[v, .slice (some ⟨W.heap.size, 0, none⟩) 1 1]).run Try.prog (W.alloc (.cells #[.int .u64 x] 38)) = .ok v' w' ∧ w'.ownsRow base 38 1 v' (l ++ [x]).length (uv (l ++ [x])) ∧ Below base W w' := by
  have ha : Below base W (W.alloc (.cells #[.int .u64 x] 38)) := (Below.refl _ _).alloc hb _
  obtain ⟨v', w', hr, h5, h6⟩ := u_app_row (W.alloc (.cells #[.int .u64 x] 38)) base v l [x] ⟨W.heap.size, 0, none⟩ 1 (hown.alloc _) (fun j u hu => by
    have hj : j = 0 := by
      have := (List.getElem?_eq_some_iff.1 hu).1
      simp [uv] at this
      exact this
    subst hj
    simp only [uv, List.map_cons, List.map_nil, List.getElem?_cons_zero, Option.some.injEq] at hu
    subst hu
    exact World.cell?_alloc_mark _ _ _ _ _) (by simpa using hl) (Nat.le_trans hb (by simp))
  exact ⟨v', w', hr, h5, ha.trans h6⟩

theorem u_own_nil (w : World) (base : Nat) : w.ownsRow base 38 1 (.slice none 0 0) 0 (uv []) := World.ownsRow_nil w base 38 1


theorem num_any (n : Int) (w : World) : Calls Try.prog 58 #[.int .i64 n] w fun e w' => e = .returned (.bool (num n)) ∧ Grew w w' := by
  rcases num_cases n with ⟨h, h2, e⟩ | ⟨h, e⟩ | ⟨h, h2, e⟩
  all_goals
    rw [e]
    clear e
    go_enter Try.func58, Try.ntmps58
    go_wp2
    go_returns
    exact ⟨rfl, Grew.refl _⟩
theorem coin_any (c : Int) (w : World) : Calls Try.prog 31 #[.int .i64 c] w fun e w' => e = .returned (.bool (coinB c)) ∧ Grew w w' := by
  by_cases h : 0 ≤ c ∧ c < 4
  · rw [show coinB c = true from decide_eq_true h]
    exact (right_yes c h w).mono fun e w' ⟨he, hw⟩ => ⟨he, by rw [hw]; exact Grew.refl _⟩
  · rw [show coinB c = false from decide_eq_false h]
    exact (right_no c (by omega) w).mono fun e w' ⟨he, hw⟩ => ⟨he, by rw [hw]; exact Grew.refl _⟩
theorem three_c {W : World} {B t : Nat} {a b c : Value} (h : W.heap[B]? = some (.cells #[a, b, c] t (0, 0))) : W.cell? ⟨B, 0, none⟩ = some a ∧ W.cell? ⟨B, 1, none⟩ = some b ∧ W.cell? ⟨B, 2, none⟩ = some c := by
  refine ⟨?_, ?_, ?_⟩
  all_goals rw [cell_of_row _ _ _ _ _ _ h]; rfl
theorem nine_c {W : World} {B t : Nat} {a b c d e f g h i : Value} (hb : W.heap[B]? = some (.cells #[a, b, c, d, e, f, g, h, i] t (0, 0))) :
    W.cell? ⟨B, 0, none⟩ = some a ∧ W.cell? ⟨B, 1, none⟩ = some b ∧ W.cell? ⟨B, 2, none⟩ = some c ∧ W.cell? ⟨B, 3, none⟩ = some d ∧ W.cell? ⟨B, 4, none⟩ = some e ∧ W.cell? ⟨B, 5, none⟩ = some f ∧ W.cell? ⟨B, 6, none⟩ = some g ∧ W.cell? ⟨B, 7, none⟩ = some h ∧ W.cell? ⟨B, 8, none⟩ = some i := by
  refine ⟨?_, ?_, ?_, ?_, ?_, ?_, ?_, ?_, ?_⟩
  all_goals rw [cell_of_row _ _ _ _ _ _ hb]; rfl
def mayP (c : Int) (n : Nat) (i : Int) : Bool := coinB c && decide (n ≤ top) && (decide (i = -1) || num i)
theorem may_any (c : Int) (n : Nat) (i : Int) (w : World) : Calls Try.prog 37 #[.agg #[.int .i64 c, .int .u64 n, .int .i64 i]] w fun e w' => e = .returned (.bool (mayP c n i)) ∧ Grew w w' := by
  have H1 := Lib.hid (fun W => coin_any c W)
  have H2 := Lib.hid (fun W => num_any i W)
  unfold mayP
  have G0 : Hid (Grew w (w.alloc (.cells #[.int .i64 c, .int .u64 n, .int .i64 i] 40))) := Lib.hid (by unfold Grew; go_grown)
  have A0 := Lib.hid (blk_new w (.cells #[.int .i64 c, .int .u64 n, .int .i64 i] 40))
  generalize coinB c = p at *
  generalize num i = q at *
  cases p with
  | false =>
    go_enter Try.func37, Try.ntmps37
    go_wp2_with fail
    refine (H1.out _).mono ?_
    rintro e w1 ⟨rfl, hg⟩
    have G1 := Lib.hid (G0.out.trans hg)
    clear hg
    go_wp2
    go_returns
    exact ⟨by simp, G1.out⟩
  | true =>
    by_cases hn : n ≤ top
    · have d1 : decide ((n : Int) ≤ (4611686018427387904 : Int)) = true := decide_eq_true (by unfold top at hn; omega)
      rw [decide_eq_true hn]
      clear hn
      by_cases hi : i = -1
      · subst hi
        go_enter Try.func37, Try.ntmps37
        go_wp2_with fail
        refine (H1.out _).mono ?_
        rintro e w1 ⟨rfl, hg⟩
        have G1 := Lib.hid (G0.out.trans hg)
        have A1 := Lib.hid (keepB A0.out hg)
        clear hg
        obtain ⟨c0, c1, c2⟩ := three_c A1.out
        go_wp2
        go_returns
        exact ⟨by simp, G1.out⟩
      · have hi' : (i == -1) = false := by simpa using hi
        rw [decide_eq_false hi]
        clear hi
        go_enter Try.func37, Try.ntmps37
        go_wp2_with fail
        refine (H1.out _).mono ?_
        rintro e w1 ⟨rfl, hg⟩
        have G1 := Lib.hid (G0.out.trans hg)
        have A1 := Lib.hid (keepB A0.out hg)
        clear hg
        obtain ⟨c0, c1, c2⟩ := three_c A1.out
        go_wp2_with fail
        refine (H2.out _).mono ?_
        rintro e w2 ⟨rfl, hg⟩
        have G2 := Lib.hid (G1.out.trans hg)
        clear hg c0 c1 c2
        go_wp2
        go_returns
        exact ⟨by simp, G2.out⟩
    · have d1 : decide ((n : Int) ≤ (4611686018427387904 : Int)) = false := decide_eq_false (by unfold top at hn; omega)
      rw [decide_eq_false hn]
      clear hn
      go_enter Try.func37, Try.ntmps37
      go_wp2_with fail
      refine (H1.out _).mono ?_
      rintro e w1 ⟨rfl, hg⟩
      have G1 := Lib.hid (G0.out.trans hg)
      have A1 := Lib.hid (keepB A0.out hg)
      clear hg
      obtain ⟨c0, c1, c2⟩ := three_c A1.out
      go_wp2
      go_returns
      exact ⟨by simp, G1.out⟩
def bareP (n : Nat) (i : Int) : Bool := decide (n = 0) && decide (i = -1)
theorem eqP (c : Int) (n : Nat) (i : Int) (W : World) : (binOp .eql 40 (.agg #[.int .i64 c, .int .u64 n, .int .i64 i]) (.agg #[.int .i64 c, .int .u64 0, .int .i64 (-1)])).run Try.prog W = .ok (.bool (bareP n i)) W := by
  unfold bareP
  go_simp
  try (by_cases h1 : n = 0 <;> by_cases h2 : i = -1 <;> simp [h1, h2])
theorem bare_any (c : Int) (n : Nat) (i : Int) (w : World) : Calls Try.prog 59 #[.agg #[.int .i64 c, .int .u64 n, .int .i64 i]] w fun e w' => e = .returned (.bool (bareP n i)) ∧ Grew w w' := by
  have heq := fun W => eqP c n i W
  have G0 : Hid (Grew w (w.alloc (.cells #[.int .i64 c, .int .u64 n, .int .i64 i] 40))) := Lib.hid (by unfold Grew; go_grown)
  generalize bareP n i = p at *
  go_enter Try.func59, Try.ntmps59
  go_wp2
  go_returns
  exact ⟨rfl, G0.out⟩
theorem dec9 (x : Tr) : decide (x = ztr) = (decide (x.used = false) && (decide (x.a = 0) && (decide (x.b = 0) && (decide (x.gc = 0) && (decide (x.ga = 0) && (decide (x.gi = 0) && (decide (x.wc = 0) && (decide (x.wa = 0) && decide (x.wi = 0))))))))) := by
  cases x
  rw [Bool.eq_iff_iff]
  simp [Tr.mk.injEq, ztr]
theorem eqT (x : Tr) (W : World) : (binOp .eql 42 (trv x) (trv ztr)).run Try.prog W = .ok (.bool (decide (x = ztr))) W := by
  rw [dec9]
  unfold trv ztr
  obtain ⟨u, a, b, gc, ga, gi, wc, wa, wi⟩ := x
  go_simp
  repeat' split
  all_goals simp_all
def okT (x : Tr) : Bool := if x.used then num x.a && num x.b && !decide (x.a = x.b) && mayP x.gc x.ga x.gi && mayP x.wc x.wa x.wi && !(bareP x.ga x.gi && bareP x.wa x.wi) else decide (x = ztr)
end Go.Proofs.Ytcbaaeihppchiaa.PM
