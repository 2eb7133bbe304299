/-
  Labels, lines, accounts and guilds taken off a scan, as many as its number says.
  Conditions: those that each lemma names.
-/
import Derived.Test.YtmegdgeiikhflaaGreatCB
namespace Go.Proofs.YtmegdgeiikhflaaGreat.CC
set_option maxRecDepth 100000
open Go Go.RowKit Go.Lib Go.Proofs.YtmegdgeiikhflaaGreat Go.Proofs.YtmegdgeiikhflaaGreat.Facts Go.Proofs.YtmegdgeiikhflaaGreat.Bytes Go.Proofs.YtmegdgeiikhflaaGreat.Plain Go.Proofs.YtmegdgeiikhflaaGreat.Ints Go.Proofs.YtmegdgeiikhflaaGreat.LBox Go.Proofs.YtmegdgeiikhflaaGreat.RRows Go.Proofs.YtmegdgeiikhflaaGreat.Puts Go.Proofs.YtmegdgeiikhflaaGreat.Scan Go.Proofs.YtmegdgeiikhflaaGreat.Take Go.Proofs.YtmegdgeiikhflaaGreat.Nums Go.Proofs.YtmegdgeiikhflaaGreat.BA Go.Proofs.YtmegdgeiikhflaaGreat.BB Go.Proofs.YtmegdgeiikhflaaGreat.BC Go.Proofs.YtmegdgeiikhflaaGreat.BD Go.Proofs.YtmegdgeiikhflaaGreat.CA Go.Proofs.YtmegdgeiikhflaaGreat.CB


def goA {T : Type} (one : Sc → T × Sc) : Nat → List T → Sc → List T × Sc
  | 0, acc, s => (acc, s)
  | f + 1, acc, s => if s.e = 0 then goA one f (acc ++ [(one s).1]) (one s).2 else (acc, s)
def allP {T : Type} (one : Sc → T × Sc) (s : Sc) : List T × Sc := goA one (s.num 1).1 [] ((s.num 1).2.rule (decide (((s.num 1).1 : Int) ≤ 8)) 2)
/-- What a function that takes all of a kind answers. -/
def Tall {T : Type} (f g : FuncId) (own : World → Nat → Value → List T → Prop) (one : Sc → T × Sc) : Prop :=
  ∀ (w : World) (lo hi : Nat) (p : Value) (s : Sc), SC w lo hi p s → hi ≤ w.heap.size → s.l.length ≤ 140737488355328 →
    Calls Tryz.prog f #[p, .int .i64 8, .func (.func g) #[] #[]] w fun e w' => ∃ v, e = .returned v ∧ own w' w.heap.size v (allP one s).1 ∧ SC w' lo hi p (allP one s).2 ∧ Chg p w w'
theorem Chg.below {p : Value} {w W W' : World} (h : Chg p w W) (hb : Below w.heap.size W W') : Chg p w W' :=
  ⟨hb.os.trans h.os, hb.tape.trans h.tape, hb.output.trans h.output, Nat.le_trans h.size hb.size, fun k hk hne => (hb.block k hk).trans (h.block k hk hne)⟩
theorem SC.below {w W : World} {lo hi base : Nat} {p : Value} {s : Sc} (h : SC w lo hi p s) (hb : Below base w W) (hh : hi ≤ base) : SC W lo hi p s :=
  h.keep hb.size fun b _ hlt => hb.block b (by omega)
theorem own_chg {w w' : World} {base t n c : Nat} {p v : Value} {xs : List Value} (h : w.ownsRow base t n v c xs) (hc : Chg p w w') (hp : ∀ b, blk p = some b → b < base) : w'.ownsRow base t n v c xs := by
  refine ⟨h.1, h.2.imp id fun ⟨g, cap, cur, h1, h2, h3, h4⟩ => ⟨g, cap, cur, h1, h2, ?_, h4⟩⟩
  exact (hc.block g (Array.getElem?_eq_some_iff.1 h3).1 (fun e => by have := hp g e.symm; omega)).trans h3
theorem below_rows {w w' : World} {base t n c : Nat} {v : Value} {xs : List Value} (hown : w.ownsRow base t n v c xs) (h6 : w.grownBy w' v.ownBlock) (hb : base ≤ w.heap.size) : Below base w w' :=
  ⟨h6.os, h6.tape, h6.output, h6.size, fun k hk => h6.block k (by omega) (fun e => by
    rcases hown.2 with ⟨rfl, _⟩ | ⟨g, cap, cur, rfl, hg, _⟩
    · simp [Value.ownBlock] at e
    · simp [Value.ownBlock] at e
      omega)⟩
theorem row_at {W : World} {t : Nat} {xs : List Value} {ys : Array Value} (hxs : ys.toList = xs) : ∀ j u, xs[j]? = some u → (W.alloc (.cells ys t)).cell? ((⟨W.heap.size, 0, none⟩ : Addr).add j) = some u := by
  intro j u hu
  rw [Addr.add_lit, Nat.zero_add, cell_of_row _ _ _ _ _ _ (heap_alloc_new W _), ← Array.getElem?_toList, hxs]
  exact hu

theorem oneL_le (s : Sc) : (oneL s).2.l.length ≤ s.l.length := take_le s 9
theorem oneG_le (s : Sc) : (oneG s).2.l.length ≤ s.l.length := Nat.le_trans (takeP_le _) (takeP_le _)
theorem oneA_le (s : Sc) : (oneA s).2.l.length ≤ s.l.length :=
  Nat.le_trans (rule_le _ _ _) (Nat.le_trans (takeP_le _) (Nat.le_trans (takeP_le _) (Nat.le_trans (text_le _ _) (text_le _ _))))

theorem info31 : (Tryz.prog.info? 31).map (fun i => (i.zero, i.size, i.bytes)) = some (some (.agg #[.int .i64 0, .int .u64 0]), 2, 16) := by kernel_rfl
def OwnL (w : World) (base : Nat) (v : Value) (l : List La) : Prop := w.ownsRow base 31 2 v l.length (l.flatMap lcs)
theorem appL (W : World) (base : Nat) (v : Value) (l : List La) (x : La) (hown : OwnL W base v l) (hl : l.length ≤ 1000) (hb : base ≤ W.heap.size) :
    ∃ v' w', (Builtin.append_ #[22, 22] 22 #[v, .slice (some ⟨W.heap.size, 0, none⟩) 1 1]).run Tryz.prog (W.alloc (.cells #[.int .i64 x.lev, .int .u64 (x.set.toNat : Int)] 31)) = .ok v' w' ∧ OwnL w' base v' (l ++ [x]) ∧ Below base W w' := by
  obtain ⟨i0, hi, hx⟩ := Option.map_eq_some_iff.1 info31
  simp only [Prod.mk.injEq] at hx
  obtain ⟨hz0, hz1, hz2⟩ := hx
  have ho := World.ownsRow.alloc (show W.ownsRow base 31 2 v l.length (l.flatMap lcs) from hown) (.cells #[.int .i64 x.lev, .int .u64 (x.set.toNat : Int)] 31)
  have hsz : (W.alloc (.cells #[.int .i64 x.lev, .int .u64 (x.set.toNat : Int)] 31)).heap.size = W.heap.size + 1 := by simp
  obtain ⟨v', w', hr, h5, h6, _⟩ := run_append_own (P := Tryz.prog) (W.alloc (.cells #[.int .i64 x.lev, .int .u64 (x.set.toNat : Int)] 31)) base 22 22 31 i0 (.agg #[.int .i64 0, .int .u64 0]) 2 16 Tryz.underlying22 hi hz0 hz1 hz2 rfl (by decide) v l.length (l.flatMap lcs) ho ⟨W.heap.size, 0, none⟩ 1 1 [.int .i64 x.lev, .int .u64 (x.set.toNat : Int)] rfl (row_at rfl)
    (fun u hu => by
      simp only [List.mem_cons, List.not_mem_nil, or_false] at hu
      rcases hu with rfl | rfl <;> rfl) (by unfold maxLen; omega) (by omega) (by rw [hsz]; omega)
  have hbl : Below base _ w' := below_rows ho h6 (by rw [hsz]; omega)
  exact ⟨v', w', hr, by unfold OwnL; rw [List.length_append, List.flatMap_append]; exact h5, ((Below.refl _ _).alloc hb _).trans hbl⟩
set_option maxHeartbeats 1000000 in
theorem all_L : Tall (T := La) 67 68 OwnL oneL := by
  intro w lo hi p s h hh hl
  have hn8 := num1_lt s
  obtain ⟨⟨n, s1⟩, h1⟩ : ∃ q, s.num 1 = q := ⟨_, rfl⟩
  have hl1 := num_le s 1
  rw [h1] at hl1 hn8
  have ht : takeP s = ((n : Int), s1) := by unfold takeP; rw [h1]
  obtain ⟨s2, h2⟩ : ∃ q, s1.rule (decide ((n : Int) ≤ 8)) 2 = q := ⟨_, rfl⟩
  have hl2 := rule_le s1 (decide ((n : Int) ≤ 8)) 2
  rw [h2] at hl2
  obtain ⟨⟨R, s3⟩, h3⟩ : ∃ q, goA oneL n [] s2 = q := ⟨_, rfl⟩
  have hT : allP oneL s = (R, s3) := by unfold allP; simp only [h1, h2, h3]
  rw [hT]
  have HS0 := Lib.hid h
  have HH := Lib.hid hh
  have HL := Lib.hid hl
  have HL2 := Lib.hid (Nat.le_trans hl2 (Nat.le_trans hl1 hl))
  have H1 := Lib.hid ht
  have H2 := Lib.hid h2
  have H3 := Lib.hid h3
  have HN8 := Lib.hid hn8
  have HP := Lib.hid (fun b hb => Nat.lt_of_lt_of_le (blk_lt h b hb) hh)
  clear h hh hl hl1 hl2 h1 h2 h3 hT ht hn8
  go_enter Tryz.func67, Tryz.ntmps67
  go_wp2_with fail
  refine (take_one.eq _ lo hi _ s n s1 HS0 HH HL H1).mono ?_
  rintro e9 w1 ⟨rfl, q1, c1⟩
  have HS1 := Lib.hid q1
  have C1 := Lib.hid c1
  clear q1 c1
  go_wp2_with fail
  refine (rule_eq _ lo hi _ s1 s2 _ _ HS1 H2).mono ?_
  rintro e9 w2 ⟨rfl, q1, c1⟩
  have HS2 := Lib.hid q1
  have C2 := Lib.hid (C1.out.trans c1)
  clear q1 c1
  go_wp2
  go_loopg [8, 9] n (fun g s8 s9 wx => ∃ (k : Nat) (acc : List La) (sx : Sc) (vv : Value), k + g = n ∧ vv = s8 ∧ s9 = .int .i64 k ∧ Hid (acc.length = k) ∧ Hid (OwnL wx w.heap.size s8 acc) ∧ Hid (SC wx lo hi p sx) ∧ Hid (Chg p w wx) ∧ Hid (sx.l.length ≤ 140737488355328) ∧ Hid (goA oneL g acc sx = (R, s3)))
  case atStart => exact ⟨0, [], s2, _, by omega, rfl, rfl, Lib.hid rfl, Lib.hid (World.ownsRow_nil _ _ _ _), HS2, C2, HL2, H3⟩
  case round =>
    clear HS0 HS1 HS2 C1 C2 H1 H2 H3 HL HL2
    obtain ⟨k, acc, sx, vv, hkg, rfl, rfl, HA, HO, HS, HC, HLx, HG⟩ := hrel
    cases gk with
    | zero =>
      have hkz : ¬ ((k : Int) < (n : Int)) := by omega
      have hg := HG.out
      unfold goA at hg
      simp only [Prod.mk.injEq] at hg
      obtain ⟨rfl, rfl⟩ := hg
      go_wp2
      go_returns
      exact ⟨_, rfl, HO.out, HS.out, HC.out⟩
    | succ g =>
      have hkz : (k : Int) < (n : Int) := by omega
      by_cases he : sx.e = 0
      · have hg := HG.out
        unfold goA at hg
        rw [if_pos he] at hg
        obtain ⟨⟨x, sy⟩, hx⟩ : ∃ q, oneL sx = q := ⟨_, rfl⟩
        rw [hx] at hg
        have HE := Lib.hid he
        have HX := Lib.hid hx
        have HGG := Lib.hid hg
        have HLy := Lib.hid (Nat.le_trans (oneL_le sx) HLx.out)
        rw [hx] at HLy
        have HHx := Lib.hid (Nat.le_trans HH.out HC.out.size)
        have HKW : Hid (wrap64 ((k : Int) + 1) = ((k + 1 : Nat) : Int)) := Lib.hid (by have := HN8.out; unfold wrap64; omega)
        have HM : Hid (k + 1 + g = n) := Lib.hid (by omega)
        have HA1 : Hid (k ≤ 1000) := Lib.hid (by have := HN8.out; omega)
        clear he hg hx hkg HG
        go_wp2_with fail
        refine (fault_eq _ lo hi _ sx 0 HS HE).mono ?_
        rintro e9 w3 ⟨rfl, rfl⟩
        go_wp2_with fail
        refine (take_label.eq _ lo hi _ sx x sy HS HHx HLx HX).mono ?_
        rintro e9 w4 ⟨rfl, q1, c1⟩
        obtain ⟨v', w5, hr, hown, hbel⟩ := appL w4 w.heap.size vv acc x (own_chg HO.out c1 HP.out) (by rw [HA.out]; exact HA1.out) (Nat.le_trans HC.out.size c1.size)
        have HS5 := Lib.hid (SC.below q1 hbel HH.out)
        have HC5 := Lib.hid (Chg.below (HC.out.trans c1) hbel)
        have HO5 := Lib.hid hown
        have HA5 : Hid ((acc ++ [x]).length = k + 1) := Lib.hid (by rw [List.length_append, HA.out]; rfl)
        have HR := Lib.hid hr
        clear q1 c1 hown hbel hr
        unfold lval at *
        go_wp2_with (at_builtin; refine wpList_app_want (.tmp 27) (.tmp 31) 22 (by rfl) (by rfl) _ _ rfl rfl v' w5 (by exact HR.out) ?_)
        go_roundg g
        case measure => omega
        case rel => exact ⟨k + 1, acc ++ [x], sy, _, HM.out, rfl, by first | rfl | (simp; done) | rw [HKW.out], HA5, HO5, HS5, HC5, HLy, HGG⟩
      · have hg := HG.out
        unfold goA at hg
        rw [if_neg he] at hg
        simp only [Prod.mk.injEq] at hg
        obtain ⟨rfl, rfl⟩ := hg
        obtain ⟨x, hx⟩ : ∃ x, sx.e = x := ⟨_, rfl⟩
        have HX := Lib.hid hx
        rw [hx] at he
        clear hx
        go_wp2_with fail
        refine (fault_eq _ lo hi _ sx x HS HX).mono ?_
        rintro e9 w3 ⟨rfl, rfl⟩
        go_wp2
        go_returns
        exact ⟨_, rfl, HO.out, HS.out, HC.out⟩

theorem info3 : (Tryz.prog.info? 3).map (fun i => (i.zero, i.size, i.bytes)) = some (some (.int .i64 0), 1, 8) := by kernel_rfl
def OwnI (w : World) (base : Nat) (v : Value) (l : List Int) : Prop := w.ownsRow base 3 1 v l.length (iv l)
theorem appI (W : World) (base : Nat) (v : Value) (l : List Int) (x : Int) (hown : OwnI W base v l) (hl : l.length ≤ 1000) (hb : base ≤ W.heap.size) :
    ∃ v' w', (Builtin.append_ #[23, 23] 23 #[v, .slice (some ⟨W.heap.size, 0, none⟩) 1 1]).run Tryz.prog (W.alloc (.cells #[.int .i64 x] 3)) = .ok v' w' ∧ OwnI w' base v' (l ++ [x]) ∧ Below base W w' := by
  obtain ⟨i0, hi, hx⟩ := Option.map_eq_some_iff.1 info3
  simp only [Prod.mk.injEq] at hx
  obtain ⟨hz0, hz1, hz2⟩ := hx
  have ho := World.ownsRow.alloc (show W.ownsRow base 3 1 v l.length (iv l) from hown) (.cells #[.int .i64 x] 3)
  have hsz : (W.alloc (.cells #[.int .i64 x] 3)).heap.size = W.heap.size + 1 := by simp
  obtain ⟨v', w', hr, h5, h6, _⟩ := run_append_own (P := Tryz.prog) (W.alloc (.cells #[.int .i64 x] 3)) base 23 23 3 i0 (.int .i64 0) 1 8 Tryz.underlying23 hi hz0 hz1 hz2 rfl (by decide) v l.length (iv l) ho ⟨W.heap.size, 0, none⟩ 1 1 [.int .i64 x] rfl (row_at rfl)
    (fun u hu => by
      simp only [List.mem_cons, List.not_mem_nil, or_false] at hu
      rcases hu with rfl <;> rfl) (by unfold maxLen; omega) (by omega) (by rw [hsz]; omega)
  have hbl : Below base _ w' := below_rows ho h6 (by rw [hsz]; omega)
  exact ⟨v', w', hr, by unfold OwnI; rw [List.length_append, iv_append]; exact h5, ((Below.refl _ _).alloc hb _).trans hbl⟩
set_option maxHeartbeats 1000000 in
theorem all_I : Tall (T := Int) 69 70 OwnI takeP := by
  intro w lo hi p s h hh hl
  have hn8 := num1_lt s
  obtain ⟨⟨n, s1⟩, h1⟩ : ∃ q, s.num 1 = q := ⟨_, rfl⟩
  have hl1 := num_le s 1
  rw [h1] at hl1 hn8
  have ht : takeP s = ((n : Int), s1) := by unfold takeP; rw [h1]
  obtain ⟨s2, h2⟩ : ∃ q, s1.rule (decide ((n : Int) ≤ 8)) 2 = q := ⟨_, rfl⟩
  have hl2 := rule_le s1 (decide ((n : Int) ≤ 8)) 2
  rw [h2] at hl2
  obtain ⟨⟨R, s3⟩, h3⟩ : ∃ q, goA takeP n [] s2 = q := ⟨_, rfl⟩
  have hT : allP takeP s = (R, s3) := by unfold allP; simp only [h1, h2, h3]
  rw [hT]
  have HS0 := Lib.hid h
  have HH := Lib.hid hh
  have HL := Lib.hid hl
  have HL2 := Lib.hid (Nat.le_trans hl2 (Nat.le_trans hl1 hl))
  have H1 := Lib.hid ht
  have H2 := Lib.hid h2
  have H3 := Lib.hid h3
  have HN8 := Lib.hid hn8
  have HP := Lib.hid (fun b hb => Nat.lt_of_lt_of_le (blk_lt h b hb) hh)
  clear h hh hl hl1 hl2 h1 h2 h3 hT ht hn8
  go_enter Tryz.func69, Tryz.ntmps69
  go_wp2_with fail
  refine (take_one.eq _ lo hi _ s n s1 HS0 HH HL H1).mono ?_
  rintro e9 w1 ⟨rfl, q1, c1⟩
  have HS1 := Lib.hid q1
  have C1 := Lib.hid c1
  clear q1 c1
  go_wp2_with fail
  refine (rule_eq _ lo hi _ s1 s2 _ _ HS1 H2).mono ?_
  rintro e9 w2 ⟨rfl, q1, c1⟩
  have HS2 := Lib.hid q1
  have C2 := Lib.hid (C1.out.trans c1)
  clear q1 c1
  go_wp2
  go_loopg [8, 9] n (fun g s8 s9 wx => ∃ (k : Nat) (acc : List Int) (sx : Sc) (vv : Value), k + g = n ∧ vv = s8 ∧ s9 = .int .i64 k ∧ Hid (acc.length = k) ∧ Hid (OwnI wx w.heap.size s8 acc) ∧ Hid (SC wx lo hi p sx) ∧ Hid (Chg p w wx) ∧ Hid (sx.l.length ≤ 140737488355328) ∧ Hid (goA takeP g acc sx = (R, s3)))
  case atStart => exact ⟨0, [], s2, _, by omega, rfl, rfl, Lib.hid rfl, Lib.hid (World.ownsRow_nil _ _ _ _), HS2, C2, HL2, H3⟩
  case round =>
    clear HS0 HS1 HS2 C1 C2 H1 H2 H3 HL HL2
    obtain ⟨k, acc, sx, vv, hkg, rfl, rfl, HA, HO, HS, HC, HLx, HG⟩ := hrel
    cases gk with
    | zero =>
      have hkz : ¬ ((k : Int) < (n : Int)) := by omega
      have hg := HG.out
      unfold goA at hg
      simp only [Prod.mk.injEq] at hg
      obtain ⟨rfl, rfl⟩ := hg
      go_wp2
      go_returns
      exact ⟨_, rfl, HO.out, HS.out, HC.out⟩
    | succ g =>
      have hkz : (k : Int) < (n : Int) := by omega
      by_cases he : sx.e = 0
      · have hg := HG.out
        unfold goA at hg
        rw [if_pos he] at hg
        obtain ⟨⟨x, sy⟩, hx⟩ : ∃ q, takeP sx = q := ⟨_, rfl⟩
        rw [hx] at hg
        have HE := Lib.hid he
        have HX := Lib.hid hx
        have HGG := Lib.hid hg
        have HLy := Lib.hid (Nat.le_trans (takeP_le sx) HLx.out)
        rw [hx] at HLy
        have HHx := Lib.hid (Nat.le_trans HH.out HC.out.size)
        have HKW : Hid (wrap64 ((k : Int) + 1) = ((k + 1 : Nat) : Int)) := Lib.hid (by have := HN8.out; unfold wrap64; omega)
        have HM : Hid (k + 1 + g = n) := Lib.hid (by omega)
        have HA1 : Hid (k ≤ 1000) := Lib.hid (by have := HN8.out; omega)
        clear he hg hx hkg HG
        go_wp2_with fail
        refine (fault_eq _ lo hi _ sx 0 HS HE).mono ?_
        rintro e9 w3 ⟨rfl, rfl⟩
        go_wp2_with fail
        refine (take_one.eq _ lo hi _ sx x sy HS HHx HLx HX).mono ?_
        rintro e9 w4 ⟨rfl, q1, c1⟩
        obtain ⟨v', w5, hr, hown, hbel⟩ := appI w4 w.heap.size vv acc x (own_chg HO.out c1 HP.out) (by rw [HA.out]; exact HA1.out) (Nat.le_trans HC.out.size c1.size)
        have HS5 := Lib.hid (SC.below q1 hbel HH.out)
        have HC5 := Lib.hid (Chg.below (HC.out.trans c1) hbel)
        have HO5 := Lib.hid hown
        have HA5 : Hid ((acc ++ [x]).length = k + 1) := Lib.hid (by rw [List.length_append, HA.out]; rfl)
        have HR := Lib.hid hr
        clear q1 c1 hown hbel hr
        go_wp2_with (at_builtin; refine wpList_app_want (.tmp 27) (.tmp 31) 23 (by rfl) (by rfl) _ _ rfl rfl v' w5 (by exact HR.out) ?_)
        go_roundg g
        case measure => omega
        case rel => exact ⟨k + 1, acc ++ [x], sy, _, HM.out, rfl, by first | rfl | (simp; done) | rw [HKW.out], HA5, HO5, HS5, HC5, HLy, HGG⟩
      · have hg := HG.out
        unfold goA at hg
        rw [if_neg he] at hg
        simp only [Prod.mk.injEq] at hg
        obtain ⟨rfl, rfl⟩ := hg
        obtain ⟨x, hx⟩ : ∃ x, sx.e = x := ⟨_, rfl⟩
        have HX := Lib.hid hx
        rw [hx] at he
        clear hx
        go_wp2_with fail
        refine (fault_eq _ lo hi _ sx x HS HX).mono ?_
        rintro e9 w3 ⟨rfl, rfl⟩
        go_wp2
        go_returns
        exact ⟨_, rfl, HO.out, HS.out, HC.out⟩

theorem info88 : (Tryz.prog.info? 88).map (fun i => (i.zero, i.size, i.bytes)) = some (some (.agg #[.string ⟨#[]⟩, .string ⟨#[]⟩, .int .i64 0, .bool false]), 4, 48) := by kernel_rfl
def OwnA (w : World) (base : Nat) (v : Value) (l : List Ac) : Prop := w.ownsRow base 88 4 v l.length (l.flatMap acs)
theorem appA (W : World) (base : Nat) (v : Value) (l : List Ac) (x : Ac) (hown : OwnA W base v l) (hl : l.length ≤ 1000) (hb : base ≤ W.heap.size) :
    ∃ v' w', (Builtin.append_ #[24, 24] 24 #[v, .slice (some ⟨W.heap.size, 0, none⟩) 1 1]).run Tryz.prog (W.alloc (.cells #[.string x.name, .string x.secret, .int .i64 x.lev, .bool x.mints] 88)) = .ok v' w' ∧ OwnA w' base v' (l ++ [x]) ∧ Below base W w' := by
  obtain ⟨i0, hi, hx⟩ := Option.map_eq_some_iff.1 info88
  simp only [Prod.mk.injEq] at hx
  obtain ⟨hz0, hz1, hz2⟩ := hx
  have ho := World.ownsRow.alloc (show W.ownsRow base 88 4 v l.length (l.flatMap acs) from hown) (.cells #[.string x.name, .string x.secret, .int .i64 x.lev, .bool x.mints] 88)
  have hsz : (W.alloc (.cells #[.string x.name, .string x.secret, .int .i64 x.lev, .bool x.mints] 88)).heap.size = W.heap.size + 1 := by simp
  obtain ⟨v', w', hr, h5, h6, _⟩ := run_append_own (P := Tryz.prog) (W.alloc (.cells #[.string x.name, .string x.secret, .int .i64 x.lev, .bool x.mints] 88)) base 24 24 88 i0 (.agg #[.string ⟨#[]⟩, .string ⟨#[]⟩, .int .i64 0, .bool false]) 4 48 Tryz.underlying24 hi hz0 hz1 hz2 rfl (by decide) v l.length (l.flatMap acs) ho ⟨W.heap.size, 0, none⟩ 1 1 [.string x.name, .string x.secret, .int .i64 x.lev, .bool x.mints] rfl (row_at rfl)
    (fun u hu => by
      simp only [List.mem_cons, List.not_mem_nil, or_false] at hu
      rcases hu with rfl | rfl | rfl | rfl <;> rfl) (by unfold maxLen; omega) (by omega) (by rw [hsz]; omega)
  have hbl : Below base _ w' := below_rows ho h6 (by rw [hsz]; omega)
  exact ⟨v', w', hr, by unfold OwnA; rw [List.length_append, List.flatMap_append]; exact h5, ((Below.refl _ _).alloc hb _).trans hbl⟩
set_option maxHeartbeats 1000000 in
theorem all_A : Tall (T := Ac) 71 72 OwnA oneA := by
  intro w lo hi p s h hh hl
  have hn8 := num1_lt s
  obtain ⟨⟨n, s1⟩, h1⟩ : ∃ q, s.num 1 = q := ⟨_, rfl⟩
  have hl1 := num_le s 1
  rw [h1] at hl1 hn8
  have ht : takeP s = ((n : Int), s1) := by unfold takeP; rw [h1]
  obtain ⟨s2, h2⟩ : ∃ q, s1.rule (decide ((n : Int) ≤ 8)) 2 = q := ⟨_, rfl⟩
  have hl2 := rule_le s1 (decide ((n : Int) ≤ 8)) 2
  rw [h2] at hl2
  obtain ⟨⟨R, s3⟩, h3⟩ : ∃ q, goA oneA n [] s2 = q := ⟨_, rfl⟩
  have hT : allP oneA s = (R, s3) := by unfold allP; simp only [h1, h2, h3]
  rw [hT]
  have HS0 := Lib.hid h
  have HH := Lib.hid hh
  have HL := Lib.hid hl
  have HL2 := Lib.hid (Nat.le_trans hl2 (Nat.le_trans hl1 hl))
  have H1 := Lib.hid ht
  have H2 := Lib.hid h2
  have H3 := Lib.hid h3
  have HN8 := Lib.hid hn8
  have HP := Lib.hid (fun b hb => Nat.lt_of_lt_of_le (blk_lt h b hb) hh)
  clear h hh hl hl1 hl2 h1 h2 h3 hT ht hn8
  go_enter Tryz.func71, Tryz.ntmps71
  go_wp2_with fail
  refine (take_one.eq _ lo hi _ s n s1 HS0 HH HL H1).mono ?_
  rintro e9 w1 ⟨rfl, q1, c1⟩
  have HS1 := Lib.hid q1
  have C1 := Lib.hid c1
  clear q1 c1
  go_wp2_with fail
  refine (rule_eq _ lo hi _ s1 s2 _ _ HS1 H2).mono ?_
  rintro e9 w2 ⟨rfl, q1, c1⟩
  have HS2 := Lib.hid q1
  have C2 := Lib.hid (C1.out.trans c1)
  clear q1 c1
  go_wp2
  go_loopg [8, 9] n (fun g s8 s9 wx => ∃ (k : Nat) (acc : List Ac) (sx : Sc) (vv : Value), k + g = n ∧ vv = s8 ∧ s9 = .int .i64 k ∧ Hid (acc.length = k) ∧ Hid (OwnA wx w.heap.size s8 acc) ∧ Hid (SC wx lo hi p sx) ∧ Hid (Chg p w wx) ∧ Hid (sx.l.length ≤ 140737488355328) ∧ Hid (goA oneA g acc sx = (R, s3)))
  case atStart => exact ⟨0, [], s2, _, by omega, rfl, rfl, Lib.hid rfl, Lib.hid (World.ownsRow_nil _ _ _ _), HS2, C2, HL2, H3⟩
  case round =>
    clear HS0 HS1 HS2 C1 C2 H1 H2 H3 HL HL2
    obtain ⟨k, acc, sx, vv, hkg, rfl, rfl, HA, HO, HS, HC, HLx, HG⟩ := hrel
    cases gk with
    | zero =>
      have hkz : ¬ ((k : Int) < (n : Int)) := by omega
      have hg := HG.out
      unfold goA at hg
      simp only [Prod.mk.injEq] at hg
      obtain ⟨rfl, rfl⟩ := hg
      go_wp2
      go_returns
      exact ⟨_, rfl, HO.out, HS.out, HC.out⟩
    | succ g =>
      have hkz : (k : Int) < (n : Int) := by omega
      by_cases he : sx.e = 0
      · have hg := HG.out
        unfold goA at hg
        rw [if_pos he] at hg
        obtain ⟨⟨x, sy⟩, hx⟩ : ∃ q, oneA sx = q := ⟨_, rfl⟩
        rw [hx] at hg
        have HE := Lib.hid he
        have HX := Lib.hid hx
        have HGG := Lib.hid hg
        have HLy := Lib.hid (Nat.le_trans (oneA_le sx) HLx.out)
        rw [hx] at HLy
        have HHx := Lib.hid (Nat.le_trans HH.out HC.out.size)
        have HKW : Hid (wrap64 ((k : Int) + 1) = ((k + 1 : Nat) : Int)) := Lib.hid (by have := HN8.out; unfold wrap64; omega)
        have HM : Hid (k + 1 + g = n) := Lib.hid (by omega)
        have HA1 : Hid (k ≤ 1000) := Lib.hid (by have := HN8.out; omega)
        clear he hg hx hkg HG
        go_wp2_with fail
        refine (fault_eq _ lo hi _ sx 0 HS HE).mono ?_
        rintro e9 w3 ⟨rfl, rfl⟩
        go_wp2_with fail
        refine (take_account.eq _ lo hi _ sx x sy HS HHx HLx HX).mono ?_
        rintro e9 w4 ⟨rfl, q1, c1⟩
        obtain ⟨v', w5, hr, hown, hbel⟩ := appA w4 w.heap.size vv acc x (own_chg HO.out c1 HP.out) (by rw [HA.out]; exact HA1.out) (Nat.le_trans HC.out.size c1.size)
        have HS5 := Lib.hid (SC.below q1 hbel HH.out)
        have HC5 := Lib.hid (Chg.below (HC.out.trans c1) hbel)
        have HO5 := Lib.hid hown
        have HA5 : Hid ((acc ++ [x]).length = k + 1) := Lib.hid (by rw [List.length_append, HA.out]; rfl)
        have HR := Lib.hid hr
        clear q1 c1 hown hbel hr
        unfold aval at *
        go_wp2_with (at_builtin; refine wpList_app_want (.tmp 27) (.tmp 31) 24 (by rfl) (by rfl) _ _ rfl rfl v' w5 (by exact HR.out) ?_)
        go_roundg g
        case measure => omega
        case rel => exact ⟨k + 1, acc ++ [x], sy, _, HM.out, rfl, by first | rfl | (simp; done) | rw [HKW.out], HA5, HO5, HS5, HC5, HLy, HGG⟩
      · have hg := HG.out
        unfold goA at hg
        rw [if_neg he] at hg
        simp only [Prod.mk.injEq] at hg
        obtain ⟨rfl, rfl⟩ := hg
        obtain ⟨x, hx⟩ : ∃ x, sx.e = x := ⟨_, rfl⟩
        have HX := Lib.hid hx
        rw [hx] at he
        clear hx
        go_wp2_with fail
        refine (fault_eq _ lo hi _ sx x HS HX).mono ?_
        rintro e9 w3 ⟨rfl, rfl⟩
        go_wp2
        go_returns
        exact ⟨_, rfl, HO.out, HS.out, HC.out⟩

theorem info52 : (Tryz.prog.info? 52).map (fun i => (i.zero, i.size, i.bytes)) = some (some (.agg #[.int .i64 0, .int .i64 0]), 2, 16) := by kernel_rfl
def OwnG (w : World) (base : Nat) (v : Value) (l : List Gu) : Prop := w.ownsRow base 52 2 v l.length (l.flatMap gcs)
theorem appG (W : World) (base : Nat) (v : Value) (l : List Gu) (x : Gu) (hown : OwnG W base v l) (hl : l.length ≤ 1000) (hb : base ≤ W.heap.size) :
    ∃ v' w', (Builtin.append_ #[25, 25] 25 #[v, .slice (some ⟨W.heap.size, 0, none⟩) 1 1]).run Tryz.prog (W.alloc (.cells #[.int .i64 x.bit, .int .i64 x.founder] 52)) = .ok v' w' ∧ OwnG w' base v' (l ++ [x]) ∧ Below base W w' := by
  obtain ⟨i0, hi, hx⟩ := Option.map_eq_some_iff.1 info52
  simp only [Prod.mk.injEq] at hx
  obtain ⟨hz0, hz1, hz2⟩ := hx
  have ho := World.ownsRow.alloc (show W.ownsRow base 52 2 v l.length (l.flatMap gcs) from hown) (.cells #[.int .i64 x.bit, .int .i64 x.founder] 52)
  have hsz : (W.alloc (.cells #[.int .i64 x.bit, .int .i64 x.founder] 52)).heap.size = W.heap.size + 1 := by simp
  obtain ⟨v', w', hr, h5, h6, _⟩ := run_append_own (P := Tryz.prog) (W.alloc (.cells #[.int .i64 x.bit, .int .i64 x.founder] 52)) base 25 25 52 i0 (.agg #[.int .i64 0, .int .i64 0]) 2 16 Tryz.underlying25 hi hz0 hz1 hz2 rfl (by decide) v l.length (l.flatMap gcs) ho ⟨W.heap.size, 0, none⟩ 1 1 [.int .i64 x.bit, .int .i64 x.founder] rfl (row_at rfl)
    (fun u hu => by
      simp only [List.mem_cons, List.not_mem_nil, or_false] at hu
      rcases hu with rfl | rfl <;> rfl) (by unfold maxLen; omega) (by omega) (by rw [hsz]; omega)
  have hbl : Below base _ w' := below_rows ho h6 (by rw [hsz]; omega)
  exact ⟨v', w', hr, by unfold OwnG; rw [List.length_append, List.flatMap_append]; exact h5, ((Below.refl _ _).alloc hb _).trans hbl⟩
set_option maxHeartbeats 1000000 in
theorem all_G : Tall (T := Gu) 73 74 OwnG oneG := by
  intro w lo hi p s h hh hl
  have hn8 := num1_lt s
  obtain ⟨⟨n, s1⟩, h1⟩ : ∃ q, s.num 1 = q := ⟨_, rfl⟩
  have hl1 := num_le s 1
  rw [h1] at hl1 hn8
  have ht : takeP s = ((n : Int), s1) := by unfold takeP; rw [h1]
  obtain ⟨s2, h2⟩ : ∃ q, s1.rule (decide ((n : Int) ≤ 8)) 2 = q := ⟨_, rfl⟩
  have hl2 := rule_le s1 (decide ((n : Int) ≤ 8)) 2
  rw [h2] at hl2
  obtain ⟨⟨R, s3⟩, h3⟩ : ∃ q, goA oneG n [] s2 = q := ⟨_, rfl⟩
  have hT : allP oneG s = (R, s3) := by unfold allP; simp only [h1, h2, h3]
  rw [hT]
  have HS0 := Lib.hid h
  have HH := Lib.hid hh
  have HL := Lib.hid hl
  have HL2 := Lib.hid (Nat.le_trans hl2 (Nat.le_trans hl1 hl))
  have H1 := Lib.hid ht
  have H2 := Lib.hid h2
  have H3 := Lib.hid h3
  have HN8 := Lib.hid hn8
  have HP := Lib.hid (fun b hb => Nat.lt_of_lt_of_le (blk_lt h b hb) hh)
  clear h hh hl hl1 hl2 h1 h2 h3 hT ht hn8
  go_enter Tryz.func73, Tryz.ntmps73
  go_wp2_with fail
  refine (take_one.eq _ lo hi _ s n s1 HS0 HH HL H1).mono ?_
  rintro e9 w1 ⟨rfl, q1, c1⟩
  have HS1 := Lib.hid q1
  have C1 := Lib.hid c1
  clear q1 c1
  go_wp2_with fail
  refine (rule_eq _ lo hi _ s1 s2 _ _ HS1 H2).mono ?_
  rintro e9 w2 ⟨rfl, q1, c1⟩
  have HS2 := Lib.hid q1
  have C2 := Lib.hid (C1.out.trans c1)
  clear q1 c1
  go_wp2
  go_loopg [8, 9] n (fun g s8 s9 wx => ∃ (k : Nat) (acc : List Gu) (sx : Sc) (vv : Value), k + g = n ∧ vv = s8 ∧ s9 = .int .i64 k ∧ Hid (acc.length = k) ∧ Hid (OwnG wx w.heap.size s8 acc) ∧ Hid (SC wx lo hi p sx) ∧ Hid (Chg p w wx) ∧ Hid (sx.l.length ≤ 140737488355328) ∧ Hid (goA oneG g acc sx = (R, s3)))
  case atStart => exact ⟨0, [], s2, _, by omega, rfl, rfl, Lib.hid rfl, Lib.hid (World.ownsRow_nil _ _ _ _), HS2, C2, HL2, H3⟩
  case round =>
    clear HS0 HS1 HS2 C1 C2 H1 H2 H3 HL HL2
    obtain ⟨k, acc, sx, vv, hkg, rfl, rfl, HA, HO, HS, HC, HLx, HG⟩ := hrel
    cases gk with
    | zero =>
      have hkz : ¬ ((k : Int) < (n : Int)) := by omega
      have hg := HG.out
      unfold goA at hg
      simp only [Prod.mk.injEq] at hg
      obtain ⟨rfl, rfl⟩ := hg
      go_wp2
      go_returns
      exact ⟨_, rfl, HO.out, HS.out, HC.out⟩
    | succ g =>
      have hkz : (k : Int) < (n : Int) := by omega
      by_cases he : sx.e = 0
      · have hg := HG.out
        unfold goA at hg
        rw [if_pos he] at hg
        obtain ⟨⟨x, sy⟩, hx⟩ : ∃ q, oneG sx = q := ⟨_, rfl⟩
        rw [hx] at hg
        have HE := Lib.hid he
        have HX := Lib.hid hx
        have HGG := Lib.hid hg
        have HLy := Lib.hid (Nat.le_trans (oneG_le sx) HLx.out)
        rw [hx] at HLy
        have HHx := Lib.hid (Nat.le_trans HH.out HC.out.size)
        have HKW : Hid (wrap64 ((k : Int) + 1) = ((k + 1 : Nat) : Int)) := Lib.hid (by have := HN8.out; unfold wrap64; omega)
        have HM : Hid (k + 1 + g = n) := Lib.hid (by omega)
        have HA1 : Hid (k ≤ 1000) := Lib.hid (by have := HN8.out; omega)
        clear he hg hx hkg HG
        go_wp2_with fail
        refine (fault_eq _ lo hi _ sx 0 HS HE).mono ?_
        rintro e9 w3 ⟨rfl, rfl⟩
        go_wp2_with fail
        refine (take_guild.eq _ lo hi _ sx x sy HS HHx HLx HX).mono ?_
        rintro e9 w4 ⟨rfl, q1, c1⟩
        obtain ⟨v', w5, hr, hown, hbel⟩ := appG w4 w.heap.size vv acc x (own_chg HO.out c1 HP.out) (by rw [HA.out]; exact HA1.out) (Nat.le_trans HC.out.size c1.size)
        have HS5 := Lib.hid (SC.below q1 hbel HH.out)
        have HC5 := Lib.hid (Chg.below (HC.out.trans c1) hbel)
        have HO5 := Lib.hid hown
        have HA5 : Hid ((acc ++ [x]).length = k + 1) := Lib.hid (by rw [List.length_append, HA.out]; rfl)
        have HR := Lib.hid hr
        clear q1 c1 hown hbel hr
        unfold gval at *
        go_wp2_with (at_builtin; refine wpList_app_want (.tmp 27) (.tmp 31) 25 (by rfl) (by rfl) _ _ rfl rfl v' w5 (by exact HR.out) ?_)
        go_roundg g
        case measure => omega
        case rel => exact ⟨k + 1, acc ++ [x], sy, _, HM.out, rfl, by first | rfl | (simp; done) | rw [HKW.out], HA5, HO5, HS5, HC5, HLy, HGG⟩
      · have hg := HG.out
        unfold goA at hg
        rw [if_neg he] at hg
        simp only [Prod.mk.injEq] at hg
        obtain ⟨rfl, rfl⟩ := hg
        obtain ⟨x, hx⟩ : ∃ x, sx.e = x := ⟨_, rfl⟩
        have HX := Lib.hid hx
        rw [hx] at he
        clear hx
        go_wp2_with fail
        refine (fault_eq _ lo hi _ sx x HS HX).mono ?_
        rintro e9 w3 ⟨rfl, rfl⟩
        go_wp2
        go_returns
        exact ⟨_, rfl, HO.out, HS.out, HC.out⟩
end Go.Proofs.YtmegdgeiikhflaaGreat.CC
