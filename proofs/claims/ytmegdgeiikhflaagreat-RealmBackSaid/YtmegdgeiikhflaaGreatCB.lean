/-
  A label and an account taken off a scan.
  Conditions: those that each lemma names.
-/
import Derived.Test.YtmegdgeiikhflaaGreatBE
import Derived.Test.YtmegdgeiikhflaaGreatNums
import Derived.Test.YtmegdgeiikhflaaGreatLBytes
namespace Go.Proofs.YtmegdgeiikhflaaGreat.CA
set_option maxRecDepth 100000
open Go Go.RowKit Go.Lib Go.Proofs.YtmegdgeiikhflaaGreat Go.Proofs.YtmegdgeiikhflaaGreat.Facts Go.Proofs.YtmegdgeiikhflaaGreat.Bytes Go.Proofs.YtmegdgeiikhflaaGreat.Plain Go.Proofs.YtmegdgeiikhflaaGreat.Ints Go.Proofs.YtmegdgeiikhflaaGreat.LBox Go.Proofs.YtmegdgeiikhflaaGreat.RRows Go.Proofs.YtmegdgeiikhflaaGreat.Puts Go.Proofs.YtmegdgeiikhflaaGreat.Scan Go.Proofs.YtmegdgeiikhflaaGreat.Take Go.Proofs.YtmegdgeiikhflaaGreat.Nums Go.Proofs.YtmegdgeiikhflaaGreat.BA Go.Proofs.YtmegdgeiikhflaaGreat.BB Go.Proofs.YtmegdgeiikhflaaGreat.BC Go.Proofs.YtmegdgeiikhflaaGreat.BD


/-- What a function that takes one thing answers. -/
def Ton {T : Type} (f : FuncId) (val : T → Value) (one : Sc → T × Sc) : Prop :=
  ∀ (w : World) (lo hi : Nat) (p : Value) (s : Sc), SC w lo hi p s → hi ≤ w.heap.size → s.l.length ≤ 140737488355328 →
    Calls Tryz.prog f #[p] w fun e w' => e = .returned (val (one s).1) ∧ SC w' lo hi p (one s).2 ∧ Chg p w w'
theorem Ton.eq {T : Type} {f : FuncId} {val : T → Value} {one : Sc → T × Sc} (h : Ton f val one) (w : World) (lo hi : Nat) (p : Value) (s : Sc) (x : T) (s1 : Sc)
    (hs : Hid (SC w lo hi p s)) (hh : Hid (hi ≤ w.heap.size)) (hl : Hid (s.l.length ≤ 140737488355328)) (ho : Hid (one s = (x, s1))) :
    Calls Tryz.prog f #[p] w fun e w' => e = .returned (val x) ∧ SC w' lo hi p s1 ∧ Chg p w w' := by
  have := h w lo hi p s hs.out hh.out hl.out
  rwa [ho.out] at this

theorem take_le (s : Sc) (n : Nat) : (s.take n).2.l.length ≤ s.l.length := by
  unfold Sc.take
  split
  · split <;> simp
  · exact Nat.le_refl _
theorem rule_le (s : Sc) (b : Bool) (x : Int) : (s.rule b x).l.length ≤ s.l.length := by
  unfold Sc.rule
  split <;> exact Nat.le_refl _
theorem num_le (s : Sc) (n : Nat) : (s.num n).2.l.length ≤ s.l.length := take_le s n
theorem text_le (s : Sc) (n : Int) : (s.text n).2.l.length ≤ s.l.length := by
  unfold Sc.text
  exact Nat.le_trans (take_le _ _) (Nat.le_trans (rule_le _ _ _) (num_le _ _))
theorem num1_lt (s : Sc) : (s.num 1).1 < 256 := by
  have h1 := take_len s 1
  have h2 := val_lt (s.take 1).1 1
  rw [List.take_of_length_le h1] at h2
  exact h2
theorem blk_lt {w : World} {lo hi : Nat} {p : Value} {s : Sc} (h : SC w lo hi p s) (b : Nat) (hb : blk p = some b) : b < hi := by
  rcases h with ⟨g, rfl, h⟩ | ⟨rfl | ⟨g, v, x, rfl, h1, h2, h3, hg⟩, rfl⟩
  · cases hb; exact h.2.1
  · cases hb
  · cases hb; exact h2
theorem keepC {w w' : World} {lo hi B : Nat} {p : Value} {s : Sc} {o : Obj} (h : SC w lo hi p s) (hB : hi ≤ B) (hr : w.heap[B]? = some o) (hc : Chg p w w') : w'.heap[B]? = some o := by
  refine (hc.block B (Array.getElem?_eq_some_iff.1 hr).1 fun e => ?_).trans hr
  have := blk_lt h B e.symm
  omega
theorem SC.set {w : World} {lo hi B i : Nat} {p x : Value} {s : Sc} (h : SC w lo hi p s) (hB : hi ≤ B) : SC (w.setCell ⟨B, i, none⟩ x) lo hi p s :=
  h.keep (by simp [World.setCell]) fun b _ hb => heap_setCell_other w ⟨B, i, none⟩ b x (by intro e; simp only at e; omega)
theorem Chg.new {p x : Value} {w W : World} {B i : Nat} (h : Chg p w W) (hB : w.heap.size ≤ B) : Chg p w (W.setCell ⟨B, i, none⟩ x) :=
  ⟨h.os, h.tape, h.output, Nat.le_trans h.size (by simp [World.setCell]), fun k hk hne => (heap_setCell_other W ⟨B, i, none⟩ k x (by intro e; simp only at e; omega)).trans (h.block k hk hne)⟩

theorem frz {W : World} {B t k : Nat} {xs : Array Value} (h : W.heap[B]? = some (.cells xs t (0, 0))) : W.frozen? ⟨B, k, none⟩ = false := by
  unfold World.frozen?
  simp [h]
def takeP (s : Sc) : Int × Sc := (((s.num 1).1 : Int), (s.num 1).2)
/-- A number of one byte. -/
theorem take_one : Ton (T := Int) 70 (Value.int .i64) takeP := by
  intro w lo hi p s h _ _
  have hlt := num1_lt s
  unfold takeP
  obtain ⟨⟨n, s1⟩, hn⟩ : ∃ q, s.num (width 1) = q := ⟨_, rfl⟩
  have e1 : s.num 1 = (n, s1) := hn
  rw [e1] at hlt ⊢
  simp only at hlt ⊢
  have H := Lib.hid h
  have HN := Lib.hid hn
  clear h hn e1
  go_enter Tryz.func70, Tryz.ntmps70
  go_wp2_with (go_at_call 138; refine (num_eq _ lo hi _ s 1 n s1 H HN).mono ?_; rintro e w1 ⟨rfl, h1, c1⟩)
  have H1 := Lib.hid h1
  have C1 := Lib.hid c1
  clear h1 c1
  go_ret
  exact ⟨rfl, H1.out, C1.out⟩

def oneG (s : Sc) : Gu × Sc := (⟨(takeP s).1, (takeP (takeP s).2).1⟩, (takeP (takeP s).2).2)
theorem two_c {W : World} {B t : Nat} {a b : Value} (h : W.heap[B]? = some (.cells #[a, b] t (0, 0))) : W.cell? ⟨B, 0, none⟩ = some a ∧ W.cell? ⟨B, 1, none⟩ = some b := by
  refine ⟨?_, ?_⟩
  all_goals rw [cell_of_row _ _ _ _ _ _ h]; rfl
theorem takeP_le (s : Sc) : (takeP s).2.l.length ≤ s.l.length := num_le s 1
/-- A guild. -/
theorem take_guild : Ton (T := Gu) 74 gval oneG := by
  intro w lo hi p s h hh hl
  obtain ⟨⟨a, s1⟩, h1⟩ : ∃ q, takeP s = q := ⟨_, rfl⟩
  obtain ⟨⟨b, s2⟩, h2⟩ : ∃ q, takeP s1 = q := ⟨_, rfl⟩
  have hT : oneG s = (⟨a, b⟩, s2) := by simp only [oneG, h1, h2]
  have hl1 := takeP_le s
  rw [h1] at hl1
  rw [hT]
  unfold gval
  have g0 : Grew w (w.alloc (.cells #[.int .i64 0, .int .i64 0] 52)) := by unfold Grew; go_grown
  have B0 := Lib.hid (heap_alloc_new w (.cells #[.int .i64 0, .int .i64 0] 52))
  have HS0 := Lib.hid (h.grew g0)
  have HH := Lib.hid hh
  have HH0 := Lib.hid (Nat.le_trans hh g0.size)
  have HL := Lib.hid hl
  have HL1 := Lib.hid (Nat.le_trans hl1 hl)
  have H1 := Lib.hid h1
  have H2 := Lib.hid h2
  have C0 := Lib.hid (Chg.of_grew (p := p) g0)
  clear h hh hl hl1 h1 h2 hT g0
  go_enter Tryz.func74, Tryz.ntmps74
  go_wp2_with fail
  refine (take_one.eq _ lo hi _ s a s1 HS0 HH0 HL H1).mono ?_
  rintro e w1 ⟨rfl, q1, c1⟩
  have HS1 := Lib.hid q1
  have C1 := Lib.hid (C0.out.trans c1)
  have HH1 := Lib.hid (Nat.le_trans HH0.out c1.size)
  have B1 := Lib.hid (keepC HS0.out HH.out B0.out c1)
  clear q1 c1
  go_wp2_with fail
  refine (take_one.eq _ lo hi _ s1 b s2 HS1 HH1 HL1 H2).mono ?_
  rintro e w2 ⟨rfl, q1, c1⟩
  have HS2 := Lib.hid q1
  have C2 := Lib.hid (C1.out.trans c1)
  have B2 := Lib.hid (keepC HS1.out HH.out B1.out c1)
  clear q1 c1
  obtain ⟨c0, c1⟩ := two_c B2.out
  have f0 := frz (k := 0) B2.out
  have f1 := frz (k := 1) B2.out
  have e0 : ∀ x, (w2.setCell ⟨w.heap.size, 0, none⟩ x).cell? ⟨w.heap.size, 0, none⟩ = some x := fun x => World.cell?_setCell_same _ _ _ c0
  have e1 : ∀ x y, ((w2.setCell ⟨w.heap.size, 0, none⟩ x).setCell ⟨w.heap.size, 1, none⟩ y).cell? ⟨w.heap.size, 1, none⟩ = some y := fun x y => World.cell?_setCell_same _ _ _ (by rw [World.cell?_setCell_other]; exact c1; simp)
  go_wp2
  refine bodyPost_ret (by simp [results, Tryz.results74, go_sem, e0, e1]; try rfl) rfl ?_
  exact ⟨by first | rfl | (simp; done), SC.set (SC.set HS2.out HH.out) HH.out, Chg.new (Chg.new C2.out (Nat.le_refl _)) (Nat.le_refl _)⟩

def oneQ (s : Sc) : Qu × Sc :=
  let a := takeP s
  let b := takeP a.2
  let c := takeP b.2
  let d := takeP c.2
  let e := takeP d.2
  let f := e.2.num 8
  (⟨a.1, b.1, c.1, d.1, e.1, BitVec.ofNat 64 f.1⟩, f.2)
def qval (q : Qu) : Value := .agg #[.int .i64 q.rooms, .int .i64 q.exits, .int .i64 q.items, .int .i64 q.mails, .int .i64 q.trades, .int .u64 (q.cap.toNat : Int)]
theorem num8_lt (s : Sc) : (s.num 8).1 < 2 ^ 64 := by
  have h1 := take_len s 8
  have h2 := val_lt (s.take 8).1 8
  rw [List.take_of_length_le h1] at h2
  exact h2
/-- A quota. -/
theorem take_quota : Ton (T := Qu) 75 qval oneQ := by
  intro w lo hi p s h hh hl
  obtain ⟨⟨a, s1⟩, h1⟩ : ∃ q, takeP s = q := ⟨_, rfl⟩
  have hl1 := takeP_le s
  rw [h1] at hl1
  obtain ⟨⟨b, s2⟩, h2⟩ : ∃ q, takeP s1 = q := ⟨_, rfl⟩
  have hl2 := takeP_le s1
  rw [h2] at hl2
  obtain ⟨⟨c, s3⟩, h3⟩ : ∃ q, takeP s2 = q := ⟨_, rfl⟩
  have hl3 := takeP_le s2
  rw [h3] at hl3
  obtain ⟨⟨d, s4⟩, h4⟩ : ∃ q, takeP s3 = q := ⟨_, rfl⟩
  have hl4 := takeP_le s3
  rw [h4] at hl4
  obtain ⟨⟨e, s5⟩, h5⟩ : ∃ q, takeP s4 = q := ⟨_, rfl⟩
  have hl5 := takeP_le s4
  rw [h5] at hl5
  have hlt := num8_lt s5
  obtain ⟨⟨f, s6⟩, h6⟩ : ∃ q, s5.num (width 8) = q := ⟨_, rfl⟩
  have h68 : s5.num 8 = (f, s6) := h6
  rw [h68] at hlt
  have hT : oneQ s = (⟨a, b, c, d, e, BitVec.ofNat 64 f⟩, s6) := by simp only [oneQ, h1, h2, h3, h4, h5, h68]
  have hcap : ((BitVec.ofNat 64 f).toNat : Int) = (f : Int) := by
    rw [BitVec.toNat_ofNat, Nat.mod_eq_of_lt hlt]
  rw [hT]
  unfold qval
  simp only [hcap]
  have g0 : Grew w (w.alloc (.cells #[.int .i64 0, .int .i64 0, .int .i64 0, .int .i64 0, .int .i64 0, .int .u64 0] 100)) := by unfold Grew; go_grown
  have B0 := Lib.hid (heap_alloc_new w (.cells #[.int .i64 0, .int .i64 0, .int .i64 0, .int .i64 0, .int .i64 0, .int .u64 0] 100))
  have HS0 := Lib.hid (h.grew g0)
  have HH := Lib.hid hh
  have HH0 := Lib.hid (Nat.le_trans hh g0.size)
  have HL := Lib.hid hl
  have k1 := Nat.le_trans hl1 hl
  have HL1 := Lib.hid k1
  have H1 := Lib.hid h1
  have k2 := Nat.le_trans hl2 k1
  have HL2 := Lib.hid k2
  have H2 := Lib.hid h2
  have k3 := Nat.le_trans hl3 k2
  have HL3 := Lib.hid k3
  have H3 := Lib.hid h3
  have k4 := Nat.le_trans hl4 k3
  have HL4 := Lib.hid k4
  have H4 := Lib.hid h4
  have k5 := Nat.le_trans hl5 k4
  have HL5 := Lib.hid k5
  have H5 := Lib.hid h5
  have H6 := Lib.hid h6
  have C0 := Lib.hid (Chg.of_grew (p := p) g0)
  clear h hh hl hl1 hl2 hl3 hl4 hl5 k1 k2 k3 k4 k5 h1 h2 h3 h4 h5 h6 h68 hT g0 hcap hlt
  go_enter Tryz.func75, Tryz.ntmps75
  go_wp2_with fail
  refine (take_one.eq _ lo hi _ s a s1 HS0 HH0 HL H1).mono ?_
  rintro e9 w1 ⟨rfl, q1, c1⟩
  have HS1 := Lib.hid q1
  have C1 := Lib.hid (C0.out.trans c1)
  have HH1 := Lib.hid (Nat.le_trans HH0.out c1.size)
  have B1 := Lib.hid (keepC HS0.out HH.out B0.out c1)
  clear q1 c1
  go_wp2_with fail
  refine (take_one.eq _ lo hi _ s1 b s2 HS1 HH1 HL1 H2).mono ?_
  rintro e9 w2 ⟨rfl, q1, c1⟩
  have HS2 := Lib.hid q1
  have C2 := Lib.hid (C1.out.trans c1)
  have HH2 := Lib.hid (Nat.le_trans HH1.out c1.size)
  have B2 := Lib.hid (keepC HS1.out HH.out B1.out c1)
  clear q1 c1
  go_wp2_with fail
  refine (take_one.eq _ lo hi _ s2 c s3 HS2 HH2 HL2 H3).mono ?_
  rintro e9 w3 ⟨rfl, q1, c1⟩
  have HS3 := Lib.hid q1
  have C3 := Lib.hid (C2.out.trans c1)
  have HH3 := Lib.hid (Nat.le_trans HH2.out c1.size)
  have B3 := Lib.hid (keepC HS2.out HH.out B2.out c1)
  clear q1 c1
  go_wp2_with fail
  refine (take_one.eq _ lo hi _ s3 d s4 HS3 HH3 HL3 H4).mono ?_
  rintro e9 w4 ⟨rfl, q1, c1⟩
  have HS4 := Lib.hid q1
  have C4 := Lib.hid (C3.out.trans c1)
  have HH4 := Lib.hid (Nat.le_trans HH3.out c1.size)
  have B4 := Lib.hid (keepC HS3.out HH.out B3.out c1)
  clear q1 c1
  go_wp2_with fail
  refine (take_one.eq _ lo hi _ s4 e s5 HS4 HH4 HL4 H5).mono ?_
  rintro e9 w5 ⟨rfl, q1, c1⟩
  have HS5 := Lib.hid q1
  have C5 := Lib.hid (C4.out.trans c1)
  have HH5 := Lib.hid (Nat.le_trans HH4.out c1.size)
  have B5 := Lib.hid (keepC HS4.out HH.out B4.out c1)
  clear q1 c1
  go_wp2_with fail
  refine (num_eq _ lo hi _ s5 8 f s6 HS5 H6).mono ?_
  rintro e9 w6 ⟨rfl, q1, c1⟩
  have HS6 := Lib.hid q1
  have C6 := Lib.hid (C5.out.trans c1)
  have B6 := Lib.hid (keepC HS5.out HH.out B5.out c1)
  clear q1 c1
  obtain ⟨c0, c1, c2, c3, c4, c5⟩ := six_c B6.out
  have f0 := frz (k := 0) B6.out
  have f1 := frz (k := 1) B6.out
  have f2 := frz (k := 2) B6.out
  have f3 := frz (k := 3) B6.out
  have f4 := frz (k := 4) B6.out
  have f5 := frz (k := 5) B6.out
  have e0 : ∀ x0, (w6.setCell ⟨w.heap.size, 0, none⟩ x0).cell? ⟨w.heap.size, 0, none⟩ = some x0 := fun x0 => World.cell?_setCell_same _ _ _ (by exact c0)
  have e1 : ∀ x0 x1, ((w6.setCell ⟨w.heap.size, 0, none⟩ x0).setCell ⟨w.heap.size, 1, none⟩ x1).cell? ⟨w.heap.size, 1, none⟩ = some x1 := fun x0 x1 => World.cell?_setCell_same _ _ _ (by (iterate 1 rw [World.cell?_setCell_other]); exact c1; all_goals simp)
  have e2 : ∀ x0 x1 x2, (((w6.setCell ⟨w.heap.size, 0, none⟩ x0).setCell ⟨w.heap.size, 1, none⟩ x1).setCell ⟨w.heap.size, 2, none⟩ x2).cell? ⟨w.heap.size, 2, none⟩ = some x2 := fun x0 x1 x2 => World.cell?_setCell_same _ _ _ (by (iterate 2 rw [World.cell?_setCell_other]); exact c2; all_goals simp)
  have e3 : ∀ x0 x1 x2 x3, ((((w6.setCell ⟨w.heap.size, 0, none⟩ x0).setCell ⟨w.heap.size, 1, none⟩ x1).setCell ⟨w.heap.size, 2, none⟩ x2).setCell ⟨w.heap.size, 3, none⟩ x3).cell? ⟨w.heap.size, 3, none⟩ = some x3 := fun x0 x1 x2 x3 => World.cell?_setCell_same _ _ _ (by (iterate 3 rw [World.cell?_setCell_other]); exact c3; all_goals simp)
  have e4 : ∀ x0 x1 x2 x3 x4, (((((w6.setCell ⟨w.heap.size, 0, none⟩ x0).setCell ⟨w.heap.size, 1, none⟩ x1).setCell ⟨w.heap.size, 2, none⟩ x2).setCell ⟨w.heap.size, 3, none⟩ x3).setCell ⟨w.heap.size, 4, none⟩ x4).cell? ⟨w.heap.size, 4, none⟩ = some x4 := fun x0 x1 x2 x3 x4 => World.cell?_setCell_same _ _ _ (by (iterate 4 rw [World.cell?_setCell_other]); exact c4; all_goals simp)
  have e5 : ∀ x0 x1 x2 x3 x4 x5, ((((((w6.setCell ⟨w.heap.size, 0, none⟩ x0).setCell ⟨w.heap.size, 1, none⟩ x1).setCell ⟨w.heap.size, 2, none⟩ x2).setCell ⟨w.heap.size, 3, none⟩ x3).setCell ⟨w.heap.size, 4, none⟩ x4).setCell ⟨w.heap.size, 5, none⟩ x5).cell? ⟨w.heap.size, 5, none⟩ = some x5 := fun x0 x1 x2 x3 x4 x5 => World.cell?_setCell_same _ _ _ (by (iterate 5 rw [World.cell?_setCell_other]); exact c5; all_goals simp)
  go_wp2
  refine bodyPost_ret (by simp [results, Tryz.results75, go_sem, e0, e1, e2, e3, e4, e5]; try rfl) rfl ?_
  exact ⟨by first | rfl | (simp; done), SC.set (SC.set (SC.set (SC.set (SC.set (SC.set (HS6.out) HH.out) HH.out) HH.out) HH.out) HH.out) HH.out, Chg.new (Chg.new (Chg.new (Chg.new (Chg.new (Chg.new (C6.out) (Nat.le_refl _)) (Nat.le_refl _)) (Nat.le_refl _)) (Nat.le_refl _)) (Nat.le_refl _)) (Nat.le_refl _)⟩
end Go.Proofs.YtmegdgeiikhflaaGreat.CA

namespace Go.Proofs.YtmegdgeiikhflaaGreat.CB
set_option maxRecDepth 100000
open Go Go.RowKit Go.Lib Go.Proofs.YtmegdgeiikhflaaGreat Go.Proofs.YtmegdgeiikhflaaGreat.Facts Go.Proofs.YtmegdgeiikhflaaGreat.Bytes Go.Proofs.YtmegdgeiikhflaaGreat.Plain Go.Proofs.YtmegdgeiikhflaaGreat.Ints Go.Proofs.YtmegdgeiikhflaaGreat.LBox Go.Proofs.YtmegdgeiikhflaaGreat.RRows Go.Proofs.YtmegdgeiikhflaaGreat.Puts Go.Proofs.YtmegdgeiikhflaaGreat.Scan Go.Proofs.YtmegdgeiikhflaaGreat.Take Go.Proofs.YtmegdgeiikhflaaGreat.Nums Go.Proofs.YtmegdgeiikhflaaGreat.BA Go.Proofs.YtmegdgeiikhflaaGreat.BB Go.Proofs.YtmegdgeiikhflaaGreat.BC Go.Proofs.YtmegdgeiikhflaaGreat.BD Go.Proofs.YtmegdgeiikhflaaGreat.CA


open Go.Proofs.YtmegdgeiikhflaaGreat.LBytes
def oneL (s : Sc) : La × Sc := (if rdE (s.take 9).1 = 0 then ⟨rdV (s.take 9).1, rdC (s.take 9).1⟩ else ⟨-1, 0#64⟩, (s.take 9).2)
theorem nine_len (s : Sc) : (s.take 9).1.length ≤ 9 := take_len s 9
/-- A label. -/
theorem take_label : Ton (T := La) 68 lval oneL := by
  intro w lo hi p s h hh hl
  unfold oneL lval
  have h0 := fun W (hg : Grew w W) => takeN_any W lo hi p s 9 (h.grew hg) (by omega) hl
  have m9 : (max (9 : Int) 0).toNat = 9 := by decide
  simp only [m9] at h0
  clear m9
  obtain ⟨⟨t, s1⟩, ht⟩ : ∃ q, s.take 9 = q := ⟨_, rfl⟩
  rw [ht] at h0 ⊢
  simp only at h0 ⊢
  have HT := Lib.hid h0
  have g0 : Grew w (w.alloc (.cells #[.int .i64 0, .int .u64 0] 31)) := by unfold Grew; go_grown
  have G0 := Lib.hid g0
  have B0 := Lib.hid (heap_alloc_new w (.cells #[.int .i64 0, .int .u64 0] 31))
  have HS0 := Lib.hid (h.grew g0)
  have HH := Lib.hid hh
  have C0 := Lib.hid (Chg.of_grew (p := p) g0)
  clear h hh hl h0 ht g0
  rcases rdE_cases t with ⟨he, _⟩ | ⟨he, _⟩
  · rw [if_pos he]
    have HE := Lib.hid he
    clear he
    go_enter Tryz.func68, Tryz.ntmps68
    go_wp2_with fail
    refine (HT.out _ G0.out).mono ?_
    rintro e9 w1 ⟨v, rfl, hr, q1, c1⟩
    have HR := Lib.hid (hr.mono (S' := fun _ => True) fun _ _ => trivial)
    have HS1 := Lib.hid q1
    have C1 := Lib.hid (C0.out.trans c1)
    have B1 := Lib.hid (keepC HS0.out HH.out B0.out c1)
    clear q1 c1 hr
    go_wp2_with fail
    refine (LBytes.read_any v t w1 HR.out).mono ?_
    rintro e9 w2 ⟨rfl, g2⟩
    have g3 : Grew w2 (w2.alloc (.cells #[.int .i64 (rdV t), .int .u64 ((rdC t).toNat : Int)] 31)) := by unfold Grew; go_grown
    have HS2 := Lib.hid (HS1.out.grew (g2.trans g3))
    have C2 := Lib.hid (C1.out.trans (Chg.of_grew (p := p) (g2.trans g3)))
    have B2 := Lib.hid (keepB B1.out (g2.trans g3))
    have D2 := Lib.hid (heap_alloc_new w2 (.cells #[.int .i64 (rdV t), .int .u64 ((rdC t).toNat : Int)] 31))
    clear g2 g3
    obtain ⟨c0, c1⟩ := two_c B2.out
    obtain ⟨d0, d1⟩ := two_c D2.out
    have f0 := frz (k := 0) B2.out
    have f1 := frz (k := 1) B2.out
    have e0 : ∀ x0, ((w2.alloc (.cells #[.int .i64 (rdV t), .int .u64 ((rdC t).toNat : Int)] 31)).setCell ⟨w.heap.size, 0, none⟩ x0).cell? ⟨w.heap.size, 0, none⟩ = some x0 := fun x0 => World.cell?_setCell_same _ _ _ (by exact c0)
    have e1 : ∀ x0 x1, (((w2.alloc (.cells #[.int .i64 (rdV t), .int .u64 ((rdC t).toNat : Int)] 31)).setCell ⟨w.heap.size, 0, none⟩ x0).setCell ⟨w.heap.size, 1, none⟩ x1).cell? ⟨w.heap.size, 1, none⟩ = some x1 := fun x0 x1 => World.cell?_setCell_same _ _ _ (by (iterate 1 rw [World.cell?_setCell_other]); exact c1; all_goals simp)
    rw [HE.out]
    go_wp2
    refine bodyPost_ret (by simp [results, Tryz.results68, go_sem, e0, e1]; try rfl) rfl ?_
    exact ⟨by first | rfl | (simp; done), SC.set (SC.set HS2.out HH.out) HH.out, Chg.new (Chg.new C2.out (Nat.le_refl _)) (Nat.le_refl _)⟩
  · have hne : ¬ rdE t = 0 := by simpa using he
    rw [if_neg hne]
    have HE := Lib.hid he
    have HN := Lib.hid hne
    clear he hne
    go_enter Tryz.func68, Tryz.ntmps68
    go_wp2_with fail
    refine (HT.out _ G0.out).mono ?_
    rintro e9 w1 ⟨v, rfl, hr, q1, c1⟩
    have HR := Lib.hid (hr.mono (S' := fun _ => True) fun _ _ => trivial)
    have HS1 := Lib.hid q1
    have C1 := Lib.hid (C0.out.trans c1)
    have B1 := Lib.hid (keepC HS0.out HH.out B0.out c1)
    clear q1 c1 hr
    go_wp2_with fail
    refine (LBytes.read_any v t w1 HR.out).mono ?_
    rintro e9 w2 ⟨rfl, g2⟩
    have g3 : Grew w2 (w2.alloc (.cells #[.int .i64 (rdV t), .int .u64 ((rdC t).toNat : Int)] 31)) := by unfold Grew; go_grown
    have HS2 := Lib.hid (HS1.out.grew (g2.trans g3))
    have C2 := Lib.hid (C1.out.trans (Chg.of_grew (p := p) (g2.trans g3)))
    have B2 := Lib.hid (keepB B1.out (g2.trans g3))
    have D2 := Lib.hid (heap_alloc_new w2 (.cells #[.int .i64 (rdV t), .int .u64 ((rdC t).toNat : Int)] 31))
    clear g2 g3
    obtain ⟨c0, c1⟩ := two_c B2.out
    obtain ⟨d0, d1⟩ := two_c D2.out
    have f0 := frz (k := 0) B2.out
    have f1 := frz (k := 1) B2.out
    have e0 : ∀ x0, ((w2.alloc (.cells #[.int .i64 (rdV t), .int .u64 ((rdC t).toNat : Int)] 31)).setCell ⟨w.heap.size, 0, none⟩ x0).cell? ⟨w.heap.size, 0, none⟩ = some x0 := fun x0 => World.cell?_setCell_same _ _ _ (by exact c0)
    have e1 : ∀ x0 x1, (((w2.alloc (.cells #[.int .i64 (rdV t), .int .u64 ((rdC t).toNat : Int)] 31)).setCell ⟨w.heap.size, 0, none⟩ x0).setCell ⟨w.heap.size, 1, none⟩ x1).cell? ⟨w.heap.size, 1, none⟩ = some x1 := fun x0 x1 => World.cell?_setCell_same _ _ _ (by (iterate 1 rw [World.cell?_setCell_other]); exact c1; all_goals simp)
    generalize rdE t = x at *
    have he := HE.out
    have hn := HN.out
    go_wp2
    refine bodyPost_ret (by simp [results, Tryz.results68, go_sem, e0, e1]; try rfl) rfl ?_
    exact ⟨by first | rfl | (simp; done), SC.set (SC.set HS2.out HH.out) HH.out, Chg.new (Chg.new C2.out (Nat.le_refl _)) (Nat.le_refl _)⟩

theorem text_eq (w : World) (lo hi : Nat) (p : Value) (s : Sc) (most : Int) (t : List UInt8) (s1 : Sc) (h : Hid (SC w lo hi p s)) (hs : Hid (s.text most = (t, s1))) :
    Calls Tryz.prog 139 #[p, .int .i64 most] w fun e w' => e = .returned (.string ⟨t.toArray⟩) ∧ SC w' lo hi p s1 ∧ Chg p w w' := by
  have := text_any w lo hi p s most h.out
  rwa [hs.out] at this
def oneA (s : Sc) : Ac × Sc :=
  let a := s.text 12
  let b := a.2.text 12
  let c := takeP b.2
  let m := takeP c.2
  (⟨⟨a.1.toArray⟩, ⟨b.1.toArray⟩, c.1, decide (m.1 = 1)⟩, m.2.rule (decide (m.1 ≤ 1)) 2)
/-- An account. -/
theorem take_account : Ton (T := Ac) 72 aval oneA := by
  intro w lo hi p s h hh hl
  obtain ⟨⟨x1, s1⟩, h1⟩ : ∃ q, s.text 12 = q := ⟨_, rfl⟩
  have hl1 := text_le s 12
  rw [h1] at hl1
  obtain ⟨⟨x2, s2⟩, h2⟩ : ∃ q, s1.text 12 = q := ⟨_, rfl⟩
  have hl2 := text_le s1 12
  rw [h2] at hl2
  obtain ⟨⟨x3, s3⟩, h3⟩ : ∃ q, takeP s2 = q := ⟨_, rfl⟩
  have hl3 := takeP_le s2
  rw [h3] at hl3
  obtain ⟨⟨x4, s4⟩, h4⟩ : ∃ q, takeP s3 = q := ⟨_, rfl⟩
  obtain ⟨s5, h5⟩ : ∃ q, s4.rule (decide (x4 ≤ 1)) 2 = q := ⟨_, rfl⟩
  have hT : oneA s = (⟨⟨x1.toArray⟩, ⟨x2.toArray⟩, x3, decide (x4 = 1)⟩, s5) := by simp only [oneA, h1, h2, h3, h4, h5]
  rw [hT]
  unfold aval
  have g0 : Grew w (w.alloc (.cells #[.string ⟨#[]⟩, .string ⟨#[]⟩, .int .i64 0, .bool false] 88)) := by unfold Grew; go_grown
  have B0 := Lib.hid (heap_alloc_new w (.cells #[.string ⟨#[]⟩, .string ⟨#[]⟩, .int .i64 0, .bool false] 88))
  have HS0 := Lib.hid (h.grew g0)
  have HH := Lib.hid hh
  have HH0 := Lib.hid (Nat.le_trans hh g0.size)
  have k1 := Nat.le_trans hl1 hl
  have k2 := Nat.le_trans hl2 k1
  have k3 := Nat.le_trans hl3 k2
  have HL2 := Lib.hid k2
  have HL3 := Lib.hid k3
  have H1 := Lib.hid h1
  have H2 := Lib.hid h2
  have H3 := Lib.hid h3
  have H4 := Lib.hid h4
  have H5 := Lib.hid h5
  have C0 := Lib.hid (Chg.of_grew (p := p) g0)
  clear h hh hl hl1 hl2 hl3 k1 k2 k3 h1 h2 h3 h4 h5 hT g0
  go_enter Tryz.func72, Tryz.ntmps72
  go_wp2_with fail
  refine (text_eq _ lo hi _ s 12 x1 s1 HS0 H1).mono ?_
  rintro e9 w1 ⟨rfl, q1, c1⟩
  have HS1 := Lib.hid q1
  have C1 := Lib.hid (C0.out.trans c1)
  have HH1 := Lib.hid (Nat.le_trans HH0.out c1.size)
  have B1 := Lib.hid (keepC HS0.out HH.out B0.out c1)
  clear q1 c1
  go_wp2_with fail
  refine (text_eq _ lo hi _ s1 12 x2 s2 HS1 H2).mono ?_
  rintro e9 w2 ⟨rfl, q1, c1⟩
  have HS2 := Lib.hid q1
  have C2 := Lib.hid (C1.out.trans c1)
  have HH2 := Lib.hid (Nat.le_trans HH1.out c1.size)
  have B2 := Lib.hid (keepC HS1.out HH.out B1.out c1)
  clear q1 c1
  go_wp2_with fail
  refine (take_one.eq _ lo hi _ s2 x3 s3 HS2 HH2 HL2 H3).mono ?_
  rintro e9 w3 ⟨rfl, q1, c1⟩
  have HS3 := Lib.hid q1
  have C3 := Lib.hid (C2.out.trans c1)
  have HH3 := Lib.hid (Nat.le_trans HH2.out c1.size)
  have B3 := Lib.hid (keepC HS2.out HH.out B2.out c1)
  clear q1 c1
  have g3 : Grew w3 (w3.alloc (.cells #[.string ⟨x1.toArray⟩, .string ⟨x2.toArray⟩, .int .i64 x3, .bool false] 88)) := by unfold Grew; go_grown
  have HS30 := Lib.hid (HS3.out.grew g3)
  have C30 := Lib.hid (C3.out.trans (Chg.of_grew (p := p) g3))
  have HH30 := Lib.hid (Nat.le_trans HH3.out g3.size)
  have B30 := Lib.hid (keepB B3.out g3)
  have D30 := Lib.hid (heap_alloc_new w3 (.cells #[.string ⟨x1.toArray⟩, .string ⟨x2.toArray⟩, .int .i64 x3, .bool false] 88))
  have HHD := Lib.hid HH3.out
  have HWD := Lib.hid C3.out.size
  have hne : ¬ w.heap.size = w3.heap.size := by
    have := (Array.getElem?_eq_some_iff.1 B3.out).1
    omega
  have HNE := Lib.hid hne
  clear g3 hne
  go_wp2_with fail
  refine (take_one.eq _ lo hi _ s3 x4 s4 HS30 HH30 HL3 H4).mono ?_
  rintro e9 w4 ⟨rfl, q1, c1⟩
  have HS4 := Lib.hid q1
  have C4 := Lib.hid (C30.out.trans c1)
  have HH4 := Lib.hid (Nat.le_trans HH30.out c1.size)
  have B4 := Lib.hid (keepC HS30.out HH.out B30.out c1)
  have D4 := Lib.hid (keepC HS30.out HHD.out D30.out c1)
  clear q1 c1
  go_wp2_with fail
  refine (rule_eq _ lo hi _ s4 s5 _ _ HS4 H5).mono ?_
  rintro e9 w5 ⟨rfl, q1, c1⟩
  have HS5 := Lib.hid q1
  have C5 := Lib.hid (C4.out.trans c1)
  have HH5 := Lib.hid (Nat.le_trans HH4.out c1.size)
  have B5 := Lib.hid (keepC HS4.out HH.out B4.out c1)
  have D5 := Lib.hid (keepC HS4.out HHD.out D4.out c1)
  clear q1 c1
  obtain ⟨c0, c1, c2, c3⟩ := four_c B5.out
  obtain ⟨d0, d1, d2, d3⟩ := four_c D5.out
  have f0 := frz (k := 0) B5.out
  have f1 := frz (k := 1) B5.out
  have f2 := frz (k := 2) B5.out
  have f3 := frz (k := 3) B5.out
  have fd := frz (k := 3) D5.out
  have hne := HNE.out
  have hne' : ¬ w3.heap.size = w.heap.size := fun e => hne e.symm
  have e0 : ∀ y x0, ((w5.setCell ⟨w3.heap.size, 3, none⟩ y).setCell ⟨w.heap.size, 0, none⟩ x0).cell? ⟨w.heap.size, 0, none⟩ = some x0 := fun y x0 => World.cell?_setCell_same _ _ _ (by (iterate 1 rw [World.cell?_setCell_other]); exact c0; all_goals simp)
  have e1 : ∀ y x0 x1, (((w5.setCell ⟨w3.heap.size, 3, none⟩ y).setCell ⟨w.heap.size, 0, none⟩ x0).setCell ⟨w.heap.size, 1, none⟩ x1).cell? ⟨w.heap.size, 1, none⟩ = some x1 := fun y x0 x1 => World.cell?_setCell_same _ _ _ (by (iterate 2 rw [World.cell?_setCell_other]); exact c1; all_goals simp)
  have e2 : ∀ y x0 x1 x2, ((((w5.setCell ⟨w3.heap.size, 3, none⟩ y).setCell ⟨w.heap.size, 0, none⟩ x0).setCell ⟨w.heap.size, 1, none⟩ x1).setCell ⟨w.heap.size, 2, none⟩ x2).cell? ⟨w.heap.size, 2, none⟩ = some x2 := fun y x0 x1 x2 => World.cell?_setCell_same _ _ _ (by (iterate 3 rw [World.cell?_setCell_other]); exact c2; all_goals simp)
  have e3 : ∀ y x0 x1 x2 x3, (((((w5.setCell ⟨w3.heap.size, 3, none⟩ y).setCell ⟨w.heap.size, 0, none⟩ x0).setCell ⟨w.heap.size, 1, none⟩ x1).setCell ⟨w.heap.size, 2, none⟩ x2).setCell ⟨w.heap.size, 3, none⟩ x3).cell? ⟨w.heap.size, 3, none⟩ = some x3 := fun y x0 x1 x2 x3 => World.cell?_setCell_same _ _ _ (by (iterate 4 rw [World.cell?_setCell_other]); exact c3; all_goals simp)
  go_wp2
  refine bodyPost_ret (by simp [results, Tryz.results72, go_sem, e0, e1, e2, e3]; try rfl) rfl ?_
  exact ⟨by first | rfl | (simp; done), SC.set (SC.set (SC.set (SC.set (SC.set HS5.out HHD.out) HH.out) HH.out) HH.out) HH.out, Chg.new (Chg.new (Chg.new (Chg.new (Chg.new C5.out HWD.out) (Nat.le_refl _)) (Nat.le_refl _)) (Nat.le_refl _)) (Nat.le_refl _)⟩
end Go.Proofs.YtmegdgeiikhflaaGreat.CB
