/-
  Read, by the program.
  Conditions: those that each lemma names.
-/
import Derived.Test.YthgigkklefaeeaaRF
namespace Go.Proofs.Ythgigkklefaeeaa.RG
set_option maxRecDepth 100000
open Go Go.RowKit Go.Lib Go.Proofs.Ythgigkklefaeeaa Go.Proofs.Ythgigkklefaeeaa.Facts Go.Proofs.Ythgigkklefaeeaa.Bytes Go.Proofs.Ythgigkklefaeeaa.Puts Go.Proofs.Ythgigkklefaeeaa.Scan Go.Proofs.Ythgigkklefaeeaa.Take Go.Proofs.Ythgigkklefaeeaa.Nums Go.Proofs.Ythgigkklefaeeaa.SumPure Go.Proofs.Ythgigkklefaeeaa.Sum Go.Proofs.Ythgigkklefaeeaa.FP Go.Proofs.Ythgigkklefaeeaa.FW Go.Proofs.Ythgigkklefaeeaa.FX Go.Proofs.Ythgigkklefaeeaa.Ints Go.Proofs.Ythgigkklefaeeaa.PA Go.Proofs.Ythgigkklefaeeaa.RA Go.Proofs.Ythgigkklefaeeaa.RC Go.Proofs.Ythgigkklefaeeaa.RD Go.Proofs.Ythgigkklefaeeaa.RE Go.Proofs.Ythgigkklefaeeaa.RF

structure Ou where
  k : Int
  o : Int
  e : Int
  d : List UInt8
deriving DecidableEq
theorem frz {W : World} {B t k : Nat} {xs : Array Value} (h : W.heap[B]? = some (.cells xs t (0, 0))) : W.frozen? ⟨B, k, none⟩ = false := by
  simp [World.frozen?, h]
def zou : Ou := ⟨0, 0, 0, []⟩
def okO (x : Ou) : Bool := mayP x.k x.o x.e x.d.length
/-- What a value tells: the struct, its data elsewhere. -/
def ov (x : Ou) (A : Option Addr) (c : Nat) : Value := .agg #[.int .i64 x.k, .int .i64 x.o, .int .i64 x.e, .slice A x.d.length c]
def b1 (l : List UInt8) (i : Nat) : Nat := (l[i]?.getD 0).toNat
def readP (l : List UInt8) : Ou × Int :=
  if l.length < 3 then (zou, 12) else if okO ⟨b1 l 0, b1 l 1, b1 l 2, l.drop 3⟩ = true then (⟨b1 l 0, b1 l 1, b1 l 2, l.drop 3⟩, 0) else (zou, 2)
theorem num_one (a : UInt8) (l : List UInt8) : (⟨a :: l, 0⟩ : Sc).num (width 1) = (a.toNat, ⟨l, 0⟩) := by
  rw [width1]
  simp [Sc.num, Sc.take, Sc.val]
theorem num_none : (⟨[], 0⟩ : Sc).num (width 1) = (0, ⟨[], 12⟩) := by
  rw [width1]
  simp [Sc.num, Sc.take, Sc.val]
theorem num_dead : (⟨[], 12⟩ : Sc).num (width 1) = (0, ⟨[], 12⟩) := by
  rw [width1]
  simp [Sc.num, Sc.take, Sc.val]
/-- The scan, step by step. -/
theorem steps (l : List UInt8) : ∃ (n1 n2 n3 : Nat) (s1 s2 s3 s4 : Sc) (m : Nat) (t : List UInt8) (f : Int),
    (⟨l, 0⟩ : Sc).num (width 1) = (n1, s1) ∧ s1.num (width 1) = (n2, s2) ∧ s2.num (width 1) = (n3, s3) ∧ s3.left = m ∧ m ≤ l.length ∧ s3.take m = (t, s4) ∧ s4.fin = f ∧
    (l.length < 3 ∧ f = 12 ∨ 3 ≤ l.length ∧ f = 0 ∧ n1 = b1 l 0 ∧ n2 = b1 l 1 ∧ n3 = b1 l 2 ∧ t = l.drop 3) := by
  match l with
  | [] => exact ⟨0, 0, 0, _, _, _, _, 0, [], 12, num_none, num_dead, num_dead, rfl, by simp, rfl, rfl, .inl ⟨by simp, rfl⟩⟩
  | [a] => exact ⟨a.toNat, 0, 0, _, _, _, _, 0, [], 12, num_one a [], num_none, num_dead, rfl, by simp, rfl, rfl, .inl ⟨by simp, rfl⟩⟩
  | [a, b] => exact ⟨a.toNat, b.toNat, 0, _, _, _, _, 0, [], 12, num_one a [b], num_one b [], num_none, rfl, by simp, rfl, rfl, .inl ⟨by simp, rfl⟩⟩
  | a :: b :: c :: r =>
    refine ⟨a.toNat, b.toNat, c.toNat, _, _, _, ⟨[], 0⟩, r.length, r, 0, num_one a _, num_one b _, num_one c r, rfl, by simp; omega, ?_, rfl, .inr ⟨by simp, rfl, rfl, rfl, rfl, rfl⟩⟩
    simp [Sc.take]
theorem results_two {P : Program} {fn : Func} {t s : Tmp} {ty : TypeId} {tmps : Array Value} {p : Addr} {v u : Value} {w : World} (h : fn.results = #[.cell t ty, .tmp s]) (ht : tmps.getD t undef = .pointer (some p)) (hs : tmps.getD s undef = u) (hl : (loadVar ty p).run P w = .ok v w) : (results fn tmps).run P w = .ok (.tuple #[v, u]) w := by
  have ht2 : tmps[t]?.getD undef = .pointer (some p) := by rw [← ht]; simp [Array.getD_eq_getD_getElem?]
  have hs2 : tmps[s]?.getD undef = u := by rw [← hs]; simp [Array.getD_eq_getD_getElem?]
  simp [results, h, ht2, hs2, asAddr, hl]
theorem chgB {w w' : World} {B g : Nat} {o : Obj} (h : w.heap[B]? = some o) (hg : Chg (.pointer (some ⟨g, 0, none⟩)) w w') (hne : B ≠ g) : w'.heap[B]? = some o :=
  (hg.block B (Array.getElem?_eq_some_iff.1 h).1 (by simpa [blk] using hne)).trans h
theorem grewC {w W w' : World} {g : Nat} (h : Grew w W) (hg : Chg (.pointer (some ⟨g, 0, none⟩)) W w') (hw : w.heap.size ≤ g) : Grew w w' :=
  Below.grown (show Below w.heap.size w W from h) hg h.size (fun k hk => by simp [blk] at hk; omega)
set_option maxHeartbeats 4000000 in
theorem read_core (S : Nat → Prop) (v : Value) (l : List UInt8) (w : World) (h : Rd S w v l) (hl : l.length ≤ 140737488355328) (n1 n2 n3 : Nat) (s1 s2 s3 s4 : Sc) (m : Nat) (t : List UInt8) (f : Int)
    (q1 : (⟨l, 0⟩ : Sc).num (width 1) = (n1, s1)) (q2 : s1.num (width 1) = (n2, s2)) (q3 : s2.num (width 1) = (n3, s3)) (q4 : s3.left = m) (hm : m ≤ l.length) (q5 : s3.take m = (t, s4)) (q6 : s4.fin = f)
    (R : Ou × Int) (r1 : f ≠ 0 → R = (zou, f)) (r2 : f = 0 → okO ⟨n1, n2, n3, t⟩ = true → R = (⟨n1, n2, n3, t⟩, 0)) (r3 : f = 0 → okO ⟨n1, n2, n3, t⟩ = false → R = (zou, 2)) :
    Calls Try.prog 6 #[v] w fun e w' => ∃ A c, e = .returned (.tuple #[ov R.1 A c, .int .i64 R.2]) ∧ Rd (fun b => w.heap.size ≤ b) w' (.slice A R.1.d.length c) R.1.d ∧ Grew w w' := by
  have G0 : Hid (Grew w (w.alloc (.cells #[.int .i64 0, .int .i64 0, .int .i64 0, .slice none 0 0] 25))) := Lib.hid (by unfold Grew; go_grown)
  have X0 := Lib.hid (heap_alloc_new w (.cells #[.int .i64 0, .int .i64 0, .int .i64 0, .slice none 0 0] 25))
  have HR := Lib.hid (h.grew G0.out)
  have HL := Lib.hid hl
  have HM := Lib.hid hm
  have Q1 := Lib.hid q1
  have Q2 := Lib.hid q2
  have Q3 := Lib.hid q3
  have Q4 := Lib.hid q4
  have Q5 := Lib.hid q5
  have Q6 := Lib.hid q6
  have R1 := Lib.hid r1
  have R2 := Lib.hid r2
  have R3 := Lib.hid r3
  have S0 : Hid ((w.alloc (.cells #[.int .i64 0, .int .i64 0, .int .i64 0, .slice none 0 0] 25)).heap.size = w.heap.size + 1) := Lib.hid (by simp)
  obtain ⟨A0, c0, rfl, hrest⟩ := id h
  clear h hl hm q1 q2 q3 q4 q5 q6 r1 r2 r3 hrest
  go_enter Try.func6, Try.ntmps6
  go_wp2_with fail
  refine (from_any S _ l _ HR.out HL.out).mono ?_
  rintro e w1 ⟨g, rfl, hgs, hsc, g1⟩
  have X1 := Lib.hid (keepB X0.out g1)
  have G1 := Lib.hid (G0.out.trans g1)
  have C1 := Lib.hid hsc
  have HGS : Hid (w.heap.size + 1 ≤ g) := Lib.hid (by have := S0.out; omega)
  have HLO := Lib.hid (hsc.size)
  clear hgs hsc g1 X0 G0 HR S0
  go_wp2_with fail
  refine (take1_eq w1 _ _ _ _ n1 s1 C1 Q1).mono ?_
  rintro e w2 ⟨rfl, h2, k2⟩
  have X2 := Lib.hid (chgB X1.out k2 (by have := HGS.out; omega))
  have G2 := Lib.hid (grewC G1.out k2 (by have := HGS.out; omega))
  have C2 := Lib.hid h2
  have Z2 := Lib.hid k2.size
  clear h2 k2 X1 G1 C1
  go_wp2_with fail
  refine (take1_eq w2 _ _ _ _ n2 s2 C2 Q2).mono ?_
  rintro e w3 ⟨rfl, h2, k2⟩
  have X3 := Lib.hid (chgB X2.out k2 (by have := HGS.out; omega))
  have G3 := Lib.hid (grewC G2.out k2 (by have := HGS.out; omega))
  have C3 := Lib.hid h2
  have Z3 := Lib.hid (Nat.le_trans Z2.out k2.size)
  clear h2 k2 X2 G2 C2 Z2
  go_wp2_with fail
  refine (take1_eq w3 _ _ _ _ n3 s3 C3 Q3).mono ?_
  rintro e w4 ⟨rfl, h2, k2⟩
  have X4 := Lib.hid (chgB X3.out k2 (by have := HGS.out; omega))
  have G4 := Lib.hid (grewC G3.out k2 (by have := HGS.out; omega))
  have C4 := Lib.hid h2
  have Z4 := Lib.hid (Nat.le_trans Z3.out k2.size)
  clear h2 k2 X3 G3 C3 Z3
  have ga : Grew w4 (w4.alloc (.cells #[.int .i64 (n1 : Int), .int .i64 (n2 : Int), .int .i64 (n3 : Int), .slice none 0 0] 25)) := (Below.refl _ _).alloc (Nat.le_refl _) _
  have XA := Lib.hid (keepB X4.out ga)
  have YA := Lib.hid (heap_alloc_new w4 (.cells #[.int .i64 (n1 : Int), .int .i64 (n2 : Int), .int .i64 (n3 : Int), .slice none 0 0] 25))
  have GA := Lib.hid (G4.out.trans ga)
  have CA := Lib.hid (SC.grew C4.out ga)
  have SA : Hid ((w4.alloc (.cells #[.int .i64 (n1 : Int), .int .i64 (n2 : Int), .int .i64 (n3 : Int), .slice none 0 0] 25)).heap.size = w4.heap.size + 1) := Lib.hid (by simp)
  clear ga X4 G4 C4
  go_wp2_with (go_at_call 25; refine (left_eq _ _ _ _ _ m CA Q4).mono ?_; rintro e w' ⟨rfl, rfl⟩)
  refine (take_eqs _ _ _ _ _ m t s4 CA (by have := HM.out; have := HL.out; omega) Q5).mono ?_
  rintro e w5 ⟨v5, rfl, r5, h2, k2⟩
  obtain ⟨A5, c5, rfl, _⟩ := id r5
  have hne : w4.heap.size ≠ g := by have := HLO.out; have := Z4.out; omega
  have hw4 : w.heap.size + 1 ≤ w4.heap.size := by have := HLO.out; have := Z4.out; have := HGS.out; omega
  have X5 := Lib.hid (chgB XA.out k2 (by have := HGS.out; omega))
  have Y5 := Lib.hid (chgB YA.out k2 hne)
  have G5 := Lib.hid (grewC GA.out k2 (by have := HGS.out; omega))
  have C5 := Lib.hid h2
  have R5 := Lib.hid r5
  have HW4 := Lib.hid hw4
  clear h2 k2 r5 XA YA GA CA hne hw4
  obtain ⟨W6, hW6⟩ : ∃ W6, w5.setCell ⟨w4.heap.size, 3, none⟩ (.slice A5 t.length c5) = W6 := ⟨_, rfl⟩
  have hoth : ∀ b, b ≠ w4.heap.size → W6.heap[b]? = w5.heap[b]? := fun b hb => by rw [← hW6]; exact heap_setCell_other w5 ⟨w4.heap.size, 3, none⟩ b _ (fun e => hb e)
  have X6 := Lib.hid ((hoth w.heap.size (by have := HW4.out; omega)).trans X5.out)
  have Y6 : Hid (W6.heap[w4.heap.size]? = some (.cells #[.int .i64 (n1 : Int), .int .i64 (n2 : Int), .int .i64 (n3 : Int), .slice A5 t.length c5] 25 (0, 0))) := Lib.hid (by
    rw [← hW6]
    have := heap_setCell_same w5 w4.heap.size 3 _ 25 (.slice A5 t.length c5) Y5.out
    exact this)
  have G6 : Hid (Grew w W6) := Lib.hid (by rw [← hW6]; exact (show Below w.heap.size w w5 from G5.out).setCell (p := ⟨w4.heap.size, 3, none⟩) (by have := HW4.out; show w.heap.size ≤ w4.heap.size; omega) _)
  have C6 : Hid (SC W6 (w.alloc (.cells #[.int .i64 0, .int .i64 0, .int .i64 0, .slice none 0 0] 25)).heap.size w1.heap.size (.pointer (some ⟨g, 0, none⟩)) s4) := Lib.hid (C5.out.keep (by rw [← hW6]; simp [World.setCell]) fun b _ hb => hoth b (by have := Z4.out; omega))
  have R6 : Hid (Rd (fun b => w.heap.size < b) W6 (.slice A5 t.length c5) t) := Lib.hid ((R5.out.keep (w' := W6) fun b _ hb => hoth b (by have := SA.out; omega)).mono fun b hb => by have := SA.out; have := HW4.out; omega)
  have HW6 := Lib.hid hW6
  obtain ⟨y0, y1, y2, y3⟩ := four_c Y5.out
  have hfz : w5.frozen? ⟨w4.heap.size, 3, none⟩ = false := by exact frz Y5.out
  clear hW6 hoth X5 G5 C5 R5 SA Z4 HLO
  go_wp2_with fail
  rw [HW6.out]
  clear y0 y1 y2 y3 hfz HW6 Y5
  refine (end_eq W6 _ _ _ _ f C6 Q6).mono ?_
  rintro e w' ⟨rfl, rfl⟩
  clear C6 Q6 Q1 Q2 Q3 Q4 Q5
  by_cases hf : f = 0
  · have d1 : (f != 0) = false := by simp [hf]
    have r2 := R2.out hf
    have r3 := R3.out hf
    have RR2 := Lib.hid r2
    have RR3 := Lib.hid r3
    clear hf r2 r3 R1 R2 R3
    obtain ⟨y0, y1, y2, y3⟩ := four_c Y6.out
    obtain ⟨b, hb⟩ : ∃ b, okO ⟨n1, n2, n3, t⟩ = b := ⟨_, rfl⟩
    have HB := Lib.hid hb
    rw [hb] at RR2 RR3
    clear hb
    have HMAY := Lib.hid (may_any n1 n2 n3 A5 t.length c5 W6)
    go_wp2_with fail
    refine HMAY.out.mono ?_
    rintro e w7 ⟨rfl, g7⟩
    rw [show mayP n1 n2 n3 t.length = b from HB.out]
    have X7 := Lib.hid (keepB X6.out g7)
    have Y7 := Lib.hid (keepB Y6.out g7)
    have G7 := Lib.hid (G6.out.trans g7)
    have R7 := Lib.hid (R6.out.grew g7)
    clear g7 y0 y1 y2 y3 X6 Y6 G6 R6 HMAY HB
    cases b with
    | false =>
      obtain ⟨W8, hst, hz, hgr⟩ := store_all size25 X7.out rfl [.int .i64 0, .int .i64 0, .int .i64 0, .slice none 0 0] rfl (by simp [Value.oneCell'])
      have HST := Lib.hid hst
      have HLD := Lib.hid (load_all Try.underlying25 rfl size25 hz rfl)
      have HG8 : Hid (Grew w W8) := Lib.hid ((show Below w.heap.size w _ from G7.out).grown hgr G7.out.size (fun k hk => by cases hk; exact Nat.le_refl _))
      have hR := RR3.out rfl
      have HRE := Lib.hid hR
      clear hst hz hgr hR
      go_wp2_with (refine wpList_store (by rfl) 25 (.tmp 2) (.tmp 30) (by with_reducible rfl) _ _ (by rfl) (by rfl) _ HST.out ?_)
      refine bodyPost_ret (results_two rfl rfl rfl HLD.out) rfl ?_
      rw [HRE.out]
      exact ⟨none, 0, rfl, Rd.nil _ _, HG8.out⟩
    | true =>
      obtain ⟨W8, hst, hz, hgr⟩ := store_all size25 X7.out rfl [.int .i64 n1, .int .i64 n2, .int .i64 n3, .slice A5 t.length c5] rfl (by simp [Value.oneCell'])
      have HST := Lib.hid hst
      have HLD := Lib.hid (load_all Try.underlying25 rfl size25 hz rfl)
      have HG8 : Hid (Grew w W8) := Lib.hid ((show Below w.heap.size w _ from G7.out).grown hgr G7.out.size (fun k hk => by cases hk; exact Nat.le_refl _))
      have HR8 : Hid (Rd (fun b => w.heap.size ≤ b) W8 (.slice A5 t.length c5) t) := Lib.hid ((R7.out.keep (w' := W8) fun b hb hlt => hgr.block b hb (fun e => by cases e; omega)).mono fun b hb => by omega)
      have hR := RR2.out rfl
      have HRE := Lib.hid hR
      obtain ⟨y0, y1, y2, y3⟩ := four_c Y7.out
      clear hst hz hgr hR
      go_wp2_with (refine wpList_store (by rfl) 25 (.tmp 2) (.tmp 31) (by with_reducible rfl) _ _ (by rfl) (by rfl) _ HST.out ?_)
      refine bodyPost_ret (results_two rfl rfl rfl HLD.out) rfl ?_
      rw [HRE.out]
      exact ⟨A5, c5, rfl, HR8.out, HG8.out⟩
  · have d1 : (f != 0) = true := by simp [hf]
    obtain ⟨W8, hst, hz, hgr⟩ := store_all size25 X6.out rfl [.int .i64 0, .int .i64 0, .int .i64 0, .slice none 0 0] rfl (by simp [Value.oneCell'])
    have HST := Lib.hid hst
    have HLD := Lib.hid (load_all Try.underlying25 rfl size25 hz rfl)
    have HG8 : Hid (Grew w W8) := Lib.hid ((show Below w.heap.size w _ from G6.out).grown hgr G6.out.size (fun k hk => by cases hk; exact Nat.le_refl _))
    have hR := R1.out hf
    have HRE := Lib.hid hR
    clear hst hz hgr hf hR R1 R2 R3 X6 Y6 R6
    go_wp2_with (refine wpList_store (by rfl) 25 (.tmp 2) (.tmp 25) (by with_reducible rfl) _ _ (by rfl) (by rfl) _ HST.out ?_)
    refine bodyPost_ret (results_two rfl rfl rfl HLD.out) rfl ?_
    rw [HRE.out]
    exact ⟨none, 0, rfl, Rd.nil _ _, HG8.out⟩
theorem read_any (S : Nat → Prop) (v : Value) (l : List UInt8) (w : World) (h : Rd S w v l) (hl : l.length ≤ 140737488355328) :
    Calls Try.prog 6 #[v] w fun e w' => ∃ A c, e = .returned (.tuple #[ov (readP l).1 A c, .int .i64 (readP l).2]) ∧ Rd (fun b => w.heap.size ≤ b) w' (.slice A (readP l).1.d.length c) (readP l).1.d ∧ Grew w w' := by
  obtain ⟨n1, n2, n3, s1, s2, s3, s4, m, t, f, q1, q2, q3, q4, hm, q5, q6, q7⟩ := steps l
  refine read_core S v l w h hl n1 n2 n3 s1 s2 s3 s4 m t f q1 q2 q3 q4 hm q5 q6 (readP l) (fun hf => ?_) (fun hf ho => ?_) (fun hf ho => ?_)
  · rcases q7 with ⟨h3, rfl⟩ | ⟨_, rfl, _⟩
    · unfold readP
      rw [if_pos h3]
    · exact absurd rfl hf
  · rcases q7 with ⟨_, rfl⟩ | ⟨h3, _, rfl, rfl, rfl, rfl⟩
    · cases hf
    · unfold readP
      rw [if_neg (by omega), if_pos ho]
  · rcases q7 with ⟨_, rfl⟩ | ⟨h3, _, rfl, rfl, rfl, rfl⟩
    · cases hf
    · unfold readP
      rw [if_neg (by omega), if_neg (by rw [ho]; decide)]
end Go.Proofs.Ythgigkklefaeeaa.RG
