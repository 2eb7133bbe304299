/-
  A realm as bytes: Bytes.
  Conditions: those that each lemma names.
-/
import Derived.Test.YtmegdgeiikhflaaGreatBC
import Derived.Test.YtmegdgeiikhflaaGreatRRight
namespace Go.Proofs.YtmegdgeiikhflaaGreat.BD
set_option maxRecDepth 100000
open Go Go.RowKit Go.Lib Go.Proofs.YtmegdgeiikhflaaGreat Go.Proofs.YtmegdgeiikhflaaGreat.Facts Go.Proofs.YtmegdgeiikhflaaGreat.Bytes Go.Proofs.YtmegdgeiikhflaaGreat.Plain Go.Proofs.YtmegdgeiikhflaaGreat.Ints Go.Proofs.YtmegdgeiikhflaaGreat.LBox Go.Proofs.YtmegdgeiikhflaaGreat.RRows Go.Proofs.YtmegdgeiikhflaaGreat.RSmall Go.Proofs.YtmegdgeiikhflaaGreat.RRules Go.Proofs.YtmegdgeiikhflaaGreat.RRule3 Go.Proofs.YtmegdgeiikhflaaGreat.RRule5 Go.Proofs.YtmegdgeiikhflaaGreat.RCaps Go.Proofs.YtmegdgeiikhflaaGreat.RRight Go.Proofs.YtmegdgeiikhflaaGreat.Puts Go.Proofs.YtmegdgeiikhflaaGreat.BA Go.Proofs.YtmegdgeiikhflaaGreat.BB Go.Proofs.YtmegdgeiikhflaaGreat.BC


theorem six_c {W : World} {B t : Nat} {a b c d x y : Value} (h : W.heap[B]? = some (.cells #[a, b, c, d, x, y] t (0, 0))) :
    W.cell? ⟨B, 0, none⟩ = some a ∧ W.cell? ⟨B, 1, none⟩ = some b ∧ W.cell? ⟨B, 2, none⟩ = some c ∧ W.cell? ⟨B, 3, none⟩ = some d ∧ W.cell? ⟨B, 4, none⟩ = some x ∧ W.cell? ⟨B, 5, none⟩ = some y := by
  refine ⟨?_, ?_, ?_, ?_, ?_, ?_⟩
  all_goals rw [cell_of_row _ _ _ _ _ _ h]; rfl
theorem nine_c {W : World} {B t : Nat} {a b c d e f g h i : Value} (hb : W.heap[B]? = some (.cells #[a, b, c, d, e, f, g, h, i] t (0, 0))) :
    W.cell? ⟨B, 0, none⟩ = some a ∧ W.cell? ⟨B, 1, none⟩ = some b ∧ W.cell? ⟨B, 2, none⟩ = some c ∧ W.cell? ⟨B, 3, none⟩ = some d ∧ W.cell? ⟨B, 4, none⟩ = some e ∧ W.cell? ⟨B, 5, none⟩ = some f ∧ W.cell? ⟨B, 6, none⟩ = some g ∧ W.cell? ⟨B, 7, none⟩ = some h ∧ W.cell? ⟨B, 8, none⟩ = some i := by
  refine ⟨?_, ?_, ?_, ?_, ?_, ?_, ?_, ?_, ?_⟩
  all_goals rw [cell_of_row _ _ _ _ _ _ hb]; rfl
theorem ints5 (W : World) (a b c d e : Int) : Is (W.alloc (.cells #[.int .i64 a, .int .i64 b, .int .i64 c, .int .i64 d, .int .i64 e] 3)) (.slice (some ⟨W.heap.size, 0, none⟩) 5 5) [a, b, c, d, e] := by
  refine ⟨some ⟨W.heap.size, 0, none⟩, 5, rfl, Nat.le_refl _, by decide, (fun h => by cases h), fun ad ha j u hu => ?_⟩
  cases ha
  rw [Addr.add_lit, Nat.zero_add, cell_of_row _ _ _ _ _ _ (heap_alloc_new W _), List.getElem?_toArray]
  exact hu
theorem ints4 (W : World) (a b c d : Int) : Is (W.alloc (.cells #[.int .i64 a, .int .i64 b, .int .i64 c, .int .i64 d] 3)) (.slice (some ⟨W.heap.size, 0, none⟩) 4 4) [a, b, c, d] := by
  refine ⟨some ⟨W.heap.size, 0, none⟩, 4, rfl, Nat.le_refl _, by decide, (fun h => by cases h), fun ad ha j u hu => ?_⟩
  cases ha
  rw [Addr.add_lit, Nat.zero_add, cell_of_row _ _ _ _ _ _ (heap_alloc_new W _), List.getElem?_toArray]
  exact hu
theorem width8 : width 8 = 8 := by decide
def encQ (x : Qu) : List UInt8 := putP [x.rooms, x.exits, x.items, x.mails, x.trades] ++ be 8 x.cap.toNat
def bytesR (r : Re) : List UInt8 :=
  ((((pb r.labels.length ++ r.labels.flatMap encL) ++ (pb r.lines.length ++ r.lines.flatMap pb)) ++ (pb r.accounts.length ++ r.accounts.flatMap encA)) ++ (pb r.guilds.length ++ r.guilds.flatMap encG)) ++ r.quotas.flatMap encQ ++ putP [r.orders, r.audits, r.rate, r.rounds]
def bytesP (r : Re) : List UInt8 := if mayBe r = true then bytesR r else []
theorem may_bounds {r : Re} (h : mayBe r = true) : r.labels.length ≤ 8 ∧ r.lines.length ≤ 8 ∧ r.accounts.length ≤ 8 ∧ r.guilds.length ≤ 8 ∧ r.quotas.length ≤ 8 ∧ ∀ x ∈ r.labels, may x.lev = true := by
  unfold mayBe at h
  simp only [Bool.and_eq_true] at h
  obtain ⟨_, _, h5, h4, h3, h2, h1, _⟩ := h
  unfold rule5 at h5
  unfold rule4 at h4
  unfold rule3 at h3
  unfold rule2 at h2
  unfold rule1 at h1
  unfold wit at h1 h2 h3
  simp only [Bool.and_eq_true, decide_eq_true_iff, List.all_eq_true] at h1 h2 h3 h4 h5
  refine ⟨by omega, by omega, by omega, h4.1, by omega, h1.2.1⟩
theorem encL_le (x : La) : (encL x).length ≤ 600 := by
  unfold encL LForm.form
  split
  · simp [LForm.be_length]
  · simp
theorem encA_le (x : Ac) : (encA x).length ≤ 600 := by
  unfold encA
  simp only [List.length_append, tx_length, pb_len]
  omega
theorem encG_le (x : Gu) : (encG x).length ≤ 600 := by
  unfold encG
  simp only [List.length_append, pb_len]
  omega
theorem encQ_le (x : Qu) : (encQ x).length ≤ 600 := by
  unfold encQ
  simp only [List.length_append, putP_len, be_length]
  simp
end Go.Proofs.YtmegdgeiikhflaaGreat.BD

namespace Go.Proofs.YtmegdgeiikhflaaGreat.BE
set_option maxRecDepth 100000
open Go Go.RowKit Go.Lib Go.Proofs.YtmegdgeiikhflaaGreat Go.Proofs.YtmegdgeiikhflaaGreat.Facts Go.Proofs.YtmegdgeiikhflaaGreat.Bytes Go.Proofs.YtmegdgeiikhflaaGreat.Plain Go.Proofs.YtmegdgeiikhflaaGreat.Ints Go.Proofs.YtmegdgeiikhflaaGreat.LBox Go.Proofs.YtmegdgeiikhflaaGreat.RRows Go.Proofs.YtmegdgeiikhflaaGreat.RSmall Go.Proofs.YtmegdgeiikhflaaGreat.RRules Go.Proofs.YtmegdgeiikhflaaGreat.RRule3 Go.Proofs.YtmegdgeiikhflaaGreat.RRule5 Go.Proofs.YtmegdgeiikhflaaGreat.RCaps Go.Proofs.YtmegdgeiikhflaaGreat.RRight Go.Proofs.YtmegdgeiikhflaaGreat.Puts Go.Proofs.YtmegdgeiikhflaaGreat.BA Go.Proofs.YtmegdgeiikhflaaGreat.BB Go.Proofs.YtmegdgeiikhflaaGreat.BC Go.Proofs.YtmegdgeiikhflaaGreat.BD


theorem own_none (W : World) (base : Nat) : OwnB W base (.slice none 0 0) [] := World.ownsRow_nil W base 5 1

set_option maxHeartbeats 8000000 in
/-- A realm's bytes: none, where it is not right. -/
theorem bytes_any (v : Value) (r : Re) (w : World) (h : ReIs w v r) (hs : Sized r) :
    Calls Tryz.prog 29 #[v] w fun e w' => ∃ v', e = .returned v' ∧ OwnB w' w.heap.size v' (bytesP r) ∧ Grew w w' := by
  have HRI := Lib.hid (fun W hg => right_re v r W (h.grew (w' := W) hg) hs)
  obtain ⟨v0, v1, v2, v3, v4, rfl, h0, h1, h2, h3, h4⟩ := h
  have H0 := Lib.hid h0
  have H1 := Lib.hid h1
  have H2 := Lib.hid h2
  have H3 := Lib.hid h3
  have H4 := Lib.hid h4
  have HSZD : Hid (∀ x ∈ r.accounts, x.name.size ≤ maxLen ∧ x.secret.size ≤ maxLen) := Lib.hid hs
  clear h0 h1 h2 h3 h4 hs
  have G0 : Hid (Grew w (w.alloc (.cells #[v0, v1, v2, v3, v4, .int .i64 r.orders, .int .i64 r.audits, .int .i64 r.rate, .int .i64 r.rounds] 28))) := Lib.hid (by unfold Grew; go_grown)
  have R0 := Lib.hid (heap_alloc_new w (.cells #[v0, v1, v2, v3, v4, .int .i64 r.orders, .int .i64 r.audits, .int .i64 r.rate, .int .i64 r.rounds] 28))
  by_cases hm : mayBe r = true
  · have hp : bytesP r = bytesR r := by unfold bytesP; rw [if_pos hm]
    rw [hp]
    clear hp
    have HRT : Hid (mayBe r = true) := Lib.hid hm
    have HB := Lib.hid (may_bounds hm)
    clear hm
    unfold bytesR
    obtain ⟨X1, e1⟩ : ∃ X, [] ++ (pb r.labels.length ++ r.labels.flatMap encL) = X := ⟨_, rfl⟩
    have E1 := Lib.hid e1
    have S1 : Hid (X1.length ≤ 5000) := Lib.hid (by
      have := flat_le encL r.labels fun x _ => encL_le x
      have hb := HB.out
      rw [← e1, List.nil_append, List.length_append, pb_len]
      omega)
    rw [List.nil_append] at e1
    rw [e1]
    obtain ⟨X2, e2⟩ : ∃ X, X1 ++ (pb r.lines.length ++ r.lines.flatMap pb) = X := ⟨_, rfl⟩
    have E2 := Lib.hid e2
    have S2 : Hid (X2.length ≤ 10000) := Lib.hid (by
      have := flat_le pb r.lines fun x _ => (by rw [pb_len]; omega : (pb x).length ≤ 600)
      have hb := HB.out
      have := S1.out
      rw [← e2, List.length_append, List.length_append, pb_len]
      omega)
    rw [e2]
    obtain ⟨X3, e3⟩ : ∃ X, X2 ++ (pb r.accounts.length ++ r.accounts.flatMap encA) = X := ⟨_, rfl⟩
    have E3 := Lib.hid e3
    have S3 : Hid (X3.length ≤ 15000) := Lib.hid (by
      have := flat_le encA r.accounts fun x _ => encA_le x
      have hb := HB.out
      have := S2.out
      rw [← e3, List.length_append, List.length_append, pb_len]
      omega)
    rw [e3]
    obtain ⟨X4, e4⟩ : ∃ X, X3 ++ (pb r.guilds.length ++ r.guilds.flatMap encG) = X := ⟨_, rfl⟩
    have E4 := Lib.hid e4
    have S4 : Hid (X4.length ≤ 20000) := Lib.hid (by
      have := flat_le encG r.guilds fun x _ => encG_le x
      have hb := HB.out
      have := S3.out
      rw [← e4, List.length_append, List.length_append, pb_len]
      omega)
    rw [e4]
    clear e1 e2 e3 e4
    obtain ⟨c0, c1, c2, c3, c4, c5, c6, c7, c8⟩ := nine_c R0.out
    go_enter Tryz.func29, Tryz.ntmps29
    go_wp2_with fail
    refine (HRI.out _ G0.out).mono ?_
    rintro e w1 ⟨rfl, hg⟩
    have G1 := Lib.hid (G0.out.trans hg)
    have R1 := Lib.hid (keepB R0.out hg)
    clear hg HRI c0 c1 c2 c3 c4 c5 c6 c7 c8
    rw [HRT.out]
    obtain ⟨c0, c1, c2, c3, c4, c5, c6, c7, c8⟩ := nine_c (R1.out)
    go_wp2_with fail
    refine (putLabels (fun _ => True) (.slice none 0 0) [] v0 r.labels w1 (Rd.nil _ _) (H0.out.grew G1.out) (HB.out.2.2.2.2.2) (by have := HB.out; omega) (fun x _ => encL_le x) (by simp)).mono ?_
    rintro e w2 ⟨u1, rfl, hown, hg⟩
    have HO1 : Hid (OwnB w2 w.heap.size u1 X1) := Lib.hid (by rw [← E1.out]; exact OwnB.mono hown G1.out.size)
    have G2 := Lib.hid (G1.out.trans hg)
    have R2 := Lib.hid (keepB R1.out hg)
    clear hown hg c0 c1 c2 c3 c4 c5 c6 c7 c8
    obtain ⟨c0, c1, c2, c3, c4, c5, c6, c7, c8⟩ := nine_c (R2.out)
    go_wp2_with fail
    refine (putLines (fun _ => True) u1 X1 v1 r.lines w2 (HO1.out.rd) (H1.out.grew G2.out) (fun _ _ => trivial) (by have := HB.out; omega) (fun x _ => by rw [pb_len]; omega) (by have := S1.out; omega)).mono ?_
    rintro e w3 ⟨u2, rfl, hown, hg⟩
    have HO2 : Hid (OwnB w3 w.heap.size u2 X2) := Lib.hid (by rw [← E2.out]; exact OwnB.mono hown G2.out.size)
    have G3 := Lib.hid (G2.out.trans hg)
    have R3 := Lib.hid (keepB R2.out hg)
    clear hown hg c0 c1 c2 c3 c4 c5 c6 c7 c8
    obtain ⟨c0, c1, c2, c3, c4, c5, c6, c7, c8⟩ := nine_c (R3.out)
    go_wp2_with fail
    refine (putAccounts (fun _ => True) u2 X2 v2 r.accounts w3 (HO2.out.rd) (H2.out.grew G3.out) HSZD.out (by have := HB.out; omega) (fun x _ => encA_le x) (by have := S2.out; omega)).mono ?_
    rintro e w4 ⟨u3, rfl, hown, hg⟩
    have HO3 : Hid (OwnB w4 w.heap.size u3 X3) := Lib.hid (by rw [← E3.out]; exact OwnB.mono hown G3.out.size)
    have G4 := Lib.hid (G3.out.trans hg)
    have R4 := Lib.hid (keepB R3.out hg)
    clear hown hg c0 c1 c2 c3 c4 c5 c6 c7 c8
    obtain ⟨c0, c1, c2, c3, c4, c5, c6, c7, c8⟩ := nine_c (R4.out)
    go_wp2_with fail
    refine (putGuilds (fun _ => True) u3 X3 v3 r.guilds w4 (HO3.out.rd) (H3.out.grew G4.out) (fun _ _ => trivial) (by have := HB.out; omega) (fun x _ => encG_le x) (by have := S3.out; omega)).mono ?_
    rintro e w5 ⟨u4, rfl, hown, hg⟩
    have HO4 : Hid (OwnB w5 w.heap.size u4 X4) := Lib.hid (by rw [← E4.out]; exact OwnB.mono hown G4.out.size)
    have G5 := Lib.hid (G4.out.trans hg)
    have R5 := Lib.hid (keepB R4.out hg)
    clear hown hg c0 c1 c2 c3 c4 c5 c6 c7 c8
    obtain ⟨c0, c1, c2, c3, c4, c5, c6, c7, c8⟩ := nine_c R5.out
    obtain ⟨A4', cp4, rfl, _⟩ := H4.out.slice
    go_wp2
    go_loopg [3, 27] r.quotas.length (fun g s3 s27 wx => ∃ (k : Nat) (vv : Value), k + g = r.quotas.length ∧ vv = s3 ∧ s27 = .int .i64 k ∧ Hid (OwnB wx w.heap.size s3 (X4 ++ (r.quotas.take k).flatMap encQ)) ∧ Hid (wx.heap[w.heap.size]? = some (.cells #[v0, v1, v2, v3, (.slice A4' r.quotas.length cp4), .int .i64 r.orders, .int .i64 r.audits, .int .i64 r.rate, .int .i64 r.rounds] 28 (0, 0))) ∧ Hid (Grew w wx))
    case atStart => exact ⟨0, _, by omega, rfl, rfl, Lib.hid (by rw [List.take_zero, List.flatMap_nil, List.append_nil]; exact HO4.out), R5, G5⟩
    case round =>
      clear R0 G0 R1 G1 R2 G2 R3 G3 R4 G4 R5 G5 HO1 HO2 HO3 HO4 H0 H1 H2 H3 c0 c1 c2 c3 c4 c5 c6 c7 c8
      obtain ⟨k, u5, hkg, rfl, rfl, HO, HR, HG⟩ := hrel
      cases gk with
      | zero =>
        have hkz : ¬ ((k : Int) < (r.quotas.length : Int)) := by omega
        obtain ⟨c0, c1, c2, c3, c4, c5, c6, c7, c8⟩ := nine_c HR.out
        obtain ⟨Y, hY⟩ : ∃ Y, X4 ++ r.quotas.flatMap encQ = Y := ⟨_, rfl⟩
        have HE : Hid (OwnB wr w.heap.size u5 Y) := Lib.hid (by
          have := HO.out
          rw [show k = r.quotas.length by omega, List.take_length, hY] at this
          exact this)
        have hYL : Y.length ≤ 30000 := by
          have := flat_le encQ r.quotas fun x _ => encQ_le x
          have hb := HB.out
          have := S4.out
          rw [← hY, List.length_append]
          omega
        have HYE := Lib.hid hY
        have ga : Grew wr (wr.alloc (.cells #[.int .i64 r.orders, .int .i64 r.audits, .int .i64 r.rate, .int .i64 r.rounds] 3)) := by unfold Grew; go_grown
        have GA := Lib.hid (HG.out.trans ga)
        have HP := Lib.hid (put_any (fun _ => True) u5 Y _ [r.orders, r.audits, r.rate, r.rounds] _ (HE.out.rd.grew ga) (ints4 wr r.orders r.audits r.rate r.rounds) (by simp) (by simp; omega))
        clear ga hY hYL HO hkg
        go_wp2_with fail
        refine HP.out.mono ?_
        rintro e w2 ⟨v', rfl, hown, hg⟩
        have HO2 := Lib.hid (OwnB.mono hown GA.out.size)
        have HG2 := Lib.hid (GA.out.trans hg)
        clear hown hg HP
        go_wp2
        go_returns
        refine ⟨_, rfl, ?_, HG2.out⟩
        rw [HYE.out]
        exact HO2.out
      | succ g =>
        have hkl : k < r.quotas.length := by omega
        have hkz : (k : Int) < (r.quotas.length : Int) := by omega
        have hx : r.quotas[k]? = some r.quotas[k] := List.getElem?_eq_getElem hkl
        obtain ⟨ad, c9, e9, _, d0, d1, d2, d3, d4, d5⟩ := Qs_at (H4.out.grew HG.out) hx
        injection e9 with e1 e2 e3
        subst e1 e3
        clear e2
        have hts : (r.quotas.take (k + 1)).flatMap encQ = (r.quotas.take k).flatMap encQ ++ encQ r.quotas[k] := by
          rw [List.take_add_one, hx, List.flatMap_append]
          simp
        have HTS := Lib.hid hts
        have hlen : (X4 ++ (r.quotas.take k).flatMap encQ).length ≤ 30000 := by
          have h1 := flat_le encQ (r.quotas.take k) fun x _ => encQ_le x
          rw [List.length_append]
          rw [List.length_take] at h1
          have := HB.out
          have := S4.out
          omega
        have HKW : Hid (wrap64 ((k : Int) + 1) = ((k + 1 : Nat) : Int)) := Lib.hid (by have := HB.out; unfold wrap64; omega)
        have HM : Hid (k + 1 + g = r.quotas.length) := Lib.hid (by omega)
        generalize r.quotas[k] = x at *
        have ga : Grew wr (wr.alloc (.cells #[.int .i64 x.rooms, .int .i64 x.exits, .int .i64 x.items, .int .i64 x.mails, .int .i64 x.trades, .int .u64 (x.cap.toNat : Int)] 100)) := by unfold Grew; go_grown
        have GA := Lib.hid (HG.out.trans ga)
        have GC := Lib.hid ga
        have BQ := Lib.hid (heap_alloc_new wr (.cells #[.int .i64 x.rooms, .int .i64 x.exits, .int .i64 x.items, .int .i64 x.mails, .int .i64 x.trades, .int .u64 (x.cap.toNat : Int)] 100))
        have HRA := Lib.hid (keepB HR.out ga)
        have hoa := own_alloc HO.out (.cells #[.int .i64 x.rooms, .int .i64 x.exits, .int .i64 x.items, .int .i64 x.mails, .int .i64 x.trades, .int .u64 (x.cap.toNat : Int)] 100)
        obtain ⟨Y0, y0⟩ : ∃ Y, X4 ++ (r.quotas.take k).flatMap encQ = Y := ⟨_, rfl⟩
        rw [y0] at hoa hlen
        have HYL := Lib.hid hlen
        have HOA := Lib.hid hoa
        obtain ⟨Y1, y1⟩ : ∃ Y, Y0 ++ putP [x.rooms, x.exits, x.items, x.mails, x.trades] = Y := ⟨_, rfl⟩
        have HY1 := Lib.hid y1
        have hyl : Y1.length ≤ 30005 := by rw [← y1, List.length_append, putP_len]; simp; omega
        have HYM := Lib.hid hyl
        obtain ⟨Y2, y2⟩ : ∃ Y, Y1 ++ be 8 x.cap.toNat = Y := ⟨_, rfl⟩
        have HY2 := Lib.hid y2
        have y3 : X4 ++ (r.quotas.take (k + 1)).flatMap encQ = Y2 := by
          rw [hts, ← List.append_assoc, y0, encQ, ← List.append_assoc, y1, y2]
        have HY3 := Lib.hid y3
        clear ga hoa hx hts hlen hkl hkg hyl y0 y1 y2 y3 HTS HO
        go_wp2
        clear d0 d1 d2 d3 d4 d5
        refine Facts.wp_region_text (by kernel_rfl) (by kernel_rfl) ?_
        apply Facts.Lex.exact [] _ (by kernel_rfl)
        · intro u W hC hK
          clear hK
          unfold Facts.one
          go_simp
          first | exact ⟨Grew.refl _, rfl⟩ | rfl
        simp only [Act.put, List.setIfInBounds_toArray, List.set_cons_zero, List.set_cons_succ, Nat.zero_add]
        apply Facts.Lex.exact [] _ (by kernel_rfl)
        · intro u W hC hK
          clear hK
          unfold Facts.one
          go_simp
          first | exact ⟨Grew.refl _, rfl⟩ | rfl
        simp only [Act.put, List.setIfInBounds_toArray, List.set_cons_zero, List.set_cons_succ, Nat.reduceAdd]
        apply Facts.Lex.exact [] (.int .i64 x.rooms) (by kernel_rfl)
        · intro u W hC hK
          clear hK
          obtain ⟨b0, b1, b2, b3, b4, b5⟩ := six_c (keepB BQ.out hC)
          unfold Facts.one
          go_simp
          first | exact ⟨Grew.refl _, rfl⟩ | rfl
        simp only [Act.put, List.setIfInBounds_toArray, List.set_cons_zero, List.set_cons_succ, Nat.reduceAdd]
        apply Facts.Lex.exact [] _ (by kernel_rfl)
        · intro u W hC hK
          clear hK
          unfold Facts.one
          go_simp
          first | exact ⟨Grew.refl _, rfl⟩ | rfl
        simp only [Act.put, List.setIfInBounds_toArray, List.set_cons_zero, List.set_cons_succ, Nat.reduceAdd]
        apply Facts.Lex.exact [] (.int .i64 x.exits) (by kernel_rfl)
        · intro u W hC hK
          clear hK
          obtain ⟨b0, b1, b2, b3, b4, b5⟩ := six_c (keepB BQ.out hC)
          unfold Facts.one
          go_simp
          first | exact ⟨Grew.refl _, rfl⟩ | rfl
        simp only [Act.put, List.setIfInBounds_toArray, List.set_cons_zero, List.set_cons_succ, Nat.reduceAdd]
        apply Facts.Lex.exact [] _ (by kernel_rfl)
        · intro u W hC hK
          clear hK
          unfold Facts.one
          go_simp
          first | exact ⟨Grew.refl _, rfl⟩ | rfl
        simp only [Act.put, List.setIfInBounds_toArray, List.set_cons_zero, List.set_cons_succ, Nat.reduceAdd]
        apply Facts.Lex.exact [] (.int .i64 x.items) (by kernel_rfl)
        · intro u W hC hK
          clear hK
          obtain ⟨b0, b1, b2, b3, b4, b5⟩ := six_c (keepB BQ.out hC)
          unfold Facts.one
          go_simp
          first | exact ⟨Grew.refl _, rfl⟩ | rfl
        simp only [Act.put, List.setIfInBounds_toArray, List.set_cons_zero, List.set_cons_succ, Nat.reduceAdd]
        apply Facts.Lex.exact [] _ (by kernel_rfl)
        · intro u W hC hK
          clear hK
          unfold Facts.one
          go_simp
          first | exact ⟨Grew.refl _, rfl⟩ | rfl
        simp only [Act.put, List.setIfInBounds_toArray, List.set_cons_zero, List.set_cons_succ, Nat.reduceAdd]
        apply Facts.Lex.exact [] (.int .i64 x.mails) (by kernel_rfl)
        · intro u W hC hK
          clear hK
          obtain ⟨b0, b1, b2, b3, b4, b5⟩ := six_c (keepB BQ.out hC)
          unfold Facts.one
          go_simp
          first | exact ⟨Grew.refl _, rfl⟩ | rfl
        simp only [Act.put, List.setIfInBounds_toArray, List.set_cons_zero, List.set_cons_succ, Nat.reduceAdd]
        apply Facts.Lex.exact [] _ (by kernel_rfl)
        · intro u W hC hK
          clear hK
          unfold Facts.one
          go_simp
          first | exact ⟨Grew.refl _, rfl⟩ | rfl
        simp only [Act.put, List.setIfInBounds_toArray, List.set_cons_zero, List.set_cons_succ, Nat.reduceAdd]
        apply Facts.Lex.exact [] (.int .i64 x.trades) (by kernel_rfl)
        · intro u W hC hK
          clear hK
          obtain ⟨b0, b1, b2, b3, b4, b5⟩ := six_c (keepB BQ.out hC)
          unfold Facts.one
          go_simp
          first | exact ⟨Grew.refl _, rfl⟩ | rfl
        simp only [Act.put, List.setIfInBounds_toArray, List.set_cons_zero, List.set_cons_succ, Nat.reduceAdd]
        refine Facts.Lex.know [] (fun v w => Is w v [x.rooms, x.exits, x.items, x.mails, x.trades]) (by kernel_rfl) (fun _ _ _ h hg => h.grew hg) ?_ ?_
        · intro u W hC hK
          clear hK
          have hi := ints5 W x.rooms x.exits x.items x.mails x.trades
          have HI := Lib.hid hi
          clear hi
          unfold Facts.one
          go_simp
          exact ⟨by unfold Grew; go_grown, HI.out⟩
        simp only [Act.put, List.setIfInBounds_toArray, List.set_cons_zero, List.set_cons_succ, Nat.reduceAdd]
        refine Facts.Lex.know [11] (fun v w => Rd (fun _ => True) w v Y1) (by kernel_rfl) (fun _ _ _ h hg => h.grew hg) ?_ ?_
        · intro u W hC hK
          have hI : Is W (u 11) [x.rooms, x.exits, x.items, x.mails, x.trades] := hK.1
          have HC9 := Lib.hid (put_any (fun _ => True) u5 Y0 (u 11) _ W ((HOA.out.rd).grew hC) hI (by simp) (by have := HYL.out; simp; omega))
          rw [HY1.out] at HC9
          clear hK hI
          unfold Facts.one
          go_simp
          refine HC9.out.mono ?_
          rintro e w' ⟨v', rfl, hi, hg⟩
          exact ⟨_, rfl, hg, hi.rd⟩
        simp only [Act.put, List.setIfInBounds_toArray, List.set_cons_zero, List.set_cons_succ, Nat.reduceAdd]
        apply Facts.Lex.exact [] _ (by kernel_rfl)
        · intro u W hC hK
          clear hK
          unfold Facts.one
          go_simp
          first | exact ⟨Grew.refl _, rfl⟩ | rfl
        simp only [Act.put, List.setIfInBounds_toArray, List.set_cons_zero, List.set_cons_succ, Nat.reduceAdd]
        apply Facts.Lex.exact [] (.int .u64 (x.cap.toNat : Int)) (by kernel_rfl)
        · intro u W hC hK
          clear hK
          obtain ⟨b0, b1, b2, b3, b4, b5⟩ := six_c (keepB BQ.out hC)
          unfold Facts.one
          go_simp
          first | exact ⟨Grew.refl _, rfl⟩ | rfl
        simp only [Act.put, List.setIfInBounds_toArray, List.set_cons_zero, List.set_cons_succ, Nat.reduceAdd]
        refine Facts.Lex.know [12] (fun v W => OwnB W w.heap.size v Y2) (by kernel_rfl) (fun _ _ _ h hg => own_bgrew h hg) ?_ ?_
        · intro u W hC hK
          have hR : Rd (fun _ => True) W (u 12) Y1 := hK.1
          have HC9 := Lib.hid (num_any (fun _ => True) (u 12) Y1 x.cap.toNat 8 W hR (by have := HYM.out; omega))
          rw [width8, HY2.out] at HC9
          have HSZ := Lib.hid (Nat.le_trans GA.out.size hC.size)
          clear hK hR
          unfold Facts.one
          go_simp
          refine HC9.out.mono ?_
          rintro e w' ⟨v', rfl, hi, hg⟩
          exact ⟨_, rfl, hg, (OwnB.of hi (by rw [← HY2.out, List.length_append, be_length])).mono HSZ.out⟩
        simp only [Act.put, List.setIfInBounds_toArray, List.set_cons_zero, List.set_cons_succ, Nat.reduceAdd]
        refine Facts.Lex.know [15] (fun v W => OwnB W w.heap.size v Y2) (by kernel_rfl) (fun _ _ _ h hg => own_bgrew h hg) ?_ ?_
        · intro u W hC hK
          have hR : OwnB W w.heap.size (u 15) Y2 := hK.1
          have HR := Lib.hid hR
          clear hK hR
          unfold Facts.one
          go_simp
          exact ⟨Grew.refl _, HR.out⟩
        simp only [Act.put, List.setIfInBounds_toArray, List.set_cons_zero, List.set_cons_succ, Nat.reduceAdd]
        refine Facts.Lex.done fun u W2 hC hL => ?_
        have HY : Hid (OwnB W2 w.heap.size (u 16) Y2) := Lib.hid (hL _ (List.mem_cons_self ..))
        have HG2 : Hid (Grew w W2) := Lib.hid (GA.out.trans hC)
        have HR2 := Lib.hid (keepB HRA.out hC)
        clear hC hL
        generalize u 16 = v9 at *
        go_wp2
        go_roundg g
        case measure => omega
        case rel => exact ⟨k + 1, _, HM.out, rfl, by first | rfl | (simp; done) | rw [HKW.out], Lib.hid (by rw [HY3.out]; exact HY.out), HR2, HG2⟩
  · have hp : bytesP r = [] := by unfold bytesP; rw [if_neg hm]
    rw [hp]
    have HRT : Hid (mayBe r = false) := Lib.hid (by simpa using hm)
    clear hp hm
    obtain ⟨c0, c1, c2, c3, c4, c5, c6, c7, c8⟩ := nine_c R0.out
    go_enter Tryz.func29, Tryz.ntmps29
    go_wp2_with fail
    refine (HRI.out _ G0.out).mono ?_
    rintro e w1 ⟨rfl, hg⟩
    have G1 := Lib.hid (G0.out.trans hg)
    clear hg HRI c0 c1 c2 c3 c4 c5 c6 c7 c8
    rw [HRT.out]
    go_wp2
    go_returns
    exact ⟨_, rfl, own_none _ _, G1.out⟩
end Go.Proofs.YtmegdgeiikhflaaGreat.BE
