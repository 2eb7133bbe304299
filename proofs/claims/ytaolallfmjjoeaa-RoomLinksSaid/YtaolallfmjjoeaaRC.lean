/-
  Which rooms may be; a room is dug; which exits may be, and the first one that leads from a room in a direction.
  Conditions: those that each lemma names.
-/
import Derived.Test.YtaolallfmjjoeaaRB
namespace Go.Proofs.Ytaolallfmjjoeaa.RC
set_option maxRecDepth 100000
open Go Go.RowKit Go.Lib Go.Proofs.Ytaolallfmjjoeaa Go.Proofs.Ytaolallfmjjoeaa.Facts Go.Proofs.Ytaolallfmjjoeaa.Ints Go.Proofs.Ytaolallfmjjoeaa.TI Go.Proofs.Ytaolallfmjjoeaa.TP Go.Proofs.Ytaolallfmjjoeaa.TB Go.Proofs.Ytaolallfmjjoeaa.TC Go.Proofs.Ytaolallfmjjoeaa.TD Go.Proofs.Ytaolallfmjjoeaa.TE Go.Proofs.Ytaolallfmjjoeaa.TF Go.Proofs.Ytaolallfmjjoeaa.TH Go.Proofs.Ytaolallfmjjoeaa.RA Go.Proofs.Ytaolallfmjjoeaa.RB Go.Proofs.Ytaolallfmjjoeaa.Bytes


def okR (x : Rm) : Bool := if x.used then Chars.right x.name.data.toList else decide (x = zrm)
theorem rr_any (x : Rm) (hs : x.name.size ≤ 9223372036854775807) (w : World) : Calls Try.prog 49 #[rmv x] w fun e w' => e = .returned (.bool (okR x)) ∧ Grew w w' := by
  cases hu : x.used with
  | false =>
    by_cases hz : x = zrm
    · subst hz
      unfold rmv zrm
      go_enter Try.func49, Try.ntmps49
      go_wp2
      go_returns
      exact ⟨rfl, by unfold Grew; go_grown⟩
    · have e : okR x = false := by unfold okR; rw [hu]; simp [hz]
      rw [e]
      obtain ⟨u, s⟩ := x
      simp only at hu
      subst hu
      have hz' : ¬ s = ⟨#[]⟩ := by
        rintro rfl
        exact hz rfl
      have hb : s.toList = [] → s = ⟨#[]⟩ := fun h => (Lib.bytes_beq_iff s ⟨#[]⟩).1 (by rw [h]; first | decide | simp | kernel_rfl)
      have HZ := Lib.hid hz'
      have HB := Lib.hid hb
      clear hz hz' hb e hs
      unfold rmv
      go_enter Try.func49, Try.ntmps49
      go_wp2
      all_goals go_returns
      all_goals refine ⟨?_, by unfold Grew; go_grown⟩
      all_goals first | rfl | exact absurd (HB.out (by assumption)) HZ.out
  | true =>
    have e : okR x = Chars.right x.name.data.toList := by unfold okR; rw [hu]; rfl
    rw [e]
    clear e
    have HR := Lib.hid (fun W => Chars.right_any x.name hs W)
    generalize Chars.right x.name.data.toList = p at *
    obtain ⟨u, s⟩ := x
    simp only at hu HR hs
    subst hu
    have G0 : Hid (Grew w (w.alloc (.cells #[.bool true, .string s] 74))) := Lib.hid (by unfold Grew; go_grown)
    clear hs
    unfold rmv
    simp only
    go_enter Try.func49, Try.ntmps49
    go_wp2_with fail
    refine (HR.out _).mono ?_
    rintro e w1 ⟨rfl, hw⟩
    subst hw
    go_wp2
    go_returns
    exact ⟨rfl, G0.out⟩
theorem notR_any (x : Rm) (hs : x.name.size ≤ 9223372036854775807) (w : World) : Calls Try.prog 48 #[rmv x] w fun e w' => e = .returned (.bool (!okR x)) ∧ Grew w w' := by
  have HO := Lib.hid (fun W => rr_any x hs W)
  generalize okR x = p at *
  unfold rmv at *
  obtain ⟨u, s⟩ := x
  simp only at hs HO
  have G0 : Hid (Grew w (w.alloc (.cells #[.bool u, .string s] 74))) := Lib.hid (by unfold Grew; go_grown)
  clear hs
  go_enter Try.func48, Try.ntmps48
  go_wp2_with fail
  refine (HO.out _).mono ?_
  rintro e w1 ⟨rfl, hg⟩
  have G1 := Lib.hid (G0.out.trans hg)
  clear hg
  go_wp2
  go_returns
  exact ⟨by simp, G1.out⟩

theorem idxR (v : Value) (l : List Rm) (p : Rm → Bool) (w : World) (h : Rms w v l)
    (hp : ∀ x, x ∈ l → ∀ W, Grew w W → Calls Try.prog 48 #[rmv x] W fun e w' => e = .returned (.bool (p x)) ∧ Grew W w') :
    Calls Try.prog 83 #[v, .func (.func 48) #[] #[]] w fun e w' => e = .returned (.int .i64 (fidx l p)) ∧ Grew w w' := by
  have HL := Lib.hid h
  have HP := Lib.hid hp
  obtain ⟨A, cp, rfl, hc1, hc2⟩ := h.slice
  have HC2 := Lib.hid hc2
  clear h hp hc2
  have HH := Lib.hid (fun k x => @fidx_hit Rm l p k x)
  have HM := Lib.hid (@fidx_miss Rm l p)
  generalize fidx l p = res at *
  go_enter Try.func83, Try.ntmps83
  go_wp2
  go_loopg [8] l.length (fun g s8 wx => ∃ k : Nat, k + g = l.length ∧ s8 = .int .i64 k ∧ Hid (∀ j y, j < k → l[j]? = some y → p y = false) ∧ Hid (Grew w wx))
  case atStart => exact ⟨0, by omega, rfl, Lib.hid (fun j y h => absurd h (by omega)), Lib.hid (Grew.refl _)⟩
  case round =>
    obtain ⟨k, hkg, rfl, HJ, HG⟩ := hrel
    cases gk with
    | zero =>
      have hkz : ¬ ((k : Int) < (l.length : Int)) := by omega
      have HR : Hid (res = -1) := Lib.hid (HM.out fun j y hy => HJ.out j y (by have := (List.getElem?_eq_some_iff.1 hy).1; omega) hy)
      go_wp2
      go_returns
      refine ⟨?_, HG.out⟩
      rw [HR.out]
      try rfl
    | succ g =>
      have hkz : (k : Int) < (l.length : Int) := by omega
      have hkl : k < l.length := by omega
      have hx : l[k]? = some l[k] := List.getElem?_eq_getElem hkl
      obtain ⟨ad, c9, e, hc, c0, c1⟩ := Rms_at (HL.out.grew HG.out) hx
      injection e with e1 _ e3
      subst e1 e3
      have HX := Lib.hid hx
      have HF := Lib.hid (HP.out l[k] (List.getElem_mem hkl))
      have hkw : wrap64 ((k : Int) + 1) = (k : Int) + 1 := by
        have hc2 := HC2.out
        unfold maxLen at hc2
        unfold wrap64
        omega
      generalize l[k] = x at c0 c1 HX HF
      clear hx hkl
      cases hpx : p x with
      | true =>
        rw [hpx] at HF
        have HR : Hid (res = k) := Lib.hid (HH.out _ _ HX.out hpx HJ.out)
        clear HX hpx
        go_wp2_with fail
        refine (HF.out _ HG.out).mono ?_
        rintro e w2 ⟨rfl, hg⟩
        have G2 := Lib.hid (HG.out.trans hg)
        clear hg c0 c1
        go_wp2
        go_returns
        refine ⟨?_, G2.out⟩
        rw [HR.out]
        try rfl
      | false =>
        have HN : Hid (∀ j y, j < k + 1 → l[j]? = some y → p y = false) := Lib.hid fun j y hj hy => by
          by_cases hjk : j = k
          · subst hjk
            rw [HX.out] at hy
            cases hy
            exact hpx
          · exact HJ.out j y (by omega) hy
        rw [hpx] at HF
        clear HX hpx
        go_wp2_with fail
        refine (HF.out _ HG.out).mono ?_
        rintro e w2 ⟨rfl, hg⟩
        have G2 := Lib.hid (HG.out.trans hg)
        clear hg c0 c1
        go_wp2
        go_roundg g
        case measure => omega
        case rel => exact ⟨k + 1, by omega, by first | rfl | simp [hkw] | simp, HN, G2⟩

theorem contR (v : Value) (l : List Rm) (p : Rm → Bool) (w : World) (h : Rms w v l)
    (hp : ∀ x, x ∈ l → ∀ W, Grew w W → Calls Try.prog 48 #[rmv x] W fun e w' => e = .returned (.bool (p x)) ∧ Grew W w') :
    Calls Try.prog 47 #[v, .func (.func 48) #[] #[]] w fun e w' => e = .returned (.bool (l.any p)) ∧ Grew w w' := by
  have HI := Lib.hid (idxR v l p w h hp)
  rw [← fidx_neg]
  generalize fidx l p = res at *
  obtain ⟨A, cp, rfl, _⟩ := h.slice
  clear h hp
  by_cases hr : 0 ≤ res
  all_goals
    go_enter Try.func47, Try.ntmps47
    go_wp2_with fail
    refine HI.out.mono ?_
    rintro e w2 ⟨rfl, hg⟩
    have G2 := Lib.hid hg
    clear hg
    go_wp2
    go_returns
    exact ⟨by simp [hr], G2.out⟩

def SzR (l : List Rm) : Prop := ∀ x ∈ l, x.name.size ≤ 9223372036854775807
def okRs (l : List Rm) : Bool := l.all okR
theorem rooms_any (v : Value) (l : List Rm) (w : World) (h : Rms w v l) (hs : SzR l) : Calls Try.prog 11 #[v] w fun e w' => e = .returned (.bool (okRs l)) ∧ Grew w w' := by
  have HC := Lib.hid (contR v l (fun x => !okR x) w h fun x hx W _ => notR_any x (hs x hx) W)
  have e : okRs l = !(l.any fun x => !okR x) := (any_not l okR).symm
  rw [e]
  clear e
  generalize (l.any fun x => !okR x) = p at *
  obtain ⟨A, cp, rfl, _⟩ := h.slice
  clear h hs
  go_enter Try.func11, Try.ntmps11
  go_wp2_with fail
  refine HC.out.mono ?_
  rintro e w1 ⟨rfl, hg⟩
  have G1 := Lib.hid hg
  clear hg
  go_wp2
  go_returns
  exact ⟨by simp, G1.out⟩
/-- What comes of digging. -/
def digP (l : List Rm) (s : ByteArray) : List Rm × Int × Int :=
  if okRs l = false then ([], 0, 1) else if Chars.right s.data.toList = false then ([], 0, 2) else if rofree l = -1 then ([], 0, 8) else (l.set (rofree l).toNat ⟨true, s⟩, rofree l, 0)
def AnsR (r : List Rm × Int × Int) (w : World) (e : Ending) (w' : World) : Prop := ∃ v', e = .returned (.tuple #[v', .int .i64 r.2.1, .int .i64 r.2.2]) ∧ Rms w' v' r.1 ∧ Grew w w'
theorem dig_any (v : Value) (l : List Rm) (s : ByteArray) (w : World) (hl : Rms w v l) (hz : SzR l) (hn : l.length * 24 ≤ 140737488355328) (hs : s.size ≤ 9223372036854775807) :
    Calls Try.prog 8 #[v, .string s] w (AnsR (digP l s) w) := by
  unfold digP
  have HM := Lib.hid (rooms_any v l w hl hz)
  have HR := Lib.hid (fun W => Chars.right_any s hs W)
  have HROW := Lib.hid (fun W (hg : Grew w W) => ro_row W v l (hl.grew hg) hn)
  have HADD := Lib.hid (fun W b (hr : RowR W b l) => ro_add W b l ⟨true, s⟩ hr hn)
  have hv : rmv ⟨true, s⟩ = .agg #[.bool true, .string s] := rfl
  rw [hv] at HADD
  have hR : (if rofree l = -1 then (([], 0, 8) : List Rm × Int × Int) else (l.set (rofree l).toNat ⟨true, s⟩, rofree l, 0)) = ((if rofree l = -1 then [] else l.set (rofree l).toNat ⟨true, s⟩), (if rofree l = -1 then 0 else rofree l), (if rofree l = -1 then 8 else 0)) := by split <;> rfl
  rw [hR]
  generalize (if rofree l = -1 then ([] : List Rm) else l.set (rofree l).toNat ⟨true, s⟩) = R at *
  generalize (if rofree l = -1 then (0 : Int) else rofree l) = ki at *
  generalize (if rofree l = -1 then (8 : Int) else 0) = er at *
  generalize okRs l = p at *
  generalize Chars.right s.data.toList = q at *
  obtain ⟨A, c, rfl, _⟩ := hl.slice
  clear hl hv hR hs hz hn
  cases p with
  | false =>
    simp only [if_true]
    go_enter Try.func8, Try.ntmps8
    go_wp2_with fail
    refine HM.out.mono ?_
    rintro e w1 ⟨rfl, hg⟩
    have G1 := Lib.hid hg
    clear hg
    go_wp2
    go_returns
    exact ⟨_, rfl, rw_none _, G1.out⟩
  | true =>
    cases q with
    | false =>
      simp only [if_true, Bool.true_eq_false, if_false]
      go_enter Try.func8, Try.ntmps8
      go_wp2_with fail
      refine HM.out.mono ?_
      rintro e w1 ⟨rfl, hg⟩
      have G1 := Lib.hid hg
      clear hg
      go_wp2_with fail
      refine (HR.out _).mono ?_
      rintro e w3 ⟨rfl, hw⟩
      subst hw
      go_wp2
      go_returns
      exact ⟨_, rfl, rw_none _, G1.out⟩
    | true =>
      simp only [Bool.true_eq_false, if_false]
      go_enter Try.func8, Try.ntmps8
      go_wp2_with fail
      refine HM.out.mono ?_
      rintro e w1 ⟨rfl, hg⟩
      have G1 := Lib.hid hg
      clear hg
      go_wp2_with fail
      refine (HR.out _).mono ?_
      rintro e w3 ⟨rfl, hw⟩
      subst hw
      go_wp2_with fail
      refine (HROW.out _ G1.out).mono ?_
      rintro e w5 ⟨b, rfl, hr, hg⟩
      have G5 := Lib.hid (G1.out.trans hg)
      have HA := Lib.hid (HADD.out w5 b hr)
      clear hr hg
      go_wp2_with fail
      refine HA.out.mono ?_
      rintro e w8 ⟨v', rfl, hi, hg⟩
      have G8 := Lib.hid (G5.out.trans hg)
      have HI := Lib.hid hi
      obtain ⟨A2, c2, rfl, _⟩ := hi.slice
      clear hi hg
      go_wp2
      go_returns
      exact ⟨_, rfl, HI.out, G8.out⟩

theorem told_any (a b : Int) (w : World) : Calls Try.prog 86 #[.agg #[.int .i64 a, .int .i64 b]] w fun e w' => e = .returned (.bool (num a && num b)) ∧ Grew w w' := by
  rcases num_cases a with ⟨h, h2, e⟩ | ⟨h, e⟩ | ⟨h, h2, e⟩
  · rw [e]
    rcases num_cases b with ⟨k, k2, e2⟩ | ⟨k, e2⟩ | ⟨k, k2, e2⟩
    all_goals
      rw [e2]
      clear e e2
      go_enter Try.func86, Try.ntmps86
      go_wp2
      go_returns
      exact ⟨rfl, by unfold Grew; go_grown⟩
  all_goals
    rw [e, Bool.false_and]
    clear e
    go_enter Try.func86, Try.ntmps86
    go_wp2
    go_returns
    exact ⟨rfl, by unfold Grew; go_grown⟩

def okE (x : Ex) : Bool := if x.used then (num x.fl && num x.fs) && (num x.tl && num x.ts) && (decide (0 ≤ x.dir) && decide (x.dir < 6)) else decide (x = zex)
theorem re_any (x : Ex) (w : World) : Calls Try.prog 51 #[exv x] w fun e w' => e = .returned (.bool (okE x)) ∧ Grew w w' := by
  obtain ⟨u, fl, fs, tl, ts, d⟩ := x
  unfold exv
  simp only
  have G0 : Hid (Grew w (w.alloc (.cells #[.bool u, .int .i64 fl, .int .i64 fs, .int .i64 tl, .int .i64 ts, .int .i64 d] 41))) := Lib.hid (by unfold Grew; go_grown)
  have A0 : Hid ((w.alloc (.cells #[.bool u, .int .i64 fl, .int .i64 fs, .int .i64 tl, .int .i64 ts, .int .i64 d] 41)).heap[w.heap.size]? = some (.cells #[.bool u, .int .i64 fl, .int .i64 fs, .int .i64 tl, .int .i64 ts, .int .i64 d] 41 (0, 0))) := Lib.hid (heap_alloc_new w _)
  cases u with
  | false =>
    by_cases hz : fl = 0 ∧ fs = 0 ∧ tl = 0 ∧ ts = 0 ∧ d = 0
    · obtain ⟨rfl, rfl, rfl, rfl, rfl⟩ := hz
      go_enter Try.func51, Try.ntmps51
      go_wp2
      go_returns
      exact ⟨rfl, G0.out⟩
    · have e : okE ⟨false, fl, fs, tl, ts, d⟩ = false := by
        unfold okE zex
        simp only [Bool.false_eq_true, if_false, decide_eq_false_iff_not]
        intro h
        injection h with _ h1 h2 h3 h4 h5
        exact hz ⟨h1, h2, h3, h4, h5⟩
      rw [e]
      have HZ := Lib.hid hz
      clear hz e
      go_enter Try.func51, Try.ntmps51
      go_wp2
      all_goals go_returns
      all_goals refine ⟨?_, by unfold Grew; go_grown⟩
      all_goals first | rfl | (exfalso; have := HZ.out; omega)
  | true =>
    have e : okE ⟨true, fl, fs, tl, ts, d⟩ = ((num fl && num fs) && (num tl && num ts) && (decide (0 ≤ d) && decide (d < 6))) := rfl
    rw [e]
    clear e
    have H1 := Lib.hid (fun W => told_any fl fs W)
    have H2 := Lib.hid (fun W => told_any tl ts W)
    generalize (num fl && num fs) = p at *
    generalize (num tl && num ts) = q at *
    cases p with
    | false =>
      go_enter Try.func51, Try.ntmps51
      go_wp2_with fail
      refine (H1.out _).mono ?_
      rintro e w1 ⟨rfl, hg⟩
      have G1 := Lib.hid (G0.out.trans hg)
      clear hg
      go_wp2
      go_returns
      exact ⟨by simp, G1.out⟩
    | true =>
      cases q with
      | false =>
        go_enter Try.func51, Try.ntmps51
        go_wp2_with fail
        refine (H1.out _).mono ?_
        rintro e w1 ⟨rfl, hg⟩
        have G1 := Lib.hid (G0.out.trans hg)
        have A1 := Lib.hid (keepB A0.out hg)
        clear hg
        obtain ⟨c0, c1, c2, c3, c4, c5⟩ := it_cells A1.out
        go_wp2_with fail
        refine (H2.out _).mono ?_
        rintro e w2 ⟨rfl, hg⟩
        have G2 := Lib.hid (G1.out.trans hg)
        clear hg c0 c1 c2 c3 c4 c5
        go_wp2
        go_returns
        exact ⟨by simp, G2.out⟩
      | true =>
        by_cases h0 : 0 ≤ d
        · by_cases h6 : d < 6
          · rw [decide_eq_true h0, decide_eq_true h6]
            go_enter Try.func51, Try.ntmps51
            go_wp2_with fail
            refine (H1.out _).mono ?_
            rintro e w1 ⟨rfl, hg⟩
            have G1 := Lib.hid (G0.out.trans hg)
            have A1 := Lib.hid (keepB A0.out hg)
            clear hg
            obtain ⟨c0, c1, c2, c3, c4, c5⟩ := it_cells A1.out
            go_wp2_with fail
            refine (H2.out _).mono ?_
            rintro e w2 ⟨rfl, hg⟩
            have G2 := Lib.hid (G1.out.trans hg)
            have A2 := Lib.hid (keepB A1.out hg)
            clear hg c0 c1 c2 c3 c4 c5
            obtain ⟨c0, c1, c2, c3, c4, c5⟩ := it_cells A2.out
            go_wp2
            go_returns
            exact ⟨by first | (simp; done) | (simp; omega), G2.out⟩
          · rw [decide_eq_false h6]
            go_enter Try.func51, Try.ntmps51
            go_wp2_with fail
            refine (H1.out _).mono ?_
            rintro e w1 ⟨rfl, hg⟩
            have G1 := Lib.hid (G0.out.trans hg)
            have A1 := Lib.hid (keepB A0.out hg)
            clear hg
            obtain ⟨c0, c1, c2, c3, c4, c5⟩ := it_cells A1.out
            go_wp2_with fail
            refine (H2.out _).mono ?_
            rintro e w2 ⟨rfl, hg⟩
            have G2 := Lib.hid (G1.out.trans hg)
            have A2 := Lib.hid (keepB A1.out hg)
            clear hg c0 c1 c2 c3 c4 c5
            obtain ⟨c0, c1, c2, c3, c4, c5⟩ := it_cells A2.out
            go_wp2
            go_returns
            exact ⟨by first | (simp; done) | (simp; omega), G2.out⟩
        · rw [decide_eq_false h0]
          go_enter Try.func51, Try.ntmps51
          go_wp2_with fail
          refine (H1.out _).mono ?_
          rintro e w1 ⟨rfl, hg⟩
          have G1 := Lib.hid (G0.out.trans hg)
          have A1 := Lib.hid (keepB A0.out hg)
          clear hg
          obtain ⟨c0, c1, c2, c3, c4, c5⟩ := it_cells A1.out
          go_wp2_with fail
          refine (H2.out _).mono ?_
          rintro e w2 ⟨rfl, hg⟩
          have G2 := Lib.hid (G1.out.trans hg)
          have A2 := Lib.hid (keepB A1.out hg)
          clear hg c0 c1 c2 c3 c4 c5
          obtain ⟨c0, c1, c2, c3, c4, c5⟩ := it_cells A2.out
          go_wp2
          go_returns
          exact ⟨by first | (simp; done) | (simp; omega), G2.out⟩

/-- Does it lead from there, in that direction? -/
def lead (x : Ex) (a b d : Int) : Bool := x.used && (decide (x.fl = a) && decide (x.fs = b)) && decide (x.dir = d)
theorem lead_any (x : Ex) (a b d : Int) (F D : Nat) (w : World) (hF : w.heap[F]? = some (.cells #[.int .i64 a, .int .i64 b] 33 (0, 0))) (hD : w.heap[D]? = some (.cells #[.int .i64 d] 3 (0, 0))) :
    Calls Try.prog 85 #[exv x, .pointer (some ⟨F, 0, none⟩), .pointer (some ⟨D, 0, none⟩)] w fun e w' => e = .returned (.bool (lead x a b d)) ∧ Grew w w' := by
  obtain ⟨u, fl, fs, tl, ts, dr⟩ := x
  unfold exv lead
  simp only
  have g0 : Grew w (w.alloc (.cells #[.bool u, .int .i64 fl, .int .i64 fs, .int .i64 tl, .int .i64 ts, .int .i64 dr] 41)) := by unfold Grew; go_grown
  have G0 := Lib.hid g0
  obtain ⟨f0, f1⟩ := two_c hF
  have d0 := one_cell hD
  have hFw : F < w.heap.size := (Array.getElem?_eq_some_iff.1 hF).1
  have hDw : D < w.heap.size := (Array.getElem?_eq_some_iff.1 hD).1
  have f0' := cellB g0 f0
  have f1' := cellB g0 f1
  have d0' := cellB g0 d0
  clear g0 hF hD f0 f1 d0 hFw hDw
  cases u with
  | false =>
    go_enter Try.func85, Try.ntmps85
    go_wp2
    go_returns
    exact ⟨by simp, G0.out⟩
  | true =>
    by_cases h1 : fl = a
    · by_cases h2 : fs = b
      · subst h1 h2
        by_cases h3 : dr = d
        · subst h3
          go_enter Try.func85, Try.ntmps85
          go_wp2
          go_returns
          exact ⟨by simp, G0.out⟩
        · have h3' : (dr == d) = false := by simpa using h3
          rw [decide_eq_false h3]
          clear h3
          go_enter Try.func85, Try.ntmps85
          go_wp2
          go_returns
          exact ⟨by simp, G0.out⟩
      · subst h1
        have h2' : (fs == b) = false := by simpa using h2
        rw [decide_eq_false h2]
        go_enter Try.func85, Try.ntmps85
        go_wp2
        go_returns
        exact ⟨by simp, G0.out⟩
    · have h1' : (fl == a) = false := by simpa using h1
      rw [decide_eq_false h1]
      go_enter Try.func85, Try.ntmps85
      go_wp2
      go_returns
      exact ⟨by simp, G0.out⟩

theorem idxE (v : Value) (l : List Ex) (p : Ex → Bool) (F D : Nat) (w : World) (h : Exs w v l)
    (hp : ∀ x, x ∈ l → ∀ W, Grew w W → Calls Try.prog 85 #[exv x, .pointer (some ⟨F, 0, none⟩), .pointer (some ⟨D, 0, none⟩)] W fun e w' => e = .returned (.bool (p x)) ∧ Grew W w') :
    Calls Try.prog 84 #[v, .func (.func 85) #[] #[.pointer (some ⟨F, 0, none⟩), .pointer (some ⟨D, 0, none⟩)]] w fun e w' => e = .returned (.int .i64 (fidx l p)) ∧ Grew w w' := by
  have HL := Lib.hid h
  have HP := Lib.hid hp
  obtain ⟨A, cp, rfl, hc1, hc2⟩ := h.slice
  have HC2 := Lib.hid hc2
  clear h hp hc2
  have HH := Lib.hid (fun k x => @fidx_hit Ex l p k x)
  have HM := Lib.hid (@fidx_miss Ex l p)
  generalize fidx l p = res at *
  go_enter Try.func84, Try.ntmps84
  go_wp2
  go_loopg [8] l.length (fun g s8 wx => ∃ k : Nat, k + g = l.length ∧ s8 = .int .i64 k ∧ Hid (∀ j y, j < k → l[j]? = some y → p y = false) ∧ Hid (Grew w wx))
  case atStart => exact ⟨0, by omega, rfl, Lib.hid (fun j y h => absurd h (by omega)), Lib.hid (Grew.refl _)⟩
  case round =>
    obtain ⟨k, hkg, rfl, HJ, HG⟩ := hrel
    cases gk with
    | zero =>
      have hkz : ¬ ((k : Int) < (l.length : Int)) := by omega
      have HR : Hid (res = -1) := Lib.hid (HM.out fun j y hy => HJ.out j y (by have := (List.getElem?_eq_some_iff.1 hy).1; omega) hy)
      go_wp2
      go_returns
      refine ⟨?_, HG.out⟩
      rw [HR.out]
      try rfl
    | succ g =>
      have hkz : (k : Int) < (l.length : Int) := by omega
      have hkl : k < l.length := by omega
      have hx : l[k]? = some l[k] := List.getElem?_eq_getElem hkl
      obtain ⟨ad, c9, e, hc, c0, c1, c2, c3, c4, c5⟩ := Exs_at (HL.out.grew HG.out) hx
      injection e with e1 _ e3
      subst e1 e3
      have HX := Lib.hid hx
      have HF := Lib.hid (HP.out l[k] (List.getElem_mem hkl))
      have hkw : wrap64 ((k : Int) + 1) = (k : Int) + 1 := by
        have hc2 := HC2.out
        unfold maxLen at hc2
        unfold wrap64
        omega
      generalize l[k] = x at c0 c1 c2 c3 c4 c5 HX HF
      clear hx hkl
      cases hpx : p x with
      | true =>
        rw [hpx] at HF
        have HR : Hid (res = k) := Lib.hid (HH.out _ _ HX.out hpx HJ.out)
        clear HX hpx
        go_wp2_with fail
        refine (HF.out _ HG.out).mono ?_
        rintro e w2 ⟨rfl, hg⟩
        have G2 := Lib.hid (HG.out.trans hg)
        clear hg c0 c1 c2 c3 c4 c5
        go_wp2
        go_returns
        refine ⟨?_, G2.out⟩
        rw [HR.out]
        try rfl
      | false =>
        have HN : Hid (∀ j y, j < k + 1 → l[j]? = some y → p y = false) := Lib.hid fun j y hj hy => by
          by_cases hjk : j = k
          · subst hjk
            rw [HX.out] at hy
            cases hy
            exact hpx
          · exact HJ.out j y (by omega) hy
        rw [hpx] at HF
        clear HX hpx
        go_wp2_with fail
        refine (HF.out _ HG.out).mono ?_
        rintro e w2 ⟨rfl, hg⟩
        have G2 := Lib.hid (HG.out.trans hg)
        clear hg c0 c1 c2 c3 c4 c5
        go_wp2
        go_roundg g
        case measure => omega
        case rel => exact ⟨k + 1, by omega, by first | rfl | simp [hkw] | simp, HN, G2⟩

theorem slot_any (v : Value) (l : List Ex) (a b d : Int) (w : World) (h : Exs w v l) : Calls Try.prog 50 #[v, .agg #[.int .i64 a, .int .i64 b], .int .i64 d] w fun e w' => e = .returned (.int .i64 (fidx l fun x => lead x a b d)) ∧ Grew w w' := by
  have g1 : Grew w ((w.alloc (.cells #[.int .i64 a, .int .i64 b] 33)).alloc (.cells #[.int .i64 d] 3)) := by unfold Grew; go_grown
  have bF : ((w.alloc (.cells #[.int .i64 a, .int .i64 b] 33)).alloc (.cells #[.int .i64 d] 3)).heap[w.heap.size]? = some (.cells #[.int .i64 a, .int .i64 b] 33 (0, 0)) := keepB (heap_alloc_new w _) (by unfold Grew; go_grown)
  have bD : ((w.alloc (.cells #[.int .i64 a, .int .i64 b] 33)).alloc (.cells #[.int .i64 d] 3)).heap[w.heap.size + 1]? = some (.cells #[.int .i64 d] 3 (0, 0)) := heap_alloc2_new w _ _
  have HI := Lib.hid (idxE v l (fun x => lead x a b d) w.heap.size (w.heap.size + 1) _ (h.grew g1) fun x _ W hW => lead_any x a b d _ _ W (keepB bF hW) (keepB bD hW))
  have G1 := Lib.hid g1
  generalize fidx l (fun x => lead x a b d) = r at *
  obtain ⟨A, c, rfl, _⟩ := h.slice
  clear g1 bF bD h
  go_enter Try.func50, Try.ntmps50
  go_wp2_with fail
  refine HI.out.mono ?_
  rintro e w1 ⟨rfl, hg⟩
  have G2 := Lib.hid (G1.out.trans hg)
  clear hg
  go_wp2
  go_returns
  exact ⟨rfl, G2.out⟩
end Go.Proofs.Ytaolallfmjjoeaa.RC
