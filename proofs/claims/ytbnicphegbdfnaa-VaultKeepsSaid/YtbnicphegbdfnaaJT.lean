/-
  The states of a journal whose power may go.
  Conditions: those that each lemma names.
-/
import Derived.Test.YtbnicphegbdfnaaJI
import Derived.Test.YtbnicphegbdfnaaJQ
import Derived.Test.YtbnicphegbdfnaaJF
namespace Go.Proofs.Ytbnicphegbdfnaa.JT
set_option maxRecDepth 100000
set_option maxRecDepth 100000
open Go Go.RowKit Go.Proofs.Ytbnicphegbdfnaa Go.Proofs.Ytbnicphegbdfnaa.Facts Go.Proofs.Ytbnicphegbdfnaa.Bytes Go.Proofs.Ytbnicphegbdfnaa.DKeep Go.Proofs.Ytbnicphegbdfnaa.DSmall Go.Proofs.Ytbnicphegbdfnaa.Puts Go.Proofs.Ytbnicphegbdfnaa.Scan Go.Proofs.Ytbnicphegbdfnaa.SPure Go.Proofs.Ytbnicphegbdfnaa.JA Go.Proofs.Ytbnicphegbdfnaa.JB Go.Proofs.Ytbnicphegbdfnaa.JC Go.Proofs.Ytbnicphegbdfnaa.JD Go.Proofs.Ytbnicphegbdfnaa.JE Go.Proofs.Ytbnicphegbdfnaa.JF Go.Proofs.Ytbnicphegbdfnaa.JH Go.Proofs.Ytbnicphegbdfnaa.JP Go.Proofs.Ytbnicphegbdfnaa.JQ Go.Proofs.Ytbnicphegbdfnaa.JI

/-- Where a disk and its journal lie, whatever the disk holds. -/
def AT (w : World) (g gj : Nat) (j : Jr) (d : Pd) (y : World) : Prop := ∃ D, DK y g D d ∧ JL y gj g j ∧ DAlive.Above D w.heap.size ∧ (∀ k, D k → k < y.heap.size) ∧ ¬ D gj ∧ Grew w y
theorem AT.grew {w y z : World} {g gj : Nat} {j : Jr} {d : Pd} (h : AT w g gj j d y) (hg : Grew y z) : AT w g gj j d z := by
  obtain ⟨D, h1, h2, h4, h5, h6, h7⟩ := h
  exact ⟨D, h1.grew hg, h2.grew hg, h4, fun k hk => Nat.lt_of_lt_of_le (h5 k hk) hg.size, h6, h7.trans hg⟩
theorem AT.g {w y : World} {g gj : Nat} {j : Jr} {d : Pd} (h : AT w g gj j d y) : Grew w y := by
  obtain ⟨D, h1, h2, h4, h5, h6, h7⟩ := h
  exact h7
theorem app_at (w y : World) (g gj : Nat) (j j' : Jr) (d d' : Pd) (q : Int) (S : Nat → Prop) (v : Value) (b : List UInt8) (h : AT w g gj j d y) (hgj : w.heap.size ≤ gj) (hk : JK j) (hb : 1 ≤ j.base) (hw : d.waits.length ≤ 1000000000) (hr : Rd S y v b) (he : japp j d b = (j', d', q)) :
    Calls Try.prog 27 #[.pointer (some ⟨gj, 0, none⟩), v] y fun e z => e = .returned (.int .i64 q) ∧ AT w g gj j' d' z := by
  obtain ⟨D, h1, h2, h4, h5, h6, h7⟩ := h
  have hc := japp_any y gj g j D d S v b h2 hk hb h1 h6 hr hw
  rw [he] at hc
  have hlt : gj < y.heap.size := (Array.getElem?_eq_some_iff.1 h2).1
  refine hc.mono ?_
  rintro e z ⟨rfl, D', hd, hs, hj, hk⟩
  refine ⟨rfl, D', hd, hj, DAlive.above_sub h4 hs h7.size, hd.1, fun hx => ?_, DAlive.grew_kept h7 hk fun k hk => by rcases hk with hk | rfl; exact h4 k hk; exact hgj⟩
  rcases hs gj hx with h | h
  · exact h6 h
  · omega
theorem crash_at (w y : World) (g gj : Nat) (j : Jr) (d : Pd) (S : Nat → Prop) (v : Value) (keep : List UInt8) (h : AT w g gj j d y) (hgj : w.heap.size ≤ gj) (hw : d.waits.length ≤ 1000000000) (hr : Rd S y v keep) (hS : ∀ b, S b → b < w.heap.size) :
    Calls Try.prog 21 #[.pointer (some ⟨g, 0, none⟩), v] y fun e z => e = .returned (.int .i64 0) ∧ AT w g gj j (DFlush.crashed d keep) z := by
  obtain ⟨D, h1, h2, h4, h5, h6, h7⟩ := h
  refine (DFlush.crash_any y g D d S v keep h1 hr (fun b hb hd => by have := h4 b hd; have := hS b hb; omega) (by omega)).mono ?_
  rintro e z ⟨rfl, hd, hk⟩
  refine ⟨rfl, D, hd, ?_, h4, hd.1, h6, DAlive.grew_kept h7 hk fun k hk => h4 k hk⟩
  exact (hk.block gj (Array.getElem?_eq_some_iff.1 h2).1 h6).trans h2
theorem fuse_at (w y : World) (g gj : Nat) (j : Jr) (d : Pd) (n : Nat) (h : AT w g gj j d y) (hn : n ≤ 255) :
    Calls Try.prog 30 #[.pointer (some ⟨g, 0, none⟩), .int .i64 (n : Int)] y fun e z => e = .returned (.tuple #[]) ∧ AT w g gj j { d with fuse := (n : Int) } z := by
  obtain ⟨D, h1, h2, h4, h5, h6, h7⟩ := h
  have hf := DTurn.fuse_any y g D d (n : Int) (by omega) h1
  unfold DTurn.fused at hf
  rw [show max (n : Int) (-1) = (n : Int) by omega] at hf
  refine hf.mono ?_
  rintro e z ⟨rfl, hd, hk⟩
  refine ⟨rfl, D, hd, ?_, h4, hd.1, h6, DAlive.grew_kept h7 hk fun k hk => h4 k hk⟩
  exact (hk.block gj (Array.getElem?_eq_some_iff.1 h2).1 h6).trans h2
/-- The power is on: the records sure are kept, f turns are left. -/
def ON (sure : List (List UInt8)) (f : Nat) (d : Pd) : Prop := ∃ L, d = calmF L (f : Int) ∧ JGd 3 L sure ∧ Bl L sure.length
/-- The power is gone: behind any crash the records sure are said, or those of under. -/
def GONE (sure under : List (List UInt8)) (d : Pd) : Prop := d.waits.length ≤ 2 ∧ ∀ keep, ∃ L, DFlush.crashed d keep = calm L ∧ (JGo 3 L sure ∨ JGo 3 L under)
theorem ON.waits {sure : List (List UInt8)} {f : Nat} {d : Pd} (h : ON sure f d) : d.waits.length = 0 := by
  obtain ⟨L, rfl, _⟩ := h
  rfl
theorem ON.crash {sure : List (List UInt8)} {f : Nat} {d : Pd} (h : ON sure f d) (under : List (List UInt8)) : GONE sure under d := by
  obtain ⟨L, rfl, h1, _⟩ := h
  exact ⟨Nat.zero_le _, fun keep => ⟨L, crashed_none L _ _ keep, .inl (JGo.of h1)⟩⟩
theorem on_app (sure : List (List UInt8)) (f : Nat) (d : Pd) (b : List UInt8) (h : ON sure f d) (hb : b.length ≤ 212) (hm : sure.length < 5) :
    (∃ d', japp ⟨2, 5, 2, sure.length, 3⟩ d b = (⟨2, 5, 2, sure.length, 3⟩, d', 15) ∧ GONE sure (sure ++ [b]) d') ∨
    (∃ d' f', japp ⟨2, 5, 2, sure.length, 3⟩ d b = (⟨2, 5, 2, (sure ++ [b]).length, 3⟩, d', 0) ∧ ON (sure ++ [b]) f' d') := by
  obtain ⟨L, rfl, h1, h2⟩ := h
  match f with
  | 0 => exact .inl ⟨_, japp_f0 3 sure.length L b h1.len hb hm, by simp, fun keep => lost_one 3 L sure b h1 h2 hb hm _ _ keep⟩
  | 1 => exact .inl ⟨_, japp_f1 3 sure.length L b h1.len hb hm, by simp, fun keep => lost_two 3 L sure b h1 h2 hb hm _ _ keep⟩
  | 2 => exact .inl ⟨_, japp_f2 3 sure.length L b h1.len hb hm, by simp, fun keep => lost_two 3 L sure b h1 h2 hb hm _ _ keep⟩
  | k + 3 => exact .inr ⟨_, k, by rw [List.length_append]; exact japp_f3 3 sure.length L b h1.len h1.ev hb hm k, _, rfl, h1.put b hb hm, by rw [List.length_append]; exact h2.put b⟩
theorem on_full (sure : List (List UInt8)) (d : Pd) (b : List UInt8) (hb : b.length ≤ 212) (hm : sure.length = 5) : japp ⟨2, 5, 2, sure.length, 3⟩ d b = (⟨2, 5, 2, sure.length, 3⟩, d, 8) := by
  rw [hm]
  exact japp_full 3 d b hb
end Go.Proofs.Ytbnicphegbdfnaa.JT
namespace Go.Proofs.Ytbnicphegbdfnaa.JS
set_option maxRecDepth 100000
set_option maxRecDepth 100000
open Go Go.RowKit Go.Proofs.Ytbnicphegbdfnaa Go.Proofs.Ytbnicphegbdfnaa.Facts Go.Proofs.Ytbnicphegbdfnaa.Bytes Go.Proofs.Ytbnicphegbdfnaa.DKeep Go.Proofs.Ytbnicphegbdfnaa.DSmall Go.Proofs.Ytbnicphegbdfnaa.Puts Go.Proofs.Ytbnicphegbdfnaa.JF

/-- A row of rows of bytes, as it is read. -/
def RR (w : World) (v : Value) (l : List (List UInt8)) : Prop := ∃ A c, v = .slice A l.length c ∧ ∀ (i : Nat) (x : List UInt8), l[i]? = some x → ∃ ad A2 c2, A = some ad ∧ w.cell? (ad.add i) = some (.slice A2 x.length c2) ∧ Rd (fun b => b < w.heap.size) w (.slice A2 x.length c2) x
theorem RR.of_bs {base : Nat} {w : World} {v : Value} {l : List (List UInt8)} (h : BS base w v l) : RR w v l := by
  obtain ⟨ws, ho, he⟩ := h
  obtain ⟨A, c, rfl⟩ := own_sl ho
  refine ⟨A, c, rfl, fun i x hx => ?_⟩
  obtain ⟨u, hu, hr⟩ := he i x hx
  rcases ho.2 with ⟨_, h0⟩ | ⟨g, cap, cur, hsl, _⟩
  · have := (List.getElem?_eq_some_iff.1 hx).1; omega
  injection hsl with hs1 _ _
  obtain ⟨A2, c2, rfl, _⟩ := id hr
  exact ⟨⟨g, 0, none⟩, A2, c2, hs1, ho.cells (g := g) (by rw [hs1]; rfl) i _ hu, hr.mono fun b hb => hb.1⟩
theorem take_same (a b : List (List UInt8)) (i : Nat) (h : a.take i = b.take i) (x y : List UInt8) (hx : a[i]? = some x) (hy : b[i]? = some y) : (a.take (i + 1) = b.take (i + 1)) ↔ x = y := by
  rw [List.take_add_one, List.take_add_one, hx, hy, h]
  simp
set_option maxHeartbeats 2000000 in
theorem same_any (w : World) (va vb : Value) (a b : List (List UInt8)) (ha : RR w va a) (hb : RR w vb b) (hl : a.length ≤ 9223372036854775807) (hl2 : b.length ≤ 9223372036854775807) :
    Calls Try.prog 36 #[va, vb] w fun e w' => e = .returned (.bool (decide (a = b))) ∧ Grew w w' := by
  obtain ⟨A, ca, rfl, qa⟩ := ha
  obtain ⟨B, cb, rfl, qb⟩ := hb
  have HQA := Lib.hid qa
  have HQB := Lib.hid qb
  clear qa qb
  by_cases hn : a.length = b.length
  · have hn' : ¬ ((a.length : Int) ≠ (b.length : Int)) := by omega
    have HN := Lib.hid hn
    have hd : ∃ r, decide (a = b) = r := ⟨_, rfl⟩
    obtain ⟨r, hr⟩ := hd
    rw [hr]
    have HRR := Lib.hid hr
    have hne : ((a.length : Int) != (b.length : Int)) = false := by simp; omega
    clear hr hn'
    go_enter Try.func36, Try.ntmps36
    go_wp2
    go_loopg [5] a.length (fun q s2 wx => ∃ (i : Nat), i + q = a.length ∧ s2 = .int .i64 (i : Int) ∧ Hid (Grew w wx) ∧ Hid (a.take i = b.take i))
    case atStart => exact ⟨0, Nat.zero_add _, rfl, Lib.hid (Grew.refl _), Lib.hid rfl⟩
    case round =>
      obtain ⟨i, hiq, rfl, HG, HT⟩ := hrel
      cases gk with
      | zero =>
        have hlt : ¬ ((i : Int) < (a.length : Int)) := by omega
        have he : a = b := by
          have := HT.out
          have h2 := HN.out
          rwa [List.take_of_length_le (by omega), List.take_of_length_le (by omega)] at this
        have hrt : r = true := by rw [← HRR.out]; exact decide_eq_true he
        subst hrt
        have HE := Lib.hid he
        clear he
        go_wp2
        go_ret
        exact ⟨rfl, HG.out⟩
      | succ q =>
        have hlt : (i : Int) < (a.length : Int) := by omega
        have hltb : (i : Int) < (b.length : Int) := by have := HN.out; omega
        obtain ⟨x, hx⟩ : ∃ x, a[i]? = some x := ⟨_, List.getElem?_eq_getElem (by omega)⟩
        obtain ⟨y, hy⟩ : ∃ y, b[i]? = some y := ⟨_, List.getElem?_eq_getElem (by have := HN.out; omega)⟩
        obtain ⟨ad, A2, c2, rfl, hcx0, hrx⟩ := HQA.out i x hx
        obtain ⟨bd, B2, d2, rfl, hcy0, hry⟩ := HQB.out i y hy
        have hcx : wr.cell? (ad.add i) = some (.slice A2 x.length c2) := DWrite.cellB HG.out hcx0
        have hcy : wr.cell? (bd.add i) = some (.slice B2 y.length d2) := DWrite.cellB HG.out hcy0
        have kx := Nums.conv22 ((hrx.grew HG.out).drew)
        have ky := Nums.conv22 ((hry.grew HG.out).drew)
        clear hcx0 hcy0
        have hts := take_same a b i HT.out x y hx hy
        have HTS := Lib.hid hts
        have hwi : IntKind.i64.wrap ((i : Int) + 1) = (i : Int) + 1 := IntWalk.i64_in _ (by omega)
        have HXA := Lib.hid hx
        have HYA := Lib.hid hy
        clear hts hrx hry hx hy
        by_cases hxy : x = y
        · have HT2 : Hid (a.take (i + 1) = b.take (i + 1)) := Lib.hid (HTS.out.2 hxy)
          have hbb : (x == y) = true := by simpa using hxy
          clear hxy
          go_wp2
          go_region
          go_wp2
          go_roundg q
          case measure => omega
          case rel => exact ⟨i + 1, by omega, by first | rfl | simp, Lib.hid HG.out.drew, HT2⟩
        · have hbb : (x == y) = false := by simpa using hxy
          have hrf : r = false := by
            rw [← HRR.out]
            refine decide_eq_false fun h => ?_
            have h1 := HXA.out
            rw [h, HYA.out] at h1
            injection h1 with h1
            exact hxy h1.symm
          subst hrf
          have HXY := Lib.hid hxy
          clear hxy
          go_wp2
          go_region
          go_wp2
          go_ret
          exact ⟨rfl, HG.out.drew⟩
  · have hne : ((a.length : Int) != (b.length : Int)) = true := by simp; omega
    have hd : decide (a = b) = false := decide_eq_false fun h => hn (by rw [h])
    rw [hd]
    clear hn hd
    go_enter Try.func36, Try.ntmps36
    go_wp2
    go_ret
    exact ⟨rfl, Grew.refl _⟩
end Go.Proofs.Ytbnicphegbdfnaa.JS
