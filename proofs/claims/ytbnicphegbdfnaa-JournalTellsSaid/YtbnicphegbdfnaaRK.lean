/-
  JournalTells: a place that may be, any deeds.
  Conditions: none beyond those that each lemma names.
-/
import Derived.Test.YtbnicphegbdfnaaRJ
import Derived.Test.YtbnicphegbdfnaaDOpens
import Derived.Deep.DeepCutAuto
import Derived.Deep.CutBlock
namespace Go.Proofs.Ytbnicphegbdfnaa.RK
set_option maxRecDepth 100000
open Go Go.RowKit Go.Proofs.Ytbnicphegbdfnaa Go.Proofs.Ytbnicphegbdfnaa.Facts Go.Proofs.Ytbnicphegbdfnaa.Bytes Go.Proofs.Ytbnicphegbdfnaa.DKeep Go.Proofs.Ytbnicphegbdfnaa.DSmall Go.Proofs.Ytbnicphegbdfnaa.SPure Go.Proofs.Ytbnicphegbdfnaa.JA Go.Proofs.Ytbnicphegbdfnaa.JB Go.Proofs.Ytbnicphegbdfnaa.JC Go.Proofs.Ytbnicphegbdfnaa.JD Go.Proofs.Ytbnicphegbdfnaa.JE Go.Proofs.Ytbnicphegbdfnaa.JF Go.Proofs.Ytbnicphegbdfnaa.DRefA Go.Proofs.Ytbnicphegbdfnaa.DRefB Go.Proofs.Ytbnicphegbdfnaa.DRefC Go.Proofs.Ytbnicphegbdfnaa.DSim Go.Proofs.Ytbnicphegbdfnaa.DRefD Go.Proofs.Ytbnicphegbdfnaa.DRefF Go.Proofs.Ytbnicphegbdfnaa.DLawA Go.Proofs.Ytbnicphegbdfnaa.RA Go.Proofs.Ytbnicphegbdfnaa.RC Go.Proofs.Ytbnicphegbdfnaa.RE Go.Proofs.Ytbnicphegbdfnaa.RF Go.Proofs.Ytbnicphegbdfnaa.RG Go.Proofs.Ytbnicphegbdfnaa.RH Go.Proofs.Ytbnicphegbdfnaa.RI Go.Proofs.Ytbnicphegbdfnaa.DOpens Go.Proofs.Ytbnicphegbdfnaa.RJ

theorem jrefus_nat {d : Pd} {first places each base : Nat} (hq : jrefus d (first : Int) (places : Int) (each : Int) base = 0) : 1 ≤ places ∧ places ≤ 16 ∧ 1 ≤ each ∧ each ≤ 16384 ∧ first + places * each ≤ d.safe.length ∧ 1 ≤ base ∧ base + places * each ≤ 4611686018427387904 ∧ d.off = false := by
  unfold jrefus at hq
  split at hq
  · omega
  · split at hq
    · omega
    · split at hq
      · omega
      · split at hq
        · omega
        · rename_i h1 h2 h3 h4
          have e : (places : Int) * (each : Int) = ((places * each : Nat) : Int) := by simp
          rw [e] at h2 h3
          exact ⟨by omega, by omega, by omega, by omega, by omega, by omega, by omega, by simpa using h4⟩
/-- What a journal says, or why it says nothing. -/
def SAID (w : World) (d : Pd) (first places each base : Nat) (q : Int) (va : Value) (z : World) : Prop := (q = 0 → BS w.heap.size z va (jscan d.last first base each places 0 [])) ∧ (¬ q = 0 → va = .slice none 0 0)
theorem scan_both (w : World) (g : Nat) (D : Nat → Prop) (d : Pd) (first places each base : Nat) (q : Int) (h : DK w g D d) (hb : base < 18446744073709551616) (hf : first ≤ 16384) (hq : jrefus d (first : Int) (places : Int) (each : Int) base = q) :
    Calls Try.prog 25 #[.pointer (some ⟨g, 0, none⟩), .int .i64 (first : Int), .int .i64 (places : Int), .int .i64 (each : Int), .int .u64 (base : Int)] w fun e z => ∃ va, e = .returned (.tuple #[va, .int .i64 q]) ∧ SAID w d first places each base q va z ∧ Grew w z := by
  by_cases h0 : q = 0
  · subst h0
    refine (jscan_any w g D d first places each base h hq).mono ?_
    rintro e z ⟨v, rfl, hbs, hg⟩
    exact ⟨v, rfl, ⟨fun _ => hbs, fun h => absurd rfl h⟩, hg⟩
  · refine (jscan_bad w g D d (first : Int) (places : Int) (each : Int) base q h hb (by omega) (by omega) hq h0).mono ?_
    rintro e z ⟨rfl, rfl⟩
    exact ⟨_, rfl, ⟨fun h => absurd h h0, fun _ => rfl⟩, Grew.refl _⟩
theorem SAID.grew {w y z : World} {d : Pd} {first places each base : Nat} {q : Int} {va : Value} (h : SAID w d first places each base q va y) (hg : Grew y z) : SAID w d first places each base q va z := ⟨fun h0 => (h.1 h0).grew hg, h.2⟩
/-- The document's journal says the same. -/
theorem rsaid (y : World) (d : Pd) (r : Rp) (A1 A2 A3 : Option Addr) (c1 c2 c3 first places each base used : Nat) (hs : Sim d r) (hd : d.safe.length = 8) (hrd : RD y (dv A1 A2 A3 r.now.length r.safe.length r.waits.length c1 c2 c3 r.fuse r.off) r) (hsh : Sh r.now.length first places each base used) :
    Calls Try.prog 37 #[dv A1 A2 A3 r.now.length r.safe.length r.waits.length c1 c2 c3 r.fuse r.off, sh (first : Int) (places : Int) (each : Int) base (used : Int)] y fun e z => ∃ v, e = .returned v ∧ BS y.heap.size z v (jscan d.last first base each places 0 []) ∧ Grew y z := by
  obtain ⟨⟨B1, B2, B3, e1, e2, e3, he, h1, _⟩, _⟩ := hrd
  have hA : A1 = B1 ∧ c1 = e1 := by
    unfold dv at he
    simp only [Value.agg.injEq, Array.mk.injEq, List.cons.injEq, Value.slice.injEq] at he
    exact ⟨he.1.1, he.1.2.2⟩
  obtain ⟨rfl, rfl⟩ := hA
  have hev : Even r.now := by rw [hs.now]; exact hs.evenl
  have hc := rscan_any A1 A2 A3 r.now r.safe.length r.waits.length c1 c2 c3 r.fuse r.off first places each base used y h1 hev hsh
  rw [scan_is r.now first base each hsh.e1 places 0 [], Nat.zero_mul, hs.now] at hc
  rw [hs.now]
  exact hc
theorem sh_of {d : Pd} {r : Rp} {first places each base used : Nat} (hs : Sim d r) (hd : d.safe.length = 8) (hq : jrefus d (first : Int) (places : Int) (each : Int) base = 0) (hu : used ≤ places) : Sh r.now.length first places each base used := by
  obtain ⟨h1, h2, h3, h4, h5, h6, h7, _⟩ := jrefus_nat hq
  exact ⟨h1, h2, h3, h4, by rw [hs.len]; exact h5, by rw [hs.len, hd]; omega, h6, h7, hu⟩
theorem jscan_len (L : List Sec) (first base each : Nat) : ∀ (m a : Nat) (said : List (List UInt8)), (jscan L first base each m a said).length ≤ said.length + m
  | 0, a, said => Nat.le_refl _
  | m + 1, a, said => by
    unfold jscan
    repeat' split
    all_goals first | (refine Nat.le_trans (jscan_len L first base each m _ _) ?_; simp; omega) | (simp; done) | omega
/-- The deeds go on. -/
structure LI (w : World) (g gj gx gs : Nat) (first places each n : Nat) (j : Jr) (d : Pd) (r : Rp) (y : World) : Prop where
  ts : TS w g gj gx gs j d j r y
  sim : Sim d r
  jk : JK j
  b1 : 1 ≤ j.base
  e1 : j.first = first
  e2 : j.places = places
  e3 : j.each = each
  len : d.safe.length = 8
  wt : d.waits.length ≤ 8 * n
theorem LI.grew {w y z : World} {g gj gx gs first places each n : Nat} {j : Jr} {d : Pd} {r : Rp} (h : LI w g gj gx gs first places each n j d r y) (hg : Grew y z) : LI w g gj gx gs first places each n j d r z :=
  ⟨h.ts.grew hg, h.sim, h.jk, h.b1, h.e1, h.e2, h.e3, h.len, h.wt⟩
theorem LI.more {w y : World} {g gj gx gs first places each n m : Nat} {j : Jr} {d : Pd} {r : Rp} (h : LI w g gj gx gs first places each n j d r y) (hm : n ≤ m) : LI w g gj gx gs first places each m j d r y :=
  ⟨h.ts, h.sim, h.jk, h.b1, h.e1, h.e2, h.e3, h.len, Nat.le_trans h.wt (by omega)⟩
theorem grew_heap {w w' : World} {A : Option Addr} {c : Nat} {L : List De} (h : DE w A c L) (hg : Grew w w') {ad : Addr} (ha : A = some ad) {i : Nat} {x : De} (hx : L[i]? = some x) :
    w'.cell? (ad.add (i * 3)) = some (.int .i64 x.kind) ∧ w'.cell? ⟨(ad.add (i * 3)).block, (ad.add (i * 3)).off + 1, none⟩ = some (.int .i64 x.n) ∧ (-9223372036854775808 ≤ x.n ∧ x.n ≤ 9223372036854775807) ∧ ∃ AB cB, w'.cell? ⟨(ad.add (i * 3)).block, (ad.add (i * 3)).off + 2, none⟩ = some (.slice AB x.b.length cB) ∧ Rd (fun b => b < w.heap.size) w (.slice AB x.b.length cB) x.b := by
  obtain ⟨h1, h2, h3, vB, h4, h5⟩ := h.2.2.2 ad ha i x hx
  obtain ⟨AB, cB, rfl, _⟩ := id h5
  refine ⟨DWrite.cellB hg h1, ?_, h3, AB, cB, ?_, h5⟩
  · have e : ad.add (i * 3 + 1) = (ad.add (i * 3)).add 1 := by rw [add_add']
    rw [e] at h2
    exact DWrite.cellB hg h2
  · have e : ad.add (i * 3 + 2) = (ad.add (i * 3)).add 2 := by rw [add_add']
    rw [e] at h4
    exact DWrite.cellB hg h4
/-- A deed, copied. -/
def DX (y : World) (gd : Nat) (kind n : Int) (v : Value) : Prop := y.heap[gd]? = some (.cells #[.int .i64 kind, .int .i64 n, v] 61 (0, 0))
theorem DX.cells {y : World} {gd : Nat} {kind n : Int} {v : Value} (h : DX y gd kind n v) : y.cell? ⟨gd, 0, none⟩ = some (.int .i64 kind) ∧ y.cell? ⟨gd, 1, none⟩ = some (.int .i64 n) ∧ y.cell? ⟨gd, 2, none⟩ = some v := by
  refine ⟨?_, ?_, ?_⟩ <;> (rw [cell_of_row _ _ _ _ _ _ h]; rfl)
theorem DX.stay {y z : World} {gd : Nat} {kind n : Int} {v : Value} (h : DX y gd kind n v) (hs : Stay y z) : DX z gd kind n v := hs _ _ _ _ h (by decide) (by decide) (by decide) (by decide)
theorem DX.grew {y z : World} {gd : Nat} {kind n : Int} {v : Value} (h : DX y gd kind n v) (hg : Grew y z) : DX z gd kind n v := DWrite.keepB h hg
/-- What an answer of the document's journal needs. -/
theorem LI.sh {w y : World} {g gj gx gs first places each n : Nat} {j : Jr} {d : Pd} {r : Rp} (h : LI w g gj gx gs first places each n j d r y) (hf : first + places * each ≤ 8) : Sh r.now.length j.first j.places j.each j.base j.used := by
  have := h.jk
  refine ⟨this.p1, this.p2, this.e1, this.e2, ?_, ?_, h.b1, this.b, this.u⟩
  · rw [h.sim.len, h.len, h.e1, h.e2, h.e3]; exact hf
  · rw [h.sim.len, h.len]; omega
theorem LI.waits {w y : World} {g gj gx gs first places each n : Nat} {j : Jr} {d : Pd} {r : Rp} (h : LI w g gj gx gs first places each n j d r y) (hn : n ≤ 40) : d.waits.length ≤ 1000000000 ∧ r.waits.length ≤ 1000000000 := by
  have := h.wt
  rw [h.sim.waits]
  omega
/-- What a journal's record leaves. -/
theorem jstep_app {d : Pd} {r : Rp} {j j' : Jr} {d' : Pd} {q : Int} {b : List UInt8} (hs : Sim d r) (hk : JK j) (hb : 1 ≤ j.base) (he : japp j d b = (j', d', q)) :
    (rjapp j r b).1 = j' ∧ (rjapp j r b).2.2 = q ∧ Sim d' (rjapp j r b).2.1 ∧ JK j' ∧ 1 ≤ j'.base ∧ j'.first = j.first ∧ j'.places = j.places ∧ j'.each = j.each ∧ d'.safe.length = d.safe.length ∧ d'.waits.length ≤ d.waits.length + j.each := by
  obtain ⟨h1, h2, h3⟩ := rjapp_sim j d r b hs
  have h4 := japp_len j d b
  have h5 := japp_waits j d b
  have h6 := japp_jr j d b
  rw [he] at h1 h2 h3 h4 h5 h6
  simp only at h1 h2 h3 h4 h5 h6
  refine ⟨h2.symm, h1.symm, h3, ?_, ?_, ?_, ?_, ?_, h4, h5⟩
  · rcases h6 with rfl | ⟨rfl, hu⟩
    · exact hk
    · exact ⟨hk.p1, hk.p2, hk.e1, hk.e2, hk.f2, by have := hk.u; show j.used + 1 ≤ j.places; omega, hk.b⟩
  all_goals (rcases h6 with rfl | ⟨rfl, _⟩ <;> first | rfl | exact hb)
set_option maxHeartbeats 16000000 in
theorem law_good (w : World) (first places each base other : Nat) (A : Option Addr) (c : Nat) (L : List De) (hL : DE w A c L) (hb : base < 18446744073709551616) (ho : other < 18446744073709551616) (hq : jrefus (DNew.fresh 8) (first : Int) (places : Int) (each : Int) base = 0) (hp1 : 1 ≤ places) (hp2 : places ≤ 8) (he1 : 1 ≤ each) (he2 : each ≤ 8) (hf : first + places * each ≤ 8) (hb1 : 1 ≤ base) (hb2 : base + places * each ≤ 4611686018427387904) :
    Calls Try.prog 5 #[.int .i64 (first : Int), .int .i64 (places : Int), .int .i64 (each : Int), .int .u64 (base : Int), .slice A L.length c, .int .u64 (other : Int)] w fun e w' => e = .returned (.bool true) ∧ Grew w w' := by
  have HB := Lib.hid hb
  have HO := Lib.hid ho
  have HQ := Lib.hid hq
  have HP1 := Lib.hid hp1
  have HP2 := Lib.hid hp2
  have HE1 := Lib.hid he1
  have HE2 := Lib.hid he2
  have HF := Lib.hid hf
  have HB1 := Lib.hid hb1
  have HB2 := Lib.hid hb2
  have HL := Lib.hid hL
  have hLc := hL.1
  have hLm := hL.2.1
  clear hb ho hq hp1 hp2 he1 he2 hf hb1 hb2 hL
  go_enter Try.func5, Try.ntmps5
  go_wp2_with fail
  refine (DAlive.new_eq 8 8 rfl w (by omega) (by omega)).mono ?_
  rintro e w1 ⟨g, rfl, hd, hg⟩
  have HD1 := Lib.hid hd
  have HG1 := Lib.hid hg
  have HDW : Hid (∀ k, (fun k => w.heap.size ≤ k ∧ k < w1.heap.size) k → w.heap.size ≤ k) := Lib.hid fun k hk => hk.1
  clear hd hg
  generalize hDD : (fun k => w.heap.size ≤ k ∧ k < w1.heap.size) = D at *
  clear hDD
  go_wp2_with fail
  have hrn : Calls Try.prog 22 #[.int .i64 8] w1 fun e w' => ∃ v', e = .returned v' ∧ RD w' v' (rfresh 8) ∧ Grew w1 w' := rnew_any 8 w1 (by omega)
  refine hrn.mono ?_
  rintro e w2 ⟨v2, rfl, hrd, hg⟩
  obtain ⟨w3, hst3, hbx3, hg3⟩ := box_new hrd
  obtain ⟨w4, hst4, hsi4, hg4⟩ := place_new w3 (first : Int) (places : Int) (each : Int) base 0
  have HD4 := Lib.hid (((HD1.out.grew hg).grew hg3).grew hg4)
  have HG4 := Lib.hid (((HG1.out.trans hg).trans hg3).trans hg4)
  have HBX4 := Lib.hid (hbx3.grew hg4)
  have HST3 := Lib.hid hst3
  have HST4 := Lib.hid hst4
  have HSI4 := Lib.hid hsi4
  have HGX : Hid (w.heap.size ≤ w2.heap.size) := Lib.hid (HG1.out.trans hg).size
  have HGS : Hid (w.heap.size ≤ w3.heap.size) := Lib.hid ((HG1.out.trans hg).trans hg3).size
  clear hrn hrd hg hst3 hbx3 hg3 hst4 hsi4 hg4 HD1 HG1
  go_wp2_with (first
    | refine DArm.wpList_store (by rfl) 49 (.tmp 15) (.tmp 37) (by with_reducible rfl) _ _ (by rfl) (by rfl) _ HST3.out ?_
    | refine DArm.wpList_store (by rfl) 52 (.tmp 16) (.tmp 42) (by with_reducible rfl) _ _ (by rfl) (by rfl) _ HST4.out ?_)
  generalize w2.heap.size = gx at *
  generalize w3.heap.size = gs at *
  refine (jnew_any w4 g D (DNew.fresh 8) first places each base HD4.out HB.out (by have := HF.out; omega) HQ.out).mono ?_
  rintro e w5 ⟨gj, rfl, hjl, hgj, hg5⟩
  obtain ⟨D5, hdt5, hsub5⟩ := DK.tight (HD4.out.grew hg5)
  have HLI : Hid (LI w g gj gx gs first places each 0 ⟨first, places, each, 0, base⟩ (DNew.fresh 8) (rfresh 8) w5) := Lib.hid ⟨⟨⟨D5, hdt5, fun k hk => HDW.out k (hsub5 k hk)⟩, hjl, HBX4.out.grew hg5, (show SX w4 gs first places each base 0 from HSI4.out).grew hg5, Nat.le_trans HG4.out.size hgj, HGX.out, HGS.out, HG4.out.trans hg5⟩, Sim.fresh 8, ⟨HP1.out, by have := HP2.out; show places ≤ 16; omega, HE1.out, by have := HE2.out; show each ≤ 16384; omega, by have := HF.out; show first ≤ 16384; omega, Nat.zero_le _, HB2.out⟩, HB1.out, rfl, rfl, rfl, by show (DNew.blank 8).length = 8; exact DNew.blank_length 8, Nat.zero_le _⟩
  clear hjl hgj hg5 hdt5 hsub5 HD4 HG4 HBX4 HST3 HST4 HSI4 HGX HGS HDW
  obtain ⟨A1, A2, A3, c1, c2, c3, hrd, hld, _⟩ := HLI.out.ts.bx.load
  have HL1 := Lib.hid hld
  have hsx5 : SI w5 gs (first : Int) (places : Int) (each : Int) base 0 := HLI.out.ts.sx
  have HL2 := Lib.hid hsx5.load
  have hab := rable_any A1 A2 A3 (rfresh 8).now.length (rfresh 8).safe.length (rfresh 8).waits.length c1 c2 c3 (rfresh 8).fuse (rfresh 8).off (first : Int) (places : Int) (each : Int) base 0 w5 (by simp [rfresh, DNew.blank]) HB.out (by have := HF.out; omega) (by have := HF.out; omega)
  rw [show jref (rfresh 8).now.length (rfresh 8).off (first : Int) (places : Int) (each : Int) base = 0 from HQ.out] at hab
  have HAB := Lib.hid hab
  clear hrd hld hab hsx5
  go_wp2_with (first
    | refine wload (by rfl) 49 (.tmp 15) (by with_reducible rfl) _ _ (by rfl) HL1.out ?_
    | refine wload (by rfl) 52 (.tmp 16) (by with_reducible rfl) _ _ (by rfl) HL2.out ?_)
  refine HAB.out.mono ?_
  rintro e w6 ⟨rfl, hg6⟩
  have HLI0 := Lib.hid (HLI.out.grew hg6)
  clear hg6 HAB HL1 HL2 HLI
  go_upto_block 0 with fail
  go_cut [] (fun wx => ∃ (gj : Nat) (j : Jr) (d : Pd) (r : Rp), Hid (LI w g gj gx gs first places each 30 j d r wx))
  case rest =>
    as_aux_lemma =>
      obtain ⟨gj, j, d, r, HLI⟩ := hcut
      obtain ⟨jf, jp, je, ju, jb⟩ := j
      have e1 := HLI.out.e1
      have e2 := HLI.out.e2
      have e3 := HLI.out.e3
      simp only at e1 e2 e3
      have f1 := e1.symm
      have f2 := e2.symm
      have f3 := e3.symm
      subst f1 f2 f3
      clear e1 e2 e3
      clear HLI0 HQ HB HB1 HB2 HL hLc hLm HP1 HP2 HE1 HE2
      obtain ⟨w8, hst8, hsi8, hg8⟩ := place_new wc (first : Int) (places : Int) (each : Int) other 0
      have HLI8 := Lib.hid (HLI.out.grew hg8)
      have HST8 := Lib.hid hst8
      have HSI8 := Lib.hid hsi8
      have HJB : Hid (jb < 18446744073709551616) := Lib.hid (by have := HLI.out.jk.b; simp only at this; omega)
      have HF16 : Hid (places ≤ 16) := Lib.hid HLI.out.jk.p2
      have HF6 : Hid (first ≤ 16384) := Lib.hid (by have := HF.out; omega)
      clear hst8 hsi8 hg8 HLI
      obtain ⟨t0, t1, t2, t3, t4⟩ := HLI8.out.ts.sx.cells
      obtain ⟨D8, hdt8, _⟩ := HLI8.out.ts.ex
      obtain ⟨qa, hqa⟩ : ∃ q, jrefus d (first : Int) (places : Int) (each : Int) jb = q := ⟨_, rfl⟩
      obtain ⟨qb, hqb⟩ : ∃ q, jrefus d (first : Int) (places : Int) (each : Int) other = q := ⟨_, rfl⟩
      have HQA := Lib.hid hqa
      have HQB := Lib.hid hqb
      have HSCA := Lib.hid (scan_both w8 g D8 d first places each jb qa hdt8.1 HJB.out HF6.out hqa)
      have HSCB : Hid (∀ W, Grew w8 W → Calls Try.prog 25 #[.pointer (some ⟨g, 0, none⟩), .int .i64 (first : Int), .int .i64 (places : Int), .int .i64 (each : Int), .int .u64 (other : Int)] W fun e z => ∃ va, e = .returned (.tuple #[va, .int .i64 qb]) ∧ SAID W d first places each other qb va z ∧ Grew W z) := Lib.hid fun W hW => scan_both W g D8 d first places each other qb (hdt8.1.grew hW) HO.out HF6.out hqb
      clear hdt8 hqa hqb
      go_wp2_with (refine DArm.wpList_store (by rfl) 52 (.tmp 28) (.tmp 219) (by with_reducible rfl) _ _ (by rfl) (by rfl) _ HST8.out ?_)
      clear HST8
      generalize wc.heap.size = gt at *
      refine HSCA.out.mono ?_
      rintro e wa ⟨va, rfl, hsa, hga⟩
      have HSAa := Lib.hid hsa
      have HGa := Lib.hid hga
      clear hsa hga HSCA t0 t1 t2 t3 t4
      go_wp2_with fail
      refine (HSCB.out wa HGa.out).mono ?_
      rintro e wb ⟨vb, rfl, hsb, hgb⟩
      have HSAb := Lib.hid (HSAa.out.grew hgb)
      have HSBb := Lib.hid hsb
      have HGb := Lib.hid (HGa.out.trans hgb)
      have HLIb := Lib.hid (HLI8.out.grew (HGa.out.trans hgb))
      have HSIb : Hid (SI wb gt (first : Int) (places : Int) (each : Int) other 0) := Lib.hid (DWrite.keepB HSI8.out HGb.out)
      clear hsb hgb HSCB HSAa HGa HLI8 HSI8
      have HABL : Hid (∀ W (b' : Nat) (us : Int) (A1 A2 A3 : Option Addr) (c1 c2 c3 : Nat), b' < 18446744073709551616 → Calls Try.prog 24 #[dv A1 A2 A3 r.now.length r.safe.length r.waits.length c1 c2 c3 r.fuse r.off, sh (first : Int) (places : Int) (each : Int) b' us] W fun e w' => e = .returned (.int .i64 (jrefus d (first : Int) (places : Int) (each : Int) b')) ∧ Grew W w') := Lib.hid fun W b' us A1 A2 A3 c1 c2 c3 hb' => by
        have h := rable_any A1 A2 A3 r.now.length r.safe.length r.waits.length c1 c2 c3 r.fuse r.off (first : Int) (places : Int) (each : Int) b' us W (by rw [HLIb.out.sim.len, HLIb.out.len]; omega) hb' (by have := HF6.out; omega) (by have := HF6.out; omega)
        rwa [show jref r.now.length r.off (first : Int) (places : Int) (each : Int) b' = jrefus d (first : Int) (places : Int) (each : Int) b' by rw [jref_is, HLIb.out.sim.len, HLIb.out.sim.off]] at h
      obtain ⟨A1, A2, A3, c1, c2, c3, hrd, hld, _⟩ := HLIb.out.ts.bx.load
      have HL1 := Lib.hid hld
      have HL2 := Lib.hid (load52 HLIb.out.ts.sx)
      have hab := HABL.out wb jb (ju : Int) A1 A2 A3 c1 c2 c3 HJB.out
      rw [HQA.out] at hab
      have HAB := Lib.hid hab
      have nqa : (qa != qa) = false := by simp
      have nqb : (qb != qb) = false := by simp
      clear hrd hld hab
      go_wp2_with (first
        | refine wload (by rfl) 49 (.tmp 15) (by with_reducible rfl) _ _ (by rfl) HL1.out ?_
        | refine wload (by rfl) 52 (.tmp 16) (by with_reducible rfl) _ _ (by rfl) HL2.out ?_)
      refine HAB.out.mono ?_
      rintro e wd ⟨rfl, hgd⟩
      have HLId := Lib.hid (HLIb.out.grew hgd)
      have HSAd := Lib.hid (HSAb.out.grew hgd)
      have HSBd := Lib.hid (HSBb.out.grew hgd)
      have HSId : Hid (SI wd gt (first : Int) (places : Int) (each : Int) other 0) := Lib.hid (DWrite.keepB HSIb.out hgd)
      clear hgd HAB HL1 HL2 HSAb HSBb HSIb HGb
      obtain ⟨A1, A2, A3, c1, c2, c3, hrd, hld, _⟩ := HLId.out.ts.bx.load
      have HL1 := Lib.hid hld
      have HL2 := Lib.hid HSId.out.load
      have hab := HABL.out wd other 0 A1 A2 A3 c1 c2 c3 HO.out
      rw [HQB.out] at hab
      have HAB := Lib.hid hab
      clear hrd hld hab HABL
      go_wp2_with (first
        | refine wload (by rfl) 49 (.tmp 15) (by with_reducible rfl) _ _ (by rfl) HL1.out ?_
        | refine wload (by rfl) 52 (.tmp 28) (by with_reducible rfl) _ _ (by rfl) HL2.out ?_)
      refine HAB.out.mono ?_
      rintro e we0 ⟨rfl, hge⟩
      have HLIe0 := Lib.hid (HLId.out.grew hge)
      have HSAe0 := Lib.hid (HSAd.out.grew hge)
      have HSBe0 := Lib.hid (HSBd.out.grew hge)
      have HSIe0 : Hid (SI we0 gt (first : Int) (places : Int) (each : Int) other 0) := Lib.hid (DWrite.keepB HSId.out hge)
      clear hge HAB HL1 HL2 HSAd HSBd HSId HLId HLIb
      go_wp2_with fail
      refine (JG.alive_any _).mono ?_
      rintro e we ⟨rfl, hge⟩
      have HLIe := Lib.hid (HLIe0.out.grew hge)
      have HSAe := Lib.hid (HSAe0.out.grew hge)
      have HSBe := Lib.hid (HSBe0.out.grew hge)
      have HSIe : Hid (SI we gt (first : Int) (places : Int) (each : Int) other 0) := Lib.hid (DWrite.keepB HSIe0.out hge)
      clear hge HLIe0 HSAe0 HSBe0 HSIe0 nqa nqb
      by_cases ha : qa = 0
      · subst ha
        have HQAZ := Lib.hid HQA.out
        by_cases hb : qb = 0
        · as_aux_lemma =>
            subst hb
            have HQBZ := Lib.hid HQB.out
            obtain ⟨A1, A2, A3, c1, c2, c3, hrd, hld, _⟩ := HLIe.out.ts.bx.load
            have HL1 := Lib.hid hld
            have HL2 := Lib.hid (load52 HLIe.out.ts.sx)
            have HRS := Lib.hid (rsaid we d r A1 A2 A3 c1 c2 c3 first places each jb ju HLIe.out.sim HLIe.out.len hrd (sh_of HLIe.out.sim HLIe.out.len HQAZ.out HLIe.out.jk.u))
            clear hrd hld
            go_wp2_with (first
              | refine wload (by rfl) 49 (.tmp 15) (by with_reducible rfl) _ _ (by rfl) HL1.out ?_
              | refine wload (by rfl) 52 (.tmp 16) (by with_reducible rfl) _ _ (by rfl) HL2.out ?_
              )
            refine HRS.out.mono ?_
            rintro e x0 ⟨vr, rfl, hbr, hgr0⟩
            have hrr := JS.RR.of_bs hbr
            obtain ⟨AR, cR, rfl, _⟩ := id hrr
            have hsaid := (HSAe.out.grew hgr0).1 rfl
            have hra := JS.RR.of_bs hsaid
            obtain ⟨AQ, cQ, rfl, _⟩ := id hra
            have HSM := Lib.hid (JS.same_any x0 _ _ _ _ hra hrr (by have := jscan_len d.last first jb each places 0 []; have := HF16.out; simp only [List.length_nil] at *; omega) (by have := jscan_len d.last first jb each places 0 []; have := HF16.out; simp only [List.length_nil] at *; omega))
            have HLI0 := Lib.hid (HLIe.out.grew hgr0)
            have HGG0 := Lib.hid hgr0
            have HSB0 := Lib.hid (HSBe.out.grew hgr0)
            clear hbr hrr hsaid hra hgr0 HRS HL1 HL2
            go_wp2_with fail
            refine HSM.out.mono ?_
            rintro e y0 ⟨rfl, hgs0⟩
            have HLJ0 := Lib.hid (HLI0.out.grew hgs0)
            have HGH0 := Lib.hid (HGG0.out.trans hgs0)
            have HSBJ0 := Lib.hid (HSB0.out.grew hgs0)
            clear hgs0 HSM HLI0 HGG0
            obtain ⟨A1, A2, A3, c1, c2, c3, hrd, hld, _⟩ := HLJ0.out.ts.bx.load
            have HL1 := Lib.hid hld
            have HSI1 : Hid (SI y0 gt (first : Int) (places : Int) (each : Int) other 0) := Lib.hid (DWrite.keepB HSIe.out HGH0.out)
            have HL2 := Lib.hid HSI1.out.load
            have HRS := Lib.hid (rsaid y0 d r A1 A2 A3 c1 c2 c3 first places each other 0 HLJ0.out.sim HLJ0.out.len hrd (sh_of HLJ0.out.sim HLJ0.out.len HQBZ.out (Nat.zero_le _)))
            clear hrd hld
            go_wp2_with (first
              | refine wload (by rfl) 49 (.tmp 15) (by with_reducible rfl) _ _ (by rfl) HL1.out ?_
              | refine wload (by rfl) 52 (.tmp 28) (by with_reducible rfl) _ _ (by rfl) HL2.out ?_
              )
            refine HRS.out.mono ?_
            rintro e x1 ⟨vr, rfl, hbr, hgr1⟩
            have hrr := JS.RR.of_bs hbr
            obtain ⟨AR, cR, rfl, _⟩ := id hrr
            have hsaid := (HSBJ0.out.grew hgr1).1 rfl
            have hra := JS.RR.of_bs hsaid
            obtain ⟨AQ, cQ, rfl, _⟩ := id hra
            have HSM := Lib.hid (JS.same_any x1 _ _ _ _ hra hrr (by have := jscan_len d.last first other each places 0 []; have := HF16.out; simp only [List.length_nil] at *; omega) (by have := jscan_len d.last first other each places 0 []; have := HF16.out; simp only [List.length_nil] at *; omega))
            have HLI1 := Lib.hid (HLJ0.out.grew hgr1)
            have HGG1 := Lib.hid hgr1
            clear hbr hrr hsaid hra hgr1 HRS HL1 HL2
            go_wp2_with fail
            refine HSM.out.mono ?_
            rintro e y1 ⟨rfl, hgs1⟩
            have HLJ1 := Lib.hid (HLI1.out.grew hgs1)
            have HGH1 := Lib.hid (HGG1.out.trans hgs1)
            clear hgs1 HSM HLI1 HGG1
            go_wp2
            go_ret
            exact ⟨by simp, HLJ1.out.ts.gr⟩
        · as_aux_lemma =>
            have HQB0 := Lib.hid hb
            have b1 : (qb != 0) = true := by simpa using hb
            have hvb := HSBe.out.2 HQB0.out
            subst hvb
            obtain ⟨A1, A2, A3, c1, c2, c3, hrd, hld, _⟩ := HLIe.out.ts.bx.load
            have HL1 := Lib.hid hld
            have HL2 := Lib.hid (load52 HLIe.out.ts.sx)
            have HRS := Lib.hid (rsaid we d r A1 A2 A3 c1 c2 c3 first places each jb ju HLIe.out.sim HLIe.out.len hrd (sh_of HLIe.out.sim HLIe.out.len HQAZ.out HLIe.out.jk.u))
            clear hrd hld
            go_wp2_with (first
              | refine wload (by rfl) 49 (.tmp 15) (by with_reducible rfl) _ _ (by rfl) HL1.out ?_
              | refine wload (by rfl) 52 (.tmp 16) (by with_reducible rfl) _ _ (by rfl) HL2.out ?_
              )
            refine HRS.out.mono ?_
            rintro e x0 ⟨vr, rfl, hbr, hgr0⟩
            have hrr := JS.RR.of_bs hbr
            obtain ⟨AR, cR, rfl, _⟩ := id hrr
            have hsaid := (HSAe.out.grew hgr0).1 rfl
            have hra := JS.RR.of_bs hsaid
            obtain ⟨AQ, cQ, rfl, _⟩ := id hra
            have HSM := Lib.hid (JS.same_any x0 _ _ _ _ hra hrr (by have := jscan_len d.last first jb each places 0 []; have := HF16.out; simp only [List.length_nil] at *; omega) (by have := jscan_len d.last first jb each places 0 []; have := HF16.out; simp only [List.length_nil] at *; omega))
            have HLI0 := Lib.hid (HLIe.out.grew hgr0)
            have HGG0 := Lib.hid hgr0
            clear hbr hrr hsaid hra hgr0 HRS HL1 HL2
            go_wp2_with fail
            refine HSM.out.mono ?_
            rintro e y0 ⟨rfl, hgs0⟩
            have HLJ0 := Lib.hid (HLI0.out.grew hgs0)
            have HGH0 := Lib.hid (HGG0.out.trans hgs0)
            clear hgs0 HSM HLI0 HGG0
            go_wp2
            go_ret
            exact ⟨by simp, HLJ0.out.ts.gr⟩
      · have HQA0 := Lib.hid ha
        have a1 : (qa != 0) = true := by simpa using ha
        by_cases hb : qb = 0
        · as_aux_lemma =>
            subst hb
            have HQBZ := Lib.hid HQB.out
            have hva := HSAe.out.2 HQA0.out
            subst hva
            obtain ⟨A1, A2, A3, c1, c2, c3, hrd, hld, _⟩ := HLIe.out.ts.bx.load
            have HL1 := Lib.hid hld
            have HSI0 : Hid (SI we gt (first : Int) (places : Int) (each : Int) other 0) := Lib.hid (HSIe.out)
            have HL2 := Lib.hid HSI0.out.load
            have HRS := Lib.hid (rsaid we d r A1 A2 A3 c1 c2 c3 first places each other 0 HLIe.out.sim HLIe.out.len hrd (sh_of HLIe.out.sim HLIe.out.len HQBZ.out (Nat.zero_le _)))
            clear hrd hld
            go_wp2_with (first
              | refine wload (by rfl) 49 (.tmp 15) (by with_reducible rfl) _ _ (by rfl) HL1.out ?_
              | refine wload (by rfl) 52 (.tmp 28) (by with_reducible rfl) _ _ (by rfl) HL2.out ?_
              )
            refine HRS.out.mono ?_
            rintro e x0 ⟨vr, rfl, hbr, hgr0⟩
            have hrr := JS.RR.of_bs hbr
            obtain ⟨AR, cR, rfl, _⟩ := id hrr
            have hsaid := (HSBe.out.grew hgr0).1 rfl
            have hra := JS.RR.of_bs hsaid
            obtain ⟨AQ, cQ, rfl, _⟩ := id hra
            have HSM := Lib.hid (JS.same_any x0 _ _ _ _ hra hrr (by have := jscan_len d.last first other each places 0 []; have := HF16.out; simp only [List.length_nil] at *; omega) (by have := jscan_len d.last first other each places 0 []; have := HF16.out; simp only [List.length_nil] at *; omega))
            have HLI0 := Lib.hid (HLIe.out.grew hgr0)
            have HGG0 := Lib.hid hgr0
            clear hbr hrr hsaid hra hgr0 HRS HL1 HL2
            go_wp2_with fail
            refine HSM.out.mono ?_
            rintro e y0 ⟨rfl, hgs0⟩
            have HLJ0 := Lib.hid (HLI0.out.grew hgs0)
            have HGH0 := Lib.hid (HGG0.out.trans hgs0)
            clear hgs0 HSM HLI0 HGG0
            go_wp2
            go_ret
            exact ⟨by simp, HLJ0.out.ts.gr⟩
        · as_aux_lemma =>
            have HQB0 := Lib.hid hb
            have b1 : (qb != 0) = true := by simpa using hb
            have hva := HSAe.out.2 HQA0.out
            subst hva
            have hvb := HSBe.out.2 HQB0.out
            subst hvb
            go_wp2
            go_ret
            exact ⟨by simp, HLIe.out.ts.gr⟩
  case first =>
    go_wp2_with fail
    go_loopg [17, 21, 22, 23, 24, 25, 26, 27] 30 (fun q s17 s21 s22 s23 s24 s25 s26 s27 wx => ∃ (i gj : Nat) (j : Jr) (d : Pd) (r : Rp), i + q = 30 ∧ s17 = .pointer (some ⟨gj, 0, none⟩) ∧ s21 = .int .i64 (i : Int) ∧ Hid (LI w g gj gx gs first places each i j d r wx))
    case atStart => exact ⟨0, gj, _, _, _, Nat.zero_add _, rfl, rfl, HLI0⟩
    case round =>
      obtain ⟨i, gj, j, d, r, hiq, rfl, rfl, HLI⟩ := hrel
      clear HLI0
      by_cases hin : i < L.length ∧ i < 30
      · obtain ⟨hil, hi30⟩ := hin
        obtain ⟨q0, rfl⟩ : ∃ q0, gk = q0 + 1 := ⟨gk - 1, by omega⟩
        have hil' : (i : Int) < (L.length : Int) := by omega
        have hi30' : (i : Int) < 30 := by omega
        obtain ⟨x, hx⟩ : ∃ x, L[i]? = some x := ⟨_, List.getElem?_eq_getElem hil⟩
        obtain ⟨ad, rfl⟩ : ∃ ad, A = some ad := by
          cases A with
          | none => have := HL.out.2.2.1 rfl; omega
          | some ad => exact ⟨ad, rfl⟩
        obtain ⟨kc0, kc1, ⟨hn1, hn2⟩, AB, cB, kc2, hrb⟩ := grew_heap HL.out HLI.out.ts.gr rfl hx
        obtain ⟨kd, hkd⟩ : ∃ kd, x.kind = kd := ⟨_, rfl⟩
        rw [hkd] at kc0
        clear hkd
        have HRB := Lib.hid hrb
        have HN1 := Lib.hid hn1
        have HN2 := Lib.hid hn2
        have hwi : IntKind.i64.wrap ((i : Int) + 1) = (i : Int) + 1 := IntWalk.i64_in _ (by omega)
        have hbl : x.b.length ≤ 9223372036854775807 := by
          obtain ⟨_, _, he, h1, h2, _⟩ := hrb
          unfold maxLen at h2
          omega
        clear hx hil hi30 hrb hn1 hn2
        by_cases hlong : 2000 < x.b.length
        · have hlong' : (2000 : Int) < (x.b.length : Int) := by omega
          clear hlong
          go_wp2
          go_roundg q0
          case measure => omega
          case rel => exact ⟨i + 1, gj, j, d, r, by omega, rfl, by first | rfl | simp, Lib.hid ((HLI.out.grew (grew_new _)).more (by omega))⟩
        · have hlong' : ¬ (2000 : Int) < (x.b.length : Int) := by omega
          clear hlong
          go_upto_block 2 with fail
          have HDX : Hid (DX (wr.alloc (.cells #[.int .i64 kd, .int .i64 x.n, .slice AB x.b.length cB] 61)) wr.heap.size kd x.n (.slice AB x.b.length cB)) := Lib.hid (heap_alloc_new wr _)
          have HLI1 := Lib.hid (HLI.out.grew (grew_new (w := wr) (.cells #[.int .i64 kd, .int .i64 x.n, .slice AB x.b.length cB] 61)))
          clear HLI kc0 kc1 kc2
          generalize wr.alloc (.cells #[.int .i64 kd, .int .i64 x.n, .slice AB x.b.length cB] 61) = w7 at *
          generalize wr.heap.size = gd at *
          have HRB7 := Lib.hid (HRB.out.grew HLI1.out.ts.gr)
          have HI : Hid (i ≤ 30) := Lib.hid (by omega)
          go_cut [17, 23, 24] (fun s17 s23 s24 wx => ∃ (gj : Nat) (j : Jr) (d : Pd) (r : Rp) (q : Int), s17 = .pointer (some ⟨gj, 0, none⟩) ∧ s23 = .int .i64 q ∧ s24 = .int .i64 q ∧ Hid (LI w g gj gx gs first places each (i + 1) j d r wx))
          case first =>
            obtain ⟨dc0, dc1, dc2⟩ := HDX.out.cells
            have HWT := Lib.hid (HLI1.out.waits (by have := HI.out; omega))
            by_cases k0 : kd = 0
            · as_aux_lemma =>
                subst k0
                obtain ⟨⟨j', d', q⟩, hap⟩ : ∃ y, japp j d x.b = y := ⟨_, rfl⟩
                have HST := Lib.hid (jstep_app HLI1.out.sim HLI1.out.jk HLI1.out.b1 hap)
                have HAPP := Lib.hid (ts_app HLI1.out.ts HLI1.out.jk HLI1.out.b1 HWT.out.1 _ _ x.b HRB7.out q hap)
                clear hap
                go_wp2_with fail
                refine HAPP.out.mono ?_
                rintro e w8 ⟨rfl, hts, hsy⟩
                have HTS8 := Lib.hid hts
                have HDX8 := Lib.hid (HDX.out.stay hsy)
                clear dc0 dc1 dc2 HAPP
                obtain ⟨dc0, dc1, dc2⟩ := HDX8.out.cells
                have HRB8 := Lib.hid (HRB.out.grew hts.gr)
                obtain ⟨A1, A2, A3, c1, c2, c3, hrd, hld, _⟩ := hts.bx.load
                have HL1 := Lib.hid hld
                have HL2 := Lib.hid (load52 hts.sx)
                have hra : Calls Try.prog 28 #[dv A1 A2 A3 r.now.length r.safe.length r.waits.length c1 c2 c3 r.fuse r.off, sh (j.first : Int) (j.places : Int) (j.each : Int) j.base (j.used : Int), .slice AB x.b.length cB] w8 fun e y => APP w8 (rjapp j r x.b).1 (rjapp j r x.b).2.1 (rjapp j r x.b).2.2 e y := rapp_any A1 A2 A3 c1 c2 c3 _ _ _ r.fuse r.off r w8 hrd j.first j.places j.each j.base j.used (HLI1.out.sh HF.out) HWT.out.2 AB cB x.b _ HRB8.out
                obtain ⟨s1, s2, s3, s4, s5, s6, s7, s8, s9, s10⟩ := HST.out
                rw [s1, s2] at hra
                have HRA := Lib.hid hra
                have HS3 := Lib.hid s3
                have HLX : Hid (JK j' ∧ 1 ≤ j'.base ∧ j'.first = first ∧ j'.places = places ∧ j'.each = each ∧ d'.safe.length = 8 ∧ d'.waits.length ≤ 8 * (i + 1)) := Lib.hid ⟨s4, s5, s6.trans HLI1.out.e1, s7.trans HLI1.out.e2, s8.trans HLI1.out.e3, s9.trans HLI1.out.len, by have := HLI1.out.wt; have := HLI1.out.e3; have := HE2.out; omega⟩
                clear hts hsy hrd hld hra s1 s2 s3 s4 s5 s6 s7 s8 s9 s10 HST
                go_wp2_with (first
                  | refine DArm.wpList_load (by rfl) 49 (.tmp 15) (by with_reducible rfl) _ _ (by rfl) HL1.out ?_
                  | refine DArm.wpList_load (by rfl) 52 (.tmp 16) (by with_reducible rfl) _ _ (by rfl) HL2.out ?_)
                refine HRA.out.mono ?_
                rintro e w9 ⟨v9, rfl, hrd9, hg9⟩
                obtain ⟨za, hsa, htsa, _⟩ := ts_put (HTS8.out.grew hg9) hrd9
                obtain ⟨zb, hsb, htsb, _⟩ := ts_shape htsa j'
                have HSA := Lib.hid hsa
                have HSB := Lib.hid hsb
                have HLI2 : Hid (LI w g gj gx gs first places each (i + 1) j' d' (rjapp j r x.b).2.1 zb) := Lib.hid ⟨htsb, HS3.out, HLX.out.1, HLX.out.2.1, HLX.out.2.2.1, HLX.out.2.2.2.1, HLX.out.2.2.2.2.1, HLX.out.2.2.2.2.2.1, HLX.out.2.2.2.2.2.2⟩
                clear hrd9 hg9 hsa htsa hsb htsb HRA HL1 HL2 HTS8 HLX HS3 dc0 dc1 dc2
                go_wp2_with (first
                  | refine DArm.wpList_store (by rfl) 49 (.tmp 15) (.tmp 133) (by with_reducible rfl) _ _ (by rfl) (by rfl) _ HSA.out ?_
                  | refine DArm.wpList_store (by rfl) 52 (.tmp 16) (.tmp 134) (by with_reducible rfl) _ _ (by rfl) (by rfl) _ HSB.out ?_)
                go_meet
                case rel => exact ⟨gj, j', d', _, q, rfl, rfl, rfl, HLI2⟩
            by_cases k1 : kd = 1
            · as_aux_lemma =>
                subst k1
                have HAPP := Lib.hid (ts_crash HLI1.out.ts HWT.out.1 _ _ x.b HRB7.out (fun k hk => hk))
                clear k0
                go_wp2_with fail
                refine HAPP.out.mono ?_
                rintro e w8 ⟨rfl, hts, hsy⟩
                have HTS8 := Lib.hid hts
                have HDX8 := Lib.hid (HDX.out.stay hsy)
                clear dc0 dc1 dc2 HAPP
                obtain ⟨dc0, dc1, dc2⟩ := HDX8.out.cells
                have HRB8 := Lib.hid (HRB.out.grew hts.gr)
                obtain ⟨A1, A2, A3, c1, c2, c3, hrd, hld, _⟩ := hts.bx.load
                have HL1 := Lib.hid hld
                have HRA := Lib.hid (DRefE.rcrash_any r _ _ _ x.b w8 hrd HRB8.out (by rw [HLI1.out.sim.safe]; exact HLI1.out.sim.even) (by rw [HLI1.out.sim.safe, HLI1.out.sim.waits]; exact HLI1.out.sim.fit) (by rw [HLI1.out.sim.safe, HLI1.out.len]; omega) (by rw [HLI1.out.sim.safe, HLI1.out.len]; omega) (by have := HWT.out.2; omega))
                clear hts hsy hrd hld
                go_wp2_with (refine DArm.wpList_load (by rfl) 49 (.tmp 15) (by with_reducible rfl) _ _ (by rfl) HL1.out ?_)
                refine HRA.out.mono ?_
                rintro e w9 ⟨v9, rfl, hrd9, hg9⟩
                obtain ⟨za, hsa, htsa, _⟩ := ts_put (HTS8.out.grew hg9) hrd9
                have HSA := Lib.hid hsa
                have HLI2 : Hid (LI w g gj gx gs first places each (i + 1) j (DFlush.crashed d x.b) (rcrash r x.b) za) := Lib.hid ⟨htsa, HLI1.out.sim.crashed x.b, HLI1.out.jk, HLI1.out.b1, HLI1.out.e1, HLI1.out.e2, HLI1.out.e3, (crashed_len d x.b).trans HLI1.out.len, Nat.zero_le _⟩
                clear hrd9 hg9 hsa htsa HRA HL1 HTS8 dc0 dc1 dc2
                go_wp2_with (refine DArm.wpList_store (by rfl) 49 (.tmp 15) (.tmp 145) (by with_reducible rfl) _ _ (by rfl) (by rfl) _ HSA.out ?_)
                go_meet
                case rel => exact ⟨gj, j, _, _, 0, rfl, rfl, rfl, HLI2⟩
            by_cases k2 : kd = 2
            · as_aux_lemma =>
                subst k2
                have HAPP := Lib.hid (ts_fuse HLI1.out.ts x.n HN2.out)
                clear k1 k0
                go_wp2_with fail
                refine HAPP.out.mono ?_
                rintro e w8 ⟨rfl, hts, hsy⟩
                have HTS8 := Lib.hid hts
                have HDX8 := Lib.hid (HDX.out.stay hsy)
                clear dc0 dc1 dc2 HAPP
                obtain ⟨dc0, dc1, dc2⟩ := HDX8.out.cells
                obtain ⟨A1, A2, A3, c1, c2, c3, hrd, hld, _⟩ := hts.bx.load
                have HL1 := Lib.hid hld
                have HRA := Lib.hid (rfuse_any r _ x.n w8 hrd HN2.out)
                clear hts hsy hrd hld
                go_wp2_with (refine DArm.wpList_load (by rfl) 49 (.tmp 15) (by with_reducible rfl) _ _ (by rfl) HL1.out ?_)
                refine HRA.out.mono ?_
                rintro e w9 ⟨v9, rfl, hrd9, hg9⟩
                obtain ⟨za, hsa, htsa, _⟩ := ts_put (HTS8.out.grew hg9) hrd9
                have HSA := Lib.hid hsa
                have HLI2 : Hid (LI w g gj gx gs first places each (i + 1) j (DTurn.fused d x.n) (rfus r x.n) za) := Lib.hid ⟨htsa, HLI1.out.sim.fused x.n HN2.out, HLI1.out.jk, HLI1.out.b1, HLI1.out.e1, HLI1.out.e2, HLI1.out.e3, HLI1.out.len, (HLI1.out.more (Nat.le_succ i)).wt⟩
                clear hrd9 hg9 hsa htsa HRA HL1 HTS8 dc0 dc1 dc2
                go_wp2_with (refine DArm.wpList_store (by rfl) 49 (.tmp 15) (.tmp 155) (by with_reducible rfl) _ _ (by rfl) (by rfl) _ HSA.out ?_)
                go_meet
                case rel => exact ⟨gj, j, _, _, 0, rfl, rfl, rfl, HLI2⟩
            by_cases k3 : kd = 3
            · subst k3
              obtain ⟨b', hb', hb64⟩ : ∃ b' : Nat, IntKind.u64.wrap x.n = (b' : Int) ∧ b' < 18446744073709551616 := by
                have h0 := IntKind.wrap_u64 x.n
                refine ⟨(IntKind.u64.wrap x.n).toNat, ?_, ?_⟩ <;> (rw [h0]; omega)
              obtain ⟨w8, hst8, hsi8, hg8⟩ := place_new w7 (first : Int) (places : Int) (each : Int) b' 0
              have HLI8 := Lib.hid (HLI1.out.grew hg8)
              have HDX8 := Lib.hid (HDX.out.grew hg8)
              have HST8 := Lib.hid hst8
              have HSI8 := Lib.hid hsi8
              have HB64 := Lib.hid hb64
              obtain ⟨ec0, ec1, ec2⟩ := HDX8.out.cells
              clear hst8 hsi8 hg8 hb64 k0 k1 k2
              go_wp2_with (refine DArm.wpList_store (by rfl) 52 (.tmp 25) (.tmp 164) (by with_reducible rfl) _ _ (by rfl) (by rfl) _ HST8.out ?_)
              clear dc0 dc1 dc2 ec0 ec1 ec2 HST8
              generalize w7.heap.size = gt at *
              obtain ⟨D8, hdt8, hs8⟩ := HLI8.out.ts.ex
              have HDT8 := Lib.hid hdt8
              have HS8 := Lib.hid hs8
              clear hdt8 hs8
              have hjr : jref r.now.length r.off (first : Int) (places : Int) (each : Int) b' = jrefus d (first : Int) (places : Int) (each : Int) b' := by
                rw [jref_is, HLI8.out.sim.len, HLI8.out.sim.off]
              have HJR := Lib.hid hjr
              clear hjr
              by_cases hq3 : jrefus d (first : Int) (places : Int) (each : Int) b' = 0
              · as_aux_lemma =>
                  have HQ3 := Lib.hid hq3
                  clear hq3
                  refine (jnew_any w8 g D8 d first places each b' HDT8.out.1 HB64.out (by have := HF.out; omega) HQ3.out).mono ?_
                  rintro e w9 ⟨gj', rfl, hjl, hgj', hg9⟩
                  have HLI9 := Lib.hid (HLI8.out.grew hg9)
                  have HSI9 : Hid (SI w9 gt (first : Int) (places : Int) (each : Int) b' 0) := Lib.hid (DWrite.keepB HSI8.out hg9)
                  have HJL9 := Lib.hid hjl
                  have HGJ9 : Hid (w.heap.size ≤ gj') := Lib.hid (Nat.le_trans HLI8.out.ts.gr.size hgj')
                  obtain ⟨A1, A2, A3, c1, c2, c3, hrd, hld, _⟩ := HLI9.out.ts.bx.load
                  have HL1 := Lib.hid hld
                  have HL2 := Lib.hid HSI9.out.load
                  have hab := rable_any A1 A2 A3 r.now.length r.safe.length r.waits.length c1 c2 c3 r.fuse r.off (first : Int) (places : Int) (each : Int) b' 0 w9 (by rw [HLI9.out.sim.len, HLI9.out.len]; omega) HB64.out (by have := HF.out; omega) (by have := HF.out; omega)
                  rw [HJR.out, HQ3.out] at hab
                  have HAB := Lib.hid hab
                  clear hjl hgj' hg9 hrd hld hab HLI8 HSI8 HDT8 HS8
                  go_wp2_with (first
                    | refine DArm.wpList_load (by rfl) 49 (.tmp 15) (by with_reducible rfl) _ _ (by rfl) HL1.out ?_
                    | refine DArm.wpList_load (by rfl) 52 (.tmp 25) (by with_reducible rfl) _ _ (by rfl) HL2.out ?_)
                  refine HAB.out.mono ?_
                  rintro e wa ⟨rfl, hga⟩
                  have HTA : Hid (TS w g gj' gx gs ⟨first, places, each, 0, b'⟩ d j r wa) := Lib.hid (by
                    have h := HLI9.out.ts.grew hga
                    exact ⟨h.ex, HJL9.out.grew hga, h.bx, h.sx, HGJ9.out, h.lx, h.ls, h.gr⟩)
                  have HSIA : Hid (SI wa gt (first : Int) (places : Int) (each : Int) b' 0) := Lib.hid (DWrite.keepB HSI9.out hga)
                  have HLA := Lib.hid (HLI9.out.grew hga)
                  clear hga HAB HL1 HL2 HLI9 HSI9 HJL9 HGJ9
                  go_upto_region 33 with fail
                  refine Chain.wp_chain [3] (fun ii _ y => (ii = 0 → TS w g gj' gx gs ⟨first, places, each, 0, b'⟩ d j r y ∧ SI y gt (first : Int) (places : Int) (each : Int) b' 0) ∧ (1 ≤ ii → TS w g gj' gx gs ⟨first, places, each, 0, b'⟩ d ⟨first, places, each, 0, b'⟩ r y)) (by kernel_rfl) (by kernel_rfl) ⟨fun _ => ⟨HTA.out.grew ((Grew.refl _).drew), DWrite.keepB HSIA.out ((Grew.refl _).drew)⟩, fun h => by omega⟩ ?_
                  apply Marks.Lex.exact [] _ (by kernel_rfl)
                  · intro m u W hm hcl hJ _
                    unfold Marks.one
                    go_simp
                    exact ⟨trivial, hJ.quiet (k := 0) _ (by rfl) (fun ii hh => hh), rfl⟩
                  simp only [Act.put, List.setIfInBounds_toArray, List.set_cons_zero, List.set_cons_succ, Nat.zero_add]
                  apply Marks.Lex.exact [] (sh (first : Int) (places : Int) (each : Int) b' 0) (by kernel_rfl)
                  · intro m u W hm hcl hJ _
                    have hC := hJ.first hm 3 rfl (by decide)
                    exact DWrite.one_load rfl 52 (.tmp 25) rfl _ _ rfl ((hC.1 rfl).2.load) ⟨trivial, hJ.quiet (k := 1) _ (by rfl) (fun ii hh => hh), rfl⟩
                  simp only [Act.put, List.setIfInBounds_toArray, List.set_cons_zero, List.set_cons_succ, Nat.reduceAdd]
                  apply Marks.Lex.exact [] _ (by kernel_rfl)
                  · intro m u W hm hcl hJ _
                    unfold Marks.one
                    go_simp
                    exact ⟨trivial, hJ.quiet (k := 2) _ (by rfl) (fun ii hh => hh), rfl⟩
                  simp only [Act.put, List.setIfInBounds_toArray, List.set_cons_zero, List.set_cons_succ, Nat.reduceAdd]
                  apply Marks.Lex.exact [] undef (by kernel_rfl)
                  · intro m u W hm hcl hJ _
                    obtain ⟨hP, hput⟩ := hJ.put 0 rfl hm hcl (by decide) (by decide)
                    obtain ⟨z, hst, hts, _⟩ := ts_shape (hP.1 rfl).1 ⟨first, places, each, 0, b'⟩
                    exact DWrite.one_store rfl 52 (.tmp 16) (.tmp 187) rfl _ _ rfl rfl z hst ⟨trivial, hput undef z (fun _ => ⟨fun h => by omega, fun _ => hts⟩), rfl⟩
                  simp only [Act.put, List.setIfInBounds_toArray, List.set_cons_zero, List.set_cons_succ, Nat.reduceAdd]
                  refine Marks.Lex.done fun m0 u W' hm hJ _ => ?_
                  have hE := hJ.done (by intro k hk; exact hm k (by simp at hk; omega))
                  have HN := Lib.hid (jrefus_nat HQ3.out)
                  have HLI2 : Hid (LI w g gj' gx gs first places each (i + 1) ⟨first, places, each, 0, b'⟩ d r W') := Lib.hid ⟨hE.2 (by decide), HLA.out.sim, ⟨HN.out.1, HN.out.2.1, HN.out.2.2.1, HN.out.2.2.2.1, by have := HF.out; show first ≤ 16384; omega, Nat.zero_le _, HN.out.2.2.2.2.2.2.1⟩, HN.out.2.2.2.2.2.1, rfl, rfl, rfl, HLA.out.len, (HLA.out.more (Nat.le_succ i)).wt⟩
                  clear hE hJ hm HTA HSIA HLA HN
                  go_wp2
                  go_meet
                  case rel => exact ⟨gj', _, d, r, 0, rfl, rfl, rfl, HLI2⟩
              · as_aux_lemma =>
                  obtain ⟨q3, hq4⟩ : ∃ q3, jrefus d (first : Int) (places : Int) (each : Int) b' = q3 := ⟨_, rfl⟩
                  rw [hq4] at hq3
                  have HQ3 := Lib.hid hq3
                  have HQ4 := Lib.hid hq4
                  have b0 : (q3 == 0) = false := by simpa using hq3
                  clear hq4
                  refine (jnew_bad w8 g D8 d (first : Int) (places : Int) (each : Int) b' q3 HDT8.out.1 HB64.out (by have := HF.out; omega) (by have := HF.out; omega) HQ4.out HQ3.out).mono ?_
                  rintro e w9 ⟨rfl, rfl⟩
                  obtain ⟨A1, A2, A3, c1, c2, c3, hrd, hld, _⟩ := HLI8.out.ts.bx.load
                  have HL1 := Lib.hid hld
                  have HL2 := Lib.hid HSI8.out.load
                  have hab := rable_any A1 A2 A3 r.now.length r.safe.length r.waits.length c1 c2 c3 r.fuse r.off (first : Int) (places : Int) (each : Int) b' 0 w8 (by rw [HLI8.out.sim.len, HLI8.out.len]; omega) HB64.out (by have := HF.out; omega) (by have := HF.out; omega)
                  rw [HJR.out, HQ4.out] at hab
                  have HAB := Lib.hid hab
                  clear hrd hld hab HDT8 HS8
                  go_wp2_with (first
                    | refine DArm.wpList_load (by rfl) 49 (.tmp 15) (by with_reducible rfl) _ _ (by rfl) HL1.out ?_
                    | refine DArm.wpList_load (by rfl) 52 (.tmp 25) (by with_reducible rfl) _ _ (by rfl) HL2.out ?_)
                  refine HAB.out.mono ?_
                  rintro e wa ⟨rfl, hga⟩
                  have HLI2 := Lib.hid ((HLI8.out.grew hga).more (Nat.le_succ i))
                  clear hga HAB HL1 HL2 HLI8 HSI8
                  go_wp2
                  go_meet
                  case rel => exact ⟨gj, j, d, r, q3, rfl, rfl, rfl, HLI2⟩
            · as_aux_lemma =>
                have b0 : (kd == 0) = false := by simpa using k0
                have b1 : (kd == 1) = false := by simpa using k1
                have b2 : (kd == 2) = false := by simpa using k2
                have b3 : (kd == 3) = false := by simpa using k3
                obtain ⟨⟨d', q⟩, hap⟩ : ∃ y, DWrite.written d x.n x.b = y := ⟨_, rfl⟩
                have HAPP := Lib.hid (ts_write HLI1.out.ts HWT.out.1 x.n _ _ x.b HRB7.out q hap)
                obtain ⟨s1, s2⟩ := HLI1.out.sim.written x.n x.b
                have s3 := written_len d x.n x.b
                have s4 := DSim.written_waits d x.n x.b
                rw [hap] at s1 s2 s3 s4
                have HST : Hid ((rwritten r x.n x.b).2 = q ∧ Sim d' (rwritten r x.n x.b).1 ∧ d'.safe.length = 8 ∧ d'.waits.length ≤ 8 * (i + 1)) := Lib.hid ⟨s1.symm, s2, s3.trans HLI1.out.len, by have := HLI1.out.wt; simp only at s4; omega⟩
                clear hap s1 s2 s3 s4
                go_wp2_with fail
                refine HAPP.out.mono ?_
                rintro e w8 ⟨rfl, hts, hsy⟩
                have HTS8 := Lib.hid hts
                have HDX8 := Lib.hid (HDX.out.stay hsy)
                clear dc0 dc1 dc2 HAPP
                obtain ⟨dc0, dc1, dc2⟩ := HDX8.out.cells
                have HRB8 := Lib.hid (HRB.out.grew hts.gr)
                obtain ⟨A1, A2, A3, c1, c2, c3, hrd, hld, _⟩ := hts.bx.load
                have HL1 := Lib.hid hld
                have hra := rwrite_any r _ _ x.n _ x.b w8 hrd HRB8.out (by rw [HLI1.out.sim.len, HLI1.out.len]; omega) (by have := HWT.out.2; omega)
                rw [HST.out.1] at hra
                have HRA := Lib.hid hra
                clear hts hsy hrd hld hra
                go_wp2_with (refine DArm.wpList_load (by rfl) 49 (.tmp 15) (by with_reducible rfl) _ _ (by rfl) HL1.out ?_)
                refine HRA.out.mono ?_
                rintro e w9 ⟨v9, rfl, hrd9, hg9⟩
                obtain ⟨za, hsa, htsa, _⟩ := ts_put (HTS8.out.grew hg9) hrd9
                have HSA := Lib.hid hsa
                have HLI2 : Hid (LI w g gj gx gs first places each (i + 1) j d' (rwritten r x.n x.b).1 za) := Lib.hid ⟨htsa, HST.out.2.1, HLI1.out.jk, HLI1.out.b1, HLI1.out.e1, HLI1.out.e2, HLI1.out.e3, HST.out.2.2.1, HST.out.2.2.2⟩
                clear hrd9 hg9 hsa htsa HRA HL1 HTS8 dc0 dc1 dc2 HST
                go_wp2_with (refine DArm.wpList_store (by rfl) 49 (.tmp 15) (.tmp 119) (by with_reducible rfl) _ _ (by rfl) (by rfl) _ HSA.out ?_)
                go_meet
                case rel => exact ⟨gj, j, _, _, q, rfl, rfl, rfl, HLI2⟩
          case rest =>
            as_aux_lemma =>
              obtain ⟨gj2, j2, d2, r2, q2, rfl, rfl, rfl, HLI2⟩ := hcut
              clear HLI1 HDX HRB7 HRB HN1 HN2
              obtain ⟨f2, p2, e2, u2, b2⟩ := j2
              obtain ⟨pe, hpe⟩ : ∃ pe, p2 * e2 = pe := ⟨_, rfl⟩
              have hjk := HLI2.out.jk
              have hc1 : (p2 : Int) * (e2 : Int) = (pe : Int) := by rw [← hpe]; simp
              have hb2 : b2 + pe ≤ 4611686018427387904 := by rw [← hpe]; exact hjk.b
              have hu2 : u2 ≤ p2 := hjk.u
              have hp16 : p2 ≤ 16 := hjk.p2
              have w0 : IntKind.i64.wrap ((p2 : Int) - (u2 : Int)) = (p2 : Int) - (u2 : Int) := IntWalk.i64_in _ (by omega)
              have w1 : IntKind.i64.wrap ((p2 : Int) * (e2 : Int)) = (pe : Int) := by rw [hc1]; exact IntWalk.i64_in _ (by omega)
              have w2 : IntKind.u64.wrap (pe : Int) = (pe : Int) := by rw [IntKind.wrap_u64]; omega
              have w3 : IntKind.u64.wrap ((b2 : Int) + (pe : Int)) = (b2 : Int) + (pe : Int) := by rw [IntKind.wrap_u64]; omega
              have n0 : (q2 != q2) = false := by simp
              have n1 : (((p2 : Int) - (u2 : Int)) != ((p2 : Int) - (u2 : Int))) = false := by simp
              have n2 : (((b2 : Int) + (pe : Int)) != ((b2 : Int) + (pe : Int))) = false := by simp
              have HLEFT : Hid (∀ W, Grew wc W → Calls Try.prog 34 #[.pointer (some ⟨gj2, 0, none⟩)] W fun e w' => e = .returned (.int .i64 ((p2 : Int) - (u2 : Int))) ∧ Grew W w') := Lib.hid fun W hW => jleft_any W gj2 g _ (HLI2.out.ts.jl.grew hW) HLI2.out.jk
              have HNEXT : Hid (∀ W, Grew wc W → Calls Try.prog 35 #[.pointer (some ⟨gj2, 0, none⟩)] W fun e w' => e = .returned (.int .u64 ((b2 : Int) + (pe : Int))) ∧ Grew W w') := Lib.hid fun W hW => by
                have h := jnext_any W gj2 g _ (HLI2.out.ts.jl.grew hW) HLI2.out.jk
                have e : (((⟨f2, p2, e2, u2, b2⟩ : Jr).base + (⟨f2, p2, e2, u2, b2⟩ : Jr).places * (⟨f2, p2, e2, u2, b2⟩ : Jr).each : Nat) : Int) = (b2 : Int) + (pe : Int) := by show ((b2 + p2 * e2 : Nat) : Int) = _; rw [hpe]; omega
                rw [e] at h
                exact h
              clear hpe hc1 hb2 hu2 hp16 hjk
              go_upto_region 34 with fail
              refine Facts.wp_region_text (by kernel_rfl) (by kernel_rfl) ?_
              apply Facts.Lex.exact [] _ (by kernel_rfl)
              · intro u W hC hK
                unfold Facts.one
                go_simp
                all_goals (first | exact ⟨Grew.refl _, rfl⟩ | rfl)
              simp only [Act.put, List.setIfInBounds_toArray, List.set_cons_zero, List.set_cons_succ, Nat.zero_add]
              apply Facts.Lex.exact [] _ (by kernel_rfl)
              · intro u W hC hK
                unfold Facts.one
                go_simp
                all_goals (first | exact ⟨Grew.refl _, rfl⟩ | rfl)
              simp only [Act.put, List.setIfInBounds_toArray, List.set_cons_zero, List.set_cons_succ, Nat.reduceAdd]
              apply Facts.Lex.exact [] (.bool false) (by kernel_rfl)
              · intro u W hC hK
                unfold Facts.one
                go_simp
                all_goals (first | exact ⟨Grew.refl _, rfl⟩ | rfl)
              simp only [Act.put, List.setIfInBounds_toArray, List.set_cons_zero, List.set_cons_succ, Nat.reduceAdd]
              apply Facts.Lex.exact [] (.bool false) (by kernel_rfl)
              · intro u W hC hK
                unfold Facts.one
                go_simp
                all_goals (first | exact ⟨Grew.refl _, rfl⟩ | rfl)
              simp only [Act.put, List.setIfInBounds_toArray, List.set_cons_zero, List.set_cons_succ, Nat.reduceAdd]
              apply Facts.Lex.exact [] _ (by kernel_rfl)
              · intro u W hC hK
                unfold Facts.one
                go_simp
                all_goals (first | exact ⟨Grew.refl _, rfl⟩ | rfl)
              simp only [Act.put, List.setIfInBounds_toArray, List.set_cons_zero, List.set_cons_succ, Nat.reduceAdd]
              apply Facts.Lex.exact [] (.int .i64 ((p2 : Int) - (u2 : Int))) (by kernel_rfl)
              · intro u W hC hK
                unfold Facts.one
                go_simp
                refine (HLEFT.out W hC).mono ?_
                rintro e w' ⟨rfl, hg⟩
                exact ⟨_, rfl, hg, rfl⟩
              simp only [Act.put, List.setIfInBounds_toArray, List.set_cons_zero, List.set_cons_succ, Nat.reduceAdd]
              apply Facts.Lex.exact [] _ (by kernel_rfl)
              · intro u W hC hK
                unfold Facts.one
                go_simp
                all_goals (first | exact ⟨Grew.refl _, rfl⟩ | rfl)
              simp only [Act.put, List.setIfInBounds_toArray, List.set_cons_zero, List.set_cons_succ, Nat.reduceAdd]
              apply Facts.Lex.exact [] _ (by kernel_rfl)
              · intro u W hC hK
                obtain ⟨t0, t1, t2, t3, t4⟩ := (HLI2.out.ts.sx.grew hC).cells
                simp only at t0 t1 t2 t3 t4
                unfold Facts.one
                go_simp
                all_goals (first | exact ⟨Grew.refl _, rfl⟩ | rfl)
              simp only [Act.put, List.setIfInBounds_toArray, List.set_cons_zero, List.set_cons_succ, Nat.reduceAdd]
              apply Facts.Lex.exact [] _ (by kernel_rfl)
              · intro u W hC hK
                unfold Facts.one
                go_simp
                all_goals (first | exact ⟨Grew.refl _, rfl⟩ | rfl)
              simp only [Act.put, List.setIfInBounds_toArray, List.set_cons_zero, List.set_cons_succ, Nat.reduceAdd]
              apply Facts.Lex.exact [] _ (by kernel_rfl)
              · intro u W hC hK
                obtain ⟨t0, t1, t2, t3, t4⟩ := (HLI2.out.ts.sx.grew hC).cells
                simp only at t0 t1 t2 t3 t4
                unfold Facts.one
                go_simp
                all_goals (first | exact ⟨Grew.refl _, rfl⟩ | rfl)
              simp only [Act.put, List.setIfInBounds_toArray, List.set_cons_zero, List.set_cons_succ, Nat.reduceAdd]
              apply Facts.Lex.exact [] (.int .i64 ((p2 : Int) - (u2 : Int))) (by kernel_rfl)
              · intro u W hC hK
                unfold Facts.one
                go_simp
                all_goals (first | exact ⟨Grew.refl _, rfl⟩ | rfl)
              simp only [Act.put, List.setIfInBounds_toArray, List.set_cons_zero, List.set_cons_succ, Nat.reduceAdd]
              apply Facts.Lex.exact [] (.bool false) (by kernel_rfl)
              · intro u W hC hK
                unfold Facts.one
                go_simp
                all_goals (first | exact ⟨Grew.refl _, rfl⟩ | rfl)
              simp only [Act.put, List.setIfInBounds_toArray, List.set_cons_zero, List.set_cons_succ, Nat.reduceAdd]
              apply Facts.Lex.exact [] (.bool false) (by kernel_rfl)
              · intro u W hC hK
                unfold Facts.one
                go_simp
                all_goals (first | exact ⟨Grew.refl _, rfl⟩ | rfl)
              simp only [Act.put, List.setIfInBounds_toArray, List.set_cons_zero, List.set_cons_succ, Nat.reduceAdd]
              apply Facts.Lex.exact [] (.bool false) (by kernel_rfl)
              · intro u W hC hK
                unfold Facts.one
                go_simp
                all_goals (first | exact ⟨Grew.refl _, rfl⟩ | rfl)
              simp only [Act.put, List.setIfInBounds_toArray, List.set_cons_zero, List.set_cons_succ, Nat.reduceAdd]
              apply Facts.Lex.exact [] _ (by kernel_rfl)
              · intro u W hC hK
                unfold Facts.one
                go_simp
                all_goals (first | exact ⟨Grew.refl _, rfl⟩ | rfl)
              simp only [Act.put, List.setIfInBounds_toArray, List.set_cons_zero, List.set_cons_succ, Nat.reduceAdd]
              apply Facts.Lex.exact [] (.int .u64 ((b2 : Int) + (pe : Int))) (by kernel_rfl)
              · intro u W hC hK
                unfold Facts.one
                go_simp
                refine (HNEXT.out W hC).mono ?_
                rintro e w' ⟨rfl, hg⟩
                exact ⟨_, rfl, hg, rfl⟩
              simp only [Act.put, List.setIfInBounds_toArray, List.set_cons_zero, List.set_cons_succ, Nat.reduceAdd]
              apply Facts.Lex.exact [] _ (by kernel_rfl)
              · intro u W hC hK
                unfold Facts.one
                go_simp
                all_goals (first | exact ⟨Grew.refl _, rfl⟩ | rfl)
              simp only [Act.put, List.setIfInBounds_toArray, List.set_cons_zero, List.set_cons_succ, Nat.reduceAdd]
              apply Facts.Lex.exact [] _ (by kernel_rfl)
              · intro u W hC hK
                obtain ⟨t0, t1, t2, t3, t4⟩ := (HLI2.out.ts.sx.grew hC).cells
                simp only at t0 t1 t2 t3 t4
                unfold Facts.one
                go_simp
                all_goals (first | exact ⟨Grew.refl _, rfl⟩ | rfl)
              simp only [Act.put, List.setIfInBounds_toArray, List.set_cons_zero, List.set_cons_succ, Nat.reduceAdd]
              apply Facts.Lex.exact [] _ (by kernel_rfl)
              · intro u W hC hK
                unfold Facts.one
                go_simp
                all_goals (first | exact ⟨Grew.refl _, rfl⟩ | rfl)
              simp only [Act.put, List.setIfInBounds_toArray, List.set_cons_zero, List.set_cons_succ, Nat.reduceAdd]
              apply Facts.Lex.exact [] _ (by kernel_rfl)
              · intro u W hC hK
                obtain ⟨t0, t1, t2, t3, t4⟩ := (HLI2.out.ts.sx.grew hC).cells
                simp only at t0 t1 t2 t3 t4
                unfold Facts.one
                go_simp
                all_goals (first | exact ⟨Grew.refl _, rfl⟩ | rfl)
              simp only [Act.put, List.setIfInBounds_toArray, List.set_cons_zero, List.set_cons_succ, Nat.reduceAdd]
              apply Facts.Lex.exact [] _ (by kernel_rfl)
              · intro u W hC hK
                unfold Facts.one
                go_simp
                all_goals (first | exact ⟨Grew.refl _, rfl⟩ | rfl)
              simp only [Act.put, List.setIfInBounds_toArray, List.set_cons_zero, List.set_cons_succ, Nat.reduceAdd]
              apply Facts.Lex.exact [] _ (by kernel_rfl)
              · intro u W hC hK
                obtain ⟨t0, t1, t2, t3, t4⟩ := (HLI2.out.ts.sx.grew hC).cells
                simp only at t0 t1 t2 t3 t4
                unfold Facts.one
                go_simp
                all_goals (first | exact ⟨Grew.refl _, rfl⟩ | rfl)
              simp only [Act.put, List.setIfInBounds_toArray, List.set_cons_zero, List.set_cons_succ, Nat.reduceAdd]
              apply Facts.Lex.exact [] (.int .i64 (pe : Int)) (by kernel_rfl)
              · intro u W hC hK
                unfold Facts.one
                go_simp
                all_goals (first | exact ⟨Grew.refl _, rfl⟩ | rfl)
              simp only [Act.put, List.setIfInBounds_toArray, List.set_cons_zero, List.set_cons_succ, Nat.reduceAdd]
              apply Facts.Lex.exact [] (.int .u64 (pe : Int)) (by kernel_rfl)
              · intro u W hC hK
                unfold Facts.one
                go_simp
                all_goals (first | exact ⟨Grew.refl _, rfl⟩ | rfl)
              simp only [Act.put, List.setIfInBounds_toArray, List.set_cons_zero, List.set_cons_succ, Nat.reduceAdd]
              apply Facts.Lex.exact [] (.int .u64 ((b2 : Int) + (pe : Int))) (by kernel_rfl)
              · intro u W hC hK
                unfold Facts.one
                go_simp
                all_goals (first | exact ⟨Grew.refl _, rfl⟩ | rfl)
              simp only [Act.put, List.setIfInBounds_toArray, List.set_cons_zero, List.set_cons_succ, Nat.reduceAdd]
              apply Facts.Lex.exact [] (.bool false) (by kernel_rfl)
              · intro u W hC hK
                unfold Facts.one
                go_simp
                all_goals (first | exact ⟨Grew.refl _, rfl⟩ | rfl)
              simp only [Act.put, List.setIfInBounds_toArray, List.set_cons_zero, List.set_cons_succ, Nat.reduceAdd]
              apply Facts.Lex.exact [] (.bool false) (by kernel_rfl)
              · intro u W hC hK
                unfold Facts.one
                go_simp
                all_goals (first | exact ⟨Grew.refl _, rfl⟩ | rfl)
              simp only [Act.put, List.setIfInBounds_toArray, List.set_cons_zero, List.set_cons_succ, Nat.reduceAdd]
              refine Facts.Lex.done fun u W hC _ => ?_
              have HLI3 := Lib.hid (HLI2.out.grew hC)
              clear hC HLI2 HLEFT HNEXT w0 w1 w2 w3 n0 n1 n2
              go_wp2
              go_roundg q0
              case measure => omega
              case rel => exact ⟨i + 1, gj2, _, d2, r2, by omega, rfl, by first | rfl | simp, HLI3⟩
      · have HLI3 := Lib.hid (HLI.out.more (show i ≤ 30 by omega))
        by_cases h30 : i < 30
        · have hil : ¬ (i : Int) < (L.length : Int) := by omega
          clear hin h30
          go_wp2_with fail
          go_meet
          case rel => exact ⟨gj, j, d, r, HLI3⟩
        · have h30' : ¬ (i : Int) < 30 := by omega
          clear hin h30
          by_cases hil : (i : Int) < (L.length : Int)
          · go_wp2_with fail
            go_meet
            case rel => exact ⟨gj, j, d, r, HLI3⟩
          · go_wp2_with fail
            go_meet
            case rel => exact ⟨gj, j, d, r, HLI3⟩
theorem law_any (w : World) (first places each : Int) (base other : Nat) (A : Option Addr) (c : Nat) (L : List De) (hL : DE w A c L) (hb : base < 18446744073709551616) (ho : other < 18446744073709551616) (hf1 : -9223372036854775808 ≤ first) (hf2 : first ≤ 9223372036854775807) :
    Calls Try.prog 5 #[.int .i64 first, .int .i64 places, .int .i64 each, .int .u64 (base : Int), .slice A L.length c, .int .u64 (other : Int)] w fun e w' => e = .returned (.bool true) ∧ Grew w w' := by
  by_cases hq : jrefus (DNew.fresh 8) first places each base = 0
  · have hq' := hq
    unfold jrefus at hq
    have h8 : (DNew.fresh 8).safe.length = 8 := DNew.blank_length 8
    rw [h8] at hq
    split at hq
    · omega
    · split at hq
      · omega
      · split at hq
        · omega
        · rename_i h1 h2 h3
          obtain ⟨f, rfl⟩ : ∃ k : Nat, first = k := ⟨first.toNat, by omega⟩
          obtain ⟨p, rfl⟩ : ∃ k : Nat, places = k := ⟨places.toNat, by omega⟩
          obtain ⟨e, rfl⟩ : ∃ k : Nat, each = k := ⟨each.toNat, by omega⟩
          obtain ⟨k1, k2, k3, k4, k5, k6, k7, _⟩ := jrefus_nat hq'
          rw [h8] at k5
          have k8 : p * 1 ≤ p * e := Nat.mul_le_mul_left p k3
          have k9 : 1 * e ≤ p * e := Nat.mul_le_mul_right e k1
          exact law_good w f p e base other A c L hL hb ho hq' k1 (by omega) k3 (by omega) k5 k6 k7
  · exact law_bad w first places each base _ _ hb hf1 hf2 _ rfl hq
end Go.Proofs.Ytbnicphegbdfnaa.RK
