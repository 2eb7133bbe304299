/-
  The program's first snapshot; what the next one refuses; fixed calls.
  Conditions: those that each lemma names.
-/
import Derived.Test.YtbnicphegbdfnaaSN
import Derived.Test.YtbnicphegbdfnaaAI1
import Derived.Deep.CutBlock
namespace Go.Proofs.Ytbnicphegbdfnaa.SB
set_option maxRecDepth 100000
open Go Go.RowKit Go.Proofs.Ytbnicphegbdfnaa Go.Proofs.Ytbnicphegbdfnaa.Facts Go.Proofs.Ytbnicphegbdfnaa.Bytes Go.Proofs.Ytbnicphegbdfnaa.DKeep Go.Proofs.Ytbnicphegbdfnaa.DSmall Go.Proofs.Ytbnicphegbdfnaa.Puts Go.Proofs.Ytbnicphegbdfnaa.SPure Go.Proofs.Ytbnicphegbdfnaa.JA Go.Proofs.Ytbnicphegbdfnaa.JD Go.Proofs.Ytbnicphegbdfnaa.JH Go.Proofs.Ytbnicphegbdfnaa.JQ Go.Proofs.Ytbnicphegbdfnaa.AP Go.Proofs.Ytbnicphegbdfnaa.AQ Go.Proofs.Ytbnicphegbdfnaa.AA Go.Proofs.Ytbnicphegbdfnaa.AW Go.Proofs.Ytbnicphegbdfnaa.AV Go.Proofs.Ytbnicphegbdfnaa.AC Go.Proofs.Ytbnicphegbdfnaa.DS Go.Proofs.Ytbnicphegbdfnaa.AU Go.Proofs.Ytbnicphegbdfnaa.SP Go.Proofs.Ytbnicphegbdfnaa.SN

/-- Sectors of zeros are written, rising. -/
def zw (first : Nat) : Nat → Pd → Pd × Int
  | 0, d => (d, 0)
  | i + 1, d => if (zw first i d).2 = 0 then DWrite.written (zw first i d).1 ((first + i : Nat) : Int) (zeros 128) else zw first i d
theorem zw_waits (first : Nat) (d : Pd) : ∀ i, (zw first i d).1.waits.length ≤ d.waits.length + i
  | 0 => Nat.le_refl _
  | i + 1 => by
    have h := zw_waits first d i
    show (if (zw first i d).2 = 0 then _ else _ : Pd × Int).1.waits.length ≤ _
    split
    · have := written_waits (zw first i d).1 ((first + i : Nat) : Int) (zeros 128)
      omega
    · omega
theorem zw_stop (first i : Nat) (d : Pd) (h : ¬ (zw first i d).2 = 0) : ∀ k, zw first (i + k) d = zw first i d
  | 0 => rfl
  | k + 1 => by
    have := zw_stop first i d h k
    show (if (zw first (i + k) d).2 = 0 then _ else _) = _
    rw [this, if_neg h]
    exact this
def beginP (d : Pd) (f m : Nat) (b : List UInt8) : Pd × Int :=
  if (zw (f + m) m d).2 = 0 then (if (DFlush.flushed (zw (f + m) m d).1).2 = 0 then keepP (DFlush.flushed (zw (f + m) m d).1).1 f 1 m b else DFlush.flushed (zw (f + m) m d).1) else zw (f + m) m d
/-- A disk, rows of bytes, and one block that are kept. -/
def DB (w : World) (g : Nat) (d : Pd) (V : List (Value × List UInt8)) (b : Nat) (o : Obj) (y : World) : Prop := ∃ D, DK y g D d ∧ DAlive.Above D w.heap.size ∧ Grew w y ∧ (∀ p ∈ V, ∃ S, Rd S y p.1 p.2 ∧ ∀ b, S b → b < y.heap.size ∧ ¬ D b) ∧ y.heap[b]? = some o ∧ ¬ D b
section
variable {w y z : World} {g : Nat} {d : Pd} {V : List (Value × List UInt8)} {b : Nat} {o : Obj}
theorem DB.ds (h : DB w g d V b o y) : DS w g d V y := by
  obtain ⟨D, h1, h2, h3, h4, _⟩ := h
  exact ⟨D, h1, h2, h3, h4⟩
theorem DB.blk (h : DB w g d V b o y) : y.heap[b]? = some o := by
  obtain ⟨D, h1, h2, h3, h4, h5, _⟩ := h
  exact h5
theorem DB.grew (h : DB w g d V b o y) (hg : Grew y z) : DB w g d V b o z := by
  have hds := h.ds.grew hg
  obtain ⟨D, h1, h2, h3, h4, h5, h6⟩ := h
  refine ⟨D, h1.grew hg, h2, h3.trans hg, fun p hp => ?_, (hg.block b (Array.getElem?_eq_some_iff.1 h5).1).trans h5, h6⟩
  obtain ⟨S, k1, k2⟩ := h4 p hp
  exact ⟨S, k1.grew hg, fun b hb => ⟨Nat.lt_of_lt_of_le (k2 b hb).1 hg.size, (k2 b hb).2⟩⟩
theorem DB.start (h : DS w g d V y) (hg : Grew y z) (hb : y.heap.size ≤ b) (ho : z.heap[b]? = some o) : DB w g d V b o z := by
  obtain ⟨D, h1, h2, h3, h4⟩ := id (h.grew hg)
  obtain ⟨D, h1, h2, h3, h4⟩ := h
  refine ⟨D, h1.grew hg, h2, h3.trans hg, fun p hp => ?_, ho, fun hd => by have := h1.1 _ hd; omega⟩
  obtain ⟨S, k1, k2⟩ := h4 p hp
  exact ⟨S, k1.grew hg, fun b hb => ⟨Nat.lt_of_lt_of_le (k2 b hb).1 hg.size, (k2 b hb).2⟩⟩
theorem DB.turn {d' : Pd} (h : DB w g d V b o y) {f : Nat} {args : Array Value} {Q : Ending → Prop} (hc : ∀ D, DK y g D d → Calls Try.prog f args y fun e z => Q e ∧ ∃ D', DK z g D' d' ∧ (∀ k, D' k → D k ∨ y.heap.size ≤ k) ∧ Kept D y z) :
    Calls Try.prog f args y fun e z => Q e ∧ DB w g d' V b o z := by
  obtain ⟨D, h1, h2, h3, h4, h5, h6⟩ := h
  refine (hc D h1).mono ?_
  rintro e z ⟨hq, D', k1, k2, k3⟩
  have hlt := (Array.getElem?_eq_some_iff.1 h5).1
  refine ⟨hq, D', k1, DAlive.above_sub h2 k2 h3.size, DAlive.grew_kept h3 k3 (fun k hk => h2 k hk), fun p hp => ?_, (k3.block b hlt h6).trans h5, fun hd => ?_⟩
  · obtain ⟨S, r1, r2⟩ := h4 p hp
    exact ⟨S, r1.keep fun b hb hS => k3.block b hb (r2 b hS).2, fun b hb => ⟨Nat.lt_of_lt_of_le (r2 b hb).1 k3.size, fun hd => by
      rcases k2 b hd with q | q
      · exact (r2 b hb).2 q
      · have := (r2 b hb).1; omega⟩⟩
  · rcases k2 b hd with q | q
    · exact h6 q
    · omega
theorem db_write (h : DB w g d V b o y) (n : Int) (v : Value) (S : Nat → Prop) (l : Sec) (d' : Pd) (q : Int) (hr : Rd S y v l) (hw : d.waits.length ≤ 1073741823) (he : DWrite.written d n l = (d', q)) :
    Calls Try.prog 32 #[.pointer (some ⟨g, 0, none⟩), .int .i64 n, v] y fun e z => e = .returned (.int .i64 q) ∧ DB w g d' V b o z :=
  h.turn (Q := fun e => e = .returned (.int .i64 q)) fun D h1 => DAlive.write_eq y g D d n v S l d' q h1 hr hw he
theorem db_flush (h : DB w g d V b o y) (d' : Pd) (q : Int) (hw : d.waits.length ≤ 1073741824) (he : DFlush.flushed d = (d', q)) :
    Calls Try.prog 20 #[.pointer (some ⟨g, 0, none⟩)] y fun e z => e = .returned (.int .i64 q) ∧ DB w g d' V b o z := by
  refine h.turn (Q := fun e => e = .returned (.int .i64 q)) fun D h1 => (DAlive.flush_eq y g D d d' q h1 hw he).mono ?_
  rintro e z ⟨rfl, k1, k2⟩
  exact ⟨rfl, D, k1, fun k hk => .inl hk, k2⟩
end
/-- One row that is made, and one write, within a region. -/
structure J2 (W0 : World) (km kc : Nat) (Q : World → Prop) (m : Nat → Bool) (u : Nat → Value) (w : World) : Prop where
  bef : m kc = false → Grew W0 w
  row : m km = true → m kc = false → Rd (fun _ => True) w (u km) (zeros 128)
  aft : m kc = true → Q w
  dep : m kc = true → m km = true
section
variable {W0 w w' : World} {km kc : Nat} {Q : World → Prop} {m : Nat → Bool} {u : Nat → Value}
theorem J2.start (W0 : World) (km kc : Nat) (Q : World → Prop) : J2 W0 km kc Q (fun _ => false) (fun _ => undef) W0.drew := ⟨fun _ => (Grew.refl W0).drew, (fun h => by cases h), (fun h => by cases h), (fun h => by cases h)⟩
theorem J2.keep (h : J2 W0 km kc Q m u w) (k : Nat) (v : Value) (h1 : k ≠ km) (h2 : k ≠ kc) : J2 W0 km kc Q (Marks.upd m k) (Marks.updv u k v) w := by
  refine ⟨?_, ?_, ?_, ?_⟩
  · rw [Marks.upd_other m (by omega)]; exact h.bef
  · rw [Marks.upd_other m (by omega), Marks.upd_other m (by omega), Marks.updv_other u v (by omega)]; exact h.row
  · rw [Marks.upd_other m (by omega)]; exact h.aft
  · rw [Marks.upd_other m (by omega), Marks.upd_other m (by omega)]; exact h.dep
theorem J2.made (h : J2 W0 km kc Q m u w) (v : Value) (hn : km ≠ kc) (hm : m km = false) (hg : Grew w w') (hr : Rd (fun _ => True) w' v (zeros 128)) : J2 W0 km kc Q (Marks.upd m km) (Marks.updv u km v) w' := by
  have hq : m kc = false := by
    cases hc : m kc with
    | false => rfl
    | true => have := h.dep hc; rw [hm] at this; cases this
  refine ⟨?_, ?_, ?_, ?_⟩
  · rw [Marks.upd_other m (by omega)]; exact fun q => (h.bef q).trans hg
  · intro _ _; rw [Marks.updv_same]; exact hr
  · rw [Marks.upd_other m (by omega), hq]; exact fun h => by cases h
  · rw [Marks.upd_same]; exact fun _ => rfl
theorem J2.call (h : J2 W0 km kc Q m u w) (v : Value) (hn : km ≠ kc) (hk : m km = true) (hq : Q w') : J2 W0 km kc Q (Marks.upd m kc) (Marks.updv u kc v) w' := by
  refine ⟨?_, ?_, fun _ => hq, ?_⟩
  · rw [Marks.upd_same]; exact fun h => by cases h
  · rw [Marks.upd_same]; exact fun _ h => by cases h
  · intro _; rw [Marks.upd_other m hn]; exact hk
theorem J2.blk (h : J2 W0 km kc Q m u w) {b : Nat} {o : Obj} (h0 : W0.heap[b]? = some o) (hQ : ∀ z, Q z → z.heap[b]? = some o) : w.heap[b]? = some o := by
  cases hc : m kc with
  | false => exact ((h.bef hc).block b (Array.getElem?_eq_some_iff.1 h0).1).trans h0
  | true => exact hQ w (h.aft hc)
end
set_option maxHeartbeats 4000000 in
theorem ds_begin {w y : World} {g : Nat} {d : Pd} {V : List (Value × List UInt8)} (h : DS w g d V y) (f m : Nat) (x0 x1 : Int) (hx0 : x0 = (f : Int)) (hx1 : x1 = (m : Int)) (hq : srefus d (f : Int) (m : Int) = 0) (v : Value) (b : List UInt8) (hin : (v, b) ∈ V) (hb : b.length + 4 ≤ 108 * m) (hw : d.waits.length ≤ 100000) (hq2 : (zw (f + m) m d).2 = 0 → (DFlush.flushed (zw (f + m) m d).1).2 = 0 → arefus (DFlush.flushed (zw (f + m) m d).1).1 (f : Int) (m : Int) = 0 ∧ (DFlush.flushed (zw (f + m) m d).1).1.waits.length ≤ 100000) (d' : Pd) (q : Int) (he : beginP d f m b = (d', q)) :
    Calls Try.prog 40 #[.pointer (some ⟨g, 0, none⟩), .int .i64 x0, .int .i64 x1, v] y fun e z => e = .returned (.int .i64 q) ∧ DS w g d' V z := by
  subst hx0 hx1
  obtain ⟨A, cp, rfl, _⟩ := id (h.rd hin)
  have hfm : 1 ≤ m ∧ f + 2 * m ≤ 16384 := by
    unfold srefus at hq
    obtain ⟨D, hdk, _⟩ := id h
    obtain ⟨_, a, b, ca, cb, vw, h0, _⟩ := id hdk
    have n2 := h0.ok.n2
    split at hq
    · cases hq
    · split at hq
      · cases hq
      · exact ⟨by omega, by omega⟩
  have HFM := Lib.hid hfm
  have HSB := Lib.hid (ds_sbytes h (f : Int) (m : Int) A b.length cp 0 hq)
  rw [if_pos rfl, if_neg (by unfold JA.room; rw [if_neg (by omega), if_neg (by omega)]; omega)] at HSB
  have HBO := Lib.hid (fun w => both_any (f : Int) (m : Int) w (by omega) (by omega))
  have HIN := Lib.hid hin
  have HB := Lib.hid hb
  have HW := Lib.hid hw
  have HQ2 := Lib.hid hq2
  have HE := Lib.hid he
  have HDY := Lib.hid h
  clear h hq hin hb hw hq2 he hfm
  go_enter Try.func40, Try.ntmps40
  go_wp2_with fail
  refine HSB.out.mono ?_
  rintro e w' ⟨rfl, rfl⟩
  clear HSB
  go_wp2_with fail
  refine (HBO.out _).mono ?_
  rintro e w1 ⟨rfl, hg⟩
  have HD1 := Lib.hid (HDY.out.grew hg)
  clear hg HDY HBO
  go_upto_block 0 with fail
  have hgA : Grew w1 (w1.alloc (Obj.cells #[Value.int IntKind.i64 (f : Int), Value.int IntKind.i64 ((f : Int) + (m : Int))] 132)) := (Below.refl _ w1).alloc (Nat.le_refl _) _
  have hdb : DB w g d V w1.heap.size (Obj.cells #[Value.int IntKind.i64 (f : Int), Value.int IntKind.i64 ((f : Int) + (m : Int))] 132) (w1.alloc (Obj.cells #[Value.int IntKind.i64 (f : Int), Value.int IntKind.i64 ((f : Int) + (m : Int))] 132)) := DB.start HD1.out hgA (Nat.le_refl _) (heap_alloc_new w1 _)
  have HDB := Lib.hid hdb
  clear hdb hgA HD1
  generalize w1.alloc (Obj.cells #[Value.int IntKind.i64 (f : Int), Value.int IntKind.i64 ((f : Int) + (m : Int))] 132) = WA at *
  generalize w1.heap.size = BB at *
  obtain ⟨OO, hOO⟩ : ∃ OO, OO = Obj.cells #[Value.int IntKind.i64 (f : Int), Value.int IntKind.i64 ((f : Int) + (m : Int))] 132 := ⟨_, rfl⟩
  have HOO := Lib.hid hOO
  rw [← hOO] at HDB
  clear hOO
  go_wp2
  go_loopg [11, 12, 26] m (fun q s11 s12 s26 wx => ∃ (i : Nat) (di : Pd), i + q = m ∧ s26 = .int .i64 (i : Int) ∧ Hid (zw (f + m) i d = (di, 0)) ∧ Hid (DB w g di V BB OO wx))
  case atStart => exact ⟨0, d, by omega, rfl, Lib.hid rfl, HDB⟩
  case round =>
    obtain ⟨i, di, hiq, rfl, HZ, HDX⟩ := hrel
    clear HDB
    cases gk with
    | zero =>
      obtain rfl : i = m := by omega
      have hlt : ¬ ((i : Int) < (i : Int)) := by omega
      obtain ⟨d2, q2, hfl⟩ : ∃ d2 q2, DFlush.flushed di = (d2, q2) := ⟨_, _, rfl⟩
      have HFL := Lib.hid hfl
      have HWT : Hid (di.waits.length ≤ 1073741824) := Lib.hid (by
        have := zw_waits (f + i) d i
        rw [HZ.out] at this
        have h1 := HW.out
        have h2 := HFM.out
        have h3 : di.waits.length ≤ d.waits.length + i := this
        omega)
      have HBE : Hid ((if q2 = 0 then keepP d2 f 1 i b else (d2, q2)) = (d', q)) := Lib.hid (by
        rw [← HE.out]
        unfold beginP
        rw [HZ.out]
        simp only [HFL.out]
        rw [if_pos trivial])
      clear hfl
      by_cases h0 : q2 = 0
      · subst h0
        have HK : Hid (keepP d2 f 1 i b = (d', q)) := Lib.hid (by have := HBE.out; rwa [if_pos rfl] at this)
        have HQ3 := Lib.hid (HQ2.out (by rw [HZ.out]) (by rw [HZ.out, HFL.out]))
        rw [HZ.out] at HQ3
        simp only [HFL.out] at HQ3
        clear HBE HQ2 HE
        go_wp2_with fail
        refine (db_flush HDX.out d2 0 HWT.out HFL.out).mono ?_
        rintro e w2 ⟨rfl, hd⟩
        have HD2 := Lib.hid hd
        have hb0 : w2.cell? ⟨BB, 0, none⟩ = some (.int .i64 (f : Int)) := by
          unfold World.cell?
          simp only [hd.blk, HOO.out]
          rfl
        clear hd HDX HFL HZ
        go_wp2_with fail
        refine (ds_keep HD2.out.ds f i 1 _ _ 1 rfl rfl rfl _ _ b d' q (HD2.out.ds.rd (v := .slice A b.length cp) (l := b) HIN.out) HQ3.out.1 (by decide) HB.out (by have := HQ3.out.2; have := HFM.out; omega) HK.out).mono ?_
        rintro e w3 ⟨rfl, hd⟩
        have HD3 := Lib.hid hd
        clear hd HD2 hb0
        go_wp2
        go_ret
        exact ⟨rfl, HD3.out⟩
      · have hne : (q2 != 0) = true := by simpa using h0
        have hqq : (d2, q2) = (d', q) := by have := HBE.out; rwa [if_neg h0] at this
        injection hqq with h1 h2
        subst h1 h2
        clear HBE HQ2 HE h0
        go_wp2_with fail
        refine (db_flush HDX.out d2 q2 HWT.out HFL.out).mono ?_
        rintro e w2 ⟨rfl, hd⟩
        have HD2 := Lib.hid hd
        clear hd HDX HFL HZ
        go_wp2
        go_ret
        exact ⟨rfl, HD2.out.ds⟩
    | succ k =>
      have hlt : (i : Int) < (m : Int) := by omega
      have hwi : IntKind.i64.wrap ((i : Int) + 1) = (i : Int) + 1 := IntWalk.i64_in _ (by have := HFM.out; omega)
      have hwf : IntKind.i64.wrap ((f : Int) + (m : Int) + (i : Int)) = ((f + m + i : Nat) : Int) := by rw [IntWalk.i64_in _ (by have := HFM.out; omega)]; simp
      obtain ⟨d2, q2, hwr⟩ : ∃ d2 q2, DWrite.written di ((f + m + i : Nat) : Int) (zeros 128) = (d2, q2) := ⟨_, _, rfl⟩
      have HWR := Lib.hid hwr
      have HBB := Lib.hid (HDX.out.blk)
      have HWT : Hid (di.waits.length ≤ 1073741823) := Lib.hid (by
        have := zw_waits (f + m) d i
        rw [HZ.out] at this
        have h1 := HW.out
        have h2 := HFM.out
        have h3 : di.waits.length ≤ d.waits.length + i := this
        omega)
      have HZ1 : Hid (zw (f + m) (i + 1) d = (d2, q2)) := Lib.hid (by
        show (if (zw (f + m) i d).2 = 0 then _ else _) = _
        rw [HZ.out, if_pos rfl]
        exact HWR.out)
      clear hwr HZ
      go_wp2
      refine Marks.wp_region_text (J2 wr 5 6 (fun z => DB w g d2 V BB OO z)) (fun _ _ => True) (by kernel_rfl) (by kernel_rfl) (J2.start wr 5 6 _) ?_
      apply Marks.Lex.exact [] _ (by kernel_rfl)
      · intro m' u W hm hcl hJ _
        unfold Marks.one
        go_simp
        exact ⟨trivial, hJ.keep 0 _ (by omega) (by omega), rfl⟩
      simp only [Act.put, List.setIfInBounds_toArray, List.set_cons_zero, List.set_cons_succ, Nat.zero_add]
      apply Marks.Lex.exact [] _ (by kernel_rfl)
      · intro m' u W hm hcl hJ _
        unfold Marks.one
        go_simp
        exact ⟨trivial, hJ.keep 1 _ (by omega) (by omega), rfl⟩
      simp only [Act.put, List.setIfInBounds_toArray, List.set_cons_zero, List.set_cons_succ, Nat.reduceAdd]
      apply Marks.Lex.exact [] _ (by kernel_rfl)
      · intro m' u W hm hcl hJ _
        have d1 : W.cell? ⟨BB, 1, none⟩ = some (.int .i64 ((f : Int) + (m : Int))) := by
          have hb := hJ.blk HBB.out (fun z h => DB.blk h)
          unfold World.cell?
          simp only [hb, HOO.out]
          rfl
        unfold Marks.one
        go_simp
        exact ⟨trivial, hJ.keep 2 _ (by omega) (by omega), rfl⟩
      simp only [Act.put, List.setIfInBounds_toArray, List.set_cons_zero, List.set_cons_succ, Nat.reduceAdd]
      apply Marks.Lex.exact [] _ (by kernel_rfl)
      · intro m' u W hm hcl hJ _
        unfold Marks.one
        go_simp
        exact ⟨trivial, hJ.keep 3 _ (by omega) (by omega), rfl⟩
      simp only [Act.put, List.setIfInBounds_toArray, List.set_cons_zero, List.set_cons_succ, Nat.reduceAdd]
      apply Marks.Lex.exact [] _ (by kernel_rfl)
      · intro m' u W hm hcl hJ _
        unfold Marks.one
        go_simp
        exact ⟨trivial, hJ.keep 4 _ (by omega) (by omega), rfl⟩
      simp only [Act.put, List.setIfInBounds_toArray, List.set_cons_zero, List.set_cons_succ, Nat.reduceAdd]
      apply Marks.Lex.know [] (fun _ _ => True) (by kernel_rfl) (fun _ _ _ _ _ => trivial)
      · intro m' u W hm hcl hJ _
        have hmk := AI1.mk128 W
        unfold Marks.one
        go_simp
        exact ⟨trivial, hJ.made _ (by omega) hm ((Below.refl _ W).alloc (Nat.le_refl _) _) ((JG.made_rd W 128 (by decide)).mono fun _ _ => trivial), trivial⟩
      simp only [Act.put, List.setIfInBounds_toArray, List.set_cons_zero, List.set_cons_succ, Nat.reduceAdd]
      apply Marks.Lex.exact [] (.int .i64 q2) (by kernel_rfl)
      · intro m' u W hm hcl hJ _
        unfold Marks.one
        go_simp
        refine (db_write (HDX.out.grew (hJ.bef hm)) _ _ _ (zeros 128) d2 q2 (hJ.row (hcl 5 (by decide)) hm) HWT.out HWR.out).mono ?_
        rintro e w' ⟨rfl, hx⟩
        exact ⟨_, rfl, trivial, hJ.call _ (by omega) (hcl 5 (by decide)) hx, rfl⟩
      simp only [Act.put, List.setIfInBounds_toArray, List.set_cons_zero, List.set_cons_succ, Nat.reduceAdd]
      apply Marks.Lex.exact [] _ (by kernel_rfl)
      · intro m' u W hm hcl hJ _
        unfold Marks.one
        go_simp
        exact ⟨trivial, hJ.keep 7 _ (by omega) (by omega), rfl⟩
      simp only [Act.put, List.setIfInBounds_toArray, List.set_cons_zero, List.set_cons_succ, Nat.reduceAdd]
      refine Marks.Lex.done fun m' u W hm hJ _ => ?_
      have HDY := Lib.hid (hJ.aft (hm 6 (by omega)))
      by_cases h0 : q2 = 0
      · subst h0
        clear HBB
        go_wp2
        go_roundg k
        case measure => omega
        case rel => exact ⟨i + 1, d2, by omega, by first | rfl | simp, HZ1, HDY⟩
      · have hne : (q2 != 0) = true := by simpa using h0
        have hqq : (d2, q2) = (d', q) := by
          have h1 := HE.out
          have h2 := zw_stop (f + m) (i + 1) d (by rw [HZ1.out]; exact h0) (m - (i + 1))
          rw [show i + 1 + (m - (i + 1)) = m by omega, HZ1.out] at h2
          unfold beginP at h1
          rw [h2, if_neg h0] at h1
          exact h1
        injection hqq with h1 h2
        subst h1 h2
        clear h0 HBB
        go_wp2
        go_ret
        exact ⟨rfl, HDY.out.ds⟩

/-- What is refused of a next snapshot. -/
theorem ds_nextno {w y : World} {g : Nat} {d : Pd} {V : List (Value × List UInt8)} (h : DS w g d V y) (first many : Int) (A : Option Addr) (n c : Nat) (q : Int) (hq : (if srefus d first many = 0 then (if JA.room many < (n : Int) then 13 else 0) else srefus d first many) = q) (h0 : ¬ q = 0) :
    Calls Try.prog 38 #[.pointer (some ⟨g, 0, none⟩), .int .i64 first, .int .i64 many, .slice A n c] y fun e z => e = .returned (.int .i64 q) ∧ DS w g d V z := by
  have HSB := Lib.hid (ds_sbytes h first many A n c _ rfl)
  rw [hq] at HSB
  have hb : (q != 0) = true := by simpa using h0
  have HD := Lib.hid h
  clear h hq h0
  go_enter Try.func38, Try.ntmps38
  go_wp2_with fail
  refine HSB.out.mono ?_
  rintro e w' ⟨rfl, rfl⟩
  go_wp2
  go_ret
  exact ⟨rfl, HD.out⟩
/-- A next snapshot where none counts. -/
theorem ds_nextform {w y : World} {g : Nat} {d : Pd} {V : List (Value × List UInt8)} (h : DS w g d V y) (f m : Nat) (x0 x1 : Int) (hx0 : x0 = (f : Int)) (hx1 : x1 = (m : Int)) (A : Option Addr) (n c : Nat) (hq : srefus d (f : Int) (m : Int) = 0) (hl : ¬ JA.room (m : Int) < (n : Int)) (hp : pick d.last f m = none) :
    Calls Try.prog 38 #[.pointer (some ⟨g, 0, none⟩), .int .i64 x0, .int .i64 x1, .slice A n c] y fun e z => e = .returned (.int .i64 2) ∧ DS w g d V z := by
  have HLA := Lib.hid (ds_last_none h f m x0 x1 hx0 hx1 hq hp)
  subst hx0 hx1
  have HSB := Lib.hid (ds_sbytes h (f : Int) (m : Int) A n c _ hq)
  rw [if_pos rfl, if_neg hl] at HSB
  clear h hq hl hp
  go_enter Try.func38, Try.ntmps38
  go_wp2_with fail
  refine HSB.out.mono ?_
  rintro e w' ⟨rfl, rfl⟩
  go_wp2_with fail
  refine HLA.out.mono ?_
  rintro e w1 ⟨rfl, hd⟩
  have HD := Lib.hid hd
  clear hd HLA
  go_wp2
  go_ret
  exact ⟨rfl, HD.out⟩
theorem last_nil (w : World) (first many : Int) : Calls Try.prog 42 #[.pointer none, .int .i64 first, .int .i64 many] w fun e w' => e = .returned (.tuple #[.int .i64 0, .int .u64 0, .slice none 0 0, .int .i64 11]) ∧ w = w' := by
  go_enter Try.func42, Try.ntmps42
  go_wp2_with fail
  refine (srefuses_nil w first many).mono ?_
  rintro e w' ⟨rfl, rfl⟩
  go_wp2
  go_returns
  exact ⟨rfl, rfl⟩
def e0 : Pd := DNew.fresh 5
def e1 : Pd := (beginP e0 1 2 [97]).1
def L1 : List Sec := e1.last
def e2 : Pd := (nextP L1 1 2 0 1 [98] (-1)).1
theorem B1 : beginP e0 1 2 [97] = (e1, 0) := by kernel_rfl
theorem B1c : e1 = calmF L1 (-1) := by kernel_rfl
theorem B2 : nextP L1 1 2 0 1 [98] (-1) = (e2, 0) := by kernel_rfl
theorem B3 : pick e2.last 1 2 = some (1, 2, [98]) := by kernel_rfl
theorem Bn : anw L1 1 (2 * 2) = 1 := by kernel_rfl
theorem Bl : L1.length = 5 := by kernel_rfl
theorem P0 : pick e0.last 1 2 = none := by kernel_rfl
theorem Q0 : srefus e0 ((1 : Nat) : Int) ((2 : Nat) : Int) = 0 := by kernel_rfl
theorem Q2 : srefus e2 ((1 : Nat) : Int) ((2 : Nat) : Int) = 0 := by kernel_rfl
theorem Q3 : srefus e2 1 2 = 0 := by kernel_rfl
theorem Q4 : srefus e2 1 3 = 1 := by kernel_rfl
theorem Z1 : arefus (DFlush.flushed (zw (1 + 2) 2 e0).1).1 ((1 : Nat) : Int) ((2 : Nat) : Int) = 0 := by kernel_rfl
theorem Z2 : (DFlush.flushed (zw (1 + 2) 2 e0).1).1.waits.length = 0 := by kernel_rfl
theorem W0 : e0.waits.length = 0 := by kernel_rfl
theorem S1 : ard L1 1 2 = (1, [97], 0) := by kernel_rfl
theorem S2 : ard L1 (1 + 2) 2 = (0, [], 2) := by kernel_rfl
/-- What stands behind a first snapshot. -/
theorem sk_begin (L : List Sec) (f m : Nat) (b : List UInt8) (hev : Ev L) (hlen : f + 2 * m ≤ L.length) (hm : 1 ≤ m) (hlow : ∀ i, i < 2 * m → stampOf (L[f + i]?.getD []) ≤ 1 ∧ againOf (L[f + i]?.getD []) ≤ 1) (hno : ard L (f + m) m = (0, [], 2)) (hb : b.length + 4 ≤ 108 * m) (hb2 : b.length < 4294967296) :
    SK (sets L (ws f (fun _ => 1) m 0 (recB b))) f m 1 0 1 b := by
  obtain ⟨hc, h1, h2⟩ := came_put L f m 1 b (by decide) hev (by omega) hm hb hb2
  refine ⟨hc.ev, by rw [hc.len]; exact hlen, hm, by omega, fun i hi => ?_, by rw [Nat.zero_mul]; exact h1, .inl ?_⟩
  · by_cases hi2 : i < m
    · rw [(h2 i hi2).1, (h2 i hi2).2]; omega
    · rw [hc.out (f + i) (by omega)]; exact hlow i hi
  · rw [show f + (1 - 0) * m = f + m by simp]
    rw [← hno]
    exact ard_congr _ _ _ _ fun i hi => hc.out _ (by omega)
theorem keep_calm (L : List Sec) (f m s : Nat) (b : List UInt8) (hev : Ev L) (hf : f + m ≤ L.length) : keepP (calm L) f s m b = (calm (sets L (ws f (fun _ => s) m 0 (recB b))), 0) := by
  unfold keepP
  rw [gw_none f m s L (recB b) hf]
  simp only [if_true]
  exact flushed_sets L _ (ws_wq L f (fun _ => s) m (recB b) hev hf) (-1) (.inl rfl)
theorem blank_le (n : Nat) (a : Nat) : stampOf ((DNew.blank n)[a]?.getD []) ≤ 1 ∧ againOf ((DNew.blank n)[a]?.getD []) ≤ 1 := by
  have := blank_ne n a
  omega
theorem begin_blank (n f m : Nat) (b : List UInt8) (hn : f + 2 * m ≤ n) (hm : 1 ≤ m) (hz : zw (f + m) m (calm (DNew.blank n)) = ((zw (f + m) m (calm (DNew.blank n))).1, 0)) (hfl : DFlush.flushed (zw (f + m) m (calm (DNew.blank n))).1 = (calm (DNew.blank n), 0)) (hno : ard (DNew.blank n) (f + m) m = (0, [], 2)) (hb : b.length + 4 ≤ 108 * m) (hb2 : b.length < 4294967296) :
    beginP (calm (DNew.blank n)) f m b = (calm (sets (DNew.blank n) (ws f (fun _ => 1) m 0 (recB b))), 0) ∧ SK (sets (DNew.blank n) (ws f (fun _ => 1) m 0 (recB b))) f m 1 0 1 b := by
  refine ⟨?_, sk_begin _ f m b (Ev.blank n) (by rw [DNew.blank_length]; exact hn) hm (fun i _ => blank_le n (f + i)) hno hb hb2⟩
  unfold beginP
  rw [hz, if_pos rfl, hfl, if_pos rfl]
  exact keep_calm _ f m 1 b (Ev.blank n) (by rw [DNew.blank_length]; omega)
theorem zfive : zw (1 + 2) 2 (calm (DNew.blank 5)) = ((zw (1 + 2) 2 (calm (DNew.blank 5))).1, 0) := by kernel_rfl
theorem ffive : DFlush.flushed (zw (1 + 2) 2 (calm (DNew.blank 5))).1 = (calm (DNew.blank 5), 0) := by kernel_rfl
theorem afive : ard (DNew.blank 5) (1 + 2) 2 = (0, [], 2) := by kernel_rfl
theorem K1 : SK L1 1 2 1 0 1 [97] := by
  have h := begin_blank 5 1 2 [97] (by omega) (by omega) zfive ffive afive (by decide) (by decide)
  have e : L1 = sets (DNew.blank 5) (ws 1 (fun _ => 1) 2 0 (recB [97])) := by
    have h1 := B1
    rw [show e0 = calm (DNew.blank 5) from rfl, h.1] at h1
    unfold L1
    injection h1 with h1 _
    rw [← h1]
    rfl
  rw [e]
  exact h.2
theorem mk213 (u : World) : (Instr.makeSlice 23 (.int .i64 213) (.int .i64 213)).run Try.prog u = .ok (.slice (some ⟨u.heap.size, 0, none⟩) 213 213) (u.alloc (.cells (madeCells #[.int .u8 0] 213) 5)) := by
  obtain ⟨i0, hi, hx⟩ := Option.map_eq_some_iff.1 Puts.info5
  simp only [Prod.mk.injEq] at hx
  obtain ⟨hz0, hz1, hz2⟩ := hx
  have h := run_make (P := Try.prog) u 23 5 i0 (.int .u8 0) Try.underlying23 hi hz0 .i64 .i64 213 213 (by omega) (Int.le_refl _) (by rw [hz2]; omega) (by omega)
  simpa [hz1, Value.cells] using h
set_option maxHeartbeats 4000000 in
theorem alive_any (w : World) : Calls Try.prog 44 #[] w fun e w' => e = .returned (.bool true) ∧ Grew w w' := by
  go_enter Try.func44, Try.ntmps44
  go_wp2_with fail
  refine (ds_new w 5 5 rfl (by omega) (by omega)).mono ?_
  rintro e w1 ⟨g, rfl, hd⟩
  have HD : Hid (DS w g e0 [] w1) := Lib.hid hd
  clear hd
  go_wp2_with fail
  refine (ds_nextform HD.out 1 2 1 2 rfl rfl none 0 0 Q0 (by decide) P0).mono ?_
  rintro e w2 ⟨rfl, hd⟩
  have HD2 := Lib.hid hd
  clear hd HD
  have kc := fun (w : World) (C : Array Value) (n c : Nat) => Lib.run_convert_bytes_const (P := Try.prog) w 23 5 C n c Try.underlying23 Try.underlying5
  go_wp2_with fail
  have hg1 : Grew w2 (w2.alloc (.cells #[.int .u8 97] 5 (1, 2))) := (Below.refl _ w2).alloc (Nat.le_refl _) _
  refine (ds_begin (HD2.out.add hg1 ((JG.lit_rd w2 [97] (1, 2) (by decide)).mono fun b hb => by omega)) 1 2 1 2 rfl rfl Q0 _ [97] (List.mem_cons_self ..) (by decide) (by rw [W0]; omega) (fun _ _ => ⟨Z1, by rw [Z2]; omega⟩) e1 0 B1).mono ?_
  rintro e w3 ⟨rfl, hd⟩
  rw [B1c] at hd
  have HD3 := Lib.hid hd
  clear hd HD2 hg1
  go_wp2_with fail
  have hg2 : Grew w3 (w3.alloc (.cells #[.int .u8 98] 5 (1, 2))) := (Below.refl _ w3).alloc (Nat.le_refl _) _
  refine (ds_next (HD3.out.add hg2 ((JG.lit_rd w3 [98] (1, 2) (by decide)).mono fun b hb => by omega)) 1 2 1 0 1 1 2 rfl rfl [97] K1 Bn (by rw [Bl]; omega) (by decide) _ [98] (List.mem_cons_self ..) (by decide) e2 0 B2).mono ?_
  rintro e w4 ⟨rfl, hd⟩
  have HD4 := Lib.hid hd
  clear hd HD3 hg2 kc
  go_wp2_with fail
  refine (ds_last_some HD4.out 1 2 1 2 rfl rfl Q2 1 2 [98] B3).mono ?_
  rintro e w5 ⟨v5, rfl, hd⟩
  obtain ⟨A5, c5, rfl, _⟩ := id (hd.rd (List.mem_cons_self ..))
  have HD5 := Lib.hid hd
  clear hd HD4
  go_wp2_with fail
  refine (last_nil w5 1 2).mono ?_
  rintro e w' ⟨rfl, rfl⟩
  have ks := Nums.conv22 (HD5.out.rd (v := .slice A5 1 c5) (l := [98]) (by simp))
  go_wp2_with fail
  refine (ds_nextno HD5.out 1 3 none 0 0 1 (by rw [Q4]; rfl) (by omega)).mono ?_
  rintro e w6 ⟨rfl, hd⟩
  have HD6 := Lib.hid hd
  clear hd HD5 ks
  have kmk := mk213
  go_wp2_with fail
  refine (ds_nextno (HD6.out.grew ((Below.refl _ w6).alloc (Nat.le_refl _) _)) 1 2 _ 213 213 13 (by rw [Q3]; rfl) (by omega)).mono ?_
  rintro e w7 ⟨rfl, hd⟩
  have HD7 := Lib.hid hd
  clear hd HD6 kmk
  go_wp2
  go_returns
  exact ⟨rfl, HD7.out.gr⟩
end Go.Proofs.Ytbnicphegbdfnaa.SB
