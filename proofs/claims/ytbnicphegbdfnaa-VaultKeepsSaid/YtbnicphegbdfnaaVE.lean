/-
  A vault is formatted, and opened.
  Conditions: those that each lemma names.
-/
import Derived.Test.YtbnicphegbdfnaaVA
import Derived.Test.YtbnicphegbdfnaaJT
namespace Go.Proofs.Ytbnicphegbdfnaa.VE
set_option maxRecDepth 100000
open Go Go.RowKit Go.Proofs.Ytbnicphegbdfnaa Go.Proofs.Ytbnicphegbdfnaa.Facts Go.Proofs.Ytbnicphegbdfnaa.Bytes Go.Proofs.Ytbnicphegbdfnaa.DKeep Go.Proofs.Ytbnicphegbdfnaa.DSmall Go.Proofs.Ytbnicphegbdfnaa.Puts Go.Proofs.Ytbnicphegbdfnaa.Scan Go.Proofs.Ytbnicphegbdfnaa.Take Go.Proofs.Ytbnicphegbdfnaa.Nums Go.Proofs.Ytbnicphegbdfnaa.SPure Go.Proofs.Ytbnicphegbdfnaa.JA Go.Proofs.Ytbnicphegbdfnaa.JB Go.Proofs.Ytbnicphegbdfnaa.JC Go.Proofs.Ytbnicphegbdfnaa.JD Go.Proofs.Ytbnicphegbdfnaa.JE Go.Proofs.Ytbnicphegbdfnaa.JF Go.Proofs.Ytbnicphegbdfnaa.JH Go.Proofs.Ytbnicphegbdfnaa.JQ Go.Proofs.Ytbnicphegbdfnaa.AP Go.Proofs.Ytbnicphegbdfnaa.AQ Go.Proofs.Ytbnicphegbdfnaa.AA Go.Proofs.Ytbnicphegbdfnaa.AW Go.Proofs.Ytbnicphegbdfnaa.AV Go.Proofs.Ytbnicphegbdfnaa.AC Go.Proofs.Ytbnicphegbdfnaa.DS Go.Proofs.Ytbnicphegbdfnaa.AU Go.Proofs.Ytbnicphegbdfnaa.SP Go.Proofs.Ytbnicphegbdfnaa.SN Go.Proofs.Ytbnicphegbdfnaa.SB Go.Proofs.Ytbnicphegbdfnaa.VA Go.Proofs.Ytbnicphegbdfnaa.VB Go.Proofs.Ytbnicphegbdfnaa.VC Go.Proofs.Ytbnicphegbdfnaa.VD
theorem zw_ok (first : Nat) (d dj : Pd) (n : Nat) (h : zw first n d = (dj, 0)) (i : Nat) (hi : i ≤ n) : (zw first i d).2 = 0 := by
  by_cases h0 : (zw first i d).2 = 0
  · exact h0
  · have := zw_stop first i d h0 (n - i)
    rw [show i + (n - i) = n by omega, h] at this
    rw [← this]
set_option maxHeartbeats 4000000 in
theorem ds_format {w y : World} {g : Nat} {d dj : Pd} {V : List (Value × Cont)} (h : DS w g d V y) (q : Pl) (pe : Nat) (hpk : POK q pe) (hsz : 2 * q.a + pe ≤ d.safe.length) (hoff : d.off = false) (hw : d.waits.length ≤ 10000) (v : Value) (st : List UInt8) (hin : (v, Cont.bytes st) ∈ V) (hst : st.length + 12 ≤ 108 * q.a) (hz : zw (2 * q.a) pe d = (dj, 0)) (hsr : srefus dj ((0 : Nat) : Int) (q.a : Int) = 0)
    (hq2 : (zw (0 + q.a) q.a dj).2 = 0 → (DFlush.flushed (zw (0 + q.a) q.a dj).1).2 = 0 → arefus (DFlush.flushed (zw (0 + q.a) q.a dj).1).1 ((0 : Nat) : Int) (q.a : Int) = 0 ∧ (DFlush.flushed (zw (0 + q.a) q.a dj).1).1.waits.length ≤ 100000) (d' : Pd) (r : Int) (he : beginP dj 0 q.a (keptB 1 st) = (d', r)) :
    Calls Try.prog 47 #[.pointer (some ⟨g, 0, none⟩), PV q, v] y fun e z => e = .returned (.int .i64 r) ∧ DS w g d' V z := by
  have HPK := Lib.hid hpk
  have HIN := Lib.hid hin
  have HST : Hid (st.length ≤ 100000000) := Lib.hid (by have := hpk.all; omega)
  have HKB : Hid ((keptB 1 st).length + 4 ≤ 108 * q.a) := Lib.hid (by rw [keptB_length]; omega)
  have HSR := Lib.hid hsr
  have HQ2 := Lib.hid hq2
  have HE := Lib.hid he
  have HZ := Lib.hid hz
  have HWD := Lib.hid hw
  have HZOK := Lib.hid (zw_ok _ _ _ _ hz)
  have HWT : Hid (dj.waits.length ≤ 100000) := Lib.hid (by
    have := zw_waits (2 * q.a) d pe
    rw [hz] at this
    have h2 : dj.waits.length ≤ d.waits.length + pe := this
    have := hpk.all
    omega)
  obtain ⟨A, cp, e0, _⟩ := id (h.rd hin)
  have HVR := Lib.hid (fun (z : World) (hz : Grew y z) => ds_vrefuses (h.grew hz) q pe hpk hsz)
  have HLO := Lib.hid (fun z => long_any q pe hpk A st.length cp z (by omega))
  have HOF := Lib.hid (fun (z : World) (hz : Grew y z) => ds_off w z g d V (h.grew hz) false hoff)
  have HFR := Lib.hid (from_any q pe hpk)
  have HNE := Lib.hid (need_any q pe hpk)
  have HPEA := Lib.hid hpk.all
  have HD := Lib.hid h
  obtain ⟨v, hv⟩ : ∃ v, v = Value.slice A st.length cp := ⟨_, rfl⟩
  obtain ⟨tt, htt⟩ : ∃ tt : Nat, 2 * q.a = tt := ⟨_, rfl⟩
  rw [htt] at HZ HZOK HFR HNE HPEA
  have HA1 := Lib.hid hpk.a1
  subst e0
  rw [← hv] at HIN HLO ⊢
  clear h hpk hsz hoff hw hin hst hz hsr hq2 he hv htt
  unfold PV at *
  go_enter Try.func47, Try.ntmps47
  obtain ⟨OB, hOB⟩ : ∃ OB, OB = Obj.cells #[.int .i64 (q.a : Int), .int .i64 (q.p : Int), .int .i64 (q.e : Int)] 90 := ⟨_, rfl⟩
  have HOB := Lib.hid hOB
  have hb : (y.alloc (Obj.cells #[.int .i64 (q.a : Int), .int .i64 (q.p : Int), .int .i64 (q.e : Int)] 90)).heap[y.heap.size]? = some OB := by rw [hOB]; exact heap_alloc_new y _
  have hg0 : Grew y (y.alloc (Obj.cells #[.int .i64 (q.a : Int), .int .i64 (q.p : Int), .int .i64 (q.e : Int)] 90)) := (Below.refl _ y).alloc (Nat.le_refl _) _
  have hd1 := HD.out.new hg0 .nilFunc (Nat.le_refl _) hb
  go_upto_region 1 with fail
  have HG0 := Lib.hid hg0
  have HDX := Lib.hid hd1
  clear hb hg0 hd1 HD hOB
  generalize y.alloc (Obj.cells #[.int .i64 (q.a : Int), .int .i64 (q.p : Int), .int .i64 (q.e : Int)] 90) = W1 at *
  generalize y.heap.size = BB at *
  have c0 := (show BX W1 BB q by have := HDX.out.at_ (x := .nilFunc) (b := BB) (List.mem_cons_self ..); rw [HOB.out] at this; exact this).cells.1
  have c1 := (show BX W1 BB q by have := HDX.out.at_ (x := .nilFunc) (b := BB) (List.mem_cons_self ..); rw [HOB.out] at this; exact this).cells.2.1
  have c2 := (show BX W1 BB q by have := HDX.out.at_ (x := .nilFunc) (b := BB) (List.mem_cons_self ..); rw [HOB.out] at this; exact this).cells.2.2
  go_wp2_with fail
  refine (HVR.out _ HG0.out).mono ?_
  rintro e wa ⟨rfl, hg⟩
  replace HG0 := Lib.hid (HG0.out.trans hg)
  replace HDX := Lib.hid (HDX.out.grew hg)
  clear hg
  clear c0 c1 c2
  have c0 := (show BX wa BB q by have := HDX.out.at_ (x := .nilFunc) (b := BB) (List.mem_cons_self ..); rw [HOB.out] at this; exact this).cells.1
  have c1 := (show BX wa BB q by have := HDX.out.at_ (x := .nilFunc) (b := BB) (List.mem_cons_self ..); rw [HOB.out] at this; exact this).cells.2.1
  have c2 := (show BX wa BB q by have := HDX.out.at_ (x := .nilFunc) (b := BB) (List.mem_cons_self ..); rw [HOB.out] at this; exact this).cells.2.2
  go_wp2_with fail
  refine (HLO.out _).mono ?_
  rintro e wb ⟨rfl, hg⟩
  replace HG0 := Lib.hid (HG0.out.trans hg)
  replace HDX := Lib.hid (HDX.out.grew hg)
  clear hg
  clear c0 c1 c2
  go_wp2_with fail
  refine (HOF.out _ HG0.out).mono ?_
  rintro e w' ⟨rfl, rfl⟩
  have c0 := (show BX wb BB q by have := HDX.out.at_ (x := .nilFunc) (b := BB) (List.mem_cons_self ..); rw [HOB.out] at this; exact this).cells.1
  have c1 := (show BX wb BB q by have := HDX.out.at_ (x := .nilFunc) (b := BB) (List.mem_cons_self ..); rw [HOB.out] at this; exact this).cells.2.1
  have c2 := (show BX wb BB q by have := HDX.out.at_ (x := .nilFunc) (b := BB) (List.mem_cons_self ..); rw [HOB.out] at this; exact this).cells.2.2
  go_wp2_with fail
  refine (HFR.out _).mono ?_
  rintro e wc ⟨rfl, hg⟩
  replace HG0 := Lib.hid (HG0.out.trans hg)
  replace HDX := Lib.hid (HDX.out.grew hg)
  clear hg
  clear c0 c1 c2
  clear HVR HLO HOF HFR
  go_wp2
  go_loopg [8, 9] pe (fun k s8 s9 wx => ∃ (i : Nat) (di : Pd), i + k = pe ∧ s8 = .int .i64 ((tt + i : Nat) : Int) ∧ Hid (zw tt i d = (di, 0)) ∧ Hid (DS w g di ((.nilFunc, Cont.blk BB OB) :: V) wx))
  case atStart => exact ⟨0, d, by omega, rfl, Lib.hid rfl, HDX⟩
  case round =>
    obtain ⟨i, di, hik, rfl, HZI, HDI⟩ := hrel
    clear HDX
    have hx0 : BX wr BB q := by have := HDI.out.at_ (x := .nilFunc) (b := BB) (List.mem_cons_self ..); rw [HOB.out] at this; exact this
    have c0 := hx0.cells.1
    have c1 := hx0.cells.2.1
    have c2 := hx0.cells.2.2
    clear hx0
    go_wp2_with fail
    refine (HNE.out _).mono ?_
    rintro e w2 ⟨rfl, hg⟩
    have HDI2 := Lib.hid (HDI.out.grew hg)
    clear hg HDI c0 c1 c2
    cases gk with
    | zero =>
      obtain rfl : i = pe := by omega
      have hlt : ¬ (((tt + i : Nat) : Int) < ((tt + i : Nat) : Int)) := by omega
      have hdj : dj = di := by
        have h1 := HZ.out
        rw [HZI.out] at h1
        injection h1 with h1 _
        exact h1.symm
      subst hdj
      have HD1 := HDI2
      clear HDI2 HZI
      go_upto_region 14 with fail
      have HBX : Hid (w2.heap[BB]? = some OB) := Lib.hid (HD1.out.at_ (x := .nilFunc) (List.mem_cons_self ..))
      generalize w2 = W1 at *
      refine Marks.wp_region_text (J3 W1 4 5 (keptB 1 st) (fun z => DS w g d' ((.nilFunc, Cont.blk BB OB) :: V) z)) (fun _ _ => True) (by kernel_rfl) (by kernel_rfl) (J3.start W1 4 5 _ _) ?_
      apply Marks.Lex.exact [] _ (by kernel_rfl)
      · intro m' u W hm hcl hJ _
        unfold Marks.one
        go_simp
        exact ⟨trivial, hJ.keep 0 _ (by omega) (by omega), rfl⟩
      simp only [Act.put, List.setIfInBounds_toArray, List.set_cons_zero, List.set_cons_succ, Nat.zero_add]
      apply Marks.Lex.exact [] _ (by kernel_rfl)
      · intro m' u W hm hcl hJ _
        unfold Marks.one
        go_simp
        exact ⟨trivial, hJ.keep 1 _ (by omega) (by omega), rfl⟩
      simp only [Act.put, List.setIfInBounds_toArray, List.set_cons_zero, List.set_cons_succ, Nat.reduceAdd]
      apply Marks.Lex.exact [] _ (by kernel_rfl)
      · intro m' u W hm hcl hJ _
        have hx : BX W BB q := by
          have := hJ.blk HBX.out (fun z h => DS.at_ h (List.mem_cons_self ..))
          rw [HOB.out] at this
          exact this
        have d1 := hx.cells.1
        unfold Marks.one
        go_simp
        exact ⟨trivial, hJ.keep 2 _ (by omega) (by omega), rfl⟩
      simp only [Act.put, List.setIfInBounds_toArray, List.set_cons_zero, List.set_cons_succ, Nat.reduceAdd]
      apply Marks.Lex.exact [] _ (by kernel_rfl)
      · intro m' u W hm hcl hJ _
        unfold Marks.one
        go_simp
        exact ⟨trivial, hJ.keep 3 _ (by omega) (by omega), rfl⟩
      simp only [Act.put, List.setIfInBounds_toArray, List.set_cons_zero, List.set_cons_succ, Nat.reduceAdd]
      apply Marks.Lex.know [] (fun _ _ => True) (by kernel_rfl) (fun _ _ _ _ _ => trivial)
      · intro m' u W hm hcl hJ _
        unfold Marks.one
        go_simp
        refine (kept_any 1 _ v st W (HD1.out.rd (v := v) (l := st) (List.mem_cons_of_mem _ HIN.out) |>.grew (hJ.bef (hJ.no hm))) HST.out).mono ?_
        rintro e w' ⟨v', rfl, hr, hg⟩
        exact ⟨_, rfl, trivial, hJ.made _ (by omega) hm hg (hr.mono fun b hb => Nat.le_trans (hJ.bef (hJ.no hm)).size hb), trivial⟩
      simp only [Act.put, List.setIfInBounds_toArray, List.set_cons_zero, List.set_cons_succ, Nat.reduceAdd]
      apply Marks.Lex.exact [] (.int .i64 r) (by kernel_rfl)
      · intro m' u W hm hcl hJ _
        unfold Marks.one
        go_simp
        refine (ds_begin (HD1.out.add (hJ.bef hm) (hJ.row (hcl 4 (by decide)) hm)) 0 q.a 0 _ rfl rfl HSR.out (u 4) (keptB 1 st) (List.mem_cons_self ..) HKB.out HWT.out HQ2.out d' r HE.out).mono ?_
        rintro e w' ⟨rfl, hx⟩
        exact ⟨_, rfl, trivial, hJ.call _ (by omega) (hcl 4 (by decide)) (hx.sub fun p hp => List.mem_cons_of_mem _ hp), rfl⟩
      simp only [Act.put, List.setIfInBounds_toArray, List.set_cons_zero, List.set_cons_succ, Nat.reduceAdd]
      apply Marks.Lex.exact [] _ (by kernel_rfl)
      · intro m' u W hm hcl hJ _
        unfold Marks.one
        go_simp
        exact ⟨trivial, hJ.keep 6 _ (by omega) (by omega), rfl⟩
      simp only [Act.put, List.setIfInBounds_toArray, List.set_cons_zero, List.set_cons_succ, Nat.reduceAdd]
      refine Marks.Lex.done fun m' u W hm hJ _ => ?_
      have HDW := Lib.hid (hJ.aft (hm 5 (by omega)))
      clear hm hJ HD1 HBX
      go_wp2
      go_ret
      exact ⟨rfl, HDW.out.sub fun p hp => List.mem_cons_of_mem _ hp⟩
    | succ k =>
      have hlt : ((tt + i : Nat) : Int) < ((tt + pe : Nat) : Int) := by omega
      have hwi : IntKind.i64.wrap (((tt + i : Nat) : Int) + 1) = ((tt + (i + 1) : Nat) : Int) := by rw [IntWalk.i64_in _ (by have := HPEA.out; omega)]; omega
      obtain ⟨d2, hwr⟩ : ∃ d2, DWrite.written di ((tt + i : Nat) : Int) (zeros 128) = (d2, 0) := by
        have := HZOK.out (i + 1) (by omega)
        have e : zw tt (i + 1) d = DWrite.written di ((tt + i : Nat) : Int) (zeros 128) := by
          show (if (zw tt i d).2 = 0 then _ else _) = _
          rw [HZI.out, if_pos rfl]
        rw [e] at this
        exact ⟨_, Prod.ext rfl this⟩
      have HWR := Lib.hid hwr
      have HZ1 : Hid (zw tt (i + 1) d = (d2, 0)) := Lib.hid (by
        show (if (zw tt i d).2 = 0 then _ else _) = _
        rw [HZI.out, if_pos rfl]
        exact hwr)
      have HW2 : Hid (di.waits.length ≤ 1073741823) := Lib.hid (by
        have := zw_waits tt d i
        rw [HZI.out] at this
        have h2 : di.waits.length ≤ d.waits.length + i := this
        have := HPEA.out
        have := HWD.out
        omega)
      obtain ⟨nx, hnx⟩ : ∃ nx : Int, nx = ((tt + i : Nat) : Int) := ⟨_, rfl⟩
      have hmk := mk128
      clear hwr HZI
      rw [← hnx] at hlt hwi HWR
      simp only [← hnx]
      clear hnx
      go_wp2_with fail
      refine (ds_write w _ g di _ (HDI2.out.grew ((Below.refl _ w2).alloc (Nat.le_refl _) _)) nx _ _ (zeros 128) d2 0 ((JG.made_rd w2 128 (by decide))) HW2.out HWR.out).mono ?_
      rintro e w3 ⟨rfl, hd⟩
      have HD3 := Lib.hid hd
      clear hd HDI2 hmk
      go_wp2
      go_roundg k
      case measure => omega
      case rel => exact ⟨i + 1, d2, by omega, by first | rfl | simp, HZ1, HD3⟩
end Go.Proofs.Ytbnicphegbdfnaa.VE
namespace Go.Proofs.Ytbnicphegbdfnaa.VF
set_option maxRecDepth 100000
open Go Go.RowKit Go.Proofs.Ytbnicphegbdfnaa Go.Proofs.Ytbnicphegbdfnaa.Facts Go.Proofs.Ytbnicphegbdfnaa.Bytes Go.Proofs.Ytbnicphegbdfnaa.DKeep Go.Proofs.Ytbnicphegbdfnaa.DSmall Go.Proofs.Ytbnicphegbdfnaa.Puts Go.Proofs.Ytbnicphegbdfnaa.Scan Go.Proofs.Ytbnicphegbdfnaa.Take Go.Proofs.Ytbnicphegbdfnaa.Nums Go.Proofs.Ytbnicphegbdfnaa.SPure Go.Proofs.Ytbnicphegbdfnaa.SOpen Go.Proofs.Ytbnicphegbdfnaa.Rscan Go.Proofs.Ytbnicphegbdfnaa.JA Go.Proofs.Ytbnicphegbdfnaa.JB Go.Proofs.Ytbnicphegbdfnaa.JC Go.Proofs.Ytbnicphegbdfnaa.JD Go.Proofs.Ytbnicphegbdfnaa.JE Go.Proofs.Ytbnicphegbdfnaa.JF Go.Proofs.Ytbnicphegbdfnaa.JH Go.Proofs.Ytbnicphegbdfnaa.JQ Go.Proofs.Ytbnicphegbdfnaa.AP Go.Proofs.Ytbnicphegbdfnaa.AQ Go.Proofs.Ytbnicphegbdfnaa.AA Go.Proofs.Ytbnicphegbdfnaa.AW Go.Proofs.Ytbnicphegbdfnaa.AV Go.Proofs.Ytbnicphegbdfnaa.AC Go.Proofs.Ytbnicphegbdfnaa.DS Go.Proofs.Ytbnicphegbdfnaa.AU Go.Proofs.Ytbnicphegbdfnaa.SP Go.Proofs.Ytbnicphegbdfnaa.SN Go.Proofs.Ytbnicphegbdfnaa.SB Go.Proofs.Ytbnicphegbdfnaa.VA Go.Proofs.Ytbnicphegbdfnaa.VB Go.Proofs.Ytbnicphegbdfnaa.VC Go.Proofs.Ytbnicphegbdfnaa.VD Go.Proofs.Ytbnicphegbdfnaa.VE
theorem rd_off {S : Nat → Prop} {w : World} {u : Value} {x : List UInt8} {gs : Nat} (h : Rd S w u x) (hg : ∀ (off : Nat) (p : Option _) (n : Int), w.cell? ⟨gs, off, p⟩ ≠ some (.int .u8 n)) : Rd (fun b => S b ∧ b ≠ gs) w u x := by
  obtain ⟨A, c, rfl, h1, h2, h3, h4⟩ := h
  refine ⟨A, c, rfl, h1, h2, h3, fun ad ha => ⟨fun hne => ⟨(h4 ad ha).1 hne, fun e => ?_⟩, (h4 ad ha).2⟩⟩
  cases x with
  | nil => exact hne rfl
  | cons y ys =>
    have h0 := (h4 ad ha).2 0 (.int .u8 (y.toNat : Int)) rfl
    rw [show ad.add 0 = ad from rfl] at h0
    obtain ⟨b, off, p⟩ := ad
    simp only at e
    subst e
    exact hg off p _ h0
theorem scan_cells {w : World} {gs : Nat} {A : Option Addr} {n c : Nat} {e : Int} (h : w.heap[gs]? = some (.cells #[.slice A n c, .int .i64 e, .bool true] 167 (0, 0))) : ∀ (off : Nat) (p : Option _) (n : Int), w.cell? ⟨gs, off, p⟩ ≠ some (.int .u8 n) := fun off p k hc => by
  unfold World.cell? at hc
  simp only [h] at hc
  split at hc
  · cases hc
  · match off, hc with
    | 0, hc => simp at hc
    | 1, hc => simp at hc
    | 2, hc => simp at hc
    | i + 3, hc => simp at hc
theorem bs_chg {base : Nat} {w w' : World} {v : Value} {l : List (List UInt8)} {gs : Nat} (h : BS base w v l) (hk : Chg (ptr gs) w w') (hgs : gs < base) (hg : ∀ (off : Nat) (p : Option _) (n : Int), w.cell? ⟨gs, off, p⟩ ≠ some (.int .u8 n)) : BS base w' v l := by
  obtain ⟨ws, h1, h2⟩ := h
  refine ⟨ws, ⟨h1.1, ?_⟩, fun i x hx => ?_⟩
  · rcases h1.2 with h | ⟨g, cap, cur, rfl, hb, hgg, h3⟩
    · exact .inl h
    · refine .inr ⟨g, cap, cur, rfl, hb, (hk.block g (Array.getElem?_eq_some_iff.1 hgg).1 fun e => ?_).trans hgg, h3⟩
      simp [blk, ptr] at e
      omega
  · obtain ⟨u, hu, hr⟩ := h2 i x hx
    refine ⟨u, hu, ((rd_off hr hg).keep fun b hb hS => hk.block b hb fun e => ?_).mono fun b hb => ⟨Nat.lt_of_lt_of_le hb.1.1 hk.size, hb.1.2⟩⟩
    simp [blk, ptr] at e
    exact hS.2 e
/-- The base, and the state, of what is kept. -/
theorem kept_num (base : Nat) (st : List UInt8) (h : base < 18446744073709551616) : Sc.num ⟨keptB base st, 0⟩ (width 8) = (base, ⟨st, 0⟩) := by
  have hl : (be 8 base).length = 8 := be_length 8 base
  unfold Sc.num Sc.take keptB
  rw [SSeal.width8]
  simp only [if_true, List.length_append, hl]
  rw [if_pos (by omega)]
  have h1 : (be 8 base ++ st).take 8 = be 8 base := by rw [List.take_append_of_le_length (by omega), List.take_of_length_le (by omega)]
  have h2 : (be 8 base ++ st).drop 8 = st := by rw [List.drop_append_of_le_length (by omega), List.drop_of_length_le (by omega), List.nil_append]
  rw [h1, h2]
  congr 1
  exact val_be base 8 (by omega)
theorem DS.addBoth {w y z : World} {g : Nat} {d : Pd} {V : List (Value × Cont)} (h : DS w g d V y) (hg : Grew y z) {v : Value} {l : List UInt8} {c : Nat} {o : Obj} (x : Value) (hr : Rd (fun b => y.heap.size ≤ b ∧ b ≠ c) z v l) (hc : y.heap.size ≤ c) (ho : z.heap[c]? = some o) : DS w g d ((x, Cont.blk c o) :: (v, Cont.bytes l) :: V) z := by
  obtain ⟨D, h⟩ := h
  have h2 := h.grew hg
  refine ⟨D, h2.dk, h2.ab, h2.gr, fun v' l' hp => ?_, fun x' b o' hp => ?_⟩
  · rcases List.mem_cons.1 hp with hp | hp
    · cases hp
    · rcases List.mem_cons.1 hp with hp | hp
      · injection hp with e1 e2
        injection e2 with e2
        subst e1 e2
        refine ⟨_, hr.lt, fun b hb => ⟨hb.2, (fun hd => by have := h.dk.1 b hd; omega), fun hbl => ?_⟩⟩
        rcases bl_cons hbl with e | e
        · exact hb.1.2 e
        · have := (h.bl_lt (bl_row e)).1; omega
      · obtain ⟨S, k1, k2⟩ := h.row v' l' hp
        refine ⟨S, k1.grew hg, fun b hb => ⟨Nat.lt_of_lt_of_le (k2 b hb).1 hg.size, (k2 b hb).2.1, fun hbl => ?_⟩⟩
        rcases bl_cons hbl with e | e
        · have := (k2 b hb).1; omega
        · exact (k2 b hb).2.2 (bl_row e)
  · rcases List.mem_cons.1 hp with hp | hp
    · injection hp with _ hp
      injection hp with e1 e2
      subst e1 e2
      exact ⟨ho, (fun hd => by have := h.dk.1 _ hd; omega), Nat.le_trans h.gr.size hc⟩
    · rcases List.mem_cons.1 hp with hp | hp
      · cases hp
      · exact h2.blk x' b o' hp
theorem vault_cells {w : World} {gv g : Nat} {q : Pl} {base : Nat} {dead : Bool} (h : w.heap[gv]? = some (VO none g q base dead)) : ∀ (off : Nat) (p : Option _) (n : Int), w.cell? ⟨gv, off, p⟩ ≠ some (.int .u8 n) := fun off p n hc => by
  unfold World.cell? VO VP at *
  simp only [h] at hc
  split at hc
  · cases hc
  · match off, hc with
    | 0, hc => simp at hc
    | 1, hc => simp at hc
    | 2, hc => simp at hc
    | 3, hc => simp at hc
    | 4, hc => simp at hc
    | 5, hc => simp at hc
    | 6, hc => simp at hc
    | i + 7, hc => simp at hc
theorem kept_take (st : List UInt8) : Sc.take ⟨st, 0⟩ st.length = (st, ⟨[], 0⟩) := by
  unfold Sc.take
  simp
/-- The first of a tuple. -/
def fst2 (v : Value) : Value := match v with | .tuple #[a, _] => a | _ => undef
/-- What is said, within a region. -/
structure J5 (W0 : World) (recs : List (List UInt8)) (m : Nat → Bool) (u : Nat → Value) (w : World) : Prop where
  gr : Grew W0 w
  sc : m 8 = true → ∃ vr, u 8 = .tuple #[vr, .int .i64 0] ∧ ∃ bb, W0.heap.size ≤ bb ∧ BS bb w vr recs
  mv : m 9 = true → m 8 = true ∧ u 9 = u 8
  ex : m 10 = true → m 9 = true ∧ u 10 = fst2 (u 9)
  asn : m 12 = true → m 10 = true ∧ u 12 = u 10
section
variable {W0 w w' : World} {recs : List (List UInt8)} {m : Nat → Bool} {u : Nat → Value}
theorem J5.start (W0 : World) (recs : List (List UInt8)) : J5 W0 recs (fun _ => false) (fun _ => undef) W0.drew := ⟨(Grew.refl W0).drew, (fun h => by cases h), (fun h => by cases h), (fun h => by cases h), (fun h => by cases h)⟩
theorem J5.go (h : J5 W0 recs m u w) (k : Nat) (v : Value) (h1 : k ≠ 8) (h2 : k ≠ 10) (h3 : k ≠ 12) (h4 : k ≠ 9) (hg : Grew w w') : J5 W0 recs (Marks.upd m k) (Marks.updv u k v) w' := by
  refine ⟨h.gr.trans hg, ?_, ?_, ?_, ?_⟩
  · rw [Marks.upd_other m (by omega), Marks.updv_other u v (by omega)]
    intro q
    obtain ⟨vr, a, bb, b1, b2⟩ := h.sc q
    exact ⟨vr, a, bb, b1, b2.grew hg⟩
  · rw [Marks.upd_other m (by omega), Marks.upd_other m (by omega), Marks.updv_other u v (by omega), Marks.updv_other u v (by omega)]; exact h.mv
  · rw [Marks.upd_other m (by omega), Marks.upd_other m (by omega), Marks.updv_other u v (by omega), Marks.updv_other u v (by omega)]; exact h.ex
  · rw [Marks.upd_other m (by omega), Marks.upd_other m (by omega), Marks.updv_other u v (by omega), Marks.updv_other u v (by omega)]; exact h.asn
theorem J5.n9 (h : J5 W0 recs m u w) (hm : m 8 = false) : m 9 = false := by
  cases hc : m 9 with
  | false => rfl
  | true => have := (h.mv hc).1; rw [hm] at this; cases this
theorem J5.n10 (h : J5 W0 recs m u w) (hm : m 9 = false) : m 10 = false := by
  cases hc : m 10 with
  | false => rfl
  | true => have := (h.ex hc).1; rw [hm] at this; cases this
theorem J5.n12 (h : J5 W0 recs m u w) (hm : m 10 = false) : m 12 = false := by
  cases hc : m 12 with
  | false => rfl
  | true => have := (h.asn hc).1; rw [hm] at this; cases this
theorem J5.made (h : J5 W0 recs m u w) (hm : m 8 = false) (vr : Value) (bb : Nat) (hbb : W0.heap.size ≤ bb) (hg : Grew w w') (hb : BS bb w' vr recs) : J5 W0 recs (Marks.upd m 8) (Marks.updv u 8 (.tuple #[vr, .int .i64 0])) w' := by
  have q9 := h.n9 hm
  have q10 := h.n10 q9
  have q12 := h.n12 q10
  refine ⟨h.gr.trans hg, fun _ => ⟨vr, Marks.updv_same .., bb, hbb, hb⟩, ?_, ?_, ?_⟩
  · rw [Marks.upd_other m (by omega), q9]; exact fun h => by cases h
  · rw [Marks.upd_other m (by omega), q10]; exact fun h => by cases h
  · rw [Marks.upd_other m (by omega), q12]; exact fun h => by cases h
theorem J5.mov (h : J5 W0 recs m u w) (hm : m 9 = false) (h8 : m 8 = true) : J5 W0 recs (Marks.upd m 9) (Marks.updv u 9 (u 8)) w := by
  have q10 := h.n10 hm
  have q12 := h.n12 q10
  refine ⟨h.gr, ?_, fun _ => ?_, ?_, ?_⟩
  · rw [Marks.upd_other m (by omega), Marks.updv_other u _ (by omega)]; exact h.sc
  · rw [Marks.upd_other m (by omega), Marks.updv_same, Marks.updv_other u _ (by omega)]; exact ⟨h8, rfl⟩
  · rw [Marks.upd_other m (by omega), q10]; exact fun h => by cases h
  · rw [Marks.upd_other m (by omega), q12]; exact fun h => by cases h
theorem J5.ext (h : J5 W0 recs m u w) (hm : m 10 = false) (h9 : m 9 = true) : J5 W0 recs (Marks.upd m 10) (Marks.updv u 10 (fst2 (u 9))) w := by
  have q12 := h.n12 hm
  refine ⟨h.gr, ?_, ?_, fun _ => ?_, ?_⟩
  · rw [Marks.upd_other m (by omega), Marks.updv_other u _ (by omega)]; exact h.sc
  · rw [Marks.upd_other m (by omega), Marks.upd_other m (by omega), Marks.updv_other u _ (by omega), Marks.updv_other u _ (by omega)]; exact h.mv
  · rw [Marks.upd_other m (by omega), Marks.updv_same, Marks.updv_other u _ (by omega)]; exact ⟨h9, rfl⟩
  · rw [Marks.upd_other m (by omega), q12]; exact fun h => by cases h
theorem J5.asg (h : J5 W0 recs m u w) (h10 : m 10 = true) : J5 W0 recs (Marks.upd m 12) (Marks.updv u 12 (u 10)) w := by
  refine ⟨h.gr, ?_, ?_, ?_, fun _ => ?_⟩
  · rw [Marks.upd_other m (by omega), Marks.updv_other u _ (by omega)]; exact h.sc
  · rw [Marks.upd_other m (by omega), Marks.upd_other m (by omega), Marks.updv_other u _ (by omega), Marks.updv_other u _ (by omega)]; exact h.mv
  · rw [Marks.upd_other m (by omega), Marks.upd_other m (by omega), Marks.updv_other u _ (by omega), Marks.updv_other u _ (by omega)]; exact h.ex
  · rw [Marks.upd_other m (by omega), Marks.updv_same, Marks.updv_other u _ (by omega)]; exact ⟨h10, rfl⟩
end
/-- A new vault and what is taken of a scan, within a region. -/
structure J6 (W0 : World) (gs g : Nat) (q : Pl) (base : Nat) (st : List UInt8) (m : Nat → Bool) (u : Nat → Value) (w : World) : Prop where
  pre : m 9 = false → Grew W0 w
  post : Chg (ptr gs) W0 w
  bx : m 5 = true → ∃ gv, u 5 = .pointer (some ⟨gv, 0, none⟩) ∧ w.heap[gv]? = some (VO none g q base false) ∧ W0.heap.size ≤ gv
  tk : m 9 = true → m 8 = true ∧ Rd (fun b => W0.heap.size ≤ b) w (u 9) st
  a11 : m 11 = true → m 5 = true ∧ u 11 = u 5
  a12 : m 12 = true → m 9 = true ∧ u 12 = u 9
section
variable {W0 w w' : World} {gs g : Nat} {q : Pl} {base : Nat} {st : List UInt8} {m : Nat → Bool} {u : Nat → Value}
theorem J6.start (W0 : World) (gs g : Nat) (q : Pl) (base : Nat) (st : List UInt8) : J6 W0 gs g q base st (fun _ => false) (fun _ => undef) W0.drew := ⟨fun _ => (Grew.refl W0).drew, Chg.of_grew (Grew.refl W0).drew, (fun h => by cases h), (fun h => by cases h), (fun h => by cases h), (fun h => by cases h)⟩
theorem J6.keep (h : J6 W0 gs g q base st m u w) (k : Nat) (v : Value) (h1 : k ≠ 5) (h2 : k ≠ 9) (h3 : k ≠ 11) (h4 : k ≠ 12) : J6 W0 gs g q base st (Marks.upd m k) (Marks.updv u k v) w := by
  refine ⟨?_, h.post, ?_, ?_, ?_, ?_⟩
  · rw [Marks.upd_other m (by omega)]; exact h.pre
  · rw [Marks.upd_other m (by omega), Marks.updv_other u v (by omega)]; exact h.bx
  · rw [Marks.upd_other m (by omega), Marks.updv_other u v (by omega)]
    refine fun q => ⟨?_, (h.tk q).2⟩
    by_cases e : k = 8
    · rw [e, Marks.upd_same]
    · rw [Marks.upd_other m (by omega)]; exact (h.tk q).1
  · rw [Marks.upd_other m (by omega), Marks.upd_other m (by omega), Marks.updv_other u v (by omega), Marks.updv_other u v (by omega)]; exact h.a11
  · rw [Marks.upd_other m (by omega), Marks.upd_other m (by omega), Marks.updv_other u v (by omega), Marks.updv_other u v (by omega)]; exact h.a12
theorem J6.boxed (h : J6 W0 gs g q base st m u w) (hm : m 5 = false) (gv : Nat) (hg : Grew w w') (ho : w'.heap[gv]? = some (VO none g q base false)) (hgv : w.heap.size ≤ gv) : J6 W0 gs g q base st (Marks.upd m 5) (Marks.updv u 5 (.pointer (some ⟨gv, 0, none⟩))) w' := by
  have q11 : m 11 = false := by
    cases hc : m 11 with
    | false => rfl
    | true => have := (h.a11 hc).1; rw [hm] at this; cases this
  refine ⟨?_, h.post.trans (Chg.of_grew hg), fun _ => ⟨gv, Marks.updv_same .., ho, Nat.le_trans h.post.size hgv⟩, ?_, ?_, ?_⟩
  · rw [Marks.upd_other m (by omega)]; exact fun q => (h.pre q).trans hg
  · rw [Marks.upd_other m (by omega), Marks.upd_other m (by omega), Marks.updv_other u _ (by omega)]
    exact fun q => ⟨(h.tk q).1, (h.tk q).2.grew hg⟩
  · rw [Marks.upd_other m (by omega), q11]; exact fun h => by cases h
  · rw [Marks.upd_other m (by omega), Marks.upd_other m (by omega), Marks.updv_other u _ (by omega), Marks.updv_other u _ (by omega)]; exact h.a12
theorem J6.took (h : J6 W0 gs g q base st m u w) (hm : m 9 = false) (h8 : m 8 = true) (hgs : gs < W0.heap.size) (v : Value) (hc : Chg (ptr gs) w w') (hr : Rd (fun b => w.heap.size ≤ b) w' v st) : J6 W0 gs g q base st (Marks.upd m 9) (Marks.updv u 9 v) w' := by
  have q12 : m 12 = false := by
    cases hc : m 12 with
    | false => rfl
    | true => have := (h.a12 hc).1; rw [hm] at this; cases this
  refine ⟨?_, h.post.trans hc, ?_, fun _ => ⟨by rw [Marks.upd_other m (by omega)]; exact h8, ?_⟩, ?_, ?_⟩
  · rw [Marks.upd_same]; exact fun h => by cases h
  · rw [Marks.upd_other m (by omega), Marks.updv_other u _ (by omega)]
    intro q5
    obtain ⟨gv, a, b, c⟩ := h.bx q5
    exact ⟨gv, a, (hc.block gv (Array.getElem?_eq_some_iff.1 b).1 fun e => by simp [blk, ptr] at e; omega).trans b, c⟩
  · rw [Marks.updv_same]; exact hr.mono fun b hb => Nat.le_trans (h.pre hm).size hb
  · rw [Marks.upd_other m (by omega), Marks.upd_other m (by omega), Marks.updv_other u _ (by omega), Marks.updv_other u _ (by omega)]; exact h.a11
  · rw [Marks.upd_other m (by omega), q12]; exact fun h => by cases h
theorem J6.asg11 (h : J6 W0 gs g q base st m u w) (h5 : m 5 = true) : J6 W0 gs g q base st (Marks.upd m 11) (Marks.updv u 11 (u 5)) w := by
  refine ⟨?_, h.post, ?_, ?_, fun _ => ?_, ?_⟩
  · rw [Marks.upd_other m (by omega)]; exact h.pre
  · rw [Marks.upd_other m (by omega), Marks.updv_other u _ (by omega)]; exact h.bx
  · rw [Marks.upd_other m (by omega), Marks.upd_other m (by omega), Marks.updv_other u _ (by omega)]; exact h.tk
  · rw [Marks.upd_other m (by omega), Marks.updv_same, Marks.updv_other u _ (by omega)]; exact ⟨h5, rfl⟩
  · rw [Marks.upd_other m (by omega), Marks.upd_other m (by omega), Marks.updv_other u _ (by omega), Marks.updv_other u _ (by omega)]; exact h.a12
theorem J6.asg12 (h : J6 W0 gs g q base st m u w) (h9 : m 9 = true) : J6 W0 gs g q base st (Marks.upd m 12) (Marks.updv u 12 (u 9)) w := by
  refine ⟨?_, h.post, ?_, ?_, ?_, fun _ => ?_⟩
  · rw [Marks.upd_other m (by omega)]; exact h.pre
  · rw [Marks.upd_other m (by omega), Marks.updv_other u _ (by omega)]; exact h.bx
  · rw [Marks.upd_other m (by omega), Marks.upd_other m (by omega), Marks.updv_other u _ (by omega)]; exact h.tk
  · rw [Marks.upd_other m (by omega), Marks.upd_other m (by omega), Marks.updv_other u _ (by omega), Marks.updv_other u _ (by omega)]; exact h.a11
  · rw [Marks.upd_other m (by omega), Marks.updv_same, Marks.updv_other u _ (by omega)]; exact ⟨h9, rfl⟩
end
/-- What comes of an opening. -/
def OPD (w : World) (g : Nat) (L : List Sec) (V : List (Value × Cont)) (ys : Nat) (q : Pl) (base : Nat) (st : List UInt8) (recs : List (List UInt8)) (e : Ending) (z : World) : Prop :=
  ∃ gv vst vr bb, e = .returned (.tuple #[.pointer (some ⟨gv, 0, none⟩), vst, vr, .int .i64 0]) ∧ DS w g (calm L) ((.nilFunc, Cont.blk gv (VO none g q base false)) :: (vst, Cont.bytes st) :: V) z ∧ BS bb z vr recs ∧ ys ≤ bb ∧ ys ≤ gv
theorem OPD.mk' {w : World} {g : Nat} {L : List Sec} {V : List (Value × Cont)} {ys : Nat} {q : Pl} {base : Nat} {st : List UInt8} {recs : List (List UInt8)} {e : Ending} {z : World} (gv : Nat) (vst vr : Value) (bb : Nat) (h1 : e = .returned (.tuple #[.pointer (some ⟨gv, 0, none⟩), vst, vr, .int .i64 0])) (h2 : DS w g (calm L) ((.nilFunc, Cont.blk gv (VO none g q base false)) :: (vst, Cont.bytes st) :: V) z) (h3 : BS bb z vr recs) (h4 : ys ≤ bb) (h5 : ys ≤ gv) : OPD w g L V ys q base st recs e z := ⟨gv, vst, vr, bb, h1, h2, h3, h4, h5⟩
set_option maxHeartbeats 4000000 in
theorem ds_open {w y : World} {g : Nat} {L : List Sec} {V : List (Value × Cont)} (h : DS w g (calm L) V y) (q : Pl) (pe : Nat) (hpk : POK q pe) (hsz : 2 * q.a + pe ≤ L.length) (n c s base : Nat) (st : List UInt8) (hk : SK L 0 q.a n c s (keptB base st)) (hst : st.length ≤ 100000000) (hb1 : 1 ≤ base) (hb2 : base + pe ≤ 4611686018427387904) (recs : List (List UInt8)) (hrc : jscan L (2 * q.a) base q.e q.p 0 [] = recs) :
    Calls Try.prog 51 #[.pointer (some ⟨g, 0, none⟩), PV q] y fun e z => OPD w g L V y.heap.size q base st recs e z := by
  have HPK := Lib.hid hpk
  have HSTL := Lib.hid hst
  have HRC : Hid (jscan (calm L).last (2 * q.a) base q.e q.p 0 [] = recs) := Lib.hid hrc
  have HVR := Lib.hid (fun (z : World) (hz : Grew y z) => ds_vrefuses (h.grew hz) q pe hpk hsz)
  have hsr : srefus (calm L) ((0 : Nat) : Int) (q.a : Int) = 0 := by
    unfold srefus calm
    simp only
    rw [if_neg (by have := hpk.a1; omega), if_neg (by omega)]
    rfl
  have HLA := Lib.hid (fun (U : List (Value × Cont)) (z : World) (hz : DS w g (calm L) U z) => ds_last_some hz 0 q.a 0 _ rfl rfl hsr c s (keptB base st) hk.pick)
  have HKN : Hid (Sc.num ⟨keptB base st, 0⟩ (width 8) = (base, ⟨st, 0⟩)) := Lib.hid (kept_num base st (by omega))
  have HTK : Hid (Sc.take ⟨st, 0⟩ st.length = (st, ⟨[], 0⟩)) := Lib.hid (kept_take st)
  have HLF : Hid ((⟨st, 0⟩ : Sc).left = st.length) := Lib.hid rfl

  have HST : Hid (st.length ≤ 9223372036854775807) := Lib.hid (by omega)
  have HST3 : Hid (st.length ≤ 140737488355328) := Lib.hid (by omega)
  have HBA := Lib.hid (fun w => based_any q pe base hpk w hb1 hb2)
  have HJQ : Hid (jrefus (calm L) ((2 * q.a : Nat) : Int) (q.p : Int) (q.e : Int) base = 0) := Lib.hid (by
    unfold jrefus calm
    have e : (q.p : Int) * (q.e : Int) = (pe : Int) := by rw [← hpk.is]; simp
    have e2 : q.p * q.e = pe := hpk.is
    have := hpk.p1
    have := hpk.p2
    have := hpk.e1
    have := hpk.e2
    simp only [e]
    repeat (first | rw [if_neg (by omega)] | rfl))
  have HD := Lib.hid h
  clear h hpk hsz hk hst hb1 hb2 hrc hsr
  unfold PV at HVR HBA ⊢
  go_enter Try.func51, Try.ntmps51
  have hb : BX (y.alloc (Obj.cells #[.int .i64 (q.a : Int), .int .i64 (q.p : Int), .int .i64 (q.e : Int)] 90)) y.heap.size q := heap_alloc_new y _
  have hg0 : Grew y (y.alloc (Obj.cells #[.int .i64 (q.a : Int), .int .i64 (q.p : Int), .int .i64 (q.e : Int)] 90)) := (Below.refl _ y).alloc (Nat.le_refl _) _
  go_upto_region 1 with fail
  have hd1 := HD.out.new hg0 .nilFunc (Nat.le_refl _) hb
  have HB := Lib.hid hb
  have HG0 := Lib.hid hg0
  have HDA := Lib.hid hd1
  clear hb hg0 hd1 HD
  generalize y.alloc (Obj.cells #[.int .i64 (q.a : Int), .int .i64 (q.p : Int), .int .i64 (q.e : Int)] 90) = W1 at *
  obtain ⟨BB, hBB⟩ : ∃ BB, y.heap.size = BB := ⟨_, rfl⟩
  have HBB := Lib.hid hBB
  rw [hBB] at HB HDA ⊢
  clear hBB
  have c0 := HB.out.cells.1
  have c1 := HB.out.cells.2.1
  have c2 := HB.out.cells.2.2
  go_wp2_with fail
  refine (HVR.out _ HG0.out).mono ?_
  rintro e wa ⟨rfl, hg⟩
  have HGA := Lib.hid (HG0.out.trans hg)
  have HBA1 := Lib.hid (HB.out.grew hg)
  have HDA1 := Lib.hid (HDA.out.grew hg)
  clear hg HG0 HB HDA c0 c1 c2 HVR
  have c0 := HBA1.out.cells.1
  go_wp2_with fail
  refine (HLA.out _ _ HDA1.out).mono ?_
  rintro e wb ⟨vb, rfl, hd⟩
  obtain ⟨Ab, cb, rfl, _⟩ := id (hd.rd (List.mem_cons_self ..))
  have HDB := Lib.hid hd
  have HBXB : Hid (BX wb BB q) := Lib.hid (hd.at_ (x := .nilFunc) (b := BB) (List.mem_cons_of_mem _ (List.mem_cons_self ..)))
  have HYW : Hid (y.heap.size < wb.heap.size) := Lib.hid (by rw [HBB.out]; exact (Array.getElem?_eq_some_iff.1 HBXB.out).1)
  clear hd c0 HLA
  have HKL : Hid ((keptB base st).length ≤ 140737488355328) := Lib.hid (by rw [keptB_length]; have := HSTL.out; omega)
  go_wp2_with fail
  refine (SOpen.from_any _ _ (keptB base st) _ (HDB.out.rd (List.mem_cons_self ..)) HKL.out).mono ?_
  rintro e wc ⟨gs, rfl, hs, hg⟩
  have HSC := Lib.hid hs
  have HGC := Lib.hid hg
  have HSZ := Lib.hid hs.size
  obtain ⟨hi, hhi⟩ : ∃ hi, wc.heap.size = hi := ⟨_, rfl⟩
  rw [hhi] at HSC HSZ
  clear hs hg hhi
  unfold ptr at HSC ⊢
  go_wp2_with fail
  refine (num_eq _ _ _ _ _ _ _ _ HSC HKN).mono ?_
  rintro e wd ⟨rfl, hs, hc⟩
  have HSD := Lib.hid hs
  have HGD := Lib.hid (grew_chg HGC.out hc HSZ.out.1)
  clear hs hc HSC HGC
  go_wp2_with fail
  refine (fault_eq _ _ _ _ _ 0 HSD (Lib.hid rfl)).mono ?_
  rintro e w' ⟨rfl, rfl⟩
  have HBXD := Lib.hid (HBXB.out.grew HGD.out)
  have c0 := HBXD.out.cells.1
  have c1 := HBXD.out.cells.2.1
  have c2 := HBXD.out.cells.2.2
  go_wp2_with fail
  refine (HBA.out _).mono ?_
  rintro e we ⟨rfl, hg⟩
  have HBX := Lib.hid (HBXD.out.grew hg)
  have HSE := Lib.hid (HSD.out.grew hg)
  have HGE := Lib.hid (HGD.out.trans hg)
  have HD1 := Lib.hid (HDB.out.grew HGE.out)
  clear hg HBXD HSD HGD c0 c1 c2 HBA
  go_upto_region 11 with fail
  generalize we = W1 at *
  refine Marks.wp_region_text (J5 W1 recs) (fun _ _ => True) (by kernel_rfl) (by kernel_rfl) (J5.start W1 recs) ?_
  apply Marks.Lex.exact [] _ (by kernel_rfl)
  · intro m' u W hm hcl hJ _
    unfold Marks.one
    go_simp
    exact ⟨trivial, hJ.go 0 _ (by omega) (by omega) (by omega) (by omega) (Grew.refl W), rfl⟩
  simp only [Act.put, List.setIfInBounds_toArray, List.set_cons_zero, List.set_cons_succ, Nat.zero_add]
  apply Marks.Lex.exact [] (PV q) (by kernel_rfl)
  · intro m' u W hm hcl hJ _
    have hx : BX W BB q := (HBX.out.grew hJ.gr)
    have d0 := hx.cells.1
    have d1 := hx.cells.2.1
    have d2 := hx.cells.2.2
    unfold PV
    unfold Marks.one
    go_simp
    exact ⟨trivial, hJ.go 1 _ (by omega) (by omega) (by omega) (by omega) (Grew.refl W), rfl⟩
  simp only [Act.put, List.setIfInBounds_toArray, List.set_cons_zero, List.set_cons_succ, Nat.reduceAdd]
  apply Marks.Lex.exact [] (.int .i64 ((2 * q.a : Nat) : Int)) (by kernel_rfl)
  · intro m' u W hm hcl hJ _
    unfold Marks.one
    go_simp
    refine (from_any q pe HPK.out W).mono ?_
    rintro e w' ⟨rfl, hg⟩
    exact ⟨_, rfl, trivial, hJ.go 2 _ (by omega) (by omega) (by omega) (by omega) hg, rfl⟩
  simp only [Act.put, List.setIfInBounds_toArray, List.set_cons_zero, List.set_cons_succ, Nat.reduceAdd]
  apply Marks.Lex.exact [] _ (by kernel_rfl)
  · intro m' u W hm hcl hJ _
    unfold Marks.one
    go_simp
    exact ⟨trivial, hJ.go 3 _ (by omega) (by omega) (by omega) (by omega) (Grew.refl W), rfl⟩
  simp only [Act.put, List.setIfInBounds_toArray, List.set_cons_zero, List.set_cons_succ, Nat.reduceAdd]
  apply Marks.Lex.exact [] _ (by kernel_rfl)
  · intro m' u W hm hcl hJ _
    have hx : BX W BB q := (HBX.out.grew hJ.gr)
    have d0 := hx.cells.1
    have d1 := hx.cells.2.1
    have d2 := hx.cells.2.2
    unfold Marks.one
    go_simp
    exact ⟨trivial, hJ.go 4 _ (by omega) (by omega) (by omega) (by omega) (Grew.refl W), rfl⟩
  simp only [Act.put, List.setIfInBounds_toArray, List.set_cons_zero, List.set_cons_succ, Nat.reduceAdd]
  apply Marks.Lex.exact [] _ (by kernel_rfl)
  · intro m' u W hm hcl hJ _
    unfold Marks.one
    go_simp
    exact ⟨trivial, hJ.go 5 _ (by omega) (by omega) (by omega) (by omega) (Grew.refl W), rfl⟩
  simp only [Act.put, List.setIfInBounds_toArray, List.set_cons_zero, List.set_cons_succ, Nat.reduceAdd]
  apply Marks.Lex.exact [] _ (by kernel_rfl)
  · intro m' u W hm hcl hJ _
    have hx : BX W BB q := (HBX.out.grew hJ.gr)
    have d0 := hx.cells.1
    have d1 := hx.cells.2.1
    have d2 := hx.cells.2.2
    unfold Marks.one
    go_simp
    exact ⟨trivial, hJ.go 6 _ (by omega) (by omega) (by omega) (by omega) (Grew.refl W), rfl⟩
  simp only [Act.put, List.setIfInBounds_toArray, List.set_cons_zero, List.set_cons_succ, Nat.reduceAdd]
  apply Marks.Lex.exact [] _ (by kernel_rfl)
  · intro m' u W hm hcl hJ _
    unfold Marks.one
    go_simp
    exact ⟨trivial, hJ.go 7 _ (by omega) (by omega) (by omega) (by omega) (Grew.refl W), rfl⟩
  simp only [Act.put, List.setIfInBounds_toArray, List.set_cons_zero, List.set_cons_succ, Nat.reduceAdd]
  apply Marks.Lex.know [] (fun _ _ => True) (by kernel_rfl) (fun _ _ _ _ _ => trivial)
  · intro m' u W hm hcl hJ _
    unfold Marks.one
    go_simp
    obtain ⟨D, hdk⟩ := (HD1.out.grew hJ.gr).dk
    have hc := jscan_any W g D (calm L) (2 * q.a) q.p q.e base hdk HJQ.out
    refine hc.mono ?_
    rintro e w' ⟨vr, rfl, hb, hg⟩
    exact ⟨_, rfl, trivial, hJ.made hm vr W.heap.size hJ.gr.size hg (by rw [← HRC.out]; exact hb), trivial⟩
  simp only [Act.put, List.setIfInBounds_toArray, List.set_cons_zero, List.set_cons_succ, Nat.reduceAdd]
  apply Marks.Lex.know [] (fun _ _ => True) (by kernel_rfl) (fun _ _ _ _ _ => trivial)
  · intro m' u W hm hcl hJ _
    unfold Marks.one
    go_simp
    exact ⟨trivial, hJ.mov hm (hcl 8 (by decide)), trivial⟩
  simp only [Act.put, List.setIfInBounds_toArray, List.set_cons_zero, List.set_cons_succ, Nat.reduceAdd]
  apply Marks.Lex.know [] (fun _ _ => True) (by kernel_rfl) (fun _ _ _ _ _ => trivial)
  · intro m' u W hm hcl hJ _
    obtain ⟨vr, eu, _⟩ := hJ.sc (hcl 8 (by decide))
    have eu9 : u 9 = .tuple #[vr, .int .i64 0] := (hJ.mv (hcl 9 (by decide))).2.trans eu
    have hex := hJ.ext hm (hcl 9 (by decide))
    have egj : fst2 (u 9) = vr := by rw [eu9]; rfl
    rw [egj] at hex
    unfold Marks.one
    go_simp
    exact ⟨trivial, hex, trivial⟩
  simp only [Act.put, List.setIfInBounds_toArray, List.set_cons_zero, List.set_cons_succ, Nat.reduceAdd]
  apply Marks.Lex.exact [] (.int .i64 0) (by kernel_rfl)
  · intro m' u W hm hcl hJ _
    obtain ⟨vr, eu, _⟩ := hJ.sc (hcl 8 (by decide))
    have eu9 : u 9 = .tuple #[vr, .int .i64 0] := (hJ.mv (hcl 9 (by decide))).2.trans eu
    unfold Marks.one
    go_simp
    exact ⟨trivial, hJ.go 11 _ (by omega) (by omega) (by omega) (by omega) (Grew.refl W), rfl⟩
  simp only [Act.put, List.setIfInBounds_toArray, List.set_cons_zero, List.set_cons_succ, Nat.reduceAdd]
  apply Marks.Lex.know [] (fun _ _ => True) (by kernel_rfl) (fun _ _ _ _ _ => trivial)
  · intro m' u W hm hcl hJ _
    unfold Marks.one
    go_simp
    exact ⟨trivial, hJ.asg (hcl 10 (by decide)), trivial⟩
  simp only [Act.put, List.setIfInBounds_toArray, List.set_cons_zero, List.set_cons_succ, Nat.reduceAdd]
  apply Marks.Lex.exact [] _ (by kernel_rfl)
  · intro m' u W hm hcl hJ _
    unfold Marks.one
    go_simp
    exact ⟨trivial, hJ.go 13 _ (by omega) (by omega) (by omega) (by omega) (Grew.refl W), rfl⟩
  simp only [Act.put, List.setIfInBounds_toArray, List.set_cons_zero, List.set_cons_succ, Nat.reduceAdd]
  refine Marks.Lex.done fun m' u W hm hJ _ => ?_
  obtain ⟨vr, eu, bb, hbb, hbs⟩ := hJ.sc (hm 8 (by omega))
  have e12 := (hJ.asn (hm 12 (by omega))).2
  have e10 := (hJ.ex (hm 10 (by omega))).2
  have egj : fst2 (u 9) = vr := by rw [(hJ.mv (hm 9 (by omega))).2, eu]; rfl
  rw [egj] at e10
  rw [e10] at e12
  rw [e12]
  have HBS := Lib.hid hbs
  have HSC := Lib.hid (HSE.out.grew hJ.gr)
  have HBBX := Lib.hid (HBX.out.grew hJ.gr)
  have HG2 := Lib.hid (HGE.out.trans hJ.gr)
  have HBBL : Hid (gs < bb ∧ wb.heap.size ≤ bb) := Lib.hid (by have := HSE.out.size; have := HGE.out.size; omega)
  have HGLT : Hid (gs < W.heap.size) := Lib.hid (by have := HSE.out.size; have := hJ.gr.size; omega)
  have HBLT : Hid (BB < W.heap.size) := Lib.hid (Array.getElem?_eq_some_iff.1 HBBX.out).1
  have HBNE : Hid (¬ gs = BB) := Lib.hid (fun e => by have := HSE.out.size; have := (Array.getElem?_eq_some_iff.1 HBXB.out).1; omega)
  clear hm hJ eu e12 e10 egj hbb hbs HSE HBX HGE
  go_upto_region 14 with fail
  have HBX := HBBX
  clear HBBX
  generalize W = W2 at *
  refine Marks.wp_region_text (J6 W2 gs g q base st) (fun _ _ => True) (by kernel_rfl) (by kernel_rfl) (J6.start W2 gs g q base st) ?_
  apply Marks.Lex.exact [] _ (by kernel_rfl)
  · intro m' u W hm hcl hJ _
    unfold Marks.one
    go_simp
    exact ⟨trivial, hJ.keep 0 _ (by omega) (by omega) (by omega) (by omega), rfl⟩
  simp only [Act.put, List.setIfInBounds_toArray, List.set_cons_zero, List.set_cons_succ, Nat.zero_add]
  apply Marks.Lex.exact [] (PV q) (by kernel_rfl)
  · intro m' u W hm hcl hJ _
    have hx : BX W BB q := (hJ.post.block BB HBLT.out (fun e => HBNE.out (by simpa [blk, ptr] using e.symm))).trans HBX.out
    have d0 := hx.cells.1
    have d1 := hx.cells.2.1
    have d2 := hx.cells.2.2
    unfold PV
    unfold Marks.one
    go_simp
    exact ⟨trivial, hJ.keep 1 _ (by omega) (by omega) (by omega) (by omega), rfl⟩
  simp only [Act.put, List.setIfInBounds_toArray, List.set_cons_zero, List.set_cons_succ, Nat.reduceAdd]
  apply Marks.Lex.exact [] _ (by kernel_rfl)
  · intro m' u W hm hcl hJ _
    unfold Marks.one
    go_simp
    exact ⟨trivial, hJ.keep 2 _ (by omega) (by omega) (by omega) (by omega), rfl⟩
  simp only [Act.put, List.setIfInBounds_toArray, List.set_cons_zero, List.set_cons_succ, Nat.reduceAdd]
  apply Marks.Lex.exact [] (VV none g q base false) (by kernel_rfl)
  · intro m' u W hm hcl hJ _
    unfold VV VP
    unfold PV
    unfold Marks.one
    go_simp
    exact ⟨trivial, hJ.keep 3 _ (by omega) (by omega) (by omega) (by omega), rfl⟩
  simp only [Act.put, List.setIfInBounds_toArray, List.set_cons_zero, List.set_cons_succ, Nat.reduceAdd]
  apply Marks.Lex.exact [] (VV none g q base false) (by kernel_rfl)
  · intro m' u W hm hcl hJ _
    unfold VV VP
    unfold Marks.one
    go_simp
    exact ⟨trivial, hJ.keep 4 _ (by omega) (by omega) (by omega) (by omega), rfl⟩
  simp only [Act.put, List.setIfInBounds_toArray, List.set_cons_zero, List.set_cons_succ, Nat.reduceAdd]
  apply Marks.Lex.know [] (fun _ _ => True) (by kernel_rfl) (fun _ _ _ _ _ => trivial)
  · intro m' u W hm hcl hJ _
    unfold VV VP
    unfold Marks.one
    go_simp
    have ho : (W.alloc (VO none g q base false)).heap[W.heap.size]? = some (VO none g q base false) := heap_alloc_new W _
    exact ⟨trivial, hJ.boxed hm W.heap.size ((Below.refl _ W).alloc (Nat.le_refl _) _) ho (Nat.le_refl _), trivial⟩
  simp only [Act.put, List.setIfInBounds_toArray, List.set_cons_zero, List.set_cons_succ, Nat.reduceAdd]
  apply Marks.Lex.exact [] _ (by kernel_rfl)
  · intro m' u W hm hcl hJ _
    unfold Marks.one
    go_simp
    exact ⟨trivial, hJ.keep 6 _ (by omega) (by omega) (by omega) (by omega), rfl⟩
  simp only [Act.put, List.setIfInBounds_toArray, List.set_cons_zero, List.set_cons_succ, Nat.reduceAdd]
  apply Marks.Lex.exact [] _ (by kernel_rfl)
  · intro m' u W hm hcl hJ _
    unfold Marks.one
    go_simp
    exact ⟨trivial, hJ.keep 7 _ (by omega) (by omega) (by omega) (by omega), rfl⟩
  simp only [Act.put, List.setIfInBounds_toArray, List.set_cons_zero, List.set_cons_succ, Nat.reduceAdd]
  apply Marks.Lex.exact [] (.int .i64 (st.length : Int)) (by kernel_rfl)
  · intro m' u W hm hcl hJ _
    have h9 : m' 9 = false := by
      cases hc : m' 9 with
      | false => rfl
      | true => have := (hJ.tk hc).1; rw [hm] at this; cases this
    unfold Marks.one
    go_simp
    refine (left_eq W _ _ _ _ _ (Lib.hid (HSC.out.grew (hJ.pre h9))) HLF).mono ?_
    rintro e w' ⟨rfl, rfl⟩
    exact ⟨_, rfl, trivial, hJ.keep 8 _ (by omega) (by omega) (by omega) (by omega), rfl⟩
  simp only [Act.put, List.setIfInBounds_toArray, List.set_cons_zero, List.set_cons_succ, Nat.reduceAdd]
  apply Marks.Lex.know [] (fun _ _ => True) (by kernel_rfl) (fun _ _ _ _ _ => trivial)
  · intro m' u W hm hcl hJ _
    unfold Marks.one
    go_simp
    refine (takeC W _ _ _ _ _ _ _ (Lib.hid (HSC.out.grew (hJ.pre hm))) HST.out HTK HST3.out).mono ?_
    rintro e w' ⟨v, rfl, hr, _, hc⟩
    exact ⟨_, rfl, trivial, hJ.took hm (hcl 8 (by decide)) HGLT.out v hc hr, trivial⟩
  simp only [Act.put, List.setIfInBounds_toArray, List.set_cons_zero, List.set_cons_succ, Nat.reduceAdd]
  apply Marks.Lex.exact [] _ (by kernel_rfl)
  · intro m' u W hm hcl hJ _
    unfold Marks.one
    go_simp
    exact ⟨trivial, hJ.keep 10 _ (by omega) (by omega) (by omega) (by omega), rfl⟩
  simp only [Act.put, List.setIfInBounds_toArray, List.set_cons_zero, List.set_cons_succ, Nat.reduceAdd]
  apply Marks.Lex.know [] (fun _ _ => True) (by kernel_rfl) (fun _ _ _ _ _ => trivial)
  · intro m' u W hm hcl hJ _
    unfold Marks.one
    go_simp
    exact ⟨trivial, hJ.asg11 (hcl 5 (by decide)), trivial⟩
  simp only [Act.put, List.setIfInBounds_toArray, List.set_cons_zero, List.set_cons_succ, Nat.reduceAdd]
  apply Marks.Lex.know [] (fun _ _ => True) (by kernel_rfl) (fun _ _ _ _ _ => trivial)
  · intro m' u W hm hcl hJ _
    unfold Marks.one
    go_simp
    exact ⟨trivial, hJ.asg12 (hcl 9 (by decide)), trivial⟩
  simp only [Act.put, List.setIfInBounds_toArray, List.set_cons_zero, List.set_cons_succ, Nat.reduceAdd]
  apply Marks.Lex.exact [] _ (by kernel_rfl)
  · intro m' u W hm hcl hJ _
    unfold Marks.one
    go_simp
    exact ⟨trivial, hJ.keep 13 _ (by omega) (by omega) (by omega) (by omega), rfl⟩
  simp only [Act.put, List.setIfInBounds_toArray, List.set_cons_zero, List.set_cons_succ, Nat.reduceAdd]
  apply Marks.Lex.exact [] _ (by kernel_rfl)
  · intro m' u W hm hcl hJ _
    unfold Marks.one
    go_simp
    exact ⟨trivial, hJ.keep 14 _ (by omega) (by omega) (by omega) (by omega), rfl⟩
  simp only [Act.put, List.setIfInBounds_toArray, List.set_cons_zero, List.set_cons_succ, Nat.reduceAdd]
  refine Marks.Lex.done fun m' u W hm hJ _ => ?_
  obtain ⟨gv, e5, hob, hgv⟩ := hJ.bx (hm 5 (by omega))
  have e11 := (hJ.a11 (hm 11 (by omega))).2
  have e12 := (hJ.a12 (hm 12 (by omega))).2
  have htk := (hJ.tk (hm 9 (by omega))).2
  rw [e5] at e11
  rw [e11, e12]
  obtain ⟨v9, hv9⟩ : ∃ v9, u 9 = v9 := ⟨_, rfl⟩
  rw [hv9] at htk e12 ⊢
  have hG : Grew wb W := grew_chg HG2.out hJ.post HSZ.out.1
  obtain ⟨gs', ep, hws⟩ := HSC.out.made rfl
  cases ep
  obtain ⟨_, _, _, vs, hblk, hrs⟩ := hws
  obtain ⟨As, cs, rfl, _⟩ := id hrs
  have hbs := bs_chg HBS.out hJ.post HBBL.out.1 (scan_cells hblk)
  have hgv2 : wb.heap.size ≤ gv := Nat.le_trans HG2.out.size hgv
  have hds := (DS.addBoth HDB.out hG .nilFunc ((rd_off htk (vault_cells hob)).mono fun b hb => ⟨Nat.le_trans HG2.out.size hb.1, hb.2⟩) hgv2 hob).sub (V' := (.nilFunc, Cont.blk gv (VO none g q base false)) :: (v9, Cont.bytes st) :: V) fun p hp => by
    simp only [List.mem_cons] at hp ⊢
    rcases hp with hp | hp | hp
    · exact .inl hp
    · exact .inr (.inl hp)
    · exact .inr (.inr (.inr (.inr hp)))
  have HDE := Lib.hid hds
  have HBE := Lib.hid hbs
  have HYB : Hid (y.heap.size ≤ bb) := Lib.hid (by have := HYW.out; have := HBBL.out.2; omega)
  have HYG : Hid (y.heap.size ≤ gv) := Lib.hid (by have := HYW.out; omega)
  clear hm hJ e5 e11 e12 htk hv9 hG hblk hrs hob hbs hds hgv2 hgv
  go_wp2
  go_returns
  exact OPD.mk' gv v9 vr bb rfl HDE.out HBE.out HYB.out HYG.out
end Go.Proofs.Ytbnicphegbdfnaa.VF
namespace Go.Proofs.Ytbnicphegbdfnaa.VG
set_option maxRecDepth 100000
open Go Go.RowKit Go.Proofs.Ytbnicphegbdfnaa Go.Proofs.Ytbnicphegbdfnaa.Facts Go.Proofs.Ytbnicphegbdfnaa.Bytes Go.Proofs.Ytbnicphegbdfnaa.DKeep Go.Proofs.Ytbnicphegbdfnaa.DSmall Go.Proofs.Ytbnicphegbdfnaa.Puts Go.Proofs.Ytbnicphegbdfnaa.Scan Go.Proofs.Ytbnicphegbdfnaa.Take Go.Proofs.Ytbnicphegbdfnaa.Nums Go.Proofs.Ytbnicphegbdfnaa.SPure Go.Proofs.Ytbnicphegbdfnaa.SOpen Go.Proofs.Ytbnicphegbdfnaa.Rscan Go.Proofs.Ytbnicphegbdfnaa.JA Go.Proofs.Ytbnicphegbdfnaa.JB Go.Proofs.Ytbnicphegbdfnaa.JC Go.Proofs.Ytbnicphegbdfnaa.JD Go.Proofs.Ytbnicphegbdfnaa.JE Go.Proofs.Ytbnicphegbdfnaa.JF Go.Proofs.Ytbnicphegbdfnaa.JH Go.Proofs.Ytbnicphegbdfnaa.JQ Go.Proofs.Ytbnicphegbdfnaa.AP Go.Proofs.Ytbnicphegbdfnaa.AQ Go.Proofs.Ytbnicphegbdfnaa.AA Go.Proofs.Ytbnicphegbdfnaa.AW Go.Proofs.Ytbnicphegbdfnaa.AV Go.Proofs.Ytbnicphegbdfnaa.AC Go.Proofs.Ytbnicphegbdfnaa.DS Go.Proofs.Ytbnicphegbdfnaa.AU Go.Proofs.Ytbnicphegbdfnaa.SP Go.Proofs.Ytbnicphegbdfnaa.SN Go.Proofs.Ytbnicphegbdfnaa.SB Go.Proofs.Ytbnicphegbdfnaa.SC Go.Proofs.Ytbnicphegbdfnaa.VA Go.Proofs.Ytbnicphegbdfnaa.VB Go.Proofs.Ytbnicphegbdfnaa.VC Go.Proofs.Ytbnicphegbdfnaa.VD Go.Proofs.Ytbnicphegbdfnaa.VE Go.Proofs.Ytbnicphegbdfnaa.VF
theorem need_zero (w : World) : Calls Try.prog 83 #[.agg #[.int .i64 0, .int .i64 0, .int .i64 0]] w fun e w' => e = .returned (.int .i64 0) ∧ Grew w w' := by
  go_enter Try.func83, Try.ntmps83
  go_wp2
  go_ret
  exact ⟨rfl, by unfold Grew; go_grown⟩
theorem commit_nil (w : World) (v : Value) : Calls Try.prog 50 #[.pointer none, v] w fun e w' => e = .returned (.int .i64 11) ∧ w = w' := by
  go_enter Try.func50, Try.ntmps50
  go_wp2_with fail
  refine (vmade_nil w).mono ?_
  rintro e w' ⟨rfl, rfl⟩
  go_wp2
  go_ret
  exact ⟨rfl, rfl⟩
theorem left_nil (w : World) : Calls Try.prog 84 #[.pointer none] w fun e w' => e = .returned (.int .i64 0) ∧ w = w' := by
  go_enter Try.func84, Try.ntmps84
  go_wp2_with fail
  refine (vmade_nil w).mono ?_
  rintro e w' ⟨rfl, rfl⟩
  go_wp2
  go_ret
  exact ⟨rfl, rfl⟩
theorem ds_left {w y : World} {g gv gj : Nat} {d : Pd} {V : List (Value × Cont)} {q : Pl} {base : Nat} {j : Jr} (n : Int) (h : DS w g d ((.nilFunc, Cont.blk gv (VO (some gj) g q base false)) :: (.nilFunc, Cont.blk gj (JO g j)) :: V) y) (hk : JK j) (hn : (j.places : Int) - (j.used : Int) = n) :
    Calls Try.prog 84 #[.pointer (some ⟨gv, 0, none⟩)] y fun e z => e = .returned (.int .i64 n) ∧ Grew y z := by
  have hv := h.at_ (x := .nilFunc) (b := gv) (List.mem_cons_self ..)
  have HM := Lib.hid (vmade hv)
  have c0 := (vcells hv).c0
  unfold VP at c0
  simp only [Option.map_some] at c0
  have hjl : JL y gj g j := h.at_ (x := .nilFunc) (b := gj) (List.mem_cons_of_mem _ (List.mem_cons_self ..))
  have HL := Lib.hid (jleft_any y gj g j hjl hk)
  rw [hn] at HL
  clear h hv hjl hk hn
  go_enter Try.func84, Try.ntmps84
  go_wp2_with fail
  refine HM.out.mono ?_
  rintro e w' ⟨rfl, rfl⟩
  go_wp2_with fail
  refine HL.out.mono ?_
  rintro e w1 ⟨rfl, hg⟩
  have HG := Lib.hid hg
  clear hg
  go_wp2
  go_ret
  exact ⟨rfl, HG.out⟩
theorem SK.congr {L L' : List Sec} {f m n c s : Nat} {b : List UInt8} (h : SK L f m n c s b) (hl : L'.length = L.length) (hev : Ev L') (he : ∀ a, f ≤ a → a < f + 2 * m → L'[a]? = L[a]?) : SK L' f m n c s b := by
  have hc2 := h.c2
  have e : ∀ k, k < 2 → ard L' (f + k * m) m = ard L (f + k * m) m := fun k hk => ard_congr _ _ _ _ fun i hi => he _ (by omega) (by
    rcases (show k = 0 ∨ k = 1 by omega) with rfl | rfl
    · simp; omega
    · simp; omega)
  refine ⟨hev, by rw [hl]; exact h.len, h.one, h.c2, fun i hi => by rw [he (f + i) (by omega) (by omega)]; exact h.top i hi, by rw [e c hc2]; exact h.is, by rw [e (1 - c) (by omega)]; exact h.other⟩
theorem begin_from (dj : Pd) (n f m : Nat) (b : List UInt8) (hn : f + 2 * m ≤ n) (hm : 1 ≤ m) (hz : zw (f + m) m dj = ((zw (f + m) m dj).1, 0)) (hfl : DFlush.flushed (zw (f + m) m dj).1 = (calm (DNew.blank n), 0)) (hno : ard (DNew.blank n) (f + m) m = (0, [], 2)) (hb : b.length + 4 ≤ 108 * m) (hb2 : b.length < 4294967296) :
    beginP dj f m b = (calm (sets (DNew.blank n) (ws f (fun _ => 1) m 0 (recB b))), 0) ∧ SK (sets (DNew.blank n) (ws f (fun _ => 1) m 0 (recB b))) f m 1 0 1 b := by
  refine ⟨?_, sk_begin _ f m b (Ev.blank n) (by rw [DNew.blank_length]; exact hn) hm (fun i _ => blank_le n (f + i)) hno hb hb2⟩
  unfold beginP
  rw [hz, if_pos rfl, hfl, if_pos rfl]
  exact keep_calm _ f m 1 b (Ev.blank n) (by rw [DNew.blank_length]; omega)
def P1 : Pl := ⟨1, 2, 1⟩
theorem pk1 : POK P1 2 := ⟨by decide, by decide, by decide, by decide, by decide, rfl⟩
def d0 : Pd := DNew.fresh 4
def dj : Pd := (zw 2 2 d0).1
theorem Zj : zw (2 * P1.a) 2 d0 = (dj, 0) := by kernel_rfl
def L1 : List Sec := sets (DNew.blank 4) (ws 0 (fun _ => 1) 1 0 (recB (keptB 1 [97])))
theorem z1 : zw (0 + 1) 1 dj = ((zw (0 + 1) 1 dj).1, 0) := by kernel_rfl
theorem f1 : DFlush.flushed (zw (0 + 1) 1 dj).1 = (calm (DNew.blank 4), 0) := by kernel_rfl
theorem a1 : ard (DNew.blank 4) (0 + 1) 1 = (0, [], 2) := by kernel_rfl
theorem B1 : beginP dj 0 1 (keptB 1 [97]) = (calm L1, 0) ∧ SK L1 0 1 1 0 1 (keptB 1 [97]) := begin_from dj 4 0 1 (keptB 1 [97]) (by omega) (by omega) z1 f1 a1 (by decide) (by decide)
def L2 : List Sec := (nextP L1 0 1 0 1 (keptB 3 [99]) (-1)).1.last
theorem N1 : nextP L1 0 1 0 1 (keptB 3 [99]) (-1) = (calm L2, 0) := by kernel_rfl
theorem n1 : anw L1 0 (2 * 1) = 1 := by kernel_rfl
theorem K2 : SK L2 0 1 2 1 2 (keptB 3 [99]) := by
  rcases next_any L1 0 1 1 0 1 (keptB 1 [97]) (keptB 3 [99]) (-1) B1.2 (by decide) (by decide) (by decide) (by decide) with ⟨_, L', h1, h2, _⟩ | ⟨h, _⟩
  · rw [N1] at h1
    injection h1 with h1 _
    have e : L2 = L' := congrArg Pd.last h1
    rw [e]
    exact h2
  · omega
def L3 : List Sec := (japp ⟨2, 2, 1, 0, 3⟩ (calm L2) [120]).2.1.last
theorem C1 : japp ⟨2, 2, 1, 0, 3⟩ (calm L2) [120] = (⟨2, 2, 1, 1, 3⟩, calm L3, 0) := by kernel_rfl
theorem l1 : L1.length = 4 := by kernel_rfl
theorem l2 : L2.length = 4 := by kernel_rfl
theorem l3 : L3.length = 4 := by kernel_rfl
theorem e30 : L3[0]? = L2[0]? := by kernel_rfl
theorem e31 : L3[1]? = L2[1]? := by kernel_rfl
theorem e3l : L3.all (fun s => s.length == 128) = true := by kernel_rfl
theorem ev3 : Ev L3 := fun a s h => by
  have := List.all_eq_true.1 e3l s (List.mem_of_getElem? h)
  simpa using this
theorem K3 : SK L3 0 1 2 1 2 (keptB 3 [99]) := SK.congr K2 (by rw [l3, l2]) ev3 fun a _ ha => by
  rcases (show a = 0 ∨ a = 1 by omega) with rfl | rfl
  · exact e30
  · exact e31
theorem S1 : jscan L1 (2 * P1.a) 1 P1.e P1.p 0 [] = [] := by kernel_rfl
theorem S3 : jscan L3 (2 * P1.a) 3 P1.e P1.p 0 [] = [[120]] := by kernel_rfl
theorem J2 : jrefus (calm L2) ((2 * P1.a : Nat) : Int) (P1.p : Int) (P1.e : Int) 3 = 0 := by kernel_rfl
theorem SR : srefus dj ((0 : Nat) : Int) (P1.a : Int) = 0 := by kernel_rfl
theorem AR1 : arefus (calm (DNew.blank 4)) ((0 : Nat) : Int) (P1.a : Int) = 0 := by kernel_rfl
theorem jk3 (m : Nat) (h : m ≤ 2) : JK ⟨2, 2, 1, m, 3⟩ := ⟨by show 1 ≤ 2; omega, by show 2 ≤ 16; omega, by show 1 ≤ 1; omega, by show 1 ≤ 16384; omega, by show 2 ≤ 16384; omega, h, by show 3 + 2 * 1 ≤ 4611686018427387904; omega⟩
set_option maxHeartbeats 4000000 in
theorem alive_any (w : World) : Calls Try.prog 46 #[] w fun e w' => e = .returned (.bool true) ∧ Grew w w' := by
  go_enter Try.func46, Try.ntmps46
  go_upto_region 2 with fail
  have hbp : BX (w.alloc (Obj.cells #[.int .i64 1, .int .i64 2, .int .i64 1] 90)) w.heap.size P1 := heap_alloc_new w _
  have hgw : Grew w (w.alloc (Obj.cells #[.int .i64 1, .int .i64 2, .int .i64 1] 90)) := (Below.refl _ w).alloc (Nat.le_refl _) _
  have HP0 := Lib.hid hbp.cells.1
  have HP1 := Lib.hid hbp.cells.2.1
  have HP2 := Lib.hid hbp.cells.2.2
  have HGW := Lib.hid hgw
  clear hbp hgw
  generalize w.alloc (Obj.cells #[.int .i64 1, .int .i64 2, .int .i64 1] 90) = W0 at *
  generalize w.heap.size = BP at *
  go_wp2_with fail
  refine (ds_new W0 4 4 rfl (by omega) (by omega)).mono ?_
  rintro e w1 ⟨g, rfl, hd⟩
  have HD : Hid (DS W0 g d0 [] w1) := Lib.hid hd
  clear hd
  have c0 : w1.cell? ⟨BP, 0, none⟩ = some (.int .i64 1) := DWrite.cellB HD.out.gr HP0.out
  have c1 : w1.cell? ⟨BP, 1, none⟩ = some (.int .i64 2) := DWrite.cellB HD.out.gr HP1.out
  have c2 : w1.cell? ⟨BP, 2, none⟩ = some (.int .i64 1) := DWrite.cellB HD.out.gr HP2.out
  go_wp2_with fail
  refine (need_any P1 2 pk1 _).mono ?_
  rintro e w2 ⟨rfl, hg⟩
  have HD2 := Lib.hid (HD.out.grew hg)
  clear hg HD c0 c1 c2
  have c0 : w2.cell? ⟨BP, 0, none⟩ = some (.int .i64 1) := DWrite.cellB HD2.out.gr HP0.out
  have c1 : w2.cell? ⟨BP, 1, none⟩ = some (.int .i64 2) := DWrite.cellB HD2.out.gr HP1.out
  have c2 : w2.cell? ⟨BP, 2, none⟩ = some (.int .i64 1) := DWrite.cellB HD2.out.gr HP2.out
  have kc := fun (w : World) (C : Array Value) (n c : Nat) => Lib.run_convert_bytes_const (P := Try.prog) w 23 5 C n c Try.underlying23 Try.underlying5
  go_wp2_with fail
  have hg1 : Grew w2 (w2.alloc (.cells #[.int .u8 97] 5 (1, 2))) := (Below.refl _ w2).alloc (Nat.le_refl _) _
  refine (ds_format (HD2.out.add hg1 ((JG.lit_rd w2 [97] (1, 2) (by decide)).mono fun b hb => by omega)) P1 2 pk1 (by decide) rfl (by decide) _ [97] (List.mem_cons_self ..) (by decide) Zj SR (fun _ _ => by show arefus (DFlush.flushed (zw (0 + 1) 1 dj).1).1 _ _ = 0 ∧ (DFlush.flushed (zw (0 + 1) 1 dj).1).1.waits.length ≤ 100000; rw [f1]; exact ⟨AR1, Nat.zero_le _⟩) (calm L1) 0 B1.1).mono ?_
  rintro e w3 ⟨rfl, hd⟩
  have HD3 := Lib.hid hd
  clear hd HD2 hg1 kc c0 c1 c2
  have c0 : w3.cell? ⟨BP, 0, none⟩ = some (.int .i64 1) := DWrite.cellB HD3.out.gr HP0.out
  have c1 : w3.cell? ⟨BP, 1, none⟩ = some (.int .i64 2) := DWrite.cellB HD3.out.gr HP1.out
  have c2 : w3.cell? ⟨BP, 2, none⟩ = some (.int .i64 1) := DWrite.cellB HD3.out.gr HP2.out
  go_wp2_with fail
  refine (ds_open HD3.out P1 2 pk1 (by rw [l1]; decide) 1 0 1 1 [97] B1.2 (by decide) (by decide) (by decide) [] S1).mono ?_
  rintro e w4 ⟨gv, vst, vr, bb, rfl, hd, hbs, _, hgv⟩
  obtain ⟨A4, c4, rfl, _⟩ := id (hd.rd (v := vst) (l := [97]) (by simp))
  obtain ⟨ws4, ho4, _⟩ := id hbs
  obtain ⟨A5, c5, rfl⟩ := own_sl ho4
  have HD4 := Lib.hid hd
  have HBV : Hid (∀ V : List (Value × Cont), (∀ p ∈ V, ∃ l, p.2 = Cont.bytes l) → ¬ BL V gv) := Lib.hid (fun V hV hbl => by
    obtain ⟨x, o, hm⟩ := hbl
    obtain ⟨l, e⟩ := hV _ hm
    cases e)
  have ks := Nums.conv22 (hd.rd (v := .slice A4 1 c4) (l := [97]) (by simp))
  clear hd HD3 hbs ho4 hgv c0 c1 c2
  have kc := fun (w : World) (C : Array Value) (n c : Nat) => Lib.run_convert_bytes_const (P := Try.prog) w 23 5 C n c Try.underlying23 Try.underlying5
  go_wp2_with fail
  refine (ds_commit_no (HD4.out.grew ((Below.refl _ w4).alloc (Nat.le_refl _) _)) _).mono ?_
  rintro e w' ⟨rfl, rfl⟩
  clear ks
  have HD5 := Lib.hid (HD4.out.grew (z := w4.alloc (.cells #[.int .u8 120] 5 (1, 2))) ((Below.refl _ w4).alloc (Nat.le_refl _) _))
  clear HD4
  generalize w4.alloc (.cells #[.int .u8 120] 5 (1, 2)) = w5 at *
  go_wp2_with fail
  have hg5 : Grew w5 (w5.alloc (.cells #[.int .u8 99] 5 (1, 2))) := (Below.refl _ w5).alloc (Nat.le_refl _) _
  have hgl : gv < w5.heap.size := (Array.getElem?_eq_some_iff.1 (HD5.out.at_ (x := .nilFunc) (b := gv) (List.mem_cons_self ..))).1
  have HGL := Lib.hid hgl
  have hd5 := (HD5.out.add hg5 ((JG.lit_rd w5 [99] (1, 2) (by decide)).mono fun b hb => (by omega : w5.heap.size ≤ b))).sub (V' := [(.nilFunc, Cont.blk gv (VO none g P1 1 false)), (.slice (some ⟨w5.heap.size, 0, none⟩) 1 1, Cont.bytes [99])]) (by
    intro p hp
    simp only [List.mem_cons, List.not_mem_nil, or_false] at hp ⊢
    rcases hp with hp | hp
    · exact .inr (.inl hp)
    · exact .inl hp)
  refine (ds_checkpoint none P1 2 pk1 1 hd5 (HBV.out _ (by intro p hp; simp at hp; exact ⟨_, by rw [hp]⟩)) 1 0 1 (keptB 1 [97]) B1.2 n1 (by rw [l1]; decide) (by decide) _ [99] (List.mem_cons_self ..) (by decide) (calm L2) 0 (by decide) (by decide) N1 (fun _ => J2)).mono ?_
  rintro e w6 ⟨rfl, ⟨h0, _⟩ | ⟨_, gj, hd, hgj⟩⟩
  · exact absurd rfl h0
  have HD6 : Hid (DS W0 g (calm L2) ((.nilFunc, Cont.blk gv (VO (some gj) g P1 3 false)) :: (.nilFunc, Cont.blk gj (JO g ⟨2, 2, 1, 0, 3⟩)) :: [(.slice (some ⟨w5.heap.size, 0, none⟩) 1 1, Cont.bytes [99])]) w6) := Lib.hid hd
  have HNE : Hid (gv ≠ gj) := Lib.hid (fun e => by have := HGL.out; simp at hgj; omega)
  have HBJ : Hid (∀ V : List (Value × Cont), (∀ p ∈ V, ∃ l, p.2 = Cont.bytes l) → ¬ BL V gj) := Lib.hid (fun V hV hbl => by
    obtain ⟨x, o, hm⟩ := hbl
    obtain ⟨l, e⟩ := hV _ hm
    cases e)
  clear hd hgj hd5 hg5 hgl HD5
  go_wp2_with fail
  have hg6 : Grew w6 (w6.alloc (.cells #[.int .u8 120] 5 (1, 2))) := (Below.refl _ w6).alloc (Nat.le_refl _) _
  have hd6 := (HD6.out.add hg6 ((JG.lit_rd w6 [120] (1, 2) (by decide)).mono fun b hb => (by omega : w6.heap.size ≤ b))).sub (V' := (.nilFunc, Cont.blk gv (VO (some gj) g P1 3 false)) :: (.nilFunc, Cont.blk gj (JO g ⟨2, 2, 1, 0, 3⟩)) :: [(.slice (some ⟨w6.heap.size, 0, none⟩) 1 1, Cont.bytes [120])]) (by
    intro p hp
    simp only [List.mem_cons, List.not_mem_nil, or_false] at hp ⊢
    rcases hp with hp | hp | hp
    · exact .inr (.inl hp)
    · exact .inr (.inr (.inl hp))
    · exact .inl hp)
  refine (ds_commit hd6 (HBJ.out _ (by intro p hp; simp at hp; exact ⟨_, by rw [hp]⟩)) (HBV.out _ (by intro p hp; simp at hp; exact ⟨_, by rw [hp]⟩)) HNE.out (jk3 0 (by omega)) (by decide) (Nat.zero_le _) _ [120] (hd6.rd (by simp)) C1).mono ?_
  rintro e w7 ⟨rfl, hd⟩
  rw [if_neg (by decide)] at hd
  have HD7 := Lib.hid hd
  clear hd hd6 hg6 HD6 kc
  go_wp2_with fail
  refine (ds_left 1 HD7.out (jk3 1 (by omega)) (by decide)).mono ?_
  rintro e w8 ⟨rfl, hg⟩
  have HD8 : Hid (DS W0 g (calm L3) [] w8) := Lib.hid ((HD7.out.grew hg).sub (by intro p hp; cases hp))
  clear hg HD7
  have c0 : w8.cell? ⟨BP, 0, none⟩ = some (.int .i64 1) := DWrite.cellB HD8.out.gr HP0.out
  have c1 : w8.cell? ⟨BP, 1, none⟩ = some (.int .i64 2) := DWrite.cellB HD8.out.gr HP1.out
  have c2 : w8.cell? ⟨BP, 2, none⟩ = some (.int .i64 1) := DWrite.cellB HD8.out.gr HP2.out
  go_wp2_with fail
  refine (ds_open HD8.out P1 2 pk1 (by rw [l3]; decide) 2 1 2 3 [99] K3 (by decide) (by decide) (by decide) [[120]] S3).mono ?_
  rintro e w9 ⟨gv2, vst2, vr2, bb2, rfl, hd, hbs, _, _⟩
  obtain ⟨A9, c9, rfl, _⟩ := id (hd.rd (v := vst2) (l := [99]) (by simp))
  obtain ⟨Ar, cr, rfl, he⟩ := JS.RR.of_bs hbs
  obtain ⟨adc, Ax, cx, rfl, hcx, hrx⟩ := he 0 [120] rfl
  have HD9 := Lib.hid hd
  have HS9 := Lib.hid (hd.rd (v := .slice A9 1 c9) (l := [99]) (by simp))
  have HCX := Lib.hid hcx
  have HRX := Lib.hid hrx
  clear hd hbs he hcx hrx HD8 c0 c1 c2
  have c0 : w9.cell? ⟨BP, 0, none⟩ = some (.int .i64 1) := DWrite.cellB HD9.out.gr HP0.out
  have c1 : w9.cell? ⟨BP, 1, none⟩ = some (.int .i64 2) := DWrite.cellB HD9.out.gr HP1.out
  have c2 : w9.cell? ⟨BP, 2, none⟩ = some (.int .i64 1) := DWrite.cellB HD9.out.gr HP2.out
  go_wp2_with fail
  refine (VB.room_any P1 2 pk1 _).mono ?_
  rintro e wA ⟨rfl, hg⟩
  have HGA := Lib.hid (HD9.out.gr.trans hg)
  have ks := Nums.conv22 (HS9.out.grew hg)
  have kr := Nums.conv22 (v := .slice Ax 1 cx) (l := [120]) (HRX.out.grew hg)
  have kx : wA.cell? adc = some (.slice Ax 1 cx) := DWrite.cellB hg HCX.out
  clear hg c0 c1 c2
  go_wp2_with fail
  refine (commit_nil wA _).mono ?_
  rintro e w' ⟨rfl, rfl⟩
  go_wp2_with fail
  refine (left_nil wA).mono ?_
  rintro e w' ⟨rfl, rfl⟩
  go_wp2_with fail
  refine (need_zero _).mono ?_
  rintro e wB ⟨rfl, hg⟩
  have HGB := Lib.hid (HGW.out.trans (HGA.out.trans hg))
  clear hg ks kr kx
  go_wp2
  go_ret
  exact ⟨rfl, HGB.out⟩
end Go.Proofs.Ytbnicphegbdfnaa.VG
namespace Go.Proofs.Ytbnicphegbdfnaa.VH
set_option maxRecDepth 100000
open Go Go.RowKit Go.Proofs.Ytbnicphegbdfnaa Go.Proofs.Ytbnicphegbdfnaa.Facts Go.Proofs.Ytbnicphegbdfnaa.Bytes Go.Proofs.Ytbnicphegbdfnaa.DKeep Go.Proofs.Ytbnicphegbdfnaa.DSmall Go.Proofs.Ytbnicphegbdfnaa.Puts Go.Proofs.Ytbnicphegbdfnaa.Scan Go.Proofs.Ytbnicphegbdfnaa.SPure Go.Proofs.Ytbnicphegbdfnaa.JA Go.Proofs.Ytbnicphegbdfnaa.JB Go.Proofs.Ytbnicphegbdfnaa.JD Go.Proofs.Ytbnicphegbdfnaa.JE Go.Proofs.Ytbnicphegbdfnaa.JF Go.Proofs.Ytbnicphegbdfnaa.JH Go.Proofs.Ytbnicphegbdfnaa.JQ Go.Proofs.Ytbnicphegbdfnaa.AP Go.Proofs.Ytbnicphegbdfnaa.AQ Go.Proofs.Ytbnicphegbdfnaa.AA Go.Proofs.Ytbnicphegbdfnaa.AW Go.Proofs.Ytbnicphegbdfnaa.AV Go.Proofs.Ytbnicphegbdfnaa.AC Go.Proofs.Ytbnicphegbdfnaa.DS Go.Proofs.Ytbnicphegbdfnaa.AU Go.Proofs.Ytbnicphegbdfnaa.SP Go.Proofs.Ytbnicphegbdfnaa.SN Go.Proofs.Ytbnicphegbdfnaa.SB Go.Proofs.Ytbnicphegbdfnaa.SC Go.Proofs.Ytbnicphegbdfnaa.VA Go.Proofs.Ytbnicphegbdfnaa.VB Go.Proofs.Ytbnicphegbdfnaa.VC Go.Proofs.Ytbnicphegbdfnaa.VD Go.Proofs.Ytbnicphegbdfnaa.VE Go.Proofs.Ytbnicphegbdfnaa.VF Go.Proofs.Ytbnicphegbdfnaa.VG
/-- What a first record of a journal leaves. -/
theorem japp_go (first places e base : Nat) (L : List Sec) (b : List UInt8) (f : Int) (hev : Ev L) (hfit : first + e ≤ L.length) (he : 1 ≤ e) (hp : 0 < places) (hb : b.length + 4 ≤ 108 * e) (hf : -1 ≤ f) :
    ((f = -1 ∨ (e : Int) + 1 ≤ f) ∧ ∃ L', japp ⟨first, places, e, 0, base⟩ (calmF L f) b = (⟨first, places, e, 1, base⟩, calmF L' (if f = -1 then -1 else f - (e : Int) - 1), 0)) ∨
    (0 ≤ f ∧ f < (e : Int) + 1 ∧ ∃ d', japp ⟨first, places, e, 0, base⟩ (calmF L f) b = (⟨first, places, e, 0, base⟩, d', 15) ∧ d'.off = true) := by
  have hw := ws_wq L first (fun i => base + i) e (recB b) hev hfit
  unfold japp
  simp only
  rw [if_neg (by omega), if_neg (by omega), Nat.zero_mul, jw_gw]
  unfold calmF
  rcases gw_any first (fun i => base + i) L e 0 (recB b) L [] f hf (by omega) with ⟨h1, h2⟩ | ⟨h1, h2, k, h3, h4⟩
  · simp only [h2]
    rw [if_pos trivial, List.nil_append]
    by_cases h0 : f = (e : Int)
    · right
      have e0 : (if f = -1 then (-1 : Int) else f - (e : Int)) = 0 := by rw [if_neg (by omega)]; omega
      rw [e0, flushed_dead]
      exact ⟨by omega, by omega, _, rfl, rfl⟩
    · left
      rw [flushed_sets L _ hw _ (by split <;> omega)]
      refine ⟨by omega, sets L (ws first (fun i => base + i) e 0 (recB b)), ?_⟩
      rw [if_pos rfl]
      unfold calmF
      congr 3
      by_cases h5 : f = -1
      · simp [h5]
      · simp only [if_neg h5]
        rw [if_neg (by omega)]
  · right
    simp only [h4]
    rw [if_neg (show ¬ (15 : Int) = 0 by decide), List.nil_append]
    exact ⟨h1, by omega, _, rfl, rfl⟩
def P2 : Pl := ⟨2, 3, 2⟩
theorem pk2 : POK P2 6 := ⟨by decide, by decide, by decide, by decide, by decide, rfl⟩
def d0 : Pd := DNew.fresh 10
def dj : Pd := (zw 4 6 d0).1
theorem Zj : zw (2 * P2.a) 6 d0 = (dj, 0) := by kernel_rfl
theorem z1 : zw (0 + 2) 2 dj = ((zw (0 + 2) 2 dj).1, 0) := by kernel_rfl
theorem f1 : DFlush.flushed (zw (0 + 2) 2 dj).1 = (calm (DNew.blank 10), 0) := by kernel_rfl
theorem a1 : ard (DNew.blank 10) (0 + 2) 2 = (0, [], 2) := by kernel_rfl
theorem SR : srefus dj ((0 : Nat) : Int) (P2.a : Int) = 0 := by kernel_rfl
theorem AR1 : arefus (calm (DNew.blank 10)) ((0 : Nat) : Int) (P2.a : Int) = 0 := by kernel_rfl
def LO (o : List UInt8) : List Sec := sets (DNew.blank 10) (ws 0 (fun _ => 1) 2 0 (recB (keptB 1 o)))
theorem lo_length (o : List UInt8) : (LO o).length = 10 := by unfold LO; rw [sets_length, DNew.blank_length]
theorem BO (o : List UInt8) (ho : o.length ≤ 200) : beginP dj 0 P2.a (keptB 1 o) = (calm (LO o), 0) ∧ SK (LO o) 0 P2.a 1 0 1 (keptB 1 o) :=
  begin_from dj 10 0 2 (keptB 1 o) (by omega) (by omega) z1 f1 a1 (by rw [keptB_length]; omega) (by rw [keptB_length]; omega)
/-- A journal may be. -/
theorem jref (L : List Sec) (f : Int) (hl : L.length = 10) : jrefus (calmF L f) ((2 * P2.a : Nat) : Int) (P2.p : Int) (P2.e : Int) 7 = 0 := by
  unfold jrefus calmF P2
  simp only [hl]
  rfl
theorem jk7 (m : Nat) (h : m ≤ 3) : JK ⟨4, 3, 2, m, 7⟩ := ⟨by show 1 ≤ 3; omega, by show 3 ≤ 16; omega, by show 1 ≤ 2; omega, by show 2 ≤ 16384; omega, by show 4 ≤ 16384; omega, h, by show 7 + 3 * 2 ≤ 4611686018427387904; omega⟩
theorem steps_long0 (w : World) (A B C : Option Addr) (cA cB cC : Nat) (st re o : List UInt8) (h : 200 < st.length) :
    Calls Try.prog 11 #[.slice A st.length cA, .slice B re.length cB, .slice C o.length cC] w fun e w' => e = .returned (.bool true) ∧ Grew w w' := by
  have h' : (200 : Int) < (st.length : Int) := by omega
  clear h
  go_enter Try.func11, Try.ntmps11
  go_upto_region 2 with fail
  have hbp : BX (w.alloc (Obj.cells #[.int .i64 2, .int .i64 3, .int .i64 2] 90)) w.heap.size P2 := heap_alloc_new w _
  have hgw : Grew w (w.alloc (Obj.cells #[.int .i64 2, .int .i64 3, .int .i64 2] 90)) := (Below.refl _ w).alloc (Nat.le_refl _) _
  have HP0 := Lib.hid hbp.cells.1
  have HP1 := Lib.hid hbp.cells.2.1
  have HP2 := Lib.hid hbp.cells.2.2
  have HGW := Lib.hid hgw
  clear hbp hgw
  generalize w.alloc (Obj.cells #[.int .i64 2, .int .i64 3, .int .i64 2] 90) = W0 at *
  obtain ⟨BP, hBP⟩ : ∃ BP, w.heap.size = BP := ⟨_, rfl⟩
  rw [hBP] at HP0 HP1 HP2 ⊢
  clear hBP
  go_wp2_with fail
  refine (VG.alive_any _).mono ?_
  rintro e w2 ⟨rfl, hg⟩
  have HG2 := Lib.hid (HGW.out.trans hg)
  clear hg
  go_wp2
  go_ret
  exact ⟨rfl, HG2.out⟩
theorem steps_long1 (w : World) (A B C : Option Addr) (cA cB cC : Nat) (st re o : List UInt8) (h0 : st.length ≤ 200) (h : 200 < re.length) :
    Calls Try.prog 11 #[.slice A st.length cA, .slice B re.length cB, .slice C o.length cC] w fun e w' => e = .returned (.bool true) ∧ Grew w w' := by
  have h' : (200 : Int) < (re.length : Int) := by omega
  clear h
  have g0 : ¬ (200 : Int) < (st.length : Int) := by omega
  clear h0
  go_enter Try.func11, Try.ntmps11
  go_upto_region 2 with fail
  have hbp : BX (w.alloc (Obj.cells #[.int .i64 2, .int .i64 3, .int .i64 2] 90)) w.heap.size P2 := heap_alloc_new w _
  have hgw : Grew w (w.alloc (Obj.cells #[.int .i64 2, .int .i64 3, .int .i64 2] 90)) := (Below.refl _ w).alloc (Nat.le_refl _) _
  have HP0 := Lib.hid hbp.cells.1
  have HP1 := Lib.hid hbp.cells.2.1
  have HP2 := Lib.hid hbp.cells.2.2
  have HGW := Lib.hid hgw
  clear hbp hgw
  generalize w.alloc (Obj.cells #[.int .i64 2, .int .i64 3, .int .i64 2] 90) = W0 at *
  obtain ⟨BP, hBP⟩ : ∃ BP, w.heap.size = BP := ⟨_, rfl⟩
  rw [hBP] at HP0 HP1 HP2 ⊢
  clear hBP
  go_wp2_with fail
  refine (VG.alive_any _).mono ?_
  rintro e w2 ⟨rfl, hg⟩
  have HG2 := Lib.hid (HGW.out.trans hg)
  clear hg
  go_wp2
  go_ret
  exact ⟨rfl, HG2.out⟩
theorem steps_long2 (w : World) (A B C : Option Addr) (cA cB cC : Nat) (st re o : List UInt8) (h0 : st.length ≤ 200) (h1 : re.length ≤ 200) (h : 200 < o.length) :
    Calls Try.prog 11 #[.slice A st.length cA, .slice B re.length cB, .slice C o.length cC] w fun e w' => e = .returned (.bool true) ∧ Grew w w' := by
  have h' : (200 : Int) < (o.length : Int) := by omega
  clear h
  have g0 : ¬ (200 : Int) < (st.length : Int) := by omega
  clear h0
  have g1 : ¬ (200 : Int) < (re.length : Int) := by omega
  clear h1
  go_enter Try.func11, Try.ntmps11
  go_upto_region 2 with fail
  have hbp : BX (w.alloc (Obj.cells #[.int .i64 2, .int .i64 3, .int .i64 2] 90)) w.heap.size P2 := heap_alloc_new w _
  have hgw : Grew w (w.alloc (Obj.cells #[.int .i64 2, .int .i64 3, .int .i64 2] 90)) := (Below.refl _ w).alloc (Nat.le_refl _) _
  have HP0 := Lib.hid hbp.cells.1
  have HP1 := Lib.hid hbp.cells.2.1
  have HP2 := Lib.hid hbp.cells.2.2
  have HGW := Lib.hid hgw
  clear hbp hgw
  generalize w.alloc (Obj.cells #[.int .i64 2, .int .i64 3, .int .i64 2] 90) = W0 at *
  obtain ⟨BP, hBP⟩ : ∃ BP, w.heap.size = BP := ⟨_, rfl⟩
  rw [hBP] at HP0 HP1 HP2 ⊢
  clear hBP
  go_wp2_with fail
  refine (VG.alive_any _).mono ?_
  rintro e w2 ⟨rfl, hg⟩
  have HG2 := Lib.hid (HGW.out.trans hg)
  clear hg
  go_wp2
  go_ret
  exact ⟨rfl, HG2.out⟩
theorem nobl2 (x y : Value) (a b : List UInt8) (c : Nat) : ¬ BL [(x, Cont.bytes a), (y, Cont.bytes b)] c := fun h => by
  obtain ⟨v, o, hm⟩ := h
  simp at hm
set_option maxHeartbeats 8000000 in
theorem steps_main (w : World) (A B C : Option Addr) (cA cB cC : Nat) (st re o : List UInt8) (hls : st.length ≤ 200) (hlr : re.length ≤ 200) (hlo : o.length ≤ 200) (hrs : Rd (fun b => b < w.heap.size) w (.slice A st.length cA) st) (hrr : Rd (fun b => b < w.heap.size) w (.slice B re.length cB) re) (hro : Rd (fun b => b < w.heap.size) w (.slice C o.length cC) o) :
    Calls Try.prog 11 #[.slice A st.length cA, .slice B re.length cB, .slice C o.length cC] w fun e w' => e = .returned (.bool true) ∧ Grew w w' := by
  have g0 : ¬ (200 : Int) < (st.length : Int) := by omega
  have g1 : ¬ (200 : Int) < (re.length : Int) := by omega
  have g2 : ¬ (200 : Int) < (o.length : Int) := by omega
  have HLST := Lib.hid hls
  have HLR := Lib.hid hlr
  have HLO := Lib.hid hlo
  have HRS := Lib.hid hrs
  have HRR := Lib.hid hrr
  have HRO := Lib.hid hro
  clear hls hlr hlo hrs hrr hro
  go_enter Try.func11, Try.ntmps11
  go_upto_region 2 with fail
  have hbp : BX (w.alloc (Obj.cells #[.int .i64 2, .int .i64 3, .int .i64 2] 90)) w.heap.size P2 := heap_alloc_new w _
  have hgw : Grew w (w.alloc (Obj.cells #[.int .i64 2, .int .i64 3, .int .i64 2] 90)) := (Below.refl _ w).alloc (Nat.le_refl _) _
  have HP0 := Lib.hid hbp.cells.1
  have HP1 := Lib.hid hbp.cells.2.1
  have HP2 := Lib.hid hbp.cells.2.2
  have HGW := Lib.hid hgw
  clear hbp hgw
  generalize w.alloc (Obj.cells #[.int .i64 2, .int .i64 3, .int .i64 2] 90) = W0 at *
  obtain ⟨BP, hBP⟩ : ∃ BP, w.heap.size = BP := ⟨_, rfl⟩
  rw [hBP] at HP0 HP1 HP2 ⊢
  clear hBP
  go_wp2
  go_loopg [8, 9, 10, 11, 12, 13, 14, 15, 16] 7 (fun q s8 s9 s10 s11 s12 s13 s14 s15 s16 wx => ∃ (n : Nat), n + q = 7 ∧ s8 = .int .i64 (n : Int) ∧ Hid (Grew W0 wx))
  case atStart => exact ⟨0, rfl, rfl, Lib.hid (Grew.refl _)⟩
  case round =>
    obtain ⟨n, hnq, rfl, HGX⟩ := hrel
    cases gk with
    | zero =>
      have h7 : ¬ (n : Int) < 7 := by omega
      go_wp2_with fail
      refine (VG.alive_any _).mono ?_
      rintro e w2 ⟨rfl, hg⟩
      have HG2 := Lib.hid (HGW.out.trans (HGX.out.trans hg))
      clear hg
      go_wp2
      go_ret
      exact ⟨rfl, HG2.out⟩
    | succ q =>
      have h7 : (n : Int) < 7 := by omega
      have hwi : IntKind.i64.wrap ((n : Int) + 1) = (n : Int) + 1 := IntWalk.i64_in _ (by omega)
      have hga : Grew w wr := HGW.out.trans HGX.out
      have HRS2 := Lib.hid ((HRS.out.grew hga).mono (fun b hb => Nat.lt_of_lt_of_le hb hga.size))
      have HRR2 := Lib.hid ((HRR.out.grew hga).mono (fun b hb => Nat.lt_of_lt_of_le hb hga.size))
      have HRO2 := Lib.hid ((HRO.out.grew hga).mono (fun b hb => Nat.lt_of_lt_of_le hb hga.size))
      clear hga
      go_wp2_with fail
      refine (ds_new wr 10 10 rfl (by omega) (by omega)).mono ?_
      rintro e w1 ⟨g, rfl, hd⟩
      have HD : Hid (DS wr g d0 [] w1) := Lib.hid hd
      have HG1 := Lib.hid (HGX.out.trans hd.gr)
      clear hd
      have c0 : w1.cell? ⟨BP, 0, none⟩ = some (.int .i64 2) := DWrite.cellB HG1.out HP0.out
      have c1 : w1.cell? ⟨BP, 1, none⟩ = some (.int .i64 3) := DWrite.cellB HG1.out HP1.out
      have c2 : w1.cell? ⟨BP, 2, none⟩ = some (.int .i64 2) := DWrite.cellB HG1.out HP2.out
      go_wp2_with fail
      refine (ds_format (HD.out.arg HRO2.out) P2 6 pk2 (by decide) rfl (by decide) (.slice C o.length cC) o (List.mem_cons_self ..) (by have := HLO.out; show o.length + 12 ≤ 108 * 2; omega) Zj SR (fun _ _ => by show arefus (DFlush.flushed (zw (0 + 2) 2 dj).1).1 _ _ = 0 ∧ (DFlush.flushed (zw (0 + 2) 2 dj).1).1.waits.length ≤ 100000; rw [f1]; exact ⟨AR1, Nat.zero_le _⟩) (calm (LO o)) 0 (BO o HLO.out).1).mono ?_
      rintro e w2 ⟨rfl, hd⟩
      have HD2 := Lib.hid hd
      have HG2 := Lib.hid (HGX.out.trans hd.gr)
      clear hd HD HG1 c0 c1 c2
      obtain ⟨n1, hnn1⟩ : ∃ n1 : Nat, n1 = 1 := ⟨_, rfl⟩
      have hk0 := (BO o HLO.out).2
      have hk1 : SK (LO o) 0 P2.a n1 0 1 (keptB 1 o) := by rw [hnn1]; exact hk0
      have hn1 : anw (LO o) 0 (2 * P2.a) = n1 := by
        have h1 := hk0.newest.stamp_le
        have h2 := hk0.newest_le
        omega
      have HSK := Lib.hid hk1
      have HNN : Hid (SC.Nwst (LO o) 0 (2 * P2.a) n1) := Lib.hid ⟨hn1⟩
      have HMAY : Hid (may (n1 + 1) = true) := Lib.hid (by rw [hnn1]; decide)
      have HLS := Lib.hid (lo_length o)
      obtain ⟨recs, hrecs⟩ : ∃ recs, jscan (LO o) (2 * P2.a) 1 P2.e P2.p 0 [] = recs := ⟨_, rfl⟩
      clear hk0 hk1 hn1 hnn1
      generalize LO o = S at *
      have c0 : w2.cell? ⟨BP, 0, none⟩ = some (.int .i64 2) := DWrite.cellB HG2.out HP0.out
      have c1 : w2.cell? ⟨BP, 1, none⟩ = some (.int .i64 3) := DWrite.cellB HG2.out HP1.out
      have c2 : w2.cell? ⟨BP, 2, none⟩ = some (.int .i64 2) := DWrite.cellB HG2.out HP2.out
      go_wp2_with fail
      refine (ds_open HD2.out P2 6 pk2 (by rw [HLS.out]; decide) n1 0 1 1 o HSK.out (by have := HLO.out; omega) (by decide) (by decide) recs hrecs).mono ?_
      rintro e w3 ⟨gv, vst, vr, bb, rfl, hd, hbs, _, _⟩
      obtain ⟨A4, c4, rfl, _⟩ := id (hd.rd (v := vst) (l := o) (by simp))
      obtain ⟨ws4, ho4, _⟩ := id hbs
      obtain ⟨A5, c5, rfl⟩ := own_sl ho4
      have hd3 := ((hd.arg HRR2.out).arg HRS2.out).sub (V' := [(.nilFunc, Cont.blk gv (VO none g P2 1 false)), (.slice A st.length cA, Cont.bytes st), (.slice B re.length cB, Cont.bytes re)]) (by
        intro p hp
        simp only [List.mem_cons, List.not_mem_nil, or_false] at hp ⊢
        rcases hp with hp | hp | hp
        · exact .inr (.inr (.inl hp))
        · exact .inl hp
        · exact .inr (.inl hp))
      have HD3 := Lib.hid hd3
      clear hd hd3 hbs ho4 HD2 HG2 c0 c1 c2 hrecs
      go_wp2_with fail
      refine (ds_fuse wr w3 g _ _ HD3.out (n : Int) (calmF S (n : Int)) (by omega) (fused_calm _ _ _ (by omega))).mono ?_
      rintro e w4 ⟨rfl, hd⟩
      have HDF := Lib.hid hd
      have HGL : Hid (gv < w4.heap.size) := Lib.hid (Array.getElem?_eq_some_iff.1 (hd.at_ (x := .nilFunc) (b := gv) (List.mem_cons_self ..))).1
      have HNB : Hid (¬ BL [(.slice A st.length cA, Cont.bytes st), (.slice B re.length cB, Cont.bytes re)] gv) := Lib.hid (nobl2 _ _ _ _ _)
      have nobl : ∀ (l : List (Value × Cont)) (k : Nat), l = [(.slice A st.length cA, Cont.bytes st), (.slice B re.length cB, Cont.bytes re)] → ¬ BL l k := fun l k e => by rw [e]; exact nobl2 _ _ _ _ _
      have NOBL := Lib.hid nobl
      clear hd HD3 nobl
      have hnx := next_any S 0 2 n1 0 1 (keptB 1 o) (keptB 7 st) (n : Int) HSK.out HMAY.out (by rw [keptB_length]; have := HLST.out; omega) (by rw [keptB_length]; have := HLST.out; omega) (by omega)
      by_cases hcase : n < 3
      · rcases hnx with ⟨h, _⟩ | ⟨_, _, d', hq, hoff, _, _, _, _⟩
        · omega
        have HQ := Lib.hid hq
        have HOFF := Lib.hid hoff
        clear hq hoff
        have k3 : decide ((3 : Int) ≤ (n : Int)) = false := decide_eq_false (by omega)
        have k6 : decide ((6 : Int) ≤ (n : Int)) = false := decide_eq_false (by omega)
        have kl : decide ((n : Int) < 6) = true := decide_eq_true (by omega)
        have p3 : ¬ (3 : Int) ≤ (n : Int) := by omega
        have p6 : ¬ (6 : Int) ≤ (n : Int) := by omega
        have pl : (n : Int) < 6 := by omega
        clear hcase
        go_wp2_with fail
        refine (ds_checkpoint none P2 6 pk2 1 HDF.out HNB.out n1 0 1 (keptB 1 o) HSK.out HNN.out.is (by rw [HLS.out]; omega) HMAY.out (.slice A st.length cA) st (by simp) (by have := HLST.out; show st.length + 12 ≤ 108 * 2; omega) d' 15 (by decide) (by decide) HQ.out (fun h => absurd h (by decide))).mono ?_
        rintro e w6 ⟨rfl, ⟨_, hd⟩ | ⟨h0, _⟩⟩
        rotate_left
        · exact absurd h0 (by decide)
        have HD6 := Lib.hid hd
        clear hd HDF
        go_wp2_with fail
        refine (ds_commit_no HD6.out _).mono ?_
        rintro e w' ⟨rfl, rfl⟩
        go_wp2_with fail
        refine (ds_off wr w6 g _ _ HD6.out true HOFF.out).mono ?_
        rintro e w' ⟨rfl, rfl⟩
        have HGE := Lib.hid (HGX.out.trans HD6.out.gr)
        go_wp2
        go_roundg q
        case measure => omega
        case rel => exact ⟨n + 1, by omega, by first | rfl | simp, HGE⟩
      · by_cases hcase2 : n < 6
        · rcases hnx with ⟨_, L', hq, hsk', _, hlen⟩ | ⟨_, h, _⟩
          rotate_left
          · omega
          have HLL : Hid (L'.length = 10) := Lib.hid (hlen.trans HLS.out)
          have hev' := hsk'.ev
          have hja := japp_go 4 3 2 7 L' re (if (n : Int) = -1 then -1 else (n : Int) - ((2 : Nat) : Int) - 1) hev' (by have := HLL.out; omega) (by omega) (by omega) (by have := HLR.out; omega) (by split <;> omega)
          rcases hja with ⟨h, _⟩ | ⟨_, _, d2, hja, hoff⟩
          · exfalso; split at h <;> omega
          have HJA := Lib.hid hja
          have HOFF := Lib.hid hoff
          have HQ := Lib.hid hq
          clear hq hsk' hlen hev' hja hoff
          have k3 : decide ((3 : Int) ≤ (n : Int)) = true := decide_eq_true (by omega)
          have k6 : decide ((6 : Int) ≤ (n : Int)) = false := decide_eq_false (by omega)
          have kl : decide ((n : Int) < 6) = true := decide_eq_true (by omega)
          have p3 : (3 : Int) ≤ (n : Int) := by omega
          have p6 : ¬ (6 : Int) ≤ (n : Int) := by omega
          have pl : (n : Int) < 6 := by omega
          clear hcase hcase2
          go_wp2_with fail
          refine (ds_checkpoint none P2 6 pk2 1 HDF.out HNB.out n1 0 1 (keptB 1 o) HSK.out HNN.out.is (by rw [HLS.out]; omega) HMAY.out (.slice A st.length cA) st (by simp) (by have := HLST.out; show st.length + 12 ≤ 108 * 2; omega) _ 0 (by decide) (by decide) HQ.out (fun _ => jref L' _ HLL.out)).mono ?_
          rintro e w6 ⟨rfl, ⟨h0, _⟩ | ⟨_, gj, hd, hgj⟩⟩
          · exact absurd rfl h0
          have hd6 : DS wr g _ ((.nilFunc, Cont.blk gv (VO (some gj) g P2 7 false)) :: (.nilFunc, Cont.blk gj (JO g ⟨4, 3, 2, 0, 7⟩)) :: [(.slice A st.length cA, Cont.bytes st), (.slice B re.length cB, Cont.bytes re)]) w6 := hd
          have HD6 := Lib.hid hd6
          have HNE : Hid (gv ≠ gj) := Lib.hid (fun e => by have := HGL.out; omega)
          clear hd hd6 hgj HDF
          go_wp2_with fail
          refine (ds_commit HD6.out (NOBL.out _ gj rfl) (NOBL.out _ gv rfl) HNE.out (jk7 0 (by omega)) (by decide) (Nat.zero_le _) (.slice B re.length cB) re (HD6.out.rd (by simp)) HJA.out).mono ?_
          rintro e w7 ⟨rfl, hd⟩
          rw [if_pos rfl] at hd
          have HD7 := Lib.hid hd
          clear hd HD6
          go_wp2_with fail
          refine (ds_off wr w7 g _ _ HD7.out true HOFF.out).mono ?_
          rintro e w' ⟨rfl, rfl⟩
          have HGE := Lib.hid (HGX.out.trans HD7.out.gr)
          go_wp2
          go_roundg q
          case measure => omega
          case rel => exact ⟨n + 1, by omega, by first | rfl | simp, HGE⟩
        · rcases hnx with ⟨_, L', hq, hsk', _, hlen⟩ | ⟨_, h, _⟩
          rotate_left
          · omega
          have HLL : Hid (L'.length = 10) := Lib.hid (hlen.trans HLS.out)
          have hev' := hsk'.ev
          have hja := japp_go 4 3 2 7 L' re (if (n : Int) = -1 then -1 else (n : Int) - ((2 : Nat) : Int) - 1) hev' (by have := HLL.out; omega) (by omega) (by omega) (by have := HLR.out; omega) (by split <;> omega)
          rcases hja with ⟨_, L2, hja⟩ | ⟨_, h, _⟩
          rotate_left
          · exfalso; split at h <;> omega
          have HJA := Lib.hid hja
          have HQ := Lib.hid hq
          clear hq hsk' hlen hev' hja
          have k3 : decide ((3 : Int) ≤ (n : Int)) = true := decide_eq_true (by omega)
          have k6 : decide ((6 : Int) ≤ (n : Int)) = true := decide_eq_true (by omega)
          have kl : decide ((n : Int) < 6) = false := decide_eq_false (by omega)
          have p3 : (3 : Int) ≤ (n : Int) := by omega
          have p6 : (6 : Int) ≤ (n : Int) := by omega
          have pl : ¬ (n : Int) < 6 := by omega
          clear hcase hcase2
          go_wp2_with fail
          refine (ds_checkpoint none P2 6 pk2 1 HDF.out HNB.out n1 0 1 (keptB 1 o) HSK.out HNN.out.is (by rw [HLS.out]; omega) HMAY.out (.slice A st.length cA) st (by simp) (by have := HLST.out; show st.length + 12 ≤ 108 * 2; omega) _ 0 (by decide) (by decide) HQ.out (fun _ => jref L' _ HLL.out)).mono ?_
          rintro e w6 ⟨rfl, ⟨h0, _⟩ | ⟨_, gj, hd, hgj⟩⟩
          · exact absurd rfl h0
          have hd6 : DS wr g _ ((.nilFunc, Cont.blk gv (VO (some gj) g P2 7 false)) :: (.nilFunc, Cont.blk gj (JO g ⟨4, 3, 2, 0, 7⟩)) :: [(.slice A st.length cA, Cont.bytes st), (.slice B re.length cB, Cont.bytes re)]) w6 := hd
          have HD6 := Lib.hid hd6
          have HNE : Hid (gv ≠ gj) := Lib.hid (fun e => by have := HGL.out; omega)
          clear hd hd6 hgj HDF
          go_wp2_with fail
          refine (ds_commit HD6.out (NOBL.out _ gj rfl) (NOBL.out _ gv rfl) HNE.out (jk7 0 (by omega)) (by decide) (Nat.zero_le _) (.slice B re.length cB) re (HD6.out.rd (by simp)) HJA.out).mono ?_
          rintro e w7 ⟨rfl, hd⟩
          rw [if_neg (by decide)] at hd
          have HD7 := Lib.hid hd
          clear hd HD6
          go_wp2_with fail
          refine (ds_off wr w7 g _ _ HD7.out false rfl).mono ?_
          rintro e w' ⟨rfl, rfl⟩
          have HGE := Lib.hid (HGX.out.trans HD7.out.gr)
          go_wp2
          go_roundg q
          case measure => omega
          case rel => exact ⟨n + 1, by omega, by first | rfl | simp, HGE⟩
theorem steps_any (w : World) (A B C : Option Addr) (cA cB cC : Nat) (st re o : List UInt8) (hrs : Rd (fun b => b < w.heap.size) w (.slice A st.length cA) st) (hrr : Rd (fun b => b < w.heap.size) w (.slice B re.length cB) re) (hro : Rd (fun b => b < w.heap.size) w (.slice C o.length cC) o) :
    Calls Try.prog 11 #[.slice A st.length cA, .slice B re.length cB, .slice C o.length cC] w fun e w' => e = .returned (.bool true) ∧ Grew w w' := by
  by_cases h1 : 200 < st.length
  · exact steps_long0 w A B C cA cB cC st re o h1
  · by_cases h2 : 200 < re.length
    · exact steps_long1 w A B C cA cB cC st re o (by omega) h2
    · by_cases h3 : 200 < o.length
      · exact steps_long2 w A B C cA cB cC st re o (by omega) (by omega) h3
      · exact steps_main w A B C cA cB cC st re o (by omega) (by omega) (by omega) hrs hrr hro
end Go.Proofs.Ytbnicphegbdfnaa.VH
