/-
  Two rows, one behind the other, and Add, by the program.
  Conditions: those that each lemma names.
-/
import Derived.Test.YtmnfajplfnfgpabUE
import Derived.Lib.AppendZeros
namespace Go.Proofs.Ytmnfajplfnfgpab.UF
set_option maxRecDepth 100000
open Go Go.RowKit Go.Lib Go.Proofs.Ytmnfajplfnfgpab Go.Proofs.Ytmnfajplfnfgpab.Facts Go.Proofs.Ytmnfajplfnfgpab.Ints Go.Proofs.Ytmnfajplfnfgpab.PA Go.Proofs.Ytmnfajplfnfgpab.UA Go.Proofs.Ytmnfajplfnfgpab.UM Go.Proofs.Ytmnfajplfnfgpab.UB Go.Proofs.Ytmnfajplfnfgpab.UC Go.Proofs.Ytmnfajplfnfgpab.UD Go.Proofs.Ytmnfajplfnfgpab.Bytes


theorem en_appv (W : World) (base : Nat) (v v2 : Value) (l m : List En) (hown : OwnE W base v l) (h : Ens W v2 m) (hl : (l.length + m.length) * 80 ≤ 140737488355328) (hb : base ≤ W.heap.size) :
    ∃ v' w', (Builtin.append_ #[22, 22] 22 #[v, v2]).run Try.prog W = .ok v' w' ∧ OwnE w' base v' (l ++ m) ∧ Below base W w' := by
  obtain ⟨A, c, rfl, h1, h2, h3, h4⟩ := h
  cases A with
  | none =>
    have h0 := h3 rfl
    have hn : m = [] := List.eq_nil_of_length_eq_zero (by omega)
    subst hn
    subst h0
    obtain ⟨i0, hi, hx⟩ := Option.map_eq_some_iff.1 info25
    exact ⟨v, W, run_append_owned_none W base 22 22 25 i0 10 Try.underlying22 hi v _ _ hown, by rw [List.append_nil]; exact hown, Below.refl _ _⟩
  | some ad => exact en_app W base v l m ad c hown (fun j u hu => h4 ad rfl j u hu) hl hb
theorem own_nilE (w : World) (base : Nat) : OwnE w base (.slice none 0 0) [] := World.ownsRow_nil w base 25 10
theorem zc_size (n : Nat) (z : Array Value) : (Builtin.zeroCells z n).size = n * z.size := by simp [Builtin.zeroCells]
set_option maxHeartbeats 2000000 in
theorem grow_nil (n : Nat) (w : World) (hn : n * 80 ≤ 140737488355328) :
    Calls Try.prog 32 #[.slice none 0 0, .int .i64 n] w fun e w' => ∃ v', e = .returned v' ∧ OwnE w' w.heap.size v' [] ∧ Grew w w' := by
  have h1 : ¬ ((n : Int) < 0) := by omega
  have h2 : wrap64 (n : Int) = (n : Int) := by unfold wrap64; omega
  by_cases h0 : n = 0
  · subst h0
    have HO := Lib.hid (own_nilE w w.heap.size)
    go_enter Try.func32, Try.ntmps32
    go_wp2
    go_returns
    exact ⟨_, rfl, HO.out, Grew.refl _⟩
  · have h3 : decide ((0 : Int) < (n : Int)) = true := decide_eq_true (by omega)
    have h4 : decide (0 < n) = true := decide_eq_true (by omega)
    obtain ⟨i0, hi, hx⟩ := Option.map_eq_some_iff.1 info25
    simp only [Prod.mk.injEq] at hx
    obtain ⟨hz0, hz1, hz2⟩ := hx
    have hr := Lib.run_append_nil_zeros (P := Try.prog) w 22 3 22 25 i0 _ .i64 .i64 Try.underlying22 Try.underlying3 hi hz0 n (by omega) (by rw [hz1]; decide) (by omega) (by rw [hz2]; omega)
    have hge := grownCap_ge w n 0 25
    have hcm : grownCap w n 0 25 ≤ maxLen := grownCap_le_maxLen w n 0 25 (by unfold maxLen; omega)
    rw [← h2] at hr
    have HR := Lib.hid hr
    generalize hcap : grownCap w n 0 25 = cap at *
    obtain ⟨cur, hcur⟩ : ∃ cur, Builtin.zeroCells (Value.cells (.agg #[.int .u64 0, .int .i64 0, .int .i64 0, .int .i64 0, .int .i64 0, .int .i64 0, .int .i64 0, .int .u64 0, .int .u64 0, .int .i64 0])) n ++ Builtin.zeroCells (Value.cells (.agg #[.int .u64 0, .int .i64 0, .int .i64 0, .int .i64 0, .int .i64 0, .int .i64 0, .int .i64 0, .int .u64 0, .int .u64 0, .int .i64 0])) (cap - n) = cur := ⟨_, rfl⟩
    have hsz : cur.size = cap * 10 := by
      rw [← hcur, Array.size_append, zc_size, zc_size]
      simp only [Value.cells, List.size_toArray, List.length_cons, List.length_nil]
      omega
    rw [hcur] at HR
    have HO : Hid (OwnE (w.drew.alloc (.cells cur 25)) w.heap.size (.slice (some ⟨w.heap.size, 0, none⟩) 0 cap) []) := Lib.hid ⟨rfl, .inr ⟨w.heap.size, cap, cur, rfl, Nat.le_refl _, heap_alloc_new w.drew _, Nat.zero_le _, hcm, hsz, by simp⟩⟩
    have HG : Hid (Grew w (w.drew.alloc (.cells cur 25))) := Lib.hid ((Grew.refl w).drew.trans (by unfold Grew; go_grown))
    have hnc : ¬ (cap : Int) < 0 := by omega
    have hz2' : i0.bytes = 80 := hz2
    clear hr hge hcm hsz hcur h0 hi hz0 hz1 hz2 hz2' hn hcap
    go_enter Try.func32, Try.ntmps32
    go_wp2_with (at_builtin; refine Lib.wpList_append_run _ rfl (.tmp 20) (.tmp 21) 22 3 rfl _ _ rfl rfl _ _ (by exact HR.out) ?_)
    go_returns
    exact ⟨_, rfl, HO.out, HG.out⟩
set_option maxHeartbeats 4000000 in
/-- Two rows, one behind the other. -/
theorem concat_two (b : Nat) (v1 v2 : Value) (l m : List En) (w : World) (hb : w.heap[b]? = some (.cells #[v1, v2] 22 (0, 0))) (h1 : Ens w v1 l) (h2 : Ens w v2 m) (hl : (l.length + m.length) * 80 ≤ 140737488355328) :
    Calls Try.prog 18 #[.slice (some ⟨b, 0, none⟩) 2 2] w fun e w' => ∃ v', e = .returned v' ∧ Ens w' v' (l ++ m) ∧ Grew w w' := by
  have HV1 := Lib.hid h1
  have HV2 := Lib.hid h2
  obtain ⟨A1, c1, rfl, _⟩ := h1.slice
  obtain ⟨A2, c2, rfl, _⟩ := h2.slice
  have HB := Lib.hid hb
  have HLL := Lib.hid hl
  obtain ⟨q0, q1⟩ := two_c hb
  have w1 : wrap64 (l.length : Int) = (l.length : Int) := by unfold wrap64; omega
  have w2 : wrap64 ((l.length : Int) + (m.length : Int)) = ((l.length + m.length : Nat) : Int) := by unfold wrap64; omega
  have n1 : ¬ ((l.length : Int) < 0) := by omega
  have n2 : ¬ (((l.length + m.length : Nat) : Int) < 0) := by omega
  have HGR := Lib.hid (grow_nil (l.length + m.length) w hl)
  clear h1 h2 hb hl
  go_enter Try.func18, Try.ntmps18
  go_wp2
  go_loopg [3, 11] 2 (fun g s3 s11 wx => w = wx ∧ ((g = 2 ∧ s3 = .int .i64 0 ∧ s11 = .int .i64 0) ∨ (g = 1 ∧ s3 = .int .i64 (l.length : Int) ∧ s11 = .int .i64 1) ∨ (g = 0 ∧ s3 = .int .i64 ((l.length + m.length : Nat) : Int) ∧ s11 = .int .i64 2)))
  case atStart => exact ⟨rfl, .inl ⟨rfl, rfl, rfl⟩⟩
  case round =>
    obtain ⟨rfl, ⟨rfl, rfl, rfl⟩ | ⟨rfl, rfl, rfl⟩ | ⟨rfl, rfl, rfl⟩⟩ := hrel
    · go_wp2
      go_roundg 1
      case measure => omega
      case rel => exact ⟨rfl, .inr (.inl ⟨rfl, by first | rfl | (simp; done) | simp [w1], rfl⟩)⟩
    · go_wp2
      go_roundg 0
      case measure => omega
      case rel => exact ⟨rfl, .inr (.inr ⟨rfl, by first | rfl | (simp; done) | simp [w2], rfl⟩)⟩
    · clear w1 w2 n1 n2 q0 q1
      generalize hgen : ((l.length + m.length : Nat) : Int) = nn at *
      go_wp2_with fail
      refine HGR.out.mono ?_
      rintro e w2 ⟨v', rfl, hown, hg⟩
      have hown2 : OwnE w2 w2.heap.size v' [] ∨ OwnE w2 w.heap.size v' [] := .inr hown
      have HO := Lib.hid hown
      have HG0 := Lib.hid hg
      obtain ⟨q0, q1⟩ := two_c (keepB HB.out hg)
      clear hown hown2 hg HGR hgen
      go_wp2
      go_loopg [6, 27] 2 (fun g s6 s27 wx => Hid (Below w.heap.size w2 wx) ∧ ((g = 2 ∧ s27 = .int .i64 0 ∧ Hid (OwnE wx w.heap.size s6 [])) ∨ (g = 1 ∧ s27 = .int .i64 1 ∧ Hid (OwnE wx w.heap.size s6 l)) ∨ (g = 0 ∧ s27 = .int .i64 2 ∧ Hid (OwnE wx w.heap.size s6 (l ++ m)))))
      case atStart => exact ⟨Lib.hid (Below.refl _ _), .inl ⟨rfl, rfl, HO⟩⟩
      case round =>
        clear HO q0 q1
        obtain ⟨HBL, H⟩ := hrel
        have HG : Hid (Grew w wr) := Lib.hid ((show Below w.heap.size w w2 from HG0.out).trans HBL.out)
        obtain ⟨q0, q1⟩ := two_c (keepB HB.out HG.out)
        rcases H with ⟨rfl, rfl, HO⟩ | ⟨rfl, rfl, HO⟩ | ⟨rfl, rfl, HO⟩
        · obtain ⟨v', w4, hr, hown, hbl⟩ := en_appv wr w.heap.size _ _ [] l HO.out (HV1.out.grew HG.out) (by have := HLL.out; simp; omega) HG.out.size
          rw [List.nil_append] at hown
          have HAPP := Lib.hid hr
          have HO2 := Lib.hid hown
          have HB2 := Lib.hid (HBL.out.trans hbl)
          clear hr hown hbl HO
          go_wp2_with (at_builtin; refine wpList_app_want (.tmp 31) (.tmp 32) 22 (by rfl) (by rfl) _ _ rfl rfl v' w4 (by exact HAPP.out) ?_)
          go_roundg 1
          case measure => omega
          case rel => exact ⟨HB2, .inr (.inl ⟨rfl, by first | rfl | (simp; done), HO2⟩)⟩
        · obtain ⟨v', w4, hr, hown, hbl⟩ := en_appv wr w.heap.size _ _ l m HO.out (HV2.out.grew HG.out) HLL.out HG.out.size
          have HAPP := Lib.hid hr
          have HO2 := Lib.hid hown
          have HB2 := Lib.hid (HBL.out.trans hbl)
          clear hr hown hbl HO
          go_wp2_with (at_builtin; refine wpList_app_want (.tmp 31) (.tmp 32) 22 (by rfl) (by rfl) _ _ rfl rfl v' w4 (by exact HAPP.out) ?_)
          go_roundg 0
          case measure => omega
          case rel => exact ⟨HB2, .inr (.inr ⟨rfl, by first | rfl | (simp; done), HO2⟩)⟩
        · have HI := Lib.hid (Ens.of_own HO.out)
          have GF := HG
          obtain ⟨A, c, rfl, _⟩ := HI.out.slice
          clear HO q0 q1
          go_wp2
          go_returns
          exact ⟨_, rfl, HI.out, GF.out⟩
/-- What Add answers. -/
def addP (l : List En) (most : Int) (x : En) : List En × Int := if rightL (l ++ [x]) = false then ([], 1) else if most ≤ (l.length : Int) then ([], 8) else (l ++ [x], 0)
def AnsE (r : List En × Int) (w : World) (e : Ending) (w' : World) : Prop := ∃ v', e = .returned (.tuple #[v', .int .i64 r.2]) ∧ Ens w' v' r.1 ∧ Grew w w'
theorem ens_one (w : World) (x : En) (o : Nat) (h : w.heap[o]? = some (.cells #[.int .u64 (x.round : Int), .int .i64 x.line, .int .i64 x.label, .int .i64 x.who, .int .i64 x.side, .int .i64 x.base, .int .i64 x.quote, .int .u64 (x.qty : Int), .int .u64 (x.price : Int), .int .i64 x.slot] 25 (0, 0))) : Ens w (.slice (some ⟨o, 0, none⟩) 1 1) [x] := by
  refine ⟨some ⟨o, 0, none⟩, 1, rfl, Nat.le_refl _, by unfold maxLen; omega, (fun h => by cases h), fun ad ha j u hu => ?_⟩
  cases ha
  rw [Addr.add_lit, Nat.zero_add, cell_of_row _ _ _ _ _ _ h, List.getElem?_toArray]
  exact hu
set_option maxHeartbeats 4000000 in
theorem add_any (v : Value) (l : List En) (most : Int) (x : En) (w : World) (h : Ens w v l) (hz : SzL l) (hx : SzE x) (hl : (l.length + 1) * 80 ≤ 140737488355328) :
    Calls Try.prog 6 #[v, .int .i64 most, env x] w (AnsE (addP l most x) w) := by
  have HL := Lib.hid h
  have HLL := Lib.hid hl
  have HZ : Hid (SzL (l ++ [x])) := Lib.hid (fun y hy => by
    rcases List.mem_append.1 hy with h | h
    · exact hz y h
    · rw [List.mem_singleton.1 h]; exact hx)
  have HONE := Lib.hid (fun W o => ens_one W x o)
  obtain ⟨A, c, rfl, _⟩ := h.slice
  have HR := Lib.hid (fun (vv : Value) W (hh : Ens W vv (l ++ [x])) => right_any vv (l ++ [x]) W hh HZ.out (by simp; omega))
  have hlen : (l ++ [x]).length = l.length + 1 := by simp
  obtain ⟨r, ln, lb, wh, sd, bs, qt, qn, pr, st⟩ := x
  unfold env
  simp only at HONE ⊢
  unfold addP
  generalize hX : (⟨r, ln, lb, wh, sd, bs, qt, qn, pr, st⟩ : En) = X at *
  generalize hq : l ++ [X] = R at *
  have HRL := Lib.hid hlen
  have HX2 := Lib.hid hq
  have G0 : Hid (Grew w (((w.alloc (.cells #[.int .u64 (r : Int), .int .i64 ln, .int .i64 lb, .int .i64 wh, .int .i64 sd, .int .i64 bs, .int .i64 qt, .int .u64 (qn : Int), .int .u64 (pr : Int), .int .i64 st] 25)).alloc (.cells #[.int .u64 (r : Int), .int .i64 ln, .int .i64 lb, .int .i64 wh, .int .i64 sd, .int .i64 bs, .int .i64 qt, .int .u64 (qn : Int), .int .u64 (pr : Int), .int .i64 st] 25)).alloc (.cells #[.slice A l.length c, .slice (some ⟨w.heap.size + 1, 0, none⟩) 1 1] 22))) := Lib.hid (by unfold Grew; go_grown)
  have HB : Hid ((((w.alloc (.cells #[.int .u64 (r : Int), .int .i64 ln, .int .i64 lb, .int .i64 wh, .int .i64 sd, .int .i64 bs, .int .i64 qt, .int .u64 (qn : Int), .int .u64 (pr : Int), .int .i64 st] 25)).alloc (.cells #[.int .u64 (r : Int), .int .i64 ln, .int .i64 lb, .int .i64 wh, .int .i64 sd, .int .i64 bs, .int .i64 qt, .int .u64 (qn : Int), .int .u64 (pr : Int), .int .i64 st] 25)).alloc (.cells #[.slice A l.length c, .slice (some ⟨w.heap.size + 1, 0, none⟩) 1 1] 22)).heap[w.heap.size + 1 + 1]? = some (.cells #[.slice A l.length c, .slice (some ⟨w.heap.size + 1, 0, none⟩) 1 1] 22 (0, 0))) := Lib.hid (by
    have h1 := blk_new ((w.alloc (.cells #[.int .u64 (r : Int), .int .i64 ln, .int .i64 lb, .int .i64 wh, .int .i64 sd, .int .i64 bs, .int .i64 qt, .int .u64 (qn : Int), .int .u64 (pr : Int), .int .i64 st] 25)).alloc (.cells #[.int .u64 (r : Int), .int .i64 ln, .int .i64 lb, .int .i64 wh, .int .i64 sd, .int .i64 bs, .int .i64 qt, .int .u64 (qn : Int), .int .u64 (pr : Int), .int .i64 st] 25)) (.cells #[.slice A l.length c, .slice (some ⟨w.heap.size + 1, 0, none⟩) 1 1] 22)
    simpa using h1)
  have HE : Hid (Ens (((w.alloc (.cells #[.int .u64 (r : Int), .int .i64 ln, .int .i64 lb, .int .i64 wh, .int .i64 sd, .int .i64 bs, .int .i64 qt, .int .u64 (qn : Int), .int .u64 (pr : Int), .int .i64 st] 25)).alloc (.cells #[.int .u64 (r : Int), .int .i64 ln, .int .i64 lb, .int .i64 wh, .int .i64 sd, .int .i64 bs, .int .i64 qt, .int .u64 (qn : Int), .int .u64 (pr : Int), .int .i64 st] 25)).alloc (.cells #[.slice A l.length c, .slice (some ⟨w.heap.size + 1, 0, none⟩) 1 1] 22)) (.slice (some ⟨w.heap.size + 1, 0, none⟩) 1 1) [X]) := Lib.hid (by
    refine HONE.out _ _ ?_
    have h1 := blk_new (w.alloc (.cells #[.int .u64 (r : Int), .int .i64 ln, .int .i64 lb, .int .i64 wh, .int .i64 sd, .int .i64 bs, .int .i64 qt, .int .u64 (qn : Int), .int .u64 (pr : Int), .int .i64 st] 25)) (.cells #[.int .u64 (r : Int), .int .i64 ln, .int .i64 lb, .int .i64 wh, .int .i64 sd, .int .i64 bs, .int .i64 qt, .int .u64 (qn : Int), .int .u64 (pr : Int), .int .i64 st] 25)
    refine keepB (w := (w.alloc (.cells #[.int .u64 (r : Int), .int .i64 ln, .int .i64 lb, .int .i64 wh, .int .i64 sd, .int .i64 bs, .int .i64 qt, .int .u64 (qn : Int), .int .u64 (pr : Int), .int .i64 st] 25)).alloc (.cells #[.int .u64 (r : Int), .int .i64 ln, .int .i64 lb, .int .i64 wh, .int .i64 sd, .int .i64 bs, .int .i64 qt, .int .u64 (qn : Int), .int .u64 (pr : Int), .int .i64 st] 25)) ?_ (by unfold Grew; go_grown)
    simpa using h1)
  have HC := Lib.hid (concat_two _ _ _ l [X] _ HB.out (HL.out.grew G0.out) HE.out (by simpa using HLL.out))
  clear h hz hx hl hlen hX HONE HB HE
  have hq2 := HX2.out
  rw [hq2] at HC
  clear hq hq2 HX2
  cases ho : rightL R with
  | false =>
    rw [ho] at HR
    rw [if_pos rfl]
    clear ho
    go_enter Try.func6, Try.ntmps6
    go_wp2_with fail
    refine HC.out.mono ?_
    rintro e w1 ⟨v', rfl, hi, hg⟩
    have HI := Lib.hid hi
    have HR1 := Lib.hid (HR.out v' w1 hi)
    obtain ⟨A', c', rfl, _⟩ := hi.slice
    have G1 := Lib.hid (G0.out.trans hg)
    clear hi hg HC HR
    go_wp2_with fail
    refine HR1.out.mono ?_
    rintro e w2 ⟨rfl, hg⟩
    have G2 := Lib.hid (G1.out.trans hg)
    have HI2 := Lib.hid (HI.out.grew hg)
    clear hg HI
    go_wp2
    go_returns
    exact ⟨_, rfl, rw_none _, G2.out⟩
  | true =>
    rw [ho] at HR
    rw [if_neg (by decide)]
    clear ho
    by_cases hm : most ≤ (l.length : Int)
    · rw [if_pos hm]
      go_enter Try.func6, Try.ntmps6
      go_wp2_with fail
      refine HC.out.mono ?_
      rintro e w1 ⟨v', rfl, hi, hg⟩
      have HI := Lib.hid hi
      have HR1 := Lib.hid (HR.out v' w1 hi)
      obtain ⟨A', c', rfl, _⟩ := hi.slice
      have G1 := Lib.hid (G0.out.trans hg)
      clear hi hg HC HR
      go_wp2_with fail
      refine HR1.out.mono ?_
      rintro e w2 ⟨rfl, hg⟩
      have G2 := Lib.hid (G1.out.trans hg)
      have HI2 := Lib.hid (HI.out.grew hg)
      clear hg HI
      go_wp2
      go_returns
      exact ⟨_, rfl, rw_none _, G2.out⟩
    · have hm' : decide (most ≤ (l.length : Int)) = false := decide_eq_false hm
      rw [if_neg hm]
      go_enter Try.func6, Try.ntmps6
      go_wp2_with fail
      refine HC.out.mono ?_
      rintro e w1 ⟨v', rfl, hi, hg⟩
      have HI := Lib.hid hi
      have HR1 := Lib.hid (HR.out v' w1 hi)
      obtain ⟨A', c', rfl, _⟩ := hi.slice
      have G1 := Lib.hid (G0.out.trans hg)
      clear hi hg HC HR
      go_wp2_with fail
      refine HR1.out.mono ?_
      rintro e w2 ⟨rfl, hg⟩
      have G2 := Lib.hid (G1.out.trans hg)
      have HI2 := Lib.hid (HI.out.grew hg)
      clear hg HI
      go_wp2
      go_returns
      exact ⟨_, rfl, HI2.out, G2.out⟩
end Go.Proofs.Ytmnfajplfnfgpab.UF
