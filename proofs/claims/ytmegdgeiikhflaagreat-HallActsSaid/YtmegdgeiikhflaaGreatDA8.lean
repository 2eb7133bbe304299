/-
  HallActs, walked: the program's acts beside the document's.
  Conditions: the accounts' texts' sizes; the ranks' sizes in bytes.
-/
import Derived.Test.YtmegdgeiikhflaaGreatHT
import Derived.Test.YtmegdgeiikhflaaGreatHO
import Derived.SizedLaws
import Derived.Test.YtmegdgeiikhflaaGreatDK2
import Derived.Test.YtmegdgeiikhflaaGreatHY
import Derived.Test.YtmegdgeiikhflaaGreatHV
namespace Go.Proofs.YtmegdgeiikhflaaGreat.HT2
open Go Go.RowKit Go.Lib Go.Proofs.YtmegdgeiikhflaaGreat Go.Proofs.YtmegdgeiikhflaaGreat.Facts Go.Proofs.YtmegdgeiikhflaaGreat.Plain Go.Proofs.YtmegdgeiikhflaaGreat.Ints Go.Proofs.YtmegdgeiikhflaaGreat.RRows Go.Proofs.YtmegdgeiikhflaaGreat.LBox Go.Proofs.YtmegdgeiikhflaaGreat.RSmall Go.Proofs.YtmegdgeiikhflaaGreat.RFind Go.Proofs.YtmegdgeiikhflaaGreat.RAll Go.Proofs.YtmegdgeiikhflaaGreat.RRules Go.Proofs.YtmegdgeiikhflaaGreat.RRule3 Go.Proofs.YtmegdgeiikhflaaGreat.RRight Go.Proofs.YtmegdgeiikhflaaGreat.HA Go.Proofs.YtmegdgeiikhflaaGreat.HB Go.Proofs.YtmegdgeiikhflaaGreat.HG Go.Proofs.YtmegdgeiikhflaaGreat.HC Go.Proofs.YtmegdgeiikhflaaGreat.HD Go.Proofs.YtmegdgeiikhflaaGreat.HN Go.Proofs.YtmegdgeiikhflaaGreat.HW Go.Proofs.YtmegdgeiikhflaaGreat.HR Go.Proofs.YtmegdgeiikhflaaGreat.Bytes Go.Proofs.YtmegdgeiikhflaaGreat.HT

theorem wrap_row {k n m : Nat} (h : k < n) (hn : n * (m + 1) ≤ 140737488355328) : wrap64 ((k : Int) + 1) = (k : Int) + 1 := by
  have : n ≤ n * (m + 1) := Nat.le_mul_of_pos_right n (Nat.succ_pos m)
  unfold wrap64
  omega
theorem upto_row {k n m : Nat} (h : k < n) (hn : n * m ≤ 140737488355328) : (k + 1) * m ≤ 140737488355328 := Nat.le_trans (Nat.mul_le_mul_right m h) hn
theorem lt_row {k n : Nat} {q : Nat} (h : k + (q + 1) = n) : k < n := by omega
theorem sr_app_any (y : World) (base k : Nat) (v x : Value) (R : Nat → List Int) (h : SR y base k v R) (hx : Is y x (R k)) (hxb : ∀ b, x.ownBlock = some b → v.ownBlock ≠ some b ∧ b < y.heap.size) (hk : (k + 1) * 24 ≤ 140737488355328) (hbase : base ≤ y.heap.size) :
    ∃ v' w', (Builtin.append_ #[53, 53] 53 #[v, .slice (some ⟨y.heap.size, 0, none⟩) 1 1]).run Tryz.prog (y.alloc (.cells #[x] 23)) = .ok v' w' ∧ SR w' base (k + 1) v' R ∧ Below base y w' := by
  have hone := is_one hx
  have ga : Grew y (y.alloc (.cells #[x] 23)) := by unfold Grew; go_grown
  have hblk := h.block
  obtain ⟨xs, h1, h2⟩ := h.grew ga
  obtain ⟨i0, hi, hz0, hz1, hz2⟩ := info_parts info23
  obtain ⟨v', w', hr, h5, h6, _, h7⟩ := run_append_own_at (P := Tryz.prog) (w := y.alloc (.cells #[x] 23)) base 53 53 23 i0 (.slice none 0 0) 1 24 Tryz.underlying53 hi hz0 hz1 hz2 rfl Nat.one_pos v k xs h1 ⟨y.heap.size, 0, none⟩ 1 1 [x] rfl (fun j u hu => by
    have hj : j = 0 := by
      have := (List.getElem?_eq_some_iff.1 hu).1
      simpa using this
    subst hj
    simp only [List.getElem?_cons_zero, Option.some.injEq] at hu
    subst hu
    exact World.cell?_alloc_mark _ _ _ _ _) (fun u hu => by simp only [List.mem_singleton] at hu; subst hu; exact hone) (by unfold maxLen; omega) (by omega) (Nat.le_trans hbase (by simp))
  have hsz : (y.alloc (.cells #[x] 23)).heap.size = y.heap.size + 1 := by simp
  have hbl : Below base (y.alloc (.cells #[x] 23)) w' := below_of_grown _ h6 (by rw [hsz]; omega) fun b hb => (hblk b hb).1
  have hxl := h1.1
  refine ⟨v', w', hr, ⟨xs ++ [x], h5, fun i hi => ?_⟩, ((Below.refl _ _).alloc hbase _).trans hbl⟩
  have keep : ∀ {u : Value} {l : List Int}, Is (y.alloc (.cells #[x] 23)) u l → (∀ b, u.ownBlock = some b → v.ownBlock ≠ some b ∧ b < y.heap.size) → Is w' u l ∧ ∀ b, u.ownBlock = some b → v'.ownBlock ≠ some b ∧ b < w'.heap.size := fun {u l} hi hb => by
    have hs := hbl.size
    refine ⟨is_keep hi fun b hbb => h6.block b (by have := (hb b hbb).2; omega) fun e => (hb b hbb).1 e.symm, fun b hbb => ⟨fun e => ?_, by have := (hb b hbb).2; omega⟩⟩
    rcases h7 with h7 | h7
    · rw [h7] at e
      exact (hb b hbb).1 e
    · rw [h7, hsz] at e
      have := (hb b hbb).2
      cases e
      omega
  by_cases hik : i = k
  · subst hik
    refine ⟨x, ?_, keep (hx.grew ga) hxb⟩
    rw [List.getElem?_append_right (by omega)]
    simp [hxl]
  · obtain ⟨u, q1, q2, q3⟩ := h2 i (by omega)
    refine ⟨u, ?_, keep q2 fun b hb => ⟨(q3 b hb).1, ?_⟩⟩
    · rw [List.getElem?_append_left (by omega)]
      exact q1
    · have := q3 b hb
      obtain ⟨xs0, h10, h20⟩ := h
      obtain ⟨u0, q10, q20, q30⟩ := h20 i (by omega)
      have hsame : xs0 = xs := by
        have e1 := own_grow h10 ga
        rcases e1.2 with ⟨e2, e3⟩ | ⟨g, cap, cur, e2, _, e4, _, _, _, e8⟩
        · rcases h1.2 with ⟨_, f3⟩ | ⟨g', cap', cur', f2, _⟩
          · have := e1.1
            have := h1.1
            rw [List.eq_nil_of_length_eq_zero (l := xs0) (by omega), List.eq_nil_of_length_eq_zero (l := xs) (by omega)]
          · rw [e2] at f2; cases f2
        · rcases h1.2 with ⟨f2, _⟩ | ⟨g', cap', cur', f2, _, f4, _, _, _, f8⟩
          · rw [e2] at f2; cases f2
          · rw [e2] at f2
            cases f2
            rw [e4] at f4
            cases f4
            rw [← e8, ← f8]
      subst hsame
      rw [q10] at q1
      cases q1
      exact (q30 b hb).2
set_option maxRecDepth 100000 in
set_option maxHeartbeats 4000000 in
theorem set_all (w : World) (vr : Value) (R : List (List Int)) (g who n : Int) (h : RK w vr R) (hl : R.length * 24 ≤ 140737488355328) (hc : ∀ i, (rk R i).length * 8 ≤ 140737488355328) :
    Calls Tryz.prog 42 #[vr, .int .i64 g, .int .i64 who, .int .i64 n] w fun e w' => ∃ v', e = .returned v' ∧ RK w' v' (setAll R g who n) ∧ Grew w w' := by
  have HRK := Lib.hid h
  obtain ⟨A, c, rfl, _⟩ := id h
  have HC := Lib.hid hc
  have HL := Lib.hid hl
  clear h hc hl
  go_enter Tryz.func42, Tryz.ntmps42
  go_wp2
  go_loopg [9, 10, 11, 12] R.length (fun q s9 s10 s11 s12 wx => ∃ (k : Nat) (v9 : Value), k + q = R.length ∧ v9 = s9 ∧ s10 = .int .i64 k ∧ Hid (SR wx w.heap.size k v9 (fun i => setRow R g who n i (rk R i).length)) ∧ Hid (Grew w wx))
  case atStart => exact ⟨0, _, by omega, rfl, rfl, Lib.hid (SR.nil _ _ _), Lib.hid (Grew.refl _)⟩
  case round =>
    obtain ⟨k, v9, hkg, rfl, rfl, HS, HG⟩ := hrel
    cases gk with
    | zero =>
      have hkz : ¬ ((k : Int) < (R.length : Int)) := by omega
      have HE : Hid (RK wr v9 (setAll R g who n)) := Lib.hid (HS.out.rk (by unfold setAll; simp; omega) (setAll_get R g who n))
      go_wp2
      go_returns
      exact ⟨_, rfl, HE.out, HG.out⟩
    | succ q =>
      have hkz : (k : Int) < (R.length : Int) := by omega
      obtain ⟨ad, c2, A', c', e, hcl, hrow⟩ := (HRK.out.grew HG.out).at (k := k) (by omega)
      injection e with e1 _ e3
      subst e1 e3
      have C0 := Lib.hid hcl
      have HROW := Lib.hid hrow
      have HRL := Lib.hid (HC.out k)
      obtain ⟨bs, hbs⟩ : ∃ bs, bs = wr.heap.size := ⟨_, rfl⟩
      have HBS := Lib.hid hbs
      obtain ⟨W0, hW0⟩ : ∃ W0, W0 = wr := ⟨_, rfl⟩
      rw [← hW0] at HS HG HBS C0 HROW
      have HW0 := Lib.hid hW0
      have hkw : wrap64 ((k : Int) + 1) = (k : Int) + 1 := wrap_row (m := 23) (lt_row hkg) HL.out
      clear hrow hbs hW0
      go_wp2
      clear hcl
      go_loopg [11, 12] (rk R k).length (fun q s11 s12 wx => ∃ (j : Nat) (v11 : Value), j + q = (rk R k).length ∧ v11 = s11 ∧ s12 = .int .i64 j ∧ Hid (wx.ownsRow bs 3 1 v11 (setRow R g who n k j).length (iv (setRow R g who n k j))) ∧ Hid (Grew W0 wx))
      case atStart => exact ⟨0, _, by omega, rfl, rfl, Lib.hid (own_nil _ _), Lib.hid (by rw [HW0.out]; exact Grew.refl _)⟩
      case round =>
        obtain ⟨j, v11, hjg, rfl, rfl, HI, HG2⟩ := hrel
        have c0 := cellB HG2.out C0.out
        cases gk with
        | zero =>
          have hjz : ¬ ((j : Int) < ((rk R k).length : Int)) := by omega
          have hj : j = (rk R k).length := by omega
          have HX : Hid (Is wr v11 (setRow R g who n k (rk R k).length)) := Lib.hid (by
            have := Is.of_own HI.out rfl
            rw [hj] at this
            exact this)
          obtain ⟨A11, c11, hv11, _⟩ := id HX.out
          subst hv11
          obtain ⟨v', w', hr, hsr, hb⟩ := sr_app_any wr w.heap.size k v9 _ (fun i => setRow R g who n i (rk R i).length) (HS.out.grew HG2.out) HX.out (fun b hb => by
            have h1 := is_own_block HI.out b hb
            refine ⟨fun e => ?_, h1.2⟩
            have h2 := HS.out.block b e
            have := HBS.out
            omega) (upto_row (lt_row hkg) HL.out) (HG.out.trans HG2.out).size
          have HAPP := Lib.hid hr
          have HSR := Lib.hid hsr
          have HG3 : Hid (Grew w w') := Lib.hid ((show Below w.heap.size w wr from HG.out.trans HG2.out).trans hb)
          clear hr hsr hb hj
          go_wp2_with (at_builtin; refine wpList_app_want (.tmp 50) (.tmp 52) 53 (by rfl) (by rfl) _ _ rfl rfl v' w' (by exact HAPP.out) ?_)
          go_roundg q
          case measure => omega
          case rel => exact ⟨k + 1, _, by omega, rfl, by first | rfl | simp [hkw], HSR, HG3⟩
        | succ q2 =>
          have hjz : (j : Int) < ((rk R k).length : Int) := by omega
          have hjw : wrap64 ((j : Int) + 1) = (j : Int) + 1 := wrap_row (m := 7) (lt_row hjg) HRL.out
          obtain ⟨ar, rfl, hca⟩ := Is.at' (HROW.out.grew HG2.out) (k := j) (by omega)
          by_cases hg1 : (k : Int) = g
          · by_cases hw1 : (j : Int) = who
            · have HSU : Hid (setRow R g who n k (j + 1) = setRow R g who n k j ++ [n]) := Lib.hid ((setRow_succ R g who n k j).trans (by rw [if_pos ⟨hg1, hw1⟩]))
              have hb1 : ((k : Int) == g) = true := by simpa using hg1
              have hb2 : ((j : Int) == who) = true := by simpa using hw1
              clear hg1 hw1
              obtain ⟨v', w3, hr, hown, hb⟩ := app_one wr bs v11 (setRow R g who n k j) (n) HI.out (by rw [setRow_len]; exact upto_row (lt_row hjg) HRL.out) (by have := HBS.out; have := HG2.out.size; omega)
              have HAPP := Lib.hid hr
              have HO := Lib.hid hown
              have HG3 : Hid (Grew W0 w3) := Lib.hid (by
                have h1 := HG2.out
                unfold Grew at h1 ⊢
                rw [← HBS.out] at h1 ⊢
                exact h1.trans hb)
              clear hr hown hb
              go_wp2_with (at_builtin; refine wpList_app_want (.tmp 36) (.tmp 38) 23 (by rfl) (by rfl) _ _ rfl rfl v' w3 (by exact HAPP.out) ?_)
              go_roundg q2
              case measure => omega
              case rel =>
                refine ⟨j + 1, _, by omega, rfl, by first | rfl | simp [hjw], ?_, HG3⟩
                rw [HSU.out]
                exact HO
            · have HSU : Hid (setRow R g who n k (j + 1) = setRow R g who n k j ++ [cel (rk R k) j]) := Lib.hid ((setRow_succ R g who n k j).trans (by rw [if_neg (fun h => hw1 h.2)]))
              have hb1 : ((k : Int) == g) = true := by simpa using hg1
              have hb2 : ((j : Int) == who) = false := by simpa using hw1
              clear hg1 hw1
              obtain ⟨v', w3, hr, hown, hb⟩ := app_one wr bs v11 (setRow R g who n k j) (cel (rk R k) j) HI.out (by rw [setRow_len]; exact upto_row (lt_row hjg) HRL.out) (by have := HBS.out; have := HG2.out.size; omega)
              have HAPP := Lib.hid hr
              have HO := Lib.hid hown
              have HG3 : Hid (Grew W0 w3) := Lib.hid (by
                have h1 := HG2.out
                unfold Grew at h1 ⊢
                rw [← HBS.out] at h1 ⊢
                exact h1.trans hb)
              clear hr hown hb
              go_wp2_with (at_builtin; refine wpList_app_want (.tmp 40) (.tmp 48) 23 (by rfl) (by rfl) _ _ rfl rfl v' w3 (by exact HAPP.out) ?_)
              go_roundg q2
              case measure => omega
              case rel =>
                refine ⟨j + 1, _, by omega, rfl, by first | rfl | simp [hjw], ?_, HG3⟩
                rw [HSU.out]
                exact HO
          · have HSU : Hid (setRow R g who n k (j + 1) = setRow R g who n k j ++ [cel (rk R k) j]) := Lib.hid ((setRow_succ R g who n k j).trans (by rw [if_neg (fun h => hg1 h.1)]))
            have hb1 : ((k : Int) == g) = false := by simpa using hg1
            clear hg1
            obtain ⟨v', w3, hr, hown, hb⟩ := app_one wr bs v11 (setRow R g who n k j) (cel (rk R k) j) HI.out (by rw [setRow_len]; exact upto_row (lt_row hjg) HRL.out) (by have := HBS.out; have := HG2.out.size; omega)
            have HAPP := Lib.hid hr
            have HO := Lib.hid hown
            have HG3 : Hid (Grew W0 w3) := Lib.hid (by
              have h1 := HG2.out
              unfold Grew at h1 ⊢
              rw [← HBS.out] at h1 ⊢
              exact h1.trans hb)
            clear hr hown hb
            go_wp2_with (at_builtin; refine wpList_app_want (.tmp 40) (.tmp 48) 23 (by rfl) (by rfl) _ _ rfl rfl v' w3 (by exact HAPP.out) ?_)
            go_roundg q2
            case measure => omega
            case rel =>
              refine ⟨j + 1, _, by omega, rfl, by first | rfl | simp [hjw], ?_, HG3⟩
              rw [HSU.out]
              exact HO
theorem setRow_same (R : List (List Int)) (who n : Int) (i : Nat) : setRow R (-1) who n i (rk R i).length = rk R i := by
  unfold setRow
  apply List.ext_getElem?
  intro k
  rw [List.getElem?_map]
  by_cases hk : k < (rk R i).length
  · rw [List.getElem?_range hk, Option.map_some, if_neg (fun h => by omega)]
    unfold cel
    rw [List.getElem?_eq_getElem hk]
    rfl
  · rw [List.getElem?_eq_none (by simpa using hk), List.getElem?_eq_none (by omega)]
    rfl
theorem setAll_same (R : List (List Int)) (who n : Int) : setAll R (-1) who n = R := by
  unfold setAll
  apply List.ext_getElem?
  intro k
  rw [List.getElem?_map]
  by_cases hk : k < R.length
  · rw [List.getElem?_range hk, Option.map_some, setRow_same, rk_get hk]
  · rw [List.getElem?_eq_none (by simpa using hk), List.getElem?_eq_none (by omega)]
    rfl
end Go.Proofs.YtmegdgeiikhflaaGreat.HT2
namespace Go.Proofs.YtmegdgeiikhflaaGreat.HOS
set_option maxRecDepth 100000
open Go.ChangeShapes Go.WideShapes Go.ChangeAt Go.Deep Go.Joins
open Go Go.RowKit Go.Lib Go.Proofs.YtmegdgeiikhflaaGreat Go.Proofs.YtmegdgeiikhflaaGreat.Facts Go.Proofs.YtmegdgeiikhflaaGreat.Plain Go.Proofs.YtmegdgeiikhflaaGreat.Ints Go.Proofs.YtmegdgeiikhflaaGreat.RRows Go.Proofs.YtmegdgeiikhflaaGreat.LBox Go.Proofs.YtmegdgeiikhflaaGreat.RSmall Go.Proofs.YtmegdgeiikhflaaGreat.RFind Go.Proofs.YtmegdgeiikhflaaGreat.RAll Go.Proofs.YtmegdgeiikhflaaGreat.RRules Go.Proofs.YtmegdgeiikhflaaGreat.RRule3 Go.Proofs.YtmegdgeiikhflaaGreat.RRight Go.Proofs.YtmegdgeiikhflaaGreat.HA Go.Proofs.YtmegdgeiikhflaaGreat.HB Go.Proofs.YtmegdgeiikhflaaGreat.HG Go.Proofs.YtmegdgeiikhflaaGreat.HC Go.Proofs.YtmegdgeiikhflaaGreat.HO

section
variable {H : Type} {enc : TypeId × Value → H} {w : World} {r : Reach} {b0 : Nat} {v : Value} {d : DataW H} {p : List MemPlace}
theorem mem_all {P : Program} {e : TypeId} : ∀ {ds : List (DataW H)} {d : DataW H}, d ∈ ds → ∀ n ∈ d.weights P e, n ∈ DataW.weightsAll P e ds
  | d0 :: ds, d, h, n, hn => by
    simp only [DataW.weightsAll, List.mem_append]
    rcases List.mem_cons.1 h with rfl | h
    · exact Or.inl hn
    · exact Or.inr (mem_all h n hn)
theorem ints_size {fuel : Nat} {y : DataW H × List MemPlace} (h : TR enc w fuel 23 [v] y) (hw : ∀ n ∈ y.1.weights Tryz.prog 23, n ≤ reachBytes) {l : List Int} (hl : Is w v l) : l.length * 8 ≤ reachBytes := by
  obtain ⟨A, c, rfl, h1, h2, h3, h4⟩ := hl
  rcases Go.Deep.open_slice Tryz.underlying23 h with ⟨hcs, hx⟩ | ⟨a, len, cap, m, n1, D, Pl, hcs, _, hlc, hm, hmm, hx, hi⟩
  · simp only [List.cons.injEq, and_true, Value.slice.injEq] at hcs
    rw [hcs.2.1]
    simp
  · simp only [List.cons.injEq, and_true, Value.slice.injEq] at hcs
    subst hx
    have := hw (_ * Tryz.prog.bytesOf 3) (by rw [DataW.weights, Tryz.underlying23]; exact List.mem_cons_self)
    rw [show Tryz.prog.bytesOf 3 = 8 by kernel_rfl, List.length_map, List.length_range] at this
    rw [hcs.2.1]
    exact Nat.le_trans (Nat.mul_le_mul_right 8 (Nat.le_add_right _ _)) this
theorem ranks_size {fuel : Nat} {y : DataW H × List MemPlace} (h : TR enc w fuel 53 [v] y) (hw : ∀ n ∈ y.1.weights Tryz.prog 53, n ≤ reachBytes) {R : List (List Int)} (hR : RK w v R) : R.length * 24 ≤ reachBytes ∧ ∀ i, (rk R i).length * 8 ≤ reachBytes := by
  have far : ∀ i, ¬ i < R.length → (rk R i).length * 8 ≤ reachBytes := fun i hi => by
    unfold rk
    rw [List.getElem?_eq_none (by omega)]
    simp
  obtain ⟨A, c, rfl, h1, h2, h3, h4⟩ := hR
  rcases Go.Deep.open_slice Tryz.underlying53 h with ⟨hcs, hx⟩ | ⟨a, len, cap, m, n1, D, Pl, hcs, _, hlc, hm, hmm, hx, hi⟩
  · simp only [List.cons.injEq, and_true, Value.slice.injEq] at hcs
    refine ⟨by rw [hcs.2.1]; simp, fun i => far i (by omega)⟩
  · simp only [List.cons.injEq, and_true, Value.slice.injEq] at hcs
    obtain ⟨rfl, hlen, hcap⟩ := hcs
    subst hx
    rw [DataW.weights, Tryz.underlying53] at hw
    simp only [List.mem_cons, List.mem_append, List.length_map, List.length_range] at hw
    have h0 := hw _ (Or.inl rfl)
    rw [show Tryz.prog.bytesOf 23 = 24 by kernel_rfl] at h0
    refine ⟨by rw [hlen]; exact Nat.le_trans (Nat.mul_le_mul_right 24 (Nat.le_add_right _ _)) h0, fun i => ?_⟩
    by_cases hil : i < R.length
    · have hlm : len ≤ m := by
        simp only [if_true] at hmm
        omega
      obtain ⟨cs', hcl, ht'⟩ := hi i (by omega)
      obtain ⟨x, hx1, hx2⟩ := h4 a rfl i _ (rk_get hil)
      rw [show Tryz.prog.cellsOf 23 = 1 by kernel_rfl] at hcl
      obtain ⟨_, hl1, hat⟩ := World.cells?_some hcl
      have hx3 := hat 0 (by omega)
      obtain ⟨x', rfl⟩ : ∃ x', cs' = [x'] := by
        match cs', hl1 with
        | [x'], _ => exact ⟨x', rfl⟩
      have hxx : x' = x := by
        have e1 : w.cell? ((a.add (i * 1)).add 0) = some x' := by simpa using hx3
        rw [add_off, Nat.mul_one, Nat.add_zero, hx1] at e1
        exact (Option.some.inj e1).symm
      subst hxx
      exact ints_size ht' (fun n hn => hw n (Or.inr (Or.inl (mem_all (List.mem_map.2 ⟨i, List.mem_range.2 (by omega), rfl⟩) n hn)))) hx2
    · exact far i hil
/-- The sizes of ranks that came in, from what the call's form says of all its data. -/
theorem ranks_sized {ts : List TypeId} {ds : List (DataW H)} {R : List (List Int)} {j : Nat} (hs : (DataW.weightsEach Tryz.prog ts ds).all (· ≤ reachBytes) = true) (ht : ts[j]? = some 53) (hd : ds[j]? = some d) (h : DataW.Trod enc Tryz.prog w 0 (fun _ => true) true 53 v d p) (hR : RK w v R) : R.length * 24 ≤ 140737488355328 ∧ ∀ i, (rk R i).length * 8 ≤ 140737488355328 := by
  obtain ⟨fuel, hf⟩ := h
  obtain ⟨A, c, rfl, _⟩ := id hR
  have := ranks_size (y := (d, p)) hf (fun n hn => by simpa using List.all_eq_true.1 hs n (DataW.weights_mem_each ht hd n hn)) hR
  have hb : reachBytes ≤ 140737488355328 := by decide
  exact ⟨Nat.le_trans this.1 hb, fun i => Nat.le_trans (this.2 i) hb⟩
end
end Go.Proofs.YtmegdgeiikhflaaGreat.HOS
namespace Go.Proofs.YtmegdgeiikhflaaGreat.DA8
set_option maxRecDepth 100000
open Go Go.RowKit Go.Lib Go.Proofs.YtmegdgeiikhflaaGreat Go.Proofs.YtmegdgeiikhflaaGreat.Facts Go.Proofs.YtmegdgeiikhflaaGreat.Plain Go.Proofs.YtmegdgeiikhflaaGreat.Ints Go.Proofs.YtmegdgeiikhflaaGreat.RRows Go.Proofs.YtmegdgeiikhflaaGreat.LBox Go.Proofs.YtmegdgeiikhflaaGreat.RSmall Go.Proofs.YtmegdgeiikhflaaGreat.RFind Go.Proofs.YtmegdgeiikhflaaGreat.RAll Go.Proofs.YtmegdgeiikhflaaGreat.RRules Go.Proofs.YtmegdgeiikhflaaGreat.RRule3 Go.Proofs.YtmegdgeiikhflaaGreat.RRight Go.Proofs.YtmegdgeiikhflaaGreat.HA Go.Proofs.YtmegdgeiikhflaaGreat.HB Go.Proofs.YtmegdgeiikhflaaGreat.HG Go.Proofs.YtmegdgeiikhflaaGreat.HC Go.Proofs.YtmegdgeiikhflaaGreat.HD Go.Proofs.YtmegdgeiikhflaaGreat.HN Go.Proofs.YtmegdgeiikhflaaGreat.HW Go.Proofs.YtmegdgeiikhflaaGreat.HX Go.Proofs.YtmegdgeiikhflaaGreat.HY Go.Proofs.YtmegdgeiikhflaaGreat.HR Go.Proofs.YtmegdgeiikhflaaGreat.HT Go.Proofs.YtmegdgeiikhflaaGreat.HT2 Go.Proofs.YtmegdgeiikhflaaGreat.HP Go.Proofs.YtmegdgeiikhflaaGreat.DK Go.Proofs.YtmegdgeiikhflaaGreat.DK2

theorem set_same (w : World) (vr : Value) (R : List (List Int)) (h : RK w vr R) (hl : R.length * 24 ≤ 140737488355328) (hc : ∀ i, (rk R i).length * 8 ≤ 140737488355328) :
    Calls Tryz.prog 42 #[vr, .int .i64 (-1), .int .i64 0, .int .i64 0] w fun e w' => ∃ v', e = .returned v' ∧ RK w' v' R ∧ Grew w w' := by
  have h1 := set_all w vr R (-1) 0 0 h hl hc
  rw [setAll_same] at h1
  exact h1
theorem same_yes (w : World) (va vb : Value) (A : List (List Int)) (ha : RK w va A) (hb : RK w vb A) : Calls Tryz.prog 38 #[va, vb] w fun e w' => e = .returned (.bool true) ∧ Grew w w' := by
  have h1 := same_any w va vb A A ha hb
  rw [decide_eq_true rfl] at h1
  exact h1
set_option maxHeartbeats 8000000 in
theorem law_any (v vr : Value) (r : Re) (R : List (List Int)) (place by' who : Int) (w : World) (h : ReIs w v r) (hs : Sized r) (hR : RK w vr R) (hl : R.length * 24 ≤ 140737488355328) (hc : ∀ i, (rk R i).length * 8 ≤ 140737488355328) :
    Calls Tryz.prog 8 #[v, vr, .int .i64 place, .int .i64 by', .int .i64 who] w fun e w' => e = .returned (.bool true) ∧ Grew w w' := by
  have HST := Lib.hid (fun W hg => set_same W vr R (hR.grew (w' := W) hg) hl hc)
  have HA1 := Lib.hid (fun W hg => invite_any v vr r R place by' who W (h.grew (w' := W) hg) hs (hR.grew hg))
  have HA2 := Lib.hid (fun W hg => raise_any v vr r R place by' who W (h.grew (w' := W) hg) hs (hR.grew hg))
  have HA3 := Lib.hid (fun W hg => expel_any v vr r R place by' who W (h.grew (w' := W) hg) hs (hR.grew hg))
  have HB1 := Lib.hid (fun W hg => ract1 v vr r R place by' who W (h.grew (w' := W) hg) hs (hR.grew hg))
  have HB2 := Lib.hid (fun W hg => ract2 v vr r R place by' who W (h.grew (w' := W) hg) hs (hR.grew hg))
  have HB3 := Lib.hid (fun W hg => ract3 v vr r R place by' who W (h.grew (w' := W) hg) hs (hR.grew hg))
  have HAL := Lib.hid (fun W => HV.alive_any W)
  have HSM := Lib.hid (fun W va vb A ha hb => same_yes W va vb A ha hb)
  have HRK := Lib.hid hR
  obtain ⟨v0, v1, v2, v3, v4, rfl, h0, h1, h2, h3, h4⟩ := h
  obtain ⟨A0', cp0, rfl, _⟩ := h0.slice
  obtain ⟨A1', cp1, rfl, _⟩ := id h1
  obtain ⟨A2', cp2, rfl, _⟩ := h2.slice
  obtain ⟨A3', cp3, rfl, _⟩ := h3.slice
  obtain ⟨A4', cp4, rfl, _⟩ := h4.slice
  obtain ⟨B, cb, rfl, _⟩ := id hR
  clear h0 h1 h2 h3 h4 hs hR hl hc
  have G0 : Hid (Grew w (w.alloc (Obj.cells #[.slice A0' r.labels.length cp0, .slice A1' r.lines.length cp1, .slice A2' r.accounts.length cp2, .slice A3' r.guilds.length cp3, .slice A4' r.quotas.length cp4, .int .i64 r.orders, .int .i64 r.audits, .int .i64 r.rate, .int .i64 r.rounds] 28))) := Lib.hid (by unfold Grew; go_grown)
  have R0 : Hid ((w.alloc (Obj.cells #[.slice A0' r.labels.length cp0, .slice A1' r.lines.length cp1, .slice A2' r.accounts.length cp2, .slice A3' r.guilds.length cp3, .slice A4' r.quotas.length cp4, .int .i64 r.orders, .int .i64 r.audits, .int .i64 r.rate, .int .i64 r.rounds] 28)).heap[w.heap.size]? = some (rcell (.slice A0' r.labels.length cp0) (.slice A1' r.lines.length cp1) (.slice A2' r.accounts.length cp2) (.slice A3' r.guilds.length cp3) (.slice A4' r.quotas.length cp4) r.orders r.audits r.rate r.rounds)) := Lib.hid (heap_alloc_new w _)
  generalize actR r R place by' who rI = p1 at *
  generalize actR r R place by' who rR = p2 at *
  generalize actR r R place by' who (rE r who) = p3 at *
  obtain ⟨P1, n1⟩ := p1
  obtain ⟨P2, n2⟩ := p2
  obtain ⟨P3, n3⟩ := p3
  go_enter Tryz.func8, Tryz.ntmps8
  go_wp2_with fail
  with_reducible refine (HST.out _ G0.out).mono ?_
  rintro e w1 ⟨vs, rfl, hrk, hg⟩
  obtain ⟨As, cs, rfl, _⟩ := id hrk
  have KS := Lib.hid hrk
  have G1 := Lib.hid (G0.out.trans hg)
  have R1 := Lib.hid (keepB R0.out hg)
  clear hg hrk
  obtain ⟨r0, r1, r2, r3, r4, r5, r6, r7, r8⟩ := re_cells R1.out
  go_wp2_with fail
  with_reducible refine (HA1.out _ G1.out).mono ?_
  rintro e w2 ⟨vA1, rfl, hrk, hg⟩
  obtain ⟨AA1, cA1, rfl, _⟩ := id hrk
  have KA1 := Lib.hid hrk
  have KS := Lib.hid (KS.out.grew hg)
  have G2 := Lib.hid (G1.out.trans hg)
  have R2 := Lib.hid (keepB R1.out hg)
  clear hg hrk r0 r1 r2 r3 r4 r5 r6 r7 r8
  obtain ⟨r0, r1, r2, r3, r4, r5, r6, r7, r8⟩ := re_cells R2.out
  go_wp2_with fail
  with_reducible refine (HA2.out _ G2.out).mono ?_
  rintro e w3 ⟨vA2, rfl, hrk, hg⟩
  obtain ⟨AA2, cA2, rfl, _⟩ := id hrk
  have KA2 := Lib.hid hrk
  have KS := Lib.hid (KS.out.grew hg)
  have KA1 := Lib.hid (KA1.out.grew hg)
  have G3 := Lib.hid (G2.out.trans hg)
  have R3 := Lib.hid (keepB R2.out hg)
  clear hg hrk r0 r1 r2 r3 r4 r5 r6 r7 r8
  obtain ⟨r0, r1, r2, r3, r4, r5, r6, r7, r8⟩ := re_cells R3.out
  go_wp2_with fail
  with_reducible refine (HA3.out _ G3.out).mono ?_
  rintro e w4 ⟨vA3, rfl, hrk, hg⟩
  obtain ⟨AA3, cA3, rfl, _⟩ := id hrk
  have KA3 := Lib.hid hrk
  have KS := Lib.hid (KS.out.grew hg)
  have KA1 := Lib.hid (KA1.out.grew hg)
  have KA2 := Lib.hid (KA2.out.grew hg)
  have G4 := Lib.hid (G3.out.trans hg)
  have R4 := Lib.hid (keepB R3.out hg)
  clear hg hrk r0 r1 r2 r3 r4 r5 r6 r7 r8
  obtain ⟨r0, r1, r2, r3, r4, r5, r6, r7, r8⟩ := re_cells R4.out
  go_wp2_with fail
  with_reducible refine (HB1.out _ G4.out).mono ?_
  rintro e w5 ⟨vB1, rfl, hrk, hg⟩
  obtain ⟨AB1, cB1, rfl, _⟩ := id hrk
  have KB1 := Lib.hid hrk
  have KS := Lib.hid (KS.out.grew hg)
  have KA1 := Lib.hid (KA1.out.grew hg)
  have KA2 := Lib.hid (KA2.out.grew hg)
  have KA3 := Lib.hid (KA3.out.grew hg)
  have G5 := Lib.hid (G4.out.trans hg)
  have R5 := Lib.hid (keepB R4.out hg)
  clear hg hrk r0 r1 r2 r3 r4 r5 r6 r7 r8
  obtain ⟨r0, r1, r2, r3, r4, r5, r6, r7, r8⟩ := re_cells R5.out
  go_wp2_with fail
  with_reducible refine (HB2.out _ G5.out).mono ?_
  rintro e w6 ⟨vB2, rfl, hrk, hg⟩
  obtain ⟨AB2, cB2, rfl, _⟩ := id hrk
  have KB2 := Lib.hid hrk
  have KS := Lib.hid (KS.out.grew hg)
  have KA1 := Lib.hid (KA1.out.grew hg)
  have KA2 := Lib.hid (KA2.out.grew hg)
  have KA3 := Lib.hid (KA3.out.grew hg)
  have KB1 := Lib.hid (KB1.out.grew hg)
  have G6 := Lib.hid (G5.out.trans hg)
  have R6 := Lib.hid (keepB R5.out hg)
  clear hg hrk r0 r1 r2 r3 r4 r5 r6 r7 r8
  obtain ⟨r0, r1, r2, r3, r4, r5, r6, r7, r8⟩ := re_cells R6.out
  go_wp2_with fail
  with_reducible refine (HB3.out _ G6.out).mono ?_
  rintro e w7 ⟨vB3, rfl, hrk, hg⟩
  obtain ⟨AB3, cB3, rfl, _⟩ := id hrk
  have KB3 := Lib.hid hrk
  have KS := Lib.hid (KS.out.grew hg)
  have KA1 := Lib.hid (KA1.out.grew hg)
  have KA2 := Lib.hid (KA2.out.grew hg)
  have KA3 := Lib.hid (KA3.out.grew hg)
  have KB1 := Lib.hid (KB1.out.grew hg)
  have KB2 := Lib.hid (KB2.out.grew hg)
  have G7 := Lib.hid (G6.out.trans hg)
  have R7 := Lib.hid (keepB R6.out hg)
  clear hg hrk r0 r1 r2 r3 r4 r5 r6 r7 r8
  obtain ⟨r0, r1, r2, r3, r4, r5, r6, r7, r8⟩ := re_cells R7.out
  clear r0 r1 r2 r3 r4 r5 r6 r7 r8
  go_wp2_with fail
  with_reducible refine (HAL.out _).mono ?_
  rintro e w8 ⟨rfl, hg⟩
  have KS := Lib.hid (KS.out.grew hg)
  have KA1 := Lib.hid (KA1.out.grew hg)
  have KA2 := Lib.hid (KA2.out.grew hg)
  have KA3 := Lib.hid (KA3.out.grew hg)
  have KB1 := Lib.hid (KB1.out.grew hg)
  have KB2 := Lib.hid (KB2.out.grew hg)
  have KB3 := Lib.hid (KB3.out.grew hg)
  have G8 := Lib.hid (G7.out.trans hg)
  clear hg
  go_wp2_with fail
  with_reducible refine (HSM.out _ _ _ _ KA1.out KB1.out).mono ?_
  rintro e w9 ⟨rfl, hg⟩
  have KS := Lib.hid (KS.out.grew hg)
  have KA1 := Lib.hid (KA1.out.grew hg)
  have KA2 := Lib.hid (KA2.out.grew hg)
  have KA3 := Lib.hid (KA3.out.grew hg)
  have KB1 := Lib.hid (KB1.out.grew hg)
  have KB2 := Lib.hid (KB2.out.grew hg)
  have KB3 := Lib.hid (KB3.out.grew hg)
  have G9 := Lib.hid (G8.out.trans hg)
  clear hg
  go_wp2_with fail
  with_reducible refine (HSM.out _ _ _ _ KA2.out KB2.out).mono ?_
  rintro e w10 ⟨rfl, hg⟩
  have KS := Lib.hid (KS.out.grew hg)
  have KA1 := Lib.hid (KA1.out.grew hg)
  have KA2 := Lib.hid (KA2.out.grew hg)
  have KA3 := Lib.hid (KA3.out.grew hg)
  have KB1 := Lib.hid (KB1.out.grew hg)
  have KB2 := Lib.hid (KB2.out.grew hg)
  have KB3 := Lib.hid (KB3.out.grew hg)
  have G10 := Lib.hid (G9.out.trans hg)
  clear hg
  go_wp2_with fail
  with_reducible refine (HSM.out _ _ _ _ KA3.out KB3.out).mono ?_
  rintro e w11 ⟨rfl, hg⟩
  have KS := Lib.hid (KS.out.grew hg)
  have KA1 := Lib.hid (KA1.out.grew hg)
  have KA2 := Lib.hid (KA2.out.grew hg)
  have KA3 := Lib.hid (KA3.out.grew hg)
  have KB1 := Lib.hid (KB1.out.grew hg)
  have KB2 := Lib.hid (KB2.out.grew hg)
  have KB3 := Lib.hid (KB3.out.grew hg)
  have G11 := Lib.hid (G10.out.trans hg)
  clear hg
  go_wp2_with fail
  with_reducible refine (HSM.out _ _ _ _ (Lib.hid (HRK.out.grew G11.out)).out KS.out).mono ?_
  rintro e w12 ⟨rfl, hg⟩
  have KS := Lib.hid (KS.out.grew hg)
  have KA1 := Lib.hid (KA1.out.grew hg)
  have KA2 := Lib.hid (KA2.out.grew hg)
  have KA3 := Lib.hid (KA3.out.grew hg)
  have KB1 := Lib.hid (KB1.out.grew hg)
  have KB2 := Lib.hid (KB2.out.grew hg)
  have KB3 := Lib.hid (KB3.out.grew hg)
  have G12 := Lib.hid (G11.out.trans hg)
  clear hg
  go_wp2
  go_returns
  exact ⟨rfl, G12.out⟩
end Go.Proofs.YtmegdgeiikhflaaGreat.DA8
