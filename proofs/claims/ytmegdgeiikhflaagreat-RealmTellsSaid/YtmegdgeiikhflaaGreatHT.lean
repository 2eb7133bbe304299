/-
  The document's ranks with one number changed.
  Conditions: the rows' sizes.
-/
import Derived.Test.YtmegdgeiikhflaaGreatHR
import Derived.Maps.AppendAt
namespace Go.Proofs.YtmegdgeiikhflaaGreat.HT
open Go Go.RowKit Go.Lib Go.Proofs.YtmegdgeiikhflaaGreat Go.Proofs.YtmegdgeiikhflaaGreat.Facts Go.Proofs.YtmegdgeiikhflaaGreat.Plain Go.Proofs.YtmegdgeiikhflaaGreat.Ints Go.Proofs.YtmegdgeiikhflaaGreat.RRows Go.Proofs.YtmegdgeiikhflaaGreat.LBox Go.Proofs.YtmegdgeiikhflaaGreat.RSmall Go.Proofs.YtmegdgeiikhflaaGreat.RFind Go.Proofs.YtmegdgeiikhflaaGreat.RAll Go.Proofs.YtmegdgeiikhflaaGreat.RRules Go.Proofs.YtmegdgeiikhflaaGreat.RRule3 Go.Proofs.YtmegdgeiikhflaaGreat.RRight Go.Proofs.YtmegdgeiikhflaaGreat.HA Go.Proofs.YtmegdgeiikhflaaGreat.HB Go.Proofs.YtmegdgeiikhflaaGreat.HG Go.Proofs.YtmegdgeiikhflaaGreat.HC Go.Proofs.YtmegdgeiikhflaaGreat.HD Go.Proofs.YtmegdgeiikhflaaGreat.HN Go.Proofs.YtmegdgeiikhflaaGreat.HW Go.Proofs.YtmegdgeiikhflaaGreat.HR Go.Proofs.YtmegdgeiikhflaaGreat.Bytes

theorem is_keep {y z : World} {x : Value} {l : List Int} (h : Is y x l) (hk : ∀ b, x.ownBlock = some b → z.heap[b]? = y.heap[b]?) : Is z x l := by
  obtain ⟨A, c, rfl, h1, h2, h3, h4⟩ := h
  refine ⟨A, c, rfl, h1, h2, h3, fun ad ha j u hu => ?_⟩
  subst ha
  refine (World.cell?_of_block (w := y) ?_).trans (h4 ad rfl j u hu)
  have e : (ad.add j).block = ad.block := by unfold Addr.add; split <;> rfl
  rw [e]
  exact hk _ rfl
/-- Rows that were laid one behind the other. -/
def SR (y : World) (base k : Nat) (v : Value) (R : Nat → List Int) : Prop := ∃ xs, y.ownsRow base 23 1 v k xs ∧ ∀ i, i < k → ∃ x, xs[i]? = some x ∧ Is y x (R i) ∧ ∀ b, x.ownBlock = some b → v.ownBlock ≠ some b ∧ b < y.heap.size
theorem SR.nil (y : World) (base : Nat) (R : Nat → List Int) : SR y base 0 (.slice none 0 0) R := ⟨[], World.ownsRow_nil y base 23 1, fun i h => absurd h (by omega)⟩
theorem own_grow {y z : World} {base k : Nat} {v : Value} {xs : List Value} (h : y.ownsRow base 23 1 v k xs) (hg : Grew y z) : z.ownsRow base 23 1 v k xs := by
  refine ⟨h.1, h.2.imp id fun ⟨g, cap, cur, h1, h2, h3, h4⟩ => ⟨g, cap, cur, h1, h2, ?_, h4⟩⟩
  exact keepB h3 hg
theorem SR.grew {y z : World} {base k : Nat} {v : Value} {R : Nat → List Int} (h : SR y base k v R) (hg : Grew y z) : SR z base k v R := by
  obtain ⟨xs, h1, h2⟩ := h
  refine ⟨xs, own_grow h1 hg, fun i hi => ?_⟩
  obtain ⟨x, q1, q2, q3⟩ := h2 i hi
  exact ⟨x, q1, q2.grew hg, fun b hb => ⟨(q3 b hb).1, Nat.lt_of_lt_of_le (q3 b hb).2 hg.size⟩⟩
theorem SR.block {y : World} {base k : Nat} {v : Value} {R : Nat → List Int} (h : SR y base k v R) : ∀ b, v.ownBlock = some b → base ≤ b ∧ b < y.heap.size := by
  intro b hb
  obtain ⟨xs, h1, _⟩ := h
  rcases h1.2 with ⟨rfl, _⟩ | ⟨g, cap, cur, rfl, hbg, hg, _⟩
  · cases hb
  · cases hb
    exact ⟨hbg, lt_size hg⟩
theorem is_one {y : World} {x : Value} {l : List Int} (h : Is y x l) : x.oneCell' = true := by
  obtain ⟨A, c, rfl, _⟩ := h
  rfl
theorem sr_app (y : World) (base k : Nat) (v x : Value) (R : Nat → List Int) (h : SR y base k v R) (hx : Is y x (R k)) (hxb : ∀ b, x.ownBlock = some b → v.ownBlock ≠ some b ∧ b < y.heap.size) (hk : k ≤ 1000000) (hbase : base ≤ y.heap.size) :
    ∃ v' w', (Builtin.append_ #[53, 53] 53 #[v, .slice (some ⟨y.heap.size, 0, none⟩) 1 1]).run Tryz.prog (y.alloc (.cells #[x] 23)) = .ok v' w' ∧ SR w' base (k + 1) v' R ∧ Below base y w' := by
  have hone := is_one hx
  have ga : Grew y (y.alloc (.cells #[x] 23)) := by unfold Grew; go_grown
  have hblk := h.block
  obtain ⟨xs, h1, h2⟩ := h.grew ga
  obtain ⟨i0, hi, hz0, hz1, hz2⟩ := info_parts info23
  obtain ⟨v', w', hr, h5, h6, _, h7⟩ := run_append_own_at (P := Tryz.prog) (w := y.alloc (.cells #[x] 23)) base 53 53 23 i0 (.slice none 0 0) 1 24 Tryz.underlying53 hi hz0 hz1 hz2 rfl Nat.one_pos v k xs h1 ⟨y.heap.size, 0, none⟩ 1 1 [x] rfl (fun j u hu => by
    have hj : j = 0 := by
      have := (List.getElem?_eq_some_iff.1 hu).1
      simpa using this
    subst hj
    simp only [List.getElem?_cons_zero, Option.some.injEq] at hu
    subst hu
    exact World.cell?_alloc_mark _ _ _ _ _) (fun u hu => by simp only [List.mem_singleton] at hu; subst hu; exact hone) (by unfold maxLen; omega) (by omega) (Nat.le_trans hbase (by simp))
  have hsz : (y.alloc (.cells #[x] 23)).heap.size = y.heap.size + 1 := by simp
  have hbl : Below base (y.alloc (.cells #[x] 23)) w' := below_of_grown _ h6 (by rw [hsz]; omega) fun b hb => (hblk b hb).1
  have hxl := h1.1
  refine ⟨v', w', hr, ⟨xs ++ [x], h5, fun i hi => ?_⟩, ((Below.refl _ _).alloc hbase _).trans hbl⟩
  have keep : ∀ {u : Value} {l : List Int}, Is (y.alloc (.cells #[x] 23)) u l → (∀ b, u.ownBlock = some b → v.ownBlock ≠ some b ∧ b < y.heap.size) → Is w' u l ∧ ∀ b, u.ownBlock = some b → v'.ownBlock ≠ some b ∧ b < w'.heap.size := fun {u l} hi hb => by
    have hs := hbl.size
    refine ⟨is_keep hi fun b hbb => h6.block b (by have := (hb b hbb).2; omega) fun e => (hb b hbb).1 e.symm, fun b hbb => ⟨fun e => ?_, by have := (hb b hbb).2; omega⟩⟩
    rcases h7 with h7 | h7
    · rw [h7] at e
      exact (hb b hbb).1 e
    · rw [h7, hsz] at e
      have := (hb b hbb).2
      cases e
      omega
  by_cases hik : i = k
  · subst hik
    refine ⟨x, ?_, keep (hx.grew ga) hxb⟩
    rw [List.getElem?_append_right (by omega)]
    simp [hxl]
  · obtain ⟨u, q1, q2, q3⟩ := h2 i (by omega)
    refine ⟨u, ?_, keep q2 fun b hb => ⟨(q3 b hb).1, ?_⟩⟩
    · rw [List.getElem?_append_left (by omega)]
      exact q1
    · have := q3 b hb
      obtain ⟨xs0, h10, h20⟩ := h
      obtain ⟨u0, q10, q20, q30⟩ := h20 i (by omega)
      have hsame : xs0 = xs := by
        have e1 := own_grow h10 ga
        rcases e1.2 with ⟨e2, e3⟩ | ⟨g, cap, cur, e2, _, e4, _, _, _, e8⟩
        · rcases h1.2 with ⟨_, f3⟩ | ⟨g', cap', cur', f2, _⟩
          · have := e1.1
            have := h1.1
            rw [List.eq_nil_of_length_eq_zero (l := xs0) (by omega), List.eq_nil_of_length_eq_zero (l := xs) (by omega)]
          · rw [e2] at f2; cases f2
        · rcases h1.2 with ⟨f2, _⟩ | ⟨g', cap', cur', f2, _, f4, _, _, _, f8⟩
          · rw [e2] at f2; cases f2
          · rw [e2] at f2
            cases f2
            rw [e4] at f4
            cases f4
            rw [← e8, ← f8]
      subst hsame
      rw [q10] at q1
      cases q1
      exact (q30 b hb).2
theorem SR.rk {y : World} {base k : Nat} {v : Value} {R : Nat → List Int} (h : SR y base k v R) {L : List (List Int)} (hl : L.length = k) (hL : ∀ i r, L[i]? = some r → r = R i) : RK y v L := by
  obtain ⟨xs, h1, h2⟩ := h
  subst hl
  have cells : ∀ g cap, v = .slice (some ⟨g, 0, none⟩) L.length cap → ∀ (j : Nat) u, xs[j]? = some u → y.cell? ((⟨g, 0, none⟩ : Addr).add j) = some u := fun g cap e => by subst e; exact h1.cells (g := g) rfl
  rcases h1.2 with ⟨rfl, h0⟩ | ⟨g, cap, cur, rfl, hb, hg, hnc, hcm, _, _⟩
  · have : L = [] := List.eq_nil_of_length_eq_zero h0
    subst this
    exact RK.nil y
  · refine ⟨some ⟨g, 0, none⟩, cap, rfl, hnc, hcm, (fun h => by cases h), fun ad ha j row hr => ?_⟩
    cases ha
    have hj := (List.getElem?_eq_some_iff.1 hr).1
    obtain ⟨x, q1, q2, _⟩ := h2 j hj
    rw [hL j row hr]
    exact ⟨x, cells g cap rfl j x q1, q2⟩
def setRow (R : List (List Int)) (g who n : Int) (i : Nat) (q : Nat) : List Int := (List.range q).map fun k : Nat => if (i : Int) = g ∧ (k : Int) = who then n else cel (rk R i) k
def setAll (R : List (List Int)) (g who n : Int) : List (List Int) := (List.range R.length).map fun i => setRow R g who n i (rk R i).length
theorem setRow_succ (R : List (List Int)) (g who n : Int) (i q : Nat) : setRow R g who n i (q + 1) = setRow R g who n i q ++ [if (i : Int) = g ∧ (q : Int) = who then n else cel (rk R i) q] := by
  unfold setRow
  rw [List.range_succ, List.map_append]
  rfl
theorem setRow_len (R : List (List Int)) (g who n : Int) (i q : Nat) : (setRow R g who n i q).length = q := by unfold setRow; simp
theorem setAll_get (R : List (List Int)) (g who n : Int) (i : Nat) (r : List Int) (h : (setAll R g who n)[i]? = some r) : r = setRow R g who n i (rk R i).length := by
  unfold setAll at h
  rw [List.getElem?_map] at h
  obtain ⟨j, hj, rfl⟩ := Option.map_eq_some_iff.1 h
  have hlt := (List.getElem?_eq_some_iff.1 hj).1
  rw [List.getElem?_range (by simpa using hlt)] at hj
  cases hj
  rfl
theorem is_own_block {y : World} {b : Nat} {x : Value} {l : List Int} (h : y.ownsRow b 3 1 x l.length (iv l)) : ∀ k, x.ownBlock = some k → b ≤ k ∧ k < y.heap.size := by
  intro k hk
  rcases h.2 with ⟨rfl, _⟩ | ⟨g, cap, cur, rfl, hbg, hg, _⟩
  · cases hk
  · cases hk
    exact ⟨hbg, lt_size hg⟩
set_option maxRecDepth 100000 in
set_option maxHeartbeats 4000000 in
theorem set_any (w : World) (vr : Value) (R : List (List Int)) (g who n : Int) (h : RK w vr R) (hl : R.length ≤ 100) (hc : ∀ i, (rk R i).length ≤ 100) :
    Calls Tryz.prog 42 #[vr, .int .i64 g, .int .i64 who, .int .i64 n] w fun e w' => ∃ v', e = .returned v' ∧ RK w' v' (setAll R g who n) ∧ Grew w w' := by
  have HRK := Lib.hid h
  obtain ⟨A, c, rfl, _⟩ := id h
  have HC := Lib.hid hc
  have HL := Lib.hid hl
  clear h hc hl
  go_enter Tryz.func42, Tryz.ntmps42
  go_wp2
  go_loopg [9, 10, 11, 12] R.length (fun q s9 s10 s11 s12 wx => ∃ (k : Nat) (v9 : Value), k + q = R.length ∧ v9 = s9 ∧ s10 = .int .i64 k ∧ Hid (SR wx w.heap.size k v9 (fun i => setRow R g who n i (rk R i).length)) ∧ Hid (Grew w wx))
  case atStart => exact ⟨0, _, by omega, rfl, rfl, Lib.hid (SR.nil _ _ _), Lib.hid (Grew.refl _)⟩
  case round =>
    obtain ⟨k, v9, hkg, rfl, rfl, HS, HG⟩ := hrel
    cases gk with
    | zero =>
      have hkz : ¬ ((k : Int) < (R.length : Int)) := by omega
      have HE : Hid (RK wr v9 (setAll R g who n)) := Lib.hid (HS.out.rk (by unfold setAll; simp; omega) (setAll_get R g who n))
      go_wp2
      go_returns
      exact ⟨_, rfl, HE.out, HG.out⟩
    | succ q =>
      have hkz : (k : Int) < (R.length : Int) := by omega
      obtain ⟨ad, c2, A', c', e, hcl, hrow⟩ := (HRK.out.grew HG.out).at (k := k) (by omega)
      injection e with e1 _ e3
      subst e1 e3
      have C0 := Lib.hid hcl
      have HROW := Lib.hid hrow
      have HRL := Lib.hid (HC.out k)
      obtain ⟨bs, hbs⟩ : ∃ bs, bs = wr.heap.size := ⟨_, rfl⟩
      have HBS := Lib.hid hbs
      obtain ⟨W0, hW0⟩ : ∃ W0, W0 = wr := ⟨_, rfl⟩
      rw [← hW0] at HS HG HBS C0 HROW
      have HW0 := Lib.hid hW0
      have hkw : wrap64 ((k : Int) + 1) = (k : Int) + 1 := by
        have := HL.out
        unfold wrap64
        omega
      clear hrow hbs hW0
      go_wp2
      clear hcl
      go_loopg [11, 12] (rk R k).length (fun q s11 s12 wx => ∃ (j : Nat) (v11 : Value), j + q = (rk R k).length ∧ v11 = s11 ∧ s12 = .int .i64 j ∧ Hid (wx.ownsRow bs 3 1 v11 (setRow R g who n k j).length (iv (setRow R g who n k j))) ∧ Hid (Grew W0 wx))
      case atStart => exact ⟨0, _, by omega, rfl, rfl, Lib.hid (own_nil _ _), Lib.hid (by rw [HW0.out]; exact Grew.refl _)⟩
      case round =>
        obtain ⟨j, v11, hjg, rfl, rfl, HI, HG2⟩ := hrel
        have c0 := cellB HG2.out C0.out
        cases gk with
        | zero =>
          have hjz : ¬ ((j : Int) < ((rk R k).length : Int)) := by omega
          have hj : j = (rk R k).length := by omega
          have HX : Hid (Is wr v11 (setRow R g who n k (rk R k).length)) := Lib.hid (by
            have := Is.of_own HI.out rfl
            rw [hj] at this
            exact this)
          obtain ⟨A11, c11, hv11, _⟩ := id HX.out
          subst hv11
          obtain ⟨v', w', hr, hsr, hb⟩ := sr_app wr w.heap.size k v9 _ (fun i => setRow R g who n i (rk R i).length) (HS.out.grew HG2.out) HX.out (fun b hb => by
            have h1 := is_own_block HI.out b hb
            refine ⟨fun e => ?_, h1.2⟩
            have h2 := HS.out.block b e
            have := HBS.out
            omega) (by have := HL.out; omega) (HG.out.trans HG2.out).size
          have HAPP := Lib.hid hr
          have HSR := Lib.hid hsr
          have HG3 : Hid (Grew w w') := Lib.hid ((show Below w.heap.size w wr from HG.out.trans HG2.out).trans hb)
          clear hr hsr hb hj
          go_wp2_with (at_builtin; refine wpList_app_want (.tmp 50) (.tmp 52) 53 (by rfl) (by rfl) _ _ rfl rfl v' w' (by exact HAPP.out) ?_)
          go_roundg q
          case measure => omega
          case rel => exact ⟨k + 1, _, by omega, rfl, by first | rfl | simp [hkw], HSR, HG3⟩
        | succ q2 =>
          have hjz : (j : Int) < ((rk R k).length : Int) := by omega
          have hjw : wrap64 ((j : Int) + 1) = (j : Int) + 1 := by
            have := HRL.out
            unfold wrap64
            omega
          obtain ⟨ar, rfl, hca⟩ := Is.at' (HROW.out.grew HG2.out) (k := j) (by omega)
          by_cases hg1 : (k : Int) = g
          · by_cases hw1 : (j : Int) = who
            · have HSU : Hid (setRow R g who n k (j + 1) = setRow R g who n k j ++ [n]) := Lib.hid ((setRow_succ R g who n k j).trans (by rw [if_pos ⟨hg1, hw1⟩]))
              have hb1 : ((k : Int) == g) = true := by simpa using hg1
              have hb2 : ((j : Int) == who) = true := by simpa using hw1
              clear hg1 hw1
              obtain ⟨v', w3, hr, hown, hb⟩ := app_one wr bs v11 (setRow R g who n k j) (n) HI.out (by rw [setRow_len]; have := HRL.out; omega) (by have := HBS.out; have := HG2.out.size; omega)
              have HAPP := Lib.hid hr
              have HO := Lib.hid hown
              have HG3 : Hid (Grew W0 w3) := Lib.hid (by
                have h1 := HG2.out
                unfold Grew at h1 ⊢
                rw [← HBS.out] at h1 ⊢
                exact h1.trans hb)
              clear hr hown hb
              go_wp2_with (at_builtin; refine wpList_app_want (.tmp 36) (.tmp 38) 23 (by rfl) (by rfl) _ _ rfl rfl v' w3 (by exact HAPP.out) ?_)
              go_roundg q2
              case measure => omega
              case rel =>
                refine ⟨j + 1, _, by omega, rfl, by first | rfl | simp [hjw], ?_, HG3⟩
                rw [HSU.out]
                exact HO
            · have HSU : Hid (setRow R g who n k (j + 1) = setRow R g who n k j ++ [cel (rk R k) j]) := Lib.hid ((setRow_succ R g who n k j).trans (by rw [if_neg (fun h => hw1 h.2)]))
              have hb1 : ((k : Int) == g) = true := by simpa using hg1
              have hb2 : ((j : Int) == who) = false := by simpa using hw1
              clear hg1 hw1
              obtain ⟨v', w3, hr, hown, hb⟩ := app_one wr bs v11 (setRow R g who n k j) (cel (rk R k) j) HI.out (by rw [setRow_len]; have := HRL.out; omega) (by have := HBS.out; have := HG2.out.size; omega)
              have HAPP := Lib.hid hr
              have HO := Lib.hid hown
              have HG3 : Hid (Grew W0 w3) := Lib.hid (by
                have h1 := HG2.out
                unfold Grew at h1 ⊢
                rw [← HBS.out] at h1 ⊢
                exact h1.trans hb)
              clear hr hown hb
              go_wp2_with (at_builtin; refine wpList_app_want (.tmp 40) (.tmp 48) 23 (by rfl) (by rfl) _ _ rfl rfl v' w3 (by exact HAPP.out) ?_)
              go_roundg q2
              case measure => omega
              case rel =>
                refine ⟨j + 1, _, by omega, rfl, by first | rfl | simp [hjw], ?_, HG3⟩
                rw [HSU.out]
                exact HO
          · have HSU : Hid (setRow R g who n k (j + 1) = setRow R g who n k j ++ [cel (rk R k) j]) := Lib.hid ((setRow_succ R g who n k j).trans (by rw [if_neg (fun h => hg1 h.1)]))
            have hb1 : ((k : Int) == g) = false := by simpa using hg1
            clear hg1
            obtain ⟨v', w3, hr, hown, hb⟩ := app_one wr bs v11 (setRow R g who n k j) (cel (rk R k) j) HI.out (by rw [setRow_len]; have := HRL.out; omega) (by have := HBS.out; have := HG2.out.size; omega)
            have HAPP := Lib.hid hr
            have HO := Lib.hid hown
            have HG3 : Hid (Grew W0 w3) := Lib.hid (by
              have h1 := HG2.out
              unfold Grew at h1 ⊢
              rw [← HBS.out] at h1 ⊢
              exact h1.trans hb)
            clear hr hown hb
            go_wp2_with (at_builtin; refine wpList_app_want (.tmp 40) (.tmp 48) 23 (by rfl) (by rfl) _ _ rfl rfl v' w3 (by exact HAPP.out) ?_)
            go_roundg q2
            case measure => omega
            case rel =>
              refine ⟨j + 1, _, by omega, rfl, by first | rfl | simp [hjw], ?_, HG3⟩
              rw [HSU.out]
              exact HO
end Go.Proofs.YtmegdgeiikhflaaGreat.HT
