/-
  Ranks in which nothing was done, as the document makes them.
  Conditions: of a realm that may be.
-/
import Derived.Test.YtmegdgeiikhflaaGreatHP
namespace Go.Proofs.YtmegdgeiikhflaaGreat.DN
set_option maxRecDepth 100000
open Go Go.RowKit Go.Lib Go.Proofs.YtmegdgeiikhflaaGreat Go.Proofs.YtmegdgeiikhflaaGreat.Facts Go.Proofs.YtmegdgeiikhflaaGreat.Plain Go.Proofs.YtmegdgeiikhflaaGreat.Ints Go.Proofs.YtmegdgeiikhflaaGreat.RRows Go.Proofs.YtmegdgeiikhflaaGreat.LBox Go.Proofs.YtmegdgeiikhflaaGreat.RSmall Go.Proofs.YtmegdgeiikhflaaGreat.RFind Go.Proofs.YtmegdgeiikhflaaGreat.RAll Go.Proofs.YtmegdgeiikhflaaGreat.RRules Go.Proofs.YtmegdgeiikhflaaGreat.RRule3 Go.Proofs.YtmegdgeiikhflaaGreat.RRight Go.Proofs.YtmegdgeiikhflaaGreat.HA Go.Proofs.YtmegdgeiikhflaaGreat.HB Go.Proofs.YtmegdgeiikhflaaGreat.HG Go.Proofs.YtmegdgeiikhflaaGreat.HC Go.Proofs.YtmegdgeiikhflaaGreat.HD Go.Proofs.YtmegdgeiikhflaaGreat.HN Go.Proofs.YtmegdgeiikhflaaGreat.HW Go.Proofs.YtmegdgeiikhflaaGreat.HR Go.Proofs.YtmegdgeiikhflaaGreat.HT Go.Proofs.YtmegdgeiikhflaaGreat.HP Go.Proofs.YtmegdgeiikhflaaGreat.Bytes

theorem m5 {k q n : Nat} (h : k + (q + 1) = n) (h8 : n ≤ 8) : k ≤ 1000000 := by omega
theorem m6 {bs b w s : Nat} (h1 : bs ≤ b) (h2 : w ≤ b ∧ b < s) (h3 : bs = s) : False := by omega
theorem m7 {j q n : Nat} (h : j + (q + 1) = n) (h8 : n ≤ 8) : (j + 1) * 8 ≤ 140737488355328 := by omega
theorem m8 {j n : Nat} (h : j + 0 = n) : ¬ (j : Int) < (n : Int) := by omega
theorem m9 {j q n : Nat} (h : j + (q + 1) = n) : (j : Int) < (n : Int) := by omega
theorem m10 {j q n : Nat} (h : j + (q + 1) = n) (h8 : n ≤ 8) : wrap64 ((j : Int) + 1) = (j : Int) + 1 := by unfold wrap64; omega
theorem m4 {k g n : Nat} (h : k + (g + 1) = n) : k + 1 + g = n := by omega
def nrow (r : Re) (i q : Nat) : List Int := (List.range q).map fun k : Nat => if (gu r i).founder = (k : Int) then 2 else 0
theorem nrow_succ (r : Re) (i q : Nat) : nrow r i (q + 1) = nrow r i q ++ [if (gu r i).founder = (q : Int) then 2 else 0] := by
  unfold nrow
  rw [List.range_succ, List.map_append]
  rfl
theorem nrow_len (r : Re) (i q : Nat) : (nrow r i q).length = q := by unfold nrow; simp
theorem nrow_is {r : Re} (h : mayBe r = true) {i : Nat} (hi : i < r.guilds.length) : nrow r i r.accounts.length = HN.newRow r i := by
  obtain ⟨g0, g1⟩ := founder_in h hi
  unfold HN.newRow
  refine ext_row (by rw [nrow_len]; simp) fun j hj => ?_
  rw [nrow_len] at hj
  rw [cel_set _ _ _ _ (by simp; omega)]
  unfold nrow
  show ((List.map _ (List.range _))[j]?).getD 0 = _
  rw [List.getElem?_map, List.getElem?_range hj]
  simp only [Option.map_some, Option.getD_some]
  by_cases hf : (gu r i).founder = (j : Int)
  · rw [if_pos hf, if_pos (by omega)]
  · rw [if_neg hf, if_neg (by omega)]
    unfold cel
    rw [List.getElem?_replicate]
    simp [hj]
set_option maxHeartbeats 8000000 in
theorem rnew_any (v : Value) (r : Re) (w : World) (h : ReIs w v r) (hm : mayBe r = true) : Calls Tryz.prog 39 #[v] w fun e w' => ∃ v', e = .returned v' ∧ RK w' v' (newR r) ∧ Grew w w' := by
  obtain ⟨v0, v1, v2, v3, v4, rfl, h0, h1, h2, h3, h4⟩ := h
  have HL3 := Lib.hid h3
  obtain ⟨A0', cp0, rfl, _⟩ := h0.slice
  obtain ⟨A1', cp1, rfl, _⟩ := id h1
  obtain ⟨A2', cp2, rfl, _⟩ := h2.slice
  obtain ⟨A3', cp3, rfl, _⟩ := h3.slice
  obtain ⟨A4', cp4, rfl, _⟩ := h4.slice
  obtain ⟨ha8, hg8, _⟩ := sizes hm
  have HA8 := Lib.hid ha8
  have HG8 := Lib.hid hg8
  have HMB := Lib.hid hm
  clear h0 h1 h2 h3 h4 ha8 hg8 hm
  have G0 : Hid (Grew w (w.alloc (Obj.cells #[.slice A0' r.labels.length cp0, .slice A1' r.lines.length cp1, .slice A2' r.accounts.length cp2, .slice A3' r.guilds.length cp3, .slice A4' r.quotas.length cp4, .int .i64 r.orders, .int .i64 r.audits, .int .i64 r.rate, .int .i64 r.rounds] 28))) := Lib.hid (by unfold Grew; go_grown)
  have R0 : Hid ((w.alloc (Obj.cells #[.slice A0' r.labels.length cp0, .slice A1' r.lines.length cp1, .slice A2' r.accounts.length cp2, .slice A3' r.guilds.length cp3, .slice A4' r.quotas.length cp4, .int .i64 r.orders, .int .i64 r.audits, .int .i64 r.rate, .int .i64 r.rounds] 28)).heap[w.heap.size]? = some (rcell (.slice A0' r.labels.length cp0) (.slice A1' r.lines.length cp1) (.slice A2' r.accounts.length cp2) (.slice A3' r.guilds.length cp3) (.slice A4' r.quotas.length cp4) r.orders r.audits r.rate r.rounds)) := Lib.hid (heap_alloc_new w _)
  go_enter Tryz.func39, Tryz.ntmps39
  go_wp2
  go_loopg [3, 4, 5, 6] r.guilds.length (fun q s3 s4 s5 s6 wx => ∃ (k : Nat) (v3 : Value), k + q = r.guilds.length ∧ v3 = s3 ∧ s4 = .int .i64 k ∧ Hid (SR wx (w.heap.size + 1) k v3 (fun i => nrow r i r.accounts.length)) ∧ Hid (Grew (w.alloc (Obj.cells #[.slice A0' r.labels.length cp0, .slice A1' r.lines.length cp1, .slice A2' r.accounts.length cp2, .slice A3' r.guilds.length cp3, .slice A4' r.quotas.length cp4, .int .i64 r.orders, .int .i64 r.audits, .int .i64 r.rate, .int .i64 r.rounds] 28)) wx))
  case atStart => exact ⟨0, _, by omega, rfl, rfl, Lib.hid (SR.nil _ _ _), Lib.hid (Grew.refl _)⟩
  case round =>
    obtain ⟨k, v3, hkg, rfl, rfl, HS, HG⟩ := hrel
    have RX := Lib.hid (keepB R0.out HG.out)
    obtain ⟨r0, r1, r2, r3, r4, r5, r6, r7, r8⟩ := re_cells RX.out
    cases gk with
    | zero =>
      have hkz : ¬ ((k : Int) < (r.guilds.length : Int)) := by omega
      have HE : Hid (RK wr v3 (newR r)) := Lib.hid (HS.out.rk (by unfold newR; rw [if_pos HMB.out]; simp; omega) (fun i row hrow => by
        unfold newR at hrow
        rw [if_pos HMB.out] at hrow
        have hi : i < r.guilds.length := by
          have := (List.getElem?_eq_some_iff.1 hrow).1
          simpa using this
        rw [newRows_get r hi] at hrow
        cases hrow
        exact (nrow_is HMB.out hi).symm))
      go_wp2
      go_returns
      exact ⟨_, rfl, HE.out, G0.out.trans HG.out⟩
    | succ q =>
      have hkz : (k : Int) < (r.guilds.length : Int) := by omega
      obtain ⟨ad, c2, e, hc2, c0, c1⟩ := Gs_at (HL3.out.grew (G0.out.trans HG.out)) (gu_get (k := k) (by omega))
      injection e with e1 _ e3
      subst e1 e3
      have C1 := Lib.hid c1
      obtain ⟨bs, hbs⟩ : ∃ bs, bs = wr.heap.size := ⟨_, rfl⟩
      have HBS := Lib.hid hbs
      obtain ⟨W0, hW0⟩ : ∃ W0, W0 = wr := ⟨_, rfl⟩
      rw [← hW0] at HS HG HBS C1 RX
      have HW0 := Lib.hid hW0
      have hkw : wrap64 ((k : Int) + 1) = (k : Int) + 1 := by
        have := HG8.out
        unfold wrap64
        omega
      clear hbs hW0 c0 c1
      go_wp2
      clear r0 r1 r2 r3 r4 r5 r6 r7 r8
      go_loopg [5, 6] r.accounts.length (fun q s5 s6 wx => ∃ (j : Nat) (v11 : Value), j + q = r.accounts.length ∧ v11 = s5 ∧ s6 = .int .i64 j ∧ Hid (wx.ownsRow bs 3 1 v11 (nrow r k j).length (iv (nrow r k j))) ∧ Hid (Grew W0 wx))
      case atStart => exact ⟨0, _, by omega, rfl, rfl, Lib.hid (own_nil _ _), Lib.hid (by rw [HW0.out]; exact Grew.refl _)⟩
      case round =>
        obtain ⟨j, v11, hjg, rfl, rfl, HI, HG2⟩ := hrel
        obtain ⟨r0, r1, r2, r3, r4, r5, r6, r7, r8⟩ := re_cells (keepB RX.out HG2.out)
        have c1 := cellB HG2.out C1.out
        cases gk with
        | zero =>
          have hjz : ¬ ((j : Int) < (r.accounts.length : Int)) := m8 hjg
          have hj : j = r.accounts.length := hjg
          have HX : Hid (Is wr v11 (nrow r k r.accounts.length)) := Lib.hid (by
            have := Is.of_own HI.out rfl
            rw [hj] at this
            exact this)
          obtain ⟨A11, c11, hv11, _⟩ := id HX.out
          subst hv11
          obtain ⟨v', w', hr, hsr, hb⟩ := sr_app wr (w.heap.size + 1) k v3 _ (fun i => nrow r i r.accounts.length) (HS.out.grew HG2.out) HX.out (fun b hb => by
            have h1 := is_own_block HI.out b hb
            exact ⟨fun e => m6 h1.1 (HS.out.block b e) HBS.out, h1.2⟩) (m5 hkg HG8.out) (by have h1 := (HG.out.trans HG2.out).size; rw [World.size_alloc] at h1; exact h1)
          have HAPP := Lib.hid hr
          have HSR := Lib.hid hsr
          have HG3 : Hid (Grew (w.alloc (Obj.cells #[.slice A0' r.labels.length cp0, .slice A1' r.lines.length cp1, .slice A2' r.accounts.length cp2, .slice (some ad) r.guilds.length cp3, .slice A4' r.quotas.length cp4, .int .i64 r.orders, .int .i64 r.audits, .int .i64 r.rate, .int .i64 r.rounds] 28)) w') := Lib.hid (by
            have h1 := HG.out.trans HG2.out
            unfold Grew at h1 ⊢
            rw [World.size_alloc] at h1 ⊢
            exact h1.trans hb)
          clear hr hsr hb hj c1
          go_wp2_with (at_builtin; refine wpList_app_want (.tmp 35) (.tmp 37) 53 (by rfl) (by rfl) _ _ rfl rfl v' w' (by exact HAPP.out) ?_)
          go_roundg q
          case measure => exact Nat.lt_succ_self _
          case rel => exact ⟨k + 1, _, m4 hkg, rfl, by first | rfl | simp [hkw], HSR, HG3⟩
        | succ q2 =>
          have hjz : (j : Int) < (r.accounts.length : Int) := m9 hjg
          have HJG := Lib.hid hjg
          have hjw : wrap64 ((j : Int) + 1) = (j : Int) + 1 := m10 hjg HA8.out
          clear hjg hkg
          obtain ⟨fo, hfo⟩ : ∃ fo, (gu r k).founder = fo := ⟨_, rfl⟩
          rw [hfo] at c1
          have HFO := Lib.hid hfo
          clear hfo
          by_cases hf : fo = (j : Int)
          · have HSU : Hid (nrow r k (j + 1) = nrow r k j ++ [2]) := Lib.hid ((nrow_succ r k j).trans (by rw [HFO.out, if_pos hf]))
            have hb1 : (fo == (j : Int)) = true := by simpa using hf
            clear hf
            obtain ⟨v', w3, hr, hown, hb⟩ := app_one wr bs v11 (nrow r k j) (2) HI.out (by rw [nrow_len]; exact m7 HJG.out HA8.out) (by rw [HBS.out]; exact HG2.out.size)
            have HAPP := Lib.hid hr
            have HO := Lib.hid hown
            have HG3 : Hid (Grew W0 w3) := Lib.hid (by
              have h1 := HG2.out
              unfold Grew at h1 ⊢
              rw [← HBS.out] at h1 ⊢
              exact h1.trans hb)
            clear hr hown hb
            go_wp2_with (at_builtin; refine wpList_app_want (.tmp 29) (.tmp 30) 23 (by rfl) (by rfl) _ _ rfl rfl v' w3 (by exact HAPP.out) ?_)
            go_roundg q2
            case measure => exact Nat.lt_succ_self _
            case rel =>
              refine ⟨j + 1, _, m4 HJG.out, rfl, by first | rfl | simp [hjw], ?_, HG3⟩
              rw [HSU.out]
              exact HO
          · have HSU : Hid (nrow r k (j + 1) = nrow r k j ++ [0]) := Lib.hid ((nrow_succ r k j).trans (by rw [HFO.out, if_neg hf]))
            have hb1 : (fo == (j : Int)) = false := by simpa using hf
            clear hf
            obtain ⟨v', w3, hr, hown, hb⟩ := app_one wr bs v11 (nrow r k j) (0) HI.out (by rw [nrow_len]; exact m7 HJG.out HA8.out) (by rw [HBS.out]; exact HG2.out.size)
            have HAPP := Lib.hid hr
            have HO := Lib.hid hown
            have HG3 : Hid (Grew W0 w3) := Lib.hid (by
              have h1 := HG2.out
              unfold Grew at h1 ⊢
              rw [← HBS.out] at h1 ⊢
              exact h1.trans hb)
            clear hr hown hb
            go_wp2_with (at_builtin; refine wpList_app_want (.tmp 32) (.tmp 33) 23 (by rfl) (by rfl) _ _ rfl rfl v' w3 (by exact HAPP.out) ?_)
            go_roundg q2
            case measure => exact Nat.lt_succ_self _
            case rel =>
              refine ⟨j + 1, _, m4 HJG.out, rfl, by first | rfl | simp [hjw], ?_, HG3⟩
              rw [HSU.out]
              exact HO
end Go.Proofs.YtmegdgeiikhflaaGreat.DN
