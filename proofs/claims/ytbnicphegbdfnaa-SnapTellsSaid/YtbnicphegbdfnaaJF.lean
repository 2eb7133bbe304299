/-
  What a journal says.
  Conditions: those that each lemma names.
-/
import Derived.Test.YtbnicphegbdfnaaJE
namespace Go.Proofs.Ytbnicphegbdfnaa.JF
set_option maxRecDepth 100000
set_option maxRecDepth 100000
open Go Go.RowKit Go.Proofs.Ytbnicphegbdfnaa Go.Proofs.Ytbnicphegbdfnaa.Facts Go.Proofs.Ytbnicphegbdfnaa.Bytes Go.Proofs.Ytbnicphegbdfnaa.DKeep Go.Proofs.Ytbnicphegbdfnaa.DSmall Go.Proofs.Ytbnicphegbdfnaa.DRead Go.Proofs.Ytbnicphegbdfnaa.Puts Go.Proofs.Ytbnicphegbdfnaa.SPure Go.Proofs.Ytbnicphegbdfnaa.JA Go.Proofs.Ytbnicphegbdfnaa.JB Go.Proofs.Ytbnicphegbdfnaa.JC Go.Proofs.Ytbnicphegbdfnaa.JD

/-- The loads of m sectors, from the sector a on, behind acc; none, if one is not right. -/
def loadsAt (last : List Sec) (first base : Nat) : Nat → Nat → List UInt8 → Option (List UInt8)
  | 0, _, acc => some acc
  | m + 1, a, acc =>
    let o := opened (last[first + a]?.getD [])
    if o.2.2 = 0 ∧ o.1 = base + a then loadsAt last first base m (a + 1) (acc ++ o.2.1) else none
/-- What m places say, from the sector a on, behind what was said. -/
def jscan (last : List Sec) (first base each : Nat) : Nat → Nat → List (List UInt8) → List (List UInt8)
  | 0, _, said => said
  | m + 1, a, said => match loadsAt last first base each a [] with
    | none => said
    | some l => if (toldS l).2 = true then jscan last first base each m (a + each) (said ++ [(toldS l).1]) else said
/-- A row of bytes. -/
def BS (base : Nat) (w : World) (v : Value) (l : List (List UInt8)) : Prop := ∃ ws : List Value, w.ownsRow base 23 1 v l.length ws ∧ ∀ (i : Nat) (x : List UInt8), l[i]? = some x → ∃ u, ws[i]? = some u ∧ Rd (fun b => b < w.heap.size ∧ v.ownBlock ≠ some b) w u x
theorem BS.nil (base : Nat) (w : World) : BS base w (.slice none 0 0) [] := ⟨[], World.ownsRow_nil _ _ _ _, fun i x h => by cases h⟩
theorem own_grew {w w' : World} {b e m n : Nat} {v : Value} {xs : List Value} (h : w.ownsRow b e m v n xs) (hg : Grew w w') : w'.ownsRow b e m v n xs := by
  refine ⟨h.1, ?_⟩
  rcases h.2 with h2 | ⟨g, cap, cur, rfl, hb, hgg, h3⟩
  · exact .inl h2
  · exact .inr ⟨g, cap, cur, rfl, hb, DWrite.keepB hgg hg, h3⟩
theorem BS.grew {base : Nat} {w w' : World} {v : Value} {l : List (List UInt8)} (h : BS base w v l) (hg : Grew w w') : BS base w' v l := by
  obtain ⟨ws, h1, h2⟩ := h
  refine ⟨ws, own_grew h1 hg, fun i x hx => ?_⟩
  obtain ⟨u, hu, hr⟩ := h2 i x hx
  exact ⟨u, hu, (hr.grew hg).mono fun b hb => ⟨Nat.lt_of_lt_of_le hb.1 hg.size, hb.2⟩⟩
theorem zero23 : (Try.prog.info? 23).map (fun i => (i.zero.map (·.cells.size), i.size, i.bytes)) = some (some 1, 1, 24) := by kernel_rfl
theorem parts23 : ∃ i z, Try.prog.info? 23 = some i ∧ i.zero = some z ∧ i.size = 1 ∧ i.bytes = 24 ∧ z.cells.size = 1 := by
  have h := zero23
  cases hq : Try.prog.info? 23 with
  | none => simp [hq] at h
  | some i =>
    cases hz : i.zero with
    | none => simp [hq, hz] at h
    | some z => simp [hq, hz] at h; exact ⟨i, z, rfl, hz, h.2.1, h.2.2, h.1⟩
theorem app_bytes (W : World) (base : Nat) (v : Value) (ws : List Value) (n : Nat) (B : Value) (h1B : B.oneCell' = true) (kk : Nat) (hown : W.ownsRow base 23 1 v n ws) (hk : W.cell? ⟨kk, 0, none⟩ = some B) (hl : n ≤ 1073741824) (hb : base ≤ W.heap.size) :
    ∃ v' W', (Builtin.append_ #[57, 57] 57 #[v, .slice (some ⟨kk, 0, none⟩) 1 1]).run Try.prog W = .ok v' W' ∧ W'.ownsRow base 23 1 v' (n + 1) (ws ++ [B]) ∧ W.grownBy W' v.ownBlock ∧ (∀ j, v'.ownBlock = some j → v.ownBlock = some j ∨ W.heap.size ≤ j) := by
  obtain ⟨i, z, hi, hz, hs, hby, hzs⟩ := parts23
  have hnews : ∀ j u, [B][j]? = some u → W.cell? ((⟨kk, 0, none⟩ : Addr).add j) = some u := fun j u hu => by
    match j, hu with
    | 0, hu => simp at hu; subst hu; rw [Addr.add_mid]; exact hk
  have h1 : ∀ u ∈ [B], u.oneCell' = true := fun u hu => by simp at hu; subst hu; exact h1B
  obtain ⟨v', W', hr, h2, h3, _⟩ := run_append_own (P := Try.prog) W base 57 57 23 i z 1 24 Try.underlying57 hi hz hs hby hzs (by omega) v n ws hown ⟨kk, 0, none⟩ 1 1 [B] rfl hnews h1 (by unfold maxLen; omega) (by omega) hb
  refine ⟨v', W', hr, h2, h3, ?_⟩
  intro j hj
  rcases hown.2 with ⟨rfl, h0⟩ | ⟨g, cap, cur, rfl, hbg, hg, hnc, hcm, hcs, htake⟩
  · have hx0 : ws = [] := List.eq_nil_of_length_eq_zero (by have := hown.1; omega)
    subst hx0
    subst h0
    obtain ⟨v2, W2, hr2, h52, _, _⟩ := run_append_own (P := Try.prog) W W.heap.size 57 57 23 i z 1 24 Try.underlying57 hi hz hs hby hzs (by omega) (.slice none 0 0) 0 [] (World.ownsRow_nil _ _ _ _) ⟨kk, 0, none⟩ 1 1 [B] rfl hnews h1 (by decide) (by omega) (Nat.le_refl _)
    have e := hr.symm.trans hr2
    injection e with e1 e2
    subst e1
    rcases h52.2 with ⟨rfl, _⟩ | ⟨q, _, _, rfl, hq2, _⟩
    · cases hj
    · simp [Value.ownBlock] at hj
      subst hj
      exact .inr hq2
  · by_cases hroom : n + 1 ≤ cap
    · have hfit : n * i.size + [B].length ≤ cur.size := by rw [hs, hcs]; simp; omega
      have hr2 := run_append_room (P := Try.prog) W 57 57 23 i Try.underlying57 hi g n cap cur hg ⟨kk, 0, none⟩ 1 1 [B] (by rw [hs]; rfl) hnews h1 hroom hfit
      have e := hr.symm.trans hr2
      injection e with e1 e2
      subst e1
      exact .inl hj
    · have holds : ∀ j u, ws[j]? = some u → W.cell? ((⟨g, 0, none⟩ : Addr).add j) = some u := hown.cells (g := g) rfl
      have hr2 := run_append_grow (P := Try.prog) W 57 57 23 i z Try.underlying57 hi hz ⟨g, 0, none⟩ n cap ws (by rw [hs]; exact hown.1) holds ⟨kk, 0, none⟩ 1 1 [B] (by rw [hs]; rfl) hnews (by omega) (by omega) (by rw [hby]; exact growslice_fits (by omega) (by omega))
      have e := hr.symm.trans hr2
      injection e with e1 e2
      subst e1
      simp [Value.ownBlock] at hj
      exact .inr (by omega)
theorem own_sl {w : World} {b e m n : Nat} {v : Value} {xs : List Value} (h : w.ownsRow b e m v n xs) : ∃ A c, v = .slice A n c := by
  rcases h.2 with ⟨rfl, rfl⟩ | ⟨g, cap, cur, rfl, _⟩
  · exact ⟨_, _, rfl⟩
  · exact ⟨_, _, rfl⟩
theorem bs_app (w3 : World) (base : Nat) (v : Value) (said : List (List UInt8)) (S : Nat → Prop) (u : Value) (x : List UInt8) (hb : BS base w3 v said) (hu : u.oneCell' = true) (hr : Rd S w3 u x) (hS : ∀ b, S b → v.ownBlock ≠ some b) (hl : said.length ≤ 1073741824) (hbs : base ≤ w3.heap.size) :
    ∃ A c W', (Builtin.append_ #[57, 57] 57 #[v, .slice (some ⟨w3.heap.size, 0, none⟩) 1 1]).run Try.prog (w3.alloc (.cells #[u] 23))= .ok (.slice A (said ++ [x]).length c) W' ∧ BS base W' (.slice A (said ++ [x]).length c) (said ++ [x]) ∧ Below base w3 W' := by
  have hgn : Grew w3 (w3.alloc (.cells #[u] 23)) := (Below.refl _ _).alloc (Nat.le_refl _) _
  obtain ⟨ws, hown, hel⟩ := hb
  have hcell : (w3.alloc (.cells #[u] 23)).cell? ⟨w3.heap.size, 0, none⟩ = some u := by
    have h : (w3.alloc (.cells #[u] 23)).heap[w3.heap.size]? = _ := heap_alloc_new w3 _
    unfold World.cell?
    simp only [h]
    rfl
  obtain ⟨v', W', hrun, hown2, hgb, hob⟩ := app_bytes (w3.alloc (.cells #[u] 23)) base v ws said.length u hu w3.heap.size (own_grew hown hgn) hcell hl (Nat.le_trans hbs hgn.size)
  have hlen : said.length + 1 = (said ++ [x]).length := by simp
  rw [hlen] at hown2
  obtain ⟨A, c, rfl⟩ := own_sl hown2
  have hvb : ∀ k, v.ownBlock = some k → base ≤ k ∧ k < w3.heap.size := fun k hk => by
    rcases hown.2 with ⟨rfl, _⟩ | ⟨g, cap, cur, rfl, hb1, hg1, _⟩
    · cases hk
    · simp [Value.ownBlock] at hk
      subst hk
      exact ⟨hb1, (Array.getElem?_eq_some_iff.1 hg1).1⟩
  have hwl : ws.length = said.length := by have := hown.1; omega
  have hmove : ∀ (T : Nat → Prop) (y : Value) (z : List UInt8), Rd T w3 y z → (∀ b, T b → b < w3.heap.size → v.ownBlock ≠ some b) → Rd (fun b => b < W'.heap.size ∧ (Value.slice A (said ++ [x]).length c).ownBlock ≠ some b) W' y z := fun T y z hy hT => by
    have h1 : Rd (fun b => T b ∧ b < w3.heap.size) W' y z := hy.lt.keep fun b hb1 hb2 => (hgb.block b (Nat.lt_of_lt_of_le hb1 hgn.size) (fun e => hT b hb2.1 hb2.2 e.symm)).trans (hgn.block b hb1)
    refine h1.mono fun b hb => ⟨Nat.lt_of_lt_of_le hb.2 (Nat.le_trans hgn.size hgb.size), fun e => ?_⟩
    rcases hob b e with h | h
    · exact hT b hb.1 hb.2 h
    · have := hgn.size; have := hb.2; omega
  refine ⟨A, c, W', hrun, ⟨ws ++ [u], hown2, fun i y hy => ?_⟩, ((Below.refl base w3).alloc hbs _).trans (below_of_grown _ hgb (Nat.le_trans hbs hgn.size) fun k hk => (hvb k hk).1)⟩
  by_cases hi : i < said.length
  · rw [List.getElem?_append_left hi] at hy
    obtain ⟨q, hq, hq2⟩ := hel i y hy
    exact ⟨q, by rw [List.getElem?_append_left (by omega)]; exact hq, hmove _ q y hq2 fun b hb _ => hb.2⟩
  · rw [List.getElem?_append_right (by omega)] at hy
    have hi2 : i = said.length := by
      rcases Nat.eq_zero_or_pos (i - said.length) with h | h
      · omega
      · rw [List.getElem?_eq_none (by simp; omega)] at hy; cases hy
    subst hi2
    simp at hy
    subst hy
    exact ⟨u, by rw [List.getElem?_append_right (by omega), hwl, Nat.sub_self]; rfl, hmove S u x hr fun b hb _ => hS b hb⟩
theorem opened_len (l : List UInt8) : (opened l).2.1.length ≤ 108 := by
  unfold opened
  split
  · simp
  · split
    · simp
    · split
      · simp
      · split
        · simp
        · simp [loadOf]; omega

set_option maxHeartbeats 8000000 in
theorem jscan_any (w : World) (g : Nat) (D : Nat → Prop) (d : Pd) (first places each base : Nat) (h : DK w g D d) (hq : jrefus d (first : Int) (places : Int) (each : Int) base = 0) :
    Calls Try.prog 25 #[.pointer (some ⟨g, 0, none⟩), .int .i64 (first : Int), .int .i64 (places : Int), .int .i64 (each : Int), .int .u64 (base : Int)] w fun e w' => ∃ v, e = .returned (.tuple #[v, .int .i64 0]) ∧ BS w.heap.size w' v (jscan d.last first base each places 0 []) ∧ Grew w w' := by
  have hk : 1 ≤ places ∧ places ≤ 16 ∧ 1 ≤ each ∧ each ≤ 16384 ∧ first + places * each ≤ d.safe.length ∧ 1 ≤ base ∧ base + places * each ≤ 4611686018427387904 ∧ d.off = false := by
    unfold jrefus at hq
    split at hq
    · omega
    · split at hq
      · omega
      · split at hq
        · omega
        · split at hq
          · omega
          · rename_i h1 h2 h3 h4
            have e : (places : Int) * (each : Int) = ((places * each : Nat) : Int) := by simp
            rw [e] at h2 h3
            exact ⟨by omega, by omega, by omega, by omega, by omega, by omega, by omega, by simpa using h4⟩
  obtain ⟨k1, k2, k3, k4, k5, k6, k7, k8⟩ := hk
  have hpok : POk d := by
    obtain ⟨_, _, _, _, _, _, h0, _⟩ := h
    exact h0.ok
  have hn2 := hpok.n2
  have hsame := hpok.same
  have hel := hpok.el
  have HRF := Lib.hid (jrefuses_any w g D d first places each base h (by omega) (by omega) (by omega))
  rw [hq] at HRF
  obtain ⟨pe, hpe⟩ : ∃ pe, places * each = pe := ⟨_, rfl⟩
  rw [hpe] at k5 k7
  have HRO : Hid (∀ a : Nat, a < pe → readOf d ((first : Int) + (a : Int)) = (d.last[first + a]?.getD [], 0)) := Lib.hid fun a ha => by
    unfold readOf refus
    have hx : ¬ ((first : Int) + (a : Int) < 0 ∨ (d.safe.length : Int) ≤ (first : Int) + (a : Int)) := by omega
    rw [k8, if_neg (show ¬ (false = true) by decide), if_neg hx, if_pos rfl, show ((first : Int) + (a : Int)).toNat = first + a by omega]
  have HD := Lib.hid h
  have HPE := Lib.hid hpe
  have HK5 := Lib.hid k5
  have HK7 := Lib.hid k7
  have HK2 := Lib.hid k2
  have HK4 := Lib.hid k4
  have HN2 := Lib.hid hn2
  clear h hq hpok hsame hel hpe k5 k6 k7 k8 hn2
  go_enter Try.func25, Try.ntmps25
  go_wp2_with fail
  go_step3
  go_wp2_with fail
  refine HRF.out.mono ?_
  rintro e w' ⟨rfl, rfl⟩
  go_wp2
  go_step3
  go_wp2
  go_loopg [13, 14, 32] places (fun q s13 s14 s32 wx => ∃ (p : Nat) (said : List (List UInt8)) (A3 : Option Addr) (c3 : Nat), p + q = places ∧ s13 = .slice A3 said.length c3 ∧ s14 = .int .i64 ((p * each : Nat) : Int) ∧ s32 = .int .i64 (p : Int) ∧ Hid (BS w.heap.size wx (.slice A3 said.length c3) said) ∧ Hid (Grew w wx) ∧ Hid (jscan d.last first base each q (p * each) said = jscan d.last first base each places 0 []) ∧ Hid (said.length ≤ p))
  case atStart => exact ⟨0, [], none, 0, Nat.zero_add _, rfl, by simp, rfl, Lib.hid (BS.nil _ _), Lib.hid (Grew.refl _), Lib.hid (by rw [Nat.zero_mul]), Lib.hid (Nat.le_refl _)⟩
  case round =>
    obtain ⟨p, said, A3, c3, hpq, rfl, rfl, rfl, HBS, HG, HJS, HSL⟩ := hrel
    generalize wr = wi at *
    cases gk with
    | zero =>
      have hlt : ¬ ((p : Int) < (places : Int)) := by omega
      have hjs := HJS.out
      rw [jscan] at hjs
      have HJ9 := Lib.hid hjs
      clear hjs
      go_wp2
      try rw [Exit.noGoto_ret]
      go_returns
      exact ⟨_, rfl, by rw [← HJ9.out]; exact HBS.out, HG.out⟩
    | succ q =>
      have hlt : (p : Int) < (places : Int) := by omega
      have hpm : p * each + each ≤ pe := by
        rw [← HPE.out]
        have : (p + 1) * each ≤ places * each := Nat.mul_le_mul_right _ (by omega)
        rw [Nat.add_mul, Nat.one_mul] at this
        exact this
      have HPM := Lib.hid hpm
      obtain ⟨a0, ha0⟩ : ∃ a0, p * each = a0 := ⟨_, rfl⟩
      rw [ha0] at HPM HJS
      have HA0 := Lib.hid ha0
      rw [ha0]
      clear hpm ha0
      have HL0 := Lib.hid hpq
      go_wp2_with fail
      go_loopg [14, 15, 35] each (fun q2 s14 s15 s35 wx => ∃ (k : Nat) (acc : List UInt8) (A5 : Option Addr) (c5 : Nat), k + q2 = each ∧ s14 = .int .i64 ((a0 + k : Nat) : Int) ∧ s15 = .slice A5 acc.length c5 ∧ s35 = .int .i64 (k : Int) ∧ Hid (wx.ownsRow wi.heap.size 5 1 (.slice A5 acc.length c5) acc.length (bv acc)) ∧ Hid (Grew wi wx) ∧ Hid (loadsAt d.last first base q2 (a0 + k) acc = loadsAt d.last first base each a0 []) ∧ Hid (acc.length ≤ 108 * k))
      case atStart => exact ⟨0, [], none, 0, Nat.zero_add _, by simp, rfl, by first | rfl | simp, Lib.hid (World.ownsRow_nil _ _ _ _), Lib.hid (Grew.refl _), Lib.hid rfl, Lib.hid (Nat.zero_le _)⟩
      case round =>
        obtain ⟨k, acc, A5, c5, hkq, rfl, rfl, rfl, HOW, HGX, HLO, HLN⟩ := hrel
        generalize wr = wx at *
        obtain ⟨ak, hak⟩ : ∃ ak, a0 + k = ak := ⟨_, rfl⟩
        rw [hak] at HLO
        rw [hak]
        cases gk with
        | zero =>
          have hlt2 : ¬ ((k : Int) < (each : Int)) := by omega
          have hke : k = each := by omega
          subst hke
          have HLN2 : Hid (acc.length ≤ 140737488355328) := Lib.hid (by have := HLN.out; have := HK4.out; omega)
          have HAK := Lib.hid hak
          clear hak
          obtain ⟨⟨rec, okk⟩, htd⟩ : ∃ y, toldS acc = y := ⟨_, rfl⟩
          have ht := told_any _ (.slice A5 acc.length c5) acc wx (Rd.of_own HOW.out rfl) HLN2.out
          rw [htd] at ht
          have HT := Lib.hid ht
          have hjs := HJS.out
          rw [jscan, ← HLO.out, show loadsAt d.last first base 0 ak acc = some acc from rfl] at hjs
          simp only [htd] at hjs
          clear ht htd HLO HJS
          cases okk with
          | false =>
            rw [if_neg (by decide)] at hjs
            have HJ9 := Lib.hid hjs
            clear hjs
            go_wp2_with fail
            refine HT.out.mono ?_
            rintro e w3 ⟨v3, rfl, hr3, hg3⟩
            have HG3 := Lib.hid (HGX.out.trans hg3)
            clear hr3 hg3 HT
            go_wp2
            try rw [Exit.noGoto_ret]
            go_returns
            exact ⟨_, rfl, by rw [← HJ9.out]; exact HBS.out.grew HG3.out, HG.out.trans HG3.out⟩
          | true =>
            rw [if_pos rfl] at hjs
            have HJ9 := Lib.hid hjs
            clear hjs
            go_wp2_with fail
            refine HT.out.mono ?_
            rintro e w3 ⟨v3, rfl, hr3, hg3⟩
            obtain ⟨A8, c8, rfl, _⟩ := id hr3
            have HG3 := Lib.hid (HGX.out.trans hg3)
            have HR3 := Lib.hid hr3
            have HS3 : Hid (wi.heap.size ≤ wx.heap.size) := Lib.hid HGX.out.size
            clear hr3 hg3 HT
            have hnb : ∀ b, wx.heap.size ≤ b → (Value.slice A3 said.length c3).ownBlock ≠ some b := fun b hb e => by
              obtain ⟨ws, ho, _⟩ := HBS.out
              rcases ho.2 with ⟨e2, _⟩ | ⟨g2, cap, cur, e2, _, hg2, _⟩
              · rw [e2] at e; cases e
              · rw [e2] at e
                simp [Value.ownBlock] at e
                have h1 := (Array.getElem?_eq_some_iff.1 hg2).1
                have h2 := HS3.out
                omega
            obtain ⟨A9, c9, W9, hr9, hb9, hg9⟩ := bs_app w3 w.heap.size (.slice A3 said.length c3) said _ (.slice A8 rec.length c8) rec (HBS.out.grew HG3.out) rfl HR3.out hnb (by have := HSL.out; have := HL0.out; have := HK2.out; omega) (Nat.le_trans HG.out.size HG3.out.size)
            have HR9 := Lib.hid hr9
            have HB9 := Lib.hid hb9
            have HG9 : Hid (Grew w W9) := Lib.hid ((show Below w.heap.size w w3 from HG.out.trans HG3.out).trans hg9)
            clear hnb hr9 hb9 hg9
            go_wp2_with (at_builtin; refine SSeal.wpList_app' (by rfl) (.tmp 77) (.tmp 79) 57 57 (by with_reducible rfl) _ _ (by rfl) (by rfl) _ W9 (by exact HR9.out) ?_)
            go_roundg q
            case measure => omega
            case rel => exact ⟨p + 1, said ++ [rec], A9, c9, by omega, by first | rfl | (rw [List.length_append]; rfl), by first | rfl | exact congrArg (Value.int .i64) (by rw [← HAK.out, ← HA0.out, Nat.add_mul]; simp), by first | rfl | (simp; omega), HB9, HG9, Lib.hid (by rw [show (p + 1) * k = a0 + k by rw [Nat.add_mul, Nat.one_mul, HA0.out]]; exact HJ9.out), Lib.hid (by have := HSL.out; simp; omega)⟩
        | succ q2 =>
          have hlt2 : (k : Int) < (each : Int) := by omega
          have hap : ak < pe := by have := HPM.out; omega
          have HAP := Lib.hid hap
          have hwf : IntKind.i64.wrap ((first : Int) + (ak : Int)) = (first : Int) + (ak : Int) := IntWalk.i64_in _ (by have := HK5.out; have := HN2.out; omega)
          have hu1 : IntKind.u64.wrap (ak : Int) = (ak : Int) := by rw [IntKind.wrap_u64]; have := HK7.out; omega
          have hu2 : IntKind.u64.wrap ((base : Int) + (ak : Int)) = (base : Int) + (ak : Int) := by rw [IntKind.wrap_u64]; have := HK7.out; omega
          have hw1 : IntKind.i64.wrap ((ak : Int) + 1) = (ak : Int) + 1 := IntWalk.i64_in _ (by have := HK7.out; omega)
          have hw2 : IntKind.i64.wrap ((k : Int) + 1) = (k : Int) + 1 := IntWalk.i64_in _ (by have := HK4.out; omega)
          obtain ⟨sec, hsec⟩ : ∃ sec, d.last[first + ak]?.getD [] = sec := ⟨_, rfl⟩
          have hro := HRO.out ak hap
          rw [hsec] at hro
          have HR0 := Lib.hid hro
          obtain ⟨⟨st, ld, er⟩, hop⟩ : ∃ y, opened sec = y := ⟨_, rfl⟩
          have HOP := Lib.hid hop
          have HLD : Hid (ld.length ≤ 108) := Lib.hid (by have := opened_len sec; rw [hop] at this; exact this)
          have hlo := HLO.out
          rw [loadsAt] at hlo
          simp only [hsec, hop] at hlo
          have HLO2 := Lib.hid hlo
          have HAK := Lib.hid hak
          clear hap hro hop hlo hsec hak HLO
          go_wp2_with fail
          refine (DAlive.read_eq wx g D d _ sec 0 (HD.out.grew (HG.out.trans HGX.out)) HR0.out).mono ?_
          rintro e w1 ⟨v1, rfl, hr1, hg1⟩
          have HR1 := Lib.hid hr1
          have HG1 := Lib.hid hg1
          clear hr1 hg1
          go_wp2_with fail
          have ho2 := SOpen.open_any _ v1 sec w1 HR1.out
          rw [HOP.out] at ho2
          have HO2 := Lib.hid ho2
          clear ho2
          refine HO2.out.mono ?_
          rintro e w2 ⟨v2, rfl, hr2, hg2⟩
          obtain ⟨A6, c6, rfl, _⟩ := id hr2
          have HR2 := Lib.hid hr2
          have HG2 := Lib.hid (((HGX.out.trans HG1.out).trans hg2))
          have HGA := Lib.hid (HG1.out.trans hg2)
          clear hr2 hg2 HO2
          by_cases her : er = 0
          · subst her
            by_cases hst : st = base + ak
            · have b1 : ((st : Int) != (base : Int) + (ak : Int)) = false := by
                rw [hst]; simp
              have hlo := HLO2.out
              rw [if_pos ⟨rfl, hst⟩] at hlo
              have HLO3 := Lib.hid hlo
              obtain ⟨v7, w7, hr7, ho7, hb7⟩ := SSeal.run_app2 w2 wi.heap.size (.slice A5 acc.length c5) A6 c6 acc ld _ (own_grew HOW.out HGA.out) HR2.out (by have := HLN.out; have := HLD.out; have := HK4.out; omega) HG2.out.size
              obtain ⟨A7, c7, rfl⟩ := own_sl ho7
              have HR7 := Lib.hid hr7
              have HO7 := Lib.hid ho7
              have HG7 : Hid (Grew wi w7) := Lib.hid ((show Below wi.heap.size wi w2 from HG2.out).trans hb7)
              have HST := Lib.hid hst
              clear hlo hr7 ho7 hb7 hst
              go_wp2_with (at_builtin; refine SSeal.wpList_app' (by rfl) (.tmp 64) (.tmp 65) 23 23 (by with_reducible rfl) _ _ (by rfl) (by rfl) _ w7 (by exact HR7.out) ?_)
              go_roundg q2
              case measure => omega
              case rel => exact ⟨k + 1, acc ++ ld, A7, c7, by omega, by first | rfl | exact congrArg (Value.int .i64) (by have := HAK.out; omega), by first | rfl | (rw [List.length_append]), by first | rfl | (simp; omega), HO7, HG7, Lib.hid (by rw [show a0 + (k + 1) = ak + 1 by have := HAK.out; omega]; exact HLO3.out), Lib.hid (by have := HLN.out; have := HLD.out; rw [List.length_append]; omega)⟩
            · have b1 : ((st : Int) != (base : Int) + (ak : Int)) = true := by
                simp; omega
              have hjs := HJS.out
              have hlo := HLO2.out
              rw [if_neg (fun h => hst h.2)] at hlo
              rw [jscan, ← hlo] at hjs
              have HJ9 : Hid (said = jscan d.last first base each places 0 []) := Lib.hid hjs
              clear hjs hlo hst
              go_wp2
              try rw [Exit.noGoto_ret]
              go_returns
              exact ⟨_, rfl, by rw [← HJ9.out]; exact HBS.out.grew HG2.out, HG.out.trans HG2.out⟩
          · have b0 : (er != 0) = true := by simpa using her
            have hjs := HJS.out
            have hlo := HLO2.out
            rw [if_neg (fun h => her h.1)] at hlo
            rw [jscan, ← hlo] at hjs
            have HJ9 : Hid (said = jscan d.last first base each places 0 []) := Lib.hid hjs
            clear hjs hlo her
            go_wp2
            try rw [Exit.noGoto_ret]
            go_returns
            exact ⟨_, rfl, by rw [← HJ9.out]; exact HBS.out.grew HG2.out, HG.out.trans HG2.out⟩
end Go.Proofs.Ytbnicphegbdfnaa.JF
