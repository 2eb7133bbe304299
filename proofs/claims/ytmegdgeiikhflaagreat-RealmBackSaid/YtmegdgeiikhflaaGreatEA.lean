/-
  A realm's HallOf and Account.
  Conditions: those that each lemma names.
-/
import Derived.Test.YtmegdgeiikhflaaGreatRPlaces
import Derived.Test.YtmegdgeiikhflaaGreatRNames
import Derived.Test.YtmegdgeiikhflaaGreatHB
namespace Go.Proofs.YtmegdgeiikhflaaGreat.EA
set_option maxRecDepth 100000
open Go Go.RowKit Go.Lib Go.Proofs.YtmegdgeiikhflaaGreat Go.Proofs.YtmegdgeiikhflaaGreat.Facts Go.Proofs.YtmegdgeiikhflaaGreat.Bytes Go.Proofs.YtmegdgeiikhflaaGreat.Plain Go.Proofs.YtmegdgeiikhflaaGreat.Ints Go.Proofs.YtmegdgeiikhflaaGreat.LBox Go.Proofs.YtmegdgeiikhflaaGreat.RRows Go.Proofs.YtmegdgeiikhflaaGreat.RSmall Go.Proofs.YtmegdgeiikhflaaGreat.RFind Go.Proofs.YtmegdgeiikhflaaGreat.RRules Go.Proofs.YtmegdgeiikhflaaGreat.RRule3 Go.Proofs.YtmegdgeiikhflaaGreat.RRight Go.Proofs.YtmegdgeiikhflaaGreat.RNames


def hallP (r : Re) (i : Int) : Int := if mayBe r = true then (if inn r.guilds.length i = true then (match r.guilds[i.toNat]? with | some x => fidx r.labels (fun y => decide ((⟨0, bitOf x.bit⟩ : La) = y)) | none => -1) else -1) else -1
set_option maxHeartbeats 4000000 in
theorem hallOf_any (v : Value) (r : Re) (i : Int) (w : World) (h : ReIs w v r) (hs : Sized r) : Calls Tryz.prog 16 #[v, .int .i64 i] w fun e w' => e = .returned (.int .i64 (hallP r i)) ∧ Grew w w' := by
  have HRI := Lib.hid (fun W hg => right_re v r W (h.grew (w' := W) hg) hs)
  obtain ⟨v0, v1, v2, v3, v4, rfl, h0, h1, h2, h3, h4⟩ := h
  have HL0 := Lib.hid h0
  have HL2 := Lib.hid h2
  have HL3 := Lib.hid h3
  obtain ⟨A0', cp0, rfl, _⟩ := h0.slice
  obtain ⟨A1', cp1, rfl, _⟩ := id h1
  obtain ⟨A2', cp2, rfl, _⟩ := h2.slice
  obtain ⟨A3', cp3, rfl, _⟩ := h3.slice
  obtain ⟨A4', cp4, rfl, _⟩ := h4.slice
  clear h0 h1 h2 h3 h4
  have G0 : Hid (Grew w (w.alloc (Obj.cells #[.slice A0' r.labels.length cp0, .slice A1' r.lines.length cp1, .slice A2' r.accounts.length cp2, .slice A3' r.guilds.length cp3, .slice A4' r.quotas.length cp4, .int .i64 r.orders, .int .i64 r.audits, .int .i64 r.rate, .int .i64 r.rounds] 28))) := Lib.hid (by unfold Grew; go_grown)
  have R0 : Hid ((w.alloc (Obj.cells #[.slice A0' r.labels.length cp0, .slice A1' r.lines.length cp1, .slice A2' r.accounts.length cp2, .slice A3' r.guilds.length cp3, .slice A4' r.quotas.length cp4, .int .i64 r.orders, .int .i64 r.audits, .int .i64 r.rate, .int .i64 r.rounds] 28)).heap[w.heap.size]? = some (rcell (.slice A0' r.labels.length cp0) (.slice A1' r.lines.length cp1) (.slice A2' r.accounts.length cp2) (.slice A3' r.guilds.length cp3) (.slice A4' r.quotas.length cp4) r.orders r.audits r.rate r.rounds)) := Lib.hid (heap_alloc_new w _)
  obtain ⟨r0, r1, r2, r3, r4, r5, r6, r7, r8⟩ := re_cells R0.out
  have HI := Lib.hid (fun W => hasG_any A3' r.guilds.length cp3 i W)
  have HII : inn r.guilds.length i = true → 0 ≤ i ∧ i < r.guilds.length := fun h => by unfold inn at h; simpa using h
  unfold hallP
  generalize mayBe r = b at *
  generalize hbi : inn r.guilds.length i = bi at *
  cases b with
  | false =>
    rw [if_neg (by simp)]
    clear HII
    go_enter Tryz.func16, Tryz.ntmps16
    go_wp2_with fail
    with_reducible refine (HRI.out _ G0.out).mono ?_
    rintro e w1 ⟨rfl, hg⟩
    have G1 := Lib.hid (G0.out.trans hg)
    clear hg r0 r1 r2 r3 r4 r5 r6 r7 r8
    go_wp2
    go_returns
    exact ⟨rfl, G1.out⟩
  | true =>
    rw [if_pos rfl]
    cases bi with
    | false =>
      rw [if_neg (by simp)]
      clear HII
      go_enter Tryz.func16, Tryz.ntmps16
      go_wp2_with fail
      with_reducible refine (HRI.out _ G0.out).mono ?_
      rintro e w1 ⟨rfl, hg⟩
      have G1 := Lib.hid (G0.out.trans hg)
      have R1 := Lib.hid (keepB R0.out hg)
      clear hg r0 r1 r2 r3 r4 r5 r6 r7 r8
      obtain ⟨r0, r1, r2, r3, r4, r5, r6, r7, r8⟩ := re_cells R1.out
      go_wp2_with fail
      refine (HI.out _).mono ?_
      rintro e w2 ⟨rfl, hg⟩
      have G2 := Lib.hid (G1.out.trans hg)
      clear hg r0 r1 r2 r3 r4 r5 r6 r7 r8
      go_wp2
      go_returns
      exact ⟨rfl, G2.out⟩
    | true =>
      rw [if_pos rfl]
      obtain ⟨q0, q1⟩ := HII rfl
      clear HII
      obtain ⟨k, rfl⟩ := Int.eq_ofNat_of_zero_le q0
      simp only [Int.toNat_natCast] at *
      have hkl : k < r.guilds.length := by omega
      have hx : r.guilds[k]? = some r.guilds[k] := List.getElem?_eq_getElem hkl
      rw [hx]
      generalize r.guilds[k] = x at *
      simp only
      obtain ⟨ad, c9, e9, _, _, _⟩ := Gs_at HL3.out hx
      injection e9 with e1 e2 e3
      subst e1 e3
      clear e2
      have HX0 : Hid (∀ W, Grew w W → W.cell? (ad.add (k * 2)) = some (.int .i64 x.bit) ∧ W.cell? ⟨(ad.add (k * 2)).block, (ad.add (k * 2)).off + 1, none⟩ = some (.int .i64 x.founder)) := Lib.hid fun W hg => by
        obtain ⟨ad', c', e', _, d0, d1⟩ := Gs_at (HL3.out.grew hg) hx
        injection e' with e1 e2 e3
        injection e1 with e1
        subst e1
        exact ⟨d0, d1⟩
      have HIX0 : Hid (∀ W, Grew w W → Calls Tryz.prog 55 #[.slice A0' r.labels.length cp0, .agg #[.int .i64 0, .int .u64 ((bitOf x.bit).toNat : Int)]] W fun e w' => e = .returned (.int .i64 (fidx r.labels (fun y => decide ((⟨0, bitOf x.bit⟩ : La) = y)))) ∧ Grew W w') := Lib.hid fun W hg => indexL_any _ r.labels ⟨0, bitOf x.bit⟩ W (HL0.out.grew hg)
      generalize (fidx r.labels (fun y => decide ((⟨0, bitOf x.bit⟩ : La) = y))) = res at *
      clear hx
      go_enter Tryz.func16, Tryz.ntmps16
      go_wp2_with fail
      with_reducible refine (HRI.out _ G0.out).mono ?_
      rintro e w1 ⟨rfl, hg⟩
      have G1 := Lib.hid (G0.out.trans hg)
      have R1 := Lib.hid (keepB R0.out hg)
      clear hg r0 r1 r2 r3 r4 r5 r6 r7 r8
      obtain ⟨r0, r1, r2, r3, r4, r5, r6, r7, r8⟩ := re_cells R1.out
      go_wp2_with fail
      refine (HI.out _).mono ?_
      rintro e w2 ⟨rfl, hg⟩
      have G2 := Lib.hid (G1.out.trans hg)
      have R2 := Lib.hid (keepB R1.out hg)
      have HX : Hid (∀ W, Grew w2 W → W.cell? (ad.add (k * 2)) = some (.int .i64 x.bit) ∧ W.cell? ⟨(ad.add (k * 2)).block, (ad.add (k * 2)).off + 1, none⟩ = some (.int .i64 x.founder)) := Lib.hid fun W hg => HX0.out W (G2.out.trans hg)
      have HIX : Hid (∀ W, Grew w2 W → Calls Tryz.prog 55 #[.slice A0' r.labels.length cp0, .agg #[.int .i64 0, .int .u64 ((bitOf x.bit).toNat : Int)]] W fun e w' => e = .returned (.int .i64 res) ∧ Grew W w') := Lib.hid fun W hg => HIX0.out W (G2.out.trans hg)
      clear hg r0 r1 r2 r3 r4 r5 r6 r7 r8 HX0 HIX0
      go_wp2
      refine Facts.wp_region_text (by kernel_rfl) (by kernel_rfl) ?_
      apply Facts.Lex.exact [] _ (by kernel_rfl)
      · intro u W hC hK
        clear hK
        unfold Facts.one
        go_simp
        first | exact ⟨Grew.refl _, rfl⟩ | rfl
      simp only [Act.put, List.setIfInBounds_toArray, List.set_cons_zero, List.set_cons_succ, Nat.zero_add]
      apply Facts.Lex.exact [] (.slice A0' r.labels.length cp0) (by kernel_rfl)
      · intro u W hC hK
        clear hK
        obtain ⟨r0, r1, r2, r3, r4, r5, r6, r7, r8⟩ := re_cells (keepB R2.out hC)
        unfold Facts.one
        go_simp
        first | exact ⟨Grew.refl _, rfl⟩ | rfl
      simp only [Act.put, List.setIfInBounds_toArray, List.set_cons_zero, List.set_cons_succ, Nat.reduceAdd]
      apply Facts.Lex.exact [] _ (by kernel_rfl)
      · intro u W hC hK
        clear hK
        unfold Facts.one
        go_simp
        first | exact ⟨Grew.refl _, rfl⟩ | rfl
      simp only [Act.put, List.setIfInBounds_toArray, List.set_cons_zero, List.set_cons_succ, Nat.reduceAdd]
      apply Facts.Lex.exact [] (.slice (some ad) r.guilds.length cp3) (by kernel_rfl)
      · intro u W hC hK
        clear hK
        obtain ⟨r0, r1, r2, r3, r4, r5, r6, r7, r8⟩ := re_cells (keepB R2.out hC)
        unfold Facts.one
        go_simp
        first | exact ⟨Grew.refl _, rfl⟩ | rfl
      simp only [Act.put, List.setIfInBounds_toArray, List.set_cons_zero, List.set_cons_succ, Nat.reduceAdd]
      apply Facts.Lex.exact [] _ (by kernel_rfl)
      · intro u W hC hK
        clear hK
        unfold Facts.one
        go_simp
        first | exact ⟨Grew.refl _, rfl⟩ | rfl
      simp only [Act.put, List.setIfInBounds_toArray, List.set_cons_zero, List.set_cons_succ, Nat.reduceAdd]
      apply Facts.Lex.exact [] (.pointer (some (ad.add (k * 2)))) (by kernel_rfl)
      · intro u W hC hK
        clear hK
        unfold Facts.one
        go_simp
        first | exact ⟨Grew.refl _, rfl⟩ | rfl
      simp only [Act.put, List.setIfInBounds_toArray, List.set_cons_zero, List.set_cons_succ, Nat.reduceAdd]
      apply Facts.Lex.exact [] (.agg #[.int .i64 x.bit, .int .i64 x.founder]) (by kernel_rfl)
      · intro u W hC hK
        clear hK
        have HG9 := HX.out W hC
        obtain ⟨d0, d1⟩ := HG9
        unfold Facts.one
        go_simp
        first | exact ⟨Grew.refl _, rfl⟩ | rfl
      simp only [Act.put, List.setIfInBounds_toArray, List.set_cons_zero, List.set_cons_succ, Nat.reduceAdd]
      apply Facts.Lex.exact [] (.agg #[.int .i64 0, .int .u64 ((bitOf x.bit).toNat : Int)]) (by kernel_rfl)
      · intro u W hC hK
        clear hK
        unfold Facts.one
        go_simp
        refine (hallG_any x.bit x.founder W).mono ?_
        rintro e w' ⟨rfl, hg⟩
        exact ⟨_, rfl, hg, rfl⟩
      simp only [Act.put, List.setIfInBounds_toArray, List.set_cons_zero, List.set_cons_succ, Nat.reduceAdd]
      apply Facts.Lex.exact [] (.int .i64 res) (by kernel_rfl)
      · intro u W hC hK
        clear hK
        unfold Facts.one
        go_simp
        refine (HIX.out W hC).mono ?_
        rintro e w' ⟨rfl, hg⟩
        exact ⟨_, rfl, hg, rfl⟩
      simp only [Act.put, List.setIfInBounds_toArray, List.set_cons_zero, List.set_cons_succ, Nat.reduceAdd]
      apply Facts.Lex.exact [] (.int .i64 res) (by kernel_rfl)
      · intro u W hC hK
        clear hK
        unfold Facts.one
        go_simp
        first | exact ⟨Grew.refl _, rfl⟩ | rfl
      simp only [Act.put, List.setIfInBounds_toArray, List.set_cons_zero, List.set_cons_succ, Nat.reduceAdd]
      refine Facts.Lex.done fun u W2 hC hL => ?_
      have HG9 := Lib.hid (G2.out.trans hC)
      clear hC hL
      go_wp2
      go_returns
      exact ⟨rfl, HG9.out⟩

def acctP (r : Re) (s : ByteArray) : Int := if mayBe r = true then Lib.idxOfS (r.accounts.map (·.name)) s else -1
set_option maxHeartbeats 4000000 in
theorem account_any (v : Value) (r : Re) (s : ByteArray) (w : World) (h : ReIs w v r) (hs : Sized r) : Calls Tryz.prog 19 #[v, .string s] w fun e w' => e = .returned (.int .i64 (acctP r s)) ∧ Grew w w' := by
  have HRI := Lib.hid (fun W hg => right_re v r W (h.grew (w' := W) hg) hs)
  obtain ⟨v0, v1, v2, v3, v4, rfl, h0, h1, h2, h3, h4⟩ := h
  have HL0 := Lib.hid h0
  have HL2 := Lib.hid h2
  have HL3 := Lib.hid h3
  obtain ⟨A0', cp0, rfl, _⟩ := h0.slice
  obtain ⟨A1', cp1, rfl, _⟩ := id h1
  obtain ⟨A2', cp2, rfl, _⟩ := h2.slice
  obtain ⟨A3', cp3, rfl, _⟩ := h3.slice
  obtain ⟨A4', cp4, rfl, _⟩ := h4.slice
  clear h0 h1 h2 h3 h4
  have G0 : Hid (Grew w (w.alloc (Obj.cells #[.slice A0' r.labels.length cp0, .slice A1' r.lines.length cp1, .slice A2' r.accounts.length cp2, .slice A3' r.guilds.length cp3, .slice A4' r.quotas.length cp4, .int .i64 r.orders, .int .i64 r.audits, .int .i64 r.rate, .int .i64 r.rounds] 28))) := Lib.hid (by unfold Grew; go_grown)
  have R0 : Hid ((w.alloc (Obj.cells #[.slice A0' r.labels.length cp0, .slice A1' r.lines.length cp1, .slice A2' r.accounts.length cp2, .slice A3' r.guilds.length cp3, .slice A4' r.quotas.length cp4, .int .i64 r.orders, .int .i64 r.audits, .int .i64 r.rate, .int .i64 r.rounds] 28)).heap[w.heap.size]? = some (rcell (.slice A0' r.labels.length cp0) (.slice A1' r.lines.length cp1) (.slice A2' r.accounts.length cp2) (.slice A3' r.guilds.length cp3) (.slice A4' r.quotas.length cp4) r.orders r.audits r.rate r.rounds)) := Lib.hid (heap_alloc_new w _)
  obtain ⟨r0, r1, r2, r3, r4, r5, r6, r7, r8⟩ := re_cells R0.out
  unfold acctP
  cases hb : mayBe r with
  | false =>
    rw [if_neg (by simp)]
    rw [hb] at HRI
    clear hb
    go_enter Tryz.func19, Tryz.ntmps19
    go_wp2_with fail
    with_reducible refine (HRI.out _ G0.out).mono ?_
    rintro e w1 ⟨rfl, hg⟩
    have G1 := Lib.hid (G0.out.trans hg)
    clear hg r0 r1 r2 r3 r4 r5 r6 r7 r8
    go_wp2
    go_returns
    exact ⟨rfl, G1.out⟩
  | true =>
    rw [if_pos rfl]
    rw [hb] at HRI
    have hl : r.accounts.length ≤ 8 := by
      unfold mayBe at hb
      simp only [Bool.and_eq_true] at hb
      obtain ⟨_, _, _, _, h3, _⟩ := hb
      unfold rule3 wit at h3
      simp only [Bool.and_eq_true, decide_eq_true_iff] at h3
      omega
    have HLEN := Lib.hid hl
    clear hb hl
    go_enter Tryz.func19, Tryz.ntmps19
    go_wp2_with fail
    with_reducible refine (HRI.out _ G0.out).mono ?_
    rintro e w1 ⟨rfl, hg⟩
    have G1 := Lib.hid (G0.out.trans hg)
    have R1 := Lib.hid (keepB R0.out hg)
    clear hg r0 r1 r2 r3 r4 r5 r6 r7 r8
    obtain ⟨r0, r1, r2, r3, r4, r5, r6, r7, r8⟩ := re_cells R1.out
    go_wp2_with fail
    refine (names_any _ r.accounts w1 (HL2.out.grew G1.out) (by have := HLEN.out; omega)).mono ?_
    rintro e w2 ⟨v', rfl, hts, hg⟩
    have HTS := Lib.hid hts
    have G2 := Lib.hid (G1.out.trans hg)
    clear hg hts r0 r1 r2 r3 r4 r5 r6 r7 r8
    go_wp2_with fail
    refine (Names.index_all w2 v' _ s (by rw [List.length_map]; have := HLEN.out; omega) HTS.out).mono ?_
    rintro e w3 ⟨rfl, rfl⟩
    go_wp2
    go_returns
    exact ⟨rfl, G2.out⟩
end Go.Proofs.YtmegdgeiikhflaaGreat.EA
