/-
  WireBack: numbers that fit their sizes, and texts, put one behind the other, are taken as they were, with nothing left; cut anywhere, something is missing.
  Conditions: none beyond the row's own.
-/
import Derived.Test.YtekodmnhheejkabTakesLaw
import Derived.Test.YtekodmnhheejkabBackPure
namespace Go.Proofs.Ytekodmnhheejkab.BackLaw
open Go Go.RowKit Go.Proofs.Ytekodmnhheejkab Go.Proofs.Ytekodmnhheejkab.Facts Go.Proofs.Ytekodmnhheejkab.Bytes Go.Proofs.Ytekodmnhheejkab.Puts Go.Proofs.Ytekodmnhheejkab.Scan Go.Proofs.Ytekodmnhheejkab.Take Go.Proofs.Ytekodmnhheejkab.Nums Go.Proofs.Ytekodmnhheejkab.Rscan Go.Proofs.Ytekodmnhheejkab.Alive Go.Proofs.Ytekodmnhheejkab.BackPure

structure Raw where
  n : Nat
  z : Int
  s : ByteArray
def Raw.part (r : Raw) : Part := ⟨r.n, r.z.toNat, r.s.data.toList⟩
def Raw.ok (r : Raw) : Prop := 1 ≤ r.z ∧ r.z ≤ 8 ∧ r.part.ok

/-- The parts, as they lie. -/
def PartsAt (w : World) (A : Option Addr) (n : Nat) (raw : Nat → Raw) : Prop := n = 0 ∨ ∃ a, A = some a ∧ a.block < w.heap.size ∧
  ∀ k, k < n → (raw k).n < 18446744073709551616 ∧ (raw k).s.size ≤ maxLen ∧ w.cell? (a.add (k * 3)) = some (.int .u64 ((raw k).n : Int)) ∧
    w.cell? ⟨(a.add (k * 3)).block, (a.add (k * 3)).off + 1, none⟩ = some (.int .i64 (raw k).z) ∧ w.cell? ⟨(a.add (k * 3)).block, (a.add (k * 3)).off + 2, none⟩ = some (.string (raw k).s)

def upTo (raw : Nat → Raw) (k : Nat) : List Part := (List.range k).map fun j => (raw j).part
theorem upTo_succ (raw : Nat → Raw) (k : Nat) : upTo raw (k + 1) = upTo raw k ++ [(raw k).part] := by simp [upTo, List.range_succ]
theorem cat_succ (raw : Nat → Raw) (k : Nat) : cat (upTo raw (k + 1)) = cat (upTo raw k) ++ (raw k).part.enc := by simp [upTo_succ, cat]
theorem cat_len (raw : Nat → Raw) : ∀ k, (∀ j, j < k → (raw j).ok) → (cat (upTo raw k)).length ≤ 256 * k
  | 0, _ => by simp [upTo, cat]
  | k + 1, h => by
    rw [cat_succ, List.length_append]
    have := cat_len raw k fun j hj => h j (by omega)
    have := (enc_len _ (h k (by omega)).2.2).2
    omega
theorem cellG {w w' : World} {a : Addr} {v : Value} (hg : Grew w w') (h : w.cell? a = some v) : w'.cell? a = some v :=
  (hg.cell (World.block_lt_of_cell? _ _ h)).trans h

theorem string_of (s : ByteArray) : (⟨s.data.toList.toArray⟩ : ByteArray) = s := by
  cases s
  simp

theorem cut_first {S : Nat → Prop} {w : World} {A : Option Addr} {c m : Nat} {l : List UInt8} (h : Rd S w (.slice A l.length c) l) (hm : m ≤ l.length) : Rd S w (.slice A m c) (l.take m) := by
  obtain ⟨A', c', e, h1, h2, h3, h4⟩ := h
  injection e with e1 _ e3
  subst e1 e3
  refine ⟨A, c, by rw [List.length_take, Nat.min_eq_left hm], by rw [List.length_take]; omega, h2, h3, fun ad hA => ⟨fun hl => (h4 ad hA).1 (fun e => hl (by rw [e, List.take_nil])), fun j u hu => (h4 ad hA).2 j u ?_⟩⟩
  have hb : bv (l.take m) = (bv l).take m := by simp [bv, List.map_take]
  rw [hb, List.getElem?_take] at hu
  split at hu
  · exact hu
  · cases hu

theorem raw_ok {rn z : Nat} {rs : ByteArray} (z1 : 1 ≤ z) (z8 : z ≤ 8) (h3 : ¬ 255 < rs.size) (hn : rn < 256 ^ z) : (Raw.mk rn z rs).ok := by
  have e : (⟨rn, z, rs⟩ : Raw).part = ⟨rn, z, rs.data.toList⟩ := by simp [Raw.part]
  have hl : rs.data.toList.length = rs.size := by rw [Array.length_toList]; rfl
  refine ⟨by show (1 : Int) ≤ z; omega, by show (z : Int) ≤ 8; omega, ?_⟩
  rw [e]
  exact ⟨z1, z8, by show rs.data.toList.length ≤ 255; omega, hn⟩
theorem fits {rn z : Nat} (h : (rn : Int) / 2 ^ (8 * z) = 0) : rn < 256 ^ z := by
  have h2 : ((rn / 2 ^ (8 * z) : Nat) : Int) = 0 := by
    rw [Int.natCast_ediv]
    simpa using h
  have h3 : rn / 2 ^ (8 * z) = 0 := by exact_mod_cast h2
  have h4 := (Nat.div_eq_zero_iff).1 h3
  rw [show (256 : Nat) = 2 ^ 8 from rfl, ← Nat.pow_mul]
  rcases h4 with h4 | h4
  · have := Nat.two_pow_pos (8 * z)
    omega
  · exact h4
theorem width_nat {z : Nat} (z1 : 1 ≤ z) (z8 : z ≤ 8) : width (z : Int) = z := by unfold width; omega

/-- The world while what c is asked, number ic of a region, comes up. -/
def JC (w0 : World) (lc hc ld hd gc gd : Nat) (ic : Nat) (s s1 d : Sc) (m : Nat → Bool) (W : World) : Prop :=
  SC W lc hc (ptr gc) (if m ic = true then s1 else s) ∧ SC W ld hd (ptr gd) d ∧ Grew w0 W

theorem cd_sc {W W' : World} {lc hc ld hd gc gd : Nat} {s1 d : Sc} (hs : SC W' lc hc (ptr gc) s1) (hd_ : SC W ld hd (ptr gd) d) (k : Chg (ptr gc) W W') (h : hc ≤ ld) : SC W' ld hd (ptr gd) d := by
  have hz := hs.size
  have hzd := hd_.size
  exact hd_.keep k.size fun b h1 h2 => k.block b (by omega) (fun e => by have e' : b = gc := (by simpa [ptr, blk] using e); omega)

theorem dc_sc {W W' : World} {lc hc ld hd gc gd : Nat} {s d1 : Sc} (hs : SC W lc hc (ptr gc) s) (hd_ : SC W' ld hd (ptr gd) d1) (k : Chg (ptr gd) W W') (h : hc ≤ ld) : SC W' lc hc (ptr gc) s :=
  far_sc hs k (by have := hd_.size; omega)

theorem split_at {raw : Nat → Raw} {k i : Nat} {B : List UInt8} (hB : cat (upTo raw k) = B) (hi : i < k) :
    B = cat (upTo raw i) ++ ((raw i).part.enc ++ ((B.drop (cat (upTo raw i)).length).drop (raw i).part.enc.length)) ∧
      B.drop (cat (upTo raw i)).length = (raw i).part.enc ++ ((B.drop (cat (upTo raw i)).length).drop (raw i).part.enc.length) := by
  have e : ∃ rest, B = cat (upTo raw (i + 1)) ++ rest := by
    refine ⟨cat ((upTo raw k).drop (i + 1)), ?_⟩
    rw [← hB]
    have : upTo raw k = upTo raw (i + 1) ++ (upTo raw k).drop (i + 1) := by
      have h2 : (upTo raw k).take (i + 1) = upTo raw (i + 1) := by
        simp only [upTo, ← List.map_take, List.take_range]
        rw [Nat.min_eq_left (by omega)]
      rw [← h2, List.take_append_drop]
    conv => lhs; rw [this]
    simp [cat]
  obtain ⟨rest, hr⟩ := e
  rw [cat_succ] at hr
  have h2 : B.drop (cat (upTo raw i)).length = (raw i).part.enc ++ rest := by rw [hr, List.append_assoc]; simp
  have h3 : (B.drop (cat (upTo raw i)).length).drop (raw i).part.enc.length = rest := by rw [h2]; simp
  rw [h3]
  exact ⟨by rw [hr, List.append_assoc], h2⟩

theorem text_eq2 (w : World) (lo hi : Nat) (p : Value) (s : Sc) (most : Int) (rs : ByteArray) (s1 : Sc) (h : Hid (SC w lo hi p s)) (hs : Hid (s.text most = (rs.data.toList, s1))) :
    Calls Try.prog 14 #[p, .int .i64 most] w fun e w' => e = .returned (.string rs) ∧ SC w' lo hi p s1 ∧ Chg p w w' := by
  have := text_eq w lo hi p s most _ s1 h hs
  rwa [string_of] at this

attribute [local go_sem] come

set_option maxRecDepth 100000 in
set_option maxHeartbeats 4000000 in
theorem law_any (A : Option Addr) (n c : Nat) (cut : Int) (w : World) (raw : Nat → Raw) (hA : PartsAt w A n raw) (hn : n ≤ c) (hc : c ≤ maxLen) :
    Calls Try.prog 5 #[.slice A n c, .int .i64 cut] w fun e w' => e = .returned (.bool true) ∧ Grew w w' := by
  have HA := Lib.hid hA
  unfold maxLen at hc
  clear hA
  go_enter Try.func5, Try.ntmps5
  go_wp2
  go_loopw [5, 6, 7] (fun b many i wr => ∃ k : Nat, k ≤ n ∧ k ≤ 50 ∧ i = .int .i64 k ∧ many = .int .i64 k ∧ (∀ j, j < k → (raw j).ok) ∧ Rd (fun _ => True) wr b (cat (upTo raw k)) ∧ Grew w wr) (fun _ _ i _ => n - (intOf i).toNat)
  case atStart => exact ⟨0, Nat.zero_le _, Nat.zero_le _, rfl, rfl, fun j hj => absurd hj (Nat.not_lt_zero _), Rd.nil _ _, Grew.refl _⟩
  case round =>
    obtain ⟨k, hk, h50, rfl, rfl, hok, hrd, hg⟩ := hrel
    have HOK := Lib.hid hok
    have HRD := Lib.hid hrd
    have HG := Lib.hid hg
    clear hok hrd hg
    by_cases hlt : k < n ∧ k < 50
    · obtain ⟨hlt, hl50⟩ := hlt
      rcases HA.out with h0 | ⟨a, rfl, hab0, hcells⟩
      · omega
      obtain ⟨hn64, hsm, c0, c1, c2⟩ := hcells k hlt
      generalize hr : raw k = r at *
      have HR := Lib.hid hr
      have Hn64 := Lib.hid hn64
      have Hsm := Lib.hid hsm
      clear hr hn64 hsm hcells
      have hd1 : decide (k < n) = true := by simpa using hlt
      have hd2 : decide ((k : Int) < 50) = true := by simp; omega
      have k0 := cellG HG.out c0
      have k1 := cellG HG.out c1
      have k2 := cellG HG.out c2
      clear c0 c1 c2
      obtain ⟨rn, rz, rs⟩ := r
      dsimp only at k0 k1 k2
      -- CASES
      by_cases e1 : rz < 1
      · have d1 : decide (rz < 1) = true := by simpa using e1
        go_wp2
        refine Facts.wp_region_text (by kernel_rfl) (by kernel_rfl) ?_
        repeat
          apply Facts.Lex.exact [] _ (by kernel_rfl)
          · intro u W hC _
            have j0 := cellG hC k0
            have j1 := cellG hC k1
            have j2 := cellG hC k2
            unfold Facts.one
            go_simp
            first | exact ⟨Grew.refl _, rfl⟩ | rfl
          simp only [Act.put, List.setIfInBounds_toArray, List.set_cons_zero, List.set_cons_succ, Nat.zero_add, Nat.reduceAdd]
        refine Facts.Lex.done fun u W hC _ => ?_
        have G1 := Lib.hid (HG.out.trans hC)
        have R1 := Lib.hid (HRD.out.grew hC)
        clear hC k0 k1 k2
        go_wp2_with fail
        refine (alive_any _).mono ?_
        rintro e W1 ⟨rfl, hg⟩
        go_wp2
        go_ret
        exact ⟨rfl, G1.out.trans hg⟩
      have d1 : decide (rz < 1) = false := by simpa using e1
      by_cases e2 : 8 < rz
      · have d2 : decide (8 < rz) = true := by simpa using e2
        go_wp2
        refine Facts.wp_region_text (by kernel_rfl) (by kernel_rfl) ?_
        repeat
          apply Facts.Lex.exact [] _ (by kernel_rfl)
          · intro u W hC _
            have j0 := cellG hC k0
            have j1 := cellG hC k1
            have j2 := cellG hC k2
            unfold Facts.one
            go_simp
            first | exact ⟨Grew.refl _, rfl⟩ | rfl
          simp only [Act.put, List.setIfInBounds_toArray, List.set_cons_zero, List.set_cons_succ, Nat.zero_add, Nat.reduceAdd]
        refine Facts.Lex.done fun u W hC _ => ?_
        have G1 := Lib.hid (HG.out.trans hC)
        have R1 := Lib.hid (HRD.out.grew hC)
        clear hC k0 k1 k2
        go_wp2_with fail
        refine (alive_any _).mono ?_
        rintro e W1 ⟨rfl, hg⟩
        go_wp2
        go_ret
        exact ⟨rfl, G1.out.trans hg⟩
      have d2 : decide (8 < rz) = false := by simpa using e2
      by_cases e3 : 255 < rs.size
      · have d3 : decide ((255 : Int) < (rs.size : Int)) = true := by simp; omega
        go_wp2
        refine Facts.wp_region_text (by kernel_rfl) (by kernel_rfl) ?_
        repeat
          apply Facts.Lex.exact [] _ (by kernel_rfl)
          · intro u W hC _
            have j0 := cellG hC k0
            have j1 := cellG hC k1
            have j2 := cellG hC k2
            unfold Facts.one
            go_simp
            first | exact ⟨Grew.refl _, rfl⟩ | rfl
          simp only [Act.put, List.setIfInBounds_toArray, List.set_cons_zero, List.set_cons_succ, Nat.zero_add, Nat.reduceAdd]
        refine Facts.Lex.done fun u W hC _ => ?_
        have G1 := Lib.hid (HG.out.trans hC)
        have R1 := Lib.hid (HRD.out.grew hC)
        clear hC k0 k1 k2
        go_wp2_with fail
        refine (alive_any _).mono ?_
        rintro e W1 ⟨rfl, hg⟩
        go_wp2
        go_ret
        exact ⟨rfl, G1.out.trans hg⟩
      have d3 : decide ((255 : Int) < (rs.size : Int)) = false := by simp; omega
      obtain ⟨z, rfl⟩ := Int.eq_ofNat_of_zero_le (show 0 ≤ rz by omega)
      have z1 : 1 ≤ z := by omega
      have z8 : z ≤ 8 := by omega
      have w1 : IntKind.i64.wrap (8 * (z : Int)) = 8 * (z : Int) := IntWalk.i64_in _ (by omega)
      have w2 : (0 : Int) ≤ 8 * (z : Int) := by omega
      have w3 : (8 * (z : Int)).toNat = 8 * z := by omega
      by_cases e4 : (z : Int) < 8
      · have d4 : decide ((z : Int) < 8) = true := by simpa using e4
        by_cases e5 : (rn : Int) / 2 ^ (8 * z) = 0
        · have d5 : ((rn : Int) / 2 ^ (8 * z) != 0) = false := by simpa using e5
          have HE5 := Lib.hid e5
          clear e5
          go_wp2
          refine Facts.wp_region_text (by kernel_rfl) (by kernel_rfl) ?_
          repeat
            apply Facts.Lex.exact [] _ (by kernel_rfl)
            · intro u W hC _
              have j0 := cellG hC k0
              have j1 := cellG hC k1
              have j2 := cellG hC k2
              unfold Facts.one
              go_simp
              first | exact ⟨Grew.refl _, rfl⟩ | rfl
            simp only [Act.put, List.setIfInBounds_toArray, List.set_cons_zero, List.set_cons_succ, Nat.zero_add, Nat.reduceAdd]
          refine Facts.Lex.done fun u W hC _ => ?_
          have G1 := Lib.hid (HG.out.trans hC)
          have R1 := Lib.hid (HRD.out.grew hC)
          have OKK : Hid ((Raw.mk rn z rs).ok) := raw_ok z1 z8 e3 (fits HE5.out)
          have hcl := cat_len raw k HOK.out
          have m0 := cellG hC k0
          have m1 := cellG hC k1
          have m2 := cellG hC k2
          clear hC k0 k1 k2 w1 w2 w3
          by_cases hS : rs.data.toList = []
          · have hrs : rs = ⟨#[]⟩ := by
              cases rs with
              | mk d => simp at hS; rw [hS]
            subst hrs
            clear hS
            go_wp2
            refine Facts.wp_region_text (by kernel_rfl) (by kernel_rfl) ?_
            repeat
              apply Facts.Lex.exact [] _ (by kernel_rfl)
              · intro u W hC _
                have j0 := cellG hC m0
                have j1 := cellG hC m1
                unfold Facts.one
                go_simp
                first | exact ⟨Grew.refl _, rfl⟩ | rfl
              simp only [Act.put, List.setIfInBounds_toArray, List.set_cons_zero, List.set_cons_succ, Nat.zero_add, Nat.reduceAdd]
            refine Facts.Lex.know [] (fun v w => Rd (fun _ => True) w v (cat (upTo raw k) ++ be z rn)) (by kernel_rfl) (fun _ _ _ h hg => h.grew hg) ?_ ?_
            · intro u W hC _
              unfold Facts.one
              go_simp
              refine (Puts.num_any _ _ _ rn z _ (R1.out.grew hC) (by omega)).mono ?_
              rintro e w' ⟨v', rfl, ho, hg⟩
              rw [width_nat z1 z8] at ho
              exact ⟨_, rfl, hg, (Rd.of_own ho (by simp [be_length])).mono fun _ _ => trivial⟩
            simp only [Act.put, List.setIfInBounds_toArray, List.set_cons_zero, List.set_cons_succ, Nat.zero_add, Nat.reduceAdd]
            refine Facts.Lex.know [11] (fun v w => Rd (fun _ => True) w v (cat (upTo raw k) ++ be z rn)) (by kernel_rfl) (fun _ _ _ h hg => h.grew hg) ?_ ?_
            · intro u W hC hK
              have h11 : Rd (fun _ => True) W (u 11) (cat (upTo raw k) ++ be z rn) := hK.1
              unfold Facts.one
              go_simp
              exact ⟨Grew.refl _, h11⟩
            simp only [Act.put, List.setIfInBounds_toArray, List.set_cons_zero, List.set_cons_succ, Nat.zero_add, Nat.reduceAdd]
            refine Facts.Lex.done fun u W2 hC hL => ?_
            have h12 : Rd (fun _ => True) W2 (u 12) (cat (upTo raw k) ++ be z rn) := hL (12, _) (List.mem_cons_self ..)
            have RR : Hid (Rd (fun _ => True) W2 (u 12) (cat (upTo raw k) ++ (Raw.mk rn z ⟨#[]⟩).part.enc)) := by
              have e : (Raw.mk rn z ⟨#[]⟩).part.enc = be z rn := by
                  have e0 : (Raw.mk rn z ⟨#[]⟩).part = ⟨rn, z, []⟩ := rfl
                  rw [e0]; simp [Part.enc]
              rw [e]; exact h12
            have G2 := Lib.hid (G1.out.trans hC)
            clear h12 hL hC
            generalize u 12 = b2 at *
            go_wp2
            go_roundw
            case rel =>
              refine ⟨k + 1, hlt, by omega, by go_num, by go_num, fun j hj => ?_, ?_, G2.out⟩
              · rcases Nat.lt_succ_iff_lt_or_eq.1 hj with h | h
                · exact HOK.out j h
                · subst h; rw [HR.out]; exact OKK.out
              · rw [cat_succ, HR.out]
                exact RR.out
            case measure => simp [intOf]; omega
          · have hse : (!rs.toList.isEmpty) = true := by
              rw [ByteArray.toList_eq]
              cases hq : rs.data.toList with
              | nil => exact absurd hq hS
              | cons _ _ => rfl
            have HS := Lib.hid hS
            clear hS
            go_wp2_with fail
            refine (Puts.text_any _ _ _ rs _ R1.out (by omega) Hsm.out).mono ?_
            rintro e W2 ⟨b2, rfl, ho, hg⟩
            have RR : Hid (Rd (fun _ => True) W2 b2 (cat (upTo raw k) ++ (Raw.mk rn z rs).part.enc)) := by
              have e : (Raw.mk rn z rs).part.enc = tx rs.data.toList := by simp [Raw.part, Part.enc, HS.out]
              rw [e]; exact (Rd.of_own ho (by simp)).mono fun _ _ => trivial
            have G2 := Lib.hid (G1.out.trans hg)
            clear ho hg
            go_wp2
            go_roundw
            case rel =>
              refine ⟨k + 1, hlt, by omega, by go_num, by go_num, fun j hj => ?_, ?_, G2.out⟩
              · rcases Nat.lt_succ_iff_lt_or_eq.1 hj with h | h
                · exact HOK.out j h
                · subst h; rw [HR.out]; exact OKK.out
              · rw [cat_succ, HR.out]
                exact RR.out
            case measure => simp [intOf]; omega
        · have d5 : ((rn : Int) / 2 ^ (8 * z) != 0) = true := by simpa using e5
          go_wp2
          refine Facts.wp_region_text (by kernel_rfl) (by kernel_rfl) ?_
          repeat
            apply Facts.Lex.exact [] _ (by kernel_rfl)
            · intro u W hC _
              have j0 := cellG hC k0
              have j1 := cellG hC k1
              have j2 := cellG hC k2
              unfold Facts.one
              go_simp
              first | exact ⟨Grew.refl _, rfl⟩ | rfl
            simp only [Act.put, List.setIfInBounds_toArray, List.set_cons_zero, List.set_cons_succ, Nat.zero_add, Nat.reduceAdd]
          refine Facts.Lex.done fun u W hC _ => ?_
          have G1 := Lib.hid (HG.out.trans hC)
          have R1 := Lib.hid (HRD.out.grew hC)
          clear hC k0 k1 k2
          go_wp2_with fail
          refine (alive_any _).mono ?_
          rintro e W1 ⟨rfl, hg⟩
          go_wp2
          go_ret
          exact ⟨rfl, G1.out.trans hg⟩
      · have d4 : decide ((z : Int) < 8) = false := by simpa using e4
        have hz8 : z = 8 := by omega
        have HZ8 := Lib.hid hz8
        clear hz8
        go_wp2
        refine Facts.wp_region_text (by kernel_rfl) (by kernel_rfl) ?_
        repeat
          apply Facts.Lex.exact [] _ (by kernel_rfl)
          · intro u W hC _
            have j0 := cellG hC k0
            have j1 := cellG hC k1
            have j2 := cellG hC k2
            unfold Facts.one
            go_simp
            first | exact ⟨Grew.refl _, rfl⟩ | rfl
          simp only [Act.put, List.setIfInBounds_toArray, List.set_cons_zero, List.set_cons_succ, Nat.zero_add, Nat.reduceAdd]
        refine Facts.Lex.done fun u W hC _ => ?_
        have G1 := Lib.hid (HG.out.trans hC)
        have R1 := Lib.hid (HRD.out.grew hC)
        have OKK : Hid ((Raw.mk rn z rs).ok) := raw_ok z1 z8 e3 (by rw [HZ8.out]; exact Hn64.out)
        have hcl := cat_len raw k HOK.out
        have m0 := cellG hC k0
        have m1 := cellG hC k1
        have m2 := cellG hC k2
        clear hC k0 k1 k2 w1 w2 w3
        by_cases hS : rs.data.toList = []
        · have hrs : rs = ⟨#[]⟩ := by
            cases rs with
            | mk d => simp at hS; rw [hS]
          subst hrs
          clear hS
          go_wp2
          refine Facts.wp_region_text (by kernel_rfl) (by kernel_rfl) ?_
          repeat
            apply Facts.Lex.exact [] _ (by kernel_rfl)
            · intro u W hC _
              have j0 := cellG hC m0
              have j1 := cellG hC m1
              unfold Facts.one
              go_simp
              first | exact ⟨Grew.refl _, rfl⟩ | rfl
            simp only [Act.put, List.setIfInBounds_toArray, List.set_cons_zero, List.set_cons_succ, Nat.zero_add, Nat.reduceAdd]
          refine Facts.Lex.know [] (fun v w => Rd (fun _ => True) w v (cat (upTo raw k) ++ be z rn)) (by kernel_rfl) (fun _ _ _ h hg => h.grew hg) ?_ ?_
          · intro u W hC _
            unfold Facts.one
            go_simp
            refine (Puts.num_any _ _ _ rn z _ (R1.out.grew hC) (by omega)).mono ?_
            rintro e w' ⟨v', rfl, ho, hg⟩
            rw [width_nat z1 z8] at ho
            exact ⟨_, rfl, hg, (Rd.of_own ho (by simp [be_length])).mono fun _ _ => trivial⟩
          simp only [Act.put, List.setIfInBounds_toArray, List.set_cons_zero, List.set_cons_succ, Nat.zero_add, Nat.reduceAdd]
          refine Facts.Lex.know [11] (fun v w => Rd (fun _ => True) w v (cat (upTo raw k) ++ be z rn)) (by kernel_rfl) (fun _ _ _ h hg => h.grew hg) ?_ ?_
          · intro u W hC hK
            have h11 : Rd (fun _ => True) W (u 11) (cat (upTo raw k) ++ be z rn) := hK.1
            unfold Facts.one
            go_simp
            exact ⟨Grew.refl _, h11⟩
          simp only [Act.put, List.setIfInBounds_toArray, List.set_cons_zero, List.set_cons_succ, Nat.zero_add, Nat.reduceAdd]
          refine Facts.Lex.done fun u W2 hC hL => ?_
          have h12 : Rd (fun _ => True) W2 (u 12) (cat (upTo raw k) ++ be z rn) := hL (12, _) (List.mem_cons_self ..)
          have RR : Hid (Rd (fun _ => True) W2 (u 12) (cat (upTo raw k) ++ (Raw.mk rn z ⟨#[]⟩).part.enc)) := by
            have e : (Raw.mk rn z ⟨#[]⟩).part.enc = be z rn := by
                have e0 : (Raw.mk rn z ⟨#[]⟩).part = ⟨rn, z, []⟩ := rfl
                rw [e0]; simp [Part.enc]
            rw [e]; exact h12
          have G2 := Lib.hid (G1.out.trans hC)
          clear h12 hL hC
          generalize u 12 = b2 at *
          go_wp2
          go_roundw
          case rel =>
            refine ⟨k + 1, hlt, by omega, by go_num, by go_num, fun j hj => ?_, ?_, G2.out⟩
            · rcases Nat.lt_succ_iff_lt_or_eq.1 hj with h | h
              · exact HOK.out j h
              · subst h; rw [HR.out]; exact OKK.out
            · rw [cat_succ, HR.out]
              exact RR.out
          case measure => simp [intOf]; omega
        · have hse : (!rs.toList.isEmpty) = true := by
            rw [ByteArray.toList_eq]
            cases hq : rs.data.toList with
            | nil => exact absurd hq hS
            | cons _ _ => rfl
          have HS := Lib.hid hS
          clear hS
          go_wp2_with fail
          refine (Puts.text_any _ _ _ rs _ R1.out (by omega) Hsm.out).mono ?_
          rintro e W2 ⟨b2, rfl, ho, hg⟩
          have RR : Hid (Rd (fun _ => True) W2 b2 (cat (upTo raw k) ++ (Raw.mk rn z rs).part.enc)) := by
            have e : (Raw.mk rn z rs).part.enc = tx rs.data.toList := by simp [Raw.part, Part.enc, HS.out]
            rw [e]; exact (Rd.of_own ho (by simp)).mono fun _ _ => trivial
          have G2 := Lib.hid (G1.out.trans hg)
          clear ho hg
          go_wp2
          go_roundw
          case rel =>
            refine ⟨k + 1, hlt, by omega, by go_num, by go_num, fun j hj => ?_, ?_, G2.out⟩
            · rcases Nat.lt_succ_iff_lt_or_eq.1 hj with h | h
              · exact HOK.out j h
              · subst h; rw [HR.out]; exact OKK.out
            · rw [cat_succ, HR.out]
              exact RR.out
          case measure => simp [intOf]; omega
    · by_cases hlt2 : k < n
      · have hk50 : 50 ≤ k := by omega
        have hd1 : decide (k < n) = true := by simpa using hlt2
        have hd2 : decide ((k : Int) < 50) = false := by simp; omega
        clear hlt
        obtain ⟨wo, hwo⟩ : ∃ x : World, x = wr := ⟨_, rfl⟩
        subst hwo
        have hcl := cat_len raw k HOK.out
        obtain ⟨B, hB⟩ : ∃ B, cat (upTo raw k) = B := ⟨_, rfl⟩
        rw [hB] at hcl
        have HB := Lib.hid hB
        have HRB : Hid (Rd (fun _ => True) wo u5 B) := by have := HRD.out; rw [hB] at this; exact this
        clear hB HRD
        obtain ⟨Ab, cb, rfl, hb1, hb2, _⟩ := id HRB.out
        unfold maxLen at hb2
        go_wp2_with fail
        refine (from_any _ _ B _ HRB.out (by omega)).mono ?_
        rintro e W1 ⟨gc, rfl, hs1, hg1⟩
        have S1 := Lib.hid hs1
        have G1 := Lib.hid (HG.out.trans hg1)
        have R1 := Lib.hid (HRB.out.grew hg1)
        have Z1 := Lib.hid HG.out.size
        clear hs1 hg1
        go_wp2_with fail
        refine (from_any _ _ B _ R1.out (by omega)).mono ?_
        rintro e W2 ⟨gd0, rfl, hs2, hg2⟩
        have S2 := Lib.hid (S1.out.grew hg2)
        have D2 := Lib.hid hs2
        have G2 := Lib.hid (G1.out.trans hg2)
        have R2 := Lib.hid (R1.out.grew hg2)
        clear hs2
        by_cases h0 : 0 ≤ cut
        · have b0 : decide (0 ≤ cut) = true := by simpa using h0
          obtain ⟨m, rfl⟩ := Int.eq_ofNat_of_zero_le h0
          by_cases hm : m < B.length
          · have bm : decide (m < B.length) = true := by simpa using hm
            have hmc : m ≤ cb := by omega
            have hz2 := hg2.size
            clear hg2
            go_wp2_with fail
            refine (from_any _ _ (B.take m) _ (cut_first R2.out (by omega)) (by rw [List.length_take]; omega)).mono ?_
            rintro e W3 ⟨gd, rfl, hs3, hg3⟩
            have SS := Lib.hid (S2.out.grew hg3)
            have DD := Lib.hid hs3
            have GG := Lib.hid (G2.out.trans hg3)
            clear hs3 hg3
            have hT : Hid (Cut B m 0 ⟨B.take m, 0⟩) := .inr ⟨Nat.zero_le _, by simp⟩
            have hmB : m ≤ B.length := by omega
            go_wp2
            have hcd : W1.heap.size ≤ W2.heap.size := by omega
            go_loopw [10] (fun iv wx => ∃ (i : Nat) (sd : Sc), i ≤ k ∧ iv = .int .i64 i ∧ SC wx wo.heap.size W1.heap.size (ptr gc) ⟨B.drop (cat (upTo raw i)).length, 0⟩ ∧ SC wx W2.heap.size W3.heap.size (ptr gd) sd ∧ Cut B m (cat (upTo raw i)).length sd ∧ Grew w wx) (fun iv _ => k - (intOf iv).toNat)
            case atStart => exact ⟨0, ⟨B.take m, 0⟩, Nat.zero_le _, rfl, by simpa [upTo, cat] using SS.out, DD.out, by simpa [upTo, cat] using hT.out, GG.out⟩
            case round =>
              obtain ⟨i, sd, hik, rfl, hC, hD0, hD, hGx⟩ := hrel
              by_cases hi : i < k
              · rcases HA.out with hz | ⟨a, rfl, hab0, hcells⟩
                · omega
                obtain ⟨_, _, c0, c1, c2⟩ := hcells i (by omega)
                have OKI := Lib.hid (HOK.out i hi)
                have x0 := cellG hGx c0
                have x1 := cellG hGx c1
                have x2 := cellG hGx c2
                clear hcells
                have SP := Lib.hid (split_at HB.out hi)
                have hAsk : Hid (Cut B m (cat (upTo raw (i + 1))).length ((raw i).part.ask sd)) := by
                  rw [cat_succ, List.length_append]
                  exact ask_cut _ (HOK.out i (by omega)).2.2 B (cat (upTo raw i)) ((B.drop (cat (upTo raw i)).length).drop (raw i).part.enc.length) (split_at HB.out hi).1 m hmB sd hD
                have HC := Lib.hid hC
                have HD0 := Lib.hid hD0
                have HGx := Lib.hid hGx
                clear hC hD0 hGx hD
                generalize hr : raw i = r at *
                have HR := Lib.hid hr
                clear hr
                obtain ⟨rn, rz, rs⟩ := r
                have hrz := OKI.out.1
                have hrz8 := OKI.out.2.1
                dsimp only at x0 x1 x2 hrz hrz8 c0 c1 c2
                obtain ⟨z, rfl⟩ := Int.eq_ofNat_of_zero_le (show 0 ≤ rz by omega)
                have z1 : 1 ≤ z := by omega
                have z8 : z ≤ 8 := by omega
                have hpart : Hid ((Raw.mk rn z rs).part = ⟨rn, z, rs.data.toList⟩) := by show _ = _; simp [Raw.part]
                have hrd : decide (i < k) = true := by simpa using hi
                have hin : i < n := by omega
                have hin2 : decide (i < n) = true := by simpa using hin
                by_cases hS : rs.data.toList = []
                · have hrs : rs = ⟨#[]⟩ := by
                    cases rs with
                    | mk d => simp at hS; rw [hS]
                  subst hrs
                  clear hS
                  obtain ⟨⟨nd, sd1⟩, hsd1⟩ : ∃ q, sd.num (width z) = q := ⟨_, rfl⟩
                  have hask : Hid ((Raw.mk rn z ⟨#[]⟩).part.ask sd = sd1) := by
                    show _ = _
                    rw [hpart.out]
                    have := congrArg Prod.snd hsd1
                    rw [width_nat z1 z8] at this
                    simpa [Part.ask] using this
                  have HSD := Lib.hid hsd1
                  have hnum : Hid (Sc.num ⟨B.drop (cat (upTo raw i)).length, 0⟩ (width z) = (rn, ⟨B.drop (cat (upTo raw (i + 1))).length, 0⟩)) := by
                    show _ = _
                    rw [SP.out.2, width_nat z1 z8, cat_succ, List.length_append, ← List.drop_drop, SP.out.2, HR.out]
                    have e : (Raw.mk rn z ⟨#[]⟩).part.enc = (Part.mk rn z []).enc := by rw [hpart.out]
                    rw [e]
                    have hp : (Part.mk rn z []).ok := by have := OKI.out.2.2; rw [hpart.out] at this; exact this
                    have := num_take (Part.mk rn z []) hp rfl (List.drop (Part.mk rn z []).enc.length (List.drop (cat (upTo raw i)).length B))
                    simpa using this
                  clear hsd1
                  go_wp2_with fail
                  refine (num_eq _ _ _ _ sd z nd sd1 HD0 HSD).mono ?_
                  rintro e X1 ⟨rfl, hd1, hch1⟩
                  have C1 := Lib.hid (dc_sc HC.out hd1 hch1 hcd)
                  have D1 := Lib.hid hd1
                  have Y1 := Lib.hid (grew_chg HGx.out hch1 (by have h1 := hd1.size; have h2 := HC.out.size; have h3 := Z1.out; omega))
                  clear hd1 hch1 x0 x1 x2
                  go_wp2
                  refine Moves.wp_region_text (JC w wo.heap.size W1.heap.size W2.heap.size W3.heap.size gc gd 6 ⟨B.drop (cat (upTo raw i)).length, 0⟩ ⟨B.drop (cat (upTo raw (i + 1))).length, 0⟩ sd1) (fun _ _ => True) (by kernel_rfl) (by kernel_rfl) ⟨C1.out.grew (Grew.refl _).drew, D1.out.grew (Grew.refl _).drew, Y1.out.drew⟩ ?_
                  repeat
                    apply Moves.Lex.exact [] _ (by kernel_rfl)
                    · intro mm u W _ _ hJ _
                      have y0 := cellG hJ.2.2 c0
                      have y1 := cellG hJ.2.2 c1
                      have y2 := cellG hJ.2.2 c2
                      unfold Moves.one
                      go_simp
                      exact ⟨trivial, hJ, rfl⟩
                    simp only [Act.put, List.setIfInBounds_toArray, List.set_cons_zero, List.set_cons_succ, Nat.zero_add, Nat.reduceAdd]
                  apply Moves.Lex.exact [] _ (by kernel_rfl)
                  · intro mm u W hm0 _ hJ _
                    unfold JC at hJ
                    rw [if_neg (by rw [hm0]; exact Bool.false_ne_true)] at hJ
                    unfold Moves.one
                    go_simp
                    refine (num_eq _ _ _ _ _ z rn _ (Lib.hid hJ.1) hnum).mono ?_
                    rintro e w' ⟨rfl, hk1, hch⟩
                    exact ⟨_, rfl, trivial, ⟨hk1, cd_sc hk1 hJ.2.1 hch hcd, grew_chg hJ.2.2 hch (by have h2 := hk1.size; have h3 := Z1.out; omega)⟩, rfl⟩
                  simp only [Act.put, List.setIfInBounds_toArray, List.set_cons_zero, List.set_cons_succ, Nat.zero_add, Nat.reduceAdd]
                  repeat
                    apply Moves.Lex.exact [] _ (by kernel_rfl)
                    · intro mm u W _ _ hJ _
                      have y0 := cellG hJ.2.2 c0
                      have y1 := cellG hJ.2.2 c1
                      have y2 := cellG hJ.2.2 c2
                      unfold Moves.one
                      go_simp
                      exact ⟨trivial, hJ, rfl⟩
                    simp only [Act.put, List.setIfInBounds_toArray, List.set_cons_zero, List.set_cons_succ, Nat.zero_add, Nat.reduceAdd]
                  refine Moves.Lex.done fun mm u X2 hall hJ _ => ?_
                  unfold JC at hJ
                  rw [if_pos (hall 6 (by decide))] at hJ
                  have J2 := Lib.hid hJ
                  clear hJ hall
                  go_wp2
                  go_roundw
                  case rel => exact ⟨i + 1, sd1, hi, by go_num, J2.out.1, J2.out.2.1, by have := hAsk.out; rw [hask.out] at this; exact this, J2.out.2.2⟩
                  case measure => simp [intOf]; omega
                · have hse : (!rs.toList.isEmpty) = true := by
                    rw [ByteArray.toList_eq]
                    cases hq : rs.data.toList with
                    | nil => exact absurd hq hS
                    | cons _ _ => rfl
                  have HS := Lib.hid hS
                  clear hS
                  obtain ⟨⟨td, sd1⟩, hsd1⟩ : ∃ q, sd.text 255 = q := ⟨_, rfl⟩
                  have hask : Hid ((Raw.mk rn z rs).part.ask sd = sd1) := by
                    show _ = _
                    rw [hpart.out]
                    have := congrArg Prod.snd hsd1
                    simpa [Part.ask, HS.out] using this
                  have HSD := Lib.hid hsd1
                  have htext : Hid (Sc.text ⟨B.drop (cat (upTo raw i)).length, 0⟩ 255 = (rs.data.toList, ⟨B.drop (cat (upTo raw (i + 1))).length, 0⟩)) := by
                    show _ = _
                    rw [SP.out.2, cat_succ, List.length_append, ← List.drop_drop, SP.out.2, HR.out]
                    have e : (Raw.mk rn z rs).part.enc = (Part.mk rn z rs.data.toList).enc := by rw [hpart.out]
                    rw [e]
                    have hp : (Part.mk rn z rs.data.toList).ok := by have := OKI.out.2.2; rw [hpart.out] at this; exact this
                    have := text_take (Part.mk rn z rs.data.toList) hp HS.out (List.drop (Part.mk rn z rs.data.toList).enc.length (List.drop (cat (upTo raw i)).length B))
                    simpa using this
                  clear hsd1
                  go_wp2_with fail
                  refine (text_eq _ _ _ _ sd 255 td sd1 HD0 HSD).mono ?_
                  rintro e X1 ⟨rfl, hd1, hch1⟩
                  have C1 := Lib.hid (dc_sc HC.out hd1 hch1 hcd)
                  have D1 := Lib.hid hd1
                  have Y1 := Lib.hid (grew_chg HGx.out hch1 (by have h1 := hd1.size; have h2 := HC.out.size; have h3 := Z1.out; omega))
                  clear hd1 hch1 x0 x1 x2
                  go_wp2
                  refine Moves.wp_region_text (JC w wo.heap.size W1.heap.size W2.heap.size W3.heap.size gc gd 1 ⟨B.drop (cat (upTo raw i)).length, 0⟩ ⟨B.drop (cat (upTo raw (i + 1))).length, 0⟩ sd1) (fun _ _ => True) (by kernel_rfl) (by kernel_rfl) ⟨C1.out.grew (Grew.refl _).drew, D1.out.grew (Grew.refl _).drew, Y1.out.drew⟩ ?_
                  repeat
                    apply Moves.Lex.exact [] _ (by kernel_rfl)
                    · intro mm u W _ _ hJ _
                      have y0 := cellG hJ.2.2 c0
                      have y1 := cellG hJ.2.2 c1
                      have y2 := cellG hJ.2.2 c2
                      unfold Moves.one
                      go_simp
                      exact ⟨trivial, hJ, rfl⟩
                    simp only [Act.put, List.setIfInBounds_toArray, List.set_cons_zero, List.set_cons_succ, Nat.zero_add, Nat.reduceAdd]
                  apply Moves.Lex.exact [] _ (by kernel_rfl)
                  · intro mm u W hm0 _ hJ _
                    unfold JC at hJ
                    rw [if_neg (by rw [hm0]; exact Bool.false_ne_true)] at hJ
                    unfold Moves.one
                    go_simp
                    refine (text_eq2 _ _ _ _ _ 255 rs _ (Lib.hid hJ.1) htext).mono ?_
                    rintro e w' ⟨rfl, hk1, hch⟩
                    exact ⟨_, rfl, trivial, ⟨hk1, cd_sc hk1 hJ.2.1 hch hcd, grew_chg hJ.2.2 hch (by have h2 := hk1.size; have h3 := Z1.out; omega)⟩, rfl⟩
                  simp only [Act.put, List.setIfInBounds_toArray, List.set_cons_zero, List.set_cons_succ, Nat.zero_add, Nat.reduceAdd]
                  repeat
                    apply Moves.Lex.exact [] _ (by kernel_rfl)
                    · intro mm u W _ _ hJ _
                      have y0 := cellG hJ.2.2 c0
                      have y1 := cellG hJ.2.2 c1
                      have y2 := cellG hJ.2.2 c2
                      unfold Moves.one
                      go_simp
                      exact ⟨trivial, hJ, rfl⟩
                    simp only [Act.put, List.setIfInBounds_toArray, List.set_cons_zero, List.set_cons_succ, Nat.zero_add, Nat.reduceAdd]
                  refine Moves.Lex.done fun mm u X2 hall hJ _ => ?_
                  unfold JC at hJ
                  rw [if_pos (hall 1 (by decide))] at hJ
                  have J2 := Lib.hid hJ
                  clear hJ hall
                  go_wp2
                  go_roundw
                  case rel => exact ⟨i + 1, sd1, hi, by go_num, J2.out.1, J2.out.2.1, by have := hAsk.out; rw [hask.out] at this; exact this, J2.out.2.2⟩
                  case measure => simp [intOf]; omega
              · have HIK : Hid (i = k) := by show _ = _; omega
                have hrd : decide (i < k) = false := by simpa using hi
                have HC := Lib.hid hC
                have HD0 := Lib.hid hD0
                have HGx := Lib.hid hGx
                have HD := Lib.hid hD
                clear hC hD0 hGx hD hi
                have q1 : decide ((m : Int) < 0) = false := decide_eq_false (by omega)
                have q2 : decide (B.length ≤ m) = false := by simp; omega
                go_wp2_with fail
                refine (alive_any _).mono ?_
                rintro e X1 ⟨rfl, hg⟩
                have C4 := Lib.hid (HC.out.grew hg)
                have D4 := Lib.hid (HD0.out.grew hg)
                have G4 := Lib.hid (HGx.out.trans hg)
                clear hg
                go_wp2_with fail
                refine (end_eq _ _ _ _ _ 0 (Lib.hid C4.out) (by show _ = _; rw [HIK.out, HB.out]; simp [Sc.fin, Sc.left])).mono ?_
                rintro e w' ⟨rfl, rfl⟩
                go_wp2_with fail
                refine (fault_eq _ _ _ _ sd 12 (Lib.hid D4.out) (by
                  rcases HD.out with h | ⟨h, _⟩
                  · exact h
                  · rw [HIK.out, HB.out] at h
                    omega)).mono ?_
                rintro e w' ⟨rfl, rfl⟩
                go_wp2
                go_ret
                exact ⟨rfl, G4.out⟩
          · have bm : decide (m < B.length) = false := by simpa using hm
            have hz2 := hg2.size
            clear hg2
            have SS := S2
            have DD := D2
            have GG := G2
            go_wp2
            have hcd : W1.heap.size ≤ W1.heap.size := by omega
            go_loopw [10] (fun iv wx => ∃ (i : Nat) (sd : Sc), i ≤ k ∧ iv = .int .i64 i ∧ SC wx wo.heap.size W1.heap.size (ptr gc) ⟨B.drop (cat (upTo raw i)).length, 0⟩ ∧ SC wx W1.heap.size W2.heap.size (ptr gd0) sd ∧ True ∧ Grew w wx) (fun iv _ => k - (intOf iv).toNat)
            case atStart => exact ⟨0, ⟨B, 0⟩, Nat.zero_le _, rfl, by simpa [upTo, cat] using SS.out, DD.out, trivial, GG.out⟩
            case round =>
              obtain ⟨i, sd, hik, rfl, hC, hD0, hD, hGx⟩ := hrel
              by_cases hi : i < k
              · rcases HA.out with hz | ⟨a, rfl, hab0, hcells⟩
                · omega
                obtain ⟨_, _, c0, c1, c2⟩ := hcells i (by omega)
                have OKI := Lib.hid (HOK.out i hi)
                have x0 := cellG hGx c0
                have x1 := cellG hGx c1
                have x2 := cellG hGx c2
                clear hcells
                have SP := Lib.hid (split_at HB.out hi)
                have hAsk : Hid True := trivial
                have HC := Lib.hid hC
                have HD0 := Lib.hid hD0
                have HGx := Lib.hid hGx
                clear hC hD0 hGx hD
                generalize hr : raw i = r at *
                have HR := Lib.hid hr
                clear hr
                obtain ⟨rn, rz, rs⟩ := r
                have hrz := OKI.out.1
                have hrz8 := OKI.out.2.1
                dsimp only at x0 x1 x2 hrz hrz8 c0 c1 c2
                obtain ⟨z, rfl⟩ := Int.eq_ofNat_of_zero_le (show 0 ≤ rz by omega)
                have z1 : 1 ≤ z := by omega
                have z8 : z ≤ 8 := by omega
                have hpart : Hid ((Raw.mk rn z rs).part = ⟨rn, z, rs.data.toList⟩) := by show _ = _; simp [Raw.part]
                have hrd : decide (i < k) = true := by simpa using hi
                have hin : i < n := by omega
                have hin2 : decide (i < n) = true := by simpa using hin
                by_cases hS : rs.data.toList = []
                · have hrs : rs = ⟨#[]⟩ := by
                    cases rs with
                    | mk d => simp at hS; rw [hS]
                  subst hrs
                  clear hS
                  obtain ⟨⟨nd, sd1⟩, hsd1⟩ : ∃ q, sd.num (width z) = q := ⟨_, rfl⟩
                  have hask : Hid ((Raw.mk rn z ⟨#[]⟩).part.ask sd = sd1) := by
                    show _ = _
                    rw [hpart.out]
                    have := congrArg Prod.snd hsd1
                    rw [width_nat z1 z8] at this
                    simpa [Part.ask] using this
                  have HSD := Lib.hid hsd1
                  have hnum : Hid (Sc.num ⟨B.drop (cat (upTo raw i)).length, 0⟩ (width z) = (rn, ⟨B.drop (cat (upTo raw (i + 1))).length, 0⟩)) := by
                    show _ = _
                    rw [SP.out.2, width_nat z1 z8, cat_succ, List.length_append, ← List.drop_drop, SP.out.2, HR.out]
                    have e : (Raw.mk rn z ⟨#[]⟩).part.enc = (Part.mk rn z []).enc := by rw [hpart.out]
                    rw [e]
                    have hp : (Part.mk rn z []).ok := by have := OKI.out.2.2; rw [hpart.out] at this; exact this
                    have := num_take (Part.mk rn z []) hp rfl (List.drop (Part.mk rn z []).enc.length (List.drop (cat (upTo raw i)).length B))
                    simpa using this
                  clear hsd1
                  go_wp2_with fail
                  refine (num_eq _ _ _ _ sd z nd sd1 HD0 HSD).mono ?_
                  rintro e X1 ⟨rfl, hd1, hch1⟩
                  have C1 := Lib.hid (dc_sc HC.out hd1 hch1 hcd)
                  have D1 := Lib.hid hd1
                  have Y1 := Lib.hid (grew_chg HGx.out hch1 (by have h1 := hd1.size; have h2 := HC.out.size; have h3 := Z1.out; omega))
                  clear hd1 hch1 x0 x1 x2
                  go_wp2
                  refine Moves.wp_region_text (JC w wo.heap.size W1.heap.size W1.heap.size W2.heap.size gc gd0 6 ⟨B.drop (cat (upTo raw i)).length, 0⟩ ⟨B.drop (cat (upTo raw (i + 1))).length, 0⟩ sd1) (fun _ _ => True) (by kernel_rfl) (by kernel_rfl) ⟨C1.out.grew (Grew.refl _).drew, D1.out.grew (Grew.refl _).drew, Y1.out.drew⟩ ?_
                  repeat
                    apply Moves.Lex.exact [] _ (by kernel_rfl)
                    · intro mm u W _ _ hJ _
                      have y0 := cellG hJ.2.2 c0
                      have y1 := cellG hJ.2.2 c1
                      have y2 := cellG hJ.2.2 c2
                      unfold Moves.one
                      go_simp
                      exact ⟨trivial, hJ, rfl⟩
                    simp only [Act.put, List.setIfInBounds_toArray, List.set_cons_zero, List.set_cons_succ, Nat.zero_add, Nat.reduceAdd]
                  apply Moves.Lex.exact [] _ (by kernel_rfl)
                  · intro mm u W hm0 _ hJ _
                    unfold JC at hJ
                    rw [if_neg (by rw [hm0]; exact Bool.false_ne_true)] at hJ
                    unfold Moves.one
                    go_simp
                    refine (num_eq _ _ _ _ _ z rn _ (Lib.hid hJ.1) hnum).mono ?_
                    rintro e w' ⟨rfl, hk1, hch⟩
                    exact ⟨_, rfl, trivial, ⟨hk1, cd_sc hk1 hJ.2.1 hch hcd, grew_chg hJ.2.2 hch (by have h2 := hk1.size; have h3 := Z1.out; omega)⟩, rfl⟩
                  simp only [Act.put, List.setIfInBounds_toArray, List.set_cons_zero, List.set_cons_succ, Nat.zero_add, Nat.reduceAdd]
                  repeat
                    apply Moves.Lex.exact [] _ (by kernel_rfl)
                    · intro mm u W _ _ hJ _
                      have y0 := cellG hJ.2.2 c0
                      have y1 := cellG hJ.2.2 c1
                      have y2 := cellG hJ.2.2 c2
                      unfold Moves.one
                      go_simp
                      exact ⟨trivial, hJ, rfl⟩
                    simp only [Act.put, List.setIfInBounds_toArray, List.set_cons_zero, List.set_cons_succ, Nat.zero_add, Nat.reduceAdd]
                  refine Moves.Lex.done fun mm u X2 hall hJ _ => ?_
                  unfold JC at hJ
                  rw [if_pos (hall 6 (by decide))] at hJ
                  have J2 := Lib.hid hJ
                  clear hJ hall
                  go_wp2
                  go_roundw
                  case rel => exact ⟨i + 1, sd1, hi, by go_num, J2.out.1, J2.out.2.1, by have := hAsk.out; exact this, J2.out.2.2⟩
                  case measure => simp [intOf]; omega
                · have hse : (!rs.toList.isEmpty) = true := by
                    rw [ByteArray.toList_eq]
                    cases hq : rs.data.toList with
                    | nil => exact absurd hq hS
                    | cons _ _ => rfl
                  have HS := Lib.hid hS
                  clear hS
                  obtain ⟨⟨td, sd1⟩, hsd1⟩ : ∃ q, sd.text 255 = q := ⟨_, rfl⟩
                  have hask : Hid ((Raw.mk rn z rs).part.ask sd = sd1) := by
                    show _ = _
                    rw [hpart.out]
                    have := congrArg Prod.snd hsd1
                    simpa [Part.ask, HS.out] using this
                  have HSD := Lib.hid hsd1
                  have htext : Hid (Sc.text ⟨B.drop (cat (upTo raw i)).length, 0⟩ 255 = (rs.data.toList, ⟨B.drop (cat (upTo raw (i + 1))).length, 0⟩)) := by
                    show _ = _
                    rw [SP.out.2, cat_succ, List.length_append, ← List.drop_drop, SP.out.2, HR.out]
                    have e : (Raw.mk rn z rs).part.enc = (Part.mk rn z rs.data.toList).enc := by rw [hpart.out]
                    rw [e]
                    have hp : (Part.mk rn z rs.data.toList).ok := by have := OKI.out.2.2; rw [hpart.out] at this; exact this
                    have := text_take (Part.mk rn z rs.data.toList) hp HS.out (List.drop (Part.mk rn z rs.data.toList).enc.length (List.drop (cat (upTo raw i)).length B))
                    simpa using this
                  clear hsd1
                  go_wp2_with fail
                  refine (text_eq _ _ _ _ sd 255 td sd1 HD0 HSD).mono ?_
                  rintro e X1 ⟨rfl, hd1, hch1⟩
                  have C1 := Lib.hid (dc_sc HC.out hd1 hch1 hcd)
                  have D1 := Lib.hid hd1
                  have Y1 := Lib.hid (grew_chg HGx.out hch1 (by have h1 := hd1.size; have h2 := HC.out.size; have h3 := Z1.out; omega))
                  clear hd1 hch1 x0 x1 x2
                  go_wp2
                  refine Moves.wp_region_text (JC w wo.heap.size W1.heap.size W1.heap.size W2.heap.size gc gd0 1 ⟨B.drop (cat (upTo raw i)).length, 0⟩ ⟨B.drop (cat (upTo raw (i + 1))).length, 0⟩ sd1) (fun _ _ => True) (by kernel_rfl) (by kernel_rfl) ⟨C1.out.grew (Grew.refl _).drew, D1.out.grew (Grew.refl _).drew, Y1.out.drew⟩ ?_
                  repeat
                    apply Moves.Lex.exact [] _ (by kernel_rfl)
                    · intro mm u W _ _ hJ _
                      have y0 := cellG hJ.2.2 c0
                      have y1 := cellG hJ.2.2 c1
                      have y2 := cellG hJ.2.2 c2
                      unfold Moves.one
                      go_simp
                      exact ⟨trivial, hJ, rfl⟩
                    simp only [Act.put, List.setIfInBounds_toArray, List.set_cons_zero, List.set_cons_succ, Nat.zero_add, Nat.reduceAdd]
                  apply Moves.Lex.exact [] _ (by kernel_rfl)
                  · intro mm u W hm0 _ hJ _
                    unfold JC at hJ
                    rw [if_neg (by rw [hm0]; exact Bool.false_ne_true)] at hJ
                    unfold Moves.one
                    go_simp
                    refine (text_eq2 _ _ _ _ _ 255 rs _ (Lib.hid hJ.1) htext).mono ?_
                    rintro e w' ⟨rfl, hk1, hch⟩
                    exact ⟨_, rfl, trivial, ⟨hk1, cd_sc hk1 hJ.2.1 hch hcd, grew_chg hJ.2.2 hch (by have h2 := hk1.size; have h3 := Z1.out; omega)⟩, rfl⟩
                  simp only [Act.put, List.setIfInBounds_toArray, List.set_cons_zero, List.set_cons_succ, Nat.zero_add, Nat.reduceAdd]
                  repeat
                    apply Moves.Lex.exact [] _ (by kernel_rfl)
                    · intro mm u W _ _ hJ _
                      have y0 := cellG hJ.2.2 c0
                      have y1 := cellG hJ.2.2 c1
                      have y2 := cellG hJ.2.2 c2
                      unfold Moves.one
                      go_simp
                      exact ⟨trivial, hJ, rfl⟩
                    simp only [Act.put, List.setIfInBounds_toArray, List.set_cons_zero, List.set_cons_succ, Nat.zero_add, Nat.reduceAdd]
                  refine Moves.Lex.done fun mm u X2 hall hJ _ => ?_
                  unfold JC at hJ
                  rw [if_pos (hall 1 (by decide))] at hJ
                  have J2 := Lib.hid hJ
                  clear hJ hall
                  go_wp2
                  go_roundw
                  case rel => exact ⟨i + 1, sd1, hi, by go_num, J2.out.1, J2.out.2.1, by have := hAsk.out; exact this, J2.out.2.2⟩
                  case measure => simp [intOf]; omega
              · have HIK : Hid (i = k) := by show _ = _; omega
                have hrd : decide (i < k) = false := by simpa using hi
                have HC := Lib.hid hC
                have HD0 := Lib.hid hD0
                have HGx := Lib.hid hGx
                have HD := Lib.hid hD
                clear hC hD0 hGx hD hi
                have q1 : decide ((m : Int) < 0) = false := decide_eq_false (by omega)
                have q2 : decide (B.length ≤ m) = true := by simp; omega
                go_wp2_with fail
                refine (alive_any _).mono ?_
                rintro e X1 ⟨rfl, hg⟩
                have C4 := Lib.hid (HC.out.grew hg)
                have D4 := Lib.hid (HD0.out.grew hg)
                have G4 := Lib.hid (HGx.out.trans hg)
                clear hg
                go_wp2_with fail
                refine (end_eq _ _ _ _ _ 0 (Lib.hid C4.out) (by show _ = _; rw [HIK.out, HB.out]; simp [Sc.fin, Sc.left])).mono ?_
                rintro e w' ⟨rfl, rfl⟩
                go_wp2
                go_ret
                exact ⟨rfl, G4.out⟩
        · have b0 : decide (0 ≤ cut) = false := by simpa using h0
          have bn : decide (cut < 0) = true := by simp; omega
          have hz2 := hg2.size
          clear hg2
          have SS := S2
          have DD := D2
          have GG := G2
          go_wp2
          have hcd : W1.heap.size ≤ W1.heap.size := by omega
          go_loopw [10] (fun iv wx => ∃ (i : Nat) (sd : Sc), i ≤ k ∧ iv = .int .i64 i ∧ SC wx wo.heap.size W1.heap.size (ptr gc) ⟨B.drop (cat (upTo raw i)).length, 0⟩ ∧ SC wx W1.heap.size W2.heap.size (ptr gd0) sd ∧ True ∧ Grew w wx) (fun iv _ => k - (intOf iv).toNat)
          case atStart => exact ⟨0, ⟨B, 0⟩, Nat.zero_le _, rfl, by simpa [upTo, cat] using SS.out, DD.out, trivial, GG.out⟩
          case round =>
            obtain ⟨i, sd, hik, rfl, hC, hD0, hD, hGx⟩ := hrel
            by_cases hi : i < k
            · rcases HA.out with hz | ⟨a, rfl, hab0, hcells⟩
              · omega
              obtain ⟨_, _, c0, c1, c2⟩ := hcells i (by omega)
              have OKI := Lib.hid (HOK.out i hi)
              have x0 := cellG hGx c0
              have x1 := cellG hGx c1
              have x2 := cellG hGx c2
              clear hcells
              have SP := Lib.hid (split_at HB.out hi)
              have hAsk : Hid True := trivial
              have HC := Lib.hid hC
              have HD0 := Lib.hid hD0
              have HGx := Lib.hid hGx
              clear hC hD0 hGx hD
              generalize hr : raw i = r at *
              have HR := Lib.hid hr
              clear hr
              obtain ⟨rn, rz, rs⟩ := r
              have hrz := OKI.out.1
              have hrz8 := OKI.out.2.1
              dsimp only at x0 x1 x2 hrz hrz8 c0 c1 c2
              obtain ⟨z, rfl⟩ := Int.eq_ofNat_of_zero_le (show 0 ≤ rz by omega)
              have z1 : 1 ≤ z := by omega
              have z8 : z ≤ 8 := by omega
              have hpart : Hid ((Raw.mk rn z rs).part = ⟨rn, z, rs.data.toList⟩) := by show _ = _; simp [Raw.part]
              have hrd : decide (i < k) = true := by simpa using hi
              have hin : i < n := by omega
              have hin2 : decide (i < n) = true := by simpa using hin
              by_cases hS : rs.data.toList = []
              · have hrs : rs = ⟨#[]⟩ := by
                  cases rs with
                  | mk d => simp at hS; rw [hS]
                subst hrs
                clear hS
                obtain ⟨⟨nd, sd1⟩, hsd1⟩ : ∃ q, sd.num (width z) = q := ⟨_, rfl⟩
                have hask : Hid ((Raw.mk rn z ⟨#[]⟩).part.ask sd = sd1) := by
                  show _ = _
                  rw [hpart.out]
                  have := congrArg Prod.snd hsd1
                  rw [width_nat z1 z8] at this
                  simpa [Part.ask] using this
                have HSD := Lib.hid hsd1
                have hnum : Hid (Sc.num ⟨B.drop (cat (upTo raw i)).length, 0⟩ (width z) = (rn, ⟨B.drop (cat (upTo raw (i + 1))).length, 0⟩)) := by
                  show _ = _
                  rw [SP.out.2, width_nat z1 z8, cat_succ, List.length_append, ← List.drop_drop, SP.out.2, HR.out]
                  have e : (Raw.mk rn z ⟨#[]⟩).part.enc = (Part.mk rn z []).enc := by rw [hpart.out]
                  rw [e]
                  have hp : (Part.mk rn z []).ok := by have := OKI.out.2.2; rw [hpart.out] at this; exact this
                  have := num_take (Part.mk rn z []) hp rfl (List.drop (Part.mk rn z []).enc.length (List.drop (cat (upTo raw i)).length B))
                  simpa using this
                clear hsd1
                go_wp2_with fail
                refine (num_eq _ _ _ _ sd z nd sd1 HD0 HSD).mono ?_
                rintro e X1 ⟨rfl, hd1, hch1⟩
                have C1 := Lib.hid (dc_sc HC.out hd1 hch1 hcd)
                have D1 := Lib.hid hd1
                have Y1 := Lib.hid (grew_chg HGx.out hch1 (by have h1 := hd1.size; have h2 := HC.out.size; have h3 := Z1.out; omega))
                clear hd1 hch1 x0 x1 x2
                go_wp2
                refine Moves.wp_region_text (JC w wo.heap.size W1.heap.size W1.heap.size W2.heap.size gc gd0 6 ⟨B.drop (cat (upTo raw i)).length, 0⟩ ⟨B.drop (cat (upTo raw (i + 1))).length, 0⟩ sd1) (fun _ _ => True) (by kernel_rfl) (by kernel_rfl) ⟨C1.out.grew (Grew.refl _).drew, D1.out.grew (Grew.refl _).drew, Y1.out.drew⟩ ?_
                repeat
                  apply Moves.Lex.exact [] _ (by kernel_rfl)
                  · intro mm u W _ _ hJ _
                    have y0 := cellG hJ.2.2 c0
                    have y1 := cellG hJ.2.2 c1
                    have y2 := cellG hJ.2.2 c2
                    unfold Moves.one
                    go_simp
                    exact ⟨trivial, hJ, rfl⟩
                  simp only [Act.put, List.setIfInBounds_toArray, List.set_cons_zero, List.set_cons_succ, Nat.zero_add, Nat.reduceAdd]
                apply Moves.Lex.exact [] _ (by kernel_rfl)
                · intro mm u W hm0 _ hJ _
                  unfold JC at hJ
                  rw [if_neg (by rw [hm0]; exact Bool.false_ne_true)] at hJ
                  unfold Moves.one
                  go_simp
                  refine (num_eq _ _ _ _ _ z rn _ (Lib.hid hJ.1) hnum).mono ?_
                  rintro e w' ⟨rfl, hk1, hch⟩
                  exact ⟨_, rfl, trivial, ⟨hk1, cd_sc hk1 hJ.2.1 hch hcd, grew_chg hJ.2.2 hch (by have h2 := hk1.size; have h3 := Z1.out; omega)⟩, rfl⟩
                simp only [Act.put, List.setIfInBounds_toArray, List.set_cons_zero, List.set_cons_succ, Nat.zero_add, Nat.reduceAdd]
                repeat
                  apply Moves.Lex.exact [] _ (by kernel_rfl)
                  · intro mm u W _ _ hJ _
                    have y0 := cellG hJ.2.2 c0
                    have y1 := cellG hJ.2.2 c1
                    have y2 := cellG hJ.2.2 c2
                    unfold Moves.one
                    go_simp
                    exact ⟨trivial, hJ, rfl⟩
                  simp only [Act.put, List.setIfInBounds_toArray, List.set_cons_zero, List.set_cons_succ, Nat.zero_add, Nat.reduceAdd]
                refine Moves.Lex.done fun mm u X2 hall hJ _ => ?_
                unfold JC at hJ
                rw [if_pos (hall 6 (by decide))] at hJ
                have J2 := Lib.hid hJ
                clear hJ hall
                go_wp2
                go_roundw
                case rel => exact ⟨i + 1, sd1, hi, by go_num, J2.out.1, J2.out.2.1, by have := hAsk.out; exact this, J2.out.2.2⟩
                case measure => simp [intOf]; omega
              · have hse : (!rs.toList.isEmpty) = true := by
                  rw [ByteArray.toList_eq]
                  cases hq : rs.data.toList with
                  | nil => exact absurd hq hS
                  | cons _ _ => rfl
                have HS := Lib.hid hS
                clear hS
                obtain ⟨⟨td, sd1⟩, hsd1⟩ : ∃ q, sd.text 255 = q := ⟨_, rfl⟩
                have hask : Hid ((Raw.mk rn z rs).part.ask sd = sd1) := by
                  show _ = _
                  rw [hpart.out]
                  have := congrArg Prod.snd hsd1
                  simpa [Part.ask, HS.out] using this
                have HSD := Lib.hid hsd1
                have htext : Hid (Sc.text ⟨B.drop (cat (upTo raw i)).length, 0⟩ 255 = (rs.data.toList, ⟨B.drop (cat (upTo raw (i + 1))).length, 0⟩)) := by
                  show _ = _
                  rw [SP.out.2, cat_succ, List.length_append, ← List.drop_drop, SP.out.2, HR.out]
                  have e : (Raw.mk rn z rs).part.enc = (Part.mk rn z rs.data.toList).enc := by rw [hpart.out]
                  rw [e]
                  have hp : (Part.mk rn z rs.data.toList).ok := by have := OKI.out.2.2; rw [hpart.out] at this; exact this
                  have := text_take (Part.mk rn z rs.data.toList) hp HS.out (List.drop (Part.mk rn z rs.data.toList).enc.length (List.drop (cat (upTo raw i)).length B))
                  simpa using this
                clear hsd1
                go_wp2_with fail
                refine (text_eq _ _ _ _ sd 255 td sd1 HD0 HSD).mono ?_
                rintro e X1 ⟨rfl, hd1, hch1⟩
                have C1 := Lib.hid (dc_sc HC.out hd1 hch1 hcd)
                have D1 := Lib.hid hd1
                have Y1 := Lib.hid (grew_chg HGx.out hch1 (by have h1 := hd1.size; have h2 := HC.out.size; have h3 := Z1.out; omega))
                clear hd1 hch1 x0 x1 x2
                go_wp2
                refine Moves.wp_region_text (JC w wo.heap.size W1.heap.size W1.heap.size W2.heap.size gc gd0 1 ⟨B.drop (cat (upTo raw i)).length, 0⟩ ⟨B.drop (cat (upTo raw (i + 1))).length, 0⟩ sd1) (fun _ _ => True) (by kernel_rfl) (by kernel_rfl) ⟨C1.out.grew (Grew.refl _).drew, D1.out.grew (Grew.refl _).drew, Y1.out.drew⟩ ?_
                repeat
                  apply Moves.Lex.exact [] _ (by kernel_rfl)
                  · intro mm u W _ _ hJ _
                    have y0 := cellG hJ.2.2 c0
                    have y1 := cellG hJ.2.2 c1
                    have y2 := cellG hJ.2.2 c2
                    unfold Moves.one
                    go_simp
                    exact ⟨trivial, hJ, rfl⟩
                  simp only [Act.put, List.setIfInBounds_toArray, List.set_cons_zero, List.set_cons_succ, Nat.zero_add, Nat.reduceAdd]
                apply Moves.Lex.exact [] _ (by kernel_rfl)
                · intro mm u W hm0 _ hJ _
                  unfold JC at hJ
                  rw [if_neg (by rw [hm0]; exact Bool.false_ne_true)] at hJ
                  unfold Moves.one
                  go_simp
                  refine (text_eq2 _ _ _ _ _ 255 rs _ (Lib.hid hJ.1) htext).mono ?_
                  rintro e w' ⟨rfl, hk1, hch⟩
                  exact ⟨_, rfl, trivial, ⟨hk1, cd_sc hk1 hJ.2.1 hch hcd, grew_chg hJ.2.2 hch (by have h2 := hk1.size; have h3 := Z1.out; omega)⟩, rfl⟩
                simp only [Act.put, List.setIfInBounds_toArray, List.set_cons_zero, List.set_cons_succ, Nat.zero_add, Nat.reduceAdd]
                repeat
                  apply Moves.Lex.exact [] _ (by kernel_rfl)
                  · intro mm u W _ _ hJ _
                    have y0 := cellG hJ.2.2 c0
                    have y1 := cellG hJ.2.2 c1
                    have y2 := cellG hJ.2.2 c2
                    unfold Moves.one
                    go_simp
                    exact ⟨trivial, hJ, rfl⟩
                  simp only [Act.put, List.setIfInBounds_toArray, List.set_cons_zero, List.set_cons_succ, Nat.zero_add, Nat.reduceAdd]
                refine Moves.Lex.done fun mm u X2 hall hJ _ => ?_
                unfold JC at hJ
                rw [if_pos (hall 1 (by decide))] at hJ
                have J2 := Lib.hid hJ
                clear hJ hall
                go_wp2
                go_roundw
                case rel => exact ⟨i + 1, sd1, hi, by go_num, J2.out.1, J2.out.2.1, by have := hAsk.out; exact this, J2.out.2.2⟩
                case measure => simp [intOf]; omega
            · have HIK : Hid (i = k) := by show _ = _; omega
              have hrd : decide (i < k) = false := by simpa using hi
              have HC := Lib.hid hC
              have HD0 := Lib.hid hD0
              have HGx := Lib.hid hGx
              have HD := Lib.hid hD
              clear hC hD0 hGx hD hi
              go_wp2_with fail
              refine (alive_any _).mono ?_
              rintro e X1 ⟨rfl, hg⟩
              have C4 := Lib.hid (HC.out.grew hg)
              have D4 := Lib.hid (HD0.out.grew hg)
              have G4 := Lib.hid (HGx.out.trans hg)
              clear hg
              go_wp2_with fail
              refine (end_eq _ _ _ _ _ 0 (Lib.hid C4.out) (by show _ = _; rw [HIK.out, HB.out]; simp [Sc.fin, Sc.left])).mono ?_
              rintro e w' ⟨rfl, rfl⟩
              go_wp2
              go_ret
              exact ⟨rfl, G4.out⟩
      · have hd1 : decide (k < n) = false := by simpa using hlt2
        clear hlt
        obtain ⟨wo, hwo⟩ : ∃ x : World, x = wr := ⟨_, rfl⟩
        subst hwo
        have hcl := cat_len raw k HOK.out
        obtain ⟨B, hB⟩ : ∃ B, cat (upTo raw k) = B := ⟨_, rfl⟩
        rw [hB] at hcl
        have HB := Lib.hid hB
        have HRB : Hid (Rd (fun _ => True) wo u5 B) := by have := HRD.out; rw [hB] at this; exact this
        clear hB HRD
        obtain ⟨Ab, cb, rfl, hb1, hb2, _⟩ := id HRB.out
        unfold maxLen at hb2
        go_wp2_with fail
        refine (from_any _ _ B _ HRB.out (by omega)).mono ?_
        rintro e W1 ⟨gc, rfl, hs1, hg1⟩
        have S1 := Lib.hid hs1
        have G1 := Lib.hid (HG.out.trans hg1)
        have R1 := Lib.hid (HRB.out.grew hg1)
        have Z1 := Lib.hid HG.out.size
        clear hs1 hg1
        go_wp2_with fail
        refine (from_any _ _ B _ R1.out (by omega)).mono ?_
        rintro e W2 ⟨gd0, rfl, hs2, hg2⟩
        have S2 := Lib.hid (S1.out.grew hg2)
        have D2 := Lib.hid hs2
        have G2 := Lib.hid (G1.out.trans hg2)
        have R2 := Lib.hid (R1.out.grew hg2)
        clear hs2
        by_cases h0 : 0 ≤ cut
        · have b0 : decide (0 ≤ cut) = true := by simpa using h0
          obtain ⟨m, rfl⟩ := Int.eq_ofNat_of_zero_le h0
          by_cases hm : m < B.length
          · have bm : decide (m < B.length) = true := by simpa using hm
            have hmc : m ≤ cb := by omega
            have hz2 := hg2.size
            clear hg2
            go_wp2_with fail
            refine (from_any _ _ (B.take m) _ (cut_first R2.out (by omega)) (by rw [List.length_take]; omega)).mono ?_
            rintro e W3 ⟨gd, rfl, hs3, hg3⟩
            have SS := Lib.hid (S2.out.grew hg3)
            have DD := Lib.hid hs3
            have GG := Lib.hid (G2.out.trans hg3)
            clear hs3 hg3
            have hT : Hid (Cut B m 0 ⟨B.take m, 0⟩) := .inr ⟨Nat.zero_le _, by simp⟩
            have hmB : m ≤ B.length := by omega
            go_wp2
            have hcd : W1.heap.size ≤ W2.heap.size := by omega
            go_loopw [10] (fun iv wx => ∃ (i : Nat) (sd : Sc), i ≤ k ∧ iv = .int .i64 i ∧ SC wx wo.heap.size W1.heap.size (ptr gc) ⟨B.drop (cat (upTo raw i)).length, 0⟩ ∧ SC wx W2.heap.size W3.heap.size (ptr gd) sd ∧ Cut B m (cat (upTo raw i)).length sd ∧ Grew w wx) (fun iv _ => k - (intOf iv).toNat)
            case atStart => exact ⟨0, ⟨B.take m, 0⟩, Nat.zero_le _, rfl, by simpa [upTo, cat] using SS.out, DD.out, by simpa [upTo, cat] using hT.out, GG.out⟩
            case round =>
              obtain ⟨i, sd, hik, rfl, hC, hD0, hD, hGx⟩ := hrel
              by_cases hi : i < k
              · rcases HA.out with hz | ⟨a, rfl, hab0, hcells⟩
                · omega
                obtain ⟨_, _, c0, c1, c2⟩ := hcells i (by omega)
                have OKI := Lib.hid (HOK.out i hi)
                have x0 := cellG hGx c0
                have x1 := cellG hGx c1
                have x2 := cellG hGx c2
                clear hcells
                have SP := Lib.hid (split_at HB.out hi)
                have hAsk : Hid (Cut B m (cat (upTo raw (i + 1))).length ((raw i).part.ask sd)) := by
                  rw [cat_succ, List.length_append]
                  exact ask_cut _ (HOK.out i (by omega)).2.2 B (cat (upTo raw i)) ((B.drop (cat (upTo raw i)).length).drop (raw i).part.enc.length) (split_at HB.out hi).1 m hmB sd hD
                have HC := Lib.hid hC
                have HD0 := Lib.hid hD0
                have HGx := Lib.hid hGx
                clear hC hD0 hGx hD
                generalize hr : raw i = r at *
                have HR := Lib.hid hr
                clear hr
                obtain ⟨rn, rz, rs⟩ := r
                have hrz := OKI.out.1
                have hrz8 := OKI.out.2.1
                dsimp only at x0 x1 x2 hrz hrz8 c0 c1 c2
                obtain ⟨z, rfl⟩ := Int.eq_ofNat_of_zero_le (show 0 ≤ rz by omega)
                have z1 : 1 ≤ z := by omega
                have z8 : z ≤ 8 := by omega
                have hpart : Hid ((Raw.mk rn z rs).part = ⟨rn, z, rs.data.toList⟩) := by show _ = _; simp [Raw.part]
                have hrd : decide (i < k) = true := by simpa using hi
                have hin : i < n := by omega
                have hin2 : decide (i < n) = true := by simpa using hin
                by_cases hS : rs.data.toList = []
                · have hrs : rs = ⟨#[]⟩ := by
                    cases rs with
                    | mk d => simp at hS; rw [hS]
                  subst hrs
                  clear hS
                  obtain ⟨⟨nd, sd1⟩, hsd1⟩ : ∃ q, sd.num (width z) = q := ⟨_, rfl⟩
                  have hask : Hid ((Raw.mk rn z ⟨#[]⟩).part.ask sd = sd1) := by
                    show _ = _
                    rw [hpart.out]
                    have := congrArg Prod.snd hsd1
                    rw [width_nat z1 z8] at this
                    simpa [Part.ask] using this
                  have HSD := Lib.hid hsd1
                  have hnum : Hid (Sc.num ⟨B.drop (cat (upTo raw i)).length, 0⟩ (width z) = (rn, ⟨B.drop (cat (upTo raw (i + 1))).length, 0⟩)) := by
                    show _ = _
                    rw [SP.out.2, width_nat z1 z8, cat_succ, List.length_append, ← List.drop_drop, SP.out.2, HR.out]
                    have e : (Raw.mk rn z ⟨#[]⟩).part.enc = (Part.mk rn z []).enc := by rw [hpart.out]
                    rw [e]
                    have hp : (Part.mk rn z []).ok := by have := OKI.out.2.2; rw [hpart.out] at this; exact this
                    have := num_take (Part.mk rn z []) hp rfl (List.drop (Part.mk rn z []).enc.length (List.drop (cat (upTo raw i)).length B))
                    simpa using this
                  clear hsd1
                  go_wp2_with fail
                  refine (num_eq _ _ _ _ sd z nd sd1 HD0 HSD).mono ?_
                  rintro e X1 ⟨rfl, hd1, hch1⟩
                  have C1 := Lib.hid (dc_sc HC.out hd1 hch1 hcd)
                  have D1 := Lib.hid hd1
                  have Y1 := Lib.hid (grew_chg HGx.out hch1 (by have h1 := hd1.size; have h2 := HC.out.size; have h3 := Z1.out; omega))
                  clear hd1 hch1 x0 x1 x2
                  go_wp2
                  refine Moves.wp_region_text (JC w wo.heap.size W1.heap.size W2.heap.size W3.heap.size gc gd 6 ⟨B.drop (cat (upTo raw i)).length, 0⟩ ⟨B.drop (cat (upTo raw (i + 1))).length, 0⟩ sd1) (fun _ _ => True) (by kernel_rfl) (by kernel_rfl) ⟨C1.out.grew (Grew.refl _).drew, D1.out.grew (Grew.refl _).drew, Y1.out.drew⟩ ?_
                  repeat
                    apply Moves.Lex.exact [] _ (by kernel_rfl)
                    · intro mm u W _ _ hJ _
                      have y0 := cellG hJ.2.2 c0
                      have y1 := cellG hJ.2.2 c1
                      have y2 := cellG hJ.2.2 c2
                      unfold Moves.one
                      go_simp
                      exact ⟨trivial, hJ, rfl⟩
                    simp only [Act.put, List.setIfInBounds_toArray, List.set_cons_zero, List.set_cons_succ, Nat.zero_add, Nat.reduceAdd]
                  apply Moves.Lex.exact [] _ (by kernel_rfl)
                  · intro mm u W hm0 _ hJ _
                    unfold JC at hJ
                    rw [if_neg (by rw [hm0]; exact Bool.false_ne_true)] at hJ
                    unfold Moves.one
                    go_simp
                    refine (num_eq _ _ _ _ _ z rn _ (Lib.hid hJ.1) hnum).mono ?_
                    rintro e w' ⟨rfl, hk1, hch⟩
                    exact ⟨_, rfl, trivial, ⟨hk1, cd_sc hk1 hJ.2.1 hch hcd, grew_chg hJ.2.2 hch (by have h2 := hk1.size; have h3 := Z1.out; omega)⟩, rfl⟩
                  simp only [Act.put, List.setIfInBounds_toArray, List.set_cons_zero, List.set_cons_succ, Nat.zero_add, Nat.reduceAdd]
                  repeat
                    apply Moves.Lex.exact [] _ (by kernel_rfl)
                    · intro mm u W _ _ hJ _
                      have y0 := cellG hJ.2.2 c0
                      have y1 := cellG hJ.2.2 c1
                      have y2 := cellG hJ.2.2 c2
                      unfold Moves.one
                      go_simp
                      exact ⟨trivial, hJ, rfl⟩
                    simp only [Act.put, List.setIfInBounds_toArray, List.set_cons_zero, List.set_cons_succ, Nat.zero_add, Nat.reduceAdd]
                  refine Moves.Lex.done fun mm u X2 hall hJ _ => ?_
                  unfold JC at hJ
                  rw [if_pos (hall 6 (by decide))] at hJ
                  have J2 := Lib.hid hJ
                  clear hJ hall
                  go_wp2
                  go_roundw
                  case rel => exact ⟨i + 1, sd1, hi, by go_num, J2.out.1, J2.out.2.1, by have := hAsk.out; rw [hask.out] at this; exact this, J2.out.2.2⟩
                  case measure => simp [intOf]; omega
                · have hse : (!rs.toList.isEmpty) = true := by
                    rw [ByteArray.toList_eq]
                    cases hq : rs.data.toList with
                    | nil => exact absurd hq hS
                    | cons _ _ => rfl
                  have HS := Lib.hid hS
                  clear hS
                  obtain ⟨⟨td, sd1⟩, hsd1⟩ : ∃ q, sd.text 255 = q := ⟨_, rfl⟩
                  have hask : Hid ((Raw.mk rn z rs).part.ask sd = sd1) := by
                    show _ = _
                    rw [hpart.out]
                    have := congrArg Prod.snd hsd1
                    simpa [Part.ask, HS.out] using this
                  have HSD := Lib.hid hsd1
                  have htext : Hid (Sc.text ⟨B.drop (cat (upTo raw i)).length, 0⟩ 255 = (rs.data.toList, ⟨B.drop (cat (upTo raw (i + 1))).length, 0⟩)) := by
                    show _ = _
                    rw [SP.out.2, cat_succ, List.length_append, ← List.drop_drop, SP.out.2, HR.out]
                    have e : (Raw.mk rn z rs).part.enc = (Part.mk rn z rs.data.toList).enc := by rw [hpart.out]
                    rw [e]
                    have hp : (Part.mk rn z rs.data.toList).ok := by have := OKI.out.2.2; rw [hpart.out] at this; exact this
                    have := text_take (Part.mk rn z rs.data.toList) hp HS.out (List.drop (Part.mk rn z rs.data.toList).enc.length (List.drop (cat (upTo raw i)).length B))
                    simpa using this
                  clear hsd1
                  go_wp2_with fail
                  refine (text_eq _ _ _ _ sd 255 td sd1 HD0 HSD).mono ?_
                  rintro e X1 ⟨rfl, hd1, hch1⟩
                  have C1 := Lib.hid (dc_sc HC.out hd1 hch1 hcd)
                  have D1 := Lib.hid hd1
                  have Y1 := Lib.hid (grew_chg HGx.out hch1 (by have h1 := hd1.size; have h2 := HC.out.size; have h3 := Z1.out; omega))
                  clear hd1 hch1 x0 x1 x2
                  go_wp2
                  refine Moves.wp_region_text (JC w wo.heap.size W1.heap.size W2.heap.size W3.heap.size gc gd 1 ⟨B.drop (cat (upTo raw i)).length, 0⟩ ⟨B.drop (cat (upTo raw (i + 1))).length, 0⟩ sd1) (fun _ _ => True) (by kernel_rfl) (by kernel_rfl) ⟨C1.out.grew (Grew.refl _).drew, D1.out.grew (Grew.refl _).drew, Y1.out.drew⟩ ?_
                  repeat
                    apply Moves.Lex.exact [] _ (by kernel_rfl)
                    · intro mm u W _ _ hJ _
                      have y0 := cellG hJ.2.2 c0
                      have y1 := cellG hJ.2.2 c1
                      have y2 := cellG hJ.2.2 c2
                      unfold Moves.one
                      go_simp
                      exact ⟨trivial, hJ, rfl⟩
                    simp only [Act.put, List.setIfInBounds_toArray, List.set_cons_zero, List.set_cons_succ, Nat.zero_add, Nat.reduceAdd]
                  apply Moves.Lex.exact [] _ (by kernel_rfl)
                  · intro mm u W hm0 _ hJ _
                    unfold JC at hJ
                    rw [if_neg (by rw [hm0]; exact Bool.false_ne_true)] at hJ
                    unfold Moves.one
                    go_simp
                    refine (text_eq2 _ _ _ _ _ 255 rs _ (Lib.hid hJ.1) htext).mono ?_
                    rintro e w' ⟨rfl, hk1, hch⟩
                    exact ⟨_, rfl, trivial, ⟨hk1, cd_sc hk1 hJ.2.1 hch hcd, grew_chg hJ.2.2 hch (by have h2 := hk1.size; have h3 := Z1.out; omega)⟩, rfl⟩
                  simp only [Act.put, List.setIfInBounds_toArray, List.set_cons_zero, List.set_cons_succ, Nat.zero_add, Nat.reduceAdd]
                  repeat
                    apply Moves.Lex.exact [] _ (by kernel_rfl)
                    · intro mm u W _ _ hJ _
                      have y0 := cellG hJ.2.2 c0
                      have y1 := cellG hJ.2.2 c1
                      have y2 := cellG hJ.2.2 c2
                      unfold Moves.one
                      go_simp
                      exact ⟨trivial, hJ, rfl⟩
                    simp only [Act.put, List.setIfInBounds_toArray, List.set_cons_zero, List.set_cons_succ, Nat.zero_add, Nat.reduceAdd]
                  refine Moves.Lex.done fun mm u X2 hall hJ _ => ?_
                  unfold JC at hJ
                  rw [if_pos (hall 1 (by decide))] at hJ
                  have J2 := Lib.hid hJ
                  clear hJ hall
                  go_wp2
                  go_roundw
                  case rel => exact ⟨i + 1, sd1, hi, by go_num, J2.out.1, J2.out.2.1, by have := hAsk.out; rw [hask.out] at this; exact this, J2.out.2.2⟩
                  case measure => simp [intOf]; omega
              · have HIK : Hid (i = k) := by show _ = _; omega
                have hrd : decide (i < k) = false := by simpa using hi
                have HC := Lib.hid hC
                have HD0 := Lib.hid hD0
                have HGx := Lib.hid hGx
                have HD := Lib.hid hD
                clear hC hD0 hGx hD hi
                have q1 : decide ((m : Int) < 0) = false := decide_eq_false (by omega)
                have q2 : decide (B.length ≤ m) = false := by simp; omega
                go_wp2_with fail
                refine (alive_any _).mono ?_
                rintro e X1 ⟨rfl, hg⟩
                have C4 := Lib.hid (HC.out.grew hg)
                have D4 := Lib.hid (HD0.out.grew hg)
                have G4 := Lib.hid (HGx.out.trans hg)
                clear hg
                go_wp2_with fail
                refine (end_eq _ _ _ _ _ 0 (Lib.hid C4.out) (by show _ = _; rw [HIK.out, HB.out]; simp [Sc.fin, Sc.left])).mono ?_
                rintro e w' ⟨rfl, rfl⟩
                go_wp2_with fail
                refine (fault_eq _ _ _ _ sd 12 (Lib.hid D4.out) (by
                  rcases HD.out with h | ⟨h, _⟩
                  · exact h
                  · rw [HIK.out, HB.out] at h
                    omega)).mono ?_
                rintro e w' ⟨rfl, rfl⟩
                go_wp2
                go_ret
                exact ⟨rfl, G4.out⟩
          · have bm : decide (m < B.length) = false := by simpa using hm
            have hz2 := hg2.size
            clear hg2
            have SS := S2
            have DD := D2
            have GG := G2
            go_wp2
            have hcd : W1.heap.size ≤ W1.heap.size := by omega
            go_loopw [10] (fun iv wx => ∃ (i : Nat) (sd : Sc), i ≤ k ∧ iv = .int .i64 i ∧ SC wx wo.heap.size W1.heap.size (ptr gc) ⟨B.drop (cat (upTo raw i)).length, 0⟩ ∧ SC wx W1.heap.size W2.heap.size (ptr gd0) sd ∧ True ∧ Grew w wx) (fun iv _ => k - (intOf iv).toNat)
            case atStart => exact ⟨0, ⟨B, 0⟩, Nat.zero_le _, rfl, by simpa [upTo, cat] using SS.out, DD.out, trivial, GG.out⟩
            case round =>
              obtain ⟨i, sd, hik, rfl, hC, hD0, hD, hGx⟩ := hrel
              by_cases hi : i < k
              · rcases HA.out with hz | ⟨a, rfl, hab0, hcells⟩
                · omega
                obtain ⟨_, _, c0, c1, c2⟩ := hcells i (by omega)
                have OKI := Lib.hid (HOK.out i hi)
                have x0 := cellG hGx c0
                have x1 := cellG hGx c1
                have x2 := cellG hGx c2
                clear hcells
                have SP := Lib.hid (split_at HB.out hi)
                have hAsk : Hid True := trivial
                have HC := Lib.hid hC
                have HD0 := Lib.hid hD0
                have HGx := Lib.hid hGx
                clear hC hD0 hGx hD
                generalize hr : raw i = r at *
                have HR := Lib.hid hr
                clear hr
                obtain ⟨rn, rz, rs⟩ := r
                have hrz := OKI.out.1
                have hrz8 := OKI.out.2.1
                dsimp only at x0 x1 x2 hrz hrz8 c0 c1 c2
                obtain ⟨z, rfl⟩ := Int.eq_ofNat_of_zero_le (show 0 ≤ rz by omega)
                have z1 : 1 ≤ z := by omega
                have z8 : z ≤ 8 := by omega
                have hpart : Hid ((Raw.mk rn z rs).part = ⟨rn, z, rs.data.toList⟩) := by show _ = _; simp [Raw.part]
                have hrd : decide (i < k) = true := by simpa using hi
                have hin : i < n := by omega
                have hin2 : decide (i < n) = true := by simpa using hin
                by_cases hS : rs.data.toList = []
                · have hrs : rs = ⟨#[]⟩ := by
                    cases rs with
                    | mk d => simp at hS; rw [hS]
                  subst hrs
                  clear hS
                  obtain ⟨⟨nd, sd1⟩, hsd1⟩ : ∃ q, sd.num (width z) = q := ⟨_, rfl⟩
                  have hask : Hid ((Raw.mk rn z ⟨#[]⟩).part.ask sd = sd1) := by
                    show _ = _
                    rw [hpart.out]
                    have := congrArg Prod.snd hsd1
                    rw [width_nat z1 z8] at this
                    simpa [Part.ask] using this
                  have HSD := Lib.hid hsd1
                  have hnum : Hid (Sc.num ⟨B.drop (cat (upTo raw i)).length, 0⟩ (width z) = (rn, ⟨B.drop (cat (upTo raw (i + 1))).length, 0⟩)) := by
                    show _ = _
                    rw [SP.out.2, width_nat z1 z8, cat_succ, List.length_append, ← List.drop_drop, SP.out.2, HR.out]
                    have e : (Raw.mk rn z ⟨#[]⟩).part.enc = (Part.mk rn z []).enc := by rw [hpart.out]
                    rw [e]
                    have hp : (Part.mk rn z []).ok := by have := OKI.out.2.2; rw [hpart.out] at this; exact this
                    have := num_take (Part.mk rn z []) hp rfl (List.drop (Part.mk rn z []).enc.length (List.drop (cat (upTo raw i)).length B))
                    simpa using this
                  clear hsd1
                  go_wp2_with fail
                  refine (num_eq _ _ _ _ sd z nd sd1 HD0 HSD).mono ?_
                  rintro e X1 ⟨rfl, hd1, hch1⟩
                  have C1 := Lib.hid (dc_sc HC.out hd1 hch1 hcd)
                  have D1 := Lib.hid hd1
                  have Y1 := Lib.hid (grew_chg HGx.out hch1 (by have h1 := hd1.size; have h2 := HC.out.size; have h3 := Z1.out; omega))
                  clear hd1 hch1 x0 x1 x2
                  go_wp2
                  refine Moves.wp_region_text (JC w wo.heap.size W1.heap.size W1.heap.size W2.heap.size gc gd0 6 ⟨B.drop (cat (upTo raw i)).length, 0⟩ ⟨B.drop (cat (upTo raw (i + 1))).length, 0⟩ sd1) (fun _ _ => True) (by kernel_rfl) (by kernel_rfl) ⟨C1.out.grew (Grew.refl _).drew, D1.out.grew (Grew.refl _).drew, Y1.out.drew⟩ ?_
                  repeat
                    apply Moves.Lex.exact [] _ (by kernel_rfl)
                    · intro mm u W _ _ hJ _
                      have y0 := cellG hJ.2.2 c0
                      have y1 := cellG hJ.2.2 c1
                      have y2 := cellG hJ.2.2 c2
                      unfold Moves.one
                      go_simp
                      exact ⟨trivial, hJ, rfl⟩
                    simp only [Act.put, List.setIfInBounds_toArray, List.set_cons_zero, List.set_cons_succ, Nat.zero_add, Nat.reduceAdd]
                  apply Moves.Lex.exact [] _ (by kernel_rfl)
                  · intro mm u W hm0 _ hJ _
                    unfold JC at hJ
                    rw [if_neg (by rw [hm0]; exact Bool.false_ne_true)] at hJ
                    unfold Moves.one
                    go_simp
                    refine (num_eq _ _ _ _ _ z rn _ (Lib.hid hJ.1) hnum).mono ?_
                    rintro e w' ⟨rfl, hk1, hch⟩
                    exact ⟨_, rfl, trivial, ⟨hk1, cd_sc hk1 hJ.2.1 hch hcd, grew_chg hJ.2.2 hch (by have h2 := hk1.size; have h3 := Z1.out; omega)⟩, rfl⟩
                  simp only [Act.put, List.setIfInBounds_toArray, List.set_cons_zero, List.set_cons_succ, Nat.zero_add, Nat.reduceAdd]
                  repeat
                    apply Moves.Lex.exact [] _ (by kernel_rfl)
                    · intro mm u W _ _ hJ _
                      have y0 := cellG hJ.2.2 c0
                      have y1 := cellG hJ.2.2 c1
                      have y2 := cellG hJ.2.2 c2
                      unfold Moves.one
                      go_simp
                      exact ⟨trivial, hJ, rfl⟩
                    simp only [Act.put, List.setIfInBounds_toArray, List.set_cons_zero, List.set_cons_succ, Nat.zero_add, Nat.reduceAdd]
                  refine Moves.Lex.done fun mm u X2 hall hJ _ => ?_
                  unfold JC at hJ
                  rw [if_pos (hall 6 (by decide))] at hJ
                  have J2 := Lib.hid hJ
                  clear hJ hall
                  go_wp2
                  go_roundw
                  case rel => exact ⟨i + 1, sd1, hi, by go_num, J2.out.1, J2.out.2.1, by have := hAsk.out; exact this, J2.out.2.2⟩
                  case measure => simp [intOf]; omega
                · have hse : (!rs.toList.isEmpty) = true := by
                    rw [ByteArray.toList_eq]
                    cases hq : rs.data.toList with
                    | nil => exact absurd hq hS
                    | cons _ _ => rfl
                  have HS := Lib.hid hS
                  clear hS
                  obtain ⟨⟨td, sd1⟩, hsd1⟩ : ∃ q, sd.text 255 = q := ⟨_, rfl⟩
                  have hask : Hid ((Raw.mk rn z rs).part.ask sd = sd1) := by
                    show _ = _
                    rw [hpart.out]
                    have := congrArg Prod.snd hsd1
                    simpa [Part.ask, HS.out] using this
                  have HSD := Lib.hid hsd1
                  have htext : Hid (Sc.text ⟨B.drop (cat (upTo raw i)).length, 0⟩ 255 = (rs.data.toList, ⟨B.drop (cat (upTo raw (i + 1))).length, 0⟩)) := by
                    show _ = _
                    rw [SP.out.2, cat_succ, List.length_append, ← List.drop_drop, SP.out.2, HR.out]
                    have e : (Raw.mk rn z rs).part.enc = (Part.mk rn z rs.data.toList).enc := by rw [hpart.out]
                    rw [e]
                    have hp : (Part.mk rn z rs.data.toList).ok := by have := OKI.out.2.2; rw [hpart.out] at this; exact this
                    have := text_take (Part.mk rn z rs.data.toList) hp HS.out (List.drop (Part.mk rn z rs.data.toList).enc.length (List.drop (cat (upTo raw i)).length B))
                    simpa using this
                  clear hsd1
                  go_wp2_with fail
                  refine (text_eq _ _ _ _ sd 255 td sd1 HD0 HSD).mono ?_
                  rintro e X1 ⟨rfl, hd1, hch1⟩
                  have C1 := Lib.hid (dc_sc HC.out hd1 hch1 hcd)
                  have D1 := Lib.hid hd1
                  have Y1 := Lib.hid (grew_chg HGx.out hch1 (by have h1 := hd1.size; have h2 := HC.out.size; have h3 := Z1.out; omega))
                  clear hd1 hch1 x0 x1 x2
                  go_wp2
                  refine Moves.wp_region_text (JC w wo.heap.size W1.heap.size W1.heap.size W2.heap.size gc gd0 1 ⟨B.drop (cat (upTo raw i)).length, 0⟩ ⟨B.drop (cat (upTo raw (i + 1))).length, 0⟩ sd1) (fun _ _ => True) (by kernel_rfl) (by kernel_rfl) ⟨C1.out.grew (Grew.refl _).drew, D1.out.grew (Grew.refl _).drew, Y1.out.drew⟩ ?_
                  repeat
                    apply Moves.Lex.exact [] _ (by kernel_rfl)
                    · intro mm u W _ _ hJ _
                      have y0 := cellG hJ.2.2 c0
                      have y1 := cellG hJ.2.2 c1
                      have y2 := cellG hJ.2.2 c2
                      unfold Moves.one
                      go_simp
                      exact ⟨trivial, hJ, rfl⟩
                    simp only [Act.put, List.setIfInBounds_toArray, List.set_cons_zero, List.set_cons_succ, Nat.zero_add, Nat.reduceAdd]
                  apply Moves.Lex.exact [] _ (by kernel_rfl)
                  · intro mm u W hm0 _ hJ _
                    unfold JC at hJ
                    rw [if_neg (by rw [hm0]; exact Bool.false_ne_true)] at hJ
                    unfold Moves.one
                    go_simp
                    refine (text_eq2 _ _ _ _ _ 255 rs _ (Lib.hid hJ.1) htext).mono ?_
                    rintro e w' ⟨rfl, hk1, hch⟩
                    exact ⟨_, rfl, trivial, ⟨hk1, cd_sc hk1 hJ.2.1 hch hcd, grew_chg hJ.2.2 hch (by have h2 := hk1.size; have h3 := Z1.out; omega)⟩, rfl⟩
                  simp only [Act.put, List.setIfInBounds_toArray, List.set_cons_zero, List.set_cons_succ, Nat.zero_add, Nat.reduceAdd]
                  repeat
                    apply Moves.Lex.exact [] _ (by kernel_rfl)
                    · intro mm u W _ _ hJ _
                      have y0 := cellG hJ.2.2 c0
                      have y1 := cellG hJ.2.2 c1
                      have y2 := cellG hJ.2.2 c2
                      unfold Moves.one
                      go_simp
                      exact ⟨trivial, hJ, rfl⟩
                    simp only [Act.put, List.setIfInBounds_toArray, List.set_cons_zero, List.set_cons_succ, Nat.zero_add, Nat.reduceAdd]
                  refine Moves.Lex.done fun mm u X2 hall hJ _ => ?_
                  unfold JC at hJ
                  rw [if_pos (hall 1 (by decide))] at hJ
                  have J2 := Lib.hid hJ
                  clear hJ hall
                  go_wp2
                  go_roundw
                  case rel => exact ⟨i + 1, sd1, hi, by go_num, J2.out.1, J2.out.2.1, by have := hAsk.out; exact this, J2.out.2.2⟩
                  case measure => simp [intOf]; omega
              · have HIK : Hid (i = k) := by show _ = _; omega
                have hrd : decide (i < k) = false := by simpa using hi
                have HC := Lib.hid hC
                have HD0 := Lib.hid hD0
                have HGx := Lib.hid hGx
                have HD := Lib.hid hD
                clear hC hD0 hGx hD hi
                have q1 : decide ((m : Int) < 0) = false := decide_eq_false (by omega)
                have q2 : decide (B.length ≤ m) = true := by simp; omega
                go_wp2_with fail
                refine (alive_any _).mono ?_
                rintro e X1 ⟨rfl, hg⟩
                have C4 := Lib.hid (HC.out.grew hg)
                have D4 := Lib.hid (HD0.out.grew hg)
                have G4 := Lib.hid (HGx.out.trans hg)
                clear hg
                go_wp2_with fail
                refine (end_eq _ _ _ _ _ 0 (Lib.hid C4.out) (by show _ = _; rw [HIK.out, HB.out]; simp [Sc.fin, Sc.left])).mono ?_
                rintro e w' ⟨rfl, rfl⟩
                go_wp2
                go_ret
                exact ⟨rfl, G4.out⟩
        · have b0 : decide (0 ≤ cut) = false := by simpa using h0
          have bn : decide (cut < 0) = true := by simp; omega
          have hz2 := hg2.size
          clear hg2
          have SS := S2
          have DD := D2
          have GG := G2
          go_wp2
          have hcd : W1.heap.size ≤ W1.heap.size := by omega
          go_loopw [10] (fun iv wx => ∃ (i : Nat) (sd : Sc), i ≤ k ∧ iv = .int .i64 i ∧ SC wx wo.heap.size W1.heap.size (ptr gc) ⟨B.drop (cat (upTo raw i)).length, 0⟩ ∧ SC wx W1.heap.size W2.heap.size (ptr gd0) sd ∧ True ∧ Grew w wx) (fun iv _ => k - (intOf iv).toNat)
          case atStart => exact ⟨0, ⟨B, 0⟩, Nat.zero_le _, rfl, by simpa [upTo, cat] using SS.out, DD.out, trivial, GG.out⟩
          case round =>
            obtain ⟨i, sd, hik, rfl, hC, hD0, hD, hGx⟩ := hrel
            by_cases hi : i < k
            · rcases HA.out with hz | ⟨a, rfl, hab0, hcells⟩
              · omega
              obtain ⟨_, _, c0, c1, c2⟩ := hcells i (by omega)
              have OKI := Lib.hid (HOK.out i hi)
              have x0 := cellG hGx c0
              have x1 := cellG hGx c1
              have x2 := cellG hGx c2
              clear hcells
              have SP := Lib.hid (split_at HB.out hi)
              have hAsk : Hid True := trivial
              have HC := Lib.hid hC
              have HD0 := Lib.hid hD0
              have HGx := Lib.hid hGx
              clear hC hD0 hGx hD
              generalize hr : raw i = r at *
              have HR := Lib.hid hr
              clear hr
              obtain ⟨rn, rz, rs⟩ := r
              have hrz := OKI.out.1
              have hrz8 := OKI.out.2.1
              dsimp only at x0 x1 x2 hrz hrz8 c0 c1 c2
              obtain ⟨z, rfl⟩ := Int.eq_ofNat_of_zero_le (show 0 ≤ rz by omega)
              have z1 : 1 ≤ z := by omega
              have z8 : z ≤ 8 := by omega
              have hpart : Hid ((Raw.mk rn z rs).part = ⟨rn, z, rs.data.toList⟩) := by show _ = _; simp [Raw.part]
              have hrd : decide (i < k) = true := by simpa using hi
              have hin : i < n := by omega
              have hin2 : decide (i < n) = true := by simpa using hin
              by_cases hS : rs.data.toList = []
              · have hrs : rs = ⟨#[]⟩ := by
                  cases rs with
                  | mk d => simp at hS; rw [hS]
                subst hrs
                clear hS
                obtain ⟨⟨nd, sd1⟩, hsd1⟩ : ∃ q, sd.num (width z) = q := ⟨_, rfl⟩
                have hask : Hid ((Raw.mk rn z ⟨#[]⟩).part.ask sd = sd1) := by
                  show _ = _
                  rw [hpart.out]
                  have := congrArg Prod.snd hsd1
                  rw [width_nat z1 z8] at this
                  simpa [Part.ask] using this
                have HSD := Lib.hid hsd1
                have hnum : Hid (Sc.num ⟨B.drop (cat (upTo raw i)).length, 0⟩ (width z) = (rn, ⟨B.drop (cat (upTo raw (i + 1))).length, 0⟩)) := by
                  show _ = _
                  rw [SP.out.2, width_nat z1 z8, cat_succ, List.length_append, ← List.drop_drop, SP.out.2, HR.out]
                  have e : (Raw.mk rn z ⟨#[]⟩).part.enc = (Part.mk rn z []).enc := by rw [hpart.out]
                  rw [e]
                  have hp : (Part.mk rn z []).ok := by have := OKI.out.2.2; rw [hpart.out] at this; exact this
                  have := num_take (Part.mk rn z []) hp rfl (List.drop (Part.mk rn z []).enc.length (List.drop (cat (upTo raw i)).length B))
                  simpa using this
                clear hsd1
                go_wp2_with fail
                refine (num_eq _ _ _ _ sd z nd sd1 HD0 HSD).mono ?_
                rintro e X1 ⟨rfl, hd1, hch1⟩
                have C1 := Lib.hid (dc_sc HC.out hd1 hch1 hcd)
                have D1 := Lib.hid hd1
                have Y1 := Lib.hid (grew_chg HGx.out hch1 (by have h1 := hd1.size; have h2 := HC.out.size; have h3 := Z1.out; omega))
                clear hd1 hch1 x0 x1 x2
                go_wp2
                refine Moves.wp_region_text (JC w wo.heap.size W1.heap.size W1.heap.size W2.heap.size gc gd0 6 ⟨B.drop (cat (upTo raw i)).length, 0⟩ ⟨B.drop (cat (upTo raw (i + 1))).length, 0⟩ sd1) (fun _ _ => True) (by kernel_rfl) (by kernel_rfl) ⟨C1.out.grew (Grew.refl _).drew, D1.out.grew (Grew.refl _).drew, Y1.out.drew⟩ ?_
                repeat
                  apply Moves.Lex.exact [] _ (by kernel_rfl)
                  · intro mm u W _ _ hJ _
                    have y0 := cellG hJ.2.2 c0
                    have y1 := cellG hJ.2.2 c1
                    have y2 := cellG hJ.2.2 c2
                    unfold Moves.one
                    go_simp
                    exact ⟨trivial, hJ, rfl⟩
                  simp only [Act.put, List.setIfInBounds_toArray, List.set_cons_zero, List.set_cons_succ, Nat.zero_add, Nat.reduceAdd]
                apply Moves.Lex.exact [] _ (by kernel_rfl)
                · intro mm u W hm0 _ hJ _
                  unfold JC at hJ
                  rw [if_neg (by rw [hm0]; exact Bool.false_ne_true)] at hJ
                  unfold Moves.one
                  go_simp
                  refine (num_eq _ _ _ _ _ z rn _ (Lib.hid hJ.1) hnum).mono ?_
                  rintro e w' ⟨rfl, hk1, hch⟩
                  exact ⟨_, rfl, trivial, ⟨hk1, cd_sc hk1 hJ.2.1 hch hcd, grew_chg hJ.2.2 hch (by have h2 := hk1.size; have h3 := Z1.out; omega)⟩, rfl⟩
                simp only [Act.put, List.setIfInBounds_toArray, List.set_cons_zero, List.set_cons_succ, Nat.zero_add, Nat.reduceAdd]
                repeat
                  apply Moves.Lex.exact [] _ (by kernel_rfl)
                  · intro mm u W _ _ hJ _
                    have y0 := cellG hJ.2.2 c0
                    have y1 := cellG hJ.2.2 c1
                    have y2 := cellG hJ.2.2 c2
                    unfold Moves.one
                    go_simp
                    exact ⟨trivial, hJ, rfl⟩
                  simp only [Act.put, List.setIfInBounds_toArray, List.set_cons_zero, List.set_cons_succ, Nat.zero_add, Nat.reduceAdd]
                refine Moves.Lex.done fun mm u X2 hall hJ _ => ?_
                unfold JC at hJ
                rw [if_pos (hall 6 (by decide))] at hJ
                have J2 := Lib.hid hJ
                clear hJ hall
                go_wp2
                go_roundw
                case rel => exact ⟨i + 1, sd1, hi, by go_num, J2.out.1, J2.out.2.1, by have := hAsk.out; exact this, J2.out.2.2⟩
                case measure => simp [intOf]; omega
              · have hse : (!rs.toList.isEmpty) = true := by
                  rw [ByteArray.toList_eq]
                  cases hq : rs.data.toList with
                  | nil => exact absurd hq hS
                  | cons _ _ => rfl
                have HS := Lib.hid hS
                clear hS
                obtain ⟨⟨td, sd1⟩, hsd1⟩ : ∃ q, sd.text 255 = q := ⟨_, rfl⟩
                have hask : Hid ((Raw.mk rn z rs).part.ask sd = sd1) := by
                  show _ = _
                  rw [hpart.out]
                  have := congrArg Prod.snd hsd1
                  simpa [Part.ask, HS.out] using this
                have HSD := Lib.hid hsd1
                have htext : Hid (Sc.text ⟨B.drop (cat (upTo raw i)).length, 0⟩ 255 = (rs.data.toList, ⟨B.drop (cat (upTo raw (i + 1))).length, 0⟩)) := by
                  show _ = _
                  rw [SP.out.2, cat_succ, List.length_append, ← List.drop_drop, SP.out.2, HR.out]
                  have e : (Raw.mk rn z rs).part.enc = (Part.mk rn z rs.data.toList).enc := by rw [hpart.out]
                  rw [e]
                  have hp : (Part.mk rn z rs.data.toList).ok := by have := OKI.out.2.2; rw [hpart.out] at this; exact this
                  have := text_take (Part.mk rn z rs.data.toList) hp HS.out (List.drop (Part.mk rn z rs.data.toList).enc.length (List.drop (cat (upTo raw i)).length B))
                  simpa using this
                clear hsd1
                go_wp2_with fail
                refine (text_eq _ _ _ _ sd 255 td sd1 HD0 HSD).mono ?_
                rintro e X1 ⟨rfl, hd1, hch1⟩
                have C1 := Lib.hid (dc_sc HC.out hd1 hch1 hcd)
                have D1 := Lib.hid hd1
                have Y1 := Lib.hid (grew_chg HGx.out hch1 (by have h1 := hd1.size; have h2 := HC.out.size; have h3 := Z1.out; omega))
                clear hd1 hch1 x0 x1 x2
                go_wp2
                refine Moves.wp_region_text (JC w wo.heap.size W1.heap.size W1.heap.size W2.heap.size gc gd0 1 ⟨B.drop (cat (upTo raw i)).length, 0⟩ ⟨B.drop (cat (upTo raw (i + 1))).length, 0⟩ sd1) (fun _ _ => True) (by kernel_rfl) (by kernel_rfl) ⟨C1.out.grew (Grew.refl _).drew, D1.out.grew (Grew.refl _).drew, Y1.out.drew⟩ ?_
                repeat
                  apply Moves.Lex.exact [] _ (by kernel_rfl)
                  · intro mm u W _ _ hJ _
                    have y0 := cellG hJ.2.2 c0
                    have y1 := cellG hJ.2.2 c1
                    have y2 := cellG hJ.2.2 c2
                    unfold Moves.one
                    go_simp
                    exact ⟨trivial, hJ, rfl⟩
                  simp only [Act.put, List.setIfInBounds_toArray, List.set_cons_zero, List.set_cons_succ, Nat.zero_add, Nat.reduceAdd]
                apply Moves.Lex.exact [] _ (by kernel_rfl)
                · intro mm u W hm0 _ hJ _
                  unfold JC at hJ
                  rw [if_neg (by rw [hm0]; exact Bool.false_ne_true)] at hJ
                  unfold Moves.one
                  go_simp
                  refine (text_eq2 _ _ _ _ _ 255 rs _ (Lib.hid hJ.1) htext).mono ?_
                  rintro e w' ⟨rfl, hk1, hch⟩
                  exact ⟨_, rfl, trivial, ⟨hk1, cd_sc hk1 hJ.2.1 hch hcd, grew_chg hJ.2.2 hch (by have h2 := hk1.size; have h3 := Z1.out; omega)⟩, rfl⟩
                simp only [Act.put, List.setIfInBounds_toArray, List.set_cons_zero, List.set_cons_succ, Nat.zero_add, Nat.reduceAdd]
                repeat
                  apply Moves.Lex.exact [] _ (by kernel_rfl)
                  · intro mm u W _ _ hJ _
                    have y0 := cellG hJ.2.2 c0
                    have y1 := cellG hJ.2.2 c1
                    have y2 := cellG hJ.2.2 c2
                    unfold Moves.one
                    go_simp
                    exact ⟨trivial, hJ, rfl⟩
                  simp only [Act.put, List.setIfInBounds_toArray, List.set_cons_zero, List.set_cons_succ, Nat.zero_add, Nat.reduceAdd]
                refine Moves.Lex.done fun mm u X2 hall hJ _ => ?_
                unfold JC at hJ
                rw [if_pos (hall 1 (by decide))] at hJ
                have J2 := Lib.hid hJ
                clear hJ hall
                go_wp2
                go_roundw
                case rel => exact ⟨i + 1, sd1, hi, by go_num, J2.out.1, J2.out.2.1, by have := hAsk.out; exact this, J2.out.2.2⟩
                case measure => simp [intOf]; omega
            · have HIK : Hid (i = k) := by show _ = _; omega
              have hrd : decide (i < k) = false := by simpa using hi
              have HC := Lib.hid hC
              have HD0 := Lib.hid hD0
              have HGx := Lib.hid hGx
              have HD := Lib.hid hD
              clear hC hD0 hGx hD hi
              go_wp2_with fail
              refine (alive_any _).mono ?_
              rintro e X1 ⟨rfl, hg⟩
              have C4 := Lib.hid (HC.out.grew hg)
              have D4 := Lib.hid (HD0.out.grew hg)
              have G4 := Lib.hid (HGx.out.trans hg)
              clear hg
              go_wp2_with fail
              refine (end_eq _ _ _ _ _ 0 (Lib.hid C4.out) (by show _ = _; rw [HIK.out, HB.out]; simp [Sc.fin, Sc.left])).mono ?_
              rintro e w' ⟨rfl, rfl⟩
              go_wp2
              go_ret
              exact ⟨rfl, G4.out⟩
end Go.Proofs.Ytekodmnhheejkab.BackLaw
