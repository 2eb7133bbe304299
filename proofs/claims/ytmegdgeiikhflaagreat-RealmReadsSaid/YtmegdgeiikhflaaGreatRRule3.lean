/-
  The rule of accounts, as the program asks it.
  Conditions: the names' sizes.
-/
import Derived.Test.YtmegdgeiikhflaaGreatRNames
namespace Go.Proofs.YtmegdgeiikhflaaGreat.RRule3
set_option maxRecDepth 100000
open Go Go.RowKit Go.Lib Go.Proofs.YtmegdgeiikhflaaGreat Go.Proofs.YtmegdgeiikhflaaGreat.Facts Go.Proofs.YtmegdgeiikhflaaGreat.Plain Go.Proofs.YtmegdgeiikhflaaGreat.RRows Go.Proofs.YtmegdgeiikhflaaGreat.LBox Go.Proofs.YtmegdgeiikhflaaGreat.RSmall Go.Proofs.YtmegdgeiikhflaaGreat.RFind Go.Proofs.YtmegdgeiikhflaaGreat.RAll Go.Proofs.YtmegdgeiikhflaaGreat.RRules Go.Proofs.YtmegdgeiikhflaaGreat.RNames Go.Proofs.YtmegdgeiikhflaaGreat.Chars

def acell (x : Ac) : Obj := .cells #[.string x.name, .string x.secret, .int .i64 x.lev, .bool x.mints] 88 (0, 0)
theorem ac_cells {W : World} {B : Nat} {x : Ac} (h : W.heap[B]? = some (acell x)) :
    W.cell? ⟨B, 0, none⟩ = some (.string x.name) ∧ W.cell? ⟨B, 1, none⟩ = some (.string x.secret) ∧ W.cell? ⟨B, 2, none⟩ = some (.int .i64 x.lev) ∧ W.cell? ⟨B, 3, none⟩ = some (.bool x.mints) := by
  unfold acell at h
  refine ⟨?_, ?_, ?_, ?_⟩ <;> (rw [cell_of_row _ _ _ _ _ _ h]; rfl)
def accOk (x : Ac) : Bool := right x.name.data.toList && (right x.secret.data.toList && wit x.lev 0 3)
set_option maxRecDepth 100000 in
theorem account_any (x : Ac) (hs : x.name.size ≤ 9223372036854775807 ∧ x.secret.size ≤ 9223372036854775807) (w : World) :
    Calls Tryz.prog 116 #[.agg #[.string x.name, .string x.secret, .int .i64 x.lev, .bool x.mints]] w fun e w' => e = .returned (.bool (accOk x)) ∧ Grew w w' := by
  have G0 : Hid (Grew w (w.alloc (Obj.cells #[.string x.name, .string x.secret, .int .i64 x.lev, .bool x.mints] 88))) := Lib.hid (by unfold Grew; go_grown)
  have A0 : Hid ((w.alloc (Obj.cells #[.string x.name, .string x.secret, .int .i64 x.lev, .bool x.mints] 88)).heap[w.heap.size]? = some (acell x)) := Lib.hid (heap_alloc_new w _)
  have HN : Hid (∀ W, Calls Tryz.prog 153 #[.string x.name] W fun e w' => e = .returned (.bool (right x.name.data.toList)) ∧ Grew W w') := Lib.hid fun W => (Names.right_any x.name hs.1 W).mono fun e w' h => ⟨h.1, by rw [h.2]; exact Grew.refl _⟩
  have HS : Hid (∀ W, Calls Tryz.prog 153 #[.string x.secret] W fun e w' => e = .returned (.bool (right x.secret.data.toList)) ∧ Grew W w') := Lib.hid fun W => (Names.right_any x.secret hs.2 W).mono fun e w' h => ⟨h.1, by rw [h.2]; exact Grew.refl _⟩
  have HW := Lib.hid (fun W => within_any x.lev 0 3 W)
  unfold accOk
  generalize right x.name.data.toList = b0 at *
  generalize right x.secret.data.toList = b1 at *
  generalize wit x.lev 0 3 = b2 at *
  clear hs
  cases b0 with
  | false =>
    go_enter Tryz.func116, Tryz.ntmps116
    go_wp2_with fail
    refine (HN.out _).mono ?_
    rintro e w1 ⟨rfl, hg⟩
    have A1 := Lib.hid (keepB A0.out hg)
    have G1 := Lib.hid (G0.out.trans hg)
    have H1 := Lib.hid hg
    clear hg
    obtain ⟨r0, r1, r2, r3⟩ := ac_cells A1.out
    go_wp2
    go_returns
    exact ⟨rfl, G1.out⟩
  | true =>
    cases b1 with
    | false =>
      go_enter Tryz.func116, Tryz.ntmps116
      go_wp2_with fail
      refine (HN.out _).mono ?_
      rintro e w1 ⟨rfl, hg⟩
      have A1 := Lib.hid (keepB A0.out hg)
      have G1 := Lib.hid (G0.out.trans hg)
      have H1 := Lib.hid hg
      clear hg
      obtain ⟨r0, r1, r2, r3⟩ := ac_cells A1.out
      go_wp2_with fail
      refine (HS.out _).mono ?_
      rintro e w2 ⟨rfl, hg⟩
      have A2 := Lib.hid (keepB A1.out hg)
      have G2 := Lib.hid (G1.out.trans hg)
      have H2 := Lib.hid (H1.out.trans hg)
      clear hg
      clear r0 r1 r2 r3
      obtain ⟨r0, r1, r2, r3⟩ := ac_cells A2.out
      go_wp2
      go_returns
      exact ⟨rfl, G2.out⟩
    | true =>
      cases b2 with
      | false =>
        go_enter Tryz.func116, Tryz.ntmps116
        go_wp2_with fail
        refine (HN.out _).mono ?_
        rintro e w1 ⟨rfl, hg⟩
        have A1 := Lib.hid (keepB A0.out hg)
        have G1 := Lib.hid (G0.out.trans hg)
        have H1 := Lib.hid hg
        clear hg
        obtain ⟨r0, r1, r2, r3⟩ := ac_cells A1.out
        go_wp2_with fail
        refine (HS.out _).mono ?_
        rintro e w2 ⟨rfl, hg⟩
        have A2 := Lib.hid (keepB A1.out hg)
        have G2 := Lib.hid (G1.out.trans hg)
        have H2 := Lib.hid (H1.out.trans hg)
        clear hg
        clear r0 r1 r2 r3
        obtain ⟨r0, r1, r2, r3⟩ := ac_cells A2.out
        go_wp2_with fail
        refine (HW.out _).mono ?_
        rintro e w3 ⟨rfl, hg⟩
        have A3 := Lib.hid (keepB A2.out hg)
        have G3 := Lib.hid (G2.out.trans hg)
        have H3 := Lib.hid (H2.out.trans hg)
        clear hg
        clear r0 r1 r2 r3
        obtain ⟨r0, r1, r2, r3⟩ := ac_cells A3.out
        go_wp2
        go_returns
        exact ⟨rfl, G3.out⟩
      | true =>
        go_enter Tryz.func116, Tryz.ntmps116
        go_wp2_with fail
        refine (HN.out _).mono ?_
        rintro e w1 ⟨rfl, hg⟩
        have A1 := Lib.hid (keepB A0.out hg)
        have G1 := Lib.hid (G0.out.trans hg)
        have H1 := Lib.hid hg
        clear hg
        obtain ⟨r0, r1, r2, r3⟩ := ac_cells A1.out
        go_wp2_with fail
        refine (HS.out _).mono ?_
        rintro e w2 ⟨rfl, hg⟩
        have A2 := Lib.hid (keepB A1.out hg)
        have G2 := Lib.hid (G1.out.trans hg)
        have H2 := Lib.hid (H1.out.trans hg)
        clear hg
        clear r0 r1 r2 r3
        obtain ⟨r0, r1, r2, r3⟩ := ac_cells A2.out
        go_wp2_with fail
        refine (HW.out _).mono ?_
        rintro e w3 ⟨rfl, hg⟩
        have A3 := Lib.hid (keepB A2.out hg)
        have G3 := Lib.hid (G2.out.trans hg)
        have H3 := Lib.hid (H2.out.trans hg)
        clear hg
        clear r0 r1 r2 r3
        obtain ⟨r0, r1, r2, r3⟩ := ac_cells A3.out
        go_wp2
        go_returns
        exact ⟨rfl, G3.out⟩

theorem clo_account (x : Ac) (hs : x.name.size ≤ 9223372036854775807 ∧ x.secret.size ≤ 9223372036854775807) (B : Nat) (w : World) (h : w.cell? ⟨B, 0, none⟩ = some (.func (.func 116) #[] #[])) :
    Calls Tryz.prog 152 #[.agg #[.string x.name, .string x.secret, .int .i64 x.lev, .bool x.mints], .pointer (some ⟨B, 0, none⟩)] w fun e w' => e = .returned (.bool (!accOk x)) ∧ Grew w w' := by
  have g0 : Grew w (w.alloc (Obj.cells #[.string x.name, .string x.secret, .int .i64 x.lev, .bool x.mints] 88)) := by unfold Grew; go_grown
  have G0 := Lib.hid g0
  have A0 : Hid ((w.alloc (Obj.cells #[.string x.name, .string x.secret, .int .i64 x.lev, .bool x.mints] 88)).heap[w.heap.size]? = some (acell x)) := Lib.hid (heap_alloc_new w _)
  have hf := cellB g0 h
  have HRI := Lib.hid (fun W => account_any x hs W)
  obtain ⟨a0, a1, a2, a3⟩ := ac_cells A0.out
  generalize accOk x = b at *
  clear g0 h hs
  cases b
  all_goals
    go_enter Tryz.func152, Tryz.ntmps152
    go_wp2_with fail
    refine (HRI.out _).mono ?_
    rintro e w2 ⟨rfl, hg⟩
    have G2 := Lib.hid (G0.out.trans hg)
    clear hg
    go_wp2
    go_returns
    exact ⟨rfl, G2.out⟩
/-- The sizes of an account's texts, as any machine has them. -/
def Sized (r : Re) : Prop := ∀ x, x ∈ r.accounts → x.name.size ≤ 9223372036854775807 ∧ x.secret.size ≤ 9223372036854775807
theorem all_accounts (v : Value) (l : List Ac) (hs : ∀ x, x ∈ l → x.name.size ≤ 9223372036854775807 ∧ x.secret.size ≤ 9223372036854775807) (w : World) (h : As w v l) : Calls Tryz.prog 115 #[v, .func (.func 116) #[] #[]] w fun e w' => e = .returned (.bool (l.all accOk)) ∧ Grew w w' :=
  allA_any v _ _ _ l accOk w h fun x hx W B _ hB => clo_account x (hs x hx) B W hB
def rule3 (r : Re) : Bool := wit r.accounts.length 1 8 && (r.accounts.all accOk && Names.apart (Names.lists (r.accounts.map (·.name))))
set_option maxRecDepth 100000 in
set_option maxHeartbeats 400000 in
theorem rule3_any (v0 v1 v2 v3 v4 : Value) (r : Re) (w : World) (h : As w v2 r.accounts) (hs : Sized r) :
    Calls Tryz.prog 114 #[.agg #[v0, v1, v2, v3, v4, .int .i64 r.orders, .int .i64 r.audits, .int .i64 r.rate, .int .i64 r.rounds]] w fun e w' => e = .returned (.bool (rule3 r)) ∧ Grew w w' := by
  have G0 : Hid (Grew w (w.alloc (Obj.cells #[v0, v1, v2, v3, v4, .int .i64 r.orders, .int .i64 r.audits, .int .i64 r.rate, .int .i64 r.rounds] 28))) := Lib.hid (by unfold Grew; go_grown)
  have A0 : Hid ((w.alloc (Obj.cells #[v0, v1, v2, v3, v4, .int .i64 r.orders, .int .i64 r.audits, .int .i64 r.rate, .int .i64 r.rounds] 28)).heap[w.heap.size]? = some (rcell v0 v1 v2 v3 v4 r.orders r.audits r.rate r.rounds)) := Lib.hid (heap_alloc_new w _)
  have HWI := Lib.hid (fun W => within_any r.accounts.length 1 8 W)
  have HAL := Lib.hid (fun W hg => all_accounts v2 r.accounts hs W (h.grew (w' := W) hg))
  have HLE : wit r.accounts.length 1 8 = true → r.accounts.length ≤ 100 := fun h => by unfold wit at h; simp at h; omega
  have HNA := Lib.hid (fun W hg hl => names_any v2 r.accounts W (h.grew (w' := W) hg) hl)
  have HAP := Lib.hid (fun W v' hl h => Names.apart_all W v' (r.accounts.map (·.name)) hl h)
  obtain ⟨A, cp, rfl, hc1, hc2⟩ := h.slice
  clear h hs
  unfold rule3
  generalize hb0 : wit r.accounts.length 1 8 = b0 at *
  generalize r.accounts.all accOk = b1 at *
  generalize Names.apart (Names.lists (r.accounts.map (·.name))) = b2 at *
  cases b0 with
  | false =>
    clear HLE
    go_enter Tryz.func114, Tryz.ntmps114
    go_wp2_with fail
    refine (HWI.out _).mono ?_
    rintro e w1 ⟨rfl, hg⟩
    have A1 := Lib.hid (keepB A0.out hg)
    have G1 := Lib.hid (G0.out.trans hg)
    have H1 := Lib.hid hg
    clear hg
    obtain ⟨r0, r1, r2, r3, r4, r5, r6, r7, r8⟩ := re_cells A1.out
    go_wp2
    go_returns
    exact ⟨rfl, G1.out⟩
  | true =>
    have HLEN := Lib.hid (HLE rfl)
    clear HLE hb0
    cases b1 with
    | false =>
      go_enter Tryz.func114, Tryz.ntmps114
      go_wp2_with fail
      refine (HWI.out _).mono ?_
      rintro e w1 ⟨rfl, hg⟩
      have A1 := Lib.hid (keepB A0.out hg)
      have G1 := Lib.hid (G0.out.trans hg)
      have H1 := Lib.hid hg
      clear hg
      obtain ⟨r0, r1, r2, r3, r4, r5, r6, r7, r8⟩ := re_cells A1.out
      go_wp2_with fail
      refine (HAL.out _ G1.out).mono ?_
      rintro e w2 ⟨rfl, hg⟩
      have A2 := Lib.hid (keepB A1.out hg)
      have G2 := Lib.hid (G1.out.trans hg)
      have H2 := Lib.hid (H1.out.trans hg)
      clear hg
      clear r0 r1 r2 r3 r4 r5 r6 r7 r8
      obtain ⟨r0, r1, r2, r3, r4, r5, r6, r7, r8⟩ := re_cells A2.out
      go_wp2
      go_returns
      exact ⟨rfl, G2.out⟩
    | true =>
      cases b2 with
      | false =>
        go_enter Tryz.func114, Tryz.ntmps114
        go_wp2_with fail
        refine (HWI.out _).mono ?_
        rintro e w1 ⟨rfl, hg⟩
        have A1 := Lib.hid (keepB A0.out hg)
        have G1 := Lib.hid (G0.out.trans hg)
        have H1 := Lib.hid hg
        clear hg
        obtain ⟨r0, r1, r2, r3, r4, r5, r6, r7, r8⟩ := re_cells A1.out
        go_wp2_with fail
        refine (HAL.out _ G1.out).mono ?_
        rintro e w2 ⟨rfl, hg⟩
        have A2 := Lib.hid (keepB A1.out hg)
        have G2 := Lib.hid (G1.out.trans hg)
        have H2 := Lib.hid (H1.out.trans hg)
        clear hg
        clear r0 r1 r2 r3 r4 r5 r6 r7 r8
        obtain ⟨r0, r1, r2, r3, r4, r5, r6, r7, r8⟩ := re_cells A2.out
        have hle : r.accounts.length ≤ 100 := HLEN.out
        go_wp2_with fail
        refine (HNA.out _ G2.out hle).mono ?_
        rintro e w3 ⟨v', rfl, ht, hg⟩
        have T3 := Lib.hid ht
        have G3 := Lib.hid (G2.out.trans hg)
        clear ht hg
        obtain ⟨A', c', rfl, _⟩ := id T3.out
        go_wp2_with fail
        have hml : (List.map (fun x : Ac => x.name) r.accounts).length ≤ 100 := by rw [List.length_map]; exact hle
        have hap := HAP.out w3 _ hml T3.out
        rw [List.length_map] at hap
        with_reducible refine hap.mono ?_
        rintro e w4 ⟨rfl, hg⟩
        have G4 := Lib.hid (G3.out.trans hg)
        clear hg
        go_wp2
        go_returns
        exact ⟨rfl, G4.out⟩
      | true =>
        go_enter Tryz.func114, Tryz.ntmps114
        go_wp2_with fail
        refine (HWI.out _).mono ?_
        rintro e w1 ⟨rfl, hg⟩
        have A1 := Lib.hid (keepB A0.out hg)
        have G1 := Lib.hid (G0.out.trans hg)
        have H1 := Lib.hid hg
        clear hg
        obtain ⟨r0, r1, r2, r3, r4, r5, r6, r7, r8⟩ := re_cells A1.out
        go_wp2_with fail
        refine (HAL.out _ G1.out).mono ?_
        rintro e w2 ⟨rfl, hg⟩
        have A2 := Lib.hid (keepB A1.out hg)
        have G2 := Lib.hid (G1.out.trans hg)
        have H2 := Lib.hid (H1.out.trans hg)
        clear hg
        clear r0 r1 r2 r3 r4 r5 r6 r7 r8
        obtain ⟨r0, r1, r2, r3, r4, r5, r6, r7, r8⟩ := re_cells A2.out
        have hle : r.accounts.length ≤ 100 := HLEN.out
        go_wp2_with fail
        refine (HNA.out _ G2.out hle).mono ?_
        rintro e w3 ⟨v', rfl, ht, hg⟩
        have T3 := Lib.hid ht
        have G3 := Lib.hid (G2.out.trans hg)
        clear ht hg
        obtain ⟨A', c', rfl, _⟩ := id T3.out
        go_wp2_with fail
        have hml : (List.map (fun x : Ac => x.name) r.accounts).length ≤ 100 := by rw [List.length_map]; exact hle
        have hap := HAP.out w3 _ hml T3.out
        rw [List.length_map] at hap
        with_reducible refine hap.mono ?_
        rintro e w4 ⟨rfl, hg⟩
        have G4 := Lib.hid (G3.out.trans hg)
        clear hg
        go_wp2
        go_returns
        exact ⟨rfl, G4.out⟩
end Go.Proofs.YtmegdgeiikhflaaGreat.RRule3
