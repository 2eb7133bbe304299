/-
  Of each coin: what is held, and what fills give out.
  Conditions: those that each lemma names.
-/
import Derived.Test.YtmnfajplfnfgpaaOY
import Derived.Test.YtmnfajplfnfgpaaOE
namespace Go.Proofs.Ytmnfajplfnfgpaa.OZA
set_option maxRecDepth 100000
open Go Go.RowKit Go.Lib Go.Proofs.Ytmnfajplfnfgpaa Go.Proofs.Ytmnfajplfnfgpaa.Facts Go.Proofs.Ytmnfajplfnfgpaa.Ints Go.Proofs.Ytmnfajplfnfgpaa.PA Go.Proofs.Ytmnfajplfnfgpaa.UM Go.Proofs.Ytmnfajplfnfgpaa.UB Go.Proofs.Ytmnfajplfnfgpaa.OA Go.Proofs.Ytmnfajplfnfgpaa.BP Go.Proofs.Ytmnfajplfnfgpaa.BQ Go.Proofs.Ytmnfajplfnfgpaa.OE Go.Proofs.Ytmnfajplfnfgpaa.OY Go.Proofs.Ytmnfajplfnfgpaa.Bytes


/-- What one slot holds of a coin. -/
def con (c : Int) (x : Or) : Nat := if x.used && decide (givC x = c) then x.res else 0
theorem sum_filter {α : Type} (p : α → Bool) (f : α → Nat) : ∀ l : List α, ((l.filter p).map f).sum = (l.map fun x => if p x then f x else 0).sum
  | [] => rfl
  | a :: l => by
    rw [List.filter_cons, List.map_cons, List.sum_cons, ← sum_filter p f l]
    split
    · rfl
    · rw [Nat.zero_add]
theorem held_con (l : List Or) (c : Int) : heldN l c = (l.map (con c)).sum := sum_filter _ _ l
theorem held_set {l : List Or} {k : Nat} (hk : k < l.length) (y : Or) (c : Int) : heldN (l.set k y) c + con c (eo l k) = heldN l c + con c y := by
  obtain ⟨e1, e2⟩ := split_at hk y
  rw [held_con, held_con, e2]
  conv => rhs; rw [e1]
  simp only [List.map_append, List.map_cons, List.sum_append, List.sum_cons]
  omega
/-- What an order that is being filled holds of a coin. -/
def givR (o : Or) (c : Int) : Nat := if givC o = c then o.res else 0
/-- What a fill gives out of a coin. -/
def out1 (c base quote : Int) (f : Fi) : Nat := (if c = base then f.qty else 0) + (if c = quote then f.qty * f.price else 0)
def outF (c base quote : Int) (fs : List Fi) : Nat := (fs.map (out1 c base quote)).sum
theorem out_app (c base quote : Int) (fs : List Fi) (f : Fi) : outF c base quote (fs ++ [f]) = outF c base quote fs + out1 c base quote f := by
  unfold outF
  simp [List.map_append, List.sum_append]
/-- One fill: what the slot and the order give up is what it gives out. -/
theorem step_keeps {o x : Or} (ho : FO o) (hx : MayF x) (hm : meetsP o x = true) (hu : x.used = true) (h0 : o.left ≠ 0) (c : Int) :
    con c x + givR o c = con c (if o.left < x.left then lessP x o.left x.price else zor) + givR (lessP o (min o.left x.left) x.price) c + out1 c o.base o.quote ⟨0, min o.left x.left, x.price⟩ := by
  obtain ⟨m1, m2, m3, _⟩ := (meets_iff o x).1 hm
  have hst := ho.step hx hm h0
  have hgv := hst.gv
  have hgx := hst.gx
  have hrs := hx.rs
  have e1 : con c (if o.left < x.left then lessP x o.left x.price else zor) = if givC x = c then x.res - (if x.side = 2 then min o.left x.left else min o.left x.left * x.price) else 0 := by
    by_cases hlt : o.left < x.left
    · rw [if_pos hlt, show min o.left x.left = o.left by omega]
      unfold con
      rw [show (lessP x o.left x.price).used = true from hu, show givC (lessP x o.left x.price) = givC x from rfl]
      by_cases hc : givC x = c
      · simp [hc]; rfl
      · simp [hc]
    · rw [if_neg hlt, show min o.left x.left = x.left by omega, ← hrs, Nat.sub_self]
      unfold con
      rw [show zor.used = false from rfl]
      simp
  have e2 : givR (lessP o (min o.left x.left) x.price) c = if givC o = c then o.res - (if o.side = 2 then min o.left x.left else min o.left x.left * x.price) else 0 := rfl
  have e3 : con c x = if givC x = c then x.res else 0 := by
    unfold con
    rw [hu]
    simp
  rw [e1, e2, e3]
  unfold givR out1 givC
  simp only
  generalize min o.left x.left = n at *
  generalize n * x.price = q at *
  have hsx := hx.sd
  rcases ho.sd with e | e
  · have e' : x.side = 2 := by omega
    simp only [e, e', if_true] at hgv hgx ⊢
    simp only [show ¬ (1 : Int) = 2 by decide, if_false] at hgv ⊢
    rw [← m1]
    by_cases h1 : o.base = c <;> by_cases h2 : o.quote = c <;> simp only [h1, h2, if_true, if_false, eq_comm (a := c)] <;> omega
  · have e' : x.side = 1 := by omega
    simp only [e, e', if_true] at hgv hgx ⊢
    simp only [show ¬ (1 : Int) = 2 by decide, if_false] at hgx ⊢
    rw [← m2]
    by_cases h1 : o.base = c <;> by_cases h2 : o.quote = c <;> simp only [h1, h2, if_true, if_false, eq_comm (a := c)] <;> omega
theorem fill_keeps (l : List Or) (c : Int) : ∀ (S : List Nat) (now : List Or) (o : Or) (fs : List Fi), (∀ i ∈ S, MayF (eo l i) ∧ meetsP o (eo l i) = true) → (∀ i ∈ S, i < now.length ∧ (eo l i).used = true ∧ eo now i = eo l i) → S.Nodup → FO o →
    heldN (fillP l S now o fs).1 c + givR (fillP l S now o fs).2.2 c + outF c o.base o.quote (fillP l S now o fs).2.1 = heldN now c + givR o c + outF c o.base o.quote fs
  | [], _, _, _, _, _, _, _ => rfl
  | i :: r, now, o, fs, hS, hN, hd, h => by
    rw [fillP]
    split
    · rfl
    · rename_i h0
      obtain ⟨h1, h2⟩ := hS i (List.mem_cons_self ..)
      obtain ⟨n1, n2, n3⟩ := hN i (List.mem_cons_self ..)
      obtain ⟨hd1, hd2⟩ := List.nodup_cons.1 hd
      have ih := fill_keeps l c r (nowP l now o i) (ordP l o i) (fs ++ [filP l o i]) (fun j hj => by
        obtain ⟨j1, j2⟩ := hS j (List.mem_cons_of_mem _ hj)
        exact ⟨j1, j2⟩) (fun j hj => by
        obtain ⟨j1, j2, j3⟩ := hN j (List.mem_cons_of_mem _ hj)
        have hne : j ≠ i := fun e => hd1 (by rw [← e]; exact hj)
        refine ⟨by unfold nowP; rw [List.length_set]; exact j1, j2, ?_⟩
        unfold nowP
        rw [eo_set hne]
        exact j3) hd2 (h.next h1 h2)
      have e1 : (ordP l o i).base = o.base := rfl
      have e2 : (ordP l o i).quote = o.quote := rfl
      rw [e1, e2, out_app] at ih
      rw [ih]
      have hset := held_set n1 (if o.left < (eo l i).left then lessP (eo l i) o.left (eo l i).price else zor) c
      rw [n3] at hset
      have hst := step_keeps h h1 h2 n2 h0 c
      have e3 : out1 c o.base o.quote (filP l o i) = out1 c o.base o.quote ⟨0, min o.left (eo l i).left, (eo l i).price⟩ := rfl
      have e4 : givR (ordP l o i) c = givR (lessP o (min o.left (eo l i).left) (eo l i).price) c := rfl
      unfold nowP
      rw [e3, e4]
      omega
/-- Of each coin: what was held, with the order's own, is what is held then, what fills give out, and the surplus. -/
theorem post_keeps {l : List Or} {o : Or} {S : List Nat} (he : (postP l o S).err = 0) (hS : Srt l o S) (c : Int) :
    heldN l c + givR o c = heldN (postP l o S).now c + outF c o.base o.quote (postP l o S).fills + (if givC o = c then (postP l o S).sur else 0) := by
  obtain ⟨⟨hr, hm, ht⟩, hfr, hp⟩ := post_fine he
  have hM := (may_iff o).1 hm
  have hFO := FO.of_may hM
  have hk := fill_keeps l c S l o [] (BQ.Srt.all hS hr) (fun i hi => by
    obtain ⟨a, b, _⟩ := (hS.mem i).1 hi
    exact ⟨a, b, rfl⟩) hS.nodup hFO
  have hfo := fill_ord l S l o [] (BQ.Srt.all hS hr) hFO
  have hff := fill_free hS hfr []
  have hln := fill_len l S l o []
  rw [hp]
  rcases hx : fillP l S l o [] with ⟨now, fs, r⟩
  rw [hx] at hk hfo hff hln
  simp only at hk hfo hff hln
  obtain ⟨h1, h2⟩ := hfo
  have hgc : givC r = givC o := by unfold givC; rw [h2.side, h2.base, h2.quote]
  have e0 : outF c o.base o.quote [] = 0 := rfl
  rw [e0, Nat.add_zero] at hk
  by_cases h0 : r.left = 0
  · have e : restP (now, fs, r) = ⟨now, fs, -1, r.res, 0⟩ := if_pos h0
    rw [e]
    simp only
    unfold givR at hk
    rw [hgc] at hk
    unfold givR
    omega
  · have e : restP (now, fs, r) = ⟨now.set (ordfree now).toNat { r with used := true, res := (needP r.side r.left r.price).1 }, fs, ordfree now, r.res - (needP r.side r.left r.price).1, 0⟩ := if_neg h0
    rw [e]
    simp only
    obtain ⟨k, hk2⟩ : ∃ k : Nat, ordfree now = k := by
      rcases ord_freec now with h | ⟨k, h, _⟩
      · exact absurd h hff
      · exact ⟨k, h⟩
    obtain ⟨hkl, hu⟩ := free_at hk2
    rw [hk2, Int.toNat_natCast]
    have hset := held_set hkl { r with used := true, res := (needP r.side r.left r.price).1 } c
    have e1 : con c (eo now k) = 0 := by unfold con; rw [hu]; rfl
    have e2 : con c { r with used := true, res := (needP r.side r.left r.price).1 } = if givC r = c then (needP r.side r.left r.price).1 else 0 := by
      unfold con
      simp only [Bool.true_and, decide_eq_true_eq]
      rfl
    rw [e1, e2, Nat.add_zero] at hset
    obtain ⟨_, hle, _⟩ := FO.need h1 h0
    unfold givR at hk ⊢
    rw [hset]
    rw [hgc] at hk ⊢
    by_cases hc : givC o = c
    · simp only [hc, if_true] at hk ⊢
      omega
    · simp only [hc, if_false] at hk ⊢
      omega
/-- What the document's Holds tells of an order that is there. -/
theorem own_pos {o : Or} (h : MayF o) (c : Int) : givR o c = 0 ↔ givC o ≠ c := by
  unfold givR
  have : o.res ≠ 0 := by
    rw [h.rs]
    have := h.l0
    split
    · exact this
    · exact Nat.mul_ne_zero this h.p0
  by_cases hc : givC o = c <;> simp [hc, this]
end Go.Proofs.Ytmnfajplfnfgpaa.OZA
