/-
  Read, by the document.
  Conditions: those that each lemma names.
-/
import Derived.Test.YthgigkklefaeeaaRU
import Derived.Test.YthgigkklefaeeaaFV
namespace Go.Proofs.Ythgigkklefaeeaa.RV
set_option maxRecDepth 100000
open Go Go.RowKit Go.Lib Go.Proofs.Ythgigkklefaeeaa Go.Proofs.Ythgigkklefaeeaa.Facts Go.Proofs.Ythgigkklefaeeaa.Bytes Go.Proofs.Ythgigkklefaeeaa.Puts Go.Proofs.Ythgigkklefaeeaa.Scan Go.Proofs.Ythgigkklefaeeaa.Take Go.Proofs.Ythgigkklefaeeaa.Nums Go.Proofs.Ythgigkklefaeeaa.SumPure Go.Proofs.Ythgigkklefaeeaa.Sum Go.Proofs.Ythgigkklefaeeaa.FP Go.Proofs.Ythgigkklefaeeaa.FW Go.Proofs.Ythgigkklefaeeaa.FX Go.Proofs.Ythgigkklefaeeaa.Ints Go.Proofs.Ythgigkklefaeeaa.PA Go.Proofs.Ythgigkklefaeeaa.RA Go.Proofs.Ythgigkklefaeeaa.RC Go.Proofs.Ythgigkklefaeeaa.RD Go.Proofs.Ythgigkklefaeeaa.RE Go.Proofs.Ythgigkklefaeeaa.RF Go.Proofs.Ythgigkklefaeeaa.RG Go.Proofs.Ythgigkklefaeeaa.RH Go.Proofs.Ythgigkklefaeeaa.RI Go.Proofs.Ythgigkklefaeeaa.RL Go.Proofs.Ythgigkklefaeeaa.RS Go.Proofs.Ythgigkklefaeeaa.RT Go.Proofs.Ythgigkklefaeeaa.RU Go.Proofs.Ythgigkklefaeeaa.FV

/-- A block is laid (pa), and then a value into it (pb). -/
structure JP (pa pb ty : Nat) (W0 : World) (Z Rv : Array Value) (m : Nat → Bool) (u : Nat → Value) (w : World) : Prop where
  a : Grew W0 w
  b : m pb = true → m pa = true
  c : m pa = true → ∃ g, u pa = .pointer (some ⟨g, 0, none⟩) ∧ W0.heap.size ≤ g ∧ (m pb = false → w.heap[g]? = some (.cells Z ty (0, 0))) ∧ (m pb = true → w.heap[g]? = some (.cells Rv ty (0, 0)))
section
variable {pa pb ty : Nat} {W0 w w' : World} {Z Rv : Array Value} {m : Nat → Bool} {u : Nat → Value}
theorem JP.start (pa pb ty : Nat) (w : World) (Z Rv : Array Value) : JP pa pb ty w Z Rv (fun _ => false) (fun _ => undef) w.drew := ⟨(Grew.refl w).drew, (fun h => by cases h), (fun h => by cases h)⟩
theorem JP.move (h : JP pa pb ty W0 Z Rv m u w) (hg : Grew w w') (k : Nat) (v : Value) (h4 : k ≠ pa) (h5 : k ≠ pb) : JP pa pb ty W0 Z Rv (Marks.upd m k) (Marks.updv u k v) w' := by
  have e4 := Marks.upd_other m (Ne.symm h4)
  have e5 := Marks.upd_other m (Ne.symm h5)
  have f4 := Marks.updv_other u v (Ne.symm h4)
  refine ⟨h.a.trans hg, by rw [e4, e5]; exact h.b, fun h1 => ?_⟩
  rw [e4] at h1
  rw [e5, f4]
  obtain ⟨g, q1, q2, q3, q4⟩ := h.c h1
  refine ⟨g, q1, q2, fun h2 => ?_, fun h2 => ?_⟩
  · have := q3 h2
    rw [hg.block g (Array.getElem?_eq_some_iff.1 this).1, this]
  · have := q4 h2
    rw [hg.block g (Array.getElem?_eq_some_iff.1 this).1, this]
theorem JP.keep (h : JP pa pb ty W0 Z Rv m u w) (k : Nat) (v : Value) (h4 : k ≠ pa) (h5 : k ≠ pb) : JP pa pb ty W0 Z Rv (Marks.upd m k) (Marks.updv u k v) w := h.move (Grew.refl _) k v h4 h5
theorem JP.lay (h : JP pa pb ty W0 Z Rv m u w) (hm : m pa = false) (hne : pb ≠ pa) : JP pa pb ty W0 Z Rv (Marks.upd m pa) (Marks.updv u pa (.pointer (some ⟨w.heap.size, 0, none⟩))) (w.alloc (.cells Z ty)) := by
  have h5 : m pb = false := by
    cases hq : m pb with
    | false => rfl
    | true => rw [h.b hq] at hm; cases hm
  refine ⟨h.a.trans ((Below.refl _ _).alloc (Nat.le_refl _) _), fun _ => Marks.upd_same m pa, fun _ => ⟨w.heap.size, Marks.updv_same _ _ _, h.a.size, fun _ => heap_alloc_new w _, fun h2 => ?_⟩⟩
  rw [Marks.upd_other m hne, h5] at h2
  cases h2
theorem JP.fill (h : JP pa pb ty W0 Z Rv m u w) (h4 : m pa = true) (hne : pb ≠ pa) {g : Nat} (hu : u pa = .pointer (some ⟨g, 0, none⟩)) (hg0 : W0.heap.size ≤ g) (hr : w'.heap[g]? = some (.cells Rv ty (0, 0))) (hgb : w.grownBy w' (some g)) (v : Value) : JP pa pb ty W0 Z Rv (Marks.upd m pb) (Marks.updv u pb v) w' := by
  refine ⟨Below.grown (show Below W0.heap.size W0 w from h.a) hgb h.a.size (fun k hk => by cases hk; exact hg0), fun _ => by rw [Marks.upd_other m (Ne.symm hne)]; exact h4, fun _ => ⟨g, by rw [Marks.updv_other u v (Ne.symm hne)]; exact hu, hg0, fun h2 => ?_, fun _ => hr⟩⟩
  rw [Marks.upd_same] at h2
  cases h2
end
def Z4 : Array Value := #[.int .i64 0, .int .i64 0, .int .i64 0, .slice none 0 0]
theorem rread_short (S : Nat → Prop) (v : Value) (l : List UInt8) (w : World) (h : Rd S w v l) (h3 : l.length < 3) :
    Calls Try.prog 7 #[v] w fun e w' => e = .returned (.tuple #[ov zou none 0, .int .i64 12]) ∧ Grew w w' := by
  obtain ⟨A, c, rfl, _⟩ := h
  have d1 : ((l.length : Int) < 3) := by omega
  have X0 := heap_alloc_new w (.cells #[.int .i64 0, .int .i64 0, .int .i64 0, .slice none 0 0] 25)
  obtain ⟨W8, hst, hz, hgr⟩ := store_all size25 X0 rfl [.int .i64 0, .int .i64 0, .int .i64 0, .slice none 0 0] rfl (by simp [Value.oneCell'])
  have HST := Lib.hid hst
  have HLD := Lib.hid (load_all Try.underlying25 rfl size25 hz rfl)
  have HG8 : Hid (Grew w W8) := Lib.hid (((Below.refl w.heap.size w).alloc (Nat.le_refl _) _).grown hgr (by simp) (fun k hk => by cases hk; exact Nat.le_refl _))
  clear hst hz hgr X0 h3
  go_enter Try.func7, Try.ntmps7
  go_wp2_with (refine wpList_store (by rfl) 25 (.tmp 2) (.tmp 8) (by with_reducible rfl) _ _ (by rfl) (by rfl) _ HST.out ?_)
  refine bodyPost_ret (results_two rfl rfl rfl HLD.out) rfl ?_
  exact ⟨rfl, HG8.out⟩
set_option maxHeartbeats 4000000 in
theorem rread_long (S : Nat → Prop) (ad : Addr) (c : Nat) (l : List UInt8) (w : World) (h : Rd S w (.slice (some ad) l.length c) l) (h3 : 3 ≤ l.length) (n0 n1 n2 : Nat) (e0 : b1 l 0 = n0) (e1 : b1 l 1 = n1) (e2 : b1 l 2 = n2) (t : List UInt8) (et : l.drop 3 = t) (R : Ou × Int) (q : Bool) (hq : okO ⟨n0, n1, n2, t⟩ = q) (hR : R = if q = true then (⟨n0, n1, n2, t⟩, 0) else (zou, 2)) :
    Calls Try.prog 7 #[.slice (some ad) l.length c] w fun e w' => ∃ A c, e = .returned (.tuple #[ov R.1 A c, .int .i64 R.2]) ∧ Rd (fun b => S b ∧ b < w.heap.size) w' (.slice A R.1.d.length c) R.1.d ∧ Grew w w' := by
  have hcell : ∀ k, k < l.length → w.cell? (ad.add k) = some (.int .u8 (b1 l k : Int)) := fun k hk => by
    obtain ⟨ad', c', e, _, q⟩ := h.cell (k := k) hk
    injection e with e1 _ _
    injection e1 with e1
    subst e1
    exact q
  have c0 : w.cell? ad = some (.int .u8 (n0 : Int)) := by
    have := hcell 0 (by omega)
    rw [e0] at this
    simpa [Addr.add] using this
  have c1 : w.cell? ⟨ad.block, ad.off + 1, none⟩ = some (.int .u8 (n1 : Int)) := by
    have := hcell 1 (by omega)
    rw [e1] at this
    simpa [Addr.add] using this
  have c2 : w.cell? ⟨ad.block, ad.off + 2, none⟩ = some (.int .u8 (n2 : Int)) := by
    have := hcell 2 (by omega)
    rw [e2] at this
    simpa [Addr.add] using this
  have b0 : n0 < 256 := by rw [← e0]; exact UInt8.toNat_lt _
  have b1' : n1 < 256 := by rw [← e1]; exact UInt8.toNat_lt _
  have b2 : n2 < 256 := by rw [← e2]; exact UInt8.toNat_lt _
  have w0 : IntKind.i64.wrap (n0 : Int) = (n0 : Int) := IntWalk.i64_in _ (by omega)
  have w1 : IntKind.i64.wrap (n1 : Int) = (n1 : Int) := IntWalk.i64_in _ (by omega)
  have w2 : IntKind.i64.wrap (n2 : Int) = (n2 : Int) := IntWalk.i64_in _ (by omega)
  have WW := Lib.hid (And.intro w0 (And.intro w1 w2))
  have hlc : l.length ≤ c := by obtain ⟨_, _, e, q, _⟩ := id h; injection e with _ _ e3; subst e3; exact q
  obtain ⟨A3, hA3, hr3⟩ := cut_from h 3 h3 (by omega)
  rw [et] at hA3 hr3
  have hr4 := hr3.lt
  have HLC := Lib.hid hlc
  have HH3 := Lib.hid h3
  obtain ⟨W0, hW0⟩ : ∃ W0, w.alloc (.cells #[.int .i64 0, .int .i64 0, .int .i64 0, .slice none 0 0] 25) = W0 := ⟨_, rfl⟩
  have ga : Grew w W0 := by rw [← hW0]; exact (Below.refl _ _).alloc (Nat.le_refl _) _
  have X0 := heap_alloc_new w (.cells #[.int .i64 0, .int .i64 0, .int .i64 0, .slice none 0 0] 25)
  rw [hW0] at X0
  have HX0 := Lib.hid X0
  have HGA := Lib.hid ga
  have HW0 := Lib.hid hW0
  have CC : Hid (∀ W, Grew W0 W → W.cell? ad = some (.int .u8 (n0 : Int)) ∧ W.cell? ⟨ad.block, ad.off + 1, none⟩ = some (.int .u8 (n1 : Int)) ∧ W.cell? ⟨ad.block, ad.off + 2, none⟩ = some (.int .u8 (n2 : Int))) := Lib.hid fun W hW => ⟨RC.cellB (ga.trans hW) c0, RC.cellB (ga.trans hW) c1, RC.cellB (ga.trans hW) c2⟩
  have HR3 := Lib.hid (hr4.grew ga)
  have HA3 := Lib.hid hA3
  have HB : Hid (mayP n0 n1 n2 t.length = q) := Lib.hid hq
  have HRR := Lib.hid hR
  have d1 : ¬ ((l.length : Int) < 3) := by omega
  clear h hcell c0 c1 c2 b0 b1' b2 w0 w1 w2 hlc hA3 hr3 hr4 hW0 ga X0 hq hR e0 e1 e2 et
  go_enter Try.func7, Try.ntmps7
  go_wp2_with fail
  rw [HW0.out]
  refine Marks.wp_region_text (JP 15 16 25 W0 Z4 #[.int .i64 n0, .int .i64 n1, .int .i64 n2, .slice A3 t.length (c - 3)]) (fun _ _ => True) (by kernel_rfl) (by kernel_rfl) (JP.start _ _ _ _ _ _) ?_
  apply Marks.Lex.exact [] _ (by kernel_rfl)
  · intro m u W hm hcl hJ _
    unfold Marks.one
    go_simp
    exact ⟨trivial, hJ.keep 0 _ (by omega) (by omega), rfl⟩
  simp only [Act.put, List.setIfInBounds_toArray, List.set_cons_zero, List.set_cons_succ, Nat.zero_add]
  apply Marks.Lex.exact [] _ (by kernel_rfl)
  · intro m u W hm hcl hJ _
    obtain ⟨c0, c1, c2⟩ := CC.out W hJ.a
    have i0 : 0 < l.length := by have := HH3.out; omega
    have i1 : (1 : Int) < (l.length : Int) := by have := HH3.out; omega
    have i2 : (2 : Int) < (l.length : Int) := by have := HH3.out; omega
    unfold Marks.one
    go_simp
    exact ⟨trivial, hJ.keep 1 _ (by omega) (by omega), rfl⟩
  simp only [Act.put, List.setIfInBounds_toArray, List.set_cons_zero, List.set_cons_succ, Nat.reduceAdd]
  apply Marks.Lex.exact [] _ (by kernel_rfl)
  · intro m u W hm hcl hJ _
    obtain ⟨c0, c1, c2⟩ := CC.out W hJ.a
    have i0 : 0 < l.length := by have := HH3.out; omega
    have i1 : (1 : Int) < (l.length : Int) := by have := HH3.out; omega
    have i2 : (2 : Int) < (l.length : Int) := by have := HH3.out; omega
    unfold Marks.one
    go_simp
    exact ⟨trivial, hJ.keep 2 _ (by omega) (by omega), rfl⟩
  simp only [Act.put, List.setIfInBounds_toArray, List.set_cons_zero, List.set_cons_succ, Nat.reduceAdd]
  apply Marks.Lex.exact [] _ (by kernel_rfl)
  · intro m u W hm hcl hJ _
    obtain ⟨w0, w1, w2⟩ := WW.out
    unfold Marks.one
    go_simp
    exact ⟨trivial, hJ.keep 3 _ (by omega) (by omega), rfl⟩
  simp only [Act.put, List.setIfInBounds_toArray, List.set_cons_zero, List.set_cons_succ, Nat.reduceAdd]
  apply Marks.Lex.exact [] _ (by kernel_rfl)
  · intro m u W hm hcl hJ _
    unfold Marks.one
    go_simp
    exact ⟨trivial, hJ.keep 4 _ (by omega) (by omega), rfl⟩
  simp only [Act.put, List.setIfInBounds_toArray, List.set_cons_zero, List.set_cons_succ, Nat.reduceAdd]
  apply Marks.Lex.exact [] _ (by kernel_rfl)
  · intro m u W hm hcl hJ _
    obtain ⟨c0, c1, c2⟩ := CC.out W hJ.a
    have i0 : 0 < l.length := by have := HH3.out; omega
    have i1 : (1 : Int) < (l.length : Int) := by have := HH3.out; omega
    have i2 : (2 : Int) < (l.length : Int) := by have := HH3.out; omega
    unfold Marks.one
    go_simp
    exact ⟨trivial, hJ.keep 5 _ (by omega) (by omega), rfl⟩
  simp only [Act.put, List.setIfInBounds_toArray, List.set_cons_zero, List.set_cons_succ, Nat.reduceAdd]
  apply Marks.Lex.exact [] _ (by kernel_rfl)
  · intro m u W hm hcl hJ _
    obtain ⟨c0, c1, c2⟩ := CC.out W hJ.a
    have i0 : 0 < l.length := by have := HH3.out; omega
    have i1 : (1 : Int) < (l.length : Int) := by have := HH3.out; omega
    have i2 : (2 : Int) < (l.length : Int) := by have := HH3.out; omega
    unfold Marks.one
    go_simp
    exact ⟨trivial, hJ.keep 6 _ (by omega) (by omega), rfl⟩
  simp only [Act.put, List.setIfInBounds_toArray, List.set_cons_zero, List.set_cons_succ, Nat.reduceAdd]
  apply Marks.Lex.exact [] _ (by kernel_rfl)
  · intro m u W hm hcl hJ _
    obtain ⟨w0, w1, w2⟩ := WW.out
    unfold Marks.one
    go_simp
    exact ⟨trivial, hJ.keep 7 _ (by omega) (by omega), rfl⟩
  simp only [Act.put, List.setIfInBounds_toArray, List.set_cons_zero, List.set_cons_succ, Nat.reduceAdd]
  apply Marks.Lex.exact [] _ (by kernel_rfl)
  · intro m u W hm hcl hJ _
    unfold Marks.one
    go_simp
    exact ⟨trivial, hJ.keep 8 _ (by omega) (by omega), rfl⟩
  simp only [Act.put, List.setIfInBounds_toArray, List.set_cons_zero, List.set_cons_succ, Nat.reduceAdd]
  apply Marks.Lex.exact [] _ (by kernel_rfl)
  · intro m u W hm hcl hJ _
    obtain ⟨c0, c1, c2⟩ := CC.out W hJ.a
    have i0 : 0 < l.length := by have := HH3.out; omega
    have i1 : (1 : Int) < (l.length : Int) := by have := HH3.out; omega
    have i2 : (2 : Int) < (l.length : Int) := by have := HH3.out; omega
    unfold Marks.one
    go_simp
    exact ⟨trivial, hJ.keep 9 _ (by omega) (by omega), rfl⟩
  simp only [Act.put, List.setIfInBounds_toArray, List.set_cons_zero, List.set_cons_succ, Nat.reduceAdd]
  apply Marks.Lex.exact [] _ (by kernel_rfl)
  · intro m u W hm hcl hJ _
    obtain ⟨c0, c1, c2⟩ := CC.out W hJ.a
    have i0 : 0 < l.length := by have := HH3.out; omega
    have i1 : (1 : Int) < (l.length : Int) := by have := HH3.out; omega
    have i2 : (2 : Int) < (l.length : Int) := by have := HH3.out; omega
    unfold Marks.one
    go_simp
    exact ⟨trivial, hJ.keep 10 _ (by omega) (by omega), rfl⟩
  simp only [Act.put, List.setIfInBounds_toArray, List.set_cons_zero, List.set_cons_succ, Nat.reduceAdd]
  apply Marks.Lex.exact [] _ (by kernel_rfl)
  · intro m u W hm hcl hJ _
    obtain ⟨w0, w1, w2⟩ := WW.out
    unfold Marks.one
    go_simp
    exact ⟨trivial, hJ.keep 11 _ (by omega) (by omega), rfl⟩
  simp only [Act.put, List.setIfInBounds_toArray, List.set_cons_zero, List.set_cons_succ, Nat.reduceAdd]
  apply Marks.Lex.exact [] _ (by kernel_rfl)
  · intro m u W hm hcl hJ _
    unfold Marks.one
    go_simp
    exact ⟨trivial, hJ.keep 12 _ (by omega) (by omega), rfl⟩
  simp only [Act.put, List.setIfInBounds_toArray, List.set_cons_zero, List.set_cons_succ, Nat.reduceAdd]
  apply Marks.Lex.exact [] (.slice A3 t.length (c - 3)) (by kernel_rfl)
  · intro m u W hm hcl hJ _
    have hs : Value.slice (if c = 3 then some ad else some ⟨ad.block, ad.off + 3, none⟩) (l.length - 3) (c - 3) = .slice A3 t.length (c - 3) := by have := HA3.out; simpa [Addr.add] using this
    have hh3 := HH3.out
    have hlc := HLC.out
    unfold Marks.one
    go_simp
    first | exact ⟨trivial, hJ.keep 13 _ (by omega) (by omega), rfl⟩ | (rw [hs]; exact ⟨trivial, hJ.keep 13 _ (by omega) (by omega), rfl⟩)
  simp only [Act.put, List.setIfInBounds_toArray, List.set_cons_zero, List.set_cons_succ, Nat.reduceAdd]
  apply Marks.Lex.exact [] _ (by kernel_rfl)
  · intro m u W hm hcl hJ _
    unfold Marks.one
    go_simp
    exact ⟨trivial, hJ.keep 14 _ (by omega) (by omega), rfl⟩
  simp only [Act.put, List.setIfInBounds_toArray, List.set_cons_zero, List.set_cons_succ, Nat.reduceAdd]
  apply Marks.Lex.know [] (fun _ _ => True) (by kernel_rfl) (fun _ _ _ _ _ => trivial)
  · intro m u W hm hcl hJ _
    unfold Marks.one
    go_simp
    exact ⟨trivial, hJ.lay hm (by decide), trivial⟩
  simp only [Act.put, List.setIfInBounds_toArray, List.set_cons_zero, List.set_cons_succ, Nat.reduceAdd]
  apply Marks.Lex.exact [] undef (by kernel_rfl)
  · intro m u W hm hcl hJ _
    have h4 : m 15 = true := hcl 15 (by decide)
    obtain ⟨g, hu, hg0, hz, _⟩ := hJ.c h4
    obtain ⟨W', hst, hr, hgb⟩ := store_all size25 (hz hm) rfl [.int .i64 n0, .int .i64 n1, .int .i64 n2, .slice A3 t.length (c - 3)] rfl (by simp [Value.oneCell'])
    exact one_store (by rfl) 25 (.tmp 4) (.tmp 23) (by with_reducible rfl) _ _ hu (by rfl) W' hst ⟨trivial, hJ.fill h4 (by decide) hu hg0 hr hgb _, rfl⟩
  simp only [Act.put, Nat.reduceAdd]
  refine Marks.Lex.done fun m u W hm hJ hx => ?_
  obtain ⟨g, hu, hg0, _, hrow⟩ := hJ.c (hm 15 (by decide))
  have Y1 := Lib.hid (hrow (hm 16 (by decide)))
  have G1 := Lib.hid (HGA.out.trans hJ.a)
  have X1 := Lib.hid (FX.keepB HX0.out hJ.a)
  have R1 := Lib.hid (HR3.out.grew hJ.a)
  rw [hu]
  clear hu hJ hm hx hg0 hrow HX0 HR3 CC WW HA3 HLC HH3
  obtain ⟨y0, y1, y2, y3⟩ := four_c Y1.out
  go_wp2_with fail
  refine (rmay_any n0 n1 n2 A3 t.length (c - 3) W).mono ?_
  rintro e w7 ⟨rfl, g7⟩
  rw [HB.out]
  have X7 := Lib.hid (FX.keepB X1.out g7)
  have Y7 := Lib.hid (FX.keepB Y1.out g7)
  have G7 := Lib.hid (G1.out.trans g7)
  have R7 := Lib.hid (R1.out.grew g7)
  clear g7 y0 y1 y2 y3 X1 Y1 G1 R1
  cases q with
  | false =>
    obtain ⟨W8, hst, hz, hgr⟩ := store_all size25 X7.out rfl [.int .i64 0, .int .i64 0, .int .i64 0, .slice none 0 0] rfl (by simp [Value.oneCell'])
    have HST := Lib.hid hst
    have HLD := Lib.hid (load_all Try.underlying25 rfl size25 hz rfl)
    have HG8 : Hid (Grew w W8) := Lib.hid ((show Below w.heap.size w _ from G7.out).grown hgr G7.out.size (fun k hk => by cases hk; exact Nat.le_refl _))
    have hR := HRR.out
    rw [if_neg (by decide)] at hR
    have HRE := Lib.hid hR
    clear hst hz hgr hR
    go_wp2_with (refine wpList_store (by rfl) 25 (.tmp 2) (.tmp 27) (by with_reducible rfl) _ _ (by rfl) (by rfl) _ HST.out ?_)
    refine bodyPost_ret (results_two rfl rfl rfl HLD.out) rfl ?_
    rw [HRE.out]
    exact ⟨none, 0, rfl, Rd.nil _ _, HG8.out⟩
  | true =>
    obtain ⟨W8, hst, hz, hgr⟩ := store_all size25 X7.out rfl [.int .i64 n0, .int .i64 n1, .int .i64 n2, .slice A3 t.length (c - 3)] rfl (by simp [Value.oneCell'])
    have HST := Lib.hid hst
    have HLD := Lib.hid (load_all Try.underlying25 rfl size25 hz rfl)
    have HG8 : Hid (Grew w W8) := Lib.hid ((show Below w.heap.size w _ from G7.out).grown hgr G7.out.size (fun k hk => by cases hk; exact Nat.le_refl _))
    have HR8 : Hid (Rd (fun b => S b ∧ b < w.heap.size) W8 (.slice A3 t.length (c - 3)) t) := Lib.hid (R7.out.keep (w' := W8) fun b hb hlt => hgr.block b hb (fun e => by cases e; omega))
    have hR := HRR.out
    rw [if_pos rfl] at hR
    have HRE := Lib.hid hR
    obtain ⟨y0, y1, y2, y3⟩ := four_c Y7.out
    clear hst hz hgr hR
    go_wp2_with (refine wpList_store (by rfl) 25 (.tmp 2) (.tmp 28) (by with_reducible rfl) _ _ (by rfl) (by rfl) _ HST.out ?_)
    refine bodyPost_ret (results_two rfl rfl rfl HLD.out) rfl ?_
    rw [HRE.out]
    exact ⟨A3, c - 3, rfl, HR8.out, HG8.out⟩
theorem rread_any (S : Nat → Prop) (v : Value) (l : List UInt8) (w : World) (h : Rd S w v l) :
    Calls Try.prog 7 #[v] w fun e w' => ∃ A c, e = .returned (.tuple #[ov (readP l).1 A c, .int .i64 (readP l).2]) ∧ Rd (fun b => S b ∧ b < w.heap.size) w' (.slice A (readP l).1.d.length c) (readP l).1.d ∧ Grew w w' := by
  by_cases h3 : l.length < 3
  · have hr : readP l = (zou, 12) := by unfold readP; rw [if_pos h3]
    rw [hr]
    refine (rread_short S v l w h h3).mono ?_
    rintro e w' ⟨rfl, hg⟩
    exact ⟨none, 0, rfl, Rd.nil _ _, hg⟩
  · obtain ⟨ad, c, rfl, _, _⟩ := RL.shape h l.length rfl (by omega)
    refine rread_long S ad c l w h (by omega) _ _ _ rfl rfl rfl _ rfl (readP l) _ rfl ?_
    unfold readP
    rw [if_neg h3]
end Go.Proofs.Ythgigkklefaeeaa.RV
