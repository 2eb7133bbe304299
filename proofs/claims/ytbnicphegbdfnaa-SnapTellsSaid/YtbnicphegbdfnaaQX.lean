/-
  The document's Next: the next snapshot.
  Conditions: those that each lemma names.
-/
import Derived.Test.YtbnicphegbdfnaaQL
namespace Go.Proofs.Ytbnicphegbdfnaa.QX
set_option maxRecDepth 100000
open Go Go.RowKit Go.Proofs.Ytbnicphegbdfnaa Go.Proofs.Ytbnicphegbdfnaa.Facts Go.Proofs.Ytbnicphegbdfnaa.Bytes Go.Proofs.Ytbnicphegbdfnaa.DKeep Go.Proofs.Ytbnicphegbdfnaa.DSmall Go.Proofs.Ytbnicphegbdfnaa.SPure Go.Proofs.Ytbnicphegbdfnaa.DRefA Go.Proofs.Ytbnicphegbdfnaa.DRefB Go.Proofs.Ytbnicphegbdfnaa.DRefC Go.Proofs.Ytbnicphegbdfnaa.DSim Go.Proofs.Ytbnicphegbdfnaa.DRefD Go.Proofs.Ytbnicphegbdfnaa.DLawA Go.Proofs.Ytbnicphegbdfnaa.AP Go.Proofs.Ytbnicphegbdfnaa.AQ Go.Proofs.Ytbnicphegbdfnaa.AV Go.Proofs.Ytbnicphegbdfnaa.RA Go.Proofs.Ytbnicphegbdfnaa.RG Go.Proofs.Ytbnicphegbdfnaa.RH Go.Proofs.Ytbnicphegbdfnaa.QA Go.Proofs.Ytbnicphegbdfnaa.QN Go.Proofs.Ytbnicphegbdfnaa.QR Go.Proofs.Ytbnicphegbdfnaa.QW Go.Proofs.Ytbnicphegbdfnaa.QL Go.Proofs.Ytbnicphegbdfnaa.SP Go.Proofs.Ytbnicphegbdfnaa.SN

/-- An area is filled, and flushed. -/
def keepR (r : Rp) (from_ st m : Nat) (b : List UInt8) : Rp × Int := if (rgw from_ st (place m b) m 0 r).2 = 0 then rflushed (rgw from_ st (place m b) m 0 r).1 else rgw from_ st (place m b) m 0 r
theorem keep_sim {d : Pd} {r : Rp} (h : Sim d r) (from_ st m : Nat) (b : List UInt8) (hb : b.length + 4 ≤ 108 * m) : (keepP d from_ st m b).2 = (keepR r from_ st m b).2 ∧ Sim (keepP d from_ st m b).1 (keepR r from_ st m b).1 := by
  obtain ⟨h1, h2⟩ := rgw_sim from_ st b m hb m 0 d r (by omega) h
  rw [Nat.mul_zero, List.drop_zero] at h1 h2
  unfold keepP keepR
  rw [h1]
  split
  · exact h2.flushed
  · exact ⟨h1, h2⟩
/-- The next snapshot, of two areas that can be gone to. -/
def nxR (P : Option (Nat × Nat × List UInt8)) (n : Nat) (r : Rp) (f m : Nat) (b : List UInt8) : Rp × Int := match P with
  | none => (r, 2)
  | some x => if 4611686018427387904 ≤ n then (r, 7) else keepR r (f + (1 - x.1) * m) (n + 1) m b
def nextR (r : Rp) (f m : Nat) (b : List UInt8) : Rp × Int := nxR (pick r.now f m) (anw r.now f (2 * m)) r f m b
def nxD (P : Option (Nat × Nat × List UInt8)) (n : Nat) (d : Pd) (f m : Nat) (b : List UInt8) : Pd × Int := match P with
  | none => (d, 2)
  | some x => if 4611686018427387904 ≤ n then (d, 7) else keepP d (f + (1 - x.1) * m) (n + 1) m b
def nextD (d : Pd) (f m : Nat) (b : List UInt8) : Pd × Int := nxD (pick d.last f m) (anw d.last f (2 * m)) d f m b
theorem next_sim {d : Pd} {r : Rp} (h : Sim d r) (f m : Nat) (b : List UInt8) (hb : b.length + 4 ≤ 108 * m) : (nextD d f m b).2 = (nextR r f m b).2 ∧ Sim (nextD d f m b).1 (nextR r f m b).1 := by
  unfold nextD nextR
  rw [h.now]
  cases pick d.last f m with
  | none => exact ⟨rfl, h⟩
  | some x =>
    unfold nxD nxR
    simp only
    split
    · exact ⟨rfl, h⟩
    · exact keep_sim h _ _ _ _ hb
theorem rgw_now (first st : Nat) (all : List UInt8) : ∀ (m k : Nat) (r : Rp), (rgw first st all m k r).1.now.length = r.now.length
  | 0, k, r => rfl
  | m + 1, k, r => by
    rw [rgw]
    have h1 := rwritten_now r ((first + k : Nat) : Int) (sealed st ((all.drop (108 * k)).take 108))
    try simp only
    split
    · rw [rgw_now first st all m (k + 1), h1]
    · exact h1
theorem rgw_waits (first st : Nat) (all : List UInt8) : ∀ (m k : Nat) (r : Rp), (rgw first st all m k r).1.waits.length ≤ r.waits.length + m
  | 0, k, r => Nat.le_refl _
  | m + 1, k, r => by
    rw [rgw]
    have h1 := rwritten_waits r ((first + k : Nat) : Int) (sealed st ((all.drop (108 * k)).take 108))
    try simp only
    split
    · have := rgw_waits first st all m (k + 1) (rwritten r ((first + k : Nat) : Int) (sealed st ((all.drop (108 * k)).take 108))).1
      omega
    · omega
theorem pick_c (L : List Sec) (f m : Nat) (hm : 1 ≤ m) {x : Nat × Nat × List UInt8} (h : pick L f m = some x) : x.1 < 2 := by
  have h0 := pick_is (ard L f m) (ard L (f + m) m) (ard_pos _ _ _ hm) (ard_pos _ _ _ hm)
  have h1 : pick L f m = pick2 (pick1 (ard L f m)) (ard L (f + m) m) := rfl
  rw [h1, h0] at h
  split at h
  · injection h with h
    subst h
    exact Nat.lt_succ_self 1
  · split at h
    · injection h with h
      subst h
      exact Nat.zero_lt_two
    · cases h
theorem _root_.Go.Proofs.Ytbnicphegbdfnaa.QW.WQ.give {w y : World} {BP BR : Nat} {r r' : Rp} {A1 A2 A3 : Option Addr} {c1 c2 c3 : Nat} (h : WQ w BP BR r y) (hrd : RD y (dv A1 A2 A3 r'.now.length r'.safe.length r'.waits.length c1 c2 c3 r'.fuse r'.off) r') :
    ∃ z, (Instr.storeAt 49 (.pointer (some ⟨BR, 0, none⟩)) (dv A1 A2 A3 r'.now.length r'.safe.length r'.waits.length c1 c2 c3 r'.fuse r'.off)).run Try.prog y = .ok () z ∧ z.heap[BR]? = some (.cells (d5 A1 A2 A3 r'.now.length r'.safe.length r'.waits.length c1 c2 c3 r'.fuse r'.off).toArray 49 (0, 0)) ∧ RD z (dv A1 A2 A3 r'.now.length r'.safe.length r'.waits.length c1 c2 c3 r'.fuse r'.off) r' ∧ Grew w z := by
  obtain ⟨C, h1, h2⟩ := h.rs
  have hk : Kept (fun k => k = BR) y (y.setRow BR (d5 A1 A2 A3 r'.now.length r'.safe.length r'.waits.length c1 c2 c3 r'.fuse r'.off).toArray) := ⟨rfl, rfl, rfl, by simp, fun j _ hj => setRow_other y BR j _ (by omega)⟩
  exact ⟨_, store5 y BR C h1 h2 A1 A2 A3 _ _ _ c1 c2 c3 _ _, setRow_heap y BR _ _ _ _ h1, RD.kept hrd hk (fun k cur e fz hd hh => by
    subst hd
    rw [h1] at hh
    cases hh
    exact ⟨by decide, by decide⟩), DAlive.grew_kept h.gr hk fun k hk => by rw [hk]; exact h.lr⟩
set_option maxHeartbeats 8000000 in
theorem next_no (r : Rp) (v : Value) (w : World) (hrd : RD w v r) (first many : Int) (vb : Value) (q : Int) (hn : r.now.length ≤ 16384) (hq : sref r.now.length r.off first many = q) (h0 : ¬ q = 0) :
    Calls Try.prog 39 #[v, .int .i64 first, .int .i64 many, vb] w fun e y => ANS w r q e y := by
  obtain ⟨⟨A1, A2, A3, c1, c2, c3, rfl, _⟩, _⟩ := id hrd
  have HWQ := Lib.hid (WQ.start hrd)
  have HAB : Hid (∀ A1 A2 A3 c1 c2 c3 W, Calls Try.prog 78 #[dv A1 A2 A3 r.now.length r.safe.length r.waits.length c1 c2 c3 r.fuse r.off, .int .i64 first, .int .i64 many] W fun e w' => e = .returned (.int .i64 q) ∧ Grew W w') := Lib.hid fun A1 A2 A3 c1 c2 c3 W => by
    have h := sable_any A1 A2 A3 r.now.length r.safe.length r.waits.length c1 c2 c3 r.fuse r.off first many W hn
    rwa [hq] at h
  have hq0 : (q != 0) = true := by simpa using h0
  clear hrd hn hq
  unfold dv
  go_enter Try.func39, Try.ntmps39
  go_upto_region 1 with fail
  unfold d5 at HWQ
  have HWQ0 : Hid (WQ w w.heap.size (w.heap.size + 1) r ((w.alloc (.cells #[.slice A1 r.now.length c1, .slice A2 r.safe.length c2, .slice A3 r.waits.length c3, .int .i64 r.fuse, .bool r.off] 49)).alloc (.cells #[.slice none 0 0, .slice none 0 0, .slice none 0 0, .int .i64 0, .bool false] 49))) := HWQ
  clear HWQ
  generalize (w.alloc (.cells #[.slice A1 r.now.length c1, .slice A2 r.safe.length c2, .slice A3 r.waits.length c3, .int .i64 r.fuse, .bool r.off] 49)).alloc (.cells #[.slice none 0 0, .slice none 0 0, .slice none 0 0, .int .i64 0, .bool false] 49) = W0 at *
  obtain ⟨BP, hBP⟩ : ∃ BP, w.heap.size = BP := ⟨_, rfl⟩
  rw [hBP] at HWQ0 ⊢
  obtain ⟨BR, hBR⟩ : ∃ BR, BP + 1 = BR := ⟨_, rfl⟩
  rw [hBR] at HWQ0 ⊢
  have HBP := Lib.hid hBP
  clear hBP hBR
  obtain ⟨B1, B2, B3, d1, d2, d3, hrd0, hld0, _⟩ := HWQ0.out.bx.load
  have HL1 := Lib.hid hld0
  clear hrd0 hld0
  go_wp2_with (refine DArm.wpList_load (by rfl) 49 (.tmp 4) (by with_reducible rfl) _ _ (by rfl) HL1.out ?_)
  refine (HAB.out B1 B2 B3 d1 d2 d3 W0).mono ?_
  rintro e W1 ⟨rfl, hg1⟩
  have HWQ1 := Lib.hid (HWQ0.out.grew hg1)
  clear hg1 HL1 HAB HWQ0
  obtain ⟨B1, B2, B3, d1, d2, d3, zz, hfq⟩ := HWQ1.out.fin
  have HFQ := Lib.hid hfq
  have l6 := hfq.res
  clear hfq
  go_wp2_with (first
    | refine DArm.wpList_load (by rfl) 49 (.tmp 4) (by with_reducible rfl) _ _ (by rfl) HFQ.out.ld ?_
    | refine DArm.wpList_store (by rfl) 49 (.tmp 8) (.tmp 24) (by with_reducible rfl) _ _ (by rfl) (by rfl) _ HFQ.out.st ?_)
  refine bodyPost_ret (v := .tuple #[dv B1 B2 B3 (r).now.length (r).safe.length (r).waits.length d1 d2 d3 (r).fuse (r).off, .int .i64 q]) ?_ rfl (⟨_, rfl, HFQ.out.rd, HFQ.out.gr⟩)
  simp [results, Try.results39]
  simp [asAddr, l6, d5, dv]
set_option maxHeartbeats 8000000 in
theorem next_long (r : Rp) (v : Value) (w : World) (hrd : RD w v r) (f m : Nat) (A : Option Addr) (n c : Nat) (hn : r.now.length ≤ 16384) (hq : sref r.now.length r.off (f : Int) (m : Int) = 0) (hl : 108 * m < n + 4) :
    Calls Try.prog 39 #[v, .int .i64 (f : Int), .int .i64 (m : Int), .slice A n c] w fun e y => ANS w r 13 e y := by
  obtain ⟨⟨A1, A2, A3, c1, c2, c3, rfl, _⟩, _⟩ := id hrd
  obtain ⟨k1, k2, _⟩ := sref_fit hq
  have HWQ := Lib.hid (WQ.start hrd)
  have HAB : Hid (∀ A1 A2 A3 c1 c2 c3 W, Calls Try.prog 78 #[dv A1 A2 A3 r.now.length r.safe.length r.waits.length c1 c2 c3 r.fuse r.off, .int .i64 (f : Int), .int .i64 (m : Int)] W fun e w' => e = .returned (.int .i64 0) ∧ Grew W w') := Lib.hid fun A1 A2 A3 c1 c2 c3 W => by
    have h := sable_any A1 A2 A3 r.now.length r.safe.length r.waits.length c1 c2 c3 r.fuse r.off (f : Int) (m : Int) W hn
    rwa [hq] at h
  obtain ⟨M, hM⟩ : ∃ M, 108 * m = M := ⟨_, rfl⟩
  have hmi : IntKind.i64.wrap (108 * (m : Int)) = (M : Int) := by rw [IntWalk.i64_in _ (by omega)]; omega
  have hm4 : IntKind.i64.wrap ((M : Int) - 4) = (M : Int) - 4 := IntWalk.i64_in _ (by omega)
  have hlong : (M : Int) - 4 < (n : Int) := by omega
  rename_i hoff
  clear hrd hn hq hl k1 k2 hM hoff
  unfold dv
  go_enter Try.func39, Try.ntmps39
  go_upto_region 1 with fail
  unfold d5 at HWQ
  have HWQ0 : Hid (WQ w w.heap.size (w.heap.size + 1) r ((w.alloc (.cells #[.slice A1 r.now.length c1, .slice A2 r.safe.length c2, .slice A3 r.waits.length c3, .int .i64 r.fuse, .bool r.off] 49)).alloc (.cells #[.slice none 0 0, .slice none 0 0, .slice none 0 0, .int .i64 0, .bool false] 49))) := HWQ
  clear HWQ
  generalize (w.alloc (.cells #[.slice A1 r.now.length c1, .slice A2 r.safe.length c2, .slice A3 r.waits.length c3, .int .i64 r.fuse, .bool r.off] 49)).alloc (.cells #[.slice none 0 0, .slice none 0 0, .slice none 0 0, .int .i64 0, .bool false] 49) = W0 at *
  obtain ⟨BP, hBP⟩ : ∃ BP, w.heap.size = BP := ⟨_, rfl⟩
  rw [hBP] at HWQ0 ⊢
  obtain ⟨BR, hBR⟩ : ∃ BR, BP + 1 = BR := ⟨_, rfl⟩
  rw [hBR] at HWQ0 ⊢
  have HBP := Lib.hid hBP
  clear hBP hBR
  obtain ⟨B1, B2, B3, d1, d2, d3, hrd0, hld0, _⟩ := HWQ0.out.bx.load
  have HL1 := Lib.hid hld0
  clear hrd0 hld0
  go_wp2_with (refine DArm.wpList_load (by rfl) 49 (.tmp 4) (by with_reducible rfl) _ _ (by rfl) HL1.out ?_)
  refine (HAB.out B1 B2 B3 d1 d2 d3 W0).mono ?_
  rintro e W1 ⟨rfl, hg1⟩
  have HWQ1 := Lib.hid (HWQ0.out.grew hg1)
  clear hg1 HL1 HAB HWQ0
  obtain ⟨B1, B2, B3, d1, d2, d3, zz, hfq⟩ := HWQ1.out.fin
  have HFQ := Lib.hid hfq
  have l6 := hfq.res
  clear hfq
  go_wp2_with (first
    | refine DArm.wpList_load (by rfl) 49 (.tmp 4) (by with_reducible rfl) _ _ (by rfl) HFQ.out.ld ?_
    | refine DArm.wpList_store (by rfl) 49 (.tmp 8) (.tmp 32) (by with_reducible rfl) _ _ (by rfl) (by rfl) _ HFQ.out.st ?_)
  refine bodyPost_ret (v := .tuple #[dv B1 B2 B3 (r).now.length (r).safe.length (r).waits.length d1 d2 d3 (r).fuse (r).off, .int .i64 13]) ?_ rfl (⟨_, rfl, HFQ.out.rd, HFQ.out.gr⟩)
  simp [results, Try.results39]
  simp [asAddr, l6, d5, dv]
set_option maxHeartbeats 16000000 in
theorem next_any (r : Rp) (v : Value) (w : World) (hrd : RD w v r) (f m : Nat) (A : Option Addr) (c : Nat) (b : List UInt8) (hev : Even r.now) (hn : r.now.length ≤ 16384) (hq : sref r.now.length r.off (f : Int) (m : Int) = 0) (S : Nat → Prop) (hb : Rd S w (.slice A b.length c) b) (hl : b.length + 4 ≤ 108 * m) (hw : r.waits.length ≤ 1000000000) :
    Calls Try.prog 39 #[v, .int .i64 (f : Int), .int .i64 (m : Int), .slice A b.length c] w fun e y => ANS w (nextR r f m b).1 (nextR r f m b).2 e y := by
  obtain ⟨⟨A1, A2, A3, c1, c2, c3, rfl, _⟩, _⟩ := id hrd
  obtain ⟨k1, k2, k3⟩ := sref_fit hq
  have HWQ := Lib.hid (WQ.start hrd)
  have HAB : Hid (∀ A1 A2 A3 c1 c2 c3 W, Calls Try.prog 78 #[dv A1 A2 A3 r.now.length r.safe.length r.waits.length c1 c2 c3 r.fuse r.off, .int .i64 (f : Int), .int .i64 (m : Int)] W fun e w' => e = .returned (.int .i64 0) ∧ Grew W w') := Lib.hid fun A1 A2 A3 c1 c2 c3 W => by
    have h := sable_any A1 A2 A3 r.now.length r.safe.length r.waits.length c1 c2 c3 r.fuse r.off (f : Int) (m : Int) W hn
    rwa [hq] at h
  have HLA : Hid (∀ A1 A2 A3 c1 c2 c3 W, RD W (dv A1 A2 A3 r.now.length r.safe.length r.waits.length c1 c2 c3 r.fuse r.off) r → Calls Try.prog 43 #[dv A1 A2 A3 r.now.length r.safe.length r.waits.length c1 c2 c3 r.fuse r.off, .int .i64 (f : Int), .int .i64 (m : Int)] W fun e w' => LST W (pick r.now f m) e w') := Lib.hid fun A1 A2 A3 c1 c2 c3 W hr => last_any r _ W hr f m hev hn hq
  have HNW : Hid (∀ A1 A2 A3 c1 c2 c3 W, RD W (dv A1 A2 A3 r.now.length r.safe.length r.waits.length c1 c2 c3 r.fuse r.off) r → Calls Try.prog 79 #[dv A1 A2 A3 r.now.length r.safe.length r.waits.length c1 c2 c3 r.fuse r.off, .int .i64 (f : Int), .int .i64 (2 * (m : Int))] W fun e w' => e = .returned (.tuple #[.int .u64 (anw r.now f (2 * m) : Int), .int .i64 0]) ∧ Grew W w') := Lib.hid fun A1 A2 A3 c1 c2 c3 W hr => newest_any A1 A2 A3 r.now r.safe.length r.waits.length c1 c2 c3 r.fuse r.off f (2 * m) _ (by simp) W (rd_now hr) hev hn (aref_of (by omega) (by omega) k3)
  have HWRT : Hid (∀ (spare st : Nat) (A1 A2 A3 : Option Addr) (c1 c2 c3 : Nat) W, Grew w W → spare + m ≤ r.now.length → may st = true → RD W (dv A1 A2 A3 r.now.length r.safe.length r.waits.length c1 c2 c3 r.fuse r.off) r → Calls Try.prog 80 #[dv A1 A2 A3 r.now.length r.safe.length r.waits.length c1 c2 c3 r.fuse r.off, .int .i64 (spare : Int), .int .i64 (m : Int), .int .u64 (st : Int), .slice A b.length c] W fun e y => ANS W (rgw spare st (place m b) m 0 r).1 (rgw spare st (place m b) m 0 r).2 e y) := Lib.hid fun spare st A1 A2 A3 c1 c2 c3 W hW hs hm hr => write_any r _ W hr spare m st _ _ rfl rfl A c b S (hb.grew hW) hn (aref_of hs k2 k3) hm hl hw
  obtain ⟨M, hM⟩ : ∃ M, 108 * m = M := ⟨_, rfl⟩
  have hmi : IntKind.i64.wrap (108 * (m : Int)) = (M : Int) := by rw [IntWalk.i64_in _ (by omega)]; omega
  have hm4 : IntKind.i64.wrap ((M : Int) - 4) = (M : Int) - 4 := IntWalk.i64_in _ (by omega)
  have hlong : ¬ (M : Int) - 4 < (b.length : Int) := by omega
  have hw2 : IntKind.i64.wrap (2 * (m : Int)) = 2 * (m : Int) := IntWalk.i64_in _ (by omega)
  have hwf : IntKind.i64.wrap ((f : Int) + (m : Int)) = ((f + m : Nat) : Int) := by rw [IntWalk.i64_in _ (by omega)]; simp
  have HK1 := Lib.hid k1
  obtain ⟨P, hP⟩ : ∃ P, pick r.now f m = P := ⟨_, rfl⟩
  obtain ⟨n, hnn⟩ : ∃ n, anw r.now f (2 * m) = n := ⟨_, rfl⟩
  have HPC : Hid (∀ x, P = some x → x.1 < 2) := Lib.hid fun x hx => pick_c r.now f m k2 (hP.trans hx)
  obtain ⟨Y, hY⟩ : ∃ Y, nextR r f m b = Y := ⟨_, rfl⟩
  rw [hY]
  have hyy : Y = nxR P n r f m b := by rw [← hY, ← hP, ← hnn]; rfl
  rw [hP] at HLA
  rw [hnn] at HNW
  have HY := Lib.hid hyy
  clear hrd hn hq hl k1 k3 hM hev hb hw hP hnn hY hyy
  unfold dv
  go_enter Try.func39, Try.ntmps39
  go_upto_region 1 with fail
  unfold d5 at HWQ
  have HWQ0 : Hid (WQ w w.heap.size (w.heap.size + 1) r ((w.alloc (.cells #[.slice A1 r.now.length c1, .slice A2 r.safe.length c2, .slice A3 r.waits.length c3, .int .i64 r.fuse, .bool r.off] 49)).alloc (.cells #[.slice none 0 0, .slice none 0 0, .slice none 0 0, .int .i64 0, .bool false] 49))) := HWQ
  clear HWQ
  generalize (w.alloc (.cells #[.slice A1 r.now.length c1, .slice A2 r.safe.length c2, .slice A3 r.waits.length c3, .int .i64 r.fuse, .bool r.off] 49)).alloc (.cells #[.slice none 0 0, .slice none 0 0, .slice none 0 0, .int .i64 0, .bool false] 49) = W0 at *
  obtain ⟨BP, hBP⟩ : ∃ BP, w.heap.size = BP := ⟨_, rfl⟩
  rw [hBP] at HWQ0 ⊢
  obtain ⟨BR, hBR⟩ : ∃ BR, BP + 1 = BR := ⟨_, rfl⟩
  rw [hBR] at HWQ0 ⊢
  have HBP := Lib.hid hBP
  clear hBP hBR
  obtain ⟨B1, B2, B3, d1, d2, d3, hrd0, hld0, _⟩ := HWQ0.out.bx.load
  have HL1 := Lib.hid hld0
  clear hrd0 hld0
  go_wp2_with (refine DArm.wpList_load (by rfl) 49 (.tmp 4) (by with_reducible rfl) _ _ (by rfl) HL1.out ?_)
  refine (HAB.out B1 B2 B3 d1 d2 d3 W0).mono ?_
  rintro e W1 ⟨rfl, hg1⟩
  have HWQ1 := Lib.hid (HWQ0.out.grew hg1)
  clear hg1 HL1 HAB HWQ0
  obtain ⟨B1, B2, B3, d1, d2, d3, hrd0, hld0, _⟩ := HWQ1.out.bx.load
  have HL1 := Lib.hid hld0
  have HC1 := Lib.hid (HLA.out B1 B2 B3 d1 d2 d3 W1 hrd0)
  clear hrd0 hld0 HLA
  go_wp2_with (refine DArm.wpList_load (by rfl) 49 (.tmp 4) (by with_reducible rfl) _ _ (by rfl) HL1.out ?_)
  refine HC1.out.mono ?_
  clear HC1 HL1 hmi hm4 hlong
  cases P with
  | none =>
    rintro e W2 ⟨rfl, hg2⟩
    have HWQ2 := Lib.hid (HWQ1.out.grew hg2)
    clear hg2 HWQ1
    obtain ⟨B1, B2, B3, d1, d2, d3, zz, hfq⟩ := HWQ2.out.fin
    have HFQ := Lib.hid hfq
    have l6 := hfq.res
    clear hfq
    go_wp2_with (first
      | refine DArm.wpList_load (by rfl) 49 (.tmp 4) (by with_reducible rfl) _ _ (by rfl) HFQ.out.ld ?_
      | refine DArm.wpList_store (by rfl) 49 (.tmp 8) (.tmp 44) (by with_reducible rfl) _ _ (by rfl) (by rfl) _ HFQ.out.st ?_)
    refine bodyPost_ret (v := .tuple #[dv B1 B2 B3 (r).now.length (r).safe.length (r).waits.length d1 d2 d3 (r).fuse (r).off, .int .i64 2]) ?_ rfl (by show ANS w Y.1 Y.2 _ _; rw [HY.out]; unfold nxR; exact ⟨_, rfl, HFQ.out.rd, HFQ.out.gr⟩)
    simp [results, Try.results39]
    simp [asAddr, l6, d5, dv]
  | some x =>
    rintro e W2 ⟨v2, rfl, _, hg2⟩
    have HWQ2 := Lib.hid (HWQ1.out.grew hg2)
    clear hg2 HWQ1
    obtain ⟨cx, sx, bx⟩ := x
    have hcx : cx < 2 := HPC.out _ rfl
    obtain ⟨B1, B2, B3, d1, d2, d3, hrd0, hld0, _⟩ := HWQ2.out.bx.load
    have HL1 := Lib.hid hld0
    have HC1 := Lib.hid (HNW.out B1 B2 B3 d1 d2 d3 W2 hrd0)
    clear hrd0 hld0 HNW HPC
    simp only
    go_wp2_with (refine DArm.wpList_load (by rfl) 49 (.tmp 4) (by with_reducible rfl) _ _ (by rfl) HL1.out ?_)
    refine HC1.out.mono ?_
    rintro e W3 ⟨rfl, hg3⟩
    have HWQ3 := Lib.hid (HWQ2.out.grew hg3)
    clear hg3 HWQ2 HC1 HL1
    by_cases h62 : 4611686018427387904 ≤ n
    · have HYY : Hid (Y = (r, 7)) := Lib.hid (by rw [HY.out]; exact if_pos h62)
      have hd : decide ((4611686018427387904 : Int) ≤ (n : Int)) = true := decide_eq_true (by omega)
      have hd2 : decide (4611686018427387904 ≤ n) = true := decide_eq_true h62
      clear h62 hcx
      obtain ⟨B1, B2, B3, d1, d2, d3, zz, hfq⟩ := HWQ3.out.fin
      have HFQ := Lib.hid hfq
      have l6 := hfq.res
      clear hfq
      go_wp2_with (first
        | refine DArm.wpList_load (by rfl) 49 (.tmp 4) (by with_reducible rfl) _ _ (by rfl) HFQ.out.ld ?_
        | refine DArm.wpList_store (by rfl) 49 (.tmp 8) (.tmp 56) (by with_reducible rfl) _ _ (by rfl) (by rfl) _ HFQ.out.st ?_)
      refine bodyPost_ret (v := .tuple #[dv B1 B2 B3 (r).now.length (r).safe.length (r).waits.length d1 d2 d3 (r).fuse (r).off, .int .i64 7]) ?_ rfl (by show ANS w Y.1 Y.2 _ _; rw [HYY.out]; exact ⟨_, rfl, HFQ.out.rd, HFQ.out.gr⟩)
      simp [results, Try.results39]
      simp [asAddr, l6, d5, dv]
    · have HYY0 : Hid (Y = keepR r (f + (1 - cx) * m) (n + 1) m b) := Lib.hid (by rw [HY.out]; exact if_neg h62)
      have hd : decide ((4611686018427387904 : Int) ≤ (n : Int)) = false := decide_eq_false (by omega)
      have hd2 : decide (4611686018427387904 ≤ n) = false := decide_eq_false h62
      have hw1 : IntKind.u64.wrap ((n : Int) + 1) = ((n + 1 : Nat) : Int) := by rw [IntWalk.u64_in _ (by omega)]; simp
      have HMAY : Hid (may (n + 1) = true) := Lib.hid ((may_iff _).2 (by omega))
      obtain ⟨n1, hn1⟩ : ∃ n1, n + 1 = n1 := ⟨_, rfl⟩
      rw [hn1] at hw1 HMAY HYY0
      obtain ⟨fm, hfm⟩ : ∃ fm, f + m = fm := ⟨_, rfl⟩
      rw [hfm] at hwf
      have HFM := Lib.hid hfm
      clear h62 hn1 hfm HY
      rcases (show cx = 0 ∨ cx = 1 by omega) with rfl | rfl
      · have HYY : Hid (Y = keepR r fm n1 m b) := Lib.hid (by rw [HYY0.out, ← HFM.out]; simp)
        have HFIT : Hid (fm + m ≤ r.now.length) := Lib.hid (by have := HK1.out; have := HFM.out; omega)
        clear HYY0 hcx
        obtain ⟨B1, B2, B3, d1, d2, d3, hrd0, hld0, _⟩ := HWQ3.out.bx.load
        have HL1 := Lib.hid hld0
        have HC1 := Lib.hid (HWRT.out fm n1 B1 B2 B3 d1 d2 d3 W3 HWQ3.out.gr HFIT.out HMAY.out hrd0)
        clear hrd0 hld0 HWRT
        go_wp2_with (refine DArm.wpList_load (by rfl) 49 (.tmp 4) (by with_reducible rfl) _ _ (by rfl) HL1.out ?_)
        refine HC1.out.mono ?_
        rcases hgw : rgw fm n1 (place m b) m 0 r with ⟨r1, q1⟩
        have hyy := HYY.out
        unfold keepR at hyy
        rw [hgw] at hyy
        have HYZ := Lib.hid hyy
        rintro e W4 ⟨v4, rfl, hr4, hg4⟩
        obtain ⟨z, hst, hwq, _⟩ := (HWQ3.out.grew hg4).put hr4
        have HSTO := Lib.hid hst
        have HWZ := Lib.hid hwq
        clear hr4 hg4 hst hwq HC1 HL1 hgw hyy HYY
        simp only
        by_cases hq1 : q1 = 0
        · subst hq1
          have hyz := HYZ.out
          rw [if_pos rfl] at hyz
          have HYF := Lib.hid hyz
          clear hyz HYZ
          obtain ⟨B1, B2, B3, d1, d2, d3, hrd0, hld0, _⟩ := HWZ.out.bx.load
          have HL1 := Lib.hid hld0
          rcases hfl : rflushed r1 with ⟨r2, q2⟩
          have HC1 := Lib.hid (rflush_eq r1 _ z r2 q2 hrd0 hfl)
          have HYG : Hid (Y = (r2, q2)) := Lib.hid (by rw [HYF.out, hfl])
          clear hrd0 hld0 hfl HYF
          go_wp2_with (first
            | refine DArm.wpList_store (by rfl) 49 (.tmp 4) (.tmp 71) (by with_reducible rfl) _ _ (by rfl) (by rfl) _ HSTO.out ?_
            | refine DArm.wpList_load (by rfl) 49 (.tmp 4) (by with_reducible rfl) _ _ (by rfl) HL1.out ?_)
          refine HC1.out.mono ?_
          rintro e W5 ⟨v5, rfl, hr5, hg5⟩
          obtain ⟨B1, B2, B3, d1, d2, d3, rfl, _⟩ := id hr5.ex
          obtain ⟨zz, hst5, hbl5, hrd5, hgr5⟩ := (HWZ.out.grew hg5).give hr5
          have HST5 := Lib.hid hst5
          have HBL5 := Lib.hid hbl5
          have HRD5 := Lib.hid hrd5
          have HGR5 := Lib.hid hgr5
          have l6 := run_loadVar_mid (P := Try.prog) zz BR 0 49 (d5 B1 B2 B3 r2.now.length r2.safe.length r2.waits.length d1 d2 d3 r2.fuse r2.off) _ (fun j v hv => by rw [cell_of_row _ _ _ _ _ _ HBL5.out, Nat.zero_add]; first | exact hv | simpa [d5] using hv) Try.underlying49 rfl size32
          clear hr5 hg5 hst5 hbl5 hrd5 hgr5 HC1 HL1
          go_wp2_with (refine DArm.wpList_store (by rfl) 49 (.tmp 8) (.tmp 79) (by with_reducible rfl) _ _ (by rfl) (by rfl) _ HST5.out ?_)
          refine bodyPost_ret (v := .tuple #[dv B1 B2 B3 r2.now.length r2.safe.length r2.waits.length d1 d2 d3 r2.fuse r2.off, .int .i64 q2]) ?_ rfl (by show ANS w Y.1 Y.2 _ _; rw [HYG.out]; exact ⟨_, rfl, HRD5.out, HGR5.out⟩)
          simp [results, Try.results39]
          simp [asAddr, l6, d5, dv]
        · have hq2 : (q1 != 0) = true := by simpa using hq1
          have HYF : Hid (Y = (r1, q1)) := Lib.hid (by rw [HYZ.out, if_neg hq1])
          clear hq1 HYZ
          obtain ⟨B1, B2, B3, d1, d2, d3, zz, hfq⟩ := HWZ.out.fin
          have HFQ := Lib.hid hfq
          have l6 := hfq.res
          clear hfq
          go_wp2_with (first
            | refine DArm.wpList_store (by rfl) 49 (.tmp 4) (.tmp 71) (by with_reducible rfl) _ _ (by rfl) (by rfl) _ HSTO.out ?_
            | refine DArm.wpList_load (by rfl) 49 (.tmp 4) (by with_reducible rfl) _ _ (by rfl) HFQ.out.ld ?_
            | refine DArm.wpList_store (by rfl) 49 (.tmp 8) (.tmp 75) (by with_reducible rfl) _ _ (by rfl) (by rfl) _ HFQ.out.st ?_)
          refine bodyPost_ret (v := .tuple #[dv B1 B2 B3 (r1).now.length (r1).safe.length (r1).waits.length d1 d2 d3 (r1).fuse (r1).off, .int .i64 q1]) ?_ rfl (by show ANS w Y.1 Y.2 _ _; rw [HYF.out]; exact ⟨_, rfl, HFQ.out.rd, HFQ.out.gr⟩)
          simp [results, Try.results39]
          simp [asAddr, l6, d5, dv]
      · have HYY : Hid (Y = keepR r f n1 m b) := Lib.hid (by rw [HYY0.out]; simp)
        have HFIT : Hid (f + m ≤ r.now.length) := Lib.hid (by have := HK1.out; omega)
        clear HYY0 hcx
        obtain ⟨B1, B2, B3, d1, d2, d3, hrd0, hld0, _⟩ := HWQ3.out.bx.load
        have HL1 := Lib.hid hld0
        have HC1 := Lib.hid (HWRT.out f n1 B1 B2 B3 d1 d2 d3 W3 HWQ3.out.gr HFIT.out HMAY.out hrd0)
        clear hrd0 hld0 HWRT
        go_wp2_with (refine DArm.wpList_load (by rfl) 49 (.tmp 4) (by with_reducible rfl) _ _ (by rfl) HL1.out ?_)
        refine HC1.out.mono ?_
        rcases hgw : rgw f n1 (place m b) m 0 r with ⟨r1, q1⟩
        have hyy := HYY.out
        unfold keepR at hyy
        rw [hgw] at hyy
        have HYZ := Lib.hid hyy
        rintro e W4 ⟨v4, rfl, hr4, hg4⟩
        obtain ⟨z, hst, hwq, _⟩ := (HWQ3.out.grew hg4).put hr4
        have HSTO := Lib.hid hst
        have HWZ := Lib.hid hwq
        clear hr4 hg4 hst hwq HC1 HL1 hgw hyy HYY
        simp only
        by_cases hq1 : q1 = 0
        · subst hq1
          have hyz := HYZ.out
          rw [if_pos rfl] at hyz
          have HYF := Lib.hid hyz
          clear hyz HYZ
          obtain ⟨B1, B2, B3, d1, d2, d3, hrd0, hld0, _⟩ := HWZ.out.bx.load
          have HL1 := Lib.hid hld0
          rcases hfl : rflushed r1 with ⟨r2, q2⟩
          have HC1 := Lib.hid (rflush_eq r1 _ z r2 q2 hrd0 hfl)
          have HYG : Hid (Y = (r2, q2)) := Lib.hid (by rw [HYF.out, hfl])
          clear hrd0 hld0 hfl HYF
          go_wp2_with (first
            | refine DArm.wpList_store (by rfl) 49 (.tmp 4) (.tmp 71) (by with_reducible rfl) _ _ (by rfl) (by rfl) _ HSTO.out ?_
            | refine DArm.wpList_load (by rfl) 49 (.tmp 4) (by with_reducible rfl) _ _ (by rfl) HL1.out ?_)
          refine HC1.out.mono ?_
          rintro e W5 ⟨v5, rfl, hr5, hg5⟩
          obtain ⟨B1, B2, B3, d1, d2, d3, rfl, _⟩ := id hr5.ex
          obtain ⟨zz, hst5, hbl5, hrd5, hgr5⟩ := (HWZ.out.grew hg5).give hr5
          have HST5 := Lib.hid hst5
          have HBL5 := Lib.hid hbl5
          have HRD5 := Lib.hid hrd5
          have HGR5 := Lib.hid hgr5
          have l6 := run_loadVar_mid (P := Try.prog) zz BR 0 49 (d5 B1 B2 B3 r2.now.length r2.safe.length r2.waits.length d1 d2 d3 r2.fuse r2.off) _ (fun j v hv => by rw [cell_of_row _ _ _ _ _ _ HBL5.out, Nat.zero_add]; first | exact hv | simpa [d5] using hv) Try.underlying49 rfl size32
          clear hr5 hg5 hst5 hbl5 hrd5 hgr5 HC1 HL1
          go_wp2_with (refine DArm.wpList_store (by rfl) 49 (.tmp 8) (.tmp 79) (by with_reducible rfl) _ _ (by rfl) (by rfl) _ HST5.out ?_)
          refine bodyPost_ret (v := .tuple #[dv B1 B2 B3 r2.now.length r2.safe.length r2.waits.length d1 d2 d3 r2.fuse r2.off, .int .i64 q2]) ?_ rfl (by show ANS w Y.1 Y.2 _ _; rw [HYG.out]; exact ⟨_, rfl, HRD5.out, HGR5.out⟩)
          simp [results, Try.results39]
          simp [asAddr, l6, d5, dv]
        · have hq2 : (q1 != 0) = true := by simpa using hq1
          have HYF : Hid (Y = (r1, q1)) := Lib.hid (by rw [HYZ.out, if_neg hq1])
          clear hq1 HYZ
          obtain ⟨B1, B2, B3, d1, d2, d3, zz, hfq⟩ := HWZ.out.fin
          have HFQ := Lib.hid hfq
          have l6 := hfq.res
          clear hfq
          go_wp2_with (first
            | refine DArm.wpList_store (by rfl) 49 (.tmp 4) (.tmp 71) (by with_reducible rfl) _ _ (by rfl) (by rfl) _ HSTO.out ?_
            | refine DArm.wpList_load (by rfl) 49 (.tmp 4) (by with_reducible rfl) _ _ (by rfl) HFQ.out.ld ?_
            | refine DArm.wpList_store (by rfl) 49 (.tmp 8) (.tmp 75) (by with_reducible rfl) _ _ (by rfl) (by rfl) _ HFQ.out.st ?_)
          refine bodyPost_ret (v := .tuple #[dv B1 B2 B3 (r1).now.length (r1).safe.length (r1).waits.length d1 d2 d3 (r1).fuse (r1).off, .int .i64 q1]) ?_ rfl (by show ANS w Y.1 Y.2 _ _; rw [HYF.out]; exact ⟨_, rfl, HFQ.out.rd, HFQ.out.gr⟩)
          simp [results, Try.results39]
          simp [asAddr, l6, d5, dv]
end Go.Proofs.Ytbnicphegbdfnaa.QX
