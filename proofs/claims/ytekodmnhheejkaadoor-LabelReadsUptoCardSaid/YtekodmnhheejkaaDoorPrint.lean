/-
  A label's text.
  Conditions: the table of the library's counting of noughts lies as the program's text lays it.
-/
import Derived.Test.YtekodmnhheejkaaDoorEach
namespace Go.Proofs.YtekodmnhheejkaaDoor.Print
open Go Go.RowKit Go.Shelf Go.Proofs.YtekodmnhheejkaaDoor Go.Proofs.YtekodmnhheejkaaDoor.Facts Go.Proofs.YtekodmnhheejkaaDoor.Plain Go.Proofs.YtekodmnhheejkaaDoor.Comps Go.Proofs.YtekodmnhheejkaaDoor.Each

attribute [local go_sem] Oper.semAt_some

/-- What stands behind the level. -/
def tail (pre : List (Fin 64)) : List UInt8 := pre.flatMap fun x => 44 :: Lib.decDigits x.1
theorem tail_snoc (pre : List (Fin 64)) (x : Fin 64) : tail (pre ++ [x]) = tail pre ++ 44 :: Lib.decDigits x.1 := by simp [tail]
def text (m : Nat) (pre : List (Fin 64)) : ByteArray := ⟨(Lib.decDigits m ++ tail pre).toArray⟩

theorem digits_fin : ∀ i : Fin 100, (Lib.decDigits i.1).length ≤ 2 := by decide +kernel
theorem digits_le (x : Fin 64) : (Lib.decDigits x.1).length ≤ 2 := digits_fin ⟨x.1, by have := x.isLt; omega⟩
theorem tail_le : ∀ pre : List (Fin 64), (tail pre).length ≤ 3 * pre.length
  | [] => by simp [tail]
  | x :: r => by
    have h1 := tail_le r
    have h2 := digits_le x
    have e : tail (x :: r) = 44 :: Lib.decDigits x.1 ++ tail r := by simp [tail]
    rw [e]
    simp
    omega
theorem text_size (m : Nat) (pre : List (Fin 64)) : (text m pre).size = (Lib.decDigits m).length + (tail pre).length := by
  show (Lib.decDigits m ++ tail pre).toArray.size = _
  simp
theorem comps_le (c : BitVec 64) : (comps c).length ≤ 64 := by
  have := List.length_filter_le (fun i : Fin 64 => c.getLsbD i) (List.finRange 64)
  simpa [comps] using this
theorem text_snoc (m : Nat) (pre : List (Fin 64)) (x : Fin 64) : text m pre ++ ((⟨#[44]⟩ : ByteArray) ++ ⟨(Lib.decDigits x.1).toArray⟩) = text m (pre ++ [x]) := by
  have e : ((⟨#[44]⟩ : ByteArray) ++ ⟨(Lib.decDigits x.1).toArray⟩) = ⟨(44 :: Lib.decDigits x.1).toArray⟩ := ByteArray.mk_append_mk [44] _
  rw [e]
  unfold text
  rw [ByteArray.mk_append_mk, tail_snoc, List.append_assoc]

set_option maxRecDepth 100000 in
set_option maxHeartbeats 2000000 in
theorem print_in (v : Int) (c : BitVec 64) (w : World) (hs : 0 < w.heap.size) (hT : TabAt 0 Lib.deBruijn64tab w) (hv : may v = true) :
    CallsIn Fence.wide 3 Tryd.prog 29 #[.agg #[.int .i64 v, .int .u64 (c.toNat : Int)]] w fun e W' => e = .returned (.string (text v.toNat (comps c))) ∧ Below w.heap.size w W' := by
  obtain ⟨h0, h4⟩ : 0 ≤ v ∧ v < 4 := by simpa [may] using hv
  obtain ⟨m, rfl⟩ := Int.eq_ofNat_of_zero_le h0
  have hm : m < 100 := by omega
  refine callsIn_of_wp_marks Tryd.func29 rfl trivial ?_ rfl
  simp only [Tryd.ntmps29, List.size_toArray, List.length_cons, List.length_nil, Nat.reduceAdd, Nat.reduceSub, Array.replicate_succ, Array.replicate_zero, List.push_toArray, List.append_toArray, List.nil_append, List.cons_append]
  gi_wp2_with fail
  refine ⟨trivial, (callsIn_wide.2 (right_any _ c _)).mono ?_⟩
  rintro e W1 ⟨rfl, hg1⟩
  have k0 : W1.cell? ⟨w.heap.size, 0, none⟩ = some (.int .i64 (m : Int)) := cellG hg1 (by go_simp)
  have k1 : W1.cell? ⟨w.heap.size, 1, none⟩ = some (.int .u64 (c.toNat : Int)) := cellG hg1 (by go_simp)
  have z1 : w.heap.size + 1 ≤ W1.heap.size := by have := hg1.size; simpa using this
  have G1 : Below w.heap.size w W1 := by
    have h2 : Below w.heap.size w (w.alloc (Obj.cells #[Value.int IntKind.i64 (m : Int), Value.int IntKind.u64 (c.toNat : Int)] 24)) := by go_grown
    exact h2.trans (hg1.mono (by simp))
  clear hg1
  gi_wp2_with fail
  refine ⟨trivial, (callsIn_wide.2 (Tryd.strconv_Itoa_small m hm _)).mono ?_⟩
  rintro e W2 ⟨rfl, rfl⟩
  have g2 : ∀ s, Below W2.heap.size W2 (W2.alloc (Obj.cells #[Value.string s] 9)) := fun s => by go_grown
  have k1' : ∀ s, (W2.alloc (Obj.cells #[Value.string s] 9)).cell? ⟨w.heap.size, 1, none⟩ = some (.int .u64 (c.toNat : Int)) := fun s => ((g2 s).cell (p := ⟨w.heap.size, 1, none⟩) (by show w.heap.size < W2.heap.size; omega)).trans k1
  gi_wp2_with fail
  refine ⟨trivial, (callsIn_wide.2 (each_any c _)).mono ?_⟩
  rintro e W3 ⟨rfl, rfl⟩
  gi_wp2
  have hsz : (W2.alloc (Obj.cells #[Value.string ⟨(Lib.decDigits m).toArray⟩] 9)).heap.size = W2.heap.size + 1 := by simp
  have bO := Boxed.new W2 9 (.string ⟨(Lib.decDigits m).toArray⟩)
  have bN := Boxed.new (W2.alloc (Obj.cells #[Value.string ⟨(Lib.decDigits m).toArray⟩] 9)) 22 (.int .u64 (c.toNat : Int))
  rw [hsz] at bN
  have hB1 : Below w.heap.size W2 ((W2.alloc (Obj.cells #[Value.string ⟨(Lib.decDigits m).toArray⟩] 9)).alloc (Obj.cells #[Value.int IntKind.u64 (c.toNat : Int)] 22)) := by go_grown
  have hB0 := G1.trans hB1
  have hTW : TabAt 0 Lib.deBruijn64tab ((W2.alloc (Obj.cells #[Value.string ⟨(Lib.decDigits m).toArray⟩] 9)).alloc (Obj.cells #[Value.int IntKind.u64 (c.toNat : Int)] 22)) := fun j hj => (hB0.cell (p := ⟨0, j, none⟩) (by show 0 < w.heap.size; omega)).trans (hT j hj)
  have hns : w.heap.size ≤ ((W2.alloc (Obj.cells #[Value.string ⟨(Lib.decDigits m).toArray⟩] 9)).alloc (Obj.cells #[Value.int IntKind.u64 (c.toNat : Int)] 22)).heap.size := by simp; omega
  have he : text m [] = ⟨(Lib.decDigits m).toArray⟩ := by simp [text, tail]
  refine wpIn_rangeFunc_ownG rfl (by decide) (gf := 42) (lb := #[.pointer (some ⟨W2.heap.size + 1, 0, none⟩)]) rfl trivial (enters_of Tryd.func42 (by kernel_rfl) rfl)
    (each_stops 2 (by decide) (W2.heap.size + 1) w.heap.size hs c _ (by simp) hns bN.cell hTW) belowK_t (belowK_b hns) (Below.refl _ _) (fun _ => rfl)
    (fun (pre : List (Fin 64)) W => Boxed W W2.heap.size 9 (.string (text m pre)) ∧ Below w.heap.size w W)
    (fun _ _ _ => False)
    (OwnFrom.and (Own.from (boxed_own W2.heap.size 9 (fun pre => .string (text m pre))) _) (ownFrom_below (Nat.le_refl _) hns))
    (fun _ _ _ _ _ hs _ _ => hs)
    ⟨by rw [he]; exact bO.alloc _, hB0⟩
    (fun x => { tmps := #[.agg #[.int .i64 (m : Int), .int .u64 (c.toNat : Int)], .pointer (some ⟨w.heap.size, 0, none⟩), .string ⟨#[]⟩, .pointer (some ⟨W2.heap.size, 0, none⟩), .int .i64 ((x.1 : Nat) : Int), .agg #[.int .i64 (m : Int), .int .u64 (c.toNat : Int)], .bool true, .bool false, .pointer (some ⟨w.heap.size, 0, none⟩), .int .i64 (m : Int), .string ⟨(Lib.decDigits m).toArray⟩, .pointer (some ⟨w.heap.size, 1, none⟩), .int .u64 (c.toNat : Int), .func (.func 42) #[] #[.pointer (some ⟨W2.heap.size + 1, 0, none⟩)], .int .i64 ((x.1 : Nat) : Int), undef, undef, undef, undef, undef, undef], defers := [] }) ?assign ?body ?done ?stop
  case assign =>
    intro l x W K hK
    gi_wp2
    exact hK
  case body =>
    rintro l pre x W ⟨hv, hB⟩ hlt
    have hc := hv.cell
    have hf := hv.frozen
    have hx : x.1 < 100 := by have := x.isLt; omega
    have hd : 1 ≤ 3 - 1 - 1 := by decide
    have hmx : Tryd.prog.follows .mixedOrders = true := by kernel_rfl
    have hpl : pre.length < 64 := by have := comps_le c; omega
    have hI := Tryd.strconv_Itoa_small x.1 hx W.drew
    have hTs : (text m pre).size ≤ 300 := by
      have := tail_le pre
      have := digits_fin ⟨m, hm⟩
      rw [text_size]
      dsimp only at this
      omega
    have hDs : (⟨(Lib.decDigits x.1).toArray⟩ : ByteArray).size ≤ 2 := by
      have := digits_le x
      show (Lib.decDigits x.1).toArray.size ≤ 2
      simpa using this
    have hS := text_snoc m pre x
    generalize (⟨(Lib.decDigits x.1).toArray⟩ : ByteArray) = D at *
    generalize hT' : text m (pre ++ [x]) = T' at *
    generalize text m pre = T at *
    have f1 : 1 + D.size ≤ 9223372036854775807 := by omega
    have f2 : T.size + (1 + D.size) ≤ 9223372036854775807 := by omega
    clear hDs hTs
    gi_wp2
    gi_region_with_o (refine ⟨trivial, (CallsIn.inRound l (callsIn_wide.2 hI)).mono ?_⟩; rintro e w' ⟨rfl, rfl⟩)
    all_goals gi_wp2
    all_goals (try go_bits)
    all_goals
      have hBk : Below w.heap.size W (W.setCell ⟨W2.heap.size, 0, none⟩ (Value.string T')).drew := ((Below.refl _ W).setCell (p := ⟨W2.heap.size, 0, none⟩) (by show w.heap.size ≤ W2.heap.size; omega) _).drew
      have hbx : Boxed (W.setCell ⟨W2.heap.size, 0, none⟩ (Value.string T')).drew W2.heap.size 9 (.string (text m (pre ++ [x]))) := by rw [hT']; exact hv.set _
      exact ⟨((KeepsOthers.setCell _ _ _).trans (KeepsOthers.drew _)).from _, hBk, hbx, hB.trans hBk⟩
  case done =>
    rintro D ys W hD rfl ⟨hv, hB⟩ hK
    have hc := hv.cell
    gi_wp2
    refine ⟨by simp, .inl ⟨_, _, rfl, run_takeDeferred hK, ?_⟩⟩
    exact ⟨_, results_tmp rfl _ _ _, rfl, hB.trans (belowK_b (w := w) (Nat.le_refl _) W D _ _ (by simp at hD; omega) hK rfl rfl)⟩
  case stop =>
    rintro D c pre W _ _ h _
    exact h.elim

theorem print_none (v : Int) (c : BitVec 64) (w : World) (hv : may v = false) : Calls Tryd.prog 29 #[.agg #[.int .i64 v, .int .u64 (c.toNat : Int)]] w fun e W' => e = .returned (.string ⟨#[]⟩) ∧ Grew w W' := by
  go_enter Tryd.func29, Tryd.ntmps29
  go_wp2_with fail
  refine (right_any v c _).mono ?_
  rintro e W1 ⟨rfl, hg1⟩
  have hG : Grew w W1 := Grew.trans (b := w.alloc (Obj.cells #[Value.int IntKind.i64 v, Value.int IntKind.u64 (c.toNat : Int)] 24)) (by unfold Grew; go_grown) hg1
  clear hg1
  go_wp2
  go_returns
  exact ⟨rfl, hG⟩

/-- A label's text; none where it may not be. -/
def print (v : Int) (c : BitVec 64) : ByteArray := if may v = true then text v.toNat (comps c) else ⟨#[]⟩

theorem print_any (v : Int) (c : BitVec 64) (w : World) (hs : 0 < w.heap.size) (hT : TabAt 0 Lib.deBruijn64tab w) :
    Calls Tryd.prog 29 #[.agg #[.int .i64 v, .int .u64 (c.toNat : Int)]] w fun e W' => e = .returned (.string (print v c)) ∧ Grew w W' := by
  unfold print
  by_cases hv : may v = true
  · rw [if_pos hv]
    exact callsIn_wide.1 (print_in v c w hs hT hv)
  · rw [if_neg hv]
    exact print_none v c w (by simpa using hv)
end Go.Proofs.YtekodmnhheejkaaDoor.Print
