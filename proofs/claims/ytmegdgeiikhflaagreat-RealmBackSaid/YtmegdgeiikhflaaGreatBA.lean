/-
  Numbers put behind bytes, one byte each.
  Conditions: those that each lemma names.
-/
import Derived.Test.YtmegdgeiikhflaaGreatPuts
import Derived.Test.YtmegdgeiikhflaaGreatInts
import Derived.IntWalk
import Derived.Deep.LoopGhost
import Derived.Deep.Onto
namespace Go.Proofs.YtmegdgeiikhflaaGreat.BA
set_option maxRecDepth 100000
open Go Go.RowKit Go.Lib Go.Proofs.YtmegdgeiikhflaaGreat Go.Proofs.YtmegdgeiikhflaaGreat.Facts Go.Proofs.YtmegdgeiikhflaaGreat.Bytes Go.Proofs.YtmegdgeiikhflaaGreat.Ints Go.Proofs.YtmegdgeiikhflaaGreat.Puts


def pb (n : Int) : List UInt8 := be 1 (IntKind.u64.wrap n).toNat
def putP (L : List Int) : List UInt8 := L.flatMap pb
theorem pb_len (n : Int) : (pb n).length = 1 := by unfold pb; rw [be_length]
theorem putP_len (L : List Int) : (putP L).length = L.length := by
  unfold putP
  induction L with
  | nil => rfl
  | cons a r ih => rw [List.flatMap_cons, List.length_append, pb_len, ih, List.length_cons]; omega
theorem putP_snoc (L : List Int) (k : Nat) (x : Int) (h : L[k]? = some x) : putP (L.take (k + 1)) = putP (L.take k) ++ pb x := by
  unfold putP
  rw [List.take_add_one, h, List.flatMap_append]
  simp
theorem wrapU (x : Int) : ∃ m : Nat, IntKind.u64.wrap x = (m : Int) ∧ pb x = be 1 m := by
  have h : 0 ≤ IntKind.u64.wrap x := by
    unfold IntKind.wrap
    simp [IntKind.signed, IntKind.bits]
    omega
  refine ⟨(IntKind.u64.wrap x).toNat, by omega, rfl⟩
/-- An own row of these bytes. -/
def OwnB (w : World) (base : Nat) (v : Value) (X : List UInt8) : Prop := w.ownsRow base 5 1 v X.length (bv X)
theorem OwnB.rd {w : World} {base : Nat} {v : Value} {X : List UInt8} (h : OwnB w base v X) : Rd (fun _ => True) w v X := (Rd.of_own (show w.ownsRow base 5 1 v X.length (bv X) from h) rfl).mono fun _ _ => trivial
theorem OwnB.mono {w : World} {base base' : Nat} {v : Value} {X : List UInt8} (h : OwnB w base v X) (hb : base' ≤ base) : OwnB w base' v X := World.ownsRow.mono (show w.ownsRow base 5 1 v X.length (bv X) from h) hb
theorem OwnB.of {w : World} {base n : Nat} {v : Value} {X : List UInt8} (h : w.ownsRow base 5 1 v n (bv X)) (hn : n = X.length) : OwnB w base v X := by
  subst hn
  exact h
theorem width1 : width 1 = 1 := by decide
set_option maxHeartbeats 1000000 in
theorem put_any (S : Nat → Prop) (v : Value) (l : List UInt8) (vi : Value) (L : List Int) (w : World) (h : Rd S w v l) (hi : Is w vi L) (hne : L ≠ []) (hl : l.length + L.length + 16 ≤ 140737488355328) :
    Calls Tryz.prog 87 #[v, vi] w fun e w' => ∃ v', e = .returned v' ∧ OwnB w' w.heap.size v' (l ++ putP L) ∧ Grew w w' := by
  have HI := Lib.hid hi
  have HL := Lib.hid hl
  have HNE := Lib.hid hne
  have HR : Hid (Rd (fun _ => True) w v (l ++ putP (L.take 0))) := Lib.hid (by
    have : l ++ putP (L.take 0) = l := by simp [putP]
    rw [this]
    exact h.mono fun _ _ => trivial)
  obtain ⟨A, c, rfl, hc1, hc2, _⟩ := hi
  clear h hl hne
  go_enter Tryz.func87, Tryz.ntmps87
  go_wp2
  go_loopg [0, 9] L.length (fun g s0 s9 wx => ∃ (k : Nat) (v0 : Value), k + g = L.length ∧ v0 = s0 ∧ s9 = .int .i64 k ∧ Hid (Rd (fun _ => True) wx s0 (l ++ putP (L.take k))) ∧ Hid (0 < k → OwnB wx w.heap.size s0 (l ++ putP (L.take k))) ∧ Hid (Grew w wx))
  case atStart => exact ⟨0, _, by omega, rfl, rfl, HR, Lib.hid (fun h => absurd h (by omega)), Lib.hid (Grew.refl _)⟩
  case round =>
    clear HR
    obtain ⟨k, v0, hkg, rfl, rfl, HV, HO, HG⟩ := hrel
    cases gk with
    | zero =>
      have hkz : ¬ ((k : Int) < (L.length : Int)) := by omega
      have HE : Hid (OwnB wr w.heap.size v0 (l ++ putP L)) := Lib.hid (by
        have hpos : 0 < k := by
          have := HNE.out
          have h2 : L.length ≠ 0 := fun e => this (List.eq_nil_of_length_eq_zero e)
          omega
        have := HO.out hpos
        rw [show k = L.length by omega, List.take_length] at this
        exact this)
      go_wp2
      go_returns
      exact ⟨_, rfl, HE.out, HG.out⟩
    | succ g =>
      have hkl : k < L.length := by omega
      have hkz : (k : Int) < (L.length : Int) := by omega
      have hx : L[k]? = some (L[k]?.getD 0) := by rw [List.getElem?_eq_getElem hkl]; rfl
      obtain ⟨ad, c9, e9, _, d0⟩ := Is.cell (HI.out.grew HG.out) hkl
      injection e9 with e1 e2 e3
      subst e1 e3
      clear e2
      have HSN := Lib.hid (putP_snoc L k _ hx)
      obtain ⟨m, hm, hpb⟩ := wrapU (L[k]?.getD 0)
      rw [hpb] at HSN
      generalize L[k]?.getD 0 = x at *
      have hll : (l ++ putP (L.take k)).length + 8 ≤ 140737488355328 := by
        rw [List.length_append, putP_len, List.length_take]
        have := HL.out
        omega
      have HNUM := Lib.hid (num_any (fun _ => True) v0 _ m 1 wr HV.out hll)
      have HKW : Hid (wrap64 ((k : Int) + 1) = ((k + 1 : Nat) : Int)) := Lib.hid (by have := HL.out; unfold wrap64; omega)
      have HM : Hid (k + 1 + g = L.length) := Lib.hid (by omega)
      clear hx hpb hll hkl hkg
      go_wp2_with fail
      refine HNUM.out.mono ?_
      rintro e w2 ⟨v', rfl, hown, hg⟩
      have HG2 := Lib.hid (HG.out.trans hg)
      have HO2 : Hid (OwnB w2 w.heap.size v' (l ++ putP (L.take (k + 1)))) := Lib.hid (by
        rw [width1] at hown
        rw [HSN.out, ← List.append_assoc]
        exact (OwnB.of hown (by simp only [List.length_append, be_length])).mono HG.out.size)
      have HV2 : Hid (Rd (fun _ => True) w2 v' (l ++ putP (L.take (k + 1)))) := Lib.hid HO2.out.rd
      clear hown hg hm
      go_wp2
      go_roundg g
      case measure => omega
      case rel => exact ⟨k + 1, _, HM.out, rfl, by first | rfl | (simp; done) | rw [HKW.out], HV2, Lib.hid (fun _ => HO2.out), HG2⟩
end Go.Proofs.YtmegdgeiikhflaaGreat.BA
