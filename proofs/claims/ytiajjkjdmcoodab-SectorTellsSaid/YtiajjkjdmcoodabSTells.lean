/-
  For any stamp, load and bytes: SectorTells answers true.
  Conditions: none beyond those that each lemma names.
-/
import Derived.Test.YtiajjkjdmcoodabSAlive
namespace Go.Proofs.Ytiajjkjdmcoodab.STells
set_option maxRecDepth 100000
open Go Go.RowKit Go.Proofs.Ytiajjkjdmcoodab Go.Proofs.Ytiajjkjdmcoodab.Facts Go.Proofs.Ytiajjkjdmcoodab.Bytes Go.Proofs.Ytiajjkjdmcoodab.Nums Go.Proofs.Ytiajjkjdmcoodab.SPure Go.Proofs.Ytiajjkjdmcoodab.SSeal Go.Proofs.Ytiajjkjdmcoodab.SOpen Go.Proofs.Ytiajjkjdmcoodab.SOpen2 Go.Proofs.Ytiajjkjdmcoodab.SAlive

theorem ropen_eq (S : Nat → Prop) (v : Value) (l : List UInt8) (n : Nat) (x : List UInt8) (y : Int) (w : World) (h : Rd S w v l) (hq : opened l = (n, x, y)) :
    Calls Try.prog 10 #[v] w fun e w' => ∃ v', e = .returned (.tuple #[.int .u64 (n : Int), v', .int .i64 y]) ∧ Rd (fun b => b < w'.heap.size) w' v' x ∧ Grew w w' := by
  have := ropen_any S v l w h
  rwa [hq] at this
theorem rseal_eq' (S : Nat → Prop) (v : Value) (load : List UInt8) (s : Nat) (x : List UInt8) (y : Int) (w : World) (h : Rd S w v load) (hq : sealing s load = (x, y)) :
    Calls Try.prog 8 #[.int .u64 s, v] w fun e w' => ∃ v', e = .returned (.tuple #[v', .int .i64 y]) ∧ Rd (fun b => w.heap.size ≤ b) w' v' x ∧ Grew w w' := by
  have := rseal_any S v load s w h
  rwa [hq] at this

set_option maxHeartbeats 2000000 in
theorem law_any (S : Nat → Prop) (v v' : Value) (s : Nat) (a b : List UInt8) (w : World) (ha : Rd S w v a) (hb : Rd S w v' b) :
    Calls Try.prog 3 #[.int .u64 s, v, v'] w fun e w' => e = .returned (.bool true) ∧ Grew w w' := by
  obtain ⟨A, ca, rfl, hac, ham, _⟩ := id ha
  obtain ⟨B, cb, rfl, hbc, hbm, _⟩ := id hb
  unfold maxLen at ham hbm
  have HA := Lib.hid ha
  have HB := Lib.hid hb
  clear ha hb
  by_cases h1 : (1000 : Int) < (a.length : Int)
  · go_enter Try.func3, Try.ntmps3
    go_wp2_with fail
    refine (alive_any _).mono ?_
    rintro e W1 ⟨rfl, g⟩
    go_wp2
    go_returns
    exact ⟨rfl, g⟩
  · by_cases h2 : (1000 : Int) < (b.length : Int)
    · go_enter Try.func3, Try.ntmps3
      go_wp2_with fail
      refine (alive_any _).mono ?_
      rintro e W1 ⟨rfl, g⟩
      go_wp2
      go_returns
      exact ⟨rfl, g⟩
    · obtain ⟨⟨x, y⟩, hq⟩ : ∃ q, sealing s a = q := ⟨_, rfl⟩
      obtain ⟨⟨n, l, z⟩, hr⟩ : ∃ q, opened b = q := ⟨_, rfl⟩
      have HQ := Lib.hid hq
      have HR := Lib.hid hr
      clear hq hr
      go_enter Try.func3, Try.ntmps3
      go_wp2_with fail
      refine (seal_eq _ _ a s _ _ w HA.out HQ.out).mono ?_
      rintro e w1 ⟨v1, rfl, d1, g1⟩
      have D1 := Lib.hid d1.lt
      have G1 := Lib.hid g1
      clear d1 g1
      go_wp2_with fail
      refine (rseal_eq' _ _ a s _ _ w1 (HA.out.grew G1.out) HQ.out).mono ?_
      rintro e w2 ⟨v2, rfl, d2, g2⟩
      have D1' := Lib.hid (D1.out.grew g2)
      have D2 := Lib.hid d2.lt
      have G2 := Lib.hid (G1.out.trans g2)
      clear d2 g2 D1 G1
      go_wp2_with fail
      refine (open_eq _ _ b _ _ _ w2 (HB.out.grew G2.out) HR.out).mono ?_
      rintro e w3 ⟨v3, rfl, d3, g3⟩
      have D1 := Lib.hid (D1'.out.grew g3)
      have D2' := Lib.hid (D2.out.grew g3)
      have D3 := Lib.hid d3.lt
      have G3 := Lib.hid (G2.out.trans g3)
      clear d3 g3 D1' D2 G2
      go_wp2_with fail
      refine (ropen_eq _ _ b _ _ _ w3 (HB.out.grew G3.out) HR.out).mono ?_
      rintro e w4 ⟨v4, rfl, d4, g4⟩
      have D1' := Lib.hid (D1.out.grew g4)
      have D2 := Lib.hid (D2'.out.grew g4)
      have D3' := Lib.hid (D3.out.grew g4)
      have D4 := Lib.hid d4
      have G4 := Lib.hid (G3.out.trans g4)
      clear d4 g4 D1 D2' D3 G3
      go_wp2_with fail
      refine (alive_any _).mono ?_
      rintro e w5 ⟨rfl, g5⟩
      have c1 := conv22 (D1'.out.grew g5)
      have c2 := conv22 (D2.out.grew g5)
      have c3 := conv22 (D3'.out.grew g5)
      have c4 := conv22 (D4.out.grew g5)
      have G5 := Lib.hid (G4.out.trans g5)
      clear g5
      go_wp2
      go_returns
      exact ⟨rfl, G5.out⟩
end Go.Proofs.Ytiajjkjdmcoodab.STells
