/-
  The guilds of a label, as the program tells them.
  Conditions: the accounts' texts' sizes.
-/
import Derived.Test.YtahlheopdneebaaGreatHB
namespace Go.Proofs.YtahlheopdneebaaGreat.HG
set_option maxRecDepth 100000
open Go Go.RowKit Go.Lib Go.Proofs.YtahlheopdneebaaGreat Go.Proofs.YtahlheopdneebaaGreat.Facts Go.Proofs.YtahlheopdneebaaGreat.Plain Go.Proofs.YtahlheopdneebaaGreat.Ints Go.Proofs.YtahlheopdneebaaGreat.RRows Go.Proofs.YtahlheopdneebaaGreat.LBox Go.Proofs.YtahlheopdneebaaGreat.RSmall Go.Proofs.YtahlheopdneebaaGreat.RFind Go.Proofs.YtahlheopdneebaaGreat.RAll Go.Proofs.YtahlheopdneebaaGreat.RRules Go.Proofs.YtahlheopdneebaaGreat.RRule3 Go.Proofs.YtahlheopdneebaaGreat.RRight Go.Proofs.YtahlheopdneebaaGreat.HA Go.Proofs.YtahlheopdneebaaGreat.HB

def gu (r : Re) (k : Nat) : Gu := (r.guilds[k]?).getD ⟨-1, 0⟩
theorem gu_get {r : Re} {k : Nat} (h : k < r.guilds.length) : r.guilds[k]? = some (gu r k) := by
  unfold gu
  rw [List.getElem?_eq_getElem h, Option.getD_some]
/-- Has the label the guild's compartment? -/
def under (r : Re) (i k : Nat) : Bool := le 0 (bitOf (gu r k).bit) (RRule1.lat r.labels i).lev (RRule1.lat r.labels i).set
def gl (r : Re) (i n : Nat) : List Int := ((List.range n).filter (under r i)).map fun k : Nat => (k : Int)
theorem gl_yes {r : Re} {i k : Nat} (h : under r i k = true) : gl r i (k + 1) = gl r i k ++ [(k : Int)] := by
  unfold gl
  rw [List.range_succ, List.filter_append, List.map_append]
  simp [h]
theorem gl_no {r : Re} {i k : Nat} (h : under r i k = false) : gl r i (k + 1) = gl r i k := by
  unfold gl
  rw [List.range_succ, List.filter_append, List.map_append]
  simp [h]
theorem gl_len (r : Re) (i k : Nat) : (gl r i k).length ≤ k := by
  unfold gl
  rw [List.length_map]
  exact Nat.le_trans (List.length_filter_le _ _) (by simp)
theorem gl_mem {r : Re} {i n : Nat} {x : Int} : x ∈ gl r i n ↔ ∃ k, k < n ∧ under r i k = true ∧ x = (k : Int) := by
  unfold gl
  simp only [List.mem_map, List.mem_filter, List.mem_range]
  constructor
  · rintro ⟨k, ⟨h1, h2⟩, rfl⟩
    exact ⟨k, h1, h2, rfl⟩
  · rintro ⟨k, h1, h2, rfl⟩
    exact ⟨k, ⟨h1, h2⟩, rfl⟩
def guildsOf (r : Re) (i : Int) : List Int := if mayBe r = true then (if inn r.labels.length i = true then gl r i.toNat r.guilds.length else []) else []
theorem own_grew {W W' : World} {base : Nat} {v : Value} {n : Nat} {xs : List Value} (h : W.ownsRow base 3 1 v n xs) (hg : Grew W W') : W'.ownsRow base 3 1 v n xs := by
  refine ⟨h.1, h.2.imp id fun ⟨g, cap, cur, h1, h2, h3, h4⟩ => ⟨g, cap, cur, h1, h2, ?_, h4⟩⟩
  exact keepB h3 hg
theorem is_nil (w : World) : Is w (.slice none 0 0) [] := ⟨none, 0, rfl, Nat.le_refl _, Nat.zero_le _, fun _ => rfl, fun ad ha => by cases ha⟩
end Go.Proofs.YtahlheopdneebaaGreat.HG
