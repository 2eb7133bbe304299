/-
  The guild of a hall, and the guilds of a label, as the program tells them; whether a test holds of a number among some.
  Conditions: the accounts' texts' sizes; a test's own contract.
-/
import Derived.Test.YtahlheopdneebaaGreatHA
namespace Go.Proofs.YtahlheopdneebaaGreat.HB
set_option maxRecDepth 100000
open Go Go.RowKit Go.Lib Go.Proofs.YtahlheopdneebaaGreat Go.Proofs.YtahlheopdneebaaGreat.Facts Go.Proofs.YtahlheopdneebaaGreat.Plain Go.Proofs.YtahlheopdneebaaGreat.Ints Go.Proofs.YtahlheopdneebaaGreat.RRows Go.Proofs.YtahlheopdneebaaGreat.LBox Go.Proofs.YtahlheopdneebaaGreat.RSmall Go.Proofs.YtahlheopdneebaaGreat.RFind Go.Proofs.YtahlheopdneebaaGreat.RAll Go.Proofs.YtahlheopdneebaaGreat.RRules Go.Proofs.YtahlheopdneebaaGreat.RRule3 Go.Proofs.YtahlheopdneebaaGreat.RRight Go.Proofs.YtahlheopdneebaaGreat.HA

theorem eql31 (b : BitVec 64) (l : Int) (s : BitVec 64) : ((0 : Int) == l && ((b.toNat : Int) == (s.toNat : Int))) = decide ((⟨0, b⟩ : La) = ⟨l, s⟩) := by
  have e : ((b.toNat : Int) == (s.toNat : Int)) = decide (b = s) := by
    rw [Bool.eq_iff_iff]
    simp only [beq_iff_eq, decide_eq_true_eq]
    constructor
    · intro h
      exact BitVec.eq_of_toNat_eq (by omega)
    · rintro rfl
      rfl
  rw [e, Bool.eq_iff_iff]
  simp only [Bool.and_eq_true, beq_iff_eq, decide_eq_true_eq, La.mk.injEq]

def guildOf (r : Re) (i : Int) : Int := if mayBe r = true then (if inn r.labels.length i = true then fidx r.guilds (fun x => decide ((⟨0, bitOf x.bit⟩ : La) = RRule1.lat r.labels i.toNat)) else -1) else -1
end Go.Proofs.YtahlheopdneebaaGreat.HB
