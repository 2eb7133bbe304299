/-
  Whether one label of a realm is at or below another one, as the program tells it.
  Conditions: the accounts' texts' sizes.
-/
import Derived.Test.YtahlheopdneebaaGreatRRight
namespace Go.Proofs.YtahlheopdneebaaGreat.HA
set_option maxRecDepth 100000
open Go Go.RowKit Go.Lib Go.Proofs.YtahlheopdneebaaGreat Go.Proofs.YtahlheopdneebaaGreat.Facts Go.Proofs.YtahlheopdneebaaGreat.Plain Go.Proofs.YtahlheopdneebaaGreat.Ints Go.Proofs.YtahlheopdneebaaGreat.RRows Go.Proofs.YtahlheopdneebaaGreat.LBox Go.Proofs.YtahlheopdneebaaGreat.RSmall Go.Proofs.YtahlheopdneebaaGreat.RFind Go.Proofs.YtahlheopdneebaaGreat.RAll Go.Proofs.YtahlheopdneebaaGreat.RRules Go.Proofs.YtahlheopdneebaaGreat.RRule3 Go.Proofs.YtahlheopdneebaaGreat.RRight

def leqR (r : Re) (i j : Int) : Bool := mayBe r && (inn r.labels.length i && (inn r.labels.length j && le (RRule1.lat r.labels i.toNat).lev (RRule1.lat r.labels i.toNat).set (RRule1.lat r.labels j.toNat).lev (RRule1.lat r.labels j.toNat).set))
end Go.Proofs.YtahlheopdneebaaGreat.HA
