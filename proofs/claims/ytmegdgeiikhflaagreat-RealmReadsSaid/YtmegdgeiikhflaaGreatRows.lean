/-
  No cell of these rows narrows 'for every input' (looked for: loops, veiled, ifaces, maps, wideKeys, modest, calm, conditions, laid).
  DERIVED. THE GIVEN ROWS OF THIS SEAT. 8 by the template 'for every input the law returns true; each argument reads behind the call as it read before'; 0 by the template 'total and deterministic' (their statements: YtmegdgeiikhflaaGreatTotals.lean).
  GIVEN WITH THE SEED: the statements are not yours to turn. If you find one false, say at which input.
  Laid BY PROGRAM, IN A SANDBOX (cutbox-rows.mjs): the forced cells as the released guide's own fill.sh prints them over the translation 5ad9af1351aae94f… (all of the seat's roots in one cut). By AI agents, Wed Nov 11 2026. No macro, syntax, notation, axiom, sorry.
-/
import Derived.Test.YtmegdgeiikhflaaGreatChecked
import GoSem.Claim
import GoSem.ClaimJoined
import GoSem.ClaimMapViews
import Derived.JoinedTies
import Derived.KernelRfl
namespace Go.Proofs.YtmegdgeiikhflaaGreat
/- THE CELL 'sum', in the pinned program and in every row, IS THE sha256 OF THE DUMP (.gsa) THAT YtmegdgeiikhflaaGreatProg.lean LOADS. Nothing in Lean hashes anything: it is a label: what it is worth is what the hold of that sum in a sandbox is worth. -/
noncomputable def Tryz.pinned : Pinned := { name := "ytmegdgeiikhflaagreat", sum := "5ad9af1351aae94fa610163a85b69a840c4d52defe842acb1de0539a51c65df8", checked := Tryz.checked }
namespace Rows
def none {H : Type} : Left H := { results := [], args := [] }

/-- 'rialtolaw05.RealmTells': WHATEVER THE INPUT: true; the input reads as it did. -/
def realmTellsSpec : ChangeSpec := { name := "realmTells", fn := fun _ => fun
  | [d1, d2, d3, d4, d5] => { results := [.lit (.bool true)], args := [d1, d2, d3, d4, d5] }
  | _ => none }
def realmTellsRow : OpenClaim := { program := "ytmegdgeiikhflaagreat", sum := "5ad9af1351aae94fa610163a85b69a840c4d52defe842acb1de0539a51c65df8", func := "rialto/rialtolaw05.RealmTells", spec := "realmTells", unfollowed := true, recurses := true, apart := false }
def RealmTellsSaid : Prop := realmTellsRow.holds Tryz.pinned (OpenSpec.ofChange realmTellsSpec)

/-- ITS FALSE NEIGHBOUR: 'it returns false'. Refute it at one input. -/
def realmTellsWrong : ChangeSpec := { name := "realmTells", fn := fun _ => fun
  | [d1, d2, d3, d4, d5] => { results := [.lit (.bool false)], args := [d1, d2, d3, d4, d5] }
  | _ => none }
def RealmTellsWrongFalsely : Prop := realmTellsRow.holds Tryz.pinned (OpenSpec.ofChange realmTellsWrong)

/-- 'rialtolaw05.RealmReads': WHATEVER THE INPUT: true; the input reads as it did. -/
def realmReadsSpec : ChangeSpec := { name := "realmReads", fn := fun _ => fun
  | [d1, d2] => { results := [.lit (.bool true)], args := [d1, d2] }
  | _ => none }
def realmReadsRow : OpenClaim := { program := "ytmegdgeiikhflaagreat", sum := "5ad9af1351aae94fa610163a85b69a840c4d52defe842acb1de0539a51c65df8", func := "rialto/rialtolaw05.RealmReads", spec := "realmReads", unfollowed := true, recurses := true, apart := false }
def RealmReadsSaid : Prop := realmReadsRow.holds Tryz.pinned (OpenSpec.ofChange realmReadsSpec)

/-- ITS FALSE NEIGHBOUR: 'it returns false'. Refute it at one input. -/
def realmReadsWrong : ChangeSpec := { name := "realmReads", fn := fun _ => fun
  | [d1, d2] => { results := [.lit (.bool false)], args := [d1, d2] }
  | _ => none }
def RealmReadsWrongFalsely : Prop := realmReadsRow.holds Tryz.pinned (OpenSpec.ofChange realmReadsWrong)

/-- 'rialtolaw05.RealmBack': WHATEVER THE INPUT: true; the input reads as it did. -/
def realmBackSpec : ChangeSpec := { name := "realmBack", fn := fun _ => fun
  | [d1, d2, d3] => { results := [.lit (.bool true)], args := [d1, d2, d3] }
  | _ => none }
def realmBackRow : OpenClaim := { program := "ytmegdgeiikhflaagreat", sum := "5ad9af1351aae94fa610163a85b69a840c4d52defe842acb1de0539a51c65df8", func := "rialto/rialtolaw05.RealmBack", spec := "realmBack", unfollowed := true, recurses := true, apart := false }
def RealmBackSaid : Prop := realmBackRow.holds Tryz.pinned (OpenSpec.ofChange realmBackSpec)

/-- ITS FALSE NEIGHBOUR: 'it returns false'. Refute it at one input. -/
def realmBackWrong : ChangeSpec := { name := "realmBack", fn := fun _ => fun
  | [d1, d2, d3] => { results := [.lit (.bool false)], args := [d1, d2, d3] }
  | _ => none }
def RealmBackWrongFalsely : Prop := realmBackRow.holds Tryz.pinned (OpenSpec.ofChange realmBackWrong)

/-- 'rialtolaw05.RealmHalls': WHATEVER THE INPUT: true; the input reads as it did. -/
def realmHallsSpec : ChangeSpec := { name := "realmHalls", fn := fun _ => fun
  | [d1, d2, d3] => { results := [.lit (.bool true)], args := [d1, d2, d3] }
  | _ => none }
def realmHallsRow : OpenClaim := { program := "ytmegdgeiikhflaagreat", sum := "5ad9af1351aae94fa610163a85b69a840c4d52defe842acb1de0539a51c65df8", func := "rialto/rialtolaw05.RealmHalls", spec := "realmHalls", unfollowed := true, recurses := true, apart := false }
def RealmHallsSaid : Prop := realmHallsRow.holds Tryz.pinned (OpenSpec.ofChange realmHallsSpec)

/-- ITS FALSE NEIGHBOUR: 'it returns false'. Refute it at one input. -/
def realmHallsWrong : ChangeSpec := { name := "realmHalls", fn := fun _ => fun
  | [d1, d2, d3] => { results := [.lit (.bool false)], args := [d1, d2, d3] }
  | _ => none }
def RealmHallsWrongFalsely : Prop := realmHallsRow.holds Tryz.pinned (OpenSpec.ofChange realmHallsWrong)

/-- 'rialtolaw14.HallTells': WHATEVER THE INPUT: true; the input reads as it did. -/
def hallTellsSpec : ChangeSpec := { name := "hallTells", fn := fun _ => fun
  | [d1, d2, d3, d4, d5] => { results := [.lit (.bool true)], args := [d1, d2, d3, d4, d5] }
  | _ => none }
def hallTellsRow : OpenClaim := { program := "ytmegdgeiikhflaagreat", sum := "5ad9af1351aae94fa610163a85b69a840c4d52defe842acb1de0539a51c65df8", func := "rialto/rialtolaw14.HallTells", spec := "hallTells", unfollowed := true, recurses := true, apart := false }
def HallTellsSaid : Prop := hallTellsRow.holds Tryz.pinned (OpenSpec.ofChange hallTellsSpec)

/-- ITS FALSE NEIGHBOUR: 'it returns false'. Refute it at one input. -/
def hallTellsWrong : ChangeSpec := { name := "hallTells", fn := fun _ => fun
  | [d1, d2, d3, d4, d5] => { results := [.lit (.bool false)], args := [d1, d2, d3, d4, d5] }
  | _ => none }
def HallTellsWrongFalsely : Prop := hallTellsRow.holds Tryz.pinned (OpenSpec.ofChange hallTellsWrong)

/-- 'rialtolaw14.HallActs': WHATEVER THE INPUT: true; the input reads as it did. -/
def hallActsSpec : ChangeSpec := { name := "hallActs", fn := fun _ => fun
  | [d1, d2, d3, d4, d5] => { results := [.lit (.bool true)], args := [d1, d2, d3, d4, d5] }
  | _ => none }
def hallActsRow : OpenClaim := { program := "ytmegdgeiikhflaagreat", sum := "5ad9af1351aae94fa610163a85b69a840c4d52defe842acb1de0539a51c65df8", func := "rialto/rialtolaw14.HallActs", spec := "hallActs", unfollowed := true, recurses := true, apart := false }
def HallActsSaid : Prop := hallActsRow.holds Tryz.pinned (OpenSpec.ofChange hallActsSpec)

/-- ITS FALSE NEIGHBOUR: 'it returns false'. Refute it at one input. -/
def hallActsWrong : ChangeSpec := { name := "hallActs", fn := fun _ => fun
  | [d1, d2, d3, d4, d5] => { results := [.lit (.bool false)], args := [d1, d2, d3, d4, d5] }
  | _ => none }
def HallActsWrongFalsely : Prop := hallActsRow.holds Tryz.pinned (OpenSpec.ofChange hallActsWrong)

/-- 'rialtolaw14.HallMay': WHATEVER THE INPUT: true; the input reads as it did. -/
def hallMaySpec : ChangeSpec := { name := "hallMay", fn := fun _ => fun
  | [d1, d2] => { results := [.lit (.bool true)], args := [d1, d2] }
  | _ => none }
def hallMayRow : OpenClaim := { program := "ytmegdgeiikhflaagreat", sum := "5ad9af1351aae94fa610163a85b69a840c4d52defe842acb1de0539a51c65df8", func := "rialto/rialtolaw14.HallMay", spec := "hallMay", unfollowed := true, recurses := true, apart := false }
def HallMaySaid : Prop := hallMayRow.holds Tryz.pinned (OpenSpec.ofChange hallMaySpec)

/-- ITS FALSE NEIGHBOUR: 'it returns false'. Refute it at one input. -/
def hallMayWrong : ChangeSpec := { name := "hallMay", fn := fun _ => fun
  | [d1, d2] => { results := [.lit (.bool false)], args := [d1, d2] }
  | _ => none }
def HallMayWrongFalsely : Prop := hallMayRow.holds Tryz.pinned (OpenSpec.ofChange hallMayWrong)

/-- 'rialtolaw14.HallBelow': WHATEVER THE INPUT: true; the input reads as it did. -/
def hallBelowSpec : ChangeSpec := { name := "hallBelow", fn := fun _ => fun
  | [d1, d2, d3, d4, d5] => { results := [.lit (.bool true)], args := [d1, d2, d3, d4, d5] }
  | _ => none }
def hallBelowRow : OpenClaim := { program := "ytmegdgeiikhflaagreat", sum := "5ad9af1351aae94fa610163a85b69a840c4d52defe842acb1de0539a51c65df8", func := "rialto/rialtolaw14.HallBelow", spec := "hallBelow", unfollowed := true, recurses := true, apart := false }
def HallBelowSaid : Prop := hallBelowRow.holds Tryz.pinned (OpenSpec.ofChange hallBelowSpec)

/-- ITS FALSE NEIGHBOUR: 'it returns false'. Refute it at one input. -/
def hallBelowWrong : ChangeSpec := { name := "hallBelow", fn := fun _ => fun
  | [d1, d2, d3, d4, d5] => { results := [.lit (.bool false)], args := [d1, d2, d3, d4, d5] }
  | _ => none }
def HallBelowWrongFalsely : Prop := hallBelowRow.holds Tryz.pinned (OpenSpec.ofChange hallBelowWrong)

/- THE SECOND FORM. 'bulk': how many values and letters a reading holds, each counted each time it is reached (what is shared counts as often as it is met; a slice's spare places count too). A statement '..UptoSaid' is the law's where the arguments, and the package variables that the reading takes, are together of bulk at most 1048576: NARROWER than '..Said'. Prove '..Said' where nothing that the law and all that it calls make is longer than what came in: it says more and counts as full. Else prove '..UptoSaid'. A law counts once. -/
mutual
def uptoBulk {H : Type} : DataW H → Nat
  | .lit (.string bytes) => bytes.length + 1
  | .lit _ => 1
  | .nil => 1
  | .ptr d => uptoBulk d + 1
  | .slice elems spare => uptoBulkAll elems + uptoBulkAll spare + 1
  | .agg parts => uptoBulkAll parts + 1
  | .iface _ d => uptoBulk d + 1
  | .map entries => uptoBulkEntries entries + 1
  | .held _ => 1
def uptoBulkAll {H : Type} : List (DataW H) → Nat
  | [] => 0
  | d :: r => uptoBulk d + uptoBulkAll r
def uptoBulkEntries {H : Type} : List (Lit × DataW H) → Nat
  | [] => 0
  | x :: r => uptoBulkEntry x + uptoBulkEntries r
def uptoBulkEntry {H : Type} : Lit × DataW H → Nat
  | (.string bytes, d) => bytes.length + uptoBulk d + 1
  | (_, d) => uptoBulk d + 1
 end
def uptoSmall : (H : Type) → List (DataW H) → Bool := fun _ ds => decide (uptoBulkAll ds ≤ 1048576)
def OpenSpec.upto (s : _root_.Go.ChangeSpec) : _root_.Go.OpenSpec := { _root_.Go.OpenSpec.ofChange s with cond := some uptoSmall }

/-- 'rialtolaw05.RealmTells', WHERE WHAT IT READS IS OF BULK AT MOST 1048576: true; the input reads as it did. -/
def realmTellsUptoRow : OpenClaim := { program := "ytmegdgeiikhflaagreat", sum := "5ad9af1351aae94fa610163a85b69a840c4d52defe842acb1de0539a51c65df8", func := "rialto/rialtolaw05.RealmTells", spec := "realmTells", unfollowed := true, recurses := true, apart := false, narrowed := true }
def RealmTellsUptoSaid : Prop := realmTellsUptoRow.holds Tryz.pinned (OpenSpec.upto realmTellsSpec)

/-- 'rialtolaw05.RealmReads', WHERE WHAT IT READS IS OF BULK AT MOST 1048576: true; the input reads as it did. -/
def realmReadsUptoRow : OpenClaim := { program := "ytmegdgeiikhflaagreat", sum := "5ad9af1351aae94fa610163a85b69a840c4d52defe842acb1de0539a51c65df8", func := "rialto/rialtolaw05.RealmReads", spec := "realmReads", unfollowed := true, recurses := true, apart := false, narrowed := true }
def RealmReadsUptoSaid : Prop := realmReadsUptoRow.holds Tryz.pinned (OpenSpec.upto realmReadsSpec)

/-- 'rialtolaw05.RealmBack', WHERE WHAT IT READS IS OF BULK AT MOST 1048576: true; the input reads as it did. -/
def realmBackUptoRow : OpenClaim := { program := "ytmegdgeiikhflaagreat", sum := "5ad9af1351aae94fa610163a85b69a840c4d52defe842acb1de0539a51c65df8", func := "rialto/rialtolaw05.RealmBack", spec := "realmBack", unfollowed := true, recurses := true, apart := false, narrowed := true }
def RealmBackUptoSaid : Prop := realmBackUptoRow.holds Tryz.pinned (OpenSpec.upto realmBackSpec)

/-- 'rialtolaw05.RealmHalls', WHERE WHAT IT READS IS OF BULK AT MOST 1048576: true; the input reads as it did. -/
def realmHallsUptoRow : OpenClaim := { program := "ytmegdgeiikhflaagreat", sum := "5ad9af1351aae94fa610163a85b69a840c4d52defe842acb1de0539a51c65df8", func := "rialto/rialtolaw05.RealmHalls", spec := "realmHalls", unfollowed := true, recurses := true, apart := false, narrowed := true }
def RealmHallsUptoSaid : Prop := realmHallsUptoRow.holds Tryz.pinned (OpenSpec.upto realmHallsSpec)

/-- 'rialtolaw14.HallTells', WHERE WHAT IT READS IS OF BULK AT MOST 1048576: true; the input reads as it did. -/
def hallTellsUptoRow : OpenClaim := { program := "ytmegdgeiikhflaagreat", sum := "5ad9af1351aae94fa610163a85b69a840c4d52defe842acb1de0539a51c65df8", func := "rialto/rialtolaw14.HallTells", spec := "hallTells", unfollowed := true, recurses := true, apart := false, narrowed := true }
def HallTellsUptoSaid : Prop := hallTellsUptoRow.holds Tryz.pinned (OpenSpec.upto hallTellsSpec)

/-- 'rialtolaw14.HallActs', WHERE WHAT IT READS IS OF BULK AT MOST 1048576: true; the input reads as it did. -/
def hallActsUptoRow : OpenClaim := { program := "ytmegdgeiikhflaagreat", sum := "5ad9af1351aae94fa610163a85b69a840c4d52defe842acb1de0539a51c65df8", func := "rialto/rialtolaw14.HallActs", spec := "hallActs", unfollowed := true, recurses := true, apart := false, narrowed := true }
def HallActsUptoSaid : Prop := hallActsUptoRow.holds Tryz.pinned (OpenSpec.upto hallActsSpec)

/-- 'rialtolaw14.HallMay', WHERE WHAT IT READS IS OF BULK AT MOST 1048576: true; the input reads as it did. -/
def hallMayUptoRow : OpenClaim := { program := "ytmegdgeiikhflaagreat", sum := "5ad9af1351aae94fa610163a85b69a840c4d52defe842acb1de0539a51c65df8", func := "rialto/rialtolaw14.HallMay", spec := "hallMay", unfollowed := true, recurses := true, apart := false, narrowed := true }
def HallMayUptoSaid : Prop := hallMayUptoRow.holds Tryz.pinned (OpenSpec.upto hallMaySpec)

/-- 'rialtolaw14.HallBelow', WHERE WHAT IT READS IS OF BULK AT MOST 1048576: true; the input reads as it did. -/
def hallBelowUptoRow : OpenClaim := { program := "ytmegdgeiikhflaagreat", sum := "5ad9af1351aae94fa610163a85b69a840c4d52defe842acb1de0539a51c65df8", func := "rialto/rialtolaw14.HallBelow", spec := "hallBelow", unfollowed := true, recurses := true, apart := false, narrowed := true }
def HallBelowUptoSaid : Prop := hallBelowUptoRow.holds Tryz.pinned (OpenSpec.upto hallBelowSpec)

end Rows
end Go.Proofs.YtmegdgeiikhflaaGreat
