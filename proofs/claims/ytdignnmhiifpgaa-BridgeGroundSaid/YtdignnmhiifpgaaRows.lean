/-
  No cell of these rows narrows 'for every input' (looked for: loops, veiled, ifaces, maps, wideKeys, modest, calm, conditions, laid).
  DERIVED. THE GIVEN ROWS OF THIS SEAT. 5 by the template 'for every input the law returns true; each argument reads behind the call as it read before'; 0 by the template 'total and deterministic' (their statements: YtdignnmhiifpgaaTotals.lean).
  GIVEN WITH THE SEED: the statements are not yours to turn. If you find one false, say at which input.
  Laid BY PROGRAM, IN A SANDBOX (cutbox-rows.mjs): the forced cells as the released guide's own fill.sh prints them over the translation c35421f64a6384d4… (all of the seat's roots in one cut). By AI agents, Wed Nov 11 2026. No macro, syntax, notation, axiom, sorry.
-/
import Derived.Test.YtdignnmhiifpgaaChecked
import GoSem.Claim
import GoSem.ClaimJoined
import GoSem.ClaimMapViews
import Derived.JoinedTies
import Derived.KernelRfl
namespace Go.Proofs.Ytdignnmhiifpgaa
/- THE CELL 'sum', in the pinned program and in every row, IS THE sha256 OF THE DUMP (.gsa) THAT YtdignnmhiifpgaaProg.lean LOADS. Nothing in Lean hashes anything: it is a label: what it is worth is what the hold of that sum in a sandbox is worth. -/
noncomputable def Try.pinned : Pinned := { name := "ytdignnmhiifpgaa", sum := "c35421f64a6384d4f3cab4bea1dc1d5a369d1b7f9611ece8ec538d31559f2a26", checked := Try.checked }
namespace Rows
def none {H : Type} : Left H := { results := [], args := [] }

/-- 'goosenecklaw06.BridgeTrains': WHATEVER THE INPUT: true; the input reads as it did. -/
def bridgeTrainsSpec : ChangeSpec := { name := "bridgeTrains", fn := fun _ => fun
  | [d1, d2] => { results := [.lit (.bool true)], args := [d1, d2] }
  | _ => none }
def bridgeTrainsRow : OpenClaim := { program := "ytdignnmhiifpgaa", sum := "c35421f64a6384d4f3cab4bea1dc1d5a369d1b7f9611ece8ec538d31559f2a26", func := "gooseneck/goosenecklaw06.BridgeTrains", spec := "bridgeTrains", unfollowed := true, recurses := true, apart := false }
def BridgeTrainsSaid : Prop := bridgeTrainsRow.holds Try.pinned (OpenSpec.ofChange bridgeTrainsSpec)

/-- ITS FALSE NEIGHBOUR: 'it returns false'. Refute it at one input. -/
def bridgeTrainsWrong : ChangeSpec := { name := "bridgeTrains", fn := fun _ => fun
  | [d1, d2] => { results := [.lit (.bool false)], args := [d1, d2] }
  | _ => none }
def BridgeTrainsWrongFalsely : Prop := bridgeTrainsRow.holds Try.pinned (OpenSpec.ofChange bridgeTrainsWrong)

/-- 'goosenecklaw06.BridgeGround': WHATEVER THE INPUT: true; the input reads as it did. -/
def bridgeGroundSpec : ChangeSpec := { name := "bridgeGround", fn := fun _ => fun
  | [d1, d2, d3, d4, d5, d6] => { results := [.lit (.bool true)], args := [d1, d2, d3, d4, d5, d6] }
  | _ => none }
def bridgeGroundRow : OpenClaim := { program := "ytdignnmhiifpgaa", sum := "c35421f64a6384d4f3cab4bea1dc1d5a369d1b7f9611ece8ec538d31559f2a26", func := "gooseneck/goosenecklaw06.BridgeGround", spec := "bridgeGround", unfollowed := true, recurses := true, apart := false }
def BridgeGroundSaid : Prop := bridgeGroundRow.holds Try.pinned (OpenSpec.ofChange bridgeGroundSpec)

/-- ITS FALSE NEIGHBOUR: 'it returns false'. Refute it at one input. -/
def bridgeGroundWrong : ChangeSpec := { name := "bridgeGround", fn := fun _ => fun
  | [d1, d2, d3, d4, d5, d6] => { results := [.lit (.bool false)], args := [d1, d2, d3, d4, d5, d6] }
  | _ => none }
def BridgeGroundWrongFalsely : Prop := bridgeGroundRow.holds Try.pinned (OpenSpec.ofChange bridgeGroundWrong)

/-- 'goosenecklaw06.BridgeEvery': WHATEVER THE INPUT: true; the input reads as it did. -/
def bridgeEverySpec : ChangeSpec := { name := "bridgeEvery", fn := fun _ => fun
  | [d1, d2, d3, d4, d5, d6] => { results := [.lit (.bool true)], args := [d1, d2, d3, d4, d5, d6] }
  | _ => none }
def bridgeEveryRow : OpenClaim := { program := "ytdignnmhiifpgaa", sum := "c35421f64a6384d4f3cab4bea1dc1d5a369d1b7f9611ece8ec538d31559f2a26", func := "gooseneck/goosenecklaw06.BridgeEvery", spec := "bridgeEvery", unfollowed := true, recurses := true, apart := false }
def BridgeEverySaid : Prop := bridgeEveryRow.holds Try.pinned (OpenSpec.ofChange bridgeEverySpec)

/-- ITS FALSE NEIGHBOUR: 'it returns false'. Refute it at one input. -/
def bridgeEveryWrong : ChangeSpec := { name := "bridgeEvery", fn := fun _ => fun
  | [d1, d2, d3, d4, d5, d6] => { results := [.lit (.bool false)], args := [d1, d2, d3, d4, d5, d6] }
  | _ => none }
def BridgeEveryWrongFalsely : Prop := bridgeEveryRow.holds Try.pinned (OpenSpec.ofChange bridgeEveryWrong)

/-- 'goosenecklaw06.BridgeAdds': WHATEVER THE INPUT: true; the input reads as it did. -/
def bridgeAddsSpec : ChangeSpec := { name := "bridgeAdds", fn := fun _ => fun
  | [d1, d2, d3, d4, d5, d6] => { results := [.lit (.bool true)], args := [d1, d2, d3, d4, d5, d6] }
  | _ => none }
def bridgeAddsRow : OpenClaim := { program := "ytdignnmhiifpgaa", sum := "c35421f64a6384d4f3cab4bea1dc1d5a369d1b7f9611ece8ec538d31559f2a26", func := "gooseneck/goosenecklaw06.BridgeAdds", spec := "bridgeAdds", unfollowed := true, recurses := true, apart := false }
def BridgeAddsSaid : Prop := bridgeAddsRow.holds Try.pinned (OpenSpec.ofChange bridgeAddsSpec)

/-- ITS FALSE NEIGHBOUR: 'it returns false'. Refute it at one input. -/
def bridgeAddsWrong : ChangeSpec := { name := "bridgeAdds", fn := fun _ => fun
  | [d1, d2, d3, d4, d5, d6] => { results := [.lit (.bool false)], args := [d1, d2, d3, d4, d5, d6] }
  | _ => none }
def BridgeAddsWrongFalsely : Prop := bridgeAddsRow.holds Try.pinned (OpenSpec.ofChange bridgeAddsWrong)

/-- 'goosenecklaw06.BridgeMirrors': WHATEVER THE INPUT: true; the input reads as it did. -/
def bridgeMirrorsSpec : ChangeSpec := { name := "bridgeMirrors", fn := fun _ => fun
  | [d1, d2, d3] => { results := [.lit (.bool true)], args := [d1, d2, d3] }
  | _ => none }
def bridgeMirrorsRow : OpenClaim := { program := "ytdignnmhiifpgaa", sum := "c35421f64a6384d4f3cab4bea1dc1d5a369d1b7f9611ece8ec538d31559f2a26", func := "gooseneck/goosenecklaw06.BridgeMirrors", spec := "bridgeMirrors", unfollowed := true, recurses := true, apart := false }
def BridgeMirrorsSaid : Prop := bridgeMirrorsRow.holds Try.pinned (OpenSpec.ofChange bridgeMirrorsSpec)

/-- ITS FALSE NEIGHBOUR: 'it returns false'. Refute it at one input. -/
def bridgeMirrorsWrong : ChangeSpec := { name := "bridgeMirrors", fn := fun _ => fun
  | [d1, d2, d3] => { results := [.lit (.bool false)], args := [d1, d2, d3] }
  | _ => none }
def BridgeMirrorsWrongFalsely : Prop := bridgeMirrorsRow.holds Try.pinned (OpenSpec.ofChange bridgeMirrorsWrong)

/- THE SECOND FORM. 'bulk': how many values and letters a reading holds, each counted each time it is reached (what is shared counts as often as it is met; a slice's spare places count too). A statement '..UptoSaid' is the law's where the arguments, and the package variables that the reading takes, are together of bulk at most 1048576: NARROWER than '..Said'. Prove '..Said' where nothing that the law and all that it calls make is longer than what came in: it says more and counts as full. Else prove '..UptoSaid'. A law counts once. -/
mutual
def uptoBulk {H : Type} : DataW H → Nat
  | .lit (.string bytes) => bytes.length + 1
  | .lit _ => 1
  | .nil => 1
  | .ptr d => uptoBulk d + 1
  | .slice elems spare => uptoBulkAll elems + uptoBulkAll spare + 1
  | .agg parts => uptoBulkAll parts + 1
  | .iface _ d => uptoBulk d + 1
  | .map entries => uptoBulkEntries entries + 1
  | .held _ => 1
def uptoBulkAll {H : Type} : List (DataW H) → Nat
  | [] => 0
  | d :: r => uptoBulk d + uptoBulkAll r
def uptoBulkEntries {H : Type} : List (Lit × DataW H) → Nat
  | [] => 0
  | x :: r => uptoBulkEntry x + uptoBulkEntries r
def uptoBulkEntry {H : Type} : Lit × DataW H → Nat
  | (.string bytes, d) => bytes.length + uptoBulk d + 1
  | (_, d) => uptoBulk d + 1
 end
def uptoSmall : (H : Type) → List (DataW H) → Bool := fun _ ds => decide (uptoBulkAll ds ≤ 1048576)
def OpenSpec.upto (s : _root_.Go.ChangeSpec) : _root_.Go.OpenSpec := { _root_.Go.OpenSpec.ofChange s with cond := some uptoSmall }

/-- 'goosenecklaw06.BridgeTrains', WHERE WHAT IT READS IS OF BULK AT MOST 1048576: true; the input reads as it did. -/
def bridgeTrainsUptoRow : OpenClaim := { program := "ytdignnmhiifpgaa", sum := "c35421f64a6384d4f3cab4bea1dc1d5a369d1b7f9611ece8ec538d31559f2a26", func := "gooseneck/goosenecklaw06.BridgeTrains", spec := "bridgeTrains", unfollowed := true, recurses := true, apart := false, narrowed := true }
def BridgeTrainsUptoSaid : Prop := bridgeTrainsUptoRow.holds Try.pinned (OpenSpec.upto bridgeTrainsSpec)

/-- 'goosenecklaw06.BridgeGround', WHERE WHAT IT READS IS OF BULK AT MOST 1048576: true; the input reads as it did. -/
def bridgeGroundUptoRow : OpenClaim := { program := "ytdignnmhiifpgaa", sum := "c35421f64a6384d4f3cab4bea1dc1d5a369d1b7f9611ece8ec538d31559f2a26", func := "gooseneck/goosenecklaw06.BridgeGround", spec := "bridgeGround", unfollowed := true, recurses := true, apart := false, narrowed := true }
def BridgeGroundUptoSaid : Prop := bridgeGroundUptoRow.holds Try.pinned (OpenSpec.upto bridgeGroundSpec)

/-- 'goosenecklaw06.BridgeEvery', WHERE WHAT IT READS IS OF BULK AT MOST 1048576: true; the input reads as it did. -/
def bridgeEveryUptoRow : OpenClaim := { program := "ytdignnmhiifpgaa", sum := "c35421f64a6384d4f3cab4bea1dc1d5a369d1b7f9611ece8ec538d31559f2a26", func := "gooseneck/goosenecklaw06.BridgeEvery", spec := "bridgeEvery", unfollowed := true, recurses := true, apart := false, narrowed := true }
def BridgeEveryUptoSaid : Prop := bridgeEveryUptoRow.holds Try.pinned (OpenSpec.upto bridgeEverySpec)

/-- 'goosenecklaw06.BridgeAdds', WHERE WHAT IT READS IS OF BULK AT MOST 1048576: true; the input reads as it did. -/
def bridgeAddsUptoRow : OpenClaim := { program := "ytdignnmhiifpgaa", sum := "c35421f64a6384d4f3cab4bea1dc1d5a369d1b7f9611ece8ec538d31559f2a26", func := "gooseneck/goosenecklaw06.BridgeAdds", spec := "bridgeAdds", unfollowed := true, recurses := true, apart := false, narrowed := true }
def BridgeAddsUptoSaid : Prop := bridgeAddsUptoRow.holds Try.pinned (OpenSpec.upto bridgeAddsSpec)

/-- 'goosenecklaw06.BridgeMirrors', WHERE WHAT IT READS IS OF BULK AT MOST 1048576: true; the input reads as it did. -/
def bridgeMirrorsUptoRow : OpenClaim := { program := "ytdignnmhiifpgaa", sum := "c35421f64a6384d4f3cab4bea1dc1d5a369d1b7f9611ece8ec538d31559f2a26", func := "gooseneck/goosenecklaw06.BridgeMirrors", spec := "bridgeMirrors", unfollowed := true, recurses := true, apart := false, narrowed := true }
def BridgeMirrorsUptoSaid : Prop := bridgeMirrorsUptoRow.holds Try.pinned (OpenSpec.upto bridgeMirrorsSpec)

end Rows
end Go.Proofs.Ytdignnmhiifpgaa
