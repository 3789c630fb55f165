/-
  No cell of these rows narrows 'for every input' (looked for: loops, veiled, ifaces, maps, wideKeys, modest, calm, conditions, laid).
  DERIVED. THE GIVEN ROWS OF THIS SEAT. 5 by the template 'for every input the law returns true; each argument reads behind the call as it read before'; 0 by the template 'total and deterministic' (their statements: YtgfehjhngmabeaaTotals.lean).
  GIVEN WITH THE SEED: the statements are not yours to turn. If you find one false, say at which input.
  Laid BY PROGRAM, IN A SANDBOX (cutbox-rows.mjs): the forced cells as the released guide's own fill.sh prints them over the translation 0a82b5c474ea8160… (all of the seat's roots in one cut). By AI agents, Wed Nov 11 2026. No macro, syntax, notation, axiom, sorry.
-/
import Derived.Test.YtgfehjhngmabeaaChecked
import GoSem.Claim
import GoSem.ClaimJoined
import GoSem.ClaimMapViews
import Derived.JoinedTies
import Derived.KernelRfl
namespace Go.Proofs.Ytgfehjhngmabeaa
/- THE CELL 'sum', in the pinned program and in every row, IS THE sha256 OF THE DUMP (.gsa) THAT YtgfehjhngmabeaaProg.lean LOADS. Nothing in Lean hashes anything: it is a label: what it is worth is what the hold of that sum in a sandbox is worth. -/
noncomputable def Try.pinned : Pinned := { name := "ytgfehjhngmabeaa", sum := "0a82b5c474ea8160147d958cfa98771b79d45c38402d1ad0ede6359eaf741188", checked := Try.checked }
namespace Rows
def none {H : Type} : Left H := { results := [], args := [] }

/-- 'goosenecklaw02.LoadCentres': WHATEVER THE INPUT: true; the input reads as it did. -/
def loadCentresSpec : ChangeSpec := { name := "loadCentres", fn := fun _ => fun
  | [d1, d2, d3, d4, d5] => { results := [.lit (.bool true)], args := [d1, d2, d3, d4, d5] }
  | _ => none }
def loadCentresRow : OpenClaim := { program := "ytgfehjhngmabeaa", sum := "0a82b5c474ea8160147d958cfa98771b79d45c38402d1ad0ede6359eaf741188", func := "gooseneck/goosenecklaw02.LoadCentres", spec := "loadCentres", unfollowed := true, recurses := true, apart := false }
def LoadCentresSaid : Prop := loadCentresRow.holds Try.pinned (OpenSpec.ofChange loadCentresSpec)

/-- ITS FALSE NEIGHBOUR: 'it returns false'. Refute it at one input. -/
def loadCentresWrong : ChangeSpec := { name := "loadCentres", fn := fun _ => fun
  | [d1, d2, d3, d4, d5] => { results := [.lit (.bool false)], args := [d1, d2, d3, d4, d5] }
  | _ => none }
def LoadCentresWrongFalsely : Prop := loadCentresRow.holds Try.pinned (OpenSpec.ofChange loadCentresWrong)

/-- 'goosenecklaw04.StaticsAxles': WHATEVER THE INPUT: true; the input reads as it did. -/
def staticsAxlesSpec : ChangeSpec := { name := "staticsAxles", fn := fun _ => fun
  | [d1, d2, d3, d4, d5] => { results := [.lit (.bool true)], args := [d1, d2, d3, d4, d5] }
  | _ => none }
def staticsAxlesRow : OpenClaim := { program := "ytgfehjhngmabeaa", sum := "0a82b5c474ea8160147d958cfa98771b79d45c38402d1ad0ede6359eaf741188", func := "gooseneck/goosenecklaw04.StaticsAxles", spec := "staticsAxles", unfollowed := true, recurses := true, named := ["math/bits.divideError", "math/bits.overflowError"], apart := false }
def StaticsAxlesSaid : Prop := staticsAxlesRow.holds Try.pinned (OpenSpec.ofChange staticsAxlesSpec)

/-- ITS FALSE NEIGHBOUR: 'it returns false'. Refute it at one input. -/
def staticsAxlesWrong : ChangeSpec := { name := "staticsAxles", fn := fun _ => fun
  | [d1, d2, d3, d4, d5] => { results := [.lit (.bool false)], args := [d1, d2, d3, d4, d5] }
  | _ => none }
def StaticsAxlesWrongFalsely : Prop := staticsAxlesRow.holds Try.pinned (OpenSpec.ofChange staticsAxlesWrong)

/-- 'goosenecklaw04.StaticsStands': WHATEVER THE INPUT: true; the input reads as it did. -/
def staticsStandsSpec : ChangeSpec := { name := "staticsStands", fn := fun _ => fun
  | [d1, d2, d3, d4] => { results := [.lit (.bool true)], args := [d1, d2, d3, d4] }
  | _ => none }
def staticsStandsRow : OpenClaim := { program := "ytgfehjhngmabeaa", sum := "0a82b5c474ea8160147d958cfa98771b79d45c38402d1ad0ede6359eaf741188", func := "gooseneck/goosenecklaw04.StaticsStands", spec := "staticsStands", unfollowed := true, recurses := true, named := ["math/bits.divideError", "math/bits.overflowError"], apart := false }
def StaticsStandsSaid : Prop := staticsStandsRow.holds Try.pinned (OpenSpec.ofChange staticsStandsSpec)

/-- ITS FALSE NEIGHBOUR: 'it returns false'. Refute it at one input. -/
def staticsStandsWrong : ChangeSpec := { name := "staticsStands", fn := fun _ => fun
  | [d1, d2, d3, d4] => { results := [.lit (.bool false)], args := [d1, d2, d3, d4] }
  | _ => none }
def StaticsStandsWrongFalsely : Prop := staticsStandsRow.holds Try.pinned (OpenSpec.ofChange staticsStandsWrong)

/-- 'goosenecklaw04.StaticsDivides': WHATEVER THE INPUT: true; the input reads as it did. -/
def staticsDividesSpec : ChangeSpec := { name := "staticsDivides", fn := fun _ => fun
  | [d1, d2, d3] => { results := [.lit (.bool true)], args := [d1, d2, d3] }
  | _ => none }
def staticsDividesRow : OpenClaim := { program := "ytgfehjhngmabeaa", sum := "0a82b5c474ea8160147d958cfa98771b79d45c38402d1ad0ede6359eaf741188", func := "gooseneck/goosenecklaw04.StaticsDivides", spec := "staticsDivides", unfollowed := true, recurses := true, named := ["math/bits.divideError", "math/bits.overflowError"], apart := false }
def StaticsDividesSaid : Prop := staticsDividesRow.holds Try.pinned (OpenSpec.ofChange staticsDividesSpec)

/-- ITS FALSE NEIGHBOUR: 'it returns false'. Refute it at one input. -/
def staticsDividesWrong : ChangeSpec := { name := "staticsDivides", fn := fun _ => fun
  | [d1, d2, d3] => { results := [.lit (.bool false)], args := [d1, d2, d3] }
  | _ => none }
def StaticsDividesWrongFalsely : Prop := staticsDividesRow.holds Try.pinned (OpenSpec.ofChange staticsDividesWrong)

/-- 'goosenecklaw04.StaticsLeast': WHATEVER THE INPUT: true; the input reads as it did. -/
def staticsLeastSpec : ChangeSpec := { name := "staticsLeast", fn := fun _ => fun
  | [d1, d2, d3] => { results := [.lit (.bool true)], args := [d1, d2, d3] }
  | _ => none }
def staticsLeastRow : OpenClaim := { program := "ytgfehjhngmabeaa", sum := "0a82b5c474ea8160147d958cfa98771b79d45c38402d1ad0ede6359eaf741188", func := "gooseneck/goosenecklaw04.StaticsLeast", spec := "staticsLeast", unfollowed := true, recurses := true, named := ["math/bits.divideError", "math/bits.overflowError"], apart := false }
def StaticsLeastSaid : Prop := staticsLeastRow.holds Try.pinned (OpenSpec.ofChange staticsLeastSpec)

/-- ITS FALSE NEIGHBOUR: 'it returns false'. Refute it at one input. -/
def staticsLeastWrong : ChangeSpec := { name := "staticsLeast", fn := fun _ => fun
  | [d1, d2, d3] => { results := [.lit (.bool false)], args := [d1, d2, d3] }
  | _ => none }
def StaticsLeastWrongFalsely : Prop := staticsLeastRow.holds Try.pinned (OpenSpec.ofChange staticsLeastWrong)

/- THE SECOND FORM. 'bulk': how many values and letters a reading holds, each counted each time it is reached (what is shared counts as often as it is met; a slice's spare places count too). A statement '..UptoSaid' is the law's where the arguments, and the package variables that the reading takes, are together of bulk at most 1048576: NARROWER than '..Said'. Prove '..Said' where nothing that the law and all that it calls make is longer than what came in: it says more and counts as full. Else prove '..UptoSaid'. A law counts once. -/
mutual
def uptoBulk {H : Type} : DataW H → Nat
  | .lit (.string bytes) => bytes.length + 1
  | .lit _ => 1
  | .nil => 1
  | .ptr d => uptoBulk d + 1
  | .slice elems spare => uptoBulkAll elems + uptoBulkAll spare + 1
  | .agg parts => uptoBulkAll parts + 1
  | .iface _ d => uptoBulk d + 1
  | .map entries => uptoBulkEntries entries + 1
  | .held _ => 1
def uptoBulkAll {H : Type} : List (DataW H) → Nat
  | [] => 0
  | d :: r => uptoBulk d + uptoBulkAll r
def uptoBulkEntries {H : Type} : List (Lit × DataW H) → Nat
  | [] => 0
  | x :: r => uptoBulkEntry x + uptoBulkEntries r
def uptoBulkEntry {H : Type} : Lit × DataW H → Nat
  | (.string bytes, d) => bytes.length + uptoBulk d + 1
  | (_, d) => uptoBulk d + 1
 end
def uptoSmall : (H : Type) → List (DataW H) → Bool := fun _ ds => decide (uptoBulkAll ds ≤ 1048576)
def OpenSpec.upto (s : _root_.Go.ChangeSpec) : _root_.Go.OpenSpec := { _root_.Go.OpenSpec.ofChange s with cond := some uptoSmall }

/-- 'goosenecklaw02.LoadCentres', WHERE WHAT IT READS IS OF BULK AT MOST 1048576: true; the input reads as it did. -/
def loadCentresUptoRow : OpenClaim := { program := "ytgfehjhngmabeaa", sum := "0a82b5c474ea8160147d958cfa98771b79d45c38402d1ad0ede6359eaf741188", func := "gooseneck/goosenecklaw02.LoadCentres", spec := "loadCentres", unfollowed := true, recurses := true, apart := false, narrowed := true }
def LoadCentresUptoSaid : Prop := loadCentresUptoRow.holds Try.pinned (OpenSpec.upto loadCentresSpec)

/-- 'goosenecklaw04.StaticsAxles', WHERE WHAT IT READS IS OF BULK AT MOST 1048576: true; the input reads as it did. -/
def staticsAxlesUptoRow : OpenClaim := { program := "ytgfehjhngmabeaa", sum := "0a82b5c474ea8160147d958cfa98771b79d45c38402d1ad0ede6359eaf741188", func := "gooseneck/goosenecklaw04.StaticsAxles", spec := "staticsAxles", unfollowed := true, recurses := true, named := ["math/bits.divideError", "math/bits.overflowError"], apart := false, narrowed := true }
def StaticsAxlesUptoSaid : Prop := staticsAxlesUptoRow.holds Try.pinned (OpenSpec.upto staticsAxlesSpec)

/-- 'goosenecklaw04.StaticsStands', WHERE WHAT IT READS IS OF BULK AT MOST 1048576: true; the input reads as it did. -/
def staticsStandsUptoRow : OpenClaim := { program := "ytgfehjhngmabeaa", sum := "0a82b5c474ea8160147d958cfa98771b79d45c38402d1ad0ede6359eaf741188", func := "gooseneck/goosenecklaw04.StaticsStands", spec := "staticsStands", unfollowed := true, recurses := true, named := ["math/bits.divideError", "math/bits.overflowError"], apart := false, narrowed := true }
def StaticsStandsUptoSaid : Prop := staticsStandsUptoRow.holds Try.pinned (OpenSpec.upto staticsStandsSpec)

/-- 'goosenecklaw04.StaticsDivides', WHERE WHAT IT READS IS OF BULK AT MOST 1048576: true; the input reads as it did. -/
def staticsDividesUptoRow : OpenClaim := { program := "ytgfehjhngmabeaa", sum := "0a82b5c474ea8160147d958cfa98771b79d45c38402d1ad0ede6359eaf741188", func := "gooseneck/goosenecklaw04.StaticsDivides", spec := "staticsDivides", unfollowed := true, recurses := true, named := ["math/bits.divideError", "math/bits.overflowError"], apart := false, narrowed := true }
def StaticsDividesUptoSaid : Prop := staticsDividesUptoRow.holds Try.pinned (OpenSpec.upto staticsDividesSpec)

/-- 'goosenecklaw04.StaticsLeast', WHERE WHAT IT READS IS OF BULK AT MOST 1048576: true; the input reads as it did. -/
def staticsLeastUptoRow : OpenClaim := { program := "ytgfehjhngmabeaa", sum := "0a82b5c474ea8160147d958cfa98771b79d45c38402d1ad0ede6359eaf741188", func := "gooseneck/goosenecklaw04.StaticsLeast", spec := "staticsLeast", unfollowed := true, recurses := true, named := ["math/bits.divideError", "math/bits.overflowError"], apart := false, narrowed := true }
def StaticsLeastUptoSaid : Prop := staticsLeastUptoRow.holds Try.pinned (OpenSpec.upto staticsLeastSpec)

end Rows
end Go.Proofs.Ytgfehjhngmabeaa
