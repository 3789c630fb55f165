/-
  No cell of these rows narrows 'for every input' (looked for: loops, veiled, ifaces, maps, wideKeys, modest, calm, conditions, laid).
  DERIVED. THE GIVEN ROWS OF THIS SEAT. 5 by the template 'for every input the law returns true; each argument reads behind the call as it read before'; 0 by the template 'total and deterministic' (their statements: YtdehnokcjnbjoaaTotals.lean).
  GIVEN WITH THE SEED: the statements are not yours to turn. If you find one false, say at which input.
  Laid BY PROGRAM, IN A SANDBOX (cutbox-rows.mjs): the forced cells as the released guide's own fill.sh prints them over the translation ed51f93981faaf32… (all of the seat's roots in one cut). By AI agents, Wed Nov 11 2026. No macro, syntax, notation, axiom, sorry.
-/
import Derived.Test.YtdehnokcjnbjoaaChecked
import GoSem.Claim
import GoSem.ClaimJoined
import GoSem.ClaimMapViews
import Derived.JoinedTies
import Derived.KernelRfl
namespace Go.Proofs.Ytdehnokcjnbjoaa
/- THE CELL 'sum', in the pinned program and in every row, IS THE sha256 OF THE DUMP (.gsa) THAT YtdehnokcjnbjoaaProg.lean LOADS. Nothing in Lean hashes anything: it is a label: what it is worth is what the hold of that sum in a sandbox is worth. -/
noncomputable def Try.pinned : Pinned := { name := "ytdehnokcjnbjoaa", sum := "ed51f93981faaf3253336e64d84cac7ded3597c93d471e10c9e4dafbc360ddc9", checked := Try.checked }
namespace Rows
def none {H : Type} : Left H := { results := [], args := [] }

/-- 'goosenecklaw02.LoadChanges': WHATEVER THE INPUT: true; the input reads as it did. -/
def loadChangesSpec : ChangeSpec := { name := "loadChanges", fn := fun _ => fun
  | [d1, d2, d3, d4, d5, d6] => { results := [.lit (.bool true)], args := [d1, d2, d3, d4, d5, d6] }
  | _ => none }
def loadChangesRow : OpenClaim := { program := "ytdehnokcjnbjoaa", sum := "ed51f93981faaf3253336e64d84cac7ded3597c93d471e10c9e4dafbc360ddc9", func := "gooseneck/goosenecklaw02.LoadChanges", spec := "loadChanges", unfollowed := true, recurses := true, apart := false }
def LoadChangesSaid : Prop := loadChangesRow.holds Try.pinned (OpenSpec.ofChange loadChangesSpec)

/-- ITS FALSE NEIGHBOUR: 'it returns false'. Refute it at one input. -/
def loadChangesWrong : ChangeSpec := { name := "loadChanges", fn := fun _ => fun
  | [d1, d2, d3, d4, d5, d6] => { results := [.lit (.bool false)], args := [d1, d2, d3, d4, d5, d6] }
  | _ => none }
def LoadChangesWrongFalsely : Prop := loadChangesRow.holds Try.pinned (OpenSpec.ofChange loadChangesWrong)

/-- 'goosenecklaw02.LoadProved': WHATEVER THE INPUT: true; the input reads as it did. -/
def loadProvedSpec : ChangeSpec := { name := "loadProved", fn := fun _ => fun
  | [d1, d2, d3, d4] => { results := [.lit (.bool true)], args := [d1, d2, d3, d4] }
  | _ => none }
def loadProvedRow : OpenClaim := { program := "ytdehnokcjnbjoaa", sum := "ed51f93981faaf3253336e64d84cac7ded3597c93d471e10c9e4dafbc360ddc9", func := "gooseneck/goosenecklaw02.LoadProved", spec := "loadProved", unfollowed := true, recurses := true, apart := false }
def LoadProvedSaid : Prop := loadProvedRow.holds Try.pinned (OpenSpec.ofChange loadProvedSpec)

/-- ITS FALSE NEIGHBOUR: 'it returns false'. Refute it at one input. -/
def loadProvedWrong : ChangeSpec := { name := "loadProved", fn := fun _ => fun
  | [d1, d2, d3, d4] => { results := [.lit (.bool false)], args := [d1, d2, d3, d4] }
  | _ => none }
def LoadProvedWrongFalsely : Prop := loadProvedRow.holds Try.pinned (OpenSpec.ofChange loadProvedWrong)

/-- 'goosenecklaw02.LoadMore': WHATEVER THE INPUT: true; the input reads as it did. -/
def loadMoreSpec : ChangeSpec := { name := "loadMore", fn := fun _ => fun
  | [d1, d2, d3, d4, d5, d6] => { results := [.lit (.bool true)], args := [d1, d2, d3, d4, d5, d6] }
  | _ => none }
def loadMoreRow : OpenClaim := { program := "ytdehnokcjnbjoaa", sum := "ed51f93981faaf3253336e64d84cac7ded3597c93d471e10c9e4dafbc360ddc9", func := "gooseneck/goosenecklaw02.LoadMore", spec := "loadMore", unfollowed := true, recurses := true, apart := false }
def LoadMoreSaid : Prop := loadMoreRow.holds Try.pinned (OpenSpec.ofChange loadMoreSpec)

/-- ITS FALSE NEIGHBOUR: 'it returns false'. Refute it at one input. -/
def loadMoreWrong : ChangeSpec := { name := "loadMore", fn := fun _ => fun
  | [d1, d2, d3, d4, d5, d6] => { results := [.lit (.bool false)], args := [d1, d2, d3, d4, d5, d6] }
  | _ => none }
def LoadMoreWrongFalsely : Prop := loadMoreRow.holds Try.pinned (OpenSpec.ofChange loadMoreWrong)

/-- 'goosenecklaw02.LoadLeast': WHATEVER THE INPUT: true; the input reads as it did. -/
def loadLeastSpec : ChangeSpec := { name := "loadLeast", fn := fun _ => fun
  | [d1, d2, d3] => { results := [.lit (.bool true)], args := [d1, d2, d3] }
  | _ => none }
def loadLeastRow : OpenClaim := { program := "ytdehnokcjnbjoaa", sum := "ed51f93981faaf3253336e64d84cac7ded3597c93d471e10c9e4dafbc360ddc9", func := "gooseneck/goosenecklaw02.LoadLeast", spec := "loadLeast", unfollowed := true, recurses := true, apart := false }
def LoadLeastSaid : Prop := loadLeastRow.holds Try.pinned (OpenSpec.ofChange loadLeastSpec)

/-- ITS FALSE NEIGHBOUR: 'it returns false'. Refute it at one input. -/
def loadLeastWrong : ChangeSpec := { name := "loadLeast", fn := fun _ => fun
  | [d1, d2, d3] => { results := [.lit (.bool false)], args := [d1, d2, d3] }
  | _ => none }
def LoadLeastWrongFalsely : Prop := loadLeastRow.holds Try.pinned (OpenSpec.ofChange loadLeastWrong)

/-- 'goosenecklaw02.LoadCentres': WHATEVER THE INPUT: true; the input reads as it did. -/
def loadCentresSpec : ChangeSpec := { name := "loadCentres", fn := fun _ => fun
  | [d1, d2, d3, d4, d5] => { results := [.lit (.bool true)], args := [d1, d2, d3, d4, d5] }
  | _ => none }
def loadCentresRow : OpenClaim := { program := "ytdehnokcjnbjoaa", sum := "ed51f93981faaf3253336e64d84cac7ded3597c93d471e10c9e4dafbc360ddc9", func := "gooseneck/goosenecklaw02.LoadCentres", spec := "loadCentres", unfollowed := true, recurses := true, apart := false }
def LoadCentresSaid : Prop := loadCentresRow.holds Try.pinned (OpenSpec.ofChange loadCentresSpec)

/-- ITS FALSE NEIGHBOUR: 'it returns false'. Refute it at one input. -/
def loadCentresWrong : ChangeSpec := { name := "loadCentres", fn := fun _ => fun
  | [d1, d2, d3, d4, d5] => { results := [.lit (.bool false)], args := [d1, d2, d3, d4, d5] }
  | _ => none }
def LoadCentresWrongFalsely : Prop := loadCentresRow.holds Try.pinned (OpenSpec.ofChange loadCentresWrong)

/- THE SECOND FORM. 'bulk': how many values and letters a reading holds, each counted each time it is reached (what is shared counts as often as it is met; a slice's spare places count too). A statement '..UptoSaid' is the law's where the arguments, and the package variables that the reading takes, are together of bulk at most 1048576: NARROWER than '..Said'. Prove '..Said' where nothing that the law and all that it calls make is longer than what came in: it says more and counts as full. Else prove '..UptoSaid'. A law counts once. -/
mutual
def uptoBulk {H : Type} : DataW H → Nat
  | .lit (.string bytes) => bytes.length + 1
  | .lit _ => 1
  | .nil => 1
  | .ptr d => uptoBulk d + 1
  | .slice elems spare => uptoBulkAll elems + uptoBulkAll spare + 1
  | .agg parts => uptoBulkAll parts + 1
  | .iface _ d => uptoBulk d + 1
  | .map entries => uptoBulkEntries entries + 1
  | .held _ => 1
def uptoBulkAll {H : Type} : List (DataW H) → Nat
  | [] => 0
  | d :: r => uptoBulk d + uptoBulkAll r
def uptoBulkEntries {H : Type} : List (Lit × DataW H) → Nat
  | [] => 0
  | x :: r => uptoBulkEntry x + uptoBulkEntries r
def uptoBulkEntry {H : Type} : Lit × DataW H → Nat
  | (.string bytes, d) => bytes.length + uptoBulk d + 1
  | (_, d) => uptoBulk d + 1
 end
def uptoSmall : (H : Type) → List (DataW H) → Bool := fun _ ds => decide (uptoBulkAll ds ≤ 1048576)
def OpenSpec.upto (s : _root_.Go.ChangeSpec) : _root_.Go.OpenSpec := { _root_.Go.OpenSpec.ofChange s with cond := some uptoSmall }

/-- 'goosenecklaw02.LoadChanges', WHERE WHAT IT READS IS OF BULK AT MOST 1048576: true; the input reads as it did. -/
def loadChangesUptoRow : OpenClaim := { program := "ytdehnokcjnbjoaa", sum := "ed51f93981faaf3253336e64d84cac7ded3597c93d471e10c9e4dafbc360ddc9", func := "gooseneck/goosenecklaw02.LoadChanges", spec := "loadChanges", unfollowed := true, recurses := true, apart := false, narrowed := true }
def LoadChangesUptoSaid : Prop := loadChangesUptoRow.holds Try.pinned (OpenSpec.upto loadChangesSpec)

/-- 'goosenecklaw02.LoadProved', WHERE WHAT IT READS IS OF BULK AT MOST 1048576: true; the input reads as it did. -/
def loadProvedUptoRow : OpenClaim := { program := "ytdehnokcjnbjoaa", sum := "ed51f93981faaf3253336e64d84cac7ded3597c93d471e10c9e4dafbc360ddc9", func := "gooseneck/goosenecklaw02.LoadProved", spec := "loadProved", unfollowed := true, recurses := true, apart := false, narrowed := true }
def LoadProvedUptoSaid : Prop := loadProvedUptoRow.holds Try.pinned (OpenSpec.upto loadProvedSpec)

/-- 'goosenecklaw02.LoadMore', WHERE WHAT IT READS IS OF BULK AT MOST 1048576: true; the input reads as it did. -/
def loadMoreUptoRow : OpenClaim := { program := "ytdehnokcjnbjoaa", sum := "ed51f93981faaf3253336e64d84cac7ded3597c93d471e10c9e4dafbc360ddc9", func := "gooseneck/goosenecklaw02.LoadMore", spec := "loadMore", unfollowed := true, recurses := true, apart := false, narrowed := true }
def LoadMoreUptoSaid : Prop := loadMoreUptoRow.holds Try.pinned (OpenSpec.upto loadMoreSpec)

/-- 'goosenecklaw02.LoadLeast', WHERE WHAT IT READS IS OF BULK AT MOST 1048576: true; the input reads as it did. -/
def loadLeastUptoRow : OpenClaim := { program := "ytdehnokcjnbjoaa", sum := "ed51f93981faaf3253336e64d84cac7ded3597c93d471e10c9e4dafbc360ddc9", func := "gooseneck/goosenecklaw02.LoadLeast", spec := "loadLeast", unfollowed := true, recurses := true, apart := false, narrowed := true }
def LoadLeastUptoSaid : Prop := loadLeastUptoRow.holds Try.pinned (OpenSpec.upto loadLeastSpec)

/-- 'goosenecklaw02.LoadCentres', WHERE WHAT IT READS IS OF BULK AT MOST 1048576: true; the input reads as it did. -/
def loadCentresUptoRow : OpenClaim := { program := "ytdehnokcjnbjoaa", sum := "ed51f93981faaf3253336e64d84cac7ded3597c93d471e10c9e4dafbc360ddc9", func := "gooseneck/goosenecklaw02.LoadCentres", spec := "loadCentres", unfollowed := true, recurses := true, apart := false, narrowed := true }
def LoadCentresUptoSaid : Prop := loadCentresUptoRow.holds Try.pinned (OpenSpec.upto loadCentresSpec)

end Rows
end Go.Proofs.Ytdehnokcjnbjoaa
