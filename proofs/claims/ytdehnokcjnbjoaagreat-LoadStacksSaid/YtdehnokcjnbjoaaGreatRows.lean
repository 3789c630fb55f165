/-
  No cell of these rows narrows 'for every input' (looked for: loops, veiled, ifaces, maps, wideKeys, modest, calm, conditions, laid).
  DERIVED. THE GIVEN ROWS OF THIS SEAT. 5 by the template 'for every input the law returns true; each argument reads behind the call as it read before'; 0 by the template 'total and deterministic' (their statements: YtdehnokcjnbjoaaGreatTotals.lean).
  GIVEN WITH THE SEED: the statements are not yours to turn. If you find one false, say at which input.
  Laid BY PROGRAM, IN A SANDBOX (cutbox-rows.mjs): the forced cells as the released guide's own fill.sh prints them over the translation 3c6a208de816866d… (all of the seat's roots in one cut). By AI agents, Wed Nov 11 2026. No macro, syntax, notation, axiom, sorry.
-/
import Derived.Test.YtdehnokcjnbjoaaGreatChecked
import GoSem.Claim
import GoSem.ClaimJoined
import GoSem.ClaimMapViews
import Derived.JoinedTies
import Derived.KernelRfl
namespace Go.Proofs.YtdehnokcjnbjoaaGreat
/- THE CELL 'sum', in the pinned program and in every row, IS THE sha256 OF THE DUMP (.gsa) THAT YtdehnokcjnbjoaaGreatProg.lean LOADS. Nothing in Lean hashes anything: it is a label: what it is worth is what the hold of that sum in a sandbox is worth. -/
noncomputable def Tryz.pinned : Pinned := { name := "ytdehnokcjnbjoaagreat", sum := "3c6a208de816866db3135d2e26f83df4360f8079f17398391672135e06d9b501", checked := Tryz.checked }
namespace Rows
def none {H : Type} : Left H := { results := [], args := [] }

/-- 'goosenecklaw02.LoadTells': WHATEVER THE INPUT: true; the input reads as it did. -/
def loadTellsSpec : ChangeSpec := { name := "loadTells", fn := fun _ => fun
  | [d1, d2] => { results := [.lit (.bool true)], args := [d1, d2] }
  | _ => none }
def loadTellsRow : OpenClaim := { program := "ytdehnokcjnbjoaagreat", sum := "3c6a208de816866db3135d2e26f83df4360f8079f17398391672135e06d9b501", func := "gooseneck/goosenecklaw02.LoadTells", spec := "loadTells", unfollowed := true, recurses := true, apart := false }
def LoadTellsSaid : Prop := loadTellsRow.holds Tryz.pinned (OpenSpec.ofChange loadTellsSpec)

/-- ITS FALSE NEIGHBOUR: 'it returns false'. Refute it at one input. -/
def loadTellsWrong : ChangeSpec := { name := "loadTells", fn := fun _ => fun
  | [d1, d2] => { results := [.lit (.bool false)], args := [d1, d2] }
  | _ => none }
def LoadTellsWrongFalsely : Prop := loadTellsRow.holds Tryz.pinned (OpenSpec.ofChange loadTellsWrong)

/-- 'goosenecklaw02.LoadStands': WHATEVER THE INPUT: true; the input reads as it did. -/
def loadStandsSpec : ChangeSpec := { name := "loadStands", fn := fun _ => fun
  | [d1, d2] => { results := [.lit (.bool true)], args := [d1, d2] }
  | _ => none }
def loadStandsRow : OpenClaim := { program := "ytdehnokcjnbjoaagreat", sum := "3c6a208de816866db3135d2e26f83df4360f8079f17398391672135e06d9b501", func := "gooseneck/goosenecklaw02.LoadStands", spec := "loadStands", unfollowed := true, recurses := true, apart := false }
def LoadStandsSaid : Prop := loadStandsRow.holds Tryz.pinned (OpenSpec.ofChange loadStandsSpec)

/-- ITS FALSE NEIGHBOUR: 'it returns false'. Refute it at one input. -/
def loadStandsWrong : ChangeSpec := { name := "loadStands", fn := fun _ => fun
  | [d1, d2] => { results := [.lit (.bool false)], args := [d1, d2] }
  | _ => none }
def LoadStandsWrongFalsely : Prop := loadStandsRow.holds Tryz.pinned (OpenSpec.ofChange loadStandsWrong)

/-- 'goosenecklaw02.LoadLashes': WHATEVER THE INPUT: true; the input reads as it did. -/
def loadLashesSpec : ChangeSpec := { name := "loadLashes", fn := fun _ => fun
  | [d1, d2, d3, d4] => { results := [.lit (.bool true)], args := [d1, d2, d3, d4] }
  | _ => none }
def loadLashesRow : OpenClaim := { program := "ytdehnokcjnbjoaagreat", sum := "3c6a208de816866db3135d2e26f83df4360f8079f17398391672135e06d9b501", func := "gooseneck/goosenecklaw02.LoadLashes", spec := "loadLashes", unfollowed := true, recurses := true, apart := false }
def LoadLashesSaid : Prop := loadLashesRow.holds Tryz.pinned (OpenSpec.ofChange loadLashesSpec)

/-- ITS FALSE NEIGHBOUR: 'it returns false'. Refute it at one input. -/
def loadLashesWrong : ChangeSpec := { name := "loadLashes", fn := fun _ => fun
  | [d1, d2, d3, d4] => { results := [.lit (.bool false)], args := [d1, d2, d3, d4] }
  | _ => none }
def LoadLashesWrongFalsely : Prop := loadLashesRow.holds Tryz.pinned (OpenSpec.ofChange loadLashesWrong)

/-- 'goosenecklaw02.LoadTurns': WHATEVER THE INPUT: true; the input reads as it did. -/
def loadTurnsSpec : ChangeSpec := { name := "loadTurns", fn := fun _ => fun
  | [d1, d2, d3] => { results := [.lit (.bool true)], args := [d1, d2, d3] }
  | _ => none }
def loadTurnsRow : OpenClaim := { program := "ytdehnokcjnbjoaagreat", sum := "3c6a208de816866db3135d2e26f83df4360f8079f17398391672135e06d9b501", func := "gooseneck/goosenecklaw02.LoadTurns", spec := "loadTurns", unfollowed := true, recurses := true, apart := false }
def LoadTurnsSaid : Prop := loadTurnsRow.holds Tryz.pinned (OpenSpec.ofChange loadTurnsSpec)

/-- ITS FALSE NEIGHBOUR: 'it returns false'. Refute it at one input. -/
def loadTurnsWrong : ChangeSpec := { name := "loadTurns", fn := fun _ => fun
  | [d1, d2, d3] => { results := [.lit (.bool false)], args := [d1, d2, d3] }
  | _ => none }
def LoadTurnsWrongFalsely : Prop := loadTurnsRow.holds Tryz.pinned (OpenSpec.ofChange loadTurnsWrong)

/-- 'goosenecklaw02.LoadStacks': WHATEVER THE INPUT: true; the input reads as it did. -/
def loadStacksSpec : ChangeSpec := { name := "loadStacks", fn := fun _ => fun
  | [d] => { results := [.lit (.bool true)], args := [d] }
  | _ => none }
def loadStacksRow : OpenClaim := { program := "ytdehnokcjnbjoaagreat", sum := "3c6a208de816866db3135d2e26f83df4360f8079f17398391672135e06d9b501", func := "gooseneck/goosenecklaw02.LoadStacks", spec := "loadStacks", unfollowed := true, recurses := true, apart := false }
def LoadStacksSaid : Prop := loadStacksRow.holds Tryz.pinned (OpenSpec.ofChange loadStacksSpec)

/-- ITS FALSE NEIGHBOUR: 'it returns false'. Refute it at one input. -/
def loadStacksWrong : ChangeSpec := { name := "loadStacks", fn := fun _ => fun
  | [d] => { results := [.lit (.bool false)], args := [d] }
  | _ => none }
def LoadStacksWrongFalsely : Prop := loadStacksRow.holds Tryz.pinned (OpenSpec.ofChange loadStacksWrong)

/- THE SECOND FORM. 'bulk': how many values and letters a reading holds, each counted each time it is reached (what is shared counts as often as it is met; a slice's spare places count too). A statement '..UptoSaid' is the law's where the arguments, and the package variables that the reading takes, are together of bulk at most 1048576: NARROWER than '..Said'. Prove '..Said' where nothing that the law and all that it calls make is longer than what came in: it says more and counts as full. Else prove '..UptoSaid'. A law counts once. -/
mutual
def uptoBulk {H : Type} : DataW H → Nat
  | .lit (.string bytes) => bytes.length + 1
  | .lit _ => 1
  | .nil => 1
  | .ptr d => uptoBulk d + 1
  | .slice elems spare => uptoBulkAll elems + uptoBulkAll spare + 1
  | .agg parts => uptoBulkAll parts + 1
  | .iface _ d => uptoBulk d + 1
  | .map entries => uptoBulkEntries entries + 1
  | .held _ => 1
def uptoBulkAll {H : Type} : List (DataW H) → Nat
  | [] => 0
  | d :: r => uptoBulk d + uptoBulkAll r
def uptoBulkEntries {H : Type} : List (Lit × DataW H) → Nat
  | [] => 0
  | x :: r => uptoBulkEntry x + uptoBulkEntries r
def uptoBulkEntry {H : Type} : Lit × DataW H → Nat
  | (.string bytes, d) => bytes.length + uptoBulk d + 1
  | (_, d) => uptoBulk d + 1
 end
def uptoSmall : (H : Type) → List (DataW H) → Bool := fun _ ds => decide (uptoBulkAll ds ≤ 1048576)
def OpenSpec.upto (s : _root_.Go.ChangeSpec) : _root_.Go.OpenSpec := { _root_.Go.OpenSpec.ofChange s with cond := some uptoSmall }

/-- 'goosenecklaw02.LoadTells', WHERE WHAT IT READS IS OF BULK AT MOST 1048576: true; the input reads as it did. -/
def loadTellsUptoRow : OpenClaim := { program := "ytdehnokcjnbjoaagreat", sum := "3c6a208de816866db3135d2e26f83df4360f8079f17398391672135e06d9b501", func := "gooseneck/goosenecklaw02.LoadTells", spec := "loadTells", unfollowed := true, recurses := true, apart := false, narrowed := true }
def LoadTellsUptoSaid : Prop := loadTellsUptoRow.holds Tryz.pinned (OpenSpec.upto loadTellsSpec)

/-- 'goosenecklaw02.LoadStands', WHERE WHAT IT READS IS OF BULK AT MOST 1048576: true; the input reads as it did. -/
def loadStandsUptoRow : OpenClaim := { program := "ytdehnokcjnbjoaagreat", sum := "3c6a208de816866db3135d2e26f83df4360f8079f17398391672135e06d9b501", func := "gooseneck/goosenecklaw02.LoadStands", spec := "loadStands", unfollowed := true, recurses := true, apart := false, narrowed := true }
def LoadStandsUptoSaid : Prop := loadStandsUptoRow.holds Tryz.pinned (OpenSpec.upto loadStandsSpec)

/-- 'goosenecklaw02.LoadLashes', WHERE WHAT IT READS IS OF BULK AT MOST 1048576: true; the input reads as it did. -/
def loadLashesUptoRow : OpenClaim := { program := "ytdehnokcjnbjoaagreat", sum := "3c6a208de816866db3135d2e26f83df4360f8079f17398391672135e06d9b501", func := "gooseneck/goosenecklaw02.LoadLashes", spec := "loadLashes", unfollowed := true, recurses := true, apart := false, narrowed := true }
def LoadLashesUptoSaid : Prop := loadLashesUptoRow.holds Tryz.pinned (OpenSpec.upto loadLashesSpec)

/-- 'goosenecklaw02.LoadTurns', WHERE WHAT IT READS IS OF BULK AT MOST 1048576: true; the input reads as it did. -/
def loadTurnsUptoRow : OpenClaim := { program := "ytdehnokcjnbjoaagreat", sum := "3c6a208de816866db3135d2e26f83df4360f8079f17398391672135e06d9b501", func := "gooseneck/goosenecklaw02.LoadTurns", spec := "loadTurns", unfollowed := true, recurses := true, apart := false, narrowed := true }
def LoadTurnsUptoSaid : Prop := loadTurnsUptoRow.holds Tryz.pinned (OpenSpec.upto loadTurnsSpec)

/-- 'goosenecklaw02.LoadStacks', WHERE WHAT IT READS IS OF BULK AT MOST 1048576: true; the input reads as it did. -/
def loadStacksUptoRow : OpenClaim := { program := "ytdehnokcjnbjoaagreat", sum := "3c6a208de816866db3135d2e26f83df4360f8079f17398391672135e06d9b501", func := "gooseneck/goosenecklaw02.LoadStacks", spec := "loadStacks", unfollowed := true, recurses := true, apart := false, narrowed := true }
def LoadStacksUptoSaid : Prop := loadStacksUptoRow.holds Tryz.pinned (OpenSpec.upto loadStacksSpec)

end Rows
end Go.Proofs.YtdehnokcjnbjoaaGreat
