/- What the functions on turns and bodies return, of the program and of the document's own answers. -/
import Derived.Test.YthifcalemhpmoaaGreatSl
namespace Go.Proofs.YthifcalemhpmoaaGreat
open Go.RowKit Go.Proofs.Gn
abbrev rt (c s n : Int) : Value := .agg #[.int .i64 c, .int .i64 s, .int .i64 n]
/-- Is the turn valid? -/
def rotB (c s n : Int) : Bool := decide (1 ≤ n ∧ n ≤ 16777216 ∧ -n ≤ c ∧ c ≤ n ∧ -n ≤ s ∧ s ≤ n ∧ c * c + s * s = n * n)
theorem rotB_yes {c s n : Int} (h : rotB c s n = true) : 1 ≤ n ∧ n ≤ 16777216 ∧ -n ≤ c ∧ c ≤ n ∧ -n ≤ s ∧ s ≤ n ∧ c * c + s * s = n * n := of_decide_eq_true h
def rotE (c s n : Int) : Int := if rotB c s n then 0 else 2
theorem rotB_of {c s n : Int} (h : 1 ≤ n ∧ n ≤ 16777216 ∧ -n ≤ c ∧ c ≤ n ∧ -n ≤ s ∧ s ≤ n ∧ c * c + s * s = n * n) : rotE c s n = 0 := by unfold rotE rotB; rw [if_pos (decide_eq_true h)]
theorem rotB_not {c s n : Int} (h : ¬ (1 ≤ n ∧ n ≤ 16777216 ∧ -n ≤ c ∧ c ≤ n ∧ -n ≤ s ∧ s ≤ n ∧ c * c + s * s = n * n)) : rotE c s n = 2 := by
  unfold rotE rotB; rw [if_neg]; simpa using h
/-! ### Halves -/
def halB (n d : Int) : Bool := decide (1 ≤ d ∧ d ≤ 2048 ∧ -2048 ≤ n ∧ n ≤ 2048)
def halC (n d : Int) : Int := if halB n d then d * d - n * n else 0
def halS (n d : Int) : Int := if halB n d then 2 * n * d else 0
def halN (n d : Int) : Int := if halB n d then d * d + n * n else 0
def halE (n d : Int) : Int := if halB n d then 0 else 2
theorem halB_yes {n d : Int} (h : halB n d = true) : 1 ≤ d ∧ d ≤ 2048 ∧ -2048 ≤ n ∧ n ≤ 2048 := of_decide_eq_true h
theorem halB_no {n d : Int} (h : halB n d = false) : ¬ (1 ≤ d ∧ d ≤ 2048 ∧ -2048 ≤ n ∧ n ≤ 2048) := of_decide_eq_false h
end Go.Proofs.YthifcalemhpmoaaGreat
