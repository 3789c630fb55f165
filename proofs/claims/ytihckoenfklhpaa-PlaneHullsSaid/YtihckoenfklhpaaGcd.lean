/- Greatest common divisors, of the program and of the document's own answers. -/
import Derived.Test.YtihckoenfklhpaaRot
import Derived.Deep.DeepCutAuto
namespace Go.Proofs.Ytihckoenfklhpaa
open Go.RowKit Go.Proofs.Gn
theorem gcd_step {x y : Nat} : Nat.gcd y (x % y) = Nat.gcd x y := by
  rw [Nat.gcd_comm x y, Nat.gcd_rec y x, Nat.gcd_comm]
theorem p_amount (n : Int) (w : World) (h1 : -9223372036854775807 ≤ n) (h2 : n ≤ 9223372036854775807) :
    Calls Try.prog 82 #[.int .i64 n] w fun e w' => e = .returned (.int .i64 (n.natAbs : Int)) ∧ w = w' := by
  by_cases h : n < -n
  · go_enter Try.func82, Try.ntmps82
    go_wp2
    go_ret
    exact ⟨ret_int (by omega), rfl⟩
  · go_enter Try.func82, Try.ntmps82
    go_wp2
    go_ret
    exact ⟨ret_int (by omega), rfl⟩
/-! ### Two turns one after another -/
def boC (c s c' s' : Int) : Int := c * c' - s * s'
def boS (c s c' s' : Int) : Int := s * c' + c * s'
def boG (c s n c' s' n' : Int) : Nat := Nat.gcd (n * n').natAbs (Nat.gcd (boC c s c' s').natAbs (boS c s c' s').natAbs)
/-- Both turns are valid. -/
def boB (c s n c' s' n' : Int) : Bool := rotB c s n && rotB c' s' n'
def boV (c s n c' s' n' v : Int) : Int := if boB c s n c' s' n' && decide (n * n' / (boG c s n c' s' n' : Int) ≤ 16777216) then v.tdiv (boG c s n c' s' n') else 0
def boE (c s n c' s' n' : Int) : Int := if boB c s n c' s' n' then if n * n' / (boG c s n c' s' n' : Int) ≤ 16777216 then 0 else 4 else 2
/-- What is known of the numbers of two valid turns, before the walk. -/
theorem bo_facts {c s n c' s' n' : Int} (r1 : rotB c s n = true) (r2 : rotB c' s' n' = true) : ∃ g1 g : Nat, boG c s n c' s' n' = g ∧
    Hid (Nat.gcd ((c * c' - s * s').natAbs : Int).natAbs ((s * c' + c * s').natAbs : Int).natAbs = g1) ∧ Hid (Nat.gcd (n * n').natAbs ((g1 : Nat) : Int).natAbs = g) ∧ Hid (Nat.gcd ((g1 : Nat) : Int).natAbs (n * n').natAbs = g) ∧
    (0 : Int) < (g : Int) ∧ (g : Int) ≤ n * n' ∧ (g1 : Int) ≤ 288230376151711744 ∧
    (-72057594037927936 ≤ c * c' ∧ c * c' ≤ 72057594037927936) ∧ (-72057594037927936 ≤ s * s' ∧ s * s' ≤ 72057594037927936) ∧ (-72057594037927936 ≤ s * c' ∧ s * c' ≤ 72057594037927936) ∧ (-72057594037927936 ≤ c * s' ∧ c * s' ≤ 72057594037927936) ∧
    (1 ≤ n * n' ∧ n * n' ≤ 72057594037927936) ∧ (0 ≤ n * n' / (g : Int) ∧ n * n' / (g : Int) ≤ n * n') ∧ (n * n').tdiv (g : Int) = n * n' / (g : Int) := by
  obtain ⟨a1, a2, a3, a4, a5, a6, a7⟩ := rotB_yes r1
  obtain ⟨b1, b2, b3, b4, b5, b6, b7⟩ := rotB_yes r2
  have m1 := mul_bd (u := c) (v := c') (by omega) (by omega) (by omega) (by omega)
  have m2 := mul_bd (u := s) (v := s') (by omega) (by omega) (by omega) (by omega)
  have m3 := mul_bd (u := s) (v := c') (by omega) (by omega) (by omega) (by omega)
  have m4 := mul_bd (u := c) (v := s') (by omega) (by omega) (by omega) (by omega)
  have m5 := mul_bd (u := n) (v := n') (by omega) (by omega) (by omega) (by omega)
  have m6 : 1 ≤ n * n' := by have := Int.mul_pos (a := n) (b := n') (by omega) (by omega); omega
  obtain ⟨g1, hg1⟩ : ∃ g1, Nat.gcd (boC c s c' s').natAbs (boS c s c' s').natAbs = g1 := ⟨_, rfl⟩
  have hG : boG c s n c' s' n' = Nat.gcd (n * n').natAbs g1 := by unfold boG; rw [hg1]
  obtain ⟨g, hg⟩ : ∃ g, Nat.gcd (n * n').natAbs g1 = g := ⟨_, rfl⟩
  have hgp : 0 < g := by rw [← hg]; exact Nat.gcd_pos_of_pos_left _ (by omega)
  have hgle : g ≤ (n * n').natAbs := by rw [← hg]; exact Nat.gcd_le_left _ (by omega)
  have hg1le : g1 ≤ (boC c s c' s').natAbs + (boS c s c' s').natAbs := by
    rw [← hg1]
    rcases Nat.eq_zero_or_pos (boC c s c' s').natAbs with h | h
    · rw [h, Nat.gcd_zero_left]; omega
    · have := Nat.gcd_le_left (boS c s c' s').natAbs h; omega
  unfold boC boS at hg1 hg1le
  have hgi : (0 : Int) < (g : Int) := by omega
  have hq := (abs_ediv_le (n := n * n') hgi).1 (by omega)
  refine ⟨g1, g, by rw [hG, hg], hide (by simpa using hg1), hide (by simpa using hg), hide (by rw [Nat.gcd_comm]; simpa using hg), hgi, by omega, by omega, m1, m2, m3, m4, ⟨m6, m5.2⟩, hq, Int.tdiv_eq_ediv_of_nonneg (by omega)⟩
end Go.Proofs.Ytihckoenfklhpaa
