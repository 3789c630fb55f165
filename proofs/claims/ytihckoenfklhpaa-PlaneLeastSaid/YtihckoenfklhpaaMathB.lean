/- More plain mathematics for layer 1: how great a quotient is; bodies that are pulled. It imports nothing of the program. -/
import Derived.Test.YtihckoenfklhpaaMath
namespace Go.Proofs.Gn
theorem near_bd {n d : Int} (hd : 0 < d) : (0 ≤ n → 0 ≤ near n d ∧ near n d ≤ n) ∧ (n ≤ 0 → n ≤ near n d ∧ near n d ≤ 0) := by
  have ⟨a, b⟩ := near_spec (n := n) hd
  generalize near n d = q at *
  constructor
  · intro hn
    constructor
    · rcases Int.lt_or_le q 0 with h | h
      · have : q * d ≤ (-1) * d := Int.mul_le_mul_of_nonneg_right (by omega) (by omega)
        omega
      · exact h
    · rcases Int.lt_or_le n q with h | h
      · have h1 : (n + 1) * d ≤ q * d := Int.mul_le_mul_of_nonneg_right (by omega) (by omega)
        have h2 : n * 1 ≤ n * d := Int.mul_le_mul_of_nonneg_left (by omega) hn
        rw [Int.add_mul] at h1
        omega
      · exact h
  · intro hn
    constructor
    · rcases Int.lt_or_le q n with h | h
      · have h1 : q * d ≤ (n - 1) * d := Int.mul_le_mul_of_nonneg_right (by omega) (by omega)
        have h2 : n * d ≤ n * 1 := Int.mul_le_mul_of_nonpos_left hn (by omega)
        rw [Int.sub_mul] at h1
        omega
      · exact h
    · rcases Int.lt_or_le 0 q with h | h
      · have h1 : 1 * d ≤ q * d := Int.mul_le_mul_of_nonneg_right (by omega) (by omega)
        omega
      · exact h
theorem mul_bd2 {u v : Int} (h1 : -33554432 ≤ u) (h2 : u ≤ 33554432) (h3 : -33554432 ≤ v) (h4 : v ≤ 33554432) : -1125899906842624 ≤ u * v ∧ u * v ≤ 1125899906842624 := by
  have a : (u + 33554432) * (v + 33554432) ≥ 0 := Int.mul_nonneg (by omega) (by omega)
  have b : (33554432 - u) * (33554432 - v) ≥ 0 := Int.mul_nonneg (by omega) (by omega)
  have c : (u + 33554432) * (33554432 - v) ≥ 0 := Int.mul_nonneg (by omega) (by omega)
  have d : (33554432 - u) * (v + 33554432) ≥ 0 := Int.mul_nonneg (by omega) (by omega)
  simp only [Int.add_mul, Int.mul_add, Int.sub_mul, Int.mul_sub] at a b c d
  omega
/-- The length of a body, in 32nds. -/
def len32 (u v : Int) : Int := root (1024 * (u * u + v * v))
def putX (u v x y : Int) : Int := near (32 * (u * x - v * y)) (len32 u v)
def putY (u v x y : Int) : Int := near (32 * (v * x + u * y)) (len32 u v)
theorem len32_pos {u v : Int} (h : ¬ (u = 0 ∧ v = 0)) : 1 ≤ len32 u v := by
  unfold len32
  apply root_pos
  have hu := sq_nonneg u
  have hv := sq_nonneg v
  have : u * u + v * v ≠ 0 := by
    intro he
    have h1 : u * u = 0 := by omega
    have h2 : v * v = 0 := by omega
    exact h ⟨by have := Int.mul_eq_zero.1 h1; omega, by have := Int.mul_eq_zero.1 h2; omega⟩
  omega
theorem len32_zero : len32 0 0 = 0 := root_zero
end Go.Proofs.Gn
