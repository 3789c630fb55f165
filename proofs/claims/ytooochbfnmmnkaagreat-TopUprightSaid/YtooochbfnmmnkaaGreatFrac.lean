/- Products of two numbers, divided: what a fraction returns. -/
import Derived.Test.YtooochbfnmmnkaaGreatPt
import Derived.Test.YtooochbfnmmnkaaGreatShelfB
namespace Go.Proofs.YtooochbfnmmnkaaGreat
open Go.RowKit Go.Proofs.Gn
def amt (n : Int) : Int := if n < 0 then -n else n
theorem amt_neg {n : Int} (h : n < 0) : amt n = -n := if_pos h
theorem amt_pos {n : Int} (h : ¬ n < 0) : amt n = n := if_neg h
theorem p_amount (n : Int) (w : World) (h1 : -9223372036854775807 ≤ n) (h2 : n ≤ 9223372036854775807) :
    Calls Tryz.prog 85 #[.int .i64 n] w fun e w' => e = .returned (.int .i64 (amt n)) ∧ w = w' := by
  by_cases h : n < 0
  · rw [amt_neg h]
    go_enter Tryz.func85, Tryz.ntmps85
    go_wp2_with fail
    go_ret
    exact ⟨ret_int (by first | omega | (simp; omega) | (split <;> omega)), rfl⟩
  · rw [amt_pos h]
    go_enter Tryz.func85, Tryz.ntmps85
    go_wp2_with fail
    go_ret
    exact ⟨ret_int (by first | omega | (simp; omega) | (split <;> omega)), rfl⟩
theorem b_Mul64 (x y : Int) (w : World) (h0 : 0 ≤ x) (h1 : x < 18446744073709551616) (h2 : 0 ≤ y) (h3 : y < 18446744073709551616) :
    Calls Tryz.prog 84 #[.int .u64 x, .int .u64 y] w fun e w' => e = .returned (.tuple #[.int .u64 (x * y / 18446744073709551616), .int .u64 (x * y % 18446744073709551616)]) ∧ w = w' := by
  obtain ⟨a, rfl⟩ := Int.eq_ofNat_of_zero_le h0
  obtain ⟨b, rfl⟩ := Int.eq_ofNat_of_zero_le h2
  refine (Any.bits_Mul64 Tryz.mul64 a b (by omega) (by omega) w).mono fun e w' h => ⟨?_, h.2.symm⟩
  rw [h.1]
  simp
end Go.Proofs.YtooochbfnmmnkaaGreat
