/- What a fraction returns, rounded down and up; levers. -/
import Derived.Test.YtooochbfnmmnkaaDivH
import Derived.Test.YtooochbfnmmnkaaPlat
namespace Go.Proofs.Ytooochbfnmmnkaa
open Go.RowKit Go.Proofs.Gn
theorem amt_nonneg (n : Int) : 0 ≤ amt n := by unfold amt; split <;> omega
theorem floor_neg {P d : Int} (hd : 0 < d) : (-P) / d = -(P / d) - (if 0 < P % d then 1 else 0) := by
  have e := Int.mul_ediv_add_emod P d
  have r := Int.emod_nonneg P (show d ≠ 0 by omega)
  have s := Int.emod_lt_of_pos P hd
  generalize P / d = q at *
  generalize P % d = t at *
  rw [Int.mul_comm] at e
  by_cases h : 0 < t
  · rw [if_pos h]
    symm
    have k : (-q - 1) * d = -(q * d) - d := by rw [Int.sub_mul, Int.neg_mul, Int.one_mul]
    exact ediv_unique hd (by omega) (by omega)
  · rw [if_neg h]
    symm
    have k : (-q - 0) * d = -(q * d) := by rw [Int.sub_zero, Int.neg_mul]
    exact ediv_unique hd (by omega) (by omega)
theorem b_Div64i (hi lo y : Int) (w : World) (h0 : 0 ≤ hi) (h1 : hi < y) (h3 : y < 18446744073709551616) (h4 : 0 ≤ lo) (h5 : lo < 18446744073709551616) :
    Calls Try.prog 85 #[.int .u64 hi, .int .u64 lo, .int .u64 y] w fun e w' => e = .returned (.tuple #[.int .u64 ((hi * 18446744073709551616 + lo) / y), .int .u64 ((hi * 18446744073709551616 + lo) % y)]) ∧ Up w w' := by
  obtain ⟨a, rfl⟩ := Int.eq_ofNat_of_zero_le h0
  obtain ⟨b, rfl⟩ := Int.eq_ofNat_of_zero_le h4
  obtain ⟨c, rfl⟩ := Int.eq_ofNat_of_zero_le (show 0 ≤ y by omega)
  refine (b_Div64 a b c w (by omega) (by omega) (by omega)).mono fun e w' h => ⟨?_, h.2⟩
  rw [h.1]
  simp
abbrev fr (n d : Int) : Value := .agg #[.int .i64 n, .int .i64 d]
set_option maxRecDepth 100000 in
set_option maxHeartbeats 2000000 in
theorem p_down (n d t : Int) (w : World) (hn : -4611686018427387904 ≤ n ∧ n ≤ 4611686018427387904) (ht : -4611686018427387904 ≤ t ∧ t ≤ 4611686018427387904) (hd : 1 ≤ d ∧ d ≤ 4611686018427387904) (hq : amt n * amt t < d * 4611686018427387904) :
    Calls Try.prog 60 #[fr n d, .int .i64 t] w fun e w' => e = .returned (.int .i64 (n * t / d)) ∧ Up w w' := by
  have HA := fun W => p_amount n W (by omega) (by omega)
  have HT := fun W => p_amount t W (by omega) (by omega)
  obtain ⟨A, hA⟩ : ∃ A, amt n = A := ⟨_, rfl⟩
  obtain ⟨T, hT⟩ : ∃ A, amt t = A := ⟨_, rfl⟩
  have a0 : 0 ≤ A ∧ A ≤ 4611686018427387904 := by rw [← hA]; unfold amt; split <;> omega
  have t0 : 0 ≤ T ∧ T ≤ 4611686018427387904 := by rw [← hT]; unfold amt; split <;> omega
  rw [hA] at HA hq
  rw [hT] at HT hq
  have HM := fun W => b_Mul64 A T W (by omega) (by omega) (by omega) (by omega)
  have P0 : 0 ≤ A * T := Int.mul_nonneg a0.1 t0.1
  have sgn : n * t = if (decide (n < 0) == decide (t < 0)) = true then A * T else -(A * T) := by
    rw [← hA, ← hT]
    unfold amt
    by_cases c1 : n < 0 <;> by_cases c2 : t < 0 <;> simp [c1, c2, Int.neg_mul, Int.mul_neg, Int.neg_neg]
  obtain ⟨P, hP⟩ : ∃ P, A * T = P := ⟨_, rfl⟩
  rw [hP] at HM P0 sgn hq
  have e1 := Int.mul_ediv_add_emod P 18446744073709551616
  have e2 := Int.emod_nonneg P (show (18446744073709551616 : Int) ≠ 0 by omega)
  have e3 := Int.emod_lt_of_pos P (show (0 : Int) < 18446744073709551616 by omega)
  have e4 : P / 18446744073709551616 < d := Int.ediv_lt_of_lt_mul (by omega) (by omega)
  have e5 : 0 ≤ P / 18446744073709551616 := Int.ediv_nonneg P0 (by omega)
  have HD := fun W => b_Div64i (P / 18446744073709551616) (P % 18446744073709551616) d W e5 e4 (by omega) e2 e3
  rw [show P / 18446744073709551616 * 18446744073709551616 + P % 18446744073709551616 = P by omega] at HD
  obtain ⟨H, hH⟩ : ∃ H, P / 18446744073709551616 = H := ⟨_, rfl⟩
  obtain ⟨L, hL⟩ : ∃ H, P % 18446744073709551616 = H := ⟨_, rfl⟩
  rw [hH, hL] at HM HD
  have q1 : P / d < 4611686018427387904 := Int.ediv_lt_of_lt_mul (by omega) (by rw [Int.mul_comm]; exact hq)
  have q2 : 0 ≤ P / d := Int.ediv_nonneg P0 (by omega)
  have q3 := Int.emod_nonneg P (show d ≠ 0 by omega)
  have q4 := Int.emod_lt_of_pos P (show 0 < d by omega)
  have fl := floor_neg (P := P) (show 0 < d by omega)
  have res : n * t / d = if (decide (n < 0) == decide (t < 0)) = true then P / d else -(P / d) - (if 0 < P % d then 1 else 0) := by
    rw [sgn]
    split
    · rfl
    · exact fl
  rw [res]
  obtain ⟨Q, hQ⟩ : ∃ H, P / d = H := ⟨_, rfl⟩
  obtain ⟨R, hR⟩ : ∃ H, P % d = H := ⟨_, rfl⟩
  rw [hQ, hR] at HD ⊢
  rw [hQ] at q1 q2
  rw [hR] at q3 q4
  have hHA := hide HA
  have hHT := hide HT
  have hHM := hide HM
  have hHD := hide HD
  obtain ⟨d1, d2⟩ := hd
  obtain ⟨a1, a2⟩ := a0
  obtain ⟨t1, t2⟩ := t0
  clear HA HT HM HD res sgn fl e1 e2 e3 e4 e5 hq P0 hP hH hL hQ hR hA hT hn ht
  by_cases c1 : n < 0
  · rw [decide_eq_true c1]
    by_cases c2 : t < 0
    · rw [decide_eq_true c2]
      go_enter Try.func60, Try.ntmps60
      go_wp2_with (first | (go_at_call 84; (with_reducible refine (unhide hHA _).mono ?_); rintro e w1 ⟨rfl, rfl⟩) | (go_at_call 84; (with_reducible refine (unhide hHT _).mono ?_); rintro e w1 ⟨rfl, rfl⟩) | (go_at_call 83; (with_reducible refine (unhide hHM _).mono ?_); rintro e w1 ⟨rfl, rfl⟩) | (go_at_call 85; (with_reducible refine (unhide hHD _).mono ?_); rintro e w1 ⟨rfl, hb⟩; have k0_0 : w1.cell? ⟨w.heap.size, 0, none⟩ = some (.int .i64 n) := up_cell hb (by first | (with_reducible assumption) | (refine alloc_cell _ ?_; with_reducible assumption) | go_cell); have k0_1 : w1.cell? ⟨w.heap.size, 1, none⟩ = some (.int .i64 d) := up_cell hb (by first | (with_reducible assumption) | (refine alloc_cell _ ?_; with_reducible assumption) | go_cell)))
      all_goals go_ret
      all_goals exact ⟨ret_int (by first | rfl | omega | (split <;> omega) | (rw [if_pos (by decide)]; omega) | (rw [if_neg (by decide)]; omega)), (by repeat' (first | (with_reducible exact up_refl _) | (with_reducible assumption) | (with_reducible refine up_alloc ?_ _) | (with_reducible refine up_drewN ?_ _) | (with_reducible refine up_drew ?_) | (with_reducible refine up_set ?_ (by first | (simp; done) | (simp; omega) | omega) _) | (refine up_trans ?_ (by with_reducible assumption))))⟩
    · rw [decide_eq_false c2]
      by_cases c3 : 0 < R
      · rw [if_pos c3]
        go_enter Try.func60, Try.ntmps60
        go_wp2_with (first | (go_at_call 84; (with_reducible refine (unhide hHA _).mono ?_); rintro e w1 ⟨rfl, rfl⟩) | (go_at_call 84; (with_reducible refine (unhide hHT _).mono ?_); rintro e w1 ⟨rfl, rfl⟩) | (go_at_call 83; (with_reducible refine (unhide hHM _).mono ?_); rintro e w1 ⟨rfl, rfl⟩) | (go_at_call 85; (with_reducible refine (unhide hHD _).mono ?_); rintro e w1 ⟨rfl, hb⟩; have k0_0 : w1.cell? ⟨w.heap.size, 0, none⟩ = some (.int .i64 n) := up_cell hb (by first | (with_reducible assumption) | (refine alloc_cell _ ?_; with_reducible assumption) | go_cell); have k0_1 : w1.cell? ⟨w.heap.size, 1, none⟩ = some (.int .i64 d) := up_cell hb (by first | (with_reducible assumption) | (refine alloc_cell _ ?_; with_reducible assumption) | go_cell)))
        all_goals go_ret
        all_goals exact ⟨ret_int (by first | rfl | omega | (split <;> omega) | (rw [if_pos (by decide)]; omega) | (rw [if_neg (by decide)]; omega)), (by repeat' (first | (with_reducible exact up_refl _) | (with_reducible assumption) | (with_reducible refine up_alloc ?_ _) | (with_reducible refine up_drewN ?_ _) | (with_reducible refine up_drew ?_) | (with_reducible refine up_set ?_ (by first | (simp; done) | (simp; omega) | omega) _) | (refine up_trans ?_ (by with_reducible assumption))))⟩
      · rw [if_neg c3]
        go_enter Try.func60, Try.ntmps60
        go_wp2_with (first | (go_at_call 84; (with_reducible refine (unhide hHA _).mono ?_); rintro e w1 ⟨rfl, rfl⟩) | (go_at_call 84; (with_reducible refine (unhide hHT _).mono ?_); rintro e w1 ⟨rfl, rfl⟩) | (go_at_call 83; (with_reducible refine (unhide hHM _).mono ?_); rintro e w1 ⟨rfl, rfl⟩) | (go_at_call 85; (with_reducible refine (unhide hHD _).mono ?_); rintro e w1 ⟨rfl, hb⟩; have k0_0 : w1.cell? ⟨w.heap.size, 0, none⟩ = some (.int .i64 n) := up_cell hb (by first | (with_reducible assumption) | (refine alloc_cell _ ?_; with_reducible assumption) | go_cell); have k0_1 : w1.cell? ⟨w.heap.size, 1, none⟩ = some (.int .i64 d) := up_cell hb (by first | (with_reducible assumption) | (refine alloc_cell _ ?_; with_reducible assumption) | go_cell)))
        all_goals go_ret
        all_goals exact ⟨ret_int (by first | rfl | omega | (split <;> omega) | (rw [if_pos (by decide)]; omega) | (rw [if_neg (by decide)]; omega)), (by repeat' (first | (with_reducible exact up_refl _) | (with_reducible assumption) | (with_reducible refine up_alloc ?_ _) | (with_reducible refine up_drewN ?_ _) | (with_reducible refine up_drew ?_) | (with_reducible refine up_set ?_ (by first | (simp; done) | (simp; omega) | omega) _) | (refine up_trans ?_ (by with_reducible assumption))))⟩
  · rw [decide_eq_false c1]
    by_cases c2 : t < 0
    · rw [decide_eq_true c2]
      by_cases c3 : 0 < R
      · rw [if_pos c3]
        go_enter Try.func60, Try.ntmps60
        go_wp2_with (first | (go_at_call 84; (with_reducible refine (unhide hHA _).mono ?_); rintro e w1 ⟨rfl, rfl⟩) | (go_at_call 84; (with_reducible refine (unhide hHT _).mono ?_); rintro e w1 ⟨rfl, rfl⟩) | (go_at_call 83; (with_reducible refine (unhide hHM _).mono ?_); rintro e w1 ⟨rfl, rfl⟩) | (go_at_call 85; (with_reducible refine (unhide hHD _).mono ?_); rintro e w1 ⟨rfl, hb⟩; have k0_0 : w1.cell? ⟨w.heap.size, 0, none⟩ = some (.int .i64 n) := up_cell hb (by first | (with_reducible assumption) | (refine alloc_cell _ ?_; with_reducible assumption) | go_cell); have k0_1 : w1.cell? ⟨w.heap.size, 1, none⟩ = some (.int .i64 d) := up_cell hb (by first | (with_reducible assumption) | (refine alloc_cell _ ?_; with_reducible assumption) | go_cell)))
        all_goals go_ret
        all_goals exact ⟨ret_int (by first | rfl | omega | (split <;> omega) | (rw [if_pos (by decide)]; omega) | (rw [if_neg (by decide)]; omega)), (by repeat' (first | (with_reducible exact up_refl _) | (with_reducible assumption) | (with_reducible refine up_alloc ?_ _) | (with_reducible refine up_drewN ?_ _) | (with_reducible refine up_drew ?_) | (with_reducible refine up_set ?_ (by first | (simp; done) | (simp; omega) | omega) _) | (refine up_trans ?_ (by with_reducible assumption))))⟩
      · rw [if_neg c3]
        go_enter Try.func60, Try.ntmps60
        go_wp2_with (first | (go_at_call 84; (with_reducible refine (unhide hHA _).mono ?_); rintro e w1 ⟨rfl, rfl⟩) | (go_at_call 84; (with_reducible refine (unhide hHT _).mono ?_); rintro e w1 ⟨rfl, rfl⟩) | (go_at_call 83; (with_reducible refine (unhide hHM _).mono ?_); rintro e w1 ⟨rfl, rfl⟩) | (go_at_call 85; (with_reducible refine (unhide hHD _).mono ?_); rintro e w1 ⟨rfl, hb⟩; have k0_0 : w1.cell? ⟨w.heap.size, 0, none⟩ = some (.int .i64 n) := up_cell hb (by first | (with_reducible assumption) | (refine alloc_cell _ ?_; with_reducible assumption) | go_cell); have k0_1 : w1.cell? ⟨w.heap.size, 1, none⟩ = some (.int .i64 d) := up_cell hb (by first | (with_reducible assumption) | (refine alloc_cell _ ?_; with_reducible assumption) | go_cell)))
        all_goals go_ret
        all_goals exact ⟨ret_int (by first | rfl | omega | (split <;> omega) | (rw [if_pos (by decide)]; omega) | (rw [if_neg (by decide)]; omega)), (by repeat' (first | (with_reducible exact up_refl _) | (with_reducible assumption) | (with_reducible refine up_alloc ?_ _) | (with_reducible refine up_drewN ?_ _) | (with_reducible refine up_drew ?_) | (with_reducible refine up_set ?_ (by first | (simp; done) | (simp; omega) | omega) _) | (refine up_trans ?_ (by with_reducible assumption))))⟩
    · have cc : (decide (n < 0) == decide (t < 0)) = true := by rw [decide_eq_false c1, decide_eq_false c2]; rfl
      rw [decide_eq_false c2]
      go_enter Try.func60, Try.ntmps60
      go_wp2_with (first | (go_at_call 84; (with_reducible refine (unhide hHA _).mono ?_); rintro e w1 ⟨rfl, rfl⟩) | (go_at_call 84; (with_reducible refine (unhide hHT _).mono ?_); rintro e w1 ⟨rfl, rfl⟩) | (go_at_call 83; (with_reducible refine (unhide hHM _).mono ?_); rintro e w1 ⟨rfl, rfl⟩) | (go_at_call 85; (with_reducible refine (unhide hHD _).mono ?_); rintro e w1 ⟨rfl, hb⟩; have k0_0 : w1.cell? ⟨w.heap.size, 0, none⟩ = some (.int .i64 n) := up_cell hb (by first | (with_reducible assumption) | (refine alloc_cell _ ?_; with_reducible assumption) | go_cell); have k0_1 : w1.cell? ⟨w.heap.size, 1, none⟩ = some (.int .i64 d) := up_cell hb (by first | (with_reducible assumption) | (refine alloc_cell _ ?_; with_reducible assumption) | go_cell)))
      all_goals go_ret
      all_goals exact ⟨ret_int (by first | rfl | omega | (split <;> omega) | (rw [if_pos (by decide)]; omega) | (rw [if_neg (by decide)]; omega)), (by repeat' (first | (with_reducible exact up_refl _) | (with_reducible assumption) | (with_reducible refine up_alloc ?_ _) | (with_reducible refine up_drewN ?_ _) | (with_reducible refine up_drew ?_) | (with_reducible refine up_set ?_ (by first | (simp; done) | (simp; omega) | omega) _) | (refine up_trans ?_ (by with_reducible assumption))))⟩
/-- Rounded up. -/
def up (n d t : Int) : Int := -(n * -t / d)
theorem p_up (n d t : Int) (w : World) (hn : -4611686018427387904 ≤ n ∧ n ≤ 4611686018427387904) (ht : -4611686018427387904 ≤ t ∧ t ≤ 4611686018427387904) (hd : 1 ≤ d ∧ d ≤ 4611686018427387904) (hq : amt n * amt t < d * 4611686018427387904) :
    Calls Try.prog 31 #[fr n d, .int .i64 t] w fun e w' => e = .returned (.int .i64 (up n d t)) ∧ Up w w' := by
  have am : amt (-t) = amt t := by unfold amt; split <;> split <;> omega
  have H := fun W => p_down n d (-t) W hn (by omega) hd (by rw [am]; exact hq)
  have bd : -4611686018427387904 ≤ n * -t / d ∧ n * -t / d ≤ 4611686018427387904 := by
    have k : -(amt n * amt t) ≤ n * -t ∧ n * -t ≤ amt n * amt t := by
      have p0 : 0 ≤ amt n * amt t := Int.mul_nonneg (amt_nonneg n) (amt_nonneg t)
      have h1 : amt n = n ∨ amt n = -n := by unfold amt; split <;> omega
      have h2 : amt t = t ∨ amt t = -t := by unfold amt; split <;> omega
      rcases h1 with h1 | h1 <;> rcases h2 with h2 | h2 <;> rw [h1, h2] at p0 ⊢ <;> (try simp only [Int.neg_mul, Int.mul_neg, Int.neg_neg] at p0) <;> (try simp only [Int.neg_mul, Int.mul_neg, Int.neg_neg]) <;> omega
    refine ⟨(Int.le_ediv_iff_mul_le (by omega)).2 ?_, Int.le_of_lt (Int.ediv_lt_of_lt_mul (by omega) ?_)⟩
    · rw [Int.neg_mul, Int.mul_comm]; omega
    · omega
  unfold up
  obtain ⟨X, hX⟩ : ∃ X, n * -t / d = X := ⟨_, rfl⟩
  rw [hX] at H bd ⊢
  have hH := hide H
  clear H hq hX am hn hd
  obtain ⟨b1, b2⟩ := bd
  go_enter Try.func31, Try.ntmps31
  go_wp2_with (go_at_call 60; (with_reducible refine (unhide hH _).mono ?_); rintro e w1 ⟨rfl, hb⟩)
  go_ret
  exact ⟨rfl, (by repeat' (first | (with_reducible exact up_refl _) | (with_reducible assumption) | (with_reducible refine up_alloc ?_ _) | (with_reducible refine up_drewN ?_ _) | (with_reducible refine up_drew ?_) | (with_reducible refine up_set ?_ (by first | (simp; done) | (simp; omega) | omega) _) | (refine up_trans ?_ (by with_reducible assumption))))⟩
end Go.Proofs.Ytooochbfnmmnkaa
