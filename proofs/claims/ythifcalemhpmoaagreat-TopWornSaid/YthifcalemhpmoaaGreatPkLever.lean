/- What both ends of a line carry. What a fraction returns, rounded down and up; levers. -/
import Derived.Test.YthifcalemhpmoaaGreatPkDivH
import Derived.Test.YthifcalemhpmoaaGreatPlat
namespace Go.Proofs.YthifcalemhpmoaaGreat
open Go.RowKit Go.Proofs.Gn
theorem amt_nonneg (n : Int) : 0 ≤ amt n := by unfold amt; split <;> omega
theorem floor_neg {P d : Int} (hd : 0 < d) : (-P) / d = -(P / d) - (if 0 < P % d then 1 else 0) := by
  have e := Int.mul_ediv_add_emod P d
  have r := Int.emod_nonneg P (show d ≠ 0 by omega)
  have s := Int.emod_lt_of_pos P hd
  generalize P / d = q at *
  generalize P % d = t at *
  rw [Int.mul_comm] at e
  by_cases h : 0 < t
  · rw [if_pos h]
    symm
    have k : (-q - 1) * d = -(q * d) - d := by rw [Int.sub_mul, Int.neg_mul, Int.one_mul]
    exact ediv_unique hd (by omega) (by omega)
  · rw [if_neg h]
    symm
    have k : (-q - 0) * d = -(q * d) := by rw [Int.sub_zero, Int.neg_mul]
    exact ediv_unique hd (by omega) (by omega)
theorem b_Div64i (hi lo y : Int) (w : World) (h0 : 0 ≤ hi) (h1 : hi < y) (h3 : y < 18446744073709551616) (h4 : 0 ≤ lo) (h5 : lo < 18446744073709551616) :
    Calls Tryz.prog 128 #[.int .u64 hi, .int .u64 lo, .int .u64 y] w fun e w' => e = .returned (.tuple #[.int .u64 ((hi * 18446744073709551616 + lo) / y), .int .u64 ((hi * 18446744073709551616 + lo) % y)]) ∧ Up w w' := by
  obtain ⟨a, rfl⟩ := Int.eq_ofNat_of_zero_le h0
  obtain ⟨b, rfl⟩ := Int.eq_ofNat_of_zero_le h4
  obtain ⟨c, rfl⟩ := Int.eq_ofNat_of_zero_le (show 0 ≤ y by omega)
  refine (b_Div64 a b c w (by omega) (by omega) (by omega)).mono fun e w' h => ⟨?_, h.2⟩
  rw [h.1]
  simp
abbrev fr (n d : Int) : Value := .agg #[.int .i64 n, .int .i64 d]
set_option maxRecDepth 100000 in
set_option maxHeartbeats 2000000 in
theorem p_down (n d t : Int) (w : World) (hn : -4611686018427387904 ≤ n ∧ n ≤ 4611686018427387904) (ht : -4611686018427387904 ≤ t ∧ t ≤ 4611686018427387904) (hd : 1 ≤ d ∧ d ≤ 4611686018427387904) (hq : amt n * amt t < d * 4611686018427387904) :
    Calls Tryz.prog 100 #[fr n d, .int .i64 t] w fun e w' => e = .returned (.int .i64 (n * t / d)) ∧ Up w w' := by
  have HA := fun W => p_amount n W (by omega) (by omega)
  have HT := fun W => p_amount t W (by omega) (by omega)
  obtain ⟨A, hA⟩ : ∃ A, amt n = A := ⟨_, rfl⟩
  obtain ⟨T, hT⟩ : ∃ A, amt t = A := ⟨_, rfl⟩
  have a0 : 0 ≤ A ∧ A ≤ 4611686018427387904 := by rw [← hA]; unfold amt; split <;> omega
  have t0 : 0 ≤ T ∧ T ≤ 4611686018427387904 := by rw [← hT]; unfold amt; split <;> omega
  rw [hA] at HA hq
  rw [hT] at HT hq
  have HM := fun W => b_Mul64 A T W (by omega) (by omega) (by omega) (by omega)
  have P0 : 0 ≤ A * T := Int.mul_nonneg a0.1 t0.1
  have sgn : n * t = if (decide (n < 0) == decide (t < 0)) = true then A * T else -(A * T) := by
    rw [← hA, ← hT]
    unfold amt
    by_cases c1 : n < 0 <;> by_cases c2 : t < 0 <;> simp [c1, c2, Int.neg_mul, Int.mul_neg, Int.neg_neg]
  obtain ⟨P, hP⟩ : ∃ P, A * T = P := ⟨_, rfl⟩
  rw [hP] at HM P0 sgn hq
  have e1 := Int.mul_ediv_add_emod P 18446744073709551616
  have e2 := Int.emod_nonneg P (show (18446744073709551616 : Int) ≠ 0 by omega)
  have e3 := Int.emod_lt_of_pos P (show (0 : Int) < 18446744073709551616 by omega)
  have e4 : P / 18446744073709551616 < d := Int.ediv_lt_of_lt_mul (by omega) (by omega)
  have e5 : 0 ≤ P / 18446744073709551616 := Int.ediv_nonneg P0 (by omega)
  have HD := fun W => b_Div64i (P / 18446744073709551616) (P % 18446744073709551616) d W e5 e4 (by omega) e2 e3
  rw [show P / 18446744073709551616 * 18446744073709551616 + P % 18446744073709551616 = P by omega] at HD
  obtain ⟨H, hH⟩ : ∃ H, P / 18446744073709551616 = H := ⟨_, rfl⟩
  obtain ⟨L, hL⟩ : ∃ H, P % 18446744073709551616 = H := ⟨_, rfl⟩
  rw [hH, hL] at HM HD
  have q1 : P / d < 4611686018427387904 := Int.ediv_lt_of_lt_mul (by omega) (by rw [Int.mul_comm]; exact hq)
  have q2 : 0 ≤ P / d := Int.ediv_nonneg P0 (by omega)
  have q3 := Int.emod_nonneg P (show d ≠ 0 by omega)
  have q4 := Int.emod_lt_of_pos P (show 0 < d by omega)
  have fl := floor_neg (P := P) (show 0 < d by omega)
  have res : n * t / d = if (decide (n < 0) == decide (t < 0)) = true then P / d else -(P / d) - (if 0 < P % d then 1 else 0) := by
    rw [sgn]
    split
    · rfl
    · exact fl
  rw [res]
  obtain ⟨Q, hQ⟩ : ∃ H, P / d = H := ⟨_, rfl⟩
  obtain ⟨R, hR⟩ : ∃ H, P % d = H := ⟨_, rfl⟩
  rw [hQ, hR] at HD ⊢
  rw [hQ] at q1 q2
  rw [hR] at q3 q4
  have hHA := hide HA
  have hHT := hide HT
  have hHM := hide HM
  have hHD := hide HD
  obtain ⟨d1, d2⟩ := hd
  obtain ⟨a1, a2⟩ := a0
  obtain ⟨t1, t2⟩ := t0
  clear HA HT HM HD res sgn fl e1 e2 e3 e4 e5 hq P0 hP hH hL hQ hR hA hT hn ht
  by_cases c1 : n < 0
  · rw [decide_eq_true c1]
    by_cases c2 : t < 0
    · rw [decide_eq_true c2]
      go_enter Tryz.func100, Tryz.ntmps100
      go_wp2_with (first | (go_at_call 127; (with_reducible refine (unhide hHA _).mono ?_); rintro e w1 ⟨rfl, rfl⟩) | (go_at_call 127; (with_reducible refine (unhide hHT _).mono ?_); rintro e w1 ⟨rfl, rfl⟩) | (go_at_call 126; (with_reducible refine (unhide hHM _).mono ?_); rintro e w1 ⟨rfl, rfl⟩) | (go_at_call 128; (with_reducible refine (unhide hHD _).mono ?_); rintro e w1 ⟨rfl, hb⟩; have k0_0 : w1.cell? ⟨w.heap.size, 0, none⟩ = some (.int .i64 n) := up_cell hb (by first | (with_reducible assumption) | (refine alloc_cell _ ?_; with_reducible assumption) | go_cell); have k0_1 : w1.cell? ⟨w.heap.size, 1, none⟩ = some (.int .i64 d) := up_cell hb (by first | (with_reducible assumption) | (refine alloc_cell _ ?_; with_reducible assumption) | go_cell)))
      all_goals go_ret
      all_goals exact ⟨ret_int (by first | rfl | omega | (split <;> omega) | (rw [if_pos (by decide)]; omega) | (rw [if_neg (by decide)]; omega)), (by repeat' (first | (with_reducible exact up_refl _) | (with_reducible assumption) | (with_reducible refine up_alloc ?_ _) | (with_reducible refine up_drewN ?_ _) | (with_reducible refine up_drew ?_) | (with_reducible refine up_set ?_ (by first | (simp; done) | (simp; omega) | omega) _) | (refine up_trans ?_ (by with_reducible assumption))))⟩
    · rw [decide_eq_false c2]
      by_cases c3 : 0 < R
      · rw [if_pos c3]
        go_enter Tryz.func100, Tryz.ntmps100
        go_wp2_with (first | (go_at_call 127; (with_reducible refine (unhide hHA _).mono ?_); rintro e w1 ⟨rfl, rfl⟩) | (go_at_call 127; (with_reducible refine (unhide hHT _).mono ?_); rintro e w1 ⟨rfl, rfl⟩) | (go_at_call 126; (with_reducible refine (unhide hHM _).mono ?_); rintro e w1 ⟨rfl, rfl⟩) | (go_at_call 128; (with_reducible refine (unhide hHD _).mono ?_); rintro e w1 ⟨rfl, hb⟩; have k0_0 : w1.cell? ⟨w.heap.size, 0, none⟩ = some (.int .i64 n) := up_cell hb (by first | (with_reducible assumption) | (refine alloc_cell _ ?_; with_reducible assumption) | go_cell); have k0_1 : w1.cell? ⟨w.heap.size, 1, none⟩ = some (.int .i64 d) := up_cell hb (by first | (with_reducible assumption) | (refine alloc_cell _ ?_; with_reducible assumption) | go_cell)))
        all_goals go_ret
        all_goals exact ⟨ret_int (by first | rfl | omega | (split <;> omega) | (rw [if_pos (by decide)]; omega) | (rw [if_neg (by decide)]; omega)), (by repeat' (first | (with_reducible exact up_refl _) | (with_reducible assumption) | (with_reducible refine up_alloc ?_ _) | (with_reducible refine up_drewN ?_ _) | (with_reducible refine up_drew ?_) | (with_reducible refine up_set ?_ (by first | (simp; done) | (simp; omega) | omega) _) | (refine up_trans ?_ (by with_reducible assumption))))⟩
      · rw [if_neg c3]
        go_enter Tryz.func100, Tryz.ntmps100
        go_wp2_with (first | (go_at_call 127; (with_reducible refine (unhide hHA _).mono ?_); rintro e w1 ⟨rfl, rfl⟩) | (go_at_call 127; (with_reducible refine (unhide hHT _).mono ?_); rintro e w1 ⟨rfl, rfl⟩) | (go_at_call 126; (with_reducible refine (unhide hHM _).mono ?_); rintro e w1 ⟨rfl, rfl⟩) | (go_at_call 128; (with_reducible refine (unhide hHD _).mono ?_); rintro e w1 ⟨rfl, hb⟩; have k0_0 : w1.cell? ⟨w.heap.size, 0, none⟩ = some (.int .i64 n) := up_cell hb (by first | (with_reducible assumption) | (refine alloc_cell _ ?_; with_reducible assumption) | go_cell); have k0_1 : w1.cell? ⟨w.heap.size, 1, none⟩ = some (.int .i64 d) := up_cell hb (by first | (with_reducible assumption) | (refine alloc_cell _ ?_; with_reducible assumption) | go_cell)))
        all_goals go_ret
        all_goals exact ⟨ret_int (by first | rfl | omega | (split <;> omega) | (rw [if_pos (by decide)]; omega) | (rw [if_neg (by decide)]; omega)), (by repeat' (first | (with_reducible exact up_refl _) | (with_reducible assumption) | (with_reducible refine up_alloc ?_ _) | (with_reducible refine up_drewN ?_ _) | (with_reducible refine up_drew ?_) | (with_reducible refine up_set ?_ (by first | (simp; done) | (simp; omega) | omega) _) | (refine up_trans ?_ (by with_reducible assumption))))⟩
  · rw [decide_eq_false c1]
    by_cases c2 : t < 0
    · rw [decide_eq_true c2]
      by_cases c3 : 0 < R
      · rw [if_pos c3]
        go_enter Tryz.func100, Tryz.ntmps100
        go_wp2_with (first | (go_at_call 127; (with_reducible refine (unhide hHA _).mono ?_); rintro e w1 ⟨rfl, rfl⟩) | (go_at_call 127; (with_reducible refine (unhide hHT _).mono ?_); rintro e w1 ⟨rfl, rfl⟩) | (go_at_call 126; (with_reducible refine (unhide hHM _).mono ?_); rintro e w1 ⟨rfl, rfl⟩) | (go_at_call 128; (with_reducible refine (unhide hHD _).mono ?_); rintro e w1 ⟨rfl, hb⟩; have k0_0 : w1.cell? ⟨w.heap.size, 0, none⟩ = some (.int .i64 n) := up_cell hb (by first | (with_reducible assumption) | (refine alloc_cell _ ?_; with_reducible assumption) | go_cell); have k0_1 : w1.cell? ⟨w.heap.size, 1, none⟩ = some (.int .i64 d) := up_cell hb (by first | (with_reducible assumption) | (refine alloc_cell _ ?_; with_reducible assumption) | go_cell)))
        all_goals go_ret
        all_goals exact ⟨ret_int (by first | rfl | omega | (split <;> omega) | (rw [if_pos (by decide)]; omega) | (rw [if_neg (by decide)]; omega)), (by repeat' (first | (with_reducible exact up_refl _) | (with_reducible assumption) | (with_reducible refine up_alloc ?_ _) | (with_reducible refine up_drewN ?_ _) | (with_reducible refine up_drew ?_) | (with_reducible refine up_set ?_ (by first | (simp; done) | (simp; omega) | omega) _) | (refine up_trans ?_ (by with_reducible assumption))))⟩
      · rw [if_neg c3]
        go_enter Tryz.func100, Tryz.ntmps100
        go_wp2_with (first | (go_at_call 127; (with_reducible refine (unhide hHA _).mono ?_); rintro e w1 ⟨rfl, rfl⟩) | (go_at_call 127; (with_reducible refine (unhide hHT _).mono ?_); rintro e w1 ⟨rfl, rfl⟩) | (go_at_call 126; (with_reducible refine (unhide hHM _).mono ?_); rintro e w1 ⟨rfl, rfl⟩) | (go_at_call 128; (with_reducible refine (unhide hHD _).mono ?_); rintro e w1 ⟨rfl, hb⟩; have k0_0 : w1.cell? ⟨w.heap.size, 0, none⟩ = some (.int .i64 n) := up_cell hb (by first | (with_reducible assumption) | (refine alloc_cell _ ?_; with_reducible assumption) | go_cell); have k0_1 : w1.cell? ⟨w.heap.size, 1, none⟩ = some (.int .i64 d) := up_cell hb (by first | (with_reducible assumption) | (refine alloc_cell _ ?_; with_reducible assumption) | go_cell)))
        all_goals go_ret
        all_goals exact ⟨ret_int (by first | rfl | omega | (split <;> omega) | (rw [if_pos (by decide)]; omega) | (rw [if_neg (by decide)]; omega)), (by repeat' (first | (with_reducible exact up_refl _) | (with_reducible assumption) | (with_reducible refine up_alloc ?_ _) | (with_reducible refine up_drewN ?_ _) | (with_reducible refine up_drew ?_) | (with_reducible refine up_set ?_ (by first | (simp; done) | (simp; omega) | omega) _) | (refine up_trans ?_ (by with_reducible assumption))))⟩
    · have cc : (decide (n < 0) == decide (t < 0)) = true := by rw [decide_eq_false c1, decide_eq_false c2]; rfl
      rw [decide_eq_false c2]
      go_enter Tryz.func100, Tryz.ntmps100
      go_wp2_with (first | (go_at_call 127; (with_reducible refine (unhide hHA _).mono ?_); rintro e w1 ⟨rfl, rfl⟩) | (go_at_call 127; (with_reducible refine (unhide hHT _).mono ?_); rintro e w1 ⟨rfl, rfl⟩) | (go_at_call 126; (with_reducible refine (unhide hHM _).mono ?_); rintro e w1 ⟨rfl, rfl⟩) | (go_at_call 128; (with_reducible refine (unhide hHD _).mono ?_); rintro e w1 ⟨rfl, hb⟩; have k0_0 : w1.cell? ⟨w.heap.size, 0, none⟩ = some (.int .i64 n) := up_cell hb (by first | (with_reducible assumption) | (refine alloc_cell _ ?_; with_reducible assumption) | go_cell); have k0_1 : w1.cell? ⟨w.heap.size, 1, none⟩ = some (.int .i64 d) := up_cell hb (by first | (with_reducible assumption) | (refine alloc_cell _ ?_; with_reducible assumption) | go_cell)))
      all_goals go_ret
      all_goals exact ⟨ret_int (by first | rfl | omega | (split <;> omega) | (rw [if_pos (by decide)]; omega) | (rw [if_neg (by decide)]; omega)), (by repeat' (first | (with_reducible exact up_refl _) | (with_reducible assumption) | (with_reducible refine up_alloc ?_ _) | (with_reducible refine up_drewN ?_ _) | (with_reducible refine up_drew ?_) | (with_reducible refine up_set ?_ (by first | (simp; done) | (simp; omega) | omega) _) | (refine up_trans ?_ (by with_reducible assumption))))⟩
/-- Rounded up. -/
def up (n d t : Int) : Int := -(n * -t / d)
theorem p_up (n d t : Int) (w : World) (hn : -4611686018427387904 ≤ n ∧ n ≤ 4611686018427387904) (ht : -4611686018427387904 ≤ t ∧ t ≤ 4611686018427387904) (hd : 1 ≤ d ∧ d ≤ 4611686018427387904) (hq : amt n * amt t < d * 4611686018427387904) :
    Calls Tryz.prog 63 #[fr n d, .int .i64 t] w fun e w' => e = .returned (.int .i64 (up n d t)) ∧ Up w w' := by
  have am : amt (-t) = amt t := by unfold amt; split <;> split <;> omega
  have H := fun W => p_down n d (-t) W hn (by omega) hd (by rw [am]; exact hq)
  have bd : -4611686018427387904 ≤ n * -t / d ∧ n * -t / d ≤ 4611686018427387904 := by
    have k : -(amt n * amt t) ≤ n * -t ∧ n * -t ≤ amt n * amt t := by
      have p0 : 0 ≤ amt n * amt t := Int.mul_nonneg (amt_nonneg n) (amt_nonneg t)
      have h1 : amt n = n ∨ amt n = -n := by unfold amt; split <;> omega
      have h2 : amt t = t ∨ amt t = -t := by unfold amt; split <;> omega
      rcases h1 with h1 | h1 <;> rcases h2 with h2 | h2 <;> rw [h1, h2] at p0 ⊢ <;> (try simp only [Int.neg_mul, Int.mul_neg, Int.neg_neg] at p0) <;> (try simp only [Int.neg_mul, Int.mul_neg, Int.neg_neg]) <;> omega
    refine ⟨(Int.le_ediv_iff_mul_le (by omega)).2 ?_, Int.le_of_lt (Int.ediv_lt_of_lt_mul (by omega) ?_)⟩
    · rw [Int.neg_mul, Int.mul_comm]; omega
    · omega
  unfold up
  obtain ⟨X, hX⟩ : ∃ X, n * -t / d = X := ⟨_, rfl⟩
  rw [hX] at H bd ⊢
  have hH := hide H
  clear H hq hX am hn hd
  obtain ⟨b1, b2⟩ := bd
  go_enter Tryz.func63, Tryz.ntmps63
  go_wp2_with (go_at_call 100; (with_reducible refine (unhide hH _).mono ?_); rintro e w1 ⟨rfl, hb⟩)
  go_ret
  exact ⟨rfl, (by repeat' (first | (with_reducible exact up_refl _) | (with_reducible assumption) | (with_reducible refine up_alloc ?_ _) | (with_reducible refine up_drewN ?_ _) | (with_reducible refine up_drew ?_) | (with_reducible refine up_set ?_ (by first | (simp; done) | (simp; omega) | omega) _) | (refine up_trans ?_ (by with_reducible assumption))))⟩
end Go.Proofs.YthifcalemhpmoaaGreat
namespace Go.Proofs.YthifcalemhpmoaaGreat
open Go.RowKit Go.Proofs.Gn
theorem frac_bd {m len x : Int} (hm : 1 ≤ m ∧ m ≤ 16777216) (hl : 1 ≤ len ∧ len ≤ 33554432) (hx : 0 ≤ x ∧ x ≤ len) : amt m * amt x < len * 4611686018427387904 := by
  rw [amt_pos (by omega), amt_pos (by omega)]
  have a : m * x ≤ 16777216 * len := Int.mul_le_mul hm.2 hx.2 hx.1 (by omega)
  omega
theorem p_lever (m len x : Int) (w : World) (hm : 1 ≤ m ∧ m ≤ 16777216) (hl : 1 ≤ len ∧ len ≤ 33554432) (hx : 0 ≤ x ∧ x ≤ len) :
    Calls Tryz.prog 50 #[.int .i64 m, .int .i64 len, .int .i64 x] w fun e w' => e = .returned (.tuple #[.int .i64 (up m len (len - x)), .int .i64 (up m len x)]) ∧ Up w w' := by
  have H1 := fun W => p_up m len (len - x) W (by omega) (by omega) (by omega) (frac_bd hm hl (by omega))
  have H2 := fun W => p_up m len x W (by omega) (by omega) (by omega) (frac_bd hm hl (by omega))
  obtain ⟨U, hU⟩ : ∃ U, up m len (len - x) = U := ⟨_, rfl⟩
  obtain ⟨V, hV⟩ : ∃ U, up m len x = U := ⟨_, rfl⟩
  rw [hU] at H1 ⊢
  rw [hV] at H2 ⊢
  have h1 := hide H1
  have h2 := hide H2
  clear H1 H2 hU hV
  go_enter Tryz.func50, Tryz.ntmps50
  go_wp2_with (first | (go_at_call 63; (with_reducible refine (unhide h1 _).mono ?_); rintro e w1 ⟨rfl, hb⟩) | (go_at_call 63; (with_reducible refine (unhide h2 _).mono ?_); rintro e w2 ⟨rfl, hb2⟩))
  go_ret2
  exact ⟨rfl, (by repeat' (first | (with_reducible exact up_refl _) | (with_reducible assumption) | (with_reducible refine up_alloc ?_ _) | (with_reducible refine up_drewN ?_ _) | (with_reducible refine up_drew ?_) | (with_reducible refine up_set ?_ (by first | (simp; done) | (simp; omega) | omega) _) | (refine up_trans ?_ (by with_reducible assumption))))⟩
theorem ix3 (x0 x1 x2 : Int) (w : World) : (Instr.index 29 (.agg #[.int .i64 x0, .int .i64 x1, .int .i64 x2]) (.int .i64 0)).run Tryz.prog w = .ok (.int .i64 x0) w ∧ (Instr.index 29 (.agg #[.int .i64 x0, .int .i64 x1, .int .i64 x2]) (.int .i64 1)).run Tryz.prog w = .ok (.int .i64 x1) w ∧ (Instr.index 29 (.agg #[.int .i64 x0, .int .i64 x1, .int .i64 x2]) (.int .i64 2)).run Tryz.prog w = .ok (.int .i64 x2) w := by
  refine ⟨?_, ?_, ?_⟩ <;> simp [Instr.index, run_underlying Tryz.underlying29, asIntOf, go_sem]
def msE (m : Int) : Int := if win m 1 16777216 then 0 else 3
theorem p_checkMass (m : Int) (w : World) : Calls Tryz.prog 48 #[.int .i64 m] w fun e w' => e = .returned (.int .i64 (msE m)) ∧ w = w' := by
  have H1 : ∀ W : World, Calls Tryz.prog 49 #[.int .i64 m, .int .i64 1, .int .i64 16777216] W fun e w' => e = .returned (.bool (win m 1 16777216)) ∧ W = w' := fun W => p_within _ _ _ W
  unfold msE
  generalize win m 1 16777216 = b1 at *
  have h1 := hide H1
  clear H1
  cases b1
  · go_enter Tryz.func48, Tryz.ntmps48
    go_wp2_with (go_at_call 49; (with_reducible refine (unhide h1 _).mono ?_); rintro e w1 ⟨rfl, rfl⟩)
    go_ret
    exact ⟨rfl, rfl⟩
  · go_enter Tryz.func48, Tryz.ntmps48
    go_wp2_with (go_at_call 49; (with_reducible refine (unhide h1 _).mono ?_); rintro e w1 ⟨rfl, rfl⟩)
    go_ret
    exact ⟨rfl, rfl⟩
def plc (n : Int) : Bool := win n (-16777216) 16777216
def leE (m a b x : Int) : Int := if win m 1 16777216 then (if plc a && (plc b && plc x) then (if b ≤ a then 9 else if win x a b then 0 else 19) else 3) else 3
def leM (m a b x : Int) : Int := if leE m a b x = 0 then up m (b - a) (b - a - (x - a)) else 0
def leN (m a b x : Int) : Int := if leE m a b x = 0 then up m (b - a) (x - a) else 0
set_option maxHeartbeats 2000000 in
theorem p_Lever (m a b x : Int) (w : World) :
    Calls Tryz.prog 21 #[.int .i64 m, .int .i64 a, .int .i64 b, .int .i64 x] w fun e w' => e = .returned (.tuple #[.int .i64 (leM m a b x), .int .i64 (leN m a b x), .int .i64 (leE m a b x)]) ∧ Up w w' := by
  have HC := fun W => p_checkMass m W
  have Ha : ∀ W : World, Calls Tryz.prog 49 #[.int .i64 a, .int .i64 (-16777216), .int .i64 16777216] W fun e w' => e = .returned (.bool (plc a)) ∧ W = w' := fun W => p_within _ _ _ W
  have Hb : ∀ W : World, Calls Tryz.prog 49 #[.int .i64 b, .int .i64 (-16777216), .int .i64 16777216] W fun e w' => e = .returned (.bool (plc b)) ∧ W = w' := fun W => p_within _ _ _ W
  have Hx : ∀ W : World, Calls Tryz.prog 49 #[.int .i64 x, .int .i64 (-16777216), .int .i64 16777216] W fun e w' => e = .returned (.bool (plc x)) ∧ W = w' := fun W => p_within _ _ _ W
  have Hw : ∀ W : World, Calls Tryz.prog 49 #[.int .i64 x, .int .i64 a, .int .i64 b] W fun e w' => e = .returned (.bool (win x a b)) ∧ W = w' := fun W => p_within _ _ _ W
  have HL : win m 1 16777216 = true → plc a = true → plc b = true → plc x = true → ¬ b ≤ a → win x a b = true → ∀ W : World, Calls Tryz.prog 50 #[.int .i64 m, .int .i64 (b - a), .int .i64 (x - a)] W fun e w' => e = .returned (.tuple #[.int .i64 (up m (b - a) (b - a - (x - a))), .int .i64 (up m (b - a) (x - a))]) ∧ Up W w' := fun g1 g2 g3 g4 g5 g6 W => by
    unfold plc at g2 g3 g4
    rw [win_iff] at g1 g2 g3 g4 g6
    exact p_lever m (b - a) (x - a) W g1 (by omega) (by omega)
  have B : plc a = true → plc b = true → plc x = true → (-16777216 ≤ a ∧ a ≤ 16777216) ∧ (-16777216 ≤ b ∧ b ≤ 16777216) ∧ (-16777216 ≤ x ∧ x ≤ 16777216) := fun g2 g3 g4 => by
    unfold plc at g2 g3 g4
    rw [win_iff] at g2 g3 g4
    exact ⟨g2, g3, g4⟩
  unfold leM leN leE
  unfold msE at HC
  generalize win m 1 16777216 = b1 at *
  generalize plc a = b2 at *
  generalize plc b = b3 at *
  generalize plc x = b4 at *
  generalize win x a b = b5 at *
  have ix := fun w => ix3 a b x w
  have ix0 := fun w => (ix w).1
  have ix1 := fun w => (ix w).2.1
  have ix2 := fun w => (ix w).2.2
  clear ix
  have hC := hide HC
  have ha := hide Ha
  have hb := hide Hb
  have hx := hide Hx
  have hw := hide Hw
  have HL2 := hide HL
  have B2 := hide B
  clear HC Ha Hb Hx Hw HL B
  cases b1
  · have hC := hide (show ∀ W : World, Calls Tryz.prog 48 #[.int .i64 m] W fun e w' => e = .returned (.int .i64 3) ∧ W = w' from unhide hC)
    show Calls Tryz.prog 21 #[.int .i64 m, .int .i64 a, .int .i64 b, .int .i64 x] w fun e w' => e = .returned (.tuple #[.int .i64 0, .int .i64 0, .int .i64 3]) ∧ Up w w'
    go_enter Tryz.func21, Tryz.ntmps21
    go_wp2_with (first | (go_at_call 48; (with_reducible refine (unhide hC _).mono ?_); rintro e w1 ⟨rfl, rfl⟩) | (go_at_call 49; (with_reducible refine (unhide ha _).mono ?_); rintro e w1 ⟨rfl, rfl⟩) | (go_at_call 49; (with_reducible refine (unhide hb _).mono ?_); rintro e w1 ⟨rfl, rfl⟩) | (go_at_call 49; (with_reducible refine (unhide hx _).mono ?_); rintro e w1 ⟨rfl, rfl⟩) | (go_at_call 49; (with_reducible refine (unhide hw _).mono ?_); rintro e w1 ⟨rfl, rfl⟩))
    go_ret3
    exact ⟨rfl, (by repeat' (first | (with_reducible exact up_refl _) | (with_reducible assumption) | (with_reducible refine up_alloc ?_ _) | (with_reducible refine up_drewN ?_ _) | (with_reducible refine up_drew ?_) | (with_reducible refine up_set ?_ (by first | (simp; done) | (simp; omega) | omega) _) | (refine up_trans ?_ (by with_reducible assumption))))⟩
  replace hC := hide (show ∀ W : World, Calls Tryz.prog 48 #[.int .i64 m] W fun e w' => e = .returned (.int .i64 0) ∧ W = w' from unhide hC)
  cases b2
  · show Calls Tryz.prog 21 #[.int .i64 m, .int .i64 a, .int .i64 b, .int .i64 x] w fun e w' => e = .returned (.tuple #[.int .i64 0, .int .i64 0, .int .i64 3]) ∧ Up w w'
    go_enter Tryz.func21, Tryz.ntmps21
    go_wp2_with (first | (go_at_call 48; (with_reducible refine (unhide hC _).mono ?_); rintro e w1 ⟨rfl, rfl⟩) | (go_at_call 49; (with_reducible refine (unhide ha _).mono ?_); rintro e w1 ⟨rfl, rfl⟩) | (go_at_call 49; (with_reducible refine (unhide hb _).mono ?_); rintro e w1 ⟨rfl, rfl⟩) | (go_at_call 49; (with_reducible refine (unhide hx _).mono ?_); rintro e w1 ⟨rfl, rfl⟩) | (go_at_call 49; (with_reducible refine (unhide hw _).mono ?_); rintro e w1 ⟨rfl, rfl⟩))
    refine wp_loop_rounds 4 ?_
    rw [rounds_succ]
    go_wp2_with (first | (go_at_call 48; (with_reducible refine (unhide hC _).mono ?_); rintro e w1 ⟨rfl, rfl⟩) | (go_at_call 49; (with_reducible refine (unhide ha _).mono ?_); rintro e w1 ⟨rfl, rfl⟩) | (go_at_call 49; (with_reducible refine (unhide hb _).mono ?_); rintro e w1 ⟨rfl, rfl⟩) | (go_at_call 49; (with_reducible refine (unhide hx _).mono ?_); rintro e w1 ⟨rfl, rfl⟩) | (go_at_call 49; (with_reducible refine (unhide hw _).mono ?_); rintro e w1 ⟨rfl, rfl⟩))
    go_ret3
    exact ⟨rfl, (by repeat' (first | (with_reducible exact up_refl _) | (with_reducible assumption) | (with_reducible refine up_alloc ?_ _) | (with_reducible refine up_drewN ?_ _) | (with_reducible refine up_drew ?_) | (with_reducible refine up_set ?_ (by first | (simp; done) | (simp; omega) | omega) _) | (refine up_trans ?_ (by with_reducible assumption))))⟩
  cases b3
  · show Calls Tryz.prog 21 #[.int .i64 m, .int .i64 a, .int .i64 b, .int .i64 x] w fun e w' => e = .returned (.tuple #[.int .i64 0, .int .i64 0, .int .i64 3]) ∧ Up w w'
    go_enter Tryz.func21, Tryz.ntmps21
    go_wp2_with (first | (go_at_call 48; (with_reducible refine (unhide hC _).mono ?_); rintro e w1 ⟨rfl, rfl⟩) | (go_at_call 49; (with_reducible refine (unhide ha _).mono ?_); rintro e w1 ⟨rfl, rfl⟩) | (go_at_call 49; (with_reducible refine (unhide hb _).mono ?_); rintro e w1 ⟨rfl, rfl⟩) | (go_at_call 49; (with_reducible refine (unhide hx _).mono ?_); rintro e w1 ⟨rfl, rfl⟩) | (go_at_call 49; (with_reducible refine (unhide hw _).mono ?_); rintro e w1 ⟨rfl, rfl⟩))
    refine wp_loop_rounds 4 ?_
    rw [rounds_succ]
    go_wp2_with (first | (go_at_call 48; (with_reducible refine (unhide hC _).mono ?_); rintro e w1 ⟨rfl, rfl⟩) | (go_at_call 49; (with_reducible refine (unhide ha _).mono ?_); rintro e w1 ⟨rfl, rfl⟩) | (go_at_call 49; (with_reducible refine (unhide hb _).mono ?_); rintro e w1 ⟨rfl, rfl⟩) | (go_at_call 49; (with_reducible refine (unhide hx _).mono ?_); rintro e w1 ⟨rfl, rfl⟩) | (go_at_call 49; (with_reducible refine (unhide hw _).mono ?_); rintro e w1 ⟨rfl, rfl⟩))
    rw [rounds_succ]
    go_wp2_with (first | (go_at_call 48; (with_reducible refine (unhide hC _).mono ?_); rintro e w1 ⟨rfl, rfl⟩) | (go_at_call 49; (with_reducible refine (unhide ha _).mono ?_); rintro e w1 ⟨rfl, rfl⟩) | (go_at_call 49; (with_reducible refine (unhide hb _).mono ?_); rintro e w1 ⟨rfl, rfl⟩) | (go_at_call 49; (with_reducible refine (unhide hx _).mono ?_); rintro e w1 ⟨rfl, rfl⟩) | (go_at_call 49; (with_reducible refine (unhide hw _).mono ?_); rintro e w1 ⟨rfl, rfl⟩))
    go_ret3
    exact ⟨rfl, (by repeat' (first | (with_reducible exact up_refl _) | (with_reducible assumption) | (with_reducible refine up_alloc ?_ _) | (with_reducible refine up_drewN ?_ _) | (with_reducible refine up_drew ?_) | (with_reducible refine up_set ?_ (by first | (simp; done) | (simp; omega) | omega) _) | (refine up_trans ?_ (by with_reducible assumption))))⟩
  cases b4
  · show Calls Tryz.prog 21 #[.int .i64 m, .int .i64 a, .int .i64 b, .int .i64 x] w fun e w' => e = .returned (.tuple #[.int .i64 0, .int .i64 0, .int .i64 3]) ∧ Up w w'
    go_enter Tryz.func21, Tryz.ntmps21
    go_wp2_with (first | (go_at_call 48; (with_reducible refine (unhide hC _).mono ?_); rintro e w1 ⟨rfl, rfl⟩) | (go_at_call 49; (with_reducible refine (unhide ha _).mono ?_); rintro e w1 ⟨rfl, rfl⟩) | (go_at_call 49; (with_reducible refine (unhide hb _).mono ?_); rintro e w1 ⟨rfl, rfl⟩) | (go_at_call 49; (with_reducible refine (unhide hx _).mono ?_); rintro e w1 ⟨rfl, rfl⟩) | (go_at_call 49; (with_reducible refine (unhide hw _).mono ?_); rintro e w1 ⟨rfl, rfl⟩))
    refine wp_loop_rounds 4 ?_
    rw [rounds_succ]
    go_wp2_with (first | (go_at_call 48; (with_reducible refine (unhide hC _).mono ?_); rintro e w1 ⟨rfl, rfl⟩) | (go_at_call 49; (with_reducible refine (unhide ha _).mono ?_); rintro e w1 ⟨rfl, rfl⟩) | (go_at_call 49; (with_reducible refine (unhide hb _).mono ?_); rintro e w1 ⟨rfl, rfl⟩) | (go_at_call 49; (with_reducible refine (unhide hx _).mono ?_); rintro e w1 ⟨rfl, rfl⟩) | (go_at_call 49; (with_reducible refine (unhide hw _).mono ?_); rintro e w1 ⟨rfl, rfl⟩))
    rw [rounds_succ]
    go_wp2_with (first | (go_at_call 48; (with_reducible refine (unhide hC _).mono ?_); rintro e w1 ⟨rfl, rfl⟩) | (go_at_call 49; (with_reducible refine (unhide ha _).mono ?_); rintro e w1 ⟨rfl, rfl⟩) | (go_at_call 49; (with_reducible refine (unhide hb _).mono ?_); rintro e w1 ⟨rfl, rfl⟩) | (go_at_call 49; (with_reducible refine (unhide hx _).mono ?_); rintro e w1 ⟨rfl, rfl⟩) | (go_at_call 49; (with_reducible refine (unhide hw _).mono ?_); rintro e w1 ⟨rfl, rfl⟩))
    rw [rounds_succ]
    go_wp2_with (first | (go_at_call 48; (with_reducible refine (unhide hC _).mono ?_); rintro e w1 ⟨rfl, rfl⟩) | (go_at_call 49; (with_reducible refine (unhide ha _).mono ?_); rintro e w1 ⟨rfl, rfl⟩) | (go_at_call 49; (with_reducible refine (unhide hb _).mono ?_); rintro e w1 ⟨rfl, rfl⟩) | (go_at_call 49; (with_reducible refine (unhide hx _).mono ?_); rintro e w1 ⟨rfl, rfl⟩) | (go_at_call 49; (with_reducible refine (unhide hw _).mono ?_); rintro e w1 ⟨rfl, rfl⟩))
    go_ret3
    exact ⟨rfl, (by repeat' (first | (with_reducible exact up_refl _) | (with_reducible assumption) | (with_reducible refine up_alloc ?_ _) | (with_reducible refine up_drewN ?_ _) | (with_reducible refine up_drew ?_) | (with_reducible refine up_set ?_ (by first | (simp; done) | (simp; omega) | omega) _) | (refine up_trans ?_ (by with_reducible assumption))))⟩
  obtain ⟨⟨a1, a2⟩, ⟨a3, a4⟩, ⟨a5, a6⟩⟩ := unhide B2 rfl rfl rfl
  by_cases c : b ≤ a
  · rw [if_pos c]
    show Calls Tryz.prog 21 #[.int .i64 m, .int .i64 a, .int .i64 b, .int .i64 x] w fun e w' => e = .returned (.tuple #[.int .i64 0, .int .i64 0, .int .i64 9]) ∧ Up w w'
    go_enter Tryz.func21, Tryz.ntmps21
    go_wp2_with (first | (go_at_call 48; (with_reducible refine (unhide hC _).mono ?_); rintro e w1 ⟨rfl, rfl⟩) | (go_at_call 49; (with_reducible refine (unhide ha _).mono ?_); rintro e w1 ⟨rfl, rfl⟩) | (go_at_call 49; (with_reducible refine (unhide hb _).mono ?_); rintro e w1 ⟨rfl, rfl⟩) | (go_at_call 49; (with_reducible refine (unhide hx _).mono ?_); rintro e w1 ⟨rfl, rfl⟩) | (go_at_call 49; (with_reducible refine (unhide hw _).mono ?_); rintro e w1 ⟨rfl, rfl⟩))
    refine wp_loop_rounds 4 ?_
    rw [rounds_succ]
    go_wp2_with (first | (go_at_call 48; (with_reducible refine (unhide hC _).mono ?_); rintro e w1 ⟨rfl, rfl⟩) | (go_at_call 49; (with_reducible refine (unhide ha _).mono ?_); rintro e w1 ⟨rfl, rfl⟩) | (go_at_call 49; (with_reducible refine (unhide hb _).mono ?_); rintro e w1 ⟨rfl, rfl⟩) | (go_at_call 49; (with_reducible refine (unhide hx _).mono ?_); rintro e w1 ⟨rfl, rfl⟩) | (go_at_call 49; (with_reducible refine (unhide hw _).mono ?_); rintro e w1 ⟨rfl, rfl⟩))
    rw [rounds_succ]
    go_wp2_with (first | (go_at_call 48; (with_reducible refine (unhide hC _).mono ?_); rintro e w1 ⟨rfl, rfl⟩) | (go_at_call 49; (with_reducible refine (unhide ha _).mono ?_); rintro e w1 ⟨rfl, rfl⟩) | (go_at_call 49; (with_reducible refine (unhide hb _).mono ?_); rintro e w1 ⟨rfl, rfl⟩) | (go_at_call 49; (with_reducible refine (unhide hx _).mono ?_); rintro e w1 ⟨rfl, rfl⟩) | (go_at_call 49; (with_reducible refine (unhide hw _).mono ?_); rintro e w1 ⟨rfl, rfl⟩))
    rw [rounds_succ]
    go_wp2_with (first | (go_at_call 48; (with_reducible refine (unhide hC _).mono ?_); rintro e w1 ⟨rfl, rfl⟩) | (go_at_call 49; (with_reducible refine (unhide ha _).mono ?_); rintro e w1 ⟨rfl, rfl⟩) | (go_at_call 49; (with_reducible refine (unhide hb _).mono ?_); rintro e w1 ⟨rfl, rfl⟩) | (go_at_call 49; (with_reducible refine (unhide hx _).mono ?_); rintro e w1 ⟨rfl, rfl⟩) | (go_at_call 49; (with_reducible refine (unhide hw _).mono ?_); rintro e w1 ⟨rfl, rfl⟩))
    rw [rounds_succ]
    go_wp2_with (first | (go_at_call 48; (with_reducible refine (unhide hC _).mono ?_); rintro e w1 ⟨rfl, rfl⟩) | (go_at_call 49; (with_reducible refine (unhide ha _).mono ?_); rintro e w1 ⟨rfl, rfl⟩) | (go_at_call 49; (with_reducible refine (unhide hb _).mono ?_); rintro e w1 ⟨rfl, rfl⟩) | (go_at_call 49; (with_reducible refine (unhide hx _).mono ?_); rintro e w1 ⟨rfl, rfl⟩) | (go_at_call 49; (with_reducible refine (unhide hw _).mono ?_); rintro e w1 ⟨rfl, rfl⟩))
    go_ret3
    exact ⟨rfl, (by repeat' (first | (with_reducible exact up_refl _) | (with_reducible assumption) | (with_reducible refine up_alloc ?_ _) | (with_reducible refine up_drewN ?_ _) | (with_reducible refine up_drew ?_) | (with_reducible refine up_set ?_ (by first | (simp; done) | (simp; omega) | omega) _) | (refine up_trans ?_ (by with_reducible assumption))))⟩
  rw [if_neg c]
  cases b5
  · show Calls Tryz.prog 21 #[.int .i64 m, .int .i64 a, .int .i64 b, .int .i64 x] w fun e w' => e = .returned (.tuple #[.int .i64 0, .int .i64 0, .int .i64 19]) ∧ Up w w'
    go_enter Tryz.func21, Tryz.ntmps21
    go_wp2_with (first | (go_at_call 48; (with_reducible refine (unhide hC _).mono ?_); rintro e w1 ⟨rfl, rfl⟩) | (go_at_call 49; (with_reducible refine (unhide ha _).mono ?_); rintro e w1 ⟨rfl, rfl⟩) | (go_at_call 49; (with_reducible refine (unhide hb _).mono ?_); rintro e w1 ⟨rfl, rfl⟩) | (go_at_call 49; (with_reducible refine (unhide hx _).mono ?_); rintro e w1 ⟨rfl, rfl⟩) | (go_at_call 49; (with_reducible refine (unhide hw _).mono ?_); rintro e w1 ⟨rfl, rfl⟩))
    refine wp_loop_rounds 4 ?_
    rw [rounds_succ]
    go_wp2_with (first | (go_at_call 48; (with_reducible refine (unhide hC _).mono ?_); rintro e w1 ⟨rfl, rfl⟩) | (go_at_call 49; (with_reducible refine (unhide ha _).mono ?_); rintro e w1 ⟨rfl, rfl⟩) | (go_at_call 49; (with_reducible refine (unhide hb _).mono ?_); rintro e w1 ⟨rfl, rfl⟩) | (go_at_call 49; (with_reducible refine (unhide hx _).mono ?_); rintro e w1 ⟨rfl, rfl⟩) | (go_at_call 49; (with_reducible refine (unhide hw _).mono ?_); rintro e w1 ⟨rfl, rfl⟩))
    rw [rounds_succ]
    go_wp2_with (first | (go_at_call 48; (with_reducible refine (unhide hC _).mono ?_); rintro e w1 ⟨rfl, rfl⟩) | (go_at_call 49; (with_reducible refine (unhide ha _).mono ?_); rintro e w1 ⟨rfl, rfl⟩) | (go_at_call 49; (with_reducible refine (unhide hb _).mono ?_); rintro e w1 ⟨rfl, rfl⟩) | (go_at_call 49; (with_reducible refine (unhide hx _).mono ?_); rintro e w1 ⟨rfl, rfl⟩) | (go_at_call 49; (with_reducible refine (unhide hw _).mono ?_); rintro e w1 ⟨rfl, rfl⟩))
    rw [rounds_succ]
    go_wp2_with (first | (go_at_call 48; (with_reducible refine (unhide hC _).mono ?_); rintro e w1 ⟨rfl, rfl⟩) | (go_at_call 49; (with_reducible refine (unhide ha _).mono ?_); rintro e w1 ⟨rfl, rfl⟩) | (go_at_call 49; (with_reducible refine (unhide hb _).mono ?_); rintro e w1 ⟨rfl, rfl⟩) | (go_at_call 49; (with_reducible refine (unhide hx _).mono ?_); rintro e w1 ⟨rfl, rfl⟩) | (go_at_call 49; (with_reducible refine (unhide hw _).mono ?_); rintro e w1 ⟨rfl, rfl⟩))
    rw [rounds_succ]
    go_wp2_with (first | (go_at_call 48; (with_reducible refine (unhide hC _).mono ?_); rintro e w1 ⟨rfl, rfl⟩) | (go_at_call 49; (with_reducible refine (unhide ha _).mono ?_); rintro e w1 ⟨rfl, rfl⟩) | (go_at_call 49; (with_reducible refine (unhide hb _).mono ?_); rintro e w1 ⟨rfl, rfl⟩) | (go_at_call 49; (with_reducible refine (unhide hx _).mono ?_); rintro e w1 ⟨rfl, rfl⟩) | (go_at_call 49; (with_reducible refine (unhide hw _).mono ?_); rintro e w1 ⟨rfl, rfl⟩))
    go_ret3
    exact ⟨rfl, (by repeat' (first | (with_reducible exact up_refl _) | (with_reducible assumption) | (with_reducible refine up_alloc ?_ _) | (with_reducible refine up_drewN ?_ _) | (with_reducible refine up_drew ?_) | (with_reducible refine up_set ?_ (by first | (simp; done) | (simp; omega) | omega) _) | (refine up_trans ?_ (by with_reducible assumption))))⟩
  · have hl := hide (unhide HL2 rfl rfl rfl rfl c rfl)
    obtain ⟨U, hU⟩ : ∃ U, up m (b - a) (b - a - (x - a)) = U := ⟨_, rfl⟩
    obtain ⟨V, hV⟩ : ∃ U, up m (b - a) (x - a) = U := ⟨_, rfl⟩
    rw [hU, hV] at hl ⊢
    clear hU hV
    show Calls Tryz.prog 21 #[.int .i64 m, .int .i64 a, .int .i64 b, .int .i64 x] w fun e w' => e = .returned (.tuple #[.int .i64 U, .int .i64 V, .int .i64 0]) ∧ Up w w'
    go_enter Tryz.func21, Tryz.ntmps21
    go_wp2_with (first | (go_at_call 48; (with_reducible refine (unhide hC _).mono ?_); rintro e w1 ⟨rfl, rfl⟩) | (go_at_call 49; (with_reducible refine (unhide ha _).mono ?_); rintro e w1 ⟨rfl, rfl⟩) | (go_at_call 49; (with_reducible refine (unhide hb _).mono ?_); rintro e w1 ⟨rfl, rfl⟩) | (go_at_call 49; (with_reducible refine (unhide hx _).mono ?_); rintro e w1 ⟨rfl, rfl⟩) | (go_at_call 49; (with_reducible refine (unhide hw _).mono ?_); rintro e w1 ⟨rfl, rfl⟩) | (go_at_call 50; (with_reducible refine (unhide hl _).mono ?_); rintro e w1 ⟨rfl, hbl⟩))
    refine wp_loop_rounds 4 ?_
    rw [rounds_succ]
    go_wp2_with (first | (go_at_call 48; (with_reducible refine (unhide hC _).mono ?_); rintro e w1 ⟨rfl, rfl⟩) | (go_at_call 49; (with_reducible refine (unhide ha _).mono ?_); rintro e w1 ⟨rfl, rfl⟩) | (go_at_call 49; (with_reducible refine (unhide hb _).mono ?_); rintro e w1 ⟨rfl, rfl⟩) | (go_at_call 49; (with_reducible refine (unhide hx _).mono ?_); rintro e w1 ⟨rfl, rfl⟩) | (go_at_call 49; (with_reducible refine (unhide hw _).mono ?_); rintro e w1 ⟨rfl, rfl⟩) | (go_at_call 50; (with_reducible refine (unhide hl _).mono ?_); rintro e w1 ⟨rfl, hbl⟩))
    rw [rounds_succ]
    go_wp2_with (first | (go_at_call 48; (with_reducible refine (unhide hC _).mono ?_); rintro e w1 ⟨rfl, rfl⟩) | (go_at_call 49; (with_reducible refine (unhide ha _).mono ?_); rintro e w1 ⟨rfl, rfl⟩) | (go_at_call 49; (with_reducible refine (unhide hb _).mono ?_); rintro e w1 ⟨rfl, rfl⟩) | (go_at_call 49; (with_reducible refine (unhide hx _).mono ?_); rintro e w1 ⟨rfl, rfl⟩) | (go_at_call 49; (with_reducible refine (unhide hw _).mono ?_); rintro e w1 ⟨rfl, rfl⟩) | (go_at_call 50; (with_reducible refine (unhide hl _).mono ?_); rintro e w1 ⟨rfl, hbl⟩))
    rw [rounds_succ]
    go_wp2_with (first | (go_at_call 48; (with_reducible refine (unhide hC _).mono ?_); rintro e w1 ⟨rfl, rfl⟩) | (go_at_call 49; (with_reducible refine (unhide ha _).mono ?_); rintro e w1 ⟨rfl, rfl⟩) | (go_at_call 49; (with_reducible refine (unhide hb _).mono ?_); rintro e w1 ⟨rfl, rfl⟩) | (go_at_call 49; (with_reducible refine (unhide hx _).mono ?_); rintro e w1 ⟨rfl, rfl⟩) | (go_at_call 49; (with_reducible refine (unhide hw _).mono ?_); rintro e w1 ⟨rfl, rfl⟩) | (go_at_call 50; (with_reducible refine (unhide hl _).mono ?_); rintro e w1 ⟨rfl, hbl⟩))
    rw [rounds_succ]
    go_wp2_with (first | (go_at_call 48; (with_reducible refine (unhide hC _).mono ?_); rintro e w1 ⟨rfl, rfl⟩) | (go_at_call 49; (with_reducible refine (unhide ha _).mono ?_); rintro e w1 ⟨rfl, rfl⟩) | (go_at_call 49; (with_reducible refine (unhide hb _).mono ?_); rintro e w1 ⟨rfl, rfl⟩) | (go_at_call 49; (with_reducible refine (unhide hx _).mono ?_); rintro e w1 ⟨rfl, rfl⟩) | (go_at_call 49; (with_reducible refine (unhide hw _).mono ?_); rintro e w1 ⟨rfl, rfl⟩) | (go_at_call 50; (with_reducible refine (unhide hl _).mono ?_); rintro e w1 ⟨rfl, hbl⟩))
    go_ret3
    exact ⟨rfl, (by repeat' (first | (with_reducible exact up_refl _) | (with_reducible assumption) | (with_reducible refine up_alloc ?_ _) | (with_reducible refine up_drewN ?_ _) | (with_reducible refine up_drew ?_) | (with_reducible refine up_set ?_ (by first | (simp; done) | (simp; omega) | omega) _) | (refine up_trans ?_ (by with_reducible assumption))))⟩
end Go.Proofs.YthifcalemhpmoaaGreat
