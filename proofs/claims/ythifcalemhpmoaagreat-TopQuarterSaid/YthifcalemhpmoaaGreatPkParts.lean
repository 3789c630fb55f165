/- The parts of a platform at a point. What a fraction returns, rounded down and up; levers. -/
import Derived.Test.YthifcalemhpmoaaGreatPkDivH
import Derived.Test.YthifcalemhpmoaaGreatPlat
namespace Go.Proofs.YthifcalemhpmoaaGreat
open Go.RowKit Go.Proofs.Gn
theorem amt_nonneg (n : Int) : 0 ≤ amt n := by unfold amt; split <;> omega
theorem floor_neg {P d : Int} (hd : 0 < d) : (-P) / d = -(P / d) - (if 0 < P % d then 1 else 0) := by
  have e := Int.mul_ediv_add_emod P d
  have r := Int.emod_nonneg P (show d ≠ 0 by omega)
  have s := Int.emod_lt_of_pos P hd
  generalize P / d = q at *
  generalize P % d = t at *
  rw [Int.mul_comm] at e
  by_cases h : 0 < t
  · rw [if_pos h]
    symm
    have k : (-q - 1) * d = -(q * d) - d := by rw [Int.sub_mul, Int.neg_mul, Int.one_mul]
    exact ediv_unique hd (by omega) (by omega)
  · rw [if_neg h]
    symm
    have k : (-q - 0) * d = -(q * d) := by rw [Int.sub_zero, Int.neg_mul]
    exact ediv_unique hd (by omega) (by omega)
theorem b_Div64i (hi lo y : Int) (w : World) (h0 : 0 ≤ hi) (h1 : hi < y) (h3 : y < 18446744073709551616) (h4 : 0 ≤ lo) (h5 : lo < 18446744073709551616) :
    Calls Tryz.prog 128 #[.int .u64 hi, .int .u64 lo, .int .u64 y] w fun e w' => e = .returned (.tuple #[.int .u64 ((hi * 18446744073709551616 + lo) / y), .int .u64 ((hi * 18446744073709551616 + lo) % y)]) ∧ Up w w' := by
  obtain ⟨a, rfl⟩ := Int.eq_ofNat_of_zero_le h0
  obtain ⟨b, rfl⟩ := Int.eq_ofNat_of_zero_le h4
  obtain ⟨c, rfl⟩ := Int.eq_ofNat_of_zero_le (show 0 ≤ y by omega)
  refine (b_Div64 a b c w (by omega) (by omega) (by omega)).mono fun e w' h => ⟨?_, h.2⟩
  rw [h.1]
  simp
abbrev fr (n d : Int) : Value := .agg #[.int .i64 n, .int .i64 d]
set_option maxRecDepth 100000 in
set_option maxHeartbeats 2000000 in
theorem p_down (n d t : Int) (w : World) (hn : -4611686018427387904 ≤ n ∧ n ≤ 4611686018427387904) (ht : -4611686018427387904 ≤ t ∧ t ≤ 4611686018427387904) (hd : 1 ≤ d ∧ d ≤ 4611686018427387904) (hq : amt n * amt t < d * 4611686018427387904) :
    Calls Tryz.prog 100 #[fr n d, .int .i64 t] w fun e w' => e = .returned (.int .i64 (n * t / d)) ∧ Up w w' := by
  have HA := fun W => p_amount n W (by omega) (by omega)
  have HT := fun W => p_amount t W (by omega) (by omega)
  obtain ⟨A, hA⟩ : ∃ A, amt n = A := ⟨_, rfl⟩
  obtain ⟨T, hT⟩ : ∃ A, amt t = A := ⟨_, rfl⟩
  have a0 : 0 ≤ A ∧ A ≤ 4611686018427387904 := by rw [← hA]; unfold amt; split <;> omega
  have t0 : 0 ≤ T ∧ T ≤ 4611686018427387904 := by rw [← hT]; unfold amt; split <;> omega
  rw [hA] at HA hq
  rw [hT] at HT hq
  have HM := fun W => b_Mul64 A T W (by omega) (by omega) (by omega) (by omega)
  have P0 : 0 ≤ A * T := Int.mul_nonneg a0.1 t0.1
  have sgn : n * t = if (decide (n < 0) == decide (t < 0)) = true then A * T else -(A * T) := by
    rw [← hA, ← hT]
    unfold amt
    by_cases c1 : n < 0 <;> by_cases c2 : t < 0 <;> simp [c1, c2, Int.neg_mul, Int.mul_neg, Int.neg_neg]
  obtain ⟨P, hP⟩ : ∃ P, A * T = P := ⟨_, rfl⟩
  rw [hP] at HM P0 sgn hq
  have e1 := Int.mul_ediv_add_emod P 18446744073709551616
  have e2 := Int.emod_nonneg P (show (18446744073709551616 : Int) ≠ 0 by omega)
  have e3 := Int.emod_lt_of_pos P (show (0 : Int) < 18446744073709551616 by omega)
  have e4 : P / 18446744073709551616 < d := Int.ediv_lt_of_lt_mul (by omega) (by omega)
  have e5 : 0 ≤ P / 18446744073709551616 := Int.ediv_nonneg P0 (by omega)
  have HD := fun W => b_Div64i (P / 18446744073709551616) (P % 18446744073709551616) d W e5 e4 (by omega) e2 e3
  rw [show P / 18446744073709551616 * 18446744073709551616 + P % 18446744073709551616 = P by omega] at HD
  obtain ⟨H, hH⟩ : ∃ H, P / 18446744073709551616 = H := ⟨_, rfl⟩
  obtain ⟨L, hL⟩ : ∃ H, P % 18446744073709551616 = H := ⟨_, rfl⟩
  rw [hH, hL] at HM HD
  have q1 : P / d < 4611686018427387904 := Int.ediv_lt_of_lt_mul (by omega) (by rw [Int.mul_comm]; exact hq)
  have q2 : 0 ≤ P / d := Int.ediv_nonneg P0 (by omega)
  have q3 := Int.emod_nonneg P (show d ≠ 0 by omega)
  have q4 := Int.emod_lt_of_pos P (show 0 < d by omega)
  have fl := floor_neg (P := P) (show 0 < d by omega)
  have res : n * t / d = if (decide (n < 0) == decide (t < 0)) = true then P / d else -(P / d) - (if 0 < P % d then 1 else 0) := by
    rw [sgn]
    split
    · rfl
    · exact fl
  rw [res]
  obtain ⟨Q, hQ⟩ : ∃ H, P / d = H := ⟨_, rfl⟩
  obtain ⟨R, hR⟩ : ∃ H, P % d = H := ⟨_, rfl⟩
  rw [hQ, hR] at HD ⊢
  rw [hQ] at q1 q2
  rw [hR] at q3 q4
  have hHA := hide HA
  have hHT := hide HT
  have hHM := hide HM
  have hHD := hide HD
  obtain ⟨d1, d2⟩ := hd
  obtain ⟨a1, a2⟩ := a0
  obtain ⟨t1, t2⟩ := t0
  clear HA HT HM HD res sgn fl e1 e2 e3 e4 e5 hq P0 hP hH hL hQ hR hA hT hn ht
  by_cases c1 : n < 0
  · rw [decide_eq_true c1]
    by_cases c2 : t < 0
    · rw [decide_eq_true c2]
      go_enter Tryz.func100, Tryz.ntmps100
      go_wp2_with (first | (go_at_call 127; (with_reducible refine (unhide hHA _).mono ?_); rintro e w1 ⟨rfl, rfl⟩) | (go_at_call 127; (with_reducible refine (unhide hHT _).mono ?_); rintro e w1 ⟨rfl, rfl⟩) | (go_at_call 126; (with_reducible refine (unhide hHM _).mono ?_); rintro e w1 ⟨rfl, rfl⟩) | (go_at_call 128; (with_reducible refine (unhide hHD _).mono ?_); rintro e w1 ⟨rfl, hb⟩; have k0_0 : w1.cell? ⟨w.heap.size, 0, none⟩ = some (.int .i64 n) := up_cell hb (by first | (with_reducible assumption) | (refine alloc_cell _ ?_; with_reducible assumption) | go_cell); have k0_1 : w1.cell? ⟨w.heap.size, 1, none⟩ = some (.int .i64 d) := up_cell hb (by first | (with_reducible assumption) | (refine alloc_cell _ ?_; with_reducible assumption) | go_cell)))
      all_goals go_ret
      all_goals exact ⟨ret_int (by first | rfl | omega | (split <;> omega) | (rw [if_pos (by decide)]; omega) | (rw [if_neg (by decide)]; omega)), (by repeat' (first | (with_reducible exact up_refl _) | (with_reducible assumption) | (with_reducible refine up_alloc ?_ _) | (with_reducible refine up_drewN ?_ _) | (with_reducible refine up_drew ?_) | (with_reducible refine up_set ?_ (by first | (simp; done) | (simp; omega) | omega) _) | (refine up_trans ?_ (by with_reducible assumption))))⟩
    · rw [decide_eq_false c2]
      by_cases c3 : 0 < R
      · rw [if_pos c3]
        go_enter Tryz.func100, Tryz.ntmps100
        go_wp2_with (first | (go_at_call 127; (with_reducible refine (unhide hHA _).mono ?_); rintro e w1 ⟨rfl, rfl⟩) | (go_at_call 127; (with_reducible refine (unhide hHT _).mono ?_); rintro e w1 ⟨rfl, rfl⟩) | (go_at_call 126; (with_reducible refine (unhide hHM _).mono ?_); rintro e w1 ⟨rfl, rfl⟩) | (go_at_call 128; (with_reducible refine (unhide hHD _).mono ?_); rintro e w1 ⟨rfl, hb⟩; have k0_0 : w1.cell? ⟨w.heap.size, 0, none⟩ = some (.int .i64 n) := up_cell hb (by first | (with_reducible assumption) | (refine alloc_cell _ ?_; with_reducible assumption) | go_cell); have k0_1 : w1.cell? ⟨w.heap.size, 1, none⟩ = some (.int .i64 d) := up_cell hb (by first | (with_reducible assumption) | (refine alloc_cell _ ?_; with_reducible assumption) | go_cell)))
        all_goals go_ret
        all_goals exact ⟨ret_int (by first | rfl | omega | (split <;> omega) | (rw [if_pos (by decide)]; omega) | (rw [if_neg (by decide)]; omega)), (by repeat' (first | (with_reducible exact up_refl _) | (with_reducible assumption) | (with_reducible refine up_alloc ?_ _) | (with_reducible refine up_drewN ?_ _) | (with_reducible refine up_drew ?_) | (with_reducible refine up_set ?_ (by first | (simp; done) | (simp; omega) | omega) _) | (refine up_trans ?_ (by with_reducible assumption))))⟩
      · rw [if_neg c3]
        go_enter Tryz.func100, Tryz.ntmps100
        go_wp2_with (first | (go_at_call 127; (with_reducible refine (unhide hHA _).mono ?_); rintro e w1 ⟨rfl, rfl⟩) | (go_at_call 127; (with_reducible refine (unhide hHT _).mono ?_); rintro e w1 ⟨rfl, rfl⟩) | (go_at_call 126; (with_reducible refine (unhide hHM _).mono ?_); rintro e w1 ⟨rfl, rfl⟩) | (go_at_call 128; (with_reducible refine (unhide hHD _).mono ?_); rintro e w1 ⟨rfl, hb⟩; have k0_0 : w1.cell? ⟨w.heap.size, 0, none⟩ = some (.int .i64 n) := up_cell hb (by first | (with_reducible assumption) | (refine alloc_cell _ ?_; with_reducible assumption) | go_cell); have k0_1 : w1.cell? ⟨w.heap.size, 1, none⟩ = some (.int .i64 d) := up_cell hb (by first | (with_reducible assumption) | (refine alloc_cell _ ?_; with_reducible assumption) | go_cell)))
        all_goals go_ret
        all_goals exact ⟨ret_int (by first | rfl | omega | (split <;> omega) | (rw [if_pos (by decide)]; omega) | (rw [if_neg (by decide)]; omega)), (by repeat' (first | (with_reducible exact up_refl _) | (with_reducible assumption) | (with_reducible refine up_alloc ?_ _) | (with_reducible refine up_drewN ?_ _) | (with_reducible refine up_drew ?_) | (with_reducible refine up_set ?_ (by first | (simp; done) | (simp; omega) | omega) _) | (refine up_trans ?_ (by with_reducible assumption))))⟩
  · rw [decide_eq_false c1]
    by_cases c2 : t < 0
    · rw [decide_eq_true c2]
      by_cases c3 : 0 < R
      · rw [if_pos c3]
        go_enter Tryz.func100, Tryz.ntmps100
        go_wp2_with (first | (go_at_call 127; (with_reducible refine (unhide hHA _).mono ?_); rintro e w1 ⟨rfl, rfl⟩) | (go_at_call 127; (with_reducible refine (unhide hHT _).mono ?_); rintro e w1 ⟨rfl, rfl⟩) | (go_at_call 126; (with_reducible refine (unhide hHM _).mono ?_); rintro e w1 ⟨rfl, rfl⟩) | (go_at_call 128; (with_reducible refine (unhide hHD _).mono ?_); rintro e w1 ⟨rfl, hb⟩; have k0_0 : w1.cell? ⟨w.heap.size, 0, none⟩ = some (.int .i64 n) := up_cell hb (by first | (with_reducible assumption) | (refine alloc_cell _ ?_; with_reducible assumption) | go_cell); have k0_1 : w1.cell? ⟨w.heap.size, 1, none⟩ = some (.int .i64 d) := up_cell hb (by first | (with_reducible assumption) | (refine alloc_cell _ ?_; with_reducible assumption) | go_cell)))
        all_goals go_ret
        all_goals exact ⟨ret_int (by first | rfl | omega | (split <;> omega) | (rw [if_pos (by decide)]; omega) | (rw [if_neg (by decide)]; omega)), (by repeat' (first | (with_reducible exact up_refl _) | (with_reducible assumption) | (with_reducible refine up_alloc ?_ _) | (with_reducible refine up_drewN ?_ _) | (with_reducible refine up_drew ?_) | (with_reducible refine up_set ?_ (by first | (simp; done) | (simp; omega) | omega) _) | (refine up_trans ?_ (by with_reducible assumption))))⟩
      · rw [if_neg c3]
        go_enter Tryz.func100, Tryz.ntmps100
        go_wp2_with (first | (go_at_call 127; (with_reducible refine (unhide hHA _).mono ?_); rintro e w1 ⟨rfl, rfl⟩) | (go_at_call 127; (with_reducible refine (unhide hHT _).mono ?_); rintro e w1 ⟨rfl, rfl⟩) | (go_at_call 126; (with_reducible refine (unhide hHM _).mono ?_); rintro e w1 ⟨rfl, rfl⟩) | (go_at_call 128; (with_reducible refine (unhide hHD _).mono ?_); rintro e w1 ⟨rfl, hb⟩; have k0_0 : w1.cell? ⟨w.heap.size, 0, none⟩ = some (.int .i64 n) := up_cell hb (by first | (with_reducible assumption) | (refine alloc_cell _ ?_; with_reducible assumption) | go_cell); have k0_1 : w1.cell? ⟨w.heap.size, 1, none⟩ = some (.int .i64 d) := up_cell hb (by first | (with_reducible assumption) | (refine alloc_cell _ ?_; with_reducible assumption) | go_cell)))
        all_goals go_ret
        all_goals exact ⟨ret_int (by first | rfl | omega | (split <;> omega) | (rw [if_pos (by decide)]; omega) | (rw [if_neg (by decide)]; omega)), (by repeat' (first | (with_reducible exact up_refl _) | (with_reducible assumption) | (with_reducible refine up_alloc ?_ _) | (with_reducible refine up_drewN ?_ _) | (with_reducible refine up_drew ?_) | (with_reducible refine up_set ?_ (by first | (simp; done) | (simp; omega) | omega) _) | (refine up_trans ?_ (by with_reducible assumption))))⟩
    · have cc : (decide (n < 0) == decide (t < 0)) = true := by rw [decide_eq_false c1, decide_eq_false c2]; rfl
      rw [decide_eq_false c2]
      go_enter Tryz.func100, Tryz.ntmps100
      go_wp2_with (first | (go_at_call 127; (with_reducible refine (unhide hHA _).mono ?_); rintro e w1 ⟨rfl, rfl⟩) | (go_at_call 127; (with_reducible refine (unhide hHT _).mono ?_); rintro e w1 ⟨rfl, rfl⟩) | (go_at_call 126; (with_reducible refine (unhide hHM _).mono ?_); rintro e w1 ⟨rfl, rfl⟩) | (go_at_call 128; (with_reducible refine (unhide hHD _).mono ?_); rintro e w1 ⟨rfl, hb⟩; have k0_0 : w1.cell? ⟨w.heap.size, 0, none⟩ = some (.int .i64 n) := up_cell hb (by first | (with_reducible assumption) | (refine alloc_cell _ ?_; with_reducible assumption) | go_cell); have k0_1 : w1.cell? ⟨w.heap.size, 1, none⟩ = some (.int .i64 d) := up_cell hb (by first | (with_reducible assumption) | (refine alloc_cell _ ?_; with_reducible assumption) | go_cell)))
      all_goals go_ret
      all_goals exact ⟨ret_int (by first | rfl | omega | (split <;> omega) | (rw [if_pos (by decide)]; omega) | (rw [if_neg (by decide)]; omega)), (by repeat' (first | (with_reducible exact up_refl _) | (with_reducible assumption) | (with_reducible refine up_alloc ?_ _) | (with_reducible refine up_drewN ?_ _) | (with_reducible refine up_drew ?_) | (with_reducible refine up_set ?_ (by first | (simp; done) | (simp; omega) | omega) _) | (refine up_trans ?_ (by with_reducible assumption))))⟩
/-- Rounded up. -/
def up (n d t : Int) : Int := -(n * -t / d)
theorem p_up (n d t : Int) (w : World) (hn : -4611686018427387904 ≤ n ∧ n ≤ 4611686018427387904) (ht : -4611686018427387904 ≤ t ∧ t ≤ 4611686018427387904) (hd : 1 ≤ d ∧ d ≤ 4611686018427387904) (hq : amt n * amt t < d * 4611686018427387904) :
    Calls Tryz.prog 63 #[fr n d, .int .i64 t] w fun e w' => e = .returned (.int .i64 (up n d t)) ∧ Up w w' := by
  have am : amt (-t) = amt t := by unfold amt; split <;> split <;> omega
  have H := fun W => p_down n d (-t) W hn (by omega) hd (by rw [am]; exact hq)
  have bd : -4611686018427387904 ≤ n * -t / d ∧ n * -t / d ≤ 4611686018427387904 := by
    have k : -(amt n * amt t) ≤ n * -t ∧ n * -t ≤ amt n * amt t := by
      have p0 : 0 ≤ amt n * amt t := Int.mul_nonneg (amt_nonneg n) (amt_nonneg t)
      have h1 : amt n = n ∨ amt n = -n := by unfold amt; split <;> omega
      have h2 : amt t = t ∨ amt t = -t := by unfold amt; split <;> omega
      rcases h1 with h1 | h1 <;> rcases h2 with h2 | h2 <;> rw [h1, h2] at p0 ⊢ <;> (try simp only [Int.neg_mul, Int.mul_neg, Int.neg_neg] at p0) <;> (try simp only [Int.neg_mul, Int.mul_neg, Int.neg_neg]) <;> omega
    refine ⟨(Int.le_ediv_iff_mul_le (by omega)).2 ?_, Int.le_of_lt (Int.ediv_lt_of_lt_mul (by omega) ?_)⟩
    · rw [Int.neg_mul, Int.mul_comm]; omega
    · omega
  unfold up
  obtain ⟨X, hX⟩ : ∃ X, n * -t / d = X := ⟨_, rfl⟩
  rw [hX] at H bd ⊢
  have hH := hide H
  clear H hq hX am hn hd
  obtain ⟨b1, b2⟩ := bd
  go_enter Tryz.func63, Tryz.ntmps63
  go_wp2_with (go_at_call 100; (with_reducible refine (unhide hH _).mono ?_); rintro e w1 ⟨rfl, hb⟩)
  go_ret
  exact ⟨rfl, (by repeat' (first | (with_reducible exact up_refl _) | (with_reducible assumption) | (with_reducible refine up_alloc ?_ _) | (with_reducible refine up_drewN ?_ _) | (with_reducible refine up_drew ?_) | (with_reducible refine up_set ?_ (by first | (simp; done) | (simp; omega) | omega) _) | (refine up_trans ?_ (by with_reducible assumption))))⟩
end Go.Proofs.YthifcalemhpmoaaGreat
namespace Go.Proofs.YthifcalemhpmoaaGreat
open Go.RowKit Go.Proofs.Gn
def pv (D q : Int) : Int := if D < 0 then -q else if 0 < D then q else 0
theorem row_pt {X Y : Int} (hX : -262144 ≤ X ∧ X ≤ 262144) (hY : -262144 ≤ Y ∧ Y ≤ 262144) : Gs.Row 1 X Y := by unfold Gs.Row; omega
theorem cmpV_mul (D q : Int) : cmpV D 0 * q = pv D q := by
  unfold cmpV pv
  by_cases h : D < 0
  · rw [if_pos h, if_pos h]; omega
  · rw [if_neg h, if_neg h]
    by_cases h2 : 0 < D
    · rw [if_pos h2, if_pos h2]; omega
    · rw [if_neg h2, if_neg h2]; omega
theorem pv_bd {D q : Int} (h : -11399736556781568 ≤ q ∧ q ≤ 11399736556781568) : -11399736556781568 ≤ pv D q ∧ pv D q ≤ 11399736556781568 := by
  unfold pv; split
  · omega
  · split <;> omega
theorem bx_three (w : World) (v1 v2 v3 : List Value) (t1 t2 t3 : TypeId) : Bx (((w.alloc (.cells v1.toArray t1)).alloc (.cells v2.toArray t2)).alloc (.cells v3.toArray t3)) w.heap.size v1 ∧ Bx (((w.alloc (.cells v1.toArray t1)).alloc (.cells v2.toArray t2)).alloc (.cells v3.toArray t3)) (w.heap.size + 1) v2 ∧ Bx (((w.alloc (.cells v1.toArray t1)).alloc (.cells v2.toArray t2)).alloc (.cells v3.toArray t3)) (w.heap.size + 1 + 1) v3 := by
  refine ⟨bx_alloc (bx_alloc (bx_new w _ _) _) _, ?_, ?_⟩
  · have h := bx_alloc (bx_new (w.alloc (.cells v1.toArray t1)) v2 t2) (.cells v3.toArray t3)
    rwa [sz1] at h
  · have h := bx_new ((w.alloc (.cells v1.toArray t1)).alloc (.cells v2.toArray t2)) v3 t3
    rwa [sz1, sz1] at h
theorem bx_thru {W v : World} {o : Obj} {b : Nat} {vs : List Value} (h : Bx W b vs) (hv : Up (W.alloc o) v) : Bx v b vs := bx_up (bx_alloc h o) hv
set_option maxHeartbeats 4000000 in
theorem p_parts {a0 a1 a2 b0 b1 b2 c0 c1 c2 X Y : Int} (ha : Gs.Row a0 a1 a2) (hb : Gs.Row b0 b1 b2) (hc : Gs.Row c0 c1 c2) (hX : -262144 ≤ X ∧ X ≤ 262144) (hY : -262144 ≤ Y ∧ Y ≤ 262144) (w : World) :
    Calls Tryz.prog 61 #[m9 a0 a1 a2 b0 b1 b2 c0 c1 c2, pt X Y] w fun e w' => e = .returned (.tuple #[.agg #[.int .i64 (pv (Gs.dt a0 a1 a2 b0 b1 b2 c0 c1 c2) (Gs.dt 1 X Y b0 b1 b2 c0 c1 c2)), .int .i64 (pv (Gs.dt a0 a1 a2 b0 b1 b2 c0 c1 c2) (Gs.dt a0 a1 a2 1 X Y c0 c1 c2)), .int .i64 (pv (Gs.dt a0 a1 a2 b0 b1 b2 c0 c1 c2) (Gs.dt a0 a1 a2 b0 b1 b2 1 X Y))], .int .i64 (pv (Gs.dt a0 a1 a2 b0 b1 b2 c0 c1 c2) (Gs.dt a0 a1 a2 b0 b1 b2 c0 c1 c2))]) ∧ Up w w' := by
  have hp := row_pt hX hY
  have H0 := fun W => p_determinant ha hb hc W
  have H1 := fun W => p_determinant hp hb hc W
  have H2 := fun W => p_determinant ha hp hc W
  have H3 := fun W => p_determinant ha hb hp W
  have d0 := Gs.dt_bd ha hb hc
  have d1 := Gs.dt_bd hp hb hc
  have d2 := Gs.dt_bd ha hp hc
  have d3 := Gs.dt_bd ha hb hp
  clear ha hb hc hp hX hY
  generalize Gs.dt a0 a1 a2 b0 b1 b2 c0 c1 c2 = D at *
  generalize Gs.dt 1 X Y b0 b1 b2 c0 c1 c2 = E1 at *
  generalize Gs.dt a0 a1 a2 1 X Y c0 c1 c2 = E2 at *
  generalize Gs.dt a0 a1 a2 b0 b1 b2 1 X Y = E3 at *
  have HCm : ∀ W : World, Calls Tryz.prog 97 #[.int .i64 D, .int .i64 0] W fun e w' => e = .returned (.int .i64 (cmpV D 0)) ∧ W = w' := fun W => c_Compare D 0 W
  have p0 := pv_bd (D := D) d0
  have p1 := pv_bd (D := D) d1
  have p2 := pv_bd (D := D) d2
  have p3 := pv_bd (D := D) d3
  have e0 := cmpV_mul D D
  have e1 := cmpV_mul D E1
  have e2 := cmpV_mul D E2
  have e3 := cmpV_mul D E3
  rw [← e0, ← e1, ← e2, ← e3]
  rw [← e0] at p0
  rw [← e1] at p1
  rw [← e2] at p2
  rw [← e3] at p3
  clear e0 e1 e2 e3
  generalize cmpV D 0 = S at *
  have h0 := hide H0
  have h1 := hide H1
  have h2 := hide H2
  have h3 := hide H3
  have hcm := hide HCm
  clear H0 H1 H2 H3 HCm
  go_enter Tryz.func61, Tryz.ntmps61
  go_wp2_with (first | (go_at_call 56; (with_reducible refine (unhide h0 _).mono ?_); rintro e w1 ⟨rfl, hb1⟩) | (go_at_call 97; (with_reducible refine (unhide hcm _).mono ?_); rintro e w2 ⟨rfl, rfl⟩))
  have three := bx_three w [.int .i64 a0, .int .i64 a1, .int .i64 a2, .int .i64 b0, .int .i64 b1, .int .i64 b2, .int .i64 c0, .int .i64 c1, .int .i64 c2] [.int .i64 X, .int .i64 Y] [.int .i64 0, .int .i64 0, .int .i64 0] 122 62 29
  have R0 := bx_up three.1 hb1
  have P0 := bx_up three.2.1 hb1
  have Z0 := bx_up three.2.2 hb1
  have U0 : Up w w1 := up_trans (by repeat' (first | (with_reducible exact up_refl _) | (with_reducible assumption) | (with_reducible refine up_alloc ?_ _) | (with_reducible refine up_drewN ?_ _) | (with_reducible refine up_drew ?_) | (with_reducible refine up_set ?_ (by first | (simp; done) | (simp; omega) | omega) _) | (refine up_trans ?_ (by with_reducible assumption)))) hb1
  clear three hb1
  have l0 := bx_lt Z0 (by simp)
  refine at_wp (fun W0 hW0 => ?_)
  have O0 : Bx W0 w1.heap.size [.int .i64 0, .int .i64 0, .int .i64 0] := by rw [hW0]; exact bx_new w1 _ 29
  have u0 : Up w1 W0 := by rw [hW0]; exact (by repeat' (first | (with_reducible exact up_refl _) | (with_reducible assumption) | (with_reducible refine up_alloc ?_ _) | (with_reducible refine up_drewN ?_ _) | (with_reducible refine up_drew ?_) | (with_reducible refine up_set ?_ (by first | (simp; done) | (simp; omega) | omega) _) | (refine up_trans ?_ (by with_reducible assumption))))
  replace R0 := bx_up R0 u0
  replace P0 := bx_up P0 u0
  replace Z0 := bx_up Z0 u0
  replace U0 := up_trans U0 u0
  clear hW0 u0
  refine wp_loop_rounds 4 ?_
  have m0 := bx_lt O0 (by simp)
  obtain ⟨q0, q1, q2, q3, q4, q5, q6, q7, q8⟩ := bx9 R0
  obtain ⟨x0, x1⟩ := bx2 P0
  have y0 := fun o => alloc_cell o x0
  have y1 := fun o => alloc_cell o x1
  rw [rounds_succ]
  go_wp2_with (go_at_call 56; (with_reducible refine (unhide h1 _).mono ?_); rintro e v1 ⟨rfl, hv⟩; have o3 := bx3 (bx_thru O0 hv); have f3 := bxf3 (bx_thru O0 hv); obtain ⟨o3, o4, o5⟩ := o3; obtain ⟨f3, f4, f5⟩ := f3)
  refine at_rounds (fun W1 hW1 => ?_)
  have R1 : Bx W1 w.heap.size [.int .i64 a0, .int .i64 a1, .int .i64 a2, .int .i64 b0, .int .i64 b1, .int .i64 b2, .int .i64 c0, .int .i64 c1, .int .i64 c2] := by rw [hW1]; exact bx_far (bx_thru R0 hv) (by simp; omega) _
  have P1 : Bx W1 (w.heap.size + 1) [.int .i64 X, .int .i64 Y] := by rw [hW1]; exact bx_far (bx_thru P0 hv) (by simp; omega) _
  have Z1 : Bx W1 (w.heap.size + 1 + 1) [.int .i64 0, .int .i64 0, .int .i64 0] := by rw [hW1]; exact bx_far (bx_thru Z0 hv) (by simp; omega) _
  have O1 : Bx W1 w1.heap.size [.int .i64 (S * E1), .int .i64 0, .int .i64 0] := by rw [hW1]; exact bx_set (bx_thru O0 hv) 0 _
  have U1 : Up w W1 := by
    rw [hW1]
    exact up_set (up_trans (up_alloc U0 _) hv) (by simp; omega) _
  clear hW1 R0 P0 Z0 O0 U0 hv q0 q1 q2 q3 q4 q5 q6 q7 q8 x0 x1 y0 y1 o3 o4 o5 f3 f4 f5 m0
  have m0 := bx_lt O1 (by simp)
  obtain ⟨q0, q1, q2, q3, q4, q5, q6, q7, q8⟩ := bx9 R1
  obtain ⟨x0, x1⟩ := bx2 P1
  have y0 := fun o => alloc_cell o x0
  have y1 := fun o => alloc_cell o x1
  rw [rounds_succ]
  go_wp2_with (go_at_call 56; (with_reducible refine (unhide h2 _).mono ?_); rintro e v2 ⟨rfl, hv⟩; have o3 := bx3 (bx_thru O1 hv); have f3 := bxf3 (bx_thru O1 hv); obtain ⟨o3, o4, o5⟩ := o3; obtain ⟨f3, f4, f5⟩ := f3)
  refine at_rounds (fun W2 hW2 => ?_)
  have R2 : Bx W2 w.heap.size [.int .i64 a0, .int .i64 a1, .int .i64 a2, .int .i64 b0, .int .i64 b1, .int .i64 b2, .int .i64 c0, .int .i64 c1, .int .i64 c2] := by rw [hW2]; exact bx_far (bx_thru R1 hv) (by simp; omega) _
  have P2 : Bx W2 (w.heap.size + 1) [.int .i64 X, .int .i64 Y] := by rw [hW2]; exact bx_far (bx_thru P1 hv) (by simp; omega) _
  have Z2 : Bx W2 (w.heap.size + 1 + 1) [.int .i64 0, .int .i64 0, .int .i64 0] := by rw [hW2]; exact bx_far (bx_thru Z1 hv) (by simp; omega) _
  have O2 : Bx W2 w1.heap.size [.int .i64 (S * E1), .int .i64 (S * E2), .int .i64 0] := by rw [hW2]; exact bx_set (bx_thru O1 hv) 1 _
  have U2 : Up w W2 := by
    rw [hW2]
    exact up_set (up_trans (up_alloc U1 _) hv) (by simp; omega) _
  clear hW2 R1 P1 Z1 O1 U1 hv q0 q1 q2 q3 q4 q5 q6 q7 q8 x0 x1 y0 y1 o3 o4 o5 f3 f4 f5 m0
  have m0 := bx_lt O2 (by simp)
  obtain ⟨q0, q1, q2, q3, q4, q5, q6, q7, q8⟩ := bx9 R2
  obtain ⟨x0, x1⟩ := bx2 P2
  have y0 := fun o => alloc_cell o x0
  have y1 := fun o => alloc_cell o x1
  rw [rounds_succ]
  go_wp2_with (go_at_call 56; (with_reducible refine (unhide h3 _).mono ?_); rintro e v3 ⟨rfl, hv⟩; have o3 := bx3 (bx_thru O2 hv); have f3 := bxf3 (bx_thru O2 hv); obtain ⟨o3, o4, o5⟩ := o3; obtain ⟨f3, f4, f5⟩ := f3)
  refine at_rounds (fun W3 hW3 => ?_)
  have R3 : Bx W3 w.heap.size [.int .i64 a0, .int .i64 a1, .int .i64 a2, .int .i64 b0, .int .i64 b1, .int .i64 b2, .int .i64 c0, .int .i64 c1, .int .i64 c2] := by rw [hW3]; exact bx_far (bx_thru R2 hv) (by simp; omega) _
  have P3 : Bx W3 (w.heap.size + 1) [.int .i64 X, .int .i64 Y] := by rw [hW3]; exact bx_far (bx_thru P2 hv) (by simp; omega) _
  have Z3 : Bx W3 (w.heap.size + 1 + 1) [.int .i64 0, .int .i64 0, .int .i64 0] := by rw [hW3]; exact bx_far (bx_thru Z2 hv) (by simp; omega) _
  have O3 : Bx W3 w1.heap.size [.int .i64 (S * E1), .int .i64 (S * E2), .int .i64 (S * E3)] := by rw [hW3]; exact bx_set (bx_thru O2 hv) 2 _
  have U3 : Up w W3 := by
    rw [hW3]
    exact up_set (up_trans (up_alloc U2 _) hv) (by simp; omega) _
  clear hW3 R2 P2 Z2 O2 U2 hv q0 q1 q2 q3 q4 q5 q6 q7 q8 x0 x1 y0 y1 o3 o4 o5 f3 f4 f5 m0
  rw [rounds_succ]
  obtain ⟨o3, o4, o5⟩ := bx3 O3
  obtain ⟨f3, f4, f5⟩ := bxf3 Z3
  obtain ⟨z3, z4, z5⟩ := bx3 Z3
  go_wp2_with fail
  obtain ⟨W9, hW9⟩ : ∃ W9 : World, W9 = (((W3.setCell ⟨w.heap.size + 1 + 1, 0, none⟩ (.int .i64 (S * E1))).setCell ⟨w.heap.size + 1 + 1, 1, none⟩ (.int .i64 (S * E2))).setCell ⟨w.heap.size + 1 + 1, 2, none⟩ (.int .i64 (S * E3))) := ⟨_, rfl⟩
  rw [← hW9]
  have B9 : Bx W9 (w.heap.size + 1 + 1) [.int .i64 (S * E1), .int .i64 (S * E2), .int .i64 (S * E3)] := by rw [hW9]; exact bx_set3 Z3
  have U9 : Up w W9 := by rw [hW9]; exact up_set (up_set (up_set U3 (by simp; omega) _) (by simp; omega) _) (by simp; omega) _
  clear hW9 f3 f4 f5 z3 z4 z5 o3 o4 o5
  obtain ⟨q0, q1, q2⟩ := bx3 B9
  refine bodyPost_ret (v := .tuple #[.agg #[.int .i64 (S * E1), .int .i64 (S * E2), .int .i64 (S * E3)], .int .i64 (S * D)]) ?_ rfl ⟨rfl, U9⟩
  simp [results, Tryz.results61, go_sem, q0, q1, q2]
end Go.Proofs.YthifcalemhpmoaaGreat
