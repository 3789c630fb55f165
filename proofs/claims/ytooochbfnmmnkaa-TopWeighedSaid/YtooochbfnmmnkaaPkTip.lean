/- Which platforms are valid; their parts at a point, and what tips. What both ends of a line carry. -/
import Derived.Test.YtooochbfnmmnkaaDown
import Derived.Test.YtooochbfnmmnkaaPkParts
namespace Go.Proofs.Ytooochbfnmmnkaa
open Go.RowKit Go.Proofs.Gn
theorem frac_bd {m len x : Int} (hm : 1 ≤ m ∧ m ≤ 16777216) (hl : 1 ≤ len ∧ len ≤ 33554432) (hx : 0 ≤ x ∧ x ≤ len) : amt m * amt x < len * 4611686018427387904 := by
  rw [amt_pos (by omega), amt_pos (by omega)]
  have a : m * x ≤ 16777216 * len := Int.mul_le_mul hm.2 hx.2 hx.1 (by omega)
  omega
theorem p_lever (m len x : Int) (w : World) (hm : 1 ≤ m ∧ m ≤ 16777216) (hl : 1 ≤ len ∧ len ≤ 33554432) (hx : 0 ≤ x ∧ x ≤ len) :
    Calls Try.prog 57 #[.int .i64 m, .int .i64 len, .int .i64 x] w fun e w' => e = .returned (.tuple #[.int .i64 (up m len (len - x)), .int .i64 (up m len x)]) ∧ Up w w' := by
  have H1 := fun W => p_up m len (len - x) W (by omega) (by omega) (by omega) (frac_bd hm hl (by omega))
  have H2 := fun W => p_up m len x W (by omega) (by omega) (by omega) (frac_bd hm hl (by omega))
  obtain ⟨U, hU⟩ : ∃ U, up m len (len - x) = U := ⟨_, rfl⟩
  obtain ⟨V, hV⟩ : ∃ U, up m len x = U := ⟨_, rfl⟩
  rw [hU] at H1 ⊢
  rw [hV] at H2 ⊢
  have h1 := hide H1
  have h2 := hide H2
  clear H1 H2 hU hV
  go_enter Try.func57, Try.ntmps57
  go_wp2_with (first | (go_at_call 31; (with_reducible refine (unhide h1 _).mono ?_); rintro e w1 ⟨rfl, hb⟩) | (go_at_call 31; (with_reducible refine (unhide h2 _).mono ?_); rintro e w2 ⟨rfl, hb2⟩))
  go_ret2
  exact ⟨rfl, (by repeat' (first | (with_reducible exact up_refl _) | (with_reducible assumption) | (with_reducible refine up_alloc ?_ _) | (with_reducible refine up_drewN ?_ _) | (with_reducible refine up_drew ?_) | (with_reducible refine up_set ?_ (by first | (simp; done) | (simp; omega) | omega) _) | (refine up_trans ?_ (by with_reducible assumption))))⟩
theorem ix3 (x0 x1 x2 : Int) (w : World) : (Instr.index 100 (.agg #[.int .i64 x0, .int .i64 x1, .int .i64 x2]) (.int .i64 0)).run Try.prog w = .ok (.int .i64 x0) w ∧ (Instr.index 100 (.agg #[.int .i64 x0, .int .i64 x1, .int .i64 x2]) (.int .i64 1)).run Try.prog w = .ok (.int .i64 x1) w ∧ (Instr.index 100 (.agg #[.int .i64 x0, .int .i64 x1, .int .i64 x2]) (.int .i64 2)).run Try.prog w = .ok (.int .i64 x2) w := by
  refine ⟨?_, ?_, ?_⟩ <;> simp [Instr.index, run_underlying Try.underlying100, asIntOf, go_sem]
def msE (m : Int) : Int := if win m 1 16777216 then 0 else 3
theorem p_checkMass (m : Int) (w : World) : Calls Try.prog 28 #[.int .i64 m] w fun e w' => e = .returned (.int .i64 (msE m)) ∧ w = w' := by
  have H1 : ∀ W : World, Calls Try.prog 29 #[.int .i64 m, .int .i64 1, .int .i64 16777216] W fun e w' => e = .returned (.bool (win m 1 16777216)) ∧ W = w' := fun W => p_within _ _ _ W
  unfold msE
  generalize win m 1 16777216 = b1 at *
  have h1 := hide H1
  clear H1
  cases b1
  · go_enter Try.func28, Try.ntmps28
    go_wp2_with (go_at_call 29; (with_reducible refine (unhide h1 _).mono ?_); rintro e w1 ⟨rfl, rfl⟩)
    go_ret
    exact ⟨rfl, rfl⟩
  · go_enter Try.func28, Try.ntmps28
    go_wp2_with (go_at_call 29; (with_reducible refine (unhide h1 _).mono ?_); rintro e w1 ⟨rfl, rfl⟩)
    go_ret
    exact ⟨rfl, rfl⟩
def plc (n : Int) : Bool := win n (-16777216) 16777216
def leE (m a b x : Int) : Int := if win m 1 16777216 then (if plc a && (plc b && plc x) then (if b ≤ a then 9 else if win x a b then 0 else 19) else 3) else 3
def leM (m a b x : Int) : Int := if leE m a b x = 0 then up m (b - a) (b - a - (x - a)) else 0
def leN (m a b x : Int) : Int := if leE m a b x = 0 then up m (b - a) (x - a) else 0
set_option maxHeartbeats 2000000 in
theorem p_Lever (m a b x : Int) (w : World) :
    Calls Try.prog 26 #[.int .i64 m, .int .i64 a, .int .i64 b, .int .i64 x] w fun e w' => e = .returned (.tuple #[.int .i64 (leM m a b x), .int .i64 (leN m a b x), .int .i64 (leE m a b x)]) ∧ Up w w' := by
  have HC := fun W => p_checkMass m W
  have Ha : ∀ W : World, Calls Try.prog 29 #[.int .i64 a, .int .i64 (-16777216), .int .i64 16777216] W fun e w' => e = .returned (.bool (plc a)) ∧ W = w' := fun W => p_within _ _ _ W
  have Hb : ∀ W : World, Calls Try.prog 29 #[.int .i64 b, .int .i64 (-16777216), .int .i64 16777216] W fun e w' => e = .returned (.bool (plc b)) ∧ W = w' := fun W => p_within _ _ _ W
  have Hx : ∀ W : World, Calls Try.prog 29 #[.int .i64 x, .int .i64 (-16777216), .int .i64 16777216] W fun e w' => e = .returned (.bool (plc x)) ∧ W = w' := fun W => p_within _ _ _ W
  have Hw : ∀ W : World, Calls Try.prog 29 #[.int .i64 x, .int .i64 a, .int .i64 b] W fun e w' => e = .returned (.bool (win x a b)) ∧ W = w' := fun W => p_within _ _ _ W
  have HL : win m 1 16777216 = true → plc a = true → plc b = true → plc x = true → ¬ b ≤ a → win x a b = true → ∀ W : World, Calls Try.prog 57 #[.int .i64 m, .int .i64 (b - a), .int .i64 (x - a)] W fun e w' => e = .returned (.tuple #[.int .i64 (up m (b - a) (b - a - (x - a))), .int .i64 (up m (b - a) (x - a))]) ∧ Up W w' := fun g1 g2 g3 g4 g5 g6 W => by
    unfold plc at g2 g3 g4
    rw [win_iff] at g1 g2 g3 g4 g6
    exact p_lever m (b - a) (x - a) W g1 (by omega) (by omega)
  have B : plc a = true → plc b = true → plc x = true → (-16777216 ≤ a ∧ a ≤ 16777216) ∧ (-16777216 ≤ b ∧ b ≤ 16777216) ∧ (-16777216 ≤ x ∧ x ≤ 16777216) := fun g2 g3 g4 => by
    unfold plc at g2 g3 g4
    rw [win_iff] at g2 g3 g4
    exact ⟨g2, g3, g4⟩
  unfold leM leN leE
  unfold msE at HC
  generalize win m 1 16777216 = b1 at *
  generalize plc a = b2 at *
  generalize plc b = b3 at *
  generalize plc x = b4 at *
  generalize win x a b = b5 at *
  have ix := fun w => ix3 a b x w
  have ix0 := fun w => (ix w).1
  have ix1 := fun w => (ix w).2.1
  have ix2 := fun w => (ix w).2.2
  clear ix
  have hC := hide HC
  have ha := hide Ha
  have hb := hide Hb
  have hx := hide Hx
  have hw := hide Hw
  have HL2 := hide HL
  have B2 := hide B
  clear HC Ha Hb Hx Hw HL B
  cases b1
  · have hC := hide (show ∀ W : World, Calls Try.prog 28 #[.int .i64 m] W fun e w' => e = .returned (.int .i64 3) ∧ W = w' from unhide hC)
    show Calls Try.prog 26 #[.int .i64 m, .int .i64 a, .int .i64 b, .int .i64 x] w fun e w' => e = .returned (.tuple #[.int .i64 0, .int .i64 0, .int .i64 3]) ∧ Up w w'
    go_enter Try.func26, Try.ntmps26
    go_wp2_with (first | (go_at_call 28; (with_reducible refine (unhide hC _).mono ?_); rintro e w1 ⟨rfl, rfl⟩) | (go_at_call 29; (with_reducible refine (unhide ha _).mono ?_); rintro e w1 ⟨rfl, rfl⟩) | (go_at_call 29; (with_reducible refine (unhide hb _).mono ?_); rintro e w1 ⟨rfl, rfl⟩) | (go_at_call 29; (with_reducible refine (unhide hx _).mono ?_); rintro e w1 ⟨rfl, rfl⟩) | (go_at_call 29; (with_reducible refine (unhide hw _).mono ?_); rintro e w1 ⟨rfl, rfl⟩))
    go_ret3
    exact ⟨rfl, (by repeat' (first | (with_reducible exact up_refl _) | (with_reducible assumption) | (with_reducible refine up_alloc ?_ _) | (with_reducible refine up_drewN ?_ _) | (with_reducible refine up_drew ?_) | (with_reducible refine up_set ?_ (by first | (simp; done) | (simp; omega) | omega) _) | (refine up_trans ?_ (by with_reducible assumption))))⟩
  replace hC := hide (show ∀ W : World, Calls Try.prog 28 #[.int .i64 m] W fun e w' => e = .returned (.int .i64 0) ∧ W = w' from unhide hC)
  cases b2
  · show Calls Try.prog 26 #[.int .i64 m, .int .i64 a, .int .i64 b, .int .i64 x] w fun e w' => e = .returned (.tuple #[.int .i64 0, .int .i64 0, .int .i64 3]) ∧ Up w w'
    go_enter Try.func26, Try.ntmps26
    go_wp2_with (first | (go_at_call 28; (with_reducible refine (unhide hC _).mono ?_); rintro e w1 ⟨rfl, rfl⟩) | (go_at_call 29; (with_reducible refine (unhide ha _).mono ?_); rintro e w1 ⟨rfl, rfl⟩) | (go_at_call 29; (with_reducible refine (unhide hb _).mono ?_); rintro e w1 ⟨rfl, rfl⟩) | (go_at_call 29; (with_reducible refine (unhide hx _).mono ?_); rintro e w1 ⟨rfl, rfl⟩) | (go_at_call 29; (with_reducible refine (unhide hw _).mono ?_); rintro e w1 ⟨rfl, rfl⟩))
    refine wp_loop_rounds 4 ?_
    rw [rounds_succ]
    go_wp2_with (first | (go_at_call 28; (with_reducible refine (unhide hC _).mono ?_); rintro e w1 ⟨rfl, rfl⟩) | (go_at_call 29; (with_reducible refine (unhide ha _).mono ?_); rintro e w1 ⟨rfl, rfl⟩) | (go_at_call 29; (with_reducible refine (unhide hb _).mono ?_); rintro e w1 ⟨rfl, rfl⟩) | (go_at_call 29; (with_reducible refine (unhide hx _).mono ?_); rintro e w1 ⟨rfl, rfl⟩) | (go_at_call 29; (with_reducible refine (unhide hw _).mono ?_); rintro e w1 ⟨rfl, rfl⟩))
    go_ret3
    exact ⟨rfl, (by repeat' (first | (with_reducible exact up_refl _) | (with_reducible assumption) | (with_reducible refine up_alloc ?_ _) | (with_reducible refine up_drewN ?_ _) | (with_reducible refine up_drew ?_) | (with_reducible refine up_set ?_ (by first | (simp; done) | (simp; omega) | omega) _) | (refine up_trans ?_ (by with_reducible assumption))))⟩
  cases b3
  · show Calls Try.prog 26 #[.int .i64 m, .int .i64 a, .int .i64 b, .int .i64 x] w fun e w' => e = .returned (.tuple #[.int .i64 0, .int .i64 0, .int .i64 3]) ∧ Up w w'
    go_enter Try.func26, Try.ntmps26
    go_wp2_with (first | (go_at_call 28; (with_reducible refine (unhide hC _).mono ?_); rintro e w1 ⟨rfl, rfl⟩) | (go_at_call 29; (with_reducible refine (unhide ha _).mono ?_); rintro e w1 ⟨rfl, rfl⟩) | (go_at_call 29; (with_reducible refine (unhide hb _).mono ?_); rintro e w1 ⟨rfl, rfl⟩) | (go_at_call 29; (with_reducible refine (unhide hx _).mono ?_); rintro e w1 ⟨rfl, rfl⟩) | (go_at_call 29; (with_reducible refine (unhide hw _).mono ?_); rintro e w1 ⟨rfl, rfl⟩))
    refine wp_loop_rounds 4 ?_
    rw [rounds_succ]
    go_wp2_with (first | (go_at_call 28; (with_reducible refine (unhide hC _).mono ?_); rintro e w1 ⟨rfl, rfl⟩) | (go_at_call 29; (with_reducible refine (unhide ha _).mono ?_); rintro e w1 ⟨rfl, rfl⟩) | (go_at_call 29; (with_reducible refine (unhide hb _).mono ?_); rintro e w1 ⟨rfl, rfl⟩) | (go_at_call 29; (with_reducible refine (unhide hx _).mono ?_); rintro e w1 ⟨rfl, rfl⟩) | (go_at_call 29; (with_reducible refine (unhide hw _).mono ?_); rintro e w1 ⟨rfl, rfl⟩))
    rw [rounds_succ]
    go_wp2_with (first | (go_at_call 28; (with_reducible refine (unhide hC _).mono ?_); rintro e w1 ⟨rfl, rfl⟩) | (go_at_call 29; (with_reducible refine (unhide ha _).mono ?_); rintro e w1 ⟨rfl, rfl⟩) | (go_at_call 29; (with_reducible refine (unhide hb _).mono ?_); rintro e w1 ⟨rfl, rfl⟩) | (go_at_call 29; (with_reducible refine (unhide hx _).mono ?_); rintro e w1 ⟨rfl, rfl⟩) | (go_at_call 29; (with_reducible refine (unhide hw _).mono ?_); rintro e w1 ⟨rfl, rfl⟩))
    go_ret3
    exact ⟨rfl, (by repeat' (first | (with_reducible exact up_refl _) | (with_reducible assumption) | (with_reducible refine up_alloc ?_ _) | (with_reducible refine up_drewN ?_ _) | (with_reducible refine up_drew ?_) | (with_reducible refine up_set ?_ (by first | (simp; done) | (simp; omega) | omega) _) | (refine up_trans ?_ (by with_reducible assumption))))⟩
  cases b4
  · show Calls Try.prog 26 #[.int .i64 m, .int .i64 a, .int .i64 b, .int .i64 x] w fun e w' => e = .returned (.tuple #[.int .i64 0, .int .i64 0, .int .i64 3]) ∧ Up w w'
    go_enter Try.func26, Try.ntmps26
    go_wp2_with (first | (go_at_call 28; (with_reducible refine (unhide hC _).mono ?_); rintro e w1 ⟨rfl, rfl⟩) | (go_at_call 29; (with_reducible refine (unhide ha _).mono ?_); rintro e w1 ⟨rfl, rfl⟩) | (go_at_call 29; (with_reducible refine (unhide hb _).mono ?_); rintro e w1 ⟨rfl, rfl⟩) | (go_at_call 29; (with_reducible refine (unhide hx _).mono ?_); rintro e w1 ⟨rfl, rfl⟩) | (go_at_call 29; (with_reducible refine (unhide hw _).mono ?_); rintro e w1 ⟨rfl, rfl⟩))
    refine wp_loop_rounds 4 ?_
    rw [rounds_succ]
    go_wp2_with (first | (go_at_call 28; (with_reducible refine (unhide hC _).mono ?_); rintro e w1 ⟨rfl, rfl⟩) | (go_at_call 29; (with_reducible refine (unhide ha _).mono ?_); rintro e w1 ⟨rfl, rfl⟩) | (go_at_call 29; (with_reducible refine (unhide hb _).mono ?_); rintro e w1 ⟨rfl, rfl⟩) | (go_at_call 29; (with_reducible refine (unhide hx _).mono ?_); rintro e w1 ⟨rfl, rfl⟩) | (go_at_call 29; (with_reducible refine (unhide hw _).mono ?_); rintro e w1 ⟨rfl, rfl⟩))
    rw [rounds_succ]
    go_wp2_with (first | (go_at_call 28; (with_reducible refine (unhide hC _).mono ?_); rintro e w1 ⟨rfl, rfl⟩) | (go_at_call 29; (with_reducible refine (unhide ha _).mono ?_); rintro e w1 ⟨rfl, rfl⟩) | (go_at_call 29; (with_reducible refine (unhide hb _).mono ?_); rintro e w1 ⟨rfl, rfl⟩) | (go_at_call 29; (with_reducible refine (unhide hx _).mono ?_); rintro e w1 ⟨rfl, rfl⟩) | (go_at_call 29; (with_reducible refine (unhide hw _).mono ?_); rintro e w1 ⟨rfl, rfl⟩))
    rw [rounds_succ]
    go_wp2_with (first | (go_at_call 28; (with_reducible refine (unhide hC _).mono ?_); rintro e w1 ⟨rfl, rfl⟩) | (go_at_call 29; (with_reducible refine (unhide ha _).mono ?_); rintro e w1 ⟨rfl, rfl⟩) | (go_at_call 29; (with_reducible refine (unhide hb _).mono ?_); rintro e w1 ⟨rfl, rfl⟩) | (go_at_call 29; (with_reducible refine (unhide hx _).mono ?_); rintro e w1 ⟨rfl, rfl⟩) | (go_at_call 29; (with_reducible refine (unhide hw _).mono ?_); rintro e w1 ⟨rfl, rfl⟩))
    go_ret3
    exact ⟨rfl, (by repeat' (first | (with_reducible exact up_refl _) | (with_reducible assumption) | (with_reducible refine up_alloc ?_ _) | (with_reducible refine up_drewN ?_ _) | (with_reducible refine up_drew ?_) | (with_reducible refine up_set ?_ (by first | (simp; done) | (simp; omega) | omega) _) | (refine up_trans ?_ (by with_reducible assumption))))⟩
  obtain ⟨⟨a1, a2⟩, ⟨a3, a4⟩, ⟨a5, a6⟩⟩ := unhide B2 rfl rfl rfl
  by_cases c : b ≤ a
  · rw [if_pos c]
    show Calls Try.prog 26 #[.int .i64 m, .int .i64 a, .int .i64 b, .int .i64 x] w fun e w' => e = .returned (.tuple #[.int .i64 0, .int .i64 0, .int .i64 9]) ∧ Up w w'
    go_enter Try.func26, Try.ntmps26
    go_wp2_with (first | (go_at_call 28; (with_reducible refine (unhide hC _).mono ?_); rintro e w1 ⟨rfl, rfl⟩) | (go_at_call 29; (with_reducible refine (unhide ha _).mono ?_); rintro e w1 ⟨rfl, rfl⟩) | (go_at_call 29; (with_reducible refine (unhide hb _).mono ?_); rintro e w1 ⟨rfl, rfl⟩) | (go_at_call 29; (with_reducible refine (unhide hx _).mono ?_); rintro e w1 ⟨rfl, rfl⟩) | (go_at_call 29; (with_reducible refine (unhide hw _).mono ?_); rintro e w1 ⟨rfl, rfl⟩))
    refine wp_loop_rounds 4 ?_
    rw [rounds_succ]
    go_wp2_with (first | (go_at_call 28; (with_reducible refine (unhide hC _).mono ?_); rintro e w1 ⟨rfl, rfl⟩) | (go_at_call 29; (with_reducible refine (unhide ha _).mono ?_); rintro e w1 ⟨rfl, rfl⟩) | (go_at_call 29; (with_reducible refine (unhide hb _).mono ?_); rintro e w1 ⟨rfl, rfl⟩) | (go_at_call 29; (with_reducible refine (unhide hx _).mono ?_); rintro e w1 ⟨rfl, rfl⟩) | (go_at_call 29; (with_reducible refine (unhide hw _).mono ?_); rintro e w1 ⟨rfl, rfl⟩))
    rw [rounds_succ]
    go_wp2_with (first | (go_at_call 28; (with_reducible refine (unhide hC _).mono ?_); rintro e w1 ⟨rfl, rfl⟩) | (go_at_call 29; (with_reducible refine (unhide ha _).mono ?_); rintro e w1 ⟨rfl, rfl⟩) | (go_at_call 29; (with_reducible refine (unhide hb _).mono ?_); rintro e w1 ⟨rfl, rfl⟩) | (go_at_call 29; (with_reducible refine (unhide hx _).mono ?_); rintro e w1 ⟨rfl, rfl⟩) | (go_at_call 29; (with_reducible refine (unhide hw _).mono ?_); rintro e w1 ⟨rfl, rfl⟩))
    rw [rounds_succ]
    go_wp2_with (first | (go_at_call 28; (with_reducible refine (unhide hC _).mono ?_); rintro e w1 ⟨rfl, rfl⟩) | (go_at_call 29; (with_reducible refine (unhide ha _).mono ?_); rintro e w1 ⟨rfl, rfl⟩) | (go_at_call 29; (with_reducible refine (unhide hb _).mono ?_); rintro e w1 ⟨rfl, rfl⟩) | (go_at_call 29; (with_reducible refine (unhide hx _).mono ?_); rintro e w1 ⟨rfl, rfl⟩) | (go_at_call 29; (with_reducible refine (unhide hw _).mono ?_); rintro e w1 ⟨rfl, rfl⟩))
    rw [rounds_succ]
    go_wp2_with (first | (go_at_call 28; (with_reducible refine (unhide hC _).mono ?_); rintro e w1 ⟨rfl, rfl⟩) | (go_at_call 29; (with_reducible refine (unhide ha _).mono ?_); rintro e w1 ⟨rfl, rfl⟩) | (go_at_call 29; (with_reducible refine (unhide hb _).mono ?_); rintro e w1 ⟨rfl, rfl⟩) | (go_at_call 29; (with_reducible refine (unhide hx _).mono ?_); rintro e w1 ⟨rfl, rfl⟩) | (go_at_call 29; (with_reducible refine (unhide hw _).mono ?_); rintro e w1 ⟨rfl, rfl⟩))
    go_ret3
    exact ⟨rfl, (by repeat' (first | (with_reducible exact up_refl _) | (with_reducible assumption) | (with_reducible refine up_alloc ?_ _) | (with_reducible refine up_drewN ?_ _) | (with_reducible refine up_drew ?_) | (with_reducible refine up_set ?_ (by first | (simp; done) | (simp; omega) | omega) _) | (refine up_trans ?_ (by with_reducible assumption))))⟩
  rw [if_neg c]
  cases b5
  · show Calls Try.prog 26 #[.int .i64 m, .int .i64 a, .int .i64 b, .int .i64 x] w fun e w' => e = .returned (.tuple #[.int .i64 0, .int .i64 0, .int .i64 19]) ∧ Up w w'
    go_enter Try.func26, Try.ntmps26
    go_wp2_with (first | (go_at_call 28; (with_reducible refine (unhide hC _).mono ?_); rintro e w1 ⟨rfl, rfl⟩) | (go_at_call 29; (with_reducible refine (unhide ha _).mono ?_); rintro e w1 ⟨rfl, rfl⟩) | (go_at_call 29; (with_reducible refine (unhide hb _).mono ?_); rintro e w1 ⟨rfl, rfl⟩) | (go_at_call 29; (with_reducible refine (unhide hx _).mono ?_); rintro e w1 ⟨rfl, rfl⟩) | (go_at_call 29; (with_reducible refine (unhide hw _).mono ?_); rintro e w1 ⟨rfl, rfl⟩))
    refine wp_loop_rounds 4 ?_
    rw [rounds_succ]
    go_wp2_with (first | (go_at_call 28; (with_reducible refine (unhide hC _).mono ?_); rintro e w1 ⟨rfl, rfl⟩) | (go_at_call 29; (with_reducible refine (unhide ha _).mono ?_); rintro e w1 ⟨rfl, rfl⟩) | (go_at_call 29; (with_reducible refine (unhide hb _).mono ?_); rintro e w1 ⟨rfl, rfl⟩) | (go_at_call 29; (with_reducible refine (unhide hx _).mono ?_); rintro e w1 ⟨rfl, rfl⟩) | (go_at_call 29; (with_reducible refine (unhide hw _).mono ?_); rintro e w1 ⟨rfl, rfl⟩))
    rw [rounds_succ]
    go_wp2_with (first | (go_at_call 28; (with_reducible refine (unhide hC _).mono ?_); rintro e w1 ⟨rfl, rfl⟩) | (go_at_call 29; (with_reducible refine (unhide ha _).mono ?_); rintro e w1 ⟨rfl, rfl⟩) | (go_at_call 29; (with_reducible refine (unhide hb _).mono ?_); rintro e w1 ⟨rfl, rfl⟩) | (go_at_call 29; (with_reducible refine (unhide hx _).mono ?_); rintro e w1 ⟨rfl, rfl⟩) | (go_at_call 29; (with_reducible refine (unhide hw _).mono ?_); rintro e w1 ⟨rfl, rfl⟩))
    rw [rounds_succ]
    go_wp2_with (first | (go_at_call 28; (with_reducible refine (unhide hC _).mono ?_); rintro e w1 ⟨rfl, rfl⟩) | (go_at_call 29; (with_reducible refine (unhide ha _).mono ?_); rintro e w1 ⟨rfl, rfl⟩) | (go_at_call 29; (with_reducible refine (unhide hb _).mono ?_); rintro e w1 ⟨rfl, rfl⟩) | (go_at_call 29; (with_reducible refine (unhide hx _).mono ?_); rintro e w1 ⟨rfl, rfl⟩) | (go_at_call 29; (with_reducible refine (unhide hw _).mono ?_); rintro e w1 ⟨rfl, rfl⟩))
    rw [rounds_succ]
    go_wp2_with (first | (go_at_call 28; (with_reducible refine (unhide hC _).mono ?_); rintro e w1 ⟨rfl, rfl⟩) | (go_at_call 29; (with_reducible refine (unhide ha _).mono ?_); rintro e w1 ⟨rfl, rfl⟩) | (go_at_call 29; (with_reducible refine (unhide hb _).mono ?_); rintro e w1 ⟨rfl, rfl⟩) | (go_at_call 29; (with_reducible refine (unhide hx _).mono ?_); rintro e w1 ⟨rfl, rfl⟩) | (go_at_call 29; (with_reducible refine (unhide hw _).mono ?_); rintro e w1 ⟨rfl, rfl⟩))
    go_ret3
    exact ⟨rfl, (by repeat' (first | (with_reducible exact up_refl _) | (with_reducible assumption) | (with_reducible refine up_alloc ?_ _) | (with_reducible refine up_drewN ?_ _) | (with_reducible refine up_drew ?_) | (with_reducible refine up_set ?_ (by first | (simp; done) | (simp; omega) | omega) _) | (refine up_trans ?_ (by with_reducible assumption))))⟩
  · have hl := hide (unhide HL2 rfl rfl rfl rfl c rfl)
    obtain ⟨U, hU⟩ : ∃ U, up m (b - a) (b - a - (x - a)) = U := ⟨_, rfl⟩
    obtain ⟨V, hV⟩ : ∃ U, up m (b - a) (x - a) = U := ⟨_, rfl⟩
    rw [hU, hV] at hl ⊢
    clear hU hV
    show Calls Try.prog 26 #[.int .i64 m, .int .i64 a, .int .i64 b, .int .i64 x] w fun e w' => e = .returned (.tuple #[.int .i64 U, .int .i64 V, .int .i64 0]) ∧ Up w w'
    go_enter Try.func26, Try.ntmps26
    go_wp2_with (first | (go_at_call 28; (with_reducible refine (unhide hC _).mono ?_); rintro e w1 ⟨rfl, rfl⟩) | (go_at_call 29; (with_reducible refine (unhide ha _).mono ?_); rintro e w1 ⟨rfl, rfl⟩) | (go_at_call 29; (with_reducible refine (unhide hb _).mono ?_); rintro e w1 ⟨rfl, rfl⟩) | (go_at_call 29; (with_reducible refine (unhide hx _).mono ?_); rintro e w1 ⟨rfl, rfl⟩) | (go_at_call 29; (with_reducible refine (unhide hw _).mono ?_); rintro e w1 ⟨rfl, rfl⟩) | (go_at_call 57; (with_reducible refine (unhide hl _).mono ?_); rintro e w1 ⟨rfl, hbl⟩))
    refine wp_loop_rounds 4 ?_
    rw [rounds_succ]
    go_wp2_with (first | (go_at_call 28; (with_reducible refine (unhide hC _).mono ?_); rintro e w1 ⟨rfl, rfl⟩) | (go_at_call 29; (with_reducible refine (unhide ha _).mono ?_); rintro e w1 ⟨rfl, rfl⟩) | (go_at_call 29; (with_reducible refine (unhide hb _).mono ?_); rintro e w1 ⟨rfl, rfl⟩) | (go_at_call 29; (with_reducible refine (unhide hx _).mono ?_); rintro e w1 ⟨rfl, rfl⟩) | (go_at_call 29; (with_reducible refine (unhide hw _).mono ?_); rintro e w1 ⟨rfl, rfl⟩) | (go_at_call 57; (with_reducible refine (unhide hl _).mono ?_); rintro e w1 ⟨rfl, hbl⟩))
    rw [rounds_succ]
    go_wp2_with (first | (go_at_call 28; (with_reducible refine (unhide hC _).mono ?_); rintro e w1 ⟨rfl, rfl⟩) | (go_at_call 29; (with_reducible refine (unhide ha _).mono ?_); rintro e w1 ⟨rfl, rfl⟩) | (go_at_call 29; (with_reducible refine (unhide hb _).mono ?_); rintro e w1 ⟨rfl, rfl⟩) | (go_at_call 29; (with_reducible refine (unhide hx _).mono ?_); rintro e w1 ⟨rfl, rfl⟩) | (go_at_call 29; (with_reducible refine (unhide hw _).mono ?_); rintro e w1 ⟨rfl, rfl⟩) | (go_at_call 57; (with_reducible refine (unhide hl _).mono ?_); rintro e w1 ⟨rfl, hbl⟩))
    rw [rounds_succ]
    go_wp2_with (first | (go_at_call 28; (with_reducible refine (unhide hC _).mono ?_); rintro e w1 ⟨rfl, rfl⟩) | (go_at_call 29; (with_reducible refine (unhide ha _).mono ?_); rintro e w1 ⟨rfl, rfl⟩) | (go_at_call 29; (with_reducible refine (unhide hb _).mono ?_); rintro e w1 ⟨rfl, rfl⟩) | (go_at_call 29; (with_reducible refine (unhide hx _).mono ?_); rintro e w1 ⟨rfl, rfl⟩) | (go_at_call 29; (with_reducible refine (unhide hw _).mono ?_); rintro e w1 ⟨rfl, rfl⟩) | (go_at_call 57; (with_reducible refine (unhide hl _).mono ?_); rintro e w1 ⟨rfl, hbl⟩))
    rw [rounds_succ]
    go_wp2_with (first | (go_at_call 28; (with_reducible refine (unhide hC _).mono ?_); rintro e w1 ⟨rfl, rfl⟩) | (go_at_call 29; (with_reducible refine (unhide ha _).mono ?_); rintro e w1 ⟨rfl, rfl⟩) | (go_at_call 29; (with_reducible refine (unhide hb _).mono ?_); rintro e w1 ⟨rfl, rfl⟩) | (go_at_call 29; (with_reducible refine (unhide hx _).mono ?_); rintro e w1 ⟨rfl, rfl⟩) | (go_at_call 29; (with_reducible refine (unhide hw _).mono ?_); rintro e w1 ⟨rfl, rfl⟩) | (go_at_call 57; (with_reducible refine (unhide hl _).mono ?_); rintro e w1 ⟨rfl, hbl⟩))
    go_ret3
    exact ⟨rfl, (by repeat' (first | (with_reducible exact up_refl _) | (with_reducible assumption) | (with_reducible refine up_alloc ?_ _) | (with_reducible refine up_drewN ?_ _) | (with_reducible refine up_drew ?_) | (with_reducible refine up_set ?_ (by first | (simp; done) | (simp; omega) | omega) _) | (refine up_trans ?_ (by with_reducible assumption))))⟩
end Go.Proofs.Ytooochbfnmmnkaa
namespace Go.Proofs.Ytooochbfnmmnkaa
open Go.RowKit Go.Proofs.Gn
def chE (ps : List Gs.Sup) : Int := if ps.length < 3 ∨ 48 < ps.length then 6 else if Gs.okA ps then (if Gs.wh ps = 0 then 9 else 0) else 2
abbrev n9 (ps : List Gs.Sup) : Value := m9 (Gs.cN 0 ps) (Gs.cX 0 ps) (Gs.cY 0 ps) (Gs.cN 1 ps) (Gs.cX 1 ps) (Gs.cY 1 ps) (Gs.cN 2 ps) (Gs.cX 2 ps) (Gs.cY 2 ps)
theorem okA_step {ps : List Gs.Sup} {k : Nat} (h : k < ps.length) (ho : Gs.okA (ps.take k) = true) : (Gs.okS ps[k] = true → Gs.okA (ps.take (k + 1)) = true) ∧ (Gs.okS ps[k] = false → Gs.okA ps = false) :=
  ⟨fun hs => by rw [Gs.okA_take_succ h, ho, hs]; rfl, fun hs => Gs.okA_at h hs⟩
/-! ### At a point -/
def ptB (X Y : Int) : Bool := win X (-262144) 262144 && win Y (-262144) 262144
def ptE (X Y : Int) : Int := if ptB X Y then 0 else 3
def atE (ps : List Gs.Sup) (X Y : Int) : Int := if chE ps = 0 then ptE X Y else chE ps
end Go.Proofs.Ytooochbfnmmnkaa
