/- Which platforms are valid; their parts at a point, and what tips. The sums of the groups of a platform. What both ends of a line carry. -/
import Derived.Test.YthifcalemhpmoaaGreatPkParts
import Derived.Test.YthifcalemhpmoaaGreatPlat
namespace Go.Proofs.YthifcalemhpmoaaGreat
open Go.RowKit Go.Proofs.Gn
theorem frac_bd {m len x : Int} (hm : 1 ≤ m ∧ m ≤ 16777216) (hl : 1 ≤ len ∧ len ≤ 33554432) (hx : 0 ≤ x ∧ x ≤ len) : amt m * amt x < len * 4611686018427387904 := by
  rw [amt_pos (by omega), amt_pos (by omega)]
  have a : m * x ≤ 16777216 * len := Int.mul_le_mul hm.2 hx.2 hx.1 (by omega)
  omega
theorem p_lever (m len x : Int) (w : World) (hm : 1 ≤ m ∧ m ≤ 16777216) (hl : 1 ≤ len ∧ len ≤ 33554432) (hx : 0 ≤ x ∧ x ≤ len) :
    Calls Tryz.prog 50 #[.int .i64 m, .int .i64 len, .int .i64 x] w fun e w' => e = .returned (.tuple #[.int .i64 (up m len (len - x)), .int .i64 (up m len x)]) ∧ Up w w' := by
  have H1 := fun W => p_up m len (len - x) W (by omega) (by omega) (by omega) (frac_bd hm hl (by omega))
  have H2 := fun W => p_up m len x W (by omega) (by omega) (by omega) (frac_bd hm hl (by omega))
  obtain ⟨U, hU⟩ : ∃ U, up m len (len - x) = U := ⟨_, rfl⟩
  obtain ⟨V, hV⟩ : ∃ U, up m len x = U := ⟨_, rfl⟩
  rw [hU] at H1 ⊢
  rw [hV] at H2 ⊢
  have h1 := hide H1
  have h2 := hide H2
  clear H1 H2 hU hV
  go_enter Tryz.func50, Tryz.ntmps50
  go_wp2_with (first | (go_at_call 63; (with_reducible refine (unhide h1 _).mono ?_); rintro e w1 ⟨rfl, hb⟩) | (go_at_call 63; (with_reducible refine (unhide h2 _).mono ?_); rintro e w2 ⟨rfl, hb2⟩))
  go_ret2
  exact ⟨rfl, (by repeat' (first | (with_reducible exact up_refl _) | (with_reducible assumption) | (with_reducible refine up_alloc ?_ _) | (with_reducible refine up_drewN ?_ _) | (with_reducible refine up_drew ?_) | (with_reducible refine up_set ?_ (by first | (simp; done) | (simp; omega) | omega) _) | (refine up_trans ?_ (by with_reducible assumption))))⟩
theorem ix3 (x0 x1 x2 : Int) (w : World) : (Instr.index 29 (.agg #[.int .i64 x0, .int .i64 x1, .int .i64 x2]) (.int .i64 0)).run Tryz.prog w = .ok (.int .i64 x0) w ∧ (Instr.index 29 (.agg #[.int .i64 x0, .int .i64 x1, .int .i64 x2]) (.int .i64 1)).run Tryz.prog w = .ok (.int .i64 x1) w ∧ (Instr.index 29 (.agg #[.int .i64 x0, .int .i64 x1, .int .i64 x2]) (.int .i64 2)).run Tryz.prog w = .ok (.int .i64 x2) w := by
  refine ⟨?_, ?_, ?_⟩ <;> simp [Instr.index, run_underlying Tryz.underlying29, asIntOf, go_sem]
def msE (m : Int) : Int := if win m 1 16777216 then 0 else 3
theorem p_checkMass (m : Int) (w : World) : Calls Tryz.prog 48 #[.int .i64 m] w fun e w' => e = .returned (.int .i64 (msE m)) ∧ w = w' := by
  have H1 : ∀ W : World, Calls Tryz.prog 49 #[.int .i64 m, .int .i64 1, .int .i64 16777216] W fun e w' => e = .returned (.bool (win m 1 16777216)) ∧ W = w' := fun W => p_within _ _ _ W
  unfold msE
  generalize win m 1 16777216 = b1 at *
  have h1 := hide H1
  clear H1
  cases b1
  · go_enter Tryz.func48, Tryz.ntmps48
    go_wp2_with (go_at_call 49; (with_reducible refine (unhide h1 _).mono ?_); rintro e w1 ⟨rfl, rfl⟩)
    go_ret
    exact ⟨rfl, rfl⟩
  · go_enter Tryz.func48, Tryz.ntmps48
    go_wp2_with (go_at_call 49; (with_reducible refine (unhide h1 _).mono ?_); rintro e w1 ⟨rfl, rfl⟩)
    go_ret
    exact ⟨rfl, rfl⟩
def plc (n : Int) : Bool := win n (-16777216) 16777216
def leE (m a b x : Int) : Int := if win m 1 16777216 then (if plc a && (plc b && plc x) then (if b ≤ a then 9 else if win x a b then 0 else 19) else 3) else 3
def leM (m a b x : Int) : Int := if leE m a b x = 0 then up m (b - a) (b - a - (x - a)) else 0
def leN (m a b x : Int) : Int := if leE m a b x = 0 then up m (b - a) (x - a) else 0
set_option maxHeartbeats 2000000 in
theorem p_Lever (m a b x : Int) (w : World) :
    Calls Tryz.prog 21 #[.int .i64 m, .int .i64 a, .int .i64 b, .int .i64 x] w fun e w' => e = .returned (.tuple #[.int .i64 (leM m a b x), .int .i64 (leN m a b x), .int .i64 (leE m a b x)]) ∧ Up w w' := by
  have HC := fun W => p_checkMass m W
  have Ha : ∀ W : World, Calls Tryz.prog 49 #[.int .i64 a, .int .i64 (-16777216), .int .i64 16777216] W fun e w' => e = .returned (.bool (plc a)) ∧ W = w' := fun W => p_within _ _ _ W
  have Hb : ∀ W : World, Calls Tryz.prog 49 #[.int .i64 b, .int .i64 (-16777216), .int .i64 16777216] W fun e w' => e = .returned (.bool (plc b)) ∧ W = w' := fun W => p_within _ _ _ W
  have Hx : ∀ W : World, Calls Tryz.prog 49 #[.int .i64 x, .int .i64 (-16777216), .int .i64 16777216] W fun e w' => e = .returned (.bool (plc x)) ∧ W = w' := fun W => p_within _ _ _ W
  have Hw : ∀ W : World, Calls Tryz.prog 49 #[.int .i64 x, .int .i64 a, .int .i64 b] W fun e w' => e = .returned (.bool (win x a b)) ∧ W = w' := fun W => p_within _ _ _ W
  have HL : win m 1 16777216 = true → plc a = true → plc b = true → plc x = true → ¬ b ≤ a → win x a b = true → ∀ W : World, Calls Tryz.prog 50 #[.int .i64 m, .int .i64 (b - a), .int .i64 (x - a)] W fun e w' => e = .returned (.tuple #[.int .i64 (up m (b - a) (b - a - (x - a))), .int .i64 (up m (b - a) (x - a))]) ∧ Up W w' := fun g1 g2 g3 g4 g5 g6 W => by
    unfold plc at g2 g3 g4
    rw [win_iff] at g1 g2 g3 g4 g6
    exact p_lever m (b - a) (x - a) W g1 (by omega) (by omega)
  have B : plc a = true → plc b = true → plc x = true → (-16777216 ≤ a ∧ a ≤ 16777216) ∧ (-16777216 ≤ b ∧ b ≤ 16777216) ∧ (-16777216 ≤ x ∧ x ≤ 16777216) := fun g2 g3 g4 => by
    unfold plc at g2 g3 g4
    rw [win_iff] at g2 g3 g4
    exact ⟨g2, g3, g4⟩
  unfold leM leN leE
  unfold msE at HC
  generalize win m 1 16777216 = b1 at *
  generalize plc a = b2 at *
  generalize plc b = b3 at *
  generalize plc x = b4 at *
  generalize win x a b = b5 at *
  have ix := fun w => ix3 a b x w
  have ix0 := fun w => (ix w).1
  have ix1 := fun w => (ix w).2.1
  have ix2 := fun w => (ix w).2.2
  clear ix
  have hC := hide HC
  have ha := hide Ha
  have hb := hide Hb
  have hx := hide Hx
  have hw := hide Hw
  have HL2 := hide HL
  have B2 := hide B
  clear HC Ha Hb Hx Hw HL B
  cases b1
  · have hC := hide (show ∀ W : World, Calls Tryz.prog 48 #[.int .i64 m] W fun e w' => e = .returned (.int .i64 3) ∧ W = w' from unhide hC)
    show Calls Tryz.prog 21 #[.int .i64 m, .int .i64 a, .int .i64 b, .int .i64 x] w fun e w' => e = .returned (.tuple #[.int .i64 0, .int .i64 0, .int .i64 3]) ∧ Up w w'
    go_enter Tryz.func21, Tryz.ntmps21
    go_wp2_with (first | (go_at_call 48; (with_reducible refine (unhide hC _).mono ?_); rintro e w1 ⟨rfl, rfl⟩) | (go_at_call 49; (with_reducible refine (unhide ha _).mono ?_); rintro e w1 ⟨rfl, rfl⟩) | (go_at_call 49; (with_reducible refine (unhide hb _).mono ?_); rintro e w1 ⟨rfl, rfl⟩) | (go_at_call 49; (with_reducible refine (unhide hx _).mono ?_); rintro e w1 ⟨rfl, rfl⟩) | (go_at_call 49; (with_reducible refine (unhide hw _).mono ?_); rintro e w1 ⟨rfl, rfl⟩))
    go_ret3
    exact ⟨rfl, (by repeat' (first | (with_reducible exact up_refl _) | (with_reducible assumption) | (with_reducible refine up_alloc ?_ _) | (with_reducible refine up_drewN ?_ _) | (with_reducible refine up_drew ?_) | (with_reducible refine up_set ?_ (by first | (simp; done) | (simp; omega) | omega) _) | (refine up_trans ?_ (by with_reducible assumption))))⟩
  replace hC := hide (show ∀ W : World, Calls Tryz.prog 48 #[.int .i64 m] W fun e w' => e = .returned (.int .i64 0) ∧ W = w' from unhide hC)
  cases b2
  · show Calls Tryz.prog 21 #[.int .i64 m, .int .i64 a, .int .i64 b, .int .i64 x] w fun e w' => e = .returned (.tuple #[.int .i64 0, .int .i64 0, .int .i64 3]) ∧ Up w w'
    go_enter Tryz.func21, Tryz.ntmps21
    go_wp2_with (first | (go_at_call 48; (with_reducible refine (unhide hC _).mono ?_); rintro e w1 ⟨rfl, rfl⟩) | (go_at_call 49; (with_reducible refine (unhide ha _).mono ?_); rintro e w1 ⟨rfl, rfl⟩) | (go_at_call 49; (with_reducible refine (unhide hb _).mono ?_); rintro e w1 ⟨rfl, rfl⟩) | (go_at_call 49; (with_reducible refine (unhide hx _).mono ?_); rintro e w1 ⟨rfl, rfl⟩) | (go_at_call 49; (with_reducible refine (unhide hw _).mono ?_); rintro e w1 ⟨rfl, rfl⟩))
    refine wp_loop_rounds 4 ?_
    rw [rounds_succ]
    go_wp2_with (first | (go_at_call 48; (with_reducible refine (unhide hC _).mono ?_); rintro e w1 ⟨rfl, rfl⟩) | (go_at_call 49; (with_reducible refine (unhide ha _).mono ?_); rintro e w1 ⟨rfl, rfl⟩) | (go_at_call 49; (with_reducible refine (unhide hb _).mono ?_); rintro e w1 ⟨rfl, rfl⟩) | (go_at_call 49; (with_reducible refine (unhide hx _).mono ?_); rintro e w1 ⟨rfl, rfl⟩) | (go_at_call 49; (with_reducible refine (unhide hw _).mono ?_); rintro e w1 ⟨rfl, rfl⟩))
    go_ret3
    exact ⟨rfl, (by repeat' (first | (with_reducible exact up_refl _) | (with_reducible assumption) | (with_reducible refine up_alloc ?_ _) | (with_reducible refine up_drewN ?_ _) | (with_reducible refine up_drew ?_) | (with_reducible refine up_set ?_ (by first | (simp; done) | (simp; omega) | omega) _) | (refine up_trans ?_ (by with_reducible assumption))))⟩
  cases b3
  · show Calls Tryz.prog 21 #[.int .i64 m, .int .i64 a, .int .i64 b, .int .i64 x] w fun e w' => e = .returned (.tuple #[.int .i64 0, .int .i64 0, .int .i64 3]) ∧ Up w w'
    go_enter Tryz.func21, Tryz.ntmps21
    go_wp2_with (first | (go_at_call 48; (with_reducible refine (unhide hC _).mono ?_); rintro e w1 ⟨rfl, rfl⟩) | (go_at_call 49; (with_reducible refine (unhide ha _).mono ?_); rintro e w1 ⟨rfl, rfl⟩) | (go_at_call 49; (with_reducible refine (unhide hb _).mono ?_); rintro e w1 ⟨rfl, rfl⟩) | (go_at_call 49; (with_reducible refine (unhide hx _).mono ?_); rintro e w1 ⟨rfl, rfl⟩) | (go_at_call 49; (with_reducible refine (unhide hw _).mono ?_); rintro e w1 ⟨rfl, rfl⟩))
    refine wp_loop_rounds 4 ?_
    rw [rounds_succ]
    go_wp2_with (first | (go_at_call 48; (with_reducible refine (unhide hC _).mono ?_); rintro e w1 ⟨rfl, rfl⟩) | (go_at_call 49; (with_reducible refine (unhide ha _).mono ?_); rintro e w1 ⟨rfl, rfl⟩) | (go_at_call 49; (with_reducible refine (unhide hb _).mono ?_); rintro e w1 ⟨rfl, rfl⟩) | (go_at_call 49; (with_reducible refine (unhide hx _).mono ?_); rintro e w1 ⟨rfl, rfl⟩) | (go_at_call 49; (with_reducible refine (unhide hw _).mono ?_); rintro e w1 ⟨rfl, rfl⟩))
    rw [rounds_succ]
    go_wp2_with (first | (go_at_call 48; (with_reducible refine (unhide hC _).mono ?_); rintro e w1 ⟨rfl, rfl⟩) | (go_at_call 49; (with_reducible refine (unhide ha _).mono ?_); rintro e w1 ⟨rfl, rfl⟩) | (go_at_call 49; (with_reducible refine (unhide hb _).mono ?_); rintro e w1 ⟨rfl, rfl⟩) | (go_at_call 49; (with_reducible refine (unhide hx _).mono ?_); rintro e w1 ⟨rfl, rfl⟩) | (go_at_call 49; (with_reducible refine (unhide hw _).mono ?_); rintro e w1 ⟨rfl, rfl⟩))
    go_ret3
    exact ⟨rfl, (by repeat' (first | (with_reducible exact up_refl _) | (with_reducible assumption) | (with_reducible refine up_alloc ?_ _) | (with_reducible refine up_drewN ?_ _) | (with_reducible refine up_drew ?_) | (with_reducible refine up_set ?_ (by first | (simp; done) | (simp; omega) | omega) _) | (refine up_trans ?_ (by with_reducible assumption))))⟩
  cases b4
  · show Calls Tryz.prog 21 #[.int .i64 m, .int .i64 a, .int .i64 b, .int .i64 x] w fun e w' => e = .returned (.tuple #[.int .i64 0, .int .i64 0, .int .i64 3]) ∧ Up w w'
    go_enter Tryz.func21, Tryz.ntmps21
    go_wp2_with (first | (go_at_call 48; (with_reducible refine (unhide hC _).mono ?_); rintro e w1 ⟨rfl, rfl⟩) | (go_at_call 49; (with_reducible refine (unhide ha _).mono ?_); rintro e w1 ⟨rfl, rfl⟩) | (go_at_call 49; (with_reducible refine (unhide hb _).mono ?_); rintro e w1 ⟨rfl, rfl⟩) | (go_at_call 49; (with_reducible refine (unhide hx _).mono ?_); rintro e w1 ⟨rfl, rfl⟩) | (go_at_call 49; (with_reducible refine (unhide hw _).mono ?_); rintro e w1 ⟨rfl, rfl⟩))
    refine wp_loop_rounds 4 ?_
    rw [rounds_succ]
    go_wp2_with (first | (go_at_call 48; (with_reducible refine (unhide hC _).mono ?_); rintro e w1 ⟨rfl, rfl⟩) | (go_at_call 49; (with_reducible refine (unhide ha _).mono ?_); rintro e w1 ⟨rfl, rfl⟩) | (go_at_call 49; (with_reducible refine (unhide hb _).mono ?_); rintro e w1 ⟨rfl, rfl⟩) | (go_at_call 49; (with_reducible refine (unhide hx _).mono ?_); rintro e w1 ⟨rfl, rfl⟩) | (go_at_call 49; (with_reducible refine (unhide hw _).mono ?_); rintro e w1 ⟨rfl, rfl⟩))
    rw [rounds_succ]
    go_wp2_with (first | (go_at_call 48; (with_reducible refine (unhide hC _).mono ?_); rintro e w1 ⟨rfl, rfl⟩) | (go_at_call 49; (with_reducible refine (unhide ha _).mono ?_); rintro e w1 ⟨rfl, rfl⟩) | (go_at_call 49; (with_reducible refine (unhide hb _).mono ?_); rintro e w1 ⟨rfl, rfl⟩) | (go_at_call 49; (with_reducible refine (unhide hx _).mono ?_); rintro e w1 ⟨rfl, rfl⟩) | (go_at_call 49; (with_reducible refine (unhide hw _).mono ?_); rintro e w1 ⟨rfl, rfl⟩))
    rw [rounds_succ]
    go_wp2_with (first | (go_at_call 48; (with_reducible refine (unhide hC _).mono ?_); rintro e w1 ⟨rfl, rfl⟩) | (go_at_call 49; (with_reducible refine (unhide ha _).mono ?_); rintro e w1 ⟨rfl, rfl⟩) | (go_at_call 49; (with_reducible refine (unhide hb _).mono ?_); rintro e w1 ⟨rfl, rfl⟩) | (go_at_call 49; (with_reducible refine (unhide hx _).mono ?_); rintro e w1 ⟨rfl, rfl⟩) | (go_at_call 49; (with_reducible refine (unhide hw _).mono ?_); rintro e w1 ⟨rfl, rfl⟩))
    go_ret3
    exact ⟨rfl, (by repeat' (first | (with_reducible exact up_refl _) | (with_reducible assumption) | (with_reducible refine up_alloc ?_ _) | (with_reducible refine up_drewN ?_ _) | (with_reducible refine up_drew ?_) | (with_reducible refine up_set ?_ (by first | (simp; done) | (simp; omega) | omega) _) | (refine up_trans ?_ (by with_reducible assumption))))⟩
  obtain ⟨⟨a1, a2⟩, ⟨a3, a4⟩, ⟨a5, a6⟩⟩ := unhide B2 rfl rfl rfl
  by_cases c : b ≤ a
  · rw [if_pos c]
    show Calls Tryz.prog 21 #[.int .i64 m, .int .i64 a, .int .i64 b, .int .i64 x] w fun e w' => e = .returned (.tuple #[.int .i64 0, .int .i64 0, .int .i64 9]) ∧ Up w w'
    go_enter Tryz.func21, Tryz.ntmps21
    go_wp2_with (first | (go_at_call 48; (with_reducible refine (unhide hC _).mono ?_); rintro e w1 ⟨rfl, rfl⟩) | (go_at_call 49; (with_reducible refine (unhide ha _).mono ?_); rintro e w1 ⟨rfl, rfl⟩) | (go_at_call 49; (with_reducible refine (unhide hb _).mono ?_); rintro e w1 ⟨rfl, rfl⟩) | (go_at_call 49; (with_reducible refine (unhide hx _).mono ?_); rintro e w1 ⟨rfl, rfl⟩) | (go_at_call 49; (with_reducible refine (unhide hw _).mono ?_); rintro e w1 ⟨rfl, rfl⟩))
    refine wp_loop_rounds 4 ?_
    rw [rounds_succ]
    go_wp2_with (first | (go_at_call 48; (with_reducible refine (unhide hC _).mono ?_); rintro e w1 ⟨rfl, rfl⟩) | (go_at_call 49; (with_reducible refine (unhide ha _).mono ?_); rintro e w1 ⟨rfl, rfl⟩) | (go_at_call 49; (with_reducible refine (unhide hb _).mono ?_); rintro e w1 ⟨rfl, rfl⟩) | (go_at_call 49; (with_reducible refine (unhide hx _).mono ?_); rintro e w1 ⟨rfl, rfl⟩) | (go_at_call 49; (with_reducible refine (unhide hw _).mono ?_); rintro e w1 ⟨rfl, rfl⟩))
    rw [rounds_succ]
    go_wp2_with (first | (go_at_call 48; (with_reducible refine (unhide hC _).mono ?_); rintro e w1 ⟨rfl, rfl⟩) | (go_at_call 49; (with_reducible refine (unhide ha _).mono ?_); rintro e w1 ⟨rfl, rfl⟩) | (go_at_call 49; (with_reducible refine (unhide hb _).mono ?_); rintro e w1 ⟨rfl, rfl⟩) | (go_at_call 49; (with_reducible refine (unhide hx _).mono ?_); rintro e w1 ⟨rfl, rfl⟩) | (go_at_call 49; (with_reducible refine (unhide hw _).mono ?_); rintro e w1 ⟨rfl, rfl⟩))
    rw [rounds_succ]
    go_wp2_with (first | (go_at_call 48; (with_reducible refine (unhide hC _).mono ?_); rintro e w1 ⟨rfl, rfl⟩) | (go_at_call 49; (with_reducible refine (unhide ha _).mono ?_); rintro e w1 ⟨rfl, rfl⟩) | (go_at_call 49; (with_reducible refine (unhide hb _).mono ?_); rintro e w1 ⟨rfl, rfl⟩) | (go_at_call 49; (with_reducible refine (unhide hx _).mono ?_); rintro e w1 ⟨rfl, rfl⟩) | (go_at_call 49; (with_reducible refine (unhide hw _).mono ?_); rintro e w1 ⟨rfl, rfl⟩))
    rw [rounds_succ]
    go_wp2_with (first | (go_at_call 48; (with_reducible refine (unhide hC _).mono ?_); rintro e w1 ⟨rfl, rfl⟩) | (go_at_call 49; (with_reducible refine (unhide ha _).mono ?_); rintro e w1 ⟨rfl, rfl⟩) | (go_at_call 49; (with_reducible refine (unhide hb _).mono ?_); rintro e w1 ⟨rfl, rfl⟩) | (go_at_call 49; (with_reducible refine (unhide hx _).mono ?_); rintro e w1 ⟨rfl, rfl⟩) | (go_at_call 49; (with_reducible refine (unhide hw _).mono ?_); rintro e w1 ⟨rfl, rfl⟩))
    go_ret3
    exact ⟨rfl, (by repeat' (first | (with_reducible exact up_refl _) | (with_reducible assumption) | (with_reducible refine up_alloc ?_ _) | (with_reducible refine up_drewN ?_ _) | (with_reducible refine up_drew ?_) | (with_reducible refine up_set ?_ (by first | (simp; done) | (simp; omega) | omega) _) | (refine up_trans ?_ (by with_reducible assumption))))⟩
  rw [if_neg c]
  cases b5
  · show Calls Tryz.prog 21 #[.int .i64 m, .int .i64 a, .int .i64 b, .int .i64 x] w fun e w' => e = .returned (.tuple #[.int .i64 0, .int .i64 0, .int .i64 19]) ∧ Up w w'
    go_enter Tryz.func21, Tryz.ntmps21
    go_wp2_with (first | (go_at_call 48; (with_reducible refine (unhide hC _).mono ?_); rintro e w1 ⟨rfl, rfl⟩) | (go_at_call 49; (with_reducible refine (unhide ha _).mono ?_); rintro e w1 ⟨rfl, rfl⟩) | (go_at_call 49; (with_reducible refine (unhide hb _).mono ?_); rintro e w1 ⟨rfl, rfl⟩) | (go_at_call 49; (with_reducible refine (unhide hx _).mono ?_); rintro e w1 ⟨rfl, rfl⟩) | (go_at_call 49; (with_reducible refine (unhide hw _).mono ?_); rintro e w1 ⟨rfl, rfl⟩))
    refine wp_loop_rounds 4 ?_
    rw [rounds_succ]
    go_wp2_with (first | (go_at_call 48; (with_reducible refine (unhide hC _).mono ?_); rintro e w1 ⟨rfl, rfl⟩) | (go_at_call 49; (with_reducible refine (unhide ha _).mono ?_); rintro e w1 ⟨rfl, rfl⟩) | (go_at_call 49; (with_reducible refine (unhide hb _).mono ?_); rintro e w1 ⟨rfl, rfl⟩) | (go_at_call 49; (with_reducible refine (unhide hx _).mono ?_); rintro e w1 ⟨rfl, rfl⟩) | (go_at_call 49; (with_reducible refine (unhide hw _).mono ?_); rintro e w1 ⟨rfl, rfl⟩))
    rw [rounds_succ]
    go_wp2_with (first | (go_at_call 48; (with_reducible refine (unhide hC _).mono ?_); rintro e w1 ⟨rfl, rfl⟩) | (go_at_call 49; (with_reducible refine (unhide ha _).mono ?_); rintro e w1 ⟨rfl, rfl⟩) | (go_at_call 49; (with_reducible refine (unhide hb _).mono ?_); rintro e w1 ⟨rfl, rfl⟩) | (go_at_call 49; (with_reducible refine (unhide hx _).mono ?_); rintro e w1 ⟨rfl, rfl⟩) | (go_at_call 49; (with_reducible refine (unhide hw _).mono ?_); rintro e w1 ⟨rfl, rfl⟩))
    rw [rounds_succ]
    go_wp2_with (first | (go_at_call 48; (with_reducible refine (unhide hC _).mono ?_); rintro e w1 ⟨rfl, rfl⟩) | (go_at_call 49; (with_reducible refine (unhide ha _).mono ?_); rintro e w1 ⟨rfl, rfl⟩) | (go_at_call 49; (with_reducible refine (unhide hb _).mono ?_); rintro e w1 ⟨rfl, rfl⟩) | (go_at_call 49; (with_reducible refine (unhide hx _).mono ?_); rintro e w1 ⟨rfl, rfl⟩) | (go_at_call 49; (with_reducible refine (unhide hw _).mono ?_); rintro e w1 ⟨rfl, rfl⟩))
    rw [rounds_succ]
    go_wp2_with (first | (go_at_call 48; (with_reducible refine (unhide hC _).mono ?_); rintro e w1 ⟨rfl, rfl⟩) | (go_at_call 49; (with_reducible refine (unhide ha _).mono ?_); rintro e w1 ⟨rfl, rfl⟩) | (go_at_call 49; (with_reducible refine (unhide hb _).mono ?_); rintro e w1 ⟨rfl, rfl⟩) | (go_at_call 49; (with_reducible refine (unhide hx _).mono ?_); rintro e w1 ⟨rfl, rfl⟩) | (go_at_call 49; (with_reducible refine (unhide hw _).mono ?_); rintro e w1 ⟨rfl, rfl⟩))
    go_ret3
    exact ⟨rfl, (by repeat' (first | (with_reducible exact up_refl _) | (with_reducible assumption) | (with_reducible refine up_alloc ?_ _) | (with_reducible refine up_drewN ?_ _) | (with_reducible refine up_drew ?_) | (with_reducible refine up_set ?_ (by first | (simp; done) | (simp; omega) | omega) _) | (refine up_trans ?_ (by with_reducible assumption))))⟩
  · have hl := hide (unhide HL2 rfl rfl rfl rfl c rfl)
    obtain ⟨U, hU⟩ : ∃ U, up m (b - a) (b - a - (x - a)) = U := ⟨_, rfl⟩
    obtain ⟨V, hV⟩ : ∃ U, up m (b - a) (x - a) = U := ⟨_, rfl⟩
    rw [hU, hV] at hl ⊢
    clear hU hV
    show Calls Tryz.prog 21 #[.int .i64 m, .int .i64 a, .int .i64 b, .int .i64 x] w fun e w' => e = .returned (.tuple #[.int .i64 U, .int .i64 V, .int .i64 0]) ∧ Up w w'
    go_enter Tryz.func21, Tryz.ntmps21
    go_wp2_with (first | (go_at_call 48; (with_reducible refine (unhide hC _).mono ?_); rintro e w1 ⟨rfl, rfl⟩) | (go_at_call 49; (with_reducible refine (unhide ha _).mono ?_); rintro e w1 ⟨rfl, rfl⟩) | (go_at_call 49; (with_reducible refine (unhide hb _).mono ?_); rintro e w1 ⟨rfl, rfl⟩) | (go_at_call 49; (with_reducible refine (unhide hx _).mono ?_); rintro e w1 ⟨rfl, rfl⟩) | (go_at_call 49; (with_reducible refine (unhide hw _).mono ?_); rintro e w1 ⟨rfl, rfl⟩) | (go_at_call 50; (with_reducible refine (unhide hl _).mono ?_); rintro e w1 ⟨rfl, hbl⟩))
    refine wp_loop_rounds 4 ?_
    rw [rounds_succ]
    go_wp2_with (first | (go_at_call 48; (with_reducible refine (unhide hC _).mono ?_); rintro e w1 ⟨rfl, rfl⟩) | (go_at_call 49; (with_reducible refine (unhide ha _).mono ?_); rintro e w1 ⟨rfl, rfl⟩) | (go_at_call 49; (with_reducible refine (unhide hb _).mono ?_); rintro e w1 ⟨rfl, rfl⟩) | (go_at_call 49; (with_reducible refine (unhide hx _).mono ?_); rintro e w1 ⟨rfl, rfl⟩) | (go_at_call 49; (with_reducible refine (unhide hw _).mono ?_); rintro e w1 ⟨rfl, rfl⟩) | (go_at_call 50; (with_reducible refine (unhide hl _).mono ?_); rintro e w1 ⟨rfl, hbl⟩))
    rw [rounds_succ]
    go_wp2_with (first | (go_at_call 48; (with_reducible refine (unhide hC _).mono ?_); rintro e w1 ⟨rfl, rfl⟩) | (go_at_call 49; (with_reducible refine (unhide ha _).mono ?_); rintro e w1 ⟨rfl, rfl⟩) | (go_at_call 49; (with_reducible refine (unhide hb _).mono ?_); rintro e w1 ⟨rfl, rfl⟩) | (go_at_call 49; (with_reducible refine (unhide hx _).mono ?_); rintro e w1 ⟨rfl, rfl⟩) | (go_at_call 49; (with_reducible refine (unhide hw _).mono ?_); rintro e w1 ⟨rfl, rfl⟩) | (go_at_call 50; (with_reducible refine (unhide hl _).mono ?_); rintro e w1 ⟨rfl, hbl⟩))
    rw [rounds_succ]
    go_wp2_with (first | (go_at_call 48; (with_reducible refine (unhide hC _).mono ?_); rintro e w1 ⟨rfl, rfl⟩) | (go_at_call 49; (with_reducible refine (unhide ha _).mono ?_); rintro e w1 ⟨rfl, rfl⟩) | (go_at_call 49; (with_reducible refine (unhide hb _).mono ?_); rintro e w1 ⟨rfl, rfl⟩) | (go_at_call 49; (with_reducible refine (unhide hx _).mono ?_); rintro e w1 ⟨rfl, rfl⟩) | (go_at_call 49; (with_reducible refine (unhide hw _).mono ?_); rintro e w1 ⟨rfl, rfl⟩) | (go_at_call 50; (with_reducible refine (unhide hl _).mono ?_); rintro e w1 ⟨rfl, hbl⟩))
    rw [rounds_succ]
    go_wp2_with (first | (go_at_call 48; (with_reducible refine (unhide hC _).mono ?_); rintro e w1 ⟨rfl, rfl⟩) | (go_at_call 49; (with_reducible refine (unhide ha _).mono ?_); rintro e w1 ⟨rfl, rfl⟩) | (go_at_call 49; (with_reducible refine (unhide hb _).mono ?_); rintro e w1 ⟨rfl, rfl⟩) | (go_at_call 49; (with_reducible refine (unhide hx _).mono ?_); rintro e w1 ⟨rfl, rfl⟩) | (go_at_call 49; (with_reducible refine (unhide hw _).mono ?_); rintro e w1 ⟨rfl, rfl⟩) | (go_at_call 50; (with_reducible refine (unhide hl _).mono ?_); rintro e w1 ⟨rfl, hbl⟩))
    go_ret3
    exact ⟨rfl, (by repeat' (first | (with_reducible exact up_refl _) | (with_reducible assumption) | (with_reducible refine up_alloc ?_ _) | (with_reducible refine up_drewN ?_ _) | (with_reducible refine up_drew ?_) | (with_reducible refine up_set ?_ (by first | (simp; done) | (simp; omega) | omega) _) | (refine up_trans ?_ (by with_reducible assumption))))⟩
end Go.Proofs.YthifcalemhpmoaaGreat
namespace Go.Proofs.YthifcalemhpmoaaGreat
open Go.RowKit Go.Proofs.Gn
set_option maxHeartbeats 4000000 in
theorem p_sums (A : Option Addr) (ps : List Gs.Sup) (cap : Nat) (w : World) (h : Sups w A ps) (ho : Gs.okA ps = true) (hn : ps.length ≤ 48) :
    Calls Tryz.prog 57 #[.slice A ps.length cap] w fun e w' => e = .returned (.agg (l9 ps).toArray) ∧ Up w w' := by
  rcases h with rfl | ⟨b, off, rfl, hc⟩
  · go_enter Tryz.func57, Tryz.ntmps57
    go_wp2_with fail
    go_rounds 1
    go_returns
    exact ⟨rfl, (by repeat' (first | (with_reducible exact up_refl _) | (with_reducible assumption) | (with_reducible refine up_alloc ?_ _) | (with_reducible refine up_drewN ?_ _) | (with_reducible refine up_drew ?_) | (with_reducible refine up_set ?_ (by first | (simp; done) | (simp; omega) | omega) _) | (refine up_trans ?_ (by with_reducible assumption))))⟩
  have HC := hide hc
  have HO := hide ho
  clear hc ho
  obtain ⟨n, hN⟩ : ∃ n, ps.length = n := ⟨_, rfl⟩
  rw [hN] at hn ⊢
  have HN := hide hN
  clear hN
  go_enter Tryz.func57, Tryz.ntmps57
  go_wp2_with fail
  go_loopw [10] (fun i wr => ∃ k : Nat, k ≤ n ∧ i = .int .i64 k ∧ Up w wr ∧ Bx wr (w.heap.size + 1) (l9 (ps.take k)) ∧ Bx wr w.heap.size (l9 [])) (fun i _ => n - (intOf i).toNat)
  case atStart => exact ⟨0, by omega, rfl, (by repeat' (first | (with_reducible exact up_refl _) | (with_reducible assumption) | (with_reducible refine up_alloc ?_ _) | (with_reducible refine up_drewN ?_ _) | (with_reducible refine up_drew ?_) | (with_reducible refine up_set ?_ (by first | (simp; done) | (simp; omega) | omega) _) | (refine up_trans ?_ (by with_reducible assumption)))), by have h1 := bx_new (w.alloc (.cells #[.int .i64 0, .int .i64 0, .int .i64 0, .int .i64 0, .int .i64 0, .int .i64 0, .int .i64 0, .int .i64 0, .int .i64 0] 122)) (l9 []) 122; rwa [sz1] at h1, bx_alloc (bx_new w (l9 []) 122) _⟩
  case round =>
    obtain ⟨k, hk, rfl, hu, hB, hZ⟩ := hrel
    have hUs := bx_lt hB (by simp)
    by_cases hlt : k < n
    · have hl : k < ps.length := by rw [unhide HN]; exact hlt
      have hsup := supAt_up (unhide HC k hl) hu
      have hok := Gs.okS_yes (Gs.okA_get (unhide HO) hl)
      have R0 := row_take (unhide HO) (by rw [unhide HN]; exact hn) k 0 (.inl rfl)
      have R1 := row_take (unhide HO) (by rw [unhide HN]; exact hn) k 1 (.inr (.inl rfl))
      have R2 := row_take (unhide HO) (by rw [unhide HN]; exact hn) k 2 (.inr (.inr rfl))
      obtain ⟨d0, d1, d2, d3, d4, d5⟩ := hsup
      have HS := hide (⟨fun g hg => sums_step hl g hg, fun g hg => sums_stay hl g hg⟩ : (∀ g, ps[k].g = g → _) ∧ (∀ g, ¬ ps[k].g = g → _))
      obtain ⟨x, hx⟩ : ∃ x, ps[k].x = x := ⟨_, rfl⟩
      obtain ⟨y, hy⟩ : ∃ x, ps[k].y = x := ⟨_, rfl⟩
      obtain ⟨g, hg⟩ : ∃ x, ps[k].g = x := ⟨_, rfl⟩
      rw [hx] at d0 hok
      rw [hy] at d1 hok
      rw [hg] at d2 hok
      have HX := hide (And.intro hx (And.intro hy hg))
      clear hx hy hg
      obtain ⟨n0, hn0⟩ : ∃ x, Gs.cN 0 (ps.take k) = x := ⟨_, rfl⟩
      obtain ⟨x0, hx0⟩ : ∃ x, Gs.cX 0 (ps.take k) = x := ⟨_, rfl⟩
      obtain ⟨y0, hy0⟩ : ∃ x, Gs.cY 0 (ps.take k) = x := ⟨_, rfl⟩
      obtain ⟨n1, hn1⟩ : ∃ x, Gs.cN 1 (ps.take k) = x := ⟨_, rfl⟩
      obtain ⟨x1, hx1⟩ : ∃ x, Gs.cX 1 (ps.take k) = x := ⟨_, rfl⟩
      obtain ⟨y1, hy1⟩ : ∃ x, Gs.cY 1 (ps.take k) = x := ⟨_, rfl⟩
      obtain ⟨n2, hn2⟩ : ∃ x, Gs.cN 2 (ps.take k) = x := ⟨_, rfl⟩
      obtain ⟨x2, hx2⟩ : ∃ x, Gs.cX 2 (ps.take k) = x := ⟨_, rfl⟩
      obtain ⟨y2, hy2⟩ : ∃ x, Gs.cY 2 (ps.take k) = x := ⟨_, rfl⟩
      have hB' : Bx wr (w.heap.size + 1) [.int .i64 n0, .int .i64 x0, .int .i64 y0, .int .i64 n1, .int .i64 x1, .int .i64 y1, .int .i64 n2, .int .i64 x2, .int .i64 y2] := by
        rw [← hn0, ← hx0, ← hy0, ← hn1, ← hx1, ← hy1, ← hn2, ← hx2, ← hy2]; exact hB
      rw [hn0, hx0, hy0] at R0
      rw [hn1, hx1, hy1] at R1
      rw [hn2, hx2, hy2] at R2
      have HE := hide (And.intro hn0 (And.intro hx0 (And.intro hy0 (And.intro hn1 (And.intro hx1 (And.intro hy1 (And.intro hn2 (And.intro hx2 hy2))))))))
      clear hn0 hx0 hy0 hn1 hx1 hy1 hn2 hx2 hy2 hB
      obtain ⟨q0, q1, q2, q3, q4, q5, q6, q7, q8⟩ := bx9 hB'
      obtain ⟨f0, f1, f2, f3, f4, f5, f6, f7, f8⟩ := bxf9 hB'
      have HB := hide hB'
      clear hB'
      unfold Gs.Row at R0 R1 R2
      obtain ⟨⟨o1, o2⟩, ⟨o3, o4⟩, ⟨o5, o6⟩, _⟩ := hok
      obtain ⟨⟨_, _⟩, ⟨_, _⟩, _, _⟩ := R0
      obtain ⟨⟨_, _⟩, ⟨_, _⟩, _, _⟩ := R1
      obtain ⟨⟨_, _⟩, ⟨_, _⟩, _, _⟩ := R2
      rcases (show g = 0 ∨ g = 1 ∨ g = 2 by omega) with rfl | rfl | rfl
      · go_wp2_with fail
        refine at_wp (fun W0 hW0 => ?_)
        have u0 : Up wr W0 := by rw [hW0]; exact (by repeat' (first | (with_reducible exact up_refl _) | (with_reducible assumption) | (with_reducible refine up_alloc ?_ _) | (with_reducible refine up_drewN ?_ _) | (with_reducible refine up_drew ?_) | (with_reducible refine up_set ?_ (by first | (simp; done) | (simp; omega) | omega) _) | (refine up_trans ?_ (by with_reducible assumption))))
        have B0 : Bx W0 (w.heap.size + 1) [.int .i64 n0, .int .i64 x0, .int .i64 y0, .int .i64 n1, .int .i64 x1, .int .i64 y1, .int .i64 n2, .int .i64 x2, .int .i64 y2] := bx_up (unhide HB) u0
        have S0 : Bx W0 wr.heap.size [.int .i64 x, .int .i64 y, .int .i64 0, .int .i64 ps[k].lim, .int .i64 ps[k].lo, .int .i64 ps[k].hi] := by rw [hW0]; exact bx_alloc (bx_new wr _ 39) _
        have T0 : Bx W0 (wr.heap.size + 1) [.int .i64 1, .int .i64 x, .int .i64 y] := by
          rw [hW0]
          have t := bx_new (wr.alloc (.cells #[.int .i64 x, .int .i64 y, .int .i64 0, .int .i64 ps[k].lim, .int .i64 ps[k].lo, .int .i64 ps[k].hi] 39)) [.int .i64 1, .int .i64 x, .int .i64 y] 29
          rwa [sz1] at t
        have Z0 : Bx W0 w.heap.size (l9 []) := bx_up hZ u0
        have U0 : Up w W0 := up_trans hu u0
        clear hW0 u0 q0 q1 q2 q3 q4 q5 q6 q7 q8 f0 f1 f2 f3 f4 f5 f6 f7 f8 d0 d1 d2 d3 d4 d5
        refine wp_loop_rounds 4 ?_
        obtain ⟨q0, q1, q2, q3, q4, q5, q6, q7, q8⟩ := bx9 B0
        obtain ⟨f0, f1, f2, f3, f4, f5, f6, f7, f8⟩ := bxf9 B0
        have s2 := (S0 2 _ rfl).1
        have tc := (T0 0 _ rfl).1
        rw [rounds_succ]
        go_wp2_with fail
        go_region
        all_goals go_wp2_with fail
        refine at_rounds (fun W1 hW1 => ?_)
        have B1 : Bx W1 (w.heap.size + 1) [.int .i64 (n0 + 1), .int .i64 x0, .int .i64 y0, .int .i64 n1, .int .i64 x1, .int .i64 y1, .int .i64 n2, .int .i64 x2, .int .i64 y2] := by rw [hW1]; exact bx_set (bx_drew B0) 0 _
        have S1 : Bx W1 wr.heap.size [.int .i64 x, .int .i64 y, .int .i64 0, .int .i64 ps[k].lim, .int .i64 ps[k].lo, .int .i64 ps[k].hi] := by rw [hW1]; exact bx_far (bx_drew S0) (by simp; omega) _
        have T1 : Bx W1 (wr.heap.size + 1) [.int .i64 1, .int .i64 x, .int .i64 y] := by rw [hW1]; exact bx_far (bx_drew T0) (by simp; omega) _
        have Z1 : Bx W1 w.heap.size (l9 []) := by rw [hW1]; exact bx_far (bx_drew Z0) (by simp) _
        have U1 : Up w W1 := by rw [hW1]; exact up_set (up_drew U0) (by simp) _
        clear hW1 B0 S0 T0 U0 Z0 q0 q1 q2 q3 q4 q5 q6 q7 q8 f0 f1 f2 f3 f4 f5 f6 f7 f8 s2 tc
        obtain ⟨q0, q1, q2, q3, q4, q5, q6, q7, q8⟩ := bx9 B1
        obtain ⟨f0, f1, f2, f3, f4, f5, f6, f7, f8⟩ := bxf9 B1
        have s2 := (S1 2 _ rfl).1
        have tc := (T1 1 _ rfl).1
        rw [rounds_succ]
        go_wp2_with fail
        go_region
        all_goals go_wp2_with fail
        refine at_rounds (fun W2 hW2 => ?_)
        have B2 : Bx W2 (w.heap.size + 1) [.int .i64 (n0 + 1), .int .i64 (x0 + x), .int .i64 y0, .int .i64 n1, .int .i64 x1, .int .i64 y1, .int .i64 n2, .int .i64 x2, .int .i64 y2] := by rw [hW2]; exact bx_set (bx_drew B1) 1 _
        have S2 : Bx W2 wr.heap.size [.int .i64 x, .int .i64 y, .int .i64 0, .int .i64 ps[k].lim, .int .i64 ps[k].lo, .int .i64 ps[k].hi] := by rw [hW2]; exact bx_far (bx_drew S1) (by simp; omega) _
        have T2 : Bx W2 (wr.heap.size + 1) [.int .i64 1, .int .i64 x, .int .i64 y] := by rw [hW2]; exact bx_far (bx_drew T1) (by simp; omega) _
        have Z2 : Bx W2 w.heap.size (l9 []) := by rw [hW2]; exact bx_far (bx_drew Z1) (by simp) _
        have U2 : Up w W2 := by rw [hW2]; exact up_set (up_drew U1) (by simp) _
        clear hW2 B1 S1 T1 U1 Z1 q0 q1 q2 q3 q4 q5 q6 q7 q8 f0 f1 f2 f3 f4 f5 f6 f7 f8 s2 tc
        obtain ⟨q0, q1, q2, q3, q4, q5, q6, q7, q8⟩ := bx9 B2
        obtain ⟨f0, f1, f2, f3, f4, f5, f6, f7, f8⟩ := bxf9 B2
        have s2 := (S2 2 _ rfl).1
        have tc := (T2 2 _ rfl).1
        rw [rounds_succ]
        go_wp2_with fail
        go_region
        all_goals go_wp2_with fail
        refine at_rounds (fun W3 hW3 => ?_)
        have B3 : Bx W3 (w.heap.size + 1) [.int .i64 (n0 + 1), .int .i64 (x0 + x), .int .i64 (y0 + y), .int .i64 n1, .int .i64 x1, .int .i64 y1, .int .i64 n2, .int .i64 x2, .int .i64 y2] := by rw [hW3]; exact bx_set (bx_drew B2) 2 _
        have S3 : Bx W3 wr.heap.size [.int .i64 x, .int .i64 y, .int .i64 0, .int .i64 ps[k].lim, .int .i64 ps[k].lo, .int .i64 ps[k].hi] := by rw [hW3]; exact bx_far (bx_drew S2) (by simp; omega) _
        have T3 : Bx W3 (wr.heap.size + 1) [.int .i64 1, .int .i64 x, .int .i64 y] := by rw [hW3]; exact bx_far (bx_drew T2) (by simp; omega) _
        have Z3 : Bx W3 w.heap.size (l9 []) := by rw [hW3]; exact bx_far (bx_drew Z2) (by simp) _
        have U3 : Up w W3 := by rw [hW3]; exact up_set (up_drew U2) (by simp) _
        clear hW3 B2 S2 T2 U2 Z2 q0 q1 q2 q3 q4 q5 q6 q7 q8 f0 f1 f2 f3 f4 f5 f6 f7 f8 s2 tc
        rw [rounds_succ]
        go_wp2_with fail
        go_roundw
        case rel =>
          refine ⟨k + 1, by omega, by go_num, U3, ?_, Z3⟩
          obtain ⟨e1, e2, e3⟩ := unhide HX
          obtain ⟨k1, k2⟩ := unhide HS
          obtain ⟨z0, z1, z2, z3, z4, z5, z6, z7, z8⟩ := unhide HE
          have a := k1 0 e3
          have p := k2 1 (by rw [e3]; decide)
          have q := k2 2 (by rw [e3]; decide)
          rw [e1, e2] at a
          unfold l9
          rw [a.1, a.2.1, a.2.2, p.1, p.2.1, p.2.2, q.1, q.2.1, q.2.2, z0, z1, z2, z3, z4, z5, z6, z7, z8]
          exact B3
        case measure => simp [intOf]; omega
      · go_wp2_with fail
        refine at_wp (fun W0 hW0 => ?_)
        have u0 : Up wr W0 := by rw [hW0]; exact (by repeat' (first | (with_reducible exact up_refl _) | (with_reducible assumption) | (with_reducible refine up_alloc ?_ _) | (with_reducible refine up_drewN ?_ _) | (with_reducible refine up_drew ?_) | (with_reducible refine up_set ?_ (by first | (simp; done) | (simp; omega) | omega) _) | (refine up_trans ?_ (by with_reducible assumption))))
        have B0 : Bx W0 (w.heap.size + 1) [.int .i64 n0, .int .i64 x0, .int .i64 y0, .int .i64 n1, .int .i64 x1, .int .i64 y1, .int .i64 n2, .int .i64 x2, .int .i64 y2] := bx_up (unhide HB) u0
        have S0 : Bx W0 wr.heap.size [.int .i64 x, .int .i64 y, .int .i64 1, .int .i64 ps[k].lim, .int .i64 ps[k].lo, .int .i64 ps[k].hi] := by rw [hW0]; exact bx_alloc (bx_new wr _ 39) _
        have T0 : Bx W0 (wr.heap.size + 1) [.int .i64 1, .int .i64 x, .int .i64 y] := by
          rw [hW0]
          have t := bx_new (wr.alloc (.cells #[.int .i64 x, .int .i64 y, .int .i64 1, .int .i64 ps[k].lim, .int .i64 ps[k].lo, .int .i64 ps[k].hi] 39)) [.int .i64 1, .int .i64 x, .int .i64 y] 29
          rwa [sz1] at t
        have Z0 : Bx W0 w.heap.size (l9 []) := bx_up hZ u0
        have U0 : Up w W0 := up_trans hu u0
        clear hW0 u0 q0 q1 q2 q3 q4 q5 q6 q7 q8 f0 f1 f2 f3 f4 f5 f6 f7 f8 d0 d1 d2 d3 d4 d5
        refine wp_loop_rounds 4 ?_
        obtain ⟨q0, q1, q2, q3, q4, q5, q6, q7, q8⟩ := bx9 B0
        obtain ⟨f0, f1, f2, f3, f4, f5, f6, f7, f8⟩ := bxf9 B0
        have s2 := (S0 2 _ rfl).1
        have tc := (T0 0 _ rfl).1
        rw [rounds_succ]
        go_wp2_with fail
        go_region
        all_goals go_wp2_with fail
        refine at_rounds (fun W1 hW1 => ?_)
        have B1 : Bx W1 (w.heap.size + 1) [.int .i64 n0, .int .i64 x0, .int .i64 y0, .int .i64 (n1 + 1), .int .i64 x1, .int .i64 y1, .int .i64 n2, .int .i64 x2, .int .i64 y2] := by rw [hW1]; exact bx_set (bx_drew B0) 3 _
        have S1 : Bx W1 wr.heap.size [.int .i64 x, .int .i64 y, .int .i64 1, .int .i64 ps[k].lim, .int .i64 ps[k].lo, .int .i64 ps[k].hi] := by rw [hW1]; exact bx_far (bx_drew S0) (by simp; omega) _
        have T1 : Bx W1 (wr.heap.size + 1) [.int .i64 1, .int .i64 x, .int .i64 y] := by rw [hW1]; exact bx_far (bx_drew T0) (by simp; omega) _
        have Z1 : Bx W1 w.heap.size (l9 []) := by rw [hW1]; exact bx_far (bx_drew Z0) (by simp) _
        have U1 : Up w W1 := by rw [hW1]; exact up_set (up_drew U0) (by simp) _
        clear hW1 B0 S0 T0 U0 Z0 q0 q1 q2 q3 q4 q5 q6 q7 q8 f0 f1 f2 f3 f4 f5 f6 f7 f8 s2 tc
        obtain ⟨q0, q1, q2, q3, q4, q5, q6, q7, q8⟩ := bx9 B1
        obtain ⟨f0, f1, f2, f3, f4, f5, f6, f7, f8⟩ := bxf9 B1
        have s2 := (S1 2 _ rfl).1
        have tc := (T1 1 _ rfl).1
        rw [rounds_succ]
        go_wp2_with fail
        go_region
        all_goals go_wp2_with fail
        refine at_rounds (fun W2 hW2 => ?_)
        have B2 : Bx W2 (w.heap.size + 1) [.int .i64 n0, .int .i64 x0, .int .i64 y0, .int .i64 (n1 + 1), .int .i64 (x1 + x), .int .i64 y1, .int .i64 n2, .int .i64 x2, .int .i64 y2] := by rw [hW2]; exact bx_set (bx_drew B1) 4 _
        have S2 : Bx W2 wr.heap.size [.int .i64 x, .int .i64 y, .int .i64 1, .int .i64 ps[k].lim, .int .i64 ps[k].lo, .int .i64 ps[k].hi] := by rw [hW2]; exact bx_far (bx_drew S1) (by simp; omega) _
        have T2 : Bx W2 (wr.heap.size + 1) [.int .i64 1, .int .i64 x, .int .i64 y] := by rw [hW2]; exact bx_far (bx_drew T1) (by simp; omega) _
        have Z2 : Bx W2 w.heap.size (l9 []) := by rw [hW2]; exact bx_far (bx_drew Z1) (by simp) _
        have U2 : Up w W2 := by rw [hW2]; exact up_set (up_drew U1) (by simp) _
        clear hW2 B1 S1 T1 U1 Z1 q0 q1 q2 q3 q4 q5 q6 q7 q8 f0 f1 f2 f3 f4 f5 f6 f7 f8 s2 tc
        obtain ⟨q0, q1, q2, q3, q4, q5, q6, q7, q8⟩ := bx9 B2
        obtain ⟨f0, f1, f2, f3, f4, f5, f6, f7, f8⟩ := bxf9 B2
        have s2 := (S2 2 _ rfl).1
        have tc := (T2 2 _ rfl).1
        rw [rounds_succ]
        go_wp2_with fail
        go_region
        all_goals go_wp2_with fail
        refine at_rounds (fun W3 hW3 => ?_)
        have B3 : Bx W3 (w.heap.size + 1) [.int .i64 n0, .int .i64 x0, .int .i64 y0, .int .i64 (n1 + 1), .int .i64 (x1 + x), .int .i64 (y1 + y), .int .i64 n2, .int .i64 x2, .int .i64 y2] := by rw [hW3]; exact bx_set (bx_drew B2) 5 _
        have S3 : Bx W3 wr.heap.size [.int .i64 x, .int .i64 y, .int .i64 1, .int .i64 ps[k].lim, .int .i64 ps[k].lo, .int .i64 ps[k].hi] := by rw [hW3]; exact bx_far (bx_drew S2) (by simp; omega) _
        have T3 : Bx W3 (wr.heap.size + 1) [.int .i64 1, .int .i64 x, .int .i64 y] := by rw [hW3]; exact bx_far (bx_drew T2) (by simp; omega) _
        have Z3 : Bx W3 w.heap.size (l9 []) := by rw [hW3]; exact bx_far (bx_drew Z2) (by simp) _
        have U3 : Up w W3 := by rw [hW3]; exact up_set (up_drew U2) (by simp) _
        clear hW3 B2 S2 T2 U2 Z2 q0 q1 q2 q3 q4 q5 q6 q7 q8 f0 f1 f2 f3 f4 f5 f6 f7 f8 s2 tc
        rw [rounds_succ]
        go_wp2_with fail
        go_roundw
        case rel =>
          refine ⟨k + 1, by omega, by go_num, U3, ?_, Z3⟩
          obtain ⟨e1, e2, e3⟩ := unhide HX
          obtain ⟨k1, k2⟩ := unhide HS
          obtain ⟨z0, z1, z2, z3, z4, z5, z6, z7, z8⟩ := unhide HE
          have a := k1 1 e3
          have p := k2 2 (by rw [e3]; decide)
          have q := k2 0 (by rw [e3]; decide)
          rw [e1, e2] at a
          unfold l9
          rw [a.1, a.2.1, a.2.2, p.1, p.2.1, p.2.2, q.1, q.2.1, q.2.2, z0, z1, z2, z3, z4, z5, z6, z7, z8]
          exact B3
        case measure => simp [intOf]; omega
      · go_wp2_with fail
        refine at_wp (fun W0 hW0 => ?_)
        have u0 : Up wr W0 := by rw [hW0]; exact (by repeat' (first | (with_reducible exact up_refl _) | (with_reducible assumption) | (with_reducible refine up_alloc ?_ _) | (with_reducible refine up_drewN ?_ _) | (with_reducible refine up_drew ?_) | (with_reducible refine up_set ?_ (by first | (simp; done) | (simp; omega) | omega) _) | (refine up_trans ?_ (by with_reducible assumption))))
        have B0 : Bx W0 (w.heap.size + 1) [.int .i64 n0, .int .i64 x0, .int .i64 y0, .int .i64 n1, .int .i64 x1, .int .i64 y1, .int .i64 n2, .int .i64 x2, .int .i64 y2] := bx_up (unhide HB) u0
        have S0 : Bx W0 wr.heap.size [.int .i64 x, .int .i64 y, .int .i64 2, .int .i64 ps[k].lim, .int .i64 ps[k].lo, .int .i64 ps[k].hi] := by rw [hW0]; exact bx_alloc (bx_new wr _ 39) _
        have T0 : Bx W0 (wr.heap.size + 1) [.int .i64 1, .int .i64 x, .int .i64 y] := by
          rw [hW0]
          have t := bx_new (wr.alloc (.cells #[.int .i64 x, .int .i64 y, .int .i64 2, .int .i64 ps[k].lim, .int .i64 ps[k].lo, .int .i64 ps[k].hi] 39)) [.int .i64 1, .int .i64 x, .int .i64 y] 29
          rwa [sz1] at t
        have Z0 : Bx W0 w.heap.size (l9 []) := bx_up hZ u0
        have U0 : Up w W0 := up_trans hu u0
        clear hW0 u0 q0 q1 q2 q3 q4 q5 q6 q7 q8 f0 f1 f2 f3 f4 f5 f6 f7 f8 d0 d1 d2 d3 d4 d5
        refine wp_loop_rounds 4 ?_
        obtain ⟨q0, q1, q2, q3, q4, q5, q6, q7, q8⟩ := bx9 B0
        obtain ⟨f0, f1, f2, f3, f4, f5, f6, f7, f8⟩ := bxf9 B0
        have s2 := (S0 2 _ rfl).1
        have tc := (T0 0 _ rfl).1
        rw [rounds_succ]
        go_wp2_with fail
        go_region
        all_goals go_wp2_with fail
        refine at_rounds (fun W1 hW1 => ?_)
        have B1 : Bx W1 (w.heap.size + 1) [.int .i64 n0, .int .i64 x0, .int .i64 y0, .int .i64 n1, .int .i64 x1, .int .i64 y1, .int .i64 (n2 + 1), .int .i64 x2, .int .i64 y2] := by rw [hW1]; exact bx_set (bx_drew B0) 6 _
        have S1 : Bx W1 wr.heap.size [.int .i64 x, .int .i64 y, .int .i64 2, .int .i64 ps[k].lim, .int .i64 ps[k].lo, .int .i64 ps[k].hi] := by rw [hW1]; exact bx_far (bx_drew S0) (by simp; omega) _
        have T1 : Bx W1 (wr.heap.size + 1) [.int .i64 1, .int .i64 x, .int .i64 y] := by rw [hW1]; exact bx_far (bx_drew T0) (by simp; omega) _
        have Z1 : Bx W1 w.heap.size (l9 []) := by rw [hW1]; exact bx_far (bx_drew Z0) (by simp) _
        have U1 : Up w W1 := by rw [hW1]; exact up_set (up_drew U0) (by simp) _
        clear hW1 B0 S0 T0 U0 Z0 q0 q1 q2 q3 q4 q5 q6 q7 q8 f0 f1 f2 f3 f4 f5 f6 f7 f8 s2 tc
        obtain ⟨q0, q1, q2, q3, q4, q5, q6, q7, q8⟩ := bx9 B1
        obtain ⟨f0, f1, f2, f3, f4, f5, f6, f7, f8⟩ := bxf9 B1
        have s2 := (S1 2 _ rfl).1
        have tc := (T1 1 _ rfl).1
        rw [rounds_succ]
        go_wp2_with fail
        go_region
        all_goals go_wp2_with fail
        refine at_rounds (fun W2 hW2 => ?_)
        have B2 : Bx W2 (w.heap.size + 1) [.int .i64 n0, .int .i64 x0, .int .i64 y0, .int .i64 n1, .int .i64 x1, .int .i64 y1, .int .i64 (n2 + 1), .int .i64 (x2 + x), .int .i64 y2] := by rw [hW2]; exact bx_set (bx_drew B1) 7 _
        have S2 : Bx W2 wr.heap.size [.int .i64 x, .int .i64 y, .int .i64 2, .int .i64 ps[k].lim, .int .i64 ps[k].lo, .int .i64 ps[k].hi] := by rw [hW2]; exact bx_far (bx_drew S1) (by simp; omega) _
        have T2 : Bx W2 (wr.heap.size + 1) [.int .i64 1, .int .i64 x, .int .i64 y] := by rw [hW2]; exact bx_far (bx_drew T1) (by simp; omega) _
        have Z2 : Bx W2 w.heap.size (l9 []) := by rw [hW2]; exact bx_far (bx_drew Z1) (by simp) _
        have U2 : Up w W2 := by rw [hW2]; exact up_set (up_drew U1) (by simp) _
        clear hW2 B1 S1 T1 U1 Z1 q0 q1 q2 q3 q4 q5 q6 q7 q8 f0 f1 f2 f3 f4 f5 f6 f7 f8 s2 tc
        obtain ⟨q0, q1, q2, q3, q4, q5, q6, q7, q8⟩ := bx9 B2
        obtain ⟨f0, f1, f2, f3, f4, f5, f6, f7, f8⟩ := bxf9 B2
        have s2 := (S2 2 _ rfl).1
        have tc := (T2 2 _ rfl).1
        rw [rounds_succ]
        go_wp2_with fail
        go_region
        all_goals go_wp2_with fail
        refine at_rounds (fun W3 hW3 => ?_)
        have B3 : Bx W3 (w.heap.size + 1) [.int .i64 n0, .int .i64 x0, .int .i64 y0, .int .i64 n1, .int .i64 x1, .int .i64 y1, .int .i64 (n2 + 1), .int .i64 (x2 + x), .int .i64 (y2 + y)] := by rw [hW3]; exact bx_set (bx_drew B2) 8 _
        have S3 : Bx W3 wr.heap.size [.int .i64 x, .int .i64 y, .int .i64 2, .int .i64 ps[k].lim, .int .i64 ps[k].lo, .int .i64 ps[k].hi] := by rw [hW3]; exact bx_far (bx_drew S2) (by simp; omega) _
        have T3 : Bx W3 (wr.heap.size + 1) [.int .i64 1, .int .i64 x, .int .i64 y] := by rw [hW3]; exact bx_far (bx_drew T2) (by simp; omega) _
        have Z3 : Bx W3 w.heap.size (l9 []) := by rw [hW3]; exact bx_far (bx_drew Z2) (by simp) _
        have U3 : Up w W3 := by rw [hW3]; exact up_set (up_drew U2) (by simp) _
        clear hW3 B2 S2 T2 U2 Z2 q0 q1 q2 q3 q4 q5 q6 q7 q8 f0 f1 f2 f3 f4 f5 f6 f7 f8 s2 tc
        rw [rounds_succ]
        go_wp2_with fail
        go_roundw
        case rel =>
          refine ⟨k + 1, by omega, by go_num, U3, ?_, Z3⟩
          obtain ⟨e1, e2, e3⟩ := unhide HX
          obtain ⟨k1, k2⟩ := unhide HS
          obtain ⟨z0, z1, z2, z3, z4, z5, z6, z7, z8⟩ := unhide HE
          have a := k1 2 e3
          have p := k2 0 (by rw [e3]; decide)
          have q := k2 1 (by rw [e3]; decide)
          rw [e1, e2] at a
          unfold l9
          rw [a.1, a.2.1, a.2.2, p.1, p.2.1, p.2.2, q.1, q.2.1, q.2.2, z0, z1, z2, z3, z4, z5, z6, z7, z8]
          exact B3
        case measure => simp [intOf]; omega
    · obtain rfl : k = n := by omega
      have hz : ps.take k = ps := List.take_of_length_le (by rw [unhide HN]; omega)
      rw [hz] at hB
      obtain ⟨q0, q1, q2, q3, q4, q5, q6, q7, q8⟩ := bx9 hB
      obtain ⟨f0, f1, f2, f3, f4, f5, f6, f7, f8⟩ := bxf9 hZ
      obtain ⟨z0, z1, z2, z3, z4, z5, z6, z7, z8⟩ := bx9 hZ
      clear hz
      go_wp2_with fail
      obtain ⟨W9, hW9⟩ : ∃ W9 : World, W9 = (((((((((wr.setCell ⟨w.heap.size, 0, none⟩ (.int .i64 (Gs.cN 0 ps))).setCell ⟨w.heap.size, 1, none⟩ (.int .i64 (Gs.cX 0 ps))).setCell ⟨w.heap.size, 2, none⟩ (.int .i64 (Gs.cY 0 ps))).setCell ⟨w.heap.size, 3, none⟩ (.int .i64 (Gs.cN 1 ps))).setCell ⟨w.heap.size, 4, none⟩ (.int .i64 (Gs.cX 1 ps))).setCell ⟨w.heap.size, 5, none⟩ (.int .i64 (Gs.cY 1 ps))).setCell ⟨w.heap.size, 6, none⟩ (.int .i64 (Gs.cN 2 ps))).setCell ⟨w.heap.size, 7, none⟩ (.int .i64 (Gs.cX 2 ps))).setCell ⟨w.heap.size, 8, none⟩ (.int .i64 (Gs.cY 2 ps))) := ⟨_, rfl⟩
      rw [← hW9]
      have B9 : Bx W9 w.heap.size (l9 ps) := by rw [hW9]; exact (bx_set (bx_set (bx_set (bx_set (bx_set (bx_set (bx_set (bx_set (bx_set hZ 0 _) 1 _) 2 _) 3 _) 4 _) 5 _) 6 _) 7 _) 8 _)
      have U9 : Up w W9 := by rw [hW9]; exact (by repeat' (first | (with_reducible exact up_refl _) | (with_reducible assumption) | (with_reducible refine up_alloc ?_ _) | (with_reducible refine up_drewN ?_ _) | (with_reducible refine up_drew ?_) | (with_reducible refine up_set ?_ (by first | (simp; done) | (simp; omega) | omega) _) | (refine up_trans ?_ (by with_reducible assumption))))
      clear hW9 q0 q1 q2 q3 q4 q5 q6 q7 q8 f0 f1 f2 f3 f4 f5 f6 f7 f8 z0 z1 z2 z3 z4 z5 z6 z7 z8
      obtain ⟨q0, q1, q2, q3, q4, q5, q6, q7, q8⟩ := bx9 B9
      refine bodyPost_ret (v := .agg (l9 ps).toArray) ?_ rfl ⟨rfl, U9⟩
      simp [results, Tryz.results57, go_sem, q0, q1, q2, q3, q4, q5, q6, q7, q8]
end Go.Proofs.YthifcalemhpmoaaGreat
namespace Go.Proofs.YthifcalemhpmoaaGreat
open Go.RowKit Go.Proofs.Gn
def chE (ps : List Gs.Sup) : Int := if ps.length < 3 ∨ 48 < ps.length then 6 else if Gs.okA ps then (if Gs.wh ps = 0 then 9 else 0) else 2
abbrev n9 (ps : List Gs.Sup) : Value := m9 (Gs.cN 0 ps) (Gs.cX 0 ps) (Gs.cY 0 ps) (Gs.cN 1 ps) (Gs.cX 1 ps) (Gs.cY 1 ps) (Gs.cN 2 ps) (Gs.cX 2 ps) (Gs.cY 2 ps)
theorem p_sums9 (A : Option Addr) (ps : List Gs.Sup) (cap : Nat) (ho : Gs.okA ps = true) (hn : ps.length ≤ 48) (w : World) (h : Sups w A ps) :
    Calls Tryz.prog 57 #[.slice A ps.length cap] w fun e w' => e = .returned (n9 ps) ∧ Up w w' := p_sums A ps cap w h ho hn
theorem p_det9 {ps : List Gs.Sup} (ho : Gs.okA ps = true) (hn : ps.length ≤ 48) (w : World) :
    Calls Tryz.prog 56 #[n9 ps] w fun e w' => e = .returned (.int .i64 (Gs.wh ps)) ∧ Up w w' :=
  p_determinant (Gs.row_of ho hn 0 (.inl rfl)) (Gs.row_of ho hn 1 (.inr (.inl rfl))) (Gs.row_of ho hn 2 (.inr (.inr rfl))) w
theorem okA_step {ps : List Gs.Sup} {k : Nat} (h : k < ps.length) (ho : Gs.okA (ps.take k) = true) : (Gs.okS ps[k] = true → Gs.okA (ps.take (k + 1)) = true) ∧ (Gs.okS ps[k] = false → Gs.okA ps = false) :=
  ⟨fun hs => by rw [Gs.okA_take_succ h, ho, hs]; rfl, fun hs => Gs.okA_at h hs⟩
set_option maxHeartbeats 4000000 in
theorem p_CheckS (A : Option Addr) (ps : List Gs.Sup) (cap : Nat) (w : World) (h : Sups w A ps) (hn : ps.length ≤ 9223372036854775807) :
    Calls Tryz.prog 25 #[.slice A ps.length cap] w fun e w' => e = .returned (.int .i64 (chE ps)) ∧ Up w w' := by
  unfold chE
  by_cases c1 : ps.length < 3 ∨ 48 < ps.length
  · rw [if_pos c1]
    obtain ⟨n, hN⟩ : ∃ n, ps.length = n := ⟨_, rfl⟩
    rw [hN] at c1 hn ⊢
    clear hN h
    rcases c1 with c1 | c1
    · go_enter Tryz.func25, Tryz.ntmps25
      go_wp2_with fail
      go_ret
      exact ⟨rfl, (by repeat' (first | (with_reducible exact up_refl _) | (with_reducible assumption) | (with_reducible refine up_alloc ?_ _) | (with_reducible refine up_drewN ?_ _) | (with_reducible refine up_drew ?_) | (with_reducible refine up_set ?_ (by first | (simp; done) | (simp; omega) | omega) _) | (refine up_trans ?_ (by with_reducible assumption))))⟩
    · go_enter Tryz.func25, Tryz.ntmps25
      go_wp2_with fail
      go_ret
      exact ⟨rfl, (by repeat' (first | (with_reducible exact up_refl _) | (with_reducible assumption) | (with_reducible refine up_alloc ?_ _) | (with_reducible refine up_drewN ?_ _) | (with_reducible refine up_drew ?_) | (with_reducible refine up_set ?_ (by first | (simp; done) | (simp; omega) | omega) _) | (refine up_trans ?_ (by with_reducible assumption))))⟩
  rw [if_neg c1]
  obtain ⟨E, hE⟩ : ∃ E : Int, (if Gs.okA ps = true then (if Gs.wh ps = 0 then 9 else 0) else 2) = E := ⟨_, rfl⟩
  rw [hE]
  have HE := hide hE
  clear hE
  have hP := hide h
  rcases h with rfl | ⟨b, off, rfl, hc⟩
  · simp at c1
  have HC := hide hc
  clear hc
  have HSum := hide (fun (ho : Gs.okA ps = true) (W : World) (hW : Up w W) => p_sums9 (some ⟨b, off, none⟩) ps cap ho (by omega) W (sups_up (unhide hP) hW))
  have HDet := hide (fun (ho : Gs.okA ps = true) (W : World) => p_det9 ho (by omega) W)
  obtain ⟨n, hN⟩ : ∃ n, ps.length = n := ⟨_, rfl⟩
  rw [hN] at c1 HSum ⊢
  have c2 : 3 ≤ n ∧ n ≤ 48 := by omega
  have HN := hide hN
  clear hN hn c1 hP
  obtain ⟨c2, c3⟩ := c2
  go_enter Tryz.func25, Tryz.ntmps25
  go_wp2_with fail
  go_loopw [15] (fun i wr => ∃ k : Nat, k ≤ n ∧ i = .int .i64 k ∧ Up w wr ∧ Gs.okA (ps.take k) = true) (fun i _ => n - (intOf i).toNat)
  case atStart => exact ⟨0, by omega, rfl, up_refl _, rfl⟩
  case round =>
    obtain ⟨k, hk, rfl, hu, ho⟩ := hrel
    have HO := hide ho
    clear ho
    by_cases hlt : k < n
    · have hl : k < ps.length := by rw [unhide HN]; exact hlt
      obtain ⟨d0, d1, d2, d3, d4, d5⟩ := supAt_up (unhide HC k hl) hu
      have HS := hide (fun W => p_isSupport ps[k] W)
      have HT := hide (okA_step hl (unhide HO))
      obtain ⟨x, hx⟩ : ∃ x, ps[k].x = x := ⟨_, rfl⟩
      obtain ⟨y, hy⟩ : ∃ x, ps[k].y = x := ⟨_, rfl⟩
      obtain ⟨g, hg⟩ : ∃ x, ps[k].g = x := ⟨_, rfl⟩
      obtain ⟨m, hm⟩ : ∃ x, ps[k].lim = x := ⟨_, rfl⟩
      obtain ⟨lo, hlo⟩ : ∃ x, ps[k].lo = x := ⟨_, rfl⟩
      obtain ⟨hi, hhi⟩ : ∃ x, ps[k].hi = x := ⟨_, rfl⟩
      unfold sv at HS
      rw [hx] at d0 HS
      rw [hy] at d1 HS
      rw [hg] at d2 HS
      rw [hm] at d3 HS
      rw [hlo] at d4 HS
      rw [hhi] at d5 HS
      clear hx hy hg hm hlo hhi
      cases hs : Gs.okS ps[k]
      · rw [hs] at HS
        have HV := hide ((unhide HT).2 hs)
        clear hs HT
        go_wp2_with (go_at_call 55; (with_reducible refine (unhide HS _).mono ?_); rintro e w1 ⟨rfl, hb⟩)
        go_ret
        exact ⟨ret_int (by rw [← unhide HE, unhide HV]; rfl), (by repeat' (first | (with_reducible exact up_refl _) | (with_reducible assumption) | (with_reducible refine up_alloc ?_ _) | (with_reducible refine up_drewN ?_ _) | (with_reducible refine up_drew ?_) | (with_reducible refine up_set ?_ (by first | (simp; done) | (simp; omega) | omega) _) | (refine up_trans ?_ (by with_reducible assumption))))⟩
      · rw [hs] at HS
        have HV := hide ((unhide HT).1 hs)
        clear hs HT
        go_wp2_with (go_at_call 55; (with_reducible refine (unhide HS _).mono ?_); rintro e w1 ⟨rfl, hb⟩)
        go_roundw
        case rel => exact ⟨k + 1, by omega, by go_num, (by repeat' (first | (with_reducible exact up_refl _) | (with_reducible assumption) | (with_reducible refine up_alloc ?_ _) | (with_reducible refine up_drewN ?_ _) | (with_reducible refine up_drew ?_) | (with_reducible refine up_set ?_ (by first | (simp; done) | (simp; omega) | omega) _) | (refine up_trans ?_ (by with_reducible assumption)))), unhide HV⟩
        case measure => simp [intOf]; omega
    · obtain rfl : k = n := by omega
      have ho : Gs.okA ps = true := by
        have := unhide HO
        rwa [List.take_of_length_le (by rw [unhide HN]; omega)] at this
      have hS := hide (unhide HSum ho)
      have hD := hide (unhide HDet ho)
      obtain ⟨D, hDv⟩ : ∃ D, Gs.wh ps = D := ⟨_, rfl⟩
      rw [hDv] at hD
      have HE2 := unhide HE
      rw [ho, hDv, if_pos rfl] at HE2
      clear ho HSum HDet hDv HE
      by_cases hz : D = 0
      · subst hz
        obtain rfl : (9 : Int) = E := HE2
        go_wp2_with (first | (go_at_call 57; (with_reducible refine (unhide hS _ (by repeat' (first | (with_reducible exact up_refl _) | (with_reducible assumption) | (with_reducible refine up_alloc ?_ _) | (with_reducible refine up_drewN ?_ _) | (with_reducible refine up_drew ?_) | (with_reducible refine up_set ?_ (by first | (simp; done) | (simp; omega) | omega) _) | (refine up_trans ?_ (by with_reducible assumption))))).mono ?_); rintro e w1 ⟨rfl, hb⟩) | (go_at_call 56; (with_reducible refine (unhide hD _).mono ?_); rintro e w2 ⟨rfl, hb2⟩))
        go_ret
        exact ⟨rfl, (by repeat' (first | (with_reducible exact up_refl _) | (with_reducible assumption) | (with_reducible refine up_alloc ?_ _) | (with_reducible refine up_drewN ?_ _) | (with_reducible refine up_drew ?_) | (with_reducible refine up_set ?_ (by first | (simp; done) | (simp; omega) | omega) _) | (refine up_trans ?_ (by with_reducible assumption))))⟩
      · rw [if_neg hz] at HE2
        obtain rfl : (0 : Int) = E := HE2
        have hz2 : (D == 0) = false := by simp; exact hz
        go_wp2_with (first | (go_at_call 57; (with_reducible refine (unhide hS _ (by repeat' (first | (with_reducible exact up_refl _) | (with_reducible assumption) | (with_reducible refine up_alloc ?_ _) | (with_reducible refine up_drewN ?_ _) | (with_reducible refine up_drew ?_) | (with_reducible refine up_set ?_ (by first | (simp; done) | (simp; omega) | omega) _) | (refine up_trans ?_ (by with_reducible assumption))))).mono ?_); rintro e w1 ⟨rfl, hb⟩) | (go_at_call 56; (with_reducible refine (unhide hD _).mono ?_); rintro e w2 ⟨rfl, hb2⟩))
        go_ret
        exact ⟨rfl, (by repeat' (first | (with_reducible exact up_refl _) | (with_reducible assumption) | (with_reducible refine up_alloc ?_ _) | (with_reducible refine up_drewN ?_ _) | (with_reducible refine up_drew ?_) | (with_reducible refine up_set ?_ (by first | (simp; done) | (simp; omega) | omega) _) | (refine up_trans ?_ (by with_reducible assumption))))⟩
/-! ### At a point -/
def ptB (X Y : Int) : Bool := win X (-262144) 262144 && win Y (-262144) 262144
def ptE (X Y : Int) : Int := if ptB X Y then 0 else 3
theorem p_checkPoint (X Y : Int) (w : World) : Calls Tryz.prog 96 #[pt X Y] w fun e w' => e = .returned (.int .i64 (ptE X Y)) ∧ Up w w' := by
  have H1 : ∀ W : World, Calls Tryz.prog 49 #[.int .i64 X, .int .i64 (-262144), .int .i64 262144] W fun e w' => e = .returned (.bool (win X (-262144) 262144)) ∧ W = w' := fun W => p_within _ _ _ W
  have H2 : ∀ W : World, Calls Tryz.prog 49 #[.int .i64 Y, .int .i64 (-262144), .int .i64 262144] W fun e w' => e = .returned (.bool (win Y (-262144) 262144)) ∧ W = w' := fun W => p_within _ _ _ W
  unfold ptE ptB
  generalize win X (-262144) 262144 = b1 at *
  generalize win Y (-262144) 262144 = b2 at *
  have h1 := hide H1
  have h2 := hide H2
  clear H1 H2
  cases b1
  · show Calls Tryz.prog 96 #[pt X Y] w fun e w' => e = .returned (.int .i64 3) ∧ Up w w'
    go_enter Tryz.func96, Tryz.ntmps96
    go_wp2_with (first | (go_at_call 49; (with_reducible refine (unhide h1 _).mono ?_); rintro e w1 ⟨rfl, rfl⟩) | (go_at_call 49; (with_reducible refine (unhide h2 _).mono ?_); rintro e w1 ⟨rfl, rfl⟩))
    go_ret
    exact ⟨rfl, (by repeat' (first | (with_reducible exact up_refl _) | (with_reducible assumption) | (with_reducible refine up_alloc ?_ _) | (with_reducible refine up_drewN ?_ _) | (with_reducible refine up_drew ?_) | (with_reducible refine up_set ?_ (by first | (simp; done) | (simp; omega) | omega) _) | (refine up_trans ?_ (by with_reducible assumption))))⟩
  cases b2
  · show Calls Tryz.prog 96 #[pt X Y] w fun e w' => e = .returned (.int .i64 3) ∧ Up w w'
    go_enter Tryz.func96, Tryz.ntmps96
    go_wp2_with (first | (go_at_call 49; (with_reducible refine (unhide h1 _).mono ?_); rintro e w1 ⟨rfl, rfl⟩) | (go_at_call 49; (with_reducible refine (unhide h2 _).mono ?_); rintro e w1 ⟨rfl, rfl⟩))
    go_ret
    exact ⟨rfl, (by repeat' (first | (with_reducible exact up_refl _) | (with_reducible assumption) | (with_reducible refine up_alloc ?_ _) | (with_reducible refine up_drewN ?_ _) | (with_reducible refine up_drew ?_) | (with_reducible refine up_set ?_ (by first | (simp; done) | (simp; omega) | omega) _) | (refine up_trans ?_ (by with_reducible assumption))))⟩
  · show Calls Tryz.prog 96 #[pt X Y] w fun e w' => e = .returned (.int .i64 0) ∧ Up w w'
    go_enter Tryz.func96, Tryz.ntmps96
    go_wp2_with (first | (go_at_call 49; (with_reducible refine (unhide h1 _).mono ?_); rintro e w1 ⟨rfl, rfl⟩) | (go_at_call 49; (with_reducible refine (unhide h2 _).mono ?_); rintro e w1 ⟨rfl, rfl⟩))
    go_ret
    exact ⟨rfl, (by repeat' (first | (with_reducible exact up_refl _) | (with_reducible assumption) | (with_reducible refine up_alloc ?_ _) | (with_reducible refine up_drewN ?_ _) | (with_reducible refine up_drew ?_) | (with_reducible refine up_set ?_ (by first | (simp; done) | (simp; omega) | omega) _) | (refine up_trans ?_ (by with_reducible assumption))))⟩
def atE (ps : List Gs.Sup) (X Y : Int) : Int := if chE ps = 0 then ptE X Y else chE ps
end Go.Proofs.YthifcalemhpmoaaGreat
