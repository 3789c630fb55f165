/- The document's own division, for damages. -/
import Derived.Test.YtdignnmhiifpgaaBrRw
import Derived.Test.YtdignnmhiifpgaaNum
import Derived.Test.YtdignnmhiifpgaaStM
namespace Go.Proofs.Ytdignnmhiifpgaa
open Go.RowKit Go.Proofs.Gn
set_option linter.unusedVariables false
theorem r_Floor6 (n d : Int) (w : World) (hd : 0 < d) (hd2 : d ≤ 9223372036854775807) (h1 : -9223372036854775807 ≤ n) (h2 : n ≤ 9223372036854775807) :
    Calls Try.prog 94 #[.int .i64 n, .int .i64 d] w fun e w' => e = .returned (.int .i64 (n / d)) ∧ w = w' := by
  have b := abs_ediv_le (n := n) hd
  go_enter Try.func94, Try.ntmps94
  go_wp2
  · go_ret
    have h : n.tmod d < 0 := by assumption
    have e := down_neg hd h
    exact ⟨ret_int (by rw [← e]; show wrap64 _ = _; rw [e]; exact IntWalk.wrap64_in _ ⟨by omega, by omega⟩), rfl⟩
  · go_ret
    have h : 0 ≤ n.tmod d := by assumption
    have e := down_pos (n := n) hd (by omega)
    exact ⟨ret_int e, rfl⟩
/-- What is known after some bits. -/
def Bit6 (d R T q r : Int) : Prop := T * R = q * d + r ∧ 0 ≤ q ∧ 0 ≤ r
theorem bit_le6 {d R T q r : Int} (hd : 0 < d) (hR : 0 ≤ R ∧ R < d) (hT : 0 ≤ T) (h : Bit6 d R T q r) : q ≤ T := by
  obtain ⟨h1, h2, h3⟩ := h
  have a : T * R ≤ T * d := Int.mul_le_mul_of_nonneg_left (by omega) hT
  exact Int.le_of_mul_le_mul_right (show q * d ≤ T * d by omega) hd
theorem bit_less6 {d R T q r : Int} (h : Bit6 d R T q r) (hr : d ≤ r) : Bit6 d R T (q + 1) (r - d) := by
  obtain ⟨h1, h2, h3⟩ := h
  refine ⟨?_, by omega, by omega⟩
  rw [Int.add_mul]; omega
theorem bit_zero6 {d R T q r : Int} (h : Bit6 d R T q r) : Bit6 d R (2 * T) (2 * q) (2 * r) := by
  obtain ⟨h1, h2, h3⟩ := h
  refine ⟨?_, by omega, by omega⟩
  rw [Int.mul_assoc, h1, Int.mul_assoc, Int.mul_add]
theorem bit_one6 {d R T q r : Int} (hR : 0 ≤ R) (h : Bit6 d R T q r) : Bit6 d R (2 * T + 1) (2 * q) (2 * r + R) := by
  obtain ⟨h1, h2, h3⟩ := bit_zero6 h
  refine ⟨?_, by omega, by omega⟩
  rw [Int.add_mul]; omega
theorem bit_end6 {a b d W R q r : Int} (hd : 0 < d) (hb : W * d + R = b) (h : Bit6 d R a q r) (hr : r < d) : W * a + q = a * b / d := by
  obtain ⟨h1, h2, h3⟩ := h
  have e : (W * a + q) * d = a * b - r := by rw [← hb, Int.mul_add, h1]; grind
  exact ediv_unique hd (by omega) (by omega)
set_option maxRecDepth 100000 in
set_option maxHeartbeats 4000000 in
theorem r_Down6 (a b d : Int) (w : World) (ha : 0 ≤ a ∧ a < 1073741824) (hd : 1 ≤ d ∧ d ≤ 1048576) (hb2 : -1073741824 ≤ b ∧ b ≤ 1073741824) :
    Calls Try.prog 88 #[.int .i64 a, .int .i64 b, .int .i64 d] w fun e w' => e = .returned (.int .i64 (a * b / d)) ∧ w = w' := by
  have HF := hide (fun W => r_Floor6 b d W (by omega) (by omega) (by omega) (by omega))
  have sp := ediv_spec (n := b) (show 0 < d by omega)
  have ab := abs_ediv_le (n := b) (show 0 < d by omega)
  have w1 : -1073741824 ≤ b / d := by by_cases h0 : 0 ≤ b <;> omega
  have w2 : b / d ≤ 1073741824 := by by_cases h0 : 0 ≤ b <;> omega
  clear ab
  obtain ⟨Q, hQ⟩ : ∃ Q, b / d = Q := ⟨_, rfl⟩
  rw [hQ] at HF sp w1 w2
  obtain ⟨R, hR⟩ : ∃ R, b - Q * d = R := ⟨_, rfl⟩
  have R0 : 0 ≤ R ∧ R < d := by omega
  have HR := hide (show Q * d + R = b by omega)
  have p1 := Gs.mb (u := Q) (v := a) (U := 1073741824) (V := 1073741824) (by omega) (by omega) (by omega) (by omega)
  have p2 : -6000000000000000000 ≤ Q * d ∧ Q * d ≤ 6000000000000000000 := by omega
  obtain ⟨a1, a2⟩ := ha
  obtain ⟨d1, d2⟩ := hd
  obtain ⟨R1, R2⟩ := R0
  obtain ⟨p3, p4⟩ := p1
  obtain ⟨p5, p6⟩ := p2
  clear hQ sp
  obtain ⟨b1, b2⟩ := hb2
  go_enter Try.func88, Try.ntmps88
  go_wp2_with (go_at_call 94; (with_reducible refine (unhide HF _).mono ?_); rintro e w1 ⟨rfl, rfl⟩)
  go_loop [9, 10, 11] (fun s9 s10 s11 => ∃ (j : Nat) (q r : Int), j ≤ 31 ∧ s9 = .int .i64 q ∧ s10 = .int .i64 r ∧ s11 = .int .i64 ((j : Int) - 1) ∧ r < d ∧ Bit6 d R (a / 2 ^ j) q r) (fun _ _ s11 => (intOf s11 + 1).toNat)
  case atStart =>
    refine ⟨31, 0, 0, by omega, rfl, rfl, by go_num, by omega, ?_⟩
    have : a / 2 ^ 31 = 0 := Int.ediv_eq_zero_of_lt a1 (by omega)
    rw [this]
    exact ⟨by omega, by omega, by omega⟩
  case round =>
    obtain ⟨j, q, r, hj, rfl, rfl, rfl, hr, hbit⟩ := hrel
    by_cases hj0 : j = 0
    · subst hj0
      have hz : a / 2 ^ 0 = a := by simp
      rw [hz] at hbit
      have q1 := bit_le6 (by omega : 0 < d) ⟨R1, R2⟩ a1 hbit
      have q0 := hbit.2.1
      have HE := hide (bit_end6 (by omega : 0 < d) (unhide HR) hbit hr)
      clear hbit
      go_wp2_with fail
      go_ret
      exact ⟨ret_int (unhide HE), rfl⟩
    · obtain ⟨i, rfl⟩ : ∃ i, j = i + 1 := ⟨j - 1, by omega⟩
      have e0 : ((i + 1 : Nat) : Int) - 1 = (i : Int) := by omega
      rw [e0]
      have hh : a / 2 ^ (i + 1) = a / 2 ^ i / 2 := by rw [Int.pow_succ, Int.ediv_ediv_of_nonneg (Int.le_of_lt (Int.pow_pos (by omega)))]
      rw [hh] at hbit
      have T0 : 0 ≤ a / 2 ^ i := Int.ediv_nonneg a1 (Int.le_of_lt (Int.pow_pos (by omega)))
      have T1 : a / 2 ^ i ≤ a := Int.ediv_le_self _ a1
      obtain ⟨T, hT⟩ : ∃ T, a / 2 ^ i = T := ⟨_, rfl⟩
      rw [hT] at hbit T0 T1
      have q0 := hbit.2.1
      have r0 := hbit.2.2
      have q1 := bit_le6 (by omega : 0 < d) ⟨R1, R2⟩ (by omega : 0 ≤ T / 2) hbit
      have h0b := hide hbit
      have HT := hide hT
      clear hbit hh hj0 e0
      by_cases hbt : T % 2 = 1
      · have hnew := hide (bit_one6 R1 (unhide h0b))
        rw [show 2 * (T / 2) + 1 = T by omega] at hnew
        go_wp2_with fail
        go_loop [9, 10] (fun s9 s10 => ∃ q' r' : Int, s9 = .int .i64 q' ∧ s10 = .int .i64 r' ∧ r' < 3 * d ∧ Hid (Bit6 d R T q' r')) (fun _ s10 => (intOf s10).toNat)
        case atStart => exact ⟨_, _, rfl, rfl, by omega, hnew⟩
        case round =>
          clear hnew h0b hr q0 q1
          obtain ⟨q', r', rfl, rfl, hr', hb'⟩ := hrel
          have t1 := bit_le6 (by omega : 0 < d) ⟨R1, R2⟩ T0 (unhide hb')
          have t2 := (unhide hb').2.1
          have t3 := (unhide hb').2.2
          by_cases hc : d ≤ r'
          · have hnx := hide (bit_less6 (unhide hb') hc)
            go_wp2_with fail
            go_round
            case rel => exact ⟨_, _, rfl, rfl, by omega, hnx⟩
            case measure => simp [intOf]; omega
          · go_wp2_with fail
            go_round
            case rel => exact ⟨i, q', r', by omega, rfl, rfl, rfl, by omega, by rw [unhide HT]; exact unhide hb'⟩
            case measure => simp [intOf]
      · have hbz : T % 2 = 0 := by omega
        have hnew := hide (bit_zero6 (unhide h0b))
        rw [show 2 * (T / 2) = T by omega] at hnew
        go_wp2_with fail
        go_loop [9, 10] (fun s9 s10 => ∃ q' r' : Int, s9 = .int .i64 q' ∧ s10 = .int .i64 r' ∧ r' < 3 * d ∧ Hid (Bit6 d R T q' r')) (fun _ s10 => (intOf s10).toNat)
        case atStart => exact ⟨_, _, rfl, rfl, by omega, hnew⟩
        case round =>
          clear hnew h0b hr q0 q1
          obtain ⟨q', r', rfl, rfl, hr', hb'⟩ := hrel
          have t1 := bit_le6 (by omega : 0 < d) ⟨R1, R2⟩ T0 (unhide hb')
          have t2 := (unhide hb').2.1
          have t3 := (unhide hb').2.2
          by_cases hc : d ≤ r'
          · have hnx := hide (bit_less6 (unhide hb') hc)
            go_wp2_with fail
            go_round
            case rel => exact ⟨_, _, rfl, rfl, by omega, hnx⟩
            case measure => simp [intOf]; omega
          · go_wp2_with fail
            go_round
            case rel => exact ⟨i, q', r', by omega, rfl, rfl, rfl, by omega, by rw [unhide HT]; exact unhide hb'⟩
            case measure => simp [intOf]
theorem neg_ediv6 {x d : Int} (hd : 1 ≤ d) : -(-x / d) = up6 x d := by
  unfold up6
  have s1 := ediv_spec (n := -x) (show 0 < d by omega)
  have h : (-(-x / d)) = (x + d - 1) / d := by
    refine ediv_unique (show 0 < d by omega) ?_ ?_
    · rw [Int.neg_mul]; omega
    · rw [Int.neg_mul]; omega
  exact h
theorem r_Up6 (m n d : Int) (w : World) (ha : 0 ≤ m ∧ m < 1073741824) (hd : 1 ≤ d ∧ d ≤ 1048576) (hb2 : 0 ≤ n ∧ n ≤ 1073741824) :
    Calls Try.prog 71 #[.int .i64 m, .int .i64 n, .int .i64 d] w fun e w' => e = .returned (.int .i64 (up6 (n * m) d)) ∧ w = w' := by
  have H := fun W => r_Down6 m (-n) d W ha hd (by omega)
  have e1 : m * -n = -(n * m) := by rw [Int.mul_neg, Int.mul_comm]
  rw [e1] at H
  have e2 := neg_ediv6 (x := n * m) hd.1
  have mm : 0 ≤ n * m ∧ n * m ≤ 1073741824 * 1073741824 := ⟨Int.mul_nonneg hb2.1 ha.1, Int.mul_le_mul hb2.2 (by omega) ha.1 (by omega)⟩
  have ub := up6_bd (n := n * m) (d := d) mm.1 hd.1
  obtain ⟨X, hX⟩ : ∃ X, -(n * m) / d = X := ⟨_, rfl⟩
  rw [hX] at H e2
  obtain ⟨Y, hY⟩ : ∃ X, up6 (n * m) d = X := ⟨_, rfl⟩
  rw [hY] at e2 ub ⊢
  have hH := hide H
  have w1 : IntKind.i64.wrap (-X) = Y := by rw [e2]; exact IntWalk.i64_in _ ⟨by omega, by omega⟩
  have w2 : IntKind.i64.wrap (-n) = -n := IntWalk.i64_in _ ⟨by omega, by omega⟩
  clear H hX hY ha hd mm ub e1 e2
  go_enter Try.func71, Try.ntmps71
  go_wp2_with (go_at_call 88; (with_reducible refine (unhide hH _).mono ?_); rintro e w1 ⟨rfl, rfl⟩)
  go_ret
  exact ⟨by first | rfl | (rw [w1]; rfl), rfl⟩
theorem r_damage6 (p : Pav) (s n : Int) (w : World) (hl : 1 ≤ p.lf ∧ p.lf ≤ 1048576) (hs : 0 ≤ s ∧ s ≤ 1073741824) (hn : 0 ≤ n ∧ n ≤ 1048576) :
    Calls Try.prog 46 #[pvV p, .int .i64 s, .int .i64 n] w fun e w' => e = .returned (.int .i64 (up6 (s * 1000 * n) p.lf)) ∧ Up w w' := by
  have H := fun W => r_Up6 (1000 * n) s p.lf W ⟨by omega, by omega⟩ hl hs
  have e : s * (1000 * n) = s * 1000 * n := by rw [Int.mul_assoc]
  rw [e] at H
  have w1 : IntKind.i64.wrap (1000 * n) = 1000 * n := IntWalk.i64_in _ ⟨by omega, by omega⟩
  unfold pvV
  obtain ⟨ld, lf, pw⟩ := p
  dsimp only at *
  generalize up6 (s * 1000 * n) lf = Y at *
  have hH := hide H
  clear H e hl hs hn
  go_enter Try.func46, Try.ntmps46
  go_wp2_with (go_at_call 71; (with_reducible refine (unhide hH _).mono ?_); rintro e w1 ⟨rfl, rfl⟩)
  go_ret
  exact ⟨rfl, (by repeat' (first | (with_reducible exact up_refl _) | (with_reducible assumption) | (with_reducible refine up_alloc ?_ _) | (with_reducible refine up_drewN ?_ _) | (with_reducible refine up_drew ?_) | (with_reducible refine up_set ?_ (by first | (simp; done) | (simp; omega) | omega) _) | (refine up_trans ?_ (by with_reducible assumption))))⟩
end Go.Proofs.Ytdignnmhiifpgaa
