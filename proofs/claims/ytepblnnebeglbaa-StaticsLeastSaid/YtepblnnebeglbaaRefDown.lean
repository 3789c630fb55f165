/- Products divided, bit by bit: the document's own answers. -/
import Derived.Test.YtepblnnebeglbaaDown
namespace Go.Proofs.Ytepblnnebeglbaa
open Go.RowKit Go.Proofs.Gn
theorem r_Floor (n d : Int) (w : World) (hd : 0 < d) (hd2 : d ≤ 9223372036854775807) (h1 : -9223372036854775807 ≤ n) (h2 : n ≤ 9223372036854775807) :
    Calls Try.prog 68 #[.int .i64 n, .int .i64 d] w fun e w' => e = .returned (.int .i64 (n / d)) ∧ w = w' := by
  have b := abs_ediv_le (n := n) hd
  go_enter Try.func68, Try.ntmps68
  go_wp2
  · go_ret
    have h : n.tmod d < 0 := by assumption
    have e := down_neg hd h
    exact ⟨ret_int (by rw [← e]; show wrap64 _ = _; rw [e]; exact IntWalk.wrap64_in _ ⟨by omega, by omega⟩), rfl⟩
  · go_ret
    have h : 0 ≤ n.tmod d := by assumption
    have e := down_pos (n := n) hd (by omega)
    exact ⟨ret_int e, rfl⟩
/-- What is known after some bits. -/
def Bit (d R T q r : Int) : Prop := T * R = q * d + r ∧ 0 ≤ q ∧ 0 ≤ r
theorem bit_le {d R T q r : Int} (hd : 0 < d) (hR : 0 ≤ R ∧ R < d) (hT : 0 ≤ T) (h : Bit d R T q r) : q ≤ T := by
  obtain ⟨h1, h2, h3⟩ := h
  have a : T * R ≤ T * d := Int.mul_le_mul_of_nonneg_left (by omega) hT
  exact Int.le_of_mul_le_mul_right (show q * d ≤ T * d by omega) hd
theorem bit_less {d R T q r : Int} (h : Bit d R T q r) (hr : d ≤ r) : Bit d R T (q + 1) (r - d) := by
  obtain ⟨h1, h2, h3⟩ := h
  refine ⟨?_, by omega, by omega⟩
  rw [Int.add_mul]; omega
theorem bit_zero {d R T q r : Int} (h : Bit d R T q r) : Bit d R (2 * T) (2 * q) (2 * r) := by
  obtain ⟨h1, h2, h3⟩ := h
  refine ⟨?_, by omega, by omega⟩
  rw [Int.mul_assoc, h1, Int.mul_assoc, Int.mul_add]
theorem bit_one {d R T q r : Int} (hR : 0 ≤ R) (h : Bit d R T q r) : Bit d R (2 * T + 1) (2 * q) (2 * r + R) := by
  obtain ⟨h1, h2, h3⟩ := bit_zero h
  refine ⟨?_, by omega, by omega⟩
  rw [Int.add_mul]; omega
theorem bit_end {a b d W R q r : Int} (hd : 0 < d) (hb : W * d + R = b) (h : Bit d R a q r) (hr : r < d) : W * a + q = a * b / d := by
  obtain ⟨h1, h2, h3⟩ := h
  have e : (W * a + q) * d = a * b - r := by rw [← hb, Int.mul_add, h1]; grind
  exact ediv_unique hd (by omega) (by omega)
set_option maxRecDepth 100000 in
set_option maxHeartbeats 4000000 in
theorem r_Down (a b d : Int) (w : World) (ha : 0 ≤ a ∧ a < 1073741824) (hd : 1 ≤ d ∧ d ≤ 1152921504606846976) (hb : -(1024 * d) ≤ b ∧ b ≤ 1024 * d) (hb2 : -4611686018427387904 ≤ b ∧ b ≤ 4611686018427387904) :
    Calls Try.prog 63 #[.int .i64 a, .int .i64 b, .int .i64 d] w fun e w' => e = .returned (.int .i64 (a * b / d)) ∧ w = w' := by
  have HF := hide (fun W => r_Floor b d W (by omega) (by omega) (by omega) (by omega))
  have sp := ediv_spec (n := b) (show 0 < d by omega)
  have w1 : -1024 ≤ b / d := (Int.le_ediv_iff_mul_le (by omega)).2 (by omega)
  have w2 : b / d ≤ 1024 := by
    have : b / d < 1025 := Int.ediv_lt_of_lt_mul (by omega) (by omega)
    omega
  obtain ⟨Q, hQ⟩ : ∃ Q, b / d = Q := ⟨_, rfl⟩
  rw [hQ] at HF sp w1 w2
  obtain ⟨R, hR⟩ : ∃ R, b - Q * d = R := ⟨_, rfl⟩
  have R0 : 0 ≤ R ∧ R < d := by omega
  have HR := hide (show Q * d + R = b by omega)
  have p1 := Gs.mb (u := Q) (v := a) (U := 1024) (V := 1073741824) (by omega) (by omega) (by omega) (by omega)
  have p2 : -6000000000000000000 ≤ Q * d ∧ Q * d ≤ 6000000000000000000 := by omega
  obtain ⟨a1, a2⟩ := ha
  obtain ⟨d1, d2⟩ := hd
  obtain ⟨R1, R2⟩ := R0
  obtain ⟨p3, p4⟩ := p1
  obtain ⟨p5, p6⟩ := p2
  clear hQ sp hb
  obtain ⟨b1, b2⟩ := hb2
  go_enter Try.func63, Try.ntmps63
  go_wp2_with (go_at_call 68; (with_reducible refine (unhide HF _).mono ?_); rintro e w1 ⟨rfl, rfl⟩)
  go_loop [9, 10, 11] (fun s9 s10 s11 => ∃ (j : Nat) (q r : Int), j ≤ 31 ∧ s9 = .int .i64 q ∧ s10 = .int .i64 r ∧ s11 = .int .i64 ((j : Int) - 1) ∧ r < d ∧ Bit d R (a / 2 ^ j) q r) (fun _ _ s11 => (intOf s11 + 1).toNat)
  case atStart =>
    refine ⟨31, 0, 0, by omega, rfl, rfl, by go_num, by omega, ?_⟩
    have : a / 2 ^ 31 = 0 := Int.ediv_eq_zero_of_lt a1 (by omega)
    rw [this]
    exact ⟨by omega, by omega, by omega⟩
  case round =>
    obtain ⟨j, q, r, hj, rfl, rfl, rfl, hr, hbit⟩ := hrel
    by_cases hj0 : j = 0
    · subst hj0
      have hz : a / 2 ^ 0 = a := by simp
      rw [hz] at hbit
      have q1 := bit_le (by omega : 0 < d) ⟨R1, R2⟩ a1 hbit
      have q0 := hbit.2.1
      have HE := hide (bit_end (by omega : 0 < d) (unhide HR) hbit hr)
      clear hbit
      go_wp2_with fail
      go_ret
      exact ⟨ret_int (unhide HE), rfl⟩
    · obtain ⟨i, rfl⟩ : ∃ i, j = i + 1 := ⟨j - 1, by omega⟩
      have e0 : ((i + 1 : Nat) : Int) - 1 = (i : Int) := by omega
      rw [e0]
      have hh : a / 2 ^ (i + 1) = a / 2 ^ i / 2 := by rw [Int.pow_succ, Int.ediv_ediv_of_nonneg (Int.le_of_lt (Int.pow_pos (by omega)))]
      rw [hh] at hbit
      have T0 : 0 ≤ a / 2 ^ i := Int.ediv_nonneg a1 (Int.le_of_lt (Int.pow_pos (by omega)))
      have T1 : a / 2 ^ i ≤ a := Int.ediv_le_self _ a1
      obtain ⟨T, hT⟩ : ∃ T, a / 2 ^ i = T := ⟨_, rfl⟩
      rw [hT] at hbit T0 T1
      have q0 := hbit.2.1
      have r0 := hbit.2.2
      have q1 := bit_le (by omega : 0 < d) ⟨R1, R2⟩ (by omega : 0 ≤ T / 2) hbit
      have h0b := hide hbit
      have HT := hide hT
      clear hbit hh hj0 e0
      by_cases hbt : T % 2 = 1
      · have hnew := hide (bit_one R1 (unhide h0b))
        rw [show 2 * (T / 2) + 1 = T by omega] at hnew
        go_wp2_with fail
        go_loop [9, 10] (fun s9 s10 => ∃ q' r' : Int, s9 = .int .i64 q' ∧ s10 = .int .i64 r' ∧ r' < 3 * d ∧ Hid (Bit d R T q' r')) (fun _ s10 => (intOf s10).toNat)
        case atStart => exact ⟨_, _, rfl, rfl, by omega, hnew⟩
        case round =>
          clear hnew h0b hr q0 q1
          obtain ⟨q', r', rfl, rfl, hr', hb'⟩ := hrel
          have t1 := bit_le (by omega : 0 < d) ⟨R1, R2⟩ T0 (unhide hb')
          have t2 := (unhide hb').2.1
          have t3 := (unhide hb').2.2
          by_cases hc : d ≤ r'
          · have hnx := hide (bit_less (unhide hb') hc)
            go_wp2_with fail
            go_round
            case rel => exact ⟨_, _, rfl, rfl, by omega, hnx⟩
            case measure => simp [intOf]; omega
          · go_wp2_with fail
            go_round
            case rel => exact ⟨i, q', r', by omega, rfl, rfl, rfl, by omega, by rw [unhide HT]; exact unhide hb'⟩
            case measure => simp [intOf]
      · have hbz : T % 2 = 0 := by omega
        have hnew := hide (bit_zero (unhide h0b))
        rw [show 2 * (T / 2) = T by omega] at hnew
        go_wp2_with fail
        go_loop [9, 10] (fun s9 s10 => ∃ q' r' : Int, s9 = .int .i64 q' ∧ s10 = .int .i64 r' ∧ r' < 3 * d ∧ Hid (Bit d R T q' r')) (fun _ s10 => (intOf s10).toNat)
        case atStart => exact ⟨_, _, rfl, rfl, by omega, hnew⟩
        case round =>
          clear hnew h0b hr q0 q1
          obtain ⟨q', r', rfl, rfl, hr', hb'⟩ := hrel
          have t1 := bit_le (by omega : 0 < d) ⟨R1, R2⟩ T0 (unhide hb')
          have t2 := (unhide hb').2.1
          have t3 := (unhide hb').2.2
          by_cases hc : d ≤ r'
          · have hnx := hide (bit_less (unhide hb') hc)
            go_wp2_with fail
            go_round
            case rel => exact ⟨_, _, rfl, rfl, by omega, hnx⟩
            case measure => simp [intOf]; omega
          · go_wp2_with fail
            go_round
            case rel => exact ⟨i, q', r', by omega, rfl, rfl, rfl, by omega, by rw [unhide HT]; exact unhide hb'⟩
            case measure => simp [intOf]
theorem r_Up (m n d : Int) (w : World) (ha : 0 ≤ m ∧ m < 1073741824) (hd : 1 ≤ d ∧ d ≤ 1152921504606846976) (hb : -(1024 * d) ≤ n ∧ n ≤ 1024 * d) (hb2 : -4611686018427387904 ≤ n ∧ n ≤ 4611686018427387904) :
    Calls Try.prog 53 #[.int .i64 m, .int .i64 n, .int .i64 d] w fun e w' => e = .returned (.int .i64 (up m d n)) ∧ w = w' := by
  have H := fun W => r_Down m (-n) d W ha hd (by omega) (by omega)
  have k1 : -1099511627776 ≤ m * -n / d := by
    refine (Int.le_ediv_iff_mul_le (by omega)).2 ?_
    have : m * n ≤ m * (1024 * d) := Int.mul_le_mul_of_nonneg_left hb.2 ha.1
    have : m * (1024 * d) ≤ 1073741824 * (1024 * d) := Int.mul_le_mul_of_nonneg_right (by omega) (by omega)
    rw [Int.mul_neg]; omega
  have k2 : m * -n / d < 1099511627777 := by
    refine Int.ediv_lt_of_lt_mul (by omega) ?_
    have : m * -n ≤ m * (1024 * d) := Int.mul_le_mul_of_nonneg_left (by omega) ha.1
    have : m * (1024 * d) ≤ 1073741824 * (1024 * d) := Int.mul_le_mul_of_nonneg_right (by omega) (by omega)
    omega
  unfold up
  obtain ⟨X, hX⟩ : ∃ X, m * -n / d = X := ⟨_, rfl⟩
  rw [hX] at H k1 k2 ⊢
  have hH := hide H
  clear H hX hb ha hd
  obtain ⟨b1, b2⟩ := hb2
  go_enter Try.func53, Try.ntmps53
  go_wp2_with (go_at_call 63; (with_reducible refine (unhide hH _).mono ?_); rintro e w1 ⟨rfl, rfl⟩)
  go_ret
  exact ⟨rfl, rfl⟩
end Go.Proofs.Ytepblnnebeglbaa
