namespace Gy
/-! Division of two words by one: each half finds a digit of 32 bits. -/
/-- What is known at the head of a half's loop: u is (q, r) by the divisor's upper half, and q is not too small. -/
def HInv (u v y1 y0 q r : Nat) : Prop := q * y1 + r = u ∧ u * 4294967296 + v < (q + 1) * (y1 * 4294967296 + y0) ∧ q ≤ 4294967297 ∧ r < 4294967296
/-- What is known at its end. -/
def HEnd (u v y1 y0 q : Nat) : Prop := q * (y1 * 4294967296 + y0) ≤ u * 4294967296 + v ∧ u * 4294967296 + v < (q + 1) * (y1 * 4294967296 + y0)
theorem h_start {u v y1 y0 : Nat} (h1 : 2147483648 ≤ y1) (h2 : y1 < 4294967296) (h0 : y0 < 4294967296) (hu : u < y1 * 4294967296 + y0) (hv : v < 4294967296) : HInv u v y1 y0 (u / y1) (u - u / y1 * y1) := by
  have e := Nat.div_add_mod u y1
  have m := Nat.mod_lt u (show 0 < y1 by omega)
  rw [Nat.mul_comm] at e
  generalize hq : u / y1 = q at *
  generalize u % y1 = r at *
  refine ⟨by omega, ?_, ?_, by omega⟩
  · have a : (q + 1) * (y1 * 4294967296 + y0) = (q * y1) * 4294967296 + y1 * 4294967296 + (q + 1) * y0 := by grind
    have b : 0 ≤ (q + 1) * y0 := Nat.zero_le _
    generalize q * y1 = p at *
    generalize (q + 1) * y0 = s at *
    omega
  · have := Nat.mul_le_mul_left (k := 4294967298) h1
    apply Decidable.byContradiction
    intro hn
    have c : 4294967298 ≤ q := by omega
    have d := Nat.mul_le_mul_right y1 c
    generalize q * y1 = p at *
    omega
theorem h_next {u v y1 y0 q r : Nat} (hu : u < y1 * 4294967296 + y0) (hv : v < 4294967296) (h : HInv u v y1 y0 q r) (ht : 4294967296 ≤ q ∨ 4294967296 * r + v < q * y0) : 1 ≤ q ∧ (q - 1) * y1 + (r + y1) = u ∧ u * 4294967296 + v < (q - 1 + 1) * (y1 * 4294967296 + y0) ∧ q - 1 ≤ 4294967296 := by
  obtain ⟨a, b, c, d⟩ := h
  have q1 : 1 ≤ q := by
    rcases ht with ht | ht
    · omega
    · cases q
      · simp at ht
      · omega
  obtain ⟨k, rfl⟩ : ∃ k, q = k + 1 := ⟨q - 1, by omega⟩
  simp only [Nat.add_sub_cancel]
  have e : (k + 1) * y1 = k * y1 + y1 := by grind
  refine ⟨by omega, by omega, ?_, by omega⟩
  have f : (k + 1) * (y1 * 4294967296 + y0) = ((k + 1) * y1) * 4294967296 + (k + 1) * y0 := by grind
  rcases ht with ht | ht
  · have g := Nat.mul_le_mul_right (y1 * 4294967296 + y0) ht
    generalize (k + 1) * (y1 * 4294967296 + y0) = p at *
    omega
  · rw [f]
    generalize (k + 1) * y1 = p at *
    generalize (k + 1) * y0 = s at *
    omega
theorem h_over {u v y1 y0 q r : Nat} (h0 : y0 < 4294967296) (a : q * y1 + r = u) (b : u * 4294967296 + v < (q + 1) * (y1 * 4294967296 + y0)) (c : q ≤ 4294967296) (hr : 4294967296 ≤ r) : HEnd u v y1 y0 q := by
  refine ⟨?_, b⟩
  have f : q * (y1 * 4294967296 + y0) = (q * y1) * 4294967296 + q * y0 := by grind
  have g := Nat.mul_le_mul_right y0 c
  rw [f]
  generalize q * y1 = p at *
  generalize q * y0 = s at *
  omega
theorem h_done {u v y1 y0 q r : Nat} (h : HInv u v y1 y0 q r) (ht : q * y0 ≤ 4294967296 * r + v) : HEnd u v y1 y0 q := by
  obtain ⟨a, b, c, d⟩ := h
  refine ⟨?_, b⟩
  have f : q * (y1 * 4294967296 + y0) = (q * y1) * 4294967296 + q * y0 := by grind
  rw [f]
  generalize q * y1 = p at *
  generalize q * y0 = s at *
  omega
theorem h_small {u v y1 y0 q : Nat} (hu : u < y1 * 4294967296 + y0) (hv : v < 4294967296) (h : HEnd u v y1 y0 q) : q < 4294967296 := by
  apply Decidable.byContradiction
  intro hn
  have g := Nat.mul_le_mul_right (y1 * 4294967296 + y0) (show 4294967296 ≤ q by omega)
  have := h.1
  generalize q * (y1 * 4294967296 + y0) = p at *
  omega
/-- Both digits together are the quotient. -/
theorem two_halves {A v0 y q1 q0 : Nat} (a : q1 * y ≤ A) (b : q0 * y ≤ (A - q1 * y) * 4294967296 + v0) (c : (A - q1 * y) * 4294967296 + v0 < (q0 + 1) * y) :
    (A * 4294967296 + v0) / y = q1 * 4294967296 + q0 ∧ A * 4294967296 + v0 - (q1 * 4294967296 + q0) * y = (A - q1 * y) * 4294967296 + v0 - q0 * y := by
  have e : (q1 * 4294967296 + q0) * y = (q1 * y) * 4294967296 + q0 * y := by
    rw [Nat.add_mul, Nat.mul_right_comm]
  have e2 : (q1 * 4294967296 + q0 + 1) * y = (q1 * y) * 4294967296 + (q0 + 1) * y := by
    rw [Nat.add_assoc, Nat.add_mul, Nat.mul_right_comm]
  have e3 : A * 4294967296 + v0 - (q1 * 4294967296 + q0) * y = (A - q1 * y) * 4294967296 + v0 - q0 * y := by
    obtain ⟨t, rfl⟩ : ∃ t, A = q1 * y + t := ⟨A - q1 * y, (Nat.add_sub_of_le a).symm⟩
    rw [e, Nat.add_sub_cancel_left, Nat.add_mul, Nat.add_assoc, Nat.sub_add_eq, Nat.add_sub_cancel_left]
  refine ⟨Nat.div_eq_of_lt_le ?_ ?_, e3⟩
  · rw [e]
    clear e e2 e3 c
    generalize q1 * y = p at *
    generalize q0 * y = s at *
    obtain ⟨t, rfl⟩ : ∃ t, A = p + t := ⟨A - p, (Nat.add_sub_of_le a).symm⟩
    rw [Nat.add_sub_cancel_left] at b
    rw [Nat.add_mul]
    omega
  · rw [e2]
    clear e e2 e3 b
    generalize q1 * y = p at *
    generalize hs : (q0 + 1) * y = s at *
    obtain ⟨t, rfl⟩ : ∃ t, A = p + t := ⟨A - p, (Nat.add_sub_of_le a).symm⟩
    rw [Nat.add_sub_cancel_left] at c
    rw [Nat.add_mul]
    rw [Nat.add_assoc]
    exact Nat.add_lt_add_left c _
end Gy
