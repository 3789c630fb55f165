/- Division of two words by one. Products of two numbers, divided: what a fraction returns. -/
import Derived.Test.YthifcalemhpmoaaGreatPkPt
import Derived.Test.YthifcalemhpmoaaGreatShelfB
import Derived.Test.YthifcalemhpmoaaGreatPkDivM
namespace Go.Proofs.YthifcalemhpmoaaGreat
open Go.RowKit Go.Proofs.Gn
def amt (n : Int) : Int := if n < 0 then -n else n
theorem amt_neg {n : Int} (h : n < 0) : amt n = -n := if_pos h
theorem amt_pos {n : Int} (h : ¬ n < 0) : amt n = n := if_neg h
theorem p_amount (n : Int) (w : World) (h1 : -9223372036854775807 ≤ n) (h2 : n ≤ 9223372036854775807) :
    Calls Tryz.prog 127 #[.int .i64 n] w fun e w' => e = .returned (.int .i64 (amt n)) ∧ w = w' := by
  by_cases h : n < 0
  · rw [amt_neg h]
    go_enter Tryz.func127, Tryz.ntmps127
    go_wp2_with fail
    go_ret
    exact ⟨ret_int (by first | omega | (simp; omega) | (split <;> omega)), rfl⟩
  · rw [amt_pos h]
    go_enter Tryz.func127, Tryz.ntmps127
    go_wp2_with fail
    go_ret
    exact ⟨ret_int (by first | omega | (simp; omega) | (split <;> omega)), rfl⟩
theorem b_Mul64 (x y : Int) (w : World) (h0 : 0 ≤ x) (h1 : x < 18446744073709551616) (h2 : 0 ≤ y) (h3 : y < 18446744073709551616) :
    Calls Tryz.prog 126 #[.int .u64 x, .int .u64 y] w fun e w' => e = .returned (.tuple #[.int .u64 (x * y / 18446744073709551616), .int .u64 (x * y % 18446744073709551616)]) ∧ w = w' := by
  obtain ⟨a, rfl⟩ := Int.eq_ofNat_of_zero_le h0
  obtain ⟨b, rfl⟩ := Int.eq_ofNat_of_zero_le h2
  refine (Any.bits_Mul64 Tryz.mul64 a b (by omega) (by omega) w).mono fun e w' h => ⟨?_, h.2.symm⟩
  rw [h.1]
  simp
end Go.Proofs.YthifcalemhpmoaaGreat
namespace Go.Proofs.YthifcalemhpmoaaGreat
open Go.RowKit Go.Proofs.Gn
theorem b_Div64_low (lo y : Nat) (w : World) (h2 : 0 < y) (h3 : y < 18446744073709551616) (h4 : lo < 18446744073709551616) :
    Calls Tryz.prog 128 #[.int .u64 0, .int .u64 lo, .int .u64 y] w fun e w' => e = .returned (.tuple #[.int .u64 ((lo / y : Nat) : Int), .int .u64 ((lo % y : Nat) : Int)]) ∧ Up w w' := by
  have y0 : ((y : Int) == 0) = false := by simp; omega
  have y1 : ¬ (y : Int) ≤ 0 := by omega
  have y2 : ¬ (y : Int) = 0 := by omega
  obtain ⟨Q, hQ⟩ : ∃ Q, lo / y = Q := ⟨_, rfl⟩
  obtain ⟨R, hR⟩ : ∃ Q, lo % y = Q := ⟨_, rfl⟩
  have e1 : IntKind.u64.wrap ((lo : Int) / (y : Int)) = (Q : Int) := by
    rw [show (lo : Int) / (y : Int) = ((lo / y : Nat) : Int) by simp, hQ, IntKind.wrap_u64]
    have := Nat.div_le_self lo y
    omega
  have e2 : (lo : Int) % (y : Int) = (R : Int) := by
    rw [show (lo : Int) % (y : Int) = ((lo % y : Nat) : Int) by simp, hR]
  rw [hQ, hR]
  clear hQ hR
  go_enter Tryz.func128, Tryz.ntmps128
  go_wp2_with fail
  go_quiet (fail)
  go_wp2_with fail
  go_ret2
  exact ⟨by first | rfl | (simp [e2]; done), (by repeat' (first | (with_reducible exact up_refl _) | (with_reducible assumption) | (with_reducible refine up_alloc ?_ _) | (with_reducible refine up_drewN ?_ _) | (with_reducible refine up_drew ?_) | (with_reducible refine up_set ?_ (by first | (simp; done) | (simp; omega) | omega) _) | (refine up_trans ?_ (by with_reducible assumption))))⟩
theorem bitLen_bounds : ∀ n x : Nat, x < n → 0 < x → x < 18446744073709551616 → ∃ k, Lib.bitLen x = k + 1 ∧ 2 ^ k ≤ x ∧ x < 2 ^ (k + 1) := by
  intro n
  induction n with
  | zero => intro x h; omega
  | succ n ih =>
    intro x hx h0 h1
    have e := Lib.bitLen_half x (by omega) h1
    by_cases c : x / 2 = 0
    · obtain rfl : x = 1 := by omega
      exact ⟨0, by rw [e]; decide, by decide, by decide⟩
    · obtain ⟨k, k1, k2, k3⟩ := ih (x / 2) (by omega) (by omega) (by omega)
      refine ⟨k + 1, by rw [e, k1]; omega, ?_, ?_⟩
      · rw [Nat.pow_succ]; omega
      · rw [Nat.pow_succ]; omega
theorem norm_y {y : Nat} (h0 : 0 < y) (h1 : y < 18446744073709551616) : ∃ s : Nat, (Lib.bitLen y : Int) = 64 - s ∧ s < 64 ∧ 9223372036854775808 ≤ y * 2 ^ s ∧ y * 2 ^ s < 18446744073709551616 := by
  obtain ⟨k, k1, k2, k3⟩ := bitLen_bounds (y + 1) y (by omega) h0 h1
  have hk : k ≤ 63 := by
    apply Decidable.byContradiction
    intro hn
    have := Nat.pow_le_pow_right (n := 2) (by omega) (show 64 ≤ k by omega)
    omega
  refine ⟨63 - k, by omega, by omega, ?_, ?_⟩
  · have := Nat.mul_le_mul_right (2 ^ (63 - k)) k2
    rw [← Nat.pow_add, show k + (63 - k) = 63 by omega] at this
    exact this
  · have := Nat.mul_lt_mul_of_pos_right k3 (show 0 < 2 ^ (63 - k) from Nat.two_pow_pos _)
    rw [← Nat.pow_add, show k + 1 + (63 - k) = 64 by omega] at this
    exact this
theorem norm_u {hi lo y s : Nat} (hs : s < 64) (h0 : hi < y) (h1 : lo < 18446744073709551616) (hY : y * 2 ^ s < 18446744073709551616) :
    hi * 2 ^ s < 18446744073709551616 ∧ lo / 2 ^ (64 - s) < 2 ^ s ∧ hi * 2 ^ s + lo / 2 ^ (64 - s) < y * 2 ^ s ∧ (hi * 2 ^ s + lo / 2 ^ (64 - s)) * 18446744073709551616 + lo * 2 ^ s % 18446744073709551616 = (hi * 18446744073709551616 + lo) * 2 ^ s := by
  have p := Nat.two_pow_pos s
  have e : (18446744073709551616 : Nat) = 2 ^ (64 - s) * 2 ^ s := by rw [← Nat.pow_add, show 64 - s + s = 64 by omega]
  have a := Nat.mul_lt_mul_of_pos_right h0 p
  have b : lo / 2 ^ (64 - s) < 2 ^ s := Nat.div_lt_of_lt_mul (by rw [← e]; exact h1)
  have c : lo * 2 ^ s / 18446744073709551616 = lo / 2 ^ (64 - s) := by rw [e]; exact Nat.mul_div_mul_right _ _ p
  have d := Nat.div_add_mod (lo * 2 ^ s) 18446744073709551616
  have f : (hi * 18446744073709551616 + lo) * 2 ^ s = hi * 2 ^ s * 18446744073709551616 + lo * 2 ^ s := by rw [Nat.add_mul, Nat.mul_right_comm]
  rw [c] at d
  have g : (hi + 1) * 2 ^ s ≤ y * 2 ^ s := Nat.mul_le_mul_right _ h0
  rw [Nat.add_mul] at g
  refine ⟨by omega, b, by omega, ?_⟩
  rw [f]
  clear e f
  generalize hi * 2 ^ s = X at *
  generalize lo * 2 ^ s = Z at *
  generalize lo / 2 ^ (64 - s) = T at *
  rw [Nat.add_mul]
  omega
theorem lz_at {y s : Nat} (h1 : y < 18446744073709551616) (hs : (Lib.bitLen y : Int) = 64 - s) (W : World) : Calls Tryz.prog 143 #[.int .u64 (y : Int)] W fun e w' => e = .returned (.int .i64 (s : Int)) ∧ W = w' := by
  refine (Any.bits_LeadingZeros64 Tryz.lz64 y W (by omega) (by omega)).mono fun e w' h => ⟨?_, h.2.symm⟩
  rw [h.1]
  exact ret_int (by simp only [Int.toNat_natCast]; omega)
theorem wu (x : Int) (h0 : 0 ≤ x) (h1 : x < 18446744073709551616) : IntKind.u64.wrap x = x := by rw [IntKind.wrap_u64]; omega
theorem un_form {U v P : Int} (h0 : 0 ≤ U * 4294967296 + v - P) (h1 : U * 4294967296 + v - P < 18446744073709551616) : IntKind.u64.wrap (IntKind.u64.wrap (IntKind.u64.wrap (U * 4294967296) + v) - IntKind.u64.wrap P) = U * 4294967296 + v - P := by
  simp only [IntKind.wrap_u64]; omega
theorem cmod (x : Nat) (h : x < 18446744073709551616) : bits .and .u64 (x : Int) 4294967295 = ((x % 4294967296 : Nat) : Int) := Mul64.maskN x h
theorem nextI {U v y1 y0 : Nat} {vi y1i y0i a b : Int} (c1 : (v : Int) = vi) (c2 : (y1 : Int) = y1i) (c3 : (y0 : Int) = y0i) (hU : U < y1 * 4294967296 + y0) (hv : v < 4294967296) (h0 : y0 < 4294967296) (h : ∃ a' b' : Nat, a = a' ∧ b = b' ∧ Gy.HInv U v y1 y0 a' b') (t : 4294967296 ≤ a ∨ 4294967296 * b + vi < a * y0i) :
    (1 ≤ a ∧ a - 1 ≤ 4294967296) ∧ (b + y1i < 4294967296 → Hid (∃ a' b' : Nat, a - 1 = a' ∧ b + y1i = b' ∧ Gy.HInv U v y1 y0 a' b')) ∧ (4294967296 ≤ b + y1i → ∃ q : Nat, a - 1 = q ∧ Gy.HEnd U v y1 y0 q) := by
  obtain ⟨a', b', rfl, rfl, hi⟩ := h
  subst c1 c2 c3
  have t' : 4294967296 ≤ a' ∨ 4294967296 * b' + v < a' * y0 := by
    rcases t with t | t
    · exact .inl (by omega)
    · right
      rw [← Int.natCast_mul] at t
      omega
  obtain ⟨n1, n2, n3, n4⟩ := Gy.h_next hU hv hi t'
  refine ⟨by omega, fun hb => ?_, fun hb => ?_⟩
  · exact ⟨a' - 1, b' + y1, by omega, by omega, n2, n3, by omega, by omega⟩
  · exact ⟨a' - 1, by omega, Gy.h_over h0 n2 n3 n4 (by omega)⟩
theorem doneI {U v y1 y0 : Nat} {vi y0i a b : Int} (c1 : (v : Int) = vi) (c3 : (y0 : Int) = y0i) (h : ∃ a' b' : Nat, a = a' ∧ b = b' ∧ Gy.HInv U v y1 y0 a' b') (t : a * y0i ≤ 4294967296 * b + vi) : ∃ q : Nat, a = q ∧ Gy.HEnd U v y1 y0 q := by
  obtain ⟨a', b', rfl, rfl, hi⟩ := h
  subst c1 c3
  rw [← Int.natCast_mul] at t
  exact ⟨a', rfl, Gy.h_done hi (by omega)⟩
theorem second {U v1 v0 y1 y0 q : Nat} {Ui v1i y1i y0i Yi qi : Int} (c0 : (U : Int) = Ui) (c1 : (v1 : Int) = v1i) (c2 : (y1 : Int) = y1i) (c3 : (y0 : Int) = y0i) (cY : Yi = y1i * 4294967296 + y0i) (a2 : 2147483648 ≤ y1) (a3 : y1 < 4294967296) (a4 : y0 < 4294967296) (a5 : v1 < 4294967296) (a6 : v0 < 4294967296)
    (hU : U < y1 * 4294967296 + y0) (hq : qi = q) (h : Gy.HEnd U v1 y1 y0 q) :
    ∃ (N : Nat) (Ni Q2 R2 : Int), Hid (Ni = N ∧ N = U * 4294967296 + v1 - q * (y1 * 4294967296 + y0) ∧ N < y1 * 4294967296 + y0) ∧ (0 ≤ Ni ∧ Ni < 18446744073709551616 ∧ 0 ≤ qi ∧ qi < 4294967296) ∧
      IntKind.u64.wrap (IntKind.u64.wrap (IntKind.u64.wrap (Ui * 4294967296) + v1i) - IntKind.u64.wrap (qi * Yi)) = Ni ∧
      (IntKind.u64.wrap (Ni / y1i) = Q2 ∧ Ni / y1i = Q2) ∧ IntKind.u64.wrap (Ni - IntKind.u64.wrap (Q2 * y1i)) = R2 ∧ IntKind.u64.wrap (Ni - IntKind.u64.wrap (Ni / y1i * y1i)) = R2 ∧ (0 ≤ Q2 ∧ Q2 ≤ 4294967297 ∧ 0 ≤ R2 ∧ R2 < 4294967296) ∧ Hid (∃ a' b' : Nat, Q2 = a' ∧ R2 = b' ∧ Gy.HInv N v0 y1 y0 a' b') := by
  obtain ⟨Y, hY⟩ : ∃ Y, y1 * 4294967296 + y0 = Y := ⟨_, rfl⟩
  have hs := Gy.h_small hU a5 h
  obtain ⟨h1, h2⟩ := h
  rw [hY] at h1 h2 hU
  have e1 : (q + 1) * Y = q * Y + Y := by rw [Nat.add_mul]; omega
  rw [e1] at h2
  obtain ⟨P, hP⟩ : ∃ P, q * Y = P := ⟨_, rfl⟩
  rw [hP] at h1 h2
  have nY : U * 4294967296 + v1 - P < Y := by omega
  have cP : qi * Yi = (P : Int) := by
    rw [hq, cY, ← c2, ← c3, ← hP, ← hY]; simp
  obtain ⟨N, hN⟩ : ∃ N, U * 4294967296 + v1 - P = N := ⟨_, rfl⟩
  rw [hN] at nY
  have st := Gy.h_start a2 a3 a4 (by omega : N < y1 * 4294967296 + y0) a6
  have le : N / y1 * y1 ≤ N := Nat.div_mul_le_self _ _
  have eD : (N : Int) / y1i = ((N / y1 : Nat) : Int) := by rw [← c2]; simp
  have eQ : IntKind.u64.wrap ((N : Int) / y1i) = ((N / y1 : Nat) : Int) := by
    rw [eD]
    exact wu _ (Int.natCast_nonneg _) (by have := Nat.div_le_self N y1; omega)
  have eM : ((N / y1 : Nat) : Int) * y1i = ((N / y1 * y1 : Nat) : Int) := by rw [← c2]; simp
  have eR : IntKind.u64.wrap ((N : Int) - IntKind.u64.wrap (((N / y1 : Nat) : Int) * y1i)) = ((N - N / y1 * y1 : Nat) : Int) := by
    rw [eM, wu ((N / y1 * y1 : Nat) : Int) (by omega) (by omega), wu _ (by omega) (by omega)]
    omega
  refine ⟨N, (N : Int), ((N / y1 : Nat) : Int), ((N - N / y1 * y1 : Nat) : Int), ⟨rfl, by rw [hY, hP, hN], by omega⟩, by omega, ?_, ⟨eQ, eD⟩, eR, by rw [eD]; exact eR, ?_, ⟨_, _, rfl, rfl, st⟩⟩
  · rw [cP, un_form (by omega) (by omega)]; omega
  · have := st.2.2.1
    have := st.2.2.2
    have := Int.natCast_nonneg (N / y1)
    have := Int.natCast_nonneg (N - N / y1 * y1)
    refine ⟨by assumption, by omega, by assumption, by omega⟩
theorem finish {U v1 v0 y1 y0 N q q2 : Nat} {v0i Yi Ni qi qi2 : Int} {s : Nat} (c2 : (v0 : Int) = v0i) (cY : Yi = ((y1 * 4294967296 + y0 : Nat) : Int)) (a3 : y1 < 4294967296) (a4 : y0 < 4294967296) (a5 : v1 < 4294967296) (a6 : v0 < 4294967296) (hU : U < y1 * 4294967296 + y0) (hq : qi = q) (h : Gy.HEnd U v1 y1 y0 q)
    (hN : Ni = N ∧ N = U * 4294967296 + v1 - q * (y1 * 4294967296 + y0) ∧ N < y1 * 4294967296 + y0) (hq2 : qi2 = q2) (h2 : Gy.HEnd N v0 y1 y0 q2) :
    IntKind.u64.wrap (IntKind.u64.wrap (qi * 4294967296) + qi2) = (((U * 18446744073709551616 + (v1 * 4294967296 + v0)) / (y1 * 4294967296 + y0) : Nat) : Int) ∧
    qi * 4294967296 + qi2 = (((U * 18446744073709551616 + (v1 * 4294967296 + v0)) / (y1 * 4294967296 + y0) : Nat) : Int) ∧
    (((U * 18446744073709551616 + (v1 * 4294967296 + v0)) / (y1 * 4294967296 + y0) : Nat) : Int) < 18446744073709551616 ∧
    IntKind.u64.wrap (IntKind.u64.wrap (IntKind.u64.wrap (Ni * 4294967296) + v0i) - IntKind.u64.wrap (qi2 * Yi)) / 2 ^ s = (((U * 18446744073709551616 + (v1 * 4294967296 + v0)) % (y1 * 4294967296 + y0) / 2 ^ s : Nat) : Int) := by
  have s1 := Gy.h_small hU a5 h
  have s2 := Gy.h_small hN.2.2 a6 h2
  obtain ⟨Y, hY⟩ : ∃ Y, y1 * 4294967296 + y0 = Y := ⟨_, rfl⟩
  obtain ⟨n1, n2, n3⟩ := hN
  obtain ⟨k1, k2⟩ := h
  obtain ⟨l1, l2⟩ := h2
  rw [hY] at k1 k2 l1 l2 n2 n3 cY ⊢
  rw [n2] at l1 l2
  have e0 : U * 18446744073709551616 + (v1 * 4294967296 + v0) = (U * 4294967296 + v1) * 4294967296 + v0 := by
    rw [show (18446744073709551616 : Nat) = 4294967296 * 4294967296 from rfl, ← Nat.mul_assoc, Nat.add_mul, Nat.add_assoc]
  obtain ⟨t1, t2⟩ := Gy.two_halves k1 l1 l2
  have t3 : (U * 18446744073709551616 + (v1 * 4294967296 + v0)) % Y = N * 4294967296 + v0 - q2 * Y := by
    rw [e0, Nat.mod_eq_sub_mul_div, t1, Nat.mul_comm Y, t2, n2]
  rw [t3, e0, t1]
  have e3 : (q2 + 1) * Y = q2 * Y + Y := by rw [Nat.add_mul]; omega
  rw [← n2] at l1 l2
  rw [e3] at l2
  have cP : qi2 * Yi = ((q2 * Y : Nat) : Int) := by rw [hq2, cY]; simp
  obtain ⟨P, hP⟩ : ∃ P, q2 * Y = P := ⟨_, rfl⟩
  rw [hP] at l1 l2 cP ⊢
  refine ⟨?_, ?_, ?_, ?_⟩
  · simp only [IntKind.wrap_u64]; omega
  · omega
  · omega
  · rw [cP, un_form (by omega) (by omega), n1, ← c2]
    rw [show (N : Int) * 4294967296 + (v0 : Int) - (P : Int) = ((N * 4294967296 + v0 - P : Nat) : Int) by omega]
    simp
theorem mulY0 {a y0i : Int} (h1 : 0 ≤ a) (h2 : a ≤ 4294967297) (h3 : 0 ≤ y0i) (h4 : y0i < 4294967296) : 0 ≤ a * y0i ∧ (a < 4294967296 → a * y0i < 18446744073709551616) := by
  refine ⟨Int.mul_nonneg h1 h3, fun h => ?_⟩
  have := Int.mul_le_mul (show a ≤ 4294967295 by omega) (show y0i ≤ 4294967295 by omega) h3 (by omega)
  omega
set_option maxRecDepth 100000 in
set_option maxHeartbeats 4000000 in
theorem b_Div64_high (hi lo y : Nat) (w : World) (h0 : 0 < hi) (h1 : hi < y) (h3 : y < 18446744073709551616) (h4 : lo < 18446744073709551616) :
    Calls Tryz.prog 128 #[.int .u64 hi, .int .u64 lo, .int .u64 y] w fun e w' => e = .returned (.tuple #[.int .u64 (((hi * 18446744073709551616 + lo) / y : Nat) : Int), .int .u64 (((hi * 18446744073709551616 + lo) % y : Nat) : Int)]) ∧ Up w w' := by
  obtain ⟨s, sb, s64, sY0, sY1⟩ := norm_y (show 0 < y by omega) h3
  have HLZ := fun W => lz_at h3 sb W
  have hHLZ := hide HLZ
  obtain ⟨n1, n2, n3, n4⟩ := norm_u s64 h1 h4 sY1
  have orE : bits .or .u64 ((hi * 2 ^ s : Nat) : Int) ((lo / 2 ^ (64 - s) : Nat) : Int) = ((hi * 2 ^ s + lo / 2 ^ (64 - s) : Nat) : Int) := by
    rw [u64_or_nat _ _ n1 (by omega), Nat.mul_comm hi, ← Nat.two_pow_add_eq_or_of_lt n2]
  have castY : (y : Int) * 2 ^ s = ((y * 2 ^ s : Nat) : Int) := by simp
  have castH : (hi : Int) * 2 ^ s = ((hi * 2 ^ s : Nat) : Int) := by simp
  have castL : (lo : Int) * 2 ^ s = ((lo * 2 ^ s : Nat) : Int) := by simp
  have castD : (lo : Int) / 2 ^ (64 - s) = ((lo / 2 ^ (64 - s) : Nat) : Int) := by simp
  have eY : IntKind.u64.wrap ((y : Int) * 2 ^ s) = ((y * 2 ^ s : Nat) : Int) := by rw [castY]; exact wu _ (by omega) (by omega)
  have eL : IntKind.u64.wrap ((lo : Int) * 2 ^ s) = ((lo * 2 ^ s % 18446744073709551616 : Nat) : Int) := by rw [castL, IntKind.wrap_u64]; omega
  have eU : bits .or .u64 (IntKind.u64.wrap ((hi : Int) * 2 ^ s)) ((lo : Int) / 2 ^ (64 - s)) = ((hi * 2 ^ s + lo / 2 ^ (64 - s) : Nat) : Int) := by
    rw [castH, wu _ (by omega) (by omega), castD, orE]
  have qE : (hi * 18446744073709551616 + lo) / y = ((hi * 2 ^ s + lo / 2 ^ (64 - s)) * 18446744073709551616 + lo * 2 ^ s % 18446744073709551616) / (y * 2 ^ s) := by rw [n4, Nat.mul_div_mul_right _ _ (Nat.two_pow_pos s)]
  have rE : (hi * 18446744073709551616 + lo) % y = ((hi * 2 ^ s + lo / 2 ^ (64 - s)) * 18446744073709551616 + lo * 2 ^ s % 18446744073709551616) % (y * 2 ^ s) / 2 ^ s := by rw [n4, Nat.mul_mod_mul_right, Nat.mul_div_cancel _ (Nat.two_pow_pos s)]
  rw [qE, rE]
  obtain ⟨V, hV⟩ : ∃ V, lo * 2 ^ s % 18446744073709551616 = V := ⟨_, rfl⟩
  obtain ⟨U, hU⟩ : ∃ U, hi * 2 ^ s + lo / 2 ^ (64 - s) = U := ⟨_, rfl⟩
  obtain ⟨Y, hY⟩ : ∃ Y, y * 2 ^ s = Y := ⟨_, rfl⟩
  have vb : V < 18446744073709551616 := by omega
  rw [hV] at eL ⊢
  rw [hU] at eU n3 ⊢
  rw [hY] at eY n3 sY0 sY1 ⊢
  clear qE rE n4 n1 n2 orE castY castH castL castD hV hU hY HLZ sb
  obtain ⟨y1, hy1⟩ : ∃ x, Y / 4294967296 = x := ⟨_, rfl⟩
  obtain ⟨y0, hy0⟩ : ∃ x, Y % 4294967296 = x := ⟨_, rfl⟩
  obtain ⟨v1, hv1⟩ : ∃ x, V / 4294967296 = x := ⟨_, rfl⟩
  obtain ⟨v0, hv0⟩ : ∃ x, V % 4294967296 = x := ⟨_, rfl⟩
  have hYe : Y = y1 * 4294967296 + y0 := by omega
  have hVe : V = v1 * 4294967296 + v0 := by omega
  have a1 : 2147483648 ≤ y1 ∧ y1 < 4294967296 ∧ y0 < 4294967296 ∧ v1 < 4294967296 ∧ v0 < 4294967296 := by omega
  have fY1 : (Y : Int) / 4294967296 = (y1 : Int) := by omega
  have fY0 : bits .and .u64 (Y : Int) 4294967295 = (y0 : Int) := by rw [cmod Y sY1, hy0]
  have fV1 : (V : Int) / 4294967296 = (v1 : Int) := by omega
  have fV0 : bits .and .u64 (V : Int) 4294967295 = (v0 : Int) := by rw [cmod V vb, hv0]
  obtain ⟨a2, a3, a4, a5, a6⟩ := a1
  have st := Gy.h_start a2 a3 a4 (by omega : U < y1 * 4294967296 + y0) a5
  obtain ⟨Q, hQ⟩ : ∃ x, U / y1 = x := ⟨_, rfl⟩
  obtain ⟨R, hR⟩ : ∃ x, U - U / y1 * y1 = x := ⟨_, rfl⟩
  have le : U / y1 * y1 ≤ U := Nat.div_mul_le_self _ _
  have fQ : IntKind.u64.wrap ((U : Int) / (y1 : Int)) = (Q : Int) := by
    rw [show (U : Int) / (y1 : Int) = ((U / y1 : Nat) : Int) by simp, hQ]
    exact wu _ (by omega) (by have := Nat.div_le_self U y1; omega)
  have fR : IntKind.u64.wrap ((U : Int) - IntKind.u64.wrap ((Q : Int) * (y1 : Int))) = (R : Int) := by
    rw [show (Q : Int) * (y1 : Int) = ((Q * y1 : Nat) : Int) by simp]
    rw [hQ] at le hR
    rw [wu ((Q * y1 : Nat) : Int) (by omega) (by omega), wu _ (by omega) (by omega)]
    omega
  have fQ3 : (U : Int) / (y1 : Int) = (Q : Int) := by
    rw [show (U : Int) / (y1 : Int) = ((U / y1 : Nat) : Int) by simp, hQ]
  have fR2 : IntKind.u64.wrap ((U : Int) - IntKind.u64.wrap ((U : Int) / (y1 : Int) * (y1 : Int))) = (R : Int) := by
    rw [show (U : Int) / (y1 : Int) = ((U / y1 : Nat) : Int) by simp, hQ]
    exact fR
  rw [hR, hQ] at st
  have HST := hide st
  have HYE := hide hYe
  have HVE := hide hVe
  clear st hYe hVe hQ hR le hv1 hv0 hy1 hy0
  have s1 : (s : Int) < 64 := by omega
  obtain ⟨QQ, hQQ⟩ : ∃ x : Nat, (U * 18446744073709551616 + V) / Y = x := ⟨_, rfl⟩
  obtain ⟨RR, hRR⟩ : ∃ x : Nat, (U * 18446744073709551616 + V) % Y / 2 ^ s = x := ⟨_, rfl⟩
  rw [hQQ, hRR]
  have HQR := hide (And.intro hQQ hRR)
  clear hQQ hRR
  have r1 : (2147483648 : Int) ≤ y1 ∧ (y1 : Int) < 4294967296 ∧ (0 : Int) ≤ y0 ∧ (y0 : Int) < 4294967296 ∧ (0 : Int) ≤ v1 ∧ (v1 : Int) < 4294967296 ∧ (0 : Int) ≤ v0 ∧ (v0 : Int) < 4294967296 ∧ (0 : Int) ≤ U ∧ (U : Int) < Y ∧ (Y : Int) < 18446744073709551616 ∧ (0 : Int) ≤ V ∧ (V : Int) < 18446744073709551616 := by omega
  have hU0 := hide (show U < y1 * 4294967296 + y0 by rw [← unhide HYE]; exact n3)
  have HA := hide (And.intro a2 (And.intro a3 (And.intro a4 (And.intro a5 a6))))
  clear sY0 sY1 n3 vb a2 a3 a4 a5 a6
  obtain ⟨yi, hyi⟩ : ∃ x : Int, (y : Int) = x := ⟨_, rfl⟩
  obtain ⟨hii, hhii⟩ : ∃ x : Int, (hi : Int) = x := ⟨_, rfl⟩
  obtain ⟨loi, hloi⟩ : ∃ x : Int, (lo : Int) = x := ⟨_, rfl⟩
  obtain ⟨Yi, hYi⟩ : ∃ x : Int, (Y : Int) = x := ⟨_, rfl⟩
  obtain ⟨Ui, hUi⟩ : ∃ x : Int, (U : Int) = x := ⟨_, rfl⟩
  obtain ⟨Vi, hVi⟩ : ∃ x : Int, (V : Int) = x := ⟨_, rfl⟩
  obtain ⟨y1i, hy1i⟩ : ∃ x : Int, (y1 : Int) = x := ⟨_, rfl⟩
  obtain ⟨y0i, hy0i⟩ : ∃ x : Int, (y0 : Int) = x := ⟨_, rfl⟩
  obtain ⟨v1i, hv1i⟩ : ∃ x : Int, (v1 : Int) = x := ⟨_, rfl⟩
  obtain ⟨v0i, hv0i⟩ : ∃ x : Int, (v0 : Int) = x := ⟨_, rfl⟩
  obtain ⟨Qi, hQi⟩ : ∃ x : Int, (Q : Int) = x := ⟨_, rfl⟩
  obtain ⟨Ri, hRi⟩ : ∃ x : Int, (R : Int) = x := ⟨_, rfl⟩
  have z0 : (0 : Int) < yi ∧ yi < 18446744073709551616 ∧ 0 < hii ∧ hii < yi ∧ 0 ≤ loi ∧ loi < 18446744073709551616 := by omega
  rw [hyi] at hHLZ eY ⊢
  rw [hhii] at eU ⊢
  rw [hloi] at eL eU ⊢
  rw [hYi] at eY fY1 fY0 r1
  rw [hUi] at eU fQ fR fR2 fQ3 r1
  rw [hVi] at eL fV1 fV0 r1
  rw [hy1i] at fY1 fQ fR fR2 fQ3 r1
  rw [hy0i] at fY0 r1
  rw [hv1i] at fV1 r1
  rw [hv0i] at fV0 r1
  rw [hQi] at fQ fR fQ3
  rw [hRi] at fR fR2
  have HC := hide (And.intro hYi (And.intro hUi (And.intro hy1i (And.intro hy0i (And.intro hv1i (And.intro hv0i (And.intro hQi hRi)))))))
  clear hyi hhii hloi hYi hUi hVi hy1i hy0i hv1i hv0i hQi hRi
  have z1 : (yi == 0) = false := by simp; omega
  have z2 : (hii == 0) = false := by simp; omega
  obtain ⟨z3, z4, z5, z6, z7, z8⟩ := z0
  obtain ⟨r1, r2, r3, r4, r5, r6, r7, r8, r9, r10, r11, r12, r13⟩ := r1
  have z9 : (y1i == 0) = false := by simp; omega
  clear h0 h1 h3 h4
  go_enter Tryz.func128, Tryz.ntmps128
  go_wp2_with (go_at_call 143; refine (unhide hHLZ _).mono ?_; rintro e w' ⟨rfl, rfl⟩)
  go_loop [15, 16] (fun q r => ∃ a b : Int, q = .int .u64 a ∧ r = .int .u64 b ∧ 0 ≤ a ∧ a ≤ 4294967297 ∧ 0 ≤ b ∧ b < 4294967296 ∧ Hid (∃ a' b' : Nat, a = a' ∧ b = b' ∧ Gy.HInv U v1 y1 y0 a' b')) (fun q _ => (intOf q).toNat)
  case atStart =>
    obtain ⟨_, _, _, _, _, _, c1, c2⟩ := unhide HC
    have hs := unhide HST
    exact ⟨Qi, Ri, by first | rfl | (simp only [fQ3]; done), by first | rfl | (simp only [fQ, fQ3, fR, fR2]; done), by omega, by have := hs.2.2.1; omega, by omega, by have := hs.2.2.2; omega, hide ⟨Q, R, c1.symm, c2.symm, hs⟩⟩
  case round =>
    clear fQ fQ3 fR fR2 HST eY eL eU fY1 fY0 fV1 fV0
    obtain ⟨cYi, cU, cy1, cy0, cv1, cv0, _, _⟩ := unhide HC
    obtain ⟨ha2, ha3, ha4, ha5, ha6⟩ := unhide HA
    have cYe : Yi = y1i * 4294967296 + y0i := by rw [← cYi, unhide HYE, ← cy1, ← cy0]; simp
    have HCU := hide cU
    have HCv1 := hide cv1
    have HCv0 := hide cv0
    have HCy1 := hide cy1
    have HCy0 := hide cy0
    have HcYe := hide cYe
    clear cYi cU cy1 cy0 cv1 cv0 cYe ha2 ha3 ha4 ha5 ha6
    obtain ⟨a, b, rfl, rfl, b1, b2, b3, b4, hi1⟩ := hrel
    have p1 := mulY0 b1 b2 r3 r4
    have ea : 1 ≤ a → IntKind.u64.wrap (a - 1) = a - 1 := fun _ => wu _ (by omega) (by omega)
    have eb : IntKind.u64.wrap (b + y1i) = b + y1i := wu _ (by omega) (by omega)
    have ways : (4294967296 ≤ a ∧ 4294967296 ≤ b + y1i) ∨ (4294967296 ≤ a ∧ b + y1i < 4294967296) ∨ (a < 4294967296 ∧ 4294967296 * b + v1i < a * y0i ∧ 4294967296 ≤ b + y1i) ∨ (a < 4294967296 ∧ 4294967296 * b + v1i < a * y0i ∧ b + y1i < 4294967296) ∨ (a < 4294967296 ∧ a * y0i ≤ 4294967296 * b + v1i) := by omega
    rcases ways with ⟨w1, w2⟩ | ⟨w1, w2⟩ | ⟨w1, w3, w2⟩ | ⟨w1, w3, w2⟩ | ⟨w1, w3⟩
    · have nx := nextI (unhide HCv1) (unhide HCy1) (unhide HCy0) (unhide hU0) (unhide HA).2.2.2.1 (unhide HA).2.2.1 (unhide hi1) (.inl w1)
      have nb := nx.1
      have e1 := ea nb.1
      obtain ⟨q, hq, hend⟩ := nx.2.2 w2
      clear nx
      have sec := second (unhide HCU) (unhide HCv1) (unhide HCy1) (unhide HCy0) (unhide HcYe) (unhide HA).1 (unhide HA).2.1 (unhide HA).2.2.1 (unhide HA).2.2.2.1 (unhide HA).2.2.2.2 (unhide hU0) hq hend
      obtain ⟨N, Ni, Q2, R2, hN, ⟨g1, g2, g3, g4⟩, eN, ⟨eQ2, eQ3⟩, eR2, eR3, ⟨g5, g6, g7, g8⟩, st2⟩ := sec
      have Hend := hide (And.intro hq hend)
      clear hq hend
      go_wp2_with fail
      go_loop [16, 18] (fun r q => ∃ a b : Int, q = .int .u64 a ∧ r = .int .u64 b ∧ 0 ≤ a ∧ a ≤ 4294967297 ∧ 0 ≤ b ∧ b < 4294967296 ∧ Hid (∃ a' b' : Nat, a = a' ∧ b = b' ∧ Gy.HInv N v0 y1 y0 a' b')) (fun _ q => (intOf q).toNat)
      case atStart => exact ⟨Q2, R2, by first | rfl | (simp only [eQ2, eQ3]; done), by first | rfl | (simp only [eQ2, eQ3, eR2, eR3]; done), g5, g6, g7, g8, st2⟩
      case round =>
        clear eN eQ2 eQ3 eR2 eR3 st2 g5 g6 g7 g8
        obtain ⟨a2, b2, rfl, rfl, d1, d2, d3, d4, hi2⟩ := hrel
        have ways2 : (4294967296 ≤ a2 ∧ 4294967296 ≤ b2 + y1i) ∨ (4294967296 ≤ a2 ∧ b2 + y1i < 4294967296) ∨ (a2 < 4294967296 ∧ 4294967296 * b2 + v0i < a2 * y0i ∧ 4294967296 ≤ b2 + y1i) ∨ (a2 < 4294967296 ∧ 4294967296 * b2 + v0i < a2 * y0i ∧ b2 + y1i < 4294967296) ∨ (a2 < 4294967296 ∧ a2 * y0i ≤ 4294967296 * b2 + v0i) := by omega
        have p2 := mulY0 (by omega : 0 ≤ a2) (by omega : a2 ≤ 4294967297) r3 r4
        have ea2 : 1 ≤ a2 → IntKind.u64.wrap (a2 - 1) = a2 - 1 := fun _ => wu _ (by omega) (by omega)
        have eb2 : IntKind.u64.wrap (b2 + y1i) = b2 + y1i := wu _ (by omega) (by omega)
        rcases ways2 with ⟨k1, k2⟩ | ⟨k1, k2⟩ | ⟨k1, k3, k2⟩ | ⟨k1, k3, k2⟩ | ⟨k1, k3⟩
        · have nx := nextI (unhide HCv0) (unhide HCy1) (unhide HCy0) (unhide hN).2.2 (unhide HA).2.2.2.2 (unhide HA).2.2.1 (unhide hi2) (.inl k1)
          have nb := nx.1
          have e1 := ea2 nb.1
          obtain ⟨q2, hq2, hend2⟩ := nx.2.2 k2
          have fin := finish (s := s) (Yi := Yi) (unhide HCv0) (by rw [(unhide HcYe), ← (unhide HCy1), ← (unhide HCy0)]; simp) (unhide HA).2.1 (unhide HA).2.2.1 (unhide HA).2.2.2.1 (unhide HA).2.2.2.2 (unhide hU0) (unhide Hend).1 (unhide Hend).2 (unhide hN) hq2 hend2
          rw [← unhide HYE, ← unhide HVE, (unhide HQR).1, (unhide HQR).2] at fin
          obtain ⟨f1, f2, f5, f3⟩ := fin
          have f4 := wu (QQ : Int) (Int.natCast_nonneg _) f5
          clear nx hq2 hend2 f5
          go_wp2_with fail
          go_ret2
          exact ⟨by first | rfl | (simp only [f1, f2, f3, f4]; done), (by repeat' (first | (with_reducible exact up_refl _) | (with_reducible assumption) | (with_reducible refine up_alloc ?_ _) | (with_reducible refine up_drewN ?_ _) | (with_reducible refine up_drew ?_) | (with_reducible refine up_set ?_ (by first | (simp; done) | (simp; omega) | omega) _) | (refine up_trans ?_ (by with_reducible assumption))))⟩
        · have nx := hide (nextI (unhide HCv0) (unhide HCy1) (unhide HCy0) (unhide hN).2.2 (unhide HA).2.2.2.2 (unhide HA).2.2.1 (unhide hi2) (.inl k1))
          have nb := (unhide nx).1
          have e1 := ea2 nb.1
          go_wp2_with fail
          go_round
          case rel => exact ⟨_, _, rfl, rfl, by omega, by omega, by omega, by omega, (unhide nx).2.1 k2⟩
          case measure => simp [intOf]; omega
        · have nx := nextI (unhide HCv0) (unhide HCy1) (unhide HCy0) (unhide hN).2.2 (unhide HA).2.2.2.2 (unhide HA).2.2.1 (unhide hi2) (.inr k3)
          have nb := nx.1
          have e1 := ea2 nb.1
          obtain ⟨q2, hq2, hend2⟩ := nx.2.2 k2
          have fin := finish (s := s) (Yi := Yi) (unhide HCv0) (by rw [(unhide HcYe), ← (unhide HCy1), ← (unhide HCy0)]; simp) (unhide HA).2.1 (unhide HA).2.2.1 (unhide HA).2.2.2.1 (unhide HA).2.2.2.2 (unhide hU0) (unhide Hend).1 (unhide Hend).2 (unhide hN) hq2 hend2
          rw [← unhide HYE, ← unhide HVE, (unhide HQR).1, (unhide HQR).2] at fin
          obtain ⟨f1, f2, f5, f3⟩ := fin
          have f4 := wu (QQ : Int) (Int.natCast_nonneg _) f5
          clear nx hq2 hend2 f5
          go_wp2_with fail
          go_ret2
          exact ⟨by first | rfl | (simp only [f1, f2, f3, f4]; done), (by repeat' (first | (with_reducible exact up_refl _) | (with_reducible assumption) | (with_reducible refine up_alloc ?_ _) | (with_reducible refine up_drewN ?_ _) | (with_reducible refine up_drew ?_) | (with_reducible refine up_set ?_ (by first | (simp; done) | (simp; omega) | omega) _) | (refine up_trans ?_ (by with_reducible assumption))))⟩
        · have nx := hide (nextI (unhide HCv0) (unhide HCy1) (unhide HCy0) (unhide hN).2.2 (unhide HA).2.2.2.2 (unhide HA).2.2.1 (unhide hi2) (.inr k3))
          have nb := (unhide nx).1
          have e1 := ea2 nb.1
          go_wp2_with fail
          go_round
          case rel => exact ⟨_, _, rfl, rfl, by omega, by omega, by omega, by omega, (unhide nx).2.1 k2⟩
          case measure => simp [intOf]; omega
        · obtain ⟨q2, hq2, hend2⟩ := doneI (unhide HCv0) (unhide HCy0) (unhide hi2) k3
          have fin := finish (s := s) (Yi := Yi) (unhide HCv0) (by rw [(unhide HcYe), ← (unhide HCy1), ← (unhide HCy0)]; simp) (unhide HA).2.1 (unhide HA).2.2.1 (unhide HA).2.2.2.1 (unhide HA).2.2.2.2 (unhide hU0) (unhide Hend).1 (unhide Hend).2 (unhide hN) hq2 hend2
          rw [← unhide HYE, ← unhide HVE, (unhide HQR).1, (unhide HQR).2] at fin
          obtain ⟨f1, f2, f5, f3⟩ := fin
          have f4 := wu (QQ : Int) (Int.natCast_nonneg _) f5
          clear hq2 hend2 f5
          go_wp2_with fail
          go_ret2
          exact ⟨by first | rfl | (simp only [f1, f2, f3, f4]; done), (by repeat' (first | (with_reducible exact up_refl _) | (with_reducible assumption) | (with_reducible refine up_alloc ?_ _) | (with_reducible refine up_drewN ?_ _) | (with_reducible refine up_drew ?_) | (with_reducible refine up_set ?_ (by first | (simp; done) | (simp; omega) | omega) _) | (refine up_trans ?_ (by with_reducible assumption))))⟩
    · have nx := hide (nextI (unhide HCv1) (unhide HCy1) (unhide HCy0) (unhide hU0) (unhide HA).2.2.2.1 (unhide HA).2.2.1 (unhide hi1) (.inl w1))
      have nb := (unhide nx).1
      have e1 := ea nb.1
      go_wp2_with fail
      go_round
      case rel => exact ⟨_, _, rfl, rfl, by omega, by omega, by omega, by omega, (unhide nx).2.1 w2⟩
      case measure => simp [intOf]; omega
    · have nx := nextI (unhide HCv1) (unhide HCy1) (unhide HCy0) (unhide hU0) (unhide HA).2.2.2.1 (unhide HA).2.2.1 (unhide hi1) (.inr w3)
      have nb := nx.1
      have e1 := ea nb.1
      obtain ⟨q, hq, hend⟩ := nx.2.2 w2
      clear nx
      have sec := second (unhide HCU) (unhide HCv1) (unhide HCy1) (unhide HCy0) (unhide HcYe) (unhide HA).1 (unhide HA).2.1 (unhide HA).2.2.1 (unhide HA).2.2.2.1 (unhide HA).2.2.2.2 (unhide hU0) hq hend
      obtain ⟨N, Ni, Q2, R2, hN, ⟨g1, g2, g3, g4⟩, eN, ⟨eQ2, eQ3⟩, eR2, eR3, ⟨g5, g6, g7, g8⟩, st2⟩ := sec
      have Hend := hide (And.intro hq hend)
      clear hq hend
      go_wp2_with fail
      go_loop [16, 18] (fun r q => ∃ a b : Int, q = .int .u64 a ∧ r = .int .u64 b ∧ 0 ≤ a ∧ a ≤ 4294967297 ∧ 0 ≤ b ∧ b < 4294967296 ∧ Hid (∃ a' b' : Nat, a = a' ∧ b = b' ∧ Gy.HInv N v0 y1 y0 a' b')) (fun _ q => (intOf q).toNat)
      case atStart => exact ⟨Q2, R2, by first | rfl | (simp only [eQ2, eQ3]; done), by first | rfl | (simp only [eQ2, eQ3, eR2, eR3]; done), g5, g6, g7, g8, st2⟩
      case round =>
        clear eN eQ2 eQ3 eR2 eR3 st2 g5 g6 g7 g8
        obtain ⟨a2, b2, rfl, rfl, d1, d2, d3, d4, hi2⟩ := hrel
        have ways2 : (4294967296 ≤ a2 ∧ 4294967296 ≤ b2 + y1i) ∨ (4294967296 ≤ a2 ∧ b2 + y1i < 4294967296) ∨ (a2 < 4294967296 ∧ 4294967296 * b2 + v0i < a2 * y0i ∧ 4294967296 ≤ b2 + y1i) ∨ (a2 < 4294967296 ∧ 4294967296 * b2 + v0i < a2 * y0i ∧ b2 + y1i < 4294967296) ∨ (a2 < 4294967296 ∧ a2 * y0i ≤ 4294967296 * b2 + v0i) := by omega
        have p2 := mulY0 (by omega : 0 ≤ a2) (by omega : a2 ≤ 4294967297) r3 r4
        have ea2 : 1 ≤ a2 → IntKind.u64.wrap (a2 - 1) = a2 - 1 := fun _ => wu _ (by omega) (by omega)
        have eb2 : IntKind.u64.wrap (b2 + y1i) = b2 + y1i := wu _ (by omega) (by omega)
        rcases ways2 with ⟨k1, k2⟩ | ⟨k1, k2⟩ | ⟨k1, k3, k2⟩ | ⟨k1, k3, k2⟩ | ⟨k1, k3⟩
        · have nx := nextI (unhide HCv0) (unhide HCy1) (unhide HCy0) (unhide hN).2.2 (unhide HA).2.2.2.2 (unhide HA).2.2.1 (unhide hi2) (.inl k1)
          have nb := nx.1
          have e1 := ea2 nb.1
          obtain ⟨q2, hq2, hend2⟩ := nx.2.2 k2
          have fin := finish (s := s) (Yi := Yi) (unhide HCv0) (by rw [(unhide HcYe), ← (unhide HCy1), ← (unhide HCy0)]; simp) (unhide HA).2.1 (unhide HA).2.2.1 (unhide HA).2.2.2.1 (unhide HA).2.2.2.2 (unhide hU0) (unhide Hend).1 (unhide Hend).2 (unhide hN) hq2 hend2
          rw [← unhide HYE, ← unhide HVE, (unhide HQR).1, (unhide HQR).2] at fin
          obtain ⟨f1, f2, f5, f3⟩ := fin
          have f4 := wu (QQ : Int) (Int.natCast_nonneg _) f5
          clear nx hq2 hend2 f5
          go_wp2_with fail
          go_ret2
          exact ⟨by first | rfl | (simp only [f1, f2, f3, f4]; done), (by repeat' (first | (with_reducible exact up_refl _) | (with_reducible assumption) | (with_reducible refine up_alloc ?_ _) | (with_reducible refine up_drewN ?_ _) | (with_reducible refine up_drew ?_) | (with_reducible refine up_set ?_ (by first | (simp; done) | (simp; omega) | omega) _) | (refine up_trans ?_ (by with_reducible assumption))))⟩
        · have nx := hide (nextI (unhide HCv0) (unhide HCy1) (unhide HCy0) (unhide hN).2.2 (unhide HA).2.2.2.2 (unhide HA).2.2.1 (unhide hi2) (.inl k1))
          have nb := (unhide nx).1
          have e1 := ea2 nb.1
          go_wp2_with fail
          go_round
          case rel => exact ⟨_, _, rfl, rfl, by omega, by omega, by omega, by omega, (unhide nx).2.1 k2⟩
          case measure => simp [intOf]; omega
        · have nx := nextI (unhide HCv0) (unhide HCy1) (unhide HCy0) (unhide hN).2.2 (unhide HA).2.2.2.2 (unhide HA).2.2.1 (unhide hi2) (.inr k3)
          have nb := nx.1
          have e1 := ea2 nb.1
          obtain ⟨q2, hq2, hend2⟩ := nx.2.2 k2
          have fin := finish (s := s) (Yi := Yi) (unhide HCv0) (by rw [(unhide HcYe), ← (unhide HCy1), ← (unhide HCy0)]; simp) (unhide HA).2.1 (unhide HA).2.2.1 (unhide HA).2.2.2.1 (unhide HA).2.2.2.2 (unhide hU0) (unhide Hend).1 (unhide Hend).2 (unhide hN) hq2 hend2
          rw [← unhide HYE, ← unhide HVE, (unhide HQR).1, (unhide HQR).2] at fin
          obtain ⟨f1, f2, f5, f3⟩ := fin
          have f4 := wu (QQ : Int) (Int.natCast_nonneg _) f5
          clear nx hq2 hend2 f5
          go_wp2_with fail
          go_ret2
          exact ⟨by first | rfl | (simp only [f1, f2, f3, f4]; done), (by repeat' (first | (with_reducible exact up_refl _) | (with_reducible assumption) | (with_reducible refine up_alloc ?_ _) | (with_reducible refine up_drewN ?_ _) | (with_reducible refine up_drew ?_) | (with_reducible refine up_set ?_ (by first | (simp; done) | (simp; omega) | omega) _) | (refine up_trans ?_ (by with_reducible assumption))))⟩
        · have nx := hide (nextI (unhide HCv0) (unhide HCy1) (unhide HCy0) (unhide hN).2.2 (unhide HA).2.2.2.2 (unhide HA).2.2.1 (unhide hi2) (.inr k3))
          have nb := (unhide nx).1
          have e1 := ea2 nb.1
          go_wp2_with fail
          go_round
          case rel => exact ⟨_, _, rfl, rfl, by omega, by omega, by omega, by omega, (unhide nx).2.1 k2⟩
          case measure => simp [intOf]; omega
        · obtain ⟨q2, hq2, hend2⟩ := doneI (unhide HCv0) (unhide HCy0) (unhide hi2) k3
          have fin := finish (s := s) (Yi := Yi) (unhide HCv0) (by rw [(unhide HcYe), ← (unhide HCy1), ← (unhide HCy0)]; simp) (unhide HA).2.1 (unhide HA).2.2.1 (unhide HA).2.2.2.1 (unhide HA).2.2.2.2 (unhide hU0) (unhide Hend).1 (unhide Hend).2 (unhide hN) hq2 hend2
          rw [← unhide HYE, ← unhide HVE, (unhide HQR).1, (unhide HQR).2] at fin
          obtain ⟨f1, f2, f5, f3⟩ := fin
          have f4 := wu (QQ : Int) (Int.natCast_nonneg _) f5
          clear hq2 hend2 f5
          go_wp2_with fail
          go_ret2
          exact ⟨by first | rfl | (simp only [f1, f2, f3, f4]; done), (by repeat' (first | (with_reducible exact up_refl _) | (with_reducible assumption) | (with_reducible refine up_alloc ?_ _) | (with_reducible refine up_drewN ?_ _) | (with_reducible refine up_drew ?_) | (with_reducible refine up_set ?_ (by first | (simp; done) | (simp; omega) | omega) _) | (refine up_trans ?_ (by with_reducible assumption))))⟩
    · have nx := hide (nextI (unhide HCv1) (unhide HCy1) (unhide HCy0) (unhide hU0) (unhide HA).2.2.2.1 (unhide HA).2.2.1 (unhide hi1) (.inr w3))
      have nb := (unhide nx).1
      have e1 := ea nb.1
      go_wp2_with fail
      go_round
      case rel => exact ⟨_, _, rfl, rfl, by omega, by omega, by omega, by omega, (unhide nx).2.1 w2⟩
      case measure => simp [intOf]; omega
    · obtain ⟨q, hq, hend⟩ := doneI (unhide HCv1) (unhide HCy0) (unhide hi1) w3
      have sec := second (unhide HCU) (unhide HCv1) (unhide HCy1) (unhide HCy0) (unhide HcYe) (unhide HA).1 (unhide HA).2.1 (unhide HA).2.2.1 (unhide HA).2.2.2.1 (unhide HA).2.2.2.2 (unhide hU0) hq hend
      obtain ⟨N, Ni, Q2, R2, hN, ⟨g1, g2, g3, g4⟩, eN, ⟨eQ2, eQ3⟩, eR2, eR3, ⟨g5, g6, g7, g8⟩, st2⟩ := sec
      have Hend := hide (And.intro hq hend)
      clear hq hend
      go_wp2_with fail
      go_loop [16, 18] (fun r q => ∃ a b : Int, q = .int .u64 a ∧ r = .int .u64 b ∧ 0 ≤ a ∧ a ≤ 4294967297 ∧ 0 ≤ b ∧ b < 4294967296 ∧ Hid (∃ a' b' : Nat, a = a' ∧ b = b' ∧ Gy.HInv N v0 y1 y0 a' b')) (fun _ q => (intOf q).toNat)
      case atStart => exact ⟨Q2, R2, by first | rfl | (simp only [eQ2, eQ3]; done), by first | rfl | (simp only [eQ2, eQ3, eR2, eR3]; done), g5, g6, g7, g8, st2⟩
      case round =>
        clear eN eQ2 eQ3 eR2 eR3 st2 g5 g6 g7 g8
        obtain ⟨a2, b2, rfl, rfl, d1, d2, d3, d4, hi2⟩ := hrel
        have ways2 : (4294967296 ≤ a2 ∧ 4294967296 ≤ b2 + y1i) ∨ (4294967296 ≤ a2 ∧ b2 + y1i < 4294967296) ∨ (a2 < 4294967296 ∧ 4294967296 * b2 + v0i < a2 * y0i ∧ 4294967296 ≤ b2 + y1i) ∨ (a2 < 4294967296 ∧ 4294967296 * b2 + v0i < a2 * y0i ∧ b2 + y1i < 4294967296) ∨ (a2 < 4294967296 ∧ a2 * y0i ≤ 4294967296 * b2 + v0i) := by omega
        have p2 := mulY0 (by omega : 0 ≤ a2) (by omega : a2 ≤ 4294967297) r3 r4
        have ea2 : 1 ≤ a2 → IntKind.u64.wrap (a2 - 1) = a2 - 1 := fun _ => wu _ (by omega) (by omega)
        have eb2 : IntKind.u64.wrap (b2 + y1i) = b2 + y1i := wu _ (by omega) (by omega)
        rcases ways2 with ⟨k1, k2⟩ | ⟨k1, k2⟩ | ⟨k1, k3, k2⟩ | ⟨k1, k3, k2⟩ | ⟨k1, k3⟩
        · have nx := nextI (unhide HCv0) (unhide HCy1) (unhide HCy0) (unhide hN).2.2 (unhide HA).2.2.2.2 (unhide HA).2.2.1 (unhide hi2) (.inl k1)
          have nb := nx.1
          have e1 := ea2 nb.1
          obtain ⟨q2, hq2, hend2⟩ := nx.2.2 k2
          have fin := finish (s := s) (Yi := Yi) (unhide HCv0) (by rw [(unhide HcYe), ← (unhide HCy1), ← (unhide HCy0)]; simp) (unhide HA).2.1 (unhide HA).2.2.1 (unhide HA).2.2.2.1 (unhide HA).2.2.2.2 (unhide hU0) (unhide Hend).1 (unhide Hend).2 (unhide hN) hq2 hend2
          rw [← unhide HYE, ← unhide HVE, (unhide HQR).1, (unhide HQR).2] at fin
          obtain ⟨f1, f2, f5, f3⟩ := fin
          have f4 := wu (QQ : Int) (Int.natCast_nonneg _) f5
          clear nx hq2 hend2 f5
          go_wp2_with fail
          go_ret2
          exact ⟨by first | rfl | (simp only [f1, f2, f3, f4]; done), (by repeat' (first | (with_reducible exact up_refl _) | (with_reducible assumption) | (with_reducible refine up_alloc ?_ _) | (with_reducible refine up_drewN ?_ _) | (with_reducible refine up_drew ?_) | (with_reducible refine up_set ?_ (by first | (simp; done) | (simp; omega) | omega) _) | (refine up_trans ?_ (by with_reducible assumption))))⟩
        · have nx := hide (nextI (unhide HCv0) (unhide HCy1) (unhide HCy0) (unhide hN).2.2 (unhide HA).2.2.2.2 (unhide HA).2.2.1 (unhide hi2) (.inl k1))
          have nb := (unhide nx).1
          have e1 := ea2 nb.1
          go_wp2_with fail
          go_round
          case rel => exact ⟨_, _, rfl, rfl, by omega, by omega, by omega, by omega, (unhide nx).2.1 k2⟩
          case measure => simp [intOf]; omega
        · have nx := nextI (unhide HCv0) (unhide HCy1) (unhide HCy0) (unhide hN).2.2 (unhide HA).2.2.2.2 (unhide HA).2.2.1 (unhide hi2) (.inr k3)
          have nb := nx.1
          have e1 := ea2 nb.1
          obtain ⟨q2, hq2, hend2⟩ := nx.2.2 k2
          have fin := finish (s := s) (Yi := Yi) (unhide HCv0) (by rw [(unhide HcYe), ← (unhide HCy1), ← (unhide HCy0)]; simp) (unhide HA).2.1 (unhide HA).2.2.1 (unhide HA).2.2.2.1 (unhide HA).2.2.2.2 (unhide hU0) (unhide Hend).1 (unhide Hend).2 (unhide hN) hq2 hend2
          rw [← unhide HYE, ← unhide HVE, (unhide HQR).1, (unhide HQR).2] at fin
          obtain ⟨f1, f2, f5, f3⟩ := fin
          have f4 := wu (QQ : Int) (Int.natCast_nonneg _) f5
          clear nx hq2 hend2 f5
          go_wp2_with fail
          go_ret2
          exact ⟨by first | rfl | (simp only [f1, f2, f3, f4]; done), (by repeat' (first | (with_reducible exact up_refl _) | (with_reducible assumption) | (with_reducible refine up_alloc ?_ _) | (with_reducible refine up_drewN ?_ _) | (with_reducible refine up_drew ?_) | (with_reducible refine up_set ?_ (by first | (simp; done) | (simp; omega) | omega) _) | (refine up_trans ?_ (by with_reducible assumption))))⟩
        · have nx := hide (nextI (unhide HCv0) (unhide HCy1) (unhide HCy0) (unhide hN).2.2 (unhide HA).2.2.2.2 (unhide HA).2.2.1 (unhide hi2) (.inr k3))
          have nb := (unhide nx).1
          have e1 := ea2 nb.1
          go_wp2_with fail
          go_round
          case rel => exact ⟨_, _, rfl, rfl, by omega, by omega, by omega, by omega, (unhide nx).2.1 k2⟩
          case measure => simp [intOf]; omega
        · obtain ⟨q2, hq2, hend2⟩ := doneI (unhide HCv0) (unhide HCy0) (unhide hi2) k3
          have fin := finish (s := s) (Yi := Yi) (unhide HCv0) (by rw [(unhide HcYe), ← (unhide HCy1), ← (unhide HCy0)]; simp) (unhide HA).2.1 (unhide HA).2.2.1 (unhide HA).2.2.2.1 (unhide HA).2.2.2.2 (unhide hU0) (unhide Hend).1 (unhide Hend).2 (unhide hN) hq2 hend2
          rw [← unhide HYE, ← unhide HVE, (unhide HQR).1, (unhide HQR).2] at fin
          obtain ⟨f1, f2, f5, f3⟩ := fin
          have f4 := wu (QQ : Int) (Int.natCast_nonneg _) f5
          clear hq2 hend2 f5
          go_wp2_with fail
          go_ret2
          exact ⟨by first | rfl | (simp only [f1, f2, f3, f4]; done), (by repeat' (first | (with_reducible exact up_refl _) | (with_reducible assumption) | (with_reducible refine up_alloc ?_ _) | (with_reducible refine up_drewN ?_ _) | (with_reducible refine up_drew ?_) | (with_reducible refine up_set ?_ (by first | (simp; done) | (simp; omega) | omega) _) | (refine up_trans ?_ (by with_reducible assumption))))⟩
/-- Div64, for all words of which the upper one is less than the divisor. -/
theorem b_Div64 (hi lo y : Nat) (w : World) (h1 : hi < y) (h3 : y < 18446744073709551616) (h4 : lo < 18446744073709551616) :
    Calls Tryz.prog 128 #[.int .u64 hi, .int .u64 lo, .int .u64 y] w fun e w' => e = .returned (.tuple #[.int .u64 (((hi * 18446744073709551616 + lo) / y : Nat) : Int), .int .u64 (((hi * 18446744073709551616 + lo) % y : Nat) : Int)]) ∧ Up w w' := by
  by_cases h0 : hi = 0
  · subst h0
    have := b_Div64_low lo y w h1 h3 h4
    simpa using this
  · exact b_Div64_high hi lo y w (by omega) h1 h3 h4
end Go.Proofs.YthifcalemhpmoaaGreat
