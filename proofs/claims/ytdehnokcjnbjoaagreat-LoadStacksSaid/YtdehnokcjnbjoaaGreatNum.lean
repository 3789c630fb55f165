/- What the functions on numbers return, of the program and of the document's own answers: quotients rounded down and nearest, roots. -/
import Derived.Test.YtdehnokcjnbjoaaGreatProg
import Derived.Test.YtdehnokcjnbjoaaGreatMath
import Derived.WalkKit
import Derived.OwnWalk
import Derived.Outline
import Derived.Handy
import Derived.WalkLawsBesides
import Derived.Laws.BitsAllLaws
import Derived.Laws.BitsLemmas
namespace Go.Proofs.YtdehnokcjnbjoaaGreat
open Go.RowKit Go.Proofs.Gn
theorem hide {p : Prop} (h : p) : Hid p := h
theorem unhide {p : Prop} (h : Hid p) : p := h
theorem ret_int {k : IntKind} {a b : Int} (h : a = b) : Ending.returned (.int k a) = .returned (.int k b) := by rw [h]
theorem ret_bool {a b : Bool} (h : a = b) : Ending.returned (.bool a) = .returned (.bool b) := by rw [h]

/-! ### The digits of a root -/
theorem u64_or_nat (a b : Nat) (ha : a < 18446744073709551616) (hb : b < 18446744073709551616) : bits .or .u64 (a : Int) (b : Int) = ((a ||| b : Nat) : Int) := by
  have hx : a ||| b < 2 ^ 64 := Nat.or_lt_two_pow (by omega) (by omega)
  have ho : ∀ c : Nat, c < 18446744073709551616 → (BitVec.ofInt 64 (c : Int)).toNat = c := fun c hc => by
    rw [BitVec.ofInt_natCast, BitVec.toNat_ofNat]; exact Nat.mod_eq_of_lt (by omega)
  show IntKind.u64.wrap ((BitVec.ofInt 64 (a : Int) ||| BitVec.ofInt 64 (b : Int)).toNat : Int) = _
  rw [BitVec.toNat_or, ho a ha, ho b hb, IntKind.wrap_u64]
  omega
theorem or_step (a q k : Nat) (hk : k < 32) (ha : a = q * 2 ^ (32 - k)) (hq : a < 4294967296) :
    ∃ b : Nat, bits .or .u64 (a : Int) (IntKind.u64.wrap (2 ^ (31 - k))) = (b : Int) ∧ b = a + 2 ^ (31 - k) := by
  refine ⟨_, ?_, rfl⟩
  have h1 : (2 : Nat) ^ (31 - k) < 2 ^ (32 - k) := Nat.pow_lt_pow_right (by omega) (by omega)
  have h2 : (2 : Nat) ^ (31 - k) ≤ 2 ^ 31 := Nat.pow_le_pow_right (by omega) (by omega)
  have e : IntKind.u64.wrap (2 ^ (31 - k)) = ((2 ^ (31 - k) : Nat) : Int) := by
    rw [IntKind.wrap_u64]
    have : (2 : Int) ^ (31 - k) = ((2 ^ (31 - k) : Nat) : Int) := by simp
    rw [this]
    generalize (2 : Nat) ^ (31 - k) = p at *
    omega
  have e3 : q * 2 ^ (32 - k) + 2 ^ (31 - k) = q * 2 ^ (32 - k) ||| 2 ^ (31 - k) := by
    rw [Nat.mul_comm q, Nat.two_pow_add_eq_or_of_lt h1]
  rw [e, u64_or_nat _ _ (by omega) (by omega), ha, e3]
/-- What is known of the root when the digits from 31 down to 32 - k are found. -/
def Dig (n : Int) (k a : Nat) : Prop := (∃ q, a = q * 2 ^ (32 - k)) ∧ (a : Int) * a ≤ n ∧ n < ((a : Int) + 2 ^ (32 - k)) * (a + 2 ^ (32 - k)) ∧ a + 2 ^ (32 - k) ≤ 4294967296
theorem dig_start {n : Int} (h : 0 ≤ n) (h2 : n ≤ 9223372036854775807) : Dig n 0 0 := ⟨⟨0, by simp⟩, by simpa using h, by simp; omega, by simp⟩
theorem pow_half (k : Nat) (h : k < 32) : (2 : Nat) ^ (32 - k) = 2 ^ (31 - k) + 2 ^ (31 - k) := by
  have : 32 - k = (31 - k) + 1 := by omega
  rw [this, Nat.pow_succ]; omega
theorem dig_yes {n : Int} {k a b : Nat} (hk : k < 32) (h : Dig n k a) (hb : b = a + 2 ^ (31 - k)) (hn : (b : Int) * b ≤ n) : Dig n (k + 1) b := by
  obtain ⟨⟨q, hq⟩, h1, h2, h3⟩ := h
  have e := pow_half k hk
  have e' : (2 : Int) ^ (32 - k) = 2 ^ (31 - k) + 2 ^ (31 - k) := by
    have : 32 - k = (31 - k) + 1 := by omega
    rw [this, Int.pow_succ]; omega
  have s : 32 - (k + 1) = 31 - k := by omega
  unfold Dig
  rw [s]
  refine ⟨⟨2 * q + 1, ?_⟩, hn, ?_, ?_⟩
  · rw [hb, hq, e]; generalize 2 ^ (31 - k) = p; grind
  · rw [e'] at h2
    have : (b : Int) = a + 2 ^ (31 - k) := by rw [hb]; simp
    rw [this]
    have e4 : (a : Int) + 2 ^ (31 - k) + 2 ^ (31 - k) = a + (2 ^ (31 - k) + 2 ^ (31 - k)) := by omega
    rw [e4]; exact h2
  · omega
theorem dig_no {n : Int} {k a b : Nat} (hk : k < 32) (h : Dig n k a) (hb : b = a + 2 ^ (31 - k)) (hn : n < (b : Int) * b) : Dig n (k + 1) a := by
  obtain ⟨⟨q, hq⟩, h1, h2, h3⟩ := h
  have e := pow_half k hk
  have s : 32 - (k + 1) = 31 - k := by omega
  unfold Dig
  rw [s]
  refine ⟨⟨2 * q, ?_⟩, h1, ?_, ?_⟩
  · rw [hq, e]; generalize 2 ^ (31 - k) = p; grind
  · have : (b : Int) = a + 2 ^ (31 - k) := by rw [hb]; simp
    rw [← this]; exact hn
  · have := Nat.two_pow_pos (31 - k)
    omega
theorem dig_sq {n : Int} {k a b : Nat} (hk : k < 32) (h : Dig n k a) (hb : b = a + 2 ^ (31 - k)) : (b : Int) * b ≤ 18446744065119617025 := by
  obtain ⟨_, _, _, h3⟩ := h
  have e := pow_half k hk
  have : (1 : Nat) ≤ 2 ^ (31 - k) := Nat.one_le_two_pow
  have hb' : b ≤ 4294967295 := by omega
  have : b * b ≤ 4294967295 * 4294967295 := Nat.mul_le_mul hb' hb'
  omega
theorem dig_end {n : Int} {a : Nat} (h : Dig n 32 a) : (a : Int) = root n := by
  obtain ⟨_, h1, h2, _⟩ := h
  exact root_unique (by omega) h1 (by simpa using h2)

theorem p_root (n : Int) (w : World) (h : 0 ≤ n) (h2 : n ≤ 9223372036854775807) :
    Calls Tryz.prog 173 #[.int .i64 n] w fun e w' => e = .returned (.int .i64 (root n)) ∧ w = w' := by
  go_enter Tryz.func173, Tryz.ntmps173
  go_wp2
  go_loop [3, 6] (fun r i => ∃ k a : Nat, k ≤ 32 ∧ i = .int .i64 k ∧ r = .int .u64 a ∧ Dig n k a) (fun _ i => 32 - (intOf i).toNat)
  case atStart => exact ⟨0, 0, by omega, rfl, rfl, dig_start h h2⟩
  case round =>
    obtain ⟨k, a, hk, rfl, rfl, hd⟩ := hrel
    by_cases hlt : k < 32
    · have hq := hd.1
      obtain ⟨q, hq⟩ := hq
      have ha : a < 4294967296 := by
        have := hd.2.2.2
        have : (1 : Nat) ≤ 2 ^ (32 - k) := Nat.one_le_two_pow
        omega
      obtain ⟨b, e, hb⟩ := or_step a q k hlt hq ha
      have hs := dig_sq hlt hd hb
      have hs0 : (0 : Int) ≤ (b : Int) * b := Int.mul_nonneg (by omega) (by omega)
      have Hb := hide hb
      have Hd := hide hd
      clear hb hq hd
      go_wp2
      · go_round
        case rel => exact ⟨k + 1, b, by omega, by go_num, rfl, dig_yes hlt (unhide Hd) (unhide Hb) (by assumption)⟩
        case measure => simp [intOf]; omega
      · go_round
        case rel => exact ⟨k + 1, a, by omega, by go_num, rfl, dig_no hlt (unhide Hd) (unhide Hb) (by assumption)⟩
        case measure => simp [intOf]; omega
    · obtain rfl : k = 32 := by omega
      have Hd := hide hd
      have ha : a < 4294967296 := by
        have := hd.2.2.2
        omega
      clear hd
      go_wp2
      go_ret
      exact ⟨ret_int (dig_end (unhide Hd)), rfl⟩

/-- The same for the document's own root: it halves a bit, and keeps away from squares that are too great. -/
def bitOf (k : Nat) : Nat := if k ≤ 31 then 2 ^ (31 - k) else 0
theorem bit_next (k : Nat) (h : k ≤ 31) : (bitOf k : Int) / 2 = (bitOf (k + 1) : Int) := by
  unfold bitOf
  rw [if_pos h]
  split
  · have : 31 - k = (31 - (k + 1)) + 1 := by omega
    rw [this, Nat.pow_succ]; generalize 2 ^ (31 - (k + 1)) = p; omega
  · obtain rfl : k = 31 := by omega
    rfl
theorem bit_pos (k : Nat) (h : k ≤ 31) : 0 < bitOf k ∧ bitOf k ≤ 2147483648 := by
  unfold bitOf
  rw [if_pos h]
  have h2 : (2 : Nat) ^ (31 - k) ≤ 2 ^ 31 := Nat.pow_le_pow_right (by omega) (by omega)
  have := Nat.two_pow_pos (31 - k)
  omega
theorem bit_over : bitOf 32 = 0 := rfl
theorem dig_big {n : Int} {a : Nat} (h : n ≤ 9223372036854775807) (hb : 3037000499 < (a : Int)) : n < (a : Int) * a := by
  have h1 : (3037000500 : Int) ≤ a := by omega
  have : (3037000500 : Int) * 3037000500 ≤ a * a := Int.mul_le_mul h1 h1 (by omega) (by omega)
  omega
theorem dig_small {a : Nat} (hb : (a : Int) ≤ 3037000499) : 0 ≤ (a : Int) * a ∧ (a : Int) * a ≤ 9223372030926249001 := by
  have h1 : a ≤ 3037000499 := by omega
  have : a * a ≤ 3037000499 * 3037000499 := Nat.mul_le_mul h1 h1
  omega
/-! ### Quotients -/
theorem p_beyond (n m : Int) (w : World) (h1 : -9223372036854775807 ≤ m) (h2 : m ≤ 9223372036854775807) :
    Calls Tryz.prog 136 #[.int .i64 n, .int .i64 m] w fun e w' => e = .returned (.bool (decide (n < -m) || decide (m < n))) ∧ w = w' := by
  go_enter Tryz.func136, Tryz.ntmps136
  go_wp2
  all_goals
    go_ret
    exact ⟨rfl, rfl⟩
theorem p_floor (n d : Int) (w : World) (hd : 0 < d) (hd2 : d ≤ 9223372036854775807) (h1 : -9223372036854775807 ≤ n) (h2 : n ≤ 9223372036854775807) :
    Calls Tryz.prog 137 #[.int .i64 n, .int .i64 d] w fun e w' => e = .returned (.int .i64 (n / d)) ∧ w = w' := by
  have b := abs_ediv_le (n := n) hd
  go_enter Tryz.func137, Tryz.ntmps137
  go_wp2
  · go_ret
    have h : n.tmod d < 0 := by assumption
    have e := down_neg hd h
    exact ⟨ret_int (by rw [← e]; show wrap64 _ = _; rw [e]; exact IntWalk.wrap64_in _ ⟨by omega, by omega⟩), rfl⟩
  · go_ret
    have h : 0 ≤ n.tmod d := by assumption
    have e := down_pos (n := n) hd (by omega)
    exact ⟨ret_int e, rfl⟩
theorem p_nearest (n d : Int) (w : World) (hd : 0 < d) (hd2 : d ≤ 2305843009213693952) (h1 : -2305843009213693952 ≤ n) (h2 : n ≤ 2305843009213693952) :
    Calls Tryz.prog 104 #[.int .i64 n, .int .i64 d] w fun e w' => e = .returned (.int .i64 (near n d)) ∧ w = w' := by
  have e0 : (2 * n + d) / (2 * d) = near n d := by unfold near; rfl
  have E := hide e0
  clear e0
  go_enter Tryz.func104, Tryz.ntmps104
  go_wp2_with (go_at_call 137; refine (p_floor _ _ _ (by omega) (by omega) (by omega) (by omega)).mono ?_; rintro e w' ⟨rfl, rfl⟩)
  go_ret
  exact ⟨ret_int (unhide E), rfl⟩
/-- Are the numbers those of a quotient? -/
def inQ (n d : Int) : Bool := decide (-2305843009213693952 ≤ n ∧ n ≤ 2305843009213693952 ∧ 1 ≤ d ∧ d ≤ 2305843009213693952)
def flV (n d : Int) : Int := if inQ n d then n / d else 0
def neV (n d : Int) : Int := if inQ n d then near n d else 0
def quE (n d : Int) : Int := if inQ n d then 0 else 3
theorem p_isQuotient (n d : Int) (w : World) :
    Calls Tryz.prog 103 #[.int .i64 n, .int .i64 d] w fun e w' => e = .returned (.bool (inQ n d)) ∧ w = w' := by
  have fin : ∀ b : Bool, (b = true ↔ (-2305843009213693952 ≤ n ∧ n ≤ 2305843009213693952 ∧ 1 ≤ d ∧ d ≤ 2305843009213693952)) → b = inQ n d := by
    intro b h; unfold inQ; rw [Bool.eq_iff_iff, h, decide_eq_true_iff]
  have F := hide fin
  clear fin
  by_cases c1 : n < -2305843009213693952
  · go_enter Tryz.func103, Tryz.ntmps103
    go_wp2
    go_ret
    exact ⟨ret_bool (unhide F _ (by simp; omega)), rfl⟩
  by_cases c2 : 2305843009213693952 < n
  · go_enter Tryz.func103, Tryz.ntmps103
    go_wp2
    go_ret
    exact ⟨ret_bool (unhide F _ (by simp; omega)), rfl⟩
  by_cases c3 : 1 ≤ d
  · go_enter Tryz.func103, Tryz.ntmps103
    go_wp2
    go_ret
    exact ⟨ret_bool (unhide F _ (by simp; omega)), rfl⟩
  · go_enter Tryz.func103, Tryz.ntmps103
    go_wp2
    go_ret
    exact ⟨ret_bool (unhide F _ (by simp; omega)), rfl⟩
theorem inQ_bd {n d : Int} (h : inQ n d = true) : -2305843009213693952 ≤ n ∧ n ≤ 2305843009213693952 ∧ 1 ≤ d ∧ d ≤ 2305843009213693952 := of_decide_eq_true h
theorem inQ_no {n d : Int} (h : inQ n d = false) : ¬ (-2305843009213693952 ≤ n ∧ n ≤ 2305843009213693952 ∧ 1 ≤ d ∧ d ≤ 2305843009213693952) := of_decide_eq_false h
theorem p_Nearest (n d : Int) (w : World) :
    Calls Tryz.prog 55 #[.int .i64 n, .int .i64 d] w fun e w' => e = .returned (.tuple #[.int .i64 (neV n d), .int .i64 (quE n d)]) ∧ w = w' := by
  unfold neV quE
  cases hq : inQ n d
  · go_enter Tryz.func55, Tryz.ntmps55
    go_wp2_with (go_at_call 103; refine (p_isQuotient _ _ _).mono ?_; rintro e w' ⟨rfl, rfl⟩)
    go_ret2
    exact ⟨rfl, rfl⟩
  · obtain ⟨b1, b2, b3, b4⟩ := inQ_bd hq
    go_enter Tryz.func55, Tryz.ntmps55
    go_wp2_with (first | (go_at_call 103; refine (p_isQuotient _ _ _).mono ?_; rintro e w' ⟨rfl, rfl⟩) | (go_at_call 104; refine (p_nearest _ _ _ (by omega) (by omega) (by omega) (by omega)).mono ?_; rintro e w' ⟨rfl, rfl⟩))
    go_ret2
    exact ⟨rfl, rfl⟩
def roV (n : Int) : Int := if n < 0 then 0 else root n
def roE (n : Int) : Int := if n < 0 then 2 else 0
theorem p_Root (n : Int) (w : World) (h : n ≤ 9223372036854775807) :
    Calls Tryz.prog 146 #[.int .i64 n] w fun e w' => e = .returned (.tuple #[.int .i64 (roV n), .int .i64 (roE n)]) ∧ w = w' := by
  unfold roV roE
  by_cases hn : n < 0
  · go_enter Tryz.func146, Tryz.ntmps146
    go_wp2_with fail
    go_ret2
    exact ⟨rfl, rfl⟩
  · go_enter Tryz.func146, Tryz.ntmps146
    go_wp2_with (go_at_call 173; refine (p_root _ _ (by omega) (by omega)).mono ?_; rintro e w' ⟨rfl, rfl⟩)
    go_ret2
    exact ⟨rfl, rfl⟩
end Go.Proofs.YtdehnokcjnbjoaaGreat
