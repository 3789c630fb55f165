/- What the functions on points return, of the program and of the document's own answers. What the functions on numbers return, of the program and of the document's own answers: quotients rounded down and nearest, roots. -/
import Derived.Test.YthifcalemhpmoaaGreatProg
import Derived.Test.YthifcalemhpmoaaGreatMath
import Derived.WalkKit
import Derived.OwnWalk
import Derived.Outline
import Derived.Handy
import Derived.WalkLawsBesides
import Derived.Laws.BitsAllLaws
import Derived.Laws.BitsLemmas
import Derived.Below
import Derived.Deep.RegionHeld3
import Derived.Deep.QuietTactic
import Derived.BigQuiet
namespace Go.Proofs.YthifcalemhpmoaaGreat
open Go.RowKit Go.Proofs.Gn
theorem hide {p : Prop} (h : p) : Hid p := h
theorem unhide {p : Prop} (h : Hid p) : p := h
theorem ret_int {k : IntKind} {a b : Int} (h : a = b) : Ending.returned (.int k a) = .returned (.int k b) := by rw [h]
theorem ret_bool {a b : Bool} (h : a = b) : Ending.returned (.bool a) = .returned (.bool b) := by rw [h]

/-! ### The digits of a root -/
theorem u64_or_nat (a b : Nat) (ha : a < 18446744073709551616) (hb : b < 18446744073709551616) : bits .or .u64 (a : Int) (b : Int) = ((a ||| b : Nat) : Int) := by
  have hx : a ||| b < 2 ^ 64 := Nat.or_lt_two_pow (by omega) (by omega)
  have ho : ∀ c : Nat, c < 18446744073709551616 → (BitVec.ofInt 64 (c : Int)).toNat = c := fun c hc => by
    rw [BitVec.ofInt_natCast, BitVec.toNat_ofNat]; exact Nat.mod_eq_of_lt (by omega)
  show IntKind.u64.wrap ((BitVec.ofInt 64 (a : Int) ||| BitVec.ofInt 64 (b : Int)).toNat : Int) = _
  rw [BitVec.toNat_or, ho a ha, ho b hb, IntKind.wrap_u64]
  omega
theorem or_step (a q k : Nat) (hk : k < 32) (ha : a = q * 2 ^ (32 - k)) (hq : a < 4294967296) :
    ∃ b : Nat, bits .or .u64 (a : Int) (IntKind.u64.wrap (2 ^ (31 - k))) = (b : Int) ∧ b = a + 2 ^ (31 - k) := by
  refine ⟨_, ?_, rfl⟩
  have h1 : (2 : Nat) ^ (31 - k) < 2 ^ (32 - k) := Nat.pow_lt_pow_right (by omega) (by omega)
  have h2 : (2 : Nat) ^ (31 - k) ≤ 2 ^ 31 := Nat.pow_le_pow_right (by omega) (by omega)
  have e : IntKind.u64.wrap (2 ^ (31 - k)) = ((2 ^ (31 - k) : Nat) : Int) := by
    rw [IntKind.wrap_u64]
    have : (2 : Int) ^ (31 - k) = ((2 ^ (31 - k) : Nat) : Int) := by simp
    rw [this]
    generalize (2 : Nat) ^ (31 - k) = p at *
    omega
  have e3 : q * 2 ^ (32 - k) + 2 ^ (31 - k) = q * 2 ^ (32 - k) ||| 2 ^ (31 - k) := by
    rw [Nat.mul_comm q, Nat.two_pow_add_eq_or_of_lt h1]
  rw [e, u64_or_nat _ _ (by omega) (by omega), ha, e3]
/-- What is known of the root when the digits from 31 down to 32 - k are found. -/
def Dig (n : Int) (k a : Nat) : Prop := (∃ q, a = q * 2 ^ (32 - k)) ∧ (a : Int) * a ≤ n ∧ n < ((a : Int) + 2 ^ (32 - k)) * (a + 2 ^ (32 - k)) ∧ a + 2 ^ (32 - k) ≤ 4294967296
theorem dig_start {n : Int} (h : 0 ≤ n) (h2 : n ≤ 9223372036854775807) : Dig n 0 0 := ⟨⟨0, by simp⟩, by simpa using h, by simp; omega, by simp⟩
theorem pow_half (k : Nat) (h : k < 32) : (2 : Nat) ^ (32 - k) = 2 ^ (31 - k) + 2 ^ (31 - k) := by
  have : 32 - k = (31 - k) + 1 := by omega
  rw [this, Nat.pow_succ]; omega
theorem dig_yes {n : Int} {k a b : Nat} (hk : k < 32) (h : Dig n k a) (hb : b = a + 2 ^ (31 - k)) (hn : (b : Int) * b ≤ n) : Dig n (k + 1) b := by
  obtain ⟨⟨q, hq⟩, h1, h2, h3⟩ := h
  have e := pow_half k hk
  have e' : (2 : Int) ^ (32 - k) = 2 ^ (31 - k) + 2 ^ (31 - k) := by
    have : 32 - k = (31 - k) + 1 := by omega
    rw [this, Int.pow_succ]; omega
  have s : 32 - (k + 1) = 31 - k := by omega
  unfold Dig
  rw [s]
  refine ⟨⟨2 * q + 1, ?_⟩, hn, ?_, ?_⟩
  · rw [hb, hq, e]; generalize 2 ^ (31 - k) = p; grind
  · rw [e'] at h2
    have : (b : Int) = a + 2 ^ (31 - k) := by rw [hb]; simp
    rw [this]
    have e4 : (a : Int) + 2 ^ (31 - k) + 2 ^ (31 - k) = a + (2 ^ (31 - k) + 2 ^ (31 - k)) := by omega
    rw [e4]; exact h2
  · omega
theorem dig_no {n : Int} {k a b : Nat} (hk : k < 32) (h : Dig n k a) (hb : b = a + 2 ^ (31 - k)) (hn : n < (b : Int) * b) : Dig n (k + 1) a := by
  obtain ⟨⟨q, hq⟩, h1, h2, h3⟩ := h
  have e := pow_half k hk
  have s : 32 - (k + 1) = 31 - k := by omega
  unfold Dig
  rw [s]
  refine ⟨⟨2 * q, ?_⟩, h1, ?_, ?_⟩
  · rw [hq, e]; generalize 2 ^ (31 - k) = p; grind
  · have : (b : Int) = a + 2 ^ (31 - k) := by rw [hb]; simp
    rw [← this]; exact hn
  · have := Nat.two_pow_pos (31 - k)
    omega
theorem dig_sq {n : Int} {k a b : Nat} (hk : k < 32) (h : Dig n k a) (hb : b = a + 2 ^ (31 - k)) : (b : Int) * b ≤ 18446744065119617025 := by
  obtain ⟨_, _, _, h3⟩ := h
  have e := pow_half k hk
  have : (1 : Nat) ≤ 2 ^ (31 - k) := Nat.one_le_two_pow
  have hb' : b ≤ 4294967295 := by omega
  have : b * b ≤ 4294967295 * 4294967295 := Nat.mul_le_mul hb' hb'
  omega
theorem dig_end {n : Int} {a : Nat} (h : Dig n 32 a) : (a : Int) = root n := by
  obtain ⟨_, h1, h2, _⟩ := h
  exact root_unique (by omega) h1 (by simpa using h2)

theorem p_root (n : Int) (w : World) (h : 0 ≤ n) (h2 : n ≤ 9223372036854775807) :
    Calls Tryz.prog 113 #[.int .i64 n] w fun e w' => e = .returned (.int .i64 (root n)) ∧ w = w' := by
  go_enter Tryz.func113, Tryz.ntmps113
  go_wp2
  go_loop [3, 6] (fun r i => ∃ k a : Nat, k ≤ 32 ∧ i = .int .i64 k ∧ r = .int .u64 a ∧ Dig n k a) (fun _ i => 32 - (intOf i).toNat)
  case atStart => exact ⟨0, 0, by omega, rfl, rfl, dig_start h h2⟩
  case round =>
    obtain ⟨k, a, hk, rfl, rfl, hd⟩ := hrel
    by_cases hlt : k < 32
    · have hq := hd.1
      obtain ⟨q, hq⟩ := hq
      have ha : a < 4294967296 := by
        have := hd.2.2.2
        have : (1 : Nat) ≤ 2 ^ (32 - k) := Nat.one_le_two_pow
        omega
      obtain ⟨b, e, hb⟩ := or_step a q k hlt hq ha
      have hs := dig_sq hlt hd hb
      have hs0 : (0 : Int) ≤ (b : Int) * b := Int.mul_nonneg (by omega) (by omega)
      have Hb := hide hb
      have Hd := hide hd
      clear hb hq hd
      go_wp2
      · go_round
        case rel => exact ⟨k + 1, b, by omega, by go_num, rfl, dig_yes hlt (unhide Hd) (unhide Hb) (by assumption)⟩
        case measure => simp [intOf]; omega
      · go_round
        case rel => exact ⟨k + 1, a, by omega, by go_num, rfl, dig_no hlt (unhide Hd) (unhide Hb) (by assumption)⟩
        case measure => simp [intOf]; omega
    · obtain rfl : k = 32 := by omega
      have Hd := hide hd
      have ha : a < 4294967296 := by
        have := hd.2.2.2
        omega
      clear hd
      go_wp2
      go_ret
      exact ⟨ret_int (dig_end (unhide Hd)), rfl⟩

/-- The same for the document's own root: it halves a bit, and keeps away from squares that are too great. -/
def bitOf (k : Nat) : Nat := if k ≤ 31 then 2 ^ (31 - k) else 0
theorem bit_next (k : Nat) (h : k ≤ 31) : (bitOf k : Int) / 2 = (bitOf (k + 1) : Int) := by
  unfold bitOf
  rw [if_pos h]
  split
  · have : 31 - k = (31 - (k + 1)) + 1 := by omega
    rw [this, Nat.pow_succ]; generalize 2 ^ (31 - (k + 1)) = p; omega
  · obtain rfl : k = 31 := by omega
    rfl
theorem bit_pos (k : Nat) (h : k ≤ 31) : 0 < bitOf k ∧ bitOf k ≤ 2147483648 := by
  unfold bitOf
  rw [if_pos h]
  have h2 : (2 : Nat) ^ (31 - k) ≤ 2 ^ 31 := Nat.pow_le_pow_right (by omega) (by omega)
  have := Nat.two_pow_pos (31 - k)
  omega
theorem bit_over : bitOf 32 = 0 := rfl
theorem dig_big {n : Int} {a : Nat} (h : n ≤ 9223372036854775807) (hb : 3037000499 < (a : Int)) : n < (a : Int) * a := by
  have h1 : (3037000500 : Int) ≤ a := by omega
  have : (3037000500 : Int) * 3037000500 ≤ a * a := Int.mul_le_mul h1 h1 (by omega) (by omega)
  omega
theorem dig_small {a : Nat} (hb : (a : Int) ≤ 3037000499) : 0 ≤ (a : Int) * a ∧ (a : Int) * a ≤ 9223372030926249001 := by
  have h1 : a ≤ 3037000499 := by omega
  have : a * a ≤ 3037000499 * 3037000499 := Nat.mul_le_mul h1 h1
  omega
/-! ### Quotients -/
theorem p_beyond (n m : Int) (w : World) (h1 : -9223372036854775807 ≤ m) (h2 : m ≤ 9223372036854775807) :
    Calls Tryz.prog 75 #[.int .i64 n, .int .i64 m] w fun e w' => e = .returned (.bool (decide (n < -m) || decide (m < n))) ∧ w = w' := by
  go_enter Tryz.func75, Tryz.ntmps75
  go_wp2
  all_goals
    go_ret
    exact ⟨rfl, rfl⟩
theorem p_floor (n d : Int) (w : World) (hd : 0 < d) (hd2 : d ≤ 9223372036854775807) (h1 : -9223372036854775807 ≤ n) (h2 : n ≤ 9223372036854775807) :
    Calls Tryz.prog 76 #[.int .i64 n, .int .i64 d] w fun e w' => e = .returned (.int .i64 (n / d)) ∧ w = w' := by
  have b := abs_ediv_le (n := n) hd
  go_enter Tryz.func76, Tryz.ntmps76
  go_wp2
  · go_ret
    have h : n.tmod d < 0 := by assumption
    have e := down_neg hd h
    exact ⟨ret_int (by rw [← e]; show wrap64 _ = _; rw [e]; exact IntWalk.wrap64_in _ ⟨by omega, by omega⟩), rfl⟩
  · go_ret
    have h : 0 ≤ n.tmod d := by assumption
    have e := down_pos (n := n) hd (by omega)
    exact ⟨ret_int e, rfl⟩
theorem p_nearest (n d : Int) (w : World) (hd : 0 < d) (hd2 : d ≤ 2305843009213693952) (h1 : -2305843009213693952 ≤ n) (h2 : n ≤ 2305843009213693952) :
    Calls Tryz.prog 42 #[.int .i64 n, .int .i64 d] w fun e w' => e = .returned (.int .i64 (near n d)) ∧ w = w' := by
  have e0 : (2 * n + d) / (2 * d) = near n d := by unfold near; rfl
  have E := hide e0
  clear e0
  go_enter Tryz.func42, Tryz.ntmps42
  go_wp2_with (go_at_call 76; refine (p_floor _ _ _ (by omega) (by omega) (by omega) (by omega)).mono ?_; rintro e w' ⟨rfl, rfl⟩)
  go_ret
  exact ⟨ret_int (unhide E), rfl⟩
/-- Are the numbers those of a quotient? -/
def inQ (n d : Int) : Bool := decide (-2305843009213693952 ≤ n ∧ n ≤ 2305843009213693952 ∧ 1 ≤ d ∧ d ≤ 2305843009213693952)
def flV (n d : Int) : Int := if inQ n d then n / d else 0
def neV (n d : Int) : Int := if inQ n d then near n d else 0
def quE (n d : Int) : Int := if inQ n d then 0 else 3
theorem p_isQuotient (n d : Int) (w : World) :
    Calls Tryz.prog 41 #[.int .i64 n, .int .i64 d] w fun e w' => e = .returned (.bool (inQ n d)) ∧ w = w' := by
  have fin : ∀ b : Bool, (b = true ↔ (-2305843009213693952 ≤ n ∧ n ≤ 2305843009213693952 ∧ 1 ≤ d ∧ d ≤ 2305843009213693952)) → b = inQ n d := by
    intro b h; unfold inQ; rw [Bool.eq_iff_iff, h, decide_eq_true_iff]
  have F := hide fin
  clear fin
  by_cases c1 : n < -2305843009213693952
  · go_enter Tryz.func41, Tryz.ntmps41
    go_wp2
    go_ret
    exact ⟨ret_bool (unhide F _ (by simp; omega)), rfl⟩
  by_cases c2 : 2305843009213693952 < n
  · go_enter Tryz.func41, Tryz.ntmps41
    go_wp2
    go_ret
    exact ⟨ret_bool (unhide F _ (by simp; omega)), rfl⟩
  by_cases c3 : 1 ≤ d
  · go_enter Tryz.func41, Tryz.ntmps41
    go_wp2
    go_ret
    exact ⟨ret_bool (unhide F _ (by simp; omega)), rfl⟩
  · go_enter Tryz.func41, Tryz.ntmps41
    go_wp2
    go_ret
    exact ⟨ret_bool (unhide F _ (by simp; omega)), rfl⟩
theorem inQ_bd {n d : Int} (h : inQ n d = true) : -2305843009213693952 ≤ n ∧ n ≤ 2305843009213693952 ∧ 1 ≤ d ∧ d ≤ 2305843009213693952 := of_decide_eq_true h
theorem inQ_no {n d : Int} (h : inQ n d = false) : ¬ (-2305843009213693952 ≤ n ∧ n ≤ 2305843009213693952 ∧ 1 ≤ d ∧ d ≤ 2305843009213693952) := of_decide_eq_false h
theorem p_Nearest (n d : Int) (w : World) :
    Calls Tryz.prog 17 #[.int .i64 n, .int .i64 d] w fun e w' => e = .returned (.tuple #[.int .i64 (neV n d), .int .i64 (quE n d)]) ∧ w = w' := by
  unfold neV quE
  cases hq : inQ n d
  · go_enter Tryz.func17, Tryz.ntmps17
    go_wp2_with (go_at_call 41; refine (p_isQuotient _ _ _).mono ?_; rintro e w' ⟨rfl, rfl⟩)
    go_ret2
    exact ⟨rfl, rfl⟩
  · obtain ⟨b1, b2, b3, b4⟩ := inQ_bd hq
    go_enter Tryz.func17, Tryz.ntmps17
    go_wp2_with (first | (go_at_call 41; refine (p_isQuotient _ _ _).mono ?_; rintro e w' ⟨rfl, rfl⟩) | (go_at_call 42; refine (p_nearest _ _ _ (by omega) (by omega) (by omega) (by omega)).mono ?_; rintro e w' ⟨rfl, rfl⟩))
    go_ret2
    exact ⟨rfl, rfl⟩
def roV (n : Int) : Int := if n < 0 then 0 else root n
def roE (n : Int) : Int := if n < 0 then 2 else 0
end Go.Proofs.YthifcalemhpmoaaGreat
namespace Go.Proofs.YthifcalemhpmoaaGreat
open Go.RowKit Go.Proofs.Gn
/-- Only new memory has been written. -/
def Up (w w' : World) : Prop := Below w.heap.size w w'
theorem up_refl (w : World) : Up w w := Below.refl _ _
theorem up_trans {a b c : World} (h : Up a b) (k : Up b c) : Up a c := Below.trans h (Below.mono k (Below.size h))
theorem up_alloc {a b : World} (h : Up a b) (o : Obj) : Up a (b.alloc o) := Below.alloc h (Below.size h) o
theorem up_drew {a b : World} (h : Up a b) : Up a b.drew := Below.drew h
theorem up_drewN {a b : World} (h : Up a b) (n : Nat) : Up a (b.drewN n) := ⟨h.os, h.tape, h.output, h.size, h.block⟩
theorem up_set {a b : World} (h : Up a b) {p : Addr} (hp : a.heap.size ≤ p.block) (v : Value) : Up a (b.setCell p v) := Below.setCell h hp v
theorem up_size {a b : World} (h : Up a b) : a.heap.size ≤ b.heap.size := Below.size h
theorem up_cell {a b : World} (h : Up a b) {p : Addr} {v : Value} (hc : a.cell? p = some v) : b.cell? p = some v := (Below.cell h (World.block_lt_of_cell? _ _ hc)).trans hc
theorem up_frozen {a b : World} (h : Up a b) {p : Addr} {v : Value} (hc : a.cell? p = some v) (hf : a.frozen? p = false) : b.frozen? p = false := (Below.frozen h (World.block_lt_of_cell? _ _ hc)).trans hf
theorem alloc_cell {W : World} {p : Addr} {v : Value} (o : Obj) (hc : W.cell? p = some v) : (W.alloc o).cell? p = some v := up_cell (up_alloc (up_refl W) o) hc
theorem alloc_frozen {W : World} {p : Addr} {v : Value} (o : Obj) (hc : W.cell? p = some v) (hf : W.frozen? p = false) : (W.alloc o).frozen? p = false := up_frozen (up_alloc (up_refl W) o) hc hf
/-- What was there reads as before. -/
theorem bcell {W w1 : World} (hb : Up W w1) : (∀ b o, b < W.heap.size → w1.cell? ⟨b, o, none⟩ = W.cell? ⟨b, o, none⟩) ∧ (∀ b o, b < W.heap.size → w1.frozen? ⟨b, o, none⟩ = W.frozen? ⟨b, o, none⟩) :=
  ⟨fun b o h => Below.cell hb (p := ⟨b, o, none⟩) h, fun b o h => Below.frozen hb (p := ⟨b, o, none⟩) h⟩
/-- What stays when only new memory is written. -/
def Stays (S : World → Prop) : Prop := ∀ W w1, Up W w1 → S W → S w1
theorem st_and {A B : World → Prop} (a : Stays A) (b : Stays B) : Stays fun w => A w ∧ B w := fun W w1 hb h => ⟨a W w1 hb h.1, b W w1 hb h.2⟩
theorem st_cell (p : Addr) (v : Value) : Stays fun w => w.cell? p = some v := fun _ _ hb h => up_cell hb h
theorem st_up (w0 : World) : Stays fun w => Up w0 w := fun _ _ hb h => up_trans h hb
/-- A point as a value. -/
abbrev pt (x y : Int) : Value := .agg #[.int .i64 x, .int .i64 y]
/-- Far from the limits of the numbers: sums and products of differences fit. -/
def Bd (x : Int) : Prop := -134217728 ≤ x ∧ x ≤ 134217728
theorem mul_bd {u v : Int} (h1 : -268435456 ≤ u) (h2 : u ≤ 268435456) (h3 : -268435456 ≤ v) (h4 : v ≤ 268435456) : -72057594037927936 ≤ u * v ∧ u * v ≤ 72057594037927936 := by
  have a : (u + 268435456) * (v + 268435456) ≥ 0 := Int.mul_nonneg (by omega) (by omega)
  have b : (268435456 - u) * (268435456 - v) ≥ 0 := Int.mul_nonneg (by omega) (by omega)
  have c : (u + 268435456) * (268435456 - v) ≥ 0 := Int.mul_nonneg (by omega) (by omega)
  have d : (268435456 - u) * (v + 268435456) ≥ 0 := Int.mul_nonneg (by omega) (by omega)
  simp only [Int.add_mul, Int.mul_add, Int.sub_mul, Int.mul_sub] at a b c d
  omega

theorem p_minus (a b c d : Int) (w : World) (h1 : -4611686018427387904 ≤ a - c) (h2 : a - c ≤ 4611686018427387904) (h3 : -4611686018427387904 ≤ b - d) (h4 : b - d ≤ 4611686018427387904) :
    Calls Tryz.prog 112 #[pt a b, pt c d] w fun e w' => e = .returned (pt (a - c) (b - d)) ∧ Up w w' := by
  go_enter Tryz.func112, Tryz.ntmps112
  go_wp2
  go_returns
  exact ⟨rfl, (by repeat' (first | (with_reducible exact up_refl _) | (with_reducible assumption) | (with_reducible refine up_alloc ?_ _) | (with_reducible refine up_drew ?_) | (refine up_trans ?_ (by with_reducible assumption))))⟩
theorem p_plus (a b c d : Int) (w : World) (h1 : -4611686018427387904 ≤ a + c) (h2 : a + c ≤ 4611686018427387904) (h3 : -4611686018427387904 ≤ b + d) (h4 : b + d ≤ 4611686018427387904) :
    Calls Tryz.prog 116 #[pt a b, pt c d] w fun e w' => e = .returned (pt (a + c) (b + d)) ∧ Up w w' := by
  go_enter Tryz.func116, Tryz.ntmps116
  go_wp2
  go_returns
  exact ⟨rfl, (by repeat' (first | (with_reducible exact up_refl _) | (with_reducible assumption) | (with_reducible refine up_alloc ?_ _) | (with_reducible refine up_drew ?_) | (refine up_trans ?_ (by with_reducible assumption))))⟩
theorem p_cross (a b c d : Int) (w : World) (h0 : -2305843009213693952 ≤ a * d) (h1 : a * d ≤ 2305843009213693952) (h2 : -2305843009213693952 ≤ b * c) (h3 : b * c ≤ 2305843009213693952) :
    Calls Tryz.prog 142 #[pt a b, pt c d] w fun e w' => e = .returned (.int .i64 (a * d - b * c)) ∧ Up w w' := by
  go_enter Tryz.func142, Tryz.ntmps142
  go_wp2
  go_ret
  exact ⟨rfl, (by repeat' (first | (with_reducible exact up_refl _) | (with_reducible assumption) | (with_reducible refine up_alloc ?_ _) | (with_reducible refine up_drew ?_) | (refine up_trans ?_ (by with_reducible assumption))))⟩
theorem p_dot (a b c d : Int) (w : World) (h0 : -2305843009213693952 ≤ a * c) (h1 : a * c ≤ 2305843009213693952) (h2 : -2305843009213693952 ≤ b * d) (h3 : b * d ≤ 2305843009213693952) :
    Calls Tryz.prog 114 #[pt a b, pt c d] w fun e w' => e = .returned (.int .i64 (a * c + b * d)) ∧ Up w w' := by
  go_enter Tryz.func114, Tryz.ntmps114
  go_wp2
  go_ret
  exact ⟨rfl, (by repeat' (first | (with_reducible exact up_refl _) | (with_reducible assumption) | (with_reducible refine up_alloc ?_ _) | (with_reducible refine up_drew ?_) | (refine up_trans ?_ (by with_reducible assumption))))⟩
/-- What cmp.Compare returns. -/
def cmpV (a b : Int) : Int := if a < b then -1 else if b < a then 1 else 0
theorem c_Compare (a b : Int) (w : World) :
    Calls Tryz.prog 97 #[.int .i64 a, .int .i64 b] w fun e w' => e = .returned (.int .i64 (cmpV a b)) ∧ w = w' := by
  unfold cmpV
  by_cases c1 : a < b
  · go_enter Tryz.func97, Tryz.ntmps97
    go_wp2
    go_ret
    exact ⟨rfl, rfl⟩
  by_cases c2 : b < a
  · go_enter Tryz.func97, Tryz.ntmps97
    go_wp2
    go_ret
    exact ⟨rfl, rfl⟩
  · go_enter Tryz.func97, Tryz.ntmps97
    go_wp2
    go_ret
    exact ⟨rfl, rfl⟩
/-- The turn of three points, before its sign is taken. -/
def det (ax ay bx b_y cx cy : Int) : Int := (bx - ax) * (cy - ay) - (b_y - ay) * (cx - ax)
theorem p_turn (ax ay bx b_y cx cy : Int) (w : World) (h1 : Bd ax) (h2 : Bd ay) (h3 : Bd bx) (h4 : Bd b_y) (h5 : Bd cx) (h6 : Bd cy) :
    Calls Tryz.prog 124 #[pt ax ay, pt bx b_y, pt cx cy] w fun e w' => e = .returned (.int .i64 (cmpV (det ax ay bx b_y cx cy) 0)) ∧ Up w w' := by
  unfold Bd at *
  unfold det
  have m1 := mul_bd (u := bx - ax) (v := cy - ay) (by omega) (by omega) (by omega) (by omega)
  have m2 := mul_bd (u := b_y - ay) (v := cx - ax) (by omega) (by omega) (by omega) (by omega)
  go_enter Tryz.func124, Tryz.ntmps124
  go_wp2
  obtain ⟨W, hW⟩ : ∃ W : World, W = (((w.alloc (Obj.cells #[Value.int IntKind.i64 ax, Value.int IntKind.i64 ay] 62)).alloc (Obj.cells #[Value.int IntKind.i64 bx, Value.int IntKind.i64 b_y] 62)).alloc (Obj.cells #[Value.int IntKind.i64 cx, Value.int IntKind.i64 cy] 62)) := ⟨_, rfl⟩
  rw [← hW]
  have c1 : W.cell? ⟨w.heap.size, 0, none⟩ = some (.int .i64 ax) := by rw [hW]; go_cell
  have c2 : W.cell? ⟨w.heap.size, 1, none⟩ = some (.int .i64 ay) := by rw [hW]; go_cell
  have c3 : W.cell? ⟨w.heap.size + 1, 0, none⟩ = some (.int .i64 bx) := by rw [hW]; go_cell
  have c4 : W.cell? ⟨w.heap.size + 1, 1, none⟩ = some (.int .i64 b_y) := by rw [hW]; go_cell
  have c5 : W.cell? ⟨w.heap.size + 1 + 1, 0, none⟩ = some (.int .i64 cx) := by rw [hW]; go_cell
  have c6 : W.cell? ⟨w.heap.size + 1 + 1, 1, none⟩ = some (.int .i64 cy) := by rw [hW]; go_cell
  have c7 : Up w W := by rw [hW]; exact (by repeat' (first | (with_reducible exact up_refl _) | (with_reducible assumption) | (with_reducible refine up_alloc ?_ _) | (with_reducible refine up_drew ?_) | (refine up_trans ?_ (by with_reducible assumption))))
  clear hW
  have keep := st_and (st_cell ⟨w.heap.size, 0, none⟩ (.int .i64 ax)) (st_and (st_cell ⟨w.heap.size, 1, none⟩ (.int .i64 ay)) (st_and (st_cell ⟨w.heap.size + 1, 0, none⟩ (.int .i64 bx)) (st_and (st_cell ⟨w.heap.size + 1, 1, none⟩ (.int .i64 b_y)) (st_and (st_cell ⟨w.heap.size + 1 + 1, 0, none⟩ (.int .i64 cx)) (st_and (st_cell ⟨w.heap.size + 1 + 1, 1, none⟩ (.int .i64 cy)) (st_up w))))))
  have hkeep := hide keep
  clear keep
  go_region_held3 (fun w' => w'.cell? ⟨w.heap.size, 0, none⟩ = some (.int .i64 ax) ∧ w'.cell? ⟨w.heap.size, 1, none⟩ = some (.int .i64 ay) ∧ w'.cell? ⟨w.heap.size + 1, 0, none⟩ = some (.int .i64 bx) ∧ w'.cell? ⟨w.heap.size + 1, 1, none⟩ = some (.int .i64 b_y) ∧ w'.cell? ⟨w.heap.size + 1 + 1, 0, none⟩ = some (.int .i64 cx) ∧ w'.cell? ⟨w.heap.size + 1 + 1, 1, none⟩ = some (.int .i64 cy) ∧ Up w w')
    ((first | exact ⟨c1, c2, c3, c4, c5, c6, up_drew c7⟩ | (with_reducible assumption) | exact unhide hkeep _ _ hb (by assumption)))
    (first | (go_at_call 112; refine (p_minus _ _ _ _ _ (by omega) (by omega) (by omega) (by omega)).mono ?_; rintro e w1 ⟨rfl, hb⟩) | (go_at_call 142; refine (p_cross _ _ _ _ _ (by omega) (by omega) (by omega) (by omega)).mono ?_; rintro e w1 ⟨rfl, hb⟩) | (go_at_call 97; refine (c_Compare _ _ _).mono ?_; rintro e w1 ⟨rfl, rfl⟩))
  have hB : w1.cell? ⟨w.heap.size, 0, none⟩ = some (.int .i64 ax) ∧ w1.cell? ⟨w.heap.size, 1, none⟩ = some (.int .i64 ay) ∧ w1.cell? ⟨w.heap.size + 1, 0, none⟩ = some (.int .i64 bx) ∧ w1.cell? ⟨w.heap.size + 1, 1, none⟩ = some (.int .i64 b_y) ∧ w1.cell? ⟨w.heap.size + 1 + 1, 0, none⟩ = some (.int .i64 cx) ∧ w1.cell? ⟨w.heap.size + 1 + 1, 1, none⟩ = some (.int .i64 cy) ∧ Up w w1 := by assumption
  have hB1 := hB.2.2.2.2.2.2
  clear hB
  go_wp2
  go_ret
  exact ⟨rfl, hB1⟩

/-! ### Which points are valid -/
def okc (x : Int) : Bool := decide (-16777216 ≤ x ∧ x ≤ 16777216)
theorem okc_yes {x : Int} (h : okc x = true) : -16777216 ≤ x ∧ x ≤ 16777216 := of_decide_eq_true h
theorem okc_no {x : Int} (h : okc x = false) : ¬ (-16777216 ≤ x ∧ x ≤ 16777216) := of_decide_eq_false h
def okp (x y : Int) : Bool := okc x && okc y
theorem okp_yes {x y : Int} (h : okp x y = true) : okc x = true ∧ okc y = true := by simpa [okp] using h
theorem okp_bd {x y : Int} (h : okp x y = true) : Bd x ∧ Bd y := by
  have a := okc_yes (okp_yes h).1
  have b := okc_yes (okp_yes h).2
  unfold Bd; omega
def chk (x y : Int) : Int := if okp x y then 0 else 2
theorem p_beyondM (n : Int) (w : World) : Calls Tryz.prog 75 #[.int .i64 n, .int .i64 16777216] w fun e w' => e = .returned (.bool (!okc n)) ∧ w = w' :=
  (p_beyond n 16777216 w (by omega) (by omega)).mono fun e w' ⟨he, hw⟩ => ⟨by rw [he]; exact ret_bool (by unfold okc; rw [Bool.eq_iff_iff]; simp; try omega), hw⟩
theorem p_Check (x y : Int) (w : World) : Calls Tryz.prog 111 #[pt x y] w fun e w' => e = .returned (.int .i64 (chk x y)) ∧ Up w w' := by
  unfold chk okp
  cases hx : okc x
  · go_enter Tryz.func111, Tryz.ntmps111
    go_wp2_with (go_at_call 75; refine (p_beyondM _ _).mono ?_; rintro e w' ⟨rfl, rfl⟩)
    go_ret
    exact ⟨rfl, (by repeat' (first | (with_reducible exact up_refl _) | (with_reducible assumption) | (with_reducible refine up_alloc ?_ _) | (with_reducible refine up_drew ?_) | (refine up_trans ?_ (by with_reducible assumption))))⟩
  cases hy : okc y
  · go_enter Tryz.func111, Tryz.ntmps111
    go_wp2_with (go_at_call 75; refine (p_beyondM _ _).mono ?_; rintro e w' ⟨rfl, rfl⟩)
    go_ret
    exact ⟨rfl, (by repeat' (first | (with_reducible exact up_refl _) | (with_reducible assumption) | (with_reducible refine up_alloc ?_ _) | (with_reducible refine up_drew ?_) | (refine up_trans ?_ (by with_reducible assumption))))⟩
  · go_enter Tryz.func111, Tryz.ntmps111
    go_wp2_with (go_at_call 75; refine (p_beyondM _ _).mono ?_; rintro e w' ⟨rfl, rfl⟩)
    go_ret
    exact ⟨rfl, (by repeat' (first | (with_reducible exact up_refl _) | (with_reducible assumption) | (with_reducible refine up_alloc ?_ _) | (with_reducible refine up_drew ?_) | (refine up_trans ?_ (by with_reducible assumption))))⟩
end Go.Proofs.YthifcalemhpmoaaGreat
