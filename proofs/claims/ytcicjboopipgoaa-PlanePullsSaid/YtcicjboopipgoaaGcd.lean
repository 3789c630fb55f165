/- Greatest common divisors, of the program and of the document's own answers. -/
import Derived.Test.YtcicjboopipgoaaRot
import Derived.Deep.DeepCutAuto
namespace Go.Proofs.Ytcicjboopipgoaa
open Go.RowKit Go.Proofs.Gn
theorem gcd_step {x y : Nat} : Nat.gcd y (x % y) = Nat.gcd x y := by
  rw [Nat.gcd_comm x y, Nat.gcd_rec y x, Nat.gcd_comm]
theorem p_amount (n : Int) (w : World) (h1 : -9223372036854775807 ≤ n) (h2 : n ≤ 9223372036854775807) :
    Calls Try.prog 107 #[.int .i64 n] w fun e w' => e = .returned (.int .i64 (n.natAbs : Int)) ∧ w = w' := by
  by_cases h : n < -n
  · go_enter Try.func107, Try.ntmps107
    go_wp2
    go_ret
    exact ⟨ret_int (by omega), rfl⟩
  · go_enter Try.func107, Try.ntmps107
    go_wp2
    go_ret
    exact ⟨ret_int (by omega), rfl⟩
theorem p_divisor (x y : Nat) (w : World) (hx : x ≤ 9223372036854775807) (hy : y ≤ 9223372036854775807) :
    Calls Try.prog 106 #[.int .i64 x, .int .i64 y] w fun e w' => e = .returned (.int .i64 (Nat.gcd x y : Int)) ∧ ∃ n, w' = w.drewN n := by
  obtain ⟨g, hg⟩ : ∃ g, Nat.gcd x y = g := ⟨_, rfl⟩
  rw [hg]
  have HG := hide hg
  clear hg
  go_enter Try.func106, Try.ntmps106
  go_wp2
  go_loopw [0, 1] (fun a b wr => ∃ x y : Nat, a = .int .i64 x ∧ b = .int .i64 y ∧ x ≤ 9223372036854775807 ∧ y ≤ 9223372036854775807 ∧ Nat.gcd x y = g ∧ ∃ q, wr = w.drewN q) (fun _ b _ => (intOf b).toNat)
  case atStart => exact ⟨x, y, rfl, rfl, hx, hy, unhide HG, 0, rfl⟩
  case round =>
    obtain ⟨x, y, rfl, rfl, hx, hy, hg, q, hq⟩ := hrel
    have HQ := hide hq
    have HG2 := hide hg
    clear hg hq
    by_cases h0 : y = 0
    · subst h0
      go_wp2
      go_ret
      exact ⟨ret_int (by rw [← unhide HG2, Nat.gcd_zero_right]), q, unhide HQ⟩
    · have hp : 0 < y := by omega
      have hm : x % y < y := Nat.mod_lt _ hp
      go_wp2
      go_quiet (fail)
      go_wp2
      go_roundw
      case rel => exact ⟨y, x % y, rfl, rfl, by omega, by omega, by rw [gcd_step]; exact unhide HG2, _, by rw [unhide HQ, World.drewN_drewN]⟩
      case measure =>
        have e : ((x : Int) % (y : Int)) = ((x % y : Nat) : Int) := (Int.natCast_emod x y).symm
        simp only [intOf, e]
        omega
theorem r_common (k : Nat) : ∀ (x y : Nat) (w : World), y ≤ k → x ≤ 9223372036854775807 → y ≤ 9223372036854775807 →
    Calls Try.prog 108 #[.int .i64 x, .int .i64 y] w fun e w' => e = .returned (.int .i64 (Nat.gcd x y : Int)) ∧ w = w' := by
  induction k with
  | zero =>
    intro x y w hk hx _
    obtain rfl : y = 0 := by omega
    go_enter Try.func108, Try.ntmps108
    go_wp2_with fail
    go_ret
    exact ⟨ret_int (by rw [Nat.gcd_zero_right]), rfl⟩
  | succ k ih =>
    intro x y w hk hx hy
    by_cases h0 : y = 0
    · subst h0
      go_enter Try.func108, Try.ntmps108
      go_wp2_with fail
      go_ret
      exact ⟨ret_int (by rw [Nat.gcd_zero_right]), rfl⟩
    · have hp : 0 < y := by omega
      have hm : x % y < y := Nat.mod_lt _ hp
      have IH := hide ih
      clear ih
      go_enter Try.func108, Try.ntmps108
      go_wp2_with (go_at_call 108; refine (unhide IH y (x % y) _ (by omega) (by omega) (by omega)).mono ?_; rintro e w' ⟨rfl, rfl⟩)
      go_ret
      exact ⟨ret_int (by rw [gcd_step]), rfl⟩

/-- The same, for numbers from 0 on, with a name for what is returned. -/
theorem p_divisorG (a b : Int) (g : Nat) (w : World) (ha : 0 ≤ a) (hb : 0 ≤ b) (ha2 : a ≤ 9223372036854775807) (hb2 : b ≤ 9223372036854775807) (hg : Hid (Nat.gcd a.natAbs b.natAbs = g)) :
    Calls Try.prog 106 #[.int .i64 a, .int .i64 b] w fun e w' => e = .returned (.int .i64 g) ∧ ∃ n, w' = w.drewN n := by
  obtain ⟨x, rfl⟩ := Int.eq_ofNat_of_zero_le ha
  obtain ⟨y, rfl⟩ := Int.eq_ofNat_of_zero_le hb
  refine (p_divisor x y w (by omega) (by omega)).mono fun e w' ⟨he, hw⟩ => ⟨?_, hw⟩
  rw [he]
  have h := unhide hg
  simp only [Int.natAbs_natCast] at h
  rw [h]
theorem r_commonG (a b : Int) (g : Nat) (w : World) (ha : 0 ≤ a) (hb : 0 ≤ b) (ha2 : a ≤ 9223372036854775807) (hb2 : b ≤ 9223372036854775807) (hg : Hid (Nat.gcd a.natAbs b.natAbs = g)) :
    Calls Try.prog 108 #[.int .i64 a, .int .i64 b] w fun e w' => e = .returned (.int .i64 g) ∧ w = w' := by
  obtain ⟨x, rfl⟩ := Int.eq_ofNat_of_zero_le ha
  obtain ⟨y, rfl⟩ := Int.eq_ofNat_of_zero_le hb
  refine (r_common y x y w (Nat.le_refl _) (by omega) (by omega)).mono fun e w' ⟨he, hw⟩ => ⟨?_, hw⟩
  rw [he]
  have h := unhide hg
  simp only [Int.natAbs_natCast] at h
  rw [h]
/-! ### Two turns one after another -/
def boC (c s c' s' : Int) : Int := c * c' - s * s'
def boS (c s c' s' : Int) : Int := s * c' + c * s'
def boG (c s n c' s' n' : Int) : Nat := Nat.gcd (n * n').natAbs (Nat.gcd (boC c s c' s').natAbs (boS c s c' s').natAbs)
/-- Both turns are valid. -/
def boB (c s n c' s' n' : Int) : Bool := rotB c s n && rotB c' s' n'
def boV (c s n c' s' n' v : Int) : Int := if boB c s n c' s' n' && decide (n * n' / (boG c s n c' s' n' : Int) ≤ 16777216) then v.tdiv (boG c s n c' s' n') else 0
def boE (c s n c' s' n' : Int) : Int := if boB c s n c' s' n' then if n * n' / (boG c s n c' s' n' : Int) ≤ 16777216 then 0 else 4 else 2
/-- What is known of the numbers of two valid turns, before the walk. -/
theorem bo_facts {c s n c' s' n' : Int} (r1 : rotB c s n = true) (r2 : rotB c' s' n' = true) : ∃ g1 g : Nat, boG c s n c' s' n' = g ∧
    Hid (Nat.gcd ((c * c' - s * s').natAbs : Int).natAbs ((s * c' + c * s').natAbs : Int).natAbs = g1) ∧ Hid (Nat.gcd (n * n').natAbs ((g1 : Nat) : Int).natAbs = g) ∧ Hid (Nat.gcd ((g1 : Nat) : Int).natAbs (n * n').natAbs = g) ∧
    (0 : Int) < (g : Int) ∧ (g : Int) ≤ n * n' ∧ (g1 : Int) ≤ 288230376151711744 ∧
    (-72057594037927936 ≤ c * c' ∧ c * c' ≤ 72057594037927936) ∧ (-72057594037927936 ≤ s * s' ∧ s * s' ≤ 72057594037927936) ∧ (-72057594037927936 ≤ s * c' ∧ s * c' ≤ 72057594037927936) ∧ (-72057594037927936 ≤ c * s' ∧ c * s' ≤ 72057594037927936) ∧
    (1 ≤ n * n' ∧ n * n' ≤ 72057594037927936) ∧ (0 ≤ n * n' / (g : Int) ∧ n * n' / (g : Int) ≤ n * n') ∧ (n * n').tdiv (g : Int) = n * n' / (g : Int) := by
  obtain ⟨a1, a2, a3, a4, a5, a6, a7⟩ := rotB_yes r1
  obtain ⟨b1, b2, b3, b4, b5, b6, b7⟩ := rotB_yes r2
  have m1 := mul_bd (u := c) (v := c') (by omega) (by omega) (by omega) (by omega)
  have m2 := mul_bd (u := s) (v := s') (by omega) (by omega) (by omega) (by omega)
  have m3 := mul_bd (u := s) (v := c') (by omega) (by omega) (by omega) (by omega)
  have m4 := mul_bd (u := c) (v := s') (by omega) (by omega) (by omega) (by omega)
  have m5 := mul_bd (u := n) (v := n') (by omega) (by omega) (by omega) (by omega)
  have m6 : 1 ≤ n * n' := by have := Int.mul_pos (a := n) (b := n') (by omega) (by omega); omega
  obtain ⟨g1, hg1⟩ : ∃ g1, Nat.gcd (boC c s c' s').natAbs (boS c s c' s').natAbs = g1 := ⟨_, rfl⟩
  have hG : boG c s n c' s' n' = Nat.gcd (n * n').natAbs g1 := by unfold boG; rw [hg1]
  obtain ⟨g, hg⟩ : ∃ g, Nat.gcd (n * n').natAbs g1 = g := ⟨_, rfl⟩
  have hgp : 0 < g := by rw [← hg]; exact Nat.gcd_pos_of_pos_left _ (by omega)
  have hgle : g ≤ (n * n').natAbs := by rw [← hg]; exact Nat.gcd_le_left _ (by omega)
  have hg1le : g1 ≤ (boC c s c' s').natAbs + (boS c s c' s').natAbs := by
    rw [← hg1]
    rcases Nat.eq_zero_or_pos (boC c s c' s').natAbs with h | h
    · rw [h, Nat.gcd_zero_left]; omega
    · have := Nat.gcd_le_left (boS c s c' s').natAbs h; omega
  unfold boC boS at hg1 hg1le
  have hgi : (0 : Int) < (g : Int) := by omega
  have hq := (abs_ediv_le (n := n * n') hgi).1 (by omega)
  refine ⟨g1, g, by rw [hG, hg], hide (by simpa using hg1), hide (by simpa using hg), hide (by rw [Nat.gcd_comm]; simpa using hg), hgi, by omega, by omega, m1, m2, m3, m4, ⟨m6, m5.2⟩, hq, Int.tdiv_eq_ediv_of_nonneg (by omega)⟩
theorem p_Both_1 (c s n c' s' n' : Int) (w : World) (h1 : -9223372036854775808 ≤ c) (h2 : c ≤ 9223372036854775807) (r1 : rotB c s n = false) :
    Calls Try.prog 55 #[rt c s n, rt c' s' n'] w fun e w' => e = .returned (.tuple #[rt 0 0 0, .int .i64 2]) ∧ Up w w' := by
  have e1 : rotE c s n = 2 := by unfold rotE; rw [r1]; rfl
  clear r1
  go_enter Try.func55, Try.ntmps55
  go_wp2_with (go_at_call 53; refine (p_CheckRot _ _ _ _ (by omega) (by omega)).mono ?_; rintro e w' ⟨rfl, hb⟩; have k2_0 : w'.cell? ⟨w.heap.size + 1 + 1, 0, none⟩ = some (.int .i64 0) := up_cell hb (by first | (with_reducible assumption) | (refine alloc_cell _ ?_; with_reducible assumption) | go_cell); have f2_0 : w'.frozen? ⟨w.heap.size + 1 + 1, 0, none⟩ = false := up_frozen hb (v := .int .i64 0) (by first | (with_reducible assumption) | (refine alloc_cell _ ?_; with_reducible assumption) | go_cell) (by first | (with_reducible assumption) | (refine alloc_frozen (v := .int .i64 0) _ ?_ ?_ <;> with_reducible assumption) | (simp; done) | (go_simp; done)); have k2_1 : w'.cell? ⟨w.heap.size + 1 + 1, 1, none⟩ = some (.int .i64 0) := up_cell hb (by first | (with_reducible assumption) | (refine alloc_cell _ ?_; with_reducible assumption) | go_cell); have f2_1 : w'.frozen? ⟨w.heap.size + 1 + 1, 1, none⟩ = false := up_frozen hb (v := .int .i64 0) (by first | (with_reducible assumption) | (refine alloc_cell _ ?_; with_reducible assumption) | go_cell) (by first | (with_reducible assumption) | (refine alloc_frozen (v := .int .i64 0) _ ?_ ?_ <;> with_reducible assumption) | (simp; done) | (go_simp; done)); have k2_2 : w'.cell? ⟨w.heap.size + 1 + 1, 2, none⟩ = some (.int .i64 0) := up_cell hb (by first | (with_reducible assumption) | (refine alloc_cell _ ?_; with_reducible assumption) | go_cell); have f2_2 : w'.frozen? ⟨w.heap.size + 1 + 1, 2, none⟩ = false := up_frozen hb (v := .int .i64 0) (by first | (with_reducible assumption) | (refine alloc_cell _ ?_; with_reducible assumption) | go_cell) (by first | (with_reducible assumption) | (refine alloc_frozen (v := .int .i64 0) _ ?_ ?_ <;> with_reducible assumption) | (simp; done) | (go_simp; done)))
  refine bodyPost_ret (v := .tuple #[rt 0 0 0, .int .i64 2]) (by simp [results, Try.results55, go_sem, *]) rfl ⟨rfl, (by repeat' (first | (with_reducible exact up_refl _) | (with_reducible assumption) | (with_reducible refine up_alloc ?_ _) | (with_reducible refine up_drewN ?_ _) | (with_reducible refine up_drew ?_) | (with_reducible refine up_set ?_ (by first | (simp; done) | (simp; omega) | omega) _) | (refine up_trans ?_ (by with_reducible assumption))))⟩
theorem p_Both_2 (c s n c' s' n' : Int) (w : World) (h1 : -9223372036854775808 ≤ c) (h2 : c ≤ 9223372036854775807) (h3 : -9223372036854775808 ≤ c') (h4 : c' ≤ 9223372036854775807) (r1 : rotB c s n = true) (r2 : rotB c' s' n' = false) :
    Calls Try.prog 55 #[rt c s n, rt c' s' n'] w fun e w' => e = .returned (.tuple #[rt 0 0 0, .int .i64 2]) ∧ Up w w' := by
  have e1 : rotE c s n = 0 := by unfold rotE; rw [r1]; rfl
  have e2 : rotE c' s' n' = 2 := by unfold rotE; rw [r2]; rfl
  clear r1 r2
  go_enter Try.func55, Try.ntmps55
  go_wp2_with (go_at_call 53; refine (p_CheckRot _ _ _ _ (by omega) (by omega)).mono ?_; rintro e w' ⟨rfl, hb⟩; have k0_0 : w'.cell? ⟨w.heap.size, 0, none⟩ = some (.int .i64 c) := up_cell hb (by first | (with_reducible assumption) | (refine alloc_cell _ ?_; with_reducible assumption) | go_cell); have k0_1 : w'.cell? ⟨w.heap.size, 1, none⟩ = some (.int .i64 s) := up_cell hb (by first | (with_reducible assumption) | (refine alloc_cell _ ?_; with_reducible assumption) | go_cell); have k0_2 : w'.cell? ⟨w.heap.size, 2, none⟩ = some (.int .i64 n) := up_cell hb (by first | (with_reducible assumption) | (refine alloc_cell _ ?_; with_reducible assumption) | go_cell); have k1_0 : w'.cell? ⟨w.heap.size + 1, 0, none⟩ = some (.int .i64 c') := up_cell hb (by first | (with_reducible assumption) | (refine alloc_cell _ ?_; with_reducible assumption) | go_cell); have k1_1 : w'.cell? ⟨w.heap.size + 1, 1, none⟩ = some (.int .i64 s') := up_cell hb (by first | (with_reducible assumption) | (refine alloc_cell _ ?_; with_reducible assumption) | go_cell); have k1_2 : w'.cell? ⟨w.heap.size + 1, 2, none⟩ = some (.int .i64 n') := up_cell hb (by first | (with_reducible assumption) | (refine alloc_cell _ ?_; with_reducible assumption) | go_cell); have k2_0 : w'.cell? ⟨w.heap.size + 1 + 1, 0, none⟩ = some (.int .i64 0) := up_cell hb (by first | (with_reducible assumption) | (refine alloc_cell _ ?_; with_reducible assumption) | go_cell); have f2_0 : w'.frozen? ⟨w.heap.size + 1 + 1, 0, none⟩ = false := up_frozen hb (v := .int .i64 0) (by first | (with_reducible assumption) | (refine alloc_cell _ ?_; with_reducible assumption) | go_cell) (by first | (with_reducible assumption) | (refine alloc_frozen (v := .int .i64 0) _ ?_ ?_ <;> with_reducible assumption) | (simp; done) | (go_simp; done)); have k2_1 : w'.cell? ⟨w.heap.size + 1 + 1, 1, none⟩ = some (.int .i64 0) := up_cell hb (by first | (with_reducible assumption) | (refine alloc_cell _ ?_; with_reducible assumption) | go_cell); have f2_1 : w'.frozen? ⟨w.heap.size + 1 + 1, 1, none⟩ = false := up_frozen hb (v := .int .i64 0) (by first | (with_reducible assumption) | (refine alloc_cell _ ?_; with_reducible assumption) | go_cell) (by first | (with_reducible assumption) | (refine alloc_frozen (v := .int .i64 0) _ ?_ ?_ <;> with_reducible assumption) | (simp; done) | (go_simp; done)); have k2_2 : w'.cell? ⟨w.heap.size + 1 + 1, 2, none⟩ = some (.int .i64 0) := up_cell hb (by first | (with_reducible assumption) | (refine alloc_cell _ ?_; with_reducible assumption) | go_cell); have f2_2 : w'.frozen? ⟨w.heap.size + 1 + 1, 2, none⟩ = false := up_frozen hb (v := .int .i64 0) (by first | (with_reducible assumption) | (refine alloc_cell _ ?_; with_reducible assumption) | go_cell) (by first | (with_reducible assumption) | (refine alloc_frozen (v := .int .i64 0) _ ?_ ?_ <;> with_reducible assumption) | (simp; done) | (go_simp; done)))
  refine bodyPost_ret (v := .tuple #[rt 0 0 0, .int .i64 2]) (by simp [results, Try.results55, go_sem, *]) rfl ⟨rfl, (by repeat' (first | (with_reducible exact up_refl _) | (with_reducible assumption) | (with_reducible refine up_alloc ?_ _) | (with_reducible refine up_drewN ?_ _) | (with_reducible refine up_drew ?_) | (with_reducible refine up_set ?_ (by first | (simp; done) | (simp; omega) | omega) _) | (refine up_trans ?_ (by with_reducible assumption))))⟩
set_option maxHeartbeats 1000000 in
theorem p_Both_3 (c s n c' s' n' : Int) (w : World) (h1 : -9223372036854775808 ≤ c) (h2 : c ≤ 9223372036854775807) (h3 : -9223372036854775808 ≤ c') (h4 : c' ≤ 9223372036854775807) (r1 : rotB c s n = true) (r2 : rotB c' s' n' = true) (hle : n * n' / (boG c s n c' s' n' : Int) ≤ 16777216) :
    Calls Try.prog 55 #[rt c s n, rt c' s' n'] w fun e w' => e = .returned (.tuple #[rt ((boC c s c' s').tdiv (boG c s n c' s' n')) ((boS c s c' s').tdiv (boG c s n c' s' n')) ((n * n').tdiv (boG c s n c' s' n')), .int .i64 0]) ∧ Up w w' := by
  have e1 : rotE c s n = 0 := by unfold rotE; rw [r1]; rfl
  have e2 : rotE c' s' n' = 0 := by unfold rotE; rw [r2]; rfl
  obtain ⟨g1, g, hG, G1, G2, G3, hgi, hg2, hg3, m1, m2, m3, m4, m5, hq, ht⟩ := bo_facts r1 r2
  rw [hG] at hle ⊢
  rw [ht]
  unfold boC boS
  obtain ⟨a1, a2, a3, a4, a5, a6, -⟩ := rotB_yes r1
  obtain ⟨b1, b2, b3, b4, b5, b6, -⟩ := rotB_yes r2
  clear hG ht r1 r2
  go_enter Try.func55, Try.ntmps55
  go_wp2_with (first | (go_at_call 53; refine (p_CheckRot _ _ _ _ (by omega) (by omega)).mono ?_; rintro e w' ⟨rfl, hb⟩; have k0_0 : w'.cell? ⟨w.heap.size, 0, none⟩ = some (.int .i64 c) := up_cell hb (by first | (with_reducible assumption) | (refine alloc_cell _ ?_; with_reducible assumption) | go_cell); have k0_1 : w'.cell? ⟨w.heap.size, 1, none⟩ = some (.int .i64 s) := up_cell hb (by first | (with_reducible assumption) | (refine alloc_cell _ ?_; with_reducible assumption) | go_cell); have k0_2 : w'.cell? ⟨w.heap.size, 2, none⟩ = some (.int .i64 n) := up_cell hb (by first | (with_reducible assumption) | (refine alloc_cell _ ?_; with_reducible assumption) | go_cell); have k1_0 : w'.cell? ⟨w.heap.size + 1, 0, none⟩ = some (.int .i64 c') := up_cell hb (by first | (with_reducible assumption) | (refine alloc_cell _ ?_; with_reducible assumption) | go_cell); have k1_1 : w'.cell? ⟨w.heap.size + 1, 1, none⟩ = some (.int .i64 s') := up_cell hb (by first | (with_reducible assumption) | (refine alloc_cell _ ?_; with_reducible assumption) | go_cell); have k1_2 : w'.cell? ⟨w.heap.size + 1, 2, none⟩ = some (.int .i64 n') := up_cell hb (by first | (with_reducible assumption) | (refine alloc_cell _ ?_; with_reducible assumption) | go_cell); have k2_0 : w'.cell? ⟨w.heap.size + 1 + 1, 0, none⟩ = some (.int .i64 0) := up_cell hb (by first | (with_reducible assumption) | (refine alloc_cell _ ?_; with_reducible assumption) | go_cell); have f2_0 : w'.frozen? ⟨w.heap.size + 1 + 1, 0, none⟩ = false := up_frozen hb (v := .int .i64 0) (by first | (with_reducible assumption) | (refine alloc_cell _ ?_; with_reducible assumption) | go_cell) (by first | (with_reducible assumption) | (refine alloc_frozen (v := .int .i64 0) _ ?_ ?_ <;> with_reducible assumption) | (simp; done) | (go_simp; done)); have k2_1 : w'.cell? ⟨w.heap.size + 1 + 1, 1, none⟩ = some (.int .i64 0) := up_cell hb (by first | (with_reducible assumption) | (refine alloc_cell _ ?_; with_reducible assumption) | go_cell); have f2_1 : w'.frozen? ⟨w.heap.size + 1 + 1, 1, none⟩ = false := up_frozen hb (v := .int .i64 0) (by first | (with_reducible assumption) | (refine alloc_cell _ ?_; with_reducible assumption) | go_cell) (by first | (with_reducible assumption) | (refine alloc_frozen (v := .int .i64 0) _ ?_ ?_ <;> with_reducible assumption) | (simp; done) | (go_simp; done)); have k2_2 : w'.cell? ⟨w.heap.size + 1 + 1, 2, none⟩ = some (.int .i64 0) := up_cell hb (by first | (with_reducible assumption) | (refine alloc_cell _ ?_; with_reducible assumption) | go_cell); have f2_2 : w'.frozen? ⟨w.heap.size + 1 + 1, 2, none⟩ = false := up_frozen hb (v := .int .i64 0) (by first | (with_reducible assumption) | (refine alloc_cell _ ?_; with_reducible assumption) | go_cell) (by first | (with_reducible assumption) | (refine alloc_frozen (v := .int .i64 0) _ ?_ ?_ <;> with_reducible assumption) | (simp; done) | (go_simp; done)); have hz := up_size hb; try simp only [World.size_alloc] at hz))
  go_quiet ((first | (go_at_call 107; exact Calls.quiet_of_same ((p_amount _ _ (by omega) (by omega)).mono fun _ _ h => ⟨h.1, h.2.symm⟩)) | (go_at_call 106; exact Calls.quiet_of (p_divisorG _ _ _ _ (by omega) (by omega) (by omega) (by omega) (by first | exact G1 | exact G2)))))
  go_wp2
  go_cut [7] (fun s7 wx => s7 = .int .i64 g ∧ wx.cell? ⟨w'.heap.size, 0, none⟩ = some (.int .i64 ((c * c' - s * s').tdiv g)) ∧ wx.cell? ⟨w'.heap.size, 1, none⟩ = some (.int .i64 ((s * c' + c * s').tdiv g)) ∧ wx.cell? ⟨w'.heap.size, 2, none⟩ = some (.int .i64 (n * n' / g)) ∧ wx.cell? ⟨w.heap.size + 1 + 1, 0, none⟩ = some (.int .i64 0) ∧ wx.cell? ⟨w.heap.size + 1 + 1, 1, none⟩ = some (.int .i64 0) ∧ wx.cell? ⟨w.heap.size + 1 + 1, 2, none⟩ = some (.int .i64 0) ∧ wx.frozen? ⟨w.heap.size + 1 + 1, 0, none⟩ = false ∧ wx.frozen? ⟨w.heap.size + 1 + 1, 1, none⟩ = false ∧ wx.frozen? ⟨w.heap.size + 1 + 1, 2, none⟩ = false ∧ Up w wx)
  case first =>
    go_region
    go_wp2_with fail
    go_meet
    exact ⟨rfl, by go_cell, by go_cell, by go_cell, up_cell (a := w') (by repeat' (first | (with_reducible exact up_refl _) | (with_reducible assumption) | (with_reducible refine up_alloc ?_ _) | (with_reducible refine up_drewN ?_ _) | (with_reducible refine up_drew ?_) | (with_reducible refine up_set ?_ (by first | (simp; done) | (simp; omega) | omega) _) | (refine up_trans ?_ (by with_reducible assumption)))) k2_0, up_cell (a := w') (by repeat' (first | (with_reducible exact up_refl _) | (with_reducible assumption) | (with_reducible refine up_alloc ?_ _) | (with_reducible refine up_drewN ?_ _) | (with_reducible refine up_drew ?_) | (with_reducible refine up_set ?_ (by first | (simp; done) | (simp; omega) | omega) _) | (refine up_trans ?_ (by with_reducible assumption)))) k2_1, up_cell (a := w') (by repeat' (first | (with_reducible exact up_refl _) | (with_reducible assumption) | (with_reducible refine up_alloc ?_ _) | (with_reducible refine up_drewN ?_ _) | (with_reducible refine up_drew ?_) | (with_reducible refine up_set ?_ (by first | (simp; done) | (simp; omega) | omega) _) | (refine up_trans ?_ (by with_reducible assumption)))) k2_2, up_frozen (a := w') (by repeat' (first | (with_reducible exact up_refl _) | (with_reducible assumption) | (with_reducible refine up_alloc ?_ _) | (with_reducible refine up_drewN ?_ _) | (with_reducible refine up_drew ?_) | (with_reducible refine up_set ?_ (by first | (simp; done) | (simp; omega) | omega) _) | (refine up_trans ?_ (by with_reducible assumption)))) k2_0 f2_0, up_frozen (a := w') (by repeat' (first | (with_reducible exact up_refl _) | (with_reducible assumption) | (with_reducible refine up_alloc ?_ _) | (with_reducible refine up_drewN ?_ _) | (with_reducible refine up_drew ?_) | (with_reducible refine up_set ?_ (by first | (simp; done) | (simp; omega) | omega) _) | (refine up_trans ?_ (by with_reducible assumption)))) k2_1 f2_1, up_frozen (a := w') (by repeat' (first | (with_reducible exact up_refl _) | (with_reducible assumption) | (with_reducible refine up_alloc ?_ _) | (with_reducible refine up_drewN ?_ _) | (with_reducible refine up_drew ?_) | (with_reducible refine up_set ?_ (by first | (simp; done) | (simp; omega) | omega) _) | (refine up_trans ?_ (by with_reducible assumption)))) k2_2 f2_2, (by repeat' (first | (with_reducible exact up_refl _) | (with_reducible assumption) | (with_reducible refine up_alloc ?_ _) | (with_reducible refine up_drewN ?_ _) | (with_reducible refine up_drew ?_) | (with_reducible refine up_set ?_ (by first | (simp; done) | (simp; omega) | omega) _) | (refine up_trans ?_ (by with_reducible assumption))))⟩
  case rest =>
    obtain ⟨rfl, d0, d1, d2, d3, d4, d5, d6, d7, d8, hu⟩ := hcut
    clear k0_0 k0_1 k0_2 k1_0 k1_1 k1_2 k2_0 k2_1 k2_2 f2_0 f2_1 f2_2 hb
    go_wp2
    refine bodyPost_ret (v := .tuple #[rt ((c * c' - s * s').tdiv g) ((s * c' + c * s').tdiv g) (n * n' / g), .int .i64 0]) (by simp [results, Try.results55, go_sem, *]) rfl ⟨rfl, (by repeat' (first | (with_reducible exact up_refl _) | (with_reducible assumption) | (with_reducible refine up_alloc ?_ _) | (with_reducible refine up_drewN ?_ _) | (with_reducible refine up_drew ?_) | (with_reducible refine up_set ?_ (by first | (simp; done) | (simp; omega) | omega) _) | (refine up_trans ?_ (by with_reducible assumption))))⟩
set_option maxHeartbeats 1000000 in
theorem p_Both_4 (c s n c' s' n' : Int) (w : World) (h1 : -9223372036854775808 ≤ c) (h2 : c ≤ 9223372036854775807) (h3 : -9223372036854775808 ≤ c') (h4 : c' ≤ 9223372036854775807) (r1 : rotB c s n = true) (r2 : rotB c' s' n' = true) (hle : 16777216 < n * n' / (boG c s n c' s' n' : Int)) :
    Calls Try.prog 55 #[rt c s n, rt c' s' n'] w fun e w' => e = .returned (.tuple #[rt 0 0 0, .int .i64 4]) ∧ Up w w' := by
  have e1 : rotE c s n = 0 := by unfold rotE; rw [r1]; rfl
  have e2 : rotE c' s' n' = 0 := by unfold rotE; rw [r2]; rfl
  obtain ⟨g1, g, hG, G1, G2, G3, hgi, hg2, hg3, m1, m2, m3, m4, m5, hq, ht⟩ := bo_facts r1 r2
  rw [hG] at hle
  obtain ⟨a1, a2, a3, a4, a5, a6, -⟩ := rotB_yes r1
  obtain ⟨b1, b2, b3, b4, b5, b6, -⟩ := rotB_yes r2
  clear hG ht r1 r2
  go_enter Try.func55, Try.ntmps55
  go_wp2_with (first | (go_at_call 53; refine (p_CheckRot _ _ _ _ (by omega) (by omega)).mono ?_; rintro e w' ⟨rfl, hb⟩; have k0_0 : w'.cell? ⟨w.heap.size, 0, none⟩ = some (.int .i64 c) := up_cell hb (by first | (with_reducible assumption) | (refine alloc_cell _ ?_; with_reducible assumption) | go_cell); have k0_1 : w'.cell? ⟨w.heap.size, 1, none⟩ = some (.int .i64 s) := up_cell hb (by first | (with_reducible assumption) | (refine alloc_cell _ ?_; with_reducible assumption) | go_cell); have k0_2 : w'.cell? ⟨w.heap.size, 2, none⟩ = some (.int .i64 n) := up_cell hb (by first | (with_reducible assumption) | (refine alloc_cell _ ?_; with_reducible assumption) | go_cell); have k1_0 : w'.cell? ⟨w.heap.size + 1, 0, none⟩ = some (.int .i64 c') := up_cell hb (by first | (with_reducible assumption) | (refine alloc_cell _ ?_; with_reducible assumption) | go_cell); have k1_1 : w'.cell? ⟨w.heap.size + 1, 1, none⟩ = some (.int .i64 s') := up_cell hb (by first | (with_reducible assumption) | (refine alloc_cell _ ?_; with_reducible assumption) | go_cell); have k1_2 : w'.cell? ⟨w.heap.size + 1, 2, none⟩ = some (.int .i64 n') := up_cell hb (by first | (with_reducible assumption) | (refine alloc_cell _ ?_; with_reducible assumption) | go_cell); have k2_0 : w'.cell? ⟨w.heap.size + 1 + 1, 0, none⟩ = some (.int .i64 0) := up_cell hb (by first | (with_reducible assumption) | (refine alloc_cell _ ?_; with_reducible assumption) | go_cell); have f2_0 : w'.frozen? ⟨w.heap.size + 1 + 1, 0, none⟩ = false := up_frozen hb (v := .int .i64 0) (by first | (with_reducible assumption) | (refine alloc_cell _ ?_; with_reducible assumption) | go_cell) (by first | (with_reducible assumption) | (refine alloc_frozen (v := .int .i64 0) _ ?_ ?_ <;> with_reducible assumption) | (simp; done) | (go_simp; done)); have k2_1 : w'.cell? ⟨w.heap.size + 1 + 1, 1, none⟩ = some (.int .i64 0) := up_cell hb (by first | (with_reducible assumption) | (refine alloc_cell _ ?_; with_reducible assumption) | go_cell); have f2_1 : w'.frozen? ⟨w.heap.size + 1 + 1, 1, none⟩ = false := up_frozen hb (v := .int .i64 0) (by first | (with_reducible assumption) | (refine alloc_cell _ ?_; with_reducible assumption) | go_cell) (by first | (with_reducible assumption) | (refine alloc_frozen (v := .int .i64 0) _ ?_ ?_ <;> with_reducible assumption) | (simp; done) | (go_simp; done)); have k2_2 : w'.cell? ⟨w.heap.size + 1 + 1, 2, none⟩ = some (.int .i64 0) := up_cell hb (by first | (with_reducible assumption) | (refine alloc_cell _ ?_; with_reducible assumption) | go_cell); have f2_2 : w'.frozen? ⟨w.heap.size + 1 + 1, 2, none⟩ = false := up_frozen hb (v := .int .i64 0) (by first | (with_reducible assumption) | (refine alloc_cell _ ?_; with_reducible assumption) | go_cell) (by first | (with_reducible assumption) | (refine alloc_frozen (v := .int .i64 0) _ ?_ ?_ <;> with_reducible assumption) | (simp; done) | (go_simp; done)); have hz := up_size hb; try simp only [World.size_alloc] at hz))
  go_quiet ((first | (go_at_call 107; exact Calls.quiet_of_same ((p_amount _ _ (by omega) (by omega)).mono fun _ _ h => ⟨h.1, h.2.symm⟩)) | (go_at_call 106; exact Calls.quiet_of (p_divisorG _ _ _ _ (by omega) (by omega) (by omega) (by omega) (by first | exact G1 | exact G2)))))
  go_wp2
  go_cut [7] (fun s7 wx => s7 = .int .i64 g ∧ wx.cell? ⟨w'.heap.size, 0, none⟩ = some (.int .i64 ((c * c' - s * s').tdiv g)) ∧ wx.cell? ⟨w'.heap.size, 1, none⟩ = some (.int .i64 ((s * c' + c * s').tdiv g)) ∧ wx.cell? ⟨w'.heap.size, 2, none⟩ = some (.int .i64 (n * n' / g)) ∧ wx.cell? ⟨w.heap.size + 1 + 1, 0, none⟩ = some (.int .i64 0) ∧ wx.cell? ⟨w.heap.size + 1 + 1, 1, none⟩ = some (.int .i64 0) ∧ wx.cell? ⟨w.heap.size + 1 + 1, 2, none⟩ = some (.int .i64 0) ∧ wx.frozen? ⟨w.heap.size + 1 + 1, 0, none⟩ = false ∧ wx.frozen? ⟨w.heap.size + 1 + 1, 1, none⟩ = false ∧ wx.frozen? ⟨w.heap.size + 1 + 1, 2, none⟩ = false ∧ Up w wx)
  case first =>
    go_region
    go_wp2_with fail
    go_meet
    exact ⟨rfl, by go_cell, by go_cell, by go_cell, up_cell (a := w') (by repeat' (first | (with_reducible exact up_refl _) | (with_reducible assumption) | (with_reducible refine up_alloc ?_ _) | (with_reducible refine up_drewN ?_ _) | (with_reducible refine up_drew ?_) | (with_reducible refine up_set ?_ (by first | (simp; done) | (simp; omega) | omega) _) | (refine up_trans ?_ (by with_reducible assumption)))) k2_0, up_cell (a := w') (by repeat' (first | (with_reducible exact up_refl _) | (with_reducible assumption) | (with_reducible refine up_alloc ?_ _) | (with_reducible refine up_drewN ?_ _) | (with_reducible refine up_drew ?_) | (with_reducible refine up_set ?_ (by first | (simp; done) | (simp; omega) | omega) _) | (refine up_trans ?_ (by with_reducible assumption)))) k2_1, up_cell (a := w') (by repeat' (first | (with_reducible exact up_refl _) | (with_reducible assumption) | (with_reducible refine up_alloc ?_ _) | (with_reducible refine up_drewN ?_ _) | (with_reducible refine up_drew ?_) | (with_reducible refine up_set ?_ (by first | (simp; done) | (simp; omega) | omega) _) | (refine up_trans ?_ (by with_reducible assumption)))) k2_2, up_frozen (a := w') (by repeat' (first | (with_reducible exact up_refl _) | (with_reducible assumption) | (with_reducible refine up_alloc ?_ _) | (with_reducible refine up_drewN ?_ _) | (with_reducible refine up_drew ?_) | (with_reducible refine up_set ?_ (by first | (simp; done) | (simp; omega) | omega) _) | (refine up_trans ?_ (by with_reducible assumption)))) k2_0 f2_0, up_frozen (a := w') (by repeat' (first | (with_reducible exact up_refl _) | (with_reducible assumption) | (with_reducible refine up_alloc ?_ _) | (with_reducible refine up_drewN ?_ _) | (with_reducible refine up_drew ?_) | (with_reducible refine up_set ?_ (by first | (simp; done) | (simp; omega) | omega) _) | (refine up_trans ?_ (by with_reducible assumption)))) k2_1 f2_1, up_frozen (a := w') (by repeat' (first | (with_reducible exact up_refl _) | (with_reducible assumption) | (with_reducible refine up_alloc ?_ _) | (with_reducible refine up_drewN ?_ _) | (with_reducible refine up_drew ?_) | (with_reducible refine up_set ?_ (by first | (simp; done) | (simp; omega) | omega) _) | (refine up_trans ?_ (by with_reducible assumption)))) k2_2 f2_2, (by repeat' (first | (with_reducible exact up_refl _) | (with_reducible assumption) | (with_reducible refine up_alloc ?_ _) | (with_reducible refine up_drewN ?_ _) | (with_reducible refine up_drew ?_) | (with_reducible refine up_set ?_ (by first | (simp; done) | (simp; omega) | omega) _) | (refine up_trans ?_ (by with_reducible assumption))))⟩
  case rest =>
    obtain ⟨rfl, d0, d1, d2, d3, d4, d5, d6, d7, d8, hu⟩ := hcut
    clear k0_0 k0_1 k0_2 k1_0 k1_1 k1_2 k2_0 k2_1 k2_2 f2_0 f2_1 f2_2 hb
    go_wp2
    refine bodyPost_ret (v := .tuple #[rt 0 0 0, .int .i64 4]) (by simp [results, Try.results55, go_sem, *]) rfl ⟨rfl, (by repeat' (first | (with_reducible exact up_refl _) | (with_reducible assumption) | (with_reducible refine up_alloc ?_ _) | (with_reducible refine up_drewN ?_ _) | (with_reducible refine up_drew ?_) | (with_reducible refine up_set ?_ (by first | (simp; done) | (simp; omega) | omega) _) | (refine up_trans ?_ (by with_reducible assumption))))⟩
theorem p_Both (c s n c' s' n' : Int) (w : World) (h1 : -9223372036854775808 ≤ c) (h2 : c ≤ 9223372036854775807) (h3 : -9223372036854775808 ≤ c') (h4 : c' ≤ 9223372036854775807) :
    Calls Try.prog 55 #[rt c s n, rt c' s' n'] w fun e w' => e = .returned (.tuple #[rt (boV c s n c' s' n' (boC c s c' s')) (boV c s n c' s' n' (boS c s c' s')) (boV c s n c' s' n' (n * n')), .int .i64 (boE c s n c' s' n')]) ∧ Up w w' := by
  unfold boV boE boB
  cases r1 : rotB c s n
  · exact (p_Both_1 c s n c' s' n' w h1 h2 r1).mono fun e w' ⟨he, hu⟩ => ⟨by rw [he]; simp, hu⟩
  cases r2 : rotB c' s' n'
  · exact (p_Both_2 c s n c' s' n' w h1 h2 h3 h4 r1 r2).mono fun e w' ⟨he, hu⟩ => ⟨by rw [he]; simp, hu⟩
  by_cases hle : n * n' / (boG c s n c' s' n' : Int) ≤ 16777216
  · exact (p_Both_3 c s n c' s' n' w h1 h2 h3 h4 r1 r2 hle).mono fun e w' ⟨he, hu⟩ => ⟨by rw [he]; simp [hle], hu⟩
  · exact (p_Both_4 c s n c' s' n' w h1 h2 h3 h4 r1 r2 (by omega)).mono fun e w' ⟨he, hu⟩ => ⟨by rw [he]; simp [hle], hu⟩
end Go.Proofs.Ytcicjboopipgoaa
