/- Plain mathematics for layer 1: roots, quotients, lengths of vectors that are rounded. It imports nothing of the program. More plain mathematics for layer 1: how great a quotient is; bodies that are pulled. It imports nothing of the program. -/
namespace Go.Proofs.Gn

/-! ### The root -/
def isq : Nat → Nat
  | 0 => 0
  | n + 1 => if (isq n + 1) * (isq n + 1) ≤ n + 1 then isq n + 1 else isq n

theorem isq_le (n : Nat) : isq n * isq n ≤ n := by
  induction n with
  | zero => simp [isq]
  | succ n ih => unfold isq; split <;> omega

theorem lt_isq (n : Nat) : n < (isq n + 1) * (isq n + 1) := by
  induction n with
  | zero => simp [isq]
  | succ n ih =>
    unfold isq; split
    · rename_i h
      have : (isq n + 1 + 1) * (isq n + 1 + 1) = (isq n + 1) * (isq n + 1) + 2 * (isq n + 1) + 1 := by
        simp only [Nat.add_mul, Nat.mul_add]; omega
      omega
    · omega

theorem isq_unique {n r : Nat} (h1 : r * r ≤ n) (h2 : n < (r + 1) * (r + 1)) : r = isq n := by
  have a := isq_le n
  have b := lt_isq n
  rcases Nat.lt_trichotomy r (isq n) with h | h | h
  · have : (r + 1) * (r + 1) ≤ isq n * isq n := Nat.mul_le_mul h h
    omega
  · exact h
  · have : (isq n + 1) * (isq n + 1) ≤ r * r := Nat.mul_le_mul h h
    omega

attribute [irreducible] isq

/-- The root of a number from 0 on, as an integer. -/
def root (n : Int) : Int := (isq n.toNat : Int)
theorem root_nonneg (n : Int) : 0 ≤ root n := by unfold root; omega
theorem root_sq {n : Int} (h : 0 ≤ n) : root n * root n ≤ n := by
  have := isq_le n.toNat
  unfold root
  have e : ((isq n.toNat * isq n.toNat : Nat) : Int) ≤ ((n.toNat : Nat) : Int) := Int.ofNat_le.2 this
  rw [Int.natCast_mul, Int.toNat_of_nonneg h] at e
  exact e
theorem lt_root {n : Int} (h : 0 ≤ n) : n < (root n + 1) * (root n + 1) := by
  have := lt_isq n.toNat
  unfold root
  have e : ((n.toNat : Nat) : Int) < (((isq n.toNat + 1) * (isq n.toNat + 1) : Nat) : Int) := Int.ofNat_lt.2 this
  rw [Int.natCast_mul, Int.toNat_of_nonneg h] at e
  exact e
theorem root_unique {n r : Int} (hr : 0 ≤ r) (h1 : r * r ≤ n) (h2 : n < (r + 1) * (r + 1)) : r = root n := by
  obtain ⟨k, rfl⟩ := Int.eq_ofNat_of_zero_le hr
  have hn : 0 ≤ n := Int.le_trans (Int.mul_nonneg hr hr) h1
  obtain ⟨m, rfl⟩ := Int.eq_ofNat_of_zero_le hn
  unfold root
  have a : k * k ≤ m := by exact_mod_cast h1
  have b : m < (k + 1) * (k + 1) := by exact_mod_cast h2
  rw [isq_unique a b]; simp
attribute [irreducible] root
theorem sq_le_sq {a b : Int} (ha : 0 ≤ a) (hab : a ≤ b) : a * a ≤ b * b := Int.mul_le_mul hab hab ha (by omega)
theorem lt_of_sq {a b : Int} (hb : 0 ≤ b) (h : a * a < b * b) : a < b := by
  rcases Int.lt_or_le a b with h1 | h1
  · exact h1
  · have := sq_le_sq hb h1; omega
theorem le_of_sq {a b : Int} (hb : 0 ≤ b) (h : a * a ≤ b * b) : a ≤ b := by
  have : a < b + 1 := lt_of_sq (by omega) (by
    have e : (b + 1) * (b + 1) = b * b + 2 * b + 1 := by simp only [Int.add_mul, Int.mul_add]; omega
    omega)
  omega
theorem root_le {n b : Int} (hn : 0 ≤ n) (hb : 0 ≤ b) (h : n ≤ b * b) : root n ≤ b := le_of_sq hb (Int.le_trans (root_sq hn) h)
theorem root_lt {n b : Int} (hn : 0 ≤ n) (hb : 0 ≤ b) (h : n < b * b) : root n < b := lt_of_sq hb (Int.lt_of_le_of_lt (root_sq hn) h)
theorem le_root {n b : Int} (hn : 0 ≤ n) (h : b * b ≤ n) : b ≤ root n := by
  have := lt_root hn
  have := root_nonneg n
  have : b < root n + 1 := lt_of_sq (by omega) (by omega)
  omega
theorem root_mono {n m : Int} (hn : 0 ≤ n) (h : n ≤ m) : root n ≤ root m := le_root (by omega) (Int.le_trans (root_sq hn) h)
theorem root_zero : root 0 = 0 := (root_unique (by omega) (by omega) (by omega)).symm
theorem root_pos {n : Int} (h : 1 ≤ n) : 1 ≤ root n := le_root (by omega) (by omega)

/-! ### Quotients -/
def near (n d : Int) : Int := (2 * n + d) / (2 * d)
theorem near_spec {n d : Int} (hd : 0 < d) : 2 * (near n d * d) ≤ 2 * n + d ∧ 2 * n + d < 2 * (near n d * d) + 2 * d := by
  unfold near
  have h1 := Int.mul_ediv_self_le (x := 2 * n + d) (k := 2 * d) (by omega)
  have h2 := Int.lt_mul_ediv_self_add (x := 2 * n + d) (k := 2 * d) (by omega)
  have e : 2 * d * ((2 * n + d) / (2 * d)) = 2 * ((2 * n + d) / (2 * d) * d) := by
    rw [Int.mul_assoc, Int.mul_comm d]
  omega
theorem near_unique {n d q : Int} (hd : 0 < d) (h1 : 2 * (q * d) ≤ 2 * n + d) (h2 : 2 * n + d < 2 * (q * d) + 2 * d) : q = near n d := by
  have ⟨a, b⟩ := near_spec (n := n) hd
  rcases Int.lt_trichotomy q (near n d) with h | h | h
  · have : (q + 1) * d ≤ near n d * d := Int.mul_le_mul_of_nonneg_right (by omega) (by omega)
    rw [Int.add_mul] at this; omega
  · exact h
  · have : (near n d + 1) * d ≤ q * d := Int.mul_le_mul_of_nonneg_right (by omega) (by omega)
    rw [Int.add_mul] at this; omega
theorem ediv_spec {n d : Int} (hd : 0 < d) : n / d * d ≤ n ∧ n < n / d * d + d := by
  have h1 := Int.mul_ediv_self_le (x := n) (k := d) (by omega)
  have h2 := Int.lt_mul_ediv_self_add (x := n) (k := d) (by omega)
  rw [Int.mul_comm] at h1 h2
  omega
theorem ediv_unique {n d q : Int} (hd : 0 < d) (h1 : q * d ≤ n) (h2 : n < q * d + d) : q = n / d := by
  have ⟨a, b⟩ := ediv_spec (n := n) hd
  rcases Int.lt_trichotomy q (n / d) with h | h | h
  · have : (q + 1) * d ≤ n / d * d := Int.mul_le_mul_of_nonneg_right (by omega) (by omega)
    rw [Int.add_mul] at this; omega
  · exact h
  · have : (n / d + 1) * d ≤ q * d := Int.mul_le_mul_of_nonneg_right (by omega) (by omega)
    rw [Int.add_mul] at this; omega
/-- What 'rounded down, and one more if the rest is at least a half' is. -/
theorem near_up {n d : Int} (hd : 0 < d) (h : d ≤ 2 * (n - n / d * d)) : n / d + 1 = near n d := by
  have ⟨a, b⟩ := ediv_spec (n := n) hd
  refine near_unique hd ?_ ?_ <;> rw [Int.add_mul] <;> omega
theorem near_stay {n d : Int} (hd : 0 < d) (h : ¬ d ≤ 2 * (n - n / d * d)) : n / d = near n d := by
  have ⟨a, b⟩ := ediv_spec (n := n) hd
  refine near_unique hd ?_ ?_ <;> omega
/-- Go's quotient, and one less where the rest is below 0. -/
theorem down_neg {n d : Int} (hd : 0 < d) (h : n.tmod d < 0) : n.tdiv d - 1 = n / d := by
  have e := Int.mul_tdiv_add_tmod n d
  have l := Int.lt_tmod_of_pos n hd
  rw [Int.mul_comm] at e
  refine ediv_unique hd ?_ ?_ <;> rw [Int.sub_mul] <;> omega
theorem down_pos {n d : Int} (hd : 0 < d) (h : ¬ n.tmod d < 0) : n.tdiv d = n / d := by
  have e := Int.mul_tdiv_add_tmod n d
  have l := Int.tmod_lt_of_pos n hd
  rw [Int.mul_comm] at e
  exact ediv_unique hd (by omega) (by omega)
theorem abs_ediv_le {n d : Int} (hd : 0 < d) : (0 ≤ n → 0 ≤ n / d ∧ n / d ≤ n) ∧ (n ≤ 0 → n ≤ n / d ∧ n / d ≤ 0) := by
  have ⟨a, b⟩ := ediv_spec (n := n) hd
  constructor
  · intro hn
    have h0 : 0 ≤ n / d := Int.ediv_nonneg hn (by omega)
    exact ⟨h0, Int.le_trans (by have := Int.mul_le_mul_of_nonneg_left (show 1 ≤ d by omega) h0; omega) a⟩
  · intro hn
    have h0 : n / d ≤ 0 := Int.ediv_nonpos_of_nonpos_of_neg hn (by omega) 
    refine ⟨?_, h0⟩
    rcases Int.lt_or_le (n / d) n with h | h
    · have : n / d + 1 ≤ n := h
      have : (n / d + 1) * d ≤ n * d := Int.mul_le_mul_of_nonneg_right h (by omega)
      have : n * d ≤ n * 1 := Int.mul_le_mul_of_nonpos_left hn (by omega)
      rw [Int.add_mul] at *
      omega
    · exact h
attribute [irreducible] near
theorem cauchy_id (a b c d : Int) : (a*a+b*b)*(c*c+d*d) = (a*c+b*d)*(a*c+b*d) + (a*d-b*c)*(a*d-b*c) := by grind
theorem sq_nonneg (a : Int) : 0 ≤ a * a := by
  rcases Int.lt_or_le a 0 with h | h
  · exact Int.mul_nonneg_of_nonpos_of_nonpos (by omega) (by omega)
  · exact Int.mul_nonneg h h
theorem abs_sq {a b : Int} (hb : 0 ≤ b) (h : a * a ≤ b * b) : -b ≤ a ∧ a ≤ b := by
  constructor
  · have : -a ≤ b := le_of_sq hb (by rw [Int.neg_mul_neg]; exact h)
    omega
  · exact le_of_sq hb h
/-- The sum of a vector of at most p and one of at most q is at most p + q. -/
theorem tri {ux uy vx vy p q : Int} (hp : 0 ≤ p) (hq : 0 ≤ q) (h1 : ux*ux+uy*uy ≤ p*p) (h2 : vx*vx+vy*vy ≤ q*q) :
    (ux+vx)*(ux+vx)+(uy+vy)*(uy+vy) ≤ (p+q)*(p+q) := by
  have c := cauchy_id ux uy vx vy
  have n := sq_nonneg (ux*vy-uy*vx)
  have m : (ux*ux+uy*uy)*(vx*vx+vy*vy) ≤ (p*p)*(q*q) :=
    Int.mul_le_mul h1 h2 (by have := sq_nonneg vx; have := sq_nonneg vy; omega) (sq_nonneg p)
  have e : (p*p)*(q*q) = (p*q)*(p*q) := by grind
  have pq := Int.mul_nonneg hp hq
  have k : ux*vx+uy*vy ≤ p*q := le_of_sq pq (by omega)
  have e2 : (ux+vx)*(ux+vx)+(uy+vy)*(uy+vy) = (ux*ux+uy*uy) + (vx*vx+vy*vy) + 2*(ux*vx+uy*vy) := by grind
  have e3 : (p+q)*(p+q) = p*p + q*q + 2*(p*q) := by grind
  omega
theorem le_of_mul_sq {N a b : Int} (hN : 0 < N) (h : (N * N) * a ≤ (N * N) * b) : a ≤ b :=
  Int.le_of_mul_le_mul_left h (Int.mul_pos hN hN)
theorem sq_le_sq_abs (x N : Int) (h1 : -N ≤ 2 * x) (h2 : 2 * x ≤ N) : 4 * (x * x) ≤ N * N := by
  have e : 4 * (x * x) = (2 * x) * (2 * x) := by grind
  rw [e]
  rcases Int.lt_or_le x 0 with h | h
  · rw [← Int.neg_mul_neg]; exact sq_le_sq (by omega) (by omega)
  · exact sq_le_sq (by omega) h2
/-- What is near A / N and B / N: as far from 0 as (A, B) / N, but for 1. -/
theorem round_far {A B N P p : Int} (hN : 0 < N) (hp : 0 ≤ p) (hP : A*A+B*B = P*(N*N)) (h : P ≤ p*p) :
    near A N * near A N + near B N * near B N ≤ (p+1)*(p+1) := by
  have ⟨a1, a2⟩ := near_spec (n := A) hN
  have ⟨b1, b2⟩ := near_spec (n := B) hN
  have hm : P*(N*N) ≤ (p*p)*(N*N) := Int.mul_le_mul_of_nonneg_right h (Int.mul_nonneg (by omega) (by omega))
  have ha : 4 * ((near A N * N - A) * (near A N * N - A)) ≤ N * N := by
    have := sq_le_sq_abs (near A N * N - A) N (by omega) (by omega)
    exact this
  have hb : 4 * ((near B N * N - B) * (near B N * N - B)) ≤ N * N := sq_le_sq_abs (near B N * N - B) N (by omega) (by omega)
  have t := tri (ux := A) (uy := B) (vx := near A N * N - A) (vy := near B N * N - B) (p := p * N) (q := N) (Int.mul_nonneg hp (by omega)) (by omega)
    (by have e : (p*N)*(p*N) = (p*p)*(N*N) := by grind
        omega) (by have := Int.mul_pos hN hN; omega)
  have e1 : A + (near A N * N - A) = near A N * N := by omega
  have e2 : B + (near B N * N - B) = near B N * N := by omega
  rw [e1, e2] at t
  apply le_of_mul_sq hN
  have e3 : near A N * N * (near A N * N) + near B N * N * (near B N * N) = N * N * (near A N * near A N + near B N * near B N) := by grind
  have e4 : (p * N + N) * (p * N + N) = N * N * ((p + 1) * (p + 1)) := by grind
  omega
theorem round_near {A B N P q : Int} (hN : 0 < N) (hq : 0 ≤ q) (hP : A*A+B*B = P*(N*N)) (h : near A N * near A N + near B N * near B N ≤ q*q) :
    P ≤ (q+1)*(q+1) := by
  have ⟨a1, a2⟩ := near_spec (n := A) hN
  have ⟨b1, b2⟩ := near_spec (n := B) hN
  have ha := sq_le_sq_abs (A - near A N * N) N (by omega) (by omega)
  have hb := sq_le_sq_abs (B - near B N * N) N (by omega) (by omega)
  have hm : (near A N * near A N + near B N * near B N)*(N*N) ≤ (q*q)*(N*N) := Int.mul_le_mul_of_nonneg_right h (Int.mul_nonneg (by omega) (by omega))
  have t := tri (ux := near A N * N) (uy := near B N * N) (vx := A - near A N * N) (vy := B - near B N * N) (p := q * N) (q := N) (Int.mul_nonneg hq (by omega)) (by omega)
    (by have e : (q*N)*(q*N) = (q*q)*(N*N) := by grind
        have e3 : near A N * N * (near A N * N) + near B N * N * (near B N * N) = (near A N * near A N + near B N * near B N) * (N * N) := by grind
        omega) (by have := Int.mul_pos hN hN; omega)
  have e1 : near A N * N + (A - near A N * N) = A := by omega
  have e2 : near B N * N + (B - near B N * N) = B := by omega
  rw [e1, e2, hP] at t
  apply le_of_mul_sq hN
  have e4 : (q * N + N) * (q * N + N) = N * N * ((q + 1) * (q + 1)) := by grind
  have e5 : P * (N * N) = N * N * P := Int.mul_comm _ _
  omega
/-- The distance after rounding differs by at most 2. -/
theorem round_dist {A B N P : Int} (hN : 0 < N) (h0 : 0 ≤ P) (hP : A*A+B*B = P*(N*N)) :
    root (near A N * near A N + near B N * near B N) ≤ root P + 2 ∧ root P ≤ root (near A N * near A N + near B N * near B N) + 2 := by
  have h1 := lt_root h0
  have hQ : 0 ≤ near A N * near A N + near B N * near B N := by have := sq_nonneg (near A N); have := sq_nonneg (near B N); omega
  have h2 := lt_root hQ
  have r1 := root_nonneg P
  have r2 := root_nonneg (near A N * near A N + near B N * near B N)
  have f1 := round_far hN (show 0 ≤ root P + 1 by omega) hP (by omega)
  have f2 := round_near hN (show 0 ≤ root (near A N * near A N + near B N * near B N) + 1 by omega) hP (by omega)
  exact ⟨root_le hQ (by omega) (by have e : root P + 1 + 1 = root P + 2 := by omega
                                   rw [e] at f1; exact f1),
         root_le h0 (by omega) (by
           generalize root (near A N * near A N + near B N * near B N) = g at *
           have e : g + 1 + 1 = g + 2 := by omega
           rw [e] at f2; exact f2)⟩
theorem turn_id (x y C S : Int) : (x*C-y*S)*(x*C-y*S) + (x*S+y*C)*(x*S+y*C) = (x*x+y*y)*(C*C+S*S) := by grind
theorem half_id (n d : Int) : (d*d-n*n)*(d*d-n*n) + (2*n*d)*(2*n*d) = (d*d+n*n)*(d*d+n*n) := by grind
theorem both_id (a b c d : Int) : (a*c-b*d)*(a*c-b*d) + (b*c+a*d)*(b*c+a*d) = (a*a+b*b)*(c*c+d*d) := by grind
end Go.Proofs.Gn
namespace Go.Proofs.Gn
theorem near_bd {n d : Int} (hd : 0 < d) : (0 ≤ n → 0 ≤ near n d ∧ near n d ≤ n) ∧ (n ≤ 0 → n ≤ near n d ∧ near n d ≤ 0) := by
  have ⟨a, b⟩ := near_spec (n := n) hd
  generalize near n d = q at *
  constructor
  · intro hn
    constructor
    · rcases Int.lt_or_le q 0 with h | h
      · have : q * d ≤ (-1) * d := Int.mul_le_mul_of_nonneg_right (by omega) (by omega)
        omega
      · exact h
    · rcases Int.lt_or_le n q with h | h
      · have h1 : (n + 1) * d ≤ q * d := Int.mul_le_mul_of_nonneg_right (by omega) (by omega)
        have h2 : n * 1 ≤ n * d := Int.mul_le_mul_of_nonneg_left (by omega) hn
        rw [Int.add_mul] at h1
        omega
      · exact h
  · intro hn
    constructor
    · rcases Int.lt_or_le q n with h | h
      · have h1 : q * d ≤ (n - 1) * d := Int.mul_le_mul_of_nonneg_right (by omega) (by omega)
        have h2 : n * d ≤ n * 1 := Int.mul_le_mul_of_nonpos_left hn (by omega)
        rw [Int.sub_mul] at h1
        omega
      · exact h
    · rcases Int.lt_or_le 0 q with h | h
      · have h1 : 1 * d ≤ q * d := Int.mul_le_mul_of_nonneg_right (by omega) (by omega)
        omega
      · exact h
theorem mul_bd2 {u v : Int} (h1 : -33554432 ≤ u) (h2 : u ≤ 33554432) (h3 : -33554432 ≤ v) (h4 : v ≤ 33554432) : -1125899906842624 ≤ u * v ∧ u * v ≤ 1125899906842624 := by
  have a : (u + 33554432) * (v + 33554432) ≥ 0 := Int.mul_nonneg (by omega) (by omega)
  have b : (33554432 - u) * (33554432 - v) ≥ 0 := Int.mul_nonneg (by omega) (by omega)
  have c : (u + 33554432) * (33554432 - v) ≥ 0 := Int.mul_nonneg (by omega) (by omega)
  have d : (33554432 - u) * (v + 33554432) ≥ 0 := Int.mul_nonneg (by omega) (by omega)
  simp only [Int.add_mul, Int.mul_add, Int.sub_mul, Int.mul_sub] at a b c d
  omega
/-- The length of a body, in 32nds. -/
def len32 (u v : Int) : Int := root (1024 * (u * u + v * v))
def putX (u v x y : Int) : Int := near (32 * (u * x - v * y)) (len32 u v)
def putY (u v x y : Int) : Int := near (32 * (v * x + u * y)) (len32 u v)
theorem len32_pos {u v : Int} (h : ¬ (u = 0 ∧ v = 0)) : 1 ≤ len32 u v := by
  unfold len32
  apply root_pos
  have hu := sq_nonneg u
  have hv := sq_nonneg v
  have : u * u + v * v ≠ 0 := by
    intro he
    have h1 : u * u = 0 := by omega
    have h2 : v * v = 0 := by omega
    exact h ⟨by have := Int.mul_eq_zero.1 h1; omega, by have := Int.mul_eq_zero.1 h2; omega⟩
  omega
theorem len32_zero : len32 0 0 = 0 := root_zero
end Go.Proofs.Gn
