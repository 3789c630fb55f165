/- Properties of bodies: an axle that is pulled is as far from its hitch as the bar is long, but for 2; pulled again it moves by at most 2. No walk. -/
import Derived.Test.YtcicjboopipgoaaPlace
namespace Go.Proofs.Ytcicjboopipgoaa
open Go.RowKit Go.Proofs.Gn
theorem round_farG {A B N p : Int} (hN : 0 < N) (hp : 0 ≤ p) (hP : A*A+B*B ≤ (p*N)*(p*N)) :
    near A N * near A N + near B N * near B N ≤ (p+1)*(p+1) := by
  have ⟨a1, a2⟩ := near_spec (n := A) hN
  have ⟨b1, b2⟩ := near_spec (n := B) hN
  have ha := sq_le_sq_abs (near A N * N - A) N (by omega) (by omega)
  have hb := sq_le_sq_abs (near B N * N - B) N (by omega) (by omega)
  have t := tri (ux := A) (uy := B) (vx := near A N * N - A) (vy := near B N * N - B) (p := p * N) (q := N) (Int.mul_nonneg hp (by omega)) (by omega) hP (by have := Int.mul_pos hN hN; omega)
  have e1 : A + (near A N * N - A) = near A N * N := by omega
  have e2 : B + (near B N * N - B) = near B N * N := by omega
  rw [e1, e2] at t
  apply le_of_mul_sq hN
  have e3 : near A N * N * (near A N * N) + near B N * N * (near B N * N) = N * N * (near A N * near A N + near B N * near B N) := by grind
  have e4 : (p * N + N) * (p * N + N) = N * N * ((p + 1) * (p + 1)) := by grind
  omega
theorem round_nearG {A B N q : Int} (hN : 0 < N) (hq : 0 ≤ q) (h : near A N * near A N + near B N * near B N ≤ q*q) :
    A*A+B*B ≤ ((q+1)*N)*((q+1)*N) := by
  have ⟨a1, a2⟩ := near_spec (n := A) hN
  have ⟨b1, b2⟩ := near_spec (n := B) hN
  have ha := sq_le_sq_abs (A - near A N * N) N (by omega) (by omega)
  have hb := sq_le_sq_abs (B - near B N * N) N (by omega) (by omega)
  have hm : (near A N * near A N + near B N * near B N)*(N*N) ≤ (q*q)*(N*N) := Int.mul_le_mul_of_nonneg_right h (Int.mul_nonneg (by omega) (by omega))
  have t := tri (ux := near A N * N) (uy := near B N * N) (vx := A - near A N * N) (vy := B - near B N * N) (p := q * N) (q := N) (Int.mul_nonneg hq (by omega)) (by omega)
    (by have e : (q*N)*(q*N) = (q*q)*(N*N) := by grind
        have e3 : near A N * N * (near A N * N) + near B N * N * (near B N * N) = (near A N * near A N + near B N * near B N) * (N * N) := by grind
        omega) (by have := Int.mul_pos hN hN; omega)
  have e1 : near A N * N + (A - near A N * N) = A := by omega
  have e2 : near B N * N + (B - near B N * N) = B := by omega
  rw [e1, e2] at t
  have e4 : q * N + N = (q + 1) * N := by rw [Int.add_mul]; omega
  rw [e4] at t
  exact t
theorem pull_sq (u v l : Int) : (32 * (u * l - v * 0)) * (32 * (u * l - v * 0)) + (32 * (v * l + u * 0)) * (32 * (v * l + u * 0)) = (l * l) * (1024 * (u * u + v * v)) := by grind
theorem len32_spec (u v : Int) : len32 u v * len32 u v ≤ 1024 * (u * u + v * v) ∧ 1024 * (u * u + v * v) < (len32 u v + 1) * (len32 u v + 1) := by
  have a := sq_nonneg u
  have b := sq_nonneg v
  exact ⟨root_sq (by omega), lt_root (by omega)⟩
/-- A pulled axle is never much farther than twice the bar. -/
theorem pull_bd {u v l : Int} (h0 : ¬ (u = 0 ∧ v = 0)) (hl : 1 ≤ l) :
    (-(2 * l + 1) ≤ putX u v l 0 ∧ putX u v l 0 ≤ 2 * l + 1) ∧ (-(2 * l + 1) ≤ putY u v l 0 ∧ putY u v l 0 ≤ 2 * l + 1) := by
  have hr := len32_pos h0
  have ⟨s1, s2⟩ := len32_spec u v
  have e := pull_sq u v l
  unfold putX putY
  generalize len32 u v = r at *
  have h1 : (l * l) * (1024 * (u * u + v * v)) ≤ (l * l) * ((r + 1) * (r + 1)) := Int.mul_le_mul_of_nonneg_left (by omega) (sq_nonneg l)
  have h2 : (r + 1) * (r + 1) ≤ (2 * r) * (2 * r) := sq_le_sq (by omega) (by omega)
  have h3 : (l * l) * ((r + 1) * (r + 1)) ≤ (l * l) * ((2 * r) * (2 * r)) := Int.mul_le_mul_of_nonneg_left h2 (sq_nonneg l)
  have h4 : (l * l) * ((2 * r) * (2 * r)) = ((2 * l) * r) * ((2 * l) * r) := by grind
  have f := round_farG (A := 32 * (u * l - v * 0)) (B := 32 * (v * l + u * 0)) (N := r) (p := 2 * l) (by omega) (by omega) (by omega)
  have q1 := sq_nonneg (near (32 * (u * l - v * 0)) r)
  have q2 := sq_nonneg (near (32 * (v * l + u * 0)) r)
  exact ⟨abs_sq (by omega) (by omega), abs_sq (by omega) (by omega)⟩
/-- If the axle was at least a 16th of the length away, it comes to the length, but for 2. -/
theorem pull_far {u v l : Int} (h0 : ¬ (u = 0 ∧ v = 0)) (hl : 1 ≤ l) (hd : l ≤ 16 * root (u * u + v * v)) :
    putX u v l 0 * putX u v l 0 + putY u v l 0 * putY u v l 0 ≤ (l + 2) * (l + 2) ∧
    root (putX u v l 0 * putX u v l 0 + putY u v l 0 * putY u v l 0) ≤ l + 2 ∧ l ≤ root (putX u v l 0 * putX u v l 0 + putY u v l 0 * putY u v l 0) + 2 := by
  have hr := len32_pos h0
  have ⟨s1, s2⟩ := len32_spec u v
  have e := pull_sq u v l
  have hP : 0 ≤ u * u + v * v := by have := sq_nonneg u; have := sq_nonneg v; omega
  have hd2 : 32 * root (u * u + v * v) ≤ len32 u v := by
    unfold len32
    apply le_root (by omega)
    have := root_sq hP
    have e2 : 32 * root (u * u + v * v) * (32 * root (u * u + v * v)) = 1024 * (root (u * u + v * v) * root (u * u + v * v)) := by grind
    omega
  unfold putX putY
  generalize len32 u v = r at *
  have hlr : l ≤ r := by omega
  have h1 : (l * l) * (1024 * (u * u + v * v)) ≤ (l * l) * ((r + 1) * (r + 1)) := Int.mul_le_mul_of_nonneg_left (by omega) (sq_nonneg l)
  have h5 : (l * (r + 1)) * (l * (r + 1)) ≤ ((l + 1) * r) * ((l + 1) * r) := sq_le_sq (Int.mul_nonneg (by omega) (by omega)) (by rw [Int.mul_add, Int.add_mul]; omega)
  have h6 : (l * l) * ((r + 1) * (r + 1)) = (l * (r + 1)) * (l * (r + 1)) := by grind
  have f := round_farG (A := 32 * (u * l - v * 0)) (B := 32 * (v * l + u * 0)) (N := r) (p := l + 1) (by omega) (by omega) (by omega)
  have e7 : l + 1 + 1 = l + 2 := by omega
  rw [e7] at f
  have q1 := sq_nonneg (near (32 * (u * l - v * 0)) r)
  have q2 := sq_nonneg (near (32 * (v * l + u * 0)) r)
  generalize hQ : near (32 * (u * l - v * 0)) r * near (32 * (u * l - v * 0)) r + near (32 * (v * l + u * 0)) r * near (32 * (v * l + u * 0)) r = Q at *
  have hQ0 : 0 ≤ Q := by omega
  have hn := root_nonneg Q
  have hlt := lt_root hQ0
  refine ⟨f, root_le hQ0 (by omega) f, ?_⟩
  have g := round_nearG (A := 32 * (u * l - v * 0)) (B := 32 * (v * l + u * 0)) (N := r) (q := root Q + 1) (by omega) (by omega) (by omega)
  have h7 : (l * l) * (r * r) ≤ (l * l) * (1024 * (u * u + v * v)) := Int.mul_le_mul_of_nonneg_left (by omega) (sq_nonneg l)
  have h8 : (r * r) * (l * l) ≤ (r * r) * ((root Q + 2) * (root Q + 2)) := by
    have e8 : (root Q + 1 + 1) * r * ((root Q + 1 + 1) * r) = (r * r) * ((root Q + 2) * (root Q + 2)) := by grind
    have e9 : (l * l) * (r * r) = (r * r) * (l * l) := Int.mul_comm _ _
    omega
  exact le_of_sq (by omega) (le_of_mul_sq (by omega) h8)
theorem again_one {X r l X2 : Int} (hr : 0 < r) (h1 : 32 * l - r ≤ 64) (h2 : -64 ≤ 32 * l - r) (h3 : -r ≤ 32 * X) (h4 : 32 * X ≤ r)
    (a1 : 2 * (X2 * r) ≤ 2 * (32 * (X * l)) + r) (a2 : 2 * (32 * (X * l)) + r < 2 * (X2 * r) + 2 * r) : -2 ≤ X - X2 ∧ X - X2 ≤ 2 := by
  have e : 32 * (X * l) = X * r + X * (32 * l - r) := by grind
  have b : -(2 * r) ≤ X * (32 * l - r) ∧ X * (32 * l - r) ≤ 2 * r := by
    have c1 : (r + 32 * X) * (64 - (32 * l - r)) ≥ 0 := Int.mul_nonneg (by omega) (by omega)
    have c2 : (r - 32 * X) * (64 - (32 * l - r)) ≥ 0 := Int.mul_nonneg (by omega) (by omega)
    have c3 : (r + 32 * X) * (64 + (32 * l - r)) ≥ 0 := Int.mul_nonneg (by omega) (by omega)
    have c4 : (r - 32 * X) * (64 + (32 * l - r)) ≥ 0 := Int.mul_nonneg (by omega) (by omega)
    generalize 32 * l - r = t at *
    have d1 : (r + 32 * X) * (64 - t) = 64 * r - r * t + 2048 * X - 32 * (X * t) := by grind
    have d2 : (r - 32 * X) * (64 - t) = 64 * r - r * t - 2048 * X + 32 * (X * t) := by grind
    have d3 : (r + 32 * X) * (64 + t) = 64 * r + r * t + 2048 * X + 32 * (X * t) := by grind
    have d4 : (r - 32 * X) * (64 + t) = 64 * r + r * t - 2048 * X - 32 * (X * t) := by grind
    omega
  have f1 : (X2 - X) * r ≤ 2 * r + r := by rw [Int.sub_mul]; omega
  have g1 : 2 * ((X2 - X) * r) ≤ 5 * r := by rw [Int.sub_mul]; omega
  have g2 : 2 * ((X - X2) * r) < 5 * r := by rw [Int.sub_mul]; omega
  constructor
  · rcases Int.lt_or_le (X - X2) (-2) with h | h
    · have : 3 * r ≤ (X2 - X) * r := Int.mul_le_mul_of_nonneg_right (by omega) (by omega)
      omega
    · exact h
  · rcases Int.lt_or_le 2 (X - X2) with h | h
    · have : 3 * r ≤ (X - X2) * r := Int.mul_le_mul_of_nonneg_right (by omega) (by omega)
      omega
    · exact h
/-- Pulled again it moves by at most 2. -/
theorem pull_again {X Y l : Int} (hl : 100 ≤ l) (h1 : X * X + Y * Y ≤ (l + 2) * (l + 2)) (h2 : l ≤ root (X * X + Y * Y) + 2) :
    ¬ (X = 0 ∧ Y = 0) ∧ (-2 ≤ X - putX X Y l 0 ∧ X - putX X Y l 0 ≤ 2) ∧ (-2 ≤ Y - putY X Y l 0 ∧ Y - putY X Y l 0 ≤ 2) := by
  have a := sq_nonneg X
  have b := sq_nonneg Y
  have hQ : 0 ≤ X * X + Y * Y := by omega
  have hn : (l - 2) * (l - 2) ≤ X * X + Y * Y := Int.le_trans (sq_le_sq (by omega) (by omega)) (root_sq hQ)
  have h0 : ¬ (X = 0 ∧ Y = 0) := by
    rintro ⟨rfl, rfl⟩
    have : (98 : Int) * 98 ≤ (l - 2) * (l - 2) := sq_le_sq (by omega) (by omega)
    omega
  refine ⟨h0, ?_⟩
  have hr := len32_pos h0
  have r1 : len32 X Y ≤ 32 * (l + 2) := by
    unfold len32
    apply root_le (by omega) (by omega)
    have e : 32 * (l + 2) * (32 * (l + 2)) = 1024 * ((l + 2) * (l + 2)) := by grind
    omega
  have r2 : 32 * (l - 2) ≤ len32 X Y := by
    unfold len32
    apply le_root (by omega)
    have e : 32 * (l - 2) * (32 * (l - 2)) = 1024 * ((l - 2) * (l - 2)) := by grind
    omega
  have r3 : 32 * X ≤ len32 X Y ∧ 32 * -X ≤ len32 X Y := by
    unfold len32
    refine ⟨le_root (by omega) ?_, le_root (by omega) ?_⟩
    · have e : 32 * X * (32 * X) = 1024 * (X * X) := by grind
      omega
    · have e : 32 * -X * (32 * -X) = 1024 * (X * X) := by grind
      omega
  have r4 : 32 * Y ≤ len32 X Y ∧ 32 * -Y ≤ len32 X Y := by
    unfold len32
    refine ⟨le_root (by omega) ?_, le_root (by omega) ?_⟩
    · have e : 32 * Y * (32 * Y) = 1024 * (Y * Y) := by grind
      omega
    · have e : 32 * -Y * (32 * -Y) = 1024 * (Y * Y) := by grind
      omega
  unfold putX putY
  generalize len32 X Y = r at *
  have e1 : 32 * (X * l - Y * 0) = 32 * (X * l) := by rw [Int.mul_zero, Int.sub_zero]
  have e2 : 32 * (Y * l + X * 0) = 32 * (Y * l) := by rw [Int.mul_zero, Int.add_zero]
  rw [e1, e2]
  have ⟨n1, n2⟩ := near_spec (n := 32 * (X * l)) (d := r) (by omega)
  have ⟨n3, n4⟩ := near_spec (n := 32 * (Y * l)) (d := r) (by omega)
  exact ⟨again_one (by omega) (by omega) (by omega) (by omega) (by omega) n1 n2, again_one (by omega) (by omega) (by omega) (by omega) (by omega) n3 n4⟩
end Go.Proofs.Ytcicjboopipgoaa
