/- PlaneHalves returns true for every input: the numbers for its walk. -/
import Derived.Test.YtcicjboopipgoaaLawHalves
namespace Go.Proofs.Ytcicjboopipgoaa
open Go.RowKit Go.Proofs.Gn
theorem rem_bd (n : Int) : -2048 ≤ n.tmod 2049 ∧ n.tmod 2049 ≤ 2048 := by
  have a := Int.tmod_lt_of_pos n (b := 2049) (by omega)
  have b := Int.lt_tmod_of_pos n (b := 2049) (by omega)
  omega
theorem scale_bd {p b : Int} (h1 : -128 ≤ p) (h2 : p ≤ 127) (b1 : 0 ≤ b) (b2 : b ≤ 255) : -32768 ≤ p * (1 + b) ∧ p * (1 + b) ≤ 32768 := by
  have a := Int.mul_le_mul_of_nonneg_right h1 (show 0 ≤ 1 + b by omega)
  have c := Int.mul_le_mul_of_nonneg_right h2 (show 0 ≤ 1 + b by omega)
  omega
theorem okp_small {x y : Int} (h1 : -32768 ≤ x) (h2 : x ≤ 32768) (h3 : -32768 ≤ y) (h4 : y ≤ 32768) : okp x y = true := by
  unfold okp okc; simp; omega
theorem dist_small {px py ox oy : Int} (h1 : -32768 ≤ px) (h2 : px ≤ 32768) (h3 : -32768 ≤ py) (h4 : py ≤ 32768) (h5 : -128 ≤ ox) (h6 : ox ≤ 128) (h7 : -128 ≤ oy) (h8 : oy ≤ 128) : 0 ≤ root (sqd px py ox oy) ∧ root (sqd px py ox oy) ≤ 46600 := by
  refine ⟨root_nonneg _, root_le (sqd_nonneg _ _ _ _) (by omega) ?_⟩
  unfold sqd
  have u1 := sq_le_sq_abs (ox - px) 65792 (by omega) (by omega)
  have u2 := sq_le_sq_abs (oy - py) 65792 (by omega) (by omega)
  omega
theorem l_Halves (n m d k pX pY oX oY z : Int) (w : World)
    (n1 : -32768 ≤ n) (n2 : n ≤ 32767) (m1 : -32768 ≤ m) (m2 : m ≤ 32767) (d1 : 0 ≤ d) (d2 : d ≤ 65535) (k1 : 0 ≤ k) (k2 : k ≤ 65535) (p1 : -128 ≤ pX) (p2 : pX ≤ 127) (p3 : -128 ≤ pY) (p4 : pY ≤ 127) (o1 : -128 ≤ oX) (o2 : oX ≤ 127) (o3 : -128 ≤ oY) (o4 : oY ≤ 127) (z1 : 0 ≤ z) (z2 : z ≤ 255) :
    Calls Try.prog 13 #[.int .i16 n, .int .i16 m, .int .u16 d, .int .u16 k, .agg #[.int .i8 pX, .int .i8 pY], .agg #[.int .i8 oX, .int .i8 oY], .int .u8 z] w fun e w' => e = .returned (.bool true) ∧ Up w w' := by
  have ra := rem_bd n
  have rb := rem_bd m
  have xb := scale_bd p1 p2 z1 z2
  have yb := scale_bd p3 p4 z1 z2
  obtain ⟨A, hA⟩ : ∃ A, n.tmod 2049 = A := ⟨_, rfl⟩
  obtain ⟨B, hB⟩ : ∃ A, m.tmod 2049 = A := ⟨_, rfl⟩
  obtain ⟨D, hD⟩ : ∃ D, 1 + d % 2048 = D := ⟨_, rfl⟩
  obtain ⟨K, hK⟩ : ∃ D, 1 + k % 2048 = D := ⟨_, rfl⟩
  obtain ⟨x, hx⟩ : ∃ x, pX * (1 + z) = x := ⟨_, rfl⟩
  obtain ⟨y, hy⟩ : ∃ x, pY * (1 + z) = x := ⟨_, rfl⟩
  rw [hA] at ra
  rw [hB] at rb
  rw [hx] at xb
  rw [hy] at yb
  have ha : halB A D = true := decide_eq_true ⟨by omega, by omega, by omega, by omega⟩
  have hb : halB B K = true := decide_eq_true ⟨by omega, by omega, by omega, by omega⟩
  have va := half_rot ha
  have vb := half_rot hb
  have ea : halE A D = 0 := by unfold halE; rw [ha]; rfl
  have eb : halE B K = 0 := by unfold halE; rw [hb]; rfl
  obtain ⟨hC, qC⟩ : ∃ v, halC A D = v := ⟨_, rfl⟩
  obtain ⟨hS, qS⟩ : ∃ v, halS A D = v := ⟨_, rfl⟩
  obtain ⟨hN, qN⟩ : ∃ v, halN A D = v := ⟨_, rfl⟩
  obtain ⟨gC, tC⟩ : ∃ v, halC B K = v := ⟨_, rfl⟩
  obtain ⟨gS, tS⟩ : ∃ v, halS B K = v := ⟨_, rfl⟩
  obtain ⟨gN, tN⟩ : ∃ v, halN B K = v := ⟨_, rfl⟩
  rw [qC, qS, qN] at va
  rw [tC, tS, tN] at vb
  have P1 : ∀ W : World, Calls Try.prog 51 #[.int .i64 A, .int .i64 D] W fun e w' => e = .returned (.tuple #[rt hC hS hN, .int .i64 0]) ∧ Up W w' := fun W => by
    have := p_Half A D W
    rwa [qC, qS, qN, ea] at this
  have P2 : ∀ W : World, Calls Try.prog 51 #[.int .i64 B, .int .i64 K] W fun e w' => e = .returned (.tuple #[rt gC gS gN, .int .i64 0]) ∧ Up W w' := fun W => by
    have := p_Half B K W
    rwa [tC, tS, tN, eb] at this
  obtain ⟨a1, a2, a3, a4, a5, a6, -⟩ := rotB_yes va
  obtain ⟨b1, b2, b3, b4, b5, b6, -⟩ := rotB_yes vb
  have re : ∀ {c s n : Int}, rotB c s n = true → rotE c s n = 0 := fun h => by unfold rotE; rw [h]; rfl
  have P3 : ∀ W : World, Calls Try.prog 53 #[rt hC hS hN] W fun e w' => e = .returned (.int .i64 0) ∧ Up W w' := fun W => by
    have := p_CheckRot hC hS hN W (by omega) (by omega)
    rwa [re va] at this
  have P4 : ∀ W : World, Calls Try.prog 53 #[rt gC gS gN] W fun e w' => e = .returned (.int .i64 0) ∧ Up W w' := fun W => by
    have := p_CheckRot gC gS gN W (by omega) (by omega)
    rwa [re vb] at this
  obtain ⟨f1, f2, f3, f4⟩ := back_facts va
  have P7 : ∀ W : World, Calls Try.prog 55 #[rt hC hS hN, rt hC (-hS) hN] W fun e w' => e = .returned (.tuple #[rt 1 0 1, .int .i64 0]) ∧ Up W w' := fun W => by
    have := p_Both hC hS hN hC (-hS) hN W (by omega) (by omega) (by omega) (by omega)
    rwa [f1, f2, f3, f4] at this
  obtain ⟨g1, g2, g3⟩ := turned_facts (px := x) (py := y) (ox := oX) (oy := oY) va (by omega) (by omega) (by omega) (by omega) (by omega) (by omega) (by omega) (by omega)
  have okx := okp_small xb.1 xb.2 yb.1 yb.2
  have oko := okp_small (x := oX) (y := oY) (by omega) (by omega) (by omega) (by omega)
  have ds := dist_small (px := x) (py := y) (ox := oX) (oy := oY) (by omega) (by omega) (by omega) (by omega) (by omega) (by omega) (by omega) (by omega)
  have hn := root_nonneg (sqd (roX x y oX oY hC hS hN) (roY x y oX oY hC hS hN) oX oY)
  have P8 : ∀ W : World, Calls Try.prog 57 #[pt x y, pt oX oY, rt hC hS hN] W fun e w' => e = .returned (.tuple #[pt (roX x y oX oY hC hS hN) (roY x y oX oY hC hS hN), .int .i64 0]) ∧ Up W w' := fun W => by
    have := p_Rotate x y oX oY hC hS hN W (by omega) (by omega)
    unfold rtV rtE resX resE at this
    rw [okx, oko, va, g1] at this
    exact this
  have P9 : ∀ W : World, Calls Try.prog 25 #[pt x y, pt oX oY] W fun e w' => e = .returned (.tuple #[.int .i64 (root (sqd x y oX oY)), .int .i64 0]) ∧ Up W w' := fun W => by
    have := p_Distance x y oX oY W
    unfold diV diE at this
    rw [okx, oko] at this
    exact this
  have P10 : ∀ W : World, Calls Try.prog 25 #[pt (roX x y oX oY hC hS hN) (roY x y oX oY hC hS hN), pt oX oY] W fun e w' => e = .returned (.tuple #[.int .i64 (root (sqd (roX x y oX oY hC hS hN) (roY x y oX oY hC hS hN) oX oY)), .int .i64 0]) ∧ Up W w' := fun W => by
    have := p_Distance (roX x y oX oY hC hS hN) (roY x y oX oY hC hS hN) oX oY W
    unfold diV diE at this
    rw [g1, oko] at this
    exact this
  have hle : apart (root (sqd x y oX oY)) (root (sqd (roX x y oX oY hC hS hN) (roY x y oX oY hC hS hN) oX oY)) ≤ 2 := by unfold apart; omega
  have hB2 : boB hC hS hN gC gS gN = true := by unfold boB; rw [va, vb]; rfl
  by_cases hfit : hN * gN / (boG hC hS hN gC gS gN : Int) ≤ 16777216
  · have br := both_rot va vb hfit
    have hd : decide (hN * gN / (boG hC hS hN gC gS gN : Int) ≤ 16777216) = true := decide_eq_true hfit
    have P5 : ∀ W : World, Calls Try.prog 55 #[rt hC hS hN, rt gC gS gN] W fun e w' => e = .returned (.tuple #[rt ((boC hC hS gC gS).tdiv (boG hC hS hN gC gS gN)) ((boS hC hS gC gS).tdiv (boG hC hS hN gC gS gN)) ((hN * gN).tdiv (boG hC hS hN gC gS gN)), .int .i64 0]) ∧ Up W w' := fun W => by
      have := p_Both hC hS hN gC gS gN W (by omega) (by omega) (by omega) (by omega)
      unfold boV boE at this
      rw [hB2, hd, if_pos hfit] at this
      exact this
    have bb := rotB_yes br
    have P6 : ∀ W : World, Calls Try.prog 53 #[rt ((boC hC hS gC gS).tdiv (boG hC hS hN gC gS gN)) ((boS hC hS gC gS).tdiv (boG hC hS hN gC gS gN)) ((hN * gN).tdiv (boG hC hS hN gC gS gN))] W fun e w' => e = .returned (.int .i64 0) ∧ Up W w' := fun W => by
      have := p_CheckRot ((boC hC hS gC gS).tdiv (boG hC hS hN gC gS gN)) ((boS hC hS gC gS).tdiv (boG hC hS hN gC gS gN)) ((hN * gN).tdiv (boG hC hS hN gC gS gN)) W (by omega) (by omega)
      rwa [re br] at this
    exact l_Halves_fit n m d k pX pY oX oY z A B D K x y hC hS hN gC gS gN _ _ _ _ _ _ _ w n1 n2 m1 m2 d1 d2 k1 k2 p1 p2 p3 p4 o1 o2 o3 o4 z1 z2 hA hB hD hK hx hy xb yb ⟨by omega, by omega⟩ ⟨ds.1, by omega⟩ ⟨hn, by omega⟩ hle (hide P1) (hide P2) (hide P3) (hide P4) (hide P5) (hide P6) (hide P7) (hide P8) (hide P9) (hide P10)
  · have hd : decide (hN * gN / (boG hC hS hN gC gS gN : Int) ≤ 16777216) = false := decide_eq_false hfit
    have P5 : ∀ W : World, Calls Try.prog 55 #[rt hC hS hN, rt gC gS gN] W fun e w' => e = .returned (.tuple #[rt 0 0 0, .int .i64 4]) ∧ Up W w' := fun W => by
      have := p_Both hC hS hN gC gS gN W (by omega) (by omega) (by omega) (by omega)
      unfold boV boE at this
      rw [hB2, hd, if_neg hfit] at this
      exact this
    exact l_Halves_over n m d k pX pY oX oY z A B D K x y hC hS hN gC gS gN _ _ _ _ _ _ _ w n1 n2 m1 m2 d1 d2 k1 k2 p1 p2 p3 p4 o1 o2 o3 o4 z1 z2 hA hB hD hK hx hy xb yb ⟨by omega, by omega⟩ ⟨ds.1, by omega⟩ ⟨hn, by omega⟩ hle (hide P1) (hide P2) (hide P3) (hide P4) (hide P5) (hide P7) (hide P8) (hide P9) (hide P10)
end Go.Proofs.Ytcicjboopipgoaa
