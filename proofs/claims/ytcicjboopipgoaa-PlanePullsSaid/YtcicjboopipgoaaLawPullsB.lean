/- PlanePulls returns true for every input: the numbers for its walks. -/
import Derived.Test.YtcicjboopipgoaaLawPulls
import Derived.Test.YtcicjboopipgoaaLawHalvesB
import Derived.Test.YtcicjboopipgoaaPullsM
namespace Go.Proofs.Ytcicjboopipgoaa
open Go.RowKit Go.Proofs.Gn
theorem scale_bd2 {p b : Int} (h1 : -128 ≤ p) (h2 : p ≤ 127) (b1 : 0 ≤ b) (b2 : b ≤ 65535) : -8388608 ≤ p * (1 + b) ∧ p * (1 + b) ≤ 8388608 := by
  have a := Int.mul_le_mul_of_nonneg_right h1 (show 0 ≤ 1 + b by omega)
  have c := Int.mul_le_mul_of_nonneg_right h2 (show 0 ≤ 1 + b by omega)
  omega
theorem okp_mid {x y : Int} (h1 : -16777216 ≤ x) (h2 : x ≤ 16777216) (h3 : -16777216 ≤ y) (h4 : y ≤ 16777216) : okp x y = true := by
  unfold okp okc; simp; omega
/-- What Pull returns for valid points that differ. -/
theorem pull_ret {ax ay hx hy l X Y : Int} (o1 : okp ax ay = true) (o2 : okp hx hy = true) (hl : (decide (1 ≤ l) && decide (l ≤ 16777216)) = true) (h0 : ¬ (hx = ax ∧ hy = ay)) (eX : plX ax ay hx hy l 0 = X) (eY : plY ax ay hx hy l 0 = Y) (o3 : okp X Y = true) (W : World) :
    Calls Try.prog 61 #[pt ax ay, pt hx hy, .int .i64 l] W fun e w' => e = .returned (.tuple #[pt X Y, .int .i64 0]) ∧ Up W w' := by
  have := p_Pull ax ay hx hy l W
  unfold lkV lkE cV cE resX resE at this
  rw [o1, o2, hl, eX, eY, o3, if_neg h0, if_neg h0, if_neg h0] at this
  exact this
theorem dist_ret {ax ay bx b_y : Int} (o1 : okp ax ay = true) (o2 : okp bx b_y = true) (W : World) :
    Calls Try.prog 25 #[pt ax ay, pt bx b_y] W fun e w' => e = .returned (.tuple #[.int .i64 (root (sqd ax ay bx b_y)), .int .i64 0]) ∧ Up W w' := by
  have := p_Distance ax ay bx b_y W
  unfold diV diE at this
  rw [o1, o2] at this
  exact this
theorem l_Pulls (hX hY aX aY z len : Int) (w : World)
    (h1 : -128 ≤ hX) (h2 : hX ≤ 127) (h3 : -128 ≤ hY) (h4 : hY ≤ 127) (a1 : -128 ≤ aX) (a2 : aX ≤ 127) (a3 : -128 ≤ aY) (a4 : aY ≤ 127) (z1 : 0 ≤ z) (z2 : z ≤ 65535) (n1 : 0 ≤ len) (n2 : len ≤ 4294967295) :
    Calls Try.prog 14 #[.agg #[.int .i8 hX, .int .i8 hY], .agg #[.int .i8 aX, .int .i8 aY], .int .u16 z, .int .u32 len] w fun e w' => e = .returned (.bool true) ∧ Up w w' := by
  have xb := scale_bd2 a1 a2 z1 z2
  have yb := scale_bd2 a3 a4 z1 z2
  obtain ⟨X, hx⟩ : ∃ x, aX * (1 + z) = x := ⟨_, rfl⟩
  obtain ⟨Y, hy⟩ : ∃ x, aY * (1 + z) = x := ⟨_, rfl⟩
  obtain ⟨l, hl⟩ : ∃ l, 1 + len % 1048576 = l := ⟨_, rfl⟩
  rw [hx] at xb
  rw [hy] at yb
  have l1 : 1 ≤ l := by omega
  have l2 : l ≤ 1048576 := by omega
  have oh := okp_mid (x := hX) (y := hY) (by omega) (by omega) (by omega) (by omega)
  have oy := okp_mid (x := X) (y := Y) (by omega) (by omega) (by omega) (by omega)
  have hr : (decide (1 ≤ l) && decide (l ≤ 16777216)) = true := by simp; omega
  by_cases he : X = hX ∧ Y = hY
  · obtain ⟨rfl, rfl⟩ := he
    have P1 : ∀ W : World, Calls Try.prog 61 #[pt X Y, pt X Y, .int .i64 l] W fun e w' => e = .returned (.tuple #[pt 0 0, .int .i64 9]) ∧ Up W w' := fun W => by
      have := p_Pull X Y X Y l W
      unfold lkV lkE cV cE at this
      rw [oh, hr, if_pos (show X = X ∧ Y = Y from ⟨rfl, rfl⟩), if_pos (show X = X ∧ Y = Y from ⟨rfl, rfl⟩), if_pos (show X = X ∧ Y = Y from ⟨rfl, rfl⟩)] at this
      exact this
    exact l_Pulls_E X Y aX aY z len l w h1 h2 h3 h4 a1 a2 a3 a4 z1 z2 n1 n2 hx hy hl xb yb (hide P1)
  · have hu : ¬ (X - hX = 0 ∧ Y - hY = 0) := by omega
    have pb := pull_bd (l := l) hu l1
    obtain ⟨pX, eX⟩ : ∃ p, plX hX hY X Y l 0 = p := ⟨_, rfl⟩
    obtain ⟨pY, eY⟩ : ∃ p, plY hX hY X Y l 0 = p := ⟨_, rfl⟩
    have eX2 : putX (X - hX) (Y - hY) l 0 = pX - hX := by unfold plX at eX; omega
    have eY2 : putY (X - hX) (Y - hY) l 0 = pY - hY := by unfold plY at eY; omega
    rw [eX2, eY2] at pb
    have op := okp_mid (x := pX) (y := pY) (by omega) (by omega) (by omega) (by omega)
    have P1 := pull_ret (X := pX) (Y := pY) oh oy hr he eX eY op
    have P2 := dist_ret oh oy
    have eq1 : sqd hX hY X Y = (X - hX) * (X - hX) + (Y - hY) * (Y - hY) := rfl
    have db : 0 ≤ root (sqd hX hY X Y) ∧ root (sqd hX hY X Y) ≤ 100000000 := by
      refine ⟨root_nonneg _, root_le (sqd_nonneg _ _ _ _) (by omega) ?_⟩
      rw [eq1]
      have u1 := sq_le_sq_abs (X - hX) 20000000 (by omega) (by omega)
      have u2 := sq_le_sq_abs (Y - hY) 20000000 (by omega) (by omega)
      omega
    by_cases hd : 16 * root (sqd hX hY X Y) < l
    · by_cases hc : X = hX
      · subst hc
        have hne : (hY == Y) = false := by simpa using fun h => he ⟨rfl, h.symm⟩
        exact l_Pulls_N1y X hY aX aY z len l Y pX pY _ w h1 h2 h3 h4 a1 a2 a3 a4 z1 z2 n1 n2 hx hy hl xb yb hne (hide P1) (hide P2) db hd
      · have hne : (hX == X) = false := by simpa using fun h => hc h.symm
        exact l_Pulls_N1x hX hY aX aY z len l X Y pX pY _ w h1 h2 h3 h4 a1 a2 a3 a4 z1 z2 n1 n2 hx hy hl xb yb hne (hide P1) (hide P2) db hd
    · have hd' : l ≤ 16 * root (sqd hX hY X Y) := by omega
      have pf := pull_far (l := l) hu l1 (by rw [← eq1]; exact hd')
      rw [eX2, eY2] at pf
      have eq2 : sqd hX hY pX pY = (pX - hX) * (pX - hX) + (pY - hY) * (pY - hY) := rfl
      have P3 := dist_ret oh op
      have nb : 0 ≤ root (sqd hX hY pX pY) ∧ root (sqd hX hY pX pY) ≤ 100000000 := ⟨root_nonneg _, by rw [eq2]; omega⟩
      have hn : apart (root (sqd hX hY pX pY)) l ≤ 2 := by
        unfold apart
        rw [eq2]
        omega
      by_cases hs : l < 100
      · by_cases hc : X = hX
        · subst hc
          have hne : (hY == Y) = false := by simpa using fun h => he ⟨rfl, h.symm⟩
          exact l_Pulls_N2ay X hY aX aY z len l Y pX pY _ _ w h1 h2 h3 h4 a1 a2 a3 a4 z1 z2 n1 n2 hx hy hl xb yb hne (hide P1) (hide P2) db hd' (hide P3) nb hn hs
        · have hne : (hX == X) = false := by simpa using fun h => hc h.symm
          exact l_Pulls_N2ax hX hY aX aY z len l X Y pX pY _ _ w h1 h2 h3 h4 a1 a2 a3 a4 z1 z2 n1 n2 hx hy hl xb yb hne (hide P1) (hide P2) db hd' (hide P3) nb hn hs
      · have hs' : 100 ≤ l := by omega
        have ⟨g0, g1, g2⟩ := pull_again hs' pf.1 pf.2.2
        obtain ⟨qX, fX⟩ : ∃ p, plX hX hY pX pY l 0 = p := ⟨_, rfl⟩
        obtain ⟨qY, fY⟩ : ∃ p, plY hX hY pX pY l 0 = p := ⟨_, rfl⟩
        have fX2 : putX (pX - hX) (pY - hY) l 0 = qX - hX := by unfold plX at fX; omega
        have fY2 : putY (pX - hX) (pY - hY) l 0 = qY - hY := by unfold plY at fY; omega
        rw [fX2] at g1
        rw [fY2] at g2
        have oq := okp_mid (x := qX) (y := qY) (by omega) (by omega) (by omega) (by omega)
        have P4 := pull_ret (X := qX) (Y := qY) oh op hr (by omega) fX fY oq
        have k1 : apart pX qX ≤ 2 := by unfold apart; omega
        have k2 : apart pY qY ≤ 2 := by unfold apart; omega
        have pq : -100000000 ≤ pX ∧ pX ≤ 100000000 ∧ -100000000 ≤ pY ∧ pY ≤ 100000000 ∧ -100000000 ≤ qX ∧ qX ≤ 100000000 ∧ -100000000 ≤ qY ∧ qY ≤ 100000000 := by omega
        by_cases hc : X = hX
        · subst hc
          have hne : (hY == Y) = false := by simpa using fun h => he ⟨rfl, h.symm⟩
          exact l_Pulls_N2by X hY aX aY z len l Y pX pY _ _ qX qY w h1 h2 h3 h4 a1 a2 a3 a4 z1 z2 n1 n2 hx hy hl xb yb hne (hide P1) (hide P2) db hd' (hide P3) nb hn hs' (hide P4) pq k1 k2
        · have hne : (hX == X) = false := by simpa using fun h => hc h.symm
          exact l_Pulls_N2bx hX hY aX aY z len l X Y pX pY _ _ qX qY w h1 h2 h3 h4 a1 a2 a3 a4 z1 z2 n1 n2 hx hy hl xb yb hne (hide P1) (hide P2) db hd' (hide P3) nb hn hs' (hide P4) pq k1 k2
end Go.Proofs.Ytcicjboopipgoaa
