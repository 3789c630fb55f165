/- Properties of turns: halves make valid turns, two of them do, a turn and the one back make none, a turned point is as far away as before, but for 2. No walk. -/
import Derived.Test.YtcicjboopipgoaaGcd
import Derived.Test.YtcicjboopipgoaaRotate
namespace Go.Proofs.Ytcicjboopipgoaa
open Go.RowKit Go.Proofs.Gn
theorem half_rot {n d : Int} (h : halB n d = true) : rotB (halC n d) (halS n d) (halN n d) = true := by
  obtain ⟨b1, b2, b3, b4⟩ := halB_yes h
  unfold halC halS halN
  rw [if_pos h, if_pos h, if_pos h]
  have m1 := sq_nonneg n
  have m2 : 1 ≤ d * d := by have := Int.mul_le_mul b1 b1 (by omega) (by omega); omega
  have m3 : d * d ≤ 2048 * 2048 := Int.mul_le_mul b2 b2 (by omega) (by omega)
  have m4 : n * n ≤ 2048 * 2048 := by
    have := sq_le_sq_abs n 4096 (by omega) (by omega)
    omega
  have m5 := sq_nonneg (d - n)
  have m6 := sq_nonneg (d + n)
  have e5 : (d - n) * (d - n) = d * d + n * n - 2 * n * d := by grind
  have e6 : (d + n) * (d + n) = d * d + n * n + 2 * n * d := by grind
  exact decide_eq_true ⟨by omega, by omega, by omega, by omega, by omega, by omega, half_id n d⟩
theorem tdiv_of {g x y : Int} (hg : 0 < g) (h : x = g * y) : x.tdiv g = y := by
  rw [h, Int.mul_tdiv_cancel_left _ (by omega)]
theorem dvd_of_natAbs {g : Nat} {x : Int} (h : g ∣ x.natAbs) : ∃ y, x = (g : Int) * y := by
  have : (g : Int) ∣ x := Int.ofNat_dvd_left.2 h
  obtain ⟨y, hy⟩ := this
  exact ⟨y, hy⟩
theorem both_rot {c s n c' s' n' : Int} (r1 : rotB c s n = true) (r2 : rotB c' s' n' = true) (hle : n * n' / (boG c s n c' s' n' : Int) ≤ 16777216) :
    rotB ((boC c s c' s').tdiv (boG c s n c' s' n')) ((boS c s c' s').tdiv (boG c s n c' s' n')) ((n * n').tdiv (boG c s n c' s' n')) = true := by
  obtain ⟨a1, a2, a3, a4, a5, a6, a7⟩ := rotB_yes r1
  obtain ⟨b1, b2, b3, b4, b5, b6, b7⟩ := rotB_yes r2
  have hN : 1 ≤ n * n' := by have := Int.mul_pos (a := n) (b := n') (by omega) (by omega); omega
  have hgp : 0 < boG c s n c' s' n' := by unfold boG; exact Nat.gcd_pos_of_pos_left _ (by omega)
  have d1 : boG c s n c' s' n' ∣ (n * n').natAbs := by unfold boG; exact Nat.gcd_dvd_left _ _
  have d2 : boG c s n c' s' n' ∣ (boC c s c' s').natAbs := by unfold boG; exact Nat.dvd_trans (Nat.gcd_dvd_right _ _) (Nat.gcd_dvd_left _ _)
  have d3 : boG c s n c' s' n' ∣ (boS c s c' s').natAbs := by unfold boG; exact Nat.dvd_trans (Nat.gcd_dvd_right _ _) (Nat.gcd_dvd_right _ _)
  generalize hG : boG c s n c' s' n' = G at *
  obtain ⟨N, hN'⟩ := dvd_of_natAbs d1
  obtain ⟨C, hC⟩ := dvd_of_natAbs d2
  obtain ⟨S, hS⟩ := dvd_of_natAbs d3
  obtain ⟨g, hg⟩ : ∃ g : Int, (G : Int) = g := ⟨_, rfl⟩
  rw [hg] at hN' hC hS hle ⊢
  have hg0 : 0 < g := by omega
  rw [tdiv_of hg0 hC, tdiv_of hg0 hS, tdiv_of hg0 hN']
  rw [hN', Int.mul_ediv_cancel_left _ (by omega)] at hle
  have hN1 : 1 ≤ N := by
    rcases Int.lt_or_le N 1 with h | h
    · have : g * N ≤ g * 0 := Int.mul_le_mul_of_nonneg_left (by omega) (by omega)
      omega
    · exact h
  have hsq : (boC c s c' s') * (boC c s c' s') + (boS c s c' s') * (boS c s c' s') = (n * n') * (n * n') := by
    unfold boC boS
    rw [both_id, a7, b7]; grind
  rw [hC, hS, hN'] at hsq
  have he : (g * g) * (C * C + S * S) = (g * g) * (N * N) := by grind
  have hgg : g * g ≠ 0 := by have := Int.mul_pos hg0 hg0; omega
  have hcs : C * C + S * S = N * N := Int.eq_of_mul_eq_mul_left hgg he
  have q1 := sq_nonneg C
  have q2 := sq_nonneg S
  have t1 := abs_sq (a := C) (b := N) (by omega) (by omega)
  have t2 := abs_sq (a := S) (b := N) (by omega) (by omega)
  exact decide_eq_true ⟨hN1, hle, t1.1, t1.2, t2.1, t2.2, hcs⟩
theorem back_rot {c s n : Int} (r1 : rotB c s n = true) : rotB c (-s) n = true := by
  obtain ⟨a1, a2, a3, a4, a5, a6, a7⟩ := rotB_yes r1
  exact decide_eq_true ⟨a1, a2, a3, a4, by omega, by omega, by rw [Int.neg_mul_neg]; exact a7⟩
theorem back_facts {c s n : Int} (r1 : rotB c s n = true) : boV c s n c (-s) n (boC c s c (-s)) = 1 ∧ boV c s n c (-s) n (boS c s c (-s)) = 0 ∧ boV c s n c (-s) n (n * n) = 1 ∧ boE c s n c (-s) n = 0 := by
  obtain ⟨a1, a2, a3, a4, a5, a6, a7⟩ := rotB_yes r1
  have r2 := back_rot r1
  have hp : 0 < n * n := Int.mul_pos (by omega) (by omega)
  have eC : boC c s c (-s) = n * n := by unfold boC; rw [← a7]; grind
  have eS : boS c s c (-s) = 0 := by unfold boS; grind
  have eG : (boG c s n c (-s) n : Int) = n * n := by
    unfold boG
    rw [eC, eS]
    simp only [Int.natAbs_zero, Nat.gcd_zero_right, Nat.gcd_self]
    omega
  have eB : boB c s n c (-s) n = true := by unfold boB; rw [r1, r2]; rfl
  have e1 : n * n / (n * n) = 1 := Int.ediv_self (by omega)
  have e2 : (n * n).tdiv (n * n) = 1 := Int.tdiv_self (by omega)
  unfold boV boE
  rw [eB, eG, eC, eS, e1, e2, Int.zero_tdiv]
  decide
/-- A turned point is valid if it was near, and is as far away as before, but for 2. -/
theorem turned_facts {px py ox oy c s n : Int} (hr : rotB c s n = true) (h1 : -32768 ≤ px) (h2 : px ≤ 32768) (h3 : -32768 ≤ py) (h4 : py ≤ 32768) (h5 : -128 ≤ ox) (h6 : ox ≤ 128) (h7 : -128 ≤ oy) (h8 : oy ≤ 128) :
    okp (roX px py ox oy c s n) (roY px py ox oy c s n) = true ∧
      root (sqd px py ox oy) ≤ root (sqd (roX px py ox oy c s n) (roY px py ox oy c s n) ox oy) + 2 ∧ root (sqd (roX px py ox oy c s n) (roY px py ox oy c s n) ox oy) ≤ root (sqd px py ox oy) + 2 := by
  obtain ⟨a1, a2, a3, a4, a5, a6, a7⟩ := rotB_yes hr
  have hN : 0 < n := by omega
  have hP : ((px - ox) * c - (py - oy) * s) * ((px - ox) * c - (py - oy) * s) + ((px - ox) * s + (py - oy) * c) * ((px - ox) * s + (py - oy) * c) = sqd px py ox oy * (n * n) := by
    rw [turn_id, a7]
    unfold sqd
    grind
  have hd := round_dist hN (sqd_nonneg px py ox oy) hP
  have hb : sqd px py ox oy ≤ 46600 * 46600 := by
    unfold sqd
    have u1 := sq_le_sq_abs (ox - px) 65792 (by omega) (by omega)
    have u2 := sq_le_sq_abs (oy - py) 65792 (by omega) (by omega)
    omega
  have hf := round_far hN (p := 46600) (by omega) hP hb
  generalize hx : near ((px - ox) * c - (py - oy) * s) n = X at *
  generalize hy : near ((px - ox) * s + (py - oy) * c) n = Y at *
  have eX : roX px py ox oy c s n = ox + X := by unfold roX; rw [hx]
  have eY : roY px py ox oy c s n = oy + Y := by unfold roY; rw [hy]
  rw [eX, eY]
  have q1 := sq_nonneg X
  have q2 := sq_nonneg Y
  have t1 := abs_sq (a := X) (b := 46600 + 1) (by omega) (by omega)
  have t2 := abs_sq (a := Y) (b := 46600 + 1) (by omega) (by omega)
  have es : sqd (ox + X) (oy + Y) ox oy = X * X + Y * Y := by unfold sqd; grind
  rw [es]
  refine ⟨?_, hd.2, hd.1⟩
  unfold okp okc
  simp
  omega
end Go.Proofs.Ytcicjboopipgoaa
