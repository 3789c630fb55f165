/- What the point at a length is like: at 0, at the end, and one farther. Numbers only. -/
import Derived.Test.YtcheojkjcncfkaaAlongE
namespace Go.Proofs.Ytcheojkjcncfkaa
open Go.RowKit Go.Proofs.Gn
theorem far_nonneg (ps : Pl) (k : Nat) : 0 ≤ far ps k := root_nonneg _
theorem lon_mono (ps : Pl) {i j : Nat} (h : i ≤ j) : lon ps i ≤ lon ps j := by
  induction h with
  | refl => exact Int.le_refl _
  | step _ ih => exact Int.le_trans ih (by rw [lon_succ]; have := far_nonneg ps (by assumption); omega)
/-- The piece at s: the first one that is not without length and reaches to s. -/
theorem at_piece (ps : Pl) (s : Int) : ∀ (m k : Nat), lon ps k < lon ps (k + m) → lon ps k ≤ s → s ≤ lon ps (k + m) →
    ∃ i, k ≤ i ∧ i < k + m ∧ 0 < far ps i ∧ s ≤ lon ps (i + 1) ∧ lon ps i ≤ s ∧ (∀ j, k ≤ j → j < i → ¬ (0 < far ps j ∧ s ≤ lon ps (j + 1))) ∧
      atT ps m k (s - lon ps k) = (px ps i + near ((px ps (i + 1) - px ps i) * (s - lon ps i)) (far ps i), py ps i + near ((py ps (i + 1) - py ps i) * (s - lon ps i)) (far ps i), (i : Int)) := by
  intro m
  induction m with
  | zero => intro k h; simp at h
  | succ m ih =>
    intro k h h1 h2
    have hs := lon_succ ps k
    have hf := far_nonneg ps k
    rw [atT_step]
    by_cases hc : 0 < far ps k ∧ s - lon ps k ≤ far ps k
    · rw [if_pos hc]
      exact ⟨k, Nat.le_refl _, by omega, hc.1, by omega, h1, fun j a b => by omega, rfl⟩
    · rw [if_neg hc]
      have e : k + (m + 1) = k + 1 + m := by omega
      rw [e] at h h2
      have hm := lon_mono ps (show k + 1 ≤ k + 1 + m by omega)
      obtain ⟨i, i1, i2, i3, i4, i5, i6, i7⟩ := ih (k + 1) (by omega) (by omega) h2
      refine ⟨i, by omega, by omega, i3, i4, i5, fun j a b => ?_, ?_⟩
      · by_cases hj : j = k
        · subst hj
          omega
        · exact i6 j (by omega) b
      · rw [← i7, show s - lon ps k - far ps k = s - lon ps (k + 1) by omega]
theorem at_none (ps : Pl) : ∀ (m k : Nat) (s : Int), (∀ j, k ≤ j → j < k + m → far ps j = 0) → atT ps m k s = (px ps 0, py ps 0, 0) := by
  intro m
  induction m with
  | zero => intro k s _; rfl
  | succ m ih =>
    intro k s h
    have := h k (Nat.le_refl _) (by omega)
    rw [atT_step, if_neg (by omega)]
    exact ih _ _ fun j a b => h j (by omega) (by omega)
theorem far_zero {ps : Pl} {k : Nat} (h : far ps k = 0) : px ps (k + 1) = px ps k ∧ py ps (k + 1) = py ps k := by
  unfold far at h
  have h1 := lt_root (sqd_nonneg (px ps k) (py ps k) (px ps (k + 1)) (py ps (k + 1)))
  rw [h] at h1
  unfold sqd at h1
  have a := sq_nonneg (px ps (k + 1) - px ps k)
  have b := sq_nonneg (py ps (k + 1) - py ps k)
  have a0 : (px ps (k + 1) - px ps k) * (px ps (k + 1) - px ps k) = 0 := by omega
  have b0 : (py ps (k + 1) - py ps k) * (py ps (k + 1) - py ps k) = 0 := by omega
  have a1 := (Int.mul_eq_zero.1 a0).elim id id
  have b1 := (Int.mul_eq_zero.1 b0).elim id id
  omega
theorem same_run {ps : Pl} {i : Nat} : ∀ n, (∀ j, i ≤ j → j < i + n → far ps j = 0) → px ps (i + n) = px ps i ∧ py ps (i + n) = py ps i := by
  intro n
  induction n with
  | zero => intro _; exact ⟨rfl, rfl⟩
  | succ n ih =>
    intro h
    have a := ih fun j a b => h j a (by omega)
    have b := far_zero (h (i + n) (by omega) (by omega))
    rw [show i + (n + 1) = i + n + 1 by omega]
    omega
theorem flat_of {ps : Pl} {i j : Nat} (h : lon ps i = lon ps j) {t : Nat} (h1 : i ≤ t) (h2 : t < j) : far ps t = 0 := by
  have a := lon_mono ps h1
  have b := lon_mono ps (show t + 1 ≤ j by omega)
  have c := lon_succ ps t
  have d := far_nonneg ps t
  omega
theorem near_zero {d : Int} (hd : 0 < d) : near 0 d = 0 := (near_unique hd (by omega) (by omega)).symm
theorem near_full {a d : Int} (hd : 0 < d) : near (a * d) d = a := (near_unique hd (by omega) (by omega)).symm
/-- At 0 lies the first point. -/
theorem at_first (ps : Pl) (m : Nat) : (atT ps m 0 0).1 = px ps 0 ∧ (atT ps m 0 0).2.1 = py ps 0 := by
  have hm := lon_mono ps (Nat.zero_le m)
  have l0 : lon ps 0 = 0 := rfl
  by_cases h : lon ps 0 < lon ps (0 + m)
  · obtain ⟨i, i1, i2, i3, i4, i5, i6, i7⟩ := at_piece ps 0 m 0 h (by omega) (by omega)
    rw [l0, Int.sub_zero] at i7
    have l1 := lon_mono ps (Nat.zero_le i)
    have e : lon ps 0 = lon ps i := by omega
    have r := same_run (ps := ps) (i := 0) i fun j a b => flat_of e a (by omega)
    rw [Nat.zero_add] at r
    rw [i7, show (0 : Int) - lon ps i = 0 by omega, Int.mul_zero, Int.mul_zero, near_zero i3]
    exact ⟨by simpa using r.1, by simpa using r.2⟩
  · rw [Nat.zero_add] at h
    have e : lon ps 0 = lon ps m := by omega
    rw [at_none ps m 0 0 fun j a b => flat_of e a (by omega)]
    exact ⟨rfl, rfl⟩
/-- At its length lies the last point. -/
theorem at_last (ps : Pl) (m : Nat) : (atT ps m 0 (lon ps m)).1 = px ps m ∧ (atT ps m 0 (lon ps m)).2.1 = py ps m := by
  have hm := lon_mono ps (Nat.zero_le m)
  have l0 : lon ps 0 = 0 := rfl
  by_cases h : lon ps 0 < lon ps (0 + m)
  · obtain ⟨i, i1, i2, i3, i4, i5, i6, i7⟩ := at_piece ps (lon ps m) m 0 h (by omega) (by rw [Nat.zero_add]; omega)
    rw [l0, Int.sub_zero] at i7
    have l1 := lon_mono ps (show i + 1 ≤ m by omega)
    have e : lon ps (i + 1) = lon ps m := by omega
    have r := same_run (ps := ps) (i := i + 1) (m - (i + 1)) fun j a b => flat_of e a (by omega)
    rw [show i + 1 + (m - (i + 1)) = m by omega] at r
    have hs := lon_succ ps i
    rw [i7, show lon ps m - lon ps i = far ps i by omega, near_full i3, near_full i3]
    simp only
    exact ⟨by omega, by omega⟩
  · rw [Nat.zero_add] at h
    have e : lon ps 0 = lon ps m := by omega
    rw [at_none ps m 0 _ fun j a b => flat_of e a (by omega)]
    have r := same_run (ps := ps) (i := 0) m fun j a b => flat_of e a (by omega)
    rw [Nat.zero_add] at r
    exact ⟨r.1.symm, r.2.symm⟩
theorem near_close {a d n : Int} (hn : 0 < n) (h1 : -n ≤ d) (h2 : d ≤ n) : -1 ≤ near (a + d) n - near a n ∧ near (a + d) n - near a n ≤ 1 := by
  have s1 := near_spec (n := a) hn
  have s2 := near_spec (n := a + d) hn
  have k1 : (near (a + d) n - near a n - 2) * n < 0 := by rw [Int.sub_mul, Int.sub_mul]; omega
  have k2 : 0 < (near (a + d) n - near a n + 2) * n := by rw [Int.add_mul, Int.sub_mul]; omega
  refine ⟨?_, ?_⟩
  · by_cases hc : -1 ≤ near (a + d) n - near a n
    · exact hc
    · have := Int.mul_nonneg (a := -(near (a + d) n - near a n + 2)) (b := n) (by omega) (by omega)
      rw [Int.neg_mul] at this
      omega
  · by_cases hc : near (a + d) n - near a n ≤ 1
    · exact hc
    · have := Int.mul_nonneg (a := near (a + d) n - near a n - 2) (b := n) (by omega) (by omega)
      omega
theorem side_le (ps : Pl) (k : Nat) : (-far ps k ≤ px ps (k + 1) - px ps k ∧ px ps (k + 1) - px ps k ≤ far ps k) ∧ (-far ps k ≤ py ps (k + 1) - py ps k ∧ py ps (k + 1) - py ps k ≤ far ps k) := by
  have h0 := sqd_nonneg (px ps k) (py ps k) (px ps (k + 1)) (py ps (k + 1))
  have a := sq_nonneg (px ps (k + 1) - px ps k)
  have b := sq_nonneg (py ps (k + 1) - py ps k)
  have e : sqd (px ps k) (py ps k) (px ps (k + 1)) (py ps (k + 1)) = (px ps (k + 1) - px ps k) * (px ps (k + 1) - px ps k) + (py ps (k + 1) - py ps k) * (py ps (k + 1) - py ps k) := rfl
  have p1 := le_root (b := px ps (k + 1) - px ps k) h0 (by omega)
  have p2 := le_root (b := -(px ps (k + 1) - px ps k)) h0 (by rw [Int.neg_mul_neg]; omega)
  have p3 := le_root (b := py ps (k + 1) - py ps k) h0 (by omega)
  have p4 := le_root (b := -(py ps (k + 1) - py ps k)) h0 (by rw [Int.neg_mul_neg]; omega)
  unfold far
  omega
/-- One farther: the piece is no earlier one; on the same piece the points differ by at most 2. -/
theorem at_next (ps : Pl) (m : Nat) (s : Int) (h0 : 0 ≤ s) (h1 : s + 1 ≤ lon ps m) :
    (atT ps m 0 s).2.2 ≤ (atT ps m 0 (s + 1)).2.2 ∧ 0 ≤ (atT ps m 0 s).2.2 ∧ (atT ps m 0 (s + 1)).2.2 < (m : Int) ∧
      ((atT ps m 0 s).2.2 = (atT ps m 0 (s + 1)).2.2 → (-2 ≤ (atT ps m 0 s).1 - (atT ps m 0 (s + 1)).1 ∧ (atT ps m 0 s).1 - (atT ps m 0 (s + 1)).1 ≤ 2) ∧ (-2 ≤ (atT ps m 0 s).2.1 - (atT ps m 0 (s + 1)).2.1 ∧ (atT ps m 0 s).2.1 - (atT ps m 0 (s + 1)).2.1 ≤ 2)) := by
  have l0 : lon ps 0 = 0 := rfl
  have hp : lon ps 0 < lon ps (0 + m) := by rw [Nat.zero_add]; omega
  obtain ⟨i, i1, i2, i3, i4, i5, i6, i7⟩ := at_piece ps s m 0 hp (by omega) (by rw [Nat.zero_add]; omega)
  obtain ⟨k, k1, k2, k3, k4, k5, k6, k7⟩ := at_piece ps (s + 1) m 0 hp (by omega) (by rw [Nat.zero_add]; omega)
  rw [l0, Int.sub_zero] at i7 k7
  rw [i7, k7]
  have hik : i ≤ k := by
    by_cases hc : i ≤ k
    · exact hc
    · exact absurd ⟨k3, by omega⟩ (i6 k (by omega) (by omega))
  refine ⟨by simpa using hik, by simp, by simp; omega, fun he => ?_⟩
  have he2 : i = k := by
    simp only at he
    omega
  subst he2
  have sd := side_le ps i
  have n1 := near_close (a := (px ps (i + 1) - px ps i) * (s - lon ps i)) (d := px ps (i + 1) - px ps i) i3 sd.1.1 sd.1.2
  have n2 := near_close (a := (py ps (i + 1) - py ps i) * (s - lon ps i)) (d := py ps (i + 1) - py ps i) i3 sd.2.1 sd.2.2
  rw [show (px ps (i + 1) - px ps i) * (s - lon ps i) + (px ps (i + 1) - px ps i) = (px ps (i + 1) - px ps i) * (s + 1 - lon ps i) by grind] at n1
  rw [show (py ps (i + 1) - py ps i) * (s - lon ps i) + (py ps (i + 1) - py ps i) = (py ps (i + 1) - py ps i) * (s + 1 - lon ps i) by grind] at n2
  simp only
  omega
end Go.Proofs.Ytcheojkjcncfkaa
