/- What each axle of a group carries. -/
import Derived.Test.YtooochbfnmmnkaaPkPartsP
namespace Go.Proofs.Ytooochbfnmmnkaa
open Go.RowKit Go.Proofs.Gn
theorem at_x {F : Act → World → Prop} {a : Act} {w : World} (h : ∀ W, W = w → F a W) : F a w := h w rfl
def boE (ps : List Gs.Sup) (m X Y : Int) : Int := if chE ps = 0 then (if msE m = 0 then ptE X Y else msE m) else chE ps
theorem boE_ok {ps : List Gs.Sup} {m X Y : Int} (h : boE ps m X Y = 0) : atE ps X Y = 0 ∧ 1 ≤ m ∧ m ≤ 16777216 := by
  unfold boE at h
  split at h
  · split at h
    · rename_i h1 h2
      unfold msE at h2
      split at h2
      · rename_i h3
        rw [win_iff] at h3
        exact ⟨by unfold atE; rw [if_pos h1]; exact h, h3.1, h3.2⟩
      · cases h2
    · exact absurd h (by assumption)
  · exact absurd h (by assumption)
/-! ### What the parts are -/
theorem pv_pos {D q : Int} (h : 0 < D) : pv D q = q := by unfold pv; rw [if_neg (by omega), if_pos h]
theorem pv_neg {D q : Int} (h : D < 0) : pv D q = -q := by unfold pv; rw [if_pos h]
theorem pa_sum {ps : List Gs.Sup} (h : Gs.wh ps ≠ 0) (X Y : Int) : 0 < paD ps ∧ pa0 ps X Y * Gs.cN 0 ps + pa1 ps X Y * Gs.cN 1 ps + pa2 ps X Y * Gs.cN 2 ps = paD ps ∧ pa0 ps X Y * Gs.cX 0 ps + pa1 ps X Y * Gs.cX 1 ps + pa2 ps X Y * Gs.cX 2 ps = paD ps * X ∧ pa0 ps X Y * Gs.cY 0 ps + pa1 ps X Y * Gs.cY 1 ps + pa2 ps X Y * Gs.cY 2 ps = paD ps * Y := by
  have a := Gs.cramN ps X Y
  have b := Gs.cramX ps X Y
  have c := Gs.cramY ps X Y
  unfold paD pa0 pa1 pa2
  by_cases hp : 0 < Gs.wh ps
  · simp only [pv_pos hp]
    exact ⟨hp, a, b, c⟩
  · have hm : Gs.wh ps < 0 := by omega
    simp only [pv_neg hm, Int.neg_mul]
    exact ⟨by omega, by omega, by omega, by omega⟩
theorem pa_bd {ps : List Gs.Sup} {X Y : Int} (h : atE ps X Y = 0) : paD ps ≤ 11399736556781568 ∧ (-11399736556781568 ≤ pa0 ps X Y ∧ pa0 ps X Y ≤ 11399736556781568) ∧ (-11399736556781568 ≤ pa1 ps X Y ∧ pa1 ps X Y ≤ 11399736556781568) ∧ (-11399736556781568 ≤ pa2 ps X Y ∧ pa2 ps X Y ≤ 11399736556781568) := by
  obtain ⟨h1, h2⟩ := atE_ok h
  obtain ⟨o1, o2, o3, o4⟩ := chE_ok h1
  obtain ⟨a, b⟩ := ptE_ok h2
  have r0 := Gs.row_of o1 o2 0 (.inl rfl)
  have r1 := Gs.row_of o1 o2 1 (.inr (.inl rfl))
  have r2 := Gs.row_of o1 o2 2 (.inr (.inr rfl))
  have rp := row_pt a b
  exact ⟨(pv_bd (Gs.dt_bd r0 r1 r2)).2, pv_bd (Gs.dt_bd rp r1 r2), pv_bd (Gs.dt_bd r0 rp r2), pv_bd (Gs.dt_bd r0 r1 rp)⟩
theorem lif_none {a b c : Int} (h : ¬ 0 ≤ lif a b c) : 0 ≤ a ∧ 0 ≤ b ∧ 0 ≤ c := by
  unfold lif at h
  split at h
  · omega
  · split at h
    · omega
    · split at h <;> omega
theorem share_bd {ps : List Gs.Sup} {X Y : Int} (h : atE ps X Y = 0) (hl : ¬ 0 ≤ lif (pa0 ps X Y) (pa1 ps X Y) (pa2 ps X Y)) :
    (1 ≤ paD ps ∧ paD ps ≤ 11399736556781568) ∧ (0 ≤ pa0 ps X Y ∧ pa0 ps X Y ≤ paD ps) ∧ (0 ≤ pa1 ps X Y ∧ pa1 ps X Y ≤ paD ps) ∧ (0 ≤ pa2 ps X Y ∧ pa2 ps X Y ≤ paD ps) := by
  obtain ⟨o1, o2, o3, o4⟩ := chE_ok (atE_ok h).1
  obtain ⟨s1, s2, _, _⟩ := pa_sum o4 X Y
  have b := pa_bd h
  obtain ⟨n0, n1, n2⟩ := Gs.wh_pos o1 o4
  obtain ⟨l0, l1, l2⟩ := lif_none hl
  have m0 : pa0 ps X Y * 1 ≤ pa0 ps X Y * Gs.cN 0 ps := Int.mul_le_mul_of_nonneg_left n0 l0
  have m1 : pa1 ps X Y * 1 ≤ pa1 ps X Y * Gs.cN 1 ps := Int.mul_le_mul_of_nonneg_left n1 l1
  have m2 : pa2 ps X Y * 1 ≤ pa2 ps X Y * Gs.cN 2 ps := Int.mul_le_mul_of_nonneg_left n2 l2
  omega
theorem share_q {m l D : Int} (hm : 1 ≤ m ∧ m ≤ 16777216) (hD : 1 ≤ D) (hl : 0 ≤ l ∧ l ≤ D) : amt m * amt l < D * 4611686018427387904 := by
  rw [amt_pos (by omega), amt_pos (by omega)]
  have a : m * l ≤ 16777216 * D := Int.mul_le_mul hm.2 hl.2 hl.1 (by omega)
  omega
/-- What a group carries, by its number; which loads are allowed. -/
def sel (g u0 u1 u2 : Int) : Int := if g = 0 then u0 else if g = 1 then u1 else u2
def fit (u0 u1 u2 : Int) (ps : List Gs.Sup) : Bool := ps.all fun s => decide (sel s.g u0 u1 u2 ≤ s.lim)
theorem fit_step {u0 u1 u2 : Int} {ps : List Gs.Sup} {k : Nat} (h : k < ps.length) (ho : fit u0 u1 u2 (ps.take k) = true) : (sel ps[k].g u0 u1 u2 ≤ ps[k].lim → fit u0 u1 u2 (ps.take (k + 1)) = true) ∧ (¬ sel ps[k].g u0 u1 u2 ≤ ps[k].lim → fit u0 u1 u2 ps = false) := by
  constructor
  · intro hs
    unfold fit at *
    rw [List.take_succ_eq_append_getElem h, List.all_append, ho]
    simp [hs]
  · intro hs
    unfold fit
    rw [List.all_eq_false]
    exact ⟨ps[k], List.getElem_mem h, by simp; omega⟩
theorem share_up {ps : List Gs.Sup} {m X Y : Int} (e : boE ps m X Y = 0) (l : ¬ 0 ≤ lif (pa0 ps X Y) (pa1 ps X Y) (pa2 ps X Y)) :
    (∀ W : World, Calls Try.prog 31 #[fr m (paD ps), .int .i64 (pa0 ps X Y)] W fun e w' => e = .returned (.int .i64 (up m (paD ps) (pa0 ps X Y))) ∧ Up W w') ∧
    (∀ W : World, Calls Try.prog 31 #[fr m (paD ps), .int .i64 (pa1 ps X Y)] W fun e w' => e = .returned (.int .i64 (up m (paD ps) (pa1 ps X Y))) ∧ Up W w') ∧
    (∀ W : World, Calls Try.prog 31 #[fr m (paD ps), .int .i64 (pa2 ps X Y)] W fun e w' => e = .returned (.int .i64 (up m (paD ps) (pa2 ps X Y))) ∧ Up W w') := by
  obtain ⟨h1, h2, h3⟩ := boE_ok e
  obtain ⟨⟨d1, d2⟩, b0, b1, b2⟩ := share_bd h1 l
  exact ⟨fun W => p_up _ _ _ W (by omega) (by omega) (by omega) (share_q ⟨h2, h3⟩ d1 b0), fun W => p_up _ _ _ W (by omega) (by omega) (by omega) (share_q ⟨h2, h3⟩ d1 b1), fun W => p_up _ _ _ W (by omega) (by omega) (by omega) (share_q ⟨h2, h3⟩ d1 b2)⟩
def uE (ps : List Gs.Sup) (m X Y : Int) : Int := if 0 ≤ lif (pa0 ps X Y) (pa1 ps X Y) (pa2 ps X Y) then 19 else if fit (up m (paD ps) (pa0 ps X Y)) (up m (paD ps) (pa1 ps X Y)) (up m (paD ps) (pa2 ps X Y)) ps then 0 else 14
def shE (ps : List Gs.Sup) (m X Y : Int) : Int := if boE ps m X Y = 0 then uE ps m X Y else boE ps m X Y
def shV (ps : List Gs.Sup) (m X Y v : Int) : Int := if shE ps m X Y = 0 then v else 0
end Go.Proofs.Ytooochbfnmmnkaa
