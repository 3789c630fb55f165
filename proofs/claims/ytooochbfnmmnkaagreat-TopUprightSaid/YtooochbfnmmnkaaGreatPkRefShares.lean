/- What each axle of a group carries: the document's own answers. The sums, parts and shares as they are handed out: the document's own answers. The parts of a platform, and which group tips: the document's own answers. StaticsAll: the law's function returns true. StaticsLevers: the law's function returns true. -/
import Derived.Test.YtooochbfnmmnkaaGreatKnown
import Derived.Test.YtooochbfnmmnkaaGreatPkRefChk
import Derived.Test.YtooochbfnmmnkaaGreatShares
namespace Go.Proofs.YtooochbfnmmnkaaGreat
open Go.RowKit Go.Proofs.Gn
theorem up_spec {m d t : Int} (hd : 0 < d) : m * t ≤ up m d t * d ∧ up m d t * d < m * t + d := by
  have e := ediv_spec (n := m * -t) hd
  unfold up
  rw [Int.neg_mul]
  rw [Int.mul_neg] at *
  omega
theorem up_mono {m d s t : Int} (hd : 0 < d) (hm : 0 ≤ m) (h : s ≤ t) : up m d s ≤ up m d t := by
  have a := up_spec (m := m) (t := s) hd
  have b := up_spec (m := m) (t := t) hd
  have c : m * s ≤ m * t := Int.mul_le_mul_of_nonneg_left h hm
  apply Decidable.byContradiction
  intro hn
  have k : (up m d t + 1) * d ≤ up m d s * d := Int.mul_le_mul_of_nonneg_right (by omega) (by omega)
  rw [Int.add_mul] at k
  omega
theorem up_nonneg {m d t : Int} (hd : 0 < d) (hm : 0 ≤ m) (h : 0 ≤ t) : 0 ≤ up m d t := by
  have a := up_spec (m := m) (t := t) hd
  have c : 0 ≤ m * t := Int.mul_nonneg hm h
  apply Decidable.byContradiction
  intro hn
  have k : up m d t * d ≤ (-1) * d := Int.mul_le_mul_of_nonneg_right (by omega) (by omega)
  omega
theorem lev_facts {m a b x : Int} (h : leE m a b x = 0) : (1 ≤ m ∧ m ≤ 16777216) ∧ (-16777216 ≤ a ∧ a < b ∧ b ≤ 16777216 ∧ a ≤ x ∧ x ≤ b) ∧ 0 ≤ leM m a b x ∧ 0 ≤ leN m a b x ∧ m ≤ leM m a b x + leN m a b x ∧ leM m a b x + leN m a b x ≤ m + 1 ∧ (x - a ≤ b - x → leN m a b x ≤ leM m a b x) ∧ (b - x ≤ x - a → leM m a b x ≤ leN m a b x) := by
  unfold leM leN
  rw [if_pos h, if_pos h]
  unfold leE at h
  split at h
  · rename_i h1
    split at h
    · rename_i h2
      split at h
      · cases h
      · split at h
        · rename_i h3 h4
          rw [win_iff] at h1 h4
          simp only [Bool.and_eq_true] at h2
          unfold plc at h2
          rw [win_iff, win_iff, win_iff] at h2
          have hd : 0 < b - a := by omega
          have s1 := up_spec (m := m) (t := b - a - (x - a)) hd
          have s2 := up_spec (m := m) (t := x - a) hd
          have n1 := up_nonneg (m := m) (t := b - a - (x - a)) hd (by omega) (by omega)
          have n2 := up_nonneg (m := m) (t := x - a) hd (by omega) (by omega)
          have e : m * (b - a - (x - a)) + m * (x - a) = m * (b - a) := by rw [← Int.mul_add]; congr 1; omega
          have e2 : (up m (b - a) (b - a - (x - a)) + up m (b - a) (x - a)) * (b - a) = up m (b - a) (b - a - (x - a)) * (b - a) + up m (b - a) (x - a) * (b - a) := Int.add_mul _ _ _
          refine ⟨h1, by omega, n1, n2, ?_, ?_, fun hx => up_mono hd (by omega) (by omega), fun hx => up_mono hd (by omega) (by omega)⟩
          · refine Int.le_of_mul_le_mul_right (?_ : m * (b - a) ≤ _) hd
            rw [e2]; omega
          · apply Decidable.byContradiction
            intro hn
            have k : (m + 2) * (b - a) ≤ (up m (b - a) (b - a - (x - a)) + up m (b - a) (x - a)) * (b - a) := Int.mul_le_mul_of_nonneg_right (by omega) (by omega)
            rw [e2, Int.add_mul] at k
            omega
        · cases h
    · cases h
  · cases h
theorem lev_none {m a b x : Int} (h : ¬ leE m a b x = 0) : leM m a b x = 0 ∧ leN m a b x = 0 := by
  unfold leM leN
  rw [if_neg h, if_neg h]
  exact ⟨rfl, rfl⟩
end Go.Proofs.YtooochbfnmmnkaaGreat
namespace Go.Proofs.YtooochbfnmmnkaaGreat
open Go.RowKit Go.Proofs.Gn
theorem up_more {m k d t : Int} (hd : 0 < d) (hk : 0 ≤ k) (h : 0 ≤ t) : up m d t ≤ up (m + k) d t := by
  have a := up_spec (m := m) (t := t) hd
  have b := up_spec (m := m + k) (t := t) hd
  have c : m * t ≤ (m + k) * t := Int.mul_le_mul_of_nonneg_right (by omega) h
  apply Decidable.byContradiction
  intro hn
  have j : (up (m + k) d t + 1) * d ≤ up m d t * d := Int.mul_le_mul_of_nonneg_right (by omega) (by omega)
  rw [Int.add_mul] at j
  omega
theorem up_le {m d t : Int} (hd : 0 < d) (hm : 0 ≤ m) (h : t ≤ d) : up m d t ≤ m := by
  have a := up_spec (m := m) (t := t) hd
  have c : m * t ≤ m * d := Int.mul_le_mul_of_nonneg_left h hm
  apply Decidable.byContradiction
  intro hn
  have j : (m + 1) * d ≤ up m d t * d := Int.mul_le_mul_of_nonneg_right (by omega) (by omega)
  rw [Int.add_mul] at j
  omega
theorem sum_up {m D l0 l1 l2 n0 n1 n2 N : Int} (hD : 0 < D) (h0 : 0 ≤ n0) (h1 : 0 ≤ n1) (h2 : 0 ≤ n2) (hs : l0 * n0 + l1 * n1 + l2 * n2 = D) (hN : n0 + n1 + n2 = N) :
    m ≤ up m D l0 * n0 + up m D l1 * n1 + up m D l2 * n2 ∧ up m D l0 * n0 + up m D l1 * n1 + up m D l2 * n2 ≤ m + N := by
  obtain ⟨a0, b0⟩ := up_spec (m := m) (t := l0) hD
  obtain ⟨a1, b1⟩ := up_spec (m := m) (t := l1) hD
  obtain ⟨a2, b2⟩ := up_spec (m := m) (t := l2) hD
  generalize up m D l0 = u0 at *
  generalize up m D l1 = u1 at *
  generalize up m D l2 = u2 at *
  have c0 : m * l0 * n0 ≤ u0 * D * n0 := Int.mul_le_mul_of_nonneg_right a0 h0
  have c1 : m * l1 * n1 ≤ u1 * D * n1 := Int.mul_le_mul_of_nonneg_right a1 h1
  have c2 : m * l2 * n2 ≤ u2 * D * n2 := Int.mul_le_mul_of_nonneg_right a2 h2
  have d0 : u0 * D * n0 ≤ (m * l0 + D) * n0 := Int.mul_le_mul_of_nonneg_right (by omega) h0
  have d1 : u1 * D * n1 ≤ (m * l1 + D) * n1 := Int.mul_le_mul_of_nonneg_right (by omega) h1
  have d2 : u2 * D * n2 ≤ (m * l2 + D) * n2 := Int.mul_le_mul_of_nonneg_right (by omega) h2
  have e : m * l0 * n0 + m * l1 * n1 + m * l2 * n2 = m * D := by rw [← hs]; grind
  have f : (u0 * n0 + u1 * n1 + u2 * n2) * D = u0 * D * n0 + u1 * D * n1 + u2 * D * n2 := by grind
  have g : (m * l0 + D) * n0 + (m * l1 + D) * n1 + (m * l2 + D) * n2 = m * D + N * D := by rw [← hN, ← e]; grind
  constructor
  · refine Int.le_of_mul_le_mul_right (?_ : m * D ≤ _) hD
    rw [f]; omega
  · refine Int.le_of_mul_le_mul_right (?_ : _ * D ≤ _) hD
    rw [f, Int.add_mul]; omega
theorem shE_ok {ps : List Gs.Sup} {m X Y : Int} (h : shE ps m X Y = 0) : boE ps m X Y = 0 ∧ ¬ 0 ≤ lif (pa0 ps X Y) (pa1 ps X Y) (pa2 ps X Y) := by
  unfold shE at h
  split at h
  · unfold uE at h
    split at h
    · cases h
    · exact ⟨by assumption, by assumption⟩
  · exact absurd h (by assumption)
theorem all_facts {ps : List Gs.Sup} {m X Y : Int} (h : shE ps m X Y = 0) : chE ps = 0 ∧ (1 ≤ m ∧ m ≤ 16777216) ∧ ((0 ≤ shV ps m X Y (up m (paD ps) (pa0 ps X Y)) ∧ shV ps m X Y (up m (paD ps) (pa0 ps X Y)) ≤ m) ∧ (0 ≤ shV ps m X Y (up m (paD ps) (pa1 ps X Y)) ∧ shV ps m X Y (up m (paD ps) (pa1 ps X Y)) ≤ m) ∧ (0 ≤ shV ps m X Y (up m (paD ps) (pa2 ps X Y)) ∧ shV ps m X Y (up m (paD ps) (pa2 ps X Y)) ≤ m)) ∧
    ((0 ≤ Gs.cN 0 ps ∧ Gs.cN 0 ps ≤ 48) ∧ (0 ≤ Gs.cN 1 ps ∧ Gs.cN 1 ps ≤ 48) ∧ (0 ≤ Gs.cN 2 ps ∧ Gs.cN 2 ps ≤ 48)) ∧
    (m ≤ shV ps m X Y (up m (paD ps) (pa0 ps X Y)) * Gs.cN 0 ps + shV ps m X Y (up m (paD ps) (pa1 ps X Y)) * Gs.cN 1 ps + shV ps m X Y (up m (paD ps) (pa2 ps X Y)) * Gs.cN 2 ps ∧ shV ps m X Y (up m (paD ps) (pa0 ps X Y)) * Gs.cN 0 ps + shV ps m X Y (up m (paD ps) (pa1 ps X Y)) * Gs.cN 1 ps + shV ps m X Y (up m (paD ps) (pa2 ps X Y)) * Gs.cN 2 ps ≤ m + ps.length) := by
  have hv : ∀ v, shV ps m X Y v = v := fun v => if_pos h
  simp only [hv]
  obtain ⟨h1, h2⟩ := shE_ok h
  obtain ⟨h3, m1, m2⟩ := boE_ok h1
  obtain ⟨o1, o2, o3, o4⟩ := chE_ok (atE_ok h3).1
  obtain ⟨⟨d1, d2⟩, b0, b1, b2⟩ := share_bd h3 h2
  obtain ⟨_, s2, _, _⟩ := pa_sum o4 X Y
  have e := Gs.cN_len o1
  have n0 := Gs.cN_nonneg 0 ps
  have n1 := Gs.cN_nonneg 1 ps
  have n2 := Gs.cN_nonneg 2 ps
  have hs := sum_up (m := m) (by omega : 0 < paD ps) n0 n1 n2 s2 e
  refine ⟨(atE_ok h3).1, ⟨m1, m2⟩, ⟨⟨up_nonneg (by omega) (by omega) b0.1, up_le (by omega) (by omega) b0.2⟩, ⟨up_nonneg (by omega) (by omega) b1.1, up_le (by omega) (by omega) b1.2⟩, ⟨up_nonneg (by omega) (by omega) b2.1, up_le (by omega) (by omega) b2.2⟩⟩, by omega, hs⟩
theorem all_more {ps : List Gs.Sup} {m k X Y : Int} (h : shE ps m X Y = 0) (hk : 0 ≤ k) (h' : shE ps (m + k) X Y = 0) :
    shV ps m X Y (up m (paD ps) (pa0 ps X Y)) ≤ shV ps (m + k) X Y (up (m + k) (paD ps) (pa0 ps X Y)) ∧ shV ps m X Y (up m (paD ps) (pa1 ps X Y)) ≤ shV ps (m + k) X Y (up (m + k) (paD ps) (pa1 ps X Y)) ∧ shV ps m X Y (up m (paD ps) (pa2 ps X Y)) ≤ shV ps (m + k) X Y (up (m + k) (paD ps) (pa2 ps X Y)) := by
  have hv : ∀ v, shV ps m X Y v = v := fun v => if_pos h
  have hw : ∀ v, shV ps (m + k) X Y v = v := fun v => if_pos h'
  simp only [hv, hw]
  obtain ⟨h1, h2⟩ := shE_ok h
  obtain ⟨h3, m1, m2⟩ := boE_ok h1
  obtain ⟨⟨d1, d2⟩, b0, b1, b2⟩ := share_bd h3 h2
  exact ⟨up_more (by omega) hk b0.1, up_more (by omega) hk b1.1, up_more (by omega) hk b2.1⟩
theorem all_err {ps : List Gs.Sup} {m k X Y : Int} (h : shE ps m X Y = 0) (h' : ¬ shE ps (m + k) X Y = 0) : shE ps (m + k) X Y = 14 ∨ shE ps (m + k) X Y = 3 := by
  obtain ⟨h1, h2⟩ := shE_ok h
  obtain ⟨h3, m1, m2⟩ := boE_ok h1
  obtain ⟨c1, c2⟩ := atE_ok h3
  unfold shE at h' ⊢
  by_cases hb : boE ps (m + k) X Y = 0
  · rw [if_pos hb] at h' ⊢
    unfold uE at h' ⊢
    rw [if_neg h2] at h' ⊢
    split at h'
    · exact absurd rfl h'
    · rename_i hf
      rw [if_neg hf]
      exact .inl rfl
  · rw [if_neg hb]
    right
    unfold boE at hb ⊢
    rw [if_pos c1] at hb ⊢
    split at hb
    · exact absurd c2 hb
    · rename_i hm
      rw [if_neg hm]
      unfold msE at hm ⊢
      split at hm
      · exact absurd rfl hm
      · rename_i hw
        rw [if_neg hw]
end Go.Proofs.YtooochbfnmmnkaaGreat
namespace Go.Proofs.YtooochbfnmmnkaaGreat
open Go.RowKit Go.Proofs.Gn
theorem bx_two' (w : World) (v1 v2 : List Value) (t1 t2 : TypeId) : Bx ((w.alloc (.cells v1.toArray t1)).alloc (.cells v2.toArray t2)) w.heap.size v1 ∧ Bx ((w.alloc (.cells v1.toArray t1)).alloc (.cells v2.toArray t2)) (w.heap.size + 1) v2 := by
  refine ⟨bx_alloc (bx_new w _ _) _, ?_⟩
  have h := bx_new (w.alloc (.cells v1.toArray t1)) v2 t2
  rwa [sz1] at h
end Go.Proofs.YtooochbfnmmnkaaGreat
namespace Go.Proofs.YtooochbfnmmnkaaGreat
open Go.RowKit Go.Proofs.Gn
def z3 : List Value := [.int .i64 0, .int .i64 0, .int .i64 0]
theorem atE_cases (ps : List Gs.Sup) (X Y : Int) : (¬ chE ps = 0 ∧ atE ps X Y = chE ps) ∨ (chE ps = 0 ∧ ptE X Y = 3 ∧ atE ps X Y = 3) ∨ (chE ps = 0 ∧ ptE X Y = 0 ∧ atE ps X Y = 0) := by
  unfold atE
  by_cases c : chE ps = 0
  · rw [if_pos c]
    right
    unfold ptE
    split
    · exact .inr ⟨c, rfl, rfl⟩
    · exact .inl ⟨c, rfl, rfl⟩
  · rw [if_neg c]
    exact .inl ⟨c, rfl⟩
end Go.Proofs.YtooochbfnmmnkaaGreat
namespace Go.Proofs.YtooochbfnmmnkaaGreat
open Go.RowKit Go.Proofs.Gn
theorem boE_ch {ps : List Gs.Sup} {m X Y : Int} (h : chE ps = 0) : (boE ps m X Y = 0 ∧ msE m = 0 ∧ ptE X Y = 0) ∨ (boE ps m X Y = 3 ∧ msE m = 3) ∨ (boE ps m X Y = 3 ∧ msE m = 0 ∧ ptE X Y = 3) := by
  have h1 : msE m = 0 ∨ msE m = 3 := by unfold msE; split <;> simp
  have h2 : ptE X Y = 0 ∨ ptE X Y = 3 := by unfold ptE; split <;> simp
  unfold boE
  rw [if_pos h]
  rcases h1 with h1 | h1 <;> rcases h2 with h2 | h2 <;> simp [h1, h2]
end Go.Proofs.YtooochbfnmmnkaaGreat
