/- Foot and Blown, for all words. The foot of a centre, for all words. StaticsAll: the law's function returns true. StaticsLevers: the law's function returns true. The few examples with which each statement begins or ends are right. -/
import Derived.Test.YthifcalemhpmoaaGreatPkShares
namespace Go.Proofs.YthifcalemhpmoaaGreat
open Go.RowKit Go.Proofs.Gn
theorem eq3 (a b c a' b' c' : Int) (w : World) : (Op.equalIn 10000 29 (.agg #[.int .i64 a, .int .i64 b, .int .i64 c]) (.agg #[.int .i64 a', .int .i64 b', .int .i64 c'])).run Tryz.prog w = .ok (a == a' && (b == b' && c == c')) w := by
  unfold Op.equalIn
  simp [run_underlying Tryz.underlying29, go_sem]
  rw [show List.range' 0 3 = [0, 1, 2] from rfl]
  by_cases h0 : a = a' <;> by_cases h1 : b = b' <;> by_cases h2 : c = c' <;> simp [h0, h1, h2, go_sem, Tryz.isAgg2]
theorem eq3_same (a b c : Int) (w : World) : (Op.equalIn 10000 29 (.agg #[.int .i64 a, .int .i64 b, .int .i64 c]) (.agg #[.int .i64 a, .int .i64 b, .int .i64 c])).run Tryz.prog w = .ok true w := by
  rw [eq3]; simp
def exS : List Gs.Sup := [⟨0, 0, 0, 10000, 100, 900⟩, ⟨4000, 2000, 1, 10000, 100, 900⟩, ⟨4000, -2000, 2, 10000, 100, 900⟩, ⟨0, 1000, 0, 10000, 100, 900⟩]
theorem ex_shares : shE exS 16000 2000 0 = 0 ∧ shV exS 16000 2000 0 (up 16000 (paD exS) (pa0 exS 2000 0)) = 4000 ∧ shV exS 16000 2000 0 (up 16000 (paD exS) (pa1 exS 2000 0)) = 3000 ∧ shV exS 16000 2000 0 (up 16000 (paD exS) (pa2 exS 2000 0)) = 5000 := by decide +kernel
theorem ex_tips : tiE exS 5000 0 = 0 ∧ tiV exS 5000 0 = 0 := by decide +kernel
theorem ex_lever : leE 1000 0 3 1 = 0 ∧ leM 1000 0 3 1 = 667 ∧ leN 1000 0 3 1 = 334 := by decide +kernel
def exL : List Value := [.int .i64 0, .int .i64 0, .int .i64 0, .int .i64 10000, .int .i64 100, .int .i64 900, .int .i64 4000, .int .i64 2000, .int .i64 1, .int .i64 10000, .int .i64 100, .int .i64 900, .int .i64 4000, .int .i64 (-2000), .int .i64 2, .int .i64 10000, .int .i64 100, .int .i64 900, .int .i64 0, .int .i64 1000, .int .i64 0, .int .i64 10000, .int .i64 100, .int .i64 900]
theorem sups_ex {W : World} {b : Nat} (h : Bx W b exL) : Sups W (some ⟨b, 0, none⟩) exS := by
  refine .inr ⟨b, 0, rfl, fun k hk => ?_⟩
  match k, hk with
  | 0, _ => exact ⟨(h 0 _ rfl).1, (h 1 _ rfl).1, (h 2 _ rfl).1, (h 3 _ rfl).1, (h 4 _ rfl).1, (h 5 _ rfl).1⟩
  | 1, _ => exact ⟨(h 6 _ rfl).1, (h 7 _ rfl).1, (h 8 _ rfl).1, (h 9 _ rfl).1, (h 10 _ rfl).1, (h 11 _ rfl).1⟩
  | 2, _ => exact ⟨(h 12 _ rfl).1, (h 13 _ rfl).1, (h 14 _ rfl).1, (h 15 _ rfl).1, (h 16 _ rfl).1, (h 17 _ rfl).1⟩
  | 3, _ => exact ⟨(h 18 _ rfl).1, (h 19 _ rfl).1, (h 20 _ rfl).1, (h 21 _ rfl).1, (h 22 _ rfl).1, (h 23 _ rfl).1⟩
  | n + 4, h => exact absurd h (by simp [exS])
end Go.Proofs.YthifcalemhpmoaaGreat
namespace Go.Proofs.YthifcalemhpmoaaGreat
open Go.RowKit Go.Proofs.Gn
theorem up_spec {m d t : Int} (hd : 0 < d) : m * t ≤ up m d t * d ∧ up m d t * d < m * t + d := by
  have e := ediv_spec (n := m * -t) hd
  unfold up
  rw [Int.neg_mul]
  rw [Int.mul_neg] at *
  omega
theorem up_mono {m d s t : Int} (hd : 0 < d) (hm : 0 ≤ m) (h : s ≤ t) : up m d s ≤ up m d t := by
  have a := up_spec (m := m) (t := s) hd
  have b := up_spec (m := m) (t := t) hd
  have c : m * s ≤ m * t := Int.mul_le_mul_of_nonneg_left h hm
  apply Decidable.byContradiction
  intro hn
  have k : (up m d t + 1) * d ≤ up m d s * d := Int.mul_le_mul_of_nonneg_right (by omega) (by omega)
  rw [Int.add_mul] at k
  omega
theorem up_nonneg {m d t : Int} (hd : 0 < d) (hm : 0 ≤ m) (h : 0 ≤ t) : 0 ≤ up m d t := by
  have a := up_spec (m := m) (t := t) hd
  have c : 0 ≤ m * t := Int.mul_nonneg hm h
  apply Decidable.byContradiction
  intro hn
  have k : up m d t * d ≤ (-1) * d := Int.mul_le_mul_of_nonneg_right (by omega) (by omega)
  omega
theorem lev_facts {m a b x : Int} (h : leE m a b x = 0) : (1 ≤ m ∧ m ≤ 16777216) ∧ (-16777216 ≤ a ∧ a < b ∧ b ≤ 16777216 ∧ a ≤ x ∧ x ≤ b) ∧ 0 ≤ leM m a b x ∧ 0 ≤ leN m a b x ∧ m ≤ leM m a b x + leN m a b x ∧ leM m a b x + leN m a b x ≤ m + 1 ∧ (x - a ≤ b - x → leN m a b x ≤ leM m a b x) ∧ (b - x ≤ x - a → leM m a b x ≤ leN m a b x) := by
  unfold leM leN
  rw [if_pos h, if_pos h]
  unfold leE at h
  split at h
  · rename_i h1
    split at h
    · rename_i h2
      split at h
      · cases h
      · split at h
        · rename_i h3 h4
          rw [win_iff] at h1 h4
          simp only [Bool.and_eq_true] at h2
          unfold plc at h2
          rw [win_iff, win_iff, win_iff] at h2
          have hd : 0 < b - a := by omega
          have s1 := up_spec (m := m) (t := b - a - (x - a)) hd
          have s2 := up_spec (m := m) (t := x - a) hd
          have n1 := up_nonneg (m := m) (t := b - a - (x - a)) hd (by omega) (by omega)
          have n2 := up_nonneg (m := m) (t := x - a) hd (by omega) (by omega)
          have e : m * (b - a - (x - a)) + m * (x - a) = m * (b - a) := by rw [← Int.mul_add]; congr 1; omega
          have e2 : (up m (b - a) (b - a - (x - a)) + up m (b - a) (x - a)) * (b - a) = up m (b - a) (b - a - (x - a)) * (b - a) + up m (b - a) (x - a) * (b - a) := Int.add_mul _ _ _
          refine ⟨h1, by omega, n1, n2, ?_, ?_, fun hx => up_mono hd (by omega) (by omega), fun hx => up_mono hd (by omega) (by omega)⟩
          · refine Int.le_of_mul_le_mul_right (?_ : m * (b - a) ≤ _) hd
            rw [e2]; omega
          · apply Decidable.byContradiction
            intro hn
            have k : (m + 2) * (b - a) ≤ (up m (b - a) (b - a - (x - a)) + up m (b - a) (x - a)) * (b - a) := Int.mul_le_mul_of_nonneg_right (by omega) (by omega)
            rw [e2, Int.add_mul] at k
            omega
        · cases h
    · cases h
  · cases h
theorem lev_none {m a b x : Int} (h : ¬ leE m a b x = 0) : leM m a b x = 0 ∧ leN m a b x = 0 := by
  unfold leM leN
  rw [if_neg h, if_neg h]
  exact ⟨rfl, rfl⟩
end Go.Proofs.YthifcalemhpmoaaGreat
namespace Go.Proofs.YthifcalemhpmoaaGreat
open Go.RowKit Go.Proofs.Gn
theorem up_more {m k d t : Int} (hd : 0 < d) (hk : 0 ≤ k) (h : 0 ≤ t) : up m d t ≤ up (m + k) d t := by
  have a := up_spec (m := m) (t := t) hd
  have b := up_spec (m := m + k) (t := t) hd
  have c : m * t ≤ (m + k) * t := Int.mul_le_mul_of_nonneg_right (by omega) h
  apply Decidable.byContradiction
  intro hn
  have j : (up (m + k) d t + 1) * d ≤ up m d t * d := Int.mul_le_mul_of_nonneg_right (by omega) (by omega)
  rw [Int.add_mul] at j
  omega
theorem up_le {m d t : Int} (hd : 0 < d) (hm : 0 ≤ m) (h : t ≤ d) : up m d t ≤ m := by
  have a := up_spec (m := m) (t := t) hd
  have c : m * t ≤ m * d := Int.mul_le_mul_of_nonneg_left h hm
  apply Decidable.byContradiction
  intro hn
  have j : (m + 1) * d ≤ up m d t * d := Int.mul_le_mul_of_nonneg_right (by omega) (by omega)
  rw [Int.add_mul] at j
  omega
theorem sum_up {m D l0 l1 l2 n0 n1 n2 N : Int} (hD : 0 < D) (h0 : 0 ≤ n0) (h1 : 0 ≤ n1) (h2 : 0 ≤ n2) (hs : l0 * n0 + l1 * n1 + l2 * n2 = D) (hN : n0 + n1 + n2 = N) :
    m ≤ up m D l0 * n0 + up m D l1 * n1 + up m D l2 * n2 ∧ up m D l0 * n0 + up m D l1 * n1 + up m D l2 * n2 ≤ m + N := by
  obtain ⟨a0, b0⟩ := up_spec (m := m) (t := l0) hD
  obtain ⟨a1, b1⟩ := up_spec (m := m) (t := l1) hD
  obtain ⟨a2, b2⟩ := up_spec (m := m) (t := l2) hD
  generalize up m D l0 = u0 at *
  generalize up m D l1 = u1 at *
  generalize up m D l2 = u2 at *
  have c0 : m * l0 * n0 ≤ u0 * D * n0 := Int.mul_le_mul_of_nonneg_right a0 h0
  have c1 : m * l1 * n1 ≤ u1 * D * n1 := Int.mul_le_mul_of_nonneg_right a1 h1
  have c2 : m * l2 * n2 ≤ u2 * D * n2 := Int.mul_le_mul_of_nonneg_right a2 h2
  have d0 : u0 * D * n0 ≤ (m * l0 + D) * n0 := Int.mul_le_mul_of_nonneg_right (by omega) h0
  have d1 : u1 * D * n1 ≤ (m * l1 + D) * n1 := Int.mul_le_mul_of_nonneg_right (by omega) h1
  have d2 : u2 * D * n2 ≤ (m * l2 + D) * n2 := Int.mul_le_mul_of_nonneg_right (by omega) h2
  have e : m * l0 * n0 + m * l1 * n1 + m * l2 * n2 = m * D := by rw [← hs]; grind
  have f : (u0 * n0 + u1 * n1 + u2 * n2) * D = u0 * D * n0 + u1 * D * n1 + u2 * D * n2 := by grind
  have g : (m * l0 + D) * n0 + (m * l1 + D) * n1 + (m * l2 + D) * n2 = m * D + N * D := by rw [← hN, ← e]; grind
  constructor
  · refine Int.le_of_mul_le_mul_right (?_ : m * D ≤ _) hD
    rw [f]; omega
  · refine Int.le_of_mul_le_mul_right (?_ : _ * D ≤ _) hD
    rw [f, Int.add_mul]; omega
theorem shE_ok {ps : List Gs.Sup} {m X Y : Int} (h : shE ps m X Y = 0) : boE ps m X Y = 0 ∧ ¬ 0 ≤ lif (pa0 ps X Y) (pa1 ps X Y) (pa2 ps X Y) := by
  unfold shE at h
  split at h
  · unfold uE at h
    split at h
    · cases h
    · exact ⟨by assumption, by assumption⟩
  · exact absurd h (by assumption)
theorem all_facts {ps : List Gs.Sup} {m X Y : Int} (h : shE ps m X Y = 0) : chE ps = 0 ∧ (1 ≤ m ∧ m ≤ 16777216) ∧ ((0 ≤ shV ps m X Y (up m (paD ps) (pa0 ps X Y)) ∧ shV ps m X Y (up m (paD ps) (pa0 ps X Y)) ≤ m) ∧ (0 ≤ shV ps m X Y (up m (paD ps) (pa1 ps X Y)) ∧ shV ps m X Y (up m (paD ps) (pa1 ps X Y)) ≤ m) ∧ (0 ≤ shV ps m X Y (up m (paD ps) (pa2 ps X Y)) ∧ shV ps m X Y (up m (paD ps) (pa2 ps X Y)) ≤ m)) ∧
    ((0 ≤ Gs.cN 0 ps ∧ Gs.cN 0 ps ≤ 48) ∧ (0 ≤ Gs.cN 1 ps ∧ Gs.cN 1 ps ≤ 48) ∧ (0 ≤ Gs.cN 2 ps ∧ Gs.cN 2 ps ≤ 48)) ∧
    (m ≤ shV ps m X Y (up m (paD ps) (pa0 ps X Y)) * Gs.cN 0 ps + shV ps m X Y (up m (paD ps) (pa1 ps X Y)) * Gs.cN 1 ps + shV ps m X Y (up m (paD ps) (pa2 ps X Y)) * Gs.cN 2 ps ∧ shV ps m X Y (up m (paD ps) (pa0 ps X Y)) * Gs.cN 0 ps + shV ps m X Y (up m (paD ps) (pa1 ps X Y)) * Gs.cN 1 ps + shV ps m X Y (up m (paD ps) (pa2 ps X Y)) * Gs.cN 2 ps ≤ m + ps.length) := by
  have hv : ∀ v, shV ps m X Y v = v := fun v => if_pos h
  simp only [hv]
  obtain ⟨h1, h2⟩ := shE_ok h
  obtain ⟨h3, m1, m2⟩ := boE_ok h1
  obtain ⟨o1, o2, o3, o4⟩ := chE_ok (atE_ok h3).1
  obtain ⟨⟨d1, d2⟩, b0, b1, b2⟩ := share_bd h3 h2
  obtain ⟨_, s2, _, _⟩ := pa_sum o4 X Y
  have e := Gs.cN_len o1
  have n0 := Gs.cN_nonneg 0 ps
  have n1 := Gs.cN_nonneg 1 ps
  have n2 := Gs.cN_nonneg 2 ps
  have hs := sum_up (m := m) (by omega : 0 < paD ps) n0 n1 n2 s2 e
  refine ⟨(atE_ok h3).1, ⟨m1, m2⟩, ⟨⟨up_nonneg (by omega) (by omega) b0.1, up_le (by omega) (by omega) b0.2⟩, ⟨up_nonneg (by omega) (by omega) b1.1, up_le (by omega) (by omega) b1.2⟩, ⟨up_nonneg (by omega) (by omega) b2.1, up_le (by omega) (by omega) b2.2⟩⟩, by omega, hs⟩
theorem all_more {ps : List Gs.Sup} {m k X Y : Int} (h : shE ps m X Y = 0) (hk : 0 ≤ k) (h' : shE ps (m + k) X Y = 0) :
    shV ps m X Y (up m (paD ps) (pa0 ps X Y)) ≤ shV ps (m + k) X Y (up (m + k) (paD ps) (pa0 ps X Y)) ∧ shV ps m X Y (up m (paD ps) (pa1 ps X Y)) ≤ shV ps (m + k) X Y (up (m + k) (paD ps) (pa1 ps X Y)) ∧ shV ps m X Y (up m (paD ps) (pa2 ps X Y)) ≤ shV ps (m + k) X Y (up (m + k) (paD ps) (pa2 ps X Y)) := by
  have hv : ∀ v, shV ps m X Y v = v := fun v => if_pos h
  have hw : ∀ v, shV ps (m + k) X Y v = v := fun v => if_pos h'
  simp only [hv, hw]
  obtain ⟨h1, h2⟩ := shE_ok h
  obtain ⟨h3, m1, m2⟩ := boE_ok h1
  obtain ⟨⟨d1, d2⟩, b0, b1, b2⟩ := share_bd h3 h2
  exact ⟨up_more (by omega) hk b0.1, up_more (by omega) hk b1.1, up_more (by omega) hk b2.1⟩
theorem all_err {ps : List Gs.Sup} {m k X Y : Int} (h : shE ps m X Y = 0) (h' : ¬ shE ps (m + k) X Y = 0) : shE ps (m + k) X Y = 14 ∨ shE ps (m + k) X Y = 3 := by
  obtain ⟨h1, h2⟩ := shE_ok h
  obtain ⟨h3, m1, m2⟩ := boE_ok h1
  obtain ⟨c1, c2⟩ := atE_ok h3
  unfold shE at h' ⊢
  by_cases hb : boE ps (m + k) X Y = 0
  · rw [if_pos hb] at h' ⊢
    unfold uE at h' ⊢
    rw [if_neg h2] at h' ⊢
    split at h'
    · exact absurd rfl h'
    · rename_i hf
      rw [if_neg hf]
      exact .inl rfl
  · rw [if_neg hb]
    right
    unfold boE at hb ⊢
    rw [if_pos c1] at hb ⊢
    split at hb
    · exact absurd c2 hb
    · rename_i hm
      rw [if_neg hm]
      unfold msE at hm ⊢
      split at hm
      · exact absurd rfl hm
      · rename_i hw
        rw [if_neg hw]
end Go.Proofs.YthifcalemhpmoaaGreat
namespace Go.Proofs.YthifcalemhpmoaaGreat
open Go.RowKit Go.Proofs.Gn
theorem p_nearS (n d : Int) (w : World) : Calls Tryz.prog 95 #[.int .i64 n, .int .i64 d] w fun e w' => e = .returned (.int .i64 (neV n d)) ∧ w = w' := by
  have H := hide (fun W => p_Nearest n d W)
  generalize neV n d = V at *
  generalize quE n d = E at *
  go_enter Tryz.func95, Tryz.ntmps95
  go_wp2_with (go_at_call 17; (with_reducible refine (unhide H _).mono ?_); rintro e w1 ⟨rfl, rfl⟩)
  go_ret
  exact ⟨rfl, rfl⟩
theorem ne_bd {n d : Int} (h : -137438953472 ≤ n ∧ n ≤ 137438953472) : -137438953472 ≤ neV n d ∧ neV n d ≤ 137438953472 := by
  unfold neV
  cases hq : inQ n d
  · simp
  · obtain ⟨b1, b2, b3, b4⟩ := inQ_bd hq
    have t := near_bd (n := n) (d := d) (by omega)
    simp only [if_true]
    by_cases c : 0 ≤ n
    · have := t.1 c; omega
    · have := t.2 (by omega); omega
theorem ne_th {n : Int} {m : Int} (hm : 0 ≤ m ∧ m ≤ 262144) (h : -(1000 * m) ≤ n ∧ n ≤ 1000 * m) : -m ≤ neV n 1000 ∧ neV n 1000 ≤ m := by
  unfold neV
  split
  · unfold near; omega
  · omega
theorem p_upTo (x y m : Int) (hm : 0 ≤ m ∧ m ≤ 1048576) (w : World) : Calls Tryz.prog 94 #[pt x y, .int .i64 m] w fun e w' => e = .returned (.bool (win x (-m) m && win y (-m) m)) ∧ Up w w' := by
  have H1 : ∀ W : World, Calls Tryz.prog 49 #[.int .i64 x, .int .i64 (-m), .int .i64 m] W fun e w' => e = .returned (.bool (win x (-m) m)) ∧ W = w' := fun W => p_within _ _ _ W
  have H2 : ∀ W : World, Calls Tryz.prog 49 #[.int .i64 y, .int .i64 (-m), .int .i64 m] W fun e w' => e = .returned (.bool (win y (-m) m)) ∧ W = w' := fun W => p_within _ _ _ W
  generalize win x (-m) m = b1 at *
  generalize win y (-m) m = b2 at *
  have h1 := hide H1
  have h2 := hide H2
  clear H1 H2
  obtain ⟨m1, m2⟩ := hm
  cases b1
  · go_enter Tryz.func94, Tryz.ntmps94
    go_wp2_with (first | (go_at_call 49; (with_reducible refine (unhide h1 _).mono ?_); rintro e w1 ⟨rfl, rfl⟩) | (go_at_call 49; (with_reducible refine (unhide h2 _).mono ?_); rintro e w1 ⟨rfl, rfl⟩))
    go_ret
    exact ⟨rfl, (by repeat' (first | (with_reducible exact up_refl _) | (with_reducible assumption) | (with_reducible refine up_alloc ?_ _) | (with_reducible refine up_drewN ?_ _) | (with_reducible refine up_drew ?_) | (with_reducible refine up_set ?_ (by first | (simp; done) | (simp; omega) | omega) _) | (refine up_trans ?_ (by with_reducible assumption))))⟩
  · go_enter Tryz.func94, Tryz.ntmps94
    go_wp2_with (first | (go_at_call 49; (with_reducible refine (unhide h1 _).mono ?_); rintro e w1 ⟨rfl, rfl⟩) | (go_at_call 49; (with_reducible refine (unhide h2 _).mono ?_); rintro e w1 ⟨rfl, rfl⟩))
    go_ret
    exact ⟨rfl, (by repeat' (first | (with_reducible exact up_refl _) | (with_reducible assumption) | (with_reducible refine up_alloc ?_ _) | (with_reducible refine up_drewN ?_ _) | (with_reducible refine up_drew ?_) | (with_reducible refine up_set ?_ (by first | (simp; done) | (simp; omega) | omega) _) | (refine up_trans ?_ (by with_reducible assumption))))⟩
/-! ### The errors -/
def slB (x y m : Int) : Bool := win x (-m) m && win y (-m) m
def ceB (a b c : Int) : Bool := win a (-131072) 131072 && (win b (-131072) 131072 && win c (-131072) 131072)
def ceE (a b c : Int) : Int := if ceB a b c then 0 else 3
def lnB (a b c sx sy ax ay : Int) : Bool := ceB a b c && (slB sx sy 1000 && slB ax ay 1000)
def lnE (a b c sx sy ax ay : Int) : Int := if lnB a b c sx sy ax ay then 0 else 3
theorem p_checkCentre (a b c : Int) (w : World) : Calls Tryz.prog 93 #[.agg #[.int .i64 a, .int .i64 b, .int .i64 c]] w fun e w' => e = .returned (.int .i64 (ceE a b c)) ∧ Up w w' := by
  have H1 : ∀ W : World, Calls Tryz.prog 49 #[.int .i64 a, .int .i64 (-131072), .int .i64 131072] W fun e w' => e = .returned (.bool (win a (-131072) 131072)) ∧ W = w' := fun W => p_within _ _ _ W
  have H2 : ∀ W : World, Calls Tryz.prog 49 #[.int .i64 b, .int .i64 (-131072), .int .i64 131072] W fun e w' => e = .returned (.bool (win b (-131072) 131072)) ∧ W = w' := fun W => p_within _ _ _ W
  have H3 : ∀ W : World, Calls Tryz.prog 49 #[.int .i64 c, .int .i64 (-131072), .int .i64 131072] W fun e w' => e = .returned (.bool (win c (-131072) 131072)) ∧ W = w' := fun W => p_within _ _ _ W
  unfold ceE ceB
  generalize win a (-131072) 131072 = b1 at *
  generalize win b (-131072) 131072 = b2 at *
  generalize win c (-131072) 131072 = b3 at *
  have h1 := hide H1
  have h2 := hide H2
  have h3 := hide H3
  clear H1 H2 H3
  cases b1
  · show Calls Tryz.prog 93 #[.agg #[.int .i64 a, .int .i64 b, .int .i64 c]] w fun e w' => e = .returned (.int .i64 3) ∧ Up w w'
    go_enter Tryz.func93, Tryz.ntmps93
    go_wp2_with fail
    refine wp_loop_rounds 4 ?_
    rw [rounds_succ]
    go_wp2_with (go_at_call 49; (with_reducible refine (unhide h1 _).mono ?_); rintro e w1 ⟨rfl, rfl⟩)
    go_ret
    exact ⟨rfl, (by repeat' (first | (with_reducible exact up_refl _) | (with_reducible assumption) | (with_reducible refine up_alloc ?_ _) | (with_reducible refine up_drewN ?_ _) | (with_reducible refine up_drew ?_) | (with_reducible refine up_set ?_ (by first | (simp; done) | (simp; omega) | omega) _) | (refine up_trans ?_ (by with_reducible assumption))))⟩
  cases b2
  · show Calls Tryz.prog 93 #[.agg #[.int .i64 a, .int .i64 b, .int .i64 c]] w fun e w' => e = .returned (.int .i64 3) ∧ Up w w'
    go_enter Tryz.func93, Tryz.ntmps93
    go_wp2_with fail
    refine wp_loop_rounds 4 ?_
    rw [rounds_succ]
    go_wp2_with (go_at_call 49; (with_reducible refine (unhide h1 _).mono ?_); rintro e w1 ⟨rfl, rfl⟩)
    rw [rounds_succ]
    go_wp2_with (go_at_call 49; (with_reducible refine (unhide h2 _).mono ?_); rintro e w1 ⟨rfl, rfl⟩)
    go_ret
    exact ⟨rfl, (by repeat' (first | (with_reducible exact up_refl _) | (with_reducible assumption) | (with_reducible refine up_alloc ?_ _) | (with_reducible refine up_drewN ?_ _) | (with_reducible refine up_drew ?_) | (with_reducible refine up_set ?_ (by first | (simp; done) | (simp; omega) | omega) _) | (refine up_trans ?_ (by with_reducible assumption))))⟩
  cases b3
  · show Calls Tryz.prog 93 #[.agg #[.int .i64 a, .int .i64 b, .int .i64 c]] w fun e w' => e = .returned (.int .i64 3) ∧ Up w w'
    go_enter Tryz.func93, Tryz.ntmps93
    go_wp2_with fail
    refine wp_loop_rounds 4 ?_
    rw [rounds_succ]
    go_wp2_with (go_at_call 49; (with_reducible refine (unhide h1 _).mono ?_); rintro e w1 ⟨rfl, rfl⟩)
    rw [rounds_succ]
    go_wp2_with (go_at_call 49; (with_reducible refine (unhide h2 _).mono ?_); rintro e w1 ⟨rfl, rfl⟩)
    rw [rounds_succ]
    go_wp2_with (go_at_call 49; (with_reducible refine (unhide h3 _).mono ?_); rintro e w1 ⟨rfl, rfl⟩)
    go_ret
    exact ⟨rfl, (by repeat' (first | (with_reducible exact up_refl _) | (with_reducible assumption) | (with_reducible refine up_alloc ?_ _) | (with_reducible refine up_drewN ?_ _) | (with_reducible refine up_drew ?_) | (with_reducible refine up_set ?_ (by first | (simp; done) | (simp; omega) | omega) _) | (refine up_trans ?_ (by with_reducible assumption))))⟩
  · show Calls Tryz.prog 93 #[.agg #[.int .i64 a, .int .i64 b, .int .i64 c]] w fun e w' => e = .returned (.int .i64 0) ∧ Up w w'
    go_enter Tryz.func93, Tryz.ntmps93
    go_wp2_with fail
    refine wp_loop_rounds 4 ?_
    rw [rounds_succ]
    go_wp2_with (go_at_call 49; (with_reducible refine (unhide h1 _).mono ?_); rintro e w1 ⟨rfl, rfl⟩)
    rw [rounds_succ]
    go_wp2_with (go_at_call 49; (with_reducible refine (unhide h2 _).mono ?_); rintro e w1 ⟨rfl, rfl⟩)
    rw [rounds_succ]
    go_wp2_with (go_at_call 49; (with_reducible refine (unhide h3 _).mono ?_); rintro e w1 ⟨rfl, rfl⟩)
    rw [rounds_succ]
    go_wp2_with fail
    go_ret
    exact ⟨rfl, (by repeat' (first | (with_reducible exact up_refl _) | (with_reducible assumption) | (with_reducible refine up_alloc ?_ _) | (with_reducible refine up_drewN ?_ _) | (with_reducible refine up_drew ?_) | (with_reducible refine up_set ?_ (by first | (simp; done) | (simp; omega) | omega) _) | (refine up_trans ?_ (by with_reducible assumption))))⟩
theorem p_checkLeaning (c0 c1 c2 sx sy ax ay : Int) (w : World) : Calls Tryz.prog 58 #[.agg #[.int .i64 c0, .int .i64 c1, .int .i64 c2], pt sx sy, pt ax ay] w fun e w' => e = .returned (.int .i64 (lnE c0 c1 c2 sx sy ax ay)) ∧ Up w w' := by
  have hC := hide (fun W => p_checkCentre c0 c1 c2 W)
  have H1 : ∀ W : World, Calls Tryz.prog 94 #[pt sx sy, .int .i64 1000] W fun e w' => e = .returned (.bool (slB sx sy 1000)) ∧ Up W w' := fun W => p_upTo sx sy 1000 (by omega) W
  have H2 : ∀ W : World, Calls Tryz.prog 94 #[pt ax ay, .int .i64 1000] W fun e w' => e = .returned (.bool (slB ax ay 1000)) ∧ Up W w' := fun W => p_upTo ax ay 1000 (by omega) W
  unfold lnE lnB
  unfold ceE at hC
  generalize ceB c0 c1 c2 = b0 at *
  generalize slB sx sy 1000 = b1 at *
  generalize slB ax ay 1000 = b2 at *
  have h1 := hide H1
  have h2 := hide H2
  clear H1 H2
  cases b0
  · simp only [Bool.false_and, Bool.false_eq_true, if_false] at hC ⊢
    go_enter Tryz.func58, Tryz.ntmps58
    go_wp2_with (go_at_call 93; (with_reducible refine (unhide hC _).mono ?_); rintro e w1 ⟨rfl, hb1⟩)
    go_ret
    exact ⟨rfl, (by repeat' (first | (with_reducible exact up_refl _) | (with_reducible assumption) | (with_reducible refine up_alloc ?_ _) | (with_reducible refine up_drewN ?_ _) | (with_reducible refine up_drew ?_) | (with_reducible refine up_set ?_ (by first | (simp; done) | (simp; omega) | omega) _) | (refine up_trans ?_ (by with_reducible assumption))))⟩
  simp only [Bool.true_and, if_true] at hC ⊢
  cases b1
  · simp only [Bool.false_and, Bool.false_eq_true, if_false] at ⊢
    go_enter Tryz.func58, Tryz.ntmps58
    go_wp2_with (first | (go_at_call 93; (with_reducible refine (unhide hC _).mono ?_); rintro e w1 ⟨rfl, hb1⟩; have k1_0 : w1.cell? ⟨w.heap.size + 1, 0, none⟩ = some (.int .i64 sx) := up_cell hb1 (by first | (with_reducible assumption) | (refine alloc_cell _ ?_; with_reducible assumption) | go_cell); have k1_1 : w1.cell? ⟨w.heap.size + 1, 1, none⟩ = some (.int .i64 sy) := up_cell hb1 (by first | (with_reducible assumption) | (refine alloc_cell _ ?_; with_reducible assumption) | go_cell); have k2_0 : w1.cell? ⟨w.heap.size + 1 + 1, 0, none⟩ = some (.int .i64 ax) := up_cell hb1 (by first | (with_reducible assumption) | (refine alloc_cell _ ?_; with_reducible assumption) | go_cell); have k2_1 : w1.cell? ⟨w.heap.size + 1 + 1, 1, none⟩ = some (.int .i64 ay) := up_cell hb1 (by first | (with_reducible assumption) | (refine alloc_cell _ ?_; with_reducible assumption) | go_cell)) | (go_at_call 94; (with_reducible refine (unhide h1 _).mono ?_); rintro e w2 ⟨rfl, hb2⟩; have z0 := up_cell hb2 k2_0; have z1 := up_cell hb2 k2_1))
    go_ret
    exact ⟨rfl, (by repeat' (first | (with_reducible exact up_refl _) | (with_reducible assumption) | (with_reducible refine up_alloc ?_ _) | (with_reducible refine up_drewN ?_ _) | (with_reducible refine up_drew ?_) | (with_reducible refine up_set ?_ (by first | (simp; done) | (simp; omega) | omega) _) | (refine up_trans ?_ (by with_reducible assumption))))⟩
  simp only [Bool.true_and] at ⊢
  cases b2
  · simp only [Bool.false_eq_true, if_false] at ⊢
    go_enter Tryz.func58, Tryz.ntmps58
    go_wp2_with (first | (go_at_call 93; (with_reducible refine (unhide hC _).mono ?_); rintro e w1 ⟨rfl, hb1⟩; have k1_0 : w1.cell? ⟨w.heap.size + 1, 0, none⟩ = some (.int .i64 sx) := up_cell hb1 (by first | (with_reducible assumption) | (refine alloc_cell _ ?_; with_reducible assumption) | go_cell); have k1_1 : w1.cell? ⟨w.heap.size + 1, 1, none⟩ = some (.int .i64 sy) := up_cell hb1 (by first | (with_reducible assumption) | (refine alloc_cell _ ?_; with_reducible assumption) | go_cell); have k2_0 : w1.cell? ⟨w.heap.size + 1 + 1, 0, none⟩ = some (.int .i64 ax) := up_cell hb1 (by first | (with_reducible assumption) | (refine alloc_cell _ ?_; with_reducible assumption) | go_cell); have k2_1 : w1.cell? ⟨w.heap.size + 1 + 1, 1, none⟩ = some (.int .i64 ay) := up_cell hb1 (by first | (with_reducible assumption) | (refine alloc_cell _ ?_; with_reducible assumption) | go_cell)) | (go_at_call 94; (with_reducible refine (unhide h1 _).mono ?_); rintro e w2 ⟨rfl, hb2⟩; have z0 := up_cell hb2 k2_0; have z1 := up_cell hb2 k2_1) | (go_at_call 94; (with_reducible refine (unhide h2 _).mono ?_); rintro e w3 ⟨rfl, hb3⟩))
    go_ret
    exact ⟨rfl, (by repeat' (first | (with_reducible exact up_refl _) | (with_reducible assumption) | (with_reducible refine up_alloc ?_ _) | (with_reducible refine up_drewN ?_ _) | (with_reducible refine up_drew ?_) | (with_reducible refine up_set ?_ (by first | (simp; done) | (simp; omega) | omega) _) | (refine up_trans ?_ (by with_reducible assumption))))⟩
  · simp only [if_true] at ⊢
    go_enter Tryz.func58, Tryz.ntmps58
    go_wp2_with (first | (go_at_call 93; (with_reducible refine (unhide hC _).mono ?_); rintro e w1 ⟨rfl, hb1⟩; have k1_0 : w1.cell? ⟨w.heap.size + 1, 0, none⟩ = some (.int .i64 sx) := up_cell hb1 (by first | (with_reducible assumption) | (refine alloc_cell _ ?_; with_reducible assumption) | go_cell); have k1_1 : w1.cell? ⟨w.heap.size + 1, 1, none⟩ = some (.int .i64 sy) := up_cell hb1 (by first | (with_reducible assumption) | (refine alloc_cell _ ?_; with_reducible assumption) | go_cell); have k2_0 : w1.cell? ⟨w.heap.size + 1 + 1, 0, none⟩ = some (.int .i64 ax) := up_cell hb1 (by first | (with_reducible assumption) | (refine alloc_cell _ ?_; with_reducible assumption) | go_cell); have k2_1 : w1.cell? ⟨w.heap.size + 1 + 1, 1, none⟩ = some (.int .i64 ay) := up_cell hb1 (by first | (with_reducible assumption) | (refine alloc_cell _ ?_; with_reducible assumption) | go_cell)) | (go_at_call 94; (with_reducible refine (unhide h1 _).mono ?_); rintro e w2 ⟨rfl, hb2⟩; have z0 := up_cell hb2 k2_0; have z1 := up_cell hb2 k2_1) | (go_at_call 94; (with_reducible refine (unhide h2 _).mono ?_); rintro e w3 ⟨rfl, hb3⟩))
    go_ret
    exact ⟨rfl, (by repeat' (first | (with_reducible exact up_refl _) | (with_reducible assumption) | (with_reducible refine up_alloc ?_ _) | (with_reducible refine up_drewN ?_ _) | (with_reducible refine up_drew ?_) | (with_reducible refine up_set ?_ (by first | (simp; done) | (simp; omega) | omega) _) | (refine up_trans ?_ (by with_reducible assumption))))⟩
/-! ### The foot -/
def ft (c h s a : Int) : Int := c + neV (h * (s + a)) 1000
theorem lnB_bd {c0 c1 c2 sx sy ax ay : Int} (h : lnB c0 c1 c2 sx sy ax ay = true) : ((-131072 ≤ c0 ∧ c0 ≤ 131072) ∧ (-131072 ≤ c1 ∧ c1 ≤ 131072) ∧ (-131072 ≤ c2 ∧ c2 ≤ 131072)) ∧ ((-1000 ≤ sx ∧ sx ≤ 1000) ∧ (-1000 ≤ sy ∧ sy ≤ 1000)) ∧ (-1000 ≤ ax ∧ ax ≤ 1000) ∧ (-1000 ≤ ay ∧ ay ≤ 1000) := by
  unfold lnB ceB slB at h
  simp only [Bool.and_eq_true, win_iff] at h
  omega
theorem ft_bd {c h s a : Int} (hc : -131072 ≤ c ∧ c ≤ 131072) (hh : -131072 ≤ h ∧ h ≤ 131072) (hs : -1000 ≤ s ∧ s ≤ 1000) (ha : -1000 ≤ a ∧ a ≤ 1000) :
    (-262144000 ≤ h * (s + a) ∧ h * (s + a) ≤ 262144000) ∧ (-262144 ≤ neV (h * (s + a)) 1000 ∧ neV (h * (s + a)) 1000 ≤ 262144) ∧ -393216 ≤ ft c h s a ∧ ft c h s a ≤ 393216 := by
  have p := Gs.mb (u := h) (v := s + a) (U := 131072) (V := 2000) (by omega) (by omega) (by omega) (by omega)
  have q := ne_th (n := h * (s + a)) (m := 262144) (by omega) (by omega)
  unfold ft
  omega
set_option maxHeartbeats 4000000 in
theorem p_foot {c0 c1 c2 sx sy ax ay : Int} (hb : lnB c0 c1 c2 sx sy ax ay = true) (w : World) : Calls Tryz.prog 59 #[.agg #[.int .i64 c0, .int .i64 c1, .int .i64 c2], pt sx sy, pt ax ay] w fun e w' => e = .returned (pt (ft c0 c2 sx ax) (ft c1 c2 sy ay)) ∧ Up w w' := by
  obtain ⟨⟨g0, g1, g2⟩, ⟨s1, s2⟩, a1, a2⟩ := lnB_bd hb
  obtain ⟨⟨b1, b2⟩, ⟨b3, b4⟩, b5, b6⟩ := ft_bd g0 g2 s1 a1
  obtain ⟨⟨d1, d2⟩, ⟨d3, d4⟩, d5, d6⟩ := ft_bd g1 g2 s2 a2
  have H1 : ∀ W : World, Calls Tryz.prog 95 #[.int .i64 (c2 * (sx + ax)), .int .i64 1000] W fun e w' => e = .returned (.int .i64 (neV (c2 * (sx + ax)) 1000)) ∧ W = w' := fun W => p_nearS _ 1000 W
  have H2 : ∀ W : World, Calls Tryz.prog 95 #[.int .i64 (c2 * (sy + ay)), .int .i64 1000] W fun e w' => e = .returned (.int .i64 (neV (c2 * (sy + ay)) 1000)) ∧ W = w' := fun W => p_nearS _ 1000 W
  have e1 : IntKind.i64.wrap (sx + ax) = sx + ax := IntWalk.i64_in _ ⟨by omega, by omega⟩
  have e2 : IntKind.i64.wrap (sy + ay) = sy + ay := IntWalk.i64_in _ ⟨by omega, by omega⟩
  have e3 : IntKind.i64.wrap (c2 * (sx + ax)) = c2 * (sx + ax) := IntWalk.i64_in _ ⟨by omega, by omega⟩
  have e4 : IntKind.i64.wrap (c2 * (sy + ay)) = c2 * (sy + ay) := IntWalk.i64_in _ ⟨by omega, by omega⟩
  have e5 : IntKind.i64.wrap (c0 + neV (c2 * (sx + ax)) 1000) = ft c0 c2 sx ax := IntWalk.i64_in _ ⟨by omega, by omega⟩
  have e6 : IntKind.i64.wrap (c1 + neV (c2 * (sy + ay)) 1000) = ft c1 c2 sy ay := IntWalk.i64_in _ ⟨by omega, by omega⟩
  clear b1 b2 b3 b4 b5 b6 d1 d2 d3 d4 d5 d6 hb g0 g1 g2 s1 s2 a1 a2
  generalize ft c0 c2 sx ax = ox at *
  generalize ft c1 c2 sy ay = oy at *
  generalize neV (c2 * (sx + ax)) 1000 = fk at *
  generalize neV (c2 * (sy + ay)) 1000 = fl at *
  obtain ⟨nx, hnx⟩ : ∃ n, c2 * (sx + ax) = n := ⟨_, rfl⟩
  obtain ⟨ny, hny⟩ : ∃ n, c2 * (sy + ay) = n := ⟨_, rfl⟩
  rw [hnx] at H1 e3
  rw [hny] at H2 e4
  have e7 : IntKind.i64.wrap (c2 * (sx + ax)) = nx := by rw [hnx]; exact e3
  have e8 : IntKind.i64.wrap (c2 * (sy + ay)) = ny := by rw [hny]; exact e4
  clear e3 e4 hnx hny
  have h1 := hide H1
  have h2 := hide H2
  clear H1 H2
  go_enter Tryz.func59, Tryz.ntmps59
  go_wp2_with fail
  refine at_wp (fun W hW => ?_)
  have q0 : W.cell? ⟨w.heap.size, 0, none⟩ = some (.int .i64 c0) := by rw [hW]; go_cell
  have q1 : W.cell? ⟨w.heap.size, 1, none⟩ = some (.int .i64 c1) := by rw [hW]; go_cell
  have q2 : W.cell? ⟨w.heap.size, 2, none⟩ = some (.int .i64 c2) := by rw [hW]; go_cell
  have q3 : W.cell? ⟨w.heap.size + 1, 0, none⟩ = some (.int .i64 sx) := by rw [hW]; go_cell
  have q4 : W.cell? ⟨w.heap.size + 1, 1, none⟩ = some (.int .i64 sy) := by rw [hW]; go_cell
  have q5 : W.cell? ⟨w.heap.size + 1 + 1, 0, none⟩ = some (.int .i64 ax) := by rw [hW]; go_cell
  have q6 : W.cell? ⟨w.heap.size + 1 + 1, 1, none⟩ = some (.int .i64 ay) := by rw [hW]; go_cell
  have B7 : Bx W (w.heap.size + 1 + 1 + 1) [.int .i64 0, .int .i64 0] := by
    rw [hW]
    have t := bx_new (((w.alloc (.cells #[.int .i64 c0, .int .i64 c1, .int .i64 c2] 29)).alloc (.cells #[.int .i64 sx, .int .i64 sy] 42)).alloc (.cells #[.int .i64 ax, .int .i64 ay] 42)) [.int .i64 0, .int .i64 0] 62
    rwa [sz1, sz1, sz1] at t
  have U0 : Up w W := by rw [hW]; exact (by repeat' (first | (with_reducible exact up_refl _) | (with_reducible assumption) | (with_reducible refine up_alloc ?_ _) | (with_reducible refine up_drewN ?_ _) | (with_reducible refine up_drew ?_) | (with_reducible refine up_set ?_ (by first | (simp; done) | (simp; omega) | omega) _) | (refine up_trans ?_ (by with_reducible assumption))))
  clear hW
  obtain ⟨q7, q8⟩ := bx2 B7
  obtain ⟨f7, f8⟩ := bxf2 B7
  go_region_held3 (fun wx => wx.cell? ⟨w.heap.size, 0, none⟩ = some (.int .i64 c0) ∧ wx.cell? ⟨w.heap.size, 1, none⟩ = some (.int .i64 c1) ∧ wx.cell? ⟨w.heap.size, 2, none⟩ = some (.int .i64 c2) ∧ wx.cell? ⟨w.heap.size + 1, 0, none⟩ = some (.int .i64 sx) ∧ wx.cell? ⟨w.heap.size + 1, 1, none⟩ = some (.int .i64 sy) ∧ wx.cell? ⟨w.heap.size + 1 + 1, 0, none⟩ = some (.int .i64 ax) ∧ wx.cell? ⟨w.heap.size + 1 + 1, 1, none⟩ = some (.int .i64 ay)) ((first | (exact ⟨by go_cell, by go_cell, by go_cell, by go_cell, by go_cell, by go_cell, by go_cell⟩) | (with_reducible assumption)))
    (first | (go_at_call 95; (with_reducible refine (unhide h1 _).mono ?_); rintro e w4 ⟨rfl, rfl⟩) | (go_at_call 95; (with_reducible refine (unhide h2 _).mono ?_); rintro e w4 ⟨rfl, rfl⟩))
  all_goals
    refine at_x (fun W9 hW9 => ?_)
    have B9 : Bx W9 (w.heap.size + 1 + 1 + 1) [.int .i64 ox, .int .i64 oy] := by rw [hW9]; exact bx_drew (bx_set (bx_set B7 0 _) 1 _)
    have U9 : Up w W9 := by rw [hW9]; exact (by repeat' (first | (with_reducible exact up_refl _) | (with_reducible assumption) | (with_reducible refine up_alloc ?_ _) | (with_reducible refine up_drewN ?_ _) | (with_reducible refine up_drew ?_) | (with_reducible refine up_set ?_ (by first | (simp; done) | (simp; omega) | omega) _) | (refine up_trans ?_ (by with_reducible assumption))))
    clear hW9 B7 U0 q0 q1 q2 q3 q4 q5 q6 q7 q8 f7 f8
    obtain ⟨p0, p1⟩ := bx2 B9
    go_wp2_with fail
    refine bodyPost_ret (v := pt ox oy) (by simp [results, Tryz.results59, go_sem, p0, p1]) rfl ⟨rfl, U9⟩
end Go.Proofs.YthifcalemhpmoaaGreat
namespace Go.Proofs.YthifcalemhpmoaaGreat
open Go.RowKit Go.Proofs.Gn
def foV (c0 c1 c2 sx sy ax ay v : Int) : Int := if lnB c0 c1 c2 sx sy ax ay then v else 0
set_option maxHeartbeats 2000000 in
theorem p_Foot (c0 c1 c2 sx sy ax ay : Int) (w : World) : Calls Tryz.prog 26 #[.agg #[.int .i64 c0, .int .i64 c1, .int .i64 c2], pt sx sy, pt ax ay] w fun e w' => e = .returned (.tuple #[pt (foV c0 c1 c2 sx sy ax ay (ft c0 c2 sx ax)) (foV c0 c1 c2 sx sy ax ay (ft c1 c2 sy ay)), .int .i64 (lnE c0 c1 c2 sx sy ax ay)]) ∧ Up w w' := by
  have h1 := hide (fun W => p_checkLeaning c0 c1 c2 sx sy ax ay W)
  have h2 := hide (fun (hb : lnB c0 c1 c2 sx sy ax ay = true) (W : World) => p_foot hb W)
  unfold foV
  unfold lnE at h1 ⊢
  generalize ft c0 c2 sx ax = a at *
  generalize ft c1 c2 sy ay = b at *
  generalize lnB c0 c1 c2 sx sy ax ay = B at *
  cases B
  · simp only [Bool.false_eq_true, if_false] at h1 ⊢
    clear h2
    go_enter Tryz.func26, Tryz.ntmps26
    go_wp2_with (go_at_call 58; (with_reducible refine (unhide h1 _).mono ?_); rintro e w1 ⟨rfl, hb1⟩; have k0_0 : w1.cell? ⟨w.heap.size, 0, none⟩ = some (.int .i64 c0) := up_cell hb1 (by first | (with_reducible assumption) | (refine alloc_cell _ ?_; with_reducible assumption) | go_cell); have k0_1 : w1.cell? ⟨w.heap.size, 1, none⟩ = some (.int .i64 c1) := up_cell hb1 (by first | (with_reducible assumption) | (refine alloc_cell _ ?_; with_reducible assumption) | go_cell); have k0_2 : w1.cell? ⟨w.heap.size, 2, none⟩ = some (.int .i64 c2) := up_cell hb1 (by first | (with_reducible assumption) | (refine alloc_cell _ ?_; with_reducible assumption) | go_cell); have k1_0 : w1.cell? ⟨w.heap.size + 1, 0, none⟩ = some (.int .i64 sx) := up_cell hb1 (by first | (with_reducible assumption) | (refine alloc_cell _ ?_; with_reducible assumption) | go_cell); have k1_1 : w1.cell? ⟨w.heap.size + 1, 1, none⟩ = some (.int .i64 sy) := up_cell hb1 (by first | (with_reducible assumption) | (refine alloc_cell _ ?_; with_reducible assumption) | go_cell); have k2_0 : w1.cell? ⟨w.heap.size + 1 + 1, 0, none⟩ = some (.int .i64 ax) := up_cell hb1 (by first | (with_reducible assumption) | (refine alloc_cell _ ?_; with_reducible assumption) | go_cell); have k2_1 : w1.cell? ⟨w.heap.size + 1 + 1, 1, none⟩ = some (.int .i64 ay) := up_cell hb1 (by first | (with_reducible assumption) | (refine alloc_cell _ ?_; with_reducible assumption) | go_cell); have k3_0 : w1.cell? ⟨w.heap.size + 1 + 1 + 1, 0, none⟩ = some (.int .i64 0) := up_cell hb1 (by first | (with_reducible assumption) | (refine alloc_cell _ ?_; with_reducible assumption) | go_cell); have f3_0 : w1.frozen? ⟨w.heap.size + 1 + 1 + 1, 0, none⟩ = false := up_frozen hb1 (v := .int .i64 0) (by first | (with_reducible assumption) | (refine alloc_cell _ ?_; with_reducible assumption) | go_cell) (by first | (with_reducible assumption) | (refine alloc_frozen (v := .int .i64 0) _ ?_ ?_ <;> with_reducible assumption) | (simp; done) | (go_simp; done)); have k3_1 : w1.cell? ⟨w.heap.size + 1 + 1 + 1, 1, none⟩ = some (.int .i64 0) := up_cell hb1 (by first | (with_reducible assumption) | (refine alloc_cell _ ?_; with_reducible assumption) | go_cell); have f3_1 : w1.frozen? ⟨w.heap.size + 1 + 1 + 1, 1, none⟩ = false := up_frozen hb1 (v := .int .i64 0) (by first | (with_reducible assumption) | (refine alloc_cell _ ?_; with_reducible assumption) | go_cell) (by first | (with_reducible assumption) | (refine alloc_frozen (v := .int .i64 0) _ ?_ ?_ <;> with_reducible assumption) | (simp; done) | (go_simp; done)))
    have z := mk_bx2 k3_0 k3_1 f3_0 f3_1
    obtain ⟨W9, hW9⟩ : ∃ W9 : World, W9 = ((w1.setCell ⟨w.heap.size + 1 + 1 + 1, 0, none⟩ (.int .i64 0)).setCell ⟨w.heap.size + 1 + 1 + 1, 1, none⟩ (.int .i64 0)) := ⟨_, rfl⟩
    rw [← hW9]
    have B9 : Bx W9 (w.heap.size + 1 + 1 + 1) [.int .i64 0, .int .i64 0] := by rw [hW9]; exact bx_set (bx_set z 0 _) 1 _
    have U9 : Up w W9 := by rw [hW9]; exact (by repeat' (first | (with_reducible exact up_refl _) | (with_reducible assumption) | (with_reducible refine up_alloc ?_ _) | (with_reducible refine up_drewN ?_ _) | (with_reducible refine up_drew ?_) | (with_reducible refine up_set ?_ (by first | (simp; done) | (simp; omega) | omega) _) | (refine up_trans ?_ (by with_reducible assumption))))
    clear hW9 z
    obtain ⟨p0, p1⟩ := bx2 B9
    refine bodyPost_ret (v := .tuple #[pt 0 0, .int .i64 3]) (by simp [results, Tryz.results26, go_sem, p0, p1]) rfl ⟨rfl, U9⟩
  · simp only [if_true] at h1 ⊢
    have h3 := hide (unhide h2 rfl)
    clear h2
    go_enter Tryz.func26, Tryz.ntmps26
    go_wp2_with (first | (go_at_call 58; (with_reducible refine (unhide h1 _).mono ?_); rintro e w1 ⟨rfl, hb1⟩; have k0_0 : w1.cell? ⟨w.heap.size, 0, none⟩ = some (.int .i64 c0) := up_cell hb1 (by first | (with_reducible assumption) | (refine alloc_cell _ ?_; with_reducible assumption) | go_cell); have k0_1 : w1.cell? ⟨w.heap.size, 1, none⟩ = some (.int .i64 c1) := up_cell hb1 (by first | (with_reducible assumption) | (refine alloc_cell _ ?_; with_reducible assumption) | go_cell); have k0_2 : w1.cell? ⟨w.heap.size, 2, none⟩ = some (.int .i64 c2) := up_cell hb1 (by first | (with_reducible assumption) | (refine alloc_cell _ ?_; with_reducible assumption) | go_cell); have k1_0 : w1.cell? ⟨w.heap.size + 1, 0, none⟩ = some (.int .i64 sx) := up_cell hb1 (by first | (with_reducible assumption) | (refine alloc_cell _ ?_; with_reducible assumption) | go_cell); have k1_1 : w1.cell? ⟨w.heap.size + 1, 1, none⟩ = some (.int .i64 sy) := up_cell hb1 (by first | (with_reducible assumption) | (refine alloc_cell _ ?_; with_reducible assumption) | go_cell); have k2_0 : w1.cell? ⟨w.heap.size + 1 + 1, 0, none⟩ = some (.int .i64 ax) := up_cell hb1 (by first | (with_reducible assumption) | (refine alloc_cell _ ?_; with_reducible assumption) | go_cell); have k2_1 : w1.cell? ⟨w.heap.size + 1 + 1, 1, none⟩ = some (.int .i64 ay) := up_cell hb1 (by first | (with_reducible assumption) | (refine alloc_cell _ ?_; with_reducible assumption) | go_cell); have k3_0 : w1.cell? ⟨w.heap.size + 1 + 1 + 1, 0, none⟩ = some (.int .i64 0) := up_cell hb1 (by first | (with_reducible assumption) | (refine alloc_cell _ ?_; with_reducible assumption) | go_cell); have f3_0 : w1.frozen? ⟨w.heap.size + 1 + 1 + 1, 0, none⟩ = false := up_frozen hb1 (v := .int .i64 0) (by first | (with_reducible assumption) | (refine alloc_cell _ ?_; with_reducible assumption) | go_cell) (by first | (with_reducible assumption) | (refine alloc_frozen (v := .int .i64 0) _ ?_ ?_ <;> with_reducible assumption) | (simp; done) | (go_simp; done)); have k3_1 : w1.cell? ⟨w.heap.size + 1 + 1 + 1, 1, none⟩ = some (.int .i64 0) := up_cell hb1 (by first | (with_reducible assumption) | (refine alloc_cell _ ?_; with_reducible assumption) | go_cell); have f3_1 : w1.frozen? ⟨w.heap.size + 1 + 1 + 1, 1, none⟩ = false := up_frozen hb1 (v := .int .i64 0) (by first | (with_reducible assumption) | (refine alloc_cell _ ?_; with_reducible assumption) | go_cell) (by first | (with_reducible assumption) | (refine alloc_frozen (v := .int .i64 0) _ ?_ ?_ <;> with_reducible assumption) | (simp; done) | (go_simp; done))) | (go_at_call 59; (with_reducible refine (unhide h3 _).mono ?_); rintro e w2 ⟨rfl, hb2⟩; have z := bx_up (mk_bx2 k3_0 k3_1 f3_0 f3_1) hb2; obtain ⟨z0, z1⟩ := bx2 z; obtain ⟨z2, z3⟩ := bxf2 z))
    obtain ⟨W9, hW9⟩ : ∃ W9 : World, W9 = ((w2.setCell ⟨w.heap.size + 1 + 1 + 1, 0, none⟩ (.int .i64 a)).setCell ⟨w.heap.size + 1 + 1 + 1, 1, none⟩ (.int .i64 b)) := ⟨_, rfl⟩
    rw [← hW9]
    have B9 : Bx W9 (w.heap.size + 1 + 1 + 1) [.int .i64 a, .int .i64 b] := by rw [hW9]; exact bx_set (bx_set z 0 _) 1 _
    have U9 : Up w W9 := by rw [hW9]; exact (by repeat' (first | (with_reducible exact up_refl _) | (with_reducible assumption) | (with_reducible refine up_alloc ?_ _) | (with_reducible refine up_drewN ?_ _) | (with_reducible refine up_drew ?_) | (with_reducible refine up_set ?_ (by first | (simp; done) | (simp; omega) | omega) _) | (refine up_trans ?_ (by with_reducible assumption))))
    clear hW9 z0 z1 z2 z3 z
    obtain ⟨p0, p1⟩ := bx2 B9
    refine bodyPost_ret (v := .tuple #[pt a b, .int .i64 0]) (by simp [results, Tryz.results26, go_sem, p0, p1]) rfl ⟨rfl, U9⟩
/-! ### With wind -/
def blB (c0 c1 c2 sx sy ax ay wx wy h m : Int) : Bool := lnB c0 c1 c2 sx sy ax ay && (slB wx wy 1048576 && (win h 0 131072 && win m 1 16777216))
def blE (c0 c1 c2 sx sy ax ay wx wy h m : Int) : Int := if blB c0 c1 c2 sx sy ax ay wx wy h m then 0 else 3
def blV (c0 c1 c2 sx sy ax ay wx wy h m v : Int) : Int := if blB c0 c1 c2 sx sy ax ay wx wy h m then v else 0
theorem blB_bd {wx wy h m : Int} (hs : slB wx wy 1048576 = true) (hh : win h 0 131072 = true) (hm : win m 1 16777216 = true) :
    ((-137438953472 ≤ wx * h ∧ wx * h ≤ 137438953472) ∧ -137438953472 ≤ neV (wx * h) m ∧ neV (wx * h) m ≤ 137438953472) ∧ (-137438953472 ≤ wy * h ∧ wy * h ≤ 137438953472) ∧ -137438953472 ≤ neV (wy * h) m ∧ neV (wy * h) m ≤ 137438953472 := by
  unfold slB at hs
  rw [Bool.and_eq_true, win_iff, win_iff] at hs
  rw [win_iff] at hh
  have _ := hm
  have p := Gs.mb (u := wx) (v := h) (U := 1048576) (V := 131072) (by omega) (by omega) (by omega) (by omega)
  have q := Gs.mb (u := wy) (v := h) (U := 1048576) (V := 131072) (by omega) (by omega) (by omega) (by omega)
  have p2 := ne_bd (n := wx * h) (d := m) (by omega)
  have q2 := ne_bd (n := wy * h) (d := m) (by omega)
  omega
theorem bx_five (w : World) (v1 v2 v3 v4 v5 : List Value) (t1 t2 t3 t4 t5 : TypeId) :
    Bx (((((w.alloc (.cells v1.toArray t1)).alloc (.cells v2.toArray t2)).alloc (.cells v3.toArray t3)).alloc (.cells v4.toArray t4)).alloc (.cells v5.toArray t5)) w.heap.size v1 ∧ Bx (((((w.alloc (.cells v1.toArray t1)).alloc (.cells v2.toArray t2)).alloc (.cells v3.toArray t3)).alloc (.cells v4.toArray t4)).alloc (.cells v5.toArray t5)) (w.heap.size + 1) v2 ∧ Bx (((((w.alloc (.cells v1.toArray t1)).alloc (.cells v2.toArray t2)).alloc (.cells v3.toArray t3)).alloc (.cells v4.toArray t4)).alloc (.cells v5.toArray t5)) (w.heap.size + 1 + 1) v3 ∧ Bx (((((w.alloc (.cells v1.toArray t1)).alloc (.cells v2.toArray t2)).alloc (.cells v3.toArray t3)).alloc (.cells v4.toArray t4)).alloc (.cells v5.toArray t5)) (w.heap.size + 1 + 1 + 1) v4 ∧ Bx (((((w.alloc (.cells v1.toArray t1)).alloc (.cells v2.toArray t2)).alloc (.cells v3.toArray t3)).alloc (.cells v4.toArray t4)).alloc (.cells v5.toArray t5)) (w.heap.size + 1 + 1 + 1 + 1) v5 := by
  have t := bx_three w v1 v2 v3 t1 t2 t3
  refine ⟨bx_alloc (bx_alloc t.1 _) _, bx_alloc (bx_alloc t.2.1 _) _, bx_alloc (bx_alloc t.2.2 _) _, ?_, ?_⟩
  · have u := bx_alloc (bx_new (((w.alloc (.cells v1.toArray t1)).alloc (.cells v2.toArray t2)).alloc (.cells v3.toArray t3)) v4 t4) (.cells v5.toArray t5)
    rwa [sz1, sz1, sz1] at u
  · have u := bx_new ((((w.alloc (.cells v1.toArray t1)).alloc (.cells v2.toArray t2)).alloc (.cells v3.toArray t3)).alloc (.cells v4.toArray t4)) v5 t5
    rwa [sz1, sz1, sz1, sz1] at u
end Go.Proofs.YthifcalemhpmoaaGreat
