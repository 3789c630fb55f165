/- chain.Mass: what all units weigh. What each axle of each unit carries: the program's. What each unit carries of a mass, and what each axle carries: numbers and lists. Lists of numbers that the call itself has made. Platforms on the ground: the heights of the ground as a list, their sums by groups, bounds. What a load puts on a platform. What each axle of a group carries: the document's own answers. The foot of a centre: the document's own answers. The sums, parts and shares as they are handed out: the document's own answers. The parts of a platform, and which group tips: the document's own answers. Foot and Blown, for all words. The foot of a centre, for all words. StaticsAll: the law's function returns true. StaticsLevers: the law's function returns true. The few examples with which each statement begins or ends are right. -/
import Derived.Test.YtooochbfnmmnkaaGreatShares
import Derived.Test.YtooochbfnmmnkaaGreatPkRefChk
import Derived.Deep.RegionLaw
import Derived.OwnWalk
import Derived.Test.YtooochbfnmmnkaaGreatPkRefVeh
import Derived.Test.YtooochbfnmmnkaaGreatPkPartsP
import Derived.Test.YtooochbfnmmnkaaGreatPkCentre
import Derived.Deep.OwnRows
import Derived.Test.YtooochbfnmmnkaaGreatVehC
namespace Go.Proofs.YtooochbfnmmnkaaGreat
open Go.RowKit Go.Proofs.Gn
theorem eq3 (a b c a' b' c' : Int) (w : World) : (Op.equalIn 10000 31 (.agg #[.int .i64 a, .int .i64 b, .int .i64 c]) (.agg #[.int .i64 a', .int .i64 b', .int .i64 c'])).run Tryz.prog w = .ok (a == a' && (b == b' && c == c')) w := by
  unfold Op.equalIn
  simp [run_underlying Tryz.underlying31, go_sem]
  rw [show List.range' 0 3 = [0, 1, 2] from rfl]
  by_cases h0 : a = a' <;> by_cases h1 : b = b' <;> by_cases h2 : c = c' <;> simp [h0, h1, h2, go_sem, Tryz.isAgg2]
theorem eq3_same (a b c : Int) (w : World) : (Op.equalIn 10000 31 (.agg #[.int .i64 a, .int .i64 b, .int .i64 c]) (.agg #[.int .i64 a, .int .i64 b, .int .i64 c])).run Tryz.prog w = .ok true w := by
  rw [eq3]; simp
def exS : List Gs.Sup := [⟨0, 0, 0, 10000, 100, 900⟩, ⟨4000, 2000, 1, 10000, 100, 900⟩, ⟨4000, -2000, 2, 10000, 100, 900⟩, ⟨0, 1000, 0, 10000, 100, 900⟩]
theorem ex_shares : shE exS 16000 2000 0 = 0 ∧ shV exS 16000 2000 0 (up 16000 (paD exS) (pa0 exS 2000 0)) = 4000 ∧ shV exS 16000 2000 0 (up 16000 (paD exS) (pa1 exS 2000 0)) = 3000 ∧ shV exS 16000 2000 0 (up 16000 (paD exS) (pa2 exS 2000 0)) = 5000 := by decide +kernel
theorem ex_tips : tiE exS 5000 0 = 0 ∧ tiV exS 5000 0 = 0 := by decide +kernel
theorem ex_lever : leE 1000 0 3 1 = 0 ∧ leM 1000 0 3 1 = 667 ∧ leN 1000 0 3 1 = 334 := by decide +kernel
def exL : List Value := [.int .i64 0, .int .i64 0, .int .i64 0, .int .i64 10000, .int .i64 100, .int .i64 900, .int .i64 4000, .int .i64 2000, .int .i64 1, .int .i64 10000, .int .i64 100, .int .i64 900, .int .i64 4000, .int .i64 (-2000), .int .i64 2, .int .i64 10000, .int .i64 100, .int .i64 900, .int .i64 0, .int .i64 1000, .int .i64 0, .int .i64 10000, .int .i64 100, .int .i64 900]
theorem sups_ex {W : World} {b : Nat} (h : Bx W b exL) : Sups W (some ⟨b, 0, none⟩) exS := by
  refine .inr ⟨b, 0, rfl, fun k hk => ?_⟩
  match k, hk with
  | 0, _ => exact ⟨(h 0 _ rfl).1, (h 1 _ rfl).1, (h 2 _ rfl).1, (h 3 _ rfl).1, (h 4 _ rfl).1, (h 5 _ rfl).1⟩
  | 1, _ => exact ⟨(h 6 _ rfl).1, (h 7 _ rfl).1, (h 8 _ rfl).1, (h 9 _ rfl).1, (h 10 _ rfl).1, (h 11 _ rfl).1⟩
  | 2, _ => exact ⟨(h 12 _ rfl).1, (h 13 _ rfl).1, (h 14 _ rfl).1, (h 15 _ rfl).1, (h 16 _ rfl).1, (h 17 _ rfl).1⟩
  | 3, _ => exact ⟨(h 18 _ rfl).1, (h 19 _ rfl).1, (h 20 _ rfl).1, (h 21 _ rfl).1, (h 22 _ rfl).1, (h 23 _ rfl).1⟩
  | n + 4, h => exact absurd h (by simp [exS])
end Go.Proofs.YtooochbfnmmnkaaGreat
namespace Go.Proofs.YtooochbfnmmnkaaGreat
open Go.RowKit Go.Proofs.Gn
theorem up_spec {m d t : Int} (hd : 0 < d) : m * t ≤ up m d t * d ∧ up m d t * d < m * t + d := by
  have e := ediv_spec (n := m * -t) hd
  unfold up
  rw [Int.neg_mul]
  rw [Int.mul_neg] at *
  omega
theorem up_mono {m d s t : Int} (hd : 0 < d) (hm : 0 ≤ m) (h : s ≤ t) : up m d s ≤ up m d t := by
  have a := up_spec (m := m) (t := s) hd
  have b := up_spec (m := m) (t := t) hd
  have c : m * s ≤ m * t := Int.mul_le_mul_of_nonneg_left h hm
  apply Decidable.byContradiction
  intro hn
  have k : (up m d t + 1) * d ≤ up m d s * d := Int.mul_le_mul_of_nonneg_right (by omega) (by omega)
  rw [Int.add_mul] at k
  omega
theorem up_nonneg {m d t : Int} (hd : 0 < d) (hm : 0 ≤ m) (h : 0 ≤ t) : 0 ≤ up m d t := by
  have a := up_spec (m := m) (t := t) hd
  have c : 0 ≤ m * t := Int.mul_nonneg hm h
  apply Decidable.byContradiction
  intro hn
  have k : up m d t * d ≤ (-1) * d := Int.mul_le_mul_of_nonneg_right (by omega) (by omega)
  omega
theorem lev_facts {m a b x : Int} (h : leE m a b x = 0) : (1 ≤ m ∧ m ≤ 16777216) ∧ (-16777216 ≤ a ∧ a < b ∧ b ≤ 16777216 ∧ a ≤ x ∧ x ≤ b) ∧ 0 ≤ leM m a b x ∧ 0 ≤ leN m a b x ∧ m ≤ leM m a b x + leN m a b x ∧ leM m a b x + leN m a b x ≤ m + 1 ∧ (x - a ≤ b - x → leN m a b x ≤ leM m a b x) ∧ (b - x ≤ x - a → leM m a b x ≤ leN m a b x) := by
  unfold leM leN
  rw [if_pos h, if_pos h]
  unfold leE at h
  split at h
  · rename_i h1
    split at h
    · rename_i h2
      split at h
      · cases h
      · split at h
        · rename_i h3 h4
          rw [win_iff] at h1 h4
          simp only [Bool.and_eq_true] at h2
          unfold plc at h2
          rw [win_iff, win_iff, win_iff] at h2
          have hd : 0 < b - a := by omega
          have s1 := up_spec (m := m) (t := b - a - (x - a)) hd
          have s2 := up_spec (m := m) (t := x - a) hd
          have n1 := up_nonneg (m := m) (t := b - a - (x - a)) hd (by omega) (by omega)
          have n2 := up_nonneg (m := m) (t := x - a) hd (by omega) (by omega)
          have e : m * (b - a - (x - a)) + m * (x - a) = m * (b - a) := by rw [← Int.mul_add]; congr 1; omega
          have e2 : (up m (b - a) (b - a - (x - a)) + up m (b - a) (x - a)) * (b - a) = up m (b - a) (b - a - (x - a)) * (b - a) + up m (b - a) (x - a) * (b - a) := Int.add_mul _ _ _
          refine ⟨h1, by omega, n1, n2, ?_, ?_, fun hx => up_mono hd (by omega) (by omega), fun hx => up_mono hd (by omega) (by omega)⟩
          · refine Int.le_of_mul_le_mul_right (?_ : m * (b - a) ≤ _) hd
            rw [e2]; omega
          · apply Decidable.byContradiction
            intro hn
            have k : (m + 2) * (b - a) ≤ (up m (b - a) (b - a - (x - a)) + up m (b - a) (x - a)) * (b - a) := Int.mul_le_mul_of_nonneg_right (by omega) (by omega)
            rw [e2, Int.add_mul] at k
            omega
        · cases h
    · cases h
  · cases h
theorem lev_none {m a b x : Int} (h : ¬ leE m a b x = 0) : leM m a b x = 0 ∧ leN m a b x = 0 := by
  unfold leM leN
  rw [if_neg h, if_neg h]
  exact ⟨rfl, rfl⟩
end Go.Proofs.YtooochbfnmmnkaaGreat
namespace Go.Proofs.YtooochbfnmmnkaaGreat
open Go.RowKit Go.Proofs.Gn
theorem up_more {m k d t : Int} (hd : 0 < d) (hk : 0 ≤ k) (h : 0 ≤ t) : up m d t ≤ up (m + k) d t := by
  have a := up_spec (m := m) (t := t) hd
  have b := up_spec (m := m + k) (t := t) hd
  have c : m * t ≤ (m + k) * t := Int.mul_le_mul_of_nonneg_right (by omega) h
  apply Decidable.byContradiction
  intro hn
  have j : (up (m + k) d t + 1) * d ≤ up m d t * d := Int.mul_le_mul_of_nonneg_right (by omega) (by omega)
  rw [Int.add_mul] at j
  omega
theorem up_le {m d t : Int} (hd : 0 < d) (hm : 0 ≤ m) (h : t ≤ d) : up m d t ≤ m := by
  have a := up_spec (m := m) (t := t) hd
  have c : m * t ≤ m * d := Int.mul_le_mul_of_nonneg_left h hm
  apply Decidable.byContradiction
  intro hn
  have j : (m + 1) * d ≤ up m d t * d := Int.mul_le_mul_of_nonneg_right (by omega) (by omega)
  rw [Int.add_mul] at j
  omega
theorem sum_up {m D l0 l1 l2 n0 n1 n2 N : Int} (hD : 0 < D) (h0 : 0 ≤ n0) (h1 : 0 ≤ n1) (h2 : 0 ≤ n2) (hs : l0 * n0 + l1 * n1 + l2 * n2 = D) (hN : n0 + n1 + n2 = N) :
    m ≤ up m D l0 * n0 + up m D l1 * n1 + up m D l2 * n2 ∧ up m D l0 * n0 + up m D l1 * n1 + up m D l2 * n2 ≤ m + N := by
  obtain ⟨a0, b0⟩ := up_spec (m := m) (t := l0) hD
  obtain ⟨a1, b1⟩ := up_spec (m := m) (t := l1) hD
  obtain ⟨a2, b2⟩ := up_spec (m := m) (t := l2) hD
  generalize up m D l0 = u0 at *
  generalize up m D l1 = u1 at *
  generalize up m D l2 = u2 at *
  have c0 : m * l0 * n0 ≤ u0 * D * n0 := Int.mul_le_mul_of_nonneg_right a0 h0
  have c1 : m * l1 * n1 ≤ u1 * D * n1 := Int.mul_le_mul_of_nonneg_right a1 h1
  have c2 : m * l2 * n2 ≤ u2 * D * n2 := Int.mul_le_mul_of_nonneg_right a2 h2
  have d0 : u0 * D * n0 ≤ (m * l0 + D) * n0 := Int.mul_le_mul_of_nonneg_right (by omega) h0
  have d1 : u1 * D * n1 ≤ (m * l1 + D) * n1 := Int.mul_le_mul_of_nonneg_right (by omega) h1
  have d2 : u2 * D * n2 ≤ (m * l2 + D) * n2 := Int.mul_le_mul_of_nonneg_right (by omega) h2
  have e : m * l0 * n0 + m * l1 * n1 + m * l2 * n2 = m * D := by rw [← hs]; grind
  have f : (u0 * n0 + u1 * n1 + u2 * n2) * D = u0 * D * n0 + u1 * D * n1 + u2 * D * n2 := by grind
  have g : (m * l0 + D) * n0 + (m * l1 + D) * n1 + (m * l2 + D) * n2 = m * D + N * D := by rw [← hN, ← e]; grind
  constructor
  · refine Int.le_of_mul_le_mul_right (?_ : m * D ≤ _) hD
    rw [f]; omega
  · refine Int.le_of_mul_le_mul_right (?_ : _ * D ≤ _) hD
    rw [f, Int.add_mul]; omega
theorem shE_ok {ps : List Gs.Sup} {m X Y : Int} (h : shE ps m X Y = 0) : boE ps m X Y = 0 ∧ ¬ 0 ≤ lif (pa0 ps X Y) (pa1 ps X Y) (pa2 ps X Y) := by
  unfold shE at h
  split at h
  · unfold uE at h
    split at h
    · cases h
    · exact ⟨by assumption, by assumption⟩
  · exact absurd h (by assumption)
theorem all_facts {ps : List Gs.Sup} {m X Y : Int} (h : shE ps m X Y = 0) : chE ps = 0 ∧ (1 ≤ m ∧ m ≤ 16777216) ∧ ((0 ≤ shV ps m X Y (up m (paD ps) (pa0 ps X Y)) ∧ shV ps m X Y (up m (paD ps) (pa0 ps X Y)) ≤ m) ∧ (0 ≤ shV ps m X Y (up m (paD ps) (pa1 ps X Y)) ∧ shV ps m X Y (up m (paD ps) (pa1 ps X Y)) ≤ m) ∧ (0 ≤ shV ps m X Y (up m (paD ps) (pa2 ps X Y)) ∧ shV ps m X Y (up m (paD ps) (pa2 ps X Y)) ≤ m)) ∧
    ((0 ≤ Gs.cN 0 ps ∧ Gs.cN 0 ps ≤ 48) ∧ (0 ≤ Gs.cN 1 ps ∧ Gs.cN 1 ps ≤ 48) ∧ (0 ≤ Gs.cN 2 ps ∧ Gs.cN 2 ps ≤ 48)) ∧
    (m ≤ shV ps m X Y (up m (paD ps) (pa0 ps X Y)) * Gs.cN 0 ps + shV ps m X Y (up m (paD ps) (pa1 ps X Y)) * Gs.cN 1 ps + shV ps m X Y (up m (paD ps) (pa2 ps X Y)) * Gs.cN 2 ps ∧ shV ps m X Y (up m (paD ps) (pa0 ps X Y)) * Gs.cN 0 ps + shV ps m X Y (up m (paD ps) (pa1 ps X Y)) * Gs.cN 1 ps + shV ps m X Y (up m (paD ps) (pa2 ps X Y)) * Gs.cN 2 ps ≤ m + ps.length) := by
  have hv : ∀ v, shV ps m X Y v = v := fun v => if_pos h
  simp only [hv]
  obtain ⟨h1, h2⟩ := shE_ok h
  obtain ⟨h3, m1, m2⟩ := boE_ok h1
  obtain ⟨o1, o2, o3, o4⟩ := chE_ok (atE_ok h3).1
  obtain ⟨⟨d1, d2⟩, b0, b1, b2⟩ := share_bd h3 h2
  obtain ⟨_, s2, _, _⟩ := pa_sum o4 X Y
  have e := Gs.cN_len o1
  have n0 := Gs.cN_nonneg 0 ps
  have n1 := Gs.cN_nonneg 1 ps
  have n2 := Gs.cN_nonneg 2 ps
  have hs := sum_up (m := m) (by omega : 0 < paD ps) n0 n1 n2 s2 e
  refine ⟨(atE_ok h3).1, ⟨m1, m2⟩, ⟨⟨up_nonneg (by omega) (by omega) b0.1, up_le (by omega) (by omega) b0.2⟩, ⟨up_nonneg (by omega) (by omega) b1.1, up_le (by omega) (by omega) b1.2⟩, ⟨up_nonneg (by omega) (by omega) b2.1, up_le (by omega) (by omega) b2.2⟩⟩, by omega, hs⟩
theorem all_more {ps : List Gs.Sup} {m k X Y : Int} (h : shE ps m X Y = 0) (hk : 0 ≤ k) (h' : shE ps (m + k) X Y = 0) :
    shV ps m X Y (up m (paD ps) (pa0 ps X Y)) ≤ shV ps (m + k) X Y (up (m + k) (paD ps) (pa0 ps X Y)) ∧ shV ps m X Y (up m (paD ps) (pa1 ps X Y)) ≤ shV ps (m + k) X Y (up (m + k) (paD ps) (pa1 ps X Y)) ∧ shV ps m X Y (up m (paD ps) (pa2 ps X Y)) ≤ shV ps (m + k) X Y (up (m + k) (paD ps) (pa2 ps X Y)) := by
  have hv : ∀ v, shV ps m X Y v = v := fun v => if_pos h
  have hw : ∀ v, shV ps (m + k) X Y v = v := fun v => if_pos h'
  simp only [hv, hw]
  obtain ⟨h1, h2⟩ := shE_ok h
  obtain ⟨h3, m1, m2⟩ := boE_ok h1
  obtain ⟨⟨d1, d2⟩, b0, b1, b2⟩ := share_bd h3 h2
  exact ⟨up_more (by omega) hk b0.1, up_more (by omega) hk b1.1, up_more (by omega) hk b2.1⟩
theorem all_err {ps : List Gs.Sup} {m k X Y : Int} (h : shE ps m X Y = 0) (h' : ¬ shE ps (m + k) X Y = 0) : shE ps (m + k) X Y = 14 ∨ shE ps (m + k) X Y = 3 := by
  obtain ⟨h1, h2⟩ := shE_ok h
  obtain ⟨h3, m1, m2⟩ := boE_ok h1
  obtain ⟨c1, c2⟩ := atE_ok h3
  unfold shE at h' ⊢
  by_cases hb : boE ps (m + k) X Y = 0
  · rw [if_pos hb] at h' ⊢
    unfold uE at h' ⊢
    rw [if_neg h2] at h' ⊢
    split at h'
    · exact absurd rfl h'
    · rename_i hf
      rw [if_neg hf]
      exact .inl rfl
  · rw [if_neg hb]
    right
    unfold boE at hb ⊢
    rw [if_pos c1] at hb ⊢
    split at hb
    · exact absurd c2 hb
    · rename_i hm
      rw [if_neg hm]
      unfold msE at hm ⊢
      split at hm
      · exact absurd rfl hm
      · rename_i hw
        rw [if_neg hw]
end Go.Proofs.YtooochbfnmmnkaaGreat
namespace Go.Proofs.YtooochbfnmmnkaaGreat
open Go.RowKit Go.Proofs.Gn
theorem p_nearS (n d : Int) (w : World) : Calls Tryz.prog 63 #[.int .i64 n, .int .i64 d] w fun e w' => e = .returned (.int .i64 (neV n d)) ∧ w = w' := by
  have H := hide (fun W => p_Nearest n d W)
  generalize neV n d = V at *
  generalize quE n d = E at *
  go_enter Tryz.func63, Tryz.ntmps63
  go_wp2_with (go_at_call 26; (with_reducible refine (unhide H _).mono ?_); rintro e w1 ⟨rfl, rfl⟩)
  go_ret
  exact ⟨rfl, rfl⟩
theorem ne_bd {n d : Int} (h : -137438953472 ≤ n ∧ n ≤ 137438953472) : -137438953472 ≤ neV n d ∧ neV n d ≤ 137438953472 := by
  unfold neV
  cases hq : inQ n d
  · simp
  · obtain ⟨b1, b2, b3, b4⟩ := inQ_bd hq
    have t := near_bd (n := n) (d := d) (by omega)
    simp only [if_true]
    by_cases c : 0 ≤ n
    · have := t.1 c; omega
    · have := t.2 (by omega); omega
theorem ne_th {n : Int} {m : Int} (hm : 0 ≤ m ∧ m ≤ 262144) (h : -(1000 * m) ≤ n ∧ n ≤ 1000 * m) : -m ≤ neV n 1000 ∧ neV n 1000 ≤ m := by
  unfold neV
  split
  · unfold near; omega
  · omega
theorem p_upTo (x y m : Int) (hm : 0 ≤ m ∧ m ≤ 1048576) (w : World) : Calls Tryz.prog 62 #[pt x y, .int .i64 m] w fun e w' => e = .returned (.bool (win x (-m) m && win y (-m) m)) ∧ Up w w' := by
  have H1 : ∀ W : World, Calls Tryz.prog 37 #[.int .i64 x, .int .i64 (-m), .int .i64 m] W fun e w' => e = .returned (.bool (win x (-m) m)) ∧ W = w' := fun W => p_within _ _ _ W
  have H2 : ∀ W : World, Calls Tryz.prog 37 #[.int .i64 y, .int .i64 (-m), .int .i64 m] W fun e w' => e = .returned (.bool (win y (-m) m)) ∧ W = w' := fun W => p_within _ _ _ W
  generalize win x (-m) m = b1 at *
  generalize win y (-m) m = b2 at *
  have h1 := hide H1
  have h2 := hide H2
  clear H1 H2
  obtain ⟨m1, m2⟩ := hm
  cases b1
  · go_enter Tryz.func62, Tryz.ntmps62
    go_wp2_with (first | (go_at_call 37; (with_reducible refine (unhide h1 _).mono ?_); rintro e w1 ⟨rfl, rfl⟩) | (go_at_call 37; (with_reducible refine (unhide h2 _).mono ?_); rintro e w1 ⟨rfl, rfl⟩))
    go_ret
    exact ⟨rfl, (by repeat' (first | (with_reducible exact up_refl _) | (with_reducible assumption) | (with_reducible refine up_alloc ?_ _) | (with_reducible refine up_drewN ?_ _) | (with_reducible refine up_drew ?_) | (with_reducible refine up_set ?_ (by first | (simp; done) | (simp; omega) | omega) _) | (refine up_trans ?_ (by with_reducible assumption))))⟩
  · go_enter Tryz.func62, Tryz.ntmps62
    go_wp2_with (first | (go_at_call 37; (with_reducible refine (unhide h1 _).mono ?_); rintro e w1 ⟨rfl, rfl⟩) | (go_at_call 37; (with_reducible refine (unhide h2 _).mono ?_); rintro e w1 ⟨rfl, rfl⟩))
    go_ret
    exact ⟨rfl, (by repeat' (first | (with_reducible exact up_refl _) | (with_reducible assumption) | (with_reducible refine up_alloc ?_ _) | (with_reducible refine up_drewN ?_ _) | (with_reducible refine up_drew ?_) | (with_reducible refine up_set ?_ (by first | (simp; done) | (simp; omega) | omega) _) | (refine up_trans ?_ (by with_reducible assumption))))⟩
/-! ### The errors -/
def slB (x y m : Int) : Bool := win x (-m) m && win y (-m) m
def ceB (a b c : Int) : Bool := win a (-131072) 131072 && (win b (-131072) 131072 && win c (-131072) 131072)
def ceE (a b c : Int) : Int := if ceB a b c then 0 else 3
def lnB (a b c sx sy ax ay : Int) : Bool := ceB a b c && (slB sx sy 1000 && slB ax ay 1000)
def lnE (a b c sx sy ax ay : Int) : Int := if lnB a b c sx sy ax ay then 0 else 3
theorem p_checkCentre (a b c : Int) (w : World) : Calls Tryz.prog 61 #[.agg #[.int .i64 a, .int .i64 b, .int .i64 c]] w fun e w' => e = .returned (.int .i64 (ceE a b c)) ∧ Up w w' := by
  have H1 : ∀ W : World, Calls Tryz.prog 37 #[.int .i64 a, .int .i64 (-131072), .int .i64 131072] W fun e w' => e = .returned (.bool (win a (-131072) 131072)) ∧ W = w' := fun W => p_within _ _ _ W
  have H2 : ∀ W : World, Calls Tryz.prog 37 #[.int .i64 b, .int .i64 (-131072), .int .i64 131072] W fun e w' => e = .returned (.bool (win b (-131072) 131072)) ∧ W = w' := fun W => p_within _ _ _ W
  have H3 : ∀ W : World, Calls Tryz.prog 37 #[.int .i64 c, .int .i64 (-131072), .int .i64 131072] W fun e w' => e = .returned (.bool (win c (-131072) 131072)) ∧ W = w' := fun W => p_within _ _ _ W
  unfold ceE ceB
  generalize win a (-131072) 131072 = b1 at *
  generalize win b (-131072) 131072 = b2 at *
  generalize win c (-131072) 131072 = b3 at *
  have h1 := hide H1
  have h2 := hide H2
  have h3 := hide H3
  clear H1 H2 H3
  cases b1
  · show Calls Tryz.prog 61 #[.agg #[.int .i64 a, .int .i64 b, .int .i64 c]] w fun e w' => e = .returned (.int .i64 3) ∧ Up w w'
    go_enter Tryz.func61, Tryz.ntmps61
    go_wp2_with fail
    refine wp_loop_rounds 4 ?_
    rw [rounds_succ]
    go_wp2_with (go_at_call 37; (with_reducible refine (unhide h1 _).mono ?_); rintro e w1 ⟨rfl, rfl⟩)
    go_ret
    exact ⟨rfl, (by repeat' (first | (with_reducible exact up_refl _) | (with_reducible assumption) | (with_reducible refine up_alloc ?_ _) | (with_reducible refine up_drewN ?_ _) | (with_reducible refine up_drew ?_) | (with_reducible refine up_set ?_ (by first | (simp; done) | (simp; omega) | omega) _) | (refine up_trans ?_ (by with_reducible assumption))))⟩
  cases b2
  · show Calls Tryz.prog 61 #[.agg #[.int .i64 a, .int .i64 b, .int .i64 c]] w fun e w' => e = .returned (.int .i64 3) ∧ Up w w'
    go_enter Tryz.func61, Tryz.ntmps61
    go_wp2_with fail
    refine wp_loop_rounds 4 ?_
    rw [rounds_succ]
    go_wp2_with (go_at_call 37; (with_reducible refine (unhide h1 _).mono ?_); rintro e w1 ⟨rfl, rfl⟩)
    rw [rounds_succ]
    go_wp2_with (go_at_call 37; (with_reducible refine (unhide h2 _).mono ?_); rintro e w1 ⟨rfl, rfl⟩)
    go_ret
    exact ⟨rfl, (by repeat' (first | (with_reducible exact up_refl _) | (with_reducible assumption) | (with_reducible refine up_alloc ?_ _) | (with_reducible refine up_drewN ?_ _) | (with_reducible refine up_drew ?_) | (with_reducible refine up_set ?_ (by first | (simp; done) | (simp; omega) | omega) _) | (refine up_trans ?_ (by with_reducible assumption))))⟩
  cases b3
  · show Calls Tryz.prog 61 #[.agg #[.int .i64 a, .int .i64 b, .int .i64 c]] w fun e w' => e = .returned (.int .i64 3) ∧ Up w w'
    go_enter Tryz.func61, Tryz.ntmps61
    go_wp2_with fail
    refine wp_loop_rounds 4 ?_
    rw [rounds_succ]
    go_wp2_with (go_at_call 37; (with_reducible refine (unhide h1 _).mono ?_); rintro e w1 ⟨rfl, rfl⟩)
    rw [rounds_succ]
    go_wp2_with (go_at_call 37; (with_reducible refine (unhide h2 _).mono ?_); rintro e w1 ⟨rfl, rfl⟩)
    rw [rounds_succ]
    go_wp2_with (go_at_call 37; (with_reducible refine (unhide h3 _).mono ?_); rintro e w1 ⟨rfl, rfl⟩)
    go_ret
    exact ⟨rfl, (by repeat' (first | (with_reducible exact up_refl _) | (with_reducible assumption) | (with_reducible refine up_alloc ?_ _) | (with_reducible refine up_drewN ?_ _) | (with_reducible refine up_drew ?_) | (with_reducible refine up_set ?_ (by first | (simp; done) | (simp; omega) | omega) _) | (refine up_trans ?_ (by with_reducible assumption))))⟩
  · show Calls Tryz.prog 61 #[.agg #[.int .i64 a, .int .i64 b, .int .i64 c]] w fun e w' => e = .returned (.int .i64 0) ∧ Up w w'
    go_enter Tryz.func61, Tryz.ntmps61
    go_wp2_with fail
    refine wp_loop_rounds 4 ?_
    rw [rounds_succ]
    go_wp2_with (go_at_call 37; (with_reducible refine (unhide h1 _).mono ?_); rintro e w1 ⟨rfl, rfl⟩)
    rw [rounds_succ]
    go_wp2_with (go_at_call 37; (with_reducible refine (unhide h2 _).mono ?_); rintro e w1 ⟨rfl, rfl⟩)
    rw [rounds_succ]
    go_wp2_with (go_at_call 37; (with_reducible refine (unhide h3 _).mono ?_); rintro e w1 ⟨rfl, rfl⟩)
    rw [rounds_succ]
    go_wp2_with fail
    go_ret
    exact ⟨rfl, (by repeat' (first | (with_reducible exact up_refl _) | (with_reducible assumption) | (with_reducible refine up_alloc ?_ _) | (with_reducible refine up_drewN ?_ _) | (with_reducible refine up_drew ?_) | (with_reducible refine up_set ?_ (by first | (simp; done) | (simp; omega) | omega) _) | (refine up_trans ?_ (by with_reducible assumption))))⟩
theorem p_checkLeaning (c0 c1 c2 sx sy ax ay : Int) (w : World) : Calls Tryz.prog 35 #[.agg #[.int .i64 c0, .int .i64 c1, .int .i64 c2], pt sx sy, pt ax ay] w fun e w' => e = .returned (.int .i64 (lnE c0 c1 c2 sx sy ax ay)) ∧ Up w w' := by
  have hC := hide (fun W => p_checkCentre c0 c1 c2 W)
  have H1 : ∀ W : World, Calls Tryz.prog 62 #[pt sx sy, .int .i64 1000] W fun e w' => e = .returned (.bool (slB sx sy 1000)) ∧ Up W w' := fun W => p_upTo sx sy 1000 (by omega) W
  have H2 : ∀ W : World, Calls Tryz.prog 62 #[pt ax ay, .int .i64 1000] W fun e w' => e = .returned (.bool (slB ax ay 1000)) ∧ Up W w' := fun W => p_upTo ax ay 1000 (by omega) W
  unfold lnE lnB
  unfold ceE at hC
  generalize ceB c0 c1 c2 = b0 at *
  generalize slB sx sy 1000 = b1 at *
  generalize slB ax ay 1000 = b2 at *
  have h1 := hide H1
  have h2 := hide H2
  clear H1 H2
  cases b0
  · simp only [Bool.false_and, Bool.false_eq_true, if_false] at hC ⊢
    go_enter Tryz.func35, Tryz.ntmps35
    go_wp2_with (go_at_call 61; (with_reducible refine (unhide hC _).mono ?_); rintro e w1 ⟨rfl, hb1⟩)
    go_ret
    exact ⟨rfl, (by repeat' (first | (with_reducible exact up_refl _) | (with_reducible assumption) | (with_reducible refine up_alloc ?_ _) | (with_reducible refine up_drewN ?_ _) | (with_reducible refine up_drew ?_) | (with_reducible refine up_set ?_ (by first | (simp; done) | (simp; omega) | omega) _) | (refine up_trans ?_ (by with_reducible assumption))))⟩
  simp only [Bool.true_and, if_true] at hC ⊢
  cases b1
  · simp only [Bool.false_and, Bool.false_eq_true, if_false] at ⊢
    go_enter Tryz.func35, Tryz.ntmps35
    go_wp2_with (first | (go_at_call 61; (with_reducible refine (unhide hC _).mono ?_); rintro e w1 ⟨rfl, hb1⟩; have k1_0 : w1.cell? ⟨w.heap.size + 1, 0, none⟩ = some (.int .i64 sx) := up_cell hb1 (by first | (with_reducible assumption) | (refine alloc_cell _ ?_; with_reducible assumption) | go_cell); have k1_1 : w1.cell? ⟨w.heap.size + 1, 1, none⟩ = some (.int .i64 sy) := up_cell hb1 (by first | (with_reducible assumption) | (refine alloc_cell _ ?_; with_reducible assumption) | go_cell); have k2_0 : w1.cell? ⟨w.heap.size + 1 + 1, 0, none⟩ = some (.int .i64 ax) := up_cell hb1 (by first | (with_reducible assumption) | (refine alloc_cell _ ?_; with_reducible assumption) | go_cell); have k2_1 : w1.cell? ⟨w.heap.size + 1 + 1, 1, none⟩ = some (.int .i64 ay) := up_cell hb1 (by first | (with_reducible assumption) | (refine alloc_cell _ ?_; with_reducible assumption) | go_cell)) | (go_at_call 62; (with_reducible refine (unhide h1 _).mono ?_); rintro e w2 ⟨rfl, hb2⟩; have z0 := up_cell hb2 k2_0; have z1 := up_cell hb2 k2_1))
    go_ret
    exact ⟨rfl, (by repeat' (first | (with_reducible exact up_refl _) | (with_reducible assumption) | (with_reducible refine up_alloc ?_ _) | (with_reducible refine up_drewN ?_ _) | (with_reducible refine up_drew ?_) | (with_reducible refine up_set ?_ (by first | (simp; done) | (simp; omega) | omega) _) | (refine up_trans ?_ (by with_reducible assumption))))⟩
  simp only [Bool.true_and] at ⊢
  cases b2
  · simp only [Bool.false_eq_true, if_false] at ⊢
    go_enter Tryz.func35, Tryz.ntmps35
    go_wp2_with (first | (go_at_call 61; (with_reducible refine (unhide hC _).mono ?_); rintro e w1 ⟨rfl, hb1⟩; have k1_0 : w1.cell? ⟨w.heap.size + 1, 0, none⟩ = some (.int .i64 sx) := up_cell hb1 (by first | (with_reducible assumption) | (refine alloc_cell _ ?_; with_reducible assumption) | go_cell); have k1_1 : w1.cell? ⟨w.heap.size + 1, 1, none⟩ = some (.int .i64 sy) := up_cell hb1 (by first | (with_reducible assumption) | (refine alloc_cell _ ?_; with_reducible assumption) | go_cell); have k2_0 : w1.cell? ⟨w.heap.size + 1 + 1, 0, none⟩ = some (.int .i64 ax) := up_cell hb1 (by first | (with_reducible assumption) | (refine alloc_cell _ ?_; with_reducible assumption) | go_cell); have k2_1 : w1.cell? ⟨w.heap.size + 1 + 1, 1, none⟩ = some (.int .i64 ay) := up_cell hb1 (by first | (with_reducible assumption) | (refine alloc_cell _ ?_; with_reducible assumption) | go_cell)) | (go_at_call 62; (with_reducible refine (unhide h1 _).mono ?_); rintro e w2 ⟨rfl, hb2⟩; have z0 := up_cell hb2 k2_0; have z1 := up_cell hb2 k2_1) | (go_at_call 62; (with_reducible refine (unhide h2 _).mono ?_); rintro e w3 ⟨rfl, hb3⟩))
    go_ret
    exact ⟨rfl, (by repeat' (first | (with_reducible exact up_refl _) | (with_reducible assumption) | (with_reducible refine up_alloc ?_ _) | (with_reducible refine up_drewN ?_ _) | (with_reducible refine up_drew ?_) | (with_reducible refine up_set ?_ (by first | (simp; done) | (simp; omega) | omega) _) | (refine up_trans ?_ (by with_reducible assumption))))⟩
  · simp only [if_true] at ⊢
    go_enter Tryz.func35, Tryz.ntmps35
    go_wp2_with (first | (go_at_call 61; (with_reducible refine (unhide hC _).mono ?_); rintro e w1 ⟨rfl, hb1⟩; have k1_0 : w1.cell? ⟨w.heap.size + 1, 0, none⟩ = some (.int .i64 sx) := up_cell hb1 (by first | (with_reducible assumption) | (refine alloc_cell _ ?_; with_reducible assumption) | go_cell); have k1_1 : w1.cell? ⟨w.heap.size + 1, 1, none⟩ = some (.int .i64 sy) := up_cell hb1 (by first | (with_reducible assumption) | (refine alloc_cell _ ?_; with_reducible assumption) | go_cell); have k2_0 : w1.cell? ⟨w.heap.size + 1 + 1, 0, none⟩ = some (.int .i64 ax) := up_cell hb1 (by first | (with_reducible assumption) | (refine alloc_cell _ ?_; with_reducible assumption) | go_cell); have k2_1 : w1.cell? ⟨w.heap.size + 1 + 1, 1, none⟩ = some (.int .i64 ay) := up_cell hb1 (by first | (with_reducible assumption) | (refine alloc_cell _ ?_; with_reducible assumption) | go_cell)) | (go_at_call 62; (with_reducible refine (unhide h1 _).mono ?_); rintro e w2 ⟨rfl, hb2⟩; have z0 := up_cell hb2 k2_0; have z1 := up_cell hb2 k2_1) | (go_at_call 62; (with_reducible refine (unhide h2 _).mono ?_); rintro e w3 ⟨rfl, hb3⟩))
    go_ret
    exact ⟨rfl, (by repeat' (first | (with_reducible exact up_refl _) | (with_reducible assumption) | (with_reducible refine up_alloc ?_ _) | (with_reducible refine up_drewN ?_ _) | (with_reducible refine up_drew ?_) | (with_reducible refine up_set ?_ (by first | (simp; done) | (simp; omega) | omega) _) | (refine up_trans ?_ (by with_reducible assumption))))⟩
/-! ### The foot -/
def ft (c h s a : Int) : Int := c + neV (h * (s + a)) 1000
theorem lnB_bd {c0 c1 c2 sx sy ax ay : Int} (h : lnB c0 c1 c2 sx sy ax ay = true) : ((-131072 ≤ c0 ∧ c0 ≤ 131072) ∧ (-131072 ≤ c1 ∧ c1 ≤ 131072) ∧ (-131072 ≤ c2 ∧ c2 ≤ 131072)) ∧ ((-1000 ≤ sx ∧ sx ≤ 1000) ∧ (-1000 ≤ sy ∧ sy ≤ 1000)) ∧ (-1000 ≤ ax ∧ ax ≤ 1000) ∧ (-1000 ≤ ay ∧ ay ≤ 1000) := by
  unfold lnB ceB slB at h
  simp only [Bool.and_eq_true, win_iff] at h
  omega
theorem ft_bd {c h s a : Int} (hc : -131072 ≤ c ∧ c ≤ 131072) (hh : -131072 ≤ h ∧ h ≤ 131072) (hs : -1000 ≤ s ∧ s ≤ 1000) (ha : -1000 ≤ a ∧ a ≤ 1000) :
    (-262144000 ≤ h * (s + a) ∧ h * (s + a) ≤ 262144000) ∧ (-262144 ≤ neV (h * (s + a)) 1000 ∧ neV (h * (s + a)) 1000 ≤ 262144) ∧ -393216 ≤ ft c h s a ∧ ft c h s a ≤ 393216 := by
  have p := Gs.mb (u := h) (v := s + a) (U := 131072) (V := 2000) (by omega) (by omega) (by omega) (by omega)
  have q := ne_th (n := h * (s + a)) (m := 262144) (by omega) (by omega)
  unfold ft
  omega
set_option maxHeartbeats 4000000 in
theorem p_foot {c0 c1 c2 sx sy ax ay : Int} (hb : lnB c0 c1 c2 sx sy ax ay = true) (w : World) : Calls Tryz.prog 36 #[.agg #[.int .i64 c0, .int .i64 c1, .int .i64 c2], pt sx sy, pt ax ay] w fun e w' => e = .returned (pt (ft c0 c2 sx ax) (ft c1 c2 sy ay)) ∧ Up w w' := by
  obtain ⟨⟨g0, g1, g2⟩, ⟨s1, s2⟩, a1, a2⟩ := lnB_bd hb
  obtain ⟨⟨b1, b2⟩, ⟨b3, b4⟩, b5, b6⟩ := ft_bd g0 g2 s1 a1
  obtain ⟨⟨d1, d2⟩, ⟨d3, d4⟩, d5, d6⟩ := ft_bd g1 g2 s2 a2
  have H1 : ∀ W : World, Calls Tryz.prog 63 #[.int .i64 (c2 * (sx + ax)), .int .i64 1000] W fun e w' => e = .returned (.int .i64 (neV (c2 * (sx + ax)) 1000)) ∧ W = w' := fun W => p_nearS _ 1000 W
  have H2 : ∀ W : World, Calls Tryz.prog 63 #[.int .i64 (c2 * (sy + ay)), .int .i64 1000] W fun e w' => e = .returned (.int .i64 (neV (c2 * (sy + ay)) 1000)) ∧ W = w' := fun W => p_nearS _ 1000 W
  have e1 : IntKind.i64.wrap (sx + ax) = sx + ax := IntWalk.i64_in _ ⟨by omega, by omega⟩
  have e2 : IntKind.i64.wrap (sy + ay) = sy + ay := IntWalk.i64_in _ ⟨by omega, by omega⟩
  have e3 : IntKind.i64.wrap (c2 * (sx + ax)) = c2 * (sx + ax) := IntWalk.i64_in _ ⟨by omega, by omega⟩
  have e4 : IntKind.i64.wrap (c2 * (sy + ay)) = c2 * (sy + ay) := IntWalk.i64_in _ ⟨by omega, by omega⟩
  have e5 : IntKind.i64.wrap (c0 + neV (c2 * (sx + ax)) 1000) = ft c0 c2 sx ax := IntWalk.i64_in _ ⟨by omega, by omega⟩
  have e6 : IntKind.i64.wrap (c1 + neV (c2 * (sy + ay)) 1000) = ft c1 c2 sy ay := IntWalk.i64_in _ ⟨by omega, by omega⟩
  clear b1 b2 b3 b4 b5 b6 d1 d2 d3 d4 d5 d6 hb g0 g1 g2 s1 s2 a1 a2
  generalize ft c0 c2 sx ax = ox at *
  generalize ft c1 c2 sy ay = oy at *
  generalize neV (c2 * (sx + ax)) 1000 = fk at *
  generalize neV (c2 * (sy + ay)) 1000 = fl at *
  obtain ⟨nx, hnx⟩ : ∃ n, c2 * (sx + ax) = n := ⟨_, rfl⟩
  obtain ⟨ny, hny⟩ : ∃ n, c2 * (sy + ay) = n := ⟨_, rfl⟩
  rw [hnx] at H1 e3
  rw [hny] at H2 e4
  have e7 : IntKind.i64.wrap (c2 * (sx + ax)) = nx := by rw [hnx]; exact e3
  have e8 : IntKind.i64.wrap (c2 * (sy + ay)) = ny := by rw [hny]; exact e4
  clear e3 e4 hnx hny
  have h1 := hide H1
  have h2 := hide H2
  clear H1 H2
  go_enter Tryz.func36, Tryz.ntmps36
  go_wp2_with fail
  refine at_wp (fun W hW => ?_)
  have q0 : W.cell? ⟨w.heap.size, 0, none⟩ = some (.int .i64 c0) := by rw [hW]; go_cell
  have q1 : W.cell? ⟨w.heap.size, 1, none⟩ = some (.int .i64 c1) := by rw [hW]; go_cell
  have q2 : W.cell? ⟨w.heap.size, 2, none⟩ = some (.int .i64 c2) := by rw [hW]; go_cell
  have q3 : W.cell? ⟨w.heap.size + 1, 0, none⟩ = some (.int .i64 sx) := by rw [hW]; go_cell
  have q4 : W.cell? ⟨w.heap.size + 1, 1, none⟩ = some (.int .i64 sy) := by rw [hW]; go_cell
  have q5 : W.cell? ⟨w.heap.size + 1 + 1, 0, none⟩ = some (.int .i64 ax) := by rw [hW]; go_cell
  have q6 : W.cell? ⟨w.heap.size + 1 + 1, 1, none⟩ = some (.int .i64 ay) := by rw [hW]; go_cell
  have B7 : Bx W (w.heap.size + 1 + 1 + 1) [.int .i64 0, .int .i64 0] := by
    rw [hW]
    have t := bx_new (((w.alloc (.cells #[.int .i64 c0, .int .i64 c1, .int .i64 c2] 31)).alloc (.cells #[.int .i64 sx, .int .i64 sy] 36)).alloc (.cells #[.int .i64 ax, .int .i64 ay] 36)) [.int .i64 0, .int .i64 0] 43
    rwa [sz1, sz1, sz1] at t
  have U0 : Up w W := by rw [hW]; exact (by repeat' (first | (with_reducible exact up_refl _) | (with_reducible assumption) | (with_reducible refine up_alloc ?_ _) | (with_reducible refine up_drewN ?_ _) | (with_reducible refine up_drew ?_) | (with_reducible refine up_set ?_ (by first | (simp; done) | (simp; omega) | omega) _) | (refine up_trans ?_ (by with_reducible assumption))))
  clear hW
  obtain ⟨q7, q8⟩ := bx2 B7
  obtain ⟨f7, f8⟩ := bxf2 B7
  go_region_held3 (fun wx => wx.cell? ⟨w.heap.size, 0, none⟩ = some (.int .i64 c0) ∧ wx.cell? ⟨w.heap.size, 1, none⟩ = some (.int .i64 c1) ∧ wx.cell? ⟨w.heap.size, 2, none⟩ = some (.int .i64 c2) ∧ wx.cell? ⟨w.heap.size + 1, 0, none⟩ = some (.int .i64 sx) ∧ wx.cell? ⟨w.heap.size + 1, 1, none⟩ = some (.int .i64 sy) ∧ wx.cell? ⟨w.heap.size + 1 + 1, 0, none⟩ = some (.int .i64 ax) ∧ wx.cell? ⟨w.heap.size + 1 + 1, 1, none⟩ = some (.int .i64 ay)) ((first | (exact ⟨by go_cell, by go_cell, by go_cell, by go_cell, by go_cell, by go_cell, by go_cell⟩) | (with_reducible assumption)))
    (first | (go_at_call 63; (with_reducible refine (unhide h1 _).mono ?_); rintro e w4 ⟨rfl, rfl⟩) | (go_at_call 63; (with_reducible refine (unhide h2 _).mono ?_); rintro e w4 ⟨rfl, rfl⟩))
  all_goals
    refine at_x (fun W9 hW9 => ?_)
    have B9 : Bx W9 (w.heap.size + 1 + 1 + 1) [.int .i64 ox, .int .i64 oy] := by rw [hW9]; exact bx_drew (bx_set (bx_set B7 0 _) 1 _)
    have U9 : Up w W9 := by rw [hW9]; exact (by repeat' (first | (with_reducible exact up_refl _) | (with_reducible assumption) | (with_reducible refine up_alloc ?_ _) | (with_reducible refine up_drewN ?_ _) | (with_reducible refine up_drew ?_) | (with_reducible refine up_set ?_ (by first | (simp; done) | (simp; omega) | omega) _) | (refine up_trans ?_ (by with_reducible assumption))))
    clear hW9 B7 U0 q0 q1 q2 q3 q4 q5 q6 q7 q8 f7 f8
    obtain ⟨p0, p1⟩ := bx2 B9
    go_wp2_with fail
    refine bodyPost_ret (v := pt ox oy) (by simp [results, Tryz.results36, go_sem, p0, p1]) rfl ⟨rfl, U9⟩
end Go.Proofs.YtooochbfnmmnkaaGreat
namespace Go.Proofs.YtooochbfnmmnkaaGreat
open Go.RowKit Go.Proofs.Gn
def foV (c0 c1 c2 sx sy ax ay v : Int) : Int := if lnB c0 c1 c2 sx sy ax ay then v else 0
set_option maxHeartbeats 2000000 in
theorem p_Foot (c0 c1 c2 sx sy ax ay : Int) (w : World) : Calls Tryz.prog 15 #[.agg #[.int .i64 c0, .int .i64 c1, .int .i64 c2], pt sx sy, pt ax ay] w fun e w' => e = .returned (.tuple #[pt (foV c0 c1 c2 sx sy ax ay (ft c0 c2 sx ax)) (foV c0 c1 c2 sx sy ax ay (ft c1 c2 sy ay)), .int .i64 (lnE c0 c1 c2 sx sy ax ay)]) ∧ Up w w' := by
  have h1 := hide (fun W => p_checkLeaning c0 c1 c2 sx sy ax ay W)
  have h2 := hide (fun (hb : lnB c0 c1 c2 sx sy ax ay = true) (W : World) => p_foot hb W)
  unfold foV
  unfold lnE at h1 ⊢
  generalize ft c0 c2 sx ax = a at *
  generalize ft c1 c2 sy ay = b at *
  generalize lnB c0 c1 c2 sx sy ax ay = B at *
  cases B
  · simp only [Bool.false_eq_true, if_false] at h1 ⊢
    clear h2
    go_enter Tryz.func15, Tryz.ntmps15
    go_wp2_with (go_at_call 35; (with_reducible refine (unhide h1 _).mono ?_); rintro e w1 ⟨rfl, hb1⟩; have k0_0 : w1.cell? ⟨w.heap.size, 0, none⟩ = some (.int .i64 c0) := up_cell hb1 (by first | (with_reducible assumption) | (refine alloc_cell _ ?_; with_reducible assumption) | go_cell); have k0_1 : w1.cell? ⟨w.heap.size, 1, none⟩ = some (.int .i64 c1) := up_cell hb1 (by first | (with_reducible assumption) | (refine alloc_cell _ ?_; with_reducible assumption) | go_cell); have k0_2 : w1.cell? ⟨w.heap.size, 2, none⟩ = some (.int .i64 c2) := up_cell hb1 (by first | (with_reducible assumption) | (refine alloc_cell _ ?_; with_reducible assumption) | go_cell); have k1_0 : w1.cell? ⟨w.heap.size + 1, 0, none⟩ = some (.int .i64 sx) := up_cell hb1 (by first | (with_reducible assumption) | (refine alloc_cell _ ?_; with_reducible assumption) | go_cell); have k1_1 : w1.cell? ⟨w.heap.size + 1, 1, none⟩ = some (.int .i64 sy) := up_cell hb1 (by first | (with_reducible assumption) | (refine alloc_cell _ ?_; with_reducible assumption) | go_cell); have k2_0 : w1.cell? ⟨w.heap.size + 1 + 1, 0, none⟩ = some (.int .i64 ax) := up_cell hb1 (by first | (with_reducible assumption) | (refine alloc_cell _ ?_; with_reducible assumption) | go_cell); have k2_1 : w1.cell? ⟨w.heap.size + 1 + 1, 1, none⟩ = some (.int .i64 ay) := up_cell hb1 (by first | (with_reducible assumption) | (refine alloc_cell _ ?_; with_reducible assumption) | go_cell); have k3_0 : w1.cell? ⟨w.heap.size + 1 + 1 + 1, 0, none⟩ = some (.int .i64 0) := up_cell hb1 (by first | (with_reducible assumption) | (refine alloc_cell _ ?_; with_reducible assumption) | go_cell); have f3_0 : w1.frozen? ⟨w.heap.size + 1 + 1 + 1, 0, none⟩ = false := up_frozen hb1 (v := .int .i64 0) (by first | (with_reducible assumption) | (refine alloc_cell _ ?_; with_reducible assumption) | go_cell) (by first | (with_reducible assumption) | (refine alloc_frozen (v := .int .i64 0) _ ?_ ?_ <;> with_reducible assumption) | (simp; done) | (go_simp; done)); have k3_1 : w1.cell? ⟨w.heap.size + 1 + 1 + 1, 1, none⟩ = some (.int .i64 0) := up_cell hb1 (by first | (with_reducible assumption) | (refine alloc_cell _ ?_; with_reducible assumption) | go_cell); have f3_1 : w1.frozen? ⟨w.heap.size + 1 + 1 + 1, 1, none⟩ = false := up_frozen hb1 (v := .int .i64 0) (by first | (with_reducible assumption) | (refine alloc_cell _ ?_; with_reducible assumption) | go_cell) (by first | (with_reducible assumption) | (refine alloc_frozen (v := .int .i64 0) _ ?_ ?_ <;> with_reducible assumption) | (simp; done) | (go_simp; done)))
    have z := mk_bx2 k3_0 k3_1 f3_0 f3_1
    obtain ⟨W9, hW9⟩ : ∃ W9 : World, W9 = ((w1.setCell ⟨w.heap.size + 1 + 1 + 1, 0, none⟩ (.int .i64 0)).setCell ⟨w.heap.size + 1 + 1 + 1, 1, none⟩ (.int .i64 0)) := ⟨_, rfl⟩
    rw [← hW9]
    have B9 : Bx W9 (w.heap.size + 1 + 1 + 1) [.int .i64 0, .int .i64 0] := by rw [hW9]; exact bx_set (bx_set z 0 _) 1 _
    have U9 : Up w W9 := by rw [hW9]; exact (by repeat' (first | (with_reducible exact up_refl _) | (with_reducible assumption) | (with_reducible refine up_alloc ?_ _) | (with_reducible refine up_drewN ?_ _) | (with_reducible refine up_drew ?_) | (with_reducible refine up_set ?_ (by first | (simp; done) | (simp; omega) | omega) _) | (refine up_trans ?_ (by with_reducible assumption))))
    clear hW9 z
    obtain ⟨p0, p1⟩ := bx2 B9
    refine bodyPost_ret (v := .tuple #[pt 0 0, .int .i64 3]) (by simp [results, Tryz.results15, go_sem, p0, p1]) rfl ⟨rfl, U9⟩
  · simp only [if_true] at h1 ⊢
    have h3 := hide (unhide h2 rfl)
    clear h2
    go_enter Tryz.func15, Tryz.ntmps15
    go_wp2_with (first | (go_at_call 35; (with_reducible refine (unhide h1 _).mono ?_); rintro e w1 ⟨rfl, hb1⟩; have k0_0 : w1.cell? ⟨w.heap.size, 0, none⟩ = some (.int .i64 c0) := up_cell hb1 (by first | (with_reducible assumption) | (refine alloc_cell _ ?_; with_reducible assumption) | go_cell); have k0_1 : w1.cell? ⟨w.heap.size, 1, none⟩ = some (.int .i64 c1) := up_cell hb1 (by first | (with_reducible assumption) | (refine alloc_cell _ ?_; with_reducible assumption) | go_cell); have k0_2 : w1.cell? ⟨w.heap.size, 2, none⟩ = some (.int .i64 c2) := up_cell hb1 (by first | (with_reducible assumption) | (refine alloc_cell _ ?_; with_reducible assumption) | go_cell); have k1_0 : w1.cell? ⟨w.heap.size + 1, 0, none⟩ = some (.int .i64 sx) := up_cell hb1 (by first | (with_reducible assumption) | (refine alloc_cell _ ?_; with_reducible assumption) | go_cell); have k1_1 : w1.cell? ⟨w.heap.size + 1, 1, none⟩ = some (.int .i64 sy) := up_cell hb1 (by first | (with_reducible assumption) | (refine alloc_cell _ ?_; with_reducible assumption) | go_cell); have k2_0 : w1.cell? ⟨w.heap.size + 1 + 1, 0, none⟩ = some (.int .i64 ax) := up_cell hb1 (by first | (with_reducible assumption) | (refine alloc_cell _ ?_; with_reducible assumption) | go_cell); have k2_1 : w1.cell? ⟨w.heap.size + 1 + 1, 1, none⟩ = some (.int .i64 ay) := up_cell hb1 (by first | (with_reducible assumption) | (refine alloc_cell _ ?_; with_reducible assumption) | go_cell); have k3_0 : w1.cell? ⟨w.heap.size + 1 + 1 + 1, 0, none⟩ = some (.int .i64 0) := up_cell hb1 (by first | (with_reducible assumption) | (refine alloc_cell _ ?_; with_reducible assumption) | go_cell); have f3_0 : w1.frozen? ⟨w.heap.size + 1 + 1 + 1, 0, none⟩ = false := up_frozen hb1 (v := .int .i64 0) (by first | (with_reducible assumption) | (refine alloc_cell _ ?_; with_reducible assumption) | go_cell) (by first | (with_reducible assumption) | (refine alloc_frozen (v := .int .i64 0) _ ?_ ?_ <;> with_reducible assumption) | (simp; done) | (go_simp; done)); have k3_1 : w1.cell? ⟨w.heap.size + 1 + 1 + 1, 1, none⟩ = some (.int .i64 0) := up_cell hb1 (by first | (with_reducible assumption) | (refine alloc_cell _ ?_; with_reducible assumption) | go_cell); have f3_1 : w1.frozen? ⟨w.heap.size + 1 + 1 + 1, 1, none⟩ = false := up_frozen hb1 (v := .int .i64 0) (by first | (with_reducible assumption) | (refine alloc_cell _ ?_; with_reducible assumption) | go_cell) (by first | (with_reducible assumption) | (refine alloc_frozen (v := .int .i64 0) _ ?_ ?_ <;> with_reducible assumption) | (simp; done) | (go_simp; done))) | (go_at_call 36; (with_reducible refine (unhide h3 _).mono ?_); rintro e w2 ⟨rfl, hb2⟩; have z := bx_up (mk_bx2 k3_0 k3_1 f3_0 f3_1) hb2; obtain ⟨z0, z1⟩ := bx2 z; obtain ⟨z2, z3⟩ := bxf2 z))
    obtain ⟨W9, hW9⟩ : ∃ W9 : World, W9 = ((w2.setCell ⟨w.heap.size + 1 + 1 + 1, 0, none⟩ (.int .i64 a)).setCell ⟨w.heap.size + 1 + 1 + 1, 1, none⟩ (.int .i64 b)) := ⟨_, rfl⟩
    rw [← hW9]
    have B9 : Bx W9 (w.heap.size + 1 + 1 + 1) [.int .i64 a, .int .i64 b] := by rw [hW9]; exact bx_set (bx_set z 0 _) 1 _
    have U9 : Up w W9 := by rw [hW9]; exact (by repeat' (first | (with_reducible exact up_refl _) | (with_reducible assumption) | (with_reducible refine up_alloc ?_ _) | (with_reducible refine up_drewN ?_ _) | (with_reducible refine up_drew ?_) | (with_reducible refine up_set ?_ (by first | (simp; done) | (simp; omega) | omega) _) | (refine up_trans ?_ (by with_reducible assumption))))
    clear hW9 z0 z1 z2 z3 z
    obtain ⟨p0, p1⟩ := bx2 B9
    refine bodyPost_ret (v := .tuple #[pt a b, .int .i64 0]) (by simp [results, Tryz.results15, go_sem, p0, p1]) rfl ⟨rfl, U9⟩
/-! ### With wind -/
def blB (c0 c1 c2 sx sy ax ay wx wy h m : Int) : Bool := lnB c0 c1 c2 sx sy ax ay && (slB wx wy 1048576 && (win h 0 131072 && win m 1 16777216))
def blE (c0 c1 c2 sx sy ax ay wx wy h m : Int) : Int := if blB c0 c1 c2 sx sy ax ay wx wy h m then 0 else 3
def blV (c0 c1 c2 sx sy ax ay wx wy h m v : Int) : Int := if blB c0 c1 c2 sx sy ax ay wx wy h m then v else 0
theorem blB_bd {wx wy h m : Int} (hs : slB wx wy 1048576 = true) (hh : win h 0 131072 = true) (hm : win m 1 16777216 = true) :
    ((-137438953472 ≤ wx * h ∧ wx * h ≤ 137438953472) ∧ -137438953472 ≤ neV (wx * h) m ∧ neV (wx * h) m ≤ 137438953472) ∧ (-137438953472 ≤ wy * h ∧ wy * h ≤ 137438953472) ∧ -137438953472 ≤ neV (wy * h) m ∧ neV (wy * h) m ≤ 137438953472 := by
  unfold slB at hs
  rw [Bool.and_eq_true, win_iff, win_iff] at hs
  rw [win_iff] at hh
  have _ := hm
  have p := Gs.mb (u := wx) (v := h) (U := 1048576) (V := 131072) (by omega) (by omega) (by omega) (by omega)
  have q := Gs.mb (u := wy) (v := h) (U := 1048576) (V := 131072) (by omega) (by omega) (by omega) (by omega)
  have p2 := ne_bd (n := wx * h) (d := m) (by omega)
  have q2 := ne_bd (n := wy * h) (d := m) (by omega)
  omega
theorem bx_five (w : World) (v1 v2 v3 v4 v5 : List Value) (t1 t2 t3 t4 t5 : TypeId) :
    Bx (((((w.alloc (.cells v1.toArray t1)).alloc (.cells v2.toArray t2)).alloc (.cells v3.toArray t3)).alloc (.cells v4.toArray t4)).alloc (.cells v5.toArray t5)) w.heap.size v1 ∧ Bx (((((w.alloc (.cells v1.toArray t1)).alloc (.cells v2.toArray t2)).alloc (.cells v3.toArray t3)).alloc (.cells v4.toArray t4)).alloc (.cells v5.toArray t5)) (w.heap.size + 1) v2 ∧ Bx (((((w.alloc (.cells v1.toArray t1)).alloc (.cells v2.toArray t2)).alloc (.cells v3.toArray t3)).alloc (.cells v4.toArray t4)).alloc (.cells v5.toArray t5)) (w.heap.size + 1 + 1) v3 ∧ Bx (((((w.alloc (.cells v1.toArray t1)).alloc (.cells v2.toArray t2)).alloc (.cells v3.toArray t3)).alloc (.cells v4.toArray t4)).alloc (.cells v5.toArray t5)) (w.heap.size + 1 + 1 + 1) v4 ∧ Bx (((((w.alloc (.cells v1.toArray t1)).alloc (.cells v2.toArray t2)).alloc (.cells v3.toArray t3)).alloc (.cells v4.toArray t4)).alloc (.cells v5.toArray t5)) (w.heap.size + 1 + 1 + 1 + 1) v5 := by
  have t := bx_three w v1 v2 v3 t1 t2 t3
  refine ⟨bx_alloc (bx_alloc t.1 _) _, bx_alloc (bx_alloc t.2.1 _) _, bx_alloc (bx_alloc t.2.2 _) _, ?_, ?_⟩
  · have u := bx_alloc (bx_new (((w.alloc (.cells v1.toArray t1)).alloc (.cells v2.toArray t2)).alloc (.cells v3.toArray t3)) v4 t4) (.cells v5.toArray t5)
    rwa [sz1, sz1, sz1] at u
  · have u := bx_new ((((w.alloc (.cells v1.toArray t1)).alloc (.cells v2.toArray t2)).alloc (.cells v3.toArray t3)).alloc (.cells v4.toArray t4)) v5 t5
    rwa [sz1, sz1, sz1, sz1] at u
end Go.Proofs.YtooochbfnmmnkaaGreat
namespace Go.Proofs.YtooochbfnmmnkaaGreat
open Go.RowKit Go.Proofs.Gn
theorem bx_two' (w : World) (v1 v2 : List Value) (t1 t2 : TypeId) : Bx ((w.alloc (.cells v1.toArray t1)).alloc (.cells v2.toArray t2)) w.heap.size v1 ∧ Bx ((w.alloc (.cells v1.toArray t1)).alloc (.cells v2.toArray t2)) (w.heap.size + 1) v2 := by
  refine ⟨bx_alloc (bx_new w _ _) _, ?_⟩
  have h := bx_new (w.alloc (.cells v1.toArray t1)) v2 t2
  rwa [sz1] at h
end Go.Proofs.YtooochbfnmmnkaaGreat
namespace Go.Proofs.YtooochbfnmmnkaaGreat
open Go.RowKit Go.Proofs.Gn
def z3 : List Value := [.int .i64 0, .int .i64 0, .int .i64 0]
theorem atE_cases (ps : List Gs.Sup) (X Y : Int) : (¬ chE ps = 0 ∧ atE ps X Y = chE ps) ∨ (chE ps = 0 ∧ ptE X Y = 3 ∧ atE ps X Y = 3) ∨ (chE ps = 0 ∧ ptE X Y = 0 ∧ atE ps X Y = 0) := by
  unfold atE
  by_cases c : chE ps = 0
  · rw [if_pos c]
    right
    unfold ptE
    split
    · exact .inr ⟨c, rfl, rfl⟩
    · exact .inl ⟨c, rfl, rfl⟩
  · rw [if_neg c]
    exact .inl ⟨c, rfl⟩
end Go.Proofs.YtooochbfnmmnkaaGreat
namespace Go.Proofs.YtooochbfnmmnkaaGreat
open Go.RowKit Go.Proofs.Gn
theorem ne_near {n d : Int} (hn : -137438953472 ≤ n ∧ n ≤ 137438953472) (hd : 1 ≤ d ∧ d ≤ 16777216) : neV n d = (2 * n + d) / (2 * d) := by
  unfold neV
  have : inQ n d = true := by unfold inQ; rw [decide_eq_true_iff]; omega
  rw [this]
  simp only [if_true]
  unfold near
  rfl
theorem bx_four (w : World) (v1 v2 v3 v4 : List Value) (t1 t2 t3 t4 : TypeId) :
    Bx ((((w.alloc (.cells v1.toArray t1)).alloc (.cells v2.toArray t2)).alloc (.cells v3.toArray t3)).alloc (.cells v4.toArray t4)) w.heap.size v1 ∧ Bx ((((w.alloc (.cells v1.toArray t1)).alloc (.cells v2.toArray t2)).alloc (.cells v3.toArray t3)).alloc (.cells v4.toArray t4)) (w.heap.size + 1) v2 ∧ Bx ((((w.alloc (.cells v1.toArray t1)).alloc (.cells v2.toArray t2)).alloc (.cells v3.toArray t3)).alloc (.cells v4.toArray t4)) (w.heap.size + 1 + 1) v3 ∧ Bx ((((w.alloc (.cells v1.toArray t1)).alloc (.cells v2.toArray t2)).alloc (.cells v3.toArray t3)).alloc (.cells v4.toArray t4)) (w.heap.size + 1 + 1 + 1) v4 := by
  have t := bx_three w v1 v2 v3 t1 t2 t3
  refine ⟨bx_alloc t.1 _, bx_alloc t.2.1 _, bx_alloc t.2.2 _, ?_⟩
  have u := bx_new (((w.alloc (.cells v1.toArray t1)).alloc (.cells v2.toArray t2)).alloc (.cells v3.toArray t3)) v4 t4
  rwa [sz1, sz1, sz1] at u
end Go.Proofs.YtooochbfnmmnkaaGreat
namespace Go.Proofs.YtooochbfnmmnkaaGreat
open Go.RowKit Go.Proofs.Gn
theorem boE_ch {ps : List Gs.Sup} {m X Y : Int} (h : chE ps = 0) : (boE ps m X Y = 0 ∧ msE m = 0 ∧ ptE X Y = 0) ∨ (boE ps m X Y = 3 ∧ msE m = 3) ∨ (boE ps m X Y = 3 ∧ msE m = 0 ∧ ptE X Y = 3) := by
  have h1 : msE m = 0 ∨ msE m = 3 := by unfold msE; split <;> simp
  have h2 : ptE X Y = 0 ∨ ptE X Y = 3 := by unfold ptE; split <;> simp
  unfold boE
  rw [if_pos h]
  rcases h1 with h1 | h1 <;> rcases h2 with h2 | h2 <;> simp [h1, h2]
end Go.Proofs.YtooochbfnmmnkaaGreat
namespace Go.Proofs.YtooochbfnmmnkaaGreat
open Go.RowKit Go.Proofs.Gn
/-- What a load puts on a platform: the foot, its error, the loads and their error. -/
def sdL (s : ByteArray) (pcs : List Pce) (ys : List Eye) (f sx sy ax ay : Int) : Int := lnE (loC s pcs ys f fX) (loC s pcs ys f fY) (loC s pcs ys f fZ) sx sy ax ay
def sdX (s : ByteArray) (pcs : List Pce) (ys : List Eye) (f sx sy ax ay : Int) : Int := foV (loC s pcs ys f fX) (loC s pcs ys f fY) (loC s pcs ys f fZ) sx sy ax ay (ft (loC s pcs ys f fX) (loC s pcs ys f fZ) sx ax)
def sdY (s : ByteArray) (pcs : List Pce) (ys : List Eye) (f sx sy ax ay : Int) : Int := foV (loC s pcs ys f fX) (loC s pcs ys f fY) (loC s pcs ys f fZ) sx sy ax ay (ft (loC s pcs ys f fY) (loC s pcs ys f fZ) sy ay)
def stE (C E L G : Int) : Int := if C = 0 then (if E = 0 then (if L = 0 then G else L) else E) else C
def stV (C E L r : Int) : Int := if C = 0 then (if E = 0 then (if L = 0 then r else 0) else 0) else 0
def sdE (ps : List Gs.Sup) (s : ByteArray) (pcs : List Pce) (ys : List Eye) (f sx sy ax ay : Int) : Int :=
  stE (chE ps) (loE s pcs ys f) (sdL s pcs ys f sx sy ax ay) (shE ps (loM s pcs ys f) (sdX s pcs ys f sx sy ax ay) (sdY s pcs ys f sx sy ax ay))
def sdV (ps : List Gs.Sup) (s : ByteArray) (pcs : List Pce) (ys : List Eye) (f sx sy ax ay : Int) (g : List Gs.Sup → Int → Int → Int) : Int :=
  stV (chE ps) (loE s pcs ys f) (sdL s pcs ys f sx sy ax ay) (shV ps (loM s pcs ys f) (sdX s pcs ys f sx sy ax ay) (sdY s pcs ys f sx sy ax ay) (up (loM s pcs ys f) (paD ps) (g ps (sdX s pcs ys f sx sy ax ay) (sdY s pcs ys f sx sy ax ay))))
set_option maxRecDepth 100000 in
set_option maxHeartbeats 8000000 in
theorem p_Stands (A : Option Addr) (ps : List Gs.Sup) (cap : Nat) (s : ByteArray) (Ap : Option Addr) (pcs : List Pce) (capP : Nat) (B : Option Addr) (ys : List Eye) (capB : Nat) (f sx sy ax ay : Int) (w : World)
    (hS : Sups w A ps) (hA : Pcs w Ap pcs) (hB : Eyes w B ys) (hl : ps.length ≤ 9223372036854775807) (hn : pcs.length ≤ 9223372036854775807) (hm : ys.length ≤ 9223372036854775807) :
    Calls Tryz.prog 7 #[.slice A ps.length cap, loV s Ap pcs.length capP B ys.length capB f, pt sx sy, pt ax ay] w fun e w' => e = .returned (.tuple #[.agg #[.int .i64 (sdV ps s pcs ys f sx sy ax ay pa0), .int .i64 (sdV ps s pcs ys f sx sy ax ay pa1), .int .i64 (sdV ps s pcs ys f sx sy ax ay pa2)], .int .i64 (sdE ps s pcs ys f sx sy ax ay)]) ∧ Up w w' := by
  have HC := hide (fun W (hW : Up w W) => p_CheckS A ps cap W (sups_up hS hW) hl)
  have HE := hide (fun W (hW : Up w W) => p_CentreL s Ap pcs capP B ys capB f W (pcs_up hA hW) (eyes_up hB hW) hn hm)
  have HM := hide (fun W (hW : Up w W) => p_MassL s Ap pcs capP B ys capB f W (pcs_up hA hW) (eyes_up hB hW) hn hm)
  have HF := hide (fun W => p_Foot (loC s pcs ys f fX) (loC s pcs ys f fY) (loC s pcs ys f fZ) sx sy ax ay W)
  have HS := hide (fun (h : chE ps = 0) W (hW : Up w W) => p_Shares A ps cap (loM s pcs ys f) (sdX s pcs ys f sx sy ax ay) (sdY s pcs ys f sx sy ax ay) hl W (sups_up hS hW))
  have hx : sdX s pcs ys f sx sy ax ay = _ := rfl
  have hy : sdY s pcs ys f sx sy ax ay = _ := rfl
  have hL : sdL s pcs ys f sx sy ax ay = _ := rfl
  conv at hx => rhs; unfold sdX
  conv at hy => rhs; unfold sdY
  conv at hL => rhs; unfold sdL
  rw [← hx, ← hy, ← hL] at HF
  clear hx hy hL
  unfold sdV sdE
  clear hS hA hB
  generalize loC s pcs ys f fX = k0 at *
  generalize loC s pcs ys f fY = k1 at *
  generalize loC s pcs ys f fZ = k2 at *
  generalize sdL s pcs ys f sx sy ax ay = L at *
  generalize sdX s pcs ys f sx sy ax ay = X at *
  generalize sdY s pcs ys f sx sy ax ay = Y at *
  generalize shV ps (loM s pcs ys f) X Y (up (loM s pcs ys f) (paD ps) (pa0 ps X Y)) = r0 at *
  generalize shV ps (loM s pcs ys f) X Y (up (loM s pcs ys f) (paD ps) (pa1 ps X Y)) = r1 at *
  generalize shV ps (loM s pcs ys f) X Y (up (loM s pcs ys f) (paD ps) (pa2 ps X Y)) = r2 at *
  generalize shE ps (loM s pcs ys f) X Y = G at *
  generalize loM s pcs ys f = M at *
  generalize loE s pcs ys f = E at *
  generalize chE ps = C at *
  generalize ps.length = n at *
  generalize pcs.length = np at *
  generalize ys.length = ny at *
  unfold stE stV
  by_cases hC : C = 0
  rotate_left
  · have t : (C == 0) = false := by simp [hC]
    simp only [if_neg hC]
    have HH := hide hC
    clear hC HE HM HF HS
    go_enter Tryz.func7, Tryz.ntmps7
    go_upto_region 1 with fail
    refine at_wp (fun W0 hW0 => ?_)
    have t4 := bx_four w [.string s, .slice Ap np capP, .slice B ny capB, .int .i64 f] [.int .i64 sx, .int .i64 sy] [.int .i64 ax, .int .i64 ay] [.int .i64 0, .int .i64 0, .int .i64 0] 27 36 36 31
    have U0 : Up w W0 := by rw [hW0]; exact (by repeat' (first | (with_reducible exact up_refl _) | (with_reducible assumption) | (with_reducible refine up_alloc ?_ _) | (with_reducible refine up_drewN ?_ _) | (with_reducible refine up_drew ?_) | (with_reducible refine up_set ?_ (by first | (simp; done) | (simp; omega) | omega) _) | (refine up_trans ?_ (by with_reducible assumption))))
    have L0 : Bx W0 w.heap.size [.string s, .slice Ap np capP, .slice B ny capB, .int .i64 f] := by rw [hW0]; exact t4.1
    have S0 : Bx W0 (w.heap.size + 1) [.int .i64 sx, .int .i64 sy] := by rw [hW0]; exact t4.2.1
    have A0 : Bx W0 (w.heap.size + 1 + 1) [.int .i64 ax, .int .i64 ay] := by rw [hW0]; exact t4.2.2.1
    have R0 : Bx W0 (w.heap.size + 1 + 1 + 1) [.int .i64 0, .int .i64 0, .int .i64 0] := by rw [hW0]; exact t4.2.2.2
    clear hW0 t4
    go_wp2_with (go_at_call 8; (with_reducible refine (unhide HC _ U0).mono ?_); rintro e w1 ⟨rfl, hb⟩; have U1 := up_trans U0 hb; have R1 := bx_up R0 hb; obtain ⟨z0, z1, z2⟩ := bx3 R1; obtain ⟨f0, f1, f2⟩ := bxf3 R1)
    obtain ⟨W9, hW9⟩ : ∃ W9 : World, W9 = (((w1.setCell ⟨w.heap.size + 1 + 1 + 1, 0, none⟩ (.int .i64 0)).setCell ⟨w.heap.size + 1 + 1 + 1, 1, none⟩ (.int .i64 0)).setCell ⟨w.heap.size + 1 + 1 + 1, 2, none⟩ (.int .i64 0)) := ⟨_, rfl⟩
    rw [← hW9]
    have B9 : Bx W9 (w.heap.size + 1 + 1 + 1) [.int .i64 0, .int .i64 0, .int .i64 0] := by rw [hW9]; exact bx_set3 R1
    have U9 : Up w W9 := by rw [hW9]; exact up_set (up_set (up_set U1 (by simp; omega) _) (by simp; omega) _) (by simp; omega) _
    clear hW9 z0 z1 z2 f0 f1 f2
    obtain ⟨q0, q1, q2⟩ := bx3 B9
    refine bodyPost_ret (v := .tuple #[.agg #[.int .i64 0, .int .i64 0, .int .i64 0], .int .i64 C]) (by simp [results, Tryz.results7, go_sem, q0, q1, q2]) rfl ⟨rfl, U9⟩
  subst hC
  simp only [if_pos]
  have HS2 := hide (unhide HS rfl)
  clear HS
  by_cases hE : E = 0
  rotate_left
  · have t : (E == 0) = false := by simp [hE]
    simp only [if_neg hE]
    have HH := hide hE
    clear hE HM HF HS2
    go_enter Tryz.func7, Tryz.ntmps7
    go_upto_region 1 with fail
    refine at_wp (fun W0 hW0 => ?_)
    have t4 := bx_four w [.string s, .slice Ap np capP, .slice B ny capB, .int .i64 f] [.int .i64 sx, .int .i64 sy] [.int .i64 ax, .int .i64 ay] [.int .i64 0, .int .i64 0, .int .i64 0] 27 36 36 31
    have U0 : Up w W0 := by rw [hW0]; exact (by repeat' (first | (with_reducible exact up_refl _) | (with_reducible assumption) | (with_reducible refine up_alloc ?_ _) | (with_reducible refine up_drewN ?_ _) | (with_reducible refine up_drew ?_) | (with_reducible refine up_set ?_ (by first | (simp; done) | (simp; omega) | omega) _) | (refine up_trans ?_ (by with_reducible assumption))))
    have L0 : Bx W0 w.heap.size [.string s, .slice Ap np capP, .slice B ny capB, .int .i64 f] := by rw [hW0]; exact t4.1
    have S0 : Bx W0 (w.heap.size + 1) [.int .i64 sx, .int .i64 sy] := by rw [hW0]; exact t4.2.1
    have A0 : Bx W0 (w.heap.size + 1 + 1) [.int .i64 ax, .int .i64 ay] := by rw [hW0]; exact t4.2.2.1
    have R0 : Bx W0 (w.heap.size + 1 + 1 + 1) [.int .i64 0, .int .i64 0, .int .i64 0] := by rw [hW0]; exact t4.2.2.2
    clear hW0 t4
    go_wp2_with (first | (go_at_call 8; (with_reducible refine (unhide HC _ U0).mono ?_); rintro e w1 ⟨rfl, hb1⟩; have U1 := up_trans U0 hb1; have L1 := bx_up L0 hb1; have R1 := bx_up R0 hb1; have e0 := (L1 0 _ rfl).1; have e1 := (L1 1 _ rfl).1; have e2 := (L1 2 _ rfl).1; have e3 := (L1 3 _ rfl).1; obtain ⟨z0, z1, z2⟩ := bx3 R1; obtain ⟨f0, f1, f2⟩ := bxf3 R1) | (go_at_call 11; (with_reducible refine (unhide HE _ U1).mono ?_); rintro e w2 ⟨rfl, hb2⟩; have U2 := up_trans U1 hb2; have R2 := bx_up R1 hb2; have R3 := bx_alloc R2 (.cells #[.int .i64 k0, .int .i64 k1, .int .i64 k2] 31); have U3 := up_alloc U2 (.cells #[.int .i64 k0, .int .i64 k1, .int .i64 k2] 31); obtain ⟨z0, z1, z2⟩ := bx3 R3; obtain ⟨f0, f1, f2⟩ := bxf3 R3))
    obtain ⟨W9, hW9⟩ : ∃ W9 : World, W9 = ((((w2.alloc (.cells #[.int .i64 k0, .int .i64 k1, .int .i64 k2] 31)).setCell ⟨w.heap.size + 1 + 1 + 1, 0, none⟩ (.int .i64 0)).setCell ⟨w.heap.size + 1 + 1 + 1, 1, none⟩ (.int .i64 0)).setCell ⟨w.heap.size + 1 + 1 + 1, 2, none⟩ (.int .i64 0)) := ⟨_, rfl⟩
    rw [← hW9]
    have B9 : Bx W9 (w.heap.size + 1 + 1 + 1) [.int .i64 0, .int .i64 0, .int .i64 0] := by rw [hW9]; exact bx_set3 R3
    have U9 : Up w W9 := by rw [hW9]; exact up_set (up_set (up_set U3 (by simp; omega) _) (by simp; omega) _) (by simp; omega) _
    clear hW9 z0 z1 z2 f0 f1 f2
    obtain ⟨q0, q1, q2⟩ := bx3 B9
    refine bodyPost_ret (v := .tuple #[.agg #[.int .i64 0, .int .i64 0, .int .i64 0], .int .i64 E]) (by simp [results, Tryz.results7, go_sem, q0, q1, q2]) rfl ⟨rfl, U9⟩
  subst hE
  simp only [if_pos]
  by_cases hL : L = 0
  rotate_left
  · have t : (L == 0) = false := by simp [hL]
    simp only [if_neg hL]
    have HH := hide hL
    clear hL HS2
    go_enter Tryz.func7, Tryz.ntmps7
    go_upto_region 1 with fail
    refine at_wp (fun W0 hW0 => ?_)
    have t4 := bx_four w [.string s, .slice Ap np capP, .slice B ny capB, .int .i64 f] [.int .i64 sx, .int .i64 sy] [.int .i64 ax, .int .i64 ay] [.int .i64 0, .int .i64 0, .int .i64 0] 27 36 36 31
    have U0 : Up w W0 := by rw [hW0]; exact (by repeat' (first | (with_reducible exact up_refl _) | (with_reducible assumption) | (with_reducible refine up_alloc ?_ _) | (with_reducible refine up_drewN ?_ _) | (with_reducible refine up_drew ?_) | (with_reducible refine up_set ?_ (by first | (simp; done) | (simp; omega) | omega) _) | (refine up_trans ?_ (by with_reducible assumption))))
    have L0 : Bx W0 w.heap.size [.string s, .slice Ap np capP, .slice B ny capB, .int .i64 f] := by rw [hW0]; exact t4.1
    have S0 : Bx W0 (w.heap.size + 1) [.int .i64 sx, .int .i64 sy] := by rw [hW0]; exact t4.2.1
    have A0 : Bx W0 (w.heap.size + 1 + 1) [.int .i64 ax, .int .i64 ay] := by rw [hW0]; exact t4.2.2.1
    have R0 : Bx W0 (w.heap.size + 1 + 1 + 1) [.int .i64 0, .int .i64 0, .int .i64 0] := by rw [hW0]; exact t4.2.2.2
    clear hW0 t4
    go_wp2_with (first | (go_at_call 8; (with_reducible refine (unhide HC _ U0).mono ?_); rintro e w1 ⟨rfl, hb1⟩; have U1 := up_trans U0 hb1; have L1 := bx_up L0 hb1; have S1 := bx_up S0 hb1; have A1 := bx_up A0 hb1; have R1 := bx_up R0 hb1; have e0 := (L1 0 _ rfl).1; have e1 := (L1 1 _ rfl).1; have e2 := (L1 2 _ rfl).1; have e3 := (L1 3 _ rfl).1) | (go_at_call 11; (with_reducible refine (unhide HE _ U1).mono ?_); rintro e w2 ⟨rfl, hb2⟩; have hb2a := up_alloc hb2 (.cells #[.int .i64 k0, .int .i64 k1, .int .i64 k2] 31); have U2 := up_trans U1 hb2a; have L2 := bx_up L1 hb2a; have S2 := bx_up S1 hb2a; have A2 := bx_up A1 hb2a; have R2 := bx_up R1 hb2a; have C2 := bx_new w2 [.int .i64 k0, .int .i64 k1, .int .i64 k2] 31; have m0 := (L2 0 _ rfl).1; have m1 := (L2 1 _ rfl).1; have m2 := (L2 2 _ rfl).1; have m3 := (L2 3 _ rfl).1) | (go_at_call 10; (with_reducible refine (unhide HM _ U2).mono ?_); rintro e w3 ⟨rfl, hb3⟩; have U3 := up_trans U2 hb3; have S3 := bx_up S2 hb3; have A3 := bx_up A2 hb3; have R3 := bx_up R2 hb3; have C3 := bx_up C2 hb3; obtain ⟨i0, i1⟩ := bx2 S3; obtain ⟨j0, j1⟩ := bx2 A3; obtain ⟨g0, g1, g2⟩ := bx3 C3) | (go_at_call 15; (with_reducible refine (unhide HF _).mono ?_); rintro e w4 ⟨rfl, hb4⟩; have U4 := up_trans U3 hb4; have R4 := bx_up R3 hb4; have R5 := bx_alloc R4 (.cells #[.int .i64 X, .int .i64 Y] 43); have U5 := up_alloc U4 (.cells #[.int .i64 X, .int .i64 Y] 43); obtain ⟨z0, z1, z2⟩ := bx3 R5; obtain ⟨f0, f1, f2⟩ := bxf3 R5))
    obtain ⟨W9, hW9⟩ : ∃ W9 : World, W9 = ((((w4.alloc (.cells #[.int .i64 X, .int .i64 Y] 43)).setCell ⟨w.heap.size + 1 + 1 + 1, 0, none⟩ (.int .i64 0)).setCell ⟨w.heap.size + 1 + 1 + 1, 1, none⟩ (.int .i64 0)).setCell ⟨w.heap.size + 1 + 1 + 1, 2, none⟩ (.int .i64 0)) := ⟨_, rfl⟩
    rw [← hW9]
    have B9 : Bx W9 (w.heap.size + 1 + 1 + 1) [.int .i64 0, .int .i64 0, .int .i64 0] := by rw [hW9]; exact bx_set3 R5
    have U9 : Up w W9 := by rw [hW9]; exact up_set (up_set (up_set U5 (by simp; omega) _) (by simp; omega) _) (by simp; omega) _
    clear hW9 z0 z1 z2 f0 f1 f2
    obtain ⟨q0, q1, q2⟩ := bx3 B9
    refine bodyPost_ret (v := .tuple #[.agg #[.int .i64 0, .int .i64 0, .int .i64 0], .int .i64 L]) (by simp [results, Tryz.results7, go_sem, q0, q1, q2]) rfl ⟨rfl, U9⟩
  · subst hL
    simp only [if_pos]
    go_enter Tryz.func7, Tryz.ntmps7
    go_upto_region 1 with fail
    refine at_wp (fun W0 hW0 => ?_)
    have t4 := bx_four w [.string s, .slice Ap np capP, .slice B ny capB, .int .i64 f] [.int .i64 sx, .int .i64 sy] [.int .i64 ax, .int .i64 ay] [.int .i64 0, .int .i64 0, .int .i64 0] 27 36 36 31
    have U0 : Up w W0 := by rw [hW0]; exact (by repeat' (first | (with_reducible exact up_refl _) | (with_reducible assumption) | (with_reducible refine up_alloc ?_ _) | (with_reducible refine up_drewN ?_ _) | (with_reducible refine up_drew ?_) | (with_reducible refine up_set ?_ (by first | (simp; done) | (simp; omega) | omega) _) | (refine up_trans ?_ (by with_reducible assumption))))
    have L0 : Bx W0 w.heap.size [.string s, .slice Ap np capP, .slice B ny capB, .int .i64 f] := by rw [hW0]; exact t4.1
    have S0 : Bx W0 (w.heap.size + 1) [.int .i64 sx, .int .i64 sy] := by rw [hW0]; exact t4.2.1
    have A0 : Bx W0 (w.heap.size + 1 + 1) [.int .i64 ax, .int .i64 ay] := by rw [hW0]; exact t4.2.2.1
    have R0 : Bx W0 (w.heap.size + 1 + 1 + 1) [.int .i64 0, .int .i64 0, .int .i64 0] := by rw [hW0]; exact t4.2.2.2
    clear hW0 t4
    go_wp2_with (first | (go_at_call 8; (with_reducible refine (unhide HC _ U0).mono ?_); rintro e w1 ⟨rfl, hb1⟩; have U1 := up_trans U0 hb1; have L1 := bx_up L0 hb1; have S1 := bx_up S0 hb1; have A1 := bx_up A0 hb1; have R1 := bx_up R0 hb1; have e0 := (L1 0 _ rfl).1; have e1 := (L1 1 _ rfl).1; have e2 := (L1 2 _ rfl).1; have e3 := (L1 3 _ rfl).1) | (go_at_call 11; (with_reducible refine (unhide HE _ U1).mono ?_); rintro e w2 ⟨rfl, hb2⟩; have hb2a := up_alloc hb2 (.cells #[.int .i64 k0, .int .i64 k1, .int .i64 k2] 31); have U2 := up_trans U1 hb2a; have L2 := bx_up L1 hb2a; have S2 := bx_up S1 hb2a; have A2 := bx_up A1 hb2a; have R2 := bx_up R1 hb2a; have C2 := bx_new w2 [.int .i64 k0, .int .i64 k1, .int .i64 k2] 31; have m0 := (L2 0 _ rfl).1; have m1 := (L2 1 _ rfl).1; have m2 := (L2 2 _ rfl).1; have m3 := (L2 3 _ rfl).1) | (go_at_call 10; (with_reducible refine (unhide HM _ U2).mono ?_); rintro e w3 ⟨rfl, hb3⟩; have U3 := up_trans U2 hb3; have S3 := bx_up S2 hb3; have A3 := bx_up A2 hb3; have R3 := bx_up R2 hb3; have C3 := bx_up C2 hb3; obtain ⟨i0, i1⟩ := bx2 S3; obtain ⟨j0, j1⟩ := bx2 A3; obtain ⟨g0, g1, g2⟩ := bx3 C3) | (go_at_call 15; (with_reducible refine (unhide HF _).mono ?_); rintro e w4 ⟨rfl, hb4⟩; have U4 := up_trans U3 hb4; have R4 := bx_up R3 hb4) | (go_at_call 12; (with_reducible refine (unhide HS2 _ (up_alloc U4 _)).mono ?_); rintro e w5 ⟨rfl, hb5⟩; have U5 := up_trans (up_alloc U4 _) hb5; have R5 := bx_up (bx_alloc R4 _) hb5; obtain ⟨z0, z1, z2⟩ := bx3 R5; obtain ⟨f0, f1, f2⟩ := bxf3 R5))
    obtain ⟨W9, hW9⟩ : ∃ W9 : World, W9 = (((w5.setCell ⟨w.heap.size + 1 + 1 + 1, 0, none⟩ (.int .i64 r0)).setCell ⟨w.heap.size + 1 + 1 + 1, 1, none⟩ (.int .i64 r1)).setCell ⟨w.heap.size + 1 + 1 + 1, 2, none⟩ (.int .i64 r2)) := ⟨_, rfl⟩
    rw [← hW9]
    have B9 : Bx W9 (w.heap.size + 1 + 1 + 1) [.int .i64 r0, .int .i64 r1, .int .i64 r2] := by rw [hW9]; exact bx_set3 R5
    have U9 : Up w W9 := by rw [hW9]; exact up_set (up_set (up_set U5 (by simp; omega) _) (by simp; omega) _) (by simp; omega) _
    clear hW9 z0 z1 z2 f0 f1 f2
    obtain ⟨q0, q1, q2⟩ := bx3 B9
    refine bodyPost_ret (v := .tuple #[.agg #[.int .i64 r0, .int .i64 r1, .int .i64 r2], .int .i64 G]) (by simp [results, Tryz.results7, go_sem, q0, q1, q2]) rfl ⟨rfl, U9⟩
end Go.Proofs.YtooochbfnmmnkaaGreat
namespace Go.Proofs.YtooochbfnmmnkaaGreat
open Go.RowKit Go.Proofs.Gn
/-- The slice at A holds these numbers. -/
def Ints (w : World) (A : Option Addr) (gs : List Int) : Prop :=
  gs = [] ∨ ∃ b off, A = some ⟨b, off, none⟩ ∧ ∀ k (h : k < gs.length), w.cell? ⟨b, off + k, none⟩ = some (.int .i64 gs[k])
theorem ints_up {w w' : World} {A : Option Addr} {gs : List Int} (h : Ints w A gs) (hu : Up w w') : Ints w' A gs := by
  rcases h with h | ⟨b, off, hA, hc⟩
  · exact .inl h
  · exact .inr ⟨b, off, hA, fun k hk => up_cell hu (hc k hk)⟩
def cG (g : Int) : List (Gs.Sup × Int) → Int
  | [] => 0
  | x :: l => (if x.1.g = g then x.2 else 0) + cG g l
theorem cG_snoc (g : Int) (l : List (Gs.Sup × Int)) (x : Gs.Sup × Int) : cG g (l ++ [x]) = cG g l + (if x.1.g = g then x.2 else 0) := by
  induction l with
  | nil => simp [cG]
  | cons y l ih => simp only [List.cons_append, cG, ih]; omega
theorem cG_take {l : List (Gs.Sup × Int)} {k : Nat} (g : Int) (h : k < l.length) : cG g (l.take (k + 1)) = cG g (l.take k) + (if l[k].1.g = g then l[k].2 else 0) := by
  rw [List.take_succ_eq_append_getElem h, cG_snoc]
/-- The sum of the ground below the first supports of a group. -/
def gk (g : Int) (ps : List Gs.Sup) (gs : List Int) (k : Nat) : Int := cG g ((ps.zip gs).take k)
theorem gk_zero (g : Int) (ps : List Gs.Sup) (gs : List Int) : gk g ps gs 0 = 0 := by unfold gk; simp [cG]
theorem gk_succ (g : Int) {ps : List Gs.Sup} {gs : List Int} {k : Nat} (h : k < ps.length) (h2 : k < gs.length) : gk g ps gs (k + 1) = gk g ps gs k + (if ps[k].g = g then gs[k] else 0) := by
  unfold gk
  have hz : k < (ps.zip gs).length := by rw [List.length_zip]; omega
  rw [cG_take g hz]
  simp
def gsB (gs : List Int) : Bool := gs.all fun x => win x (-16384) 16384
theorem gsB_at {gs : List Int} (h : gsB gs = true) {k : Nat} (hk : k < gs.length) : -16384 ≤ gs[k] ∧ gs[k] ≤ 16384 := (win_iff _ _ _).1 (List.all_eq_true.1 h gs[k] (List.getElem_mem hk))
theorem gsB_take_succ {gs : List Int} {k : Nat} (h : k < gs.length) : gsB (gs.take (k + 1)) = (gsB (gs.take k) && win gs[k] (-16384) 16384) := by
  unfold gsB
  rw [List.take_succ_eq_append_getElem h, List.all_append]
  simp
theorem gsB_no {gs : List Int} {k : Nat} (h : k < gs.length) (hk : win gs[k] (-16384) 16384 = false) : gsB gs = false := by
  cases hb : gsB gs
  · rfl
  · have := List.all_eq_true.1 hb gs[k] (List.getElem_mem h)
    rw [hk] at this; cases this
theorem gk_bd {ps : List Gs.Sup} {gs : List Int} {k : Nat} (hb : gsB (gs.take k) = true) (h : k ≤ ps.length) (h2 : k ≤ gs.length) (g : Int) : -(16384 * (k : Int)) ≤ gk g ps gs k ∧ gk g ps gs k ≤ 16384 * (k : Int) := by
  induction k with
  | zero => rw [gk_zero]; omega
  | succ k ih =>
    rw [gsB_take_succ (by omega), Bool.and_eq_true, win_iff] at hb
    have := ih hb.1 (by omega) (by omega)
    rw [gk_succ g (by omega) (by omega)]
    split <;> omega
theorem prod_bd {a b c : Int} (ha : 0 ≤ a) (hb : 0 ≤ b) (hc : 0 ≤ c) (h : a + b + c ≤ 48) : 0 ≤ b * c ∧ b * c ≤ 576 ∧ 0 ≤ a * (b * c) ∧ a * (b * c) ≤ 27648 := by
  have h1 : 0 ≤ b * c := Int.mul_nonneg hb hc
  have h2 : 0 ≤ (b - c) * (b - c) := by
    rcases Int.le_total c b with x | x
    · exact Int.mul_nonneg (by omega) (by omega)
    · have : (b - c) * (b - c) = (c - b) * (c - b) := by grind
      rw [this]; exact Int.mul_nonneg (by omega) (by omega)
  have h3 : (b + c) * (b + c) ≤ 48 * 48 := (Gs.mb (u := b + c) (v := b + c) (U := 48) (V := 48) (by omega) (by omega) (by omega) (by omega)).2
  have h4 : (b - c) * (b - c) = (b + c) * (b + c) - 4 * (b * c) := by grind
  have h5 : b * c ≤ 576 := by omega
  have h6 := Gs.mb (u := a) (v := b * c) (U := 48) (V := 576) (by omega) (by omega) (by omega) (by omega)
  exact ⟨h1, h5, Int.mul_nonneg ha h1, by omega⟩
theorem m_bd {x y n m : Int} (U V : Int) (_hn : 0 ≤ U) (hx : -(U * n) ≤ x ∧ x ≤ U * n) (hy : -(V * m) ≤ y ∧ y ≤ V * m) : -(U * V * (n * m)) ≤ x * y ∧ x * y ≤ U * V * (n * m) := by
  have h := Gs.mb hx.1 hx.2 hy.1 hy.2
  have e : U * n * (V * m) = U * V * (n * m) := by grind
  rw [e] at h
  exact h
theorem wh_small {ps : List Gs.Sup} (ho : Gs.okA ps = true) (hn : ps.length ≤ 48) : -2849934139195392 ≤ Gs.wh ps ∧ Gs.wh ps ≤ 2849934139195392 := by
  have l := Gs.cN_len ho
  have n0 := Gs.cN_nonneg 0 ps
  have n1 := Gs.cN_nonneg 1 ps
  have n2 := Gs.cN_nonneg 2 ps
  have x0 := Gs.cX_bd 0 ho
  have x1 := Gs.cX_bd 1 ho
  have x2 := Gs.cX_bd 2 ho
  have y0 := Gs.cY_bd 0 ho
  have y1 := Gs.cY_bd 1 ho
  have y2 := Gs.cY_bd 2 ho
  unfold Gs.wh Gs.dt
  generalize Gs.cN 0 ps = a at *
  generalize Gs.cN 1 ps = b at *
  generalize Gs.cN 2 ps = c at *
  generalize Gs.cX 0 ps = xa at *
  generalize Gs.cX 1 ps = xb at *
  generalize Gs.cX 2 ps = xc at *
  generalize Gs.cY 0 ps = ya at *
  generalize Gs.cY 1 ps = yb at *
  generalize Gs.cY 2 ps = yc at *
  obtain ⟨p1, p2, p3, p4⟩ := prod_bd n0 n1 n2 (by omega)
  have q1 := m_bd 131072 131072 (by omega) x1 y2
  have q2 := m_bd 131072 131072 (by omega) y1 x2
  have q3 := m_bd (x := yb) (y := c) (n := b) (m := c) 131072 1 (by omega) y1 (by omega)
  have q4 := m_bd (x := b) (y := yc) (n := b) (m := c) 1 131072 (by omega) (by omega) y2
  have q5 := m_bd (x := b) (y := xc) (n := b) (m := c) 1 131072 (by omega) (by omega) x2
  have q6 := m_bd (x := xb) (y := c) (n := b) (m := c) 131072 1 (by omega) x1 (by omega)
  have r1 := m_bd (x := a) (y := xb * yc - yb * xc) (n := a) (m := b * c) 1 34359738368 (by omega) (by omega) (by omega)
  have r2 := m_bd (x := xa) (y := yb * c - b * yc) (n := a) (m := b * c) 131072 262144 (by omega) x0 (by omega)
  have r3 := m_bd (x := ya) (y := b * xc - xb * c) (n := a) (m := b * c) 131072 262144 (by omega) y0 (by omega)
  omega
theorem paD_bd {ps : List Gs.Sup} (h : chE ps = 0) : 1 ≤ paD ps ∧ paD ps ≤ 2849934139195392 := by
  obtain ⟨o1, o2, o3, o4⟩ := chE_ok h
  have b := wh_small o1 o2
  unfold paD
  rcases Int.lt_or_gt_of_ne o4 with x | x
  · rw [pv_neg x]; omega
  · rw [pv_pos x]; omega
theorem dv_bd {p l D : Int} (hD : 1 ≤ D) (hp : -(1024 * D) ≤ p ∧ p ≤ 1024 * D) (hl : -983040 ≤ l ∧ l ≤ 983040) : -1006632960 ≤ p * l / D ∧ p * l / D ≤ 1006632960 := by
  have h := Gs.mb hp.1 hp.2 hl.1 hl.2
  have e : 1024 * D * 983040 = 1006632960 * D := by omega
  rw [e] at h
  refine ⟨(Int.le_ediv_iff_mul_le (by omega)).2 (by omega), ?_⟩
  have := (Int.ediv_lt_iff_lt_mul (a := p * l) (b := 1006632961) (show 0 < D by omega)).2 (by omega)
  omega
/-- A part is beyond. -/
def ov (p D : Int) : Bool := decide (1024 * D < amt p)
theorem ov_no {p D : Int} (h : ov p D = false) : -(1024 * D) ≤ p ∧ p ≤ 1024 * D := by
  unfold ov at h
  rw [decide_eq_false_iff_not] at h
  unfold amt at h
  split at h <;> omega
def hoB (ps : List Gs.Sup) (X Y : Int) : Bool := ov (pa0 ps X Y) (paD ps) || (ov (pa1 ps X Y) (paD ps) || ov (pa2 ps X Y) (paD ps))
def hoE (ps : List Gs.Sup) (X Y : Int) : Int := if hoB ps X Y then 4 else 0
def hoS (ps : List Gs.Sup) (X Y l0 l1 l2 : Int) : Int := pa0 ps X Y * l0 / paD ps + pa1 ps X Y * l1 / paD ps + pa2 ps X Y * l2 / paD ps
def hoV (ps : List Gs.Sup) (X Y l0 l1 l2 : Int) : Int := if hoB ps X Y then 0 else hoS ps X Y l0 l1 l2
end Go.Proofs.YtooochbfnmmnkaaGreat
set_option linter.unusedVariables false
namespace Go.Proofs.YtooochbfnmmnkaaGreat
open Go.RowKit Go.Proofs.Gn
theorem own_upI {W W' : World} {base e size n : Nat} {v : Value} {xs : List Value} (h : W.ownsRow base e size v n xs) (hu : Up W W') : W'.ownsRow base e size v n xs := by
  rcases h with ⟨hl, h | ⟨g, cap, cur, rfl, hb, hg, h⟩⟩
  · exact ⟨hl, .inl h⟩
  · refine ⟨hl, .inr ⟨g, cap, cur, rfl, hb, ?_, h⟩⟩
    rw [hu.block g (Array.getElem?_eq_some_iff.1 hg).1]
    exact hg
def cellsI (l : List Int) : List Value := l.map fun x => .int .i64 x
theorem cellsI_snoc (l : List Int) (x : Int) : cellsI (l ++ [x]) = cellsI l ++ [.int .i64 x] := by simp [cellsI]
theorem cellsI_length (l : List Int) : (cellsI l).length = l.length := by simp [cellsI]
theorem info_i64I : (Tryz.prog.info? 2).map (fun i => (i.zero, i.size, i.bytes)) = some (some (.int .i64 0), 1, 8) := by kernel_rfl
theorem one_newI (W : World) (x : Value) (t : TypeId) : ∀ j u, [x][j]? = some u → (W.alloc (.cells #[x] t)).cell? ((⟨W.heap.size, 0, none⟩ : Addr).add j) = some u := by
  intro j u hj
  have b := bx_new W [x] t
  match j, hj with
  | 0, hj => simp at hj; subst hj; exact bx1 b
  | (j + 1), hj => simp at hj
theorem own_ints {W : World} {base e n : Nat} {v : Value} {l : List Int} (h : W.ownsRow base e 1 v n (cellsI l)) : ∃ A cap, v = .slice A l.length cap ∧ Ints W A l := by
  have hn : n = l.length := by
    have hl : (cellsI l).length = n * 1 := h.1
    rw [cellsI_length] at hl
    omega
  subst hn
  rcases h.2 with ⟨h1, h2⟩ | ⟨g, cap, cur, rfl, _⟩
  · have e0 : l = [] := by cases l with
      | nil => rfl
      | cons a l => simp at h2
    subst e0
    exact ⟨_, _, h1, .inl rfl⟩
  · refine ⟨_, _, rfl, .inr ⟨g, 0, rfl, fun k hk => ?_⟩⟩
    rw [Nat.zero_add, h.cellAt k (by omega)]
    simp [cellsI, hk]
theorem own_grown {w W W' w1 : World} {v v' : Value} {k e : Nat} {xs ys : List Value} (ho : W'.ownsRow w.heap.size e 1 v k xs) (hb : Up w W) (hg : W.grownBy w1 v.ownBlock) : Up w w1 :=
  hb.grown hg hb.size fun j hj => (ho.lt j hj).1
/-- K is the first of n steps that fails, or n. -/
def Fsn (n : Nat) (s : Nat → Bool) (K : Nat) : Prop := K ≤ n ∧ (∀ j, j < K → s j = false) ∧ (K < n → s K = true)
theorem fsn_ex (n : Nat) (s : Nat → Bool) : ∃ K, Fsn n s K := by
  have h : ∀ m, m ≤ n → (∃ K, Fsn n s K) ∨ ∀ j, j < m → s j = false := by
    intro m
    induction m with
    | zero => exact fun _ => .inr (fun j hj => absurd hj (by omega))
    | succ m ih =>
      intro hn
      rcases ih (by omega) with h | h
      · exact .inl h
      · cases hs : s m
        · refine .inr (fun j hj => ?_)
          by_cases e : j = m
          · subst e; exact hs
          · exact h j (by omega)
        · exact .inl ⟨m, by omega, h, fun _ => hs⟩
  rcases h n (by omega) with h | h
  · exact h
  · exact ⟨n, by omega, h, fun hx => absurd hx (by omega)⟩
theorem fsn_stop {n : Nat} {s : Nat → Bool} {K k : Nat} (h : Fsn n s K) (hk : k ≤ K) (hs : s k = true) : k = K := by
  by_cases e : k < K
  · rw [h.2.1 k e] at hs; cases hs
  · omega
theorem fsn_go {n : Nat} {s : Nat → Bool} {K k : Nat} (h : Fsn n s K) (hk : k ≤ K) (hl : k < n) (hs : s k = false) : k < K := by
  by_cases e : k < K
  · exact e
  · obtain rfl : k = K := by omega
    rw [h.2.2 hl] at hs; cases hs
theorem at_xi {F : Act → World → Prop} {a : Act} {w : World} (h : ∀ W, W = w → F a W) : F a w := h w rfl
end Go.Proofs.YtooochbfnmmnkaaGreat
namespace Go.Proofs.YtooochbfnmmnkaaGreat
open Go.RowKit Go.Proofs.Gn
theorem up_bd0 {n d t : Int} (hn : 0 ≤ n) (hd : 1 ≤ d) (ht : 0 ≤ t ∧ t ≤ d) : 0 ≤ up n d t ∧ up n d t ≤ n := by
  unfold up
  have a : n * t ≤ n * d := Int.mul_le_mul_of_nonneg_left ht.2 hn
  have b : 0 ≤ n * t := Int.mul_nonneg hn ht.1
  have e : n * -t = -(n * t) := by rw [Int.mul_neg]
  rw [e]
  have c : -n ≤ -(n * t) / d := (Int.le_ediv_iff_mul_le (by omega)).2 (by rw [Int.neg_mul]; omega)
  have g : -(n * t) / d ≤ 0 := by
    have := Int.ediv_le_ediv (c := d) (by omega) (show -(n * t) ≤ 0 by omega)
    simpa using this
  omega
/-- What unit i carries. -/
def caI (f t : Nat) (m P Q : Int) (i : Nat) : Int := if f = t then (if i = f then m else 0) else (if i = f then P else if i = t then Q else 0)
def rep (n : Nat) : List Value := List.replicate n (.int .i64 0)
def caL (n f t : Nat) (m P Q : Int) : List Value := if f = t then (rep n).set f (.int .i64 m) else ((rep n).set f (.int .i64 P)).set t (.int .i64 Q)
theorem made_rep (n : Nat) : madeCells #[.int .i64 0] n = (rep n).toArray := by
  apply Array.ext
  · simp [size_madeCells, rep]
  · intro i h1 h2
    simp [madeCells, rep, Nat.mod_one]
theorem caL_get {n f t : Nat} {m P Q : Int} {i : Nat} (hi : i < n) (hf : f < n) (ht : t < n) : (caL n f t m P Q)[i]? = some (.int .i64 (caI f t m P Q i)) := by
  unfold caL caI rep
  by_cases h : f = t
  · rw [if_pos h, if_pos h, List.getElem?_set]
    by_cases e : f = i
    · rw [if_pos e, if_pos (by simpa using hf), if_pos e.symm]
    · rw [if_neg e, if_neg (fun x => e x.symm)]; simp [hi]
  · rw [if_neg h, if_neg h, List.getElem?_set, List.getElem?_set]
    by_cases e : t = i
    · rw [if_pos e, if_pos (by simpa using ht), if_neg (fun x => h (x.symm.trans e.symm)), if_pos e.symm]
    · rw [if_neg e]
      by_cases e2 : f = i
      · rw [if_pos e2, if_pos (by simpa using hf), if_pos e2.symm]
      · rw [if_neg e2, if_neg (fun x => e2 x.symm), if_neg (fun x => e x.symm)]; simp [hi]
theorem rep_len (n : Nat) : (rep n).length = n := by unfold rep; simp
theorem bx_at {W : World} {b : Nat} {vs : List Value} (h : Bx W b vs) {i : Nat} (hi : i < vs.length) : W.cell? ⟨b, i, none⟩ = some vs[i] ∧ W.frozen? ⟨b, i, none⟩ = false := h i _ (List.getElem?_eq_getElem hi)
end Go.Proofs.YtooochbfnmmnkaaGreat
namespace Go.Proofs.YtooochbfnmmnkaaGreat
open Go.RowKit Go.Proofs.Gn
def eaV (us : List Unt) (f t : Nat) (m P Q : Int) (k : Nat) : Int := match us[k]? with
  | some u => up (u.ma + caI f t m P Q k) u.xs.length 1
  | none => 0
def heX (e : Int) (xs : List Axl) : Bool := xs.any fun a => decide (a.lim < e)
def eaN (us : List Unt) (f t : Nat) (m P Q : Int) (k : Nat) : Bool := match us[k]? with
  | some u => heX (eaV us f t m P Q k) u.xs
  | none => false
theorem eaV_at {us : List Unt} {f t : Nat} {m P Q : Int} {k : Nat} (h : k < us.length) : eaV us f t m P Q k = up (us[k].ma + caI f t m P Q k) us[k].xs.length 1 := by
  unfold eaV; rw [List.getElem?_eq_getElem h]
theorem eaN_at {us : List Unt} {f t : Nat} {m P Q : Int} {k : Nat} (h : k < us.length) : eaN us f t m P Q k = heX (eaV us f t m P Q k) us[k].xs := by
  unfold eaN; rw [List.getElem?_eq_getElem h]
theorem heX_step {e : Int} {xs : List Axl} {j : Nat} (h : j < xs.length) : heX e (xs.drop j) = (decide (xs[j].lim < e) || heX e (xs.drop (j + 1))) := any_step h
def axR (us : List Unt) (f t : Nat) (m P Q : Int) (k : Nat) : List Int := (List.range k).map (eaV us f t m P Q)
theorem axR_succ (us : List Unt) (f t : Nat) (m P Q : Int) (k : Nat) : axR us f t m P Q (k + 1) = axR us f t m P Q k ++ [eaV us f t m P Q k] := by
  unfold axR; rw [List.range_succ, List.map_append]; rfl
theorem axR_len (us : List Unt) (f t : Nat) (m P Q : Int) (k : Nat) : (axR us f t m P Q k).length = k := by unfold axR; simp
/-- Which error there is, K being the first unit that is loaded too much. -/
def axF (E m L u : Int) (n K : Nat) : Int := if E = 0 then (if msE m = 0 then (if win L 1 16777216 then (if win u 0 L then (if K < n then 14 else 0) else 19) else 3) else 3) else E
def axLs (E : Int) (us : List Unt) (f t : Nat) (m L u : Int) (K : Nat) : List Int := if axF E m L u us.length K = 0 then axR us f t m (up m L (L - u)) (up m L u) us.length else []
theorem p_winS (n a b : Int) (w : World) : Calls Tryz.prog 37 #[.int .i64 n, .int .i64 a, .int .i64 b] w fun e w' => e = .returned (.bool (win n a b)) ∧ w = w' := p_within n a b w
theorem ve_ok {s : ByteArray} {us : List Unt} {f t : Int} (h : veE s us f t = 0) : us.length ≤ 12 ∧ us.all okU = true ∧ us.any bigU = false ∧ 0 ≤ f ∧ f ≤ t ∧ t < us.length := by
  unfold veE at h
  split at h
  · cases h
  · rename_i h1
    split at h
    · rename_i h2
      simp only [Bool.and_eq_true, win_iff, decide_eq_true_eq, auV] at h2
      unfold tmV at h1
      simp only [Bool.or_eq_true, not_or, decide_eq_true_eq, Bool.not_eq_true] at h1
      obtain ⟨_, ⟨a, _⟩, ⟨b, c⟩, d⟩ := h2
      exact ⟨by omega, a, h1.2, b, c, d⟩
    · cases h
theorem okU_get {us : List Unt} (h : us.all okU = true) {k : Nat} (hk : k < us.length) : (1 ≤ us[k].ma ∧ us[k].ma ≤ 1048576) ∧ 0 < us[k].xs.length := by
  have t := List.all_eq_true.1 h _ (List.getElem_mem hk)
  unfold okU axU at t
  simp only [Bool.and_eq_true, decide_eq_true_eq] at t
  exact ⟨(szU_bd t.1).2.2.2.2.2.2.2.1, t.2.2⟩
theorem big_get {us : List Unt} (h : us.any bigU = false) {k : Nat} (hk : k < us.length) : us[k].xs.length ≤ 24 := by
  rw [List.any_eq_false] at h
  have t := h _ (List.getElem_mem hk)
  unfold bigU at t
  simp only [decide_eq_true_eq] at t
  omega
theorem caI_bd {f t : Nat} {m P Q : Int} (hm : 1 ≤ m ∧ m ≤ 16777216) (hP : 0 ≤ P ∧ P ≤ m) (hQ : 0 ≤ Q ∧ Q ≤ m) (k : Nat) : 0 ≤ caI f t m P Q k ∧ caI f t m P Q k ≤ 16777216 := by
  unfold caI
  split <;> split <;> (try split) <;> omega
theorem ms_ok {m : Int} (h : msE m = 0) : 1 ≤ m ∧ m ≤ 16777216 := by
  unfold msE at h
  split at h
  · rename_i h1; exact (win_iff _ _ _).1 h1
  · cases h
theorem ms_no {m : Int} (h : ¬ msE m = 0) : msE m = 3 := by
  unfold msE at h ⊢
  split
  · rename_i h1; rw [if_pos h1] at h; exact absurd rfl h
  · rfl
theorem ax_len {E : Int} {us : List Unt} {f t : Nat} {m L u : Int} {K : Nat} (h : ¬ axF E m L u us.length K = 0) : axLs E us f t m L u K = [] := by unfold axLs; rw [if_neg h]
end Go.Proofs.YtooochbfnmmnkaaGreat
namespace Go.Proofs.YtooochbfnmmnkaaGreat
open Go.RowKit Go.Proofs.Gn
set_option linter.unusedVariables false
def mav (us : List Unt) : Int := (us.map (·.ma)).sum
def maV (s : ByteArray) (us : List Unt) (f t : Int) : Int := if veE s us f t = 0 then mav us else 0
theorem mav_take {us : List Unt} {k : Nat} (h : k < us.length) : mav (us.take (k + 1)) = mav (us.take k) + us[k].ma := by
  unfold mav
  rw [List.take_succ_eq_append_getElem h, List.map_append, List.sum_append]
  simp
theorem mav_bd {us : List Unt} (h : us.all okU = true) : ∀ k, k ≤ us.length → 0 ≤ mav (us.take k) ∧ mav (us.take k) ≤ k * 1048576 := by
  intro k
  induction k with
  | zero => intro _; simp [mav]
  | succ k ih =>
    intro hk
    have a := ih (by omega)
    have b := okU_get h (k := k) (by omega)
    rw [mav_take (show k < us.length by omega)]
    omega
end Go.Proofs.YtooochbfnmmnkaaGreat
