/- StaticsAll: the law's function returns true. -/
import Derived.Test.YtgjcpgmnflpdkaaLawLevers
namespace Go.Proofs.Ytgjcpgmnflpdkaa
open Go.RowKit Go.Proofs.Gn
theorem up_more {m k d t : Int} (hd : 0 < d) (hk : 0 ≤ k) (h : 0 ≤ t) : up m d t ≤ up (m + k) d t := by
  have a := up_spec (m := m) (t := t) hd
  have b := up_spec (m := m + k) (t := t) hd
  have c : m * t ≤ (m + k) * t := Int.mul_le_mul_of_nonneg_right (by omega) h
  apply Decidable.byContradiction
  intro hn
  have j : (up (m + k) d t + 1) * d ≤ up m d t * d := Int.mul_le_mul_of_nonneg_right (by omega) (by omega)
  rw [Int.add_mul] at j
  omega
theorem up_le {m d t : Int} (hd : 0 < d) (hm : 0 ≤ m) (h : t ≤ d) : up m d t ≤ m := by
  have a := up_spec (m := m) (t := t) hd
  have c : m * t ≤ m * d := Int.mul_le_mul_of_nonneg_left h hm
  apply Decidable.byContradiction
  intro hn
  have j : (m + 1) * d ≤ up m d t * d := Int.mul_le_mul_of_nonneg_right (by omega) (by omega)
  rw [Int.add_mul] at j
  omega
theorem sum_up {m D l0 l1 l2 n0 n1 n2 N : Int} (hD : 0 < D) (h0 : 0 ≤ n0) (h1 : 0 ≤ n1) (h2 : 0 ≤ n2) (hs : l0 * n0 + l1 * n1 + l2 * n2 = D) (hN : n0 + n1 + n2 = N) :
    m ≤ up m D l0 * n0 + up m D l1 * n1 + up m D l2 * n2 ∧ up m D l0 * n0 + up m D l1 * n1 + up m D l2 * n2 ≤ m + N := by
  obtain ⟨a0, b0⟩ := up_spec (m := m) (t := l0) hD
  obtain ⟨a1, b1⟩ := up_spec (m := m) (t := l1) hD
  obtain ⟨a2, b2⟩ := up_spec (m := m) (t := l2) hD
  generalize up m D l0 = u0 at *
  generalize up m D l1 = u1 at *
  generalize up m D l2 = u2 at *
  have c0 : m * l0 * n0 ≤ u0 * D * n0 := Int.mul_le_mul_of_nonneg_right a0 h0
  have c1 : m * l1 * n1 ≤ u1 * D * n1 := Int.mul_le_mul_of_nonneg_right a1 h1
  have c2 : m * l2 * n2 ≤ u2 * D * n2 := Int.mul_le_mul_of_nonneg_right a2 h2
  have d0 : u0 * D * n0 ≤ (m * l0 + D) * n0 := Int.mul_le_mul_of_nonneg_right (by omega) h0
  have d1 : u1 * D * n1 ≤ (m * l1 + D) * n1 := Int.mul_le_mul_of_nonneg_right (by omega) h1
  have d2 : u2 * D * n2 ≤ (m * l2 + D) * n2 := Int.mul_le_mul_of_nonneg_right (by omega) h2
  have e : m * l0 * n0 + m * l1 * n1 + m * l2 * n2 = m * D := by rw [← hs]; grind
  have f : (u0 * n0 + u1 * n1 + u2 * n2) * D = u0 * D * n0 + u1 * D * n1 + u2 * D * n2 := by grind
  have g : (m * l0 + D) * n0 + (m * l1 + D) * n1 + (m * l2 + D) * n2 = m * D + N * D := by rw [← hN, ← e]; grind
  constructor
  · refine Int.le_of_mul_le_mul_right (?_ : m * D ≤ _) hD
    rw [f]; omega
  · refine Int.le_of_mul_le_mul_right (?_ : _ * D ≤ _) hD
    rw [f, Int.add_mul]; omega
theorem shE_ok {ps : List Gs.Sup} {m X Y : Int} (h : shE ps m X Y = 0) : boE ps m X Y = 0 ∧ ¬ 0 ≤ lif (pa0 ps X Y) (pa1 ps X Y) (pa2 ps X Y) := by
  unfold shE at h
  split at h
  · unfold uE at h
    split at h
    · cases h
    · exact ⟨by assumption, by assumption⟩
  · exact absurd h (by assumption)
theorem all_facts {ps : List Gs.Sup} {m X Y : Int} (h : shE ps m X Y = 0) : chE ps = 0 ∧ (1 ≤ m ∧ m ≤ 16777216) ∧ ((0 ≤ shV ps m X Y (up m (paD ps) (pa0 ps X Y)) ∧ shV ps m X Y (up m (paD ps) (pa0 ps X Y)) ≤ m) ∧ (0 ≤ shV ps m X Y (up m (paD ps) (pa1 ps X Y)) ∧ shV ps m X Y (up m (paD ps) (pa1 ps X Y)) ≤ m) ∧ (0 ≤ shV ps m X Y (up m (paD ps) (pa2 ps X Y)) ∧ shV ps m X Y (up m (paD ps) (pa2 ps X Y)) ≤ m)) ∧
    ((0 ≤ Gs.cN 0 ps ∧ Gs.cN 0 ps ≤ 48) ∧ (0 ≤ Gs.cN 1 ps ∧ Gs.cN 1 ps ≤ 48) ∧ (0 ≤ Gs.cN 2 ps ∧ Gs.cN 2 ps ≤ 48)) ∧
    (m ≤ shV ps m X Y (up m (paD ps) (pa0 ps X Y)) * Gs.cN 0 ps + shV ps m X Y (up m (paD ps) (pa1 ps X Y)) * Gs.cN 1 ps + shV ps m X Y (up m (paD ps) (pa2 ps X Y)) * Gs.cN 2 ps ∧ shV ps m X Y (up m (paD ps) (pa0 ps X Y)) * Gs.cN 0 ps + shV ps m X Y (up m (paD ps) (pa1 ps X Y)) * Gs.cN 1 ps + shV ps m X Y (up m (paD ps) (pa2 ps X Y)) * Gs.cN 2 ps ≤ m + ps.length) := by
  have hv : ∀ v, shV ps m X Y v = v := fun v => if_pos h
  simp only [hv]
  obtain ⟨h1, h2⟩ := shE_ok h
  obtain ⟨h3, m1, m2⟩ := boE_ok h1
  obtain ⟨o1, o2, o3, o4⟩ := chE_ok (atE_ok h3).1
  obtain ⟨⟨d1, d2⟩, b0, b1, b2⟩ := share_bd h3 h2
  obtain ⟨_, s2, _, _⟩ := pa_sum o4 X Y
  have e := Gs.cN_len o1
  have n0 := Gs.cN_nonneg 0 ps
  have n1 := Gs.cN_nonneg 1 ps
  have n2 := Gs.cN_nonneg 2 ps
  have hs := sum_up (m := m) (by omega : 0 < paD ps) n0 n1 n2 s2 e
  refine ⟨(atE_ok h3).1, ⟨m1, m2⟩, ⟨⟨up_nonneg (by omega) (by omega) b0.1, up_le (by omega) (by omega) b0.2⟩, ⟨up_nonneg (by omega) (by omega) b1.1, up_le (by omega) (by omega) b1.2⟩, ⟨up_nonneg (by omega) (by omega) b2.1, up_le (by omega) (by omega) b2.2⟩⟩, by omega, hs⟩
theorem all_more {ps : List Gs.Sup} {m k X Y : Int} (h : shE ps m X Y = 0) (hk : 0 ≤ k) (h' : shE ps (m + k) X Y = 0) :
    shV ps m X Y (up m (paD ps) (pa0 ps X Y)) ≤ shV ps (m + k) X Y (up (m + k) (paD ps) (pa0 ps X Y)) ∧ shV ps m X Y (up m (paD ps) (pa1 ps X Y)) ≤ shV ps (m + k) X Y (up (m + k) (paD ps) (pa1 ps X Y)) ∧ shV ps m X Y (up m (paD ps) (pa2 ps X Y)) ≤ shV ps (m + k) X Y (up (m + k) (paD ps) (pa2 ps X Y)) := by
  have hv : ∀ v, shV ps m X Y v = v := fun v => if_pos h
  have hw : ∀ v, shV ps (m + k) X Y v = v := fun v => if_pos h'
  simp only [hv, hw]
  obtain ⟨h1, h2⟩ := shE_ok h
  obtain ⟨h3, m1, m2⟩ := boE_ok h1
  obtain ⟨⟨d1, d2⟩, b0, b1, b2⟩ := share_bd h3 h2
  exact ⟨up_more (by omega) hk b0.1, up_more (by omega) hk b1.1, up_more (by omega) hk b2.1⟩
theorem all_err {ps : List Gs.Sup} {m k X Y : Int} (h : shE ps m X Y = 0) (h' : ¬ shE ps (m + k) X Y = 0) : shE ps (m + k) X Y = 14 ∨ shE ps (m + k) X Y = 3 := by
  obtain ⟨h1, h2⟩ := shE_ok h
  obtain ⟨h3, m1, m2⟩ := boE_ok h1
  obtain ⟨c1, c2⟩ := atE_ok h3
  unfold shE at h' ⊢
  by_cases hb : boE ps (m + k) X Y = 0
  · rw [if_pos hb] at h' ⊢
    unfold uE at h' ⊢
    rw [if_neg h2] at h' ⊢
    split at h'
    · exact absurd rfl h'
    · rename_i hf
      rw [if_neg hf]
      exact .inl rfl
  · rw [if_neg hb]
    right
    unfold boE at hb ⊢
    rw [if_pos c1] at hb ⊢
    split at hb
    · exact absurd c2 hb
    · rename_i hm
      rw [if_neg hm]
      unfold msE at hm ⊢
      split at hm
      · exact absurd rfl hm
      · rename_i hw
        rw [if_neg hw]
set_option maxHeartbeats 4000000 in
theorem l_All (A : Option Addr) (ps : List Gs.Sup) (cap : Nat) (m X Y k : Int) (w : World) (h : Sups w A ps) (hn : ps.length ≤ 9223372036854775807) (hk : 0 ≤ k ∧ k ≤ 65535) :
    Calls Try.prog 6 #[.slice A ps.length cap, .int .i64 m, pt X Y, .int .u16 k] w fun e w' => e = .returned (.bool true) ∧ Below w.heap.size w w' := by
  have hS := hide (fun (W : World) (hW : Up w W) => p_Shares A ps cap m X Y hn W (sups_up h hW))
  have hS2 := hide (fun (W : World) (hW : Up w W) => p_Shares A ps cap (m + k) X Y hn W (sups_up h hW))
  have hM := hide (fun (W : World) (hW : Up w W) => p_Sums A ps cap hn W (sups_up h hW))
  have f1 := hide (fun e => all_facts (ps := ps) (m := m) (X := X) (Y := Y) e)
  have f2 := hide (fun e e' => all_more (ps := ps) (m := m) (k := k) (X := X) (Y := Y) e hk.1 e')
  have f3 := hide (fun e e' => all_err (ps := ps) (m := m) (k := k) (X := X) (Y := Y) e e')
  have f4 := hide (fun (e : ¬ shE ps m X Y = 0) (v : Int) => (if_neg e : shV ps m X Y v = 0))
  unfold suV at hM
  clear h
  obtain ⟨n, hN⟩ : ∃ n, ps.length = n := ⟨_, rfl⟩
  rw [hN] at hS hS2 hM f1 hn ⊢
  clear hN
  by_cases cl : 48 < n
  · go_enter Try.func6, Try.ntmps6
    go_wp2_with (go_at_call 15; refine (l_known _).mono ?_; rintro e w2 ⟨rfl, hb2⟩)
    go_ret
    exact ⟨rfl, (by repeat' (first | (with_reducible exact up_refl _) | (with_reducible assumption) | (with_reducible refine up_alloc ?_ _) | (with_reducible refine up_drewN ?_ _) | (with_reducible refine up_drew ?_) | (with_reducible refine up_set ?_ (by first | (simp; done) | (simp; omega) | omega) _) | (refine up_trans ?_ (by with_reducible assumption))))⟩
  obtain ⟨k1, k2⟩ := hk
  by_cases cE : shE ps m X Y = 0
  · obtain ⟨hc, ⟨m1, m2⟩, ⟨⟨a1, a2⟩, ⟨a3, a4⟩, a5, a6⟩, ⟨⟨b1, b2⟩, ⟨b3, b4⟩, b5, b6⟩, s1, s2⟩ := unhide f1 cE
    have g2 := hide (unhide f2 cE)
    have g3 := hide (unhide f3 cE)
    clear f1 f2 f3 f4
    rw [cE] at hS
    simp only [if_pos hc] at hM
    rw [hc] at hM
    generalize shV ps m X Y (up m (paD ps) (pa0 ps X Y)) = u0 at *
    generalize shV ps m X Y (up m (paD ps) (pa1 ps X Y)) = u1 at *
    generalize shV ps m X Y (up m (paD ps) (pa2 ps X Y)) = u2 at *
    generalize shV ps (m + k) X Y (up (m + k) (paD ps) (pa0 ps X Y)) = v0 at *
    generalize shV ps (m + k) X Y (up (m + k) (paD ps) (pa1 ps X Y)) = v1 at *
    generalize shV ps (m + k) X Y (up (m + k) (paD ps) (pa2 ps X Y)) = v2 at *
    generalize shE ps (m + k) X Y = E2 at *
    generalize Gs.cN 0 ps = n0 at *
    generalize Gs.cX 0 ps = x0 at *
    generalize Gs.cY 0 ps = y0 at *
    generalize Gs.cN 1 ps = n1 at *
    generalize Gs.cX 1 ps = x1 at *
    generalize Gs.cY 1 ps = y1 at *
    generalize Gs.cN 2 ps = n2 at *
    generalize Gs.cX 2 ps = x2 at *
    generalize Gs.cY 2 ps = y2 at *
    have q0 := Gs.mb (u := u0) (v := n0) (U := 16777216) (V := 48) (by omega) (by omega) (by omega) (by omega)
    have q1 := Gs.mb (u := u1) (v := n1) (U := 16777216) (V := 48) (by omega) (by omega) (by omega) (by omega)
    have q2 := Gs.mb (u := u2) (v := n2) (U := 16777216) (V := 48) (by omega) (by omega) (by omega) (by omega)
    have q3 : 0 ≤ u0 * n0 := Int.mul_nonneg a1 b1
    have q4 : 0 ≤ u1 * n1 := Int.mul_nonneg a3 b3
    have q5 : 0 ≤ u2 * n2 := Int.mul_nonneg a5 b5
    obtain ⟨q6, q7⟩ := q0
    obtain ⟨q8, q9⟩ := q1
    obtain ⟨q10, q11⟩ := q2
    by_cases c2 : E2 = 0
    · obtain ⟨t0, t1, t2⟩ := unhide g2 c2
      subst c2
      clear g2 g3
      go_enter Try.func6, Try.ntmps6
      go_wp2_with (first | (go_at_call 20; (with_reducible refine (unhide hS _ (by repeat' (first | (with_reducible exact up_refl _) | (with_reducible assumption) | (with_reducible refine up_alloc ?_ _) | (with_reducible refine up_drewN ?_ _) | (with_reducible refine up_drew ?_) | (with_reducible refine up_set ?_ (by first | (simp; done) | (simp; omega) | omega) _) | (refine up_trans ?_ (by with_reducible assumption))))).mono ?_); rintro e w1 ⟨rfl, hb1⟩; have k0_0 : w1.cell? ⟨w.heap.size, 0, none⟩ = some (.int .i64 X) := up_cell hb1 (by first | (with_reducible assumption) | (refine alloc_cell _ ?_; with_reducible assumption) | go_cell); have k0_1 : w1.cell? ⟨w.heap.size, 1, none⟩ = some (.int .i64 Y) := up_cell hb1 (by first | (with_reducible assumption) | (refine alloc_cell _ ?_; with_reducible assumption) | go_cell); have k2 := fun o => alloc_cell o k0_0; have k3 := fun o => alloc_cell o k0_1; have B1 := bx_new w1 [.int .i64 u0, .int .i64 u1, .int .i64 u2] 30) | (go_at_call 16; (with_reducible refine (unhide hM _ (by repeat' (first | (with_reducible exact up_refl _) | (with_reducible assumption) | (with_reducible refine up_alloc ?_ _) | (with_reducible refine up_drewN ?_ _) | (with_reducible refine up_drew ?_) | (with_reducible refine up_set ?_ (by first | (simp; done) | (simp; omega) | omega) _) | (refine up_trans ?_ (by with_reducible assumption))))).mono ?_); rintro e w2 ⟨rfl, hb2⟩; have B2 := bx_up B1 hb2; obtain ⟨p0, p1, p2⟩ := bx3 B2; have r0 := fun o => alloc_cell o p0; have r1 := fun o => alloc_cell o p1; have r2 := fun o => alloc_cell o p2; have d0 := up_cell hb2 (k2 _); have d1 := up_cell hb2 (k3 _); have d2 := fun o => alloc_cell o d0; have d3 := fun o => alloc_cell o d1) | (go_at_call 20; (with_reducible refine (unhide hS2 _ (by repeat' (first | (with_reducible exact up_refl _) | (with_reducible assumption) | (with_reducible refine up_alloc ?_ _) | (with_reducible refine up_drewN ?_ _) | (with_reducible refine up_drew ?_) | (with_reducible refine up_set ?_ (by first | (simp; done) | (simp; omega) | omega) _) | (refine up_trans ?_ (by with_reducible assumption))))).mono ?_); rintro e w3 ⟨rfl, hb3⟩; have B3 := bx_up (bx_alloc B2 _) hb3; obtain ⟨p3, p4, p5⟩ := bx3 B3; have r3 := fun o => alloc_cell o p3; have r4 := fun o => alloc_cell o p4; have r5 := fun o => alloc_cell o p5) | (go_at_call 15; refine (l_known _).mono ?_; rintro e w5 ⟨rfl, hb5⟩))
      go_ret
      exact ⟨rfl, (by repeat' (first | (with_reducible exact up_refl _) | (with_reducible assumption) | (with_reducible refine up_alloc ?_ _) | (with_reducible refine up_drewN ?_ _) | (with_reducible refine up_drew ?_) | (with_reducible refine up_set ?_ (by first | (simp; done) | (simp; omega) | omega) _) | (refine up_trans ?_ (by with_reducible assumption))))⟩
    · have c3 : (E2 == 0) = false := by simp; exact c2
      rcases unhide g3 c2 with rfl | rfl
      all_goals
        clear g2 g3
        go_enter Try.func6, Try.ntmps6
        go_wp2_with (first | (go_at_call 20; (with_reducible refine (unhide hS _ (by repeat' (first | (with_reducible exact up_refl _) | (with_reducible assumption) | (with_reducible refine up_alloc ?_ _) | (with_reducible refine up_drewN ?_ _) | (with_reducible refine up_drew ?_) | (with_reducible refine up_set ?_ (by first | (simp; done) | (simp; omega) | omega) _) | (refine up_trans ?_ (by with_reducible assumption))))).mono ?_); rintro e w1 ⟨rfl, hb1⟩; have k0_0 : w1.cell? ⟨w.heap.size, 0, none⟩ = some (.int .i64 X) := up_cell hb1 (by first | (with_reducible assumption) | (refine alloc_cell _ ?_; with_reducible assumption) | go_cell); have k0_1 : w1.cell? ⟨w.heap.size, 1, none⟩ = some (.int .i64 Y) := up_cell hb1 (by first | (with_reducible assumption) | (refine alloc_cell _ ?_; with_reducible assumption) | go_cell); have k2 := fun o => alloc_cell o k0_0; have k3 := fun o => alloc_cell o k0_1; have B1 := bx_new w1 [.int .i64 u0, .int .i64 u1, .int .i64 u2] 30) | (go_at_call 16; (with_reducible refine (unhide hM _ (by repeat' (first | (with_reducible exact up_refl _) | (with_reducible assumption) | (with_reducible refine up_alloc ?_ _) | (with_reducible refine up_drewN ?_ _) | (with_reducible refine up_drew ?_) | (with_reducible refine up_set ?_ (by first | (simp; done) | (simp; omega) | omega) _) | (refine up_trans ?_ (by with_reducible assumption))))).mono ?_); rintro e w2 ⟨rfl, hb2⟩; have B2 := bx_up B1 hb2; obtain ⟨p0, p1, p2⟩ := bx3 B2; have r0 := fun o => alloc_cell o p0; have r1 := fun o => alloc_cell o p1; have r2 := fun o => alloc_cell o p2; have d0 := up_cell hb2 (k2 _); have d1 := up_cell hb2 (k3 _); have d2 := fun o => alloc_cell o d0; have d3 := fun o => alloc_cell o d1) | (go_at_call 20; (with_reducible refine (unhide hS2 _ (by repeat' (first | (with_reducible exact up_refl _) | (with_reducible assumption) | (with_reducible refine up_alloc ?_ _) | (with_reducible refine up_drewN ?_ _) | (with_reducible refine up_drew ?_) | (with_reducible refine up_set ?_ (by first | (simp; done) | (simp; omega) | omega) _) | (refine up_trans ?_ (by with_reducible assumption))))).mono ?_); rintro e w3 ⟨rfl, hb3⟩) | (go_at_call 15; refine (l_known _).mono ?_; rintro e w5 ⟨rfl, hb5⟩))
        go_ret
        exact ⟨rfl, (by repeat' (first | (with_reducible exact up_refl _) | (with_reducible assumption) | (with_reducible refine up_alloc ?_ _) | (with_reducible refine up_drewN ?_ _) | (with_reducible refine up_drew ?_) | (with_reducible refine up_set ?_ (by first | (simp; done) | (simp; omega) | omega) _) | (refine up_trans ?_ (by with_reducible assumption))))⟩
  · have hv : ∀ v, shV ps m X Y v = 0 := fun v => unhide f4 cE v
    simp only [hv] at hS
    clear f1 f2 f3 f4 hM hS2 hv
    generalize shE ps m X Y = E at *
    have c2 : (E == 0) = false := by simp; exact cE
    have hq := fun W => eq3_same 0 0 0 W
    go_enter Try.func6, Try.ntmps6
    go_wp2_with (first | (go_at_call 20; (with_reducible refine (unhide hS _ (by repeat' (first | (with_reducible exact up_refl _) | (with_reducible assumption) | (with_reducible refine up_alloc ?_ _) | (with_reducible refine up_drewN ?_ _) | (with_reducible refine up_drew ?_) | (with_reducible refine up_set ?_ (by first | (simp; done) | (simp; omega) | omega) _) | (refine up_trans ?_ (by with_reducible assumption))))).mono ?_); rintro e w1 ⟨rfl, hb1⟩) | (go_at_call 15; refine (l_known _).mono ?_; rintro e w5 ⟨rfl, hb5⟩))
    go_ret
    exact ⟨rfl, (by repeat' (first | (with_reducible exact up_refl _) | (with_reducible assumption) | (with_reducible refine up_alloc ?_ _) | (with_reducible refine up_drewN ?_ _) | (with_reducible refine up_drew ?_) | (with_reducible refine up_set ?_ (by first | (simp; done) | (simp; omega) | omega) _) | (refine up_trans ?_ (by with_reducible assumption))))⟩
end Go.Proofs.Ytgjcpgmnflpdkaa
