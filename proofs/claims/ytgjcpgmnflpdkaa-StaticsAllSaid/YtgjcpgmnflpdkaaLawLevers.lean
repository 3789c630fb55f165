/- StaticsLevers: the law's function returns true. -/
import Derived.Test.YtgjcpgmnflpdkaaKnown
namespace Go.Proofs.Ytgjcpgmnflpdkaa
open Go.RowKit Go.Proofs.Gn
theorem up_spec {m d t : Int} (hd : 0 < d) : m * t ≤ up m d t * d ∧ up m d t * d < m * t + d := by
  have e := ediv_spec (n := m * -t) hd
  unfold up
  rw [Int.neg_mul]
  rw [Int.mul_neg] at *
  omega
theorem up_mono {m d s t : Int} (hd : 0 < d) (hm : 0 ≤ m) (h : s ≤ t) : up m d s ≤ up m d t := by
  have a := up_spec (m := m) (t := s) hd
  have b := up_spec (m := m) (t := t) hd
  have c : m * s ≤ m * t := Int.mul_le_mul_of_nonneg_left h hm
  apply Decidable.byContradiction
  intro hn
  have k : (up m d t + 1) * d ≤ up m d s * d := Int.mul_le_mul_of_nonneg_right (by omega) (by omega)
  rw [Int.add_mul] at k
  omega
theorem up_nonneg {m d t : Int} (hd : 0 < d) (hm : 0 ≤ m) (h : 0 ≤ t) : 0 ≤ up m d t := by
  have a := up_spec (m := m) (t := t) hd
  have c : 0 ≤ m * t := Int.mul_nonneg hm h
  apply Decidable.byContradiction
  intro hn
  have k : up m d t * d ≤ (-1) * d := Int.mul_le_mul_of_nonneg_right (by omega) (by omega)
  omega
theorem lev_facts {m a b x : Int} (h : leE m a b x = 0) : (1 ≤ m ∧ m ≤ 16777216) ∧ (-16777216 ≤ a ∧ a < b ∧ b ≤ 16777216 ∧ a ≤ x ∧ x ≤ b) ∧ 0 ≤ leM m a b x ∧ 0 ≤ leN m a b x ∧ m ≤ leM m a b x + leN m a b x ∧ leM m a b x + leN m a b x ≤ m + 1 ∧ (x - a ≤ b - x → leN m a b x ≤ leM m a b x) ∧ (b - x ≤ x - a → leM m a b x ≤ leN m a b x) := by
  unfold leM leN
  rw [if_pos h, if_pos h]
  unfold leE at h
  split at h
  · rename_i h1
    split at h
    · rename_i h2
      split at h
      · cases h
      · split at h
        · rename_i h3 h4
          rw [win_iff] at h1 h4
          simp only [Bool.and_eq_true] at h2
          unfold plc at h2
          rw [win_iff, win_iff, win_iff] at h2
          have hd : 0 < b - a := by omega
          have s1 := up_spec (m := m) (t := b - a - (x - a)) hd
          have s2 := up_spec (m := m) (t := x - a) hd
          have n1 := up_nonneg (m := m) (t := b - a - (x - a)) hd (by omega) (by omega)
          have n2 := up_nonneg (m := m) (t := x - a) hd (by omega) (by omega)
          have e : m * (b - a - (x - a)) + m * (x - a) = m * (b - a) := by rw [← Int.mul_add]; congr 1; omega
          have e2 : (up m (b - a) (b - a - (x - a)) + up m (b - a) (x - a)) * (b - a) = up m (b - a) (b - a - (x - a)) * (b - a) + up m (b - a) (x - a) * (b - a) := Int.add_mul _ _ _
          refine ⟨h1, by omega, n1, n2, ?_, ?_, fun hx => up_mono hd (by omega) (by omega), fun hx => up_mono hd (by omega) (by omega)⟩
          · refine Int.le_of_mul_le_mul_right (?_ : m * (b - a) ≤ _) hd
            rw [e2]; omega
          · apply Decidable.byContradiction
            intro hn
            have k : (m + 2) * (b - a) ≤ (up m (b - a) (b - a - (x - a)) + up m (b - a) (x - a)) * (b - a) := Int.mul_le_mul_of_nonneg_right (by omega) (by omega)
            rw [e2, Int.add_mul] at k
            omega
        · cases h
    · cases h
  · cases h
theorem lev_none {m a b x : Int} (h : ¬ leE m a b x = 0) : leM m a b x = 0 ∧ leN m a b x = 0 := by
  unfold leM leN
  rw [if_neg h, if_neg h]
  exact ⟨rfl, rfl⟩
set_option maxHeartbeats 2000000 in
theorem l_Levers (m a b x : Int) (w : World) :
    Calls Try.prog 3 #[.int .i64 m, .int .i64 a, .int .i64 b, .int .i64 x] w fun e w' => e = .returned (.bool true) ∧ Below w.heap.size w w' := by
  have HL := hide (fun W => p_Lever m a b x W)
  have f1 := hide (fun h => lev_facts (m := m) (a := a) (b := b) (x := x) h)
  have f2 := hide (fun h => lev_none (m := m) (a := a) (b := b) (x := x) h)
  generalize leM m a b x = M at *
  generalize leN m a b x = N at *
  generalize leE m a b x = E at *
  by_cases c : E = 0
  · subst c
    obtain ⟨⟨b1, b2⟩, ⟨b3, b4, b5, b6, b7⟩, b8, b9, b10, b11, b12, b13⟩ := unhide f1 rfl
    clear f1 f2
    rcases (show x - a < b - x ∨ x - a = b - x ∨ b - x < x - a by omega) with d | d | d
    · have d2 := b12 (by omega)
      have d3 : (x - a == b - x) = false := by simp; omega
      clear b12 b13
      go_enter Try.func3, Try.ntmps3
      go_wp2_with (first | (go_at_call 14; (with_reducible refine (unhide HL _).mono ?_); rintro e w1 ⟨rfl, hb1⟩) | (go_at_call 15; refine (l_known _).mono ?_; rintro e w2 ⟨rfl, hb2⟩))
      go_ret
      exact ⟨rfl, (by repeat' (first | (with_reducible exact up_refl _) | (with_reducible assumption) | (with_reducible refine up_alloc ?_ _) | (with_reducible refine up_drewN ?_ _) | (with_reducible refine up_drew ?_) | (with_reducible refine up_set ?_ (by first | (simp; done) | (simp; omega) | omega) _) | (refine up_trans ?_ (by with_reducible assumption))))⟩
    · have d2 : M = N := by have := b12 (by omega); have := b13 (by omega); omega
      have d3 : (x - a == b - x) = true := by simp; omega
      subst d2
      clear b12 b13
      go_enter Try.func3, Try.ntmps3
      go_wp2_with (first | (go_at_call 14; (with_reducible refine (unhide HL _).mono ?_); rintro e w1 ⟨rfl, hb1⟩) | (go_at_call 15; refine (l_known _).mono ?_; rintro e w2 ⟨rfl, hb2⟩))
      go_ret
      exact ⟨rfl, (by repeat' (first | (with_reducible exact up_refl _) | (with_reducible assumption) | (with_reducible refine up_alloc ?_ _) | (with_reducible refine up_drewN ?_ _) | (with_reducible refine up_drew ?_) | (with_reducible refine up_set ?_ (by first | (simp; done) | (simp; omega) | omega) _) | (refine up_trans ?_ (by with_reducible assumption))))⟩
    · have d2 := b13 (by omega)
      have d3 : (x - a == b - x) = false := by simp; omega
      clear b12 b13
      go_enter Try.func3, Try.ntmps3
      go_wp2_with (first | (go_at_call 14; (with_reducible refine (unhide HL _).mono ?_); rintro e w1 ⟨rfl, hb1⟩) | (go_at_call 15; refine (l_known _).mono ?_; rintro e w2 ⟨rfl, hb2⟩))
      go_ret
      exact ⟨rfl, (by repeat' (first | (with_reducible exact up_refl _) | (with_reducible assumption) | (with_reducible refine up_alloc ?_ _) | (with_reducible refine up_drewN ?_ _) | (with_reducible refine up_drew ?_) | (with_reducible refine up_set ?_ (by first | (simp; done) | (simp; omega) | omega) _) | (refine up_trans ?_ (by with_reducible assumption))))⟩
  · obtain ⟨rfl, rfl⟩ := unhide f2 c
    have c2 : (E == 0) = false := by simp; exact c
    clear f1 f2
    go_enter Try.func3, Try.ntmps3
    go_wp2_with (first | (go_at_call 14; (with_reducible refine (unhide HL _).mono ?_); rintro e w1 ⟨rfl, hb1⟩) | (go_at_call 15; refine (l_known _).mono ?_; rintro e w2 ⟨rfl, hb2⟩))
    go_ret
    exact ⟨rfl, (by repeat' (first | (with_reducible exact up_refl _) | (with_reducible assumption) | (with_reducible refine up_alloc ?_ _) | (with_reducible refine up_drewN ?_ _) | (with_reducible refine up_drew ?_) | (with_reducible refine up_set ?_ (by first | (simp; done) | (simp; omega) | omega) _) | (refine up_trans ?_ (by with_reducible assumption))))⟩
end Go.Proofs.Ytgjcpgmnflpdkaa
