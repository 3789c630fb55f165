/- The document's own answers for trains and pavements. -/
import Derived.Test.YtdignnmhiifpgaaBrPD
namespace Go.Proofs.Ytdignnmhiifpgaa
open Go.RowKit Go.Proofs.Gn
set_option linter.unusedVariables false
theorem r_w6 (n lo hi : Int) (w : World) : Calls Try.prog 35 #[.int .i64 n, .int .i64 lo, .int .i64 hi] w fun e w' => e = .returned (.bool (win6 n lo hi)) ∧ w = w' := by
  by_cases h1 : lo ≤ n
  · have d1 : decide (n ≥ lo) = true := decide_eq_true h1
    by_cases h2 : n ≤ hi
    · rw [win6_mk ⟨h1, h2⟩]
      have d2 : decide (n ≤ hi) = true := decide_eq_true h2
      go_enter Try.func35, Try.ntmps35
      go_wp2
      go_ret
      exact ⟨by first | rfl | (simp [h1, h2]; done), rfl⟩
    · have e : win6 n lo hi = false := by simp [win6, h2]
      rw [e]
      have d2 : decide (n ≤ hi) = false := decide_eq_false h2
      go_enter Try.func35, Try.ntmps35
      go_wp2
      go_ret
      exact ⟨by first | rfl | (simp [h1, h2]; done), rfl⟩
  · have e : win6 n lo hi = false := by simp [win6, h1]
    rw [e]
    have d1 : decide (n ≥ lo) = false := decide_eq_false h1
    have d2 : decide (lo ≤ n) = false := decide_eq_false h1
    go_enter Try.func35, Try.ntmps35
    go_wp2
    go_ret
    exact ⟨by first | rfl | (simp [h1]; done), rfl⟩
theorem r_up6 (n d : Int) (w : World) (hn : 0 ≤ n ∧ n ≤ 4611686018427387904) (hd : 1 ≤ d ∧ d ≤ 2305843009213693952) :
    Calls Try.prog 42 #[.int .i64 n, .int .i64 d] w fun e w' => e = .returned (.int .i64 (up6 n d)) ∧ w = w' := by
  have w1 : IntKind.i64.wrap (n + d) = n + d := IntWalk.i64_in _ ⟨by omega, by omega⟩
  have w2 : IntKind.i64.wrap (n + d - 1) = n + d - 1 := IntWalk.i64_in _ ⟨by omega, by omega⟩
  have e1 : (n + d - 1).tdiv d = up6 n d := by unfold up6; exact Int.tdiv_eq_ediv_of_nonneg (by omega)
  have b := up6_bd hn.1 hd.1
  have w3 : IntKind.i64.wrap (up6 n d) = up6 n d := IntWalk.i64_in _ ⟨by omega, by omega⟩
  have w4 : IntKind.i64.wrap ((n + d - 1).tdiv d) = up6 n d := by rw [e1]; exact w3
  have d0 : d ≠ 0 := by omega
  have d1 : (d == 0) = false := by simp; omega
  clear b hn hd
  generalize up6 n d = u at *
  go_enter Try.func42, Try.ntmps42
  go_wp2
  go_ret
  exact ⟨by first | rfl | (rw [w4]; rfl) | (rw [e1]; rfl), rfl⟩
theorem pvE_w (p : Pav) : pvE p = if win6 p.ld 1 1048576 = true ∧ win6 p.lf 1 1048576 = true ∧ 1 ≤ p.pw ∧ p.pw ≤ 6 then 0 else 2 := by
  unfold pvE
  cases win6 p.ld 1 1048576 <;> cases win6 p.lf 1 1048576 <;> simp [win6]
set_option maxHeartbeats 2000000 in
theorem r_CheckPav (p : Pav) (w : World) :
    Calls Try.prog 19 #[pvV p] w fun e w' => e = .returned (.int .i64 (pvE p)) ∧ Up w w' := by
  rw [pvE_w]
  unfold pvV
  have H1 := hide (fun W => r_w6 p.ld 1 1048576 W)
  have H2 := hide (fun W => r_w6 p.lf 1 1048576 W)
  obtain ⟨ld, lf, pw⟩ := p
  dsimp only at *
  generalize win6 ld 1 1048576 = r1 at *
  generalize win6 lf 1 1048576 = r2 at *
  cases r1
  · rw [if_neg (by simp)]
    go_enter Try.func19, Try.ntmps19
    go_wp2_with (first | (go_at_call 35; (with_reducible refine (unhide H1 _).mono ?_); rintro e w1 ⟨rfl, rfl⟩) | (go_at_call 35; (with_reducible refine (unhide H2 _).mono ?_); rintro e w1 ⟨rfl, rfl⟩))
    go_ret
    exact ⟨rfl, (by repeat' (first | (with_reducible exact up_refl _) | (with_reducible assumption) | (with_reducible refine up_alloc ?_ _) | (with_reducible refine up_drewN ?_ _) | (with_reducible refine up_drew ?_) | (with_reducible refine up_set ?_ (by first | (simp; done) | (simp; omega) | omega) _) | (refine up_trans ?_ (by with_reducible assumption))))⟩
  cases r2
  · rw [if_neg (by simp)]
    go_enter Try.func19, Try.ntmps19
    go_wp2_with (first | (go_at_call 35; (with_reducible refine (unhide H1 _).mono ?_); rintro e w1 ⟨rfl, rfl⟩) | (go_at_call 35; (with_reducible refine (unhide H2 _).mono ?_); rintro e w1 ⟨rfl, rfl⟩))
    go_ret
    exact ⟨rfl, (by repeat' (first | (with_reducible exact up_refl _) | (with_reducible assumption) | (with_reducible refine up_alloc ?_ _) | (with_reducible refine up_drewN ?_ _) | (with_reducible refine up_drew ?_) | (with_reducible refine up_set ?_ (by first | (simp; done) | (simp; omega) | omega) _) | (refine up_trans ?_ (by with_reducible assumption))))⟩
  by_cases h1 : 1 ≤ pw
  · have d1 : decide (pw < 1) = false := decide_eq_false (by omega)
    by_cases h2 : pw ≤ 6
    · have d2 : decide (pw > 6) = false := decide_eq_false (by omega)
      have d3 : decide (6 < pw) = false := decide_eq_false (by omega)
      rw [if_pos ⟨rfl, rfl, h1, h2⟩]
      go_enter Try.func19, Try.ntmps19
      go_wp2_with (first | (go_at_call 35; (with_reducible refine (unhide H1 _).mono ?_); rintro e w1 ⟨rfl, rfl⟩) | (go_at_call 35; (with_reducible refine (unhide H2 _).mono ?_); rintro e w1 ⟨rfl, rfl⟩))
      go_ret
      exact ⟨rfl, (by repeat' (first | (with_reducible exact up_refl _) | (with_reducible assumption) | (with_reducible refine up_alloc ?_ _) | (with_reducible refine up_drewN ?_ _) | (with_reducible refine up_drew ?_) | (with_reducible refine up_set ?_ (by first | (simp; done) | (simp; omega) | omega) _) | (refine up_trans ?_ (by with_reducible assumption))))⟩
    · have d2 : decide (pw > 6) = true := decide_eq_true (by omega)
      have d3 : decide (6 < pw) = true := decide_eq_true (by omega)
      rw [if_neg (by omega)]
      go_enter Try.func19, Try.ntmps19
      go_wp2_with (first | (go_at_call 35; (with_reducible refine (unhide H1 _).mono ?_); rintro e w1 ⟨rfl, rfl⟩) | (go_at_call 35; (with_reducible refine (unhide H2 _).mono ?_); rintro e w1 ⟨rfl, rfl⟩))
      go_ret
      exact ⟨rfl, (by repeat' (first | (with_reducible exact up_refl _) | (with_reducible assumption) | (with_reducible refine up_alloc ?_ _) | (with_reducible refine up_drewN ?_ _) | (with_reducible refine up_drew ?_) | (with_reducible refine up_set ?_ (by first | (simp; done) | (simp; omega) | omega) _) | (refine up_trans ?_ (by with_reducible assumption))))⟩
  · have d1 : decide (pw < 1) = true := decide_eq_true (by omega)
    rw [if_neg (by omega)]
    go_enter Try.func19, Try.ntmps19
    go_wp2_with (first | (go_at_call 35; (with_reducible refine (unhide H1 _).mono ?_); rintro e w1 ⟨rfl, rfl⟩) | (go_at_call 35; (with_reducible refine (unhide H2 _).mono ?_); rintro e w1 ⟨rfl, rfl⟩))
    go_ret
    exact ⟨rfl, (by repeat' (first | (with_reducible exact up_refl _) | (with_reducible assumption) | (with_reducible refine up_alloc ?_ _) | (with_reducible refine up_drewN ?_ _) | (with_reducible refine up_drew ?_) | (with_reducible refine up_set ?_ (by first | (simp; done) | (simp; omega) | omega) _) | (refine up_trans ?_ (by with_reducible assumption))))⟩
end Go.Proofs.Ytdignnmhiifpgaa
