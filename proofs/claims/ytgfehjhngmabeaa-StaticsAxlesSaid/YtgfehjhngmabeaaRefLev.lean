/- The document's lever. -/
import Derived.Test.YtgfehjhngmabeaaAxles
import Derived.Test.YtgfehjhngmabeaaRefChk
import Derived.Test.YtgfehjhngmabeaaRefDown
namespace Go.Proofs.Ytgfehjhngmabeaa
open Go.RowKit Go.Proofs.Gn
theorem r_winS (n a b : Int) (w : World) : Calls Try.prog 50 #[.int .i64 n, .int .i64 a, .int .i64 b] w fun e w' => e = .returned (.bool (win n a b)) ∧ w = w' := r_within n a b w
set_option maxRecDepth 100000 in
set_option maxHeartbeats 8000000 in
theorem r_Lever (m a b x : Int) (w : World) :
    Calls Try.prog 20 #[.int .i64 m, .int .i64 a, .int .i64 b, .int .i64 x] w fun e w' => e = .returned (.tuple #[.int .i64 (leM m a b x), .int .i64 (leN m a b x), .int .i64 (leE m a b x)]) ∧ Up w w' := by
  have HM := hide (fun W => r_mass m W)
  have Ha := hide (fun W => (r_winS a (-16777216) 16777216 W : Calls Try.prog 50 #[.int .i64 a, .int .i64 (-16777216), .int .i64 16777216] W fun e w' => e = .returned (.bool (plc a)) ∧ W = w'))
  have Hb := hide (fun W => (r_winS b (-16777216) 16777216 W : Calls Try.prog 50 #[.int .i64 b, .int .i64 (-16777216), .int .i64 16777216] W fun e w' => e = .returned (.bool (plc b)) ∧ W = w'))
  have Hx := hide (fun W => (r_winS x (-16777216) 16777216 W : Calls Try.prog 50 #[.int .i64 x, .int .i64 (-16777216), .int .i64 16777216] W fun e w' => e = .returned (.bool (plc x)) ∧ W = w'))
  have Hw := hide (fun W => r_winS x a b W)
  have HU := hide (fun (h1 : win m 1 16777216 = true) (h2 : win a (-16777216) 16777216 = true) (h3 : win b (-16777216) 16777216 = true) (h4 : win x a b = true) (h5 : a < b) => (by
    have g1 := (win_iff _ _ _).1 h1
    have g2 := (win_iff _ _ _).1 h2
    have g3 := (win_iff _ _ _).1 h3
    have g4 := (win_iff _ _ _).1 h4
    exact ⟨fun W => r_Up m (b - x) (b - a) W (by omega) (by omega) (by omega) (by omega), fun W => r_Up m (x - a) (b - a) W (by omega) (by omega) (by omega) (by omega), ⟨by omega, by omega⟩, ⟨by omega, by omega⟩, ⟨by omega, by omega⟩⟩ : (∀ W : World, Calls Try.prog 51 #[.int .i64 m, .int .i64 (b - x), .int .i64 (b - a)] W fun e w' => e = .returned (.int .i64 (up m (b - a) (b - x))) ∧ W = w') ∧ (∀ W : World, Calls Try.prog 51 #[.int .i64 m, .int .i64 (x - a), .int .i64 (b - a)] W fun e w' => e = .returned (.int .i64 (up m (b - a) (x - a))) ∧ W = w') ∧ (0 ≤ b - x ∧ b - x ≤ 33554432) ∧ (0 ≤ x - a ∧ x - a ≤ 33554432) ∧ 1 ≤ b - a ∧ b - a ≤ 33554432))
  have hpa : plc a = win a (-16777216) 16777216 := rfl
  have hpb : plc b = win b (-16777216) 16777216 := rfl
  unfold leM leN leE
  rw [show b - a - (x - a) = b - x by omega]
  unfold msE at HM
  rw [← hpa, ← hpb] at HU
  clear hpa hpb
  change Hid (∀ W : World, Calls Try.prog 50 #[.int .i64 a, .int .i64 (-16777216), .int .i64 16777216] W fun e w' => e = .returned (.bool (plc a)) ∧ W = w') at Ha
  change Hid (∀ W : World, Calls Try.prog 50 #[.int .i64 b, .int .i64 (-16777216), .int .i64 16777216] W fun e w' => e = .returned (.bool (plc b)) ∧ W = w') at Hb
  change Hid (∀ W : World, Calls Try.prog 50 #[.int .i64 x, .int .i64 (-16777216), .int .i64 16777216] W fun e w' => e = .returned (.bool (plc x)) ∧ W = w') at Hx
  generalize win m 1 16777216 = q0 at *
  generalize plc a = q1 at *
  generalize plc b = q2 at *
  generalize plc x = q3 at *
  generalize win x a b = q4 at *
  generalize up m (b - a) (b - x) = P at *
  generalize up m (b - a) (x - a) = Q at *
  cases q0
  · show Calls Try.prog 20 #[.int .i64 m, .int .i64 a, .int .i64 b, .int .i64 x] w fun e w' => e = .returned (.tuple #[.int .i64 0, .int .i64 0, .int .i64 3]) ∧ Up w w'
    go_enter Try.func20, Try.ntmps20
    go_wp2_with (first | (go_at_call 49; (with_reducible refine (unhide HM _).mono ?_); rintro e v0 ⟨rfl, rfl⟩))
    go_returns
    exact ⟨rfl, (by repeat' (first | (with_reducible exact up_refl _) | (with_reducible assumption) | (with_reducible refine up_alloc ?_ _) | (with_reducible refine up_drewN ?_ _) | (with_reducible refine up_drew ?_) | (with_reducible refine up_set ?_ (by first | (simp; done) | (simp; omega) | omega) _) | (refine up_trans ?_ (by with_reducible assumption))))⟩
  cases q1
  · show Calls Try.prog 20 #[.int .i64 m, .int .i64 a, .int .i64 b, .int .i64 x] w fun e w' => e = .returned (.tuple #[.int .i64 0, .int .i64 0, .int .i64 3]) ∧ Up w w'
    go_enter Try.func20, Try.ntmps20
    go_wp2_with (first | (go_at_call 49; (with_reducible refine (unhide HM _).mono ?_); rintro e v0 ⟨rfl, rfl⟩) | (go_at_call 50; (with_reducible refine (unhide Ha _).mono ?_); rintro e v1 ⟨rfl, rfl⟩))
    go_returns
    exact ⟨rfl, (by repeat' (first | (with_reducible exact up_refl _) | (with_reducible assumption) | (with_reducible refine up_alloc ?_ _) | (with_reducible refine up_drewN ?_ _) | (with_reducible refine up_drew ?_) | (with_reducible refine up_set ?_ (by first | (simp; done) | (simp; omega) | omega) _) | (refine up_trans ?_ (by with_reducible assumption))))⟩
  cases q2
  · show Calls Try.prog 20 #[.int .i64 m, .int .i64 a, .int .i64 b, .int .i64 x] w fun e w' => e = .returned (.tuple #[.int .i64 0, .int .i64 0, .int .i64 3]) ∧ Up w w'
    go_enter Try.func20, Try.ntmps20
    go_wp2_with (first | (go_at_call 49; (with_reducible refine (unhide HM _).mono ?_); rintro e v0 ⟨rfl, rfl⟩) | (go_at_call 50; (with_reducible refine (unhide Ha _).mono ?_); rintro e v1 ⟨rfl, rfl⟩) | (go_at_call 50; (with_reducible refine (unhide Hb _).mono ?_); rintro e v2 ⟨rfl, rfl⟩))
    go_returns
    exact ⟨rfl, (by repeat' (first | (with_reducible exact up_refl _) | (with_reducible assumption) | (with_reducible refine up_alloc ?_ _) | (with_reducible refine up_drewN ?_ _) | (with_reducible refine up_drew ?_) | (with_reducible refine up_set ?_ (by first | (simp; done) | (simp; omega) | omega) _) | (refine up_trans ?_ (by with_reducible assumption))))⟩
  cases q3
  · show Calls Try.prog 20 #[.int .i64 m, .int .i64 a, .int .i64 b, .int .i64 x] w fun e w' => e = .returned (.tuple #[.int .i64 0, .int .i64 0, .int .i64 3]) ∧ Up w w'
    go_enter Try.func20, Try.ntmps20
    go_wp2_with (first | (go_at_call 49; (with_reducible refine (unhide HM _).mono ?_); rintro e v0 ⟨rfl, rfl⟩) | (go_at_call 50; (with_reducible refine (unhide Ha _).mono ?_); rintro e v1 ⟨rfl, rfl⟩) | (go_at_call 50; (with_reducible refine (unhide Hb _).mono ?_); rintro e v2 ⟨rfl, rfl⟩) | (go_at_call 50; (with_reducible refine (unhide Hx _).mono ?_); rintro e v3 ⟨rfl, rfl⟩))
    go_returns
    exact ⟨rfl, (by repeat' (first | (with_reducible exact up_refl _) | (with_reducible assumption) | (with_reducible refine up_alloc ?_ _) | (with_reducible refine up_drewN ?_ _) | (with_reducible refine up_drew ?_) | (with_reducible refine up_set ?_ (by first | (simp; done) | (simp; omega) | omega) _) | (refine up_trans ?_ (by with_reducible assumption))))⟩
  by_cases c : b ≤ a
  · simp only [if_pos c, Bool.and_true, if_true]
    show Calls Try.prog 20 #[.int .i64 m, .int .i64 a, .int .i64 b, .int .i64 x] w fun e w' => e = .returned (.tuple #[.int .i64 0, .int .i64 0, .int .i64 9]) ∧ Up w w'
    go_enter Try.func20, Try.ntmps20
    go_wp2_with (first | (go_at_call 49; (with_reducible refine (unhide HM _).mono ?_); rintro e v0 ⟨rfl, rfl⟩) | (go_at_call 50; (with_reducible refine (unhide Ha _).mono ?_); rintro e v1 ⟨rfl, rfl⟩) | (go_at_call 50; (with_reducible refine (unhide Hb _).mono ?_); rintro e v2 ⟨rfl, rfl⟩) | (go_at_call 50; (with_reducible refine (unhide Hx _).mono ?_); rintro e v3 ⟨rfl, rfl⟩))
    go_returns
    exact ⟨rfl, (by repeat' (first | (with_reducible exact up_refl _) | (with_reducible assumption) | (with_reducible refine up_alloc ?_ _) | (with_reducible refine up_drewN ?_ _) | (with_reducible refine up_drew ?_) | (with_reducible refine up_set ?_ (by first | (simp; done) | (simp; omega) | omega) _) | (refine up_trans ?_ (by with_reducible assumption))))⟩
  simp only [if_neg c, Bool.and_true, if_true]
  have c2 : decide (b ≤ a) = false := decide_eq_false c
  cases q4
  · show Calls Try.prog 20 #[.int .i64 m, .int .i64 a, .int .i64 b, .int .i64 x] w fun e w' => e = .returned (.tuple #[.int .i64 0, .int .i64 0, .int .i64 19]) ∧ Up w w'
    go_enter Try.func20, Try.ntmps20
    go_wp2_with (first | (go_at_call 49; (with_reducible refine (unhide HM _).mono ?_); rintro e v0 ⟨rfl, rfl⟩) | (go_at_call 50; (with_reducible refine (unhide Ha _).mono ?_); rintro e v1 ⟨rfl, rfl⟩) | (go_at_call 50; (with_reducible refine (unhide Hb _).mono ?_); rintro e v2 ⟨rfl, rfl⟩) | (go_at_call 50; (with_reducible refine (unhide Hx _).mono ?_); rintro e v3 ⟨rfl, rfl⟩) | (go_at_call 50; (with_reducible refine (unhide Hw _).mono ?_); rintro e v4 ⟨rfl, rfl⟩))
    go_returns
    exact ⟨rfl, (by repeat' (first | (with_reducible exact up_refl _) | (with_reducible assumption) | (with_reducible refine up_alloc ?_ _) | (with_reducible refine up_drewN ?_ _) | (with_reducible refine up_drew ?_) | (with_reducible refine up_set ?_ (by first | (simp; done) | (simp; omega) | omega) _) | (refine up_trans ?_ (by with_reducible assumption))))⟩
  · obtain ⟨h1, h2, ⟨e1, e2⟩, ⟨e3, e4⟩, e5, e6⟩ := unhide HU rfl rfl rfl rfl (by omega)
    have H1 := hide h1
    have H2 := hide h2
    have w1 : IntKind.i64.wrap (b - x) = b - x := IntWalk.i64_in _ ⟨by omega, by omega⟩
    have w2 : IntKind.i64.wrap (x - a) = x - a := IntWalk.i64_in _ ⟨by omega, by omega⟩
    have w3 : IntKind.i64.wrap (b - a) = b - a := IntWalk.i64_in _ ⟨by omega, by omega⟩
    clear h1 h2 HU
    show Calls Try.prog 20 #[.int .i64 m, .int .i64 a, .int .i64 b, .int .i64 x] w fun e w' => e = .returned (.tuple #[.int .i64 P, .int .i64 Q, .int .i64 0]) ∧ Up w w'
    go_enter Try.func20, Try.ntmps20
    go_wp2_with (first | (go_at_call 49; (with_reducible refine (unhide HM _).mono ?_); rintro e v0 ⟨rfl, rfl⟩) | (go_at_call 50; (with_reducible refine (unhide Ha _).mono ?_); rintro e v1 ⟨rfl, rfl⟩) | (go_at_call 50; (with_reducible refine (unhide Hb _).mono ?_); rintro e v2 ⟨rfl, rfl⟩) | (go_at_call 50; (with_reducible refine (unhide Hx _).mono ?_); rintro e v3 ⟨rfl, rfl⟩) | (go_at_call 50; (with_reducible refine (unhide Hw _).mono ?_); rintro e v4 ⟨rfl, rfl⟩) | (go_at_call 51; (with_reducible refine (unhide H1 _).mono ?_); rintro e v5 ⟨rfl, rfl⟩) | (go_at_call 51; (with_reducible refine (unhide H2 _).mono ?_); rintro e v6 ⟨rfl, rfl⟩))
    go_returns
    exact ⟨rfl, (by repeat' (first | (with_reducible exact up_refl _) | (with_reducible assumption) | (with_reducible refine up_alloc ?_ _) | (with_reducible refine up_drewN ?_ _) | (with_reducible refine up_drew ?_) | (with_reducible refine up_set ?_ (by first | (simp; done) | (simp; omega) | omega) _) | (refine up_trans ?_ (by with_reducible assumption))))⟩
end Go.Proofs.Ytgfehjhngmabeaa
