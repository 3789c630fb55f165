/- The damage of a pavement, and what is left. -/
import Derived.Test.YtdignnmhiifpgaaBrPD
import Derived.Test.YtdignnmhiifpgaaBrKC
namespace Go.Proofs.Ytdignnmhiifpgaa
open Go.RowKit Go.Proofs.Gn
set_option linter.unusedVariables false
theorem orF_2 {a b : Int} (h : orF [a, b] = 0) : a = 0 ∧ b = 0 := by
  unfold orF at h
  split at h
  · rename_i h1
    unfold orF at h
    split at h
    · rename_i h2; exact ⟨h1, h2⟩
    · rename_i h2; exact absurd h h2
  · rename_i h1; exact absurd h h1
theorem i6_2 {W : World} {g : Nat} {a b : Int} (h0 : W.cell? ⟨g, 0, none⟩ = some (.int .i64 a)) (h1 : W.cell? ⟨g, 1, none⟩ = some (.int .i64 b)) : I6 W (some ⟨g, 0, none⟩) [a, b] := .inr ⟨g, 0, rfl, fun k hk => by
  match k, hk with
  | 0, _ => exact h0
  | 1, _ => exact h1⟩
def daE0 (p : Pav) (ts : List (Int × Int)) : Int := orF [pvE p, ctE ts]
def daE (p : Pav) (ts : List (Int × Int)) (n : Int) : Int := if daE0 p ts = 0 then (if win6 n 0 1048576 then (if wsF p ts ≤ 1073741824 then 0 else 4) else 3) else daE0 p ts
def daV (p : Pav) (ts : List (Int × Int)) (n : Int) : Int := if daE p ts n = 0 then up6 (wsF p ts * 1000 * n) p.lf else 0
set_option maxRecDepth 100000 in
set_option maxHeartbeats 4000000 in
theorem p_Damage (p : Pav) (A : Option Addr) (ts : List (Int × Int)) (cap : Nat) (n : Int) (w : World) (hF : Frs w A ts) (hnt : ts.length ≤ 9223372036854775807) :
    Calls Try.prog 14 #[pvV p, .slice A ts.length cap, .int .i64 n] w fun e w' => e = .returned (.tuple #[.int .i64 (daV p ts n), .int .i64 (daE p ts n)]) ∧ Up w w' := by
  have H1 := hide (fun W => p_CheckPav p W)
  have H2 := hide (fun W (hU : Up w W) => p_CheckTrain A ts cap W (frs_up hF hU) hnt)
  have H3 := hide (fun (W : World) (g : Nat) h0 h1 => (show Calls Try.prog 43 #[.slice (some ⟨g, 0, none⟩) 2 2] W _ from p_Or (some ⟨g, 0, none⟩) [pvE p, ctE ts] 2 W (i6_2 h0 h1) (by simp)))
  have H4 := hide (fun W => p_w64 n 0 1048576 W)
  have H5 := hide (fun (hE : daE0 p ts = 0) W (hU : Up w W) => p_wears p A ts cap W (pvE_ok (orF_2 hE).1).1 (pvE_ok (orF_2 hE).1).2.2 (frs_up hF hU) (trOk_of (orF_2 hE).2).1)
  have H6 := hide (fun (hE : daE0 p ts = 0) => (⟨(pvE_ok (orF_2 hE).1).2.1, by have t := wsF_bd (p := p) (pvE_ok (orF_2 hE).1).1.1 (trOk_of (orF_2 hE).2).1 ts.length (Nat.le_refl _); rw [List.take_length] at t; exact t.1⟩ : (1 ≤ p.lf ∧ p.lf ≤ 1048576) ∧ 0 ≤ wsF p ts))
  have HN := fun (h : win6 n 0 1048576 = true) => win6_yes h
  have g3 : daE0 p ts = 0 → win6 n 0 1048576 = false → daV p ts n = 0 ∧ daE p ts n = 3 := fun a b => by
    have t : daE p ts n = 3 := by unfold daE; rw [if_pos a, b]; rfl
    exact ⟨by unfold daV; rw [t]; rfl, t⟩
  have g4 : daE0 p ts = 0 → win6 n 0 1048576 = true → wsF p ts ≤ 1073741824 → daV p ts n = up6 (wsF p ts * 1000 * n) p.lf ∧ daE p ts n = 0 := fun a b c => by
    have t : daE p ts n = 0 := by unfold daE; rw [if_pos a, if_pos b, if_pos c]
    exact ⟨by unfold daV; rw [if_pos t], t⟩
  have g5 : daE0 p ts = 0 → win6 n 0 1048576 = true → ¬ wsF p ts ≤ 1073741824 → daV p ts n = 0 ∧ daE p ts n = 4 := fun a b c => by
    have t : daE p ts n = 4 := by unfold daE; rw [if_pos a, if_pos b, if_neg c]
    exact ⟨by unfold daV; rw [t]; rfl, t⟩
  have g6 : daE0 p ts ≠ 0 → daV p ts n = 0 ∧ daE p ts n = daE0 p ts := fun a => by
    have t : daE p ts n = daE0 p ts := by unfold daE; rw [if_neg a]
    exact ⟨by unfold daV; rw [t, if_neg a], t⟩
  have hEE : orF [pvE p, ctE ts] = daE0 p ts := rfl
  rw [hEE] at H3
  generalize daV p ts n = V at *
  generalize daE p ts n = X at *
  generalize daE0 p ts = E at *
  generalize wsF p ts = S at *
  generalize pvE p = E1 at *
  generalize ctE ts = E2 at *
  generalize win6 n 0 1048576 = r at *
  unfold pvV at *
  obtain ⟨ld, lf, pw⟩ := p
  dsimp only at *
  clear hEE hF
  generalize ts.length = m at *
  by_cases hE : E = 0
  · have H5' := hide (unhide H5 hE)
    obtain ⟨⟨b1, b2⟩, b3⟩ := unhide H6 hE
    subst hE
    cases hr : r
    · rw [hr] at H4
      obtain ⟨rfl, rfl⟩ := g3 rfl hr
      clear g3 g4 g5 g6
      go_enter Try.func14, Try.ntmps14
      go_upto_region 1 with fail
      refine at_wpB (fun W hW => ?_)
      have hB : Bx W w.heap.size [.int .i64 ld, .int .i64 lf, .int .i64 pw] := by rw [hW]; exact bx_new w _ _
      have U : Up w W := by rw [hW]; exact (by repeat' (first | (with_reducible exact up_refl _) | (with_reducible assumption) | (with_reducible refine up_alloc ?_ _) | (with_reducible refine up_drewN ?_ _) | (with_reducible refine up_drew ?_) | (with_reducible refine up_set ?_ (by first | (simp; done) | (simp; omega) | omega) _) | (refine up_trans ?_ (by with_reducible assumption))))
      obtain ⟨c0, c1, c2⟩ := bx3 hB
      clear hW
      go_wp2_with (first | (go_at_call 18; (with_reducible refine (unhide H1 _).mono ?_); rintro e w1 ⟨rfl, hu1⟩; have s1 := bx_up hB hu1; obtain ⟨d0, d1, d2⟩ := bx3 s1) | (go_at_call 33; (with_reducible refine (unhide H2 _ (up_trans U hu1)).mono ?_); rintro e w2 ⟨rfl, hu2⟩; have s2 := bx_up s1 hu2) | (go_at_call 43; (with_reducible refine (unhide H3 _ _ (by go_cell) (by go_cell)).mono ?_); rintro e w3 ⟨rfl, hu3⟩; have s3 := bx_up (bx_up s2 (up_alloc (up_refl w2) _)) hu3; have U3 := up_trans (up_trans (up_trans U hu1) (up_trans hu2 (up_alloc (up_refl w2) _))) hu3; obtain ⟨f0, f1, f2⟩ := bx3 s3) | (go_at_call 37; (with_reducible refine (unhide H4 _).mono ?_); rintro e w4 ⟨rfl, rfl⟩) | (go_at_call 44; (with_reducible refine (unhide H5' _ U3).mono ?_); rintro e w5 ⟨rfl, hu5⟩; obtain ⟨g0, g1, g2⟩ := bx3 (bx_up s3 hu5); have U5 := up_trans U3 hu5) | (go_at_call 41; (with_reducible refine (unhide H7 _).mono ?_); rintro e w6 ⟨rfl, rfl⟩))
      go_ret2
      exact ⟨rfl, U3⟩
    · rw [hr] at H4
      have hn := HN hr
      by_cases hS : S ≤ 1073741824
      · have m0 : 0 ≤ S * 1000 * n ∧ S * 1000 * n ≤ 1073741824000 * 1048576 := ⟨Int.mul_nonneg (by omega) hn.1, Int.mul_le_mul (by omega) hn.2 hn.1 (by omega)⟩
        have w1 : IntKind.i64.wrap (S * 1000) = S * 1000 := IntWalk.i64_in _ ⟨by omega, by omega⟩
        have w2 : IntKind.i64.wrap (S * 1000 * n) = S * 1000 * n := IntWalk.i64_in _ ⟨by omega, by omega⟩
        have H7 := hide (fun W => p_up6 (S * 1000 * n) lf W ⟨m0.1, by omega⟩ ⟨b1, by omega⟩)
        have d1 : decide (S > 1073741824) = false := decide_eq_false (by omega)
        have d2 : decide (1073741824 < S) = false := decide_eq_false (by omega)
        clear m0
        obtain ⟨rfl, rfl⟩ := g4 rfl hr hS
        clear g3 g4 g5 g6
        go_enter Try.func14, Try.ntmps14
        go_upto_region 1 with fail
        refine at_wpB (fun W hW => ?_)
        have hB : Bx W w.heap.size [.int .i64 ld, .int .i64 lf, .int .i64 pw] := by rw [hW]; exact bx_new w _ _
        have U : Up w W := by rw [hW]; exact (by repeat' (first | (with_reducible exact up_refl _) | (with_reducible assumption) | (with_reducible refine up_alloc ?_ _) | (with_reducible refine up_drewN ?_ _) | (with_reducible refine up_drew ?_) | (with_reducible refine up_set ?_ (by first | (simp; done) | (simp; omega) | omega) _) | (refine up_trans ?_ (by with_reducible assumption))))
        obtain ⟨c0, c1, c2⟩ := bx3 hB
        clear hW
        go_wp2_with (first | (go_at_call 18; (with_reducible refine (unhide H1 _).mono ?_); rintro e w1 ⟨rfl, hu1⟩; have s1 := bx_up hB hu1; obtain ⟨d0, d1, d2⟩ := bx3 s1) | (go_at_call 33; (with_reducible refine (unhide H2 _ (up_trans U hu1)).mono ?_); rintro e w2 ⟨rfl, hu2⟩; have s2 := bx_up s1 hu2) | (go_at_call 43; (with_reducible refine (unhide H3 _ _ (by go_cell) (by go_cell)).mono ?_); rintro e w3 ⟨rfl, hu3⟩; have s3 := bx_up (bx_up s2 (up_alloc (up_refl w2) _)) hu3; have U3 := up_trans (up_trans (up_trans U hu1) (up_trans hu2 (up_alloc (up_refl w2) _))) hu3; obtain ⟨f0, f1, f2⟩ := bx3 s3) | (go_at_call 37; (with_reducible refine (unhide H4 _).mono ?_); rintro e w4 ⟨rfl, rfl⟩) | (go_at_call 44; (with_reducible refine (unhide H5' _ U3).mono ?_); rintro e w5 ⟨rfl, hu5⟩; obtain ⟨g0, g1, g2⟩ := bx3 (bx_up s3 hu5); have U5 := up_trans U3 hu5) | (go_at_call 41; (with_reducible refine (unhide H7 _).mono ?_); rintro e w6 ⟨rfl, rfl⟩))
        go_ret2
        exact ⟨rfl, U5⟩
      · obtain ⟨rfl, rfl⟩ := g5 rfl hr hS
        clear g3 g4 g5 g6
        have d1 : decide (S > 1073741824) = true := decide_eq_true (by omega)
        have d2 : decide (1073741824 < S) = true := decide_eq_true (by omega)
        go_enter Try.func14, Try.ntmps14
        go_upto_region 1 with fail
        refine at_wpB (fun W hW => ?_)
        have hB : Bx W w.heap.size [.int .i64 ld, .int .i64 lf, .int .i64 pw] := by rw [hW]; exact bx_new w _ _
        have U : Up w W := by rw [hW]; exact (by repeat' (first | (with_reducible exact up_refl _) | (with_reducible assumption) | (with_reducible refine up_alloc ?_ _) | (with_reducible refine up_drewN ?_ _) | (with_reducible refine up_drew ?_) | (with_reducible refine up_set ?_ (by first | (simp; done) | (simp; omega) | omega) _) | (refine up_trans ?_ (by with_reducible assumption))))
        obtain ⟨c0, c1, c2⟩ := bx3 hB
        clear hW
        go_wp2_with (first | (go_at_call 18; (with_reducible refine (unhide H1 _).mono ?_); rintro e w1 ⟨rfl, hu1⟩; have s1 := bx_up hB hu1; obtain ⟨d0, d1, d2⟩ := bx3 s1) | (go_at_call 33; (with_reducible refine (unhide H2 _ (up_trans U hu1)).mono ?_); rintro e w2 ⟨rfl, hu2⟩; have s2 := bx_up s1 hu2) | (go_at_call 43; (with_reducible refine (unhide H3 _ _ (by go_cell) (by go_cell)).mono ?_); rintro e w3 ⟨rfl, hu3⟩; have s3 := bx_up (bx_up s2 (up_alloc (up_refl w2) _)) hu3; have U3 := up_trans (up_trans (up_trans U hu1) (up_trans hu2 (up_alloc (up_refl w2) _))) hu3; obtain ⟨f0, f1, f2⟩ := bx3 s3) | (go_at_call 37; (with_reducible refine (unhide H4 _).mono ?_); rintro e w4 ⟨rfl, rfl⟩) | (go_at_call 44; (with_reducible refine (unhide H5' _ U3).mono ?_); rintro e w5 ⟨rfl, hu5⟩; obtain ⟨g0, g1, g2⟩ := bx3 (bx_up s3 hu5); have U5 := up_trans U3 hu5) | (go_at_call 41; (with_reducible refine (unhide H7 _).mono ?_); rintro e w6 ⟨rfl, rfl⟩))
        go_ret2
        exact ⟨rfl, U5⟩
  · have e1 : (E == 0) = false := by simp; exact hE
    obtain ⟨rfl, rfl⟩ := g6 hE
    clear g3 g4 g5 g6
    go_enter Try.func14, Try.ntmps14
    go_upto_region 1 with fail
    refine at_wpB (fun W hW => ?_)
    have hB : Bx W w.heap.size [.int .i64 ld, .int .i64 lf, .int .i64 pw] := by rw [hW]; exact bx_new w _ _
    have U : Up w W := by rw [hW]; exact (by repeat' (first | (with_reducible exact up_refl _) | (with_reducible assumption) | (with_reducible refine up_alloc ?_ _) | (with_reducible refine up_drewN ?_ _) | (with_reducible refine up_drew ?_) | (with_reducible refine up_set ?_ (by first | (simp; done) | (simp; omega) | omega) _) | (refine up_trans ?_ (by with_reducible assumption))))
    obtain ⟨c0, c1, c2⟩ := bx3 hB
    clear hW
    go_wp2_with (first | (go_at_call 18; (with_reducible refine (unhide H1 _).mono ?_); rintro e w1 ⟨rfl, hu1⟩; have s1 := bx_up hB hu1; obtain ⟨d0, d1, d2⟩ := bx3 s1) | (go_at_call 33; (with_reducible refine (unhide H2 _ (up_trans U hu1)).mono ?_); rintro e w2 ⟨rfl, hu2⟩; have s2 := bx_up s1 hu2) | (go_at_call 43; (with_reducible refine (unhide H3 _ _ (by go_cell) (by go_cell)).mono ?_); rintro e w3 ⟨rfl, hu3⟩; have s3 := bx_up (bx_up s2 (up_alloc (up_refl w2) _)) hu3; have U3 := up_trans (up_trans (up_trans U hu1) (up_trans hu2 (up_alloc (up_refl w2) _))) hu3; obtain ⟨f0, f1, f2⟩ := bx3 s3) | (go_at_call 37; (with_reducible refine (unhide H4 _).mono ?_); rintro e w4 ⟨rfl, rfl⟩) | (go_at_call 44; (with_reducible refine (unhide H5' _ U3).mono ?_); rintro e w5 ⟨rfl, hu5⟩; obtain ⟨g0, g1, g2⟩ := bx3 (bx_up s3 hu5); have U5 := up_trans U3 hu5) | (go_at_call 41; (with_reducible refine (unhide H7 _).mono ?_); rintro e w6 ⟨rfl, rfl⟩))
    go_ret2
    exact ⟨rfl, U3⟩
end Go.Proofs.Ytdignnmhiifpgaa
