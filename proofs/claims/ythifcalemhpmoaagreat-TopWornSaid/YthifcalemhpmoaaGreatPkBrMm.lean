/- The mathematics of the wear. The line of a moment at a place. A place of a load: what is checked. The line of a moment. A parameter that is a list of boxes, opened. What a pavement still bears. The damage of a pavement, and what is left. -/
import Derived.Test.YthifcalemhpmoaaGreatPkStab
import Derived.Test.YthifcalemhpmoaaGreatPkBrS
import Derived.Deep.SlicePairs
import Derived.WideKeyArgs
import Derived.ProofKit
import Derived.OpenShut
import Derived.Lib.SmallJoins
import Derived.Test.YthifcalemhpmoaaGreatPkBrV
import Derived.Test.YthifcalemhpmoaaGreatPkLateU
import Derived.Test.YthifcalemhpmoaaGreatPkRefDown
namespace Go.Proofs.YthifcalemhpmoaaGreat
open Go.RowKit Go.Proofs.Gn
set_option linter.unusedVariables false
theorem orF_2 {a b : Int} (h : orF [a, b] = 0) : a = 0 ∧ b = 0 := by
  unfold orF at h
  split at h
  · rename_i h1
    unfold orF at h
    split at h
    · rename_i h2; exact ⟨h1, h2⟩
    · rename_i h2; exact absurd h h2
  · rename_i h1; exact absurd h h1
theorem i6_2 {W : World} {g : Nat} {a b : Int} (h0 : W.cell? ⟨g, 0, none⟩ = some (.int .i64 a)) (h1 : W.cell? ⟨g, 1, none⟩ = some (.int .i64 b)) : I6 W (some ⟨g, 0, none⟩) [a, b] := .inr ⟨g, 0, rfl, fun k hk => by
  match k, hk with
  | 0, _ => exact h0
  | 1, _ => exact h1⟩
def daE0 (p : Pav) (ts : List (Int × Int)) : Int := orF [pvE p, ctE ts]
def daE (p : Pav) (ts : List (Int × Int)) (n : Int) : Int := if daE0 p ts = 0 then (if win6 n 0 1048576 then (if wsF p ts ≤ 1073741824 then 0 else 4) else 3) else daE0 p ts
def daV (p : Pav) (ts : List (Int × Int)) (n : Int) : Int := if daE p ts n = 0 then up6 (wsF p ts * 1000 * n) p.lf else 0
set_option maxRecDepth 100000 in
set_option maxHeartbeats 4000000 in
theorem p_Damage (p : Pav) (A : Option Addr) (ts : List (Int × Int)) (cap : Nat) (n : Int) (w : World) (hF : Frs w A ts) (hnt : ts.length ≤ 9223372036854775807) :
    Calls Tryz.prog 13 #[pvV p, .slice A ts.length cap, .int .i64 n] w fun e w' => e = .returned (.tuple #[.int .i64 (daV p ts n), .int .i64 (daE p ts n)]) ∧ Up w w' := by
  have H1 := hide (fun W => p_CheckPav p W)
  have H2 := hide (fun W (hU : Up w W) => p_CheckTrain A ts cap W (frs_up hF hU) hnt)
  have H3 := hide (fun (W : World) (g : Nat) h0 h1 => (show Calls Tryz.prog 31 #[.slice (some ⟨g, 0, none⟩) 2 2] W _ from p_Or (some ⟨g, 0, none⟩) [pvE p, ctE ts] 2 W (i6_2 h0 h1) (by simp)))
  have H4 := hide (fun W => p_w64 n 0 1048576 W)
  have H5 := hide (fun (hE : daE0 p ts = 0) W (hU : Up w W) => p_wears p A ts cap W (pvE_ok (orF_2 hE).1).1 (pvE_ok (orF_2 hE).1).2.2 (frs_up hF hU) (trOk_of (orF_2 hE).2).1)
  have H6 := hide (fun (hE : daE0 p ts = 0) => (⟨(pvE_ok (orF_2 hE).1).2.1, by have t := wsF_bd (p := p) (pvE_ok (orF_2 hE).1).1.1 (trOk_of (orF_2 hE).2).1 ts.length (Nat.le_refl _); rw [List.take_length] at t; exact t.1⟩ : (1 ≤ p.lf ∧ p.lf ≤ 1048576) ∧ 0 ≤ wsF p ts))
  have HN := fun (h : win6 n 0 1048576 = true) => win6_yes h
  have g3 : daE0 p ts = 0 → win6 n 0 1048576 = false → daV p ts n = 0 ∧ daE p ts n = 3 := fun a b => by
    have t : daE p ts n = 3 := by unfold daE; rw [if_pos a, b]; rfl
    exact ⟨by unfold daV; rw [t]; rfl, t⟩
  have g4 : daE0 p ts = 0 → win6 n 0 1048576 = true → wsF p ts ≤ 1073741824 → daV p ts n = up6 (wsF p ts * 1000 * n) p.lf ∧ daE p ts n = 0 := fun a b c => by
    have t : daE p ts n = 0 := by unfold daE; rw [if_pos a, if_pos b, if_pos c]
    exact ⟨by unfold daV; rw [if_pos t], t⟩
  have g5 : daE0 p ts = 0 → win6 n 0 1048576 = true → ¬ wsF p ts ≤ 1073741824 → daV p ts n = 0 ∧ daE p ts n = 4 := fun a b c => by
    have t : daE p ts n = 4 := by unfold daE; rw [if_pos a, if_pos b, if_neg c]
    exact ⟨by unfold daV; rw [t]; rfl, t⟩
  have g6 : daE0 p ts ≠ 0 → daV p ts n = 0 ∧ daE p ts n = daE0 p ts := fun a => by
    have t : daE p ts n = daE0 p ts := by unfold daE; rw [if_neg a]
    exact ⟨by unfold daV; rw [t, if_neg a], t⟩
  have hEE : orF [pvE p, ctE ts] = daE0 p ts := rfl
  rw [hEE] at H3
  generalize daV p ts n = V at *
  generalize daE p ts n = X at *
  generalize daE0 p ts = E at *
  generalize wsF p ts = S at *
  generalize pvE p = E1 at *
  generalize ctE ts = E2 at *
  generalize win6 n 0 1048576 = r at *
  unfold pvV at *
  obtain ⟨ld, lf, pw⟩ := p
  dsimp only at *
  clear hEE hF
  generalize ts.length = m at *
  by_cases hE : E = 0
  · have H5' := hide (unhide H5 hE)
    obtain ⟨⟨b1, b2⟩, b3⟩ := unhide H6 hE
    subst hE
    cases hr : r
    · rw [hr] at H4
      obtain ⟨rfl, rfl⟩ := g3 rfl hr
      clear g3 g4 g5 g6
      go_enter Tryz.func13, Tryz.ntmps13
      go_upto_region 1 with fail
      refine at_wpB (fun W hW => ?_)
      have hB : Bx W w.heap.size [.int .i64 ld, .int .i64 lf, .int .i64 pw] := by rw [hW]; exact bx_new w _ _
      have U : Up w W := by rw [hW]; exact (by repeat' (first | (with_reducible exact up_refl _) | (with_reducible assumption) | (with_reducible refine up_alloc ?_ _) | (with_reducible refine up_drewN ?_ _) | (with_reducible refine up_drew ?_) | (with_reducible refine up_set ?_ (by first | (simp; done) | (simp; omega) | omega) _) | (refine up_trans ?_ (by with_reducible assumption))))
      obtain ⟨c0, c1, c2⟩ := bx3 hB
      clear hW
      go_wp2_with (first | (go_at_call 32; (with_reducible refine (unhide H1 _).mono ?_); rintro e w1 ⟨rfl, hu1⟩; have s1 := bx_up hB hu1; obtain ⟨d0, d1, d2⟩ := bx3 s1) | (go_at_call 33; (with_reducible refine (unhide H2 _ (up_trans U hu1)).mono ?_); rintro e w2 ⟨rfl, hu2⟩; have s2 := bx_up s1 hu2) | (go_at_call 31; (with_reducible refine (unhide H3 _ _ (by go_cell) (by go_cell)).mono ?_); rintro e w3 ⟨rfl, hu3⟩; have s3 := bx_up (bx_up s2 (up_alloc (up_refl w2) _)) hu3; have U3 := up_trans (up_trans (up_trans U hu1) (up_trans hu2 (up_alloc (up_refl w2) _))) hu3; obtain ⟨f0, f1, f2⟩ := bx3 s3) | (go_at_call 34; (with_reducible refine (unhide H4 _).mono ?_); rintro e w4 ⟨rfl, rfl⟩) | (go_at_call 35; (with_reducible refine (unhide H5' _ U3).mono ?_); rintro e w5 ⟨rfl, hu5⟩; obtain ⟨g0, g1, g2⟩ := bx3 (bx_up s3 hu5); have U5 := up_trans U3 hu5) | (go_at_call 36; (with_reducible refine (unhide H7 _).mono ?_); rintro e w6 ⟨rfl, rfl⟩))
      go_ret2
      exact ⟨rfl, U3⟩
    · rw [hr] at H4
      have hn := HN hr
      by_cases hS : S ≤ 1073741824
      · have m0 : 0 ≤ S * 1000 * n ∧ S * 1000 * n ≤ 1073741824000 * 1048576 := ⟨Int.mul_nonneg (by omega) hn.1, Int.mul_le_mul (by omega) hn.2 hn.1 (by omega)⟩
        have w1 : IntKind.i64.wrap (S * 1000) = S * 1000 := IntWalk.i64_in _ ⟨by omega, by omega⟩
        have w2 : IntKind.i64.wrap (S * 1000 * n) = S * 1000 * n := IntWalk.i64_in _ ⟨by omega, by omega⟩
        have H7 := hide (fun W => p_up6 (S * 1000 * n) lf W ⟨m0.1, by omega⟩ ⟨b1, by omega⟩)
        have d1 : decide (S > 1073741824) = false := decide_eq_false (by omega)
        have d2 : decide (1073741824 < S) = false := decide_eq_false (by omega)
        clear m0
        obtain ⟨rfl, rfl⟩ := g4 rfl hr hS
        clear g3 g4 g5 g6
        go_enter Tryz.func13, Tryz.ntmps13
        go_upto_region 1 with fail
        refine at_wpB (fun W hW => ?_)
        have hB : Bx W w.heap.size [.int .i64 ld, .int .i64 lf, .int .i64 pw] := by rw [hW]; exact bx_new w _ _
        have U : Up w W := by rw [hW]; exact (by repeat' (first | (with_reducible exact up_refl _) | (with_reducible assumption) | (with_reducible refine up_alloc ?_ _) | (with_reducible refine up_drewN ?_ _) | (with_reducible refine up_drew ?_) | (with_reducible refine up_set ?_ (by first | (simp; done) | (simp; omega) | omega) _) | (refine up_trans ?_ (by with_reducible assumption))))
        obtain ⟨c0, c1, c2⟩ := bx3 hB
        clear hW
        go_wp2_with (first | (go_at_call 32; (with_reducible refine (unhide H1 _).mono ?_); rintro e w1 ⟨rfl, hu1⟩; have s1 := bx_up hB hu1; obtain ⟨d0, d1, d2⟩ := bx3 s1) | (go_at_call 33; (with_reducible refine (unhide H2 _ (up_trans U hu1)).mono ?_); rintro e w2 ⟨rfl, hu2⟩; have s2 := bx_up s1 hu2) | (go_at_call 31; (with_reducible refine (unhide H3 _ _ (by go_cell) (by go_cell)).mono ?_); rintro e w3 ⟨rfl, hu3⟩; have s3 := bx_up (bx_up s2 (up_alloc (up_refl w2) _)) hu3; have U3 := up_trans (up_trans (up_trans U hu1) (up_trans hu2 (up_alloc (up_refl w2) _))) hu3; obtain ⟨f0, f1, f2⟩ := bx3 s3) | (go_at_call 34; (with_reducible refine (unhide H4 _).mono ?_); rintro e w4 ⟨rfl, rfl⟩) | (go_at_call 35; (with_reducible refine (unhide H5' _ U3).mono ?_); rintro e w5 ⟨rfl, hu5⟩; obtain ⟨g0, g1, g2⟩ := bx3 (bx_up s3 hu5); have U5 := up_trans U3 hu5) | (go_at_call 36; (with_reducible refine (unhide H7 _).mono ?_); rintro e w6 ⟨rfl, rfl⟩))
        go_ret2
        exact ⟨rfl, U5⟩
      · obtain ⟨rfl, rfl⟩ := g5 rfl hr hS
        clear g3 g4 g5 g6
        have d1 : decide (S > 1073741824) = true := decide_eq_true (by omega)
        have d2 : decide (1073741824 < S) = true := decide_eq_true (by omega)
        go_enter Tryz.func13, Tryz.ntmps13
        go_upto_region 1 with fail
        refine at_wpB (fun W hW => ?_)
        have hB : Bx W w.heap.size [.int .i64 ld, .int .i64 lf, .int .i64 pw] := by rw [hW]; exact bx_new w _ _
        have U : Up w W := by rw [hW]; exact (by repeat' (first | (with_reducible exact up_refl _) | (with_reducible assumption) | (with_reducible refine up_alloc ?_ _) | (with_reducible refine up_drewN ?_ _) | (with_reducible refine up_drew ?_) | (with_reducible refine up_set ?_ (by first | (simp; done) | (simp; omega) | omega) _) | (refine up_trans ?_ (by with_reducible assumption))))
        obtain ⟨c0, c1, c2⟩ := bx3 hB
        clear hW
        go_wp2_with (first | (go_at_call 32; (with_reducible refine (unhide H1 _).mono ?_); rintro e w1 ⟨rfl, hu1⟩; have s1 := bx_up hB hu1; obtain ⟨d0, d1, d2⟩ := bx3 s1) | (go_at_call 33; (with_reducible refine (unhide H2 _ (up_trans U hu1)).mono ?_); rintro e w2 ⟨rfl, hu2⟩; have s2 := bx_up s1 hu2) | (go_at_call 31; (with_reducible refine (unhide H3 _ _ (by go_cell) (by go_cell)).mono ?_); rintro e w3 ⟨rfl, hu3⟩; have s3 := bx_up (bx_up s2 (up_alloc (up_refl w2) _)) hu3; have U3 := up_trans (up_trans (up_trans U hu1) (up_trans hu2 (up_alloc (up_refl w2) _))) hu3; obtain ⟨f0, f1, f2⟩ := bx3 s3) | (go_at_call 34; (with_reducible refine (unhide H4 _).mono ?_); rintro e w4 ⟨rfl, rfl⟩) | (go_at_call 35; (with_reducible refine (unhide H5' _ U3).mono ?_); rintro e w5 ⟨rfl, hu5⟩; obtain ⟨g0, g1, g2⟩ := bx3 (bx_up s3 hu5); have U5 := up_trans U3 hu5) | (go_at_call 36; (with_reducible refine (unhide H7 _).mono ?_); rintro e w6 ⟨rfl, rfl⟩))
        go_ret2
        exact ⟨rfl, U5⟩
  · have e1 : (E == 0) = false := by simp; exact hE
    obtain ⟨rfl, rfl⟩ := g6 hE
    clear g3 g4 g5 g6
    go_enter Tryz.func13, Tryz.ntmps13
    go_upto_region 1 with fail
    refine at_wpB (fun W hW => ?_)
    have hB : Bx W w.heap.size [.int .i64 ld, .int .i64 lf, .int .i64 pw] := by rw [hW]; exact bx_new w _ _
    have U : Up w W := by rw [hW]; exact (by repeat' (first | (with_reducible exact up_refl _) | (with_reducible assumption) | (with_reducible refine up_alloc ?_ _) | (with_reducible refine up_drewN ?_ _) | (with_reducible refine up_drew ?_) | (with_reducible refine up_set ?_ (by first | (simp; done) | (simp; omega) | omega) _) | (refine up_trans ?_ (by with_reducible assumption))))
    obtain ⟨c0, c1, c2⟩ := bx3 hB
    clear hW
    go_wp2_with (first | (go_at_call 32; (with_reducible refine (unhide H1 _).mono ?_); rintro e w1 ⟨rfl, hu1⟩; have s1 := bx_up hB hu1; obtain ⟨d0, d1, d2⟩ := bx3 s1) | (go_at_call 33; (with_reducible refine (unhide H2 _ (up_trans U hu1)).mono ?_); rintro e w2 ⟨rfl, hu2⟩; have s2 := bx_up s1 hu2) | (go_at_call 31; (with_reducible refine (unhide H3 _ _ (by go_cell) (by go_cell)).mono ?_); rintro e w3 ⟨rfl, hu3⟩; have s3 := bx_up (bx_up s2 (up_alloc (up_refl w2) _)) hu3; have U3 := up_trans (up_trans (up_trans U hu1) (up_trans hu2 (up_alloc (up_refl w2) _))) hu3; obtain ⟨f0, f1, f2⟩ := bx3 s3) | (go_at_call 34; (with_reducible refine (unhide H4 _).mono ?_); rintro e w4 ⟨rfl, rfl⟩) | (go_at_call 35; (with_reducible refine (unhide H5' _ U3).mono ?_); rintro e w5 ⟨rfl, hu5⟩; obtain ⟨g0, g1, g2⟩ := bx3 (bx_up s3 hu5); have U5 := up_trans U3 hu5) | (go_at_call 36; (with_reducible refine (unhide H7 _).mono ?_); rintro e w6 ⟨rfl, rfl⟩))
    go_ret2
    exact ⟨rfl, U3⟩
end Go.Proofs.YthifcalemhpmoaaGreat
namespace Go.Proofs.YthifcalemhpmoaaGreat
open Go.RowKit Go.Proofs.Gn
set_option linter.unusedVariables false
def lfE (p : Pav) (ts : List (Int × Int)) (n : Int) : Int := if daE0 p ts = 0 then (if win6 n 0 1000000 then (if wsF p ts ≤ 1073741824 then (if wsF p ts = 0 then 5 else 0) else 4) else 3) else daE0 p ts
def lqF (S lf n : Int) : Int := if (1000000 - n) * lf / (S * 1000) < 1048576 then (1000000 - n) * lf / (S * 1000) else 1048576
def lfV (p : Pav) (ts : List (Int × Int)) (n : Int) : Int := if lfE p ts n = 0 then lqF (wsF p ts) p.lf n else 0
set_option maxRecDepth 100000 in
set_option maxHeartbeats 4000000 in
theorem p_Left (p : Pav) (A : Option Addr) (ts : List (Int × Int)) (cap : Nat) (n : Int) (w : World) (hF : Frs w A ts) (hnt : ts.length ≤ 9223372036854775807) :
    Calls Tryz.prog 14 #[pvV p, .slice A ts.length cap, .int .i64 n] w fun e w' => e = .returned (.tuple #[.int .i64 (lfV p ts n), .int .i64 (lfE p ts n)]) ∧ Up w w' := by
  have H1 := hide (fun W => p_CheckPav p W)
  have H2 := hide (fun W (hU : Up w W) => p_CheckTrain A ts cap W (frs_up hF hU) hnt)
  have H3 := hide (fun (W : World) (g : Nat) h0 h1 => (show Calls Tryz.prog 31 #[.slice (some ⟨g, 0, none⟩) 2 2] W _ from p_Or (some ⟨g, 0, none⟩) [pvE p, ctE ts] 2 W (i6_2 h0 h1) (by simp)))
  have H4 := hide (fun W => p_w64 n 0 1000000 W)
  have H5 := hide (fun (hE : daE0 p ts = 0) W (hU : Up w W) => p_wears p A ts cap W (pvE_ok (orF_2 hE).1).1 (pvE_ok (orF_2 hE).1).2.2 (frs_up hF hU) (trOk_of (orF_2 hE).2).1)
  have H6 := hide (fun (hE : daE0 p ts = 0) => (⟨(pvE_ok (orF_2 hE).1).2.1, by have t := wsF_bd (p := p) (pvE_ok (orF_2 hE).1).1.1 (trOk_of (orF_2 hE).2).1 ts.length (Nat.le_refl _); rw [List.take_length] at t; exact t.1⟩ : (1 ≤ p.lf ∧ p.lf ≤ 1048576) ∧ 0 ≤ wsF p ts))
  have HN := fun (h : win6 n 0 1000000 = true) => win6_yes h
  have g3 : daE0 p ts = 0 → win6 n 0 1000000 = false → lfV p ts n = 0 ∧ lfE p ts n = 3 := fun a b => by
    have t : lfE p ts n = 3 := by unfold lfE; rw [if_pos a, b]; rfl
    exact ⟨by unfold lfV; rw [t]; rfl, t⟩
  have g4 : daE0 p ts = 0 → win6 n 0 1000000 = true → wsF p ts ≤ 1073741824 → wsF p ts ≠ 0 → lfV p ts n = lqF (wsF p ts) p.lf n ∧ lfE p ts n = 0 := fun a b c d => by
    have t : lfE p ts n = 0 := by unfold lfE; rw [if_pos a, if_pos b, if_pos c, if_neg d]
    exact ⟨by unfold lfV; rw [if_pos t], t⟩
  have g7 : daE0 p ts = 0 → win6 n 0 1000000 = true → wsF p ts = 0 → lfV p ts n = 0 ∧ lfE p ts n = 5 := fun a b d => by
    have t : lfE p ts n = 5 := by unfold lfE; rw [if_pos a, if_pos b, if_pos (by rw [d]; decide), if_pos d]
    exact ⟨by unfold lfV; rw [t]; rfl, t⟩
  have g5 : daE0 p ts = 0 → win6 n 0 1000000 = true → ¬ wsF p ts ≤ 1073741824 → lfV p ts n = 0 ∧ lfE p ts n = 4 := fun a b c => by
    have t : lfE p ts n = 4 := by unfold lfE; rw [if_pos a, if_pos b, if_neg c]
    exact ⟨by unfold lfV; rw [t]; rfl, t⟩
  have g6 : daE0 p ts ≠ 0 → lfV p ts n = 0 ∧ lfE p ts n = daE0 p ts := fun a => by
    have t : lfE p ts n = daE0 p ts := by unfold lfE; rw [if_neg a]
    exact ⟨by unfold lfV; rw [t, if_neg a], t⟩
  have hEE : orF [pvE p, ctE ts] = daE0 p ts := rfl
  rw [hEE] at H3
  generalize lfV p ts n = V at *
  generalize lfE p ts n = X at *
  generalize daE0 p ts = E at *
  generalize wsF p ts = S at *
  generalize pvE p = E1 at *
  generalize ctE ts = E2 at *
  generalize win6 n 0 1000000 = r at *
  unfold pvV at *
  obtain ⟨ld, lf, pw⟩ := p
  dsimp only at *
  clear hEE hF
  generalize ts.length = m at *
  by_cases hE : E = 0
  · have H5' := hide (unhide H5 hE)
    obtain ⟨⟨b1, b2⟩, b3⟩ := unhide H6 hE
    subst hE
    cases hr : r
    · rw [hr] at H4
      obtain ⟨rfl, rfl⟩ := g3 rfl hr
      clear g3 g4 g5 g6 g7
      go_enter Tryz.func14, Tryz.ntmps14
      go_upto_region 1 with fail
      refine at_wpB (fun W hW => ?_)
      have hB : Bx W w.heap.size [.int .i64 ld, .int .i64 lf, .int .i64 pw] := by rw [hW]; exact bx_new w _ _
      have U : Up w W := by rw [hW]; exact (by repeat' (first | (with_reducible exact up_refl _) | (with_reducible assumption) | (with_reducible refine up_alloc ?_ _) | (with_reducible refine up_drewN ?_ _) | (with_reducible refine up_drew ?_) | (with_reducible refine up_set ?_ (by first | (simp; done) | (simp; omega) | omega) _) | (refine up_trans ?_ (by with_reducible assumption))))
      obtain ⟨c0, c1, c2⟩ := bx3 hB
      clear hW
      go_wp2_with (first | (go_at_call 32; (with_reducible refine (unhide H1 _).mono ?_); rintro e w1 ⟨rfl, hu1⟩; have s1 := bx_up hB hu1; obtain ⟨d0, d1, d2⟩ := bx3 s1) | (go_at_call 33; (with_reducible refine (unhide H2 _ (up_trans U hu1)).mono ?_); rintro e w2 ⟨rfl, hu2⟩; have s2 := bx_up s1 hu2) | (go_at_call 31; (with_reducible refine (unhide H3 _ _ (by go_cell) (by go_cell)).mono ?_); rintro e w3 ⟨rfl, hu3⟩; have s3 := bx_up (bx_up s2 (up_alloc (up_refl w2) _)) hu3; have U3 := up_trans (up_trans (up_trans U hu1) (up_trans hu2 (up_alloc (up_refl w2) _))) hu3; obtain ⟨f0, f1, f2⟩ := bx3 s3) | (go_at_call 34; (with_reducible refine (unhide H4 _).mono ?_); rintro e w4 ⟨rfl, rfl⟩) | (go_at_call 35; (with_reducible refine (unhide H5' _ U3).mono ?_); rintro e w5 ⟨rfl, hu5⟩; obtain ⟨g0, g1, g2⟩ := bx3 (bx_up s3 hu5); have U5 := up_trans U3 hu5) | (go_at_call 36; (with_reducible refine (unhide H7 _).mono ?_); rintro e w6 ⟨rfl, rfl⟩))
      go_ret2
      exact ⟨rfl, U3⟩
    · rw [hr] at H4
      have hn := HN hr
      by_cases hS : S ≤ 1073741824
      · by_cases hS0 : S = 0
        · obtain ⟨rfl, rfl⟩ := g7 rfl hr hS0
          clear g3 g4 g5 g6 g7
          subst hS0
          go_enter Tryz.func14, Tryz.ntmps14
          go_upto_region 1 with fail
          refine at_wpB (fun W hW => ?_)
          have hB : Bx W w.heap.size [.int .i64 ld, .int .i64 lf, .int .i64 pw] := by rw [hW]; exact bx_new w _ _
          have U : Up w W := by rw [hW]; exact (by repeat' (first | (with_reducible exact up_refl _) | (with_reducible assumption) | (with_reducible refine up_alloc ?_ _) | (with_reducible refine up_drewN ?_ _) | (with_reducible refine up_drew ?_) | (with_reducible refine up_set ?_ (by first | (simp; done) | (simp; omega) | omega) _) | (refine up_trans ?_ (by with_reducible assumption))))
          obtain ⟨c0, c1, c2⟩ := bx3 hB
          clear hW
          go_wp2_with (first | (go_at_call 32; (with_reducible refine (unhide H1 _).mono ?_); rintro e w1 ⟨rfl, hu1⟩; have s1 := bx_up hB hu1; obtain ⟨d0, d1, d2⟩ := bx3 s1) | (go_at_call 33; (with_reducible refine (unhide H2 _ (up_trans U hu1)).mono ?_); rintro e w2 ⟨rfl, hu2⟩; have s2 := bx_up s1 hu2) | (go_at_call 31; (with_reducible refine (unhide H3 _ _ (by go_cell) (by go_cell)).mono ?_); rintro e w3 ⟨rfl, hu3⟩; have s3 := bx_up (bx_up s2 (up_alloc (up_refl w2) _)) hu3; have U3 := up_trans (up_trans (up_trans U hu1) (up_trans hu2 (up_alloc (up_refl w2) _))) hu3; obtain ⟨f0, f1, f2⟩ := bx3 s3) | (go_at_call 34; (with_reducible refine (unhide H4 _).mono ?_); rintro e w4 ⟨rfl, rfl⟩) | (go_at_call 35; (with_reducible refine (unhide H5' _ U3).mono ?_); rintro e w5 ⟨rfl, hu5⟩; obtain ⟨g0, g1, g2⟩ := bx3 (bx_up s3 hu5); have U5 := up_trans U3 hu5) | (go_at_call 36; (with_reducible refine (unhide H7 _).mono ?_); rintro e w6 ⟨rfl, rfl⟩))
          go_ret2
          exact ⟨rfl, U5⟩
        · obtain ⟨rfl, rfl⟩ := g4 rfl hr hS hS0
          clear g3 g4 g5 g6 g7
          have s0 : (S == 0) = false := by simp; exact hS0
          have s1 : 1 ≤ S := by omega
          have m0 : 0 ≤ (1000000 - n) * lf ∧ (1000000 - n) * lf ≤ 1000000 * 1048576 := ⟨Int.mul_nonneg (by omega) (by omega), Int.mul_le_mul (by omega) b2 (by omega) (by omega)⟩
          have w1 : IntKind.i64.wrap (S * 1000) = S * 1000 := IntWalk.i64_in _ ⟨by omega, by omega⟩
          have w2 : IntKind.i64.wrap (1000000 - n) = 1000000 - n := IntWalk.i64_in _ ⟨by omega, by omega⟩
          have w3 : IntKind.i64.wrap ((1000000 - n) * lf) = (1000000 - n) * lf := IntWalk.i64_in _ ⟨by omega, by omega⟩
          have d1 : decide (S > 1073741824) = false := decide_eq_false (by omega)
          have d2 : decide (1073741824 < S) = false := decide_eq_false (by omega)
          have e1 : ((1000000 - n) * lf).tdiv (S * 1000) = (1000000 - n) * lf / (S * 1000) := Int.tdiv_eq_ediv_of_nonneg m0.1
          have q0 : 0 ≤ (1000000 - n) * lf / (S * 1000) := Int.ediv_nonneg m0.1 (by omega)
          have q1 : (1000000 - n) * lf / (S * 1000) ≤ (1000000 - n) * lf := Int.ediv_le_self _ m0.1
          unfold lqF
          obtain ⟨y, hy⟩ : ∃ y, (1000000 - n) * lf / (S * 1000) = y := ⟨_, rfl⟩
          rw [hy] at e1 q0 q1 ⊢
          have w4 : IntKind.i64.wrap (((1000000 - n) * lf).tdiv (S * 1000)) = y := by rw [e1]; exact IntWalk.i64_in _ ⟨by omega, by omega⟩
          have w5 : IntKind.i64.wrap y = y := IntWalk.i64_in _ ⟨by omega, by omega⟩
          have n0 : S * 1000 ≠ 0 := by omega
          clear m0 q1 hy
          by_cases hyy : y < 1048576
          · rw [if_pos hyy]
            have mm : min (1048576 : Int) y = y := by omega
            have mm' : min y (1048576 : Int) = y := by omega
            go_enter Tryz.func14, Tryz.ntmps14
            go_upto_region 1 with fail
            refine at_wpB (fun W hW => ?_)
            have hB : Bx W w.heap.size [.int .i64 ld, .int .i64 lf, .int .i64 pw] := by rw [hW]; exact bx_new w _ _
            have U : Up w W := by rw [hW]; exact (by repeat' (first | (with_reducible exact up_refl _) | (with_reducible assumption) | (with_reducible refine up_alloc ?_ _) | (with_reducible refine up_drewN ?_ _) | (with_reducible refine up_drew ?_) | (with_reducible refine up_set ?_ (by first | (simp; done) | (simp; omega) | omega) _) | (refine up_trans ?_ (by with_reducible assumption))))
            obtain ⟨c0, c1, c2⟩ := bx3 hB
            clear hW
            go_wp2_with (first | (go_at_call 32; (with_reducible refine (unhide H1 _).mono ?_); rintro e w1 ⟨rfl, hu1⟩; have s1 := bx_up hB hu1; obtain ⟨d0, d1, d2⟩ := bx3 s1) | (go_at_call 33; (with_reducible refine (unhide H2 _ (up_trans U hu1)).mono ?_); rintro e w2 ⟨rfl, hu2⟩; have s2 := bx_up s1 hu2) | (go_at_call 31; (with_reducible refine (unhide H3 _ _ (by go_cell) (by go_cell)).mono ?_); rintro e w3 ⟨rfl, hu3⟩; have s3 := bx_up (bx_up s2 (up_alloc (up_refl w2) _)) hu3; have U3 := up_trans (up_trans (up_trans U hu1) (up_trans hu2 (up_alloc (up_refl w2) _))) hu3; obtain ⟨f0, f1, f2⟩ := bx3 s3) | (go_at_call 34; (with_reducible refine (unhide H4 _).mono ?_); rintro e w4 ⟨rfl, rfl⟩) | (go_at_call 35; (with_reducible refine (unhide H5' _ U3).mono ?_); rintro e w5 ⟨rfl, hu5⟩; obtain ⟨g0, g1, g2⟩ := bx3 (bx_up s3 hu5); have U5 := up_trans U3 hu5) | (go_at_call 36; (with_reducible refine (unhide H7 _).mono ?_); rintro e w6 ⟨rfl, rfl⟩))
            go_ret2
            exact ⟨rfl, U5⟩
          · rw [if_neg hyy]
            have mm : min (1048576 : Int) y = 1048576 := by omega
            have mm' : min y (1048576 : Int) = 1048576 := by omega
            have k1 : decide (y < 1048576) = false := decide_eq_false hyy
            go_enter Tryz.func14, Tryz.ntmps14
            go_upto_region 1 with fail
            refine at_wpB (fun W hW => ?_)
            have hB : Bx W w.heap.size [.int .i64 ld, .int .i64 lf, .int .i64 pw] := by rw [hW]; exact bx_new w _ _
            have U : Up w W := by rw [hW]; exact (by repeat' (first | (with_reducible exact up_refl _) | (with_reducible assumption) | (with_reducible refine up_alloc ?_ _) | (with_reducible refine up_drewN ?_ _) | (with_reducible refine up_drew ?_) | (with_reducible refine up_set ?_ (by first | (simp; done) | (simp; omega) | omega) _) | (refine up_trans ?_ (by with_reducible assumption))))
            obtain ⟨c0, c1, c2⟩ := bx3 hB
            clear hW
            go_wp2_with (first | (go_at_call 32; (with_reducible refine (unhide H1 _).mono ?_); rintro e w1 ⟨rfl, hu1⟩; have s1 := bx_up hB hu1; obtain ⟨d0, d1, d2⟩ := bx3 s1) | (go_at_call 33; (with_reducible refine (unhide H2 _ (up_trans U hu1)).mono ?_); rintro e w2 ⟨rfl, hu2⟩; have s2 := bx_up s1 hu2) | (go_at_call 31; (with_reducible refine (unhide H3 _ _ (by go_cell) (by go_cell)).mono ?_); rintro e w3 ⟨rfl, hu3⟩; have s3 := bx_up (bx_up s2 (up_alloc (up_refl w2) _)) hu3; have U3 := up_trans (up_trans (up_trans U hu1) (up_trans hu2 (up_alloc (up_refl w2) _))) hu3; obtain ⟨f0, f1, f2⟩ := bx3 s3) | (go_at_call 34; (with_reducible refine (unhide H4 _).mono ?_); rintro e w4 ⟨rfl, rfl⟩) | (go_at_call 35; (with_reducible refine (unhide H5' _ U3).mono ?_); rintro e w5 ⟨rfl, hu5⟩; obtain ⟨g0, g1, g2⟩ := bx3 (bx_up s3 hu5); have U5 := up_trans U3 hu5) | (go_at_call 36; (with_reducible refine (unhide H7 _).mono ?_); rintro e w6 ⟨rfl, rfl⟩))
            go_ret2
            exact ⟨rfl, U5⟩
      · obtain ⟨rfl, rfl⟩ := g5 rfl hr hS
        clear g3 g4 g5 g6 g7
        have d1 : decide (S > 1073741824) = true := decide_eq_true (by omega)
        have d2 : decide (1073741824 < S) = true := decide_eq_true (by omega)
        go_enter Tryz.func14, Tryz.ntmps14
        go_upto_region 1 with fail
        refine at_wpB (fun W hW => ?_)
        have hB : Bx W w.heap.size [.int .i64 ld, .int .i64 lf, .int .i64 pw] := by rw [hW]; exact bx_new w _ _
        have U : Up w W := by rw [hW]; exact (by repeat' (first | (with_reducible exact up_refl _) | (with_reducible assumption) | (with_reducible refine up_alloc ?_ _) | (with_reducible refine up_drewN ?_ _) | (with_reducible refine up_drew ?_) | (with_reducible refine up_set ?_ (by first | (simp; done) | (simp; omega) | omega) _) | (refine up_trans ?_ (by with_reducible assumption))))
        obtain ⟨c0, c1, c2⟩ := bx3 hB
        clear hW
        go_wp2_with (first | (go_at_call 32; (with_reducible refine (unhide H1 _).mono ?_); rintro e w1 ⟨rfl, hu1⟩; have s1 := bx_up hB hu1; obtain ⟨d0, d1, d2⟩ := bx3 s1) | (go_at_call 33; (with_reducible refine (unhide H2 _ (up_trans U hu1)).mono ?_); rintro e w2 ⟨rfl, hu2⟩; have s2 := bx_up s1 hu2) | (go_at_call 31; (with_reducible refine (unhide H3 _ _ (by go_cell) (by go_cell)).mono ?_); rintro e w3 ⟨rfl, hu3⟩; have s3 := bx_up (bx_up s2 (up_alloc (up_refl w2) _)) hu3; have U3 := up_trans (up_trans (up_trans U hu1) (up_trans hu2 (up_alloc (up_refl w2) _))) hu3; obtain ⟨f0, f1, f2⟩ := bx3 s3) | (go_at_call 34; (with_reducible refine (unhide H4 _).mono ?_); rintro e w4 ⟨rfl, rfl⟩) | (go_at_call 35; (with_reducible refine (unhide H5' _ U3).mono ?_); rintro e w5 ⟨rfl, hu5⟩; obtain ⟨g0, g1, g2⟩ := bx3 (bx_up s3 hu5); have U5 := up_trans U3 hu5) | (go_at_call 36; (with_reducible refine (unhide H7 _).mono ?_); rintro e w6 ⟨rfl, rfl⟩))
        go_ret2
        exact ⟨rfl, U5⟩
  · have e1 : (E == 0) = false := by simp; exact hE
    obtain ⟨rfl, rfl⟩ := g6 hE
    clear g3 g4 g5 g6 g7
    go_enter Tryz.func14, Tryz.ntmps14
    go_upto_region 1 with fail
    refine at_wpB (fun W hW => ?_)
    have hB : Bx W w.heap.size [.int .i64 ld, .int .i64 lf, .int .i64 pw] := by rw [hW]; exact bx_new w _ _
    have U : Up w W := by rw [hW]; exact (by repeat' (first | (with_reducible exact up_refl _) | (with_reducible assumption) | (with_reducible refine up_alloc ?_ _) | (with_reducible refine up_drewN ?_ _) | (with_reducible refine up_drew ?_) | (with_reducible refine up_set ?_ (by first | (simp; done) | (simp; omega) | omega) _) | (refine up_trans ?_ (by with_reducible assumption))))
    obtain ⟨c0, c1, c2⟩ := bx3 hB
    clear hW
    go_wp2_with (first | (go_at_call 32; (with_reducible refine (unhide H1 _).mono ?_); rintro e w1 ⟨rfl, hu1⟩; have s1 := bx_up hB hu1; obtain ⟨d0, d1, d2⟩ := bx3 s1) | (go_at_call 33; (with_reducible refine (unhide H2 _ (up_trans U hu1)).mono ?_); rintro e w2 ⟨rfl, hu2⟩; have s2 := bx_up s1 hu2) | (go_at_call 31; (with_reducible refine (unhide H3 _ _ (by go_cell) (by go_cell)).mono ?_); rintro e w3 ⟨rfl, hu3⟩; have s3 := bx_up (bx_up s2 (up_alloc (up_refl w2) _)) hu3; have U3 := up_trans (up_trans (up_trans U hu1) (up_trans hu2 (up_alloc (up_refl w2) _))) hu3; obtain ⟨f0, f1, f2⟩ := bx3 s3) | (go_at_call 34; (with_reducible refine (unhide H4 _).mono ?_); rintro e w4 ⟨rfl, rfl⟩) | (go_at_call 35; (with_reducible refine (unhide H5' _ U3).mono ?_); rintro e w5 ⟨rfl, hu5⟩; obtain ⟨g0, g1, g2⟩ := bx3 (bx_up s3 hu5); have U5 := up_trans U3 hu5) | (go_at_call 36; (with_reducible refine (unhide H7 _).mono ?_); rintro e w6 ⟨rfl, rfl⟩))
    go_ret2
    exact ⟨rfl, U3⟩
end Go.Proofs.YthifcalemhpmoaaGreat
namespace Go.Proofs.YthifcalemhpmoaaGreat
open Go.RowKit Go.Proofs.Gn Go.ChangeShapes Go.WideShapes Go.Deep Go.Joins Go.ChangeAt
/-- Boxes that are read, and their bounds. -/
def BxsOk (w : World) (A : Option Addr) (bs : List Bxe) : Prop := Bxes w A bs ∧ ∀ k (h : k < bs.length), okBxe bs[k]
instance : Inhabited Bxe := ⟨⟨0, 0, 0, 0, 0, 0, 0⟩⟩
theorem Tryz.laidOutBx : laidOutB Tryz.prog = true := by kernel_rfl
theorem Tryz.readBoxes : Tryz.prog.readableRec 22 = true := by kernel_rfl
theorem Tryz.cellsBox : Tryz.prog.cellsOf 55 = 7 := by kernel_rfl
theorem Tryz.cellsU8B : Tryz.prog.cellsOf 5 = 1 := by kernel_rfl
theorem Tryz.cellsU16B : Tryz.prog.cellsOf 46 = 1 := by kernel_rfl
theorem add_atB {a : Addr} (h : a.spot = none) (n : Nat) : a.add n = ⟨a.block, a.off + n, none⟩ := by
  obtain ⟨b, o, s⟩ := a
  subst h
  unfold Addr.add
  split
  · subst n; rfl
  · rfl
set_option maxRecDepth 100000 in
theorem boxes_open {H : Type} {enc : TypeId × Value → H} {W : World} {base : Nat} {v : Value} {d : DataW H} {p : List MemPlace} (h : DataW.Trod enc Tryz.prog W base (fun _ => true) true 22 v d p) (hv : ∃ a len cap, v = .slice a len cap) :
    ∃ A bs cap, v = .slice A (List.length bs) cap ∧ BxsOk W A bs ∧ bs.length ≤ 9223372036854775807 := by
  obtain ⟨a0, len0, cap0, rfl⟩ := hv
  obtain ⟨fuel, hf⟩ := h
  simp only [Value.cells] at hf
  rcases open_slice Tryz.underlying22 hf with ⟨hc, _⟩ | ⟨a, len, cap, m, n, D, Pl, hc, hb, hl, hm, hmm, hx, hi⟩
  · simp only [List.cons.injEq, and_true] at hc
    exact ⟨none, [], 0, hc, ⟨.inl rfl, fun k hk => by simp at hk⟩, by simp⟩
  · simp only [List.cons.injEq, and_true] at hc
    have hlm : len ≤ m := by rw [hmm]; split <;> omega
    by_cases h0 : len = 0
    · subst h0
      exact ⟨some a, [], cap, by simpa using hc, ⟨.inl rfl, fun k hk => by simp at hk⟩, by simp⟩
    have hs : a.spot = none := by
      obtain ⟨cs', h1, h2⟩ := hi 0 (by omega)
      rw [Tryz.cellsBox] at h1
      obtain ⟨_, hlen, hcell⟩ := World.cells?_some h1
      match cs', hlen with
      | [v0, v1, v2, v3, v4, v5, v6], _ =>
        have c0 := hcell 0 (by omega)
        simpa [Addr.add] using World.cell?_spot c0
    have each : ∀ i, i < len → ∃ s : Bxe, BxeAt W a.block (a.off + i * 7) s ∧ okBxe s := by
      intro i hlt
      obtain ⟨cs', h1, h2⟩ := hi i (by omega)
      rw [Tryz.cellsBox] at h1
      obtain ⟨_, hlen, hcell⟩ := World.cells?_some h1
      obtain ⟨xs, k, hk, hxy, _, hxl, hg⟩ := DataW.trod_struct Tryz.underlying55 h2
      match xs, hxl, cs', hlen with
      | [y0, y1, y2, y3, y4, y5, y6], _, [v0, v1, v2, v3, v4, v5, v6], _ =>
        have g0 := hg 0 _ rfl
        have g1 := hg 1 _ rfl
        have g2 := hg 2 _ rfl
        have g3 := hg 3 _ rfl
        have g4 := hg 4 _ rfl
        have g5 := hg 5 _ rfl
        have g6 := hg 6 _ rfl
        simp [Tryz.cellsU8B, Tryz.cellsU16B] at g0 g1 g2 g3 g4 g5 g6
        obtain ⟨x0, e0, _, w0⟩ := DataW.trod_int Tryz.underlying5 g0
        obtain ⟨x1, e1, _, w1⟩ := DataW.trod_int Tryz.underlying5 g1
        obtain ⟨x2, e2, _, w2⟩ := DataW.trod_int Tryz.underlying5 g2
        obtain ⟨x3, e3, _, w3⟩ := DataW.trod_int Tryz.underlying5 g3
        obtain ⟨x4, e4, _, w4⟩ := DataW.trod_int Tryz.underlying5 g4
        obtain ⟨x5, e5, _, w5⟩ := DataW.trod_int Tryz.underlying5 g5
        obtain ⟨x6, e6, _, w6⟩ := DataW.trod_int Tryz.underlying46 g6
        simp only [List.cons.injEq, and_true] at e0 e1 e2 e3 e4 e5 e6
        subst e0 e1 e2 e3 e4 e5 e6
        have c0 := hcell 0 (by omega)
        have c1 := hcell 1 (by omega)
        have c2 := hcell 2 (by omega)
        have c3 := hcell 3 (by omega)
        have c4 := hcell 4 (by omega)
        have c5 := hcell 5 (by omega)
        have c6 := hcell 6 (by omega)
        rw [add_add, add_atB hs] at c0 c1 c2 c3 c4 c5 c6
        exact ⟨⟨x0, x1, x2, x3, x4, x5, x6⟩, ⟨by simpa using c0, by simpa [Nat.add_assoc] using c1, by simpa [Nat.add_assoc] using c2, by simpa [Nat.add_assoc] using c3, by simpa [Nat.add_assoc] using c4, by simpa [Nat.add_assoc] using c5, by simpa [Nat.add_assoc] using c6⟩, ⟨bounds_u8 w0, bounds_u8 w1, bounds_u8 w2, bounds_u8 w3, bounds_u8 w4, bounds_u8 w5, bounds_u16 w6⟩⟩
    obtain ⟨q, hq⟩ := choose_lt each
    refine ⟨some a, (List.range len).map q, cap, by simpa using hc, ⟨?_, fun k hk => ?_⟩, by simp [maxLen] at hm ⊢; omega⟩
    · refine .inr ⟨a.block, a.off, by obtain ⟨_, _, _⟩ := a; subst hs; rfl, fun k hk => ?_⟩
      have hk2 : k < len := by simpa using hk
      have := (hq k hk2).1
      simpa using this
    · have hk2 : k < len := by simpa using hk
      have := (hq k hk2).2
      simpa using this
/-- The boxes read as they did. -/
theorem boxes_shut {H : Type} {enc : TypeId × Value → H} {W W' : World} {sp : Nat → Bool} {v : Value} {d : DataW H} {p : List MemPlace} (h : DataW.Trod enc Tryz.prog W 0 (fun _ => true) true 22 v d p) (hb : Below W.heap.size W W') (hlt : ∀ x ∈ p, x.block < W.heap.size) (hsp : ∀ x ∈ p, sp x.block = true) :
    DataW.Trod enc Tryz.prog W' 0 sp true 22 v d p :=
  WideElems.Trod_stays Tryz.laidOutBx Tryz.readBoxes (of_decide_eq_true (by kernel_rfl)) h (fun x hx => hb.same (hlt x hx)) hsp
end Go.Proofs.YthifcalemhpmoaaGreat
namespace Go.Proofs.YthifcalemhpmoaaGreat
open Go.RowKit Go.Proofs.Gn
set_option linter.unusedVariables false
def moLn (s : Nat) (x org len : Int) (bl bx : Nat) : Ln := { span := s, po := x, org := org, c0 := 0, c1 := x, c2 := len, f := 107, caps := #[.pointer (some ⟨bl, 0, none⟩), .pointer (some ⟨bx, 0, none⟩)], val := moL len x }
@[local go_sem] theorem run_store_fn6 {P : Program} {w : World} {a : Addr} {m : Mode} (fn : Fn) (first captured : Array Value) : (store a (.func fn first captured) m).run P w = stored P w a (.func fn first captured) m := run_store P w a _ m rfl
theorem moLn_ok {s : Nat} {x org len : Int} {bl bx : Nat} {w : World} (hl : w.cell? ⟨bl, 0, none⟩ = some (.int .i64 len)) (hx : w.cell? ⟨bx, 0, none⟩ = some (.int .i64 x)) (h1 : 0 ≤ len ∧ len ≤ 131072) (h2 : 0 ≤ x ∧ x ≤ len) (h3 : 0 ≤ org ∧ org ≤ 1048576) : LnOk (moLn s x org len bl bx) w :=
  ⟨fun W hW a a1 a2 => (p_mom1 bl bx len x a W (up_cell hW hl) (up_cell hW hx) h1 ⟨h2.1, by omega⟩ ⟨a1, a2⟩).mono (fun e w' ⟨he, hw⟩ => ⟨he, hw ▸ up_refl W⟩),
   enters_of Tryz.func107 (by kernel_rfl) rfl, fun a => mo_bd6 a h1 h2, h3⟩
theorem moLn_kp {s : Nat} {x org len : Int} {bl bx : Nat} {w : World} (hl : w.cell? ⟨bl, 0, none⟩ = some (.int .i64 len)) (hx : w.cell? ⟨bx, 0, none⟩ = some (.int .i64 x)) (h1 : 0 ≤ len ∧ len ≤ 131072) (h2 : 0 ≤ x ∧ x ≤ len) (h3 : 0 ≤ org ∧ org ≤ 1048576) :
    ∀ (p : Nat → Prop), (∀ k, p k → w.heap.size ≤ k) → ∀ W W', Below w.heap.size w W → KpP p W W' → LnOk (moLn s x org len bl bx) W → LnOk (moLn s x org len bl bx) W' := fun p hp W W' hb hk _ => by
  have b1 : bl < w.heap.size := World.block_lt_of_cell? _ _ hl
  have b2 : bx < w.heap.size := World.block_lt_of_cell? _ _ hx
  exact moLn_ok (kpP_cell hk (a := ⟨bl, 0, none⟩) (fun e => by have := hp _ e; simp only at this; omega) (up_cell hb hl)) (kpP_cell hk (a := ⟨bx, 0, none⟩) (fun e => by have := hp _ e; simp only at this; omega) (up_cell hb hx)) h1 h2 h3
theorem moLn_co {s : Nat} {x org len : Int} {bl bx : Nat} (h1 : 0 ≤ len ∧ len ≤ 131072) (h2 : 0 ≤ x ∧ x ≤ len) (h3 : 0 ≤ org ∧ org ≤ 1048576) : CoOk (moLn s x org len bl bx) := by
  unfold CoOk moLn
  dsimp only
  omega
set_option maxRecDepth 100000 in
set_option maxHeartbeats 4000000 in
theorem p_ofMoment (b : Brg) (s : Nat) (x : Int) (w : World) (h : BgAt w b) (hs : s < b.sp.length) (hn : b.sp.length ≤ 6) (hv : ∀ k (h : k < b.sp.length), 0 ≤ b.sp[k] ∧ b.sp[k] ≤ 131072) (hcap : b.sp.length ≤ b.k0) :
    Calls Tryz.prog 70 #[bgV b, .int .i64 s, .int .i64 x] w fun e w' => ∃ bl bx, e = .returned (lnV (moLn s x (beS b.sp s) b.sp[s] bl bx)) ∧ Up w w' ∧ w'.cell? ⟨bl, 0, none⟩ = some (.int .i64 b.sp[s]) ∧ w'.cell? ⟨bx, 0, none⟩ = some (.int .i64 x) := by
  have HB := hide (fun W (hU : Up w W) => p_beginning b s W (bgAt_up h hU) hs hn hv hcap)
  obtain ⟨o, ho⟩ : ∃ o, beS b.sp s = o := ⟨_, rfl⟩
  rw [ho] at HB ⊢
  rcases h.s with hnil | ⟨B, off, hA, hcc⟩
  · rw [hnil] at hs; simp at hs
  have c0 := hcc s hs
  obtain ⟨v, hv2⟩ : ∃ v, b.sp[s] = v := ⟨_, rfl⟩
  rw [hv2] at c0 ⊢
  unfold lnV moLn
  unfold bgV at HB ⊢
  rw [hA] at HB ⊢
  obtain ⟨n, hN⟩ : ∃ n, b.sp.length = n := ⟨_, rfl⟩
  rw [hN] at HB hs ⊢
  have i0 : (0 : Int) ≤ (s : Int) := by omega
  have i1 : (s : Int) < (n : Int) := by omega
  have i2 : (s : Int).toNat = s := by omega
  clear hN hv2 hA hcc ho hv hn hcap h hs
  have hmx : Tryz.prog.follows .mixedOrders = true := by kernel_rfl
  go_enter Tryz.func70, Tryz.ntmps70
  go_upto_region 1 with fail
  refine at_wpB (fun W1 hW1 => ?_)
  have U1 : Up w W1 := by rw [hW1]; exact (by repeat' (first | (with_reducible exact up_refl _) | (with_reducible assumption) | (with_reducible refine up_alloc ?_ _) | (with_reducible refine up_drewN ?_ _) | (with_reducible refine up_drew ?_) | (with_reducible refine up_set ?_ (by first | (simp; done) | (simp; omega) | omega) _) | (refine up_trans ?_ (by with_reducible assumption))))
  have c1 := up_cell U1 c0
  have hz1 : W1.heap.size = w.heap.size + 3 := by rw [hW1]; simp
  obtain ⟨m3, m5, m6⟩ : Bx W1 w.heap.size [.slice (some ⟨B, off, none⟩) n b.k0, .slice b.A1 b.mo.length b.k1, .slice b.A2 b.sh.length b.k2, .int .i64 b.dy, .int .i64 b.la, .int .i64 b.tr] ∧ Bx W1 (w.heap.size + 1) [.int .i64 x] ∧ Bx W1 (w.heap.size + 1 + 1) [.int .i64 0, .int .i64 0, .int .i64 0, .int .i64 0, .int .i64 0, .int .i64 0, .nilFunc] := by
    rw [hW1]
    refine ⟨bx_alloc (bx_alloc (bx_new w _ _) _) _, ?_, ?_⟩
    · have t := bx_new (w.alloc (.cells #[.slice (some ⟨B, off, none⟩) n b.k0, .slice b.A1 b.mo.length b.k1, .slice b.A2 b.sh.length b.k2, .int .i64 b.dy, .int .i64 b.la, .int .i64 b.tr] 91)) [.int .i64 x] 2
      rw [World.size_alloc] at t
      exact bx_alloc t _
    · have t := bx_new ((w.alloc (.cells #[.slice (some ⟨B, off, none⟩) n b.k0, .slice b.A1 b.mo.length b.k1, .slice b.A2 b.sh.length b.k2, .int .i64 b.dy, .int .i64 b.la, .int .i64 b.tr] 91)).alloc (.cells #[.int .i64 x] 2)) [.int .i64 0, .int .i64 0, .int .i64 0, .int .i64 0, .int .i64 0, .int .i64 0, .nilFunc] 139
      rw [World.size_alloc, World.size_alloc] at t
      exact t
  obtain ⟨d0, d1, d2, d3, d4, d5⟩ := bgc m3
  have g0 := bx1 m5
  clear hW1 c0
  go_upto_region 2 with fail
  refine at_wpB (fun W hW => ?_)
  have U : Up w W := by rw [hW]; exact up_alloc U1 _
  have U2 : Up W1 W := by rw [hW]; exact up_alloc (up_refl W1) _
  have n3 := bx_up m3 U2
  have n5 := bx_up m5 U2
  have n6 := bx_up m6 U2
  have n7 : Bx W (w.heap.size + 3) [.int .i64 v] := by rw [hW, ← hz1]; exact bx_new W1 _ _
  clear hW d0 d1 d2 d3 d4 d5 g0 m3 m5 m6 c1 U1 U2
  clear hz1
  have e0 : ∀ q : UpW W, q.v.cell? ⟨w.heap.size, 0, none⟩ = some (.slice (some ⟨B, off, none⟩) n b.k0) := fun q => (bx_up n3 q.up 0 _ rfl).1
  have e1 : ∀ q : UpW W, q.v.cell? ⟨w.heap.size, 1, none⟩ = some (.slice b.A1 b.mo.length b.k1) := fun q => (bx_up n3 q.up 1 _ rfl).1
  have e2 : ∀ q : UpW W, q.v.cell? ⟨w.heap.size, 2, none⟩ = some (.slice b.A2 b.sh.length b.k2) := fun q => (bx_up n3 q.up 2 _ rfl).1
  have e3 : ∀ q : UpW W, q.v.cell? ⟨w.heap.size, 3, none⟩ = some (.int .i64 b.dy) := fun q => (bx_up n3 q.up 3 _ rfl).1
  have e4 : ∀ q : UpW W, q.v.cell? ⟨w.heap.size, 4, none⟩ = some (.int .i64 b.la) := fun q => (bx_up n3 q.up 4 _ rfl).1
  have e5 : ∀ q : UpW W, q.v.cell? ⟨w.heap.size, 5, none⟩ = some (.int .i64 b.tr) := fun q => (bx_up n3 q.up 5 _ rfl).1
  have e6 : ∀ q : UpW W, q.v.cell? ⟨w.heap.size + 1, 0, none⟩ = some (.int .i64 x) := fun q => (bx_up n5 q.up 0 _ rfl).1
  have e7 : ∀ q : UpW W, q.v.cell? ⟨w.heap.size + 3, 0, none⟩ = some (.int .i64 v) := fun q => (bx_up n7 q.up 0 _ rfl).1
  have HBq := hide (fun q : UpW W => unhide HB q.v (up_trans U q.up))
  refine wp_late 10 hmx (by kernel_rfl) (by simp only [List.take_succ_cons, List.take_zero]; rfl) rfl ?_
  (repeat (go_big_quiet_step (first | (go_at_call 106; exact upq (unhide HBq _)))))
  refine wpQuiet_nil ⟨rfl, fun pq => ?_⟩
  have q6 := bx_up n6 pq.up
  have a0 := (q6 0 _ rfl).1
  have f0 := (q6 0 _ rfl).2
  have a1 := (q6 1 _ rfl).1
  have f1 := (q6 1 _ rfl).2
  have a2 := (q6 2 _ rfl).1
  have f2 := (q6 2 _ rfl).2
  have a3 := (q6 3 _ rfl).1
  have f3 := (q6 3 _ rfl).2
  have a4 := (q6 4 _ rfl).1
  have f4 := (q6 4 _ rfl).2
  have a5 := (q6 5 _ rfl).1
  have f5 := (q6 5 _ rfl).2
  have a6 := (q6 6 _ rfl).1
  have f6 := (q6 6 _ rfl).2
  have HU := hide (up_trans U pq.up)
  have H6 := hide q6
  have H5 := hide (bx_up n5 pq.up)
  have H7 := hide (bx_up n7 pq.up)
  clear n3 n5 n6 n7 e0 e1 e2 e3 e4 e5 e6 e7 HBq HB q6 i0 i1 i2 hmx U hs
  go_simp
  have U9 : Up w (((((((pq.v.setCell ⟨w.heap.size + 1 + 1, 0, none⟩ (.int .i64 s)).setCell ⟨w.heap.size + 1 + 1, 1, none⟩ (.int .i64 x)).setCell ⟨w.heap.size + 1 + 1, 2, none⟩ (.int .i64 o)).setCell ⟨w.heap.size + 1 + 1, 3, none⟩ (.int .i64 0)).setCell ⟨w.heap.size + 1 + 1, 4, none⟩ (.int .i64 x)).setCell ⟨w.heap.size + 1 + 1, 5, none⟩ (.int .i64 v)).setCell ⟨w.heap.size + 1 + 1, 6, none⟩ (.func (.func 107) #[] #[.pointer (some ⟨w.heap.size + 3, 0, none⟩), .pointer (some ⟨w.heap.size + 1, 0, none⟩)])) := (up_set (up_set (up_set (up_set (up_set (up_set (up_set (unhide HU) (by simp only; omega) (.int .i64 s)) (by simp only; omega) (.int .i64 x)) (by simp only; omega) (.int .i64 o)) (by simp only; omega) (.int .i64 0)) (by simp only; omega) (.int .i64 x)) (by simp only; omega) (.int .i64 v)) (by simp only; omega) (.func (.func 107) #[] #[.pointer (some ⟨w.heap.size + 3, 0, none⟩), .pointer (some ⟨w.heap.size + 1, 0, none⟩)]))
  have B9 : Bx (((((((pq.v.setCell ⟨w.heap.size + 1 + 1, 0, none⟩ (.int .i64 s)).setCell ⟨w.heap.size + 1 + 1, 1, none⟩ (.int .i64 x)).setCell ⟨w.heap.size + 1 + 1, 2, none⟩ (.int .i64 o)).setCell ⟨w.heap.size + 1 + 1, 3, none⟩ (.int .i64 0)).setCell ⟨w.heap.size + 1 + 1, 4, none⟩ (.int .i64 x)).setCell ⟨w.heap.size + 1 + 1, 5, none⟩ (.int .i64 v)).setCell ⟨w.heap.size + 1 + 1, 6, none⟩ (.func (.func 107) #[] #[.pointer (some ⟨w.heap.size + 3, 0, none⟩), .pointer (some ⟨w.heap.size + 1, 0, none⟩)])) (w.heap.size + 1 + 1) [.int .i64 s, .int .i64 x, .int .i64 o, .int .i64 0, .int .i64 x, .int .i64 v, .func (.func 107) #[] #[.pointer (some ⟨w.heap.size + 3, 0, none⟩), .pointer (some ⟨w.heap.size + 1, 0, none⟩)]] := (bx_set (bx_set (bx_set (bx_set (bx_set (bx_set (bx_set (unhide H6) 0 (.int .i64 s)) 1 (.int .i64 x)) 2 (.int .i64 o)) 3 (.int .i64 0)) 4 (.int .i64 x)) 5 (.int .i64 v)) 6 (.func (.func 107) #[] #[.pointer (some ⟨w.heap.size + 3, 0, none⟩), .pointer (some ⟨w.heap.size + 1, 0, none⟩)]))
  have B5 : Bx (((((((pq.v.setCell ⟨w.heap.size + 1 + 1, 0, none⟩ (.int .i64 s)).setCell ⟨w.heap.size + 1 + 1, 1, none⟩ (.int .i64 x)).setCell ⟨w.heap.size + 1 + 1, 2, none⟩ (.int .i64 o)).setCell ⟨w.heap.size + 1 + 1, 3, none⟩ (.int .i64 0)).setCell ⟨w.heap.size + 1 + 1, 4, none⟩ (.int .i64 x)).setCell ⟨w.heap.size + 1 + 1, 5, none⟩ (.int .i64 v)).setCell ⟨w.heap.size + 1 + 1, 6, none⟩ (.func (.func 107) #[] #[.pointer (some ⟨w.heap.size + 3, 0, none⟩), .pointer (some ⟨w.heap.size + 1, 0, none⟩)])) _ _ := (bx_far (bx_far (bx_far (bx_far (bx_far (bx_far (bx_far (unhide H5) (p := ⟨w.heap.size + 1 + 1, 0, none⟩) (by simp only; omega) (.int .i64 s)) (p := ⟨w.heap.size + 1 + 1, 1, none⟩) (by simp only; omega) (.int .i64 x)) (p := ⟨w.heap.size + 1 + 1, 2, none⟩) (by simp only; omega) (.int .i64 o)) (p := ⟨w.heap.size + 1 + 1, 3, none⟩) (by simp only; omega) (.int .i64 0)) (p := ⟨w.heap.size + 1 + 1, 4, none⟩) (by simp only; omega) (.int .i64 x)) (p := ⟨w.heap.size + 1 + 1, 5, none⟩) (by simp only; omega) (.int .i64 v)) (p := ⟨w.heap.size + 1 + 1, 6, none⟩) (by simp only; omega) (.func (.func 107) #[] #[.pointer (some ⟨w.heap.size + 3, 0, none⟩), .pointer (some ⟨w.heap.size + 1, 0, none⟩)]))
  have B7 : Bx (((((((pq.v.setCell ⟨w.heap.size + 1 + 1, 0, none⟩ (.int .i64 s)).setCell ⟨w.heap.size + 1 + 1, 1, none⟩ (.int .i64 x)).setCell ⟨w.heap.size + 1 + 1, 2, none⟩ (.int .i64 o)).setCell ⟨w.heap.size + 1 + 1, 3, none⟩ (.int .i64 0)).setCell ⟨w.heap.size + 1 + 1, 4, none⟩ (.int .i64 x)).setCell ⟨w.heap.size + 1 + 1, 5, none⟩ (.int .i64 v)).setCell ⟨w.heap.size + 1 + 1, 6, none⟩ (.func (.func 107) #[] #[.pointer (some ⟨w.heap.size + 3, 0, none⟩), .pointer (some ⟨w.heap.size + 1, 0, none⟩)])) _ _ := (bx_far (bx_far (bx_far (bx_far (bx_far (bx_far (bx_far (unhide H7) (p := ⟨w.heap.size + 1 + 1, 0, none⟩) (by simp only; omega) (.int .i64 s)) (p := ⟨w.heap.size + 1 + 1, 1, none⟩) (by simp only; omega) (.int .i64 x)) (p := ⟨w.heap.size + 1 + 1, 2, none⟩) (by simp only; omega) (.int .i64 o)) (p := ⟨w.heap.size + 1 + 1, 3, none⟩) (by simp only; omega) (.int .i64 0)) (p := ⟨w.heap.size + 1 + 1, 4, none⟩) (by simp only; omega) (.int .i64 x)) (p := ⟨w.heap.size + 1 + 1, 5, none⟩) (by simp only; omega) (.int .i64 v)) (p := ⟨w.heap.size + 1 + 1, 6, none⟩) (by simp only; omega) (.func (.func 107) #[] #[.pointer (some ⟨w.heap.size + 3, 0, none⟩), .pointer (some ⟨w.heap.size + 1, 0, none⟩)]))
  obtain ⟨W9, hW9⟩ : ∃ W9, (((((((pq.v.setCell ⟨w.heap.size + 1 + 1, 0, none⟩ (.int .i64 s)).setCell ⟨w.heap.size + 1 + 1, 1, none⟩ (.int .i64 x)).setCell ⟨w.heap.size + 1 + 1, 2, none⟩ (.int .i64 o)).setCell ⟨w.heap.size + 1 + 1, 3, none⟩ (.int .i64 0)).setCell ⟨w.heap.size + 1 + 1, 4, none⟩ (.int .i64 x)).setCell ⟨w.heap.size + 1 + 1, 5, none⟩ (.int .i64 v)).setCell ⟨w.heap.size + 1 + 1, 6, none⟩ (.func (.func 107) #[] #[.pointer (some ⟨w.heap.size + 3, 0, none⟩), .pointer (some ⟨w.heap.size + 1, 0, none⟩)])) = W9 := ⟨_, rfl⟩
  rw [hW9] at U9 B9 B5 B7
  (try rw [hW9])
  clear hW9
  have z0 := (B9 0 _ rfl).1
  have z1 := (B9 1 _ rfl).1
  have z2 := (B9 2 _ rfl).1
  have z3 := (B9 3 _ rfl).1
  have z4 := (B9 4 _ rfl).1
  have z5 := (B9 5 _ rfl).1
  have z6 := (B9 6 _ rfl).1
  go_wp2
  (try simp only [Exit.inBlock, Exit.then])
  refine bodyPost_ret (v := .agg #[.int .i64 s, .int .i64 x, .int .i64 o, .int .i64 0, .int .i64 x, .int .i64 v, .func (.func 107) #[] #[.pointer (some ⟨w.heap.size + 3, 0, none⟩), .pointer (some ⟨w.heap.size + 1, 0, none⟩)]]) (by simp [results, Tryz.results70, go_sem, z0, z1, z2, z3, z4, z5, z6]) rfl ?_
  exact ⟨w.heap.size + 3, w.heap.size + 1, rfl, U9, bx1 B7, bx1 B5⟩
end Go.Proofs.YthifcalemhpmoaaGreat
namespace Go.Proofs.YthifcalemhpmoaaGreat
open Go.RowKit Go.Proofs.Gn
attribute [local go_sem] Oper.semAt_some
set_option linter.unusedVariables false
theorem at_any {F : Fence} {n : Nat} {P : Program} {md : Region.Mode} {ops : Array Oper} {Q : Exit → Act → World → Prop} {k : Nat} {listed : Array Bool} {a : Act} {w : World} (h : ∀ w', w' = w → wpAnyIn F n P md ops Q k listed a w') : wpAnyIn F n P md ops Q k listed a w := h w rfl
theorem orF_3 {a b c : Int} (h : orF [a, b, c] = 0) : a = 0 ∧ b = 0 ∧ c = 0 := by
  unfold orF at h
  split at h
  · rename_i h1
    unfold orF at h
    split at h
    · rename_i h2
      unfold orF at h
      split at h
      · rename_i h3; exact ⟨h1, h2, h3⟩
      · rename_i h3; exact absurd h h3
    · rename_i h2; exact absurd h h2
  · rename_i h1; exact absurd h h1
theorem i6_3 {W : World} {g : Nat} {a b c : Int} (h : Bx W g [.int .i64 a, .int .i64 b, .int .i64 c]) : I6 W (some ⟨g, 0, none⟩) [a, b, c] := .inr ⟨g, 0, rfl, fun k hk => by
  match k, hk with
  | 0, _ => exact (h 0 _ rfl).1
  | 1, _ => exact (h 1 _ rfl).1
  | 2, _ => exact (h 2 _ rfl).1⟩
def plE (p : Int) : Int := if win6 p (-4194304) 4194304 then 0 else 3
theorem p_checkPlace (p : Int) (w : World) : Calls Tryz.prog 69 #[.int .i64 p] w fun e w' => e = .returned (.int .i64 (plE p)) ∧ w = w' := by
  unfold plE
  have H0 := hide (fun W => p_w64 p (-4194304) 4194304 W)
  generalize win6 p (-4194304) 4194304 = r at *
  cases r
  all_goals
    go_enter Tryz.func69, Tryz.ntmps69
    go_wp2_with (go_at_call 34; (with_reducible refine (unhide H0 _).mono ?_); rintro e w1 ⟨rfl, rfl⟩)
    go_ret
    exact ⟨rfl, rfl⟩
theorem orF_4 {a b c d : Int} (h : orF [a, b, c, d] = 0) : a = 0 ∧ b = 0 ∧ c = 0 ∧ d = 0 := by
  have e : orF [a, b, c, d] = if a = 0 then orF [b, c, d] else a := rfl
  rw [e] at h
  split at h
  · rename_i h1; exact ⟨h1, orF_3 h⟩
  · rename_i h1; exact absurd h h1
theorem i6_4 {W : World} {g : Nat} {a b c d : Int} (h : Bx W g [.int .i64 a, .int .i64 b, .int .i64 c, .int .i64 d]) : I6 W (some ⟨g, 0, none⟩) [a, b, c, d] := .inr ⟨g, 0, rfl, fun k hk => by
  match k, hk with
  | 0, _ => exact (h 0 _ rfl).1
  | 1, _ => exact (h 1 _ rfl).1
  | 2, _ => exact (h 2 _ rfl).1
  | 3, _ => exact (h 3 _ rfl).1⟩
end Go.Proofs.YthifcalemhpmoaaGreat
namespace Go.Proofs.YthifcalemhpmoaaGreat
open Go.RowKit Go.Proofs.Gn
attribute [local go_sem] Oper.semAt_some
set_option linter.unusedVariables false
theorem fld6 (v0 v1 v2 v3 v4 v5 : Int) (f : Value) (w : World) : (Instr.field 139 (.agg #[.int .i64 v0, .int .i64 v1, .int .i64 v2, .int .i64 v3, .int .i64 v4, .int .i64 v5, f]) 4).run Tryz.prog w = .ok f w := by
  kernel_rfl
def liE (b : Brg) (s x p : Int) : Int := orF [bgE b, cpE b s x, plE p]
def liV (b : Brg) (s x p : Int) : Int := if liE b s x p = 0 then moL (spK b s) x p else 0
theorem p_lineV (b : Brg) (s x p : Int) (w : World) (h : BgAt w b) (hcap : b.sp.length ≤ b.k0) (W : World) (hU : Up w W) (hE : liE b s x p = 0) :
    Calls Tryz.prog 70 #[bgV b, .int .i64 s, .int .i64 x] W fun e w' => ∃ (v0 v1 v2 v3 v4 v5 : Int) (bl bx : Nat), e = .returned (.agg #[.int .i64 v0, .int .i64 v1, .int .i64 v2, .int .i64 v3, .int .i64 v4, .int .i64 v5, .func (.func 107) #[] #[.pointer (some ⟨bl, 0, none⟩), .pointer (some ⟨bx, 0, none⟩)]]) ∧ Up W w' ∧ Calls Tryz.prog 107 #[.int .i64 p, .pointer (some ⟨bl, 0, none⟩), .pointer (some ⟨bx, 0, none⟩)] w' fun e w2 => e = .returned (.int .i64 (liV b s x p)) ∧ Up w' w2 := by
  obtain ⟨z1, z3, z4⟩ := orF_3 hE
  have hpp : win6 p (-4194304) 4194304 = true := by unfold plE at z4; split at z4 <;> first | assumption | cases z4
  have hp2 := win6_yes hpp
  obtain ⟨⟨k1, k2⟩, ⟨k3, k4⟩, k5⟩ := bgE_ok z1
  have hcs : csE b s = 0 := by unfold cpE at z3; split at z3 <;> first | assumption | cases z3
  have hw : win6 x 0 (spK b s) = true := by unfold cpE at z3; rw [if_pos hcs] at z3; split at z3 <;> first | assumption | cases z3
  have hs : win6 s 0 ((b.sp.length : Int) - 1) = true := by unfold csE at hcs; split at hcs <;> first | assumption | cases hcs
  have hs' := win6_yes hs
  have hx := win6_yes hw
  have hk : s.toNat < b.sp.length := by omega
  have e6 : spK b s = b.sp[s.toNat] := by unfold spK; rw [List.getD_eq_getElem?_getD, List.getElem?_eq_getElem hk]; rfl
  have e7 : ((s.toNat : Nat) : Int) = s := by omega
  have hv : ∀ k (h : k < b.sp.length), 0 ≤ b.sp[k] ∧ b.sp[k] ≤ 131072 := fun k hh => by have := k5 k hh; omega
  have hl := hv _ hk
  have p1 := p_ofMoment b s.toNat x W (bgAt_up h hU) hk k2 hv hcap
  rw [e7] at p1
  have hV : liV b s x p = moL b.sp[s.toNat] x p := by unfold liV; rw [if_pos hE, e6]
  rw [hV]
  refine p1.mono fun e w' ⟨bl, bx, he, hu, g1, g2⟩ => ⟨_, _, _, _, _, _, bl, bx, he, hu, ?_⟩
  exact (p_mom1 bl bx b.sp[s.toNat] x p w' g1 g2 hl ⟨hx.1, by rw [← e6] at hl; omega⟩ ⟨by omega, by omega⟩).mono (fun e w2 ⟨he, hw⟩ => ⟨he, hw ▸ up_refl w'⟩)
set_option maxRecDepth 100000 in
set_option maxHeartbeats 4000000 in
theorem p_Line (b : Brg) (s x p : Int) (w : World) (h : BgAt w b) (hn : b.sp.length ≤ 9223372036854775807 ∧ b.mo.length ≤ 9223372036854775807 ∧ b.sh.length ≤ 9223372036854775807) (hcap : b.sp.length ≤ b.k0) :
    Calls Tryz.prog 30 #[bgV b, .int .i64 s, .int .i64 x, .int .i64 p] w fun e w' => e = .returned (.tuple #[.int .i64 (liV b s x p), .int .i64 (liE b s x p)]) ∧ Up w w' := by
  have H1 := hide (fun W (hU : Up w W) => p_Check6 b W (bgAt_up h hU) hn)
  have H3 := hide (fun W (hU : Up w W) => p_checkPt6 b s x W (bgAt_up h hU) hn.1)
  have H4 := hide (fun (W : World) (g : Nat) (h1 : I6 W (some ⟨g, 0, none⟩) [bgE b, cpE b s x, plE p]) => (show Calls Tryz.prog 31 #[.slice (some ⟨g, 0, none⟩) 3 3] W _ from p_Or (some ⟨g, 0, none⟩) [bgE b, cpE b s x, plE p] 3 W h1 (by simp)))
  have H6 := hide (fun W => p_checkPlace p W)
  have H5 := hide (fun W (hU : Up w W) hE => p_lineV b s x p w h hcap W hU hE)
  have hV : liE b s x p ≠ 0 → liV b s x p = 0 := fun hE => by unfold liV; rw [if_neg hE]
  have hEE : orF [bgE b, cpE b s x, plE p] = liE b s x p := rfl
  rw [hEE] at H4
  obtain ⟨V, hVV⟩ : ∃ V, liV b s x p = V := ⟨_, rfl⟩
  obtain ⟨E, hE⟩ : ∃ V, liE b s x p = V := ⟨_, rfl⟩
  obtain ⟨E1, hE1⟩ : ∃ V, bgE b = V := ⟨_, rfl⟩
  obtain ⟨E3, hE3⟩ : ∃ V, cpE b s x = V := ⟨_, rfl⟩
  obtain ⟨E4, hE4⟩ : ∃ V, plE p = V := ⟨_, rfl⟩
  rw [hVV, hE] at H5 hV ⊢
  rw [hE1] at H1 H4
  rw [hE3] at H3 H4
  rw [hE4] at H6 H4
  rw [hE] at H4
  unfold bgV at H1 H3 H5 ⊢
  clear hVV hE hE1 hE3 hE4 hEE h hn hcap
  obtain ⟨sp, mo, sh, A0, A1, A2, k0, k1, k2, dy, la, tr⟩ := b
  dsimp only at *
  generalize sp.length = n0 at *
  generalize mo.length = n1 at *
  generalize sh.length = n2 at *
  have hmx : Tryz.prog.follows .mixedOrders = true := by kernel_rfl
  go_enter Tryz.func30, Tryz.ntmps30
  go_upto_region 1 with fail
  refine at_wpB (fun W hW => ?_)
  have U : Up w W := by rw [hW]; exact (by repeat' (first | (with_reducible exact up_refl _) | (with_reducible assumption) | (with_reducible refine up_alloc ?_ _) | (with_reducible refine up_drewN ?_ _) | (with_reducible refine up_drew ?_) | (with_reducible refine up_set ?_ (by first | (simp; done) | (simp; omega) | omega) _) | (refine up_trans ?_ (by with_reducible assumption))))
  have n4 : Bx W w.heap.size [.slice A0 n0 k0, .slice A1 n1 k1, .slice A2 n2 k2, .int .i64 dy, .int .i64 la, .int .i64 tr] := by rw [hW]; exact bx_new w _ _
  clear hW
  have e0 : ∀ q : UpW W, q.v.cell? ⟨w.heap.size, 0, none⟩ = some (.slice A0 n0 k0) := fun q => (bx_up n4 q.up 0 _ rfl).1
  have e1 : ∀ q : UpW W, q.v.cell? ⟨w.heap.size, 1, none⟩ = some (.slice A1 n1 k1) := fun q => (bx_up n4 q.up 1 _ rfl).1
  have e2 : ∀ q : UpW W, q.v.cell? ⟨w.heap.size, 2, none⟩ = some (.slice A2 n2 k2) := fun q => (bx_up n4 q.up 2 _ rfl).1
  have e3 : ∀ q : UpW W, q.v.cell? ⟨w.heap.size, 3, none⟩ = some (.int .i64 dy) := fun q => (bx_up n4 q.up 3 _ rfl).1
  have e4 : ∀ q : UpW W, q.v.cell? ⟨w.heap.size, 4, none⟩ = some (.int .i64 la) := fun q => (bx_up n4 q.up 4 _ rfl).1
  have e5 : ∀ q : UpW W, q.v.cell? ⟨w.heap.size, 5, none⟩ = some (.int .i64 tr) := fun q => (bx_up n4 q.up 5 _ rfl).1
  have q1 := hide (fun q : UpW W => unhide H1 q.v (up_trans U q.up))
  have q6 := hide (fun q : UpW W => (unhide H6 q.v).mono (fun e w' ⟨he, hw⟩ => (⟨he, hw ▸ up_refl q.v⟩ : _ ∧ Up q.v w')))
  have q3 := hide (fun q : UpW W => unhide H3 q.v (up_trans U q.up))
  refine wpIn_wide.1 (Hin.wpIn_region_lateM (F := Fence.wide) (n := 0) (S := fun w' => ∃ p : UpW W, w' = p.v) 8 2 #[true, true, true, true, true, true, true, true, true, false, false] Hin.open_wide hmx (by kernel_rfl) (by simp only [List.take_succ_cons, List.take_zero]; rfl) rfl ⟨⟨_, up_drew (up_refl _)⟩, rfl⟩ ?_)
  (repeat (go_big_quiet_step (first | (go_at_call 67; exact upq (unhide q1 _)) | (go_at_call 68; exact upq (unhide q3 _)) | (go_at_call 69; exact upq (unhide q6 _)))))
  refine wpQuiet_nil ⟨rfl, ?_⟩
  rintro _ ⟨pq, rfl⟩
  have Uq := up_trans U pq.up
  have m4 := bx_up n4 pq.up
  clear n4 e0 e1 e2 e3 e4 e5 q1 q3 q6 H1 H3 H6
  go_simp
  refine at_any (fun W2 hW2 => ?_)
  have U3 : Up pq.v W2 := by rw [hW2]; exact up_alloc (up_refl _) _
  have hI := i6_3 (W := W2) (g := pq.v.heap.size) (a := E1) (b := E3) (c := E4) (by rw [hW2]; exact bx_new _ _ _)
  have hO := hide (unhide H4 W2 _ hI)
  have r4 := bx_up m4 U3
  have U4 := up_trans Uq U3
  clear hW2 hI H4 m4 U3 Uq
  refine wpAnyIn_ready (rs := [9]) (by kernel_rfl) (by simp) ?_; refine AllReadyIn.cons rfl (fun K hK => ?_) AllReadyIn.nil; go_simp
  refine ⟨trivial, rfl, CallsIn.mono (callsIn_wide.2 (unhide hO)) ?_⟩
  rintro e W3 ⟨rfl, hu⟩
  refine hK _ _ ?_
  clear hK K hO
  have s4 := bx_up r4 hu
  have U5 := up_trans U4 hu
  clear r4 U4
  refine wpAnyIn_ready (rs := [10]) (by kernel_rfl) (by simp) ?_; refine AllReadyIn.cons rfl (fun K hK => ?_) AllReadyIn.nil; go_simp
  refine hK _ _ ?_
  clear hK K
  refine wpAnyIn_done (by kernel_rfl) ?_ _
  have d0 := (s4 0 _ rfl).1
  have d1 := (s4 1 _ rfl).1
  have d2 := (s4 2 _ rfl).1
  have d3 := (s4 3 _ rfl).1
  have d4 := (s4 4 _ rfl).1
  have d5 := (s4 5 _ rfl).1
  clear hmx hu s4
  by_cases hE : E = 0
  · have hw5 := hide (fun W hU => unhide H5 W hU hE)
    have HU5 := hide U5
    subst hE
    clear hV H5 U5 U
    go_wp2_with (first | (go_at_call 70; (with_reducible refine (unhide hw5 _ (unhide HU5)).mono ?_); rintro e w6 ⟨v0, v1, v2, v3, v4, v5, bl, bx, rfl, hu6, hc⟩; have hc := hide hc; have hfl := fun W => fld6 v0 v1 v2 v3 v4 v5 (.func (.func 107) #[] #[.pointer (some ⟨bl, 0, none⟩), .pointer (some ⟨bx, 0, none⟩)]) W) | (go_at_call 107; (with_reducible refine (unhide hc).mono ?_); rintro e w7 ⟨rfl, hu7⟩; have U7 := up_trans (unhide HU5) (up_trans hu6 hu7)))
    go_ret2
    exact ⟨rfl, U7⟩
  · obtain rfl := hV hE
    have e1 : (E == 0) = false := by simp; exact hE
    clear hV H5 U
    go_wp2
    go_ret2
    exact ⟨rfl, U5⟩
end Go.Proofs.YthifcalemhpmoaaGreat
namespace Go.Proofs.YthifcalemhpmoaaGreat
open Go.RowKit
set_option linter.unusedVariables false
theorem up6_le {n m d : Int} (h : n ≤ m) (hd : 1 ≤ d) : up6 n d ≤ up6 m d := by unfold up6; exact Int.ediv_le_ediv (by omega) (by omega)
theorem up6_mul_ge {n d : Int} (hd : 1 ≤ d) : n ≤ up6 n d * d := by
  unfold up6
  have h := Int.emod_add_mul_ediv (n + d - 1) d
  have h2 := Int.emod_lt_of_pos (n + d - 1) (by omega : 0 < d)
  rw [Int.mul_comm] at h
  omega
theorem up6_le_of {n d q : Int} (hd : 1 ≤ d) (h : n ≤ q * d) : up6 n d ≤ q := by
  unfold up6
  have : (n + d - 1) / d < q + 1 := Int.ediv_lt_of_lt_mul (by omega) (by rw [Int.add_mul]; omega)
  omega
theorem up6_gt_of {n d q : Int} (hd : 1 ≤ d) (h : q * d < n) : q < up6 n d := by
  have t := up6_mul_ge (n := n) hd
  by_cases hq : up6 n d ≤ q
  · have := Int.mul_le_mul_of_nonneg_right hq (by omega : 0 ≤ d)
    omega
  · omega
theorem up6_two {n d : Int} (hd : 1 ≤ d) : up6 (2 * n) d ≤ 2 * up6 n d := up6_le_of hd (by have := up6_mul_ge (n := n) hd; rw [Int.mul_assoc]; omega)
theorem wrL_le : ∀ (n : Nat) {r r' w w' : Int}, 0 ≤ r → r ≤ r' → 0 ≤ w → w ≤ w' → wrL r' n w' ≤ 1073741824 → wrL r n w ≤ wrL r' n w'
  | 0, r, r', w, w', _, _, _, h, _ => h
  | n + 1, r, r', w, w', h0, h1, h2, h3, h4 => by
    unfold wrL at h4 ⊢
    by_cases hw : w' ≤ 1073741824
    · rw [if_pos hw] at h4
      rw [if_pos hw, if_pos (by omega : w ≤ 1073741824)]
      have m : w * r ≤ w' * r' := Int.mul_le_mul h3 h1 h0 (by omega)
      have m0 : 0 ≤ w * r := Int.mul_nonneg h2 h0
      exact wrL_le n h0 h1 (up6_bd m0 (by omega)).1 (up6_le m (by omega)) h4
    · rw [if_neg hw] at h4
      exact absurd h4 hw
theorem wrF_le {p : Pav} {l l' : Int} (hp : 1 ≤ p.ld) (h0 : 0 ≤ l) (h : l ≤ l') (hw : wrF p l' ≤ 1073741824) : wrF p l ≤ wrF p l' := by
  unfold wrF at hw ⊢
  have a := (up6_bd (n := l * 1000) (d := p.ld) (by omega) hp).1
  have b := up6_le (n := l * 1000) (m := l' * 1000) (d := p.ld) (by omega) hp
  exact wrL_le _ a b a b hw
theorem wsF_nn {p : Pav} (hp : 1 ≤ p.ld) : ∀ {ts : List (Int × Int)}, (∀ k (h : k < ts.length), 0 ≤ ts[k].2 ∧ ts[k].2 ≤ 1048576) → 0 ≤ wsF p ts
  | [], _ => by simp [wsF]
  | t :: ts, h => by
    have a := (wrF_bd (p := p) (l := t.2) hp (h 0 (by simp))).1
    have b := wsF_nn hp (ts := ts) (fun k hk => h (k + 1) (by simpa using hk))
    unfold wsF
    omega
/-- With one greater load the wear is not less. -/
theorem wsF_set {p : Pav} (hp : 1 ≤ p.ld) : ∀ {ts : List (Int × Int)} {k : Nat} (hk : k < ts.length) {x : Int}, (∀ k (h : k < ts.length), 0 ≤ ts[k].2 ∧ ts[k].2 ≤ 1048576) → ts[k].2 ≤ x → x ≤ 1048576 → wsF p (ts.set k (ts[k].1, x)) ≤ 1073741824 → wsF p ts ≤ wsF p (ts.set k (ts[k].1, x))
  | t :: ts, 0, _, x, h, h1, h2, h3 => by
    simp only [List.set_cons_zero, List.getElem_cons_zero, wsF] at h1 h3 ⊢
    have n := wsF_nn hp (ts := ts) (fun k hk => h (k + 1) (by simpa using hk))
    have t0 := h 0 (by simp)
    simp only [List.getElem_cons_zero] at t0
    have := wrF_le (p := p) (l := t.2) (l' := x) hp t0.1 h1 (by omega)
    omega
  | t :: ts, k + 1, hk, x, h, h1, h2, h3 => by
    simp only [List.set_cons_succ, List.getElem_cons_succ, wsF] at h1 h3 ⊢
    have a := (wrF_bd (p := p) (l := t.2) hp (h 0 (by simp))).1
    have := wsF_set hp (ts := ts) (k := k) (by simpa using hk) (x := x) (fun k hk => h (k + 1) (by simpa using hk)) h1 h2 (by omega)
    omega
theorem wrL_1000 : ∀ n, wrL 1000 n 1000 = 1000
  | 0 => rfl
  | n + 1 => by
    unfold wrL
    rw [if_pos (by decide), show up6 (1000 * 1000) 1000 = 1000 by decide]
    exact wrL_1000 n
theorem up6_exact {n d : Int} (hd : 1 ≤ d) : up6 (n * d) d = n := by
  have a := up6_le_of (n := n * d) (q := n) hd (Int.le_refl _)
  by_cases h : up6 (n * d) d = n
  · exact h
  · have b := up6_mul_ge (n := n * d) hd
    have : up6 (n * d) d * d ≤ (n - 1) * d := Int.mul_le_mul_of_nonneg_right (by omega) (by omega)
    rw [Int.sub_mul] at this
    omega
/-- The standard load in its life. -/
theorem one_wear {p : Pav} (h : pvE p = 0) : daE p [(0, p.ld)] p.lf = 0 ∧ daV p [(0, p.ld)] p.lf = 1000000 := by
  obtain ⟨a, b, c⟩ := pvE_ok h
  have hc : ctE [(0, p.ld)] = 0 := by
    unfold ctE
    rw [if_pos (show win6 (([(0, p.ld)] : List (Int × Int)).length : Int) 1 64 = true from rfl)]
    rw [if_pos]
    simp only [tok, Bool.and_true, Bool.and_eq_true]
    exact ⟨⟨rfl, win6_mk ⟨by omega, by omega⟩⟩, rfl⟩
  have hw : wsF p [(0, p.ld)] = 1000 := by
    unfold wsF wsF wrF
    dsimp only
    rw [show p.ld * 1000 = 1000 * p.ld by rw [Int.mul_comm], up6_exact a.1, wrL_1000]
    rfl
  have h0 : daE0 p [(0, p.ld)] = 0 := by unfold daE0; rw [h, hc]; rfl
  have hE : daE p [(0, p.ld)] p.lf = 0 := by unfold daE; rw [if_pos h0, if_pos (win6_mk ⟨by omega, by omega⟩), hw]; rfl
  refine ⟨hE, ?_⟩
  unfold daV
  rw [if_pos hE, hw, show (1000 : Int) * 1000 * p.lf = 1000000 * p.lf by rfl, up6_exact b.1]
/-- What no error says. -/
theorem da_ok {p : Pav} {ts : List (Int × Int)} {n : Int} (h : daE p ts n = 0) : daE0 p ts = 0 ∧ (0 ≤ n ∧ n ≤ 1048576) ∧ wsF p ts ≤ 1073741824 ∧ daV p ts n = up6 (wsF p ts * 1000 * n) p.lf := by
  have hv : daV p ts n = up6 (wsF p ts * 1000 * n) p.lf := by unfold daV; rw [if_pos h]
  unfold daE at h
  split at h
  · rename_i h0
    split at h
    · rename_i h1
      split at h
      · rename_i h2
        exact ⟨h0, win6_yes h1, h2, hv⟩
      · cases h
    · cases h
  · rename_i h0; exact absurd h h0
theorem da_mk {p : Pav} {ts : List (Int × Int)} {n : Int} (h0 : daE0 p ts = 0) (h1 : 0 ≤ n ∧ n ≤ 1048576) (h2 : wsF p ts ≤ 1073741824) : daE p ts n = 0 ∧ daV p ts n = up6 (wsF p ts * 1000 * n) p.lf := by
  have t : daE p ts n = 0 := by unfold daE; rw [if_pos h0, if_pos (win6_mk h1), if_pos h2]
  exact ⟨t, (da_ok t).2.2.2⟩
theorem da_no {p : Pav} {ts : List (Int × Int)} {n : Int} (h : daE p ts n ≠ 0) : daV p ts n = 0 := by unfold daV; rw [if_neg h]
theorem lf_no {p : Pav} {ts : List (Int × Int)} {n : Int} (h0 : daE0 p ts = 0) (h2 : wsF p ts ≤ 1073741824) (h : lfE p ts n ≠ 0) : lfE p ts n = 3 ∨ lfE p ts n = 5 := by
  unfold lfE at h ⊢
  rw [if_pos h0] at h ⊢
  split
  · (try rw [if_pos h2] at h)
    (try rw [if_pos h2])
    split
    · exact .inr rfl
    · rename_i h3; rw [if_neg h3] at h; simp_all
  · exact .inl rfl
theorem lf_ok {p : Pav} {ts : List (Int × Int)} {n : Int} (h : lfE p ts n = 0) : (0 ≤ n ∧ n ≤ 1000000) ∧ wsF p ts ≠ 0 ∧ lfV p ts n = lqF (wsF p ts) p.lf n := by
  have hv : lfV p ts n = lqF (wsF p ts) p.lf n := by unfold lfV; rw [if_pos h]
  unfold lfE at h
  split at h
  · split at h
    · rename_i h1
      split at h
      · split at h
        · cases h
        · rename_i h3; exact ⟨win6_yes h1, h3, hv⟩
      · cases h
    · cases h
  · rename_i h0; exact absurd h h0
/-- What is left is borne, and one pass more is not. -/
theorem lq_ok {S lf n : Int} (hS : 1 ≤ S) (hl : 1 ≤ lf) (hn : 0 ≤ n ∧ n ≤ 1000000) : (0 ≤ lqF S lf n ∧ lqF S lf n ≤ 1048576) ∧ n + up6 (S * 1000 * lqF S lf n) lf ≤ 1000000 ∧ (lqF S lf n = 1048576 ∨ (lqF S lf n < 1048576 ∧ 1000000 < n + up6 (S * 1000 * (lqF S lf n + 1)) lf)) := by
  have hb : 0 < S * 1000 := by omega
  have m0 : 0 ≤ (1000000 - n) * lf := Int.mul_nonneg (by omega) (by omega)
  have q0 : 0 ≤ (1000000 - n) * lf / (S * 1000) := Int.ediv_nonneg m0 (by omega)
  have q1 : S * 1000 * ((1000000 - n) * lf / (S * 1000)) ≤ (1000000 - n) * lf := Int.mul_ediv_self_le (by omega)
  have q2 : (1000000 - n) * lf < S * 1000 * ((1000000 - n) * lf / (S * 1000) + 1) := by
    have := Int.lt_mul_ediv_self_add (x := (1000000 - n) * lf) (k := S * 1000) hb
    rw [Int.mul_add]; omega
  have key : ∀ y, 0 ≤ y → y ≤ (1000000 - n) * lf / (S * 1000) → n + up6 (S * 1000 * y) lf ≤ 1000000 := fun y y0 y1 => by
    have t : S * 1000 * y ≤ S * 1000 * ((1000000 - n) * lf / (S * 1000)) := Int.mul_le_mul_of_nonneg_left y1 (by omega)
    have := up6_le_of (n := S * 1000 * y) (d := lf) (q := 1000000 - n) hl (by omega)
    omega
  unfold lqF
  split
  · rename_i hlt
    refine ⟨⟨q0, by omega⟩, key _ q0 (Int.le_refl _), .inr ⟨hlt, ?_⟩⟩
    have := up6_gt_of (n := S * 1000 * ((1000000 - n) * lf / (S * 1000) + 1)) (d := lf) (q := 1000000 - n) hl q2
    omega
  · exact ⟨⟨by omega, by omega⟩, key _ (by omega) (by omega), .inl rfl⟩
end Go.Proofs.YthifcalemhpmoaaGreat
