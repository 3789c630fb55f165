/- What a pavement still bears. -/
import Derived.Test.YtdignnmhiifpgaaBrPE
namespace Go.Proofs.Ytdignnmhiifpgaa
open Go.RowKit Go.Proofs.Gn
set_option linter.unusedVariables false
def lfE (p : Pav) (ts : List (Int × Int)) (n : Int) : Int := if daE0 p ts = 0 then (if win6 n 0 1000000 then (if wsF p ts ≤ 1073741824 then (if wsF p ts = 0 then 5 else 0) else 4) else 3) else daE0 p ts
def lqF (S lf n : Int) : Int := if (1000000 - n) * lf / (S * 1000) < 1048576 then (1000000 - n) * lf / (S * 1000) else 1048576
def lfV (p : Pav) (ts : List (Int × Int)) (n : Int) : Int := if lfE p ts n = 0 then lqF (wsF p ts) p.lf n else 0
set_option maxRecDepth 100000 in
set_option maxHeartbeats 4000000 in
theorem p_Left (p : Pav) (A : Option Addr) (ts : List (Int × Int)) (cap : Nat) (n : Int) (w : World) (hF : Frs w A ts) (hnt : ts.length ≤ 9223372036854775807) :
    Calls Try.prog 16 #[pvV p, .slice A ts.length cap, .int .i64 n] w fun e w' => e = .returned (.tuple #[.int .i64 (lfV p ts n), .int .i64 (lfE p ts n)]) ∧ Up w w' := by
  have H1 := hide (fun W => p_CheckPav p W)
  have H2 := hide (fun W (hU : Up w W) => p_CheckTrain A ts cap W (frs_up hF hU) hnt)
  have H3 := hide (fun (W : World) (g : Nat) h0 h1 => (show Calls Try.prog 43 #[.slice (some ⟨g, 0, none⟩) 2 2] W _ from p_Or (some ⟨g, 0, none⟩) [pvE p, ctE ts] 2 W (i6_2 h0 h1) (by simp)))
  have H4 := hide (fun W => p_w64 n 0 1000000 W)
  have H5 := hide (fun (hE : daE0 p ts = 0) W (hU : Up w W) => p_wears p A ts cap W (pvE_ok (orF_2 hE).1).1 (pvE_ok (orF_2 hE).1).2.2 (frs_up hF hU) (trOk_of (orF_2 hE).2).1)
  have H6 := hide (fun (hE : daE0 p ts = 0) => (⟨(pvE_ok (orF_2 hE).1).2.1, by have t := wsF_bd (p := p) (pvE_ok (orF_2 hE).1).1.1 (trOk_of (orF_2 hE).2).1 ts.length (Nat.le_refl _); rw [List.take_length] at t; exact t.1⟩ : (1 ≤ p.lf ∧ p.lf ≤ 1048576) ∧ 0 ≤ wsF p ts))
  have HN := fun (h : win6 n 0 1000000 = true) => win6_yes h
  have g3 : daE0 p ts = 0 → win6 n 0 1000000 = false → lfV p ts n = 0 ∧ lfE p ts n = 3 := fun a b => by
    have t : lfE p ts n = 3 := by unfold lfE; rw [if_pos a, b]; rfl
    exact ⟨by unfold lfV; rw [t]; rfl, t⟩
  have g4 : daE0 p ts = 0 → win6 n 0 1000000 = true → wsF p ts ≤ 1073741824 → wsF p ts ≠ 0 → lfV p ts n = lqF (wsF p ts) p.lf n ∧ lfE p ts n = 0 := fun a b c d => by
    have t : lfE p ts n = 0 := by unfold lfE; rw [if_pos a, if_pos b, if_pos c, if_neg d]
    exact ⟨by unfold lfV; rw [if_pos t], t⟩
  have g7 : daE0 p ts = 0 → win6 n 0 1000000 = true → wsF p ts = 0 → lfV p ts n = 0 ∧ lfE p ts n = 5 := fun a b d => by
    have t : lfE p ts n = 5 := by unfold lfE; rw [if_pos a, if_pos b, if_pos (by rw [d]; decide), if_pos d]
    exact ⟨by unfold lfV; rw [t]; rfl, t⟩
  have g5 : daE0 p ts = 0 → win6 n 0 1000000 = true → ¬ wsF p ts ≤ 1073741824 → lfV p ts n = 0 ∧ lfE p ts n = 4 := fun a b c => by
    have t : lfE p ts n = 4 := by unfold lfE; rw [if_pos a, if_pos b, if_neg c]
    exact ⟨by unfold lfV; rw [t]; rfl, t⟩
  have g6 : daE0 p ts ≠ 0 → lfV p ts n = 0 ∧ lfE p ts n = daE0 p ts := fun a => by
    have t : lfE p ts n = daE0 p ts := by unfold lfE; rw [if_neg a]
    exact ⟨by unfold lfV; rw [t, if_neg a], t⟩
  have hEE : orF [pvE p, ctE ts] = daE0 p ts := rfl
  rw [hEE] at H3
  generalize lfV p ts n = V at *
  generalize lfE p ts n = X at *
  generalize daE0 p ts = E at *
  generalize wsF p ts = S at *
  generalize pvE p = E1 at *
  generalize ctE ts = E2 at *
  generalize win6 n 0 1000000 = r at *
  unfold pvV at *
  obtain ⟨ld, lf, pw⟩ := p
  dsimp only at *
  clear hEE hF
  generalize ts.length = m at *
  by_cases hE : E = 0
  · have H5' := hide (unhide H5 hE)
    obtain ⟨⟨b1, b2⟩, b3⟩ := unhide H6 hE
    subst hE
    cases hr : r
    · rw [hr] at H4
      obtain ⟨rfl, rfl⟩ := g3 rfl hr
      clear g3 g4 g5 g6 g7
      go_enter Try.func16, Try.ntmps16
      go_upto_region 1 with fail
      refine at_wpB (fun W hW => ?_)
      have hB : Bx W w.heap.size [.int .i64 ld, .int .i64 lf, .int .i64 pw] := by rw [hW]; exact bx_new w _ _
      have U : Up w W := by rw [hW]; exact (by repeat' (first | (with_reducible exact up_refl _) | (with_reducible assumption) | (with_reducible refine up_alloc ?_ _) | (with_reducible refine up_drewN ?_ _) | (with_reducible refine up_drew ?_) | (with_reducible refine up_set ?_ (by first | (simp; done) | (simp; omega) | omega) _) | (refine up_trans ?_ (by with_reducible assumption))))
      obtain ⟨c0, c1, c2⟩ := bx3 hB
      clear hW
      go_wp2_with (first | (go_at_call 18; (with_reducible refine (unhide H1 _).mono ?_); rintro e w1 ⟨rfl, hu1⟩; have s1 := bx_up hB hu1; obtain ⟨d0, d1, d2⟩ := bx3 s1) | (go_at_call 33; (with_reducible refine (unhide H2 _ (up_trans U hu1)).mono ?_); rintro e w2 ⟨rfl, hu2⟩; have s2 := bx_up s1 hu2) | (go_at_call 43; (with_reducible refine (unhide H3 _ _ (by go_cell) (by go_cell)).mono ?_); rintro e w3 ⟨rfl, hu3⟩; have s3 := bx_up (bx_up s2 (up_alloc (up_refl w2) _)) hu3; have U3 := up_trans (up_trans (up_trans U hu1) (up_trans hu2 (up_alloc (up_refl w2) _))) hu3; obtain ⟨f0, f1, f2⟩ := bx3 s3) | (go_at_call 37; (with_reducible refine (unhide H4 _).mono ?_); rintro e w4 ⟨rfl, rfl⟩) | (go_at_call 44; (with_reducible refine (unhide H5' _ U3).mono ?_); rintro e w5 ⟨rfl, hu5⟩; obtain ⟨g0, g1, g2⟩ := bx3 (bx_up s3 hu5); have U5 := up_trans U3 hu5) | (go_at_call 41; (with_reducible refine (unhide H7 _).mono ?_); rintro e w6 ⟨rfl, rfl⟩))
      go_ret2
      exact ⟨rfl, U3⟩
    · rw [hr] at H4
      have hn := HN hr
      by_cases hS : S ≤ 1073741824
      · by_cases hS0 : S = 0
        · obtain ⟨rfl, rfl⟩ := g7 rfl hr hS0
          clear g3 g4 g5 g6 g7
          subst hS0
          go_enter Try.func16, Try.ntmps16
          go_upto_region 1 with fail
          refine at_wpB (fun W hW => ?_)
          have hB : Bx W w.heap.size [.int .i64 ld, .int .i64 lf, .int .i64 pw] := by rw [hW]; exact bx_new w _ _
          have U : Up w W := by rw [hW]; exact (by repeat' (first | (with_reducible exact up_refl _) | (with_reducible assumption) | (with_reducible refine up_alloc ?_ _) | (with_reducible refine up_drewN ?_ _) | (with_reducible refine up_drew ?_) | (with_reducible refine up_set ?_ (by first | (simp; done) | (simp; omega) | omega) _) | (refine up_trans ?_ (by with_reducible assumption))))
          obtain ⟨c0, c1, c2⟩ := bx3 hB
          clear hW
          go_wp2_with (first | (go_at_call 18; (with_reducible refine (unhide H1 _).mono ?_); rintro e w1 ⟨rfl, hu1⟩; have s1 := bx_up hB hu1; obtain ⟨d0, d1, d2⟩ := bx3 s1) | (go_at_call 33; (with_reducible refine (unhide H2 _ (up_trans U hu1)).mono ?_); rintro e w2 ⟨rfl, hu2⟩; have s2 := bx_up s1 hu2) | (go_at_call 43; (with_reducible refine (unhide H3 _ _ (by go_cell) (by go_cell)).mono ?_); rintro e w3 ⟨rfl, hu3⟩; have s3 := bx_up (bx_up s2 (up_alloc (up_refl w2) _)) hu3; have U3 := up_trans (up_trans (up_trans U hu1) (up_trans hu2 (up_alloc (up_refl w2) _))) hu3; obtain ⟨f0, f1, f2⟩ := bx3 s3) | (go_at_call 37; (with_reducible refine (unhide H4 _).mono ?_); rintro e w4 ⟨rfl, rfl⟩) | (go_at_call 44; (with_reducible refine (unhide H5' _ U3).mono ?_); rintro e w5 ⟨rfl, hu5⟩; obtain ⟨g0, g1, g2⟩ := bx3 (bx_up s3 hu5); have U5 := up_trans U3 hu5) | (go_at_call 41; (with_reducible refine (unhide H7 _).mono ?_); rintro e w6 ⟨rfl, rfl⟩))
          go_ret2
          exact ⟨rfl, U5⟩
        · obtain ⟨rfl, rfl⟩ := g4 rfl hr hS hS0
          clear g3 g4 g5 g6 g7
          have s0 : (S == 0) = false := by simp; exact hS0
          have s1 : 1 ≤ S := by omega
          have m0 : 0 ≤ (1000000 - n) * lf ∧ (1000000 - n) * lf ≤ 1000000 * 1048576 := ⟨Int.mul_nonneg (by omega) (by omega), Int.mul_le_mul (by omega) b2 (by omega) (by omega)⟩
          have w1 : IntKind.i64.wrap (S * 1000) = S * 1000 := IntWalk.i64_in _ ⟨by omega, by omega⟩
          have w2 : IntKind.i64.wrap (1000000 - n) = 1000000 - n := IntWalk.i64_in _ ⟨by omega, by omega⟩
          have w3 : IntKind.i64.wrap ((1000000 - n) * lf) = (1000000 - n) * lf := IntWalk.i64_in _ ⟨by omega, by omega⟩
          have d1 : decide (S > 1073741824) = false := decide_eq_false (by omega)
          have d2 : decide (1073741824 < S) = false := decide_eq_false (by omega)
          have e1 : ((1000000 - n) * lf).tdiv (S * 1000) = (1000000 - n) * lf / (S * 1000) := Int.tdiv_eq_ediv_of_nonneg m0.1
          have q0 : 0 ≤ (1000000 - n) * lf / (S * 1000) := Int.ediv_nonneg m0.1 (by omega)
          have q1 : (1000000 - n) * lf / (S * 1000) ≤ (1000000 - n) * lf := Int.ediv_le_self _ m0.1
          unfold lqF
          obtain ⟨y, hy⟩ : ∃ y, (1000000 - n) * lf / (S * 1000) = y := ⟨_, rfl⟩
          rw [hy] at e1 q0 q1 ⊢
          have w4 : IntKind.i64.wrap (((1000000 - n) * lf).tdiv (S * 1000)) = y := by rw [e1]; exact IntWalk.i64_in _ ⟨by omega, by omega⟩
          have w5 : IntKind.i64.wrap y = y := IntWalk.i64_in _ ⟨by omega, by omega⟩
          have n0 : S * 1000 ≠ 0 := by omega
          clear m0 q1 hy
          by_cases hyy : y < 1048576
          · rw [if_pos hyy]
            go_enter Try.func16, Try.ntmps16
            go_upto_region 1 with fail
            refine at_wpB (fun W hW => ?_)
            have hB : Bx W w.heap.size [.int .i64 ld, .int .i64 lf, .int .i64 pw] := by rw [hW]; exact bx_new w _ _
            have U : Up w W := by rw [hW]; exact (by repeat' (first | (with_reducible exact up_refl _) | (with_reducible assumption) | (with_reducible refine up_alloc ?_ _) | (with_reducible refine up_drewN ?_ _) | (with_reducible refine up_drew ?_) | (with_reducible refine up_set ?_ (by first | (simp; done) | (simp; omega) | omega) _) | (refine up_trans ?_ (by with_reducible assumption))))
            obtain ⟨c0, c1, c2⟩ := bx3 hB
            clear hW
            go_wp2_with (first | (go_at_call 18; (with_reducible refine (unhide H1 _).mono ?_); rintro e w1 ⟨rfl, hu1⟩; have s1 := bx_up hB hu1; obtain ⟨d0, d1, d2⟩ := bx3 s1) | (go_at_call 33; (with_reducible refine (unhide H2 _ (up_trans U hu1)).mono ?_); rintro e w2 ⟨rfl, hu2⟩; have s2 := bx_up s1 hu2) | (go_at_call 43; (with_reducible refine (unhide H3 _ _ (by go_cell) (by go_cell)).mono ?_); rintro e w3 ⟨rfl, hu3⟩; have s3 := bx_up (bx_up s2 (up_alloc (up_refl w2) _)) hu3; have U3 := up_trans (up_trans (up_trans U hu1) (up_trans hu2 (up_alloc (up_refl w2) _))) hu3; obtain ⟨f0, f1, f2⟩ := bx3 s3) | (go_at_call 37; (with_reducible refine (unhide H4 _).mono ?_); rintro e w4 ⟨rfl, rfl⟩) | (go_at_call 44; (with_reducible refine (unhide H5' _ U3).mono ?_); rintro e w5 ⟨rfl, hu5⟩; obtain ⟨g0, g1, g2⟩ := bx3 (bx_up s3 hu5); have U5 := up_trans U3 hu5) | (go_at_call 41; (with_reducible refine (unhide H7 _).mono ?_); rintro e w6 ⟨rfl, rfl⟩))
            go_ret2
            exact ⟨rfl, U5⟩
          · rw [if_neg hyy]
            have k1 : decide (y < 1048576) = false := decide_eq_false hyy
            go_enter Try.func16, Try.ntmps16
            go_upto_region 1 with fail
            refine at_wpB (fun W hW => ?_)
            have hB : Bx W w.heap.size [.int .i64 ld, .int .i64 lf, .int .i64 pw] := by rw [hW]; exact bx_new w _ _
            have U : Up w W := by rw [hW]; exact (by repeat' (first | (with_reducible exact up_refl _) | (with_reducible assumption) | (with_reducible refine up_alloc ?_ _) | (with_reducible refine up_drewN ?_ _) | (with_reducible refine up_drew ?_) | (with_reducible refine up_set ?_ (by first | (simp; done) | (simp; omega) | omega) _) | (refine up_trans ?_ (by with_reducible assumption))))
            obtain ⟨c0, c1, c2⟩ := bx3 hB
            clear hW
            go_wp2_with (first | (go_at_call 18; (with_reducible refine (unhide H1 _).mono ?_); rintro e w1 ⟨rfl, hu1⟩; have s1 := bx_up hB hu1; obtain ⟨d0, d1, d2⟩ := bx3 s1) | (go_at_call 33; (with_reducible refine (unhide H2 _ (up_trans U hu1)).mono ?_); rintro e w2 ⟨rfl, hu2⟩; have s2 := bx_up s1 hu2) | (go_at_call 43; (with_reducible refine (unhide H3 _ _ (by go_cell) (by go_cell)).mono ?_); rintro e w3 ⟨rfl, hu3⟩; have s3 := bx_up (bx_up s2 (up_alloc (up_refl w2) _)) hu3; have U3 := up_trans (up_trans (up_trans U hu1) (up_trans hu2 (up_alloc (up_refl w2) _))) hu3; obtain ⟨f0, f1, f2⟩ := bx3 s3) | (go_at_call 37; (with_reducible refine (unhide H4 _).mono ?_); rintro e w4 ⟨rfl, rfl⟩) | (go_at_call 44; (with_reducible refine (unhide H5' _ U3).mono ?_); rintro e w5 ⟨rfl, hu5⟩; obtain ⟨g0, g1, g2⟩ := bx3 (bx_up s3 hu5); have U5 := up_trans U3 hu5) | (go_at_call 41; (with_reducible refine (unhide H7 _).mono ?_); rintro e w6 ⟨rfl, rfl⟩))
            go_ret2
            exact ⟨rfl, U5⟩
      · obtain ⟨rfl, rfl⟩ := g5 rfl hr hS
        clear g3 g4 g5 g6 g7
        have d1 : decide (S > 1073741824) = true := decide_eq_true (by omega)
        have d2 : decide (1073741824 < S) = true := decide_eq_true (by omega)
        go_enter Try.func16, Try.ntmps16
        go_upto_region 1 with fail
        refine at_wpB (fun W hW => ?_)
        have hB : Bx W w.heap.size [.int .i64 ld, .int .i64 lf, .int .i64 pw] := by rw [hW]; exact bx_new w _ _
        have U : Up w W := by rw [hW]; exact (by repeat' (first | (with_reducible exact up_refl _) | (with_reducible assumption) | (with_reducible refine up_alloc ?_ _) | (with_reducible refine up_drewN ?_ _) | (with_reducible refine up_drew ?_) | (with_reducible refine up_set ?_ (by first | (simp; done) | (simp; omega) | omega) _) | (refine up_trans ?_ (by with_reducible assumption))))
        obtain ⟨c0, c1, c2⟩ := bx3 hB
        clear hW
        go_wp2_with (first | (go_at_call 18; (with_reducible refine (unhide H1 _).mono ?_); rintro e w1 ⟨rfl, hu1⟩; have s1 := bx_up hB hu1; obtain ⟨d0, d1, d2⟩ := bx3 s1) | (go_at_call 33; (with_reducible refine (unhide H2 _ (up_trans U hu1)).mono ?_); rintro e w2 ⟨rfl, hu2⟩; have s2 := bx_up s1 hu2) | (go_at_call 43; (with_reducible refine (unhide H3 _ _ (by go_cell) (by go_cell)).mono ?_); rintro e w3 ⟨rfl, hu3⟩; have s3 := bx_up (bx_up s2 (up_alloc (up_refl w2) _)) hu3; have U3 := up_trans (up_trans (up_trans U hu1) (up_trans hu2 (up_alloc (up_refl w2) _))) hu3; obtain ⟨f0, f1, f2⟩ := bx3 s3) | (go_at_call 37; (with_reducible refine (unhide H4 _).mono ?_); rintro e w4 ⟨rfl, rfl⟩) | (go_at_call 44; (with_reducible refine (unhide H5' _ U3).mono ?_); rintro e w5 ⟨rfl, hu5⟩; obtain ⟨g0, g1, g2⟩ := bx3 (bx_up s3 hu5); have U5 := up_trans U3 hu5) | (go_at_call 41; (with_reducible refine (unhide H7 _).mono ?_); rintro e w6 ⟨rfl, rfl⟩))
        go_ret2
        exact ⟨rfl, U5⟩
  · have e1 : (E == 0) = false := by simp; exact hE
    obtain ⟨rfl, rfl⟩ := g6 hE
    clear g3 g4 g5 g6 g7
    go_enter Try.func16, Try.ntmps16
    go_upto_region 1 with fail
    refine at_wpB (fun W hW => ?_)
    have hB : Bx W w.heap.size [.int .i64 ld, .int .i64 lf, .int .i64 pw] := by rw [hW]; exact bx_new w _ _
    have U : Up w W := by rw [hW]; exact (by repeat' (first | (with_reducible exact up_refl _) | (with_reducible assumption) | (with_reducible refine up_alloc ?_ _) | (with_reducible refine up_drewN ?_ _) | (with_reducible refine up_drew ?_) | (with_reducible refine up_set ?_ (by first | (simp; done) | (simp; omega) | omega) _) | (refine up_trans ?_ (by with_reducible assumption))))
    obtain ⟨c0, c1, c2⟩ := bx3 hB
    clear hW
    go_wp2_with (first | (go_at_call 18; (with_reducible refine (unhide H1 _).mono ?_); rintro e w1 ⟨rfl, hu1⟩; have s1 := bx_up hB hu1; obtain ⟨d0, d1, d2⟩ := bx3 s1) | (go_at_call 33; (with_reducible refine (unhide H2 _ (up_trans U hu1)).mono ?_); rintro e w2 ⟨rfl, hu2⟩; have s2 := bx_up s1 hu2) | (go_at_call 43; (with_reducible refine (unhide H3 _ _ (by go_cell) (by go_cell)).mono ?_); rintro e w3 ⟨rfl, hu3⟩; have s3 := bx_up (bx_up s2 (up_alloc (up_refl w2) _)) hu3; have U3 := up_trans (up_trans (up_trans U hu1) (up_trans hu2 (up_alloc (up_refl w2) _))) hu3; obtain ⟨f0, f1, f2⟩ := bx3 s3) | (go_at_call 37; (with_reducible refine (unhide H4 _).mono ?_); rintro e w4 ⟨rfl, rfl⟩) | (go_at_call 44; (with_reducible refine (unhide H5' _ U3).mono ?_); rintro e w5 ⟨rfl, hu5⟩; obtain ⟨g0, g1, g2⟩ := bx3 (bx_up s3 hu5); have U5 := up_trans U3 hu5) | (go_at_call 41; (with_reducible refine (unhide H7 _).mono ?_); rintro e w6 ⟨rfl, rfl⟩))
    go_ret2
    exact ⟨rfl, U3⟩
end Go.Proofs.Ytdignnmhiifpgaa
