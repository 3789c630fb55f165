/- StaticsKnown: the law's function returns true. -/
import Derived.Test.YtgjcpgmnflpdkaaTiltP
namespace Go.Proofs.Ytgjcpgmnflpdkaa
open Go.RowKit Go.Proofs.Gn
theorem eq3d (d : Nat) (a b c : Int) (w : World) : (Op.equalIn (d + 2) 30 (.agg #[.int .i64 a, .int .i64 b, .int .i64 c]) (.agg #[.int .i64 a, .int .i64 b, .int .i64 c])).run Try.prog w = .ok true w := by
  unfold Op.equalIn
  simp [run_underlying Try.underlying30, go_sem]
  rw [show List.range' 0 3 = [0, 1, 2] from rfl]
  simp [go_sem, Try.isAgg2]
theorem eq9_same (a0 a1 a2 b0 b1 b2 c0 c1 c2 : Int) (w : World) : (Op.equalIn 10000 31 (m9 a0 a1 a2 b0 b1 b2 c0 c1 c2) (m9 a0 a1 a2 b0 b1 b2 c0 c1 c2)).run Try.prog w = .ok true w := by
  have e := fun x y z => eq3d 9997 x y z w
  unfold Op.equalIn
  simp [run_underlying Try.underlying31, go_sem]
  rw [show List.range' 0 3 = [0, 1, 2] from rfl]
  simp [e, go_sem, Try.isAgg30, Try.sizeOf30]
theorem kn_sums : chE exS = 0 ∧ suV exS (Gs.cN 0 exS) = 2 ∧ suV exS (Gs.cX 0 exS) = 0 ∧ suV exS (Gs.cY 0 exS) = 1000 ∧ suV exS (Gs.cN 1 exS) = 1 ∧ suV exS (Gs.cX 1 exS) = 4000 ∧ suV exS (Gs.cY 1 exS) = 2000 ∧ suV exS (Gs.cN 2 exS) = 1 ∧ suV exS (Gs.cX 2 exS) = 4000 ∧ suV exS (Gs.cY 2 exS) = -2000 := by decide +kernel
theorem kn_parts : atE exS 2000 0 = 0 ∧ paV exS 2000 0 (pa0 exS 2000 0) = 8000000 ∧ paV exS 2000 0 (pa1 exS 2000 0) = 6000000 ∧ paV exS 2000 0 (pa2 exS 2000 0) = 10000000 ∧ paV exS 2000 0 (paD exS) = 32000000 := by decide +kernel
theorem kn_tips : tiE exS 2000 0 = 5 ∧ tiV exS 2000 0 = 0 := by decide +kernel
theorem kn_foot : 2000 + fx 100 = 2150 ∧ fx (-50) = -75 := by decide +kernel
set_option maxRecDepth 100000 in
set_option maxHeartbeats 8000000 in
theorem l_Known (w : World) : Calls Try.prog 11 #[] w fun e w' => e = .returned (.bool true) ∧ Below w.heap.size w w' := by
  have H1 : ∀ (W : World) (b : Nat), Sups W (some ⟨b, 0, none⟩) exS → Calls Try.prog 16 #[.slice (some ⟨b, 0, none⟩) 4 4] W fun e w' => e = .returned (.tuple #[m9 2 0 1000 1 4000 2000 1 4000 (-2000), .int .i64 0]) ∧ Up W w' := fun W b h => by
    have t := p_Sums (some ⟨b, 0, none⟩) exS 4 (by decide) W h
    obtain ⟨s0, s1, s2, s3, s4, s5, s6, s7, s8, s9⟩ := kn_sums
    rw [s0, s1, s2, s3, s4, s5, s6, s7, s8, s9] at t
    exact t
  have H2 : ∀ (W : World) (b : Nat), Sups W (some ⟨b, 0, none⟩) exS → Calls Try.prog 17 #[.slice (some ⟨b, 0, none⟩) 4 4, pt 2000 0] W fun e w' => e = .returned (.tuple #[.agg #[.int .i64 8000000, .int .i64 6000000, .int .i64 10000000], .int .i64 32000000, .int .i64 0]) ∧ Up W w' := fun W b h => by
    have t := p_Parts (some ⟨b, 0, none⟩) exS 4 2000 0 (by decide) W h
    obtain ⟨s0, s1, s2, s3, s4⟩ := kn_parts
    rw [s0, s1, s2, s3, s4] at t
    exact t
  have H3 : ∀ (W : World) (b : Nat), Sups W (some ⟨b, 0, none⟩) exS → Calls Try.prog 18 #[.slice (some ⟨b, 0, none⟩) 4 4, pt 2000 0] W fun e w' => e = .returned (.tuple #[.int .i64 0, .int .i64 5]) ∧ Up W w' := fun W b h => by
    have t := p_Tips (some ⟨b, 0, none⟩) exS 4 2000 0 (by decide) W h
    rw [kn_tips.1, kn_tips.2] at t
    exact t
  have H4 : ∀ W : World, Calls Try.prog 27 #[.agg #[.int .i64 2000, .int .i64 0, .int .i64 1500], pt 100 (-50), pt 0 0] W fun e w' => e = .returned (.tuple #[pt 2150 (-75), .int .i64 0]) ∧ Up W w' := fun W => by
    have t := p_FootX (k := 100) (l := -50) (by omega) (by omega) W
    rw [kn_foot.1, kn_foot.2] at t
    exact t
  have H5 := fun (W : World) (b : Nat) (h : Sups W (some ⟨b, 0, none⟩) exS) => p_TiltX b W h
  have hq := fun W => eq3_same 8000000 6000000 10000000 W
  have hr := fun W => eq9_same 2 0 1000 1 4000 2000 1 4000 (-2000) W
  have h1 := hide H1
  have h2 := hide H2
  have h3 := hide H3
  have h4 := hide H4
  have h5 := hide H5
  clear H1 H2 H3 H4 H5
  go_enter Try.func11, Try.ntmps11
  go_wp2_with (first | (go_at_call 38; refine (l_Example _).mono ?_; rintro e w1 ⟨b, rfl, hs, hb1⟩) | (go_at_call 16; (with_reducible refine (unhide h1 _ _ hs).mono ?_); rintro e w2 ⟨rfl, hb2⟩) | (go_at_call 17; (with_reducible refine (unhide h2 _ _ (sups_up hs (by repeat' (first | (with_reducible exact up_refl _) | (with_reducible assumption) | (with_reducible refine up_alloc ?_ _) | (with_reducible refine up_drewN ?_ _) | (with_reducible refine up_drew ?_) | (with_reducible refine up_set ?_ (by first | (simp; done) | (simp; omega) | omega) _) | (refine up_trans ?_ (by with_reducible assumption)))))).mono ?_); rintro e w3 ⟨rfl, hb3⟩; have A2 := bx_up (bx_new w2 [.int .i64 2, .int .i64 0, .int .i64 1000, .int .i64 1, .int .i64 4000, .int .i64 2000, .int .i64 1, .int .i64 4000, .int .i64 (-2000)] 31) hb3) | (go_at_call 18; (with_reducible refine (unhide h3 _ _ (sups_up hs (by repeat' (first | (with_reducible exact up_refl _) | (with_reducible assumption) | (with_reducible refine up_alloc ?_ _) | (with_reducible refine up_drewN ?_ _) | (with_reducible refine up_drew ?_) | (with_reducible refine up_set ?_ (by first | (simp; done) | (simp; omega) | omega) _) | (refine up_trans ?_ (by with_reducible assumption)))))).mono ?_); rintro e w4 ⟨rfl, hb4⟩; have A3 := bx_up (bx_alloc A2 _) hb4; have B3 := bx_up (bx_new w3 [.int .i64 8000000, .int .i64 6000000, .int .i64 10000000] 30) hb4) | (go_at_call 27; (with_reducible refine (unhide h4 _).mono ?_); rintro e w5 ⟨rfl, hb5⟩; have A4 := bx_up A3 hb5; have B4 := bx_up B3 hb5) | (go_at_call 31; (with_reducible refine (unhide h5 _ _ (sups_up hs (by repeat' (first | (with_reducible exact up_refl _) | (with_reducible assumption) | (with_reducible refine up_alloc ?_ _) | (with_reducible refine up_drewN ?_ _) | (with_reducible refine up_drew ?_) | (with_reducible refine up_set ?_ (by first | (simp; done) | (simp; omega) | omega) _) | (refine up_trans ?_ (by with_reducible assumption)))))).mono ?_); rintro e w6 ⟨rfl, hb6⟩; have A5 := bx_up (bx_alloc A4 _) hb6; have B5 := bx_up (bx_alloc B4 _) hb6; have C5 := bx_up (bx_new w5 [.int .i64 2150, .int .i64 (-75)] 29) hb6; obtain ⟨q0, q1, q2, q3, q4, q5, q6, q7, q8⟩ := bx9 A5; obtain ⟨r0, r1, r2⟩ := bx3 B5; obtain ⟨v0, v1⟩ := bx2 C5) | (go_at_call 15; refine (l_known _).mono ?_; rintro e w7 ⟨rfl, hb7⟩))
  go_ret
  exact ⟨rfl, (by repeat' (first | (with_reducible exact up_refl _) | (with_reducible assumption) | (with_reducible refine up_alloc ?_ _) | (with_reducible refine up_drewN ?_ _) | (with_reducible refine up_drew ?_) | (with_reducible refine up_set ?_ (by first | (simp; done) | (simp; omega) | omega) _) | (refine up_trans ?_ (by with_reducible assumption))))⟩
end Go.Proofs.Ytgjcpgmnflpdkaa
