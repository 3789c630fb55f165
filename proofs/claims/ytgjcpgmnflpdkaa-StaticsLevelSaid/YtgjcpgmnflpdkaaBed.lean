/- The height of a platform on the ground, at a point. -/
import Derived.Test.YtgjcpgmnflpdkaaGrM
import Derived.Test.YtgjcpgmnflpdkaaUpQ
namespace Go.Proofs.Ytgjcpgmnflpdkaa
open Go.RowKit Go.Proofs.Gn
theorem p_dv {p D l : Int} (hD : 1 ≤ D ∧ D ≤ 2849934139195392) (hp : ov p D = false) (hl : -983040 ≤ l ∧ l ≤ 983040) (W : World) :
    Calls Try.prog 85 #[fr p D, .int .i64 l] W fun e w' => e = .returned (.int .i64 (p * l / D)) ∧ Up W w' := by
  have b := ov_no hp
  refine p_down p D l W (by omega) (by omega) (by omega) ?_
  have n1 := amt_nonneg p
  have n2 := amt_nonneg l
  have a1 : amt p ≤ 1024 * D := by unfold amt; split <;> omega
  have a2 : amt l ≤ 983040 := by unfold amt; split <;> omega
  have h := (Gs.mb (u := amt p) (v := amt l) (U := 1024 * D) (V := 983040) (by omega) a1 (by omega) a2).2
  omega
set_option maxRecDepth 100000 in
set_option maxHeartbeats 16000000 in
theorem p_bed {ps : List Gs.Sup} {X Y l0 l1 l2 : Int} (hz : atE ps X Y = 0) (h0 : -983040 ≤ l0 ∧ l0 ≤ 983040) (h1 : -983040 ≤ l1 ∧ l1 ≤ 983040) (h2 : -983040 ≤ l2 ∧ l2 ≤ 983040) (w : World) :
    Calls Try.prog 75 #[.agg #[.int .i64 (Gs.cN 0 ps), .int .i64 (Gs.cX 0 ps), .int .i64 (Gs.cY 0 ps), .int .i64 (Gs.cN 1 ps), .int .i64 (Gs.cX 1 ps), .int .i64 (Gs.cY 1 ps), .int .i64 (Gs.cN 2 ps), .int .i64 (Gs.cX 2 ps), .int .i64 (Gs.cY 2 ps), .int .i64 l0, .int .i64 l1, .int .i64 l2], pt X Y] w fun e w' => e = .returned (.tuple #[.int .i64 (hoV ps X Y l0 l1 l2), .int .i64 (hoE ps X Y)]) ∧ Up w w' := by
  have HP := hide (fun W => p_parts9 hz W)
  have hb := pa_bd hz
  have hd := paD_bd (atE_ok hz).1
  have HA0 := hide (fun W => p_amount (pa0 ps X Y) W (by omega) (by omega))
  have HA1 := hide (fun W => p_amount (pa1 ps X Y) W (by omega) (by omega))
  have HA2 := hide (fun W => p_amount (pa2 ps X Y) W (by omega) (by omega))
  have HD0 := hide (fun (hp : ov (pa0 ps X Y) (paD ps) = false) => (⟨fun W => p_dv hd hp h0 W, dv_bd hd.1 (ov_no hp) h0⟩ : (∀ W, _) ∧ _))
  have HD1 := hide (fun (hp : ov (pa1 ps X Y) (paD ps) = false) => (⟨fun W => p_dv hd hp h1 W, dv_bd hd.1 (ov_no hp) h1⟩ : (∀ W, _) ∧ _))
  have HD2 := hide (fun (hp : ov (pa2 ps X Y) (paD ps) = false) => (⟨fun W => p_dv hd hp h2 W, dv_bd hd.1 (ov_no hp) h2⟩ : (∀ W, _) ∧ _))
  have HO0 := hide ((⟨fun h => of_decide_eq_true h, fun h => of_decide_eq_false h⟩ : (ov (pa0 ps X Y) (paD ps) = true → 1024 * paD ps < amt (pa0 ps X Y)) ∧ (ov (pa0 ps X Y) (paD ps) = false → ¬ 1024 * paD ps < amt (pa0 ps X Y))))
  have HO1 := hide ((⟨fun h => of_decide_eq_true h, fun h => of_decide_eq_false h⟩ : (ov (pa1 ps X Y) (paD ps) = true → 1024 * paD ps < amt (pa1 ps X Y)) ∧ (ov (pa1 ps X Y) (paD ps) = false → ¬ 1024 * paD ps < amt (pa1 ps X Y))))
  have HO2 := hide ((⟨fun h => of_decide_eq_true h, fun h => of_decide_eq_false h⟩ : (ov (pa2 ps X Y) (paD ps) = true → 1024 * paD ps < amt (pa2 ps X Y)) ∧ (ov (pa2 ps X Y) (paD ps) = false → ¬ 1024 * paD ps < amt (pa2 ps X Y))))
  obtain ⟨hd1, hd2⟩ := hd
  clear hz hb h0 h1 h2
  unfold hoV hoE hoB hoS
  unfold n9 m9 at *
  generalize ov (pa0 ps X Y) (paD ps) = o0 at *
  generalize ov (pa1 ps X Y) (paD ps) = o1 at *
  generalize ov (pa2 ps X Y) (paD ps) = o2 at *
  generalize amt (pa0 ps X Y) = A0 at *
  generalize amt (pa1 ps X Y) = A1 at *
  generalize amt (pa2 ps X Y) = A2 at *
  generalize pa0 ps X Y * l0 / paD ps = d0 at *
  generalize pa1 ps X Y * l1 / paD ps = d1 at *
  generalize pa2 ps X Y * l2 / paD ps = d2 at *
  generalize pa0 ps X Y = p0 at *
  generalize pa1 ps X Y = p1 at *
  generalize pa2 ps X Y = p2 at *
  generalize paD ps = D at *
  generalize Gs.cN 0 ps = a0 at *
  generalize Gs.cX 0 ps = a1 at *
  generalize Gs.cY 0 ps = a2 at *
  generalize Gs.cN 1 ps = b0 at *
  generalize Gs.cX 1 ps = b1 at *
  generalize Gs.cY 1 ps = b2 at *
  generalize Gs.cN 2 ps = c0 at *
  generalize Gs.cX 2 ps = c1 at *
  generalize Gs.cY 2 ps = c2 at *
  cases o0
  rotate_left
  · have hov := (unhide HO0).1 rfl
    clear HO0 HO1 HO2
    clear HD0
    clear HD1
    clear HD2
    simp only [Bool.true_or, if_true]
    go_enter Try.func75, Try.ntmps75
    go_upto_region 1 with fail
    refine at_wp (fun W0 hW0 => ?_)
    have U0 : Up w W0 := by rw [hW0]; exact (by repeat' (first | (with_reducible exact up_refl _) | (with_reducible assumption) | (with_reducible refine up_alloc ?_ _) | (with_reducible refine up_drewN ?_ _) | (with_reducible refine up_drew ?_) | (with_reducible refine up_set ?_ (by first | (simp; done) | (simp; omega) | omega) _) | (refine up_trans ?_ (by with_reducible assumption))))
    have B0 : Bx W0 w.heap.size [.int .i64 a0, .int .i64 a1, .int .i64 a2, .int .i64 b0, .int .i64 b1, .int .i64 b2, .int .i64 c0, .int .i64 c1, .int .i64 c2, .int .i64 l0, .int .i64 l1, .int .i64 l2] := by rw [hW0]; exact bx_alloc (bx_new w _ 100) _
    have P0 : Bx W0 (w.heap.size + 1) [.int .i64 X, .int .i64 Y] := by
      rw [hW0]
      have t := bx_new (w.alloc (.cells #[.int .i64 a0, .int .i64 a1, .int .i64 a2, .int .i64 b0, .int .i64 b1, .int .i64 b2, .int .i64 c0, .int .i64 c1, .int .i64 c2, .int .i64 l0, .int .i64 l1, .int .i64 l2] 100)) [.int .i64 X, .int .i64 Y] 29
      rwa [sz1] at t
    clear hW0
    obtain ⟨x0, x1⟩ := bx2 P0
    have y0 := (B0 0 _ rfl).1
    have y1 := (B0 1 _ rfl).1
    have y2 := (B0 2 _ rfl).1
    have y3 := (B0 3 _ rfl).1
    have y4 := (B0 4 _ rfl).1
    have y5 := (B0 5 _ rfl).1
    have y6 := (B0 6 _ rfl).1
    have y7 := (B0 7 _ rfl).1
    have y8 := (B0 8 _ rfl).1
    go_upto_region 2 with (go_at_call 49; (with_reducible refine (unhide HP _).mono ?_); rintro e w1 ⟨rfl, hb1⟩)
    refine at_wp (fun W1 hW1 => ?_)
    have L1 : Bx W1 w1.heap.size [.int .i64 p0, .int .i64 p1, .int .i64 p2] := by rw [hW1]; exact bx_new w1 _ 30
    have B1 : Bx W1 w.heap.size [.int .i64 a0, .int .i64 a1, .int .i64 a2, .int .i64 b0, .int .i64 b1, .int .i64 b2, .int .i64 c0, .int .i64 c1, .int .i64 c2, .int .i64 l0, .int .i64 l1, .int .i64 l2] := by rw [hW1]; exact bx_alloc (bx_up B0 hb1) _
    have U1 : Up w W1 := by rw [hW1]; exact up_alloc (up_trans U0 hb1) _
    clear hW1 hb1 U0 B0 P0 x0 x1 y0 y1 y2 y3 y4 y5 y6 y7 y8
    obtain ⟨G, hG⟩ : ∃ G, w1.heap.size = G := ⟨_, rfl⟩
    rw [hG] at L1 ⊢
    clear hG
    obtain ⟨q10, q11, q12⟩ := bx3 L1
    go_wp2_with fail
    refine wp_loop_rounds 4 ?_
    rw [rounds_succ]
    go_wp2_with (go_at_call 90; (with_reducible refine (unhide HA0 _).mono ?_); rintro e w9 ⟨rfl, rfl⟩)
    go_ret2
    exact ⟨rfl, (by repeat' (first | (with_reducible exact up_refl _) | (with_reducible assumption) | (with_reducible refine up_alloc ?_ _) | (with_reducible refine up_drewN ?_ _) | (with_reducible refine up_drew ?_) | (with_reducible refine up_set ?_ (by first | (simp; done) | (simp; omega) | omega) _) | (refine up_trans ?_ (by with_reducible assumption))))⟩
  have hn0 := (unhide HO0).2 rfl
  obtain ⟨HE0, v0⟩ := unhide HD0 rfl
  replace HE0 := hide HE0
  obtain ⟨v01, v02⟩ := v0
  clear HO0 HD0
  have e1 : IntKind.i64.wrap d0 = d0 := IntWalk.i64_in _ ⟨by omega, by omega⟩
  cases o1
  rotate_left
  · have hov := (unhide HO1).1 rfl
    clear HO1 HO2
    clear HD1
    clear HD2
    simp only [Bool.false_or, Bool.true_or, if_true]
    go_enter Try.func75, Try.ntmps75
    go_upto_region 1 with fail
    refine at_wp (fun W0 hW0 => ?_)
    have U0 : Up w W0 := by rw [hW0]; exact (by repeat' (first | (with_reducible exact up_refl _) | (with_reducible assumption) | (with_reducible refine up_alloc ?_ _) | (with_reducible refine up_drewN ?_ _) | (with_reducible refine up_drew ?_) | (with_reducible refine up_set ?_ (by first | (simp; done) | (simp; omega) | omega) _) | (refine up_trans ?_ (by with_reducible assumption))))
    have B0 : Bx W0 w.heap.size [.int .i64 a0, .int .i64 a1, .int .i64 a2, .int .i64 b0, .int .i64 b1, .int .i64 b2, .int .i64 c0, .int .i64 c1, .int .i64 c2, .int .i64 l0, .int .i64 l1, .int .i64 l2] := by rw [hW0]; exact bx_alloc (bx_new w _ 100) _
    have P0 : Bx W0 (w.heap.size + 1) [.int .i64 X, .int .i64 Y] := by
      rw [hW0]
      have t := bx_new (w.alloc (.cells #[.int .i64 a0, .int .i64 a1, .int .i64 a2, .int .i64 b0, .int .i64 b1, .int .i64 b2, .int .i64 c0, .int .i64 c1, .int .i64 c2, .int .i64 l0, .int .i64 l1, .int .i64 l2] 100)) [.int .i64 X, .int .i64 Y] 29
      rwa [sz1] at t
    clear hW0
    obtain ⟨x0, x1⟩ := bx2 P0
    have y0 := (B0 0 _ rfl).1
    have y1 := (B0 1 _ rfl).1
    have y2 := (B0 2 _ rfl).1
    have y3 := (B0 3 _ rfl).1
    have y4 := (B0 4 _ rfl).1
    have y5 := (B0 5 _ rfl).1
    have y6 := (B0 6 _ rfl).1
    have y7 := (B0 7 _ rfl).1
    have y8 := (B0 8 _ rfl).1
    go_upto_region 2 with (go_at_call 49; (with_reducible refine (unhide HP _).mono ?_); rintro e w1 ⟨rfl, hb1⟩)
    refine at_wp (fun W1 hW1 => ?_)
    have L1 : Bx W1 w1.heap.size [.int .i64 p0, .int .i64 p1, .int .i64 p2] := by rw [hW1]; exact bx_new w1 _ 30
    have B1 : Bx W1 w.heap.size [.int .i64 a0, .int .i64 a1, .int .i64 a2, .int .i64 b0, .int .i64 b1, .int .i64 b2, .int .i64 c0, .int .i64 c1, .int .i64 c2, .int .i64 l0, .int .i64 l1, .int .i64 l2] := by rw [hW1]; exact bx_alloc (bx_up B0 hb1) _
    have U1 : Up w W1 := by rw [hW1]; exact up_alloc (up_trans U0 hb1) _
    clear hW1 hb1 U0 B0 P0 x0 x1 y0 y1 y2 y3 y4 y5 y6 y7 y8
    obtain ⟨G, hG⟩ : ∃ G, w1.heap.size = G := ⟨_, rfl⟩
    rw [hG] at L1 ⊢
    clear hG
    obtain ⟨q10, q11, q12⟩ := bx3 L1
    go_wp2_with fail
    refine wp_loop_rounds 4 ?_
    have m0 : ∀ p : UpW W1, p.v.cell? ⟨G, 0, none⟩ = some (.int .i64 p0) := fun p => (bx3 (bx_up L1 p.up)).1
    have m1 : ∀ p : UpW W1, p.v.cell? ⟨w.heap.size, 9, none⟩ = some (.int .i64 l0) := fun p => (bx_up B1 p.up 9 _ rfl).1
    rw [rounds_succ]
    go_wp2_with (go_at_call 90; (with_reducible refine (unhide HA0 _).mono ?_); rintro e w9 ⟨rfl, rfl⟩)
    refine wp_upq (by kernel_rfl) (by kernel_rfl) ?_; (repeat (go_big_quiet_step ((go_at_call 85; exact upq (unhide HE0 _))))); refine wpQuiet_nil ?_; intro _ hw'; obtain ⟨pq, hw''⟩ := hw'; subst hw''; have hpq := pq.up
    generalize pq.v = W2 at hpq ⊢
    have L2 := bx_up L1 hpq
    have B2 := bx_up B1 hpq
    have U2 := up_trans U1 hpq
    clear m0 m1 L1 B1 U1 q10 q11 q12 hpq HA0 HE0
    obtain ⟨q20, q21, q22⟩ := bx3 L2
    go_wp2_with fail
    rw [rounds_succ]
    go_wp2_with (go_at_call 90; (with_reducible refine (unhide HA1 _).mono ?_); rintro e w9 ⟨rfl, rfl⟩)
    go_ret2
    exact ⟨rfl, (by repeat' (first | (with_reducible exact up_refl _) | (with_reducible assumption) | (with_reducible refine up_alloc ?_ _) | (with_reducible refine up_drewN ?_ _) | (with_reducible refine up_drew ?_) | (with_reducible refine up_set ?_ (by first | (simp; done) | (simp; omega) | omega) _) | (refine up_trans ?_ (by with_reducible assumption))))⟩
  have hn1 := (unhide HO1).2 rfl
  obtain ⟨HE1, v1⟩ := unhide HD1 rfl
  replace HE1 := hide HE1
  obtain ⟨v11, v12⟩ := v1
  clear HO1 HD1
  have e2 : IntKind.i64.wrap (d0 + d1) = d0 + d1 := IntWalk.i64_in _ ⟨by omega, by omega⟩
  cases o2
  rotate_left
  · have hov := (unhide HO2).1 rfl
    clear HO2
    clear HD2
    simp only [Bool.false_or, if_true]
    go_enter Try.func75, Try.ntmps75
    go_upto_region 1 with fail
    refine at_wp (fun W0 hW0 => ?_)
    have U0 : Up w W0 := by rw [hW0]; exact (by repeat' (first | (with_reducible exact up_refl _) | (with_reducible assumption) | (with_reducible refine up_alloc ?_ _) | (with_reducible refine up_drewN ?_ _) | (with_reducible refine up_drew ?_) | (with_reducible refine up_set ?_ (by first | (simp; done) | (simp; omega) | omega) _) | (refine up_trans ?_ (by with_reducible assumption))))
    have B0 : Bx W0 w.heap.size [.int .i64 a0, .int .i64 a1, .int .i64 a2, .int .i64 b0, .int .i64 b1, .int .i64 b2, .int .i64 c0, .int .i64 c1, .int .i64 c2, .int .i64 l0, .int .i64 l1, .int .i64 l2] := by rw [hW0]; exact bx_alloc (bx_new w _ 100) _
    have P0 : Bx W0 (w.heap.size + 1) [.int .i64 X, .int .i64 Y] := by
      rw [hW0]
      have t := bx_new (w.alloc (.cells #[.int .i64 a0, .int .i64 a1, .int .i64 a2, .int .i64 b0, .int .i64 b1, .int .i64 b2, .int .i64 c0, .int .i64 c1, .int .i64 c2, .int .i64 l0, .int .i64 l1, .int .i64 l2] 100)) [.int .i64 X, .int .i64 Y] 29
      rwa [sz1] at t
    clear hW0
    obtain ⟨x0, x1⟩ := bx2 P0
    have y0 := (B0 0 _ rfl).1
    have y1 := (B0 1 _ rfl).1
    have y2 := (B0 2 _ rfl).1
    have y3 := (B0 3 _ rfl).1
    have y4 := (B0 4 _ rfl).1
    have y5 := (B0 5 _ rfl).1
    have y6 := (B0 6 _ rfl).1
    have y7 := (B0 7 _ rfl).1
    have y8 := (B0 8 _ rfl).1
    go_upto_region 2 with (go_at_call 49; (with_reducible refine (unhide HP _).mono ?_); rintro e w1 ⟨rfl, hb1⟩)
    refine at_wp (fun W1 hW1 => ?_)
    have L1 : Bx W1 w1.heap.size [.int .i64 p0, .int .i64 p1, .int .i64 p2] := by rw [hW1]; exact bx_new w1 _ 30
    have B1 : Bx W1 w.heap.size [.int .i64 a0, .int .i64 a1, .int .i64 a2, .int .i64 b0, .int .i64 b1, .int .i64 b2, .int .i64 c0, .int .i64 c1, .int .i64 c2, .int .i64 l0, .int .i64 l1, .int .i64 l2] := by rw [hW1]; exact bx_alloc (bx_up B0 hb1) _
    have U1 : Up w W1 := by rw [hW1]; exact up_alloc (up_trans U0 hb1) _
    clear hW1 hb1 U0 B0 P0 x0 x1 y0 y1 y2 y3 y4 y5 y6 y7 y8
    obtain ⟨G, hG⟩ : ∃ G, w1.heap.size = G := ⟨_, rfl⟩
    rw [hG] at L1 ⊢
    clear hG
    obtain ⟨q10, q11, q12⟩ := bx3 L1
    go_wp2_with fail
    refine wp_loop_rounds 4 ?_
    have m0 : ∀ p : UpW W1, p.v.cell? ⟨G, 0, none⟩ = some (.int .i64 p0) := fun p => (bx3 (bx_up L1 p.up)).1
    have m1 : ∀ p : UpW W1, p.v.cell? ⟨w.heap.size, 9, none⟩ = some (.int .i64 l0) := fun p => (bx_up B1 p.up 9 _ rfl).1
    rw [rounds_succ]
    go_wp2_with (go_at_call 90; (with_reducible refine (unhide HA0 _).mono ?_); rintro e w9 ⟨rfl, rfl⟩)
    refine wp_upq (by kernel_rfl) (by kernel_rfl) ?_; (repeat (go_big_quiet_step ((go_at_call 85; exact upq (unhide HE0 _))))); refine wpQuiet_nil ?_; intro _ hw'; obtain ⟨pq, hw''⟩ := hw'; subst hw''; have hpq := pq.up
    generalize pq.v = W2 at hpq ⊢
    have L2 := bx_up L1 hpq
    have B2 := bx_up B1 hpq
    have U2 := up_trans U1 hpq
    clear m0 m1 L1 B1 U1 q10 q11 q12 hpq HA0 HE0
    obtain ⟨q20, q21, q22⟩ := bx3 L2
    go_wp2_with fail
    have m0 : ∀ p : UpW W2, p.v.cell? ⟨G, 1, none⟩ = some (.int .i64 p1) := fun p => (bx3 (bx_up L2 p.up)).2.1
    have m1 : ∀ p : UpW W2, p.v.cell? ⟨w.heap.size, 10, none⟩ = some (.int .i64 l1) := fun p => (bx_up B2 p.up 10 _ rfl).1
    rw [rounds_succ]
    go_wp2_with (go_at_call 90; (with_reducible refine (unhide HA1 _).mono ?_); rintro e w9 ⟨rfl, rfl⟩)
    refine wp_upq (by kernel_rfl) (by kernel_rfl) ?_; (repeat (go_big_quiet_step ((go_at_call 85; exact upq (unhide HE1 _))))); refine wpQuiet_nil ?_; intro _ hw'; obtain ⟨pq, hw''⟩ := hw'; subst hw''; have hpq := pq.up
    generalize pq.v = W3 at hpq ⊢
    have L3 := bx_up L2 hpq
    have B3 := bx_up B2 hpq
    have U3 := up_trans U2 hpq
    clear m0 m1 L2 B2 U2 q20 q21 q22 hpq HA1 HE1
    obtain ⟨q30, q31, q32⟩ := bx3 L3
    go_wp2_with fail
    rw [rounds_succ]
    go_wp2_with (go_at_call 90; (with_reducible refine (unhide HA2 _).mono ?_); rintro e w9 ⟨rfl, rfl⟩)
    go_ret2
    exact ⟨rfl, (by repeat' (first | (with_reducible exact up_refl _) | (with_reducible assumption) | (with_reducible refine up_alloc ?_ _) | (with_reducible refine up_drewN ?_ _) | (with_reducible refine up_drew ?_) | (with_reducible refine up_set ?_ (by first | (simp; done) | (simp; omega) | omega) _) | (refine up_trans ?_ (by with_reducible assumption))))⟩
  have hn2 := (unhide HO2).2 rfl
  obtain ⟨HE2, v2⟩ := unhide HD2 rfl
  replace HE2 := hide HE2
  obtain ⟨v21, v22⟩ := v2
  clear HO2 HD2
  have e3 : IntKind.i64.wrap (d0 + d1 + d2) = d0 + d1 + d2 := IntWalk.i64_in _ ⟨by omega, by omega⟩
  simp only [Bool.false_or, Bool.false_eq_true, if_false]
  go_enter Try.func75, Try.ntmps75
  go_upto_region 1 with fail
  refine at_wp (fun W0 hW0 => ?_)
  have U0 : Up w W0 := by rw [hW0]; exact (by repeat' (first | (with_reducible exact up_refl _) | (with_reducible assumption) | (with_reducible refine up_alloc ?_ _) | (with_reducible refine up_drewN ?_ _) | (with_reducible refine up_drew ?_) | (with_reducible refine up_set ?_ (by first | (simp; done) | (simp; omega) | omega) _) | (refine up_trans ?_ (by with_reducible assumption))))
  have B0 : Bx W0 w.heap.size [.int .i64 a0, .int .i64 a1, .int .i64 a2, .int .i64 b0, .int .i64 b1, .int .i64 b2, .int .i64 c0, .int .i64 c1, .int .i64 c2, .int .i64 l0, .int .i64 l1, .int .i64 l2] := by rw [hW0]; exact bx_alloc (bx_new w _ 100) _
  have P0 : Bx W0 (w.heap.size + 1) [.int .i64 X, .int .i64 Y] := by
    rw [hW0]
    have t := bx_new (w.alloc (.cells #[.int .i64 a0, .int .i64 a1, .int .i64 a2, .int .i64 b0, .int .i64 b1, .int .i64 b2, .int .i64 c0, .int .i64 c1, .int .i64 c2, .int .i64 l0, .int .i64 l1, .int .i64 l2] 100)) [.int .i64 X, .int .i64 Y] 29
    rwa [sz1] at t
  clear hW0
  obtain ⟨x0, x1⟩ := bx2 P0
  have y0 := (B0 0 _ rfl).1
  have y1 := (B0 1 _ rfl).1
  have y2 := (B0 2 _ rfl).1
  have y3 := (B0 3 _ rfl).1
  have y4 := (B0 4 _ rfl).1
  have y5 := (B0 5 _ rfl).1
  have y6 := (B0 6 _ rfl).1
  have y7 := (B0 7 _ rfl).1
  have y8 := (B0 8 _ rfl).1
  go_upto_region 2 with (go_at_call 49; (with_reducible refine (unhide HP _).mono ?_); rintro e w1 ⟨rfl, hb1⟩)
  refine at_wp (fun W1 hW1 => ?_)
  have L1 : Bx W1 w1.heap.size [.int .i64 p0, .int .i64 p1, .int .i64 p2] := by rw [hW1]; exact bx_new w1 _ 30
  have B1 : Bx W1 w.heap.size [.int .i64 a0, .int .i64 a1, .int .i64 a2, .int .i64 b0, .int .i64 b1, .int .i64 b2, .int .i64 c0, .int .i64 c1, .int .i64 c2, .int .i64 l0, .int .i64 l1, .int .i64 l2] := by rw [hW1]; exact bx_alloc (bx_up B0 hb1) _
  have U1 : Up w W1 := by rw [hW1]; exact up_alloc (up_trans U0 hb1) _
  clear hW1 hb1 U0 B0 P0 x0 x1 y0 y1 y2 y3 y4 y5 y6 y7 y8
  obtain ⟨G, hG⟩ : ∃ G, w1.heap.size = G := ⟨_, rfl⟩
  rw [hG] at L1 ⊢
  clear hG
  obtain ⟨q10, q11, q12⟩ := bx3 L1
  go_wp2_with fail
  refine wp_loop_rounds 4 ?_
  have m0 : ∀ p : UpW W1, p.v.cell? ⟨G, 0, none⟩ = some (.int .i64 p0) := fun p => (bx3 (bx_up L1 p.up)).1
  have m1 : ∀ p : UpW W1, p.v.cell? ⟨w.heap.size, 9, none⟩ = some (.int .i64 l0) := fun p => (bx_up B1 p.up 9 _ rfl).1
  rw [rounds_succ]
  go_wp2_with (go_at_call 90; (with_reducible refine (unhide HA0 _).mono ?_); rintro e w9 ⟨rfl, rfl⟩)
  refine wp_upq (by kernel_rfl) (by kernel_rfl) ?_; (repeat (go_big_quiet_step ((go_at_call 85; exact upq (unhide HE0 _))))); refine wpQuiet_nil ?_; intro _ hw'; obtain ⟨pq, hw''⟩ := hw'; subst hw''; have hpq := pq.up
  generalize pq.v = W2 at hpq ⊢
  have L2 := bx_up L1 hpq
  have B2 := bx_up B1 hpq
  have U2 := up_trans U1 hpq
  clear m0 m1 L1 B1 U1 q10 q11 q12 hpq HA0 HE0
  obtain ⟨q20, q21, q22⟩ := bx3 L2
  go_wp2_with fail
  have m0 : ∀ p : UpW W2, p.v.cell? ⟨G, 1, none⟩ = some (.int .i64 p1) := fun p => (bx3 (bx_up L2 p.up)).2.1
  have m1 : ∀ p : UpW W2, p.v.cell? ⟨w.heap.size, 10, none⟩ = some (.int .i64 l1) := fun p => (bx_up B2 p.up 10 _ rfl).1
  rw [rounds_succ]
  go_wp2_with (go_at_call 90; (with_reducible refine (unhide HA1 _).mono ?_); rintro e w9 ⟨rfl, rfl⟩)
  refine wp_upq (by kernel_rfl) (by kernel_rfl) ?_; (repeat (go_big_quiet_step ((go_at_call 85; exact upq (unhide HE1 _))))); refine wpQuiet_nil ?_; intro _ hw'; obtain ⟨pq, hw''⟩ := hw'; subst hw''; have hpq := pq.up
  generalize pq.v = W3 at hpq ⊢
  have L3 := bx_up L2 hpq
  have B3 := bx_up B2 hpq
  have U3 := up_trans U2 hpq
  clear m0 m1 L2 B2 U2 q20 q21 q22 hpq HA1 HE1
  obtain ⟨q30, q31, q32⟩ := bx3 L3
  go_wp2_with fail
  have m0 : ∀ p : UpW W3, p.v.cell? ⟨G, 2, none⟩ = some (.int .i64 p2) := fun p => (bx3 (bx_up L3 p.up)).2.2
  have m1 : ∀ p : UpW W3, p.v.cell? ⟨w.heap.size, 11, none⟩ = some (.int .i64 l2) := fun p => (bx_up B3 p.up 11 _ rfl).1
  rw [rounds_succ]
  go_wp2_with (go_at_call 90; (with_reducible refine (unhide HA2 _).mono ?_); rintro e w9 ⟨rfl, rfl⟩)
  refine wp_upq (by kernel_rfl) (by kernel_rfl) ?_; (repeat (go_big_quiet_step ((go_at_call 85; exact upq (unhide HE2 _))))); refine wpQuiet_nil ?_; intro _ hw'; obtain ⟨pq, hw''⟩ := hw'; subst hw''; have hpq := pq.up
  generalize pq.v = W4 at hpq ⊢
  have L4 := bx_up L3 hpq
  have B4 := bx_up B3 hpq
  have U4 := up_trans U3 hpq
  clear m0 m1 L3 B3 U3 q30 q31 q32 hpq HA2 HE2
  obtain ⟨q40, q41, q42⟩ := bx3 L4
  go_wp2_with fail
  rw [rounds_succ]
  go_wp2_with fail
  go_ret2
  exact ⟨rfl, (by repeat' (first | (with_reducible exact up_refl _) | (with_reducible assumption) | (with_reducible refine up_alloc ?_ _) | (with_reducible refine up_drewN ?_ _) | (with_reducible refine up_drew ?_) | (with_reducible refine up_set ?_ (by first | (simp; done) | (simp; omega) | omega) _) | (refine up_trans ?_ (by with_reducible assumption))))⟩
end Go.Proofs.Ytgjcpgmnflpdkaa
