/- The parts of a platform, and which group tips: the document's own answers. -/
import Derived.Test.YtepblnnebeglbaaRefChk
import Derived.Test.YtepblnnebeglbaaShares
import Derived.Test.YtepblnnebeglbaaTips
namespace Go.Proofs.Ytepblnnebeglbaa
open Go.RowKit Go.Proofs.Gn
theorem bx_two' (w : World) (v1 v2 : List Value) (t1 t2 : TypeId) : Bx ((w.alloc (.cells v1.toArray t1)).alloc (.cells v2.toArray t2)) w.heap.size v1 ∧ Bx ((w.alloc (.cells v1.toArray t1)).alloc (.cells v2.toArray t2)) (w.heap.size + 1) v2 := by
  refine ⟨bx_alloc (bx_new w _ _) _, ?_⟩
  have h := bx_new (w.alloc (.cells v1.toArray t1)) v2 t2
  rwa [sz1] at h
set_option maxRecDepth 100000 in
set_option maxHeartbeats 16000000 in
theorem r_parts (A : Option Addr) (ps : List Gs.Sup) (cap : Nat) (X Y : Int) (hz : atE ps X Y = 0) (w : World) (h : Sups w A ps) :
    Calls Try.prog 52 #[.slice A ps.length cap, pt X Y] w fun e w' => e = .returned (.tuple #[.agg #[.int .i64 (pa0 ps X Y), .int .i64 (pa1 ps X Y), .int .i64 (pa2 ps X Y)], .int .i64 (paD ps)]) ∧ Up w w' := by
  obtain ⟨o1, o2, o3, o4⟩ := chE_ok (atE_ok hz).1
  obtain ⟨xb, yb⟩ := ptE_ok (atE_ok hz).2
  have ra := Gs.row_of o1 o2 0 (.inl rfl)
  have rb := Gs.row_of o1 o2 1 (.inr (.inl rfl))
  have rc := Gs.row_of o1 o2 2 (.inr (.inr rfl))
  have hp := row_pt xb yb
  have HS := hide (fun (W : World) (hW : Up w W) => r_sums9 A ps cap o1 o2 W (sups_up h hW))
  have H0 := fun W => r_det ra rb rc W
  have H1 := fun W => r_det hp rb rc W
  have H2 := fun W => r_det ra hp rc W
  have H3 := fun W => r_det ra rb hp W
  have d0 := Gs.dt_bd ra rb rc
  have d1 := Gs.dt_bd hp rb rc
  have d2 := Gs.dt_bd ra hp rc
  have d3 := Gs.dt_bd ra rb hp
  unfold pa0 pa1 pa2 paD Gs.q0 Gs.q1 Gs.q2
  unfold Gs.wh at o4 ⊢
  unfold n9 at HS
  clear h hz ra rb rc hp xb yb o1
  obtain ⟨n, hN⟩ : ∃ n, ps.length = n := ⟨_, rfl⟩
  rw [hN] at HS o2 o3 ⊢
  clear hN
  generalize Gs.cN 0 ps = a0 at *
  generalize Gs.cX 0 ps = a1 at *
  generalize Gs.cY 0 ps = a2 at *
  generalize Gs.cN 1 ps = b0 at *
  generalize Gs.cX 1 ps = b1 at *
  generalize Gs.cY 1 ps = b2 at *
  generalize Gs.cN 2 ps = c0 at *
  generalize Gs.cX 2 ps = c1 at *
  generalize Gs.cY 2 ps = c2 at *
  generalize Gs.dt a0 a1 a2 b0 b1 b2 c0 c1 c2 = D at *
  generalize Gs.dt 1 X Y b0 b1 b2 c0 c1 c2 = E1 at *
  generalize Gs.dt a0 a1 a2 1 X Y c0 c1 c2 = E2 at *
  generalize Gs.dt a0 a1 a2 b0 b1 b2 1 X Y = E3 at *
  have h0 := hide H0
  have h1 := hide H1
  have h2 := hide H2
  have h3 := hide H3
  clear H0 H1 H2 H3 o2 o3
  obtain ⟨d4, d5⟩ := d0
  obtain ⟨d6, d7⟩ := d1
  obtain ⟨d8, d9⟩ := d2
  obtain ⟨d10, d11⟩ := d3
  by_cases hn : D < 0
  · simp only [pv_neg hn]
    go_enter Try.func52, Try.ntmps52
    go_wp2_with (first | (go_at_call 37; (with_reducible refine (unhide HS _ (by repeat' (first | (with_reducible exact up_refl _) | (with_reducible assumption) | (with_reducible refine up_alloc ?_ _) | (with_reducible refine up_drewN ?_ _) | (with_reducible refine up_drew ?_) | (with_reducible refine up_set ?_ (by first | (simp; done) | (simp; omega) | omega) _) | (refine up_trans ?_ (by with_reducible assumption))))).mono ?_); rintro e w1 ⟨rfl, hb1⟩) | (go_at_call 36; (with_reducible refine (unhide h0 _).mono ?_); rintro e w2 ⟨rfl, hb2⟩))
    have two := bx_two' w [.int .i64 X, .int .i64 Y] [.int .i64 0, .int .i64 0, .int .i64 0] 24 36
    have P0 := bx_up (bx_alloc (bx_up two.1 hb1) (.cells #[.int .i64 a0, .int .i64 a1, .int .i64 a2, .int .i64 b0, .int .i64 b1, .int .i64 b2, .int .i64 c0, .int .i64 c1, .int .i64 c2] 54)) hb2
    have Z0 := bx_up (bx_alloc (bx_up two.2 hb1) (.cells #[.int .i64 a0, .int .i64 a1, .int .i64 a2, .int .i64 b0, .int .i64 b1, .int .i64 b2, .int .i64 c0, .int .i64 c1, .int .i64 c2] 54)) hb2
    have R0 := bx_up (bx_new w1 [.int .i64 a0, .int .i64 a1, .int .i64 a2, .int .i64 b0, .int .i64 b1, .int .i64 b2, .int .i64 c0, .int .i64 c1, .int .i64 c2] 54) hb2
    have U1 : Up w w1 := up_trans (by repeat' (first | (with_reducible exact up_refl _) | (with_reducible assumption) | (with_reducible refine up_alloc ?_ _) | (with_reducible refine up_drewN ?_ _) | (with_reducible refine up_drew ?_) | (with_reducible refine up_set ?_ (by first | (simp; done) | (simp; omega) | omega) _) | (refine up_trans ?_ (by with_reducible assumption)))) hb1
    have U0 : Up w w2 := (by repeat' (first | (with_reducible exact up_refl _) | (with_reducible assumption) | (with_reducible refine up_alloc ?_ _) | (with_reducible refine up_drewN ?_ _) | (with_reducible refine up_drew ?_) | (with_reducible refine up_set ?_ (by first | (simp; done) | (simp; omega) | omega) _) | (refine up_trans ?_ (by with_reducible assumption))))
    have l0 : w.heap.size + 1 < w1.heap.size := by have t := bx_lt (bx_up two.2 hb1) (by simp); exact t
    have l1 := bx_lt R0 (by simp)
    clear two hb1 hb2
    refine at_wp (fun W0 hW0 => ?_)
    have O0 : Bx W0 w2.heap.size [.int .i64 0, .int .i64 0, .int .i64 0] := by rw [hW0]; exact bx_new w2 _ 36
    have u0 : Up w2 W0 := by rw [hW0]; exact (by repeat' (first | (with_reducible exact up_refl _) | (with_reducible assumption) | (with_reducible refine up_alloc ?_ _) | (with_reducible refine up_drewN ?_ _) | (with_reducible refine up_drew ?_) | (with_reducible refine up_set ?_ (by first | (simp; done) | (simp; omega) | omega) _) | (refine up_trans ?_ (by with_reducible assumption))))
    replace R0 := bx_up R0 u0
    replace P0 := bx_up P0 u0
    replace Z0 := bx_up Z0 u0
    replace U0 := up_trans U0 u0
    clear hW0 u0
    refine wp_loop_rounds 4 ?_
    have m0 := bx_lt O0 (by simp)
    obtain ⟨q0, q1, q2, q3, q4, q5, q6, q7, q8⟩ := bx9 R0
    obtain ⟨x0, x1⟩ := bx2 P0
    have y0 := fun o => alloc_cell o x0
    have y1 := fun o => alloc_cell o x1
    rw [rounds_succ]
    go_wp2_with (go_at_call 36; (with_reducible refine (unhide h1 _).mono ?_); rintro e v1 ⟨rfl, hv⟩; have o3 := bx3 (bx_thru O0 hv); have f3 := bxf3 (bx_thru O0 hv); obtain ⟨o3, o4, o5⟩ := o3; obtain ⟨f3, f4, f5⟩ := f3)
    refine at_rounds (fun W1 hW1 => ?_)
    have R1 : Bx W1 w1.heap.size [.int .i64 a0, .int .i64 a1, .int .i64 a2, .int .i64 b0, .int .i64 b1, .int .i64 b2, .int .i64 c0, .int .i64 c1, .int .i64 c2] := by rw [hW1]; exact bx_far (bx_far (bx_thru R0 hv) (by simp; omega) _) (by simp; omega) _
    have P1 : Bx W1 w.heap.size [.int .i64 X, .int .i64 Y] := by rw [hW1]; exact bx_far (bx_far (bx_thru P0 hv) (by simp; omega) _) (by simp; omega) _
    have Z1 : Bx W1 (w.heap.size + 1) [.int .i64 0, .int .i64 0, .int .i64 0] := by rw [hW1]; exact bx_far (bx_far (bx_thru Z0 hv) (by simp; omega) _) (by simp; omega) _
    have O1 : Bx W1 w2.heap.size [.int .i64 (-E1), .int .i64 0, .int .i64 0] := by rw [hW1]; exact bx_set (bx_set (bx_thru O0 hv) 0 _) 0 _
    have U1a : Up w W1 := by
      rw [hW1]
      exact up_set (up_set (up_trans (up_alloc U0 _) hv) (by simp; omega) _) (by simp; omega) _
    clear hW1 R0 P0 Z0 O0 U0 hv q0 q1 q2 q3 q4 q5 q6 q7 q8 x0 x1 y0 y1 o3 o4 o5 f3 f4 f5 m0
    have m0 := bx_lt O1 (by simp)
    obtain ⟨q0, q1, q2, q3, q4, q5, q6, q7, q8⟩ := bx9 R1
    obtain ⟨x0, x1⟩ := bx2 P1
    have y0 := fun o => alloc_cell o x0
    have y1 := fun o => alloc_cell o x1
    rw [rounds_succ]
    go_wp2_with (go_at_call 36; (with_reducible refine (unhide h2 _).mono ?_); rintro e v2 ⟨rfl, hv⟩; have o3 := bx3 (bx_thru O1 hv); have f3 := bxf3 (bx_thru O1 hv); obtain ⟨o3, o4, o5⟩ := o3; obtain ⟨f3, f4, f5⟩ := f3)
    refine at_rounds (fun W2 hW2 => ?_)
    have R2 : Bx W2 w1.heap.size [.int .i64 a0, .int .i64 a1, .int .i64 a2, .int .i64 b0, .int .i64 b1, .int .i64 b2, .int .i64 c0, .int .i64 c1, .int .i64 c2] := by rw [hW2]; exact bx_far (bx_far (bx_thru R1 hv) (by simp; omega) _) (by simp; omega) _
    have P2 : Bx W2 w.heap.size [.int .i64 X, .int .i64 Y] := by rw [hW2]; exact bx_far (bx_far (bx_thru P1 hv) (by simp; omega) _) (by simp; omega) _
    have Z2 : Bx W2 (w.heap.size + 1) [.int .i64 0, .int .i64 0, .int .i64 0] := by rw [hW2]; exact bx_far (bx_far (bx_thru Z1 hv) (by simp; omega) _) (by simp; omega) _
    have O2 : Bx W2 w2.heap.size [.int .i64 (-E1), .int .i64 (-E2), .int .i64 0] := by rw [hW2]; exact bx_set (bx_set (bx_thru O1 hv) 1 _) 1 _
    have U2a : Up w W2 := by
      rw [hW2]
      exact up_set (up_set (up_trans (up_alloc U1a _) hv) (by simp; omega) _) (by simp; omega) _
    clear hW2 R1 P1 Z1 O1 U1a hv q0 q1 q2 q3 q4 q5 q6 q7 q8 x0 x1 y0 y1 o3 o4 o5 f3 f4 f5 m0
    have m0 := bx_lt O2 (by simp)
    obtain ⟨q0, q1, q2, q3, q4, q5, q6, q7, q8⟩ := bx9 R2
    obtain ⟨x0, x1⟩ := bx2 P2
    have y0 := fun o => alloc_cell o x0
    have y1 := fun o => alloc_cell o x1
    rw [rounds_succ]
    go_wp2_with (go_at_call 36; (with_reducible refine (unhide h3 _).mono ?_); rintro e v3 ⟨rfl, hv⟩; have o3 := bx3 (bx_thru O2 hv); have f3 := bxf3 (bx_thru O2 hv); obtain ⟨o3, o4, o5⟩ := o3; obtain ⟨f3, f4, f5⟩ := f3)
    refine at_rounds (fun W3 hW3 => ?_)
    have R3 : Bx W3 w1.heap.size [.int .i64 a0, .int .i64 a1, .int .i64 a2, .int .i64 b0, .int .i64 b1, .int .i64 b2, .int .i64 c0, .int .i64 c1, .int .i64 c2] := by rw [hW3]; exact bx_far (bx_far (bx_thru R2 hv) (by simp; omega) _) (by simp; omega) _
    have P3 : Bx W3 w.heap.size [.int .i64 X, .int .i64 Y] := by rw [hW3]; exact bx_far (bx_far (bx_thru P2 hv) (by simp; omega) _) (by simp; omega) _
    have Z3 : Bx W3 (w.heap.size + 1) [.int .i64 0, .int .i64 0, .int .i64 0] := by rw [hW3]; exact bx_far (bx_far (bx_thru Z2 hv) (by simp; omega) _) (by simp; omega) _
    have O3 : Bx W3 w2.heap.size [.int .i64 (-E1), .int .i64 (-E2), .int .i64 (-E3)] := by rw [hW3]; exact bx_set (bx_set (bx_thru O2 hv) 2 _) 2 _
    have U3a : Up w W3 := by
      rw [hW3]
      exact up_set (up_set (up_trans (up_alloc U2a _) hv) (by simp; omega) _) (by simp; omega) _
    clear hW3 R2 P2 Z2 O2 U2a hv q0 q1 q2 q3 q4 q5 q6 q7 q8 x0 x1 y0 y1 o3 o4 o5 f3 f4 f5 m0
    rw [rounds_succ]
    obtain ⟨o3, o4, o5⟩ := bx3 O3
    obtain ⟨f3, f4, f5⟩ := bxf3 Z3
    obtain ⟨z3, z4, z5⟩ := bx3 Z3
    go_wp2_with fail
    obtain ⟨W9, hW9⟩ : ∃ W9 : World, W9 = (((W3.setCell ⟨w.heap.size + 1, 0, none⟩ (.int .i64 (-E1))).setCell ⟨w.heap.size + 1, 1, none⟩ (.int .i64 (-E2))).setCell ⟨w.heap.size + 1, 2, none⟩ (.int .i64 (-E3))) := ⟨_, rfl⟩
    rw [← hW9]
    have B9 : Bx W9 (w.heap.size + 1) [.int .i64 (-E1), .int .i64 (-E2), .int .i64 (-E3)] := by rw [hW9]; exact bx_set3 Z3
    have U9 : Up w W9 := by rw [hW9]; exact up_set (up_set (up_set U3a (by simp) _) (by simp) _) (by simp) _
    clear hW9 f3 f4 f5 z3 z4 z5 o3 o4 o5
    obtain ⟨q0, q1, q2⟩ := bx3 B9
    refine bodyPost_ret (v := .tuple #[.agg #[.int .i64 (-E1), .int .i64 (-E2), .int .i64 (-E3)], .int .i64 (-D)]) (by simp [results, Try.results52, go_sem, q0, q1, q2]; try (first | omega | (split <;> omega))) rfl ⟨rfl, U9⟩
  · have hp : 0 < D := by omega
    simp only [pv_pos hp]
    go_enter Try.func52, Try.ntmps52
    go_wp2_with (first | (go_at_call 37; (with_reducible refine (unhide HS _ (by repeat' (first | (with_reducible exact up_refl _) | (with_reducible assumption) | (with_reducible refine up_alloc ?_ _) | (with_reducible refine up_drewN ?_ _) | (with_reducible refine up_drew ?_) | (with_reducible refine up_set ?_ (by first | (simp; done) | (simp; omega) | omega) _) | (refine up_trans ?_ (by with_reducible assumption))))).mono ?_); rintro e w1 ⟨rfl, hb1⟩) | (go_at_call 36; (with_reducible refine (unhide h0 _).mono ?_); rintro e w2 ⟨rfl, hb2⟩))
    have two := bx_two' w [.int .i64 X, .int .i64 Y] [.int .i64 0, .int .i64 0, .int .i64 0] 24 36
    have P0 := bx_up (bx_alloc (bx_up two.1 hb1) (.cells #[.int .i64 a0, .int .i64 a1, .int .i64 a2, .int .i64 b0, .int .i64 b1, .int .i64 b2, .int .i64 c0, .int .i64 c1, .int .i64 c2] 54)) hb2
    have Z0 := bx_up (bx_alloc (bx_up two.2 hb1) (.cells #[.int .i64 a0, .int .i64 a1, .int .i64 a2, .int .i64 b0, .int .i64 b1, .int .i64 b2, .int .i64 c0, .int .i64 c1, .int .i64 c2] 54)) hb2
    have R0 := bx_up (bx_new w1 [.int .i64 a0, .int .i64 a1, .int .i64 a2, .int .i64 b0, .int .i64 b1, .int .i64 b2, .int .i64 c0, .int .i64 c1, .int .i64 c2] 54) hb2
    have U1 : Up w w1 := up_trans (by repeat' (first | (with_reducible exact up_refl _) | (with_reducible assumption) | (with_reducible refine up_alloc ?_ _) | (with_reducible refine up_drewN ?_ _) | (with_reducible refine up_drew ?_) | (with_reducible refine up_set ?_ (by first | (simp; done) | (simp; omega) | omega) _) | (refine up_trans ?_ (by with_reducible assumption)))) hb1
    have U0 : Up w w2 := (by repeat' (first | (with_reducible exact up_refl _) | (with_reducible assumption) | (with_reducible refine up_alloc ?_ _) | (with_reducible refine up_drewN ?_ _) | (with_reducible refine up_drew ?_) | (with_reducible refine up_set ?_ (by first | (simp; done) | (simp; omega) | omega) _) | (refine up_trans ?_ (by with_reducible assumption))))
    have l0 : w.heap.size + 1 < w1.heap.size := by have t := bx_lt (bx_up two.2 hb1) (by simp); exact t
    have l1 := bx_lt R0 (by simp)
    clear two hb1 hb2
    refine at_wp (fun W0 hW0 => ?_)
    have O0 : Bx W0 w2.heap.size [.int .i64 0, .int .i64 0, .int .i64 0] := by rw [hW0]; exact bx_new w2 _ 36
    have u0 : Up w2 W0 := by rw [hW0]; exact (by repeat' (first | (with_reducible exact up_refl _) | (with_reducible assumption) | (with_reducible refine up_alloc ?_ _) | (with_reducible refine up_drewN ?_ _) | (with_reducible refine up_drew ?_) | (with_reducible refine up_set ?_ (by first | (simp; done) | (simp; omega) | omega) _) | (refine up_trans ?_ (by with_reducible assumption))))
    replace R0 := bx_up R0 u0
    replace P0 := bx_up P0 u0
    replace Z0 := bx_up Z0 u0
    replace U0 := up_trans U0 u0
    clear hW0 u0
    refine wp_loop_rounds 4 ?_
    have m0 := bx_lt O0 (by simp)
    obtain ⟨q0, q1, q2, q3, q4, q5, q6, q7, q8⟩ := bx9 R0
    obtain ⟨x0, x1⟩ := bx2 P0
    have y0 := fun o => alloc_cell o x0
    have y1 := fun o => alloc_cell o x1
    rw [rounds_succ]
    go_wp2_with (go_at_call 36; (with_reducible refine (unhide h1 _).mono ?_); rintro e v1 ⟨rfl, hv⟩; have o3 := bx3 (bx_thru O0 hv); have f3 := bxf3 (bx_thru O0 hv); obtain ⟨o3, o4, o5⟩ := o3; obtain ⟨f3, f4, f5⟩ := f3)
    refine at_rounds (fun W1 hW1 => ?_)
    have R1 : Bx W1 w1.heap.size [.int .i64 a0, .int .i64 a1, .int .i64 a2, .int .i64 b0, .int .i64 b1, .int .i64 b2, .int .i64 c0, .int .i64 c1, .int .i64 c2] := by rw [hW1]; exact bx_far (bx_thru R0 hv) (by simp; omega) _
    have P1 : Bx W1 w.heap.size [.int .i64 X, .int .i64 Y] := by rw [hW1]; exact bx_far (bx_thru P0 hv) (by simp; omega) _
    have Z1 : Bx W1 (w.heap.size + 1) [.int .i64 0, .int .i64 0, .int .i64 0] := by rw [hW1]; exact bx_far (bx_thru Z0 hv) (by simp; omega) _
    have O1 : Bx W1 w2.heap.size [.int .i64 E1, .int .i64 0, .int .i64 0] := by rw [hW1]; exact bx_set (bx_thru O0 hv) 0 _
    have U1a : Up w W1 := by
      rw [hW1]
      exact up_set (up_trans (up_alloc U0 _) hv) (by simp; omega) _
    clear hW1 R0 P0 Z0 O0 U0 hv q0 q1 q2 q3 q4 q5 q6 q7 q8 x0 x1 y0 y1 o3 o4 o5 f3 f4 f5 m0
    have m0 := bx_lt O1 (by simp)
    obtain ⟨q0, q1, q2, q3, q4, q5, q6, q7, q8⟩ := bx9 R1
    obtain ⟨x0, x1⟩ := bx2 P1
    have y0 := fun o => alloc_cell o x0
    have y1 := fun o => alloc_cell o x1
    rw [rounds_succ]
    go_wp2_with (go_at_call 36; (with_reducible refine (unhide h2 _).mono ?_); rintro e v2 ⟨rfl, hv⟩; have o3 := bx3 (bx_thru O1 hv); have f3 := bxf3 (bx_thru O1 hv); obtain ⟨o3, o4, o5⟩ := o3; obtain ⟨f3, f4, f5⟩ := f3)
    refine at_rounds (fun W2 hW2 => ?_)
    have R2 : Bx W2 w1.heap.size [.int .i64 a0, .int .i64 a1, .int .i64 a2, .int .i64 b0, .int .i64 b1, .int .i64 b2, .int .i64 c0, .int .i64 c1, .int .i64 c2] := by rw [hW2]; exact bx_far (bx_thru R1 hv) (by simp; omega) _
    have P2 : Bx W2 w.heap.size [.int .i64 X, .int .i64 Y] := by rw [hW2]; exact bx_far (bx_thru P1 hv) (by simp; omega) _
    have Z2 : Bx W2 (w.heap.size + 1) [.int .i64 0, .int .i64 0, .int .i64 0] := by rw [hW2]; exact bx_far (bx_thru Z1 hv) (by simp; omega) _
    have O2 : Bx W2 w2.heap.size [.int .i64 E1, .int .i64 E2, .int .i64 0] := by rw [hW2]; exact bx_set (bx_thru O1 hv) 1 _
    have U2a : Up w W2 := by
      rw [hW2]
      exact up_set (up_trans (up_alloc U1a _) hv) (by simp; omega) _
    clear hW2 R1 P1 Z1 O1 U1a hv q0 q1 q2 q3 q4 q5 q6 q7 q8 x0 x1 y0 y1 o3 o4 o5 f3 f4 f5 m0
    have m0 := bx_lt O2 (by simp)
    obtain ⟨q0, q1, q2, q3, q4, q5, q6, q7, q8⟩ := bx9 R2
    obtain ⟨x0, x1⟩ := bx2 P2
    have y0 := fun o => alloc_cell o x0
    have y1 := fun o => alloc_cell o x1
    rw [rounds_succ]
    go_wp2_with (go_at_call 36; (with_reducible refine (unhide h3 _).mono ?_); rintro e v3 ⟨rfl, hv⟩; have o3 := bx3 (bx_thru O2 hv); have f3 := bxf3 (bx_thru O2 hv); obtain ⟨o3, o4, o5⟩ := o3; obtain ⟨f3, f4, f5⟩ := f3)
    refine at_rounds (fun W3 hW3 => ?_)
    have R3 : Bx W3 w1.heap.size [.int .i64 a0, .int .i64 a1, .int .i64 a2, .int .i64 b0, .int .i64 b1, .int .i64 b2, .int .i64 c0, .int .i64 c1, .int .i64 c2] := by rw [hW3]; exact bx_far (bx_thru R2 hv) (by simp; omega) _
    have P3 : Bx W3 w.heap.size [.int .i64 X, .int .i64 Y] := by rw [hW3]; exact bx_far (bx_thru P2 hv) (by simp; omega) _
    have Z3 : Bx W3 (w.heap.size + 1) [.int .i64 0, .int .i64 0, .int .i64 0] := by rw [hW3]; exact bx_far (bx_thru Z2 hv) (by simp; omega) _
    have O3 : Bx W3 w2.heap.size [.int .i64 E1, .int .i64 E2, .int .i64 E3] := by rw [hW3]; exact bx_set (bx_thru O2 hv) 2 _
    have U3a : Up w W3 := by
      rw [hW3]
      exact up_set (up_trans (up_alloc U2a _) hv) (by simp; omega) _
    clear hW3 R2 P2 Z2 O2 U2a hv q0 q1 q2 q3 q4 q5 q6 q7 q8 x0 x1 y0 y1 o3 o4 o5 f3 f4 f5 m0
    rw [rounds_succ]
    obtain ⟨o3, o4, o5⟩ := bx3 O3
    obtain ⟨f3, f4, f5⟩ := bxf3 Z3
    obtain ⟨z3, z4, z5⟩ := bx3 Z3
    go_wp2_with fail
    obtain ⟨W9, hW9⟩ : ∃ W9 : World, W9 = (((W3.setCell ⟨w.heap.size + 1, 0, none⟩ (.int .i64 E1)).setCell ⟨w.heap.size + 1, 1, none⟩ (.int .i64 E2)).setCell ⟨w.heap.size + 1, 2, none⟩ (.int .i64 E3)) := ⟨_, rfl⟩
    rw [← hW9]
    have B9 : Bx W9 (w.heap.size + 1) [.int .i64 E1, .int .i64 E2, .int .i64 E3] := by rw [hW9]; exact bx_set3 Z3
    have U9 : Up w W9 := by rw [hW9]; exact up_set (up_set (up_set U3a (by simp) _) (by simp) _) (by simp) _
    clear hW9 f3 f4 f5 z3 z4 z5 o3 o4 o5
    obtain ⟨q0, q1, q2⟩ := bx3 B9
    refine bodyPost_ret (v := .tuple #[.agg #[.int .i64 E1, .int .i64 E2, .int .i64 E3], .int .i64 D]) (by simp [results, Try.results52, go_sem, q0, q1, q2]; try (first | omega | (split <;> omega))) rfl ⟨rfl, U9⟩
end Go.Proofs.Ytepblnnebeglbaa
