/- The tilt of the examples. -/
import Derived.Test.YtgjcpgmnflpdkaaFoot
namespace Go.Proofs.Ytgjcpgmnflpdkaa
open Go.RowKit Go.Proofs.Gn
theorem ex_at {k : Nat} (hk : k ≤ 1000) : atE exS (2000 + fx k) 0 = 0 := by
  have b := fx_bd (k := (k : Int)) (by omega)
  unfold atE
  rw [if_pos (by decide +kernel)]
  unfold ptE ptB
  rw [if_pos (by rw [Bool.and_eq_true, win_iff, win_iff]; omega)]
theorem ex_lif {k : Nat} (hk : k ≤ 1000) : lif (pa0 exS (2000 + fx k) 0) (pa1 exS (2000 + fx k) 0) (pa2 exS (2000 + fx k) 0) = -1 := tilt_ex ⟨k, by omega⟩
set_option maxRecDepth 100000 in
set_option maxHeartbeats 40000000 in
theorem p_tiltX (w : World) : Calls Try.prog 72 #[n9 exS, .agg #[.int .i64 2000, .int .i64 0, .int .i64 1500], pt 1 0] w fun e w' => e = .returned (.int .i64 1000) ∧ Up w w' := by
  have hF : ∀ k : Nat, k ≤ 1000 → ∀ W : World, Calls Try.prog 63 #[.agg #[.int .i64 2000, .int .i64 0, .int .i64 1500], pt (k : Int) 0, pt 0 0] W fun e w' => e = .returned (pt (2000 + fx k) 0) ∧ Up W w' := fun k hk W => by
    have t := p_footX (k := (k : Int)) (l := 0) (by omega) (by omega) W
    rwa [fx_zero] at t
  have hP := hide (fun (k : Nat) (hk : k ≤ 1000) (W : World) => p_parts9 (ex_at hk) W)
  have hL : ∀ k : Nat, k ≤ 1000 → ∀ W : World, Calls Try.prog 50 #[.agg #[.int .i64 (pa0 exS (2000 + fx k) 0), .int .i64 (pa1 exS (2000 + fx k) 0), .int .i64 (pa2 exS (2000 + fx k) 0)]] W fun e w' => e = .returned (.int .i64 (-1)) ∧ Up W w' := fun k hk W => by
    have t := p_lifted (pa0 exS (2000 + fx k) 0) (pa1 exS (2000 + fx k) 0) (pa2 exS (2000 + fx k) 0) W
    rwa [ex_lif hk] at t
  have hI : ∀ k : Nat, k ≤ 1000 → ∀ W : World, Calls Try.prog 67 #[pt (k : Int) 0, .int .i64 1000] W fun e w' => e = .returned (.bool true) ∧ Up W w' := fun k hk W => by
    have t := p_isUpTo (k : Int) 0 1000 (by omega) W
    rwa [show (win (k : Int) (-1000) 1000 && win 0 (-1000) 1000) = true by rw [Bool.and_eq_true, win_iff, win_iff]; omega] at t
  have HF := hide hF
  have HL := hide hL
  have HI := hide hI
  clear hF hL hI
  unfold n9 m9 at *
  generalize Gs.cN 0 exS = a0 at *
  generalize Gs.cX 0 exS = a1 at *
  generalize Gs.cY 0 exS = a2 at *
  generalize Gs.cN 1 exS = b0 at *
  generalize Gs.cX 1 exS = b1 at *
  generalize Gs.cY 1 exS = b2 at *
  generalize Gs.cN 2 exS = c0 at *
  generalize Gs.cX 2 exS = c1 at *
  generalize Gs.cY 2 exS = c2 at *
  generalize paD exS = D at *
  go_enter Try.func72, Try.ntmps72
  go_wp2_with fail
  refine at_wp (fun W0 hW0 => ?_)
  have three := bx_three w [.int .i64 a0, .int .i64 a1, .int .i64 a2, .int .i64 b0, .int .i64 b1, .int .i64 b2, .int .i64 c0, .int .i64 c1, .int .i64 c2] [.int .i64 2000, .int .i64 0, .int .i64 1500] [.int .i64 1, .int .i64 0] 31 30 46
  have R0 : Bx W0 w.heap.size [.int .i64 a0, .int .i64 a1, .int .i64 a2, .int .i64 b0, .int .i64 b1, .int .i64 b2, .int .i64 c0, .int .i64 c1, .int .i64 c2] := by rw [hW0]; exact three.1
  have C0 : Bx W0 (w.heap.size + 1) [.int .i64 2000, .int .i64 0, .int .i64 1500] := by rw [hW0]; exact three.2.1
  have S0 : Bx W0 (w.heap.size + 1 + 1) [.int .i64 1, .int .i64 0] := by rw [hW0]; exact three.2.2
  have U0 : Up w W0 := by rw [hW0]; exact (by repeat' (first | (with_reducible exact up_refl _) | (with_reducible assumption) | (with_reducible refine up_alloc ?_ _) | (with_reducible refine up_drewN ?_ _) | (with_reducible refine up_drew ?_) | (with_reducible refine up_set ?_ (by first | (simp; done) | (simp; omega) | omega) _) | (refine up_trans ?_ (by with_reducible assumption))))
  clear hW0 three
  go_loopw [7, 12] (fun s7 s12 wr => ∃ k : Nat, k ≤ 1001 ∧ s12 = .int .i64 k ∧ s7 = .int .i64 ((k : Int) - 1) ∧ Up W0 wr) (fun _ s12 _ => 1001 - (intOf s12).toNat)
  case atStart => exact ⟨0, by omega, rfl, rfl, up_refl _⟩
  case round =>
    obtain ⟨k, hk, rfl, rfl, hu⟩ := hrel
    by_cases hlt : k < 1001
    · have hF2 := hide (unhide HF k (by omega))
      have hP2 := hide (unhide hP k (by omega))
      have hL2 := hide (unhide HL k (by omega))
      have hI2 := hide (unhide HI k (by omega))
      clear HF hP HL HI
      generalize pa0 exS (2000 + fx (k : Int)) 0 = p0 at *
      generalize pa1 exS (2000 + fx (k : Int)) 0 = p1 at *
      generalize pa2 exS (2000 + fx (k : Int)) 0 = p2 at *
      generalize 2000 + fx (k : Int) = xx at *
      have e1 : IntKind.i64.wrap (k : Int) = (k : Int) := IntWalk.i64_in _ ⟨by omega, by omega⟩
      have x0 := bx2 (bx_up S0 hu)
      obtain ⟨x0, x1⟩ := x0
      go_upto_region 7 with (go_at_call 67; (with_reducible refine (unhide hI2 _).mono ?_); rintro e w1 ⟨rfl, hb1⟩)
      have u1 : Up wr w1 := (by repeat' (first | (with_reducible exact up_refl _) | (with_reducible assumption) | (with_reducible refine up_alloc ?_ _) | (with_reducible refine up_drewN ?_ _) | (with_reducible refine up_drew ?_) | (with_reducible refine up_set ?_ (by first | (simp; done) | (simp; omega) | omega) _) | (refine up_trans ?_ (by with_reducible assumption))))
      have S1 : Bx w1 wr.heap.size [.int .i64 (k : Int), .int .i64 0] := bx_up (bx_new wr _ 46) hb1
      have R1 := bx_up R0 (up_trans hu u1)
      have C1 := bx_up C0 (up_trans hu u1)
      have ux := up_trans hu u1
      clear x0 x1 hb1 u1 hu hI2
      have q0 := (R1 0 _ rfl).1
      have q1 := (R1 1 _ rfl).1
      have q2 := (R1 2 _ rfl).1
      have q3 := (R1 3 _ rfl).1
      have q4 := (R1 4 _ rfl).1
      have q5 := (R1 5 _ rfl).1
      have q6 := (R1 6 _ rfl).1
      have q7 := (R1 7 _ rfl).1
      have q8 := (R1 8 _ rfl).1
      have y0 := (C1 0 _ rfl).1
      have y1 := (C1 1 _ rfl).1
      have y2 := (C1 2 _ rfl).1
      have v0 := (S1 0 _ rfl).1
      have v1 := (S1 1 _ rfl).1
      have rq0 := fun o => alloc_cell o q0
      have tq0 := fun o => alloc_cell (W := w1.drew) o q0
      have rq1 := fun o => alloc_cell o q1
      have tq1 := fun o => alloc_cell (W := w1.drew) o q1
      have rq2 := fun o => alloc_cell o q2
      have tq2 := fun o => alloc_cell (W := w1.drew) o q2
      have rq3 := fun o => alloc_cell o q3
      have tq3 := fun o => alloc_cell (W := w1.drew) o q3
      have rq4 := fun o => alloc_cell o q4
      have tq4 := fun o => alloc_cell (W := w1.drew) o q4
      have rq5 := fun o => alloc_cell o q5
      have tq5 := fun o => alloc_cell (W := w1.drew) o q5
      have rq6 := fun o => alloc_cell o q6
      have tq6 := fun o => alloc_cell (W := w1.drew) o q6
      have rq7 := fun o => alloc_cell o q7
      have tq7 := fun o => alloc_cell (W := w1.drew) o q7
      have rq8 := fun o => alloc_cell o q8
      have tq8 := fun o => alloc_cell (W := w1.drew) o q8
      have ry0 := fun o => alloc_cell o y0
      have ty0 := fun o => alloc_cell (W := w1.drew) o y0
      have ry1 := fun o => alloc_cell o y1
      have ty1 := fun o => alloc_cell (W := w1.drew) o y1
      have ry2 := fun o => alloc_cell o y2
      have ty2 := fun o => alloc_cell (W := w1.drew) o y2
      have rv0 := fun o => alloc_cell o v0
      have tv0 := fun o => alloc_cell (W := w1.drew) o v0
      have rv1 := fun o => alloc_cell o v1
      have tv1 := fun o => alloc_cell (W := w1.drew) o v1
      go_cut [10, 11] (fun sa sb wx => ∃ g : Nat, sa = .pointer (some ⟨g, 0, none⟩) ∧ sb = .int .i64 D ∧ Bx wx g [.int .i64 p0, .int .i64 p1, .int .i64 p2] ∧ Up w1 wx)
      case first =>
        go_region_with (first | (go_at_call 63; (with_reducible refine (unhide hF2 _).mono ?_); rintro e w2 ⟨rfl, hb2⟩; have zb := bx_up (bx_new _ [.int .i64 0, .int .i64 0, .int .i64 0] 30) hb2; have U12 : Up w1 w2 := (by repeat' (first | (with_reducible exact up_refl _) | (with_reducible assumption) | (with_reducible refine up_alloc ?_ _) | (with_reducible refine up_drewN ?_ _) | (with_reducible refine up_drew ?_) | (with_reducible refine up_set ?_ (by first | (simp; done) | (simp; omega) | omega) _) | (refine up_trans ?_ (by with_reducible assumption)))); have R2 := bx_up R1 U12; have i0 := (R2 0 _ rfl).1; have j0 := fun o => alloc_cell o i0; have i1 := (R2 1 _ rfl).1; have j1 := fun o => alloc_cell o i1; have i2 := (R2 2 _ rfl).1; have j2 := fun o => alloc_cell o i2; have i3 := (R2 3 _ rfl).1; have j3 := fun o => alloc_cell o i3; have i4 := (R2 4 _ rfl).1; have j4 := fun o => alloc_cell o i4; have i5 := (R2 5 _ rfl).1; have j5 := fun o => alloc_cell o i5; have i6 := (R2 6 _ rfl).1; have j6 := fun o => alloc_cell o i6; have i7 := (R2 7 _ rfl).1; have j7 := fun o => alloc_cell o i7; have i8 := (R2 8 _ rfl).1; have j8 := fun o => alloc_cell o i8) | (go_at_call 63; (with_reducible refine (unhide hF2 _).mono ?_); rintro e w2 ⟨rfl, hb2⟩; have zb := bx_up (bx_drew (bx_new _ [.int .i64 0, .int .i64 0, .int .i64 0] 30)) hb2; have U12 : Up w1 w2 := (by repeat' (first | (with_reducible exact up_refl _) | (with_reducible assumption) | (with_reducible refine up_alloc ?_ _) | (with_reducible refine up_drewN ?_ _) | (with_reducible refine up_drew ?_) | (with_reducible refine up_set ?_ (by first | (simp; done) | (simp; omega) | omega) _) | (refine up_trans ?_ (by with_reducible assumption)))); have R2 := bx_up R1 U12; have i0 := (R2 0 _ rfl).1; have j0 := fun o => alloc_cell o i0; have i1 := (R2 1 _ rfl).1; have j1 := fun o => alloc_cell o i1; have i2 := (R2 2 _ rfl).1; have j2 := fun o => alloc_cell o i2; have i3 := (R2 3 _ rfl).1; have j3 := fun o => alloc_cell o i3; have i4 := (R2 4 _ rfl).1; have j4 := fun o => alloc_cell o i4; have i5 := (R2 5 _ rfl).1; have j5 := fun o => alloc_cell o i5; have i6 := (R2 6 _ rfl).1; have j6 := fun o => alloc_cell o i6; have i7 := (R2 7 _ rfl).1; have j7 := fun o => alloc_cell o i7; have i8 := (R2 8 _ rfl).1; have j8 := fun o => alloc_cell o i8) | (go_at_call 63; (with_reducible refine (unhide hF2 _).mono ?_); rintro e w2 ⟨rfl, hb2⟩; have U12 : Up w1 w2 := (by repeat' (first | (with_reducible exact up_refl _) | (with_reducible assumption) | (with_reducible refine up_alloc ?_ _) | (with_reducible refine up_drewN ?_ _) | (with_reducible refine up_drew ?_) | (with_reducible refine up_set ?_ (by first | (simp; done) | (simp; omega) | omega) _) | (refine up_trans ?_ (by with_reducible assumption)))); have R2 := bx_up R1 U12; have i0 := (R2 0 _ rfl).1; have j0 := fun o => alloc_cell o i0; have i1 := (R2 1 _ rfl).1; have j1 := fun o => alloc_cell o i1; have i2 := (R2 2 _ rfl).1; have j2 := fun o => alloc_cell o i2; have i3 := (R2 3 _ rfl).1; have j3 := fun o => alloc_cell o i3; have i4 := (R2 4 _ rfl).1; have j4 := fun o => alloc_cell o i4; have i5 := (R2 5 _ rfl).1; have j5 := fun o => alloc_cell o i5; have i6 := (R2 6 _ rfl).1; have j6 := fun o => alloc_cell o i6; have i7 := (R2 7 _ rfl).1; have j7 := fun o => alloc_cell o i7; have i8 := (R2 8 _ rfl).1; have j8 := fun o => alloc_cell o i8) | (go_at_call 49; (with_reducible refine (unhide hP2 _).mono ?_); rintro e w3 ⟨rfl, hb3⟩; have zb2 := bx_up zb hb3; obtain ⟨z3, z4, z5⟩ := bx3 zb2; obtain ⟨f3, f4, f5⟩ := bxf3 zb2) | (go_at_call 49; (with_reducible refine (unhide hP2 _).mono ?_); rintro e w3 ⟨rfl, hb3⟩; have zb2 := bx_up (bx_new _ [.int .i64 0, .int .i64 0, .int .i64 0] 30) hb3; obtain ⟨z3, z4, z5⟩ := bx3 zb2; obtain ⟨f3, f4, f5⟩ := bxf3 zb2) | (go_at_call 49; (with_reducible refine (unhide hP2 _).mono ?_); rintro e w3 ⟨rfl, hb3⟩; have zb2 := bx_up (bx_drew (bx_new _ [.int .i64 0, .int .i64 0, .int .i64 0] 30)) hb3; obtain ⟨z3, z4, z5⟩ := bx3 zb2; obtain ⟨f3, f4, f5⟩ := bxf3 zb2) | (go_at_call 49; (with_reducible refine (unhide hP2 _).mono ?_); rintro e w3 ⟨rfl, hb3⟩))
        all_goals
          have u2 : Up w1 w2 := (by repeat' (first | (with_reducible exact up_refl _) | (with_reducible assumption) | (with_reducible refine up_alloc ?_ _) | (with_reducible refine up_drewN ?_ _) | (with_reducible refine up_drew ?_) | (with_reducible refine up_set ?_ (by first | (simp; done) | (simp; omega) | omega) _) | (refine up_trans ?_ (by with_reducible assumption))))
          have u3 : Up w1 w3 := (by repeat' (first | (with_reducible exact up_refl _) | (with_reducible assumption) | (with_reducible refine up_alloc ?_ _) | (with_reducible refine up_drewN ?_ _) | (with_reducible refine up_drew ?_) | (with_reducible refine up_set ?_ (by first | (simp; done) | (simp; omega) | omega) _) | (refine up_trans ?_ (by with_reducible assumption))))
          go_wp2_with fail
          go_meet
          first
            | (refine ⟨w3.heap.size, by with_reducible rfl, rfl, ?_, (by repeat' (first | (with_reducible exact up_refl _) | (with_reducible assumption) | (with_reducible refine up_alloc ?_ _) | (with_reducible refine up_drewN ?_ _) | (with_reducible refine up_drew ?_) | (with_reducible refine up_set ?_ (by first | (simp; done) | (simp; omega) | omega) _) | (refine up_trans ?_ (by with_reducible assumption))))⟩; exact bx_new w3 _ 30)
            | (refine ⟨w1.heap.size, by with_reducible rfl, rfl, ?_, (have t2 := Nat.le_refl w1.heap.size; (by repeat' (first | (with_reducible exact up_refl _) | (with_reducible assumption) | (with_reducible refine up_alloc ?_ _) | (with_reducible refine up_drewN ?_ _) | (with_reducible refine up_drew ?_) | (with_reducible refine up_set ?_ (by first | (simp; done) | (simp; omega) | omega) _) | (refine up_trans ?_ (by with_reducible assumption)))))⟩; exact bx_set3 zb2)
            | (refine ⟨w2.heap.size, by with_reducible rfl, rfl, ?_, (have t2 := up_size u2; (by repeat' (first | (with_reducible exact up_refl _) | (with_reducible assumption) | (with_reducible refine up_alloc ?_ _) | (with_reducible refine up_drewN ?_ _) | (with_reducible refine up_drew ?_) | (with_reducible refine up_set ?_ (by first | (simp; done) | (simp; omega) | omega) _) | (refine up_trans ?_ (by with_reducible assumption)))))⟩; exact bx_set3 zb2)
      case rest =>
        obtain ⟨g, rfl, rfl, hB, hu2⟩ := hcut
        have hu3 := up_trans ux hu2
        obtain ⟨o0, o1, o2⟩ := bx3 hB
        clear hF2 hP2 q0 q1 q2 q3 q4 q5 q6 q7 q8 y0 y1 y2 v0 v1 rq0 rq1 rq2 rq3 rq4 rq5 rq6 rq7 rq8 ry0 ry1 ry2 rv0 rv1 tq0 tq1 tq2 tq3 tq4 tq5 tq6 tq7 tq8 ty0 ty1 ty2 tv0 tv1 S1 R1 C1
        go_wp2_with (go_at_call 50; (with_reducible refine (unhide hL2 _).mono ?_); rintro e w4 ⟨rfl, hb4⟩)
        go_roundw
        case rel => exact ⟨k + 1, by omega, by go_num, by go_num, up_trans hu3 hb4⟩
        case measure => simp [intOf]; omega
    · obtain rfl : k = 1001 := by omega
      go_wp2_with fail
      go_ret
      exact ⟨ret_int (by omega), (by repeat' (first | (with_reducible exact up_refl _) | (with_reducible assumption) | (with_reducible refine up_alloc ?_ _) | (with_reducible refine up_drewN ?_ _) | (with_reducible refine up_drew ?_) | (with_reducible refine up_set ?_ (by first | (simp; done) | (simp; omega) | omega) _) | (refine up_trans ?_ (by with_reducible assumption))))⟩
end Go.Proofs.Ytgjcpgmnflpdkaa
