/- What each axle of a group carries: the document's own answers. -/
import Derived.Test.YtepblnnebeglbaaRefOut
namespace Go.Proofs.Ytepblnnebeglbaa
open Go.RowKit Go.Proofs.Gn
theorem share_rup {ps : List Gs.Sup} {m X Y : Int} (e : boE ps m X Y = 0) (l : ¬ 0 ≤ lif (pa0 ps X Y) (pa1 ps X Y) (pa2 ps X Y)) :
    (∀ W : World, Calls Try.prog 53 #[.int .i64 m, .int .i64 (pa0 ps X Y), .int .i64 (paD ps)] W fun e w' => e = .returned (.int .i64 (up m (paD ps) (pa0 ps X Y))) ∧ W = w') ∧
    (∀ W : World, Calls Try.prog 53 #[.int .i64 m, .int .i64 (pa1 ps X Y), .int .i64 (paD ps)] W fun e w' => e = .returned (.int .i64 (up m (paD ps) (pa1 ps X Y))) ∧ W = w') ∧
    (∀ W : World, Calls Try.prog 53 #[.int .i64 m, .int .i64 (pa2 ps X Y), .int .i64 (paD ps)] W fun e w' => e = .returned (.int .i64 (up m (paD ps) (pa2 ps X Y))) ∧ W = w') := by
  obtain ⟨h1, h2, h3⟩ := boE_ok e
  obtain ⟨⟨d1, d2⟩, b0, b1, b2⟩ := share_bd h1 l
  exact ⟨fun W => r_Up _ _ _ W (by omega) (by omega) (by omega) (by omega), fun W => r_Up _ _ _ W (by omega) (by omega) (by omega) (by omega), fun W => r_Up _ _ _ W (by omega) (by omega) (by omega) (by omega)⟩
theorem boE_ch {ps : List Gs.Sup} {m X Y : Int} (h : chE ps = 0) : (boE ps m X Y = 0 ∧ msE m = 0 ∧ ptE X Y = 0) ∨ (boE ps m X Y = 3 ∧ msE m = 3) ∨ (boE ps m X Y = 3 ∧ msE m = 0 ∧ ptE X Y = 3) := by
  have h1 : msE m = 0 ∨ msE m = 3 := by unfold msE; split <;> simp
  have h2 : ptE X Y = 0 ∨ ptE X Y = 3 := by unfold ptE; split <;> simp
  unfold boE
  rw [if_pos h]
  rcases h1 with h1 | h1 <;> rcases h2 with h2 | h2 <;> simp [h1, h2]
set_option maxHeartbeats 4000000 in
theorem r_carried (A : Option Addr) (ps : List Gs.Sup) (cap : Nat) (m X Y : Int) (hz : boE ps m X Y = 0) (hl : ¬ 0 ≤ lif (pa0 ps X Y) (pa1 ps X Y) (pa2 ps X Y)) (w : World) (h : Sups w A ps) :
    Calls Try.prog 40 #[.slice A ps.length cap, .int .i64 m, pt X Y] w fun e w' => e = .returned (.agg #[.int .i64 (up m (paD ps) (pa0 ps X Y)), .int .i64 (up m (paD ps) (pa1 ps X Y)), .int .i64 (up m (paD ps) (pa2 ps X Y))]) ∧ Up w w' := by
  have HP := hide (fun (W : World) (hW : Up w W) => r_parts A ps cap X Y (boE_ok hz).1 W (sups_up h hW))
  obtain ⟨G0, G1, G2⟩ := share_rup hz hl
  clear h hz hl
  obtain ⟨n, hN⟩ : ∃ n, ps.length = n := ⟨_, rfl⟩
  rw [hN] at HP ⊢
  clear hN
  generalize pa0 ps X Y = l0 at *
  generalize pa1 ps X Y = l1 at *
  generalize pa2 ps X Y = l2 at *
  generalize paD ps = D at *
  generalize up m D l0 = u0 at *
  generalize up m D l1 = u1 at *
  generalize up m D l2 = u2 at *
  have HU0 := hide G0
  have HU1 := hide G1
  have HU2 := hide G2
  clear G0 G1 G2
  go_enter Try.func40, Try.ntmps40
  go_wp2_with (go_at_call 52; (with_reducible refine (unhide HP _ (by repeat' (first | (with_reducible exact up_refl _) | (with_reducible assumption) | (with_reducible refine up_alloc ?_ _) | (with_reducible refine up_drewN ?_ _) | (with_reducible refine up_drew ?_) | (with_reducible refine up_set ?_ (by first | (simp; done) | (simp; omega) | omega) _) | (refine up_trans ?_ (by with_reducible assumption))))).mono ?_); rintro e w1 ⟨rfl, hb1⟩)
  have two := bx_two' w [.int .i64 X, .int .i64 Y] [.int .i64 0, .int .i64 0, .int .i64 0] 24 36
  have Zb := bx_up two.2 hb1
  have lz : w.heap.size + 1 < w1.heap.size := bx_lt Zb (by simp)
  have Ub : Up w w1 := up_trans (by repeat' (first | (with_reducible exact up_refl _) | (with_reducible assumption) | (with_reducible refine up_alloc ?_ _) | (with_reducible refine up_drewN ?_ _) | (with_reducible refine up_drew ?_) | (with_reducible refine up_set ?_ (by first | (simp; done) | (simp; omega) | omega) _) | (refine up_trans ?_ (by with_reducible assumption)))) hb1
  clear two hb1
  refine at_wp (fun W0 hW0 => ?_)
  have t2 := bx_two' w1 [.int .i64 l0, .int .i64 l1, .int .i64 l2] [.int .i64 0, .int .i64 0, .int .i64 0] 36 36
  have L0 : Bx W0 w1.heap.size [.int .i64 l0, .int .i64 l1, .int .i64 l2] := by rw [hW0]; exact t2.1
  have O0 : Bx W0 (w1.heap.size + 1) [.int .i64 0, .int .i64 0, .int .i64 0] := by rw [hW0]; exact t2.2
  have u0' : Up w1 W0 := by rw [hW0]; exact (by repeat' (first | (with_reducible exact up_refl _) | (with_reducible assumption) | (with_reducible refine up_alloc ?_ _) | (with_reducible refine up_drewN ?_ _) | (with_reducible refine up_drew ?_) | (with_reducible refine up_set ?_ (by first | (simp; done) | (simp; omega) | omega) _) | (refine up_trans ?_ (by with_reducible assumption))))
  have Z0 := bx_up Zb u0'
  have U0 := up_trans Ub u0'
  clear hW0 t2 u0' Zb
  refine wp_loop_rounds 4 ?_
  obtain ⟨x0, x1, x2⟩ := bx3 L0
  obtain ⟨o3, o4, o5⟩ := bx3 O0
  obtain ⟨f3, f4, f5⟩ := bxf3 O0
  rw [rounds_succ]
  go_wp2_with (go_at_call 53; (with_reducible refine (unhide HU0 _).mono ?_); rintro e v1 ⟨rfl, rfl⟩)
  refine at_rounds (fun W1 hW1 => ?_)
  have L1 : Bx W1 w1.heap.size [.int .i64 l0, .int .i64 l1, .int .i64 l2] := by rw [hW1]; exact bx_far L0 (by simp) _
  have O1 : Bx W1 (w1.heap.size + 1) [.int .i64 u0, .int .i64 0, .int .i64 0] := by rw [hW1]; exact bx_set O0 0 _
  have Z1 : Bx W1 (w.heap.size + 1) [.int .i64 0, .int .i64 0, .int .i64 0] := by rw [hW1]; exact bx_far Z0 (by simp; omega) _
  have U1 : Up w W1 := by rw [hW1]; exact up_set U0 (by simp; omega) _
  clear hW1 L0 O0 Z0 U0 x0 x1 x2 o3 o4 o5 f3 f4 f5
  obtain ⟨x0, x1, x2⟩ := bx3 L1
  obtain ⟨o3, o4, o5⟩ := bx3 O1
  obtain ⟨f3, f4, f5⟩ := bxf3 O1
  rw [rounds_succ]
  go_wp2_with (go_at_call 53; (with_reducible refine (unhide HU1 _).mono ?_); rintro e v2 ⟨rfl, rfl⟩)
  refine at_rounds (fun W2 hW2 => ?_)
  have L2 : Bx W2 w1.heap.size [.int .i64 l0, .int .i64 l1, .int .i64 l2] := by rw [hW2]; exact bx_far L1 (by simp) _
  have O2 : Bx W2 (w1.heap.size + 1) [.int .i64 u0, .int .i64 u1, .int .i64 0] := by rw [hW2]; exact bx_set O1 1 _
  have Z2 : Bx W2 (w.heap.size + 1) [.int .i64 0, .int .i64 0, .int .i64 0] := by rw [hW2]; exact bx_far Z1 (by simp; omega) _
  have U2 : Up w W2 := by rw [hW2]; exact up_set U1 (by simp; omega) _
  clear hW2 L1 O1 Z1 U1 x0 x1 x2 o3 o4 o5 f3 f4 f5
  obtain ⟨x0, x1, x2⟩ := bx3 L2
  obtain ⟨o3, o4, o5⟩ := bx3 O2
  obtain ⟨f3, f4, f5⟩ := bxf3 O2
  rw [rounds_succ]
  go_wp2_with (go_at_call 53; (with_reducible refine (unhide HU2 _).mono ?_); rintro e v3 ⟨rfl, rfl⟩)
  refine at_rounds (fun W3 hW3 => ?_)
  have L3 : Bx W3 w1.heap.size [.int .i64 l0, .int .i64 l1, .int .i64 l2] := by rw [hW3]; exact bx_far L2 (by simp) _
  have O3 : Bx W3 (w1.heap.size + 1) [.int .i64 u0, .int .i64 u1, .int .i64 u2] := by rw [hW3]; exact bx_set O2 2 _
  have Z3 : Bx W3 (w.heap.size + 1) [.int .i64 0, .int .i64 0, .int .i64 0] := by rw [hW3]; exact bx_far Z2 (by simp; omega) _
  have U3 : Up w W3 := by rw [hW3]; exact up_set U2 (by simp; omega) _
  clear hW3 L2 O2 Z2 U2 x0 x1 x2 o3 o4 o5 f3 f4 f5
  rw [rounds_succ]
  obtain ⟨o3, o4, o5⟩ := bx3 O3
  obtain ⟨f3, f4, f5⟩ := bxf3 Z3
  obtain ⟨z3, z4, z5⟩ := bx3 Z3
  go_wp2_with fail
  obtain ⟨W9, hW9⟩ : ∃ W9 : World, W9 = (((W3.setCell ⟨w.heap.size + 1, 0, none⟩ (.int .i64 u0)).setCell ⟨w.heap.size + 1, 1, none⟩ (.int .i64 u1)).setCell ⟨w.heap.size + 1, 2, none⟩ (.int .i64 u2)) := ⟨_, rfl⟩
  rw [← hW9]
  have B9 : Bx W9 (w.heap.size + 1) [.int .i64 u0, .int .i64 u1, .int .i64 u2] := by rw [hW9]; exact bx_set3 Z3
  have U9 : Up w W9 := by rw [hW9]; exact up_set (up_set (up_set U3 (by simp) _) (by simp) _) (by simp) _
  clear hW9 f3 f4 f5 z3 z4 z5 o3 o4 o5
  obtain ⟨q0, q1, q2⟩ := bx3 B9
  refine bodyPost_ret (v := .agg #[.int .i64 u0, .int .i64 u1, .int .i64 u2]) (by simp [results, Try.results40, go_sem, q0, q1, q2]) rfl ⟨rfl, U9⟩
set_option maxHeartbeats 8000000 in
theorem r_shares (A : Option Addr) (ps : List Gs.Sup) (cap : Nat) (m X Y : Int) (hz : chE ps = 0) (w : World) (h : Sups w A ps) :
    Calls Try.prog 20 #[.slice A ps.length cap, .int .i64 m, pt X Y] w fun e w' => e = .returned (.tuple #[.agg #[.int .i64 (shV ps m X Y (up m (paD ps) (pa0 ps X Y))), .int .i64 (shV ps m X Y (up m (paD ps) (pa1 ps X Y))), .int .i64 (shV ps m X Y (up m (paD ps) (pa2 ps X Y)))], .int .i64 (shE ps m X Y)]) ∧ Up w w' := by
  have hM := hide (fun W => r_mass m W)
  have hQ := hide (fun W => r_point X Y W)
  have hT := hide (fun (e : boE ps m X Y = 0) (W : World) (hW : Up w W) => r_tips A ps cap X Y (boE_ok e).1 W (sups_up h hW))
  have hC := hide (fun (e : boE ps m X Y = 0) (l : ¬ 0 ≤ lif (pa0 ps X Y) (pa1 ps X Y) (pa2 ps X Y)) (W : World) (hW : Up w W) => r_carried A ps cap m X Y e l W (sups_up h hW))
  have hcs := boE_ch (m := m) (X := X) (Y := Y) hz
  have hO := chE_ok hz
  have lb := lif_bd (pa0 ps X Y) (pa1 ps X Y) (pa2 ps X Y)
  unfold shV shE uE
  have HH := hide h
  clear h hz
  generalize up m (paD ps) (pa0 ps X Y) = u0 at *
  generalize up m (paD ps) (pa1 ps X Y) = u1 at *
  generalize up m (paD ps) (pa2 ps X Y) = u2 at *
  generalize lif (pa0 ps X Y) (pa1 ps X Y) (pa2 ps X Y) = L at *
  generalize boE ps m X Y = C at *
  generalize msE m = M at *
  generalize ptE X Y = Q at *
  obtain ⟨F, hF⟩ : ∃ F, fit u0 u1 u2 ps = F := ⟨_, rfl⟩
  rw [hF]
  obtain ⟨n, hN⟩ : ∃ n, ps.length = n := ⟨_, rfl⟩
  rw [hN] at hT hC ⊢
  have HN := hide hN
  have HF := hide hF
  have hO2 := hide hO
  clear hN hF hO
  rcases hcs with ⟨rfl, rfl, rfl⟩ | ⟨rfl, rfl⟩ | ⟨rfl, rfl, rfl⟩
  · simp only [if_pos]
    have hT2 := hide (unhide hT rfl)
    have hC2 := hide (unhide hC rfl)
    clear hT hC
    by_cases cL : 0 ≤ L
    · simp only [if_pos cL]
      simp only [if_neg (show ¬ (19 : Int) = 0 by omega)]
      go_enter Try.func20, Try.ntmps20
      go_wp2_with (first | (go_at_call 18; (with_reducible refine (unhide hM _).mono ?_); rintro e w1 ⟨rfl, rfl⟩) | (go_at_call 19; (with_reducible refine (unhide hQ _).mono ?_); rintro e w1 ⟨rfl, hb1⟩; have B1 := bx_up (bx_two' w [.int .i64 X, .int .i64 Y] [.int .i64 0, .int .i64 0, .int .i64 0] 24 36).2 hb1; have A1 := bx_up (bx_two' w [.int .i64 X, .int .i64 Y] [.int .i64 0, .int .i64 0, .int .i64 0] 24 36).1 hb1; obtain ⟨x0, x1⟩ := bx2 A1) | (go_at_call 39; (with_reducible refine (unhide hT2 _ (by repeat' (first | (with_reducible exact up_refl _) | (with_reducible assumption) | (with_reducible refine up_alloc ?_ _) | (with_reducible refine up_drewN ?_ _) | (with_reducible refine up_drew ?_) | (with_reducible refine up_set ?_ (by first | (simp; done) | (simp; omega) | omega) _) | (refine up_trans ?_ (by with_reducible assumption))))).mono ?_); rintro e w2 ⟨rfl, hb2⟩; have B2 := bx_up B1 hb2; obtain ⟨q0, q1, q2⟩ := bx3 B2; obtain ⟨f0, f1, f2⟩ := bxf3 B2))
      obtain ⟨W9, hW9⟩ : ∃ W9 : World, W9 = (((w2.setCell ⟨w.heap.size + 1, 0, none⟩ (.int .i64 0)).setCell ⟨w.heap.size + 1, 1, none⟩ (.int .i64 0)).setCell ⟨w.heap.size + 1, 2, none⟩ (.int .i64 0)) := ⟨_, rfl⟩
      rw [← hW9]
      have B9 : Bx W9 (w.heap.size + 1) [.int .i64 0, .int .i64 0, .int .i64 0] := by rw [hW9]; exact bx_set3 B2
      have U9 : Up w W9 := by rw [hW9]; exact (by repeat' (first | (with_reducible exact up_refl _) | (with_reducible assumption) | (with_reducible refine up_alloc ?_ _) | (with_reducible refine up_drewN ?_ _) | (with_reducible refine up_drew ?_) | (with_reducible refine up_set ?_ (by first | (simp; done) | (simp; omega) | omega) _) | (refine up_trans ?_ (by with_reducible assumption))))
      clear hW9 q0 q1 q2 f0 f1 f2
      obtain ⟨p0, p1, p2⟩ := bx3 B9
      refine bodyPost_ret (v := .tuple #[.agg #[.int .i64 0, .int .i64 0, .int .i64 0], .int .i64 19]) (by simp [results, Try.results20, go_sem, p0, p1, p2]) rfl ⟨rfl, U9⟩
    · simp only [if_neg cL]
      obtain ⟨E, hE⟩ : ∃ E : Int, (if F = true then 0 else 14) = E := ⟨_, rfl⟩
      rw [hE]
      obtain ⟨r0, hr0⟩ : ∃ r : Int, (if E = 0 then u0 else 0) = r := ⟨_, rfl⟩
      obtain ⟨r1, hr1⟩ : ∃ r : Int, (if E = 0 then u1 else 0) = r := ⟨_, rfl⟩
      obtain ⟨r2, hr2⟩ : ∃ r : Int, (if E = 0 then u2 else 0) = r := ⟨_, rfl⟩
      rw [hr0, hr1, hr2]
      have HE2 := hide (And.intro hE (And.intro hr0 (And.intro hr1 hr2)))
      clear hE hr0 hr1 hr2
      have hC3 := hide (unhide hC2 (by omega))
      clear hC2
      rcases (unhide HH) with rfl | ⟨b, off, rfl, hc⟩
      · have := unhide HN
        have := (unhide hO2).2.2.1
        simp at this
      have HC := hide hc
      clear hc HH
      go_enter Try.func20, Try.ntmps20
      go_wp2_with (first | (go_at_call 18; (with_reducible refine (unhide hM _).mono ?_); rintro e w1 ⟨rfl, rfl⟩) | (go_at_call 19; (with_reducible refine (unhide hQ _).mono ?_); rintro e w1 ⟨rfl, hb1⟩; have B1 := bx_up (bx_two' w [.int .i64 X, .int .i64 Y] [.int .i64 0, .int .i64 0, .int .i64 0] 24 36).2 hb1; have A1 := bx_up (bx_two' w [.int .i64 X, .int .i64 Y] [.int .i64 0, .int .i64 0, .int .i64 0] 24 36).1 hb1; obtain ⟨x0, x1⟩ := bx2 A1) | (go_at_call 39; (with_reducible refine (unhide hT2 _ (by repeat' (first | (with_reducible exact up_refl _) | (with_reducible assumption) | (with_reducible refine up_alloc ?_ _) | (with_reducible refine up_drewN ?_ _) | (with_reducible refine up_drew ?_) | (with_reducible refine up_set ?_ (by first | (simp; done) | (simp; omega) | omega) _) | (refine up_trans ?_ (by with_reducible assumption))))).mono ?_); rintro e w2 ⟨rfl, hb2⟩; have B2 := bx_up B1 hb2; have A2 := bx_up A1 hb2; obtain ⟨y0, y1⟩ := bx2 A2) | (go_at_call 40; (with_reducible refine (unhide hC3 _ (by repeat' (first | (with_reducible exact up_refl _) | (with_reducible assumption) | (with_reducible refine up_alloc ?_ _) | (with_reducible refine up_drewN ?_ _) | (with_reducible refine up_drew ?_) | (with_reducible refine up_set ?_ (by first | (simp; done) | (simp; omega) | omega) _) | (refine up_trans ?_ (by with_reducible assumption))))).mono ?_); rintro e w3 ⟨rfl, hb3⟩; have B3 := bx_up B2 hb3))
      have G3 : Bx (w3.alloc (.cells #[.int .i64 u0, .int .i64 u1, .int .i64 u2] 36)) w3.heap.size [.int .i64 u0, .int .i64 u1, .int .i64 u2] := bx_new w3 _ 36
      have B4 := bx_alloc B3 (.cells #[.int .i64 u0, .int .i64 u1, .int .i64 u2] 36)
      have U4 : Up w (w3.alloc (.cells #[.int .i64 u0, .int .i64 u1, .int .i64 u2] 36)) := (by repeat' (first | (with_reducible exact up_refl _) | (with_reducible assumption) | (with_reducible refine up_alloc ?_ _) | (with_reducible refine up_drewN ?_ _) | (with_reducible refine up_drew ?_) | (with_reducible refine up_set ?_ (by first | (simp; done) | (simp; omega) | omega) _) | (refine up_trans ?_ (by with_reducible assumption))))
      clear B1 A1 B2 A2 B3 y0 y1 hb1 hb2 hb3 hT2 hC3 hM hQ x0 x1
      go_loopw [9] (fun i wr => ∃ k : Nat, k ≤ n ∧ i = .int .i64 k ∧ Up w wr ∧ Bx wr w3.heap.size [.int .i64 u0, .int .i64 u1, .int .i64 u2] ∧ Bx wr (w.heap.size + 1) [.int .i64 0, .int .i64 0, .int .i64 0] ∧ Hid (fit u0 u1 u2 (ps.take k) = true)) (fun i _ => n - (intOf i).toNat)
      case atStart => exact ⟨0, by omega, rfl, U4, G3, B4, rfl⟩
      case round =>
        clear G3 B4 U4
        obtain ⟨k, hk, rfl, hu, hB, hZ, ho⟩ := hrel
        have nn : n ≤ 48 := by have := (unhide hO2).2.1; have := unhide HN; omega
        by_cases hlt : k < n
        · have hl : k < ps.length := by rw [unhide HN]; exact hlt
          obtain ⟨d0, d1, d2, d3, d4, d5⟩ := supAt_up (unhide HC k hl) hu
          have og := (Gs.okS_yes (Gs.okA_get (unhide hO2).1 hl)).2.2.1
          have HT := hide (fit_step hl (unhide ho))
          obtain ⟨gg, hgg⟩ : ∃ x, ps[k].g = x := ⟨_, rfl⟩
          obtain ⟨lm, hlm⟩ : ∃ x, ps[k].lim = x := ⟨_, rfl⟩
          rw [hgg] at d2 og HT
          rw [hlm] at d3 HT
          clear hgg hlm ho
          obtain ⟨x0, x1, x2⟩ := bx3 hB
          rcases (show gg = 0 ∨ gg = 1 ∨ gg = 2 by omega) with rfl | rfl | rfl
          · have HT2 := hide (unhide HT : (u0 ≤ lm → _) ∧ (¬ u0 ≤ lm → _))
            by_cases cf : u0 ≤ lm
            · have HV := hide ((unhide HT2).1 cf)
              clear HT HT2
              go_wp2_with fail
              go_quiet (fail)
              go_wp2_with fail
              go_roundw
              case rel => exact ⟨k + 1, by omega, by go_num, (by repeat' (first | (with_reducible exact up_refl _) | (with_reducible assumption) | (with_reducible refine up_alloc ?_ _) | (with_reducible refine up_drewN ?_ _) | (with_reducible refine up_drew ?_) | (with_reducible refine up_set ?_ (by first | (simp; done) | (simp; omega) | omega) _) | (refine up_trans ?_ (by with_reducible assumption)))), bx_drewN hB _, bx_drewN hZ _, unhide HV⟩
              case measure => simp [intOf]; omega
            · have HV := (unhide HT2).2 cf
              have HF2 := unhide HF
              rw [HV] at HF2
              subst HF2
              obtain ⟨e1, e2, e3, e4⟩ := unhide HE2
              rw [if_neg (by simp)] at e1
              subst e1
              rw [if_neg (by omega)] at e2 e3 e4
              subst e2 e3 e4
              clear HT HT2 HV HF
              go_wp2_with fail
              go_quiet (fail)
              refine at_x (fun WQ hWQ => ?_)
              have hZ4 : Bx WQ (w.heap.size + 1) [.int .i64 0, .int .i64 0, .int .i64 0] := by rw [hWQ]; exact bx_drewN hZ _
              have U4 : Up w WQ := by rw [hWQ]; exact (by repeat' (first | (with_reducible exact up_refl _) | (with_reducible assumption) | (with_reducible refine up_alloc ?_ _) | (with_reducible refine up_drewN ?_ _) | (with_reducible refine up_drew ?_) | (with_reducible refine up_set ?_ (by first | (simp; done) | (simp; omega) | omega) _) | (refine up_trans ?_ (by with_reducible assumption))))
              clear hWQ hB hZ hu x0 x1 x2
              obtain ⟨q0, q1, q2⟩ := bx3 hZ4
              obtain ⟨f0, f1, f2⟩ := bxf3 hZ4
              go_wp2_with fail
              obtain ⟨W9, hW9⟩ : ∃ W9 : World, W9 = (((WQ.setCell ⟨w.heap.size + 1, 0, none⟩ (.int .i64 0)).setCell ⟨w.heap.size + 1, 1, none⟩ (.int .i64 0)).setCell ⟨w.heap.size + 1, 2, none⟩ (.int .i64 0)) := ⟨_, rfl⟩
              rw [← hW9]
              have B9 : Bx W9 (w.heap.size + 1) [.int .i64 0, .int .i64 0, .int .i64 0] := by rw [hW9]; exact bx_set3 hZ4
              have U9 : Up w W9 := by rw [hW9]; exact (by repeat' (first | (with_reducible exact up_refl _) | (with_reducible assumption) | (with_reducible refine up_alloc ?_ _) | (with_reducible refine up_drewN ?_ _) | (with_reducible refine up_drew ?_) | (with_reducible refine up_set ?_ (by first | (simp; done) | (simp; omega) | omega) _) | (refine up_trans ?_ (by with_reducible assumption))))
              clear hW9 q0 q1 q2 f0 f1 f2
              obtain ⟨p0, p1, p2⟩ := bx3 B9
              refine bodyPost_ret (v := .tuple #[.agg #[.int .i64 0, .int .i64 0, .int .i64 0], .int .i64 14]) (by simp [results, Try.results20, go_sem, p0, p1, p2]) rfl ⟨rfl, U9⟩
          · have HT2 := hide (unhide HT : (u1 ≤ lm → _) ∧ (¬ u1 ≤ lm → _))
            by_cases cf : u1 ≤ lm
            · have HV := hide ((unhide HT2).1 cf)
              clear HT HT2
              go_wp2_with fail
              go_quiet (fail)
              go_wp2_with fail
              go_roundw
              case rel => exact ⟨k + 1, by omega, by go_num, (by repeat' (first | (with_reducible exact up_refl _) | (with_reducible assumption) | (with_reducible refine up_alloc ?_ _) | (with_reducible refine up_drewN ?_ _) | (with_reducible refine up_drew ?_) | (with_reducible refine up_set ?_ (by first | (simp; done) | (simp; omega) | omega) _) | (refine up_trans ?_ (by with_reducible assumption)))), bx_drewN hB _, bx_drewN hZ _, unhide HV⟩
              case measure => simp [intOf]; omega
            · have HV := (unhide HT2).2 cf
              have HF2 := unhide HF
              rw [HV] at HF2
              subst HF2
              obtain ⟨e1, e2, e3, e4⟩ := unhide HE2
              rw [if_neg (by simp)] at e1
              subst e1
              rw [if_neg (by omega)] at e2 e3 e4
              subst e2 e3 e4
              clear HT HT2 HV HF
              go_wp2_with fail
              go_quiet (fail)
              refine at_x (fun WQ hWQ => ?_)
              have hZ4 : Bx WQ (w.heap.size + 1) [.int .i64 0, .int .i64 0, .int .i64 0] := by rw [hWQ]; exact bx_drewN hZ _
              have U4 : Up w WQ := by rw [hWQ]; exact (by repeat' (first | (with_reducible exact up_refl _) | (with_reducible assumption) | (with_reducible refine up_alloc ?_ _) | (with_reducible refine up_drewN ?_ _) | (with_reducible refine up_drew ?_) | (with_reducible refine up_set ?_ (by first | (simp; done) | (simp; omega) | omega) _) | (refine up_trans ?_ (by with_reducible assumption))))
              clear hWQ hB hZ hu x0 x1 x2
              obtain ⟨q0, q1, q2⟩ := bx3 hZ4
              obtain ⟨f0, f1, f2⟩ := bxf3 hZ4
              go_wp2_with fail
              obtain ⟨W9, hW9⟩ : ∃ W9 : World, W9 = (((WQ.setCell ⟨w.heap.size + 1, 0, none⟩ (.int .i64 0)).setCell ⟨w.heap.size + 1, 1, none⟩ (.int .i64 0)).setCell ⟨w.heap.size + 1, 2, none⟩ (.int .i64 0)) := ⟨_, rfl⟩
              rw [← hW9]
              have B9 : Bx W9 (w.heap.size + 1) [.int .i64 0, .int .i64 0, .int .i64 0] := by rw [hW9]; exact bx_set3 hZ4
              have U9 : Up w W9 := by rw [hW9]; exact (by repeat' (first | (with_reducible exact up_refl _) | (with_reducible assumption) | (with_reducible refine up_alloc ?_ _) | (with_reducible refine up_drewN ?_ _) | (with_reducible refine up_drew ?_) | (with_reducible refine up_set ?_ (by first | (simp; done) | (simp; omega) | omega) _) | (refine up_trans ?_ (by with_reducible assumption))))
              clear hW9 q0 q1 q2 f0 f1 f2
              obtain ⟨p0, p1, p2⟩ := bx3 B9
              refine bodyPost_ret (v := .tuple #[.agg #[.int .i64 0, .int .i64 0, .int .i64 0], .int .i64 14]) (by simp [results, Try.results20, go_sem, p0, p1, p2]) rfl ⟨rfl, U9⟩
          · have HT2 := hide (unhide HT : (u2 ≤ lm → _) ∧ (¬ u2 ≤ lm → _))
            by_cases cf : u2 ≤ lm
            · have HV := hide ((unhide HT2).1 cf)
              clear HT HT2
              go_wp2_with fail
              go_quiet (fail)
              go_wp2_with fail
              go_roundw
              case rel => exact ⟨k + 1, by omega, by go_num, (by repeat' (first | (with_reducible exact up_refl _) | (with_reducible assumption) | (with_reducible refine up_alloc ?_ _) | (with_reducible refine up_drewN ?_ _) | (with_reducible refine up_drew ?_) | (with_reducible refine up_set ?_ (by first | (simp; done) | (simp; omega) | omega) _) | (refine up_trans ?_ (by with_reducible assumption)))), bx_drewN hB _, bx_drewN hZ _, unhide HV⟩
              case measure => simp [intOf]; omega
            · have HV := (unhide HT2).2 cf
              have HF2 := unhide HF
              rw [HV] at HF2
              subst HF2
              obtain ⟨e1, e2, e3, e4⟩ := unhide HE2
              rw [if_neg (by simp)] at e1
              subst e1
              rw [if_neg (by omega)] at e2 e3 e4
              subst e2 e3 e4
              clear HT HT2 HV HF
              go_wp2_with fail
              go_quiet (fail)
              refine at_x (fun WQ hWQ => ?_)
              have hZ4 : Bx WQ (w.heap.size + 1) [.int .i64 0, .int .i64 0, .int .i64 0] := by rw [hWQ]; exact bx_drewN hZ _
              have U4 : Up w WQ := by rw [hWQ]; exact (by repeat' (first | (with_reducible exact up_refl _) | (with_reducible assumption) | (with_reducible refine up_alloc ?_ _) | (with_reducible refine up_drewN ?_ _) | (with_reducible refine up_drew ?_) | (with_reducible refine up_set ?_ (by first | (simp; done) | (simp; omega) | omega) _) | (refine up_trans ?_ (by with_reducible assumption))))
              clear hWQ hB hZ hu x0 x1 x2
              obtain ⟨q0, q1, q2⟩ := bx3 hZ4
              obtain ⟨f0, f1, f2⟩ := bxf3 hZ4
              go_wp2_with fail
              obtain ⟨W9, hW9⟩ : ∃ W9 : World, W9 = (((WQ.setCell ⟨w.heap.size + 1, 0, none⟩ (.int .i64 0)).setCell ⟨w.heap.size + 1, 1, none⟩ (.int .i64 0)).setCell ⟨w.heap.size + 1, 2, none⟩ (.int .i64 0)) := ⟨_, rfl⟩
              rw [← hW9]
              have B9 : Bx W9 (w.heap.size + 1) [.int .i64 0, .int .i64 0, .int .i64 0] := by rw [hW9]; exact bx_set3 hZ4
              have U9 : Up w W9 := by rw [hW9]; exact (by repeat' (first | (with_reducible exact up_refl _) | (with_reducible assumption) | (with_reducible refine up_alloc ?_ _) | (with_reducible refine up_drewN ?_ _) | (with_reducible refine up_drew ?_) | (with_reducible refine up_set ?_ (by first | (simp; done) | (simp; omega) | omega) _) | (refine up_trans ?_ (by with_reducible assumption))))
              clear hW9 q0 q1 q2 f0 f1 f2
              obtain ⟨p0, p1, p2⟩ := bx3 B9
              refine bodyPost_ret (v := .tuple #[.agg #[.int .i64 0, .int .i64 0, .int .i64 0], .int .i64 14]) (by simp [results, Try.results20, go_sem, p0, p1, p2]) rfl ⟨rfl, U9⟩
        · obtain rfl : k = n := by omega
          have ht : fit u0 u1 u2 ps = true := by
            have := unhide ho
            rwa [List.take_of_length_le (by rw [unhide HN]; omega)] at this
          have HF2 := unhide HF
          rw [ht] at HF2
          subst HF2
          obtain ⟨e1, e2, e3, e4⟩ := unhide HE2
          rw [if_pos rfl] at e1
          subst e1
          rw [if_pos rfl] at e2 e3 e4
          subst e2 e3 e4
          obtain ⟨x0, x1, x2⟩ := bx3 hB
          obtain ⟨q0, q1, q2⟩ := bx3 hZ
          obtain ⟨f0, f1, f2⟩ := bxf3 hZ
          clear ht ho HF
          go_wp2_with fail
          obtain ⟨W9, hW9⟩ : ∃ W9 : World, W9 = (((wr.setCell ⟨w.heap.size + 1, 0, none⟩ (.int .i64 u0)).setCell ⟨w.heap.size + 1, 1, none⟩ (.int .i64 u1)).setCell ⟨w.heap.size + 1, 2, none⟩ (.int .i64 u2)) := ⟨_, rfl⟩
          rw [← hW9]
          have B9 : Bx W9 (w.heap.size + 1) [.int .i64 u0, .int .i64 u1, .int .i64 u2] := by rw [hW9]; exact bx_set3 hZ
          have U9 : Up w W9 := by rw [hW9]; exact (by repeat' (first | (with_reducible exact up_refl _) | (with_reducible assumption) | (with_reducible refine up_alloc ?_ _) | (with_reducible refine up_drewN ?_ _) | (with_reducible refine up_drew ?_) | (with_reducible refine up_set ?_ (by first | (simp; done) | (simp; omega) | omega) _) | (refine up_trans ?_ (by with_reducible assumption))))
          clear hW9 q0 q1 q2 f0 f1 f2
          obtain ⟨p0, p1, p2⟩ := bx3 B9
          refine bodyPost_ret (v := .tuple #[.agg #[.int .i64 u0, .int .i64 u1, .int .i64 u2], .int .i64 0]) (by simp [results, Try.results20, go_sem, p0, p1, p2]) rfl ⟨rfl, U9⟩
  · simp only [if_neg (show ¬ (3 : Int) = 0 by omega)]
    go_enter Try.func20, Try.ntmps20
    go_wp2_with (first | (go_at_call 18; (with_reducible refine (unhide hM _).mono ?_); rintro e w1 ⟨rfl, rfl⟩))
    obtain ⟨p0, p1, p2⟩ := bx3 (bx_two' w [.int .i64 X, .int .i64 Y] [.int .i64 0, .int .i64 0, .int .i64 0] 24 36).2
    refine bodyPost_ret (v := .tuple #[.agg #[.int .i64 0, .int .i64 0, .int .i64 0], .int .i64 3]) (by simp [results, Try.results20, go_sem, p0, p1, p2]) rfl ⟨rfl, (by repeat' (first | (with_reducible exact up_refl _) | (with_reducible assumption) | (with_reducible refine up_alloc ?_ _) | (with_reducible refine up_drewN ?_ _) | (with_reducible refine up_drew ?_) | (with_reducible refine up_set ?_ (by first | (simp; done) | (simp; omega) | omega) _) | (refine up_trans ?_ (by with_reducible assumption))))⟩
  · simp only [if_neg (show ¬ (3 : Int) = 0 by omega)]
    go_enter Try.func20, Try.ntmps20
    go_wp2_with (first | (go_at_call 18; (with_reducible refine (unhide hM _).mono ?_); rintro e w1 ⟨rfl, rfl⟩) | (go_at_call 19; (with_reducible refine (unhide hQ _).mono ?_); rintro e w1 ⟨rfl, hb1⟩; have B1 := bx_up (bx_two' w [.int .i64 X, .int .i64 Y] [.int .i64 0, .int .i64 0, .int .i64 0] 24 36).2 hb1; have A1 := bx_up (bx_two' w [.int .i64 X, .int .i64 Y] [.int .i64 0, .int .i64 0, .int .i64 0] 24 36).1 hb1; obtain ⟨x0, x1⟩ := bx2 A1; obtain ⟨q0, q1, q2⟩ := bx3 B1; obtain ⟨f0, f1, f2⟩ := bxf3 B1))
    obtain ⟨W9, hW9⟩ : ∃ W9 : World, W9 = (((w1.setCell ⟨w.heap.size + 1, 0, none⟩ (.int .i64 0)).setCell ⟨w.heap.size + 1, 1, none⟩ (.int .i64 0)).setCell ⟨w.heap.size + 1, 2, none⟩ (.int .i64 0)) := ⟨_, rfl⟩
    rw [← hW9]
    have B9 : Bx W9 (w.heap.size + 1) [.int .i64 0, .int .i64 0, .int .i64 0] := by rw [hW9]; exact bx_set3 B1
    have U9 : Up w W9 := by rw [hW9]; exact (by repeat' (first | (with_reducible exact up_refl _) | (with_reducible assumption) | (with_reducible refine up_alloc ?_ _) | (with_reducible refine up_drewN ?_ _) | (with_reducible refine up_drew ?_) | (with_reducible refine up_set ?_ (by first | (simp; done) | (simp; omega) | omega) _) | (refine up_trans ?_ (by with_reducible assumption))))
    clear hW9 q0 q1 q2 f0 f1 f2
    obtain ⟨p0, p1, p2⟩ := bx3 B9
    refine bodyPost_ret (v := .tuple #[.agg #[.int .i64 0, .int .i64 0, .int .i64 0], .int .i64 3]) (by simp [results, Try.results20, go_sem, p0, p1, p2]) rfl ⟨rfl, U9⟩
end Go.Proofs.Ytepblnnebeglbaa
