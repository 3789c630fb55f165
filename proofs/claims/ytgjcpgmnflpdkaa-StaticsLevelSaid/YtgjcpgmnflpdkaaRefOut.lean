/- The sums, parts and shares as they are handed out: the document's own answers. -/
import Derived.Test.YtgjcpgmnflpdkaaRefParts
import Derived.Test.YtgjcpgmnflpdkaaRefDown
namespace Go.Proofs.Ytgjcpgmnflpdkaa
open Go.RowKit Go.Proofs.Gn
set_option maxHeartbeats 4000000 in
theorem r_tips (A : Option Addr) (ps : List Gs.Sup) (cap : Nat) (X Y : Int) (hz : atE ps X Y = 0) (w : World) (h : Sups w A ps) :
    Calls Try.prog 57 #[.slice A ps.length cap, pt X Y] w fun e w' => e = .returned (.int .i64 (lif (pa0 ps X Y) (pa1 ps X Y) (pa2 ps X Y))) ∧ Up w w' := by
  have HP := hide (fun (W : World) (hW : Up w W) => r_parts A ps cap X Y hz W (sups_up h hW))
  clear h hz
  obtain ⟨n, hN⟩ : ∃ n, ps.length = n := ⟨_, rfl⟩
  rw [hN] at HP ⊢
  clear hN
  generalize pa0 ps X Y = a at *
  generalize pa1 ps X Y = b at *
  generalize pa2 ps X Y = c at *
  generalize paD ps = D at *
  unfold lif
  by_cases ca : a < 0
  · rw [if_pos ca]
    go_enter Try.func57, Try.ntmps57
    go_wp2_with (go_at_call 55; (with_reducible refine (unhide HP _ (by repeat' (first | (with_reducible exact up_refl _) | (with_reducible assumption) | (with_reducible refine up_alloc ?_ _) | (with_reducible refine up_drewN ?_ _) | (with_reducible refine up_drew ?_) | (with_reducible refine up_set ?_ (by first | (simp; done) | (simp; omega) | omega) _) | (refine up_trans ?_ (by with_reducible assumption))))).mono ?_); rintro e w1 ⟨rfl, hb1⟩)
    refine at_wp (fun W0 hW0 => ?_)
    have O0 : Bx W0 w1.heap.size [.int .i64 a, .int .i64 b, .int .i64 c] := by rw [hW0]; exact bx_new w1 _ 30
    have U0 : Up w W0 := by rw [hW0]; exact (by repeat' (first | (with_reducible exact up_refl _) | (with_reducible assumption) | (with_reducible refine up_alloc ?_ _) | (with_reducible refine up_drewN ?_ _) | (with_reducible refine up_drew ?_) | (with_reducible refine up_set ?_ (by first | (simp; done) | (simp; omega) | omega) _) | (refine up_trans ?_ (by with_reducible assumption))))
    clear hW0 hb1
    obtain ⟨o0, o1, o2⟩ := bx3 O0
    refine wp_loop_rounds 4 ?_
    rw [rounds_succ]
    go_wp2_with fail
    go_ret
    exact ⟨rfl, (by repeat' (first | (with_reducible exact up_refl _) | (with_reducible assumption) | (with_reducible refine up_alloc ?_ _) | (with_reducible refine up_drewN ?_ _) | (with_reducible refine up_drew ?_) | (with_reducible refine up_set ?_ (by first | (simp; done) | (simp; omega) | omega) _) | (refine up_trans ?_ (by with_reducible assumption))))⟩
  rw [if_neg ca]
  by_cases cb : b < 0
  · rw [if_pos cb]
    go_enter Try.func57, Try.ntmps57
    go_wp2_with (go_at_call 55; (with_reducible refine (unhide HP _ (by repeat' (first | (with_reducible exact up_refl _) | (with_reducible assumption) | (with_reducible refine up_alloc ?_ _) | (with_reducible refine up_drewN ?_ _) | (with_reducible refine up_drew ?_) | (with_reducible refine up_set ?_ (by first | (simp; done) | (simp; omega) | omega) _) | (refine up_trans ?_ (by with_reducible assumption))))).mono ?_); rintro e w1 ⟨rfl, hb1⟩)
    refine at_wp (fun W0 hW0 => ?_)
    have O0 : Bx W0 w1.heap.size [.int .i64 a, .int .i64 b, .int .i64 c] := by rw [hW0]; exact bx_new w1 _ 30
    have U0 : Up w W0 := by rw [hW0]; exact (by repeat' (first | (with_reducible exact up_refl _) | (with_reducible assumption) | (with_reducible refine up_alloc ?_ _) | (with_reducible refine up_drewN ?_ _) | (with_reducible refine up_drew ?_) | (with_reducible refine up_set ?_ (by first | (simp; done) | (simp; omega) | omega) _) | (refine up_trans ?_ (by with_reducible assumption))))
    clear hW0 hb1
    obtain ⟨o0, o1, o2⟩ := bx3 O0
    refine wp_loop_rounds 4 ?_
    rw [rounds_succ]
    go_wp2_with fail
    rw [rounds_succ]
    go_wp2_with fail
    go_ret
    exact ⟨rfl, (by repeat' (first | (with_reducible exact up_refl _) | (with_reducible assumption) | (with_reducible refine up_alloc ?_ _) | (with_reducible refine up_drewN ?_ _) | (with_reducible refine up_drew ?_) | (with_reducible refine up_set ?_ (by first | (simp; done) | (simp; omega) | omega) _) | (refine up_trans ?_ (by with_reducible assumption))))⟩
  rw [if_neg cb]
  by_cases cc : c < 0
  · rw [if_pos cc]
    go_enter Try.func57, Try.ntmps57
    go_wp2_with (go_at_call 55; (with_reducible refine (unhide HP _ (by repeat' (first | (with_reducible exact up_refl _) | (with_reducible assumption) | (with_reducible refine up_alloc ?_ _) | (with_reducible refine up_drewN ?_ _) | (with_reducible refine up_drew ?_) | (with_reducible refine up_set ?_ (by first | (simp; done) | (simp; omega) | omega) _) | (refine up_trans ?_ (by with_reducible assumption))))).mono ?_); rintro e w1 ⟨rfl, hb1⟩)
    refine at_wp (fun W0 hW0 => ?_)
    have O0 : Bx W0 w1.heap.size [.int .i64 a, .int .i64 b, .int .i64 c] := by rw [hW0]; exact bx_new w1 _ 30
    have U0 : Up w W0 := by rw [hW0]; exact (by repeat' (first | (with_reducible exact up_refl _) | (with_reducible assumption) | (with_reducible refine up_alloc ?_ _) | (with_reducible refine up_drewN ?_ _) | (with_reducible refine up_drew ?_) | (with_reducible refine up_set ?_ (by first | (simp; done) | (simp; omega) | omega) _) | (refine up_trans ?_ (by with_reducible assumption))))
    clear hW0 hb1
    obtain ⟨o0, o1, o2⟩ := bx3 O0
    refine wp_loop_rounds 4 ?_
    rw [rounds_succ]
    go_wp2_with fail
    rw [rounds_succ]
    go_wp2_with fail
    rw [rounds_succ]
    go_wp2_with fail
    go_ret
    exact ⟨rfl, (by repeat' (first | (with_reducible exact up_refl _) | (with_reducible assumption) | (with_reducible refine up_alloc ?_ _) | (with_reducible refine up_drewN ?_ _) | (with_reducible refine up_drew ?_) | (with_reducible refine up_set ?_ (by first | (simp; done) | (simp; omega) | omega) _) | (refine up_trans ?_ (by with_reducible assumption))))⟩
  · rw [if_neg cc]
    go_enter Try.func57, Try.ntmps57
    go_wp2_with (go_at_call 55; (with_reducible refine (unhide HP _ (by repeat' (first | (with_reducible exact up_refl _) | (with_reducible assumption) | (with_reducible refine up_alloc ?_ _) | (with_reducible refine up_drewN ?_ _) | (with_reducible refine up_drew ?_) | (with_reducible refine up_set ?_ (by first | (simp; done) | (simp; omega) | omega) _) | (refine up_trans ?_ (by with_reducible assumption))))).mono ?_); rintro e w1 ⟨rfl, hb1⟩)
    refine at_wp (fun W0 hW0 => ?_)
    have O0 : Bx W0 w1.heap.size [.int .i64 a, .int .i64 b, .int .i64 c] := by rw [hW0]; exact bx_new w1 _ 30
    have U0 : Up w W0 := by rw [hW0]; exact (by repeat' (first | (with_reducible exact up_refl _) | (with_reducible assumption) | (with_reducible refine up_alloc ?_ _) | (with_reducible refine up_drewN ?_ _) | (with_reducible refine up_drew ?_) | (with_reducible refine up_set ?_ (by first | (simp; done) | (simp; omega) | omega) _) | (refine up_trans ?_ (by with_reducible assumption))))
    clear hW0 hb1
    obtain ⟨o0, o1, o2⟩ := bx3 O0
    refine wp_loop_rounds 4 ?_
    rw [rounds_succ]
    go_wp2_with fail
    rw [rounds_succ]
    go_wp2_with fail
    rw [rounds_succ]
    go_wp2_with fail
    rw [rounds_succ]
    go_wp2_with fail
    go_ret
    exact ⟨rfl, (by repeat' (first | (with_reducible exact up_refl _) | (with_reducible assumption) | (with_reducible refine up_alloc ?_ _) | (with_reducible refine up_drewN ?_ _) | (with_reducible refine up_drew ?_) | (with_reducible refine up_set ?_ (by first | (simp; done) | (simp; omega) | omega) _) | (refine up_trans ?_ (by with_reducible assumption))))⟩
set_option maxHeartbeats 1000000 in
theorem r_Sums (A : Option Addr) (ps : List Gs.Sup) (cap : Nat) (hn : ps.length ≤ 9223372036854775807) (w : World) (h : Sups w A ps) :
    Calls Try.prog 21 #[.slice A ps.length cap] w fun e w' => e = .returned (.tuple #[m9 (suV ps (Gs.cN 0 ps)) (suV ps (Gs.cX 0 ps)) (suV ps (Gs.cY 0 ps)) (suV ps (Gs.cN 1 ps)) (suV ps (Gs.cX 1 ps)) (suV ps (Gs.cY 1 ps)) (suV ps (Gs.cN 2 ps)) (suV ps (Gs.cX 2 ps)) (suV ps (Gs.cY 2 ps)), .int .i64 (chE ps)]) ∧ Up w w' := by
  have hC := hide (fun (W : World) (hW : Up w W) => r_Check A ps cap W (sups_up h hW) hn)
  have hS := hide (fun (e : chE ps = 0) (W : World) (hW : Up w W) => r_sums9 A ps cap (chE_ok e).1 (chE_ok e).2.1 W (sups_up h hW))
  unfold suV
  unfold n9 at hS
  clear h hn
  obtain ⟨n, hN⟩ : ∃ n, ps.length = n := ⟨_, rfl⟩
  rw [hN] at hC hS ⊢
  clear hN
  generalize Gs.cN 0 ps = n0 at *
  generalize Gs.cX 0 ps = x0 at *
  generalize Gs.cY 0 ps = y0 at *
  generalize Gs.cN 1 ps = n1 at *
  generalize Gs.cX 1 ps = x1 at *
  generalize Gs.cY 1 ps = y1 at *
  generalize Gs.cN 2 ps = n2 at *
  generalize Gs.cX 2 ps = x2 at *
  generalize Gs.cY 2 ps = y2 at *
  generalize chE ps = C at *
  by_cases c : C = 0
  · subst c
    simp only [if_pos]
    have hS2 := hide (unhide hS rfl)
    clear hS
    go_enter Try.func21, Try.ntmps21
    go_wp2_with (first | (go_at_call 26; (with_reducible refine (unhide hC _ (by repeat' (first | (with_reducible exact up_refl _) | (with_reducible assumption) | (with_reducible refine up_alloc ?_ _) | (with_reducible refine up_drewN ?_ _) | (with_reducible refine up_drew ?_) | (with_reducible refine up_set ?_ (by first | (simp; done) | (simp; omega) | omega) _) | (refine up_trans ?_ (by with_reducible assumption))))).mono ?_); rintro e w1 ⟨rfl, hb⟩; have B1 := bx_up (bx_new w [.int .i64 0, .int .i64 0, .int .i64 0, .int .i64 0, .int .i64 0, .int .i64 0, .int .i64 0, .int .i64 0, .int .i64 0] 31) hb) | (go_at_call 53; (with_reducible refine (unhide hS2 _ (by repeat' (first | (with_reducible exact up_refl _) | (with_reducible assumption) | (with_reducible refine up_alloc ?_ _) | (with_reducible refine up_drewN ?_ _) | (with_reducible refine up_drew ?_) | (with_reducible refine up_set ?_ (by first | (simp; done) | (simp; omega) | omega) _) | (refine up_trans ?_ (by with_reducible assumption))))).mono ?_); rintro e w2 ⟨rfl, hb2⟩; have B2 := bx_up B1 hb2; obtain ⟨q0, q1, q2, q3, q4, q5, q6, q7, q8⟩ := bx9 B2; obtain ⟨f0, f1, f2, f3, f4, f5, f6, f7, f8⟩ := bxf9 B2))
    obtain ⟨W9, hW9⟩ : ∃ W9 : World, W9 = (((((((((w2.setCell ⟨w.heap.size, 0, none⟩ (.int .i64 n0)).setCell ⟨w.heap.size, 1, none⟩ (.int .i64 x0)).setCell ⟨w.heap.size, 2, none⟩ (.int .i64 y0)).setCell ⟨w.heap.size, 3, none⟩ (.int .i64 n1)).setCell ⟨w.heap.size, 4, none⟩ (.int .i64 x1)).setCell ⟨w.heap.size, 5, none⟩ (.int .i64 y1)).setCell ⟨w.heap.size, 6, none⟩ (.int .i64 n2)).setCell ⟨w.heap.size, 7, none⟩ (.int .i64 x2)).setCell ⟨w.heap.size, 8, none⟩ (.int .i64 y2)) := ⟨_, rfl⟩
    rw [← hW9]
    have B9 : Bx W9 w.heap.size [.int .i64 n0, .int .i64 x0, .int .i64 y0, .int .i64 n1, .int .i64 x1, .int .i64 y1, .int .i64 n2, .int .i64 x2, .int .i64 y2] := by rw [hW9]; exact bx_set (bx_set (bx_set (bx_set (bx_set (bx_set (bx_set (bx_set (bx_set B2 0 _) 1 _) 2 _) 3 _) 4 _) 5 _) 6 _) 7 _) 8 _
    have U9 : Up w W9 := by rw [hW9]; exact (by repeat' (first | (with_reducible exact up_refl _) | (with_reducible assumption) | (with_reducible refine up_alloc ?_ _) | (with_reducible refine up_drewN ?_ _) | (with_reducible refine up_drew ?_) | (with_reducible refine up_set ?_ (by first | (simp; done) | (simp; omega) | omega) _) | (refine up_trans ?_ (by with_reducible assumption))))
    clear hW9 q0 q1 q2 q3 q4 q5 q6 q7 q8 f0 f1 f2 f3 f4 f5 f6 f7 f8
    obtain ⟨q0, q1, q2, q3, q4, q5, q6, q7, q8⟩ := bx9 B9
    refine bodyPost_ret (v := .tuple #[m9 n0 x0 y0 n1 x1 y1 n2 x2 y2, .int .i64 0]) ?_ rfl ⟨rfl, U9⟩
    simp [results, Try.results21, go_sem, q0, q1, q2, q3, q4, q5, q6, q7, q8]
  · simp only [if_neg c]
    have c2 : (C == 0) = false := by simp; exact c
    clear hS
    go_enter Try.func21, Try.ntmps21
    go_wp2_with (first | (go_at_call 26; (with_reducible refine (unhide hC _ (by repeat' (first | (with_reducible exact up_refl _) | (with_reducible assumption) | (with_reducible refine up_alloc ?_ _) | (with_reducible refine up_drewN ?_ _) | (with_reducible refine up_drew ?_) | (with_reducible refine up_set ?_ (by first | (simp; done) | (simp; omega) | omega) _) | (refine up_trans ?_ (by with_reducible assumption))))).mono ?_); first | (rintro e w1 ⟨rfl, hb⟩; have B1 := bx_up B0 hb; obtain ⟨q0, q1, q2, q3, q4, q5, q6, q7, q8⟩ := bx9 B1; obtain ⟨f0, f1, f2, f3, f4, f5, f6, f7, f8⟩ := bxf9 B1) | (rintro e w0 ⟨rfl, hb0⟩; have B0 := bx_up (bx_new w [.int .i64 0, .int .i64 0, .int .i64 0, .int .i64 0, .int .i64 0, .int .i64 0, .int .i64 0, .int .i64 0, .int .i64 0] 31) hb0)))
    obtain ⟨W9, hW9⟩ : ∃ W9 : World, W9 = (((((((((w1.setCell ⟨w.heap.size, 0, none⟩ (.int .i64 0)).setCell ⟨w.heap.size, 1, none⟩ (.int .i64 0)).setCell ⟨w.heap.size, 2, none⟩ (.int .i64 0)).setCell ⟨w.heap.size, 3, none⟩ (.int .i64 0)).setCell ⟨w.heap.size, 4, none⟩ (.int .i64 0)).setCell ⟨w.heap.size, 5, none⟩ (.int .i64 0)).setCell ⟨w.heap.size, 6, none⟩ (.int .i64 0)).setCell ⟨w.heap.size, 7, none⟩ (.int .i64 0)).setCell ⟨w.heap.size, 8, none⟩ (.int .i64 0)) := ⟨_, rfl⟩
    rw [← hW9]
    have B9 : Bx W9 w.heap.size [.int .i64 0, .int .i64 0, .int .i64 0, .int .i64 0, .int .i64 0, .int .i64 0, .int .i64 0, .int .i64 0, .int .i64 0] := by rw [hW9]; exact bx_set (bx_set (bx_set (bx_set (bx_set (bx_set (bx_set (bx_set (bx_set B1 0 _) 1 _) 2 _) 3 _) 4 _) 5 _) 6 _) 7 _) 8 _
    have U9 : Up w W9 := by rw [hW9]; exact (by repeat' (first | (with_reducible exact up_refl _) | (with_reducible assumption) | (with_reducible refine up_alloc ?_ _) | (with_reducible refine up_drewN ?_ _) | (with_reducible refine up_drew ?_) | (with_reducible refine up_set ?_ (by first | (simp; done) | (simp; omega) | omega) _) | (refine up_trans ?_ (by with_reducible assumption))))
    clear hW9 q0 q1 q2 q3 q4 q5 q6 q7 q8 f0 f1 f2 f3 f4 f5 f6 f7 f8
    obtain ⟨q0, q1, q2, q3, q4, q5, q6, q7, q8⟩ := bx9 B9
    refine bodyPost_ret (v := .tuple #[m9 0 0 0 0 0 0 0 0 0, .int .i64 C]) ?_ rfl ⟨rfl, U9⟩
    simp [results, Try.results21, go_sem, q0, q1, q2, q3, q4, q5, q6, q7, q8]
def z3 : List Value := [.int .i64 0, .int .i64 0, .int .i64 0]
theorem atE_cases (ps : List Gs.Sup) (X Y : Int) : (¬ chE ps = 0 ∧ atE ps X Y = chE ps) ∨ (chE ps = 0 ∧ ptE X Y = 3 ∧ atE ps X Y = 3) ∨ (chE ps = 0 ∧ ptE X Y = 0 ∧ atE ps X Y = 0) := by
  unfold atE
  by_cases c : chE ps = 0
  · rw [if_pos c]
    right
    unfold ptE
    split
    · exact .inr ⟨c, rfl, rfl⟩
    · exact .inl ⟨c, rfl, rfl⟩
  · rw [if_neg c]
    exact .inl ⟨c, rfl⟩
set_option maxHeartbeats 4000000 in
theorem r_Parts (A : Option Addr) (ps : List Gs.Sup) (cap : Nat) (X Y : Int) (hn : ps.length ≤ 9223372036854775807) (w : World) (h : Sups w A ps) :
    Calls Try.prog 22 #[.slice A ps.length cap, pt X Y] w fun e w' => e = .returned (.tuple #[.agg #[.int .i64 (paV ps X Y (pa0 ps X Y)), .int .i64 (paV ps X Y (pa1 ps X Y)), .int .i64 (paV ps X Y (pa2 ps X Y))], .int .i64 (paV ps X Y (paD ps)), .int .i64 (atE ps X Y)]) ∧ Up w w' := by
  have hC := hide (fun (W : World) (hW : Up w W) => r_Check A ps cap W (sups_up h hW) hn)
  have hQ := hide (fun W => r_point X Y W)
  have hP := hide (fun (e : atE ps X Y = 0) (W : World) (hW : Up w W) => r_parts A ps cap X Y e W (sups_up h hW))
  have hcs := atE_cases ps X Y
  unfold paV
  clear h hn
  obtain ⟨n, hN⟩ : ∃ n, ps.length = n := ⟨_, rfl⟩
  rw [hN] at hC hP ⊢
  clear hN
  generalize pa0 ps X Y = l0 at *
  generalize pa1 ps X Y = l1 at *
  generalize pa2 ps X Y = l2 at *
  generalize paD ps = D at *
  generalize atE ps X Y = F at *
  generalize chE ps = C at *
  generalize ptE X Y = Q at *
  rcases hcs with ⟨c1, rfl⟩ | ⟨rfl, rfl, rfl⟩ | ⟨rfl, rfl, rfl⟩
  · simp only [if_neg c1]
    have c2 : (F == 0) = false := by simp; exact c1
    clear hP
    go_enter Try.func22, Try.ntmps22
    go_wp2_with (first | (go_at_call 26; (with_reducible refine (unhide hC _ (by repeat' (first | (with_reducible exact up_refl _) | (with_reducible assumption) | (with_reducible refine up_alloc ?_ _) | (with_reducible refine up_drewN ?_ _) | (with_reducible refine up_drew ?_) | (with_reducible refine up_set ?_ (by first | (simp; done) | (simp; omega) | omega) _) | (refine up_trans ?_ (by with_reducible assumption))))).mono ?_); first | (rintro e w1 ⟨rfl, hb⟩; have B1 := bx_up B0 hb; obtain ⟨q0, q1, q2⟩ := bx3 B1; obtain ⟨f0, f1, f2⟩ := bxf3 B1) | (rintro e w0 ⟨rfl, hb0⟩; have B0 := bx_up (bx_two' w [.int .i64 X, .int .i64 Y] [.int .i64 0, .int .i64 0, .int .i64 0] 29 30).2 hb0)))
    obtain ⟨W9, hW9⟩ : ∃ W9 : World, W9 = (((w1.setCell ⟨w.heap.size + 1, 0, none⟩ (.int .i64 0)).setCell ⟨w.heap.size + 1, 1, none⟩ (.int .i64 0)).setCell ⟨w.heap.size + 1, 2, none⟩ (.int .i64 0)) := ⟨_, rfl⟩
    rw [← hW9]
    have B9 : Bx W9 (w.heap.size + 1) [.int .i64 0, .int .i64 0, .int .i64 0] := by rw [hW9]; exact bx_set3 B1
    have U9 : Up w W9 := by rw [hW9]; exact (by repeat' (first | (with_reducible exact up_refl _) | (with_reducible assumption) | (with_reducible refine up_alloc ?_ _) | (with_reducible refine up_drewN ?_ _) | (with_reducible refine up_drew ?_) | (with_reducible refine up_set ?_ (by first | (simp; done) | (simp; omega) | omega) _) | (refine up_trans ?_ (by with_reducible assumption))))
    clear hW9 q0 q1 q2 f0 f1 f2
    obtain ⟨p0, p1, p2⟩ := bx3 B9
    refine bodyPost_ret (v := .tuple #[.agg #[.int .i64 0, .int .i64 0, .int .i64 0], .int .i64 0, .int .i64 F]) (by simp [results, Try.results22, go_sem, p0, p1, p2]) rfl ⟨rfl, U9⟩
  · simp only [if_neg (show ¬ (3 : Int) = 0 by omega)]
    clear hP
    go_enter Try.func22, Try.ntmps22
    go_wp2_with (first | (go_at_call 26; (with_reducible refine (unhide hC _ (by repeat' (first | (with_reducible exact up_refl _) | (with_reducible assumption) | (with_reducible refine up_alloc ?_ _) | (with_reducible refine up_drewN ?_ _) | (with_reducible refine up_drew ?_) | (with_reducible refine up_set ?_ (by first | (simp; done) | (simp; omega) | omega) _) | (refine up_trans ?_ (by with_reducible assumption))))).mono ?_); rintro e w0 ⟨rfl, hb0⟩; have B0 := bx_up (bx_two' w [.int .i64 X, .int .i64 Y] [.int .i64 0, .int .i64 0, .int .i64 0] 29 30).2 hb0; have A0 := bx_up (bx_two' w [.int .i64 X, .int .i64 Y] [.int .i64 0, .int .i64 0, .int .i64 0] 29 30).1 hb0; obtain ⟨x0, x1⟩ := bx2 A0) | (go_at_call 54; (with_reducible refine (unhide hQ _).mono ?_); rintro e w1 ⟨rfl, hb⟩; have B1 := bx_up B0 hb; obtain ⟨q0, q1, q2⟩ := bx3 B1; obtain ⟨f0, f1, f2⟩ := bxf3 B1))
    obtain ⟨W9, hW9⟩ : ∃ W9 : World, W9 = (((w1.setCell ⟨w.heap.size + 1, 0, none⟩ (.int .i64 0)).setCell ⟨w.heap.size + 1, 1, none⟩ (.int .i64 0)).setCell ⟨w.heap.size + 1, 2, none⟩ (.int .i64 0)) := ⟨_, rfl⟩
    rw [← hW9]
    have B9 : Bx W9 (w.heap.size + 1) [.int .i64 0, .int .i64 0, .int .i64 0] := by rw [hW9]; exact bx_set3 B1
    have U9 : Up w W9 := by rw [hW9]; exact (by repeat' (first | (with_reducible exact up_refl _) | (with_reducible assumption) | (with_reducible refine up_alloc ?_ _) | (with_reducible refine up_drewN ?_ _) | (with_reducible refine up_drew ?_) | (with_reducible refine up_set ?_ (by first | (simp; done) | (simp; omega) | omega) _) | (refine up_trans ?_ (by with_reducible assumption))))
    clear hW9 q0 q1 q2 f0 f1 f2
    obtain ⟨p0, p1, p2⟩ := bx3 B9
    refine bodyPost_ret (v := .tuple #[.agg #[.int .i64 0, .int .i64 0, .int .i64 0], .int .i64 0, .int .i64 3]) (by simp [results, Try.results22, go_sem, p0, p1, p2]) rfl ⟨rfl, U9⟩
  · simp only [if_pos]
    have hP2 := hide (unhide hP rfl)
    clear hP
    go_enter Try.func22, Try.ntmps22
    go_wp2_with (first | (go_at_call 26; (with_reducible refine (unhide hC _ (by repeat' (first | (with_reducible exact up_refl _) | (with_reducible assumption) | (with_reducible refine up_alloc ?_ _) | (with_reducible refine up_drewN ?_ _) | (with_reducible refine up_drew ?_) | (with_reducible refine up_set ?_ (by first | (simp; done) | (simp; omega) | omega) _) | (refine up_trans ?_ (by with_reducible assumption))))).mono ?_); rintro e w0 ⟨rfl, hb0⟩; have B0 := bx_up (bx_two' w [.int .i64 X, .int .i64 Y] [.int .i64 0, .int .i64 0, .int .i64 0] 29 30).2 hb0; have A0 := bx_up (bx_two' w [.int .i64 X, .int .i64 Y] [.int .i64 0, .int .i64 0, .int .i64 0] 29 30).1 hb0; obtain ⟨x0, x1⟩ := bx2 A0) | (go_at_call 54; (with_reducible refine (unhide hQ _).mono ?_); rintro e w1 ⟨rfl, hb⟩; have B1 := bx_up B0 hb; have A1 := bx_up A0 hb; obtain ⟨y0, y1⟩ := bx2 A1) | (go_at_call 55; (with_reducible refine (unhide hP2 _ (by repeat' (first | (with_reducible exact up_refl _) | (with_reducible assumption) | (with_reducible refine up_alloc ?_ _) | (with_reducible refine up_drewN ?_ _) | (with_reducible refine up_drew ?_) | (with_reducible refine up_set ?_ (by first | (simp; done) | (simp; omega) | omega) _) | (refine up_trans ?_ (by with_reducible assumption))))).mono ?_); rintro e w2 ⟨rfl, hb2⟩; have B2 := bx_alloc (bx_up B1 hb2) (.cells #[.int .i64 l0, .int .i64 l1, .int .i64 l2] 30); obtain ⟨q0, q1, q2⟩ := bx3 B2; obtain ⟨f0, f1, f2⟩ := bxf3 B2))
    obtain ⟨W9, hW9⟩ : ∃ W9 : World, W9 = ((((w2.alloc (.cells #[.int .i64 l0, .int .i64 l1, .int .i64 l2] 30)).setCell ⟨w.heap.size + 1, 0, none⟩ (.int .i64 l0)).setCell ⟨w.heap.size + 1, 1, none⟩ (.int .i64 l1)).setCell ⟨w.heap.size + 1, 2, none⟩ (.int .i64 l2)) := ⟨_, rfl⟩
    rw [← hW9]
    have B9 : Bx W9 (w.heap.size + 1) [.int .i64 l0, .int .i64 l1, .int .i64 l2] := by rw [hW9]; exact bx_set3 B2
    have U9 : Up w W9 := by rw [hW9]; exact (by repeat' (first | (with_reducible exact up_refl _) | (with_reducible assumption) | (with_reducible refine up_alloc ?_ _) | (with_reducible refine up_drewN ?_ _) | (with_reducible refine up_drew ?_) | (with_reducible refine up_set ?_ (by first | (simp; done) | (simp; omega) | omega) _) | (refine up_trans ?_ (by with_reducible assumption))))
    clear hW9 q0 q1 q2 f0 f1 f2
    obtain ⟨p0, p1, p2⟩ := bx3 B9
    refine bodyPost_ret (v := .tuple #[.agg #[.int .i64 l0, .int .i64 l1, .int .i64 l2], .int .i64 D, .int .i64 0]) (by simp [results, Try.results22, go_sem, p0, p1, p2]) rfl ⟨rfl, U9⟩
set_option maxHeartbeats 4000000 in
theorem r_Tips (A : Option Addr) (ps : List Gs.Sup) (cap : Nat) (X Y : Int) (hn : ps.length ≤ 9223372036854775807) (w : World) (h : Sups w A ps) :
    Calls Try.prog 24 #[.slice A ps.length cap, pt X Y] w fun e w' => e = .returned (.tuple #[.int .i64 (tiV ps X Y), .int .i64 (tiE ps X Y)]) ∧ Up w w' := by
  have hC := hide (fun (W : World) (hW : Up w W) => r_Check A ps cap W (sups_up h hW) hn)
  have hQ := hide (fun W => r_point X Y W)
  have hT := hide (fun (e : atE ps X Y = 0) (W : World) (hW : Up w W) => r_tips A ps cap X Y e W (sups_up h hW))
  have hcs := atE_cases ps X Y
  have lb := lif_bd (pa0 ps X Y) (pa1 ps X Y) (pa2 ps X Y)
  unfold tiV tiE lf
  clear h hn
  obtain ⟨n, hN⟩ : ∃ n, ps.length = n := ⟨_, rfl⟩
  rw [hN] at hC hT ⊢
  clear hN
  generalize lif (pa0 ps X Y) (pa1 ps X Y) (pa2 ps X Y) = L at *
  generalize atE ps X Y = F at *
  generalize chE ps = C at *
  generalize ptE X Y = Q at *
  rcases hcs with ⟨c1, rfl⟩ | ⟨rfl, rfl, rfl⟩ | ⟨rfl, rfl, rfl⟩
  · rw [if_neg c1, if_neg c1]
    have c2 : (F == 0) = false := by simp; exact c1
    clear hT
    go_enter Try.func24, Try.ntmps24
    go_wp2_with (first | (go_at_call 26; (with_reducible refine (unhide hC _ (by repeat' (first | (with_reducible exact up_refl _) | (with_reducible assumption) | (with_reducible refine up_alloc ?_ _) | (with_reducible refine up_drewN ?_ _) | (with_reducible refine up_drew ?_) | (with_reducible refine up_set ?_ (by first | (simp; done) | (simp; omega) | omega) _) | (refine up_trans ?_ (by with_reducible assumption))))).mono ?_); rintro e w0 ⟨rfl, hb0⟩))
    go_ret2
    exact ⟨rfl, (by repeat' (first | (with_reducible exact up_refl _) | (with_reducible assumption) | (with_reducible refine up_alloc ?_ _) | (with_reducible refine up_drewN ?_ _) | (with_reducible refine up_drew ?_) | (with_reducible refine up_set ?_ (by first | (simp; done) | (simp; omega) | omega) _) | (refine up_trans ?_ (by with_reducible assumption))))⟩
  · rw [if_neg (by omega), if_neg (by omega)]
    clear hT
    go_enter Try.func24, Try.ntmps24
    go_wp2_with (first | (go_at_call 26; (with_reducible refine (unhide hC _ (by repeat' (first | (with_reducible exact up_refl _) | (with_reducible assumption) | (with_reducible refine up_alloc ?_ _) | (with_reducible refine up_drewN ?_ _) | (with_reducible refine up_drew ?_) | (with_reducible refine up_set ?_ (by first | (simp; done) | (simp; omega) | omega) _) | (refine up_trans ?_ (by with_reducible assumption))))).mono ?_); rintro e w0 ⟨rfl, hb0⟩; have k0_0 : w0.cell? ⟨w.heap.size, 0, none⟩ = some (.int .i64 X) := up_cell hb0 (by first | (with_reducible assumption) | (refine alloc_cell _ ?_; with_reducible assumption) | go_cell); have k0_1 : w0.cell? ⟨w.heap.size, 1, none⟩ = some (.int .i64 Y) := up_cell hb0 (by first | (with_reducible assumption) | (refine alloc_cell _ ?_; with_reducible assumption) | go_cell)) | (go_at_call 54; (with_reducible refine (unhide hQ _).mono ?_); rintro e w1 ⟨rfl, hb⟩))
    go_ret2
    exact ⟨rfl, (by repeat' (first | (with_reducible exact up_refl _) | (with_reducible assumption) | (with_reducible refine up_alloc ?_ _) | (with_reducible refine up_drewN ?_ _) | (with_reducible refine up_drew ?_) | (with_reducible refine up_set ?_ (by first | (simp; done) | (simp; omega) | omega) _) | (refine up_trans ?_ (by with_reducible assumption))))⟩
  · rw [if_pos rfl, if_pos rfl]
    have hT2 := hide (unhide hT rfl)
    clear hT
    by_cases cL : 0 ≤ L
    · rw [if_pos cL, if_pos cL]
      go_enter Try.func24, Try.ntmps24
      go_wp2_with (first | (go_at_call 26; (with_reducible refine (unhide hC _ (by repeat' (first | (with_reducible exact up_refl _) | (with_reducible assumption) | (with_reducible refine up_alloc ?_ _) | (with_reducible refine up_drewN ?_ _) | (with_reducible refine up_drew ?_) | (with_reducible refine up_set ?_ (by first | (simp; done) | (simp; omega) | omega) _) | (refine up_trans ?_ (by with_reducible assumption))))).mono ?_); rintro e w0 ⟨rfl, hb0⟩; have k0_0 : w0.cell? ⟨w.heap.size, 0, none⟩ = some (.int .i64 X) := up_cell hb0 (by first | (with_reducible assumption) | (refine alloc_cell _ ?_; with_reducible assumption) | go_cell); have k0_1 : w0.cell? ⟨w.heap.size, 1, none⟩ = some (.int .i64 Y) := up_cell hb0 (by first | (with_reducible assumption) | (refine alloc_cell _ ?_; with_reducible assumption) | go_cell)) | (go_at_call 54; (with_reducible refine (unhide hQ _).mono ?_); rintro e w1 ⟨rfl, hb⟩; have y0 := up_cell hb k0_0; have y1 := up_cell hb k0_1) | (go_at_call 57; (with_reducible refine (unhide hT2 _ (by repeat' (first | (with_reducible exact up_refl _) | (with_reducible assumption) | (with_reducible refine up_alloc ?_ _) | (with_reducible refine up_drewN ?_ _) | (with_reducible refine up_drew ?_) | (with_reducible refine up_set ?_ (by first | (simp; done) | (simp; omega) | omega) _) | (refine up_trans ?_ (by with_reducible assumption))))).mono ?_); rintro e w2 ⟨rfl, hb2⟩))
      go_ret2
      exact ⟨rfl, (by repeat' (first | (with_reducible exact up_refl _) | (with_reducible assumption) | (with_reducible refine up_alloc ?_ _) | (with_reducible refine up_drewN ?_ _) | (with_reducible refine up_drew ?_) | (with_reducible refine up_set ?_ (by first | (simp; done) | (simp; omega) | omega) _) | (refine up_trans ?_ (by with_reducible assumption))))⟩
    · rw [if_neg cL, if_neg cL]
      go_enter Try.func24, Try.ntmps24
      go_wp2_with (first | (go_at_call 26; (with_reducible refine (unhide hC _ (by repeat' (first | (with_reducible exact up_refl _) | (with_reducible assumption) | (with_reducible refine up_alloc ?_ _) | (with_reducible refine up_drewN ?_ _) | (with_reducible refine up_drew ?_) | (with_reducible refine up_set ?_ (by first | (simp; done) | (simp; omega) | omega) _) | (refine up_trans ?_ (by with_reducible assumption))))).mono ?_); rintro e w0 ⟨rfl, hb0⟩; have k0_0 : w0.cell? ⟨w.heap.size, 0, none⟩ = some (.int .i64 X) := up_cell hb0 (by first | (with_reducible assumption) | (refine alloc_cell _ ?_; with_reducible assumption) | go_cell); have k0_1 : w0.cell? ⟨w.heap.size, 1, none⟩ = some (.int .i64 Y) := up_cell hb0 (by first | (with_reducible assumption) | (refine alloc_cell _ ?_; with_reducible assumption) | go_cell)) | (go_at_call 54; (with_reducible refine (unhide hQ _).mono ?_); rintro e w1 ⟨rfl, hb⟩; have y0 := up_cell hb k0_0; have y1 := up_cell hb k0_1) | (go_at_call 57; (with_reducible refine (unhide hT2 _ (by repeat' (first | (with_reducible exact up_refl _) | (with_reducible assumption) | (with_reducible refine up_alloc ?_ _) | (with_reducible refine up_drewN ?_ _) | (with_reducible refine up_drew ?_) | (with_reducible refine up_set ?_ (by first | (simp; done) | (simp; omega) | omega) _) | (refine up_trans ?_ (by with_reducible assumption))))).mono ?_); rintro e w2 ⟨rfl, hb2⟩))
      go_ret2
      exact ⟨rfl, (by repeat' (first | (with_reducible exact up_refl _) | (with_reducible assumption) | (with_reducible refine up_alloc ?_ _) | (with_reducible refine up_drewN ?_ _) | (with_reducible refine up_drew ?_) | (with_reducible refine up_set ?_ (by first | (simp; done) | (simp; omega) | omega) _) | (refine up_trans ?_ (by with_reducible assumption))))⟩
end Go.Proofs.Ytgjcpgmnflpdkaa
