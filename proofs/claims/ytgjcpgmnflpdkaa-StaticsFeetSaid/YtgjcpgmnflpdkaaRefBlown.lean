/- The foot of a centre with wind: the document's own answers. -/
import Derived.Test.YtgjcpgmnflpdkaaRefFeet
namespace Go.Proofs.Ytgjcpgmnflpdkaa
open Go.RowKit Go.Proofs.Gn
set_option maxRecDepth 100000 in
set_option maxHeartbeats 8000000 in
theorem r_Blown (c0 c1 c2 sx sy ax ay wx wy h m : Int) (w : World) : Calls Try.prog 30 #[.agg #[.int .i64 c0, .int .i64 c1, .int .i64 c2], pt sx sy, pt ax ay, pt wx wy, .int .i64 h, .int .i64 m] w fun e w' => e = .returned (.tuple #[pt (blV c0 c1 c2 sx sy ax ay wx wy h m (ft c0 c2 sx ax + neV (wx * h) m)) (blV c0 c1 c2 sx sy ax ay wx wy h m (ft c1 c2 sy ay + neV (wy * h) m)), .int .i64 (blE c0 c1 c2 sx sy ax ay wx wy h m)]) ∧ Up w w' := by
  have h1 := hide (fun W => r_Foot c0 c1 c2 sx sy ax ay W)
  have hft := hide (fun (hb : lnB c0 c1 c2 sx sy ax ay = true) => (⟨(ft_bd (lnB_bd hb).1.1 (lnB_bd hb).1.2.2 (lnB_bd hb).2.1.1 (lnB_bd hb).2.2.1).2.2, (ft_bd (lnB_bd hb).1.2.1 (lnB_bd hb).1.2.2 (lnB_bd hb).2.1.2 (lnB_bd hb).2.2.2).2.2⟩ : (-393216 ≤ ft c0 c2 sx ax ∧ ft c0 c2 sx ax ≤ 393216) ∧ (-393216 ≤ ft c1 c2 sy ay ∧ ft c1 c2 sy ay ≤ 393216)))
  have hm := hide (fun (x : win m 1 16777216 = true) => (win_iff _ _ _).1 x)
  have H3 := hide (fun W : World => r_within wx (-1048576) 1048576 W)
  have H4 := hide (fun W : World => r_within wy (-1048576) 1048576 W)
  have H5 := hide (fun W : World => r_within h 0 131072 W)
  have H6 := hide (fun W : World => r_mass m W)
  have H7 := hide (fun a b W => r_near (wx * h) m a b W)
  have H8 := hide (fun a b W => r_near (wy * h) m a b W)
  have hbd := hide (fun a b c => blB_bd (wx := wx) (wy := wy) (h := h) (m := m) a b c)
  unfold blV blE blB
  unfold foV lnE at h1
  unfold msE at H6
  unfold slB at hbd ⊢
  generalize ft c0 c2 sx ax = a at *
  generalize ft c1 c2 sy ay = b at *
  generalize lnB c0 c1 c2 sx sy ax ay = B1 at *
  generalize win wx (-1048576) 1048576 = B2 at *
  generalize win wy (-1048576) 1048576 = B3 at *
  generalize win h 0 131072 = B4 at *
  generalize win m 1 16777216 = B5 at *
  generalize neV (wx * h) m = nx at *
  generalize neV (wy * h) m = ny at *
  cases B1
  · simp only [Bool.false_and, Bool.false_eq_true, if_false] at h1 ⊢
    clear hft hbd hm H3 H4 H5 H6 H7 H8
    go_enter Try.func30, Try.ntmps30
    go_upto_region 1 with fail
    refine at_wp (fun W0 hW0 => ?_)
    obtain ⟨C0, S0, A0, D0, R0⟩ := bx_five w [.int .i64 c0, .int .i64 c1, .int .i64 c2] [.int .i64 sx, .int .i64 sy] [.int .i64 ax, .int .i64 ay] [.int .i64 wx, .int .i64 wy] [.int .i64 0, .int .i64 0] 30 46 46 46 29
    have U0 : Up w W0 := by rw [hW0]; exact (by repeat' (first | (with_reducible exact up_refl _) | (with_reducible assumption) | (with_reducible refine up_alloc ?_ _) | (with_reducible refine up_drewN ?_ _) | (with_reducible refine up_drew ?_) | (with_reducible refine up_set ?_ (by first | (simp; done) | (simp; omega) | omega) _) | (refine up_trans ?_ (by with_reducible assumption))))
    replace C0 : Bx W0 w.heap.size [.int .i64 c0, .int .i64 c1, .int .i64 c2] := by rw [hW0]; exact C0
    replace S0 : Bx W0 (w.heap.size + 1) [.int .i64 sx, .int .i64 sy] := by rw [hW0]; exact S0
    replace A0 : Bx W0 (w.heap.size + 1 + 1) [.int .i64 ax, .int .i64 ay] := by rw [hW0]; exact A0
    replace D0 : Bx W0 (w.heap.size + 1 + 1 + 1) [.int .i64 wx, .int .i64 wy] := by rw [hW0]; exact D0
    replace R0 : Bx W0 (w.heap.size + 1 + 1 + 1 + 1) [.int .i64 0, .int .i64 0] := by rw [hW0]; exact R0
    clear hW0
    obtain ⟨x0, x1, x2⟩ := bx3 C0
    obtain ⟨x3, x4⟩ := bx2 S0
    obtain ⟨x5, x6⟩ := bx2 A0
    go_upto_region 2 with (go_at_call 28; (with_reducible refine (unhide h1 _).mono ?_); rintro e w1 ⟨rfl, hb1⟩)
    refine at_wp (fun W hW => ?_)
    have F9 : Bx W w1.heap.size [.int .i64 0, .int .i64 0] := by rw [hW]; exact bx_new w1 _ 29
    have D9 : Bx W (w.heap.size + 1 + 1 + 1) [.int .i64 wx, .int .i64 wy] := by rw [hW]; exact bx_alloc (bx_up D0 hb1) _
    have R9 : Bx W (w.heap.size + 1 + 1 + 1 + 1) [.int .i64 0, .int .i64 0] := by rw [hW]; exact bx_alloc (bx_up R0 hb1) _
    have U9 : Up w W := by rw [hW]; exact up_alloc (up_trans U0 hb1) _
    have hlt := bx_lt (bx_up R0 hb1) (by simp)
    clear hW C0 S0 A0 D0 R0 x0 x1 x2 x3 x4 x5 x6 U0 hb1
    obtain ⟨G, hG⟩ : ∃ G, w1.heap.size = G := ⟨_, rfl⟩
    rw [hG] at F9 hlt ⊢
    have hne : G ≠ w.heap.size + 1 + 1 + 1 + 1 := by omega
    clear hG
    obtain ⟨q0, q1⟩ := bx2 F9
    obtain ⟨q2, q3⟩ := bx2 D9
    obtain ⟨q4, q5⟩ := bx2 R9
    obtain ⟨q6, q7⟩ := bxf2 R9
    go_wp2_with fail
    obtain ⟨W9, hW9⟩ : ∃ W9 : World, W9 = ((W.setCell ⟨w.heap.size + 1 + 1 + 1 + 1, 0, none⟩ (.int .i64 0)).setCell ⟨w.heap.size + 1 + 1 + 1 + 1, 1, none⟩ (.int .i64 0)) := ⟨_, rfl⟩
    rw [← hW9]
    have B9 : Bx W9 (w.heap.size + 1 + 1 + 1 + 1) [.int .i64 0, .int .i64 0] := by rw [hW9]; exact bx_set (bx_set R9 0 _) 1 _
    have U10 : Up w W9 := by rw [hW9]; exact (by repeat' (first | (with_reducible exact up_refl _) | (with_reducible assumption) | (with_reducible refine up_alloc ?_ _) | (with_reducible refine up_drewN ?_ _) | (with_reducible refine up_drew ?_) | (with_reducible refine up_set ?_ (by first | (simp; done) | (simp; omega) | omega) _) | (refine up_trans ?_ (by with_reducible assumption))))
    clear hW9
    obtain ⟨p0, p1⟩ := bx2 B9
    refine bodyPost_ret (v := .tuple #[pt 0 0, .int .i64 3]) (by simp [results, Try.results30, go_sem, p0, p1]) rfl ⟨rfl, U10⟩
  simp only [Bool.true_and, if_true] at h1 ⊢
  obtain ⟨⟨f1, f2⟩, f3, f4⟩ := unhide hft rfl
  clear hft
  cases B2
  · simp only [Bool.false_and, Bool.false_eq_true, if_false] at ⊢
    clear hbd hm H4 H5 H6 H7 H8
    go_enter Try.func30, Try.ntmps30
    go_upto_region 1 with fail
    refine at_wp (fun W0 hW0 => ?_)
    obtain ⟨C0, S0, A0, D0, R0⟩ := bx_five w [.int .i64 c0, .int .i64 c1, .int .i64 c2] [.int .i64 sx, .int .i64 sy] [.int .i64 ax, .int .i64 ay] [.int .i64 wx, .int .i64 wy] [.int .i64 0, .int .i64 0] 30 46 46 46 29
    have U0 : Up w W0 := by rw [hW0]; exact (by repeat' (first | (with_reducible exact up_refl _) | (with_reducible assumption) | (with_reducible refine up_alloc ?_ _) | (with_reducible refine up_drewN ?_ _) | (with_reducible refine up_drew ?_) | (with_reducible refine up_set ?_ (by first | (simp; done) | (simp; omega) | omega) _) | (refine up_trans ?_ (by with_reducible assumption))))
    replace C0 : Bx W0 w.heap.size [.int .i64 c0, .int .i64 c1, .int .i64 c2] := by rw [hW0]; exact C0
    replace S0 : Bx W0 (w.heap.size + 1) [.int .i64 sx, .int .i64 sy] := by rw [hW0]; exact S0
    replace A0 : Bx W0 (w.heap.size + 1 + 1) [.int .i64 ax, .int .i64 ay] := by rw [hW0]; exact A0
    replace D0 : Bx W0 (w.heap.size + 1 + 1 + 1) [.int .i64 wx, .int .i64 wy] := by rw [hW0]; exact D0
    replace R0 : Bx W0 (w.heap.size + 1 + 1 + 1 + 1) [.int .i64 0, .int .i64 0] := by rw [hW0]; exact R0
    clear hW0
    obtain ⟨x0, x1, x2⟩ := bx3 C0
    obtain ⟨x3, x4⟩ := bx2 S0
    obtain ⟨x5, x6⟩ := bx2 A0
    go_upto_region 2 with (go_at_call 28; (with_reducible refine (unhide h1 _).mono ?_); rintro e w1 ⟨rfl, hb1⟩)
    refine at_wp (fun W hW => ?_)
    have F9 : Bx W w1.heap.size [.int .i64 a, .int .i64 b] := by rw [hW]; exact bx_new w1 _ 29
    have D9 : Bx W (w.heap.size + 1 + 1 + 1) [.int .i64 wx, .int .i64 wy] := by rw [hW]; exact bx_alloc (bx_up D0 hb1) _
    have R9 : Bx W (w.heap.size + 1 + 1 + 1 + 1) [.int .i64 0, .int .i64 0] := by rw [hW]; exact bx_alloc (bx_up R0 hb1) _
    have U9 : Up w W := by rw [hW]; exact up_alloc (up_trans U0 hb1) _
    have hlt := bx_lt (bx_up R0 hb1) (by simp)
    clear hW C0 S0 A0 D0 R0 x0 x1 x2 x3 x4 x5 x6 U0 hb1
    obtain ⟨G, hG⟩ : ∃ G, w1.heap.size = G := ⟨_, rfl⟩
    rw [hG] at F9 hlt ⊢
    have hne : G ≠ w.heap.size + 1 + 1 + 1 + 1 := by omega
    clear hG
    obtain ⟨q0, q1⟩ := bx2 F9
    obtain ⟨q2, q3⟩ := bx2 D9
    obtain ⟨q4, q5⟩ := bx2 R9
    obtain ⟨q6, q7⟩ := bxf2 R9
    go_wp2_with (first | (go_at_call 69; (with_reducible refine (unhide H3 _).mono ?_); rintro e w3 ⟨rfl, rfl⟩))
    obtain ⟨W9, hW9⟩ : ∃ W9 : World, W9 = ((W.setCell ⟨w.heap.size + 1 + 1 + 1 + 1, 0, none⟩ (.int .i64 0)).setCell ⟨w.heap.size + 1 + 1 + 1 + 1, 1, none⟩ (.int .i64 0)) := ⟨_, rfl⟩
    rw [← hW9]
    have B9 : Bx W9 (w.heap.size + 1 + 1 + 1 + 1) [.int .i64 0, .int .i64 0] := by rw [hW9]; exact bx_set (bx_set R9 0 _) 1 _
    have U10 : Up w W9 := by rw [hW9]; exact (by repeat' (first | (with_reducible exact up_refl _) | (with_reducible assumption) | (with_reducible refine up_alloc ?_ _) | (with_reducible refine up_drewN ?_ _) | (with_reducible refine up_drew ?_) | (with_reducible refine up_set ?_ (by first | (simp; done) | (simp; omega) | omega) _) | (refine up_trans ?_ (by with_reducible assumption))))
    clear hW9
    obtain ⟨p0, p1⟩ := bx2 B9
    refine bodyPost_ret (v := .tuple #[pt 0 0, .int .i64 3]) (by simp [results, Try.results30, go_sem, p0, p1]) rfl ⟨rfl, U10⟩
  simp only [Bool.true_and] at hbd ⊢
  cases B3
  · simp only [Bool.false_and, Bool.false_eq_true, if_false] at ⊢
    clear hbd hm H5 H6 H7 H8
    go_enter Try.func30, Try.ntmps30
    go_upto_region 1 with fail
    refine at_wp (fun W0 hW0 => ?_)
    obtain ⟨C0, S0, A0, D0, R0⟩ := bx_five w [.int .i64 c0, .int .i64 c1, .int .i64 c2] [.int .i64 sx, .int .i64 sy] [.int .i64 ax, .int .i64 ay] [.int .i64 wx, .int .i64 wy] [.int .i64 0, .int .i64 0] 30 46 46 46 29
    have U0 : Up w W0 := by rw [hW0]; exact (by repeat' (first | (with_reducible exact up_refl _) | (with_reducible assumption) | (with_reducible refine up_alloc ?_ _) | (with_reducible refine up_drewN ?_ _) | (with_reducible refine up_drew ?_) | (with_reducible refine up_set ?_ (by first | (simp; done) | (simp; omega) | omega) _) | (refine up_trans ?_ (by with_reducible assumption))))
    replace C0 : Bx W0 w.heap.size [.int .i64 c0, .int .i64 c1, .int .i64 c2] := by rw [hW0]; exact C0
    replace S0 : Bx W0 (w.heap.size + 1) [.int .i64 sx, .int .i64 sy] := by rw [hW0]; exact S0
    replace A0 : Bx W0 (w.heap.size + 1 + 1) [.int .i64 ax, .int .i64 ay] := by rw [hW0]; exact A0
    replace D0 : Bx W0 (w.heap.size + 1 + 1 + 1) [.int .i64 wx, .int .i64 wy] := by rw [hW0]; exact D0
    replace R0 : Bx W0 (w.heap.size + 1 + 1 + 1 + 1) [.int .i64 0, .int .i64 0] := by rw [hW0]; exact R0
    clear hW0
    obtain ⟨x0, x1, x2⟩ := bx3 C0
    obtain ⟨x3, x4⟩ := bx2 S0
    obtain ⟨x5, x6⟩ := bx2 A0
    go_upto_region 2 with (go_at_call 28; (with_reducible refine (unhide h1 _).mono ?_); rintro e w1 ⟨rfl, hb1⟩)
    refine at_wp (fun W hW => ?_)
    have F9 : Bx W w1.heap.size [.int .i64 a, .int .i64 b] := by rw [hW]; exact bx_new w1 _ 29
    have D9 : Bx W (w.heap.size + 1 + 1 + 1) [.int .i64 wx, .int .i64 wy] := by rw [hW]; exact bx_alloc (bx_up D0 hb1) _
    have R9 : Bx W (w.heap.size + 1 + 1 + 1 + 1) [.int .i64 0, .int .i64 0] := by rw [hW]; exact bx_alloc (bx_up R0 hb1) _
    have U9 : Up w W := by rw [hW]; exact up_alloc (up_trans U0 hb1) _
    have hlt := bx_lt (bx_up R0 hb1) (by simp)
    clear hW C0 S0 A0 D0 R0 x0 x1 x2 x3 x4 x5 x6 U0 hb1
    obtain ⟨G, hG⟩ : ∃ G, w1.heap.size = G := ⟨_, rfl⟩
    rw [hG] at F9 hlt ⊢
    have hne : G ≠ w.heap.size + 1 + 1 + 1 + 1 := by omega
    clear hG
    obtain ⟨q0, q1⟩ := bx2 F9
    obtain ⟨q2, q3⟩ := bx2 D9
    obtain ⟨q4, q5⟩ := bx2 R9
    obtain ⟨q6, q7⟩ := bxf2 R9
    go_wp2_with (first | (go_at_call 69; (with_reducible refine (unhide H3 _).mono ?_); rintro e w3 ⟨rfl, rfl⟩) | (go_at_call 69; (with_reducible refine (unhide H4 _).mono ?_); rintro e w4 ⟨rfl, rfl⟩))
    obtain ⟨W9, hW9⟩ : ∃ W9 : World, W9 = ((W.setCell ⟨w.heap.size + 1 + 1 + 1 + 1, 0, none⟩ (.int .i64 0)).setCell ⟨w.heap.size + 1 + 1 + 1 + 1, 1, none⟩ (.int .i64 0)) := ⟨_, rfl⟩
    rw [← hW9]
    have B9 : Bx W9 (w.heap.size + 1 + 1 + 1 + 1) [.int .i64 0, .int .i64 0] := by rw [hW9]; exact bx_set (bx_set R9 0 _) 1 _
    have U10 : Up w W9 := by rw [hW9]; exact (by repeat' (first | (with_reducible exact up_refl _) | (with_reducible assumption) | (with_reducible refine up_alloc ?_ _) | (with_reducible refine up_drewN ?_ _) | (with_reducible refine up_drew ?_) | (with_reducible refine up_set ?_ (by first | (simp; done) | (simp; omega) | omega) _) | (refine up_trans ?_ (by with_reducible assumption))))
    clear hW9
    obtain ⟨p0, p1⟩ := bx2 B9
    refine bodyPost_ret (v := .tuple #[pt 0 0, .int .i64 3]) (by simp [results, Try.results30, go_sem, p0, p1]) rfl ⟨rfl, U10⟩
  simp only [Bool.true_and] at hbd ⊢
  cases B4
  · simp only [Bool.false_and, Bool.false_eq_true, if_false] at ⊢
    clear hbd hm H6 H7 H8
    go_enter Try.func30, Try.ntmps30
    go_upto_region 1 with fail
    refine at_wp (fun W0 hW0 => ?_)
    obtain ⟨C0, S0, A0, D0, R0⟩ := bx_five w [.int .i64 c0, .int .i64 c1, .int .i64 c2] [.int .i64 sx, .int .i64 sy] [.int .i64 ax, .int .i64 ay] [.int .i64 wx, .int .i64 wy] [.int .i64 0, .int .i64 0] 30 46 46 46 29
    have U0 : Up w W0 := by rw [hW0]; exact (by repeat' (first | (with_reducible exact up_refl _) | (with_reducible assumption) | (with_reducible refine up_alloc ?_ _) | (with_reducible refine up_drewN ?_ _) | (with_reducible refine up_drew ?_) | (with_reducible refine up_set ?_ (by first | (simp; done) | (simp; omega) | omega) _) | (refine up_trans ?_ (by with_reducible assumption))))
    replace C0 : Bx W0 w.heap.size [.int .i64 c0, .int .i64 c1, .int .i64 c2] := by rw [hW0]; exact C0
    replace S0 : Bx W0 (w.heap.size + 1) [.int .i64 sx, .int .i64 sy] := by rw [hW0]; exact S0
    replace A0 : Bx W0 (w.heap.size + 1 + 1) [.int .i64 ax, .int .i64 ay] := by rw [hW0]; exact A0
    replace D0 : Bx W0 (w.heap.size + 1 + 1 + 1) [.int .i64 wx, .int .i64 wy] := by rw [hW0]; exact D0
    replace R0 : Bx W0 (w.heap.size + 1 + 1 + 1 + 1) [.int .i64 0, .int .i64 0] := by rw [hW0]; exact R0
    clear hW0
    obtain ⟨x0, x1, x2⟩ := bx3 C0
    obtain ⟨x3, x4⟩ := bx2 S0
    obtain ⟨x5, x6⟩ := bx2 A0
    go_upto_region 2 with (go_at_call 28; (with_reducible refine (unhide h1 _).mono ?_); rintro e w1 ⟨rfl, hb1⟩)
    refine at_wp (fun W hW => ?_)
    have F9 : Bx W w1.heap.size [.int .i64 a, .int .i64 b] := by rw [hW]; exact bx_new w1 _ 29
    have D9 : Bx W (w.heap.size + 1 + 1 + 1) [.int .i64 wx, .int .i64 wy] := by rw [hW]; exact bx_alloc (bx_up D0 hb1) _
    have R9 : Bx W (w.heap.size + 1 + 1 + 1 + 1) [.int .i64 0, .int .i64 0] := by rw [hW]; exact bx_alloc (bx_up R0 hb1) _
    have U9 : Up w W := by rw [hW]; exact up_alloc (up_trans U0 hb1) _
    have hlt := bx_lt (bx_up R0 hb1) (by simp)
    clear hW C0 S0 A0 D0 R0 x0 x1 x2 x3 x4 x5 x6 U0 hb1
    obtain ⟨G, hG⟩ : ∃ G, w1.heap.size = G := ⟨_, rfl⟩
    rw [hG] at F9 hlt ⊢
    have hne : G ≠ w.heap.size + 1 + 1 + 1 + 1 := by omega
    clear hG
    obtain ⟨q0, q1⟩ := bx2 F9
    obtain ⟨q2, q3⟩ := bx2 D9
    obtain ⟨q4, q5⟩ := bx2 R9
    obtain ⟨q6, q7⟩ := bxf2 R9
    go_wp2_with (first | (go_at_call 69; (with_reducible refine (unhide H3 _).mono ?_); rintro e w3 ⟨rfl, rfl⟩) | (go_at_call 69; (with_reducible refine (unhide H4 _).mono ?_); rintro e w4 ⟨rfl, rfl⟩) | (go_at_call 69; (with_reducible refine (unhide H5 _).mono ?_); rintro e w5 ⟨rfl, rfl⟩))
    obtain ⟨W9, hW9⟩ : ∃ W9 : World, W9 = ((W.setCell ⟨w.heap.size + 1 + 1 + 1 + 1, 0, none⟩ (.int .i64 0)).setCell ⟨w.heap.size + 1 + 1 + 1 + 1, 1, none⟩ (.int .i64 0)) := ⟨_, rfl⟩
    rw [← hW9]
    have B9 : Bx W9 (w.heap.size + 1 + 1 + 1 + 1) [.int .i64 0, .int .i64 0] := by rw [hW9]; exact bx_set (bx_set R9 0 _) 1 _
    have U10 : Up w W9 := by rw [hW9]; exact (by repeat' (first | (with_reducible exact up_refl _) | (with_reducible assumption) | (with_reducible refine up_alloc ?_ _) | (with_reducible refine up_drewN ?_ _) | (with_reducible refine up_drew ?_) | (with_reducible refine up_set ?_ (by first | (simp; done) | (simp; omega) | omega) _) | (refine up_trans ?_ (by with_reducible assumption))))
    clear hW9
    obtain ⟨p0, p1⟩ := bx2 B9
    refine bodyPost_ret (v := .tuple #[pt 0 0, .int .i64 3]) (by simp [results, Try.results30, go_sem, p0, p1]) rfl ⟨rfl, U10⟩
  simp only [Bool.true_and] at hbd ⊢
  cases B5
  · simp only [Bool.false_eq_true, if_false] at H6 ⊢
    clear hbd hm H7 H8
    go_enter Try.func30, Try.ntmps30
    go_upto_region 1 with fail
    refine at_wp (fun W0 hW0 => ?_)
    obtain ⟨C0, S0, A0, D0, R0⟩ := bx_five w [.int .i64 c0, .int .i64 c1, .int .i64 c2] [.int .i64 sx, .int .i64 sy] [.int .i64 ax, .int .i64 ay] [.int .i64 wx, .int .i64 wy] [.int .i64 0, .int .i64 0] 30 46 46 46 29
    have U0 : Up w W0 := by rw [hW0]; exact (by repeat' (first | (with_reducible exact up_refl _) | (with_reducible assumption) | (with_reducible refine up_alloc ?_ _) | (with_reducible refine up_drewN ?_ _) | (with_reducible refine up_drew ?_) | (with_reducible refine up_set ?_ (by first | (simp; done) | (simp; omega) | omega) _) | (refine up_trans ?_ (by with_reducible assumption))))
    replace C0 : Bx W0 w.heap.size [.int .i64 c0, .int .i64 c1, .int .i64 c2] := by rw [hW0]; exact C0
    replace S0 : Bx W0 (w.heap.size + 1) [.int .i64 sx, .int .i64 sy] := by rw [hW0]; exact S0
    replace A0 : Bx W0 (w.heap.size + 1 + 1) [.int .i64 ax, .int .i64 ay] := by rw [hW0]; exact A0
    replace D0 : Bx W0 (w.heap.size + 1 + 1 + 1) [.int .i64 wx, .int .i64 wy] := by rw [hW0]; exact D0
    replace R0 : Bx W0 (w.heap.size + 1 + 1 + 1 + 1) [.int .i64 0, .int .i64 0] := by rw [hW0]; exact R0
    clear hW0
    obtain ⟨x0, x1, x2⟩ := bx3 C0
    obtain ⟨x3, x4⟩ := bx2 S0
    obtain ⟨x5, x6⟩ := bx2 A0
    go_upto_region 2 with (go_at_call 28; (with_reducible refine (unhide h1 _).mono ?_); rintro e w1 ⟨rfl, hb1⟩)
    refine at_wp (fun W hW => ?_)
    have F9 : Bx W w1.heap.size [.int .i64 a, .int .i64 b] := by rw [hW]; exact bx_new w1 _ 29
    have D9 : Bx W (w.heap.size + 1 + 1 + 1) [.int .i64 wx, .int .i64 wy] := by rw [hW]; exact bx_alloc (bx_up D0 hb1) _
    have R9 : Bx W (w.heap.size + 1 + 1 + 1 + 1) [.int .i64 0, .int .i64 0] := by rw [hW]; exact bx_alloc (bx_up R0 hb1) _
    have U9 : Up w W := by rw [hW]; exact up_alloc (up_trans U0 hb1) _
    have hlt := bx_lt (bx_up R0 hb1) (by simp)
    clear hW C0 S0 A0 D0 R0 x0 x1 x2 x3 x4 x5 x6 U0 hb1
    obtain ⟨G, hG⟩ : ∃ G, w1.heap.size = G := ⟨_, rfl⟩
    rw [hG] at F9 hlt ⊢
    have hne : G ≠ w.heap.size + 1 + 1 + 1 + 1 := by omega
    clear hG
    obtain ⟨q0, q1⟩ := bx2 F9
    obtain ⟨q2, q3⟩ := bx2 D9
    obtain ⟨q4, q5⟩ := bx2 R9
    obtain ⟨q6, q7⟩ := bxf2 R9
    go_wp2_with (first | (go_at_call 69; (with_reducible refine (unhide H3 _).mono ?_); rintro e w3 ⟨rfl, rfl⟩) | (go_at_call 69; (with_reducible refine (unhide H4 _).mono ?_); rintro e w4 ⟨rfl, rfl⟩) | (go_at_call 69; (with_reducible refine (unhide H5 _).mono ?_); rintro e w5 ⟨rfl, rfl⟩) | (go_at_call 70; (with_reducible refine (unhide H6 _).mono ?_); rintro e w6 ⟨rfl, rfl⟩))
    obtain ⟨W9, hW9⟩ : ∃ W9 : World, W9 = ((W.setCell ⟨w.heap.size + 1 + 1 + 1 + 1, 0, none⟩ (.int .i64 0)).setCell ⟨w.heap.size + 1 + 1 + 1 + 1, 1, none⟩ (.int .i64 0)) := ⟨_, rfl⟩
    rw [← hW9]
    have B9 : Bx W9 (w.heap.size + 1 + 1 + 1 + 1) [.int .i64 0, .int .i64 0] := by rw [hW9]; exact bx_set (bx_set R9 0 _) 1 _
    have U10 : Up w W9 := by rw [hW9]; exact (by repeat' (first | (with_reducible exact up_refl _) | (with_reducible assumption) | (with_reducible refine up_alloc ?_ _) | (with_reducible refine up_drewN ?_ _) | (with_reducible refine up_drew ?_) | (with_reducible refine up_set ?_ (by first | (simp; done) | (simp; omega) | omega) _) | (refine up_trans ?_ (by with_reducible assumption))))
    clear hW9
    obtain ⟨p0, p1⟩ := bx2 B9
    refine bodyPost_ret (v := .tuple #[pt 0 0, .int .i64 3]) (by simp [results, Try.results30, go_sem, p0, p1]) rfl ⟨rfl, U10⟩
  · simp only [if_true] at H6 ⊢
    obtain ⟨⟨⟨g1, g2⟩, g3, g4⟩, ⟨g5, g6⟩, g7, g8⟩ := unhide hbd (by first | rfl | trivial) (by first | rfl | trivial) (by first | rfl | trivial)
    have h9 := hide (unhide H7 ⟨g1, g2⟩ (unhide hm (by first | rfl | trivial)))
    have h10 := hide (unhide H8 ⟨g5, g6⟩ (unhide hm (by first | rfl | trivial)))
    clear H7 H8 hm
    have e1 : IntKind.i64.wrap (wx * h) = wx * h := IntWalk.i64_in _ ⟨by omega, by omega⟩
    have e2 : IntKind.i64.wrap (wy * h) = wy * h := IntWalk.i64_in _ ⟨by omega, by omega⟩
    have e3 : IntKind.i64.wrap (a + nx) = a + nx := IntWalk.i64_in _ ⟨by omega, by omega⟩
    have e4 : IntKind.i64.wrap (b + ny) = b + ny := IntWalk.i64_in _ ⟨by omega, by omega⟩
    clear hbd f1 f2 f3 f4 g1 g2 g3 g4 g5 g6 g7 g8
    obtain ⟨ox, hox⟩ : ∃ n, a + nx = n := ⟨_, rfl⟩
    obtain ⟨oy, hoy⟩ : ∃ n, b + ny = n := ⟨_, rfl⟩
    obtain ⟨px, hpx⟩ : ∃ n, wx * h = n := ⟨_, rfl⟩
    obtain ⟨py, hpy⟩ : ∃ n, wy * h = n := ⟨_, rfl⟩
    rw [hox] at e3 ⊢
    rw [hoy] at e4 ⊢
    rw [hpx] at h9
    rw [hpy] at h10
    have e5 : IntKind.i64.wrap (wx * h) = px := by rw [e1]; exact hpx
    have e6 : IntKind.i64.wrap (wy * h) = py := by rw [e2]; exact hpy
    have e7 : IntKind.i64.wrap (a + nx) = ox := by rw [hox]; exact e3
    have e8 : IntKind.i64.wrap (b + ny) = oy := by rw [hoy]; exact e4
    clear e1 e2 e3 e4 hox hoy hpx hpy
    go_enter Try.func30, Try.ntmps30
    go_upto_region 1 with fail
    refine at_wp (fun W0 hW0 => ?_)
    obtain ⟨C0, S0, A0, D0, R0⟩ := bx_five w [.int .i64 c0, .int .i64 c1, .int .i64 c2] [.int .i64 sx, .int .i64 sy] [.int .i64 ax, .int .i64 ay] [.int .i64 wx, .int .i64 wy] [.int .i64 0, .int .i64 0] 30 46 46 46 29
    have U0 : Up w W0 := by rw [hW0]; exact (by repeat' (first | (with_reducible exact up_refl _) | (with_reducible assumption) | (with_reducible refine up_alloc ?_ _) | (with_reducible refine up_drewN ?_ _) | (with_reducible refine up_drew ?_) | (with_reducible refine up_set ?_ (by first | (simp; done) | (simp; omega) | omega) _) | (refine up_trans ?_ (by with_reducible assumption))))
    replace C0 : Bx W0 w.heap.size [.int .i64 c0, .int .i64 c1, .int .i64 c2] := by rw [hW0]; exact C0
    replace S0 : Bx W0 (w.heap.size + 1) [.int .i64 sx, .int .i64 sy] := by rw [hW0]; exact S0
    replace A0 : Bx W0 (w.heap.size + 1 + 1) [.int .i64 ax, .int .i64 ay] := by rw [hW0]; exact A0
    replace D0 : Bx W0 (w.heap.size + 1 + 1 + 1) [.int .i64 wx, .int .i64 wy] := by rw [hW0]; exact D0
    replace R0 : Bx W0 (w.heap.size + 1 + 1 + 1 + 1) [.int .i64 0, .int .i64 0] := by rw [hW0]; exact R0
    clear hW0
    obtain ⟨x0, x1, x2⟩ := bx3 C0
    obtain ⟨x3, x4⟩ := bx2 S0
    obtain ⟨x5, x6⟩ := bx2 A0
    go_upto_region 2 with (go_at_call 28; (with_reducible refine (unhide h1 _).mono ?_); rintro e w1 ⟨rfl, hb1⟩)
    refine at_wp (fun W hW => ?_)
    have F9 : Bx W w1.heap.size [.int .i64 a, .int .i64 b] := by rw [hW]; exact bx_new w1 _ 29
    have D9 : Bx W (w.heap.size + 1 + 1 + 1) [.int .i64 wx, .int .i64 wy] := by rw [hW]; exact bx_alloc (bx_up D0 hb1) _
    have R9 : Bx W (w.heap.size + 1 + 1 + 1 + 1) [.int .i64 0, .int .i64 0] := by rw [hW]; exact bx_alloc (bx_up R0 hb1) _
    have U9 : Up w W := by rw [hW]; exact up_alloc (up_trans U0 hb1) _
    have hlt := bx_lt (bx_up R0 hb1) (by simp)
    clear hW C0 S0 A0 D0 R0 x0 x1 x2 x3 x4 x5 x6 U0 hb1
    obtain ⟨G, hG⟩ : ∃ G, w1.heap.size = G := ⟨_, rfl⟩
    rw [hG] at F9 hlt ⊢
    have hne : G ≠ w.heap.size + 1 + 1 + 1 + 1 := by omega
    clear hG
    obtain ⟨q0, q1⟩ := bx2 F9
    obtain ⟨q2, q3⟩ := bx2 D9
    obtain ⟨q4, q5⟩ := bx2 R9
    obtain ⟨q6, q7⟩ := bxf2 R9
    go_upto_region 6 with (first | (go_at_call 69; (with_reducible refine (unhide H3 _).mono ?_); rintro e w3 ⟨rfl, rfl⟩) | (go_at_call 69; (with_reducible refine (unhide H4 _).mono ?_); rintro e w4 ⟨rfl, rfl⟩) | (go_at_call 69; (with_reducible refine (unhide H5 _).mono ?_); rintro e w5 ⟨rfl, rfl⟩) | (go_at_call 70; (with_reducible refine (unhide H6 _).mono ?_); rintro e w6 ⟨rfl, rfl⟩))
    go_region_held3 (fun wx' => wx'.cell? ⟨G, 0, none⟩ = some (.int .i64 a) ∧ wx'.cell? ⟨G, 1, none⟩ = some (.int .i64 b) ∧ wx'.cell? ⟨w.heap.size + 1 + 1 + 1, 0, none⟩ = some (.int .i64 wx) ∧ wx'.cell? ⟨w.heap.size + 1 + 1 + 1, 1, none⟩ = some (.int .i64 wy)) ((first | (exact ⟨by go_cell, by go_cell, by go_cell, by go_cell⟩) | (with_reducible assumption)))
      (first | (go_at_call 66; (with_reducible refine (unhide h9 _).mono ?_); rintro e w7 ⟨rfl, rfl⟩) | (go_at_call 66; (with_reducible refine (unhide h10 _).mono ?_); rintro e w7 ⟨rfl, rfl⟩))
    all_goals
      refine at_x (fun W9 hW9 => ?_)
      have B9 : Bx W9 (w.heap.size + 1 + 1 + 1 + 1) [.int .i64 ox, .int .i64 oy] := by rw [hW9]; exact bx_drew (bx_set (bx_set R9 0 _) 1 _)
      have U10 : Up w W9 := by rw [hW9]; exact (by repeat' (first | (with_reducible exact up_refl _) | (with_reducible assumption) | (with_reducible refine up_alloc ?_ _) | (with_reducible refine up_drewN ?_ _) | (with_reducible refine up_drew ?_) | (with_reducible refine up_set ?_ (by first | (simp; done) | (simp; omega) | omega) _) | (refine up_trans ?_ (by with_reducible assumption))))
      clear hW9 R9 F9 D9 U9 q0 q1 q2 q3 q4 q5 q6 q7
      obtain ⟨p0, p1⟩ := bx2 B9
      go_wp2_with fail
      refine bodyPost_ret (v := .tuple #[pt ox oy, .int .i64 0]) (by simp [results, Try.results30, go_sem, p0, p1]) rfl ⟨rfl, U10⟩
end Go.Proofs.Ytgjcpgmnflpdkaa
