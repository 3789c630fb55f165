/- The foot of a centre: the document's own answers. -/
import Derived.Test.YtgfehjhngmabeaaFeetB
import Derived.Test.YtgfehjhngmabeaaRefOut
namespace Go.Proofs.Ytgfehjhngmabeaa
open Go.RowKit Go.Proofs.Gn
theorem ne_near {n d : Int} (hn : -137438953472 ≤ n ∧ n ≤ 137438953472) (hd : 1 ≤ d ∧ d ≤ 16777216) : neV n d = (2 * n + d) / (2 * d) := by
  unfold neV
  have : inQ n d = true := by unfold inQ; rw [decide_eq_true_iff]; omega
  rw [this]
  simp only [if_true]
  unfold near
  rfl
theorem r_near (n d : Int) (hn : -137438953472 ≤ n ∧ n ≤ 137438953472) (hd : 1 ≤ d ∧ d ≤ 16777216) (w : World) : Calls Try.prog 102 #[.int .i64 n, .int .i64 d] w fun e w' => e = .returned (.int .i64 (neV n d)) ∧ w = w' := by
  rw [ne_near hn hd]
  have H := hide (fun W => r_Floor (2 * n + d) (2 * d) W (by omega) (by omega) (by omega) (by omega))
  obtain ⟨q, hq⟩ : ∃ q, (2 * n + d) / (2 * d) = q := ⟨_, rfl⟩
  rw [hq] at H ⊢
  clear hq
  obtain ⟨n1, n2⟩ := hn
  obtain ⟨d1, d2⟩ := hd
  go_enter Try.func102, Try.ntmps102
  go_wp2_with (go_at_call 99; (with_reducible refine (unhide H _).mono ?_); rintro e w1 ⟨rfl, rfl⟩)
  go_ret
  exact ⟨rfl, rfl⟩
theorem r_slope (X Y : Int) (w : World) : Calls Try.prog 101 #[pt X Y] w fun e w' => e = .returned (.int .i64 (if slB X Y 1000 then 0 else 3)) ∧ Up w w' := by
  have H1 : ∀ W : World, Calls Try.prog 50 #[.int .i64 X, .int .i64 (-1000), .int .i64 1000] W fun e w' => e = .returned (.bool (win X (-1000) 1000)) ∧ W = w' := fun W => r_within _ _ _ W
  have H2 : ∀ W : World, Calls Try.prog 50 #[.int .i64 Y, .int .i64 (-1000), .int .i64 1000] W fun e w' => e = .returned (.bool (win Y (-1000) 1000)) ∧ W = w' := fun W => r_within _ _ _ W
  unfold slB
  generalize win X (-1000) 1000 = b1 at *
  generalize win Y (-1000) 1000 = b2 at *
  have h1 := hide H1
  have h2 := hide H2
  clear H1 H2
  cases b1
  · show Calls Try.prog 101 #[pt X Y] w fun e w' => e = .returned (.int .i64 3) ∧ Up w w'
    go_enter Try.func101, Try.ntmps101
    go_wp2_with (first | (go_at_call 50; (with_reducible refine (unhide h1 _).mono ?_); rintro e w1 ⟨rfl, rfl⟩) | (go_at_call 50; (with_reducible refine (unhide h2 _).mono ?_); rintro e w1 ⟨rfl, rfl⟩))
    go_ret
    exact ⟨rfl, (by repeat' (first | (with_reducible exact up_refl _) | (with_reducible assumption) | (with_reducible refine up_alloc ?_ _) | (with_reducible refine up_drewN ?_ _) | (with_reducible refine up_drew ?_) | (with_reducible refine up_set ?_ (by first | (simp; done) | (simp; omega) | omega) _) | (refine up_trans ?_ (by with_reducible assumption))))⟩
  cases b2
  · show Calls Try.prog 101 #[pt X Y] w fun e w' => e = .returned (.int .i64 3) ∧ Up w w'
    go_enter Try.func101, Try.ntmps101
    go_wp2_with (first | (go_at_call 50; (with_reducible refine (unhide h1 _).mono ?_); rintro e w1 ⟨rfl, rfl⟩) | (go_at_call 50; (with_reducible refine (unhide h2 _).mono ?_); rintro e w1 ⟨rfl, rfl⟩))
    go_ret
    exact ⟨rfl, (by repeat' (first | (with_reducible exact up_refl _) | (with_reducible assumption) | (with_reducible refine up_alloc ?_ _) | (with_reducible refine up_drewN ?_ _) | (with_reducible refine up_drew ?_) | (with_reducible refine up_set ?_ (by first | (simp; done) | (simp; omega) | omega) _) | (refine up_trans ?_ (by with_reducible assumption))))⟩
  · show Calls Try.prog 101 #[pt X Y] w fun e w' => e = .returned (.int .i64 0) ∧ Up w w'
    go_enter Try.func101, Try.ntmps101
    go_wp2_with (first | (go_at_call 50; (with_reducible refine (unhide h1 _).mono ?_); rintro e w1 ⟨rfl, rfl⟩) | (go_at_call 50; (with_reducible refine (unhide h2 _).mono ?_); rintro e w1 ⟨rfl, rfl⟩))
    go_ret
    exact ⟨rfl, (by repeat' (first | (with_reducible exact up_refl _) | (with_reducible assumption) | (with_reducible refine up_alloc ?_ _) | (with_reducible refine up_drewN ?_ _) | (with_reducible refine up_drew ?_) | (with_reducible refine up_set ?_ (by first | (simp; done) | (simp; omega) | omega) _) | (refine up_trans ?_ (by with_reducible assumption))))⟩
theorem r_centre (a b c : Int) (w : World) : Calls Try.prog 100 #[.agg #[.int .i64 a, .int .i64 b, .int .i64 c]] w fun e w' => e = .returned (.int .i64 (ceE a b c)) ∧ Up w w' := by
  have H1 : ∀ W : World, Calls Try.prog 50 #[.int .i64 a, .int .i64 (-131072), .int .i64 131072] W fun e w' => e = .returned (.bool (win a (-131072) 131072)) ∧ W = w' := fun W => r_within _ _ _ W
  have H2 : ∀ W : World, Calls Try.prog 50 #[.int .i64 b, .int .i64 (-131072), .int .i64 131072] W fun e w' => e = .returned (.bool (win b (-131072) 131072)) ∧ W = w' := fun W => r_within _ _ _ W
  have H3 : ∀ W : World, Calls Try.prog 50 #[.int .i64 c, .int .i64 (-131072), .int .i64 131072] W fun e w' => e = .returned (.bool (win c (-131072) 131072)) ∧ W = w' := fun W => r_within _ _ _ W
  unfold ceE ceB
  generalize win a (-131072) 131072 = b1 at *
  generalize win b (-131072) 131072 = b2 at *
  generalize win c (-131072) 131072 = b3 at *
  have h1 := hide H1
  have h2 := hide H2
  have h3 := hide H3
  clear H1 H2 H3
  cases b1
  · show Calls Try.prog 100 #[.agg #[.int .i64 a, .int .i64 b, .int .i64 c]] w fun e w' => e = .returned (.int .i64 3) ∧ Up w w'
    go_enter Try.func100, Try.ntmps100
    go_wp2_with fail
    refine wp_loop_rounds 4 ?_
    rw [rounds_succ]
    go_wp2_with (go_at_call 50; (with_reducible refine (unhide h1 _).mono ?_); rintro e w1 ⟨rfl, rfl⟩)
    go_ret
    exact ⟨rfl, (by repeat' (first | (with_reducible exact up_refl _) | (with_reducible assumption) | (with_reducible refine up_alloc ?_ _) | (with_reducible refine up_drewN ?_ _) | (with_reducible refine up_drew ?_) | (with_reducible refine up_set ?_ (by first | (simp; done) | (simp; omega) | omega) _) | (refine up_trans ?_ (by with_reducible assumption))))⟩
  cases b2
  · show Calls Try.prog 100 #[.agg #[.int .i64 a, .int .i64 b, .int .i64 c]] w fun e w' => e = .returned (.int .i64 3) ∧ Up w w'
    go_enter Try.func100, Try.ntmps100
    go_wp2_with fail
    refine wp_loop_rounds 4 ?_
    rw [rounds_succ]
    go_wp2_with (go_at_call 50; (with_reducible refine (unhide h1 _).mono ?_); rintro e w1 ⟨rfl, rfl⟩)
    rw [rounds_succ]
    go_wp2_with (go_at_call 50; (with_reducible refine (unhide h2 _).mono ?_); rintro e w1 ⟨rfl, rfl⟩)
    go_ret
    exact ⟨rfl, (by repeat' (first | (with_reducible exact up_refl _) | (with_reducible assumption) | (with_reducible refine up_alloc ?_ _) | (with_reducible refine up_drewN ?_ _) | (with_reducible refine up_drew ?_) | (with_reducible refine up_set ?_ (by first | (simp; done) | (simp; omega) | omega) _) | (refine up_trans ?_ (by with_reducible assumption))))⟩
  cases b3
  · show Calls Try.prog 100 #[.agg #[.int .i64 a, .int .i64 b, .int .i64 c]] w fun e w' => e = .returned (.int .i64 3) ∧ Up w w'
    go_enter Try.func100, Try.ntmps100
    go_wp2_with fail
    refine wp_loop_rounds 4 ?_
    rw [rounds_succ]
    go_wp2_with (go_at_call 50; (with_reducible refine (unhide h1 _).mono ?_); rintro e w1 ⟨rfl, rfl⟩)
    rw [rounds_succ]
    go_wp2_with (go_at_call 50; (with_reducible refine (unhide h2 _).mono ?_); rintro e w1 ⟨rfl, rfl⟩)
    rw [rounds_succ]
    go_wp2_with (go_at_call 50; (with_reducible refine (unhide h3 _).mono ?_); rintro e w1 ⟨rfl, rfl⟩)
    go_ret
    exact ⟨rfl, (by repeat' (first | (with_reducible exact up_refl _) | (with_reducible assumption) | (with_reducible refine up_alloc ?_ _) | (with_reducible refine up_drewN ?_ _) | (with_reducible refine up_drew ?_) | (with_reducible refine up_set ?_ (by first | (simp; done) | (simp; omega) | omega) _) | (refine up_trans ?_ (by with_reducible assumption))))⟩
  · show Calls Try.prog 100 #[.agg #[.int .i64 a, .int .i64 b, .int .i64 c]] w fun e w' => e = .returned (.int .i64 0) ∧ Up w w'
    go_enter Try.func100, Try.ntmps100
    go_wp2_with fail
    refine wp_loop_rounds 4 ?_
    rw [rounds_succ]
    go_wp2_with (go_at_call 50; (with_reducible refine (unhide h1 _).mono ?_); rintro e w1 ⟨rfl, rfl⟩)
    rw [rounds_succ]
    go_wp2_with (go_at_call 50; (with_reducible refine (unhide h2 _).mono ?_); rintro e w1 ⟨rfl, rfl⟩)
    rw [rounds_succ]
    go_wp2_with (go_at_call 50; (with_reducible refine (unhide h3 _).mono ?_); rintro e w1 ⟨rfl, rfl⟩)
    rw [rounds_succ]
    go_wp2_with fail
    go_ret
    exact ⟨rfl, (by repeat' (first | (with_reducible exact up_refl _) | (with_reducible assumption) | (with_reducible refine up_alloc ?_ _) | (with_reducible refine up_drewN ?_ _) | (with_reducible refine up_drew ?_) | (with_reducible refine up_set ?_ (by first | (simp; done) | (simp; omega) | omega) _) | (refine up_trans ?_ (by with_reducible assumption))))⟩
theorem bx_four (w : World) (v1 v2 v3 v4 : List Value) (t1 t2 t3 t4 : TypeId) :
    Bx ((((w.alloc (.cells v1.toArray t1)).alloc (.cells v2.toArray t2)).alloc (.cells v3.toArray t3)).alloc (.cells v4.toArray t4)) w.heap.size v1 ∧ Bx ((((w.alloc (.cells v1.toArray t1)).alloc (.cells v2.toArray t2)).alloc (.cells v3.toArray t3)).alloc (.cells v4.toArray t4)) (w.heap.size + 1) v2 ∧ Bx ((((w.alloc (.cells v1.toArray t1)).alloc (.cells v2.toArray t2)).alloc (.cells v3.toArray t3)).alloc (.cells v4.toArray t4)) (w.heap.size + 1 + 1) v3 ∧ Bx ((((w.alloc (.cells v1.toArray t1)).alloc (.cells v2.toArray t2)).alloc (.cells v3.toArray t3)).alloc (.cells v4.toArray t4)) (w.heap.size + 1 + 1 + 1) v4 := by
  have t := bx_three w v1 v2 v3 t1 t2 t3
  refine ⟨bx_alloc t.1 _, bx_alloc t.2.1 _, bx_alloc t.2.2 _, ?_⟩
  have u := bx_new (((w.alloc (.cells v1.toArray t1)).alloc (.cells v2.toArray t2)).alloc (.cells v3.toArray t3)) v4 t4
  rwa [sz1, sz1, sz1] at u
set_option maxRecDepth 100000 in
set_option maxHeartbeats 8000000 in
theorem r_Foot (c0 c1 c2 sx sy ax ay : Int) (w : World) : Calls Try.prog 61 #[.agg #[.int .i64 c0, .int .i64 c1, .int .i64 c2], pt sx sy, pt ax ay] w fun e w' => e = .returned (.tuple #[pt (foV c0 c1 c2 sx sy ax ay (ft c0 c2 sx ax)) (foV c0 c1 c2 sx sy ax ay (ft c1 c2 sy ay)), .int .i64 (lnE c0 c1 c2 sx sy ax ay)]) ∧ Up w w' := by
  have h1 := hide (fun W => r_centre c0 c1 c2 W)
  have h2 := hide (fun W => r_slope sx sy W)
  have h3 := hide (fun W => r_slope ax ay W)
  have hbd := hide (fun (hb : lnB c0 c1 c2 sx sy ax ay = true) => (⟨ft_bd (lnB_bd hb).1.1 (lnB_bd hb).1.2.2 (lnB_bd hb).2.1.1 (lnB_bd hb).2.2.1, ft_bd (lnB_bd hb).1.2.1 (lnB_bd hb).1.2.2 (lnB_bd hb).2.1.2 (lnB_bd hb).2.2.2, lnB_bd hb⟩ : (((-262144000 ≤ c2 * (sx + ax) ∧ c2 * (sx + ax) ≤ 262144000) ∧ (-262144 ≤ neV (c2 * (sx + ax)) 1000 ∧ neV (c2 * (sx + ax)) 1000 ≤ 262144) ∧ -393216 ≤ ft c0 c2 sx ax ∧ ft c0 c2 sx ax ≤ 393216)) ∧ ((-262144000 ≤ c2 * (sy + ay) ∧ c2 * (sy + ay) ≤ 262144000) ∧ (-262144 ≤ neV (c2 * (sy + ay)) 1000 ∧ neV (c2 * (sy + ay)) 1000 ≤ 262144) ∧ -393216 ≤ ft c1 c2 sy ay ∧ ft c1 c2 sy ay ≤ 393216) ∧ _))
  have hft := hide ((⟨rfl, rfl⟩ : ft c0 c2 sx ax = c0 + neV (c2 * (sx + ax)) 1000 ∧ ft c1 c2 sy ay = c1 + neV (c2 * (sy + ay)) 1000))
  have hn1 := hide (fun h W => r_near (c2 * (sx + ax)) 1000 h (by omega) W)
  have hn2 := hide (fun h W => r_near (c2 * (sy + ay)) 1000 h (by omega) W)
  unfold foV lnE
  unfold ceE at h1
  generalize ft c0 c2 sx ax = fx at *
  generalize ft c1 c2 sy ay = fy at *
  unfold lnB at hbd ⊢
  generalize ceB c0 c1 c2 = B1 at *
  generalize slB sx sy 1000 = B2 at *
  generalize slB ax ay 1000 = B3 at *
  cases B1
  · simp only [Bool.false_and, Bool.false_eq_true, if_false] at h1 ⊢
    clear h2 h3 hbd hft hn1 hn2
    go_enter Try.func61, Try.ntmps61
    go_upto_region 1 with fail
    refine at_wp (fun W0 hW0 => ?_)
    obtain ⟨C0, S0, A0, R0⟩ := bx_four w [.int .i64 c0, .int .i64 c1, .int .i64 c2] [.int .i64 sx, .int .i64 sy] [.int .i64 ax, .int .i64 ay] [.int .i64 0, .int .i64 0] 31 54 54 57
    have U0 : Up w W0 := by rw [hW0]; exact (by repeat' (first | (with_reducible exact up_refl _) | (with_reducible assumption) | (with_reducible refine up_alloc ?_ _) | (with_reducible refine up_drewN ?_ _) | (with_reducible refine up_drew ?_) | (with_reducible refine up_set ?_ (by first | (simp; done) | (simp; omega) | omega) _) | (refine up_trans ?_ (by with_reducible assumption))))
    replace C0 : Bx W0 w.heap.size [.int .i64 c0, .int .i64 c1, .int .i64 c2] := by rw [hW0]; exact C0
    replace S0 : Bx W0 (w.heap.size + 1) [.int .i64 sx, .int .i64 sy] := by rw [hW0]; exact S0
    replace A0 : Bx W0 (w.heap.size + 1 + 1) [.int .i64 ax, .int .i64 ay] := by rw [hW0]; exact A0
    replace R0 : Bx W0 (w.heap.size + 1 + 1 + 1) [.int .i64 0, .int .i64 0] := by rw [hW0]; exact R0
    clear hW0
    obtain ⟨x0, x1, x2⟩ := bx3 C0
    go_wp2_with (first | (go_at_call 100; (with_reducible refine (unhide h1 _).mono ?_); rintro e w1 ⟨rfl, hb1⟩; have C1 := bx_up C0 hb1; have S1 := bx_up S0 hb1; have A1 := bx_up A0 hb1; have R1 := bx_up R0 hb1; have U1 := up_trans U0 hb1; obtain ⟨s10, s11⟩ := bx2 S1; obtain ⟨a10, a11⟩ := bx2 A1; obtain ⟨r10, r11⟩ := bx2 R1; obtain ⟨r12, r13⟩ := bxf2 R1))
    obtain ⟨W9, hW9⟩ : ∃ W9 : World, W9 = ((w1.setCell ⟨w.heap.size + 1 + 1 + 1, 0, none⟩ (.int .i64 0)).setCell ⟨w.heap.size + 1 + 1 + 1, 1, none⟩ (.int .i64 0)) := ⟨_, rfl⟩
    rw [← hW9]
    have B9 : Bx W9 (w.heap.size + 1 + 1 + 1) [.int .i64 0, .int .i64 0] := by rw [hW9]; exact bx_set (bx_set R1 0 _) 1 _
    have U9 : Up w W9 := by rw [hW9]; exact (by repeat' (first | (with_reducible exact up_refl _) | (with_reducible assumption) | (with_reducible refine up_alloc ?_ _) | (with_reducible refine up_drewN ?_ _) | (with_reducible refine up_drew ?_) | (with_reducible refine up_set ?_ (by first | (simp; done) | (simp; omega) | omega) _) | (refine up_trans ?_ (by with_reducible assumption))))
    clear hW9
    obtain ⟨p0, p1⟩ := bx2 B9
    refine bodyPost_ret (v := .tuple #[pt 0 0, .int .i64 3]) (by simp [results, Try.results61, go_sem, p0, p1]) rfl ⟨rfl, U9⟩
  simp only [Bool.true_and, if_true] at h1 hbd ⊢
  cases B2
  · simp only [Bool.false_and, Bool.false_eq_true, if_false] at h2 ⊢
    clear h3 hbd hft hn1 hn2
    go_enter Try.func61, Try.ntmps61
    go_upto_region 1 with fail
    refine at_wp (fun W0 hW0 => ?_)
    obtain ⟨C0, S0, A0, R0⟩ := bx_four w [.int .i64 c0, .int .i64 c1, .int .i64 c2] [.int .i64 sx, .int .i64 sy] [.int .i64 ax, .int .i64 ay] [.int .i64 0, .int .i64 0] 31 54 54 57
    have U0 : Up w W0 := by rw [hW0]; exact (by repeat' (first | (with_reducible exact up_refl _) | (with_reducible assumption) | (with_reducible refine up_alloc ?_ _) | (with_reducible refine up_drewN ?_ _) | (with_reducible refine up_drew ?_) | (with_reducible refine up_set ?_ (by first | (simp; done) | (simp; omega) | omega) _) | (refine up_trans ?_ (by with_reducible assumption))))
    replace C0 : Bx W0 w.heap.size [.int .i64 c0, .int .i64 c1, .int .i64 c2] := by rw [hW0]; exact C0
    replace S0 : Bx W0 (w.heap.size + 1) [.int .i64 sx, .int .i64 sy] := by rw [hW0]; exact S0
    replace A0 : Bx W0 (w.heap.size + 1 + 1) [.int .i64 ax, .int .i64 ay] := by rw [hW0]; exact A0
    replace R0 : Bx W0 (w.heap.size + 1 + 1 + 1) [.int .i64 0, .int .i64 0] := by rw [hW0]; exact R0
    clear hW0
    obtain ⟨x0, x1, x2⟩ := bx3 C0
    go_wp2_with (first | (go_at_call 100; (with_reducible refine (unhide h1 _).mono ?_); rintro e w1 ⟨rfl, hb1⟩; have C1 := bx_up C0 hb1; have S1 := bx_up S0 hb1; have A1 := bx_up A0 hb1; have R1 := bx_up R0 hb1; have U1 := up_trans U0 hb1; obtain ⟨s10, s11⟩ := bx2 S1; obtain ⟨a10, a11⟩ := bx2 A1; obtain ⟨r10, r11⟩ := bx2 R1; obtain ⟨r12, r13⟩ := bxf2 R1) | (go_at_call 101; (with_reducible refine (unhide h2 _).mono ?_); rintro e w2 ⟨rfl, hb2⟩; have C2 := bx_up C1 hb2; have S2 := bx_up S1 hb2; have A2 := bx_up A1 hb2; have R2 := bx_up R1 hb2; have U2 := up_trans U1 hb2; obtain ⟨s20, s21⟩ := bx2 S2; obtain ⟨a20, a21⟩ := bx2 A2; obtain ⟨r20, r21⟩ := bx2 R2; obtain ⟨r22, r23⟩ := bxf2 R2))
    obtain ⟨W9, hW9⟩ : ∃ W9 : World, W9 = ((w2.setCell ⟨w.heap.size + 1 + 1 + 1, 0, none⟩ (.int .i64 0)).setCell ⟨w.heap.size + 1 + 1 + 1, 1, none⟩ (.int .i64 0)) := ⟨_, rfl⟩
    rw [← hW9]
    have B9 : Bx W9 (w.heap.size + 1 + 1 + 1) [.int .i64 0, .int .i64 0] := by rw [hW9]; exact bx_set (bx_set R2 0 _) 1 _
    have U9 : Up w W9 := by rw [hW9]; exact (by repeat' (first | (with_reducible exact up_refl _) | (with_reducible assumption) | (with_reducible refine up_alloc ?_ _) | (with_reducible refine up_drewN ?_ _) | (with_reducible refine up_drew ?_) | (with_reducible refine up_set ?_ (by first | (simp; done) | (simp; omega) | omega) _) | (refine up_trans ?_ (by with_reducible assumption))))
    clear hW9
    obtain ⟨p0, p1⟩ := bx2 B9
    refine bodyPost_ret (v := .tuple #[pt 0 0, .int .i64 3]) (by simp [results, Try.results61, go_sem, p0, p1]) rfl ⟨rfl, U9⟩
  simp only [Bool.true_and, if_true] at h2 hbd ⊢
  cases B3
  · simp only [Bool.false_eq_true, if_false] at h3 ⊢
    clear hbd hft hn1 hn2
    go_enter Try.func61, Try.ntmps61
    go_upto_region 1 with fail
    refine at_wp (fun W0 hW0 => ?_)
    obtain ⟨C0, S0, A0, R0⟩ := bx_four w [.int .i64 c0, .int .i64 c1, .int .i64 c2] [.int .i64 sx, .int .i64 sy] [.int .i64 ax, .int .i64 ay] [.int .i64 0, .int .i64 0] 31 54 54 57
    have U0 : Up w W0 := by rw [hW0]; exact (by repeat' (first | (with_reducible exact up_refl _) | (with_reducible assumption) | (with_reducible refine up_alloc ?_ _) | (with_reducible refine up_drewN ?_ _) | (with_reducible refine up_drew ?_) | (with_reducible refine up_set ?_ (by first | (simp; done) | (simp; omega) | omega) _) | (refine up_trans ?_ (by with_reducible assumption))))
    replace C0 : Bx W0 w.heap.size [.int .i64 c0, .int .i64 c1, .int .i64 c2] := by rw [hW0]; exact C0
    replace S0 : Bx W0 (w.heap.size + 1) [.int .i64 sx, .int .i64 sy] := by rw [hW0]; exact S0
    replace A0 : Bx W0 (w.heap.size + 1 + 1) [.int .i64 ax, .int .i64 ay] := by rw [hW0]; exact A0
    replace R0 : Bx W0 (w.heap.size + 1 + 1 + 1) [.int .i64 0, .int .i64 0] := by rw [hW0]; exact R0
    clear hW0
    obtain ⟨x0, x1, x2⟩ := bx3 C0
    go_wp2_with (first | (go_at_call 100; (with_reducible refine (unhide h1 _).mono ?_); rintro e w1 ⟨rfl, hb1⟩; have C1 := bx_up C0 hb1; have S1 := bx_up S0 hb1; have A1 := bx_up A0 hb1; have R1 := bx_up R0 hb1; have U1 := up_trans U0 hb1; obtain ⟨s10, s11⟩ := bx2 S1; obtain ⟨a10, a11⟩ := bx2 A1; obtain ⟨r10, r11⟩ := bx2 R1; obtain ⟨r12, r13⟩ := bxf2 R1) | (go_at_call 101; (with_reducible refine (unhide h2 _).mono ?_); rintro e w2 ⟨rfl, hb2⟩; have C2 := bx_up C1 hb2; have S2 := bx_up S1 hb2; have A2 := bx_up A1 hb2; have R2 := bx_up R1 hb2; have U2 := up_trans U1 hb2; obtain ⟨s20, s21⟩ := bx2 S2; obtain ⟨a20, a21⟩ := bx2 A2; obtain ⟨r20, r21⟩ := bx2 R2; obtain ⟨r22, r23⟩ := bxf2 R2) | (go_at_call 101; (with_reducible refine (unhide h3 _).mono ?_); rintro e w3 ⟨rfl, hb3⟩; have C3 := bx_up C2 hb3; have S3 := bx_up S2 hb3; have A3 := bx_up A2 hb3; have R3 := bx_up R2 hb3; have U3 := up_trans U2 hb3; obtain ⟨s30, s31⟩ := bx2 S3; obtain ⟨a30, a31⟩ := bx2 A3; obtain ⟨r30, r31⟩ := bx2 R3; obtain ⟨r32, r33⟩ := bxf2 R3))
    obtain ⟨W9, hW9⟩ : ∃ W9 : World, W9 = ((w3.setCell ⟨w.heap.size + 1 + 1 + 1, 0, none⟩ (.int .i64 0)).setCell ⟨w.heap.size + 1 + 1 + 1, 1, none⟩ (.int .i64 0)) := ⟨_, rfl⟩
    rw [← hW9]
    have B9 : Bx W9 (w.heap.size + 1 + 1 + 1) [.int .i64 0, .int .i64 0] := by rw [hW9]; exact bx_set (bx_set R3 0 _) 1 _
    have U9 : Up w W9 := by rw [hW9]; exact (by repeat' (first | (with_reducible exact up_refl _) | (with_reducible assumption) | (with_reducible refine up_alloc ?_ _) | (with_reducible refine up_drewN ?_ _) | (with_reducible refine up_drew ?_) | (with_reducible refine up_set ?_ (by first | (simp; done) | (simp; omega) | omega) _) | (refine up_trans ?_ (by with_reducible assumption))))
    clear hW9
    obtain ⟨p0, p1⟩ := bx2 B9
    refine bodyPost_ret (v := .tuple #[pt 0 0, .int .i64 3]) (by simp [results, Try.results61, go_sem, p0, p1]) rfl ⟨rfl, U9⟩
  · simp only [if_true] at h3 ⊢
    obtain ⟨⟨⟨b1, b2⟩, ⟨b3, b4⟩, b5, b6⟩, ⟨⟨d1, d2⟩, ⟨d3, d4⟩, d5, d6⟩, ⟨g0, g1, g2⟩, ⟨g3, g4⟩, g5, g6⟩ := unhide hbd rfl
    have H1 := unhide hn1 (by omega)
    have H2 := unhide hn2 (by omega)
    obtain ⟨ef1, ef2⟩ := unhide hft
    clear hn1 hn2 hft hbd
    have e1 : IntKind.i64.wrap (sx + ax) = sx + ax := IntWalk.i64_in _ ⟨by omega, by omega⟩
    have e2 : IntKind.i64.wrap (sy + ay) = sy + ay := IntWalk.i64_in _ ⟨by omega, by omega⟩
    have e3 : IntKind.i64.wrap (c2 * (sx + ax)) = c2 * (sx + ax) := IntWalk.i64_in _ ⟨by omega, by omega⟩
    have e4 : IntKind.i64.wrap (c2 * (sy + ay)) = c2 * (sy + ay) := IntWalk.i64_in _ ⟨by omega, by omega⟩
    have e5 : IntKind.i64.wrap (c0 + neV (c2 * (sx + ax)) 1000) = fx := by rw [ef1]; exact IntWalk.i64_in _ ⟨by omega, by omega⟩
    have e6 : IntKind.i64.wrap (c1 + neV (c2 * (sy + ay)) 1000) = fy := by rw [ef2]; exact IntWalk.i64_in _ ⟨by omega, by omega⟩
    clear b1 b2 b3 b4 b5 b6 d1 d2 d3 d4 d5 d6 g0 g1 g2 g3 g4 g5 g6 ef1 ef2
    generalize neV (c2 * (sx + ax)) 1000 = fk at *
    generalize neV (c2 * (sy + ay)) 1000 = fl at *
    obtain ⟨nx, hnx⟩ : ∃ n, c2 * (sx + ax) = n := ⟨_, rfl⟩
    obtain ⟨ny, hny⟩ : ∃ n, c2 * (sy + ay) = n := ⟨_, rfl⟩
    rw [hnx] at H1 e3
    rw [hny] at H2 e4
    have e7 : IntKind.i64.wrap (c2 * (sx + ax)) = nx := by rw [hnx]; exact e3
    have e8 : IntKind.i64.wrap (c2 * (sy + ay)) = ny := by rw [hny]; exact e4
    clear e3 e4 hnx hny
    have h4 := hide H1
    have h5 := hide H2
    clear H1 H2
    go_enter Try.func61, Try.ntmps61
    go_upto_region 1 with fail
    refine at_wp (fun W0 hW0 => ?_)
    obtain ⟨C0, S0, A0, R0⟩ := bx_four w [.int .i64 c0, .int .i64 c1, .int .i64 c2] [.int .i64 sx, .int .i64 sy] [.int .i64 ax, .int .i64 ay] [.int .i64 0, .int .i64 0] 31 54 54 57
    have U0 : Up w W0 := by rw [hW0]; exact (by repeat' (first | (with_reducible exact up_refl _) | (with_reducible assumption) | (with_reducible refine up_alloc ?_ _) | (with_reducible refine up_drewN ?_ _) | (with_reducible refine up_drew ?_) | (with_reducible refine up_set ?_ (by first | (simp; done) | (simp; omega) | omega) _) | (refine up_trans ?_ (by with_reducible assumption))))
    replace C0 : Bx W0 w.heap.size [.int .i64 c0, .int .i64 c1, .int .i64 c2] := by rw [hW0]; exact C0
    replace S0 : Bx W0 (w.heap.size + 1) [.int .i64 sx, .int .i64 sy] := by rw [hW0]; exact S0
    replace A0 : Bx W0 (w.heap.size + 1 + 1) [.int .i64 ax, .int .i64 ay] := by rw [hW0]; exact A0
    replace R0 : Bx W0 (w.heap.size + 1 + 1 + 1) [.int .i64 0, .int .i64 0] := by rw [hW0]; exact R0
    clear hW0
    obtain ⟨x0, x1, x2⟩ := bx3 C0
    go_upto_region 3 with (first | (go_at_call 100; (with_reducible refine (unhide h1 _).mono ?_); rintro e w1 ⟨rfl, hb1⟩; have C1 := bx_up C0 hb1; have S1 := bx_up S0 hb1; have A1 := bx_up A0 hb1; have R1 := bx_up R0 hb1; have U1 := up_trans U0 hb1; obtain ⟨s10, s11⟩ := bx2 S1; obtain ⟨a10, a11⟩ := bx2 A1; obtain ⟨r10, r11⟩ := bx2 R1; obtain ⟨r12, r13⟩ := bxf2 R1) | (go_at_call 101; (with_reducible refine (unhide h2 _).mono ?_); rintro e w2 ⟨rfl, hb2⟩; have C2 := bx_up C1 hb2; have S2 := bx_up S1 hb2; have A2 := bx_up A1 hb2; have R2 := bx_up R1 hb2; have U2 := up_trans U1 hb2; obtain ⟨s20, s21⟩ := bx2 S2; obtain ⟨a20, a21⟩ := bx2 A2; obtain ⟨r20, r21⟩ := bx2 R2; obtain ⟨r22, r23⟩ := bxf2 R2) | (go_at_call 101; (with_reducible refine (unhide h3 _).mono ?_); rintro e w3 ⟨rfl, hb3⟩; have C3 := bx_up C2 hb3; have S3 := bx_up S2 hb3; have A3 := bx_up A2 hb3; have R3 := bx_up R2 hb3; have U3 := up_trans U2 hb3; obtain ⟨s30, s31⟩ := bx2 S3; obtain ⟨a30, a31⟩ := bx2 A3; obtain ⟨r30, r31⟩ := bx2 R3; obtain ⟨r32, r33⟩ := bxf2 R3))
    obtain ⟨q0, q1, q2⟩ := bx3 C3
    have R9 := R3
    have U9 := U3
    clear C0 S0 A0 R0 C1 S1 A1 R1 C2 S2 A2 R2 C3 S3 A3 R3 x0 x1 x2 s10 s11 a10 a11 r10 r11 r12 r13 s20 s21 a20 a21 r20 r21 r22 r23 U0 U1 U2 U3 hb1 hb2 hb3
    go_region_held3 (fun wx => wx.cell? ⟨w.heap.size, 0, none⟩ = some (.int .i64 c0) ∧ wx.cell? ⟨w.heap.size, 1, none⟩ = some (.int .i64 c1) ∧ wx.cell? ⟨w.heap.size, 2, none⟩ = some (.int .i64 c2) ∧ wx.cell? ⟨w.heap.size + 1, 0, none⟩ = some (.int .i64 sx) ∧ wx.cell? ⟨w.heap.size + 1, 1, none⟩ = some (.int .i64 sy) ∧ wx.cell? ⟨w.heap.size + 1 + 1, 0, none⟩ = some (.int .i64 ax) ∧ wx.cell? ⟨w.heap.size + 1 + 1, 1, none⟩ = some (.int .i64 ay)) ((first | (exact ⟨by go_cell, by go_cell, by go_cell, by go_cell, by go_cell, by go_cell, by go_cell⟩) | (with_reducible assumption)))
      (first | (go_at_call 102; (with_reducible refine (unhide h4 _).mono ?_); rintro e w4 ⟨rfl, rfl⟩) | (go_at_call 102; (with_reducible refine (unhide h5 _).mono ?_); rintro e w4 ⟨rfl, rfl⟩))
    all_goals
      refine at_x (fun W9 hW9 => ?_)
      have B9 : Bx W9 (w.heap.size + 1 + 1 + 1) [.int .i64 fx, .int .i64 fy] := by rw [hW9]; exact bx_drew (bx_set (bx_set R9 0 _) 1 _)
      have U10 : Up w W9 := by rw [hW9]; exact (by repeat' (first | (with_reducible exact up_refl _) | (with_reducible assumption) | (with_reducible refine up_alloc ?_ _) | (with_reducible refine up_drewN ?_ _) | (with_reducible refine up_drew ?_) | (with_reducible refine up_set ?_ (by first | (simp; done) | (simp; omega) | omega) _) | (refine up_trans ?_ (by with_reducible assumption))))
      clear hW9 R9 U9 q0 q1 q2 s30 s31 a30 a31 r30 r31 r32 r33
      obtain ⟨p0, p1⟩ := bx2 B9
      go_wp2_with fail
      refine bodyPost_ret (v := .tuple #[pt fx fy, .int .i64 0]) (by simp [results, Try.results61, go_sem, p0, p1]) rfl ⟨rfl, U10⟩
end Go.Proofs.Ytgfehjhngmabeaa
