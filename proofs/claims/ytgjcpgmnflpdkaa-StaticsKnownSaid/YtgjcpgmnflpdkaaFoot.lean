/- The foot and the tilt of the examples' centre. -/
import Derived.Test.YtgjcpgmnflpdkaaKnown
namespace Go.Proofs.Ytgjcpgmnflpdkaa
open Go.RowKit Go.Proofs.Gn
theorem p_nearestS (n d : Int) (w : World) : Calls Try.prog 68 #[.int .i64 n, .int .i64 d] w fun e w' => e = .returned (.int .i64 (neV n d)) ∧ w = w' := by
  have H := hide (fun W => p_Nearest n d W)
  generalize neV n d = V at *
  generalize quE n d = E at *
  go_enter Try.func68, Try.ntmps68
  go_wp2_with (go_at_call 89; (with_reducible refine (unhide H _).mono ?_); rintro e w1 ⟨rfl, rfl⟩)
  go_ret
  exact ⟨rfl, rfl⟩
def fx (k : Int) : Int := neV (1500 * k) 1000
theorem fx_bd {k : Int} (h : -1000 ≤ k ∧ k ≤ 1000) : -1501 ≤ fx k ∧ fx k ≤ 1501 := by
  unfold fx neV
  split
  · unfold near; omega
  · omega
theorem p_isUpTo (x y m : Int) (hm : 0 ≤ m ∧ m ≤ 1000) (w : World) : Calls Try.prog 67 #[pt x y, .int .i64 m] w fun e w' => e = .returned (.bool (win x (-m) m && win y (-m) m)) ∧ Up w w' := by
  have H1 : ∀ W : World, Calls Try.prog 45 #[.int .i64 x, .int .i64 (-m), .int .i64 m] W fun e w' => e = .returned (.bool (win x (-m) m)) ∧ W = w' := fun W => p_within _ _ _ W
  have H2 : ∀ W : World, Calls Try.prog 45 #[.int .i64 y, .int .i64 (-m), .int .i64 m] W fun e w' => e = .returned (.bool (win y (-m) m)) ∧ W = w' := fun W => p_within _ _ _ W
  generalize win x (-m) m = b1 at *
  generalize win y (-m) m = b2 at *
  have h1 := hide H1
  have h2 := hide H2
  clear H1 H2
  obtain ⟨m1, m2⟩ := hm
  cases b1
  · go_enter Try.func67, Try.ntmps67
    go_wp2_with (first | (go_at_call 45; (with_reducible refine (unhide h1 _).mono ?_); rintro e w1 ⟨rfl, rfl⟩) | (go_at_call 45; (with_reducible refine (unhide h2 _).mono ?_); rintro e w1 ⟨rfl, rfl⟩))
    go_ret
    exact ⟨rfl, (by repeat' (first | (with_reducible exact up_refl _) | (with_reducible assumption) | (with_reducible refine up_alloc ?_ _) | (with_reducible refine up_drewN ?_ _) | (with_reducible refine up_drew ?_) | (with_reducible refine up_set ?_ (by first | (simp; done) | (simp; omega) | omega) _) | (refine up_trans ?_ (by with_reducible assumption))))⟩
  · go_enter Try.func67, Try.ntmps67
    go_wp2_with (first | (go_at_call 45; (with_reducible refine (unhide h1 _).mono ?_); rintro e w1 ⟨rfl, rfl⟩) | (go_at_call 45; (with_reducible refine (unhide h2 _).mono ?_); rintro e w1 ⟨rfl, rfl⟩))
    go_ret
    exact ⟨rfl, (by repeat' (first | (with_reducible exact up_refl _) | (with_reducible assumption) | (with_reducible refine up_alloc ?_ _) | (with_reducible refine up_drewN ?_ _) | (with_reducible refine up_drew ?_) | (with_reducible refine up_set ?_ (by first | (simp; done) | (simp; omega) | omega) _) | (refine up_trans ?_ (by with_reducible assumption))))⟩
theorem p_checkCentreX (w : World) : Calls Try.prog 71 #[.agg #[.int .i64 2000, .int .i64 0, .int .i64 1500]] w fun e w' => e = .returned (.int .i64 0) ∧ Up w w' := by
  have H : ∀ (x : Int), (-131072 ≤ x ∧ x ≤ 131072) → ∀ W : World, Calls Try.prog 45 #[.int .i64 x, .int .i64 (-131072), .int .i64 131072] W fun e w' => e = .returned (.bool true) ∧ W = w' := fun x hx W => by
    have t := p_within x (-131072) 131072 W
    rw [show (decide (-131072 ≤ x) && decide (x ≤ 131072)) = true by simp; omega] at t
    exact t
  have h := hide H
  clear H
  go_enter Try.func71, Try.ntmps71
  go_wp2_with fail
  refine wp_loop_rounds 4 ?_
  rw [rounds_succ]
  go_wp2_with (go_at_call 45; (with_reducible refine (unhide h _ (by omega) _).mono ?_); rintro e w1 ⟨rfl, rfl⟩)
  rw [rounds_succ]
  go_wp2_with (go_at_call 45; (with_reducible refine (unhide h _ (by omega) _).mono ?_); rintro e w1 ⟨rfl, rfl⟩)
  rw [rounds_succ]
  go_wp2_with (go_at_call 45; (with_reducible refine (unhide h _ (by omega) _).mono ?_); rintro e w1 ⟨rfl, rfl⟩)
  rw [rounds_succ]
  go_wp2_with fail
  go_ret
  exact ⟨rfl, (by repeat' (first | (with_reducible exact up_refl _) | (with_reducible assumption) | (with_reducible refine up_alloc ?_ _) | (with_reducible refine up_drewN ?_ _) | (with_reducible refine up_drew ?_) | (with_reducible refine up_set ?_ (by first | (simp; done) | (simp; omega) | omega) _) | (refine up_trans ?_ (by with_reducible assumption))))⟩
theorem p_checkLeaningX {k l : Int} (hk : -1000 ≤ k ∧ k ≤ 1000) (hl : -1000 ≤ l ∧ l ≤ 1000) (w : World) : Calls Try.prog 62 #[.agg #[.int .i64 2000, .int .i64 0, .int .i64 1500], pt k l, pt 0 0] w fun e w' => e = .returned (.int .i64 0) ∧ Up w w' := by
  have hC := hide (fun W => p_checkCentreX W)
  have H1 : ∀ W : World, Calls Try.prog 67 #[pt k l, .int .i64 1000] W fun e w' => e = .returned (.bool true) ∧ Up W w' := fun W => by
    have t := p_isUpTo k l 1000 (by omega) W
    rw [show (win k (-1000) 1000 && win l (-1000) 1000) = true by rw [Bool.and_eq_true, win_iff, win_iff]; omega] at t
    exact t
  have H2 : ∀ W : World, Calls Try.prog 67 #[pt 0 0, .int .i64 1000] W fun e w' => e = .returned (.bool true) ∧ Up W w' := fun W => by
    have t := p_isUpTo 0 0 1000 (by omega) W
    rw [show (win 0 (-1000) 1000 && win 0 (-1000) 1000) = true by decide] at t
    exact t
  have h1 := hide H1
  have h2 := hide H2
  clear H1 H2
  go_enter Try.func62, Try.ntmps62
  go_wp2_with (first | (go_at_call 71; (with_reducible refine (unhide hC _).mono ?_); rintro e w1 ⟨rfl, hb1⟩; have k1_0 : w1.cell? ⟨w.heap.size + 1, 0, none⟩ = some (.int .i64 k) := up_cell hb1 (by first | (with_reducible assumption) | (refine alloc_cell _ ?_; with_reducible assumption) | go_cell); have k1_1 : w1.cell? ⟨w.heap.size + 1, 1, none⟩ = some (.int .i64 l) := up_cell hb1 (by first | (with_reducible assumption) | (refine alloc_cell _ ?_; with_reducible assumption) | go_cell); have k2_0 : w1.cell? ⟨w.heap.size + 1 + 1, 0, none⟩ = some (.int .i64 0) := up_cell hb1 (by first | (with_reducible assumption) | (refine alloc_cell _ ?_; with_reducible assumption) | go_cell); have k2_1 : w1.cell? ⟨w.heap.size + 1 + 1, 1, none⟩ = some (.int .i64 0) := up_cell hb1 (by first | (with_reducible assumption) | (refine alloc_cell _ ?_; with_reducible assumption) | go_cell)) | (go_at_call 67; (with_reducible refine (unhide h1 _).mono ?_); rintro e w2 ⟨rfl, hb2⟩; have z0 := up_cell hb2 k2_0; have z1 := up_cell hb2 k2_1) | (go_at_call 67; (with_reducible refine (unhide h2 _).mono ?_); rintro e w3 ⟨rfl, hb3⟩))
  go_ret
  exact ⟨rfl, (by repeat' (first | (with_reducible exact up_refl _) | (with_reducible assumption) | (with_reducible refine up_alloc ?_ _) | (with_reducible refine up_drewN ?_ _) | (with_reducible refine up_drew ?_) | (with_reducible refine up_set ?_ (by first | (simp; done) | (simp; omega) | omega) _) | (refine up_trans ?_ (by with_reducible assumption))))⟩
set_option maxHeartbeats 4000000 in
theorem p_footX {k l : Int} (hk : -1000 ≤ k ∧ k ≤ 1000) (hl : -1000 ≤ l ∧ l ≤ 1000) (w : World) : Calls Try.prog 63 #[.agg #[.int .i64 2000, .int .i64 0, .int .i64 1500], pt k l, pt 0 0] w fun e w' => e = .returned (pt (2000 + fx k) (fx l)) ∧ Up w w' := by
  have b1 := fx_bd hk
  have b2 := fx_bd hl
  have H1 : ∀ W : World, Calls Try.prog 68 #[.int .i64 (1500 * k), .int .i64 1000] W fun e w' => e = .returned (.int .i64 (fx k)) ∧ W = w' := fun W => p_nearestS (1500 * k) 1000 W
  have H2 : ∀ W : World, Calls Try.prog 68 #[.int .i64 (1500 * l), .int .i64 1000] W fun e w' => e = .returned (.int .i64 (fx l)) ∧ W = w' := fun W => p_nearestS (1500 * l) 1000 W
  generalize fx k = fk at *
  generalize fx l = fl at *
  have h1 := hide H1
  have h2 := hide H2
  clear H1 H2
  obtain ⟨k1, k2⟩ := hk
  obtain ⟨l1, l2⟩ := hl
  obtain ⟨b3, b4⟩ := b1
  obtain ⟨b5, b6⟩ := b2
  go_enter Try.func63, Try.ntmps63
  go_wp2_with fail
  refine at_wp (fun W hW => ?_)
  have c0 : W.cell? ⟨w.heap.size, 0, none⟩ = some (.int .i64 2000) := by rw [hW]; go_cell
  have c1 : W.cell? ⟨w.heap.size, 1, none⟩ = some (.int .i64 0) := by rw [hW]; go_cell
  have c2 : W.cell? ⟨w.heap.size, 2, none⟩ = some (.int .i64 1500) := by rw [hW]; go_cell
  have c3 : W.cell? ⟨w.heap.size + 1, 0, none⟩ = some (.int .i64 k) := by rw [hW]; go_cell
  have c4 : W.cell? ⟨w.heap.size + 1, 1, none⟩ = some (.int .i64 l) := by rw [hW]; go_cell
  have c5 : W.cell? ⟨w.heap.size + 1 + 1, 0, none⟩ = some (.int .i64 0) := by rw [hW]; go_cell
  have c6 : W.cell? ⟨w.heap.size + 1 + 1, 1, none⟩ = some (.int .i64 0) := by rw [hW]; go_cell
  have B7 : Bx W (w.heap.size + 1 + 1 + 1) [.int .i64 0, .int .i64 0] := by
    rw [hW]
    have t := bx_new (((w.alloc (.cells #[.int .i64 2000, .int .i64 0, .int .i64 1500] 30)).alloc (.cells #[.int .i64 k, .int .i64 l] 46)).alloc (.cells #[.int .i64 0, .int .i64 0] 46)) [.int .i64 0, .int .i64 0] 29
    rwa [sz1, sz1, sz1] at t
  have U0 : Up w W := by rw [hW]; exact (by repeat' (first | (with_reducible exact up_refl _) | (with_reducible assumption) | (with_reducible refine up_alloc ?_ _) | (with_reducible refine up_drewN ?_ _) | (with_reducible refine up_drew ?_) | (with_reducible refine up_set ?_ (by first | (simp; done) | (simp; omega) | omega) _) | (refine up_trans ?_ (by with_reducible assumption))))
  clear hW
  obtain ⟨c7, c8⟩ := bx2 B7
  obtain ⟨f7, f8⟩ := bxf2 B7
  have e1 : IntKind.i64.wrap k = k := IntWalk.i64_in _ ⟨by omega, by omega⟩
  have e2 : IntKind.i64.wrap l = l := IntWalk.i64_in _ ⟨by omega, by omega⟩
  have e3 : IntKind.i64.wrap (1500 * k) = 1500 * k := IntWalk.i64_in _ ⟨by omega, by omega⟩
  have e4 : IntKind.i64.wrap (1500 * l) = 1500 * l := IntWalk.i64_in _ ⟨by omega, by omega⟩
  have e5 : IntKind.i64.wrap (2000 + fk) = 2000 + fk := IntWalk.i64_in _ ⟨by omega, by omega⟩
  have e6 : IntKind.i64.wrap fl = fl := IntWalk.i64_in _ ⟨by omega, by omega⟩
  go_region_held3 (fun wx => wx.cell? ⟨w.heap.size, 0, none⟩ = some (.int .i64 2000) ∧ wx.cell? ⟨w.heap.size, 1, none⟩ = some (.int .i64 0) ∧ wx.cell? ⟨w.heap.size, 2, none⟩ = some (.int .i64 1500) ∧ wx.cell? ⟨w.heap.size + 1, 0, none⟩ = some (.int .i64 k) ∧ wx.cell? ⟨w.heap.size + 1, 1, none⟩ = some (.int .i64 l) ∧ wx.cell? ⟨w.heap.size + 1 + 1, 0, none⟩ = some (.int .i64 0) ∧ wx.cell? ⟨w.heap.size + 1 + 1, 1, none⟩ = some (.int .i64 0)) ((first | (exact ⟨by go_cell, by go_cell, by go_cell, by go_cell, by go_cell, by go_cell, by go_cell⟩) | (with_reducible assumption)))
    (first | (go_at_call 68; (with_reducible refine (unhide h1 _).mono ?_); rintro e w4 ⟨rfl, rfl⟩) | (go_at_call 68; (with_reducible refine (unhide h2 _).mono ?_); rintro e w4 ⟨rfl, rfl⟩))
  all_goals
    refine at_x (fun W9 hW9 => ?_)
    have B9 : Bx W9 (w.heap.size + 1 + 1 + 1) [.int .i64 (2000 + fk), .int .i64 fl] := by rw [hW9]; exact bx_drew (bx_set (bx_set B7 0 _) 1 _)
    have U9 : Up w W9 := by rw [hW9]; exact (by repeat' (first | (with_reducible exact up_refl _) | (with_reducible assumption) | (with_reducible refine up_alloc ?_ _) | (with_reducible refine up_drewN ?_ _) | (with_reducible refine up_drew ?_) | (with_reducible refine up_set ?_ (by first | (simp; done) | (simp; omega) | omega) _) | (refine up_trans ?_ (by with_reducible assumption))))
    clear hW9 B7 U0 c0 c1 c2 c3 c4 c5 c6 c7 c8 f7 f8
    obtain ⟨p0, p1⟩ := bx2 B9
    go_wp2_with fail
    refine bodyPost_ret (v := pt (2000 + fk) fl) (by simp [results, Try.results63, go_sem, p0, p1]) rfl ⟨rfl, U9⟩
set_option maxHeartbeats 2000000 in
theorem p_FootX {k l : Int} (hk : -1000 ≤ k ∧ k ≤ 1000) (hl : -1000 ≤ l ∧ l ≤ 1000) (w : World) : Calls Try.prog 27 #[.agg #[.int .i64 2000, .int .i64 0, .int .i64 1500], pt k l, pt 0 0] w fun e w' => e = .returned (.tuple #[pt (2000 + fx k) (fx l), .int .i64 0]) ∧ Up w w' := by
  have h1 := hide (fun W => p_checkLeaningX hk hl W)
  have h2 := hide (fun W => p_footX hk hl W)
  generalize 2000 + fx k = a at *
  generalize fx l = b at *
  clear hk hl
  go_enter Try.func27, Try.ntmps27
  go_wp2_with (first | (go_at_call 62; (with_reducible refine (unhide h1 _).mono ?_); rintro e w1 ⟨rfl, hb1⟩; have k0_0 : w1.cell? ⟨w.heap.size, 0, none⟩ = some (.int .i64 2000) := up_cell hb1 (by first | (with_reducible assumption) | (refine alloc_cell _ ?_; with_reducible assumption) | go_cell); have k0_1 : w1.cell? ⟨w.heap.size, 1, none⟩ = some (.int .i64 0) := up_cell hb1 (by first | (with_reducible assumption) | (refine alloc_cell _ ?_; with_reducible assumption) | go_cell); have k0_2 : w1.cell? ⟨w.heap.size, 2, none⟩ = some (.int .i64 1500) := up_cell hb1 (by first | (with_reducible assumption) | (refine alloc_cell _ ?_; with_reducible assumption) | go_cell); have k1_0 : w1.cell? ⟨w.heap.size + 1, 0, none⟩ = some (.int .i64 k) := up_cell hb1 (by first | (with_reducible assumption) | (refine alloc_cell _ ?_; with_reducible assumption) | go_cell); have k1_1 : w1.cell? ⟨w.heap.size + 1, 1, none⟩ = some (.int .i64 l) := up_cell hb1 (by first | (with_reducible assumption) | (refine alloc_cell _ ?_; with_reducible assumption) | go_cell); have k2_0 : w1.cell? ⟨w.heap.size + 1 + 1, 0, none⟩ = some (.int .i64 0) := up_cell hb1 (by first | (with_reducible assumption) | (refine alloc_cell _ ?_; with_reducible assumption) | go_cell); have k2_1 : w1.cell? ⟨w.heap.size + 1 + 1, 1, none⟩ = some (.int .i64 0) := up_cell hb1 (by first | (with_reducible assumption) | (refine alloc_cell _ ?_; with_reducible assumption) | go_cell); have k3_0 : w1.cell? ⟨w.heap.size + 1 + 1 + 1, 0, none⟩ = some (.int .i64 0) := up_cell hb1 (by first | (with_reducible assumption) | (refine alloc_cell _ ?_; with_reducible assumption) | go_cell); have f3_0 : w1.frozen? ⟨w.heap.size + 1 + 1 + 1, 0, none⟩ = false := up_frozen hb1 (v := .int .i64 0) (by first | (with_reducible assumption) | (refine alloc_cell _ ?_; with_reducible assumption) | go_cell) (by first | (with_reducible assumption) | (refine alloc_frozen (v := .int .i64 0) _ ?_ ?_ <;> with_reducible assumption) | (simp; done) | (go_simp; done)); have k3_1 : w1.cell? ⟨w.heap.size + 1 + 1 + 1, 1, none⟩ = some (.int .i64 0) := up_cell hb1 (by first | (with_reducible assumption) | (refine alloc_cell _ ?_; with_reducible assumption) | go_cell); have f3_1 : w1.frozen? ⟨w.heap.size + 1 + 1 + 1, 1, none⟩ = false := up_frozen hb1 (v := .int .i64 0) (by first | (with_reducible assumption) | (refine alloc_cell _ ?_; with_reducible assumption) | go_cell) (by first | (with_reducible assumption) | (refine alloc_frozen (v := .int .i64 0) _ ?_ ?_ <;> with_reducible assumption) | (simp; done) | (go_simp; done))) | (go_at_call 63; (with_reducible refine (unhide h2 _).mono ?_); rintro e w2 ⟨rfl, hb2⟩; have z := bx_up (mk_bx2 k3_0 k3_1 f3_0 f3_1) hb2; obtain ⟨z0, z1⟩ := bx2 z; obtain ⟨z2, z3⟩ := bxf2 z))
  obtain ⟨W9, hW9⟩ : ∃ W9 : World, W9 = ((w2.setCell ⟨w.heap.size + 1 + 1 + 1, 0, none⟩ (.int .i64 a)).setCell ⟨w.heap.size + 1 + 1 + 1, 1, none⟩ (.int .i64 b)) := ⟨_, rfl⟩
  rw [← hW9]
  have B9 : Bx W9 (w.heap.size + 1 + 1 + 1) [.int .i64 a, .int .i64 b] := by rw [hW9]; exact bx_set (bx_set z 0 _) 1 _
  have U9 : Up w W9 := by rw [hW9]; exact (by repeat' (first | (with_reducible exact up_refl _) | (with_reducible assumption) | (with_reducible refine up_alloc ?_ _) | (with_reducible refine up_drewN ?_ _) | (with_reducible refine up_drew ?_) | (with_reducible refine up_set ?_ (by first | (simp; done) | (simp; omega) | omega) _) | (refine up_trans ?_ (by with_reducible assumption))))
  clear hW9 z0 z1 z2 z3 z
  obtain ⟨p0, p1⟩ := bx2 B9
  refine bodyPost_ret (v := .tuple #[pt a b, .int .i64 0]) (by simp [results, Try.results27, go_sem, p0, p1]) rfl ⟨rfl, U9⟩
theorem fx_zero : fx 0 = 0 := by decide +kernel
theorem tilt_ex : ∀ k : Fin 1001, lif (pa0 exS (2000 + fx (k.val : Int)) 0) (pa1 exS (2000 + fx (k.val : Int)) 0) (pa2 exS (2000 + fx (k.val : Int)) 0) = -1 := by decide +kernel
end Go.Proofs.Ytgjcpgmnflpdkaa
