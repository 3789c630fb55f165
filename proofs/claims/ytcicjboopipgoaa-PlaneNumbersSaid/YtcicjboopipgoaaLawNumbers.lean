/- PlaneNumbers returns true for every input: the walk. -/
import Derived.Test.YtcicjboopipgoaaWorks
import Derived.Deep.DeepCutAuto
namespace Go.Proofs.Ytcicjboopipgoaa
open Go.RowKit Go.Proofs.Gn
set_option maxRecDepth 100000 in
set_option maxHeartbeats 2000000 in
theorem l_Numbers (n d ax ay bx b_y cx cy : Int) (hn : n ≤ 9223372036854775807) (w : World) :
    Calls Try.prog 3 #[.int .i64 n, .int .i64 d, pt ax ay, pt bx b_y, pt cx cy] w fun e w' => e = .returned (.bool true) ∧ Up w w' := by
  go_enter Try.func3, Try.ntmps3
  go_wp2_with (first
    | (go_at_call 15; refine (p_Floor _ _ _).mono ?_; rintro e w1 ⟨rfl, rfl⟩) | (go_at_call 16; refine (r_Floor _ _ _).mono ?_; rintro e w1 ⟨rfl, rfl⟩)
    | (go_at_call 17; refine (p_Nearest _ _ _).mono ?_; rintro e w1 ⟨rfl, rfl⟩) | (go_at_call 18; refine (r_Nearest _ _ _).mono ?_; rintro e w1 ⟨rfl, rfl⟩)
    | (go_at_call 19; refine (p_Root _ _ hn).mono ?_; rintro e w1 ⟨rfl, rfl⟩) | (go_at_call 20; refine (r_Root _ _ hn).mono ?_; rintro e w1 ⟨rfl, rfl⟩)
    | (go_at_call 21; refine (p_Turn _ _ _ _ _ _ _).mono ?_; rintro e w1 ⟨rfl, hb⟩; have k0_0 : w1.cell? ⟨w.heap.size, 0, none⟩ = some (.int .i64 ax) := up_cell hb (by first | (with_reducible assumption) | (refine alloc_cell _ ?_; with_reducible assumption) | go_cell); have k0_1 : w1.cell? ⟨w.heap.size, 1, none⟩ = some (.int .i64 ay) := up_cell hb (by first | (with_reducible assumption) | (refine alloc_cell _ ?_; with_reducible assumption) | go_cell); have k1_0 : w1.cell? ⟨w.heap.size + 1, 0, none⟩ = some (.int .i64 bx) := up_cell hb (by first | (with_reducible assumption) | (refine alloc_cell _ ?_; with_reducible assumption) | go_cell); have k1_1 : w1.cell? ⟨w.heap.size + 1, 1, none⟩ = some (.int .i64 b_y) := up_cell hb (by first | (with_reducible assumption) | (refine alloc_cell _ ?_; with_reducible assumption) | go_cell); have k2_0 : w1.cell? ⟨w.heap.size + 1 + 1, 0, none⟩ = some (.int .i64 cx) := up_cell hb (by first | (with_reducible assumption) | (refine alloc_cell _ ?_; with_reducible assumption) | go_cell); have k2_1 : w1.cell? ⟨w.heap.size + 1 + 1, 1, none⟩ = some (.int .i64 cy) := up_cell hb (by first | (with_reducible assumption) | (refine alloc_cell _ ?_; with_reducible assumption) | go_cell)) | (go_at_call 22; refine (r_Turn _ _ _ _ _ _ _).mono ?_; rintro e w2 ⟨rfl, hb2⟩; have k0_0 : w2.cell? ⟨w.heap.size, 0, none⟩ = some (.int .i64 ax) := up_cell hb2 (by first | (with_reducible assumption) | (refine alloc_cell _ ?_; with_reducible assumption) | go_cell); have k0_1 : w2.cell? ⟨w.heap.size, 1, none⟩ = some (.int .i64 ay) := up_cell hb2 (by first | (with_reducible assumption) | (refine alloc_cell _ ?_; with_reducible assumption) | go_cell); have k1_0 : w2.cell? ⟨w.heap.size + 1, 0, none⟩ = some (.int .i64 bx) := up_cell hb2 (by first | (with_reducible assumption) | (refine alloc_cell _ ?_; with_reducible assumption) | go_cell); have k1_1 : w2.cell? ⟨w.heap.size + 1, 1, none⟩ = some (.int .i64 b_y) := up_cell hb2 (by first | (with_reducible assumption) | (refine alloc_cell _ ?_; with_reducible assumption) | go_cell); have k2_0 : w2.cell? ⟨w.heap.size + 1 + 1, 0, none⟩ = some (.int .i64 cx) := up_cell hb2 (by first | (with_reducible assumption) | (refine alloc_cell _ ?_; with_reducible assumption) | go_cell); have k2_1 : w2.cell? ⟨w.heap.size + 1 + 1, 1, none⟩ = some (.int .i64 cy) := up_cell hb2 (by first | (with_reducible assumption) | (refine alloc_cell _ ?_; with_reducible assumption) | go_cell)))
  go_cut [107] (fun s wx => s = .bool false ∧ wx.cell? ⟨w.heap.size, 0, none⟩ = some (.int .i64 ax) ∧ wx.cell? ⟨w.heap.size, 1, none⟩ = some (.int .i64 ay) ∧ wx.cell? ⟨w.heap.size + 1, 0, none⟩ = some (.int .i64 bx) ∧ wx.cell? ⟨w.heap.size + 1, 1, none⟩ = some (.int .i64 b_y) ∧ Up w wx)
  case first =>
    have hU : Up w w2 := (by repeat' (first | (with_reducible exact up_refl _) | (with_reducible assumption) | (with_reducible refine up_alloc ?_ _) | (with_reducible refine up_drewN ?_ _) | (with_reducible refine up_drew ?_) | (with_reducible refine up_set ?_ (by first | (simp; done) | (simp; omega) | omega) _) | (refine up_trans ?_ (by with_reducible assumption))))
    have keep := st_and (st_cell ⟨w.heap.size, 0, none⟩ (.int .i64 ax)) (st_and (st_cell ⟨w.heap.size, 1, none⟩ (.int .i64 ay)) (st_and (st_cell ⟨w.heap.size + 1, 0, none⟩ (.int .i64 bx)) (st_and (st_cell ⟨w.heap.size + 1, 1, none⟩ (.int .i64 b_y)) (st_up w))))
    have hkeep := hide keep
    clear keep
    go_region_held3 (fun wx => wx.cell? ⟨w.heap.size, 0, none⟩ = some (.int .i64 ax) ∧ wx.cell? ⟨w.heap.size, 1, none⟩ = some (.int .i64 ay) ∧ wx.cell? ⟨w.heap.size + 1, 0, none⟩ = some (.int .i64 bx) ∧ wx.cell? ⟨w.heap.size + 1, 1, none⟩ = some (.int .i64 b_y) ∧ Up w wx) ((first | exact ⟨k0_0, k0_1, k1_0, k1_1, up_drew hU⟩ | (with_reducible assumption) | exact unhide hkeep _ _ hb3 (by assumption)))
      (first | (go_at_call 23; refine (p_Check _ _ _).mono ?_; rintro e w3 ⟨rfl, hb3⟩) | (go_at_call 24; refine (r_Check _ _ _).mono ?_; rintro e w3 ⟨rfl, hb3⟩))
    all_goals
      have hS : w3.cell? ⟨w.heap.size, 0, none⟩ = some (.int .i64 ax) ∧ w3.cell? ⟨w.heap.size, 1, none⟩ = some (.int .i64 ay) ∧ w3.cell? ⟨w.heap.size + 1, 0, none⟩ = some (.int .i64 bx) ∧ w3.cell? ⟨w.heap.size + 1, 1, none⟩ = some (.int .i64 b_y) ∧ Up w w3 := by assumption
      have HS := hide hS
      clear hS
      go_wp2_with fail
      go_meet
      exact ⟨by simp, unhide HS⟩
  case rest =>
    obtain ⟨rfl, d0, d1, d2, d3, hu⟩ := hcut
    clear hb hb2 k0_0 k0_1 k1_0 k1_1 k2_0 k2_1
    go_wp2_with (first
      | (go_at_call 25; refine (p_Distance _ _ _ _ _).mono ?_; rintro e w4 ⟨rfl, hb4⟩; have e0 := up_cell hb4 d0; have e1 := up_cell hb4 d1; have e2 := up_cell hb4 d2; have e3 := up_cell hb4 d3) | (go_at_call 26; refine (r_Distance _ _ _ _ _).mono ?_; rintro e w5 ⟨rfl, hb5⟩)
      | (go_at_call 27; refine (l_works _).mono ?_; rintro e w6 ⟨rfl, hb6⟩))
    go_ret
    exact ⟨rfl, (by repeat' (first | (with_reducible exact up_refl _) | (with_reducible assumption) | (with_reducible refine up_alloc ?_ _) | (with_reducible refine up_drewN ?_ _) | (with_reducible refine up_drew ?_) | (with_reducible refine up_set ?_ (by first | (simp; done) | (simp; omega) | omega) _) | (refine up_trans ?_ (by with_reducible assumption))))⟩
end Go.Proofs.Ytcicjboopipgoaa
