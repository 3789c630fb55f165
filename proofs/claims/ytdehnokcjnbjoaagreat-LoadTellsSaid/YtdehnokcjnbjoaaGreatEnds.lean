/- Where a piece ends: the program's. -/
import Derived.Test.YtdehnokcjnbjoaaGreatPcs
import Derived.Test.YtdehnokcjnbjoaaGreatPlat
namespace Go.Proofs.YtdehnokcjnbjoaaGreat
open Go.RowKit Go.Proofs.Gn
theorem bxm2 (W : World) (v1 v2 : List Value) (t1 t2 : TypeId) : Bx ((W.alloc (.cells v1.toArray t1)).alloc (.cells v2.toArray t2)) W.heap.size v1 ∧ Bx ((W.alloc (.cells v1.toArray t1)).alloc (.cells v2.toArray t2)) (W.heap.size + 1) v2 := by
  refine ⟨bx_alloc (bx_new W v1 t1) _, ?_⟩
  have := bx_new (W.alloc (.cells v1.toArray t1)) v2 t2
  rwa [sz1] at this
theorem bxm3 (W : World) (v1 v2 v3 : List Value) (t1 t2 t3 : TypeId) :
    Bx (((W.alloc (.cells v1.toArray t1)).alloc (.cells v2.toArray t2)).alloc (.cells v3.toArray t3)) W.heap.size v1 ∧ Bx (((W.alloc (.cells v1.toArray t1)).alloc (.cells v2.toArray t2)).alloc (.cells v3.toArray t3)) (W.heap.size + 1) v2 ∧ Bx (((W.alloc (.cells v1.toArray t1)).alloc (.cells v2.toArray t2)).alloc (.cells v3.toArray t3)) (W.heap.size + 1 + 1) v3 := by
  refine ⟨bx_alloc (bx_alloc (bx_new W v1 t1) _) _, ?_, ?_⟩
  · have := bx_new (W.alloc (.cells v1.toArray t1)) v2 t2
    rw [sz1] at this
    exact bx_alloc this _
  · have := bx_new ((W.alloc (.cells v1.toArray t1)).alloc (.cells v2.toArray t2)) v3 t3
    rw [sz1, sz1] at this
    exact this
set_option maxRecDepth 100000 in
set_option maxHeartbeats 4000000 in
theorem p_ends {x y z l wd h m : Int} (hp : okPp ⟨x, y, z, l, wd, h, m⟩) (w : World) :
    Calls Tryz.prog 64 #[.agg #[.int .i64 x, .int .i64 y, .int .i64 z, .int .i64 l, .int .i64 wd, .int .i64 h, .int .i64 m]] w fun e w' => e = .returned (.tuple #[.agg #[.int .i64 x, .int .i64 y, .int .i64 z], .agg #[.int .i64 (x + l), .int .i64 (y + wd), .int .i64 (z + h)]]) ∧ Up w w' := by
  unfold okPp at hp
  simp only at hp
  have hx : IntKind.i64.wrap (x + l) = x + l := IntWalk.i64_in _ ⟨by omega, by omega⟩
  have hy : IntKind.i64.wrap (y + wd) = y + wd := IntWalk.i64_in _ ⟨by omega, by omega⟩
  have hz : IntKind.i64.wrap (z + h) = z + h := IntWalk.i64_in _ ⟨by omega, by omega⟩
  clear hp
  go_enter Tryz.func64, Tryz.ntmps64
  go_upto_region 1 with fail
  refine at_wp (fun W0 hW0 => ?_)
  have t3 := bxm3 w [.int .i64 x, .int .i64 y, .int .i64 z, .int .i64 l, .int .i64 wd, .int .i64 h, .int .i64 m] [.int .i64 0, .int .i64 0, .int .i64 0] [.int .i64 0, .int .i64 0, .int .i64 0] 75 31 31
  have U0 : Up w W0 := by rw [hW0]; exact (by repeat' (first | (with_reducible exact up_refl _) | (with_reducible assumption) | (with_reducible refine up_alloc ?_ _) | (with_reducible refine up_drewN ?_ _) | (with_reducible refine up_drew ?_) | (with_reducible refine up_set ?_ (by first | (simp; done) | (simp; omega) | omega) _) | (refine up_trans ?_ (by with_reducible assumption))))
  have B0 : Bx W0 w.heap.size [.int .i64 x, .int .i64 y, .int .i64 z, .int .i64 l, .int .i64 wd, .int .i64 h, .int .i64 m] := by rw [hW0]; exact t3.1
  have R0 : Bx W0 (w.heap.size + 1) [.int .i64 0, .int .i64 0, .int .i64 0] := by rw [hW0]; exact t3.2.1
  have S0 : Bx W0 (w.heap.size + 1 + 1) [.int .i64 0, .int .i64 0, .int .i64 0] := by rw [hW0]; exact t3.2.2
  clear hW0 t3
  have c0 := (B0 0 _ rfl).1
  have c1 := (B0 1 _ rfl).1
  have c2 := (B0 2 _ rfl).1
  have c3 := (B0 3 _ rfl).1
  have c4 := (B0 4 _ rfl).1
  have c5 := (B0 5 _ rfl).1
  obtain ⟨p0, p1, p2⟩ := bx3 R0
  obtain ⟨f0, f1, f2⟩ := bxf3 R0
  obtain ⟨q0, q1, q2⟩ := bx3 S0
  obtain ⟨g0, g1, g2⟩ := bxf3 S0
  have HR := hide R0
  have HS := hide S0
  have HU := hide U0
  clear B0 R0 S0 U0
  go_wp2_with fail
  go_region_held3 (fun wx => wx.cell? ⟨w.heap.size, 0, none⟩ = some (.int .i64 x) ∧ wx.cell? ⟨w.heap.size, 1, none⟩ = some (.int .i64 y) ∧ wx.cell? ⟨w.heap.size, 2, none⟩ = some (.int .i64 z) ∧ wx.cell? ⟨w.heap.size, 3, none⟩ = some (.int .i64 l) ∧ wx.cell? ⟨w.heap.size, 4, none⟩ = some (.int .i64 wd) ∧ wx.cell? ⟨w.heap.size, 5, none⟩ = some (.int .i64 h)) ((go_split_ands; go_cell)) (fail)
  go_wp2_with fail
  rename_i hHeld
  clear hHeld
  obtain ⟨W9, hW9⟩ : ∃ W9 : World, W9 = ((((((W0.setCell ⟨w.heap.size + 1, 0, none⟩ (.int .i64 x)).setCell ⟨w.heap.size + 1, 1, none⟩ (.int .i64 y)).setCell ⟨w.heap.size + 1, 2, none⟩ (.int .i64 z)).setCell ⟨w.heap.size + 1 + 1, 0, none⟩ (.int .i64 (x + l))).setCell ⟨w.heap.size + 1 + 1, 1, none⟩ (.int .i64 (y + wd))).setCell ⟨w.heap.size + 1 + 1, 2, none⟩ (.int .i64 (z + h))).drew := ⟨_, rfl⟩
  rw [← hW9]
  have R9 : Bx W9 (w.heap.size + 1) [.int .i64 x, .int .i64 y, .int .i64 z] := by rw [hW9]; exact bx_drew (bx_far3 (bx_set3 (unhide HR)) (by omega))
  have S9 : Bx W9 (w.heap.size + 1 + 1) [.int .i64 (x + l), .int .i64 (y + wd), .int .i64 (z + h)] := by rw [hW9]; exact bx_drew (bx_set3 (bx_far3 (unhide HS) (by omega)))
  have U9 : Up w W9 := by rw [hW9]; have u := unhide HU; exact up_drew (up_set (up_set (up_set (up_set (up_set (up_set u (by simp) _) (by simp) _) (by simp) _) (by simp; omega) _) (by simp; omega) _) (by simp; omega) _)
  clear hW9 p0 p1 p2 q0 q1 q2 c0 c1 c2 c3 c4 c5 f0 f1 f2 g0 g1 g2
  obtain ⟨p0, p1, p2⟩ := bx3 R9
  obtain ⟨q0, q1, q2⟩ := bx3 S9
  refine bodyPost_ret (v := .tuple #[.agg #[.int .i64 x, .int .i64 y, .int .i64 z], .agg #[.int .i64 (x + l), .int .i64 (y + wd), .int .i64 (z + h)]]) (by simp [results, Tryz.results64, go_sem, p0, p1, p2, q0, q1, q2]) rfl ⟨rfl, U9⟩
end Go.Proofs.YtdehnokcjnbjoaaGreat
