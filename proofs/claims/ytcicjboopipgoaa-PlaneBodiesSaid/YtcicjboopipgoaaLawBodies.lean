/- PlaneBodies returns true for every input: the walk. -/
import Derived.Test.YtcicjboopipgoaaWorks
import Derived.Test.YtcicjboopipgoaaRefPlace
namespace Go.Proofs.Ytcicjboopipgoaa
open Go.RowKit Go.Proofs.Gn
set_option maxRecDepth 100000 in
set_option maxHeartbeats 2000000 in
theorem l_Bodies (aX aY hX hY x y : Int) (w : World) :
    Calls Try.prog 8 #[pt aX aY, pt hX hY, .int .i64 x, .int .i64 y] w fun e w' => e = .returned (.bool true) ∧ Up w w' := by
  obtain ⟨X1, hX1⟩ : ∃ z, lkV (okp aX aY && okp hX hY) (okc x && okc y) (cV aX aY hX hY x y (plX aX aY hX hY x y)) = z := ⟨_, rfl⟩
  obtain ⟨Y1, hY1⟩ : ∃ z, lkV (okp aX aY && okp hX hY) (okc x && okc y) (cV aX aY hX hY x y (plY aX aY hX hY x y)) = z := ⟨_, rfl⟩
  obtain ⟨E1, hE1⟩ : ∃ z, lkE (okp aX aY && okp hX hY) (okc x && okc y) (cE aX aY hX hY x y) = z := ⟨_, rfl⟩
  obtain ⟨X2, hX2⟩ : ∃ z, lkV (okp aX aY && okp hX hY) (decide (1 ≤ x) && decide (x ≤ 16777216)) (cV aX aY hX hY x 0 (plX aX aY hX hY x 0)) = z := ⟨_, rfl⟩
  obtain ⟨Y2, hY2⟩ : ∃ z, lkV (okp aX aY && okp hX hY) (decide (1 ≤ x) && decide (x ≤ 16777216)) (cV aX aY hX hY x 0 (plY aX aY hX hY x 0)) = z := ⟨_, rfl⟩
  obtain ⟨E2, hE2⟩ : ∃ z, lkE (okp aX aY && okp hX hY) (decide (1 ≤ x) && decide (x ≤ 16777216)) (cE aX aY hX hY x 0) = z := ⟨_, rfl⟩
  have P1 : ∀ W : World, Calls Try.prog 59 #[pt aX aY, pt hX hY, .int .i64 x, .int .i64 y] W fun e w' => e = .returned (.tuple #[pt X1 Y1, .int .i64 E1]) ∧ Up W w' := fun W => by
    have := p_Place aX aY hX hY x y W
    rwa [hX1, hY1, hE1] at this
  replace P1 := hide P1
  have P2 : ∀ W : World, Calls Try.prog 60 #[pt aX aY, pt hX hY, .int .i64 x, .int .i64 y] W fun e w' => e = .returned (.tuple #[pt X1 Y1, .int .i64 E1]) ∧ Up W w' := fun W => by
    have := r_Place aX aY hX hY x y W
    rwa [hX1, hY1, hE1] at this
  replace P2 := hide P2
  have P3 : ∀ W : World, Calls Try.prog 61 #[pt aX aY, pt hX hY, .int .i64 x] W fun e w' => e = .returned (.tuple #[pt X2 Y2, .int .i64 E2]) ∧ Up W w' := fun W => by
    have := p_Pull aX aY hX hY x W
    rwa [hX2, hY2, hE2] at this
  replace P3 := hide P3
  have P4 : ∀ W : World, Calls Try.prog 62 #[pt aX aY, pt hX hY, .int .i64 x] W fun e w' => e = .returned (.tuple #[pt X2 Y2, .int .i64 E2]) ∧ Up W w' := fun W => by
    have := r_Pull aX aY hX hY x W
    rwa [hX2, hY2, hE2] at this
  replace P4 := hide P4
  clear hX1 hY1 hE1 hX2 hY2 hE2
  go_enter Try.func8, Try.ntmps8
  go_wp2_with (first | (go_at_call 59; refine (unhide P1 _).mono ?_; rintro e w1 ⟨rfl, hb1⟩; have k0_0 : w1.cell? ⟨w.heap.size, 0, none⟩ = some (.int .i64 aX) := up_cell hb1 (by first | (with_reducible assumption) | (refine alloc_cell _ ?_; with_reducible assumption) | go_cell); have k0_1 : w1.cell? ⟨w.heap.size, 1, none⟩ = some (.int .i64 aY) := up_cell hb1 (by first | (with_reducible assumption) | (refine alloc_cell _ ?_; with_reducible assumption) | go_cell); have k1_0 : w1.cell? ⟨w.heap.size + 1, 0, none⟩ = some (.int .i64 hX) := up_cell hb1 (by first | (with_reducible assumption) | (refine alloc_cell _ ?_; with_reducible assumption) | go_cell); have k1_1 : w1.cell? ⟨w.heap.size + 1, 1, none⟩ = some (.int .i64 hY) := up_cell hb1 (by first | (with_reducible assumption) | (refine alloc_cell _ ?_; with_reducible assumption) | go_cell); have a0_0 := fun o => alloc_cell o k0_0; have a0_1 := fun o => alloc_cell o k0_1; have a1_0 := fun o => alloc_cell o k1_0; have a1_1 := fun o => alloc_cell o k1_1) | (go_at_call 60; refine (unhide P2 _).mono ?_; rintro e w2 ⟨rfl, hb2⟩; have k0_0 : w2.cell? ⟨w.heap.size, 0, none⟩ = some (.int .i64 aX) := up_cell hb2 (by first | (with_reducible assumption) | (refine alloc_cell _ ?_; with_reducible assumption) | go_cell); have k0_1 : w2.cell? ⟨w.heap.size, 1, none⟩ = some (.int .i64 aY) := up_cell hb2 (by first | (with_reducible assumption) | (refine alloc_cell _ ?_; with_reducible assumption) | go_cell); have k1_0 : w2.cell? ⟨w.heap.size + 1, 0, none⟩ = some (.int .i64 hX) := up_cell hb2 (by first | (with_reducible assumption) | (refine alloc_cell _ ?_; with_reducible assumption) | go_cell); have k1_1 : w2.cell? ⟨w.heap.size + 1, 1, none⟩ = some (.int .i64 hY) := up_cell hb2 (by first | (with_reducible assumption) | (refine alloc_cell _ ?_; with_reducible assumption) | go_cell); have a0_0 := fun o => alloc_cell o k0_0; have a0_1 := fun o => alloc_cell o k0_1; have a1_0 := fun o => alloc_cell o k1_0; have a1_1 := fun o => alloc_cell o k1_1; have q0 : w2.cell? ⟨w1.heap.size, 0, none⟩ = some (.int .i64 X1) := up_cell hb2 (by go_cell); have q1 : w2.cell? ⟨w1.heap.size, 1, none⟩ = some (.int .i64 Y1) := up_cell hb2 (by go_cell)) | (go_at_call 61; refine (unhide P3 _).mono ?_; rintro e w3 ⟨rfl, hb3⟩; have k0_0 : w3.cell? ⟨w.heap.size, 0, none⟩ = some (.int .i64 aX) := up_cell hb3 (by first | (with_reducible assumption) | (refine alloc_cell _ ?_; with_reducible assumption) | go_cell); have k0_1 : w3.cell? ⟨w.heap.size, 1, none⟩ = some (.int .i64 aY) := up_cell hb3 (by first | (with_reducible assumption) | (refine alloc_cell _ ?_; with_reducible assumption) | go_cell); have k1_0 : w3.cell? ⟨w.heap.size + 1, 0, none⟩ = some (.int .i64 hX) := up_cell hb3 (by first | (with_reducible assumption) | (refine alloc_cell _ ?_; with_reducible assumption) | go_cell); have k1_1 : w3.cell? ⟨w.heap.size + 1, 1, none⟩ = some (.int .i64 hY) := up_cell hb3 (by first | (with_reducible assumption) | (refine alloc_cell _ ?_; with_reducible assumption) | go_cell); have a0_0 := fun o => alloc_cell o k0_0; have a0_1 := fun o => alloc_cell o k0_1; have a1_0 := fun o => alloc_cell o k1_0; have a1_1 := fun o => alloc_cell o k1_1; have r0 : w3.cell? ⟨w1.heap.size, 0, none⟩ = some (.int .i64 X1) := up_cell hb3 (alloc_cell _ q0); have r1 : w3.cell? ⟨w1.heap.size, 1, none⟩ = some (.int .i64 Y1) := up_cell hb3 (alloc_cell _ q1); have s0 : w3.cell? ⟨w2.heap.size, 0, none⟩ = some (.int .i64 X1) := up_cell hb3 (by go_cell); have s1 : w3.cell? ⟨w2.heap.size, 1, none⟩ = some (.int .i64 Y1) := up_cell hb3 (by go_cell)) | (go_at_call 62; refine (unhide P4 _).mono ?_; rintro e w4 ⟨rfl, hb4⟩; have t0 := fun o => alloc_cell o (up_cell hb4 (alloc_cell _ r0)); have t1 := fun o => alloc_cell o (up_cell hb4 (alloc_cell _ r1)); have t2 := fun o => alloc_cell o (up_cell hb4 (alloc_cell _ s0)); have t3 := fun o => alloc_cell o (up_cell hb4 (alloc_cell _ s1)); have z0 : w4.cell? ⟨w3.heap.size, 0, none⟩ = some (.int .i64 X2) := up_cell hb4 (by go_cell); have z1 : w4.cell? ⟨w3.heap.size, 1, none⟩ = some (.int .i64 Y2) := up_cell hb4 (by go_cell); have t4 := fun o => alloc_cell o z0; have t5 := fun o => alloc_cell o z1) | (go_at_call 27; refine (l_works _).mono ?_; rintro e w5 ⟨rfl, hb5⟩))
  go_ret
  exact ⟨rfl, (by repeat' (first | (with_reducible exact up_refl _) | (with_reducible assumption) | (with_reducible refine up_alloc ?_ _) | (with_reducible refine up_drewN ?_ _) | (with_reducible refine up_drew ?_) | (with_reducible refine up_set ?_ (by first | (simp; done) | (simp; omega) | omega) _) | (refine up_trans ?_ (by with_reducible assumption))))⟩
end Go.Proofs.Ytcicjboopipgoaa
