/- What Tilt returns for the examples. -/
import Derived.Test.YtgjcpgmnflpdkaaTilt
import Derived.Test.YtgjcpgmnflpdkaaUpQ
namespace Go.Proofs.Ytgjcpgmnflpdkaa
open Go.RowKit Go.Proofs.Gn
set_option maxHeartbeats 4000000 in
theorem p_TiltX (b : Nat) (w : World) (h : Sups w (some ⟨b, 0, none⟩) exS) : Calls Try.prog 31 #[.slice (some ⟨b, 0, none⟩) 4 4, .agg #[.int .i64 2000, .int .i64 0, .int .i64 1500], pt 1 0] w fun e w' => e = .returned (.tuple #[.int .i64 1000, .int .i64 0]) ∧ Up w w' := by
  have H1 : ∀ W : World, Up w W → Calls Try.prog 25 #[.slice (some ⟨b, 0, none⟩) 4 4] W fun e w' => e = .returned (.int .i64 0) ∧ Up W w' := fun W hW => by
    have t := p_Check (some ⟨b, 0, none⟩) exS 4 W (sups_up h hW) (by decide)
    rw [show chE exS = 0 by decide +kernel] at t
    exact t
  have H2 := fun W => p_checkCentreX W
  have H3 : ∀ W : World, Calls Try.prog 67 #[pt 1 0, .int .i64 10] W fun e w' => e = .returned (.bool true) ∧ Up W w' := fun W => by
    have t := p_isUpTo 1 0 10 (by omega) W
    rw [show (win 1 (-10) 10 && win 0 (-10) 10) = true by decide] at t
    exact t
  have H4 : ∀ W : World, Up w W → Calls Try.prog 47 #[.slice (some ⟨b, 0, none⟩) 4 4] W fun e w' => e = .returned (n9 exS) ∧ Up W w' := fun W hW => p_sums9 (some ⟨b, 0, none⟩) exS 4 (by decide +kernel) (by decide) W (sups_up h hW)
  have H5 := fun W => p_tiltX W
  have h1 := hide H1
  have h2 := hide H2
  have h3 := hide H3
  have h4 := hide H4
  have h5 := hide H5
  clear H1 H2 H3 H4 H5 h
  generalize n9 exS = m at *
  go_enter Try.func31, Try.ntmps31
  go_upto_region 9 with (first | (go_at_call 25; (with_reducible refine (unhide h1 _ (by repeat' (first | (with_reducible exact up_refl _) | (with_reducible assumption) | (with_reducible refine up_alloc ?_ _) | (with_reducible refine up_drewN ?_ _) | (with_reducible refine up_drew ?_) | (with_reducible refine up_set ?_ (by first | (simp; done) | (simp; omega) | omega) _) | (refine up_trans ?_ (by with_reducible assumption))))).mono ?_); rintro e w1 ⟨rfl, hb1⟩; have k0_0 : w1.cell? ⟨w.heap.size, 0, none⟩ = some (.int .i64 2000) := up_cell hb1 (by first | (with_reducible assumption) | (refine alloc_cell _ ?_; with_reducible assumption) | go_cell); have k0_1 : w1.cell? ⟨w.heap.size, 1, none⟩ = some (.int .i64 0) := up_cell hb1 (by first | (with_reducible assumption) | (refine alloc_cell _ ?_; with_reducible assumption) | go_cell); have k0_2 : w1.cell? ⟨w.heap.size, 2, none⟩ = some (.int .i64 1500) := up_cell hb1 (by first | (with_reducible assumption) | (refine alloc_cell _ ?_; with_reducible assumption) | go_cell); have k1_0 : w1.cell? ⟨w.heap.size + 1, 0, none⟩ = some (.int .i64 1) := up_cell hb1 (by first | (with_reducible assumption) | (refine alloc_cell _ ?_; with_reducible assumption) | go_cell); have k1_1 : w1.cell? ⟨w.heap.size + 1, 1, none⟩ = some (.int .i64 0) := up_cell hb1 (by first | (with_reducible assumption) | (refine alloc_cell _ ?_; with_reducible assumption) | go_cell)) | (go_at_call 71; (with_reducible refine (unhide h2 _).mono ?_); rintro e w2 ⟨rfl, hb2⟩; have z0 := up_cell hb2 k0_0; have z1 := up_cell hb2 k0_1; have z2 := up_cell hb2 k0_2; have z3 := up_cell hb2 k1_0; have z4 := up_cell hb2 k1_1) | (go_at_call 67; (with_reducible refine (unhide h3 _).mono ?_); rintro e w3 ⟨rfl, hb3⟩; have y0 := up_cell hb3 z0; have y1 := up_cell hb3 z1; have y2 := up_cell hb3 z2; have y3 := up_cell hb3 z3; have y4 := up_cell hb3 z4))
  have u3 : Up w w3 := (by repeat' (first | (with_reducible exact up_refl _) | (with_reducible assumption) | (with_reducible refine up_alloc ?_ _) | (with_reducible refine up_drewN ?_ _) | (with_reducible refine up_drew ?_) | (with_reducible refine up_set ?_ (by first | (simp; done) | (simp; omega) | omega) _) | (refine up_trans ?_ (by with_reducible assumption))))
  have m0 : ∀ p : UpW w3, p.v.cell? ⟨w.heap.size, 0, none⟩ = some (.int .i64 2000) := fun p => up_cell p.up y0
  have m1 : ∀ p : UpW w3, p.v.cell? ⟨w.heap.size, 1, none⟩ = some (.int .i64 0) := fun p => up_cell p.up y1
  have m2 : ∀ p : UpW w3, p.v.cell? ⟨w.heap.size, 2, none⟩ = some (.int .i64 1500) := fun p => up_cell p.up y2
  have m3 : ∀ p : UpW w3, p.v.cell? ⟨w.heap.size + 1, 0, none⟩ = some (.int .i64 1) := fun p => up_cell p.up y3
  have m4 : ∀ p : UpW w3, p.v.cell? ⟨w.heap.size + 1, 1, none⟩ = some (.int .i64 0) := fun p => up_cell p.up y4
  have mu : ∀ p : UpW w3, Up w p.v := fun p => up_trans u3 p.up
  clear k0_0 k0_1 k0_2 k1_0 k1_1 z0 z1 z2 z3 z4 y0 y1 y2 y3 y4 hb1 hb2 hb3
  refine wp_upq (by kernel_rfl) (by kernel_rfl) ?_; (repeat (go_big_quiet_step ((first | (go_at_call 47; exact upq (unhide h4 _ (mu _))) | (go_at_call 72; exact upq (unhide h5 _)))))); refine wpQuiet_nil ?_; intro _ hw'; obtain ⟨pq, hw''⟩ := hw'; subst hw''; have hpq := pq.up
  go_wp2_with fail
  go_ret2
  exact ⟨rfl, up_trans u3 hpq⟩
end Go.Proofs.Ytgjcpgmnflpdkaa
