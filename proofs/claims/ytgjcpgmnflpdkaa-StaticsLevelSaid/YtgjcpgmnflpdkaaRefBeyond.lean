/- Which parts are beyond, and the height: the document's own answers. -/
import Derived.Test.YtgjcpgmnflpdkaaRefGround
import Derived.Test.YtgjcpgmnflpdkaaBed
namespace Go.Proofs.Ytgjcpgmnflpdkaa
open Go.RowKit Go.Proofs.Gn
theorem ov_ref {p D : Int} : (ov p D = true → D < (max p (-p) + 1023) / 1024) ∧ (ov p D = false → (max p (-p) + 1023) / 1024 ≤ D) := by
  unfold ov amt
  refine ⟨fun h => ?_, fun h => ?_⟩
  · have := of_decide_eq_true h
    split at this <;> omega
  · have := of_decide_eq_false h
    split at this <;> omega
set_option maxRecDepth 100000 in
set_option maxHeartbeats 16000000 in
theorem r_beyond (A : Option Addr) (ps : List Gs.Sup) (cap : Nat) (X Y : Int) (hz : atE ps X Y = 0) (w : World) (h : Sups w A ps) :
    Calls Try.prog 77 #[.slice A ps.length cap, pt X Y] w fun e w' => e = .returned (.bool (hoB ps X Y)) ∧ Up w w' := by
  have HP := hide (fun (W : World) (hW : Up w W) => r_parts A ps cap X Y hz W (sups_up h hW))
  have hb := pa_bd hz
  have hd := paD_bd (atE_ok hz).1
  have HO0 := hide (ov_ref (p := pa0 ps X Y) (D := paD ps))
  have HO1 := hide (ov_ref (p := pa1 ps X Y) (D := paD ps))
  have HO2 := hide (ov_ref (p := pa2 ps X Y) (D := paD ps))
  obtain ⟨hd1, hd2⟩ := hd
  obtain ⟨_, ⟨b1, b2⟩, ⟨b3, b4⟩, b5, b6⟩ := hb
  clear hz h
  obtain ⟨n, hN⟩ : ∃ n, ps.length = n := ⟨_, rfl⟩
  rw [hN] at HP ⊢
  clear hN
  unfold hoB
  generalize ov (pa0 ps X Y) (paD ps) = o0 at *
  generalize ov (pa1 ps X Y) (paD ps) = o1 at *
  generalize ov (pa2 ps X Y) (paD ps) = o2 at *
  generalize pa0 ps X Y = p0 at *
  generalize pa1 ps X Y = p1 at *
  generalize pa2 ps X Y = p2 at *
  generalize paD ps = D at *
  cases o0
  rotate_left
  · have hov := (unhide HO0).1 rfl
    clear HO0 HO1 HO2
    simp only [Bool.true_or]
    go_enter Try.func77, Try.ntmps77
    go_upto_region 2 with (go_at_call 55; (with_reducible refine (unhide HP _ (by repeat' (first | (with_reducible exact up_refl _) | (with_reducible assumption) | (with_reducible refine up_alloc ?_ _) | (with_reducible refine up_drewN ?_ _) | (with_reducible refine up_drew ?_) | (with_reducible refine up_set ?_ (by first | (simp; done) | (simp; omega) | omega) _) | (refine up_trans ?_ (by with_reducible assumption))))).mono ?_); rintro e w1 ⟨rfl, hb1⟩)
    refine at_wp (fun W1 hW1 => ?_)
    have L1 : Bx W1 w1.heap.size [.int .i64 p0, .int .i64 p1, .int .i64 p2] := by rw [hW1]; exact bx_new w1 _ 30
    have U1 : Up w W1 := by rw [hW1]; exact (by repeat' (first | (with_reducible exact up_refl _) | (with_reducible assumption) | (with_reducible refine up_alloc ?_ _) | (with_reducible refine up_drewN ?_ _) | (with_reducible refine up_drew ?_) | (with_reducible refine up_set ?_ (by first | (simp; done) | (simp; omega) | omega) _) | (refine up_trans ?_ (by with_reducible assumption))))
    clear hW1 hb1
    obtain ⟨q0, q1, q2⟩ := bx3 L1
    go_wp2_with fail
    refine wp_loop_rounds 4 ?_
    have m0 : ∀ p : UpW W1, p.v.cell? ⟨w1.heap.size, 0, none⟩ = some (.int .i64 p0) := fun p => (bx3 (bx_up L1 p.up)).1
    rw [rounds_succ]
    go_wp2_with fail
    refine wp_upq (by kernel_rfl) (by kernel_rfl) ?_; (repeat (go_big_quiet_step (fail))); refine wpQuiet_nil ?_; intro _ hw'; obtain ⟨pq, hw''⟩ := hw'; subst hw''; have hpq := pq.up
    generalize pq.v = W2 at hpq ⊢
    have L2 := bx_up L1 hpq
    have U2 := up_trans U1 hpq
    clear m0 hpq
    go_wp2_with fail
    go_ret
    exact ⟨rfl, (by repeat' (first | (with_reducible exact up_refl _) | (with_reducible assumption) | (with_reducible refine up_alloc ?_ _) | (with_reducible refine up_drewN ?_ _) | (with_reducible refine up_drew ?_) | (with_reducible refine up_set ?_ (by first | (simp; done) | (simp; omega) | omega) _) | (refine up_trans ?_ (by with_reducible assumption))))⟩
  have hn0 := (unhide HO0).2 rfl
  clear HO0
  cases o1
  rotate_left
  · have hov := (unhide HO1).1 rfl
    clear HO1 HO2
    simp only [Bool.false_or, Bool.true_or]
    go_enter Try.func77, Try.ntmps77
    go_upto_region 2 with (go_at_call 55; (with_reducible refine (unhide HP _ (by repeat' (first | (with_reducible exact up_refl _) | (with_reducible assumption) | (with_reducible refine up_alloc ?_ _) | (with_reducible refine up_drewN ?_ _) | (with_reducible refine up_drew ?_) | (with_reducible refine up_set ?_ (by first | (simp; done) | (simp; omega) | omega) _) | (refine up_trans ?_ (by with_reducible assumption))))).mono ?_); rintro e w1 ⟨rfl, hb1⟩)
    refine at_wp (fun W1 hW1 => ?_)
    have L1 : Bx W1 w1.heap.size [.int .i64 p0, .int .i64 p1, .int .i64 p2] := by rw [hW1]; exact bx_new w1 _ 30
    have U1 : Up w W1 := by rw [hW1]; exact (by repeat' (first | (with_reducible exact up_refl _) | (with_reducible assumption) | (with_reducible refine up_alloc ?_ _) | (with_reducible refine up_drewN ?_ _) | (with_reducible refine up_drew ?_) | (with_reducible refine up_set ?_ (by first | (simp; done) | (simp; omega) | omega) _) | (refine up_trans ?_ (by with_reducible assumption))))
    clear hW1 hb1
    obtain ⟨q0, q1, q2⟩ := bx3 L1
    go_wp2_with fail
    refine wp_loop_rounds 4 ?_
    have m0 : ∀ p : UpW W1, p.v.cell? ⟨w1.heap.size, 0, none⟩ = some (.int .i64 p0) := fun p => (bx3 (bx_up L1 p.up)).1
    rw [rounds_succ]
    go_wp2_with fail
    refine wp_upq (by kernel_rfl) (by kernel_rfl) ?_; (repeat (go_big_quiet_step (fail))); refine wpQuiet_nil ?_; intro _ hw'; obtain ⟨pq, hw''⟩ := hw'; subst hw''; have hpq := pq.up
    generalize pq.v = W2 at hpq ⊢
    have L2 := bx_up L1 hpq
    have U2 := up_trans U1 hpq
    clear m0 hpq
    go_wp2_with fail
    have m1 : ∀ p : UpW W2, p.v.cell? ⟨w1.heap.size, 1, none⟩ = some (.int .i64 p1) := fun p => (bx3 (bx_up L2 p.up)).2.1
    rw [rounds_succ]
    go_wp2_with fail
    refine wp_upq (by kernel_rfl) (by kernel_rfl) ?_; (repeat (go_big_quiet_step (fail))); refine wpQuiet_nil ?_; intro _ hw'; obtain ⟨pq, hw''⟩ := hw'; subst hw''; have hpq := pq.up
    generalize pq.v = W3 at hpq ⊢
    have L3 := bx_up L2 hpq
    have U3 := up_trans U2 hpq
    clear m1 hpq
    go_wp2_with fail
    go_ret
    exact ⟨rfl, (by repeat' (first | (with_reducible exact up_refl _) | (with_reducible assumption) | (with_reducible refine up_alloc ?_ _) | (with_reducible refine up_drewN ?_ _) | (with_reducible refine up_drew ?_) | (with_reducible refine up_set ?_ (by first | (simp; done) | (simp; omega) | omega) _) | (refine up_trans ?_ (by with_reducible assumption))))⟩
  have hn1 := (unhide HO1).2 rfl
  clear HO1
  cases o2
  rotate_left
  · have hov := (unhide HO2).1 rfl
    clear HO2
    simp only [Bool.false_or]
    go_enter Try.func77, Try.ntmps77
    go_upto_region 2 with (go_at_call 55; (with_reducible refine (unhide HP _ (by repeat' (first | (with_reducible exact up_refl _) | (with_reducible assumption) | (with_reducible refine up_alloc ?_ _) | (with_reducible refine up_drewN ?_ _) | (with_reducible refine up_drew ?_) | (with_reducible refine up_set ?_ (by first | (simp; done) | (simp; omega) | omega) _) | (refine up_trans ?_ (by with_reducible assumption))))).mono ?_); rintro e w1 ⟨rfl, hb1⟩)
    refine at_wp (fun W1 hW1 => ?_)
    have L1 : Bx W1 w1.heap.size [.int .i64 p0, .int .i64 p1, .int .i64 p2] := by rw [hW1]; exact bx_new w1 _ 30
    have U1 : Up w W1 := by rw [hW1]; exact (by repeat' (first | (with_reducible exact up_refl _) | (with_reducible assumption) | (with_reducible refine up_alloc ?_ _) | (with_reducible refine up_drewN ?_ _) | (with_reducible refine up_drew ?_) | (with_reducible refine up_set ?_ (by first | (simp; done) | (simp; omega) | omega) _) | (refine up_trans ?_ (by with_reducible assumption))))
    clear hW1 hb1
    obtain ⟨q0, q1, q2⟩ := bx3 L1
    go_wp2_with fail
    refine wp_loop_rounds 4 ?_
    have m0 : ∀ p : UpW W1, p.v.cell? ⟨w1.heap.size, 0, none⟩ = some (.int .i64 p0) := fun p => (bx3 (bx_up L1 p.up)).1
    rw [rounds_succ]
    go_wp2_with fail
    refine wp_upq (by kernel_rfl) (by kernel_rfl) ?_; (repeat (go_big_quiet_step (fail))); refine wpQuiet_nil ?_; intro _ hw'; obtain ⟨pq, hw''⟩ := hw'; subst hw''; have hpq := pq.up
    generalize pq.v = W2 at hpq ⊢
    have L2 := bx_up L1 hpq
    have U2 := up_trans U1 hpq
    clear m0 hpq
    go_wp2_with fail
    have m1 : ∀ p : UpW W2, p.v.cell? ⟨w1.heap.size, 1, none⟩ = some (.int .i64 p1) := fun p => (bx3 (bx_up L2 p.up)).2.1
    rw [rounds_succ]
    go_wp2_with fail
    refine wp_upq (by kernel_rfl) (by kernel_rfl) ?_; (repeat (go_big_quiet_step (fail))); refine wpQuiet_nil ?_; intro _ hw'; obtain ⟨pq, hw''⟩ := hw'; subst hw''; have hpq := pq.up
    generalize pq.v = W3 at hpq ⊢
    have L3 := bx_up L2 hpq
    have U3 := up_trans U2 hpq
    clear m1 hpq
    go_wp2_with fail
    have m2 : ∀ p : UpW W3, p.v.cell? ⟨w1.heap.size, 2, none⟩ = some (.int .i64 p2) := fun p => (bx3 (bx_up L3 p.up)).2.2
    rw [rounds_succ]
    go_wp2_with fail
    refine wp_upq (by kernel_rfl) (by kernel_rfl) ?_; (repeat (go_big_quiet_step (fail))); refine wpQuiet_nil ?_; intro _ hw'; obtain ⟨pq, hw''⟩ := hw'; subst hw''; have hpq := pq.up
    generalize pq.v = W4 at hpq ⊢
    have L4 := bx_up L3 hpq
    have U4 := up_trans U3 hpq
    clear m2 hpq
    go_wp2_with fail
    go_ret
    exact ⟨rfl, (by repeat' (first | (with_reducible exact up_refl _) | (with_reducible assumption) | (with_reducible refine up_alloc ?_ _) | (with_reducible refine up_drewN ?_ _) | (with_reducible refine up_drew ?_) | (with_reducible refine up_set ?_ (by first | (simp; done) | (simp; omega) | omega) _) | (refine up_trans ?_ (by with_reducible assumption))))⟩
  have hn2 := (unhide HO2).2 rfl
  clear HO2
  simp only [Bool.false_or]
  go_enter Try.func77, Try.ntmps77
  go_upto_region 2 with (go_at_call 55; (with_reducible refine (unhide HP _ (by repeat' (first | (with_reducible exact up_refl _) | (with_reducible assumption) | (with_reducible refine up_alloc ?_ _) | (with_reducible refine up_drewN ?_ _) | (with_reducible refine up_drew ?_) | (with_reducible refine up_set ?_ (by first | (simp; done) | (simp; omega) | omega) _) | (refine up_trans ?_ (by with_reducible assumption))))).mono ?_); rintro e w1 ⟨rfl, hb1⟩)
  refine at_wp (fun W1 hW1 => ?_)
  have L1 : Bx W1 w1.heap.size [.int .i64 p0, .int .i64 p1, .int .i64 p2] := by rw [hW1]; exact bx_new w1 _ 30
  have U1 : Up w W1 := by rw [hW1]; exact (by repeat' (first | (with_reducible exact up_refl _) | (with_reducible assumption) | (with_reducible refine up_alloc ?_ _) | (with_reducible refine up_drewN ?_ _) | (with_reducible refine up_drew ?_) | (with_reducible refine up_set ?_ (by first | (simp; done) | (simp; omega) | omega) _) | (refine up_trans ?_ (by with_reducible assumption))))
  clear hW1 hb1
  obtain ⟨q0, q1, q2⟩ := bx3 L1
  go_wp2_with fail
  refine wp_loop_rounds 4 ?_
  have m0 : ∀ p : UpW W1, p.v.cell? ⟨w1.heap.size, 0, none⟩ = some (.int .i64 p0) := fun p => (bx3 (bx_up L1 p.up)).1
  rw [rounds_succ]
  go_wp2_with fail
  refine wp_upq (by kernel_rfl) (by kernel_rfl) ?_; (repeat (go_big_quiet_step (fail))); refine wpQuiet_nil ?_; intro _ hw'; obtain ⟨pq, hw''⟩ := hw'; subst hw''; have hpq := pq.up
  generalize pq.v = W2 at hpq ⊢
  have L2 := bx_up L1 hpq
  have U2 := up_trans U1 hpq
  clear m0 hpq
  go_wp2_with fail
  have m1 : ∀ p : UpW W2, p.v.cell? ⟨w1.heap.size, 1, none⟩ = some (.int .i64 p1) := fun p => (bx3 (bx_up L2 p.up)).2.1
  rw [rounds_succ]
  go_wp2_with fail
  refine wp_upq (by kernel_rfl) (by kernel_rfl) ?_; (repeat (go_big_quiet_step (fail))); refine wpQuiet_nil ?_; intro _ hw'; obtain ⟨pq, hw''⟩ := hw'; subst hw''; have hpq := pq.up
  generalize pq.v = W3 at hpq ⊢
  have L3 := bx_up L2 hpq
  have U3 := up_trans U2 hpq
  clear m1 hpq
  go_wp2_with fail
  have m2 : ∀ p : UpW W3, p.v.cell? ⟨w1.heap.size, 2, none⟩ = some (.int .i64 p2) := fun p => (bx3 (bx_up L3 p.up)).2.2
  rw [rounds_succ]
  go_wp2_with fail
  refine wp_upq (by kernel_rfl) (by kernel_rfl) ?_; (repeat (go_big_quiet_step (fail))); refine wpQuiet_nil ?_; intro _ hw'; obtain ⟨pq, hw''⟩ := hw'; subst hw''; have hpq := pq.up
  generalize pq.v = W4 at hpq ⊢
  have L4 := bx_up L3 hpq
  have U4 := up_trans U3 hpq
  clear m2 hpq
  go_wp2_with fail
  rw [rounds_succ]
  go_wp2_with fail
  go_ret
  exact ⟨rfl, (by repeat' (first | (with_reducible exact up_refl _) | (with_reducible assumption) | (with_reducible refine up_alloc ?_ _) | (with_reducible refine up_drewN ?_ _) | (with_reducible refine up_drew ?_) | (with_reducible refine up_set ?_ (by first | (simp; done) | (simp; omega) | omega) _) | (refine up_trans ?_ (by with_reducible assumption))))⟩
end Go.Proofs.Ytgjcpgmnflpdkaa
