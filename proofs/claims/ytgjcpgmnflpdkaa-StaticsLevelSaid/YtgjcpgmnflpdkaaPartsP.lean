/- The parts as they are handed out; which group proves that a platform tips. -/
import Derived.Test.YtgjcpgmnflpdkaaLift
import Derived.Deep.DeepCutAuto
namespace Go.Proofs.Ytgjcpgmnflpdkaa
open Go.RowKit Go.Proofs.Gn
def paD (ps : List Gs.Sup) : Int := pv (Gs.wh ps) (Gs.wh ps)
def pa0 (ps : List Gs.Sup) (X Y : Int) : Int := pv (Gs.wh ps) (Gs.q0 ps X Y)
def pa1 (ps : List Gs.Sup) (X Y : Int) : Int := pv (Gs.wh ps) (Gs.q1 ps X Y)
def pa2 (ps : List Gs.Sup) (X Y : Int) : Int := pv (Gs.wh ps) (Gs.q2 ps X Y)
theorem ptE_ok {X Y : Int} (h : ptE X Y = 0) : (-262144 ≤ X ∧ X ≤ 262144) ∧ (-262144 ≤ Y ∧ Y ≤ 262144) := by
  unfold ptE ptB at h
  split at h
  · rename_i h2
    rw [Bool.and_eq_true, win_iff, win_iff] at h2
    exact h2
  · cases h
theorem atE_ok {ps : List Gs.Sup} {X Y : Int} (h : atE ps X Y = 0) : chE ps = 0 ∧ ptE X Y = 0 := by
  unfold atE at h
  split at h
  · exact ⟨by assumption, h⟩
  · exact absurd h (by assumption)
theorem p_parts9 {ps : List Gs.Sup} {X Y : Int} (h : atE ps X Y = 0) (w : World) :
    Calls Try.prog 49 #[n9 ps, pt X Y] w fun e w' => e = .returned (.tuple #[.agg #[.int .i64 (pa0 ps X Y), .int .i64 (pa1 ps X Y), .int .i64 (pa2 ps X Y)], .int .i64 (paD ps)]) ∧ Up w w' := by
  obtain ⟨h1, h2⟩ := atE_ok h
  obtain ⟨o1, o2, o3, o4⟩ := chE_ok h1
  obtain ⟨a, b⟩ := ptE_ok h2
  exact p_parts (Gs.row_of o1 o2 0 (.inl rfl)) (Gs.row_of o1 o2 1 (.inr (.inl rfl))) (Gs.row_of o1 o2 2 (.inr (.inr rfl))) a b w
def paV (ps : List Gs.Sup) (X Y v : Int) : Int := if atE ps X Y = 0 then v else 0
set_option maxHeartbeats 8000000 in
theorem p_Parts (A : Option Addr) (ps : List Gs.Sup) (cap : Nat) (X Y : Int) (hn : ps.length ≤ 9223372036854775807) (w : World) (h : Sups w A ps) :
    Calls Try.prog 17 #[.slice A ps.length cap, pt X Y] w fun e w' => e = .returned (.tuple #[.agg #[.int .i64 (paV ps X Y (pa0 ps X Y)), .int .i64 (paV ps X Y (pa1 ps X Y)), .int .i64 (paV ps X Y (pa2 ps X Y))], .int .i64 (paV ps X Y (paD ps)), .int .i64 (atE ps X Y)]) ∧ Up w w' := by
  have hC := hide (fun (W : World) (hW : Up w W) => p_checkAt A ps cap X Y hn W (sups_up h hW))
  have hS := hide (fun (e : atE ps X Y = 0) (W : World) (hW : Up w W) => p_sums9 A ps cap (chE_ok (atE_ok e).1).1 (chE_ok (atE_ok e).1).2.1 W (sups_up h hW))
  have hP := hide (fun (e : atE ps X Y = 0) (W : World) => p_parts9 e W)
  unfold paV
  clear h hn
  obtain ⟨n, hN⟩ : ∃ n, ps.length = n := ⟨_, rfl⟩
  rw [hN] at hC hS ⊢
  clear hN
  generalize pa0 ps X Y = l0 at *
  generalize pa1 ps X Y = l1 at *
  generalize pa2 ps X Y = l2 at *
  generalize paD ps = D at *
  generalize atE ps X Y = C at *
  by_cases c : C = 0
  · subst c
    simp only [if_pos]
    have hS2 := hide (unhide hS rfl)
    have hP2 := hide (unhide hP rfl)
    clear hS hP
    generalize n9 ps = m at *
    go_enter Try.func17, Try.ntmps17
    go_wp2_with (go_at_call 48; (with_reducible refine (unhide hC _ (by repeat' (first | (with_reducible exact up_refl _) | (with_reducible assumption) | (with_reducible refine up_alloc ?_ _) | (with_reducible refine up_drewN ?_ _) | (with_reducible refine up_drew ?_) | (with_reducible refine up_set ?_ (by first | (simp; done) | (simp; omega) | omega) _) | (refine up_trans ?_ (by with_reducible assumption))))).mono ?_); rintro e w1 ⟨rfl, hb⟩; have k0_0 : w1.cell? ⟨w.heap.size, 0, none⟩ = some (.int .i64 X) := up_cell hb (by first | (with_reducible assumption) | (refine alloc_cell _ ?_; with_reducible assumption) | go_cell); have k0_1 : w1.cell? ⟨w.heap.size, 1, none⟩ = some (.int .i64 Y) := up_cell hb (by first | (with_reducible assumption) | (refine alloc_cell _ ?_; with_reducible assumption) | go_cell); have k1_0 : w1.cell? ⟨w.heap.size + 1, 0, none⟩ = some (.int .i64 0) := up_cell hb (by first | (with_reducible assumption) | (refine alloc_cell _ ?_; with_reducible assumption) | go_cell); have f1_0 : w1.frozen? ⟨w.heap.size + 1, 0, none⟩ = false := up_frozen hb (v := .int .i64 0) (by first | (with_reducible assumption) | (refine alloc_cell _ ?_; with_reducible assumption) | go_cell) (by first | (with_reducible assumption) | (refine alloc_frozen (v := .int .i64 0) _ ?_ ?_ <;> with_reducible assumption) | (simp; done) | (go_simp; done)); have k1_1 : w1.cell? ⟨w.heap.size + 1, 1, none⟩ = some (.int .i64 0) := up_cell hb (by first | (with_reducible assumption) | (refine alloc_cell _ ?_; with_reducible assumption) | go_cell); have f1_1 : w1.frozen? ⟨w.heap.size + 1, 1, none⟩ = false := up_frozen hb (v := .int .i64 0) (by first | (with_reducible assumption) | (refine alloc_cell _ ?_; with_reducible assumption) | go_cell) (by first | (with_reducible assumption) | (refine alloc_frozen (v := .int .i64 0) _ ?_ ?_ <;> with_reducible assumption) | (simp; done) | (go_simp; done)); have k1_2 : w1.cell? ⟨w.heap.size + 1, 2, none⟩ = some (.int .i64 0) := up_cell hb (by first | (with_reducible assumption) | (refine alloc_cell _ ?_; with_reducible assumption) | go_cell); have f1_2 : w1.frozen? ⟨w.heap.size + 1, 2, none⟩ = false := up_frozen hb (v := .int .i64 0) (by first | (with_reducible assumption) | (refine alloc_cell _ ?_; with_reducible assumption) | go_cell) (by first | (with_reducible assumption) | (refine alloc_frozen (v := .int .i64 0) _ ?_ ?_ <;> with_reducible assumption) | (simp; done) | (go_simp; done)))
    have U1 : Up w w1 := (by repeat' (first | (with_reducible exact up_refl _) | (with_reducible assumption) | (with_reducible refine up_alloc ?_ _) | (with_reducible refine up_drewN ?_ _) | (with_reducible refine up_drew ?_) | (with_reducible refine up_set ?_ (by first | (simp; done) | (simp; omega) | omega) _) | (refine up_trans ?_ (by with_reducible assumption))))
    have z1 := up_size hb
    simp at z1
    clear hb
    have a0 := fun o => alloc_cell o k0_0
    have a1 := fun o => alloc_cell o k0_1
    have a2 := fun o => alloc_cell (W := w1.drew) o k0_0
    have a3 := fun o => alloc_cell (W := w1.drew) o k0_1
    go_cut [8, 9] (fun s8 s9 wx => ∃ g : Nat, s8 = .pointer (some ⟨g, 0, none⟩) ∧ s9 = .int .i64 D ∧ Bx wx g [.int .i64 l0, .int .i64 l1, .int .i64 l2] ∧ w1.heap.size ≤ g ∧ Up w1 wx)
    case first =>
      go_region_with (first | (go_at_call 47; (with_reducible refine (unhide hS2 _ (by repeat' (first | (with_reducible exact up_refl _) | (with_reducible assumption) | (with_reducible refine up_alloc ?_ _) | (with_reducible refine up_drewN ?_ _) | (with_reducible refine up_drew ?_) | (with_reducible refine up_set ?_ (by first | (simp; done) | (simp; omega) | omega) _) | (refine up_trans ?_ (by with_reducible assumption))))).mono ?_); rintro e w2 ⟨rfl, hb2⟩; have zb := bx_up (bx_new _ [.int .i64 0, .int .i64 0, .int .i64 0] 30) hb2; have d0 := up_cell hb2 (p := ⟨w.heap.size, 0, none⟩) (v := .int .i64 X) (by go_cell); have d1 := up_cell hb2 (p := ⟨w.heap.size, 1, none⟩) (v := .int .i64 Y) (by go_cell); have e0 := fun o => alloc_cell o d0; have e1 := fun o => alloc_cell o d1) | (go_at_call 47; (with_reducible refine (unhide hS2 _ (by repeat' (first | (with_reducible exact up_refl _) | (with_reducible assumption) | (with_reducible refine up_alloc ?_ _) | (with_reducible refine up_drewN ?_ _) | (with_reducible refine up_drew ?_) | (with_reducible refine up_set ?_ (by first | (simp; done) | (simp; omega) | omega) _) | (refine up_trans ?_ (by with_reducible assumption))))).mono ?_); rintro e w2 ⟨rfl, hb2⟩; have zb := bx_up (bx_drew (bx_new _ [.int .i64 0, .int .i64 0, .int .i64 0] 30)) hb2; have d0 := up_cell hb2 (p := ⟨w.heap.size, 0, none⟩) (v := .int .i64 X) (by go_cell); have d1 := up_cell hb2 (p := ⟨w.heap.size, 1, none⟩) (v := .int .i64 Y) (by go_cell); have e0 := fun o => alloc_cell o d0; have e1 := fun o => alloc_cell o d1) | (go_at_call 47; (with_reducible refine (unhide hS2 _ (by repeat' (first | (with_reducible exact up_refl _) | (with_reducible assumption) | (with_reducible refine up_alloc ?_ _) | (with_reducible refine up_drewN ?_ _) | (with_reducible refine up_drew ?_) | (with_reducible refine up_set ?_ (by first | (simp; done) | (simp; omega) | omega) _) | (refine up_trans ?_ (by with_reducible assumption))))).mono ?_); rintro e w2 ⟨rfl, hb2⟩; have d0 := up_cell hb2 (p := ⟨w.heap.size, 0, none⟩) (v := .int .i64 X) (by go_cell); have d1 := up_cell hb2 (p := ⟨w.heap.size, 1, none⟩) (v := .int .i64 Y) (by go_cell); have e0 := fun o => alloc_cell o d0; have e1 := fun o => alloc_cell o d1) | (go_at_call 49; (with_reducible refine (unhide hP2 _).mono ?_); rintro e w3 ⟨rfl, hb3⟩; have zb2 := bx_up zb hb3; obtain ⟨z3, z4, z5⟩ := bx3 zb2; obtain ⟨f3, f4, f5⟩ := bxf3 zb2) | (go_at_call 49; (with_reducible refine (unhide hP2 _).mono ?_); rintro e w3 ⟨rfl, hb3⟩; have zb2 := bx_up (bx_new _ [.int .i64 0, .int .i64 0, .int .i64 0] 30) hb3; obtain ⟨z3, z4, z5⟩ := bx3 zb2; obtain ⟨f3, f4, f5⟩ := bxf3 zb2) | (go_at_call 49; (with_reducible refine (unhide hP2 _).mono ?_); rintro e w3 ⟨rfl, hb3⟩; have zb2 := bx_up (bx_drew (bx_new _ [.int .i64 0, .int .i64 0, .int .i64 0] 30)) hb3; obtain ⟨z3, z4, z5⟩ := bx3 zb2; obtain ⟨f3, f4, f5⟩ := bxf3 zb2) | (go_at_call 49; (with_reducible refine (unhide hP2 _).mono ?_); rintro e w3 ⟨rfl, hb3⟩))
      all_goals
        have u2 : Up w1 w2 := (by repeat' (first | (with_reducible exact up_refl _) | (with_reducible assumption) | (with_reducible refine up_alloc ?_ _) | (with_reducible refine up_drewN ?_ _) | (with_reducible refine up_drew ?_) | (with_reducible refine up_set ?_ (by first | (simp; done) | (simp; omega) | omega) _) | (refine up_trans ?_ (by with_reducible assumption))))
        have u3 : Up w1 w3 := (by repeat' (first | (with_reducible exact up_refl _) | (with_reducible assumption) | (with_reducible refine up_alloc ?_ _) | (with_reducible refine up_drewN ?_ _) | (with_reducible refine up_drew ?_) | (with_reducible refine up_set ?_ (by first | (simp; done) | (simp; omega) | omega) _) | (refine up_trans ?_ (by with_reducible assumption))))
        have t2 := up_size u2
        have t3 := up_size u3
        go_wp2_with fail
        go_meet
        first
          | (refine ⟨w3.heap.size, by with_reducible rfl, rfl, ?_, t3, (by repeat' (first | (with_reducible exact up_refl _) | (with_reducible assumption) | (with_reducible refine up_alloc ?_ _) | (with_reducible refine up_drewN ?_ _) | (with_reducible refine up_drew ?_) | (with_reducible refine up_set ?_ (by first | (simp; done) | (simp; omega) | omega) _) | (refine up_trans ?_ (by with_reducible assumption))))⟩; exact bx_new w3 _ 30)
          | (refine ⟨w1.heap.size, by with_reducible rfl, rfl, ?_, Nat.le_refl _, (by repeat' (first | (with_reducible exact up_refl _) | (with_reducible assumption) | (with_reducible refine up_alloc ?_ _) | (with_reducible refine up_drewN ?_ _) | (with_reducible refine up_drew ?_) | (with_reducible refine up_set ?_ (by first | (simp; done) | (simp; omega) | omega) _) | (refine up_trans ?_ (by with_reducible assumption))))⟩; exact bx_set3 zb2)
          | (refine ⟨w2.heap.size, by with_reducible rfl, rfl, ?_, t2, (by repeat' (first | (with_reducible exact up_refl _) | (with_reducible assumption) | (with_reducible refine up_alloc ?_ _) | (with_reducible refine up_drewN ?_ _) | (with_reducible refine up_drew ?_) | (with_reducible refine up_set ?_ (by first | (simp; done) | (simp; omega) | omega) _) | (refine up_trans ?_ (by with_reducible assumption))))⟩; exact bx_set3 zb2)
    case rest =>
      obtain ⟨g, rfl, rfl, hB, hg, hu⟩ := hcut
      have e2 := up_cell hu k1_0
      have e3 := up_cell hu k1_1
      have e4 := up_cell hu k1_2
      have e5 := up_frozen hu k1_0 f1_0
      have e6 := up_frozen hu k1_1 f1_1
      have e7 := up_frozen hu k1_2 f1_2
      have Z := mk_bx3 e2 e3 e4 e5 e6 e7
      have U2 := up_trans U1 hu
      obtain ⟨q0, q1, q2⟩ := bx3 hB
      clear a0 a1 a2 a3 k0_0 k0_1 k1_0 k1_1 k1_2 f1_0 f1_1 f1_2 hu hS2 hP2 hC
      go_wp2_with fail
      obtain ⟨W9, hW9⟩ : ∃ W9 : World, W9 = (((wc.setCell ⟨w.heap.size + 1, 0, none⟩ (.int .i64 l0)).setCell ⟨w.heap.size + 1, 1, none⟩ (.int .i64 l1)).setCell ⟨w.heap.size + 1, 2, none⟩ (.int .i64 l2)) := ⟨_, rfl⟩
      rw [← hW9]
      have B9 : Bx W9 (w.heap.size + 1) [.int .i64 l0, .int .i64 l1, .int .i64 l2] := by rw [hW9]; exact bx_set3 Z
      have U9 : Up w W9 := by rw [hW9]; exact (by repeat' (first | (with_reducible exact up_refl _) | (with_reducible assumption) | (with_reducible refine up_alloc ?_ _) | (with_reducible refine up_drewN ?_ _) | (with_reducible refine up_drew ?_) | (with_reducible refine up_set ?_ (by first | (simp; done) | (simp; omega) | omega) _) | (refine up_trans ?_ (by with_reducible assumption))))
      clear hW9
      obtain ⟨p0, p1, p2⟩ := bx3 B9
      refine bodyPost_ret (v := .tuple #[.agg #[.int .i64 l0, .int .i64 l1, .int .i64 l2], .int .i64 D, .int .i64 0]) ?_ rfl ⟨rfl, U9⟩
      simp [results, Try.results17, go_sem, p0, p1, p2]
  · simp only [if_neg c]
    have c2 : (C == 0) = false := by simp; exact c
    clear hS hP
    go_enter Try.func17, Try.ntmps17
    go_wp2_with (go_at_call 48; (with_reducible refine (unhide hC _ (by repeat' (first | (with_reducible exact up_refl _) | (with_reducible assumption) | (with_reducible refine up_alloc ?_ _) | (with_reducible refine up_drewN ?_ _) | (with_reducible refine up_drew ?_) | (with_reducible refine up_set ?_ (by first | (simp; done) | (simp; omega) | omega) _) | (refine up_trans ?_ (by with_reducible assumption))))).mono ?_); rintro e w1 ⟨rfl, hb⟩; have k0_0 : w1.cell? ⟨w.heap.size, 0, none⟩ = some (.int .i64 X) := up_cell hb (by first | (with_reducible assumption) | (refine alloc_cell _ ?_; with_reducible assumption) | go_cell); have k0_1 : w1.cell? ⟨w.heap.size, 1, none⟩ = some (.int .i64 Y) := up_cell hb (by first | (with_reducible assumption) | (refine alloc_cell _ ?_; with_reducible assumption) | go_cell); have k1_0 : w1.cell? ⟨w.heap.size + 1, 0, none⟩ = some (.int .i64 0) := up_cell hb (by first | (with_reducible assumption) | (refine alloc_cell _ ?_; with_reducible assumption) | go_cell); have f1_0 : w1.frozen? ⟨w.heap.size + 1, 0, none⟩ = false := up_frozen hb (v := .int .i64 0) (by first | (with_reducible assumption) | (refine alloc_cell _ ?_; with_reducible assumption) | go_cell) (by first | (with_reducible assumption) | (refine alloc_frozen (v := .int .i64 0) _ ?_ ?_ <;> with_reducible assumption) | (simp; done) | (go_simp; done)); have k1_1 : w1.cell? ⟨w.heap.size + 1, 1, none⟩ = some (.int .i64 0) := up_cell hb (by first | (with_reducible assumption) | (refine alloc_cell _ ?_; with_reducible assumption) | go_cell); have f1_1 : w1.frozen? ⟨w.heap.size + 1, 1, none⟩ = false := up_frozen hb (v := .int .i64 0) (by first | (with_reducible assumption) | (refine alloc_cell _ ?_; with_reducible assumption) | go_cell) (by first | (with_reducible assumption) | (refine alloc_frozen (v := .int .i64 0) _ ?_ ?_ <;> with_reducible assumption) | (simp; done) | (go_simp; done)); have k1_2 : w1.cell? ⟨w.heap.size + 1, 2, none⟩ = some (.int .i64 0) := up_cell hb (by first | (with_reducible assumption) | (refine alloc_cell _ ?_; with_reducible assumption) | go_cell); have f1_2 : w1.frozen? ⟨w.heap.size + 1, 2, none⟩ = false := up_frozen hb (v := .int .i64 0) (by first | (with_reducible assumption) | (refine alloc_cell _ ?_; with_reducible assumption) | go_cell) (by first | (with_reducible assumption) | (refine alloc_frozen (v := .int .i64 0) _ ?_ ?_ <;> with_reducible assumption) | (simp; done) | (go_simp; done)))
    have Z := mk_bx3 k1_0 k1_1 k1_2 f1_0 f1_1 f1_2
    obtain ⟨W9, hW9⟩ : ∃ W9 : World, W9 = (((w1.setCell ⟨w.heap.size + 1, 0, none⟩ (.int .i64 0)).setCell ⟨w.heap.size + 1, 1, none⟩ (.int .i64 0)).setCell ⟨w.heap.size + 1, 2, none⟩ (.int .i64 0)) := ⟨_, rfl⟩
    rw [← hW9]
    have B9 : Bx W9 (w.heap.size + 1) [.int .i64 0, .int .i64 0, .int .i64 0] := by rw [hW9]; exact bx_set3 Z
    have U9 : Up w W9 := by rw [hW9]; exact (by repeat' (first | (with_reducible exact up_refl _) | (with_reducible assumption) | (with_reducible refine up_alloc ?_ _) | (with_reducible refine up_drewN ?_ _) | (with_reducible refine up_drew ?_) | (with_reducible refine up_set ?_ (by first | (simp; done) | (simp; omega) | omega) _) | (refine up_trans ?_ (by with_reducible assumption))))
    clear hW9 k1_0 k1_1 k1_2 f1_0 f1_1 f1_2 Z
    obtain ⟨p0, p1, p2⟩ := bx3 B9
    refine bodyPost_ret (v := .tuple #[.agg #[.int .i64 0, .int .i64 0, .int .i64 0], .int .i64 0, .int .i64 C]) ?_ rfl ⟨rfl, U9⟩
    simp [results, Try.results17, go_sem, p0, p1, p2]
end Go.Proofs.Ytgjcpgmnflpdkaa
