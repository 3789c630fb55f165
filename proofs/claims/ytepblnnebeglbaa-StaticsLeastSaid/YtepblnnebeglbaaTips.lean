/- Which group proves that a platform tips. -/
import Derived.Test.YtepblnnebeglbaaPartsP
namespace Go.Proofs.Ytepblnnebeglbaa
open Go.RowKit Go.Proofs.Gn
def lf (ps : List Gs.Sup) (X Y : Int) : Int := lif (pa0 ps X Y) (pa1 ps X Y) (pa2 ps X Y)
def tiE (ps : List Gs.Sup) (X Y : Int) : Int := if atE ps X Y = 0 then (if 0 ≤ lf ps X Y then 0 else 5) else atE ps X Y
def tiV (ps : List Gs.Sup) (X Y : Int) : Int := if atE ps X Y = 0 then (if 0 ≤ lf ps X Y then lf ps X Y else 0) else 0
set_option maxHeartbeats 8000000 in
theorem p_Tips (A : Option Addr) (ps : List Gs.Sup) (cap : Nat) (X Y : Int) (hn : ps.length ≤ 9223372036854775807) (w : World) (h : Sups w A ps) :
    Calls Try.prog 13 #[.slice A ps.length cap, pt X Y] w fun e w' => e = .returned (.tuple #[.int .i64 (tiV ps X Y), .int .i64 (tiE ps X Y)]) ∧ Up w w' := by
  have hC := hide (fun (W : World) (hW : Up w W) => p_checkAt A ps cap X Y hn W (sups_up h hW))
  have hS := hide (fun (e : atE ps X Y = 0) (W : World) (hW : Up w W) => p_sums9 A ps cap (chE_ok (atE_ok e).1).1 (chE_ok (atE_ok e).1).2.1 W (sups_up h hW))
  have hP := hide (fun (e : atE ps X Y = 0) (W : World) => p_parts9 e W)
  have hL := hide (fun (W : World) => p_lifted (pa0 ps X Y) (pa1 ps X Y) (pa2 ps X Y) W)
  have lb := lif_bd (pa0 ps X Y) (pa1 ps X Y) (pa2 ps X Y)
  unfold tiV tiE lf
  clear h hn
  obtain ⟨n, hN⟩ : ∃ n, ps.length = n := ⟨_, rfl⟩
  rw [hN] at hC hS ⊢
  clear hN
  generalize pa0 ps X Y = l0 at *
  generalize pa1 ps X Y = l1 at *
  generalize pa2 ps X Y = l2 at *
  generalize paD ps = D at *
  generalize atE ps X Y = C at *
  generalize lif l0 l1 l2 = L at *
  by_cases c : C = 0
  · subst c
    rw [if_pos rfl, if_pos rfl]
    obtain ⟨E, hE⟩ : ∃ E : Int, (if 0 ≤ L then 0 else 5) = E := ⟨_, rfl⟩
    obtain ⟨V, hV⟩ : ∃ E : Int, (if 0 ≤ L then L else 0) = E := ⟨_, rfl⟩
    rw [hE, hV]
    have HE := hide (And.intro hE hV)
    clear hE hV
    have hS2 := hide (unhide hS rfl)
    have hP2 := hide (unhide hP rfl)
    clear hS hP
    generalize n9 ps = m at *
    go_enter Try.func13, Try.ntmps13
    go_wp2_with (go_at_call 27; (with_reducible refine (unhide hC _ (by repeat' (first | (with_reducible exact up_refl _) | (with_reducible assumption) | (with_reducible refine up_alloc ?_ _) | (with_reducible refine up_drewN ?_ _) | (with_reducible refine up_drew ?_) | (with_reducible refine up_set ?_ (by first | (simp; done) | (simp; omega) | omega) _) | (refine up_trans ?_ (by with_reducible assumption))))).mono ?_); rintro e w1 ⟨rfl, hb⟩; have k0_0 : w1.cell? ⟨w.heap.size, 0, none⟩ = some (.int .i64 X) := up_cell hb (by first | (with_reducible assumption) | (refine alloc_cell _ ?_; with_reducible assumption) | go_cell); have k0_1 : w1.cell? ⟨w.heap.size, 1, none⟩ = some (.int .i64 Y) := up_cell hb (by first | (with_reducible assumption) | (refine alloc_cell _ ?_; with_reducible assumption) | go_cell))
    have U1 : Up w w1 := (by repeat' (first | (with_reducible exact up_refl _) | (with_reducible assumption) | (with_reducible refine up_alloc ?_ _) | (with_reducible refine up_drewN ?_ _) | (with_reducible refine up_drew ?_) | (with_reducible refine up_set ?_ (by first | (simp; done) | (simp; omega) | omega) _) | (refine up_trans ?_ (by with_reducible assumption))))
    have z1 := up_size hb
    simp at z1
    clear hb
    have a0 := fun o => alloc_cell o k0_0
    have a1 := fun o => alloc_cell o k0_1
    have a2 := fun o => alloc_cell (W := w1.drew) o k0_0
    have a3 := fun o => alloc_cell (W := w1.drew) o k0_1
    go_cut [7, 8] (fun sa sb wx => ∃ g : Nat, sa = .pointer (some ⟨g, 0, none⟩) ∧ sb = .int .i64 D ∧ Bx wx g [.int .i64 l0, .int .i64 l1, .int .i64 l2] ∧ w1.heap.size ≤ g ∧ Up w1 wx)
    case first =>
      go_region_with (first | (go_at_call 22; (with_reducible refine (unhide hS2 _ (by repeat' (first | (with_reducible exact up_refl _) | (with_reducible assumption) | (with_reducible refine up_alloc ?_ _) | (with_reducible refine up_drewN ?_ _) | (with_reducible refine up_drew ?_) | (with_reducible refine up_set ?_ (by first | (simp; done) | (simp; omega) | omega) _) | (refine up_trans ?_ (by with_reducible assumption))))).mono ?_); rintro e w2 ⟨rfl, hb2⟩; have zb := bx_up (bx_new _ [.int .i64 0, .int .i64 0, .int .i64 0] 36) hb2; have d0 := up_cell hb2 (p := ⟨w.heap.size, 0, none⟩) (v := .int .i64 X) (by go_cell); have d1 := up_cell hb2 (p := ⟨w.heap.size, 1, none⟩) (v := .int .i64 Y) (by go_cell); have e0 := fun o => alloc_cell o d0; have e1 := fun o => alloc_cell o d1) | (go_at_call 22; (with_reducible refine (unhide hS2 _ (by repeat' (first | (with_reducible exact up_refl _) | (with_reducible assumption) | (with_reducible refine up_alloc ?_ _) | (with_reducible refine up_drewN ?_ _) | (with_reducible refine up_drew ?_) | (with_reducible refine up_set ?_ (by first | (simp; done) | (simp; omega) | omega) _) | (refine up_trans ?_ (by with_reducible assumption))))).mono ?_); rintro e w2 ⟨rfl, hb2⟩; have zb := bx_up (bx_drew (bx_new _ [.int .i64 0, .int .i64 0, .int .i64 0] 36)) hb2; have d0 := up_cell hb2 (p := ⟨w.heap.size, 0, none⟩) (v := .int .i64 X) (by go_cell); have d1 := up_cell hb2 (p := ⟨w.heap.size, 1, none⟩) (v := .int .i64 Y) (by go_cell); have e0 := fun o => alloc_cell o d0; have e1 := fun o => alloc_cell o d1) | (go_at_call 22; (with_reducible refine (unhide hS2 _ (by repeat' (first | (with_reducible exact up_refl _) | (with_reducible assumption) | (with_reducible refine up_alloc ?_ _) | (with_reducible refine up_drewN ?_ _) | (with_reducible refine up_drew ?_) | (with_reducible refine up_set ?_ (by first | (simp; done) | (simp; omega) | omega) _) | (refine up_trans ?_ (by with_reducible assumption))))).mono ?_); rintro e w2 ⟨rfl, hb2⟩; have d0 := up_cell hb2 (p := ⟨w.heap.size, 0, none⟩) (v := .int .i64 X) (by go_cell); have d1 := up_cell hb2 (p := ⟨w.heap.size, 1, none⟩) (v := .int .i64 Y) (by go_cell); have e0 := fun o => alloc_cell o d0; have e1 := fun o => alloc_cell o d1) | (go_at_call 21; (with_reducible refine (unhide hP2 _).mono ?_); rintro e w3 ⟨rfl, hb3⟩; have zb2 := bx_up zb hb3; obtain ⟨z3, z4, z5⟩ := bx3 zb2; obtain ⟨f3, f4, f5⟩ := bxf3 zb2) | (go_at_call 21; (with_reducible refine (unhide hP2 _).mono ?_); rintro e w3 ⟨rfl, hb3⟩; have zb2 := bx_up (bx_new _ [.int .i64 0, .int .i64 0, .int .i64 0] 36) hb3; obtain ⟨z3, z4, z5⟩ := bx3 zb2; obtain ⟨f3, f4, f5⟩ := bxf3 zb2) | (go_at_call 21; (with_reducible refine (unhide hP2 _).mono ?_); rintro e w3 ⟨rfl, hb3⟩; have zb2 := bx_up (bx_drew (bx_new _ [.int .i64 0, .int .i64 0, .int .i64 0] 36)) hb3; obtain ⟨z3, z4, z5⟩ := bx3 zb2; obtain ⟨f3, f4, f5⟩ := bxf3 zb2) | (go_at_call 21; (with_reducible refine (unhide hP2 _).mono ?_); rintro e w3 ⟨rfl, hb3⟩))
      all_goals
        have u2 : Up w1 w2 := (by repeat' (first | (with_reducible exact up_refl _) | (with_reducible assumption) | (with_reducible refine up_alloc ?_ _) | (with_reducible refine up_drewN ?_ _) | (with_reducible refine up_drew ?_) | (with_reducible refine up_set ?_ (by first | (simp; done) | (simp; omega) | omega) _) | (refine up_trans ?_ (by with_reducible assumption))))
        have u3 : Up w1 w3 := (by repeat' (first | (with_reducible exact up_refl _) | (with_reducible assumption) | (with_reducible refine up_alloc ?_ _) | (with_reducible refine up_drewN ?_ _) | (with_reducible refine up_drew ?_) | (with_reducible refine up_set ?_ (by first | (simp; done) | (simp; omega) | omega) _) | (refine up_trans ?_ (by with_reducible assumption))))
        have t2 := up_size u2
        have t3 := up_size u3
        go_wp2_with fail
        go_meet
        first
          | (refine ⟨w3.heap.size, by with_reducible rfl, rfl, ?_, t3, (by repeat' (first | (with_reducible exact up_refl _) | (with_reducible assumption) | (with_reducible refine up_alloc ?_ _) | (with_reducible refine up_drewN ?_ _) | (with_reducible refine up_drew ?_) | (with_reducible refine up_set ?_ (by first | (simp; done) | (simp; omega) | omega) _) | (refine up_trans ?_ (by with_reducible assumption))))⟩; exact bx_new w3 _ 36)
          | (refine ⟨w1.heap.size, by with_reducible rfl, rfl, ?_, Nat.le_refl _, (by repeat' (first | (with_reducible exact up_refl _) | (with_reducible assumption) | (with_reducible refine up_alloc ?_ _) | (with_reducible refine up_drewN ?_ _) | (with_reducible refine up_drew ?_) | (with_reducible refine up_set ?_ (by first | (simp; done) | (simp; omega) | omega) _) | (refine up_trans ?_ (by with_reducible assumption))))⟩; exact bx_set3 zb2)
          | (refine ⟨w2.heap.size, by with_reducible rfl, rfl, ?_, t2, (by repeat' (first | (with_reducible exact up_refl _) | (with_reducible assumption) | (with_reducible refine up_alloc ?_ _) | (with_reducible refine up_drewN ?_ _) | (with_reducible refine up_drew ?_) | (with_reducible refine up_set ?_ (by first | (simp; done) | (simp; omega) | omega) _) | (refine up_trans ?_ (by with_reducible assumption))))⟩; exact bx_set3 zb2)
    case rest =>
      obtain ⟨g, rfl, rfl, hB, hg, hu⟩ := hcut
      have U2 := up_trans U1 hu
      obtain ⟨q0, q1, q2⟩ := bx3 hB
      clear a0 a1 a2 a3 k0_0 k0_1 hu hS2 hP2 hC
      by_cases cL : 0 ≤ L
      · obtain ⟨e1, e2⟩ := unhide HE
        rw [if_pos cL] at e1 e2
        subst e1 e2
        go_wp2_with (go_at_call 23; (with_reducible refine (unhide hL _).mono ?_); rintro e w4 ⟨rfl, hb4⟩)
        go_ret2
        exact ⟨rfl, (by repeat' (first | (with_reducible exact up_refl _) | (with_reducible assumption) | (with_reducible refine up_alloc ?_ _) | (with_reducible refine up_drewN ?_ _) | (with_reducible refine up_drew ?_) | (with_reducible refine up_set ?_ (by first | (simp; done) | (simp; omega) | omega) _) | (refine up_trans ?_ (by with_reducible assumption))))⟩
      · obtain ⟨e1, e2⟩ := unhide HE
        rw [if_neg cL] at e1 e2
        subst e1 e2
        go_wp2_with (go_at_call 23; (with_reducible refine (unhide hL _).mono ?_); rintro e w4 ⟨rfl, hb4⟩)
        go_ret2
        exact ⟨rfl, (by repeat' (first | (with_reducible exact up_refl _) | (with_reducible assumption) | (with_reducible refine up_alloc ?_ _) | (with_reducible refine up_drewN ?_ _) | (with_reducible refine up_drew ?_) | (with_reducible refine up_set ?_ (by first | (simp; done) | (simp; omega) | omega) _) | (refine up_trans ?_ (by with_reducible assumption))))⟩
  · rw [if_neg c, if_neg c]
    have c2 : (C == 0) = false := by simp; exact c
    clear hS hP
    go_enter Try.func13, Try.ntmps13
    go_wp2_with (go_at_call 27; (with_reducible refine (unhide hC _ (by repeat' (first | (with_reducible exact up_refl _) | (with_reducible assumption) | (with_reducible refine up_alloc ?_ _) | (with_reducible refine up_drewN ?_ _) | (with_reducible refine up_drew ?_) | (with_reducible refine up_set ?_ (by first | (simp; done) | (simp; omega) | omega) _) | (refine up_trans ?_ (by with_reducible assumption))))).mono ?_); rintro e w1 ⟨rfl, hb⟩)
    go_ret2
    exact ⟨rfl, (by repeat' (first | (with_reducible exact up_refl _) | (with_reducible assumption) | (with_reducible refine up_alloc ?_ _) | (with_reducible refine up_drewN ?_ _) | (with_reducible refine up_drew ?_) | (with_reducible refine up_set ?_ (by first | (simp; done) | (simp; omega) | omega) _) | (refine up_trans ?_ (by with_reducible assumption))))⟩
end Go.Proofs.Ytepblnnebeglbaa
