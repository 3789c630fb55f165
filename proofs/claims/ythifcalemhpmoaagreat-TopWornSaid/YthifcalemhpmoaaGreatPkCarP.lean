/- The carrier, as the program makes it. The carrier, and its straight pose. -/
import Derived.Test.YthifcalemhpmoaaGreatPkStr
namespace Go.Proofs.YthifcalemhpmoaaGreat
open Go.RowKit Go.Proofs.Gn
attribute [local go_sem] Oper.semAt_some
set_option linter.unusedVariables false
def crU (A B : Option Addr) : List Unt := [⟨0, 3000, 0, 1000, 500, 1200, 2500, 9000, 0, 0, A, [⟨0, 8000, 2⟩, ⟨3000, 12000, 4⟩], 2⟩, ⟨2, 6000, 0, 500, 1500, 1250, 1200, 7000, 0, 0, B, [⟨5000, 12000, 8⟩, ⟨6000, 12000, 8⟩, ⟨7000, 12000, 8⟩], 3⟩]
theorem cr_l1 : len32 (-100) 0 = 3200 := (root_unique (by omega) (by omega) (by omega)).symm
theorem cr_l2 : len32 3000 0 = 96000 := (root_unique (by omega) (by omega) (by omega)).symm
theorem cr_x1 : plX 0 0 (-100) 0 3000 0 = -3000 := by
  unfold plX putX
  rw [show (-100 : Int) - 0 = -100 from rfl, show (0 : Int) - 0 = 0 from rfl, cr_l1]
  unfold near
  decide
theorem cr_y1 : plY 0 0 (-100) 0 3000 0 = 0 := by
  unfold plY putY
  rw [show (-100 : Int) - 0 = -100 from rfl, show (0 : Int) - 0 = 0 from rfl, cr_l1]
  unfold near
  decide
theorem cr_pull : puR 0 0 (-100) 0 (puL 3000 0) = ((-3000, 0), 0) := by
  rw [show puL 3000 0 = 3000 by decide]
  unfold puR cV cE
  rw [cr_x1, cr_y1]
  decide
theorem cr_x2 : plX (-3000) 0 0 0 (-6000) 0 = -9000 := by
  unfold plX putX
  rw [show (0 : Int) - (-3000) = 3000 from rfl, show (0 : Int) - 0 = 0 from rfl, cr_l2]
  unfold near
  decide
theorem cr_y2 : plY (-3000) 0 0 0 (-6000) 0 = 0 := by
  unfold plY putY
  rw [show (0 : Int) - (-3000) = 3000 from rfl, show (0 : Int) - 0 = 0 from rfl, cr_l2]
  unfold near
  decide
theorem cr_place : plR 0 0 (-3000) 0 (-6000) 0 = ((-9000, 0), 0) := by
  unfold plR cV cE
  rw [cr_x2, cr_y2]
  decide
theorem cr_x3 : plX (-3000) 0 0 0 0 0 = -3000 := by
  unfold plX putX
  rw [show (0 : Int) - (-3000) = 3000 from rfl, show (0 : Int) - 0 = 0 from rfl, cr_l2]
  unfold near
  decide
theorem cr_y3 : plY (-3000) 0 0 0 0 0 = 0 := by
  unfold plY putY
  rw [show (0 : Int) - (-3000) = 3000 from rfl, show (0 : Int) - 0 = 0 from rfl, cr_l2]
  unfold near
  decide
theorem cr_rear : rrR 3000 0 0 0 0 (-3000) 0 = ((-3000, 0), 0) := by
  unfold rrR
  rw [show rxL 3000 0 0 = 0 by decide]
  unfold plR cV cE
  rw [cr_x3, cr_y3]
  decide
theorem cr_st (A B : Option Addr) : stS (crU A B) (0, 0) (-3000, 0) = ([(-3000, 0), (-9000, 0)], 0) := by
  unfold crU stS
  simp only
  have h : plR 0 0 (-3000) 0 (rxL 3000 0 0 - puL 6000 0) 0 = ((-9000, 0), 0) := by rw [show rxL 3000 0 0 - puL 6000 0 = -6000 by decide]; exact cr_place
  rw [h]
  rfl
theorem cr_pos (A B : Option Addr) : posOk (crU A B) 0 0 [(-3000, 0), (-9000, 0)] = true := by
  unfold posOk crU
  have h := cr_rear
  have h2 : lkS 0 [⟨0, 3000, 0, 1000, 500, 1200, 2500, 9000, 0, 0, A, [⟨0, 8000, 2⟩, ⟨3000, 12000, 4⟩], 2⟩, ⟨2, 6000, 0, 500, 1500, 1250, 1200, 7000, 0, 0, B, [⟨5000, 12000, 8⟩, ⟨6000, 12000, 8⟩, ⟨7000, 12000, 8⟩], 3⟩] 0 0 [(-3000, 0), (-9000, 0)] = [⟨0, ⟨0, 3000, 0, 1000, 500, 1200, 2500, 9000, 0, 0, A, [⟨0, 8000, 2⟩, ⟨3000, 12000, 4⟩], 2⟩, 0, 0, -3000, 0⟩, ⟨1, ⟨2, 6000, 0, 500, 1500, 1250, 1200, 7000, 0, 0, B, [⟨5000, 12000, 8⟩, ⟨6000, 12000, 8⟩, ⟨7000, 12000, 8⟩], 3⟩, -3000, 0, -9000, 0⟩] := by
    unfold lkS
    simp only [h, if_true]
    unfold lkS
    simp only
    split <;> rfl
  rw [h2]
  rfl
end Go.Proofs.YthifcalemhpmoaaGreat
namespace Go.Proofs.YthifcalemhpmoaaGreat
open Go.RowKit Go.Proofs.Gn
attribute [local go_sem] Oper.semAt_some
set_option linter.unusedVariables false
abbrev crN : ByteArray := { data := #[99, 97, 114, 114, 105, 101, 114] }
set_option maxRecDepth 100000 in
set_option maxHeartbeats 8000000 in
theorem p_carrier (w : World) :
    Calls Tryz.prog 20 #[] w fun e w' => (∃ C A B, e = .returned (veV crN C 2 2 1 1) ∧ Unts w' C (crU A B)) ∧ Up w w' := by
  go_enter Tryz.func20, Tryz.ntmps20
  go_upto_region 1 with fail
  refine at_wpC (fun W0 hW0 => ?_)
  have U0 : Up w W0 := by rw [hW0]; exact (by repeat' (first | (with_reducible exact up_refl _) | (with_reducible assumption) | (with_reducible refine up_alloc ?_ _) | (with_reducible refine up_drewN ?_ _) | (with_reducible refine up_drew ?_) | (with_reducible refine up_set ?_ (by first | (simp; done) | (simp; omega) | omega) _) | (refine up_trans ?_ (by with_reducible assumption))))
  have hz0 : W0.heap.size = w.heap.size + 1 := by rw [hW0]; simp
  have bR : ∃ v0 v1 v2 v3, Bx W0 w.heap.size [v0, v1, v2, v3] := by rw [hW0]; exact ⟨_, _, _, _, bx_new w [_, _, _, _] _⟩
  clear hW0
  obtain ⟨v0, v1, v2, v3, bR⟩ := bR
  have c0 := (bR 0 _ rfl).1
  have c1 := (bR 1 _ rfl).1
  have c2 := (bR 2 _ rfl).1
  have c3 := (bR 3 _ rfl).1
  have f0 := (bR 0 _ rfl).2
  have f1 := (bR 1 _ rfl).2
  have f2 := (bR 2 _ rfl).2
  have f3 := (bR 3 _ rfl).2
  have d0 := fun o => alloc_cell o c0
  go_wp2
  have b4 := bx_set (bx_set (bx_set (bx_set bR 0 (.string { data := #[99, 97, 114, 114, 105, 101, 114] })) 1 (.slice (some ⟨w.heap.size + 1 + 1 + 1, 0, none⟩) 2 2)) 2 (.int .i64 1)) 3 (.int .i64 1)
  have U4 : Up w ((((W0.setCell ⟨w.heap.size, 0, none⟩ (.string { data := #[99, 97, 114, 114, 105, 101, 114] })).setCell ⟨w.heap.size, 1, none⟩ (.slice (some ⟨w.heap.size + 1 + 1 + 1, 0, none⟩) 2 2)).setCell ⟨w.heap.size, 2, none⟩ (.int .i64 1)).setCell ⟨w.heap.size, 3, none⟩ (.int .i64 1)) := up_set (up_set (up_set (up_set U0 (by simp) _) (by simp) _) (by simp) _) (by simp) _
  have hz4 : ((((W0.setCell ⟨w.heap.size, 0, none⟩ (.string { data := #[99, 97, 114, 114, 105, 101, 114] })).setCell ⟨w.heap.size, 1, none⟩ (.slice (some ⟨w.heap.size + 1 + 1 + 1, 0, none⟩) 2 2)).setCell ⟨w.heap.size, 2, none⟩ (.int .i64 1)).setCell ⟨w.heap.size, 3, none⟩ (.int .i64 1)).heap.size = w.heap.size + 1 := by simp [hz0]
  generalize (((W0.setCell ⟨w.heap.size, 0, none⟩ (.string { data := #[99, 97, 114, 114, 105, 101, 114] })).setCell ⟨w.heap.size, 1, none⟩ (.slice (some ⟨w.heap.size + 1 + 1 + 1, 0, none⟩) 2 2)).setCell ⟨w.heap.size, 2, none⟩ (.int .i64 1)).setCell ⟨w.heap.size, 3, none⟩ (.int .i64 1) = W4 at *
  have t1 := bx_new W4 [.int .i64 0, .int .i64 8000, .int .i64 2, .int .i64 3000, .int .i64 12000, .int .i64 4] 112
  have t2 := bx_new (W4.alloc (.cells #[.int .i64 0, .int .i64 8000, .int .i64 2, .int .i64 3000, .int .i64 12000, .int .i64 4] 112)) [.int .i64 5000, .int .i64 12000, .int .i64 8, .int .i64 6000, .int .i64 12000, .int .i64 8, .int .i64 7000, .int .i64 12000, .int .i64 8] 112
  have t3 := bx_new ((W4.alloc (.cells #[.int .i64 0, .int .i64 8000, .int .i64 2, .int .i64 3000, .int .i64 12000, .int .i64 4] 112)).alloc (.cells #[.int .i64 5000, .int .i64 12000, .int .i64 8, .int .i64 6000, .int .i64 12000, .int .i64 8, .int .i64 7000, .int .i64 12000, .int .i64 8] 112)) [.int .i64 0, .int .i64 3000, .int .i64 0, .int .i64 1000, .int .i64 500, .int .i64 1200, .int .i64 2500, .int .i64 9000, .int .i64 0, .int .i64 0, .slice (some ⟨w.heap.size + 1, 0, none⟩) 2 2, .int .i64 2, .int .i64 6000, .int .i64 0, .int .i64 500, .int .i64 1500, .int .i64 1250, .int .i64 1200, .int .i64 7000, .int .i64 0, .int .i64 0, .slice (some ⟨w.heap.size + 1 + 1, 0, none⟩) 3 3] 108
  rw [hz4] at t1
  rw [World.size_alloc, hz4] at t2
  rw [World.size_alloc, World.size_alloc, hz4] at t3
  have s4 := bx_alloc (bx_alloc (bx_alloc b4 (.cells #[.int .i64 0, .int .i64 8000, .int .i64 2, .int .i64 3000, .int .i64 12000, .int .i64 4] 112)) (.cells #[.int .i64 5000, .int .i64 12000, .int .i64 8, .int .i64 6000, .int .i64 12000, .int .i64 8, .int .i64 7000, .int .i64 12000, .int .i64 8] 112)) (.cells #[.int .i64 0, .int .i64 3000, .int .i64 0, .int .i64 1000, .int .i64 500, .int .i64 1200, .int .i64 2500, .int .i64 9000, .int .i64 0, .int .i64 0, .slice (some ⟨w.heap.size + 1, 0, none⟩) 2 2, .int .i64 2, .int .i64 6000, .int .i64 0, .int .i64 500, .int .i64 1500, .int .i64 1250, .int .i64 1200, .int .i64 7000, .int .i64 0, .int .i64 0, .slice (some ⟨w.heap.size + 1 + 1, 0, none⟩) 3 3] 108)
  have s1 := bx_alloc (bx_alloc t1 (.cells #[.int .i64 5000, .int .i64 12000, .int .i64 8, .int .i64 6000, .int .i64 12000, .int .i64 8, .int .i64 7000, .int .i64 12000, .int .i64 8] 112)) (.cells #[.int .i64 0, .int .i64 3000, .int .i64 0, .int .i64 1000, .int .i64 500, .int .i64 1200, .int .i64 2500, .int .i64 9000, .int .i64 0, .int .i64 0, .slice (some ⟨w.heap.size + 1, 0, none⟩) 2 2, .int .i64 2, .int .i64 6000, .int .i64 0, .int .i64 500, .int .i64 1500, .int .i64 1250, .int .i64 1200, .int .i64 7000, .int .i64 0, .int .i64 0, .slice (some ⟨w.heap.size + 1 + 1, 0, none⟩) 3 3] 108)
  have s2 := bx_alloc t2 (.cells #[.int .i64 0, .int .i64 3000, .int .i64 0, .int .i64 1000, .int .i64 500, .int .i64 1200, .int .i64 2500, .int .i64 9000, .int .i64 0, .int .i64 0, .slice (some ⟨w.heap.size + 1, 0, none⟩) 2 2, .int .i64 2, .int .i64 6000, .int .i64 0, .int .i64 500, .int .i64 1500, .int .i64 1250, .int .i64 1200, .int .i64 7000, .int .i64 0, .int .i64 0, .slice (some ⟨w.heap.size + 1 + 1, 0, none⟩) 3 3] 108)
  have s3 := t3
  have U9 : Up w (((W4.alloc (.cells #[.int .i64 0, .int .i64 8000, .int .i64 2, .int .i64 3000, .int .i64 12000, .int .i64 4] 112)).alloc (.cells #[.int .i64 5000, .int .i64 12000, .int .i64 8, .int .i64 6000, .int .i64 12000, .int .i64 8, .int .i64 7000, .int .i64 12000, .int .i64 8] 112)).alloc (.cells #[.int .i64 0, .int .i64 3000, .int .i64 0, .int .i64 1000, .int .i64 500, .int .i64 1200, .int .i64 2500, .int .i64 9000, .int .i64 0, .int .i64 0, .slice (some ⟨w.heap.size + 1, 0, none⟩) 2 2, .int .i64 2, .int .i64 6000, .int .i64 0, .int .i64 500, .int .i64 1500, .int .i64 1250, .int .i64 1200, .int .i64 7000, .int .i64 0, .int .i64 0, .slice (some ⟨w.heap.size + 1 + 1, 0, none⟩) 3 3] 108)) := (by repeat' (first | (with_reducible exact up_refl _) | (with_reducible assumption) | (with_reducible refine up_alloc ?_ _) | (with_reducible refine up_drewN ?_ _) | (with_reducible refine up_drew ?_) | (with_reducible refine up_set ?_ (by first | (simp; done) | (simp; omega) | omega) _) | (refine up_trans ?_ (by with_reducible assumption))))
  clear t1 t2 t3 b4 U4 hz4 c0 c1 c2 c3 f0 f1 f2 f3 d0 bR hz0 U0
  have e1 : (#[.int .i64 0, .int .i64 8000, .int .i64 2, .int .i64 3000, .int .i64 12000, .int .i64 4] : Array Value) = ([.int .i64 0, .int .i64 8000, .int .i64 2, .int .i64 3000, .int .i64 12000, .int .i64 4] : List Value).toArray := rfl
  generalize hW9 : ((W4.alloc (.cells #[.int .i64 0, .int .i64 8000, .int .i64 2, .int .i64 3000, .int .i64 12000, .int .i64 4] 112)).alloc (.cells #[.int .i64 5000, .int .i64 12000, .int .i64 8, .int .i64 6000, .int .i64 12000, .int .i64 8, .int .i64 7000, .int .i64 12000, .int .i64 8] 112)).alloc (.cells #[.int .i64 0, .int .i64 3000, .int .i64 0, .int .i64 1000, .int .i64 500, .int .i64 1200, .int .i64 2500, .int .i64 9000, .int .i64 0, .int .i64 0, .slice (some ⟨w.heap.size + 1, 0, none⟩) 2 2, .int .i64 2, .int .i64 6000, .int .i64 0, .int .i64 500, .int .i64 1500, .int .i64 1250, .int .i64 1200, .int .i64 7000, .int .i64 0, .int .i64 0, .slice (some ⟨w.heap.size + 1 + 1, 0, none⟩) 3 3] 108) = W9 at *
  have z0 := (s4 0 _ rfl).1
  have z1 := (s4 1 _ rfl).1
  have z2 := (s4 2 _ rfl).1
  have z3 := (s4 3 _ rfl).1
  have hU : Unts W9 (some ⟨w.heap.size + 1 + 1 + 1, 0, none⟩) (crU (some ⟨w.heap.size + 1, 0, none⟩) (some ⟨w.heap.size + 1 + 1, 0, none⟩)) := by
    refine .inr ⟨_, 0, rfl, fun k hk => ?_⟩
    match k, hk with
    | 0, _ => exact ⟨(s3 0 _ rfl).1, (s3 1 _ rfl).1, (s3 2 _ rfl).1, (s3 3 _ rfl).1, (s3 4 _ rfl).1, (s3 5 _ rfl).1, (s3 6 _ rfl).1, (s3 7 _ rfl).1, (s3 8 _ rfl).1, (s3 9 _ rfl).1, (s3 10 _ rfl).1, .inr ⟨_, 0, rfl, fun q hq => (by
        match q, hq with
        | 0, _ => exact ⟨(s1 0 _ rfl).1, (s1 1 _ rfl).1, (s1 2 _ rfl).1⟩
        | 1, _ => exact ⟨(s1 3 _ rfl).1, (s1 4 _ rfl).1, (s1 5 _ rfl).1⟩)⟩, (by show 2 ≤ 9223372036854775807; omega)⟩
    | 1, _ => exact ⟨(s3 11 _ rfl).1, (s3 12 _ rfl).1, (s3 13 _ rfl).1, (s3 14 _ rfl).1, (s3 15 _ rfl).1, (s3 16 _ rfl).1, (s3 17 _ rfl).1, (s3 18 _ rfl).1, (s3 19 _ rfl).1, (s3 20 _ rfl).1, (s3 21 _ rfl).1, .inr ⟨_, 0, rfl, fun q hq => (by
        match q, hq with
        | 0, _ => exact ⟨(s2 0 _ rfl).1, (s2 1 _ rfl).1, (s2 2 _ rfl).1⟩
        | 1, _ => exact ⟨(s2 3 _ rfl).1, (s2 4 _ rfl).1, (s2 5 _ rfl).1⟩
        | 2, _ => exact ⟨(s2 6 _ rfl).1, (s2 7 _ rfl).1, (s2 8 _ rfl).1⟩)⟩, (by show 3 ≤ 9223372036854775807; omega)⟩
  refine bodyPost_ret (v := veV crN (some ⟨w.heap.size + 1 + 1 + 1, 0, none⟩) 2 2 1 1) (by simp [results, Tryz.f20, go_sem, z0, z1, z2, z3]) rfl ?_
  exact ⟨⟨_, _, _, rfl, hU⟩, U9⟩
theorem cr_ok (A B : Option Addr) : veE crN (crU A B) 1 1 = 0 := by
  have h1 : nmS crN = true := by decide +kernel
  have h2 : tmV (crU A B) = false := rfl
  have h3 : auV (crU A B) = true := rfl
  unfold veE
  rw [h1, h2, h3]
  rfl
theorem p_crStraight (C A B : Option Addr) (w : World) (h : Unts w C (crU A B)) :
    Calls Tryz.prog 19 #[veV crN C 2 2 1 1, pt 0 0, pt (-100) 0] w fun e w' => (∃ A' ca, e = .returned (.tuple #[.agg #[.int .i64 0, .int .i64 0, .slice A' 2 ca], .int .i64 0]) ∧ Pts w' A' [(-3000, 0), (-9000, 0)]) ∧ Up w w' :=
  p_StraightOK crN C (crU A B) 2 1 1 0 0 (-100) 0 (-3000) 0 [(-3000, 0), (-9000, 0)] w h rfl (by show 2 ≤ 2; omega) (cr_ok A B) cr_pull (cr_st A B) (cr_pos A B)
end Go.Proofs.YthifcalemhpmoaaGreat
