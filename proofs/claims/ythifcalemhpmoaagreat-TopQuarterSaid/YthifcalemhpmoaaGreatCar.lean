/- The carrier, and its straight pose. -/
import Derived.Test.YthifcalemhpmoaaGreatStr
namespace Go.Proofs.YthifcalemhpmoaaGreat
open Go.RowKit Go.Proofs.Gn
attribute [local go_sem] Oper.semAt_some
set_option linter.unusedVariables false
def crU (A B : Option Addr) : List Unt := [⟨0, 3000, 0, 1000, 500, 1200, 2500, 9000, 0, 0, A, [⟨0, 8000, 2⟩, ⟨3000, 12000, 4⟩], 2⟩, ⟨2, 6000, 0, 500, 1500, 1250, 1200, 7000, 0, 0, B, [⟨5000, 12000, 8⟩, ⟨6000, 12000, 8⟩, ⟨7000, 12000, 8⟩], 3⟩]
theorem cr_l1 : len32 (-100) 0 = 3200 := (root_unique (by omega) (by omega) (by omega)).symm
theorem cr_l2 : len32 3000 0 = 96000 := (root_unique (by omega) (by omega) (by omega)).symm
theorem cr_x1 : plX 0 0 (-100) 0 3000 0 = -3000 := by
  unfold plX putX
  rw [show (-100 : Int) - 0 = -100 from rfl, show (0 : Int) - 0 = 0 from rfl, cr_l1]
  unfold near
  decide
theorem cr_y1 : plY 0 0 (-100) 0 3000 0 = 0 := by
  unfold plY putY
  rw [show (-100 : Int) - 0 = -100 from rfl, show (0 : Int) - 0 = 0 from rfl, cr_l1]
  unfold near
  decide
theorem cr_pull : puR 0 0 (-100) 0 (puL 3000 0) = ((-3000, 0), 0) := by
  rw [show puL 3000 0 = 3000 by decide]
  unfold puR cV cE
  rw [cr_x1, cr_y1]
  decide
theorem cr_x2 : plX (-3000) 0 0 0 (-6000) 0 = -9000 := by
  unfold plX putX
  rw [show (0 : Int) - (-3000) = 3000 from rfl, show (0 : Int) - 0 = 0 from rfl, cr_l2]
  unfold near
  decide
theorem cr_y2 : plY (-3000) 0 0 0 (-6000) 0 = 0 := by
  unfold plY putY
  rw [show (0 : Int) - (-3000) = 3000 from rfl, show (0 : Int) - 0 = 0 from rfl, cr_l2]
  unfold near
  decide
theorem cr_place : plR 0 0 (-3000) 0 (-6000) 0 = ((-9000, 0), 0) := by
  unfold plR cV cE
  rw [cr_x2, cr_y2]
  decide
theorem cr_x3 : plX (-3000) 0 0 0 0 0 = -3000 := by
  unfold plX putX
  rw [show (0 : Int) - (-3000) = 3000 from rfl, show (0 : Int) - 0 = 0 from rfl, cr_l2]
  unfold near
  decide
theorem cr_y3 : plY (-3000) 0 0 0 0 0 = 0 := by
  unfold plY putY
  rw [show (0 : Int) - (-3000) = 3000 from rfl, show (0 : Int) - 0 = 0 from rfl, cr_l2]
  unfold near
  decide
theorem cr_rear : rrR 3000 0 0 0 0 (-3000) 0 = ((-3000, 0), 0) := by
  unfold rrR
  rw [show rxL 3000 0 0 = 0 by decide]
  unfold plR cV cE
  rw [cr_x3, cr_y3]
  decide
theorem cr_st (A B : Option Addr) : stS (crU A B) (0, 0) (-3000, 0) = ([(-3000, 0), (-9000, 0)], 0) := by
  unfold crU stS
  simp only
  have h : plR 0 0 (-3000) 0 (rxL 3000 0 0 - puL 6000 0) 0 = ((-9000, 0), 0) := by rw [show rxL 3000 0 0 - puL 6000 0 = -6000 by decide]; exact cr_place
  rw [h]
  rfl
theorem cr_pos (A B : Option Addr) : posOk (crU A B) 0 0 [(-3000, 0), (-9000, 0)] = true := by
  unfold posOk crU
  have h := cr_rear
  have h2 : lkS 0 [⟨0, 3000, 0, 1000, 500, 1200, 2500, 9000, 0, 0, A, [⟨0, 8000, 2⟩, ⟨3000, 12000, 4⟩], 2⟩, ⟨2, 6000, 0, 500, 1500, 1250, 1200, 7000, 0, 0, B, [⟨5000, 12000, 8⟩, ⟨6000, 12000, 8⟩, ⟨7000, 12000, 8⟩], 3⟩] 0 0 [(-3000, 0), (-9000, 0)] = [⟨0, ⟨0, 3000, 0, 1000, 500, 1200, 2500, 9000, 0, 0, A, [⟨0, 8000, 2⟩, ⟨3000, 12000, 4⟩], 2⟩, 0, 0, -3000, 0⟩, ⟨1, ⟨2, 6000, 0, 500, 1500, 1250, 1200, 7000, 0, 0, B, [⟨5000, 12000, 8⟩, ⟨6000, 12000, 8⟩, ⟨7000, 12000, 8⟩], 3⟩, -3000, 0, -9000, 0⟩] := by
    unfold lkS
    simp only [h, if_true]
    unfold lkS
    simp only
    split <;> rfl
  rw [h2]
  rfl
end Go.Proofs.YthifcalemhpmoaaGreat
