/- The parts as they are handed out; which group proves that a platform tips. -/
import Derived.Test.YtepblnnebeglbaaLift
import Derived.Deep.DeepCutAuto
namespace Go.Proofs.Ytepblnnebeglbaa
open Go.RowKit Go.Proofs.Gn
def paD (ps : List Gs.Sup) : Int := pv (Gs.wh ps) (Gs.wh ps)
def pa0 (ps : List Gs.Sup) (X Y : Int) : Int := pv (Gs.wh ps) (Gs.q0 ps X Y)
def pa1 (ps : List Gs.Sup) (X Y : Int) : Int := pv (Gs.wh ps) (Gs.q1 ps X Y)
def pa2 (ps : List Gs.Sup) (X Y : Int) : Int := pv (Gs.wh ps) (Gs.q2 ps X Y)
theorem ptE_ok {X Y : Int} (h : ptE X Y = 0) : (-262144 ≤ X ∧ X ≤ 262144) ∧ (-262144 ≤ Y ∧ Y ≤ 262144) := by
  unfold ptE ptB at h
  split at h
  · rename_i h2
    rw [Bool.and_eq_true, win_iff, win_iff] at h2
    exact h2
  · cases h
theorem atE_ok {ps : List Gs.Sup} {X Y : Int} (h : atE ps X Y = 0) : chE ps = 0 ∧ ptE X Y = 0 := by
  unfold atE at h
  split at h
  · exact ⟨by assumption, h⟩
  · exact absurd h (by assumption)
theorem p_parts9 {ps : List Gs.Sup} {X Y : Int} (h : atE ps X Y = 0) (w : World) :
    Calls Try.prog 21 #[n9 ps, pt X Y] w fun e w' => e = .returned (.tuple #[.agg #[.int .i64 (pa0 ps X Y), .int .i64 (pa1 ps X Y), .int .i64 (pa2 ps X Y)], .int .i64 (paD ps)]) ∧ Up w w' := by
  obtain ⟨h1, h2⟩ := atE_ok h
  obtain ⟨o1, o2, o3, o4⟩ := chE_ok h1
  obtain ⟨a, b⟩ := ptE_ok h2
  exact p_parts (Gs.row_of o1 o2 0 (.inl rfl)) (Gs.row_of o1 o2 1 (.inr (.inl rfl))) (Gs.row_of o1 o2 2 (.inr (.inr rfl))) a b w
def paV (ps : List Gs.Sup) (X Y v : Int) : Int := if atE ps X Y = 0 then v else 0
end Go.Proofs.Ytepblnnebeglbaa
