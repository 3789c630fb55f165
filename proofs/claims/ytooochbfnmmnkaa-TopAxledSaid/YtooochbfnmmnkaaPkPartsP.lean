/- The parts as they are handed out; which group proves that a platform tips. Which group's part is below 0; the sums and the parts as they are handed out. -/
import Derived.Test.YtooochbfnmmnkaaPkTip
import Derived.Deep.RegionWith
import Derived.Deep.DeepCutAuto
namespace Go.Proofs.Ytooochbfnmmnkaa
open Go.RowKit Go.Proofs.Gn
def lif (a b c : Int) : Int := if a < 0 then 0 else if b < 0 then 1 else if c < 0 then 2 else -1
theorem lif_bd (a b c : Int) : -1 ≤ lif a b c ∧ lif a b c ≤ 2 := by
  unfold lif
  split
  · omega
  · split
    · omega
    · split <;> omega
/-- What Sums returns. -/
def suV (ps : List Gs.Sup) (v : Int) : Int := if chE ps = 0 then v else 0
theorem chE_ok {ps : List Gs.Sup} (h : chE ps = 0) : Gs.okA ps = true ∧ ps.length ≤ 48 ∧ 3 ≤ ps.length ∧ Gs.wh ps ≠ 0 := by
  unfold chE at h
  split at h
  · cases h
  · split at h
    · split at h
      · cases h
      · exact ⟨by assumption, by omega, by omega, by assumption⟩
    · cases h
end Go.Proofs.Ytooochbfnmmnkaa
namespace Go.Proofs.Ytooochbfnmmnkaa
open Go.RowKit Go.Proofs.Gn
def paD (ps : List Gs.Sup) : Int := pv (Gs.wh ps) (Gs.wh ps)
def pa0 (ps : List Gs.Sup) (X Y : Int) : Int := pv (Gs.wh ps) (Gs.q0 ps X Y)
def pa1 (ps : List Gs.Sup) (X Y : Int) : Int := pv (Gs.wh ps) (Gs.q1 ps X Y)
def pa2 (ps : List Gs.Sup) (X Y : Int) : Int := pv (Gs.wh ps) (Gs.q2 ps X Y)
theorem ptE_ok {X Y : Int} (h : ptE X Y = 0) : (-262144 ≤ X ∧ X ≤ 262144) ∧ (-262144 ≤ Y ∧ Y ≤ 262144) := by
  unfold ptE ptB at h
  split at h
  · rename_i h2
    rw [Bool.and_eq_true, win_iff, win_iff] at h2
    exact h2
  · cases h
theorem atE_ok {ps : List Gs.Sup} {X Y : Int} (h : atE ps X Y = 0) : chE ps = 0 ∧ ptE X Y = 0 := by
  unfold atE at h
  split at h
  · exact ⟨by assumption, h⟩
  · exact absurd h (by assumption)
def paV (ps : List Gs.Sup) (X Y v : Int) : Int := if atE ps X Y = 0 then v else 0
end Go.Proofs.Ytooochbfnmmnkaa
