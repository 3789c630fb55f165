/- What each axle of a group carries: the document's own answers. The sums, parts and shares as they are handed out: the document's own answers. The parts of a platform, and which group tips: the document's own answers. -/
import Derived.Test.YthifcalemhpmoaaGreatPkRefVeh
import Derived.Test.YthifcalemhpmoaaGreatPkShares
import Derived.Test.YthifcalemhpmoaaGreatPkRefDown
namespace Go.Proofs.YthifcalemhpmoaaGreat
open Go.RowKit Go.Proofs.Gn
theorem bx_two' (w : World) (v1 v2 : List Value) (t1 t2 : TypeId) : Bx ((w.alloc (.cells v1.toArray t1)).alloc (.cells v2.toArray t2)) w.heap.size v1 ∧ Bx ((w.alloc (.cells v1.toArray t1)).alloc (.cells v2.toArray t2)) (w.heap.size + 1) v2 := by
  refine ⟨bx_alloc (bx_new w _ _) _, ?_⟩
  have h := bx_new (w.alloc (.cells v1.toArray t1)) v2 t2
  rwa [sz1] at h
end Go.Proofs.YthifcalemhpmoaaGreat
namespace Go.Proofs.YthifcalemhpmoaaGreat
open Go.RowKit Go.Proofs.Gn
def z3 : List Value := [.int .i64 0, .int .i64 0, .int .i64 0]
theorem atE_cases (ps : List Gs.Sup) (X Y : Int) : (¬ chE ps = 0 ∧ atE ps X Y = chE ps) ∨ (chE ps = 0 ∧ ptE X Y = 3 ∧ atE ps X Y = 3) ∨ (chE ps = 0 ∧ ptE X Y = 0 ∧ atE ps X Y = 0) := by
  unfold atE
  by_cases c : chE ps = 0
  · rw [if_pos c]
    right
    unfold ptE
    split
    · exact .inr ⟨c, rfl, rfl⟩
    · exact .inl ⟨c, rfl, rfl⟩
  · rw [if_neg c]
    exact .inl ⟨c, rfl⟩
end Go.Proofs.YthifcalemhpmoaaGreat
namespace Go.Proofs.YthifcalemhpmoaaGreat
open Go.RowKit Go.Proofs.Gn
theorem boE_ch {ps : List Gs.Sup} {m X Y : Int} (h : chE ps = 0) : (boE ps m X Y = 0 ∧ msE m = 0 ∧ ptE X Y = 0) ∨ (boE ps m X Y = 3 ∧ msE m = 3) ∨ (boE ps m X Y = 3 ∧ msE m = 0 ∧ ptE X Y = 3) := by
  have h1 : msE m = 0 ∨ msE m = 3 := by unfold msE; split <;> simp
  have h2 : ptE X Y = 0 ∨ ptE X Y = 3 := by unfold ptE; split <;> simp
  unfold boE
  rw [if_pos h]
  rcases h1 with h1 | h1 <;> rcases h2 with h2 | h2 <;> simp [h1, h2]
end Go.Proofs.YthifcalemhpmoaaGreat
