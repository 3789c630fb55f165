/- The document's Check of a vehicle. Vehicles: which ones the document takes. The errors of a platform, of a point and of a mass: the document's own answers. The sums of the groups of a platform, as the document's own answers reckon them; which supports are valid. -/
import Derived.Test.YthifcalemhpmoaaGreatPkTip
import Derived.Test.YthifcalemhpmoaaGreatPkLever
import Derived.Test.YthifcalemhpmoaaGreatPkVehC
namespace Go.Proofs.YthifcalemhpmoaaGreat
open Go.RowKit Go.Proofs.Gn
theorem at_y {F : Act → World → Prop} {a : Act} {w : World} (h : ∀ W, W = w → F a W) : F a w := h w rfl
end Go.Proofs.YthifcalemhpmoaaGreat
namespace Go.Proofs.YthifcalemhpmoaaGreat
open Go.RowKit Go.Proofs.Gn
theorem okS_ref (s : Gs.Sup) : Gs.okS s = (win s.x (-131072) 131072 && (win s.y (-131072) 131072 && (win s.g 0 2 && (win s.lim 1 1048576 && (decide (0 ≤ s.lo) && (decide (s.lo ≤ s.hi) && decide (s.hi ≤ 4096))))))) := by
  rw [Bool.eq_iff_iff]
  simp only [Bool.and_eq_true, win_iff, decide_eq_true_iff]
  unfold Gs.okS
  rw [decide_eq_true_iff]
  omega
end Go.Proofs.YthifcalemhpmoaaGreat
namespace Go.Proofs.YthifcalemhpmoaaGreat
open Go.RowKit Go.Proofs.Gn
end Go.Proofs.YthifcalemhpmoaaGreat
namespace Go.Proofs.YthifcalemhpmoaaGreat
open Go.RowKit Go.Proofs.Gn
theorem ve6 {s : ByteArray} {us : List Unt} {f t : Int} (h : tmV us = true) : veE s us f t = 6 := by unfold veE; rw [if_pos h]
theorem ve2 {s : ByteArray} {us : List Unt} {f t : Int} (h0 : tmV us = false) (h : nmS s = false ∨ auV us = false ∨ win f 0 t = false ∨ decide (t < (us.length : Int)) = false) : veE s us f t = 2 := by
  unfold veE
  rw [if_neg (by rw [h0]; simp), if_neg]
  intro hh
  simp only [Bool.and_eq_true] at hh
  rcases h with h | h | h | h <;> simp_all
theorem ve0 {s : ByteArray} {us : List Unt} {f t : Int} (h0 : tmV us = false) (h1 : nmS s = true) (h2 : auV us = true) (h3 : win f 0 t = true) (h4 : decide (t < (us.length : Int)) = true) : veE s us f t = 0 := by
  unfold veE
  rw [if_neg (by rw [h0]; simp), if_pos (by rw [h1, h2, h3, h4]; rfl)]
theorem au_no {us : List Unt} (h : us.all okU = false ∨ ¬ 0 < us.length ∨ ¬ hdK us = 0) : auV us = false := by
  unfold auV
  rcases h with h | h | h <;> simp [h]
end Go.Proofs.YthifcalemhpmoaaGreat
