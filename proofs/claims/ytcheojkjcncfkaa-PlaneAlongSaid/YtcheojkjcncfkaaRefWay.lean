/- What Length returns: the document's own answers. -/
import Derived.Test.YtcheojkjcncfkaaWay
namespace Go.Proofs.Ytcheojkjcncfkaa
open Go.RowKit Go.Proofs.Gn
theorem wayE_of (ps : Pl) : wayE ps = if ptsE ps = 0 then (if 0 < ps.length then 0 else 5) else ptsE ps := by
  unfold wayE ptsE
  split
  · split <;> simp
  · simp
end Go.Proofs.Ytcheojkjcncfkaa
