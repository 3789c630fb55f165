/- What the document's own answers give for the point at a length of a polyline. -/
import Derived.Test.YtcheojkjcncfkaaAlong
namespace Go.Proofs.Ytcheojkjcncfkaa
open Go.RowKit Go.Proofs.Gn
end Go.Proofs.Ytcheojkjcncfkaa
