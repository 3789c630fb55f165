/- Two contracts of the library (bits.Mul64, bits.LeadingZeros64), laid at this program's numbers. -/
import Derived.Shelf.Small.Bits
import Derived.Shelf.Bits.Mul64
import Derived.Test.YtdehnokcjnbjoaaGreatProg
namespace Go.Proofs
open Go.Shelf
end Go.Proofs
