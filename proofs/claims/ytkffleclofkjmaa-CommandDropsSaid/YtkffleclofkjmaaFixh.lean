/- The contract of the reference's root: the greatest number up to a bound whose square is at most a number of 128 bits. -/
import Derived.Test.YtkffleclofkjmaaFixf
import Derived.Deep.RegionWith
namespace Go.Proofs.Ytkffleclofkjmaa
open Go.RowKit
set_option linter.unusedVariables false
end Go.Proofs.Ytkffleclofkjmaa
