/- The contract of wide.Root: the greatest number whose square is at most a number of 128 bits. -/
import Derived.Test.YtkffleclofkjmaaFixf
import Derived.Deep.RegionHeld3
import Derived.Deep.RegionWith
namespace Go.Proofs.Ytkffleclofkjmaa
open Go.RowKit
set_option linter.unusedVariables false
end Go.Proofs.Ytkffleclofkjmaa
