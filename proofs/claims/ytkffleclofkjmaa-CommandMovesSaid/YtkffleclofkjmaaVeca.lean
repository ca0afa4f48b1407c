/- The contracts of sums, differences and what is turned round of package vec and of the reference: what each call answers, for all arguments. -/
import Derived.Test.YtkffleclofkjmaaAsk
import Derived.Deep.RegionHeld3
import Derived.Deep.RegionWith
namespace Go.Proofs.Ytkffleclofkjmaa
open Go.RowKit
set_option linter.unusedVariables false
end Go.Proofs.Ytkffleclofkjmaa
