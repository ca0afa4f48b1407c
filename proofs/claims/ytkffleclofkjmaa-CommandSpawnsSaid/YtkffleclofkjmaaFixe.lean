/- The contract of fixed.quotient, the end of products and quotients: rounded towards minus infinity, cut off at Most. -/
import Derived.Test.YtkffleclofkjmaaFixb
import Derived.Test.YtkffleclofkjmaaFixc
import Derived.Test.YtkffleclofkjmaaFixd
namespace Go.Proofs.Ytkffleclofkjmaa
open Go.RowKit
set_option linter.unusedVariables false
end Go.Proofs.Ytkffleclofkjmaa
