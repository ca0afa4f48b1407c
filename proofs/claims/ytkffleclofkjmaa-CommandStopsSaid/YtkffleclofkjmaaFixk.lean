/- The contracts of package fixed at the constants that the statements of layer 1 name. -/
import Derived.Test.YtkffleclofkjmaaFixi
import Derived.Test.YtkffleclofkjmaaFv
namespace Go.Proofs.Ytkffleclofkjmaa
open Go.RowKit
set_option linter.unusedVariables false
end Go.Proofs.Ytkffleclofkjmaa
