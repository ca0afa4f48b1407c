/- The contracts of the products and quotients of package fixed and of the reference of layer 1. -/
import Derived.Test.YtkffleclofkjmaaFixd
import Derived.Test.YtkffleclofkjmaaFixe
import Derived.Test.YtkffleclofkjmaaFy
namespace Go.Proofs.Ytkffleclofkjmaa
open Go.RowKit
set_option linter.unusedVariables false
end Go.Proofs.Ytkffleclofkjmaa
