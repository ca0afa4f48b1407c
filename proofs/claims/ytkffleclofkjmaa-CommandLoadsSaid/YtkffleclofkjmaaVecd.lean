/- The contracts of the reference's root up to a bound, and of the squares of a way. -/
import Derived.Test.YtkffleclofkjmaaVecc
import Derived.Test.YtkffleclofkjmaaVeca
import Derived.Test.YtkffleclofkjmaaVecb
import Derived.Test.YtkffleclofkjmaaFt
namespace Go.Proofs.Ytkffleclofkjmaa
open Go.RowKit
set_option linter.unusedVariables false
end Go.Proofs.Ytkffleclofkjmaa
