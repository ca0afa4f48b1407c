/- The contracts of lengths of package vec and of the reference. -/
import Derived.Test.YtkffleclofkjmaaVecd
namespace Go.Proofs.Ytkffleclofkjmaa
open Go.RowKit
set_option linter.unusedVariables false
end Go.Proofs.Ytkffleclofkjmaa
