/- The contracts of the roots of package fixed and of the reference of layer 1, and of the statements' own small call. -/
import Derived.Test.YtkffleclofkjmaaFixg
import Derived.Test.YtkffleclofkjmaaFixh
import Derived.Test.YtkffleclofkjmaaFz
namespace Go.Proofs.Ytkffleclofkjmaa
open Go.RowKit
set_option linter.unusedVariables false
end Go.Proofs.Ytkffleclofkjmaa
