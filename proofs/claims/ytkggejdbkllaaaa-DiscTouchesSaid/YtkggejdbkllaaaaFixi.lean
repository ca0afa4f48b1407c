/- The contracts of the roots of package fixed and of the reference of layer 1, and of the statements' own small call. -/
import Derived.Test.YtkggejdbkllaaaaFixg
import Derived.Test.YtkggejdbkllaaaaFixh
import Derived.Test.YtkggejdbkllaaaaFz
namespace Go.Proofs.Ytkggejdbkllaaaa
open Go.RowKit
set_option linter.unusedVariables false
end Go.Proofs.Ytkggejdbkllaaaa
