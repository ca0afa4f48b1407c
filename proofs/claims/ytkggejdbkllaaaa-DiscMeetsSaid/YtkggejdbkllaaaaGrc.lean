/- Layer 6: places of tiles. -/
import Derived.Test.YtkggejdbkllaaaaGrb
namespace Go.Proofs.Ytkggejdbkllaaaa
open Go.RowKit
set_option linter.unusedVariables false
end Go.Proofs.Ytkggejdbkllaaaa
