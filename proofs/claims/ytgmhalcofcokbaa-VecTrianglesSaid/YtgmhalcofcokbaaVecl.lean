/- The contract of what is made shorter of the reference of layer 2, where it is shortened. -/
import Derived.Test.YtgmhalcofcokbaaVeck
namespace Go.Proofs.Ytgmhalcofcokbaa
open Go.RowKit
set_option linter.unusedVariables false
end Go.Proofs.Ytgmhalcofcokbaa
