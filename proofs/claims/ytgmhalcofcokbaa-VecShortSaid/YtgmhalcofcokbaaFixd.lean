/- The contracts of the reference's division of a number of 128 bits (Over) and of its end (signed). -/
import Derived.Test.YtgmhalcofcokbaaFixb
namespace Go.Proofs.Ytgmhalcofcokbaa
open Go.RowKit
set_option linter.unusedVariables false
end Go.Proofs.Ytgmhalcofcokbaa
