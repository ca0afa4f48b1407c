import Derived.Test.YtcgilmjhbdehpaaZbf
import Derived.Deep.RegionHeld3
import Derived.Test.YtcgilmjhbdehpaaZbe
import Derived.Deep.RegionWith
/- The contracts of the reference's division of a number of 128 bits (Over) and of its end (signed). -/
namespace Go.Proofs.Ytcgilmjhbdehpaa
open Go.RowKit
set_option linter.unusedVariables false
end Go.Proofs.Ytcgilmjhbdehpaa
/- The contract of wide.Div: quotient and rest of a number of 128 bits, for every divisor from 1 to 2^63. -/
namespace Go.Proofs.Ytcgilmjhbdehpaa
open Go.RowKit
set_option linter.unusedVariables false
end Go.Proofs.Ytcgilmjhbdehpaa
/- The contract of fixed.quotient, the end of products and quotients: rounded towards minus infinity, cut off at Most. -/
namespace Go.Proofs.Ytcgilmjhbdehpaa
open Go.RowKit
set_option linter.unusedVariables false
end Go.Proofs.Ytcgilmjhbdehpaa
/- The contracts of the products and quotients of package fixed and of the reference of layer 1. -/
namespace Go.Proofs.Ytcgilmjhbdehpaa
open Go.RowKit
set_option linter.unusedVariables false
end Go.Proofs.Ytcgilmjhbdehpaa
/- The contract of wide.Root: the greatest number whose square is at most a number of 128 bits. -/
namespace Go.Proofs.Ytcgilmjhbdehpaa
open Go.RowKit
set_option linter.unusedVariables false
end Go.Proofs.Ytcgilmjhbdehpaa
/- The contract of the reference's root: the greatest number up to a bound whose square is at most a number of 128 bits. -/
namespace Go.Proofs.Ytcgilmjhbdehpaa
open Go.RowKit
set_option linter.unusedVariables false
end Go.Proofs.Ytcgilmjhbdehpaa
