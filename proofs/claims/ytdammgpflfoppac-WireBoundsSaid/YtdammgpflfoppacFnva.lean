/- Layer 3: what each function answers. -/
import Derived.Test.YtdammgpflfoppacBya
namespace Go.Proofs.Ytdammgpflfoppac
open Go.RowKit
set_option linter.unusedVariables false
end Go.Proofs.Ytdammgpflfoppac
