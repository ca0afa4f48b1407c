import Derived.Deep.QuietTactic
import Derived.BigQuiet
import Derived.Deep.RegionWith
import Derived.Deep.RegionHeld3
import Derived.Deep.DeepCutAuto
import Derived.Deep.DeepFit
import Derived.Outline
import Derived.Test.YtjjodfdmbiebnaaQxj
/- For every list of acts, QueueMixed answers true and leaves its argument as it was: what is put in later, and is less, comes out first; as many come out as went in. No condition. -/
namespace Go.Proofs.Ytjjodfdmbiebnaa
open Go.ChangeShapes Go.WideShapes Go.ChangeAt Go.RowKit Go.Deep
set_option linter.unusedVariables false
set_option linter.unusedSimpArgs false
theorem queueMixed_own : ownKnob Try.prog.godebug = none := by kernel_rfl
theorem queueMixed_laidOut : laidOutB Try.prog = true := by kernel_rfl
end Go.Proofs.Ytjjodfdmbiebnaa

