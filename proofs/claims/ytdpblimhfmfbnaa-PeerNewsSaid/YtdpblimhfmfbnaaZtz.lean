import Derived.Deep.QuietTactic
import Derived.BigQuiet
import Derived.Deep.RegionWith
import Derived.Deep.RegionHeld3
import Derived.Deep.DeepCutAuto
import Derived.Deep.DeepFit
import Derived.Outline
import Derived.Test.YtdpblimhfmfbnaaZtn
/- The reference's word on an input. -/
namespace Go.Proofs.Ytdpblimhfmfbnaa
open Go.ChangeShapes Go.WideShapes Go.ChangeAt Go.RowKit Go.Deep
set_option linter.unusedVariables false
set_option linter.unusedSimpArgs false
def lastC (l : List Cv) : Nat → Int
  | 0 => -1
  | k + 1 => (l.getD k default).s
theorem okC_s0 {p s k : Int} {f : CF} (h : okC p s k f = true) : 0 ≤ s := by
  unfold okC baseB at h
  simp only [Bool.and_eq_true, decide_eq_true_eq] at h
  exact h.1.2.2.2.1
end Go.Proofs.Ytdpblimhfmfbnaa
