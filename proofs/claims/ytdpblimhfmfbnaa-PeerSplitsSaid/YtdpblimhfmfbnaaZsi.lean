import Derived.Test.YtdpblimhfmfbnaaZsb
import Derived.Test.YtdpblimhfmfbnaaZse
import Derived.ProofKit
import Derived.LaidMore
import Derived.OpenShut
import Derived.Stop.Joined
import Derived.WalkKit
import Derived.WalkLawsBesides
import Derived.WalkSpells
import Derived.Test.YtdpblimhfmfbnaaRows
import Derived.Test.YtdpblimhfmfbnaaChecked
import Derived.Test.YtdpblimhfmfbnaaZsa
import Derived.Test.YtdpblimhfmfbnaaZsd
import Derived.Deep.QuietTactic
import Derived.BigQuiet
import Derived.Deep.RegionWith
import Derived.Deep.RegionHeld3
import Derived.Deep.DeepCutAuto
import Derived.Deep.DeepFit
import Derived.Outline
import Derived.Test.YtdpblimhfmfbnaaZsf
set_option linter.unusedVariables false
set_option linter.unusedSimpArgs false
namespace Go.Proofs.Ytdpblimhfmfbnaa
open Go.ChangeShapes Go.WideShapes Go.ChangeAt Go.RowKit Go.Deep
end Go.Proofs.Ytdpblimhfmfbnaa
namespace Go.Proofs.Ytdpblimhfmfbnaa
open Go.ChangeShapes Go.WideShapes Go.ChangeAt Go.RowKit Go.Deep
theorem opi_wf {n : Int} (h : (Lit.int .i64 n).wf = true) : I64' n := by
 have := bounds_i64 h
 unfold I64'; omega
theorem op_int {H : Type} {enc : TypeId × Value → H} {w : World} {base : Nat} {spare : Nat → Bool} {held : Bool} {fuel : Nat} {x : DataW H × List MemPlace} {v : Value} (hf : DataW.trod enc Try.prog w base spare held fuel 3 [v] = some x) : ∃ z : Int, v = .int .i64 z ∧ I64' z := by
 obtain ⟨x0, e0, _, w0⟩ := DataW.trod_int Try.underlying3 hf
 simp at e0
 exact ⟨x0, e0, opi_wf w0⟩
end Go.Proofs.Ytdpblimhfmfbnaa
namespace Go.Proofs.Ytdpblimhfmfbnaa
open Go.ChangeShapes Go.WideShapes Go.ChangeAt Go.RowKit
def ctL : List Int := [2, 1, 3, 5, 0, 0, 2, 1, 6, 0, 0, 0, 2, 1, 0, 3, 2, 0]
def ctS (c t : Nat) : Int := ctL.getD (c * 6 + t) 0
section
variable {H : Type} {enc : TypeId × Value → H} {w : World} {base : Nat} {sp : Nat → Bool} {held : Bool}
end
end Go.Proofs.Ytdpblimhfmfbnaa
namespace Go.Proofs.Ytdpblimhfmfbnaa
open Go.RowKit
def opB (c t : Nat) : Bool := decide (0 < ctS c t)
end Go.Proofs.Ytdpblimhfmfbnaa
namespace Go.Proofs.Ytdpblimhfmfbnaa
open Go.RowKit
def opn (W : Int) (xs : List Int) (bs : List Bd) (c k : Nat) : Bool := opB c (xs.getD k 0).toNat && !(cvB W bs k)
end Go.Proofs.Ytdpblimhfmfbnaa
namespace Go.Proofs.Ytdpblimhfmfbnaa
open Go.RowKit
end Go.Proofs.Ytdpblimhfmfbnaa
