import Derived.ArgAppend
import Derived.Deep.QuietTactic
import Derived.BigQuiet
import Derived.Deep.RegionWith
import Derived.Deep.RegionHeld3
import Derived.Deep.DeepCutAuto
import Derived.Deep.DeepFit
import Derived.Outline
import Derived.Test.YtdpblimhfmfbnaaGreatZve
import Derived.Test.YtdpblimhfmfbnaaGreatZvi
import Derived.Test.YtdpblimhfmfbnaaGreatZvb
import Derived.Test.YtdpblimhfmfbnaaGreatZvf
import Derived.ProofKit
import Derived.LaidMore
import Derived.OpenShut
import Derived.Stop.Joined
import Derived.WalkKit
import Derived.WalkLawsBesides
import Derived.WalkSpells
import Derived.Test.YtdpblimhfmfbnaaGreatRows
import Derived.Test.YtdpblimhfmfbnaaGreatChecked
import Derived.Test.YtdpblimhfmfbnaaGreatZva
import Derived.Test.YtdpblimhfmfbnaaGreatZvg
set_option linter.unusedVariables false
set_option linter.unusedSimpArgs false
namespace Go.Proofs.YtdpblimhfmfbnaaGreat
open Go.RowKit
theorem Arr.nq {w : World} {g n B : Nat} {T : TypeId} {F : Nat → Int} (h : Arr w g n T (fun k => .int .i64 (F k))) (hg : g < B) : Nq w B (some ⟨g, 0, none⟩) n ((List.range n).map F) :=
 ⟨by simp, fun hn => ⟨g, 0, rfl, hg, fun k hk => by rw [Nat.zero_add, h.cell hk]; simp [List.getD, hk]⟩⟩
end Go.Proofs.YtdpblimhfmfbnaaGreat
namespace Go.Proofs.YtdpblimhfmfbnaaGreat
open Go.ChangeShapes Go.WideShapes Go.ChangeAt Go.RowKit Go.Deep
end Go.Proofs.YtdpblimhfmfbnaaGreat
namespace Go.Proofs.YtdpblimhfmfbnaaGreat
open Go.ChangeShapes Go.WideShapes Go.ChangeAt Go.RowKit Go.Deep
end Go.Proofs.YtdpblimhfmfbnaaGreat
namespace Go.Proofs.YtdpblimhfmfbnaaGreat
open Go.ChangeShapes Go.WideShapes Go.ChangeAt Go.RowKit
def ctL : List Int := [2, 1, 3, 5, 0, 0, 2, 1, 6, 0, 0, 0, 2, 1, 0, 3, 2, 0]
def ctS (c t : Nat) : Int := ctL.getD (c * 6 + t) 0
section
variable {H : Type} {enc : TypeId × Value → H} {w : World} {base : Nat} {sp : Nat → Bool} {held : Bool}
end
end Go.Proofs.YtdpblimhfmfbnaaGreat
namespace Go.Proofs.YtdpblimhfmfbnaaGreat
open Go.RowKit
def opB (c t : Nat) : Bool := decide (0 < ctS c t)
end Go.Proofs.YtdpblimhfmfbnaaGreat
namespace Go.Proofs.YtdpblimhfmfbnaaGreat
open Go.RowKit
def opn (W : Int) (xs : List Int) (bs : List Bd) (c k : Nat) : Bool := opB c (xs.getD k 0).toNat && !(cvB W bs k)
end Go.Proofs.YtdpblimhfmfbnaaGreat
