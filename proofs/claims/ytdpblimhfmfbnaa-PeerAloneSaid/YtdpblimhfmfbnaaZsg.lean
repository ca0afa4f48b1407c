import Derived.Shelf.Abstract
import Derived.Deep.QuietTactic
import Derived.BigQuiet
import Derived.Deep.RegionWith
import Derived.Deep.RegionHeld3
import Derived.Deep.DeepCutAuto
import Derived.Deep.DeepFit
import Derived.Outline
import Derived.Test.YtdpblimhfmfbnaaZsf
import Derived.Test.YtdpblimhfmfbnaaZsd
set_option linter.unusedVariables false
set_option linter.unusedSimpArgs false
namespace Go.Proofs.Ytdpblimhfmfbnaa
open Go.RowKit Go.Deep
open Classical in
noncomputable def addE (W H : Int) (n : Nat) (xs : List Int) (bs : List Bd) (b : Bd) : Int :=
 if MOk W H n xs bs then
  (if fmB b = false then 1 else if inB W H b = false then 3 else
   if (∃ k, k < bs.length ∧ (bs.getD k default).i = b.i) ∨ (undL W b).any (fun t => cvB W bs t) = true then 12 else
   if frB W xs b = false then 5 else if bs.length = 256 then 4 else 0)
 else 1
def insB : List Bd → Bd → List Bd
 | [], b => [b]
 | a :: bs, b => if a.i < b.i then a :: insB bs b else b :: a :: bs
end Go.Proofs.Ytdpblimhfmfbnaa
namespace Go.Proofs.Ytdpblimhfmfbnaa
open Go.RowKit
def ctE (W H : Int) (n : Nat) (xs : List Int) (t : Int) : Int := if gB W H n xs = true then (if 0 ≤ t ∧ t < W * H then 0 else 3) else 1
end Go.Proofs.Ytdpblimhfmfbnaa
namespace Go.Proofs.Ytdpblimhfmfbnaa
open Go.RowKit
end Go.Proofs.Ytdpblimhfmfbnaa
namespace Go.Proofs.Ytdpblimhfmfbnaa
open Go.RowKit
end Go.Proofs.Ytdpblimhfmfbnaa
namespace Go.Proofs.Ytdpblimhfmfbnaa
open Go.RowKit
end Go.Proofs.Ytdpblimhfmfbnaa
namespace Go.Proofs.Ytdpblimhfmfbnaa
open Go.RowKit
end Go.Proofs.Ytdpblimhfmfbnaa
