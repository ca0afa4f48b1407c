import Derived.Test.YtdpblimhfmfbnaaZsr
import Derived.Test.YtdpblimhfmfbnaaZsp
import Derived.Deep.RegionHeld3
import Derived.Deep.RegionWith
import Derived.Test.YtdpblimhfmfbnaaZsq
import Derived.ProofKit
import Derived.OpenShut
import Derived.ShutString
import Derived.ChangeOld
import Derived.Below
import Derived.Deep.Slices
import Derived.Deep.Fields
import Derived.ChangeSame
set_option linter.unusedVariables false
set_option linter.unusedSimpArgs false
namespace Go.Proofs.Ytdpblimhfmfbnaa
open Go.RowKit
end Go.Proofs.Ytdpblimhfmfbnaa
namespace Go.Proofs.Ytdpblimhfmfbnaa
open Go.RowKit
end Go.Proofs.Ytdpblimhfmfbnaa
namespace Go.Proofs.Ytdpblimhfmfbnaa
open Go.RowKit
end Go.Proofs.Ytdpblimhfmfbnaa
namespace Go.Proofs.Ytdpblimhfmfbnaa
open Go.RowKit
end Go.Proofs.Ytdpblimhfmfbnaa
namespace Go.Proofs.Ytdpblimhfmfbnaa
open Go.RowKit
end Go.Proofs.Ytdpblimhfmfbnaa
namespace Go.Proofs.Ytdpblimhfmfbnaa
open Go.ChangeShapes Go.WideShapes Go.ChangeAt Go.RowKit Go.Deep
def Asks (w : World) (a : Option Addr) (len cap : Nat) : Prop :=
 len ≤ cap ∧ cap ≤ 9223372036854775807 ∧ ∀ i, i < len → ∃ (b off : Nat) (x y z : Int), a = some ⟨b, off, none⟩ ∧ b < w.heap.size ∧ Fx.I64 x ∧ Fx.I64 y ∧ Fx.I64 z ∧
  w.cell? ⟨b, off + i * 3, none⟩ = some (.int .i64 x) ∧ w.cell? ⟨b, off + i * 3 + 1, none⟩ = some (.int .i64 y) ∧ w.cell? ⟨b, off + i * 3 + 2, none⟩ = some (.int .i64 z)
theorem up {P : Program} {F : FuncId} {args : Array Value} {w w0 : World} {r : Ending} (h : Calls P F args w fun e w' => e = r ∧ Below w.heap.size w w') (hB : Fx.Hd (Below w0.heap.size w0 w)) :
  Calls P F args w fun e w' => e = r ∧ Fx.Hd (Below w0.heap.size w0 w') :=
 h.mono fun e w' ⟨h1, h2⟩ => ⟨h1, ⟨hB.out.trans (h2.mono hB.out.size)⟩⟩
end Go.Proofs.Ytdpblimhfmfbnaa
